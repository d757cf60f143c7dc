/-
Layer 16: a start of a machine as plain data, in memory; Small.
Layer 16: begin, plain parts.
-/
import Derived.Test.YtgpofoggfifnjaaGreatDoorJBb
import Derived.Test.YtgpofoggfifnjaaGreatDoorJAe
namespace Go.Proofs.YtgpofoggfifnjaaGreatDoor.Ha
open Go Go.RowKit
open Go.Proofs.YtgpofoggfifnjaaGreatDoor (opOf inR stM ldV stB RamP RefP mem0 pnew_any store_any mP erI)
open Go.Proofs.YtgpofoggfifnjaaGreatDoor.Cs (St st0_ok upd upd_same upd_other dueC trapC tickC readC writeC writeC_ok protC protC_ok CsrOK Only S1 hP one_new)
open Go.Proofs.YtgpofoggfifnjaaGreatDoor.Pm (En SlE wp_fresh)

/-- a start -/
structure Sta where
  ws : List Nat
  xs : List (Nat × Nat)
  l : List En
  user : Bool
  cs : List (Nat × Nat)
  pc : Nat
/-- a slice of words, of pairs of words -/
def SlW (w : World) (q : Pm.Sl) (ws : List Nat) : Prop := ws.length = q.n ∧ Pm.SlC w q 1 (fun j _ => .int .u32 (ws.getD j 0 : Int)) ∧ ∀ x ∈ ws, x < L32
def prV (p : Nat × Nat) (i : Nat) : Value := .int .u32 ((if i = 0 then p.1 else p.2 : Nat) : Int)
def SlX (w : World) (q : Pm.Sl) (xs : List (Nat × Nat)) : Prop := xs.length = q.n ∧ Pm.SlC w q 2 (fun j i => prV (xs.getD j (0, 0)) i) ∧ ∀ p ∈ xs, p.1 < L32 ∧ p.2 < L32
theorem prV_one (p : Nat × Nat) (i : Nat) : (prV p i).oneCell' = true := rfl
theorem SlW.lt {w : World} {q : Pm.Sl} {ws : List Nat} (h : SlW w q ws) (j : Nat) : ws.getD j 0 < L32 := by
  rw [List.getD_eq_getElem?_getD]
  by_cases hj : j < ws.length
  · rw [List.getElem?_eq_getElem hj]; exact h.2.2 _ (List.getElem_mem _)
  · rw [List.getElem?_eq_none (by omega)]; decide
theorem SlX.lt {w : World} {q : Pm.Sl} {xs : List (Nat × Nat)} (h : SlX w q xs) (j : Nat) : (xs.getD j (0, 0)).1 < L32 ∧ (xs.getD j (0, 0)).2 < L32 := by
  rw [List.getD_eq_getElem?_getD]
  by_cases hj : j < xs.length
  · rw [List.getElem?_eq_getElem hj]; exact h.2.2 _ (List.getElem_mem _)
  · rw [List.getElem?_eq_none (by omega)]; decide
/-- the start's slices -/
structure Sls where
  w : Pm.Sl
  x : Pm.Sl
  l : Pm.Sl
  c : Pm.Sl
def staA (a : Sta) (t : Sls) : Array Value := #[t.w.v, t.x.v, t.l.v, .bool a.user, t.c.v, .int .u32 (a.pc : Int)]
structure StaOk (W : World) (a : Sta) (t : Sls) : Prop where
  w : SlW W t.w a.ws
  x : SlX W t.x a.xs
  l : SlE W t.l a.l
  c : SlX W t.c a.cs
  pc : a.pc < L32
theorem StaOk.after {w w' : World} {a : Sta} {t : Sls} (h : StaOk w a t) (k : Below w.heap.size w w') : StaOk w' a t :=
  ⟨⟨h.w.1, h.w.2.1.below k, h.w.2.2⟩, ⟨h.x.1, h.x.2.1.below k, h.x.2.2⟩, h.l.below k, ⟨h.c.1, h.c.2.1.below k, h.c.2.2⟩, h.pc⟩
def smB (t : Sls) : Bool := decide (t.w.n ≤ 300) && decide (t.x.n ≤ 100) && decide (t.l.n ≤ 16) && decide (t.c.n ≤ 100)
set_option maxRecDepth 100000 in
set_option maxHeartbeats 4000000 in
theorem small16_any (a : Sta) (t : Sls) (w : World) : Calls Tryz.prog 8 #[.agg (staA a t)] w fun e w' => e = .returned (.bool (smB t)) ∧ Below w.heap.size w w' := by
  obtain ⟨⟨A0, n0, c0⟩, ⟨A1, n1, c1⟩, ⟨A2, n2, c2⟩, ⟨A3, n3, c3⟩⟩ := t
  obtain ⟨u, hu, hJ, hb0, hz0⟩ := one_new w (staA a ⟨⟨A0, n0, c0⟩, ⟨A1, n1, c1⟩, ⟨A2, n2, c2⟩, ⟨A3, n3, c3⟩⟩) 27
  replace hu := hu.symm
  have q0 : u.cell? ⟨w.heap.size, 0, none⟩ = some (.slice A0 n0 c0) := hJ.cell 0
  have q1 : u.cell? ⟨w.heap.size, 1, none⟩ = some (.slice A1 n1 c1) := hJ.cell 1
  have q2 : u.cell? ⟨w.heap.size, 2, none⟩ = some (.slice A2 n2 c2) := hJ.cell 2
  have q4 : u.cell? ⟨w.heap.size, 4, none⟩ = some (.slice A3 n3 c3) := hJ.cell 4
  have HB := Lib.hid hb0
  obtain ⟨b0, h0⟩ : ∃ b : Bool, decide (n0 ≤ 300) = b := ⟨_, rfl⟩
  obtain ⟨b1, h1⟩ : ∃ b : Bool, decide (n1 ≤ 100) = b := ⟨_, rfl⟩
  obtain ⟨b2, h2⟩ : ∃ b : Bool, decide (n2 ≤ 16) = b := ⟨_, rfl⟩
  obtain ⟨b3, h3⟩ : ∃ b : Bool, decide (n3 ≤ 100) = b := ⟨_, rfl⟩
  have i0 : decide ((n0 : Int) ≤ 300) = b0 := by rw [← h0]; simp; omega
  have i1 : decide ((n1 : Int) ≤ 100) = b1 := by rw [← h1]; simp; omega
  have i2 : decide ((n2 : Int) ≤ 16) = b2 := by rw [← h2]; simp; omega
  have i3 : decide ((n3 : Int) ≤ 100) = b3 := by rw [← h3]; simp; omega
  have hs : smB ⟨⟨A0, n0, c0⟩, ⟨A1, n1, c1⟩, ⟨A2, n2, c2⟩, ⟨A3, n3, c3⟩⟩ = (b0 && b1 && b2 && b3) := by unfold smB; rw [h0, h1, h2, h3]
  rw [hs]
  clear hJ hb0 hz0 hs
  show Calls _ _ #[.agg #[.slice A0 n0 c0, .slice A1 n1 c1, .slice A2 n2 c2, .bool a.user, .slice A3 n3 c3, .int .u32 (a.pc : Int)]] _ _
  change w.alloc (.cells #[.slice A0 n0 c0, .slice A1 n1 c1, .slice A2 n2 c2, .bool a.user, .slice A3 n3 c3, .int .u32 (a.pc : Int)] 27) = u at hu
  cases b0 <;> cases b1 <;> cases b2 <;> cases b3 <;>
  · go_enter Tryz.func8, Tryz.ntmps8
    go_upto_region 1 with fail
    first | rw [hu] | skip
    clear hu
    go_wp2_with fail
    go_ret
    exact ⟨rfl, HB.out⟩
end Go.Proofs.YtgpofoggfifnjaaGreatDoor.Ha
namespace Go.Proofs.YtgpofoggfifnjaaGreatDoor.Ha
open Go Go.RowKit
open Go.Proofs.YtgpofoggfifnjaaGreatDoor (opOf inR stM ldV stB RamP RefP mem0 pnew_any store_any rstore_any mP erI)
open Go.Proofs.YtgpofoggfifnjaaGreatDoor.Cs (St st0_ok upd upd_same upd_other dueC trapC tickC readC writeC writeC_ok protC protC_ok CsrOK Only S1 SR Ref hP one_new new_stepS cell_heap cell_far)
open Go.Proofs.YtgpofoggfifnjaaGreatDoor.Pm (En SlE wp_fresh)

/-- the reference's hart -/
def qV (x : Nat → Nat) (pc h r : Nat) (i : Nat) : Value :=
  if i < 32 then .int .i64 (x i : Int) else if i = 32 then .int .i64 (pc : Int) else if i = 33 then .pointer (some ⟨h, 0, none⟩) else .pointer (some ⟨r, 0, none⟩)
theorem qV_x (x : Nat → Nat) (pc h r : Nat) (i : Nat) (hi : i < 32) : qV x pc h r i = .int .i64 (x i : Int) := if_pos hi
section
variable {w w' : World} {q pc h r : Nat} {x : Nat → Nat}
theorem qhart_pc (H : Has w q 76 (tab 35 (qV x pc h r))) (pc' : Nat) : Has (w.setCell ⟨q, 32, none⟩ (.int .i64 (pc' : Int))) q 76 (tab 35 (qV x pc' h r)) := by
  have h1 := H.set 32 (.int .i64 (pc' : Int))
  rw [tab_set] at h1
  rw [tab_ext _ _ (qV x pc' h r) fun j hj => ?_] at h1
  · exact h1
  · by_cases e : j = 32
    · subst e; rfl
    · rw [if_neg e]; unfold qV; simp only [e, if_false]
theorem qhart_x (H : Has w q 76 (tab 35 (qV x pc h r))) (k v : Nat) (hk : k < 32) : Has (w.setCell ⟨q, k, none⟩ (.int .i64 (v : Int))) q 76 (tab 35 (qV (upd x k v) pc h r)) := by
  have h1 := H.set k (.int .i64 (v : Int))
  rw [tab_set] at h1
  rw [tab_ext _ _ (qV (upd x k v) pc h r) fun j hj => ?_] at h1
  · exact h1
  · by_cases e : j = k
    · subst e; rw [if_pos rfl, qV_x _ _ _ _ _ hk, upd_same]
    · rw [if_neg e]
      unfold qV
      by_cases hh : j < 32
      · rw [if_pos hh, if_pos hh, upd_other _ _ e]
      · rw [if_neg hh, if_neg hh]
end
/-- the registers of the machine, at the beginning -/
def wrS (s : St) (l : List (Nat × Nat)) : St := l.foldl (fun s c => (writeC s c.1 c.2).getD s) s
def begS (a : Sta) : St := if a.user = true then { wrS (protC Cs.st0 a.l) a.cs with mode := 0 } else wrS (protC Cs.st0 a.l) a.cs
theorem wrS_up (s : St) (l : List (Nat × Nat)) (i : Nat) (hi : i < l.length) : wrS s (l.take (i + 1)) = (writeC (wrS s (l.take i)) (l.getD i (0, 0)).1 (l.getD i (0, 0)).2).getD (wrS s (l.take i)) := by
  have ht : l.take (i + 1) = l.take i ++ [l.getD i (0, 0)] := by
    rw [List.take_add_one, List.getD_eq_getElem?_getD, List.getElem?_eq_getElem hi]
    rfl
  unfold wrS
  rw [ht, List.foldl_append]
  rfl
/-- what begin answers -/
def BegO (Is : World → Nat → St → Prop) (w : World) (a : Sta) (e : Ending) (w' : World) : Prop :=
  ∃ pp p q g gm x m, e = .returned (hP pp) ∧ Has w' pp 34 #[hP p, hP q] ∧ Has w' p 48 (tab 35 (hV x ((2147487744 + a.pc) % L32) g (some gm))) ∧ Is w' g (begS a) ∧ RamP w' gm m ∧ x 0 = 0 ∧ (∀ i, x i < L32) ∧
    (p ≠ g ∧ p ≠ gm ∧ g ≠ gm ∧ pp ≠ p ∧ pp ≠ g ∧ pp ≠ gm) ∧ (w.heap.size ≤ pp ∧ w.heap.size ≤ p ∧ w.heap.size ≤ g ∧ w.heap.size ≤ gm) ∧ Below w.heap.size w w'
theorem zero35 (h r : Nat) : (#[.int .i64 0, .int .i64 0, .int .i64 0, .int .i64 0, .int .i64 0, .int .i64 0, .int .i64 0, .int .i64 0, .int .i64 0, .int .i64 0, .int .i64 0, .int .i64 0, .int .i64 0, .int .i64 0, .int .i64 0, .int .i64 0, .int .i64 0, .int .i64 0, .int .i64 0, .int .i64 0, .int .i64 0, .int .i64 0, .int .i64 0, .int .i64 0, .int .i64 0, .int .i64 0, .int .i64 0, .int .i64 0, .int .i64 0, .int .i64 0, .int .i64 0, .int .i64 0, .int .i64 0, .pointer (some ⟨h, 0, none⟩), .pointer (some ⟨r, 0, none⟩)] : Array Value) = tab 35 (qV (fun _ => 0) 0 h r) := rfl
theorem at_w (b o n c j : Nat) (hj : (j : Int) < (n : Int)) (w : World) : (Instr.indexAt 22 (.slice (some ⟨b, o, none⟩) n c) (.int .i64 (j : Int))).run Tryz.prog w = .ok (.pointer (some ⟨b, o + j, none⟩)) w := by
  have h2 := Addr.add_mid b o j
  go_simp
theorem at_pr (b o n c j : Nat) (hj : (j : Int) < (n : Int)) (w : World) : (Instr.indexAt 23 (.slice (some ⟨b, o, none⟩) n c) (.int .i64 (j : Int))).run Tryz.prog w = .ok (.pointer (some ⟨b, o + j * 2, none⟩)) w := by
  have h2 := Addr.add_mid b o (j * 2)
  go_simp
end Go.Proofs.YtgpofoggfifnjaaGreatDoor.Ha
