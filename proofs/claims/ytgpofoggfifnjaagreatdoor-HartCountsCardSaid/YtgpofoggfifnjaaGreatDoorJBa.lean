/-
Layer 16: begin, plain parts.
-/
import Derived.Test.YtgpofoggfifnjaaGreatDoorJAz
import Derived.Test.YtgpofoggfifnjaaGreatDoorJAe
namespace Go.Proofs.YtgpofoggfifnjaaGreatDoor.Ha
open Go Go.RowKit
open Go.Proofs.YtgpofoggfifnjaaGreatDoor (opOf inR stM ldV stB RamP RefP mem0 pnew_any store_any rstore_any mP erI)
open Go.Proofs.YtgpofoggfifnjaaGreatDoor.Cs (St st0_ok upd upd_same upd_other dueC trapC tickC readC writeC writeC_ok protC protC_ok CsrOK Only S1 SR Ref hP one_new new_stepS cell_heap cell_far)
open Go.Proofs.YtgpofoggfifnjaaGreatDoor.Pm (En SlE wp_fresh)

/-- the reference's hart -/
def qV (x : Nat → Nat) (pc h r : Nat) (i : Nat) : Value :=
  if i < 32 then .int .i64 (x i : Int) else if i = 32 then .int .i64 (pc : Int) else if i = 33 then .pointer (some ⟨h, 0, none⟩) else .pointer (some ⟨r, 0, none⟩)
theorem qV_x (x : Nat → Nat) (pc h r : Nat) (i : Nat) (hi : i < 32) : qV x pc h r i = .int .i64 (x i : Int) := if_pos hi
section
variable {w w' : World} {q pc h r : Nat} {x : Nat → Nat}
theorem qhart_pc (H : Has w q 76 (tab 35 (qV x pc h r))) (pc' : Nat) : Has (w.setCell ⟨q, 32, none⟩ (.int .i64 (pc' : Int))) q 76 (tab 35 (qV x pc' h r)) := by
  have h1 := H.set 32 (.int .i64 (pc' : Int))
  rw [tab_set] at h1
  rw [tab_ext _ _ (qV x pc' h r) fun j hj => ?_] at h1
  · exact h1
  · by_cases e : j = 32
    · subst e; rfl
    · rw [if_neg e]; unfold qV; simp only [e, if_false]
theorem qhart_x (H : Has w q 76 (tab 35 (qV x pc h r))) (k v : Nat) (hk : k < 32) : Has (w.setCell ⟨q, k, none⟩ (.int .i64 (v : Int))) q 76 (tab 35 (qV (upd x k v) pc h r)) := by
  have h1 := H.set k (.int .i64 (v : Int))
  rw [tab_set] at h1
  rw [tab_ext _ _ (qV (upd x k v) pc h r) fun j hj => ?_] at h1
  · exact h1
  · by_cases e : j = k
    · subst e; rw [if_pos rfl, qV_x _ _ _ _ _ hk, upd_same]
    · rw [if_neg e]
      unfold qV
      by_cases hh : j < 32
      · rw [if_pos hh, if_pos hh, upd_other _ _ e]
      · rw [if_neg hh, if_neg hh]
end
/-- the registers of the machine, at the beginning -/
def wrS (s : St) (l : List (Nat × Nat)) : St := l.foldl (fun s c => (writeC s c.1 c.2).getD s) s
def begS (a : Sta) : St := if a.user = true then { wrS (protC Cs.st0 a.l) a.cs with mode := 0 } else wrS (protC Cs.st0 a.l) a.cs
theorem wrS_up (s : St) (l : List (Nat × Nat)) (i : Nat) (hi : i < l.length) : wrS s (l.take (i + 1)) = (writeC (wrS s (l.take i)) (l.getD i (0, 0)).1 (l.getD i (0, 0)).2).getD (wrS s (l.take i)) := by
  have ht : l.take (i + 1) = l.take i ++ [l.getD i (0, 0)] := by
    rw [List.take_add_one, List.getD_eq_getElem?_getD, List.getElem?_eq_getElem hi]
    rfl
  unfold wrS
  rw [ht, List.foldl_append]
  rfl
/-- what begin answers -/
def BegO (Is : World → Nat → St → Prop) (w : World) (a : Sta) (e : Ending) (w' : World) : Prop :=
  ∃ pp p q g gm x m, e = .returned (hP pp) ∧ Has w' pp 34 #[hP p, hP q] ∧ Has w' p 48 (tab 35 (hV x ((2147487744 + a.pc) % L32) g (some gm))) ∧ Is w' g (begS a) ∧ RamP w' gm m ∧ x 0 = 0 ∧ (∀ i, x i < L32) ∧
    (p ≠ g ∧ p ≠ gm ∧ g ≠ gm ∧ pp ≠ p ∧ pp ≠ g ∧ pp ≠ gm) ∧ (w.heap.size ≤ pp ∧ w.heap.size ≤ p ∧ w.heap.size ≤ g ∧ w.heap.size ≤ gm) ∧ Below w.heap.size w w'
theorem zero35 (h r : Nat) : (#[.int .i64 0, .int .i64 0, .int .i64 0, .int .i64 0, .int .i64 0, .int .i64 0, .int .i64 0, .int .i64 0, .int .i64 0, .int .i64 0, .int .i64 0, .int .i64 0, .int .i64 0, .int .i64 0, .int .i64 0, .int .i64 0, .int .i64 0, .int .i64 0, .int .i64 0, .int .i64 0, .int .i64 0, .int .i64 0, .int .i64 0, .int .i64 0, .int .i64 0, .int .i64 0, .int .i64 0, .int .i64 0, .int .i64 0, .int .i64 0, .int .i64 0, .int .i64 0, .int .i64 0, .pointer (some ⟨h, 0, none⟩), .pointer (some ⟨r, 0, none⟩)] : Array Value) = tab 35 (qV (fun _ => 0) 0 h r) := rfl
theorem at_w (b o n c j : Nat) (hj : (j : Int) < (n : Int)) (w : World) : (Instr.indexAt 22 (.slice (some ⟨b, o, none⟩) n c) (.int .i64 (j : Int))).run Tryz.prog w = .ok (.pointer (some ⟨b, o + j, none⟩)) w := by
  have h2 := Addr.add_mid b o j
  go_simp
theorem at_pr (b o n c j : Nat) (hj : (j : Int) < (n : Int)) (w : World) : (Instr.indexAt 23 (.slice (some ⟨b, o, none⟩) n c) (.int .i64 (j : Int))).run Tryz.prog w = .ok (.pointer (some ⟨b, o + j * 2, none⟩)) w := by
  have h2 := Addr.add_mid b o (j * 2)
  go_simp
end Go.Proofs.YtgpofoggfifnjaaGreatDoor.Ha
