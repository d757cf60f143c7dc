/-
Layer 15: a map of numbers by numbers: what it holds, looking up, putting.
Layer 15: the registers as plain data; the reference's file of registers: New.
Layer 15: what may change beside a set of blocks; a write of a register as plain data; the reference's cells behind a store.
-/
import Derived.Test.YtgpofoggfifnjaaGreatDoorJAa
import Derived.Test.YtgpofoggfifnjaaGreatDoorJAb
import Derived.Maps.OwnSet
import Derived.Maps.RangeWalk
import Derived.Deep.QuietTactic
import Derived.Lib.Hide
import Derived.Deep.DeepCutAuto
namespace Go.Proofs.YtgpofoggfifnjaaGreatDoor.Cs
open Go Go.RowKit
open Go.Maps (Keyed)

theorem keyI : Keyed Tryz.prog 3 := Maps.int_keyed Tryz.underlying3
theorem zeroI (w : World) : (zeroValue 3).run Tryz.prog w = .ok (.int .i64 0) w := by kernel_rfl
theorem wfI {t : Nat} (h : t < 4294967296) : (Lit.int .i64 (t : Int)).wf = true := by
  have h1 : IntKind.i64.min ≤ (t : Int) := by rw [show IntKind.i64.min = -9223372036854775808 from rfl]; omega
  have h2 : (t : Int) ≤ IntKind.i64.max := by rw [show IntKind.i64.max = 9223372036854775807 from rfl]; omega
  show (decide (IntKind.i64.min ≤ (t : Int)) && decide ((t : Int) ≤ IntKind.i64.max)) = true
  rw [decide_eq_true h1, decide_eq_true h2]
  rfl
theorem keyAtI {t : Nat} (h : t < 4294967296) : keyOf Tryz.prog 3 (.int .i64 (t : Int)) = some (.int .i64 (t : Int)) := Maps.keyOf_int_mk Tryz.underlying3 (wfI h)
abbrev kAd (x : Nat) : Lit := .int .i64 (x : Int)
abbrev ilit (v : Nat) : DataW Unit := .lit (.int .i64 (v : Int))
/-- a number's place is changed -/
def upd {α : Type} (f : Nat → α) (k : Nat) (v : α) (j : Nat) : α := if j = k then v else f j
theorem upd_same {α : Type} (f : Nat → α) (k : Nat) (v : α) : upd f k v k = v := if_pos rfl
theorem upd_other {α : Type} (f : Nat → α) {k j : Nat} (v : α) (h : j ≠ k) : upd f k v j = f j := if_neg h
/-- what the map says -/
structure MapR (D : DataW Unit) (R : Nat → Option Nat) : Prop where
  keys : ∀ k, Maps.has D k = true → ∃ x, x < 4294967296 ∧ k = kAd x
  has : ∀ x, x < 4294967296 → Maps.has D (kAd x) = (R x).isSome
  vals : ∀ x v, x < 4294967296 → R x = some v → v < 4294967296 ∧ D.atKey (kAd x) (ilit 0) = ilit v
/-- the map in block g holds R, with at most c entries -/
def MpR (w : World) (g : Nat) (R : Nat → Option Nat) (c : Nat) : Prop :=
  ∃ n, ∃ D : DataW Unit, w.ownsMap Tryz.prog 3 (plainElem Tryz.prog 3) g n D ∧ Maps.size D ≤ c ∧ MapR D R
theorem own_tight {w : World} {k : TypeId} {R : Value → Option (DataW Unit × List MemPlace)} {b n n' : Nat} {D : DataW Unit} (h : w.ownsMap Tryz.prog k R b n D) (hn : Maps.size D ≤ n') : w.ownsMap Tryz.prog k R b n' D := by
  obtain ⟨es, clock, hb, F, _, rfl⟩ := h
  exact ⟨es, clock, hb, F, by simpa [Maps.size, length_sorted] using hn, rfl⟩
section
variable {w w' : World} {g c : Nat} {R : Nat → Option Nat}
theorem MpR.lt (h : MpR w g R c) : g < w.heap.size := by obtain ⟨n, D, h1, _⟩ := h; exact h1.lt
theorem MpR.kept {r : Option Nat} (h : MpR w g R c) (k : w.grownBy w' r) (hne : some g ≠ r) : MpR w' g R c := by
  obtain ⟨n, D, h1, h2, h3⟩ := h
  exact ⟨n, D, h1.kept k hne, h2, h3⟩
theorem MpR.after (h : MpR w g R c) (k : Below w.heap.size w w') : MpR w' g R c := h.kept (only_below k none) (by simp)
theorem MpR.has_ne {t : TypeId} {cs : Array Value} {g' : Nat} (h : MpR w g R c) (hG : Has w g' t cs) : g ≠ g' := by
  rintro rfl
  obtain ⟨n, D, ⟨es, cl, hb, _⟩, _⟩ := h
  rw [show w.heap[g]? = _ from hG] at hb
  cases hb
theorem MpR.congr {R' : Nat → Option Nat} (h : MpR w g R c) (he : ∀ j, j < 4294967296 → R j = R' j) : MpR w g R' c := by
  obtain ⟨n, D, h1, h2, h3⟩ := h
  exact ⟨n, D, h1, h2, h3.keys, fun x hx => by rw [h3.has x hx, he x hx], fun x v hx hv => h3.vals x v hx (by rw [he x hx]; exact hv)⟩
theorem MpR.new (w : World) : MpR (w.alloc (.map #[] 0)) w.heap.size (fun _ => none) 0 :=
  ⟨0, .map [], World.ownsMap_made _ _ _ _, Nat.le_refl _, fun _ h => (by cases h), fun _ _ => rfl, fun _ _ _ h => (by cases h)⟩
theorem MpR.setCell {a : Addr} (h : MpR w g R c) (ha : g ≠ a.block) (u : Value) : MpR (w.setCell a u) g R c := by
  obtain ⟨n, D, h1, h2, h3⟩ := h
  exact ⟨n, D, h1.setCell ha u, h2, h3⟩
theorem MpR.drewN (h : MpR w g R c) (k : Nat) : MpR (w.drewN k) g R c := h.kept (only_drewN w k none) (by simp)
set_option maxRecDepth 100000 in
theorem MpR.look_ok (h : MpR w g R c) {t : Nat} (ht : t < 4294967296) : (Instr.lookup 80 (.map (some g)) (.int .i64 (t : Int)) true).run Tryz.prog w = .ok (.tuple #[.int .i64 (((R t).getD 0 : Nat) : Int), .bool (R t).isSome]) w := by
  obtain ⟨n, D, h1, h2, h3⟩ := h
  have hz0 : plainElem (H := Unit) Tryz.prog 3 (.int .i64 0) = some (ilit 0, []) := plainElem_int Tryz.underlying3 (wfI (t := 0) (by decide))
  obtain ⟨v, ps, hr, hv⟩ := h1.look_ok keyI Tryz.underlying80 (zeroI w) hz0 (keyAtI (t := t) ht)
  have h5 := h3.has t ht
  have h4 : D.atKey (kAd t) (ilit 0) = ilit ((R t).getD 0) := by
    cases hR : R t with
    | none => rw [hR] at h5; exact Maps.atKey_of_not_has h5 _
    | some v => exact (h3.vals t v ht hR).2
  rw [show kAd t = .int .i64 (t : Int) from rfl] at h4 h5
  rw [h4] at hv
  obtain ⟨cc, rfl, hc, _⟩ := plainElem_int_inv Tryz.underlying3 hv
  simp only [Prod.mk.injEq] at hc
  have hc1 := hc.1
  injection hc1 with hc1
  injection hc1 with _ hc1
  rw [hr, h5, ← hc1]
/-- a number is put into the map -/
theorem wp_mapput {ops : Array Oper} {rest : List Oper} {op : Oper} {a : Act} {Q : Exit → Act → World → Prop} (hgd : op.guard = none) (mo x v : Operand) (ho : op.op = .mapUpdate 80 mo x v)
    (hm : a.eval mo = .map (some g)) (h : MpR w g R c) (t y : Nat) (hx : a.eval x = .int .i64 (t : Int)) (hv : a.eval v = .int .i64 (y : Int)) (ht : t < 4294967296) (hy : y < 4294967296) (hl : c ≤ 1000000) (c' : Nat) (hc' : c + (if (R t).isSome then 0 else 1) ≤ c')
    (hK : ∀ w', MpR w' g (upd R t (some y)) c' → w.grownBy w' (some g) → wpList Tryz.prog ops Q rest (a.put op.dst undef) w') : wpList Tryz.prog ops Q (op :: rest) a w := by
  obtain ⟨n, D, h1, h2, h3⟩ := h
  have h1t := own_tight h1 h2
  refine wpList_mapUpdate_own _ hgd mo x v 80 ho 3 3 keyI Tryz.underlying80 (plainElem Tryz.prog 3) g c D hm h1t (by unfold maxLen; omega) _ _ (.int .i64 (t : Int)) hx hv (keyAtI ht) (ilit y) [] (plainElem_int Tryz.underlying3 (wfI hy)) ?_
  intro w' h1' hgr
  have hD := h1.isMap
  have hk := keyI.key (keyAtI ht)
  refine hK w' ⟨c + 1, _, h1', ?_, fun k hk => ?_, fun s hs => ?_, fun s u hs hu => ?_⟩ hgr
  · rw [Maps.size_put (h1.tidy keyI)]
    have h5 := h3.has t ht
    rw [show kAd t = .int .i64 (t : Int) from rfl] at h5
    rw [h5]
    split
    · rename_i hh; rw [if_pos hh] at hc'; omega
    · rename_i hh; rw [if_neg hh] at hc'; omega
  · by_cases hkt : k = kAd t
    · exact ⟨t, ht, hkt⟩
    · rw [Maps.has_put_other hkt] at hk
      exact h3.keys k hk
  · by_cases hst : s = t
    · subst hst
      rw [upd_same]
      exact Maps.has_put_same hD hk _
    · have hne : kAd s ≠ kAd t := fun e => by injection e with _ e; omega
      rw [upd_other _ _ hst, Maps.has_put_other hne]
      exact h3.has s hs
  · by_cases hst : s = t
    · subst hst
      rw [upd_same] at hu
      injection hu with hu
      subst hu
      exact ⟨hy, Maps.atKey_put_same hD hk _ _⟩
    · have hne : kAd s ≠ kAd t := fun e => by injection e with _ e; omega
      rw [upd_other _ _ hst] at hu
      have h6 := h3.vals s u hs hu
      exact ⟨h6.1, (Maps.atKey_put_other hne _ _).trans h6.2⟩
end
end Go.Proofs.YtgpofoggfifnjaaGreatDoor.Cs
namespace Go.Proofs.YtgpofoggfifnjaaGreatDoor.Cs
open Go Go.RowKit

/-- what a file of registers holds -/
structure St where
  mode : Nat
  r : Nat → Nat
  cfg : Nat → Nat
  cyc : Nat
  ret : Nat
structure St.Ok (s : St) : Prop where
  mode : s.mode = 0 ∨ s.mode = 3
  r : ∀ x, s.r x < 4294967296
  cfg : ∀ k, s.cfg k < 256
  cyc : s.cyc < 18446744073709551616
  ret : s.ret < 18446744073709551616
  st : s.r 768 < 8192
  mpp : s.r 768 / 2048 % 4 = 0 ∨ s.r 768 / 2048 % 4 = 3
  bits : ∀ k, s.cfg k / 32 % 4 = 0
def st0 : St := ⟨3, fun _ => 0, fun _ => 0, 0, 0⟩
theorem st0_ok : st0.Ok := ⟨Or.inr rfl, fun _ => (by decide : 0 < 4294967296), fun _ => (by decide : 0 < 256), by decide, by decide, by decide, Or.inl rfl, fun _ => (by decide : 0 / 32 % 4 = 0)⟩
/-- the registers of the map -/
def isK (x : Nat) : Bool := x == 768 || x == 772 || x == 773 || (decide (832 ≤ x) && decide (x ≤ 836)) || (decide (944 ≤ x) && decide (x < 960))
def rM (s : St) (x : Nat) : Option Nat := if isK x = true then some (s.r x) else none
/-- the reference's cells -/
def rV (s : St) (mb : Nat) (i : Nat) : Value :=
  if i = 0 then .int .i64 (s.mode : Int) else if i = 1 then .map (some mb) else if i < 18 then .int .i64 (s.cfg (i - 2) : Int) else if i = 18 then .int .u64 (s.cyc : Int) else .int .u64 (s.ret : Int)
theorem rV_c (s : St) (mb k : Nat) (h : k < 16) : rV s mb (2 + k) = .int .i64 (s.cfg k : Int) := by
  unfold rV
  rw [if_neg (by omega), if_neg (by omega), if_pos (by omega), show 2 + k - 2 = k by omega]
/-- the reference's file: a block, and a map beside it -/
structure Ref (w : World) (h mb : Nat) (s : St) : Prop where
  blk : Has w h 83 (tab 20 (rV s mb))
  map : MpR w mb (rM s) 24
  ok : s.Ok
section
variable {w w' : World} {h mb : Nat} {s : St}
theorem Ref.after (H : Ref w h mb s) (k : Below w.heap.size w w') : Ref w' h mb s := ⟨H.blk.after k, H.map.after k, H.ok⟩
theorem Ref.ne (H : Ref w h mb s) : mb ≠ h := H.map.has_ne H.blk
/-- what another block's change leaves -/
theorem Ref.beside {g : Option Nat} (H : Ref w h mb s) (k : w.grownBy w' g) (h1 : g ≠ some h) (h2 : g ≠ some mb) : Ref w' h mb s :=
  ⟨has_grown H.blk k fun l e => by rintro rfl; exact h1 e, H.map.kept k fun e => h2 e.symm, H.ok⟩
end
def L8 : List Nat := [768, 772, 773, 832, 833, 834, 835, 836]
def R8 (i x : Nat) : Option Nat := if x ∈ L8.take i then some 0 else none
def R16 (i x : Nat) : Option Nat := if x ∈ L8 ∨ (944 ≤ x ∧ x < 944 + i) then some 0 else none
theorem R8_0 : (fun _ => none : Nat → Option Nat) = R8 0 := by funext x; simp [R8]
theorem R8_up (i : Nat) (hi : i < 8) : upd (R8 i) (L8.getD i 0) (some 0) = R8 (i + 1) := by
  funext x
  have ht : L8.take (i + 1) = L8.take i ++ [L8.getD i 0] := by
    rw [List.take_add_one, List.getD_eq_getElem?_getD, List.getElem?_eq_getElem (show i < L8.length from hi)]
    rfl
  unfold upd R8
  rw [ht]
  simp only [List.mem_append, List.mem_singleton]
  by_cases h1 : x = L8.getD i 0
  · rw [if_pos h1, if_pos (Or.inr h1)]
  · rw [if_neg h1]
    by_cases h2 : x ∈ L8.take i
    · rw [if_pos h2, if_pos (Or.inl h2)]
    · rw [if_neg h2, if_neg (by rintro (h | h); exact h2 h; exact h1 h)]
theorem R8_8 : R8 8 = R16 0 := by
  funext x
  unfold R8 R16
  rw [show L8.take 8 = L8 from rfl]
  by_cases h : x ∈ L8
  · rw [if_pos h, if_pos (Or.inl h)]
  · rw [if_neg h, if_neg (by rintro (h1 | h1); exact h h1; omega)]
theorem R16_up (i : Nat) : upd (R16 i) (944 + i) (some 0) = R16 (i + 1) := by
  funext x
  unfold upd R16
  by_cases h1 : x = 944 + i
  · rw [if_pos h1, if_pos (Or.inr (by omega))]
  · rw [if_neg h1]
    by_cases h2 : x ∈ L8 ∨ (944 ≤ x ∧ x < 944 + i)
    · rw [if_pos h2, if_pos (by rcases h2 with h2 | h2; exact Or.inl h2; exact Or.inr (by omega))]
    · rw [if_neg h2, if_neg]
      rintro (h3 | h3)
      · exact h2 (Or.inl h3)
      · exact h2 (Or.inr (by omega))
theorem R16_16 : R16 16 = rM st0 := by
  funext x
  unfold R16 rM st0
  have e : (x ∈ L8 ∨ (944 ≤ x ∧ x < 944 + 16)) ↔ isK x = true := by
    unfold isK L8
    simp only [List.mem_cons, List.not_mem_nil, or_false, Bool.or_eq_true, beq_iff_eq, Bool.and_eq_true, decide_eq_true_eq]
    omega
  by_cases h : isK x = true
  · rw [if_pos h, if_pos (e.2 h)]
  · rw [if_neg h, if_neg (fun h1 => h (e.1 h1))]
def iV (i : Nat) : Value := .int .i64 (L8.getD i 0 : Int)
theorem iV_all : (#[.int .i64 768, .int .i64 772, .int .i64 773, .int .i64 832, .int .i64 833, .int .i64 834, .int .i64 835, .int .i64 836] : Array Value) = tab 8 iV := by kernel_rfl
theorem rV_all (mb : Nat) : (#[.int .i64 3, .map (some mb), .int .i64 0, .int .i64 0, .int .i64 0, .int .i64 0, .int .i64 0, .int .i64 0, .int .i64 0, .int .i64 0, .int .i64 0, .int .i64 0, .int .i64 0, .int .i64 0, .int .i64 0, .int .i64 0, .int .i64 0, .int .i64 0, .int .u64 0, .int .u64 0] : Array Value) = tab 20 (rV st0 mb) := rfl
theorem L8_lt (i : Nat) (hi : i < 8) : L8.getD i 0 < 4294967296 := by
  have : ∀ j, j < 8 → L8.getD j 0 < 4294967296 := by decide
  exact this i hi
theorem at_i8 (b n c j : Nat) (hj : (j : Int) < (n : Int)) (w : World) : (Instr.indexAt 103 (.slice (some ⟨b, 0, none⟩) n c) (.int .i64 (j : Int))).run Tryz.prog w = .ok (.pointer (some ⟨b, j, none⟩)) w := by
  have h2 := Addr.add_mid b 0 j
  rw [Nat.zero_add] at h2
  go_simp
set_option maxRecDepth 100000 in
set_option maxHeartbeats 2000000 in
theorem rnew_any (w : World) :
    Calls Tryz.prog 23 #[] w fun e w' => (∃ h mb, e = .returned (.pointer (some ⟨h, 0, none⟩)) ∧ Ref w' h mb st0 ∧ w.heap.size ≤ h ∧ w.heap.size ≤ mb) ∧ Below w.heap.size w w' := by
  have hM0 := MpR.new w
  have hb0 := (Below.refl w.heap.size w).alloc (Nat.le_refl _) (.map #[] 0)
  have hz0 : (w.alloc (.map #[] 0)).heap.size = w.heap.size + 1 := by simp
  have hmm := @run_makeMap Tryz.prog
  go_enter Tryz.func23, Tryz.ntmps23
  go_upto_region 3 with fail
  rw [rV_all, iV_all]
  have hB1 := Has.new (w.alloc (.map #[] 0)) 83 (tab 20 (rV st0 w.heap.size))
  rw [hz0] at hB1
  have hM1 := hM0.after ((Below.refl _ _).alloc (Nat.le_refl _) (.cells (tab 20 (rV st0 w.heap.size)) 83))
  have hb1 := hb0.alloc (by omega) (.cells (tab 20 (rV st0 w.heap.size)) 83)
  have hz1 : ((w.alloc (.map #[] 0)).alloc (.cells (tab 20 (rV st0 w.heap.size)) 83)).heap.size = w.heap.size + 1 + 1 := by simp
  generalize hw1 : (w.alloc (.map #[] 0)).alloc (.cells (tab 20 (rV st0 w.heap.size)) 83) = w1 at *
  have hL := Has.new w1 3 (tab 8 iV)
  rw [hz1] at hL
  have hB := hB1.after ((Below.refl _ _).alloc (Nat.le_refl _) (.cells (tab 8 iV) 3))
  have hM := hM1.after ((Below.refl _ _).alloc (Nat.le_refl _) (.cells (tab 8 iV) 3))
  have hb := hb1.alloc (by omega) (.cells (tab 8 iV) 3)
  generalize hw2 : w1.alloc (.cells (tab 8 iV) 3) = w2 at *
  clear hw1 hw2 hM0 hb0 hz0 hM1 hb1 hz1 hB1
  have hms : w.heap.size ≤ w.heap.size := Nat.le_refl _
  have hhs : w.heap.size ≤ w.heap.size + 1 := by omega
  have hhm : w.heap.size ≠ w.heap.size + 1 := by omega
  have hlm : w.heap.size ≠ w.heap.size + 1 + 1 := by omega
  have HB := Lib.hid hb
  generalize hgm : w.heap.size = gm at hB hM hL hhm hlm hms hhs ⊢
  generalize hgh : gm + 1 = gh at *
  generalize hgl : gh + 1 = gl at *
  go_wp2_with fail
  go_loopw [3] (fun ct wr => ∃ i : Nat, i ≤ 8 ∧ ct = .int .i64 (i : Int) ∧ MpR wr gm (R8 i) i ∧ w2.grownBy wr (some gm)) (fun ct _ => (8 - (intOf ct)).toNat)
  case atStart => exact ⟨0, Nat.zero_le _, rfl, by rw [← R8_0]; exact hM, World.grownBy.refl _ _⟩
  case round =>
    obtain ⟨i, hi, rfl, hM1, hgr⟩ := hrel
    by_cases hlt : i < 8
    · have hB1 := has_grown hB hgr (fun l e => by injection e with e; omega)
      have hL1 := has_grown hL hgr (fun l e => by injection e with e; omega)
      have hc0 : wr.cell? ⟨gh, 1, none⟩ = some (.map (some gm)) := (hB1.cellTab 1 (by decide))
      have hci : wr.cell? ⟨gl, i, none⟩ = some (iV i) := hL1.cellTab i hlt
      have di : (i : Int) < 8 := by omega
      have hx := fun W => at_i8 gl 8 8 i (by omega) W
      have hup := Lib.hid (R8_up i hlt)
      have HM := Lib.hid hM1
      have HG := Lib.hid hgr
      have hLl := L8_lt i hlt
      unfold iV at hci
      generalize L8.getD i 0 = x at *
      clear hM1 hgr hB1 hL1
      go_upto_region 6 with fail
      refine region_quiet_tail (fun w' => ∃ n, w' = wr.drewN n) 8 (by kernel_rfl) (by kernel_rfl) ⟨1, rfl⟩ ?_
      simp only [List.take_succ_cons, List.take_zero, List.drop_succ_cons, List.drop_zero]
      repeat (quiet_step (fail))
      refine wpQuiet_nil ?_
      rintro w' ⟨nq, rfl⟩
      have hM2 := HM.out.drewN nq
      go_wp2_with (
        refine wp_mapput rfl _ _ _ rfl rfl hM2 x 0 rfl rfl hLl (by decide) (by omega) (i + 1) (by split <;> omega) ?_
        intro w3 hM3 hgr3
        go_frame)
      go_roundw
      case rel =>
        refine ⟨i + 1, hlt, by go_num, ?_, only_trans HG.out (only_trans (only_drewN wr nq _) hgr3)⟩
        rw [← hup.out]
        exact hM3
      case measure => simp [intOf] <;> omega
    · obtain rfl : i = 8 := by omega
      rw [R8_8] at hM1
      have hB1 := has_grown hB hgr (fun l e => by injection e with e; omega)
      have HG := Lib.hid hgr
      clear hgr
      go_wp2_with fail
      go_loopw [4] (fun ct wv => ∃ i : Nat, i ≤ 16 ∧ ct = .int .i64 (i : Int) ∧ MpR wv gm (R16 i) (8 + i) ∧ wr.grownBy wv (some gm)) (fun ct _ => (16 - (intOf ct)).toNat)
      case atStart => exact ⟨0, Nat.zero_le _, rfl, hM1, World.grownBy.refl _ _⟩
      case round =>
        obtain ⟨i, hi, rfl, hM4, hgr4⟩ := hrel
        by_cases hlt : i < 16
        · have hB2 := has_grown hB1 hgr4 (fun l e => by injection e with e; omega)
          have hc0 : wr.cell? ⟨gh, 1, none⟩ = some (.map (some gm)) := (hB2.cellTab 1 (by decide))
          have di : (i : Int) < 16 := by omega
          have e1 : (944 : Int) + (i : Int) = ((944 + i : Nat) : Int) := by omega
          have hup := Lib.hid (R16_up i)
          have HG4 := Lib.hid hgr4
          clear hgr4 hB2
          obtain ⟨x, hx⟩ : ∃ x, x = 944 + i := ⟨_, rfl⟩
          rw [← hx] at e1 hup
          have hxl : x < 4294967296 := by omega
          have HX := Lib.hid hx
          clear hx
          go_wp2_with (
            refine wp_mapput rfl _ _ _ rfl rfl hM4 x 0 rfl rfl hxl (by decide) (by omega) (8 + (i + 1)) (by split <;> omega) ?_
            intro w3 hM3 hgr3
            go_frame)
          go_roundw
          case rel =>
            refine ⟨i + 1, hlt, by go_num, ?_, only_trans HG4.out hgr3⟩
            rw [← hup.out]
            exact hM3
          case measure => simp [intOf] <;> omega
        · obtain rfl : i = 16 := by omega
          rw [R16_16] at hM4
          have hB2 := has_grown hB1 hgr4 (fun l e => by injection e with e; omega)
          go_wp2_with fail
          go_ret
          have hb3 : Below gm w2 _ := below_of_only (only_trans HG.out hgr4) (Nat.le_refl _) (Nat.le_of_lt hM.lt)
          exact ⟨⟨gh, gm, rfl, ⟨hB2, hM4, st0_ok⟩, by rw [hgm]; exact hhs, by rw [hgm]; exact Nat.le_refl _⟩, HB.out.trans (by rw [hgm]; exact hb3)⟩
end Go.Proofs.YtgpofoggfifnjaaGreatDoor.Cs
namespace Go.Proofs.YtgpofoggfifnjaaGreatDoor.Cs
open Go Go.RowKit

/-- only blocks of S have changed, and there may be new ones -/
structure Only (S : Nat → Prop) (w w' : World) : Prop where
  os : w'.os = w.os
  tape : w'.tape = w.tape
  output : w'.output = w.output
  size : w.heap.size ≤ w'.heap.size
  block : ∀ i, i < w.heap.size → ¬ S i → w'.heap[i]? = w.heap[i]?
section
variable {S : Nat → Prop} {w w' w'' : World}
theorem Only.refl (S : Nat → Prop) (w : World) : Only S w w := ⟨rfl, rfl, rfl, Nat.le_refl _, fun _ _ _ => rfl⟩
theorem Only.trans (h : Only S w w') (k : Only S w' w'') : Only S w w'' :=
  ⟨k.os.trans h.os, k.tape.trans h.tape, k.output.trans h.output, Nat.le_trans h.size k.size, fun i hi hn => (k.block i (Nat.lt_of_lt_of_le hi h.size) hn).trans (h.block i hi hn)⟩
theorem Only.of_grown {g : Option Nat} (h : w.grownBy w' g) (hg : ∀ l, g = some l → S l) : Only S w w' :=
  ⟨h.os, h.tape, h.output, h.size, fun i hi hn => h.block i hi (fun e => hn (hg i e.symm))⟩
theorem Only.of_below (h : Below w.heap.size w w') : Only S w w' := ⟨h.os, h.tape, h.output, h.size, fun i hi _ => h.block i hi⟩
theorem Only.drewN (w : World) (n : Nat) : Only S w (w.drewN n) := ⟨rfl, rfl, rfl, Nat.le_refl _, fun _ _ _ => rfl⟩
theorem Only.setCell (w : World) {a : Addr} (hs : S a.block) (v : Value) : Only S w (w.setCell a v) :=
  ⟨rfl, rfl, rfl, by simp [World.setCell], fun i _ hne => Below.heap_setCell w a v i (fun e => hne (by rw [e]; exact hs))⟩
theorem Only.mono {T : Nat → Prop} (h : Only S w w') (hs : ∀ i, S i → T i) : Only T w w' := ⟨h.os, h.tape, h.output, h.size, fun i hi hn => h.block i hi (fun e => hn (hs i e))⟩
theorem Only.below {B : Nat} (h : Only S w w') (hs : ∀ i, S i → B ≤ i) (hB : B ≤ w.heap.size) : Below B w w' :=
  ⟨h.os, h.tape, h.output, h.size, fun i hi => h.block i (Nat.lt_of_lt_of_le hi hB) (fun e => absurd (hs i e) (by omega))⟩
theorem Only.has {g : Nat} {t : TypeId} {cs : Array Value} (h : Only S w w') (H : Has w g t cs) (hg : ¬ S g) : Has w' g t cs := (h.block g H.lt hg).trans H
end
/-- the reference's blocks -/
def SR (h mb : Nat) (i : Nat) : Prop := i = h ∨ i = mb
def cfgB (b : Nat) : Nat := if (b / 128 * 128 + b % 32) % 4 = 2 then b / 128 * 128 + b % 32 - 2 else b / 128 * 128 + b % 32
/-- i bytes of the configuration are written -/
def cfg4 (c : Nat → Nat) (b x i : Nat) (k : Nat) : Nat := if b ≤ k ∧ k < b + i ∧ c k < 128 then cfgB (x / 2 ^ (8 * (k - b)) % 256) else c k
def locked (s : St) (i : Nat) : Bool := decide (128 ≤ s.cfg i) || (decide (i < 15) && decide (128 ≤ s.cfg (i + 1)) && decide (s.cfg (i + 1) / 8 % 4 = 1))
def mppW (x : Nat) : Nat := if x / 2048 % 4 = 1 ∨ x / 2048 % 4 = 2 then 0 else x / 2048 % 4
def stW (x : Nat) : Nat := x / 8 % 2 * 8 + x / 128 % 2 * 128 + mppW x * 2048
def maskR (n x : Nat) : Nat := if n = 768 then stW x else if n = 772 then x / 128 % 2 * 128 else if n = 773 ∨ n = 833 then x - x % 4 else x
/-- a register is written -/
def writeC (s : St) (n x : Nat) : Option St :=
  if n = 769 ∨ n = 836 then some s
  else if n = 2816 then some { s with cyc := s.cyc / 4294967296 * 4294967296 + x }
  else if n = 2944 then some { s with cyc := s.cyc % 4294967296 + x * 4294967296 }
  else if n = 2818 then some { s with ret := s.ret / 4294967296 * 4294967296 + x }
  else if n = 2946 then some { s with ret := s.ret % 4294967296 + x * 4294967296 }
  else if 928 ≤ n ∧ n < 932 then some { s with cfg := cfg4 s.cfg (4 * (n - 928)) x 4 }
  else if isK n = true then (if (decide (944 ≤ n) && decide (n < 960) && locked s (n - 944)) = true then some s else some { s with r := upd s.r n (maskR n x) })
  else none
theorem cfgB_lt (b : Nat) (h : b < 256) : cfgB b < 256 := by unfold cfgB; split <;> omega
theorem cfgB_bits (b : Nat) (_h : b < 256) : cfgB b / 32 % 4 = 0 := by unfold cfgB; split <;> omega
theorem stW_lt (x : Nat) : stW x < 8192 := by unfold stW mppW; split <;> omega
theorem stW_mpp (x : Nat) : stW x / 2048 % 4 = 0 ∨ stW x / 2048 % 4 = 3 := by unfold stW mppW; split <;> omega
theorem maskR_lt (n x : Nat) (h : x < 4294967296) : maskR n x < 4294967296 := by
  have := stW_lt x
  unfold maskR
  repeat' split
  all_goals omega
set_option maxRecDepth 100000 in
theorem writeC_ok (s s' : St) (n x : Nat) (h : s.Ok) (hx : x < 4294967296) (hw : writeC s n x = some s') : s'.Ok := by
  have h1 := h.cyc
  have h2 := h.ret
  unfold writeC at hw
  split at hw
  · injection hw with hw; rw [← hw]; exact h
  split at hw
  · injection hw with hw; rw [← hw]; exact ⟨h.mode, h.r, h.cfg, by dsimp only; omega, h.ret, h.st, h.mpp, h.bits⟩
  split at hw
  · injection hw with hw; rw [← hw]; exact ⟨h.mode, h.r, h.cfg, by dsimp only; omega, h.ret, h.st, h.mpp, h.bits⟩
  split at hw
  · injection hw with hw; rw [← hw]; exact ⟨h.mode, h.r, h.cfg, h.cyc, by dsimp only; omega, h.st, h.mpp, h.bits⟩
  split at hw
  · injection hw with hw; rw [← hw]; exact ⟨h.mode, h.r, h.cfg, h.cyc, by dsimp only; omega, h.st, h.mpp, h.bits⟩
  split at hw
  · injection hw with hw
    rw [← hw]
    refine ⟨h.mode, h.r, fun k => ?_, h.cyc, h.ret, h.st, h.mpp, fun k => ?_⟩
    · show cfg4 _ _ _ _ _ < _
      unfold cfg4
      split
      · exact cfgB_lt _ (Nat.mod_lt _ (by decide))
      · exact h.cfg k
    · show cfg4 _ _ _ _ _ / _ % _ = _
      unfold cfg4
      split
      · exact cfgB_bits _ (Nat.mod_lt _ (by decide))
      · exact h.bits k
  split at hw
  · split at hw
    · injection hw with hw; rw [← hw]; exact h
    · injection hw with hw
      rw [← hw]
      have hm := maskR_lt n x hx
      refine ⟨h.mode, fun k => ?_, h.cfg, h.cyc, h.ret, ?_, ?_, h.bits⟩
      · show upd _ _ _ _ < _
        unfold upd
        split
        · exact hm
        · exact h.r k
      · show upd _ _ _ _ < _
        unfold upd
        split
        · rename_i e; rw [← e]; exact stW_lt x
        · exact h.st
      · show upd _ _ _ _ / _ % _ = _ ∨ upd _ _ _ _ / _ % _ = _
        unfold upd
        split
        · rename_i e; rw [← e]; exact stW_mpp x
        · exact h.mpp
  · cases hw
section
variable {w : World} {h mb : Nat} {s : St}
/-- the reference's block behind a store -/
theorem Ref.put (H : Ref w h mb s) (i : Nat) (v : Value) (s' : St) (hs : ∀ j, j < 20 → (if j = i then v else rV s mb j) = rV s' mb j) (hm : ∀ x, s'.r x = s.r x) (ok : s'.Ok) : Ref (w.setCell ⟨h, i, none⟩ v) h mb s' := by
  refine ⟨?_, ?_, ok⟩
  · have h1 := H.blk.set i v
    rw [tab_set] at h1
    rw [tab_ext _ _ _ hs] at h1
    exact h1
  · have h2 := H.map.setCell (a := ⟨h, i, none⟩) H.ne v
    exact h2.congr fun x _ => by unfold rM; rw [hm]
theorem Ref.cyc (H : Ref w h mb s) (c : Nat) (hc : c < 18446744073709551616) : Ref (w.setCell ⟨h, 18, none⟩ (.int .u64 (c : Int))) h mb { s with cyc := c } :=
  H.put 18 _ _ (fun j hj => by
    by_cases e : j = 18
    · subst e; rfl
    · rw [if_neg e]; unfold rV; simp only [e, if_false]) (fun _ => rfl) ⟨H.ok.mode, H.ok.r, H.ok.cfg, hc, H.ok.ret, H.ok.st, H.ok.mpp, H.ok.bits⟩
theorem Ref.ret (H : Ref w h mb s) (c : Nat) (hc : c < 18446744073709551616) : Ref (w.setCell ⟨h, 19, none⟩ (.int .u64 (c : Int))) h mb { s with ret := c } :=
  H.put 19 _ _ (fun j hj => by
    by_cases e : j = 19
    · subst e; rfl
    · rw [if_neg e]; unfold rV; repeat' split
      all_goals first | rfl | omega) (fun _ => rfl) ⟨H.ok.mode, H.ok.r, H.ok.cfg, H.ok.cyc, hc, H.ok.st, H.ok.mpp, H.ok.bits⟩
theorem Ref.cfg (H : Ref w h mb s) (k b : Nat) (hk : k < 16) (hb : b < 256) (hbb : b / 32 % 4 = 0) : Ref (w.setCell ⟨h, 2 + k, none⟩ (.int .i64 (b : Int))) h mb { s with cfg := upd s.cfg k b } :=
  H.put (2 + k) _ _ (fun j hj => by
    by_cases e : j = 2 + k
    · subst e; rw [if_pos rfl, rV_c _ _ _ hk]; dsimp only; rw [upd_same]
    · rw [if_neg e]; unfold rV
      split
      · rfl
      split
      · rfl
      split
      · dsimp only; rw [upd_other _ _ (by omega)]
      · rfl) (fun _ => rfl) ⟨H.ok.mode, H.ok.r, fun j => by dsimp only; unfold upd; split; exact hb; exact H.ok.cfg j, H.ok.cyc, H.ok.ret, H.ok.st, H.ok.mpp, fun j => by dsimp only; unfold upd; split; exact hbb; exact H.ok.bits j⟩
theorem rM_set (s : St) (x v : Nat) (hx : isK x = true) : upd (rM s) x (some v) = rM { s with r := upd s.r x v } := by
  funext y
  unfold rM
  by_cases e : y = x
  · subst e; rw [upd_same, if_pos hx]; dsimp only; rw [upd_same]
  · rw [upd_other _ _ e]; dsimp only; rw [upd_other _ _ e]
theorem rM_in (s : St) (x : Nat) (hx : isK x = true) : rM s x = some (s.r x) := if_pos hx
/-- the reference's block and its map, behind a put into the map -/
theorem Ref.reg {w' : World} (H : Ref w h mb s) (x v : Nat) (hx : isK x = true) (hM : MpR w' mb (upd (rM s) x (some v)) 24) (k : w.grownBy w' (some mb)) (ok : ({ s with r := upd s.r x v } : St).Ok) : Ref w' h mb { s with r := upd s.r x v } := by
  refine ⟨has_grown H.blk k fun l e => by injection e with e; subst e; exact H.ne.symm, ?_, ok⟩
  rw [← rM_set s x v hx]
  exact hM
end
end Go.Proofs.YtgpofoggfifnjaaGreatDoor.Cs
