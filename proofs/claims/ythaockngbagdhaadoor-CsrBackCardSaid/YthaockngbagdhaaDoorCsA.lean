/-
Layer 15: a map of numbers by numbers: what it holds, looking up, putting.
-/
import Derived.Test.YthaockngbagdhaaDoorMem2
import Derived.Test.YthaockngbagdhaaDoorQw
import Derived.Maps.OwnSet
import Derived.Maps.RangeWalk
namespace Go.Proofs.YthaockngbagdhaaDoor.Cs
open Go Go.RowKit
open Go.Maps (Keyed)

theorem keyI : Keyed Tryd.prog 3 := Maps.int_keyed Tryd.underlying3
theorem zeroI (w : World) : (zeroValue 3).run Tryd.prog w = .ok (.int .i64 0) w := by kernel_rfl
theorem wfI {t : Nat} (h : t < 4294967296) : (Lit.int .i64 (t : Int)).wf = true := by
  have h1 : IntKind.i64.min ≤ (t : Int) := by rw [show IntKind.i64.min = -9223372036854775808 from rfl]; omega
  have h2 : (t : Int) ≤ IntKind.i64.max := by rw [show IntKind.i64.max = 9223372036854775807 from rfl]; omega
  show (decide (IntKind.i64.min ≤ (t : Int)) && decide ((t : Int) ≤ IntKind.i64.max)) = true
  rw [decide_eq_true h1, decide_eq_true h2]
  rfl
theorem keyAtI {t : Nat} (h : t < 4294967296) : keyOf Tryd.prog 3 (.int .i64 (t : Int)) = some (.int .i64 (t : Int)) := Maps.keyOf_int_mk Tryd.underlying3 (wfI h)
abbrev kAd (x : Nat) : Lit := .int .i64 (x : Int)
abbrev ilit (v : Nat) : DataW Unit := .lit (.int .i64 (v : Int))
/-- a number's place is changed -/
def upd {α : Type} (f : Nat → α) (k : Nat) (v : α) (j : Nat) : α := if j = k then v else f j
theorem upd_same {α : Type} (f : Nat → α) (k : Nat) (v : α) : upd f k v k = v := if_pos rfl
theorem upd_other {α : Type} (f : Nat → α) {k j : Nat} (v : α) (h : j ≠ k) : upd f k v j = f j := if_neg h
/-- what the map says -/
structure MapR (D : DataW Unit) (R : Nat → Option Nat) : Prop where
  keys : ∀ k, Maps.has D k = true → ∃ x, x < 4294967296 ∧ k = kAd x
  has : ∀ x, x < 4294967296 → Maps.has D (kAd x) = (R x).isSome
  vals : ∀ x v, x < 4294967296 → R x = some v → v < 4294967296 ∧ D.atKey (kAd x) (ilit 0) = ilit v
/-- the map in block g holds R, with at most c entries -/
def MpR (w : World) (g : Nat) (R : Nat → Option Nat) (c : Nat) : Prop :=
  ∃ n, ∃ D : DataW Unit, w.ownsMap Tryd.prog 3 (plainElem Tryd.prog 3) g n D ∧ Maps.size D ≤ c ∧ MapR D R
theorem own_tight {w : World} {k : TypeId} {R : Value → Option (DataW Unit × List MemPlace)} {b n n' : Nat} {D : DataW Unit} (h : w.ownsMap Tryd.prog k R b n D) (hn : Maps.size D ≤ n') : w.ownsMap Tryd.prog k R b n' D := by
  obtain ⟨es, clock, hb, F, _, rfl⟩ := h
  exact ⟨es, clock, hb, F, by simpa [Maps.size, length_sorted] using hn, rfl⟩
section
variable {w w' : World} {g c : Nat} {R : Nat → Option Nat}
theorem MpR.lt (h : MpR w g R c) : g < w.heap.size := by obtain ⟨n, D, h1, _⟩ := h; exact h1.lt
theorem MpR.kept {r : Option Nat} (h : MpR w g R c) (k : w.grownBy w' r) (hne : some g ≠ r) : MpR w' g R c := by
  obtain ⟨n, D, h1, h2, h3⟩ := h
  exact ⟨n, D, h1.kept k hne, h2, h3⟩
theorem MpR.after (h : MpR w g R c) (k : Below w.heap.size w w') : MpR w' g R c := h.kept (only_below k none) (by simp)
theorem MpR.has_ne {t : TypeId} {cs : Array Value} {g' : Nat} (h : MpR w g R c) (hG : Has w g' t cs) : g ≠ g' := by
  rintro rfl
  obtain ⟨n, D, ⟨es, cl, hb, _⟩, _⟩ := h
  rw [show w.heap[g]? = _ from hG] at hb
  cases hb
theorem MpR.more {c' : Nat} (h : MpR w g R c) (hc : c ≤ c') : MpR w g R c' := by
  obtain ⟨n, D, h1, h2, h3⟩ := h
  exact ⟨n, D, h1, Nat.le_trans h2 hc, h3⟩
theorem MpR.congr {R' : Nat → Option Nat} (h : MpR w g R c) (he : ∀ j, j < 4294967296 → R j = R' j) : MpR w g R' c := by
  obtain ⟨n, D, h1, h2, h3⟩ := h
  exact ⟨n, D, h1, h2, h3.keys, fun x hx => by rw [h3.has x hx, he x hx], fun x v hx hv => h3.vals x v hx (by rw [he x hx]; exact hv)⟩
theorem MpR.new (w : World) : MpR (w.alloc (.map #[] 0)) w.heap.size (fun _ => none) 0 :=
  ⟨0, .map [], World.ownsMap_made _ _ _ _, Nat.le_refl _, fun _ h => (by cases h), fun _ _ => rfl, fun _ _ _ h => (by cases h)⟩
theorem MpR.setCell {a : Addr} (h : MpR w g R c) (ha : g ≠ a.block) (u : Value) : MpR (w.setCell a u) g R c := by
  obtain ⟨n, D, h1, h2, h3⟩ := h
  exact ⟨n, D, h1.setCell ha u, h2, h3⟩
theorem MpR.drewN (h : MpR w g R c) (k : Nat) : MpR (w.drewN k) g R c := h.kept (only_drewN w k none) (by simp)
set_option maxRecDepth 100000 in
theorem MpR.look (h : MpR w g R c) {t : Nat} (ht : t < 4294967296) : (Instr.lookup 57 (.map (some g)) (.int .i64 (t : Int)) false).run Tryd.prog w = .ok (.int .i64 (((R t).getD 0 : Nat) : Int)) w := by
  obtain ⟨n, D, h1, h2, h3⟩ := h
  obtain ⟨v, hr, hv, _⟩ := h1.lookup_int keyI Tryd.underlying57 Tryd.underlying3 (zeroI w) (keyAtI (t := t) ht)
  have h5 := h3.has t ht
  have h4 : D.atKey (kAd t) (ilit 0) = ilit ((R t).getD 0) := by
    cases hR : R t with
    | none => rw [hR] at h5; exact Maps.atKey_of_not_has h5 _
    | some v => exact (h3.vals t v ht hR).2
  unfold kAd ilit at h4
  rw [show ((0 : Nat) : Int) = 0 from rfl] at h4
  rw [h4] at hv
  injection hv with hv
  injection hv with _ hv
  rw [hr, ← hv]
set_option maxRecDepth 100000 in
theorem MpR.look_ok (h : MpR w g R c) {t : Nat} (ht : t < 4294967296) : (Instr.lookup 57 (.map (some g)) (.int .i64 (t : Int)) true).run Tryd.prog w = .ok (.tuple #[.int .i64 (((R t).getD 0 : Nat) : Int), .bool (R t).isSome]) w := by
  obtain ⟨n, D, h1, h2, h3⟩ := h
  have hz0 : plainElem (H := Unit) Tryd.prog 3 (.int .i64 0) = some (ilit 0, []) := plainElem_int Tryd.underlying3 (wfI (t := 0) (by decide))
  obtain ⟨v, ps, hr, hv⟩ := h1.look_ok keyI Tryd.underlying57 (zeroI w) hz0 (keyAtI (t := t) ht)
  have h5 := h3.has t ht
  have h4 : D.atKey (kAd t) (ilit 0) = ilit ((R t).getD 0) := by
    cases hR : R t with
    | none => rw [hR] at h5; exact Maps.atKey_of_not_has h5 _
    | some v => exact (h3.vals t v ht hR).2
  rw [show kAd t = .int .i64 (t : Int) from rfl] at h4 h5
  rw [h4] at hv
  obtain ⟨cc, rfl, hc, _⟩ := plainElem_int_inv Tryd.underlying3 hv
  simp only [Prod.mk.injEq] at hc
  have hc1 := hc.1
  injection hc1 with hc1
  injection hc1 with _ hc1
  rw [hr, h5, ← hc1]
/-- a number is put into the map -/
theorem wp_mapput {ops : Array Oper} {rest : List Oper} {op : Oper} {a : Act} {Q : Exit → Act → World → Prop} (hgd : op.guard = none) (mo x v : Operand) (ho : op.op = .mapUpdate 57 mo x v)
    (hm : a.eval mo = .map (some g)) (h : MpR w g R c) (t y : Nat) (hx : a.eval x = .int .i64 (t : Int)) (hv : a.eval v = .int .i64 (y : Int)) (ht : t < 4294967296) (hy : y < 4294967296) (hl : c ≤ 1000000) (c' : Nat) (hc' : c + (if (R t).isSome then 0 else 1) ≤ c')
    (hK : ∀ w', MpR w' g (upd R t (some y)) c' → w.grownBy w' (some g) → wpList Tryd.prog ops Q rest (a.put op.dst undef) w') : wpList Tryd.prog ops Q (op :: rest) a w := by
  obtain ⟨n, D, h1, h2, h3⟩ := h
  have h1t := own_tight h1 h2
  refine wpList_mapUpdate_own _ hgd mo x v 57 ho 3 3 keyI Tryd.underlying57 (plainElem Tryd.prog 3) g c D hm h1t (by unfold maxLen; omega) _ _ (.int .i64 (t : Int)) hx hv (keyAtI ht) (ilit y) [] (plainElem_int Tryd.underlying3 (wfI hy)) ?_
  intro w' h1' hgr
  have hD := h1.isMap
  have hk := keyI.key (keyAtI ht)
  refine hK w' ⟨c + 1, _, h1', ?_, fun k hk => ?_, fun s hs => ?_, fun s u hs hu => ?_⟩ hgr
  · rw [Maps.size_put (h1.tidy keyI)]
    have h5 := h3.has t ht
    rw [show kAd t = .int .i64 (t : Int) from rfl] at h5
    rw [h5]
    split
    · rename_i hh; rw [if_pos hh] at hc'; omega
    · rename_i hh; rw [if_neg hh] at hc'; omega
  · by_cases hkt : k = kAd t
    · exact ⟨t, ht, hkt⟩
    · rw [Maps.has_put_other hkt] at hk
      exact h3.keys k hk
  · by_cases hst : s = t
    · subst hst
      rw [upd_same]
      exact Maps.has_put_same hD hk _
    · have hne : kAd s ≠ kAd t := fun e => by injection e with _ e; omega
      rw [upd_other _ _ hst, Maps.has_put_other hne]
      exact h3.has s hs
  · by_cases hst : s = t
    · subst hst
      rw [upd_same] at hu
      injection hu with hu
      subst hu
      exact ⟨hy, Maps.atKey_put_same hD hk _ _⟩
    · have hne : kAd s ≠ kAd t := fun e => by injection e with _ e; omega
      rw [upd_other _ _ hst] at hu
      have h6 := h3.vals s u hs hu
      exact ⟨h6.1, (Maps.atKey_put_other hne _ _).trans h6.2⟩
end
end Go.Proofs.YthaockngbagdhaaDoor.Cs
