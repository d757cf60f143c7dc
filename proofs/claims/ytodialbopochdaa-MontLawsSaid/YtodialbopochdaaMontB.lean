/-
The calls of layer 3's statements at a modulus that New rejects (even, or 1): MontLaws, MontPowers, MontMults and MontSums.
-/
import Derived.Test.YtodialbopochdaaMontL
namespace Go.Proofs.Ytodialbopochdaa
open Go.RowKit
attribute [local go_sem] zeroNum zero16 nw1
set_option maxRecDepth 100000 in
set_option maxHeartbeats 1000000 in
theorem laws_bad {Is : World → Nat → Nat → Prop} (H : MontOK Is) (m a b : Nat) (w : World) (hm : m < big) (hbad : m % 2 = 0 ∨ m = 1) :
    Calls Try.prog 7 #[.agg (nums m), .agg (nums a), .agg (nums b)] w fun x w' => x = .returned (.bool true) ∧ Below w.heap.size w w' := by
  have rnew := fun W => H.new_bad m W hm hbad
  have hM : Has (((w.alloc (.cells (nums m) 24)).alloc (.cells (nums a) 24)).alloc (.cells (nums b) 24)) w.heap.size 24 (nums m) := ((Has.new w _ _).alloc _).alloc _
  have hb0 : Below w.heap.size w (((w.alloc (.cells (nums m) 24)).alloc (.cells (nums a) 24)).alloc (.cells (nums b) 24)) := (((Below.refl _ _).alloc (Nat.le_refl _) _).alloc (by simp) _).alloc (by simp <;> omega) _
  clear hbad
  go_enter Try.func7, Try.ntmps7
  go_wp2_with fail
  refine (fit3_any H _).mono ?_
  rintro x w1 ⟨rfl, hx⟩
  replace hM := hM.after hx
  replace hb0 := below_trans hb0 hx
  clear hx
  go_wp2_with (refine wpList_load_has 24 _ rfl _ rfl rfl 24 _ hM _ Try.underlying24 rfl (infoNum _) ?_)
  refine (rnew _).mono ?_
  rintro x w2 ⟨rfl, hx⟩
  replace hb0 := below_trans hb0 hx
  clear hx rnew hM
  go_wp2_with fail
  go_ret
  exact ⟨rfl, hb0⟩
set_option maxRecDepth 100000 in
set_option maxHeartbeats 1000000 in
theorem powers_bad {Is : World → Nat → Nat → Prop} (H : MontOK Is) (m a e : Nat) (w : World) (hm : m < big) (hbad : m % 2 = 0 ∨ m = 1) :
    Calls Try.prog 5 #[.agg (nums m), .agg (nums a), .int .u32 (e : Int)] w fun x w' => x = .returned (.bool true) ∧ Below w.heap.size w w' := by
  have rnew := fun W => H.new_bad m W hm hbad
  have hM : Has ((w.alloc (.cells (nums m) 24)).alloc (.cells (nums a) 24)) w.heap.size 24 (nums m) := (Has.new w _ _).alloc _
  have hb0 : Below w.heap.size w ((w.alloc (.cells (nums m) 24)).alloc (.cells (nums a) 24)) := ((Below.refl _ _).alloc (Nat.le_refl _) _).alloc (by simp) _
  clear hbad
  go_enter Try.func5, Try.ntmps5
  go_wp2_with fail
  refine (fit3_any H _).mono ?_
  rintro x w1 ⟨rfl, hx⟩
  replace hM := hM.after hx
  replace hb0 := below_trans hb0 hx
  clear hx
  go_wp2_with (refine wpList_load_has 24 _ rfl _ rfl rfl 24 _ hM _ Try.underlying24 rfl (infoNum _) ?_)
  refine (rnew _).mono ?_
  rintro x w2 ⟨rfl, hx⟩
  replace hb0 := below_trans hb0 hx
  clear hx rnew hM
  go_wp2_with fail
  go_ret
  exact ⟨rfl, hb0⟩
set_option maxRecDepth 100000 in
set_option maxHeartbeats 1000000 in
theorem mults_bad {Is : World → Nat → Nat → Prop} (H : MontOK Is) (m a b : Nat) (w : World) (hm : m < big) (ha : a < big) (hb : b < big) (hbad : m % 2 = 0 ∨ m = 1) :
    Calls Try.prog 4 #[.agg (nums m), .agg (nums a), .agg (nums b)] w fun x w' => x = .returned (.bool true) ∧ Below w.heap.size w w' := by
  have rnew := fun W => H.new_bad m W hm hbad
  have kA := fun W => H.add_nil W a b ha hb
  have kM := fun W => H.modulus_nil W
  have n1 := nums_ne 0
  have e00 := numEql2 0 0 (by decide +kernel) (by decide +kernel)
  rw [show decide ((0 : Nat) = 0) = true from rfl] at e00
  have hM : Has (((w.alloc (.cells (nums m) 24)).alloc (.cells (nums a) 24)).alloc (.cells (nums b) 24)) w.heap.size 24 (nums m) := ((Has.new w _ _).alloc _).alloc _
  have hA : Has (((w.alloc (.cells (nums m) 24)).alloc (.cells (nums a) 24)).alloc (.cells (nums b) 24)) (w.heap.size + 1) 24 (nums a) := (Has.new' (by simp)).alloc _
  have hB : Has (((w.alloc (.cells (nums m) 24)).alloc (.cells (nums a) 24)).alloc (.cells (nums b) 24)) (w.heap.size + 1 + 1) 24 (nums b) := Has.new' (by simp)
  have hb0 : Below w.heap.size w (((w.alloc (.cells (nums m) 24)).alloc (.cells (nums a) 24)).alloc (.cells (nums b) 24)) := (((Below.refl _ _).alloc (Nat.le_refl _) _).alloc (by simp) _).alloc (by simp <;> omega) _
  go_enter Try.func4, Try.ntmps4
  go_wp2_with fail
  refine (fit3_any H _).mono ?_
  rintro x w1 ⟨rfl, hx⟩
  replace hM := hM.after hx
  replace hA := hA.after hx
  replace hB := hB.after hx
  replace hb0 := below_trans hb0 hx
  clear hx
  go_wp2_with (refine wpList_load_has 24 _ rfl _ rfl rfl 24 _ hM _ Try.underlying24 rfl (infoNum _) ?_)
  refine (rnew _).mono ?_
  rintro x w2 ⟨rfl, hx⟩
  replace hM := hM.after hx
  replace hA := hA.after hx
  replace hB := hB.after hx
  replace hb0 := below_trans hb0 hx
  clear hx rnew
  have c0 := nums_at hM 0 (by decide)
  clear kA kM e00 hA hB
  rcases hbad with he | he
  · have hw0 : ((wrd m 0 : Nat) : Int) % 2 = 0 := by have := word0_mod m; omega
    have hw1 : ((wrd m 0 : Nat) : Int).tmod 2 = 0 := by rw [Int.tmod_eq_emod_of_nonneg (by omega)]; exact hw0
    go_wp2_with (refine wpList_load_has 24 _ rfl _ rfl rfl 24 _ hM _ Try.underlying24 rfl (infoNum _) ?_)
    go_ret
    exact ⟨rfl, hb0⟩
  · have hw0 : ((wrd m 0 : Nat) : Int) % 2 = 1 := by have := word0_mod m; omega
    have hw1 : ((wrd m 0 : Nat) : Int).tmod 2 = 1 := by rw [Int.tmod_eq_emod_of_nonneg (by omega)]; exact hw0
    have e11 := numEql2 m 1 hm (by decide +kernel)
    rw [decide_eq_true he] at e11
    clear he
    go_wp2_with (refine wpList_load_has 24 _ rfl _ rfl rfl 24 _ hM _ Try.underlying24 rfl (infoNum _) ?_)
    go_ret
    exact ⟨rfl, hb0⟩
set_option maxRecDepth 100000 in
set_option maxHeartbeats 1000000 in
theorem sums_bad {Is : World → Nat → Nat → Prop} (H : MontOK Is) (m a b : Nat) (w : World) (hm : m < big) (ha : a < big) (hb : b < big) (hbad : m % 2 = 0 ∨ m = 1) :
    Calls Try.prog 3 #[.agg (nums m), .agg (nums a), .agg (nums b)] w fun x w' => x = .returned (.bool true) ∧ Below w.heap.size w w' := by
  have rnew := fun W => H.new_bad m W hm hbad
  have kA := fun W => H.add_nil W a b ha hb
  have kM := fun W => H.modulus_nil W
  have n1 := nums_ne 0
  have e00 := numEql2 0 0 (by decide +kernel) (by decide +kernel)
  rw [show decide ((0 : Nat) = 0) = true from rfl] at e00
  have hM : Has (((w.alloc (.cells (nums m) 24)).alloc (.cells (nums a) 24)).alloc (.cells (nums b) 24)) w.heap.size 24 (nums m) := ((Has.new w _ _).alloc _).alloc _
  have hA : Has (((w.alloc (.cells (nums m) 24)).alloc (.cells (nums a) 24)).alloc (.cells (nums b) 24)) (w.heap.size + 1) 24 (nums a) := (Has.new' (by simp)).alloc _
  have hB : Has (((w.alloc (.cells (nums m) 24)).alloc (.cells (nums a) 24)).alloc (.cells (nums b) 24)) (w.heap.size + 1 + 1) 24 (nums b) := Has.new' (by simp)
  have hb0 : Below w.heap.size w (((w.alloc (.cells (nums m) 24)).alloc (.cells (nums a) 24)).alloc (.cells (nums b) 24)) := (((Below.refl _ _).alloc (Nat.le_refl _) _).alloc (by simp) _).alloc (by simp <;> omega) _
  go_enter Try.func3, Try.ntmps3
  go_wp2_with fail
  refine (fit3_any H _).mono ?_
  rintro x w1 ⟨rfl, hx⟩
  replace hM := hM.after hx
  replace hA := hA.after hx
  replace hB := hB.after hx
  replace hb0 := below_trans hb0 hx
  clear hx
  go_wp2_with (refine wpList_load_has 24 _ rfl _ rfl rfl 24 _ hM _ Try.underlying24 rfl (infoNum _) ?_)
  refine (rnew _).mono ?_
  rintro x w2 ⟨rfl, hx⟩
  replace hM := hM.after hx
  replace hA := hA.after hx
  replace hB := hB.after hx
  replace hb0 := below_trans hb0 hx
  clear hx rnew
  have c0 := nums_at hM 0 (by decide)
  rcases hbad with he | he
  · have hw0 : ((wrd m 0 : Nat) : Int) % 2 = 0 := by have := word0_mod m; omega
    have hw1 : ((wrd m 0 : Nat) : Int).tmod 2 = 0 := by rw [Int.tmod_eq_emod_of_nonneg (by omega)]; exact hw0
    go_wp2_with (first | refine wpList_load_has 24 _ rfl _ rfl rfl 24 _ hM _ Try.underlying24 rfl (infoNum _) ?_ | refine wpList_load_has 24 _ rfl _ rfl rfl 24 _ hA _ Try.underlying24 rfl (infoNum _) ?_ | refine wpList_load_has 24 _ rfl _ rfl rfl 24 _ hB _ Try.underlying24 rfl (infoNum _) ?_)
    refine (kA _).mono ?_
    rintro x w3 ⟨rfl, hx⟩
    replace hb0 := below_trans hb0 hx
    clear hx hM hA hB c0
    go_wp2_with fail
    refine (kM _).mono ?_
    rintro x w4 ⟨rfl, hx⟩
    replace hb0 := below_trans hb0 hx
    clear hx
    go_wp2_with fail
    go_ret
    exact ⟨rfl, hb0⟩
  · have hw0 : ((wrd m 0 : Nat) : Int) % 2 = 1 := by have := word0_mod m; omega
    have hw1 : ((wrd m 0 : Nat) : Int).tmod 2 = 1 := by rw [Int.tmod_eq_emod_of_nonneg (by omega)]; exact hw0
    have e11 := numEql2 m 1 hm (by decide +kernel)
    rw [decide_eq_true he] at e11
    clear he
    go_wp2_with (first | refine wpList_load_has 24 _ rfl _ rfl rfl 24 _ hM _ Try.underlying24 rfl (infoNum _) ?_ | refine wpList_load_has 24 _ rfl _ rfl rfl 24 _ hA _ Try.underlying24 rfl (infoNum _) ?_ | refine wpList_load_has 24 _ rfl _ rfl rfl 24 _ hB _ Try.underlying24 rfl (infoNum _) ?_)
    refine (kA _).mono ?_
    rintro x w3 ⟨rfl, hx⟩
    replace hb0 := below_trans hb0 hx
    clear hx hM hA hB c0
    go_wp2_with fail
    refine (kM _).mono ?_
    rintro x w4 ⟨rfl, hx⟩
    replace hb0 := below_trans hb0 hx
    clear hx
    go_wp2_with fail
    go_ret
    exact ⟨rfl, hb0⟩
end Go.Proofs.Ytodialbopochdaa
