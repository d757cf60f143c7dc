/-
Layer 14: the reference's names; sign, low, truth, floor, high.
-/
import Derived.Test.YtdkdbphcliblcaaInA
import Derived.Test.YtdkdbphcliblcaaQw
import Derived.Laws.BitsAllLaws
import Derived.Deep.QuietTactic
import Derived.Deep.DeepCutAuto
namespace Go.Proofs.Ytdkdbphcliblcaa.Al
open Go Go.RowKit

/-- the names, as the reference lists them -/
def nmL : List ByteArray := [⟨#[]⟩, ⟨#[108, 117, 105]⟩, ⟨#[97, 117, 105, 112, 99]⟩, ⟨#[106, 97, 108]⟩, ⟨#[106, 97, 108, 114]⟩, ⟨#[98, 101, 113]⟩, ⟨#[98, 110, 101]⟩, ⟨#[98, 108, 116]⟩, ⟨#[98, 103, 101]⟩, ⟨#[98, 108, 116, 117]⟩, ⟨#[98, 103, 101, 117]⟩, ⟨#[108, 98]⟩, ⟨#[108, 104]⟩, ⟨#[108, 119]⟩, ⟨#[108, 98, 117]⟩, ⟨#[108, 104, 117]⟩, ⟨#[115, 98]⟩, ⟨#[115, 104]⟩, ⟨#[115, 119]⟩, ⟨#[97, 100, 100]⟩, ⟨#[115, 108, 116]⟩, ⟨#[115, 108, 116, 117]⟩, ⟨#[120, 111, 114]⟩, ⟨#[111, 114]⟩, ⟨#[97, 110, 100]⟩, ⟨#[115, 108, 108]⟩, ⟨#[115, 114, 108]⟩, ⟨#[115, 114, 97]⟩, ⟨#[97, 100, 100]⟩, ⟨#[115, 117, 98]⟩, ⟨#[115, 108, 108]⟩, ⟨#[115, 108, 116]⟩, ⟨#[115, 108, 116, 117]⟩, ⟨#[120, 111, 114]⟩, ⟨#[115, 114, 108]⟩, ⟨#[115, 114, 97]⟩, ⟨#[111, 114]⟩, ⟨#[97, 110, 100]⟩, ⟨#[109, 117, 108]⟩, ⟨#[109, 117, 108, 104]⟩, ⟨#[109, 117, 108, 104, 115, 117]⟩, ⟨#[109, 117, 108, 104, 117]⟩, ⟨#[100, 105, 118]⟩, ⟨#[100, 105, 118, 117]⟩, ⟨#[114, 101, 109]⟩, ⟨#[114, 101, 109, 117]⟩]
theorem nmL_len : nmL.length = 46 := rfl
/-- an operation's name -/
def nmO (op : Int) : ByteArray := if op < 1 ∨ 46 ≤ op then ⟨#[]⟩ else nmL.getD op.toNat ⟨#[]⟩
def nmC : Array Value := (nmL.map Value.string).toArray
theorem same_bel {w w' : World} (h : w = w') : Below w.heap.size w w' := by subst h; exact Below.refl _ _
set_option maxRecDepth 100000 in
set_option maxHeartbeats 2000000 in
theorem names_any (w : World) : Calls Try.prog 36 #[] w fun e w' => e = .returned (.slice (some ⟨w.heap.size, 0, none⟩) 46 46) ∧ Has w' w.heap.size 9 nmC ∧ Below w.heap.size w w' := by
  have hb : Below w.heap.size w (w.alloc (.cells nmC 9)) := (Below.refl _ _).alloc (Nat.le_refl _) _
  have hH : Has (w.alloc (.cells nmC 9)) w.heap.size 9 nmC := Has.new _ _ _
  have HB := Lib.hid hb
  have HH := Lib.hid hH
  clear hb hH
  go_enter Try.func36, Try.ntmps36
  go_wp2_with fail
  go_ret
  exact ⟨rfl, HH.out, HB.out⟩
theorem nmC_at (j : Nat) (h : j < 46) : nmC[j]? = some (.string (nmL.getD j ⟨#[]⟩)) := by
  unfold nmC
  rw [List.getElem?_toArray, List.getElem?_map, List.getElem?_eq_getElem (by rw [nmL_len]; exact h), List.getD_eq_getElem?_getD, List.getElem?_eq_getElem (by rw [nmL_len]; exact h)]
  rfl
theorem at_s (b n c j : Nat) (hj : (j : Int) < (n : Int)) (w : World) : (Instr.indexAt 53 (.slice (some ⟨b, 0, none⟩) n c) (.int .i64 (j : Int))).run Try.prog w = .ok (.pointer (some ⟨b, j, none⟩)) w := by
  have h2 := Addr.add_mid b 0 j
  rw [Nat.zero_add] at h2
  go_simp
set_option maxRecDepth 100000 in
set_option maxHeartbeats 2000000 in
theorem name_any (op : Int) (w : World) : Calls Try.prog 28 #[.int .i64 op] w fun e w' => e = .returned (.string (nmO op)) ∧ Below w.heap.size w w' := by
  have kN := names_any w
  by_cases h1 : op < 1
  · rw [show nmO op = ⟨#[]⟩ from if_pos (Or.inl h1)]
    go_enter Try.func28, Try.ntmps28
    go_wp2_with (go_at_call 36; with_reducible refine kN.mono ?_; rintro e w1 ⟨rfl, hH, hb⟩)
    go_ret
    exact ⟨rfl, hb⟩
  · by_cases h2 : 46 ≤ op
    · rw [show nmO op = ⟨#[]⟩ from if_pos (Or.inr h2)]
      go_enter Try.func28, Try.ntmps28
      go_wp2_with (go_at_call 36; with_reducible refine kN.mono ?_; rintro e w1 ⟨rfl, hH, hb⟩)
      go_ret
      exact ⟨rfl, hb⟩
    · obtain ⟨j, rfl⟩ : ∃ j : Nat, op = (j : Int) := ⟨op.toNat, by omega⟩
      rw [show nmO (j : Int) = nmL.getD j ⟨#[]⟩ from if_neg (by omega)]
      have hj : j < 46 := by omega
      have hat := nmC_at j hj
      generalize nmL.getD j ⟨#[]⟩ = s at *
      have hx := fun W => at_s w.heap.size 46 46 j (by omega) W
      have hj2 : (j : Int) < 46 := by omega
      have HAT := Lib.hid hat
      clear hat
      go_enter Try.func28, Try.ntmps28
      go_upto_region 2 with (go_at_call 36; with_reducible refine kN.mono ?_; rintro e w1 ⟨rfl, hH, hb⟩)
      have hc : w1.cell? ⟨w.heap.size, j, none⟩ = some (.string s) := (hH.cell j).trans HAT.out
      clear hH
      go_wp2_with fail
      go_ret
      exact ⟨rfl, hb⟩
def sgA (x : Nat) : Int := if 2147483648 ≤ x then (x : Int) - 4294967296 else x
def lowA (z : Int) : Nat := (z % 4294967296).toNat
theorem lowA_is (z : Int) : ((lowA z : Nat) : Int) = z % 4294967296 := by unfold lowA; omega
theorem lowA_lt (z : Int) : lowA z < 4294967296 := by unfold lowA; omega
set_option maxRecDepth 100000 in
theorem low_any (z : Int) (w : World) (_h1 : -9223372036854775808 ≤ z) (_h2 : z ≤ 9223372036854775807) :
    Calls Try.prog 29 #[.int .i64 z] w fun e w' => e = .returned (.int .i64 ((lowA z : Nat) : Int)) ∧ w = w' := by
  rw [lowA_is]
  go_enter Try.func29, Try.ntmps29
  go_wp2_with fail
  go_ret
  have e0 : z.tmod 4294967296 = z % 4294967296 ∨ z.tmod 4294967296 = z % 4294967296 - 4294967296 := by
    rw [Int.tmod_eq_emod]
    split
    · left; omega
    · right; rfl
  have e2 : (wrap64 (z.tmod 4294967296 + 4294967296)).tmod 4294967296 = z % 4294967296 := by
    rw [IntWalk.wrap64_in _ (by omega), Int.tmod_eq_emod, if_pos (Or.inl (by omega))]
    omega
  first | exact ⟨rfl, rfl⟩ | exact ⟨congrArg (fun z => Ending.returned (Value.int .i64 z)) e2, rfl⟩
set_option maxRecDepth 100000 in
theorem sign_any' (x : Nat) (w : World) (hx : x < 4294967296) :
    Calls Try.prog 31 #[.int .i64 (x : Int)] w fun e w' => e = .returned (.int .i64 (sgA x)) ∧ w = w' := by
  by_cases h : 2147483648 ≤ x
  · have d1 : 2147483648 ≤ (x : Int) := by omega
    rw [show sgA x = (x : Int) - 4294967296 from if_pos h]
    go_enter Try.func31, Try.ntmps31
    go_wp2_with fail
    go_ret
    exact ⟨rfl, rfl⟩
  · have d1 : ¬ 2147483648 ≤ (x : Int) := by omega
    rw [show sgA x = (x : Int) from if_neg h]
    go_enter Try.func31, Try.ntmps31
    go_wp2_with fail
    go_ret
    exact ⟨rfl, rfl⟩
theorem sgA_in (x : Nat) (h : x < 4294967296) : -2147483648 ≤ sgA x ∧ sgA x < 2147483648 := by unfold sgA; split <;> omega
theorem truth_any (b : Bool) (w : World) : Calls Try.prog 32 #[.bool b] w fun e w' => e = .returned (.int .i64 ((b.toNat : Nat) : Int)) ∧ w = w' := by
  cases b with
  | true =>
    go_enter Try.func32, Try.ntmps32
    go_wp2_with fail
    go_ret
    exact ⟨rfl, rfl⟩
  | false =>
    go_enter Try.func32, Try.ntmps32
    go_wp2_with fail
    go_ret
    exact ⟨rfl, rfl⟩
set_option maxRecDepth 100000 in
set_option maxHeartbeats 2000000 in
/-- the quotient rounded down, by a number above 0 -/
theorem floor_any (x : Int) (y : Int) (w : World) (h1 : -9223372036854775808 < x) (h2 : x ≤ 9223372036854775807) (hy : 0 < y) (hy2 : y ≤ 4294967296) :
    Calls Try.prog 30 #[.int .i64 x, .int .i64 y] w fun e w' => e = .returned (.int .i64 (x / y)) ∧ w = w' := by
  have hyne : (y == 0) = false := by simp only [beq_eq_false_iff_ne, ne_eq]; omega
  have hyn : ¬ y < 0 := by omega
  have hq1 : x.tdiv y = if x < 0 ∧ x % y ≠ 0 then x / y + 1 else x / y := by
    rw [Int.tdiv_eq_ediv]
    have hs : y.sign = 1 := Int.sign_eq_one_of_pos hy
    by_cases hx : 0 ≤ x
    · rw [if_pos (Or.inl hx), if_neg (by omega)]; omega
    · by_cases hd : y ∣ x
      · rw [if_pos (Or.inr hd), if_neg (fun h => h.2 (Int.emod_eq_zero_of_dvd hd))]; omega
      · rw [if_neg (by rintro (h | h); exact hx h; exact hd h), if_pos ⟨by omega, fun h => hd (Int.dvd_of_emod_eq_zero h)⟩, hs]
  have hr1 : x.tmod y = if x < 0 ∧ x % y ≠ 0 then x % y - y else x % y := by
    rw [Int.tmod_eq_emod]
    by_cases hx : 0 ≤ x
    · rw [if_pos (Or.inl hx), if_neg (by omega)]; omega
    · by_cases hd : y ∣ x
      · rw [if_pos (Or.inr hd), if_neg (fun h => h.2 (Int.emod_eq_zero_of_dvd hd))]; omega
      · rw [if_neg (by rintro (h | h); exact hx h; exact hd h), if_pos ⟨by omega, fun h => hd (Int.dvd_of_emod_eq_zero h)⟩]
        omega
  have he := Int.emod_nonneg x (show y ≠ 0 by omega)
  have hel := Int.emod_lt_of_pos x hy
  have hdv := Int.mul_ediv_add_emod x y
  have hqb : -9223372036854775808 < x / y ∧ x / y ≤ 9223372036854775807 ∧ (x < 0 → x / y < 0) := by
    by_cases hx : 0 ≤ x
    · have a1 := Int.ediv_nonneg hx (Int.le_of_lt hy)
      have a2 := Int.ediv_le_self y hx
      exact ⟨by omega, by omega, fun h => absurd hx (by omega)⟩
    · have a1 : x ≤ x / y := (Int.le_ediv_iff_mul_le hy).2 (by
        have := Int.mul_le_mul_of_nonpos_left (show x ≤ 0 by omega) (show (1 : Int) ≤ y by omega)
        omega)
      have a2 : x / y < 0 := Int.ediv_lt_of_lt_mul hy (by omega)
      exact ⟨by omega, by omega, fun _ => a2⟩
  obtain ⟨q, hq⟩ : ∃ q, q = x / y := ⟨_, rfl⟩
  obtain ⟨qq, hqq⟩ : ∃ z, z = x.tdiv y := ⟨_, rfl⟩
  obtain ⟨rr, hrr⟩ : ∃ z, z = x.tmod y := ⟨_, rfl⟩
  rw [← hq] at hqb hq1 ⊢
  rw [← hqq] at hq1
  rw [← hrr] at hr1
  have eq1 := hqq.symm
  have er1 := hrr.symm
  clear hq hqq hrr hdv
  obtain ⟨b1, b2, b3⟩ := hqb
  by_cases hx : x < 0
  · by_cases hd : x % y = 0
    · rw [if_neg (fun h => h.2 hd)] at hq1 hr1
      have d1 : (rr != 0) = false := by rw [bne_eq_false_iff_eq]; omega
      subst hq1
      clear hd hr1 he hel
      go_enter Try.func30, Try.ntmps30
      go_wp2_with fail
      go_ret
      exact ⟨rfl, rfl⟩
    · rw [if_pos ⟨hx, hd⟩] at hq1 hr1
      have d1 : (rr != 0) = true := by rw [bne_iff_ne]; omega
      have d2 : qq - 1 = q := by omega
      have c1 : -9223372036854775808 ≤ qq - 1 := by omega
      have c2 : qq - 1 ≤ 9223372036854775807 := by omega
      have HQ := Lib.hid hq1
      clear hd hr1 he hel hq1
      go_enter Try.func30, Try.ntmps30
      go_wp2_with fail
      go_ret
      first | exact ⟨rfl, rfl⟩ | exact ⟨congrArg (fun z => Ending.returned (Value.int .i64 z)) (by rw [IntWalk.wrap64_in qq (by have := HQ.out; have := b3 hx; omega), IntWalk.wrap64_in (qq - 1) (by omega)]; exact d2), rfl⟩
  · rw [if_neg (fun h => hx h.1)] at hq1 hr1
    subst hq1
    by_cases hd : rr = 0
    · have d1 : (rr != 0) = false := by rw [bne_eq_false_iff_eq]; exact hd
      clear hd hr1 he hel
      go_enter Try.func30, Try.ntmps30
      go_wp2_with fail
      go_ret
      exact ⟨rfl, rfl⟩
    · have d1 : (rr != 0) = true := by rw [bne_iff_ne]; exact hd
      clear hd hr1 he hel
      go_enter Try.func30, Try.ntmps30
      go_wp2_with fail
      go_ret
      exact ⟨rfl, rfl⟩
end Go.Proofs.Ytdkdbphcliblcaa.Al
