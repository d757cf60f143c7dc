/-
Layer 14: package alu's small functions: shift, one, less, upper, signed, quotients and remainders.
-/
import Derived.Test.YtdkdbphcliblcaaAaH
namespace Go.Proofs.Ytdkdbphcliblcaa.Al
open Go Go.RowKit

theorem w32_sg (a : Nat) (h : a < 4294967296) : wrap32 (a : Int) = sgA a := by
  unfold sgA
  simp only [wrap32]
  split <;> omega
set_option maxRecDepth 100000 in
set_option maxHeartbeats 1000000 in
theorem shift_any (b : Nat) (w : World) (hb : b < 4294967296) : Calls Try.prog 19 #[.int .u32 (b : Int)] w fun e w' => e = .returned (.int .u32 ((b % 32 : Nat) : Int)) ∧ w = w' := by
  have h1 : bits .and .u32 (b : Int) 31 = ((b % 32 : Nat) : Int) := by
    rw [show (31 : Int) = ((2 ^ 5 - 1 : Nat) : Int) by decide, u32_and_nat _ _ hb (by decide), Nat.and_two_pow_sub_one_eq_mod]
  obtain ⟨k, hk⟩ : ∃ k, k = b % 32 := ⟨_, rfl⟩
  rw [← hk] at h1 ⊢
  have HK := Lib.hid hk
  clear hk
  go_enter Try.func19, Try.ntmps19
  go_wp2_with fail
  go_ret
  exact ⟨rfl, rfl⟩
set_option maxRecDepth 100000 in
set_option maxHeartbeats 1000000 in
theorem one_any (b : Bool) (w : World) : Calls Try.prog 20 #[.bool b] w fun e w' => e = .returned (.int .u32 ((b.toNat : Nat) : Int)) ∧ w = w' := by
  cases b
  · go_enter Try.func20, Try.ntmps20
    go_wp2_with fail
    go_ret
    exact ⟨rfl, rfl⟩
  · go_enter Try.func20, Try.ntmps20
    go_wp2_with fail
    go_ret
    exact ⟨rfl, rfl⟩
set_option maxRecDepth 100000 in
set_option maxHeartbeats 1000000 in
theorem less_any (a b : Nat) (w : World) (ha : a < 4294967296) (hb : b < 4294967296) : Calls Try.prog 21 #[.int .u32 (a : Int), .int .u32 (b : Int)] w fun e w' => e = .returned (.bool (decide (sgA a < sgA b))) ∧ w = w' := by
  have h1 := w32_sg a ha
  have h2 := w32_sg b hb
  generalize sgA a = x at *
  generalize sgA b = y at *
  go_enter Try.func21, Try.ntmps21
  go_wp2_with fail
  go_ret
  exact ⟨rfl, rfl⟩
set_option maxRecDepth 100000 in
set_option maxHeartbeats 1000000 in
theorem signed_any (a : Nat) (w : World) (ha : a < 4294967296) : Calls Try.prog 23 #[.int .u32 (a : Int)] w fun e w' => e = .returned (.int .i64 (sgA a)) ∧ w = w' := by
  have h1 := w32_sg a ha
  have h2 := sgA_in a ha
  generalize sgA a = x at *
  have h3 := h2.1
  have h4 := h2.2
  go_enter Try.func23, Try.ntmps23
  go_wp2_with fail
  go_ret
  exact ⟨rfl, rfl⟩
set_option maxRecDepth 100000 in
set_option maxHeartbeats 1000000 in
theorem upper_any (z : Int) (w : World) (_h1 : -9223372036854775808 ≤ z) (_h2 : z ≤ 9223372036854775807) : Calls Try.prog 22 #[.int .i64 z] w fun e w' => e = .returned (.int .u32 ((lowA (z / 4294967296) : Nat) : Int)) ∧ w = w' := by
  rw [lowA_is]
  go_enter Try.func22, Try.ntmps22
  go_wp2_with fail
  go_ret
  exact ⟨rfl, rfl⟩
set_option maxRecDepth 100000 in
set_option maxHeartbeats 1000000 in
theorem unq_any (a b : Nat) (w : World) (ha : a < 4294967296) (hb : b < 4294967296) : Calls Try.prog 26 #[.int .u32 (a : Int), .int .u32 (b : Int)] w fun e w' => e = .returned (.int .u32 (((if b = 0 then 4294967295 else a / b : Nat) : Nat) : Int)) ∧ w = w' := by
  by_cases h0 : b = 0
  · subst h0
    go_enter Try.func26, Try.ntmps26
    go_wp2_with fail
    go_ret
    exact ⟨rfl, rfl⟩
  · rw [if_neg h0]
    have hbI : ¬ (b : Int) = 0 := by omega
    have d0 : ((b : Int) == 0) = false := by simp only [beq_eq_false_iff_ne, ne_eq]; omega
    have hz : a / b ≤ a := Nat.div_le_self _ _
    obtain ⟨Z, hZ⟩ : ∃ Z, Z = a / b := ⟨_, rfl⟩
    have e1 : (a : Int).tdiv (b : Int) = (Z : Int) := by rw [hZ, Int.natCast_ediv, Int.tdiv_eq_ediv_of_nonneg (by omega)]
    rw [← hZ] at hz ⊢
    have hzI : (Z : Int) < 4294967296 := by omega
    clear hZ h0
    go_enter Try.func26, Try.ntmps26
    go_wp2_with fail
    go_ret
    exact ⟨rfl, rfl⟩
set_option maxRecDepth 100000 in
set_option maxHeartbeats 1000000 in
theorem unr_any (a b : Nat) (w : World) (ha : a < 4294967296) (hb : b < 4294967296) : Calls Try.prog 27 #[.int .u32 (a : Int), .int .u32 (b : Int)] w fun e w' => e = .returned (.int .u32 (((if b = 0 then a else a % b : Nat) : Nat) : Int)) ∧ w = w' := by
  by_cases h0 : b = 0
  · subst h0
    go_enter Try.func27, Try.ntmps27
    go_wp2_with fail
    go_ret
    exact ⟨rfl, rfl⟩
  · rw [if_neg h0]
    have hbI : ¬ (b : Int) = 0 := by omega
    have d0 : ((b : Int) == 0) = false := by simp only [beq_eq_false_iff_ne, ne_eq]; omega
    have hz : a % b ≤ a := Nat.mod_le _ _
    obtain ⟨Z, hZ⟩ : ∃ Z, Z = a % b := ⟨_, rfl⟩
    have e1 : (a : Int).tmod (b : Int) = (Z : Int) := by rw [hZ, Int.natCast_emod, Int.tmod_eq_emod_of_nonneg (by omega)]
    rw [← hZ] at hz ⊢
    have hzI : (Z : Int) < 4294967296 := by omega
    clear hZ h0
    go_enter Try.func27, Try.ntmps27
    go_wp2_with fail
    go_ret
    exact ⟨rfl, rfl⟩
set_option maxRecDepth 100000 in
set_option maxHeartbeats 1000000 in
theorem quo_any (a b : Nat) (w : World) (ha : a < 4294967296) (hb : b < 4294967296) : Calls Try.prog 24 #[.int .u32 (a : Int), .int .u32 (b : Int)] w fun e w' => e = .returned (.int .u32 (((if b = 0 then 4294967295 else lowA ((sgA a).tdiv (sgA b)) : Nat) : Nat) : Int)) ∧ w = w' := by
  by_cases h0 : b = 0
  · subst h0
    go_enter Try.func24, Try.ntmps24
    go_wp2_with fail
    go_ret
    exact ⟨rfl, rfl⟩
  · rw [if_neg h0]
    have hbI : ¬ (b : Int) = 0 := by omega
    have d0 : ((b : Int) == 0) = false := by simp only [beq_eq_false_iff_ne, ne_eq]; omega
    have ka := fun W => signed_any a W ha
    have kb := fun W => signed_any b W hb
    have hy0 := sgA_ne h0 hb
    have hx := sgA_in a ha
    have hq : -2147483648 ≤ (sgA a).tdiv (sgA b) ∧ (sgA a).tdiv (sgA b) ≤ 2147483648 := by have := tdiv_in (sgA a) (sgA b); omega
    have hl := lowA_is ((sgA a).tdiv (sgA b))
    have hyy := sgA_in b hb
    generalize sgA a = x at *
    generalize sgA b = y at *
    obtain ⟨q, hqe⟩ : ∃ q, x.tdiv y = q := ⟨_, rfl⟩
    rw [hqe] at hq hl ⊢
    obtain ⟨z, hz⟩ : ∃ z, lowA q = z := ⟨_, rfl⟩
    rw [hz] at hl ⊢
    have hl2 : q % 4294967296 = (z : Int) := hl.symm
    have x1 := hx.1
    have x2 := hx.2
    have y1 := hyy.1
    have y2 := hyy.2
    have q1 := hq.1
    have q2 := hq.2
    clear hl hz h0 hx hq hyy
    go_enter Try.func24, Try.ntmps24
    go_wp2_with (first
      | (go_at_call 23; with_reducible refine (ka _).mono ?_; rintro e w1 ⟨rfl, rfl⟩)
      | (go_at_call 23; with_reducible refine (kb _).mono ?_; rintro e w1 ⟨rfl, rfl⟩))
    go_ret
    exact ⟨congrArg (fun z => Ending.returned (Value.int .u32 z)) hl2, rfl⟩
set_option maxRecDepth 100000 in
set_option maxHeartbeats 1000000 in
theorem rem_any (a b : Nat) (w : World) (ha : a < 4294967296) (hb : b < 4294967296) : Calls Try.prog 25 #[.int .u32 (a : Int), .int .u32 (b : Int)] w fun e w' => e = .returned (.int .u32 (((if b = 0 then a else lowA ((sgA a).tmod (sgA b)) : Nat) : Nat) : Int)) ∧ w = w' := by
  by_cases h0 : b = 0
  · subst h0
    go_enter Try.func25, Try.ntmps25
    go_wp2_with fail
    go_ret
    exact ⟨rfl, rfl⟩
  · rw [if_neg h0]
    have hbI : ¬ (b : Int) = 0 := by omega
    have d0 : ((b : Int) == 0) = false := by simp only [beq_eq_false_iff_ne, ne_eq]; omega
    have ka := fun W => signed_any a W ha
    have kb := fun W => signed_any b W hb
    have hy0 := sgA_ne h0 hb
    have hx := sgA_in a ha
    have hq : -2147483648 ≤ (sgA a).tmod (sgA b) ∧ (sgA a).tmod (sgA b) ≤ 2147483648 := by have := tmod_in (sgA a) (sgA b); omega
    have hl := lowA_is ((sgA a).tmod (sgA b))
    have hyy := sgA_in b hb
    generalize sgA a = x at *
    generalize sgA b = y at *
    obtain ⟨q, hqe⟩ : ∃ q, x.tmod y = q := ⟨_, rfl⟩
    rw [hqe] at hq hl ⊢
    obtain ⟨z, hz⟩ : ∃ z, lowA q = z := ⟨_, rfl⟩
    rw [hz] at hl ⊢
    have hl2 : q % 4294967296 = (z : Int) := hl.symm
    have x1 := hx.1
    have x2 := hx.2
    have y1 := hyy.1
    have y2 := hyy.2
    have q1 := hq.1
    have q2 := hq.2
    clear hl hz h0 hx hq hyy
    go_enter Try.func25, Try.ntmps25
    go_wp2_with (first
      | (go_at_call 23; with_reducible refine (ka _).mono ?_; rintro e w1 ⟨rfl, rfl⟩)
      | (go_at_call 23; with_reducible refine (kb _).mono ?_; rintro e w1 ⟨rfl, rfl⟩))
    go_ret
    exact ⟨congrArg (fun z => Ending.returned (Value.int .u32 z)) hl2, rfl⟩
end Go.Proofs.Ytdkdbphcliblcaa.Al
