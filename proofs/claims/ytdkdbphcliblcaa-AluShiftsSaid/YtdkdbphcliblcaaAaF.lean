/-
Layer 14: the reference's quotients.
-/
import Derived.Test.YtdkdbphcliblcaaAaE
namespace Go.Proofs.Ytdkdbphcliblcaa.Al
open Go Go.RowKit

theorem sgA_ne {b : Nat} (h : b ≠ 0) (hb : b < 4294967296) : sgA b ≠ 0 := by unfold sgA; split <;> omega
theorem tdiv_in (x y : Int) : (x.tdiv y).natAbs ≤ x.natAbs := by
  rw [Int.natAbs_tdiv]
  exact Nat.div_le_self _ _
theorem tmod_in (x y : Int) : (x.tmod y).natAbs ≤ x.natAbs := by
  rw [Int.natAbs_tmod]
  exact Nat.mod_le _ _
theorem lowA_nat (x : Nat) (h : x < 4294967296) : lowA (x : Int) = x := by unfold lowA; omega
set_option maxRecDepth 100000 in
set_option maxHeartbeats 2000000 in
theorem quot_div (a b : Nat) (w : World) (ha : a < 4294967296) (hb : b < 4294967296) : Calls Try.prog 35 #[.string ⟨#[100, 105, 118]⟩, .int .i64 (a : Int), .int .i64 (b : Int)] w fun e w' => e = .returned (.tuple #[.int .i64 ((if b = 0 then 4294967295 else lowA ((sgA a).tdiv (sgA b)) : Nat) : Int), .bool true]) ∧ w = w' := by
  by_cases h0 : b = 0
  · rw [if_pos h0]
    subst h0
    have ka := fun W => sign_any' a W ha
    have kb := fun W => sign_any' 0 W hb
    generalize sgA a = x at *
    generalize sgA 0 = y at *
    simp only [Int.cast_ofNat_Int] at kb
    go_enter Try.func35, Try.ntmps35
    go_wp2_with (first | (go_at_call 31; with_reducible refine (ka _).mono ?_; rintro e w2 ⟨rfl, rfl⟩) | (go_at_call 31; with_reducible refine (kb _).mono ?_; rintro e w2 ⟨rfl, rfl⟩))
    go_ret2
    exact ⟨rfl, rfl⟩
  · rw [if_neg h0]
    have d0 : ((b : Int) == 0) = false := by simp only [beq_eq_false_iff_ne, ne_eq]; omega
    have hxy := sgA_ne h0 hb
    have hx := sgA_in a ha
    have hy := sgA_in b hb
    have ka := fun W => sign_any' a W ha
    have kb := fun W => sign_any' b W hb
    generalize sgA a = x at *
    generalize sgA b = y at *
    have dy : (y == 0) = false := by simp only [beq_eq_false_iff_ne, ne_eq]; exact hxy
    have hq := tdiv_in x y
    obtain ⟨q, hqq⟩ : ∃ q, q = x.tdiv y := ⟨_, rfl⟩
    have e1 : x.tdiv y = q := hqq.symm
    rw [← hqq] at hq ⊢
    have hq1 : -9223372036854775808 ≤ q := by omega
    have hq2 : q ≤ 9223372036854775807 := by omega
    have kl := fun W => low_any q W hq1 hq2
    have hb0 : ¬ (b : Int) = 0 := by omega
    clear hqq hq
    go_enter Try.func35, Try.ntmps35
    go_wp2_with (first | (go_at_call 31; with_reducible refine (ka _).mono ?_; rintro e w2 ⟨rfl, rfl⟩) | (go_at_call 31; with_reducible refine (kb _).mono ?_; rintro e w2 ⟨rfl, rfl⟩) | (go_at_call 29; with_reducible refine (kl _).mono ?_; rintro e w2 ⟨rfl, rfl⟩))
    go_ret2
    exact ⟨rfl, rfl⟩
set_option maxRecDepth 100000 in
set_option maxHeartbeats 2000000 in
theorem quot_rem (a b : Nat) (w : World) (ha : a < 4294967296) (hb : b < 4294967296) : Calls Try.prog 35 #[.string ⟨#[114, 101, 109]⟩, .int .i64 (a : Int), .int .i64 (b : Int)] w fun e w' => e = .returned (.tuple #[.int .i64 ((if b = 0 then a else lowA ((sgA a).tmod (sgA b)) : Nat) : Int), .bool true]) ∧ w = w' := by
  by_cases h0 : b = 0
  · rw [if_pos h0]
    subst h0
    have ka := fun W => sign_any' a W ha
    have kb := fun W => sign_any' 0 W hb
    generalize sgA a = x at *
    generalize sgA 0 = y at *
    simp only [Int.cast_ofNat_Int] at kb
    go_enter Try.func35, Try.ntmps35
    go_wp2_with (first | (go_at_call 31; with_reducible refine (ka _).mono ?_; rintro e w2 ⟨rfl, rfl⟩) | (go_at_call 31; with_reducible refine (kb _).mono ?_; rintro e w2 ⟨rfl, rfl⟩))
    go_ret2
    exact ⟨rfl, rfl⟩
  · rw [if_neg h0]
    have d0 : ((b : Int) == 0) = false := by simp only [beq_eq_false_iff_ne, ne_eq]; omega
    have hxy := sgA_ne h0 hb
    have hx := sgA_in a ha
    have hy := sgA_in b hb
    have ka := fun W => sign_any' a W ha
    have kb := fun W => sign_any' b W hb
    generalize sgA a = x at *
    generalize sgA b = y at *
    have dy : (y == 0) = false := by simp only [beq_eq_false_iff_ne, ne_eq]; exact hxy
    have hq := tdiv_in x y
    have hr := tmod_in x y
    have hm := Int.mul_tdiv_add_tmod x y
    obtain ⟨q, hqq⟩ : ∃ q, q = x.tdiv y := ⟨_, rfl⟩
    obtain ⟨r, hrr⟩ : ∃ r, r = x.tmod y := ⟨_, rfl⟩
    have e1 : x.tdiv y = q := hqq.symm
    rw [← hqq] at hq hm
    rw [← hrr] at hr hm ⊢
    obtain ⟨p, hpp⟩ : ∃ p, p = q * y := ⟨_, rfl⟩
    rw [Int.mul_comm, ← hpp] at hm
    have e2 : q * y = p := hpp.symm
    have e3 : x - p = r := by omega
    have hq1 : -9223372036854775808 ≤ q := by omega
    have hq2 : q ≤ 9223372036854775807 := by omega
    have hp1 : -9223372036854775808 ≤ p := by omega
    have hp2 : p ≤ 9223372036854775807 := by omega
    have hr1 : -9223372036854775808 ≤ r := by omega
    have hr2 : r ≤ 9223372036854775807 := by omega
    have kl := fun W => low_any r W hr1 hr2
    clear hqq hrr hpp hq hr hm h0
    go_enter Try.func35, Try.ntmps35
    go_wp2_with (first | (go_at_call 31; with_reducible refine (ka _).mono ?_; rintro e w2 ⟨rfl, rfl⟩) | (go_at_call 31; with_reducible refine (kb _).mono ?_; rintro e w2 ⟨rfl, rfl⟩) | (go_at_call 29; with_reducible refine (kl _).mono ?_; rintro e w2 ⟨rfl, rfl⟩))
    go_ret2
    exact ⟨rfl, rfl⟩
set_option maxRecDepth 100000 in
set_option maxHeartbeats 2000000 in
theorem quot_divu (a b : Nat) (w : World) (ha : a < 4294967296) (hb : b < 4294967296) : Calls Try.prog 35 #[.string ⟨#[100, 105, 118, 117]⟩, .int .i64 (a : Int), .int .i64 (b : Int)] w fun e w' => e = .returned (.tuple #[.int .i64 ((if b = 0 then 4294967295 else a / b : Nat) : Int), .bool true]) ∧ w = w' := by
  by_cases h0 : b = 0
  · rw [if_pos h0]
    subst h0
    go_enter Try.func35, Try.ntmps35
    go_wp2_with fail
    go_ret2
    exact ⟨rfl, rfl⟩
  · rw [if_neg h0]
    have d0 : ((b : Int) == 0) = false := by simp only [beq_eq_false_iff_ne, ne_eq]; omega
    have hq : a / b ≤ a := Nat.div_le_self a b
    obtain ⟨q, hqq⟩ : ∃ q, q = a / b := ⟨_, rfl⟩
    have e1 : (a : Int).tdiv (b : Int) = (q : Int) := by rw [hqq, Int.natCast_ediv, Int.tdiv_eq_ediv_of_nonneg (by omega)]
    rw [← hqq] at hq ⊢
    have hql : (q : Int) < 4294967296 := by omega
    have kl := fun W => low_any (q : Int) W (by omega) (by omega)
    rw [lowA_nat q (by omega)] at kl
    have hb0 : ¬ (b : Int) = 0 := by omega
    clear hqq hq
    go_enter Try.func35, Try.ntmps35
    go_wp2_with (go_at_call 29; with_reducible refine (kl _).mono ?_; rintro e w2 ⟨rfl, rfl⟩)
    go_ret2
    exact ⟨rfl, rfl⟩
set_option maxRecDepth 100000 in
set_option maxHeartbeats 2000000 in
theorem quot_remu (a b : Nat) (w : World) (ha : a < 4294967296) (hb : b < 4294967296) : Calls Try.prog 35 #[.string ⟨#[114, 101, 109, 117]⟩, .int .i64 (a : Int), .int .i64 (b : Int)] w fun e w' => e = .returned (.tuple #[.int .i64 ((if b = 0 then a else a % b : Nat) : Int), .bool true]) ∧ w = w' := by
  by_cases h0 : b = 0
  · rw [if_pos h0]
    subst h0
    go_enter Try.func35, Try.ntmps35
    go_wp2_with fail
    go_ret2
    exact ⟨rfl, rfl⟩
  · rw [if_neg h0]
    have d0 : ((b : Int) == 0) = false := by simp only [beq_eq_false_iff_ne, ne_eq]; omega
    have hm := Nat.div_add_mod a b
    have hr : a % b ≤ a := Nat.mod_le a b
    have hq : a / b ≤ a := Nat.div_le_self a b
    obtain ⟨q, hqq⟩ : ∃ q, q = a / b := ⟨_, rfl⟩
    obtain ⟨r, hrr⟩ : ∃ r, r = a % b := ⟨_, rfl⟩
    have e1 : (a : Int).tdiv (b : Int) = (q : Int) := by rw [hqq, Int.natCast_ediv, Int.tdiv_eq_ediv_of_nonneg (by omega)]
    rw [← hqq] at hm hq
    rw [← hrr] at hm hr ⊢
    obtain ⟨p, hpp⟩ : ∃ p, p = b * q := ⟨_, rfl⟩
    rw [← hpp] at hm
    have e2 : (q : Int) * (b : Int) = (p : Int) := by rw [hpp, Int.natCast_mul, Int.mul_comm]
    have e3 : (a : Int) - (p : Int) = (r : Int) := by omega
    have hql : (q : Int) < 4294967296 := by omega
    have hpl : (p : Int) < 4294967296 := by omega
    have kl := fun W => low_any (r : Int) W (by omega) (by omega)
    rw [lowA_nat r (by omega)] at kl
    have hb0 : ¬ (b : Int) = 0 := by omega
    clear hqq hrr hpp hm hr hq
    go_enter Try.func35, Try.ntmps35
    go_wp2_with (go_at_call 29; with_reducible refine (kl _).mono ?_; rintro e w2 ⟨rfl, rfl⟩)
    go_ret2
    exact ⟨rfl, rfl⟩
set_option maxRecDepth 100000 in
set_option maxHeartbeats 2000000 in
theorem quot_no (s : ByteArray) (a b : Nat) (w : World) (h1 : (s.toList == [100, 105, 118]) = false) (h2 : (s.toList == [114, 101, 109]) = false) (h3 : (s.toList == [100, 105, 118, 117]) = false) (h4 : (s.toList == [114, 101, 109, 117]) = false) :
    Calls Try.prog 35 #[.string s, .int .i64 (a : Int), .int .i64 (b : Int)] w fun e w' => e = .returned (.tuple #[.int .i64 0, .bool false]) ∧ w = w' := by
  go_enter Try.func35, Try.ntmps35
  go_wp2_with fail
  go_ret2
  exact ⟨rfl, rfl⟩
end Go.Proofs.Ytdkdbphcliblcaa.Al
