/-
Layer 14: AluShifts.
-/
import Derived.Test.YtdkdbphcliblcaaAaI
namespace Go.Proofs.Ytdkdbphcliblcaa.Al
open Go Go.RowKit

theorem sub_xor (b : Nat) (hb : b < 4294967296) : 4294967295 - b = 4294967295 ^^^ b := by
  refine Nat.eq_of_testBit_eq fun i => ?_
  rw [show 4294967295 - b = 2 ^ 32 - (b + 1) by omega, Nat.testBit_two_pow_sub_succ hb, Nat.testBit_xor, show (4294967295 : Nat) = 2 ^ 32 - 1 by decide, Nat.testBit_two_pow_sub_one]
  by_cases hi : i < 32
  · simp [hi]
  · have : b.testBit i = false := Nat.testBit_lt_two_pow (Nat.lt_of_lt_of_le (show b < 2 ^ 32 from hb) (Nat.pow_le_pow_right (by decide) (by omega)))
    simp [hi, this]
set_option maxRecDepth 100000 in
set_option maxHeartbeats 1000000 in
theorem rS_any (H : AluOK) (op : Int) (a b : Nat) (w : World) (ha : a < 4294967296) (hb : b < 4294967296) :
    Calls Try.prog 18 #[.int .i64 op, .int .u32 (a : Int), .int .u32 (b : Int)] w fun e w' => e = .returned (.int .u32 (((reckN op a b).1 : Nat) : Int)) ∧ Below w.heap.size w w' := by
  have k := H.reckon op a b w ha hb
  generalize reckN op a b = p at *
  obtain ⟨z, c⟩ := p
  dsimp only at k ⊢
  go_enter Try.func18, Try.ntmps18
  go_wp2_with (go_at_call 9; with_reducible refine k.mono ?_; rintro e w1 ⟨rfl, hb1⟩)
  go_ret
  exact ⟨rfl, hb1⟩
/-- the numbers of a shift -/
theorem shift_nums (a n : Nat) (ha : a < 4294967296) : ∃ k P D S B N R mask high : Nat,
    n % 32 = k ∧ k < 32 ∧ 0 < P ∧ P ≤ 2147483648 ∧ 1 < D ∧ D ≤ 4294967296 ∧ P * D = 4294967296 ∧ 2 ^ k = P ∧
    (reckN 30 a n).1 = S ∧ (reckN 25 a k).1 = S ∧ S < 4294967296 ∧ (reckN 34 S n).1 = B ∧ (reckN 35 a n).1 = N ∧ (reckN 27 a k).1 = N ∧ (reckN 34 a n).1 = R ∧ (reckN 26 a k).1 = R ∧
    4294967295 / P = mask ∧ mask = D - 1 ∧ a &&& mask = B ∧ a / P = R ∧ R < 4294967296 ∧
    high = (if 2147483648 ≤ a then 4294967295 - mask else 0) ∧ R ||| high = N := by
  have hk : n % 32 < 32 := Nat.mod_lt _ (by decide)
  have hkk : n % 32 % 32 = n % 32 := Nat.mod_mod _ _
  have hD : 4294967296 / 2 ^ (n % 32) = 2 ^ (32 - n % 32) := by
    rw [show (4294967296 : Nat) = 2 ^ 32 by decide, Nat.pow_div (by omega) (by decide)]
  have hPD : 2 ^ (n % 32) * 2 ^ (32 - n % 32) = 4294967296 := by
    rw [← Nat.pow_add, show n % 32 + (32 - n % 32) = 32 by omega]
  have hP := (shf n).P0
  have hP1 := (shf n).P1
  have hD2 : 2 ^ 1 ≤ 2 ^ (32 - n % 32) := Nat.pow_le_pow_right (by decide) (by omega)
  have hDl : 2 ^ (32 - n % 32) ≤ 2 ^ 32 := Nat.pow_le_pow_right (by decide) (by omega)
  have hand : a &&& (2 ^ (32 - n % 32) - 1) = a % 2 ^ (32 - n % 32) := Nat.and_two_pow_sub_one_eq_mod a _
  have hor : ∀ x q, x < 2 ^ (32 - n % 32) → 2 ^ (32 - n % 32) * q + x = 2 ^ (32 - n % 32) * q ||| x := fun x q hx => Nat.two_pow_add_eq_or_of_lt hx q
  have hpc : (2 : Int) ^ (n % 32) = ((2 ^ (n % 32) : Nat) : Int) := by rw [Int.natCast_pow]; rfl
  have e30 : (reckN 30 a n).1 = a % (4294967296 / 2 ^ (n % 32)) * 2 ^ (n % 32) := rfl
  have e25 : (reckN 25 a (n % 32)).1 = a % (4294967296 / 2 ^ (n % 32)) * 2 ^ (n % 32) := by show a % (4294967296 / 2 ^ (n % 32 % 32)) * 2 ^ (n % 32 % 32) = _; rw [hkk]
  have e34 : ∀ x, (reckN 34 x n).1 = x / 2 ^ (n % 32) := fun _ => rfl
  have e26 : (reckN 26 a (n % 32)).1 = a / 2 ^ (n % 32) := by show a / 2 ^ (n % 32 % 32) = _; rw [hkk]
  have e35 : (reckN 35 a n).1 = lowA (sgA a / 2 ^ (n % 32)) := rfl
  have e27 : (reckN 27 a (n % 32)).1 = lowA (sgA a / 2 ^ (n % 32)) := by show lowA (sgA a / 2 ^ (n % 32 % 32)) = _; rw [hkk]
  rw [hpc] at e35 e27
  rw [hD] at e30 e25
  generalize hPe : 2 ^ (n % 32) = P at *
  generalize 2 ^ (32 - n % 32) = D at *
  have hmD := Nat.mod_lt a (show 0 < D by omega)
  have hS : a % D * P < 4294967296 := by
    have := Nat.mul_le_mul_right P (show a % D + 1 ≤ D from hmD)
    rw [Nat.add_mul, Nat.mul_comm D P, hPD] at this
    omega
  have hB : a % D * P / P = a % D := Nat.mul_div_cancel _ hP
  have hm : 4294967295 / P = D - 1 := by
    rw [← Nat.div_mul_cancel (show 1 ∣ 4294967295 from ⟨_, (Nat.one_mul _).symm⟩)]
    have h1 : P * (D - 1) + (P - 1) = 4294967295 := by
      rw [Nat.mul_sub, hPD, Nat.mul_one]
      have := Nat.le_mul_of_pos_right P (show 0 < D by omega)
      omega
    rw [Nat.div_one, Nat.mul_one, ← h1, Nat.mul_add_div hP, Nat.div_eq_of_lt (by omega : P - 1 < P), Nat.add_zero]
  have hR : a / P < D := (Nat.div_lt_iff_lt_mul hP).2 (by rw [Nat.mul_comm, hPD]; exact ha)
  refine ⟨n % 32, P, D, a % D * P, a % D, lowA (sgA a / (P : Int)), a / P, D - 1, if 2147483648 ≤ a then 4294967295 - (D - 1) else 0, rfl, hk, hP, hP1, by omega, by omega, hPD, ?_, e30, e25, hS, by rw [e34, hB], e35, e27, e34 a, e26, hm, rfl, by rw [hand], rfl, by omega, rfl, ?_⟩
  · exact hPe
  · have hdv : (a : Int) / (P : Int) = ((a / P : Nat) : Int) := by rw [Int.natCast_ediv]
    by_cases h : 2147483648 ≤ a
    · rw [if_pos h, show sgA a = (a : Int) - 4294967296 from if_pos h]
      have hM : (a : Int) - 4294967296 = (a : Int) + (P : Int) * (-(D : Int)) := by
        have : ((P * D : Nat) : Int) = 4294967296 := by rw [hPD]; rfl
        rw [Int.natCast_mul] at this
        rw [Int.mul_neg, this]
        omega
      rw [hM, Int.add_mul_ediv_left _ _ (by omega), hdv]
      have hDP : D * (P - 1) + D = 4294967296 := by
        rw [Nat.mul_sub, Nat.mul_comm D P, hPD, Nat.mul_one]
        omega
      have ho := hor (a / P) (P - 1) hR
      rw [show 4294967295 - (D - 1) = D * (P - 1) by omega, Nat.or_comm, ← ho]
      unfold lowA
      omega
    · rw [if_neg h, Nat.or_zero, show sgA a = (a : Int) from if_neg h, hdv]
      exact (lowA_nat _ (by omega)).symm
set_option maxRecDepth 100000 in
set_option maxHeartbeats 4000000 in
theorem shifts14_ok (H : AluOK) (a n : Nat) (w : World) (ha : a < 4294967296) (hn : n < 4294967296) :
    Calls Try.prog 6 #[.int .u32 (a : Int), .int .u32 (n : Int)] w fun e w' => e = .returned (.bool true) ∧ Below w.heap.size w w' := by
  obtain ⟨k, P, D, S, B, N, R, mask, high, hk, hk32, hP, hP1, hD, hDl, hPD, hPe, q1, q2, hSl, q3, q4, q5, q6, q7, hm, hmD, hB, hR, hRl, hh, ho⟩ := shift_nums a n ha
  have kF := fit14_ok H w
  have c1 := fun W => rS_any H 30 a n W ha hn
  rw [q1] at c1
  have c2 := fun W => rS_any H 34 S n W hSl hn
  rw [q3] at c2
  have c3 := fun W => rS_any H 35 a n W ha hn
  rw [q4] at c3
  have c4 := fun W => rS_any H 25 a k W ha (by omega)
  rw [q2] at c4
  have c5 := fun W => rS_any H 34 a n W ha hn
  rw [q6] at c5
  have c6 := fun W => rS_any H 26 a k W ha (by omega)
  rw [q7] at c6
  have c7 := fun W => rS_any H 27 a k W ha (by omega)
  rw [q5] at c7
  have e1 : bits .and .u32 (n : Int) 31 = (k : Int) := by
    rw [show (31 : Int) = ((31 : Nat) : Int) from rfl, u32_and_nat n 31 hn (by decide), show (31 : Nat) = 2 ^ 5 - 1 by decide, Nat.and_two_pow_sub_one_eq_mod]
    rw [← hk]
  have hkk : (k : Int).toNat = k := by omega
  have e2 : (4294967295 : Int) / 2 ^ k = (mask : Int) := by
    rw [show (2 : Int) ^ k = ((2 ^ k : Nat) : Int) by rw [Int.natCast_pow]; rfl, hPe, ← hm, Int.natCast_ediv]
    rfl
  have e3 : (a : Int) / 2 ^ k = (R : Int) := by
    rw [show (2 : Int) ^ k = ((2 ^ k : Nat) : Int) by rw [Int.natCast_pow]; rfl, hPe, ← hR, Int.natCast_ediv]
  have hml : mask < 4294967296 := by omega
  have e4 : bits .and .u32 (a : Int) (mask : Int) = (B : Int) := by rw [u32_and_nat a mask ha hml, hB]
  have hhl : high < 4294967296 := by rw [hh]; split <;> omega
  have e5 : bits .or .u32 (R : Int) (high : Int) = (N : Int) := by rw [u32_or_nat R high hRl hhl, ho]
  obtain ⟨nm, hnm⟩ : ∃ x, x = 4294967295 - mask := ⟨_, rfl⟩
  have e6 : (4294967295 : Int) - (mask : Int) = (nm : Int) := by omega
  have e8 : bits .xor .u32 (if IntKind.u32.signed = true then -1 else IntKind.u32.max) (mask : Int) = (nm : Int) := by
    show bits .xor .u32 ((4294967295 : Nat) : Int) (mask : Int) = _
    rw [u32_xor_nat 4294967295 mask (by decide) hml, hnm, sub_xor mask hml]
  have hkI : (k : Int) < 32 := by omega
  obtain ⟨t, ht⟩ : ∃ t, t = a / 2147483648 := ⟨_, rfl⟩
  have e7 : (a : Int) / 2147483648 = (t : Int) := by omega
  by_cases h : 2147483648 ≤ a
  · have ht1 : t = 1 := by omega
    rw [if_pos h, ← hnm] at hh
    subst hh
    rw [ht1] at e7
    clear q1 q2 q3 q4 q5 q6 q7 hm hmD hB hR ho hk hPe hPD hP hP1 hD hDl ht hnm ht1 h
    go_enter Try.func6, Try.ntmps6
    go_upto_region 11 with (first
      | (go_at_call 8; with_reducible refine kF.mono ?_; rintro e w0 ⟨rfl, hb0⟩)
      | (go_at_call 18; with_reducible refine (c1 _).mono ?_; rintro e w1 ⟨rfl, hb1⟩)
      | (go_at_call 18; with_reducible refine (c2 _).mono ?_; rintro e w2 ⟨rfl, hb2⟩)
      | (go_at_call 18; with_reducible refine (c3 _).mono ?_; rintro e w3 ⟨rfl, hb3⟩))
    go_wp2_with (first
      | (go_at_call 18; with_reducible refine (c1 _).mono ?_; rintro e w4 ⟨rfl, hb4⟩)
      | (go_at_call 18; with_reducible refine (c4 _).mono ?_; rintro e w5 ⟨rfl, hb5⟩)
      | (go_at_call 18; with_reducible refine (c5 _).mono ?_; rintro e w6 ⟨rfl, hb6⟩)
      | (go_at_call 18; with_reducible refine (c6 _).mono ?_; rintro e w7 ⟨rfl, hb7⟩)
      | (go_at_call 18; with_reducible refine (c7 _).mono ?_; rintro e w8 ⟨rfl, hb8⟩))
    go_ret
    have h1 := hb0.trans (hb1.mono hb0.size)
    have h2 := h1.trans (hb2.mono h1.size)
    have h3 := h2.trans (hb3.mono h2.size)
    have h4 := h3.trans (hb4.mono h3.size)
    have h5 := h4.trans (hb5.mono h4.size)
    have h6 := h5.trans (hb6.mono h5.size)
    have h7 := h6.trans (hb7.mono h6.size)
    exact ⟨rfl, h7.trans (hb8.mono h7.size)⟩
  · have ht1 : ((t : Int) == 1) = false := by simp only [beq_eq_false_iff_ne, ne_eq]; omega
    rw [if_neg h] at hh
    subst hh
    simp only [Int.cast_ofNat_Int] at e5
    clear q1 q2 q3 q4 q5 q6 q7 hm hmD hB hR ho hk hPe hPD hP hP1 hD hDl ht hnm h
    go_enter Try.func6, Try.ntmps6
    go_upto_region 11 with (first
      | (go_at_call 8; with_reducible refine kF.mono ?_; rintro e w0 ⟨rfl, hb0⟩)
      | (go_at_call 18; with_reducible refine (c1 _).mono ?_; rintro e w1 ⟨rfl, hb1⟩)
      | (go_at_call 18; with_reducible refine (c2 _).mono ?_; rintro e w2 ⟨rfl, hb2⟩)
      | (go_at_call 18; with_reducible refine (c3 _).mono ?_; rintro e w3 ⟨rfl, hb3⟩))
    go_wp2_with (first
      | (go_at_call 18; with_reducible refine (c1 _).mono ?_; rintro e w4 ⟨rfl, hb4⟩)
      | (go_at_call 18; with_reducible refine (c4 _).mono ?_; rintro e w5 ⟨rfl, hb5⟩)
      | (go_at_call 18; with_reducible refine (c5 _).mono ?_; rintro e w6 ⟨rfl, hb6⟩)
      | (go_at_call 18; with_reducible refine (c6 _).mono ?_; rintro e w7 ⟨rfl, hb7⟩)
      | (go_at_call 18; with_reducible refine (c7 _).mono ?_; rintro e w8 ⟨rfl, hb8⟩))
    go_ret
    have h1 := hb0.trans (hb1.mono hb0.size)
    have h2 := h1.trans (hb2.mono h1.size)
    have h3 := h2.trans (hb3.mono h2.size)
    have h4 := h3.trans (hb4.mono h3.size)
    have h5 := h4.trans (hb5.mono h4.size)
    have h6 := h5.trans (hb6.mono h5.size)
    have h7 := h6.trans (hb7.mono h6.size)
    exact ⟨rfl, h7.trans (hb8.mono h7.size)⟩
end Go.Proofs.Ytdkdbphcliblcaa.Al
