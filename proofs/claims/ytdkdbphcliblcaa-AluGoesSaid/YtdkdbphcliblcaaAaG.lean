/-
Layer 14: the reference's Reckon.
-/
import Derived.Test.YtdkdbphcliblcaaAaF
namespace Go.Proofs.Ytdkdbphcliblcaa.Al
open Go Go.RowKit

/-- what a shift goes by -/
structure Shf (b k P : Nat) : Prop where
  t : (b : Int).tmod 32 = (k : Int)
  m : (b : Int) % 32 = (k : Int)
  n : (k : Int).toNat = k
  p : (2 : Int) ^ k = (P : Int)
  k0 : k < 32
  P0 : 0 < P
  P1 : P ≤ 2147483648
theorem shf (b : Nat) : Shf b (b % 32) (2 ^ (b % 32)) where
  t := by rw [Int.tmod_eq_emod_of_nonneg (by omega)]; omega
  m := by omega
  n := by omega
  p := by rw [Int.natCast_pow]; rfl
  k0 := by omega
  P0 := Nat.two_pow_pos _
  P1 := Nat.le_trans (Nat.pow_le_pow_right (by decide) (show b % 32 ≤ 31 by omega)) (by decide)
theorem sll_in (a P : Nat) (hP : 0 < P) (hP1 : P ≤ 2147483648) : a % (4294967296 / P) * P < 4294967296 := by
  have hD : 0 < 4294967296 / P := Nat.div_pos (by omega) hP
  have h1 := Nat.mod_lt a hD
  have h2 := Nat.mul_le_mul_right P (show a % (4294967296 / P) + 1 ≤ 4294967296 / P from h1)
  have h3 := Nat.div_mul_le_self 4294967296 P
  rw [Nat.add_mul] at h2
  omega
theorem mul_low (a b : Nat) : lowA (((a * (b % 65536) : Nat) : Int) + ((lowA ((a * (b / 65536) : Nat) : Int) : Nat) : Int) * 65536) = lowA ((a : Int) * b) := by
  have e : (a : Int) * b = ((a * (b % 65536) : Nat) : Int) + ((a * (b / 65536) : Nat) : Int) * 65536 := by
    have := Nat.div_add_mod b 65536
    rw [← Int.natCast_mul]
    have e2 : a * b = a * (b % 65536) + a * (b / 65536) * 65536 := by
      rw [Nat.mul_assoc, ← Nat.mul_add]
      congr 1
      omega
    rw [e2, Int.natCast_add, Int.natCast_mul (a * (b / 65536)) 65536]
    rfl
  rw [e]
  generalize ((a * (b % 65536) : Nat) : Int) = u
  generalize ((a * (b / 65536) : Nat) : Int) = v
  unfold lowA
  omega
set_option maxRecDepth 100000 in
set_option maxHeartbeats 2000000 in
theorem reck_add (op : Int) (a b : Nat) (w : World) (hn : nmO op = ⟨#[97, 100, 100]⟩) (ha : a < 4294967296) (hb : b < 4294967296) : Calls Try.prog 10 #[.int .i64 op, .int .i64 (a : Int), .int .i64 (b : Int)] w fun e w' => e = .returned (.tuple #[.int .i64 ((lowA ((a : Int) + b) : Nat) : Int), .bool true]) ∧ Below w.heap.size w w' := by
  have kN := fun W => name_any op W
  rw [hn] at kN
  clear hn
  obtain ⟨k, P, hS⟩ : ∃ k P, k = b % 32 ∧ P = 2 ^ (b % 32) ∧ Shf b k P := ⟨_, _, rfl, rfl, shf b⟩
  obtain ⟨hk, hP, hS⟩ := hS
  have s1 := hS.t
  have s2 := hS.m
  have s3 := hS.n
  have s4 := hS.p
  have s5 := hS.P0
  have s6 : (P : Int) ≤ 2147483648 := by have := hS.P1; omega
  have s7 : 0 < (P : Int) := by omega
  have s8 : ¬ (P : Int) = 0 := by omega
  clear hk hP hS
  have kl := fun W => low_any ((a : Int) + b) W (by omega) (by omega)
  generalize lowA ((a : Int) + b) = z at *
  go_enter Try.func10, Try.ntmps10
  go_wp2_with (first | (go_at_call 28; with_reducible refine (kN _).mono ?_; rintro e w1 ⟨rfl, hb1⟩) | (go_at_call 29; with_reducible refine (kl _).mono ?_; rintro e w2 ⟨rfl, rfl⟩))
  go_ret2
  exact ⟨rfl, hb1⟩
set_option maxRecDepth 100000 in
set_option maxHeartbeats 2000000 in
theorem reck_sub (op : Int) (a b : Nat) (w : World) (hn : nmO op = ⟨#[115, 117, 98]⟩) (ha : a < 4294967296) (hb : b < 4294967296) : Calls Try.prog 10 #[.int .i64 op, .int .i64 (a : Int), .int .i64 (b : Int)] w fun e w' => e = .returned (.tuple #[.int .i64 ((lowA ((a : Int) - b) : Nat) : Int), .bool true]) ∧ Below w.heap.size w w' := by
  have kN := fun W => name_any op W
  rw [hn] at kN
  clear hn
  obtain ⟨k, P, hS⟩ : ∃ k P, k = b % 32 ∧ P = 2 ^ (b % 32) ∧ Shf b k P := ⟨_, _, rfl, rfl, shf b⟩
  obtain ⟨hk, hP, hS⟩ := hS
  have s1 := hS.t
  have s2 := hS.m
  have s3 := hS.n
  have s4 := hS.p
  have s5 := hS.P0
  have s6 : (P : Int) ≤ 2147483648 := by have := hS.P1; omega
  have s7 : 0 < (P : Int) := by omega
  have s8 : ¬ (P : Int) = 0 := by omega
  clear hk hP hS
  have kl := fun W => low_any ((a : Int) - b) W (by omega) (by omega)
  generalize lowA ((a : Int) - b) = z at *
  go_enter Try.func10, Try.ntmps10
  go_wp2_with (first | (go_at_call 28; with_reducible refine (kN _).mono ?_; rintro e w1 ⟨rfl, hb1⟩) | (go_at_call 29; with_reducible refine (kl _).mono ?_; rintro e w2 ⟨rfl, rfl⟩))
  go_ret2
  exact ⟨rfl, hb1⟩
set_option maxRecDepth 100000 in
set_option maxHeartbeats 2000000 in
theorem reck_sll (op : Int) (a b : Nat) (w : World) (hn : nmO op = ⟨#[115, 108, 108]⟩) (ha : a < 4294967296) (_hb : b < 4294967296) : Calls Try.prog 10 #[.int .i64 op, .int .i64 (a : Int), .int .i64 (b : Int)] w fun e w' => e = .returned (.tuple #[.int .i64 ((a % (4294967296 / 2 ^ (b % 32)) * 2 ^ (b % 32) : Nat) : Int), .bool true]) ∧ Below w.heap.size w w' := by
  have kN := fun W => name_any op W
  rw [hn] at kN
  clear hn
  obtain ⟨k, P, hS⟩ : ∃ k P, k = b % 32 ∧ P = 2 ^ (b % 32) ∧ Shf b k P := ⟨_, _, rfl, rfl, shf b⟩
  obtain ⟨hk, hP, hS⟩ := hS
  have s1 := hS.t
  have s2 := hS.m
  have s3 := hS.n
  have s4 := hS.p
  have s5 := hS.P0
  have s6 : (P : Int) ≤ 2147483648 := by have := hS.P1; omega
  have s7 : 0 < (P : Int) := by omega
  have s8 : ¬ (P : Int) = 0 := by omega
  rw [← hP]
  have hz := sll_in a P s5 hS.P1
  have hD0 : 0 < 4294967296 / P := Nat.div_pos (by omega) s5
  have hDl : 4294967296 / P ≤ 4294967296 := Nat.div_le_self _ _
  obtain ⟨D, hD⟩ : ∃ D, D = 4294967296 / P := ⟨_, rfl⟩
  have e1 : (4294967296 : Int).tdiv (P : Int) = (D : Int) := by rw [hD, Int.natCast_ediv, Int.tdiv_eq_ediv_of_nonneg (by omega)]; rfl
  rw [← hD] at hz hD0 hDl ⊢
  obtain ⟨R, hR⟩ : ∃ R, R = a % D := ⟨_, rfl⟩
  have e2 : (a : Int).tmod (D : Int) = (R : Int) := by rw [hR, Int.natCast_emod, Int.tmod_eq_emod_of_nonneg (by omega)]
  rw [← hR] at hz ⊢
  obtain ⟨Z, hZ⟩ : ∃ Z, Z = R * P := ⟨_, rfl⟩
  have e3 : (R : Int) * (P : Int) = (Z : Int) := by rw [hZ, Int.natCast_mul]
  rw [← hZ] at hz ⊢
  have hzI : (Z : Int) < 4294967296 := by omega
  have hDI : (D : Int) ≤ 4294967296 := by omega
  have hDne : ¬ (D : Int) = 0 := by omega
  clear hk hP hS hD hR hZ hz
  go_enter Try.func10, Try.ntmps10
  go_wp2_with (go_at_call 28; with_reducible refine (kN _).mono ?_; rintro e w1 ⟨rfl, hb1⟩)
  go_ret2
  exact ⟨rfl, hb1⟩
set_option maxRecDepth 100000 in
set_option maxHeartbeats 2000000 in
theorem reck_srl (op : Int) (a b : Nat) (w : World) (hn : nmO op = ⟨#[115, 114, 108]⟩) (ha : a < 4294967296) (_hb : b < 4294967296) : Calls Try.prog 10 #[.int .i64 op, .int .i64 (a : Int), .int .i64 (b : Int)] w fun e w' => e = .returned (.tuple #[.int .i64 ((a / 2 ^ (b % 32) : Nat) : Int), .bool true]) ∧ Below w.heap.size w w' := by
  have kN := fun W => name_any op W
  rw [hn] at kN
  clear hn
  obtain ⟨k, P, hS⟩ : ∃ k P, k = b % 32 ∧ P = 2 ^ (b % 32) ∧ Shf b k P := ⟨_, _, rfl, rfl, shf b⟩
  obtain ⟨hk, hP, hS⟩ := hS
  have s1 := hS.t
  have s2 := hS.m
  have s3 := hS.n
  have s4 := hS.p
  have s5 := hS.P0
  have s6 : (P : Int) ≤ 2147483648 := by have := hS.P1; omega
  have s7 : 0 < (P : Int) := by omega
  have s8 : ¬ (P : Int) = 0 := by omega
  rw [← hP]
  have hz : a / P ≤ a := Nat.div_le_self _ _
  obtain ⟨Z, hZ⟩ : ∃ Z, Z = a / P := ⟨_, rfl⟩
  have e1 : (a : Int).tdiv (P : Int) = (Z : Int) := by rw [hZ, Int.natCast_ediv, Int.tdiv_eq_ediv_of_nonneg (by omega)]
  rw [← hZ] at hz ⊢
  have hzI : (Z : Int) < 4294967296 := by omega
  clear hk hP hS hZ hz
  go_enter Try.func10, Try.ntmps10
  go_wp2_with (go_at_call 28; with_reducible refine (kN _).mono ?_; rintro e w1 ⟨rfl, hb1⟩)
  go_ret2
  exact ⟨rfl, hb1⟩
set_option maxRecDepth 100000 in
set_option maxHeartbeats 2000000 in
theorem reck_sra (op : Int) (a b : Nat) (w : World) (hn : nmO op = ⟨#[115, 114, 97]⟩) (ha : a < 4294967296) (hb : b < 4294967296) : Calls Try.prog 10 #[.int .i64 op, .int .i64 (a : Int), .int .i64 (b : Int)] w fun e w' => e = .returned (.tuple #[.int .i64 ((lowA (sgA a / 2 ^ (b % 32)) : Nat) : Int), .bool true]) ∧ Below w.heap.size w w' := by
  have kN := fun W => name_any op W
  rw [hn] at kN
  clear hn
  obtain ⟨k, P, hS⟩ : ∃ k P, k = b % 32 ∧ P = 2 ^ (b % 32) ∧ Shf b k P := ⟨_, _, rfl, rfl, shf b⟩
  obtain ⟨hk, hP, hS⟩ := hS
  have s1 := hS.t
  have s2 := hS.m
  have s3 := hS.n
  have s4 := hS.p
  have s5 := hS.P0
  have s6 : (P : Int) ≤ 2147483648 := by have := hS.P1; omega
  have s7 : 0 < (P : Int) := by omega
  have s8 : ¬ (P : Int) = 0 := by omega
  have hPc : (2 : Int) ^ (b % 32) = (P : Int) := by rw [← hk]; exact s4
  rw [hPc]
  have ka := fun W => sign_any' a W ha
  have kb := fun W => sign_any' b W hb
  have hxa := sgA_in a ha
  have hxb := sgA_in b hb
  have kf := fun W => floor_any (sgA a) (P : Int) W (by omega) (by omega) s7 (by omega)
  have hq : -2147483648 ≤ sgA a / (P : Int) ∧ sgA a / (P : Int) ≤ 2147483648 := by
    constructor
    · refine (Int.le_ediv_iff_mul_le s7).2 ?_
      have := Int.mul_le_mul_of_nonpos_left (show (-2147483648 : Int) ≤ 0 by decide) (show (1 : Int) ≤ (P : Int) by omega)
      omega
    · by_cases hx : 0 ≤ sgA a
      · have := Int.ediv_le_self (P : Int) hx
        omega
      · have := Int.ediv_lt_of_lt_mul s7 (show sgA a < 0 * (P : Int) by omega)
        omega
  have kl := fun W => low_any (sgA a / (P : Int)) W (by omega) (by omega)
  clear hk hP hS hPc hq
  generalize sgA a / (P : Int) = q at *
  generalize lowA q = z at *
  generalize sgA a = x at *
  go_enter Try.func10, Try.ntmps10
  go_wp2_with (first | (go_at_call 28; with_reducible refine (kN _).mono ?_; rintro e w1 ⟨rfl, hb1⟩) | (go_at_call 31; with_reducible refine (ka _).mono ?_; rintro e w2 ⟨rfl, rfl⟩) | (go_at_call 30; with_reducible refine (kf _).mono ?_; rintro e w2 ⟨rfl, rfl⟩) | (go_at_call 29; with_reducible refine (kl _).mono ?_; rintro e w2 ⟨rfl, rfl⟩))
  go_ret2
  exact ⟨rfl, hb1⟩
set_option maxRecDepth 100000 in
set_option maxHeartbeats 2000000 in
theorem reck_slt (op : Int) (a b : Nat) (w : World) (hn : nmO op = ⟨#[115, 108, 116]⟩) (ha : a < 4294967296) (hb : b < 4294967296) : Calls Try.prog 10 #[.int .i64 op, .int .i64 (a : Int), .int .i64 (b : Int)] w fun e w' => e = .returned (.tuple #[.int .i64 (((decide (sgA a < sgA b)).toNat : Nat) : Int), .bool true]) ∧ Below w.heap.size w w' := by
  have kN := fun W => name_any op W
  rw [hn] at kN
  clear hn
  obtain ⟨k, P, hS⟩ : ∃ k P, k = b % 32 ∧ P = 2 ^ (b % 32) ∧ Shf b k P := ⟨_, _, rfl, rfl, shf b⟩
  obtain ⟨hk, hP, hS⟩ := hS
  have s1 := hS.t
  have s2 := hS.m
  have s3 := hS.n
  have s4 := hS.p
  have s5 := hS.P0
  have s6 : (P : Int) ≤ 2147483648 := by have := hS.P1; omega
  have s7 : 0 < (P : Int) := by omega
  have s8 : ¬ (P : Int) = 0 := by omega
  clear hk hP hS
  have ka := fun W => sign_any' a W ha
  have kb := fun W => sign_any' b W hb
  have hxa := sgA_in a ha
  have hxb := sgA_in b hb
  generalize sgA a = x at *
  generalize sgA b = y at *
  have kt := fun W => truth_any (decide (x < y)) W
  generalize hd : decide (x < y) = d at *
  have hd2 := Lib.hid hd
  go_enter Try.func10, Try.ntmps10
  go_wp2_with (first | (go_at_call 28; with_reducible refine (kN _).mono ?_; rintro e w1 ⟨rfl, hb1⟩) | (go_at_call 31; with_reducible refine (ka _).mono ?_; rintro e w2 ⟨rfl, rfl⟩) | (go_at_call 31; with_reducible refine (kb _).mono ?_; rintro e w2 ⟨rfl, rfl⟩) | (go_at_call 32; with_reducible refine (kt _).mono ?_; rintro e w2 ⟨rfl, rfl⟩))
  go_ret2
  exact ⟨rfl, hb1⟩
set_option maxRecDepth 100000 in
set_option maxHeartbeats 2000000 in
theorem reck_sltu (op : Int) (a b : Nat) (w : World) (hn : nmO op = ⟨#[115, 108, 116, 117]⟩) (_ha : a < 4294967296) (_hb : b < 4294967296) : Calls Try.prog 10 #[.int .i64 op, .int .i64 (a : Int), .int .i64 (b : Int)] w fun e w' => e = .returned (.tuple #[.int .i64 (((decide (a < b)).toNat : Nat) : Int), .bool true]) ∧ Below w.heap.size w w' := by
  have kN := fun W => name_any op W
  rw [hn] at kN
  clear hn
  obtain ⟨k, P, hS⟩ : ∃ k P, k = b % 32 ∧ P = 2 ^ (b % 32) ∧ Shf b k P := ⟨_, _, rfl, rfl, shf b⟩
  obtain ⟨hk, hP, hS⟩ := hS
  have s1 := hS.t
  have s2 := hS.m
  have s3 := hS.n
  have s4 := hS.p
  have s5 := hS.P0
  have s6 : (P : Int) ≤ 2147483648 := by have := hS.P1; omega
  have s7 : 0 < (P : Int) := by omega
  have s8 : ¬ (P : Int) = 0 := by omega
  clear hk hP hS
  have kt := fun W => truth_any (decide (a < b)) W
  have hd0 : decide ((a : Int) < (b : Int)) = decide (a < b) := by simp
  generalize hd : decide (a < b) = d at *
  go_enter Try.func10, Try.ntmps10
  go_wp2_with (first | (go_at_call 28; with_reducible refine (kN _).mono ?_; rintro e w1 ⟨rfl, hb1⟩) | (go_at_call 32; with_reducible refine (kt _).mono ?_; rintro e w2 ⟨rfl, rfl⟩))
  go_ret2
  exact ⟨rfl, hb1⟩
set_option maxRecDepth 100000 in
set_option maxHeartbeats 2000000 in
theorem reck_xor (op : Int) (a b : Nat) (w : World) (hn : nmO op = ⟨#[120, 111, 114]⟩) (ha : a < 4294967296) (hb : b < 4294967296) : Calls Try.prog 10 #[.int .i64 op, .int .i64 (a : Int), .int .i64 (b : Int)] w fun e w' => e = .returned (.tuple #[.int .i64 ((a ^^^ b : Nat) : Int), .bool true]) ∧ Below w.heap.size w w' := by
  have kN := fun W => name_any op W
  rw [hn] at kN
  clear hn
  obtain ⟨k, P, hS⟩ : ∃ k P, k = b % 32 ∧ P = 2 ^ (b % 32) ∧ Shf b k P := ⟨_, _, rfl, rfl, shf b⟩
  obtain ⟨hk, hP, hS⟩ := hS
  have s1 := hS.t
  have s2 := hS.m
  have s3 := hS.n
  have s4 := hS.p
  have s5 := hS.P0
  have s6 : (P : Int) ≤ 2147483648 := by have := hS.P1; omega
  have s7 : 0 < (P : Int) := by omega
  have s8 : ¬ (P : Int) = 0 := by omega
  clear hk hP hS
  have kw : ∀ W, Calls Try.prog 33 #[.int .i64 (a : Int), .int .i64 (b : Int), .agg #[.int .i64 0, .int .i64 1, .int .i64 1, .int .i64 0]] W fun e w' => e = .returned (.int .i64 ((a ^^^ b : Nat) : Int)) ∧ Below W.heap.size W w' := fun W => by
    have := bitwise_any tX (by decide) a b W ha hb
    rw [bw_xor a b ha hb] at this
    exact this
  generalize a ^^^ b = z at *
  go_enter Try.func10, Try.ntmps10
  go_wp2_with (first | (go_at_call 28; with_reducible refine (kN _).mono ?_; rintro e w1 ⟨rfl, hb1⟩) | (go_at_call 33; with_reducible refine (kw _).mono ?_; rintro e w2 ⟨rfl, hb2⟩))
  go_ret2
  exact ⟨rfl, hb1.trans (hb2.mono hb1.size)⟩
set_option maxRecDepth 100000 in
set_option maxHeartbeats 2000000 in
theorem reck_or (op : Int) (a b : Nat) (w : World) (hn : nmO op = ⟨#[111, 114]⟩) (ha : a < 4294967296) (hb : b < 4294967296) : Calls Try.prog 10 #[.int .i64 op, .int .i64 (a : Int), .int .i64 (b : Int)] w fun e w' => e = .returned (.tuple #[.int .i64 ((a ||| b : Nat) : Int), .bool true]) ∧ Below w.heap.size w w' := by
  have kN := fun W => name_any op W
  rw [hn] at kN
  clear hn
  obtain ⟨k, P, hS⟩ : ∃ k P, k = b % 32 ∧ P = 2 ^ (b % 32) ∧ Shf b k P := ⟨_, _, rfl, rfl, shf b⟩
  obtain ⟨hk, hP, hS⟩ := hS
  have s1 := hS.t
  have s2 := hS.m
  have s3 := hS.n
  have s4 := hS.p
  have s5 := hS.P0
  have s6 : (P : Int) ≤ 2147483648 := by have := hS.P1; omega
  have s7 : 0 < (P : Int) := by omega
  have s8 : ¬ (P : Int) = 0 := by omega
  clear hk hP hS
  have kw : ∀ W, Calls Try.prog 33 #[.int .i64 (a : Int), .int .i64 (b : Int), .agg #[.int .i64 0, .int .i64 1, .int .i64 1, .int .i64 1]] W fun e w' => e = .returned (.int .i64 ((a ||| b : Nat) : Int)) ∧ Below W.heap.size W w' := fun W => by
    have := bitwise_any tO (by decide) a b W ha hb
    rw [bw_or a b ha hb] at this
    exact this
  generalize a ||| b = z at *
  go_enter Try.func10, Try.ntmps10
  go_wp2_with (first | (go_at_call 28; with_reducible refine (kN _).mono ?_; rintro e w1 ⟨rfl, hb1⟩) | (go_at_call 33; with_reducible refine (kw _).mono ?_; rintro e w2 ⟨rfl, hb2⟩))
  go_ret2
  exact ⟨rfl, hb1.trans (hb2.mono hb1.size)⟩
set_option maxRecDepth 100000 in
set_option maxHeartbeats 2000000 in
theorem reck_and (op : Int) (a b : Nat) (w : World) (hn : nmO op = ⟨#[97, 110, 100]⟩) (ha : a < 4294967296) (hb : b < 4294967296) : Calls Try.prog 10 #[.int .i64 op, .int .i64 (a : Int), .int .i64 (b : Int)] w fun e w' => e = .returned (.tuple #[.int .i64 ((a &&& b : Nat) : Int), .bool true]) ∧ Below w.heap.size w w' := by
  have kN := fun W => name_any op W
  rw [hn] at kN
  clear hn
  obtain ⟨k, P, hS⟩ : ∃ k P, k = b % 32 ∧ P = 2 ^ (b % 32) ∧ Shf b k P := ⟨_, _, rfl, rfl, shf b⟩
  obtain ⟨hk, hP, hS⟩ := hS
  have s1 := hS.t
  have s2 := hS.m
  have s3 := hS.n
  have s4 := hS.p
  have s5 := hS.P0
  have s6 : (P : Int) ≤ 2147483648 := by have := hS.P1; omega
  have s7 : 0 < (P : Int) := by omega
  have s8 : ¬ (P : Int) = 0 := by omega
  clear hk hP hS
  have kw : ∀ W, Calls Try.prog 33 #[.int .i64 (a : Int), .int .i64 (b : Int), .agg #[.int .i64 0, .int .i64 0, .int .i64 0, .int .i64 1]] W fun e w' => e = .returned (.int .i64 ((a &&& b : Nat) : Int)) ∧ Below W.heap.size W w' := fun W => by
    have := bitwise_any tA (by decide) a b W ha hb
    rw [bw_and a b ha] at this
    exact this
  generalize a &&& b = z at *
  go_enter Try.func10, Try.ntmps10
  go_wp2_with (first | (go_at_call 28; with_reducible refine (kN _).mono ?_; rintro e w1 ⟨rfl, hb1⟩) | (go_at_call 33; with_reducible refine (kw _).mono ?_; rintro e w2 ⟨rfl, hb2⟩))
  go_ret2
  exact ⟨rfl, hb1.trans (hb2.mono hb1.size)⟩
set_option maxRecDepth 100000 in
set_option maxHeartbeats 2000000 in
theorem reck_mul (op : Int) (a b : Nat) (w : World) (hn : nmO op = ⟨#[109, 117, 108]⟩) (ha : a < 4294967296) (hb : b < 4294967296) : Calls Try.prog 10 #[.int .i64 op, .int .i64 (a : Int), .int .i64 (b : Int)] w fun e w' => e = .returned (.tuple #[.int .i64 ((lowA ((a : Int) * b) : Nat) : Int), .bool true]) ∧ Below w.heap.size w w' := by
  have kN := fun W => name_any op W
  rw [hn] at kN
  clear hn
  obtain ⟨k, P, hS⟩ : ∃ k P, k = b % 32 ∧ P = 2 ^ (b % 32) ∧ Shf b k P := ⟨_, _, rfl, rfl, shf b⟩
  obtain ⟨hk, hP, hS⟩ := hS
  have s1 := hS.t
  have s2 := hS.m
  have s3 := hS.n
  have s4 := hS.p
  have s5 := hS.P0
  have s6 : (P : Int) ≤ 2147483648 := by have := hS.P1; omega
  have s7 : 0 < (P : Int) := by omega
  have s8 : ¬ (P : Int) = 0 := by omega
  rw [← mul_low a b]
  clear hk hP hS
  obtain ⟨l, hl⟩ : ∃ l, l = b % 65536 := ⟨_, rfl⟩
  obtain ⟨h, hh⟩ : ∃ h, h = b / 65536 := ⟨_, rfl⟩
  have e1 : (b : Int).tmod 65536 = (l : Int) := by rw [Int.tmod_eq_emod_of_nonneg (by omega)]; omega
  have e2 : (b : Int).tdiv 65536 = (h : Int) := by rw [Int.tdiv_eq_ediv_of_nonneg (by omega)]; omega
  rw [← hl, ← hh]
  have hp := Nat.mul_le_mul (show a ≤ 4294967296 by omega) (show l ≤ 65536 by omega)
  have hq := Nat.mul_le_mul (show a ≤ 4294967296 by omega) (show h ≤ 65536 by omega)
  obtain ⟨p, hpp⟩ : ∃ p, p = a * l := ⟨_, rfl⟩
  obtain ⟨q, hqq⟩ : ∃ q, q = a * h := ⟨_, rfl⟩
  have e3 : (a : Int) * (l : Int) = (p : Int) := by rw [hpp, Int.natCast_mul]
  have e4 : (a : Int) * (h : Int) = (q : Int) := by rw [hqq, Int.natCast_mul]
  rw [← hpp] at hp ⊢
  rw [← hqq] at hq ⊢
  have kl := fun W => low_any (q : Int) W (by omega) (by omega)
  have hzl := lowA_lt (q : Int)
  generalize lowA (q : Int) = z at *
  obtain ⟨zz, hzz⟩ : ∃ x, x = z * 65536 := ⟨_, rfl⟩
  obtain ⟨t, ht⟩ : ∃ x, x = p + zz := ⟨_, rfl⟩
  have e6 : (z : Int) * 65536 = (zz : Int) := by omega
  have e5 : (p : Int) + (zz : Int) = (t : Int) := by omega
  rw [e6, e5]
  have km := fun W => low_any (t : Int) W (by omega) (by omega)
  generalize lowA (t : Int) = y at *
  have htI : (t : Int) ≤ 562949953421312 := by omega
  have hzzI : (zz : Int) ≤ 281474976710656 := by omega
  have hhI : (h : Int) ≤ 65536 := by omega
  have hlI : (l : Int) ≤ 65536 := by omega
  have hpI : (p : Int) ≤ 281474976710656 := by omega
  have hqI : (q : Int) ≤ 281474976710656 := by omega
  have hzI : (z : Int) < 4294967296 := by omega
  clear hl hh hpp hqq hp hq hzl hzz ht
  go_enter Try.func10, Try.ntmps10
  go_wp2_with (first | (go_at_call 28; with_reducible refine (kN _).mono ?_; rintro e w1 ⟨rfl, hb1⟩) | (go_at_call 29; with_reducible refine (kl _).mono ?_; rintro e w2 ⟨rfl, rfl⟩) | (go_at_call 29; with_reducible refine (km _).mono ?_; rintro e w2 ⟨rfl, rfl⟩))
  go_ret2
  exact ⟨rfl, hb1⟩
set_option maxRecDepth 100000 in
set_option maxHeartbeats 2000000 in
theorem reck_mulh (op : Int) (a b : Nat) (w : World) (hn : nmO op = ⟨#[109, 117, 108, 104]⟩) (ha : a < 4294967296) (hb : b < 4294967296) : Calls Try.prog 10 #[.int .i64 op, .int .i64 (a : Int), .int .i64 (b : Int)] w fun e w' => e = .returned (.tuple #[.int .i64 ((hiA (sgA a) (sgA b) : Nat) : Int), .bool true]) ∧ Below w.heap.size w w' := by
  have kN := fun W => name_any op W
  rw [hn] at kN
  clear hn
  obtain ⟨k, P, hS⟩ : ∃ k P, k = b % 32 ∧ P = 2 ^ (b % 32) ∧ Shf b k P := ⟨_, _, rfl, rfl, shf b⟩
  obtain ⟨hk, hP, hS⟩ := hS
  have s1 := hS.t
  have s2 := hS.m
  have s3 := hS.n
  have s4 := hS.p
  have s5 := hS.P0
  have s6 : (P : Int) ≤ 2147483648 := by have := hS.P1; omega
  have s7 : 0 < (P : Int) := by omega
  have s8 : ¬ (P : Int) = 0 := by omega
  clear hk hP hS
  have ka := fun W => sign_any' a W ha
  have kb := fun W => sign_any' b W hb
  have hxa := sgA_in a ha
  have hxb := sgA_in b hb
  have kh := fun W => high_any (sgA a) (sgA b) W (by omega) (by omega)
  generalize hiA (sgA a) (sgA b) = z at *
  generalize sgA a = x at *
  generalize sgA b = y at *
  go_enter Try.func10, Try.ntmps10
  go_wp2_with (first | (go_at_call 28; with_reducible refine (kN _).mono ?_; rintro e w1 ⟨rfl, hb1⟩) | (go_at_call 31; with_reducible refine (ka _).mono ?_; rintro e w2 ⟨rfl, rfl⟩) | (go_at_call 31; with_reducible refine (kb _).mono ?_; rintro e w2 ⟨rfl, rfl⟩) | (go_at_call 34; with_reducible refine (kh _).mono ?_; rintro e w2 ⟨rfl, rfl⟩))
  go_ret2
  exact ⟨rfl, hb1⟩
set_option maxRecDepth 100000 in
set_option maxHeartbeats 2000000 in
theorem reck_mulhsu (op : Int) (a b : Nat) (w : World) (hn : nmO op = ⟨#[109, 117, 108, 104, 115, 117]⟩) (ha : a < 4294967296) (hb : b < 4294967296) : Calls Try.prog 10 #[.int .i64 op, .int .i64 (a : Int), .int .i64 (b : Int)] w fun e w' => e = .returned (.tuple #[.int .i64 ((hiA (sgA a) b : Nat) : Int), .bool true]) ∧ Below w.heap.size w w' := by
  have kN := fun W => name_any op W
  rw [hn] at kN
  clear hn
  obtain ⟨k, P, hS⟩ : ∃ k P, k = b % 32 ∧ P = 2 ^ (b % 32) ∧ Shf b k P := ⟨_, _, rfl, rfl, shf b⟩
  obtain ⟨hk, hP, hS⟩ := hS
  have s1 := hS.t
  have s2 := hS.m
  have s3 := hS.n
  have s4 := hS.p
  have s5 := hS.P0
  have s6 : (P : Int) ≤ 2147483648 := by have := hS.P1; omega
  have s7 : 0 < (P : Int) := by omega
  have s8 : ¬ (P : Int) = 0 := by omega
  clear hk hP hS
  have ka := fun W => sign_any' a W ha
  have kb := fun W => sign_any' b W hb
  have hxa := sgA_in a ha
  have hxb := sgA_in b hb
  have kh := fun W => high_any (sgA a) (b : Int) W (by omega) (by omega)
  generalize hiA (sgA a) b = z at *
  generalize sgA a = x at *
  generalize sgA b = y at *
  go_enter Try.func10, Try.ntmps10
  go_wp2_with (first | (go_at_call 28; with_reducible refine (kN _).mono ?_; rintro e w1 ⟨rfl, hb1⟩) | (go_at_call 31; with_reducible refine (ka _).mono ?_; rintro e w2 ⟨rfl, rfl⟩) | (go_at_call 34; with_reducible refine (kh _).mono ?_; rintro e w2 ⟨rfl, rfl⟩))
  go_ret2
  exact ⟨rfl, hb1⟩
set_option maxRecDepth 100000 in
set_option maxHeartbeats 2000000 in
theorem reck_mulhu (op : Int) (a b : Nat) (w : World) (hn : nmO op = ⟨#[109, 117, 108, 104, 117]⟩) (ha : a < 4294967296) (hb : b < 4294967296) : Calls Try.prog 10 #[.int .i64 op, .int .i64 (a : Int), .int .i64 (b : Int)] w fun e w' => e = .returned (.tuple #[.int .i64 ((hiA a b : Nat) : Int), .bool true]) ∧ Below w.heap.size w w' := by
  have kN := fun W => name_any op W
  rw [hn] at kN
  clear hn
  obtain ⟨k, P, hS⟩ : ∃ k P, k = b % 32 ∧ P = 2 ^ (b % 32) ∧ Shf b k P := ⟨_, _, rfl, rfl, shf b⟩
  obtain ⟨hk, hP, hS⟩ := hS
  have s1 := hS.t
  have s2 := hS.m
  have s3 := hS.n
  have s4 := hS.p
  have s5 := hS.P0
  have s6 : (P : Int) ≤ 2147483648 := by have := hS.P1; omega
  have s7 : 0 < (P : Int) := by omega
  have s8 : ¬ (P : Int) = 0 := by omega
  clear hk hP hS
  have kh := fun W => high_any (a : Int) (b : Int) W (by omega) (by omega)
  generalize hiA (a : Int) (b : Int) = z at *
  go_enter Try.func10, Try.ntmps10
  go_wp2_with (first | (go_at_call 28; with_reducible refine (kN _).mono ?_; rintro e w1 ⟨rfl, hb1⟩) | (go_at_call 34; with_reducible refine (kh _).mono ?_; rintro e w2 ⟨rfl, rfl⟩))
  go_ret2
  exact ⟨rfl, hb1⟩
set_option maxRecDepth 100000 in
set_option maxHeartbeats 2000000 in
theorem reck_div (op : Int) (a b : Nat) (w : World) (hn : nmO op = ⟨#[100, 105, 118]⟩) (ha : a < 4294967296) (hb : b < 4294967296) : Calls Try.prog 10 #[.int .i64 op, .int .i64 (a : Int), .int .i64 (b : Int)] w fun e w' => e = .returned (.tuple #[.int .i64 ((if b = 0 then 4294967295 else lowA ((sgA a).tdiv (sgA b)) : Nat) : Int), .bool true]) ∧ Below w.heap.size w w' := by
  have kN := fun W => name_any op W
  rw [hn] at kN
  clear hn
  obtain ⟨k, P, hS⟩ : ∃ k P, k = b % 32 ∧ P = 2 ^ (b % 32) ∧ Shf b k P := ⟨_, _, rfl, rfl, shf b⟩
  obtain ⟨hk, hP, hS⟩ := hS
  have s1 := hS.t
  have s2 := hS.m
  have s3 := hS.n
  have s4 := hS.p
  have s5 := hS.P0
  have s6 : (P : Int) ≤ 2147483648 := by have := hS.P1; omega
  have s7 : 0 < (P : Int) := by omega
  have s8 : ¬ (P : Int) = 0 := by omega
  clear hk hP hS
  have kq := fun W => quot_div a b W ha hb
  generalize (if b = 0 then 4294967295 else lowA ((sgA a).tdiv (sgA b))) = z at *
  go_enter Try.func10, Try.ntmps10
  go_upto_region 31 with (go_at_call 28; with_reducible refine (kN _).mono ?_; rintro e w1 ⟨rfl, hb1⟩)
  go_wp2_with (first | (go_at_call 28; with_reducible refine (kN _).mono ?_; rintro e wn ⟨rfl, hbn⟩) | (go_at_call 35; with_reducible refine (kq _).mono ?_; rintro e w2 ⟨rfl, rfl⟩))
  go_ret2
  exact ⟨rfl, hb1.trans (hbn.mono hb1.size)⟩
set_option maxRecDepth 100000 in
set_option maxHeartbeats 2000000 in
theorem reck_divu (op : Int) (a b : Nat) (w : World) (hn : nmO op = ⟨#[100, 105, 118, 117]⟩) (ha : a < 4294967296) (hb : b < 4294967296) : Calls Try.prog 10 #[.int .i64 op, .int .i64 (a : Int), .int .i64 (b : Int)] w fun e w' => e = .returned (.tuple #[.int .i64 ((if b = 0 then 4294967295 else a / b : Nat) : Int), .bool true]) ∧ Below w.heap.size w w' := by
  have kN := fun W => name_any op W
  rw [hn] at kN
  clear hn
  obtain ⟨k, P, hS⟩ : ∃ k P, k = b % 32 ∧ P = 2 ^ (b % 32) ∧ Shf b k P := ⟨_, _, rfl, rfl, shf b⟩
  obtain ⟨hk, hP, hS⟩ := hS
  have s1 := hS.t
  have s2 := hS.m
  have s3 := hS.n
  have s4 := hS.p
  have s5 := hS.P0
  have s6 : (P : Int) ≤ 2147483648 := by have := hS.P1; omega
  have s7 : 0 < (P : Int) := by omega
  have s8 : ¬ (P : Int) = 0 := by omega
  clear hk hP hS
  have kq := fun W => quot_divu a b W ha hb
  generalize (if b = 0 then 4294967295 else a / b) = z at *
  go_enter Try.func10, Try.ntmps10
  go_upto_region 31 with (go_at_call 28; with_reducible refine (kN _).mono ?_; rintro e w1 ⟨rfl, hb1⟩)
  go_wp2_with (first | (go_at_call 28; with_reducible refine (kN _).mono ?_; rintro e wn ⟨rfl, hbn⟩) | (go_at_call 35; with_reducible refine (kq _).mono ?_; rintro e w2 ⟨rfl, rfl⟩))
  go_ret2
  exact ⟨rfl, hb1.trans (hbn.mono hb1.size)⟩
set_option maxRecDepth 100000 in
set_option maxHeartbeats 2000000 in
theorem reck_rem (op : Int) (a b : Nat) (w : World) (hn : nmO op = ⟨#[114, 101, 109]⟩) (ha : a < 4294967296) (hb : b < 4294967296) : Calls Try.prog 10 #[.int .i64 op, .int .i64 (a : Int), .int .i64 (b : Int)] w fun e w' => e = .returned (.tuple #[.int .i64 ((if b = 0 then a else lowA ((sgA a).tmod (sgA b)) : Nat) : Int), .bool true]) ∧ Below w.heap.size w w' := by
  have kN := fun W => name_any op W
  rw [hn] at kN
  clear hn
  obtain ⟨k, P, hS⟩ : ∃ k P, k = b % 32 ∧ P = 2 ^ (b % 32) ∧ Shf b k P := ⟨_, _, rfl, rfl, shf b⟩
  obtain ⟨hk, hP, hS⟩ := hS
  have s1 := hS.t
  have s2 := hS.m
  have s3 := hS.n
  have s4 := hS.p
  have s5 := hS.P0
  have s6 : (P : Int) ≤ 2147483648 := by have := hS.P1; omega
  have s7 : 0 < (P : Int) := by omega
  have s8 : ¬ (P : Int) = 0 := by omega
  clear hk hP hS
  have kq := fun W => quot_rem a b W ha hb
  generalize (if b = 0 then a else lowA ((sgA a).tmod (sgA b))) = z at *
  go_enter Try.func10, Try.ntmps10
  go_upto_region 31 with (go_at_call 28; with_reducible refine (kN _).mono ?_; rintro e w1 ⟨rfl, hb1⟩)
  go_wp2_with (first | (go_at_call 28; with_reducible refine (kN _).mono ?_; rintro e wn ⟨rfl, hbn⟩) | (go_at_call 35; with_reducible refine (kq _).mono ?_; rintro e w2 ⟨rfl, rfl⟩))
  go_ret2
  exact ⟨rfl, hb1.trans (hbn.mono hb1.size)⟩
set_option maxRecDepth 100000 in
set_option maxHeartbeats 2000000 in
theorem reck_remu (op : Int) (a b : Nat) (w : World) (hn : nmO op = ⟨#[114, 101, 109, 117]⟩) (ha : a < 4294967296) (hb : b < 4294967296) : Calls Try.prog 10 #[.int .i64 op, .int .i64 (a : Int), .int .i64 (b : Int)] w fun e w' => e = .returned (.tuple #[.int .i64 ((if b = 0 then a else a % b : Nat) : Int), .bool true]) ∧ Below w.heap.size w w' := by
  have kN := fun W => name_any op W
  rw [hn] at kN
  clear hn
  obtain ⟨k, P, hS⟩ : ∃ k P, k = b % 32 ∧ P = 2 ^ (b % 32) ∧ Shf b k P := ⟨_, _, rfl, rfl, shf b⟩
  obtain ⟨hk, hP, hS⟩ := hS
  have s1 := hS.t
  have s2 := hS.m
  have s3 := hS.n
  have s4 := hS.p
  have s5 := hS.P0
  have s6 : (P : Int) ≤ 2147483648 := by have := hS.P1; omega
  have s7 : 0 < (P : Int) := by omega
  have s8 : ¬ (P : Int) = 0 := by omega
  clear hk hP hS
  have kq := fun W => quot_remu a b W ha hb
  generalize (if b = 0 then a else a % b) = z at *
  go_enter Try.func10, Try.ntmps10
  go_upto_region 31 with (go_at_call 28; with_reducible refine (kN _).mono ?_; rintro e w1 ⟨rfl, hb1⟩)
  go_wp2_with (first | (go_at_call 28; with_reducible refine (kN _).mono ?_; rintro e wn ⟨rfl, hbn⟩) | (go_at_call 35; with_reducible refine (kq _).mono ?_; rintro e w2 ⟨rfl, rfl⟩))
  go_ret2
  exact ⟨rfl, hb1.trans (hbn.mono hb1.size)⟩
theorem reckon_no : nmX [19, 20, 21, 22, 23, 24, 25, 26, 27, 28, 29, 30, 31, 32, 33, 34, 35, 36, 37, 38, 39, 40, 41, 42, 43, 44, 45] [[97, 100, 100], [115, 117, 98], [115, 108, 108], [115, 114, 108], [115, 114, 97], [115, 108, 116], [115, 108, 116, 117], [120, 111, 114], [111, 114], [97, 110, 100], [109, 117, 108], [109, 117, 108, 104], [109, 117, 108, 104, 115, 117], [109, 117, 108, 104, 117], [100, 105, 118], [100, 105, 118, 117], [114, 101, 109], [114, 101, 109, 117]] = true := by decide +kernel
set_option maxRecDepth 100000 in
set_option maxHeartbeats 2000000 in
theorem reck_other (op : Int) (a b : Nat) (w : World) (hop : ∀ j ∈ ([19, 20, 21, 22, 23, 24, 25, 26, 27, 28, 29, 30, 31, 32, 33, 34, 35, 36, 37, 38, 39, 40, 41, 42, 43, 44, 45] : List Nat), op ≠ (j : Int)) (_ha : a < 4294967296) (_hb : b < 4294967296) : Calls Try.prog 10 #[.int .i64 op, .int .i64 (a : Int), .int .i64 (b : Int)] w fun e w' => e = .returned (.tuple #[.int .i64 ((0 : Nat) : Int), .bool false]) ∧ Below w.heap.size w w' := by
  have kN := fun W => name_any op W
  have hno := nm_no _ _ reckon_no op hop
  have n0 := hno [97, 100, 100] (by decide)
  have n1 := hno [115, 117, 98] (by decide)
  have n2 := hno [115, 108, 108] (by decide)
  have n3 := hno [115, 114, 108] (by decide)
  have n4 := hno [115, 114, 97] (by decide)
  have n5 := hno [115, 108, 116] (by decide)
  have n6 := hno [115, 108, 116, 117] (by decide)
  have n7 := hno [120, 111, 114] (by decide)
  have n8 := hno [111, 114] (by decide)
  have n9 := hno [97, 110, 100] (by decide)
  have n10 := hno [109, 117, 108] (by decide)
  have n11 := hno [109, 117, 108, 104] (by decide)
  have n12 := hno [109, 117, 108, 104, 115, 117] (by decide)
  have n13 := hno [109, 117, 108, 104, 117] (by decide)
  have n14 := hno [100, 105, 118] (by decide)
  have n15 := hno [100, 105, 118, 117] (by decide)
  have n16 := hno [114, 101, 109] (by decide)
  have n17 := hno [114, 101, 109, 117] (by decide)
  generalize nmO op = s at *
  clear hno hop
  obtain ⟨k, P, hS⟩ : ∃ k P, k = b % 32 ∧ P = 2 ^ (b % 32) ∧ Shf b k P := ⟨_, _, rfl, rfl, shf b⟩
  obtain ⟨hk, hP, hS⟩ := hS
  have s1 := hS.t
  have s2 := hS.m
  have s3 := hS.n
  have s4 := hS.p
  have s5 := hS.P0
  have s6 : (P : Int) ≤ 2147483648 := by have := hS.P1; omega
  have s7 : 0 < (P : Int) := by omega
  have s8 : ¬ (P : Int) = 0 := by omega
  clear hk hP hS
  have kq := fun W => quot_no s a b W n14 n16 n15 n17
  go_enter Try.func10, Try.ntmps10
  go_upto_region 31 with (go_at_call 28; with_reducible refine (kN _).mono ?_; rintro e w1 ⟨rfl, hb1⟩)
  go_wp2_with (first | (go_at_call 28; with_reducible refine (kN _).mono ?_; rintro e wn ⟨rfl, hbn⟩) | (go_at_call 35; with_reducible refine (kq _).mono ?_; rintro e w2 ⟨rfl, rfl⟩))
  go_ret2
  exact ⟨rfl, hb1.trans (hbn.mono hb1.size)⟩
theorem reckon_any (op : Int) (a b : Nat) (w : World) (ha : a < 4294967296) (hb : b < 4294967296) : Calls Try.prog 10 #[.int .i64 op, .int .i64 (a : Int), .int .i64 (b : Int)] w fun e w' => e = .returned (.tuple #[.int .i64 (((reckN op a b).1 : Nat) : Int), .bool (reckN op a b).2]) ∧ Below w.heap.size w w' := by
  by_cases h19 : op = 19
  · subst h19; exact reck_add 19 a b w rfl ha hb
  by_cases h20 : op = 20
  · subst h20; exact reck_slt 20 a b w rfl ha hb
  by_cases h21 : op = 21
  · subst h21; exact reck_sltu 21 a b w rfl ha hb
  by_cases h22 : op = 22
  · subst h22; exact reck_xor 22 a b w rfl ha hb
  by_cases h23 : op = 23
  · subst h23; exact reck_or 23 a b w rfl ha hb
  by_cases h24 : op = 24
  · subst h24; exact reck_and 24 a b w rfl ha hb
  by_cases h25 : op = 25
  · subst h25; exact reck_sll 25 a b w rfl ha hb
  by_cases h26 : op = 26
  · subst h26; exact reck_srl 26 a b w rfl ha hb
  by_cases h27 : op = 27
  · subst h27; exact reck_sra 27 a b w rfl ha hb
  by_cases h28 : op = 28
  · subst h28; exact reck_add 28 a b w rfl ha hb
  by_cases h29 : op = 29
  · subst h29; exact reck_sub 29 a b w rfl ha hb
  by_cases h30 : op = 30
  · subst h30; exact reck_sll 30 a b w rfl ha hb
  by_cases h31 : op = 31
  · subst h31; exact reck_slt 31 a b w rfl ha hb
  by_cases h32 : op = 32
  · subst h32; exact reck_sltu 32 a b w rfl ha hb
  by_cases h33 : op = 33
  · subst h33; exact reck_xor 33 a b w rfl ha hb
  by_cases h34 : op = 34
  · subst h34; exact reck_srl 34 a b w rfl ha hb
  by_cases h35 : op = 35
  · subst h35; exact reck_sra 35 a b w rfl ha hb
  by_cases h36 : op = 36
  · subst h36; exact reck_or 36 a b w rfl ha hb
  by_cases h37 : op = 37
  · subst h37; exact reck_and 37 a b w rfl ha hb
  by_cases h38 : op = 38
  · subst h38; exact reck_mul 38 a b w rfl ha hb
  by_cases h39 : op = 39
  · subst h39; exact reck_mulh 39 a b w rfl ha hb
  by_cases h40 : op = 40
  · subst h40; exact reck_mulhsu 40 a b w rfl ha hb
  by_cases h41 : op = 41
  · subst h41; exact reck_mulhu 41 a b w rfl ha hb
  by_cases h42 : op = 42
  · subst h42; exact reck_div 42 a b w rfl ha hb
  by_cases h43 : op = 43
  · subst h43; exact reck_divu 43 a b w rfl ha hb
  by_cases h44 : op = 44
  · subst h44; exact reck_rem 44 a b w rfl ha hb
  by_cases h45 : op = 45
  · subst h45; exact reck_remu 45 a b w rfl ha hb
  have hop : ∀ j ∈ ([19, 20, 21, 22, 23, 24, 25, 26, 27, 28, 29, 30, 31, 32, 33, 34, 35, 36, 37, 38, 39, 40, 41, 42, 43, 44, 45] : List Nat), op ≠ (j : Int) := by
    intro j hj
    simp at hj
    omega
  rw [show reckN op a b = (0, false) by unfold reckN; simp only [h19, h20, h21, h22, h23, h24, h25, h26, h27, h28, h29, h30, h31, h32, h33, h34, h35, h36, h37, h38, h39, h40, h41, h42, h43, h44, h45, or_self, if_false]]
  exact reck_other op a b w hop ha hb
end Go.Proofs.Ytdkdbphcliblcaa.Al
