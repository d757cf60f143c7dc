/-
Layer 14: package alu's Reckon.
-/
import Derived.Test.YtgpofoggfifnjaaGreatDoorJAm
namespace Go.Proofs.YtgpofoggfifnjaaGreatDoor.Al
open Go Go.RowKit

theorem sll_eq (a b : Nat) : (a : Int) * 2 ^ (b % 32) % 4294967296 = ((a % (4294967296 / 2 ^ (b % 32)) * 2 ^ (b % 32) : Nat) : Int) := by
  have hk : b % 32 < 32 := by omega
  have e : (4294967296 : Nat) = 4294967296 / 2 ^ (b % 32) * 2 ^ (b % 32) := by
    generalize b % 32 = k at *
    have h : 2 ^ (32 - k) * 2 ^ k = 4294967296 := by rw [← Nat.pow_add, show 32 - k + k = 32 by omega]
    have h2 : 4294967296 / 2 ^ k = 2 ^ (32 - k) := by
      rw [← h]
      exact Nat.mul_div_cancel _ (Nat.two_pow_pos k)
    rw [h2, h]
  have h3 : a * 2 ^ (b % 32) % 4294967296 = a % (4294967296 / 2 ^ (b % 32)) * 2 ^ (b % 32) := by
    conv => lhs; rw [e]
    exact Nat.mul_mod_mul_right _ _ _
  rw [← h3, Int.natCast_emod, Int.natCast_mul, Int.natCast_pow]
  rfl
theorem srl_eq (a k : Nat) : (a : Int) / 2 ^ k = ((a / 2 ^ k : Nat) : Int) := by
  rw [Int.natCast_ediv, Int.natCast_pow]
  rfl
theorem hi_eq (a b : Int) : ((hiA a b : Nat) : Int) = a * b / 4294967296 % 4294967296 := by
  unfold hiA
  exact lowA_is _
theorem pd_in (x y : Int) (hx : -2147483648 ≤ x ∧ x < 2147483648) (hy : -2147483648 ≤ y ∧ y < 4294967296) : -9223372036854775808 ≤ x * y ∧ x * y ≤ 9223372036854775807 := by
  have h := mul_in x y 2147483648 4294967295 (by omega) (by omega)
  omega
set_option maxRecDepth 100000 in
set_option maxHeartbeats 2000000 in
theorem rk_add_19 (a b : Nat) (w : World) (_ha : a < 4294967296) (_hb : b < 4294967296) : Calls Tryz.prog 93 #[.int .i64 19, .int .u32 (a : Int), .int .u32 (b : Int)] w fun e w' => e = .returned (.tuple #[.int .u32 ((lowA ((a : Int) + b) : Nat) : Int), .bool true]) ∧ w = w' := by
  have hz := (lowA_is ((a : Int) + b)).symm
  generalize lowA ((a : Int) + b) = z at *
  go_enter Tryz.func93, Tryz.ntmps93
  go_wp2_with fail
  go_ret2
  exact ⟨congrArg (fun z => Ending.returned (.tuple #[.int .u32 z, .bool true])) hz, rfl⟩
set_option maxRecDepth 100000 in
set_option maxHeartbeats 2000000 in
theorem rk_add_28 (a b : Nat) (w : World) (_ha : a < 4294967296) (_hb : b < 4294967296) : Calls Tryz.prog 93 #[.int .i64 28, .int .u32 (a : Int), .int .u32 (b : Int)] w fun e w' => e = .returned (.tuple #[.int .u32 ((lowA ((a : Int) + b) : Nat) : Int), .bool true]) ∧ w = w' := by
  have hz := (lowA_is ((a : Int) + b)).symm
  generalize lowA ((a : Int) + b) = z at *
  go_enter Tryz.func93, Tryz.ntmps93
  go_wp2_with fail
  go_ret2
  exact ⟨congrArg (fun z => Ending.returned (.tuple #[.int .u32 z, .bool true])) hz, rfl⟩
set_option maxRecDepth 100000 in
set_option maxHeartbeats 2000000 in
theorem rk_sub_29 (a b : Nat) (w : World) (_ha : a < 4294967296) (_hb : b < 4294967296) : Calls Tryz.prog 93 #[.int .i64 29, .int .u32 (a : Int), .int .u32 (b : Int)] w fun e w' => e = .returned (.tuple #[.int .u32 ((lowA ((a : Int) - b) : Nat) : Int), .bool true]) ∧ w = w' := by
  have hz := (lowA_is ((a : Int) - b)).symm
  generalize lowA ((a : Int) - b) = z at *
  go_enter Tryz.func93, Tryz.ntmps93
  go_wp2_with fail
  go_ret2
  exact ⟨congrArg (fun z => Ending.returned (.tuple #[.int .u32 z, .bool true])) hz, rfl⟩
set_option maxRecDepth 100000 in
set_option maxHeartbeats 2000000 in
theorem rk_sll_25 (a b : Nat) (w : World) (_ha : a < 4294967296) (hb : b < 4294967296) : Calls Tryz.prog 93 #[.int .i64 25, .int .u32 (a : Int), .int .u32 (b : Int)] w fun e w' => e = .returned (.tuple #[.int .u32 ((a % (4294967296 / 2 ^ (b % 32)) * 2 ^ (b % 32) : Nat) : Int), .bool true]) ∧ w = w' := by
  have hz := sll_eq a b
  generalize (a % (4294967296 / 2 ^ (b % 32)) * 2 ^ (b % 32)) = z at *
  obtain ⟨k, hk⟩ : ∃ k, k = b % 32 := ⟨_, rfl⟩
  have ks := fun W => shift_any b W hb
  rw [← hk] at ks hz
  have hkk : (k : Int).toNat = k := by omega
  have hmin : min k 32 = k := by omega
  have hk1 : (k : Int) < 32 := by omega
  clear hk
  go_enter Tryz.func93, Tryz.ntmps93
  go_wp2_with (first
    | (go_at_call 108; with_reducible refine ((ks _)).mono ?_; rintro e w1 ⟨rfl, rfl⟩))
  go_ret2
  exact ⟨congrArg (fun z => Ending.returned (.tuple #[.int .u32 z, .bool true])) hz, rfl⟩
set_option maxRecDepth 100000 in
set_option maxHeartbeats 2000000 in
theorem rk_sll_30 (a b : Nat) (w : World) (_ha : a < 4294967296) (hb : b < 4294967296) : Calls Tryz.prog 93 #[.int .i64 30, .int .u32 (a : Int), .int .u32 (b : Int)] w fun e w' => e = .returned (.tuple #[.int .u32 ((a % (4294967296 / 2 ^ (b % 32)) * 2 ^ (b % 32) : Nat) : Int), .bool true]) ∧ w = w' := by
  have hz := sll_eq a b
  generalize (a % (4294967296 / 2 ^ (b % 32)) * 2 ^ (b % 32)) = z at *
  obtain ⟨k, hk⟩ : ∃ k, k = b % 32 := ⟨_, rfl⟩
  have ks := fun W => shift_any b W hb
  rw [← hk] at ks hz
  have hkk : (k : Int).toNat = k := by omega
  have hmin : min k 32 = k := by omega
  have hk1 : (k : Int) < 32 := by omega
  clear hk
  go_enter Tryz.func93, Tryz.ntmps93
  go_wp2_with (first
    | (go_at_call 108; with_reducible refine ((ks _)).mono ?_; rintro e w1 ⟨rfl, rfl⟩))
  go_ret2
  exact ⟨congrArg (fun z => Ending.returned (.tuple #[.int .u32 z, .bool true])) hz, rfl⟩
set_option maxRecDepth 100000 in
set_option maxHeartbeats 2000000 in
theorem rk_srl_26 (a b : Nat) (w : World) (_ha : a < 4294967296) (hb : b < 4294967296) : Calls Tryz.prog 93 #[.int .i64 26, .int .u32 (a : Int), .int .u32 (b : Int)] w fun e w' => e = .returned (.tuple #[.int .u32 ((a / 2 ^ (b % 32) : Nat) : Int), .bool true]) ∧ w = w' := by
  have hz := srl_eq a (b % 32)
  generalize a / 2 ^ (b % 32) = z at *
  obtain ⟨k, hk⟩ : ∃ k, k = b % 32 := ⟨_, rfl⟩
  have ks := fun W => shift_any b W hb
  rw [← hk] at ks hz
  have hkk : (k : Int).toNat = k := by omega
  have hmin : min k 32 = k := by omega
  have hk1 : (k : Int) < 32 := by omega
  clear hk
  go_enter Tryz.func93, Tryz.ntmps93
  go_wp2_with (first
    | (go_at_call 108; with_reducible refine ((ks _)).mono ?_; rintro e w1 ⟨rfl, rfl⟩))
  go_ret2
  exact ⟨rfl, rfl⟩
set_option maxRecDepth 100000 in
set_option maxHeartbeats 2000000 in
theorem rk_srl_34 (a b : Nat) (w : World) (_ha : a < 4294967296) (hb : b < 4294967296) : Calls Tryz.prog 93 #[.int .i64 34, .int .u32 (a : Int), .int .u32 (b : Int)] w fun e w' => e = .returned (.tuple #[.int .u32 ((a / 2 ^ (b % 32) : Nat) : Int), .bool true]) ∧ w = w' := by
  have hz := srl_eq a (b % 32)
  generalize a / 2 ^ (b % 32) = z at *
  obtain ⟨k, hk⟩ : ∃ k, k = b % 32 := ⟨_, rfl⟩
  have ks := fun W => shift_any b W hb
  rw [← hk] at ks hz
  have hkk : (k : Int).toNat = k := by omega
  have hmin : min k 32 = k := by omega
  have hk1 : (k : Int) < 32 := by omega
  clear hk
  go_enter Tryz.func93, Tryz.ntmps93
  go_wp2_with (first
    | (go_at_call 108; with_reducible refine ((ks _)).mono ?_; rintro e w1 ⟨rfl, rfl⟩))
  go_ret2
  exact ⟨rfl, rfl⟩
set_option maxRecDepth 100000 in
set_option maxHeartbeats 2000000 in
theorem rk_sra_27 (a b : Nat) (w : World) (ha : a < 4294967296) (hb : b < 4294967296) : Calls Tryz.prog 93 #[.int .i64 27, .int .u32 (a : Int), .int .u32 (b : Int)] w fun e w' => e = .returned (.tuple #[.int .u32 ((lowA (sgA a / 2 ^ (b % 32)) : Nat) : Int), .bool true]) ∧ w = w' := by
  have hz := (lowA_is (sgA a / 2 ^ (b % 32))).symm
  generalize lowA (sgA a / 2 ^ (b % 32)) = z at *
  have hw := w32_sg a ha
  have hx := sgA_in a ha
  generalize sgA a = x at *
  have x1 := hx.1
  have x2 := hx.2
  clear hx
  obtain ⟨k, hk⟩ : ∃ k, k = b % 32 := ⟨_, rfl⟩
  have ks := fun W => shift_any b W hb
  rw [← hk] at ks hz
  have hkk : (k : Int).toNat = k := by omega
  have hmin : min k 32 = k := by omega
  have hk1 : (k : Int) < 32 := by omega
  clear hk
  go_enter Tryz.func93, Tryz.ntmps93
  go_wp2_with (first
    | (go_at_call 108; with_reducible refine ((ks _)).mono ?_; rintro e w1 ⟨rfl, rfl⟩))
  go_ret2
  exact ⟨congrArg (fun z => Ending.returned (.tuple #[.int .u32 z, .bool true])) hz, rfl⟩
set_option maxRecDepth 100000 in
set_option maxHeartbeats 2000000 in
theorem rk_sra_35 (a b : Nat) (w : World) (ha : a < 4294967296) (hb : b < 4294967296) : Calls Tryz.prog 93 #[.int .i64 35, .int .u32 (a : Int), .int .u32 (b : Int)] w fun e w' => e = .returned (.tuple #[.int .u32 ((lowA (sgA a / 2 ^ (b % 32)) : Nat) : Int), .bool true]) ∧ w = w' := by
  have hz := (lowA_is (sgA a / 2 ^ (b % 32))).symm
  generalize lowA (sgA a / 2 ^ (b % 32)) = z at *
  have hw := w32_sg a ha
  have hx := sgA_in a ha
  generalize sgA a = x at *
  have x1 := hx.1
  have x2 := hx.2
  clear hx
  obtain ⟨k, hk⟩ : ∃ k, k = b % 32 := ⟨_, rfl⟩
  have ks := fun W => shift_any b W hb
  rw [← hk] at ks hz
  have hkk : (k : Int).toNat = k := by omega
  have hmin : min k 32 = k := by omega
  have hk1 : (k : Int) < 32 := by omega
  clear hk
  go_enter Tryz.func93, Tryz.ntmps93
  go_wp2_with (first
    | (go_at_call 108; with_reducible refine ((ks _)).mono ?_; rintro e w1 ⟨rfl, rfl⟩))
  go_ret2
  exact ⟨congrArg (fun z => Ending.returned (.tuple #[.int .u32 z, .bool true])) hz, rfl⟩
set_option maxRecDepth 100000 in
set_option maxHeartbeats 2000000 in
theorem rk_slt_20 (a b : Nat) (w : World) (ha : a < 4294967296) (hb : b < 4294967296) : Calls Tryz.prog 93 #[.int .i64 20, .int .u32 (a : Int), .int .u32 (b : Int)] w fun e w' => e = .returned (.tuple #[.int .u32 (((decide (sgA a < sgA b)).toNat : Nat) : Int), .bool true]) ∧ w = w' := by
  have kl := fun W => less_any a b W ha hb
  generalize decide (sgA a < sgA b) = d at *
  have ko := fun W => kone_any d W
  generalize d.toNat = z at *
  go_enter Tryz.func93, Tryz.ntmps93
  go_wp2_with (first
    | (go_at_call 106; with_reducible refine ((kl _)).mono ?_; rintro e w1 ⟨rfl, rfl⟩)
    | (go_at_call 109; with_reducible refine ((ko _)).mono ?_; rintro e w1 ⟨rfl, rfl⟩))
  go_ret2
  exact ⟨rfl, rfl⟩
set_option maxRecDepth 100000 in
set_option maxHeartbeats 2000000 in
theorem rk_slt_31 (a b : Nat) (w : World) (ha : a < 4294967296) (hb : b < 4294967296) : Calls Tryz.prog 93 #[.int .i64 31, .int .u32 (a : Int), .int .u32 (b : Int)] w fun e w' => e = .returned (.tuple #[.int .u32 (((decide (sgA a < sgA b)).toNat : Nat) : Int), .bool true]) ∧ w = w' := by
  have kl := fun W => less_any a b W ha hb
  generalize decide (sgA a < sgA b) = d at *
  have ko := fun W => kone_any d W
  generalize d.toNat = z at *
  go_enter Tryz.func93, Tryz.ntmps93
  go_wp2_with (first
    | (go_at_call 106; with_reducible refine ((kl _)).mono ?_; rintro e w1 ⟨rfl, rfl⟩)
    | (go_at_call 109; with_reducible refine ((ko _)).mono ?_; rintro e w1 ⟨rfl, rfl⟩))
  go_ret2
  exact ⟨rfl, rfl⟩
set_option maxRecDepth 100000 in
set_option maxHeartbeats 2000000 in
theorem rk_sltu_21 (a b : Nat) (w : World) (_ha : a < 4294967296) (_hb : b < 4294967296) : Calls Tryz.prog 93 #[.int .i64 21, .int .u32 (a : Int), .int .u32 (b : Int)] w fun e w' => e = .returned (.tuple #[.int .u32 (((decide (a < b)).toNat : Nat) : Int), .bool true]) ∧ w = w' := by
  have hd0 : decide ((a : Int) < (b : Int)) = decide (a < b) := by simp
  generalize hd : decide (a < b) = d at *
  have ko := fun W => kone_any d W
  generalize d.toNat = z at *
  go_enter Tryz.func93, Tryz.ntmps93
  go_wp2_with (first
    | (go_at_call 109; with_reducible refine ((ko _)).mono ?_; rintro e w1 ⟨rfl, rfl⟩))
  go_ret2
  exact ⟨rfl, rfl⟩
set_option maxRecDepth 100000 in
set_option maxHeartbeats 2000000 in
theorem rk_sltu_32 (a b : Nat) (w : World) (_ha : a < 4294967296) (_hb : b < 4294967296) : Calls Tryz.prog 93 #[.int .i64 32, .int .u32 (a : Int), .int .u32 (b : Int)] w fun e w' => e = .returned (.tuple #[.int .u32 (((decide (a < b)).toNat : Nat) : Int), .bool true]) ∧ w = w' := by
  have hd0 : decide ((a : Int) < (b : Int)) = decide (a < b) := by simp
  generalize hd : decide (a < b) = d at *
  have ko := fun W => kone_any d W
  generalize d.toNat = z at *
  go_enter Tryz.func93, Tryz.ntmps93
  go_wp2_with (first
    | (go_at_call 109; with_reducible refine ((ko _)).mono ?_; rintro e w1 ⟨rfl, rfl⟩))
  go_ret2
  exact ⟨rfl, rfl⟩
set_option maxRecDepth 100000 in
set_option maxHeartbeats 2000000 in
theorem rk_xor_22 (a b : Nat) (w : World) (ha : a < 4294967296) (hb : b < 4294967296) : Calls Tryz.prog 93 #[.int .i64 22, .int .u32 (a : Int), .int .u32 (b : Int)] w fun e w' => e = .returned (.tuple #[.int .u32 ((a ^^^ b : Nat) : Int), .bool true]) ∧ w = w' := by
  have hz := u32_xor_nat a b ha hb
  generalize a ^^^ b = z at *
  go_enter Tryz.func93, Tryz.ntmps93
  go_wp2_with fail
  go_ret2
  exact ⟨rfl, rfl⟩
set_option maxRecDepth 100000 in
set_option maxHeartbeats 2000000 in
theorem rk_xor_33 (a b : Nat) (w : World) (ha : a < 4294967296) (hb : b < 4294967296) : Calls Tryz.prog 93 #[.int .i64 33, .int .u32 (a : Int), .int .u32 (b : Int)] w fun e w' => e = .returned (.tuple #[.int .u32 ((a ^^^ b : Nat) : Int), .bool true]) ∧ w = w' := by
  have hz := u32_xor_nat a b ha hb
  generalize a ^^^ b = z at *
  go_enter Tryz.func93, Tryz.ntmps93
  go_wp2_with fail
  go_ret2
  exact ⟨rfl, rfl⟩
set_option maxRecDepth 100000 in
set_option maxHeartbeats 2000000 in
theorem rk_or_23 (a b : Nat) (w : World) (ha : a < 4294967296) (hb : b < 4294967296) : Calls Tryz.prog 93 #[.int .i64 23, .int .u32 (a : Int), .int .u32 (b : Int)] w fun e w' => e = .returned (.tuple #[.int .u32 ((a ||| b : Nat) : Int), .bool true]) ∧ w = w' := by
  have hz := u32_or_nat a b ha hb
  generalize a ||| b = z at *
  go_enter Tryz.func93, Tryz.ntmps93
  go_wp2_with fail
  go_ret2
  exact ⟨rfl, rfl⟩
set_option maxRecDepth 100000 in
set_option maxHeartbeats 2000000 in
theorem rk_or_36 (a b : Nat) (w : World) (ha : a < 4294967296) (hb : b < 4294967296) : Calls Tryz.prog 93 #[.int .i64 36, .int .u32 (a : Int), .int .u32 (b : Int)] w fun e w' => e = .returned (.tuple #[.int .u32 ((a ||| b : Nat) : Int), .bool true]) ∧ w = w' := by
  have hz := u32_or_nat a b ha hb
  generalize a ||| b = z at *
  go_enter Tryz.func93, Tryz.ntmps93
  go_wp2_with fail
  go_ret2
  exact ⟨rfl, rfl⟩
set_option maxRecDepth 100000 in
set_option maxHeartbeats 2000000 in
theorem rk_and_24 (a b : Nat) (w : World) (ha : a < 4294967296) (hb : b < 4294967296) : Calls Tryz.prog 93 #[.int .i64 24, .int .u32 (a : Int), .int .u32 (b : Int)] w fun e w' => e = .returned (.tuple #[.int .u32 ((a &&& b : Nat) : Int), .bool true]) ∧ w = w' := by
  have hz := u32_and_nat a b ha hb
  generalize a &&& b = z at *
  go_enter Tryz.func93, Tryz.ntmps93
  go_wp2_with fail
  go_ret2
  exact ⟨rfl, rfl⟩
set_option maxRecDepth 100000 in
set_option maxHeartbeats 2000000 in
theorem rk_and_37 (a b : Nat) (w : World) (ha : a < 4294967296) (hb : b < 4294967296) : Calls Tryz.prog 93 #[.int .i64 37, .int .u32 (a : Int), .int .u32 (b : Int)] w fun e w' => e = .returned (.tuple #[.int .u32 ((a &&& b : Nat) : Int), .bool true]) ∧ w = w' := by
  have hz := u32_and_nat a b ha hb
  generalize a &&& b = z at *
  go_enter Tryz.func93, Tryz.ntmps93
  go_wp2_with fail
  go_ret2
  exact ⟨rfl, rfl⟩
set_option maxRecDepth 100000 in
set_option maxHeartbeats 2000000 in
theorem rk_mul_38 (a b : Nat) (w : World) (_ha : a < 4294967296) (_hb : b < 4294967296) : Calls Tryz.prog 93 #[.int .i64 38, .int .u32 (a : Int), .int .u32 (b : Int)] w fun e w' => e = .returned (.tuple #[.int .u32 ((lowA ((a : Int) * b) : Nat) : Int), .bool true]) ∧ w = w' := by
  have hz := (lowA_is ((a : Int) * b)).symm
  generalize lowA ((a : Int) * b) = z at *
  go_enter Tryz.func93, Tryz.ntmps93
  go_wp2_with fail
  go_ret2
  exact ⟨congrArg (fun z => Ending.returned (.tuple #[.int .u32 z, .bool true])) hz, rfl⟩
set_option maxRecDepth 100000 in
set_option maxHeartbeats 2000000 in
theorem rk_mulh_39 (a b : Nat) (w : World) (ha : a < 4294967296) (hb : b < 4294967296) : Calls Tryz.prog 93 #[.int .i64 39, .int .u32 (a : Int), .int .u32 (b : Int)] w fun e w' => e = .returned (.tuple #[.int .u32 ((hiA (sgA a) (sgA b) : Nat) : Int), .bool true]) ∧ w = w' := by
  have hp := pd_in (sgA a) ((sgA b)) (sgA_in a ha) (by have := sgA_in b hb; omega)
  have ku := fun W => upper_any (sgA a * (sgA b)) W hp.1 hp.2
  have hz : lowA (sgA a * (sgA b) / 4294967296) = hiA (sgA a) (sgA b) := rfl
  rw [hz] at ku
  clear hz
  generalize hiA (sgA a) (sgA b) = z at *
  have ka := fun W => signed_any a W ha
  have kb := fun W => signed_any b W hb
  generalize sgA a = x at *
  generalize sgA b = y at *
  obtain ⟨p, hpe⟩ : ∃ p, x * y = p := ⟨_, rfl⟩
  rw [hpe] at ku hp
  have p1 := hp.1
  have p2 := hp.2
  clear hp
  go_enter Tryz.func93, Tryz.ntmps93
  go_wp2_with (first
    | (go_at_call 111; with_reducible refine ((ka _)).mono ?_; rintro e w1 ⟨rfl, rfl⟩)
    | (go_at_call 111; with_reducible refine ((kb _)).mono ?_; rintro e w1 ⟨rfl, rfl⟩)
    | (go_at_call 110; with_reducible refine ((ku _)).mono ?_; rintro e w1 ⟨rfl, rfl⟩))
  go_ret2
  exact ⟨rfl, rfl⟩
set_option maxRecDepth 100000 in
set_option maxHeartbeats 2000000 in
theorem rk_mulhsu_40 (a b : Nat) (w : World) (ha : a < 4294967296) (hb : b < 4294967296) : Calls Tryz.prog 93 #[.int .i64 40, .int .u32 (a : Int), .int .u32 (b : Int)] w fun e w' => e = .returned (.tuple #[.int .u32 ((hiA (sgA a) b : Nat) : Int), .bool true]) ∧ w = w' := by
  have hp := pd_in (sgA a) ((b : Int)) (sgA_in a ha) (by have := sgA_in b hb; omega)
  have ku := fun W => upper_any (sgA a * (b : Int)) W hp.1 hp.2
  have hz : lowA (sgA a * (b : Int) / 4294967296) = hiA (sgA a) (b : Int) := rfl
  rw [hz] at ku
  clear hz
  generalize hiA (sgA a) (b : Int) = z at *
  have ka := fun W => signed_any a W ha
  generalize sgA a = x at *
  obtain ⟨p, hpe⟩ : ∃ p, x * (b : Int) = p := ⟨_, rfl⟩
  rw [hpe] at ku hp
  have p1 := hp.1
  have p2 := hp.2
  clear hp
  go_enter Tryz.func93, Tryz.ntmps93
  go_wp2_with (first
    | (go_at_call 111; with_reducible refine ((ka _)).mono ?_; rintro e w1 ⟨rfl, rfl⟩)
    | (go_at_call 110; with_reducible refine ((ku _)).mono ?_; rintro e w1 ⟨rfl, rfl⟩))
  go_ret2
  exact ⟨rfl, rfl⟩
set_option maxRecDepth 100000 in
set_option maxHeartbeats 2000000 in
theorem rk_mulhu_41 (a b : Nat) (w : World) (ha : a < 4294967296) (hb : b < 4294967296) : Calls Tryz.prog 93 #[.int .i64 41, .int .u32 (a : Int), .int .u32 (b : Int)] w fun e w' => e = .returned (.tuple #[.int .u32 ((hiA a b : Nat) : Int), .bool true]) ∧ w = w' := by
  have hz := (hi_eq a b).symm
  generalize hiA a b = z at *
  have hp := Nat.mul_le_mul (Nat.le_of_lt_succ ha) (Nat.le_of_lt_succ hb)
  obtain ⟨p, hpe⟩ : ∃ p, p = a * b := ⟨_, rfl⟩
  have e1 : (a : Int) * (b : Int) = (p : Int) := by rw [hpe, Int.natCast_mul]
  rw [e1] at hz
  rw [← hpe] at hp
  have p2 : (p : Int) < 18446744073709551616 := by omega
  have hz2 : (p : Int) / 4294967296 = (z : Int) := by omega
  clear hp hpe hz
  go_enter Tryz.func93, Tryz.ntmps93
  go_wp2_with fail
  go_ret2
  exact ⟨rfl, rfl⟩
set_option maxRecDepth 100000 in
set_option maxHeartbeats 2000000 in
theorem rk_div_42 (a b : Nat) (w : World) (ha : a < 4294967296) (hb : b < 4294967296) : Calls Tryz.prog 93 #[.int .i64 42, .int .u32 (a : Int), .int .u32 (b : Int)] w fun e w' => e = .returned (.tuple #[.int .u32 (((if b = 0 then 4294967295 else lowA ((sgA a).tdiv (sgA b))) : Nat) : Int), .bool true]) ∧ w = w' := by
  have kq := fun W => quo_any a b W ha hb
  generalize (if b = 0 then 4294967295 else lowA ((sgA a).tdiv (sgA b))) = z at *
  go_enter Tryz.func93, Tryz.ntmps93
  go_wp2_with (first
    | (go_at_call 112; with_reducible refine ((kq _)).mono ?_; rintro e w1 ⟨rfl, rfl⟩))
  go_ret2
  exact ⟨rfl, rfl⟩
set_option maxRecDepth 100000 in
set_option maxHeartbeats 2000000 in
theorem rk_divu_43 (a b : Nat) (w : World) (ha : a < 4294967296) (hb : b < 4294967296) : Calls Tryz.prog 93 #[.int .i64 43, .int .u32 (a : Int), .int .u32 (b : Int)] w fun e w' => e = .returned (.tuple #[.int .u32 (((if b = 0 then 4294967295 else a / b) : Nat) : Int), .bool true]) ∧ w = w' := by
  have kq := fun W => unq_any a b W ha hb
  generalize (if b = 0 then 4294967295 else a / b) = z at *
  go_enter Tryz.func93, Tryz.ntmps93
  go_wp2_with (first
    | (go_at_call 114; with_reducible refine ((kq _)).mono ?_; rintro e w1 ⟨rfl, rfl⟩))
  go_ret2
  exact ⟨rfl, rfl⟩
set_option maxRecDepth 100000 in
set_option maxHeartbeats 2000000 in
theorem rk_rem_44 (a b : Nat) (w : World) (ha : a < 4294967296) (hb : b < 4294967296) : Calls Tryz.prog 93 #[.int .i64 44, .int .u32 (a : Int), .int .u32 (b : Int)] w fun e w' => e = .returned (.tuple #[.int .u32 (((if b = 0 then a else lowA ((sgA a).tmod (sgA b))) : Nat) : Int), .bool true]) ∧ w = w' := by
  have kq := fun W => rem_any a b W ha hb
  generalize (if b = 0 then a else lowA ((sgA a).tmod (sgA b))) = z at *
  go_enter Tryz.func93, Tryz.ntmps93
  go_wp2_with (first
    | (go_at_call 113; with_reducible refine ((kq _)).mono ?_; rintro e w1 ⟨rfl, rfl⟩))
  go_ret2
  exact ⟨rfl, rfl⟩
set_option maxRecDepth 100000 in
set_option maxHeartbeats 2000000 in
theorem rk_remu_45 (a b : Nat) (w : World) (ha : a < 4294967296) (hb : b < 4294967296) : Calls Tryz.prog 93 #[.int .i64 45, .int .u32 (a : Int), .int .u32 (b : Int)] w fun e w' => e = .returned (.tuple #[.int .u32 (((if b = 0 then a else a % b) : Nat) : Int), .bool true]) ∧ w = w' := by
  have kq := fun W => unr_any a b W ha hb
  generalize (if b = 0 then a else a % b) = z at *
  go_enter Tryz.func93, Tryz.ntmps93
  go_wp2_with (first
    | (go_at_call 115; with_reducible refine ((kq _)).mono ?_; rintro e w1 ⟨rfl, rfl⟩))
  go_ret2
  exact ⟨rfl, rfl⟩
set_option maxRecDepth 100000 in
set_option maxHeartbeats 4000000 in
theorem rk_other (op : Int) (a b : Nat) (w : World) (_ha : a < 4294967296) (_hb : b < 4294967296) (h : op < 19 ∨ 45 < op) : Calls Tryz.prog 93 #[.int .i64 op, .int .u32 (a : Int), .int .u32 (b : Int)] w fun e w' => e = .returned (.tuple #[.int .u32 0, .bool false]) ∧ w = w' := by
  have d19 : (op == 19) = false := beq_eq_false_iff_ne.2 (by omega)
  have d20 : (op == 20) = false := beq_eq_false_iff_ne.2 (by omega)
  have d21 : (op == 21) = false := beq_eq_false_iff_ne.2 (by omega)
  have d22 : (op == 22) = false := beq_eq_false_iff_ne.2 (by omega)
  have d23 : (op == 23) = false := beq_eq_false_iff_ne.2 (by omega)
  have d24 : (op == 24) = false := beq_eq_false_iff_ne.2 (by omega)
  have d25 : (op == 25) = false := beq_eq_false_iff_ne.2 (by omega)
  have d26 : (op == 26) = false := beq_eq_false_iff_ne.2 (by omega)
  have d27 : (op == 27) = false := beq_eq_false_iff_ne.2 (by omega)
  have d28 : (op == 28) = false := beq_eq_false_iff_ne.2 (by omega)
  have d29 : (op == 29) = false := beq_eq_false_iff_ne.2 (by omega)
  have d30 : (op == 30) = false := beq_eq_false_iff_ne.2 (by omega)
  have d31 : (op == 31) = false := beq_eq_false_iff_ne.2 (by omega)
  have d32 : (op == 32) = false := beq_eq_false_iff_ne.2 (by omega)
  have d33 : (op == 33) = false := beq_eq_false_iff_ne.2 (by omega)
  have d34 : (op == 34) = false := beq_eq_false_iff_ne.2 (by omega)
  have d35 : (op == 35) = false := beq_eq_false_iff_ne.2 (by omega)
  have d36 : (op == 36) = false := beq_eq_false_iff_ne.2 (by omega)
  have d37 : (op == 37) = false := beq_eq_false_iff_ne.2 (by omega)
  have d38 : (op == 38) = false := beq_eq_false_iff_ne.2 (by omega)
  have d39 : (op == 39) = false := beq_eq_false_iff_ne.2 (by omega)
  have d40 : (op == 40) = false := beq_eq_false_iff_ne.2 (by omega)
  have d41 : (op == 41) = false := beq_eq_false_iff_ne.2 (by omega)
  have d42 : (op == 42) = false := beq_eq_false_iff_ne.2 (by omega)
  have d43 : (op == 43) = false := beq_eq_false_iff_ne.2 (by omega)
  have d44 : (op == 44) = false := beq_eq_false_iff_ne.2 (by omega)
  have d45 : (op == 45) = false := beq_eq_false_iff_ne.2 (by omega)
  clear h
  go_enter Tryz.func93, Tryz.ntmps93
  go_wp2_with fail
  go_ret2
  exact ⟨rfl, rfl⟩
theorem reckon_is (op : Int) (a b : Nat) (w : World) (ha : a < 4294967296) (hb : b < 4294967296) : Calls Tryz.prog 93 #[.int .i64 op, .int .u32 (a : Int), .int .u32 (b : Int)] w fun e w' => e = .returned (.tuple #[.int .u32 (((reckN op a b).1 : Nat) : Int), .bool (reckN op a b).2]) ∧ w = w' := by
  by_cases h19 : op = 19
  · subst h19; exact rk_add_19 a b w ha hb
  by_cases h20 : op = 20
  · subst h20; exact rk_slt_20 a b w ha hb
  by_cases h21 : op = 21
  · subst h21; exact rk_sltu_21 a b w ha hb
  by_cases h22 : op = 22
  · subst h22; exact rk_xor_22 a b w ha hb
  by_cases h23 : op = 23
  · subst h23; exact rk_or_23 a b w ha hb
  by_cases h24 : op = 24
  · subst h24; exact rk_and_24 a b w ha hb
  by_cases h25 : op = 25
  · subst h25; exact rk_sll_25 a b w ha hb
  by_cases h26 : op = 26
  · subst h26; exact rk_srl_26 a b w ha hb
  by_cases h27 : op = 27
  · subst h27; exact rk_sra_27 a b w ha hb
  by_cases h28 : op = 28
  · subst h28; exact rk_add_28 a b w ha hb
  by_cases h29 : op = 29
  · subst h29; exact rk_sub_29 a b w ha hb
  by_cases h30 : op = 30
  · subst h30; exact rk_sll_30 a b w ha hb
  by_cases h31 : op = 31
  · subst h31; exact rk_slt_31 a b w ha hb
  by_cases h32 : op = 32
  · subst h32; exact rk_sltu_32 a b w ha hb
  by_cases h33 : op = 33
  · subst h33; exact rk_xor_33 a b w ha hb
  by_cases h34 : op = 34
  · subst h34; exact rk_srl_34 a b w ha hb
  by_cases h35 : op = 35
  · subst h35; exact rk_sra_35 a b w ha hb
  by_cases h36 : op = 36
  · subst h36; exact rk_or_36 a b w ha hb
  by_cases h37 : op = 37
  · subst h37; exact rk_and_37 a b w ha hb
  by_cases h38 : op = 38
  · subst h38; exact rk_mul_38 a b w ha hb
  by_cases h39 : op = 39
  · subst h39; exact rk_mulh_39 a b w ha hb
  by_cases h40 : op = 40
  · subst h40; exact rk_mulhsu_40 a b w ha hb
  by_cases h41 : op = 41
  · subst h41; exact rk_mulhu_41 a b w ha hb
  by_cases h42 : op = 42
  · subst h42; exact rk_div_42 a b w ha hb
  by_cases h43 : op = 43
  · subst h43; exact rk_divu_43 a b w ha hb
  by_cases h44 : op = 44
  · subst h44; exact rk_rem_44 a b w ha hb
  by_cases h45 : op = 45
  · subst h45; exact rk_remu_45 a b w ha hb
  rw [show reckN op a b = (0, false) by unfold reckN; simp only [h19, h20, h21, h22, h23, h24, h25, h26, h27, h28, h29, h30, h31, h32, h33, h34, h35, h36, h37, h38, h39, h40, h41, h42, h43, h44, h45, or_self, if_false]]
  exact rk_other op a b w ha hb (by omega)
end Go.Proofs.YtgpofoggfifnjaaGreatDoor.Al
