/-
Layer 11: package inst's ones, part, with, signed.
-/
import Derived.Test.YtegaiphhoinilaaIpA
namespace Go.Proofs.Ytegaiphhoinilaa
open Go Go.RowKit

theorem pow_le31 {n : Nat} (h : n ≤ 31) : (2 : Int) ^ n ≤ 2147483648 ∧ 0 < (2 : Int) ^ n := by
  have h1 : (2 : Nat) ^ n ≤ 2 ^ 31 := Nat.pow_le_pow_right (by decide) h
  have h2 := Nat.two_pow_pos n
  have e : (2 : Int) ^ n = ((2 ^ n : Nat) : Int) := by rw [Int.natCast_pow]; rfl
  rw [e]
  generalize (2 : Nat) ^ n = q at *
  have h3 : (2 : Nat) ^ 31 = 2147483648 := by decide
  omega
theorem pow_sub (n : Nat) : ((2 ^ n - 1 : Nat) : Int) = (2 : Int) ^ n - 1 := by
  have h2 := Nat.two_pow_pos n
  have e : (2 : Int) ^ n = ((2 ^ n : Nat) : Int) := by rw [Int.natCast_pow]; rfl
  rw [e]
  generalize (2 : Nat) ^ n = q at *
  omega
set_option maxRecDepth 100000 in
set_option maxHeartbeats 1000000 in
theorem ones_any (n : Nat) (w : World) (hn : n ≤ 31) :
    Calls Try.prog 67 #[.int .u64 (n : Int)] w fun e w' => e = .returned (.int .u32 ((2 ^ n - 1 : Nat) : Int)) ∧ w = w' := by
  rw [pow_sub]
  obtain ⟨hp2, hp0⟩ := pow_le31 hn
  have hnn : (n : Int).toNat = n := by omega
  have hmin : min n 32 = n := by omega
  go_enter Try.func67, Try.ntmps67
  go_wp2_with fail
  go_ret
  exact ⟨rfl, rfl⟩
theorem sub_xor (b : Nat) (hb : b < 4294967296) : 4294967295 - b = 4294967295 ^^^ b := by
  refine eq_bits (by omega) (Nat.xor_lt_two_pow (n := 32) (by decide) hb) fun i hi => ?_
  rw [show 4294967295 - b = 2 ^ 32 - (b + 1) by omega, Nat.testBit_two_pow_sub_succ hb, Nat.testBit_xor, ones_bit]
  simp [hi]
set_option maxRecDepth 100000 in
set_option maxHeartbeats 1000000 in
theorem with_any (x a b y : Nat) (w : World) (hx : x < 4294967296) (hab : b ≤ a) (ha : a ≤ 31) (hs : a - b + 1 ≤ 31) (_hy : y < 4294967296) :
    Calls Try.prog 65 #[.int .u32 (x : Int), .int .u64 (a : Int), .int .u64 (b : Int), .int .u32 (y : Int)] w fun e w' => e = .returned (.int .u32 ((withN x a b y : Nat) : Int)) ∧ w = w' := by
  obtain ⟨s, hse⟩ : ∃ s, s = a - b + 1 := ⟨_, rfl⟩
  rw [← hse] at hs
  have e1 : (a : Int) - (b : Int) + 1 = (s : Int) := by omega
  have hbb : (b : Int).toNat = b := by omega
  have hO := fun W => ones_any s W hs
  obtain ⟨v, hv⟩ : ∃ v, v = withN x a b y := ⟨_, rfl⟩
  rw [← hv]
  have hand : bits .or .u32 (bits .andNot .u32 (x : Int) (((2 ^ s - 1 : Nat) : Int) * 2 ^ b % 4294967296)) (bits .and .u32 ((y : Int) * 2 ^ b % 4294967296) (((2 ^ s - 1 : Nat) : Int) * 2 ^ b % 4294967296)) = (v : Int) := by
    have hm : (2 ^ s - 1) * 2 ^ b < 4294967296 := by
      have h1 : 2 ^ s * 2 ^ b ≤ 2 ^ 32 := by rw [← Nat.pow_add]; exact Nat.pow_le_pow_right (by decide) (by omega)
      have h2 := Nat.two_pow_pos b
      have h3 := Nat.two_pow_pos s
      rw [Nat.mul_comm, Nat.mul_sub, Nat.mul_one, Nat.mul_comm]
      have e : (2 : Nat) ^ 32 = 4294967296 := by decide
      omega
    have em : ((2 ^ s - 1 : Nat) : Int) * 2 ^ b % 4294967296 = (((2 ^ s - 1) * 2 ^ b : Nat) : Int) := by
      have e : ((2 ^ s - 1 : Nat) : Int) * 2 ^ b = (((2 ^ s - 1) * 2 ^ b : Nat) : Int) := by rw [Int.natCast_mul, Int.natCast_pow]; rfl
      rw [e]; omega
    have ey : (y : Int) * 2 ^ b % 4294967296 = ((y * 2 ^ b % 4294967296 : Nat) : Int) := by rw [Int.natCast_emod, Int.natCast_mul, Int.natCast_pow]; rfl
    have hyl : y * 2 ^ b % 4294967296 < 4294967296 := Nat.mod_lt _ (by decide)
    rw [em, ey, u32_andNot_nat _ _ hx hm, u32_and_nat _ _ hyl hm, u32_or_nat _ _ (Nat.lt_of_le_of_lt Nat.and_le_left hx) (Nat.lt_of_le_of_lt Nat.and_le_left hyl), sub_xor _ hm, hv, hse]
    rfl
  have HS := Lib.hid hse
  have HV := Lib.hid hv
  clear hse hv
  go_enter Try.func65, Try.ntmps65
  go_wp2_with (go_at_call 67; refine (hO _).mono ?_; rintro e w2 ⟨rfl, rfl⟩)
  go_ret
  exact ⟨rfl, rfl⟩
end Go.Proofs.Ytegaiphhoinilaa
