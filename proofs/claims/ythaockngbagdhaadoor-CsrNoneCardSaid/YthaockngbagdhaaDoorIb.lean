/-
Integers of 64 bits under a mask, and turned right.
-/
import Derived.Test.YthaockngbagdhaaDoorRows
import Derived.WalkKit
import Derived.Laws.BitsAllLaws
namespace Go.Proofs.YthaockngbagdhaaDoor
open Go Go.RowKit

theorem i64_and_mask (k : Int) (j : Nat) (hj : j < 63) : bits .and .i64 k ((2 ^ j - 1 : Nat) : Int) = k % (2 ^ j : Nat) := by
  unfold bits
  have hp : 2 ^ j ≤ 2 ^ 62 := Nat.pow_le_pow_right (by omega) (by omega)
  have h1 : (BitVec.ofInt 64 k &&& BitVec.ofNat 64 (2 ^ j - 1)).toNat = (k % 2 ^ 64).toNat % 2 ^ j := by
    rw [BitVec.toNat_and, BitVec.toNat_ofNat, BitVec.toNat_ofInt, Nat.mod_eq_of_lt (a := 2 ^ j - 1) (by omega), Nat.and_two_pow_sub_one_eq_mod]
    rfl
  have h2 : (((k % 2 ^ 64).toNat % 2 ^ j : Nat) : Int) = k % ((2 ^ j : Nat) : Int) := by
    rw [Int.natCast_emod, Int.toNat_of_nonneg (by omega)]
    refine Int.emod_emod_of_dvd k ?_
    refine ⟨((2 ^ (64 - j) : Nat) : Int), ?_⟩
    rw [← Int.natCast_mul, ← Nat.pow_add, show j + (64 - j) = 64 by omega]
    rfl
  have h3 : 0 ≤ k % ((2 ^ j : Nat) : Int) := Int.emod_nonneg _ (by have := Nat.two_pow_pos j; omega)
  have h4 : k % ((2 ^ j : Nat) : Int) < ((2 ^ j : Nat) : Int) := Int.emod_lt_of_pos _ (by have := Nat.two_pow_pos j; omega)
  simp only [IntKind.bits]
  show IntKind.i64.wrap (((BitVec.ofInt 64 k &&& BitVec.ofInt 64 ((2 ^ j - 1 : Nat) : Int)).toNat : Nat) : Int) = _
  rw [show BitVec.ofInt 64 ((2 ^ j - 1 : Nat) : Int) = BitVec.ofNat 64 (2 ^ j - 1) from BitVec.ofInt_natCast .., h1, h2]
  generalize k % ((2 ^ j : Nat) : Int) = r at *
  simp [IntKind.wrap, IntKind.bits, IntKind.signed]
  omega
theorem i64_and3 (k : Int) : bits .and .i64 k 3 = k % 4 := i64_and_mask k 2 (by omega)
theorem i64_and16 (k : Int) : bits .and .i64 k 65535 = k % 65536 := i64_and_mask k 16 (by omega)
theorem u32_and16 (x : Nat) (h : x < 4294967296) : bits .and .u32 (x : Int) 65535 = ((x % 65536 : Nat) : Int) := by
  have e := u32_and_nat x 65535 h (by omega)
  have e2 : x &&& 65535 = x % 2 ^ 16 := Nat.and_two_pow_sub_one_eq_mod x 16
  rw [e2] at e
  exact e
end Go.Proofs.YthaockngbagdhaaDoor
