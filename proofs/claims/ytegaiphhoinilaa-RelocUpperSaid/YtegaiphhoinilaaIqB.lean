/-
Layer 11: package inst's ImmI, ImmS, ImmB, ImmU, ImmJ.
-/
import Derived.Test.YtegaiphhoinilaaIqA
namespace Go.Proofs.Ytegaiphhoinilaa
open Go Go.RowKit

/-- a form's number in a word, as the program finds it -/
def immL (f : Fm) (w : Nat) : Nat :=
  match f with
  | .I => sgnU (bitsN w 31 20) 12
  | .S => sgnU (bitsN w 31 25 * 32 + bitsN w 11 7) 12
  | .B => sgnU (bitsN w 31 31 * 4096 + bitsN w 7 7 * 2048 + bitsN w 30 25 * 32 + bitsN w 11 8 * 2) 13
  | .J => sgnU (bitsN w 31 31 * 1048576 + bitsN w 19 12 * 4096 + bitsN w 20 20 * 2048 + bitsN w 30 21 * 2) 21
  | .U => bitsN w 31 12 * 4096
  | .T => bitsN w 24 20
  | .C | .Z => bitsN w 31 20
  | _ => 0
theorem immS_lt (w : Nat) : bitsN w 31 25 * 32 + bitsN w 11 7 < 4096 := by
  have h1 : bitsN w 31 25 < 128 := bitsN_lt w 31 25
  have h2 : bitsN w 11 7 < 32 := bitsN_lt w 11 7
  omega
theorem immB_lt (w : Nat) : bitsN w 31 31 * 4096 + bitsN w 7 7 * 2048 + bitsN w 30 25 * 32 + bitsN w 11 8 * 2 < 8192 := by
  have h1 : bitsN w 31 31 < 2 := bitsN_lt w 31 31
  have h2 : bitsN w 7 7 < 2 := bitsN_lt w 7 7
  have h3 : bitsN w 30 25 < 64 := bitsN_lt w 30 25
  have h4 : bitsN w 11 8 < 16 := bitsN_lt w 11 8
  omega
theorem immJ_lt (w : Nat) : bitsN w 31 31 * 1048576 + bitsN w 19 12 * 4096 + bitsN w 20 20 * 2048 + bitsN w 30 21 * 2 < 2097152 := by
  have h1 : bitsN w 31 31 < 2 := bitsN_lt w 31 31
  have h2 : bitsN w 19 12 < 256 := bitsN_lt w 19 12
  have h3 : bitsN w 20 20 < 2 := bitsN_lt w 20 20
  have h4 : bitsN w 30 21 < 1024 := bitsN_lt w 30 21
  omega
theorem immU_is (f : Fm) (w : Nat) (hw : w < 4294967296) : immU f w = immL f w := by
  have hx : bitsN w 31 20 < 4096 := bitsN_lt w 31 20
  have hy : bitsN w 24 20 < 32 := bitsN_lt w 24 20
  cases f <;> (unfold immU immZ immL; dsimp only)
  case I => exact sgnU_is _ 12 (by decide) (by decide) hx
  case S => exact sgnU_is _ 12 (by decide) (by decide) (immS_lt w)
  case B => exact sgnU_is _ 13 (by decide) (by decide) (immB_lt w)
  case J => exact sgnU_is _ 21 (by decide) (by decide) (immJ_lt w)
  case U =>
    rw [sgnU_is _ 32 (by decide) (by decide) (Nat.lt_of_le_of_lt (Nat.sub_le _ _) hw)]
    have e : bitsN w 31 12 * 4096 = w - w % 4096 := by
      show w / 4096 % 1048576 * 4096 = _
      omega
    rw [e]
    unfold sgnU
    have e2 : (2 : Nat) ^ 32 = 4294967296 := by decide
    split <;> omega
  case T => omega
  case C => omega
  case Z => omega
  all_goals rfl
theorem immL_lt (f : Fm) (w : Nat) : immL f w < 4294967296 := by
  have hx : bitsN w 31 20 < 4096 := bitsN_lt w 31 20
  have hy : bitsN w 24 20 < 32 := bitsN_lt w 24 20
  cases f <;> (unfold immL; dsimp only)
  case I => exact sgnU_lt _ 12 (by decide) hx
  case S => exact sgnU_lt _ 12 (by decide) (immS_lt w)
  case B => exact sgnU_lt _ 13 (by decide) (immB_lt w)
  case J => exact sgnU_lt _ 21 (by decide) (immJ_lt w)
  case U =>
    have h1 : bitsN w 31 12 < 1048576 := bitsN_lt w 31 12
    omega
  all_goals omega
theorem or_add (A b i : Nat) (hb : b < 2 ^ i) (hA : A < 4294967296) (hb2 : b < 4294967296) (hd : A % 2 ^ i = 0) : bits .or .u32 (A : Int) (b : Int) = ((A + b : Nat) : Int) := by
  rw [u32_or_nat _ _ hA hb2]
  have e : A = 2 ^ i * (A / 2 ^ i) := (Nat.mul_div_cancel' (Nat.dvd_of_mod_eq_zero hd)).symm
  rw [e, ← Nat.two_pow_add_eq_or_of_lt hb]
end Go.Proofs.Ytegaiphhoinilaa
