/-
The padded message, byte by byte.
-/
import Derived.Test.YtopjdckfphhnnaaDoorShaM
namespace Go.Proofs.YtopjdckfphhnnaaDoor
open Go
/-- how many zeros -/
def zer (L : Nat) : Nat := (119 - L % 64) % 64
theorem padLen_zer (L : Nat) : padLen L = 9 + zer L := rfl
theorem zer_end (L : Nat) : (L + 1 + zer L) % 64 = 56 := by unfold zer; omega
theorem zer_not (L z : Nat) (h : z < zer L) : (L + 1 + z) % 64 ≠ 56 := by unfold zer at h; omega
theorem zer_lt (L : Nat) : zer L < 64 := by unfold zer; omega
theorem pad_take (m : List UInt8) (k : Nat) (h : k < padLen m.length) : (padOf m).take (k + 1) = (padOf m).take k ++ [padB m.length k] := by
  have hl : k < (padOf m).length := by rw [padOf_length]; exact h
  rw [List.take_succ_eq_append_getElem hl]
  congr 2
  simp [padOf]
theorem padB_zero (L : Nat) : padB L 0 = 128 := by simp [padB]
theorem padB_mid (L z : Nat) (h : z < zer L) : padB L (1 + z) = 0 := by
  unfold padB
  rw [if_neg (by omega), if_neg (by rw [padLen_zer]; omega)]
theorem padB_len (L t : Nat) (h : t < 8) : padB L (1 + zer L + t) = UInt8.ofNat (L * 8 / 2 ^ (8 * (7 - t))) := by
  unfold padB
  rw [if_neg (by omega), if_pos (by rw [padLen_zer]; omega), padLen_zer]
  congr 4
  omega
end Go.Proofs.YtopjdckfphhnnaaDoor
