/-
Layer 12: the reference's Byte.
-/
import Derived.Test.YthaockngbagdhaaDoorPmD
namespace Go.Proofs.YthaockngbagdhaaDoor.Pm
open Go Go.RowKit

theorem rangeP_lt (p : Nat) (e : En) (hp : p < 4294967296) (he : e.a < 4294967296) : (rangeP p e).1 ≤ 17179869184 ∧ (rangeP p e).2 ≤ 68719476736 := by
  unfold rangeP
  split
  · split <;> (dsimp only; omega)
  · split
    · dsimp only; omega
    · split
      · have h1 : onesF 32 e.a ≤ 32 := onesF_le _ _
        have h2 := pow32 h1
        have h3 : napS e.a ≤ 34359738368 := by unfold napS; omega
        have h4 := Nat.div_mul_le_self (4 * e.a) (napS e.a)
        dsimp only
        omega
      · dsimp only; omega
theorem rangeI_lt (es : List En) (s : Sl) (i : Nat) (w : World) (hS : SlE w s es) (hi : i < s.n) : (rangeI es i).1 ≤ 17179869184 ∧ (rangeI es i).2 ≤ 68719476736 := by
  unfold rangeI
  refine rangeP_lt _ _ ?_ (hS.wf hi).a
  split
  · decide
  · exact (hS.wf (j := i - 1) (by omega)).a
theorem byteF_hit {es : List En} {x n i : Nat} (h : (rangeI es i).1 ≤ x ∧ x < (rangeI es i).2) : byteF es x (n + 1) i = (es.getD i en0).r := by
  show (if _ then _ else _) = _
  rw [if_pos h]
theorem byteF_miss {es : List En} {x n i : Nat} (h : ¬((rangeI es i).1 ≤ x ∧ x < (rangeI es i).2)) : byteF es x (n + 1) i = byteF es x n (i + 1) := by
  show (if _ then _ else _) = _
  rw [if_neg h]
end Go.Proofs.YthaockngbagdhaaDoor.Pm
