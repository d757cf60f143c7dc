/-
Layer 7, the reference: when a manifest is valid.
-/
import Derived.Test.YtoplknankmomcaaMfD
import Derived.Test.YtoplknankmomcaaR6C
import Derived.Test.YtoplknankmomcaaQw
import Derived.Great.BuildSlice
namespace Go.Proofs.Ytoplknankmomcaa
open Go Go.RowKit

theorem ret_int {k : IntKind} {a b : Int} (h : a = b) : Ending.returned (.int k a) = Ending.returned (.int k b) := by rw [h]
theorem badM_ways (k : Int) (n : Nat) (h : k < 0 ∨ 255 < k ∨ n = 0 ∨ 4 < n) :
    (k < 0) ∨ (0 ≤ k ∧ 255 < k) ∨ (0 ≤ k ∧ k ≤ 255 ∧ ((n : Int) == 0) = true) ∨ (0 ≤ k ∧ k ≤ 255 ∧ ((n : Int) == 0) = false ∧ (4 : Int) < (n : Int)) := by
  simp only [beq_iff_eq, beq_eq_false_iff_ne]
  omega
theorem badP_ways (n : Nat) (c : Int) (z b : Nat) (h : n = 0 ∨ 4 < n ∨ c < 0 ∨ 255 < c ∨ 32768 < z ∨ b % 4 ≠ 0) :
    (((n : Int) == 0) = true) ∨ (((n : Int) == 0) = false ∧ (4 : Int) < (n : Int)) ∨ (((n : Int) == 0) = false ∧ (n : Int) ≤ 4 ∧ c < 0) ∨ (((n : Int) == 0) = false ∧ (n : Int) ≤ 4 ∧ 0 ≤ c ∧ 255 < c) ∨
    (((n : Int) == 0) = false ∧ (n : Int) ≤ 4 ∧ 0 ≤ c ∧ c ≤ 255 ∧ (32768 : Int) < (z : Int)) ∨ (((n : Int) == 0) = false ∧ (n : Int) ≤ 4 ∧ 0 ≤ c ∧ c ≤ 255 ∧ (z : Int) ≤ 32768 ∧ ((b : Int) % 4 != 0) = true) := by
  simp only [beq_iff_eq, beq_eq_false_iff_ne, bne_iff_ne]
  omega
theorem goodP_way (n : Nat) (c : Int) (z b : Nat) (h : ¬ (n = 0 ∨ 4 < n ∨ c < 0 ∨ 255 < c ∨ 32768 < z ∨ b % 4 ≠ 0)) :
    ((n : Int) == 0) = false ∧ (n : Int) ≤ 4 ∧ 0 ≤ c ∧ c ≤ 255 ∧ (z : Int) ≤ 32768 ∧ ((b : Int) % 4 != 0) = false := by
  simp only [beq_eq_false_iff_ne, bne_eq_false_iff_eq]
  omega
def prevAt (gs : List Gr) (k : Nat) : Option Gr := if k = 0 then none else some (gs.getD (k - 1) gr0)
end Go.Proofs.Ytoplknankmomcaa
