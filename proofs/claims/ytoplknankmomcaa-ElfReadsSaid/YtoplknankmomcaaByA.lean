/-
Layer 6: what package bytes' calls answer; the laws' own example; a cursor that is none.
-/
import Derived.Test.YtoplknankmomcaaR6C
import Derived.Test.YtoplknankmomcaaIb
namespace Go.Proofs.Ytoplknankmomcaa
open Go Go.RowKit

/-- may k bytes be taken -/
def okT (n p : Nat) (bad : Bool) (k : Int) : Bool := !bad && decide (0 ≤ k ∧ k ≤ ((n - p : Nat) : Int))
def tkB (bs : List UInt8) (p : Nat) (bad : Bool) (k : Int) : List UInt8 := if okT bs.length p bad k then (bs.drop p).take k.toNat else []
def tkP (n p : Nat) (bad : Bool) (k : Int) : Nat := if okT n p bad k then p + k.toNat else p
def tkN (bs : List UInt8) (p : Nat) (bad : Bool) (k : Nat) : Nat := if okT bs.length p bad (k : Int) then leT (bsN bs) k p else 0
/-- the low bytes of a number, the lowest first -/
def leB (m : Nat) (x : Nat) : List UInt8 := (List.range m).map fun j => UInt8.ofNat (x / 256 ^ j)
theorem tkP_le {n p : Nat} (bad : Bool) (k : Int) (h : p ≤ n) : tkP n p bad k ≤ n := by
  unfold tkP
  by_cases hk : okT n p bad k = true
  · rw [if_pos hk]
    unfold okT at hk
    simp only [Bool.and_eq_true, decide_eq_true_eq] at hk
    omega
  · rw [if_neg hk]; exact h
/-- nothing below B, and nothing in block m, has changed -/
structure Kp (B m : Nat) (w w' : World) : Prop where
  below : Below B w w'
  same : w'.heap[m]? = w.heap[m]?
  size : w.heap.size ≤ w'.heap.size
abbrev curAt (g : Nat) : Value := .pointer (some ⟨g, 0, none⟩)
section
variable {Is : World → Nat → Nat → Nat → List UInt8 → Nat → Bool → Prop}
end
end Go.Proofs.Ytoplknankmomcaa
