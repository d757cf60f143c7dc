/-
Layer 7: has a manifest few parts; may a grant be.
Layer 7: may a grant be.
-/
import Derived.Test.YtoplknankmomcaaMfA
import Derived.Test.YtoplknankmomcaaPkA
namespace Go.Proofs.Ytoplknankmomcaa
open Go Go.RowKit

def lightB : Nat → List Pay → Bool
  | _, [] => true
  | n, p :: ps => if 100 < n + (1 + p.gs.length) then false else lightB (n + (1 + p.gs.length)) ps
theorem drop_cons {α : Type} (l : List α) (d : α) (i : Nat) (h : i < l.length) : l.drop i = l.getD i d :: l.drop (i + 1) := by
  rw [List.drop_eq_getElem_cons h]
  simp [List.getD_eq_getElem?_getD, h]

end Go.Proofs.Ytoplknankmomcaa
namespace Go.Proofs.Ytoplknankmomcaa
open Go Go.RowKit

def fineB (g : Gr) : Bool := decide (2147487744 ≤ g.s ∧ g.s + g.z ≤ 2147549184 ∧ g.z ≠ 0 ∧ g.s % 4 = 0 ∧ g.z % 4 = 0 ∧ 1 ≤ g.r ∧ g.r ≤ 5)
end Go.Proofs.Ytoplknankmomcaa
