/-
The reference of layer 6: Within and Apart.
-/
import Derived.Test.YtoplknankmomcaaBs
import Derived.IntWalk
import Derived.WalkSpells
import Derived.WalkLawsBesides
import Derived.Outline
import Derived.Lib.Hide
namespace Go.Proofs.Ytoplknankmomcaa
open Go Go.RowKit

/-- the n addresses from a on lie within the m addresses from b on -/
def inB (a n b m : Nat) : Bool := decide (b ≤ a ∧ a + n ≤ b + m)
/-- no address in common -/
def apB (a n b m : Nat) : Bool := decide (min (a + n) (b + m) ≤ max a b)
end Go.Proofs.Ytoplknankmomcaa
