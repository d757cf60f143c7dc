/-
RelocUpper of the landed code: the upper part and the lower part with its sign make the number, for every input; no condition.
-/
import Derived.Test.YtegaiphhoinilaaRvF
namespace Go.Proofs.Ytegaiphhoinilaa

theorem relocUpper_of_landed : Rows.RelocUpperSaid := relocUpper.said
end Go.Proofs.Ytegaiphhoinilaa
