/-
RelocFar of the landed code: ways are patched up to their ends, and refused beyond, or if they are odd, for every input; no condition.
-/
import Derived.Test.YtegaiphhoinilaaRvE
namespace Go.Proofs.Ytegaiphhoinilaa

theorem relocFar_of_landed : Rows.RelocFarSaid := relocFar.said
end Go.Proofs.Ytegaiphhoinilaa
