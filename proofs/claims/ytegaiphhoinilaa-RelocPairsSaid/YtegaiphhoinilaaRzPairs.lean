/-
RelocPairs of the landed code: an upper and a lower part of one symbol make its address, for every input; no condition.
-/
import Derived.Test.YtegaiphhoinilaaRvD
namespace Go.Proofs.Ytegaiphhoinilaa

theorem relocPairs_of_landed : Rows.RelocPairsSaid := relocPairs.said
end Go.Proofs.Ytegaiphhoinilaa
