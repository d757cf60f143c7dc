/-
RelocMeans of the landed code: what one relocation changed means its value: the numbers in the words make it, for every input; no condition.
-/
import Derived.Test.YtegaiphhoinilaaRvC
namespace Go.Proofs.Ytegaiphhoinilaa

theorem relocMeans_of_landed : Rows.RelocMeansSaid := relocMeans.said
end Go.Proofs.Ytegaiphhoinilaa
