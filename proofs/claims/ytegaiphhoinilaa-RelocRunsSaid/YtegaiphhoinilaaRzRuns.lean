/-
RelocRuns of the landed code: relocations change memory as the document has it, or the first that may not be is refused, those ahead of it done, for every input; no condition.
-/
import Derived.Test.YtegaiphhoinilaaRvB
namespace Go.Proofs.Ytegaiphhoinilaa

theorem relocRuns_of_landed : Rows.RelocRunsSaid := relocRuns.said
end Go.Proofs.Ytegaiphhoinilaa
