/-
DynReads holds of the landed code, for every input; no condition.
-/
import Derived.Test.YtfdoloonllhodaaJDzI
import Derived.Test.YtfdoloonllhodaaJDyS
namespace Go.Proofs.Ytfdoloonllhodaa
open Go

theorem dynReads_of_landed : Rows.DynReadsSaid := dynReads.said dyn_ok
end Go.Proofs.Ytfdoloonllhodaa
