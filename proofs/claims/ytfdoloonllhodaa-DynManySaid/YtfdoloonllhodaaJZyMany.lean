/-
DynMany holds of the landed code, for every input; no condition.
-/
import Derived.Test.YtfdoloonllhodaaJDzI
import Derived.Test.YtfdoloonllhodaaJDyU
namespace Go.Proofs.Ytfdoloonllhodaa
open Go

theorem dynMany_of_landed : Rows.DynManySaid := dynMany.said dyn_ok
end Go.Proofs.Ytfdoloonllhodaa
