/-
DynBack holds of the landed code, for every input; no condition.
-/
import Derived.Test.YtfdoloonllhodaaJDzI
import Derived.Test.YtfdoloonllhodaaJDyO
namespace Go.Proofs.Ytfdoloonllhodaa
open Go

theorem dynBack_of_landed : Rows.DynBackSaid := dynBack.said dyn_ok
end Go.Proofs.Ytfdoloonllhodaa
