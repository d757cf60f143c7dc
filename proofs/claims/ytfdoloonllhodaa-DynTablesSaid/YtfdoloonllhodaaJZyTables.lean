/-
DynTables holds of the landed code, for every input; no condition.
-/
import Derived.Test.YtfdoloonllhodaaJDzI
import Derived.Test.YtfdoloonllhodaaJDyM
namespace Go.Proofs.Ytfdoloonllhodaa
open Go

theorem dynTables_of_landed : Rows.DynTablesSaid := dynTables.said dyn_ok
end Go.Proofs.Ytfdoloonllhodaa
