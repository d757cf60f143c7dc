/-
Mont: New accepts the odd numbers greater than 1 and rejects every other one; Modulus, Add, Sub and Reduce return what the reference's integers give, for every modulus and any two numbers. For any arguments; without a condition.
-/
import Derived.Test.YtodialbopochdaaMontS
import Derived.Test.YtodialbopochdaaModH
namespace Go.Proofs.Ytodialbopochdaa
open Go.RowKit

theorem montSums_said : Rows.MontSumsSaid := montSums.said mont_ok
end Go.Proofs.Ytodialbopochdaa
