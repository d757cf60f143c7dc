/-
Mont: Mul, In, Out and Times return what the reference's integers give, and Out undoes In, for every odd modulus greater than 1 and any two numbers. For any arguments; without a condition.
-/
import Derived.Test.YtodialbopochdaaMontS
import Derived.Test.YtodialbopochdaaModH
namespace Go.Proofs.Ytodialbopochdaa
open Go.RowKit

theorem montMults_said : Rows.MontMultsSaid := montMults.said mont_ok
end Go.Proofs.Ytodialbopochdaa
