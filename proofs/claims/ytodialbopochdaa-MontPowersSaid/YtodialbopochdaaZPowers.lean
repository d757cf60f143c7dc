/-
Mont: Pow returns the power, for every odd modulus greater than 1, any number and any exponent. For any arguments; without a condition.
-/
import Derived.Test.YtodialbopochdaaMontS
import Derived.Test.YtodialbopochdaaModH
namespace Go.Proofs.Ytodialbopochdaa
open Go.RowKit

theorem montPowers_said : Rows.MontPowersSaid := montPowers.said mont_ok
end Go.Proofs.Ytodialbopochdaa
