/-
Mont: for the two primes of P-256 every nonzero number has its inverse by Inv, and Inv of 0 is 0. For any arguments; without a condition.
-/
import Derived.Test.YtodialbopochdaaMontS
import Derived.Test.YtodialbopochdaaModH
namespace Go.Proofs.Ytodialbopochdaa
open Go.RowKit

theorem zero_said (a : Nat) (W : World) (ha : a < big) : Calls Try.prog 31 #[.agg (nums a)] W fun e w' => e = .returned (.bool (decide (a = 0))) ∧ Below W.heap.size W w' := zero_any a W ha
theorem montInverts_said : Rows.MontInvertsSaid := montInverts.said mont_ok zero_said
end Go.Proofs.Ytodialbopochdaa
