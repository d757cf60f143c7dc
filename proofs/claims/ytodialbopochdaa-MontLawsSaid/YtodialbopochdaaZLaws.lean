/-
Mont: Times is commutative and distributive, Add and Sub undo each other, One is neutral, and every result is below the modulus. For any arguments; without a condition.
-/
import Derived.Test.YtodialbopochdaaMontS
import Derived.Test.YtodialbopochdaaModH
namespace Go.Proofs.Ytodialbopochdaa
open Go.RowKit

theorem cmp_said (a b : Nat) (W : World) (h : a < b) (hb : b < big) : Calls Try.prog 32 #[.agg (nums a), .agg (nums b)] W fun e w' => e = .returned (.int .i64 (-1)) ∧ Below W.heap.size W w' := by
  have e := compare_any a b W (by omega) hb
  have hc : cmpI a b = -1 := by unfold cmpI; rw [if_neg (by omega), if_pos h]
  rw [hc] at e
  exact e
theorem montLaws_said : Rows.MontLawsSaid := montLaws.said mont_ok cmp_said
end Go.Proofs.Ytodialbopochdaa
