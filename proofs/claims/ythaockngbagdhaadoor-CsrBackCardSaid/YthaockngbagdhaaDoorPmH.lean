/-
Layer 12: the law's plain.
-/
import Derived.Test.YthaockngbagdhaaDoorPmF
namespace Go.Proofs.YthaockngbagdhaaDoor.Pm
open Go Go.RowKit

/-- entries whose ways and rights are ones that there are -/
def plainL (es : List En) : Prop := (∀ e ∈ es, 0 ≤ e.w ∧ e.w ≤ 3 ∧ 0 ≤ e.r ∧ e.r ≤ 7) ∧ es.length ≤ 40
def PlR (es : List En) (e : Ending) : Prop := ∃ b, e = .returned (.bool b) ∧ (b = true → plainL es)
theorem plR_no (es : List En) : PlR es (.returned (.bool false)) := ⟨false, rfl, fun h => by cases h⟩
end Go.Proofs.YthaockngbagdhaaDoor.Pm
