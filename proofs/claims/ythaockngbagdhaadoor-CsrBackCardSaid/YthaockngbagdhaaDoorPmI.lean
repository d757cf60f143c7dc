/-
Layer 12: what package pmp's calls answer (contracts); the law's example.
-/
import Derived.Test.YthaockngbagdhaaDoorPmH
import Derived.Test.YthaockngbagdhaaDoorPnT
namespace Go.Proofs.YthaockngbagdhaaDoor.Pm
open Go Go.RowKit

def PlanR (gs : List Gr) (e : Ending) (w' : World) : Prop := ∃ A n c, e = .returned (.tuple #[.slice A n c, .int .i64 ((planN gs).2 : Int)]) ∧ SlE w' ⟨A, n, c⟩ (planN gs).1
def RunR (es : List En) (e : Ending) (w' : World) : Prop := ∃ A n c rs, e = .returned (.slice A n c) ∧ SlR w' ⟨A, n, c⟩ rs ∧ RunsOf (byteT (tri 0 es)) rs
/- the example -/
def exG : List Gr := [⟨2147487744, 4096, 5⟩]
def exE : List En := [⟨3, 5, 536872447⟩, ⟨3, 0, 536870911⟩]
theorem ex_plan : planN exG = (exE, 0) := by
  have h1 : exG.all okG = true := by decide
  have h2 : planE exG = exE := by
    show entG ⟨2147487744, 4096, 5⟩ ++ [] ++ [lastE] = _
    have h3 : entG ⟨2147487744, 4096, 5⟩ = [⟨3, 5, 536872447⟩] := by
      unfold entG
      rw [if_neg (by decide), if_pos (by decide +kernel)]
      rfl
    rw [h3]; rfl
  unfold planN
  rw [if_pos h1, h2, if_neg (by decide)]
theorem ex_yes : checkT (tri 0 exE) 2147487744 4 4 = true := by decide +kernel
theorem ex_no : checkT (tri 0 exE) 2147487742 4 1 = false := by decide +kernel
theorem ex_plain : plainL exE := ⟨fun e he => by
  rcases List.mem_cons.1 he with rfl | he
  · exact ⟨by decide, by decide, by decide, by decide⟩
  · rw [List.mem_singleton.1 he]; exact ⟨by decide, by decide, by decide, by decide⟩, by decide⟩
end Go.Proofs.YthaockngbagdhaaDoor.Pm
