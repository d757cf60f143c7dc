/-
What the rows list of the library's table (math/bits.deBruijn32tab), as the walks ask it; a world that holds it.
-/
import Derived.Test.YthaockngbagdhaaDoorPnT
import Derived.Test.YthaockngbagdhaaDoorPmV
import Derived.Test.YthaockngbagdhaaDoorCards
import Derived.Test.YthaockngbagdhaaDoorTie
import Derived.ProofKit
import Derived.OpenShut
import Derived.Deep.DeepHandedRow
import Derived.Lib.LaidTab
import Derived.LaidSub
import Derived.SizedLaws
namespace Go.Proofs.YthaockngbagdhaaDoor.Pm
open Go.ChangeShapes Go.WideShapes Go.ChangeAt Go.RowKit

def tabI : List Int := Go.Lib.deBruijn32tab.map fun q : Nat => (q : Int)
def laidList : List (String × DataW Unit) := [("math/bits.deBruijn32tab", Rows.laid_math_bits_deBruijn32tab)]
theorem cells32 : Tryd.prog.cellsOf 87 = 32 := by kernel_rfl
theorem cells1b : Tryd.prog.cellsOf 5 = 1 := by kernel_rfl
theorem g_tab : Tryd.prog.globalNamed "math/bits.deBruijn32tab" = some 0 := by kernel_rfl
theorem gt_tab : (Tryd.prog.globals[0]?).map (·.type) = some 87 := by kernel_rfl
theorem list_tab : (Rows.laid_math_bits_deBruijn32tab : DataW Unit) = Lib.tabData .u8 tabI := by kernel_rfl
theorem tabI_len : tabI.length = 32 := rfl
theorem tabI_at (i : Nat) (h : i < 32) : tabI.getD i 0 = ((Go.Lib.deBruijn32tab.getD i 0 : Nat) : Int) := by
  have : i < Go.Lib.deBruijn32tab.length := h
  simp [tabI, List.getD_eq_getElem?_getD, this]
/-- what the rows' list gives -/
theorem tabT_of {W : World} (h : laidMetH Tryd.prog laidList W) : TabT W := by
  have h0 : laidMet Tryd.prog laidList W := h
  unfold laidList at h0
  rw [list_tab] at h0
  have hI : Lib.TabIs Tryd.prog W "math/bits.deBruijn32tab" .u8 tabI := Lib.tabIs_of_head (rest := []) g_tab gt_tab Tryd.underlying87 Tryd.underlying5 cells1b cells32 h0
  have cI : ∀ i, i < 32 → W.cell? ⟨0, i, none⟩ = some (.int .u8 (Go.Lib.deBruijn32tab.getD i 0)) := fun i hi => by
    rw [hI.cell g_tab i (by rw [tabI_len]; exact hi), tabI_at i hi]
  exact ⟨cI, block_lt_of_cell (cI 0 (by omega))⟩
/-- a world for the witnesses: the settled one, the table holding what its initialiser lays -/
noncomputable def laidWorld (os : Os) : World :=
  { World.holding Tryd.prog os ⟨#[], #[], []⟩ with heap := ((World.holding Tryd.prog os ⟨#[], #[], []⟩).heap.modify 0 fun
      | .cells _ t frozen => .cells #[.int .u8 0, .int .u8 1, .int .u8 28, .int .u8 2, .int .u8 29, .int .u8 14, .int .u8 24, .int .u8 3, .int .u8 30, .int .u8 22, .int .u8 20, .int .u8 15, .int .u8 25, .int .u8 17, .int .u8 4, .int .u8 8, .int .u8 31, .int .u8 27, .int .u8 13, .int .u8 23, .int .u8 21, .int .u8 19, .int .u8 16, .int .u8 7, .int .u8 26, .int .u8 12, .int .u8 18, .int .u8 6, .int .u8 11, .int .u8 5, .int .u8 10, .int .u8 9] t frozen
      | o => o) }
theorem wf_u8' {z : Int} (h : (Go.Lit.int .u8 z).wf = true) : ∃ n : Nat, z = (n : Int) ∧ n < 256 := by
  have : 0 ≤ z ∧ z ≤ 255 := by simpa [Go.Lit.wf, Go.IntKind.min, Go.IntKind.max, Go.IntKind.signed, Go.IntKind.bits] using h
  exact ⟨z.toNat, by omega, by omega⟩
end Go.Proofs.YthaockngbagdhaaDoor.Pm
