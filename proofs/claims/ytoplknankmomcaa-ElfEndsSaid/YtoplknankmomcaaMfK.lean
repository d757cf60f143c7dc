/-
Layer 7, the reference: Same, of two values that read as one manifest.
-/
import Derived.Test.YtoplknankmomcaaMfE
import Derived.Test.YtoplknankmomcaaEnE
import Derived.Test.YtoplknankmomcaaFacts
import Derived.Test.YtoplknankmomcaaArrEq
import Derived.Test.YtoplknankmomcaaSimV
namespace Go.Proofs.Ytoplknankmomcaa
open Go Go.RowKit

theorem rangeAt_after {w w' : World} {b o : Nat} {cs : List Value} (h : w.rangeAt b o cs) (k : Below w.heap.size w w') : w'.rangeAt b o cs := fun j v hv => by
  have h1 := h j v hv
  have hlt : b < w.heap.size := block_lt_of_cell h1
  exact (k.cell (p := ⟨b, o + j, none⟩) hlt).trans h1
theorem info5z : (Try.prog.info? 5).map (·.size) = some 1 := by kernel_rfl
/-- facts by a list -/
def FL (I : World → Prop) (fs : List ((Nat → Value) → World → Prop)) (i : Nat) (v : Nat → Value) (w : World) : Prop := (fs.getD i (fun _ _ => True)) v w ∧ I w
theorem setAt_self (v : Nat → Value) (i : Nat) (x : Value) : setAt v i x i = x := if_pos rfl
theorem setAt_far (v : Nat → Value) {i j : Nat} (x : Value) (h : j ≠ i) : setAt v i x j = v j := if_neg h
end Go.Proofs.Ytoplknankmomcaa
