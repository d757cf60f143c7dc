/-
  NARROWER THAN 'FOR EVERY INPUT', by the rows' own cells (each row's printed sentence says how): PmpPlans: laid · PmpGrants: laid · PmpRuns: laid · PmpJust: laid · PmpBytes: laid.
  DERIVED. THE GIVEN ROWS OF THIS SEAT. 5 by the template 'for every input the law returns true; each argument reads behind the call as it read before'; 0 by the template 'total and deterministic' (their statements: YtjpmigagoedbcaaDoorTotals.lean).
  GIVEN WITH THE SEED: the statements are not yours to turn. If you find one false, say at which input.
  Laid BY PROGRAM, IN A SANDBOX (cutbox-rows.mjs): the forced cells as the released guide's own fill.sh prints them over the translation 589dce661df0d920… (all of the seat's roots in one cut). By AI agents, Wed Nov 11 2026. No macro, syntax, notation, axiom, sorry.
-/
import Derived.Test.YtjpmigagoedbcaaDoorChecked
import GoSem.Claim
import GoSem.ClaimJoined
import GoSem.ClaimMapViews
import Derived.JoinedTies
import Derived.KernelRfl
namespace Go.Proofs.YtjpmigagoedbcaaDoor
/- THE CELL 'sum', in the pinned program and in every row, IS THE sha256 OF THE DUMP (.gsa) THAT YtjpmigagoedbcaaDoorProg.lean LOADS. Nothing in Lean hashes anything: it is a label: what it is worth is what the hold of that sum in a sandbox is worth. -/
noncomputable def Tryd.pinned : Pinned := { name := "ytjpmigagoedbcaadoor", sum := "589dce661df0d92019ef6071a53b699aba099aa182a64bf3d83b4a5b4f7d2459", checked := Tryd.checked }
namespace Rows
def none {H : Type} : Left H := { results := [], args := [] }

/- WHAT THE LISTED PACKAGE-LEVEL VARIABLES READ AS WHEN THE CALL BEGINS. Each datum BY PROGRAM (the guide's laid-datum.mjs) off the statement by which the dump's own 'gosem.cut.vars' lays the variable. In a bare row this is a premise. The card (YtjpmigagoedbcaaDoorCards.lean) ties it to the program's text. -/
def laid_math_bits_deBruijn32tab {H : Type} : DataW H := .agg [.lit (.int .u8 0), .lit (.int .u8 1), .lit (.int .u8 28), .lit (.int .u8 2), .lit (.int .u8 29), .lit (.int .u8 14), .lit (.int .u8 24), .lit (.int .u8 3), .lit (.int .u8 30), .lit (.int .u8 22), .lit (.int .u8 20), .lit (.int .u8 15), .lit (.int .u8 25), .lit (.int .u8 17), .lit (.int .u8 4), .lit (.int .u8 8), .lit (.int .u8 31), .lit (.int .u8 27), .lit (.int .u8 13), .lit (.int .u8 23), .lit (.int .u8 21), .lit (.int .u8 19), .lit (.int .u8 16), .lit (.int .u8 7), .lit (.int .u8 26), .lit (.int .u8 12), .lit (.int .u8 18), .lit (.int .u8 6), .lit (.int .u8 11), .lit (.int .u8 5), .lit (.int .u8 10), .lit (.int .u8 9)]

/-- 'porticolaw12.PmpPlans': WHATEVER THE INPUT: true; the input reads as it did. -/
def pmpPlansSpec : ChangeSpec := { name := "pmpPlans", fn := fun _ => fun
  | [d] => { results := [.lit (.bool true)], args := [d] }
  | _ => none }
def pmpPlansRow : OpenClaim := { program := "ytjpmigagoedbcaadoor", sum := "589dce661df0d92019ef6071a53b699aba099aa182a64bf3d83b4a5b4f7d2459", func := "portico/porticolaw12.PmpPlans", spec := "pmpPlans", named := ["math/bits.deBruijn32tab"], apart := false, laid := [("math/bits.deBruijn32tab", laid_math_bits_deBruijn32tab)] }
def PmpPlansSaid : Prop := pmpPlansRow.holds Tryd.pinned (OpenSpec.ofChange pmpPlansSpec)

/-- ITS FALSE NEIGHBOUR: 'it returns false'. Refute it at one input. -/
def pmpPlansWrong : ChangeSpec := { name := "pmpPlans", fn := fun _ => fun
  | [d] => { results := [.lit (.bool false)], args := [d] }
  | _ => none }
def PmpPlansWrongFalsely : Prop := pmpPlansRow.holds Tryd.pinned (OpenSpec.ofChange pmpPlansWrong)

/-- 'porticolaw12.PmpGrants': WHATEVER THE INPUT: true; the input reads as it did. -/
def pmpGrantsSpec : ChangeSpec := { name := "pmpGrants", fn := fun _ => fun
  | [d1, d2, d3] => { results := [.lit (.bool true)], args := [d1, d2, d3] }
  | _ => none }
def pmpGrantsRow : OpenClaim := { program := "ytjpmigagoedbcaadoor", sum := "589dce661df0d92019ef6071a53b699aba099aa182a64bf3d83b4a5b4f7d2459", func := "portico/porticolaw12.PmpGrants", spec := "pmpGrants", named := ["math/bits.deBruijn32tab"], apart := false, laid := [("math/bits.deBruijn32tab", laid_math_bits_deBruijn32tab)] }
def PmpGrantsSaid : Prop := pmpGrantsRow.holds Tryd.pinned (OpenSpec.ofChange pmpGrantsSpec)

/-- ITS FALSE NEIGHBOUR: 'it returns false'. Refute it at one input. -/
def pmpGrantsWrong : ChangeSpec := { name := "pmpGrants", fn := fun _ => fun
  | [d1, d2, d3] => { results := [.lit (.bool false)], args := [d1, d2, d3] }
  | _ => none }
def PmpGrantsWrongFalsely : Prop := pmpGrantsRow.holds Tryd.pinned (OpenSpec.ofChange pmpGrantsWrong)

/-- 'porticolaw12.PmpRuns': WHATEVER THE INPUT: true; the input reads as it did. -/
def pmpRunsSpec : ChangeSpec := { name := "pmpRuns", fn := fun _ => fun
  | [d1, d2] => { results := [.lit (.bool true)], args := [d1, d2] }
  | _ => none }
def pmpRunsRow : OpenClaim := { program := "ytjpmigagoedbcaadoor", sum := "589dce661df0d92019ef6071a53b699aba099aa182a64bf3d83b4a5b4f7d2459", func := "portico/porticolaw12.PmpRuns", spec := "pmpRuns", recurses := true, named := ["math/bits.deBruijn32tab"], apart := false, laid := [("math/bits.deBruijn32tab", laid_math_bits_deBruijn32tab)] }
def PmpRunsSaid : Prop := pmpRunsRow.holds Tryd.pinned (OpenSpec.ofChange pmpRunsSpec)

/-- ITS FALSE NEIGHBOUR: 'it returns false'. Refute it at one input. -/
def pmpRunsWrong : ChangeSpec := { name := "pmpRuns", fn := fun _ => fun
  | [d1, d2] => { results := [.lit (.bool false)], args := [d1, d2] }
  | _ => none }
def PmpRunsWrongFalsely : Prop := pmpRunsRow.holds Tryd.pinned (OpenSpec.ofChange pmpRunsWrong)

/-- 'porticolaw12.PmpJust': WHATEVER THE INPUT: true; the input reads as it did. -/
def pmpJustSpec : ChangeSpec := { name := "pmpJust", fn := fun _ => fun
  | [d] => { results := [.lit (.bool true)], args := [d] }
  | _ => none }
def pmpJustRow : OpenClaim := { program := "ytjpmigagoedbcaadoor", sum := "589dce661df0d92019ef6071a53b699aba099aa182a64bf3d83b4a5b4f7d2459", func := "portico/porticolaw12.PmpJust", spec := "pmpJust", recurses := true, named := ["math/bits.deBruijn32tab"], apart := false, laid := [("math/bits.deBruijn32tab", laid_math_bits_deBruijn32tab)] }
def PmpJustSaid : Prop := pmpJustRow.holds Tryd.pinned (OpenSpec.ofChange pmpJustSpec)

/-- ITS FALSE NEIGHBOUR: 'it returns false'. Refute it at one input. -/
def pmpJustWrong : ChangeSpec := { name := "pmpJust", fn := fun _ => fun
  | [d] => { results := [.lit (.bool false)], args := [d] }
  | _ => none }
def PmpJustWrongFalsely : Prop := pmpJustRow.holds Tryd.pinned (OpenSpec.ofChange pmpJustWrong)

/-- 'porticolaw12.PmpBytes': WHATEVER THE INPUT: true; the input reads as it did. -/
def pmpBytesSpec : ChangeSpec := { name := "pmpBytes", fn := fun _ => fun
  | [d1, d2, d3] => { results := [.lit (.bool true)], args := [d1, d2, d3] }
  | _ => none }
def pmpBytesRow : OpenClaim := { program := "ytjpmigagoedbcaadoor", sum := "589dce661df0d92019ef6071a53b699aba099aa182a64bf3d83b4a5b4f7d2459", func := "portico/porticolaw12.PmpBytes", spec := "pmpBytes", named := ["math/bits.deBruijn32tab"], apart := false, laid := [("math/bits.deBruijn32tab", laid_math_bits_deBruijn32tab)] }
def PmpBytesSaid : Prop := pmpBytesRow.holds Tryd.pinned (OpenSpec.ofChange pmpBytesSpec)

/-- ITS FALSE NEIGHBOUR: 'it returns false'. Refute it at one input. -/
def pmpBytesWrong : ChangeSpec := { name := "pmpBytes", fn := fun _ => fun
  | [d1, d2, d3] => { results := [.lit (.bool false)], args := [d1, d2, d3] }
  | _ => none }
def PmpBytesWrongFalsely : Prop := pmpBytesRow.holds Tryd.pinned (OpenSpec.ofChange pmpBytesWrong)

/- THE SECOND FORM. 'bulk': how many values and letters a reading holds, each counted each time it is reached (what is shared counts as often as it is met; a slice's spare places count too). A statement '..UptoSaid' is the law's where the arguments, and the package variables that the reading takes, are together of bulk at most 1048576: NARROWER than '..Said'. Prove '..Said' where nothing that the law and all that it calls make is longer than what came in: it says more and counts as full. Else prove '..UptoSaid'. A law counts once. -/
mutual
def uptoBulk {H : Type} : DataW H → Nat
  | .lit (.string bytes) => bytes.length + 1
  | .lit _ => 1
  | .nil => 1
  | .ptr d => uptoBulk d + 1
  | .slice elems spare => uptoBulkAll elems + uptoBulkAll spare + 1
  | .agg parts => uptoBulkAll parts + 1
  | .iface _ d => uptoBulk d + 1
  | .map entries => uptoBulkEntries entries + 1
  | .held _ => 1
def uptoBulkAll {H : Type} : List (DataW H) → Nat
  | [] => 0
  | d :: r => uptoBulk d + uptoBulkAll r
def uptoBulkEntries {H : Type} : List (Lit × DataW H) → Nat
  | [] => 0
  | x :: r => uptoBulkEntry x + uptoBulkEntries r
def uptoBulkEntry {H : Type} : Lit × DataW H → Nat
  | (.string bytes, d) => bytes.length + uptoBulk d + 1
  | (_, d) => uptoBulk d + 1
 end
def uptoSmall : (H : Type) → List (DataW H) → Bool := fun _ ds => decide (uptoBulkAll ds ≤ 1048576)
def OpenSpec.upto (s : _root_.Go.ChangeSpec) : _root_.Go.OpenSpec := { _root_.Go.OpenSpec.ofChange s with cond := some uptoSmall }

/-- 'porticolaw12.PmpPlans', WHERE WHAT IT READS IS OF BULK AT MOST 1048576: true; the input reads as it did. -/
def pmpPlansUptoRow : OpenClaim := { program := "ytjpmigagoedbcaadoor", sum := "589dce661df0d92019ef6071a53b699aba099aa182a64bf3d83b4a5b4f7d2459", func := "portico/porticolaw12.PmpPlans", spec := "pmpPlans", named := ["math/bits.deBruijn32tab"], apart := false, laid := [("math/bits.deBruijn32tab", laid_math_bits_deBruijn32tab)], narrowed := true }
def PmpPlansUptoSaid : Prop := pmpPlansUptoRow.holds Tryd.pinned (OpenSpec.upto pmpPlansSpec)

/-- 'porticolaw12.PmpGrants', WHERE WHAT IT READS IS OF BULK AT MOST 1048576: true; the input reads as it did. -/
def pmpGrantsUptoRow : OpenClaim := { program := "ytjpmigagoedbcaadoor", sum := "589dce661df0d92019ef6071a53b699aba099aa182a64bf3d83b4a5b4f7d2459", func := "portico/porticolaw12.PmpGrants", spec := "pmpGrants", named := ["math/bits.deBruijn32tab"], apart := false, laid := [("math/bits.deBruijn32tab", laid_math_bits_deBruijn32tab)], narrowed := true }
def PmpGrantsUptoSaid : Prop := pmpGrantsUptoRow.holds Tryd.pinned (OpenSpec.upto pmpGrantsSpec)

/-- 'porticolaw12.PmpRuns', WHERE WHAT IT READS IS OF BULK AT MOST 1048576: true; the input reads as it did. -/
def pmpRunsUptoRow : OpenClaim := { program := "ytjpmigagoedbcaadoor", sum := "589dce661df0d92019ef6071a53b699aba099aa182a64bf3d83b4a5b4f7d2459", func := "portico/porticolaw12.PmpRuns", spec := "pmpRuns", recurses := true, named := ["math/bits.deBruijn32tab"], apart := false, laid := [("math/bits.deBruijn32tab", laid_math_bits_deBruijn32tab)], narrowed := true }
def PmpRunsUptoSaid : Prop := pmpRunsUptoRow.holds Tryd.pinned (OpenSpec.upto pmpRunsSpec)

/-- 'porticolaw12.PmpJust', WHERE WHAT IT READS IS OF BULK AT MOST 1048576: true; the input reads as it did. -/
def pmpJustUptoRow : OpenClaim := { program := "ytjpmigagoedbcaadoor", sum := "589dce661df0d92019ef6071a53b699aba099aa182a64bf3d83b4a5b4f7d2459", func := "portico/porticolaw12.PmpJust", spec := "pmpJust", recurses := true, named := ["math/bits.deBruijn32tab"], apart := false, laid := [("math/bits.deBruijn32tab", laid_math_bits_deBruijn32tab)], narrowed := true }
def PmpJustUptoSaid : Prop := pmpJustUptoRow.holds Tryd.pinned (OpenSpec.upto pmpJustSpec)

/-- 'porticolaw12.PmpBytes', WHERE WHAT IT READS IS OF BULK AT MOST 1048576: true; the input reads as it did. -/
def pmpBytesUptoRow : OpenClaim := { program := "ytjpmigagoedbcaadoor", sum := "589dce661df0d92019ef6071a53b699aba099aa182a64bf3d83b4a5b4f7d2459", func := "portico/porticolaw12.PmpBytes", spec := "pmpBytes", named := ["math/bits.deBruijn32tab"], apart := false, laid := [("math/bits.deBruijn32tab", laid_math_bits_deBruijn32tab)], narrowed := true }
def PmpBytesUptoSaid : Prop := pmpBytesUptoRow.holds Tryd.pinned (OpenSpec.upto pmpBytesSpec)

end Rows
end Go.Proofs.YtjpmigagoedbcaaDoor
