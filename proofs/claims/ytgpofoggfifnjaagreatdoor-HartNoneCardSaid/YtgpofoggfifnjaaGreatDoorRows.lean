/-
  NARROWER THAN 'FOR EVERY INPUT', by the rows' own cells (each row's printed sentence says how): HartStays: laid · HartUser: laid · HartNone: laid · HartCounts: laid.
  DERIVED. THE GIVEN ROWS OF THIS SEAT. 4 by the template 'for every input the law returns true; each argument reads behind the call as it read before'; 0 by the template 'total and deterministic' (their statements: YtgpofoggfifnjaaGreatDoorTotals.lean).
  GIVEN WITH THE SEED: the statements are not yours to turn. If you find one false, say at which input.
  Laid BY PROGRAM, IN A SANDBOX (cutbox-rows.mjs): the forced cells as the released guide's own fill.sh prints them over the translation 55d72f8c14efab4b… (all of the seat's roots in one cut). By AI agents, Wed Nov 11 2026. No macro, syntax, notation, axiom, sorry.
-/
import Derived.Test.YtgpofoggfifnjaaGreatDoorChecked
import GoSem.Claim
import GoSem.ClaimJoined
import GoSem.ClaimMapViews
import Derived.JoinedTies
import Derived.KernelRfl
namespace Go.Proofs.YtgpofoggfifnjaaGreatDoor
/- THE CELL 'sum', in the pinned program and in every row, IS THE sha256 OF THE DUMP (.gsa) THAT YtgpofoggfifnjaaGreatDoorProg.lean LOADS. Nothing in Lean hashes anything: it is a label: what it is worth is what the hold of that sum in a sandbox is worth. -/
noncomputable def Tryz.pinned : Pinned := { name := "ytgpofoggfifnjaagreatdoor", sum := "55d72f8c14efab4bca7754dbb922dae0692194141b3191e7b1b1ee3fada1a34d", checked := Tryz.checked }
namespace Rows
def none {H : Type} : Left H := { results := [], args := [] }

/- WHAT THE LISTED PACKAGE-LEVEL VARIABLES READ AS WHEN THE CALL BEGINS. Each datum BY PROGRAM (the guide's laid-datum.mjs) off the statement by which the dump's own 'gosem.cut.vars' lays the variable. In a bare row this is a premise. The card (YtgpofoggfifnjaaGreatDoorCards.lean) ties it to the program's text. -/
def laid_math_bits_deBruijn32tab {H : Type} : DataW H := .agg [.lit (.int .u8 0), .lit (.int .u8 1), .lit (.int .u8 28), .lit (.int .u8 2), .lit (.int .u8 29), .lit (.int .u8 14), .lit (.int .u8 24), .lit (.int .u8 3), .lit (.int .u8 30), .lit (.int .u8 22), .lit (.int .u8 20), .lit (.int .u8 15), .lit (.int .u8 25), .lit (.int .u8 17), .lit (.int .u8 4), .lit (.int .u8 8), .lit (.int .u8 31), .lit (.int .u8 27), .lit (.int .u8 13), .lit (.int .u8 23), .lit (.int .u8 21), .lit (.int .u8 19), .lit (.int .u8 16), .lit (.int .u8 7), .lit (.int .u8 26), .lit (.int .u8 12), .lit (.int .u8 18), .lit (.int .u8 6), .lit (.int .u8 11), .lit (.int .u8 5), .lit (.int .u8 10), .lit (.int .u8 9)]
def laid_portico_inst_words {H : Type} : DataW H := .agg [.lit (.int .u32 0), .lit (.int .u32 55), .lit (.int .u32 23), .lit (.int .u32 111), .lit (.int .u32 103), .lit (.int .u32 99), .lit (.int .u32 4195), .lit (.int .u32 16483), .lit (.int .u32 20579), .lit (.int .u32 24675), .lit (.int .u32 28771), .lit (.int .u32 3), .lit (.int .u32 4099), .lit (.int .u32 8195), .lit (.int .u32 16387), .lit (.int .u32 20483), .lit (.int .u32 35), .lit (.int .u32 4131), .lit (.int .u32 8227), .lit (.int .u32 19), .lit (.int .u32 8211), .lit (.int .u32 12307), .lit (.int .u32 16403), .lit (.int .u32 24595), .lit (.int .u32 28691), .lit (.int .u32 4115), .lit (.int .u32 20499), .lit (.int .u32 1073762323), .lit (.int .u32 51), .lit (.int .u32 1073741875), .lit (.int .u32 4147), .lit (.int .u32 8243), .lit (.int .u32 12339), .lit (.int .u32 16435), .lit (.int .u32 20531), .lit (.int .u32 1073762355), .lit (.int .u32 24627), .lit (.int .u32 28723), .lit (.int .u32 33554483), .lit (.int .u32 33558579), .lit (.int .u32 33562675), .lit (.int .u32 33566771), .lit (.int .u32 33570867), .lit (.int .u32 33574963), .lit (.int .u32 33579059), .lit (.int .u32 33583155), .lit (.int .u32 15), .lit (.int .u32 115), .lit (.int .u32 1048691), .lit (.int .u32 807403635), .lit (.int .u32 273678451), .lit (.int .u32 4211), .lit (.int .u32 8307), .lit (.int .u32 12403), .lit (.int .u32 20595), .lit (.int .u32 24691), .lit (.int .u32 28787)]

/-- 'porticolaw16.HartStays': WHATEVER THE INPUT: true; the input reads as it did. -/
def hartStaysSpec : ChangeSpec := { name := "hartStays", fn := fun _ => fun
  | [d1, d2] => { results := [.lit (.bool true)], args := [d1, d2] }
  | _ => none }
def hartStaysRow : OpenClaim := { program := "ytgpofoggfifnjaagreatdoor", sum := "55d72f8c14efab4bca7754dbb922dae0692194141b3191e7b1b1ee3fada1a34d", func := "portico/porticolaw16.HartStays", spec := "hartStays", named := ["math/bits.deBruijn32tab", "portico/inst.words"], apart := false, laid := [("math/bits.deBruijn32tab", laid_math_bits_deBruijn32tab), ("portico/inst.words", laid_portico_inst_words)] }
def HartStaysSaid : Prop := hartStaysRow.holds Tryz.pinned (OpenSpec.ofChange hartStaysSpec)

/-- ITS FALSE NEIGHBOUR: 'it returns false'. Refute it at one input. -/
def hartStaysWrong : ChangeSpec := { name := "hartStays", fn := fun _ => fun
  | [d1, d2] => { results := [.lit (.bool false)], args := [d1, d2] }
  | _ => none }
def HartStaysWrongFalsely : Prop := hartStaysRow.holds Tryz.pinned (OpenSpec.ofChange hartStaysWrong)

/-- 'porticolaw16.HartUser': WHATEVER THE INPUT: true; the input reads as it did. -/
def hartUserSpec : ChangeSpec := { name := "hartUser", fn := fun _ => fun
  | [d1, d2] => { results := [.lit (.bool true)], args := [d1, d2] }
  | _ => none }
def hartUserRow : OpenClaim := { program := "ytgpofoggfifnjaagreatdoor", sum := "55d72f8c14efab4bca7754dbb922dae0692194141b3191e7b1b1ee3fada1a34d", func := "portico/porticolaw16.HartUser", spec := "hartUser", named := ["math/bits.deBruijn32tab", "portico/inst.words"], apart := false, laid := [("math/bits.deBruijn32tab", laid_math_bits_deBruijn32tab), ("portico/inst.words", laid_portico_inst_words)] }
def HartUserSaid : Prop := hartUserRow.holds Tryz.pinned (OpenSpec.ofChange hartUserSpec)

/-- ITS FALSE NEIGHBOUR: 'it returns false'. Refute it at one input. -/
def hartUserWrong : ChangeSpec := { name := "hartUser", fn := fun _ => fun
  | [d1, d2] => { results := [.lit (.bool false)], args := [d1, d2] }
  | _ => none }
def HartUserWrongFalsely : Prop := hartUserRow.holds Tryz.pinned (OpenSpec.ofChange hartUserWrong)

/-- 'porticolaw16.HartNone': WHATEVER THE INPUT: true; the input reads as it did. -/
def hartNoneSpec : ChangeSpec := { name := "hartNone", fn := fun _ => fun
  | [d] => { results := [.lit (.bool true)], args := [d] }
  | _ => none }
def hartNoneRow : OpenClaim := { program := "ytgpofoggfifnjaagreatdoor", sum := "55d72f8c14efab4bca7754dbb922dae0692194141b3191e7b1b1ee3fada1a34d", func := "portico/porticolaw16.HartNone", spec := "hartNone", named := ["math/bits.deBruijn32tab", "portico/inst.words"], apart := false, laid := [("math/bits.deBruijn32tab", laid_math_bits_deBruijn32tab), ("portico/inst.words", laid_portico_inst_words)] }
def HartNoneSaid : Prop := hartNoneRow.holds Tryz.pinned (OpenSpec.ofChange hartNoneSpec)

/-- ITS FALSE NEIGHBOUR: 'it returns false'. Refute it at one input. -/
def hartNoneWrong : ChangeSpec := { name := "hartNone", fn := fun _ => fun
  | [d] => { results := [.lit (.bool false)], args := [d] }
  | _ => none }
def HartNoneWrongFalsely : Prop := hartNoneRow.holds Tryz.pinned (OpenSpec.ofChange hartNoneWrong)

/-- 'porticolaw16.HartCounts': WHATEVER THE INPUT: true; the input reads as it did. -/
def hartCountsSpec : ChangeSpec := { name := "hartCounts", fn := fun _ => fun
  | [d1, d2, d3] => { results := [.lit (.bool true)], args := [d1, d2, d3] }
  | _ => none }
def hartCountsRow : OpenClaim := { program := "ytgpofoggfifnjaagreatdoor", sum := "55d72f8c14efab4bca7754dbb922dae0692194141b3191e7b1b1ee3fada1a34d", func := "portico/porticolaw16.HartCounts", spec := "hartCounts", named := ["math/bits.deBruijn32tab", "portico/inst.words"], apart := false, laid := [("math/bits.deBruijn32tab", laid_math_bits_deBruijn32tab), ("portico/inst.words", laid_portico_inst_words)] }
def HartCountsSaid : Prop := hartCountsRow.holds Tryz.pinned (OpenSpec.ofChange hartCountsSpec)

/-- ITS FALSE NEIGHBOUR: 'it returns false'. Refute it at one input. -/
def hartCountsWrong : ChangeSpec := { name := "hartCounts", fn := fun _ => fun
  | [d1, d2, d3] => { results := [.lit (.bool false)], args := [d1, d2, d3] }
  | _ => none }
def HartCountsWrongFalsely : Prop := hartCountsRow.holds Tryz.pinned (OpenSpec.ofChange hartCountsWrong)

/- THE SECOND FORM. 'bulk': how many values and letters a reading holds, each counted each time it is reached (what is shared counts as often as it is met; a slice's spare places count too). A statement '..UptoSaid' is the law's where the arguments, and the package variables that the reading takes, are together of bulk at most 1048576: NARROWER than '..Said'. Prove '..Said' where nothing that the law and all that it calls make is longer than what came in: it says more and counts as full. Else prove '..UptoSaid'. A law counts once. -/
mutual
def uptoBulk {H : Type} : DataW H → Nat
  | .lit (.string bytes) => bytes.length + 1
  | .lit _ => 1
  | .nil => 1
  | .ptr d => uptoBulk d + 1
  | .slice elems spare => uptoBulkAll elems + uptoBulkAll spare + 1
  | .agg parts => uptoBulkAll parts + 1
  | .iface _ d => uptoBulk d + 1
  | .map entries => uptoBulkEntries entries + 1
  | .held _ => 1
def uptoBulkAll {H : Type} : List (DataW H) → Nat
  | [] => 0
  | d :: r => uptoBulk d + uptoBulkAll r
def uptoBulkEntries {H : Type} : List (Lit × DataW H) → Nat
  | [] => 0
  | x :: r => uptoBulkEntry x + uptoBulkEntries r
def uptoBulkEntry {H : Type} : Lit × DataW H → Nat
  | (.string bytes, d) => bytes.length + uptoBulk d + 1
  | (_, d) => uptoBulk d + 1
 end
def uptoSmall : (H : Type) → List (DataW H) → Bool := fun _ ds => decide (uptoBulkAll ds ≤ 1048576)
def OpenSpec.upto (s : _root_.Go.ChangeSpec) : _root_.Go.OpenSpec := { _root_.Go.OpenSpec.ofChange s with cond := some uptoSmall }

/-- 'porticolaw16.HartStays', WHERE WHAT IT READS IS OF BULK AT MOST 1048576: true; the input reads as it did. -/
def hartStaysUptoRow : OpenClaim := { program := "ytgpofoggfifnjaagreatdoor", sum := "55d72f8c14efab4bca7754dbb922dae0692194141b3191e7b1b1ee3fada1a34d", func := "portico/porticolaw16.HartStays", spec := "hartStays", named := ["math/bits.deBruijn32tab", "portico/inst.words"], apart := false, laid := [("math/bits.deBruijn32tab", laid_math_bits_deBruijn32tab), ("portico/inst.words", laid_portico_inst_words)], narrowed := true }
def HartStaysUptoSaid : Prop := hartStaysUptoRow.holds Tryz.pinned (OpenSpec.upto hartStaysSpec)

/-- 'porticolaw16.HartUser', WHERE WHAT IT READS IS OF BULK AT MOST 1048576: true; the input reads as it did. -/
def hartUserUptoRow : OpenClaim := { program := "ytgpofoggfifnjaagreatdoor", sum := "55d72f8c14efab4bca7754dbb922dae0692194141b3191e7b1b1ee3fada1a34d", func := "portico/porticolaw16.HartUser", spec := "hartUser", named := ["math/bits.deBruijn32tab", "portico/inst.words"], apart := false, laid := [("math/bits.deBruijn32tab", laid_math_bits_deBruijn32tab), ("portico/inst.words", laid_portico_inst_words)], narrowed := true }
def HartUserUptoSaid : Prop := hartUserUptoRow.holds Tryz.pinned (OpenSpec.upto hartUserSpec)

/-- 'porticolaw16.HartNone', WHERE WHAT IT READS IS OF BULK AT MOST 1048576: true; the input reads as it did. -/
def hartNoneUptoRow : OpenClaim := { program := "ytgpofoggfifnjaagreatdoor", sum := "55d72f8c14efab4bca7754dbb922dae0692194141b3191e7b1b1ee3fada1a34d", func := "portico/porticolaw16.HartNone", spec := "hartNone", named := ["math/bits.deBruijn32tab", "portico/inst.words"], apart := false, laid := [("math/bits.deBruijn32tab", laid_math_bits_deBruijn32tab), ("portico/inst.words", laid_portico_inst_words)], narrowed := true }
def HartNoneUptoSaid : Prop := hartNoneUptoRow.holds Tryz.pinned (OpenSpec.upto hartNoneSpec)

/-- 'porticolaw16.HartCounts', WHERE WHAT IT READS IS OF BULK AT MOST 1048576: true; the input reads as it did. -/
def hartCountsUptoRow : OpenClaim := { program := "ytgpofoggfifnjaagreatdoor", sum := "55d72f8c14efab4bca7754dbb922dae0692194141b3191e7b1b1ee3fada1a34d", func := "portico/porticolaw16.HartCounts", spec := "hartCounts", named := ["math/bits.deBruijn32tab", "portico/inst.words"], apart := false, laid := [("math/bits.deBruijn32tab", laid_math_bits_deBruijn32tab), ("portico/inst.words", laid_portico_inst_words)], narrowed := true }
def HartCountsUptoSaid : Prop := hartCountsUptoRow.holds Tryz.pinned (OpenSpec.upto hartCountsSpec)

end Rows
end Go.Proofs.YtgpofoggfifnjaaGreatDoor
