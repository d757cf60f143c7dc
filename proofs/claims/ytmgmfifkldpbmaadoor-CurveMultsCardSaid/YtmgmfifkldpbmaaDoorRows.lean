/-
  NARROWER THAN 'FOR EVERY INPUT', by the rows' own cells (each row's printed sentence says how): CurveMults: laid · CurveSums: laid · CurveOn: laid · CurveTwo: laid.
  DERIVED. THE GIVEN ROWS OF THIS SEAT. 4 by the template 'for every input the law returns true; each argument reads behind the call as it read before'; 0 by the template 'total and deterministic' (their statements: YtmgmfifkldpbmaaDoorTotals.lean).
  GIVEN WITH THE SEED: the statements are not yours to turn. If you find one false, say at which input.
  Laid BY PROGRAM, IN A SANDBOX (cutbox-rows.mjs): the forced cells as the released guide's own fill.sh prints them over the translation 1c729e01ba5a829f… (all of the seat's roots in one cut). By AI agents, Wed Nov 11 2026. No macro, syntax, notation, axiom, sorry.
-/
import Derived.Test.YtmgmfifkldpbmaaDoorChecked
import GoSem.Claim
import GoSem.ClaimJoined
import GoSem.ClaimMapViews
import Derived.JoinedTies
import Derived.KernelRfl
namespace Go.Proofs.YtmgmfifkldpbmaaDoor
/- THE CELL 'sum', in the pinned program and in every row, IS THE sha256 OF THE DUMP (.gsa) THAT YtmgmfifkldpbmaaDoorProg.lean LOADS. Nothing in Lean hashes anything: it is a label: what it is worth is what the hold of that sum in a sandbox is worth. -/
noncomputable def Tryd.pinned : Pinned := { name := "ytmgmfifkldpbmaadoor", sum := "1c729e01ba5a829fb616cf047d0d33d8620462394e639cd63d7b65e0f4137d73", checked := Tryd.checked }
namespace Rows
def none {H : Type} : Left H := { results := [], args := [] }

/- WHAT THE LISTED PACKAGE-LEVEL VARIABLES READ AS WHEN THE CALL BEGINS. Each datum BY PROGRAM (the guide's laid-datum.mjs) off the statement by which the dump's own 'gosem.cut.vars' lays the variable. In a bare row this is a premise. The card (YtmgmfifkldpbmaaDoorCards.lean) ties it to the program's text. -/
def laid_portico_curve_prime {H : Type} : DataW H := .agg [.lit (.int .u32 4294967295), .lit (.int .u32 4294967295), .lit (.int .u32 4294967295), .lit (.int .u32 0), .lit (.int .u32 0), .lit (.int .u32 0), .lit (.int .u32 1), .lit (.int .u32 4294967295)]
def laid_portico_curve_coefficient {H : Type} : DataW H := .agg [.lit (.int .u32 668098635), .lit (.int .u32 1003371582), .lit (.int .u32 3428036854), .lit (.int .u32 1696401072), .lit (.int .u32 1989707452), .lit (.int .u32 3018571093), .lit (.int .u32 2855965671), .lit (.int .u32 1522939352)]
def laid_portico_curve_baseX {H : Type} : DataW H := .agg [.lit (.int .u32 3633889942), .lit (.int .u32 4104206661), .lit (.int .u32 770388896), .lit (.int .u32 1996717441), .lit (.int .u32 1671708914), .lit (.int .u32 4173129445), .lit (.int .u32 3777774151), .lit (.int .u32 1796723186)]
def laid_portico_curve_baseY {H : Type} : DataW H := .agg [.lit (.int .u32 935285237), .lit (.int .u32 3417718888), .lit (.int .u32 1798397646), .lit (.int .u32 734933847), .lit (.int .u32 2081398294), .lit (.int .u32 2397563722), .lit (.int .u32 4263149467), .lit (.int .u32 1340293858)]
def laid_portico_curve_order {H : Type} : DataW H := .agg [.lit (.int .u32 4234356049), .lit (.int .u32 4089039554), .lit (.int .u32 2803342980), .lit (.int .u32 3169254061), .lit (.int .u32 4294967295), .lit (.int .u32 4294967295), .lit (.int .u32 0), .lit (.int .u32 4294967295)]

/-- 'porticolaw04.CurveMults': WHATEVER THE INPUT: true; the input reads as it did. -/
def curveMultsSpec : ChangeSpec := { name := "curveMults", fn := fun _ => fun
  | [d1, d2] => { results := [.lit (.bool true)], args := [d1, d2] }
  | _ => none }
def curveMultsRow : OpenClaim := { program := "ytmgmfifkldpbmaadoor", sum := "1c729e01ba5a829fb616cf047d0d33d8620462394e639cd63d7b65e0f4137d73", func := "portico/porticolaw04.CurveMults", spec := "curveMults", named := ["portico/curve.prime", "portico/curve.coefficient", "portico/curve.baseX", "portico/curve.baseY", "portico/curve.order"], apart := false, laid := [("portico/curve.prime", laid_portico_curve_prime), ("portico/curve.coefficient", laid_portico_curve_coefficient), ("portico/curve.baseX", laid_portico_curve_baseX), ("portico/curve.baseY", laid_portico_curve_baseY), ("portico/curve.order", laid_portico_curve_order)] }
def CurveMultsSaid : Prop := curveMultsRow.holds Tryd.pinned (OpenSpec.ofChange curveMultsSpec)

/-- ITS FALSE NEIGHBOUR: 'it returns false'. Refute it at one input. -/
def curveMultsWrong : ChangeSpec := { name := "curveMults", fn := fun _ => fun
  | [d1, d2] => { results := [.lit (.bool false)], args := [d1, d2] }
  | _ => none }
def CurveMultsWrongFalsely : Prop := curveMultsRow.holds Tryd.pinned (OpenSpec.ofChange curveMultsWrong)

/-- 'porticolaw04.CurveSums': WHATEVER THE INPUT: true; the input reads as it did. -/
def curveSumsSpec : ChangeSpec := { name := "curveSums", fn := fun _ => fun
  | [d1, d2] => { results := [.lit (.bool true)], args := [d1, d2] }
  | _ => none }
def curveSumsRow : OpenClaim := { program := "ytmgmfifkldpbmaadoor", sum := "1c729e01ba5a829fb616cf047d0d33d8620462394e639cd63d7b65e0f4137d73", func := "portico/porticolaw04.CurveSums", spec := "curveSums", named := ["portico/curve.prime", "portico/curve.coefficient", "portico/curve.baseX", "portico/curve.baseY", "portico/curve.order"], apart := false, laid := [("portico/curve.prime", laid_portico_curve_prime), ("portico/curve.coefficient", laid_portico_curve_coefficient), ("portico/curve.baseX", laid_portico_curve_baseX), ("portico/curve.baseY", laid_portico_curve_baseY), ("portico/curve.order", laid_portico_curve_order)] }
def CurveSumsSaid : Prop := curveSumsRow.holds Tryd.pinned (OpenSpec.ofChange curveSumsSpec)

/-- ITS FALSE NEIGHBOUR: 'it returns false'. Refute it at one input. -/
def curveSumsWrong : ChangeSpec := { name := "curveSums", fn := fun _ => fun
  | [d1, d2] => { results := [.lit (.bool false)], args := [d1, d2] }
  | _ => none }
def CurveSumsWrongFalsely : Prop := curveSumsRow.holds Tryd.pinned (OpenSpec.ofChange curveSumsWrong)

/-- 'porticolaw04.CurveOn': WHATEVER THE INPUT: true; the input reads as it did. -/
def curveOnSpec : ChangeSpec := { name := "curveOn", fn := fun _ => fun
  | [d1, d2, d3] => { results := [.lit (.bool true)], args := [d1, d2, d3] }
  | _ => none }
def curveOnRow : OpenClaim := { program := "ytmgmfifkldpbmaadoor", sum := "1c729e01ba5a829fb616cf047d0d33d8620462394e639cd63d7b65e0f4137d73", func := "portico/porticolaw04.CurveOn", spec := "curveOn", named := ["portico/curve.prime", "portico/curve.coefficient", "portico/curve.baseX", "portico/curve.baseY", "portico/curve.order"], apart := false, laid := [("portico/curve.prime", laid_portico_curve_prime), ("portico/curve.coefficient", laid_portico_curve_coefficient), ("portico/curve.baseX", laid_portico_curve_baseX), ("portico/curve.baseY", laid_portico_curve_baseY), ("portico/curve.order", laid_portico_curve_order)] }
def CurveOnSaid : Prop := curveOnRow.holds Tryd.pinned (OpenSpec.ofChange curveOnSpec)

/-- ITS FALSE NEIGHBOUR: 'it returns false'. Refute it at one input. -/
def curveOnWrong : ChangeSpec := { name := "curveOn", fn := fun _ => fun
  | [d1, d2, d3] => { results := [.lit (.bool false)], args := [d1, d2, d3] }
  | _ => none }
def CurveOnWrongFalsely : Prop := curveOnRow.holds Tryd.pinned (OpenSpec.ofChange curveOnWrong)

/-- 'porticolaw04.CurveTwo': WHATEVER THE INPUT: true; the input reads as it did. -/
def curveTwoSpec : ChangeSpec := { name := "curveTwo", fn := fun _ => fun
  | [d1, d2, d3] => { results := [.lit (.bool true)], args := [d1, d2, d3] }
  | _ => none }
def curveTwoRow : OpenClaim := { program := "ytmgmfifkldpbmaadoor", sum := "1c729e01ba5a829fb616cf047d0d33d8620462394e639cd63d7b65e0f4137d73", func := "portico/porticolaw04.CurveTwo", spec := "curveTwo", named := ["portico/curve.prime", "portico/curve.coefficient", "portico/curve.baseX", "portico/curve.baseY", "portico/curve.order"], apart := false, laid := [("portico/curve.prime", laid_portico_curve_prime), ("portico/curve.coefficient", laid_portico_curve_coefficient), ("portico/curve.baseX", laid_portico_curve_baseX), ("portico/curve.baseY", laid_portico_curve_baseY), ("portico/curve.order", laid_portico_curve_order)] }
def CurveTwoSaid : Prop := curveTwoRow.holds Tryd.pinned (OpenSpec.ofChange curveTwoSpec)

/-- ITS FALSE NEIGHBOUR: 'it returns false'. Refute it at one input. -/
def curveTwoWrong : ChangeSpec := { name := "curveTwo", fn := fun _ => fun
  | [d1, d2, d3] => { results := [.lit (.bool false)], args := [d1, d2, d3] }
  | _ => none }
def CurveTwoWrongFalsely : Prop := curveTwoRow.holds Tryd.pinned (OpenSpec.ofChange curveTwoWrong)

/- THE SECOND FORM. 'bulk': how many values and letters a reading holds, each counted each time it is reached (what is shared counts as often as it is met; a slice's spare places count too). A statement '..UptoSaid' is the law's where the arguments, and the package variables that the reading takes, are together of bulk at most 1048576: NARROWER than '..Said'. Prove '..Said' where nothing that the law and all that it calls make is longer than what came in: it says more and counts as full. Else prove '..UptoSaid'. A law counts once. -/
mutual
def uptoBulk {H : Type} : DataW H → Nat
  | .lit (.string bytes) => bytes.length + 1
  | .lit _ => 1
  | .nil => 1
  | .ptr d => uptoBulk d + 1
  | .slice elems spare => uptoBulkAll elems + uptoBulkAll spare + 1
  | .agg parts => uptoBulkAll parts + 1
  | .iface _ d => uptoBulk d + 1
  | .map entries => uptoBulkEntries entries + 1
  | .held _ => 1
def uptoBulkAll {H : Type} : List (DataW H) → Nat
  | [] => 0
  | d :: r => uptoBulk d + uptoBulkAll r
def uptoBulkEntries {H : Type} : List (Lit × DataW H) → Nat
  | [] => 0
  | x :: r => uptoBulkEntry x + uptoBulkEntries r
def uptoBulkEntry {H : Type} : Lit × DataW H → Nat
  | (.string bytes, d) => bytes.length + uptoBulk d + 1
  | (_, d) => uptoBulk d + 1
 end
def uptoSmall : (H : Type) → List (DataW H) → Bool := fun _ ds => decide (uptoBulkAll ds ≤ 1048576)
def OpenSpec.upto (s : _root_.Go.ChangeSpec) : _root_.Go.OpenSpec := { _root_.Go.OpenSpec.ofChange s with cond := some uptoSmall }

/-- 'porticolaw04.CurveMults', WHERE WHAT IT READS IS OF BULK AT MOST 1048576: true; the input reads as it did. -/
def curveMultsUptoRow : OpenClaim := { program := "ytmgmfifkldpbmaadoor", sum := "1c729e01ba5a829fb616cf047d0d33d8620462394e639cd63d7b65e0f4137d73", func := "portico/porticolaw04.CurveMults", spec := "curveMults", named := ["portico/curve.prime", "portico/curve.coefficient", "portico/curve.baseX", "portico/curve.baseY", "portico/curve.order"], apart := false, laid := [("portico/curve.prime", laid_portico_curve_prime), ("portico/curve.coefficient", laid_portico_curve_coefficient), ("portico/curve.baseX", laid_portico_curve_baseX), ("portico/curve.baseY", laid_portico_curve_baseY), ("portico/curve.order", laid_portico_curve_order)], narrowed := true }
def CurveMultsUptoSaid : Prop := curveMultsUptoRow.holds Tryd.pinned (OpenSpec.upto curveMultsSpec)

/-- 'porticolaw04.CurveSums', WHERE WHAT IT READS IS OF BULK AT MOST 1048576: true; the input reads as it did. -/
def curveSumsUptoRow : OpenClaim := { program := "ytmgmfifkldpbmaadoor", sum := "1c729e01ba5a829fb616cf047d0d33d8620462394e639cd63d7b65e0f4137d73", func := "portico/porticolaw04.CurveSums", spec := "curveSums", named := ["portico/curve.prime", "portico/curve.coefficient", "portico/curve.baseX", "portico/curve.baseY", "portico/curve.order"], apart := false, laid := [("portico/curve.prime", laid_portico_curve_prime), ("portico/curve.coefficient", laid_portico_curve_coefficient), ("portico/curve.baseX", laid_portico_curve_baseX), ("portico/curve.baseY", laid_portico_curve_baseY), ("portico/curve.order", laid_portico_curve_order)], narrowed := true }
def CurveSumsUptoSaid : Prop := curveSumsUptoRow.holds Tryd.pinned (OpenSpec.upto curveSumsSpec)

/-- 'porticolaw04.CurveOn', WHERE WHAT IT READS IS OF BULK AT MOST 1048576: true; the input reads as it did. -/
def curveOnUptoRow : OpenClaim := { program := "ytmgmfifkldpbmaadoor", sum := "1c729e01ba5a829fb616cf047d0d33d8620462394e639cd63d7b65e0f4137d73", func := "portico/porticolaw04.CurveOn", spec := "curveOn", named := ["portico/curve.prime", "portico/curve.coefficient", "portico/curve.baseX", "portico/curve.baseY", "portico/curve.order"], apart := false, laid := [("portico/curve.prime", laid_portico_curve_prime), ("portico/curve.coefficient", laid_portico_curve_coefficient), ("portico/curve.baseX", laid_portico_curve_baseX), ("portico/curve.baseY", laid_portico_curve_baseY), ("portico/curve.order", laid_portico_curve_order)], narrowed := true }
def CurveOnUptoSaid : Prop := curveOnUptoRow.holds Tryd.pinned (OpenSpec.upto curveOnSpec)

/-- 'porticolaw04.CurveTwo', WHERE WHAT IT READS IS OF BULK AT MOST 1048576: true; the input reads as it did. -/
def curveTwoUptoRow : OpenClaim := { program := "ytmgmfifkldpbmaadoor", sum := "1c729e01ba5a829fb616cf047d0d33d8620462394e639cd63d7b65e0f4137d73", func := "portico/porticolaw04.CurveTwo", spec := "curveTwo", named := ["portico/curve.prime", "portico/curve.coefficient", "portico/curve.baseX", "portico/curve.baseY", "portico/curve.order"], apart := false, laid := [("portico/curve.prime", laid_portico_curve_prime), ("portico/curve.coefficient", laid_portico_curve_coefficient), ("portico/curve.baseX", laid_portico_curve_baseX), ("portico/curve.baseY", laid_portico_curve_baseY), ("portico/curve.order", laid_portico_curve_order)], narrowed := true }
def CurveTwoUptoSaid : Prop := curveTwoUptoRow.holds Tryd.pinned (OpenSpec.upto curveTwoSpec)

end Rows
end Go.Proofs.YtmgmfifkldpbmaaDoor
