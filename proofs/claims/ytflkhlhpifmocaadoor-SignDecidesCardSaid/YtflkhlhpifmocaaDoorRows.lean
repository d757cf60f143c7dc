/-
  NARROWER THAN 'FOR EVERY INPUT', by the rows' own cells (each row's printed sentence says how): SignDecides: laid · SignKeys: laid.
  DERIVED. THE GIVEN ROWS OF THIS SEAT. 2 by the template 'for every input the law returns true; each argument reads behind the call as it read before'; 0 by the template 'total and deterministic' (their statements: YtflkhlhpifmocaaDoorTotals.lean).
  GIVEN WITH THE SEED: the statements are not yours to turn. If you find one false, say at which input.
  Laid BY PROGRAM, IN A SANDBOX (cutbox-rows.mjs): the forced cells as the released guide's own fill.sh prints them over the translation ade7a2bc488e6fca… (all of the seat's roots in one cut). By AI agents, Wed Nov 11 2026. No macro, syntax, notation, axiom, sorry.
-/
import Derived.Test.YtflkhlhpifmocaaDoorChecked
import GoSem.Claim
import GoSem.ClaimJoined
import GoSem.ClaimMapViews
import Derived.JoinedTies
import Derived.KernelRfl
namespace Go.Proofs.YtflkhlhpifmocaaDoor
/- THE CELL 'sum', in the pinned program and in every row, IS THE sha256 OF THE DUMP (.gsa) THAT YtflkhlhpifmocaaDoorProg.lean LOADS. Nothing in Lean hashes anything: it is a label: what it is worth is what the hold of that sum in a sandbox is worth. -/
noncomputable def Tryd.pinned : Pinned := { name := "ytflkhlhpifmocaadoor", sum := "ade7a2bc488e6fcab7d3ee0c1ce6c38946d66da055a6f28a26e49e631f1536db", checked := Tryd.checked }
namespace Rows
def none {H : Type} : Left H := { results := [], args := [] }

/- WHAT THE LISTED PACKAGE-LEVEL VARIABLES READ AS WHEN THE CALL BEGINS. Each datum BY PROGRAM (the guide's laid-datum.mjs) off the statement by which the dump's own 'gosem.cut.vars' lays the variable. In a bare row this is a premise. The card (YtflkhlhpifmocaaDoorCards.lean) ties it to the program's text. -/
def laid_portico_sha_initial {H : Type} : DataW H := .agg [.lit (.int .u32 1779033703), .lit (.int .u32 3144134277), .lit (.int .u32 1013904242), .lit (.int .u32 2773480762), .lit (.int .u32 1359893119), .lit (.int .u32 2600822924), .lit (.int .u32 528734635), .lit (.int .u32 1541459225)]
def laid_portico_sha_roundConstants {H : Type} : DataW H := .agg [.lit (.int .u32 1116352408), .lit (.int .u32 1899447441), .lit (.int .u32 3049323471), .lit (.int .u32 3921009573), .lit (.int .u32 961987163), .lit (.int .u32 1508970993), .lit (.int .u32 2453635748), .lit (.int .u32 2870763221), .lit (.int .u32 3624381080), .lit (.int .u32 310598401), .lit (.int .u32 607225278), .lit (.int .u32 1426881987), .lit (.int .u32 1925078388), .lit (.int .u32 2162078206), .lit (.int .u32 2614888103), .lit (.int .u32 3248222580), .lit (.int .u32 3835390401), .lit (.int .u32 4022224774), .lit (.int .u32 264347078), .lit (.int .u32 604807628), .lit (.int .u32 770255983), .lit (.int .u32 1249150122), .lit (.int .u32 1555081692), .lit (.int .u32 1996064986), .lit (.int .u32 2554220882), .lit (.int .u32 2821834349), .lit (.int .u32 2952996808), .lit (.int .u32 3210313671), .lit (.int .u32 3336571891), .lit (.int .u32 3584528711), .lit (.int .u32 113926993), .lit (.int .u32 338241895), .lit (.int .u32 666307205), .lit (.int .u32 773529912), .lit (.int .u32 1294757372), .lit (.int .u32 1396182291), .lit (.int .u32 1695183700), .lit (.int .u32 1986661051), .lit (.int .u32 2177026350), .lit (.int .u32 2456956037), .lit (.int .u32 2730485921), .lit (.int .u32 2820302411), .lit (.int .u32 3259730800), .lit (.int .u32 3345764771), .lit (.int .u32 3516065817), .lit (.int .u32 3600352804), .lit (.int .u32 4094571909), .lit (.int .u32 275423344), .lit (.int .u32 430227734), .lit (.int .u32 506948616), .lit (.int .u32 659060556), .lit (.int .u32 883997877), .lit (.int .u32 958139571), .lit (.int .u32 1322822218), .lit (.int .u32 1537002063), .lit (.int .u32 1747873779), .lit (.int .u32 1955562222), .lit (.int .u32 2024104815), .lit (.int .u32 2227730452), .lit (.int .u32 2361852424), .lit (.int .u32 2428436474), .lit (.int .u32 2756734187), .lit (.int .u32 3204031479), .lit (.int .u32 3329325298)]
def laid_portico_curve_prime {H : Type} : DataW H := .agg [.lit (.int .u32 4294967295), .lit (.int .u32 4294967295), .lit (.int .u32 4294967295), .lit (.int .u32 0), .lit (.int .u32 0), .lit (.int .u32 0), .lit (.int .u32 1), .lit (.int .u32 4294967295)]
def laid_portico_curve_coefficient {H : Type} : DataW H := .agg [.lit (.int .u32 668098635), .lit (.int .u32 1003371582), .lit (.int .u32 3428036854), .lit (.int .u32 1696401072), .lit (.int .u32 1989707452), .lit (.int .u32 3018571093), .lit (.int .u32 2855965671), .lit (.int .u32 1522939352)]
def laid_portico_curve_baseX {H : Type} : DataW H := .agg [.lit (.int .u32 3633889942), .lit (.int .u32 4104206661), .lit (.int .u32 770388896), .lit (.int .u32 1996717441), .lit (.int .u32 1671708914), .lit (.int .u32 4173129445), .lit (.int .u32 3777774151), .lit (.int .u32 1796723186)]
def laid_portico_curve_baseY {H : Type} : DataW H := .agg [.lit (.int .u32 935285237), .lit (.int .u32 3417718888), .lit (.int .u32 1798397646), .lit (.int .u32 734933847), .lit (.int .u32 2081398294), .lit (.int .u32 2397563722), .lit (.int .u32 4263149467), .lit (.int .u32 1340293858)]
def laid_portico_curve_order {H : Type} : DataW H := .agg [.lit (.int .u32 4234356049), .lit (.int .u32 4089039554), .lit (.int .u32 2803342980), .lit (.int .u32 3169254061), .lit (.int .u32 4294967295), .lit (.int .u32 4294967295), .lit (.int .u32 0), .lit (.int .u32 4294967295)]

/-- 'porticolaw05.SignDecides': WHATEVER THE INPUT: true; the input reads as it did. -/
def signDecidesSpec : ChangeSpec := { name := "signDecides", fn := fun _ => fun
  | [d1, d2, d3] => { results := [.lit (.bool true)], args := [d1, d2, d3] }
  | _ => none }
def signDecidesRow : OpenClaim := { program := "ytflkhlhpifmocaadoor", sum := "ade7a2bc488e6fcab7d3ee0c1ce6c38946d66da055a6f28a26e49e631f1536db", func := "portico/porticolaw05.SignDecides", spec := "signDecides", named := ["portico/curve.prime", "portico/curve.coefficient", "portico/curve.order", "portico/sha.initial", "portico/sha.roundConstants", "portico/curve.baseX", "portico/curve.baseY"], apart := false, laid := [("portico/sha.initial", laid_portico_sha_initial), ("portico/sha.roundConstants", laid_portico_sha_roundConstants), ("portico/curve.prime", laid_portico_curve_prime), ("portico/curve.coefficient", laid_portico_curve_coefficient), ("portico/curve.baseX", laid_portico_curve_baseX), ("portico/curve.baseY", laid_portico_curve_baseY), ("portico/curve.order", laid_portico_curve_order)] }
def SignDecidesSaid : Prop := signDecidesRow.holds Tryd.pinned (OpenSpec.ofChange signDecidesSpec)

/-- ITS FALSE NEIGHBOUR: 'it returns false'. Refute it at one input. -/
def signDecidesWrong : ChangeSpec := { name := "signDecides", fn := fun _ => fun
  | [d1, d2, d3] => { results := [.lit (.bool false)], args := [d1, d2, d3] }
  | _ => none }
def SignDecidesWrongFalsely : Prop := signDecidesRow.holds Tryd.pinned (OpenSpec.ofChange signDecidesWrong)

/-- 'porticolaw05.SignKeys': WHATEVER THE INPUT: true; the input reads as it did. -/
def signKeysSpec : ChangeSpec := { name := "signKeys", fn := fun _ => fun
  | [d] => { results := [.lit (.bool true)], args := [d] }
  | _ => none }
def signKeysRow : OpenClaim := { program := "ytflkhlhpifmocaadoor", sum := "ade7a2bc488e6fcab7d3ee0c1ce6c38946d66da055a6f28a26e49e631f1536db", func := "portico/porticolaw05.SignKeys", spec := "signKeys", named := ["portico/curve.prime", "portico/curve.coefficient", "portico/curve.order", "portico/sha.initial", "portico/sha.roundConstants", "portico/curve.baseX", "portico/curve.baseY"], apart := false, laid := [("portico/sha.initial", laid_portico_sha_initial), ("portico/sha.roundConstants", laid_portico_sha_roundConstants), ("portico/curve.prime", laid_portico_curve_prime), ("portico/curve.coefficient", laid_portico_curve_coefficient), ("portico/curve.baseX", laid_portico_curve_baseX), ("portico/curve.baseY", laid_portico_curve_baseY), ("portico/curve.order", laid_portico_curve_order)] }
def SignKeysSaid : Prop := signKeysRow.holds Tryd.pinned (OpenSpec.ofChange signKeysSpec)

/-- ITS FALSE NEIGHBOUR: 'it returns false'. Refute it at one input. -/
def signKeysWrong : ChangeSpec := { name := "signKeys", fn := fun _ => fun
  | [d] => { results := [.lit (.bool false)], args := [d] }
  | _ => none }
def SignKeysWrongFalsely : Prop := signKeysRow.holds Tryd.pinned (OpenSpec.ofChange signKeysWrong)

/- THE SECOND FORM. 'bulk': how many values and letters a reading holds, each counted each time it is reached (what is shared counts as often as it is met; a slice's spare places count too). A statement '..UptoSaid' is the law's where the arguments, and the package variables that the reading takes, are together of bulk at most 1048576: NARROWER than '..Said'. Prove '..Said' where nothing that the law and all that it calls make is longer than what came in: it says more and counts as full. Else prove '..UptoSaid'. A law counts once. -/
mutual
def uptoBulk {H : Type} : DataW H → Nat
  | .lit (.string bytes) => bytes.length + 1
  | .lit _ => 1
  | .nil => 1
  | .ptr d => uptoBulk d + 1
  | .slice elems spare => uptoBulkAll elems + uptoBulkAll spare + 1
  | .agg parts => uptoBulkAll parts + 1
  | .iface _ d => uptoBulk d + 1
  | .map entries => uptoBulkEntries entries + 1
  | .held _ => 1
def uptoBulkAll {H : Type} : List (DataW H) → Nat
  | [] => 0
  | d :: r => uptoBulk d + uptoBulkAll r
def uptoBulkEntries {H : Type} : List (Lit × DataW H) → Nat
  | [] => 0
  | x :: r => uptoBulkEntry x + uptoBulkEntries r
def uptoBulkEntry {H : Type} : Lit × DataW H → Nat
  | (.string bytes, d) => bytes.length + uptoBulk d + 1
  | (_, d) => uptoBulk d + 1
 end
def uptoSmall : (H : Type) → List (DataW H) → Bool := fun _ ds => decide (uptoBulkAll ds ≤ 1048576)
def OpenSpec.upto (s : _root_.Go.ChangeSpec) : _root_.Go.OpenSpec := { _root_.Go.OpenSpec.ofChange s with cond := some uptoSmall }

/-- 'porticolaw05.SignDecides', WHERE WHAT IT READS IS OF BULK AT MOST 1048576: true; the input reads as it did. -/
def signDecidesUptoRow : OpenClaim := { program := "ytflkhlhpifmocaadoor", sum := "ade7a2bc488e6fcab7d3ee0c1ce6c38946d66da055a6f28a26e49e631f1536db", func := "portico/porticolaw05.SignDecides", spec := "signDecides", named := ["portico/curve.prime", "portico/curve.coefficient", "portico/curve.order", "portico/sha.initial", "portico/sha.roundConstants", "portico/curve.baseX", "portico/curve.baseY"], apart := false, laid := [("portico/sha.initial", laid_portico_sha_initial), ("portico/sha.roundConstants", laid_portico_sha_roundConstants), ("portico/curve.prime", laid_portico_curve_prime), ("portico/curve.coefficient", laid_portico_curve_coefficient), ("portico/curve.baseX", laid_portico_curve_baseX), ("portico/curve.baseY", laid_portico_curve_baseY), ("portico/curve.order", laid_portico_curve_order)], narrowed := true }
def SignDecidesUptoSaid : Prop := signDecidesUptoRow.holds Tryd.pinned (OpenSpec.upto signDecidesSpec)

/-- 'porticolaw05.SignKeys', WHERE WHAT IT READS IS OF BULK AT MOST 1048576: true; the input reads as it did. -/
def signKeysUptoRow : OpenClaim := { program := "ytflkhlhpifmocaadoor", sum := "ade7a2bc488e6fcab7d3ee0c1ce6c38946d66da055a6f28a26e49e631f1536db", func := "portico/porticolaw05.SignKeys", spec := "signKeys", named := ["portico/curve.prime", "portico/curve.coefficient", "portico/curve.order", "portico/sha.initial", "portico/sha.roundConstants", "portico/curve.baseX", "portico/curve.baseY"], apart := false, laid := [("portico/sha.initial", laid_portico_sha_initial), ("portico/sha.roundConstants", laid_portico_sha_roundConstants), ("portico/curve.prime", laid_portico_curve_prime), ("portico/curve.coefficient", laid_portico_curve_coefficient), ("portico/curve.baseX", laid_portico_curve_baseX), ("portico/curve.baseY", laid_portico_curve_baseY), ("portico/curve.order", laid_portico_curve_order)], narrowed := true }
def SignKeysUptoSaid : Prop := signKeysUptoRow.holds Tryd.pinned (OpenSpec.upto signKeysSpec)

end Rows
end Go.Proofs.YtflkhlhpifmocaaDoor
