/-
  No cell of these rows narrows 'for every input' (looked for: loops, veiled, ifaces, maps, wideKeys, modest, calm, conditions, laid).
  DERIVED. THE GIVEN ROWS OF THIS SEAT. 4 by the template 'for every input the law returns true; each argument reads behind the call as it read before'; 0 by the template 'total and deterministic' (their statements: YtjlnenelhnpnnaaTotals.lean).
  GIVEN WITH THE SEED: the statements are not yours to turn. If you find one false, say at which input.
  Laid BY PROGRAM, IN A SANDBOX (cutbox-rows.mjs): the forced cells as the released guide's own fill.sh prints them over the translation f243c77415ca01f5… (all of the seat's roots in one cut). By AI agents, Wed Nov 11 2026. No macro, syntax, notation, axiom, sorry.
-/
import Derived.Test.YtjlnenelhnpnnaaChecked
import GoSem.Claim
import GoSem.ClaimJoined
import GoSem.ClaimMapViews
import Derived.JoinedTies
import Derived.KernelRfl
namespace Go.Proofs.Ytjlnenelhnpnnaa
/- THE CELL 'sum', in the pinned program and in every row, IS THE sha256 OF THE DUMP (.gsa) THAT YtjlnenelhnpnnaaProg.lean LOADS. Nothing in Lean hashes anything: it is a label: what it is worth is what the hold of that sum in a sandbox is worth. -/
noncomputable def Try.pinned : Pinned := { name := "ytjlnenelhnpnnaa", sum := "f243c77415ca01f5b420a00778fda1e09f9bf4ffdc85025bd37e763f0c73f809", checked := Try.checked }
namespace Rows
def none {H : Type} : Left H := { results := [], args := [] }

/-- 'porticolaw06.BytesReads': WHATEVER THE INPUT: true; the input reads as it did. -/
def bytesReadsSpec : ChangeSpec := { name := "bytesReads", fn := fun _ => fun
  | [d1, d2] => { results := [.lit (.bool true)], args := [d1, d2] }
  | _ => none }
def bytesReadsRow : OpenClaim := { program := "ytjlnenelhnpnnaa", sum := "f243c77415ca01f5b420a00778fda1e09f9bf4ffdc85025bd37e763f0c73f809", func := "portico/porticolaw06.BytesReads", spec := "bytesReads", apart := false }
def BytesReadsSaid : Prop := bytesReadsRow.holds Try.pinned (OpenSpec.ofChange bytesReadsSpec)

/-- ITS FALSE NEIGHBOUR: 'it returns false'. Refute it at one input. -/
def bytesReadsWrong : ChangeSpec := { name := "bytesReads", fn := fun _ => fun
  | [d1, d2] => { results := [.lit (.bool false)], args := [d1, d2] }
  | _ => none }
def BytesReadsWrongFalsely : Prop := bytesReadsRow.holds Try.pinned (OpenSpec.ofChange bytesReadsWrong)

/-- 'porticolaw06.BytesBack': WHATEVER THE INPUT: true; the input reads as it did. -/
def bytesBackSpec : ChangeSpec := { name := "bytesBack", fn := fun _ => fun
  | [d1, d2] => { results := [.lit (.bool true)], args := [d1, d2] }
  | _ => none }
def bytesBackRow : OpenClaim := { program := "ytjlnenelhnpnnaa", sum := "f243c77415ca01f5b420a00778fda1e09f9bf4ffdc85025bd37e763f0c73f809", func := "portico/porticolaw06.BytesBack", spec := "bytesBack", apart := false }
def BytesBackSaid : Prop := bytesBackRow.holds Try.pinned (OpenSpec.ofChange bytesBackSpec)

/-- ITS FALSE NEIGHBOUR: 'it returns false'. Refute it at one input. -/
def bytesBackWrong : ChangeSpec := { name := "bytesBack", fn := fun _ => fun
  | [d1, d2] => { results := [.lit (.bool false)], args := [d1, d2] }
  | _ => none }
def BytesBackWrongFalsely : Prop := bytesBackRow.holds Try.pinned (OpenSpec.ofChange bytesBackWrong)

/-- 'porticolaw06.BytesPlaces': WHATEVER THE INPUT: true; the input reads as it did. -/
def bytesPlacesSpec : ChangeSpec := { name := "bytesPlaces", fn := fun _ => fun
  | [d1, d2, d3] => { results := [.lit (.bool true)], args := [d1, d2, d3] }
  | _ => none }
def bytesPlacesRow : OpenClaim := { program := "ytjlnenelhnpnnaa", sum := "f243c77415ca01f5b420a00778fda1e09f9bf4ffdc85025bd37e763f0c73f809", func := "portico/porticolaw06.BytesPlaces", spec := "bytesPlaces", apart := false }
def BytesPlacesSaid : Prop := bytesPlacesRow.holds Try.pinned (OpenSpec.ofChange bytesPlacesSpec)

/-- ITS FALSE NEIGHBOUR: 'it returns false'. Refute it at one input. -/
def bytesPlacesWrong : ChangeSpec := { name := "bytesPlaces", fn := fun _ => fun
  | [d1, d2, d3] => { results := [.lit (.bool false)], args := [d1, d2, d3] }
  | _ => none }
def BytesPlacesWrongFalsely : Prop := bytesPlacesRow.holds Try.pinned (OpenSpec.ofChange bytesPlacesWrong)

/-- 'porticolaw06.BytesNone': WHATEVER THE INPUT: true; the input reads as it did. -/
def bytesNoneSpec : ChangeSpec := { name := "bytesNone", fn := fun _ => fun
  | [d] => { results := [.lit (.bool true)], args := [d] }
  | _ => none }
def bytesNoneRow : OpenClaim := { program := "ytjlnenelhnpnnaa", sum := "f243c77415ca01f5b420a00778fda1e09f9bf4ffdc85025bd37e763f0c73f809", func := "portico/porticolaw06.BytesNone", spec := "bytesNone", apart := false }
def BytesNoneSaid : Prop := bytesNoneRow.holds Try.pinned (OpenSpec.ofChange bytesNoneSpec)

/-- ITS FALSE NEIGHBOUR: 'it returns false'. Refute it at one input. -/
def bytesNoneWrong : ChangeSpec := { name := "bytesNone", fn := fun _ => fun
  | [d] => { results := [.lit (.bool false)], args := [d] }
  | _ => none }
def BytesNoneWrongFalsely : Prop := bytesNoneRow.holds Try.pinned (OpenSpec.ofChange bytesNoneWrong)

/- THE SECOND FORM. 'bulk': how many values and letters a reading holds, each counted each time it is reached (what is shared counts as often as it is met; a slice's spare places count too). A statement '..UptoSaid' is the law's where the arguments, and the package variables that the reading takes, are together of bulk at most 1048576: NARROWER than '..Said'. Prove '..Said' where nothing that the law and all that it calls make is longer than what came in: it says more and counts as full. Else prove '..UptoSaid'. A law counts once. -/
mutual
def uptoBulk {H : Type} : DataW H → Nat
  | .lit (.string bytes) => bytes.length + 1
  | .lit _ => 1
  | .nil => 1
  | .ptr d => uptoBulk d + 1
  | .slice elems spare => uptoBulkAll elems + uptoBulkAll spare + 1
  | .agg parts => uptoBulkAll parts + 1
  | .iface _ d => uptoBulk d + 1
  | .map entries => uptoBulkEntries entries + 1
  | .held _ => 1
def uptoBulkAll {H : Type} : List (DataW H) → Nat
  | [] => 0
  | d :: r => uptoBulk d + uptoBulkAll r
def uptoBulkEntries {H : Type} : List (Lit × DataW H) → Nat
  | [] => 0
  | x :: r => uptoBulkEntry x + uptoBulkEntries r
def uptoBulkEntry {H : Type} : Lit × DataW H → Nat
  | (.string bytes, d) => bytes.length + uptoBulk d + 1
  | (_, d) => uptoBulk d + 1
 end
def uptoSmall : (H : Type) → List (DataW H) → Bool := fun _ ds => decide (uptoBulkAll ds ≤ 1048576)
def OpenSpec.upto (s : _root_.Go.ChangeSpec) : _root_.Go.OpenSpec := { _root_.Go.OpenSpec.ofChange s with cond := some uptoSmall }

/-- 'porticolaw06.BytesReads', WHERE WHAT IT READS IS OF BULK AT MOST 1048576: true; the input reads as it did. -/
def bytesReadsUptoRow : OpenClaim := { program := "ytjlnenelhnpnnaa", sum := "f243c77415ca01f5b420a00778fda1e09f9bf4ffdc85025bd37e763f0c73f809", func := "portico/porticolaw06.BytesReads", spec := "bytesReads", apart := false, narrowed := true }
def BytesReadsUptoSaid : Prop := bytesReadsUptoRow.holds Try.pinned (OpenSpec.upto bytesReadsSpec)

/-- 'porticolaw06.BytesBack', WHERE WHAT IT READS IS OF BULK AT MOST 1048576: true; the input reads as it did. -/
def bytesBackUptoRow : OpenClaim := { program := "ytjlnenelhnpnnaa", sum := "f243c77415ca01f5b420a00778fda1e09f9bf4ffdc85025bd37e763f0c73f809", func := "portico/porticolaw06.BytesBack", spec := "bytesBack", apart := false, narrowed := true }
def BytesBackUptoSaid : Prop := bytesBackUptoRow.holds Try.pinned (OpenSpec.upto bytesBackSpec)

/-- 'porticolaw06.BytesPlaces', WHERE WHAT IT READS IS OF BULK AT MOST 1048576: true; the input reads as it did. -/
def bytesPlacesUptoRow : OpenClaim := { program := "ytjlnenelhnpnnaa", sum := "f243c77415ca01f5b420a00778fda1e09f9bf4ffdc85025bd37e763f0c73f809", func := "portico/porticolaw06.BytesPlaces", spec := "bytesPlaces", apart := false, narrowed := true }
def BytesPlacesUptoSaid : Prop := bytesPlacesUptoRow.holds Try.pinned (OpenSpec.upto bytesPlacesSpec)

/-- 'porticolaw06.BytesNone', WHERE WHAT IT READS IS OF BULK AT MOST 1048576: true; the input reads as it did. -/
def bytesNoneUptoRow : OpenClaim := { program := "ytjlnenelhnpnnaa", sum := "f243c77415ca01f5b420a00778fda1e09f9bf4ffdc85025bd37e763f0c73f809", func := "portico/porticolaw06.BytesNone", spec := "bytesNone", apart := false, narrowed := true }
def BytesNoneUptoSaid : Prop := bytesNoneUptoRow.holds Try.pinned (OpenSpec.upto bytesNoneSpec)

end Rows
end Go.Proofs.Ytjlnenelhnpnnaa
