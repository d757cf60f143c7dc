/-
  No cell of these rows narrows 'for every input' (looked for: loops, veiled, ifaces, maps, wideKeys, modest, calm, conditions, laid).
  DERIVED. THE GIVEN ROWS OF THIS SEAT. 4 by the template 'for every input the law returns true; each argument reads behind the call as it read before'; 0 by the template 'total and deterministic' (their statements: YtoplknankmomcaaTotals.lean).
  GIVEN WITH THE SEED: the statements are not yours to turn. If you find one false, say at which input.
  Laid BY PROGRAM, IN A SANDBOX (cutbox-rows.mjs): the forced cells as the released guide's own fill.sh prints them over the translation fffeb37c880dc610… (all of the seat's roots in one cut). By AI agents, Wed Nov 11 2026. No macro, syntax, notation, axiom, sorry.
-/
import Derived.Test.YtoplknankmomcaaChecked
import GoSem.Claim
import GoSem.ClaimJoined
import GoSem.ClaimMapViews
import Derived.JoinedTies
import Derived.KernelRfl
namespace Go.Proofs.Ytoplknankmomcaa
/- THE CELL 'sum', in the pinned program and in every row, IS THE sha256 OF THE DUMP (.gsa) THAT YtoplknankmomcaaProg.lean LOADS. Nothing in Lean hashes anything: it is a label: what it is worth is what the hold of that sum in a sandbox is worth. -/
noncomputable def Try.pinned : Pinned := { name := "ytoplknankmomcaa", sum := "fffeb37c880dc6102de99d4ba642775758182431be5390e9a72a8fb67a6b317f", checked := Try.checked }
namespace Rows
def none {H : Type} : Left H := { results := [], args := [] }

/-- 'porticolaw08.ElfParts': WHATEVER THE INPUT: true; the input reads as it did. -/
def elfPartsSpec : ChangeSpec := { name := "elfParts", fn := fun _ => fun
  | [d1, d2] => { results := [.lit (.bool true)], args := [d1, d2] }
  | _ => none }
def elfPartsRow : OpenClaim := { program := "ytoplknankmomcaa", sum := "fffeb37c880dc6102de99d4ba642775758182431be5390e9a72a8fb67a6b317f", func := "portico/porticolaw08.ElfParts", spec := "elfParts", apart := false }
def ElfPartsSaid : Prop := elfPartsRow.holds Try.pinned (OpenSpec.ofChange elfPartsSpec)

/-- ITS FALSE NEIGHBOUR: 'it returns false'. Refute it at one input. -/
def elfPartsWrong : ChangeSpec := { name := "elfParts", fn := fun _ => fun
  | [d1, d2] => { results := [.lit (.bool false)], args := [d1, d2] }
  | _ => none }
def ElfPartsWrongFalsely : Prop := elfPartsRow.holds Try.pinned (OpenSpec.ofChange elfPartsWrong)

/-- 'porticolaw08.ElfReads': WHATEVER THE INPUT: true; the input reads as it did. -/
def elfReadsSpec : ChangeSpec := { name := "elfReads", fn := fun _ => fun
  | [d] => { results := [.lit (.bool true)], args := [d] }
  | _ => none }
def elfReadsRow : OpenClaim := { program := "ytoplknankmomcaa", sum := "fffeb37c880dc6102de99d4ba642775758182431be5390e9a72a8fb67a6b317f", func := "portico/porticolaw08.ElfReads", spec := "elfReads", apart := false }
def ElfReadsSaid : Prop := elfReadsRow.holds Try.pinned (OpenSpec.ofChange elfReadsSpec)

/-- ITS FALSE NEIGHBOUR: 'it returns false'. Refute it at one input. -/
def elfReadsWrong : ChangeSpec := { name := "elfReads", fn := fun _ => fun
  | [d] => { results := [.lit (.bool false)], args := [d] }
  | _ => none }
def ElfReadsWrongFalsely : Prop := elfReadsRow.holds Try.pinned (OpenSpec.ofChange elfReadsWrong)

/-- 'porticolaw08.ElfSafe': WHATEVER THE INPUT: true; the input reads as it did. -/
def elfSafeSpec : ChangeSpec := { name := "elfSafe", fn := fun _ => fun
  | [d1, d2] => { results := [.lit (.bool true)], args := [d1, d2] }
  | _ => none }
def elfSafeRow : OpenClaim := { program := "ytoplknankmomcaa", sum := "fffeb37c880dc6102de99d4ba642775758182431be5390e9a72a8fb67a6b317f", func := "portico/porticolaw08.ElfSafe", spec := "elfSafe", apart := false }
def ElfSafeSaid : Prop := elfSafeRow.holds Try.pinned (OpenSpec.ofChange elfSafeSpec)

/-- ITS FALSE NEIGHBOUR: 'it returns false'. Refute it at one input. -/
def elfSafeWrong : ChangeSpec := { name := "elfSafe", fn := fun _ => fun
  | [d1, d2] => { results := [.lit (.bool false)], args := [d1, d2] }
  | _ => none }
def ElfSafeWrongFalsely : Prop := elfSafeRow.holds Try.pinned (OpenSpec.ofChange elfSafeWrong)

/-- 'porticolaw08.ElfEnds': WHATEVER THE INPUT: true; the input reads as it did. -/
def elfEndsSpec : ChangeSpec := { name := "elfEnds", fn := fun _ => fun
  | [d1, d2] => { results := [.lit (.bool true)], args := [d1, d2] }
  | _ => none }
def elfEndsRow : OpenClaim := { program := "ytoplknankmomcaa", sum := "fffeb37c880dc6102de99d4ba642775758182431be5390e9a72a8fb67a6b317f", func := "portico/porticolaw08.ElfEnds", spec := "elfEnds", apart := false }
def ElfEndsSaid : Prop := elfEndsRow.holds Try.pinned (OpenSpec.ofChange elfEndsSpec)

/-- ITS FALSE NEIGHBOUR: 'it returns false'. Refute it at one input. -/
def elfEndsWrong : ChangeSpec := { name := "elfEnds", fn := fun _ => fun
  | [d1, d2] => { results := [.lit (.bool false)], args := [d1, d2] }
  | _ => none }
def ElfEndsWrongFalsely : Prop := elfEndsRow.holds Try.pinned (OpenSpec.ofChange elfEndsWrong)

/- THE SECOND FORM. 'bulk': how many values and letters a reading holds, each counted each time it is reached (what is shared counts as often as it is met; a slice's spare places count too). A statement '..UptoSaid' is the law's where the arguments, and the package variables that the reading takes, are together of bulk at most 1048576: NARROWER than '..Said'. Prove '..Said' where nothing that the law and all that it calls make is longer than what came in: it says more and counts as full. Else prove '..UptoSaid'. A law counts once. -/
mutual
def uptoBulk {H : Type} : DataW H → Nat
  | .lit (.string bytes) => bytes.length + 1
  | .lit _ => 1
  | .nil => 1
  | .ptr d => uptoBulk d + 1
  | .slice elems spare => uptoBulkAll elems + uptoBulkAll spare + 1
  | .agg parts => uptoBulkAll parts + 1
  | .iface _ d => uptoBulk d + 1
  | .map entries => uptoBulkEntries entries + 1
  | .held _ => 1
def uptoBulkAll {H : Type} : List (DataW H) → Nat
  | [] => 0
  | d :: r => uptoBulk d + uptoBulkAll r
def uptoBulkEntries {H : Type} : List (Lit × DataW H) → Nat
  | [] => 0
  | x :: r => uptoBulkEntry x + uptoBulkEntries r
def uptoBulkEntry {H : Type} : Lit × DataW H → Nat
  | (.string bytes, d) => bytes.length + uptoBulk d + 1
  | (_, d) => uptoBulk d + 1
 end
def uptoSmall : (H : Type) → List (DataW H) → Bool := fun _ ds => decide (uptoBulkAll ds ≤ 1048576)
def OpenSpec.upto (s : _root_.Go.ChangeSpec) : _root_.Go.OpenSpec := { _root_.Go.OpenSpec.ofChange s with cond := some uptoSmall }

/-- 'porticolaw08.ElfParts', WHERE WHAT IT READS IS OF BULK AT MOST 1048576: true; the input reads as it did. -/
def elfPartsUptoRow : OpenClaim := { program := "ytoplknankmomcaa", sum := "fffeb37c880dc6102de99d4ba642775758182431be5390e9a72a8fb67a6b317f", func := "portico/porticolaw08.ElfParts", spec := "elfParts", apart := false, narrowed := true }
def ElfPartsUptoSaid : Prop := elfPartsUptoRow.holds Try.pinned (OpenSpec.upto elfPartsSpec)

/-- 'porticolaw08.ElfReads', WHERE WHAT IT READS IS OF BULK AT MOST 1048576: true; the input reads as it did. -/
def elfReadsUptoRow : OpenClaim := { program := "ytoplknankmomcaa", sum := "fffeb37c880dc6102de99d4ba642775758182431be5390e9a72a8fb67a6b317f", func := "portico/porticolaw08.ElfReads", spec := "elfReads", apart := false, narrowed := true }
def ElfReadsUptoSaid : Prop := elfReadsUptoRow.holds Try.pinned (OpenSpec.upto elfReadsSpec)

/-- 'porticolaw08.ElfSafe', WHERE WHAT IT READS IS OF BULK AT MOST 1048576: true; the input reads as it did. -/
def elfSafeUptoRow : OpenClaim := { program := "ytoplknankmomcaa", sum := "fffeb37c880dc6102de99d4ba642775758182431be5390e9a72a8fb67a6b317f", func := "portico/porticolaw08.ElfSafe", spec := "elfSafe", apart := false, narrowed := true }
def ElfSafeUptoSaid : Prop := elfSafeUptoRow.holds Try.pinned (OpenSpec.upto elfSafeSpec)

/-- 'porticolaw08.ElfEnds', WHERE WHAT IT READS IS OF BULK AT MOST 1048576: true; the input reads as it did. -/
def elfEndsUptoRow : OpenClaim := { program := "ytoplknankmomcaa", sum := "fffeb37c880dc6102de99d4ba642775758182431be5390e9a72a8fb67a6b317f", func := "portico/porticolaw08.ElfEnds", spec := "elfEnds", apart := false, narrowed := true }
def ElfEndsUptoSaid : Prop := elfEndsUptoRow.holds Try.pinned (OpenSpec.upto elfEndsSpec)

end Rows
end Go.Proofs.Ytoplknankmomcaa
