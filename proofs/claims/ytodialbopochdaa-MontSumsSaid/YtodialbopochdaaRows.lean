/-
  No cell of these rows narrows 'for every input' (looked for: loops, veiled, ifaces, maps, wideKeys, modest, calm, conditions, laid).
  DERIVED. THE GIVEN ROWS OF THIS SEAT. 5 by the template 'for every input the law returns true; each argument reads behind the call as it read before'; 0 by the template 'total and deterministic' (their statements: YtodialbopochdaaTotals.lean).
  GIVEN WITH THE SEED: the statements are not yours to turn. If you find one false, say at which input.
  Laid BY PROGRAM, IN A SANDBOX (cutbox-rows.mjs): the forced cells as the released guide's own fill.sh prints them over the translation e16bedd6a12bbdeb… (all of the seat's roots in one cut). By AI agents, Wed Nov 11 2026. No macro, syntax, notation, axiom, sorry.
-/
import Derived.Test.YtodialbopochdaaChecked
import GoSem.Claim
import GoSem.ClaimJoined
import GoSem.ClaimMapViews
import Derived.JoinedTies
import Derived.KernelRfl
namespace Go.Proofs.Ytodialbopochdaa
/- THE CELL 'sum', in the pinned program and in every row, IS THE sha256 OF THE DUMP (.gsa) THAT YtodialbopochdaaProg.lean LOADS. Nothing in Lean hashes anything: it is a label: what it is worth is what the hold of that sum in a sandbox is worth. -/
noncomputable def Try.pinned : Pinned := { name := "ytodialbopochdaa", sum := "e16bedd6a12bbdebbecc721aac4cd4d126a303f91237fa69947e25a10686cac4", checked := Try.checked }
namespace Rows
def none {H : Type} : Left H := { results := [], args := [] }

/-- 'porticolaw03.MontSums': WHATEVER THE INPUT: true; the input reads as it did. -/
def montSumsSpec : ChangeSpec := { name := "montSums", fn := fun _ => fun
  | [d1, d2, d3] => { results := [.lit (.bool true)], args := [d1, d2, d3] }
  | _ => none }
def montSumsRow : OpenClaim := { program := "ytodialbopochdaa", sum := "e16bedd6a12bbdebbecc721aac4cd4d126a303f91237fa69947e25a10686cac4", func := "portico/porticolaw03.MontSums", spec := "montSums", apart := false }
def MontSumsSaid : Prop := montSumsRow.holds Try.pinned (OpenSpec.ofChange montSumsSpec)

/-- ITS FALSE NEIGHBOUR: 'it returns false'. Refute it at one input. -/
def montSumsWrong : ChangeSpec := { name := "montSums", fn := fun _ => fun
  | [d1, d2, d3] => { results := [.lit (.bool false)], args := [d1, d2, d3] }
  | _ => none }
def MontSumsWrongFalsely : Prop := montSumsRow.holds Try.pinned (OpenSpec.ofChange montSumsWrong)

/-- 'porticolaw03.MontMults': WHATEVER THE INPUT: true; the input reads as it did. -/
def montMultsSpec : ChangeSpec := { name := "montMults", fn := fun _ => fun
  | [d1, d2, d3] => { results := [.lit (.bool true)], args := [d1, d2, d3] }
  | _ => none }
def montMultsRow : OpenClaim := { program := "ytodialbopochdaa", sum := "e16bedd6a12bbdebbecc721aac4cd4d126a303f91237fa69947e25a10686cac4", func := "portico/porticolaw03.MontMults", spec := "montMults", apart := false }
def MontMultsSaid : Prop := montMultsRow.holds Try.pinned (OpenSpec.ofChange montMultsSpec)

/-- ITS FALSE NEIGHBOUR: 'it returns false'. Refute it at one input. -/
def montMultsWrong : ChangeSpec := { name := "montMults", fn := fun _ => fun
  | [d1, d2, d3] => { results := [.lit (.bool false)], args := [d1, d2, d3] }
  | _ => none }
def MontMultsWrongFalsely : Prop := montMultsRow.holds Try.pinned (OpenSpec.ofChange montMultsWrong)

/-- 'porticolaw03.MontPowers': WHATEVER THE INPUT: true; the input reads as it did. -/
def montPowersSpec : ChangeSpec := { name := "montPowers", fn := fun _ => fun
  | [d1, d2, d3] => { results := [.lit (.bool true)], args := [d1, d2, d3] }
  | _ => none }
def montPowersRow : OpenClaim := { program := "ytodialbopochdaa", sum := "e16bedd6a12bbdebbecc721aac4cd4d126a303f91237fa69947e25a10686cac4", func := "portico/porticolaw03.MontPowers", spec := "montPowers", apart := false }
def MontPowersSaid : Prop := montPowersRow.holds Try.pinned (OpenSpec.ofChange montPowersSpec)

/-- ITS FALSE NEIGHBOUR: 'it returns false'. Refute it at one input. -/
def montPowersWrong : ChangeSpec := { name := "montPowers", fn := fun _ => fun
  | [d1, d2, d3] => { results := [.lit (.bool false)], args := [d1, d2, d3] }
  | _ => none }
def MontPowersWrongFalsely : Prop := montPowersRow.holds Try.pinned (OpenSpec.ofChange montPowersWrong)

/-- 'porticolaw03.MontInverts': WHATEVER THE INPUT: true; the input reads as it did. -/
def montInvertsSpec : ChangeSpec := { name := "montInverts", fn := fun _ => fun
  | [d1, d2] => { results := [.lit (.bool true)], args := [d1, d2] }
  | _ => none }
def montInvertsRow : OpenClaim := { program := "ytodialbopochdaa", sum := "e16bedd6a12bbdebbecc721aac4cd4d126a303f91237fa69947e25a10686cac4", func := "portico/porticolaw03.MontInverts", spec := "montInverts", apart := false }
def MontInvertsSaid : Prop := montInvertsRow.holds Try.pinned (OpenSpec.ofChange montInvertsSpec)

/-- ITS FALSE NEIGHBOUR: 'it returns false'. Refute it at one input. -/
def montInvertsWrong : ChangeSpec := { name := "montInverts", fn := fun _ => fun
  | [d1, d2] => { results := [.lit (.bool false)], args := [d1, d2] }
  | _ => none }
def MontInvertsWrongFalsely : Prop := montInvertsRow.holds Try.pinned (OpenSpec.ofChange montInvertsWrong)

/-- 'porticolaw03.MontLaws': WHATEVER THE INPUT: true; the input reads as it did. -/
def montLawsSpec : ChangeSpec := { name := "montLaws", fn := fun _ => fun
  | [d1, d2, d3] => { results := [.lit (.bool true)], args := [d1, d2, d3] }
  | _ => none }
def montLawsRow : OpenClaim := { program := "ytodialbopochdaa", sum := "e16bedd6a12bbdebbecc721aac4cd4d126a303f91237fa69947e25a10686cac4", func := "portico/porticolaw03.MontLaws", spec := "montLaws", apart := false }
def MontLawsSaid : Prop := montLawsRow.holds Try.pinned (OpenSpec.ofChange montLawsSpec)

/-- ITS FALSE NEIGHBOUR: 'it returns false'. Refute it at one input. -/
def montLawsWrong : ChangeSpec := { name := "montLaws", fn := fun _ => fun
  | [d1, d2, d3] => { results := [.lit (.bool false)], args := [d1, d2, d3] }
  | _ => none }
def MontLawsWrongFalsely : Prop := montLawsRow.holds Try.pinned (OpenSpec.ofChange montLawsWrong)

/- THE SECOND FORM. 'bulk': how many values and letters a reading holds, each counted each time it is reached (what is shared counts as often as it is met; a slice's spare places count too). A statement '..UptoSaid' is the law's where the arguments, and the package variables that the reading takes, are together of bulk at most 1048576: NARROWER than '..Said'. Prove '..Said' where nothing that the law and all that it calls make is longer than what came in: it says more and counts as full. Else prove '..UptoSaid'. A law counts once. -/
mutual
def uptoBulk {H : Type} : DataW H → Nat
  | .lit (.string bytes) => bytes.length + 1
  | .lit _ => 1
  | .nil => 1
  | .ptr d => uptoBulk d + 1
  | .slice elems spare => uptoBulkAll elems + uptoBulkAll spare + 1
  | .agg parts => uptoBulkAll parts + 1
  | .iface _ d => uptoBulk d + 1
  | .map entries => uptoBulkEntries entries + 1
  | .held _ => 1
def uptoBulkAll {H : Type} : List (DataW H) → Nat
  | [] => 0
  | d :: r => uptoBulk d + uptoBulkAll r
def uptoBulkEntries {H : Type} : List (Lit × DataW H) → Nat
  | [] => 0
  | x :: r => uptoBulkEntry x + uptoBulkEntries r
def uptoBulkEntry {H : Type} : Lit × DataW H → Nat
  | (.string bytes, d) => bytes.length + uptoBulk d + 1
  | (_, d) => uptoBulk d + 1
 end
def uptoSmall : (H : Type) → List (DataW H) → Bool := fun _ ds => decide (uptoBulkAll ds ≤ 1048576)
def OpenSpec.upto (s : _root_.Go.ChangeSpec) : _root_.Go.OpenSpec := { _root_.Go.OpenSpec.ofChange s with cond := some uptoSmall }

/-- 'porticolaw03.MontSums', WHERE WHAT IT READS IS OF BULK AT MOST 1048576: true; the input reads as it did. -/
def montSumsUptoRow : OpenClaim := { program := "ytodialbopochdaa", sum := "e16bedd6a12bbdebbecc721aac4cd4d126a303f91237fa69947e25a10686cac4", func := "portico/porticolaw03.MontSums", spec := "montSums", apart := false, narrowed := true }
def MontSumsUptoSaid : Prop := montSumsUptoRow.holds Try.pinned (OpenSpec.upto montSumsSpec)

/-- 'porticolaw03.MontMults', WHERE WHAT IT READS IS OF BULK AT MOST 1048576: true; the input reads as it did. -/
def montMultsUptoRow : OpenClaim := { program := "ytodialbopochdaa", sum := "e16bedd6a12bbdebbecc721aac4cd4d126a303f91237fa69947e25a10686cac4", func := "portico/porticolaw03.MontMults", spec := "montMults", apart := false, narrowed := true }
def MontMultsUptoSaid : Prop := montMultsUptoRow.holds Try.pinned (OpenSpec.upto montMultsSpec)

/-- 'porticolaw03.MontPowers', WHERE WHAT IT READS IS OF BULK AT MOST 1048576: true; the input reads as it did. -/
def montPowersUptoRow : OpenClaim := { program := "ytodialbopochdaa", sum := "e16bedd6a12bbdebbecc721aac4cd4d126a303f91237fa69947e25a10686cac4", func := "portico/porticolaw03.MontPowers", spec := "montPowers", apart := false, narrowed := true }
def MontPowersUptoSaid : Prop := montPowersUptoRow.holds Try.pinned (OpenSpec.upto montPowersSpec)

/-- 'porticolaw03.MontInverts', WHERE WHAT IT READS IS OF BULK AT MOST 1048576: true; the input reads as it did. -/
def montInvertsUptoRow : OpenClaim := { program := "ytodialbopochdaa", sum := "e16bedd6a12bbdebbecc721aac4cd4d126a303f91237fa69947e25a10686cac4", func := "portico/porticolaw03.MontInverts", spec := "montInverts", apart := false, narrowed := true }
def MontInvertsUptoSaid : Prop := montInvertsUptoRow.holds Try.pinned (OpenSpec.upto montInvertsSpec)

/-- 'porticolaw03.MontLaws', WHERE WHAT IT READS IS OF BULK AT MOST 1048576: true; the input reads as it did. -/
def montLawsUptoRow : OpenClaim := { program := "ytodialbopochdaa", sum := "e16bedd6a12bbdebbecc721aac4cd4d126a303f91237fa69947e25a10686cac4", func := "portico/porticolaw03.MontLaws", spec := "montLaws", apart := false, narrowed := true }
def MontLawsUptoSaid : Prop := montLawsUptoRow.holds Try.pinned (OpenSpec.upto montLawsSpec)

end Rows
end Go.Proofs.Ytodialbopochdaa
