/-
  DERIVED. GIVEN WITH THE SEED: THE CARDS: each row of YthaockngbagdhaaDoorRows.lean that lists a variable, with what it lists TIED to the program's text (the seventh form; the later family's looks); each row that meets fmt, with fmt's text TOLD by the authors' own Lean function (tested against real Go, not proved from fmt's source: count such statements apart). THE CARD IS WHAT COUNTS. Prove the row's statement (the work); the ties are given (YthaockngbagdhaaDoorTie.lean); close each card by the builder's one call (the guide's Derived/Test/ToyasCard.lean, 'card_holds'). Laid BY PROGRAM, IN A SANDBOX (cutbox-door.mjs). By AI agents, Wed Nov 11 2026. No macro, syntax, notation, axiom, sorry.
-/
import Derived.Test.YthaockngbagdhaaDoorRows
import GoSem.ClaimSeven
namespace Go.Proofs.YthaockngbagdhaaDoor
namespace Rows

/-- THE TIED CARD OF 'porticolaw15.CsrBack'. -/
def csrBackCard : Claim7 := { stood := { row := csrBackRow, standIns := [], harness := (true, "4b0b417596358bdd749082db0d3066689ba5337913088a6add04e8f9ce32d36b"), looks := false }, kinds := [], alts := [], laidByText := true, laidKinds := [.data], laidTests := true, laidLooks := .later }
def CsrBackCardSaid : Prop := Claim7.holds Tryd.pinned (.plain (OpenSpec.ofChange csrBackSpec)) csrBackCard

/-- THE TIED CARD OF 'porticolaw15.CsrNone'. -/
def csrNoneCard : Claim7 := { stood := { row := csrNoneRow, standIns := [], harness := (true, "4b0b417596358bdd749082db0d3066689ba5337913088a6add04e8f9ce32d36b"), looks := false }, kinds := [], alts := [], laidByText := true, laidKinds := [.data], laidTests := true, laidLooks := .later }
def CsrNoneCardSaid : Prop := Claim7.holds Tryd.pinned (.plain (OpenSpec.ofChange csrNoneSpec)) csrNoneCard

/-- THE SECOND FORM's CARD OF 'porticolaw15.CsrBack'. -/
def csrBackUptoCard : Claim7 := { stood := { row := csrBackUptoRow, standIns := [], harness := (true, "4b0b417596358bdd749082db0d3066689ba5337913088a6add04e8f9ce32d36b"), looks := false }, kinds := [], alts := [], laidByText := true, laidKinds := [.data], laidTests := true, laidLooks := .later }
def CsrBackUptoCardSaid : Prop := Claim7.holds Tryd.pinned (.plain (OpenSpec.upto csrBackSpec)) csrBackUptoCard

/-- THE SECOND FORM's CARD OF 'porticolaw15.CsrNone'. -/
def csrNoneUptoCard : Claim7 := { stood := { row := csrNoneUptoRow, standIns := [], harness := (true, "4b0b417596358bdd749082db0d3066689ba5337913088a6add04e8f9ce32d36b"), looks := false }, kinds := [], alts := [], laidByText := true, laidKinds := [.data], laidTests := true, laidLooks := .later }
def CsrNoneUptoCardSaid : Prop := Claim7.holds Tryd.pinned (.plain (OpenSpec.upto csrNoneSpec)) csrNoneUptoCard
end Rows
end Go.Proofs.YthaockngbagdhaaDoor
