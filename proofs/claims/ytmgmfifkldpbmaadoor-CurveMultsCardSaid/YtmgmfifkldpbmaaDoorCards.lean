/-
  DERIVED. GIVEN WITH THE SEED: THE CARDS: each row of YtmgmfifkldpbmaaDoorRows.lean that lists a variable, with what it lists TIED to the program's text (the seventh form; the later family's looks); each row that meets fmt, with fmt's text TOLD by the authors' own Lean function (tested against real Go, not proved from fmt's source: count such statements apart). THE CARD IS WHAT COUNTS. Prove the row's statement (the work); the ties are given (YtmgmfifkldpbmaaDoorTie.lean); close each card by the builder's one call (the guide's Derived/Test/ToyasCard.lean, 'card_holds'). Laid BY PROGRAM, IN A SANDBOX (cutbox-door.mjs). By AI agents, Wed Nov 11 2026. No macro, syntax, notation, axiom, sorry.
-/
import Derived.Test.YtmgmfifkldpbmaaDoorRows
import GoSem.ClaimSeven
namespace Go.Proofs.YtmgmfifkldpbmaaDoor
namespace Rows

/-- THE TIED CARD OF 'porticolaw04.CurveMults'. -/
def curveMultsCard : Claim7 := { stood := { row := curveMultsRow, standIns := [], harness := (true, "e3c5e4b59fae00ad0f76153cc0f5f449911cf294da85a03683d60e86f9b58caf"), looks := false }, kinds := [], alts := [], laidByText := true, laidKinds := [.data, .data, .data, .data, .data], laidTests := true, laidLooks := .later }
def CurveMultsCardSaid : Prop := Claim7.holds Tryd.pinned (.plain (OpenSpec.ofChange curveMultsSpec)) curveMultsCard

/-- THE TIED CARD OF 'porticolaw04.CurveSums'. -/
def curveSumsCard : Claim7 := { stood := { row := curveSumsRow, standIns := [], harness := (true, "e3c5e4b59fae00ad0f76153cc0f5f449911cf294da85a03683d60e86f9b58caf"), looks := false }, kinds := [], alts := [], laidByText := true, laidKinds := [.data, .data, .data, .data, .data], laidTests := true, laidLooks := .later }
def CurveSumsCardSaid : Prop := Claim7.holds Tryd.pinned (.plain (OpenSpec.ofChange curveSumsSpec)) curveSumsCard

/-- THE TIED CARD OF 'porticolaw04.CurveOn'. -/
def curveOnCard : Claim7 := { stood := { row := curveOnRow, standIns := [], harness := (true, "e3c5e4b59fae00ad0f76153cc0f5f449911cf294da85a03683d60e86f9b58caf"), looks := false }, kinds := [], alts := [], laidByText := true, laidKinds := [.data, .data, .data, .data, .data], laidTests := true, laidLooks := .later }
def CurveOnCardSaid : Prop := Claim7.holds Tryd.pinned (.plain (OpenSpec.ofChange curveOnSpec)) curveOnCard

/-- THE TIED CARD OF 'porticolaw04.CurveTwo'. -/
def curveTwoCard : Claim7 := { stood := { row := curveTwoRow, standIns := [], harness := (true, "e3c5e4b59fae00ad0f76153cc0f5f449911cf294da85a03683d60e86f9b58caf"), looks := false }, kinds := [], alts := [], laidByText := true, laidKinds := [.data, .data, .data, .data, .data], laidTests := true, laidLooks := .later }
def CurveTwoCardSaid : Prop := Claim7.holds Tryd.pinned (.plain (OpenSpec.ofChange curveTwoSpec)) curveTwoCard

/-- THE SECOND FORM's CARD OF 'porticolaw04.CurveMults'. -/
def curveMultsUptoCard : Claim7 := { stood := { row := curveMultsUptoRow, standIns := [], harness := (true, "e3c5e4b59fae00ad0f76153cc0f5f449911cf294da85a03683d60e86f9b58caf"), looks := false }, kinds := [], alts := [], laidByText := true, laidKinds := [.data, .data, .data, .data, .data], laidTests := true, laidLooks := .later }
def CurveMultsUptoCardSaid : Prop := Claim7.holds Tryd.pinned (.plain (OpenSpec.upto curveMultsSpec)) curveMultsUptoCard

/-- THE SECOND FORM's CARD OF 'porticolaw04.CurveSums'. -/
def curveSumsUptoCard : Claim7 := { stood := { row := curveSumsUptoRow, standIns := [], harness := (true, "e3c5e4b59fae00ad0f76153cc0f5f449911cf294da85a03683d60e86f9b58caf"), looks := false }, kinds := [], alts := [], laidByText := true, laidKinds := [.data, .data, .data, .data, .data], laidTests := true, laidLooks := .later }
def CurveSumsUptoCardSaid : Prop := Claim7.holds Tryd.pinned (.plain (OpenSpec.upto curveSumsSpec)) curveSumsUptoCard

/-- THE SECOND FORM's CARD OF 'porticolaw04.CurveOn'. -/
def curveOnUptoCard : Claim7 := { stood := { row := curveOnUptoRow, standIns := [], harness := (true, "e3c5e4b59fae00ad0f76153cc0f5f449911cf294da85a03683d60e86f9b58caf"), looks := false }, kinds := [], alts := [], laidByText := true, laidKinds := [.data, .data, .data, .data, .data], laidTests := true, laidLooks := .later }
def CurveOnUptoCardSaid : Prop := Claim7.holds Tryd.pinned (.plain (OpenSpec.upto curveOnSpec)) curveOnUptoCard

/-- THE SECOND FORM's CARD OF 'porticolaw04.CurveTwo'. -/
def curveTwoUptoCard : Claim7 := { stood := { row := curveTwoUptoRow, standIns := [], harness := (true, "e3c5e4b59fae00ad0f76153cc0f5f449911cf294da85a03683d60e86f9b58caf"), looks := false }, kinds := [], alts := [], laidByText := true, laidKinds := [.data, .data, .data, .data, .data], laidTests := true, laidLooks := .later }
def CurveTwoUptoCardSaid : Prop := Claim7.holds Tryd.pinned (.plain (OpenSpec.upto curveTwoSpec)) curveTwoUptoCard
end Rows
end Go.Proofs.YtmgmfifkldpbmaaDoor
