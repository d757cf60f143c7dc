/-
  DERIVED. GIVEN WITH THE SEED: THE CARDS: each row of YtgpofoggfifnjaaGreatDoorRows.lean that lists a variable, with what it lists TIED to the program's text (the seventh form; the later family's looks); each row that meets fmt, with fmt's text TOLD by the authors' own Lean function (tested against real Go, not proved from fmt's source: count such statements apart). THE CARD IS WHAT COUNTS. Prove the row's statement (the work); the ties are given (YtgpofoggfifnjaaGreatDoorTie.lean); close each card by the builder's one call (the guide's Derived/Test/ToyasCard.lean, 'card_holds'). Laid BY PROGRAM, IN A SANDBOX (cutbox-door.mjs). By AI agents, Wed Nov 11 2026. No macro, syntax, notation, axiom, sorry.
-/
import Derived.Test.YtgpofoggfifnjaaGreatDoorRows
import GoSem.ClaimSeven
namespace Go.Proofs.YtgpofoggfifnjaaGreatDoor
namespace Rows

/-- THE TIED CARD OF 'porticolaw16.HartStays'. -/
def hartStaysCard : Claim7 := { stood := { row := hartStaysRow, standIns := [], harness := (true, "38b8c51c44b6e3233f40ecd510b4fa151acce6cca3999f2dcce5de76dcfa6b29"), looks := false }, kinds := [], alts := [], laidByText := true, laidKinds := [.data, .data], laidTests := true, laidLooks := .later }
def HartStaysCardSaid : Prop := Claim7.holds Tryz.pinned (.plain (OpenSpec.ofChange hartStaysSpec)) hartStaysCard

/-- THE TIED CARD OF 'porticolaw16.HartUser'. -/
def hartUserCard : Claim7 := { stood := { row := hartUserRow, standIns := [], harness := (true, "38b8c51c44b6e3233f40ecd510b4fa151acce6cca3999f2dcce5de76dcfa6b29"), looks := false }, kinds := [], alts := [], laidByText := true, laidKinds := [.data, .data], laidTests := true, laidLooks := .later }
def HartUserCardSaid : Prop := Claim7.holds Tryz.pinned (.plain (OpenSpec.ofChange hartUserSpec)) hartUserCard

/-- THE TIED CARD OF 'porticolaw16.HartNone'. -/
def hartNoneCard : Claim7 := { stood := { row := hartNoneRow, standIns := [], harness := (true, "38b8c51c44b6e3233f40ecd510b4fa151acce6cca3999f2dcce5de76dcfa6b29"), looks := false }, kinds := [], alts := [], laidByText := true, laidKinds := [.data, .data], laidTests := true, laidLooks := .later }
def HartNoneCardSaid : Prop := Claim7.holds Tryz.pinned (.plain (OpenSpec.ofChange hartNoneSpec)) hartNoneCard

/-- THE TIED CARD OF 'porticolaw16.HartCounts'. -/
def hartCountsCard : Claim7 := { stood := { row := hartCountsRow, standIns := [], harness := (true, "38b8c51c44b6e3233f40ecd510b4fa151acce6cca3999f2dcce5de76dcfa6b29"), looks := false }, kinds := [], alts := [], laidByText := true, laidKinds := [.data, .data], laidTests := true, laidLooks := .later }
def HartCountsCardSaid : Prop := Claim7.holds Tryz.pinned (.plain (OpenSpec.ofChange hartCountsSpec)) hartCountsCard

/-- THE SECOND FORM's CARD OF 'porticolaw16.HartStays'. -/
def hartStaysUptoCard : Claim7 := { stood := { row := hartStaysUptoRow, standIns := [], harness := (true, "38b8c51c44b6e3233f40ecd510b4fa151acce6cca3999f2dcce5de76dcfa6b29"), looks := false }, kinds := [], alts := [], laidByText := true, laidKinds := [.data, .data], laidTests := true, laidLooks := .later }
def HartStaysUptoCardSaid : Prop := Claim7.holds Tryz.pinned (.plain (OpenSpec.upto hartStaysSpec)) hartStaysUptoCard

/-- THE SECOND FORM's CARD OF 'porticolaw16.HartUser'. -/
def hartUserUptoCard : Claim7 := { stood := { row := hartUserUptoRow, standIns := [], harness := (true, "38b8c51c44b6e3233f40ecd510b4fa151acce6cca3999f2dcce5de76dcfa6b29"), looks := false }, kinds := [], alts := [], laidByText := true, laidKinds := [.data, .data], laidTests := true, laidLooks := .later }
def HartUserUptoCardSaid : Prop := Claim7.holds Tryz.pinned (.plain (OpenSpec.upto hartUserSpec)) hartUserUptoCard

/-- THE SECOND FORM's CARD OF 'porticolaw16.HartNone'. -/
def hartNoneUptoCard : Claim7 := { stood := { row := hartNoneUptoRow, standIns := [], harness := (true, "38b8c51c44b6e3233f40ecd510b4fa151acce6cca3999f2dcce5de76dcfa6b29"), looks := false }, kinds := [], alts := [], laidByText := true, laidKinds := [.data, .data], laidTests := true, laidLooks := .later }
def HartNoneUptoCardSaid : Prop := Claim7.holds Tryz.pinned (.plain (OpenSpec.upto hartNoneSpec)) hartNoneUptoCard

/-- THE SECOND FORM's CARD OF 'porticolaw16.HartCounts'. -/
def hartCountsUptoCard : Claim7 := { stood := { row := hartCountsUptoRow, standIns := [], harness := (true, "38b8c51c44b6e3233f40ecd510b4fa151acce6cca3999f2dcce5de76dcfa6b29"), looks := false }, kinds := [], alts := [], laidByText := true, laidKinds := [.data, .data], laidTests := true, laidLooks := .later }
def HartCountsUptoCardSaid : Prop := Claim7.holds Tryz.pinned (.plain (OpenSpec.upto hartCountsSpec)) hartCountsUptoCard
end Rows
end Go.Proofs.YtgpofoggfifnjaaGreatDoor
