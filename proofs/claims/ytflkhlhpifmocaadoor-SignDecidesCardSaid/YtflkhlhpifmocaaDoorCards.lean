/-
  DERIVED. GIVEN WITH THE SEED: THE CARDS: each row of YtflkhlhpifmocaaDoorRows.lean that lists a variable, with what it lists TIED to the program's text (the seventh form; the later family's looks); each row that meets fmt, with fmt's text TOLD by the authors' own Lean function (tested against real Go, not proved from fmt's source: count such statements apart). THE CARD IS WHAT COUNTS. Prove the row's statement (the work); the ties are given (YtflkhlhpifmocaaDoorTie.lean); close each card by the builder's one call (the guide's Derived/Test/ToyasCard.lean, 'card_holds'). Laid BY PROGRAM, IN A SANDBOX (cutbox-door.mjs). By AI agents, Wed Nov 11 2026. No macro, syntax, notation, axiom, sorry.
-/
import Derived.Test.YtflkhlhpifmocaaDoorRows
import GoSem.ClaimSeven
namespace Go.Proofs.YtflkhlhpifmocaaDoor
namespace Rows

/-- THE TIED CARD OF 'porticolaw05.SignDecides'. -/
def signDecidesCard : Claim7 := { stood := { row := signDecidesRow, standIns := [], harness := (true, "c6388095468a7c0323262bb95a7d091d260d5157ff8561b3e1ad847a08ac5571"), looks := false }, kinds := [], alts := [], laidByText := true, laidKinds := [.data, .data, .data, .data, .data, .data, .data], laidTests := true, laidLooks := .later }
def SignDecidesCardSaid : Prop := Claim7.holds Tryd.pinned (.plain (OpenSpec.ofChange signDecidesSpec)) signDecidesCard

/-- THE TIED CARD OF 'porticolaw05.SignKeys'. -/
def signKeysCard : Claim7 := { stood := { row := signKeysRow, standIns := [], harness := (true, "c6388095468a7c0323262bb95a7d091d260d5157ff8561b3e1ad847a08ac5571"), looks := false }, kinds := [], alts := [], laidByText := true, laidKinds := [.data, .data, .data, .data, .data, .data, .data], laidTests := true, laidLooks := .later }
def SignKeysCardSaid : Prop := Claim7.holds Tryd.pinned (.plain (OpenSpec.ofChange signKeysSpec)) signKeysCard

/-- THE SECOND FORM's CARD OF 'porticolaw05.SignDecides'. -/
def signDecidesUptoCard : Claim7 := { stood := { row := signDecidesUptoRow, standIns := [], harness := (true, "c6388095468a7c0323262bb95a7d091d260d5157ff8561b3e1ad847a08ac5571"), looks := false }, kinds := [], alts := [], laidByText := true, laidKinds := [.data, .data, .data, .data, .data, .data, .data], laidTests := true, laidLooks := .later }
def SignDecidesUptoCardSaid : Prop := Claim7.holds Tryd.pinned (.plain (OpenSpec.upto signDecidesSpec)) signDecidesUptoCard

/-- THE SECOND FORM's CARD OF 'porticolaw05.SignKeys'. -/
def signKeysUptoCard : Claim7 := { stood := { row := signKeysUptoRow, standIns := [], harness := (true, "c6388095468a7c0323262bb95a7d091d260d5157ff8561b3e1ad847a08ac5571"), looks := false }, kinds := [], alts := [], laidByText := true, laidKinds := [.data, .data, .data, .data, .data, .data, .data], laidTests := true, laidLooks := .later }
def SignKeysUptoCardSaid : Prop := Claim7.holds Tryd.pinned (.plain (OpenSpec.upto signKeysSpec)) signKeysUptoCard
end Rows
end Go.Proofs.YtflkhlhpifmocaaDoor
