/-
  DERIVED. GIVEN WITH THE SEED: THE PROGRAM's TIES (one call each: nine closed facts by the kernel) AND EACH ROW's TIE, after the 31st guide's Derived/Test/Toyas{Tie, Card}.lean. No idea stands in it: it is a product of the set-up. Laid BY PROGRAM, IN A SANDBOX (cutbox-door.mjs). By AI agents, Wed Nov 11 2026. No macro, syntax, notation, axiom, sorry.
-/
import Derived.Test.YtflkhlhpifmocaaDoorRows
import Derived.LaidByTextLater
import Derived.SevenTiedAt
import Derived.LaidSub
import Derived.LaidOnce
namespace Go.Proofs.YtflkhlhpifmocaaDoor
open Go
set_option maxRecDepth 100000
theorem seatTie1 : Tryd.prog.laidByTextLater [("portico/sha.initial", Rows.laid_portico_sha_initial), ("portico/sha.roundConstants", Rows.laid_portico_sha_roundConstants), ("portico/curve.prime", Rows.laid_portico_curve_prime), ("portico/curve.coefficient", Rows.laid_portico_curve_coefficient), ("portico/curve.baseX", Rows.laid_portico_curve_baseX), ("portico/curve.baseY", Rows.laid_portico_curve_baseY), ("portico/curve.order", Rows.laid_portico_curve_order)] [.data, .data, .data, .data, .data, .data, .data] true :=
  Program.laidByTextLater_by_one 44 8 65 (by kernel_rfl) (by kernel_rfl) (by kernel_rfl) (by kernel_rfl) (by kernel_rfl) (by kernel_rfl) (fun _ _ => by kernel_rfl)
theorem noOwnUnsafe : Tryd.pinned.checked.prog.headLifts.contains "ownunsafe" = false := by kernel_rfl
theorem tie : Tryd.prog.laidByTextLater [("portico/sha.initial", Rows.laid_portico_sha_initial), ("portico/sha.roundConstants", Rows.laid_portico_sha_roundConstants), ("portico/curve.prime", Rows.laid_portico_curve_prime), ("portico/curve.coefficient", Rows.laid_portico_curve_coefficient), ("portico/curve.baseX", Rows.laid_portico_curve_baseX), ("portico/curve.baseY", Rows.laid_portico_curve_baseY), ("portico/curve.order", Rows.laid_portico_curve_order)] [.data, .data, .data, .data, .data, .data, .data] true :=
  Program.laidByTextLater.sub seatTie1 ["portico/sha.initial", "portico/sha.roundConstants", "portico/curve.prime", "portico/curve.coefficient", "portico/curve.baseX", "portico/curve.baseY", "portico/curve.order"] (by kernel_rfl) (by kernel_rfl)
theorem signDecides_row_tie : Rows.signDecidesRow.laidByTextAt .later Tryd.pinned [.data, .data, .data, .data, .data, .data, .data] true :=
  OpenClaim.laidByTextAt_later rfl rfl tie noOwnUnsafe
theorem signKeys_row_tie : Rows.signKeysRow.laidByTextAt .later Tryd.pinned [.data, .data, .data, .data, .data, .data, .data] true :=
  OpenClaim.laidByTextAt_later rfl rfl tie noOwnUnsafe
theorem signDecidesUpto_row_tie : Rows.signDecidesUptoRow.laidByTextAt .later Tryd.pinned [.data, .data, .data, .data, .data, .data, .data] true :=
  OpenClaim.laidByTextAt_later rfl rfl tie noOwnUnsafe
theorem signKeysUpto_row_tie : Rows.signKeysUptoRow.laidByTextAt .later Tryd.pinned [.data, .data, .data, .data, .data, .data, .data] true :=
  OpenClaim.laidByTextAt_later rfl rfl tie noOwnUnsafe
end Go.Proofs.YtflkhlhpifmocaaDoor
