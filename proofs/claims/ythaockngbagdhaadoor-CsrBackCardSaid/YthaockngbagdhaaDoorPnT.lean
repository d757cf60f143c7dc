/-
Layer 12: the library's table that Napot entries are read with (math/bits.deBruijn32tab), in the world.
-/
import Derived.Test.YthaockngbagdhaaDoorRwA
import Derived.Lib.TrailingZeros
namespace Go.Proofs.YthaockngbagdhaaDoor.Pm
open Go Go.RowKit

/-- the library's table, in the world -/
structure TabT (w : World) : Prop where
  c : ∀ i, i < 32 → w.cell? ⟨0, i, none⟩ = some (.int .u8 (Go.Lib.deBruijn32tab.getD i 0))
  size : 0 < w.heap.size
theorem TabT.below {w w' : World} (h : TabT w) (hb : Below w.heap.size w w') : TabT w' :=
  have hs := h.size
  ⟨fun i hi => (hb.cell (p := ⟨_, i, none⟩) (show _ < w.heap.size from hs)).trans (h.c i hi), Nat.lt_of_lt_of_le hs hb.size⟩
theorem TabT.drewN {w : World} (h : TabT w) (n : Nat) : TabT (w.drewN n) := ⟨h.c, h.size⟩
end Go.Proofs.YthaockngbagdhaaDoor.Pm
