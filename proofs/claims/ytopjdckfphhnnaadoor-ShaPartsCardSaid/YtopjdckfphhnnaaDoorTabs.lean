/-
What the rows list of the program's two tables, as the walks ask it; a world that holds them.
-/
import Derived.Test.YtopjdckfphhnnaaDoorWc
import Derived.Test.YtopjdckfphhnnaaDoorCards
import Derived.Test.YtopjdckfphhnnaaDoorTie
import Derived.ProofKit
import Derived.OpenShut
import Derived.Deep.DeepHandedRow
import Derived.Lib.LaidTab
import Derived.LaidSub
namespace Go.Proofs.YtopjdckfphhnnaaDoor
open Go.ChangeShapes Go.WideShapes Go.ChangeAt Go.RowKit

def laidList : List (String × DataW Unit) := [("portico/sha.initial", Rows.laid_portico_sha_initial), ("portico/sha.roundConstants", Rows.laid_portico_sha_roundConstants)]
theorem own : ownKnob Tryd.prog.godebug = none := by kernel_rfl
theorem laidOut : laidOutB Tryd.prog = true := by kernel_rfl
theorem gInit : Tryd.prog.globalNamed "portico/sha.initial" = some 0 := by kernel_rfl
theorem gInitType : (Tryd.prog.globals[0]?).map (·.type) = some 41 := by kernel_rfl
theorem gConst : Tryd.prog.globalNamed "portico/sha.roundConstants" = some 1 := by kernel_rfl
theorem gConstType : (Tryd.prog.globals[1]?).map (·.type) = some 49 := by kernel_rfl
theorem cells8w : Tryd.prog.cellsOf 41 = 8 := by kernel_rfl
theorem cells64w : Tryd.prog.cellsOf 49 = 64 := by kernel_rfl
theorem cells1w : Tryd.prog.cellsOf 40 = 1 := by kernel_rfl
theorem listInit : (Rows.laid_portico_sha_initial : DataW Unit) = Lib.tabData .u32 (inits.map fun x => (x.toNat : Int)) := by kernel_rfl
theorem listConst : (Rows.laid_portico_sha_roundConstants : DataW Unit) = Lib.tabData .u32 (consts.map fun x => (x.toNat : Int)) := by kernel_rfl

theorem getD_map (l : List UInt32) (i : Nat) (h : i < l.length) : (l.map fun x => (x.toNat : Int)).getD i 0 = ((l.getD i 0).toNat : Int) := by
  simp [List.getD_eq_getElem?_getD, h]
/-- what the rows' list gives -/
theorem tabs_of {W : World} (h : laidMetH Tryd.prog laidList W) : Tabs W := by
  have h0 : laidMet Tryd.prog laidList W := h
  unfold laidList at h0
  rw [listInit, listConst] at h0
  have h1 : laidMet Tryd.prog [("portico/sha.roundConstants", Lib.tabData .u32 (consts.map fun x => (x.toNat : Int)))] W := h0.filter (fun x => x.1 == "portico/sha.roundConstants")
  have hI : Lib.TabIs Tryd.prog W "portico/sha.initial" .u32 (inits.map fun x => (x.toNat : Int)) := Lib.tabIs_of_head (rest := [("portico/sha.roundConstants", Lib.tabData .u32 (consts.map fun x => (x.toNat : Int)))]) gInit gInitType Tryd.underlying41 Tryd.underlying40 cells1w cells8w h0
  have hC : Lib.TabIs Tryd.prog W "portico/sha.roundConstants" .u32 (consts.map fun x => (x.toNat : Int)) := Lib.tabIs_of_head (rest := []) gConst gConstType Tryd.underlying49 Tryd.underlying40 cells1w cells64w h1
  have cI : ∀ i, i < 8 → W.cell? ⟨0, i, none⟩ = some (wd (IV i)) := fun i hi => by
    have e : inits.length = 8 := rfl
    rw [hI.cell gInit i (by simpa [e] using hi), getD_map _ _ (by omega)]; rfl
  have cC : ∀ i, i < 64 → W.cell? ⟨1, i, none⟩ = some (wd (KC i)) := fun i hi => by
    have e : consts.length = 64 := rfl
    rw [hC.cell gConst i (by simpa [e] using hi), getD_map _ _ (by omega)]; rfl
  refine ⟨cC, cI, ?_⟩
  have k0 := block_lt_of_cell (cI 0 (by omega))
  have k1 := block_lt_of_cell (cC 0 (by omega))
  dsimp only at k0 k1
  omega

/-- a world for the witnesses: the settled one, the tables holding what their initialisers lay -/
noncomputable def laidWorld (os : Os) : World :=
  { World.holding Tryd.prog os ⟨#[], #[], []⟩ with heap := (((World.holding Tryd.prog os ⟨#[], #[], []⟩).heap.modify 0 fun
      | .cells _ t frozen => .cells #[.int .u32 1779033703, .int .u32 3144134277, .int .u32 1013904242, .int .u32 2773480762, .int .u32 1359893119, .int .u32 2600822924, .int .u32 528734635, .int .u32 1541459225] t frozen
      | o => o).modify 1 fun
      | .cells _ t frozen => .cells #[.int .u32 1116352408, .int .u32 1899447441, .int .u32 3049323471, .int .u32 3921009573, .int .u32 961987163, .int .u32 1508970993, .int .u32 2453635748, .int .u32 2870763221, .int .u32 3624381080, .int .u32 310598401, .int .u32 607225278, .int .u32 1426881987, .int .u32 1925078388, .int .u32 2162078206, .int .u32 2614888103, .int .u32 3248222580, .int .u32 3835390401, .int .u32 4022224774, .int .u32 264347078, .int .u32 604807628, .int .u32 770255983, .int .u32 1249150122, .int .u32 1555081692, .int .u32 1996064986, .int .u32 2554220882, .int .u32 2821834349, .int .u32 2952996808, .int .u32 3210313671, .int .u32 3336571891, .int .u32 3584528711, .int .u32 113926993, .int .u32 338241895, .int .u32 666307205, .int .u32 773529912, .int .u32 1294757372, .int .u32 1396182291, .int .u32 1695183700, .int .u32 1986661051, .int .u32 2177026350, .int .u32 2456956037, .int .u32 2730485921, .int .u32 2820302411, .int .u32 3259730800, .int .u32 3345764771, .int .u32 3516065817, .int .u32 3600352804, .int .u32 4094571909, .int .u32 275423344, .int .u32 430227734, .int .u32 506948616, .int .u32 659060556, .int .u32 883997877, .int .u32 958139571, .int .u32 1322822218, .int .u32 1537002063, .int .u32 1747873779, .int .u32 1955562222, .int .u32 2024104815, .int .u32 2227730452, .int .u32 2361852424, .int .u32 2428436474, .int .u32 2756734187, .int .u32 3204031479, .int .u32 3329325298] t frozen
      | o => o) }
/-- the slice value reads as bytes -/
theorem isRow_bytes {W : World} {b off : Nat} {len cap : Nat} {zs : List Int} (hl : len ≤ cap) (hz : zs.length = cap) (hcell : ∀ i, i < zs.length → W.cell? ⟨b, off + i, none⟩ = some (.int .u8 (zs.getD i 0))) (hwz : ∀ n ∈ zs, (Lit.int .u8 n).wf = true) :
    ∀ j, j < len → W.cell? ⟨b, off + j, none⟩ = some (by8 (((zs.take len).map fun z => UInt8.ofNat z.toNat).getD j 0)) := by
  intro j hj
  rw [hcell j (by omega)]
  have hm : zs[j]'(by omega) ∈ zs := List.getElem_mem _
  have hw := hwz _ hm
  have hb : 0 ≤ zs[j]'(by omega) ∧ zs[j]'(by omega) ≤ 255 := by simpa [Lit.wf, IntKind.min, IntKind.max, IntKind.signed, IntKind.bits] using hw
  unfold by8
  simp only [List.getD_eq_getElem?_getD, List.getElem?_map, List.getElem?_take, if_pos hj]
  rw [List.getElem?_eq_getElem (by omega)]
  simp only [Option.getD_some, Option.map_some, UInt8.toNat_ofNat']
  congr 2
  omega
end Go.Proofs.YtopjdckfphhnnaaDoor
