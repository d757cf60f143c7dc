/-
What the rows list of the program's table of words, as the walks ask it; a world that holds it; what came in.
-/
import Derived.Test.YtghfbdkfibbhoaaDoorIqI
import Derived.Test.YtghfbdkfibbhoaaDoorCards
import Derived.Test.YtghfbdkfibbhoaaDoorTie
import Derived.ProofKit
import Derived.OpenShut
import Derived.Deep.DeepHandedRow
import Derived.Lib.LaidTab
import Derived.LaidSub
namespace Go.Proofs.YtghfbdkfibbhoaaDoor
open Go.ChangeShapes Go.WideShapes Go.ChangeAt Go.RowKit

def wordsI : List Int := opsL.map fun q => (q.2 : Int)
def laidList : List (String × DataW Unit) := [("portico/inst.words", Rows.laid_portico_inst_words)]
theorem own : ownKnob Tryd.prog.godebug = none := by kernel_rfl
theorem laidOut : laidOutB Tryd.prog = true := by kernel_rfl
theorem cells57 : Tryd.prog.cellsOf 55 = 57 := by kernel_rfl
theorem cells1w : Tryd.prog.cellsOf 22 = 1 := by kernel_rfl
theorem cells1i : Tryd.prog.cellsOf 3 = 1 := by kernel_rfl
theorem cellsIn : Tryd.prog.cellsOf 26 = 5 := by kernel_rfl
theorem g_words : Tryd.prog.globalNamed "portico/inst.words" = some 0 := by kernel_rfl
theorem gt_words : (Tryd.prog.globals[0]?).map (·.type) = some 55 := by kernel_rfl
theorem list_words : (Rows.laid_portico_inst_words : DataW Unit) = Lib.tabData .u32 wordsI := by kernel_rfl
theorem wordsI_len : wordsI.length = 57 := rfl
theorem wordsI_at (i : Nat) (h : i < 57) : wordsI.getD i 0 = (((opP i).2 : Nat) : Int) := by
  unfold wordsI opP
  have : i < opsL.length := h
  simp [List.getD_eq_getElem?_getD, this]
/-- what the rows' list gives -/
theorem tabW_of {W : World} (h : laidMetH Tryd.prog laidList W) : TabW W := by
  have h0 : laidMet Tryd.prog laidList W := h
  unfold laidList at h0
  rw [list_words] at h0
  have hI : Lib.TabIs Tryd.prog W "portico/inst.words" .u32 wordsI := Lib.tabIs_of_head (rest := []) g_words gt_words Tryd.underlying55 Tryd.underlying22 cells1w cells57 h0
  have cI : ∀ i, i < 57 → W.cell? ⟨0, i, none⟩ = some (.int .u32 (((opP i).2 : Nat) : Int)) := fun i hi => by
    rw [hI.cell g_words i (by rw [wordsI_len]; exact hi), wordsI_at i hi]
  refine ⟨cI, ?_⟩
  have k0 := block_lt_of_cell (cI 0 (by omega))
  dsimp only at k0
  omega
/-- a world for the witnesses: the settled one, the table holding what its initialiser lays -/
noncomputable def laidWorld (os : Os) : World :=
  { World.holding Tryd.prog os ⟨#[], #[], []⟩ with heap := ((World.holding Tryd.prog os ⟨#[], #[], []⟩).heap.modify 0 fun
      | .cells _ t frozen => .cells #[.int .u32 0, .int .u32 55, .int .u32 23, .int .u32 111, .int .u32 103, .int .u32 99, .int .u32 4195, .int .u32 16483, .int .u32 20579, .int .u32 24675, .int .u32 28771, .int .u32 3, .int .u32 4099, .int .u32 8195, .int .u32 16387, .int .u32 20483, .int .u32 35, .int .u32 4131, .int .u32 8227, .int .u32 19, .int .u32 8211, .int .u32 12307, .int .u32 16403, .int .u32 24595, .int .u32 28691, .int .u32 4115, .int .u32 20499, .int .u32 1073762323, .int .u32 51, .int .u32 1073741875, .int .u32 4147, .int .u32 8243, .int .u32 12339, .int .u32 16435, .int .u32 20531, .int .u32 1073762355, .int .u32 24627, .int .u32 28723, .int .u32 33554483, .int .u32 33558579, .int .u32 33562675, .int .u32 33566771, .int .u32 33570867, .int .u32 33574963, .int .u32 33579059, .int .u32 33583155, .int .u32 15, .int .u32 115, .int .u32 1048691, .int .u32 807403635, .int .u32 273678451, .int .u32 4211, .int .u32 8307, .int .u32 12403, .int .u32 20595, .int .u32 24691, .int .u32 28787] t frozen
      | o => o) }
theorem came_word {H : Type} {enc : TypeId × Value → H} {P : Program} {W : World} {base : Nat} {t : TypeId} {v : Value} {d : DataW H} {p : List MemPlace} (ht : P.underlying t = some (.int .u32)) (hv : Value.okWide P W .any base t v)
    (h : DataW.Trod enc P W 0 (fun _ => true) true t v d p) : ∃ x : Nat, v = .int .u32 (x : Int) ∧ x < 4294967296 := by
  obtain ⟨z, rfl, _, _, hw⟩ := open_int ht hv h
  have h2 : 0 ≤ z ∧ z ≤ 4294967295 := by simpa [Lit.wf, IntKind.min, IntKind.max, IntKind.signed, IntKind.bits] using hw
  exact ⟨z.toNat, by rw [Int.toNat_of_nonneg h2.1], by omega⟩
theorem came_num {H : Type} {enc : TypeId × Value → H} {P : Program} {W : World} {base : Nat} {t : TypeId} {v : Value} {d : DataW H} {p : List MemPlace} (ht : P.underlying t = some (.int .i64)) (hv : Value.okWide P W .any base t v)
    (h : DataW.Trod enc P W 0 (fun _ => true) true t v d p) : ∃ x : Int, v = .int .i64 x := by
  obtain ⟨z, rfl, _, _, hw⟩ := open_int ht hv h
  exact ⟨z, rfl⟩
theorem at_one {cs : List Value} {o : Nat} {v : Value} (h : (cs.drop o).take 1 = [v]) : cs[o]? = some v := by
  have h2 := congrArg (·[0]?) h
  simpa [List.getElem?_take, List.getElem?_drop] using h2
theorem came_inst {H : Type} {enc : TypeId × Value → H} {W : World} {base : Nat} {v : Value} {d : DataW H} {p : List MemPlace} (hv : Value.okWide Tryd.prog W .any base 26 v)
    (h : DataW.Trod enc Tryd.prog W 0 (fun _ => true) true 26 v d p) : ∃ (i a b c : Int) (n : Nat), v = .agg (tab 5 (insA i a b c (n : Int))) ∧ n < 4294967296 := by
  obtain ⟨cs, rfl, hsz⟩ := okWide_struct Tryd.underlying26 hv
  rw [cellsIn] at hsz
  obtain ⟨fuel, hf⟩ := h
  obtain ⟨xs, m, _, _, hl, hlen, hfl⟩ := DataW.trod_struct Tryd.underlying26 hf
  match xs, hlen with
  | [y0, y1, y2, y3, y4], _ =>
    have h0 := hfl 0 _ rfl
    have h1 := hfl 1 _ rfl
    have h2 := hfl 2 _ rfl
    have h3 := hfl 3 _ rfl
    have h4 := hfl 4 _ rfl
    simp only [List.getElem?_cons_zero, List.getElem?_cons_succ] at h0 h1 h2 h3 h4
    obtain ⟨z0, e0, _, w0⟩ := DataW.trod_int Tryd.underlying3 h0
    obtain ⟨z1, e1, _, w1⟩ := DataW.trod_int Tryd.underlying3 h1
    obtain ⟨z2, e2, _, w2⟩ := DataW.trod_int Tryd.underlying3 h2
    obtain ⟨z3, e3, _, w3⟩ := DataW.trod_int Tryd.underlying3 h3
    obtain ⟨z4, e4, _, w4⟩ := DataW.trod_int Tryd.underlying22 h4
    have g0 := at_one e0
    have g1 := at_one e1
    have g2 := at_one e2
    have g3 := at_one e3
    have g4 := at_one e4
    simp only [Value.cells, Array.getElem?_toList] at g0 g1 g2 g3 g4
    have hw : 0 ≤ z4 ∧ z4 ≤ 4294967295 := by simpa [Lit.wf, IntKind.min, IntKind.max, IntKind.signed, IntKind.bits] using w4
    refine ⟨z0, z1, z2, z3, z4.toNat, ?_, by omega⟩
    congr 1
    rw [Int.toNat_of_nonneg hw.1]
    apply Array.ext_getElem?
    intro j
    by_cases hj : j < 5
    · rw [tab_get 5 _ j hj]
      match j, hj with
      | 0, _ => exact g0
      | 1, _ => exact g1
      | 2, _ => exact g2
      | 3, _ => exact g3
      | 4, _ => exact g4
    · rw [Array.getElem?_eq_none (by omega), Array.getElem?_eq_none (by rw [tab_size]; omega)]
end Go.Proofs.YtghfbdkfibbhoaaDoor
