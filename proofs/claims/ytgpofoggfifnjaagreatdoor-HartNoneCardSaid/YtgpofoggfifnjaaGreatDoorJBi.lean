/-
Layer 16: a start that comes in.
What the rows list of the two tables (math/bits.deBruijn32tab, portico/inst.words), as the walks ask it; a world that holds them.
Layer 16: more of package csr's calls: Entries, May, and May1 in the user's mode.
Layer 16: a hart in memory as one thing (Ht), and what calls of its parts leave of it; no register of the machine is the user's; package csr's May.
-/
import Derived.Test.YtgpofoggfifnjaaGreatDoorJBc
import Derived.Test.YtgpofoggfifnjaaGreatDoorJAq
import Derived.Test.YtgpofoggfifnjaaGreatDoorJAp
import Derived.Test.YtgpofoggfifnjaaGreatDoorJAl
import Derived.Test.YtgpofoggfifnjaaGreatDoorCards
import Derived.Test.YtgpofoggfifnjaaGreatDoorTie
import Derived.Test.YtgpofoggfifnjaaGreatDoorJBa
import Derived.Test.YtgpofoggfifnjaaGreatDoorJBb
import Derived.ProofKit
import Derived.OpenShut
import Derived.Deep.DeepHandedRow
import Derived.Lib.LaidTab
import Derived.LaidSub
import Derived.SizedLaws
namespace Go.Proofs.YtgpofoggfifnjaaGreatDoor.Ha
open Go.Joins Go.ChangeShapes Go.WideShapes Go.ChangeAt Go.RowKit Go.Deep
open Go.Proofs.YtgpofoggfifnjaaGreatDoor.Pm (En SlC SlE enV en0 came_slice came_entry c32 c64 cEn bEn at_one mem_getD)

theorem cPr : Tryz.prog.cellsOf 65 = 2 := by kernel_rfl
theorem bPr : Tryz.prog.bytesOf 65 = 8 := by kernel_rfl
theorem bU4 : Tryz.prog.bytesOf 25 = 4 := by kernel_rfl
theorem cSt : Tryz.prog.cellsOf 27 = 6 := by kernel_rfl
theorem cSu : Tryz.prog.cellsOf 22 = 1 := by kernel_rfl
theorem cSp : Tryz.prog.cellsOf 23 = 1 := by kernel_rfl
theorem cSe : Tryz.prog.cellsOf 24 = 1 := by kernel_rfl
theorem cBo : Tryz.prog.cellsOf 4 = 1 := by kernel_rfl
section
variable {H : Type} {enc : TypeId × Value → H} {W : World} {n : Nat} {cs : List Value} {d : DataW H} {p : List MemPlace}
set_option maxRecDepth 100000 in
theorem came_n32 (h : DataW.trod enc Tryz.prog W 0 (fun _ => true) true n 25 cs = some (d, p)) : ∃ x : Nat, x < L32 ∧ cs = [.int .u32 (x : Int)] := by
  obtain ⟨z, e, _, w⟩ := DataW.trod_int Tryz.underlying25 h
  obtain ⟨x, rfl, hx⟩ := wf_u32 w
  exact ⟨x, hx, e⟩
set_option maxRecDepth 100000 in
theorem came_pr (h : DataW.trod enc Tryz.prog W 0 (fun _ => true) true n 65 cs = some (d, p)) : ∃ a : Nat × Nat, (a.1 < L32 ∧ a.2 < L32) ∧ ∀ k, k < 2 → cs[k]? = some (prV a k) := by
  obtain ⟨xs, m, _, _, _, hxl, hel⟩ := DataW.trod_array Tryz.underlying65 h
  have hi : ∀ j, j < 2 → ∃ x : Nat, x < L32 ∧ cs[j]? = some (.int .u32 (x : Int)) := fun j hj => by
    have h1 := hel j hj
    rw [c32, List.getElem?_eq_getElem (by omega)] at h1
    obtain ⟨x, hx, e⟩ := came_n32 h1
    exact ⟨x, hx, at_one (o := j) (by rw [Nat.mul_one] at e; exact e)⟩
  obtain ⟨x0, l0, e0⟩ := hi 0 (by decide)
  obtain ⟨x1, l1, e1⟩ := hi 1 (by decide)
  refine ⟨(x0, x1), ⟨l0, l1⟩, fun k hk => ?_⟩
  match k, hk with
  | 0, _ => exact e0
  | 1, _ => exact e1
set_option maxRecDepth 100000 in
theorem came_words (h : DataW.trod enc Tryz.prog W 0 (fun _ => true) true n 22 cs = some (d, p)) (hw : ∀ n ∈ d.weights Tryz.prog 22, n ≤ reachBytes) : ∃ (s : Pm.Sl) (l : List Nat), cs = [s.v] ∧ SlW W s l := by
  obtain ⟨s, l, e, hl, hC, hG⟩ := came_slice (0 : Nat) 1 4 c32 (by decide) Tryz.underlying22 bU4 (by decide) (fun (x : Nat) _ => Value.int .u32 (x : Int)) (fun x => x < L32) h hw (fun _ _ _ _ ht _ => by
    obtain ⟨x, hx, rfl⟩ := came_n32 ht
    refine ⟨x, hx, fun k hk => ?_⟩
    obtain rfl : k = 0 := by omega
    rfl)
  exact ⟨s, l, e, hl, hC, mem_getD hl hG⟩
set_option maxRecDepth 100000 in
theorem came_prs (h : DataW.trod enc Tryz.prog W 0 (fun _ => true) true n 23 cs = some (d, p)) (hw : ∀ n ∈ d.weights Tryz.prog 23, n ≤ reachBytes) : ∃ (s : Pm.Sl) (l : List (Nat × Nat)), cs = [s.v] ∧ SlX W s l := by
  obtain ⟨s, l, e, hl, hC, hG⟩ := came_slice ((0, 0) : Nat × Nat) 2 8 cPr (by decide) Tryz.underlying23 bPr (by decide) prV (fun a => a.1 < L32 ∧ a.2 < L32) h hw (fun _ _ _ _ ht _ => came_pr ht)
  exact ⟨s, l, e, hl, hC, mem_getD hl hG⟩
set_option maxRecDepth 100000 in
theorem came_ents (h : DataW.trod enc Tryz.prog W 0 (fun _ => true) true n 24 cs = some (d, p)) (hw : ∀ n ∈ d.weights Tryz.prog 24, n ≤ reachBytes) : ∃ (s : Pm.Sl) (l : List En), cs = [s.v] ∧ SlE W s l := by
  obtain ⟨s, l, hcs, hl, hC, hG⟩ := came_slice en0 3 24 cEn (by decide) Tryz.underlying24 bEn (by decide) enV En.Wf h hw (fun _ _ _ _ ht _ => came_entry ht)
  exact ⟨s, l, hcs, hl, hC, mem_getD hl hG⟩
set_option maxRecDepth 100000 in
/-- a start that arrives -/
theorem came_start {base : Nat} {v : Value} (hv : Value.okWide Tryz.prog W .any base 27 v) (h : DataW.Trod enc Tryz.prog W 0 (fun _ => true) true 27 v d p) (hw : ∀ n ∈ d.weights Tryz.prog 27, n ≤ reachBytes) :
    ∃ a t, v = .agg (staA a t) ∧ StaOk W a t := by
  obtain ⟨cs, rfl, hsz, _⟩ : ∃ cs, v = .agg cs ∧ cs.size = Tryz.prog.cellsOf 27 ∧ Row.okWide Tryz.prog W .any base 27 cs := by simpa [Value.okWide, Tryz.underlying27] using hv
  rw [cSt] at hsz
  obtain ⟨fuel, hf⟩ := h
  obtain ⟨xs, m, _, hx, hl, hlen, hfl⟩ := DataW.trod_struct Tryz.underlying27 hf
  match xs, hlen with
  | [y0, y1, y2, y3, y4, y5], _ =>
    have h0 : DataW.trod enc Tryz.prog W 0 (fun _ => true) true m 22 ((cs.toList.drop 0).take (Tryz.prog.cellsOf 22)) = some y0 := hfl 0 _ rfl
    have h1 : DataW.trod enc Tryz.prog W 0 (fun _ => true) true m 23 ((cs.toList.drop 1).take (Tryz.prog.cellsOf 23)) = some y1 := hfl 1 _ rfl
    have h2 : DataW.trod enc Tryz.prog W 0 (fun _ => true) true m 24 ((cs.toList.drop 2).take (Tryz.prog.cellsOf 24)) = some y2 := hfl 2 _ rfl
    have h3 : DataW.trod enc Tryz.prog W 0 (fun _ => true) true m 4 ((cs.toList.drop 3).take (Tryz.prog.cellsOf 4)) = some y3 := hfl 3 _ rfl
    have h4 : DataW.trod enc Tryz.prog W 0 (fun _ => true) true m 23 ((cs.toList.drop 4).take (Tryz.prog.cellsOf 23)) = some y4 := hfl 4 _ rfl
    have h5 : DataW.trod enc Tryz.prog W 0 (fun _ => true) true m 25 ((cs.toList.drop 5).take (Tryz.prog.cellsOf 25)) = some y5 := hfl 5 _ rfl
    rw [cSu] at h0
    rw [cSp] at h1 h4
    rw [cSe] at h2
    rw [cBo] at h3
    rw [c32] at h5
    have hd : d = .agg [y0.1, y1.1, y2.1, y3.1, y4.1, y5.1] := congrArg Prod.fst hx
    subst hd
    have hwj : ∀ (j : Nat) (tt : TypeId) (dd : DataW H), (([22, 23, 24, 4, 23, 25] : List TypeId)[j]? = some tt) → ([y0.1, y1.1, y2.1, y3.1, y4.1, y5.1][j]? = some dd) → ∀ k ∈ dd.weights Tryz.prog tt, k ≤ reachBytes := fun j tt dd e1 e2 k hk => hw k (by
      simp only [DataW.weights, Tryz.underlying27]
      exact DataW.weights_mem_each (j := j) e1 e2 k hk)
    obtain ⟨tw, ws, e0, hW⟩ := came_words (d := y0.1) (p := y0.2) h0 (hwj 0 _ _ rfl rfl)
    obtain ⟨tx, xs', e1, hX⟩ := came_prs (d := y1.1) (p := y1.2) h1 (hwj 1 _ _ rfl rfl)
    obtain ⟨tl, ls, e2, hL⟩ := came_ents (d := y2.1) (p := y2.2) h2 (hwj 2 _ _ rfl rfl)
    obtain ⟨b, e3, _⟩ := DataW.trod_bool Tryz.underlying4 h3
    obtain ⟨tc, cs', e4, hC⟩ := came_prs (d := y4.1) (p := y4.2) h4 (hwj 4 _ _ rfl rfl)
    obtain ⟨pc, hpc, e5⟩ := came_n32 (d := y5.1) (p := y5.2) h5
    refine ⟨⟨ws, xs', ls, b, cs', pc⟩, ⟨tw, tx, tl, tc⟩, ?_, ⟨hW, hX, hL, hC, hpc⟩⟩
    congr 1
    apply Array.ext_getElem?
    intro i
    by_cases hi : i < 6
    · rw [← Array.getElem?_toList]
      match i, hi with
      | 0, _ => exact at_one e0
      | 1, _ => exact at_one e1
      | 2, _ => exact at_one e2
      | 3, _ => exact at_one e3
      | 4, _ => exact at_one e4
      | 5, _ => exact at_one e5
    · rw [Array.getElem?_eq_none (by omega), Array.getElem?_eq_none (by show 6 ≤ i; omega)]
end
end Go.Proofs.YtgpofoggfifnjaaGreatDoor.Ha
namespace Go.Proofs.YtgpofoggfifnjaaGreatDoor.Ha
open Go.ChangeShapes Go.WideShapes Go.ChangeAt Go.RowKit
open Go.Proofs.YtgpofoggfifnjaaGreatDoor (opsL opP TabW)
open Go.Proofs.YtgpofoggfifnjaaGreatDoor.Pm (TabT)

def laidList : List (String × DataW Unit) := [("math/bits.deBruijn32tab", Rows.laid_math_bits_deBruijn32tab), ("portico/inst.words", Rows.laid_portico_inst_words)]
def tabI : List Int := Go.Lib.deBruijn32tab.map fun q : Nat => (q : Int)
theorem cells32 : Tryz.prog.cellsOf 159 = 32 := by kernel_rfl
theorem cells1b : Tryz.prog.cellsOf 5 = 1 := by kernel_rfl
theorem g_tab : Tryz.prog.globalNamed "math/bits.deBruijn32tab" = some 1 := by kernel_rfl
theorem gt_tab : (Tryz.prog.globals[1]?).map (·.type) = some 159 := by kernel_rfl
theorem list_tab : (Rows.laid_math_bits_deBruijn32tab : DataW Unit) = Lib.tabData .u8 tabI := by kernel_rfl
theorem tabI_len : tabI.length = 32 := rfl
theorem tabI_at (i : Nat) (h : i < 32) : tabI.getD i 0 = ((Go.Lib.deBruijn32tab.getD i 0 : Nat) : Int) := by
  have : i < Go.Lib.deBruijn32tab.length := h
  simp [tabI, List.getD_eq_getElem?_getD, this]
def wordsI : List Int := opsL.map fun q => (q.2 : Int)
theorem cells57 : Tryz.prog.cellsOf 145 = 57 := by kernel_rfl
theorem cells1w : Tryz.prog.cellsOf 25 = 1 := by kernel_rfl
theorem g_words : Tryz.prog.globalNamed "portico/inst.words" = some 0 := by kernel_rfl
theorem gt_words : (Tryz.prog.globals[0]?).map (·.type) = some 145 := by kernel_rfl
theorem list_words : (Rows.laid_portico_inst_words : DataW Unit) = Lib.tabData .u32 wordsI := by kernel_rfl
theorem wordsI_len : wordsI.length = 57 := rfl
theorem wordsI_at (i : Nat) (h : i < 57) : wordsI.getD i 0 = (((opP i).2 : Nat) : Int) := by
  unfold wordsI opP
  have : i < opsL.length := h
  simp [List.getD_eq_getElem?_getD, this]
theorem tabT_of {W : World} (h : laidMetH Tryz.prog laidList W) : TabT W := by
  have h0 : laidMet Tryz.prog laidList W := h
  unfold laidList at h0
  rw [list_tab, list_words] at h0
  have h1 : laidMet Tryz.prog [("math/bits.deBruijn32tab", Lib.tabData .u8 tabI)] W := h0.filter (fun x => x.1 == "math/bits.deBruijn32tab")
  have hI : Lib.TabIs Tryz.prog W "math/bits.deBruijn32tab" .u8 tabI := Lib.tabIs_of_head (rest := []) g_tab gt_tab Tryz.underlying159 Tryz.underlying5 cells1b cells32 h1
  have cI : ∀ i, i < 32 → W.cell? ⟨1, i, none⟩ = some (.int .u8 (Go.Lib.deBruijn32tab.getD i 0)) := fun i hi => by
    rw [hI.cell g_tab i (by rw [tabI_len]; exact hi), tabI_at i hi]
  exact ⟨cI, block_lt_of_cell (cI 0 (by omega))⟩
theorem tabW_of {W : World} (h : laidMetH Tryz.prog laidList W) : TabW W := by
  have h0 : laidMet Tryz.prog laidList W := h
  unfold laidList at h0
  rw [list_tab, list_words] at h0
  have h1 : laidMet Tryz.prog [("portico/inst.words", Lib.tabData .u32 wordsI)] W := h0.filter (fun x => x.1 == "portico/inst.words")
  have hI : Lib.TabIs Tryz.prog W "portico/inst.words" .u32 wordsI := Lib.tabIs_of_head (rest := []) g_words gt_words Tryz.underlying145 Tryz.underlying25 cells1w cells57 h1
  have cI : ∀ i, i < 57 → W.cell? ⟨0, i, none⟩ = some (.int .u32 (((opP i).2 : Nat) : Int)) := fun i hi => by
    rw [hI.cell g_words i (by rw [wordsI_len]; exact hi), wordsI_at i hi]
  exact ⟨cI, block_lt_of_cell (cI 0 (by omega))⟩
/-- a world for the witnesses: the settled one, both tables holding what their initialisers lay -/
noncomputable def laidWorld (os : Os) : World :=
  { World.holding Tryz.prog os ⟨#[], #[], []⟩ with heap := (((World.holding Tryz.prog os ⟨#[], #[], []⟩).heap.modify 1 fun
      | .cells _ t frozen => .cells #[.int .u8 0, .int .u8 1, .int .u8 28, .int .u8 2, .int .u8 29, .int .u8 14, .int .u8 24, .int .u8 3, .int .u8 30, .int .u8 22, .int .u8 20, .int .u8 15, .int .u8 25, .int .u8 17, .int .u8 4, .int .u8 8, .int .u8 31, .int .u8 27, .int .u8 13, .int .u8 23, .int .u8 21, .int .u8 19, .int .u8 16, .int .u8 7, .int .u8 26, .int .u8 12, .int .u8 18, .int .u8 6, .int .u8 11, .int .u8 5, .int .u8 10, .int .u8 9] t frozen
      | o => o).modify 0 fun
      | .cells _ t frozen => .cells #[.int .u32 0, .int .u32 55, .int .u32 23, .int .u32 111, .int .u32 103, .int .u32 99, .int .u32 4195, .int .u32 16483, .int .u32 20579, .int .u32 24675, .int .u32 28771, .int .u32 3, .int .u32 4099, .int .u32 8195, .int .u32 16387, .int .u32 20483, .int .u32 35, .int .u32 4131, .int .u32 8227, .int .u32 19, .int .u32 8211, .int .u32 12307, .int .u32 16403, .int .u32 24595, .int .u32 28691, .int .u32 4115, .int .u32 20499, .int .u32 1073762323, .int .u32 51, .int .u32 1073741875, .int .u32 4147, .int .u32 8243, .int .u32 12339, .int .u32 16435, .int .u32 20531, .int .u32 1073762355, .int .u32 24627, .int .u32 28723, .int .u32 33554483, .int .u32 33558579, .int .u32 33562675, .int .u32 33566771, .int .u32 33570867, .int .u32 33574963, .int .u32 33579059, .int .u32 33583155, .int .u32 15, .int .u32 115, .int .u32 1048691, .int .u32 807403635, .int .u32 273678451, .int .u32 4211, .int .u32 8307, .int .u32 12403, .int .u32 20595, .int .u32 24691, .int .u32 28787] t frozen
      | o => o) }
end Go.Proofs.YtgpofoggfifnjaaGreatDoor.Ha
namespace Go.Proofs.YtgpofoggfifnjaaGreatDoor.Ha
open Go Go.RowKit
open Go.Proofs.YtgpofoggfifnjaaGreatDoor.Cs (St IsF entL entN entL_mem hP CsrOK)
open Go.Proofs.YtgpofoggfifnjaaGreatDoor (own_form)
open Go.Proofs.YtgpofoggfifnjaaGreatDoor.Pm (En Sl SlC SlE enV enV_one en0 TabT cellsL cellsL_len cellsL_get own_slC plainL check_any)

theorem entC_is (s : St) : entC s = entL s := rfl
theorem cells16 {w : World} {g : Nat} {s : St} (H : IsF w g s) : ∀ j u, (cellsL 3 enV (entL s))[j]? = some u → w.cell? ((⟨g, 11, none⟩ : Addr).add j) = some u := by
  intro j u hu
  have hl : (entL s).length = 16 := by unfold entL; rw [List.length_map, List.length_range]
  have hj : j < 48 := by
    have := (List.getElem?_eq_some_iff.1 hu).1
    rw [cellsL_len, hl] at this
    exact this
  have h := cellsL_get 3 enV en0 (entL s) (j / 3) (j % 3) (by omega) (Nat.mod_lt _ (by decide))
  rw [show j / 3 * 3 + j % 3 = j by omega, hu] at h
  rw [Option.some.inj h, Cs.entL_at s _ (by omega), Addr.add_mid]
  have hc := H.ce (j / 3) (j % 3) (by omega) (Nat.mod_lt _ (by decide))
  rw [show 11 + j / 3 * 3 + j % 3 = 11 + j by omega] at hc
  exact hc
set_option maxRecDepth 100000 in
set_option maxHeartbeats 2000000 in
theorem clone_any (w : World) (g : Nat) (s : St) (H : IsF w g s) : Calls Tryz.prog 34 #[.slice (some ⟨g, 11, none⟩) 16 16] w fun e w' => (∃ A c, e = .returned (.slice A 16 c) ∧ SlE w' ⟨A, 16, c⟩ (entL s) ∧ ∀ b o, A = some ⟨b, o, none⟩ → w.heap.size ≤ b) ∧ Below w.heap.size w w' := by
  obtain ⟨i5, hi5, hz5, hs5, hb5⟩ := info_parts Pm.infoEb
  have HH := Lib.hid H
  have HE := Lib.hid H.entries
  have hlen : (entL s).length = 16 := by unfold entL; rw [List.length_map, List.length_range]
  have h1 : ∀ u ∈ cellsL 3 enV (entL s), u.oneCell' = true := fun u hu => by
    obtain ⟨r, _, hr⟩ := List.mem_flatMap.1 hu
    obtain ⟨j, _, rfl⟩ := List.mem_map.1 hr
    exact enV_one _ _
  clear H
  have hq : ∀ W, (binOp .eql 24 (.slice (some ⟨g, 11, none⟩) 16 16) (.slice none 0 0)).run Tryz.prog W = .ok (.bool false) W := fun W => by
    simp only [binOp]
    simp [run_equal_slice_nil W 24 _ (some ⟨g, 11, none⟩) 16 16 Tryz.underlying24]
  go_enter Tryz.func34, Tryz.ntmps34
  go_upto_region 3 with fail
  have hb0 : Below w.heap.size w (w.alloc (.cells #[] 38)) := (Below.refl _ _).alloc (Nat.le_refl _) _
  have hown : (w.alloc (.cells #[] 38)).ownsRow w.heap.size 38 3 (.slice (some ⟨w.heap.size, 0, none⟩) 0 0) 0 [] := ⟨rfl, Or.inr ⟨w.heap.size, 0, #[], rfl, Nat.le_refl _, heap_alloc_new w _, Nat.le_refl _, by decide, rfl, rfl⟩⟩
  have hcl := cells16 (HH.out.after hb0)
  have hsz : w.heap.size ≤ (w.alloc (.cells #[] 38)).heap.size := hb0.size
  go_wp2_with (
    refine wpList_append_own _ rfl _ _ _ rfl w.heap.size 38 i5 _ 3 24 Tryz.underlying24 hi5 hz5 hs5 hb5 rfl (by decide) _ 0 [] rfl hown ⟨g, 11, none⟩ 16 16 (cellsL 3 enV (entL s)) rfl (by rw [cellsL_len, hlen]) hcl h1 (by decide) (by decide) hsz ?_
    intro v' w2 h2 h3 _
    go_frame)
  go_ret
  rw [List.nil_append, Nat.zero_add] at h2
  obtain ⟨A, c, rfl⟩ := own_form h2
  obtain ⟨hl, hC⟩ := own_slC (f := enV) h2 (by decide) (by decide) en0
  refine ⟨⟨A, c, rfl, ⟨hl, hC, fun e he => (HE.out).2.2 e he⟩, fun b o e => ?_⟩, ?_⟩
  · subst e
    exact (Pm.own_blk h2 (l := b) rfl).1
  · exact hb0.trans (below_of_only h3 (Nat.le_refl _) hsz)
set_option maxRecDepth 100000 in
set_option maxHeartbeats 2000000 in
theorem entries_any (w : World) (g : Nat) (s : St) (H : IsF w g s) : Calls Tryz.prog 15 #[hP g] w fun e w' => (∃ A c, e = .returned (.slice A 16 c) ∧ SlE w' ⟨A, 16, c⟩ (entC s) ∧ ∀ b o, A = some ⟨b, o, none⟩ → w.heap.size ≤ b) ∧ Below w.heap.size w w' := by
  have kc := clone_any w g s H
  clear H
  go_enter Tryz.func15, Tryz.ntmps15
  go_wp2_with (go_at_call 34; refine kc.mono ?_; rintro e w2 ⟨⟨A, c, rfl, h1, h2⟩, hb⟩)
  go_ret
  exact ⟨⟨A, c, rfl, h1, h2⟩, hb⟩
theorem ent_plain {s : St} (h : s.Ok) : plainL (entL s) := by
  refine ⟨fun e he => ?_, by unfold entL; rw [List.length_map, List.length_range]; decide⟩
  obtain ⟨i, hi, rfl⟩ := entL_mem he
  have hc := h.cfg i
  unfold entN
  dsimp only
  omega
set_option maxRecDepth 100000 in
set_option maxHeartbeats 2000000 in
theorem mayU_any (w : World) (g : Nat) (s : St) (a n r : Nat) (hT : TabT w) (H : IsF w g s) (hm : s.mode = 0) (ha : a < L32) (hn1 : 1 ≤ n) (hn8 : n ≤ 8) (hr : r ≤ 7) : Calls Tryz.prog 13 #[hP g, .int .u32 (a : Int), .int .i64 (n : Int), .int .i64 (r : Int)] w fun e w' => e = .returned (.bool (mayS s a n r)) ∧ Below w.heap.size w w' := by
  have c0 : w.cell? ⟨g, 0, none⟩ = some (.int .i64 (s.mode : Int)) := H.blk.cellTab 0 (by decide)
  have kC := check_any (entL s) ⟨some ⟨g, 11, none⟩, 16, 16⟩ a n r w hT H.entries (ent_plain H.inv.ok) ha hn1 hn8 hr
  replace kC : Calls Tryz.prog 31 #[.slice (some ⟨g, 11, none⟩) 16 16, .int .u32 (a : Int), .int .i64 (n : Int), .int .i64 (r : Int)] w fun e w' => e = .returned (.bool (Pm.checkT (Pm.tri 0 (entL s)) a n r)) ∧ Below w.heap.size w w' := kC
  rw [hm] at c0
  replace c0 : w.cell? ⟨g, 0, none⟩ = some (.int .i64 0) := c0
  have he : mayS s a n r = Pm.checkT (Pm.tri 0 (entL s)) a n r := by
    unfold mayS
    rw [if_pos hm, entC_is]
  rw [he]
  generalize Pm.checkT (Pm.tri 0 (entL s)) a n r = res at *
  have hnI : ¬ (n : Int) < 1 := by omega
  clear H hT hm he
  go_enter Tryz.func13, Tryz.ntmps13
  go_wp2_with (go_at_call 31; with_reducible refine kC.mono ?_; rintro e w2 ⟨rfl, hb⟩)
  go_ret
  exact ⟨rfl, hb⟩
/-- more of what package csr answers -/
theorem more_ok (W0 : World) (hT : TabT W0) : CsrMore IsF W0 where
  entries := fun w g s h => entries_any w g s h
  may1 := fun w g s a n r hW h hm ha hn1 hn8 hr => mayU_any w g s a n r (hT.below hW) h hm ha hn1 hn8 hr
end Go.Proofs.YtgpofoggfifnjaaGreatDoor.Ha
namespace Go.Proofs.YtgpofoggfifnjaaGreatDoor.Ha
open Go Go.RowKit
open Go.Proofs.YtgpofoggfifnjaaGreatDoor (RamP stM ldV stB mP)
open Go.Proofs.YtgpofoggfifnjaaGreatDoor.Cs (St IsF Only S1 hP readC rM isK upd dueC trapC tickC)
open Go.Proofs.YtgpofoggfifnjaaGreatDoor.Pm (TabT)

/-- at p lies a hart over the file at g and the memory at gm -/
structure Ht (w : World) (p g gm : Nat) (x : Nat → Nat) (pc : Nat) (s : St) (m : Nat → UInt8) : Prop where
  h : Has w p 48 (tab 35 (hV x pc g (some gm)))
  f : IsF w g s
  r : RamP w gm m
  pg : p ≠ g
  pm : p ≠ gm
  gm : g ≠ gm
  xl : ∀ i, x i < L32
  pl : pc < L32
section
variable {w w' : World} {p g gm pc : Nat} {x : Nat → Nat} {s : St} {m : Nat → UInt8}
theorem Ht.after (H : Ht w p g gm x pc s m) (k : Below w.heap.size w w') : Ht w' p g gm x pc s m := ⟨H.h.after k, H.f.after k, ram_only H.r (Only.of_below (S := fun _ => False) k) (fun h => h), H.pg, H.pm, H.gm, H.xl, H.pl⟩
theorem Ht.setPc (H : Ht w p g gm x pc s m) (q : Nat) (hq : q < L32) : Ht (w.setCell ⟨p, 32, none⟩ (.int .u32 (q : Int))) p g gm x q s m := by
  have k : Only (S1 p) w (w.setCell ⟨p, 32, none⟩ (.int .u32 (q : Int))) := Only.setCell w (a := ⟨p, 32, none⟩) (show S1 p p from rfl) _
  exact ⟨hart_pc H.h q, ⟨k.has H.f.blk (fun e => H.pg e.symm), H.f.inv⟩, ram_only H.r k (fun e => H.pm e.symm), H.pg, H.pm, H.gm, H.xl, hq⟩
theorem Ht.setX (H : Ht w p g gm x pc s m) (k v : Nat) (hk : k < 32) (hv : v < L32) : Ht (w.setCell ⟨p, k, none⟩ (.int .u32 (v : Int))) p g gm (upd x k v) pc s m := by
  have o : Only (S1 p) w (w.setCell ⟨p, k, none⟩ (.int .u32 (v : Int))) := Only.setCell w (a := ⟨p, k, none⟩) (show S1 p p from rfl) _
  refine ⟨hart_x H.h k v hk, ⟨o.has H.f.blk (fun e => H.pg e.symm), H.f.inv⟩, ram_only H.r o (fun e => H.pm e.symm), H.pg, H.pm, H.gm, fun i => ?_, H.pl⟩
  unfold upd
  split
  · exact hv
  · exact H.xl i
/-- the memory has changed -/
theorem Ht.ram (H : Ht w p g gm x pc s m) {m' : Nat → UInt8} (h : RamP w' gm m') (k : w.grownBy w' (some gm)) : Ht w' p g gm x pc s m' := by
  have o : Only (S1 gm) w w' := Only.of_grown k fun l e => by injection e with e; exact e.symm
  exact ⟨o.has H.h H.pm, ⟨o.has H.f.blk H.gm, H.f.inv⟩, h, H.pg, H.pm, H.gm, H.xl, H.pl⟩
theorem Ht.cx (H : Ht w p g gm x pc s m) (i : Nat) (hi : i < 32) : w.cell? ⟨p, i, none⟩ = some (.int .u32 (x i : Int)) := (H.h.cellTab i (by omega)).trans (by rw [hV_x _ _ _ _ _ hi])
theorem Ht.cpc (H : Ht w p g gm x pc s m) : w.cell? ⟨p, 32, none⟩ = some (.int .u32 (pc : Int)) := H.h.cellTab 32 (by decide)
theorem Ht.cg (H : Ht w p g gm x pc s m) : w.cell? ⟨p, 33, none⟩ = some (.pointer (some ⟨g, 0, none⟩)) := H.h.cellTab 33 (by decide)
theorem Ht.cm (H : Ht w p g gm x pc s m) : w.cell? ⟨p, 34, none⟩ = some (.pointer (some ⟨gm, 0, none⟩)) := H.h.cellTab 34 (by decide)
theorem Ht.cmode (H : Ht w p g gm x pc s m) : w.cell? ⟨g, 0, none⟩ = some (.int .i64 (s.mode : Int)) := H.f.blk.cellTab 0 (by decide)
theorem Ht.free (H : Ht w p g gm x pc s m) (i : Nat) : w.frozen? ⟨p, i, none⟩ = false := H.h.free i
end
section
variable {p g gm : Nat} {w w' : World}
theorem sh_p (h : Only (S1 p) w w') : Only (SH p g gm) w w' := h.mono fun _ e => Or.inl e
theorem sh_m (h : w.grownBy w' (some gm)) : Only (SH p g gm) w w' := Only.of_grown h fun l e => by injection e with e; exact Or.inr (Or.inr e.symm)
theorem sh_b (h : Below w.heap.size w w') : Only (SH p g gm) w w' := Only.of_below h
end
/-- no register of the machine may be used in the user's mode -/
theorem priv (s : St) (n : Nat) (h : (readC s n).isSome = true) : n / 256 % 4 = 3 := by
  by_cases h1 : n = 769
  · omega
  by_cases h2 : n = 2816
  · omega
  by_cases h3 : n = 2944
  · omega
  by_cases h4 : n = 2818
  · omega
  by_cases h5 : n = 2946
  · omega
  by_cases h6 : 3857 ≤ n ∧ n ≤ 3860
  · omega
  by_cases h7 : 928 ≤ n ∧ n < 932
  · omega
  unfold readC at h
  rw [if_neg h1, if_neg h2, if_neg h3, if_neg h4, if_neg h5, if_neg h6, if_neg h7] at h
  unfold rM at h
  split at h
  · rename_i hk
    unfold isK at hk
    simp only [Bool.or_eq_true, beq_iff_eq, Bool.and_eq_true, decide_eq_true_eq] at hk
    omega
  · cases h
def mayB (s : St) (n : Nat) : Bool := decide (s.mode = 3) || decide (n / 256 % 4 = 0)
theorem and768 (n : Nat) (h : n < 4294967296) : bits .and .u32 (n : Int) 768 = ((n / 256 % 4 * 256 : Nat) : Int) := by
  rw [show (768 : Int) = ((768 : Nat) : Int) from rfl, u32_and_nat _ _ h (by decide)]
  have e : n &&& 768 = n / 256 % 4 * 256 := by
    rw [show (768 : Nat) = 2 ^ 8 ||| 2 ^ 9 by decide, Nat.and_or_distrib_left, Cs.andB, Cs.andB]
    have h1 : n / 2 ^ 8 % 2 * 2 ^ 8 < 2 ^ 9 := by omega
    have h2 := Nat.two_pow_add_eq_or_of_lt h1 (n / 2 ^ 9 % 2)
    rw [Nat.or_comm, Nat.mul_comm (n / 2 ^ 9 % 2) (2 ^ 9), ← h2]
    omega
  rw [e]
set_option maxRecDepth 100000 in
set_option maxHeartbeats 1000000 in
theorem mayR_any (w : World) (g n : Nat) (s : St) (H : IsF w g s) (hn : n < 4294967296) : Calls Tryz.prog 96 #[hP g, .int .u32 (n : Int)] w fun e w' => e = .returned (.bool (mayB s n)) ∧ w = w' := by
  have c0 : w.cell? ⟨g, 0, none⟩ = some (.int .i64 (s.mode : Int)) := H.blk.cellTab 0 (by decide)
  have ha := and768 n hn
  unfold mayB
  rcases H.inv.ok.mode with hm | hm
  · rw [hm] at c0 ⊢
    replace c0 : w.cell? ⟨g, 0, none⟩ = some (.int .i64 0) := c0
    have hz : (((n / 256 % 4 * 256 : Nat) : Int) == 0) = decide (n / 256 % 4 = 0) := by
      by_cases h : n / 256 % 4 = 0
      · rw [decide_eq_true h, h]; rfl
      · rw [decide_eq_false h]; exact beq_eq_false_iff_ne.2 (by omega)
    generalize decide (n / 256 % 4 = 0) = b at *
    generalize n / 256 % 4 * 256 = v at *
    clear H hm
    go_enter Tryz.func96, Tryz.ntmps96
    go_wp2_with fail
    go_ret
    exact ⟨rfl, rfl⟩
  · rw [hm] at c0 ⊢
    replace c0 : w.cell? ⟨g, 0, none⟩ = some (.int .i64 3) := c0
    clear H hm
    go_enter Tryz.func96, Tryz.ntmps96
    go_wp2_with fail
    go_ret
    exact ⟨rfl, rfl⟩
end Go.Proofs.YtgpofoggfifnjaaGreatDoor.Ha
