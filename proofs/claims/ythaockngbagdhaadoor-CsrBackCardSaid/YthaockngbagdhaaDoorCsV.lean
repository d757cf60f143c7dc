/-
Layer 15: the law's calls that come in.
-/
import Derived.Test.YthaockngbagdhaaDoorCsJ
import Derived.Test.YthaockngbagdhaaDoorPmV
namespace Go.Proofs.YthaockngbagdhaaDoor.Cs
open Go.Joins Go.ChangeShapes Go.WideShapes Go.ChangeAt Go.RowKit Go.Deep
open Go.Proofs.YthaockngbagdhaaDoor.Pm (En Sl SlC SlE enV en0 came_slice came_entry c32 c64 cEn bEn at_one mem_getD)

theorem cCa : Tryd.prog.cellsOf 33 = 5 := by kernel_rfl
theorem bCa : Tryd.prog.bytesOf 33 = 48 := by kernel_rfl
theorem cEs : Tryd.prog.cellsOf 31 = 1 := by kernel_rfl
section
variable {H : Type} {enc : TypeId × Value → H} {W : World} {n : Nat} {cs : List Value} {d : DataW H} {p : List MemPlace}
/-- a slice of entries inside something -/
theorem came_row15 (h : DataW.trod enc Tryd.prog W 0 (fun _ => true) true n 31 cs = some (d, p)) (hw : ∀ n ∈ d.weights Tryd.prog 31, n ≤ reachBytes) : ∃ (s : Sl) (l : List En), cs = [s.v] ∧ SlE W s l := by
  obtain ⟨s, l, hcs, hl, hC, hG⟩ := came_slice en0 3 24 cEn (by decide) Tryd.underlying31 bEn (by decide) enV En.Wf h hw (fun _ _ _ _ ht _ => came_entry ht)
  exact ⟨s, l, hcs, hl, hC, mem_getD hl hG⟩
theorem came_call (h : DataW.trod enc Tryd.prog W 0 (fun _ => true) true n 33 cs = some (d, p)) (hw : ∀ n ∈ d.weights Tryd.prog 33, n ≤ reachBytes) :
    ∃ a : Ca × Sl, (SlE W a.2 a.1.l ∧ a.1.Wf) ∧ ∀ k, k < 5 → cs[k]? = some (caV a.1 a.2 k) := by
  obtain ⟨xs, m, _, hx, hl, hlen, hf⟩ := DataW.trod_struct Tryd.underlying33 h
  match xs, hlen with
  | [y0, y1, y2, y3, y4], _ =>
    have h0 : DataW.trod enc Tryd.prog W 0 (fun _ => true) true m 3 ((cs.drop 0).take (Tryd.prog.cellsOf 3)) = some y0 := hf 0 _ rfl
    have h1 : DataW.trod enc Tryd.prog W 0 (fun _ => true) true m 23 ((cs.drop 1).take (Tryd.prog.cellsOf 23)) = some y1 := hf 1 _ rfl
    have h2 : DataW.trod enc Tryd.prog W 0 (fun _ => true) true m 23 ((cs.drop 2).take (Tryd.prog.cellsOf 23)) = some y2 := hf 2 _ rfl
    have h3 : DataW.trod enc Tryd.prog W 0 (fun _ => true) true m 23 ((cs.drop 3).take (Tryd.prog.cellsOf 23)) = some y3 := hf 3 _ rfl
    have h4 : DataW.trod enc Tryd.prog W 0 (fun _ => true) true m 31 ((cs.drop 4).take (Tryd.prog.cellsOf 31)) = some y4 := hf 4 _ rfl
    rw [c64] at h0
    rw [c32] at h1 h2 h3
    rw [cEs] at h4
    obtain ⟨z0, e0, _, w0⟩ := DataW.trod_int Tryd.underlying3 h0
    obtain ⟨z1, e1, _, w1⟩ := DataW.trod_int Tryd.underlying23 h1
    obtain ⟨z2, e2, _, w2⟩ := DataW.trod_int Tryd.underlying23 h2
    obtain ⟨z3, e3, _, w3⟩ := DataW.trod_int Tryd.underlying23 h3
    obtain ⟨u1, rfl, hu1⟩ := wf_u32 w1
    obtain ⟨u2, rfl, hu2⟩ := wf_u32 w2
    obtain ⟨u3, rfl, hu3⟩ := wf_u32 w3
    have hd : d = .agg [y0.1, y1.1, y2.1, y3.1, y4.1] := congrArg Prod.fst hx
    subst hd
    obtain ⟨s, b, e4, hS⟩ := came_row15 (d := y4.1) (p := y4.2) h4 (fun k hk => hw k (by
      simp only [DataW.weights, Tryd.underlying33]
      exact DataW.weights_mem_each (j := 4) rfl rfl k hk))
    refine ⟨(⟨z0, u1, u2, u3, b⟩, s), ⟨hS, ⟨hu1, hu2, hu3⟩⟩, fun k hk => ?_⟩
    match k, hk with
    | 0, _ => exact at_one e0
    | 1, _ => exact at_one e1
    | 2, _ => exact at_one e2
    | 3, _ => exact at_one e3
    | 4, _ => exact at_one e4
/-- calls of the law that arrive -/
theorem came_calls {a : Option Addr} {len cap : Nat} (h : DataW.Trod enc Tryd.prog W 0 (fun _ => true) true 22 (.slice a len cap) d p) (hw : ∀ n ∈ d.weights Tryd.prog 22, n ≤ reachBytes) : ∃ ps T, SlCa W ⟨a, len, cap⟩ ps T := by
  obtain ⟨fuel, hf⟩ := h
  obtain ⟨s, l, e, hl, hC, hG⟩ := came_slice (ca0, (⟨none, 0, 0⟩ : Sl)) 5 48 cCa (by decide) Tryd.underlying22 bCa (by decide) (fun a => caV a.1 a.2) (fun a => SlE W a.2 a.1.l ∧ a.1.Wf) hf hw (fun _ _ _ _ ht hw => came_call ht hw)
  obtain ⟨A, m, c⟩ := s
  simp [Value.cells, Sl.v] at e
  obtain ⟨rfl, rfl, rfl⟩ := e
  have hmap : ∀ j, j < len → (l.map Prod.fst).getD j ca0 = (l.getD j (ca0, ⟨none, 0, 0⟩)).1 := fun j hj => by
    have hj : j < l.length := by rw [hl]; exact hj
    simp [List.getD_eq_getElem?_getD, hj]
  refine ⟨l.map Prod.fst, fun j => (l.getD j (ca0, ⟨none, 0, 0⟩)).2, by simpa using hl, hC.ext fun j i hj hi => ?_, fun j hj => ?_⟩
  · dsimp only
    rw [hmap j hj]
  · replace hj : j < len := hj
    dsimp only
    rw [hmap j hj]
    exact hG j hj
end
end Go.Proofs.YthaockngbagdhaaDoor.Cs
