/-
Layer 10, PlaceLoads: what comes in.
-/
import Derived.Test.YtdifapdppdcidaaPlL
import Derived.Test.YtdifapdppdcidaaPlQ
namespace Go.Proofs.Ytdifapdppdcidaa
open Go.Joins Go.ChangeShapes Go.WideShapes Go.ChangeAt Go.RowKit Go.Deep

theorem cSx : Try.prog.cellsOf 55 = 4 := by kernel_rfl
theorem bSx : Try.prog.bytesOf 55 = 48 := by kernel_rfl
section
variable {H : Type} {enc : TypeId × Value → H} {W : World} {n : Nat} {cs : List Value} {d : DataW H} {p : List MemPlace}
theorem came_seg (h : DataW.trod enc Try.prog W 0 (fun _ => true) true n 55 cs = some (d, p)) (hw : ∀ n ∈ d.weights Try.prog 55, n ≤ reachBytes) :
    ∃ a : Sx × Sl, (SlY W a.2 a.1.b ∧ (a.2.A = none → a.2.c = 0) ∧ a.1.Wf) ∧ ∀ k, k < 4 → cs[k]? = some (sxV a.1 a.2 k) := by
  obtain ⟨xs, m, _, hx, hl, hlen, hf⟩ := DataW.trod_struct Try.underlying55 h
  match xs, hlen with
  | [y0, y1, y2, y3], _ =>
    have h0 : DataW.trod enc Try.prog W 0 (fun _ => true) true m 24 ((cs.drop 0).take (Try.prog.cellsOf 24)) = some y0 := hf 0 _ rfl
    have h1 : DataW.trod enc Try.prog W 0 (fun _ => true) true m 25 ((cs.drop 1).take (Try.prog.cellsOf 25)) = some y1 := hf 1 _ rfl
    have h2 : DataW.trod enc Try.prog W 0 (fun _ => true) true m 24 ((cs.drop 2).take (Try.prog.cellsOf 24)) = some y2 := hf 2 _ rfl
    have h3 : DataW.trod enc Try.prog W 0 (fun _ => true) true m 3 ((cs.drop 3).take (Try.prog.cellsOf 3)) = some y3 := hf 3 _ rfl
    rw [c32] at h0 h2
    rw [cBs10] at h1
    rw [c64] at h3
    obtain ⟨z0, e0, _, w0⟩ := DataW.trod_int Try.underlying24 h0
    obtain ⟨z2, e2, _, w2⟩ := DataW.trod_int Try.underlying24 h2
    obtain ⟨z3, e3, _, w3⟩ := DataW.trod_int Try.underlying3 h3
    obtain ⟨u, rfl, hu⟩ := wf_u32 w0
    obtain ⟨v, rfl, hv⟩ := wf_u32 w2
    have hd : d = .agg [y0.1, y1.1, y2.1, y3.1] := congrArg Prod.fst hx
    subst hd
    obtain ⟨s, b, e1, hS, hnil, hbl⟩ := came_row10 (d := y1.1) (p := y1.2) h1 (fun k hk => hw k (by
      simp only [DataW.weights, Try.underlying55]
      exact DataW.weights_mem_each (j := 1) rfl rfl k hk))
    refine ⟨(⟨u, b, v, z3⟩, s), ⟨hS, hnil, ⟨hu, hv, hbl⟩⟩, fun k hk => ?_⟩
    match k, hk with
    | 0, _ => exact at_one e0
    | 1, _ => exact at_one e1
    | 2, _ => exact at_one e2
    | 3, _ => exact at_one e3
/-- segments that came in -/
theorem came_segs {a : Option Addr} {len cap : Nat} (h : DataW.Trod enc Try.prog W 0 (fun _ => true) true 49 (.slice a len cap) d p) (hw : ∀ n ∈ d.weights Try.prog 49, n ≤ reachBytes) : ∃ ps T, SlX W ⟨a, len, cap⟩ ps T := by
  obtain ⟨fuel, hf⟩ := h
  obtain ⟨s, l, e, hl, hC, hG⟩ := came_slice (sx0, (⟨none, 0, 0⟩ : Sl)) 4 48 cSx (by decide) Try.underlying49 bSx (by decide) (fun a => sxV a.1 a.2) (fun a => SlY W a.2 a.1.b ∧ (a.2.A = none → a.2.c = 0) ∧ a.1.Wf) hf hw (fun _ _ _ _ ht hw => came_seg ht hw)
  obtain ⟨A, m, c, rfl⟩ := s.out
  simp [Value.cells, Sl.v] at e
  obtain ⟨rfl, rfl, rfl⟩ := e
  have hmap : ∀ j, j < len → (l.map Prod.fst).getD j sx0 = (l.getD j (sx0, ⟨none, 0, 0⟩)).1 := fun j hj => by
    have hj : j < l.length := by rw [hl]; exact hj
    simp [List.getD_eq_getElem?_getD, hj]
  refine ⟨l.map Prod.fst, fun j => (l.getD j (sx0, ⟨none, 0, 0⟩)).2, by simpa using hl, hC.ext fun j i hj hi => ?_, fun j hj => ?_⟩
  · dsimp only
    rw [hmap j hj]
  · replace hj : j < len := hj
    dsimp only
    rw [hmap j hj]
    exact hG j hj
/-- a payload that came in: its bias -/
theorem came_bias {base : Nat} {v : Value} (hv : Value.okWide Try.prog W .any base 53 v) (h : DataW.Trod enc Try.prog W 0 (fun _ => true) true 53 v d p) :
    ∃ (cs : Array Value) (bias : Nat), v = .agg cs ∧ cs[33]? = some (.int .u32 (bias : Int)) ∧ bias < 4294967296 := by
  obtain ⟨cs, rfl, hsz, _⟩ : ∃ cs, v = .agg cs ∧ cs.size = Try.prog.cellsOf 53 ∧ Row.okWide Try.prog W .any base 53 cs := by simpa [Value.okWide, Try.underlying53] using hv
  obtain ⟨fuel, hf⟩ := h
  obtain ⟨xs, m, _, hx, hl, hlen, hfl⟩ := DataW.trod_struct Try.underlying53 hf
  match xs, hlen with
  | [y0, y1, y2, y3, y4], _ =>
    have h2 : DataW.trod enc Try.prog W 0 (fun _ => true) true m 24 ((cs.toList.drop 33).take (Try.prog.cellsOf 24)) = some y2 := hfl 2 _ rfl
    rw [c32] at h2
    obtain ⟨z2, e2, _, w2⟩ := DataW.trod_int Try.underlying24 h2
    obtain ⟨u, rfl, hu⟩ := wf_u32 w2
    refine ⟨cs, u, rfl, ?_, hu⟩
    rw [← Array.getElem?_toList]
    exact at_one e2
end
theorem wf_u8 {z : Int} (h : (Lit.int .u8 z).wf = true) : ∃ y : UInt8, z = (y.toNat : Int) := by
  have h2 : 0 ≤ z ∧ z ≤ 255 := by simpa [Lit.wf, IntKind.min, IntKind.max, IntKind.signed, IntKind.bits] using h
  refine ⟨UInt8.ofNat z.toNat, ?_⟩
  rw [UInt8.toNat_ofNat']
  omega
end Go.Proofs.Ytdifapdppdcidaa
