/-
Layer 9: what comes in: a Tabled.
-/
import Derived.Test.YtfdoloonllhodaaJDyH
import Derived.Test.YtfdoloonllhodaaJMfP
namespace Go.Proofs.Ytfdoloonllhodaa
open Go.Joins Go.ChangeShapes Go.WideShapes Go.ChangeAt Go.RowKit Go.Deep

theorem cP2 : Try.prog.cellsOf 48 = 2 := by kernel_rfl
theorem cT3 : Try.prog.cellsOf 33 = 3 := by kernel_rfl
theorem bP2 : Try.prog.bytesOf 48 = 8 := by kernel_rfl
theorem bT3 : Try.prog.bytesOf 33 = 12 := by kernel_rfl
theorem bU4 : Try.prog.bytesOf 32 = 4 := by kernel_rfl
theorem cTb : Try.prog.cellsOf 27 = 5 := by kernel_rfl
theorem cSp : Try.prog.cellsOf 23 = 1 := by kernel_rfl
theorem cSu : Try.prog.cellsOf 24 = 1 := by kernel_rfl
theorem cSt : Try.prog.cellsOf 25 = 1 := by kernel_rfl
theorem cBo : Try.prog.cellsOf 4 = 1 := by kernel_rfl
section
variable {H : Type} {enc : TypeId × Value → H} {W : World} {n : Nat} {cs : List Value} {d : DataW H} {p : List MemPlace}
set_option maxRecDepth 100000 in
theorem came_u32 (h : DataW.trod enc Try.prog W 0 (fun _ => true) true n 32 cs = some (d, p)) : ∃ x : Nat, x < 4294967296 ∧ cs = [.int .u32 (x : Int)] := by
  obtain ⟨z, e, _, w⟩ := DataW.trod_int Try.underlying32 h
  obtain ⟨x, rfl, hx⟩ := wf_u32 w
  exact ⟨x, hx, e⟩
set_option maxRecDepth 100000 in
theorem came_p2 (h : DataW.trod enc Try.prog W 0 (fun _ => true) true n 48 cs = some (d, p)) : ∃ a : Nat × Nat, P32 a ∧ ∀ k, k < 2 → cs[k]? = some (tgV a k) := by
  obtain ⟨xs, m, _, _, _, hxl, hel⟩ := DataW.trod_array Try.underlying48 h
  have hi : ∀ j, j < 2 → ∃ x : Nat, x < 4294967296 ∧ cs[j]? = some (.int .u32 (x : Int)) := fun j hj => by
    have h1 := hel j hj
    rw [c32, List.getElem?_eq_getElem (by omega)] at h1
    obtain ⟨x, hx, e⟩ := came_u32 h1
    exact ⟨x, hx, at_one (o := j) (by rw [Nat.mul_one] at e; exact e)⟩
  obtain ⟨x0, l0, e0⟩ := hi 0 (by decide)
  obtain ⟨x1, l1, e1⟩ := hi 1 (by decide)
  refine ⟨(x0, x1), ⟨l0, l1⟩, fun k hk => ?_⟩
  match k, hk with
  | 0, _ => exact e0
  | 1, _ => exact e1
set_option maxRecDepth 100000 in
theorem came_t3 (h : DataW.trod enc Try.prog W 0 (fun _ => true) true n 33 cs = some (d, p)) : ∃ a : Nat × Nat × Nat, T32 a ∧ ∀ k, k < 3 → cs[k]? = some (r3V a k) := by
  obtain ⟨xs, m, _, _, _, hxl, hel⟩ := DataW.trod_array Try.underlying33 h
  have hi : ∀ j, j < 3 → ∃ x : Nat, x < 4294967296 ∧ cs[j]? = some (.int .u32 (x : Int)) := fun j hj => by
    have h1 := hel j hj
    rw [c32, List.getElem?_eq_getElem (by omega)] at h1
    obtain ⟨x, hx, e⟩ := came_u32 h1
    exact ⟨x, hx, at_one (o := j) (by rw [Nat.mul_one] at e; exact e)⟩
  obtain ⟨x0, l0, e0⟩ := hi 0 (by decide)
  obtain ⟨x1, l1, e1⟩ := hi 1 (by decide)
  obtain ⟨x2, l2, e2⟩ := hi 2 (by decide)
  refine ⟨(x0, x1, x2), ⟨l0, l1, l2⟩, fun k hk => ?_⟩
  match k, hk with
  | 0, _ => exact e0
  | 1, _ => exact e1
  | 2, _ => exact e2
theorem mem_getD {α : Type} {l : List α} {z x : α} (h : x ∈ l) : ∃ j, j < l.length ∧ l.getD j z = x := by
  obtain ⟨j, hj, e⟩ := List.getElem_of_mem h
  exact ⟨j, hj, by simp [List.getD_eq_getElem?_getD, hj, e]⟩
set_option maxRecDepth 100000 in
theorem came_tgs (h : DataW.trod enc Try.prog W 0 (fun _ => true) true n 23 cs = some (d, p)) (hw : ∀ n ∈ d.weights Try.prog 23, n ≤ reachBytes) : ∃ (s : Sl) (l : List (Nat × Nat)), cs = [s.v] ∧ SlTg W s l := by
  obtain ⟨s, l, e, hl, hC, hG⟩ := came_slice ((0, 0) : Nat × Nat) 2 8 cP2 (by decide) Try.underlying23 bP2 (by decide) tgV P32 h hw (fun _ _ _ _ ht _ => came_p2 ht)
  exact ⟨s, l, e, hl, hC, fun q hq => by obtain ⟨j, hj, rfl⟩ := mem_getD (z := (0, 0)) hq; exact hG j (by omega)⟩
set_option maxRecDepth 100000 in
theorem came_rls (h : DataW.trod enc Try.prog W 0 (fun _ => true) true n 25 cs = some (d, p)) (hw : ∀ n ∈ d.weights Try.prog 25, n ≤ reachBytes) : ∃ (s : Sl) (l : List (Nat × Nat × Nat)), cs = [s.v] ∧ SlT3 W s l := by
  obtain ⟨s, l, e, hl, hC, hG⟩ := came_slice ((0, 0, 0) : Nat × Nat × Nat) 3 12 cT3 (by decide) Try.underlying25 bT3 (by decide) r3V T32 h hw (fun _ _ _ _ ht _ => came_t3 ht)
  exact ⟨s, l, e, hl, hC, fun q hq => by obtain ⟨j, hj, rfl⟩ := mem_getD (z := (0, 0, 0)) hq; exact hG j (by omega)⟩
set_option maxRecDepth 100000 in
theorem came_sys (h : DataW.trod enc Try.prog W 0 (fun _ => true) true n 24 cs = some (d, p)) (hw : ∀ n ∈ d.weights Try.prog 24, n ≤ reachBytes) : ∃ (s : Sl) (l : List Nat), cs = [s.v] ∧ SlU W s l ∧ ∀ v ∈ l, v < 4294967296 := by
  obtain ⟨s, l, e, hl, hC, hG⟩ := came_slice (0 : Nat) 1 4 c32 (by decide) Try.underlying24 bU4 (by decide) u4 (fun x => x < 4294967296) h hw (fun _ _ _ _ ht _ => by
    obtain ⟨x, hx, rfl⟩ := came_u32 ht
    refine ⟨x, hx, fun k hk => ?_⟩
    obtain rfl : k = 0 := by omega
    rfl)
  exact ⟨s, l, e, ⟨hl, hC⟩, fun q hq => by obtain ⟨j, hj, rfl⟩ := mem_getD (z := 0) hq; exact hG j (by omega)⟩
set_option maxRecDepth 100000 in
/-- a Tabled that came in -/
theorem came_tab {base : Nat} {v : Value} (hv : Value.okWide Try.prog W .any base 27 v) (h : DataW.Trod enc Try.prog W 0 (fun _ => true) true 27 v d p) (hw : ∀ n ∈ d.weights Try.prog 27, n ≤ reachBytes) :
    ∃ t y r tg sy rl m pl, v = .agg (tbC t y r m pl) ∧ SlTg W t tg ∧ SlU W y sy ∧ (∀ v ∈ sy, v < 4294967296) ∧ SlT3 W r rl ∧ -9223372036854775808 ≤ m ∧ m < 9223372036854775808 := by
  obtain ⟨cs, rfl, hsz, _⟩ : ∃ cs, v = .agg cs ∧ cs.size = Try.prog.cellsOf 27 ∧ Row.okWide Try.prog W .any base 27 cs := by simpa [Value.okWide, Try.underlying27] using hv
  rw [cTb] at hsz
  obtain ⟨fuel, hf⟩ := h
  obtain ⟨xs, m, _, hx, hl, hlen, hfl⟩ := DataW.trod_struct Try.underlying27 hf
  match xs, hlen with
  | [y0, y1, y2, y3, y4], _ =>
    have h0 : DataW.trod enc Try.prog W 0 (fun _ => true) true m 23 ((cs.toList.drop 0).take (Try.prog.cellsOf 23)) = some y0 := hfl 0 _ rfl
    have h1 : DataW.trod enc Try.prog W 0 (fun _ => true) true m 24 ((cs.toList.drop 1).take (Try.prog.cellsOf 24)) = some y1 := hfl 1 _ rfl
    have h2 : DataW.trod enc Try.prog W 0 (fun _ => true) true m 25 ((cs.toList.drop 2).take (Try.prog.cellsOf 25)) = some y2 := hfl 2 _ rfl
    have h3 : DataW.trod enc Try.prog W 0 (fun _ => true) true m 3 ((cs.toList.drop 3).take (Try.prog.cellsOf 3)) = some y3 := hfl 3 _ rfl
    have h4 : DataW.trod enc Try.prog W 0 (fun _ => true) true m 4 ((cs.toList.drop 4).take (Try.prog.cellsOf 4)) = some y4 := hfl 4 _ rfl
    rw [cSp] at h0
    rw [cSu] at h1
    rw [cSt] at h2
    rw [c64] at h3
    rw [cBo] at h4
    have hd : d = .agg [y0.1, y1.1, y2.1, y3.1, y4.1] := congrArg Prod.fst hx
    subst hd
    have hwj : ∀ (j : Nat) (tt : TypeId) (dd : DataW H), (([23, 24, 25, 3, 4] : List TypeId)[j]? = some tt) → ([y0.1, y1.1, y2.1, y3.1, y4.1][j]? = some dd) → ∀ k ∈ dd.weights Try.prog tt, k ≤ reachBytes := fun j tt dd e1 e2 k hk => hw k (by
      simp only [DataW.weights, Try.underlying27]
      exact DataW.weights_mem_each (j := j) e1 e2 k hk)
    obtain ⟨t, tg, e0, hT⟩ := came_tgs (d := y0.1) (p := y0.2) h0 (hwj 0 _ _ rfl rfl)
    obtain ⟨y, sy, e1, hY, hYF⟩ := came_sys (d := y1.1) (p := y1.2) h1 (hwj 1 _ _ rfl rfl)
    obtain ⟨r, rl, e2, hR⟩ := came_rls (d := y2.1) (p := y2.2) h2 (hwj 2 _ _ rfl rfl)
    obtain ⟨z3, e3, _, w3⟩ := DataW.trod_int Try.underlying3 h3
    obtain ⟨pl, e4, _⟩ := DataW.trod_bool Try.underlying4 h4
    have hz := wf_i64 w3
    refine ⟨t, y, r, tg, sy, rl, z3, pl, ?_, hT, hY, hYF, hR, hz.1, by have := hz.2; omega⟩
    congr 1
    apply Array.ext_getElem?
    intro i
    by_cases hi : i < 5
    · rw [← Array.getElem?_toList]
      match i, hi with
      | 0, _ => exact at_one e0
      | 1, _ => exact at_one e1
      | 2, _ => exact at_one e2
      | 3, _ => exact at_one e3
      | 4, _ => exact at_one e4
    · rw [Array.getElem?_eq_none (by omega), Array.getElem?_eq_none (by show 5 ≤ i; omega)]
end
end Go.Proofs.Ytfdoloonllhodaa
