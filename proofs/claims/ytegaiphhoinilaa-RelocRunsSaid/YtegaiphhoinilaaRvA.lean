/-
Layer 13: what comes in: a job.
-/
import Derived.Test.YtegaiphhoinilaaRlH
import Derived.Test.YtegaiphhoinilaaJMf
namespace Go.Proofs.Ytegaiphhoinilaa.Rc
open Go.Joins Go.ChangeShapes Go.WideShapes Go.ChangeAt Go.RowKit Go.Deep

theorem cRe : Try.prog.cellsOf 43 = 4 := by kernel_rfl
theorem bRe : Try.prog.bytesOf 43 = 32 := by kernel_rfl
theorem bU4 : Try.prog.bytesOf 24 = 4 := by kernel_rfl
theorem cJo : Try.prog.cellsOf 26 = 5 := by kernel_rfl
theorem cSu : Try.prog.cellsOf 22 = 1 := by kernel_rfl
theorem cSr : Try.prog.cellsOf 23 = 1 := by kernel_rfl
section
variable {H : Type} {enc : TypeId × Value → H} {W : World} {n : Nat} {cs : List Value} {d : DataW H} {p : List MemPlace}
set_option maxRecDepth 100000 in
theorem came_u32 (h : DataW.trod enc Try.prog W 0 (fun _ => true) true n 24 cs = some (d, p)) : ∃ x : Nat, x < 4294967296 ∧ cs = [.int .u32 (x : Int)] := by
  obtain ⟨z, e, _, w⟩ := DataW.trod_int Try.underlying24 h
  obtain ⟨x, rfl, hx⟩ := wf_u32 w
  exact ⟨x, hx, e⟩
set_option maxRecDepth 100000 in
theorem came_i64 (h : DataW.trod enc Try.prog W 0 (fun _ => true) true n 3 cs = some (d, p)) : ∃ x : Int, i64ok x ∧ cs = [.int .i64 x] := by
  obtain ⟨z, e, _, w⟩ := DataW.trod_int Try.underlying3 h
  exact ⟨z, wf_i64 w, e⟩
set_option maxRecDepth 100000 in
theorem came_re (h : DataW.trod enc Try.prog W 0 (fun _ => true) true n 43 cs = some (d, p)) : ∃ r : Re, r.Wf ∧ ∀ k, k < 4 → cs[k]? = some (reE r k) := by
  obtain ⟨xs, m, _, hx, hl, hlen, hfl⟩ := DataW.trod_struct Try.underlying43 h
  match xs, hlen with
  | [y0, y1, y2, y3], _ =>
    have h0 : DataW.trod enc Try.prog W 0 (fun _ => true) true m 24 ((cs.drop 0).take (Try.prog.cellsOf 24)) = some y0 := hfl 0 _ rfl
    have h1 : DataW.trod enc Try.prog W 0 (fun _ => true) true m 3 ((cs.drop 1).take (Try.prog.cellsOf 3)) = some y1 := hfl 1 _ rfl
    have h2 : DataW.trod enc Try.prog W 0 (fun _ => true) true m 3 ((cs.drop 2).take (Try.prog.cellsOf 3)) = some y2 := hfl 2 _ rfl
    have h3 : DataW.trod enc Try.prog W 0 (fun _ => true) true m 24 ((cs.drop 3).take (Try.prog.cellsOf 24)) = some y3 := hfl 3 _ rfl
    rw [c32] at h0 h3
    rw [c64] at h1 h2
    obtain ⟨x0, l0, e0⟩ := came_u32 (d := y0.1) (p := y0.2) h0
    obtain ⟨x1, l1, e1⟩ := came_i64 (d := y1.1) (p := y1.2) h1
    obtain ⟨x2, l2, e2⟩ := came_i64 (d := y2.1) (p := y2.2) h2
    obtain ⟨x3, l3, e3⟩ := came_u32 (d := y3.1) (p := y3.2) h3
    refine ⟨⟨x0, x1, x2, x3⟩, ⟨l0, l1, l2, l3⟩, fun k hk => ?_⟩
    match k, hk with
    | 0, _ => exact at_one e0
    | 1, _ => exact at_one e1
    | 2, _ => exact at_one e2
    | 3, _ => exact at_one e3
theorem mem_getD {α : Type} {l : List α} {z x : α} (h : x ∈ l) : ∃ j, j < l.length ∧ l.getD j z = x := by
  obtain ⟨j, hj, e⟩ := List.getElem_of_mem h
  exact ⟨j, hj, by simp [List.getD_eq_getElem?_getD, hj, e]⟩
set_option maxRecDepth 100000 in
theorem came_sys (h : DataW.trod enc Try.prog W 0 (fun _ => true) true n 22 cs = some (d, p)) (hw : ∀ n ∈ d.weights Try.prog 22, n ≤ reachBytes) : ∃ (s : Sl) (l : List Nat), cs = [s.v] ∧ SlN W s l := by
  obtain ⟨s, l, e, hl, hC, hG⟩ := came_slice (0 : Nat) 1 4 c32 (by decide) Try.underlying22 bU4 (by decide) (fun (x : Nat) _ => Value.int .u32 (x : Int)) (fun x => x < 4294967296) h hw (fun _ _ _ _ ht _ => by
    obtain ⟨x, hx, rfl⟩ := came_u32 ht
    refine ⟨x, hx, fun k hk => ?_⟩
    obtain rfl : k = 0 := by omega
    rfl)
  exact ⟨s, l, e, hl, fun q hq => by obtain ⟨j, hj, rfl⟩ := mem_getD (z := 0) hq; exact hG j (by omega), hC⟩
set_option maxRecDepth 100000 in
theorem came_rls (h : DataW.trod enc Try.prog W 0 (fun _ => true) true n 23 cs = some (d, p)) (hw : ∀ n ∈ d.weights Try.prog 23, n ≤ reachBytes) : ∃ (s : Sl) (l : List Re), cs = [s.v] ∧ SlR W s l := by
  obtain ⟨s, l, e, hl, hC, hG⟩ := came_slice re0 4 32 cRe (by decide) Try.underlying23 bRe (by decide) reE Re.Wf h hw (fun _ _ _ _ ht _ => came_re ht)
  exact ⟨s, l, e, hl, fun q hq => by obtain ⟨j, hj, rfl⟩ := mem_getD (z := re0) hq; exact hG j (by omega), hC⟩
set_option maxRecDepth 100000 in
/-- a job that came in -/
theorem came_job {base : Nat} {v : Value} (hv : Value.okWide Try.prog W .any base 26 v) (h : DataW.Trod enc Try.prog W 0 (fun _ => true) true 26 v d p) (hw : ∀ n ∈ d.weights Try.prog 26, n ≤ reachBytes) :
    ∃ ws sy rl more split xs ss rs, v = .agg (jC ws sy rl more split) ∧ SlN W ws xs ∧ SlN W sy ss ∧ SlR W rl rs ∧ more < 4294967296 ∧ i64ok split := by
  obtain ⟨cs, rfl, hsz, _⟩ : ∃ cs, v = .agg cs ∧ cs.size = Try.prog.cellsOf 26 ∧ Row.okWide Try.prog W .any base 26 cs := by simpa [Value.okWide, Try.underlying26] using hv
  rw [cJo] at hsz
  obtain ⟨fuel, hf⟩ := h
  obtain ⟨xs, m, _, hx, hl, hlen, hfl⟩ := DataW.trod_struct Try.underlying26 hf
  match xs, hlen with
  | [y0, y1, y2, y3, y4], _ =>
    have h0 : DataW.trod enc Try.prog W 0 (fun _ => true) true m 22 ((cs.toList.drop 0).take (Try.prog.cellsOf 22)) = some y0 := hfl 0 _ rfl
    have h1 : DataW.trod enc Try.prog W 0 (fun _ => true) true m 22 ((cs.toList.drop 1).take (Try.prog.cellsOf 22)) = some y1 := hfl 1 _ rfl
    have h2 : DataW.trod enc Try.prog W 0 (fun _ => true) true m 23 ((cs.toList.drop 2).take (Try.prog.cellsOf 23)) = some y2 := hfl 2 _ rfl
    have h3 : DataW.trod enc Try.prog W 0 (fun _ => true) true m 24 ((cs.toList.drop 3).take (Try.prog.cellsOf 24)) = some y3 := hfl 3 _ rfl
    have h4 : DataW.trod enc Try.prog W 0 (fun _ => true) true m 3 ((cs.toList.drop 4).take (Try.prog.cellsOf 3)) = some y4 := hfl 4 _ rfl
    rw [cSu] at h0 h1
    rw [cSr] at h2
    rw [c32] at h3
    rw [c64] at h4
    have hd : d = .agg [y0.1, y1.1, y2.1, y3.1, y4.1] := congrArg Prod.fst hx
    subst hd
    have hwj : ∀ (j : Nat) (tt : TypeId) (dd : DataW H), (([22, 22, 23, 24, 3] : List TypeId)[j]? = some tt) → ([y0.1, y1.1, y2.1, y3.1, y4.1][j]? = some dd) → ∀ k ∈ dd.weights Try.prog tt, k ≤ reachBytes := fun j tt dd e1 e2 k hk => hw k (by
      simp only [DataW.weights, Try.underlying26]
      exact DataW.weights_mem_each (j := j) e1 e2 k hk)
    obtain ⟨ws, xs', e0, hT⟩ := came_sys (d := y0.1) (p := y0.2) h0 (hwj 0 _ _ rfl rfl)
    obtain ⟨sy, ss, e1, hY⟩ := came_sys (d := y1.1) (p := y1.2) h1 (hwj 1 _ _ rfl rfl)
    obtain ⟨rl, rs, e2, hR⟩ := came_rls (d := y2.1) (p := y2.2) h2 (hwj 2 _ _ rfl rfl)
    obtain ⟨more, hm, e3⟩ := came_u32 (d := y3.1) (p := y3.2) h3
    obtain ⟨split, hs, e4⟩ := came_i64 (d := y4.1) (p := y4.2) h4
    refine ⟨ws, sy, rl, more, split, xs', ss, rs, ?_, hT, hY, hR, hm, hs⟩
    congr 1
    apply Array.ext_getElem?
    intro i
    by_cases hi : i < 5
    · rw [← Array.getElem?_toList]
      match i, hi with
      | 0, _ => exact at_one e0
      | 1, _ => exact at_one e1
      | 2, _ => exact at_one e2
      | 3, _ => exact at_one e3
      | 4, _ => exact at_one e4
    · rw [Array.getElem?_eq_none (by omega), Array.getElem?_eq_none (by show 5 ≤ i; omega)]
end
end Go.Proofs.Ytegaiphhoinilaa.Rc
