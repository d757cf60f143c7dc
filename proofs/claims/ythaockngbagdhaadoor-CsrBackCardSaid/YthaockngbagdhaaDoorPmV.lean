/-
Layer 12: slices of grants and of entries that come in; an entry that comes in.
-/
import Derived.Test.YthaockngbagdhaaDoorRwA
import Derived.Test.YthaockngbagdhaaDoorOpA
import Derived.Deep.Strs
import Derived.Deep.Slices
import Derived.Deep.Fields
import Derived.Lib.SmallJoins
import Derived.SizedLaws
namespace Go.Proofs.YthaockngbagdhaaDoor.Pm
open Go.Joins Go.ChangeShapes Go.WideShapes Go.ChangeAt Go.RowKit Go.Deep

theorem pick {α : Type} (n : Nat) (Q : Nat → α → Prop) (z : α) (h : ∀ i, i < n → ∃ a, Q i a) : ∃ l : List α, l.length = n ∧ ∀ i, i < n → Q i (l.getD i z) := by
  induction n with
  | zero => exact ⟨[], rfl, fun i hi => by omega⟩
  | succ n ih =>
    obtain ⟨l, hl, hq⟩ := ih fun i hi => h i (by omega)
    obtain ⟨a, ha⟩ := h n (by omega)
    refine ⟨l ++ [a], by simp [hl], fun i hi => ?_⟩
    by_cases h1 : i < n
    · have e : (l ++ [a]).getD i z = l.getD i z := by
        simp only [List.getD_eq_getElem?_getD, List.getElem?_append_left (show i < l.length by omega)]
      rw [e]
      exact hq i h1
    · obtain rfl : i = n := by omega
      have e : (l ++ [a]).getD i z = a := by
        subst hl
        simp [List.getD_eq_getElem?_getD]
      rw [e]
      exact ha
theorem weights_all {H : Type} {P : Program} {e : TypeId} {d : DataW H} : ∀ {l : List (DataW H)}, d ∈ l → ∀ n ∈ d.weights P e, n ∈ DataW.weightsAll P e l
  | [], h, _, _ => by cases h
  | x :: l, h, n, hn => by
    simp only [DataW.weightsAll, List.mem_append]
    rcases List.mem_cons.1 h with rfl | h
    · exact .inl hn
    · exact .inr (weights_all h n hn)
/-- a slice of things of C cells each -/
theorem came_slice {H : Type} {enc : TypeId × Value → H} {P : Program} {W : World} {t e : TypeId} {fuel : Nat} {cs : List Value} {y : DataW H × List MemPlace} {α : Type} (z : α) (C B : Nat) (hC : P.cellsOf e = C) (h0C : 0 < C) (ht : P.underlying t = some (.slice e)) (hb : P.bytesOf e = B) (hB : 0 < B) (cv : α → Nat → Value) (G : α → Prop)
    (h : DataW.trod enc P W 0 (fun _ => true) true fuel t cs = some y) (hw : ∀ n ∈ y.1.weights P t, n ≤ reachBytes)
    (hel : ∀ n cs d p, DataW.trod enc P W 0 (fun _ => true) true n e cs = some (d, p) → (∀ n ∈ d.weights P e, n ≤ reachBytes) → ∃ a, G a ∧ ∀ k, k < C → cs[k]? = some (cv a k)) :
    ∃ (s : Sl) (l : List α), cs = [s.v] ∧ l.length = s.n ∧ SlC W s C (fun j i => cv (l.getD j z) i) ∧ ∀ j, j < s.n → G (l.getD j z) := by
  rcases open_slice ht h with ⟨rfl, rfl⟩ | ⟨a, len, cap, m, n, D, Pl, rfl, _, hl, _, hm, rfl, hi⟩
  · exact ⟨⟨none, 0, 0⟩, [], rfl, rfl, ⟨⟨Nat.le_refl _, Nat.zero_le _⟩, fun h => absurd h (Nat.lt_irrefl _)⟩, fun j hj => absurd hj (Nat.not_lt_zero _)⟩
  · simp only [if_true] at hm
    subst hm
    have hlen : len ≤ 140737488355328 := by
      have h1 := hw _ (by simp only [DataW.weights, ht]; exact List.mem_cons_self)
      simp only [List.length_map, List.length_range, hb, reachBytes] at h1
      have := Nat.le_mul_of_pos_right (len + (m - len)) hB
      omega
    have hall : ∀ i, i < len → ∃ x, G x ∧ ∀ k, k < C → W.cell? ((a.add (i * C)).add k) = some (cv x k) := fun i hil => by
      obtain ⟨cs', hcs, htr⟩ := hi i (by omega)
      rw [hC] at hcs
      obtain ⟨_, hcl, hat⟩ := World.cells?_some hcs
      obtain ⟨x, hG, hk⟩ := hel n cs' _ _ htr (fun k hk => hw k (by
        simp only [DataW.weights, ht, List.mem_cons, List.mem_append]
        exact .inr (.inl (weights_all (List.mem_map.2 ⟨i, List.mem_range.2 hil, rfl⟩) k hk))))
      exact ⟨x, hG, fun k hkc => (hat k hkc).trans (hk k hkc)⟩
    obtain ⟨l, hll, hq⟩ := pick len _ z hall
    refine ⟨⟨some a, len, m⟩, l, rfl, hll, ⟨⟨hl, hlen⟩, fun hn => ?_⟩, fun j hj => (hq j hj).1⟩
    obtain ⟨b, off, spot⟩ := a
    have hc0 := (hq 0 hn).2 0 h0C
    have hspot : spot = none := by simpa [Addr.add] using World.cell?_spot hc0
    subst hspot
    have hcell : ∀ j i, j < len → i < C → W.cell? ⟨b, off + j * C + i, none⟩ = some (cv (l.getD j z) i) := fun j i hj hi => by
      have := (hq j hj).2 i hi
      rwa [Addr.add_mid, Addr.add_mid] at this
    exact ⟨b, off, rfl, block_of_cell (hcell 0 0 hn h0C), hcell⟩
theorem c32 : Tryd.prog.cellsOf 23 = 1 := by kernel_rfl
theorem c64 : Tryd.prog.cellsOf 3 = 1 := by kernel_rfl
theorem cEn : Tryd.prog.cellsOf 38 = 3 := by kernel_rfl
theorem bEn : Tryd.prog.bytesOf 38 = 24 := by kernel_rfl
theorem at_one {cs : List Value} {o : Nat} {v : Value} (h : (cs.drop o).take 1 = [v]) : cs[o]? = some v := by
  have h2 := congrArg (·[0]?) h
  simpa [List.getElem?_take, List.getElem?_drop] using h2
theorem wf_64 {z : Int} (h : (Lit.int .i64 z).wf = true) : i64ok z := wf_i64 h
section
variable {H : Type} {enc : TypeId × Value → H} {W : World} {n : Nat} {cs : List Value} {d : DataW H} {p : List MemPlace}
theorem came_entry (h : DataW.trod enc Tryd.prog W 0 (fun _ => true) true n 38 cs = some (d, p)) : ∃ g : En, g.Wf ∧ ∀ k, k < 3 → cs[k]? = some (enV g k) := by
  obtain ⟨y0, y1, y2, m, _, hl, h0, h1, h2⟩ := trod_struct3 Tryd.underlying38 h
  dsimp only at h0 h1 h2
  rw [c64] at h0 h1
  rw [c32] at h2
  obtain ⟨z0, e0, _, w0⟩ := DataW.trod_int Tryd.underlying3 h0
  obtain ⟨z1, e1, _, w1⟩ := DataW.trod_int Tryd.underlying3 h1
  obtain ⟨z2, e2, _, w2⟩ := DataW.trod_int Tryd.underlying23 h2
  obtain ⟨s, rfl, hs⟩ := wf_u32 w2
  refine ⟨⟨z0, z1, s⟩, ⟨wf_64 w0, wf_64 w1, hs⟩, fun k hk => ?_⟩
  match k, hk with
  | 0, _ => exact at_one e0
  | 1, _ => exact at_one e1
  | 2, _ => exact at_one e2
theorem mem_getD {α : Type} {P : α → Prop} {l : List α} {n : Nat} {z : α} (hl : l.length = n) (h : ∀ j, j < n → P (l.getD j z)) : ∀ x ∈ l, P x := fun x hx => by
  obtain ⟨j, hj, rfl⟩ := List.getElem_of_mem hx
  have := h j (by omega)
  rwa [List.getD_eq_getElem?_getD, List.getElem?_eq_getElem hj] at this
theorem came_entries {A : Option Addr} {m c : Nat} (h : DataW.Trod enc Tryd.prog W 0 (fun _ => true) true 31 (.slice A m c) d p) (hw : ∀ n ∈ d.weights Tryd.prog 31, n ≤ reachBytes) : ∃ es, SlE W ⟨A, m, c⟩ es := by
  obtain ⟨fuel, hf⟩ := h
  obtain ⟨s, l, hcs, hl, hC, hG⟩ := came_slice en0 3 24 cEn (by decide) Tryd.underlying31 bEn (by decide) enV En.Wf hf hw (fun _ _ _ _ ht _ => came_entry ht)
  obtain ⟨A', m', c'⟩ := s
  have e : Value.slice A m c = Value.slice A' m' c' := by simpa [Value.cells, Sl.v] using hcs
  injection e with e1 e2 e3
  subst e1 e2 e3
  exact ⟨l, hl, hC, mem_getD hl hG⟩
theorem came_ent {base : Nat} {v : Value} (hv : Value.okWide Tryd.prog W .any base 38 v) (h : DataW.Trod enc Tryd.prog W 0 (fun _ => true) true 38 v d p) : ∃ (x r : Int) (a : Nat), v = .agg #[.int .i64 x, .int .i64 r, .int .u32 (a : Int)] ∧ a < 4294967296 := by
  obtain ⟨v0, v1, v2, y0, y1, y2, n, rfl, _, _, h0, h1, h2⟩ := open_agg3 Tryd.underlying38 (by kernel_rfl) (by kernel_rfl) hv h
  dsimp only at h0 h1 h2
  obtain ⟨z0, e0, _, w0⟩ := DataW.trod_int Tryd.underlying3 h0
  obtain ⟨z1, e1, _, w1⟩ := DataW.trod_int Tryd.underlying3 h1
  obtain ⟨z2, e2, _, w2⟩ := DataW.trod_int Tryd.underlying23 h2
  obtain ⟨s, rfl, hs⟩ := wf_u32 w2
  simp only [List.cons.injEq, and_true] at e0 e1 e2
  subst e0 e1 e2
  exact ⟨_, _, _, rfl, hs⟩
end
end Go.Proofs.YthaockngbagdhaaDoor.Pm
