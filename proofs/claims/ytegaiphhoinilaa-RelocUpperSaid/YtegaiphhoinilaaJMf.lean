/-
Layer 7: what package manifest's calls answer; the laws over that.
What came in, opened: slices of integers, arrays of integers; a world for witnesses.
Layer 7: a manifest that comes in.
-/
import Derived.Test.YtegaiphhoinilaaJaD
import Derived.Test.YtegaiphhoinilaaJaB
import Derived.Test.YtegaiphhoinilaaJaA
import Derived.ProofKit
import Derived.OpenShut
import Derived.Deep.DeepHandedRow
import Derived.Lib.LaidTab
import Derived.LaidSub
import Derived.Deep.Strs
import Derived.Deep.Slices
import Derived.Deep.Fields
import Derived.Lib.SmallJoins
import Derived.SizedLaws
namespace Go.Proofs.Ytegaiphhoinilaa
open Go Go.RowKit

theorem man1_wf : man1.Wf := ⟨by decide, ⟨by decide, by decide⟩, fun p hp => by
  rw [show p = pay1 by simpa [man1] using hp]
  exact ⟨rfl, by decide, by decide, fun g hg => by rcases (show g = g1 ∨ g = g2 by simpa [pay1] using hg) with rfl | rfl <;> exact ⟨by decide, by decide, by decide, by decide⟩, ⟨by decide, by decide⟩⟩⟩
theorem encM_len (m : Man) (hw : m.Wf) (hv : rightM m = 0) : (encM m).length ≤ 1000 := by
  obtain ⟨⟨_, _, _, h4⟩, hpf⟩ := right_fine hv
  have h1 := outs_len m m.ps.length m.ps.length (fun p hp => ⟨(hw.ps p hp).d, by
    have h2 := (hpf p hp).1
    unfold badP at h2
    simp only [decide_eq_false_iff_not] at h2
    omega⟩)
  unfold encM
  omega
theorem rowB_slA {w : World} {A : Option Addr} {n c : Nat} {bs : List UInt8} (h : RowB w (.slice A n c) bs) : SlA w A n c bs := by
  obtain ⟨A', n', c', e, h1, _⟩ := h
  injection e with e1 e2 e3
  subst e1 e2 e3
  exact h1
end Go.Proofs.Ytegaiphhoinilaa
namespace Go.Proofs.Ytegaiphhoinilaa
open Go.ChangeShapes Go.WideShapes Go.ChangeAt Go.RowKit

theorem ownK : ownKnob Try.prog.godebug = none := by kernel_rfl
theorem laidOutK : laidOutB Try.prog = true := by kernel_rfl
/-- a world for the witnesses -/
noncomputable def worldK (os : Os) : World := World.holding Try.prog os ⟨#[], #[], []⟩
theorem block_of_cell {W : World} {b o : Nat} {v : Value} (h : W.cell? ⟨b, o, none⟩ = some v) : b < W.heap.size := by
  unfold World.cell? at h
  dsimp only at h
  rcases Nat.lt_or_ge b W.heap.size with h' | h'
  · exact h'
  · rw [Array.getElem?_eq_none h'] at h
    cases h
/-- a slice of integers that came in -/
theorem came_ints {H : Type} {enc : TypeId × Value → H} {P : Program} {W : World} {t e : TypeId} {k : IntKind} {a : Option Addr} {len cap : Nat} {d : DataW H} {p : List MemPlace} (ht : P.underlying t = some (.slice e)) (he : P.underlying e = some (.int k)) (hc : P.cellsOf e = 1)
    (h : DataW.Trod enc P W 0 (fun _ => true) true t (.slice a len cap) d p) :
    ∃ zs : List Int, zs.length = len ∧ len ≤ cap ∧ cap ≤ maxLen ∧ (a = none → cap = 0) ∧ (∀ j, j < len → (Lit.int k (zs.getD j 0)).wf = true) ∧ (0 < len → ∃ b o, a = some ⟨b, o, none⟩ ∧ b < W.heap.size ∧ ∀ j, j < len → W.cell? ⟨b, o + j, none⟩ = some (.int k (zs.getD j 0))) := by
  obtain ⟨fuel, hf⟩ := h
  rcases open_ints ht he hc hf with ⟨hcs, _⟩ | ⟨x, l, c, zs, hcs, _, hl, hm, hz, _, hcell, hwz⟩
  · simp [Value.cells] at hcs
    obtain ⟨rfl, rfl, rfl⟩ := hcs
    exact ⟨[], rfl, Nat.le_refl _, by decide, fun _ => rfl, fun j hj => by omega, fun h => by omega⟩
  · simp [Value.cells] at hcs
    obtain ⟨rfl, rfl, rfl⟩ := hcs
    have hz' : zs.length = cap := by simpa using hz
    have hg : ∀ j, j < len → (zs.take len).getD j 0 = zs.getD j 0 := fun j hj => by simp [List.getD_eq_getElem?_getD, hj]
    refine ⟨zs.take len, by rw [List.length_take]; omega, hl, hm, (fun h => by cases h), fun j hj => ?_, fun hn => ?_⟩
    · rw [hg j hj]
      have hjz : j < zs.length := by omega
      have : zs.getD j 0 = zs[j] := by simp [List.getD_eq_getElem?_getD, hjz]
      rw [this]
      exact hwz _ (List.getElem_mem _)
    · obtain ⟨b, off, spot⟩ := x
      have hc0 := hcell 0 (by omega)
      have hspot : spot = none := by simpa [Addr.add] using World.cell?_spot hc0
      subst hspot
      have hcell' : ∀ i, i < zs.length → W.cell? ⟨b, off + i, none⟩ = some (.int k (zs.getD i 0)) := fun i hi => by
        have := hcell i hi
        rwa [Addr.add_mid] at this
      refine ⟨b, off, rfl, block_of_cell (hcell' 0 (by omega)), fun j hj => ?_⟩
      rw [hg j hj]
      exact hcell' j (by omega)
/-- an array of integers, by value -/
theorem came_arr {H : Type} {enc : TypeId × Value → H} {P : Program} {W : World} {base : Nat} {t e : TypeId} {n : Nat} {k : IntKind} {v : Value} {d : DataW H} {p : List MemPlace}
    (ht : P.underlying t = some (.array n e)) (he : P.underlying e = some (.int k)) (hce : P.cellsOf e = 1) (hct : P.cellsOf t = n) (hv : Value.okWide P W .any base t v)
    (h : DataW.Trod enc P W 0 (fun _ => true) true t v d p) : ∃ f : Nat → Int, v = .agg (tab n fun j => .int k (f j)) ∧ ∀ j, j < n → (Lit.int k (f j)).wf = true := by
  obtain ⟨cs, rfl, hsz, _⟩ : ∃ cs, v = .agg cs ∧ cs.size = P.cellsOf t ∧ Row.okWide P W .any base t cs := by simpa [Value.okWide, ht] using hv
  rw [hct] at hsz
  obtain ⟨fuel, hf⟩ := h
  obtain ⟨xs, m, rfl, hx, hl, hn, hel⟩ := DataW.trod_array ht hf
  have hi : ∀ j, j < n → ∃ z, cs[j]? = some (.int k z) ∧ (Lit.int k z).wf = true := fun j hj => by
    have h1 := hel j hj
    have hjx : j < xs.length := by omega
    rw [List.getElem?_eq_getElem hjx] at h1
    obtain ⟨z, hc, _, hw⟩ := DataW.trod_int he h1
    refine ⟨z, ?_, hw⟩
    have h2 := congrArg (·[0]?) hc
    simpa [List.getElem?_take, List.getElem?_drop, hce, Value.cells] using h2
  refine ⟨fun j => if h : j < n then Classical.choose (hi j h) else 0, ?_, fun j hj => ?_⟩
  · congr 1
    apply Array.ext_getElem?
    intro j
    by_cases hj : j < n
    · rw [(Classical.choose_spec (hi j hj)).1, tab_get n _ j hj]
      dsimp only
      rw [dif_pos hj]
    · rw [Array.getElem?_eq_none (by omega), Array.getElem?_eq_none (by rw [tab_size]; omega)]
  · simp only [dif_pos hj]
    exact (Classical.choose_spec (hi j hj)).2
theorem wf_u32 {z : Int} (h : (Lit.int .u32 z).wf = true) : ∃ n : Nat, z = (n : Int) ∧ n < 4294967296 := by
  have : 0 ≤ z ∧ z ≤ 4294967295 := by simpa [Lit.wf, IntKind.min, IntKind.max, IntKind.signed, IntKind.bits] using h
  exact ⟨z.toNat, by omega, by omega⟩
theorem wf_i64 {z : Int} (h : (Lit.int .i64 z).wf = true) : -9223372036854775808 ≤ z ∧ z ≤ 9223372036854775807 := by
  simpa [Lit.wf, IntKind.min, IntKind.max, IntKind.signed, IntKind.bits] using h
end Go.Proofs.Ytegaiphhoinilaa
namespace Go.Proofs.Ytegaiphhoinilaa
open Go.Joins Go.ChangeShapes Go.WideShapes Go.ChangeAt Go.RowKit Go.Deep

theorem pick {α : Type} (n : Nat) (Q : Nat → α → Prop) (z : α) (h : ∀ i, i < n → ∃ a, Q i a) : ∃ l : List α, l.length = n ∧ ∀ i, i < n → Q i (l.getD i z) := by
  induction n with
  | zero => exact ⟨[], rfl, fun i hi => by omega⟩
  | succ n ih =>
    obtain ⟨l, hl, hq⟩ := ih fun i hi => h i (by omega)
    obtain ⟨a, ha⟩ := h n (by omega)
    refine ⟨l ++ [a], by simp [hl], fun i hi => ?_⟩
    by_cases h1 : i < n
    · have e : (l ++ [a]).getD i z = l.getD i z := by
        simp only [List.getD_eq_getElem?_getD, List.getElem?_append_left (show i < l.length by omega)]
      rw [e]
      exact hq i h1
    · obtain rfl : i = n := by omega
      have e : (l ++ [a]).getD i z = a := by
        subst hl
        simp [List.getD_eq_getElem?_getD]
      rw [e]
      exact ha
theorem weights_all {H : Type} {P : Program} {e : TypeId} {d : DataW H} : ∀ {l : List (DataW H)}, d ∈ l → ∀ n ∈ d.weights P e, n ∈ DataW.weightsAll P e l
  | [], h, _, _ => by cases h
  | x :: l, h, n, hn => by
    simp only [DataW.weightsAll, List.mem_append]
    rcases List.mem_cons.1 h with rfl | h
    · exact .inl hn
    · exact .inr (weights_all h n hn)
/-- a slice of things of C cells each -/
theorem came_slice {H : Type} {enc : TypeId × Value → H} {P : Program} {W : World} {t e : TypeId} {fuel : Nat} {cs : List Value} {y : DataW H × List MemPlace} {α : Type} (z : α) (C B : Nat) (hC : P.cellsOf e = C) (h0C : 0 < C) (ht : P.underlying t = some (.slice e)) (hb : P.bytesOf e = B) (hB : 0 < B) (cv : α → Nat → Value) (G : α → Prop)
    (h : DataW.trod enc P W 0 (fun _ => true) true fuel t cs = some y) (hw : ∀ n ∈ y.1.weights P t, n ≤ reachBytes)
    (hel : ∀ n cs d p, DataW.trod enc P W 0 (fun _ => true) true n e cs = some (d, p) → (∀ n ∈ d.weights P e, n ≤ reachBytes) → ∃ a, G a ∧ ∀ k, k < C → cs[k]? = some (cv a k)) :
    ∃ (s : Sl) (l : List α), cs = [s.v] ∧ l.length = s.n ∧ SlC W s C (fun j i => cv (l.getD j z) i) ∧ ∀ j, j < s.n → G (l.getD j z) := by
  rcases open_slice ht h with ⟨rfl, rfl⟩ | ⟨a, len, cap, m, n, D, Pl, rfl, _, hl, _, hm, rfl, hi⟩
  · exact ⟨⟨none, 0, 0⟩, [], rfl, rfl, ⟨⟨Nat.le_refl _, Nat.zero_le _⟩, fun h => absurd h (Nat.lt_irrefl _)⟩, fun j hj => absurd hj (Nat.not_lt_zero _)⟩
  · simp only [if_true] at hm
    subst hm
    have hlen : len ≤ 140737488355328 := by
      have h1 := hw _ (by simp only [DataW.weights, ht]; exact List.mem_cons_self)
      simp only [List.length_map, List.length_range, hb, reachBytes] at h1
      have := Nat.le_mul_of_pos_right (len + (m - len)) hB
      omega
    have hall : ∀ i, i < len → ∃ x, G x ∧ ∀ k, k < C → W.cell? ((a.add (i * C)).add k) = some (cv x k) := fun i hil => by
      obtain ⟨cs', hcs, htr⟩ := hi i (by omega)
      rw [hC] at hcs
      obtain ⟨_, hcl, hat⟩ := World.cells?_some hcs
      obtain ⟨x, hG, hk⟩ := hel n cs' _ _ htr (fun k hk => hw k (by
        simp only [DataW.weights, ht, List.mem_cons, List.mem_append]
        exact .inr (.inl (weights_all (List.mem_map.2 ⟨i, List.mem_range.2 hil, rfl⟩) k hk))))
      exact ⟨x, hG, fun k hkc => (hat k hkc).trans (hk k hkc)⟩
    obtain ⟨l, hll, hq⟩ := pick len _ z hall
    refine ⟨⟨some a, len, m⟩, l, rfl, hll, ⟨⟨hl, hlen⟩, fun hn => ?_⟩, fun j hj => (hq j hj).1⟩
    obtain ⟨b, off, spot⟩ := a
    have hc0 := (hq 0 hn).2 0 h0C
    have hspot : spot = none := by simpa [Addr.add] using World.cell?_spot hc0
    subst hspot
    have hcell : ∀ j i, j < len → i < C → W.cell? ⟨b, off + j * C + i, none⟩ = some (cv (l.getD j z) i) := fun j i hj hi => by
      have := (hq j hj).2 i hi
      rwa [Addr.add_mid, Addr.add_mid] at this
    exact ⟨b, off, rfl, block_of_cell (hcell 0 0 hn h0C), hcell⟩
theorem c32 : Try.prog.cellsOf 24 = 1 := by kernel_rfl
theorem c64 : Try.prog.cellsOf 3 = 1 := by kernel_rfl
theorem c8 : Try.prog.cellsOf 5 = 1 := by kernel_rfl
theorem at_one {cs : List Value} {o : Nat} {v : Value} (h : (cs.drop o).take 1 = [v]) : cs[o]? = some v := by
  have h2 := congrArg (·[0]?) h
  simpa [List.getElem?_take, List.getElem?_drop] using h2
section
variable {H : Type} {enc : TypeId × Value → H} {W : World} {n : Nat} {cs : List Value} {d : DataW H} {p : List MemPlace}
end
end Go.Proofs.Ytegaiphhoinilaa
