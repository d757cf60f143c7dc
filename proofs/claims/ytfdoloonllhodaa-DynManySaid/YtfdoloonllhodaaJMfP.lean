/-
Layer 7: what package manifest's calls answer; the laws over that.
Layer 7: a manifest that comes in.
-/
import Derived.Test.YtfdoloonllhodaaJaD
import Derived.Test.YtfdoloonllhodaaJaB
import Derived.Test.YtfdoloonllhodaaJDyS
import Derived.Deep.Strs
import Derived.Deep.Slices
import Derived.Deep.Fields
import Derived.Lib.SmallJoins
import Derived.SizedLaws
namespace Go.Proofs.Ytfdoloonllhodaa
open Go Go.RowKit

theorem man1_wf : man1.Wf := ⟨by decide, ⟨by decide, by decide⟩, fun p hp => by
  rw [show p = pay1 by simpa [man1] using hp]
  exact ⟨rfl, by decide, by decide, fun g hg => by rcases (show g = g1 ∨ g = g2 by simpa [pay1] using hg) with rfl | rfl <;> exact ⟨by decide, by decide, by decide, by decide⟩, ⟨by decide, by decide⟩⟩⟩
theorem encM_len (m : Man) (hw : m.Wf) (hv : rightM m = 0) : (encM m).length ≤ 1000 := by
  obtain ⟨⟨_, _, _, h4⟩, hpf⟩ := right_fine hv
  have h1 := outs_len m m.ps.length m.ps.length (fun p hp => ⟨(hw.ps p hp).d, by
    have h2 := (hpf p hp).1
    unfold badP at h2
    simp only [decide_eq_false_iff_not] at h2
    omega⟩)
  unfold encM
  omega
theorem rowB_slA {w : World} {A : Option Addr} {n c : Nat} {bs : List UInt8} (h : RowB w (.slice A n c) bs) : SlA w A n c bs := by
  obtain ⟨A', n', c', e, h1, _⟩ := h
  injection e with e1 e2 e3
  subst e1 e2 e3
  exact h1
end Go.Proofs.Ytfdoloonllhodaa
namespace Go.Proofs.Ytfdoloonllhodaa
open Go.Joins Go.ChangeShapes Go.WideShapes Go.ChangeAt Go.RowKit Go.Deep

theorem pick {α : Type} (n : Nat) (Q : Nat → α → Prop) (z : α) (h : ∀ i, i < n → ∃ a, Q i a) : ∃ l : List α, l.length = n ∧ ∀ i, i < n → Q i (l.getD i z) := by
  induction n with
  | zero => exact ⟨[], rfl, fun i hi => by omega⟩
  | succ n ih =>
    obtain ⟨l, hl, hq⟩ := ih fun i hi => h i (by omega)
    obtain ⟨a, ha⟩ := h n (by omega)
    refine ⟨l ++ [a], by simp [hl], fun i hi => ?_⟩
    by_cases h1 : i < n
    · have e : (l ++ [a]).getD i z = l.getD i z := by
        simp only [List.getD_eq_getElem?_getD, List.getElem?_append_left (show i < l.length by omega)]
      rw [e]
      exact hq i h1
    · obtain rfl : i = n := by omega
      have e : (l ++ [a]).getD i z = a := by
        subst hl
        simp [List.getD_eq_getElem?_getD]
      rw [e]
      exact ha
theorem weights_all {H : Type} {P : Program} {e : TypeId} {d : DataW H} : ∀ {l : List (DataW H)}, d ∈ l → ∀ n ∈ d.weights P e, n ∈ DataW.weightsAll P e l
  | [], h, _, _ => by cases h
  | x :: l, h, n, hn => by
    simp only [DataW.weightsAll, List.mem_append]
    rcases List.mem_cons.1 h with rfl | h
    · exact .inl hn
    · exact .inr (weights_all h n hn)
/-- a slice of things of C cells each -/
theorem came_slice {H : Type} {enc : TypeId × Value → H} {P : Program} {W : World} {t e : TypeId} {fuel : Nat} {cs : List Value} {y : DataW H × List MemPlace} {α : Type} (z : α) (C B : Nat) (hC : P.cellsOf e = C) (h0C : 0 < C) (ht : P.underlying t = some (.slice e)) (hb : P.bytesOf e = B) (hB : 0 < B) (cv : α → Nat → Value) (G : α → Prop)
    (h : DataW.trod enc P W 0 (fun _ => true) true fuel t cs = some y) (hw : ∀ n ∈ y.1.weights P t, n ≤ reachBytes)
    (hel : ∀ n cs d p, DataW.trod enc P W 0 (fun _ => true) true n e cs = some (d, p) → (∀ n ∈ d.weights P e, n ≤ reachBytes) → ∃ a, G a ∧ ∀ k, k < C → cs[k]? = some (cv a k)) :
    ∃ (s : Sl) (l : List α), cs = [s.v] ∧ l.length = s.n ∧ SlC W s C (fun j i => cv (l.getD j z) i) ∧ ∀ j, j < s.n → G (l.getD j z) := by
  rcases open_slice ht h with ⟨rfl, rfl⟩ | ⟨a, len, cap, m, n, D, Pl, rfl, _, hl, _, hm, rfl, hi⟩
  · exact ⟨⟨none, 0, 0⟩, [], rfl, rfl, ⟨⟨Nat.le_refl _, Nat.zero_le _⟩, fun h => absurd h (Nat.lt_irrefl _)⟩, fun j hj => absurd hj (Nat.not_lt_zero _)⟩
  · simp only [if_true] at hm
    subst hm
    have hlen : len ≤ 140737488355328 := by
      have h1 := hw _ (by simp only [DataW.weights, ht]; exact List.mem_cons_self)
      simp only [List.length_map, List.length_range, hb, reachBytes] at h1
      have := Nat.le_mul_of_pos_right (len + (m - len)) hB
      omega
    have hall : ∀ i, i < len → ∃ x, G x ∧ ∀ k, k < C → W.cell? ((a.add (i * C)).add k) = some (cv x k) := fun i hil => by
      obtain ⟨cs', hcs, htr⟩ := hi i (by omega)
      rw [hC] at hcs
      obtain ⟨_, hcl, hat⟩ := World.cells?_some hcs
      obtain ⟨x, hG, hk⟩ := hel n cs' _ _ htr (fun k hk => hw k (by
        simp only [DataW.weights, ht, List.mem_cons, List.mem_append]
        exact .inr (.inl (weights_all (List.mem_map.2 ⟨i, List.mem_range.2 hil, rfl⟩) k hk))))
      exact ⟨x, hG, fun k hkc => (hat k hkc).trans (hk k hkc)⟩
    obtain ⟨l, hll, hq⟩ := pick len _ z hall
    refine ⟨⟨some a, len, m⟩, l, rfl, hll, ⟨⟨hl, hlen⟩, fun hn => ?_⟩, fun j hj => (hq j hj).1⟩
    obtain ⟨b, off, spot⟩ := a
    have hc0 := (hq 0 hn).2 0 h0C
    have hspot : spot = none := by simpa [Addr.add] using World.cell?_spot hc0
    subst hspot
    have hcell : ∀ j i, j < len → i < C → W.cell? ⟨b, off + j * C + i, none⟩ = some (cv (l.getD j z) i) := fun j i hj hi => by
      have := (hq j hj).2 i hi
      rwa [Addr.add_mid, Addr.add_mid] at this
    exact ⟨b, off, rfl, block_of_cell (hcell 0 0 hn h0C), hcell⟩
theorem c32 : Try.prog.cellsOf 32 = 1 := by kernel_rfl
theorem c64 : Try.prog.cellsOf 3 = 1 := by kernel_rfl
theorem c8 : Try.prog.cellsOf 5 = 1 := by kernel_rfl
theorem at_one {cs : List Value} {o : Nat} {v : Value} (h : (cs.drop o).take 1 = [v]) : cs[o]? = some v := by
  have h2 := congrArg (·[0]?) h
  simpa [List.getElem?_take, List.getElem?_drop] using h2
section
variable {H : Type} {enc : TypeId × Value → H} {W : World} {n : Nat} {cs : List Value} {d : DataW H} {p : List MemPlace}
end
end Go.Proofs.Ytfdoloonllhodaa
