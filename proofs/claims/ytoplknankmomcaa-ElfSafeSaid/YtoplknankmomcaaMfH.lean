/-
Layer 7: rows of byte slices that the call owns; what a region that makes them keeps.
-/
import Derived.Test.YtoplknankmomcaaMfG
import Derived.Test.YtoplknankmomcaaSim
import Derived.Test.YtoplknankmomcaaPkD
import Derived.Great.BuildSlice
namespace Go.Proofs.Ytoplknankmomcaa
open Go Go.RowKit

/-- what may happen beside: blocks of bytes may be marked; all else stays -/
structure Ka (B : Nat) (w w' : World) : Prop where
  bel : Below B w w'
  blk : ∀ (b : Nat) (cs : Array Value) (t : TypeId) (fr : Nat × Nat), w.heap[b]? = some (Obj.cells cs t fr) → ∃ fr', w'.heap[b]? = some (Obj.cells cs t fr') ∧ (t ≠ 5 → fr' = fr)
theorem Ka.kb {B : Nat} {w w' : World} (h : Ka B w w') : Kb B w w' := ⟨h.bel, fun b cs t fr hb _ => h.blk b cs t fr hb⟩
theorem Ka.of {B : Nat} {w w' : World} (h : Below w.heap.size w w') (hB : B ≤ w.heap.size) : Ka B w w' := ⟨h.mono hB, fun i _ _ fr hi => ⟨fr, (h.block i (Array.getElem?_eq_some_iff.1 hi).1).trans hi, fun _ => rfl⟩⟩
theorem Ka.alloc {B : Nat} (w : World) (o : Obj) (hB : B ≤ w.heap.size) : Ka B w (w.alloc o) := Ka.of ((Below.refl _ _).alloc (Nat.le_refl _) _) hB
theorem Ka.has {B g : Nat} {w w' : World} {t : TypeId} {cs : Array Value} (h : Ka B w w') (hG : Has w g t cs) (h2 : t ≠ 5) : Has w' g t cs := by
  obtain ⟨f, h3, e⟩ := h.blk g cs t (0, 0) hG
  rw [e h2] at h3
  exact h3
theorem Ka.own {B base n size : Nat} {w w' : World} {t : TypeId} {v : Value} {xs : List Value} (h : Ka B w w') (ho : w.ownsRow base t size v n xs) (h2 : t ≠ 5) : w'.ownsRow base t size v n xs := by
  refine ⟨ho.1, ?_⟩
  rcases ho.2 with h1 | ⟨g, cap, cur, h1, hb, hg, h3⟩
  · exact .inl h1
  · obtain ⟨f, h4, e⟩ := h.blk g cur t (0, 0) hg
    rw [e h2] at h4
    exact .inr ⟨g, cap, cur, h1, hb, h4, h3⟩
/-- the run-time's mark behind a row of bytes -/
theorem ka_freeze {B b n k : Nat} {w : World} {cs : Array Value} {fr : Nat × Nat} (hb : w.heap[b]? = some (Obj.cells cs 5 fr)) (hB : B ≤ b) : Ka B w (w.freeze ⟨b, n, none⟩ k) := by
  unfold World.freeze
  split
  · exact ⟨Below.refl _ _, fun _ _ _ fr h => ⟨fr, h, fun _ => rfl⟩⟩
  · refine ⟨⟨rfl, rfl, rfl, by simp, fun i hi => ?_⟩, fun i c t f hi => ?_⟩
    · dsimp only
      rw [Array.getElem?_modify]
      rw [if_neg (by omega)]
    · dsimp only
      rw [Array.getElem?_modify]
      by_cases hib : b = i
      · subst hib
        rw [hb] at hi
        injection hi with hi
        injection hi with e1 e2 e3
        subst e1 e2 e3
        rw [if_pos rfl, hb]
        exact ⟨_, rfl, fun h => absurd rfl h⟩
      · rw [if_neg hib]
        exact ⟨f, hi, fun _ => rfl⟩
/-- a conversion of a row of bytes to its own type marks it -/
theorem run_mark (w : World) (b n c : Nat) (cs : Array Value) (fr : Nat × Nat) (hb : w.heap[b]? = some (Obj.cells cs 5 fr)) :
    (convert 25 25 (.slice (some ⟨b, 0, none⟩) n c)).run Try.prog w = .ok (.slice (some ⟨b, 0, none⟩) n c) (w.freeze ⟨b, cs.size, none⟩ 1) := by
  have hsh : w.shape? b = some (5, cs.size) := by unfold World.shape?; rw [hb]
  simp [convert, run_underlying Try.underlying25, run_underlying Try.underlying5, markStringish, hsh]
theorem rowB_at {w : World} {b k : Nat} {bs : List UInt8} {fr : Nat × Nat} (hk : bs.length = k) (hb : w.heap[b]? = some (Obj.cells (bs.map by8).toArray 5 fr)) : RowB w (.slice (some ⟨b, 0, none⟩) k k) bs := by
  refine ⟨_, _, _, rfl, ⟨hk, Nat.le_refl _, fun _ => ⟨b, 0, rfl, (Array.getElem?_eq_some_iff.1 hb).1, fun j hj => ?_⟩⟩, (fun h => by cases h), fun b' o s e _ => ?_⟩
  · rw [cell_of_row w b (0 + j) _ _ fr hb, Nat.zero_add]
    simp [List.getD_eq_getElem?_getD, show j < bs.length by omega]
  · injection e with e
    injection e with e _ _
    subst e
    exact ⟨_, _, hb⟩
theorem infoBs : (Try.prog.info? 25).map (fun i => (i.zero, i.size, i.bytes)) = some (some (.slice none 0 0), 1, 24) := by kernel_rfl
/-- the row of slices that the call owns reads as these lists of bytes -/
def OutB (w : World) (base : Nat) (v : Value) (n : Nat) (bss : List (List UInt8)) : Prop :=
  ∃ vs : List Value, bss.length = n ∧ w.ownsRow base 25 1 v n vs ∧ ∀ j, j < n → ∃ x, vs[j]? = some x ∧ RowB w x (bss.getD j [])
theorem OutB.nil (w : World) (base : Nat) : OutB w base (.slice none 0 0) 0 [] := ⟨[], rfl, World.ownsRow_nil _ _ _ _, fun j h => by omega⟩
theorem rowB_one {w : World} {v : Value} {bs : List UInt8} (h : RowB w v bs) : v.oneCell' = true := by obtain ⟨A, n, c, rfl, _⟩ := h; rfl
/-- append(out, x...) -/
theorem wp_append_rows {w : World} {op : Oper} {a : Act} {K : Act → World → Prop} {Q : Exit → Act → World → Prop} (s x : Operand)
    (ho : op.op = .call { callee := .builtin .append, args := #[s, x], argTypes := #[42, 42] }) (base : Nat) (v : Value) (n : Nat) (vs : List Value) (hs : a.eval s = v)
    (hown : w.ownsRow base 25 1 v n vs) (h m : Nat) (hx : a.eval x = .slice (some ⟨h, 0, none⟩) m m) (us : List Value) (hm : us.length = m) (hH : Has w h 25 us.toArray) (h1 : ∀ u ∈ us, u.oneCell' = true) (h63 : n + m ≤ 1000000) (hbase : base ≤ w.heap.size)
    (hK : ∀ v' w', w'.ownsRow base 25 1 v' (n + m) (vs ++ us) → w.grownBy w' v.ownBlock → K (a.put op.dst v') w') : op.wp Try.prog a w K Q := by
  obtain ⟨i5, hi5, hz5, hs5, hb5⟩ := info_parts infoBs
  refine wp_append_own _ s x 42 ho base 25 i5 _ 1 24 Try.underlying42 hi5 hz5 hs5 hb5 rfl (by decide) v n vs hs hown ⟨h, 0, none⟩ m m us hx (by omega) (fun j u hj => ?_) h1 (by simp only [maxLen]; omega) (by omega) hbase
    (fun v' w' h1 h2 _ => hK v' w' h1 h2)
  rw [Addr.add_mid, Nat.zero_add, hH.cell, ← hj]
  simp
theorem own_kb {w w' : World} {B base n : Nat} {v : Value} {vs : List Value} (h : w.ownsRow base 25 1 v n vs) (hB : B ≤ base) (hw : B ≤ w.heap.size) (k : w.grownBy w' v.ownBlock) : Kb B w w' := by
  refine ⟨below_own (Below.refl _ _) h hB hw k, fun b cs t fr hb ht => ⟨fr, (k.block b (Array.getElem?_eq_some_iff.1 hb).1 (fun e => ?_)).trans hb, fun _ => rfl⟩⟩
  rcases h.2 with ⟨rfl, _⟩ | ⟨g, cap, cur, rfl, hgb, hg, _⟩
  · cases e
  · have : b = g := by simpa [Value.ownBlock] using e
    subst this
    rw [hb] at hg
    injection hg with hg
    injection hg with _ e2 _
    exact ht e2
/-- what was appended is read behind what was there -/
theorem OutB.app {w : World} {base n m : Nat} {v : Value} {vs us : List Value} {bss css : List (List UInt8)} (hbl : bss.length = n) (hvs : ∀ j, j < n → ∃ x, vs[j]? = some x ∧ RowB w x (bss.getD j [])) (hvl : vs.length = n) (_hul : us.length = m) (hcl : css.length = m)
    (hus : ∀ j, j < m → ∃ x, us[j]? = some x ∧ RowB w x (css.getD j [])) (hown : w.ownsRow base 25 1 v (n + m) (vs ++ us)) : OutB w base v (n + m) (bss ++ css) := by
  refine ⟨vs ++ us, by rw [List.length_append, hbl, hcl], hown, fun j hj => ?_⟩
  by_cases hjn : j < n
  · obtain ⟨x, h1, h2⟩ := hvs j hjn
    refine ⟨x, by rw [List.getElem?_append_left (by omega)]; exact h1, ?_⟩
    rw [List.getD_eq_getElem?_getD, List.getElem?_append_left (by omega), ← List.getD_eq_getElem?_getD]
    exact h2
  · obtain ⟨x, h1, h2⟩ := hus (j - n) (by omega)
    refine ⟨x, by rw [List.getElem?_append_right (by omega), hvl]; exact h1, ?_⟩
    rw [List.getD_eq_getElem?_getD, List.getElem?_append_right (by omega), hbl, ← List.getD_eq_getElem?_getD]
    exact h2
end Go.Proofs.Ytoplknankmomcaa
