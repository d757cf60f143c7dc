/-
Appends of bytes onto a row of the call's own; cells that lie in a block, known one by one.
-/
import Derived.Test.YtopjdckfphhnnaaDoorWh
import Derived.OwnWalk
import Derived.Laws.OwnMore
import Derived.Laws.AppendOwnNone
namespace Go.Proofs.YtopjdckfphhnnaaDoor
open Go Go.RowKit

theorem info5' : (Tryd.prog.info? 5).map (fun i => (i.zero, i.size, i.bytes)) = some (some (.int .u8 0), 1, 1) := info5

/-- append(v, x...), x a slice of bytes that is there -/
theorem wp_append_bytes {w : World} {ops : Array Oper} {rest : List Oper} {op : Oper} {a : Act} {Q : Exit → Act → World → Prop} (hgd : op.guard = none) (s x : Operand)
    (ho : op.op = .call { callee := .builtin .append, args := #[s, x], argTypes := #[22, 22] }) (base : Nat) (v : Value) (n : Nat) (xs : List Value) (hs : a.eval s = v)
    (hown : w.ownsRow base 5 1 v n xs) (A : Option Addr) (m c : Nat) (hx : a.eval x = .slice A m c) (bs : List UInt8) (hS : SlA w A m c bs) (hnil : A = none → c = 0) (h63 : n + m ≤ 1000000) (hbase : base ≤ w.heap.size)
    (h : ∀ v' w', w'.ownsRow base 5 1 v' (n + m) (xs ++ bs.map by8) → w.grownBy w' v.ownBlock → wpList Tryd.prog ops Q rest (a.put op.dst v') w') : wpList Tryd.prog ops Q (op :: rest) a w := by
  obtain ⟨i5, hi5, hz5, hs5, hb5⟩ := info_parts info5
  have hl : bs.length = m := hS.1
  cases A with
  | none =>
    have hm : m = 0 := by
      rcases Nat.eq_zero_or_pos m with h0 | h0
      · exact h0
      · obtain ⟨b, o, e, _⟩ := hS.2.2 h0
        cases e
    have hc : c = 0 := hnil rfl
    subst hm
    subst hc
    have hbs : bs = [] := List.eq_nil_of_length_eq_zero hl
    subst hbs
    refine wpList_append_own_none hgd s x 22 ho base 5 i5 1 Tryd.underlying22 hi5 v n xs hs hown hx ?_
    exact h v w (by simpa using hown) (World.grownBy.refl w _)
  | some ad =>
    refine wpList_append_own _ hgd s x 22 ho base 5 i5 (.int .u8 0) 1 1 Tryd.underlying22 hi5 hz5 hs5 hb5 rfl (by decide) v n xs hs hown ad m c (bs.map by8) hx (by simp [hl]) (fun j u hj => ?_) (fun u hu => ?_) (by simp only [maxLen]; omega) (by omega) hbase
      (fun v' w' h1 h2 _ => h v' w' h1 h2)
    · have hjm : j < m := by have := (List.getElem?_eq_some_iff.1 hj).1; simpa [hl] using this
      obtain ⟨b, o, e, _, hcell⟩ := hS.2.2 (by omega)
      obtain rfl : ad = ⟨b, o, none⟩ := Option.some.inj e
      rw [Addr.add_mid, hcell j hjm, ← hj]
      simp [List.getD_eq_getElem?_getD, show j < bs.length by omega]
    · obtain ⟨b, _, rfl⟩ := List.mem_map.1 hu
      rfl

/-- append(v, x), one byte -/
theorem wp_append_byte {w : World} {ops : Array Oper} {rest : List Oper} {op : Oper} {a : Act} {Q : Exit → Act → World → Prop} (hgd : op.guard = none) (s x : Operand)
    (ho : op.op = .call { callee := .builtin .append, args := #[s, x], argTypes := #[22, 22] }) (base : Nat) (v : Value) (n : Nat) (xs : List Value) (hs : a.eval s = v)
    (hown : w.ownsRow base 5 1 v n xs) (g : Nat) (hx : a.eval x = .slice (some ⟨g, 0, none⟩) 1 1) (b : UInt8) (hc : w.cell? ⟨g, 0, none⟩ = some (by8 b)) (h63 : n + 1 ≤ 1000000) (hbase : base ≤ w.heap.size)
    (h : ∀ v' w', w'.ownsRow base 5 1 v' (n + 1) (xs ++ [by8 b]) → w.grownBy w' v.ownBlock → wpList Tryd.prog ops Q rest (a.put op.dst v') w') : wpList Tryd.prog ops Q (op :: rest) a w := by
  obtain ⟨i5, hi5, hz5, hs5, hb5⟩ := info_parts info5
  refine wpList_append_own _ hgd s x 22 ho base 5 i5 (.int .u8 0) 1 1 Tryd.underlying22 hi5 hz5 hs5 hb5 rfl (by decide) v n xs hs hown ⟨g, 0, none⟩ 1 1 [by8 b] hx rfl (fun j u hj => ?_) (fun u hu => ?_) (by simp only [maxLen]; omega) (by omega) hbase
    (fun v' w' h1 h2 _ => h v' w' h1 h2)
  · have hj0 : j = 0 := by have := (List.getElem?_eq_some_iff.1 hj).1; simp at this; omega
    subst hj0
    rw [Addr.add_mid, hc, ← hj]
    rfl
  · obtain rfl : u = by8 b := by simpa using hu
    rfl

/-- n cells lie at the head of block g, and may be written -/
def Lie (w : World) (g n : Nat) (f : Nat → Value) : Prop := g < w.heap.size ∧ ∀ j, j < n → w.cell? ⟨g, j, none⟩ = some (f j) ∧ w.frozen? ⟨g, j, none⟩ = false
section
variable {w w' : World} {g n : Nat} {f : Nat → Value}
theorem Lie.keep (h : Lie w g n f) (hs : w.heap.size ≤ w'.heap.size) (hb : w'.heap[g]? = w.heap[g]?) : Lie w' g n f :=
  ⟨Nat.lt_of_lt_of_le h.1 hs, fun j hj => ⟨(World.cell?_of_block (a := ⟨g, j, none⟩) hb).trans (h.2 j hj).1, (World.frozen?_of_block (a := ⟨g, j, none⟩) hb).trans (h.2 j hj).2⟩⟩
theorem Lie.below {B : Nat} (h : Lie w g n f) (hb : Below B w w') (hg : g < B) : Lie w' g n f := h.keep hb.size (hb.block g hg)
theorem Lie.alloc (h : Lie w g n f) (o : Obj) : Lie (w.alloc o) g n f := h.keep (by simp) (Below.heap_alloc w o g h.1)
theorem Lie.drewN (h : Lie w g n f) (k : Nat) : Lie (w.drewN k) g n f := h
theorem Lie.far (h : Lie w g n f) {p : Addr} (hp : g ≠ p.block) (u : Value) : Lie (w.setCell p u) g n f := h.keep (by simp [World.setCell]) (Below.heap_setCell w p u g hp)
theorem Lie.set (h : Lie w g n f) (i : Nat) (hi : i < n) (u : Value) : Lie (w.setCell ⟨g, i, none⟩ u) g n (fun j => if j = i then u else f j) := by
  refine ⟨by simpa [World.setCell] using h.1, fun j hj => ⟨?_, ?_⟩⟩
  · by_cases e : j = i
    · subst e
      rw [World.cell?_setCell_same w ⟨g, j, none⟩ u (h.2 j hj).1]
      simp
    · rw [World.cell?_setCell_other w ⟨g, i, none⟩ ⟨g, j, none⟩ u (fun e' => e (by injection e' with _ h2; exact h2.symm))]
      dsimp only
      rw [if_neg e]
      exact (h.2 j hj).1
  · rw [World.frozen?_setCell]
    exact (h.2 j hj).2
theorem Lie.congr {f' : Nat → Value} (h : Lie w g n f) (he : ∀ j, j < n → f j = f' j) : Lie w g n f' := ⟨h.1, fun j hj => ⟨by rw [← he j hj]; exact (h.2 j hj).1, (h.2 j hj).2⟩⟩
theorem Lie.of_has {t : TypeId} {cs : Array Value} (h : Has w g t cs) (he : ∀ j, j < n → cs[j]? = some (f j)) : Lie w g n f :=
  ⟨h.lt, fun j hj => ⟨(h.cell j).trans (he j hj), h.free j⟩⟩
theorem Lie.of_own {base : Nat} {e : TypeId} {A : Option Addr} {c : Nat} {xs : List Value} (h : w.ownsRow base e 1 (.slice A n c) n xs) (hn : 0 < n) (he : ∀ j, j < n → xs[j]? = some (f j)) :
    ∃ g, A = some ⟨g, 0, none⟩ ∧ base ≤ g ∧ Lie w g n f := by
  obtain ⟨g, cap, hv, hb, hlt⟩ := h.form hn
  have hA : A = some ⟨g, 0, none⟩ := by injection hv
  have hc : c = cap := by injection hv
  subst hA
  exact ⟨g, rfl, hb, hlt, fun j hj => ⟨(h.cellAt j (by omega)).trans (he j hj), h.frozenAt j⟩⟩
end
end Go.Proofs.YtopjdckfphhnnaaDoor
