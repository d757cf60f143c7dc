/-
Layer 7, the reference's Decode: its cursor, its row of payloads.
-/
import Derived.Test.YtoplknankmomcaaMfJ
import Derived.Test.YtoplknankmomcaaR6D
import Derived.Test.YtoplknankmomcaaPkD
namespace Go.Proofs.Ytoplknankmomcaa
open Go Go.RowKit

/-- the cursor at gc is at s; the bytes lie in memory that was there at first -/
structure DcH (w0 : World) (bs : List UInt8) (A : Option Addr) (n c gc : Nat) (s : Cu) (w : World) : Prop where
  cur : Has w gc 72 (curC A n c s.p s.bad)
  src : SlA w0 A n c bs
  nil : A = none → c = 0
  cap : c < 9223372036854775808
  le : s.p ≤ bs.length
  bel : Below w0.heap.size w0 w
  gcB : w0.heap.size ≤ gc
section
variable {w0 w w' : World} {bs : List UInt8} {A : Option Addr} {n c gc : Nat} {s : Cu}
theorem DcH.blk (h : DcH w0 bs A n c gc s w) : ∀ b o, A = some ⟨b, o, none⟩ → 0 < n → b < w0.heap.size := fun b o e h0 => by
  obtain ⟨b', o', e', hl, _⟩ := h.src.2.2 h0
  rw [e] at e'
  injection e' with e'
  injection e' with e1 _ _
  rw [e1]; exact hl
theorem DcH.after (h : DcH w0 bs A n c gc s w) (k : Below w.heap.size w w') : DcH w0 bs A n c gc s w' := ⟨h.cur.after k, h.src, h.nil, h.cap, h.le, h.bel.trans (k.mono h.bel.size), h.gcB⟩
theorem DcH.grown {g : Nat} (h : DcH w0 bs A n c gc s w) (k : w.grownBy w' (some g)) (hg : w0.heap.size ≤ g) (hne : gc ≠ g) : DcH w0 bs A n c gc s w' :=
  ⟨has_grown h.cur k (fun l e => by injection e with e; rw [← e]; exact hne), h.src, h.nil, h.cap, h.le, below_only h.bel k hg h.bel.size, h.gcB⟩
theorem DcH.num (h : DcH w0 bs A n c gc s w) (k : Nat) (hk : 0 < k) (hk4 : k ≤ 4) :
    Calls Try.prog 25 #[.pointer (some ⟨gc, 0, none⟩), .int .i64 (k : Int)] w fun e w' => e = .returned (.int .i64 ((s.num bs k : Nat) : Int)) ∧ DcH w0 bs A n c gc (s.nxt bs k) w' ∧ w.grownBy w' (some gc) := by
  have hl : bs.length = n := h.src.1
  refine (rnum_any bs A n c s.p k s.bad gc w h.cur (h.src.below h.bel) h.nil (fun b o e h0 => by have := h.blk b o e h0; have := h.gcB; omega) (by have := h.le; omega) h.cap hk hk4).mono fun e w' ⟨h1, h2, h3⟩ => ?_
  exact ⟨h1, ⟨h2, h.src, h.nil, h.cap, Cu.nxt_le h.le, below_only h.bel h3 h.gcB h.bel.size, h.gcB⟩, h3⟩
theorem DcH.num4 (h : DcH w0 bs A n c gc s w) :
    Calls Try.prog 25 #[.pointer (some ⟨gc, 0, none⟩), .int .i64 4] w fun e w' => e = .returned (.int .i64 ((s.num bs 4 : Nat) : Int)) ∧ DcH w0 bs A n c gc (s.nxt bs 4) w' ∧ w.grownBy w' (some gc) := h.num 4 (by decide) (by decide)
theorem DcH.num1 (h : DcH w0 bs A n c gc s w) :
    Calls Try.prog 25 #[.pointer (some ⟨gc, 0, none⟩), .int .i64 1] w fun e w' => e = .returned (.int .i64 ((s.num bs 1 : Nat) : Int)) ∧ DcH w0 bs A n c gc (s.nxt bs 1) w' ∧ w.grownBy w' (some gc) := h.num 1 (by decide) (by decide)
theorem DcH.num2 (h : DcH w0 bs A n c gc s w) :
    Calls Try.prog 25 #[.pointer (some ⟨gc, 0, none⟩), .int .i64 2] w fun e w' => e = .returned (.int .i64 ((s.num bs 2 : Nat) : Int)) ∧ DcH w0 bs A n c gc (s.nxt bs 2) w' ∧ w.grownBy w' (some gc) := h.num 2 (by decide) (by decide)
theorem DcH.take (h : DcH w0 bs A n c gc s w) (k : Nat) :
    Calls Try.prog 24 #[.pointer (some ⟨gc, 0, none⟩), .int .i64 (k : Int)] w fun e w' => (∃ A' n' c', e = .returned (.slice A' n' c') ∧ SlA w' A' n' c' (tkB bs s.p s.bad (k : Int)) ∧ (okT bs.length s.p s.bad (k : Int) = false → A' = none ∧ c' = 0) ∧ ∀ b o, A' = some ⟨b, o, none⟩ → 0 < n' → b < w0.heap.size) ∧ DcH w0 bs A n c gc (s.nxt bs k) w' ∧ w.grownBy w' (some gc) := by
  have hl : bs.length = n := h.src.1
  refine (rtake_src bs A n c s.p s.bad (k : Int) gc w h.cur (h.src.below h.bel) h.nil (fun b o e h0 => by have := h.blk b o e h0; have := h.gcB; omega) (by have := h.le; omega) h.cap).mono fun e w' ⟨⟨A', n', c', h1, h2, h3, h4⟩, h5, h6⟩ => ?_
  exact ⟨⟨A', n', c', h1, h2, h3, fun b o hb h0 => by obtain ⟨h7, o2, h8⟩ := h4 b o hb h0; exact h.blk b o2 h8 h7⟩, ⟨h5, h.src, h.nil, h.cap, Cu.nxt_le h.le, below_only h.bel h6 h.gcB h.bel.size, h.gcB⟩, h6⟩
theorem DcH.take8 (h : DcH w0 bs A n c gc s w) :
    Calls Try.prog 24 #[.pointer (some ⟨gc, 0, none⟩), .int .i64 8] w fun e w' => (∃ A' n' c', e = .returned (.slice A' n' c') ∧ SlA w' A' n' c' (tkB bs s.p s.bad 8) ∧ (okT bs.length s.p s.bad 8 = false → A' = none ∧ c' = 0) ∧ ∀ b o, A' = some ⟨b, o, none⟩ → 0 < n' → b < w0.heap.size) ∧ DcH w0 bs A n c gc (s.nxt bs 8) w' ∧ w.grownBy w' (some gc) := h.take 8
theorem DcH.take32 (h : DcH w0 bs A n c gc s w) :
    Calls Try.prog 24 #[.pointer (some ⟨gc, 0, none⟩), .int .i64 32] w fun e w' => (∃ A' n' c', e = .returned (.slice A' n' c') ∧ SlA w' A' n' c' (tkB bs s.p s.bad 32) ∧ (okT bs.length s.p s.bad 32 = false → A' = none ∧ c' = 0) ∧ ∀ b o, A' = some ⟨b, o, none⟩ → 0 < n' → b < w0.heap.size) ∧ DcH w0 bs A n c gc (s.nxt bs 32) w' ∧ w.grownBy w' (some gc) := h.take 32
end
/-- the cells of payloads, each with the slice of its grants -/
def pcells (qs : List (Pay × Sl)) : List Value := qs.flatMap fun q => (List.range 36).map (payV q.1 q.2)
theorem pcells_len : ∀ qs, (pcells qs).length = qs.length * 36
  | [] => rfl
  | q :: qs => by
    have := pcells_len qs
    simp only [pcells, List.flatMap_cons, List.length_append, List.length_map, List.length_range, List.length_cons] at this ⊢
    omega
theorem pcells_app (a b : List (Pay × Sl)) : pcells (a ++ b) = pcells a ++ pcells b := by simp [pcells]
def q0 : Pay × Sl := (pay0, ⟨none, 0, 0⟩)
theorem pcells_get : ∀ (qs : List (Pay × Sl)) (j i : Nat), j < qs.length → i < 36 → (pcells qs)[j * 36 + i]? = some (payV (qs.getD j q0).1 (qs.getD j q0).2 i)
  | [], j, i, h, _ => by simp at h
  | q :: qs, 0, i, _, hi => by
    show ((List.range 36).map (payV q.1 q.2) ++ pcells qs)[0 * 36 + i]? = _
    rw [Nat.zero_mul, Nat.zero_add, List.getElem?_append_left (by simpa using hi)]
    simp [hi]
  | q :: qs, j + 1, i, h, hi => by
    have h2 := pcells_get qs j i (by simpa using h) hi
    show ((List.range 36).map (payV q.1 q.2) ++ pcells qs)[(j + 1) * 36 + i]? = _
    rw [show (j + 1) * 36 + i = 36 + (j * 36 + i) by omega, List.getElem?_append_right (by simp)]
    simpa using h2
theorem slG_blk {w : World} {s : Sl} {gs : List Gr} (h : SlG w s gs) {b o : Nat} (e : s.A = some ⟨b, o, none⟩) (h0 : 0 < s.n) : b < w.heap.size := by
  obtain ⟨b', o', e', hl, _⟩ := h.2.1.2 h0
  rw [e] at e'
  injection e' with e'
  injection e' with e1 _ _
  rw [e1]; exact hl
end Go.Proofs.Ytoplknankmomcaa
