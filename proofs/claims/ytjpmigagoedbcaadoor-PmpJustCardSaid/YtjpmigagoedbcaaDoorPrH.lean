/-
Sorting numbers of 64 bits: order2Ordered, medianOrdered, medianAdjacentOrdered, choosePivotOrdered: a place within, whatever it is.
-/
import Derived.Test.YtjpmigagoedbcaaDoorPrG
namespace Go.Proofs.YtjpmigagoedbcaaDoor.Pm
open Go Go.RowKit
open Go.Sort (swp)

theorem lt_cell {w : World} {b k : Nat} {v : Value} (h : w.cell? ⟨b, k, none⟩ = some v) : b < w.heap.size := by
  obtain ⟨_, _, _, h1, _⟩ := Go.Sort.cells_of_cell? h
  exact (Array.getElem?_eq_some_iff.1 h1).1
theorem frozen_new (w : World) (v : Value) (t : TypeId) : (w.alloc (.cells #[v] t)).frozen? ⟨w.heap.size, 0, none⟩ = false := by
  have hb : (w.alloc (.cells #[v] t)).heap[w.heap.size]? = some (.cells #[v] t (0, 0)) := Has.new w t #[v]
  generalize w.alloc (.cells #[v] t) = w1 at *
  simp [World.frozen?, hb]
theorem cell_new (w : World) (v : Value) (t : TypeId) : (w.alloc (.cells #[v] t)).cell? ⟨w.heap.size, 0, none⟩ = some v := by
  have hb : (w.alloc (.cells #[v] t)).heap[w.heap.size]? = some (.cells #[v] t (0, 0)) := Has.new w t #[v]
  generalize w.alloc (.cells #[v] t) = w1 at *
  simp [World.cell?, hb]
theorem RowU.lt {w0 w : World} {b o : Nat} {d : Array Nat} (h : RowU w0 b o d w) (h0 : 0 < d.size) : b < w.heap.size := lt_cell (h.c 0 h0)
theorem RowU.alloc {w0 w : World} {b o : Nat} {d : Array Nat} (h : RowU w0 b o d w) (h0 : 0 < d.size) (x : Obj) : RowU w0 b o d (w.alloc x) := by
  have hb := h.lt h0
  refine ⟨fun t ht => ?_, fun t ht => ?_, grown_trans h.k (World.grownBy_alloc w x _)⟩
  · rw [World.cell?_alloc_lt _ _ _ (show (⟨b, o + t, none⟩ : Addr).block < w.heap.size from hb)]
    exact h.c t ht
  · have e : (w.alloc x).heap[b]? = w.heap[b]? := (World.grownBy_alloc w x none).block b hb (by simp)
    rw [World.frozen?_of_block (w := w) (w' := w.alloc x) (a := ⟨b, o + t, none⟩) e]
    exact h.f t ht
theorem RowU.other {w0 w : World} {b o : Nat} {d : Array Nat} (h : RowU w0 b o d w) (g k : Nat) (v : Value) (hne : g ≠ b) (hg : w0.heap.size ≤ g) : RowU w0 b o d (w.setCell ⟨g, k, none⟩ v) := by
  refine ⟨fun t ht => ?_, fun t ht => ?_, ?_⟩
  · rw [World.cell?_setCell_other _ _ _ _ (fun e => hne (by injection e))]
    exact h.c t ht
  · rw [World.frozen?_setCell]
    exact h.f t ht
  · have k2 := grown_setCell w g k v
    exact ⟨k2.os.trans h.k.os, k2.tape.trans h.k.tape, k2.output.trans h.k.output, Nat.le_trans h.k.size k2.size, fun i hi hr => (k2.block i (Nat.lt_of_lt_of_le hi h.k.size) (fun e => by injection e with e; omega)).trans (h.k.block i hi hr)⟩
/-- the row, and a number of the call's own beside it -/
structure SwP (w0 : World) (b o : Nat) (d : Array Nat) (g : Nat) (w : World) : Prop where
  row : RowU w0 b o d w
  cell : ∃ z : Int, w.cell? ⟨g, 0, none⟩ = some (.int .i64 z)
  fr : w.frozen? ⟨g, 0, none⟩ = false
  ne : g ≠ b
  new : w0.heap.size ≤ g
theorem SwP.drewN {w0 w : World} {b o g : Nat} {d : Array Nat} (h : SwP w0 b o d g w) (n : Nat) : SwP w0 b o d g (w.drewN n) := ⟨h.row.drewN n, h.cell, h.fr, h.ne, h.new⟩
theorem SwP.set {w0 w : World} {b o g : Nat} {d : Array Nat} (h : SwP w0 b o d g w) (z : Int) : SwP w0 b o d g (w.setCell ⟨g, 0, none⟩ (.int .i64 z)) := by
  obtain ⟨y, hy⟩ := h.cell
  exact ⟨h.row.other g 0 _ h.ne h.new, ⟨z, World.cell?_setCell_same _ _ _ hy⟩, by rw [World.frozen?_setCell]; exact h.fr, h.ne, h.new⟩
def Two (x y p q : Nat) : Prop := (p = x ∨ p = y) ∧ (q = x ∨ q = y)
def OrdR (x y : Nat) (w0 : World) (b o : Nat) (d : Array Nat) (g : Nat) (en : Ending) (w' : World) : Prop := ∃ p q : Nat, en = .returned (.tuple #[.int .i64 (p : Int), .int .i64 (q : Int)]) ∧ Two x y p q ∧ SwP w0 b o d g w'
set_option maxRecDepth 100000 in
set_option maxHeartbeats 4000000 in
theorem order2_any (b o n c x y g : Nat) (d : Array Nat) (w0 w : World) (h : SwP w0 b o d g w) (hn : d.size = n) (hx : x < n) (hy : y < n) (_hsz : n < 1000000) :
    Calls Tryd.prog 53 #[.slice (some ⟨b, o, none⟩) n c, .int .i64 (x : Int), .int .i64 (y : Int), .pointer (some ⟨g, 0, none⟩)] w (OrdR x y w0 b o d g) := by
  have kl := less_any
  obtain ⟨G, hG, hcw, hfw⟩ := h.row.fam hn
  have HH := Lib.hid h
  unfold OrdR
  clear hG h
  go_enter Tryd.func53, Tryd.ntmps53
  go_upto_region 1 with fail
  go_quiet (first | (go_at_call 42; refine Calls.quiet_of_same (kl _ _ _)))
  have hH := HH.out.drewN nq
  obtain ⟨z, hz⟩ := hH.cell
  have hf := hH.fr
  have HH1 := Lib.hid hH
  clear hH HH hcw hfw
  generalize w.drewN nq = w1 at *
  cases hl : ltN (G y) (G x) with
  | true =>
    go_wp2_with fail
    go_ret2
    exact ⟨y, x, rfl, ⟨Or.inr rfl, Or.inl rfl⟩, HH1.out.set _⟩
  | false =>
    go_wp2_with fail
    go_ret2
    exact ⟨x, y, rfl, ⟨Or.inl rfl, Or.inr rfl⟩, HH1.out⟩
def MedR (x y z : Nat) (w0 : World) (b o : Nat) (d : Array Nat) (g : Nat) (en : Ending) (w' : World) : Prop := ∃ p : Nat, en = .returned (.int .i64 (p : Int)) ∧ (p = x ∨ p = y ∨ p = z) ∧ SwP w0 b o d g w'
set_option maxRecDepth 100000 in
set_option maxHeartbeats 4000000 in
theorem median_any (b o n c x y z g : Nat) (d : Array Nat) (w0 w : World) (h : SwP w0 b o d g w) (hn : d.size = n) (hx : x < n) (hy : y < n) (hz : z < n) (hsz : n < 1000000) :
    Calls Tryd.prog 51 #[.slice (some ⟨b, o, none⟩) n c, .int .i64 (x : Int), .int .i64 (y : Int), .int .i64 (z : Int), .pointer (some ⟨g, 0, none⟩)] w (MedR x y z w0 b o d g) := by
  have k1 := order2_any b o n c x y g d w0 w h hn hx hy hsz
  unfold MedR
  go_enter Tryd.func51, Tryd.ntmps51
  go_wp2_with fail
  refine k1.mono ?_
  rintro en w1 ⟨p, q, rfl, h1, hw1⟩
  have hp : p < n := by rcases h1.1 with e | e <;> omega
  have hq : q < n := by rcases h1.2 with e | e <;> omega
  have k2 := order2_any b o n c q z g d w0 w1 hw1 hn hq hz hsz
  have H1 := Lib.hid h1
  clear k1 h1 hw1
  go_wp2_with fail
  refine k2.mono ?_
  rintro en w2 ⟨r, s, rfl, h2, hw2⟩
  have hr : r < n := by rcases h2.1 with e | e <;> omega
  have k3 := order2_any b o n c p r g d w0 w2 hw2 hn hp hr hsz
  have H2 := Lib.hid h2
  clear k2 h2 hw2
  go_wp2_with fail
  refine k3.mono ?_
  rintro en w3 ⟨u, v, rfl, h3, hw3⟩
  have H3 := Lib.hid h3
  have HW := Lib.hid hw3
  clear k3 h3 hw3
  go_wp2_with fail
  go_ret
  refine ⟨v, rfl, ?_, HW.out⟩
  have a1 := H1.out.1
  have a2 := H1.out.2
  have a3 := H2.out.1
  have a4 := H3.out.2
  omega
set_option maxRecDepth 100000 in
set_option maxHeartbeats 4000000 in
theorem medadj_any (b o n c x g : Nat) (d : Array Nat) (w0 w : World) (h : SwP w0 b o d g w) (hn : d.size = n) (hx1 : 1 ≤ x) (hx : x + 1 < n) (hsz : n < 1000000) :
    Calls Tryd.prog 50 #[.slice (some ⟨b, o, none⟩) n c, .int .i64 (x : Int), .pointer (some ⟨g, 0, none⟩)] w (MedR (x - 1) x (x + 1) w0 b o d g) := by
  have k1 := median_any b o n c (x - 1) x (x + 1) g d w0 w h hn (by omega) (by omega) hx hsz
  obtain ⟨p, hp⟩ : ∃ p, p = x - 1 := ⟨_, rfl⟩
  obtain ⟨q, hq⟩ : ∃ q, q = x + 1 := ⟨_, rfl⟩
  rw [← hp, ← hq] at k1 ⊢
  have hp' : (x : Int) - 1 = (p : Int) := by omega
  have hq' : (x : Int) + 1 = (q : Int) := by omega
  have hql : q < n := by omega
  clear hp hq h
  unfold MedR at k1 ⊢
  go_enter Tryd.func50, Tryd.ntmps50
  go_wp2_with fail
  refine k1.mono ?_
  rintro en w1 ⟨r, rfl, h1, hw1⟩
  have H1 := Lib.hid h1
  have HW := Lib.hid hw1
  clear k1 h1 hw1
  go_wp2_with fail
  go_ret
  exact ⟨r, rfl, H1.out, HW.out⟩
def PivR (a e : Nat) (w0 : World) (b o : Nat) (d : Array Nat) (en : Ending) (w' : World) : Prop := ∃ (p : Nat) (h : Int), en = .returned (.tuple #[.int .i64 (p : Int), .int .i64 h]) ∧ (a ≤ p ∧ p < e) ∧ (h = 0 ∨ h = 1 ∨ h = 2) ∧ RowU w0 b o d w'
set_option maxRecDepth 100000 in
set_option maxHeartbeats 8000000 in
theorem pivot_any (b o n c a e : Nat) (d : Array Nat) (w0 w : World) (h : RowU w0 b o d w) (hn : d.size = n) (_hb0 : b < w0.heap.size) (hae : a + 8 ≤ e) (hen : e ≤ n) (hsz : n < 1000000) :
    Calls Tryd.prog 39 #[.slice (some ⟨b, o, none⟩) n c, .int .i64 (a : Int), .int .i64 (e : Int)] w (PivR a e w0 b o d) := by
  obtain ⟨l, hl⟩ : ∃ l, l = e - a := ⟨_, rfl⟩
  have hl' : (e : Int) - (a : Int) = (l : Int) := by omega
  obtain ⟨q, hq⟩ : ∃ q, q = l / 4 := ⟨_, rfl⟩
  have hq1 : (l : Int).tdiv 4 = (q : Int) := by rw [Int.tdiv_eq_ediv_of_nonneg (by omega)]; omega
  have hq2 : (l : Int) / 4 = (q : Int) := by omega
  obtain ⟨i, hi⟩ : ∃ i, i = a + q := ⟨_, rfl⟩
  obtain ⟨j, hj⟩ : ∃ j, j = a + q * 2 := ⟨_, rfl⟩
  obtain ⟨k, hk⟩ : ∃ k, k = a + q * 3 := ⟨_, rfl⟩
  have hi1 : (a : Int) + (q : Int) = (i : Int) := by omega
  have hj1 : (a : Int) + (q : Int) * 2 = (j : Int) := by omega
  have hk1 : (a : Int) + (q : Int) * 3 = (k : Int) := by omega
  have h8 : (8 : Int) ≤ (l : Int) := by omega
  have hg := h.lt (by omega)
  have hge : w0.heap.size ≤ w.heap.size := h.k.size
  have hs0 : SwP w0 b o d w.heap.size (w.alloc (.cells #[.int .i64 0] 3)) := ⟨h.alloc (by omega) _, ⟨0, cell_new w _ _⟩, frozen_new w _ _, by omega, hge⟩
  have HS0 := Lib.hid hs0
  have HL := Lib.hid hl
  have HQ := Lib.hid hq
  have HI := Lib.hid hi
  have HJ := Lib.hid hj
  have HK := Lib.hid hk
  have b1 : a + 2 ≤ i ∧ i < j ∧ j < k ∧ k + 2 ≤ e := by omega
  have b2 : 50 ≤ l → 1 ≤ i ∧ 1 ≤ j ∧ 1 ≤ k ∧ i + 1 < n ∧ j + 1 < n ∧ k + 1 < n ∧ a + 1 ≤ i ∧ k + 1 < e ∧ i + 3 ≤ j ∧ j + 3 ≤ k := by omega
  have B1 := Lib.hid b1
  have B2 := Lib.hid b2
  clear hs0 h hl hq hi hj hk b1 b2
  unfold PivR
  go_enter Tryd.func39, Tryd.ntmps39
  by_cases h50 : 50 ≤ l
  · have h50' : (50 : Int) ≤ (l : Int) := by omega
    obtain ⟨t1, t2, t3, t4, t5, t6, t7, t8, t9, t10⟩ := B2.out h50
    go_wp2_with fail
    refine (medadj_any b o n c i w.heap.size d w0 _ HS0.out hn t1 t4 hsz).mono ?_
    rintro en w1 ⟨i2, rfl, m1, hw1⟩
    have HS1 := Lib.hid hw1
    clear hw1 HS0
    go_wp2_with fail
    refine (medadj_any b o n c j w.heap.size d w0 _ HS1.out hn t2 t5 hsz).mono ?_
    rintro en w2 ⟨j2, rfl, m2, hw2⟩
    have HS2 := Lib.hid hw2
    clear hw2 HS1
    go_wp2_with fail
    refine (medadj_any b o n c k w.heap.size d w0 _ HS2.out hn t3 t6 hsz).mono ?_
    rintro en w3 ⟨k2, rfl, m3, hw3⟩
    have HS3 := Lib.hid hw3
    have n1 : a ≤ i2 ∧ i2 < e ∧ i2 < n := by rcases m1 with e | e | e <;> omega
    have n2 : a ≤ j2 ∧ j2 < e ∧ j2 < n := by rcases m2 with e | e | e <;> omega
    have n3 : a ≤ k2 ∧ k2 < e ∧ k2 < n := by rcases m3 with e | e | e <;> omega
    clear hw3 HS2 m1 m2 m3
    go_wp2_with fail
    refine (median_any b o n c i2 j2 k2 w.heap.size d w0 _ HS3.out hn n1.2.2 n2.2.2 n3.2.2 hsz).mono ?_
    rintro en w4 ⟨p, rfl, m4, hw4⟩
    have HS4 := Lib.hid hw4
    have hpp : a ≤ p ∧ p < e := by rcases m4 with e | e | e <;> omega
    have HPP := Lib.hid hpp
    clear hw4 HS3 m4 hpp n1 n2 n3 t1 t2 t3 t4 t5 t6 t7 t8 t9 t10
    obtain ⟨z, hz⟩ := HS4.out.cell
    by_cases z0 : z = 0
    · have z0' : (z == 0) = true := beq_iff_eq.2 z0
      clear z0
      go_wp2_with fail
      go_ret2
      exact ⟨_, 1, rfl, HPP.out, Or.inr (Or.inl rfl), HS4.out.row⟩
    · have z0' : (z == 0) = false := beq_eq_false_iff_ne.2 z0
      by_cases z1 : z = 12
      · have z1' : (z == 12) = true := beq_iff_eq.2 z1
        clear z0 z1
        go_wp2_with fail
        go_ret2
        exact ⟨_, 2, rfl, HPP.out, Or.inr (Or.inr rfl), HS4.out.row⟩
      · have z1' : (z == 12) = false := beq_eq_false_iff_ne.2 z1
        clear z0 z1
        go_wp2_with fail
        go_ret2
        exact ⟨_, 0, rfl, HPP.out, Or.inl rfl, HS4.out.row⟩
  · have h50' : ¬ (50 : Int) ≤ (l : Int) := by omega
    obtain ⟨t1, t2, t3, t4⟩ := B1.out
    go_wp2_with fail
    refine (median_any b o n c i j k w.heap.size d w0 _ HS0.out hn (by omega) (by omega) (by omega) hsz).mono ?_
    rintro en w4 ⟨p, rfl, m4, hw4⟩
    have HS4 := Lib.hid hw4
    have hpp : a ≤ p ∧ p < e := by rcases m4 with e | e | e <;> omega
    have HPP := Lib.hid hpp
    clear hw4 HS0 m4 hpp t1 t2 t3 t4
    obtain ⟨z, hz⟩ := HS4.out.cell
    by_cases z0 : z = 0
    · have z0' : (z == 0) = true := beq_iff_eq.2 z0
      clear z0
      go_wp2_with fail
      go_ret2
      exact ⟨_, 1, rfl, HPP.out, Or.inr (Or.inl rfl), HS4.out.row⟩
    · have z0' : (z == 0) = false := beq_eq_false_iff_ne.2 z0
      by_cases z1 : z = 12
      · have z1' : (z == 12) = true := beq_iff_eq.2 z1
        clear z0 z1
        go_wp2_with fail
        go_ret2
        exact ⟨_, 2, rfl, HPP.out, Or.inr (Or.inr rfl), HS4.out.row⟩
      · have z1' : (z == 12) = false := beq_eq_false_iff_ne.2 z1
        clear z0 z1
        go_wp2_with fail
        go_ret2
        exact ⟨_, 0, rfl, HPP.out, Or.inl rfl, HS4.out.row⟩
end Go.Proofs.YtjpmigagoedbcaaDoor.Pm
