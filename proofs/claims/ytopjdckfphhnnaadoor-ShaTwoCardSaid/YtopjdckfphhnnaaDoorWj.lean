import Derived.Test.YtopjdckfphhnnaaDoorWi
import Derived.Test.YtopjdckfphhnnaaDoorArrEq
namespace Go.Proofs.YtopjdckfphhnnaaDoor
open Go.RowKit

set_option maxRecDepth 100000 in
set_option maxHeartbeats 1000000 in
theorem two_long (A1 A2 : Option Addr) (n1 c1 n2 c2 : Nat) (st : Int) (w : World) (hT : Tabs w) (h1 : 500 < n1) :
    Calls Tryd.prog 5 #[.slice A1 n1 c1, .slice A2 n2 c2, .int .i64 st] w fun e w' => e = .returned (.bool true) ∧ Below w.heap.size w w' := by
  have hb : (500 : Int) < (n1 : Int) := by omega
  go_enter Tryd.func5, Tryd.ntmps5
  go_wp2_with (go_at_call 6; refine (fit_any _ hT).mono ?_; rintro e w1 ⟨rfl, hb1⟩)
  go_ret
  exact ⟨rfl, hb1⟩
set_option maxRecDepth 100000 in
set_option maxHeartbeats 1000000 in
theorem two_long2 (A1 A2 : Option Addr) (n1 c1 n2 c2 : Nat) (st : Int) (w : World) (hT : Tabs w) (h1 : n1 ≤ 500) (h2 : 500 < n2) :
    Calls Tryd.prog 5 #[.slice A1 n1 c1, .slice A2 n2 c2, .int .i64 st] w fun e w' => e = .returned (.bool true) ∧ Below w.heap.size w w' := by
  have hb : ¬ (500 : Int) < (n1 : Int) := by omega
  have hb2 : (500 : Int) < (n2 : Int) := by omega
  go_enter Tryd.func5, Tryd.ntmps5
  go_wp2_with (go_at_call 6; refine (fit_any _ hT).mono ?_; rintro e w1 ⟨rfl, hb1⟩)
  go_ret
  exact ⟨rfl, hb1⟩
def natMin (a b : Nat) : Nat := if a ≤ b then a else b
theorem natMin_eq (a b : Nat) : natMin a b = min a b := by
  unfold natMin
  by_cases h : a ≤ b
  · rw [if_pos h, Nat.min_eq_left h]
  · rw [if_neg h, Nat.min_eq_right (by omega)]
theorem HashIs.lt {w : World} {g : Nat} {m : List UInt8} (h : HashIs w g m) : g < w.heap.size := by obtain ⟨r, hh, _⟩ := h; exact hh.lt
theorem HashIs.only {w w' : World} {g g' : Nat} {m : List UInt8} (h : HashIs w g m) (k : w.grownBy w' (some g')) (hne : g ≠ g') : HashIs w' g m := by
  obtain ⟨r, hh, hr⟩ := h
  exact ⟨r, (k.block g hh.lt (by simpa using hne)).trans hh, hr⟩
theorem run_min_nat {P : Program} (w : World) (ts : Array TypeId) (t : TypeId) (k k' : IntKind) (x y : Nat) : (Builtin.min_ ts t #[.int k (x : Int), .int k' (y : Int)]).run P w = .ok (.int k ((natMin x y : Nat) : Int)) w := by
  rw [run_min_int2]
  unfold natMin
  by_cases h : x ≤ y
  · rw [if_neg (by omega), if_pos h]
  · rw [if_pos (by omega), if_neg h]
theorem run_min_sum {P : Program} (w : World) (ts : Array TypeId) (t : TypeId) (k k' : IntKind) (x z y : Nat) : (Builtin.min_ ts t #[.int k ((x : Int) + (z : Int)), .int k' (y : Int)]).run P w = .ok (.int k ((natMin (x + z) y : Nat) : Int)) w := by
  rw [← Int.natCast_add, run_min_nat]
attribute [local go_sem] zeros32b
/-- 'x[l:h]' -/
theorem SlA.cut {w : World} {A : Option Addr} {n c : Nat} {bs : List UInt8} (h : SlA w A n c bs) (l k : Nat) (hl : l ≤ k) (hk : k ≤ n) :
    ∃ A', (∀ W : World, (Instr.slice 22 (.slice A n c) (some (.int .i64 (l : Int))) (some (.int .i64 (k : Int))) none).run Tryd.prog W = .ok (.slice A' (k - l) (c - l)) W) ∧ SlA w A' (k - l) (c - l) ((bs.take k).drop l) := by
  refine ⟨if c = l then A else A.map (·.add (l * 1)), fun W => ?_, by simp [h.1]; omega, by have := h.2.1; omega, fun hn => ?_⟩
  · have hs : (sizeOf (Tryd.prog.elem 22)).run Tryd.prog W = .ok 1 W := by kernel_rfl
    rw [run_slice_lh (P := Tryd.prog) (w := W) 22 A n c (by kernel_rfl) .i64 .i64 (l : Int) (k : Int) (by omega) (by omega) (by have := h.2.1; omega), hs]
    simp [sliced, Result.andThen]
  · obtain ⟨b, o, rfl, hlt, hc⟩ := h.2.2 (by omega)
    have := h.2.1
    rw [if_neg (by omega)]
    refine ⟨b, o + l, by simp [Addr.add]; try (by_cases h0 : l = 0 <;> simp [h0]), hlt, fun j hj => ?_⟩
    rw [Nat.add_assoc, hc (l + j) (by omega)]
    simp [List.getD_eq_getElem?_getD, List.getElem?_take, show l + j < k by omega]
theorem step_of (st : Int) (hst : -9223372036854775808 ≤ st ∧ st ≤ 9223372036854775807) : ∃ p : Nat, 1 ≤ p ∧ p ≤ 50 ∧ wrap64 ((wrap64 (st.tmod 50 + 50)).tmod 50 + 1) = (p : Int) := by
  have h1 : -50 < st.tmod 50 ∧ st.tmod 50 < 50 := by
    by_cases h : 0 ≤ st
    · rw [Int.tmod_eq_emod_of_nonneg h]; omega
    · have e : st.tmod 50 = -((-st).tmod 50) := by rw [Int.neg_tmod]; simp
      rw [e, Int.tmod_eq_emod_of_nonneg (by omega)]; omega
  have e1 : wrap64 (st.tmod 50 + 50) = st.tmod 50 + 50 := IntWalk.wrap64_in _ (by omega)
  rw [e1, Int.tmod_eq_emod_of_nonneg (by omega)]
  have e2 : wrap64 ((st.tmod 50 + 50) % 50 + 1) = (st.tmod 50 + 50) % 50 + 1 := IntWalk.wrap64_in _ (by omega)
  rw [e2]
  exact ⟨((st.tmod 50 + 50) % 50 + 1).toNat, by omega, by omega, by omega⟩
theorem grow_step (xs : List UInt8) (n t p : Nat) (hn : xs.length = n) : xs.take t ++ (xs.take (min (t + p) n)).drop (min t n) = xs.take (t + p) := by
  subst hn
  by_cases h : t ≤ xs.length
  · rw [Nat.min_eq_left h]
    have e : xs.take (min (t + p) xs.length) = xs.take (t + p) := by
      by_cases h2 : t + p ≤ xs.length
      · rw [Nat.min_eq_left h2]
      · rw [Nat.min_eq_right (by omega), List.take_of_length_le (Nat.le_refl _), List.take_of_length_le (by omega)]
    rw [e]
    have e2 : xs.take t = (xs.take (t + p)).take t := by rw [List.take_take, Nat.min_eq_left (by omega)]
    rw [e2, List.take_append_drop]
  · rw [Nat.min_eq_right (by omega), Nat.min_eq_right (by omega), List.take_of_length_le (by omega), List.take_of_length_le (by omega)]
    rw [List.drop_eq_nil_of_le (Nat.le_refl _), List.take_of_length_le (by omega)]
    simp

theorem HashIs.below {w w' : World} {g : Nat} {m : List UInt8} (h : HashIs w g m) (k : Below w.heap.size w w') : HashIs w' g m := by
  obtain ⟨r, hh, hr⟩ := h
  exact ⟨r, hh.below k hh.lt, hr⟩
theorem eql_digest (m : List UInt8) : ∀ W : World, (binOp .eql 24 (.agg (tab 32 fun j => by8 (shaOf m j))) (.agg (tab 32 fun j => by8 (shaOf m j)))).run Tryd.prog W = .ok (.bool true) W := fun W => by
  obtain ⟨i5, hi5, _, hs5, _⟩ := info_parts info5
  have h := run_eql_tab (P := Tryd.prog) W 24 5 32 .u8 .u8 i5 (fun j => ((shaOf m j).toNat : Int)) (fun j => ((shaOf m j).toNat : Int)) Tryd.underlying24 Tryd.underlying5 hi5 hs5
  rw [sameTo_refl] at h
  exact h
theorem eql_zero : ∀ W : World, (binOp .eql 24 (.agg (tab 32 zeroB)) (.agg (tab 32 zeroB))).run Tryd.prog W = .ok (.bool true) W := fun W => by
  obtain ⟨i5, hi5, _, hs5, _⟩ := info_parts info5
  have h := run_eql_tab (P := Tryd.prog) W 24 5 32 .u8 .u8 i5 (fun _ => 0) (fun _ => 0) Tryd.underlying24 Tryd.underlying5 hi5 hs5
  rw [sameTo_refl] at h
  exact h

set_option maxRecDepth 100000 in
set_option maxHeartbeats 1000000 in
theorem two_any (xs ys : List UInt8) (A1 A2 : Option Addr) (n1 c1 n2 c2 : Nat) (st : Int) (w : World) (hst : -9223372036854775808 ≤ st ∧ st ≤ 9223372036854775807) (hT : Tabs w) (h1 : n1 ≤ 500) (h2 : n2 ≤ 500) (hx : SlA w A1 n1 c1 xs) (hy : SlA w A2 n2 c2 ys) :
    Calls Tryd.prog 5 #[.slice A1 n1 c1, .slice A2 n2 c2, .int .i64 st] w fun e w' => e = .returned (.bool true) ∧ Below w.heap.size w w' := by
  have hb : decide ((500 : Int) < (n1 : Int)) = false := by simp; omega
  have hb2 : decide ((500 : Int) < (n2 : Int)) = false := by simp; omega
  have hmin1 := @run_min_nat Tryd.prog
  have hmin2 := @run_min_sum Tryd.prog
  have HT := Lib.hid hT
  clear hT
  go_enter Tryd.func5, Tryd.ntmps5
  go_wp2_with (go_at_call 6; refine (fit_any _ HT.out).mono ?_; rintro e w1 ⟨rfl, hb1⟩)
  obtain ⟨p, hp1, hp50, hp⟩ := step_of st hst
  have hT1 : Tabs w1 := HT.out.below hb1
  refine (new_any w1 hT1).mono ?_
  rintro e w2 ⟨rfl, hg1, hb2⟩
  have hb12 := hb1.trans (hb2.mono hb1.size)
  go_wp2_with fail
  refine (new_any w2 (HT.out.below hb12)).mono ?_
  rintro e w3 ⟨rfl, hg2, hb3⟩
  have hb13 := hb12.trans (hb3.mono hb12.size)
  have hg1' : HashIs w3 w1.heap.size [] := by
    obtain ⟨r, hh, hr⟩ := hg1
    exact ⟨r, hh.below hb3 hh.lt, hr⟩
  have hlt1 : w1.heap.size < w2.heap.size := by obtain ⟨r, hh, _⟩ := hg1; exact hh.lt
  have hlt2 : w2.heap.size < w3.heap.size := by obtain ⟨r, hh, _⟩ := hg2; exact hh.lt
  have hs1 := hb1.size
  have Hb13 := Lib.hid hb13
  clear hg1 hT1 hb1 hb2 hb3 hb12 hb13
  go_wp2_with fail
  have hw2 : w.heap.size ≤ w2.heap.size := by omega
  have hw1 := hs1
  have hw0 : 2 ≤ w1.heap.size := by have := HT.out.size; omega
  have h12 : w1.heap.size ≠ w2.heap.size := by omega
  clear hb hb2
  go_loopw [9, 10] (fun i k wr => ∃ t : Nat, t ≤ 600 ∧ i = .int .i64 t ∧ k = .int .i64 t ∧ HashIs wr w1.heap.size (xs.take t) ∧ HashIs wr w2.heap.size (ys.take t) ∧ Below w.heap.size w wr)
    (fun i _ _ => 600 - (intOf i).toNat)
  case atStart => exact ⟨0, by omega, rfl, rfl, by simpa using hg1', by simpa using hg2, Hb13.out⟩
  case round =>
    clear hg1' hg2
    obtain ⟨t, ht, rfl, rfl, hX, hY, hb⟩ := hrel
    by_cases hlt : t < n1 ∨ t < n2
    · have ht5 : t < 500 := by omega
      obtain ⟨B1, hc1, hs1⟩ := hx.cut (natMin t n1) (natMin (t + p) n1) (by rw [natMin_eq, natMin_eq]; omega) (by rw [natMin_eq]; omega)
      obtain ⟨B2, hc2, hs2⟩ := hy.cut (natMin t n2) (natMin (t + p) n2) (by rw [natMin_eq, natMin_eq]; omega) (by rw [natMin_eq]; omega)
      have gX := grow_step xs n1 t p hx.1
      have gY := grow_step ys n2 t p hy.1
      rw [← natMin_eq, ← natMin_eq] at gX gY
      have GX := Lib.hid gX
      have GY := Lib.hid gY
      have hbb := hb.size
      have hgX := hX.lt
      have hgY := hY.lt
      have lx : (xs.take t).length + ((xs.take (natMin (t + p) n1)).drop (natMin t n1)).length ≤ 1048576 := by
        have := hx.1; rw [List.length_take, List.length_drop, List.length_take]; omega
      have ly : (ys.take t).length + ((ys.take (natMin (t + p) n2)).drop (natMin t n2)).length ≤ 1048576 := by
        have := hy.1; rw [List.length_take, List.length_drop, List.length_take]; omega
      clear gX gY
      rcases (show t < n1 ∨ (¬ t < n1 ∧ t < n2) by omega) with hlt1' | ⟨hge, hlt2'⟩
      all_goals
        go_wp2_with fail
        refine (write_any w1.heap.size (xs.take t) _ B1 _ _ wr (HT.out.below hb) hw0 hX (hs1.apart hb _ hw1) lx).mono ?_
        rintro e w4 ⟨rfl, hX4, ho4⟩
        rw [GX.out] at hX4
        have hY4 := hY.only ho4 (Ne.symm h12)
        have hb4 := below_only hb ho4 hw1 hb.size
        go_wp2_with fail
        refine (write_any w2.heap.size (ys.take t) _ B2 _ _ w4 (HT.out.below hb4) (by omega) hY4 (hs2.apart hb4 _ hw2) ly).mono ?_
        rintro e w5 ⟨rfl, hY5, ho5⟩
        rw [GY.out] at hY5
        have hX5 := hX4.only ho5 h12
        have hb5 := below_only hb4 ho5 hw2 hb4.size
        go_wp2_with fail
        go_roundw
        case rel => exact ⟨t + p, by omega, by go_num, by go_num, hX5, hY5, hb5⟩
        case measure => simp [intOf]; omega
    · have ex : xs.take t = xs := List.take_of_length_le (by have := hx.1; omega)
      have ey : ys.take t = ys := List.take_of_length_le (by have := hy.1; omega)
      rw [ex] at hX
      rw [ey] at hY
      have hge1 : ¬ t < n1 := by omega
      have hge2 : ¬ t < n2 := by omega
      have hgX := hX.lt
      have hgY := hY.lt
      have hbb := hb.size
      have HX := Lib.hid hX
      have HY := Lib.hid hY
      clear hlt ex ey hX hY
      go_wp2_with (go_at_call 10; refine (write_none _ _ _ _).mono ?_; rintro e w' ⟨rfl, rfl⟩)
      have hX := HX.out
      have hY := HY.out
      have hlx : xs.length ≤ 1000000 := by have := hx.1; omega
      have hly : ys.length ≤ 1000000 := by have := hy.1; omega
      clear HX HY
      refine (sum_any w1.heap.size xs wr (HT.out.below hb) hgX hX hlx).mono ?_
      rintro e w4 ⟨rfl, hb4⟩
      have hY4 := hY.below hb4
      have hb04 := hb.trans (hb4.mono hbb)
      clear hX hY
      go_wp2_with fail
      refine (of_any xs _ _ _ w4 (HT.out.below hb04) (hx.below hb04) hlx).mono ?_
      rintro e w5 ⟨rfl, hb5⟩
      have hY5 := hY4.below hb5
      have hb05 := hb04.trans (hb5.mono hb04.size)
      clear hY4 hb4 hb5 hb04 hb
      have heX := eql_digest xs
      have heY := eql_digest ys
      have heZ := eql_zero
      have hm : Tryd.prog.eqGuardType Tryd.prog.depth 24 = false := by kernel_rfl
      go_wp2_with fail
      refine (sum_any w2.heap.size ys w5 (HT.out.below hb05) hY5.lt hY5 hly).mono ?_
      rintro e w6 ⟨rfl, hb6⟩
      have hb06 := hb05.trans (hb6.mono hb05.size)
      clear hY5 hb6 hb05
      go_wp2_with fail
      refine (of_any ys _ _ _ w6 (HT.out.below hb06) (hy.below hb06) hly).mono ?_
      rintro e w7 ⟨rfl, hb7⟩
      have hb07 := hb06.trans (hb7.mono hb06.size)
      clear hb7 hb06
      go_wp2_with fail
      refine (sum_none w7).mono ?_
      rintro e w8 ⟨rfl, hb8⟩
      have hb08 := hb07.trans (hb8.mono hb07.size)
      clear hb8 hb07
      go_wp2_with (refine wp_build_zero rfl rfl ?_)

      go_ret
      exact ⟨rfl, hb08⟩
end Go.Proofs.YtopjdckfphhnnaaDoor
