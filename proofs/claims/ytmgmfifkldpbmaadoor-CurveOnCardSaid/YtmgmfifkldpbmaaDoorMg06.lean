/-
The reference of layer 4: the sum of two points.
The reference of layer 4: the sum of two points, the other cases; both calls' contracts.
-/
import Derived.Test.YtmgmfifkldpbmaaDoorMg05
namespace Go.Proofs.YtmgmfifkldpbmaaDoor
open Go.RowKit

theorem Ec.rep_same {X1 Y1 Z1 X2 Y2 Z2 : Ec.FP} {P Q : Ec.Pnt} (hP : Ec.Rep X1 Y1 Z1 P) (hQ : Ec.Rep X2 Y2 Z2 Q) (hz1 : Z1 ≠ 0) (hz2 : Z2 ≠ 0) (hx : X2 * Z1 - X1 * Z2 = 0) (hy : Y2 * Z1 - Y1 * Z2 = 0) : P = Q := by
  match P, Q with
  | none, _ => exact absurd hP hz1
  | some (x, y), none => exact absurd hQ hz2
  | some (x, y), some (x', y') =>
    obtain ⟨_, rfl, rfl⟩ := hP
    obtain ⟨_, rfl, rfl⟩ := hQ
    have hz : Z1 * Z2 ≠ 0 := Ec.fldP.mul_ne hz1 hz2
    have e1 : x = x' := Ec.fldP.cancel (c := Z1 * Z2) (by clear hy; grobner) hz
    have e2 : y = y' := Ec.fldP.cancel (c := Z1 * Z2) (by clear hx e1; grobner) hz
    rw [e1, e2]
theorem Ec.rep_opp {X1 Y1 Z1 X2 Y2 Z2 : Ec.FP} {P Q : Ec.Pnt} (hP : Ec.Rep X1 Y1 Z1 P) (hQ : Ec.Rep X2 Y2 Z2 Q) (hz1 : Z1 ≠ 0) (hz2 : Z2 ≠ 0) (hx : X2 * Z1 - X1 * Z2 = 0) (hy : Y2 * Z1 - Y1 * Z2 ≠ 0) (oP : Ec.OnP P) (oQ : Ec.OnP Q) : Ec.plus P Q = none := by
  match P, Q with
  | none, _ => exact absurd hP hz1
  | some (x, y), none => exact absurd hQ hz2
  | some (x, y), some (x', y') =>
    obtain ⟨_, rfl, rfl⟩ := hP
    obtain ⟨_, rfl, rfl⟩ := hQ
    have hz : Z1 * Z2 ≠ 0 := Ec.fldP.mul_ne hz1 hz2
    have e1 : x = x' := Ec.fldP.cancel (c := Z1 * Z2) (by clear hy oP oQ; grobner) hz
    subst e1
    have hsq : y * y = y' * y' := by
      simp only [Ec.OnP, Ec.On] at oP oQ
      rw [oP, oQ]
    rcases Ec.sq_eq Ec.fldP hsq with h | h
    · exact absurd (by rw [h]; clear hx hy hsq h oP oQ; grobner) hy
    · show Ec.add Ec.cA _ _ = none
      simp only [Ec.add]
      rw [if_pos ⟨trivial, by rw [h]; exact Ec.neg_self_add _⟩]
attribute [local go_sem] zero16 zero48 one16
theorem hexNe (Z m : Nat) (hm : FldOK m) (hZ : Z < m) (hz : Z ≠ 0) (W : World) : (binOp .eql 32 (.agg (d16 Z)) (.agg (d16 0))).run Tryd.prog W = .ok (.bool false) W := by
  rw [hexEql Z 0 (by have := hm.2.1; omega) (by decide) W, decide_eq_false hz]
theorem hexZ (W : World) : (binOp .eql 32 (.agg (d16 0)) (.agg (d16 0))).run Tryd.prog W = .ok (.bool true) W := by
  rw [hexEql 0 0 (by decide) (by decide) W]
  rfl
set_option maxRecDepth 100000 in
set_option maxHeartbeats 4000000 in
theorem plus_z1 (X1 Y1 X2 Y2 Z2 g m : Nat) (w : World) (hF : IsField w g m) : Calls Tryd.prog 19 #[.pointer (some ⟨g, 0, none⟩), .agg (ptC X1 Y1 0), .agg (ptC X2 Y2 Z2)] w fun e w' => e = .returned (.agg (ptC X2 Y2 Z2)) ∧ Below w.heap.size w w' := by
  have hz := hexZ
  obtain ⟨Z1, hZ1⟩ : ∃ Z1 : Nat, Z1 = 0 := ⟨_, rfl⟩
  rw [← hZ1]
  have hz1 : ∀ W, (binOp .eql 32 (.agg (d16 Z1)) (.agg (d16 0))).run Tryd.prog W = .ok (.bool true) W := fun W => by rw [hZ1]; exact hz W
  clear hZ1 hz
  have n0 := d16_ne 0
  have hP : Has (((w.alloc (.cells (ptC X1 Y1 Z1) 39)).alloc (.cells (ptC X2 Y2 Z2) 39)).alloc (.cells (ptC 0 0 0) 39)) w.heap.size 39 (ptC X1 Y1 Z1) := ((Has.new w _ _).alloc _).alloc _
  have hQ : Has (((w.alloc (.cells (ptC X1 Y1 Z1) 39)).alloc (.cells (ptC X2 Y2 Z2) 39)).alloc (.cells (ptC 0 0 0) 39)) (w.heap.size + 1) 39 (ptC X2 Y2 Z2) := (Has.new' (by simp)).alloc _
  have hR : Has (((w.alloc (.cells (ptC X1 Y1 Z1) 39)).alloc (.cells (ptC X2 Y2 Z2) 39)).alloc (.cells (ptC 0 0 0) 39)) (w.heap.size + 1 + 1) 39 (ptC 0 0 0) := Has.new' (by simp)
  have hb0 : Below w.heap.size w (((w.alloc (.cells (ptC X1 Y1 Z1) 39)).alloc (.cells (ptC X2 Y2 Z2) 39)).alloc (.cells (ptC 0 0 0) 39)) := (((Below.refl _ _).alloc (Nat.le_refl _) _).alloc (by simp) _).alloc (by simp <;> omega) _
  replace hF := hF.after hb0
  go_enter Tryd.func19, Tryd.ntmps19
  go_wp2_with (first | refine wpList_load_hex rfl _ rfl (w.heap.size) 32 rfl Z1 (pt_z hP) ?_ | refine wpList_load_has 39 _ rfl _ rfl rfl 39 _ hQ _ Tryd.underlying39 rfl (infoPt _ _ _) ?_ | refine wpList_store_row rfl 39 _ _ rfl (w.heap.size + 1 + 1) _ rfl rfl 39 _ hR (infoPt _ _ _) (by simp only [ptC_size]) (tab_oneCell _ _ fun _ => rfl) ?_)
  exact bodyPost_ret (v := .agg (ptC X2 Y2 Z2)) (results_cell_row rfl _ _ (w.heap.size + 1 + 1) 39 _ _ _ rfl (hR.setRow _) Tryd.underlying39 rfl (infoPt _ _ _)) rfl ⟨rfl, below_setRow hb0 (by omega) _⟩
set_option maxRecDepth 100000 in
set_option maxHeartbeats 4000000 in
theorem plus_z2 (X1 Y1 Z1 X2 Y2 g m : Nat) (w : World) (hF : IsField w g m) (hm : FldOK m) (lZ1 : Z1 < m) (hz1 : Z1 ≠ 0) : Calls Tryd.prog 19 #[.pointer (some ⟨g, 0, none⟩), .agg (ptC X1 Y1 Z1), .agg (ptC X2 Y2 0)] w fun e w' => e = .returned (.agg (ptC X1 Y1 Z1)) ∧ Below w.heap.size w w' := by
  have hn1 := hexNe Z1 m hm lZ1 hz1
  obtain ⟨Z2, hZ2⟩ : ∃ Z2 : Nat, Z2 = 0 := ⟨_, rfl⟩
  rw [← hZ2]
  have hn2 : ∀ W, (binOp .eql 32 (.agg (d16 Z2)) (.agg (d16 0))).run Tryd.prog W = .ok (.bool true) W := fun W => by rw [hZ2]; exact hexZ W
  clear hZ2 hm lZ1 hz1
  have n0 := d16_ne 0
  have hP : Has (((w.alloc (.cells (ptC X1 Y1 Z1) 39)).alloc (.cells (ptC X2 Y2 Z2) 39)).alloc (.cells (ptC 0 0 0) 39)) w.heap.size 39 (ptC X1 Y1 Z1) := ((Has.new w _ _).alloc _).alloc _
  have hQ : Has (((w.alloc (.cells (ptC X1 Y1 Z1) 39)).alloc (.cells (ptC X2 Y2 Z2) 39)).alloc (.cells (ptC 0 0 0) 39)) (w.heap.size + 1) 39 (ptC X2 Y2 Z2) := (Has.new' (by simp)).alloc _
  have hR : Has (((w.alloc (.cells (ptC X1 Y1 Z1) 39)).alloc (.cells (ptC X2 Y2 Z2) 39)).alloc (.cells (ptC 0 0 0) 39)) (w.heap.size + 1 + 1) 39 (ptC 0 0 0) := Has.new' (by simp)
  have hb0 : Below w.heap.size w (((w.alloc (.cells (ptC X1 Y1 Z1) 39)).alloc (.cells (ptC X2 Y2 Z2) 39)).alloc (.cells (ptC 0 0 0) 39)) := (((Below.refl _ _).alloc (Nat.le_refl _) _).alloc (by simp) _).alloc (by simp <;> omega) _
  replace hF := hF.after hb0
  go_enter Tryd.func19, Tryd.ntmps19
  go_wp2_with (first | refine wpList_load_hex rfl _ rfl (w.heap.size) 32 rfl Z1 (pt_z hP) ?_ | refine wpList_load_hex rfl _ rfl (w.heap.size + 1) 32 rfl Z2 (pt_z hQ) ?_ | refine wpList_load_has 39 _ rfl _ rfl rfl 39 _ hP _ Tryd.underlying39 rfl (infoPt _ _ _) ?_ | refine wpList_store_row rfl 39 _ _ rfl (w.heap.size + 1 + 1) _ rfl rfl 39 _ hR (infoPt _ _ _) (by simp only [ptC_size]) (tab_oneCell _ _ fun _ => rfl) ?_)
  exact bodyPost_ret (v := .agg (ptC X1 Y1 Z1)) (results_cell_row rfl _ _ (w.heap.size + 1 + 1) 39 _ _ _ rfl (hR.setRow _) Tryd.underlying39 rfl (infoPt _ _ _)) rfl ⟨rfl, below_setRow hb0 (by omega) _⟩
set_option maxRecDepth 100000 in
set_option maxHeartbeats 4000000 in
theorem plus_ne (X1 Y1 Z1 X2 Y2 Z2 m : Nat) (hm : FldOK m) (hmp : m = Ec.pp) (lX1 : X1 < m) (lY1 : Y1 < m) (lZ1 : Z1 < m) (lX2 : X2 < m) (lY2 : Y2 < m) (lZ2 : Z2 < m) (hz1 : Z1 ≠ 0) (hz2 : Z2 ≠ 0) (hv : (X2 * Z1 % m + (m - X1 * Z2 % m)) % m ≠ 0) :
    ∃ X' Y' Z' : Nat, X' < m ∧ Y' < m ∧ Z' < m ∧ (∀ P Q, Ec.Rep (Ec.c X1) (Ec.c Y1) (Ec.c Z1) P → Ec.Rep (Ec.c X2) (Ec.c Y2) (Ec.c Z2) Q → Ec.Rep (Ec.c X') (Ec.c Y') (Ec.c Z') (Ec.plus P Q)) ∧
      ∀ g w, IsField w g m → Calls Tryd.prog 19 #[.pointer (some ⟨g, 0, none⟩), .agg (ptC X1 Y1 Z1), .agg (ptC X2 Y2 Z2)] w fun e w' => e = .returned (.agg (ptC X' Y' Z')) ∧ Below w.heap.size w w' := by
  have m0 := hm.1
  obtain ⟨v1, ev1⟩ : ∃ v, v = Y1 * Z2 % m := ⟨_, rfl⟩
  have lv1 : v1 < m := by rw [ev1]; exact Nat.mod_lt _ m0
  have kv1 := fun g W (h : IsField W g m) => fmul_c Y1 Z2 m g W h hm lY1 lZ2
  rw [← ev1] at kv1
  have cv1 : Ec.c v1 = Ec.c Y1 * Ec.c Z2 := by rw [ev1]; exact cm hmp Y1 Z2
  obtain ⟨v2, ev2⟩ : ∃ v, v = X1 * Z2 % m := ⟨_, rfl⟩
  have lv2 : v2 < m := by rw [ev2]; exact Nat.mod_lt _ m0
  have kv2 := fun g W (h : IsField W g m) => fmul_c X1 Z2 m g W h hm lX1 lZ2
  rw [← ev2] at kv2
  have cv2 : Ec.c v2 = Ec.c X1 * Ec.c Z2 := by rw [ev2]; exact cm hmp X1 Z2
  obtain ⟨v3, ev3⟩ : ∃ v, v = Y2 * Z1 % m := ⟨_, rfl⟩
  have lv3 : v3 < m := by rw [ev3]; exact Nat.mod_lt _ m0
  have kv3 := fun g W (h : IsField W g m) => fmul_c Y2 Z1 m g W h hm lY2 lZ1
  rw [← ev3] at kv3
  have cv3 : Ec.c v3 = Ec.c Y2 * Ec.c Z1 := by rw [ev3]; exact cm hmp Y2 Z1
  obtain ⟨v4, ev4⟩ : ∃ v, v = (v3 + (m - v1)) % m := ⟨_, rfl⟩
  have lv4 : v4 < m := by rw [ev4]; exact Nat.mod_lt _ m0
  have kv4 := fun g W (h : IsField W g m) => fsub_c v3 v1 m g W h hm lv3 lv1
  rw [← ev4] at kv4
  have cv4 : Ec.c v4 = Ec.c v3 - Ec.c v1 := by rw [ev4]; exact cs hmp v3 v1 (Nat.le_of_lt lv1)
  obtain ⟨v5, ev5⟩ : ∃ v, v = X2 * Z1 % m := ⟨_, rfl⟩
  have lv5 : v5 < m := by rw [ev5]; exact Nat.mod_lt _ m0
  have kv5 := fun g W (h : IsField W g m) => fmul_c X2 Z1 m g W h hm lX2 lZ1
  rw [← ev5] at kv5
  have cv5 : Ec.c v5 = Ec.c X2 * Ec.c Z1 := by rw [ev5]; exact cm hmp X2 Z1
  obtain ⟨v6, ev6⟩ : ∃ v, v = (v5 + (m - v2)) % m := ⟨_, rfl⟩
  have lv6 : v6 < m := by rw [ev6]; exact Nat.mod_lt _ m0
  have kv6 := fun g W (h : IsField W g m) => fsub_c v5 v2 m g W h hm lv5 lv2
  rw [← ev6] at kv6
  have cv6 : Ec.c v6 = Ec.c v5 - Ec.c v2 := by rw [ev6]; exact cs hmp v5 v2 (Nat.le_of_lt lv2)
  obtain ⟨v7, ev7⟩ : ∃ v, v = Z1 * Z2 % m := ⟨_, rfl⟩
  have lv7 : v7 < m := by rw [ev7]; exact Nat.mod_lt _ m0
  have kv7 := fun g W (h : IsField W g m) => fmul_c Z1 Z2 m g W h hm lZ1 lZ2
  rw [← ev7] at kv7
  have cv7 : Ec.c v7 = Ec.c Z1 * Ec.c Z2 := by rw [ev7]; exact cm hmp Z1 Z2
  obtain ⟨v8, ev8⟩ : ∃ v, v = v6 * v6 % m := ⟨_, rfl⟩
  have lv8 : v8 < m := by rw [ev8]; exact Nat.mod_lt _ m0
  have kv8 := fun g W (h : IsField W g m) => fmul_c v6 v6 m g W h hm lv6 lv6
  rw [← ev8] at kv8
  have cv8 : Ec.c v8 = Ec.c v6 * Ec.c v6 := by rw [ev8]; exact cm hmp v6 v6
  obtain ⟨v9, ev9⟩ : ∃ v, v = v6 * v8 % m := ⟨_, rfl⟩
  have lv9 : v9 < m := by rw [ev9]; exact Nat.mod_lt _ m0
  have kv9 := fun g W (h : IsField W g m) => fmul_c v6 v8 m g W h hm lv6 lv8
  rw [← ev9] at kv9
  have cv9 : Ec.c v9 = Ec.c v6 * Ec.c v8 := by rw [ev9]; exact cm hmp v6 v8
  obtain ⟨v10, ev10⟩ : ∃ v, v = v8 * v2 % m := ⟨_, rfl⟩
  have lv10 : v10 < m := by rw [ev10]; exact Nat.mod_lt _ m0
  have kv10 := fun g W (h : IsField W g m) => fmul_c v8 v2 m g W h hm lv8 lv2
  rw [← ev10] at kv10
  have cv10 : Ec.c v10 = Ec.c v8 * Ec.c v2 := by rw [ev10]; exact cm hmp v8 v2
  obtain ⟨v11, ev11⟩ : ∃ v, v = v4 * v4 % m := ⟨_, rfl⟩
  have lv11 : v11 < m := by rw [ev11]; exact Nat.mod_lt _ m0
  have kv11 := fun g W (h : IsField W g m) => fmul_c v4 v4 m g W h hm lv4 lv4
  rw [← ev11] at kv11
  have cv11 : Ec.c v11 = Ec.c v4 * Ec.c v4 := by rw [ev11]; exact cm hmp v4 v4
  obtain ⟨v12, ev12⟩ : ∃ v, v = v11 * v7 % m := ⟨_, rfl⟩
  have lv12 : v12 < m := by rw [ev12]; exact Nat.mod_lt _ m0
  have kv12 := fun g W (h : IsField W g m) => fmul_c v11 v7 m g W h hm lv11 lv7
  rw [← ev12] at kv12
  have cv12 : Ec.c v12 = Ec.c v11 * Ec.c v7 := by rw [ev12]; exact cm hmp v11 v7
  obtain ⟨v13, ev13⟩ : ∃ v, v = (v12 + (m - v9)) % m := ⟨_, rfl⟩
  have lv13 : v13 < m := by rw [ev13]; exact Nat.mod_lt _ m0
  have kv13 := fun g W (h : IsField W g m) => fsub_c v12 v9 m g W h hm lv12 lv9
  rw [← ev13] at kv13
  have cv13 : Ec.c v13 = Ec.c v12 - Ec.c v9 := by rw [ev13]; exact cs hmp v12 v9 (Nat.le_of_lt lv9)
  obtain ⟨v14, ev14⟩ : ∃ v, v = (v10 + v10) % m := ⟨_, rfl⟩
  have lv14 : v14 < m := by rw [ev14]; exact Nat.mod_lt _ m0
  have kv14 := fun g W (h : IsField W g m) => fadd_c v10 v10 m g W h hm lv10 lv10
  rw [← ev14] at kv14
  have cv14 : Ec.c v14 = Ec.c v10 + Ec.c v10 := by rw [ev14]; exact ca hmp v10 v10
  obtain ⟨v15, ev15⟩ : ∃ v, v = (v13 + (m - v14)) % m := ⟨_, rfl⟩
  have lv15 : v15 < m := by rw [ev15]; exact Nat.mod_lt _ m0
  have kv15 := fun g W (h : IsField W g m) => fsub_c v13 v14 m g W h hm lv13 lv14
  rw [← ev15] at kv15
  have cv15 : Ec.c v15 = Ec.c v13 - Ec.c v14 := by rw [ev15]; exact cs hmp v13 v14 (Nat.le_of_lt lv14)
  obtain ⟨v16, ev16⟩ : ∃ v, v = v6 * v15 % m := ⟨_, rfl⟩
  have lv16 : v16 < m := by rw [ev16]; exact Nat.mod_lt _ m0
  have kv16 := fun g W (h : IsField W g m) => fmul_c v6 v15 m g W h hm lv6 lv15
  rw [← ev16] at kv16
  have cv16 : Ec.c v16 = Ec.c v6 * Ec.c v15 := by rw [ev16]; exact cm hmp v6 v15
  obtain ⟨v17, ev17⟩ : ∃ v, v = (v10 + (m - v15)) % m := ⟨_, rfl⟩
  have lv17 : v17 < m := by rw [ev17]; exact Nat.mod_lt _ m0
  have kv17 := fun g W (h : IsField W g m) => fsub_c v10 v15 m g W h hm lv10 lv15
  rw [← ev17] at kv17
  have cv17 : Ec.c v17 = Ec.c v10 - Ec.c v15 := by rw [ev17]; exact cs hmp v10 v15 (Nat.le_of_lt lv15)
  obtain ⟨v18, ev18⟩ : ∃ v, v = v4 * v17 % m := ⟨_, rfl⟩
  have lv18 : v18 < m := by rw [ev18]; exact Nat.mod_lt _ m0
  have kv18 := fun g W (h : IsField W g m) => fmul_c v4 v17 m g W h hm lv4 lv17
  rw [← ev18] at kv18
  have cv18 : Ec.c v18 = Ec.c v4 * Ec.c v17 := by rw [ev18]; exact cm hmp v4 v17
  obtain ⟨v19, ev19⟩ : ∃ v, v = v9 * v1 % m := ⟨_, rfl⟩
  have lv19 : v19 < m := by rw [ev19]; exact Nat.mod_lt _ m0
  have kv19 := fun g W (h : IsField W g m) => fmul_c v9 v1 m g W h hm lv9 lv1
  rw [← ev19] at kv19
  have cv19 : Ec.c v19 = Ec.c v9 * Ec.c v1 := by rw [ev19]; exact cm hmp v9 v1
  obtain ⟨v20, ev20⟩ : ∃ v, v = (v18 + (m - v19)) % m := ⟨_, rfl⟩
  have lv20 : v20 < m := by rw [ev20]; exact Nat.mod_lt _ m0
  have kv20 := fun g W (h : IsField W g m) => fsub_c v18 v19 m g W h hm lv18 lv19
  rw [← ev20] at kv20
  have cv20 : Ec.c v20 = Ec.c v18 - Ec.c v19 := by rw [ev20]; exact cs hmp v18 v19 (Nat.le_of_lt lv19)
  obtain ⟨v21, ev21⟩ : ∃ v, v = v9 * v7 % m := ⟨_, rfl⟩
  have lv21 : v21 < m := by rw [ev21]; exact Nat.mod_lt _ m0
  have kv21 := fun g W (h : IsField W g m) => fmul_c v9 v7 m g W h hm lv9 lv7
  rw [← ev21] at kv21
  have cv21 : Ec.c v21 = Ec.c v9 * Ec.c v7 := by rw [ev21]; exact cm hmp v9 v7
  rw [← ev5, ← ev2, ← ev6] at hv
  refine ⟨v16, v20, v21, lv16, lv20, lv21, fun P Q hP hQ => ?_, fun g w hF => ?_⟩
  · have hz1c : Ec.c Z1 ≠ 0 := Ec.c_zero (by rw [← hmp]; exact lZ1) hz1
    have hz2c : Ec.c Z2 ≠ 0 := Ec.c_zero (by rw [← hmp]; exact lZ2) hz2
    have hv0 : Ec.c v6 ≠ 0 := Ec.c_zero (by rw [← hmp]; exact lv6) hv
    have hu : Ec.c v4 = Ec.c Y2 * Ec.c Z1 - Ec.c v1 := by rw [cv4, cv3]
    have hvv : Ec.c v6 = Ec.c X2 * Ec.c Z1 - Ec.c v2 := by rw [cv6, cv5]
    have ht : Ec.c v15 = Ec.c v4 * Ec.c v4 * Ec.c v7 - Ec.c v9 - 2 * Ec.c v10 := by rw [cv15, cv13, cv12, cv11, cv14]; clear cv1 cv2 cv3 cv4 cv5 cv6 cv7 cv8 cv9 cv10 cv11 cv12 cv13 cv14 cv15 cv16 cv17 cv18 cv19 cv20 cv21; grobner
    have key := Ec.sum_rep hP hQ hz1c hz2c cv1 cv2 hu hvv hv0 cv7 cv8 cv9 cv10 ht
    have eY : Ec.c v20 = Ec.c v4 * (Ec.c v10 - Ec.c v15) - Ec.c v9 * Ec.c v1 := by rw [cv20, cv18, cv17, cv19]
    rw [cv16, eY, cv21]
    exact key
  have hn1 := hexNe Z1 m hm lZ1 hz1
  have hn2 := hexNe Z2 m hm lZ2 hz2
  have hn3 := hexNe v6 m hm lv6 hv
  clear ev1 cv1 lv1 ev2 cv2 lv2 ev3 cv3 lv3 ev4 cv4 lv4 ev5 cv5 lv5 ev6 cv6 lv6 ev7 cv7 lv7 ev8 cv8 lv8 ev9 cv9 lv9 ev10 cv10 lv10 ev11 cv11 lv11 ev12 cv12 lv12 ev13 cv13 lv13 ev14 cv14 lv14 ev15 cv15 lv15 ev16 cv16 lv16 ev17 cv17 lv17 ev18 cv18 lv18 ev19 cv19 lv19 ev20 cv20 lv20 ev21 cv21 lv21 hm hmp lX1 lY1 lZ1 lX2 lY2 lZ2 m0 hz1 hz2 hv
  have n0 := d16_ne 0
  have hP : Has (((w.alloc (.cells (ptC X1 Y1 Z1) 39)).alloc (.cells (ptC X2 Y2 Z2) 39)).alloc (.cells (ptC 0 0 0) 39)) w.heap.size 39 (ptC X1 Y1 Z1) := ((Has.new w _ _).alloc _).alloc _
  have hQ : Has (((w.alloc (.cells (ptC X1 Y1 Z1) 39)).alloc (.cells (ptC X2 Y2 Z2) 39)).alloc (.cells (ptC 0 0 0) 39)) (w.heap.size + 1) 39 (ptC X2 Y2 Z2) := (Has.new' (by simp)).alloc _
  have hR : Has (((w.alloc (.cells (ptC X1 Y1 Z1) 39)).alloc (.cells (ptC X2 Y2 Z2) 39)).alloc (.cells (ptC 0 0 0) 39)) (w.heap.size + 1 + 1) 39 (ptC 0 0 0) := Has.new' (by simp)
  have hb0 : Below w.heap.size w (((w.alloc (.cells (ptC X1 Y1 Z1) 39)).alloc (.cells (ptC X2 Y2 Z2) 39)).alloc (.cells (ptC 0 0 0) 39)) := (((Below.refl _ _).alloc (Nat.le_refl _) _).alloc (by simp) _).alloc (by simp <;> omega) _
  replace hF := hF.after hb0
  go_enter Tryd.func19, Tryd.ntmps19
  go_wp2_with (first | refine wpList_load_hex rfl _ rfl (w.heap.size) 32 rfl Z1 (pt_z hP) ?_ | refine wpList_load_hex rfl _ rfl (w.heap.size + 1) 32 rfl Z2 (pt_z hQ) ?_)
  generalize ((w.alloc _).alloc _).alloc _ = U0 at *
  clear hn1 hn2
  go_wp2_with fail
  have ohR_1 := hR.lt
  have ohF_1 := hF.lt
  have ohP_1 := hP.lt
  have ohQ_1 := hQ.lt
  refine region_facts 14 [] [.val (.pointer (some ⟨g, 0, none⟩)), .val (.pointer (some ⟨w.heap.size, 16, none⟩)), .val (.agg (d16 (Y1))), .val (.pointer (some ⟨w.heap.size + 1, 32, none⟩)), .val (.agg (d16 (Z2))), .val (.agg (d16 (v1))), .val (.pointer (some ⟨g, 0, none⟩)), .val (.pointer (some ⟨w.heap.size, 0, none⟩)), .val (.agg (d16 (X1))), .val (.pointer (some ⟨w.heap.size + 1, 32, none⟩)), .val (.agg (d16 (Z2))), .val (.agg (d16 (v2))), .new 32 (d16 0), .new 32 (d16 0)]
    (by kernel_rfl) (by kernel_rfl) (fun _ _ _ _ _ h => h) ?_ ?_
  · simp only [List.take_succ_cons, List.take_zero, StepsOK]
    refine ⟨?_, ?_, ?_, ?_, ?_, ?_, ?_, ?_, ?_, ?_, ?_, ?_, ?_, ?_, trivial⟩
    · intro v w' hb hf K hKt
      simp only [putAll, Act.put, List.setIfInBounds_toArray, List.set_cons_zero, List.set_cons_succ, Nat.zero_add, Nat.reduceAdd] at hKt ⊢
      go_simp
      exact hKt _ (Below.refl _ _)
    · intro v w' hb hf K hKt
      simp only [putAll, Act.put, List.setIfInBounds_toArray, List.set_cons_zero, List.set_cons_succ, Nat.zero_add, Nat.reduceAdd] at hKt ⊢
      go_simp
      exact hKt _ (Below.refl _ _)
    · intro v w' hb hf K hKt
      have f1 : v 1 = _ := hf ⟨1, .data⟩ (by simp) rfl
      simp only [putAll, Act.put, List.setIfInBounds_toArray, List.set_cons_zero, List.set_cons_succ, Nat.zero_add, Nat.reduceAdd] at hKt ⊢
      rw [f1] at hKt ⊢
      exact wp_load_hex _ rfl (w.heap.size) 16 rfl Y1 (pt_y ((hP.after hb))) (hKt _ (Below.refl _ _))
    · intro v w' hb hf K hKt
      simp only [putAll, Act.put, List.setIfInBounds_toArray, List.set_cons_zero, List.set_cons_succ, Nat.zero_add, Nat.reduceAdd] at hKt ⊢
      go_simp
      exact hKt _ (Below.refl _ _)
    · intro v w' hb hf K hKt
      have f3 : v 3 = _ := hf ⟨3, .data⟩ (by simp) rfl
      simp only [putAll, Act.put, List.setIfInBounds_toArray, List.set_cons_zero, List.set_cons_succ, Nat.zero_add, Nat.reduceAdd] at hKt ⊢
      rw [f3] at hKt ⊢
      exact wp_load_hex _ rfl (w.heap.size + 1) 32 rfl Z2 (pt_z ((hQ.after hb))) (hKt _ (Below.refl _ _))
    · intro v w' hb hf K hKt
      have f0 : v 0 = _ := hf ⟨0, .data⟩ (by simp) rfl
      have f2 : v 2 = _ := hf ⟨2, .data⟩ (by simp) rfl
      have f4 : v 4 = _ := hf ⟨4, .data⟩ (by simp) rfl
      simp only [putAll, Act.put, List.setIfInBounds_toArray, List.set_cons_zero, List.set_cons_succ, Nat.zero_add, Nat.reduceAdd] at hKt ⊢
      rw [f0, f2, f4] at hKt ⊢
      go_simp
      refine (kv1 _ w' (hF.after hb)).mono ?_
      rintro e w'' ⟨rfl, hb2⟩
      exact hKt _ hb2
    · intro v w' hb hf K hKt
      simp only [putAll, Act.put, List.setIfInBounds_toArray, List.set_cons_zero, List.set_cons_succ, Nat.zero_add, Nat.reduceAdd] at hKt ⊢
      go_simp
      exact hKt _ (Below.refl _ _)
    · intro v w' hb hf K hKt
      simp only [putAll, Act.put, List.setIfInBounds_toArray, List.set_cons_zero, List.set_cons_succ, Nat.zero_add, Nat.reduceAdd] at hKt ⊢
      go_simp
      exact hKt _ (Below.refl _ _)
    · intro v w' hb hf K hKt
      have f7 : v 7 = _ := hf ⟨7, .data⟩ (by simp) rfl
      simp only [putAll, Act.put, List.setIfInBounds_toArray, List.set_cons_zero, List.set_cons_succ, Nat.zero_add, Nat.reduceAdd] at hKt ⊢
      rw [f7] at hKt ⊢
      exact wp_load_hex _ rfl (w.heap.size) 0 rfl X1 (pt_x ((hP.after hb))) (hKt _ (Below.refl _ _))
    · intro v w' hb hf K hKt
      simp only [putAll, Act.put, List.setIfInBounds_toArray, List.set_cons_zero, List.set_cons_succ, Nat.zero_add, Nat.reduceAdd] at hKt ⊢
      go_simp
      exact hKt _ (Below.refl _ _)
    · intro v w' hb hf K hKt
      have f9 : v 9 = _ := hf ⟨9, .data⟩ (by simp) rfl
      simp only [putAll, Act.put, List.setIfInBounds_toArray, List.set_cons_zero, List.set_cons_succ, Nat.zero_add, Nat.reduceAdd] at hKt ⊢
      rw [f9] at hKt ⊢
      exact wp_load_hex _ rfl (w.heap.size + 1) 32 rfl Z2 (pt_z ((hQ.after hb))) (hKt _ (Below.refl _ _))
    · intro v w' hb hf K hKt
      have f6 : v 6 = _ := hf ⟨6, .data⟩ (by simp) rfl
      have f8 : v 8 = _ := hf ⟨8, .data⟩ (by simp) rfl
      have f10 : v 10 = _ := hf ⟨10, .data⟩ (by simp) rfl
      simp only [putAll, Act.put, List.setIfInBounds_toArray, List.set_cons_zero, List.set_cons_succ, Nat.zero_add, Nat.reduceAdd] at hKt ⊢
      rw [f6, f8, f10] at hKt ⊢
      go_simp
      refine (kv2 _ w' (hF.after hb)).mono ?_
      rintro e w'' ⟨rfl, hb2⟩
      exact hKt _ hb2
    · exact ⟨rfl, rfl, zeroV16⟩
    · exact ⟨rfl, rfl, zeroV16⟩
  intro v u1 hb hF hD
  have f0 : v 0 = _ := hF 0 (by decide)
  have f1 : v 1 = _ := hF 1 (by decide)
  have f2 : v 2 = _ := hF 2 (by decide)
  have f3 : v 3 = _ := hF 3 (by decide)
  have f4 : v 4 = _ := hF 4 (by decide)
  have f5 : v 5 = _ := hF 5 (by decide)
  have f6 : v 6 = _ := hF 6 (by decide)
  have f7 : v 7 = _ := hF 7 (by decide)
  have f8 : v 8 = _ := hF 8 (by decide)
  have f9 : v 9 = _ := hF 9 (by decide)
  have f10 : v 10 = _ := hF 10 (by decide)
  have f11 : v 11 = _ := hF 11 (by decide)
  obtain ⟨g1_12, f12, hg12, hl12, hz12⟩ := hF 12 (by decide)
  replace hz12 : Has u1 g1_12 32 (d16 0) := hz12
  obtain ⟨g1_13, f13, hg13, hl13, hz13⟩ := hF 13 (by decide)
  replace hz13 : Has u1 g1_13 32 (d16 0) := hz13
  have hne12_13 : g1_12 ≠ g1_13 := fun h => hD 12 13 (by decide) (by decide) (by decide) rfl rfl (by rw [f12, f13, h])
  simp only [List.take_succ_cons, List.take_zero, List.drop_succ_cons, List.drop_zero, putAll, Act.put, List.setIfInBounds_toArray, List.set_cons_zero, List.set_cons_succ, Nat.zero_add, Nat.reduceAdd]
  rw [f0, f1, f2, f3, f4, f5, f6, f7, f8, f9, f10, f11, f12, f13]
  clear hF hD f0 f1 f2 f3 f4 f5 f6 f7 f8 f9 f10 f11 f12 f13
  have hs12 := hz12
  have hs13 := (hz13).farRow (k := g1_12) (by omega) (d16 (v1))
  have hBW := below_setRow (below_setRow (hb) (g := g1_12) hg12 (d16 (v1))) (g := g1_13) hg13 (d16 (v2))
  have hv_v1 := ((hz12).setRow (d16 (v1))).farRow (k := g1_13) (by omega) (d16 (v2))
  have hv_v2 := ((hz13).farRow (k := g1_12) (by omega) (d16 (v1))).setRow (d16 (v2))
  replace hR := hR.after hBW
  replace hF := hF.after hBW
  replace hP := hP.after hBW
  replace hQ := hQ.after hBW
  replace hb0 := below_trans hb0 hBW
  go_wp2_with (first | refine wpList_store_row rfl 32 _ _ rfl g1_12 _ rfl rfl 32 (d16 0) hs12 (info16 _) (by simp only [d16_size]) (tab_oneCell _ _ fun _ => rfl) ?_ | (refine wpList_store_row rfl 32 _ _ rfl g1_13 _ rfl rfl 32 (d16 0) hs13 (info16 _) (by simp only [d16_size]) (tab_oneCell _ _ fun _ => rfl) ?_; generalize hWW : World.setRow _ _ _ = U1 at *; clear hWW))
  clear hBW hb hs12 hz12 hl12 hs13 hz13 hl13
  have ohv_v1_2 := hv_v1.lt
  have ohv_v2_2 := hv_v2.lt
  have ohR_2 := hR.lt
  have ohF_2 := hF.lt
  have ohP_2 := hP.lt
  have ohQ_2 := hQ.lt
  refine region_facts 20 [] [.val (.pointer (some ⟨g, 0, none⟩)), .val (.pointer (some ⟨g, 0, none⟩)), .val (.pointer (some ⟨w.heap.size + 1, 16, none⟩)), .val (.agg (d16 (Y2))), .val (.pointer (some ⟨w.heap.size, 32, none⟩)), .val (.agg (d16 (Z1))), .val (.agg (d16 (v3))), .val (.agg (d16 (v1))), .val (.agg (d16 (v4))), .val (.pointer (some ⟨g, 0, none⟩)), .val (.pointer (some ⟨g, 0, none⟩)), .val (.pointer (some ⟨w.heap.size + 1, 0, none⟩)), .val (.agg (d16 (X2))), .val (.pointer (some ⟨w.heap.size, 32, none⟩)), .val (.agg (d16 (Z1))), .val (.agg (d16 (v5))), .val (.agg (d16 (v2))), .val (.agg (d16 (v6))), .new 32 (d16 0), .new 32 (d16 0)]
    (by kernel_rfl) (by kernel_rfl) (fun _ _ _ _ _ h => h) ?_ ?_
  · simp only [List.take_succ_cons, List.take_zero, StepsOK]
    refine ⟨?_, ?_, ?_, ?_, ?_, ?_, ?_, ?_, ?_, ?_, ?_, ?_, ?_, ?_, ?_, ?_, ?_, ?_, ?_, ?_, trivial⟩
    · intro v w' hb hf K hKt
      simp only [putAll, Act.put, List.setIfInBounds_toArray, List.set_cons_zero, List.set_cons_succ, Nat.zero_add, Nat.reduceAdd] at hKt ⊢
      go_simp
      exact hKt _ (Below.refl _ _)
    · intro v w' hb hf K hKt
      simp only [putAll, Act.put, List.setIfInBounds_toArray, List.set_cons_zero, List.set_cons_succ, Nat.zero_add, Nat.reduceAdd] at hKt ⊢
      go_simp
      exact hKt _ (Below.refl _ _)
    · intro v w' hb hf K hKt
      simp only [putAll, Act.put, List.setIfInBounds_toArray, List.set_cons_zero, List.set_cons_succ, Nat.zero_add, Nat.reduceAdd] at hKt ⊢
      go_simp
      exact hKt _ (Below.refl _ _)
    · intro v w' hb hf K hKt
      have f2 : v 2 = _ := hf ⟨2, .data⟩ (by simp) rfl
      simp only [putAll, Act.put, List.setIfInBounds_toArray, List.set_cons_zero, List.set_cons_succ, Nat.zero_add, Nat.reduceAdd] at hKt ⊢
      rw [f2] at hKt ⊢
      exact wp_load_hex _ rfl (w.heap.size + 1) 16 rfl Y2 (pt_y ((hQ.after hb))) (hKt _ (Below.refl _ _))
    · intro v w' hb hf K hKt
      simp only [putAll, Act.put, List.setIfInBounds_toArray, List.set_cons_zero, List.set_cons_succ, Nat.zero_add, Nat.reduceAdd] at hKt ⊢
      go_simp
      exact hKt _ (Below.refl _ _)
    · intro v w' hb hf K hKt
      have f4 : v 4 = _ := hf ⟨4, .data⟩ (by simp) rfl
      simp only [putAll, Act.put, List.setIfInBounds_toArray, List.set_cons_zero, List.set_cons_succ, Nat.zero_add, Nat.reduceAdd] at hKt ⊢
      rw [f4] at hKt ⊢
      exact wp_load_hex _ rfl (w.heap.size) 32 rfl Z1 (pt_z ((hP.after hb))) (hKt _ (Below.refl _ _))
    · intro v w' hb hf K hKt
      have f1 : v 1 = _ := hf ⟨1, .data⟩ (by simp) rfl
      have f3 : v 3 = _ := hf ⟨3, .data⟩ (by simp) rfl
      have f5 : v 5 = _ := hf ⟨5, .data⟩ (by simp) rfl
      simp only [putAll, Act.put, List.setIfInBounds_toArray, List.set_cons_zero, List.set_cons_succ, Nat.zero_add, Nat.reduceAdd] at hKt ⊢
      rw [f1, f3, f5] at hKt ⊢
      go_simp
      refine (kv3 _ w' (hF.after hb)).mono ?_
      rintro e w'' ⟨rfl, hb2⟩
      exact hKt _ hb2
    · intro v w' hb hf K hKt
      simp only [putAll, Act.put, List.setIfInBounds_toArray, List.set_cons_zero, List.set_cons_succ, Nat.zero_add, Nat.reduceAdd] at hKt ⊢
      exact wp_load_row 32 _ rfl (g1_12) rfl 32 _ (0, 0) _ (hv_v1.after hb) Tryd.underlying32 rfl (info16 _) (hKt _ (Below.refl _ _))
    · intro v w' hb hf K hKt
      have f0 : v 0 = _ := hf ⟨0, .data⟩ (by simp) rfl
      have f6 : v 6 = _ := hf ⟨6, .data⟩ (by simp) rfl
      have f7 : v 7 = _ := hf ⟨7, .data⟩ (by simp) rfl
      simp only [putAll, Act.put, List.setIfInBounds_toArray, List.set_cons_zero, List.set_cons_succ, Nat.zero_add, Nat.reduceAdd] at hKt ⊢
      rw [f0, f6, f7] at hKt ⊢
      go_simp
      refine (kv4 _ w' (hF.after hb)).mono ?_
      rintro e w'' ⟨rfl, hb2⟩
      exact hKt _ hb2
    · intro v w' hb hf K hKt
      simp only [putAll, Act.put, List.setIfInBounds_toArray, List.set_cons_zero, List.set_cons_succ, Nat.zero_add, Nat.reduceAdd] at hKt ⊢
      go_simp
      exact hKt _ (Below.refl _ _)
    · intro v w' hb hf K hKt
      simp only [putAll, Act.put, List.setIfInBounds_toArray, List.set_cons_zero, List.set_cons_succ, Nat.zero_add, Nat.reduceAdd] at hKt ⊢
      go_simp
      exact hKt _ (Below.refl _ _)
    · intro v w' hb hf K hKt
      simp only [putAll, Act.put, List.setIfInBounds_toArray, List.set_cons_zero, List.set_cons_succ, Nat.zero_add, Nat.reduceAdd] at hKt ⊢
      go_simp
      exact hKt _ (Below.refl _ _)
    · intro v w' hb hf K hKt
      have f11 : v 11 = _ := hf ⟨11, .data⟩ (by simp) rfl
      simp only [putAll, Act.put, List.setIfInBounds_toArray, List.set_cons_zero, List.set_cons_succ, Nat.zero_add, Nat.reduceAdd] at hKt ⊢
      rw [f11] at hKt ⊢
      exact wp_load_hex _ rfl (w.heap.size + 1) 0 rfl X2 (pt_x ((hQ.after hb))) (hKt _ (Below.refl _ _))
    · intro v w' hb hf K hKt
      simp only [putAll, Act.put, List.setIfInBounds_toArray, List.set_cons_zero, List.set_cons_succ, Nat.zero_add, Nat.reduceAdd] at hKt ⊢
      go_simp
      exact hKt _ (Below.refl _ _)
    · intro v w' hb hf K hKt
      have f13 : v 13 = _ := hf ⟨13, .data⟩ (by simp) rfl
      simp only [putAll, Act.put, List.setIfInBounds_toArray, List.set_cons_zero, List.set_cons_succ, Nat.zero_add, Nat.reduceAdd] at hKt ⊢
      rw [f13] at hKt ⊢
      exact wp_load_hex _ rfl (w.heap.size) 32 rfl Z1 (pt_z ((hP.after hb))) (hKt _ (Below.refl _ _))
    · intro v w' hb hf K hKt
      have f10 : v 10 = _ := hf ⟨10, .data⟩ (by simp) rfl
      have f12 : v 12 = _ := hf ⟨12, .data⟩ (by simp) rfl
      have f14 : v 14 = _ := hf ⟨14, .data⟩ (by simp) rfl
      simp only [putAll, Act.put, List.setIfInBounds_toArray, List.set_cons_zero, List.set_cons_succ, Nat.zero_add, Nat.reduceAdd] at hKt ⊢
      rw [f10, f12, f14] at hKt ⊢
      go_simp
      refine (kv5 _ w' (hF.after hb)).mono ?_
      rintro e w'' ⟨rfl, hb2⟩
      exact hKt _ hb2
    · intro v w' hb hf K hKt
      simp only [putAll, Act.put, List.setIfInBounds_toArray, List.set_cons_zero, List.set_cons_succ, Nat.zero_add, Nat.reduceAdd] at hKt ⊢
      exact wp_load_row 32 _ rfl (g1_13) rfl 32 _ (0, 0) _ (hv_v2.after hb) Tryd.underlying32 rfl (info16 _) (hKt _ (Below.refl _ _))
    · intro v w' hb hf K hKt
      have f9 : v 9 = _ := hf ⟨9, .data⟩ (by simp) rfl
      have f15 : v 15 = _ := hf ⟨15, .data⟩ (by simp) rfl
      have f16 : v 16 = _ := hf ⟨16, .data⟩ (by simp) rfl
      simp only [putAll, Act.put, List.setIfInBounds_toArray, List.set_cons_zero, List.set_cons_succ, Nat.zero_add, Nat.reduceAdd] at hKt ⊢
      rw [f9, f15, f16] at hKt ⊢
      go_simp
      refine (kv6 _ w' (hF.after hb)).mono ?_
      rintro e w'' ⟨rfl, hb2⟩
      exact hKt _ hb2
    · exact ⟨rfl, rfl, zeroV16⟩
    · exact ⟨rfl, rfl, zeroV16⟩
  intro v u2 hb hF hD
  have f0 : v 0 = _ := hF 0 (by decide)
  have f1 : v 1 = _ := hF 1 (by decide)
  have f2 : v 2 = _ := hF 2 (by decide)
  have f3 : v 3 = _ := hF 3 (by decide)
  have f4 : v 4 = _ := hF 4 (by decide)
  have f5 : v 5 = _ := hF 5 (by decide)
  have f6 : v 6 = _ := hF 6 (by decide)
  have f7 : v 7 = _ := hF 7 (by decide)
  have f8 : v 8 = _ := hF 8 (by decide)
  have f9 : v 9 = _ := hF 9 (by decide)
  have f10 : v 10 = _ := hF 10 (by decide)
  have f11 : v 11 = _ := hF 11 (by decide)
  have f12 : v 12 = _ := hF 12 (by decide)
  have f13 : v 13 = _ := hF 13 (by decide)
  have f14 : v 14 = _ := hF 14 (by decide)
  have f15 : v 15 = _ := hF 15 (by decide)
  have f16 : v 16 = _ := hF 16 (by decide)
  have f17 : v 17 = _ := hF 17 (by decide)
  obtain ⟨g2_18, f18, hg18, hl18, hz18⟩ := hF 18 (by decide)
  replace hz18 : Has u2 g2_18 32 (d16 0) := hz18
  obtain ⟨g2_19, f19, hg19, hl19, hz19⟩ := hF 19 (by decide)
  replace hz19 : Has u2 g2_19 32 (d16 0) := hz19
  have hne18_19 : g2_18 ≠ g2_19 := fun h => hD 18 19 (by decide) (by decide) (by decide) rfl rfl (by rw [f18, f19, h])
  simp only [List.take_succ_cons, List.take_zero, List.drop_succ_cons, List.drop_zero, putAll, Act.put, List.setIfInBounds_toArray, List.set_cons_zero, List.set_cons_succ, Nat.zero_add, Nat.reduceAdd]
  rw [f0, f1, f2, f3, f4, f5, f6, f7, f8, f9, f10, f11, f12, f13, f14, f15, f16, f17, f18, f19]
  clear hF hD f0 f1 f2 f3 f4 f5 f6 f7 f8 f9 f10 f11 f12 f13 f14 f15 f16 f17 f18 f19
  have hs18 := hz18
  have hs19 := (hz19).farRow (k := g2_18) (by omega) (d16 (v4))
  have hBW := below_setRow (below_setRow (hb) (g := g2_18) hg18 (d16 (v4))) (g := g2_19) hg19 (d16 (v6))
  have hv_v4 := ((hz18).setRow (d16 (v4))).farRow (k := g2_19) (by omega) (d16 (v6))
  have hv_v6 := ((hz19).farRow (k := g2_18) (by omega) (d16 (v4))).setRow (d16 (v6))
  replace hv_v1 := hv_v1.after hBW
  replace hv_v2 := hv_v2.after hBW
  replace hR := hR.after hBW
  replace hF := hF.after hBW
  replace hP := hP.after hBW
  replace hQ := hQ.after hBW
  replace hb0 := below_trans hb0 hBW
  go_wp2_with (first | refine wpList_store_row rfl 32 _ _ rfl g2_18 _ rfl rfl 32 (d16 0) hs18 (info16 _) (by simp only [d16_size]) (tab_oneCell _ _ fun _ => rfl) ?_ | (refine wpList_store_row rfl 32 _ _ rfl g2_19 _ rfl rfl 32 (d16 0) hs19 (info16 _) (by simp only [d16_size]) (tab_oneCell _ _ fun _ => rfl) ?_; generalize hWW : World.setRow _ _ _ = U2 at *; clear hWW) | refine wpList_load_has 32 _ rfl _ rfl rfl 32 _ hv_v6 _ Tryd.underlying32 rfl (info16 _) ?_ | refine wpList_load_hex rfl _ rfl w.heap.size 32 rfl Z1 (pt_z (hP)) ?_ | refine wpList_load_hex rfl _ rfl (w.heap.size + 1) 32 rfl Z2 (pt_z (hQ)) ?_)
  clear hBW hb hs18 hz18 hl18 hs19 hz19 hl19
  refine (kv7 _ _ hF).mono ?_
  rintro e u3 ⟨rfl, hx⟩
  have ohv_v1_3 := (hv_v1.after hx).lt
  have ohv_v2_3 := (hv_v2.after hx).lt
  have ohv_v4_3 := (hv_v4.after hx).lt
  have ohv_v6_3 := (hv_v6.after hx).lt
  have hN := put_new u3 32 (d16 0) (d16 v7)
  replace hv_v1 := (hv_v1.after hx).after hN.2
  replace hv_v2 := (hv_v2.after hx).after hN.2
  replace hv_v4 := (hv_v4.after hx).after hN.2
  replace hv_v6 := (hv_v6.after hx).after hN.2
  replace hR := (hR.after hx).after hN.2
  replace hF := (hF.after hx).after hN.2
  replace hP := (hP.after hx).after hN.2
  replace hQ := (hQ.after hx).after hN.2
  replace hb0 := below_trans (below_trans hb0 hx) hN.2
  have hv_v7 := hN.1
  clear hx hN
  go_wp2_with (first | (refine wpList_store_row rfl 32 _ _ rfl u3.heap.size _ rfl rfl 32 (d16 0) (Has.new' rfl) (info16 _) (by simp only [d16_size]) (tab_oneCell _ _ fun _ => rfl) ?_; generalize hWW : World.setRow _ u3.heap.size _ = U3 at *; clear hWW) | refine wpList_load_has 32 _ rfl _ rfl rfl 32 _ hv_v6 _ Tryd.underlying32 rfl (info16 _) ?_)
  refine (kv8 _ _ hF).mono ?_
  rintro e u4 ⟨rfl, hx⟩
  have ohv_v1_4 := (hv_v1.after hx).lt
  have ohv_v2_4 := (hv_v2.after hx).lt
  have ohv_v4_4 := (hv_v4.after hx).lt
  have ohv_v6_4 := (hv_v6.after hx).lt
  have ohv_v7_4 := (hv_v7.after hx).lt
  have hN := put_new u4 32 (d16 0) (d16 v8)
  replace hv_v1 := (hv_v1.after hx).after hN.2
  replace hv_v2 := (hv_v2.after hx).after hN.2
  replace hv_v4 := (hv_v4.after hx).after hN.2
  replace hv_v6 := (hv_v6.after hx).after hN.2
  replace hv_v7 := (hv_v7.after hx).after hN.2
  replace hR := (hR.after hx).after hN.2
  replace hF := (hF.after hx).after hN.2
  replace hP := (hP.after hx).after hN.2
  replace hQ := (hQ.after hx).after hN.2
  replace hb0 := below_trans (below_trans hb0 hx) hN.2
  have hv_v8 := hN.1
  clear hx hN
  go_wp2_with (first | (refine wpList_store_row rfl 32 _ _ rfl u4.heap.size _ rfl rfl 32 (d16 0) (Has.new' rfl) (info16 _) (by simp only [d16_size]) (tab_oneCell _ _ fun _ => rfl) ?_; generalize hWW : World.setRow _ u4.heap.size _ = U4 at *; clear hWW) | refine wpList_load_has 32 _ rfl _ rfl rfl 32 _ hv_v6 _ Tryd.underlying32 rfl (info16 _) ?_ | refine wpList_load_has 32 _ rfl _ rfl rfl 32 _ hv_v8 _ Tryd.underlying32 rfl (info16 _) ?_)
  refine (kv9 _ _ hF).mono ?_
  rintro e u5 ⟨rfl, hx⟩
  have ohv_v1_5 := (hv_v1.after hx).lt
  have ohv_v2_5 := (hv_v2.after hx).lt
  have ohv_v4_5 := (hv_v4.after hx).lt
  have ohv_v6_5 := (hv_v6.after hx).lt
  have ohv_v7_5 := (hv_v7.after hx).lt
  have ohv_v8_5 := (hv_v8.after hx).lt
  have hN := put_new u5 32 (d16 0) (d16 v9)
  replace hv_v1 := (hv_v1.after hx).after hN.2
  replace hv_v2 := (hv_v2.after hx).after hN.2
  replace hv_v4 := (hv_v4.after hx).after hN.2
  replace hv_v6 := (hv_v6.after hx).after hN.2
  replace hv_v7 := (hv_v7.after hx).after hN.2
  replace hv_v8 := (hv_v8.after hx).after hN.2
  replace hR := (hR.after hx).after hN.2
  replace hF := (hF.after hx).after hN.2
  replace hP := (hP.after hx).after hN.2
  replace hQ := (hQ.after hx).after hN.2
  replace hb0 := below_trans (below_trans hb0 hx) hN.2
  have hv_v9 := hN.1
  clear hx hN
  go_wp2_with (first | (refine wpList_store_row rfl 32 _ _ rfl u5.heap.size _ rfl rfl 32 (d16 0) (Has.new' rfl) (info16 _) (by simp only [d16_size]) (tab_oneCell _ _ fun _ => rfl) ?_; generalize hWW : World.setRow _ u5.heap.size _ = U5 at *; clear hWW) | refine wpList_load_has 32 _ rfl _ rfl rfl 32 _ hv_v8 _ Tryd.underlying32 rfl (info16 _) ?_ | refine wpList_load_has 32 _ rfl _ rfl rfl 32 _ hv_v2 _ Tryd.underlying32 rfl (info16 _) ?_)
  refine (kv10 _ _ hF).mono ?_
  rintro e u6 ⟨rfl, hx⟩
  have ohv_v1_6 := (hv_v1.after hx).lt
  have ohv_v2_6 := (hv_v2.after hx).lt
  have ohv_v4_6 := (hv_v4.after hx).lt
  have ohv_v6_6 := (hv_v6.after hx).lt
  have ohv_v7_6 := (hv_v7.after hx).lt
  have ohv_v8_6 := (hv_v8.after hx).lt
  have ohv_v9_6 := (hv_v9.after hx).lt
  have hN := put_new u6 32 (d16 0) (d16 v10)
  replace hv_v1 := (hv_v1.after hx).after hN.2
  replace hv_v2 := (hv_v2.after hx).after hN.2
  replace hv_v4 := (hv_v4.after hx).after hN.2
  replace hv_v6 := (hv_v6.after hx).after hN.2
  replace hv_v7 := (hv_v7.after hx).after hN.2
  replace hv_v8 := (hv_v8.after hx).after hN.2
  replace hv_v9 := (hv_v9.after hx).after hN.2
  replace hR := (hR.after hx).after hN.2
  replace hF := (hF.after hx).after hN.2
  replace hP := (hP.after hx).after hN.2
  replace hQ := (hQ.after hx).after hN.2
  replace hb0 := below_trans (below_trans hb0 hx) hN.2
  have hv_v10 := hN.1
  clear hx hN
  go_wp2_with (first | (refine wpList_store_row rfl 32 _ _ rfl u6.heap.size _ rfl rfl 32 (d16 0) (Has.new' rfl) (info16 _) (by simp only [d16_size]) (tab_oneCell _ _ fun _ => rfl) ?_; generalize hWW : World.setRow _ u6.heap.size _ = U6 at *; clear hWW))
  have ohv_v1_7 := hv_v1.lt
  have ohv_v2_7 := hv_v2.lt
  have ohv_v4_7 := hv_v4.lt
  have ohv_v6_7 := hv_v6.lt
  have ohv_v7_7 := hv_v7.lt
  have ohv_v8_7 := hv_v8.lt
  have ohv_v9_7 := hv_v9.lt
  have ohv_v10_7 := hv_v10.lt
  have ohR_7 := hR.lt
  have ohF_7 := hF.lt
  have ohP_7 := hP.lt
  have ohQ_7 := hQ.lt
  refine region_facts 17 [] [.val (.pointer (some ⟨g, 0, none⟩)), .val (.pointer (some ⟨g, 0, none⟩)), .val (.pointer (some ⟨g, 0, none⟩)), .val (.pointer (some ⟨g, 0, none⟩)), .val (.agg (d16 (v4))), .val (.agg (d16 (v4))), .val (.agg (d16 (v11))), .val (.agg (d16 (v7))), .val (.agg (d16 (v12))), .val (.agg (d16 (v9))), .val (.agg (d16 (v13))), .val (.pointer (some ⟨g, 0, none⟩)), .val (.agg (d16 (v10))), .val (.agg (d16 (v10))), .val (.agg (d16 (v14))), .val (.agg (d16 (v15))), .new 32 (d16 0)]
    (by kernel_rfl) (by kernel_rfl) (fun _ _ _ _ _ h => h) ?_ ?_
  · simp only [List.take_succ_cons, List.take_zero, StepsOK]
    refine ⟨?_, ?_, ?_, ?_, ?_, ?_, ?_, ?_, ?_, ?_, ?_, ?_, ?_, ?_, ?_, ?_, ?_, trivial⟩
    · intro v w' hb hf K hKt
      simp only [putAll, Act.put, List.setIfInBounds_toArray, List.set_cons_zero, List.set_cons_succ, Nat.zero_add, Nat.reduceAdd] at hKt ⊢
      go_simp
      exact hKt _ (Below.refl _ _)
    · intro v w' hb hf K hKt
      simp only [putAll, Act.put, List.setIfInBounds_toArray, List.set_cons_zero, List.set_cons_succ, Nat.zero_add, Nat.reduceAdd] at hKt ⊢
      go_simp
      exact hKt _ (Below.refl _ _)
    · intro v w' hb hf K hKt
      simp only [putAll, Act.put, List.setIfInBounds_toArray, List.set_cons_zero, List.set_cons_succ, Nat.zero_add, Nat.reduceAdd] at hKt ⊢
      go_simp
      exact hKt _ (Below.refl _ _)
    · intro v w' hb hf K hKt
      simp only [putAll, Act.put, List.setIfInBounds_toArray, List.set_cons_zero, List.set_cons_succ, Nat.zero_add, Nat.reduceAdd] at hKt ⊢
      go_simp
      exact hKt _ (Below.refl _ _)
    · intro v w' hb hf K hKt
      simp only [putAll, Act.put, List.setIfInBounds_toArray, List.set_cons_zero, List.set_cons_succ, Nat.zero_add, Nat.reduceAdd] at hKt ⊢
      exact wp_load_row 32 _ rfl (g2_18) rfl 32 _ (0, 0) _ (hv_v4.after hb) Tryd.underlying32 rfl (info16 _) (hKt _ (Below.refl _ _))
    · intro v w' hb hf K hKt
      simp only [putAll, Act.put, List.setIfInBounds_toArray, List.set_cons_zero, List.set_cons_succ, Nat.zero_add, Nat.reduceAdd] at hKt ⊢
      exact wp_load_row 32 _ rfl (g2_18) rfl 32 _ (0, 0) _ (hv_v4.after hb) Tryd.underlying32 rfl (info16 _) (hKt _ (Below.refl _ _))
    · intro v w' hb hf K hKt
      have f3 : v 3 = _ := hf ⟨3, .data⟩ (by simp) rfl
      have f4 : v 4 = _ := hf ⟨4, .data⟩ (by simp) rfl
      have f5 : v 5 = _ := hf ⟨5, .data⟩ (by simp) rfl
      simp only [putAll, Act.put, List.setIfInBounds_toArray, List.set_cons_zero, List.set_cons_succ, Nat.zero_add, Nat.reduceAdd] at hKt ⊢
      rw [f3, f4, f5] at hKt ⊢
      go_simp
      refine (kv11 _ w' (hF.after hb)).mono ?_
      rintro e w'' ⟨rfl, hb2⟩
      exact hKt _ hb2
    · intro v w' hb hf K hKt
      simp only [putAll, Act.put, List.setIfInBounds_toArray, List.set_cons_zero, List.set_cons_succ, Nat.zero_add, Nat.reduceAdd] at hKt ⊢
      exact wp_load_row 32 _ rfl (u3.heap.size) rfl 32 _ (0, 0) _ (hv_v7.after hb) Tryd.underlying32 rfl (info16 _) (hKt _ (Below.refl _ _))
    · intro v w' hb hf K hKt
      have f2 : v 2 = _ := hf ⟨2, .data⟩ (by simp) rfl
      have f6 : v 6 = _ := hf ⟨6, .data⟩ (by simp) rfl
      have f7 : v 7 = _ := hf ⟨7, .data⟩ (by simp) rfl
      simp only [putAll, Act.put, List.setIfInBounds_toArray, List.set_cons_zero, List.set_cons_succ, Nat.zero_add, Nat.reduceAdd] at hKt ⊢
      rw [f2, f6, f7] at hKt ⊢
      go_simp
      refine (kv12 _ w' (hF.after hb)).mono ?_
      rintro e w'' ⟨rfl, hb2⟩
      exact hKt _ hb2
    · intro v w' hb hf K hKt
      simp only [putAll, Act.put, List.setIfInBounds_toArray, List.set_cons_zero, List.set_cons_succ, Nat.zero_add, Nat.reduceAdd] at hKt ⊢
      exact wp_load_row 32 _ rfl (u5.heap.size) rfl 32 _ (0, 0) _ (hv_v9.after hb) Tryd.underlying32 rfl (info16 _) (hKt _ (Below.refl _ _))
    · intro v w' hb hf K hKt
      have f1 : v 1 = _ := hf ⟨1, .data⟩ (by simp) rfl
      have f8 : v 8 = _ := hf ⟨8, .data⟩ (by simp) rfl
      have f9 : v 9 = _ := hf ⟨9, .data⟩ (by simp) rfl
      simp only [putAll, Act.put, List.setIfInBounds_toArray, List.set_cons_zero, List.set_cons_succ, Nat.zero_add, Nat.reduceAdd] at hKt ⊢
      rw [f1, f8, f9] at hKt ⊢
      go_simp
      refine (kv13 _ w' (hF.after hb)).mono ?_
      rintro e w'' ⟨rfl, hb2⟩
      exact hKt _ hb2
    · intro v w' hb hf K hKt
      simp only [putAll, Act.put, List.setIfInBounds_toArray, List.set_cons_zero, List.set_cons_succ, Nat.zero_add, Nat.reduceAdd] at hKt ⊢
      go_simp
      exact hKt _ (Below.refl _ _)
    · intro v w' hb hf K hKt
      simp only [putAll, Act.put, List.setIfInBounds_toArray, List.set_cons_zero, List.set_cons_succ, Nat.zero_add, Nat.reduceAdd] at hKt ⊢
      exact wp_load_row 32 _ rfl (u6.heap.size) rfl 32 _ (0, 0) _ (hv_v10.after hb) Tryd.underlying32 rfl (info16 _) (hKt _ (Below.refl _ _))
    · intro v w' hb hf K hKt
      simp only [putAll, Act.put, List.setIfInBounds_toArray, List.set_cons_zero, List.set_cons_succ, Nat.zero_add, Nat.reduceAdd] at hKt ⊢
      exact wp_load_row 32 _ rfl (u6.heap.size) rfl 32 _ (0, 0) _ (hv_v10.after hb) Tryd.underlying32 rfl (info16 _) (hKt _ (Below.refl _ _))
    · intro v w' hb hf K hKt
      have f11 : v 11 = _ := hf ⟨11, .data⟩ (by simp) rfl
      have f12 : v 12 = _ := hf ⟨12, .data⟩ (by simp) rfl
      have f13 : v 13 = _ := hf ⟨13, .data⟩ (by simp) rfl
      simp only [putAll, Act.put, List.setIfInBounds_toArray, List.set_cons_zero, List.set_cons_succ, Nat.zero_add, Nat.reduceAdd] at hKt ⊢
      rw [f11, f12, f13] at hKt ⊢
      go_simp
      refine (kv14 _ w' (hF.after hb)).mono ?_
      rintro e w'' ⟨rfl, hb2⟩
      exact hKt _ hb2
    · intro v w' hb hf K hKt
      have f0 : v 0 = _ := hf ⟨0, .data⟩ (by simp) rfl
      have f10 : v 10 = _ := hf ⟨10, .data⟩ (by simp) rfl
      have f14 : v 14 = _ := hf ⟨14, .data⟩ (by simp) rfl
      simp only [putAll, Act.put, List.setIfInBounds_toArray, List.set_cons_zero, List.set_cons_succ, Nat.zero_add, Nat.reduceAdd] at hKt ⊢
      rw [f0, f10, f14] at hKt ⊢
      go_simp
      refine (kv15 _ w' (hF.after hb)).mono ?_
      rintro e w'' ⟨rfl, hb2⟩
      exact hKt _ hb2
    · exact ⟨rfl, rfl, zeroV16⟩
  intro v u7 hb hF hD
  have f0 : v 0 = _ := hF 0 (by decide)
  have f1 : v 1 = _ := hF 1 (by decide)
  have f2 : v 2 = _ := hF 2 (by decide)
  have f3 : v 3 = _ := hF 3 (by decide)
  have f4 : v 4 = _ := hF 4 (by decide)
  have f5 : v 5 = _ := hF 5 (by decide)
  have f6 : v 6 = _ := hF 6 (by decide)
  have f7 : v 7 = _ := hF 7 (by decide)
  have f8 : v 8 = _ := hF 8 (by decide)
  have f9 : v 9 = _ := hF 9 (by decide)
  have f10 : v 10 = _ := hF 10 (by decide)
  have f11 : v 11 = _ := hF 11 (by decide)
  have f12 : v 12 = _ := hF 12 (by decide)
  have f13 : v 13 = _ := hF 13 (by decide)
  have f14 : v 14 = _ := hF 14 (by decide)
  have f15 : v 15 = _ := hF 15 (by decide)
  obtain ⟨g7_16, f16, hg16, hl16, hz16⟩ := hF 16 (by decide)
  replace hz16 : Has u7 g7_16 32 (d16 0) := hz16
  simp only [List.take_succ_cons, List.take_zero, List.drop_succ_cons, List.drop_zero, putAll, Act.put, List.setIfInBounds_toArray, List.set_cons_zero, List.set_cons_succ, Nat.zero_add, Nat.reduceAdd]
  rw [f0, f1, f2, f3, f4, f5, f6, f7, f8, f9, f10, f11, f12, f13, f14, f15, f16]
  clear hF hD f0 f1 f2 f3 f4 f5 f6 f7 f8 f9 f10 f11 f12 f13 f14 f15 f16
  have hs16 := hz16
  have hBW := below_setRow (hb) (g := g7_16) hg16 (d16 (v15))
  have hv_v15 := (hz16).setRow (d16 (v15))
  replace hv_v1 := hv_v1.after hBW
  replace hv_v10 := hv_v10.after hBW
  replace hv_v2 := hv_v2.after hBW
  replace hv_v4 := hv_v4.after hBW
  replace hv_v6 := hv_v6.after hBW
  replace hv_v7 := hv_v7.after hBW
  replace hv_v8 := hv_v8.after hBW
  replace hv_v9 := hv_v9.after hBW
  replace hR := hR.after hBW
  replace hF := hF.after hBW
  replace hP := hP.after hBW
  replace hQ := hQ.after hBW
  replace hb0 := below_trans hb0 hBW
  go_wp2_with (first | (refine wpList_store_row rfl 32 _ _ rfl g7_16 _ rfl rfl 32 (d16 0) hs16 (info16 _) (by simp only [d16_size]) (tab_oneCell _ _ fun _ => rfl) ?_; generalize hWW : World.setRow _ _ _ = U7 at *; clear hWW))
  clear hBW hb hs16 hz16 hl16
  refine region_quiet_tail (Below U7.heap.size U7) 22 (by kernel_rfl) (by kernel_rfl) (below_drewN (Below.refl _ _) 1) ?_
  simp only [List.take_succ_cons, List.take_zero, List.drop_succ_cons, List.drop_zero]
  refine wpQ_move _ rfl rfl (.pointer (some ⟨g, 0, none⟩)) rfl ?_
  simp only [Act.put, List.setIfInBounds_toArray, List.set_cons_zero, List.set_cons_succ]
  refine wpQ_has 32 _ rfl _ rfl rfl 32 _ (fun w' hC => hv_v6.after hC) _ Tryd.underlying32 rfl (info16 _) ?_
  simp only [Act.put, List.setIfInBounds_toArray, List.set_cons_zero, List.set_cons_succ]
  refine wpQ_has 32 _ rfl _ rfl rfl 32 _ (fun w' hC => hv_v15.after hC) _ Tryd.underlying32 rfl (info16 _) ?_
  simp only [Act.put, List.setIfInBounds_toArray, List.set_cons_zero, List.set_cons_succ]
  refine wpQ_fn 44 _ _ rfl rfl #[.pointer (some ⟨g, 0, none⟩), .agg (d16 (v6)), .agg (d16 (v15))] rfl (fun _ => by go_simp) (.agg (d16 (v16))) (fun w' hC => (kv16 _ w' (hF.after hC)).mono fun e w'' ⟨he, hb⟩ => ⟨he, below_class hC hb⟩) ?_
  simp only [Act.put, List.setIfInBounds_toArray, List.set_cons_zero, List.set_cons_succ]
  refine wpQ_move _ rfl rfl (.pointer (some ⟨g, 0, none⟩)) rfl ?_
  simp only [Act.put, List.setIfInBounds_toArray, List.set_cons_zero, List.set_cons_succ]
  refine wpQ_move _ rfl rfl (.pointer (some ⟨g, 0, none⟩)) rfl ?_
  simp only [Act.put, List.setIfInBounds_toArray, List.set_cons_zero, List.set_cons_succ]
  refine wpQ_has 32 _ rfl _ rfl rfl 32 _ (fun w' hC => hv_v4.after hC) _ Tryd.underlying32 rfl (info16 _) ?_
  simp only [Act.put, List.setIfInBounds_toArray, List.set_cons_zero, List.set_cons_succ]
  refine wpQ_move _ rfl rfl (.pointer (some ⟨g, 0, none⟩)) rfl ?_
  simp only [Act.put, List.setIfInBounds_toArray, List.set_cons_zero, List.set_cons_succ]
  refine wpQ_has 32 _ rfl _ rfl rfl 32 _ (fun w' hC => hv_v10.after hC) _ Tryd.underlying32 rfl (info16 _) ?_
  simp only [Act.put, List.setIfInBounds_toArray, List.set_cons_zero, List.set_cons_succ]
  refine wpQ_has 32 _ rfl _ rfl rfl 32 _ (fun w' hC => hv_v15.after hC) _ Tryd.underlying32 rfl (info16 _) ?_
  simp only [Act.put, List.setIfInBounds_toArray, List.set_cons_zero, List.set_cons_succ]
  refine wpQ_fn 45 _ _ rfl rfl #[.pointer (some ⟨g, 0, none⟩), .agg (d16 (v10)), .agg (d16 (v15))] rfl (fun _ => by go_simp) (.agg (d16 (v17))) (fun w' hC => (kv17 _ w' (hF.after hC)).mono fun e w'' ⟨he, hb⟩ => ⟨he, below_class hC hb⟩) ?_
  simp only [Act.put, List.setIfInBounds_toArray, List.set_cons_zero, List.set_cons_succ]
  refine wpQ_fn 44 _ _ rfl rfl #[.pointer (some ⟨g, 0, none⟩), .agg (d16 (v4)), .agg (d16 (v17))] rfl (fun _ => by go_simp) (.agg (d16 (v18))) (fun w' hC => (kv18 _ w' (hF.after hC)).mono fun e w'' ⟨he, hb⟩ => ⟨he, below_class hC hb⟩) ?_
  simp only [Act.put, List.setIfInBounds_toArray, List.set_cons_zero, List.set_cons_succ]
  refine wpQ_move _ rfl rfl (.pointer (some ⟨g, 0, none⟩)) rfl ?_
  simp only [Act.put, List.setIfInBounds_toArray, List.set_cons_zero, List.set_cons_succ]
  refine wpQ_has 32 _ rfl _ rfl rfl 32 _ (fun w' hC => hv_v9.after hC) _ Tryd.underlying32 rfl (info16 _) ?_
  simp only [Act.put, List.setIfInBounds_toArray, List.set_cons_zero, List.set_cons_succ]
  refine wpQ_has 32 _ rfl _ rfl rfl 32 _ (fun w' hC => hv_v1.after hC) _ Tryd.underlying32 rfl (info16 _) ?_
  simp only [Act.put, List.setIfInBounds_toArray, List.set_cons_zero, List.set_cons_succ]
  refine wpQ_fn 44 _ _ rfl rfl #[.pointer (some ⟨g, 0, none⟩), .agg (d16 (v9)), .agg (d16 (v1))] rfl (fun _ => by go_simp) (.agg (d16 (v19))) (fun w' hC => (kv19 _ w' (hF.after hC)).mono fun e w'' ⟨he, hb⟩ => ⟨he, below_class hC hb⟩) ?_
  simp only [Act.put, List.setIfInBounds_toArray, List.set_cons_zero, List.set_cons_succ]
  refine wpQ_fn 45 _ _ rfl rfl #[.pointer (some ⟨g, 0, none⟩), .agg (d16 (v18)), .agg (d16 (v19))] rfl (fun _ => by go_simp) (.agg (d16 (v20))) (fun w' hC => (kv20 _ w' (hF.after hC)).mono fun e w'' ⟨he, hb⟩ => ⟨he, below_class hC hb⟩) ?_
  simp only [Act.put, List.setIfInBounds_toArray, List.set_cons_zero, List.set_cons_succ]
  refine wpQ_move _ rfl rfl (.pointer (some ⟨g, 0, none⟩)) rfl ?_
  simp only [Act.put, List.setIfInBounds_toArray, List.set_cons_zero, List.set_cons_succ]
  refine wpQ_has 32 _ rfl _ rfl rfl 32 _ (fun w' hC => hv_v9.after hC) _ Tryd.underlying32 rfl (info16 _) ?_
  simp only [Act.put, List.setIfInBounds_toArray, List.set_cons_zero, List.set_cons_succ]
  refine wpQ_has 32 _ rfl _ rfl rfl 32 _ (fun w' hC => hv_v7.after hC) _ Tryd.underlying32 rfl (info16 _) ?_
  simp only [Act.put, List.setIfInBounds_toArray, List.set_cons_zero, List.set_cons_succ]
  refine wpQ_fn 44 _ _ rfl rfl #[.pointer (some ⟨g, 0, none⟩), .agg (d16 (v9)), .agg (d16 (v7))] rfl (fun _ => by go_simp) (.agg (d16 (v21))) (fun w' hC => (kv21 _ w' (hF.after hC)).mono fun e w'' ⟨he, hb⟩ => ⟨he, below_class hC hb⟩) ?_
  simp only [Act.put, List.setIfInBounds_toArray, List.set_cons_zero, List.set_cons_succ]
  refine wpQ_parts4 39 _ rfl rfl #[(0, .agg (d16 (v16))), (1, .agg (d16 (v20))), (2, .agg (d16 (v21)))] (by simp only [List.map_toArray, List.map_cons, List.map_nil]; rfl) (.agg (ptC (v16) (v20) (v21))) (fun w' _ => buildPt _ _ _ w') ?_
  simp only [Act.put, List.setIfInBounds_toArray, List.set_cons_zero, List.set_cons_succ]
  refine wpQuiet_nil ?_
  intro u8 hC
  replace hv_v1 := hv_v1.after hC
  replace hv_v2 := hv_v2.after hC
  replace hv_v4 := hv_v4.after hC
  replace hv_v6 := hv_v6.after hC
  replace hv_v7 := hv_v7.after hC
  replace hv_v8 := hv_v8.after hC
  replace hv_v9 := hv_v9.after hC
  replace hv_v10 := hv_v10.after hC
  replace hv_v15 := hv_v15.after hC
  replace hR := hR.after hC
  replace hF := hF.after hC
  replace hP := hP.after hC
  replace hQ := hQ.after hC
  replace hb0 := below_trans hb0 hC
  clear hC
  go_wp2_with (first | refine wpList_store_row rfl 39 _ _ rfl (w.heap.size + 1 + 1) _ rfl rfl 39 _ hR (infoPt _ _ _) (by simp only [ptC_size]) (tab_oneCell _ _ fun _ => rfl) ?_)
  exact bodyPost_ret (v := .agg (ptC v16 v20 v21)) (results_cell_row rfl _ _ (w.heap.size + 1 + 1) 39 _ _ _ rfl (hR.setRow _) Tryd.underlying39 rfl (infoPt _ _ _)) rfl ⟨rfl, below_setRow hb0 (by omega) _⟩
end Go.Proofs.YtmgmfifkldpbmaaDoor
namespace Go.Proofs.YtmgmfifkldpbmaaDoor
open Go.RowKit

set_option maxRecDepth 100000 in
theorem buildPt3 (X Y Z : Nat) (W : World) : (Instr.build 39 #[(0, .agg (d16 X)), (1, .agg (d16 Y)), (2, .agg (d16 Z))]).run Tryd.prog W = .ok (.agg (ptC X Y Z)) W := buildPt X Y Z W
attribute [local go_sem] zero16 zero48 one16
set_option maxRecDepth 100000 in
set_option maxHeartbeats 4000000 in
theorem plus_same (X1 Y1 Z1 X2 Y2 Z2 m : Nat) (hm : FldOK m) (hmp : m = Ec.pp) (lX1 : X1 < m) (lY1 : Y1 < m) (lZ1 : Z1 < m) (lX2 : X2 < m) (lY2 : Y2 < m) (lZ2 : Z2 < m) (hz1 : Z1 ≠ 0) (hz2 : Z2 ≠ 0) (hv : (X2 * Z1 % m + (m - X1 * Z2 % m)) % m = 0) (hu : (Y2 * Z1 % m + (m - Y1 * Z2 % m)) % m = 0) (X' Y' Z' g : Nat) (w : World) (hF : IsField w g m)
    (hD : ∀ g w, IsField w g m → Calls Tryd.prog 32 #[.pointer (some ⟨g, 0, none⟩), .agg (ptC X1 Y1 Z1)] w fun e w' => e = .returned (.agg (ptC X' Y' Z')) ∧ Below w.heap.size w w') : Calls Tryd.prog 19 #[.pointer (some ⟨g, 0, none⟩), .agg (ptC X1 Y1 Z1), .agg (ptC X2 Y2 Z2)] w fun e w' => e = .returned (.agg (ptC X' Y' Z')) ∧ Below w.heap.size w w' := by
  have m0 := hm.1
  obtain ⟨v1, ev1⟩ : ∃ v, v = Y1 * Z2 % m := ⟨_, rfl⟩
  have lv1 : v1 < m := by rw [ev1]; exact Nat.mod_lt _ m0
  have kv1 := fun g W (h : IsField W g m) => fmul_c Y1 Z2 m g W h hm lY1 lZ2
  rw [← ev1] at kv1
  have cv1 : Ec.c v1 = Ec.c Y1 * Ec.c Z2 := by rw [ev1]; exact cm hmp Y1 Z2
  obtain ⟨v2, ev2⟩ : ∃ v, v = X1 * Z2 % m := ⟨_, rfl⟩
  have lv2 : v2 < m := by rw [ev2]; exact Nat.mod_lt _ m0
  have kv2 := fun g W (h : IsField W g m) => fmul_c X1 Z2 m g W h hm lX1 lZ2
  rw [← ev2] at kv2
  have cv2 : Ec.c v2 = Ec.c X1 * Ec.c Z2 := by rw [ev2]; exact cm hmp X1 Z2
  obtain ⟨v3, ev3⟩ : ∃ v, v = Y2 * Z1 % m := ⟨_, rfl⟩
  have lv3 : v3 < m := by rw [ev3]; exact Nat.mod_lt _ m0
  have kv3 := fun g W (h : IsField W g m) => fmul_c Y2 Z1 m g W h hm lY2 lZ1
  rw [← ev3] at kv3
  have cv3 : Ec.c v3 = Ec.c Y2 * Ec.c Z1 := by rw [ev3]; exact cm hmp Y2 Z1
  obtain ⟨v4, ev4⟩ : ∃ v, v = (v3 + (m - v1)) % m := ⟨_, rfl⟩
  have lv4 : v4 < m := by rw [ev4]; exact Nat.mod_lt _ m0
  have kv4 := fun g W (h : IsField W g m) => fsub_c v3 v1 m g W h hm lv3 lv1
  rw [← ev4] at kv4
  have cv4 : Ec.c v4 = Ec.c v3 - Ec.c v1 := by rw [ev4]; exact cs hmp v3 v1 (Nat.le_of_lt lv1)
  obtain ⟨v5, ev5⟩ : ∃ v, v = X2 * Z1 % m := ⟨_, rfl⟩
  have lv5 : v5 < m := by rw [ev5]; exact Nat.mod_lt _ m0
  have kv5 := fun g W (h : IsField W g m) => fmul_c X2 Z1 m g W h hm lX2 lZ1
  rw [← ev5] at kv5
  have cv5 : Ec.c v5 = Ec.c X2 * Ec.c Z1 := by rw [ev5]; exact cm hmp X2 Z1
  obtain ⟨v6, ev6⟩ : ∃ v, v = (v5 + (m - v2)) % m := ⟨_, rfl⟩
  have lv6 : v6 < m := by rw [ev6]; exact Nat.mod_lt _ m0
  have kv6 := fun g W (h : IsField W g m) => fsub_c v5 v2 m g W h hm lv5 lv2
  rw [← ev6] at kv6
  have cv6 : Ec.c v6 = Ec.c v5 - Ec.c v2 := by rw [ev6]; exact cs hmp v5 v2 (Nat.le_of_lt lv2)
  rw [← ev5, ← ev2, ← ev6] at hv
  rw [← ev3, ← ev1, ← ev4] at hu
  have hn1 := hexNe Z1 m hm lZ1 hz1
  have hn2 := hexNe Z2 m hm lZ2 hz2
  have hn3 : ∀ W, (binOp .eql 32 (.agg (d16 v6)) (.agg (d16 0))).run Tryd.prog W = .ok (.bool true) W := fun W => by rw [hv]; exact hexZ W
  have hn4 : ∀ W, (binOp .eql 32 (.agg (d16 v4)) (.agg (d16 0))).run Tryd.prog W = .ok (.bool true) W := fun W => by rw [hu]; exact hexZ W
  clear ev1 cv1 lv1 ev2 cv2 lv2 ev3 cv3 lv3 ev4 cv4 lv4 ev5 cv5 lv5 ev6 cv6 lv6 hm hmp lX1 lY1 lZ1 lX2 lY2 lZ2 m0 hz1 hz2 hv hu
  have n0 := d16_ne 0
  have hP : Has (((w.alloc (.cells (ptC X1 Y1 Z1) 39)).alloc (.cells (ptC X2 Y2 Z2) 39)).alloc (.cells (ptC 0 0 0) 39)) w.heap.size 39 (ptC X1 Y1 Z1) := ((Has.new w _ _).alloc _).alloc _
  have hQ : Has (((w.alloc (.cells (ptC X1 Y1 Z1) 39)).alloc (.cells (ptC X2 Y2 Z2) 39)).alloc (.cells (ptC 0 0 0) 39)) (w.heap.size + 1) 39 (ptC X2 Y2 Z2) := (Has.new' (by simp)).alloc _
  have hR : Has (((w.alloc (.cells (ptC X1 Y1 Z1) 39)).alloc (.cells (ptC X2 Y2 Z2) 39)).alloc (.cells (ptC 0 0 0) 39)) (w.heap.size + 1 + 1) 39 (ptC 0 0 0) := Has.new' (by simp)
  have hb0 : Below w.heap.size w (((w.alloc (.cells (ptC X1 Y1 Z1) 39)).alloc (.cells (ptC X2 Y2 Z2) 39)).alloc (.cells (ptC 0 0 0) 39)) := (((Below.refl _ _).alloc (Nat.le_refl _) _).alloc (by simp) _).alloc (by simp <;> omega) _
  replace hF := hF.after hb0
  go_enter Tryd.func19, Tryd.ntmps19
  go_wp2_with (first | refine wpList_load_hex rfl _ rfl (w.heap.size) 32 rfl Z1 (pt_z hP) ?_ | refine wpList_load_hex rfl _ rfl (w.heap.size + 1) 32 rfl Z2 (pt_z hQ) ?_)
  generalize ((w.alloc _).alloc _).alloc _ = U0 at *
  clear hn1 hn2
  go_wp2_with fail
  have ohR_1 := hR.lt
  have ohF_1 := hF.lt
  have ohP_1 := hP.lt
  have ohQ_1 := hQ.lt
  refine region_facts 14 [] [.val (.pointer (some ⟨g, 0, none⟩)), .val (.pointer (some ⟨w.heap.size, 16, none⟩)), .val (.agg (d16 (Y1))), .val (.pointer (some ⟨w.heap.size + 1, 32, none⟩)), .val (.agg (d16 (Z2))), .val (.agg (d16 (v1))), .val (.pointer (some ⟨g, 0, none⟩)), .val (.pointer (some ⟨w.heap.size, 0, none⟩)), .val (.agg (d16 (X1))), .val (.pointer (some ⟨w.heap.size + 1, 32, none⟩)), .val (.agg (d16 (Z2))), .val (.agg (d16 (v2))), .new 32 (d16 0), .new 32 (d16 0)]
    (by kernel_rfl) (by kernel_rfl) (fun _ _ _ _ _ h => h) ?_ ?_
  · simp only [List.take_succ_cons, List.take_zero, StepsOK]
    refine ⟨?_, ?_, ?_, ?_, ?_, ?_, ?_, ?_, ?_, ?_, ?_, ?_, ?_, ?_, trivial⟩
    · intro v w' hb hf K hKt
      simp only [putAll, Act.put, List.setIfInBounds_toArray, List.set_cons_zero, List.set_cons_succ, Nat.zero_add, Nat.reduceAdd] at hKt ⊢
      go_simp
      exact hKt _ (Below.refl _ _)
    · intro v w' hb hf K hKt
      simp only [putAll, Act.put, List.setIfInBounds_toArray, List.set_cons_zero, List.set_cons_succ, Nat.zero_add, Nat.reduceAdd] at hKt ⊢
      go_simp
      exact hKt _ (Below.refl _ _)
    · intro v w' hb hf K hKt
      have f1 : v 1 = _ := hf ⟨1, .data⟩ (by simp) rfl
      simp only [putAll, Act.put, List.setIfInBounds_toArray, List.set_cons_zero, List.set_cons_succ, Nat.zero_add, Nat.reduceAdd] at hKt ⊢
      rw [f1] at hKt ⊢
      exact wp_load_hex _ rfl (w.heap.size) 16 rfl Y1 (pt_y ((hP.after hb))) (hKt _ (Below.refl _ _))
    · intro v w' hb hf K hKt
      simp only [putAll, Act.put, List.setIfInBounds_toArray, List.set_cons_zero, List.set_cons_succ, Nat.zero_add, Nat.reduceAdd] at hKt ⊢
      go_simp
      exact hKt _ (Below.refl _ _)
    · intro v w' hb hf K hKt
      have f3 : v 3 = _ := hf ⟨3, .data⟩ (by simp) rfl
      simp only [putAll, Act.put, List.setIfInBounds_toArray, List.set_cons_zero, List.set_cons_succ, Nat.zero_add, Nat.reduceAdd] at hKt ⊢
      rw [f3] at hKt ⊢
      exact wp_load_hex _ rfl (w.heap.size + 1) 32 rfl Z2 (pt_z ((hQ.after hb))) (hKt _ (Below.refl _ _))
    · intro v w' hb hf K hKt
      have f0 : v 0 = _ := hf ⟨0, .data⟩ (by simp) rfl
      have f2 : v 2 = _ := hf ⟨2, .data⟩ (by simp) rfl
      have f4 : v 4 = _ := hf ⟨4, .data⟩ (by simp) rfl
      simp only [putAll, Act.put, List.setIfInBounds_toArray, List.set_cons_zero, List.set_cons_succ, Nat.zero_add, Nat.reduceAdd] at hKt ⊢
      rw [f0, f2, f4] at hKt ⊢
      go_simp
      refine (kv1 _ w' (hF.after hb)).mono ?_
      rintro e w'' ⟨rfl, hb2⟩
      exact hKt _ hb2
    · intro v w' hb hf K hKt
      simp only [putAll, Act.put, List.setIfInBounds_toArray, List.set_cons_zero, List.set_cons_succ, Nat.zero_add, Nat.reduceAdd] at hKt ⊢
      go_simp
      exact hKt _ (Below.refl _ _)
    · intro v w' hb hf K hKt
      simp only [putAll, Act.put, List.setIfInBounds_toArray, List.set_cons_zero, List.set_cons_succ, Nat.zero_add, Nat.reduceAdd] at hKt ⊢
      go_simp
      exact hKt _ (Below.refl _ _)
    · intro v w' hb hf K hKt
      have f7 : v 7 = _ := hf ⟨7, .data⟩ (by simp) rfl
      simp only [putAll, Act.put, List.setIfInBounds_toArray, List.set_cons_zero, List.set_cons_succ, Nat.zero_add, Nat.reduceAdd] at hKt ⊢
      rw [f7] at hKt ⊢
      exact wp_load_hex _ rfl (w.heap.size) 0 rfl X1 (pt_x ((hP.after hb))) (hKt _ (Below.refl _ _))
    · intro v w' hb hf K hKt
      simp only [putAll, Act.put, List.setIfInBounds_toArray, List.set_cons_zero, List.set_cons_succ, Nat.zero_add, Nat.reduceAdd] at hKt ⊢
      go_simp
      exact hKt _ (Below.refl _ _)
    · intro v w' hb hf K hKt
      have f9 : v 9 = _ := hf ⟨9, .data⟩ (by simp) rfl
      simp only [putAll, Act.put, List.setIfInBounds_toArray, List.set_cons_zero, List.set_cons_succ, Nat.zero_add, Nat.reduceAdd] at hKt ⊢
      rw [f9] at hKt ⊢
      exact wp_load_hex _ rfl (w.heap.size + 1) 32 rfl Z2 (pt_z ((hQ.after hb))) (hKt _ (Below.refl _ _))
    · intro v w' hb hf K hKt
      have f6 : v 6 = _ := hf ⟨6, .data⟩ (by simp) rfl
      have f8 : v 8 = _ := hf ⟨8, .data⟩ (by simp) rfl
      have f10 : v 10 = _ := hf ⟨10, .data⟩ (by simp) rfl
      simp only [putAll, Act.put, List.setIfInBounds_toArray, List.set_cons_zero, List.set_cons_succ, Nat.zero_add, Nat.reduceAdd] at hKt ⊢
      rw [f6, f8, f10] at hKt ⊢
      go_simp
      refine (kv2 _ w' (hF.after hb)).mono ?_
      rintro e w'' ⟨rfl, hb2⟩
      exact hKt _ hb2
    · exact ⟨rfl, rfl, zeroV16⟩
    · exact ⟨rfl, rfl, zeroV16⟩
  intro v u1 hb hF hD
  have f0 : v 0 = _ := hF 0 (by decide)
  have f1 : v 1 = _ := hF 1 (by decide)
  have f2 : v 2 = _ := hF 2 (by decide)
  have f3 : v 3 = _ := hF 3 (by decide)
  have f4 : v 4 = _ := hF 4 (by decide)
  have f5 : v 5 = _ := hF 5 (by decide)
  have f6 : v 6 = _ := hF 6 (by decide)
  have f7 : v 7 = _ := hF 7 (by decide)
  have f8 : v 8 = _ := hF 8 (by decide)
  have f9 : v 9 = _ := hF 9 (by decide)
  have f10 : v 10 = _ := hF 10 (by decide)
  have f11 : v 11 = _ := hF 11 (by decide)
  obtain ⟨g1_12, f12, hg12, hl12, hz12⟩ := hF 12 (by decide)
  replace hz12 : Has u1 g1_12 32 (d16 0) := hz12
  obtain ⟨g1_13, f13, hg13, hl13, hz13⟩ := hF 13 (by decide)
  replace hz13 : Has u1 g1_13 32 (d16 0) := hz13
  have hne12_13 : g1_12 ≠ g1_13 := fun h => hD 12 13 (by decide) (by decide) (by decide) rfl rfl (by rw [f12, f13, h])
  simp only [List.take_succ_cons, List.take_zero, List.drop_succ_cons, List.drop_zero, putAll, Act.put, List.setIfInBounds_toArray, List.set_cons_zero, List.set_cons_succ, Nat.zero_add, Nat.reduceAdd]
  rw [f0, f1, f2, f3, f4, f5, f6, f7, f8, f9, f10, f11, f12, f13]
  clear hF hD f0 f1 f2 f3 f4 f5 f6 f7 f8 f9 f10 f11 f12 f13
  have hs12 := hz12
  have hs13 := (hz13).farRow (k := g1_12) (by omega) (d16 (v1))
  have hBW := below_setRow (below_setRow (hb) (g := g1_12) hg12 (d16 (v1))) (g := g1_13) hg13 (d16 (v2))
  have hv_v1 := ((hz12).setRow (d16 (v1))).farRow (k := g1_13) (by omega) (d16 (v2))
  have hv_v2 := ((hz13).farRow (k := g1_12) (by omega) (d16 (v1))).setRow (d16 (v2))
  replace hR := hR.after hBW
  replace hF := hF.after hBW
  replace hP := hP.after hBW
  replace hQ := hQ.after hBW
  replace hb0 := below_trans hb0 hBW
  go_wp2_with (first | refine wpList_store_row rfl 32 _ _ rfl g1_12 _ rfl rfl 32 (d16 0) hs12 (info16 _) (by simp only [d16_size]) (tab_oneCell _ _ fun _ => rfl) ?_ | (refine wpList_store_row rfl 32 _ _ rfl g1_13 _ rfl rfl 32 (d16 0) hs13 (info16 _) (by simp only [d16_size]) (tab_oneCell _ _ fun _ => rfl) ?_; generalize hWW : World.setRow _ _ _ = U1 at *; clear hWW))
  clear hBW hb hs12 hz12 hl12 hs13 hz13 hl13
  have ohv_v1_2 := hv_v1.lt
  have ohv_v2_2 := hv_v2.lt
  have ohR_2 := hR.lt
  have ohF_2 := hF.lt
  have ohP_2 := hP.lt
  have ohQ_2 := hQ.lt
  refine region_facts 20 [] [.val (.pointer (some ⟨g, 0, none⟩)), .val (.pointer (some ⟨g, 0, none⟩)), .val (.pointer (some ⟨w.heap.size + 1, 16, none⟩)), .val (.agg (d16 (Y2))), .val (.pointer (some ⟨w.heap.size, 32, none⟩)), .val (.agg (d16 (Z1))), .val (.agg (d16 (v3))), .val (.agg (d16 (v1))), .val (.agg (d16 (v4))), .val (.pointer (some ⟨g, 0, none⟩)), .val (.pointer (some ⟨g, 0, none⟩)), .val (.pointer (some ⟨w.heap.size + 1, 0, none⟩)), .val (.agg (d16 (X2))), .val (.pointer (some ⟨w.heap.size, 32, none⟩)), .val (.agg (d16 (Z1))), .val (.agg (d16 (v5))), .val (.agg (d16 (v2))), .val (.agg (d16 (v6))), .new 32 (d16 0), .new 32 (d16 0)]
    (by kernel_rfl) (by kernel_rfl) (fun _ _ _ _ _ h => h) ?_ ?_
  · simp only [List.take_succ_cons, List.take_zero, StepsOK]
    refine ⟨?_, ?_, ?_, ?_, ?_, ?_, ?_, ?_, ?_, ?_, ?_, ?_, ?_, ?_, ?_, ?_, ?_, ?_, ?_, ?_, trivial⟩
    · intro v w' hb hf K hKt
      simp only [putAll, Act.put, List.setIfInBounds_toArray, List.set_cons_zero, List.set_cons_succ, Nat.zero_add, Nat.reduceAdd] at hKt ⊢
      go_simp
      exact hKt _ (Below.refl _ _)
    · intro v w' hb hf K hKt
      simp only [putAll, Act.put, List.setIfInBounds_toArray, List.set_cons_zero, List.set_cons_succ, Nat.zero_add, Nat.reduceAdd] at hKt ⊢
      go_simp
      exact hKt _ (Below.refl _ _)
    · intro v w' hb hf K hKt
      simp only [putAll, Act.put, List.setIfInBounds_toArray, List.set_cons_zero, List.set_cons_succ, Nat.zero_add, Nat.reduceAdd] at hKt ⊢
      go_simp
      exact hKt _ (Below.refl _ _)
    · intro v w' hb hf K hKt
      have f2 : v 2 = _ := hf ⟨2, .data⟩ (by simp) rfl
      simp only [putAll, Act.put, List.setIfInBounds_toArray, List.set_cons_zero, List.set_cons_succ, Nat.zero_add, Nat.reduceAdd] at hKt ⊢
      rw [f2] at hKt ⊢
      exact wp_load_hex _ rfl (w.heap.size + 1) 16 rfl Y2 (pt_y ((hQ.after hb))) (hKt _ (Below.refl _ _))
    · intro v w' hb hf K hKt
      simp only [putAll, Act.put, List.setIfInBounds_toArray, List.set_cons_zero, List.set_cons_succ, Nat.zero_add, Nat.reduceAdd] at hKt ⊢
      go_simp
      exact hKt _ (Below.refl _ _)
    · intro v w' hb hf K hKt
      have f4 : v 4 = _ := hf ⟨4, .data⟩ (by simp) rfl
      simp only [putAll, Act.put, List.setIfInBounds_toArray, List.set_cons_zero, List.set_cons_succ, Nat.zero_add, Nat.reduceAdd] at hKt ⊢
      rw [f4] at hKt ⊢
      exact wp_load_hex _ rfl (w.heap.size) 32 rfl Z1 (pt_z ((hP.after hb))) (hKt _ (Below.refl _ _))
    · intro v w' hb hf K hKt
      have f1 : v 1 = _ := hf ⟨1, .data⟩ (by simp) rfl
      have f3 : v 3 = _ := hf ⟨3, .data⟩ (by simp) rfl
      have f5 : v 5 = _ := hf ⟨5, .data⟩ (by simp) rfl
      simp only [putAll, Act.put, List.setIfInBounds_toArray, List.set_cons_zero, List.set_cons_succ, Nat.zero_add, Nat.reduceAdd] at hKt ⊢
      rw [f1, f3, f5] at hKt ⊢
      go_simp
      refine (kv3 _ w' (hF.after hb)).mono ?_
      rintro e w'' ⟨rfl, hb2⟩
      exact hKt _ hb2
    · intro v w' hb hf K hKt
      simp only [putAll, Act.put, List.setIfInBounds_toArray, List.set_cons_zero, List.set_cons_succ, Nat.zero_add, Nat.reduceAdd] at hKt ⊢
      exact wp_load_row 32 _ rfl (g1_12) rfl 32 _ (0, 0) _ (hv_v1.after hb) Tryd.underlying32 rfl (info16 _) (hKt _ (Below.refl _ _))
    · intro v w' hb hf K hKt
      have f0 : v 0 = _ := hf ⟨0, .data⟩ (by simp) rfl
      have f6 : v 6 = _ := hf ⟨6, .data⟩ (by simp) rfl
      have f7 : v 7 = _ := hf ⟨7, .data⟩ (by simp) rfl
      simp only [putAll, Act.put, List.setIfInBounds_toArray, List.set_cons_zero, List.set_cons_succ, Nat.zero_add, Nat.reduceAdd] at hKt ⊢
      rw [f0, f6, f7] at hKt ⊢
      go_simp
      refine (kv4 _ w' (hF.after hb)).mono ?_
      rintro e w'' ⟨rfl, hb2⟩
      exact hKt _ hb2
    · intro v w' hb hf K hKt
      simp only [putAll, Act.put, List.setIfInBounds_toArray, List.set_cons_zero, List.set_cons_succ, Nat.zero_add, Nat.reduceAdd] at hKt ⊢
      go_simp
      exact hKt _ (Below.refl _ _)
    · intro v w' hb hf K hKt
      simp only [putAll, Act.put, List.setIfInBounds_toArray, List.set_cons_zero, List.set_cons_succ, Nat.zero_add, Nat.reduceAdd] at hKt ⊢
      go_simp
      exact hKt _ (Below.refl _ _)
    · intro v w' hb hf K hKt
      simp only [putAll, Act.put, List.setIfInBounds_toArray, List.set_cons_zero, List.set_cons_succ, Nat.zero_add, Nat.reduceAdd] at hKt ⊢
      go_simp
      exact hKt _ (Below.refl _ _)
    · intro v w' hb hf K hKt
      have f11 : v 11 = _ := hf ⟨11, .data⟩ (by simp) rfl
      simp only [putAll, Act.put, List.setIfInBounds_toArray, List.set_cons_zero, List.set_cons_succ, Nat.zero_add, Nat.reduceAdd] at hKt ⊢
      rw [f11] at hKt ⊢
      exact wp_load_hex _ rfl (w.heap.size + 1) 0 rfl X2 (pt_x ((hQ.after hb))) (hKt _ (Below.refl _ _))
    · intro v w' hb hf K hKt
      simp only [putAll, Act.put, List.setIfInBounds_toArray, List.set_cons_zero, List.set_cons_succ, Nat.zero_add, Nat.reduceAdd] at hKt ⊢
      go_simp
      exact hKt _ (Below.refl _ _)
    · intro v w' hb hf K hKt
      have f13 : v 13 = _ := hf ⟨13, .data⟩ (by simp) rfl
      simp only [putAll, Act.put, List.setIfInBounds_toArray, List.set_cons_zero, List.set_cons_succ, Nat.zero_add, Nat.reduceAdd] at hKt ⊢
      rw [f13] at hKt ⊢
      exact wp_load_hex _ rfl (w.heap.size) 32 rfl Z1 (pt_z ((hP.after hb))) (hKt _ (Below.refl _ _))
    · intro v w' hb hf K hKt
      have f10 : v 10 = _ := hf ⟨10, .data⟩ (by simp) rfl
      have f12 : v 12 = _ := hf ⟨12, .data⟩ (by simp) rfl
      have f14 : v 14 = _ := hf ⟨14, .data⟩ (by simp) rfl
      simp only [putAll, Act.put, List.setIfInBounds_toArray, List.set_cons_zero, List.set_cons_succ, Nat.zero_add, Nat.reduceAdd] at hKt ⊢
      rw [f10, f12, f14] at hKt ⊢
      go_simp
      refine (kv5 _ w' (hF.after hb)).mono ?_
      rintro e w'' ⟨rfl, hb2⟩
      exact hKt _ hb2
    · intro v w' hb hf K hKt
      simp only [putAll, Act.put, List.setIfInBounds_toArray, List.set_cons_zero, List.set_cons_succ, Nat.zero_add, Nat.reduceAdd] at hKt ⊢
      exact wp_load_row 32 _ rfl (g1_13) rfl 32 _ (0, 0) _ (hv_v2.after hb) Tryd.underlying32 rfl (info16 _) (hKt _ (Below.refl _ _))
    · intro v w' hb hf K hKt
      have f9 : v 9 = _ := hf ⟨9, .data⟩ (by simp) rfl
      have f15 : v 15 = _ := hf ⟨15, .data⟩ (by simp) rfl
      have f16 : v 16 = _ := hf ⟨16, .data⟩ (by simp) rfl
      simp only [putAll, Act.put, List.setIfInBounds_toArray, List.set_cons_zero, List.set_cons_succ, Nat.zero_add, Nat.reduceAdd] at hKt ⊢
      rw [f9, f15, f16] at hKt ⊢
      go_simp
      refine (kv6 _ w' (hF.after hb)).mono ?_
      rintro e w'' ⟨rfl, hb2⟩
      exact hKt _ hb2
    · exact ⟨rfl, rfl, zeroV16⟩
    · exact ⟨rfl, rfl, zeroV16⟩
  intro v u2 hb hF hD
  have f0 : v 0 = _ := hF 0 (by decide)
  have f1 : v 1 = _ := hF 1 (by decide)
  have f2 : v 2 = _ := hF 2 (by decide)
  have f3 : v 3 = _ := hF 3 (by decide)
  have f4 : v 4 = _ := hF 4 (by decide)
  have f5 : v 5 = _ := hF 5 (by decide)
  have f6 : v 6 = _ := hF 6 (by decide)
  have f7 : v 7 = _ := hF 7 (by decide)
  have f8 : v 8 = _ := hF 8 (by decide)
  have f9 : v 9 = _ := hF 9 (by decide)
  have f10 : v 10 = _ := hF 10 (by decide)
  have f11 : v 11 = _ := hF 11 (by decide)
  have f12 : v 12 = _ := hF 12 (by decide)
  have f13 : v 13 = _ := hF 13 (by decide)
  have f14 : v 14 = _ := hF 14 (by decide)
  have f15 : v 15 = _ := hF 15 (by decide)
  have f16 : v 16 = _ := hF 16 (by decide)
  have f17 : v 17 = _ := hF 17 (by decide)
  obtain ⟨g2_18, f18, hg18, hl18, hz18⟩ := hF 18 (by decide)
  replace hz18 : Has u2 g2_18 32 (d16 0) := hz18
  obtain ⟨g2_19, f19, hg19, hl19, hz19⟩ := hF 19 (by decide)
  replace hz19 : Has u2 g2_19 32 (d16 0) := hz19
  have hne18_19 : g2_18 ≠ g2_19 := fun h => hD 18 19 (by decide) (by decide) (by decide) rfl rfl (by rw [f18, f19, h])
  simp only [List.take_succ_cons, List.take_zero, List.drop_succ_cons, List.drop_zero, putAll, Act.put, List.setIfInBounds_toArray, List.set_cons_zero, List.set_cons_succ, Nat.zero_add, Nat.reduceAdd]
  rw [f0, f1, f2, f3, f4, f5, f6, f7, f8, f9, f10, f11, f12, f13, f14, f15, f16, f17, f18, f19]
  clear hF hD f0 f1 f2 f3 f4 f5 f6 f7 f8 f9 f10 f11 f12 f13 f14 f15 f16 f17 f18 f19
  have hs18 := hz18
  have hs19 := (hz19).farRow (k := g2_18) (by omega) (d16 (v4))
  have hBW := below_setRow (below_setRow (hb) (g := g2_18) hg18 (d16 (v4))) (g := g2_19) hg19 (d16 (v6))
  have hv_v4 := ((hz18).setRow (d16 (v4))).farRow (k := g2_19) (by omega) (d16 (v6))
  have hv_v6 := ((hz19).farRow (k := g2_18) (by omega) (d16 (v4))).setRow (d16 (v6))
  replace hv_v1 := hv_v1.after hBW
  replace hv_v2 := hv_v2.after hBW
  replace hR := hR.after hBW
  replace hF := hF.after hBW
  replace hP := hP.after hBW
  replace hQ := hQ.after hBW
  replace hb0 := below_trans hb0 hBW
  go_wp2_with (first | refine wpList_store_row rfl 32 _ _ rfl g2_18 _ rfl rfl 32 (d16 0) hs18 (info16 _) (by simp only [d16_size]) (tab_oneCell _ _ fun _ => rfl) ?_ | (refine wpList_store_row rfl 32 _ _ rfl g2_19 _ rfl rfl 32 (d16 0) hs19 (info16 _) (by simp only [d16_size]) (tab_oneCell _ _ fun _ => rfl) ?_; generalize hWW : World.setRow _ _ _ = U2 at *; clear hWW) | refine wpList_load_has 32 _ rfl _ rfl rfl 32 _ hv_v6 _ Tryd.underlying32 rfl (info16 _) ?_ | refine wpList_load_has 32 _ rfl _ rfl rfl 32 _ hv_v4 _ Tryd.underlying32 rfl (info16 _) ?_ | refine wpList_load_has 39 _ rfl _ rfl rfl 39 _ hP _ Tryd.underlying39 rfl (infoPt _ _ _) ?_)
  clear hBW hb hs18 hz18 hl18 hs19 hz19 hl19
  refine (hD _ _ hF).mono ?_
  rintro e u9 ⟨rfl, hx⟩
  replace hR := hR.after hx
  replace hb0 := below_trans hb0 hx
  clear hx
  go_wp2_with (first | refine wpList_store_row rfl 39 _ _ rfl (w.heap.size + 1 + 1) _ rfl rfl 39 _ hR (infoPt _ _ _) (by simp only [ptC_size]) (tab_oneCell _ _ fun _ => rfl) ?_)
  exact bodyPost_ret (v := .agg (ptC X' Y' Z')) (results_cell_row rfl _ _ (w.heap.size + 1 + 1) 39 _ _ _ rfl (hR.setRow _) Tryd.underlying39 rfl (infoPt _ _ _)) rfl ⟨rfl, below_setRow hb0 (by omega) _⟩
set_option maxRecDepth 100000 in
set_option maxHeartbeats 4000000 in
theorem plus_opp (X1 Y1 Z1 X2 Y2 Z2 m : Nat) (hm : FldOK m) (hmp : m = Ec.pp) (lX1 : X1 < m) (lY1 : Y1 < m) (lZ1 : Z1 < m) (lX2 : X2 < m) (lY2 : Y2 < m) (lZ2 : Z2 < m) (hz1 : Z1 ≠ 0) (hz2 : Z2 ≠ 0) (hv : (X2 * Z1 % m + (m - X1 * Z2 % m)) % m = 0) (hu : (Y2 * Z1 % m + (m - Y1 * Z2 % m)) % m ≠ 0) (g : Nat) (w : World) (hF : IsField w g m) : Calls Tryd.prog 19 #[.pointer (some ⟨g, 0, none⟩), .agg (ptC X1 Y1 Z1), .agg (ptC X2 Y2 Z2)] w fun e w' => e = .returned (.agg (ptC 1 1 0)) ∧ Below w.heap.size w w' := by
  have m0 := hm.1
  obtain ⟨v1, ev1⟩ : ∃ v, v = Y1 * Z2 % m := ⟨_, rfl⟩
  have lv1 : v1 < m := by rw [ev1]; exact Nat.mod_lt _ m0
  have kv1 := fun g W (h : IsField W g m) => fmul_c Y1 Z2 m g W h hm lY1 lZ2
  rw [← ev1] at kv1
  have cv1 : Ec.c v1 = Ec.c Y1 * Ec.c Z2 := by rw [ev1]; exact cm hmp Y1 Z2
  obtain ⟨v2, ev2⟩ : ∃ v, v = X1 * Z2 % m := ⟨_, rfl⟩
  have lv2 : v2 < m := by rw [ev2]; exact Nat.mod_lt _ m0
  have kv2 := fun g W (h : IsField W g m) => fmul_c X1 Z2 m g W h hm lX1 lZ2
  rw [← ev2] at kv2
  have cv2 : Ec.c v2 = Ec.c X1 * Ec.c Z2 := by rw [ev2]; exact cm hmp X1 Z2
  obtain ⟨v3, ev3⟩ : ∃ v, v = Y2 * Z1 % m := ⟨_, rfl⟩
  have lv3 : v3 < m := by rw [ev3]; exact Nat.mod_lt _ m0
  have kv3 := fun g W (h : IsField W g m) => fmul_c Y2 Z1 m g W h hm lY2 lZ1
  rw [← ev3] at kv3
  have cv3 : Ec.c v3 = Ec.c Y2 * Ec.c Z1 := by rw [ev3]; exact cm hmp Y2 Z1
  obtain ⟨v4, ev4⟩ : ∃ v, v = (v3 + (m - v1)) % m := ⟨_, rfl⟩
  have lv4 : v4 < m := by rw [ev4]; exact Nat.mod_lt _ m0
  have kv4 := fun g W (h : IsField W g m) => fsub_c v3 v1 m g W h hm lv3 lv1
  rw [← ev4] at kv4
  have cv4 : Ec.c v4 = Ec.c v3 - Ec.c v1 := by rw [ev4]; exact cs hmp v3 v1 (Nat.le_of_lt lv1)
  obtain ⟨v5, ev5⟩ : ∃ v, v = X2 * Z1 % m := ⟨_, rfl⟩
  have lv5 : v5 < m := by rw [ev5]; exact Nat.mod_lt _ m0
  have kv5 := fun g W (h : IsField W g m) => fmul_c X2 Z1 m g W h hm lX2 lZ1
  rw [← ev5] at kv5
  have cv5 : Ec.c v5 = Ec.c X2 * Ec.c Z1 := by rw [ev5]; exact cm hmp X2 Z1
  obtain ⟨v6, ev6⟩ : ∃ v, v = (v5 + (m - v2)) % m := ⟨_, rfl⟩
  have lv6 : v6 < m := by rw [ev6]; exact Nat.mod_lt _ m0
  have kv6 := fun g W (h : IsField W g m) => fsub_c v5 v2 m g W h hm lv5 lv2
  rw [← ev6] at kv6
  have cv6 : Ec.c v6 = Ec.c v5 - Ec.c v2 := by rw [ev6]; exact cs hmp v5 v2 (Nat.le_of_lt lv2)
  rw [← ev5, ← ev2, ← ev6] at hv
  rw [← ev3, ← ev1, ← ev4] at hu
  have hn1 := hexNe Z1 m hm lZ1 hz1
  have hn2 := hexNe Z2 m hm lZ2 hz2
  have hn3 : ∀ W, (binOp .eql 32 (.agg (d16 v6)) (.agg (d16 0))).run Tryd.prog W = .ok (.bool true) W := fun W => by rw [hv]; exact hexZ W
  have hn4 := hexNe v4 m hm lv4 hu
  clear ev1 cv1 lv1 ev2 cv2 lv2 ev3 cv3 lv3 ev4 cv4 lv4 ev5 cv5 lv5 ev6 cv6 lv6 hm hmp lX1 lY1 lZ1 lX2 lY2 lZ2 m0 hz1 hz2 hv hu
  have n0 := d16_ne 0
  have hP : Has (((w.alloc (.cells (ptC X1 Y1 Z1) 39)).alloc (.cells (ptC X2 Y2 Z2) 39)).alloc (.cells (ptC 0 0 0) 39)) w.heap.size 39 (ptC X1 Y1 Z1) := ((Has.new w _ _).alloc _).alloc _
  have hQ : Has (((w.alloc (.cells (ptC X1 Y1 Z1) 39)).alloc (.cells (ptC X2 Y2 Z2) 39)).alloc (.cells (ptC 0 0 0) 39)) (w.heap.size + 1) 39 (ptC X2 Y2 Z2) := (Has.new' (by simp)).alloc _
  have hR : Has (((w.alloc (.cells (ptC X1 Y1 Z1) 39)).alloc (.cells (ptC X2 Y2 Z2) 39)).alloc (.cells (ptC 0 0 0) 39)) (w.heap.size + 1 + 1) 39 (ptC 0 0 0) := Has.new' (by simp)
  have hb0 : Below w.heap.size w (((w.alloc (.cells (ptC X1 Y1 Z1) 39)).alloc (.cells (ptC X2 Y2 Z2) 39)).alloc (.cells (ptC 0 0 0) 39)) := (((Below.refl _ _).alloc (Nat.le_refl _) _).alloc (by simp) _).alloc (by simp <;> omega) _
  replace hF := hF.after hb0
  go_enter Tryd.func19, Tryd.ntmps19
  go_wp2_with (first | refine wpList_load_hex rfl _ rfl (w.heap.size) 32 rfl Z1 (pt_z hP) ?_ | refine wpList_load_hex rfl _ rfl (w.heap.size + 1) 32 rfl Z2 (pt_z hQ) ?_)
  generalize ((w.alloc _).alloc _).alloc _ = U0 at *
  clear hn1 hn2
  go_wp2_with fail
  have ohR_1 := hR.lt
  have ohF_1 := hF.lt
  have ohP_1 := hP.lt
  have ohQ_1 := hQ.lt
  refine region_facts 14 [] [.val (.pointer (some ⟨g, 0, none⟩)), .val (.pointer (some ⟨w.heap.size, 16, none⟩)), .val (.agg (d16 (Y1))), .val (.pointer (some ⟨w.heap.size + 1, 32, none⟩)), .val (.agg (d16 (Z2))), .val (.agg (d16 (v1))), .val (.pointer (some ⟨g, 0, none⟩)), .val (.pointer (some ⟨w.heap.size, 0, none⟩)), .val (.agg (d16 (X1))), .val (.pointer (some ⟨w.heap.size + 1, 32, none⟩)), .val (.agg (d16 (Z2))), .val (.agg (d16 (v2))), .new 32 (d16 0), .new 32 (d16 0)]
    (by kernel_rfl) (by kernel_rfl) (fun _ _ _ _ _ h => h) ?_ ?_
  · simp only [List.take_succ_cons, List.take_zero, StepsOK]
    refine ⟨?_, ?_, ?_, ?_, ?_, ?_, ?_, ?_, ?_, ?_, ?_, ?_, ?_, ?_, trivial⟩
    · intro v w' hb hf K hKt
      simp only [putAll, Act.put, List.setIfInBounds_toArray, List.set_cons_zero, List.set_cons_succ, Nat.zero_add, Nat.reduceAdd] at hKt ⊢
      go_simp
      exact hKt _ (Below.refl _ _)
    · intro v w' hb hf K hKt
      simp only [putAll, Act.put, List.setIfInBounds_toArray, List.set_cons_zero, List.set_cons_succ, Nat.zero_add, Nat.reduceAdd] at hKt ⊢
      go_simp
      exact hKt _ (Below.refl _ _)
    · intro v w' hb hf K hKt
      have f1 : v 1 = _ := hf ⟨1, .data⟩ (by simp) rfl
      simp only [putAll, Act.put, List.setIfInBounds_toArray, List.set_cons_zero, List.set_cons_succ, Nat.zero_add, Nat.reduceAdd] at hKt ⊢
      rw [f1] at hKt ⊢
      exact wp_load_hex _ rfl (w.heap.size) 16 rfl Y1 (pt_y ((hP.after hb))) (hKt _ (Below.refl _ _))
    · intro v w' hb hf K hKt
      simp only [putAll, Act.put, List.setIfInBounds_toArray, List.set_cons_zero, List.set_cons_succ, Nat.zero_add, Nat.reduceAdd] at hKt ⊢
      go_simp
      exact hKt _ (Below.refl _ _)
    · intro v w' hb hf K hKt
      have f3 : v 3 = _ := hf ⟨3, .data⟩ (by simp) rfl
      simp only [putAll, Act.put, List.setIfInBounds_toArray, List.set_cons_zero, List.set_cons_succ, Nat.zero_add, Nat.reduceAdd] at hKt ⊢
      rw [f3] at hKt ⊢
      exact wp_load_hex _ rfl (w.heap.size + 1) 32 rfl Z2 (pt_z ((hQ.after hb))) (hKt _ (Below.refl _ _))
    · intro v w' hb hf K hKt
      have f0 : v 0 = _ := hf ⟨0, .data⟩ (by simp) rfl
      have f2 : v 2 = _ := hf ⟨2, .data⟩ (by simp) rfl
      have f4 : v 4 = _ := hf ⟨4, .data⟩ (by simp) rfl
      simp only [putAll, Act.put, List.setIfInBounds_toArray, List.set_cons_zero, List.set_cons_succ, Nat.zero_add, Nat.reduceAdd] at hKt ⊢
      rw [f0, f2, f4] at hKt ⊢
      go_simp
      refine (kv1 _ w' (hF.after hb)).mono ?_
      rintro e w'' ⟨rfl, hb2⟩
      exact hKt _ hb2
    · intro v w' hb hf K hKt
      simp only [putAll, Act.put, List.setIfInBounds_toArray, List.set_cons_zero, List.set_cons_succ, Nat.zero_add, Nat.reduceAdd] at hKt ⊢
      go_simp
      exact hKt _ (Below.refl _ _)
    · intro v w' hb hf K hKt
      simp only [putAll, Act.put, List.setIfInBounds_toArray, List.set_cons_zero, List.set_cons_succ, Nat.zero_add, Nat.reduceAdd] at hKt ⊢
      go_simp
      exact hKt _ (Below.refl _ _)
    · intro v w' hb hf K hKt
      have f7 : v 7 = _ := hf ⟨7, .data⟩ (by simp) rfl
      simp only [putAll, Act.put, List.setIfInBounds_toArray, List.set_cons_zero, List.set_cons_succ, Nat.zero_add, Nat.reduceAdd] at hKt ⊢
      rw [f7] at hKt ⊢
      exact wp_load_hex _ rfl (w.heap.size) 0 rfl X1 (pt_x ((hP.after hb))) (hKt _ (Below.refl _ _))
    · intro v w' hb hf K hKt
      simp only [putAll, Act.put, List.setIfInBounds_toArray, List.set_cons_zero, List.set_cons_succ, Nat.zero_add, Nat.reduceAdd] at hKt ⊢
      go_simp
      exact hKt _ (Below.refl _ _)
    · intro v w' hb hf K hKt
      have f9 : v 9 = _ := hf ⟨9, .data⟩ (by simp) rfl
      simp only [putAll, Act.put, List.setIfInBounds_toArray, List.set_cons_zero, List.set_cons_succ, Nat.zero_add, Nat.reduceAdd] at hKt ⊢
      rw [f9] at hKt ⊢
      exact wp_load_hex _ rfl (w.heap.size + 1) 32 rfl Z2 (pt_z ((hQ.after hb))) (hKt _ (Below.refl _ _))
    · intro v w' hb hf K hKt
      have f6 : v 6 = _ := hf ⟨6, .data⟩ (by simp) rfl
      have f8 : v 8 = _ := hf ⟨8, .data⟩ (by simp) rfl
      have f10 : v 10 = _ := hf ⟨10, .data⟩ (by simp) rfl
      simp only [putAll, Act.put, List.setIfInBounds_toArray, List.set_cons_zero, List.set_cons_succ, Nat.zero_add, Nat.reduceAdd] at hKt ⊢
      rw [f6, f8, f10] at hKt ⊢
      go_simp
      refine (kv2 _ w' (hF.after hb)).mono ?_
      rintro e w'' ⟨rfl, hb2⟩
      exact hKt _ hb2
    · exact ⟨rfl, rfl, zeroV16⟩
    · exact ⟨rfl, rfl, zeroV16⟩
  intro v u1 hb hF hD
  have f0 : v 0 = _ := hF 0 (by decide)
  have f1 : v 1 = _ := hF 1 (by decide)
  have f2 : v 2 = _ := hF 2 (by decide)
  have f3 : v 3 = _ := hF 3 (by decide)
  have f4 : v 4 = _ := hF 4 (by decide)
  have f5 : v 5 = _ := hF 5 (by decide)
  have f6 : v 6 = _ := hF 6 (by decide)
  have f7 : v 7 = _ := hF 7 (by decide)
  have f8 : v 8 = _ := hF 8 (by decide)
  have f9 : v 9 = _ := hF 9 (by decide)
  have f10 : v 10 = _ := hF 10 (by decide)
  have f11 : v 11 = _ := hF 11 (by decide)
  obtain ⟨g1_12, f12, hg12, hl12, hz12⟩ := hF 12 (by decide)
  replace hz12 : Has u1 g1_12 32 (d16 0) := hz12
  obtain ⟨g1_13, f13, hg13, hl13, hz13⟩ := hF 13 (by decide)
  replace hz13 : Has u1 g1_13 32 (d16 0) := hz13
  have hne12_13 : g1_12 ≠ g1_13 := fun h => hD 12 13 (by decide) (by decide) (by decide) rfl rfl (by rw [f12, f13, h])
  simp only [List.take_succ_cons, List.take_zero, List.drop_succ_cons, List.drop_zero, putAll, Act.put, List.setIfInBounds_toArray, List.set_cons_zero, List.set_cons_succ, Nat.zero_add, Nat.reduceAdd]
  rw [f0, f1, f2, f3, f4, f5, f6, f7, f8, f9, f10, f11, f12, f13]
  clear hF hD f0 f1 f2 f3 f4 f5 f6 f7 f8 f9 f10 f11 f12 f13
  have hs12 := hz12
  have hs13 := (hz13).farRow (k := g1_12) (by omega) (d16 (v1))
  have hBW := below_setRow (below_setRow (hb) (g := g1_12) hg12 (d16 (v1))) (g := g1_13) hg13 (d16 (v2))
  have hv_v1 := ((hz12).setRow (d16 (v1))).farRow (k := g1_13) (by omega) (d16 (v2))
  have hv_v2 := ((hz13).farRow (k := g1_12) (by omega) (d16 (v1))).setRow (d16 (v2))
  replace hR := hR.after hBW
  replace hF := hF.after hBW
  replace hP := hP.after hBW
  replace hQ := hQ.after hBW
  replace hb0 := below_trans hb0 hBW
  go_wp2_with (first | refine wpList_store_row rfl 32 _ _ rfl g1_12 _ rfl rfl 32 (d16 0) hs12 (info16 _) (by simp only [d16_size]) (tab_oneCell _ _ fun _ => rfl) ?_ | (refine wpList_store_row rfl 32 _ _ rfl g1_13 _ rfl rfl 32 (d16 0) hs13 (info16 _) (by simp only [d16_size]) (tab_oneCell _ _ fun _ => rfl) ?_; generalize hWW : World.setRow _ _ _ = U1 at *; clear hWW))
  clear hBW hb hs12 hz12 hl12 hs13 hz13 hl13
  have ohv_v1_2 := hv_v1.lt
  have ohv_v2_2 := hv_v2.lt
  have ohR_2 := hR.lt
  have ohF_2 := hF.lt
  have ohP_2 := hP.lt
  have ohQ_2 := hQ.lt
  refine region_facts 20 [] [.val (.pointer (some ⟨g, 0, none⟩)), .val (.pointer (some ⟨g, 0, none⟩)), .val (.pointer (some ⟨w.heap.size + 1, 16, none⟩)), .val (.agg (d16 (Y2))), .val (.pointer (some ⟨w.heap.size, 32, none⟩)), .val (.agg (d16 (Z1))), .val (.agg (d16 (v3))), .val (.agg (d16 (v1))), .val (.agg (d16 (v4))), .val (.pointer (some ⟨g, 0, none⟩)), .val (.pointer (some ⟨g, 0, none⟩)), .val (.pointer (some ⟨w.heap.size + 1, 0, none⟩)), .val (.agg (d16 (X2))), .val (.pointer (some ⟨w.heap.size, 32, none⟩)), .val (.agg (d16 (Z1))), .val (.agg (d16 (v5))), .val (.agg (d16 (v2))), .val (.agg (d16 (v6))), .new 32 (d16 0), .new 32 (d16 0)]
    (by kernel_rfl) (by kernel_rfl) (fun _ _ _ _ _ h => h) ?_ ?_
  · simp only [List.take_succ_cons, List.take_zero, StepsOK]
    refine ⟨?_, ?_, ?_, ?_, ?_, ?_, ?_, ?_, ?_, ?_, ?_, ?_, ?_, ?_, ?_, ?_, ?_, ?_, ?_, ?_, trivial⟩
    · intro v w' hb hf K hKt
      simp only [putAll, Act.put, List.setIfInBounds_toArray, List.set_cons_zero, List.set_cons_succ, Nat.zero_add, Nat.reduceAdd] at hKt ⊢
      go_simp
      exact hKt _ (Below.refl _ _)
    · intro v w' hb hf K hKt
      simp only [putAll, Act.put, List.setIfInBounds_toArray, List.set_cons_zero, List.set_cons_succ, Nat.zero_add, Nat.reduceAdd] at hKt ⊢
      go_simp
      exact hKt _ (Below.refl _ _)
    · intro v w' hb hf K hKt
      simp only [putAll, Act.put, List.setIfInBounds_toArray, List.set_cons_zero, List.set_cons_succ, Nat.zero_add, Nat.reduceAdd] at hKt ⊢
      go_simp
      exact hKt _ (Below.refl _ _)
    · intro v w' hb hf K hKt
      have f2 : v 2 = _ := hf ⟨2, .data⟩ (by simp) rfl
      simp only [putAll, Act.put, List.setIfInBounds_toArray, List.set_cons_zero, List.set_cons_succ, Nat.zero_add, Nat.reduceAdd] at hKt ⊢
      rw [f2] at hKt ⊢
      exact wp_load_hex _ rfl (w.heap.size + 1) 16 rfl Y2 (pt_y ((hQ.after hb))) (hKt _ (Below.refl _ _))
    · intro v w' hb hf K hKt
      simp only [putAll, Act.put, List.setIfInBounds_toArray, List.set_cons_zero, List.set_cons_succ, Nat.zero_add, Nat.reduceAdd] at hKt ⊢
      go_simp
      exact hKt _ (Below.refl _ _)
    · intro v w' hb hf K hKt
      have f4 : v 4 = _ := hf ⟨4, .data⟩ (by simp) rfl
      simp only [putAll, Act.put, List.setIfInBounds_toArray, List.set_cons_zero, List.set_cons_succ, Nat.zero_add, Nat.reduceAdd] at hKt ⊢
      rw [f4] at hKt ⊢
      exact wp_load_hex _ rfl (w.heap.size) 32 rfl Z1 (pt_z ((hP.after hb))) (hKt _ (Below.refl _ _))
    · intro v w' hb hf K hKt
      have f1 : v 1 = _ := hf ⟨1, .data⟩ (by simp) rfl
      have f3 : v 3 = _ := hf ⟨3, .data⟩ (by simp) rfl
      have f5 : v 5 = _ := hf ⟨5, .data⟩ (by simp) rfl
      simp only [putAll, Act.put, List.setIfInBounds_toArray, List.set_cons_zero, List.set_cons_succ, Nat.zero_add, Nat.reduceAdd] at hKt ⊢
      rw [f1, f3, f5] at hKt ⊢
      go_simp
      refine (kv3 _ w' (hF.after hb)).mono ?_
      rintro e w'' ⟨rfl, hb2⟩
      exact hKt _ hb2
    · intro v w' hb hf K hKt
      simp only [putAll, Act.put, List.setIfInBounds_toArray, List.set_cons_zero, List.set_cons_succ, Nat.zero_add, Nat.reduceAdd] at hKt ⊢
      exact wp_load_row 32 _ rfl (g1_12) rfl 32 _ (0, 0) _ (hv_v1.after hb) Tryd.underlying32 rfl (info16 _) (hKt _ (Below.refl _ _))
    · intro v w' hb hf K hKt
      have f0 : v 0 = _ := hf ⟨0, .data⟩ (by simp) rfl
      have f6 : v 6 = _ := hf ⟨6, .data⟩ (by simp) rfl
      have f7 : v 7 = _ := hf ⟨7, .data⟩ (by simp) rfl
      simp only [putAll, Act.put, List.setIfInBounds_toArray, List.set_cons_zero, List.set_cons_succ, Nat.zero_add, Nat.reduceAdd] at hKt ⊢
      rw [f0, f6, f7] at hKt ⊢
      go_simp
      refine (kv4 _ w' (hF.after hb)).mono ?_
      rintro e w'' ⟨rfl, hb2⟩
      exact hKt _ hb2
    · intro v w' hb hf K hKt
      simp only [putAll, Act.put, List.setIfInBounds_toArray, List.set_cons_zero, List.set_cons_succ, Nat.zero_add, Nat.reduceAdd] at hKt ⊢
      go_simp
      exact hKt _ (Below.refl _ _)
    · intro v w' hb hf K hKt
      simp only [putAll, Act.put, List.setIfInBounds_toArray, List.set_cons_zero, List.set_cons_succ, Nat.zero_add, Nat.reduceAdd] at hKt ⊢
      go_simp
      exact hKt _ (Below.refl _ _)
    · intro v w' hb hf K hKt
      simp only [putAll, Act.put, List.setIfInBounds_toArray, List.set_cons_zero, List.set_cons_succ, Nat.zero_add, Nat.reduceAdd] at hKt ⊢
      go_simp
      exact hKt _ (Below.refl _ _)
    · intro v w' hb hf K hKt
      have f11 : v 11 = _ := hf ⟨11, .data⟩ (by simp) rfl
      simp only [putAll, Act.put, List.setIfInBounds_toArray, List.set_cons_zero, List.set_cons_succ, Nat.zero_add, Nat.reduceAdd] at hKt ⊢
      rw [f11] at hKt ⊢
      exact wp_load_hex _ rfl (w.heap.size + 1) 0 rfl X2 (pt_x ((hQ.after hb))) (hKt _ (Below.refl _ _))
    · intro v w' hb hf K hKt
      simp only [putAll, Act.put, List.setIfInBounds_toArray, List.set_cons_zero, List.set_cons_succ, Nat.zero_add, Nat.reduceAdd] at hKt ⊢
      go_simp
      exact hKt _ (Below.refl _ _)
    · intro v w' hb hf K hKt
      have f13 : v 13 = _ := hf ⟨13, .data⟩ (by simp) rfl
      simp only [putAll, Act.put, List.setIfInBounds_toArray, List.set_cons_zero, List.set_cons_succ, Nat.zero_add, Nat.reduceAdd] at hKt ⊢
      rw [f13] at hKt ⊢
      exact wp_load_hex _ rfl (w.heap.size) 32 rfl Z1 (pt_z ((hP.after hb))) (hKt _ (Below.refl _ _))
    · intro v w' hb hf K hKt
      have f10 : v 10 = _ := hf ⟨10, .data⟩ (by simp) rfl
      have f12 : v 12 = _ := hf ⟨12, .data⟩ (by simp) rfl
      have f14 : v 14 = _ := hf ⟨14, .data⟩ (by simp) rfl
      simp only [putAll, Act.put, List.setIfInBounds_toArray, List.set_cons_zero, List.set_cons_succ, Nat.zero_add, Nat.reduceAdd] at hKt ⊢
      rw [f10, f12, f14] at hKt ⊢
      go_simp
      refine (kv5 _ w' (hF.after hb)).mono ?_
      rintro e w'' ⟨rfl, hb2⟩
      exact hKt _ hb2
    · intro v w' hb hf K hKt
      simp only [putAll, Act.put, List.setIfInBounds_toArray, List.set_cons_zero, List.set_cons_succ, Nat.zero_add, Nat.reduceAdd] at hKt ⊢
      exact wp_load_row 32 _ rfl (g1_13) rfl 32 _ (0, 0) _ (hv_v2.after hb) Tryd.underlying32 rfl (info16 _) (hKt _ (Below.refl _ _))
    · intro v w' hb hf K hKt
      have f9 : v 9 = _ := hf ⟨9, .data⟩ (by simp) rfl
      have f15 : v 15 = _ := hf ⟨15, .data⟩ (by simp) rfl
      have f16 : v 16 = _ := hf ⟨16, .data⟩ (by simp) rfl
      simp only [putAll, Act.put, List.setIfInBounds_toArray, List.set_cons_zero, List.set_cons_succ, Nat.zero_add, Nat.reduceAdd] at hKt ⊢
      rw [f9, f15, f16] at hKt ⊢
      go_simp
      refine (kv6 _ w' (hF.after hb)).mono ?_
      rintro e w'' ⟨rfl, hb2⟩
      exact hKt _ hb2
    · exact ⟨rfl, rfl, zeroV16⟩
    · exact ⟨rfl, rfl, zeroV16⟩
  intro v u2 hb hF hD
  have f0 : v 0 = _ := hF 0 (by decide)
  have f1 : v 1 = _ := hF 1 (by decide)
  have f2 : v 2 = _ := hF 2 (by decide)
  have f3 : v 3 = _ := hF 3 (by decide)
  have f4 : v 4 = _ := hF 4 (by decide)
  have f5 : v 5 = _ := hF 5 (by decide)
  have f6 : v 6 = _ := hF 6 (by decide)
  have f7 : v 7 = _ := hF 7 (by decide)
  have f8 : v 8 = _ := hF 8 (by decide)
  have f9 : v 9 = _ := hF 9 (by decide)
  have f10 : v 10 = _ := hF 10 (by decide)
  have f11 : v 11 = _ := hF 11 (by decide)
  have f12 : v 12 = _ := hF 12 (by decide)
  have f13 : v 13 = _ := hF 13 (by decide)
  have f14 : v 14 = _ := hF 14 (by decide)
  have f15 : v 15 = _ := hF 15 (by decide)
  have f16 : v 16 = _ := hF 16 (by decide)
  have f17 : v 17 = _ := hF 17 (by decide)
  obtain ⟨g2_18, f18, hg18, hl18, hz18⟩ := hF 18 (by decide)
  replace hz18 : Has u2 g2_18 32 (d16 0) := hz18
  obtain ⟨g2_19, f19, hg19, hl19, hz19⟩ := hF 19 (by decide)
  replace hz19 : Has u2 g2_19 32 (d16 0) := hz19
  have hne18_19 : g2_18 ≠ g2_19 := fun h => hD 18 19 (by decide) (by decide) (by decide) rfl rfl (by rw [f18, f19, h])
  simp only [List.take_succ_cons, List.take_zero, List.drop_succ_cons, List.drop_zero, putAll, Act.put, List.setIfInBounds_toArray, List.set_cons_zero, List.set_cons_succ, Nat.zero_add, Nat.reduceAdd]
  rw [f0, f1, f2, f3, f4, f5, f6, f7, f8, f9, f10, f11, f12, f13, f14, f15, f16, f17, f18, f19]
  clear hF hD f0 f1 f2 f3 f4 f5 f6 f7 f8 f9 f10 f11 f12 f13 f14 f15 f16 f17 f18 f19
  have hs18 := hz18
  have hs19 := (hz19).farRow (k := g2_18) (by omega) (d16 (v4))
  have hBW := below_setRow (below_setRow (hb) (g := g2_18) hg18 (d16 (v4))) (g := g2_19) hg19 (d16 (v6))
  have hv_v4 := ((hz18).setRow (d16 (v4))).farRow (k := g2_19) (by omega) (d16 (v6))
  have hv_v6 := ((hz19).farRow (k := g2_18) (by omega) (d16 (v4))).setRow (d16 (v6))
  replace hv_v1 := hv_v1.after hBW
  replace hv_v2 := hv_v2.after hBW
  replace hR := hR.after hBW
  replace hF := hF.after hBW
  replace hP := hP.after hBW
  replace hQ := hQ.after hBW
  replace hb0 := below_trans hb0 hBW
  go_wp2_with (first | refine wpList_store_row rfl 32 _ _ rfl g2_18 _ rfl rfl 32 (d16 0) hs18 (info16 _) (by simp only [d16_size]) (tab_oneCell _ _ fun _ => rfl) ?_ | (refine wpList_store_row rfl 32 _ _ rfl g2_19 _ rfl rfl 32 (d16 0) hs19 (info16 _) (by simp only [d16_size]) (tab_oneCell _ _ fun _ => rfl) ?_; generalize hWW : World.setRow _ _ _ = U2 at *; clear hWW) | refine wpList_load_has 32 _ rfl _ rfl rfl 32 _ hv_v6 _ Tryd.underlying32 rfl (info16 _) ?_ | refine wpList_load_has 32 _ rfl _ rfl rfl 32 _ hv_v4 _ Tryd.underlying32 rfl (info16 _) ?_ | refine wpList_parts rfl 39 _ rfl #[(0, .agg (d16 1)), (1, .agg (d16 1)), (2, .agg (d16 0))] (by simp only [List.map_toArray, List.map_cons, List.map_nil]; rfl) (.agg (ptC 1 1 0)) (buildPt 1 1 0) ?_ | refine wpList_store_row rfl 39 _ _ rfl (w.heap.size + 1 + 1) _ rfl rfl 39 _ hR (infoPt _ _ _) (by simp only [ptC_size]) (tab_oneCell _ _ fun _ => rfl) ?_)
  clear hBW hb hs18 hz18 hl18 hs19 hz19 hl19
  exact bodyPost_ret (v := .agg (ptC 1 1 0)) (results_cell_row rfl _ _ (w.heap.size + 1 + 1) 39 _ _ _ rfl (hR.setRow _) Tryd.underlying39 rfl (infoPt _ _ _)) rfl ⟨rfl, below_setRow hb0 (by omega) _⟩
set_option maxRecDepth 100000 in
set_option maxHeartbeats 4000000 in
theorem double_z (X Y g : Nat) (w : World) : Calls Tryd.prog 32 #[.pointer (some ⟨g, 0, none⟩), .agg (ptC X Y 0)] w fun e w' => e = .returned (.agg (ptC X Y 0)) ∧ Below w.heap.size w w' := by
  obtain ⟨Z, hZ⟩ : ∃ Z : Nat, Z = 0 := ⟨_, rfl⟩
  rw [← hZ]
  have hz : ∀ W, (binOp .eql 32 (.agg (d16 Z)) (.agg (d16 0))).run Tryd.prog W = .ok (.bool true) W := fun W => by rw [hZ]; exact hexZ W
  clear hZ
  have n0 := d16_ne 0
  have hP : Has ((w.alloc (.cells (ptC X Y Z) 39)).alloc (.cells (ptC 0 0 0) 39)) w.heap.size 39 (ptC X Y Z) := (Has.new w _ _).alloc _
  have hR : Has ((w.alloc (.cells (ptC X Y Z) 39)).alloc (.cells (ptC 0 0 0) 39)) (w.heap.size + 1) 39 (ptC 0 0 0) := Has.new' (by simp)
  have hb0 : Below w.heap.size w ((w.alloc (.cells (ptC X Y Z) 39)).alloc (.cells (ptC 0 0 0) 39)) := ((Below.refl _ _).alloc (Nat.le_refl _) _).alloc (by simp) _
  go_enter Tryd.func32, Tryd.ntmps32
  go_wp2_with (first | refine wpList_load_hex rfl _ rfl (w.heap.size) 32 rfl Z (pt_z hP) ?_ | refine wpList_load_has 39 _ rfl _ rfl rfl 39 _ hP _ Tryd.underlying39 rfl (infoPt _ _ _) ?_ | refine wpList_store_row rfl 39 _ _ rfl (w.heap.size + 1) _ rfl rfl 39 _ hR (infoPt _ _ _) (by simp only [ptC_size]) (tab_oneCell _ _ fun _ => rfl) ?_)
  exact bodyPost_ret (v := .agg (ptC X Y Z)) (results_cell_row rfl _ _ (w.heap.size + 1) 39 _ _ _ rfl (hR.setRow _) Tryd.underlying39 rfl (infoPt _ _ _)) rfl ⟨rfl, below_setRow hb0 (by omega) _⟩
/-- three numbers: a point as quotients -/
structure T3 where
  x : Nat
  y : Nat
  z : Nat
def T3.ok (m : Nat) (t : T3) : Prop := t.x < m ∧ t.y < m ∧ t.z < m
def T3.is (t : T3) (P : Ec.Pnt) : Prop := Ec.Rep (Ec.c t.x) (Ec.c t.y) (Ec.c t.z) P
abbrev T3.v (t : T3) : Value := .agg (ptC t.x t.y t.z)
theorem c0 : Ec.c 0 = 0 := rfl
theorem T3.none_of {t : T3} {P : Ec.Pnt} (hz : t.z = 0) (h : t.is P) : P = none := by
  match P with
  | none => rfl
  | some (x, y) => exact absurd (by rw [hz]; rfl) h.1
/-- what Double answers -/
def DblIs (m : Nat) (t t' : T3) : Prop := t'.ok m ∧ (∀ P, t.is P → t'.is (Ec.plus P P)) ∧
  ∀ g w, IsField w g m → Calls Tryd.prog 32 #[.pointer (some ⟨g, 0, none⟩), t.v] w fun e w' => e = .returned t'.v ∧ Below w.heap.size w w'
theorem dbl_ex {m : Nat} (hm : FldOK m) (hmp : m = Ec.pp) (t : T3) (ht : t.ok m) : ∃ t', DblIs m t t' := by
  obtain ⟨h1, h2, h3⟩ := ht
  by_cases hz : t.z = 0
  · refine ⟨t, ⟨h1, h2, h3⟩, fun P hP => ?_, fun g w hF => ?_⟩
    · obtain rfl := T3.none_of hz hP
      exact hP
    · obtain ⟨x, y, z⟩ := t
      obtain rfl : z = 0 := hz
      exact double_z x y g w
  · obtain ⟨X', Y', Z', l1, l2, l3, hr, hc⟩ := double_nz t.x t.y t.z m hm hmp h1 h2 h3 hz
    exact ⟨⟨X', Y', Z'⟩, ⟨l1, l2, l3⟩, hr, hc⟩
/-- what Plus answers -/
def SumIs (m : Nat) (s t r : T3) : Prop := r.ok m ∧ (∀ P Q, Ec.OnP P → Ec.OnP Q → s.is P → t.is Q → r.is (Ec.plus P Q)) ∧
  ∀ g w, IsField w g m → Calls Tryd.prog 19 #[.pointer (some ⟨g, 0, none⟩), s.v, t.v] w fun e w' => e = .returned r.v ∧ Below w.heap.size w w'
theorem sum_ex {m : Nat} (hm : FldOK m) (hmp : m = Ec.pp) (s t : T3) (hs : s.ok m) (ht : t.ok m) : ∃ r, SumIs m s t r := by
  obtain ⟨h1, h2, h3⟩ := hs
  obtain ⟨k1, k2, k3⟩ := ht
  by_cases hz1 : s.z = 0
  · refine ⟨t, ⟨k1, k2, k3⟩, fun P Q _ _ hP hQ => ?_, fun g w hF => ?_⟩
    · obtain rfl := T3.none_of hz1 hP
      exact hQ
    · obtain ⟨x, y, z⟩ := s
      obtain rfl : z = 0 := hz1
      exact plus_z1 x y t.x t.y t.z g m w hF
  by_cases hz2 : t.z = 0
  · refine ⟨s, ⟨h1, h2, h3⟩, fun P Q _ _ hP hQ => ?_, fun g w hF => ?_⟩
    · obtain rfl := T3.none_of hz2 hQ
      have e : Ec.plus P none = P := Ec.add_none _ _
      rw [e]
      exact hP
    · obtain ⟨x, y, z⟩ := t
      obtain rfl : z = 0 := hz2
      exact plus_z2 s.x s.y s.z x y g m w hF hm h3 hz1
  have z1 : Ec.c s.z ≠ 0 := Ec.c_zero (by rw [← hmp]; exact h3) hz1
  have z2 : Ec.c t.z ≠ 0 := Ec.c_zero (by rw [← hmp]; exact k3) hz2
  have hlt : ∀ x, x % m < m := fun x => Nat.mod_lt _ hm.1
  have ev : Ec.c ((t.x * s.z % m + (m - s.x * t.z % m)) % m) = Ec.c t.x * Ec.c s.z - Ec.c s.x * Ec.c t.z := by rw [cs hmp _ _ (Nat.le_of_lt (hlt _)), cm hmp, cm hmp]
  have eu : Ec.c ((t.y * s.z % m + (m - s.y * t.z % m)) % m) = Ec.c t.y * Ec.c s.z - Ec.c s.y * Ec.c t.z := by rw [cs hmp _ _ (Nat.le_of_lt (hlt _)), cm hmp, cm hmp]
  by_cases hv : (t.x * s.z % m + (m - s.x * t.z % m)) % m = 0
  · have ev0 : Ec.c t.x * Ec.c s.z - Ec.c s.x * Ec.c t.z = 0 := by rw [← ev, hv]; rfl
    by_cases hu : (t.y * s.z % m + (m - s.y * t.z % m)) % m = 0
    · have eu0 : Ec.c t.y * Ec.c s.z - Ec.c s.y * Ec.c t.z = 0 := by rw [← eu, hu]; rfl
      obtain ⟨d, hd1, hd2, hd3⟩ := dbl_ex hm hmp s ⟨h1, h2, h3⟩
      refine ⟨d, hd1, fun P Q _ _ hP hQ => ?_, fun g w hF => plus_same s.x s.y s.z t.x t.y t.z m hm hmp h1 h2 h3 k1 k2 k3 hz1 hz2 hv hu d.x d.y d.z g w hF hd3⟩
      obtain rfl := Ec.rep_same hP hQ z1 z2 ev0 eu0
      exact hd2 P hP
    · have eu0 : Ec.c t.y * Ec.c s.z - Ec.c s.y * Ec.c t.z ≠ 0 := by rw [← eu]; exact Ec.c_zero (by rw [← hmp]; exact hlt _) hu
      have h1m : 1 < m := by rw [hmp]; decide
      refine ⟨⟨1, 1, 0⟩, ⟨h1m, h1m, hm.1⟩, fun P Q oP oQ hP hQ => ?_, fun g w hF => plus_opp s.x s.y s.z t.x t.y t.z m hm hmp h1 h2 h3 k1 k2 k3 hz1 hz2 hv hu g w hF⟩
      rw [Ec.rep_opp hP hQ z1 z2 ev0 eu0 oP oQ]
      rfl
  · obtain ⟨X', Y', Z', l1, l2, l3, hr, hc⟩ := plus_ne s.x s.y s.z t.x t.y t.z m hm hmp h1 h2 h3 k1 k2 k3 hz1 hz2 hv
    exact ⟨⟨X', Y', Z'⟩, ⟨l1, l2, l3⟩, fun P Q _ _ hP hQ => hr P Q hP hQ, hc⟩
instance : Nonempty T3 := ⟨⟨0, 0, 0⟩⟩
noncomputable def dblT (m : Nat) (t : T3) : T3 := Classical.epsilon (DblIs m t)
noncomputable def sumT (m : Nat) (s t : T3) : T3 := Classical.epsilon (SumIs m s t)
theorem dblT_is {m : Nat} (hm : FldOK m) (hmp : m = Ec.pp) {t : T3} (ht : t.ok m) : DblIs m t (dblT m t) := Classical.epsilon_spec (dbl_ex hm hmp t ht)
theorem sumT_is {m : Nat} (hm : FldOK m) (hmp : m = Ec.pp) {s t : T3} (hs : s.ok m) (ht : t.ok m) : SumIs m s t (sumT m s t) := Classical.epsilon_spec (sum_ex hm hmp s t hs ht)
end Go.Proofs.YtmgmfifkldpbmaaDoor
