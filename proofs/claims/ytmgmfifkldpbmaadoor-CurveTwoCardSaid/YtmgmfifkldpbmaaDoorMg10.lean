/-
Package curve: the point at infinity, a point's projective coordinates, the point of projective coordinates, the sum of two points.
Package curve: New, Order, Base, On.
Package curve: Two; Mult and Add; what they answer on a nil Curve.
Package curve: multiples and sums of points; what a nil Curve answers; all its calls together.
-/
import Derived.Test.YtmgmfifkldpbmaaDoorMg09
namespace Go.Proofs.YtmgmfifkldpbmaaDoor
open Go.RowKit

theorem buildC4 (x y : Nat) (W : World) : (Instr.build 35 #[(0, .agg (nums x)), (1, .agg (nums y))]).run Tryd.prog W = .ok (.agg (cpC x y false)) W := by kernel_rfl
theorem buildCN (W : World) : (Instr.build 35 #[(2, .bool true)]).run Tryd.prog W = .ok (.agg (cpC 0 0 true)) W := by kernel_rfl
attribute [local go_sem] zeroNum zero24 zero17c
set_option maxRecDepth 100000 in
set_option maxHeartbeats 4000000 in
theorem infinity_any (m bm g : Nat) (w : World) (hI : IsCrv m bm w g) : Calls Tryd.prog 41 #[.pointer (some ⟨g, 0, none⟩)] w fun e w' => e = .returned (.agg (pjC 0 (RR % m) 0)) ∧ Below w.heap.size w w' := by
  obtain ⟨f, hG, hM, hL⟩ := hI
  have kO := fun W (h : Below w.heap.size w W) => mone_any m f W (hM.after h)
  generalize RR % m = v at *
  clear hM hL
  have hR : Has (w.alloc (.cells (pjC 0 0 0) 76)) (w.heap.size) 76 (pjC 0 0 0) := (Has.new w _ _)
  have hb0 : Below w.heap.size w (w.alloc (.cells (pjC 0 0 0) 76)) := ((Below.refl _ _).alloc (Nat.le_refl _) _)
  replace hG := hG.after hb0
  have cell0 := crv_f hG
  go_enter Tryd.func41, Tryd.ntmps41
  go_wp2_with fail
  clear cell0 hG
  refine (kO _ hb0).mono ?_
  rintro e w1 ⟨rfl, hx⟩
  replace hR := hR.after hx
  replace hb0 := below_trans hb0 hx
  clear hx kO
  go_wp2_with (first | refine wpList_parts rfl 76 _ rfl #[(1, .agg (nums v))] (by simp only [List.map_toArray, List.map_cons, List.map_nil]; rfl) (.agg (pjC 0 v 0)) (buildPj1 v) ?_ | refine wpList_store_row rfl 76 _ _ rfl (w.heap.size) _ rfl rfl 76 _ hR (infoPj _ _ _) (by simp only [pjC_size]) (tab_oneCell _ _ fun _ => rfl) ?_)
  exact bodyPost_ret (v := .agg (pjC 0 v 0)) (results_cell_row rfl _ _ (w.heap.size) 76 _ _ _ rfl (hR.setRow _) Tryd.underlying76 rfl (infoPj _ _ _)) rfl ⟨rfl, below_setRow hb0 (by omega) _⟩
set_option maxRecDepth 100000 in
set_option maxHeartbeats 4000000 in
theorem toProj_none (x y m bm g : Nat) (w : World) (hI : IsCrv m bm w g) : Calls Tryd.prog 39 #[.pointer (some ⟨g, 0, none⟩), .agg (cpC x y true)] w fun e w' => e = .returned (.agg (pjC 0 (RR % m) 0)) ∧ Below w.heap.size w w' := by
  have kO := fun W (h : Below w.heap.size w W) => infinity_any m bm g W (hI.after h)
  generalize RR % m = v at *
  clear hI
  have hA : Has ((w.alloc (.cells (cpC x y true) 35)).alloc (.cells (pjC 0 0 0) 76)) (w.heap.size) 35 (cpC x y true) := ((Has.new w _ _).alloc _)
  have hR : Has ((w.alloc (.cells (cpC x y true) 35)).alloc (.cells (pjC 0 0 0) 76)) (w.heap.size + 1) 76 (pjC 0 0 0) := (Has.new' (by simp))
  have hb0 : Below w.heap.size w ((w.alloc (.cells (cpC x y true) 35)).alloc (.cells (pjC 0 0 0) 76)) := (((Below.refl _ _).alloc (Nat.le_refl _) _).alloc (by simp <;> omega) _)
  have cell0 := cp_n hA
  go_enter Tryd.func39, Tryd.ntmps39
  go_wp2_with fail
  clear cell0 hA
  refine (kO _ hb0).mono ?_
  rintro e w1 ⟨rfl, hx⟩
  replace hR := hR.after hx
  replace hb0 := below_trans hb0 hx
  clear hx kO
  go_wp2_with (first | refine wpList_store_row rfl 76 _ _ rfl (w.heap.size + 1) _ rfl rfl 76 _ hR (infoPj _ _ _) (by simp only [pjC_size]) (tab_oneCell _ _ fun _ => rfl) ?_)
  exact bodyPost_ret (v := .agg (pjC 0 v 0)) (results_cell_row rfl _ _ (w.heap.size + 1) 76 _ _ _ rfl (hR.setRow _) Tryd.underlying76 rfl (infoPj _ _ _)) rfl ⟨rfl, below_setRow hb0 (by omega) _⟩
set_option maxRecDepth 100000 in
set_option maxHeartbeats 4000000 in
theorem toProj_some (x y m bm g : Nat) (w : World) (hI : IsCrv m bm w g) (bx : x < big) (by' : y < big) : Calls Tryd.prog 39 #[.pointer (some ⟨g, 0, none⟩), .agg (cpC x y false)] w fun e w' => e = .returned (.agg (pjC (x * RR % m) (y * RR % m) (RR % m))) ∧ Below w.heap.size w w' := by
  obtain ⟨f, hG, hM, hL⟩ := hI
  have kM := fun W (h : Below w.heap.size w W) => hM.after h
  have m0 : 0 < m := Nat.lt_of_lt_of_le (by decide) (Nat.le_of_lt hM.facts.2.1)
  obtain ⟨v1, ev1⟩ : ∃ v, v = x * RR % m := ⟨_, rfl⟩
  have lv1 : v1 < m := by rw [ev1]; exact Nat.mod_lt _ m0
  obtain ⟨v2, ev2⟩ : ∃ v, v = y * RR % m := ⟨_, rfl⟩
  have lv2 : v2 < m := by rw [ev2]; exact Nat.mod_lt _ m0
  obtain ⟨v3, ev3⟩ : ∃ v, v = RR % m := ⟨_, rfl⟩
  have lv3 : v3 < m := by rw [ev3]; exact Nat.mod_lt _ m0
  have kv1 := fun W (h : Below w.heap.size w W) => min_any x m f W (kM W h) bx
  rw [← ev1] at kv1
  have kv2 := fun W (h : Below w.heap.size w W) => min_any y m f W (kM W h) by'
  rw [← ev2] at kv2
  have kv3 := fun W (h : Below w.heap.size w W) => mone_any m f W (kM W h)
  rw [← ev3] at kv3
  have hr : pjC (x * RR % m) (y * RR % m) (RR % m) = pjC v1 v2 v3 := by rw [ev1, ev2, ev3]
  rw [hr]
  clear hr bx by' m0 hM hL ev1 lv1 ev2 lv2 ev3 lv3
  have hA : Has ((w.alloc (.cells (cpC x y false) 35)).alloc (.cells (pjC 0 0 0) 76)) (w.heap.size) 35 (cpC x y false) := ((Has.new w _ _).alloc _)
  have hR : Has ((w.alloc (.cells (cpC x y false) 35)).alloc (.cells (pjC 0 0 0) 76)) (w.heap.size + 1) 76 (pjC 0 0 0) := (Has.new' (by simp))
  have hb0 : Below w.heap.size w ((w.alloc (.cells (cpC x y false) 35)).alloc (.cells (pjC 0 0 0) 76)) := (((Below.refl _ _).alloc (Nat.le_refl _) _).alloc (by simp <;> omega) _)
  replace hG := hG.after hb0
  have cell0 := cp_n hA
  go_enter Tryd.func39, Tryd.ntmps39
  go_wp2_with fail
  clear cell0
  generalize (w.alloc _).alloc _ = U0 at *
  refine region_quiet_tail (Below U0.heap.size U0) 20 (by kernel_rfl) (by kernel_rfl) (below_drewN (Below.refl _ _) 1) ?_
  simp only [List.take_succ_cons, List.take_zero, List.drop_succ_cons, List.drop_zero]
  refine wpQ_move _ rfl rfl (.pointer (some ⟨g, 0, none⟩)) rfl ?_
  simp only [Act.put, List.setIfInBounds_toArray, List.set_cons_zero, List.set_cons_succ]
  refine wpQ_val rfl (.pointer (some ⟨g, 0, none⟩)) (fun w' _ => by go_simp) ?_
  simp only [Act.put, List.setIfInBounds_toArray, List.set_cons_zero, List.set_cons_succ]
  refine wpQ_val rfl (.pointer (some ⟨g, 0, none⟩)) (fun w' _ => by go_simp) ?_
  simp only [Act.put, List.setIfInBounds_toArray, List.set_cons_zero, List.set_cons_succ]
  refine wpQ_load 58 _ rfl rfl _ rfl (.pointer (some ⟨f, 0, none⟩)) (fun w' hC => cell_ptr _ _ _ w' (crv_f (hG.after hC))) ?_
  simp only [Act.put, List.setIfInBounds_toArray, List.set_cons_zero, List.set_cons_succ]
  refine wpQ_val rfl (.pointer (some ⟨w.heap.size, 0, none⟩)) (fun w' _ => by go_simp) ?_
  simp only [Act.put, List.setIfInBounds_toArray, List.set_cons_zero, List.set_cons_succ]
  refine wpQ_load_num rfl _ rfl (w.heap.size) 0 rfl x (fun w' hC => cp_x ((hA.after hC))) ?_
  simp only [Act.put, List.setIfInBounds_toArray, List.set_cons_zero, List.set_cons_succ]
  refine wpQ_fn 29 _ _ rfl rfl #[.pointer (some ⟨f, 0, none⟩), .agg (nums (x))] rfl (fun _ => by go_simp) (.agg (nums (v1))) (fun w' hC => (kv1 w' (below_trans hb0 hC)).mono fun e w'' ⟨he, hb⟩ => ⟨he, below_class hC hb⟩) ?_
  simp only [Act.put, List.setIfInBounds_toArray, List.set_cons_zero, List.set_cons_succ]
  refine wpQ_move _ rfl rfl (.pointer (some ⟨g, 0, none⟩)) rfl ?_
  simp only [Act.put, List.setIfInBounds_toArray, List.set_cons_zero, List.set_cons_succ]
  refine wpQ_val rfl (.pointer (some ⟨g, 0, none⟩)) (fun w' _ => by go_simp) ?_
  simp only [Act.put, List.setIfInBounds_toArray, List.set_cons_zero, List.set_cons_succ]
  refine wpQ_val rfl (.pointer (some ⟨g, 0, none⟩)) (fun w' _ => by go_simp) ?_
  simp only [Act.put, List.setIfInBounds_toArray, List.set_cons_zero, List.set_cons_succ]
  refine wpQ_load 58 _ rfl rfl _ rfl (.pointer (some ⟨f, 0, none⟩)) (fun w' hC => cell_ptr _ _ _ w' (crv_f (hG.after hC))) ?_
  simp only [Act.put, List.setIfInBounds_toArray, List.set_cons_zero, List.set_cons_succ]
  refine wpQ_val rfl (.pointer (some ⟨w.heap.size, 8, none⟩)) (fun w' _ => by go_simp) ?_
  simp only [Act.put, List.setIfInBounds_toArray, List.set_cons_zero, List.set_cons_succ]
  refine wpQ_load_num rfl _ rfl (w.heap.size) 8 rfl y (fun w' hC => cp_y ((hA.after hC))) ?_
  simp only [Act.put, List.setIfInBounds_toArray, List.set_cons_zero, List.set_cons_succ]
  refine wpQ_fn 29 _ _ rfl rfl #[.pointer (some ⟨f, 0, none⟩), .agg (nums (y))] rfl (fun _ => by go_simp) (.agg (nums (v2))) (fun w' hC => (kv2 w' (below_trans hb0 hC)).mono fun e w'' ⟨he, hb⟩ => ⟨he, below_class hC hb⟩) ?_
  simp only [Act.put, List.setIfInBounds_toArray, List.set_cons_zero, List.set_cons_succ]
  refine wpQ_move _ rfl rfl (.pointer (some ⟨g, 0, none⟩)) rfl ?_
  simp only [Act.put, List.setIfInBounds_toArray, List.set_cons_zero, List.set_cons_succ]
  refine wpQ_val rfl (.pointer (some ⟨g, 0, none⟩)) (fun w' _ => by go_simp) ?_
  simp only [Act.put, List.setIfInBounds_toArray, List.set_cons_zero, List.set_cons_succ]
  refine wpQ_val rfl (.pointer (some ⟨g, 0, none⟩)) (fun w' _ => by go_simp) ?_
  simp only [Act.put, List.setIfInBounds_toArray, List.set_cons_zero, List.set_cons_succ]
  refine wpQ_load 58 _ rfl rfl _ rfl (.pointer (some ⟨f, 0, none⟩)) (fun w' hC => cell_ptr _ _ _ w' (crv_f (hG.after hC))) ?_
  simp only [Act.put, List.setIfInBounds_toArray, List.set_cons_zero, List.set_cons_succ]
  refine wpQ_fn 59 _ _ rfl rfl #[.pointer (some ⟨f, 0, none⟩)] rfl (fun _ => by go_simp) (.agg (nums (v3))) (fun w' hC => (kv3 w' (below_trans hb0 hC)).mono fun e w'' ⟨he, hb⟩ => ⟨he, below_class hC hb⟩) ?_
  simp only [Act.put, List.setIfInBounds_toArray, List.set_cons_zero, List.set_cons_succ]
  refine wpQ_parts4 76 _ rfl rfl #[(0, .agg (nums (v1))), (1, .agg (nums (v2))), (2, .agg (nums (v3)))] (by simp only [List.map_toArray, List.map_cons, List.map_nil]; rfl) (.agg (pjC (v1) (v2) (v3))) (fun w' _ => buildPj _ _ _ w') ?_
  simp only [Act.put, List.setIfInBounds_toArray, List.set_cons_zero, List.set_cons_succ]
  refine wpQuiet_nil ?_
  intro u1 hC
  replace hG := hG.after hC
  replace hR := hR.after hC
  replace hA := hA.after hC
  replace hb0 := below_trans hb0 hC
  clear hC
  go_wp2_with (first | refine wpList_store_row rfl 76 _ _ rfl (w.heap.size + 1) _ rfl rfl 76 _ hR (infoPj _ _ _) (by simp only [pjC_size]) (tab_oneCell _ _ fun _ => rfl) ?_)
  exact bodyPost_ret (v := .agg (pjC v1 v2 v3)) (results_cell_row rfl _ _ (w.heap.size + 1) 76 _ _ _ rfl (hR.setRow _) Tryd.underlying76 rfl (infoPj _ _ _)) rfl ⟨rfl, below_setRow hb0 (by omega) _⟩
set_option maxRecDepth 100000 in
set_option maxHeartbeats 4000000 in
theorem toAff_zero (X Y g : Nat) (w : World) : Calls Tryd.prog 43 #[.pointer (some ⟨g, 0, none⟩), .agg (pjC X Y 0)] w fun e w' => e = .returned (.agg (cpC 0 0 true)) ∧ Below w.heap.size w w' := by
  have kZ := fun W => zero_any 0 W (by decide +kernel)
  have hs : sameN 0 0 = true := decide_eq_true rfl
  rw [hs] at kZ
  clear hs
  have hA : Has ((w.alloc (.cells (pjC X Y 0) 76)).alloc (.cells (cpC 0 0 false) 35)) (w.heap.size) 76 (pjC X Y 0) := ((Has.new w _ _).alloc _)
  have hR : Has ((w.alloc (.cells (pjC X Y 0) 76)).alloc (.cells (cpC 0 0 false) 35)) (w.heap.size + 1) 35 (cpC 0 0 false) := (Has.new' (by simp))
  have hb0 : Below w.heap.size w ((w.alloc (.cells (pjC X Y 0) 76)).alloc (.cells (cpC 0 0 false) 35)) := (((Below.refl _ _).alloc (Nat.le_refl _) _).alloc (by simp <;> omega) _)
  go_enter Tryd.func43, Tryd.ntmps43
  go_wp2_with (first | refine wpList_load_num rfl _ rfl _ 16 rfl _ (pj_z hA) ?_)
  refine (kZ _).mono ?_
  rintro e w1 ⟨rfl, hx⟩
  replace hR := hR.after hx
  replace hb0 := below_trans hb0 hx
  clear hx kZ hA
  go_wp2_with (first | refine wpList_parts rfl 35 _ rfl #[(2, .bool true)] (by simp only [List.map_toArray, List.map_cons, List.map_nil]; rfl) (.agg (cpC 0 0 true)) buildCN ?_ | refine wpList_store_row rfl 35 _ _ rfl (w.heap.size + 1) _ rfl rfl 35 _ hR (infoCp _ _ _) (by simp only [cpC_size]) (cpC_one _ _ _) ?_)
  exact bodyPost_ret (v := .agg (cpC 0 0 true)) (results_cell_row rfl _ _ (w.heap.size + 1) 35 _ _ _ rfl (hR.setRow _) Tryd.underlying35 rfl (infoCp _ _ _)) rfl ⟨rfl, below_setRow hb0 (by omega) _⟩
set_option maxRecDepth 100000 in
set_option maxHeartbeats 4000000 in
theorem toAff_nz (X Y Z m bm g : Nat) (w : World) (hI : IsCrv m bm w g) (lX : X < m) (lY : Y < m) (lZ : Z < m) (hz : Z ≠ 0) : Calls Tryd.prog 43 #[.pointer (some ⟨g, 0, none⟩), .agg (pjC X Y Z)] w fun e w' => e = .returned (.agg (cpC (redc m (redc m (X * powN m Z (m - 2)))) (redc m (redc m (Y * powN m Z (m - 2)))) false)) ∧ Below w.heap.size w w' := by
  obtain ⟨f, hG, hM, hL⟩ := hI
  have kM := fun W (h : Below w.heap.size w W) => hM.after h
  have m0 : 0 < m := Nat.lt_of_lt_of_le (by decide) (Nat.le_of_lt hM.facts.2.1)
  have kZ := fun W => zero_any Z W (Nat.lt_trans lZ hM.facts.1)
  have hs : sameN Z 0 = false := decide_eq_false hz
  rw [hs] at kZ
  obtain ⟨v1, ev1⟩ : ∃ v, v = powN m Z (m - 2) := ⟨_, rfl⟩
  have lv1 : v1 < m := by rw [ev1]; exact powN_lt m _ _ m0
  obtain ⟨v2, ev2⟩ : ∃ v, v = redc m (X * v1) := ⟨_, rfl⟩
  have lv2 : v2 < m := by rw [ev2]; exact redc_lt m _ m0
  obtain ⟨v3, ev3⟩ : ∃ v, v = redc m v2 := ⟨_, rfl⟩
  have lv3 : v3 < m := by rw [ev3]; exact redc_lt m _ m0
  obtain ⟨v4, ev4⟩ : ∃ v, v = redc m (Y * v1) := ⟨_, rfl⟩
  have lv4 : v4 < m := by rw [ev4]; exact redc_lt m _ m0
  obtain ⟨v5, ev5⟩ : ∃ v, v = redc m v4 := ⟨_, rfl⟩
  have lv5 : v5 < m := by rw [ev5]; exact redc_lt m _ m0
  have kv1 := fun W (h : Below w.heap.size w W) => minv_any Z m f W (kM W h) lZ
  rw [← ev1] at kv1
  have kv2 := fun W (h : Below w.heap.size w W) => mtimes_any X v1 m f W (kM W h) lX lv1
  rw [← ev2] at kv2
  have kv3 := fun W (h : Below w.heap.size w W) => mout_any v2 m f W (kM W h) lv2
  rw [← ev3] at kv3
  have kv4 := fun W (h : Below w.heap.size w W) => mtimes_any Y v1 m f W (kM W h) lY lv1
  rw [← ev4] at kv4
  have kv5 := fun W (h : Below w.heap.size w W) => mout_any v4 m f W (kM W h) lv4
  rw [← ev5] at kv5
  have hr : cpC (redc m (redc m (X * powN m Z (m - 2)))) (redc m (redc m (Y * powN m Z (m - 2)))) false = cpC v3 v5 false := by rw [ev3, ev5, ev2, ev4, ev1]
  rw [hr]
  clear hs hr hz lX lY lZ m0 hM hL ev1 lv1 ev2 lv2 ev3 lv3 ev4 lv4 ev5 lv5
  have n0 := nums_ne 0
  have hA : Has ((w.alloc (.cells (pjC X Y Z) 76)).alloc (.cells (cpC 0 0 false) 35)) (w.heap.size) 76 (pjC X Y Z) := ((Has.new w _ _).alloc _)
  have hR : Has ((w.alloc (.cells (pjC X Y Z) 76)).alloc (.cells (cpC 0 0 false) 35)) (w.heap.size + 1) 35 (cpC 0 0 false) := (Has.new' (by simp))
  have hb0 : Below w.heap.size w ((w.alloc (.cells (pjC X Y Z) 76)).alloc (.cells (cpC 0 0 false) 35)) := (((Below.refl _ _).alloc (Nat.le_refl _) _).alloc (by simp <;> omega) _)
  replace hG := hG.after hb0
  go_enter Tryd.func43, Tryd.ntmps43
  go_wp2_with (first | refine wpList_load_num rfl _ rfl _ 16 rfl _ (pj_z hA) ?_)
  refine (kZ _).mono ?_
  rintro e u0 ⟨rfl, hx⟩
  replace hA := hA.after hx
  replace hR := hR.after hx
  replace hG := hG.after hx
  replace hb0 := below_trans hb0 hx
  clear hx kZ
  have cell1 := crv_f hG
  go_wp2_with (first | refine wpList_load_num rfl _ rfl w.heap.size 16 rfl Z (pj_z (hA)) ?_)
  clear cell1
  refine (kv1 _ hb0).mono ?_
  rintro e u1 ⟨rfl, hx⟩
  have hN := put_new u1 24 (nums 0) (nums v1)
  replace hR := (hR.after hx).after hN.2
  replace hA := (hA.after hx).after hN.2
  replace hb0 := below_trans (below_trans hb0 hx) hN.2
  have hv_v1 := hN.1
  clear hx hN
  go_wp2_with (first | (refine wpList_store_row rfl 24 _ _ rfl u1.heap.size _ rfl rfl 24 (nums 0) (Has.new' rfl) (infoNum _) (by simp only [nums_size]) (tab_oneCell _ _ fun _ => rfl) ?_; generalize hWW : World.setRow _ u1.heap.size _ = U1 at *; clear hWW))
  refine region_quiet_tail (Below U1.heap.size U1) 15 (by kernel_rfl) (by kernel_rfl) (below_drewN (Below.refl _ _) 1) ?_
  simp only [List.take_succ_cons, List.take_zero, List.drop_succ_cons, List.drop_zero]
  refine wpQ_move _ rfl rfl (.pointer (some ⟨f, 0, none⟩)) rfl ?_
  simp only [Act.put, List.setIfInBounds_toArray, List.set_cons_zero, List.set_cons_succ]
  refine wpQ_move _ rfl rfl (.pointer (some ⟨f, 0, none⟩)) rfl ?_
  simp only [Act.put, List.setIfInBounds_toArray, List.set_cons_zero, List.set_cons_succ]
  refine wpQ_val rfl (.pointer (some ⟨w.heap.size, 0, none⟩)) (fun w' _ => by go_simp) ?_
  simp only [Act.put, List.setIfInBounds_toArray, List.set_cons_zero, List.set_cons_succ]
  refine wpQ_load_num rfl _ rfl (w.heap.size) 0 rfl X (fun w' hC => pj_x ((hA.after hC))) ?_
  simp only [Act.put, List.setIfInBounds_toArray, List.set_cons_zero, List.set_cons_succ]
  refine wpQ_has 24 _ rfl _ rfl rfl 24 _ (fun w' hC => hv_v1.after hC) _ Tryd.underlying24 rfl (infoNum _) ?_
  simp only [Act.put, List.setIfInBounds_toArray, List.set_cons_zero, List.set_cons_succ]
  refine wpQ_fn 35 _ _ rfl rfl #[.pointer (some ⟨f, 0, none⟩), .agg (nums (X)), .agg (nums (v1))] rfl (fun _ => by go_simp) (.agg (nums (v2))) (fun w' hC => (kv2 w' (below_trans hb0 hC)).mono fun e w'' ⟨he, hb⟩ => ⟨he, below_class hC hb⟩) ?_
  simp only [Act.put, List.setIfInBounds_toArray, List.set_cons_zero, List.set_cons_succ]
  refine wpQ_fn 63 _ _ rfl rfl #[.pointer (some ⟨f, 0, none⟩), .agg (nums (v2))] rfl (fun _ => by go_simp) (.agg (nums (v3))) (fun w' hC => (kv3 w' (below_trans hb0 hC)).mono fun e w'' ⟨he, hb⟩ => ⟨he, below_class hC hb⟩) ?_
  simp only [Act.put, List.setIfInBounds_toArray, List.set_cons_zero, List.set_cons_succ]
  refine wpQ_move _ rfl rfl (.pointer (some ⟨f, 0, none⟩)) rfl ?_
  simp only [Act.put, List.setIfInBounds_toArray, List.set_cons_zero, List.set_cons_succ]
  refine wpQ_move _ rfl rfl (.pointer (some ⟨f, 0, none⟩)) rfl ?_
  simp only [Act.put, List.setIfInBounds_toArray, List.set_cons_zero, List.set_cons_succ]
  refine wpQ_val rfl (.pointer (some ⟨w.heap.size, 8, none⟩)) (fun w' _ => by go_simp) ?_
  simp only [Act.put, List.setIfInBounds_toArray, List.set_cons_zero, List.set_cons_succ]
  refine wpQ_load_num rfl _ rfl (w.heap.size) 8 rfl Y (fun w' hC => pj_y ((hA.after hC))) ?_
  simp only [Act.put, List.setIfInBounds_toArray, List.set_cons_zero, List.set_cons_succ]
  refine wpQ_has 24 _ rfl _ rfl rfl 24 _ (fun w' hC => hv_v1.after hC) _ Tryd.underlying24 rfl (infoNum _) ?_
  simp only [Act.put, List.setIfInBounds_toArray, List.set_cons_zero, List.set_cons_succ]
  refine wpQ_fn 35 _ _ rfl rfl #[.pointer (some ⟨f, 0, none⟩), .agg (nums (Y)), .agg (nums (v1))] rfl (fun _ => by go_simp) (.agg (nums (v4))) (fun w' hC => (kv4 w' (below_trans hb0 hC)).mono fun e w'' ⟨he, hb⟩ => ⟨he, below_class hC hb⟩) ?_
  simp only [Act.put, List.setIfInBounds_toArray, List.set_cons_zero, List.set_cons_succ]
  refine wpQ_fn 63 _ _ rfl rfl #[.pointer (some ⟨f, 0, none⟩), .agg (nums (v4))] rfl (fun _ => by go_simp) (.agg (nums (v5))) (fun w' hC => (kv5 w' (below_trans hb0 hC)).mono fun e w'' ⟨he, hb⟩ => ⟨he, below_class hC hb⟩) ?_
  simp only [Act.put, List.setIfInBounds_toArray, List.set_cons_zero, List.set_cons_succ]
  refine wpQ_parts4 35 _ rfl rfl #[(0, .agg (nums (v3))), (1, .agg (nums (v5)))] (by simp only [List.map_toArray, List.map_cons, List.map_nil]; rfl) (.agg (cpC (v3) (v5) false)) (fun w' _ => buildC4 _ _ w') ?_
  simp only [Act.put, List.setIfInBounds_toArray, List.set_cons_zero, List.set_cons_succ]
  refine wpQuiet_nil ?_
  intro u2 hC
  replace hv_v1 := hv_v1.after hC
  replace hR := hR.after hC
  replace hA := hA.after hC
  replace hb0 := below_trans hb0 hC
  clear hC
  go_wp2_with (first | refine wpList_store_row rfl 35 _ _ rfl (w.heap.size + 1) _ rfl rfl 35 _ hR (infoCp _ _ _) (by simp only [cpC_size]) (cpC_one _ _ _) ?_)
  exact bodyPost_ret (v := .agg (cpC v3 v5 false)) (results_cell_row rfl _ _ (w.heap.size + 1) 35 _ _ _ rfl (hR.setRow _) Tryd.underlying35 rfl (infoCp _ _ _)) rfl ⟨rfl, below_setRow hb0 (by omega) _⟩

/- points and what stands for them -/
def T3.rep (t : T3) (P : Ec.Pnt) : Prop := Ec.RepC (mo t.x) (mo t.y) (mo t.z) P
def prjT (m : Nat) : Ec.Pnt → T3
  | none => ⟨0, RR % m, 0⟩
  | some (x, y) => ⟨x.val * RR % m, y.val * RR % m, RR % m⟩
theorem prjT_ok {m : Nat} (h : 0 < m) (P : Ec.Pnt) : (prjT m P).ok m := by
  match P with
  | none => exact ⟨h, Nat.mod_lt _ h, h⟩
  | some (x, y) => exact ⟨Nat.mod_lt _ h, Nat.mod_lt _ h, Nat.mod_lt _ h⟩
theorem prjT_rep {m : Nat} (h : m = Ec.pp) (P : Ec.Pnt) : (prjT m P).rep P := by
  subst h
  match P with
  | none => exact ⟨mo_zero, by show mo (RR % Ec.pp) ≠ 0; rw [mo_one]; decide, mo_zero⟩
  | some (x, y) =>
    refine ⟨by show mo (RR % Ec.pp) ≠ 0; rw [mo_one]; decide, ?_, ?_⟩
    · show mo (x.val * RR % Ec.pp) = x * mo (RR % Ec.pp)
      rw [mo_in, mo_one, c_val]; grobner
    · show mo (y.val * RR % Ec.pp) = y * mo (RR % Ec.pp)
      rw [mo_in, mo_one, c_val]; grobner
theorem toProj_any (P : Ec.Pnt) (m bm g : Nat) (w : World) (hI : IsCrv m bm w g) :
    Calls Tryd.prog 39 #[.pointer (some ⟨g, 0, none⟩), cpV P] w fun e w' => e = .returned (.agg (pjC (prjT m P).x (prjT m P).y (prjT m P).z)) ∧ Below w.heap.size w w' := by
  have hl := cp_lt P
  match P with
  | none => exact toProj_none 0 0 m bm g w hI
  | some (x, y) => exact toProj_some x.val y.val m bm g w hI hl.1 hl.2
theorem toAff_any (t : T3) (P : Ec.Pnt) (m bm g : Nat) (w : World) (hI : IsCrv m bm w g) (hmp : m = Ec.pp) (ht : t.ok m) (hr : t.rep P) :
    Calls Tryd.prog 43 #[.pointer (some ⟨g, 0, none⟩), .agg (pjC t.x t.y t.z)] w fun e w' => e = .returned (cpV P) ∧ Below w.heap.size w w' := by
  obtain ⟨X, Y, Z⟩ := t
  obtain ⟨lX, lY, lZ⟩ := ht
  by_cases hz : Z = 0
  · have hP : P = none := by
      match P with
      | none => rfl
      | some (x, y) => exact absurd (by show mo Z = 0; rw [hz]; exact mo_zero) hr.1
    subst hP hz
    exact toAff_zero X Y g w
  · have k := toAff_nz X Y Z m bm g w hI lX lY lZ hz
    subst hmp
    match P with
    | none => exact absurd (mo_eq0 lZ hr.2.2) hz
    | some (x, y) =>
      obtain ⟨h1, h2, h3⟩ := hr
      have hi := mo_inv h1
      have ex : redc Ec.pp (redc Ec.pp (X * powN Ec.pp Z (Ec.pp - 2))) = x.val := by
        rw [← mo_val, mo_mul, show mo X = x * mo Z from h2]
        congr 1
        generalize mo (powN Ec.pp Z (Ec.pp - 2)) = i at *
        clear k h2 h3
        have e : x * mo Z * i = x * (mo Z * i) := by clear hi h1; grobner
        rw [e, hi]; clear hi h1 e; grobner
      have ey : redc Ec.pp (redc Ec.pp (Y * powN Ec.pp Z (Ec.pp - 2))) = y.val := by
        rw [← mo_val, mo_mul, show mo Y = y * mo Z from h3]
        congr 1
        generalize mo (powN Ec.pp Z (Ec.pp - 2)) = i at *
        clear k h2 h3 ex
        have e : y * mo Z * i = y * (mo Z * i) := by clear hi h1; grobner
        rw [e, hi]; clear hi h1 e; grobner
      rw [ex, ey] at k
      exact k
/-- r is what sum answers for s and t -/
def SumC (m bm : Nat) (s t r : T3) : Prop := r.ok m ∧ (∀ P Q, Ec.OnP P → Ec.OnP Q → s.rep P → t.rep Q → r.rep (Ec.plus P Q)) ∧
  ∀ g w, IsCrv m bm w g → Calls Tryd.prog 40 #[.pointer (some ⟨g, 0, none⟩), .agg (pjC s.x s.y s.z), .agg (pjC t.x t.y t.z)] w fun e w' => e = .returned (.agg (pjC r.x r.y r.z)) ∧ Below w.heap.size w w'
theorem sumC_ex {m bm : Nat} (hmp : m = Ec.pp) (lbm : bm < m) (hbm : mo bm = Ec.cB) {s t : T3} (hs : s.ok m) (ht : t.ok m) : ∃ r, SumC m bm s t r := by
  obtain ⟨X', Y', Z', h1, h2, h3, h4, h5⟩ := csum_ex s.x s.y s.z t.x t.y t.z m bm hs.1 hs.2.1 hs.2.2 ht.1 ht.2.1 ht.2.2 lbm hmp hbm
  exact ⟨⟨X', Y', Z'⟩, ⟨h1, h2, h3⟩, fun P Q oP oQ hP hQ => h4 P Q oP oQ hP hQ, h5⟩
noncomputable def sumC (m bm : Nat) (s t : T3) : T3 := Classical.epsilon (SumC m bm s t)
theorem sumC_is {m bm : Nat} (hmp : m = Ec.pp) (lbm : bm < m) (hbm : mo bm = Ec.cB) {s t : T3} (hs : s.ok m) (ht : t.ok m) : SumC m bm s t (sumC m bm s t) := Classical.epsilon_spec (sumC_ex hmp lbm hbm hs ht)
end Go.Proofs.YtmgmfifkldpbmaaDoor
namespace Go.Proofs.YtmgmfifkldpbmaaDoor
open Go.RowKit

/-- the curve's b in Montgomery's form -/
def bM : Nat := bN * RR % Ec.pp
theorem bM_lt : bM < Ec.pp := Nat.mod_lt _ pp_odd.2.2
theorem bM_mo : mo bM = Ec.cB := (mo_in bN).trans cB_eq
abbrev IsCurve : World → Nat → Prop := IsCrv Ec.pp bM
theorem foldCrv (f x : Nat) (W : World) : (Instr.build 64 #[(0, .pointer (some ⟨f, 0, none⟩)), (1, .agg (nums x))]).run Tryd.prog W = .ok (.agg (crvC f x)) W := by kernel_rfl
attribute [local go_sem] zeroNum zero24 zero17c
set_option maxRecDepth 100000 in
set_option maxHeartbeats 1000000 in
theorem cnew_any (m b : Nat) (w : World) (hodd : m % 2 = 1) (h1 : 1 < m) (hm : m < big) (hb : b < big) (hL : Laid w) (hp : ∀ W, Below w.heap.size w W → W.rangeAt 0 0 (wordsL m)) (hbb : ∀ W, Below w.heap.size w W → W.rangeAt 1 0 (wordsL b)) :
    Calls Tryd.prog 8 #[] w fun e w' => (∃ g, e = .returned (.pointer (some ⟨g, 0, none⟩)) ∧ IsCrv m (b * RR % m) w' g) ∧ Below w.heap.size w w' := by
  have kN := fun W => new_any m W hodd h1 hm
  have kIn := fun f W (h : IsMod W f m) => min_any b m f W h hb
  have HI : ∀ (W : World) (g f : Nat), Has W g 64 (crvC f (b * RR % m)) → IsMod W f m → Below w.heap.size w W → IsCrv m (b * RR % m) W g := fun W g f a1 a2 a3 => ⟨f, a1, a2, hL.after a3⟩
  have HII := Lib.hid HI
  clear hodd h1 hm hb hL HI
  generalize b * RR % m = x at *
  have hb0 := Below.refl w.heap.size w
  have hp0 := hp w hb0
  go_enter Tryd.func8, Tryd.ntmps8
  go_wp2_with (first | refine wpList_load_num rfl _ rfl 0 0 rfl _ hp0 ?_)
  refine (kN _).mono ?_
  rintro e w1 ⟨⟨f, rfl, hM⟩, hx⟩
  have hb1 := hbb w1 hx
  clear kN hp hp0 hb0
  go_wp2_with (first | refine wpList_load_num rfl _ rfl 1 0 rfl _ hb1 ?_)
  refine (kIn _ _ hM).mono ?_
  rintro e w2 ⟨rfl, hx2⟩
  replace hM := hM.after hx2
  replace hx := below_trans hx hx2
  clear hx2 kIn hb1 hbb
  have hG : Has (w2.alloc (.cells (crvC f x) 64)) w2.heap.size 64 (crvC f x) := Has.new _ _ _
  have hbw : Below w2.heap.size w2 (w2.alloc (.cells (crvC f x) 64)) := (Below.refl _ _).alloc (Nat.le_refl _) _
  go_wp2_with (first | refine wpList_parts rfl 64 _ rfl #[(0, .pointer (some ⟨f, 0, none⟩)), (1, .agg (nums x))] (by simp only [List.map_toArray, List.map_cons, List.map_nil]; rfl) (.agg (crvC f x)) (foldCrv f x) ?_)
  go_ret
  exact ⟨⟨w2.heap.size, rfl, HII.out _ _ _ hG (hM.after hbw) (below_trans hx hbw)⟩, below_trans hx hbw⟩
set_option maxRecDepth 100000 in
set_option maxHeartbeats 1000000 in
theorem order_any (o : Nat) (w : World) (ho : ∀ W, Below w.heap.size w W → W.rangeAt 4 0 (wordsL o)) : Calls Tryd.prog 27 #[] w fun e w' => e = .returned (.agg (nums o)) ∧ Below w.heap.size w w' := by
  have n0 := nums_ne 0
  have hR : Has (w.alloc (.cells (nums 0) 24)) w.heap.size 24 (nums 0) := Has.new w _ _
  have hb0 : Below w.heap.size w (w.alloc (.cells (nums 0) 24)) := (Below.refl _ _).alloc (Nat.le_refl _) _
  have h1 := ho _ hb0
  clear ho
  go_enter Tryd.func27, Tryd.ntmps27
  go_wp2_with (first | refine wpList_load_num rfl _ rfl 4 0 rfl _ h1 ?_ | refine wpList_store_row rfl 24 _ _ rfl (w.heap.size) _ rfl rfl 24 _ hR (infoNum _) (by simp only [nums_size]) (tab_oneCell _ _ fun _ => rfl) ?_)
  exact bodyPost_ret (v := .agg (nums o)) (results_cell_row rfl _ _ (w.heap.size) 24 _ _ _ rfl (hR.setRow _) Tryd.underlying24 rfl (infoNum _)) rfl ⟨rfl, below_setRow hb0 (by omega) _⟩
set_option maxRecDepth 100000 in
set_option maxHeartbeats 1000000 in
theorem base_any (x y : Nat) (w : World) (hx : ∀ W, Below w.heap.size w W → W.rangeAt 2 0 (wordsL x)) (hy : ∀ W, Below w.heap.size w W → W.rangeAt 3 0 (wordsL y)) : Calls Tryd.prog 12 #[] w fun e w' => e = .returned (.agg (cpC x y false)) ∧ Below w.heap.size w w' := by
  have hR : Has (w.alloc (.cells (cpC 0 0 false) 35 )) w.heap.size 35 (cpC 0 0 false) := Has.new w _ _
  have hb0 : Below w.heap.size w (w.alloc (.cells (cpC 0 0 false) 35 )) := (Below.refl _ _).alloc (Nat.le_refl _) _
  have h1 := hx _ hb0
  have h2 := hy _ hb0
  clear hx hy
  go_enter Tryd.func12, Tryd.ntmps12
  go_wp2_with (first | refine wpList_load_num rfl _ rfl 2 0 rfl _ h1 ?_ | refine wpList_load_num rfl _ rfl 3 0 rfl _ h2 ?_ | refine wpList_parts rfl 35 _ rfl #[(0, .agg (nums x)), (1, .agg (nums y))] (by simp only [List.map_toArray, List.map_cons, List.map_nil]; rfl) (.agg (cpC x y false)) (buildC4 x y) ?_ | refine wpList_store_row rfl 35 _ _ rfl (w.heap.size) _ rfl rfl 35 _ hR (infoCp _ _ _) (by simp only [cpC_size]) (cpC_one _ _ _) ?_)
  exact bodyPost_ret (v := .agg (cpC x y false)) (results_cell_row rfl _ _ (w.heap.size) 35 _ _ _ rfl (hR.setRow _) Tryd.underlying35 rfl (infoCp _ _ _)) rfl ⟨rfl, below_setRow hb0 (by omega) _⟩
/-- is a number below the prime? -/
theorem isRed_any (x p : Nat) (w : World) (hx : x < big) (hp : p < big) (hr : ∀ W, Below w.heap.size w W → W.rangeAt 0 0 (wordsL p)) : Calls Tryd.prog 34 #[.agg (nums x)] w fun e w' => e = .returned (.bool (decide (x < p))) ∧ Below w.heap.size w w' := by
  have kC := fun W => compare_any x p W hx hp
  have hd : decide (x < p) = decide (cmpI x p < 0) := by
    by_cases h : x < p
    · rw [decide_eq_true h, decide_eq_true ((cmp_lt _ _).2 h)]
    · rw [decide_eq_false h, decide_eq_false fun h2 => h ((cmp_lt _ _).1 h2)]
  rw [hd]
  clear hd hx hp
  generalize cmpI x p = c at *
  have hA : Has (w.alloc (.cells (nums x) 24)) w.heap.size 24 (nums x) := Has.new w _ _
  have hb0 : Below w.heap.size w (w.alloc (.cells (nums x) 24)) := (Below.refl _ _).alloc (Nat.le_refl _) _
  have h1 := hr _ hb0
  clear hr
  go_enter Tryd.func34, Tryd.ntmps34
  go_wp2_with (first | refine wpList_load_has 24 _ rfl _ rfl rfl 24 _ hA _ Tryd.underlying24 rfl (infoNum _) ?_ | refine wpList_load_num rfl _ rfl 0 0 rfl _ h1 ?_)
  refine (kC _).mono ?_
  rintro e w1 ⟨rfl, hx⟩
  replace hb0 := below_trans hb0 hx
  clear hx kC hA h1
  go_wp2_with fail
  go_ret
  exact ⟨rfl, hb0⟩
section
variable {w : World} {ops : Array Oper} {rest : List Oper} {op : Oper} {a : Act} {Q : Exit → Act → World → Prop}
/-- a field loaded under a guard -/
theorem wpList_load_numG (hw : Region.wanted op (yielded ops a.tmps) = true) (p : Operand) (ho : op.op = .load 24 p) (b o : Nat) (hp : a.eval p = .pointer (some ⟨b, o, none⟩)) (x : Nat) (hc : w.rangeAt b o (wordsL x))
    (h : wpList Tryd.prog ops Q rest (a.put op.dst (.agg (nums x))) w) : wpList Tryd.prog ops Q (op :: rest) a w :=
  wpList_wanted hw fun _ hK => wp_load_num p ho b o hp x hc (hK _ _ h)
end
theorem cube_eq (a b : Ec.FP) : a * a * a - 3 * a + b = a * a * a + Ec.cA * a + b := by unfold Ec.cA; grobner
theorem numEqG (o1 o2 : Operand) (x y : Nat) (hx : x < big) (hy : y < big) (w : World) : (do eqGuard .eql 24 o1 o2 (.agg (nums x)) (.agg (nums y)); binOp .eql 24 (.agg (nums x)) (.agg (nums y)) : Sem Value).run Tryd.prog w = .ok (.bool (sameN x y)) w := by
  have es := eql_nums hx hy
  go_simp
theorem IsCrv.laid {m bm : Nat} {w : World} {g : Nat} (h : IsCrv m bm w g) : Laid w := by
  obtain ⟨f, h1, h2, h3⟩ := h
  exact h3
set_option maxRecDepth 100000 in
set_option maxHeartbeats 4000000 in
theorem on_none (X Y m bm g : Nat) (w : World) (_hI : IsCrv m bm w g) (_bX : X < big) (_bY : Y < big) : Calls Tryd.prog 17 #[.pointer (some ⟨g, 0, none⟩), .agg (cpC X Y true)] w fun e w' => e = .returned (.bool false) ∧ Below w.heap.size w w' := by
  have hA : Has (w.alloc (.cells (cpC X Y true) 35 )) w.heap.size 35 (cpC X Y true) := Has.new w _ _
  have hb0 : Below w.heap.size w (w.alloc (.cells (cpC X Y true) 35 )) := (Below.refl _ _).alloc (Nat.le_refl _) _
  have cell0 := cp_n hA
  clear _hI _bX _bY
  go_enter Tryd.func17, Tryd.ntmps17
  go_wp2_with fail
  go_ret
  exact ⟨rfl, hb0⟩
set_option maxRecDepth 100000 in
set_option maxHeartbeats 4000000 in
theorem on_badX (X Y m bm g : Nat) (w : World) (hI : IsCrv m bm w g) (bX : X < big) (bY : Y < big) (hX : ¬ X < Ec.pp) : Calls Tryd.prog 17 #[.pointer (some ⟨g, 0, none⟩), .agg (cpC X Y false)] w fun e w' => e = .returned (.bool false) ∧ Below w.heap.size w w' := by
  have kX := fun W (h : Below w.heap.size w W) => isRed_any X Ec.pp W bX (by decide +kernel) (fun W' h' => ((hI.after h).laid.after h').p)
  have kY := fun W (h : Below w.heap.size w W) => isRed_any Y Ec.pp W bY (by decide +kernel) (fun W' h' => ((hI.after h).laid.after h').p)
  rw [decide_eq_false hX] at kX
  clear kY hI bX bY hX
  have hA : Has (w.alloc (.cells (cpC X Y false) 35 )) w.heap.size 35 (cpC X Y false) := Has.new w _ _
  have hb0 : Below w.heap.size w (w.alloc (.cells (cpC X Y false) 35 )) := (Below.refl _ _).alloc (Nat.le_refl _) _
  have cell0 := cp_n hA
  go_enter Tryd.func17, Tryd.ntmps17
  go_wp2_with (first | refine wpList_load_numG rfl _ rfl w.heap.size 0 rfl X (cp_x hA) ?_)
  refine (kX _ hb0).mono ?_
  rintro e w1 ⟨rfl, hx⟩
  replace hA := hA.after hx
  replace hb0 := below_trans hb0 hx
  replace cell0 := cp_n hA
  clear hx kX
  go_wp2_with fail
  go_ret
  exact ⟨rfl, hb0⟩
set_option maxRecDepth 100000 in
set_option maxHeartbeats 4000000 in
theorem on_badY (X Y m bm g : Nat) (w : World) (hI : IsCrv m bm w g) (bX : X < big) (bY : Y < big) (hX : X < Ec.pp) (hY : ¬ Y < Ec.pp) : Calls Tryd.prog 17 #[.pointer (some ⟨g, 0, none⟩), .agg (cpC X Y false)] w fun e w' => e = .returned (.bool false) ∧ Below w.heap.size w w' := by
  have kX := fun W (h : Below w.heap.size w W) => isRed_any X Ec.pp W bX (by decide +kernel) (fun W' h' => ((hI.after h).laid.after h').p)
  have kY := fun W (h : Below w.heap.size w W) => isRed_any Y Ec.pp W bY (by decide +kernel) (fun W' h' => ((hI.after h).laid.after h').p)
  rw [decide_eq_true hX] at kX
  rw [decide_eq_false hY] at kY
  clear hI bX bY hX hY
  have hA : Has (w.alloc (.cells (cpC X Y false) 35 )) w.heap.size 35 (cpC X Y false) := Has.new w _ _
  have hb0 : Below w.heap.size w (w.alloc (.cells (cpC X Y false) 35 )) := (Below.refl _ _).alloc (Nat.le_refl _) _
  have cell0 := cp_n hA
  go_enter Tryd.func17, Tryd.ntmps17
  go_wp2_with (first | refine wpList_load_numG rfl _ rfl w.heap.size 0 rfl X (cp_x hA) ?_)
  refine (kX _ hb0).mono ?_
  rintro e w1 ⟨rfl, hx⟩
  replace hA := hA.after hx
  replace hb0 := below_trans hb0 hx
  replace cell0 := cp_n hA
  clear hx kX
  go_wp2_with (first | refine wpList_load_numG rfl _ rfl w.heap.size 8 rfl Y (cp_y hA) ?_)
  refine (kY _ hb0).mono ?_
  rintro e w2 ⟨rfl, hx⟩
  replace hA := hA.after hx
  replace hb0 := below_trans hb0 hx
  replace cell0 := cp_n hA
  clear hx kY
  go_wp2_with fail
  go_ret
  exact ⟨rfl, hb0⟩
set_option maxRecDepth 100000 in
set_option maxHeartbeats 4000000 in
theorem on_good (X Y m bm : Nat) (lX : X < m) (lY : Y < m) (bm' : m < big) (lbm : bm < m) (hmp : m = Ec.pp) (hbm : mo bm = Ec.cB) :
    ∃ r : Bool, (r = true ↔ Ec.OnP (some (Ec.c X, Ec.c Y))) ∧ ∀ w g, IsCrv m bm w g → Calls Tryd.prog 17 #[.pointer (some ⟨g, 0, none⟩), .agg (cpC X Y false)] w fun e w' => e = .returned (.bool r) ∧ Below w.heap.size w w' := by
  have m0 : 0 < m := Nat.lt_of_le_of_lt (Nat.zero_le _) lX
  have bX := Nat.lt_trans lX bm'
  have bY := Nat.lt_trans lY bm'
  obtain ⟨v1, ev1⟩ : ∃ v, v = X * RR % m := ⟨_, rfl⟩
  have lv1 : v1 < m := by rw [ev1]; exact Nat.mod_lt _ m0
  obtain ⟨v2, ev2⟩ : ∃ v, v = Y * RR % m := ⟨_, rfl⟩
  have lv2 : v2 < m := by rw [ev2]; exact Nat.mod_lt _ m0
  obtain ⟨v3, ev3⟩ : ∃ v, v = redc m (v1 * v1) := ⟨_, rfl⟩
  have lv3 : v3 < m := by rw [ev3]; exact redc_lt m _ m0
  obtain ⟨v4, ev4⟩ : ∃ v, v = redc m (v3 * v1) := ⟨_, rfl⟩
  have lv4 : v4 < m := by rw [ev4]; exact redc_lt m _ m0
  obtain ⟨v5, ev5⟩ : ∃ v, v = redc m (v2 * v2) := ⟨_, rfl⟩
  have lv5 : v5 < m := by rw [ev5]; exact redc_lt m _ m0
  obtain ⟨v6, ev6⟩ : ∃ v, v = triN m v1 := ⟨_, rfl⟩
  have lv6 : v6 < m := by rw [ev6]; exact triN_lt _ m0
  obtain ⟨v7, ev7⟩ : ∃ v, v = (v4 + (m - v6)) % m := ⟨_, rfl⟩
  have lv7 : v7 < m := by rw [ev7]; exact Nat.mod_lt _ m0
  obtain ⟨v8, ev8⟩ : ∃ v, v = (v7 + bm) % m := ⟨_, rfl⟩
  have lv8 : v8 < m := by rw [ev8]; exact Nat.mod_lt _ m0
  refine ⟨sameN v5 v8, ?_, fun w g hI => ?_⟩
  · have cv1 : mo v1 = Ec.c X := by rw [ev1, hmp]; exact mo_in X
    have cv2 : mo v2 = Ec.c Y := by rw [ev2, hmp]; exact mo_in Y
    have cv3 : mo v3 = mo v1 * mo v1 := by rw [ev3]; exact mT hmp v1 v1
    have cv4 : mo v4 = mo v3 * mo v1 := by rw [ev4]; exact mT hmp v3 v1
    have cv5 : mo v5 = mo v2 * mo v2 := by rw [ev5]; exact mT hmp v2 v2
    have cv6 : mo v6 = 3 * mo v1 := by rw [ev6]; exact mTri hmp v1
    have cv7 : mo v7 = mo v4 - mo v6 := by rw [ev7]; exact mS hmp v4 v6 (Nat.le_of_lt lv6)
    have cv8 : mo v8 = mo v7 + mo bm := by rw [ev8]; exact mA hmp v7 bm
    have h5 : mo v5 = Ec.c Y * Ec.c Y := by rw [cv5, cv2]
    have h8 : mo v8 = Ec.c X * Ec.c X * Ec.c X - 3 * Ec.c X + Ec.cB := by rw [cv8, cv7, cv4, cv3, cv6, cv1, hbm]
    rw [hmp] at lv5 lv8
    constructor
    · intro h
      have h1 : v5 = v8 := of_decide_eq_true h
      have h2 := congrArg mo h1
      rw [h5, h8] at h2
      show Ec.c Y * Ec.c Y = Ec.c X * Ec.c X * Ec.c X + Ec.cA * Ec.c X + Ec.cB
      rw [h2]
      exact cube_eq _ _
    · intro h
      have h1 : Ec.c Y * Ec.c Y = Ec.c X * Ec.c X * Ec.c X + Ec.cA * Ec.c X + Ec.cB := h
      refine decide_eq_true (mo_inj lv5 lv8 ?_)
      rw [h5, h8, h1]
      exact (cube_eq _ _).symm
  obtain ⟨f, hG, hM, hL⟩ := hI
  have kM := fun W (h : Below w.heap.size w W) => hM.after h
  have kI := fun W (h : Below w.heap.size w W) => (⟨f, hG.after h, hM.after h, hL.after h⟩ : IsCrv m bm W g)
  have kX := fun W (h : Below w.heap.size w W) => isRed_any X m W bX bm' (fun W' h' => by rw [hmp]; exact ((hL.after h).after h').p)
  have kY := fun W (h : Below w.heap.size w W) => isRed_any Y m W bY bm' (fun W' h' => by rw [hmp]; exact ((hL.after h).after h').p)
  rw [decide_eq_true lX] at kX
  rw [decide_eq_true lY] at kY
  have kv1 := fun W (h : Below w.heap.size w W) => min_any X m f W (kM W h) bX
  rw [← ev1] at kv1
  have kv2 := fun W (h : Below w.heap.size w W) => min_any Y m f W (kM W h) bY
  rw [← ev2] at kv2
  have kv3 := fun W (h : Below w.heap.size w W) => mtimes_any v1 v1 m f W (kM W h) lv1 lv1
  rw [← ev3] at kv3
  have kv4 := fun W (h : Below w.heap.size w W) => mtimes_any v3 v1 m f W (kM W h) lv3 lv1
  rw [← ev4] at kv4
  have kv5 := fun W (h : Below w.heap.size w W) => mtimes_any v2 v2 m f W (kM W h) lv2 lv2
  rw [← ev5] at kv5
  have kv6 := fun W (h : Below w.heap.size w W) => triple_any v1 m bm g W (kI W h) lv1
  rw [← ev6] at kv6
  have kv7 := fun W (h : Below w.heap.size w W) => msub_any v4 v6 m f W (kM W h) lv4 lv6
  rw [← ev7] at kv7
  have kv8 := fun W (h : Below w.heap.size w W) => madd_any v7 bm m f W (kM W h) lv7 lbm
  rw [← ev8] at kv8
  have hEQ := fun o1 o2 W => numEqG o1 o2 v5 v8 (Nat.lt_trans lv5 bm') (Nat.lt_trans lv8 bm') W
  generalize sameN v5 v8 = r at *
  clear m0 kI kM hM hL hmp hbm lX lY bX bY bm' lbm ev1 lv1 ev2 lv2 ev3 lv3 ev4 lv4 ev5 lv5 ev6 lv6 ev7 lv7 ev8 lv8
  have n0 := nums_ne 0
  have hA : Has (w.alloc (.cells (cpC X Y false) 35 )) w.heap.size 35 (cpC X Y false) := Has.new w _ _
  have hb0 : Below w.heap.size w (w.alloc (.cells (cpC X Y false) 35 )) := (Below.refl _ _).alloc (Nat.le_refl _) _
  have cell0 := cp_n hA
  replace hG := hG.after hb0
  go_enter Tryd.func17, Tryd.ntmps17
  go_wp2_with (first | refine wpList_load_numG rfl _ rfl w.heap.size 0 rfl X (cp_x hA) ?_)
  refine (kX _ hb0).mono ?_
  rintro e w1 ⟨rfl, hx⟩
  replace hA := hA.after hx
  replace hG := hG.after hx
  replace hb0 := below_trans hb0 hx
  replace cell0 := cp_n hA
  clear hx kX
  go_wp2_with (first | refine wpList_load_numG rfl _ rfl w.heap.size 8 rfl Y (cp_y hA) ?_)
  refine (kY _ hb0).mono ?_
  rintro e w2 ⟨rfl, hx⟩
  replace hA := hA.after hx
  replace hG := hG.after hx
  replace hb0 := below_trans hb0 hx
  replace cell0 := cp_n hA
  clear hx kY
  clear cell0
  have cell1 := crv_f hG
  go_wp2_with fail
  clear cell1
  have ohA_1 := hA.lt
  have ohG_1 := hG.lt
  refine region_facts 10 [] [.val (.pointer (some ⟨f, 0, none⟩)), .val (.pointer (some ⟨w.heap.size, 0, none⟩)), .val (.agg (nums (X))), .val (.agg (nums (v1))), .val (.pointer (some ⟨f, 0, none⟩)), .val (.pointer (some ⟨w.heap.size, 8, none⟩)), .val (.agg (nums (Y))), .val (.agg (nums (v2))), .new 24 (nums 0), .new 24 (nums 0)]
    (by kernel_rfl) (by kernel_rfl) (fun _ _ _ _ _ h => h) ?_ ?_
  · simp only [List.take_succ_cons, List.take_zero, StepsOK]
    refine ⟨?_, ?_, ?_, ?_, ?_, ?_, ?_, ?_, ?_, ?_, trivial⟩
    · intro v w' hb hf K hKt
      simp only [putAll, Act.put, List.setIfInBounds_toArray, List.set_cons_zero, List.set_cons_succ, Nat.zero_add, Nat.reduceAdd] at hKt ⊢
      go_simp
      exact hKt _ (Below.refl _ _)
    · intro v w' hb hf K hKt
      simp only [putAll, Act.put, List.setIfInBounds_toArray, List.set_cons_zero, List.set_cons_succ, Nat.zero_add, Nat.reduceAdd] at hKt ⊢
      go_simp
      exact hKt _ (Below.refl _ _)
    · intro v w' hb hf K hKt
      have f1 : v 1 = _ := hf ⟨1, .data⟩ (by simp) rfl
      simp only [putAll, Act.put, List.setIfInBounds_toArray, List.set_cons_zero, List.set_cons_succ, Nat.zero_add, Nat.reduceAdd] at hKt ⊢
      rw [f1] at hKt ⊢
      exact wp_load_num _ rfl (w.heap.size) 0 rfl X (cp_x ((hA.after hb))) (hKt _ (Below.refl _ _))
    · intro v w' hb hf K hKt
      have f0 : v 0 = _ := hf ⟨0, .data⟩ (by simp) rfl
      have f2 : v 2 = _ := hf ⟨2, .data⟩ (by simp) rfl
      simp only [putAll, Act.put, List.setIfInBounds_toArray, List.set_cons_zero, List.set_cons_succ, Nat.zero_add, Nat.reduceAdd] at hKt ⊢
      rw [f0, f2] at hKt ⊢
      go_simp
      refine (kv1 w' (below_trans hb0 hb)).mono ?_
      rintro e w'' ⟨rfl, hb2⟩
      exact hKt _ hb2
    · intro v w' hb hf K hKt
      simp only [putAll, Act.put, List.setIfInBounds_toArray, List.set_cons_zero, List.set_cons_succ, Nat.zero_add, Nat.reduceAdd] at hKt ⊢
      go_simp
      exact hKt _ (Below.refl _ _)
    · intro v w' hb hf K hKt
      simp only [putAll, Act.put, List.setIfInBounds_toArray, List.set_cons_zero, List.set_cons_succ, Nat.zero_add, Nat.reduceAdd] at hKt ⊢
      go_simp
      exact hKt _ (Below.refl _ _)
    · intro v w' hb hf K hKt
      have f5 : v 5 = _ := hf ⟨5, .data⟩ (by simp) rfl
      simp only [putAll, Act.put, List.setIfInBounds_toArray, List.set_cons_zero, List.set_cons_succ, Nat.zero_add, Nat.reduceAdd] at hKt ⊢
      rw [f5] at hKt ⊢
      exact wp_load_num _ rfl (w.heap.size) 8 rfl Y (cp_y ((hA.after hb))) (hKt _ (Below.refl _ _))
    · intro v w' hb hf K hKt
      have f4 : v 4 = _ := hf ⟨4, .data⟩ (by simp) rfl
      have f6 : v 6 = _ := hf ⟨6, .data⟩ (by simp) rfl
      simp only [putAll, Act.put, List.setIfInBounds_toArray, List.set_cons_zero, List.set_cons_succ, Nat.zero_add, Nat.reduceAdd] at hKt ⊢
      rw [f4, f6] at hKt ⊢
      go_simp
      refine (kv2 w' (below_trans hb0 hb)).mono ?_
      rintro e w'' ⟨rfl, hb2⟩
      exact hKt _ hb2
    · exact ⟨rfl, rfl, zeroVN⟩
    · exact ⟨rfl, rfl, zeroVN⟩
  intro v u1 hb hF hD
  have f0 : v 0 = _ := hF 0 (by decide)
  have f1 : v 1 = _ := hF 1 (by decide)
  have f2 : v 2 = _ := hF 2 (by decide)
  have f3 : v 3 = _ := hF 3 (by decide)
  have f4 : v 4 = _ := hF 4 (by decide)
  have f5 : v 5 = _ := hF 5 (by decide)
  have f6 : v 6 = _ := hF 6 (by decide)
  have f7 : v 7 = _ := hF 7 (by decide)
  obtain ⟨g1_8, f8, hg8, hl8, hz8⟩ := hF 8 (by decide)
  replace hz8 : Has u1 g1_8 24 (nums 0) := hz8
  obtain ⟨g1_9, f9, hg9, hl9, hz9⟩ := hF 9 (by decide)
  replace hz9 : Has u1 g1_9 24 (nums 0) := hz9
  have hne8_9 : g1_8 ≠ g1_9 := fun h => hD 8 9 (by decide) (by decide) (by decide) rfl rfl (by rw [f8, f9, h])
  simp only [List.take_succ_cons, List.take_zero, List.drop_succ_cons, List.drop_zero, putAll, Act.put, List.setIfInBounds_toArray, List.set_cons_zero, List.set_cons_succ, Nat.zero_add, Nat.reduceAdd]
  rw [f0, f1, f2, f3, f4, f5, f6, f7, f8, f9]
  clear hF hD f0 f1 f2 f3 f4 f5 f6 f7 f8 f9
  have hs8 := hz8
  have hs9 := (hz9).farRow (k := g1_8) (by omega) (nums (v1))
  have hBW := below_setRow (below_setRow (hb) (g := g1_8) hg8 (nums (v1))) (g := g1_9) hg9 (nums (v2))
  have hv_v1 := ((hz8).setRow (nums (v1))).farRow (k := g1_9) (by omega) (nums (v2))
  have hv_v2 := ((hz9).farRow (k := g1_8) (by omega) (nums (v1))).setRow (nums (v2))
  replace hA := hA.after hBW
  replace hG := hG.after hBW
  replace hb0 := below_trans hb0 hBW
  go_wp2_with (first | refine wpList_store_row rfl 24 _ _ rfl g1_8 _ rfl rfl 24 (nums 0) hs8 (infoNum _) (by simp only [nums_size]) (tab_oneCell _ _ fun _ => rfl) ?_ | (refine wpList_store_row rfl 24 _ _ rfl g1_9 _ rfl rfl 24 (nums 0) hs9 (infoNum _) (by simp only [nums_size]) (tab_oneCell _ _ fun _ => rfl) ?_; generalize hWW : World.setRow _ g1_9 _ = U1 at *; clear hWW))
  clear hBW hb hs8 hz8 hl8 hs9 hz9 hl9
  have ohv_v1_2 := hv_v1.lt
  have ohv_v2_2 := hv_v2.lt
  have ohA_2 := hA.lt
  have ohG_2 := hG.lt
  refine region_facts 8 [] [.val (.pointer (some ⟨f, 0, none⟩)), .val (.pointer (some ⟨f, 0, none⟩)), .val (.agg (nums (v1))), .val (.agg (nums (v1))), .val (.agg (nums (v3))), .val (.agg (nums (v1))), .val (.agg (nums (v4))), .new 24 (nums 0)]
    (by kernel_rfl) (by kernel_rfl) (fun _ _ _ _ _ h => h) ?_ ?_
  · simp only [List.take_succ_cons, List.take_zero, StepsOK]
    refine ⟨?_, ?_, ?_, ?_, ?_, ?_, ?_, ?_, trivial⟩
    · intro v w' hb hf K hKt
      simp only [putAll, Act.put, List.setIfInBounds_toArray, List.set_cons_zero, List.set_cons_succ, Nat.zero_add, Nat.reduceAdd] at hKt ⊢
      go_simp
      exact hKt _ (Below.refl _ _)
    · intro v w' hb hf K hKt
      simp only [putAll, Act.put, List.setIfInBounds_toArray, List.set_cons_zero, List.set_cons_succ, Nat.zero_add, Nat.reduceAdd] at hKt ⊢
      go_simp
      exact hKt _ (Below.refl _ _)
    · intro v w' hb hf K hKt
      simp only [putAll, Act.put, List.setIfInBounds_toArray, List.set_cons_zero, List.set_cons_succ, Nat.zero_add, Nat.reduceAdd] at hKt ⊢
      exact wp_load_row 24 _ rfl (g1_8) rfl 24 _ (0, 0) _ (hv_v1.after hb) Tryd.underlying24 rfl (infoNum _) (hKt _ (Below.refl _ _))
    · intro v w' hb hf K hKt
      simp only [putAll, Act.put, List.setIfInBounds_toArray, List.set_cons_zero, List.set_cons_succ, Nat.zero_add, Nat.reduceAdd] at hKt ⊢
      exact wp_load_row 24 _ rfl (g1_8) rfl 24 _ (0, 0) _ (hv_v1.after hb) Tryd.underlying24 rfl (infoNum _) (hKt _ (Below.refl _ _))
    · intro v w' hb hf K hKt
      have f1 : v 1 = _ := hf ⟨1, .data⟩ (by simp) rfl
      have f2 : v 2 = _ := hf ⟨2, .data⟩ (by simp) rfl
      have f3 : v 3 = _ := hf ⟨3, .data⟩ (by simp) rfl
      simp only [putAll, Act.put, List.setIfInBounds_toArray, List.set_cons_zero, List.set_cons_succ, Nat.zero_add, Nat.reduceAdd] at hKt ⊢
      rw [f1, f2, f3] at hKt ⊢
      go_simp
      refine (kv3 w' (below_trans hb0 hb)).mono ?_
      rintro e w'' ⟨rfl, hb2⟩
      exact hKt _ hb2
    · intro v w' hb hf K hKt
      simp only [putAll, Act.put, List.setIfInBounds_toArray, List.set_cons_zero, List.set_cons_succ, Nat.zero_add, Nat.reduceAdd] at hKt ⊢
      exact wp_load_row 24 _ rfl (g1_8) rfl 24 _ (0, 0) _ (hv_v1.after hb) Tryd.underlying24 rfl (infoNum _) (hKt _ (Below.refl _ _))
    · intro v w' hb hf K hKt
      have f0 : v 0 = _ := hf ⟨0, .data⟩ (by simp) rfl
      have f4 : v 4 = _ := hf ⟨4, .data⟩ (by simp) rfl
      have f5 : v 5 = _ := hf ⟨5, .data⟩ (by simp) rfl
      simp only [putAll, Act.put, List.setIfInBounds_toArray, List.set_cons_zero, List.set_cons_succ, Nat.zero_add, Nat.reduceAdd] at hKt ⊢
      rw [f0, f4, f5] at hKt ⊢
      go_simp
      refine (kv4 w' (below_trans hb0 hb)).mono ?_
      rintro e w'' ⟨rfl, hb2⟩
      exact hKt _ hb2
    · exact ⟨rfl, rfl, zeroVN⟩
  intro v u2 hb hF hD
  have f0 : v 0 = _ := hF 0 (by decide)
  have f1 : v 1 = _ := hF 1 (by decide)
  have f2 : v 2 = _ := hF 2 (by decide)
  have f3 : v 3 = _ := hF 3 (by decide)
  have f4 : v 4 = _ := hF 4 (by decide)
  have f5 : v 5 = _ := hF 5 (by decide)
  have f6 : v 6 = _ := hF 6 (by decide)
  obtain ⟨g2_7, f7, hg7, hl7, hz7⟩ := hF 7 (by decide)
  replace hz7 : Has u2 g2_7 24 (nums 0) := hz7
  simp only [List.take_succ_cons, List.take_zero, List.drop_succ_cons, List.drop_zero, putAll, Act.put, List.setIfInBounds_toArray, List.set_cons_zero, List.set_cons_succ, Nat.zero_add, Nat.reduceAdd]
  rw [f0, f1, f2, f3, f4, f5, f6, f7]
  clear hF hD f0 f1 f2 f3 f4 f5 f6 f7
  have hs7 := hz7
  have hBW := below_setRow (hb) (g := g2_7) hg7 (nums (v4))
  have hv_v4 := (hz7).setRow (nums (v4))
  replace hv_v1 := hv_v1.after hBW
  replace hv_v2 := hv_v2.after hBW
  replace hA := hA.after hBW
  replace hG := hG.after hBW
  replace hb0 := below_trans hb0 hBW
  go_wp2_with (first | (refine wpList_store_row rfl 24 _ _ rfl g2_7 _ rfl rfl 24 (nums 0) hs7 (infoNum _) (by simp only [nums_size]) (tab_oneCell _ _ fun _ => rfl) ?_; generalize hWW : World.setRow _ g2_7 _ = U2 at *; clear hWW))
  clear hBW hb hs7 hz7 hl7
  refine region_quiet_tail (Below U2.heap.size U2) 17 (by kernel_rfl) (by kernel_rfl) (below_drewN (Below.refl _ _) 1) ?_
  simp only [List.take_succ_cons, List.take_zero, List.drop_succ_cons, List.drop_zero]
  refine wpQ_move _ rfl rfl (.pointer (some ⟨f, 0, none⟩)) rfl ?_
  simp only [Act.put, List.setIfInBounds_toArray, List.set_cons_zero, List.set_cons_succ]
  refine wpQ_has 24 _ rfl _ rfl rfl 24 _ (fun w' hC => hv_v2.after hC) _ Tryd.underlying24 rfl (infoNum _) ?_
  simp only [Act.put, List.setIfInBounds_toArray, List.set_cons_zero, List.set_cons_succ]
  refine wpQ_has 24 _ rfl _ rfl rfl 24 _ (fun w' hC => hv_v2.after hC) _ Tryd.underlying24 rfl (infoNum _) ?_
  simp only [Act.put, List.setIfInBounds_toArray, List.set_cons_zero, List.set_cons_succ]
  refine wpQ_fn 35 _ _ rfl rfl #[.pointer (some ⟨f, 0, none⟩), .agg (nums (v2)), .agg (nums (v2))] rfl (fun _ => by go_simp) (.agg (nums (v5))) (fun w' hC => (kv5 w' (below_trans hb0 hC)).mono fun e w'' ⟨he, hb⟩ => ⟨he, below_class hC hb⟩) ?_
  simp only [Act.put, List.setIfInBounds_toArray, List.set_cons_zero, List.set_cons_succ]
  refine wpQ_move _ rfl rfl (.pointer (some ⟨f, 0, none⟩)) rfl ?_
  simp only [Act.put, List.setIfInBounds_toArray, List.set_cons_zero, List.set_cons_succ]
  refine wpQ_move _ rfl rfl (.pointer (some ⟨f, 0, none⟩)) rfl ?_
  simp only [Act.put, List.setIfInBounds_toArray, List.set_cons_zero, List.set_cons_succ]
  refine wpQ_has 24 _ rfl _ rfl rfl 24 _ (fun w' hC => hv_v4.after hC) _ Tryd.underlying24 rfl (infoNum _) ?_
  simp only [Act.put, List.setIfInBounds_toArray, List.set_cons_zero, List.set_cons_succ]
  refine wpQ_move _ rfl rfl (.pointer (some ⟨g, 0, none⟩)) rfl ?_
  simp only [Act.put, List.setIfInBounds_toArray, List.set_cons_zero, List.set_cons_succ]
  refine wpQ_has 24 _ rfl _ rfl rfl 24 _ (fun w' hC => hv_v1.after hC) _ Tryd.underlying24 rfl (infoNum _) ?_
  simp only [Act.put, List.setIfInBounds_toArray, List.set_cons_zero, List.set_cons_succ]
  refine wpQ_fn 38 _ _ rfl rfl #[.pointer (some ⟨g, 0, none⟩), .agg (nums (v1))] rfl (fun _ => by go_simp) (.agg (nums (v6))) (fun w' hC => (kv6 w' (below_trans hb0 hC)).mono fun e w'' ⟨he, hb⟩ => ⟨he, below_class hC hb⟩) ?_
  simp only [Act.put, List.setIfInBounds_toArray, List.set_cons_zero, List.set_cons_succ]
  refine wpQ_fn 37 _ _ rfl rfl #[.pointer (some ⟨f, 0, none⟩), .agg (nums (v4)), .agg (nums (v6))] rfl (fun _ => by go_simp) (.agg (nums (v7))) (fun w' hC => (kv7 w' (below_trans hb0 hC)).mono fun e w'' ⟨he, hb⟩ => ⟨he, below_class hC hb⟩) ?_
  simp only [Act.put, List.setIfInBounds_toArray, List.set_cons_zero, List.set_cons_succ]
  refine wpQ_move _ rfl rfl (.pointer (some ⟨g, 0, none⟩)) rfl ?_
  simp only [Act.put, List.setIfInBounds_toArray, List.set_cons_zero, List.set_cons_succ]
  refine wpQ_val rfl (.pointer (some ⟨g, 0, none⟩)) (fun w' _ => by go_simp) ?_
  simp only [Act.put, List.setIfInBounds_toArray, List.set_cons_zero, List.set_cons_succ]
  refine wpQ_val rfl (.pointer (some ⟨g, 1, none⟩)) (fun w' _ => by go_simp) ?_
  simp only [Act.put, List.setIfInBounds_toArray, List.set_cons_zero, List.set_cons_succ]
  refine wpQ_load_num rfl _ rfl (g) 1 rfl bm (fun w' hC => crv_b ((hG.after hC))) ?_
  simp only [Act.put, List.setIfInBounds_toArray, List.set_cons_zero, List.set_cons_succ]
  refine wpQ_fn 36 _ _ rfl rfl #[.pointer (some ⟨f, 0, none⟩), .agg (nums (v7)), .agg (nums (bm))] rfl (fun _ => by go_simp) (.agg (nums (v8))) (fun w' hC => (kv8 w' (below_trans hb0 hC)).mono fun e w'' ⟨he, hb⟩ => ⟨he, below_class hC hb⟩) ?_
  simp only [Act.put, List.setIfInBounds_toArray, List.set_cons_zero, List.set_cons_succ]
  refine wpQ_bin _ _ _ _ _ rfl rfl (.agg (nums (v5))) (.agg (nums (v8))) rfl rfl (.bool r) (fun w' _ => hEQ _ _ w') ?_
  simp only [Act.put, List.setIfInBounds_toArray, List.set_cons_zero, List.set_cons_succ]
  refine wpQuiet_nil ?_
  intro w9 hC
  replace hb0 := below_trans hb0 hC
  clear hC
  go_wp2_with fail
  go_ret
  exact ⟨rfl, hb0⟩
end Go.Proofs.YtmgmfifkldpbmaaDoor
namespace Go.Proofs.YtmgmfifkldpbmaaDoor
open Go.RowKit

theorem mul2 (o1 o2 : Operand) (b : Nat) (hb : b = 0 ∨ b = 1) (w : World) : (do eqGuard .mul 22 o1 o2 (.int .u32 2) (.int .u32 (b : Int)); binOp .mul 22 (.int .u32 2) (.int .u32 (b : Int)) : Sem Value).run Tryd.prog w = .ok (.int .u32 ((2 * b : Nat) : Int)) w := by
  rcases hb with rfl | rfl <;> (go_simp; rfl)
attribute [local go_sem] zeroNum zero24 zero17c
set_option maxRecDepth 100000 in
set_option maxHeartbeats 8000000 in
theorem two_walk (n n' g x1 y1 x2 y2 x3 y3 : Nat) (c1 c2 c3 : Bool) (s t b : T3) (F D E1 E2 E3 : Nat → T3) (w : World) (_hgw : g < w.heap.size)
    (kA : ∀ W, Below w.heap.size w W → Calls Tryd.prog 39 #[.pointer (some ⟨g, 0, none⟩), .agg (cpC x1 y1 c1)] W fun e w' => e = .returned (.agg (pjC s.x s.y s.z)) ∧ Below W.heap.size W w')
    (kB : ∀ W, Below w.heap.size w W → Calls Tryd.prog 39 #[.pointer (some ⟨g, 0, none⟩), .agg (cpC x2 y2 c2)] W fun e w' => e = .returned (.agg (pjC t.x t.y t.z)) ∧ Below W.heap.size W w')
    (kAB : ∀ W, Below w.heap.size w W → Calls Tryd.prog 40 #[.pointer (some ⟨g, 0, none⟩), .agg (pjC s.x s.y s.z), .agg (pjC t.x t.y t.z)] W fun e w' => e = .returned (.agg (pjC b.x b.y b.z)) ∧ Below W.heap.size W w')
    (kI : ∀ W, Below w.heap.size w W → Calls Tryd.prog 41 #[.pointer (some ⟨g, 0, none⟩)] W fun e w' => e = .returned (.agg (pjC (F 0).x (F 0).y (F 0).z)) ∧ Below W.heap.size W w')
    (kD : ∀ k W, Below w.heap.size w W → Calls Tryd.prog 40 #[.pointer (some ⟨g, 0, none⟩), .agg (pjC (F k).x (F k).y (F k).z), .agg (pjC (F k).x (F k).y (F k).z)] W fun e w' => e = .returned (.agg (pjC (D k).x (D k).y (D k).z)) ∧ Below W.heap.size W w')
    (k1 : ∀ k W, Below w.heap.size w W → Calls Tryd.prog 40 #[.pointer (some ⟨g, 0, none⟩), .agg (pjC (D k).x (D k).y (D k).z), .agg (pjC s.x s.y s.z)] W fun e w' => e = .returned (.agg (pjC (E1 k).x (E1 k).y (E1 k).z)) ∧ Below W.heap.size W w')
    (k2 : ∀ k W, Below w.heap.size w W → Calls Tryd.prog 40 #[.pointer (some ⟨g, 0, none⟩), .agg (pjC (D k).x (D k).y (D k).z), .agg (pjC t.x t.y t.z)] W fun e w' => e = .returned (.agg (pjC (E2 k).x (E2 k).y (E2 k).z)) ∧ Below W.heap.size W w')
    (k3 : ∀ k W, Below w.heap.size w W → Calls Tryd.prog 40 #[.pointer (some ⟨g, 0, none⟩), .agg (pjC (D k).x (D k).y (D k).z), .agg (pjC b.x b.y b.z)] W fun e w' => e = .returned (.agg (pjC (E3 k).x (E3 k).y (E3 k).z)) ∧ Below W.heap.size W w')
    (hF : ∀ k q, k < 256 → q + k = 255 → (bitN n q = 0 → bitN n' q = 0 → F (k + 1) = D k) ∧ (bitN n q = 1 → bitN n' q = 0 → F (k + 1) = E1 k) ∧ (bitN n q = 0 → bitN n' q = 1 → F (k + 1) = E2 k) ∧ (bitN n q = 1 → bitN n' q = 1 → F (k + 1) = E3 k))
    (kZ : ∀ W, Below w.heap.size w W → Calls Tryd.prog 43 #[.pointer (some ⟨g, 0, none⟩), .agg (pjC (F 256).x (F 256).y (F 256).z)] W fun e w' => e = .returned (.agg (cpC x3 y3 c3)) ∧ Below W.heap.size W w') :
    Calls Tryd.prog 18 #[.pointer (some ⟨g, 0, none⟩), .agg (nums n), .agg (cpC x1 y1 c1), .agg (nums n'), .agg (cpC x2 y2 c2)] w fun e w' => e = .returned (.agg (cpC x3 y3 c3)) ∧ Below w.heap.size w w' := by
  have HBN := Lib.hid (fun q W hq => bit_any n q W hq)
  have HBM := Lib.hid (fun q W hq => bit_any n' q W hq)
  have HF := Lib.hid hF
  clear hF
  have hN : Has (((((w.alloc (.cells (nums n) 24)).alloc (.cells (cpC x1 y1 c1) 35)).alloc (.cells (nums n') 24)).alloc (.cells (cpC x2 y2 c2) 35)).alloc (.cells (cpC 0 0 false) 35)) (w.heap.size) 24 (nums n) := (((((Has.new w _ _).alloc _).alloc _).alloc _).alloc _)
  have hA : Has (((((w.alloc (.cells (nums n) 24)).alloc (.cells (cpC x1 y1 c1) 35)).alloc (.cells (nums n') 24)).alloc (.cells (cpC x2 y2 c2) 35)).alloc (.cells (cpC 0 0 false) 35)) (w.heap.size + 1) 35 (cpC x1 y1 c1) := ((((Has.new' (by simp)).alloc _).alloc _).alloc _)
  have hM : Has (((((w.alloc (.cells (nums n) 24)).alloc (.cells (cpC x1 y1 c1) 35)).alloc (.cells (nums n') 24)).alloc (.cells (cpC x2 y2 c2) 35)).alloc (.cells (cpC 0 0 false) 35)) (w.heap.size + 1 + 1) 24 (nums n') := (((Has.new' (by simp)).alloc _).alloc _)
  have hB : Has (((((w.alloc (.cells (nums n) 24)).alloc (.cells (cpC x1 y1 c1) 35)).alloc (.cells (nums n') 24)).alloc (.cells (cpC x2 y2 c2) 35)).alloc (.cells (cpC 0 0 false) 35)) (w.heap.size + 1 + 1 + 1) 35 (cpC x2 y2 c2) := ((Has.new' (by simp)).alloc _)
  have hR : Has (((((w.alloc (.cells (nums n) 24)).alloc (.cells (cpC x1 y1 c1) 35)).alloc (.cells (nums n') 24)).alloc (.cells (cpC x2 y2 c2) 35)).alloc (.cells (cpC 0 0 false) 35)) (w.heap.size + 1 + 1 + 1 + 1) 35 (cpC 0 0 false) := (Has.new' (by simp))
  have hb0 : Below w.heap.size w (((((w.alloc (.cells (nums n) 24)).alloc (.cells (cpC x1 y1 c1) 35)).alloc (.cells (nums n') 24)).alloc (.cells (cpC x2 y2 c2) 35)).alloc (.cells (cpC 0 0 false) 35)) := ((((((Below.refl _ _).alloc (Nat.le_refl _) _).alloc (by simp <;> omega) _).alloc (by simp <;> omega) _).alloc (by simp <;> omega) _).alloc (by simp <;> omega) _)
  go_enter Tryd.func18, Tryd.ntmps18
  go_wp2_with fail
  generalize (World.alloc (World.alloc (World.alloc (World.alloc (World.alloc w _) _) _) _) _) = U0 at *
  have ohN := hN.lt
  have ohA := hA.lt
  have ohM := hM.lt
  have ohB := hB.lt
  have ohR := hR.lt
  refine region_facts 8 [] [.val (.pointer (some ⟨g, 0, none⟩)), .val (.agg (cpC x1 y1 c1)), .val (.agg (pjC s.x s.y s.z)), .val (.pointer (some ⟨g, 0, none⟩)), .val (.agg (cpC x2 y2 c2)), .val (.agg (pjC t.x t.y t.z)), .new 76 (pjC 0 0 0), .new 76 (pjC 0 0 0)]
    (by kernel_rfl) (by kernel_rfl) (fun _ _ _ _ _ h => h) ?_ ?_
  · simp only [List.take_succ_cons, List.take_zero, StepsOK]
    refine ⟨?_, ?_, ?_, ?_, ?_, ?_, ?_, ?_, trivial⟩
    · intro v w' hb hf K hKt
      simp only [putAll, Act.put, List.setIfInBounds_toArray, List.set_cons_zero, List.set_cons_succ, Nat.zero_add, Nat.reduceAdd] at hKt ⊢
      go_simp
      exact hKt _ (Below.refl _ _)
    · intro v w' hb hf K hKt
      simp only [putAll, Act.put, List.setIfInBounds_toArray, List.set_cons_zero, List.set_cons_succ, Nat.zero_add, Nat.reduceAdd] at hKt ⊢
      exact wp_load_row 35 _ rfl (w.heap.size + 1) rfl 35 _ (0, 0) _ (hA.after hb) Tryd.underlying35 rfl (infoCp _ _ _) (hKt _ (Below.refl _ _))
    · intro v w' hb hf K hKt
      have f0 : v 0 = _ := hf ⟨0, .data⟩ (by simp) rfl
      have f1 : v 1 = _ := hf ⟨1, .data⟩ (by simp) rfl
      simp only [putAll, Act.put, List.setIfInBounds_toArray, List.set_cons_zero, List.set_cons_succ, Nat.zero_add, Nat.reduceAdd] at hKt ⊢
      rw [f0, f1] at hKt ⊢
      go_simp
      refine (kA w' (below_trans hb0 hb)).mono ?_
      rintro e w'' ⟨rfl, hb2⟩
      exact hKt _ hb2
    · intro v w' hb hf K hKt
      simp only [putAll, Act.put, List.setIfInBounds_toArray, List.set_cons_zero, List.set_cons_succ, Nat.zero_add, Nat.reduceAdd] at hKt ⊢
      go_simp
      exact hKt _ (Below.refl _ _)
    · intro v w' hb hf K hKt
      simp only [putAll, Act.put, List.setIfInBounds_toArray, List.set_cons_zero, List.set_cons_succ, Nat.zero_add, Nat.reduceAdd] at hKt ⊢
      exact wp_load_row 35 _ rfl (w.heap.size + 1 + 1 + 1) rfl 35 _ (0, 0) _ (hB.after hb) Tryd.underlying35 rfl (infoCp _ _ _) (hKt _ (Below.refl _ _))
    · intro v w' hb hf K hKt
      have f3 : v 3 = _ := hf ⟨3, .data⟩ (by simp) rfl
      have f4 : v 4 = _ := hf ⟨4, .data⟩ (by simp) rfl
      simp only [putAll, Act.put, List.setIfInBounds_toArray, List.set_cons_zero, List.set_cons_succ, Nat.zero_add, Nat.reduceAdd] at hKt ⊢
      rw [f3, f4] at hKt ⊢
      go_simp
      refine (kB w' (below_trans hb0 hb)).mono ?_
      rintro e w'' ⟨rfl, hb2⟩
      exact hKt _ hb2
    · exact ⟨rfl, rfl, zeroVP⟩
    · exact ⟨rfl, rfl, zeroVP⟩
  intro v u1 hb hF hD
  have f0 : v 0 = _ := hF 0 (by decide)
  have f1 : v 1 = _ := hF 1 (by decide)
  have f2 : v 2 = _ := hF 2 (by decide)
  have f3 : v 3 = _ := hF 3 (by decide)
  have f4 : v 4 = _ := hF 4 (by decide)
  have f5 : v 5 = _ := hF 5 (by decide)
  obtain ⟨ga, f6, hg6, hl6, hz6⟩ := hF 6 (by decide)
  replace hz6 : Has u1 ga 76 (pjC 0 0 0) := hz6
  obtain ⟨gb, f7, hg7, hl7, hz7⟩ := hF 7 (by decide)
  replace hz7 : Has u1 gb 76 (pjC 0 0 0) := hz7
  have hne6_7 : ga ≠ gb := fun h => hD 6 7 (by decide) (by decide) (by decide) rfl rfl (by rw [f6, f7, h])
  simp only [List.take_succ_cons, List.take_zero, List.drop_succ_cons, List.drop_zero, putAll, Act.put, List.setIfInBounds_toArray, List.set_cons_zero, List.set_cons_succ, Nat.zero_add, Nat.reduceAdd]
  rw [f0, f1, f2, f3, f4, f5, f6, f7]
  clear hF hD f0 f1 f2 f3 f4 f5 f6 f7
  have hs6 := hz6
  have hs7 := (hz7).farRow (k := ga) (by omega) (pjC s.x s.y s.z)
  have hBW := below_setRow (below_setRow (hb) (g := ga) hg6 (pjC s.x s.y s.z)) (g := gb) hg7 (pjC t.x t.y t.z)
  have hS := ((hz6).setRow (pjC s.x s.y s.z)).farRow (k := gb) (by omega) (pjC t.x t.y t.z)
  have hT := ((hz7).farRow (k := ga) (by omega) (pjC s.x s.y s.z)).setRow (pjC t.x t.y t.z)
  replace hA := hA.after hBW
  replace hB := hB.after hBW
  replace hN := hN.after hBW
  replace hM := hM.after hBW
  replace hR := hR.after hBW
  replace hb0 := below_trans hb0 hBW
  go_wp2_with (first | refine wpList_store_row rfl 76 _ _ rfl ga _ rfl rfl 76 (pjC 0 0 0) hs6 (infoPj _ _ _) (by simp only [pjC_size]) (tab_oneCell _ _ fun _ => rfl) ?_ | (refine wpList_store_row rfl 76 _ _ rfl gb _ rfl rfl 76 (pjC 0 0 0) hs7 (infoPj _ _ _) (by simp only [pjC_size]) (tab_oneCell _ _ fun _ => rfl) ?_; generalize hWW : World.setRow _ gb _ = U1 at *; clear hWW) | refine wpList_load_has 76 _ rfl _ rfl rfl 76 _ hS _ Tryd.underlying76 rfl (infoPj _ _ _) ?_ | refine wpList_load_has 76 _ rfl _ rfl rfl 76 _ hT _ Tryd.underlying76 rfl (infoPj _ _ _) ?_)
  clear hBW hb hs6 hz6   hs7 hz7  
  refine (kAB _ hb0).mono ?_
  rintro e w2 ⟨rfl, hx⟩
  have hz := put_new w2 76 (pjC 0 0 0) (pjC b.x b.y b.z)
  have oS := (hS.after hx).lt
  have oT := (hT.after hx).lt
  have oR := (hR.after hx).lt
  replace hN := (hN.after hx).after hz.2; replace hM := (hM.after hx).after hz.2; replace hR := (hR.after hx).after hz.2; replace hS := (hS.after hx).after hz.2; replace hT := (hT.after hx).after hz.2
  replace hb0 := below_trans (below_trans hb0 hx) hz.2
  have hBt := hz.1
  clear hx hz kA kB kAB hA hB ohA ohB
  go_wp2_with (first | (refine wpList_store_row rfl 76 _ _ rfl (w2.heap.size) _ rfl rfl 76 (pjC 0 0 0) (Has.new' rfl) (infoPj _ _ _) (by simp only [pjC_size]) (tab_oneCell _ _ fun _ => rfl) ?_; generalize hWW : World.setRow _ w2.heap.size _ = U2 at *; clear hWW))
  refine (kI _ hb0).mono ?_
  rintro e w3 ⟨rfl, hx⟩
  have hz := put_new w3 76 (pjC 0 0 0) (pjC (F 0).x (F 0).y (F 0).z)
  replace oS := (hS.after hx).lt
  replace oT := (hT.after hx).lt
  replace oR := (hR.after hx).lt
  have oB := (hBt.after hx).lt
  have oM := (hM.after hx).lt
  have oN := (hN.after hx).lt
  replace hN := (hN.after hx).after hz.2; replace hM := (hM.after hx).after hz.2; replace hR := (hR.after hx).after hz.2; replace hS := (hS.after hx).after hz.2; replace hT := (hT.after hx).after hz.2; replace hBt := (hBt.after hx).after hz.2
  replace hb0 := below_trans (below_trans hb0 hx) hz.2
  have hX := hz.1
  clear hx hz kI
  go_wp2_with (first | (refine wpList_store_row rfl 76 _ _ rfl (w3.heap.size) _ rfl rfl 76 (pjC 0 0 0) (Has.new' rfl) (infoPj _ _ _) (by simp only [pjC_size]) (tab_oneCell _ _ fun _ => rfl) ?_; generalize hWW : World.setRow _ w3.heap.size _ = U3 at *; clear hWW))
  generalize w2.heap.size = gt at *
  generalize w3.heap.size = gx at *
  clear ohN ohM ohR
  go_loopw [15, 16, 32] (fun _ _ vi wr => ∃ k : Nat, k ≤ 256 ∧ vi = .int .i64 (k : Int) ∧ Has wr w.heap.size 24 (nums n) ∧ Has wr (w.heap.size + 1 + 1) 24 (nums n') ∧ Has wr (w.heap.size + 1 + 1 + 1 + 1) 35 (cpC 0 0 false) ∧
      Has wr ga 76 (pjC s.x s.y s.z) ∧ Has wr gb 76 (pjC t.x t.y t.z) ∧ Has wr gt 76 (pjC b.x b.y b.z) ∧ Has wr gx 76 (pjC (F k).x (F k).y (F k).z) ∧ Below w.heap.size w wr) (fun _ _ vi _ => 256 - (intOf vi).toNat)
  case atStart => exact ⟨0, by omega, rfl, hN, hM, hR, hS, hT, hBt, hX, hb0⟩
  case round =>
    obtain ⟨k, hk, rfl, h1, h2, h3, h4, h5, h6, h7, hb⟩ := hrel
    clear hN hM hR hS hT hBt hX hb0
    by_cases hlt : k < 256
    · have dk : (k : Int) < 256 := by omega
      obtain ⟨q, hq⟩ : ∃ q, q + k = 255 := ⟨255 - k, by omega⟩
      have hqi : (255 : Int) - (k : Int) = (q : Int) := by omega
      have HQ := HF.out k q hlt hq
      have cN := fun W => HBN.out q W (by omega)
      have cM := fun W => HBM.out q W (by omega)
      have b01 := bitN_01 n q
      have b02 := bitN_01 n' q
      have hK := Lib.hid hk
      clear hk
      generalize bitN n q = d1 at *
      generalize bitN n' q = d2 at *
      have HQH := Lib.hid HQ
      clear HQ
      go_wp2_with (first | refine wpList_load_has 76 _ rfl _ rfl rfl 76 _ h7 _ Tryd.underlying76 rfl (infoPj _ _ _) ?_)
      refine (kD k _ hb).mono ?_
      rintro z w4 ⟨rfl, hx⟩
      replace h1 := h1.after hx; replace h2 := h2.after hx; replace h3 := h3.after hx; replace h4 := h4.after hx; replace h5 := h5.after hx; replace h6 := h6.after hx; replace h7 := h7.after hx; replace hb := below_trans hb hx
      clear hx
      have h7' := h7.setRow (pjC (D k).x (D k).y (D k).z)
      replace h1 := h1.farRow (k := gx) (by omega) (pjC (D k).x (D k).y (D k).z)
      replace h2 := h2.farRow (k := gx) (by omega) (pjC (D k).x (D k).y (D k).z)
      replace h3 := h3.farRow (k := gx) (by omega) (pjC (D k).x (D k).y (D k).z)
      replace h4 := h4.farRow (k := gx) (by omega) (pjC (D k).x (D k).y (D k).z)
      replace h5 := h5.farRow (k := gx) (by omega) (pjC (D k).x (D k).y (D k).z)
      replace h6 := h6.farRow (k := gx) (by omega) (pjC (D k).x (D k).y (D k).z)
      replace hb := below_setRow hb (g := gx) (by omega) (pjC (D k).x (D k).y (D k).z)
      go_wp2_with (first | (refine wpList_store_row rfl 76 _ _ rfl (gx) _ rfl rfl 76 _ h7 (infoPj _ _ _) (by simp only [pjC_size]) (tab_oneCell _ _ fun _ => rfl) ?_; generalize hWW : World.setRow _ gx _ = U7 at *; clear hWW))
      refine region_quiet_tail (Below U7.heap.size U7) 7 (by kernel_rfl) (by kernel_rfl) (below_drewN (Below.refl _ _) 1) ?_
      simp only [List.take_succ_cons, List.take_zero, List.drop_succ_cons, List.drop_zero]
      refine wpQ_has 24 _ rfl _ rfl rfl 24 _ (fun w' hC => h1.after hC) _ Tryd.underlying24 rfl (infoNum _) ?_
      simp only [Act.put, List.setIfInBounds_toArray, List.set_cons_zero, List.set_cons_succ]
      refine wpQ_move _ rfl rfl (.int .i64 (q : Int)) rfl ?_
      simp only [Act.put, List.setIfInBounds_toArray, List.set_cons_zero, List.set_cons_succ]
      refine wpQ_fn 42 _ _ rfl rfl #[.agg (nums n), .int .i64 (q : Int)] rfl (fun _ => by go_simp) (.int .u32 (d1 : Int)) (fun w' hC => (cN w').mono fun e w'' ⟨he, hb⟩ => ⟨he, below_class hC hb⟩) ?_
      simp only [Act.put, List.setIfInBounds_toArray, List.set_cons_zero, List.set_cons_succ]
      refine wpQ_has 24 _ rfl _ rfl rfl 24 _ (fun w' hC => h2.after hC) _ Tryd.underlying24 rfl (infoNum _) ?_
      simp only [Act.put, List.setIfInBounds_toArray, List.set_cons_zero, List.set_cons_succ]
      refine wpQ_move _ rfl rfl (.int .i64 (q : Int)) rfl ?_
      simp only [Act.put, List.setIfInBounds_toArray, List.set_cons_zero, List.set_cons_succ]
      refine wpQ_fn 42 _ _ rfl rfl #[.agg (nums n'), .int .i64 (q : Int)] rfl (fun _ => by go_simp) (.int .u32 (d2 : Int)) (fun w' hC => (cM w').mono fun e w'' ⟨he, hb⟩ => ⟨he, below_class hC hb⟩) ?_
      simp only [Act.put, List.setIfInBounds_toArray, List.set_cons_zero, List.set_cons_succ]
      refine wpQ_bin _ _ _ _ _ rfl rfl (.int .u32 2) (.int .u32 (d2 : Int)) rfl rfl (.int .u32 ((2 * d2 : Nat) : Int)) (fun w' _ => mul2 _ _ d2 b02 w') ?_
      simp only [Act.put, List.setIfInBounds_toArray, List.set_cons_zero, List.set_cons_succ]
      refine wpQuiet_nil ?_
      intro w5 hC
      replace h1 := h1.after hC; replace h2 := h2.after hC; replace h3 := h3.after hC; replace h4 := h4.after hC; replace h5 := h5.after hC; replace h6 := h6.after hC; replace h7' := h7'.after hC; replace hb := below_trans hb hC
      clear hC cN cM h7
      rcases b01 with rfl | rfl <;> rcases b02 with rfl | rfl
      · have e := HQH.out.1 rfl rfl
        clear HQH
        go_wp2_with fail
        go_roundw
        case rel => exact ⟨k + 1, by omega, by go_num, h1, h2, h3, h4, h5, h6, by rw [e]; exact h7', hb⟩
        case measure => simp [intOf]; omega
      · have e := HQH.out.2.2.1 rfl rfl
        clear HQH
        go_wp2_with (first | refine wpList_load_has 76 _ rfl _ rfl rfl 76 _ h7' _ Tryd.underlying76 rfl (infoPj _ _ _) ?_ | refine wpList_load_has 76 _ rfl _ rfl rfl 76 _ h5 _ Tryd.underlying76 rfl (infoPj _ _ _) ?_)
        refine (k2 k _ hb).mono ?_
        rintro z w6 ⟨rfl, hx⟩
        replace h1 := h1.after hx; replace h2 := h2.after hx; replace h3 := h3.after hx; replace h4 := h4.after hx; replace h5 := h5.after hx; replace h6 := h6.after hx; replace h7' := h7'.after hx; replace hb := below_trans hb hx
        clear hx
        have h8 := h7'.setRow (pjC (E2 k).x (E2 k).y (E2 k).z)
        replace h1 := h1.farRow (k := gx) (by omega) (pjC (E2 k).x (E2 k).y (E2 k).z)
        replace h2 := h2.farRow (k := gx) (by omega) (pjC (E2 k).x (E2 k).y (E2 k).z)
        replace h3 := h3.farRow (k := gx) (by omega) (pjC (E2 k).x (E2 k).y (E2 k).z)
        replace h4 := h4.farRow (k := gx) (by omega) (pjC (E2 k).x (E2 k).y (E2 k).z)
        replace h5 := h5.farRow (k := gx) (by omega) (pjC (E2 k).x (E2 k).y (E2 k).z)
        replace h6 := h6.farRow (k := gx) (by omega) (pjC (E2 k).x (E2 k).y (E2 k).z)
        replace hb := below_setRow hb (g := gx) (by omega) (pjC (E2 k).x (E2 k).y (E2 k).z)
        go_wp2_with (first | refine wpList_store_row rfl 76 _ _ rfl (gx) _ rfl rfl 76 _ h7' (infoPj _ _ _) (by simp only [pjC_size]) (tab_oneCell _ _ fun _ => rfl) ?_)
        go_roundw
        case rel => exact ⟨k + 1, by omega, by go_num, h1, h2, h3, h4, h5, h6, by rw [e]; exact h8, hb⟩
        case measure => simp [intOf]; omega
      · have e := HQH.out.2.1 rfl rfl
        clear HQH
        go_wp2_with (first | refine wpList_load_has 76 _ rfl _ rfl rfl 76 _ h7' _ Tryd.underlying76 rfl (infoPj _ _ _) ?_ | refine wpList_load_has 76 _ rfl _ rfl rfl 76 _ h4 _ Tryd.underlying76 rfl (infoPj _ _ _) ?_)
        refine (k1 k _ hb).mono ?_
        rintro z w6 ⟨rfl, hx⟩
        replace h1 := h1.after hx; replace h2 := h2.after hx; replace h3 := h3.after hx; replace h4 := h4.after hx; replace h5 := h5.after hx; replace h6 := h6.after hx; replace h7' := h7'.after hx; replace hb := below_trans hb hx
        clear hx
        have h8 := h7'.setRow (pjC (E1 k).x (E1 k).y (E1 k).z)
        replace h1 := h1.farRow (k := gx) (by omega) (pjC (E1 k).x (E1 k).y (E1 k).z)
        replace h2 := h2.farRow (k := gx) (by omega) (pjC (E1 k).x (E1 k).y (E1 k).z)
        replace h3 := h3.farRow (k := gx) (by omega) (pjC (E1 k).x (E1 k).y (E1 k).z)
        replace h4 := h4.farRow (k := gx) (by omega) (pjC (E1 k).x (E1 k).y (E1 k).z)
        replace h5 := h5.farRow (k := gx) (by omega) (pjC (E1 k).x (E1 k).y (E1 k).z)
        replace h6 := h6.farRow (k := gx) (by omega) (pjC (E1 k).x (E1 k).y (E1 k).z)
        replace hb := below_setRow hb (g := gx) (by omega) (pjC (E1 k).x (E1 k).y (E1 k).z)
        go_wp2_with (first | refine wpList_store_row rfl 76 _ _ rfl (gx) _ rfl rfl 76 _ h7' (infoPj _ _ _) (by simp only [pjC_size]) (tab_oneCell _ _ fun _ => rfl) ?_)
        go_roundw
        case rel => exact ⟨k + 1, by omega, by go_num, h1, h2, h3, h4, h5, h6, by rw [e]; exact h8, hb⟩
        case measure => simp [intOf]; omega
      · have e := HQH.out.2.2.2 rfl rfl
        clear HQH
        go_wp2_with (first | refine wpList_load_has 76 _ rfl _ rfl rfl 76 _ h7' _ Tryd.underlying76 rfl (infoPj _ _ _) ?_ | refine wpList_load_has 76 _ rfl _ rfl rfl 76 _ h6 _ Tryd.underlying76 rfl (infoPj _ _ _) ?_)
        refine (k3 k _ hb).mono ?_
        rintro z w6 ⟨rfl, hx⟩
        replace h1 := h1.after hx; replace h2 := h2.after hx; replace h3 := h3.after hx; replace h4 := h4.after hx; replace h5 := h5.after hx; replace h6 := h6.after hx; replace h7' := h7'.after hx; replace hb := below_trans hb hx
        clear hx
        have h8 := h7'.setRow (pjC (E3 k).x (E3 k).y (E3 k).z)
        replace h1 := h1.farRow (k := gx) (by omega) (pjC (E3 k).x (E3 k).y (E3 k).z)
        replace h2 := h2.farRow (k := gx) (by omega) (pjC (E3 k).x (E3 k).y (E3 k).z)
        replace h3 := h3.farRow (k := gx) (by omega) (pjC (E3 k).x (E3 k).y (E3 k).z)
        replace h4 := h4.farRow (k := gx) (by omega) (pjC (E3 k).x (E3 k).y (E3 k).z)
        replace h5 := h5.farRow (k := gx) (by omega) (pjC (E3 k).x (E3 k).y (E3 k).z)
        replace h6 := h6.farRow (k := gx) (by omega) (pjC (E3 k).x (E3 k).y (E3 k).z)
        replace hb := below_setRow hb (g := gx) (by omega) (pjC (E3 k).x (E3 k).y (E3 k).z)
        go_wp2_with (first | refine wpList_store_row rfl 76 _ _ rfl (gx) _ rfl rfl 76 _ h7' (infoPj _ _ _) (by simp only [pjC_size]) (tab_oneCell _ _ fun _ => rfl) ?_)
        go_roundw
        case rel => exact ⟨k + 1, by omega, by go_num, h1, h2, h3, h4, h5, h6, by rw [e]; exact h8, hb⟩
        case measure => simp [intOf]; omega
    · have hk8 : k = 256 := by omega
      have dk : ¬ (k : Int) < 256 := by omega
      rw [hk8] at h7
      clear hlt hk hk8 h1 h2
      go_wp2_with (first | refine wpList_load_has 76 _ rfl _ rfl rfl 76 _ h7 _ Tryd.underlying76 rfl (infoPj _ _ _) ?_)
      refine (kZ _ hb).mono ?_
      rintro z w4 ⟨rfl, hx⟩
      replace h3 := h3.after hx
      replace hb := below_trans hb hx
      clear hx
      go_wp2_with (first | refine wpList_store_row rfl 35 _ _ rfl (w.heap.size + 1 + 1 + 1 + 1) _ rfl rfl 35 _ h3 (infoCp _ _ _) (by simp only [cpC_size]) (cpC_one _ _ _) ?_)
      exact bodyPost_ret (v := .agg (cpC x3 y3 c3)) (results_cell_row rfl _ _ (w.heap.size + 1 + 1 + 1 + 1) 35 _ _ _ rfl (h3.setRow _) Tryd.underlying35 rfl (infoCp _ _ _)) rfl ⟨rfl, below_setRow hb (by omega) _⟩
end Go.Proofs.YtmgmfifkldpbmaaDoor
namespace Go.Proofs.YtmgmfifkldpbmaaDoor
open Go.RowKit

theorem Ec.mid4 {A B C D : Ec.Pnt} (hA : Ec.OnP A) (hB : Ec.OnP B) (hC : Ec.OnP C) (hD : Ec.OnP D) : Ec.plus (Ec.plus A B) (Ec.plus C D) = Ec.plus (Ec.plus A C) (Ec.plus B D) := by
  rw [Ec.plus_assoc hA hB (Ec.plus_on hC hD), ← Ec.plus_assoc hB hC hD, Ec.plus_comm hB hC, Ec.plus_assoc hC hB hD, ← Ec.plus_assoc hA hC (Ec.plus_on hB hD)]
theorem Ec.step2 {P Q : Ec.Pnt} (hP : Ec.OnP P) (hQ : Ec.OnP Q) (a b d e : Nat) :
    Ec.plus (Ec.plus (Ec.plus (Ec.smul a P) (Ec.smul b Q)) (Ec.plus (Ec.smul a P) (Ec.smul b Q))) (Ec.plus (Ec.smul d P) (Ec.smul e Q)) = Ec.plus (Ec.smul (2 * a + d) P) (Ec.smul (2 * b + e) Q) := by
  have h1 := Ec.smul_on hP a
  have h2 := Ec.smul_on hQ b
  rw [Ec.mid4 h1 h2 h1 h2, ← Ec.smul_two hP, ← Ec.smul_two hQ, Ec.mid4 (Ec.smul_on hP _) (Ec.smul_on hQ _) (Ec.smul_on hP _) (Ec.smul_on hQ _), ← Ec.smul_add hP, ← Ec.smul_add hQ]
noncomputable def twoF (m bm n n' : Nat) (s t b : T3) : Nat → T3
  | 0 => ⟨0, RR % m, 0⟩
  | k + 1 => if bitN n (255 - k) = 1 then (if bitN n' (255 - k) = 1 then sumC m bm (sumC m bm (twoF m bm n n' s t b k) (twoF m bm n n' s t b k)) b else sumC m bm (sumC m bm (twoF m bm n n' s t b k) (twoF m bm n n' s t b k)) s)
      else (if bitN n' (255 - k) = 1 then sumC m bm (sumC m bm (twoF m bm n n' s t b k) (twoF m bm n n' s t b k)) t else sumC m bm (twoF m bm n n' s t b k) (twoF m bm n n' s t b k))
section
variable {m bm n n' : Nat} {s t b : T3} (hmp : m = Ec.pp) (lbm : bm < m) (hbm : mo bm = Ec.cB) (hs : s.ok m) (ht : t.ok m) (hb : b.ok m)
include hmp lbm hbm hs ht hb
theorem twoF_ok : ∀ k, (twoF m bm n n' s t b k).ok m
  | 0 => prjT_ok (by rw [hmp]; decide) none
  | k + 1 => by
    have h0 := twoF_ok k
    have h1 := (sumC_is hmp lbm hbm h0 h0).1
    unfold twoF
    by_cases c1 : bitN n (255 - k) = 1 <;> by_cases c2 : bitN n' (255 - k) = 1
    · rw [if_pos c1, if_pos c2]; exact (sumC_is hmp lbm hbm h1 hb).1
    · rw [if_pos c1, if_neg c2]; exact (sumC_is hmp lbm hbm h1 hs).1
    · rw [if_neg c1, if_pos c2]; exact (sumC_is hmp lbm hbm h1 ht).1
    · rw [if_neg c1, if_neg c2]; exact h1
theorem twoF_rep {P Q : Ec.Pnt} (oP : Ec.OnP P) (oQ : Ec.OnP Q) (rs : s.rep P) (rt : t.rep Q) (rb : b.rep (Ec.plus P Q)) (hn : n < big) (hn' : n' < big) :
    ∀ k, k ≤ 256 → (twoF m bm n n' s t b k).rep (Ec.plus (Ec.smul (n / 2 ^ (256 - k)) P) (Ec.smul (n' / 2 ^ (256 - k)) Q))
  | 0, _ => by
    rw [big_2] at hn hn'
    rw [Nat.sub_zero, Nat.div_eq_of_lt hn, Nat.div_eq_of_lt hn']
    exact prjT_rep hmp none
  | k + 1, hk => by
    have h0 := twoF_ok (n := n) (n' := n') hmp lbm hbm hs ht hb k
    have r0 := twoF_rep oP oQ rs rt rb hn hn' k (by omega)
    have s1 := sumC_is hmp lbm hbm h0 h0
    have h1 := s1.1
    have o0 := Ec.plus_on (Ec.smul_on oP (n / 2 ^ (256 - k))) (Ec.smul_on oQ (n' / 2 ^ (256 - k)))
    have r1 := s1.2.1 _ _ o0 o0 r0 r0
    have o1 := Ec.plus_on o0 o0
    have st := Ec.step2 oP oQ (n / 2 ^ (256 - k)) (n' / 2 ^ (256 - k)) (bitN n (255 - k)) (bitN n' (255 - k))
    rw [exp_bit n k (by omega), exp_bit n' k (by omega), ← st]
    unfold twoF
    rcases bitN_01 n (255 - k) with c1 | c1 <;> rcases bitN_01 n' (255 - k) with c2 | c2
    · rw [c1, c2, if_neg (by decide), if_neg (by decide)]
      exact (show Ec.plus _ (Ec.plus none none) = _ from Ec.add_none _ _).symm ▸ r1
    · rw [c1, c2, if_neg (by decide), if_pos rfl]
      exact (sumC_is hmp lbm hbm h1 ht).2.1 _ _ o1 oQ r1 rt
    · rw [c1, c2, if_pos rfl, if_neg (by decide)]
      have e : Ec.plus (Ec.smul 1 P) (Ec.smul 0 Q) = P := Ec.add_none _ _
      rw [e]
      exact (sumC_is hmp lbm hbm h1 hs).2.1 _ _ o1 oP r1 rs
    · rw [c1, c2, if_pos rfl, if_pos rfl]
      exact (sumC_is hmp lbm hbm h1 hb).2.1 _ _ o1 (Ec.plus_on oP oQ) r1 rb
end
theorem IsCrv.lt {m bm : Nat} {w : World} {g : Nat} (h : IsCrv m bm w g) : g < w.heap.size := by
  obtain ⟨f, h1, h2, h3⟩ := h
  exact h1.lt
theorem ctwo_any (n n' m bm g : Nat) (P Q : Ec.Pnt) (w : World) (hI : IsCrv m bm w g) (hmp : m = Ec.pp) (lbm : bm < m) (hbm : mo bm = Ec.cB) (hn : n < big) (hn' : n' < big) (oP : Ec.OnP P) (oQ : Ec.OnP Q) :
    Calls Tryd.prog 18 #[.pointer (some ⟨g, 0, none⟩), .agg (nums n), cpV P, .agg (nums n'), cpV Q] w fun e w' => e = .returned (cpV (Ec.plus (Ec.smul n P) (Ec.smul n' Q))) ∧ Below w.heap.size w w' := by
  have m0 : 0 < m := by rw [hmp]; decide
  have os := prjT_ok m0 P
  have ot := prjT_ok m0 Q
  have sb := sumC_is hmp lbm hbm os ot
  have rb := sb.2.1 P Q oP oQ (prjT_rep hmp P) (prjT_rep hmp Q)
  have hok := fun k => twoF_ok (n := n) (n' := n') hmp lbm hbm os ot sb.1 k
  have hD := fun k => sumC_is hmp lbm hbm (hok k) (hok k)
  have hrep := twoF_rep hmp lbm hbm os ot sb.1 oP oQ (prjT_rep hmp P) (prjT_rep hmp Q) rb hn hn' 256 (Nat.le_refl _)
  rw [Nat.sub_self, Nat.pow_zero, Nat.div_one, Nat.div_one] at hrep
  refine two_walk n n' g _ _ _ _ _ _ _ _ _ (prjT m P) (prjT m Q) (sumC m bm (prjT m P) (prjT m Q)) (twoF m bm n n' (prjT m P) (prjT m Q) (sumC m bm (prjT m P) (prjT m Q)))
    (fun k => sumC m bm (twoF m bm n n' (prjT m P) (prjT m Q) (sumC m bm (prjT m P) (prjT m Q)) k) (twoF m bm n n' (prjT m P) (prjT m Q) (sumC m bm (prjT m P) (prjT m Q)) k))
    (fun k => sumC m bm (sumC m bm (twoF m bm n n' (prjT m P) (prjT m Q) (sumC m bm (prjT m P) (prjT m Q)) k) (twoF m bm n n' (prjT m P) (prjT m Q) (sumC m bm (prjT m P) (prjT m Q)) k)) (prjT m P))
    (fun k => sumC m bm (sumC m bm (twoF m bm n n' (prjT m P) (prjT m Q) (sumC m bm (prjT m P) (prjT m Q)) k) (twoF m bm n n' (prjT m P) (prjT m Q) (sumC m bm (prjT m P) (prjT m Q)) k)) (prjT m Q))
    (fun k => sumC m bm (sumC m bm (twoF m bm n n' (prjT m P) (prjT m Q) (sumC m bm (prjT m P) (prjT m Q)) k) (twoF m bm n n' (prjT m P) (prjT m Q) (sumC m bm (prjT m P) (prjT m Q)) k)) (sumC m bm (prjT m P) (prjT m Q)))
    w hI.lt (fun W h => toProj_any P m bm g W (hI.after h)) (fun W h => toProj_any Q m bm g W (hI.after h)) (fun W h => sb.2.2 g W (hI.after h)) (fun W h => infinity_any m bm g W (hI.after h))
    (fun k W h => (hD k).2.2 g W (hI.after h)) (fun k W h => (sumC_is hmp lbm hbm (hD k).1 os).2.2 g W (hI.after h)) (fun k W h => (sumC_is hmp lbm hbm (hD k).1 ot).2.2 g W (hI.after h)) (fun k W h => (sumC_is hmp lbm hbm (hD k).1 sb.1).2.2 g W (hI.after h)) ?_
    (fun W h => toAff_any _ _ m bm g W (hI.after h) hmp (hok 256) hrep)
  intro k q hk hq
  have e : 255 - k = q := by omega
  refine ⟨fun c1 c2 => ?_, fun c1 c2 => ?_, fun c1 c2 => ?_, fun c1 c2 => ?_⟩
  · show twoF m bm n n' _ _ _ (k + 1) = _
    rw [twoF, e, c1, c2, if_neg (by decide), if_neg (by decide)]
  · show twoF m bm n n' _ _ _ (k + 1) = _
    rw [twoF, e, c1, c2, if_pos rfl, if_neg (by decide)]
  · show twoF m bm n n' _ _ _ (k + 1) = _
    rw [twoF, e, c1, c2, if_neg (by decide), if_pos rfl]
  · show twoF m bm n n' _ _ _ (k + 1) = _
    rw [twoF, e, c1, c2, if_pos rfl, if_pos rfl]
attribute [local go_sem] zeroNum zero24 zero17c
set_option maxRecDepth 100000 in
set_option maxHeartbeats 4000000 in
theorem mult_walk (n x y : Nat) (c : Bool) (v : Value) (x3 y3 : Nat) (c3 : Bool) (w : World)
    (kT : ∀ W, Below w.heap.size w W → Calls Tryd.prog 18 #[v, .agg (nums n), .agg (cpC x y c), .agg (nums 0), .agg (cpC 0 0 true)] W fun e w' => e = .returned (.agg (cpC x3 y3 c3)) ∧ Below W.heap.size W w') :
    Calls Tryd.prog 11 #[v, .agg (nums n), .agg (cpC x y c)] w fun e w' => e = .returned (.agg (cpC x3 y3 c3)) ∧ Below w.heap.size w w' := by
  have hN : Has (((w.alloc (.cells (nums n) 24)).alloc (.cells (cpC x y c) 35)).alloc (.cells (cpC 0 0 false) 35)) (w.heap.size) 24 (nums n) := (((Has.new w _ _).alloc _).alloc _)
  have hA : Has (((w.alloc (.cells (nums n) 24)).alloc (.cells (cpC x y c) 35)).alloc (.cells (cpC 0 0 false) 35)) (w.heap.size + 1) 35 (cpC x y c) := ((Has.new' (by simp)).alloc _)
  have hR : Has (((w.alloc (.cells (nums n) 24)).alloc (.cells (cpC x y c) 35)).alloc (.cells (cpC 0 0 false) 35)) (w.heap.size + 1 + 1) 35 (cpC 0 0 false) := (Has.new' (by simp))
  have hb0 : Below w.heap.size w (((w.alloc (.cells (nums n) 24)).alloc (.cells (cpC x y c) 35)).alloc (.cells (cpC 0 0 false) 35)) := ((((Below.refl _ _).alloc (Nat.le_refl _) _).alloc (by simp <;> omega) _).alloc (by simp <;> omega) _)
  have n0 := nums_ne 0
  go_enter Tryd.func11, Tryd.ntmps11
  go_wp2_with (first | refine wpList_load_has 24 _ rfl _ rfl rfl 24 _ hN _ Tryd.underlying24 rfl (infoNum _) ?_ | refine wpList_load_has 35 _ rfl _ rfl rfl 35 _ hA _ Tryd.underlying35 rfl (infoCp _ _ _) ?_ | refine wpList_parts rfl 35 _ rfl #[(2, .bool true)] (by simp only [List.map_toArray, List.map_cons, List.map_nil]; rfl) (.agg (cpC 0 0 true)) buildCN ?_)
  refine (kT _ hb0).mono ?_
  rintro e w1 ⟨rfl, hx⟩
  replace hR := hR.after hx
  replace hb0 := below_trans hb0 hx
  clear hx kT hN hA
  go_wp2_with (first | refine wpList_store_row rfl 35 _ _ rfl (w.heap.size + 1 + 1) _ rfl rfl 35 _ hR (infoCp _ _ _) (by simp only [cpC_size]) (cpC_one _ _ _) ?_)
  exact bodyPost_ret (v := .agg (cpC x3 y3 c3)) (results_cell_row rfl _ _ (w.heap.size + 1 + 1) 35 _ _ _ rfl (hR.setRow _) Tryd.underlying35 rfl (infoCp _ _ _)) rfl ⟨rfl, below_setRow hb0 (by omega) _⟩
set_option maxRecDepth 100000 in
set_option maxHeartbeats 4000000 in
theorem add_walk (g x1 y1 x2 y2 x3 y3 : Nat) (c1 c2 c3 : Bool) (s t r : T3) (w : World)
    (kA : ∀ W, Below w.heap.size w W → Calls Tryd.prog 39 #[.pointer (some ⟨g, 0, none⟩), .agg (cpC x1 y1 c1)] W fun e w' => e = .returned (.agg (pjC s.x s.y s.z)) ∧ Below W.heap.size W w')
    (kB : ∀ W, Below w.heap.size w W → Calls Tryd.prog 39 #[.pointer (some ⟨g, 0, none⟩), .agg (cpC x2 y2 c2)] W fun e w' => e = .returned (.agg (pjC t.x t.y t.z)) ∧ Below W.heap.size W w')
    (kS : ∀ W, Below w.heap.size w W → Calls Tryd.prog 40 #[.pointer (some ⟨g, 0, none⟩), .agg (pjC s.x s.y s.z), .agg (pjC t.x t.y t.z)] W fun e w' => e = .returned (.agg (pjC r.x r.y r.z)) ∧ Below W.heap.size W w')
    (kZ : ∀ W, Below w.heap.size w W → Calls Tryd.prog 43 #[.pointer (some ⟨g, 0, none⟩), .agg (pjC r.x r.y r.z)] W fun e w' => e = .returned (.agg (cpC x3 y3 c3)) ∧ Below W.heap.size W w') :
    Calls Tryd.prog 20 #[.pointer (some ⟨g, 0, none⟩), .agg (cpC x1 y1 c1), .agg (cpC x2 y2 c2)] w fun e w' => e = .returned (.agg (cpC x3 y3 c3)) ∧ Below w.heap.size w w' := by
  have hA : Has (((w.alloc (.cells (cpC x1 y1 c1) 35)).alloc (.cells (cpC x2 y2 c2) 35)).alloc (.cells (cpC 0 0 false) 35)) (w.heap.size) 35 (cpC x1 y1 c1) := (((Has.new w _ _).alloc _).alloc _)
  have hB : Has (((w.alloc (.cells (cpC x1 y1 c1) 35)).alloc (.cells (cpC x2 y2 c2) 35)).alloc (.cells (cpC 0 0 false) 35)) (w.heap.size + 1) 35 (cpC x2 y2 c2) := ((Has.new' (by simp)).alloc _)
  have hR : Has (((w.alloc (.cells (cpC x1 y1 c1) 35)).alloc (.cells (cpC x2 y2 c2) 35)).alloc (.cells (cpC 0 0 false) 35)) (w.heap.size + 1 + 1) 35 (cpC 0 0 false) := (Has.new' (by simp))
  have hb0 : Below w.heap.size w (((w.alloc (.cells (cpC x1 y1 c1) 35)).alloc (.cells (cpC x2 y2 c2) 35)).alloc (.cells (cpC 0 0 false) 35)) := ((((Below.refl _ _).alloc (Nat.le_refl _) _).alloc (by simp <;> omega) _).alloc (by simp <;> omega) _)
  go_enter Tryd.func20, Tryd.ntmps20
  go_wp2_with fail
  generalize ((w.alloc _).alloc _).alloc _ = U0 at *
  refine region_quiet_tail (Below U0.heap.size U0) 10 (by kernel_rfl) (by kernel_rfl) (below_drewN (Below.refl _ _) 1) ?_
  simp only [List.take_succ_cons, List.take_zero, List.drop_succ_cons, List.drop_zero]
  refine wpQ_move _ rfl rfl (.pointer (some ⟨g, 0, none⟩)) rfl ?_
  simp only [Act.put, List.setIfInBounds_toArray, List.set_cons_zero, List.set_cons_succ]
  refine wpQ_move _ rfl rfl (.pointer (some ⟨g, 0, none⟩)) rfl ?_
  simp only [Act.put, List.setIfInBounds_toArray, List.set_cons_zero, List.set_cons_succ]
  refine wpQ_move _ rfl rfl (.pointer (some ⟨g, 0, none⟩)) rfl ?_
  simp only [Act.put, List.setIfInBounds_toArray, List.set_cons_zero, List.set_cons_succ]
  refine wpQ_has 35 _ rfl _ rfl rfl 35 _ (fun w' hC => hA.after hC) _ Tryd.underlying35 rfl (infoCp _ _ _) ?_
  simp only [Act.put, List.setIfInBounds_toArray, List.set_cons_zero, List.set_cons_succ]
  refine wpQ_fn 39 _ _ rfl rfl #[.pointer (some ⟨g, 0, none⟩), .agg (cpC x1 y1 c1)] rfl (fun _ => by go_simp) (.agg (pjC s.x s.y s.z)) (fun w' hC => (kA w' (below_trans hb0 hC)).mono fun e w'' ⟨he, hb⟩ => ⟨he, below_class hC hb⟩) ?_
  simp only [Act.put, List.setIfInBounds_toArray, List.set_cons_zero, List.set_cons_succ]
  refine wpQ_move _ rfl rfl (.pointer (some ⟨g, 0, none⟩)) rfl ?_
  simp only [Act.put, List.setIfInBounds_toArray, List.set_cons_zero, List.set_cons_succ]
  refine wpQ_has 35 _ rfl _ rfl rfl 35 _ (fun w' hC => hB.after hC) _ Tryd.underlying35 rfl (infoCp _ _ _) ?_
  simp only [Act.put, List.setIfInBounds_toArray, List.set_cons_zero, List.set_cons_succ]
  refine wpQ_fn 39 _ _ rfl rfl #[.pointer (some ⟨g, 0, none⟩), .agg (cpC x2 y2 c2)] rfl (fun _ => by go_simp) (.agg (pjC t.x t.y t.z)) (fun w' hC => (kB w' (below_trans hb0 hC)).mono fun e w'' ⟨he, hb⟩ => ⟨he, below_class hC hb⟩) ?_
  simp only [Act.put, List.setIfInBounds_toArray, List.set_cons_zero, List.set_cons_succ]
  refine wpQ_fn 40 _ _ rfl rfl #[.pointer (some ⟨g, 0, none⟩), .agg (pjC s.x s.y s.z), .agg (pjC t.x t.y t.z)] rfl (fun _ => by go_simp) (.agg (pjC r.x r.y r.z)) (fun w' hC => (kS w' (below_trans hb0 hC)).mono fun e w'' ⟨he, hb⟩ => ⟨he, below_class hC hb⟩) ?_
  simp only [Act.put, List.setIfInBounds_toArray, List.set_cons_zero, List.set_cons_succ]
  refine wpQ_fn 43 _ _ rfl rfl #[.pointer (some ⟨g, 0, none⟩), .agg (pjC r.x r.y r.z)] rfl (fun _ => by go_simp) (.agg (cpC x3 y3 c3)) (fun w' hC => (kZ w' (below_trans hb0 hC)).mono fun e w'' ⟨he, hb⟩ => ⟨he, below_class hC hb⟩) ?_
  simp only [Act.put, List.setIfInBounds_toArray, List.set_cons_zero, List.set_cons_succ]
  refine wpQuiet_nil ?_
  intro w1 hC
  replace hR := hR.after hC
  replace hb0 := below_trans hb0 hC
  clear hC kA kB kS kZ hA hB
  go_wp2_with (first | refine wpList_store_row rfl 35 _ _ rfl (w.heap.size + 1 + 1) _ rfl rfl 35 _ hR (infoCp _ _ _) (by simp only [cpC_size]) (cpC_one _ _ _) ?_)
  exact bodyPost_ret (v := .agg (cpC x3 y3 c3)) (results_cell_row rfl _ _ (w.heap.size + 1 + 1) 35 _ _ _ rfl (hR.setRow _) Tryd.underlying35 rfl (infoCp _ _ _)) rfl ⟨rfl, below_setRow hb0 (by omega) _⟩
set_option maxRecDepth 100000 in
set_option maxHeartbeats 4000000 in
theorem add_nil_any (x1 y1 x2 y2 : Nat) (c1 c2 : Bool) (w : World) : Calls Tryd.prog 20 #[.pointer none, .agg (cpC x1 y1 c1), .agg (cpC x2 y2 c2)] w fun e w' => e = .returned (.agg (cpC 0 0 true)) ∧ Below w.heap.size w w' := by
  have hA : Has (((w.alloc (.cells (cpC x1 y1 c1) 35)).alloc (.cells (cpC x2 y2 c2) 35)).alloc (.cells (cpC 0 0 false) 35)) (w.heap.size) 35 (cpC x1 y1 c1) := (((Has.new w _ _).alloc _).alloc _)
  have hB : Has (((w.alloc (.cells (cpC x1 y1 c1) 35)).alloc (.cells (cpC x2 y2 c2) 35)).alloc (.cells (cpC 0 0 false) 35)) (w.heap.size + 1) 35 (cpC x2 y2 c2) := ((Has.new' (by simp)).alloc _)
  have hR : Has (((w.alloc (.cells (cpC x1 y1 c1) 35)).alloc (.cells (cpC x2 y2 c2) 35)).alloc (.cells (cpC 0 0 false) 35)) (w.heap.size + 1 + 1) 35 (cpC 0 0 false) := (Has.new' (by simp))
  have hb0 : Below w.heap.size w (((w.alloc (.cells (cpC x1 y1 c1) 35)).alloc (.cells (cpC x2 y2 c2) 35)).alloc (.cells (cpC 0 0 false) 35)) := ((((Below.refl _ _).alloc (Nat.le_refl _) _).alloc (by simp <;> omega) _).alloc (by simp <;> omega) _)
  go_enter Tryd.func20, Tryd.ntmps20
  go_wp2_with (first | refine wpList_parts rfl 35 _ rfl #[(2, .bool true)] (by simp only [List.map_toArray, List.map_cons, List.map_nil]; rfl) (.agg (cpC 0 0 true)) buildCN ?_ | refine wpList_store_row rfl 35 _ _ rfl (w.heap.size + 1 + 1) _ rfl rfl 35 _ hR (infoCp _ _ _) (by simp only [cpC_size]) (cpC_one _ _ _) ?_)
  exact bodyPost_ret (v := .agg (cpC 0 0 true)) (results_cell_row rfl _ _ (w.heap.size + 1 + 1) 35 _ _ _ rfl (hR.setRow _) Tryd.underlying35 rfl (infoCp _ _ _)) rfl ⟨rfl, below_setRow hb0 (by omega) _⟩
set_option maxRecDepth 100000 in
set_option maxHeartbeats 4000000 in
theorem two_nil_any (n n' x1 y1 x2 y2 : Nat) (c1 c2 : Bool) (w : World) : Calls Tryd.prog 18 #[.pointer none, .agg (nums n), .agg (cpC x1 y1 c1), .agg (nums n'), .agg (cpC x2 y2 c2)] w fun e w' => e = .returned (.agg (cpC 0 0 true)) ∧ Below w.heap.size w w' := by
  have hN : Has (((((w.alloc (.cells (nums n) 24)).alloc (.cells (cpC x1 y1 c1) 35)).alloc (.cells (nums n') 24)).alloc (.cells (cpC x2 y2 c2) 35)).alloc (.cells (cpC 0 0 false) 35)) (w.heap.size) 24 (nums n) := (((((Has.new w _ _).alloc _).alloc _).alloc _).alloc _)
  have hA : Has (((((w.alloc (.cells (nums n) 24)).alloc (.cells (cpC x1 y1 c1) 35)).alloc (.cells (nums n') 24)).alloc (.cells (cpC x2 y2 c2) 35)).alloc (.cells (cpC 0 0 false) 35)) (w.heap.size + 1) 35 (cpC x1 y1 c1) := ((((Has.new' (by simp)).alloc _).alloc _).alloc _)
  have hM : Has (((((w.alloc (.cells (nums n) 24)).alloc (.cells (cpC x1 y1 c1) 35)).alloc (.cells (nums n') 24)).alloc (.cells (cpC x2 y2 c2) 35)).alloc (.cells (cpC 0 0 false) 35)) (w.heap.size + 1 + 1) 24 (nums n') := (((Has.new' (by simp)).alloc _).alloc _)
  have hB : Has (((((w.alloc (.cells (nums n) 24)).alloc (.cells (cpC x1 y1 c1) 35)).alloc (.cells (nums n') 24)).alloc (.cells (cpC x2 y2 c2) 35)).alloc (.cells (cpC 0 0 false) 35)) (w.heap.size + 1 + 1 + 1) 35 (cpC x2 y2 c2) := ((Has.new' (by simp)).alloc _)
  have hR : Has (((((w.alloc (.cells (nums n) 24)).alloc (.cells (cpC x1 y1 c1) 35)).alloc (.cells (nums n') 24)).alloc (.cells (cpC x2 y2 c2) 35)).alloc (.cells (cpC 0 0 false) 35)) (w.heap.size + 1 + 1 + 1 + 1) 35 (cpC 0 0 false) := (Has.new' (by simp))
  have hb0 : Below w.heap.size w (((((w.alloc (.cells (nums n) 24)).alloc (.cells (cpC x1 y1 c1) 35)).alloc (.cells (nums n') 24)).alloc (.cells (cpC x2 y2 c2) 35)).alloc (.cells (cpC 0 0 false) 35)) := ((((((Below.refl _ _).alloc (Nat.le_refl _) _).alloc (by simp <;> omega) _).alloc (by simp <;> omega) _).alloc (by simp <;> omega) _).alloc (by simp <;> omega) _)
  go_enter Tryd.func18, Tryd.ntmps18
  go_wp2_with (first | refine wpList_parts rfl 35 _ rfl #[(2, .bool true)] (by simp only [List.map_toArray, List.map_cons, List.map_nil]; rfl) (.agg (cpC 0 0 true)) buildCN ?_ | refine wpList_store_row rfl 35 _ _ rfl (w.heap.size + 1 + 1 + 1 + 1) _ rfl rfl 35 _ hR (infoCp _ _ _) (by simp only [cpC_size]) (cpC_one _ _ _) ?_)
  exact bodyPost_ret (v := .agg (cpC 0 0 true)) (results_cell_row rfl _ _ (w.heap.size + 1 + 1 + 1 + 1) 35 _ _ _ rfl (hR.setRow _) Tryd.underlying35 rfl (infoCp _ _ _)) rfl ⟨rfl, below_setRow hb0 (by omega) _⟩
set_option maxRecDepth 100000 in
set_option maxHeartbeats 4000000 in
theorem on_nil_any (x y : Nat) (c : Bool) (w : World) : Calls Tryd.prog 17 #[.pointer none, .agg (cpC x y c)] w fun e w' => e = .returned (.bool false) ∧ Below w.heap.size w w' := by
  have hb0 : Below w.heap.size w (w.alloc (.cells (cpC x y c) 35)) := (Below.refl _ _).alloc (Nat.le_refl _) _
  go_enter Tryd.func17, Tryd.ntmps17
  go_wp2_with fail
  go_ret
  exact ⟨rfl, hb0⟩
theorem cadd_any (m bm g : Nat) (P Q : Ec.Pnt) (w : World) (hI : IsCrv m bm w g) (hmp : m = Ec.pp) (lbm : bm < m) (hbm : mo bm = Ec.cB) (oP : Ec.OnP P) (oQ : Ec.OnP Q) :
    Calls Tryd.prog 20 #[.pointer (some ⟨g, 0, none⟩), cpV P, cpV Q] w fun e w' => e = .returned (cpV (Ec.plus P Q)) ∧ Below w.heap.size w w' := by
  have m0 : 0 < m := by rw [hmp]; decide
  have sb := sumC_is hmp lbm hbm (prjT_ok m0 P) (prjT_ok m0 Q)
  have rb := sb.2.1 P Q oP oQ (prjT_rep hmp P) (prjT_rep hmp Q)
  exact add_walk g _ _ _ _ _ _ _ _ _ (prjT m P) (prjT m Q) (sumC m bm (prjT m P) (prjT m Q)) w (fun W h => toProj_any P m bm g W (hI.after h)) (fun W h => toProj_any Q m bm g W (hI.after h)) (fun W h => sb.2.2 g W (hI.after h)) (fun W h => toAff_any _ _ m bm g W (hI.after h) hmp sb.1 rb)
theorem cmult_any (n m bm g : Nat) (P : Ec.Pnt) (w : World) (hI : IsCrv m bm w g) (hmp : m = Ec.pp) (lbm : bm < m) (hbm : mo bm = Ec.cB) (hn : n < big) (oP : Ec.OnP P) :
    Calls Tryd.prog 11 #[.pointer (some ⟨g, 0, none⟩), .agg (nums n), cpV P] w fun e w' => e = .returned (cpV (Ec.smul n P)) ∧ Below w.heap.size w w' := by
  refine mult_walk n _ _ _ _ _ _ _ w fun W h => ?_
  have k := ctwo_any n 0 m bm g P none W (hI.after h) hmp lbm hbm hn big_pos oP trivial
  have e : Ec.plus (Ec.smul n P) (Ec.smul 0 none) = Ec.smul n P := Ec.add_none _ _
  rw [e] at k
  exact k
theorem base_v : cpV Ec.baseP = .agg (cpC Ec.gX Ec.gY false) := by
  have e1 : cpX Ec.baseP = Ec.gX := by decide +kernel
  have e2 : cpY Ec.baseP = Ec.gY := by decide +kernel
  show Value.agg (cpC (cpX Ec.baseP) (cpY Ec.baseP) false) = _
  rw [e1, e2]
theorem on_all (x y : Nat) (b : Bool) (hx : x < big) (hy : y < big) : ∃ r : Bool, (r = true ↔ (b = false ∧ x < Ec.pp ∧ y < Ec.pp ∧ Ec.OnP (some (Ec.c x, Ec.c y)))) ∧
    ∀ w g, IsCurve w g → Calls Tryd.prog 17 #[.pointer (some ⟨g, 0, none⟩), .agg (cpC x y b)] w fun e w' => e = .returned (.bool r) ∧ Below w.heap.size w w' := by
  cases b with
  | true => exact ⟨false, ⟨fun h => Bool.noConfusion h, fun h => Bool.noConfusion h.1⟩, fun w g h => on_none x y _ _ g w h hx hy⟩
  | false =>
    by_cases hX : x < Ec.pp
    · by_cases hY : y < Ec.pp
      · obtain ⟨r, h1, h2⟩ := on_good x y Ec.pp bM hX hY pp_lt bM_lt rfl bM_mo
        exact ⟨r, h1.trans ⟨fun h => ⟨rfl, hX, hY, h⟩, fun h => h.2.2.2⟩, h2⟩
      · exact ⟨false, ⟨fun h => Bool.noConfusion h, fun h => absurd h.2.2.1 hY⟩, fun w g h => on_badY x y _ _ g w h hx hy hX hY⟩
    · exact ⟨false, ⟨fun h => Bool.noConfusion h, fun h => absurd h.2.1 hX⟩, fun w g h => on_badX x y _ _ g w h hx hy hX⟩
/-- package curve's calls do what the laws' walks ask of them -/
theorem curve_ok : CurveOK Laid IsCurve where
  gkeep := fun h k => h.after k
  keep := fun h k => h.after k
  new_ok := fun w h => cnew_any Ec.pp bN w pp_odd.1 pp_odd.2.1 pp_lt (by decide +kernel) h (fun W k => (h.after k).p) (fun W k => (h.after k).b)
  order_ok := fun w g h => order_any Ec.ordN w fun W k => (h.laid.after k).o
  base_ok := fun w g h => by
    rw [base_v]
    exact base_any Ec.gX Ec.gY w (fun W k => (h.laid.after k).x) (fun W k => (h.laid.after k).y)
  on_ok := on_all
  on_nil := fun w P => on_nil_any _ _ _ w
  add_ok := fun w g P Q h oP oQ => cadd_any Ec.pp bM g P Q w h rfl bM_lt bM_mo oP oQ
  add_nil := fun w P Q => add_nil_any _ _ _ _ _ _ w
  mult_ok := fun w g n P h hn oP => cmult_any n Ec.pp bM g P w h rfl bM_lt bM_mo hn oP
  mult_nil := fun w n P hn => mult_walk n _ _ _ _ _ _ _ w fun W _ => two_nil_any _ _ _ _ _ _ _ _ W
  two_ok := fun w g n n' P Q h hn hn' oP oQ => ctwo_any n n' Ec.pp bM g P Q w h rfl bM_lt bM_mo hn hn' oP oQ
end Go.Proofs.YtmgmfifkldpbmaaDoor
