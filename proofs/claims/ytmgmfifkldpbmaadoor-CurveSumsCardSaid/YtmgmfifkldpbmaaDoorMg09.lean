/-
Package curve: three times a number, the crossed product, the sum of two points.
-/
import Derived.Test.YtmgmfifkldpbmaaDoorMg08
namespace Go.Proofs.YtmgmfifkldpbmaaDoor
open Go.RowKit

attribute [local go_sem] zeroNum zero24
set_option maxRecDepth 100000 in
set_option maxHeartbeats 4000000 in
theorem triple_any (a m bm g : Nat) (w : World) (hI : IsCrv m bm w g) (la : a < m) : Calls Tryd.prog 38 #[.pointer (some ⟨g, 0, none⟩), .agg (nums a)] w fun e w' => e = .returned (.agg (nums (triN m a))) ∧ Below w.heap.size w w' := by
  obtain ⟨f, hG, hM, hL⟩ := hI
  have kM := fun W (h : Below w.heap.size w W) => hM.after h
  have kI := fun W (h : Below w.heap.size w W) => (⟨f, hG.after h, hM.after h, hL.after h⟩ : IsCrv m bm W g)
  have m0 : 0 < m := Nat.lt_of_le_of_lt (Nat.zero_le _) la
  obtain ⟨v1, ev1⟩ : ∃ v, v = (a + a) % m := ⟨_, rfl⟩
  have lv1 : v1 < m := by rw [ev1]; exact Nat.mod_lt _ m0
  obtain ⟨v2, ev2⟩ : ∃ v, v = (v1 + a) % m := ⟨_, rfl⟩
  have lv2 : v2 < m := by rw [ev2]; exact Nat.mod_lt _ m0
  have kv1 := fun W (h : Below w.heap.size w W) => madd_any a a m f W (kM W h) la la
  rw [← ev1] at kv1
  have kv2 := fun W (h : Below w.heap.size w W) => madd_any v1 a m f W (kM W h) lv1 la
  rw [← ev2] at kv2
  have hr : triN m a = v2 := by rw [ev2, ev1]; rfl
  rw [hr]
  clear hr la m0 kI hM hL ev1 lv1 ev2 lv2
  have n0 := nums_ne 0
  have hA : Has ((w.alloc (.cells (nums a) 24)).alloc (.cells (nums 0) 24)) (w.heap.size) 24 (nums a) := ((Has.new w _ _).alloc _)
  have hR : Has ((w.alloc (.cells (nums a) 24)).alloc (.cells (nums 0) 24)) (w.heap.size + 1) 24 (nums 0) := (Has.new' (by simp))
  have hb0 : Below w.heap.size w ((w.alloc (.cells (nums a) 24)).alloc (.cells (nums 0) 24)) := (((Below.refl _ _).alloc (Nat.le_refl _) _).alloc (by simp <;> omega) _)
  replace hG := hG.after hb0
  go_enter Tryd.func38, Tryd.ntmps38
  go_wp2_with fail
  generalize (w.alloc _).alloc _ = U0 at *
  refine region_quiet_tail (Below U0.heap.size U0) 13 (by kernel_rfl) (by kernel_rfl) (below_drewN (Below.refl _ _) 1) ?_
  simp only [List.take_succ_cons, List.take_zero, List.drop_succ_cons, List.drop_zero]
  refine wpQ_move _ rfl rfl (.pointer (some ⟨g, 0, none⟩)) rfl ?_
  simp only [Act.put, List.setIfInBounds_toArray, List.set_cons_zero, List.set_cons_succ]
  refine wpQ_val rfl (.pointer (some ⟨g, 0, none⟩)) (fun w' _ => by go_simp) ?_
  simp only [Act.put, List.setIfInBounds_toArray, List.set_cons_zero, List.set_cons_succ]
  refine wpQ_val rfl (.pointer (some ⟨g, 0, none⟩)) (fun w' _ => by go_simp) ?_
  simp only [Act.put, List.setIfInBounds_toArray, List.set_cons_zero, List.set_cons_succ]
  refine wpQ_load 58 _ rfl rfl _ rfl (.pointer (some ⟨f, 0, none⟩)) (fun w' hC => cell_ptr _ _ _ w' (crv_f (hG.after hC))) ?_
  simp only [Act.put, List.setIfInBounds_toArray, List.set_cons_zero, List.set_cons_succ]
  refine wpQ_move _ rfl rfl (.pointer (some ⟨g, 0, none⟩)) rfl ?_
  simp only [Act.put, List.setIfInBounds_toArray, List.set_cons_zero, List.set_cons_succ]
  refine wpQ_val rfl (.pointer (some ⟨g, 0, none⟩)) (fun w' _ => by go_simp) ?_
  simp only [Act.put, List.setIfInBounds_toArray, List.set_cons_zero, List.set_cons_succ]
  refine wpQ_val rfl (.pointer (some ⟨g, 0, none⟩)) (fun w' _ => by go_simp) ?_
  simp only [Act.put, List.setIfInBounds_toArray, List.set_cons_zero, List.set_cons_succ]
  refine wpQ_load 58 _ rfl rfl _ rfl (.pointer (some ⟨f, 0, none⟩)) (fun w' hC => cell_ptr _ _ _ w' (crv_f (hG.after hC))) ?_
  simp only [Act.put, List.setIfInBounds_toArray, List.set_cons_zero, List.set_cons_succ]
  refine wpQ_has 24 _ rfl _ rfl rfl 24 _ (fun w' hC => hA.after hC) _ Tryd.underlying24 rfl (infoNum _) ?_
  simp only [Act.put, List.setIfInBounds_toArray, List.set_cons_zero, List.set_cons_succ]
  refine wpQ_has 24 _ rfl _ rfl rfl 24 _ (fun w' hC => hA.after hC) _ Tryd.underlying24 rfl (infoNum _) ?_
  simp only [Act.put, List.setIfInBounds_toArray, List.set_cons_zero, List.set_cons_succ]
  refine wpQ_fn 36 _ _ rfl rfl #[.pointer (some ⟨f, 0, none⟩), .agg (nums (a)), .agg (nums (a))] rfl (fun _ => by go_simp) (.agg (nums (v1))) (fun w' hC => (kv1 w' (below_trans hb0 hC)).mono fun e w'' ⟨he, hb⟩ => ⟨he, below_class hC hb⟩) ?_
  simp only [Act.put, List.setIfInBounds_toArray, List.set_cons_zero, List.set_cons_succ]
  refine wpQ_has 24 _ rfl _ rfl rfl 24 _ (fun w' hC => hA.after hC) _ Tryd.underlying24 rfl (infoNum _) ?_
  simp only [Act.put, List.setIfInBounds_toArray, List.set_cons_zero, List.set_cons_succ]
  refine wpQ_fn 36 _ _ rfl rfl #[.pointer (some ⟨f, 0, none⟩), .agg (nums (v1)), .agg (nums (a))] rfl (fun _ => by go_simp) (.agg (nums (v2))) (fun w' hC => (kv2 w' (below_trans hb0 hC)).mono fun e w'' ⟨he, hb⟩ => ⟨he, below_class hC hb⟩) ?_
  simp only [Act.put, List.setIfInBounds_toArray, List.set_cons_zero, List.set_cons_succ]
  refine wpQuiet_nil ?_
  intro u1 hC
  replace hA := hA.after hC
  replace hG := hG.after hC
  replace hR := hR.after hC
  replace hb0 := below_trans hb0 hC
  clear hC
  go_wp2_with (first | refine wpList_store_row rfl 24 _ _ rfl (w.heap.size + 1) _ rfl rfl 24 _ hR (infoNum _) (by simp only [nums_size]) (tab_oneCell _ _ fun _ => rfl) ?_)
  exact bodyPost_ret (v := .agg (nums v2)) (results_cell_row rfl _ _ (w.heap.size + 1) 24 _ _ _ rfl (hR.setRow _) Tryd.underlying24 rfl (infoNum _)) rfl ⟨rfl, below_setRow hb0 (by omega) _⟩
set_option maxRecDepth 100000 in
set_option maxHeartbeats 4000000 in
theorem crossed_any (a1 b1 a2 b2 s m bm g : Nat) (w : World) (hI : IsCrv m bm w g) (la1 : a1 < m) (lb1 : b1 < m) (la2 : a2 < m) (lb2 : b2 < m) (ls : s < m) : Calls Tryd.prog 60 #[.pointer (some ⟨g, 0, none⟩), .agg (nums a1), .agg (nums b1), .agg (nums a2), .agg (nums b2), .agg (nums s)] w fun e w' => e = .returned (.agg (nums (crsN m a1 b1 a2 b2 s))) ∧ Below w.heap.size w w' := by
  obtain ⟨f, hG, hM, hL⟩ := hI
  have kM := fun W (h : Below w.heap.size w W) => hM.after h
  have kI := fun W (h : Below w.heap.size w W) => (⟨f, hG.after h, hM.after h, hL.after h⟩ : IsCrv m bm W g)
  have m0 : 0 < m := Nat.lt_of_le_of_lt (Nat.zero_le _) la1
  obtain ⟨v1, ev1⟩ : ∃ v, v = (a1 + b1) % m := ⟨_, rfl⟩
  have lv1 : v1 < m := by rw [ev1]; exact Nat.mod_lt _ m0
  obtain ⟨v2, ev2⟩ : ∃ v, v = (a2 + b2) % m := ⟨_, rfl⟩
  have lv2 : v2 < m := by rw [ev2]; exact Nat.mod_lt _ m0
  obtain ⟨v3, ev3⟩ : ∃ v, v = redc m (v1 * v2) := ⟨_, rfl⟩
  have lv3 : v3 < m := by rw [ev3]; exact redc_lt m _ m0
  obtain ⟨v4, ev4⟩ : ∃ v, v = (v3 + (m - s)) % m := ⟨_, rfl⟩
  have lv4 : v4 < m := by rw [ev4]; exact Nat.mod_lt _ m0
  have kv1 := fun W (h : Below w.heap.size w W) => madd_any a1 b1 m f W (kM W h) la1 lb1
  rw [← ev1] at kv1
  have kv2 := fun W (h : Below w.heap.size w W) => madd_any a2 b2 m f W (kM W h) la2 lb2
  rw [← ev2] at kv2
  have kv3 := fun W (h : Below w.heap.size w W) => mtimes_any v1 v2 m f W (kM W h) lv1 lv2
  rw [← ev3] at kv3
  have kv4 := fun W (h : Below w.heap.size w W) => msub_any v3 s m f W (kM W h) lv3 ls
  rw [← ev4] at kv4
  have hr : crsN m a1 b1 a2 b2 s = v4 := by rw [ev4, ev3, ev2, ev1]; rfl
  rw [hr]
  clear hr la1 lb1 la2 lb2 ls m0 kI hM hL ev1 lv1 ev2 lv2 ev3 lv3 ev4 lv4
  have n0 := nums_ne 0
  have hA1 : Has ((((((w.alloc (.cells (nums a1) 24)).alloc (.cells (nums b1) 24)).alloc (.cells (nums a2) 24)).alloc (.cells (nums b2) 24)).alloc (.cells (nums s) 24)).alloc (.cells (nums 0) 24)) (w.heap.size) 24 (nums a1) := ((((((Has.new w _ _).alloc _).alloc _).alloc _).alloc _).alloc _)
  have hB1 : Has ((((((w.alloc (.cells (nums a1) 24)).alloc (.cells (nums b1) 24)).alloc (.cells (nums a2) 24)).alloc (.cells (nums b2) 24)).alloc (.cells (nums s) 24)).alloc (.cells (nums 0) 24)) (w.heap.size + 1) 24 (nums b1) := (((((Has.new' (by simp)).alloc _).alloc _).alloc _).alloc _)
  have hA2 : Has ((((((w.alloc (.cells (nums a1) 24)).alloc (.cells (nums b1) 24)).alloc (.cells (nums a2) 24)).alloc (.cells (nums b2) 24)).alloc (.cells (nums s) 24)).alloc (.cells (nums 0) 24)) (w.heap.size + 1 + 1) 24 (nums a2) := ((((Has.new' (by simp)).alloc _).alloc _).alloc _)
  have hB2 : Has ((((((w.alloc (.cells (nums a1) 24)).alloc (.cells (nums b1) 24)).alloc (.cells (nums a2) 24)).alloc (.cells (nums b2) 24)).alloc (.cells (nums s) 24)).alloc (.cells (nums 0) 24)) (w.heap.size + 1 + 1 + 1) 24 (nums b2) := (((Has.new' (by simp)).alloc _).alloc _)
  have hS : Has ((((((w.alloc (.cells (nums a1) 24)).alloc (.cells (nums b1) 24)).alloc (.cells (nums a2) 24)).alloc (.cells (nums b2) 24)).alloc (.cells (nums s) 24)).alloc (.cells (nums 0) 24)) (w.heap.size + 1 + 1 + 1 + 1) 24 (nums s) := ((Has.new' (by simp)).alloc _)
  have hR : Has ((((((w.alloc (.cells (nums a1) 24)).alloc (.cells (nums b1) 24)).alloc (.cells (nums a2) 24)).alloc (.cells (nums b2) 24)).alloc (.cells (nums s) 24)).alloc (.cells (nums 0) 24)) (w.heap.size + 1 + 1 + 1 + 1 + 1) 24 (nums 0) := (Has.new' (by simp))
  have hb0 : Below w.heap.size w ((((((w.alloc (.cells (nums a1) 24)).alloc (.cells (nums b1) 24)).alloc (.cells (nums a2) 24)).alloc (.cells (nums b2) 24)).alloc (.cells (nums s) 24)).alloc (.cells (nums 0) 24)) := (((((((Below.refl _ _).alloc (Nat.le_refl _) _).alloc (by simp <;> omega) _).alloc (by simp <;> omega) _).alloc (by simp <;> omega) _).alloc (by simp <;> omega) _).alloc (by simp <;> omega) _)
  replace hG := hG.after hb0
  go_enter Tryd.func60, Tryd.ntmps60
  have cell0 := crv_f hG
  go_wp2_with fail
  clear cell0
  generalize (World.alloc (World.alloc (World.alloc (World.alloc (World.alloc (World.alloc w _) _) _) _) _) _) = U0 at *
  refine region_quiet_tail (Below U0.heap.size U0) 13 (by kernel_rfl) (by kernel_rfl) (below_drewN (Below.refl _ _) 1) ?_
  simp only [List.take_succ_cons, List.take_zero, List.drop_succ_cons, List.drop_zero]
  refine wpQ_move _ rfl rfl (.pointer (some ⟨f, 0, none⟩)) rfl ?_
  simp only [Act.put, List.setIfInBounds_toArray, List.set_cons_zero, List.set_cons_succ]
  refine wpQ_move _ rfl rfl (.pointer (some ⟨f, 0, none⟩)) rfl ?_
  simp only [Act.put, List.setIfInBounds_toArray, List.set_cons_zero, List.set_cons_succ]
  refine wpQ_move _ rfl rfl (.pointer (some ⟨f, 0, none⟩)) rfl ?_
  simp only [Act.put, List.setIfInBounds_toArray, List.set_cons_zero, List.set_cons_succ]
  refine wpQ_has 24 _ rfl _ rfl rfl 24 _ (fun w' hC => hA1.after hC) _ Tryd.underlying24 rfl (infoNum _) ?_
  simp only [Act.put, List.setIfInBounds_toArray, List.set_cons_zero, List.set_cons_succ]
  refine wpQ_has 24 _ rfl _ rfl rfl 24 _ (fun w' hC => hB1.after hC) _ Tryd.underlying24 rfl (infoNum _) ?_
  simp only [Act.put, List.setIfInBounds_toArray, List.set_cons_zero, List.set_cons_succ]
  refine wpQ_fn 36 _ _ rfl rfl #[.pointer (some ⟨f, 0, none⟩), .agg (nums (a1)), .agg (nums (b1))] rfl (fun _ => by go_simp) (.agg (nums (v1))) (fun w' hC => (kv1 w' (below_trans hb0 hC)).mono fun e w'' ⟨he, hb⟩ => ⟨he, below_class hC hb⟩) ?_
  simp only [Act.put, List.setIfInBounds_toArray, List.set_cons_zero, List.set_cons_succ]
  refine wpQ_move _ rfl rfl (.pointer (some ⟨f, 0, none⟩)) rfl ?_
  simp only [Act.put, List.setIfInBounds_toArray, List.set_cons_zero, List.set_cons_succ]
  refine wpQ_has 24 _ rfl _ rfl rfl 24 _ (fun w' hC => hA2.after hC) _ Tryd.underlying24 rfl (infoNum _) ?_
  simp only [Act.put, List.setIfInBounds_toArray, List.set_cons_zero, List.set_cons_succ]
  refine wpQ_has 24 _ rfl _ rfl rfl 24 _ (fun w' hC => hB2.after hC) _ Tryd.underlying24 rfl (infoNum _) ?_
  simp only [Act.put, List.setIfInBounds_toArray, List.set_cons_zero, List.set_cons_succ]
  refine wpQ_fn 36 _ _ rfl rfl #[.pointer (some ⟨f, 0, none⟩), .agg (nums (a2)), .agg (nums (b2))] rfl (fun _ => by go_simp) (.agg (nums (v2))) (fun w' hC => (kv2 w' (below_trans hb0 hC)).mono fun e w'' ⟨he, hb⟩ => ⟨he, below_class hC hb⟩) ?_
  simp only [Act.put, List.setIfInBounds_toArray, List.set_cons_zero, List.set_cons_succ]
  refine wpQ_fn 35 _ _ rfl rfl #[.pointer (some ⟨f, 0, none⟩), .agg (nums (v1)), .agg (nums (v2))] rfl (fun _ => by go_simp) (.agg (nums (v3))) (fun w' hC => (kv3 w' (below_trans hb0 hC)).mono fun e w'' ⟨he, hb⟩ => ⟨he, below_class hC hb⟩) ?_
  simp only [Act.put, List.setIfInBounds_toArray, List.set_cons_zero, List.set_cons_succ]
  refine wpQ_has 24 _ rfl _ rfl rfl 24 _ (fun w' hC => hS.after hC) _ Tryd.underlying24 rfl (infoNum _) ?_
  simp only [Act.put, List.setIfInBounds_toArray, List.set_cons_zero, List.set_cons_succ]
  refine wpQ_fn 37 _ _ rfl rfl #[.pointer (some ⟨f, 0, none⟩), .agg (nums (v3)), .agg (nums (s))] rfl (fun _ => by go_simp) (.agg (nums (v4))) (fun w' hC => (kv4 w' (below_trans hb0 hC)).mono fun e w'' ⟨he, hb⟩ => ⟨he, below_class hC hb⟩) ?_
  simp only [Act.put, List.setIfInBounds_toArray, List.set_cons_zero, List.set_cons_succ]
  refine wpQuiet_nil ?_
  intro u1 hC
  replace hA1 := hA1.after hC
  replace hB1 := hB1.after hC
  replace hA2 := hA2.after hC
  replace hB2 := hB2.after hC
  replace hS := hS.after hC
  replace hG := hG.after hC
  replace hR := hR.after hC
  replace hb0 := below_trans hb0 hC
  clear hC
  go_wp2_with (first | refine wpList_store_row rfl 24 _ _ rfl (w.heap.size + 1 + 1 + 1 + 1 + 1) _ rfl rfl 24 _ hR (infoNum _) (by simp only [nums_size]) (tab_oneCell _ _ fun _ => rfl) ?_)
  exact bodyPost_ret (v := .agg (nums v4)) (results_cell_row rfl _ _ (w.heap.size + 1 + 1 + 1 + 1 + 1) 24 _ _ _ rfl (hR.setRow _) Tryd.underlying24 rfl (infoNum _)) rfl ⟨rfl, below_setRow hb0 (by omega) _⟩
set_option maxRecDepth 100000 in
set_option maxHeartbeats 4000000 in
theorem csum_ex (X1 Y1 Z1 X2 Y2 Z2 m bm : Nat) (lX1 : X1 < m) (lY1 : Y1 < m) (lZ1 : Z1 < m) (lX2 : X2 < m) (lY2 : Y2 < m) (lZ2 : Z2 < m) (lbm : bm < m) (hmp : m = Ec.pp) (hbm : mo bm = Ec.cB) :
    ∃ X' Y' Z' : Nat, X' < m ∧ Y' < m ∧ Z' < m ∧ (∀ P Q, Ec.OnP P → Ec.OnP Q → Ec.RepC (mo X1) (mo Y1) (mo Z1) P → Ec.RepC (mo X2) (mo Y2) (mo Z2) Q → Ec.RepC (mo X') (mo Y') (mo Z') (Ec.plus P Q)) ∧
      ∀ g w, IsCrv m bm w g → Calls Tryd.prog 40 #[.pointer (some ⟨g, 0, none⟩), .agg (pjC X1 Y1 Z1), .agg (pjC X2 Y2 Z2)] w fun e w' => e = .returned (.agg (pjC X' Y' Z')) ∧ Below w.heap.size w w' := by
  have m0 : 0 < m := Nat.lt_of_le_of_lt (Nat.zero_le _) lX1
  obtain ⟨v1, ev1⟩ : ∃ v, v = redc m (X1 * X2) := ⟨_, rfl⟩
  have lv1 : v1 < m := by rw [ev1]; exact redc_lt m _ m0
  obtain ⟨v2, ev2⟩ : ∃ v, v = redc m (Y1 * Y2) := ⟨_, rfl⟩
  have lv2 : v2 < m := by rw [ev2]; exact redc_lt m _ m0
  obtain ⟨v3, ev3⟩ : ∃ v, v = redc m (Z1 * Z2) := ⟨_, rfl⟩
  have lv3 : v3 < m := by rw [ev3]; exact redc_lt m _ m0
  obtain ⟨v4, ev4⟩ : ∃ v, v = (v1 + v2) % m := ⟨_, rfl⟩
  have lv4 : v4 < m := by rw [ev4]; exact Nat.mod_lt _ m0
  obtain ⟨v5, ev5⟩ : ∃ v, v = crsN m X1 Y1 X2 Y2 v4 := ⟨_, rfl⟩
  have lv5 : v5 < m := by rw [ev5]; exact crsN_lt _ _ _ _ _ m0
  obtain ⟨v6, ev6⟩ : ∃ v, v = (v2 + v3) % m := ⟨_, rfl⟩
  have lv6 : v6 < m := by rw [ev6]; exact Nat.mod_lt _ m0
  obtain ⟨v7, ev7⟩ : ∃ v, v = crsN m Y1 Z1 Y2 Z2 v6 := ⟨_, rfl⟩
  have lv7 : v7 < m := by rw [ev7]; exact crsN_lt _ _ _ _ _ m0
  obtain ⟨v8, ev8⟩ : ∃ v, v = (v1 + v3) % m := ⟨_, rfl⟩
  have lv8 : v8 < m := by rw [ev8]; exact Nat.mod_lt _ m0
  obtain ⟨v9, ev9⟩ : ∃ v, v = crsN m X1 Z1 X2 Z2 v8 := ⟨_, rfl⟩
  have lv9 : v9 < m := by rw [ev9]; exact crsN_lt _ _ _ _ _ m0
  obtain ⟨v10, ev10⟩ : ∃ v, v = triN m v3 := ⟨_, rfl⟩
  have lv10 : v10 < m := by rw [ev10]; exact triN_lt _ m0
  obtain ⟨v11, ev11⟩ : ∃ v, v = redc m (bm * v3) := ⟨_, rfl⟩
  have lv11 : v11 < m := by rw [ev11]; exact redc_lt m _ m0
  obtain ⟨v12, ev12⟩ : ∃ v, v = (v9 + (m - v11)) % m := ⟨_, rfl⟩
  have lv12 : v12 < m := by rw [ev12]; exact Nat.mod_lt _ m0
  obtain ⟨v13, ev13⟩ : ∃ v, v = triN m v12 := ⟨_, rfl⟩
  have lv13 : v13 < m := by rw [ev13]; exact triN_lt _ m0
  obtain ⟨v14, ev14⟩ : ∃ v, v = (v2 + (m - v13)) % m := ⟨_, rfl⟩
  have lv14 : v14 < m := by rw [ev14]; exact Nat.mod_lt _ m0
  obtain ⟨v15, ev15⟩ : ∃ v, v = (v2 + v13) % m := ⟨_, rfl⟩
  have lv15 : v15 < m := by rw [ev15]; exact Nat.mod_lt _ m0
  obtain ⟨v16, ev16⟩ : ∃ v, v = redc m (bm * v9) := ⟨_, rfl⟩
  have lv16 : v16 < m := by rw [ev16]; exact redc_lt m _ m0
  obtain ⟨v17, ev17⟩ : ∃ v, v = (v10 + v1) % m := ⟨_, rfl⟩
  have lv17 : v17 < m := by rw [ev17]; exact Nat.mod_lt _ m0
  obtain ⟨v18, ev18⟩ : ∃ v, v = (v16 + (m - v17)) % m := ⟨_, rfl⟩
  have lv18 : v18 < m := by rw [ev18]; exact Nat.mod_lt _ m0
  obtain ⟨v19, ev19⟩ : ∃ v, v = triN m v18 := ⟨_, rfl⟩
  have lv19 : v19 < m := by rw [ev19]; exact triN_lt _ m0
  obtain ⟨v20, ev20⟩ : ∃ v, v = triN m v1 := ⟨_, rfl⟩
  have lv20 : v20 < m := by rw [ev20]; exact triN_lt _ m0
  obtain ⟨v21, ev21⟩ : ∃ v, v = (v20 + (m - v10)) % m := ⟨_, rfl⟩
  have lv21 : v21 < m := by rw [ev21]; exact Nat.mod_lt _ m0
  obtain ⟨v22, ev22⟩ : ∃ v, v = redc m (v5 * v15) := ⟨_, rfl⟩
  have lv22 : v22 < m := by rw [ev22]; exact redc_lt m _ m0
  obtain ⟨v23, ev23⟩ : ∃ v, v = redc m (v7 * v19) := ⟨_, rfl⟩
  have lv23 : v23 < m := by rw [ev23]; exact redc_lt m _ m0
  obtain ⟨v24, ev24⟩ : ∃ v, v = (v22 + (m - v23)) % m := ⟨_, rfl⟩
  have lv24 : v24 < m := by rw [ev24]; exact Nat.mod_lt _ m0
  obtain ⟨v25, ev25⟩ : ∃ v, v = redc m (v15 * v14) := ⟨_, rfl⟩
  have lv25 : v25 < m := by rw [ev25]; exact redc_lt m _ m0
  obtain ⟨v26, ev26⟩ : ∃ v, v = redc m (v21 * v19) := ⟨_, rfl⟩
  have lv26 : v26 < m := by rw [ev26]; exact redc_lt m _ m0
  obtain ⟨v27, ev27⟩ : ∃ v, v = (v25 + v26) % m := ⟨_, rfl⟩
  have lv27 : v27 < m := by rw [ev27]; exact Nat.mod_lt _ m0
  obtain ⟨v28, ev28⟩ : ∃ v, v = redc m (v7 * v14) := ⟨_, rfl⟩
  have lv28 : v28 < m := by rw [ev28]; exact redc_lt m _ m0
  obtain ⟨v29, ev29⟩ : ∃ v, v = redc m (v5 * v21) := ⟨_, rfl⟩
  have lv29 : v29 < m := by rw [ev29]; exact redc_lt m _ m0
  obtain ⟨v30, ev30⟩ : ∃ v, v = (v28 + v29) % m := ⟨_, rfl⟩
  have lv30 : v30 < m := by rw [ev30]; exact Nat.mod_lt _ m0
  refine ⟨v24, v27, v30, lv24, lv27, lv30, fun P Q oP oQ hP hQ => ?_, fun g w hI => ?_⟩
  · have cv1 : mo v1 = mo X1 * mo X2 := by rw [ev1]; exact mT hmp X1 X2
    have cv2 : mo v2 = mo Y1 * mo Y2 := by rw [ev2]; exact mT hmp Y1 Y2
    have cv3 : mo v3 = mo Z1 * mo Z2 := by rw [ev3]; exact mT hmp Z1 Z2
    have cv4 : mo v4 = mo v1 + mo v2 := by rw [ev4]; exact mA hmp v1 v2
    have cv5 : mo v5 = (mo X1 + mo Y1) * (mo X2 + mo Y2) - mo v4 := by rw [ev5]; exact mCrs hmp X1 Y1 X2 Y2 v4 (Nat.le_of_lt lv4)
    have cv6 : mo v6 = mo v2 + mo v3 := by rw [ev6]; exact mA hmp v2 v3
    have cv7 : mo v7 = (mo Y1 + mo Z1) * (mo Y2 + mo Z2) - mo v6 := by rw [ev7]; exact mCrs hmp Y1 Z1 Y2 Z2 v6 (Nat.le_of_lt lv6)
    have cv8 : mo v8 = mo v1 + mo v3 := by rw [ev8]; exact mA hmp v1 v3
    have cv9 : mo v9 = (mo X1 + mo Z1) * (mo X2 + mo Z2) - mo v8 := by rw [ev9]; exact mCrs hmp X1 Z1 X2 Z2 v8 (Nat.le_of_lt lv8)
    have cv10 : mo v10 = 3 * mo v3 := by rw [ev10]; exact mTri hmp v3
    have cv11 : mo v11 = mo bm * mo v3 := by rw [ev11]; exact mT hmp bm v3
    have cv12 : mo v12 = mo v9 - mo v11 := by rw [ev12]; exact mS hmp v9 v11 (Nat.le_of_lt lv11)
    have cv13 : mo v13 = 3 * mo v12 := by rw [ev13]; exact mTri hmp v12
    have cv14 : mo v14 = mo v2 - mo v13 := by rw [ev14]; exact mS hmp v2 v13 (Nat.le_of_lt lv13)
    have cv15 : mo v15 = mo v2 + mo v13 := by rw [ev15]; exact mA hmp v2 v13
    have cv16 : mo v16 = mo bm * mo v9 := by rw [ev16]; exact mT hmp bm v9
    have cv17 : mo v17 = mo v10 + mo v1 := by rw [ev17]; exact mA hmp v10 v1
    have cv18 : mo v18 = mo v16 - mo v17 := by rw [ev18]; exact mS hmp v16 v17 (Nat.le_of_lt lv17)
    have cv19 : mo v19 = 3 * mo v18 := by rw [ev19]; exact mTri hmp v18
    have cv20 : mo v20 = 3 * mo v1 := by rw [ev20]; exact mTri hmp v1
    have cv21 : mo v21 = mo v20 - mo v10 := by rw [ev21]; exact mS hmp v20 v10 (Nat.le_of_lt lv10)
    have cv22 : mo v22 = mo v5 * mo v15 := by rw [ev22]; exact mT hmp v5 v15
    have cv23 : mo v23 = mo v7 * mo v19 := by rw [ev23]; exact mT hmp v7 v19
    have cv24 : mo v24 = mo v22 - mo v23 := by rw [ev24]; exact mS hmp v22 v23 (Nat.le_of_lt lv23)
    have cv25 : mo v25 = mo v15 * mo v14 := by rw [ev25]; exact mT hmp v15 v14
    have cv26 : mo v26 = mo v21 * mo v19 := by rw [ev26]; exact mT hmp v21 v19
    have cv27 : mo v27 = mo v25 + mo v26 := by rw [ev27]; exact mA hmp v25 v26
    have cv28 : mo v28 = mo v7 * mo v14 := by rw [ev28]; exact mT hmp v7 v14
    have cv29 : mo v29 = mo v5 * mo v21 := by rw [ev29]; exact mT hmp v5 v21
    have cv30 : mo v30 = mo v28 + mo v29 := by rw [ev30]; exact mA hmp v28 v29
    rw [hbm] at cv11 cv16
    have k := Ec.complete hP hQ oP oQ cv1 cv2 cv3 (show mo v5 = _ by rw [cv5, cv4]) (show mo v7 = _ by rw [cv7, cv6]) (show mo v9 = _ by rw [cv9, cv8]) cv10 (show mo v13 = _ by rw [cv13, cv12, cv11]) cv14 cv15 (show mo v19 = _ by rw [cv19, cv18, cv16, cv17]) (show mo v21 = _ by rw [cv21, cv20])
    rw [cv24, cv22, cv23, cv27, cv25, cv26, cv30, cv28, cv29]
    exact k
  obtain ⟨f, hG, hM, hL⟩ := hI
  have kM := fun W (h : Below w.heap.size w W) => hM.after h
  have kI := fun W (h : Below w.heap.size w W) => (⟨f, hG.after h, hM.after h, hL.after h⟩ : IsCrv m bm W g)
  have kv1 := fun W (h : Below w.heap.size w W) => mtimes_any X1 X2 m f W (kM W h) lX1 lX2
  rw [← ev1] at kv1
  have kv2 := fun W (h : Below w.heap.size w W) => mtimes_any Y1 Y2 m f W (kM W h) lY1 lY2
  rw [← ev2] at kv2
  have kv3 := fun W (h : Below w.heap.size w W) => mtimes_any Z1 Z2 m f W (kM W h) lZ1 lZ2
  rw [← ev3] at kv3
  have kv4 := fun W (h : Below w.heap.size w W) => madd_any v1 v2 m f W (kM W h) lv1 lv2
  rw [← ev4] at kv4
  have kv5 := fun W (h : Below w.heap.size w W) => crossed_any X1 Y1 X2 Y2 v4 m bm g W (kI W h) lX1 lY1 lX2 lY2 lv4
  rw [← ev5] at kv5
  have kv6 := fun W (h : Below w.heap.size w W) => madd_any v2 v3 m f W (kM W h) lv2 lv3
  rw [← ev6] at kv6
  have kv7 := fun W (h : Below w.heap.size w W) => crossed_any Y1 Z1 Y2 Z2 v6 m bm g W (kI W h) lY1 lZ1 lY2 lZ2 lv6
  rw [← ev7] at kv7
  have kv8 := fun W (h : Below w.heap.size w W) => madd_any v1 v3 m f W (kM W h) lv1 lv3
  rw [← ev8] at kv8
  have kv9 := fun W (h : Below w.heap.size w W) => crossed_any X1 Z1 X2 Z2 v8 m bm g W (kI W h) lX1 lZ1 lX2 lZ2 lv8
  rw [← ev9] at kv9
  have kv10 := fun W (h : Below w.heap.size w W) => triple_any v3 m bm g W (kI W h) lv3
  rw [← ev10] at kv10
  have kv11 := fun W (h : Below w.heap.size w W) => mtimes_any bm v3 m f W (kM W h) lbm lv3
  rw [← ev11] at kv11
  have kv12 := fun W (h : Below w.heap.size w W) => msub_any v9 v11 m f W (kM W h) lv9 lv11
  rw [← ev12] at kv12
  have kv13 := fun W (h : Below w.heap.size w W) => triple_any v12 m bm g W (kI W h) lv12
  rw [← ev13] at kv13
  have kv14 := fun W (h : Below w.heap.size w W) => msub_any v2 v13 m f W (kM W h) lv2 lv13
  rw [← ev14] at kv14
  have kv15 := fun W (h : Below w.heap.size w W) => madd_any v2 v13 m f W (kM W h) lv2 lv13
  rw [← ev15] at kv15
  have kv16 := fun W (h : Below w.heap.size w W) => mtimes_any bm v9 m f W (kM W h) lbm lv9
  rw [← ev16] at kv16
  have kv17 := fun W (h : Below w.heap.size w W) => madd_any v10 v1 m f W (kM W h) lv10 lv1
  rw [← ev17] at kv17
  have kv18 := fun W (h : Below w.heap.size w W) => msub_any v16 v17 m f W (kM W h) lv16 lv17
  rw [← ev18] at kv18
  have kv19 := fun W (h : Below w.heap.size w W) => triple_any v18 m bm g W (kI W h) lv18
  rw [← ev19] at kv19
  have kv20 := fun W (h : Below w.heap.size w W) => triple_any v1 m bm g W (kI W h) lv1
  rw [← ev20] at kv20
  have kv21 := fun W (h : Below w.heap.size w W) => msub_any v20 v10 m f W (kM W h) lv20 lv10
  rw [← ev21] at kv21
  have kv22 := fun W (h : Below w.heap.size w W) => mtimes_any v5 v15 m f W (kM W h) lv5 lv15
  rw [← ev22] at kv22
  have kv23 := fun W (h : Below w.heap.size w W) => mtimes_any v7 v19 m f W (kM W h) lv7 lv19
  rw [← ev23] at kv23
  have kv24 := fun W (h : Below w.heap.size w W) => msub_any v22 v23 m f W (kM W h) lv22 lv23
  rw [← ev24] at kv24
  have kv25 := fun W (h : Below w.heap.size w W) => mtimes_any v15 v14 m f W (kM W h) lv15 lv14
  rw [← ev25] at kv25
  have kv26 := fun W (h : Below w.heap.size w W) => mtimes_any v21 v19 m f W (kM W h) lv21 lv19
  rw [← ev26] at kv26
  have kv27 := fun W (h : Below w.heap.size w W) => madd_any v25 v26 m f W (kM W h) lv25 lv26
  rw [← ev27] at kv27
  have kv28 := fun W (h : Below w.heap.size w W) => mtimes_any v7 v14 m f W (kM W h) lv7 lv14
  rw [← ev28] at kv28
  have kv29 := fun W (h : Below w.heap.size w W) => mtimes_any v5 v21 m f W (kM W h) lv5 lv21
  rw [← ev29] at kv29
  have kv30 := fun W (h : Below w.heap.size w W) => madd_any v28 v29 m f W (kM W h) lv28 lv29
  rw [← ev30] at kv30
  clear m0 kI kM hM hL hmp hbm lX1 lY1 lZ1 lX2 lY2 lZ2 lbm ev1 lv1 ev2 lv2 ev3 lv3 ev4 lv4 ev5 lv5 ev6 lv6 ev7 lv7 ev8 lv8 ev9 lv9 ev10 lv10 ev11 lv11 ev12 lv12 ev13 lv13 ev14 lv14 ev15 lv15 ev16 lv16 ev17 lv17 ev18 lv18 ev19 lv19 ev20 lv20 ev21 lv21 ev22 lv22 ev23 lv23 ev24 lv24 ev25 lv25 ev26 lv26 ev27 lv27 ev28 lv28 ev29 lv29 ev30 lv30
  have n0 := nums_ne 0
  have hA : Has (((w.alloc (.cells (pjC X1 Y1 Z1) 76)).alloc (.cells (pjC X2 Y2 Z2) 76)).alloc (.cells (pjC 0 0 0) 76)) (w.heap.size) 76 (pjC X1 Y1 Z1) := (((Has.new w _ _).alloc _).alloc _)
  have hB : Has (((w.alloc (.cells (pjC X1 Y1 Z1) 76)).alloc (.cells (pjC X2 Y2 Z2) 76)).alloc (.cells (pjC 0 0 0) 76)) (w.heap.size + 1) 76 (pjC X2 Y2 Z2) := ((Has.new' (by simp)).alloc _)
  have hR : Has (((w.alloc (.cells (pjC X1 Y1 Z1) 76)).alloc (.cells (pjC X2 Y2 Z2) 76)).alloc (.cells (pjC 0 0 0) 76)) (w.heap.size + 1 + 1) 76 (pjC 0 0 0) := (Has.new' (by simp))
  have hb0 : Below w.heap.size w (((w.alloc (.cells (pjC X1 Y1 Z1) 76)).alloc (.cells (pjC X2 Y2 Z2) 76)).alloc (.cells (pjC 0 0 0) 76)) := ((((Below.refl _ _).alloc (Nat.le_refl _) _).alloc (by simp <;> omega) _).alloc (by simp <;> omega) _)
  replace hG := hG.after hb0
  go_enter Tryd.func40, Tryd.ntmps40
  have cell0 := crv_f hG
  go_wp2_with fail
  clear cell0
  generalize ((w.alloc _).alloc _).alloc _ = U0 at *
  have ohR_1 := hR.lt
  have ohA_1 := hA.lt
  have ohB_1 := hB.lt
  have ohG_1 := hG.lt
  refine region_facts 21 [] [.val (.pointer (some ⟨f, 0, none⟩)), .val (.pointer (some ⟨w.heap.size, 0, none⟩)), .val (.agg (nums (X1))), .val (.pointer (some ⟨w.heap.size + 1, 0, none⟩)), .val (.agg (nums (X2))), .val (.agg (nums (v1))), .val (.pointer (some ⟨f, 0, none⟩)), .val (.pointer (some ⟨w.heap.size, 8, none⟩)), .val (.agg (nums (Y1))), .val (.pointer (some ⟨w.heap.size + 1, 8, none⟩)), .val (.agg (nums (Y2))), .val (.agg (nums (v2))), .val (.pointer (some ⟨f, 0, none⟩)), .val (.pointer (some ⟨w.heap.size, 16, none⟩)), .val (.agg (nums (Z1))), .val (.pointer (some ⟨w.heap.size + 1, 16, none⟩)), .val (.agg (nums (Z2))), .val (.agg (nums (v3))), .new 24 (nums 0), .new 24 (nums 0), .new 24 (nums 0)]
    (by kernel_rfl) (by kernel_rfl) (fun _ _ _ _ _ h => h) ?_ ?_
  · simp only [List.take_succ_cons, List.take_zero, StepsOK]
    refine ⟨?_, ?_, ?_, ?_, ?_, ?_, ?_, ?_, ?_, ?_, ?_, ?_, ?_, ?_, ?_, ?_, ?_, ?_, ?_, ?_, ?_, trivial⟩
    · intro v w' hb hf K hKt
      simp only [putAll, Act.put, List.setIfInBounds_toArray, List.set_cons_zero, List.set_cons_succ, Nat.zero_add, Nat.reduceAdd] at hKt ⊢
      go_simp
      exact hKt _ (Below.refl _ _)
    · intro v w' hb hf K hKt
      simp only [putAll, Act.put, List.setIfInBounds_toArray, List.set_cons_zero, List.set_cons_succ, Nat.zero_add, Nat.reduceAdd] at hKt ⊢
      go_simp
      exact hKt _ (Below.refl _ _)
    · intro v w' hb hf K hKt
      have f1 : v 1 = _ := hf ⟨1, .data⟩ (by simp) rfl
      simp only [putAll, Act.put, List.setIfInBounds_toArray, List.set_cons_zero, List.set_cons_succ, Nat.zero_add, Nat.reduceAdd] at hKt ⊢
      rw [f1] at hKt ⊢
      exact wp_load_num _ rfl (w.heap.size) 0 rfl X1 (pj_x ((hA.after hb))) (hKt _ (Below.refl _ _))
    · intro v w' hb hf K hKt
      simp only [putAll, Act.put, List.setIfInBounds_toArray, List.set_cons_zero, List.set_cons_succ, Nat.zero_add, Nat.reduceAdd] at hKt ⊢
      go_simp
      exact hKt _ (Below.refl _ _)
    · intro v w' hb hf K hKt
      have f3 : v 3 = _ := hf ⟨3, .data⟩ (by simp) rfl
      simp only [putAll, Act.put, List.setIfInBounds_toArray, List.set_cons_zero, List.set_cons_succ, Nat.zero_add, Nat.reduceAdd] at hKt ⊢
      rw [f3] at hKt ⊢
      exact wp_load_num _ rfl (w.heap.size + 1) 0 rfl X2 (pj_x ((hB.after hb))) (hKt _ (Below.refl _ _))
    · intro v w' hb hf K hKt
      have f0 : v 0 = _ := hf ⟨0, .data⟩ (by simp) rfl
      have f2 : v 2 = _ := hf ⟨2, .data⟩ (by simp) rfl
      have f4 : v 4 = _ := hf ⟨4, .data⟩ (by simp) rfl
      simp only [putAll, Act.put, List.setIfInBounds_toArray, List.set_cons_zero, List.set_cons_succ, Nat.zero_add, Nat.reduceAdd] at hKt ⊢
      rw [f0, f2, f4] at hKt ⊢
      go_simp
      refine (kv1 w' (below_trans hb0 hb)).mono ?_
      rintro e w'' ⟨rfl, hb2⟩
      exact hKt _ hb2
    · intro v w' hb hf K hKt
      simp only [putAll, Act.put, List.setIfInBounds_toArray, List.set_cons_zero, List.set_cons_succ, Nat.zero_add, Nat.reduceAdd] at hKt ⊢
      go_simp
      exact hKt _ (Below.refl _ _)
    · intro v w' hb hf K hKt
      simp only [putAll, Act.put, List.setIfInBounds_toArray, List.set_cons_zero, List.set_cons_succ, Nat.zero_add, Nat.reduceAdd] at hKt ⊢
      go_simp
      exact hKt _ (Below.refl _ _)
    · intro v w' hb hf K hKt
      have f7 : v 7 = _ := hf ⟨7, .data⟩ (by simp) rfl
      simp only [putAll, Act.put, List.setIfInBounds_toArray, List.set_cons_zero, List.set_cons_succ, Nat.zero_add, Nat.reduceAdd] at hKt ⊢
      rw [f7] at hKt ⊢
      exact wp_load_num _ rfl (w.heap.size) 8 rfl Y1 (pj_y ((hA.after hb))) (hKt _ (Below.refl _ _))
    · intro v w' hb hf K hKt
      simp only [putAll, Act.put, List.setIfInBounds_toArray, List.set_cons_zero, List.set_cons_succ, Nat.zero_add, Nat.reduceAdd] at hKt ⊢
      go_simp
      exact hKt _ (Below.refl _ _)
    · intro v w' hb hf K hKt
      have f9 : v 9 = _ := hf ⟨9, .data⟩ (by simp) rfl
      simp only [putAll, Act.put, List.setIfInBounds_toArray, List.set_cons_zero, List.set_cons_succ, Nat.zero_add, Nat.reduceAdd] at hKt ⊢
      rw [f9] at hKt ⊢
      exact wp_load_num _ rfl (w.heap.size + 1) 8 rfl Y2 (pj_y ((hB.after hb))) (hKt _ (Below.refl _ _))
    · intro v w' hb hf K hKt
      have f6 : v 6 = _ := hf ⟨6, .data⟩ (by simp) rfl
      have f8 : v 8 = _ := hf ⟨8, .data⟩ (by simp) rfl
      have f10 : v 10 = _ := hf ⟨10, .data⟩ (by simp) rfl
      simp only [putAll, Act.put, List.setIfInBounds_toArray, List.set_cons_zero, List.set_cons_succ, Nat.zero_add, Nat.reduceAdd] at hKt ⊢
      rw [f6, f8, f10] at hKt ⊢
      go_simp
      refine (kv2 w' (below_trans hb0 hb)).mono ?_
      rintro e w'' ⟨rfl, hb2⟩
      exact hKt _ hb2
    · intro v w' hb hf K hKt
      simp only [putAll, Act.put, List.setIfInBounds_toArray, List.set_cons_zero, List.set_cons_succ, Nat.zero_add, Nat.reduceAdd] at hKt ⊢
      go_simp
      exact hKt _ (Below.refl _ _)
    · intro v w' hb hf K hKt
      simp only [putAll, Act.put, List.setIfInBounds_toArray, List.set_cons_zero, List.set_cons_succ, Nat.zero_add, Nat.reduceAdd] at hKt ⊢
      go_simp
      exact hKt _ (Below.refl _ _)
    · intro v w' hb hf K hKt
      have f13 : v 13 = _ := hf ⟨13, .data⟩ (by simp) rfl
      simp only [putAll, Act.put, List.setIfInBounds_toArray, List.set_cons_zero, List.set_cons_succ, Nat.zero_add, Nat.reduceAdd] at hKt ⊢
      rw [f13] at hKt ⊢
      exact wp_load_num _ rfl (w.heap.size) 16 rfl Z1 (pj_z ((hA.after hb))) (hKt _ (Below.refl _ _))
    · intro v w' hb hf K hKt
      simp only [putAll, Act.put, List.setIfInBounds_toArray, List.set_cons_zero, List.set_cons_succ, Nat.zero_add, Nat.reduceAdd] at hKt ⊢
      go_simp
      exact hKt _ (Below.refl _ _)
    · intro v w' hb hf K hKt
      have f15 : v 15 = _ := hf ⟨15, .data⟩ (by simp) rfl
      simp only [putAll, Act.put, List.setIfInBounds_toArray, List.set_cons_zero, List.set_cons_succ, Nat.zero_add, Nat.reduceAdd] at hKt ⊢
      rw [f15] at hKt ⊢
      exact wp_load_num _ rfl (w.heap.size + 1) 16 rfl Z2 (pj_z ((hB.after hb))) (hKt _ (Below.refl _ _))
    · intro v w' hb hf K hKt
      have f12 : v 12 = _ := hf ⟨12, .data⟩ (by simp) rfl
      have f14 : v 14 = _ := hf ⟨14, .data⟩ (by simp) rfl
      have f16 : v 16 = _ := hf ⟨16, .data⟩ (by simp) rfl
      simp only [putAll, Act.put, List.setIfInBounds_toArray, List.set_cons_zero, List.set_cons_succ, Nat.zero_add, Nat.reduceAdd] at hKt ⊢
      rw [f12, f14, f16] at hKt ⊢
      go_simp
      refine (kv3 w' (below_trans hb0 hb)).mono ?_
      rintro e w'' ⟨rfl, hb2⟩
      exact hKt _ hb2
    · exact ⟨rfl, rfl, zeroVN⟩
    · exact ⟨rfl, rfl, zeroVN⟩
    · exact ⟨rfl, rfl, zeroVN⟩
  intro v u1 hb hF hD
  have f0 : v 0 = _ := hF 0 (by decide)
  have f1 : v 1 = _ := hF 1 (by decide)
  have f2 : v 2 = _ := hF 2 (by decide)
  have f3 : v 3 = _ := hF 3 (by decide)
  have f4 : v 4 = _ := hF 4 (by decide)
  have f5 : v 5 = _ := hF 5 (by decide)
  have f6 : v 6 = _ := hF 6 (by decide)
  have f7 : v 7 = _ := hF 7 (by decide)
  have f8 : v 8 = _ := hF 8 (by decide)
  have f9 : v 9 = _ := hF 9 (by decide)
  have f10 : v 10 = _ := hF 10 (by decide)
  have f11 : v 11 = _ := hF 11 (by decide)
  have f12 : v 12 = _ := hF 12 (by decide)
  have f13 : v 13 = _ := hF 13 (by decide)
  have f14 : v 14 = _ := hF 14 (by decide)
  have f15 : v 15 = _ := hF 15 (by decide)
  have f16 : v 16 = _ := hF 16 (by decide)
  have f17 : v 17 = _ := hF 17 (by decide)
  obtain ⟨g1_18, f18, hg18, hl18, hz18⟩ := hF 18 (by decide)
  replace hz18 : Has u1 g1_18 24 (nums 0) := hz18
  obtain ⟨g1_19, f19, hg19, hl19, hz19⟩ := hF 19 (by decide)
  replace hz19 : Has u1 g1_19 24 (nums 0) := hz19
  obtain ⟨g1_20, f20, hg20, hl20, hz20⟩ := hF 20 (by decide)
  replace hz20 : Has u1 g1_20 24 (nums 0) := hz20
  have hne18_19 : g1_18 ≠ g1_19 := fun h => hD 18 19 (by decide) (by decide) (by decide) rfl rfl (by rw [f18, f19, h])
  have hne18_20 : g1_18 ≠ g1_20 := fun h => hD 18 20 (by decide) (by decide) (by decide) rfl rfl (by rw [f18, f20, h])
  have hne19_20 : g1_19 ≠ g1_20 := fun h => hD 19 20 (by decide) (by decide) (by decide) rfl rfl (by rw [f19, f20, h])
  simp only [List.take_succ_cons, List.take_zero, List.drop_succ_cons, List.drop_zero, putAll, Act.put, List.setIfInBounds_toArray, List.set_cons_zero, List.set_cons_succ, Nat.zero_add, Nat.reduceAdd]
  rw [f0, f1, f2, f3, f4, f5, f6, f7, f8, f9, f10, f11, f12, f13, f14, f15, f16, f17, f18, f19, f20]
  clear hF hD f0 f1 f2 f3 f4 f5 f6 f7 f8 f9 f10 f11 f12 f13 f14 f15 f16 f17 f18 f19 f20
  have hs18 := hz18
  have hs19 := (hz19).farRow (k := g1_18) (by omega) (nums (v1))
  have hs20 := ((hz20).farRow (k := g1_18) (by omega) (nums (v1))).farRow (k := g1_19) (by omega) (nums (v2))
  have hBW := below_setRow (below_setRow (below_setRow (hb) (g := g1_18) hg18 (nums (v1))) (g := g1_19) hg19 (nums (v2))) (g := g1_20) hg20 (nums (v3))
  have hv_v1 := (((hz18).setRow (nums (v1))).farRow (k := g1_19) (by omega) (nums (v2))).farRow (k := g1_20) (by omega) (nums (v3))
  have hv_v2 := (((hz19).farRow (k := g1_18) (by omega) (nums (v1))).setRow (nums (v2))).farRow (k := g1_20) (by omega) (nums (v3))
  have hv_v3 := (((hz20).farRow (k := g1_18) (by omega) (nums (v1))).farRow (k := g1_19) (by omega) (nums (v2))).setRow (nums (v3))
  replace hR := hR.after hBW
  replace hA := hA.after hBW
  replace hB := hB.after hBW
  replace hG := hG.after hBW
  replace hb0 := below_trans hb0 hBW
  go_wp2_with (first | refine wpList_store_row rfl 24 _ _ rfl g1_18 _ rfl rfl 24 (nums 0) hs18 (infoNum _) (by simp only [nums_size]) (tab_oneCell _ _ fun _ => rfl) ?_ | refine wpList_store_row rfl 24 _ _ rfl g1_19 _ rfl rfl 24 (nums 0) hs19 (infoNum _) (by simp only [nums_size]) (tab_oneCell _ _ fun _ => rfl) ?_ | (refine wpList_store_row rfl 24 _ _ rfl g1_20 _ rfl rfl 24 (nums 0) hs20 (infoNum _) (by simp only [nums_size]) (tab_oneCell _ _ fun _ => rfl) ?_; generalize hWW : World.setRow _ g1_20 _ = U1 at *; clear hWW))
  clear hBW hb hs18 hz18 hl18 hs19 hz19 hl19 hs20 hz20 hl20
  have ohv_v1_2 := hv_v1.lt
  have ohv_v2_2 := hv_v2.lt
  have ohv_v3_2 := hv_v3.lt
  have ohR_2 := hR.lt
  have ohA_2 := hA.lt
  have ohB_2 := hB.lt
  have ohG_2 := hG.lt
  refine region_facts 15 [] [.val (.pointer (some ⟨g, 0, none⟩)), .val (.pointer (some ⟨w.heap.size, 0, none⟩)), .val (.agg (nums (X1))), .val (.pointer (some ⟨w.heap.size, 8, none⟩)), .val (.agg (nums (Y1))), .val (.pointer (some ⟨w.heap.size + 1, 0, none⟩)), .val (.agg (nums (X2))), .val (.pointer (some ⟨w.heap.size + 1, 8, none⟩)), .val (.agg (nums (Y2))), .val (.pointer (some ⟨f, 0, none⟩)), .val (.agg (nums (v1))), .val (.agg (nums (v2))), .val (.agg (nums (v4))), .val (.agg (nums (v5))), .new 24 (nums 0)]
    (by kernel_rfl) (by kernel_rfl) (fun _ _ _ _ _ h => h) ?_ ?_
  · simp only [List.take_succ_cons, List.take_zero, StepsOK]
    refine ⟨?_, ?_, ?_, ?_, ?_, ?_, ?_, ?_, ?_, ?_, ?_, ?_, ?_, ?_, ?_, trivial⟩
    · intro v w' hb hf K hKt
      simp only [putAll, Act.put, List.setIfInBounds_toArray, List.set_cons_zero, List.set_cons_succ, Nat.zero_add, Nat.reduceAdd] at hKt ⊢
      go_simp
      exact hKt _ (Below.refl _ _)
    · intro v w' hb hf K hKt
      simp only [putAll, Act.put, List.setIfInBounds_toArray, List.set_cons_zero, List.set_cons_succ, Nat.zero_add, Nat.reduceAdd] at hKt ⊢
      go_simp
      exact hKt _ (Below.refl _ _)
    · intro v w' hb hf K hKt
      have f1 : v 1 = _ := hf ⟨1, .data⟩ (by simp) rfl
      simp only [putAll, Act.put, List.setIfInBounds_toArray, List.set_cons_zero, List.set_cons_succ, Nat.zero_add, Nat.reduceAdd] at hKt ⊢
      rw [f1] at hKt ⊢
      exact wp_load_num _ rfl (w.heap.size) 0 rfl X1 (pj_x ((hA.after hb))) (hKt _ (Below.refl _ _))
    · intro v w' hb hf K hKt
      simp only [putAll, Act.put, List.setIfInBounds_toArray, List.set_cons_zero, List.set_cons_succ, Nat.zero_add, Nat.reduceAdd] at hKt ⊢
      go_simp
      exact hKt _ (Below.refl _ _)
    · intro v w' hb hf K hKt
      have f3 : v 3 = _ := hf ⟨3, .data⟩ (by simp) rfl
      simp only [putAll, Act.put, List.setIfInBounds_toArray, List.set_cons_zero, List.set_cons_succ, Nat.zero_add, Nat.reduceAdd] at hKt ⊢
      rw [f3] at hKt ⊢
      exact wp_load_num _ rfl (w.heap.size) 8 rfl Y1 (pj_y ((hA.after hb))) (hKt _ (Below.refl _ _))
    · intro v w' hb hf K hKt
      simp only [putAll, Act.put, List.setIfInBounds_toArray, List.set_cons_zero, List.set_cons_succ, Nat.zero_add, Nat.reduceAdd] at hKt ⊢
      go_simp
      exact hKt _ (Below.refl _ _)
    · intro v w' hb hf K hKt
      have f5 : v 5 = _ := hf ⟨5, .data⟩ (by simp) rfl
      simp only [putAll, Act.put, List.setIfInBounds_toArray, List.set_cons_zero, List.set_cons_succ, Nat.zero_add, Nat.reduceAdd] at hKt ⊢
      rw [f5] at hKt ⊢
      exact wp_load_num _ rfl (w.heap.size + 1) 0 rfl X2 (pj_x ((hB.after hb))) (hKt _ (Below.refl _ _))
    · intro v w' hb hf K hKt
      simp only [putAll, Act.put, List.setIfInBounds_toArray, List.set_cons_zero, List.set_cons_succ, Nat.zero_add, Nat.reduceAdd] at hKt ⊢
      go_simp
      exact hKt _ (Below.refl _ _)
    · intro v w' hb hf K hKt
      have f7 : v 7 = _ := hf ⟨7, .data⟩ (by simp) rfl
      simp only [putAll, Act.put, List.setIfInBounds_toArray, List.set_cons_zero, List.set_cons_succ, Nat.zero_add, Nat.reduceAdd] at hKt ⊢
      rw [f7] at hKt ⊢
      exact wp_load_num _ rfl (w.heap.size + 1) 8 rfl Y2 (pj_y ((hB.after hb))) (hKt _ (Below.refl _ _))
    · intro v w' hb hf K hKt
      simp only [putAll, Act.put, List.setIfInBounds_toArray, List.set_cons_zero, List.set_cons_succ, Nat.zero_add, Nat.reduceAdd] at hKt ⊢
      go_simp
      exact hKt _ (Below.refl _ _)
    · intro v w' hb hf K hKt
      simp only [putAll, Act.put, List.setIfInBounds_toArray, List.set_cons_zero, List.set_cons_succ, Nat.zero_add, Nat.reduceAdd] at hKt ⊢
      exact wp_load_row 24 _ rfl (g1_18) rfl 24 _ (0, 0) _ (hv_v1.after hb) Tryd.underlying24 rfl (infoNum _) (hKt _ (Below.refl _ _))
    · intro v w' hb hf K hKt
      simp only [putAll, Act.put, List.setIfInBounds_toArray, List.set_cons_zero, List.set_cons_succ, Nat.zero_add, Nat.reduceAdd] at hKt ⊢
      exact wp_load_row 24 _ rfl (g1_19) rfl 24 _ (0, 0) _ (hv_v2.after hb) Tryd.underlying24 rfl (infoNum _) (hKt _ (Below.refl _ _))
    · intro v w' hb hf K hKt
      have f9 : v 9 = _ := hf ⟨9, .data⟩ (by simp) rfl
      have f10 : v 10 = _ := hf ⟨10, .data⟩ (by simp) rfl
      have f11 : v 11 = _ := hf ⟨11, .data⟩ (by simp) rfl
      simp only [putAll, Act.put, List.setIfInBounds_toArray, List.set_cons_zero, List.set_cons_succ, Nat.zero_add, Nat.reduceAdd] at hKt ⊢
      rw [f9, f10, f11] at hKt ⊢
      go_simp
      refine (kv4 w' (below_trans hb0 hb)).mono ?_
      rintro e w'' ⟨rfl, hb2⟩
      exact hKt _ hb2
    · intro v w' hb hf K hKt
      have f0 : v 0 = _ := hf ⟨0, .data⟩ (by simp) rfl
      have f2 : v 2 = _ := hf ⟨2, .data⟩ (by simp) rfl
      have f4 : v 4 = _ := hf ⟨4, .data⟩ (by simp) rfl
      have f6 : v 6 = _ := hf ⟨6, .data⟩ (by simp) rfl
      have f8 : v 8 = _ := hf ⟨8, .data⟩ (by simp) rfl
      have f12 : v 12 = _ := hf ⟨12, .data⟩ (by simp) rfl
      simp only [putAll, Act.put, List.setIfInBounds_toArray, List.set_cons_zero, List.set_cons_succ, Nat.zero_add, Nat.reduceAdd] at hKt ⊢
      rw [f0, f2, f4, f6, f8, f12] at hKt ⊢
      go_simp
      refine (kv5 w' (below_trans hb0 hb)).mono ?_
      rintro e w'' ⟨rfl, hb2⟩
      exact hKt _ hb2
    · exact ⟨rfl, rfl, zeroVN⟩
  intro v u2 hb hF hD
  have f0 : v 0 = _ := hF 0 (by decide)
  have f1 : v 1 = _ := hF 1 (by decide)
  have f2 : v 2 = _ := hF 2 (by decide)
  have f3 : v 3 = _ := hF 3 (by decide)
  have f4 : v 4 = _ := hF 4 (by decide)
  have f5 : v 5 = _ := hF 5 (by decide)
  have f6 : v 6 = _ := hF 6 (by decide)
  have f7 : v 7 = _ := hF 7 (by decide)
  have f8 : v 8 = _ := hF 8 (by decide)
  have f9 : v 9 = _ := hF 9 (by decide)
  have f10 : v 10 = _ := hF 10 (by decide)
  have f11 : v 11 = _ := hF 11 (by decide)
  have f12 : v 12 = _ := hF 12 (by decide)
  have f13 : v 13 = _ := hF 13 (by decide)
  obtain ⟨g2_14, f14, hg14, hl14, hz14⟩ := hF 14 (by decide)
  replace hz14 : Has u2 g2_14 24 (nums 0) := hz14
  simp only [List.take_succ_cons, List.take_zero, List.drop_succ_cons, List.drop_zero, putAll, Act.put, List.setIfInBounds_toArray, List.set_cons_zero, List.set_cons_succ, Nat.zero_add, Nat.reduceAdd]
  rw [f0, f1, f2, f3, f4, f5, f6, f7, f8, f9, f10, f11, f12, f13, f14]
  clear hF hD f0 f1 f2 f3 f4 f5 f6 f7 f8 f9 f10 f11 f12 f13 f14
  have hs14 := hz14
  have hBW := below_setRow (hb) (g := g2_14) hg14 (nums (v5))
  have hv_v5 := (hz14).setRow (nums (v5))
  replace hv_v1 := hv_v1.after hBW
  replace hv_v2 := hv_v2.after hBW
  replace hv_v3 := hv_v3.after hBW
  replace hR := hR.after hBW
  replace hA := hA.after hBW
  replace hB := hB.after hBW
  replace hG := hG.after hBW
  replace hb0 := below_trans hb0 hBW
  go_wp2_with (first | (refine wpList_store_row rfl 24 _ _ rfl g2_14 _ rfl rfl 24 (nums 0) hs14 (infoNum _) (by simp only [nums_size]) (tab_oneCell _ _ fun _ => rfl) ?_; generalize hWW : World.setRow _ g2_14 _ = U2 at *; clear hWW))
  clear hBW hb hs14 hz14 hl14
  have ohv_v1_3 := hv_v1.lt
  have ohv_v2_3 := hv_v2.lt
  have ohv_v3_3 := hv_v3.lt
  have ohv_v5_3 := hv_v5.lt
  have ohR_3 := hR.lt
  have ohA_3 := hA.lt
  have ohB_3 := hB.lt
  have ohG_3 := hG.lt
  refine region_facts 15 [] [.val (.pointer (some ⟨g, 0, none⟩)), .val (.pointer (some ⟨w.heap.size, 8, none⟩)), .val (.agg (nums (Y1))), .val (.pointer (some ⟨w.heap.size, 16, none⟩)), .val (.agg (nums (Z1))), .val (.pointer (some ⟨w.heap.size + 1, 8, none⟩)), .val (.agg (nums (Y2))), .val (.pointer (some ⟨w.heap.size + 1, 16, none⟩)), .val (.agg (nums (Z2))), .val (.pointer (some ⟨f, 0, none⟩)), .val (.agg (nums (v2))), .val (.agg (nums (v3))), .val (.agg (nums (v6))), .val (.agg (nums (v7))), .new 24 (nums 0)]
    (by kernel_rfl) (by kernel_rfl) (fun _ _ _ _ _ h => h) ?_ ?_
  · simp only [List.take_succ_cons, List.take_zero, StepsOK]
    refine ⟨?_, ?_, ?_, ?_, ?_, ?_, ?_, ?_, ?_, ?_, ?_, ?_, ?_, ?_, ?_, trivial⟩
    · intro v w' hb hf K hKt
      simp only [putAll, Act.put, List.setIfInBounds_toArray, List.set_cons_zero, List.set_cons_succ, Nat.zero_add, Nat.reduceAdd] at hKt ⊢
      go_simp
      exact hKt _ (Below.refl _ _)
    · intro v w' hb hf K hKt
      simp only [putAll, Act.put, List.setIfInBounds_toArray, List.set_cons_zero, List.set_cons_succ, Nat.zero_add, Nat.reduceAdd] at hKt ⊢
      go_simp
      exact hKt _ (Below.refl _ _)
    · intro v w' hb hf K hKt
      have f1 : v 1 = _ := hf ⟨1, .data⟩ (by simp) rfl
      simp only [putAll, Act.put, List.setIfInBounds_toArray, List.set_cons_zero, List.set_cons_succ, Nat.zero_add, Nat.reduceAdd] at hKt ⊢
      rw [f1] at hKt ⊢
      exact wp_load_num _ rfl (w.heap.size) 8 rfl Y1 (pj_y ((hA.after hb))) (hKt _ (Below.refl _ _))
    · intro v w' hb hf K hKt
      simp only [putAll, Act.put, List.setIfInBounds_toArray, List.set_cons_zero, List.set_cons_succ, Nat.zero_add, Nat.reduceAdd] at hKt ⊢
      go_simp
      exact hKt _ (Below.refl _ _)
    · intro v w' hb hf K hKt
      have f3 : v 3 = _ := hf ⟨3, .data⟩ (by simp) rfl
      simp only [putAll, Act.put, List.setIfInBounds_toArray, List.set_cons_zero, List.set_cons_succ, Nat.zero_add, Nat.reduceAdd] at hKt ⊢
      rw [f3] at hKt ⊢
      exact wp_load_num _ rfl (w.heap.size) 16 rfl Z1 (pj_z ((hA.after hb))) (hKt _ (Below.refl _ _))
    · intro v w' hb hf K hKt
      simp only [putAll, Act.put, List.setIfInBounds_toArray, List.set_cons_zero, List.set_cons_succ, Nat.zero_add, Nat.reduceAdd] at hKt ⊢
      go_simp
      exact hKt _ (Below.refl _ _)
    · intro v w' hb hf K hKt
      have f5 : v 5 = _ := hf ⟨5, .data⟩ (by simp) rfl
      simp only [putAll, Act.put, List.setIfInBounds_toArray, List.set_cons_zero, List.set_cons_succ, Nat.zero_add, Nat.reduceAdd] at hKt ⊢
      rw [f5] at hKt ⊢
      exact wp_load_num _ rfl (w.heap.size + 1) 8 rfl Y2 (pj_y ((hB.after hb))) (hKt _ (Below.refl _ _))
    · intro v w' hb hf K hKt
      simp only [putAll, Act.put, List.setIfInBounds_toArray, List.set_cons_zero, List.set_cons_succ, Nat.zero_add, Nat.reduceAdd] at hKt ⊢
      go_simp
      exact hKt _ (Below.refl _ _)
    · intro v w' hb hf K hKt
      have f7 : v 7 = _ := hf ⟨7, .data⟩ (by simp) rfl
      simp only [putAll, Act.put, List.setIfInBounds_toArray, List.set_cons_zero, List.set_cons_succ, Nat.zero_add, Nat.reduceAdd] at hKt ⊢
      rw [f7] at hKt ⊢
      exact wp_load_num _ rfl (w.heap.size + 1) 16 rfl Z2 (pj_z ((hB.after hb))) (hKt _ (Below.refl _ _))
    · intro v w' hb hf K hKt
      simp only [putAll, Act.put, List.setIfInBounds_toArray, List.set_cons_zero, List.set_cons_succ, Nat.zero_add, Nat.reduceAdd] at hKt ⊢
      go_simp
      exact hKt _ (Below.refl _ _)
    · intro v w' hb hf K hKt
      simp only [putAll, Act.put, List.setIfInBounds_toArray, List.set_cons_zero, List.set_cons_succ, Nat.zero_add, Nat.reduceAdd] at hKt ⊢
      exact wp_load_row 24 _ rfl (g1_19) rfl 24 _ (0, 0) _ (hv_v2.after hb) Tryd.underlying24 rfl (infoNum _) (hKt _ (Below.refl _ _))
    · intro v w' hb hf K hKt
      simp only [putAll, Act.put, List.setIfInBounds_toArray, List.set_cons_zero, List.set_cons_succ, Nat.zero_add, Nat.reduceAdd] at hKt ⊢
      exact wp_load_row 24 _ rfl (g1_20) rfl 24 _ (0, 0) _ (hv_v3.after hb) Tryd.underlying24 rfl (infoNum _) (hKt _ (Below.refl _ _))
    · intro v w' hb hf K hKt
      have f9 : v 9 = _ := hf ⟨9, .data⟩ (by simp) rfl
      have f10 : v 10 = _ := hf ⟨10, .data⟩ (by simp) rfl
      have f11 : v 11 = _ := hf ⟨11, .data⟩ (by simp) rfl
      simp only [putAll, Act.put, List.setIfInBounds_toArray, List.set_cons_zero, List.set_cons_succ, Nat.zero_add, Nat.reduceAdd] at hKt ⊢
      rw [f9, f10, f11] at hKt ⊢
      go_simp
      refine (kv6 w' (below_trans hb0 hb)).mono ?_
      rintro e w'' ⟨rfl, hb2⟩
      exact hKt _ hb2
    · intro v w' hb hf K hKt
      have f0 : v 0 = _ := hf ⟨0, .data⟩ (by simp) rfl
      have f2 : v 2 = _ := hf ⟨2, .data⟩ (by simp) rfl
      have f4 : v 4 = _ := hf ⟨4, .data⟩ (by simp) rfl
      have f6 : v 6 = _ := hf ⟨6, .data⟩ (by simp) rfl
      have f8 : v 8 = _ := hf ⟨8, .data⟩ (by simp) rfl
      have f12 : v 12 = _ := hf ⟨12, .data⟩ (by simp) rfl
      simp only [putAll, Act.put, List.setIfInBounds_toArray, List.set_cons_zero, List.set_cons_succ, Nat.zero_add, Nat.reduceAdd] at hKt ⊢
      rw [f0, f2, f4, f6, f8, f12] at hKt ⊢
      go_simp
      refine (kv7 w' (below_trans hb0 hb)).mono ?_
      rintro e w'' ⟨rfl, hb2⟩
      exact hKt _ hb2
    · exact ⟨rfl, rfl, zeroVN⟩
  intro v u3 hb hF hD
  have f0 : v 0 = _ := hF 0 (by decide)
  have f1 : v 1 = _ := hF 1 (by decide)
  have f2 : v 2 = _ := hF 2 (by decide)
  have f3 : v 3 = _ := hF 3 (by decide)
  have f4 : v 4 = _ := hF 4 (by decide)
  have f5 : v 5 = _ := hF 5 (by decide)
  have f6 : v 6 = _ := hF 6 (by decide)
  have f7 : v 7 = _ := hF 7 (by decide)
  have f8 : v 8 = _ := hF 8 (by decide)
  have f9 : v 9 = _ := hF 9 (by decide)
  have f10 : v 10 = _ := hF 10 (by decide)
  have f11 : v 11 = _ := hF 11 (by decide)
  have f12 : v 12 = _ := hF 12 (by decide)
  have f13 : v 13 = _ := hF 13 (by decide)
  obtain ⟨g3_14, f14, hg14, hl14, hz14⟩ := hF 14 (by decide)
  replace hz14 : Has u3 g3_14 24 (nums 0) := hz14
  simp only [List.take_succ_cons, List.take_zero, List.drop_succ_cons, List.drop_zero, putAll, Act.put, List.setIfInBounds_toArray, List.set_cons_zero, List.set_cons_succ, Nat.zero_add, Nat.reduceAdd]
  rw [f0, f1, f2, f3, f4, f5, f6, f7, f8, f9, f10, f11, f12, f13, f14]
  clear hF hD f0 f1 f2 f3 f4 f5 f6 f7 f8 f9 f10 f11 f12 f13 f14
  have hs14 := hz14
  have hBW := below_setRow (hb) (g := g3_14) hg14 (nums (v7))
  have hv_v7 := (hz14).setRow (nums (v7))
  replace hv_v1 := hv_v1.after hBW
  replace hv_v2 := hv_v2.after hBW
  replace hv_v3 := hv_v3.after hBW
  replace hv_v5 := hv_v5.after hBW
  replace hR := hR.after hBW
  replace hA := hA.after hBW
  replace hB := hB.after hBW
  replace hG := hG.after hBW
  replace hb0 := below_trans hb0 hBW
  go_wp2_with (first | (refine wpList_store_row rfl 24 _ _ rfl g3_14 _ rfl rfl 24 (nums 0) hs14 (infoNum _) (by simp only [nums_size]) (tab_oneCell _ _ fun _ => rfl) ?_; generalize hWW : World.setRow _ g3_14 _ = U3 at *; clear hWW))
  clear hBW hb hs14 hz14 hl14
  have ohv_v1_4 := hv_v1.lt
  have ohv_v2_4 := hv_v2.lt
  have ohv_v3_4 := hv_v3.lt
  have ohv_v5_4 := hv_v5.lt
  have ohv_v7_4 := hv_v7.lt
  have ohR_4 := hR.lt
  have ohA_4 := hA.lt
  have ohB_4 := hB.lt
  have ohG_4 := hG.lt
  refine region_facts 15 [] [.val (.pointer (some ⟨g, 0, none⟩)), .val (.pointer (some ⟨w.heap.size, 0, none⟩)), .val (.agg (nums (X1))), .val (.pointer (some ⟨w.heap.size, 16, none⟩)), .val (.agg (nums (Z1))), .val (.pointer (some ⟨w.heap.size + 1, 0, none⟩)), .val (.agg (nums (X2))), .val (.pointer (some ⟨w.heap.size + 1, 16, none⟩)), .val (.agg (nums (Z2))), .val (.pointer (some ⟨f, 0, none⟩)), .val (.agg (nums (v1))), .val (.agg (nums (v3))), .val (.agg (nums (v8))), .val (.agg (nums (v9))), .new 24 (nums 0)]
    (by kernel_rfl) (by kernel_rfl) (fun _ _ _ _ _ h => h) ?_ ?_
  · simp only [List.take_succ_cons, List.take_zero, StepsOK]
    refine ⟨?_, ?_, ?_, ?_, ?_, ?_, ?_, ?_, ?_, ?_, ?_, ?_, ?_, ?_, ?_, trivial⟩
    · intro v w' hb hf K hKt
      simp only [putAll, Act.put, List.setIfInBounds_toArray, List.set_cons_zero, List.set_cons_succ, Nat.zero_add, Nat.reduceAdd] at hKt ⊢
      go_simp
      exact hKt _ (Below.refl _ _)
    · intro v w' hb hf K hKt
      simp only [putAll, Act.put, List.setIfInBounds_toArray, List.set_cons_zero, List.set_cons_succ, Nat.zero_add, Nat.reduceAdd] at hKt ⊢
      go_simp
      exact hKt _ (Below.refl _ _)
    · intro v w' hb hf K hKt
      have f1 : v 1 = _ := hf ⟨1, .data⟩ (by simp) rfl
      simp only [putAll, Act.put, List.setIfInBounds_toArray, List.set_cons_zero, List.set_cons_succ, Nat.zero_add, Nat.reduceAdd] at hKt ⊢
      rw [f1] at hKt ⊢
      exact wp_load_num _ rfl (w.heap.size) 0 rfl X1 (pj_x ((hA.after hb))) (hKt _ (Below.refl _ _))
    · intro v w' hb hf K hKt
      simp only [putAll, Act.put, List.setIfInBounds_toArray, List.set_cons_zero, List.set_cons_succ, Nat.zero_add, Nat.reduceAdd] at hKt ⊢
      go_simp
      exact hKt _ (Below.refl _ _)
    · intro v w' hb hf K hKt
      have f3 : v 3 = _ := hf ⟨3, .data⟩ (by simp) rfl
      simp only [putAll, Act.put, List.setIfInBounds_toArray, List.set_cons_zero, List.set_cons_succ, Nat.zero_add, Nat.reduceAdd] at hKt ⊢
      rw [f3] at hKt ⊢
      exact wp_load_num _ rfl (w.heap.size) 16 rfl Z1 (pj_z ((hA.after hb))) (hKt _ (Below.refl _ _))
    · intro v w' hb hf K hKt
      simp only [putAll, Act.put, List.setIfInBounds_toArray, List.set_cons_zero, List.set_cons_succ, Nat.zero_add, Nat.reduceAdd] at hKt ⊢
      go_simp
      exact hKt _ (Below.refl _ _)
    · intro v w' hb hf K hKt
      have f5 : v 5 = _ := hf ⟨5, .data⟩ (by simp) rfl
      simp only [putAll, Act.put, List.setIfInBounds_toArray, List.set_cons_zero, List.set_cons_succ, Nat.zero_add, Nat.reduceAdd] at hKt ⊢
      rw [f5] at hKt ⊢
      exact wp_load_num _ rfl (w.heap.size + 1) 0 rfl X2 (pj_x ((hB.after hb))) (hKt _ (Below.refl _ _))
    · intro v w' hb hf K hKt
      simp only [putAll, Act.put, List.setIfInBounds_toArray, List.set_cons_zero, List.set_cons_succ, Nat.zero_add, Nat.reduceAdd] at hKt ⊢
      go_simp
      exact hKt _ (Below.refl _ _)
    · intro v w' hb hf K hKt
      have f7 : v 7 = _ := hf ⟨7, .data⟩ (by simp) rfl
      simp only [putAll, Act.put, List.setIfInBounds_toArray, List.set_cons_zero, List.set_cons_succ, Nat.zero_add, Nat.reduceAdd] at hKt ⊢
      rw [f7] at hKt ⊢
      exact wp_load_num _ rfl (w.heap.size + 1) 16 rfl Z2 (pj_z ((hB.after hb))) (hKt _ (Below.refl _ _))
    · intro v w' hb hf K hKt
      simp only [putAll, Act.put, List.setIfInBounds_toArray, List.set_cons_zero, List.set_cons_succ, Nat.zero_add, Nat.reduceAdd] at hKt ⊢
      go_simp
      exact hKt _ (Below.refl _ _)
    · intro v w' hb hf K hKt
      simp only [putAll, Act.put, List.setIfInBounds_toArray, List.set_cons_zero, List.set_cons_succ, Nat.zero_add, Nat.reduceAdd] at hKt ⊢
      exact wp_load_row 24 _ rfl (g1_18) rfl 24 _ (0, 0) _ (hv_v1.after hb) Tryd.underlying24 rfl (infoNum _) (hKt _ (Below.refl _ _))
    · intro v w' hb hf K hKt
      simp only [putAll, Act.put, List.setIfInBounds_toArray, List.set_cons_zero, List.set_cons_succ, Nat.zero_add, Nat.reduceAdd] at hKt ⊢
      exact wp_load_row 24 _ rfl (g1_20) rfl 24 _ (0, 0) _ (hv_v3.after hb) Tryd.underlying24 rfl (infoNum _) (hKt _ (Below.refl _ _))
    · intro v w' hb hf K hKt
      have f9 : v 9 = _ := hf ⟨9, .data⟩ (by simp) rfl
      have f10 : v 10 = _ := hf ⟨10, .data⟩ (by simp) rfl
      have f11 : v 11 = _ := hf ⟨11, .data⟩ (by simp) rfl
      simp only [putAll, Act.put, List.setIfInBounds_toArray, List.set_cons_zero, List.set_cons_succ, Nat.zero_add, Nat.reduceAdd] at hKt ⊢
      rw [f9, f10, f11] at hKt ⊢
      go_simp
      refine (kv8 w' (below_trans hb0 hb)).mono ?_
      rintro e w'' ⟨rfl, hb2⟩
      exact hKt _ hb2
    · intro v w' hb hf K hKt
      have f0 : v 0 = _ := hf ⟨0, .data⟩ (by simp) rfl
      have f2 : v 2 = _ := hf ⟨2, .data⟩ (by simp) rfl
      have f4 : v 4 = _ := hf ⟨4, .data⟩ (by simp) rfl
      have f6 : v 6 = _ := hf ⟨6, .data⟩ (by simp) rfl
      have f8 : v 8 = _ := hf ⟨8, .data⟩ (by simp) rfl
      have f12 : v 12 = _ := hf ⟨12, .data⟩ (by simp) rfl
      simp only [putAll, Act.put, List.setIfInBounds_toArray, List.set_cons_zero, List.set_cons_succ, Nat.zero_add, Nat.reduceAdd] at hKt ⊢
      rw [f0, f2, f4, f6, f8, f12] at hKt ⊢
      go_simp
      refine (kv9 w' (below_trans hb0 hb)).mono ?_
      rintro e w'' ⟨rfl, hb2⟩
      exact hKt _ hb2
    · exact ⟨rfl, rfl, zeroVN⟩
  intro v u4 hb hF hD
  have f0 : v 0 = _ := hF 0 (by decide)
  have f1 : v 1 = _ := hF 1 (by decide)
  have f2 : v 2 = _ := hF 2 (by decide)
  have f3 : v 3 = _ := hF 3 (by decide)
  have f4 : v 4 = _ := hF 4 (by decide)
  have f5 : v 5 = _ := hF 5 (by decide)
  have f6 : v 6 = _ := hF 6 (by decide)
  have f7 : v 7 = _ := hF 7 (by decide)
  have f8 : v 8 = _ := hF 8 (by decide)
  have f9 : v 9 = _ := hF 9 (by decide)
  have f10 : v 10 = _ := hF 10 (by decide)
  have f11 : v 11 = _ := hF 11 (by decide)
  have f12 : v 12 = _ := hF 12 (by decide)
  have f13 : v 13 = _ := hF 13 (by decide)
  obtain ⟨g4_14, f14, hg14, hl14, hz14⟩ := hF 14 (by decide)
  replace hz14 : Has u4 g4_14 24 (nums 0) := hz14
  simp only [List.take_succ_cons, List.take_zero, List.drop_succ_cons, List.drop_zero, putAll, Act.put, List.setIfInBounds_toArray, List.set_cons_zero, List.set_cons_succ, Nat.zero_add, Nat.reduceAdd]
  rw [f0, f1, f2, f3, f4, f5, f6, f7, f8, f9, f10, f11, f12, f13, f14]
  clear hF hD f0 f1 f2 f3 f4 f5 f6 f7 f8 f9 f10 f11 f12 f13 f14
  have hs14 := hz14
  have hBW := below_setRow (hb) (g := g4_14) hg14 (nums (v9))
  have hv_v9 := (hz14).setRow (nums (v9))
  replace hv_v1 := hv_v1.after hBW
  replace hv_v2 := hv_v2.after hBW
  replace hv_v3 := hv_v3.after hBW
  replace hv_v5 := hv_v5.after hBW
  replace hv_v7 := hv_v7.after hBW
  replace hR := hR.after hBW
  replace hA := hA.after hBW
  replace hB := hB.after hBW
  replace hG := hG.after hBW
  replace hb0 := below_trans hb0 hBW
  go_wp2_with (first | (refine wpList_store_row rfl 24 _ _ rfl g4_14 _ rfl rfl 24 (nums 0) hs14 (infoNum _) (by simp only [nums_size]) (tab_oneCell _ _ fun _ => rfl) ?_; generalize hWW : World.setRow _ g4_14 _ = U4 at *; clear hWW) | refine wpList_load_has 24 _ rfl _ rfl rfl 24 _ hv_v3 _ Tryd.underlying24 rfl (infoNum _) ?_)
  clear hBW hb hs14 hz14 hl14
  refine (kv10 _ hb0).mono ?_
  rintro e u5 ⟨rfl, hx⟩
  have ohv_v1_5 := (hv_v1.after hx).lt
  have ohv_v2_5 := (hv_v2.after hx).lt
  have ohv_v3_5 := (hv_v3.after hx).lt
  have ohv_v5_5 := (hv_v5.after hx).lt
  have ohv_v7_5 := (hv_v7.after hx).lt
  have ohv_v9_5 := (hv_v9.after hx).lt
  have hN := put_new u5 24 (nums 0) (nums v10)
  replace hv_v1 := (hv_v1.after hx).after hN.2
  replace hv_v2 := (hv_v2.after hx).after hN.2
  replace hv_v3 := (hv_v3.after hx).after hN.2
  replace hv_v5 := (hv_v5.after hx).after hN.2
  replace hv_v7 := (hv_v7.after hx).after hN.2
  replace hv_v9 := (hv_v9.after hx).after hN.2
  replace hR := (hR.after hx).after hN.2
  replace hA := (hA.after hx).after hN.2
  replace hB := (hB.after hx).after hN.2
  replace hG := (hG.after hx).after hN.2
  replace hb0 := below_trans (below_trans hb0 hx) hN.2
  have hv_v10 := hN.1
  clear hx hN
  go_wp2_with (first | (refine wpList_store_row rfl 24 _ _ rfl u5.heap.size _ rfl rfl 24 (nums 0) (Has.new' rfl) (infoNum _) (by simp only [nums_size]) (tab_oneCell _ _ fun _ => rfl) ?_; generalize hWW : World.setRow _ u5.heap.size _ = U5 at *; clear hWW))
  have ohv_v1_6 := hv_v1.lt
  have ohv_v2_6 := hv_v2.lt
  have ohv_v3_6 := hv_v3.lt
  have ohv_v5_6 := hv_v5.lt
  have ohv_v7_6 := hv_v7.lt
  have ohv_v9_6 := hv_v9.lt
  have ohv_v10_6 := hv_v10.lt
  have ohR_6 := hR.lt
  have ohA_6 := hA.lt
  have ohB_6 := hB.lt
  have ohG_6 := hG.lt
  refine region_facts 13 [] [.val (.pointer (some ⟨g, 0, none⟩)), .val (.pointer (some ⟨f, 0, none⟩)), .val (.agg (nums (v9))), .val (.pointer (some ⟨f, 0, none⟩)), .val (.pointer (some ⟨g, 0, none⟩)), .val (.pointer (some ⟨g, 0, none⟩)), .val (.pointer (some ⟨g, 1, none⟩)), .val (.agg (nums (bm))), .val (.agg (nums (v3))), .val (.agg (nums (v11))), .val (.agg (nums (v12))), .val (.agg (nums (v13))), .new 24 (nums 0)]
    (by kernel_rfl) (by kernel_rfl) (fun _ _ _ _ _ h => h) ?_ ?_
  · simp only [List.take_succ_cons, List.take_zero, StepsOK]
    refine ⟨?_, ?_, ?_, ?_, ?_, ?_, ?_, ?_, ?_, ?_, ?_, ?_, ?_, trivial⟩
    · intro v w' hb hf K hKt
      simp only [putAll, Act.put, List.setIfInBounds_toArray, List.set_cons_zero, List.set_cons_succ, Nat.zero_add, Nat.reduceAdd] at hKt ⊢
      go_simp
      exact hKt _ (Below.refl _ _)
    · intro v w' hb hf K hKt
      simp only [putAll, Act.put, List.setIfInBounds_toArray, List.set_cons_zero, List.set_cons_succ, Nat.zero_add, Nat.reduceAdd] at hKt ⊢
      go_simp
      exact hKt _ (Below.refl _ _)
    · intro v w' hb hf K hKt
      simp only [putAll, Act.put, List.setIfInBounds_toArray, List.set_cons_zero, List.set_cons_succ, Nat.zero_add, Nat.reduceAdd] at hKt ⊢
      exact wp_load_row 24 _ rfl (g4_14) rfl 24 _ (0, 0) _ (hv_v9.after hb) Tryd.underlying24 rfl (infoNum _) (hKt _ (Below.refl _ _))
    · intro v w' hb hf K hKt
      simp only [putAll, Act.put, List.setIfInBounds_toArray, List.set_cons_zero, List.set_cons_succ, Nat.zero_add, Nat.reduceAdd] at hKt ⊢
      go_simp
      exact hKt _ (Below.refl _ _)
    · intro v w' hb hf K hKt
      simp only [putAll, Act.put, List.setIfInBounds_toArray, List.set_cons_zero, List.set_cons_succ, Nat.zero_add, Nat.reduceAdd] at hKt ⊢
      go_simp
      exact hKt _ (Below.refl _ _)
    · intro v w' hb hf K hKt
      have f4 : v 4 = _ := hf ⟨4, .data⟩ (by simp) rfl
      simp only [putAll, Act.put, List.setIfInBounds_toArray, List.set_cons_zero, List.set_cons_succ, Nat.zero_add, Nat.reduceAdd] at hKt ⊢
      rw [f4] at hKt ⊢
      go_simp
      exact hKt _ (Below.refl _ _)
    · intro v w' hb hf K hKt
      have f5 : v 5 = _ := hf ⟨5, .data⟩ (by simp) rfl
      simp only [putAll, Act.put, List.setIfInBounds_toArray, List.set_cons_zero, List.set_cons_succ, Nat.zero_add, Nat.reduceAdd] at hKt ⊢
      rw [f5] at hKt ⊢
      go_simp
      exact hKt _ (Below.refl _ _)
    · intro v w' hb hf K hKt
      have f6 : v 6 = _ := hf ⟨6, .data⟩ (by simp) rfl
      simp only [putAll, Act.put, List.setIfInBounds_toArray, List.set_cons_zero, List.set_cons_succ, Nat.zero_add, Nat.reduceAdd] at hKt ⊢
      rw [f6] at hKt ⊢
      exact wp_load_num _ rfl (g) 1 rfl bm (crv_b ((hG.after hb))) (hKt _ (Below.refl _ _))
    · intro v w' hb hf K hKt
      simp only [putAll, Act.put, List.setIfInBounds_toArray, List.set_cons_zero, List.set_cons_succ, Nat.zero_add, Nat.reduceAdd] at hKt ⊢
      exact wp_load_row 24 _ rfl (g1_20) rfl 24 _ (0, 0) _ (hv_v3.after hb) Tryd.underlying24 rfl (infoNum _) (hKt _ (Below.refl _ _))
    · intro v w' hb hf K hKt
      have f3 : v 3 = _ := hf ⟨3, .data⟩ (by simp) rfl
      have f7 : v 7 = _ := hf ⟨7, .data⟩ (by simp) rfl
      have f8 : v 8 = _ := hf ⟨8, .data⟩ (by simp) rfl
      simp only [putAll, Act.put, List.setIfInBounds_toArray, List.set_cons_zero, List.set_cons_succ, Nat.zero_add, Nat.reduceAdd] at hKt ⊢
      rw [f3, f7, f8] at hKt ⊢
      go_simp
      refine (kv11 w' (below_trans hb0 hb)).mono ?_
      rintro e w'' ⟨rfl, hb2⟩
      exact hKt _ hb2
    · intro v w' hb hf K hKt
      have f1 : v 1 = _ := hf ⟨1, .data⟩ (by simp) rfl
      have f2 : v 2 = _ := hf ⟨2, .data⟩ (by simp) rfl
      have f9 : v 9 = _ := hf ⟨9, .data⟩ (by simp) rfl
      simp only [putAll, Act.put, List.setIfInBounds_toArray, List.set_cons_zero, List.set_cons_succ, Nat.zero_add, Nat.reduceAdd] at hKt ⊢
      rw [f1, f2, f9] at hKt ⊢
      go_simp
      refine (kv12 w' (below_trans hb0 hb)).mono ?_
      rintro e w'' ⟨rfl, hb2⟩
      exact hKt _ hb2
    · intro v w' hb hf K hKt
      have f0 : v 0 = _ := hf ⟨0, .data⟩ (by simp) rfl
      have f10 : v 10 = _ := hf ⟨10, .data⟩ (by simp) rfl
      simp only [putAll, Act.put, List.setIfInBounds_toArray, List.set_cons_zero, List.set_cons_succ, Nat.zero_add, Nat.reduceAdd] at hKt ⊢
      rw [f0, f10] at hKt ⊢
      go_simp
      refine (kv13 w' (below_trans hb0 hb)).mono ?_
      rintro e w'' ⟨rfl, hb2⟩
      exact hKt _ hb2
    · exact ⟨rfl, rfl, zeroVN⟩
  intro v u6 hb hF hD
  have f0 : v 0 = _ := hF 0 (by decide)
  have f1 : v 1 = _ := hF 1 (by decide)
  have f2 : v 2 = _ := hF 2 (by decide)
  have f3 : v 3 = _ := hF 3 (by decide)
  have f4 : v 4 = _ := hF 4 (by decide)
  have f5 : v 5 = _ := hF 5 (by decide)
  have f6 : v 6 = _ := hF 6 (by decide)
  have f7 : v 7 = _ := hF 7 (by decide)
  have f8 : v 8 = _ := hF 8 (by decide)
  have f9 : v 9 = _ := hF 9 (by decide)
  have f10 : v 10 = _ := hF 10 (by decide)
  have f11 : v 11 = _ := hF 11 (by decide)
  obtain ⟨g6_12, f12, hg12, hl12, hz12⟩ := hF 12 (by decide)
  replace hz12 : Has u6 g6_12 24 (nums 0) := hz12
  simp only [List.take_succ_cons, List.take_zero, List.drop_succ_cons, List.drop_zero, putAll, Act.put, List.setIfInBounds_toArray, List.set_cons_zero, List.set_cons_succ, Nat.zero_add, Nat.reduceAdd]
  rw [f0, f1, f2, f3, f4, f5, f6, f7, f8, f9, f10, f11, f12]
  clear hF hD f0 f1 f2 f3 f4 f5 f6 f7 f8 f9 f10 f11 f12
  have hs12 := hz12
  have hBW := below_setRow (hb) (g := g6_12) hg12 (nums (v13))
  have hv_v13 := (hz12).setRow (nums (v13))
  replace hv_v1 := hv_v1.after hBW
  replace hv_v10 := hv_v10.after hBW
  replace hv_v2 := hv_v2.after hBW
  replace hv_v3 := hv_v3.after hBW
  replace hv_v5 := hv_v5.after hBW
  replace hv_v7 := hv_v7.after hBW
  replace hv_v9 := hv_v9.after hBW
  replace hR := hR.after hBW
  replace hA := hA.after hBW
  replace hB := hB.after hBW
  replace hG := hG.after hBW
  replace hb0 := below_trans hb0 hBW
  go_wp2_with (first | (refine wpList_store_row rfl 24 _ _ rfl g6_12 _ rfl rfl 24 (nums 0) hs12 (infoNum _) (by simp only [nums_size]) (tab_oneCell _ _ fun _ => rfl) ?_; generalize hWW : World.setRow _ g6_12 _ = U6 at *; clear hWW))
  clear hBW hb hs12 hz12 hl12
  have ohv_v1_7 := hv_v1.lt
  have ohv_v2_7 := hv_v2.lt
  have ohv_v3_7 := hv_v3.lt
  have ohv_v5_7 := hv_v5.lt
  have ohv_v7_7 := hv_v7.lt
  have ohv_v9_7 := hv_v9.lt
  have ohv_v10_7 := hv_v10.lt
  have ohv_v13_7 := hv_v13.lt
  have ohR_7 := hR.lt
  have ohA_7 := hA.lt
  have ohB_7 := hB.lt
  have ohG_7 := hG.lt
  refine region_facts 10 [] [.val (.pointer (some ⟨f, 0, none⟩)), .val (.agg (nums (v2))), .val (.agg (nums (v13))), .val (.agg (nums (v14))), .val (.pointer (some ⟨f, 0, none⟩)), .val (.agg (nums (v2))), .val (.agg (nums (v13))), .val (.agg (nums (v15))), .new 24 (nums 0), .new 24 (nums 0)]
    (by kernel_rfl) (by kernel_rfl) (fun _ _ _ _ _ h => h) ?_ ?_
  · simp only [List.take_succ_cons, List.take_zero, StepsOK]
    refine ⟨?_, ?_, ?_, ?_, ?_, ?_, ?_, ?_, ?_, ?_, trivial⟩
    · intro v w' hb hf K hKt
      simp only [putAll, Act.put, List.setIfInBounds_toArray, List.set_cons_zero, List.set_cons_succ, Nat.zero_add, Nat.reduceAdd] at hKt ⊢
      go_simp
      exact hKt _ (Below.refl _ _)
    · intro v w' hb hf K hKt
      simp only [putAll, Act.put, List.setIfInBounds_toArray, List.set_cons_zero, List.set_cons_succ, Nat.zero_add, Nat.reduceAdd] at hKt ⊢
      exact wp_load_row 24 _ rfl (g1_19) rfl 24 _ (0, 0) _ (hv_v2.after hb) Tryd.underlying24 rfl (infoNum _) (hKt _ (Below.refl _ _))
    · intro v w' hb hf K hKt
      simp only [putAll, Act.put, List.setIfInBounds_toArray, List.set_cons_zero, List.set_cons_succ, Nat.zero_add, Nat.reduceAdd] at hKt ⊢
      exact wp_load_row 24 _ rfl (g6_12) rfl 24 _ (0, 0) _ (hv_v13.after hb) Tryd.underlying24 rfl (infoNum _) (hKt _ (Below.refl _ _))
    · intro v w' hb hf K hKt
      have f0 : v 0 = _ := hf ⟨0, .data⟩ (by simp) rfl
      have f1 : v 1 = _ := hf ⟨1, .data⟩ (by simp) rfl
      have f2 : v 2 = _ := hf ⟨2, .data⟩ (by simp) rfl
      simp only [putAll, Act.put, List.setIfInBounds_toArray, List.set_cons_zero, List.set_cons_succ, Nat.zero_add, Nat.reduceAdd] at hKt ⊢
      rw [f0, f1, f2] at hKt ⊢
      go_simp
      refine (kv14 w' (below_trans hb0 hb)).mono ?_
      rintro e w'' ⟨rfl, hb2⟩
      exact hKt _ hb2
    · intro v w' hb hf K hKt
      simp only [putAll, Act.put, List.setIfInBounds_toArray, List.set_cons_zero, List.set_cons_succ, Nat.zero_add, Nat.reduceAdd] at hKt ⊢
      go_simp
      exact hKt _ (Below.refl _ _)
    · intro v w' hb hf K hKt
      simp only [putAll, Act.put, List.setIfInBounds_toArray, List.set_cons_zero, List.set_cons_succ, Nat.zero_add, Nat.reduceAdd] at hKt ⊢
      exact wp_load_row 24 _ rfl (g1_19) rfl 24 _ (0, 0) _ (hv_v2.after hb) Tryd.underlying24 rfl (infoNum _) (hKt _ (Below.refl _ _))
    · intro v w' hb hf K hKt
      simp only [putAll, Act.put, List.setIfInBounds_toArray, List.set_cons_zero, List.set_cons_succ, Nat.zero_add, Nat.reduceAdd] at hKt ⊢
      exact wp_load_row 24 _ rfl (g6_12) rfl 24 _ (0, 0) _ (hv_v13.after hb) Tryd.underlying24 rfl (infoNum _) (hKt _ (Below.refl _ _))
    · intro v w' hb hf K hKt
      have f4 : v 4 = _ := hf ⟨4, .data⟩ (by simp) rfl
      have f5 : v 5 = _ := hf ⟨5, .data⟩ (by simp) rfl
      have f6 : v 6 = _ := hf ⟨6, .data⟩ (by simp) rfl
      simp only [putAll, Act.put, List.setIfInBounds_toArray, List.set_cons_zero, List.set_cons_succ, Nat.zero_add, Nat.reduceAdd] at hKt ⊢
      rw [f4, f5, f6] at hKt ⊢
      go_simp
      refine (kv15 w' (below_trans hb0 hb)).mono ?_
      rintro e w'' ⟨rfl, hb2⟩
      exact hKt _ hb2
    · exact ⟨rfl, rfl, zeroVN⟩
    · exact ⟨rfl, rfl, zeroVN⟩
  intro v u7 hb hF hD
  have f0 : v 0 = _ := hF 0 (by decide)
  have f1 : v 1 = _ := hF 1 (by decide)
  have f2 : v 2 = _ := hF 2 (by decide)
  have f3 : v 3 = _ := hF 3 (by decide)
  have f4 : v 4 = _ := hF 4 (by decide)
  have f5 : v 5 = _ := hF 5 (by decide)
  have f6 : v 6 = _ := hF 6 (by decide)
  have f7 : v 7 = _ := hF 7 (by decide)
  obtain ⟨g7_8, f8, hg8, hl8, hz8⟩ := hF 8 (by decide)
  replace hz8 : Has u7 g7_8 24 (nums 0) := hz8
  obtain ⟨g7_9, f9, hg9, hl9, hz9⟩ := hF 9 (by decide)
  replace hz9 : Has u7 g7_9 24 (nums 0) := hz9
  have hne8_9 : g7_8 ≠ g7_9 := fun h => hD 8 9 (by decide) (by decide) (by decide) rfl rfl (by rw [f8, f9, h])
  simp only [List.take_succ_cons, List.take_zero, List.drop_succ_cons, List.drop_zero, putAll, Act.put, List.setIfInBounds_toArray, List.set_cons_zero, List.set_cons_succ, Nat.zero_add, Nat.reduceAdd]
  rw [f0, f1, f2, f3, f4, f5, f6, f7, f8, f9]
  clear hF hD f0 f1 f2 f3 f4 f5 f6 f7 f8 f9
  have hs8 := hz8
  have hs9 := (hz9).farRow (k := g7_8) (by omega) (nums (v14))
  have hBW := below_setRow (below_setRow (hb) (g := g7_8) hg8 (nums (v14))) (g := g7_9) hg9 (nums (v15))
  have hv_v14 := ((hz8).setRow (nums (v14))).farRow (k := g7_9) (by omega) (nums (v15))
  have hv_v15 := ((hz9).farRow (k := g7_8) (by omega) (nums (v14))).setRow (nums (v15))
  replace hv_v1 := hv_v1.after hBW
  replace hv_v10 := hv_v10.after hBW
  replace hv_v13 := hv_v13.after hBW
  replace hv_v2 := hv_v2.after hBW
  replace hv_v3 := hv_v3.after hBW
  replace hv_v5 := hv_v5.after hBW
  replace hv_v7 := hv_v7.after hBW
  replace hv_v9 := hv_v9.after hBW
  replace hR := hR.after hBW
  replace hA := hA.after hBW
  replace hB := hB.after hBW
  replace hG := hG.after hBW
  replace hb0 := below_trans hb0 hBW
  go_wp2_with (first | refine wpList_store_row rfl 24 _ _ rfl g7_8 _ rfl rfl 24 (nums 0) hs8 (infoNum _) (by simp only [nums_size]) (tab_oneCell _ _ fun _ => rfl) ?_ | (refine wpList_store_row rfl 24 _ _ rfl g7_9 _ rfl rfl 24 (nums 0) hs9 (infoNum _) (by simp only [nums_size]) (tab_oneCell _ _ fun _ => rfl) ?_; generalize hWW : World.setRow _ g7_9 _ = U7 at *; clear hWW))
  clear hBW hb hs8 hz8 hl8 hs9 hz9 hl9
  have ohv_v1_8 := hv_v1.lt
  have ohv_v2_8 := hv_v2.lt
  have ohv_v3_8 := hv_v3.lt
  have ohv_v5_8 := hv_v5.lt
  have ohv_v7_8 := hv_v7.lt
  have ohv_v9_8 := hv_v9.lt
  have ohv_v10_8 := hv_v10.lt
  have ohv_v13_8 := hv_v13.lt
  have ohv_v14_8 := hv_v14.lt
  have ohv_v15_8 := hv_v15.lt
  have ohR_8 := hR.lt
  have ohA_8 := hA.lt
  have ohB_8 := hB.lt
  have ohG_8 := hG.lt
  refine region_facts 16 [] [.val (.pointer (some ⟨g, 0, none⟩)), .val (.pointer (some ⟨f, 0, none⟩)), .val (.pointer (some ⟨f, 0, none⟩)), .val (.pointer (some ⟨g, 0, none⟩)), .val (.pointer (some ⟨g, 0, none⟩)), .val (.pointer (some ⟨g, 1, none⟩)), .val (.agg (nums (bm))), .val (.agg (nums (v9))), .val (.agg (nums (v16))), .val (.pointer (some ⟨f, 0, none⟩)), .val (.agg (nums (v10))), .val (.agg (nums (v1))), .val (.agg (nums (v17))), .val (.agg (nums (v18))), .val (.agg (nums (v19))), .new 24 (nums 0)]
    (by kernel_rfl) (by kernel_rfl) (fun _ _ _ _ _ h => h) ?_ ?_
  · simp only [List.take_succ_cons, List.take_zero, StepsOK]
    refine ⟨?_, ?_, ?_, ?_, ?_, ?_, ?_, ?_, ?_, ?_, ?_, ?_, ?_, ?_, ?_, ?_, trivial⟩
    · intro v w' hb hf K hKt
      simp only [putAll, Act.put, List.setIfInBounds_toArray, List.set_cons_zero, List.set_cons_succ, Nat.zero_add, Nat.reduceAdd] at hKt ⊢
      go_simp
      exact hKt _ (Below.refl _ _)
    · intro v w' hb hf K hKt
      simp only [putAll, Act.put, List.setIfInBounds_toArray, List.set_cons_zero, List.set_cons_succ, Nat.zero_add, Nat.reduceAdd] at hKt ⊢
      go_simp
      exact hKt _ (Below.refl _ _)
    · intro v w' hb hf K hKt
      simp only [putAll, Act.put, List.setIfInBounds_toArray, List.set_cons_zero, List.set_cons_succ, Nat.zero_add, Nat.reduceAdd] at hKt ⊢
      go_simp
      exact hKt _ (Below.refl _ _)
    · intro v w' hb hf K hKt
      simp only [putAll, Act.put, List.setIfInBounds_toArray, List.set_cons_zero, List.set_cons_succ, Nat.zero_add, Nat.reduceAdd] at hKt ⊢
      go_simp
      exact hKt _ (Below.refl _ _)
    · intro v w' hb hf K hKt
      have f3 : v 3 = _ := hf ⟨3, .data⟩ (by simp) rfl
      simp only [putAll, Act.put, List.setIfInBounds_toArray, List.set_cons_zero, List.set_cons_succ, Nat.zero_add, Nat.reduceAdd] at hKt ⊢
      rw [f3] at hKt ⊢
      go_simp
      exact hKt _ (Below.refl _ _)
    · intro v w' hb hf K hKt
      have f4 : v 4 = _ := hf ⟨4, .data⟩ (by simp) rfl
      simp only [putAll, Act.put, List.setIfInBounds_toArray, List.set_cons_zero, List.set_cons_succ, Nat.zero_add, Nat.reduceAdd] at hKt ⊢
      rw [f4] at hKt ⊢
      go_simp
      exact hKt _ (Below.refl _ _)
    · intro v w' hb hf K hKt
      have f5 : v 5 = _ := hf ⟨5, .data⟩ (by simp) rfl
      simp only [putAll, Act.put, List.setIfInBounds_toArray, List.set_cons_zero, List.set_cons_succ, Nat.zero_add, Nat.reduceAdd] at hKt ⊢
      rw [f5] at hKt ⊢
      exact wp_load_num _ rfl (g) 1 rfl bm (crv_b ((hG.after hb))) (hKt _ (Below.refl _ _))
    · intro v w' hb hf K hKt
      simp only [putAll, Act.put, List.setIfInBounds_toArray, List.set_cons_zero, List.set_cons_succ, Nat.zero_add, Nat.reduceAdd] at hKt ⊢
      exact wp_load_row 24 _ rfl (g4_14) rfl 24 _ (0, 0) _ (hv_v9.after hb) Tryd.underlying24 rfl (infoNum _) (hKt _ (Below.refl _ _))
    · intro v w' hb hf K hKt
      have f2 : v 2 = _ := hf ⟨2, .data⟩ (by simp) rfl
      have f6 : v 6 = _ := hf ⟨6, .data⟩ (by simp) rfl
      have f7 : v 7 = _ := hf ⟨7, .data⟩ (by simp) rfl
      simp only [putAll, Act.put, List.setIfInBounds_toArray, List.set_cons_zero, List.set_cons_succ, Nat.zero_add, Nat.reduceAdd] at hKt ⊢
      rw [f2, f6, f7] at hKt ⊢
      go_simp
      refine (kv16 w' (below_trans hb0 hb)).mono ?_
      rintro e w'' ⟨rfl, hb2⟩
      exact hKt _ hb2
    · intro v w' hb hf K hKt
      simp only [putAll, Act.put, List.setIfInBounds_toArray, List.set_cons_zero, List.set_cons_succ, Nat.zero_add, Nat.reduceAdd] at hKt ⊢
      go_simp
      exact hKt _ (Below.refl _ _)
    · intro v w' hb hf K hKt
      simp only [putAll, Act.put, List.setIfInBounds_toArray, List.set_cons_zero, List.set_cons_succ, Nat.zero_add, Nat.reduceAdd] at hKt ⊢
      exact wp_load_row 24 _ rfl (u5.heap.size) rfl 24 _ (0, 0) _ (hv_v10.after hb) Tryd.underlying24 rfl (infoNum _) (hKt _ (Below.refl _ _))
    · intro v w' hb hf K hKt
      simp only [putAll, Act.put, List.setIfInBounds_toArray, List.set_cons_zero, List.set_cons_succ, Nat.zero_add, Nat.reduceAdd] at hKt ⊢
      exact wp_load_row 24 _ rfl (g1_18) rfl 24 _ (0, 0) _ (hv_v1.after hb) Tryd.underlying24 rfl (infoNum _) (hKt _ (Below.refl _ _))
    · intro v w' hb hf K hKt
      have f9 : v 9 = _ := hf ⟨9, .data⟩ (by simp) rfl
      have f10 : v 10 = _ := hf ⟨10, .data⟩ (by simp) rfl
      have f11 : v 11 = _ := hf ⟨11, .data⟩ (by simp) rfl
      simp only [putAll, Act.put, List.setIfInBounds_toArray, List.set_cons_zero, List.set_cons_succ, Nat.zero_add, Nat.reduceAdd] at hKt ⊢
      rw [f9, f10, f11] at hKt ⊢
      go_simp
      refine (kv17 w' (below_trans hb0 hb)).mono ?_
      rintro e w'' ⟨rfl, hb2⟩
      exact hKt _ hb2
    · intro v w' hb hf K hKt
      have f1 : v 1 = _ := hf ⟨1, .data⟩ (by simp) rfl
      have f8 : v 8 = _ := hf ⟨8, .data⟩ (by simp) rfl
      have f12 : v 12 = _ := hf ⟨12, .data⟩ (by simp) rfl
      simp only [putAll, Act.put, List.setIfInBounds_toArray, List.set_cons_zero, List.set_cons_succ, Nat.zero_add, Nat.reduceAdd] at hKt ⊢
      rw [f1, f8, f12] at hKt ⊢
      go_simp
      refine (kv18 w' (below_trans hb0 hb)).mono ?_
      rintro e w'' ⟨rfl, hb2⟩
      exact hKt _ hb2
    · intro v w' hb hf K hKt
      have f0 : v 0 = _ := hf ⟨0, .data⟩ (by simp) rfl
      have f13 : v 13 = _ := hf ⟨13, .data⟩ (by simp) rfl
      simp only [putAll, Act.put, List.setIfInBounds_toArray, List.set_cons_zero, List.set_cons_succ, Nat.zero_add, Nat.reduceAdd] at hKt ⊢
      rw [f0, f13] at hKt ⊢
      go_simp
      refine (kv19 w' (below_trans hb0 hb)).mono ?_
      rintro e w'' ⟨rfl, hb2⟩
      exact hKt _ hb2
    · exact ⟨rfl, rfl, zeroVN⟩
  intro v u8 hb hF hD
  have f0 : v 0 = _ := hF 0 (by decide)
  have f1 : v 1 = _ := hF 1 (by decide)
  have f2 : v 2 = _ := hF 2 (by decide)
  have f3 : v 3 = _ := hF 3 (by decide)
  have f4 : v 4 = _ := hF 4 (by decide)
  have f5 : v 5 = _ := hF 5 (by decide)
  have f6 : v 6 = _ := hF 6 (by decide)
  have f7 : v 7 = _ := hF 7 (by decide)
  have f8 : v 8 = _ := hF 8 (by decide)
  have f9 : v 9 = _ := hF 9 (by decide)
  have f10 : v 10 = _ := hF 10 (by decide)
  have f11 : v 11 = _ := hF 11 (by decide)
  have f12 : v 12 = _ := hF 12 (by decide)
  have f13 : v 13 = _ := hF 13 (by decide)
  have f14 : v 14 = _ := hF 14 (by decide)
  obtain ⟨g8_15, f15, hg15, hl15, hz15⟩ := hF 15 (by decide)
  replace hz15 : Has u8 g8_15 24 (nums 0) := hz15
  simp only [List.take_succ_cons, List.take_zero, List.drop_succ_cons, List.drop_zero, putAll, Act.put, List.setIfInBounds_toArray, List.set_cons_zero, List.set_cons_succ, Nat.zero_add, Nat.reduceAdd]
  rw [f0, f1, f2, f3, f4, f5, f6, f7, f8, f9, f10, f11, f12, f13, f14, f15]
  clear hF hD f0 f1 f2 f3 f4 f5 f6 f7 f8 f9 f10 f11 f12 f13 f14 f15
  have hs15 := hz15
  have hBW := below_setRow (hb) (g := g8_15) hg15 (nums (v19))
  have hv_v19 := (hz15).setRow (nums (v19))
  replace hv_v1 := hv_v1.after hBW
  replace hv_v10 := hv_v10.after hBW
  replace hv_v13 := hv_v13.after hBW
  replace hv_v14 := hv_v14.after hBW
  replace hv_v15 := hv_v15.after hBW
  replace hv_v2 := hv_v2.after hBW
  replace hv_v3 := hv_v3.after hBW
  replace hv_v5 := hv_v5.after hBW
  replace hv_v7 := hv_v7.after hBW
  replace hv_v9 := hv_v9.after hBW
  replace hR := hR.after hBW
  replace hA := hA.after hBW
  replace hB := hB.after hBW
  replace hG := hG.after hBW
  replace hb0 := below_trans hb0 hBW
  go_wp2_with (first | (refine wpList_store_row rfl 24 _ _ rfl g8_15 _ rfl rfl 24 (nums 0) hs15 (infoNum _) (by simp only [nums_size]) (tab_oneCell _ _ fun _ => rfl) ?_; generalize hWW : World.setRow _ g8_15 _ = U8 at *; clear hWW))
  clear hBW hb hs15 hz15 hl15
  have ohv_v1_9 := hv_v1.lt
  have ohv_v2_9 := hv_v2.lt
  have ohv_v3_9 := hv_v3.lt
  have ohv_v5_9 := hv_v5.lt
  have ohv_v7_9 := hv_v7.lt
  have ohv_v9_9 := hv_v9.lt
  have ohv_v10_9 := hv_v10.lt
  have ohv_v13_9 := hv_v13.lt
  have ohv_v14_9 := hv_v14.lt
  have ohv_v15_9 := hv_v15.lt
  have ohv_v19_9 := hv_v19.lt
  have ohR_9 := hR.lt
  have ohA_9 := hA.lt
  have ohB_9 := hB.lt
  have ohG_9 := hG.lt
  refine region_facts 7 [] [.val (.pointer (some ⟨f, 0, none⟩)), .val (.pointer (some ⟨g, 0, none⟩)), .val (.agg (nums (v1))), .val (.agg (nums (v20))), .val (.agg (nums (v10))), .val (.agg (nums (v21))), .new 24 (nums 0)]
    (by kernel_rfl) (by kernel_rfl) (fun _ _ _ _ _ h => h) ?_ ?_
  · simp only [List.take_succ_cons, List.take_zero, StepsOK]
    refine ⟨?_, ?_, ?_, ?_, ?_, ?_, ?_, trivial⟩
    · intro v w' hb hf K hKt
      simp only [putAll, Act.put, List.setIfInBounds_toArray, List.set_cons_zero, List.set_cons_succ, Nat.zero_add, Nat.reduceAdd] at hKt ⊢
      go_simp
      exact hKt _ (Below.refl _ _)
    · intro v w' hb hf K hKt
      simp only [putAll, Act.put, List.setIfInBounds_toArray, List.set_cons_zero, List.set_cons_succ, Nat.zero_add, Nat.reduceAdd] at hKt ⊢
      go_simp
      exact hKt _ (Below.refl _ _)
    · intro v w' hb hf K hKt
      simp only [putAll, Act.put, List.setIfInBounds_toArray, List.set_cons_zero, List.set_cons_succ, Nat.zero_add, Nat.reduceAdd] at hKt ⊢
      exact wp_load_row 24 _ rfl (g1_18) rfl 24 _ (0, 0) _ (hv_v1.after hb) Tryd.underlying24 rfl (infoNum _) (hKt _ (Below.refl _ _))
    · intro v w' hb hf K hKt
      have f1 : v 1 = _ := hf ⟨1, .data⟩ (by simp) rfl
      have f2 : v 2 = _ := hf ⟨2, .data⟩ (by simp) rfl
      simp only [putAll, Act.put, List.setIfInBounds_toArray, List.set_cons_zero, List.set_cons_succ, Nat.zero_add, Nat.reduceAdd] at hKt ⊢
      rw [f1, f2] at hKt ⊢
      go_simp
      refine (kv20 w' (below_trans hb0 hb)).mono ?_
      rintro e w'' ⟨rfl, hb2⟩
      exact hKt _ hb2
    · intro v w' hb hf K hKt
      simp only [putAll, Act.put, List.setIfInBounds_toArray, List.set_cons_zero, List.set_cons_succ, Nat.zero_add, Nat.reduceAdd] at hKt ⊢
      exact wp_load_row 24 _ rfl (u5.heap.size) rfl 24 _ (0, 0) _ (hv_v10.after hb) Tryd.underlying24 rfl (infoNum _) (hKt _ (Below.refl _ _))
    · intro v w' hb hf K hKt
      have f0 : v 0 = _ := hf ⟨0, .data⟩ (by simp) rfl
      have f3 : v 3 = _ := hf ⟨3, .data⟩ (by simp) rfl
      have f4 : v 4 = _ := hf ⟨4, .data⟩ (by simp) rfl
      simp only [putAll, Act.put, List.setIfInBounds_toArray, List.set_cons_zero, List.set_cons_succ, Nat.zero_add, Nat.reduceAdd] at hKt ⊢
      rw [f0, f3, f4] at hKt ⊢
      go_simp
      refine (kv21 w' (below_trans hb0 hb)).mono ?_
      rintro e w'' ⟨rfl, hb2⟩
      exact hKt _ hb2
    · exact ⟨rfl, rfl, zeroVN⟩
  intro v u9 hb hF hD
  have f0 : v 0 = _ := hF 0 (by decide)
  have f1 : v 1 = _ := hF 1 (by decide)
  have f2 : v 2 = _ := hF 2 (by decide)
  have f3 : v 3 = _ := hF 3 (by decide)
  have f4 : v 4 = _ := hF 4 (by decide)
  have f5 : v 5 = _ := hF 5 (by decide)
  obtain ⟨g9_6, f6, hg6, hl6, hz6⟩ := hF 6 (by decide)
  replace hz6 : Has u9 g9_6 24 (nums 0) := hz6
  simp only [List.take_succ_cons, List.take_zero, List.drop_succ_cons, List.drop_zero, putAll, Act.put, List.setIfInBounds_toArray, List.set_cons_zero, List.set_cons_succ, Nat.zero_add, Nat.reduceAdd]
  rw [f0, f1, f2, f3, f4, f5, f6]
  clear hF hD f0 f1 f2 f3 f4 f5 f6
  have hs6 := hz6
  have hBW := below_setRow (hb) (g := g9_6) hg6 (nums (v21))
  have hv_v21 := (hz6).setRow (nums (v21))
  replace hv_v1 := hv_v1.after hBW
  replace hv_v10 := hv_v10.after hBW
  replace hv_v13 := hv_v13.after hBW
  replace hv_v14 := hv_v14.after hBW
  replace hv_v15 := hv_v15.after hBW
  replace hv_v19 := hv_v19.after hBW
  replace hv_v2 := hv_v2.after hBW
  replace hv_v3 := hv_v3.after hBW
  replace hv_v5 := hv_v5.after hBW
  replace hv_v7 := hv_v7.after hBW
  replace hv_v9 := hv_v9.after hBW
  replace hR := hR.after hBW
  replace hA := hA.after hBW
  replace hB := hB.after hBW
  replace hG := hG.after hBW
  replace hb0 := below_trans hb0 hBW
  go_wp2_with (first | (refine wpList_store_row rfl 24 _ _ rfl g9_6 _ rfl rfl 24 (nums 0) hs6 (infoNum _) (by simp only [nums_size]) (tab_oneCell _ _ fun _ => rfl) ?_; generalize hWW : World.setRow _ g9_6 _ = U9 at *; clear hWW))
  clear hBW hb hs6 hz6 hl6
  refine region_quiet_tail (Below U9.heap.size U9) 31 (by kernel_rfl) (by kernel_rfl) (below_drewN (Below.refl _ _) 1) ?_
  simp only [List.take_succ_cons, List.take_zero, List.drop_succ_cons, List.drop_zero]
  refine wpQ_move _ rfl rfl (.pointer (some ⟨f, 0, none⟩)) rfl ?_
  simp only [Act.put, List.setIfInBounds_toArray, List.set_cons_zero, List.set_cons_succ]
  refine wpQ_move _ rfl rfl (.pointer (some ⟨f, 0, none⟩)) rfl ?_
  simp only [Act.put, List.setIfInBounds_toArray, List.set_cons_zero, List.set_cons_succ]
  refine wpQ_has 24 _ rfl _ rfl rfl 24 _ (fun w' hC => hv_v5.after hC) _ Tryd.underlying24 rfl (infoNum _) ?_
  simp only [Act.put, List.setIfInBounds_toArray, List.set_cons_zero, List.set_cons_succ]
  refine wpQ_has 24 _ rfl _ rfl rfl 24 _ (fun w' hC => hv_v15.after hC) _ Tryd.underlying24 rfl (infoNum _) ?_
  simp only [Act.put, List.setIfInBounds_toArray, List.set_cons_zero, List.set_cons_succ]
  refine wpQ_fn 35 _ _ rfl rfl #[.pointer (some ⟨f, 0, none⟩), .agg (nums (v5)), .agg (nums (v15))] rfl (fun _ => by go_simp) (.agg (nums (v22))) (fun w' hC => (kv22 w' (below_trans hb0 hC)).mono fun e w'' ⟨he, hb⟩ => ⟨he, below_class hC hb⟩) ?_
  simp only [Act.put, List.setIfInBounds_toArray, List.set_cons_zero, List.set_cons_succ]
  refine wpQ_move _ rfl rfl (.pointer (some ⟨f, 0, none⟩)) rfl ?_
  simp only [Act.put, List.setIfInBounds_toArray, List.set_cons_zero, List.set_cons_succ]
  refine wpQ_has 24 _ rfl _ rfl rfl 24 _ (fun w' hC => hv_v7.after hC) _ Tryd.underlying24 rfl (infoNum _) ?_
  simp only [Act.put, List.setIfInBounds_toArray, List.set_cons_zero, List.set_cons_succ]
  refine wpQ_has 24 _ rfl _ rfl rfl 24 _ (fun w' hC => hv_v19.after hC) _ Tryd.underlying24 rfl (infoNum _) ?_
  simp only [Act.put, List.setIfInBounds_toArray, List.set_cons_zero, List.set_cons_succ]
  refine wpQ_fn 35 _ _ rfl rfl #[.pointer (some ⟨f, 0, none⟩), .agg (nums (v7)), .agg (nums (v19))] rfl (fun _ => by go_simp) (.agg (nums (v23))) (fun w' hC => (kv23 w' (below_trans hb0 hC)).mono fun e w'' ⟨he, hb⟩ => ⟨he, below_class hC hb⟩) ?_
  simp only [Act.put, List.setIfInBounds_toArray, List.set_cons_zero, List.set_cons_succ]
  refine wpQ_fn 37 _ _ rfl rfl #[.pointer (some ⟨f, 0, none⟩), .agg (nums (v22)), .agg (nums (v23))] rfl (fun _ => by go_simp) (.agg (nums (v24))) (fun w' hC => (kv24 w' (below_trans hb0 hC)).mono fun e w'' ⟨he, hb⟩ => ⟨he, below_class hC hb⟩) ?_
  simp only [Act.put, List.setIfInBounds_toArray, List.set_cons_zero, List.set_cons_succ]
  refine wpQ_move _ rfl rfl (.pointer (some ⟨f, 0, none⟩)) rfl ?_
  simp only [Act.put, List.setIfInBounds_toArray, List.set_cons_zero, List.set_cons_succ]
  refine wpQ_move _ rfl rfl (.pointer (some ⟨f, 0, none⟩)) rfl ?_
  simp only [Act.put, List.setIfInBounds_toArray, List.set_cons_zero, List.set_cons_succ]
  refine wpQ_has 24 _ rfl _ rfl rfl 24 _ (fun w' hC => hv_v15.after hC) _ Tryd.underlying24 rfl (infoNum _) ?_
  simp only [Act.put, List.setIfInBounds_toArray, List.set_cons_zero, List.set_cons_succ]
  refine wpQ_has 24 _ rfl _ rfl rfl 24 _ (fun w' hC => hv_v14.after hC) _ Tryd.underlying24 rfl (infoNum _) ?_
  simp only [Act.put, List.setIfInBounds_toArray, List.set_cons_zero, List.set_cons_succ]
  refine wpQ_fn 35 _ _ rfl rfl #[.pointer (some ⟨f, 0, none⟩), .agg (nums (v15)), .agg (nums (v14))] rfl (fun _ => by go_simp) (.agg (nums (v25))) (fun w' hC => (kv25 w' (below_trans hb0 hC)).mono fun e w'' ⟨he, hb⟩ => ⟨he, below_class hC hb⟩) ?_
  simp only [Act.put, List.setIfInBounds_toArray, List.set_cons_zero, List.set_cons_succ]
  refine wpQ_move _ rfl rfl (.pointer (some ⟨f, 0, none⟩)) rfl ?_
  simp only [Act.put, List.setIfInBounds_toArray, List.set_cons_zero, List.set_cons_succ]
  refine wpQ_has 24 _ rfl _ rfl rfl 24 _ (fun w' hC => hv_v21.after hC) _ Tryd.underlying24 rfl (infoNum _) ?_
  simp only [Act.put, List.setIfInBounds_toArray, List.set_cons_zero, List.set_cons_succ]
  refine wpQ_has 24 _ rfl _ rfl rfl 24 _ (fun w' hC => hv_v19.after hC) _ Tryd.underlying24 rfl (infoNum _) ?_
  simp only [Act.put, List.setIfInBounds_toArray, List.set_cons_zero, List.set_cons_succ]
  refine wpQ_fn 35 _ _ rfl rfl #[.pointer (some ⟨f, 0, none⟩), .agg (nums (v21)), .agg (nums (v19))] rfl (fun _ => by go_simp) (.agg (nums (v26))) (fun w' hC => (kv26 w' (below_trans hb0 hC)).mono fun e w'' ⟨he, hb⟩ => ⟨he, below_class hC hb⟩) ?_
  simp only [Act.put, List.setIfInBounds_toArray, List.set_cons_zero, List.set_cons_succ]
  refine wpQ_fn 36 _ _ rfl rfl #[.pointer (some ⟨f, 0, none⟩), .agg (nums (v25)), .agg (nums (v26))] rfl (fun _ => by go_simp) (.agg (nums (v27))) (fun w' hC => (kv27 w' (below_trans hb0 hC)).mono fun e w'' ⟨he, hb⟩ => ⟨he, below_class hC hb⟩) ?_
  simp only [Act.put, List.setIfInBounds_toArray, List.set_cons_zero, List.set_cons_succ]
  refine wpQ_move _ rfl rfl (.pointer (some ⟨f, 0, none⟩)) rfl ?_
  simp only [Act.put, List.setIfInBounds_toArray, List.set_cons_zero, List.set_cons_succ]
  refine wpQ_move _ rfl rfl (.pointer (some ⟨f, 0, none⟩)) rfl ?_
  simp only [Act.put, List.setIfInBounds_toArray, List.set_cons_zero, List.set_cons_succ]
  refine wpQ_has 24 _ rfl _ rfl rfl 24 _ (fun w' hC => hv_v7.after hC) _ Tryd.underlying24 rfl (infoNum _) ?_
  simp only [Act.put, List.setIfInBounds_toArray, List.set_cons_zero, List.set_cons_succ]
  refine wpQ_has 24 _ rfl _ rfl rfl 24 _ (fun w' hC => hv_v14.after hC) _ Tryd.underlying24 rfl (infoNum _) ?_
  simp only [Act.put, List.setIfInBounds_toArray, List.set_cons_zero, List.set_cons_succ]
  refine wpQ_fn 35 _ _ rfl rfl #[.pointer (some ⟨f, 0, none⟩), .agg (nums (v7)), .agg (nums (v14))] rfl (fun _ => by go_simp) (.agg (nums (v28))) (fun w' hC => (kv28 w' (below_trans hb0 hC)).mono fun e w'' ⟨he, hb⟩ => ⟨he, below_class hC hb⟩) ?_
  simp only [Act.put, List.setIfInBounds_toArray, List.set_cons_zero, List.set_cons_succ]
  refine wpQ_move _ rfl rfl (.pointer (some ⟨f, 0, none⟩)) rfl ?_
  simp only [Act.put, List.setIfInBounds_toArray, List.set_cons_zero, List.set_cons_succ]
  refine wpQ_has 24 _ rfl _ rfl rfl 24 _ (fun w' hC => hv_v5.after hC) _ Tryd.underlying24 rfl (infoNum _) ?_
  simp only [Act.put, List.setIfInBounds_toArray, List.set_cons_zero, List.set_cons_succ]
  refine wpQ_has 24 _ rfl _ rfl rfl 24 _ (fun w' hC => hv_v21.after hC) _ Tryd.underlying24 rfl (infoNum _) ?_
  simp only [Act.put, List.setIfInBounds_toArray, List.set_cons_zero, List.set_cons_succ]
  refine wpQ_fn 35 _ _ rfl rfl #[.pointer (some ⟨f, 0, none⟩), .agg (nums (v5)), .agg (nums (v21))] rfl (fun _ => by go_simp) (.agg (nums (v29))) (fun w' hC => (kv29 w' (below_trans hb0 hC)).mono fun e w'' ⟨he, hb⟩ => ⟨he, below_class hC hb⟩) ?_
  simp only [Act.put, List.setIfInBounds_toArray, List.set_cons_zero, List.set_cons_succ]
  refine wpQ_fn 36 _ _ rfl rfl #[.pointer (some ⟨f, 0, none⟩), .agg (nums (v28)), .agg (nums (v29))] rfl (fun _ => by go_simp) (.agg (nums (v30))) (fun w' hC => (kv30 w' (below_trans hb0 hC)).mono fun e w'' ⟨he, hb⟩ => ⟨he, below_class hC hb⟩) ?_
  simp only [Act.put, List.setIfInBounds_toArray, List.set_cons_zero, List.set_cons_succ]
  refine wpQ_parts4 76 _ rfl rfl #[(0, .agg (nums (v24))), (1, .agg (nums (v27))), (2, .agg (nums (v30)))] (by simp only [List.map_toArray, List.map_cons, List.map_nil]; rfl) (.agg (pjC (v24) (v27) (v30))) (fun w' _ => buildPj _ _ _ w') ?_
  simp only [Act.put, List.setIfInBounds_toArray, List.set_cons_zero, List.set_cons_succ]
  refine wpQuiet_nil ?_
  intro u10 hC
  replace hv_v1 := hv_v1.after hC
  replace hv_v2 := hv_v2.after hC
  replace hv_v3 := hv_v3.after hC
  replace hv_v5 := hv_v5.after hC
  replace hv_v7 := hv_v7.after hC
  replace hv_v9 := hv_v9.after hC
  replace hv_v10 := hv_v10.after hC
  replace hv_v13 := hv_v13.after hC
  replace hv_v14 := hv_v14.after hC
  replace hv_v15 := hv_v15.after hC
  replace hv_v19 := hv_v19.after hC
  replace hv_v21 := hv_v21.after hC
  replace hR := hR.after hC
  replace hA := hA.after hC
  replace hB := hB.after hC
  replace hG := hG.after hC
  replace hb0 := below_trans hb0 hC
  clear hC
  go_wp2_with (first | refine wpList_store_row rfl 76 _ _ rfl (w.heap.size + 1 + 1) _ rfl rfl 76 _ hR (infoPj _ _ _) (by simp only [pjC_size]) (tab_oneCell _ _ fun _ => rfl) ?_)
  exact bodyPost_ret (v := .agg (pjC v24 v27 v30)) (results_cell_row rfl _ _ (w.heap.size + 1 + 1) 76 _ _ _ rfl (hR.setRow _) Tryd.underlying76 rfl (infoPj _ _ _)) rfl ⟨rfl, below_setRow hb0 (by omega) _⟩
end Go.Proofs.YtmgmfifkldpbmaaDoor
