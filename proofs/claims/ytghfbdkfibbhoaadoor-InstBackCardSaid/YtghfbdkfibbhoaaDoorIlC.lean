/-
Layer 11: InstBack.
-/
import Derived.Test.YtghfbdkfibbhoaaDoorIlA
namespace Go.Proofs.YtghfbdkfibbhoaaDoor
open Go Go.RowKit

set_option maxRecDepth 100000 in
set_option maxHeartbeats 4000000 in
theorem back11_1 (x i x4 : Nat) (x1 x2 x3 : Int) (w : World) (hT : TabW w) (_hx : x < 4294967296) (di : ((i : Int) == 0) = false)
    (kA : ∀ W, TabW W → Calls Tryd.prog 10 #[.int .u32 (x : Int)] W fun e w' => e = .returned (.agg #[.int .i64 (i : Int), .int .i64 x1, .int .i64 x2, .int .i64 x3, .int .u32 (x4 : Int)]) ∧ Below W.heap.size W w')
    (kE : ∀ W, TabW W → Calls Tryd.prog 12 #[.agg #[.int .i64 (i : Int), .int .i64 x1, .int .i64 x2, .int .i64 x3, .int .u32 (x4 : Int)]] W fun e w' => e = .returned (.tuple #[.int .u32 (x : Int), .bool true]) ∧ Below W.heap.size W w')
    (kD0 : ∀ W, TabW W → Calls Tryd.prog 10 #[.int .u32 (x : Int)] W fun e w' => e = .returned (.agg #[.int .i64 (i : Int), .int .i64 x1, .int .i64 x2, .int .i64 x3, .int .u32 (x4 : Int)]) ∧ Below W.heap.size W w') :
    Calls Tryd.prog 4 #[.int .u32 (x : Int)] w fun e w' => e = .returned (.bool true) ∧ Below w.heap.size w w' := by
  have kf := fit11_any w hT
  have KA := Lib.hid kA
  have KE := Lib.hid kE
  have KD := Lib.hid kD0
  have HT := Lib.hid hT
  clear kA kE kD0 hT
  go_enter Tryd.func4, Tryd.ntmps4
  go_wp2_with (go_at_call 8; with_reducible refine kf.mono ?_; rintro e w0 ⟨rfl, hb0⟩)
  refine (KA.out _ (HT.out.below hb0)).mono ?_
  rintro e w1 ⟨rfl, hb1⟩
  go_upto_region 4 with fail
  obtain ⟨wa, hwa, hX, hba, hsa⟩ := one_new w1 #[.int .i64 (i : Int), .int .i64 x1, .int .i64 x2, .int .i64 x3, .int .u32 (x4 : Int)] 26
  rw [← hwa]
  have hT1 := ((HT.out.below hb0).below hb1).below hba
  have hbb := hb0.trans (hb1.mono hb0.size)
  replace hbb := hbb.trans (hba.mono hbb.size)
  clear hwa hba hsa hb1 hb0 kf
  have HT1 := Lib.hid hT1
  have HX := Lib.hid hX
  have HBB := Lib.hid hbb
  have c0 : wa.cell? ⟨w1.heap.size, 0, none⟩ = some (.int .i64 (i : Int)) := hX.cell 0
  have c1 : wa.cell? ⟨w1.heap.size, 1, none⟩ = some (.int .i64 x1) := hX.cell 1
  have c2 : wa.cell? ⟨w1.heap.size, 2, none⟩ = some (.int .i64 x2) := hX.cell 2
  have c3 : wa.cell? ⟨w1.heap.size, 3, none⟩ = some (.int .i64 x3) := hX.cell 3
  have c4 : wa.cell? ⟨w1.heap.size, 4, none⟩ = some (.int .u32 (x4 : Int)) := hX.cell 4
  clear hT1 hX hbb
  go_wp2_with fail
  refine (KE.out _ HT1.out).mono ?_
  rintro e w3 ⟨rfl, hb3⟩
  have hT3 := HT1.out.below hb3
  have hX := HX.out.below hb3 HX.out.lt
  have hb3' := HBB.out.trans (hb3.mono HBB.out.size)
  have HB3 := Lib.hid hb3'
  have HT3 := Lib.hid hT3
  clear c0 c1 c2 c3 c4 hb3 hb3' hT3
  have c0 : w3.cell? ⟨w1.heap.size, 0, none⟩ = some (.int .i64 (i : Int)) := hX.cell 0
  go_upto_region 7 with fail
  clear c0
  have kD := KD.out
  refine region_quiet_tail (Below w3.heap.size w3) 21 (by kernel_rfl) (by kernel_rfl) (below_drewN (Below.refl _ _) 1) ?_
  simp only [List.take_succ_cons, List.take_zero, List.drop_succ_cons, List.drop_zero]
  refine WQ.out ?_
  refine WQ.lift (wpQ_move _ rfl rfl (.bool true) rfl) ?_
  simp only [Act.put, List.setIfInBounds_toArray, List.set_cons_zero, List.set_cons_succ]
  refine WQ.lift (wpQ_move _ rfl rfl (.bool true) rfl) ?_
  simp only [Act.put, List.setIfInBounds_toArray, List.set_cons_zero, List.set_cons_succ]
  refine WQ.lift (wpQ_move _ rfl rfl (.int .u32 (x : Int)) rfl) ?_
  simp only [Act.put, List.setIfInBounds_toArray, List.set_cons_zero, List.set_cons_succ]
  refine WQ.lift (wpQ_move _ rfl rfl (.int .u32 (x : Int)) rfl) ?_
  simp only [Act.put, List.setIfInBounds_toArray, List.set_cons_zero, List.set_cons_succ]
  refine WQ.lift (wpQ_val rfl (.bool true) (fun w' hC => by go_simp)) ?_
  simp only [Act.put, List.setIfInBounds_toArray, List.set_cons_zero, List.set_cons_succ]
  refine WQ.lift (wpQ_move _ rfl rfl (.bool true) rfl) ?_
  simp only [Act.put, List.setIfInBounds_toArray, List.set_cons_zero, List.set_cons_succ]
  refine WQ.skip rfl ?_
  simp only [Act.put, List.setIfInBounds_toArray, List.set_cons_zero, List.set_cons_succ]
  refine WQ.skip rfl ?_
  simp only [Act.put, List.setIfInBounds_toArray, List.set_cons_zero, List.set_cons_succ]
  refine WQ.skip rfl ?_
  simp only [Act.put, List.setIfInBounds_toArray, List.set_cons_zero, List.set_cons_succ]
  refine WQ.skip rfl ?_
  simp only [Act.put, List.setIfInBounds_toArray, List.set_cons_zero, List.set_cons_succ]
  refine WQ.skip rfl ?_
  simp only [Act.put, List.setIfInBounds_toArray, List.set_cons_zero, List.set_cons_succ]
  refine WQ.skip rfl ?_
  simp only [Act.put, List.setIfInBounds_toArray, List.set_cons_zero, List.set_cons_succ]
  refine WQ.skip rfl ?_
  simp only [Act.put, List.setIfInBounds_toArray, List.set_cons_zero, List.set_cons_succ]
  refine WQ.lift (wpQ_pick _ _ _ rfl rfl true rfl (.bool true) rfl) ?_
  simp only [Act.put, List.setIfInBounds_toArray, List.set_cons_zero, List.set_cons_succ]
  refine WQ.lift (wpQ_pick _ _ _ rfl rfl true rfl (.bool true) rfl) ?_
  simp only [Act.put, List.setIfInBounds_toArray, List.set_cons_zero, List.set_cons_succ]
  refine WQ.lift (wpQ_move _ rfl rfl (.bool true) rfl) ?_
  simp only [Act.put, List.setIfInBounds_toArray, List.set_cons_zero, List.set_cons_succ]
  refine WQ.lift (wpQ_move _ rfl rfl (.int .u32 (x : Int)) rfl) ?_
  simp only [Act.put, List.setIfInBounds_toArray, List.set_cons_zero, List.set_cons_succ]
  refine WQ.lift (wpQ_fn 10 _ _ rfl rfl #[.int .u32 (x : Int)] rfl (fun _ => by go_simp) (.agg #[.int .i64 (i : Int), .int .i64 x1, .int .i64 x2, .int .i64 x3, .int .u32 (x4 : Int)]) (fun w' hC => (kD w' (TabW.below HT3.out hC)).mono fun e w'' ⟨he, hb⟩ => ⟨he, below_class hC hb⟩)) ?_
  simp only [Act.put, List.setIfInBounds_toArray, List.set_cons_zero, List.set_cons_succ]
  refine WQ.lift (wpQ_has 26 _ rfl w1.heap.size rfl rfl 26 #[.int .i64 (i : Int), .int .i64 x1, .int .i64 x2, .int .i64 x3, .int .u32 (x4 : Int)] (fun w' hC => hX.below hC hX.lt) _ Tryd.underlying26 rfl infoIa5) ?_
  simp only [Act.put, List.setIfInBounds_toArray, List.set_cons_zero, List.set_cons_succ]
  refine WQ.lift (wpQ_bin .eql 26 _ _ 26 rfl rfl (.agg #[.int .i64 (i : Int), .int .i64 x1, .int .i64 x2, .int .i64 x3, .int .u32 (x4 : Int)]) (.agg #[.int .i64 (i : Int), .int .i64 x1, .int .i64 x2, .int .i64 x3, .int .u32 (x4 : Int)]) rfl rfl (.bool true) (fun W _ => by rw [run_eql_inst, eqB_refl])) ?_
  simp only [Act.put, List.setIfInBounds_toArray, List.set_cons_zero, List.set_cons_succ]
  refine WQ.lift (wpQ_pick _ _ _ rfl rfl true rfl (.bool true) rfl) ?_
  simp only [Act.put, List.setIfInBounds_toArray, List.set_cons_zero, List.set_cons_succ]
  refine WQ.mk (wpQuiet_nil ?_)
  intro w' hC
  go_wp2_with fail
  go_ret
  exact ⟨rfl, HB3.out.trans (hC.mono HB3.out.size)⟩
set_option maxRecDepth 100000 in
set_option maxHeartbeats 4000000 in
theorem back11_2 (x x4 : Nat) (x1 x2 x3 : Int) (w : World) (hT : TabW w) (_hx : x < 4294967296) (hx15 : (x : Int) ≠ 15)
    (kA : ∀ W, TabW W → Calls Tryd.prog 10 #[.int .u32 (x : Int)] W fun e w' => e = .returned (.agg #[.int .i64 46, .int .i64 x1, .int .i64 x2, .int .i64 x3, .int .u32 (x4 : Int)]) ∧ Below W.heap.size W w')
    (kE : ∀ W, TabW W → Calls Tryd.prog 12 #[.agg #[.int .i64 46, .int .i64 x1, .int .i64 x2, .int .i64 x3, .int .u32 (x4 : Int)]] W fun e w' => e = .returned (.tuple #[.int .u32 15, .bool true]) ∧ Below W.heap.size W w')
    (kD0 : ∀ W, TabW W → Calls Tryd.prog 10 #[.int .u32 15] W fun e w' => e = .returned (.agg #[.int .i64 46, .int .i64 x1, .int .i64 x2, .int .i64 x3, .int .u32 (x4 : Int)]) ∧ Below W.heap.size W w') :
    Calls Tryd.prog 4 #[.int .u32 (x : Int)] w fun e w' => e = .returned (.bool true) ∧ Below w.heap.size w w' := by
  have kf := fit11_any w hT
  have KA := Lib.hid kA
  have KE := Lib.hid kE
  have KD := Lib.hid kD0
  have HT := Lib.hid hT
  clear kA kE kD0 hT
  go_enter Tryd.func4, Tryd.ntmps4
  go_wp2_with (go_at_call 8; with_reducible refine kf.mono ?_; rintro e w0 ⟨rfl, hb0⟩)
  refine (KA.out _ (HT.out.below hb0)).mono ?_
  rintro e w1 ⟨rfl, hb1⟩
  go_upto_region 4 with fail
  obtain ⟨wa, hwa, hX, hba, hsa⟩ := one_new w1 #[.int .i64 46, .int .i64 x1, .int .i64 x2, .int .i64 x3, .int .u32 (x4 : Int)] 26
  rw [← hwa]
  have hT1 := ((HT.out.below hb0).below hb1).below hba
  have hbb := hb0.trans (hb1.mono hb0.size)
  replace hbb := hbb.trans (hba.mono hbb.size)
  clear hwa hba hsa hb1 hb0 kf
  have HT1 := Lib.hid hT1
  have HX := Lib.hid hX
  have HBB := Lib.hid hbb
  have c0 : wa.cell? ⟨w1.heap.size, 0, none⟩ = some (.int .i64 46) := hX.cell 0
  have c1 : wa.cell? ⟨w1.heap.size, 1, none⟩ = some (.int .i64 x1) := hX.cell 1
  have c2 : wa.cell? ⟨w1.heap.size, 2, none⟩ = some (.int .i64 x2) := hX.cell 2
  have c3 : wa.cell? ⟨w1.heap.size, 3, none⟩ = some (.int .i64 x3) := hX.cell 3
  have c4 : wa.cell? ⟨w1.heap.size, 4, none⟩ = some (.int .u32 (x4 : Int)) := hX.cell 4
  clear hT1 hX hbb
  go_wp2_with fail
  refine (KE.out _ HT1.out).mono ?_
  rintro e w3 ⟨rfl, hb3⟩
  have hT3 := HT1.out.below hb3
  have hX := HX.out.below hb3 HX.out.lt
  have hb3' := HBB.out.trans (hb3.mono HBB.out.size)
  have HB3 := Lib.hid hb3'
  have HT3 := Lib.hid hT3
  clear c0 c1 c2 c3 c4 hb3 hb3' hT3
  have c0 : w3.cell? ⟨w1.heap.size, 0, none⟩ = some (.int .i64 46) := hX.cell 0
  go_upto_region 7 with fail
  clear c0
  have kD := KD.out
  refine region_quiet_tail (Below w3.heap.size w3) 21 (by kernel_rfl) (by kernel_rfl) (below_drewN (Below.refl _ _) 1) ?_
  simp only [List.take_succ_cons, List.take_zero, List.drop_succ_cons, List.drop_zero]
  refine WQ.out ?_
  refine WQ.lift (wpQ_move _ rfl rfl (.bool true) rfl) ?_
  simp only [Act.put, List.setIfInBounds_toArray, List.set_cons_zero, List.set_cons_succ]
  refine WQ.lift (wpQ_move _ rfl rfl (.bool true) rfl) ?_
  simp only [Act.put, List.setIfInBounds_toArray, List.set_cons_zero, List.set_cons_succ]
  refine WQ.lift (wpQ_move _ rfl rfl (.int .u32 15) rfl) ?_
  simp only [Act.put, List.setIfInBounds_toArray, List.set_cons_zero, List.set_cons_succ]
  refine WQ.lift (wpQ_move _ rfl rfl (.int .u32 (x : Int)) rfl) ?_
  simp only [Act.put, List.setIfInBounds_toArray, List.set_cons_zero, List.set_cons_succ]
  refine WQ.lift (wpQ_val rfl (.bool false) (fun w' hC => by go_simp; exact fun e => hx15 e.symm)) ?_
  simp only [Act.put, List.setIfInBounds_toArray, List.set_cons_zero, List.set_cons_succ]
  refine WQ.lift (wpQ_move _ rfl rfl (.bool false) rfl) ?_
  simp only [Act.put, List.setIfInBounds_toArray, List.set_cons_zero, List.set_cons_succ]
  refine WQ.lift (wpQ_val rfl (.pointer (some ⟨w1.heap.size, 0, none⟩)) (fun w' _ => by go_simp)) ?_
  simp only [Act.put, List.setIfInBounds_toArray, List.set_cons_zero, List.set_cons_succ]
  refine WQ.lift (wpQ_load 3 (.tmp 31) rfl rfl (.pointer (some ⟨w1.heap.size, 0, none⟩)) rfl (.int .i64 46) (fun w' hC => by
      have hcell : w'.cell? ⟨w1.heap.size, 0, none⟩ = some (.int .i64 46) := (hC.cell (p := ⟨w1.heap.size, 0, none⟩) hX.lt).trans (hX.cell 0)
      go_simp)) ?_
  simp only [Act.put, List.setIfInBounds_toArray, List.set_cons_zero, List.set_cons_succ]
  refine WQ.lift (wpQ_val rfl (.bool true) (fun w' _ => by go_simp)) ?_
  simp only [Act.put, List.setIfInBounds_toArray, List.set_cons_zero, List.set_cons_succ]
  refine WQ.lift (wpQ_move _ rfl rfl (.bool true) rfl) ?_
  simp only [Act.put, List.setIfInBounds_toArray, List.set_cons_zero, List.set_cons_succ]
  refine WQ.lift (wpQ_move _ rfl rfl (.int .u32 15) rfl) ?_
  simp only [Act.put, List.setIfInBounds_toArray, List.set_cons_zero, List.set_cons_succ]
  refine WQ.lift (wpQ_val rfl (.bool true) (fun w' _ => by go_simp)) ?_
  simp only [Act.put, List.setIfInBounds_toArray, List.set_cons_zero, List.set_cons_succ]
  refine WQ.lift (wpQ_pick _ _ _ rfl rfl true rfl (.bool true) rfl) ?_
  simp only [Act.put, List.setIfInBounds_toArray, List.set_cons_zero, List.set_cons_succ]
  refine WQ.lift (wpQ_pick _ _ _ rfl rfl false rfl (.bool true) rfl) ?_
  simp only [Act.put, List.setIfInBounds_toArray, List.set_cons_zero, List.set_cons_succ]
  refine WQ.lift (wpQ_pick _ _ _ rfl rfl true rfl (.bool true) rfl) ?_
  simp only [Act.put, List.setIfInBounds_toArray, List.set_cons_zero, List.set_cons_succ]
  refine WQ.lift (wpQ_move _ rfl rfl (.bool true) rfl) ?_
  simp only [Act.put, List.setIfInBounds_toArray, List.set_cons_zero, List.set_cons_succ]
  refine WQ.lift (wpQ_move _ rfl rfl (.int .u32 15) rfl) ?_
  simp only [Act.put, List.setIfInBounds_toArray, List.set_cons_zero, List.set_cons_succ]
  refine WQ.lift (wpQ_fn 10 _ _ rfl rfl #[.int .u32 15] rfl (fun _ => by go_simp) (.agg #[.int .i64 46, .int .i64 x1, .int .i64 x2, .int .i64 x3, .int .u32 (x4 : Int)]) (fun w' hC => (kD w' (TabW.below HT3.out hC)).mono fun e w'' ⟨he, hb⟩ => ⟨he, below_class hC hb⟩)) ?_
  simp only [Act.put, List.setIfInBounds_toArray, List.set_cons_zero, List.set_cons_succ]
  refine WQ.lift (wpQ_has 26 _ rfl w1.heap.size rfl rfl 26 #[.int .i64 46, .int .i64 x1, .int .i64 x2, .int .i64 x3, .int .u32 (x4 : Int)] (fun w' hC => hX.below hC hX.lt) _ Tryd.underlying26 rfl infoIa5) ?_
  simp only [Act.put, List.setIfInBounds_toArray, List.set_cons_zero, List.set_cons_succ]
  refine WQ.lift (wpQ_bin .eql 26 _ _ 26 rfl rfl (.agg #[.int .i64 46, .int .i64 x1, .int .i64 x2, .int .i64 x3, .int .u32 (x4 : Int)]) (.agg #[.int .i64 46, .int .i64 x1, .int .i64 x2, .int .i64 x3, .int .u32 (x4 : Int)]) rfl rfl (.bool true) (fun W _ => by rw [run_eql_inst, eqB_refl])) ?_
  simp only [Act.put, List.setIfInBounds_toArray, List.set_cons_zero, List.set_cons_succ]
  refine WQ.lift (wpQ_pick _ _ _ rfl rfl true rfl (.bool true) rfl) ?_
  simp only [Act.put, List.setIfInBounds_toArray, List.set_cons_zero, List.set_cons_succ]
  refine WQ.mk (wpQuiet_nil ?_)
  intro w' hC
  go_wp2_with fail
  go_ret
  exact ⟨rfl, HB3.out.trans (hC.mono HB3.out.size)⟩
set_option maxRecDepth 100000 in
set_option maxHeartbeats 4000000 in
theorem back11_0 (x : Nat) (w : World) (hT : TabW w) (_hx : x < 4294967296)
    (kA : ∀ W, TabW W → Calls Tryd.prog 10 #[.int .u32 (x : Int)] W fun e w' => e = .returned (.agg #[.int .i64 0, .int .i64 0, .int .i64 0, .int .i64 0, .int .u32 0]) ∧ Below W.heap.size W w')
    (kE : ∀ W, TabW W → Calls Tryd.prog 12 #[.agg #[.int .i64 0, .int .i64 0, .int .i64 0, .int .i64 0, .int .u32 0]] W fun e w' => e = .returned (.tuple #[.int .u32 0, .bool false]) ∧ Below W.heap.size W w') :
    Calls Tryd.prog 4 #[.int .u32 (x : Int)] w fun e w' => e = .returned (.bool true) ∧ Below w.heap.size w w' := by
  have kf := fit11_any w hT
  have KA := Lib.hid kA
  have KE := Lib.hid kE
  have HT := Lib.hid hT
  clear kA kE hT
  go_enter Tryd.func4, Tryd.ntmps4
  go_wp2_with (go_at_call 8; with_reducible refine kf.mono ?_; rintro e w0 ⟨rfl, hb0⟩)
  refine (KA.out _ (HT.out.below hb0)).mono ?_
  rintro e w1 ⟨rfl, hb1⟩
  go_upto_region 4 with fail
  obtain ⟨wa, hwa, hX, hba, hsa⟩ := one_new w1 #[.int .i64 0, .int .i64 0, .int .i64 0, .int .i64 0, .int .u32 0] 26
  rw [← hwa]
  have hT1 := ((HT.out.below hb0).below hb1).below hba
  have hbb := hb0.trans (hb1.mono hb0.size)
  replace hbb := hbb.trans (hba.mono hbb.size)
  clear hwa hba hsa hb1 hb0 kf
  have HT1 := Lib.hid hT1
  have HX := Lib.hid hX
  have HBB := Lib.hid hbb
  have c0 : wa.cell? ⟨w1.heap.size, 0, none⟩ = some (.int .i64 0) := hX.cell 0
  have c1 : wa.cell? ⟨w1.heap.size, 1, none⟩ = some (.int .i64 0) := hX.cell 1
  have c2 : wa.cell? ⟨w1.heap.size, 2, none⟩ = some (.int .i64 0) := hX.cell 2
  have c3 : wa.cell? ⟨w1.heap.size, 3, none⟩ = some (.int .i64 0) := hX.cell 3
  have c4 : wa.cell? ⟨w1.heap.size, 4, none⟩ = some (.int .u32 0) := hX.cell 4
  clear hT1 hX hbb
  go_wp2_with fail
  refine (KE.out _ HT1.out).mono ?_
  rintro e w3 ⟨rfl, hb3⟩
  have hX := HX.out.below hb3 HX.out.lt
  have hb3' := HBB.out.trans (hb3.mono HBB.out.size)
  have HB3 := Lib.hid hb3'
  clear c0 c1 c2 c3 c4 hb3 hb3'
  have c0 : w3.cell? ⟨w1.heap.size, 0, none⟩ = some (.int .i64 0) := hX.cell 0
  have c1 : w3.cell? ⟨w1.heap.size, 1, none⟩ = some (.int .i64 0) := hX.cell 1
  have c2 : w3.cell? ⟨w1.heap.size, 2, none⟩ = some (.int .i64 0) := hX.cell 2
  have c3 : w3.cell? ⟨w1.heap.size, 3, none⟩ = some (.int .i64 0) := hX.cell 3
  have c4 : w3.cell? ⟨w1.heap.size, 4, none⟩ = some (.int .u32 0) := hX.cell 4
  clear hX
  go_wp2_with fail
  go_ret
  exact ⟨rfl, HB3.out⟩
theorem back11_ok (x : Nat) (w : World) (hT : TabW w) (hx : x < 4294967296) :
    Calls Tryd.prog 4 #[.int .u32 (x : Int)] w fun e w' => e = .returned (.bool true) ∧ Below w.heap.size w w' := by
  have kA := fun W (hT : TabW W) => adecode_any x W hT hx
  rcases opOf_cases x with h0 | ⟨h1, h2, hm⟩
  · rw [h0, insW_zero] at kA
    exact back11_0 x w hT hx kA fun W _ => aencode_no 0 0 0 0 0 W (by omega)
  · obtain ⟨i, hi⟩ : ∃ i, i = opOf x := ⟨_, rfl⟩
    rw [← hi] at h1 h2 hm kA
    have kE := fun W (hT : TabW W) => aencode_any i ((if rdB (opP i).1 then bitsN x 11 7 else 0 : Nat) : Int) ((if r1B (opP i).1 then bitsN x 19 15 else 0 : Nat) : Int) ((if r2B (opP i).1 then bitsN x 24 20 else 0 : Nat) : Int) (immL (opP i).1 x) W hT h1 h2 (immL_lt _ _)
    rw [encB_back x i hx h1 h2 hm, if_pos rfl, enc_back x i hx h1 h2 hm] at kE
    have kD := fun W (hT : TabW W) => adecode_any (bakW x i) W hT (bak_lt x i hx)
    rw [bak_op x i h1 h2 hm, bak_ins] at kD
    by_cases h : bakW x i = x
    · rw [h] at kE kD
      exact back11_1 x i _ _ _ _ w hT hx (beq_eq_false_iff_ne.2 (by omega)) kA kE kD
    · have h46 : i = 46 := by
        by_cases h46 : i = 46
        · exact h46
        · exact absurd (show bakW x i = x by unfold bakW; rw [if_neg h46]) h
      subst h46
      have e15 : bakW x 46 = 15 := rfl
      rw [e15] at kE kD h
      exact back11_2 x _ _ _ _ w hT hx (fun e => h (by omega)) kA kE kD
end Go.Proofs.YtghfbdkfibbhoaaDoor
