/-
Layer 12: PmpBytes, by what package pmp's calls answer.
-/
import Derived.Test.YtjpmigagoedbcaaDoorPmI
import Derived.Test.YtjpmigagoedbcaaDoorGenB
namespace Go.Proofs.YtjpmigagoedbcaaDoor.Pm
open Go Go.RowKit

theorem run_eql_ent (a b c : Int) (W : World) (t u : Operand) :
  (do eqGuard .eql 32 t u (.agg #[.int .i64 a, .int .i64 b, .int .u32 c]) (.agg #[.int .i64 a, .int .i64 b, .int .u32 c]); binOp .eql 32 (.agg #[.int .i64 a, .int .i64 b, .int .u32 c]) (.agg #[.int .i64 a, .int .i64 b, .int .u32 c]) : Sem Value).run Tryd.prog W = .ok (.bool true) W := by
  go_simp
set_option maxRecDepth 100000 in
set_option maxHeartbeats 2000000 in
theorem bytes12_ok (H : PmpOK) (ew er : Int) (ea b a : Nat) (w : World) (hT : TabT w) (hea : ea < 4294967296) (hb : b < 256) (ha : a < 4294967296) :
    Calls Tryd.prog 7 #[.agg #[.int .i64 ew, .int .i64 er, .int .u32 (ea : Int)], .int .u8 (b : Int), .int .u32 (a : Int)] w fun e w' => e = .returned (.bool true) ∧ Below w.heap.size w w' := by
  have kf := fun W hW => fit12_any H W hW
  have kO := fun W => H.of b a W hb ha
  have kB := fun W => H.byte (b / 8 % 4) (b % 8) a W (by omega) (by omega) ha
  have e32 : b % 8 + 8 * (b / 8 % 4) = b % 32 := by omega
  rw [e32] at kB
  obtain ⟨x1, hx1⟩ : ∃ x, x = b / 8 % 4 := ⟨_, rfl⟩
  obtain ⟨x2, hx2⟩ : ∃ x, x = b % 8 := ⟨_, rfl⟩
  obtain ⟨x3, hx3⟩ : ∃ x, x = b % 32 := ⟨_, rfl⟩
  rw [← hx1, ← hx2] at kO kB
  rw [← hx3] at kB
  obtain ⟨q8, hq8⟩ : ∃ x, x = b / 8 := ⟨_, rfl⟩
  have t1 : (b : Int).tmod 8 = (x2 : Int) := by rw [Int.tmod_eq_emod_of_nonneg (by omega)]; omega
  have t1' : (b : Int) % 8 = (x2 : Int) := by omega
  have t2 : (b : Int).tdiv 8 = (q8 : Int) := by rw [Int.tdiv_eq_ediv_of_nonneg (by omega)]; omega
  have t2' : (b : Int) / 8 = (q8 : Int) := by omega
  have t3 : (q8 : Int).tmod 4 = (x1 : Int) := by rw [Int.tmod_eq_emod_of_nonneg (by omega)]; omega
  have t3' : (q8 : Int) % 4 = (x1 : Int) := by omega
  have t4 : (b : Int).tmod 32 = (x3 : Int) := by rw [Int.tmod_eq_emod_of_nonneg (by omega)]; omega
  have t4' : (b : Int) % 32 = (x3 : Int) := by omega
  have l1 : x1 < 4 := by omega
  have l2 : x2 < 8 := by omega
  have l3 : x3 < 32 := by omega
  have l8 : q8 < 32 := by omega
  clear hx1 hx2 hx3 hq8 e32
  go_enter Tryd.func7, Tryd.ntmps7
  go_wp2_with fail
  obtain ⟨wa, hwa, hX, hba, hsa⟩ := one_new w #[.int .i64 ew, .int .i64 er, .int .u32 (ea : Int)] 32
  rw [← hwa]
  refine (kf wa (hT.below hba)).mono ?_
  clear hT kf
  rintro e w1 ⟨rfl, hb1⟩
  have hX1 := hX.below hb1 hX.lt
  have hb1' := hba.trans (hb1.mono hba.size)
  clear hwa hX hba hsa hb1
  go_wp2_with fail
  refine (kO w1).mono ?_
  rintro e w2 ⟨rfl, hb2⟩
  have hX2 := hX1.below hb2 hX1.lt
  have hb2' := hb1'.trans (hb2.mono hb1'.size)
  clear hX1 hb1' hb2
  go_upto_region 4 with fail
  obtain ⟨wc, hwc, hY, hbc, hsc⟩ := one_new w2 #[.int .i64 (x1 : Int), .int .i64 (x2 : Int), .int .u32 (a : Int)] 32
  rw [← hwc]
  have hX3 := hX2.below hbc hX2.lt
  have hb3 := hb2'.trans (hbc.mono hb2'.size)
  have c0 : wc.cell? ⟨w2.heap.size, 0, none⟩ = some (.int .i64 (x1 : Int)) := hY.cell 0
  have c1 : wc.cell? ⟨w2.heap.size, 1, none⟩ = some (.int .i64 (x2 : Int)) := hY.cell 1
  have c2 : wc.cell? ⟨w2.heap.size, 2, none⟩ = some (.int .u32 (a : Int)) := hY.cell 2
  have HX3 := Lib.hid hX3
  have HB3 := Lib.hid hb3
  clear hwc hX2 hb2' hbc hsc hX3 hb3 hY
  go_wp2_with fail
  refine (kB wc).mono ?_
  rintro e w4 ⟨rfl, hb4⟩
  have hX4 := HX3.out.below hb4 HX3.out.lt
  have hb4' := HB3.out.trans (hb4.mono HB3.out.size)
  clear c0 c1 c2 hb4
  have c0 : w4.cell? ⟨w.heap.size, 0, none⟩ = some (.int .i64 ew) := hX4.cell 0
  have c1 : w4.cell? ⟨w.heap.size, 1, none⟩ = some (.int .i64 er) := hX4.cell 1
  have HX4 := Lib.hid hX4
  have HB4 := Lib.hid hb4'
  clear hX4 hb4'
  clear t1 t1' t2 t2' t3 t3'
  by_cases h1 : er < 0
  · go_wp2_with fail
    go_ret
    exact ⟨rfl, HB4.out⟩
  · by_cases h2 : 7 < er
    · go_wp2_with fail
      go_ret
      exact ⟨rfl, HB4.out⟩
    · by_cases h3 : ew < 0
      · go_wp2_with fail
        go_ret
        exact ⟨rfl, HB4.out⟩
      · by_cases h4 : 3 < ew
        · go_wp2_with fail
          go_ret
          exact ⟨rfl, HB4.out⟩
        · obtain ⟨r, rfl⟩ : ∃ r : Nat, er = (r : Int) := ⟨er.toNat, by omega⟩
          obtain ⟨x, rfl⟩ : ∃ x : Nat, ew = (x : Int) := ⟨ew.toNat, by omega⟩
          have hr7 : r ≤ 7 := by omega
          have hx3 : x ≤ 3 := by omega
          have kE := fun W => H.byte x r ea W hx3 hr7 hea
          have kF := fun W => H.of (r + 8 * x) ea W (by omega) hea
          rw [show (r + 8 * x) / 8 % 4 = x by omega, show (r + 8 * x) % 8 = r by omega] at kF
          generalize r + 8 * x = y at *
          go_upto_region 8 with fail
          clear c0 c1
          have hlt := HX4.out.lt
          have hX := HX4.out
          refine region_quiet_tail (Below w4.heap.size w4) 7 (by kernel_rfl) (by kernel_rfl) (below_drewN (Below.refl _ _) 1) ?_
          simp only [List.take_succ_cons, List.take_zero, List.drop_succ_cons, List.drop_zero]
          refine wpQ_has 32 _ rfl w.heap.size rfl rfl 32 #[.int .i64 (x : Int), .int .i64 (r : Int), .int .u32 (ea : Int)] (fun w' hC => hX.below hC hlt) _ Tryd.underlying32 rfl infoE ?_
          simp only [Act.put, List.setIfInBounds_toArray, List.set_cons_zero, List.set_cons_succ]
          refine wpQ_fn 18 _ _ rfl rfl #[.agg #[.int .i64 (x : Int), .int .i64 (r : Int), .int .u32 (ea : Int)]] rfl (fun _ => by go_simp) (.int .u8 (y : Int)) (fun w' hC => (kE w').mono fun e w'' ⟨he, hb⟩ => ⟨he, below_class hC hb⟩) ?_
          simp only [Act.put, List.setIfInBounds_toArray, List.set_cons_zero, List.set_cons_succ]
          refine wpQ_val rfl (.pointer (some ⟨w.heap.size, 2, none⟩)) (fun w' _ => by go_simp) ?_
          simp only [Act.put, List.setIfInBounds_toArray, List.set_cons_zero, List.set_cons_succ]
          refine wpQ_val rfl (.int .u32 (ea : Int)) (fun w' hC => by
            have hcell : w'.cell? ⟨w.heap.size, 2, none⟩ = some (.int .u32 (ea : Int)) := (hC.cell (p := ⟨w.heap.size, 2, none⟩) hlt).trans (hX.cell 2)
            go_simp) ?_
          simp only [Act.put, List.setIfInBounds_toArray, List.set_cons_zero, List.set_cons_succ]
          refine wpQ_fn 17 _ _ rfl rfl #[.int .u8 (y : Int), .int .u32 (ea : Int)] rfl (fun _ => by go_simp) (.agg #[.int .i64 (x : Int), .int .i64 (r : Int), .int .u32 (ea : Int)]) (fun w' hC => (kF w').mono fun e w'' ⟨he, hb⟩ => ⟨he, below_class hC hb⟩) ?_
          simp only [Act.put, List.setIfInBounds_toArray, List.set_cons_zero, List.set_cons_succ]
          refine wpQ_has 32 _ rfl w.heap.size rfl rfl 32 #[.int .i64 (x : Int), .int .i64 (r : Int), .int .u32 (ea : Int)] (fun w' hC => hX.below hC hlt) _ Tryd.underlying32 rfl infoE ?_
          simp only [Act.put, List.setIfInBounds_toArray, List.set_cons_zero, List.set_cons_succ]
          refine wpQ_bin .eql 32 _ _ 32 rfl rfl (.agg #[.int .i64 (x : Int), .int .i64 (r : Int), .int .u32 (ea : Int)]) (.agg #[.int .i64 (x : Int), .int .i64 (r : Int), .int .u32 (ea : Int)]) rfl rfl (.bool true) (fun W _ => run_eql_ent _ _ _ W _ _) ?_
          simp only [Act.put, List.setIfInBounds_toArray, List.set_cons_zero, List.set_cons_succ]
          refine wpQuiet_nil ?_
          intro w5 hC
          go_wp2_with fail
          go_ret
          exact ⟨rfl, HB4.out.trans (hC.mono HB4.out.size)⟩
end Go.Proofs.YtjpmigagoedbcaaDoor.Pm
