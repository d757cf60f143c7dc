/-
MontSums: sums and differences are the document's: the walk, over what package mont's calls do.
-/
import Derived.Test.YtodialbopochdaaMontG
namespace Go.Proofs.Ytodialbopochdaa
open Go.RowKit

theorem info8w (x : Nat) : (Try.prog.info? 23).map (·.size) = some (nums x).size := by rw [nums_size]; kernel_rfl
/-- '==' of two numbers that may differ -/
theorem numEql2 (x y : Nat) (hx : x < big) (hy : y < big) (W : World) : (binOp .eql 24 (.agg (nums x)) (.agg (nums y))).run Try.prog W = .ok (.bool (decide (x = y))) W := by
  obtain ⟨i, hi, _, hs, _⟩ := info_parts infoW
  have h := run_eql_tab (P := Try.prog) W 24 22 8 .u32 .u32 i (fun j => ((dg 4294967296 x j : Nat) : Int)) (fun j => ((dg 4294967296 y j : Nat) : Int)) Try.underlying24 Try.underlying22 hi hs
  have e : sameTo (fun j => ((dg 4294967296 x j : Nat) : Int)) (fun j => ((dg 4294967296 y j : Nat) : Int)) 8 = decide (x = y) := by
    by_cases h : x = y
    · subst h; simp [sameTo_refl]
    · rw [decide_eq_false h, ← Bool.not_eq_true, sameTo_iff]
      exact fun hc => h (digits_inj hx hy fun j hj => by have := hc j hj; omega)
  rw [e] at h
  exact h
theorem word0_mod (m : Nat) : wrd m 0 % 2 = m % 2 := by unfold wrd dg; rw [Nat.pow_zero, Nat.div_one]; omega
attribute [local go_sem] zeroNum zero16 nw1
set_option maxRecDepth 100000 in
set_option maxHeartbeats 2000000 in
theorem sums_ok {Is : World → Nat → Nat → Prop} (H : MontOK Is) (m a b : Nat) (w : World) (hm : m < big) (ha : a < big) (hbb : b < big) (hodd : m % 2 = 1) (h1 : 1 < m) :
    Calls Try.prog 3 #[.agg (nums m), .agg (nums a), .agg (nums b)] w fun e w' => e = .returned (.bool true) ∧ Below w.heap.size w w' := by
  have hm16 : m < 65536 ^ 16 := by rw [← big_hex]; exact hm
  have ha16 : a < 65536 ^ 16 := by rw [← big_hex]; exact ha
  have hb16 : b < 65536 ^ 16 := by rw [← big_hex]; exact hbb
  have m0 : 0 < m := by omega
  have hlt := fun x => Nat.mod_lt x m0
  have n0 := d16_ne 0
  have n1 := nums_ne 0
  have e1 : decide (m = 1) = false := decide_eq_false (by omega)
  have em1 := fun W => numEql2 m 1 hm (by decide +kernel) W
  rw [e1] at em1
  have emm := fun o1 o2 W => numNeq o1 o2 m W
  have hw0 : ((wrd m 0 : Nat) : Int) % 2 = 1 := by have := word0_mod m; omega
  have hw1 : ((wrd m 0 : Nat) : Int).tmod 2 = 1 := by rw [Int.tmod_eq_emod_of_nonneg (by omega)]; exact hw0
  obtain ⟨am, ham⟩ : ∃ am, am = a % m := ⟨_, rfl⟩
  obtain ⟨bm, hbm⟩ : ∃ bm, bm = b % m := ⟨_, rfl⟩
  have lam : am < m := by rw [ham]; exact hlt _
  have lbm : bm < m := by rw [hbm]; exact hlt _
  obtain ⟨s, hs⟩ : ∃ s, s = (am + bm) % m := ⟨_, rfl⟩
  obtain ⟨d, hd⟩ : ∃ d, d = (am + (m - bm)) % m := ⟨_, rfl⟩
  have ls : s < m := by rw [hs]; exact hlt _
  have ld : d < m := by rw [hd]; exact hlt _
  have cRA := fun W => reduce3_any a m W ha16 m0 hm16
  rw [← ham] at cRA
  have cRB := fun W => reduce3_any b m W hb16 m0 hm16
  rw [← hbm] at cRB
  have cWA := fun W => words3_any am W (by omega)
  have cWB := fun W => words3_any bm W (by omega)
  have cS := fun W => sum3_any am bm m W lam lbm hm16
  rw [← hs] at cS
  have cD := fun W => dif3_any am bm m W lam lbm hm16
  rw [← hd] at cD
  have kR := fun g W (h : Is W g m) => H.reduce_ok W g m a h ha
  rw [← ham] at kR
  have kS := fun g W (h : Is W g m) => H.add_ok W g m am bm h lam lbm
  rw [← hs] at kS
  have kD := fun g W (h : Is W g m) => H.sub_ok W g m am bm h lam lbm
  rw [← hd] at kD
  have kM := fun g W (h : Is W g m) => H.modulus_ok W g m h
  have kL1 := fun W => like_any am W (by omega)
  have kL2 := fun W => like_any s W (by omega)
  have kL3 := fun W => like_any d W (by omega)
  have rnew2 := fun W => H.new_ok m W hodd h1 hm
  clear hm16 ha16 hb16 hlt ham hbm lam lbm hs hd ls ld m0 e1
  have hM : Has (((w.alloc (.cells (nums m) 24)).alloc (.cells (nums a) 24)).alloc (.cells (nums b) 24)) w.heap.size 24 (nums m) := ((Has.new w _ _).alloc _).alloc _
  have hA : Has (((w.alloc (.cells (nums m) 24)).alloc (.cells (nums a) 24)).alloc (.cells (nums b) 24)) (w.heap.size + 1) 24 (nums a) := (Has.new' (by simp)).alloc _
  have hB : Has (((w.alloc (.cells (nums m) 24)).alloc (.cells (nums a) 24)).alloc (.cells (nums b) 24)) (w.heap.size + 1 + 1) 24 (nums b) := Has.new' (by simp)
  have hb0 : Below w.heap.size w (((w.alloc (.cells (nums m) 24)).alloc (.cells (nums a) 24)).alloc (.cells (nums b) 24)) := (((Below.refl _ _).alloc (Nat.le_refl _) _).alloc (by simp) _).alloc (by simp <;> omega) _
  go_enter Try.func3, Try.ntmps3
  go_wp2_with fail
  refine (fit3_any H _).mono ?_
  rintro e w1 ⟨rfl, hx⟩
  replace hM := hM.after hx
  replace hA := hA.after hx
  replace hB := hB.after hx
  replace hb0 := below_trans hb0 hx
  clear hx
  go_wp2_with (refine wpList_load_has 24 _ rfl _ rfl rfl 24 _ hM _ Try.underlying24 rfl (infoNum _) ?_)
  refine (rnew2 _).mono ?_
  rintro e w2 ⟨⟨g, rfl, hI⟩, hx⟩
  replace hM := hM.after hx
  replace hA := hA.after hx
  replace hB := hB.after hx
  replace hb0 := below_trans hb0 hx
  clear hx rnew2
  have c0 := nums_at hM 0 (by decide)
  go_wp2_with (refine wpList_load_has 24 _ rfl _ rfl rfl 24 _ hM _ Try.underlying24 rfl (infoNum _) ?_)
  clear c0 em1 hw0 hw1
  refine region_quiet_tail (Below w2.heap.size w2) 7 (by kernel_rfl) (by kernel_rfl) (below_drewN (Below.refl _ _) 1) ?_
  simp only [List.take_succ_cons, List.take_zero, List.drop_succ_cons, List.drop_zero]
  refine wpQ_move _ rfl rfl (.int .i64 0) rfl ?_
  simp only [Act.put, List.setIfInBounds_toArray, List.set_cons_zero, List.set_cons_succ]
  refine wpQ_bin _ _ _ _ _ rfl rfl (.int .i64 0) (.int .i64 0) rfl rfl (.bool false) (fun w' _ => errNeq _ _ w') ?_
  simp only [Act.put, List.setIfInBounds_toArray, List.set_cons_zero, List.set_cons_succ]
  refine wpQ_move _ rfl rfl (.bool false) rfl ?_
  simp only [Act.put, List.setIfInBounds_toArray, List.set_cons_zero, List.set_cons_succ]
  refine wpQ_move _ rfl rfl (.pointer (some ⟨g, 0, none⟩)) rfl ?_
  simp only [Act.put, List.setIfInBounds_toArray, List.set_cons_zero, List.set_cons_succ]
  refine wpQ_fn 11 _ _ rfl rfl #[.pointer (some ⟨g, 0, none⟩)] rfl (fun _ => by go_simp) (.agg (nums m)) (fun w' hC => (kM g w' (H.keep hI hC)).mono fun e w'' ⟨he, hb⟩ => ⟨he, below_class hC hb⟩) ?_
  simp only [Act.put, List.setIfInBounds_toArray, List.set_cons_zero, List.set_cons_succ]
  refine wpQ_has 24 _ rfl _ rfl rfl 24 _ (fun w' hC => hM.after hC) _ Try.underlying24 rfl (infoNum _) ?_
  simp only [Act.put, List.setIfInBounds_toArray, List.set_cons_zero, List.set_cons_succ]
  refine wpQ_bin _ _ _ _ _ rfl rfl (.agg (nums m)) (.agg (nums m)) rfl rfl (.bool false) (fun w' _ => numNeq _ _ _ w') ?_
  simp only [Act.put, List.setIfInBounds_toArray, List.set_cons_zero, List.set_cons_succ]
  refine wpQuiet_nil ?_
  intro w3 hC
  replace hM := hM.after hC
  replace hA := hA.after hC
  replace hB := hB.after hC
  replace hI := H.keep hI hC
  replace hb0 := below_trans hb0 hC
  clear hC
  go_wp2_with (refine wpList_load_has 24 _ rfl _ rfl rfl 24 _ hM _ Try.underlying24 rfl (infoNum _) ?_)
  refine (of3_any m _).mono ?_
  rintro e w4 ⟨rfl, hx⟩
  have hN := put_new w4 34 (d16 0) (d16 m)
  replace hM := (hM.after hx).after hN.2
  replace hA := (hA.after hx).after hN.2
  replace hB := (hB.after hx).after hN.2
  replace hI := H.keep (H.keep hI hx) hN.2
  replace hb0 := below_trans (below_trans hb0 hx) hN.2
  have hKm := hN.1
  clear hx hN
  go_wp2_with (refine wpList_store_row rfl 34 _ _ rfl w4.heap.size _ rfl rfl 34 (d16 0) (Has.new' rfl) (info16 _) (by simp only [d16_size]) (tab_oneCell _ _ fun _ => rfl) ?_)
  generalize hW : Go.World.setRow _ _ _ = W5 at *
  clear hW

  refine region_facts 10 [] [.val (.agg (nums a)), .val (.agg (d16 a)), .val (.agg (d16 m)), .val (.agg (d16 am)), .val (.agg (nums b)), .val (.agg (d16 b)), .val (.agg (d16 m)), .val (.agg (d16 bm)), .new 34 (d16 0), .new 34 (d16 0)]
    (by kernel_rfl) (by kernel_rfl) (fun _ _ _ _ _ h => h) ?_ ?_
  · simp only [List.take_succ_cons, List.take_zero, StepsOK]
    refine ⟨?_, ?_, ?_, ?_, ?_, ?_, ?_, ?_, ?_, ?_, trivial⟩
    · intro v w' hb hf K hKt
      simp only [putAll, Act.put, List.setIfInBounds_toArray, List.set_cons_zero, List.set_cons_succ, Nat.zero_add, Nat.reduceAdd] at hKt ⊢
      exact wp_load_row 24 _ rfl (w.heap.size + 1) rfl 24 _ (0, 0) _ (hA.after hb) Try.underlying24 rfl (infoNum _) (hKt _ (Below.refl _ _))
    · intro v w' hb hf K hKt
      have f0 : v 0 = _ := hf ⟨0, .data⟩ (by simp) rfl
      simp only [putAll, Act.put, List.setIfInBounds_toArray, List.set_cons_zero, List.set_cons_succ, Nat.zero_add, Nat.reduceAdd] at hKt ⊢
      rw [f0] at hKt ⊢
      go_simp
      refine (of3_any a w').mono ?_
      rintro e w'' ⟨rfl, hb2⟩
      exact hKt _ hb2
    · intro v w' hb hf K hKt
      simp only [putAll, Act.put, List.setIfInBounds_toArray, List.set_cons_zero, List.set_cons_succ, Nat.zero_add, Nat.reduceAdd] at hKt ⊢
      exact wp_load_row 34 _ rfl (w4.heap.size) rfl 34 _ (0, 0) _ (hKm.after hb) Try.underlying34 rfl (info16 _) (hKt _ (Below.refl _ _))
    · intro v w' hb hf K hKt
      have f1 : v 1 = _ := hf ⟨1, .data⟩ (by simp) rfl
      have f2 : v 2 = _ := hf ⟨2, .data⟩ (by simp) rfl
      simp only [putAll, Act.put, List.setIfInBounds_toArray, List.set_cons_zero, List.set_cons_succ, Nat.zero_add, Nat.reduceAdd] at hKt ⊢
      rw [f1, f2] at hKt ⊢
      go_simp
      refine (cRA w').mono ?_
      rintro e w'' ⟨rfl, hb2⟩
      exact hKt _ hb2
    · intro v w' hb hf K hKt
      simp only [putAll, Act.put, List.setIfInBounds_toArray, List.set_cons_zero, List.set_cons_succ, Nat.zero_add, Nat.reduceAdd] at hKt ⊢
      exact wp_load_row 24 _ rfl (w.heap.size + 1 + 1) rfl 24 _ (0, 0) _ (hB.after hb) Try.underlying24 rfl (infoNum _) (hKt _ (Below.refl _ _))
    · intro v w' hb hf K hKt
      have f4 : v 4 = _ := hf ⟨4, .data⟩ (by simp) rfl
      simp only [putAll, Act.put, List.setIfInBounds_toArray, List.set_cons_zero, List.set_cons_succ, Nat.zero_add, Nat.reduceAdd] at hKt ⊢
      rw [f4] at hKt ⊢
      go_simp
      refine (of3_any b w').mono ?_
      rintro e w'' ⟨rfl, hb2⟩
      exact hKt _ hb2
    · intro v w' hb hf K hKt
      simp only [putAll, Act.put, List.setIfInBounds_toArray, List.set_cons_zero, List.set_cons_succ, Nat.zero_add, Nat.reduceAdd] at hKt ⊢
      exact wp_load_row 34 _ rfl (w4.heap.size) rfl 34 _ (0, 0) _ (hKm.after hb) Try.underlying34 rfl (info16 _) (hKt _ (Below.refl _ _))
    · intro v w' hb hf K hKt
      have f5 : v 5 = _ := hf ⟨5, .data⟩ (by simp) rfl
      have f6 : v 6 = _ := hf ⟨6, .data⟩ (by simp) rfl
      simp only [putAll, Act.put, List.setIfInBounds_toArray, List.set_cons_zero, List.set_cons_succ, Nat.zero_add, Nat.reduceAdd] at hKt ⊢
      rw [f5, f6] at hKt ⊢
      go_simp
      refine (cRB w').mono ?_
      rintro e w'' ⟨rfl, hb2⟩
      exact hKt _ hb2
    · exact ⟨rfl, rfl, zeroV16⟩
    · exact ⟨rfl, rfl, zeroV16⟩
  intro v W6 hb hF hD
  have f0 : v 0 = _ := hF 0 (by decide)
  have f1 : v 1 = _ := hF 1 (by decide)
  have f2 : v 2 = _ := hF 2 (by decide)
  have f3 : v 3 = _ := hF 3 (by decide)
  have f4 : v 4 = _ := hF 4 (by decide)
  have f5 : v 5 = _ := hF 5 (by decide)
  have f6 : v 6 = _ := hF 6 (by decide)
  have f7 : v 7 = _ := hF 7 (by decide)
  obtain ⟨gp, f8, hg8, hl8, hz8⟩ := hF 8 (by decide)
  replace hz8 : Has W6 gp 34 (d16 0) := hz8
  obtain ⟨gq, f9, hg9, hl9, hz9⟩ := hF 9 (by decide)
  replace hz9 : Has W6 gq 34 (d16 0) := hz9
  have hne8_9 : gp ≠ gq := fun h => hD 8 9 (by decide) (by decide) (by decide) rfl rfl (by rw [f8, f9, h])
  simp only [List.take_succ_cons, List.take_zero, List.drop_succ_cons, List.drop_zero, putAll, Act.put, List.setIfInBounds_toArray, List.set_cons_zero, List.set_cons_succ, Nat.zero_add, Nat.reduceAdd]
  rw [f0, f1, f2, f3, f4, f5, f6, f7, f8, f9]
  clear hF hD f0 f1 f2 f3 f4 f5 f6 f7 f8 f9
  have hs8 := hz8
  have hs9 := (hz9).farRow (k := gp) (by omega) (d16 am)
  have hBW := below_setRow (below_setRow (hb) (g := gp) hg8 (d16 am)) (g := gq) hg9 (d16 bm)
  have hP := ((hz8).setRow (d16 am)).farRow (k := gq) (by omega) (d16 bm)
  have hQ := ((hz9).farRow (k := gp) (by omega) (d16 am)).setRow (d16 bm)
  replace hA := hA.after hBW
  replace hB := hB.after hBW
  replace hKm := hKm.after hBW
  replace hM := hM.after hBW
  replace hI := H.keep hI hBW
  replace hb0 := below_trans hb0 hBW
  go_wp2_with (first | refine wpList_store_row rfl 34 _ _ rfl gp _ rfl rfl 34 (d16 0) hs8 (info16 _) rfl (tab_oneCell _ _ fun _ => rfl) ?_ | refine wpList_store_row rfl 34 _ _ rfl gq _ rfl rfl 34 (d16 0) hs9 (info16 _) rfl (tab_oneCell _ _ fun _ => rfl) ?_)
  clear hBW hb hs8 hz8 hg8 hl8 hs9 hz9 hg9 hl9

  generalize hW : Go.World.setRow _ _ _ = W7 at *
  clear hW
  refine region_facts 6 [] [.val (.agg (d16 am)), .val (.agg (nums am)), .val (.agg (d16 bm)), .val (.agg (nums bm)), .new 23 (nums 0), .new 23 (nums 0)]
    (by kernel_rfl) (by kernel_rfl) (fun _ _ _ _ _ h => h) ?_ ?_
  · simp only [List.take_succ_cons, List.take_zero, StepsOK]
    refine ⟨?_, ?_, ?_, ?_, ?_, ?_, trivial⟩
    · intro v w' hb hf K hKt
      simp only [putAll, Act.put, List.setIfInBounds_toArray, List.set_cons_zero, List.set_cons_succ, Nat.zero_add, Nat.reduceAdd] at hKt ⊢
      exact wp_load_row 34 _ rfl (gp) rfl 34 _ (0, 0) _ (hP.after hb) Try.underlying34 rfl (info16 _) (hKt _ (Below.refl _ _))
    · intro v w' hb hf K hKt
      have f0 : v 0 = _ := hf ⟨0, .data⟩ (by simp) rfl
      simp only [putAll, Act.put, List.setIfInBounds_toArray, List.set_cons_zero, List.set_cons_succ, Nat.zero_add, Nat.reduceAdd] at hKt ⊢
      rw [f0] at hKt ⊢
      go_simp
      refine (cWA w').mono ?_
      rintro e w'' ⟨rfl, hb2⟩
      exact hKt _ hb2
    · intro v w' hb hf K hKt
      simp only [putAll, Act.put, List.setIfInBounds_toArray, List.set_cons_zero, List.set_cons_succ, Nat.zero_add, Nat.reduceAdd] at hKt ⊢
      exact wp_load_row 34 _ rfl (gq) rfl 34 _ (0, 0) _ (hQ.after hb) Try.underlying34 rfl (info16 _) (hKt _ (Below.refl _ _))
    · intro v w' hb hf K hKt
      have f2 : v 2 = _ := hf ⟨2, .data⟩ (by simp) rfl
      simp only [putAll, Act.put, List.setIfInBounds_toArray, List.set_cons_zero, List.set_cons_succ, Nat.zero_add, Nat.reduceAdd] at hKt ⊢
      rw [f2] at hKt ⊢
      go_simp
      refine (cWB w').mono ?_
      rintro e w'' ⟨rfl, hb2⟩
      exact hKt _ hb2
    · exact ⟨rfl, rfl, zeroV8⟩
    · exact ⟨rfl, rfl, zeroV8⟩
  intro v W8 hb hF hD
  have f0 : v 0 = _ := hF 0 (by decide)
  have f1 : v 1 = _ := hF 1 (by decide)
  have f2 : v 2 = _ := hF 2 (by decide)
  have f3 : v 3 = _ := hF 3 (by decide)
  obtain ⟨gc, f4, hg4, hl4, hz4⟩ := hF 4 (by decide)
  replace hz4 : Has W8 gc 23 (nums 0) := hz4
  obtain ⟨gd, f5, hg5, hl5, hz5⟩ := hF 5 (by decide)
  replace hz5 : Has W8 gd 23 (nums 0) := hz5
  have hne4_5 : gc ≠ gd := fun h => hD 4 5 (by decide) (by decide) (by decide) rfl rfl (by rw [f4, f5, h])
  simp only [List.take_succ_cons, List.take_zero, List.drop_succ_cons, List.drop_zero, putAll, Act.put, List.setIfInBounds_toArray, List.set_cons_zero, List.set_cons_succ, Nat.zero_add, Nat.reduceAdd]
  rw [f0, f1, f2, f3, f4, f5]
  clear hF hD f0 f1 f2 f3 f4 f5
  have hs4 := hz4
  have hs5 := (hz5).farRow (k := gc) (by omega) (nums am)
  have hBW := below_setRow (below_setRow (hb) (g := gc) hg4 (nums am)) (g := gd) hg5 (nums bm)
  have hC1 := ((hz4).setRow (nums am)).farRow (k := gd) (by omega) (nums bm)
  have hD1 := ((hz5).farRow (k := gc) (by omega) (nums am)).setRow (nums bm)
  replace hA := hA.after hBW
  replace hB := hB.after hBW
  replace hKm := hKm.after hBW
  replace hM := hM.after hBW
  replace hP := hP.after hBW
  replace hQ := hQ.after hBW
  replace hI := H.keep hI hBW
  replace hb0 := below_trans hb0 hBW
  go_wp2_with (first | refine wpList_store_row rfl 23 _ _ rfl gc _ rfl rfl 23 (nums 0) hs4 (info8w _) rfl (tab_oneCell _ _ fun _ => rfl) ?_ | refine wpList_store_row rfl 23 _ _ rfl gd _ rfl rfl 23 (nums 0) hs5 (info8w _) rfl (tab_oneCell _ _ fun _ => rfl) ?_)
  clear hBW hb hs4 hz4 hg4 hl4 hs5 hz5 hg5 hl5

  generalize hW : Go.World.setRow _ _ _ = W9 at *
  clear hW
  refine region_quiet_tail (Below W9.heap.size W9) 27 (by kernel_rfl) (by kernel_rfl) (below_drewN (Below.refl _ _) 1) ?_
  simp only [List.take_succ_cons, List.take_zero, List.drop_succ_cons, List.drop_zero]
  refine wpQ_move _ rfl rfl (.pointer (some ⟨g, 0, none⟩)) rfl ?_
  simp only [Act.put, List.setIfInBounds_toArray, List.set_cons_zero, List.set_cons_succ]
  refine wpQ_has 24 _ rfl _ rfl rfl 24 _ (fun w' hC => hA.after hC) _ Try.underlying24 rfl (infoNum _) ?_
  simp only [Act.put, List.setIfInBounds_toArray, List.set_cons_zero, List.set_cons_succ]
  refine wpQ_fn 16 _ _ rfl rfl #[.pointer (some ⟨g, 0, none⟩), .agg (nums a)] rfl (fun _ => by go_simp) (.agg (nums am)) (fun w' hC => (kR g w' (H.keep hI hC)).mono fun e w'' ⟨he, hb⟩ => ⟨he, below_class hC hb⟩) ?_
  simp only [Act.put, List.setIfInBounds_toArray, List.set_cons_zero, List.set_cons_succ]
  refine wpQ_has 34 _ rfl _ rfl rfl 34 _ (fun w' hC => hP.after hC) _ Try.underlying34 rfl (info16 _) ?_
  simp only [Act.put, List.setIfInBounds_toArray, List.set_cons_zero, List.set_cons_succ]
  refine wpQ_fn 15 _ _ rfl rfl #[.agg (nums am), .agg (d16 am)] rfl (fun _ => by go_simp) (.bool true) (fun w' hC => (kL1 w').mono fun e w'' ⟨he, hb⟩ => ⟨he, below_class hC hb⟩) ?_
  simp only [Act.put, List.setIfInBounds_toArray, List.set_cons_zero, List.set_cons_succ]
  refine wpQ_move _ rfl rfl (.bool true) rfl ?_
  simp only [Act.put, List.setIfInBounds_toArray, List.set_cons_zero, List.set_cons_succ]
  refine wpQ_move _ rfl rfl (.pointer (some ⟨g, 0, none⟩)) rfl ?_
  simp only [Act.put, List.setIfInBounds_toArray, List.set_cons_zero, List.set_cons_succ]
  refine wpQ_has 23 _ rfl _ rfl rfl 23 _ (fun w' hC => hC1.after hC) _ Try.underlying23 rfl (info8w _) ?_
  simp only [Act.put, List.setIfInBounds_toArray, List.set_cons_zero, List.set_cons_succ]
  refine wpQ_has 23 _ rfl _ rfl rfl 23 _ (fun w' hC => hD1.after hC) _ Try.underlying23 rfl (info8w _) ?_
  simp only [Act.put, List.setIfInBounds_toArray, List.set_cons_zero, List.set_cons_succ]
  refine wpQ_fn 10 _ _ rfl rfl #[.pointer (some ⟨g, 0, none⟩), .agg (nums am), .agg (nums bm)] rfl (fun _ => by go_simp) (.agg (nums s)) (fun w' hC => (kS g w' (H.keep hI hC)).mono fun e w'' ⟨he, hb⟩ => ⟨he, below_class hC hb⟩) ?_
  simp only [Act.put, List.setIfInBounds_toArray, List.set_cons_zero, List.set_cons_succ]
  refine wpQ_has 34 _ rfl _ rfl rfl 34 _ (fun w' hC => hP.after hC) _ Try.underlying34 rfl (info16 _) ?_
  simp only [Act.put, List.setIfInBounds_toArray, List.set_cons_zero, List.set_cons_succ]
  refine wpQ_has 34 _ rfl _ rfl rfl 34 _ (fun w' hC => hQ.after hC) _ Try.underlying34 rfl (info16 _) ?_
  simp only [Act.put, List.setIfInBounds_toArray, List.set_cons_zero, List.set_cons_succ]
  refine wpQ_has 34 _ rfl _ rfl rfl 34 _ (fun w' hC => hKm.after hC) _ Try.underlying34 rfl (info16 _) ?_
  simp only [Act.put, List.setIfInBounds_toArray, List.set_cons_zero, List.set_cons_succ]
  refine wpQ_fn 17 _ _ rfl rfl #[.agg (d16 am), .agg (d16 bm), .agg (d16 m)] rfl (fun _ => by go_simp) (.agg (d16 s)) (fun w' hC => (cS w').mono fun e w'' ⟨he, hb⟩ => ⟨he, below_class hC hb⟩) ?_
  simp only [Act.put, List.setIfInBounds_toArray, List.set_cons_zero, List.set_cons_succ]
  refine wpQ_fn 15 _ _ rfl rfl #[.agg (nums s), .agg (d16 s)] rfl (fun _ => by go_simp) (.bool true) (fun w' hC => (kL2 w').mono fun e w'' ⟨he, hb⟩ => ⟨he, below_class hC hb⟩) ?_
  simp only [Act.put, List.setIfInBounds_toArray, List.set_cons_zero, List.set_cons_succ]
  refine wpQ_pick _ _ _ rfl rfl true rfl (.bool true) rfl ?_
  simp only [Act.put, List.setIfInBounds_toArray, List.set_cons_zero, List.set_cons_succ]
  refine wpQ_move _ rfl rfl (.bool true) rfl ?_
  simp only [Act.put, List.setIfInBounds_toArray, List.set_cons_zero, List.set_cons_succ]
  refine wpQ_move _ rfl rfl (.pointer (some ⟨g, 0, none⟩)) rfl ?_
  simp only [Act.put, List.setIfInBounds_toArray, List.set_cons_zero, List.set_cons_succ]
  refine wpQ_has 23 _ rfl _ rfl rfl 23 _ (fun w' hC => hC1.after hC) _ Try.underlying23 rfl (info8w _) ?_
  simp only [Act.put, List.setIfInBounds_toArray, List.set_cons_zero, List.set_cons_succ]
  refine wpQ_has 23 _ rfl _ rfl rfl 23 _ (fun w' hC => hD1.after hC) _ Try.underlying23 rfl (info8w _) ?_
  simp only [Act.put, List.setIfInBounds_toArray, List.set_cons_zero, List.set_cons_succ]
  refine wpQ_fn 18 _ _ rfl rfl #[.pointer (some ⟨g, 0, none⟩), .agg (nums am), .agg (nums bm)] rfl (fun _ => by go_simp) (.agg (nums d)) (fun w' hC => (kD g w' (H.keep hI hC)).mono fun e w'' ⟨he, hb⟩ => ⟨he, below_class hC hb⟩) ?_
  simp only [Act.put, List.setIfInBounds_toArray, List.set_cons_zero, List.set_cons_succ]
  refine wpQ_has 34 _ rfl _ rfl rfl 34 _ (fun w' hC => hP.after hC) _ Try.underlying34 rfl (info16 _) ?_
  simp only [Act.put, List.setIfInBounds_toArray, List.set_cons_zero, List.set_cons_succ]
  refine wpQ_has 34 _ rfl _ rfl rfl 34 _ (fun w' hC => hQ.after hC) _ Try.underlying34 rfl (info16 _) ?_
  simp only [Act.put, List.setIfInBounds_toArray, List.set_cons_zero, List.set_cons_succ]
  refine wpQ_has 34 _ rfl _ rfl rfl 34 _ (fun w' hC => hKm.after hC) _ Try.underlying34 rfl (info16 _) ?_
  simp only [Act.put, List.setIfInBounds_toArray, List.set_cons_zero, List.set_cons_succ]
  refine wpQ_fn 19 _ _ rfl rfl #[.agg (d16 am), .agg (d16 bm), .agg (d16 m)] rfl (fun _ => by go_simp) (.agg (d16 d)) (fun w' hC => (cD w').mono fun e w'' ⟨he, hb⟩ => ⟨he, below_class hC hb⟩) ?_
  simp only [Act.put, List.setIfInBounds_toArray, List.set_cons_zero, List.set_cons_succ]
  refine wpQ_fn 15 _ _ rfl rfl #[.agg (nums d), .agg (d16 d)] rfl (fun _ => by go_simp) (.bool true) (fun w' hC => (kL3 w').mono fun e w'' ⟨he, hb⟩ => ⟨he, below_class hC hb⟩) ?_
  simp only [Act.put, List.setIfInBounds_toArray, List.set_cons_zero, List.set_cons_succ]
  refine wpQ_pick _ _ _ rfl rfl true rfl (.bool true) rfl ?_
  simp only [Act.put, List.setIfInBounds_toArray, List.set_cons_zero, List.set_cons_succ]
  refine wpQuiet_nil ?_

  intro w10 hC
  have hfin := below_trans hb0 hC
  clear hC hM hA hB hKm hP hQ hC1 hD1 hI kR kS kD kM kL1 kL2 kL3 cRA cRB cWA cWB cS cD
  go_wp2_with fail
  go_ret
  exact ⟨rfl, hfin⟩
end Go.Proofs.Ytodialbopochdaa
