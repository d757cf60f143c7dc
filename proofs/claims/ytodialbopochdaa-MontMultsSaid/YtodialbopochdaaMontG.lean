/-
MontMults: products are the document's: the walk, over what package mont's calls do.
-/
import Derived.Test.YtodialbopochdaaMontF
namespace Go.Proofs.Ytodialbopochdaa
open Go.RowKit

theorem inf16 : (Try.prog.info? 34).map (fun i => (i.zero, i.size)) = some (some (.agg (d16 0)), 16) := by kernel_rfl
theorem zeroV16 (w : World) : (zeroValue 34).run Try.prog w = .ok (.agg (d16 0)) w := (zero_of_info inf16).1 w
theorem inf8 : (Try.prog.info? 23).map (fun i => (i.zero, i.size)) = some (some (.agg (nums 0)), 8) := by kernel_rfl
theorem zeroV8 (w : World) : (zeroValue 23).run Try.prog w = .ok (.agg (nums 0)) w := (zero_of_info inf8).1 w
theorem big16 : big = 65536 ^ 16 := big_hex
attribute [local go_sem] zeroNum zero16 nw1
set_option maxRecDepth 100000 in
set_option maxHeartbeats 2000000 in
theorem mults_ok {Is : World → Nat → Nat → Prop} (H : MontOK Is) (m a b : Nat) (w : World) (hm : m < big) (ha : a < big) (hbb : b < big) (hodd : m % 2 = 1) (h1 : 1 < m) :
    Calls Try.prog 4 #[.agg (nums m), .agg (nums a), .agg (nums b)] w fun e w' => e = .returned (.bool true) ∧ Below w.heap.size w w' := by
  have hm16 : m < 65536 ^ 16 := by rw [← big_hex]; exact hm
  have ha16 : a < 65536 ^ 16 := by rw [← big_hex]; exact ha
  have hb16 : b < 65536 ^ 16 := by rw [← big_hex]; exact hbb
  have m0 : 0 < m := by omega
  have hlt := fun x => Nat.mod_lt x m0
  have hltb := fun x => Nat.lt_trans (Nat.mod_lt x m0) hm
  have hlt16 := fun x => Nat.lt_trans (Nat.mod_lt x m0) hm16
  have n0 := d16_ne 0
  have n1 := nums_ne 0
  -- the calls, with the values under names
  have rnew := H.new_ok m
  obtain ⟨ab, hab⟩ : ∃ ab, ab = a * b % m := ⟨_, rfl⟩
  obtain ⟨r, hr⟩ : ∃ r, r = RR % m := ⟨_, rfl⟩
  obtain ⟨inn, hin⟩ : ∃ inn, inn = a * RR % m := ⟨_, rfl⟩
  obtain ⟨am, ham⟩ : ∃ am, am = a % m := ⟨_, rfl⟩
  obtain ⟨bm, hbm⟩ : ∃ bm, bm = b % m := ⟨_, rfl⟩
  obtain ⟨t, ht⟩ : ∃ t, t = redc m (a * b) := ⟨_, rfl⟩
  have lab : ab < m := by rw [hab]; exact hlt _
  have lr : r < m := by rw [hr]; exact hlt _
  have lin : inn < m := by rw [hin]; exact hlt _
  have lam : am < m := by rw [ham]; exact hlt _
  have lbm : bm < m := by rw [hbm]; exact hlt _
  have lt' : t < m := by rw [ht]; exact redc_lt m _ m0
  have cAB := fun W => mul3_any a b m W ha16 hb16 m0 hm16
  rw [← hab] at cAB
  have cR := fun W => r3_any m W m0 hm16
  have eR : (2 : Nat) ^ 256 % m = r := hr.symm
  rw [eR] at cR
  have cIN := fun W => mul3_any a r m W ha16 (by omega) m0 hm16
  have eIN : a * r % m = inn := by rw [hin, hr, Nat.mul_mod, Nat.mod_mod, ← Nat.mul_mod]
  rw [eIN] at cIN
  have cRED := fun W => reduce3_any a m W ha16 m0 hm16
  rw [← ham] at cRED
  have cOV := fun W => over3_any ab m W lab hm16
  have eOV : overN m ab 256 = t := by rw [ht, hab]; rfl
  rw [eOV] at cOV
  have kMUL := fun g W (h : Is W g m) => H.mul_ok W g m a b h ha hbb
  rw [← hab] at kMUL
  have kIN := fun g W (h : Is W g m) => H.in_ok W g m a h ha
  rw [← hin] at kIN
  have kOUT := fun g W (h : Is W g m) => H.out_ok W g m inn h lin
  have eOUT : redc m inn = am := by rw [hin, ham]; exact out_in m a hodd
  rw [eOUT] at kOUT
  have kRB := fun g W (h : Is W g m) => H.reduce_ok W g m b h hbb
  rw [← hbm] at kRB
  have kRA := fun g W (h : Is W g m) => H.reduce_ok W g m a h ha
  rw [← ham] at kRA
  have kT1 := fun g W (h : Is W g m) => H.times_ok W g m inn bm h lin lbm
  have eT1 : redc m (inn * bm) = ab := by rw [hin, hbm, hab]; exact times_in m a b hodd
  rw [eT1] at kT1
  have kT2 := fun g W (h : Is W g m) => H.times_ok W g m am bm h lam lbm
  have eT2 : redc m (am * bm) = t := by rw [ham, hbm, ht]; exact times_plain m a b
  rw [eT2] at kT2
  have kONE := fun g W (h : Is W g m) => H.one_ok W g m h
  rw [← hr] at kONE
  have kL1 := fun W => like_any ab W (by omega)
  have kL2 := fun W => like_any inn W (by omega)
  have kL3 := fun W => like_any am W (by omega)
  have kL5 := fun W => like_any r W (by omega)
  have kL6 := fun W => like_any t W (by omega)
  have rnew2 := fun W => H.new_ok m W hodd h1 hm
  clear hm16 ha16 hb16 hlt hltb hlt16 rnew hab hr hin ham hbm ht lab lr lin lam lbm lt' eR eIN eOV eOUT eT1 eT2 m0
  have hM : Has (((w.alloc (.cells (nums m) 24)).alloc (.cells (nums a) 24)).alloc (.cells (nums b) 24)) w.heap.size 24 (nums m) := ((Has.new w _ _).alloc _).alloc _
  have hA : Has (((w.alloc (.cells (nums m) 24)).alloc (.cells (nums a) 24)).alloc (.cells (nums b) 24)) (w.heap.size + 1) 24 (nums a) := (Has.new' (by simp)).alloc _
  have hB : Has (((w.alloc (.cells (nums m) 24)).alloc (.cells (nums a) 24)).alloc (.cells (nums b) 24)) (w.heap.size + 1 + 1) 24 (nums b) := Has.new' (by simp)
  have hb0 : Below w.heap.size w (((w.alloc (.cells (nums m) 24)).alloc (.cells (nums a) 24)).alloc (.cells (nums b) 24)) := (((Below.refl _ _).alloc (Nat.le_refl _) _).alloc (by simp) _).alloc (by simp <;> omega) _
  go_enter Try.func4, Try.ntmps4
  go_wp2_with fail
  refine (fit3_any H _).mono ?_
  rintro e w1 ⟨rfl, hx⟩
  replace hM := hM.after hx
  replace hA := hA.after hx
  replace hB := hB.after hx
  replace hb0 := below_trans hb0 hx
  clear hx
  go_wp2_with (refine wpList_load_has 24 _ rfl _ rfl rfl 24 _ hM _ Try.underlying24 rfl (infoNum _) ?_)
  refine (rnew2 _).mono ?_
  rintro e w2 ⟨⟨g, rfl, hI⟩, hx⟩
  replace hM := hM.after hx
  replace hA := hA.after hx
  replace hB := hB.after hx
  replace hb0 := below_trans hb0 hx
  clear hx rnew2
  go_wp2_with (refine wpList_load_has 24 _ rfl _ rfl rfl 24 _ hM _ Try.underlying24 rfl (infoNum _) ?_)
  refine (of3_any m _).mono ?_
  rintro e w3 ⟨rfl, hx⟩
  have hN := put_new w3 34 (d16 0) (d16 m)
  replace hM := (hM.after hx).after hN.2
  replace hA := (hA.after hx).after hN.2
  replace hB := (hB.after hx).after hN.2
  replace hI := H.keep (H.keep hI hx) hN.2
  replace hb0 := below_trans (below_trans hb0 hx) hN.2
  have hK := hN.1
  clear hx hN
  go_wp2_with (refine wpList_store_row rfl 34 _ _ rfl w3.heap.size _ rfl rfl 34 (d16 0) (Has.new' rfl) (info16 _) (by simp only [d16_size]) (tab_oneCell _ _ fun _ => rfl) ?_)
  generalize hW : Go.World.setRow _ _ _ = W4 at *
  clear hW

  refine region_facts 6 [] [.val (.agg (nums a)), .val (.agg (d16 a)), .val (.agg (nums b)), .val (.agg (d16 b)), .new 34 (d16 0), .new 34 (d16 0)]
    (by kernel_rfl) (by kernel_rfl) (fun _ _ _ _ _ h => h) ?_ ?_
  · simp only [List.take_succ_cons, List.take_zero, StepsOK]
    refine ⟨?_, ?_, ?_, ?_, ?_, ?_, trivial⟩
    · intro v w' hb hf K hKt
      simp only [putAll, Act.put, List.setIfInBounds_toArray, List.set_cons_zero, List.set_cons_succ, Nat.zero_add, Nat.reduceAdd] at hKt ⊢
      exact wp_load_row 24 _ rfl (w.heap.size + 1) rfl 24 _ (0, 0) _ (hA.after hb) Try.underlying24 rfl (infoNum _) (hKt _ (Below.refl _ _))
    · intro v w' hb hf K hKt
      have f0 : v 0 = _ := hf ⟨0, .data⟩ (by simp) rfl
      simp only [putAll, Act.put, List.setIfInBounds_toArray, List.set_cons_zero, List.set_cons_succ, Nat.zero_add, Nat.reduceAdd] at hKt ⊢
      rw [f0] at hKt ⊢
      go_simp
      refine (of3_any a w').mono ?_
      rintro e w'' ⟨rfl, hb2⟩
      exact hKt _ hb2
    · intro v w' hb hf K hKt
      simp only [putAll, Act.put, List.setIfInBounds_toArray, List.set_cons_zero, List.set_cons_succ, Nat.zero_add, Nat.reduceAdd] at hKt ⊢
      exact wp_load_row 24 _ rfl (w.heap.size + 1 + 1) rfl 24 _ (0, 0) _ (hB.after hb) Try.underlying24 rfl (infoNum _) (hKt _ (Below.refl _ _))
    · intro v w' hb hf K hKt
      have f2 : v 2 = _ := hf ⟨2, .data⟩ (by simp) rfl
      simp only [putAll, Act.put, List.setIfInBounds_toArray, List.set_cons_zero, List.set_cons_succ, Nat.zero_add, Nat.reduceAdd] at hKt ⊢
      rw [f2] at hKt ⊢
      go_simp
      refine (of3_any b w').mono ?_
      rintro e w'' ⟨rfl, hb2⟩
      exact hKt _ hb2
    · exact ⟨rfl, rfl, zeroV16⟩
    · exact ⟨rfl, rfl, zeroV16⟩
  intro v W5 hb hF hD
  have f0 : v 0 = _ := hF 0 (by decide)
  have f1 : v 1 = _ := hF 1 (by decide)
  have f2 : v 2 = _ := hF 2 (by decide)
  have f3 : v 3 = _ := hF 3 (by decide)
  obtain ⟨gp, f4, hg4, hl4, hz4⟩ := hF 4 (by decide)
  replace hz4 : Has W5 gp 34 (d16 0) := hz4
  obtain ⟨gq, f5, hg5, hl5, hz5⟩ := hF 5 (by decide)
  replace hz5 : Has W5 gq 34 (d16 0) := hz5
  have hne4_5 : gp ≠ gq := fun h => hD 4 5 (by decide) (by decide) (by decide) rfl rfl (by rw [f4, f5, h])
  simp only [List.take_succ_cons, List.take_zero, List.drop_succ_cons, List.drop_zero, putAll, Act.put, List.setIfInBounds_toArray, List.set_cons_zero, List.set_cons_succ, Nat.zero_add, Nat.reduceAdd]
  rw [f0, f1, f2, f3, f4, f5]
  clear hF hD f0 f1 f2 f3 f4 f5
  have hs4 := hz4
  have hs5 := (hz5).farRow (k := gp) (by omega) (d16 a)
  have hBW := below_setRow (below_setRow (hb) (g := gp) hg4 (d16 a)) (g := gq) hg5 (d16 b)
  have hP := ((hz4).setRow (d16 a)).farRow (k := gq) (by omega) (d16 b)
  have hQ := ((hz5).farRow (k := gp) (by omega) (d16 a)).setRow (d16 b)
  replace hA := hA.after hBW
  replace hB := hB.after hBW
  replace hK := hK.after hBW
  replace hM := hM.after hBW
  replace hI := H.keep hI hBW
  replace hb0 := below_trans hb0 hBW
  go_wp2_with (first | refine wpList_store_row rfl 34 _ _ rfl gp _ rfl rfl 34 (d16 0) hs4 (info16 _) rfl (tab_oneCell _ _ fun _ => rfl) ?_ | refine wpList_store_row rfl 34 _ _ rfl gq _ rfl rfl 34 (d16 0) hs5 (info16 _) rfl (tab_oneCell _ _ fun _ => rfl) ?_ | refine wpList_load_has 34 _ rfl _ rfl rfl 34 _ hP _ Try.underlying34 rfl (info16 _) ?_ | refine wpList_load_has 34 _ rfl _ rfl rfl 34 _ hQ _ Try.underlying34 rfl (info16 _) ?_ | refine wpList_load_has 34 _ rfl _ rfl rfl 34 _ hK _ Try.underlying34 rfl (info16 _) ?_)
  clear hBW hb hs4 hz4 hg4 hl4 hs5 hz5 hg5 hl5

  refine (cAB _).mono ?_
  rintro e w6 ⟨rfl, hx⟩
  have hN := put_new w6 34 (d16 0) (d16 ab)
  replace hM := (hM.after hx).after hN.2
  replace hA := (hA.after hx).after hN.2
  replace hB := (hB.after hx).after hN.2
  replace hK := (hK.after hx).after hN.2
  replace hP := (hP.after hx).after hN.2
  replace hQ := (hQ.after hx).after hN.2
  replace hI := H.keep (H.keep hI hx) hN.2
  replace hb0 := below_trans (below_trans hb0 hx) hN.2
  have hS := hN.1
  clear hx hN cAB
  go_wp2_with (refine wpList_store_row rfl 34 _ _ rfl w6.heap.size _ rfl rfl 34 (d16 0) (Has.new' rfl) (info16 _) (by simp only [d16_size]) (tab_oneCell _ _ fun _ => rfl) ?_)
  generalize hW : Go.World.setRow _ _ _ = W7 at *
  clear hW
  refine region_facts 6 [] [.val (.agg (d16 a)), .val (.agg (d16 m)), .val (.agg (d16 r)), .val (.agg (d16 m)), .val (.agg (d16 inn)), .new 34 (d16 0)]
    (by kernel_rfl) (by kernel_rfl) (fun _ _ _ _ _ h => h) ?_ ?_
  · simp only [List.take_succ_cons, List.take_zero, StepsOK]
    refine ⟨?_, ?_, ?_, ?_, ?_, ?_, trivial⟩
    · intro v w' hb hf K hKt
      simp only [putAll, Act.put, List.setIfInBounds_toArray, List.set_cons_zero, List.set_cons_succ, Nat.zero_add, Nat.reduceAdd] at hKt ⊢
      exact wp_load_row 34 _ rfl (gp) rfl 34 _ (0, 0) _ (hP.after hb) Try.underlying34 rfl (info16 _) (hKt _ (Below.refl _ _))
    · intro v w' hb hf K hKt
      simp only [putAll, Act.put, List.setIfInBounds_toArray, List.set_cons_zero, List.set_cons_succ, Nat.zero_add, Nat.reduceAdd] at hKt ⊢
      exact wp_load_row 34 _ rfl (w3.heap.size) rfl 34 _ (0, 0) _ (hK.after hb) Try.underlying34 rfl (info16 _) (hKt _ (Below.refl _ _))
    · intro v w' hb hf K hKt
      have f1 : v 1 = _ := hf ⟨1, .data⟩ (by simp) rfl
      simp only [putAll, Act.put, List.setIfInBounds_toArray, List.set_cons_zero, List.set_cons_succ, Nat.zero_add, Nat.reduceAdd] at hKt ⊢
      rw [f1] at hKt ⊢
      go_simp
      refine (cR w').mono ?_
      rintro e w'' ⟨rfl, hb2⟩
      exact hKt _ hb2
    · intro v w' hb hf K hKt
      simp only [putAll, Act.put, List.setIfInBounds_toArray, List.set_cons_zero, List.set_cons_succ, Nat.zero_add, Nat.reduceAdd] at hKt ⊢
      exact wp_load_row 34 _ rfl (w3.heap.size) rfl 34 _ (0, 0) _ (hK.after hb) Try.underlying34 rfl (info16 _) (hKt _ (Below.refl _ _))
    · intro v w' hb hf K hKt
      have f0 : v 0 = _ := hf ⟨0, .data⟩ (by simp) rfl
      have f2 : v 2 = _ := hf ⟨2, .data⟩ (by simp) rfl
      have f3 : v 3 = _ := hf ⟨3, .data⟩ (by simp) rfl
      simp only [putAll, Act.put, List.setIfInBounds_toArray, List.set_cons_zero, List.set_cons_succ, Nat.zero_add, Nat.reduceAdd] at hKt ⊢
      rw [f0, f2, f3] at hKt ⊢
      go_simp
      refine (cIN w').mono ?_
      rintro e w'' ⟨rfl, hb2⟩
      exact hKt _ hb2
    · exact ⟨rfl, rfl, zeroV16⟩
  intro v W8 hb hF hD
  have f0 : v 0 = _ := hF 0 (by decide)
  have f1 : v 1 = _ := hF 1 (by decide)
  have f2 : v 2 = _ := hF 2 (by decide)
  have f3 : v 3 = _ := hF 3 (by decide)
  have f4 : v 4 = _ := hF 4 (by decide)
  obtain ⟨gi, f5, hg5, hl5, hz5⟩ := hF 5 (by decide)
  replace hz5 : Has W8 gi 34 (d16 0) := hz5
  simp only [List.take_succ_cons, List.take_zero, List.drop_succ_cons, List.drop_zero, putAll, Act.put, List.setIfInBounds_toArray, List.set_cons_zero, List.set_cons_succ, Nat.zero_add, Nat.reduceAdd]
  rw [f0, f1, f2, f3, f4, f5]
  clear hF hD f0 f1 f2 f3 f4 f5
  have hs5 := hz5
  have hBW := below_setRow (hb) (g := gi) hg5 (d16 inn)
  have hIN := (hz5).setRow (d16 inn)
  replace hA := hA.after hBW
  replace hB := hB.after hBW
  replace hK := hK.after hBW
  replace hM := hM.after hBW
  replace hP := hP.after hBW
  replace hQ := hQ.after hBW
  replace hS := hS.after hBW
  replace hI := H.keep hI hBW
  replace hb0 := below_trans hb0 hBW
  go_wp2_with (first | refine wpList_store_row rfl 34 _ _ rfl gi _ rfl rfl 34 (d16 0) hs5 (info16 _) rfl (tab_oneCell _ _ fun _ => rfl) ?_)
  clear hBW hb hs5 hz5 hg5 hl5

  generalize hW : Go.World.setRow _ _ _ = W9 at *
  clear hW
  refine region_quiet_tail (Below W9.heap.size W9) 57 (by kernel_rfl) (by kernel_rfl) (below_drewN (Below.refl _ _) 1) ?_
  simp only [List.take_succ_cons, List.take_zero, List.drop_succ_cons, List.drop_zero]
  refine wpQ_move _ rfl rfl (.pointer (some ⟨g, 0, none⟩)) rfl ?_
  simp only [Act.put, List.setIfInBounds_toArray, List.set_cons_zero, List.set_cons_succ]
  refine wpQ_has 24 _ rfl _ rfl rfl 24 _ (fun w' hC => hA.after hC) _ Try.underlying24 rfl (infoNum _) ?_
  simp only [Act.put, List.setIfInBounds_toArray, List.set_cons_zero, List.set_cons_succ]
  refine wpQ_has 24 _ rfl _ rfl rfl 24 _ (fun w' hC => hB.after hC) _ Try.underlying24 rfl (infoNum _) ?_
  simp only [Act.put, List.setIfInBounds_toArray, List.set_cons_zero, List.set_cons_succ]
  refine wpQ_fn 22 _ _ rfl rfl #[.pointer (some ⟨g, 0, none⟩), .agg (nums a), .agg (nums b)] rfl (fun _ => by go_simp) (.agg (nums ab)) (fun w' hC => (kMUL g w' (H.keep hI hC)).mono fun e w'' ⟨he, hb⟩ => ⟨he, below_class hC hb⟩) ?_
  simp only [Act.put, List.setIfInBounds_toArray, List.set_cons_zero, List.set_cons_succ]
  refine wpQ_has 34 _ rfl _ rfl rfl 34 _ (fun w' hC => hS.after hC) _ Try.underlying34 rfl (info16 _) ?_
  simp only [Act.put, List.setIfInBounds_toArray, List.set_cons_zero, List.set_cons_succ]
  refine wpQ_fn 15 _ _ rfl rfl #[.agg (nums ab), .agg (d16 ab)] rfl (fun _ => by go_simp) (.bool true) (fun w' hC => (kL1 w').mono fun e w'' ⟨he, hb⟩ => ⟨he, below_class hC hb⟩) ?_
  simp only [Act.put, List.setIfInBounds_toArray, List.set_cons_zero, List.set_cons_succ]
  refine wpQ_move _ rfl rfl (.bool true) rfl ?_
  simp only [Act.put, List.setIfInBounds_toArray, List.set_cons_zero, List.set_cons_succ]
  refine wpQ_move _ rfl rfl (.pointer (some ⟨g, 0, none⟩)) rfl ?_
  simp only [Act.put, List.setIfInBounds_toArray, List.set_cons_zero, List.set_cons_succ]
  refine wpQ_has 24 _ rfl _ rfl rfl 24 _ (fun w' hC => hA.after hC) _ Try.underlying24 rfl (infoNum _) ?_
  simp only [Act.put, List.setIfInBounds_toArray, List.set_cons_zero, List.set_cons_succ]
  refine wpQ_fn 23 _ _ rfl rfl #[.pointer (some ⟨g, 0, none⟩), .agg (nums a)] rfl (fun _ => by go_simp) (.agg (nums inn)) (fun w' hC => (kIN g w' (H.keep hI hC)).mono fun e w'' ⟨he, hb⟩ => ⟨he, below_class hC hb⟩) ?_
  simp only [Act.put, List.setIfInBounds_toArray, List.set_cons_zero, List.set_cons_succ]
  refine wpQ_has 34 _ rfl _ rfl rfl 34 _ (fun w' hC => hIN.after hC) _ Try.underlying34 rfl (info16 _) ?_
  simp only [Act.put, List.setIfInBounds_toArray, List.set_cons_zero, List.set_cons_succ]
  refine wpQ_fn 15 _ _ rfl rfl #[.agg (nums inn), .agg (d16 inn)] rfl (fun _ => by go_simp) (.bool true) (fun w' hC => (kL2 w').mono fun e w'' ⟨he, hb⟩ => ⟨he, below_class hC hb⟩) ?_
  simp only [Act.put, List.setIfInBounds_toArray, List.set_cons_zero, List.set_cons_succ]
  refine wpQ_pick _ _ _ rfl rfl true rfl (.bool true) rfl ?_
  simp only [Act.put, List.setIfInBounds_toArray, List.set_cons_zero, List.set_cons_succ]
  refine wpQ_move _ rfl rfl (.bool true) rfl ?_
  simp only [Act.put, List.setIfInBounds_toArray, List.set_cons_zero, List.set_cons_succ]
  refine wpQ_move _ rfl rfl (.pointer (some ⟨g, 0, none⟩)) rfl ?_
  simp only [Act.put, List.setIfInBounds_toArray, List.set_cons_zero, List.set_cons_succ]
  refine wpQ_move _ rfl rfl (.pointer (some ⟨g, 0, none⟩)) rfl ?_
  simp only [Act.put, List.setIfInBounds_toArray, List.set_cons_zero, List.set_cons_succ]
  refine wpQ_has 24 _ rfl _ rfl rfl 24 _ (fun w' hC => hA.after hC) _ Try.underlying24 rfl (infoNum _) ?_
  simp only [Act.put, List.setIfInBounds_toArray, List.set_cons_zero, List.set_cons_succ]
  refine wpQ_fn 23 _ _ rfl rfl #[.pointer (some ⟨g, 0, none⟩), .agg (nums a)] rfl (fun _ => by go_simp) (.agg (nums inn)) (fun w' hC => (kIN g w' (H.keep hI hC)).mono fun e w'' ⟨he, hb⟩ => ⟨he, below_class hC hb⟩) ?_
  simp only [Act.put, List.setIfInBounds_toArray, List.set_cons_zero, List.set_cons_succ]
  refine wpQ_fn 24 _ _ rfl rfl #[.pointer (some ⟨g, 0, none⟩), .agg (nums inn)] rfl (fun _ => by go_simp) (.agg (nums am)) (fun w' hC => (kOUT g w' (H.keep hI hC)).mono fun e w'' ⟨he, hb⟩ => ⟨he, below_class hC hb⟩) ?_
  simp only [Act.put, List.setIfInBounds_toArray, List.set_cons_zero, List.set_cons_succ]
  refine wpQ_has 34 _ rfl _ rfl rfl 34 _ (fun w' hC => hP.after hC) _ Try.underlying34 rfl (info16 _) ?_
  simp only [Act.put, List.setIfInBounds_toArray, List.set_cons_zero, List.set_cons_succ]
  refine wpQ_has 34 _ rfl _ rfl rfl 34 _ (fun w' hC => hK.after hC) _ Try.underlying34 rfl (info16 _) ?_
  simp only [Act.put, List.setIfInBounds_toArray, List.set_cons_zero, List.set_cons_succ]
  refine wpQ_fn 13 _ _ rfl rfl #[.agg (d16 a), .agg (d16 m)] rfl (fun _ => by go_simp) (.agg (d16 am)) (fun w' hC => (cRED w').mono fun e w'' ⟨he, hb⟩ => ⟨he, below_class hC hb⟩) ?_
  simp only [Act.put, List.setIfInBounds_toArray, List.set_cons_zero, List.set_cons_succ]
  refine wpQ_fn 15 _ _ rfl rfl #[.agg (nums am), .agg (d16 am)] rfl (fun _ => by go_simp) (.bool true) (fun w' hC => (kL3 w').mono fun e w'' ⟨he, hb⟩ => ⟨he, below_class hC hb⟩) ?_
  simp only [Act.put, List.setIfInBounds_toArray, List.set_cons_zero, List.set_cons_succ]
  refine wpQ_pick _ _ _ rfl rfl true rfl (.bool true) rfl ?_
  simp only [Act.put, List.setIfInBounds_toArray, List.set_cons_zero, List.set_cons_succ]
  refine wpQ_move _ rfl rfl (.bool true) rfl ?_
  simp only [Act.put, List.setIfInBounds_toArray, List.set_cons_zero, List.set_cons_succ]
  refine wpQ_move _ rfl rfl (.pointer (some ⟨g, 0, none⟩)) rfl ?_
  simp only [Act.put, List.setIfInBounds_toArray, List.set_cons_zero, List.set_cons_succ]
  refine wpQ_move _ rfl rfl (.pointer (some ⟨g, 0, none⟩)) rfl ?_
  simp only [Act.put, List.setIfInBounds_toArray, List.set_cons_zero, List.set_cons_succ]
  refine wpQ_has 24 _ rfl _ rfl rfl 24 _ (fun w' hC => hA.after hC) _ Try.underlying24 rfl (infoNum _) ?_
  simp only [Act.put, List.setIfInBounds_toArray, List.set_cons_zero, List.set_cons_succ]
  refine wpQ_fn 23 _ _ rfl rfl #[.pointer (some ⟨g, 0, none⟩), .agg (nums a)] rfl (fun _ => by go_simp) (.agg (nums inn)) (fun w' hC => (kIN g w' (H.keep hI hC)).mono fun e w'' ⟨he, hb⟩ => ⟨he, below_class hC hb⟩) ?_
  simp only [Act.put, List.setIfInBounds_toArray, List.set_cons_zero, List.set_cons_succ]
  refine wpQ_move _ rfl rfl (.pointer (some ⟨g, 0, none⟩)) rfl ?_
  simp only [Act.put, List.setIfInBounds_toArray, List.set_cons_zero, List.set_cons_succ]
  refine wpQ_has 24 _ rfl _ rfl rfl 24 _ (fun w' hC => hB.after hC) _ Try.underlying24 rfl (infoNum _) ?_
  simp only [Act.put, List.setIfInBounds_toArray, List.set_cons_zero, List.set_cons_succ]
  refine wpQ_fn 16 _ _ rfl rfl #[.pointer (some ⟨g, 0, none⟩), .agg (nums b)] rfl (fun _ => by go_simp) (.agg (nums bm)) (fun w' hC => (kRB g w' (H.keep hI hC)).mono fun e w'' ⟨he, hb⟩ => ⟨he, below_class hC hb⟩) ?_
  simp only [Act.put, List.setIfInBounds_toArray, List.set_cons_zero, List.set_cons_succ]
  refine wpQ_fn 25 _ _ rfl rfl #[.pointer (some ⟨g, 0, none⟩), .agg (nums inn), .agg (nums bm)] rfl (fun _ => by go_simp) (.agg (nums ab)) (fun w' hC => (kT1 g w' (H.keep hI hC)).mono fun e w'' ⟨he, hb⟩ => ⟨he, below_class hC hb⟩) ?_
  simp only [Act.put, List.setIfInBounds_toArray, List.set_cons_zero, List.set_cons_succ]
  refine wpQ_has 34 _ rfl _ rfl rfl 34 _ (fun w' hC => hS.after hC) _ Try.underlying34 rfl (info16 _) ?_
  simp only [Act.put, List.setIfInBounds_toArray, List.set_cons_zero, List.set_cons_succ]
  refine wpQ_fn 15 _ _ rfl rfl #[.agg (nums ab), .agg (d16 ab)] rfl (fun _ => by go_simp) (.bool true) (fun w' hC => (kL1 w').mono fun e w'' ⟨he, hb⟩ => ⟨he, below_class hC hb⟩) ?_
  simp only [Act.put, List.setIfInBounds_toArray, List.set_cons_zero, List.set_cons_succ]
  refine wpQ_pick _ _ _ rfl rfl true rfl (.bool true) rfl ?_
  simp only [Act.put, List.setIfInBounds_toArray, List.set_cons_zero, List.set_cons_succ]
  refine wpQ_move _ rfl rfl (.bool true) rfl ?_
  simp only [Act.put, List.setIfInBounds_toArray, List.set_cons_zero, List.set_cons_succ]
  refine wpQ_move _ rfl rfl (.pointer (some ⟨g, 0, none⟩)) rfl ?_
  simp only [Act.put, List.setIfInBounds_toArray, List.set_cons_zero, List.set_cons_succ]
  refine wpQ_fn 26 _ _ rfl rfl #[.pointer (some ⟨g, 0, none⟩)] rfl (fun _ => by go_simp) (.agg (nums r)) (fun w' hC => (kONE g w' (H.keep hI hC)).mono fun e w'' ⟨he, hb⟩ => ⟨he, below_class hC hb⟩) ?_
  simp only [Act.put, List.setIfInBounds_toArray, List.set_cons_zero, List.set_cons_succ]
  refine wpQ_has 34 _ rfl _ rfl rfl 34 _ (fun w' hC => hK.after hC) _ Try.underlying34 rfl (info16 _) ?_
  simp only [Act.put, List.setIfInBounds_toArray, List.set_cons_zero, List.set_cons_succ]
  refine wpQ_fn 21 _ _ rfl rfl #[.agg (d16 m)] rfl (fun _ => by go_simp) (.agg (d16 r)) (fun w' hC => (cR w').mono fun e w'' ⟨he, hb⟩ => ⟨he, below_class hC hb⟩) ?_
  simp only [Act.put, List.setIfInBounds_toArray, List.set_cons_zero, List.set_cons_succ]
  refine wpQ_fn 15 _ _ rfl rfl #[.agg (nums r), .agg (d16 r)] rfl (fun _ => by go_simp) (.bool true) (fun w' hC => (kL5 w').mono fun e w'' ⟨he, hb⟩ => ⟨he, below_class hC hb⟩) ?_
  simp only [Act.put, List.setIfInBounds_toArray, List.set_cons_zero, List.set_cons_succ]
  refine wpQ_pick _ _ _ rfl rfl true rfl (.bool true) rfl ?_
  simp only [Act.put, List.setIfInBounds_toArray, List.set_cons_zero, List.set_cons_succ]
  refine wpQ_move _ rfl rfl (.bool true) rfl ?_
  simp only [Act.put, List.setIfInBounds_toArray, List.set_cons_zero, List.set_cons_succ]
  refine wpQ_move _ rfl rfl (.pointer (some ⟨g, 0, none⟩)) rfl ?_
  simp only [Act.put, List.setIfInBounds_toArray, List.set_cons_zero, List.set_cons_succ]
  refine wpQ_move _ rfl rfl (.pointer (some ⟨g, 0, none⟩)) rfl ?_
  simp only [Act.put, List.setIfInBounds_toArray, List.set_cons_zero, List.set_cons_succ]
  refine wpQ_has 24 _ rfl _ rfl rfl 24 _ (fun w' hC => hA.after hC) _ Try.underlying24 rfl (infoNum _) ?_
  simp only [Act.put, List.setIfInBounds_toArray, List.set_cons_zero, List.set_cons_succ]
  refine wpQ_fn 16 _ _ rfl rfl #[.pointer (some ⟨g, 0, none⟩), .agg (nums a)] rfl (fun _ => by go_simp) (.agg (nums am)) (fun w' hC => (kRA g w' (H.keep hI hC)).mono fun e w'' ⟨he, hb⟩ => ⟨he, below_class hC hb⟩) ?_
  simp only [Act.put, List.setIfInBounds_toArray, List.set_cons_zero, List.set_cons_succ]
  refine wpQ_move _ rfl rfl (.pointer (some ⟨g, 0, none⟩)) rfl ?_
  simp only [Act.put, List.setIfInBounds_toArray, List.set_cons_zero, List.set_cons_succ]
  refine wpQ_has 24 _ rfl _ rfl rfl 24 _ (fun w' hC => hB.after hC) _ Try.underlying24 rfl (infoNum _) ?_
  simp only [Act.put, List.setIfInBounds_toArray, List.set_cons_zero, List.set_cons_succ]
  refine wpQ_fn 16 _ _ rfl rfl #[.pointer (some ⟨g, 0, none⟩), .agg (nums b)] rfl (fun _ => by go_simp) (.agg (nums bm)) (fun w' hC => (kRB g w' (H.keep hI hC)).mono fun e w'' ⟨he, hb⟩ => ⟨he, below_class hC hb⟩) ?_
  simp only [Act.put, List.setIfInBounds_toArray, List.set_cons_zero, List.set_cons_succ]
  refine wpQ_fn 25 _ _ rfl rfl #[.pointer (some ⟨g, 0, none⟩), .agg (nums am), .agg (nums bm)] rfl (fun _ => by go_simp) (.agg (nums t)) (fun w' hC => (kT2 g w' (H.keep hI hC)).mono fun e w'' ⟨he, hb⟩ => ⟨he, below_class hC hb⟩) ?_
  simp only [Act.put, List.setIfInBounds_toArray, List.set_cons_zero, List.set_cons_succ]
  refine wpQ_has 34 _ rfl _ rfl rfl 34 _ (fun w' hC => hS.after hC) _ Try.underlying34 rfl (info16 _) ?_
  simp only [Act.put, List.setIfInBounds_toArray, List.set_cons_zero, List.set_cons_succ]
  refine wpQ_has 34 _ rfl _ rfl rfl 34 _ (fun w' hC => hK.after hC) _ Try.underlying34 rfl (info16 _) ?_
  simp only [Act.put, List.setIfInBounds_toArray, List.set_cons_zero, List.set_cons_succ]
  refine wpQ_fn 27 _ _ rfl rfl #[.agg (d16 ab), .agg (d16 m)] rfl (fun _ => by go_simp) (.agg (d16 t)) (fun w' hC => (cOV w').mono fun e w'' ⟨he, hb⟩ => ⟨he, below_class hC hb⟩) ?_
  simp only [Act.put, List.setIfInBounds_toArray, List.set_cons_zero, List.set_cons_succ]
  refine wpQ_fn 15 _ _ rfl rfl #[.agg (nums t), .agg (d16 t)] rfl (fun _ => by go_simp) (.bool true) (fun w' hC => (kL6 w').mono fun e w'' ⟨he, hb⟩ => ⟨he, below_class hC hb⟩) ?_
  simp only [Act.put, List.setIfInBounds_toArray, List.set_cons_zero, List.set_cons_succ]
  refine wpQ_pick _ _ _ rfl rfl true rfl (.bool true) rfl ?_
  simp only [Act.put, List.setIfInBounds_toArray, List.set_cons_zero, List.set_cons_succ]
  refine wpQuiet_nil ?_

  intro w10 hC
  have hfin := below_trans hb0 hC
  clear hC hM hA hB hK hP hQ hS hIN hI kMUL kIN kOUT kRB kRA kT1 kT2 kONE kL1 kL2 kL3 kL5 kL6 cR cIN cRED cOV
  go_wp2_with fail
  go_ret
  exact ⟨rfl, hfin⟩
end Go.Proofs.Ytodialbopochdaa
