/-
Package mont: what is below twice the modulus, made less than it.
-/
import Derived.Test.YtodialbopochdaaModB
namespace Go.Proofs.Ytodialbopochdaa
open Go.RowKit

theorem infVN : (Try.prog.info? 24).map (fun i => (i.zero, i.size)) = some (some (.agg (nums 0)), 8) := by kernel_rfl
theorem zeroVN (w : World) : (zeroValue 24).run Try.prog w = .ok (.agg (nums 0)) w := (zero_of_info infVN).1 w
theorem low_cmp {T m : Nat} (hT : T < 2 * m) (hm : m < big) : T / big < under (T % big) m ↔ T < m := by
  unfold under
  have hb := big_pos
  by_cases h : T < big
  · rw [Nat.div_eq_of_lt h, Nat.mod_eq_of_lt h]
    by_cases h2 : T < m <;> simp [h2]
  · have h1 : 1 ≤ T / big := (Nat.le_div_iff_mul_le hb).2 (by omega)
    constructor
    · intro h2
      split at h2 <;> omega
    · intro h2; omega
theorem low_val {T m : Nat} (hT : T < 2 * m) (hm : m < big) (h : ¬ T < m) : nums (T % big + big - m) = nums (T % m) := by
  rw [← nums_mod (T % big + big - m), ← nums_mod (T % m)]
  have e : T % m = T - m := by rw [Nat.mod_eq_sub_mod (by omega), Nat.mod_eq_of_lt (by omega)]
  rw [e]
  congr 1
  by_cases h2 : T < big
  · rw [Nat.mod_eq_of_lt h2, show T + big - m = (T - m) + big by omega, Nat.add_mod_right]
  · have e2 : T % big = T - big := by rw [Nat.mod_eq_sub_mod (by omega), Nat.mod_eq_of_lt (by omega)]
    rw [e2]
    congr 1
    omega
attribute [local go_sem] zeroNum
set_option maxRecDepth 100000 in
set_option maxHeartbeats 1000000 in
theorem lowered_any (T m ni o s g : Nat) (w : World) (hG : Has w g 52 (modC m ni o s)) (hT : T < 2 * m) (hm : m < big) :
    Calls Try.prog 37 #[.pointer (some ⟨g, 0, none⟩), .agg (nums T), .int .u32 ((hiN T : Nat) : Int)] w fun e w' => e = .returned (.agg (nums (T % m))) ∧ Below w.heap.size w w' := by
  unfold hiN
  have cS := fun W => sub_any (T % big) m W (Nat.mod_lt _ big_pos) hm
  rw [nums_mod] at cS
  have hcmp := low_cmp hT hm
  have hval := low_val hT hm
  have hv2 : T < m → nums T = nums (T % m) := fun h => by rw [Nat.mod_eq_of_lt h]
  clear hT hm
  generalize hh : T / big = h at *
  clear hh
  generalize hu : under (T % big) m = u at *
  generalize hd : T % big + big - m = d at *
  generalize hx : T % m = x at *
  clear hu hd hx
  have hA : Has ((w.alloc (.cells (nums T) 24)).alloc (.cells (nums 0) 24)) w.heap.size 24 (nums T) := (Has.new w _ _).alloc _
  have hR : Has ((w.alloc (.cells (nums T) 24)).alloc (.cells (nums 0) 24)) (w.heap.size + 1) 24 (nums 0) := Has.new' (by simp)
  have hb0 : Below w.heap.size w ((w.alloc (.cells (nums T) 24)).alloc (.cells (nums 0) 24)) := ((Below.refl _ _).alloc (Nat.le_refl _) _).alloc (by simp) _
  replace hG := hG.after hb0
  have n0 := nums_ne 0
  go_enter Try.func37, Try.ntmps37
  go_wp2_with fail
  generalize (w.alloc _).alloc _ = W at *
  refine region_facts 10 [8] [.val (.agg (nums T)), .val (.pointer (some ⟨g, 0, none⟩)), .val (.pointer (some ⟨g, 0, none⟩)), .val (.pointer (some ⟨g, 0, none⟩)), .val (.agg (nums m)), .val (.tuple #[.agg (nums d), .int .u32 ((u : Nat) : Int)]), .val (.tuple #[.agg (nums d), .int .u32 ((u : Nat) : Int)]), .val (.agg (nums d)), .val (.int .u32 ((u : Nat) : Int)), .new 24 (nums 0)]
    (by kernel_rfl) (by kernel_rfl) (fun _ _ _ _ _ h => h) ?_ ?_
  · simp only [List.take_succ_cons, List.take_zero, StepsOK]
    refine ⟨?_, ?_, ?_, ?_, ?_, ?_, ?_, ?_, ?_, ?_, trivial⟩
    · intro v w' hb hf K hKt
      simp only [putAll, Act.put, List.setIfInBounds_toArray, List.set_cons_zero, List.set_cons_succ, Nat.zero_add, Nat.reduceAdd] at hKt ⊢
      exact wp_load_row 24 _ rfl (w.heap.size) rfl 24 _ (0, 0) _ (hA.after hb) Try.underlying24 rfl (infoNum _) (hKt _ (Below.refl _ _))
    · intro v w' hb hf K hKt
      simp only [putAll, Act.put, List.setIfInBounds_toArray, List.set_cons_zero, List.set_cons_succ, Nat.zero_add, Nat.reduceAdd] at hKt ⊢
      go_simp
      exact hKt _ (Below.refl _ _)
    · intro v w' hb hf K hKt
      have f1 : v 1 = _ := hf ⟨1, .data⟩ (by simp) rfl
      simp only [putAll, Act.put, List.setIfInBounds_toArray, List.set_cons_zero, List.set_cons_succ, Nat.zero_add, Nat.reduceAdd] at hKt ⊢
      rw [f1] at hKt ⊢
      go_simp
      exact hKt _ (Below.refl _ _)
    · intro v w' hb hf K hKt
      have f2 : v 2 = _ := hf ⟨2, .data⟩ (by simp) rfl
      simp only [putAll, Act.put, List.setIfInBounds_toArray, List.set_cons_zero, List.set_cons_succ, Nat.zero_add, Nat.reduceAdd] at hKt ⊢
      rw [f2] at hKt ⊢
      go_simp
      exact hKt _ (Below.refl _ _)
    · intro v w' hb hf K hKt
      have f3 : v 3 = _ := hf ⟨3, .data⟩ (by simp) rfl
      simp only [putAll, Act.put, List.setIfInBounds_toArray, List.set_cons_zero, List.set_cons_succ, Nat.zero_add, Nat.reduceAdd] at hKt ⊢
      rw [f3] at hKt ⊢
      exact wp_load_num _ rfl (g) 0 rfl m (mod_words (hG.after hb)) (hKt _ (Below.refl _ _))
    · intro v w' hb hf K hKt
      have f0 : v 0 = _ := hf ⟨0, .data⟩ (by simp) rfl
      have f4 : v 4 = _ := hf ⟨4, .data⟩ (by simp) rfl
      simp only [putAll, Act.put, List.setIfInBounds_toArray, List.set_cons_zero, List.set_cons_succ, Nat.zero_add, Nat.reduceAdd] at hKt ⊢
      rw [f0, f4] at hKt ⊢
      go_simp
      refine (cS w').mono ?_
      rintro e w'' ⟨rfl, hb2⟩
      exact hKt _ hb2
    · intro v w' hb hf K hKt
      have f5 : v 5 = _ := hf ⟨5, .data⟩ (by simp) rfl
      simp only [putAll, Act.put, List.setIfInBounds_toArray, List.set_cons_zero, List.set_cons_succ, Nat.zero_add, Nat.reduceAdd] at hKt ⊢
      rw [f5] at hKt ⊢
      go_simp
      exact hKt _ (Below.refl _ _)
    · intro v w' hb hf K hKt
      have f6 : v 6 = _ := hf ⟨6, .data⟩ (by simp) rfl
      simp only [putAll, Act.put, List.setIfInBounds_toArray, List.set_cons_zero, List.set_cons_succ, Nat.zero_add, Nat.reduceAdd] at hKt ⊢
      rw [f6] at hKt ⊢
      go_simp
      exact hKt _ (Below.refl _ _)
    · intro v hf w'
      obtain ⟨_, f6⟩ := hf ⟨6, .data⟩ (by simp) rfl
      replace f6 : v 6 = _ := f6
      simp only [putAll, Act.put, List.setIfInBounds_toArray, List.set_cons_zero, List.set_cons_succ, Nat.zero_add, Nat.reduceAdd]
      rw [f6]
      go_simp
    · exact ⟨rfl, rfl, zeroVN⟩
  intro v w1 hb hF hD
  have f0 : v 0 = _ := hF 0 (by decide)
  have f1 : v 1 = _ := hF 1 (by decide)
  have f2 : v 2 = _ := hF 2 (by decide)
  have f3 : v 3 = _ := hF 3 (by decide)
  have f4 : v 4 = _ := hF 4 (by decide)
  have f5 : v 5 = _ := hF 5 (by decide)
  have f6 : v 6 = _ := hF 6 (by decide)
  have f7 : v 7 = _ := hF 7 (by decide)
  have f8 : v 8 = _ := hF 8 (by decide)
  obtain ⟨gd, f9, hg9, hl9, hz9⟩ := hF 9 (by decide)
  replace hz9 : Has w1 gd 24 (nums 0) := hz9
  simp only [List.take_succ_cons, List.take_zero, List.drop_succ_cons, List.drop_zero, putAll, Act.put, List.setIfInBounds_toArray, List.set_cons_zero, List.set_cons_succ, Nat.zero_add, Nat.reduceAdd]
  rw [f0, f1, f2, f3, f4, f5, f6, f7, f8, f9]
  clear hF hD f0 f1 f2 f3 f4 f5 f6 f7 f8 f9
  have hs9 := hz9
  have hBW := below_setRow (hb) (g := gd) hg9 (nums d)
  have hD := (hz9).setRow (nums d)
  replace hA := hA.after hBW
  replace hG := hG.after hBW
  replace hR := hR.after hBW
  replace hb0 := below_trans hb0 hBW
  have HC := Lib.hid hcmp
  have HV := Lib.hid hv2
  have HW := Lib.hid hval
  clear cS hcmp hv2 hval
  go_wp2_with (first | refine wpList_store_row rfl 24 _ _ rfl gd _ rfl rfl 24 (nums 0) hs9 (infoNum _) (by simp only [nums_size, d16_size]) (tab_oneCell _ _ fun _ => rfl) ?_ | refine wpList_load_has 24 _ rfl (w.heap.size) rfl rfl 24 _ hA _ Try.underlying24 rfl (infoNum _) ?_ | refine wpList_load_has 24 _ rfl (gd) rfl rfl 24 _ hD _ Try.underlying24 rfl (infoNum _) ?_ | refine wpList_store_row rfl 24 _ _ rfl (w.heap.size + 1) _ rfl rfl 24 _ hR (infoNum _) (by simp only [nums_size]) (tab_oneCell _ _ fun _ => rfl) ?_)
  clear hBW hb hs9 hz9 hg9 hl9
  · have e := HV.out (HC.out.1 (by assumption))
    exact bodyPost_ret (v := .agg (nums x)) (results_cell_row rfl _ _ (w.heap.size + 1) 24 _ _ _ rfl (by rw [← e]; exact hR.setRow _) Try.underlying24 rfl (infoNum _)) rfl ⟨rfl, below_setRow hb0 (by omega) _⟩
  · have e := HW.out (fun z => absurd (HC.out.2 z) (by assumption))
    exact bodyPost_ret (v := .agg (nums x)) (results_cell_row rfl _ _ (w.heap.size + 1) 24 _ _ _ rfl (by rw [← e]; exact hR.setRow _) Try.underlying24 rfl (infoNum _)) rfl ⟨rfl, below_setRow hb0 (by omega) _⟩
end Go.Proofs.Ytodialbopochdaa
