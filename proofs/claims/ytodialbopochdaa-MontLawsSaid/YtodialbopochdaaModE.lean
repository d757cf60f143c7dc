/-
Package mont: differences, the plain calls.
-/
import Derived.Test.YtodialbopochdaaModD
namespace Go.Proofs.Ytodialbopochdaa
open Go.RowKit

/-- block g holds the arithmetic modulo m -/
def IsMod (w : World) (g m : Nat) : Prop := ∃ ni, ni < 4294967296 ∧ (m % BB * ni + 1) % BB = 0 ∧ m % 2 = 1 ∧ 1 < m ∧ m < big ∧ Has w g 52 (modC m ni (RR % m) (RR * RR % m))
theorem IsMod.after {w w' : World} {g m : Nat} (h : IsMod w g m) (k : Below w.heap.size w w') : IsMod w' g m := by
  obtain ⟨ni, h1, h2, h3, h4, h5, h6⟩ := h
  exact ⟨ni, h1, h2, h3, h4, h5, h6.after k⟩
theorem mprod_any (a b m g : Nat) (w : World) (h : IsMod w g m) (ha : a < big) (hb : b < big) (hab : a * b < big * m) :
    Calls Try.prog 42 #[.pointer (some ⟨g, 0, none⟩), .agg (nums a), .agg (nums b)] w fun e w' => e = .returned (.agg (nums (redc m (a * b)))) ∧ Below w.heap.size w w' := by
  obtain ⟨ni, h1, h2, h3, h4, h5, h6⟩ := h
  exact product_any a b m ni _ _ g w h6 h1 h2 h3 h5 ha hb hab
theorem mul_bound {a b m : Nat} (ha : a < m) (hb : b < big) : a * b < big * m := by
  have h1 : a * b ≤ a * big := Nat.mul_le_mul_left _ (by omega)
  have h2 : a * big < m * big := Nat.mul_lt_mul_of_pos_right ha big_pos
  rw [Nat.mul_comm big m]; omega
theorem mul_bound2 {a b m : Nat} (ha : a < big) (hb : b < m) : a * b < big * m := by
  rw [Nat.mul_comm a b]; exact mul_bound hb ha
theorem sub_low {a b m : Nat} (ha : a < m) (hb : b < m) (h : ¬ a < b) : nums (a + big - b) = nums ((a + (m - b)) % m) := by
  rw [← nums_mod (a + big - b), show a + big - b = (a - b) + big by omega, Nat.add_mod_right, nums_mod, show a + (m - b) = (a - b) + m by omega, Nat.add_mod_right, Nat.mod_eq_of_lt (show a - b < m by omega)]
theorem sub_high {a b m : Nat} (ha : a < m) (hb : b < m) (hm : m < big) (h : a < b) : nums (a + big - b + m) = nums ((a + (m - b)) % m) := by
  rw [← nums_mod (a + big - b + m), show a + big - b + m = (a + (m - b)) + big by omega, Nat.add_mod_right, nums_mod, Nat.mod_eq_of_lt (show a + (m - b) < m by omega)]
attribute [local go_sem] zeroNum
set_option maxRecDepth 100000 in
set_option maxHeartbeats 1000000 in
theorem subm_any (a b m ni o s g : Nat) (w : World) (hG : Has w g 52 (modC m ni o s)) (ha : a < m) (hb : b < m) (hm : m < big) :
    Calls Try.prog 18 #[.pointer (some ⟨g, 0, none⟩), .agg (nums a), .agg (nums b)] w fun e w' => e = .returned (.agg (nums ((a + (m - b)) % m))) ∧ Below w.heap.size w w' := by
  have cS := fun W => sub_any a b W (by omega) (by omega)
  have hl := sub_low ha hb
  have hh := sub_high ha hb hm
  have n0 := nums_ne 0
  have hA : Has (((w.alloc (.cells (nums a) 24)).alloc (.cells (nums b) 24)).alloc (.cells (nums 0) 24)) (w.heap.size) 24 (nums a) := ((Has.new w _ _).alloc _).alloc _
  have hB : Has (((w.alloc (.cells (nums a) 24)).alloc (.cells (nums b) 24)).alloc (.cells (nums 0) 24)) (w.heap.size + 1) 24 (nums b) := (Has.new' (by simp)).alloc _
  have hR : Has (((w.alloc (.cells (nums a) 24)).alloc (.cells (nums b) 24)).alloc (.cells (nums 0) 24)) (w.heap.size + 1 + 1) 24 (nums 0) := Has.new' (by simp)
  have hb0 : Below w.heap.size w (((w.alloc (.cells (nums a) 24)).alloc (.cells (nums b) 24)).alloc (.cells (nums 0) 24)) := (((Below.refl _ _).alloc (Nat.le_refl _) _).alloc (by simp <;> omega) _).alloc (by simp <;> omega) _
  have hgw := hG.lt
  replace hG := hG.after hb0
  have hd : a < b → a + big - b < big := fun h => by omega
  generalize hx : (a + (m - b)) % m = x at *
  generalize hdd : a + big - b = d at *
  by_cases hlt : a < b
  · have hu : under a b = 1 := if_pos hlt
    have cA := fun W => add_any d m W (hd hlt) hm
    have HE := Lib.hid (hh hlt)
    rw [hu] at cS
    clear hd hh hl hx hdd hlt ha hb hm hu
    generalize over d m = u2 at *
    generalize d + m = r at *
    go_enter Try.func18, Try.ntmps18
    go_wp2_with (first | refine wpList_load_has 24 _ rfl _ rfl rfl 24 _ hA _ Try.underlying24 rfl (infoNum _) ?_ | refine wpList_load_has 24 _ rfl _ rfl rfl 24 _ hB _ Try.underlying24 rfl (infoNum _) ?_)
    refine (cS _).mono ?_
    rintro e w1 ⟨rfl, hx⟩
    have hlR := (hR.after hx).lt
    have hN := put_new w1 24 (nums 0) (nums d)
    replace hR := (hR.after hx).after hN.2
    replace hG := (hG.after hx).after hN.2
    replace hb0 := below_trans (below_trans hb0 hx) hN.2
    have hD := hN.1
    clear hx hN hA hB cS
    go_wp2_with (first | refine wpList_store_row rfl 24 _ _ rfl w1.heap.size _ rfl rfl 24 (nums 0) (Has.new' rfl) (infoNum _) (by simp only [nums_size]) (tab_oneCell _ _ fun _ => rfl) ?_)
    generalize ((w1.alloc _).setRow _ _) = W at *
    refine region_facts 9 [8] [.val (.agg (nums d)), .val (.pointer (some ⟨g, 0, none⟩)), .val (.pointer (some ⟨g, 0, none⟩)), .val (.pointer (some ⟨g, 0, none⟩)), .val (.agg (nums m)), .val (.tuple #[.agg (nums r), .int .u32 ((u2 : Nat) : Int)]), .val (.tuple #[.agg (nums r), .int .u32 ((u2 : Nat) : Int)]), .val (.agg (nums r)), .val (.int .u32 ((u2 : Nat) : Int))]
      (by kernel_rfl) (by kernel_rfl) (fun _ _ _ _ _ h => h) ?_ ?_
    · simp only [List.take_succ_cons, List.take_zero, StepsOK]
      refine ⟨?_, ?_, ?_, ?_, ?_, ?_, ?_, ?_, ?_, trivial⟩
      · intro v w' hb hf K hKt
        simp only [putAll, Act.put, List.setIfInBounds_toArray, List.set_cons_zero, List.set_cons_succ, Nat.zero_add, Nat.reduceAdd] at hKt ⊢
        exact wp_load_row 24 _ rfl (w1.heap.size) rfl 24 _ (0, 0) _ (hD.after hb) Try.underlying24 rfl (infoNum _) (hKt _ (Below.refl _ _))
      · intro v w' hb hf K hKt
        simp only [putAll, Act.put, List.setIfInBounds_toArray, List.set_cons_zero, List.set_cons_succ, Nat.zero_add, Nat.reduceAdd] at hKt ⊢
        go_simp
        exact hKt _ (Below.refl _ _)
      · intro v w' hb hf K hKt
        have f1 : v 1 = _ := hf ⟨1, .data⟩ (by simp) rfl
        simp only [putAll, Act.put, List.setIfInBounds_toArray, List.set_cons_zero, List.set_cons_succ, Nat.zero_add, Nat.reduceAdd] at hKt ⊢
        rw [f1] at hKt ⊢
        go_simp
        exact hKt _ (Below.refl _ _)
      · intro v w' hb hf K hKt
        have f2 : v 2 = _ := hf ⟨2, .data⟩ (by simp) rfl
        simp only [putAll, Act.put, List.setIfInBounds_toArray, List.set_cons_zero, List.set_cons_succ, Nat.zero_add, Nat.reduceAdd] at hKt ⊢
        rw [f2] at hKt ⊢
        go_simp
        exact hKt _ (Below.refl _ _)
      · intro v w' hb hf K hKt
        have f3 : v 3 = _ := hf ⟨3, .data⟩ (by simp) rfl
        simp only [putAll, Act.put, List.setIfInBounds_toArray, List.set_cons_zero, List.set_cons_succ, Nat.zero_add, Nat.reduceAdd] at hKt ⊢
        rw [f3] at hKt ⊢
        exact wp_load_num _ rfl (g) 0 rfl m (mod_words (hG.after hb)) (hKt _ (Below.refl _ _))
      · intro v w' hb hf K hKt
        have f0 : v 0 = _ := hf ⟨0, .data⟩ (by simp) rfl
        have f4 : v 4 = _ := hf ⟨4, .data⟩ (by simp) rfl
        simp only [putAll, Act.put, List.setIfInBounds_toArray, List.set_cons_zero, List.set_cons_succ, Nat.zero_add, Nat.reduceAdd] at hKt ⊢
        rw [f0, f4] at hKt ⊢
        go_simp
        refine (cA w').mono ?_
        rintro e w'' ⟨rfl, hb2⟩
        exact hKt _ hb2
      · intro v w' hb hf K hKt
        have f5 : v 5 = _ := hf ⟨5, .data⟩ (by simp) rfl
        simp only [putAll, Act.put, List.setIfInBounds_toArray, List.set_cons_zero, List.set_cons_succ, Nat.zero_add, Nat.reduceAdd] at hKt ⊢
        rw [f5] at hKt ⊢
        go_simp
        exact hKt _ (Below.refl _ _)
      · intro v w' hb hf K hKt
        have f6 : v 6 = _ := hf ⟨6, .data⟩ (by simp) rfl
        simp only [putAll, Act.put, List.setIfInBounds_toArray, List.set_cons_zero, List.set_cons_succ, Nat.zero_add, Nat.reduceAdd] at hKt ⊢
        rw [f6] at hKt ⊢
        go_simp
        exact hKt _ (Below.refl _ _)
      · intro v hf w'
        obtain ⟨_, f6⟩ := hf ⟨6, .data⟩ (by simp) rfl
        replace f6 : v 6 = _ := f6
        simp only [putAll, Act.put, List.setIfInBounds_toArray, List.set_cons_zero, List.set_cons_succ, Nat.zero_add, Nat.reduceAdd]
        rw [f6]
        go_simp
    intro v w2 hb hF hD
    have f0 : v 0 = _ := hF 0 (by decide)
    have f1 : v 1 = _ := hF 1 (by decide)
    have f2 : v 2 = _ := hF 2 (by decide)
    have f3 : v 3 = _ := hF 3 (by decide)
    have f4 : v 4 = _ := hF 4 (by decide)
    have f5 : v 5 = _ := hF 5 (by decide)
    have f6 : v 6 = _ := hF 6 (by decide)
    have f7 : v 7 = _ := hF 7 (by decide)
    have f8 : v 8 = _ := hF 8 (by decide)
    simp only [List.take_succ_cons, List.take_zero, List.drop_succ_cons, List.drop_zero, putAll, Act.put, List.setIfInBounds_toArray, List.set_cons_zero, List.set_cons_succ, Nat.zero_add, Nat.reduceAdd]
    rw [f0, f1, f2, f3, f4, f5, f6, f7, f8]
    clear hF hD f0 f1 f2 f3 f4 f5 f6 f7 f8
    have hBW := hb
    replace hD := hD.after hBW
    replace hG := hG.after hBW
    replace hD2 := hD.setRow (nums r)
    replace hR := (hR.after hBW).farRow (k := w1.heap.size) (by omega) (nums r)
    replace hb0 := below_setRow (below_trans hb0 hBW) (g := w1.heap.size) (by omega) (nums r)
    go_wp2_with (first | refine wpList_store_row rfl 24 _ _ rfl (w1.heap.size) _ rfl rfl 24 _ hD (infoNum _) (by simp only [nums_size]) (tab_oneCell _ _ fun _ => rfl) ?_ | refine wpList_load_has 24 _ rfl _ rfl rfl 24 _ hD2 _ Try.underlying24 rfl (infoNum _) ?_ | refine wpList_store_row rfl 24 _ _ rfl (w.heap.size + 1 + 1) _ rfl rfl 24 _ hR (infoNum _) (by simp only [nums_size]) (tab_oneCell _ _ fun _ => rfl) ?_)
    clear hBW hb 
    exact bodyPost_ret (v := .agg (nums x)) (results_cell_row rfl _ _ (w.heap.size + 1 + 1) 24 _ _ _ rfl (by rw [← HE.out]; exact hR.setRow _) Try.underlying24 rfl (infoNum _)) rfl ⟨rfl, below_setRow hb0 (by omega) _⟩
  · have hu : under a b = 0 := if_neg hlt
    have HE := Lib.hid (hl hlt)
    rw [hu] at cS
    clear hd hh hl hx hdd hlt ha hb hm hu
    go_enter Try.func18, Try.ntmps18
    go_wp2_with (first | refine wpList_load_has 24 _ rfl _ rfl rfl 24 _ hA _ Try.underlying24 rfl (infoNum _) ?_ | refine wpList_load_has 24 _ rfl _ rfl rfl 24 _ hB _ Try.underlying24 rfl (infoNum _) ?_)
    refine (cS _).mono ?_
    rintro e w1 ⟨rfl, hx⟩
    have hN := put_new w1 24 (nums 0) (nums d)
    replace hR := (hR.after hx).after hN.2
    replace hb0 := below_trans (below_trans hb0 hx) hN.2
    have hD := hN.1
    clear hx hN hA hB cS hG
    go_wp2_with (first | refine wpList_store_row rfl 24 _ _ rfl w1.heap.size _ rfl rfl 24 (nums 0) (Has.new' rfl) (infoNum _) (by simp only [nums_size]) (tab_oneCell _ _ fun _ => rfl) ?_ | refine wpList_load_has 24 _ rfl _ rfl rfl 24 _ hD _ Try.underlying24 rfl (infoNum _) ?_ | refine wpList_store_row rfl 24 _ _ rfl (w.heap.size + 1 + 1) _ rfl rfl 24 _ hR (infoNum _) (by simp only [nums_size]) (tab_oneCell _ _ fun _ => rfl) ?_)
    exact bodyPost_ret (v := .agg (nums x)) (results_cell_row rfl _ _ (w.heap.size + 1 + 1) 24 _ _ _ rfl (by rw [← HE.out]; exact hR.setRow _) Try.underlying24 rfl (infoNum _)) rfl ⟨rfl, below_setRow hb0 (by omega) _⟩
attribute [local go_sem] zeroNum
set_option maxRecDepth 100000 in
set_option maxHeartbeats 1000000 in
theorem mmodulus_any (m g : Nat) (w : World) (h : IsMod w g m) : Calls Try.prog 11 #[.pointer (some ⟨g, 0, none⟩)] w fun e w' => e = .returned (.agg (nums m)) ∧ Below w.heap.size w w' := by
  obtain ⟨ni, i1, i2, i3, i4, i5, hG⟩ := h
  have n0 := nums_ne 0
  have hR : Has (w.alloc (.cells (nums 0) 24)) (w.heap.size) 24 (nums 0) := Has.new w _ _
  have hb0 : Below w.heap.size w (w.alloc (.cells (nums 0) 24)) := (Below.refl _ _).alloc (Nat.le_refl _) _
  replace hG := hG.after hb0
  go_enter Try.func11, Try.ntmps11
  go_wp2_with (first | refine wpList_load_num rfl _ rfl _ 0 rfl _ (mod_words hG) ?_ | refine wpList_store_row rfl 24 _ _ rfl (w.heap.size) _ rfl rfl 24 _ hR (infoNum _) (by simp only [nums_size]) (tab_oneCell _ _ fun _ => rfl) ?_)
  exact bodyPost_ret (v := .agg (nums m)) (results_cell_row rfl _ _ (w.heap.size) 24 _ _ _ rfl (hR.setRow _) Try.underlying24 rfl (infoNum _)) rfl ⟨rfl, below_setRow hb0 (by omega) _⟩
attribute [local go_sem] zeroNum
set_option maxRecDepth 100000 in
set_option maxHeartbeats 1000000 in
theorem mone_any (m g : Nat) (w : World) (h : IsMod w g m) : Calls Try.prog 26 #[.pointer (some ⟨g, 0, none⟩)] w fun e w' => e = .returned (.agg (nums (RR % m))) ∧ Below w.heap.size w w' := by
  obtain ⟨ni, i1, i2, i3, i4, i5, hG⟩ := h
  have n0 := nums_ne 0
  have hR : Has (w.alloc (.cells (nums 0) 24)) (w.heap.size) 24 (nums 0) := Has.new w _ _
  have hb0 : Below w.heap.size w (w.alloc (.cells (nums 0) 24)) := (Below.refl _ _).alloc (Nat.le_refl _) _
  replace hG := hG.after hb0
  go_enter Try.func26, Try.ntmps26
  go_wp2_with (first | refine wpList_load_num rfl _ rfl _ 9 rfl _ (mod_one hG) ?_ | refine wpList_store_row rfl 24 _ _ rfl (w.heap.size) _ rfl rfl 24 _ hR (infoNum _) (by simp only [nums_size]) (tab_oneCell _ _ fun _ => rfl) ?_)
  exact bodyPost_ret (v := .agg (nums (RR % m))) (results_cell_row rfl _ _ (w.heap.size) 24 _ _ _ rfl (hR.setRow _) Try.underlying24 rfl (infoNum _)) rfl ⟨rfl, below_setRow hb0 (by omega) _⟩
attribute [local go_sem] zeroNum
set_option maxRecDepth 100000 in
set_option maxHeartbeats 1000000 in
theorem nmodulus_any (w : World) : Calls Try.prog 11 #[.pointer none] w fun e w' => e = .returned (.agg (nums 0)) ∧ Below w.heap.size w w' := by
  have n0 := nums_ne 0
  have hR : Has (w.alloc (.cells (nums 0) 24)) (w.heap.size) 24 (nums 0) := Has.new w _ _
  have hb0 : Below w.heap.size w (w.alloc (.cells (nums 0) 24)) := (Below.refl _ _).alloc (Nat.le_refl _) _
  go_enter Try.func11, Try.ntmps11
  go_wp2_with (first | refine wpList_store_row rfl 24 _ _ rfl (w.heap.size) _ rfl rfl 24 _ hR (infoNum _) (by simp only [nums_size]) (tab_oneCell _ _ fun _ => rfl) ?_)
  exact bodyPost_ret (v := .agg (nums 0)) (results_cell_row rfl _ _ (w.heap.size) 24 _ _ _ rfl (hR.setRow _) Try.underlying24 rfl (infoNum _)) rfl ⟨rfl, below_setRow hb0 (by omega) _⟩
attribute [local go_sem] zeroNum
set_option maxRecDepth 100000 in
set_option maxHeartbeats 1000000 in
theorem nadd_any (a b : Nat) (w : World) : Calls Try.prog 10 #[.pointer none, .agg (nums a), .agg (nums b)] w fun e w' => e = .returned (.agg (nums 0)) ∧ Below w.heap.size w w' := by
  have n0 := nums_ne 0
  have hA : Has (((w.alloc (.cells (nums a) 24)).alloc (.cells (nums b) 24)).alloc (.cells (nums 0) 24)) (w.heap.size) 24 (nums a) := ((Has.new w _ _).alloc _).alloc _
  have hB : Has (((w.alloc (.cells (nums a) 24)).alloc (.cells (nums b) 24)).alloc (.cells (nums 0) 24)) (w.heap.size + 1) 24 (nums b) := (Has.new' (by simp)).alloc _
  have hR : Has (((w.alloc (.cells (nums a) 24)).alloc (.cells (nums b) 24)).alloc (.cells (nums 0) 24)) (w.heap.size + 1 + 1) 24 (nums 0) := Has.new' (by simp)
  have hb0 : Below w.heap.size w (((w.alloc (.cells (nums a) 24)).alloc (.cells (nums b) 24)).alloc (.cells (nums 0) 24)) := (((Below.refl _ _).alloc (Nat.le_refl _) _).alloc (by simp <;> omega) _).alloc (by simp <;> omega) _
  go_enter Try.func10, Try.ntmps10
  go_wp2_with (first | refine wpList_store_row rfl 24 _ _ rfl (w.heap.size + 1 + 1) _ rfl rfl 24 _ hR (infoNum _) (by simp only [nums_size]) (tab_oneCell _ _ fun _ => rfl) ?_)
  exact bodyPost_ret (v := .agg (nums 0)) (results_cell_row rfl _ _ (w.heap.size + 1 + 1) 24 _ _ _ rfl (hR.setRow _) Try.underlying24 rfl (infoNum _)) rfl ⟨rfl, below_setRow hb0 (by omega) _⟩
attribute [local go_sem] zeroNum
set_option maxRecDepth 100000 in
set_option maxHeartbeats 1000000 in
theorem mtimes_any (a b m g : Nat) (w : World) (h : IsMod w g m) (ha : a < m) (hb : b < m) : Calls Try.prog 25 #[.pointer (some ⟨g, 0, none⟩), .agg (nums a), .agg (nums b)] w fun e w' => e = .returned (.agg (nums (redc m (a * b)))) ∧ Below w.heap.size w w' := by
  have hm : m < big := by obtain ⟨_, _, _, _, _, h, _⟩ := h; exact h
  have cP := fun W h => mprod_any a b m g W h (by omega) (by omega) (mul_bound ha (by omega))
  clear ha hb hm
  generalize redc m (a * b) = x at *
  have n0 := nums_ne 0
  have hA : Has (((w.alloc (.cells (nums a) 24)).alloc (.cells (nums b) 24)).alloc (.cells (nums 0) 24)) (w.heap.size) 24 (nums a) := ((Has.new w _ _).alloc _).alloc _
  have hB : Has (((w.alloc (.cells (nums a) 24)).alloc (.cells (nums b) 24)).alloc (.cells (nums 0) 24)) (w.heap.size + 1) 24 (nums b) := (Has.new' (by simp)).alloc _
  have hR : Has (((w.alloc (.cells (nums a) 24)).alloc (.cells (nums b) 24)).alloc (.cells (nums 0) 24)) (w.heap.size + 1 + 1) 24 (nums 0) := Has.new' (by simp)
  have hb0 : Below w.heap.size w (((w.alloc (.cells (nums a) 24)).alloc (.cells (nums b) 24)).alloc (.cells (nums 0) 24)) := (((Below.refl _ _).alloc (Nat.le_refl _) _).alloc (by simp <;> omega) _).alloc (by simp <;> omega) _
  replace h := h.after hb0
  go_enter Try.func25, Try.ntmps25
  go_wp2_with (first | refine wpList_load_has 24 _ rfl _ rfl rfl 24 _ hA _ Try.underlying24 rfl (infoNum _) ?_ | refine wpList_load_has 24 _ rfl _ rfl rfl 24 _ hB _ Try.underlying24 rfl (infoNum _) ?_)
  refine (cP _ h).mono ?_
  rintro e w1 ⟨rfl, hx⟩
  replace hR := hR.after hx
  replace hb0 := below_trans hb0 hx
  go_wp2_with (first | refine wpList_store_row rfl 24 _ _ rfl (w.heap.size + 1 + 1) _ rfl rfl 24 _ hR (infoNum _) (by simp only [nums_size]) (tab_oneCell _ _ fun _ => rfl) ?_)
  exact bodyPost_ret (v := .agg (nums x)) (results_cell_row rfl _ _ (w.heap.size + 1 + 1) 24 _ _ _ rfl (hR.setRow _) Try.underlying24 rfl (infoNum _)) rfl ⟨rfl, below_setRow hb0 (by omega) _⟩
attribute [local go_sem] zeroNum
set_option maxRecDepth 100000 in
set_option maxHeartbeats 1000000 in
theorem min_any (a m g : Nat) (w : World) (h : IsMod w g m) (ha : a < big) : Calls Try.prog 23 #[.pointer (some ⟨g, 0, none⟩), .agg (nums a)] w fun e w' => e = .returned (.agg (nums (a * RR % m))) ∧ Below w.heap.size w w' := by
  have hm : m < big := by obtain ⟨_, _, _, _, _, h, _⟩ := h; exact h
  have hm1 : 1 < m := by obtain ⟨_, _, _, _, h, _⟩ := h; exact h
  have hm2 : m % 2 = 1 := by obtain ⟨_, _, _, h, _⟩ := h; exact h
  have hs : RR * RR % m < m := Nat.mod_lt _ (by omega)
  have cP := fun W h => mprod_any a (RR * RR % m) m g W h ha (by omega) (mul_bound2 ha hs)
  have e : redc m (a * (RR * RR % m)) = a * RR % m := by
    rw [← redc_mod, Nat.mul_mod, Nat.mod_mod, ← Nat.mul_mod, redc_mod, ← Nat.mul_assoc, redc_R m _ hm2]
  rw [e] at cP
  have hG : ∃ ni, Has w g 52 (modC m ni (RR % m) (RR * RR % m)) := by obtain ⟨ni, _, _, _, _, _, h⟩ := h; exact ⟨ni, h⟩
  obtain ⟨ni, hG⟩ := hG
  clear e ha hm hm1 hm2 hs
  generalize a * RR % m = x at *
  generalize RR * RR % m = s at *
  have n0 := nums_ne 0
  have hA : Has ((w.alloc (.cells (nums a) 24)).alloc (.cells (nums 0) 24)) (w.heap.size) 24 (nums a) := (Has.new w _ _).alloc _
  have hR : Has ((w.alloc (.cells (nums a) 24)).alloc (.cells (nums 0) 24)) (w.heap.size + 1) 24 (nums 0) := Has.new' (by simp)
  have hb0 : Below w.heap.size w ((w.alloc (.cells (nums a) 24)).alloc (.cells (nums 0) 24)) := ((Below.refl _ _).alloc (Nat.le_refl _) _).alloc (by simp <;> omega) _
  replace h := h.after hb0
  replace hG := hG.after hb0
  go_enter Try.func23, Try.ntmps23
  go_wp2_with fail
  generalize ((w.alloc _).alloc _) = W at *
  refine region_quiet_tail (Below W.heap.size W) 7 (by kernel_rfl) (by kernel_rfl) (below_drewN (Below.refl _ _) 1) ?_
  simp only [List.take_succ_cons, List.take_zero, List.drop_succ_cons, List.drop_zero]
  refine wpQ_move _ rfl rfl (.pointer (some ⟨g, 0, none⟩)) rfl ?_
  simp only [Act.put, List.setIfInBounds_toArray, List.set_cons_zero, List.set_cons_succ]
  refine wpQ_has 24 _ rfl _ rfl rfl 24 _ (fun w' hC => hA.after hC) _ Try.underlying24 rfl (infoNum _) ?_
  simp only [Act.put, List.setIfInBounds_toArray, List.set_cons_zero, List.set_cons_succ]
  refine wpQ_move _ rfl rfl (.pointer (some ⟨g, 0, none⟩)) rfl ?_
  simp only [Act.put, List.setIfInBounds_toArray, List.set_cons_zero, List.set_cons_succ]
  refine wpQ_val rfl (.pointer (some ⟨g, 0, none⟩)) (fun w' _ => by go_simp) ?_
  simp only [Act.put, List.setIfInBounds_toArray, List.set_cons_zero, List.set_cons_succ]
  refine wpQ_val rfl (.pointer (some ⟨g, 17, none⟩)) (fun w' _ => by go_simp) ?_
  simp only [Act.put, List.setIfInBounds_toArray, List.set_cons_zero, List.set_cons_succ]
  refine wpQ_load_num rfl _ rfl g 17 rfl s (fun w' hC => mod_square (hG.after hC)) ?_
  simp only [Act.put, List.setIfInBounds_toArray, List.set_cons_zero, List.set_cons_succ]
  refine wpQ_fn 42 _ _ rfl rfl #[.pointer (some ⟨g, 0, none⟩), .agg (nums a), .agg (nums s)] rfl (fun _ => by go_simp) (.agg (nums x)) (fun w' hC => (cP w' (h.after hC)).mono fun e w'' ⟨he, hb⟩ => ⟨he, below_class hC hb⟩) ?_
  simp only [Act.put, List.setIfInBounds_toArray, List.set_cons_zero, List.set_cons_succ]
  refine wpQuiet_nil ?_
  intro w1 hC
  replace hR := hR.after hC
  replace hb0 := below_trans hb0 hC
  clear hC h hG cP hA
  go_wp2_with (first | refine wpList_store_row rfl 24 _ _ rfl (w.heap.size + 1) _ rfl rfl 24 _ hR (infoNum _) (by simp only [nums_size]) (tab_oneCell _ _ fun _ => rfl) ?_)
  exact bodyPost_ret (v := .agg (nums x)) (results_cell_row rfl _ _ (w.heap.size + 1) 24 _ _ _ rfl (hR.setRow _) Try.underlying24 rfl (infoNum _)) rfl ⟨rfl, below_setRow hb0 (by omega) _⟩
end Go.Proofs.Ytodialbopochdaa
