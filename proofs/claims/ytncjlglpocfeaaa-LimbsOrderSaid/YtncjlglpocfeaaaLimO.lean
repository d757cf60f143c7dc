/-
LimbsOrder: numbers are compared as the document has it, and are the same just if neither is less: the walk.
-/
import Derived.Test.YtncjlglpocfeaaaRefC
namespace Go.Proofs.Ytncjlglpocfeaaa
open Go.RowKit

attribute [local go_sem] zeroBits zeroNum
theorem eqO (op1 op2 : Operand) (x y : Nat) (hx : x < big) (hy : y < big) (w : World) : (do eqGuard .eql 24 op1 op2 (.agg (nums x)) (.agg (nums y)); binOp .eql 24 (.agg (nums x)) (.agg (nums y)) : Sem Value).run Try.prog w = .ok (.bool (sameN x y)) w := by
  have es := eql_nums hx hy
  clear hx hy
  go_simp
theorem eqI (op1 op2 : Operand) (x : Int) (w : World) : (do eqGuard .eql 3 op1 op2 (.int .i64 x) (.int .i64 x); binOp .eql 3 (.int .i64 x) (.int .i64 x) : Sem Value).run Try.prog w = .ok (.bool true) w := by
  go_simp
theorem eqZ (op1 op2 : Operand) (x : Int) (b : Bool) (h : (x == 0) = b) (w : World) : (do eqGuard .eql 3 op1 op2 (.int .i64 x) (.int .i64 0); binOp .eql 3 (.int .i64 x) (.int .i64 0) : Sem Value).run Try.prog w = .ok (.bool b) w := by
  subst h
  go_simp
theorem eqB (op1 op2 : Operand) (b : Bool) (w : World) : (do eqGuard .eql 4 op1 op2 (.bool b) (.bool b); binOp .eql 4 (.bool b) (.bool b) : Sem Value).run Try.prog w = .ok (.bool true) w := by
  go_simp
theorem negI (x y : Int) (h : IntKind.i64.wrap (-x) = y) (w : World) : (Op.unary .neg (.int .i64 x)).run Try.prog w = .ok (.int .i64 y) w := by
  subst h
  go_simp
theorem buildZ (w : World) : (Instr.build 24 #[]).run Try.prog w = .ok (.agg (nums 0)) w := by
  go_simp
set_option maxRecDepth 100000 in
set_option maxHeartbeats 2000000 in
theorem order_any (a b : Nat) (w : World) (ha : a < big) (hb : b < big) :
    Calls Try.prog 4 #[.agg (nums a), .agg (nums b)] w fun e w' => e = .returned (.bool true) ∧ Below w.heap.size w w' := by
  have cl := fun W => less_any a b W ha hb
  have cg := fun W => less_any b a W hb ha
  have ck := fun W => compare_any a b W ha hb
  have cm := fun W => compare_any b a W hb ha
  have cz := fun W => zero_any a W ha
  have eab := fun o1 o2 => eqO o1 o2 a b ha hb
  have ea0 := fun o1 o2 => eqO o1 o2 a 0 ha big_pos
  obtain ⟨l1, hl1⟩ : ∃ x, x = lessB a b := ⟨_, rfl⟩
  obtain ⟨l2, hl2⟩ : ∃ x, x = lessB b a := ⟨_, rfl⟩
  obtain ⟨k1, hk1⟩ : ∃ x, x = cmpI a b := ⟨_, rfl⟩
  obtain ⟨k2, hk2⟩ : ∃ x, x = cmpI b a := ⟨_, rfl⟩
  obtain ⟨sb, hsb⟩ : ∃ x, x = sameN a b := ⟨_, rfl⟩
  have hcase : (l1 = true ∧ k1 = -1 ∧ k2 = 1 ∧ sb = false) ∨ (l1 = false ∧ l2 = true ∧ k1 = 1 ∧ k2 = -1 ∧ sb = false) ∨ (l1 = false ∧ l2 = false ∧ k1 = 0 ∧ k2 = 0 ∧ sb = true) := by
    subst hl1 hl2 hk1 hk2 hsb
    unfold lessB cmpI sameN
    rcases Nat.lt_trichotomy a b with h | h | h
    · left
      exact ⟨by simp [h], by rw [if_neg (by omega), if_pos h], by rw [if_neg (by omega), if_neg (by omega)], by simp; omega⟩
    · right; right
      subst h
      simp
    · right; left
      exact ⟨by simp; omega, by simp [h], by rw [if_neg (by omega), if_neg (by omega)], by rw [if_neg (by omega), if_pos h], by simp; omega⟩
  rw [← hl1] at cl
  rw [← hl2] at cg
  rw [← hk1] at ck
  rw [← hk2] at cm
  rw [← hsb] at eab
  have n0 := nums_ne 0
  have b0 := bits2_ne 0
  clear ha hb hl1 hl2 hk1 hk2 hsb
  generalize sameN a 0 = z at *
  have hA : Has ((w.alloc (.cells (nums a) 24)).alloc (.cells (nums b) 24)) w.heap.size 24 (nums a) := (Has.new w _ _).alloc _
  have hB : Has ((w.alloc (.cells (nums a) 24)).alloc (.cells (nums b) 24)) (w.heap.size + 1) 24 (nums b) := Has.new' (by simp)
  have hb0 : Below w.heap.size w ((w.alloc (.cells (nums a) 24)).alloc (.cells (nums b) 24)) := ((Below.refl _ _).alloc (Nat.le_refl _) _).alloc (by simp) _
  go_enter Try.func4, Try.ntmps4
  go_wp2_with fail
  refine (fit_any _).mono ?_
  rintro e w1 ⟨rfl, hx⟩
  replace hA := hA.after hx
  replace hB := hB.after hx
  replace hb0 := below_trans hb0 hx
  clear hx
  go_wp2_with fail
  refine region_facts 6 [] [.val (.agg (nums a)), .val (.agg (bits2 a)), .val (.agg (nums b)), .val (.agg (bits2 b)), .new 27 (bits2 0), .new 27 (bits2 0)]
    (by kernel_rfl) (by kernel_rfl) (fun _ _ _ _ _ h => h) ?_ ?_
  · simp only [List.take_succ_cons, List.take_zero, StepsOK]
    refine ⟨?_, ?_, ?_, ?_, ⟨rfl, rfl, zeroBits⟩, ⟨rfl, rfl, zeroBits⟩, trivial⟩
    · intro v w' hb hf K hK
      simp only [putAll, Act.put, List.setIfInBounds_toArray, List.set_cons_zero, List.set_cons_succ, Nat.zero_add, Nat.reduceAdd] at hK ⊢
      exact wp_load_row 24 _ rfl w.heap.size rfl 24 _ (0, 0) _ (hA.after hb) Try.underlying24 rfl (infoNum _) (hK _ (Below.refl _ _))
    · intro v w' hb hf K hK
      have f0 : v 0 = _ := hf ⟨0, .data⟩ (by simp) rfl
      simp only [putAll, Act.put, List.setIfInBounds_toArray, List.set_cons_zero, List.set_cons_succ, Nat.zero_add, Nat.reduceAdd] at hK ⊢
      rw [f0] at hK ⊢
      go_simp
      refine (of_any a w').mono ?_
      rintro e w'' ⟨rfl, hb2⟩
      exact hK _ hb2
    · intro v w' hb hf K hK
      simp only [putAll, Act.put, List.setIfInBounds_toArray, List.set_cons_zero, List.set_cons_succ, Nat.zero_add, Nat.reduceAdd] at hK ⊢
      exact wp_load_row 24 _ rfl (w.heap.size + 1) rfl 24 _ (0, 0) _ (hB.after hb) Try.underlying24 rfl (infoNum _) (hK _ (Below.refl _ _))
    · intro v w' hb hf K hK
      have f0 : v 2 = _ := hf ⟨2, .data⟩ (by simp) rfl
      simp only [putAll, Act.put, List.setIfInBounds_toArray, List.set_cons_zero, List.set_cons_succ, Nat.zero_add, Nat.reduceAdd] at hK ⊢
      rw [f0] at hK ⊢
      go_simp
      refine (of_any b w').mono ?_
      rintro e w'' ⟨rfl, hb2⟩
      exact hK _ hb2
  intro v W hb hF hD
  have f0 : v 0 = _ := hF 0 (by decide)
  have f1 : v 1 = _ := hF 1 (by decide)
  have f2 : v 2 = _ := hF 2 (by decide)
  have f3 : v 3 = _ := hF 3 (by decide)
  obtain ⟨g4, f4, hg4, hl4, hz4⟩ := hF 4 (by decide)
  obtain ⟨g5, f5, hg5, hl5, hz5⟩ := hF 5 (by decide)
  have hne45 : g4 ≠ g5 := fun h => hD 4 5 (by decide) (by decide) (by decide) rfl rfl (by rw [f4, f5, h])
  replace hz4 : Has W g4 27 (bits2 0) := hz4
  replace hz5 : Has W g5 27 (bits2 0) := hz5
  simp only [List.take_succ_cons, List.take_zero, List.drop_succ_cons, List.drop_zero, putAll, Act.put, List.setIfInBounds_toArray, List.set_cons_zero, List.set_cons_succ, Nat.zero_add, Nat.reduceAdd]
  rw [f0, f1, f2, f3, f4, f5]
  clear hF hD f0 f1 f2 f3 f4 f5
  have hAl := hA.lt
  have hBl := hB.lt
  have hszW := hb0.size
  replace hA := ((hA.after hb).farRow (k := g4) (by omega) (bits2 a)).farRow (k := g5) (by omega) (bits2 b)
  replace hB := ((hB.after hb).farRow (k := g4) (by omega) (bits2 a)).farRow (k := g5) (by omega) (bits2 b)
  replace hb0 := below_setRow (below_setRow (below_trans hb0 hb) (g := g4) (by omega) (bits2 a)) (g := g5) (by omega) (bits2 b)
  have hX := (hz4.setRow (bits2 a)).farRow (k := g5) hne45 (bits2 b)
  have hY := (hz5.farRow (k := g4) (Ne.symm hne45) (bits2 a)).setRow (bits2 b)
  have hz5' := hz5.farRow (k := g4) (Ne.symm hne45) (bits2 a)
  go_wp2_with (first | refine wpList_store_row rfl 27 _ _ rfl g4 _ rfl rfl 27 (bits2 0) hz4 (infoBits _) (by simp only [bits2_size]) (tab_oneCell _ _ fun _ => rfl) ?_ | refine wpList_store_row rfl 27 _ _ rfl g5 _ rfl rfl 27 (bits2 0) hz5' (infoBits _) (by simp only [bits2_size]) (tab_oneCell _ _ fun _ => rfl) ?_ | refine wpList_load_has 27 _ rfl _ rfl rfl 27 _ hX _ Try.underlying27 rfl (infoBits _) ?_ | refine wpList_load_has 27 _ rfl _ rfl rfl 27 _ hY _ Try.underlying27 rfl (infoBits _) ?_)
  clear hz4 hz5 hz5' hne45 hg4 hg5 hl4 hl5 hAl hBl hszW hb
  refine (cl _).mono ?_
  rintro e w2 ⟨rfl, hx⟩
  replace hA := hA.after hx
  replace hB := hB.after hx
  replace hX := hX.after hx
  replace hY := hY.after hx
  replace hb0 := below_trans hb0 hx
  clear hx cl
  rcases hcase with ⟨rfl, rfl, rfl, rfl⟩ | ⟨rfl, rfl, rfl, rfl, rfl⟩ | ⟨rfl, rfl, rfl, rfl, rfl⟩
  · clear cg hX hY
    go_wp2_with fail
    refine region_quiet_tail (Below w2.heap.size w2) 29 (by kernel_rfl) (by kernel_rfl) (below_drewN (Below.refl _ _) 1) ?_
    simp only [List.take_succ_cons, List.take_zero, List.drop_succ_cons, List.drop_zero]
    refine wpQ_has 24 _ rfl _ rfl rfl 24 _ (fun w' hC => hA.after hC) _ Try.underlying24 rfl (infoNum _) ?_
    simp only [Act.put, List.setIfInBounds_toArray, List.set_cons_zero, List.set_cons_succ]
    refine wpQ_has 24 _ rfl _ rfl rfl 24 _ (fun w' hC => hB.after hC) _ Try.underlying24 rfl (infoNum _) ?_
    simp only [Act.put, List.setIfInBounds_toArray, List.set_cons_zero, List.set_cons_succ]
    refine wpQ_call 15 #[.agg (nums a), .agg (nums b)] rfl (fun _ => by go_simp) (.int .i64 (-1)) (fun w' hC => (ck w').mono fun e w'' ⟨he, hb⟩ => ⟨he, below_class hC hb⟩) ?_
    simp only [Act.put, List.setIfInBounds_toArray, List.set_cons_zero, List.set_cons_succ]
    refine wpQ_move _ rfl rfl (.int .i64 (-1)) rfl ?_
    simp only [Act.put, List.setIfInBounds_toArray, List.set_cons_zero, List.set_cons_succ]
    refine wpQ_bin _ _ _ _ _ rfl rfl (.int .i64 (-1)) (.int .i64 (-1)) rfl rfl (.bool true) (fun w' _ => eqI _ _ _ w') ?_
    simp only [Act.put, List.setIfInBounds_toArray, List.set_cons_zero, List.set_cons_succ]
    refine wpQ_move _ rfl rfl (.bool true) rfl ?_
    simp only [Act.put, List.setIfInBounds_toArray, List.set_cons_zero, List.set_cons_succ]
    refine wpQ_has 24 _ rfl _ rfl rfl 24 _ (fun w' hC => hB.after hC) _ Try.underlying24 rfl (infoNum _) ?_
    simp only [Act.put, List.setIfInBounds_toArray, List.set_cons_zero, List.set_cons_succ]
    refine wpQ_has 24 _ rfl _ rfl rfl 24 _ (fun w' hC => hA.after hC) _ Try.underlying24 rfl (infoNum _) ?_
    simp only [Act.put, List.setIfInBounds_toArray, List.set_cons_zero, List.set_cons_succ]
    refine wpQ_call 15 #[.agg (nums b), .agg (nums a)] rfl (fun _ => by go_simp) (.int .i64 1) (fun w' hC => (cm w').mono fun e w'' ⟨he, hb⟩ => ⟨he, below_class hC hb⟩) ?_
    simp only [Act.put, List.setIfInBounds_toArray, List.set_cons_zero, List.set_cons_succ]
    refine wpQ_move _ rfl rfl (.int .i64 (-1)) rfl ?_
    simp only [Act.put, List.setIfInBounds_toArray, List.set_cons_zero, List.set_cons_succ]
    refine wpQ_un _ _ _ rfl rfl (.int .i64 (-1)) rfl (.int .i64 1) (fun w' _ => negI _ _ (by decide) w') ?_
    simp only [Act.put, List.setIfInBounds_toArray, List.set_cons_zero, List.set_cons_succ]
    refine wpQ_bin _ _ _ _ _ rfl rfl (.int .i64 1) (.int .i64 1) rfl rfl (.bool true) (fun w' _ => eqI _ _ _ w') ?_
    simp only [Act.put, List.setIfInBounds_toArray, List.set_cons_zero, List.set_cons_succ]
    refine wpQ_pick _ _ _ rfl rfl true rfl (.bool true) rfl ?_
    simp only [Act.put, List.setIfInBounds_toArray, List.set_cons_zero, List.set_cons_succ]
    refine wpQ_move _ rfl rfl (.bool true) rfl ?_
    simp only [Act.put, List.setIfInBounds_toArray, List.set_cons_zero, List.set_cons_succ]
    refine wpQ_move _ rfl rfl (.int .i64 (-1)) rfl ?_
    simp only [Act.put, List.setIfInBounds_toArray, List.set_cons_zero, List.set_cons_succ]
    refine wpQ_bin _ _ _ _ _ rfl rfl (.int .i64 (-1)) (.int .i64 0) rfl rfl (.bool false) (fun w' _ => eqZ _ _ _ _ (by decide) w') ?_
    simp only [Act.put, List.setIfInBounds_toArray, List.set_cons_zero, List.set_cons_succ]
    refine wpQ_has 24 _ rfl _ rfl rfl 24 _ (fun w' hC => hA.after hC) _ Try.underlying24 rfl (infoNum _) ?_
    simp only [Act.put, List.setIfInBounds_toArray, List.set_cons_zero, List.set_cons_succ]
    refine wpQ_has 24 _ rfl _ rfl rfl 24 _ (fun w' hC => hB.after hC) _ Try.underlying24 rfl (infoNum _) ?_
    simp only [Act.put, List.setIfInBounds_toArray, List.set_cons_zero, List.set_cons_succ]
    refine wpQ_bin _ _ _ _ _ rfl rfl (.agg (nums a)) (.agg (nums b)) rfl rfl (.bool false) (fun w' _ => eab _ _ w') ?_
    simp only [Act.put, List.setIfInBounds_toArray, List.set_cons_zero, List.set_cons_succ]
    refine wpQ_bin _ _ _ _ _ rfl rfl (.bool false) (.bool false) rfl rfl (.bool true) (fun w' _ => eqB _ _ _ w') ?_
    simp only [Act.put, List.setIfInBounds_toArray, List.set_cons_zero, List.set_cons_succ]
    refine wpQ_pick _ _ _ rfl rfl true rfl (.bool true) rfl ?_
    simp only [Act.put, List.setIfInBounds_toArray, List.set_cons_zero, List.set_cons_succ]
    refine wpQ_move _ rfl rfl (.bool true) rfl ?_
    simp only [Act.put, List.setIfInBounds_toArray, List.set_cons_zero, List.set_cons_succ]
    refine wpQ_has 24 _ rfl _ rfl rfl 24 _ (fun w' hC => hA.after hC) _ Try.underlying24 rfl (infoNum _) ?_
    simp only [Act.put, List.setIfInBounds_toArray, List.set_cons_zero, List.set_cons_succ]
    refine wpQ_call 16 #[.agg (nums a)] rfl (fun _ => by go_simp) (.bool z) (fun w' hC => (cz w').mono fun e w'' ⟨he, hb⟩ => ⟨he, below_class hC hb⟩) ?_
    simp only [Act.put, List.setIfInBounds_toArray, List.set_cons_zero, List.set_cons_succ]
    refine wpQ_has 24 _ rfl _ rfl rfl 24 _ (fun w' hC => hA.after hC) _ Try.underlying24 rfl (infoNum _) ?_
    simp only [Act.put, List.setIfInBounds_toArray, List.set_cons_zero, List.set_cons_succ]
    refine wpQ_build _ rfl rfl (.agg (nums 0)) (fun w' _ => buildZ w') ?_
    simp only [Act.put, List.setIfInBounds_toArray, List.set_cons_zero, List.set_cons_succ]
    refine wpQ_bin _ _ _ _ _ rfl rfl (.agg (nums a)) (.agg (nums 0)) rfl rfl (.bool z) (fun w' _ => ea0 _ _ w') ?_
    simp only [Act.put, List.setIfInBounds_toArray, List.set_cons_zero, List.set_cons_succ]
    refine wpQ_bin _ _ _ _ _ rfl rfl (.bool z) (.bool z) rfl rfl (.bool true) (fun w' _ => eqB _ _ _ w') ?_
    simp only [Act.put, List.setIfInBounds_toArray, List.set_cons_zero, List.set_cons_succ]
    refine wpQ_pick _ _ _ rfl rfl true rfl (.bool true) rfl ?_
    simp only [Act.put, List.setIfInBounds_toArray, List.set_cons_zero, List.set_cons_succ]
    refine wpQuiet_nil ?_
    intro w10 hC
    have hfin := below_trans hb0 hC
    clear hA hB hC ck cm cz eab ea0
    go_wp2_with fail
    go_ret
    exact ⟨rfl, hfin⟩
  · go_wp2_with (first | refine wpList_load_has 27 _ rfl _ rfl rfl 27 _ hX _ Try.underlying27 rfl (infoBits _) ?_ | refine wpList_load_has 27 _ rfl _ rfl rfl 27 _ hY _ Try.underlying27 rfl (infoBits _) ?_)
    refine (cg _).mono ?_
    rintro e w3 ⟨rfl, hx⟩
    replace hA := hA.after hx
    replace hB := hB.after hx
    replace hb0 := below_trans hb0 hx
    clear hx cg hX hY
    go_wp2_with fail
    refine region_quiet_tail (Below w3.heap.size w3) 29 (by kernel_rfl) (by kernel_rfl) (below_drewN (Below.refl _ _) 1) ?_
    simp only [List.take_succ_cons, List.take_zero, List.drop_succ_cons, List.drop_zero]
    refine wpQ_has 24 _ rfl _ rfl rfl 24 _ (fun w' hC => hA.after hC) _ Try.underlying24 rfl (infoNum _) ?_
    simp only [Act.put, List.setIfInBounds_toArray, List.set_cons_zero, List.set_cons_succ]
    refine wpQ_has 24 _ rfl _ rfl rfl 24 _ (fun w' hC => hB.after hC) _ Try.underlying24 rfl (infoNum _) ?_
    simp only [Act.put, List.setIfInBounds_toArray, List.set_cons_zero, List.set_cons_succ]
    refine wpQ_call 15 #[.agg (nums a), .agg (nums b)] rfl (fun _ => by go_simp) (.int .i64 1) (fun w' hC => (ck w').mono fun e w'' ⟨he, hb⟩ => ⟨he, below_class hC hb⟩) ?_
    simp only [Act.put, List.setIfInBounds_toArray, List.set_cons_zero, List.set_cons_succ]
    refine wpQ_move _ rfl rfl (.int .i64 1) rfl ?_
    simp only [Act.put, List.setIfInBounds_toArray, List.set_cons_zero, List.set_cons_succ]
    refine wpQ_bin _ _ _ _ _ rfl rfl (.int .i64 1) (.int .i64 1) rfl rfl (.bool true) (fun w' _ => eqI _ _ _ w') ?_
    simp only [Act.put, List.setIfInBounds_toArray, List.set_cons_zero, List.set_cons_succ]
    refine wpQ_move _ rfl rfl (.bool true) rfl ?_
    simp only [Act.put, List.setIfInBounds_toArray, List.set_cons_zero, List.set_cons_succ]
    refine wpQ_has 24 _ rfl _ rfl rfl 24 _ (fun w' hC => hB.after hC) _ Try.underlying24 rfl (infoNum _) ?_
    simp only [Act.put, List.setIfInBounds_toArray, List.set_cons_zero, List.set_cons_succ]
    refine wpQ_has 24 _ rfl _ rfl rfl 24 _ (fun w' hC => hA.after hC) _ Try.underlying24 rfl (infoNum _) ?_
    simp only [Act.put, List.setIfInBounds_toArray, List.set_cons_zero, List.set_cons_succ]
    refine wpQ_call 15 #[.agg (nums b), .agg (nums a)] rfl (fun _ => by go_simp) (.int .i64 (-1)) (fun w' hC => (cm w').mono fun e w'' ⟨he, hb⟩ => ⟨he, below_class hC hb⟩) ?_
    simp only [Act.put, List.setIfInBounds_toArray, List.set_cons_zero, List.set_cons_succ]
    refine wpQ_move _ rfl rfl (.int .i64 1) rfl ?_
    simp only [Act.put, List.setIfInBounds_toArray, List.set_cons_zero, List.set_cons_succ]
    refine wpQ_un _ _ _ rfl rfl (.int .i64 1) rfl (.int .i64 (-1)) (fun w' _ => negI _ _ (by decide) w') ?_
    simp only [Act.put, List.setIfInBounds_toArray, List.set_cons_zero, List.set_cons_succ]
    refine wpQ_bin _ _ _ _ _ rfl rfl (.int .i64 (-1)) (.int .i64 (-1)) rfl rfl (.bool true) (fun w' _ => eqI _ _ _ w') ?_
    simp only [Act.put, List.setIfInBounds_toArray, List.set_cons_zero, List.set_cons_succ]
    refine wpQ_pick _ _ _ rfl rfl true rfl (.bool true) rfl ?_
    simp only [Act.put, List.setIfInBounds_toArray, List.set_cons_zero, List.set_cons_succ]
    refine wpQ_move _ rfl rfl (.bool true) rfl ?_
    simp only [Act.put, List.setIfInBounds_toArray, List.set_cons_zero, List.set_cons_succ]
    refine wpQ_move _ rfl rfl (.int .i64 1) rfl ?_
    simp only [Act.put, List.setIfInBounds_toArray, List.set_cons_zero, List.set_cons_succ]
    refine wpQ_bin _ _ _ _ _ rfl rfl (.int .i64 1) (.int .i64 0) rfl rfl (.bool false) (fun w' _ => eqZ _ _ _ _ (by decide) w') ?_
    simp only [Act.put, List.setIfInBounds_toArray, List.set_cons_zero, List.set_cons_succ]
    refine wpQ_has 24 _ rfl _ rfl rfl 24 _ (fun w' hC => hA.after hC) _ Try.underlying24 rfl (infoNum _) ?_
    simp only [Act.put, List.setIfInBounds_toArray, List.set_cons_zero, List.set_cons_succ]
    refine wpQ_has 24 _ rfl _ rfl rfl 24 _ (fun w' hC => hB.after hC) _ Try.underlying24 rfl (infoNum _) ?_
    simp only [Act.put, List.setIfInBounds_toArray, List.set_cons_zero, List.set_cons_succ]
    refine wpQ_bin _ _ _ _ _ rfl rfl (.agg (nums a)) (.agg (nums b)) rfl rfl (.bool false) (fun w' _ => eab _ _ w') ?_
    simp only [Act.put, List.setIfInBounds_toArray, List.set_cons_zero, List.set_cons_succ]
    refine wpQ_bin _ _ _ _ _ rfl rfl (.bool false) (.bool false) rfl rfl (.bool true) (fun w' _ => eqB _ _ _ w') ?_
    simp only [Act.put, List.setIfInBounds_toArray, List.set_cons_zero, List.set_cons_succ]
    refine wpQ_pick _ _ _ rfl rfl true rfl (.bool true) rfl ?_
    simp only [Act.put, List.setIfInBounds_toArray, List.set_cons_zero, List.set_cons_succ]
    refine wpQ_move _ rfl rfl (.bool true) rfl ?_
    simp only [Act.put, List.setIfInBounds_toArray, List.set_cons_zero, List.set_cons_succ]
    refine wpQ_has 24 _ rfl _ rfl rfl 24 _ (fun w' hC => hA.after hC) _ Try.underlying24 rfl (infoNum _) ?_
    simp only [Act.put, List.setIfInBounds_toArray, List.set_cons_zero, List.set_cons_succ]
    refine wpQ_call 16 #[.agg (nums a)] rfl (fun _ => by go_simp) (.bool z) (fun w' hC => (cz w').mono fun e w'' ⟨he, hb⟩ => ⟨he, below_class hC hb⟩) ?_
    simp only [Act.put, List.setIfInBounds_toArray, List.set_cons_zero, List.set_cons_succ]
    refine wpQ_has 24 _ rfl _ rfl rfl 24 _ (fun w' hC => hA.after hC) _ Try.underlying24 rfl (infoNum _) ?_
    simp only [Act.put, List.setIfInBounds_toArray, List.set_cons_zero, List.set_cons_succ]
    refine wpQ_build _ rfl rfl (.agg (nums 0)) (fun w' _ => buildZ w') ?_
    simp only [Act.put, List.setIfInBounds_toArray, List.set_cons_zero, List.set_cons_succ]
    refine wpQ_bin _ _ _ _ _ rfl rfl (.agg (nums a)) (.agg (nums 0)) rfl rfl (.bool z) (fun w' _ => ea0 _ _ w') ?_
    simp only [Act.put, List.setIfInBounds_toArray, List.set_cons_zero, List.set_cons_succ]
    refine wpQ_bin _ _ _ _ _ rfl rfl (.bool z) (.bool z) rfl rfl (.bool true) (fun w' _ => eqB _ _ _ w') ?_
    simp only [Act.put, List.setIfInBounds_toArray, List.set_cons_zero, List.set_cons_succ]
    refine wpQ_pick _ _ _ rfl rfl true rfl (.bool true) rfl ?_
    simp only [Act.put, List.setIfInBounds_toArray, List.set_cons_zero, List.set_cons_succ]
    refine wpQuiet_nil ?_
    intro w10 hC
    have hfin := below_trans hb0 hC
    clear hA hB hC ck cm cz eab ea0
    go_wp2_with fail
    go_ret
    exact ⟨rfl, hfin⟩
  · go_wp2_with (first | refine wpList_load_has 27 _ rfl _ rfl rfl 27 _ hX _ Try.underlying27 rfl (infoBits _) ?_ | refine wpList_load_has 27 _ rfl _ rfl rfl 27 _ hY _ Try.underlying27 rfl (infoBits _) ?_)
    refine (cg _).mono ?_
    rintro e w3 ⟨rfl, hx⟩
    replace hA := hA.after hx
    replace hB := hB.after hx
    replace hb0 := below_trans hb0 hx
    clear hx cg hX hY
    go_wp2_with fail
    refine region_quiet_tail (Below w3.heap.size w3) 29 (by kernel_rfl) (by kernel_rfl) (below_drewN (Below.refl _ _) 1) ?_
    simp only [List.take_succ_cons, List.take_zero, List.drop_succ_cons, List.drop_zero]
    refine wpQ_has 24 _ rfl _ rfl rfl 24 _ (fun w' hC => hA.after hC) _ Try.underlying24 rfl (infoNum _) ?_
    simp only [Act.put, List.setIfInBounds_toArray, List.set_cons_zero, List.set_cons_succ]
    refine wpQ_has 24 _ rfl _ rfl rfl 24 _ (fun w' hC => hB.after hC) _ Try.underlying24 rfl (infoNum _) ?_
    simp only [Act.put, List.setIfInBounds_toArray, List.set_cons_zero, List.set_cons_succ]
    refine wpQ_call 15 #[.agg (nums a), .agg (nums b)] rfl (fun _ => by go_simp) (.int .i64 0) (fun w' hC => (ck w').mono fun e w'' ⟨he, hb⟩ => ⟨he, below_class hC hb⟩) ?_
    simp only [Act.put, List.setIfInBounds_toArray, List.set_cons_zero, List.set_cons_succ]
    refine wpQ_move _ rfl rfl (.int .i64 0) rfl ?_
    simp only [Act.put, List.setIfInBounds_toArray, List.set_cons_zero, List.set_cons_succ]
    refine wpQ_bin _ _ _ _ _ rfl rfl (.int .i64 0) (.int .i64 0) rfl rfl (.bool true) (fun w' _ => eqI _ _ _ w') ?_
    simp only [Act.put, List.setIfInBounds_toArray, List.set_cons_zero, List.set_cons_succ]
    refine wpQ_move _ rfl rfl (.bool true) rfl ?_
    simp only [Act.put, List.setIfInBounds_toArray, List.set_cons_zero, List.set_cons_succ]
    refine wpQ_has 24 _ rfl _ rfl rfl 24 _ (fun w' hC => hB.after hC) _ Try.underlying24 rfl (infoNum _) ?_
    simp only [Act.put, List.setIfInBounds_toArray, List.set_cons_zero, List.set_cons_succ]
    refine wpQ_has 24 _ rfl _ rfl rfl 24 _ (fun w' hC => hA.after hC) _ Try.underlying24 rfl (infoNum _) ?_
    simp only [Act.put, List.setIfInBounds_toArray, List.set_cons_zero, List.set_cons_succ]
    refine wpQ_call 15 #[.agg (nums b), .agg (nums a)] rfl (fun _ => by go_simp) (.int .i64 0) (fun w' hC => (cm w').mono fun e w'' ⟨he, hb⟩ => ⟨he, below_class hC hb⟩) ?_
    simp only [Act.put, List.setIfInBounds_toArray, List.set_cons_zero, List.set_cons_succ]
    refine wpQ_move _ rfl rfl (.int .i64 0) rfl ?_
    simp only [Act.put, List.setIfInBounds_toArray, List.set_cons_zero, List.set_cons_succ]
    refine wpQ_un _ _ _ rfl rfl (.int .i64 0) rfl (.int .i64 0) (fun w' _ => negI _ _ (by decide) w') ?_
    simp only [Act.put, List.setIfInBounds_toArray, List.set_cons_zero, List.set_cons_succ]
    refine wpQ_bin _ _ _ _ _ rfl rfl (.int .i64 0) (.int .i64 0) rfl rfl (.bool true) (fun w' _ => eqI _ _ _ w') ?_
    simp only [Act.put, List.setIfInBounds_toArray, List.set_cons_zero, List.set_cons_succ]
    refine wpQ_pick _ _ _ rfl rfl true rfl (.bool true) rfl ?_
    simp only [Act.put, List.setIfInBounds_toArray, List.set_cons_zero, List.set_cons_succ]
    refine wpQ_move _ rfl rfl (.bool true) rfl ?_
    simp only [Act.put, List.setIfInBounds_toArray, List.set_cons_zero, List.set_cons_succ]
    refine wpQ_move _ rfl rfl (.int .i64 0) rfl ?_
    simp only [Act.put, List.setIfInBounds_toArray, List.set_cons_zero, List.set_cons_succ]
    refine wpQ_bin _ _ _ _ _ rfl rfl (.int .i64 0) (.int .i64 0) rfl rfl (.bool true) (fun w' _ => eqZ _ _ _ _ (by decide) w') ?_
    simp only [Act.put, List.setIfInBounds_toArray, List.set_cons_zero, List.set_cons_succ]
    refine wpQ_has 24 _ rfl _ rfl rfl 24 _ (fun w' hC => hA.after hC) _ Try.underlying24 rfl (infoNum _) ?_
    simp only [Act.put, List.setIfInBounds_toArray, List.set_cons_zero, List.set_cons_succ]
    refine wpQ_has 24 _ rfl _ rfl rfl 24 _ (fun w' hC => hB.after hC) _ Try.underlying24 rfl (infoNum _) ?_
    simp only [Act.put, List.setIfInBounds_toArray, List.set_cons_zero, List.set_cons_succ]
    refine wpQ_bin _ _ _ _ _ rfl rfl (.agg (nums a)) (.agg (nums b)) rfl rfl (.bool true) (fun w' _ => eab _ _ w') ?_
    simp only [Act.put, List.setIfInBounds_toArray, List.set_cons_zero, List.set_cons_succ]
    refine wpQ_bin _ _ _ _ _ rfl rfl (.bool true) (.bool true) rfl rfl (.bool true) (fun w' _ => eqB _ _ _ w') ?_
    simp only [Act.put, List.setIfInBounds_toArray, List.set_cons_zero, List.set_cons_succ]
    refine wpQ_pick _ _ _ rfl rfl true rfl (.bool true) rfl ?_
    simp only [Act.put, List.setIfInBounds_toArray, List.set_cons_zero, List.set_cons_succ]
    refine wpQ_move _ rfl rfl (.bool true) rfl ?_
    simp only [Act.put, List.setIfInBounds_toArray, List.set_cons_zero, List.set_cons_succ]
    refine wpQ_has 24 _ rfl _ rfl rfl 24 _ (fun w' hC => hA.after hC) _ Try.underlying24 rfl (infoNum _) ?_
    simp only [Act.put, List.setIfInBounds_toArray, List.set_cons_zero, List.set_cons_succ]
    refine wpQ_call 16 #[.agg (nums a)] rfl (fun _ => by go_simp) (.bool z) (fun w' hC => (cz w').mono fun e w'' ⟨he, hb⟩ => ⟨he, below_class hC hb⟩) ?_
    simp only [Act.put, List.setIfInBounds_toArray, List.set_cons_zero, List.set_cons_succ]
    refine wpQ_has 24 _ rfl _ rfl rfl 24 _ (fun w' hC => hA.after hC) _ Try.underlying24 rfl (infoNum _) ?_
    simp only [Act.put, List.setIfInBounds_toArray, List.set_cons_zero, List.set_cons_succ]
    refine wpQ_build _ rfl rfl (.agg (nums 0)) (fun w' _ => buildZ w') ?_
    simp only [Act.put, List.setIfInBounds_toArray, List.set_cons_zero, List.set_cons_succ]
    refine wpQ_bin _ _ _ _ _ rfl rfl (.agg (nums a)) (.agg (nums 0)) rfl rfl (.bool z) (fun w' _ => ea0 _ _ w') ?_
    simp only [Act.put, List.setIfInBounds_toArray, List.set_cons_zero, List.set_cons_succ]
    refine wpQ_bin _ _ _ _ _ rfl rfl (.bool z) (.bool z) rfl rfl (.bool true) (fun w' _ => eqB _ _ _ w') ?_
    simp only [Act.put, List.setIfInBounds_toArray, List.set_cons_zero, List.set_cons_succ]
    refine wpQ_pick _ _ _ rfl rfl true rfl (.bool true) rfl ?_
    simp only [Act.put, List.setIfInBounds_toArray, List.set_cons_zero, List.set_cons_succ]
    refine wpQuiet_nil ?_
    intro w10 hC
    have hfin := below_trans hb0 hC
    clear hA hB hC ck cm cz eab ea0
    go_wp2_with fail
    go_ret
    exact ⟨rfl, hfin⟩
end Go.Proofs.Ytncjlglpocfeaaa
