/-
LimbsBack: what is added and taken away again is as it was; sums hang on no order.
-/
import Derived.Test.YtncjlglpocfeaaaLimE
namespace Go.Proofs.Ytncjlglpocfeaaa
open Go.RowKit

attribute [local go_sem] zeroNum
set_option maxRecDepth 100000 in
set_option maxHeartbeats 2000000 in
theorem back_any (a b c : Nat) (w : World) (ha : a < big) (hb : b < big) (hc : c < big) :
    Calls Try.prog 6 #[.agg (nums a), .agg (nums b), .agg (nums c)] w fun e w' => e = .returned (.bool true) ∧ Below w.heap.size w w' := by
  have c1 := fun W => add_call a b W ha hb
  have c2 := fun W => add_call b a W hb ha
  rw [addN_comm b a, over_comm b a] at c2
  have c3 := fun W => sub_call (addN a b) b W (addN_lt _ _) hb
  rw [sub_add a b ha hb, over_under a b ha hb] at c3
  have c4 := fun W => add_call (addN a b) c W (addN_lt _ _) hc
  rw [addN_assoc] at c4
  have c5 := fun W => add_call b c W hb hc
  have c6 := fun W => add_call a (addN b c) W ha (addN_lt _ _)
  have es := eql_same (addN a b)
  have ea := eql_same a
  have ep := eql_same (addN a (addN b c))
  clear ha hb hc
  generalize addN a (addN b c) = p at *
  generalize addN a b = s at *
  generalize addN b c = q at *
  generalize over a b = x at *
  generalize over s c = z at *
  generalize over b c = y at *
  generalize over a q = u at *
  have n0 := nums_ne 0
  have hA : Has (((w.alloc (.cells (nums a) 24)).alloc (.cells (nums b) 24)).alloc (.cells (nums c) 24)) w.heap.size 24 (nums a) := ((Has.new w _ _).alloc _).alloc _
  have hB : Has (((w.alloc (.cells (nums a) 24)).alloc (.cells (nums b) 24)).alloc (.cells (nums c) 24)) (w.heap.size + 1) 24 (nums b) := (Has.new' (by simp)).alloc _
  have hC : Has (((w.alloc (.cells (nums a) 24)).alloc (.cells (nums b) 24)).alloc (.cells (nums c) 24)) (w.heap.size + 1 + 1) 24 (nums c) := Has.new' (by simp)
  have hb0 : Below w.heap.size w (((w.alloc (.cells (nums a) 24)).alloc (.cells (nums b) 24)).alloc (.cells (nums c) 24)) := (((Below.refl _ _).alloc (Nat.le_refl _) _).alloc (by simp) _).alloc (by simp; omega) _
  go_enter Try.func6, Try.ntmps6
  go_wp2_with fail
  refine (fit_any _).mono ?_
  rintro e w1 ⟨rfl, hb1⟩
  replace hA := hA.after hb1
  replace hB := hB.after hb1
  replace hC := hC.after hb1
  replace hb0 := below_trans hb0 hb1
  clear hb1
  go_wp2_with (first | refine wpList_load_has 24 _ rfl _ rfl rfl 24 _ hA _ Try.underlying24 rfl (infoNum _) ?_ | refine wpList_load_has 24 _ rfl _ rfl rfl 24 _ hB _ Try.underlying24 rfl (infoNum _) ?_)
  refine (c1 _).mono ?_
  rintro e w2 ⟨rfl, hx⟩
  have hN := put_new w2 24 (nums 0) (nums s)
  replace hA := (hA.after hx).after hN.2
  replace hB := (hB.after hx).after hN.2
  replace hC := (hC.after hx).after hN.2
  replace hb0 := below_trans (below_trans hb0 hx) hN.2
  have hS := hN.1
  clear hx hN
  go_wp2_with (first | refine wpList_store_row rfl 24 _ _ rfl w2.heap.size _ rfl rfl 24 (nums 0) (Has.new' rfl) (infoNum _) (by simp only [nums_size]) (tab_oneCell _ _ fun _ => rfl) ?_ | refine wpList_load_has 24 _ rfl _ rfl rfl 24 _ hB _ Try.underlying24 rfl (infoNum _) ?_ | refine wpList_load_has 24 _ rfl _ rfl rfl 24 _ hA _ Try.underlying24 rfl (infoNum _) ?_)
  refine (c2 _).mono ?_
  rintro e w3 ⟨rfl, hx⟩
  have hN := put_new w3 24 (nums 0) (nums s)
  replace hA := (hA.after hx).after hN.2
  replace hB := (hB.after hx).after hN.2
  replace hC := (hC.after hx).after hN.2
  replace hS := (hS.after hx).after hN.2
  replace hb0 := below_trans (below_trans hb0 hx) hN.2
  have hT := hN.1
  clear hx hN
  go_wp2_with (first | refine wpList_store_row rfl 24 _ _ rfl w3.heap.size _ rfl rfl 24 (nums 0) (Has.new' rfl) (infoNum _) (by simp only [nums_size]) (tab_oneCell _ _ fun _ => rfl) ?_ | refine wpList_load_has 24 _ rfl _ rfl rfl 24 _ hS _ Try.underlying24 rfl (infoNum _) ?_ | refine wpList_load_has 24 _ rfl _ rfl rfl 24 _ hB _ Try.underlying24 rfl (infoNum _) ?_)
  refine (c3 _).mono ?_
  rintro e w4 ⟨rfl, hx⟩
  have hN := put_new w4 24 (nums 0) (nums a)
  replace hA := (hA.after hx).after hN.2
  replace hB := (hB.after hx).after hN.2
  replace hC := (hC.after hx).after hN.2
  replace hS := (hS.after hx).after hN.2
  replace hT := (hT.after hx).after hN.2
  replace hb0 := below_trans (below_trans hb0 hx) hN.2
  have hD := hN.1
  clear hx hN
  go_wp2_with (first | refine wpList_store_row rfl 24 _ _ rfl w4.heap.size _ rfl rfl 24 (nums 0) (Has.new' rfl) (infoNum _) (by simp only [nums_size]) (tab_oneCell _ _ fun _ => rfl) ?_ | refine wpList_load_has 24 _ rfl _ rfl rfl 24 _ hS _ Try.underlying24 rfl (infoNum _) ?_ | refine wpList_load_has 24 _ rfl _ rfl rfl 24 _ hC _ Try.underlying24 rfl (infoNum _) ?_)
  refine (c4 _).mono ?_
  rintro e w5 ⟨rfl, hx⟩
  have hN := put_new w5 24 (nums 0) (nums p)
  replace hA := (hA.after hx).after hN.2
  replace hB := (hB.after hx).after hN.2
  replace hC := (hC.after hx).after hN.2
  replace hS := (hS.after hx).after hN.2
  replace hT := (hT.after hx).after hN.2
  replace hD := (hD.after hx).after hN.2
  replace hb0 := below_trans (below_trans hb0 hx) hN.2
  have hP := hN.1
  clear hx hN
  go_wp2_with (first | refine wpList_store_row rfl 24 _ _ rfl w5.heap.size _ rfl rfl 24 (nums 0) (Has.new' rfl) (infoNum _) (by simp only [nums_size]) (tab_oneCell _ _ fun _ => rfl) ?_ | refine wpList_load_has 24 _ rfl _ rfl rfl 24 _ hB _ Try.underlying24 rfl (infoNum _) ?_ | refine wpList_load_has 24 _ rfl _ rfl rfl 24 _ hC _ Try.underlying24 rfl (infoNum _) ?_)
  refine (c5 _).mono ?_
  rintro e w6 ⟨rfl, hx⟩
  have hN := put_new w6 24 (nums 0) (nums q)
  replace hA := (hA.after hx).after hN.2
  replace hB := (hB.after hx).after hN.2
  replace hC := (hC.after hx).after hN.2
  replace hS := (hS.after hx).after hN.2
  replace hT := (hT.after hx).after hN.2
  replace hD := (hD.after hx).after hN.2
  replace hP := (hP.after hx).after hN.2
  replace hb0 := below_trans (below_trans hb0 hx) hN.2
  have hQ := hN.1
  clear hx hN
  go_wp2_with (first | refine wpList_store_row rfl 24 _ _ rfl w6.heap.size _ rfl rfl 24 (nums 0) (Has.new' rfl) (infoNum _) (by simp only [nums_size]) (tab_oneCell _ _ fun _ => rfl) ?_ | refine wpList_load_has 24 _ rfl _ rfl rfl 24 _ hA _ Try.underlying24 rfl (infoNum _) ?_ | refine wpList_load_has 24 _ rfl _ rfl rfl 24 _ hQ _ Try.underlying24 rfl (infoNum _) ?_)
  refine (c6 _).mono ?_
  rintro e w7 ⟨rfl, hx⟩
  have hN := put_new w7 24 (nums 0) (nums p)
  replace hA := (hA.after hx).after hN.2
  replace hB := (hB.after hx).after hN.2
  replace hC := (hC.after hx).after hN.2
  replace hS := (hS.after hx).after hN.2
  replace hT := (hT.after hx).after hN.2
  replace hD := (hD.after hx).after hN.2
  replace hP := (hP.after hx).after hN.2
  replace hQ := (hQ.after hx).after hN.2
  replace hb0 := below_trans (below_trans hb0 hx) hN.2
  have hR := hN.1
  clear hx hN
  go_wp2_with (first | refine wpList_store_row rfl 24 _ _ rfl w7.heap.size _ rfl rfl 24 (nums 0) (Has.new' rfl) (infoNum _) (by simp only [nums_size]) (tab_oneCell _ _ fun _ => rfl) ?_ | refine wpList_load_has 24 _ rfl _ rfl rfl 24 _ hS _ Try.underlying24 rfl (infoNum _) ?_ | refine wpList_load_has 24 _ rfl _ rfl rfl 24 _ hT _ Try.underlying24 rfl (infoNum _) ?_ | refine wpList_load_has 24 _ rfl _ rfl rfl 24 _ hD _ Try.underlying24 rfl (infoNum _) ?_ | refine wpList_load_has 24 _ rfl _ rfl rfl 24 _ hA _ Try.underlying24 rfl (infoNum _) ?_ | refine wpList_load_has 24 _ rfl _ rfl rfl 24 _ hP _ Try.underlying24 rfl (infoNum _) ?_ | refine wpList_load_has 24 _ rfl _ rfl rfl 24 _ hR _ Try.underlying24 rfl (infoNum _) ?_)
  go_ret
  exact ⟨rfl, hb0⟩
end Go.Proofs.Ytncjlglpocfeaaa
