/-
LimbsSums: sums and differences are the document's, with what goes beyond: the walk.
-/
import Derived.Test.YtncjlglpocfeaaaRefC
namespace Go.Proofs.Ytncjlglpocfeaaa
open Go.RowKit

attribute [local go_sem] zeroBits zeroNum
theorem eqG (op1 op2 : Operand) (s : Nat) (w : World) : (do eqGuard .eql 24 op1 op2 (.agg (nums s)) (.agg (nums s)); binOp .eql 24 (.agg (nums s)) (.agg (nums s)) : Sem Value).run Try.prog w = .ok (.bool true) w := by
  have es := eql_same s
  go_simp
set_option maxRecDepth 100000 in
set_option maxHeartbeats 2000000 in

theorem sums_any (a b : Nat) (w : World) (ha : a < big) (hb : b < big) :
    Calls Try.prog 3 #[.agg (nums a), .agg (nums b)] w fun e w' => e = .returned (.bool true) ∧ Below w.heap.size w w' := by
  have c4 := fun W => add_call a b W ha hb
  have c5 := fun W => refadd_any a b W ha hb
  have c6 := fun W => sub_call a b W ha hb
  have c7 := fun W => refsub_any a b W ha hb
  have cs := fun W => num_any (addN a b) W (addN_lt _ _)
  have cu := fun W => num_any (subN a b) W (subN_lt _ _)
  have es := eql_same (addN a b)
  have eu := eql_same (subN a b)
  have lc : ((over a b : Nat) : Int) < 9223372036854775808 := by have := over_le a b ha hb; omega
  have ld : ((under a b : Nat) : Int) < 9223372036854775808 := by unfold under; split <;> simp
  have wc : IntKind.i64.wrap ((over a b : Nat) : Int) = ((over a b : Nat) : Int) := IntWalk.i64_in _ (by omega)
  have wd : IntKind.i64.wrap ((under a b : Nat) : Int) = ((under a b : Nat) : Int) := IntWalk.i64_in _ (by omega)
  have n0 := nums_ne 0
  have b0 := bits2_ne 0
  clear ha hb
  generalize addN a b = s at *
  generalize subN a b = u at *
  generalize over a b = c at *
  generalize under a b = d at *
  have hA : Has ((w.alloc (.cells (nums a) 24)).alloc (.cells (nums b) 24)) w.heap.size 24 (nums a) := (Has.new w _ _).alloc _
  have hB : Has ((w.alloc (.cells (nums a) 24)).alloc (.cells (nums b) 24)) (w.heap.size + 1) 24 (nums b) := Has.new' (by simp)
  have hb0 : Below w.heap.size w ((w.alloc (.cells (nums a) 24)).alloc (.cells (nums b) 24)) := ((Below.refl _ _).alloc (Nat.le_refl _) _).alloc (by simp) _
  go_enter Try.func3, Try.ntmps3
  go_wp2_with fail
  refine (fit_any _).mono ?_
  rintro e w1 ⟨rfl, hx⟩
  replace hA := hA.after hx
  replace hB := hB.after hx
  replace hb0 := below_trans hb0 hx
  clear hx
  go_wp2_with fail
  refine region_facts 6 [] [.val (.agg (nums a)), .val (.agg (bits2 a)), .val (.agg (nums b)), .val (.agg (bits2 b)), .new 27 (bits2 0), .new 27 (bits2 0)]
    (by kernel_rfl) (by kernel_rfl) (fun _ _ _ _ _ h => h) ?_ ?_
  · simp only [List.take_succ_cons, List.take_zero, StepsOK]
    refine ⟨?_, ?_, ?_, ?_, ⟨rfl, rfl, zeroBits⟩, ⟨rfl, rfl, zeroBits⟩, trivial⟩
    · intro v w' hb hf K hK
      simp only [putAll, Act.put, List.setIfInBounds_toArray, List.set_cons_zero, List.set_cons_succ, Nat.zero_add, Nat.reduceAdd] at hK ⊢
      exact wp_load_row 24 _ rfl w.heap.size rfl 24 _ (0, 0) _ (hA.after hb) Try.underlying24 rfl (infoNum _) (hK _ (Below.refl _ _))
    · intro v w' hb hf K hK
      have f0 : v 0 = _ := hf ⟨0, .data⟩ (by simp) rfl
      simp only [putAll, Act.put, List.setIfInBounds_toArray, List.set_cons_zero, List.set_cons_succ, Nat.zero_add, Nat.reduceAdd] at hK ⊢
      rw [f0] at hK ⊢
      go_simp
      refine (of_any a w').mono ?_
      rintro e w'' ⟨rfl, hb2⟩
      exact hK _ hb2
    · intro v w' hb hf K hK
      simp only [putAll, Act.put, List.setIfInBounds_toArray, List.set_cons_zero, List.set_cons_succ, Nat.zero_add, Nat.reduceAdd] at hK ⊢
      exact wp_load_row 24 _ rfl (w.heap.size + 1) rfl 24 _ (0, 0) _ (hB.after hb) Try.underlying24 rfl (infoNum _) (hK _ (Below.refl _ _))
    · intro v w' hb hf K hK
      have f0 : v 2 = _ := hf ⟨2, .data⟩ (by simp) rfl
      simp only [putAll, Act.put, List.setIfInBounds_toArray, List.set_cons_zero, List.set_cons_succ, Nat.zero_add, Nat.reduceAdd] at hK ⊢
      rw [f0] at hK ⊢
      go_simp
      refine (of_any b w').mono ?_
      rintro e w'' ⟨rfl, hb2⟩
      exact hK _ hb2
  intro v W hb hF hD
  have f0 : v 0 = _ := hF 0 (by decide)
  have f1 : v 1 = _ := hF 1 (by decide)
  have f2 : v 2 = _ := hF 2 (by decide)
  have f3 : v 3 = _ := hF 3 (by decide)
  obtain ⟨g4, f4, hg4, hl4, hz4⟩ := hF 4 (by decide)
  obtain ⟨g5, f5, hg5, hl5, hz5⟩ := hF 5 (by decide)
  have hne45 : g4 ≠ g5 := fun h => hD 4 5 (by decide) (by decide) (by decide) rfl rfl (by rw [f4, f5, h])
  replace hz4 : Has W g4 27 (bits2 0) := hz4
  replace hz5 : Has W g5 27 (bits2 0) := hz5
  simp only [List.take_succ_cons, List.take_zero, List.drop_succ_cons, List.drop_zero, putAll, Act.put, List.setIfInBounds_toArray, List.set_cons_zero, List.set_cons_succ, Nat.zero_add, Nat.reduceAdd]
  rw [f0, f1, f2, f3, f4, f5]
  clear hF hD f0 f1 f2 f3 f4 f5
  have hAl := hA.lt
  have hBl := hB.lt
  have hszW := hb0.size
  replace hA := ((hA.after hb).farRow (k := g4) (by omega) (bits2 a)).farRow (k := g5) (by omega) (bits2 b)
  replace hB := ((hB.after hb).farRow (k := g4) (by omega) (bits2 a)).farRow (k := g5) (by omega) (bits2 b)
  replace hb0 := below_setRow (below_setRow (below_trans hb0 hb) (g := g4) (by omega) (bits2 a)) (g := g5) (by omega) (bits2 b)
  have hX := (hz4.setRow (bits2 a)).farRow (k := g5) hne45 (bits2 b)
  have hY := (hz5.farRow (k := g4) (Ne.symm hne45) (bits2 a)).setRow (bits2 b)
  have hz5' := hz5.farRow (k := g4) (Ne.symm hne45) (bits2 a)
  go_wp2_with (first | refine wpList_store_row rfl 27 _ _ rfl g4 _ rfl rfl 27 (bits2 0) hz4 (infoBits _) (by simp only [bits2_size]) (tab_oneCell _ _ fun _ => rfl) ?_ | refine wpList_store_row rfl 27 _ _ rfl g5 _ rfl rfl 27 (bits2 0) hz5' (infoBits _) (by simp only [bits2_size]) (tab_oneCell _ _ fun _ => rfl) ?_ | refine wpList_load_has 24 _ rfl _ rfl rfl 24 _ hA _ Try.underlying24 rfl (infoNum _) ?_ | refine wpList_load_has 24 _ rfl _ rfl rfl 24 _ hB _ Try.underlying24 rfl (infoNum _) ?_)
  clear hz4 hz5 hz5' hne45 hg4 hg5 hl4 hl5 hAl hBl hszW hb
  refine (c4 _).mono ?_
  rintro e w2 ⟨rfl, hx⟩
  have hN := put_new w2 24 (nums 0) (nums s)
  replace hA := (hA.after hx).after hN.2
  replace hB := (hB.after hx).after hN.2
  replace hX := (hX.after hx).after hN.2
  replace hY := (hY.after hx).after hN.2
  replace hb0 := below_trans (below_trans hb0 hx) hN.2
  have hS := hN.1
  clear hx hN
  go_wp2_with (first | refine wpList_store_row rfl 24 _ _ rfl w2.heap.size _ rfl rfl 24 (nums 0) (Has.new' rfl) (infoNum _) (by simp only [nums_size]) (tab_oneCell _ _ fun _ => rfl) ?_ | refine wpList_load_has 27 _ rfl _ rfl rfl 27 _ hX _ Try.underlying27 rfl (infoBits _) ?_ | refine wpList_load_has 27 _ rfl _ rfl rfl 27 _ hY _ Try.underlying27 rfl (infoBits _) ?_)
  refine (c5 _).mono ?_
  rintro e w3 ⟨rfl, hx⟩
  have hN := put_new w3 27 (bits2 0) (bits2 s)
  replace hA := (hA.after hx).after hN.2
  replace hB := (hB.after hx).after hN.2
  replace hX := (hX.after hx).after hN.2
  replace hY := (hY.after hx).after hN.2
  replace hS := (hS.after hx).after hN.2
  replace hb0 := below_trans (below_trans hb0 hx) hN.2
  have hT := hN.1
  clear hx hN
  go_wp2_with (first | refine wpList_store_row rfl 27 _ _ rfl w3.heap.size _ rfl rfl 27 (bits2 0) (Has.new' rfl) (infoBits _) (by simp only [bits2_size]) (tab_oneCell _ _ fun _ => rfl) ?_ | refine wpList_load_has 24 _ rfl _ rfl rfl 24 _ hA _ Try.underlying24 rfl (infoNum _) ?_ | refine wpList_load_has 24 _ rfl _ rfl rfl 24 _ hB _ Try.underlying24 rfl (infoNum _) ?_)
  refine (c6 _).mono ?_
  rintro e w4 ⟨rfl, hx⟩
  have hN := put_new w4 24 (nums 0) (nums u)
  replace hA := (hA.after hx).after hN.2
  replace hB := (hB.after hx).after hN.2
  replace hX := (hX.after hx).after hN.2
  replace hY := (hY.after hx).after hN.2
  replace hS := (hS.after hx).after hN.2
  replace hT := (hT.after hx).after hN.2
  replace hb0 := below_trans (below_trans hb0 hx) hN.2
  have hU := hN.1
  clear hx hN
  go_wp2_with (first | refine wpList_store_row rfl 24 _ _ rfl w4.heap.size _ rfl rfl 24 (nums 0) (Has.new' rfl) (infoNum _) (by simp only [nums_size]) (tab_oneCell _ _ fun _ => rfl) ?_ | refine wpList_load_has 27 _ rfl _ rfl rfl 27 _ hX _ Try.underlying27 rfl (infoBits _) ?_ | refine wpList_load_has 27 _ rfl _ rfl rfl 27 _ hY _ Try.underlying27 rfl (infoBits _) ?_)
  refine (c7 _).mono ?_
  rintro e w5 ⟨rfl, hx⟩
  have hN := put_new w5 27 (bits2 0) (bits2 u)
  replace hA := (hA.after hx).after hN.2
  replace hB := (hB.after hx).after hN.2
  replace hX := (hX.after hx).after hN.2
  replace hY := (hY.after hx).after hN.2
  replace hS := (hS.after hx).after hN.2
  replace hT := (hT.after hx).after hN.2
  replace hU := (hU.after hx).after hN.2
  replace hb0 := below_trans (below_trans hb0 hx) hN.2
  have hV := hN.1
  clear hx hN
  go_wp2_with (first | refine wpList_store_row rfl 27 _ _ rfl w5.heap.size _ rfl rfl 27 (bits2 0) (Has.new' rfl) (infoBits _) (by simp only [bits2_size]) (tab_oneCell _ _ fun _ => rfl) ?_)
  generalize hW : Go.World.setRow _ _ _ = W9 at *
  clear hW hA hB hX hY c4 c5 c6 c7
  refine region_quiet_tail (Below W9.heap.size W9) 22 (by kernel_rfl) (by kernel_rfl) (below_drewN (Below.refl _ _) 1) ?_
  simp only [List.take_succ_cons, List.take_zero, List.drop_succ_cons, List.drop_zero]
  refine wpQ_has 24 _ rfl _ rfl rfl 24 _ (fun w' hC => hS.after hC) _ Try.underlying24 rfl (infoNum _) ?_
  simp only [Act.put, List.setIfInBounds_toArray, List.set_cons_zero, List.set_cons_succ]
  refine wpQ_has 27 _ rfl _ rfl rfl 27 _ (fun w' hC => hT.after hC) _ Try.underlying27 rfl (infoBits _) ?_
  simp only [Act.put, List.setIfInBounds_toArray, List.set_cons_zero, List.set_cons_succ]
  refine wpQ_call 13 #[.agg (bits2 s)] rfl (fun _ => by go_simp) (.agg (nums s)) (fun w' hC => (cs w').mono fun e w'' ⟨he, hb⟩ => ⟨he, below_class hC hb⟩) ?_
  simp only [Act.put, List.setIfInBounds_toArray, List.set_cons_zero, List.set_cons_succ]
  refine wpQ_bin _ _ _ _ _ rfl rfl (.agg (nums s)) (.agg (nums s)) rfl rfl (.bool true) (fun w _ => eqG _ _ s w) ?_
  simp only [Act.put, List.setIfInBounds_toArray, List.set_cons_zero, List.set_cons_succ]
  refine wpQ_move _ rfl rfl (.bool true) rfl ?_
  simp only [Act.put, List.setIfInBounds_toArray, List.set_cons_zero, List.set_cons_succ]
  refine wpQ_move _ rfl rfl (.int .u32 (c : Int)) rfl ?_
  simp only [Act.put, List.setIfInBounds_toArray, List.set_cons_zero, List.set_cons_succ]
  refine wpQ_conv _ _ _ rfl rfl (.int .u32 (c : Int)) rfl (.int .i64 (c : Int)) (fun _ _ => by go_simp) ?_
  simp only [Act.put, List.setIfInBounds_toArray, List.set_cons_zero, List.set_cons_succ]
  refine wpQ_move _ rfl rfl (.int .i64 (c : Int)) rfl ?_
  simp only [Act.put, List.setIfInBounds_toArray, List.set_cons_zero, List.set_cons_succ]
  refine wpQ_bin _ _ _ _ _ rfl rfl (.int .i64 (c : Int)) (.int .i64 (c : Int)) rfl rfl (.bool true) (fun _ _ => by go_simp) ?_
  simp only [Act.put, List.setIfInBounds_toArray, List.set_cons_zero, List.set_cons_succ]
  refine wpQ_pick _ _ _ rfl rfl true rfl (.bool true) rfl ?_
  simp only [Act.put, List.setIfInBounds_toArray, List.set_cons_zero, List.set_cons_succ]
  refine wpQ_move _ rfl rfl (.bool true) rfl ?_
  simp only [Act.put, List.setIfInBounds_toArray, List.set_cons_zero, List.set_cons_succ]
  refine wpQ_has 24 _ rfl _ rfl rfl 24 _ (fun w' hC => hU.after hC) _ Try.underlying24 rfl (infoNum _) ?_
  simp only [Act.put, List.setIfInBounds_toArray, List.set_cons_zero, List.set_cons_succ]
  refine wpQ_has 27 _ rfl _ rfl rfl 27 _ (fun w' hC => hV.after hC) _ Try.underlying27 rfl (infoBits _) ?_
  simp only [Act.put, List.setIfInBounds_toArray, List.set_cons_zero, List.set_cons_succ]
  refine wpQ_call 13 #[.agg (bits2 u)] rfl (fun _ => by go_simp) (.agg (nums u)) (fun w' hC => (cu w').mono fun e w'' ⟨he, hb⟩ => ⟨he, below_class hC hb⟩) ?_
  simp only [Act.put, List.setIfInBounds_toArray, List.set_cons_zero, List.set_cons_succ]
  refine wpQ_bin _ _ _ _ _ rfl rfl (.agg (nums u)) (.agg (nums u)) rfl rfl (.bool true) (fun w _ => eqG _ _ u w) ?_
  simp only [Act.put, List.setIfInBounds_toArray, List.set_cons_zero, List.set_cons_succ]
  refine wpQ_pick _ _ _ rfl rfl true rfl (.bool true) rfl ?_
  simp only [Act.put, List.setIfInBounds_toArray, List.set_cons_zero, List.set_cons_succ]
  refine wpQ_move _ rfl rfl (.bool true) rfl ?_
  simp only [Act.put, List.setIfInBounds_toArray, List.set_cons_zero, List.set_cons_succ]
  refine wpQ_move _ rfl rfl (.int .u32 (d : Int)) rfl ?_
  simp only [Act.put, List.setIfInBounds_toArray, List.set_cons_zero, List.set_cons_succ]
  refine wpQ_conv _ _ _ rfl rfl (.int .u32 (d : Int)) rfl (.int .i64 (d : Int)) (fun _ _ => by go_simp) ?_
  simp only [Act.put, List.setIfInBounds_toArray, List.set_cons_zero, List.set_cons_succ]
  refine wpQ_move _ rfl rfl (.int .i64 (d : Int)) rfl ?_
  simp only [Act.put, List.setIfInBounds_toArray, List.set_cons_zero, List.set_cons_succ]
  refine wpQ_bin _ _ _ _ _ rfl rfl (.int .i64 (d : Int)) (.int .i64 (d : Int)) rfl rfl (.bool true) (fun _ _ => by go_simp) ?_
  simp only [Act.put, List.setIfInBounds_toArray, List.set_cons_zero, List.set_cons_succ]
  refine wpQ_pick _ _ _ rfl rfl true rfl (.bool true) rfl ?_
  simp only [Act.put, List.setIfInBounds_toArray, List.set_cons_zero, List.set_cons_succ]
  refine wpQuiet_nil ?_
  intro w10 hC
  have hfin := below_trans hb0 hC
  clear hS hT hU hV hC cs cu es eu
  go_wp2_with fail
  go_ret
  exact ⟨rfl, hfin⟩
end Go.Proofs.Ytncjlglpocfeaaa
