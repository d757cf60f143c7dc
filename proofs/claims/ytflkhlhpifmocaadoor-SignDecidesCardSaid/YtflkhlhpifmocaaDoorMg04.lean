/-
The reference of layer 4: the sum of two points, the other cases; both calls' contracts.
The reference of layer 4: multiples of a point.
The reference of layer 4: its literals; a point's plain numbers.
The reference of layer 4: is a point on the curve?
The laws of layer 4: a point's value; what package curve's calls answer; the laws' own pt and like.
The laws of layer 4: pt, like.
The laws of layer 4: the anchor.
CurveMults: multiples are the document's: the walk, over what package curve's calls do.
CurveSums: sums are the document's: the walk, over what package curve's calls do.
CurveTwo: two multiples together: the walk, over what package curve's calls do.
CurveOn: what it needs of the numbers: no multiple of the base lies on the axis; a point's mirror; a number moved up by the prime.
A number stored into a field of a point.
Package curve: numbers in Montgomery's form as elements of the field; what its blocks hold.

SHA-256 as a plain function on words and bytes, in the order of the program's own text.





-/
import Derived.Test.YtflkhlhpifmocaaDoorMg00
import Derived.Test.YtflkhlhpifmocaaDoorMg01
import Derived.Test.YtflkhlhpifmocaaDoorMg02
import Derived.Test.YtflkhlhpifmocaaDoorMg03
import Derived.WalkKit
import Derived.WalkSpells
import Derived.WalkLawsBesides
import Derived.Outline
import Derived.Deep.QuietTactic
import Derived.BigQuiet
import Derived.BigRegion
import Derived.Lib.Hide
import Derived.IntWalk
import Derived.Deep.WholeRow
namespace Go.Proofs.YtflkhlhpifmocaaDoor
open Go.RowKit

set_option maxRecDepth 100000 in
theorem buildPt3 (X Y Z : Nat) (W : World) : (Instr.build 39 #[(0, .agg (d16 X)), (1, .agg (d16 Y)), (2, .agg (d16 Z))]).run Tryd.prog W = .ok (.agg (ptC X Y Z)) W := buildPt X Y Z W
attribute [local go_sem] zero16 zero48 one16
set_option maxRecDepth 100000 in
set_option maxHeartbeats 4000000 in
theorem plus_same (X1 Y1 Z1 X2 Y2 Z2 m : Nat) (hm : FldOK m) (hmp : m = Ec.pp) (lX1 : X1 < m) (lY1 : Y1 < m) (lZ1 : Z1 < m) (lX2 : X2 < m) (lY2 : Y2 < m) (lZ2 : Z2 < m) (hz1 : Z1 ≠ 0) (hz2 : Z2 ≠ 0) (hv : (X2 * Z1 % m + (m - X1 * Z2 % m)) % m = 0) (hu : (Y2 * Z1 % m + (m - Y1 * Z2 % m)) % m = 0) (X' Y' Z' g : Nat) (w : World) (hF : IsField w g m)
    (hD : ∀ g w, IsField w g m → Calls Tryd.prog 56 #[.pointer (some ⟨g, 0, none⟩), .agg (ptC X1 Y1 Z1)] w fun e w' => e = .returned (.agg (ptC X' Y' Z')) ∧ Below w.heap.size w w') : Calls Tryd.prog 28 #[.pointer (some ⟨g, 0, none⟩), .agg (ptC X1 Y1 Z1), .agg (ptC X2 Y2 Z2)] w fun e w' => e = .returned (.agg (ptC X' Y' Z')) ∧ Below w.heap.size w w' := by
  have m0 := hm.1
  obtain ⟨v1, ev1⟩ : ∃ v, v = Y1 * Z2 % m := ⟨_, rfl⟩
  have lv1 : v1 < m := by rw [ev1]; exact Nat.mod_lt _ m0
  have kv1 := fun g W (h : IsField W g m) => fmul_c Y1 Z2 m g W h hm lY1 lZ2
  rw [← ev1] at kv1
  have cv1 : Ec.c v1 = Ec.c Y1 * Ec.c Z2 := by rw [ev1]; exact cm hmp Y1 Z2
  obtain ⟨v2, ev2⟩ : ∃ v, v = X1 * Z2 % m := ⟨_, rfl⟩
  have lv2 : v2 < m := by rw [ev2]; exact Nat.mod_lt _ m0
  have kv2 := fun g W (h : IsField W g m) => fmul_c X1 Z2 m g W h hm lX1 lZ2
  rw [← ev2] at kv2
  have cv2 : Ec.c v2 = Ec.c X1 * Ec.c Z2 := by rw [ev2]; exact cm hmp X1 Z2
  obtain ⟨v3, ev3⟩ : ∃ v, v = Y2 * Z1 % m := ⟨_, rfl⟩
  have lv3 : v3 < m := by rw [ev3]; exact Nat.mod_lt _ m0
  have kv3 := fun g W (h : IsField W g m) => fmul_c Y2 Z1 m g W h hm lY2 lZ1
  rw [← ev3] at kv3
  have cv3 : Ec.c v3 = Ec.c Y2 * Ec.c Z1 := by rw [ev3]; exact cm hmp Y2 Z1
  obtain ⟨v4, ev4⟩ : ∃ v, v = (v3 + (m - v1)) % m := ⟨_, rfl⟩
  have lv4 : v4 < m := by rw [ev4]; exact Nat.mod_lt _ m0
  have kv4 := fun g W (h : IsField W g m) => fsub_c v3 v1 m g W h hm lv3 lv1
  rw [← ev4] at kv4
  have cv4 : Ec.c v4 = Ec.c v3 - Ec.c v1 := by rw [ev4]; exact cs hmp v3 v1 (Nat.le_of_lt lv1)
  obtain ⟨v5, ev5⟩ : ∃ v, v = X2 * Z1 % m := ⟨_, rfl⟩
  have lv5 : v5 < m := by rw [ev5]; exact Nat.mod_lt _ m0
  have kv5 := fun g W (h : IsField W g m) => fmul_c X2 Z1 m g W h hm lX2 lZ1
  rw [← ev5] at kv5
  have cv5 : Ec.c v5 = Ec.c X2 * Ec.c Z1 := by rw [ev5]; exact cm hmp X2 Z1
  obtain ⟨v6, ev6⟩ : ∃ v, v = (v5 + (m - v2)) % m := ⟨_, rfl⟩
  have lv6 : v6 < m := by rw [ev6]; exact Nat.mod_lt _ m0
  have kv6 := fun g W (h : IsField W g m) => fsub_c v5 v2 m g W h hm lv5 lv2
  rw [← ev6] at kv6
  have cv6 : Ec.c v6 = Ec.c v5 - Ec.c v2 := by rw [ev6]; exact cs hmp v5 v2 (Nat.le_of_lt lv2)
  rw [← ev5, ← ev2, ← ev6] at hv
  rw [← ev3, ← ev1, ← ev4] at hu
  have hn1 := hexNe Z1 m hm lZ1 hz1
  have hn2 := hexNe Z2 m hm lZ2 hz2
  have hn3 : ∀ W, (binOp .eql 37 (.agg (d16 v6)) (.agg (d16 0))).run Tryd.prog W = .ok (.bool true) W := fun W => by rw [hv]; exact hexZ W
  have hn4 : ∀ W, (binOp .eql 37 (.agg (d16 v4)) (.agg (d16 0))).run Tryd.prog W = .ok (.bool true) W := fun W => by rw [hu]; exact hexZ W
  clear ev1 cv1 lv1 ev2 cv2 lv2 ev3 cv3 lv3 ev4 cv4 lv4 ev5 cv5 lv5 ev6 cv6 lv6 hm hmp lX1 lY1 lZ1 lX2 lY2 lZ2 m0 hz1 hz2 hv hu
  have n0 := d16_ne 0
  have hP : Has (((w.alloc (.cells (ptC X1 Y1 Z1) 39)).alloc (.cells (ptC X2 Y2 Z2) 39)).alloc (.cells (ptC 0 0 0) 39)) w.heap.size 39 (ptC X1 Y1 Z1) := ((Has.new w _ _).alloc _).alloc _
  have hQ : Has (((w.alloc (.cells (ptC X1 Y1 Z1) 39)).alloc (.cells (ptC X2 Y2 Z2) 39)).alloc (.cells (ptC 0 0 0) 39)) (w.heap.size + 1) 39 (ptC X2 Y2 Z2) := (Has.new' (by simp)).alloc _
  have hR : Has (((w.alloc (.cells (ptC X1 Y1 Z1) 39)).alloc (.cells (ptC X2 Y2 Z2) 39)).alloc (.cells (ptC 0 0 0) 39)) (w.heap.size + 1 + 1) 39 (ptC 0 0 0) := Has.new' (by simp)
  have hb0 : Below w.heap.size w (((w.alloc (.cells (ptC X1 Y1 Z1) 39)).alloc (.cells (ptC X2 Y2 Z2) 39)).alloc (.cells (ptC 0 0 0) 39)) := (((Below.refl _ _).alloc (Nat.le_refl _) _).alloc (by simp) _).alloc (by simp <;> omega) _
  replace hF := hF.after hb0
  go_enter Tryd.func28, Tryd.ntmps28
  go_wp2_with (first | refine wpList_load_hex rfl _ rfl (w.heap.size) 32 rfl Z1 (pt_z hP) ?_ | refine wpList_load_hex rfl _ rfl (w.heap.size + 1) 32 rfl Z2 (pt_z hQ) ?_)
  generalize ((w.alloc _).alloc _).alloc _ = U0 at *
  clear hn1 hn2
  go_wp2_with fail
  have ohR_1 := hR.lt
  have ohF_1 := hF.lt
  have ohP_1 := hP.lt
  have ohQ_1 := hQ.lt
  refine region_facts 14 [] [.val (.pointer (some ⟨g, 0, none⟩)), .val (.pointer (some ⟨w.heap.size, 16, none⟩)), .val (.agg (d16 (Y1))), .val (.pointer (some ⟨w.heap.size + 1, 32, none⟩)), .val (.agg (d16 (Z2))), .val (.agg (d16 (v1))), .val (.pointer (some ⟨g, 0, none⟩)), .val (.pointer (some ⟨w.heap.size, 0, none⟩)), .val (.agg (d16 (X1))), .val (.pointer (some ⟨w.heap.size + 1, 32, none⟩)), .val (.agg (d16 (Z2))), .val (.agg (d16 (v2))), .new 37 (d16 0), .new 37 (d16 0)]
    (by kernel_rfl) (by kernel_rfl) (fun _ _ _ _ _ h => h) ?_ ?_
  · simp only [List.take_succ_cons, List.take_zero, StepsOK]
    refine ⟨?_, ?_, ?_, ?_, ?_, ?_, ?_, ?_, ?_, ?_, ?_, ?_, ?_, ?_, trivial⟩
    · intro v w' hb hf K hKt
      simp only [putAll, Act.put, List.setIfInBounds_toArray, List.set_cons_zero, List.set_cons_succ, Nat.zero_add, Nat.reduceAdd] at hKt ⊢
      go_simp
      exact hKt _ (Below.refl _ _)
    · intro v w' hb hf K hKt
      simp only [putAll, Act.put, List.setIfInBounds_toArray, List.set_cons_zero, List.set_cons_succ, Nat.zero_add, Nat.reduceAdd] at hKt ⊢
      go_simp
      exact hKt _ (Below.refl _ _)
    · intro v w' hb hf K hKt
      have f1 : v 1 = _ := hf ⟨1, .data⟩ (by simp) rfl
      simp only [putAll, Act.put, List.setIfInBounds_toArray, List.set_cons_zero, List.set_cons_succ, Nat.zero_add, Nat.reduceAdd] at hKt ⊢
      rw [f1] at hKt ⊢
      exact wp_load_hex _ rfl (w.heap.size) 16 rfl Y1 (pt_y ((hP.after hb))) (hKt _ (Below.refl _ _))
    · intro v w' hb hf K hKt
      simp only [putAll, Act.put, List.setIfInBounds_toArray, List.set_cons_zero, List.set_cons_succ, Nat.zero_add, Nat.reduceAdd] at hKt ⊢
      go_simp
      exact hKt _ (Below.refl _ _)
    · intro v w' hb hf K hKt
      have f3 : v 3 = _ := hf ⟨3, .data⟩ (by simp) rfl
      simp only [putAll, Act.put, List.setIfInBounds_toArray, List.set_cons_zero, List.set_cons_succ, Nat.zero_add, Nat.reduceAdd] at hKt ⊢
      rw [f3] at hKt ⊢
      exact wp_load_hex _ rfl (w.heap.size + 1) 32 rfl Z2 (pt_z ((hQ.after hb))) (hKt _ (Below.refl _ _))
    · intro v w' hb hf K hKt
      have f0 : v 0 = _ := hf ⟨0, .data⟩ (by simp) rfl
      have f2 : v 2 = _ := hf ⟨2, .data⟩ (by simp) rfl
      have f4 : v 4 = _ := hf ⟨4, .data⟩ (by simp) rfl
      simp only [putAll, Act.put, List.setIfInBounds_toArray, List.set_cons_zero, List.set_cons_succ, Nat.zero_add, Nat.reduceAdd] at hKt ⊢
      rw [f0, f2, f4] at hKt ⊢
      go_simp
      refine (kv1 _ w' (hF.after hb)).mono ?_
      rintro e w'' ⟨rfl, hb2⟩
      exact hKt _ hb2
    · intro v w' hb hf K hKt
      simp only [putAll, Act.put, List.setIfInBounds_toArray, List.set_cons_zero, List.set_cons_succ, Nat.zero_add, Nat.reduceAdd] at hKt ⊢
      go_simp
      exact hKt _ (Below.refl _ _)
    · intro v w' hb hf K hKt
      simp only [putAll, Act.put, List.setIfInBounds_toArray, List.set_cons_zero, List.set_cons_succ, Nat.zero_add, Nat.reduceAdd] at hKt ⊢
      go_simp
      exact hKt _ (Below.refl _ _)
    · intro v w' hb hf K hKt
      have f7 : v 7 = _ := hf ⟨7, .data⟩ (by simp) rfl
      simp only [putAll, Act.put, List.setIfInBounds_toArray, List.set_cons_zero, List.set_cons_succ, Nat.zero_add, Nat.reduceAdd] at hKt ⊢
      rw [f7] at hKt ⊢
      exact wp_load_hex _ rfl (w.heap.size) 0 rfl X1 (pt_x ((hP.after hb))) (hKt _ (Below.refl _ _))
    · intro v w' hb hf K hKt
      simp only [putAll, Act.put, List.setIfInBounds_toArray, List.set_cons_zero, List.set_cons_succ, Nat.zero_add, Nat.reduceAdd] at hKt ⊢
      go_simp
      exact hKt _ (Below.refl _ _)
    · intro v w' hb hf K hKt
      have f9 : v 9 = _ := hf ⟨9, .data⟩ (by simp) rfl
      simp only [putAll, Act.put, List.setIfInBounds_toArray, List.set_cons_zero, List.set_cons_succ, Nat.zero_add, Nat.reduceAdd] at hKt ⊢
      rw [f9] at hKt ⊢
      exact wp_load_hex _ rfl (w.heap.size + 1) 32 rfl Z2 (pt_z ((hQ.after hb))) (hKt _ (Below.refl _ _))
    · intro v w' hb hf K hKt
      have f6 : v 6 = _ := hf ⟨6, .data⟩ (by simp) rfl
      have f8 : v 8 = _ := hf ⟨8, .data⟩ (by simp) rfl
      have f10 : v 10 = _ := hf ⟨10, .data⟩ (by simp) rfl
      simp only [putAll, Act.put, List.setIfInBounds_toArray, List.set_cons_zero, List.set_cons_succ, Nat.zero_add, Nat.reduceAdd] at hKt ⊢
      rw [f6, f8, f10] at hKt ⊢
      go_simp
      refine (kv2 _ w' (hF.after hb)).mono ?_
      rintro e w'' ⟨rfl, hb2⟩
      exact hKt _ hb2
    · exact ⟨rfl, rfl, zeroV16⟩
    · exact ⟨rfl, rfl, zeroV16⟩
  intro v u1 hb hF hD
  have f0 : v 0 = _ := hF 0 (by decide)
  have f1 : v 1 = _ := hF 1 (by decide)
  have f2 : v 2 = _ := hF 2 (by decide)
  have f3 : v 3 = _ := hF 3 (by decide)
  have f4 : v 4 = _ := hF 4 (by decide)
  have f5 : v 5 = _ := hF 5 (by decide)
  have f6 : v 6 = _ := hF 6 (by decide)
  have f7 : v 7 = _ := hF 7 (by decide)
  have f8 : v 8 = _ := hF 8 (by decide)
  have f9 : v 9 = _ := hF 9 (by decide)
  have f10 : v 10 = _ := hF 10 (by decide)
  have f11 : v 11 = _ := hF 11 (by decide)
  obtain ⟨g1_12, f12, hg12, hl12, hz12⟩ := hF 12 (by decide)
  replace hz12 : Has u1 g1_12 37 (d16 0) := hz12
  obtain ⟨g1_13, f13, hg13, hl13, hz13⟩ := hF 13 (by decide)
  replace hz13 : Has u1 g1_13 37 (d16 0) := hz13
  have hne12_13 : g1_12 ≠ g1_13 := fun h => hD 12 13 (by decide) (by decide) (by decide) rfl rfl (by rw [f12, f13, h])
  simp only [List.take_succ_cons, List.take_zero, List.drop_succ_cons, List.drop_zero, putAll, Act.put, List.setIfInBounds_toArray, List.set_cons_zero, List.set_cons_succ, Nat.zero_add, Nat.reduceAdd]
  rw [f0, f1, f2, f3, f4, f5, f6, f7, f8, f9, f10, f11, f12, f13]
  clear hF hD f0 f1 f2 f3 f4 f5 f6 f7 f8 f9 f10 f11 f12 f13
  have hs12 := hz12
  have hs13 := (hz13).farRow (k := g1_12) (by omega) (d16 (v1))
  have hBW := below_setRow (below_setRow (hb) (g := g1_12) hg12 (d16 (v1))) (g := g1_13) hg13 (d16 (v2))
  have hv_v1 := ((hz12).setRow (d16 (v1))).farRow (k := g1_13) (by omega) (d16 (v2))
  have hv_v2 := ((hz13).farRow (k := g1_12) (by omega) (d16 (v1))).setRow (d16 (v2))
  replace hR := hR.after hBW
  replace hF := hF.after hBW
  replace hP := hP.after hBW
  replace hQ := hQ.after hBW
  replace hb0 := below_trans hb0 hBW
  go_wp2_with (first | refine wpList_store_row rfl 37 _ _ rfl g1_12 _ rfl rfl 37 (d16 0) hs12 (info16 _) (by simp only [d16_size]) (tab_oneCell _ _ fun _ => rfl) ?_ | (refine wpList_store_row rfl 37 _ _ rfl g1_13 _ rfl rfl 37 (d16 0) hs13 (info16 _) (by simp only [d16_size]) (tab_oneCell _ _ fun _ => rfl) ?_; generalize hWW : World.setRow _ _ _ = U1 at *; clear hWW))
  clear hBW hb hs12 hz12 hl12 hs13 hz13 hl13
  have ohv_v1_2 := hv_v1.lt
  have ohv_v2_2 := hv_v2.lt
  have ohR_2 := hR.lt
  have ohF_2 := hF.lt
  have ohP_2 := hP.lt
  have ohQ_2 := hQ.lt
  refine region_facts 20 [] [.val (.pointer (some ⟨g, 0, none⟩)), .val (.pointer (some ⟨g, 0, none⟩)), .val (.pointer (some ⟨w.heap.size + 1, 16, none⟩)), .val (.agg (d16 (Y2))), .val (.pointer (some ⟨w.heap.size, 32, none⟩)), .val (.agg (d16 (Z1))), .val (.agg (d16 (v3))), .val (.agg (d16 (v1))), .val (.agg (d16 (v4))), .val (.pointer (some ⟨g, 0, none⟩)), .val (.pointer (some ⟨g, 0, none⟩)), .val (.pointer (some ⟨w.heap.size + 1, 0, none⟩)), .val (.agg (d16 (X2))), .val (.pointer (some ⟨w.heap.size, 32, none⟩)), .val (.agg (d16 (Z1))), .val (.agg (d16 (v5))), .val (.agg (d16 (v2))), .val (.agg (d16 (v6))), .new 37 (d16 0), .new 37 (d16 0)]
    (by kernel_rfl) (by kernel_rfl) (fun _ _ _ _ _ h => h) ?_ ?_
  · simp only [List.take_succ_cons, List.take_zero, StepsOK]
    refine ⟨?_, ?_, ?_, ?_, ?_, ?_, ?_, ?_, ?_, ?_, ?_, ?_, ?_, ?_, ?_, ?_, ?_, ?_, ?_, ?_, trivial⟩
    · intro v w' hb hf K hKt
      simp only [putAll, Act.put, List.setIfInBounds_toArray, List.set_cons_zero, List.set_cons_succ, Nat.zero_add, Nat.reduceAdd] at hKt ⊢
      go_simp
      exact hKt _ (Below.refl _ _)
    · intro v w' hb hf K hKt
      simp only [putAll, Act.put, List.setIfInBounds_toArray, List.set_cons_zero, List.set_cons_succ, Nat.zero_add, Nat.reduceAdd] at hKt ⊢
      go_simp
      exact hKt _ (Below.refl _ _)
    · intro v w' hb hf K hKt
      simp only [putAll, Act.put, List.setIfInBounds_toArray, List.set_cons_zero, List.set_cons_succ, Nat.zero_add, Nat.reduceAdd] at hKt ⊢
      go_simp
      exact hKt _ (Below.refl _ _)
    · intro v w' hb hf K hKt
      have f2 : v 2 = _ := hf ⟨2, .data⟩ (by simp) rfl
      simp only [putAll, Act.put, List.setIfInBounds_toArray, List.set_cons_zero, List.set_cons_succ, Nat.zero_add, Nat.reduceAdd] at hKt ⊢
      rw [f2] at hKt ⊢
      exact wp_load_hex _ rfl (w.heap.size + 1) 16 rfl Y2 (pt_y ((hQ.after hb))) (hKt _ (Below.refl _ _))
    · intro v w' hb hf K hKt
      simp only [putAll, Act.put, List.setIfInBounds_toArray, List.set_cons_zero, List.set_cons_succ, Nat.zero_add, Nat.reduceAdd] at hKt ⊢
      go_simp
      exact hKt _ (Below.refl _ _)
    · intro v w' hb hf K hKt
      have f4 : v 4 = _ := hf ⟨4, .data⟩ (by simp) rfl
      simp only [putAll, Act.put, List.setIfInBounds_toArray, List.set_cons_zero, List.set_cons_succ, Nat.zero_add, Nat.reduceAdd] at hKt ⊢
      rw [f4] at hKt ⊢
      exact wp_load_hex _ rfl (w.heap.size) 32 rfl Z1 (pt_z ((hP.after hb))) (hKt _ (Below.refl _ _))
    · intro v w' hb hf K hKt
      have f1 : v 1 = _ := hf ⟨1, .data⟩ (by simp) rfl
      have f3 : v 3 = _ := hf ⟨3, .data⟩ (by simp) rfl
      have f5 : v 5 = _ := hf ⟨5, .data⟩ (by simp) rfl
      simp only [putAll, Act.put, List.setIfInBounds_toArray, List.set_cons_zero, List.set_cons_succ, Nat.zero_add, Nat.reduceAdd] at hKt ⊢
      rw [f1, f3, f5] at hKt ⊢
      go_simp
      refine (kv3 _ w' (hF.after hb)).mono ?_
      rintro e w'' ⟨rfl, hb2⟩
      exact hKt _ hb2
    · intro v w' hb hf K hKt
      simp only [putAll, Act.put, List.setIfInBounds_toArray, List.set_cons_zero, List.set_cons_succ, Nat.zero_add, Nat.reduceAdd] at hKt ⊢
      exact wp_load_row 37 _ rfl (g1_12) rfl 37 _ (0, 0) _ (hv_v1.after hb) Tryd.underlying37 rfl (info16 _) (hKt _ (Below.refl _ _))
    · intro v w' hb hf K hKt
      have f0 : v 0 = _ := hf ⟨0, .data⟩ (by simp) rfl
      have f6 : v 6 = _ := hf ⟨6, .data⟩ (by simp) rfl
      have f7 : v 7 = _ := hf ⟨7, .data⟩ (by simp) rfl
      simp only [putAll, Act.put, List.setIfInBounds_toArray, List.set_cons_zero, List.set_cons_succ, Nat.zero_add, Nat.reduceAdd] at hKt ⊢
      rw [f0, f6, f7] at hKt ⊢
      go_simp
      refine (kv4 _ w' (hF.after hb)).mono ?_
      rintro e w'' ⟨rfl, hb2⟩
      exact hKt _ hb2
    · intro v w' hb hf K hKt
      simp only [putAll, Act.put, List.setIfInBounds_toArray, List.set_cons_zero, List.set_cons_succ, Nat.zero_add, Nat.reduceAdd] at hKt ⊢
      go_simp
      exact hKt _ (Below.refl _ _)
    · intro v w' hb hf K hKt
      simp only [putAll, Act.put, List.setIfInBounds_toArray, List.set_cons_zero, List.set_cons_succ, Nat.zero_add, Nat.reduceAdd] at hKt ⊢
      go_simp
      exact hKt _ (Below.refl _ _)
    · intro v w' hb hf K hKt
      simp only [putAll, Act.put, List.setIfInBounds_toArray, List.set_cons_zero, List.set_cons_succ, Nat.zero_add, Nat.reduceAdd] at hKt ⊢
      go_simp
      exact hKt _ (Below.refl _ _)
    · intro v w' hb hf K hKt
      have f11 : v 11 = _ := hf ⟨11, .data⟩ (by simp) rfl
      simp only [putAll, Act.put, List.setIfInBounds_toArray, List.set_cons_zero, List.set_cons_succ, Nat.zero_add, Nat.reduceAdd] at hKt ⊢
      rw [f11] at hKt ⊢
      exact wp_load_hex _ rfl (w.heap.size + 1) 0 rfl X2 (pt_x ((hQ.after hb))) (hKt _ (Below.refl _ _))
    · intro v w' hb hf K hKt
      simp only [putAll, Act.put, List.setIfInBounds_toArray, List.set_cons_zero, List.set_cons_succ, Nat.zero_add, Nat.reduceAdd] at hKt ⊢
      go_simp
      exact hKt _ (Below.refl _ _)
    · intro v w' hb hf K hKt
      have f13 : v 13 = _ := hf ⟨13, .data⟩ (by simp) rfl
      simp only [putAll, Act.put, List.setIfInBounds_toArray, List.set_cons_zero, List.set_cons_succ, Nat.zero_add, Nat.reduceAdd] at hKt ⊢
      rw [f13] at hKt ⊢
      exact wp_load_hex _ rfl (w.heap.size) 32 rfl Z1 (pt_z ((hP.after hb))) (hKt _ (Below.refl _ _))
    · intro v w' hb hf K hKt
      have f10 : v 10 = _ := hf ⟨10, .data⟩ (by simp) rfl
      have f12 : v 12 = _ := hf ⟨12, .data⟩ (by simp) rfl
      have f14 : v 14 = _ := hf ⟨14, .data⟩ (by simp) rfl
      simp only [putAll, Act.put, List.setIfInBounds_toArray, List.set_cons_zero, List.set_cons_succ, Nat.zero_add, Nat.reduceAdd] at hKt ⊢
      rw [f10, f12, f14] at hKt ⊢
      go_simp
      refine (kv5 _ w' (hF.after hb)).mono ?_
      rintro e w'' ⟨rfl, hb2⟩
      exact hKt _ hb2
    · intro v w' hb hf K hKt
      simp only [putAll, Act.put, List.setIfInBounds_toArray, List.set_cons_zero, List.set_cons_succ, Nat.zero_add, Nat.reduceAdd] at hKt ⊢
      exact wp_load_row 37 _ rfl (g1_13) rfl 37 _ (0, 0) _ (hv_v2.after hb) Tryd.underlying37 rfl (info16 _) (hKt _ (Below.refl _ _))
    · intro v w' hb hf K hKt
      have f9 : v 9 = _ := hf ⟨9, .data⟩ (by simp) rfl
      have f15 : v 15 = _ := hf ⟨15, .data⟩ (by simp) rfl
      have f16 : v 16 = _ := hf ⟨16, .data⟩ (by simp) rfl
      simp only [putAll, Act.put, List.setIfInBounds_toArray, List.set_cons_zero, List.set_cons_succ, Nat.zero_add, Nat.reduceAdd] at hKt ⊢
      rw [f9, f15, f16] at hKt ⊢
      go_simp
      refine (kv6 _ w' (hF.after hb)).mono ?_
      rintro e w'' ⟨rfl, hb2⟩
      exact hKt _ hb2
    · exact ⟨rfl, rfl, zeroV16⟩
    · exact ⟨rfl, rfl, zeroV16⟩
  intro v u2 hb hF hD
  have f0 : v 0 = _ := hF 0 (by decide)
  have f1 : v 1 = _ := hF 1 (by decide)
  have f2 : v 2 = _ := hF 2 (by decide)
  have f3 : v 3 = _ := hF 3 (by decide)
  have f4 : v 4 = _ := hF 4 (by decide)
  have f5 : v 5 = _ := hF 5 (by decide)
  have f6 : v 6 = _ := hF 6 (by decide)
  have f7 : v 7 = _ := hF 7 (by decide)
  have f8 : v 8 = _ := hF 8 (by decide)
  have f9 : v 9 = _ := hF 9 (by decide)
  have f10 : v 10 = _ := hF 10 (by decide)
  have f11 : v 11 = _ := hF 11 (by decide)
  have f12 : v 12 = _ := hF 12 (by decide)
  have f13 : v 13 = _ := hF 13 (by decide)
  have f14 : v 14 = _ := hF 14 (by decide)
  have f15 : v 15 = _ := hF 15 (by decide)
  have f16 : v 16 = _ := hF 16 (by decide)
  have f17 : v 17 = _ := hF 17 (by decide)
  obtain ⟨g2_18, f18, hg18, hl18, hz18⟩ := hF 18 (by decide)
  replace hz18 : Has u2 g2_18 37 (d16 0) := hz18
  obtain ⟨g2_19, f19, hg19, hl19, hz19⟩ := hF 19 (by decide)
  replace hz19 : Has u2 g2_19 37 (d16 0) := hz19
  have hne18_19 : g2_18 ≠ g2_19 := fun h => hD 18 19 (by decide) (by decide) (by decide) rfl rfl (by rw [f18, f19, h])
  simp only [List.take_succ_cons, List.take_zero, List.drop_succ_cons, List.drop_zero, putAll, Act.put, List.setIfInBounds_toArray, List.set_cons_zero, List.set_cons_succ, Nat.zero_add, Nat.reduceAdd]
  rw [f0, f1, f2, f3, f4, f5, f6, f7, f8, f9, f10, f11, f12, f13, f14, f15, f16, f17, f18, f19]
  clear hF hD f0 f1 f2 f3 f4 f5 f6 f7 f8 f9 f10 f11 f12 f13 f14 f15 f16 f17 f18 f19
  have hs18 := hz18
  have hs19 := (hz19).farRow (k := g2_18) (by omega) (d16 (v4))
  have hBW := below_setRow (below_setRow (hb) (g := g2_18) hg18 (d16 (v4))) (g := g2_19) hg19 (d16 (v6))
  have hv_v4 := ((hz18).setRow (d16 (v4))).farRow (k := g2_19) (by omega) (d16 (v6))
  have hv_v6 := ((hz19).farRow (k := g2_18) (by omega) (d16 (v4))).setRow (d16 (v6))
  replace hv_v1 := hv_v1.after hBW
  replace hv_v2 := hv_v2.after hBW
  replace hR := hR.after hBW
  replace hF := hF.after hBW
  replace hP := hP.after hBW
  replace hQ := hQ.after hBW
  replace hb0 := below_trans hb0 hBW
  go_wp2_with (first | refine wpList_store_row rfl 37 _ _ rfl g2_18 _ rfl rfl 37 (d16 0) hs18 (info16 _) (by simp only [d16_size]) (tab_oneCell _ _ fun _ => rfl) ?_ | (refine wpList_store_row rfl 37 _ _ rfl g2_19 _ rfl rfl 37 (d16 0) hs19 (info16 _) (by simp only [d16_size]) (tab_oneCell _ _ fun _ => rfl) ?_; generalize hWW : World.setRow _ _ _ = U2 at *; clear hWW) | refine wpList_load_has 37 _ rfl _ rfl rfl 37 _ hv_v6 _ Tryd.underlying37 rfl (info16 _) ?_ | refine wpList_load_has 37 _ rfl _ rfl rfl 37 _ hv_v4 _ Tryd.underlying37 rfl (info16 _) ?_ | refine wpList_load_has 39 _ rfl _ rfl rfl 39 _ hP _ Tryd.underlying39 rfl (infoPt _ _ _) ?_)
  clear hBW hb hs18 hz18 hl18 hs19 hz19 hl19
  refine (hD _ _ hF).mono ?_
  rintro e u9 ⟨rfl, hx⟩
  replace hR := hR.after hx
  replace hb0 := below_trans hb0 hx
  clear hx
  go_wp2_with (first | refine wpList_store_row rfl 39 _ _ rfl (w.heap.size + 1 + 1) _ rfl rfl 39 _ hR (infoPt _ _ _) (by simp only [ptC_size]) (tab_oneCell _ _ fun _ => rfl) ?_)
  exact bodyPost_ret (v := .agg (ptC X' Y' Z')) (results_cell_row rfl _ _ (w.heap.size + 1 + 1) 39 _ _ _ rfl (hR.setRow _) Tryd.underlying39 rfl (infoPt _ _ _)) rfl ⟨rfl, below_setRow hb0 (by omega) _⟩
set_option maxRecDepth 100000 in
set_option maxHeartbeats 4000000 in
theorem plus_opp (X1 Y1 Z1 X2 Y2 Z2 m : Nat) (hm : FldOK m) (hmp : m = Ec.pp) (lX1 : X1 < m) (lY1 : Y1 < m) (lZ1 : Z1 < m) (lX2 : X2 < m) (lY2 : Y2 < m) (lZ2 : Z2 < m) (hz1 : Z1 ≠ 0) (hz2 : Z2 ≠ 0) (hv : (X2 * Z1 % m + (m - X1 * Z2 % m)) % m = 0) (hu : (Y2 * Z1 % m + (m - Y1 * Z2 % m)) % m ≠ 0) (g : Nat) (w : World) (hF : IsField w g m) : Calls Tryd.prog 28 #[.pointer (some ⟨g, 0, none⟩), .agg (ptC X1 Y1 Z1), .agg (ptC X2 Y2 Z2)] w fun e w' => e = .returned (.agg (ptC 1 1 0)) ∧ Below w.heap.size w w' := by
  have m0 := hm.1
  obtain ⟨v1, ev1⟩ : ∃ v, v = Y1 * Z2 % m := ⟨_, rfl⟩
  have lv1 : v1 < m := by rw [ev1]; exact Nat.mod_lt _ m0
  have kv1 := fun g W (h : IsField W g m) => fmul_c Y1 Z2 m g W h hm lY1 lZ2
  rw [← ev1] at kv1
  have cv1 : Ec.c v1 = Ec.c Y1 * Ec.c Z2 := by rw [ev1]; exact cm hmp Y1 Z2
  obtain ⟨v2, ev2⟩ : ∃ v, v = X1 * Z2 % m := ⟨_, rfl⟩
  have lv2 : v2 < m := by rw [ev2]; exact Nat.mod_lt _ m0
  have kv2 := fun g W (h : IsField W g m) => fmul_c X1 Z2 m g W h hm lX1 lZ2
  rw [← ev2] at kv2
  have cv2 : Ec.c v2 = Ec.c X1 * Ec.c Z2 := by rw [ev2]; exact cm hmp X1 Z2
  obtain ⟨v3, ev3⟩ : ∃ v, v = Y2 * Z1 % m := ⟨_, rfl⟩
  have lv3 : v3 < m := by rw [ev3]; exact Nat.mod_lt _ m0
  have kv3 := fun g W (h : IsField W g m) => fmul_c Y2 Z1 m g W h hm lY2 lZ1
  rw [← ev3] at kv3
  have cv3 : Ec.c v3 = Ec.c Y2 * Ec.c Z1 := by rw [ev3]; exact cm hmp Y2 Z1
  obtain ⟨v4, ev4⟩ : ∃ v, v = (v3 + (m - v1)) % m := ⟨_, rfl⟩
  have lv4 : v4 < m := by rw [ev4]; exact Nat.mod_lt _ m0
  have kv4 := fun g W (h : IsField W g m) => fsub_c v3 v1 m g W h hm lv3 lv1
  rw [← ev4] at kv4
  have cv4 : Ec.c v4 = Ec.c v3 - Ec.c v1 := by rw [ev4]; exact cs hmp v3 v1 (Nat.le_of_lt lv1)
  obtain ⟨v5, ev5⟩ : ∃ v, v = X2 * Z1 % m := ⟨_, rfl⟩
  have lv5 : v5 < m := by rw [ev5]; exact Nat.mod_lt _ m0
  have kv5 := fun g W (h : IsField W g m) => fmul_c X2 Z1 m g W h hm lX2 lZ1
  rw [← ev5] at kv5
  have cv5 : Ec.c v5 = Ec.c X2 * Ec.c Z1 := by rw [ev5]; exact cm hmp X2 Z1
  obtain ⟨v6, ev6⟩ : ∃ v, v = (v5 + (m - v2)) % m := ⟨_, rfl⟩
  have lv6 : v6 < m := by rw [ev6]; exact Nat.mod_lt _ m0
  have kv6 := fun g W (h : IsField W g m) => fsub_c v5 v2 m g W h hm lv5 lv2
  rw [← ev6] at kv6
  have cv6 : Ec.c v6 = Ec.c v5 - Ec.c v2 := by rw [ev6]; exact cs hmp v5 v2 (Nat.le_of_lt lv2)
  rw [← ev5, ← ev2, ← ev6] at hv
  rw [← ev3, ← ev1, ← ev4] at hu
  have hn1 := hexNe Z1 m hm lZ1 hz1
  have hn2 := hexNe Z2 m hm lZ2 hz2
  have hn3 : ∀ W, (binOp .eql 37 (.agg (d16 v6)) (.agg (d16 0))).run Tryd.prog W = .ok (.bool true) W := fun W => by rw [hv]; exact hexZ W
  have hn4 := hexNe v4 m hm lv4 hu
  clear ev1 cv1 lv1 ev2 cv2 lv2 ev3 cv3 lv3 ev4 cv4 lv4 ev5 cv5 lv5 ev6 cv6 lv6 hm hmp lX1 lY1 lZ1 lX2 lY2 lZ2 m0 hz1 hz2 hv hu
  have n0 := d16_ne 0
  have hP : Has (((w.alloc (.cells (ptC X1 Y1 Z1) 39)).alloc (.cells (ptC X2 Y2 Z2) 39)).alloc (.cells (ptC 0 0 0) 39)) w.heap.size 39 (ptC X1 Y1 Z1) := ((Has.new w _ _).alloc _).alloc _
  have hQ : Has (((w.alloc (.cells (ptC X1 Y1 Z1) 39)).alloc (.cells (ptC X2 Y2 Z2) 39)).alloc (.cells (ptC 0 0 0) 39)) (w.heap.size + 1) 39 (ptC X2 Y2 Z2) := (Has.new' (by simp)).alloc _
  have hR : Has (((w.alloc (.cells (ptC X1 Y1 Z1) 39)).alloc (.cells (ptC X2 Y2 Z2) 39)).alloc (.cells (ptC 0 0 0) 39)) (w.heap.size + 1 + 1) 39 (ptC 0 0 0) := Has.new' (by simp)
  have hb0 : Below w.heap.size w (((w.alloc (.cells (ptC X1 Y1 Z1) 39)).alloc (.cells (ptC X2 Y2 Z2) 39)).alloc (.cells (ptC 0 0 0) 39)) := (((Below.refl _ _).alloc (Nat.le_refl _) _).alloc (by simp) _).alloc (by simp <;> omega) _
  replace hF := hF.after hb0
  go_enter Tryd.func28, Tryd.ntmps28
  go_wp2_with (first | refine wpList_load_hex rfl _ rfl (w.heap.size) 32 rfl Z1 (pt_z hP) ?_ | refine wpList_load_hex rfl _ rfl (w.heap.size + 1) 32 rfl Z2 (pt_z hQ) ?_)
  generalize ((w.alloc _).alloc _).alloc _ = U0 at *
  clear hn1 hn2
  go_wp2_with fail
  have ohR_1 := hR.lt
  have ohF_1 := hF.lt
  have ohP_1 := hP.lt
  have ohQ_1 := hQ.lt
  refine region_facts 14 [] [.val (.pointer (some ⟨g, 0, none⟩)), .val (.pointer (some ⟨w.heap.size, 16, none⟩)), .val (.agg (d16 (Y1))), .val (.pointer (some ⟨w.heap.size + 1, 32, none⟩)), .val (.agg (d16 (Z2))), .val (.agg (d16 (v1))), .val (.pointer (some ⟨g, 0, none⟩)), .val (.pointer (some ⟨w.heap.size, 0, none⟩)), .val (.agg (d16 (X1))), .val (.pointer (some ⟨w.heap.size + 1, 32, none⟩)), .val (.agg (d16 (Z2))), .val (.agg (d16 (v2))), .new 37 (d16 0), .new 37 (d16 0)]
    (by kernel_rfl) (by kernel_rfl) (fun _ _ _ _ _ h => h) ?_ ?_
  · simp only [List.take_succ_cons, List.take_zero, StepsOK]
    refine ⟨?_, ?_, ?_, ?_, ?_, ?_, ?_, ?_, ?_, ?_, ?_, ?_, ?_, ?_, trivial⟩
    · intro v w' hb hf K hKt
      simp only [putAll, Act.put, List.setIfInBounds_toArray, List.set_cons_zero, List.set_cons_succ, Nat.zero_add, Nat.reduceAdd] at hKt ⊢
      go_simp
      exact hKt _ (Below.refl _ _)
    · intro v w' hb hf K hKt
      simp only [putAll, Act.put, List.setIfInBounds_toArray, List.set_cons_zero, List.set_cons_succ, Nat.zero_add, Nat.reduceAdd] at hKt ⊢
      go_simp
      exact hKt _ (Below.refl _ _)
    · intro v w' hb hf K hKt
      have f1 : v 1 = _ := hf ⟨1, .data⟩ (by simp) rfl
      simp only [putAll, Act.put, List.setIfInBounds_toArray, List.set_cons_zero, List.set_cons_succ, Nat.zero_add, Nat.reduceAdd] at hKt ⊢
      rw [f1] at hKt ⊢
      exact wp_load_hex _ rfl (w.heap.size) 16 rfl Y1 (pt_y ((hP.after hb))) (hKt _ (Below.refl _ _))
    · intro v w' hb hf K hKt
      simp only [putAll, Act.put, List.setIfInBounds_toArray, List.set_cons_zero, List.set_cons_succ, Nat.zero_add, Nat.reduceAdd] at hKt ⊢
      go_simp
      exact hKt _ (Below.refl _ _)
    · intro v w' hb hf K hKt
      have f3 : v 3 = _ := hf ⟨3, .data⟩ (by simp) rfl
      simp only [putAll, Act.put, List.setIfInBounds_toArray, List.set_cons_zero, List.set_cons_succ, Nat.zero_add, Nat.reduceAdd] at hKt ⊢
      rw [f3] at hKt ⊢
      exact wp_load_hex _ rfl (w.heap.size + 1) 32 rfl Z2 (pt_z ((hQ.after hb))) (hKt _ (Below.refl _ _))
    · intro v w' hb hf K hKt
      have f0 : v 0 = _ := hf ⟨0, .data⟩ (by simp) rfl
      have f2 : v 2 = _ := hf ⟨2, .data⟩ (by simp) rfl
      have f4 : v 4 = _ := hf ⟨4, .data⟩ (by simp) rfl
      simp only [putAll, Act.put, List.setIfInBounds_toArray, List.set_cons_zero, List.set_cons_succ, Nat.zero_add, Nat.reduceAdd] at hKt ⊢
      rw [f0, f2, f4] at hKt ⊢
      go_simp
      refine (kv1 _ w' (hF.after hb)).mono ?_
      rintro e w'' ⟨rfl, hb2⟩
      exact hKt _ hb2
    · intro v w' hb hf K hKt
      simp only [putAll, Act.put, List.setIfInBounds_toArray, List.set_cons_zero, List.set_cons_succ, Nat.zero_add, Nat.reduceAdd] at hKt ⊢
      go_simp
      exact hKt _ (Below.refl _ _)
    · intro v w' hb hf K hKt
      simp only [putAll, Act.put, List.setIfInBounds_toArray, List.set_cons_zero, List.set_cons_succ, Nat.zero_add, Nat.reduceAdd] at hKt ⊢
      go_simp
      exact hKt _ (Below.refl _ _)
    · intro v w' hb hf K hKt
      have f7 : v 7 = _ := hf ⟨7, .data⟩ (by simp) rfl
      simp only [putAll, Act.put, List.setIfInBounds_toArray, List.set_cons_zero, List.set_cons_succ, Nat.zero_add, Nat.reduceAdd] at hKt ⊢
      rw [f7] at hKt ⊢
      exact wp_load_hex _ rfl (w.heap.size) 0 rfl X1 (pt_x ((hP.after hb))) (hKt _ (Below.refl _ _))
    · intro v w' hb hf K hKt
      simp only [putAll, Act.put, List.setIfInBounds_toArray, List.set_cons_zero, List.set_cons_succ, Nat.zero_add, Nat.reduceAdd] at hKt ⊢
      go_simp
      exact hKt _ (Below.refl _ _)
    · intro v w' hb hf K hKt
      have f9 : v 9 = _ := hf ⟨9, .data⟩ (by simp) rfl
      simp only [putAll, Act.put, List.setIfInBounds_toArray, List.set_cons_zero, List.set_cons_succ, Nat.zero_add, Nat.reduceAdd] at hKt ⊢
      rw [f9] at hKt ⊢
      exact wp_load_hex _ rfl (w.heap.size + 1) 32 rfl Z2 (pt_z ((hQ.after hb))) (hKt _ (Below.refl _ _))
    · intro v w' hb hf K hKt
      have f6 : v 6 = _ := hf ⟨6, .data⟩ (by simp) rfl
      have f8 : v 8 = _ := hf ⟨8, .data⟩ (by simp) rfl
      have f10 : v 10 = _ := hf ⟨10, .data⟩ (by simp) rfl
      simp only [putAll, Act.put, List.setIfInBounds_toArray, List.set_cons_zero, List.set_cons_succ, Nat.zero_add, Nat.reduceAdd] at hKt ⊢
      rw [f6, f8, f10] at hKt ⊢
      go_simp
      refine (kv2 _ w' (hF.after hb)).mono ?_
      rintro e w'' ⟨rfl, hb2⟩
      exact hKt _ hb2
    · exact ⟨rfl, rfl, zeroV16⟩
    · exact ⟨rfl, rfl, zeroV16⟩
  intro v u1 hb hF hD
  have f0 : v 0 = _ := hF 0 (by decide)
  have f1 : v 1 = _ := hF 1 (by decide)
  have f2 : v 2 = _ := hF 2 (by decide)
  have f3 : v 3 = _ := hF 3 (by decide)
  have f4 : v 4 = _ := hF 4 (by decide)
  have f5 : v 5 = _ := hF 5 (by decide)
  have f6 : v 6 = _ := hF 6 (by decide)
  have f7 : v 7 = _ := hF 7 (by decide)
  have f8 : v 8 = _ := hF 8 (by decide)
  have f9 : v 9 = _ := hF 9 (by decide)
  have f10 : v 10 = _ := hF 10 (by decide)
  have f11 : v 11 = _ := hF 11 (by decide)
  obtain ⟨g1_12, f12, hg12, hl12, hz12⟩ := hF 12 (by decide)
  replace hz12 : Has u1 g1_12 37 (d16 0) := hz12
  obtain ⟨g1_13, f13, hg13, hl13, hz13⟩ := hF 13 (by decide)
  replace hz13 : Has u1 g1_13 37 (d16 0) := hz13
  have hne12_13 : g1_12 ≠ g1_13 := fun h => hD 12 13 (by decide) (by decide) (by decide) rfl rfl (by rw [f12, f13, h])
  simp only [List.take_succ_cons, List.take_zero, List.drop_succ_cons, List.drop_zero, putAll, Act.put, List.setIfInBounds_toArray, List.set_cons_zero, List.set_cons_succ, Nat.zero_add, Nat.reduceAdd]
  rw [f0, f1, f2, f3, f4, f5, f6, f7, f8, f9, f10, f11, f12, f13]
  clear hF hD f0 f1 f2 f3 f4 f5 f6 f7 f8 f9 f10 f11 f12 f13
  have hs12 := hz12
  have hs13 := (hz13).farRow (k := g1_12) (by omega) (d16 (v1))
  have hBW := below_setRow (below_setRow (hb) (g := g1_12) hg12 (d16 (v1))) (g := g1_13) hg13 (d16 (v2))
  have hv_v1 := ((hz12).setRow (d16 (v1))).farRow (k := g1_13) (by omega) (d16 (v2))
  have hv_v2 := ((hz13).farRow (k := g1_12) (by omega) (d16 (v1))).setRow (d16 (v2))
  replace hR := hR.after hBW
  replace hF := hF.after hBW
  replace hP := hP.after hBW
  replace hQ := hQ.after hBW
  replace hb0 := below_trans hb0 hBW
  go_wp2_with (first | refine wpList_store_row rfl 37 _ _ rfl g1_12 _ rfl rfl 37 (d16 0) hs12 (info16 _) (by simp only [d16_size]) (tab_oneCell _ _ fun _ => rfl) ?_ | (refine wpList_store_row rfl 37 _ _ rfl g1_13 _ rfl rfl 37 (d16 0) hs13 (info16 _) (by simp only [d16_size]) (tab_oneCell _ _ fun _ => rfl) ?_; generalize hWW : World.setRow _ _ _ = U1 at *; clear hWW))
  clear hBW hb hs12 hz12 hl12 hs13 hz13 hl13
  have ohv_v1_2 := hv_v1.lt
  have ohv_v2_2 := hv_v2.lt
  have ohR_2 := hR.lt
  have ohF_2 := hF.lt
  have ohP_2 := hP.lt
  have ohQ_2 := hQ.lt
  refine region_facts 20 [] [.val (.pointer (some ⟨g, 0, none⟩)), .val (.pointer (some ⟨g, 0, none⟩)), .val (.pointer (some ⟨w.heap.size + 1, 16, none⟩)), .val (.agg (d16 (Y2))), .val (.pointer (some ⟨w.heap.size, 32, none⟩)), .val (.agg (d16 (Z1))), .val (.agg (d16 (v3))), .val (.agg (d16 (v1))), .val (.agg (d16 (v4))), .val (.pointer (some ⟨g, 0, none⟩)), .val (.pointer (some ⟨g, 0, none⟩)), .val (.pointer (some ⟨w.heap.size + 1, 0, none⟩)), .val (.agg (d16 (X2))), .val (.pointer (some ⟨w.heap.size, 32, none⟩)), .val (.agg (d16 (Z1))), .val (.agg (d16 (v5))), .val (.agg (d16 (v2))), .val (.agg (d16 (v6))), .new 37 (d16 0), .new 37 (d16 0)]
    (by kernel_rfl) (by kernel_rfl) (fun _ _ _ _ _ h => h) ?_ ?_
  · simp only [List.take_succ_cons, List.take_zero, StepsOK]
    refine ⟨?_, ?_, ?_, ?_, ?_, ?_, ?_, ?_, ?_, ?_, ?_, ?_, ?_, ?_, ?_, ?_, ?_, ?_, ?_, ?_, trivial⟩
    · intro v w' hb hf K hKt
      simp only [putAll, Act.put, List.setIfInBounds_toArray, List.set_cons_zero, List.set_cons_succ, Nat.zero_add, Nat.reduceAdd] at hKt ⊢
      go_simp
      exact hKt _ (Below.refl _ _)
    · intro v w' hb hf K hKt
      simp only [putAll, Act.put, List.setIfInBounds_toArray, List.set_cons_zero, List.set_cons_succ, Nat.zero_add, Nat.reduceAdd] at hKt ⊢
      go_simp
      exact hKt _ (Below.refl _ _)
    · intro v w' hb hf K hKt
      simp only [putAll, Act.put, List.setIfInBounds_toArray, List.set_cons_zero, List.set_cons_succ, Nat.zero_add, Nat.reduceAdd] at hKt ⊢
      go_simp
      exact hKt _ (Below.refl _ _)
    · intro v w' hb hf K hKt
      have f2 : v 2 = _ := hf ⟨2, .data⟩ (by simp) rfl
      simp only [putAll, Act.put, List.setIfInBounds_toArray, List.set_cons_zero, List.set_cons_succ, Nat.zero_add, Nat.reduceAdd] at hKt ⊢
      rw [f2] at hKt ⊢
      exact wp_load_hex _ rfl (w.heap.size + 1) 16 rfl Y2 (pt_y ((hQ.after hb))) (hKt _ (Below.refl _ _))
    · intro v w' hb hf K hKt
      simp only [putAll, Act.put, List.setIfInBounds_toArray, List.set_cons_zero, List.set_cons_succ, Nat.zero_add, Nat.reduceAdd] at hKt ⊢
      go_simp
      exact hKt _ (Below.refl _ _)
    · intro v w' hb hf K hKt
      have f4 : v 4 = _ := hf ⟨4, .data⟩ (by simp) rfl
      simp only [putAll, Act.put, List.setIfInBounds_toArray, List.set_cons_zero, List.set_cons_succ, Nat.zero_add, Nat.reduceAdd] at hKt ⊢
      rw [f4] at hKt ⊢
      exact wp_load_hex _ rfl (w.heap.size) 32 rfl Z1 (pt_z ((hP.after hb))) (hKt _ (Below.refl _ _))
    · intro v w' hb hf K hKt
      have f1 : v 1 = _ := hf ⟨1, .data⟩ (by simp) rfl
      have f3 : v 3 = _ := hf ⟨3, .data⟩ (by simp) rfl
      have f5 : v 5 = _ := hf ⟨5, .data⟩ (by simp) rfl
      simp only [putAll, Act.put, List.setIfInBounds_toArray, List.set_cons_zero, List.set_cons_succ, Nat.zero_add, Nat.reduceAdd] at hKt ⊢
      rw [f1, f3, f5] at hKt ⊢
      go_simp
      refine (kv3 _ w' (hF.after hb)).mono ?_
      rintro e w'' ⟨rfl, hb2⟩
      exact hKt _ hb2
    · intro v w' hb hf K hKt
      simp only [putAll, Act.put, List.setIfInBounds_toArray, List.set_cons_zero, List.set_cons_succ, Nat.zero_add, Nat.reduceAdd] at hKt ⊢
      exact wp_load_row 37 _ rfl (g1_12) rfl 37 _ (0, 0) _ (hv_v1.after hb) Tryd.underlying37 rfl (info16 _) (hKt _ (Below.refl _ _))
    · intro v w' hb hf K hKt
      have f0 : v 0 = _ := hf ⟨0, .data⟩ (by simp) rfl
      have f6 : v 6 = _ := hf ⟨6, .data⟩ (by simp) rfl
      have f7 : v 7 = _ := hf ⟨7, .data⟩ (by simp) rfl
      simp only [putAll, Act.put, List.setIfInBounds_toArray, List.set_cons_zero, List.set_cons_succ, Nat.zero_add, Nat.reduceAdd] at hKt ⊢
      rw [f0, f6, f7] at hKt ⊢
      go_simp
      refine (kv4 _ w' (hF.after hb)).mono ?_
      rintro e w'' ⟨rfl, hb2⟩
      exact hKt _ hb2
    · intro v w' hb hf K hKt
      simp only [putAll, Act.put, List.setIfInBounds_toArray, List.set_cons_zero, List.set_cons_succ, Nat.zero_add, Nat.reduceAdd] at hKt ⊢
      go_simp
      exact hKt _ (Below.refl _ _)
    · intro v w' hb hf K hKt
      simp only [putAll, Act.put, List.setIfInBounds_toArray, List.set_cons_zero, List.set_cons_succ, Nat.zero_add, Nat.reduceAdd] at hKt ⊢
      go_simp
      exact hKt _ (Below.refl _ _)
    · intro v w' hb hf K hKt
      simp only [putAll, Act.put, List.setIfInBounds_toArray, List.set_cons_zero, List.set_cons_succ, Nat.zero_add, Nat.reduceAdd] at hKt ⊢
      go_simp
      exact hKt _ (Below.refl _ _)
    · intro v w' hb hf K hKt
      have f11 : v 11 = _ := hf ⟨11, .data⟩ (by simp) rfl
      simp only [putAll, Act.put, List.setIfInBounds_toArray, List.set_cons_zero, List.set_cons_succ, Nat.zero_add, Nat.reduceAdd] at hKt ⊢
      rw [f11] at hKt ⊢
      exact wp_load_hex _ rfl (w.heap.size + 1) 0 rfl X2 (pt_x ((hQ.after hb))) (hKt _ (Below.refl _ _))
    · intro v w' hb hf K hKt
      simp only [putAll, Act.put, List.setIfInBounds_toArray, List.set_cons_zero, List.set_cons_succ, Nat.zero_add, Nat.reduceAdd] at hKt ⊢
      go_simp
      exact hKt _ (Below.refl _ _)
    · intro v w' hb hf K hKt
      have f13 : v 13 = _ := hf ⟨13, .data⟩ (by simp) rfl
      simp only [putAll, Act.put, List.setIfInBounds_toArray, List.set_cons_zero, List.set_cons_succ, Nat.zero_add, Nat.reduceAdd] at hKt ⊢
      rw [f13] at hKt ⊢
      exact wp_load_hex _ rfl (w.heap.size) 32 rfl Z1 (pt_z ((hP.after hb))) (hKt _ (Below.refl _ _))
    · intro v w' hb hf K hKt
      have f10 : v 10 = _ := hf ⟨10, .data⟩ (by simp) rfl
      have f12 : v 12 = _ := hf ⟨12, .data⟩ (by simp) rfl
      have f14 : v 14 = _ := hf ⟨14, .data⟩ (by simp) rfl
      simp only [putAll, Act.put, List.setIfInBounds_toArray, List.set_cons_zero, List.set_cons_succ, Nat.zero_add, Nat.reduceAdd] at hKt ⊢
      rw [f10, f12, f14] at hKt ⊢
      go_simp
      refine (kv5 _ w' (hF.after hb)).mono ?_
      rintro e w'' ⟨rfl, hb2⟩
      exact hKt _ hb2
    · intro v w' hb hf K hKt
      simp only [putAll, Act.put, List.setIfInBounds_toArray, List.set_cons_zero, List.set_cons_succ, Nat.zero_add, Nat.reduceAdd] at hKt ⊢
      exact wp_load_row 37 _ rfl (g1_13) rfl 37 _ (0, 0) _ (hv_v2.after hb) Tryd.underlying37 rfl (info16 _) (hKt _ (Below.refl _ _))
    · intro v w' hb hf K hKt
      have f9 : v 9 = _ := hf ⟨9, .data⟩ (by simp) rfl
      have f15 : v 15 = _ := hf ⟨15, .data⟩ (by simp) rfl
      have f16 : v 16 = _ := hf ⟨16, .data⟩ (by simp) rfl
      simp only [putAll, Act.put, List.setIfInBounds_toArray, List.set_cons_zero, List.set_cons_succ, Nat.zero_add, Nat.reduceAdd] at hKt ⊢
      rw [f9, f15, f16] at hKt ⊢
      go_simp
      refine (kv6 _ w' (hF.after hb)).mono ?_
      rintro e w'' ⟨rfl, hb2⟩
      exact hKt _ hb2
    · exact ⟨rfl, rfl, zeroV16⟩
    · exact ⟨rfl, rfl, zeroV16⟩
  intro v u2 hb hF hD
  have f0 : v 0 = _ := hF 0 (by decide)
  have f1 : v 1 = _ := hF 1 (by decide)
  have f2 : v 2 = _ := hF 2 (by decide)
  have f3 : v 3 = _ := hF 3 (by decide)
  have f4 : v 4 = _ := hF 4 (by decide)
  have f5 : v 5 = _ := hF 5 (by decide)
  have f6 : v 6 = _ := hF 6 (by decide)
  have f7 : v 7 = _ := hF 7 (by decide)
  have f8 : v 8 = _ := hF 8 (by decide)
  have f9 : v 9 = _ := hF 9 (by decide)
  have f10 : v 10 = _ := hF 10 (by decide)
  have f11 : v 11 = _ := hF 11 (by decide)
  have f12 : v 12 = _ := hF 12 (by decide)
  have f13 : v 13 = _ := hF 13 (by decide)
  have f14 : v 14 = _ := hF 14 (by decide)
  have f15 : v 15 = _ := hF 15 (by decide)
  have f16 : v 16 = _ := hF 16 (by decide)
  have f17 : v 17 = _ := hF 17 (by decide)
  obtain ⟨g2_18, f18, hg18, hl18, hz18⟩ := hF 18 (by decide)
  replace hz18 : Has u2 g2_18 37 (d16 0) := hz18
  obtain ⟨g2_19, f19, hg19, hl19, hz19⟩ := hF 19 (by decide)
  replace hz19 : Has u2 g2_19 37 (d16 0) := hz19
  have hne18_19 : g2_18 ≠ g2_19 := fun h => hD 18 19 (by decide) (by decide) (by decide) rfl rfl (by rw [f18, f19, h])
  simp only [List.take_succ_cons, List.take_zero, List.drop_succ_cons, List.drop_zero, putAll, Act.put, List.setIfInBounds_toArray, List.set_cons_zero, List.set_cons_succ, Nat.zero_add, Nat.reduceAdd]
  rw [f0, f1, f2, f3, f4, f5, f6, f7, f8, f9, f10, f11, f12, f13, f14, f15, f16, f17, f18, f19]
  clear hF hD f0 f1 f2 f3 f4 f5 f6 f7 f8 f9 f10 f11 f12 f13 f14 f15 f16 f17 f18 f19
  have hs18 := hz18
  have hs19 := (hz19).farRow (k := g2_18) (by omega) (d16 (v4))
  have hBW := below_setRow (below_setRow (hb) (g := g2_18) hg18 (d16 (v4))) (g := g2_19) hg19 (d16 (v6))
  have hv_v4 := ((hz18).setRow (d16 (v4))).farRow (k := g2_19) (by omega) (d16 (v6))
  have hv_v6 := ((hz19).farRow (k := g2_18) (by omega) (d16 (v4))).setRow (d16 (v6))
  replace hv_v1 := hv_v1.after hBW
  replace hv_v2 := hv_v2.after hBW
  replace hR := hR.after hBW
  replace hF := hF.after hBW
  replace hP := hP.after hBW
  replace hQ := hQ.after hBW
  replace hb0 := below_trans hb0 hBW
  go_wp2_with (first | refine wpList_store_row rfl 37 _ _ rfl g2_18 _ rfl rfl 37 (d16 0) hs18 (info16 _) (by simp only [d16_size]) (tab_oneCell _ _ fun _ => rfl) ?_ | (refine wpList_store_row rfl 37 _ _ rfl g2_19 _ rfl rfl 37 (d16 0) hs19 (info16 _) (by simp only [d16_size]) (tab_oneCell _ _ fun _ => rfl) ?_; generalize hWW : World.setRow _ _ _ = U2 at *; clear hWW) | refine wpList_load_has 37 _ rfl _ rfl rfl 37 _ hv_v6 _ Tryd.underlying37 rfl (info16 _) ?_ | refine wpList_load_has 37 _ rfl _ rfl rfl 37 _ hv_v4 _ Tryd.underlying37 rfl (info16 _) ?_ | refine wpList_parts rfl 39 _ rfl #[(0, .agg (d16 1)), (1, .agg (d16 1)), (2, .agg (d16 0))] (by simp only [List.map_toArray, List.map_cons, List.map_nil]; rfl) (.agg (ptC 1 1 0)) (buildPt 1 1 0) ?_ | refine wpList_store_row rfl 39 _ _ rfl (w.heap.size + 1 + 1) _ rfl rfl 39 _ hR (infoPt _ _ _) (by simp only [ptC_size]) (tab_oneCell _ _ fun _ => rfl) ?_)
  clear hBW hb hs18 hz18 hl18 hs19 hz19 hl19
  exact bodyPost_ret (v := .agg (ptC 1 1 0)) (results_cell_row rfl _ _ (w.heap.size + 1 + 1) 39 _ _ _ rfl (hR.setRow _) Tryd.underlying39 rfl (infoPt _ _ _)) rfl ⟨rfl, below_setRow hb0 (by omega) _⟩
set_option maxRecDepth 100000 in
set_option maxHeartbeats 4000000 in
theorem double_z (X Y g : Nat) (w : World) : Calls Tryd.prog 56 #[.pointer (some ⟨g, 0, none⟩), .agg (ptC X Y 0)] w fun e w' => e = .returned (.agg (ptC X Y 0)) ∧ Below w.heap.size w w' := by
  obtain ⟨Z, hZ⟩ : ∃ Z : Nat, Z = 0 := ⟨_, rfl⟩
  rw [← hZ]
  have hz : ∀ W, (binOp .eql 37 (.agg (d16 Z)) (.agg (d16 0))).run Tryd.prog W = .ok (.bool true) W := fun W => by rw [hZ]; exact hexZ W
  clear hZ
  have n0 := d16_ne 0
  have hP : Has ((w.alloc (.cells (ptC X Y Z) 39)).alloc (.cells (ptC 0 0 0) 39)) w.heap.size 39 (ptC X Y Z) := (Has.new w _ _).alloc _
  have hR : Has ((w.alloc (.cells (ptC X Y Z) 39)).alloc (.cells (ptC 0 0 0) 39)) (w.heap.size + 1) 39 (ptC 0 0 0) := Has.new' (by simp)
  have hb0 : Below w.heap.size w ((w.alloc (.cells (ptC X Y Z) 39)).alloc (.cells (ptC 0 0 0) 39)) := ((Below.refl _ _).alloc (Nat.le_refl _) _).alloc (by simp) _
  go_enter Tryd.func56, Tryd.ntmps56
  go_wp2_with (first | refine wpList_load_hex rfl _ rfl (w.heap.size) 32 rfl Z (pt_z hP) ?_ | refine wpList_load_has 39 _ rfl _ rfl rfl 39 _ hP _ Tryd.underlying39 rfl (infoPt _ _ _) ?_ | refine wpList_store_row rfl 39 _ _ rfl (w.heap.size + 1) _ rfl rfl 39 _ hR (infoPt _ _ _) (by simp only [ptC_size]) (tab_oneCell _ _ fun _ => rfl) ?_)
  exact bodyPost_ret (v := .agg (ptC X Y Z)) (results_cell_row rfl _ _ (w.heap.size + 1) 39 _ _ _ rfl (hR.setRow _) Tryd.underlying39 rfl (infoPt _ _ _)) rfl ⟨rfl, below_setRow hb0 (by omega) _⟩
/-- three numbers: a point as quotients -/
structure T3 where
  x : Nat
  y : Nat
  z : Nat
def T3.ok (m : Nat) (t : T3) : Prop := t.x < m ∧ t.y < m ∧ t.z < m
def T3.is (t : T3) (P : Ec.Pnt) : Prop := Ec.Rep (Ec.c t.x) (Ec.c t.y) (Ec.c t.z) P
abbrev T3.v (t : T3) : Value := .agg (ptC t.x t.y t.z)
theorem c0 : Ec.c 0 = 0 := rfl
theorem T3.none_of {t : T3} {P : Ec.Pnt} (hz : t.z = 0) (h : t.is P) : P = none := by
  match P with
  | none => rfl
  | some (x, y) => exact absurd (by rw [hz]; rfl) h.1
/-- what Double answers -/
def DblIs (m : Nat) (t t' : T3) : Prop := t'.ok m ∧ (∀ P, t.is P → t'.is (Ec.plus P P)) ∧
  ∀ g w, IsField w g m → Calls Tryd.prog 56 #[.pointer (some ⟨g, 0, none⟩), t.v] w fun e w' => e = .returned t'.v ∧ Below w.heap.size w w'
theorem dbl_ex {m : Nat} (hm : FldOK m) (hmp : m = Ec.pp) (t : T3) (ht : t.ok m) : ∃ t', DblIs m t t' := by
  obtain ⟨h1, h2, h3⟩ := ht
  by_cases hz : t.z = 0
  · refine ⟨t, ⟨h1, h2, h3⟩, fun P hP => ?_, fun g w hF => ?_⟩
    · obtain rfl := T3.none_of hz hP
      exact hP
    · obtain ⟨x, y, z⟩ := t
      obtain rfl : z = 0 := hz
      exact double_z x y g w
  · obtain ⟨X', Y', Z', l1, l2, l3, hr, hc⟩ := double_nz t.x t.y t.z m hm hmp h1 h2 h3 hz
    exact ⟨⟨X', Y', Z'⟩, ⟨l1, l2, l3⟩, hr, hc⟩
/-- what Plus answers -/
def SumIs (m : Nat) (s t r : T3) : Prop := r.ok m ∧ (∀ P Q, Ec.OnP P → Ec.OnP Q → s.is P → t.is Q → r.is (Ec.plus P Q)) ∧
  ∀ g w, IsField w g m → Calls Tryd.prog 28 #[.pointer (some ⟨g, 0, none⟩), s.v, t.v] w fun e w' => e = .returned r.v ∧ Below w.heap.size w w'
theorem sum_ex {m : Nat} (hm : FldOK m) (hmp : m = Ec.pp) (s t : T3) (hs : s.ok m) (ht : t.ok m) : ∃ r, SumIs m s t r := by
  obtain ⟨h1, h2, h3⟩ := hs
  obtain ⟨k1, k2, k3⟩ := ht
  by_cases hz1 : s.z = 0
  · refine ⟨t, ⟨k1, k2, k3⟩, fun P Q _ _ hP hQ => ?_, fun g w hF => ?_⟩
    · obtain rfl := T3.none_of hz1 hP
      exact hQ
    · obtain ⟨x, y, z⟩ := s
      obtain rfl : z = 0 := hz1
      exact plus_z1 x y t.x t.y t.z g m w hF
  by_cases hz2 : t.z = 0
  · refine ⟨s, ⟨h1, h2, h3⟩, fun P Q _ _ hP hQ => ?_, fun g w hF => ?_⟩
    · obtain rfl := T3.none_of hz2 hQ
      have e : Ec.plus P none = P := Ec.add_none _ _
      rw [e]
      exact hP
    · obtain ⟨x, y, z⟩ := t
      obtain rfl : z = 0 := hz2
      exact plus_z2 s.x s.y s.z x y g m w hF hm h3 hz1
  have z1 : Ec.c s.z ≠ 0 := Ec.c_zero (by rw [← hmp]; exact h3) hz1
  have z2 : Ec.c t.z ≠ 0 := Ec.c_zero (by rw [← hmp]; exact k3) hz2
  have hlt : ∀ x, x % m < m := fun x => Nat.mod_lt _ hm.1
  have ev : Ec.c ((t.x * s.z % m + (m - s.x * t.z % m)) % m) = Ec.c t.x * Ec.c s.z - Ec.c s.x * Ec.c t.z := by rw [cs hmp _ _ (Nat.le_of_lt (hlt _)), cm hmp, cm hmp]
  have eu : Ec.c ((t.y * s.z % m + (m - s.y * t.z % m)) % m) = Ec.c t.y * Ec.c s.z - Ec.c s.y * Ec.c t.z := by rw [cs hmp _ _ (Nat.le_of_lt (hlt _)), cm hmp, cm hmp]
  by_cases hv : (t.x * s.z % m + (m - s.x * t.z % m)) % m = 0
  · have ev0 : Ec.c t.x * Ec.c s.z - Ec.c s.x * Ec.c t.z = 0 := by rw [← ev, hv]; rfl
    by_cases hu : (t.y * s.z % m + (m - s.y * t.z % m)) % m = 0
    · have eu0 : Ec.c t.y * Ec.c s.z - Ec.c s.y * Ec.c t.z = 0 := by rw [← eu, hu]; rfl
      obtain ⟨d, hd1, hd2, hd3⟩ := dbl_ex hm hmp s ⟨h1, h2, h3⟩
      refine ⟨d, hd1, fun P Q _ _ hP hQ => ?_, fun g w hF => plus_same s.x s.y s.z t.x t.y t.z m hm hmp h1 h2 h3 k1 k2 k3 hz1 hz2 hv hu d.x d.y d.z g w hF hd3⟩
      obtain rfl := Ec.rep_same hP hQ z1 z2 ev0 eu0
      exact hd2 P hP
    · have eu0 : Ec.c t.y * Ec.c s.z - Ec.c s.y * Ec.c t.z ≠ 0 := by rw [← eu]; exact Ec.c_zero (by rw [← hmp]; exact hlt _) hu
      have h1m : 1 < m := by rw [hmp]; decide
      refine ⟨⟨1, 1, 0⟩, ⟨h1m, h1m, hm.1⟩, fun P Q oP oQ hP hQ => ?_, fun g w hF => plus_opp s.x s.y s.z t.x t.y t.z m hm hmp h1 h2 h3 k1 k2 k3 hz1 hz2 hv hu g w hF⟩
      rw [Ec.rep_opp hP hQ z1 z2 ev0 eu0 oP oQ]
      rfl
  · obtain ⟨X', Y', Z', l1, l2, l3, hr, hc⟩ := plus_ne s.x s.y s.z t.x t.y t.z m hm hmp h1 h2 h3 k1 k2 k3 hz1 hz2 hv
    exact ⟨⟨X', Y', Z'⟩, ⟨l1, l2, l3⟩, fun P Q _ _ hP hQ => hr P Q hP hQ, hc⟩
instance : Nonempty T3 := ⟨⟨0, 0, 0⟩⟩
noncomputable def dblT (m : Nat) (t : T3) : T3 := Classical.epsilon (DblIs m t)
noncomputable def sumT (m : Nat) (s t : T3) : T3 := Classical.epsilon (SumIs m s t)
theorem dblT_is {m : Nat} (hm : FldOK m) (hmp : m = Ec.pp) {t : T3} (ht : t.ok m) : DblIs m t (dblT m t) := Classical.epsilon_spec (dbl_ex hm hmp t ht)
theorem sumT_is {m : Nat} (hm : FldOK m) (hmp : m = Ec.pp) {s t : T3} (hs : s.ok m) (ht : t.ok m) : SumIs m s t (sumT m s t) := Classical.epsilon_spec (sum_ex hm hmp s t hs ht)
end Go.Proofs.YtflkhlhpifmocaaDoor
namespace Go.Proofs.YtflkhlhpifmocaaDoor
open Go.RowKit

/-- the point doubled so often; the sum of those whose bits are set -/
noncomputable def dblS (m : Nat) (t : T3) : Nat → T3
  | 0 => t
  | k + 1 => dblT m (dblS m t k)
noncomputable def sumS (m n : Nat) (t : T3) : Nat → T3
  | 0 => ⟨0, 1, 0⟩
  | k + 1 => if bitA n k = 1 then sumT m (sumS m n t k) (dblS m t k) else sumS m n t k
theorem one_lt {m : Nat} (hmp : m = Ec.pp) : 1 < m := by rw [hmp]; decide
theorem dblS_ok {m : Nat} (hm : FldOK m) (hmp : m = Ec.pp) {t : T3} (ht : t.ok m) : ∀ k, (dblS m t k).ok m
  | 0 => ht
  | k + 1 => (dblT_is hm hmp (dblS_ok hm hmp ht k)).1
theorem sumS_ok {m n : Nat} (hm : FldOK m) (hmp : m = Ec.pp) {t : T3} (ht : t.ok m) : ∀ k, (sumS m n t k).ok m
  | 0 => ⟨hm.1, one_lt hmp, hm.1⟩
  | k + 1 => by
    unfold sumS
    split
    · exact (sumT_is hm hmp (sumS_ok hm hmp ht k) (dblS_ok hm hmp ht k)).1
    · exact sumS_ok hm hmp ht k
theorem dblS_is {m : Nat} (hm : FldOK m) (hmp : m = Ec.pp) {t : T3} (ht : t.ok m) {P : Ec.Pnt} (hP : Ec.OnP P) (h : t.is P) : ∀ k, (dblS m t k).is (Ec.smul (2 ^ k) P)
  | 0 => by rw [Nat.pow_zero]; exact h
  | k + 1 => by
    rw [Nat.pow_succ, Nat.mul_comm, Ec.smul_two hP]
    exact (dblT_is hm hmp (dblS_ok hm hmp ht k)).2.1 _ (dblS_is hm hmp ht hP h k)
theorem sumS_is {m n : Nat} (hm : FldOK m) (hmp : m = Ec.pp) {t : T3} (ht : t.ok m) {P : Ec.Pnt} (hP : Ec.OnP P) (h : t.is P) : ∀ k, (sumS m n t k).is (Ec.smul (n % 2 ^ k) P)
  | 0 => by rw [Nat.pow_zero, Nat.mod_one]; rfl
  | k + 1 => by
    have e : n % 2 ^ (k + 1) = n % 2 ^ k + 2 ^ k * bitA n k := mod_step 2 n k
    have ih := sumS_is (n := n) hm hmp ht hP h k
    unfold sumS
    rw [e]
    rcases bitA_01 n k with hb | hb
    · rw [hb, if_neg (by decide), Nat.mul_zero, Nat.add_zero]
      exact ih
    · rw [hb, if_pos rfl, Nat.mul_one, Ec.smul_add hP]
      exact (sumT_is hm hmp (sumS_ok hm hmp ht k) (dblS_ok hm hmp ht k)).2.1 _ _ (Ec.smul_on hP _) (Ec.smul_on hP _) ih (dblS_is hm hmp ht hP h k)
theorem sumS_one {m n : Nat} {t : T3} {k : Nat} (h : bitA n k = 1) : sumS m n t (k + 1) = sumT m (sumS m n t k) (dblS m t k) := if_pos h
theorem sumS_nil {m n : Nat} {t : T3} {k : Nat} (h : bitA n k = 0) : sumS m n t (k + 1) = sumS m n t k := if_neg (by rw [h]; decide)
set_option maxRecDepth 100000 in
theorem buildPt1 (W : World) : (Instr.build 39 #[(1, .agg (d16 1))]).run Tryd.prog W = .ok (.agg (ptC 0 1 0)) W := by kernel_rfl
attribute [local go_sem] zero16 zero48 one16
set_option maxRecDepth 100000 in
set_option maxHeartbeats 4000000 in
theorem times_any (n m g : Nat) (t : T3) (w : World) (hm : FldOK m) (hmp : m = Ec.pp) (ht : t.ok m) (hF : IsField w g m) :
    Calls Tryd.prog 29 #[.pointer (some ⟨g, 0, none⟩), .agg (d16 n), t.v] w fun e w' => e = .returned (sumS m n t 256).v ∧ Below w.heap.size w w' := by
  have HD := Lib.hid (fun k W h => (dblT_is hm hmp (dblS_ok hm hmp ht k)).2.2 g W h)
  have HS := Lib.hid (fun k W h => (sumT_is hm hmp (sumS_ok (n := n) hm hmp ht k) (dblS_ok hm hmp ht k)).2.2 g W h)
  have hd : ∀ k, dblT m (dblS m t k) = dblS m t (k + 1) := fun k => rfl
  simp only [hd] at HD
  have H1 := Lib.hid (fun k h => sumS_one (m := m) (n := n) (t := t) (k := k) h)
  have H0 := Lib.hid (fun k h => sumS_nil (m := m) (n := n) (t := t) (k := k) h)
  have hz : sumS m n t 0 = ⟨0, 1, 0⟩ := rfl
  have hz2 : dblS m t 0 = t := rfl
  have HZ := Lib.hid (And.intro hz hz2)
  clear hm hmp ht hd hz hz2
  generalize sumS m n t = R at *
  generalize dblS m t = D at *
  generalize sumT m = SM at *
  have n0 := d16_ne 0
  have hN : Has (((w.alloc (.cells (d16 n) 37)).alloc (.cells (ptC t.x t.y t.z) 39)).alloc (.cells (ptC 0 0 0) 39)) w.heap.size 37 (d16 n) := ((Has.new w _ _).alloc _).alloc _
  have hP : Has (((w.alloc (.cells (d16 n) 37)).alloc (.cells (ptC t.x t.y t.z) 39)).alloc (.cells (ptC 0 0 0) 39)) (w.heap.size + 1) 39 (ptC t.x t.y t.z) := (Has.new' (by simp)).alloc _
  have hR : Has (((w.alloc (.cells (d16 n) 37)).alloc (.cells (ptC t.x t.y t.z) 39)).alloc (.cells (ptC 0 0 0) 39)) (w.heap.size + 1 + 1) 39 (ptC 0 0 0) := Has.new' (by simp)
  have hb : Below w.heap.size w (((w.alloc (.cells (d16 n) 37)).alloc (.cells (ptC t.x t.y t.z) 39)).alloc (.cells (ptC 0 0 0) 39)) := (((Below.refl _ _).alloc (Nat.le_refl _) _).alloc (by simp) _).alloc (by simp <;> omega) _
  have hg := hF.lt
  replace hF := hF.after hb
  have hp1 := put_at (((w.alloc (.cells (d16 n) 37)).alloc (.cells (ptC t.x t.y t.z) 39)).alloc (.cells (ptC 0 0 0) 39)) 39 (ptC 0 0 0) (ptC 0 1 0) (w.heap.size + 1 + 1 + 1) (by simp)
  replace hN := hN.after hp1.2
  replace hP := hP.after hp1.2
  replace hR := hR.after hp1.2
  replace hF := hF.after hp1.2
  replace hb := below_trans hb hp1.2
  have hQ := hp1.1
  clear hp1
  go_enter Tryd.func29, Tryd.ntmps29
  go_wp2_with (first | refine wpList_parts rfl 39 _ rfl #[(1, .agg (d16 1))] (by simp only [List.map_toArray, List.map_cons, List.map_nil]; rfl) (.agg (ptC 0 1 0)) buildPt1 ?_ | (refine wpList_store_row rfl 39 _ _ rfl (w.heap.size + 1 + 1 + 1) _ rfl rfl 39 (ptC 0 0 0) (Has.new' (by simp)) (infoPt _ _ _) (by simp only [ptC_size]) (tab_oneCell _ _ fun _ => rfl) ?_; generalize hWW : World.setRow _ (w.heap.size + 1 + 1 + 1) _ = W at *; clear hWW))
  go_loopw [8] (fun vi wr => ∃ k : Nat, k ≤ 256 ∧ vi = .int .i64 (k : Int) ∧ Has wr w.heap.size 37 (d16 n) ∧ Has wr (w.heap.size + 1) 39 (ptC (D k).x (D k).y (D k).z) ∧ Has wr (w.heap.size + 1 + 1) 39 (ptC 0 0 0) ∧ Has wr (w.heap.size + 1 + 1 + 1) 39 (ptC (R k).x (R k).y (R k).z) ∧ IsField wr g m ∧ g < w.heap.size ∧ Below w.heap.size w wr) (fun vi _ => 256 - (intOf vi).toNat)
  case atStart => exact ⟨0, by omega, rfl, hN, by rw [HZ.out.2]; exact hP, hR, by rw [HZ.out.1]; exact hQ, hF, hg, hb⟩
  case round =>
    clear hN hP hR hQ hF hb hg
    obtain ⟨k, hk, rfl, hN, hP, hR, hQ, hF, hg, hb⟩ := hrel
    by_cases hlt : k < 256
    · have dk : (k : Int) < 256 := by omega
      obtain ⟨ja, hja⟩ : ∃ a, a = k / 16 := ⟨_, rfl⟩
      obtain ⟨jb, hjb⟩ : ∃ b, b = k % 16 := ⟨_, rfl⟩
      have q1 : (k : Int).tdiv 16 = (ja : Int) := by rw [Int.tdiv_eq_ediv_of_nonneg (by omega)]; omega
      have q2 : (k : Int) / 16 = (ja : Int) := by omega
      have q3 : (k : Int).tmod 16 = (jb : Int) := by rw [Int.tmod_eq_emod_of_nonneg (by omega)]; omega
      have q4 : (k : Int) % 16 = (jb : Int) := by omega
      have q5 : (ja : Int) < 16 := by omega
      have q6 : (jb : Int) < 64 := by omega
      have q7 : min jb 64 = jb := Nat.min_eq_left (by omega)
      have q8 : IntKind.i64.wrap (ja : Int) = (ja : Int) := IntWalk.i64_in _ (by omega)
      have c1 := d16_at hN ja (by omega)
      have hbit := bit_hex n k
      rw [← hja, ← hjb] at hbit
      obtain ⟨s, hs⟩ : ∃ s : Int, s = ((hxd n ja : Nat) : Int) / 2 ^ jb := ⟨_, rfl⟩
      have hs0 : 0 ≤ s := by rw [hs]; exact Int.ediv_nonneg (by omega) (Int.le_of_lt (Int.pow_pos (by decide)))
      have q9 : ((hxd n ja : Nat) : Int) / 2 ^ jb = s := hs.symm
      rw [← hs] at hbit
      have cD := fun W h => HD.out k W h
      have cS := fun W h => HS.out k W h
      have e1 := H1.out k
      have e0 := H0.out k
      generalize hdn : D (k + 1) = dn at *
      have HDN := Lib.hid hdn
      clear hdn
      generalize D k = dk1 at *
      rcases bitA_01 n k with hbt | hbt
      · rw [hbt] at hbit
        have b1 : s % 2 = 0 := hbit
        have b2 : s.tmod 2 = 0 := by rw [Int.tmod_eq_emod_of_nonneg hs0]; exact b1
        have HE := Lib.hid (e0 hbt)
        clear e0 e1 hbt hbit hja hjb hs cS
        go_wp2_with (first | refine wpList_load_has 39 _ rfl _ rfl rfl 39 _ hP _ Tryd.underlying39 rfl (infoPt _ _ _) ?_)
        refine (cD _ hF).mono ?_
        rintro z w2 ⟨rfl, hx⟩
        replace hN := hN.after hx; replace hP := hP.after hx; replace hR := hR.after hx; replace hQ := hQ.after hx; replace hF := hF.after hx; replace hb := below_trans hb hx
        have hold := hP; replace hN := hN.farRow (k := w.heap.size + 1) (by omega) (ptC dn.x dn.y dn.z); replace hP := hP.setRow (ptC dn.x dn.y dn.z); replace hR := hR.farRow (k := w.heap.size + 1) (by omega) (ptC dn.x dn.y dn.z); replace hQ := hQ.farRow (k := w.heap.size + 1) (by omega) (ptC dn.x dn.y dn.z); replace hF := hF.farRow (k := w.heap.size + 1) (by omega) (ptC dn.x dn.y dn.z); replace hb := below_setRow hb (g := w.heap.size + 1) (by omega) (ptC dn.x dn.y dn.z)
        clear c1 cD hx
        go_wp2_with (first | refine wpList_store_row rfl 39 _ _ rfl (w.heap.size + 1) _ rfl rfl 39 _ hold (infoPt _ _ _) (by simp only [ptC_size]) (tab_oneCell _ _ fun _ => rfl) ?_)
        go_roundw
        case rel => exact ⟨k + 1, by omega, by go_num, hN, by rw [HDN.out]; exact hP, hR, by rw [HE.out]; exact hQ, hF, hg, hb⟩
        case measure => simp [intOf]; omega
      · rw [hbt] at hbit
        have b1 : s % 2 = 1 := hbit
        have b2 : s.tmod 2 = 1 := by rw [Int.tmod_eq_emod_of_nonneg hs0]; exact b1
        have HE := Lib.hid (e1 hbt)
        clear e0 e1 hbt hbit hja hjb hs
        generalize SM (R k) dk1 = rn at *
        go_wp2_with (first | refine wpList_load_has 39 _ rfl _ rfl rfl 39 _ hQ _ Tryd.underlying39 rfl (infoPt _ _ _) ?_ | refine wpList_load_has 39 _ rfl _ rfl rfl 39 _ hP _ Tryd.underlying39 rfl (infoPt _ _ _) ?_)
        refine (cS _ hF).mono ?_
        rintro z w2 ⟨rfl, hx⟩
        replace hN := hN.after hx; replace hP := hP.after hx; replace hR := hR.after hx; replace hQ := hQ.after hx; replace hF := hF.after hx; replace hb := below_trans hb hx
        have hold := hQ; replace hN := hN.farRow (k := w.heap.size + 1 + 1 + 1) (by omega) (ptC rn.x rn.y rn.z); replace hP := hP.farRow (k := w.heap.size + 1 + 1 + 1) (by omega) (ptC rn.x rn.y rn.z); replace hR := hR.farRow (k := w.heap.size + 1 + 1 + 1) (by omega) (ptC rn.x rn.y rn.z); replace hQ := hQ.setRow (ptC rn.x rn.y rn.z); replace hF := hF.farRow (k := w.heap.size + 1 + 1 + 1) (by omega) (ptC rn.x rn.y rn.z); replace hb := below_setRow hb (g := w.heap.size + 1 + 1 + 1) (by omega) (ptC rn.x rn.y rn.z)
        clear c1 cS hx
        go_wp2_with (first | (refine wpList_store_row rfl 39 _ _ rfl (w.heap.size + 1 + 1 + 1) _ rfl rfl 39 _ hold (infoPt _ _ _) (by simp only [ptC_size]) (tab_oneCell _ _ fun _ => rfl) ?_; generalize hWW : World.setRow _ (w.heap.size + 1 + 1 + 1) _ = W3x at *; clear hWW) | refine wpList_load_has 39 _ rfl _ rfl rfl 39 _ hP _ Tryd.underlying39 rfl (infoPt _ _ _) ?_)
        refine (cD _ hF).mono ?_
        rintro z w3 ⟨rfl, hx⟩
        replace hN := hN.after hx; replace hP := hP.after hx; replace hR := hR.after hx; replace hQ := hQ.after hx; replace hF := hF.after hx; replace hb := below_trans hb hx
        clear hold
        have hold := hP; replace hN := hN.farRow (k := w.heap.size + 1) (by omega) (ptC dn.x dn.y dn.z); replace hP := hP.setRow (ptC dn.x dn.y dn.z); replace hR := hR.farRow (k := w.heap.size + 1) (by omega) (ptC dn.x dn.y dn.z); replace hQ := hQ.farRow (k := w.heap.size + 1) (by omega) (ptC dn.x dn.y dn.z); replace hF := hF.farRow (k := w.heap.size + 1) (by omega) (ptC dn.x dn.y dn.z); replace hb := below_setRow hb (g := w.heap.size + 1) (by omega) (ptC dn.x dn.y dn.z)
        clear cD hx
        go_wp2_with (first | refine wpList_store_row rfl 39 _ _ rfl (w.heap.size + 1) _ rfl rfl 39 _ hold (infoPt _ _ _) (by simp only [ptC_size]) (tab_oneCell _ _ fun _ => rfl) ?_)
        go_roundw
        case rel => exact ⟨k + 1, by omega, by go_num, hN, by rw [HDN.out]; exact hP, hR, by rw [HE.out]; exact hQ, hF, hg, hb⟩
        case measure => simp [intOf]; omega
    · have hk256 : k = 256 := by omega
      have dk : ¬ (k : Int) < 256 := by omega
      rw [hk256] at hQ
      clear hk256 hlt hk hN hP hF
      generalize hr2 : R 256 = r at *
      have HR2 := Lib.hid hr2
      clear hr2
      go_wp2_with (first | refine wpList_load_has 39 _ rfl _ rfl rfl 39 _ hQ _ Tryd.underlying39 rfl (infoPt _ _ _) ?_ | refine wpList_store_row rfl 39 _ _ rfl (w.heap.size + 1 + 1) _ rfl rfl 39 _ hR (infoPt _ _ _) (by simp only [ptC_size]) (tab_oneCell _ _ fun _ => rfl) ?_)
      exact bodyPost_ret (v := r.v) (results_cell_row rfl _ _ (w.heap.size + 1 + 1) 39 _ _ _ rfl (hR.setRow _) Tryd.underlying39 rfl (infoPt _ _ _)) rfl ⟨by rw [HR2.out], below_setRow hb (by omega) _⟩
end Go.Proofs.YtflkhlhpifmocaaDoor
namespace Go.Proofs.YtflkhlhpifmocaaDoor
open Go.RowKit

theorem results_row_row_tmp {P : Program} {fn : Func} {p q u : Tmp} {ty : TypeId} (h : fn.results = #[.cell p ty, .cell q ty, .tmp u]) (tmps : Array Value) (w : World) (g k : Nat) (t s : TypeId) (cs ds : Array Value) (v : Value) (d : TypeDesc)
    (hp : tmps.getD p undef = .pointer (some ⟨g, 0, none⟩)) (hq : tmps.getD q undef = .pointer (some ⟨k, 0, none⟩)) (hv : tmps.getD u undef = v) (hg : Has w g t cs) (hk : Has w k s ds)
    (hu : P.underlying ty = some d) (hd : (match d with | .struct _ | .array _ _ => true | _ => false) = true) (hi : (P.info? ty).map (·.size) = some cs.size) (hj : (P.info? ty).map (·.size) = some ds.size) :
    (results fn tmps).run P w = .ok (.tuple #[.agg cs, .agg ds, v]) w := by
  have hp' : tmps[p]?.getD undef = .pointer (some ⟨g, 0, none⟩) := by simpa using hp
  have hq' : tmps[q]?.getD undef = .pointer (some ⟨k, 0, none⟩) := by simpa using hq
  have hv' : tmps[u]?.getD undef = v := by simpa using hv
  simp [results, h, hp', hq', hv', asAddr, run_loadVar_row w g t ty cs (0, 0) d hg hu hd hi, run_loadVar_row w k s ty ds (0, 0) d hk hu hd hj, Result.andThen]
def refP : Nat := 115792089210356248762697446949407573530086143415290314195533631308867097853951
theorem refP_eq : refP = Ec.pp := rfl
def bN : Nat := 0x5AC635D8AA3A93E7B3EBBD55769886BC651D06B0CC53B0F63BCE3C3E27D2604B
theorem litP : (#[Value.int IntKind.u32 4294967295, Value.int IntKind.u32 4294967295, Value.int IntKind.u32 4294967295, Value.int IntKind.u32 0, Value.int IntKind.u32 0, Value.int IntKind.u32 0, Value.int IntKind.u32 1, Value.int IntKind.u32 4294967295] : Array Value) = nums refP := by kernel_rfl
theorem litB : (#[Value.int IntKind.u32 668098635, Value.int IntKind.u32 1003371582, Value.int IntKind.u32 3428036854, Value.int IntKind.u32 1696401072, Value.int IntKind.u32 1989707452, Value.int IntKind.u32 3018571093, Value.int IntKind.u32 2855965671, Value.int IntKind.u32 1522939352] : Array Value) = nums bN := by kernel_rfl
theorem litX : (#[Value.int IntKind.u32 3633889942, Value.int IntKind.u32 4104206661, Value.int IntKind.u32 770388896, Value.int IntKind.u32 1996717441, Value.int IntKind.u32 1671708914, Value.int IntKind.u32 4173129445, Value.int IntKind.u32 3777774151, Value.int IntKind.u32 1796723186] : Array Value) = nums Ec.gX := by kernel_rfl
theorem litY : (#[Value.int IntKind.u32 935285237, Value.int IntKind.u32 3417718888, Value.int IntKind.u32 1798397646, Value.int IntKind.u32 734933847, Value.int IntKind.u32 2081398294, Value.int IntKind.u32 2397563722, Value.int IntKind.u32 4263149467, Value.int IntKind.u32 1340293858] : Array Value) = nums Ec.gY := by kernel_rfl
attribute [local go_sem] litP litB litX litY zero16 zero48 one16
set_option maxRecDepth 100000 in
set_option maxHeartbeats 4000000 in
theorem refP_any (w : World) : Calls Tryd.prog 26 #[] w fun e w' => e = .returned (.agg (d16 refP)) ∧ Below w.heap.size w w' := by
  have hR : Has (w.alloc (.cells (d16 0) 37)) w.heap.size 37 (d16 0) := Has.new _ _ _
  have hb0 : Below w.heap.size w (w.alloc (.cells (d16 0) 37)) := (Below.refl _ _).alloc (Nat.le_refl _) _
  have n0 := d16_ne 0
  have cO := fun W => of3_any refP W
  go_enter Tryd.func26, Tryd.ntmps26
  go_wp2_with fail
  refine (cO _).mono ?_
  rintro e w1 ⟨rfl, hx⟩
  replace hR := hR.after hx
  replace hb0 := below_trans hb0 hx
  clear hx
  go_wp2_with (first | refine wpList_store_row rfl 37 _ _ rfl (w.heap.size) _ rfl rfl 37 _ hR (info16 _) (by simp only [d16_size]) (tab_oneCell _ _ fun _ => rfl) ?_)
  exact bodyPost_ret (v := .agg (d16 refP)) (results_cell_row rfl _ _ w.heap.size 37 _ _ _ rfl (hR.setRow _) Tryd.underlying37 rfl (info16 _)) rfl ⟨rfl, below_setRow hb0 (by omega) _⟩
set_option maxRecDepth 100000 in
set_option maxHeartbeats 4000000 in
theorem refB_any (w : World) : Calls Tryd.prog 59 #[] w fun e w' => e = .returned (.agg (d16 bN)) ∧ Below w.heap.size w w' := by
  have hR : Has (w.alloc (.cells (d16 0) 37)) w.heap.size 37 (d16 0) := Has.new _ _ _
  have hb0 : Below w.heap.size w (w.alloc (.cells (d16 0) 37)) := (Below.refl _ _).alloc (Nat.le_refl _) _
  have n0 := d16_ne 0
  have cO := fun W => of3_any bN W
  go_enter Tryd.func59, Tryd.ntmps59
  go_wp2_with fail
  refine (cO _).mono ?_
  rintro e w1 ⟨rfl, hx⟩
  replace hR := hR.after hx
  replace hb0 := below_trans hb0 hx
  clear hx
  go_wp2_with (first | refine wpList_store_row rfl 37 _ _ rfl (w.heap.size) _ rfl rfl 37 _ hR (info16 _) (by simp only [d16_size]) (tab_oneCell _ _ fun _ => rfl) ?_)
  exact bodyPost_ret (v := .agg (d16 bN)) (results_cell_row rfl _ _ w.heap.size 37 _ _ _ rfl (hR.setRow _) Tryd.underlying37 rfl (info16 _)) rfl ⟨rfl, below_setRow hb0 (by omega) _⟩
set_option maxRecDepth 100000 in
set_option maxHeartbeats 4000000 in
theorem refBase_any (w : World) : Calls Tryd.prog 31 #[] w fun e w' => e = .returned (.agg (ptC Ec.gX Ec.gY 1)) ∧ Below w.heap.size w w' := by
  have hR : Has (w.alloc (.cells (ptC 0 0 0) 39)) w.heap.size 39 (ptC 0 0 0) := Has.new _ _ _
  have hb0 : Below w.heap.size w (w.alloc (.cells (ptC 0 0 0) 39)) := (Below.refl _ _).alloc (Nat.le_refl _) _
  have n0 := d16_ne 0
  have cX := fun W => of3_any Ec.gX W
  have cY := fun W => of3_any Ec.gY W
  go_enter Tryd.func31, Tryd.ntmps31
  go_wp2_with fail
  refine (cX _).mono ?_
  rintro e w1 ⟨rfl, hx⟩
  have hN := put_new w1 37 (d16 0) (d16 Ec.gX)
  replace hR := (hR.after hx).after hN.2
  replace hb0 := below_trans (below_trans hb0 hx) hN.2
  have hX := hN.1
  clear hx hN
  go_wp2_with (first | (refine wpList_store_row rfl 37 _ _ rfl w1.heap.size _ rfl rfl 37 (d16 0) (Has.new' rfl) (info16 _) (by simp only [d16_size]) (tab_oneCell _ _ fun _ => rfl) ?_; generalize hWW : World.setRow _ _ _ = W1 at *; clear hWW))
  refine (cY _).mono ?_
  rintro e w2 ⟨rfl, hx⟩
  have hN := put_new w2 37 (d16 0) (d16 Ec.gY)
  replace hR := (hR.after hx).after hN.2
  replace hX := (hX.after hx).after hN.2
  replace hb0 := below_trans (below_trans hb0 hx) hN.2
  have hY := hN.1
  clear hx hN
  go_wp2_with (first | (refine wpList_store_row rfl 37 _ _ rfl w2.heap.size _ rfl rfl 37 (d16 0) (Has.new' rfl) (info16 _) (by simp only [d16_size]) (tab_oneCell _ _ fun _ => rfl) ?_; generalize hWW : World.setRow _ _ _ = W2 at *; clear hWW) | refine wpList_load_has 37 _ rfl _ rfl rfl 37 _ hX _ Tryd.underlying37 rfl (info16 _) ?_ | refine wpList_load_has 37 _ rfl _ rfl rfl 37 _ hY _ Tryd.underlying37 rfl (info16 _) ?_ | refine wpList_parts rfl 39 _ rfl #[(0, .agg (d16 Ec.gX)), (1, .agg (d16 Ec.gY)), (2, .agg (d16 1))] (by simp only [List.map_toArray, List.map_cons, List.map_nil]; rfl) (.agg (ptC Ec.gX Ec.gY 1)) (buildPt Ec.gX Ec.gY 1) ?_ | refine wpList_store_row rfl 39 _ _ rfl (w.heap.size) _ rfl rfl 39 _ hR (infoPt _ _ _) (by simp only [ptC_size]) (tab_oneCell _ _ fun _ => rfl) ?_)
  exact bodyPost_ret (v := .agg (ptC Ec.gX Ec.gY 1)) (results_cell_row rfl _ _ w.heap.size 39 _ _ _ rfl (hR.setRow _) Tryd.underlying39 rfl (infoPt _ _ _)) rfl ⟨rfl, below_setRow hb0 (by omega) _⟩
set_option maxRecDepth 100000 in
set_option maxHeartbeats 4000000 in
theorem plain_z (X Y g : Nat) (w : World) : Calls Tryd.prog 27 #[.pointer (some ⟨g, 0, none⟩), .agg (ptC X Y 0)] w fun e w' => e = .returned (.tuple #[.agg (d16 0), .agg (d16 0), .bool false]) ∧ Below w.heap.size w w' := by
  obtain ⟨Z, hZ⟩ : ∃ Z : Nat, Z = 0 := ⟨_, rfl⟩
  have hz : ∀ W, (binOp .eql 37 (.agg (d16 Z)) (.agg (d16 0))).run Tryd.prog W = .ok (.bool true) W := fun W => by rw [hZ]; exact hexZ W
  have ep : ptC X Y 0 = ptC X Y Z := by rw [hZ]
  rw [ep]
  clear hZ ep
  have n0 := d16_ne 0
  have hP : Has (((w.alloc (.cells (ptC X Y Z) 39)).alloc (.cells (d16 0) 37)).alloc (.cells (d16 0) 37)) w.heap.size 39 (ptC X Y Z) := ((Has.new w _ _).alloc _).alloc _
  have hA : Has (((w.alloc (.cells (ptC X Y Z) 39)).alloc (.cells (d16 0) 37)).alloc (.cells (d16 0) 37)) (w.heap.size + 1) 37 (d16 0) := (Has.new' (by simp)).alloc _
  have hB : Has (((w.alloc (.cells (ptC X Y Z) 39)).alloc (.cells (d16 0) 37)).alloc (.cells (d16 0) 37)) (w.heap.size + 1 + 1) 37 (d16 0) := Has.new' (by simp)
  have hb0 : Below w.heap.size w (((w.alloc (.cells (ptC X Y Z) 39)).alloc (.cells (d16 0) 37)).alloc (.cells (d16 0) 37)) := (((Below.refl _ _).alloc (Nat.le_refl _) _).alloc (by simp) _).alloc (by simp <;> omega) _
  have hA2 := hA.setRow (d16 0)
  have hB2 := hB.farRow (k := w.heap.size + 1) (by omega) (d16 0)
  have hb2 := below_setRow hb0 (g := w.heap.size + 1) (by omega) (d16 0)
  go_enter Tryd.func27, Tryd.ntmps27
  go_wp2_with (first | refine wpList_load_hex rfl _ rfl (w.heap.size) 32 rfl Z (pt_z hP) ?_ | refine wpList_store_row rfl 37 _ _ rfl (w.heap.size + 1) _ rfl rfl 37 _ hA (info16 _) (by simp only [d16_size]) (tab_oneCell _ _ fun _ => rfl) ?_ | refine wpList_store_row rfl 37 _ _ rfl (w.heap.size + 1 + 1) _ rfl rfl 37 _ hB2 (info16 _) (by simp only [d16_size]) (tab_oneCell _ _ fun _ => rfl) ?_)
  exact bodyPost_ret (results_row_row_tmp rfl _ _ (w.heap.size + 1) (w.heap.size + 1 + 1) 37 37 _ _ _ _ rfl rfl rfl (hA2.farRow (by omega) _) (hB2.setRow _) Tryd.underlying37 rfl (info16 _) (info16 _)) rfl ⟨rfl, below_setRow hb2 (by omega) _⟩
set_option maxRecDepth 100000 in
set_option maxHeartbeats 4000000 in
theorem plain_nz (X Y Z g m : Nat) (w : World) (hF : IsField w g m) (hm : FldOK m) (lX : X < m) (lY : Y < m) (lZ : Z < m) (hz : Z ≠ 0) :
    Calls Tryd.prog 27 #[.pointer (some ⟨g, 0, none⟩), .agg (ptC X Y Z)] w fun e w' => e = .returned (.tuple #[.agg (d16 (X * (Z ^ (m - 2) % m) % m)), .agg (d16 (Y * (Z ^ (m - 2) % m) % m)), .bool true]) ∧ Below w.heap.size w w' := by
  have cI := fun W h => finv_c Z m g W h hm lZ
  have li : Z ^ (m - 2) % m < m := Nat.mod_lt _ hm.1
  have hn := hexNe Z m hm lZ hz
  generalize Z ^ (m - 2) % m = i at *
  have cX := fun g W (h : IsField W g m) => fmul_c X i m g W h hm lX li
  have cY := fun g W (h : IsField W g m) => fmul_c Y i m g W h hm lY li
  clear hm lX lY lZ li hz
  generalize X * i % m = x at *
  generalize Y * i % m = y at *
  have n0 := d16_ne 0
  have hP : Has (((w.alloc (.cells (ptC X Y Z) 39)).alloc (.cells (d16 0) 37)).alloc (.cells (d16 0) 37)) w.heap.size 39 (ptC X Y Z) := ((Has.new w _ _).alloc _).alloc _
  have hA : Has (((w.alloc (.cells (ptC X Y Z) 39)).alloc (.cells (d16 0) 37)).alloc (.cells (d16 0) 37)) (w.heap.size + 1) 37 (d16 0) := (Has.new' (by simp)).alloc _
  have hB : Has (((w.alloc (.cells (ptC X Y Z) 39)).alloc (.cells (d16 0) 37)).alloc (.cells (d16 0) 37)) (w.heap.size + 1 + 1) 37 (d16 0) := Has.new' (by simp)
  have hb0 : Below w.heap.size w (((w.alloc (.cells (ptC X Y Z) 39)).alloc (.cells (d16 0) 37)).alloc (.cells (d16 0) 37)) := (((Below.refl _ _).alloc (Nat.le_refl _) _).alloc (by simp) _).alloc (by simp <;> omega) _
  replace hF := hF.after hb0
  go_enter Tryd.func27, Tryd.ntmps27
  go_wp2_with (first | refine wpList_load_hex rfl _ rfl (w.heap.size) 32 rfl Z (pt_z hP) ?_)
  refine (cI _ hF).mono ?_
  rintro e u1 ⟨rfl, hx⟩
  have hN := put_new u1 37 (d16 0) (d16 i)
  replace hP := (hP.after hx).after hN.2
  replace hA := (hA.after hx).after hN.2
  replace hB := (hB.after hx).after hN.2
  replace hF := (hF.after hx).after hN.2
  replace hb0 := below_trans (below_trans hb0 hx) hN.2
  have hI := hN.1
  clear hx hN cI hn
  go_wp2_with (first | (refine wpList_store_row rfl 37 _ _ rfl u1.heap.size _ rfl rfl 37 (d16 0) (Has.new' rfl) (info16 _) (by simp only [d16_size]) (tab_oneCell _ _ fun _ => rfl) ?_; generalize hWW : World.setRow _ _ _ = U1 at *; clear hWW))
  refine region_quiet_tail (Below U1.heap.size U1) 10 (by kernel_rfl) (by kernel_rfl) (below_drewN (Below.refl _ _) 1) ?_
  simp only [List.take_succ_cons, List.take_zero, List.drop_succ_cons, List.drop_zero]
  refine wpQ_move _ rfl rfl (.pointer (some ⟨g, 0, none⟩)) rfl ?_
  simp only [Act.put, List.setIfInBounds_toArray, List.set_cons_zero, List.set_cons_succ]
  refine wpQ_val rfl (.pointer (some ⟨w.heap.size, 0, none⟩)) (fun w' _ => by go_simp) ?_
  simp only [Act.put, List.setIfInBounds_toArray, List.set_cons_zero, List.set_cons_succ]
  refine wpQ_load_hex rfl _ rfl (w.heap.size) 0 rfl X (fun w' hC => pt_x (hP.after hC)) ?_
  simp only [Act.put, List.setIfInBounds_toArray, List.set_cons_zero, List.set_cons_succ]
  refine wpQ_has 37 _ rfl _ rfl rfl 37 _ (fun w' hC => hI.after hC) _ Tryd.underlying37 rfl (info16 _) ?_
  simp only [Act.put, List.setIfInBounds_toArray, List.set_cons_zero, List.set_cons_succ]
  refine wpQ_fn 30 _ _ rfl rfl #[.pointer (some ⟨g, 0, none⟩), .agg (d16 X), .agg (d16 i)] rfl (fun _ => by go_simp) (.agg (d16 x)) (fun w' hC => (cX _ w' (hF.after hC)).mono fun e w'' ⟨he, hb⟩ => ⟨he, below_class hC hb⟩) ?_
  simp only [Act.put, List.setIfInBounds_toArray, List.set_cons_zero, List.set_cons_succ]
  refine wpQ_move _ rfl rfl (.pointer (some ⟨g, 0, none⟩)) rfl ?_
  simp only [Act.put, List.setIfInBounds_toArray, List.set_cons_zero, List.set_cons_succ]
  refine wpQ_val rfl (.pointer (some ⟨w.heap.size, 16, none⟩)) (fun w' _ => by go_simp) ?_
  simp only [Act.put, List.setIfInBounds_toArray, List.set_cons_zero, List.set_cons_succ]
  refine wpQ_load_hex rfl _ rfl (w.heap.size) 16 rfl Y (fun w' hC => pt_y (hP.after hC)) ?_
  simp only [Act.put, List.setIfInBounds_toArray, List.set_cons_zero, List.set_cons_succ]
  refine wpQ_has 37 _ rfl _ rfl rfl 37 _ (fun w' hC => hI.after hC) _ Tryd.underlying37 rfl (info16 _) ?_
  simp only [Act.put, List.setIfInBounds_toArray, List.set_cons_zero, List.set_cons_succ]
  refine wpQ_fn 30 _ _ rfl rfl #[.pointer (some ⟨g, 0, none⟩), .agg (d16 Y), .agg (d16 i)] rfl (fun _ => by go_simp) (.agg (d16 y)) (fun w' hC => (cY _ w' (hF.after hC)).mono fun e w'' ⟨he, hb⟩ => ⟨he, below_class hC hb⟩) ?_
  simp only [Act.put, List.setIfInBounds_toArray, List.set_cons_zero, List.set_cons_succ]
  refine wpQuiet_nil ?_
  intro u2 hC
  replace hA := hA.after hC
  replace hB := hB.after hC
  replace hb0 := below_trans hb0 hC
  clear hC hP hI hF cX cY
  have hA2 := hA.setRow (d16 x)
  have hB2 := hB.farRow (k := w.heap.size + 1) (by omega) (d16 x)
  have hb2 := below_setRow hb0 (g := w.heap.size + 1) (by omega) (d16 x)
  go_wp2_with (first | refine wpList_store_row rfl 37 _ _ rfl (w.heap.size + 1) _ rfl rfl 37 _ hA (info16 _) (by simp only [d16_size]) (tab_oneCell _ _ fun _ => rfl) ?_ | refine wpList_store_row rfl 37 _ _ rfl (w.heap.size + 1 + 1) _ rfl rfl 37 _ hB2 (info16 _) (by simp only [d16_size]) (tab_oneCell _ _ fun _ => rfl) ?_)
  exact bodyPost_ret (results_row_row_tmp rfl _ _ (w.heap.size + 1) (w.heap.size + 1 + 1) 37 37 _ _ _ _ rfl rfl rfl (hA2.farRow (by omega) _) (hB2.setRow _) Tryd.underlying37 rfl (info16 _) (info16 _)) rfl ⟨rfl, below_setRow hb2 (by omega) _⟩
end Go.Proofs.YtflkhlhpifmocaaDoor
namespace Go.Proofs.YtflkhlhpifmocaaDoor
open Go.RowKit

theorem c_inj {a b : Nat} (ha : a < Ec.pp) (hb : b < Ec.pp) (h : Ec.c a = Ec.c b) : a = b := by
  have h2 : a % Ec.pp = b % Ec.pp := congrArg Fin.val h
  rw [Nat.mod_eq_of_lt ha, Nat.mod_eq_of_lt hb] at h2
  exact h2
theorem cB_eq : Ec.c bN = Ec.cB := rfl
attribute [local go_sem] zero16 one16
set_option maxRecDepth 100000 in
set_option maxHeartbeats 4000000 in
theorem on_ex (x y m : Nat) (hm : FldOK m) (hmp : m = Ec.pp) (lx : x < m) (ly : y < m) :
    ∃ b : Bool, (b = true ↔ Ec.OnP (some (Ec.c x, Ec.c y))) ∧ ∀ g w, IsField w g m → Calls Tryd.prog 32 #[.pointer (some ⟨g, 0, none⟩), .agg (d16 x), .agg (d16 y)] w fun e w' => e = .returned (.bool b) ∧ Below w.heap.size w w' := by
  have m0 := hm.1
  have lbN : bN < m := by rw [hmp]; decide
  obtain ⟨v1, ev1⟩ : ∃ v, v = y * y % m := ⟨_, rfl⟩
  have lv1 : v1 < m := by rw [ev1]; exact Nat.mod_lt _ m0
  have kv1 := fun g W (h : IsField W g m) => fmul_c y y m g W h hm ly ly
  rw [← ev1] at kv1
  have cv1 : Ec.c v1 = Ec.c y * Ec.c y := by rw [ev1]; exact cm hmp y y
  obtain ⟨v2, ev2⟩ : ∃ v, v = x * x % m := ⟨_, rfl⟩
  have lv2 : v2 < m := by rw [ev2]; exact Nat.mod_lt _ m0
  have kv2 := fun g W (h : IsField W g m) => fmul_c x x m g W h hm lx lx
  rw [← ev2] at kv2
  have cv2 : Ec.c v2 = Ec.c x * Ec.c x := by rw [ev2]; exact cm hmp x x
  obtain ⟨v3, ev3⟩ : ∃ v, v = v2 * x % m := ⟨_, rfl⟩
  have lv3 : v3 < m := by rw [ev3]; exact Nat.mod_lt _ m0
  have kv3 := fun g W (h : IsField W g m) => fmul_c v2 x m g W h hm lv2 lx
  rw [← ev3] at kv3
  have cv3 : Ec.c v3 = Ec.c v2 * Ec.c x := by rw [ev3]; exact cm hmp v2 x
  obtain ⟨v4, ev4⟩ : ∃ v, v = (x + x) % m := ⟨_, rfl⟩
  have lv4 : v4 < m := by rw [ev4]; exact Nat.mod_lt _ m0
  have kv4 := fun g W (h : IsField W g m) => fadd_c x x m g W h hm lx lx
  rw [← ev4] at kv4
  have cv4 : Ec.c v4 = Ec.c x + Ec.c x := by rw [ev4]; exact ca hmp x x
  obtain ⟨v5, ev5⟩ : ∃ v, v = (v4 + x) % m := ⟨_, rfl⟩
  have lv5 : v5 < m := by rw [ev5]; exact Nat.mod_lt _ m0
  have kv5 := fun g W (h : IsField W g m) => fadd_c v4 x m g W h hm lv4 lx
  rw [← ev5] at kv5
  have cv5 : Ec.c v5 = Ec.c v4 + Ec.c x := by rw [ev5]; exact ca hmp v4 x
  obtain ⟨v6, ev6⟩ : ∃ v, v = (v3 + (m - v5)) % m := ⟨_, rfl⟩
  have lv6 : v6 < m := by rw [ev6]; exact Nat.mod_lt _ m0
  have kv6 := fun g W (h : IsField W g m) => fsub_c v3 v5 m g W h hm lv3 lv5
  rw [← ev6] at kv6
  have cv6 : Ec.c v6 = Ec.c v3 - Ec.c v5 := by rw [ev6]; exact cs hmp v3 v5 (Nat.le_of_lt lv5)
  obtain ⟨v7, ev7⟩ : ∃ v, v = (v6 + bN) % m := ⟨_, rfl⟩
  have lv7 : v7 < m := by rw [ev7]; exact Nat.mod_lt _ m0
  have kv7 := fun g W (h : IsField W g m) => fadd_c v6 bN m g W h hm lv6 lbN
  rw [← ev7] at kv7
  have cv7 : Ec.c v7 = Ec.c v6 + Ec.c bN := by rw [ev7]; exact ca hmp v6 bN
  refine ⟨decide (v1 = v7), ?_, fun g w hF => ?_⟩
  · rw [decide_eq_true_iff]
    have key : Ec.c v1 = Ec.c v7 ↔ Ec.OnP (some (Ec.c x, Ec.c y)) := by
      simp only [Ec.OnP, Ec.On]
      rw [cv7, cv6, cv5, cv4, cv3, cv2, cv1, cB_eq]
      unfold Ec.cA
      clear cv1 cv2 cv3 cv4 cv5 cv6 cv7
      constructor
      · intro h; rw [h]; clear h; grobner
      · intro h; rw [h]; clear h; grobner
    rw [← key]
    exact ⟨fun h => by rw [h], fun h => c_inj (by rw [← hmp]; exact lv1) (by rw [← hmp]; exact lv7) h⟩
  have he := fun W => hexEql v1 v7 (by have := hm.2.1; omega) (by have := hm.2.1; omega) W
  generalize decide (v1 = v7) = b at *
  clear ev1 cv1 lv1 ev2 cv2 lv2 ev3 cv3 lv3 ev4 cv4 lv4 ev5 cv5 lv5 ev6 cv6 lv6 ev7 cv7 lv7 hm hmp lx ly m0 lbN
  have n0 := d16_ne 0
  have hX : Has ((w.alloc (.cells (d16 x) 37)).alloc (.cells (d16 y) 37)) w.heap.size 37 (d16 x) := (Has.new w _ _).alloc _
  have hY : Has ((w.alloc (.cells (d16 x) 37)).alloc (.cells (d16 y) 37)) (w.heap.size + 1) 37 (d16 y) := Has.new' (by simp)
  have hb0 : Below w.heap.size w ((w.alloc (.cells (d16 x) 37)).alloc (.cells (d16 y) 37)) := ((Below.refl _ _).alloc (Nat.le_refl _) _).alloc (by simp) _
  replace hF := hF.after hb0
  go_enter Tryd.func32, Tryd.ntmps32
  go_wp2_with (first | refine wpList_load_has 37 _ rfl _ rfl rfl 37 _ hY _ Tryd.underlying37 rfl (info16 _) ?_)
  refine (kv1 _ _ hF).mono ?_
  rintro e u1 ⟨rfl, hx⟩
  have ohX_1 := (hX.after hx).lt
  have ohY_1 := (hY.after hx).lt
  have hN := put_new u1 37 (d16 0) (d16 v1)
  replace hX := (hX.after hx).after hN.2
  replace hY := (hY.after hx).after hN.2
  replace hF := (hF.after hx).after hN.2
  replace hb0 := below_trans (below_trans hb0 hx) hN.2
  have hv_v1 := hN.1
  clear hx hN
  go_wp2_with (first | (refine wpList_store_row rfl 37 _ _ rfl u1.heap.size _ rfl rfl 37 (d16 0) (Has.new' rfl) (info16 _) (by simp only [d16_size]) (tab_oneCell _ _ fun _ => rfl) ?_; generalize hWW : World.setRow _ u1.heap.size _ = U1 at *; clear hWW))
  have ohX_2 := hX.lt
  have ohY_2 := hY.lt
  have ohv_v1_2 := hv_v1.lt
  have ohF_2 := hF.lt
  refine region_facts 20 [] [.val (.pointer (some ⟨g, 0, none⟩)), .val (.pointer (some ⟨g, 0, none⟩)), .val (.pointer (some ⟨g, 0, none⟩)), .val (.pointer (some ⟨g, 0, none⟩)), .val (.agg (d16 (x))), .val (.agg (d16 (x))), .val (.agg (d16 (v2))), .val (.agg (d16 (x))), .val (.agg (d16 (v3))), .val (.pointer (some ⟨g, 0, none⟩)), .val (.pointer (some ⟨g, 0, none⟩)), .val (.agg (d16 (x))), .val (.agg (d16 (x))), .val (.agg (d16 (v4))), .val (.agg (d16 (x))), .val (.agg (d16 (v5))), .val (.agg (d16 (v6))), .val (.agg (d16 (bN))), .val (.agg (d16 (v7))), .new 37 (d16 0)]
    (by kernel_rfl) (by kernel_rfl) (fun _ _ _ _ _ h => h) ?_ ?_
  · simp only [List.take_succ_cons, List.take_zero, StepsOK]
    refine ⟨?_, ?_, ?_, ?_, ?_, ?_, ?_, ?_, ?_, ?_, ?_, ?_, ?_, ?_, ?_, ?_, ?_, ?_, ?_, ?_, trivial⟩
    · intro v w' hb hf K hKt
      simp only [putAll, Act.put, List.setIfInBounds_toArray, List.set_cons_zero, List.set_cons_succ, Nat.zero_add, Nat.reduceAdd] at hKt ⊢
      go_simp
      exact hKt _ (Below.refl _ _)
    · intro v w' hb hf K hKt
      simp only [putAll, Act.put, List.setIfInBounds_toArray, List.set_cons_zero, List.set_cons_succ, Nat.zero_add, Nat.reduceAdd] at hKt ⊢
      go_simp
      exact hKt _ (Below.refl _ _)
    · intro v w' hb hf K hKt
      simp only [putAll, Act.put, List.setIfInBounds_toArray, List.set_cons_zero, List.set_cons_succ, Nat.zero_add, Nat.reduceAdd] at hKt ⊢
      go_simp
      exact hKt _ (Below.refl _ _)
    · intro v w' hb hf K hKt
      simp only [putAll, Act.put, List.setIfInBounds_toArray, List.set_cons_zero, List.set_cons_succ, Nat.zero_add, Nat.reduceAdd] at hKt ⊢
      go_simp
      exact hKt _ (Below.refl _ _)
    · intro v w' hb hf K hKt
      simp only [putAll, Act.put, List.setIfInBounds_toArray, List.set_cons_zero, List.set_cons_succ, Nat.zero_add, Nat.reduceAdd] at hKt ⊢
      exact wp_load_row 37 _ rfl (w.heap.size) rfl 37 _ (0, 0) _ (hX.after hb) Tryd.underlying37 rfl (info16 _) (hKt _ (Below.refl _ _))
    · intro v w' hb hf K hKt
      simp only [putAll, Act.put, List.setIfInBounds_toArray, List.set_cons_zero, List.set_cons_succ, Nat.zero_add, Nat.reduceAdd] at hKt ⊢
      exact wp_load_row 37 _ rfl (w.heap.size) rfl 37 _ (0, 0) _ (hX.after hb) Tryd.underlying37 rfl (info16 _) (hKt _ (Below.refl _ _))
    · intro v w' hb hf K hKt
      have f3 : v 3 = _ := hf ⟨3, .data⟩ (by simp) rfl
      have f4 : v 4 = _ := hf ⟨4, .data⟩ (by simp) rfl
      have f5 : v 5 = _ := hf ⟨5, .data⟩ (by simp) rfl
      simp only [putAll, Act.put, List.setIfInBounds_toArray, List.set_cons_zero, List.set_cons_succ, Nat.zero_add, Nat.reduceAdd] at hKt ⊢
      rw [f3, f4, f5] at hKt ⊢
      go_simp
      refine (kv2 _ w' (hF.after hb)).mono ?_
      rintro e w'' ⟨rfl, hb2⟩
      exact hKt _ hb2
    · intro v w' hb hf K hKt
      simp only [putAll, Act.put, List.setIfInBounds_toArray, List.set_cons_zero, List.set_cons_succ, Nat.zero_add, Nat.reduceAdd] at hKt ⊢
      exact wp_load_row 37 _ rfl (w.heap.size) rfl 37 _ (0, 0) _ (hX.after hb) Tryd.underlying37 rfl (info16 _) (hKt _ (Below.refl _ _))
    · intro v w' hb hf K hKt
      have f2 : v 2 = _ := hf ⟨2, .data⟩ (by simp) rfl
      have f6 : v 6 = _ := hf ⟨6, .data⟩ (by simp) rfl
      have f7 : v 7 = _ := hf ⟨7, .data⟩ (by simp) rfl
      simp only [putAll, Act.put, List.setIfInBounds_toArray, List.set_cons_zero, List.set_cons_succ, Nat.zero_add, Nat.reduceAdd] at hKt ⊢
      rw [f2, f6, f7] at hKt ⊢
      go_simp
      refine (kv3 _ w' (hF.after hb)).mono ?_
      rintro e w'' ⟨rfl, hb2⟩
      exact hKt _ hb2
    · intro v w' hb hf K hKt
      simp only [putAll, Act.put, List.setIfInBounds_toArray, List.set_cons_zero, List.set_cons_succ, Nat.zero_add, Nat.reduceAdd] at hKt ⊢
      go_simp
      exact hKt _ (Below.refl _ _)
    · intro v w' hb hf K hKt
      simp only [putAll, Act.put, List.setIfInBounds_toArray, List.set_cons_zero, List.set_cons_succ, Nat.zero_add, Nat.reduceAdd] at hKt ⊢
      go_simp
      exact hKt _ (Below.refl _ _)
    · intro v w' hb hf K hKt
      simp only [putAll, Act.put, List.setIfInBounds_toArray, List.set_cons_zero, List.set_cons_succ, Nat.zero_add, Nat.reduceAdd] at hKt ⊢
      exact wp_load_row 37 _ rfl (w.heap.size) rfl 37 _ (0, 0) _ (hX.after hb) Tryd.underlying37 rfl (info16 _) (hKt _ (Below.refl _ _))
    · intro v w' hb hf K hKt
      simp only [putAll, Act.put, List.setIfInBounds_toArray, List.set_cons_zero, List.set_cons_succ, Nat.zero_add, Nat.reduceAdd] at hKt ⊢
      exact wp_load_row 37 _ rfl (w.heap.size) rfl 37 _ (0, 0) _ (hX.after hb) Tryd.underlying37 rfl (info16 _) (hKt _ (Below.refl _ _))
    · intro v w' hb hf K hKt
      have f10 : v 10 = _ := hf ⟨10, .data⟩ (by simp) rfl
      have f11 : v 11 = _ := hf ⟨11, .data⟩ (by simp) rfl
      have f12 : v 12 = _ := hf ⟨12, .data⟩ (by simp) rfl
      simp only [putAll, Act.put, List.setIfInBounds_toArray, List.set_cons_zero, List.set_cons_succ, Nat.zero_add, Nat.reduceAdd] at hKt ⊢
      rw [f10, f11, f12] at hKt ⊢
      go_simp
      refine (kv4 _ w' (hF.after hb)).mono ?_
      rintro e w'' ⟨rfl, hb2⟩
      exact hKt _ hb2
    · intro v w' hb hf K hKt
      simp only [putAll, Act.put, List.setIfInBounds_toArray, List.set_cons_zero, List.set_cons_succ, Nat.zero_add, Nat.reduceAdd] at hKt ⊢
      exact wp_load_row 37 _ rfl (w.heap.size) rfl 37 _ (0, 0) _ (hX.after hb) Tryd.underlying37 rfl (info16 _) (hKt _ (Below.refl _ _))
    · intro v w' hb hf K hKt
      have f9 : v 9 = _ := hf ⟨9, .data⟩ (by simp) rfl
      have f13 : v 13 = _ := hf ⟨13, .data⟩ (by simp) rfl
      have f14 : v 14 = _ := hf ⟨14, .data⟩ (by simp) rfl
      simp only [putAll, Act.put, List.setIfInBounds_toArray, List.set_cons_zero, List.set_cons_succ, Nat.zero_add, Nat.reduceAdd] at hKt ⊢
      rw [f9, f13, f14] at hKt ⊢
      go_simp
      refine (kv5 _ w' (hF.after hb)).mono ?_
      rintro e w'' ⟨rfl, hb2⟩
      exact hKt _ hb2
    · intro v w' hb hf K hKt
      have f1 : v 1 = _ := hf ⟨1, .data⟩ (by simp) rfl
      have f8 : v 8 = _ := hf ⟨8, .data⟩ (by simp) rfl
      have f15 : v 15 = _ := hf ⟨15, .data⟩ (by simp) rfl
      simp only [putAll, Act.put, List.setIfInBounds_toArray, List.set_cons_zero, List.set_cons_succ, Nat.zero_add, Nat.reduceAdd] at hKt ⊢
      rw [f1, f8, f15] at hKt ⊢
      go_simp
      refine (kv6 _ w' (hF.after hb)).mono ?_
      rintro e w'' ⟨rfl, hb2⟩
      exact hKt _ hb2
    · intro v w' hb hf K hKt
      simp only [putAll, Act.put, List.setIfInBounds_toArray, List.set_cons_zero, List.set_cons_succ, Nat.zero_add, Nat.reduceAdd] at hKt ⊢
      go_simp
      refine (refB_any w').mono ?_
      rintro e w'' ⟨rfl, hb2⟩
      exact hKt _ hb2
    · intro v w' hb hf K hKt
      have f0 : v 0 = _ := hf ⟨0, .data⟩ (by simp) rfl
      have f16 : v 16 = _ := hf ⟨16, .data⟩ (by simp) rfl
      have f17 : v 17 = _ := hf ⟨17, .data⟩ (by simp) rfl
      simp only [putAll, Act.put, List.setIfInBounds_toArray, List.set_cons_zero, List.set_cons_succ, Nat.zero_add, Nat.reduceAdd] at hKt ⊢
      rw [f0, f16, f17] at hKt ⊢
      go_simp
      refine (kv7 _ w' (hF.after hb)).mono ?_
      rintro e w'' ⟨rfl, hb2⟩
      exact hKt _ hb2
    · exact ⟨rfl, rfl, zeroV16⟩
  intro v u2 hb hF hD
  have f0 : v 0 = _ := hF 0 (by decide)
  have f1 : v 1 = _ := hF 1 (by decide)
  have f2 : v 2 = _ := hF 2 (by decide)
  have f3 : v 3 = _ := hF 3 (by decide)
  have f4 : v 4 = _ := hF 4 (by decide)
  have f5 : v 5 = _ := hF 5 (by decide)
  have f6 : v 6 = _ := hF 6 (by decide)
  have f7 : v 7 = _ := hF 7 (by decide)
  have f8 : v 8 = _ := hF 8 (by decide)
  have f9 : v 9 = _ := hF 9 (by decide)
  have f10 : v 10 = _ := hF 10 (by decide)
  have f11 : v 11 = _ := hF 11 (by decide)
  have f12 : v 12 = _ := hF 12 (by decide)
  have f13 : v 13 = _ := hF 13 (by decide)
  have f14 : v 14 = _ := hF 14 (by decide)
  have f15 : v 15 = _ := hF 15 (by decide)
  have f16 : v 16 = _ := hF 16 (by decide)
  have f17 : v 17 = _ := hF 17 (by decide)
  have f18 : v 18 = _ := hF 18 (by decide)
  obtain ⟨g2_19, f19, hg19, hl19, hz19⟩ := hF 19 (by decide)
  replace hz19 : Has u2 g2_19 37 (d16 0) := hz19
  simp only [List.take_succ_cons, List.take_zero, List.drop_succ_cons, List.drop_zero, putAll, Act.put, List.setIfInBounds_toArray, List.set_cons_zero, List.set_cons_succ, Nat.zero_add, Nat.reduceAdd]
  rw [f0, f1, f2, f3, f4, f5, f6, f7, f8, f9, f10, f11, f12, f13, f14, f15, f16, f17, f18, f19]
  clear hF hD f0 f1 f2 f3 f4 f5 f6 f7 f8 f9 f10 f11 f12 f13 f14 f15 f16 f17 f18 f19
  have hs19 := hz19
  have hBW := below_setRow (hb) (g := g2_19) hg19 (d16 (v7))
  have hv_v7 := (hz19).setRow (d16 (v7))
  replace hX := hX.after hBW
  replace hY := hY.after hBW
  replace hv_v1 := hv_v1.after hBW
  replace hF := hF.after hBW
  replace hb0 := below_trans hb0 hBW
  go_wp2_with (first | (refine wpList_store_row rfl 37 _ _ rfl g2_19 _ rfl rfl 37 (d16 0) hs19 (info16 _) (by simp only [d16_size]) (tab_oneCell _ _ fun _ => rfl) ?_; generalize hWW : World.setRow _ _ _ = U2 at *; clear hWW) | refine wpList_load_has 37 _ rfl _ rfl rfl 37 _ hv_v1 _ Tryd.underlying37 rfl (info16 _) ?_ | refine wpList_load_has 37 _ rfl _ rfl rfl 37 _ hv_v7 _ Tryd.underlying37 rfl (info16 _) ?_)
  clear hBW hb hs19 hz19 hl19
  go_ret
  exact ⟨rfl, hb0⟩
end Go.Proofs.YtflkhlhpifmocaaDoor
namespace Go.Proofs.YtflkhlhpifmocaaDoor
open Go.RowKit

/-- a point of package curve -/
def cpF (X Y : Nat) (b : Bool) (j : Nat) : Value := if j < 8 then .int .u32 ((wrd X j : Nat) : Int) else if j < 16 then .int .u32 ((wrd Y (j - 8) : Nat) : Int) else .bool b
def cpC (X Y : Nat) (b : Bool) : Array Value := tab 17 (cpF X Y b)
theorem cpC_size (X Y : Nat) (b : Bool) : (cpC X Y b).size = 17 := tab_size _ _
theorem infoCp (X Y : Nat) (b : Bool) : (Tryd.prog.info? 32).map (·.size) = some (cpC X Y b).size := by rw [cpC_size]; kernel_rfl
def cpX : Ec.Pnt → Nat
  | none => 0
  | some (x, _) => x.val
def cpY : Ec.Pnt → Nat
  | none => 0
  | some (_, y) => y.val
def cpN : Ec.Pnt → Bool
  | none => true
  | some _ => false
abbrev cpV (P : Ec.Pnt) : Value := .agg (cpC (cpX P) (cpY P) (cpN P))
def w8L (x : Nat) : List Value := (List.range 8).map (dgs .u32 4294967296 x)
theorem w8L_arr (x : Nat) : (w8L x).toArray = nums x := rfl
theorem w8L_len (x : Nat) : (w8L x).length = 8 := by simp [w8L]
theorem infoW8 (x : Nat) : (Tryd.prog.info? 30).map (·.size) = some (w8L x).length := by rw [w8L_len]; kernel_rfl
section
variable {w : World} {g X Y : Nat} {b : Bool}
theorem cp_x (h : Has w g 32 (cpC X Y b)) : w.rangeAt g 0 (w8L X) := by
  have := Has.range h 0 8 (by omega)
  have e : (List.range 8).map (fun j => cpF X Y b (0 + j)) = w8L X := by
    unfold w8L
    apply List.map_congr_left
    intro j hj
    have : j < 8 := by simpa using hj
    simp [cpF, dgs, wrd, this]
  rw [e] at this
  exact this
theorem cp_y (h : Has w g 32 (cpC X Y b)) : w.rangeAt g 8 (w8L Y) := by
  have := Has.range h 8 8 (by omega)
  have e : (List.range 8).map (fun j => cpF X Y b (8 + j)) = w8L Y := by
    unfold w8L
    apply List.map_congr_left
    intro j hj
    have h8 : j < 8 := by simpa using hj
    have h1 : ¬ 8 + j < 8 := by omega
    have h2 : 8 + j < 16 := by omega
    simp only [cpF, dgs, wrd, if_neg h1, if_pos h2, Nat.add_sub_cancel_left]
  rw [e] at this
  exact this
theorem cp_n (h : Has w g 32 (cpC X Y b)) : w.cell? ⟨g, 16, none⟩ = some (.bool b) := h.cellTab 16 (by omega)
end
section
variable {w : World} {ops : Array Oper} {rest : List Oper} {op : Oper} {a : Act} {Q : Exit → Act → World → Prop}
theorem wpQ_load_w8 {C : World → Prop} {L : Act → Prop} (hw : Region.wanted op (yielded ops a.tmps) = true) (p : Operand) (ho : op.op = .load 30 p) (b o : Nat) (hp : a.eval p = .pointer (some ⟨b, o, none⟩)) (x : Nat) (hc : ∀ w', C w' → w'.rangeAt b o (w8L x))
    (h : wpQuiet Tryd.prog ops C L rest (a.put op.dst (.agg (nums x)))) : wpQuiet Tryd.prog ops C L (op :: rest) a :=
  wpQ_load 30 p ho hw _ hp (.agg (nums x)) (fun w' hC => by rw [← w8L_arr]; exact run_loadAt_mid w' b o 30 (w8L x) _ (hc w' hC) Tryd.underlying30 rfl (infoW8 x)) h
end
theorem cell_bool (g j : Nat) (v : Value) (w : World) (h : w.cell? ⟨g, j, none⟩ = some v) : (Instr.loadAt 4 (.pointer (some ⟨g, j, none⟩))).run Tryd.prog w = .ok v w := by
  go_simp
theorem info32' : (Tryd.prog.info? 28).map (fun i => (i.zero, i.size, i.bytes)) = some (some (.int .u32 0), 1, 4) := by kernel_rfl
theorem numEql4 (x : Nat) (W : World) : (binOp .eql 30 (.agg (nums x)) (.agg (nums x))).run Tryd.prog W = .ok (.bool true) W := by
  obtain ⟨i, hi, _, hs, _⟩ := info_parts info32'
  have h := run_eql_tab (P := Tryd.prog) W 30 28 8 .u32 .u32 i (fun j => ((dg 4294967296 x j : Nat) : Int)) (fun j => ((dg 4294967296 x j : Nat) : Int)) Tryd.underlying30 Tryd.underlying28 hi hs
  rw [sameTo_refl] at h
  exact h
theorem numEq4 (o1 o2 : Operand) (x : Nat) (w : World) : (do eqGuard .eql 30 o1 o2 (.agg (nums x)) (.agg (nums x)); binOp .eql 30 (.agg (nums x)) (.agg (nums x)) : Sem Value).run Tryd.prog w = .ok (.bool true) w := by
  have es := fun W => numEql4 x W
  go_simp
theorem boolEq (o1 o2 : Operand) (b : Bool) (w : World) : (do eqGuard .eql 4 o1 o2 (.bool b) (.bool b); binOp .eql 4 (.bool b) (.bool b) : Sem Value).run Tryd.prog w = .ok (.bool true) w := by
  cases b <;> go_simp
theorem notB (b : Bool) (w : World) : (Op.unary .not (.bool b)).run Tryd.prog w = .ok (.bool (!b)) w := by
  cases b <;> go_simp

/- a point's plain numbers are the reference's -/
theorem c_val (a : Ec.FP) : Ec.c a.val = a := Fin.ext (Nat.mod_eq_of_lt a.isLt)
theorem c_invN {z : Nat} (hz : Ec.c z ≠ 0) : Ec.c z * Ec.c (z ^ (Ec.pp - 2) % Ec.pp) = 1 := by
  have h0 : z % primeP ≠ 0 := fun h => hz (Fin.ext h)
  have hf := fermatP z h0
  rw [← Ec.c_mul]
  refine Fin.ext ?_
  show z * (z ^ (Ec.pp - 2) % Ec.pp) % Ec.pp = 1
  rw [Nat.mul_comm, Nat.mod_mul_mod, ← Nat.pow_succ]
  exact hf
theorem plain_x {m x z : Nat} (hmp : m = Ec.pp) (a : Ec.FP) (hz : Ec.c z ≠ 0) (h : Ec.c x = a * Ec.c z) : x * (z ^ (m - 2) % m) % m = a.val := by
  subst hmp
  refine c_inj (Nat.mod_lt _ (by decide)) a.isLt ?_
  rw [Ec.c_mod, Ec.c_mul, h, c_val]
  have hi := c_invN hz
  generalize Ec.c (z ^ (Ec.pp - 2) % Ec.pp) = i at *
  clear h
  grobner
end Go.Proofs.YtflkhlhpifmocaaDoor
namespace Go.Proofs.YtflkhlhpifmocaaDoor
open Go.RowKit

set_option maxRecDepth 100000 in
theorem buildN1 (W : World) : (Instr.build 37 #[(0, .int .u64 1)]).run Tryd.prog W = .ok (.agg (d16 1)) W := by kernel_rfl
theorem notNB (b : Bool) (w : World) : (Op.unary .not (.bool (!b))).run Tryd.prog w = .ok (.bool b) w := by
  cases b <;> go_simp
def ptT : Ec.Pnt → T3
  | none => ⟨0, 1, 0⟩
  | some (x, y) => ⟨x.val, y.val, 1⟩
theorem ptT_ok {m : Nat} (hm : FldOK m) (hmp : m = Ec.pp) (P : Ec.Pnt) : (ptT P).ok m := by
  match P with
  | none => exact ⟨hm.1, one_lt hmp, hm.1⟩
  | some (x, y) => exact ⟨by rw [hmp]; exact x.isLt, by rw [hmp]; exact y.isLt, one_lt hmp⟩
theorem ptT_is (P : Ec.Pnt) : (ptT P).is P := by
  match P with
  | none => rfl
  | some (x, y) =>
    refine ⟨by show Ec.c 1 ≠ 0; decide, ?_, ?_⟩
    · show Ec.c x.val = x * Ec.c 1
      rw [c_val]
      have : Ec.c 1 = 1 := rfl
      rw [this]; grobner
    · show Ec.c y.val = y * Ec.c 1
      rw [c_val]
      have : Ec.c 1 = 1 := rfl
      rw [this]; grobner
attribute [local go_sem] zero16 zero48 one16
/-- what Plain answers -/
theorem plain_any4 (t : T3) (P : Ec.Pnt) (m g : Nat) (w : World) (hm : FldOK m) (hmp : m = Ec.pp) (ht : t.ok m) (hP : t.is P) (hF : IsField w g m) :
    Calls Tryd.prog 27 #[.pointer (some ⟨g, 0, none⟩), t.v] w fun e w' => e = .returned (.tuple #[.agg (d16 (cpX P)), .agg (d16 (cpY P)), .bool (!cpN P)]) ∧ Below w.heap.size w w' := by
  by_cases hz : t.z = 0
  · obtain rfl := T3.none_of hz hP
    obtain ⟨x, y, z⟩ := t
    obtain rfl : z = 0 := hz
    exact plain_z x y g w
  · have hzc : Ec.c t.z ≠ 0 := Ec.c_zero (by rw [← hmp]; exact ht.2.2) hz
    match P with
    | none => exact absurd hP hzc
    | some (x, y) =>
      have h := plain_nz t.x t.y t.z g m w hF hm ht.1 ht.2.1 ht.2.2 hz
      rw [plain_x hmp x hzc hP.2.1, plain_x hmp y hzc hP.2.2] at h
      exact h
theorem cp_lt (P : Ec.Pnt) : cpX P < big ∧ cpY P < big := by
  have hb : Ec.pp < big := by decide +kernel
  match P with
  | none => exact ⟨by decide +kernel, by decide +kernel⟩
  | some (x, y) => exact ⟨Nat.lt_trans x.isLt hb, Nat.lt_trans y.isLt hb⟩
end Go.Proofs.YtflkhlhpifmocaaDoor
namespace Go.Proofs.YtflkhlhpifmocaaDoor
open Go.RowKit

theorem zero17c : (#[Value.int IntKind.u32 0, Value.int IntKind.u32 0, Value.int IntKind.u32 0, Value.int IntKind.u32 0, Value.int IntKind.u32 0, Value.int IntKind.u32 0, Value.int IntKind.u32 0, Value.int IntKind.u32 0, Value.int IntKind.u32 0, Value.int IntKind.u32 0, Value.int IntKind.u32 0, Value.int IntKind.u32 0, Value.int IntKind.u32 0, Value.int IntKind.u32 0, Value.int IntKind.u32 0, Value.int IntKind.u32 0, Value.bool false] : Array Value) = cpC 0 0 false := by kernel_rfl
theorem on_val (P : Ec.Pnt) (hP : Ec.OnP P) (r : Bool) (hr : r = true ↔ (cpN P = false ∧ cpX P < Ec.pp ∧ cpY P < Ec.pp ∧ Ec.OnP (some (Ec.c (cpX P), Ec.c (cpY P))))) : r = !cpN P := by
  rcases P with _ | ⟨x, y⟩
  · cases r with
    | false => rfl
    | true => exact absurd (hr.1 rfl).1 (by show ¬ (true = false); decide)
  · refine hr.2 ⟨rfl, x.isLt, y.isLt, ?_⟩
    show Ec.OnP (some (Ec.c x.val, Ec.c y.val))
    rw [c_val, c_val]
    exact hP
theorem zero_off : ¬ Ec.OnP (some (Ec.c 0, Ec.c 0)) := by unfold Ec.OnP Ec.On Ec.cA Ec.cB; decide +kernel
theorem off_val (r : Bool) (hr : r = true ↔ ((false : Bool) = false ∧ 0 < Ec.pp ∧ 0 < Ec.pp ∧ Ec.OnP (some (Ec.c 0, Ec.c 0)))) : r = false := by
  cases r with
  | false => rfl
  | true => exact absurd (hr.1 rfl).2.2.2 zero_off
theorem fieldN (X Y : Nat) (b : Bool) (W : World) : (Instr.field 32 (.agg (cpC X Y b)) 2).run Tryd.prog W = .ok (.bool b) W := by kernel_rfl
theorem ordN_lt : Ec.ordN < big := by decide +kernel
attribute [local go_sem] zero17c
end Go.Proofs.YtflkhlhpifmocaaDoor
namespace Go.Proofs.YtflkhlhpifmocaaDoor
open Go.RowKit

theorem cpC_one (X Y : Nat) (b : Bool) : (cpC X Y b).all (·.oneCell') = true := tab_oneCell _ _ fun j => by
  unfold cpF
  by_cases h : j < 8
  · rw [if_pos h]; rfl
  · rw [if_neg h]
    by_cases h2 : j < 16
    · rw [if_pos h2]; rfl
    · rw [if_neg h2]; rfl
theorem fldOK_P : FldOK refP := ⟨by decide +kernel, by decide +kernel, by decide +kernel, by decide +kernel, by decide +kernel⟩
theorem infVC : (Tryd.prog.info? 32).map (fun i => (i.zero, i.size)) = some (some (.agg (cpC 0 0 false)), 17) := by kernel_rfl
theorem zeroVC (w : World) : (zeroValue 32).run Tryd.prog w = .ok (.agg (cpC 0 0 false)) w := (zero_of_info infVC).1 w
theorem notEqB (o1 o2 : Operand) (b : Bool) (w : World) : (do eqGuard .eql 4 o1 o2 (.bool (!b)) (.bool b); binOp .eql 4 (.bool (!b)) (.bool b) : Sem Value).run Tryd.prog w = .ok (.bool false) w := by
  cases b <;> go_simp
def baseT : T3 := ⟨Ec.gX, Ec.gY, 1⟩
theorem baseT_ok : baseT.ok refP := ⟨by decide, by decide, by decide⟩
theorem baseT_is : baseT.is Ec.baseP := by
  refine ⟨by show Ec.c 1 ≠ 0; decide, ?_, ?_⟩
  · show Ec.c Ec.gX = Ec.c Ec.gX * Ec.c 1
    have : Ec.c 1 = 1 := rfl
    rw [this]; grobner
  · show Ec.c Ec.gY = Ec.c Ec.gY * Ec.c 1
    have : Ec.c 1 = 1 := rfl
    rw [this]; grobner
theorem big_2 : big = 2 ^ 256 := by decide +kernel
/-- what Times answers -/
theorem times_is (n : Nat) (t : T3) (P : Ec.Pnt) (hn : n < big) (ht : t.ok refP) (hP : Ec.OnP P) (h : t.is P) : (sumS refP n t 256).ok refP ∧ (sumS refP n t 256).is (Ec.smul n P) := by
  refine ⟨sumS_ok fldOK_P refP_eq ht 256, ?_⟩
  have e := sumS_is (n := n) fldOK_P refP_eq ht hP h 256
  rw [Nat.mod_eq_of_lt (by rw [← big_2]; exact hn)] at e
  exact e
attribute [local go_sem] zero16 zero48 one16 zero17c
end Go.Proofs.YtflkhlhpifmocaaDoor
namespace Go.Proofs.YtflkhlhpifmocaaDoor
open Go.RowKit

theorem part0 (X Y : Nat) (b : Bool) (W : World) : (part 30 (cpC X Y b) 0).run Tryd.prog W = .ok (.agg (nums X)) W := by kernel_rfl
theorem part8 (X Y : Nat) (b : Bool) (W : World) : (part 30 (cpC X Y b) 8).run Tryd.prog W = .ok (.agg (nums Y)) W := by kernel_rfl
theorem part16 (X Y : Nat) (b : Bool) (W : World) : (part 4 (cpC X Y b) 16).run Tryd.prog W = .ok (.bool b) W := by kernel_rfl
theorem eqIn8 (d x : Nat) (W : World) : (Op.equalIn (d + 2) 30 (.agg (nums x)) (.agg (nums x))).run Tryd.prog W = .ok true W := by
  obtain ⟨i, hi, _, hs, _⟩ := info_parts info32'
  have h := run_equalIn_tab (P := Tryd.prog) W (d + 1) 30 28 8 .u32 .u32 i (fun j => ((dg 4294967296 x j : Nat) : Int)) (fun j => ((dg 4294967296 x j : Nat) : Int)) Tryd.underlying30 Tryd.underlying28 hi hs (fun a b W => run_equalIn_int (P := Tryd.prog) (w := W) d 28 .u32 .u32 a b Tryd.underlying28)
  rw [sameTo_refl] at h
  exact h
theorem eqFields1 (d : Nat) (X Y : Nat) (b : Bool) (W : World) : (Op.eqFields (d + 2) (cpC X Y b) (cpC X Y b) (Tryd.prog.fieldsOf 32).toList).run Tryd.prog W = .ok true W := by
  cases hf : (Tryd.prog.fieldsOf 32).toList with
  | nil => exact absurd hf (by intro h; have := congrArg List.length h; revert this; decide +kernel)
  | cons f0 l =>
    have h0 : (Tryd.prog.fieldsOf 32).toList.head? = some f0 := by rw [hf]; rfl
    have h1 : (Tryd.prog.fieldsOf 32).toList.tail = l := by rw [hf]; rfl
    have e0 : ((Tryd.prog.fieldsOf 32).toList.head?).map (fun f => (f.name, f.type, f.offset)) = some ("X", 30, 0) := by kernel_rfl
    have e1 : (Tryd.prog.fieldsOf 32).toList.tail.map (fun f => (f.name, f.type, f.offset)) = [("Y", 30, 8), ("None", 4, 16)] := by kernel_rfl
    rw [h0] at e0
    rw [h1] at e1
    clear hf h0 h1
    obtain ⟨n0, t0, o0⟩ : f0.name = "X" ∧ f0.type = 30 ∧ f0.offset = 0 := by simpa using e0
    rcases l with _ | ⟨f1, _ | ⟨f2, _ | ⟨f3, l⟩⟩⟩
    · simp at e1
    · simp at e1
    · obtain ⟨⟨n1, t1, o1⟩, n2, t2, o2⟩ : (f1.name = "Y" ∧ f1.type = 30 ∧ f1.offset = 8) ∧ f2.name = "None" ∧ f2.type = 4 ∧ f2.offset = 16 := by simpa using e1
      have m0 : f0.name ≠ "_" := by rw [n0]; decide
      have m1 : f1.name ≠ "_" := by rw [n1]; decide
      have m2 : f2.name ≠ "_" := by rw [n2]; decide
      have hb := fun W => run_equalIn_bool (P := Tryd.prog) W (d + 1) 4 b b (by kernel_rfl)
      simp only [Op.eqFields, if_pos m0, if_pos m1, if_pos m2, t0, o0, t1, o1, t2, o2, Sem.run_bind, part0, part8, part16, Result.andThen_ok, eqIn8, Bool.not_true, Bool.false_eq_true, if_false, Sem.run_pure, hb, beq_self_eq_true]
    · simp at e1
theorem cpEql (X Y : Nat) (b : Bool) (W : World) : (binOp .eql 32 (.agg (cpC X Y b)) (.agg (cpC X Y b))).run Tryd.prog W = .ok (.bool true) W := by
  rw [run_eql_struct, run_equalIn_struct W 9999 32 _ _ (by kernel_rfl) (by kernel_rfl), eqFields1 9997]
  rfl
theorem cpEq (o1 o2 : Operand) (X Y : Nat) (b : Bool) (w : World) : (do eqGuard .eql 32 o1 o2 (.agg (cpC X Y b)) (.agg (cpC X Y b)); binOp .eql 32 (.agg (cpC X Y b)) (.agg (cpC X Y b)) : Sem Value).run Tryd.prog w = .ok (.bool true) w := by
  have es := fun W => cpEql X Y b W
  rw [Sem.run_bind, run_eqGuard_agg (P := Tryd.prog) w .eql 32 o1 o2 _ _ (by kernel_rfl), Result.andThen_ok]
  exact es w
theorem buildNone (W : World) : (Instr.build 32 #[(2, .bool true)]).run Tryd.prog W = .ok (.agg (cpC 0 0 true)) W := by kernel_rfl
theorem buildTwo (W : World) : (Instr.build 30 #[(0, .int .u32 2)]).run Tryd.prog W = .ok (.agg (nums 2)) W := by kernel_rfl
theorem two_lt : 2 < big := by decide +kernel
attribute [local go_sem] zero16 zero48 one16 zero17c
end Go.Proofs.YtflkhlhpifmocaaDoor
namespace Go.Proofs.YtflkhlhpifmocaaDoor
open Go.RowKit

theorem wpQ_field {P : Program} {ops : Array Oper} {rest : List Oper} {o : Oper} {a : Act} {C : World → Prop} {L : Act → Prop} (t : TypeId) (x : Operand) (i : Nat) (ho : o.op = .field t x i) (hw : Region.wanted o (yielded ops a.tmps) = true) (X : Value) (hx : a.eval x = X) (v : Value)
    (hrun : ∀ w, C w → (Instr.field t X i).run P w = .ok v w) (h : wpQuiet P ops C L rest (a.put o.dst v)) : wpQuiet P ops C L (o :: rest) a :=
  wpQ_val hw v (fun w hC => by
    have e := hrun w hC
    simp only [execOp, ho, hx]
    rw [Sem.run_bind, e]
    rfl) h
def kA (k : Nat) : Array Value := tab 8 fun j => .int .u32 ((if j = 0 then k else if j = 1 then 1 else 0 : Nat) : Int)
theorem buildK (k : Nat) (W : World) : (Instr.build 30 #[(0, .int .u32 (k : Int)), (1, .int .u32 1)]).run Tryd.prog W = .ok (.agg (kA k)) W := by kernel_rfl
theorem kA_eq {k : Nat} (hk : k < 4294967296) : kA k = nums (k + 4294967296) := tab_ext _ _ _ fun j hj => by
  unfold dgs dg
  congr 2
  rcases (show j = 0 ∨ j = 1 ∨ 2 ≤ j by omega) with rfl | rfl | h
  · simp; omega
  · simp; omega
  · rw [if_neg (by omega), if_neg (by omega)]
    have : (k + 4294967296) / 4294967296 ^ j = 0 := by
      refine Nat.div_eq_of_lt (Nat.lt_of_lt_of_le (show k + 4294967296 < 4294967296 ^ 2 by omega) (Nat.pow_le_pow_right (by decide) h))
    rw [this]
theorem k_lt {k : Nat} (hk : k < 4294967296) : k + 4294967296 < big := Nat.lt_of_lt_of_le (show k + 4294967296 < 4294967296 ^ 2 by omega) (Nat.pow_le_pow_right (by decide) (by decide))
attribute [local go_sem] zero17c
end Go.Proofs.YtflkhlhpifmocaaDoor
namespace Go.Proofs.YtflkhlhpifmocaaDoor
open Go.RowKit

theorem order_odd : Ec.ordN = 2 * (Ec.ordN / 2) + 1 := by decide +kernel
theorem self_neg {x y : Ec.FP} (hy : y = 0) : Ec.neg (some (x, y)) = some (x, y) := by
  subst hy
  rfl
theorem order_self {P : Ec.Pnt} (hP : Ec.OnP P) (h2 : Ec.plus P P = none) (k : Nat) : Ec.smul (2 * k + 1) P = P := by
  have e : Ec.smul (2 * k) P = none := by
    rw [← Ec.smul_smul hP 2 k]
    have e2 : Ec.smul 2 P = none := by
      show Ec.plus (Ec.plus none P) P = none
      rw [show Ec.plus none P = P from rfl]
      exact h2
    rw [e2]
    exact Ec.smul_none k
  rw [Ec.smul_succ, e]
  rfl
/-- no multiple of the base is its own mirror -/
theorem y_ne {n : Nat} {x y : Ec.FP} (h : Ec.smul n Ec.baseP = some (x, y)) : y ≠ 0 := by
  intro hy
  have hon := Ec.smul_on Ec.base_on n
  have ho := Ec.order_mult n
  rw [h] at hon ho
  have h2 : Ec.plus (some (x, y)) (some (x, y)) = none := by
    have e := Ec.add_neg Ec.cA (some (x, y))
    rw [self_neg hy] at e
    exact e
  have e := order_self hon h2 (Ec.ordN / 2)
  rw [← order_odd, ho] at e
  exact absurd e (by simp)
theorem mir_val {y : Ec.FP} (hy : y ≠ 0) : (0 - y : Ec.FP).val = Ec.pp - y.val := by
  have hl := y.isLt
  have h0 : y.val ≠ 0 := fun e => hy (Fin.ext e)
  have e : (0 - y : Ec.FP) = Ec.c (Ec.pp - y.val) := by
    have e2 := Ec.c_sub 0 y.val (Nat.le_of_lt hl)
    rw [Nat.zero_add, c_val] at e2
    exact e2.symm
  rw [e]
  exact Nat.mod_eq_of_lt (Nat.sub_lt (by decide) (Nat.pos_of_ne_zero h0))
theorem mir_v {x y : Ec.FP} (hy : y ≠ 0) : cpV (some (x, 0 - y)) = .agg (cpC x.val (Ec.pp - y.val) false) := by
  show Value.agg (cpC x.val (0 - y : Ec.FP).val false) = _
  rw [mir_val hy]
theorem mir_on {x y : Ec.FP} (h : Ec.OnP (some (x, y))) : Ec.OnP (some (x, 0 - y)) := Ec.on_neg h
theorem mir_plus (x y : Ec.FP) : Ec.plus (some (x, y)) (some (x, 0 - y)) = none := Ec.add_neg Ec.cA (some (x, y))
theorem pp_lt : Ec.pp < big := by decide +kernel
theorem sub_mir {p y : Nat} (h : y ≤ p) : nums (p + big - y) = nums (p - y) := by
  rw [← nums_mod (p + big - y), show p + big - y = (p - y) + big by omega, Nat.add_mod_right, nums_mod]
/-- a number moved up by the prime is another -/
theorem up_ne {x : Nat} (hx : x < Ec.pp) : (x + Ec.pp) % big ≠ x := by
  intro h
  have hp := pp_lt
  have p0 : 0 < Ec.pp := by decide
  have hxb : x < big := by omega
  generalize Ec.pp = p at *
  rcases Nat.lt_or_ge (x + p) big with hl | hl
  · rw [Nat.mod_eq_of_lt hl] at h
    omega
  · rw [Nat.mod_eq_sub_mod hl, Nat.mod_eq_of_lt (by omega)] at h
    omega
theorem up_nums (x : Nat) : nums (x + Ec.pp) = nums ((x + Ec.pp) % big) := (nums_mod _).symm
/-- what lies on the curve is below the prime -/
theorem up_val {X y : Nat} {r : Bool} (hr : r = true ↔ ((false : Bool) = false ∧ X < Ec.pp ∧ y < Ec.pp ∧ Ec.OnP (some (Ec.c X, Ec.c y)))) : (!r || decide (cmpI X Ec.pp < 0)) = true := by
  cases r with
  | false => rfl
  | true =>
    have h := (hr.1 rfl).2.1
    have e : cmpI X Ec.pp < 0 := by
      unfold cmpI
      rw [if_neg (by omega), if_pos h]
      decide
    rw [decide_eq_true e]
    rfl
theorem cmp_lt (a b : Nat) : (cmpI a b < 0) ↔ a < b := by
  unfold cmpI
  constructor
  · intro h
    by_cases h1 : a = b
    · rw [if_pos h1] at h; exact absurd h (by decide)
    · by_cases h2 : a < b
      · exact h2
      · rw [if_neg h1, if_neg h2] at h; exact absurd h (by decide)
  · intro h
    rw [if_neg (by omega), if_pos h]
    decide
/-- the program's curve and the reference's agree on any two numbers -/
theorem on_same {x y : Nat} {r b : Bool} (hr : r = true ↔ ((false : Bool) = false ∧ x < Ec.pp ∧ y < Ec.pp ∧ Ec.OnP (some (Ec.c x, Ec.c y))))
    (hx : x < Ec.pp) (hy : y < Ec.pp) (hb : b = true ↔ Ec.OnP (some (Ec.c x, Ec.c y))) : r = b := by
  cases r with
  | true => exact ((hb.2 (hr.1 rfl).2.2.2).symm)
  | false =>
    cases b with
    | false => rfl
    | true => exact absurd (hr.2 ⟨rfl, hx, hy, hb.1 rfl⟩) (by decide)
theorem on_above {x y : Nat} {r : Bool} (hr : r = true ↔ ((false : Bool) = false ∧ x < Ec.pp ∧ y < Ec.pp ∧ Ec.OnP (some (Ec.c x, Ec.c y))))
    (h : ¬ (x < Ec.pp ∧ y < Ec.pp)) : r = false := by
  cases r with
  | false => rfl
  | true => exact absurd ⟨(hr.1 rfl).2.1, (hr.1 rfl).2.2.1⟩ h
end Go.Proofs.YtflkhlhpifmocaaDoor
namespace Go.Proofs.YtflkhlhpifmocaaDoor
open Go.RowKit

theorem cp_setX (X Y v : Nat) (b : Bool) : (tab 17 fun j => if 0 ≤ j ∧ j < 0 + 8 then dgs .u32 4294967296 v (j - 0) else cpF X Y b j) = cpC v Y b := tab_ext _ _ _ fun j hj => by
  unfold cpF dgs
  by_cases h : j < 8
  · rw [if_pos (by omega), if_pos h]; rfl
  · rw [if_neg (by omega), if_neg h, if_neg h]
theorem cp_setY (X Y v : Nat) (b : Bool) : (tab 17 fun j => if 8 ≤ j ∧ j < 8 + 8 then dgs .u32 4294967296 v (j - 8) else cpF X Y b j) = cpC X v b := tab_ext _ _ _ fun j hj => by
  unfold cpF dgs
  by_cases h : 8 ≤ j ∧ j < 8 + 8
  · rw [if_pos h, if_neg (by omega), if_pos (by omega)]; rfl
  · rw [if_neg h]
    by_cases h8 : j < 8
    · simp only [if_pos h8]
    · have h16 : ¬ j < 16 := by omega
      simp only [if_neg h8, if_neg h16]
theorem wpList_store_w8 {w : World} {ops : Array Oper} {rest : List Oper} {op : Oper} {a : Act} {Q : Exit → Act → World → Prop} (hgd : op.guard = none) (x y : Operand) (ho : op.op = .store 30 x y)
    (g off : Nat) (hx : a.eval x = .pointer (some ⟨g, off, none⟩)) (v : Nat) (hy : a.eval y = .agg (nums v))
    (N : Nat) (f : Nat → Value) (t : TypeId) (hg : Has w g t (tab N f)) (hfit : off + 8 ≤ N) (cs : Array Value) (hcs : (tab N fun j => if off ≤ j ∧ j < off + 8 then dgs .u32 4294967296 v (j - off) else f j) = cs)
    (h : wpList Tryd.prog ops Q rest (a.put op.dst undef) (w.setRow g cs)) : wpList Tryd.prog ops Q (op :: rest) a w := by
  refine wpList_plain hgd fun K hK => ?_
  have hl : (w8L v).length = 8 := w8L_len v
  have hrun := run_storeCells_at (P := Tryd.prog) g off t (w8L v) 0 (tab N f) w hg (by rw [hl, tab_size]; omega) (fun u hu => by obtain ⟨j, _, rfl⟩ := List.mem_map.1 hu; rfl)
  have e := tab_splice N f (dgs .u32 4294967296 v) off 8 hfit
  rw [hl, Nat.add_zero, List.append_assoc, show w8L v = (List.range 8).map (dgs .u32 4294967296 v) from rfl, e, hcs] at hrun
  have hi := infoNum v
  rw [nums_size] at hi
  have hs : (storeVar 30 ⟨g, off, none⟩ (.agg (nums v))).run Tryd.prog w = .ok () (w.setRow g cs) := by
    cases hq : Tryd.prog.info? 30 with
    | none => simp [hq] at hi
    | some i =>
      have hs : i.size = 8 := by simpa [hq] using hi
      have hv : (nums v).toList = (List.range 8).map (dgs .u32 4294967296 v) := tab_toList _ _
      simp [storeVar, sizeOf, typeInfo, hq, Value.cells, hs, nums_size, hv, hrun]
  unfold Oper.wp execOp
  simp only [ho, hx, hy, Instr.storeAt, Instr.sureAddr, Sem.run_bind, Sem.run_pure, Result.andThen_ok, hs]
  exact hK _ _ h
/-- a field of a point, loaded where the steps have an order -/
theorem wpList_load_w8 {w : World} {ops : Array Oper} {rest : List Oper} {op : Oper} {a : Act} {Q : Exit → Act → World → Prop} (hgd : op.guard = none) (p : Operand) (ho : op.op = .load 30 p) (b o : Nat) (hp : a.eval p = .pointer (some ⟨b, o, none⟩)) (x : Nat) (hc : w.rangeAt b o (w8L x))
    (h : wpList Tryd.prog ops Q rest (a.put op.dst (.agg (nums x))) w) : wpList Tryd.prog ops Q (op :: rest) a w := by
  rw [← w8L_arr] at h
  exact wpList_load_mid hgd 30 p ho b o hp (w8L x) _ hc Tryd.underlying30 rfl (infoW8 x) h
end Go.Proofs.YtflkhlhpifmocaaDoor
namespace Go.Proofs.YtflkhlhpifmocaaDoor
open Go.RowKit

/-- what a number in Montgomery's form stands for -/
def mo (a : Nat) : Ec.FP := Ec.c (redc Ec.pp a)
theorem pp_odd : Ec.pp % 2 = 1 ∧ 1 < Ec.pp ∧ 0 < Ec.pp := by decide +kernel
theorem cR_ne : Ec.c RR ≠ 0 := by unfold RR; decide +kernel
theorem mo_R (a : Nat) : Ec.c RR * mo a = Ec.c a := by
  unfold mo
  rw [← Ec.c_mul]
  exact Ec.c_eq (redc_eq Ec.pp a pp_odd.1)
theorem mo_of {a : Nat} {x : Ec.FP} (h : Ec.c RR * x = Ec.c a) : mo a = x := Ec.fldP.cancel ((mo_R a).trans h.symm) cR_ne
theorem mo_add (a b : Nat) : mo ((a + b) % Ec.pp) = mo a + mo b := mo_of (by
  rw [Ec.c_mod, Ec.c_add, ← mo_R a, ← mo_R b]
  generalize Ec.c RR = r
  grobner)
theorem mo_sub (a b : Nat) (hb : b ≤ Ec.pp) : mo ((a + (Ec.pp - b)) % Ec.pp) = mo a - mo b := mo_of (by
  rw [Ec.c_mod, Ec.c_sub _ _ hb, ← mo_R a, ← mo_R b]
  generalize Ec.c RR = r
  grobner)
theorem mo_mul (a b : Nat) : mo (redc Ec.pp (a * b)) = mo a * mo b := mo_of (Ec.fldP.cancel (c := Ec.c RR) (by
  have h1 : Ec.c RR * Ec.c (redc Ec.pp (a * b)) = Ec.c (a * b) := mo_R (a * b)
  rw [h1, Ec.c_mul, ← mo_R a, ← mo_R b]
  clear h1
  generalize Ec.c RR = r
  grobner) cR_ne)
theorem mo_in (a : Nat) : mo (a * RR % Ec.pp) = Ec.c a := by
  unfold mo
  rw [out_in Ec.pp a pp_odd.1, Ec.c_mod]
theorem c_one : Ec.c 1 = 1 := rfl
theorem mo_one : mo (RR % Ec.pp) = 1 := by
  have h := mo_in 1
  rw [Nat.one_mul] at h
  exact h.trans c_one
theorem mo_zero : mo 0 = 0 := mo_of (by rw [show Ec.c 0 = 0 from rfl]; grobner)
theorem mo_eq0 {a : Nat} (ha : a < Ec.pp) (h : mo a = 0) : a = 0 := by
  have h1 := mo_R a
  rw [h] at h1
  apply Classical.byContradiction
  intro h0
  refine Ec.c_zero ha h0 ?_
  rw [← h1]
  clear h h1
  generalize Ec.c RR = r
  grobner
theorem mo_inj {a b : Nat} (ha : a < Ec.pp) (hb : b < Ec.pp) (h : mo a = mo b) : a = b := by
  refine c_inj ha hb ?_
  rw [← mo_R a, ← mo_R b, h]
theorem mo_val (a : Nat) : (mo a).val = redc Ec.pp a := Nat.mod_eq_of_lt (redc_lt Ec.pp a pp_odd.2.2)
theorem mo_inv {a : Nat} (ha : mo a ≠ 0) : mo a * mo (powN Ec.pp a (Ec.pp - 2)) = 1 := by
  have h1 : mo (powN Ec.pp a (Ec.pp - 2)) = Ec.c (redc Ec.pp a ^ (Ec.pp - 2) % Ec.pp) := by
    unfold powN
    rw [mo_in, Ec.c_mod]
  rw [h1]
  exact c_invN ha
theorem mo_big {a : Nat} (ha : a < Ec.pp) : a < big := Nat.lt_trans ha (by decide +kernel)

/- the same over a variable -/
section
variable {m : Nat} (h : m = Ec.pp)
include h
theorem mA (a b : Nat) : mo ((a + b) % m) = mo a + mo b := by subst h; exact mo_add a b
theorem mS (a b : Nat) (hb : b ≤ m) : mo ((a + (m - b)) % m) = mo a - mo b := by subst h; exact mo_sub a b hb
theorem mT (a b : Nat) : mo (redc m (a * b)) = mo a * mo b := by subst h; exact mo_mul a b
end
/-- three times a number; a1 b2 + b1 a2 -/
def triN (m a : Nat) : Nat := ((a + a) % m + a) % m
def crsN (m a1 b1 a2 b2 s : Nat) : Nat := (redc m (((a1 + b1) % m) * ((a2 + b2) % m)) + (m - s)) % m
theorem triN_lt {m : Nat} (a : Nat) (h : 0 < m) : triN m a < m := Nat.mod_lt _ h
theorem crsN_lt {m : Nat} (a1 b1 a2 b2 s : Nat) (h : 0 < m) : crsN m a1 b1 a2 b2 s < m := Nat.mod_lt _ h
theorem mTri {m : Nat} (h : m = Ec.pp) (a : Nat) : mo (triN m a) = 3 * mo a := by
  unfold triN
  rw [mA h, mA h]
  grobner
theorem mCrs {m : Nat} (h : m = Ec.pp) (a1 b1 a2 b2 s : Nat) (hs : s ≤ m) : mo (crsN m a1 b1 a2 b2 s) = (mo a1 + mo b1) * (mo a2 + mo b2) - mo s := by
  unfold crsN
  rw [mS h _ _ hs, mT h, mA h, mA h]
theorem madd_any (a b m g : Nat) (w : World) (h : IsMod w g m) (ha : a < m) (hb : b < m) : Calls Tryd.prog 66 #[.pointer (some ⟨g, 0, none⟩), .agg (nums a), .agg (nums b)] w fun e w' => e = .returned (.agg (nums ((a + b) % m))) ∧ Below w.heap.size w w' := by
  obtain ⟨ni, i1, i2, i3, i4, i5, i6⟩ := h
  exact addm_any a b m ni _ _ g w i6 ha hb i5
theorem msub_any (a b m g : Nat) (w : World) (h : IsMod w g m) (ha : a < m) (hb : b < m) : Calls Tryd.prog 67 #[.pointer (some ⟨g, 0, none⟩), .agg (nums a), .agg (nums b)] w fun e w' => e = .returned (.agg (nums ((a + (m - b)) % m))) ∧ Below w.heap.size w w' := by
  obtain ⟨ni, i1, i2, i3, i4, i5, i6⟩ := h
  exact subm_any a b m ni _ _ g w i6 ha hb i5

/- the package's variables -/
theorem range_after {w w' : World} {g o : Nat} {L : List Value} (h : w.rangeAt g o L) (hl : g < w.heap.size) (k : Below w.heap.size w w') : w'.rangeAt g o L := fun j v hv => by
  exact (k.cell (p := ⟨g, o + j, none⟩) hl).trans (h j v hv)
structure Laid (w : World) : Prop where
  p : w.rangeAt 0 0 (wordsL Ec.pp)
  b : w.rangeAt 1 0 (wordsL bN)
  x : w.rangeAt 3 0 (wordsL Ec.gX)
  y : w.rangeAt 4 0 (wordsL Ec.gY)
  o : w.rangeAt 2 0 (wordsL Ec.ordN)
  size : 5 ≤ w.heap.size
theorem Laid.after {w w' : World} (h : Laid w) (k : Below w.heap.size w w') : Laid w' :=
  have hs := h.size
  ⟨range_after h.p (Nat.lt_of_lt_of_le (by decide) hs) k, range_after h.b (Nat.lt_of_lt_of_le (by decide) hs) k, range_after h.x (Nat.lt_of_lt_of_le (by decide) hs) k, range_after h.y (Nat.lt_of_lt_of_le (by decide) hs) k,
    range_after h.o (Nat.lt_of_lt_of_le (by decide) hs) k, Nat.le_trans hs k.size⟩

/-- a Curve's cells: the field, b -/
def crvF (f bm : Nat) (j : Nat) : Value := if j = 0 then .pointer (some ⟨f, 0, none⟩) else .int .u32 ((wrd bm (j - 1) : Nat) : Int)
def crvC (f bm : Nat) : Array Value := tab 9 (crvF f bm)
theorem crvC_size (f bm : Nat) : (crvC f bm).size = 9 := tab_size _ _
theorem infoCrv (f bm : Nat) : (Tryd.prog.info? 77).map (·.size) = some (crvC f bm).size := by rw [crvC_size]; kernel_rfl
section
variable {w : World} {g f bm : Nat}
theorem crv_f (h : Has w g 77 (crvC f bm)) : w.cell? ⟨g, 0, none⟩ = some (.pointer (some ⟨f, 0, none⟩)) := h.cellTab 0 (by omega)
theorem crv_b (h : Has w g 77 (crvC f bm)) : w.rangeAt g 1 (wordsL bm) := by
  have := Has.range h 1 8 (by omega)
  have e : (List.range 8).map (fun j => crvF f bm (1 + j)) = wordsL bm := by
    unfold wordsL
    apply List.map_congr_left
    intro j hj
    have h1 : ¬ 1 + j = 0 := by omega
    simp only [crvF, dgs, wrd, if_neg h1, Nat.add_sub_cancel_left]
  rw [e] at this
  exact this
end
theorem cell_ptr (g j : Nat) (v : Value) (w : World) (h : w.cell? ⟨g, j, none⟩ = some v) : (Instr.loadAt 72 (.pointer (some ⟨g, j, none⟩))).run Tryd.prog w = .ok v w := by
  go_simp
/-- block g is a Curve over the modulus m, its b in Montgomery's form bm -/
def IsCrv (m bm : Nat) (w : World) (g : Nat) : Prop := ∃ f, Has w g 77 (crvC f bm) ∧ IsMod w f m ∧ Laid w
theorem IsCrv.after {m bm : Nat} {w w' : World} {g : Nat} (h : IsCrv m bm w g) (k : Below w.heap.size w w') : IsCrv m bm w' g := by
  obtain ⟨f, h1, h2, h3⟩ := h
  exact ⟨f, h1.after k, h2.after k, h3.after k⟩

/-- projective coordinates: the cells -/
def pjF (X Y Z j : Nat) : Value := .int .u32 ((if j < 8 then wrd X j else if j < 16 then wrd Y (j - 8) else wrd Z (j - 16) : Nat) : Int)
def pjC (X Y Z : Nat) : Array Value := tab 24 (pjF X Y Z)
theorem pjC_size (X Y Z : Nat) : (pjC X Y Z).size = 24 := tab_size _ _
theorem infoPj (X Y Z : Nat) : (Tryd.prog.info? 107).map (·.size) = some (pjC X Y Z).size := by rw [pjC_size]; kernel_rfl
set_option maxRecDepth 100000 in
theorem buildPj (X Y Z : Nat) (W : World) : (Instr.build 107 #[(0, .agg (nums X)), (1, .agg (nums Y)), (2, .agg (nums Z))]).run Tryd.prog W = .ok (.agg (pjC X Y Z)) W := by kernel_rfl
theorem buildPj1 (Y : Nat) (W : World) : (Instr.build 107 #[(1, .agg (nums Y))]).run Tryd.prog W = .ok (.agg (pjC 0 Y 0)) W := by kernel_rfl
theorem zero24 : (#[Value.int IntKind.u32 0, Value.int IntKind.u32 0, Value.int IntKind.u32 0, Value.int IntKind.u32 0, Value.int IntKind.u32 0, Value.int IntKind.u32 0, Value.int IntKind.u32 0, Value.int IntKind.u32 0, Value.int IntKind.u32 0, Value.int IntKind.u32 0, Value.int IntKind.u32 0, Value.int IntKind.u32 0, Value.int IntKind.u32 0, Value.int IntKind.u32 0, Value.int IntKind.u32 0, Value.int IntKind.u32 0, Value.int IntKind.u32 0, Value.int IntKind.u32 0, Value.int IntKind.u32 0, Value.int IntKind.u32 0, Value.int IntKind.u32 0, Value.int IntKind.u32 0, Value.int IntKind.u32 0, Value.int IntKind.u32 0] : Array Value) = pjC 0 0 0 := by kernel_rfl
theorem infVP : (Tryd.prog.info? 107).map (fun i => (i.zero, i.size)) = some (some (.agg (pjC 0 0 0)), 24) := by kernel_rfl
theorem zeroVP (w : World) : (zeroValue 107).run Tryd.prog w = .ok (.agg (pjC 0 0 0)) w := (zero_of_info infVP).1 w
section
variable {w : World} {g X Y Z : Nat}
theorem pj_x (h : Has w g 107 (pjC X Y Z)) : w.rangeAt g 0 (wordsL X) := by
  have := Has.range h 0 8 (by omega)
  have e : (List.range 8).map (fun j => pjF X Y Z (0 + j)) = wordsL X := by
    unfold wordsL
    apply List.map_congr_left
    intro j hj
    have : j < 8 := by simpa using hj
    simp [pjF, dgs, wrd, this]
  rw [e] at this
  exact this
theorem pj_y (h : Has w g 107 (pjC X Y Z)) : w.rangeAt g 8 (wordsL Y) := by
  have := Has.range h 8 8 (by omega)
  have e : (List.range 8).map (fun j => pjF X Y Z (8 + j)) = wordsL Y := by
    unfold wordsL
    apply List.map_congr_left
    intro j hj
    have h8 : j < 8 := by simpa using hj
    have h1 : ¬ 8 + j < 8 := by omega
    have h2 : 8 + j < 16 := by omega
    simp only [pjF, dgs, wrd, if_neg h1, if_pos h2, Nat.add_sub_cancel_left]
  rw [e] at this
  exact this
theorem pj_z (h : Has w g 107 (pjC X Y Z)) : w.rangeAt g 16 (wordsL Z) := by
  have := Has.range h 16 8 (by omega)
  have e : (List.range 8).map (fun j => pjF X Y Z (16 + j)) = wordsL Z := by
    unfold wordsL
    apply List.map_congr_left
    intro j hj
    have h8 : j < 8 := by simpa using hj
    have h1 : ¬ 16 + j < 8 := by omega
    have h2 : ¬ 16 + j < 16 := by omega
    simp only [pjF, dgs, wrd, if_neg h1, if_neg h2, Nat.add_sub_cancel_left]
  rw [e] at this
  exact this
end
theorem w8L_words (x : Nat) : w8L x = wordsL x := rfl
end Go.Proofs.YtflkhlhpifmocaaDoor
namespace Go.Proofs.YtflkhlhpifmocaaDoor
open Go.RowKit
attribute [local go_sem] u32_xor_w u32_and_w u32_add_w

theorem ret_u32 {a b : Int} (h : a = b) : Ending.returned (.int .u32 a) = .returned (.int .u32 b) := by rw [h]

set_option maxHeartbeats 400000 in
theorem rotl_any (x : UInt32) (n : Nat) (w : World) (h0 : 1 ≤ n) (hn : n ≤ 31) :
    Calls Tryd.prog 99 #[.int .u32 x.toNat, .int .i64 (-(n : Int))] w fun e w' => e = .returned (.int .u32 (rotr n x).toNat) ∧ w = w' := by
  have hb := neg_count n h0 hn
  go_enter Tryd.func99, Tryd.ntmps99
  go_wp2
  go_ret
  exact ⟨ret_u32 (rotr_walk n x h0 hn), rfl⟩

set_option maxHeartbeats 400000 in
theorem rotr_any (x : UInt32) (n : Nat) (w : World) (h0 : 1 ≤ n) (hn : n ≤ 31) :
    Calls Tryd.prog 98 #[.int .u32 x.toNat, .int .i64 n] w fun e w' => e = .returned (.int .u32 (rotr n x).toNat) ∧ w = w' := by
  go_enter Tryd.func98, Tryd.ntmps98
  go_wp2_with (go_at_call 99; refine (rotl_any _ _ _ h0 hn).mono ?_; rintro e w' ⟨rfl, rfl⟩)
  go_ret
  exact ⟨rfl, rfl⟩

set_option maxHeartbeats 400000 in
theorem mix_any (x : UInt32) (i j k : Nat) (w : World) (hi0 : 1 ≤ i) (hi : i ≤ 31) (hj0 : 1 ≤ j) (hj : j ≤ 31) (hk0 : 1 ≤ k) (hk : k ≤ 31) :
    Calls Tryd.prog 96 #[.int .u32 x.toNat, .int .i64 i, .int .i64 j, .int .i64 k] w fun e w' => e = .returned (.int .u32 (mix i j k x).toNat) ∧ w = w' := by
  go_enter Tryd.func96, Tryd.ntmps96
  go_wp2_with (go_at_call 98; refine (rotr_any _ _ _ (by omega) (by omega)).mono ?_; rintro e w' ⟨rfl, rfl⟩)
  go_ret
  exact ⟨rfl, rfl⟩

set_option maxHeartbeats 400000 in
theorem mixS_any (x : UInt32) (i j k : Nat) (w : World) (hi0 : 1 ≤ i) (hi : i ≤ 31) (hj0 : 1 ≤ j) (hj : j ≤ 31) (hk : k ≤ 31) :
    Calls Tryd.prog 97 #[.int .u32 x.toNat, .int .i64 i, .int .i64 j, .int .i64 k] w fun e w' => e = .returned (.int .u32 (mixS i j k x).toNat) ∧ ∃ n, w' = w.drewN n := by
  have hs := shr_w k x
  go_enter Tryd.func97, Tryd.ntmps97
  go_wp2_with fail
  go_quiet ((go_at_call 98; exact Calls.quiet_of_same ((rotr_any _ _ _ (by omega) (by omega)).mono fun _ _ ⟨he, hw⟩ => ⟨he, hw.symm⟩)))
  go_wp2
  go_ret
  exact ⟨rfl, _, rfl⟩
theorem mixS_int (x : UInt32) (i j k : Int) (w : World) (hi : 1 ≤ i ∧ i ≤ 31) (hj : 1 ≤ j ∧ j ≤ 31) (hk : 0 ≤ k ∧ k ≤ 31) :
    Calls Tryd.prog 97 #[.int .u32 x.toNat, .int .i64 i, .int .i64 j, .int .i64 k] w fun e w' => e = .returned (.int .u32 (mixS i.toNat j.toNat k.toNat x).toNat) ∧ ∃ n, w' = w.drewN n := by
  have h := mixS_any x i.toNat j.toNat k.toNat w (by omega) (by omega) (by omega) (by omega) (by omega)
  rwa [Int.toNat_of_nonneg (by omega), Int.toNat_of_nonneg (by omega), Int.toNat_of_nonneg (by omega)] at h
theorem mix_int (x : UInt32) (i j k : Int) (w : World) (hi : 1 ≤ i ∧ i ≤ 31) (hj : 1 ≤ j ∧ j ≤ 31) (hk : 1 ≤ k ∧ k ≤ 31) :
    Calls Tryd.prog 96 #[.int .u32 x.toNat, .int .i64 i, .int .i64 j, .int .i64 k] w fun e w' => e = .returned (.int .u32 (mix i.toNat j.toNat k.toNat x).toNat) ∧ w = w' := by
  have h := mix_any x i.toNat j.toNat k.toNat w (by omega) (by omega) (by omega) (by omega) (by omega) (by omega)
  rwa [Int.toNat_of_nonneg (by omega), Int.toNat_of_nonneg (by omega), Int.toNat_of_nonneg (by omega)] at h
end Go.Proofs.YtflkhlhpifmocaaDoor
namespace Go.Proofs.YtflkhlhpifmocaaDoor
open Go

def by8 (b : UInt8) : Value := .int .u8 (b.toNat : Int)
/-- the words of a block -/
def W0 (b : Nat → UInt8) (i : Nat) : UInt32 := word (b (4 * i)) (b (4 * i + 1)) (b (4 * i + 2)) (b (4 * i + 3))
def nextW (x16 x7 x15 x2 : UInt32) : UInt32 := wadd (wadd (wadd x16 x7) (mixS 7 18 3 x15)) (mixS 17 19 10 x2)
/-- the first k words, the newest first -/
def sched (b : Nat → UInt8) : Nat → List UInt32
  | 0 => []
  | k + 1 => let l := sched b k; (if k < 16 then W0 b k else nextW (l.getD 15 0) (l.getD 6 0) (l.getD 14 0) (l.getD 1 0)) :: l
def W (b : Nat → UInt8) (i : Nat) : UInt32 := (sched b (i + 1)).getD 0 0
theorem sched_len (b : Nat → UInt8) (k : Nat) : (sched b k).length = k := by
  induction k with
  | zero => rfl
  | succ k ih => simp [sched, ih]
theorem sched_get (b : Nat → UInt8) (k j : Nat) (h : j < k) : (sched b k).getD j 0 = W b (k - 1 - j) := by
  induction k generalizing j with
  | zero => omega
  | succ k ih =>
    cases j with
    | zero => simp [W]
    | succ j =>
      have e : k + 1 - 1 - (j + 1) = k - 1 - j := by omega
      rw [e, ← ih j (by omega)]
      simp [sched]
theorem W_lo (b : Nat → UInt8) (i : Nat) (h : i < 16) : W b i = W0 b i := by simp [W, sched, h]
theorem W_hi (b : Nat → UInt8) (i : Nat) (h : 16 ≤ i) : W b i = nextW (W b (i - 16)) (W b (i - 7)) (W b (i - 15)) (W b (i - 2)) := by
  have e : W b i = nextW ((sched b i).getD 15 0) ((sched b i).getD 6 0) ((sched b i).getD 14 0) ((sched b i).getD 1 0) := by
    have h' : ¬ i < 16 := by omega
    simp [W, sched, h']
  rw [e, sched_get b i 15 (by omega), sched_get b i 6 (by omega), sched_get b i 14 (by omega), sched_get b i 1 (by omega)]
  have e1 : i - 1 - 15 = i - 16 := by omega
  have e2 : i - 1 - 6 = i - 7 := by omega
  have e3 : i - 1 - 14 = i - 15 := by omega
  have e4 : i - 1 - 1 = i - 2 := by omega
  rw [e1, e2, e3, e4]

def consts : List UInt32 := [0x428A2F98, 0x71374491, 0xB5C0FBCF, 0xE9B5DBA5, 0x3956C25B, 0x59F111F1, 0x923F82A4, 0xAB1C5ED5,
  0xD807AA98, 0x12835B01, 0x243185BE, 0x550C7DC3, 0x72BE5D74, 0x80DEB1FE, 0x9BDC06A7, 0xC19BF174,
  0xE49B69C1, 0xEFBE4786, 0x0FC19DC6, 0x240CA1CC, 0x2DE92C6F, 0x4A7484AA, 0x5CB0A9DC, 0x76F988DA,
  0x983E5152, 0xA831C66D, 0xB00327C8, 0xBF597FC7, 0xC6E00BF3, 0xD5A79147, 0x06CA6351, 0x14292967,
  0x27B70A85, 0x2E1B2138, 0x4D2C6DFC, 0x53380D13, 0x650A7354, 0x766A0ABB, 0x81C2C92E, 0x92722C85,
  0xA2BFE8A1, 0xA81A664B, 0xC24B8B70, 0xC76C51A3, 0xD192E819, 0xD6990624, 0xF40E3585, 0x106AA070,
  0x19A4C116, 0x1E376C08, 0x2748774C, 0x34B0BCB5, 0x391C0CB3, 0x4ED8AA4A, 0x5B9CCA4F, 0x682E6FF3,
  0x748F82EE, 0x78A5636F, 0x84C87814, 0x8CC70208, 0x90BEFFFA, 0xA4506CEB, 0xBEF9A3F7, 0xC67178F2]
def inits : List UInt32 := [0x6A09E667, 0xBB67AE85, 0x3C6EF372, 0xA54FF53A, 0x510E527F, 0x9B05688C, 0x1F83D9AB, 0x5BE0CD19]
def KC (i : Nat) : UInt32 := consts.getD i 0
def IV (i : Nat) : UInt32 := inits.getD i 0

structure St where
  a : UInt32
  b : UInt32
  c : UInt32
  d : UInt32
  e : UInt32
  f : UInt32
  g : UInt32
  h : UInt32
def St.at (s : St) : Nat → UInt32
  | 0 => s.a
  | 1 => s.b
  | 2 => s.c
  | 3 => s.d
  | 4 => s.e
  | 5 => s.f
  | 6 => s.g
  | _ => s.h
def St.of (s : Nat → UInt32) : St := ⟨s 0, s 1, s 2, s 3, s 4, s 5, s 6, s 7⟩
def tOf (s : St) (k w : UInt32) : UInt32 := wadd (wadd (wadd (wadd s.h (mix 6 11 25 s.e)) (wxor (wand s.e s.f) (wand (wnot s.e) s.g))) k) w
def uOf (s : St) : UInt32 := wadd (mix 2 13 22 s.a) (wxor (wxor (wand s.a s.b) (wand s.a s.c)) (wand s.b s.c))
def St.step (s : St) (k w : UInt32) : St := ⟨wadd (tOf s k w) (uOf s), s.a, s.b, s.c, wadd s.d (tOf s k w), s.e, s.f, s.g⟩
/-- the working variables after k rounds -/
def rnds (s : Nat → UInt32) (b : Nat → UInt8) : Nat → St
  | 0 => St.of s
  | k + 1 => (rnds s b k).step (KC k) (W b k)
/-- the state after one more block -/
def comp (s : Nat → UInt32) (b : Nat → UInt8) (j : Nat) : UInt32 := wadd (s j) ((rnds s b 64).at j)

/-- the digest's byte j, of a state -/
def dig (s : Nat → UInt32) (j : Nat) : UInt8 := UInt8.ofNat ((s (j / 4)).toNat / 2 ^ (24 - 8 * (j % 4)))
theorem dig_toNat (s : Nat → UInt32) (j : Nat) : (dig s j).toNat = (s (j / 4)).toNat / 2 ^ (24 - 8 * (j % 4)) % 256 := by
  unfold dig; rw [UInt8.toNat_ofNat']
theorem dig0 (s : Nat → UInt32) (k : Nat) : by8 (dig s (4 * k)) = .int .u8 ((s k).toNat / 16777216 % 256 : Int) := by
  have e1 : 4 * k / 4 = k := by omega
  have e2 : 4 * k % 4 = 0 := by omega
  unfold by8; rw [dig_toNat, e1, e2]; rfl
theorem dig1 (s : Nat → UInt32) (k : Nat) : by8 (dig s (4 * k + 1)) = .int .u8 ((s k).toNat / 65536 % 256 : Int) := by
  have e1 : (4 * k + 1) / 4 = k := by omega
  have e2 : (4 * k + 1) % 4 = 1 := by omega
  unfold by8; rw [dig_toNat, e1, e2]; rfl
theorem dig2 (s : Nat → UInt32) (k : Nat) : by8 (dig s (4 * k + 2)) = .int .u8 ((s k).toNat / 256 % 256 : Int) := by
  have e1 : (4 * k + 2) / 4 = k := by omega
  have e2 : (4 * k + 2) % 4 = 2 := by omega
  unfold by8; rw [dig_toNat, e1, e2]; rfl
theorem dig3 (s : Nat → UInt32) (k : Nat) : by8 (dig s (4 * k + 3)) = .int .u8 ((s k).toNat % 256 : Int) := by
  have e1 : (4 * k + 3) / 4 = k := by omega
  have e2 : (4 * k + 3) % 4 = 3 := by omega
  unfold by8; rw [dig_toNat, e1, e2]; simp

/-- what stands behind a message of L bytes: how many bytes, and which -/
def padLen (L : Nat) : Nat := 9 + (119 - L % 64) % 64
def padB (L j : Nat) : UInt8 := if j = 0 then 128 else if padLen L ≤ j + 8 then UInt8.ofNat (L * 8 / 2 ^ (8 * (padLen L - 1 - j))) else 0

/-- block i of a message -/
def blk (m : List UInt8) (i j : Nat) : UInt8 := if j < 64 then m.getD (64 * i + j) 0 else 0
/-- the state after k blocks of a message -/
def foldSt (m : List UInt8) : Nat → Nat → UInt32
  | 0 => IV
  | k + 1 => comp (foldSt m k) (blk m k)
theorem blk_append (m bs : List UInt8) (i : Nat) (h : 64 * i + 64 ≤ m.length) : blk (m ++ bs) i = blk m i := by
  funext j
  unfold blk
  by_cases hj : j < 64
  · rw [if_pos hj, if_pos hj]
    simp only [List.getD_eq_getElem?_getD]
    rw [List.getElem?_append_left (by omega)]
  · rw [if_neg hj, if_neg hj]
theorem foldSt_append (m bs : List UInt8) : ∀ k, 64 * k ≤ m.length → foldSt (m ++ bs) k = foldSt m k
  | 0, _ => rfl
  | k + 1, h => by
    have h1 := foldSt_append m bs k (by omega)
    have h2 := blk_append m bs k (by omega)
    show comp _ _ = comp _ _
    rw [h1, h2]

/-- the rest's bytes, when n1 bytes more have come -/
def restOf (q n1 : Nat) (D : List UInt8) (r : Nat → UInt8) (i : Nat) : UInt8 := if q ≤ i ∧ i < q + n1 then D.getD (i - q) 0 else r i
theorem rest_step (M D : List UInt8) (n1 : Nat) (r : Nat → UInt8) (hr : ∀ j, j < M.length % 64 → r j = M.getD (64 * (M.length / 64) + j) 0) :
    ∀ i, i < M.length % 64 + n1 → restOf (M.length % 64) n1 D r i = (M ++ D.take n1).getD (64 * (M.length / 64) + i) 0 := by
  intro i hi
  unfold restOf
  simp only [List.getD_eq_getElem?_getD]
  by_cases h : i < M.length % 64
  · rw [if_neg (by omega), hr i h, List.getElem?_append_left (by omega)]
    simp only [List.getD_eq_getElem?_getD]
  · rw [if_pos (by omega), List.getElem?_append_right (by omega), List.getElem?_take, if_pos (by omega)]
    congr 2
    omega
theorem length_step (M D : List UInt8) (n1 : Nat) (hn : n1 ≤ D.length) : (M ++ D.take n1).length = M.length + n1 := by simp; omega
/-- no block has become full -/
theorem part_state (M D : List UInt8) (n1 : Nat) (hn : n1 ≤ D.length) (h : M.length % 64 + n1 < 64) :
    (M ++ D.take n1).length / 64 = M.length / 64 ∧ (M ++ D.take n1).length % 64 = M.length % 64 + n1 ∧ foldSt (M ++ D.take n1) (M.length / 64) = foldSt M (M.length / 64) := by
  rw [length_step M D n1 hn]
  exact ⟨by omega, by omega, foldSt_append _ _ _ (by omega)⟩
/-- a block has become full -/
theorem full_state (M D : List UInt8) (n1 : Nat) (hn : n1 ≤ D.length) (r : Nat → UInt8) (hr : ∀ j, j < M.length % 64 → r j = M.getD (64 * (M.length / 64) + j) 0) (h : M.length % 64 + n1 = 64) :
    (M ++ D.take n1).length / 64 = M.length / 64 + 1 ∧ (M ++ D.take n1).length % 64 = 0 ∧ (∀ j, j < 64 → restOf (M.length % 64) n1 D r j = blk (M ++ D.take n1) (M.length / 64) j) ∧
      foldSt (M ++ D.take n1) (M.length / 64 + 1) = comp (foldSt M (M.length / 64)) (blk (M ++ D.take n1) (M.length / 64)) := by
  rw [length_step M D n1 hn]
  refine ⟨by omega, by omega, fun j hj => ?_, ?_⟩
  · rw [rest_step M D n1 r hr j (by omega)]
    simp [blk, hj]
  · rw [← foldSt_append M (D.take n1) (M.length / 64) (by omega)]
    rfl
theorem take_step (m bs : List UInt8) (k n1 : Nat) : m ++ bs.take k ++ (bs.drop k).take n1 = m ++ bs.take (k + n1) := by
  rw [List.append_assoc, ← List.take_add]

/-- the padding of a message, and the digest of it -/
def padOf (m : List UInt8) : List UInt8 := (List.range (padLen m.length)).map (padB m.length)
def shaOf (m : List UInt8) (j : Nat) : UInt8 := dig (foldSt (m ++ padOf m) ((m ++ padOf m).length / 64)) j
theorem padOf_length (m : List UInt8) : (padOf m).length = padLen m.length := by simp [padOf]
theorem padOf_get (m : List UInt8) (j : Nat) (h : j < padLen m.length) : (padOf m).getD j 0 = padB m.length j := by
  simp [padOf, List.getD_eq_getElem?_getD, h]
end Go.Proofs.YtflkhlhpifmocaaDoor
namespace Go.Proofs.YtflkhlhpifmocaaDoor
open Go.RowKit
attribute [local go_sem] u32_xor_w u32_and_w u32_add_w zeros64

def words1 (b : Nat → UInt8) (k : Nat) (j : Nat) : Value := if j < k then wd (W b j) else wd 0
theorem words1_at {b : Nat → UInt8} {k j : Nat} (h : j < k) : words1 b k j = .int .u32 ((W b j).toNat : Int) := by simp [words1, h, wd]
theorem words1_zero (b : Nat → UInt8) : tab 64 (words1 b 0) = tab 64 zeroW := tab_ext _ _ _ fun j _ => by simp [words1, zeroW, wd]
theorem words1_set (b : Nat → UInt8) (k : Nat) : (tab 64 (words1 b k)).setIfInBounds k (wd (W b k)) = tab 64 (words1 b (k + 1)) := by
  rw [tab_set]
  apply tab_ext
  intro j _
  by_cases h : j = k
  · subst h; simp [words1]
  · simp only [words1, if_neg h]
    by_cases h2 : j < k
    · rw [if_pos h2, if_pos (by omega)]
    · rw [if_neg h2, if_neg (by omega)]

set_option maxRecDepth 100000 in
set_option maxHeartbeats 1000000 in
theorem schedule_any (b : Nat → UInt8) (w : World) :
    Calls Tryd.prog 95 #[.agg (tab 64 fun j => by8 (b j))] w fun e w' => e = .returned (.agg (tab 64 fun j => wd (W b j))) ∧ Below w.heap.size w w' := by
  go_enter Tryd.func95, Tryd.ntmps95
  go_wp2_with fail
  go_loopw [4, 6] (fun _ c wr => ∃ k : Nat, k ≤ 16 ∧ c = .int .i64 k ∧ Has wr w.heap.size 126 (tab 64 fun j => by8 (b j)) ∧ Has wr (w.heap.size + 1) 134 (tab 64 zeroW) ∧
      Has wr (w.heap.size + 1 + 1) 134 (tab 64 (words1 b k)) ∧ Below w.heap.size w wr) (fun _ c _ => 16 - (intOf c).toNat)
  case atStart => exact ⟨0, by omega, rfl, (((Has.new w 126 _).alloc _).alloc _), ((Has.new' (by simp)).alloc _), (by rw [words1_zero]; exact Has.new' (by simp)), (((Below.refl _ _).alloc (Nat.le_refl _) _).alloc (by simp) _).alloc (by simp; omega) _⟩
  case round =>
    obtain ⟨k, hk, rfl, h0, h1, h2, hb⟩ := hrel
    by_cases hlt : k < 16
    · have c0 := h0.cellTab (4 * k) (by omega)
      have c1 := h0.cellTab (4 * k + 1) (by omega)
      have c2 := h0.cellTab (4 * k + 2) (by omega)
      have c3 := h0.cellTab (4 * k + 3) (by omega)
      have cw := h2.cellTab k (by omega)
      have fw := h2.free k
      unfold by8 at c0 c1 c2 c3
      have ww := word_walk (b (4 * k)) (b (4 * k + 1)) (b (4 * k + 2)) (b (4 * k + 3))
      go_wp2_with fail
      go_region
      go_wp2_with fail
      go_roundw
      case rel =>
        have e := words1_set b k
        rw [W_lo b k hlt] at e
        exact ⟨k + 1, by omega, by go_num, (h0.far (by simp; omega) _).drew, (h1.far (by simp) _).drew, by rw [← e]; exact (h2.set k _).drew, (hb.setCell (by simp; omega) _).drew⟩
      case measure => simp [intOf]; omega
    · have e16 : k = 16 := by omega
      have h2' : Has wr (w.heap.size + 1 + 1) 134 (tab 64 (words1 b 16)) := by rw [← e16]; exact h2
      have e16' : (k : Int) = 16 := by omega
      have E := Lib.hid e16'
      clear e16 e16' hk
      go_wp2_with fail
      go_loopw [5] (fun c wr => ∃ k : Nat, 16 ≤ k ∧ k ≤ 64 ∧ c = .int .i64 k ∧ Has wr w.heap.size 126 (tab 64 fun j => by8 (b j)) ∧ Has wr (w.heap.size + 1) 134 (tab 64 zeroW) ∧
          Has wr (w.heap.size + 1 + 1) 134 (tab 64 (words1 b k)) ∧ Below w.heap.size w wr) (fun c _ => 64 - (intOf c).toNat)
      case atStart => exact ⟨16, by omega, by omega, rfl, h0, h1, h2', hb⟩
      case round =>
        clear h0 h1 h2 h2' hb
        rename_i k0 _ _
        obtain ⟨k, hk0, hk, rfl, h0, h1, h2, hb⟩ := hrel
        by_cases hlt : k < 64
        · have c0 := (h2.cellTab (k - 16) (by omega)).trans (congrArg some (words1_at (b := b) (show k - 16 < k by omega)))
          have c1 := (h2.cellTab (k - 7) (by omega)).trans (congrArg some (words1_at (b := b) (show k - 7 < k by omega)))
          have c2 := (h2.cellTab (k - 15) (by omega)).trans (congrArg some (words1_at (b := b) (show k - 15 < k by omega)))
          have c3 := (h2.cellTab (k - 2) (by omega)).trans (congrArg some (words1_at (b := b) (show k - 2 < k by omega)))
          have cw := h2.cellTab k (by omega)
          have fw := h2.free k
          go_wp2_with fail
          have a16 : IntKind.i64.wrap ((k : Int) - 16) = (k : Int) - 16 := IntWalk.i64_in _ (by omega)
          have b16 : (16 : Int) ≤ (k : Int) := by omega
          have d16 : (k : Int) - 16 < 64 := by omega
          have t16 : ((k : Int) - 16).toNat = k - 16 := by omega
          have a7 : IntKind.i64.wrap ((k : Int) - 7) = (k : Int) - 7 := IntWalk.i64_in _ (by omega)
          have b7 : (7 : Int) ≤ (k : Int) := by omega
          have d7 : (k : Int) - 7 < 64 := by omega
          have t7 : ((k : Int) - 7).toNat = k - 7 := by omega
          have a15 : IntKind.i64.wrap ((k : Int) - 15) = (k : Int) - 15 := IntWalk.i64_in _ (by omega)
          have b15 : (15 : Int) ≤ (k : Int) := by omega
          have d15 : (k : Int) - 15 < 64 := by omega
          have t15 : ((k : Int) - 15).toNat = k - 15 := by omega
          have a2 : IntKind.i64.wrap ((k : Int) - 2) = (k : Int) - 2 := IntWalk.i64_in _ (by omega)
          have b2 : (2 : Int) ≤ (k : Int) := by omega
          have d2 : (k : Int) - 2 < 64 := by omega
          have t2 : ((k : Int) - 2).toNat = k - 2 := by omega
          have dk : (k : Int) < 64 := by omega
          refine region_quiet_tail (fun w' => ∃ n, w' = wr.drewN n) 23 (by kernel_rfl) (by kernel_rfl) ⟨1, rfl⟩ ?_
          simp only [List.take_succ_cons, List.take_zero, List.drop_succ_cons, List.drop_zero]
          repeat (quiet_step ((go_at_call 97; exact Calls.quiet_of ((mixS_int _ _ _ _ _ (by omega) (by omega) (by omega)).mono fun _ _ ⟨he, n, hw⟩ => ⟨he, n, hw⟩))))
          refine wpQuiet_nil ?_
          rintro w' ⟨n, rfl⟩
          clear a16 a7 a15 a2 t16 t7 t15 t2
          go_wp2_with fail
          go_roundw
          case rel =>
            have e := words1_set b k
            rw [W_hi b k hk0] at e
            exact ⟨k + 1, by omega, by omega, by go_num, (h0.drewN n).far (by simp; omega) _, (h1.drewN n).far (by simp) _, by rw [← e]; exact (h2.drewN n).set k _, (below_drewN hb n).setCell (by simp; omega) _⟩
          case measure => simp [intOf]; omega
        · have e64 : k = 64 := by omega
          have h3 : Has wr (w.heap.size + 1 + 1) 134 (tab 64 fun j => wd (W b j)) := by
            rw [tab_ext 64 _ (words1 b k) fun j hj => by rw [e64]; simp [words1, hj]]; exact h2
          clear e64 hk0 hk
          have hz : (Tryd.prog.info? 134).map (·.size) = some (tab 64 fun j => wd (W b j)).size := by rw [tab_size]; kernel_rfl
          go_wp2_with (first | refine wpList_load_row rfl 134 _ rfl (w.heap.size + 1 + 1) rfl 134 _ _ _ h3 Tryd.underlying134 rfl hz ?_ | refine wpList_store_row rfl 134 _ _ rfl (w.heap.size + 1) _ rfl rfl 134 _ h1 hz (by rw [tab_size, tab_size]) (tab_oneCell _ _ fun _ => rfl) ?_)
          exact bodyPost_ret (v := .agg (tab 64 fun j => wd (W b j))) (results_cell_row rfl _ _ (w.heap.size + 1) 134 _ _ _ rfl (h1.setRow _) Tryd.underlying134 rfl hz) rfl ⟨rfl, below_setRow hb (by omega) _⟩
end Go.Proofs.YtflkhlhpifmocaaDoor
namespace Go.Proofs.YtflkhlhpifmocaaDoor
open Go.RowKit
attribute [local go_sem] u32_xor_w u32_and_w u32_add_w u32_not_w zeros64

/-- the program's two tables, in the world -/
structure Tabs (w : World) : Prop where
  k : ∀ i, i < 64 → w.cell? ⟨6, i, none⟩ = some (wd (KC i))
  iv : ∀ i, i < 8 → w.cell? ⟨5, i, none⟩ = some (wd (IV i))
  size : 7 ≤ w.heap.size
theorem Tabs.below {w w' : World} (h : Tabs w) (hb : Below w.heap.size w w') : Tabs w' :=
  have hs := h.size
  ⟨fun i hi => (hb.cell (p := ⟨_, i, none⟩) (show _ < w.heap.size from Nat.lt_of_lt_of_le (show _ < 7 by dsimp only; decide) hs)).trans (h.k i hi), fun i hi => (hb.cell (p := ⟨_, i, none⟩) (show _ < w.heap.size from Nat.lt_of_lt_of_le (show _ < 7 by dsimp only; decide) hs)).trans (h.iv i hi), Nat.le_trans hs hb.size⟩

def part3 (s : Nat → UInt32) (b : Nat → UInt8) (m j : Nat) : Value := if j < m then wd (comp s b j) else wd (s j)
theorem part3_zero (s : Nat → UInt32) (b : Nat → UInt8) : tab 8 (part3 s b 0) = tab 8 fun j => wd (s j) := tab_ext _ _ _ fun j _ => by simp [part3]
theorem part3_at (s : Nat → UInt32) (b : Nat → UInt8) (m : Nat) : part3 s b m m = .int .u32 ((s m).toNat : Int) := by simp [part3, wd]
theorem part3_set (s : Nat → UInt32) (b : Nat → UInt8) (m : Nat) : (tab 8 (part3 s b m)).setIfInBounds m (wd (comp s b m)) = tab 8 (part3 s b (m + 1)) := by
  rw [tab_set]
  apply tab_ext
  intro j _
  by_cases h : j = m
  · subst h; simp [part3]
  · simp only [part3, if_neg h]
    by_cases h2 : j < m
    · rw [if_pos h2, if_pos (by omega)]
    · rw [if_neg h2, if_neg (by omega)]

theorem info40 : (Tryd.prog.info? 28).map (fun i => (i.zero, i.size, i.bytes)) = some (some (.int .u32 0), 1, 4) := by kernel_rfl

set_option maxRecDepth 100000 in
set_option maxHeartbeats 1000000 in
theorem compress_any (s : Nat → UInt32) (b : Nat → UInt8) (w : World) (hT : Tabs w) :
    Calls Tryd.prog 89 #[.agg (tab 8 fun j => wd (s j)), .agg (tab 64 fun j => by8 (b j))] w fun e w' => e = .returned (.agg (tab 8 fun j => wd (comp s b j))) ∧ Below w.heap.size w w' := by
  have HT := Lib.hid hT
  obtain ⟨i40, hi40, _, hs40, _⟩ := info_parts info40
  go_enter Tryd.func89, Tryd.ntmps89
  have hz42 : (Tryd.prog.info? 126).map (·.size) = some (tab 64 fun j => by8 (b j)).size := by rw [tab_size]; kernel_rfl
  have hz49 : (Tryd.prog.info? 134).map (·.size) = some (tab 64 fun j => wd (W b j)).size := by rw [tab_size]; kernel_rfl
  go_wp2_with (first | refine wpList_load_row rfl 126 _ rfl (w.heap.size + 1) rfl 126 _ _ _ ((Has.new' (by simp)).alloc _) Tryd.underlying126 rfl hz42 ?_ | (go_at_call 95; refine (schedule_any b _).mono ?_; rintro e w1 ⟨rfl, hb1⟩; have Hb1 := Lib.hid hb1; clear hb1) | refine wpList_store_row rfl 134 _ _ rfl w1.heap.size _ rfl rfl 134 _ (Has.new' rfl) hz49 (by rw [tab_size, tab_size]) (tab_oneCell _ _ fun _ => rfl) ?_)
  have hb1 := Hb1.out
  have hsz : w.heap.size + 3 ≤ w1.heap.size := by have := hb1.size; simp at this; omega
  have h0 := (((((Has.new' (w := w) (t := 29) (cs := tab 8 fun j => wd (s j)) rfl).alloc _).alloc _).below hb1 (by simp; omega)).alloc (.cells (tab 64 zeroW) 134)).farRow (k := w1.heap.size) (by omega) (tab 64 fun j => wd (W b j))
  have h2 := (((Has.new' (g := w.heap.size + 1 + 1) (by simp)).below hb1 (by simp)).alloc (.cells (tab 64 zeroW) 134)).farRow (k := w1.heap.size) (by omega) (tab 64 fun j => wd (W b j))
  rw [zeros8] at h2
  have h5 := (Has.new' (w := w1) (t := 134) (cs := tab 64 zeroW) rfl).setRow (tab 64 fun j => wd (W b j))
  have hb := below_setRow (((((((Below.refl w.heap.size w).alloc (Nat.le_refl _) _).alloc (by simp) _).alloc (by simp; omega) _).trans (hb1.mono (by simp; omega)))).alloc (by omega) (.cells (tab 64 zeroW) 134)) (g := w1.heap.size) (by omega) (tab 64 fun j => wd (W b j))
  clear hb1 Hb1
  generalize (w1.alloc (Obj.cells (tab 64 zeroW) 134)).setRow w1.heap.size (tab 64 fun j => wd (W b j)) = wr at *
  have c0 : wr.cell? ⟨w.heap.size, 0, none⟩ = some (.int .u32 ((s 0).toNat : Int)) := h0.cellTab 0 (by omega)
  have c1 : wr.cell? ⟨w.heap.size, 1, none⟩ = some (.int .u32 ((s 1).toNat : Int)) := h0.cellTab 1 (by omega)
  have c2 : wr.cell? ⟨w.heap.size, 2, none⟩ = some (.int .u32 ((s 2).toNat : Int)) := h0.cellTab 2 (by omega)
  have c3 : wr.cell? ⟨w.heap.size, 3, none⟩ = some (.int .u32 ((s 3).toNat : Int)) := h0.cellTab 3 (by omega)
  have c4 : wr.cell? ⟨w.heap.size, 4, none⟩ = some (.int .u32 ((s 4).toNat : Int)) := h0.cellTab 4 (by omega)
  have c5 : wr.cell? ⟨w.heap.size, 5, none⟩ = some (.int .u32 ((s 5).toNat : Int)) := h0.cellTab 5 (by omega)
  have c6 : wr.cell? ⟨w.heap.size, 6, none⟩ = some (.int .u32 ((s 6).toNat : Int)) := h0.cellTab 6 (by omega)
  have c7 : wr.cell? ⟨w.heap.size, 7, none⟩ = some (.int .u32 ((s 7).toNat : Int)) := h0.cellTab 7 (by omega)
  go_quiet (fail)
  clear c0 c1 c2 c3 c4 c5 c6 c7
  replace h0 := h0.drewN nq
  replace h2 := h2.drewN nq
  replace h5 := h5.drewN nq
  replace hb := below_drewN hb nq
  generalize wr.drewN nq = wr at *
  go_wp2_with fail
  have c0 : wr.cell? ⟨w.heap.size, 0, none⟩ = some (.int .u32 ((s 0).toNat : Int)) := h0.cellTab 0 (by omega)
  have c1 : wr.cell? ⟨w.heap.size, 1, none⟩ = some (.int .u32 ((s 1).toNat : Int)) := h0.cellTab 1 (by omega)
  have c2 : wr.cell? ⟨w.heap.size, 2, none⟩ = some (.int .u32 ((s 2).toNat : Int)) := h0.cellTab 2 (by omega)
  have c3 : wr.cell? ⟨w.heap.size, 3, none⟩ = some (.int .u32 ((s 3).toNat : Int)) := h0.cellTab 3 (by omega)
  have c4 : wr.cell? ⟨w.heap.size, 4, none⟩ = some (.int .u32 ((s 4).toNat : Int)) := h0.cellTab 4 (by omega)
  have c5 : wr.cell? ⟨w.heap.size, 5, none⟩ = some (.int .u32 ((s 5).toNat : Int)) := h0.cellTab 5 (by omega)
  have c6 : wr.cell? ⟨w.heap.size, 6, none⟩ = some (.int .u32 ((s 6).toNat : Int)) := h0.cellTab 6 (by omega)
  have c7 : wr.cell? ⟨w.heap.size, 7, none⟩ = some (.int .u32 ((s 7).toNat : Int)) := h0.cellTab 7 (by omega)
  go_quiet (fail)
  clear c0 c1 c2 c3 c4 c5 c6 c7
  replace h0 := h0.drewN nq
  replace h2 := h2.drewN nq
  replace h5 := h5.drewN nq
  replace hb := below_drewN hb nq
  generalize wr.drewN nq = wr at *
  have hw1 : w.heap.size + 1 + 1 + 1 ≤ w1.heap.size := by omega
  clear hT hsz hz42
  go_wp2_with fail
  go_loopw [6, 7, 8, 9, 10, 11, 12, 13, 14, 15, 16, 37] (fun va vb vc vd ve vf vg vh _ _ _ ct wr => ∃ k : Nat, k ≤ 64 ∧ ct = .int .i64 k ∧
      va = .int .u32 ((rnds s b k).a.toNat : Int) ∧ vb = .int .u32 ((rnds s b k).b.toNat : Int) ∧ vc = .int .u32 ((rnds s b k).c.toNat : Int) ∧ vd = .int .u32 ((rnds s b k).d.toNat : Int) ∧
      ve = .int .u32 ((rnds s b k).e.toNat : Int) ∧ vf = .int .u32 ((rnds s b k).f.toNat : Int) ∧ vg = .int .u32 ((rnds s b k).g.toNat : Int) ∧ vh = .int .u32 ((rnds s b k).h.toNat : Int) ∧
      Has wr w.heap.size 29 (tab 8 fun j => wd (s j)) ∧ Has wr (w.heap.size + 1 + 1) 29 (tab 8 zeroW) ∧ Has wr w1.heap.size 134 (tab 64 fun j => wd (W b j)) ∧ Below w.heap.size w wr)
    (fun _ _ _ _ _ _ _ _ _ _ _ ct _ => 64 - (intOf ct).toNat)
  case atStart => exact ⟨0, by omega, rfl, rfl, rfl, rfl, rfl, rfl, rfl, rfl, rfl, h0, h2, h5, hb⟩
  case round =>
    clear h0 h2 h5 hb
    obtain ⟨k, hk, rfl, rfl, rfl, rfl, rfl, rfl, rfl, rfl, rfl, h0, h2, h5, hb⟩ := hrel
    by_cases hlt : k < 64
    · have cK : _ = some (Value.int .u32 ((KC k).toNat : Int)) := (HT.out.below hb).k k hlt
      have cW : _ = some (Value.int .u32 ((W b k).toNat : Int)) := h5.cellTab k hlt
      have dk : (k : Int) < 64 := by omega
      go_wp2_with fail
      go_quiet ((go_at_call 96; exact Calls.quiet_of_same ((mix_int _ _ _ _ _ (by omega) (by omega) (by omega)).mono fun _ _ ⟨he, hw⟩ => ⟨he, hw.symm⟩)))
      replace h0 := h0.drewN nq
      replace h2 := h2.drewN nq
      replace h5 := h5.drewN nq
      replace hb := below_drewN hb nq
      clear cK cW
      generalize hq : Go.World.drewN _ nq = wr at *
      clear hq
      go_wp2_with (go_at_call 96; refine (mix_int _ _ _ _ _ (by omega) (by omega) (by omega)).mono ?_; rintro e w' ⟨rfl, rfl⟩)
      go_roundw
      case rel => exact ⟨k + 1, by omega, by go_num, rfl, rfl, rfl, rfl, rfl, rfl, rfl, rfl, h0, h2, h5, hb⟩
      case measure => simp [intOf]; omega
    · have e64 : k = 64 := by omega
      have e64' : rnds s b k = rnds s b 64 := by rw [e64]
      have E := Lib.hid e64'
      clear e64 e64' hk
      have hidx := fun (j : Nat) (hj : j < 8) (W : World) => run_index_tab (P := Tryd.prog) 29 28 8 .u32 i40 (fun j => .int .u32 (((rnds s b k).at j).toNat : Int)) Tryd.underlying29 Tryd.underlying28 hi40 hs40 .i64 j hj W
      have Hidx := Lib.hid hidx
      clear hidx
      have eagg : (#[wd (rnds s b k).a, wd (rnds s b k).b, wd (rnds s b k).c, wd (rnds s b k).d, wd (rnds s b k).e, wd (rnds s b k).f, wd (rnds s b k).g, wd (rnds s b k).h] : Array Value) = tab 8 (fun j => wd ((rnds s b k).at j)) := rfl
      simp only [wd] at eagg
      go_wp2_with fail
      clear eagg
      go_loopw [17, 18, 97] (fun _ _ ct wr => ∃ m : Nat, m ≤ 8 ∧ ct = .int .i64 m ∧ Has wr w.heap.size 29 (tab 8 (part3 s b m)) ∧ Has wr (w.heap.size + 1 + 1) 29 (tab 8 zeroW) ∧ Below w.heap.size w wr)
        (fun _ _ ct _ => 8 - (intOf ct).toNat)
      case atStart => exact ⟨0, by omega, rfl, by rw [part3_zero]; exact h0, h2, hb⟩
      case round =>
        clear h0 h2 h5 hb
        rename_i k0 _ _ _
        obtain ⟨m, hm, rfl, h0, h2, hb⟩ := hrel
        by_cases hlt : m < 8
        · have c0 : _ = some (Value.int .u32 ((s m).toNat : Int)) := (h0.cellTab m hlt).trans (congrArg some (part3_at s b m))
          have fw := h0.free m
          have hix := Hidx.out m hlt
          have dm : (m : Int) < 8 := by omega
          go_wp2_with fail
          go_roundw
          case rel =>
            have e := part3_set s b m
            unfold comp at e
            rw [← E.out] at e
            exact ⟨m + 1, by omega, by go_num, by rw [← e]; exact h0.set m _, h2.far (by simp; omega) _, hb.setCell (by simp) _⟩
          case measure => simp [intOf]; omega
        · have h3 : Has wr w.heap.size 29 (tab 8 fun j => wd (comp s b j)) := by
            rw [tab_ext 8 _ (part3 s b m) fun j hj => by simp [part3, show j < m by omega]]; exact h0
          clear hm
          have hz : (Tryd.prog.info? 29).map (·.size) = some (tab 8 fun j => wd (comp s b j)).size := by rw [tab_size]; kernel_rfl
          go_wp2_with (first | refine wpList_load_row rfl 29 _ rfl w.heap.size rfl 29 _ _ _ h3 Tryd.underlying29 rfl hz ?_ | refine wpList_store_row rfl 29 _ _ rfl (w.heap.size + 1 + 1) _ rfl rfl 29 _ h2 hz (by rw [tab_size, tab_size]) (tab_oneCell _ _ fun _ => rfl) ?_)
          exact bodyPost_ret (v := .agg (tab 8 fun j => wd (comp s b j))) (results_cell_row rfl _ _ (w.heap.size + 1 + 1) 29 _ _ _ rfl (h2.setRow _) Tryd.underlying29 rfl hz) rfl ⟨rfl, below_setRow hb (by omega) _⟩
end Go.Proofs.YtflkhlhpifmocaaDoor
namespace Go.Proofs.YtflkhlhpifmocaaDoor
open Go.RowKit

def zeroB : Nat → Value := fun _ => .int .u8 0
theorem zeros32b : (#[Value.int IntKind.u8 0, Value.int IntKind.u8 0, Value.int IntKind.u8 0, Value.int IntKind.u8 0, Value.int IntKind.u8 0, Value.int IntKind.u8 0, Value.int IntKind.u8 0, Value.int IntKind.u8 0, Value.int IntKind.u8 0, Value.int IntKind.u8 0, Value.int IntKind.u8 0, Value.int IntKind.u8 0, Value.int IntKind.u8 0, Value.int IntKind.u8 0, Value.int IntKind.u8 0, Value.int IntKind.u8 0, Value.int IntKind.u8 0, Value.int IntKind.u8 0, Value.int IntKind.u8 0, Value.int IntKind.u8 0, Value.int IntKind.u8 0, Value.int IntKind.u8 0, Value.int IntKind.u8 0, Value.int IntKind.u8 0, Value.int IntKind.u8 0, Value.int IntKind.u8 0, Value.int IntKind.u8 0, Value.int IntKind.u8 0, Value.int IntKind.u8 0, Value.int IntKind.u8 0, Value.int IntKind.u8 0, Value.int IntKind.u8 0] : Array Value) = tab 32 zeroB := by kernel_rfl
attribute [local go_sem] zeros32b
def partD (s : Nat → UInt32) (k j : Nat) : Value := if j < 4 * k then by8 (dig s j) else .int .u8 0
theorem partD_zero (s : Nat → UInt32) : tab 32 (partD s 0) = tab 32 zeroB := tab_ext _ _ _ fun j _ => by simp [partD, zeroB]
theorem partD_set (s : Nat → UInt32) (k : Nat) : ((((tab 32 (partD s k)).setIfInBounds (4 * k) (by8 (dig s (4 * k)))).setIfInBounds (4 * k + 1) (by8 (dig s (4 * k + 1)))).setIfInBounds (4 * k + 2) (by8 (dig s (4 * k + 2)))).setIfInBounds (4 * k + 3) (by8 (dig s (4 * k + 3))) = tab 32 (partD s (k + 1)) := by
  rw [tab_set, tab_set, tab_set, tab_set]
  apply tab_ext
  intro j _
  by_cases h3 : j = 4 * k + 3
  · subst h3; simp [partD, show 4 * k + 3 < 4 * (k + 1) by omega]
  by_cases h2 : j = 4 * k + 2
  · subst h2; simp [partD, show 4 * k + 2 < 4 * (k + 1) by omega]
  by_cases h1 : j = 4 * k + 1
  · subst h1; simp [partD, show 4 * k + 1 < 4 * (k + 1) by omega]
  by_cases h0 : j = 4 * k
  · subst h0; simp [partD, show 4 * k < 4 * (k + 1) by omega]
  simp only [if_neg h0, if_neg h1, if_neg h2, if_neg h3, partD]
  by_cases h : j < 4 * k
  · rw [if_pos h, if_pos (by omega)]
  · rw [if_neg h, if_neg (by omega)]

set_option maxRecDepth 100000 in
set_option maxHeartbeats 1000000 in
theorem digest_any (s : Nat → UInt32) (w : World) :
    Calls Tryd.prog 91 #[.agg (tab 8 fun j => wd (s j))] w fun e w' => e = .returned (.agg (tab 32 fun j => by8 (dig s j))) ∧ Below w.heap.size w w' := by
  obtain ⟨i40, hi40, _, hs40, _⟩ := info_parts info40
  have hz8 : (Tryd.prog.info? 29).map (·.size) = some (tab 8 fun j => wd (s j)).size := by rw [tab_size]; kernel_rfl
  have hz32 : (Tryd.prog.info? 62).map (·.size) = some (tab 32 fun j => by8 (dig s j)).size := by rw [tab_size]; kernel_rfl
  go_enter Tryd.func91, Tryd.ntmps91
  go_wp2_with (refine wpList_load_row rfl 29 _ rfl w.heap.size rfl 29 _ _ _ (((Has.new' rfl).alloc _).alloc _) Tryd.underlying29 rfl hz8 ?_)
  go_loopw [4, 5, 7] (fun _ _ ct wr => ∃ m : Nat, m ≤ 8 ∧ ct = .int .i64 m ∧ Has wr (w.heap.size + 1) 62 (tab 32 zeroB) ∧ Has wr (w.heap.size + 1 + 1) 62 (tab 32 (partD s m)) ∧ Below w.heap.size w wr)
    (fun _ _ ct _ => 8 - (intOf ct).toNat)
  case atStart => exact ⟨0, by omega, rfl, (Has.new' (by simp)).alloc _, by rw [partD_zero]; exact Has.new' (by simp), (((Below.refl _ _).alloc (Nat.le_refl _) _).alloc (by simp) _).alloc (by simp; omega) _⟩
  case round =>
    obtain ⟨m, hm, rfl, h1, h2, hb⟩ := hrel
    by_cases hlt : m < 8
    · have hix : ∀ W : World, (Instr.index 29 (.agg (tab 8 fun j => wd (s j))) (.int .i64 (m : Int))).run Tryd.prog W = .ok (.int .u32 ((s m).toNat : Int)) W := fun W => run_index_tab (P := Tryd.prog) 29 28 8 .u32 i40 (fun j => wd (s j)) Tryd.underlying29 Tryd.underlying28 hi40 hs40 .i64 m hlt W
      have c0 := h2.cellTab (4 * m) (by omega)
      have c1 := h2.cellTab (4 * m + 1) (by omega)
      have c2 := h2.cellTab (4 * m + 2) (by omega)
      have c3 := h2.cellTab (4 * m + 3) (by omega)
      have f0 := h2.free (4 * m)
      have f1 := h2.free (4 * m + 1)
      have f2 := h2.free (4 * m + 2)
      have f3 := h2.free (4 * m + 3)
      have dm : (m : Int) < 8 := by omega
      go_wp2_with fail
      go_roundw
      case rel =>
        have e := partD_set s m
        rw [dig0, dig1, dig2, dig3] at e
        exact ⟨m + 1, by omega, by go_num, (((h1.far (by simp) _).far (by simp) _).far (by simp) _).far (by simp) _, by rw [← e]; exact (((h2.set _ _).set _ _).set _ _).set _ _, (((hb.setCell (by simp; omega) _).setCell (by simp; omega) _).setCell (by simp; omega) _).setCell (by simp; omega) _⟩
      case measure => simp [intOf]; omega
    · have h3 : Has wr (w.heap.size + 1 + 1) 62 (tab 32 fun j => by8 (dig s j)) := by
        rw [tab_ext 32 _ (partD s m) fun j hj => by simp [partD, show j < 4 * m by omega]]; exact h2
      clear hm
      go_wp2_with (first | refine wpList_load_row rfl 62 _ rfl (w.heap.size + 1 + 1) rfl 62 _ _ _ h3 Tryd.underlying62 rfl hz32 ?_ | refine wpList_store_row rfl 62 _ _ rfl (w.heap.size + 1) _ rfl rfl 62 _ h1 hz32 (by rw [tab_size, tab_size]) (tab_oneCell _ _ fun _ => rfl) ?_)
      exact bodyPost_ret (v := .agg (tab 32 fun j => by8 (dig s j))) (results_cell_row rfl _ _ (w.heap.size + 1) 62 _ _ _ rfl (h1.setRow _) Tryd.underlying62 rfl hz32) rfl ⟨rfl, below_setRow hb (by omega) _⟩
end Go.Proofs.YtflkhlhpifmocaaDoor
namespace Go.Proofs.YtflkhlhpifmocaaDoor
open Go.RowKit

theorem made_bytes (n : Nat) : madeCells #[.int .u8 0] n = tab n zeroB := by
  apply Array.ext
  · simp [madeCells, tab]
  · intro i h1 h2
    simp [madeCells, tab, zeroB, Nat.mod_one]
theorem info5 : (Tryd.prog.info? 5).map (fun i => (i.zero, i.size, i.bytes)) = some (some (.int .u8 0), 1, 1) := by kernel_rfl
def partP (L k j : Nat) : Value := if j = 0 then .int .u8 128 else if padLen L ≤ j + k then by8 (padB L j) else .int .u8 0
theorem padLen_le (L : Nat) : 9 ≤ padLen L ∧ padLen L ≤ 72 := by unfold padLen; omega
theorem partP_zero (L : Nat) : (tab (padLen L) zeroB).setIfInBounds 0 (.int .u8 128) = tab (padLen L) (partP L 0) := by
  rw [tab_set]
  apply tab_ext
  intro j hj
  by_cases h : j = 0
  · simp [partP, h]
  · simp [partP, h, zeroB, show ¬ padLen L ≤ j by omega]
theorem pad_byte (L k : Nat) (hk : k < 8) : by8 (padB L (padLen L - 1 - k)) = .int .u8 ((L : Int) * 8 / 2 ^ (8 * k) % 256) := by
  have h := padLen_le L
  have e : padLen L - 1 - (padLen L - 1 - k) = k := by omega
  unfold by8 padB
  rw [if_neg (by omega), if_pos (by omega), e, UInt8.toNat_ofNat']
  simp
theorem partP_set (L k : Nat) (hk : k < 8) : (tab (padLen L) (partP L k)).setIfInBounds (padLen L - 1 - k) (by8 (padB L (padLen L - 1 - k))) = tab (padLen L) (partP L (k + 1)) := by
  have h := padLen_le L
  rw [tab_set]
  apply tab_ext
  intro j hj
  by_cases e : j = padLen L - 1 - k
  · rw [if_pos e]; subst e; simp [partP, show ¬ padLen L - 1 - k = 0 by omega, show padLen L ≤ padLen L - 1 - k + (k + 1) by omega]
  · rw [if_neg e]
    unfold partP
    by_cases h0 : j = 0
    · rw [if_pos h0, if_pos h0]
    · rw [if_neg h0, if_neg h0]
      by_cases h1 : padLen L ≤ j + k
      · rw [if_pos h1, if_pos (by omega)]
      · rw [if_neg h1, if_neg (by omega)]
theorem partP_end (L : Nat) : tab (padLen L) (partP L 8) = tab (padLen L) fun j => by8 (padB L j) := by
  apply tab_ext
  intro j hj
  unfold partP
  by_cases h0 : j = 0
  · subst h0; simp [by8, padB]
  · rw [if_neg h0]
    by_cases h1 : padLen L ≤ j + 8
    · rw [if_pos h1]
    · rw [if_neg h1]; simp [by8, padB, h0, h1]

set_option maxRecDepth 100000 in
set_option maxHeartbeats 1000000 in
theorem padding_any (L : Nat) (w : World) (hL : L ≤ 1048576) :
    Calls Tryd.prog 90 #[.int .u64 (L : Int)] w fun e w' => e = .returned (.slice (some ⟨w.heap.size, 0, none⟩) (padLen L) (padLen L)) ∧ Has w' w.heap.size 5 (tab (padLen L) fun j => by8 (padB L j)) ∧ Below w.heap.size w w' := by
  obtain ⟨i5, hi5, hz5, hs5, hb5⟩ := info_parts info5
  have hn := padLen_le L
  have hn1 : (1 : Int) + (119 - (L : Int)) % 64 + 8 = (padLen L : Int) := by unfold padLen; omega
  have hmk : ∀ u : World, (Instr.makeSlice 22 (.int .u64 ((1 : Int) + (119 - (L : Int)) % 64 + 8)) (.int .u64 ((1 : Int) + (119 - (L : Int)) % 64 + 8))).run Tryd.prog u =
      .ok (.slice (some ⟨u.heap.size, 0, none⟩) (padLen L) (padLen L)) (u.alloc (.cells (tab (padLen L) zeroB) 5)) := fun u => by
    have h := run_make (P := Tryd.prog) u 22 5 i5 (.int .u8 0) Tryd.underlying22 hi5 hz5 .u64 .u64 ((1 : Int) + (119 - (L : Int)) % 64 + 8) ((1 : Int) + (119 - (L : Int)) % 64 + 8) (by omega) (Int.le_refl _) (by rw [hb5]; omega) (by omega)
    rw [hn1, Int.toNat_natCast] at h
    rw [hn1, h, hs5, Nat.mul_one]
    simp only [Value.cells]
    rw [made_bytes]
  clear hn1
  have d0 : (0 : Int) < (padLen L : Int) := by omega
  have d72 : (padLen L : Int) ≤ 72 := by omega
  have d9 : (9 : Int) ≤ (padLen L : Int) := by omega
  have H0 : Has (w.alloc (.cells (tab (padLen L) zeroB) 5)) w.heap.size 5 (tab (padLen L) zeroB) := Has.new' rfl
  have c0 := H0.cellTab 0 (by omega)
  have f0 := H0.free 0
  go_enter Tryd.func90, Tryd.ntmps90
  go_wp2_with fail
  clear hmk
  clear H0 c0 f0
  go_loopw [6, 19] (fun _ ct wr => ∃ m : Nat, m ≤ 8 ∧ ct = .int .i64 m ∧ Has wr w.heap.size 5 (tab (padLen L) (partP L m)) ∧ Below w.heap.size w wr)
    (fun _ ct _ => 8 - (intOf ct).toNat)
  case atStart => exact ⟨0, by omega, rfl, by rw [← partP_zero]; exact Has.new' rfl, (Below.refl _ _).alloc (Nat.le_refl _) _⟩
  case round =>
    obtain ⟨m, hm, rfl, h1, hb⟩ := hrel
    by_cases hlt : m < 8
    · have c0 := h1.cellTab (padLen L - 1 - m) (by omega)
      have f0 := h1.free (padLen L - 1 - m)
      have dm : (m : Int) < 8 := by omega
      have dp : (m : Int) + 1 ≤ (padLen L : Int) := by omega
      have eb := pad_byte L m hlt
      have Eb := Lib.hid eb
      clear eb
      go_wp2_with fail
      go_roundw
      case rel =>
        have e := partP_set L m hlt
        rw [Eb.out] at e
        exact ⟨m + 1, by omega, by go_num, by rw [← e]; exact h1.set _ _, hb.setCell (by simp) _⟩
      case measure => simp [intOf]; omega
    · have h3 : Has wr w.heap.size 5 (tab (padLen L) fun j => by8 (padB L j)) := by
        rw [← partP_end, show 8 = m by omega]; exact h1
      clear hm
      go_wp2_with fail
      go_ret
      exact ⟨rfl, h3, hb⟩
end Go.Proofs.YtflkhlhpifmocaaDoor
namespace Go.Proofs.YtflkhlhpifmocaaDoor
open Go.RowKit

/-- the cells of a hash: the state, the bytes behind the last full block, the length -/
def hc (s : Nat → UInt32) (r : Nat → UInt8) (L : Nat) (j : Nat) : Value := if j < 8 then wd (s j) else if j < 72 then by8 (r (j - 8)) else .int .u64 (L : Int)
def zeroH (j : Nat) : Value := if j < 8 then .int .u32 0 else if j < 72 then .int .u8 0 else .int .u64 0
theorem info44 : (Tryd.prog.info? 128).map (fun i => (i.zero, i.size)) = some (some (.agg (tab 73 zeroH)), 73) := by kernel_rfl

/-- block g of w is the hash of message m -/
def HashIs (w : World) (g : Nat) (m : List UInt8) : Prop :=
  ∃ r : Nat → UInt8, Has w g 128 (tab 73 (hc (foldSt m (m.length / 64)) r m.length)) ∧ ∀ j, j < m.length % 64 → r j = m.getD (64 * (m.length / 64) + j) 0
def newC (k j : Nat) : Value := if j < k then wd (IV j) else zeroH j
theorem newC_zero : tab 73 (newC 0) = tab 73 zeroH := tab_ext _ _ _ fun j _ => by simp [newC]
theorem newC_set (k : Nat) : (tab 73 (newC k)).setIfInBounds k (wd (IV k)) = tab 73 (newC (k + 1)) := by
  rw [tab_set]
  apply tab_ext
  intro j _
  by_cases h : j = k
  · subst h; simp [newC]
  · simp only [newC, if_neg h]
    by_cases h2 : j < k
    · rw [if_pos h2, if_pos (by omega)]
    · rw [if_neg h2, if_neg (by omega)]
theorem newC_end : tab 73 (newC 8) = tab 73 (hc (foldSt [] 0) (fun _ => 0) 0) := by
  apply tab_ext
  intro j _
  by_cases h : j < 8
  · simp [newC, hc, h, foldSt]
  · by_cases h2 : j < 72
    · simp [newC, hc, h, h2, zeroH, by8]
    · simp [newC, hc, h, h2, zeroH]

set_option maxRecDepth 100000 in
set_option maxHeartbeats 1000000 in
theorem shaNew_any (w : World) (hT : Tabs w) :
    Calls Tryd.prog 76 #[] w fun e w' => e = .returned (.pointer (some ⟨w.heap.size, 0, none⟩)) ∧ HashIs w' w.heap.size [] ∧ Below w.heap.size w w' := by
  have HT := Lib.hid hT
  clear hT
  have hz44 := (zero_of_info info44).1
  go_enter Tryd.func76, Tryd.ntmps76
  go_wp2_with fail
  go_loopw [2, 3] (fun _ ct wr => ∃ m : Nat, m ≤ 8 ∧ ct = .int .i64 m ∧ Has wr w.heap.size 128 (tab 73 (newC m)) ∧ Below w.heap.size w wr)
    (fun _ ct _ => 8 - (intOf ct).toNat)
  case atStart => exact ⟨0, by omega, rfl, by rw [newC_zero]; exact Has.new' rfl, (Below.refl _ _).alloc (Nat.le_refl _) _⟩
  case round =>
    obtain ⟨m, hm, rfl, h1, hb⟩ := hrel
    by_cases hlt : m < 8
    · have c0 := h1.cellTab m (by omega)
      have f0 := h1.free m
      have ci : _ = some (Value.int .u32 ((IV m).toNat : Int)) := (HT.out.below hb).iv m hlt
      have dm : (m : Int) < 8 := by omega
      go_wp2_with fail
      go_roundw
      case rel => exact ⟨m + 1, by omega, by go_num, by rw [← newC_set]; exact h1.set _ _, hb.setCell (by simp) _⟩
      case measure => simp [intOf]; omega
    · have e8 : m = 8 := by omega
      have h3 : HashIs wr w.heap.size [] := by
        refine ⟨fun _ => 0, ?_, fun j hj => by simp at hj⟩
        show Has wr w.heap.size 128 (tab 73 (hc (foldSt [] 0) (fun _ => 0) 0))
        rw [← newC_end, ← e8]; exact h1
      clear hm e8
      go_wp2_with fail
      go_ret
      exact ⟨rfl, h3, hb⟩
end Go.Proofs.YtflkhlhpifmocaaDoor
