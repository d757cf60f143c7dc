/-
Layer 11: the reference's Encode, form by form.
-/
import Derived.Test.YtghfbdkfibbhoaaDoorInI
import Derived.Test.YtghfbdkfibbhoaaDoorQw
namespace Go.Proofs.YtghfbdkfibbhoaaDoor
open Go Go.RowKit

set_option maxRecDepth 100000 in
set_option maxHeartbeats 4000000 in
theorem encode_J (W i a b c n : Nat) (w : World) (h1 : 1 ≤ i) (h2 : i < 57) (hf : (opP i).1 = .J) (hWe : (opP i).2 = W) (hW : W < 4294967296) (ha : a ≤ 31) (hb : b ≤ 31) (hc : c ≤ 31) (hn : n < 4294967296) :
    Calls Tryd.prog 13 #[.agg (tab 5 (insR i a b c n))] w fun e w' => e = .returned (.tuple #[.int .i64 (encR .J W a b c n : Nat), .bool (encE .J W i a b c n)]) ∧ Below w.heap.size w w' := by
  rw [show tab 5 (insR i a b c n) = #[.int .i64 i, .int .i64 a, .int .i64 b, .int .i64 c, .int .i64 n] from rfl]
  have hL := fun W => list_any W
  obtain ⟨hc0, hc1⟩ := opCells_get i h2
  rw [hf] at hc0
  rw [hWe] at hc1
  rw [Nat.mul_comm 2 i] at hc0 hc1
  have hV := encR_lt .J W a b c n hW ha hb hc
  have kD := fun U => decode_any (encR .J W a b c n) U hV
  obtain ⟨V, hVe⟩ : ∃ V, V = encR .J W a b c n := ⟨_, rfl⟩
  obtain ⟨r, hr⟩ : ∃ r, r = encE .J W i a b c n := ⟨_, rfl⟩
  rw [← hr, ← hVe]
  rw [← hVe] at kD hV
  unfold encE at hr
  rw [← hVe] at hr
  unfold encR regR at hVe
  simp only [show rdB .J = true from rfl, show r1B .J = false from rfl, show r2B .J = false from rfl, Bool.false_eq_true, if_true, if_false] at hVe
  obtain ⟨W1, hW1e⟩ : ∃ W', W' = W ||| a * 128 := ⟨_, rfl⟩
  have o1 : bits .or .i64 (W : Int) ((a : Int) * 128) = (W1 : Int) := by rw [hW1e]; exact or_reg W a 128 hW (by omega)
  have hW1 : W1 < 4294967296 := by rw [hW1e]; exact or_lt32 _ _ hW (by omega)
  rw [← hW1e] at hVe
  clear hW1e
  have kS := fun U => set_any .J W1 n U hW1 hn
  rw [← hVe] at kS
  unfold fmS at kS
  clear hVe
  have eD : tab 5 (decV V (opOf V)) = #[.int .i64 (opOf V : Nat), .int .i64 ((if rdB (opP (opOf V)).1 then bitsN V 11 7 else 0 : Nat) : Int), .int .i64 ((if r1B (opP (opOf V)).1 then bitsN V 19 15 else 0 : Nat) : Int), .int .i64 ((if r2B (opP (opOf V)).1 then bitsN V 24 20 else 0 : Nat) : Int), .int .i64 (immZ (opP (opOf V)).1 V)] := rfl
  rw [eD] at kD
  generalize ((if rdB (opP (opOf V)).1 then bitsN V 11 7 else 0 : Nat) : Int) = x1 at *
  generalize ((if r1B (opP (opOf V)).1 then bitsN V 19 15 else 0 : Nat) : Int) = x2 at *
  generalize ((if r2B (opP (opOf V)).1 then bitsN V 24 20 else 0 : Nat) : Int) = x3 at *
  have m1 := and32 (immZ (opP (opOf V)).1 V)
  generalize immZ (opP (opOf V)).1 V % 4294967296 = x5 at *
  generalize immZ (opP (opOf V)).1 V = x4 at *
  generalize opOf V = q at *
  have m2 : bits .and .i64 (n : Int) 4294967295 = n := by rw [and32]; omega
  have HR := Lib.hid hr
  have HC0 := Lib.hid hc0
  have HC1 := Lib.hid hc1
  clear hr hc0 hc1 eD hf hWe
  unfold fmS at HC0
  go_enter Tryd.func13, Tryd.ntmps13
  go_upto_region 2 with (go_at_call 26; refine (hL _).mono ?_; rintro e w2 ⟨⟨g, rfl, hG, hg⟩, hb⟩)
  have hB : Has w2 w.heap.size 29 (tab 5 (insR i a b c n)) := (Has.new w 29 (tab 5 (insR i a b c n))).below hb (by rw [size_alloc1]; omega)
  have c0 : w2.cell? ⟨w.heap.size, 0, none⟩ = some (.int .i64 (i : Int)) := hB.cellTab 0 (by omega)
  have c1 : w2.cell? ⟨w.heap.size, 1, none⟩ = some (.int .i64 (a : Int)) := hB.cellTab 1 (by omega)
  have c2 : w2.cell? ⟨w.heap.size, 2, none⟩ = some (.int .i64 (b : Int)) := hB.cellTab 2 (by omega)
  have c3 : w2.cell? ⟨w.heap.size, 3, none⟩ = some (.int .i64 (c : Int)) := hB.cellTab 3 (by omega)
  have c4 : w2.cell? ⟨w.heap.size, 4, none⟩ = some (.int .i64 (n : Int)) := hB.cellTab 4 (by omega)
  have hb4 : Below w.heap.size w w2 := ((Below.refl _ _).alloc (Nat.le_refl _) _).trans (hb.mono (by rw [size_alloc1]; omega))
  have d0 := (hG.cell (i * 2)).trans ((List.getElem?_toArray (xs := opCells)).trans HC0.out)
  have d1 := (hG.cell (i * 2 + 1)).trans ((List.getElem?_toArray (xs := opCells)).trans HC1.out)
  have HB4 := Lib.hid hb4
  have HB := Lib.hid hB
  clear hL hB hb hG hb4 hg
  have k1 : ¬ (i : Int) < 1 := by omega
  have k2 : ¬ 57 ≤ (i : Int) := by omega
  have k2' : (i : Int) < 57 := by omega
  have k3 : ¬ (a : Int) < 0 := by omega
  have k4 : ¬ 31 < (a : Int) := by omega
  have k5 : ¬ (b : Int) < 0 := by omega
  have k6 : ¬ 31 < (b : Int) := by omega
  have k7 : ¬ (c : Int) < 0 := by omega
  have k8 : ¬ 31 < (c : Int) := by omega
  go_upto_region 18 with (go_at_call 25; with_reducible refine (kS _).mono ?_; rintro e w3 ⟨rfl, n3, rfl⟩)
  clear k1 k2 k2' k3 k4 k5 k6 k7 k8 c0 c1 c2 c3 c4 d0 d1
  go_wp2_with fail
  refine (kD _).mono ?_
  rintro e w5 ⟨rfl, hb5⟩
  have hB5 := (HB.out.drewN n3).below hb5 (HB.out.drewN n3).lt
  have hb4 := HB4.out
  replace hb5 := (below_drewN hb4 n3).trans (hb5.mono (below_drewN hb4 n3).size)
  have f4 := hB5.free 4
  have c4 : w5.cell? ⟨w.heap.size, 4, none⟩ = some (.int .i64 (n : Int)) := hB5.cellTab 4 (by omega)
  have hl5 := hB5.lt
  have hne : w.heap.size ≠ w5.heap.size := by omega
  have HB5 := Lib.hid hB5
  have HBb := Lib.hid hb5
  clear hB5 hb5 hb4
  go_upto_region 21 with fail
  have hX := has_to (HB5.out.set 4 (.int .i64 (n : Int))) (insR_set4 i a b c n n)
  have hb6 : Below w.heap.size w (w5.setCell ⟨w.heap.size, 4, none⟩ (.int .i64 (n : Int))) := Below.setCell HBb.out (Nat.le_refl _) _
  have hsz : (w5.setCell ⟨w.heap.size, 4, none⟩ (.int .i64 (n : Int))).heap.size = w5.heap.size := by simp
  generalize w5.setCell ⟨w.heap.size, 4, none⟩ (.int .i64 (n : Int)) = w6 at *
  obtain ⟨wa, hwa, hY, hbY, hsY⟩ := one_newR w6 #[.int .i64 q, .int .i64 x1, .int .i64 x2, .int .i64 x3, .int .i64 x5] 29
  rw [← hwa]
  rw [hsz] at hY
  have hXa := hX.below hbY (by omega)
  have hba := hb6.trans (hbY.mono (by have := hb6.size; omega))
  have hla := hXa.lt
  have hya := hY.lt
  have HBA := Lib.hid hba
  clear hwa hX hb6 hsz hbY hsY f4 c4 hl5 hba
  refine region_quiet_all (fun w' => ∃ n, w' = wa.drewN n) (by kernel_rfl) (by kernel_rfl) ⟨1, rfl⟩ ?_
  refine wpQ_move _ rfl rfl (.int .i64 (V : Int)) rfl ?_
  simp only [Act.put, List.setIfInBounds_toArray, List.set_cons_zero, List.set_cons_succ]
  refine wpQ_has 29 _ rfl w5.heap.size rfl rfl 29 #[.int .i64 q, .int .i64 x1, .int .i64 x2, .int .i64 x3, .int .i64 x5] (fun w' hC => by obtain ⟨n9, rfl⟩ := hC; exact hY) _ Tryd.underlying29 rfl infoIn5 ?_
  simp only [Act.put, List.setIfInBounds_toArray, List.set_cons_zero, List.set_cons_succ]
  refine wpQ_has 29 _ rfl w.heap.size rfl rfl 29 #[.int .i64 i, .int .i64 a, .int .i64 b, .int .i64 c, .int .i64 n] (fun w' hC => by obtain ⟨n9, rfl⟩ := hC; exact hXa) _ Tryd.underlying29 rfl infoIn5 ?_
  simp only [Act.put, List.setIfInBounds_toArray, List.set_cons_zero, List.set_cons_succ]
  refine wpQ_bin .eql 29 _ _ 29 rfl rfl (.agg #[.int .i64 q, .int .i64 x1, .int .i64 x2, .int .i64 x3, .int .i64 x5]) (.agg #[.int .i64 i, .int .i64 a, .int .i64 b, .int .i64 c, .int .i64 n]) rfl rfl (.bool r) (fun W _ => by rw [HR.out]; exact run_eql_ref _ _ _ _ _ _ _ _ _ _ W _ _) ?_
  simp only [Act.put, List.setIfInBounds_toArray, List.set_cons_zero, List.set_cons_succ]
  refine wpQ_assign _ rfl rfl (.int .i64 (V : Int)) rfl ?_
  simp only [Act.put, List.setIfInBounds_toArray, List.set_cons_zero, List.set_cons_succ]
  refine wpQ_assign _ rfl rfl (.bool r) rfl ?_
  simp only [Act.put, List.setIfInBounds_toArray, List.set_cons_zero, List.set_cons_succ]
  refine wpQuiet_nil ?_
  rintro w' ⟨n9, rfl⟩
  go_wp2_with fail
  go_ret2
  exact ⟨rfl, below_drewN HBA.out n9⟩
set_option maxRecDepth 100000 in
set_option maxHeartbeats 4000000 in
theorem encode_I (W i a b c n : Nat) (w : World) (h1 : 1 ≤ i) (h2 : i < 57) (hf : (opP i).1 = .I) (hWe : (opP i).2 = W) (hW : W < 4294967296) (ha : a ≤ 31) (hb : b ≤ 31) (hc : c ≤ 31) (hn : n < 4294967296) :
    Calls Tryd.prog 13 #[.agg (tab 5 (insR i a b c n))] w fun e w' => e = .returned (.tuple #[.int .i64 (encR .I W a b c n : Nat), .bool (encE .I W i a b c n)]) ∧ Below w.heap.size w w' := by
  rw [show tab 5 (insR i a b c n) = #[.int .i64 i, .int .i64 a, .int .i64 b, .int .i64 c, .int .i64 n] from rfl]
  have hL := fun W => list_any W
  obtain ⟨hc0, hc1⟩ := opCells_get i h2
  rw [hf] at hc0
  rw [hWe] at hc1
  rw [Nat.mul_comm 2 i] at hc0 hc1
  have hV := encR_lt .I W a b c n hW ha hb hc
  have kD := fun U => decode_any (encR .I W a b c n) U hV
  obtain ⟨V, hVe⟩ : ∃ V, V = encR .I W a b c n := ⟨_, rfl⟩
  obtain ⟨r, hr⟩ : ∃ r, r = encE .I W i a b c n := ⟨_, rfl⟩
  rw [← hr, ← hVe]
  rw [← hVe] at kD hV
  unfold encE at hr
  rw [← hVe] at hr
  unfold encR regR at hVe
  simp only [show rdB .I = true from rfl, show r1B .I = true from rfl, show r2B .I = false from rfl, Bool.false_eq_true, if_true, if_false] at hVe
  obtain ⟨W1, hW1e⟩ : ∃ W', W' = W ||| a * 128 := ⟨_, rfl⟩
  have o1 : bits .or .i64 (W : Int) ((a : Int) * 128) = (W1 : Int) := by rw [hW1e]; exact or_reg W a 128 hW (by omega)
  have hW1 : W1 < 4294967296 := by rw [hW1e]; exact or_lt32 _ _ hW (by omega)
  rw [← hW1e] at hVe
  clear hW1e
  obtain ⟨W2, hW2e⟩ : ∃ W', W' = W1 ||| b * 32768 := ⟨_, rfl⟩
  have o2 : bits .or .i64 (W1 : Int) ((b : Int) * 32768) = (W2 : Int) := by rw [hW2e]; exact or_reg W1 b 32768 hW1 (by omega)
  have hW2 : W2 < 4294967296 := by rw [hW2e]; exact or_lt32 _ _ hW1 (by omega)
  rw [← hW2e] at hVe
  clear hW2e
  have kS := fun U => set_any .I W2 n U hW2 hn
  rw [← hVe] at kS
  unfold fmS at kS
  clear hVe
  have eD : tab 5 (decV V (opOf V)) = #[.int .i64 (opOf V : Nat), .int .i64 ((if rdB (opP (opOf V)).1 then bitsN V 11 7 else 0 : Nat) : Int), .int .i64 ((if r1B (opP (opOf V)).1 then bitsN V 19 15 else 0 : Nat) : Int), .int .i64 ((if r2B (opP (opOf V)).1 then bitsN V 24 20 else 0 : Nat) : Int), .int .i64 (immZ (opP (opOf V)).1 V)] := rfl
  rw [eD] at kD
  generalize ((if rdB (opP (opOf V)).1 then bitsN V 11 7 else 0 : Nat) : Int) = x1 at *
  generalize ((if r1B (opP (opOf V)).1 then bitsN V 19 15 else 0 : Nat) : Int) = x2 at *
  generalize ((if r2B (opP (opOf V)).1 then bitsN V 24 20 else 0 : Nat) : Int) = x3 at *
  have m1 := and32 (immZ (opP (opOf V)).1 V)
  generalize immZ (opP (opOf V)).1 V % 4294967296 = x5 at *
  generalize immZ (opP (opOf V)).1 V = x4 at *
  generalize opOf V = q at *
  have m2 : bits .and .i64 (n : Int) 4294967295 = n := by rw [and32]; omega
  have HR := Lib.hid hr
  have HC0 := Lib.hid hc0
  have HC1 := Lib.hid hc1
  clear hr hc0 hc1 eD hf hWe
  unfold fmS at HC0
  go_enter Tryd.func13, Tryd.ntmps13
  go_upto_region 2 with (go_at_call 26; refine (hL _).mono ?_; rintro e w2 ⟨⟨g, rfl, hG, hg⟩, hb⟩)
  have hB : Has w2 w.heap.size 29 (tab 5 (insR i a b c n)) := (Has.new w 29 (tab 5 (insR i a b c n))).below hb (by rw [size_alloc1]; omega)
  have c0 : w2.cell? ⟨w.heap.size, 0, none⟩ = some (.int .i64 (i : Int)) := hB.cellTab 0 (by omega)
  have c1 : w2.cell? ⟨w.heap.size, 1, none⟩ = some (.int .i64 (a : Int)) := hB.cellTab 1 (by omega)
  have c2 : w2.cell? ⟨w.heap.size, 2, none⟩ = some (.int .i64 (b : Int)) := hB.cellTab 2 (by omega)
  have c3 : w2.cell? ⟨w.heap.size, 3, none⟩ = some (.int .i64 (c : Int)) := hB.cellTab 3 (by omega)
  have c4 : w2.cell? ⟨w.heap.size, 4, none⟩ = some (.int .i64 (n : Int)) := hB.cellTab 4 (by omega)
  have hb4 : Below w.heap.size w w2 := ((Below.refl _ _).alloc (Nat.le_refl _) _).trans (hb.mono (by rw [size_alloc1]; omega))
  have d0 := (hG.cell (i * 2)).trans ((List.getElem?_toArray (xs := opCells)).trans HC0.out)
  have d1 := (hG.cell (i * 2 + 1)).trans ((List.getElem?_toArray (xs := opCells)).trans HC1.out)
  have HB4 := Lib.hid hb4
  have HB := Lib.hid hB
  clear hL hB hb hG hb4 hg
  have k1 : ¬ (i : Int) < 1 := by omega
  have k2 : ¬ 57 ≤ (i : Int) := by omega
  have k2' : (i : Int) < 57 := by omega
  have k3 : ¬ (a : Int) < 0 := by omega
  have k4 : ¬ 31 < (a : Int) := by omega
  have k5 : ¬ (b : Int) < 0 := by omega
  have k6 : ¬ 31 < (b : Int) := by omega
  have k7 : ¬ (c : Int) < 0 := by omega
  have k8 : ¬ 31 < (c : Int) := by omega
  go_upto_region 18 with (go_at_call 25; with_reducible refine (kS _).mono ?_; rintro e w3 ⟨rfl, n3, rfl⟩)
  clear k1 k2 k2' k3 k4 k5 k6 k7 k8 c0 c1 c2 c3 c4 d0 d1
  go_wp2_with fail
  refine (kD _).mono ?_
  rintro e w5 ⟨rfl, hb5⟩
  have hB5 := (HB.out.drewN n3).below hb5 (HB.out.drewN n3).lt
  have hb4 := HB4.out
  replace hb5 := (below_drewN hb4 n3).trans (hb5.mono (below_drewN hb4 n3).size)
  have f4 := hB5.free 4
  have c4 : w5.cell? ⟨w.heap.size, 4, none⟩ = some (.int .i64 (n : Int)) := hB5.cellTab 4 (by omega)
  have hl5 := hB5.lt
  have hne : w.heap.size ≠ w5.heap.size := by omega
  have HB5 := Lib.hid hB5
  have HBb := Lib.hid hb5
  clear hB5 hb5 hb4
  go_upto_region 21 with fail
  have hX := has_to (HB5.out.set 4 (.int .i64 (n : Int))) (insR_set4 i a b c n n)
  have hb6 : Below w.heap.size w (w5.setCell ⟨w.heap.size, 4, none⟩ (.int .i64 (n : Int))) := Below.setCell HBb.out (Nat.le_refl _) _
  have hsz : (w5.setCell ⟨w.heap.size, 4, none⟩ (.int .i64 (n : Int))).heap.size = w5.heap.size := by simp
  generalize w5.setCell ⟨w.heap.size, 4, none⟩ (.int .i64 (n : Int)) = w6 at *
  obtain ⟨wa, hwa, hY, hbY, hsY⟩ := one_newR w6 #[.int .i64 q, .int .i64 x1, .int .i64 x2, .int .i64 x3, .int .i64 x5] 29
  rw [← hwa]
  rw [hsz] at hY
  have hXa := hX.below hbY (by omega)
  have hba := hb6.trans (hbY.mono (by have := hb6.size; omega))
  have hla := hXa.lt
  have hya := hY.lt
  have HBA := Lib.hid hba
  clear hwa hX hb6 hsz hbY hsY f4 c4 hl5 hba
  refine region_quiet_all (fun w' => ∃ n, w' = wa.drewN n) (by kernel_rfl) (by kernel_rfl) ⟨1, rfl⟩ ?_
  refine wpQ_move _ rfl rfl (.int .i64 (V : Int)) rfl ?_
  simp only [Act.put, List.setIfInBounds_toArray, List.set_cons_zero, List.set_cons_succ]
  refine wpQ_has 29 _ rfl w5.heap.size rfl rfl 29 #[.int .i64 q, .int .i64 x1, .int .i64 x2, .int .i64 x3, .int .i64 x5] (fun w' hC => by obtain ⟨n9, rfl⟩ := hC; exact hY) _ Tryd.underlying29 rfl infoIn5 ?_
  simp only [Act.put, List.setIfInBounds_toArray, List.set_cons_zero, List.set_cons_succ]
  refine wpQ_has 29 _ rfl w.heap.size rfl rfl 29 #[.int .i64 i, .int .i64 a, .int .i64 b, .int .i64 c, .int .i64 n] (fun w' hC => by obtain ⟨n9, rfl⟩ := hC; exact hXa) _ Tryd.underlying29 rfl infoIn5 ?_
  simp only [Act.put, List.setIfInBounds_toArray, List.set_cons_zero, List.set_cons_succ]
  refine wpQ_bin .eql 29 _ _ 29 rfl rfl (.agg #[.int .i64 q, .int .i64 x1, .int .i64 x2, .int .i64 x3, .int .i64 x5]) (.agg #[.int .i64 i, .int .i64 a, .int .i64 b, .int .i64 c, .int .i64 n]) rfl rfl (.bool r) (fun W _ => by rw [HR.out]; exact run_eql_ref _ _ _ _ _ _ _ _ _ _ W _ _) ?_
  simp only [Act.put, List.setIfInBounds_toArray, List.set_cons_zero, List.set_cons_succ]
  refine wpQ_assign _ rfl rfl (.int .i64 (V : Int)) rfl ?_
  simp only [Act.put, List.setIfInBounds_toArray, List.set_cons_zero, List.set_cons_succ]
  refine wpQ_assign _ rfl rfl (.bool r) rfl ?_
  simp only [Act.put, List.setIfInBounds_toArray, List.set_cons_zero, List.set_cons_succ]
  refine wpQuiet_nil ?_
  rintro w' ⟨n9, rfl⟩
  go_wp2_with fail
  go_ret2
  exact ⟨rfl, below_drewN HBA.out n9⟩
set_option maxRecDepth 100000 in
set_option maxHeartbeats 4000000 in
theorem encode_B (W i a b c n : Nat) (w : World) (h1 : 1 ≤ i) (h2 : i < 57) (hf : (opP i).1 = .B) (hWe : (opP i).2 = W) (hW : W < 4294967296) (ha : a ≤ 31) (hb : b ≤ 31) (hc : c ≤ 31) (hn : n < 4294967296) :
    Calls Tryd.prog 13 #[.agg (tab 5 (insR i a b c n))] w fun e w' => e = .returned (.tuple #[.int .i64 (encR .B W a b c n : Nat), .bool (encE .B W i a b c n)]) ∧ Below w.heap.size w w' := by
  rw [show tab 5 (insR i a b c n) = #[.int .i64 i, .int .i64 a, .int .i64 b, .int .i64 c, .int .i64 n] from rfl]
  have hL := fun W => list_any W
  obtain ⟨hc0, hc1⟩ := opCells_get i h2
  rw [hf] at hc0
  rw [hWe] at hc1
  rw [Nat.mul_comm 2 i] at hc0 hc1
  have hV := encR_lt .B W a b c n hW ha hb hc
  have kD := fun U => decode_any (encR .B W a b c n) U hV
  obtain ⟨V, hVe⟩ : ∃ V, V = encR .B W a b c n := ⟨_, rfl⟩
  obtain ⟨r, hr⟩ : ∃ r, r = encE .B W i a b c n := ⟨_, rfl⟩
  rw [← hr, ← hVe]
  rw [← hVe] at kD hV
  unfold encE at hr
  rw [← hVe] at hr
  unfold encR regR at hVe
  simp only [show rdB .B = false from rfl, show r1B .B = true from rfl, show r2B .B = true from rfl, Bool.false_eq_true, if_true, if_false] at hVe
  obtain ⟨W1, hW1e⟩ : ∃ W', W' = W ||| b * 32768 := ⟨_, rfl⟩
  have o1 : bits .or .i64 (W : Int) ((b : Int) * 32768) = (W1 : Int) := by rw [hW1e]; exact or_reg W b 32768 hW (by omega)
  have hW1 : W1 < 4294967296 := by rw [hW1e]; exact or_lt32 _ _ hW (by omega)
  rw [← hW1e] at hVe
  clear hW1e
  obtain ⟨W2, hW2e⟩ : ∃ W', W' = W1 ||| c * 1048576 := ⟨_, rfl⟩
  have o2 : bits .or .i64 (W1 : Int) ((c : Int) * 1048576) = (W2 : Int) := by rw [hW2e]; exact or_reg W1 c 1048576 hW1 (by omega)
  have hW2 : W2 < 4294967296 := by rw [hW2e]; exact or_lt32 _ _ hW1 (by omega)
  rw [← hW2e] at hVe
  clear hW2e
  have kS := fun U => set_any .B W2 n U hW2 hn
  rw [← hVe] at kS
  unfold fmS at kS
  clear hVe
  have eD : tab 5 (decV V (opOf V)) = #[.int .i64 (opOf V : Nat), .int .i64 ((if rdB (opP (opOf V)).1 then bitsN V 11 7 else 0 : Nat) : Int), .int .i64 ((if r1B (opP (opOf V)).1 then bitsN V 19 15 else 0 : Nat) : Int), .int .i64 ((if r2B (opP (opOf V)).1 then bitsN V 24 20 else 0 : Nat) : Int), .int .i64 (immZ (opP (opOf V)).1 V)] := rfl
  rw [eD] at kD
  generalize ((if rdB (opP (opOf V)).1 then bitsN V 11 7 else 0 : Nat) : Int) = x1 at *
  generalize ((if r1B (opP (opOf V)).1 then bitsN V 19 15 else 0 : Nat) : Int) = x2 at *
  generalize ((if r2B (opP (opOf V)).1 then bitsN V 24 20 else 0 : Nat) : Int) = x3 at *
  have m1 := and32 (immZ (opP (opOf V)).1 V)
  generalize immZ (opP (opOf V)).1 V % 4294967296 = x5 at *
  generalize immZ (opP (opOf V)).1 V = x4 at *
  generalize opOf V = q at *
  have m2 : bits .and .i64 (n : Int) 4294967295 = n := by rw [and32]; omega
  have HR := Lib.hid hr
  have HC0 := Lib.hid hc0
  have HC1 := Lib.hid hc1
  clear hr hc0 hc1 eD hf hWe
  unfold fmS at HC0
  go_enter Tryd.func13, Tryd.ntmps13
  go_upto_region 2 with (go_at_call 26; refine (hL _).mono ?_; rintro e w2 ⟨⟨g, rfl, hG, hg⟩, hb⟩)
  have hB : Has w2 w.heap.size 29 (tab 5 (insR i a b c n)) := (Has.new w 29 (tab 5 (insR i a b c n))).below hb (by rw [size_alloc1]; omega)
  have c0 : w2.cell? ⟨w.heap.size, 0, none⟩ = some (.int .i64 (i : Int)) := hB.cellTab 0 (by omega)
  have c1 : w2.cell? ⟨w.heap.size, 1, none⟩ = some (.int .i64 (a : Int)) := hB.cellTab 1 (by omega)
  have c2 : w2.cell? ⟨w.heap.size, 2, none⟩ = some (.int .i64 (b : Int)) := hB.cellTab 2 (by omega)
  have c3 : w2.cell? ⟨w.heap.size, 3, none⟩ = some (.int .i64 (c : Int)) := hB.cellTab 3 (by omega)
  have c4 : w2.cell? ⟨w.heap.size, 4, none⟩ = some (.int .i64 (n : Int)) := hB.cellTab 4 (by omega)
  have hb4 : Below w.heap.size w w2 := ((Below.refl _ _).alloc (Nat.le_refl _) _).trans (hb.mono (by rw [size_alloc1]; omega))
  have d0 := (hG.cell (i * 2)).trans ((List.getElem?_toArray (xs := opCells)).trans HC0.out)
  have d1 := (hG.cell (i * 2 + 1)).trans ((List.getElem?_toArray (xs := opCells)).trans HC1.out)
  have HB4 := Lib.hid hb4
  have HB := Lib.hid hB
  clear hL hB hb hG hb4 hg
  have k1 : ¬ (i : Int) < 1 := by omega
  have k2 : ¬ 57 ≤ (i : Int) := by omega
  have k2' : (i : Int) < 57 := by omega
  have k3 : ¬ (a : Int) < 0 := by omega
  have k4 : ¬ 31 < (a : Int) := by omega
  have k5 : ¬ (b : Int) < 0 := by omega
  have k6 : ¬ 31 < (b : Int) := by omega
  have k7 : ¬ (c : Int) < 0 := by omega
  have k8 : ¬ 31 < (c : Int) := by omega
  go_upto_region 18 with (go_at_call 25; with_reducible refine (kS _).mono ?_; rintro e w3 ⟨rfl, n3, rfl⟩)
  clear k1 k2 k2' k3 k4 k5 k6 k7 k8 c0 c1 c2 c3 c4 d0 d1
  go_wp2_with fail
  refine (kD _).mono ?_
  rintro e w5 ⟨rfl, hb5⟩
  have hB5 := (HB.out.drewN n3).below hb5 (HB.out.drewN n3).lt
  have hb4 := HB4.out
  replace hb5 := (below_drewN hb4 n3).trans (hb5.mono (below_drewN hb4 n3).size)
  have f4 := hB5.free 4
  have c4 : w5.cell? ⟨w.heap.size, 4, none⟩ = some (.int .i64 (n : Int)) := hB5.cellTab 4 (by omega)
  have hl5 := hB5.lt
  have hne : w.heap.size ≠ w5.heap.size := by omega
  have HB5 := Lib.hid hB5
  have HBb := Lib.hid hb5
  clear hB5 hb5 hb4
  go_upto_region 21 with fail
  have hX := has_to (HB5.out.set 4 (.int .i64 (n : Int))) (insR_set4 i a b c n n)
  have hb6 : Below w.heap.size w (w5.setCell ⟨w.heap.size, 4, none⟩ (.int .i64 (n : Int))) := Below.setCell HBb.out (Nat.le_refl _) _
  have hsz : (w5.setCell ⟨w.heap.size, 4, none⟩ (.int .i64 (n : Int))).heap.size = w5.heap.size := by simp
  generalize w5.setCell ⟨w.heap.size, 4, none⟩ (.int .i64 (n : Int)) = w6 at *
  obtain ⟨wa, hwa, hY, hbY, hsY⟩ := one_newR w6 #[.int .i64 q, .int .i64 x1, .int .i64 x2, .int .i64 x3, .int .i64 x5] 29
  rw [← hwa]
  rw [hsz] at hY
  have hXa := hX.below hbY (by omega)
  have hba := hb6.trans (hbY.mono (by have := hb6.size; omega))
  have hla := hXa.lt
  have hya := hY.lt
  have HBA := Lib.hid hba
  clear hwa hX hb6 hsz hbY hsY f4 c4 hl5 hba
  refine region_quiet_all (fun w' => ∃ n, w' = wa.drewN n) (by kernel_rfl) (by kernel_rfl) ⟨1, rfl⟩ ?_
  refine wpQ_move _ rfl rfl (.int .i64 (V : Int)) rfl ?_
  simp only [Act.put, List.setIfInBounds_toArray, List.set_cons_zero, List.set_cons_succ]
  refine wpQ_has 29 _ rfl w5.heap.size rfl rfl 29 #[.int .i64 q, .int .i64 x1, .int .i64 x2, .int .i64 x3, .int .i64 x5] (fun w' hC => by obtain ⟨n9, rfl⟩ := hC; exact hY) _ Tryd.underlying29 rfl infoIn5 ?_
  simp only [Act.put, List.setIfInBounds_toArray, List.set_cons_zero, List.set_cons_succ]
  refine wpQ_has 29 _ rfl w.heap.size rfl rfl 29 #[.int .i64 i, .int .i64 a, .int .i64 b, .int .i64 c, .int .i64 n] (fun w' hC => by obtain ⟨n9, rfl⟩ := hC; exact hXa) _ Tryd.underlying29 rfl infoIn5 ?_
  simp only [Act.put, List.setIfInBounds_toArray, List.set_cons_zero, List.set_cons_succ]
  refine wpQ_bin .eql 29 _ _ 29 rfl rfl (.agg #[.int .i64 q, .int .i64 x1, .int .i64 x2, .int .i64 x3, .int .i64 x5]) (.agg #[.int .i64 i, .int .i64 a, .int .i64 b, .int .i64 c, .int .i64 n]) rfl rfl (.bool r) (fun W _ => by rw [HR.out]; exact run_eql_ref _ _ _ _ _ _ _ _ _ _ W _ _) ?_
  simp only [Act.put, List.setIfInBounds_toArray, List.set_cons_zero, List.set_cons_succ]
  refine wpQ_assign _ rfl rfl (.int .i64 (V : Int)) rfl ?_
  simp only [Act.put, List.setIfInBounds_toArray, List.set_cons_zero, List.set_cons_succ]
  refine wpQ_assign _ rfl rfl (.bool r) rfl ?_
  simp only [Act.put, List.setIfInBounds_toArray, List.set_cons_zero, List.set_cons_succ]
  refine wpQuiet_nil ?_
  rintro w' ⟨n9, rfl⟩
  go_wp2_with fail
  go_ret2
  exact ⟨rfl, below_drewN HBA.out n9⟩
set_option maxRecDepth 100000 in
set_option maxHeartbeats 4000000 in
theorem encode_S (W i a b c n : Nat) (w : World) (h1 : 1 ≤ i) (h2 : i < 57) (hf : (opP i).1 = .S) (hWe : (opP i).2 = W) (hW : W < 4294967296) (ha : a ≤ 31) (hb : b ≤ 31) (hc : c ≤ 31) (hn : n < 4294967296) :
    Calls Tryd.prog 13 #[.agg (tab 5 (insR i a b c n))] w fun e w' => e = .returned (.tuple #[.int .i64 (encR .S W a b c n : Nat), .bool (encE .S W i a b c n)]) ∧ Below w.heap.size w w' := by
  rw [show tab 5 (insR i a b c n) = #[.int .i64 i, .int .i64 a, .int .i64 b, .int .i64 c, .int .i64 n] from rfl]
  have hL := fun W => list_any W
  obtain ⟨hc0, hc1⟩ := opCells_get i h2
  rw [hf] at hc0
  rw [hWe] at hc1
  rw [Nat.mul_comm 2 i] at hc0 hc1
  have hV := encR_lt .S W a b c n hW ha hb hc
  have kD := fun U => decode_any (encR .S W a b c n) U hV
  obtain ⟨V, hVe⟩ : ∃ V, V = encR .S W a b c n := ⟨_, rfl⟩
  obtain ⟨r, hr⟩ : ∃ r, r = encE .S W i a b c n := ⟨_, rfl⟩
  rw [← hr, ← hVe]
  rw [← hVe] at kD hV
  unfold encE at hr
  rw [← hVe] at hr
  unfold encR regR at hVe
  simp only [show rdB .S = false from rfl, show r1B .S = true from rfl, show r2B .S = true from rfl, Bool.false_eq_true, if_true, if_false] at hVe
  obtain ⟨W1, hW1e⟩ : ∃ W', W' = W ||| b * 32768 := ⟨_, rfl⟩
  have o1 : bits .or .i64 (W : Int) ((b : Int) * 32768) = (W1 : Int) := by rw [hW1e]; exact or_reg W b 32768 hW (by omega)
  have hW1 : W1 < 4294967296 := by rw [hW1e]; exact or_lt32 _ _ hW (by omega)
  rw [← hW1e] at hVe
  clear hW1e
  obtain ⟨W2, hW2e⟩ : ∃ W', W' = W1 ||| c * 1048576 := ⟨_, rfl⟩
  have o2 : bits .or .i64 (W1 : Int) ((c : Int) * 1048576) = (W2 : Int) := by rw [hW2e]; exact or_reg W1 c 1048576 hW1 (by omega)
  have hW2 : W2 < 4294967296 := by rw [hW2e]; exact or_lt32 _ _ hW1 (by omega)
  rw [← hW2e] at hVe
  clear hW2e
  have kS := fun U => set_any .S W2 n U hW2 hn
  rw [← hVe] at kS
  unfold fmS at kS
  clear hVe
  have eD : tab 5 (decV V (opOf V)) = #[.int .i64 (opOf V : Nat), .int .i64 ((if rdB (opP (opOf V)).1 then bitsN V 11 7 else 0 : Nat) : Int), .int .i64 ((if r1B (opP (opOf V)).1 then bitsN V 19 15 else 0 : Nat) : Int), .int .i64 ((if r2B (opP (opOf V)).1 then bitsN V 24 20 else 0 : Nat) : Int), .int .i64 (immZ (opP (opOf V)).1 V)] := rfl
  rw [eD] at kD
  generalize ((if rdB (opP (opOf V)).1 then bitsN V 11 7 else 0 : Nat) : Int) = x1 at *
  generalize ((if r1B (opP (opOf V)).1 then bitsN V 19 15 else 0 : Nat) : Int) = x2 at *
  generalize ((if r2B (opP (opOf V)).1 then bitsN V 24 20 else 0 : Nat) : Int) = x3 at *
  have m1 := and32 (immZ (opP (opOf V)).1 V)
  generalize immZ (opP (opOf V)).1 V % 4294967296 = x5 at *
  generalize immZ (opP (opOf V)).1 V = x4 at *
  generalize opOf V = q at *
  have m2 : bits .and .i64 (n : Int) 4294967295 = n := by rw [and32]; omega
  have HR := Lib.hid hr
  have HC0 := Lib.hid hc0
  have HC1 := Lib.hid hc1
  clear hr hc0 hc1 eD hf hWe
  unfold fmS at HC0
  go_enter Tryd.func13, Tryd.ntmps13
  go_upto_region 2 with (go_at_call 26; refine (hL _).mono ?_; rintro e w2 ⟨⟨g, rfl, hG, hg⟩, hb⟩)
  have hB : Has w2 w.heap.size 29 (tab 5 (insR i a b c n)) := (Has.new w 29 (tab 5 (insR i a b c n))).below hb (by rw [size_alloc1]; omega)
  have c0 : w2.cell? ⟨w.heap.size, 0, none⟩ = some (.int .i64 (i : Int)) := hB.cellTab 0 (by omega)
  have c1 : w2.cell? ⟨w.heap.size, 1, none⟩ = some (.int .i64 (a : Int)) := hB.cellTab 1 (by omega)
  have c2 : w2.cell? ⟨w.heap.size, 2, none⟩ = some (.int .i64 (b : Int)) := hB.cellTab 2 (by omega)
  have c3 : w2.cell? ⟨w.heap.size, 3, none⟩ = some (.int .i64 (c : Int)) := hB.cellTab 3 (by omega)
  have c4 : w2.cell? ⟨w.heap.size, 4, none⟩ = some (.int .i64 (n : Int)) := hB.cellTab 4 (by omega)
  have hb4 : Below w.heap.size w w2 := ((Below.refl _ _).alloc (Nat.le_refl _) _).trans (hb.mono (by rw [size_alloc1]; omega))
  have d0 := (hG.cell (i * 2)).trans ((List.getElem?_toArray (xs := opCells)).trans HC0.out)
  have d1 := (hG.cell (i * 2 + 1)).trans ((List.getElem?_toArray (xs := opCells)).trans HC1.out)
  have HB4 := Lib.hid hb4
  have HB := Lib.hid hB
  clear hL hB hb hG hb4 hg
  have k1 : ¬ (i : Int) < 1 := by omega
  have k2 : ¬ 57 ≤ (i : Int) := by omega
  have k2' : (i : Int) < 57 := by omega
  have k3 : ¬ (a : Int) < 0 := by omega
  have k4 : ¬ 31 < (a : Int) := by omega
  have k5 : ¬ (b : Int) < 0 := by omega
  have k6 : ¬ 31 < (b : Int) := by omega
  have k7 : ¬ (c : Int) < 0 := by omega
  have k8 : ¬ 31 < (c : Int) := by omega
  go_upto_region 18 with (go_at_call 25; with_reducible refine (kS _).mono ?_; rintro e w3 ⟨rfl, n3, rfl⟩)
  clear k1 k2 k2' k3 k4 k5 k6 k7 k8 c0 c1 c2 c3 c4 d0 d1
  go_wp2_with fail
  refine (kD _).mono ?_
  rintro e w5 ⟨rfl, hb5⟩
  have hB5 := (HB.out.drewN n3).below hb5 (HB.out.drewN n3).lt
  have hb4 := HB4.out
  replace hb5 := (below_drewN hb4 n3).trans (hb5.mono (below_drewN hb4 n3).size)
  have f4 := hB5.free 4
  have c4 : w5.cell? ⟨w.heap.size, 4, none⟩ = some (.int .i64 (n : Int)) := hB5.cellTab 4 (by omega)
  have hl5 := hB5.lt
  have hne : w.heap.size ≠ w5.heap.size := by omega
  have HB5 := Lib.hid hB5
  have HBb := Lib.hid hb5
  clear hB5 hb5 hb4
  go_upto_region 21 with fail
  have hX := has_to (HB5.out.set 4 (.int .i64 (n : Int))) (insR_set4 i a b c n n)
  have hb6 : Below w.heap.size w (w5.setCell ⟨w.heap.size, 4, none⟩ (.int .i64 (n : Int))) := Below.setCell HBb.out (Nat.le_refl _) _
  have hsz : (w5.setCell ⟨w.heap.size, 4, none⟩ (.int .i64 (n : Int))).heap.size = w5.heap.size := by simp
  generalize w5.setCell ⟨w.heap.size, 4, none⟩ (.int .i64 (n : Int)) = w6 at *
  obtain ⟨wa, hwa, hY, hbY, hsY⟩ := one_newR w6 #[.int .i64 q, .int .i64 x1, .int .i64 x2, .int .i64 x3, .int .i64 x5] 29
  rw [← hwa]
  rw [hsz] at hY
  have hXa := hX.below hbY (by omega)
  have hba := hb6.trans (hbY.mono (by have := hb6.size; omega))
  have hla := hXa.lt
  have hya := hY.lt
  have HBA := Lib.hid hba
  clear hwa hX hb6 hsz hbY hsY f4 c4 hl5 hba
  refine region_quiet_all (fun w' => ∃ n, w' = wa.drewN n) (by kernel_rfl) (by kernel_rfl) ⟨1, rfl⟩ ?_
  refine wpQ_move _ rfl rfl (.int .i64 (V : Int)) rfl ?_
  simp only [Act.put, List.setIfInBounds_toArray, List.set_cons_zero, List.set_cons_succ]
  refine wpQ_has 29 _ rfl w5.heap.size rfl rfl 29 #[.int .i64 q, .int .i64 x1, .int .i64 x2, .int .i64 x3, .int .i64 x5] (fun w' hC => by obtain ⟨n9, rfl⟩ := hC; exact hY) _ Tryd.underlying29 rfl infoIn5 ?_
  simp only [Act.put, List.setIfInBounds_toArray, List.set_cons_zero, List.set_cons_succ]
  refine wpQ_has 29 _ rfl w.heap.size rfl rfl 29 #[.int .i64 i, .int .i64 a, .int .i64 b, .int .i64 c, .int .i64 n] (fun w' hC => by obtain ⟨n9, rfl⟩ := hC; exact hXa) _ Tryd.underlying29 rfl infoIn5 ?_
  simp only [Act.put, List.setIfInBounds_toArray, List.set_cons_zero, List.set_cons_succ]
  refine wpQ_bin .eql 29 _ _ 29 rfl rfl (.agg #[.int .i64 q, .int .i64 x1, .int .i64 x2, .int .i64 x3, .int .i64 x5]) (.agg #[.int .i64 i, .int .i64 a, .int .i64 b, .int .i64 c, .int .i64 n]) rfl rfl (.bool r) (fun W _ => by rw [HR.out]; exact run_eql_ref _ _ _ _ _ _ _ _ _ _ W _ _) ?_
  simp only [Act.put, List.setIfInBounds_toArray, List.set_cons_zero, List.set_cons_succ]
  refine wpQ_assign _ rfl rfl (.int .i64 (V : Int)) rfl ?_
  simp only [Act.put, List.setIfInBounds_toArray, List.set_cons_zero, List.set_cons_succ]
  refine wpQ_assign _ rfl rfl (.bool r) rfl ?_
  simp only [Act.put, List.setIfInBounds_toArray, List.set_cons_zero, List.set_cons_succ]
  refine wpQuiet_nil ?_
  rintro w' ⟨n9, rfl⟩
  go_wp2_with fail
  go_ret2
  exact ⟨rfl, below_drewN HBA.out n9⟩
set_option maxRecDepth 100000 in
set_option maxHeartbeats 4000000 in
theorem encode_C (W i a b c n : Nat) (w : World) (h1 : 1 ≤ i) (h2 : i < 57) (hf : (opP i).1 = .C) (hWe : (opP i).2 = W) (hW : W < 4294967296) (ha : a ≤ 31) (hb : b ≤ 31) (hc : c ≤ 31) (hn : n < 4294967296) :
    Calls Tryd.prog 13 #[.agg (tab 5 (insR i a b c n))] w fun e w' => e = .returned (.tuple #[.int .i64 (encR .C W a b c n : Nat), .bool (encE .C W i a b c n)]) ∧ Below w.heap.size w w' := by
  rw [show tab 5 (insR i a b c n) = #[.int .i64 i, .int .i64 a, .int .i64 b, .int .i64 c, .int .i64 n] from rfl]
  have hL := fun W => list_any W
  obtain ⟨hc0, hc1⟩ := opCells_get i h2
  rw [hf] at hc0
  rw [hWe] at hc1
  rw [Nat.mul_comm 2 i] at hc0 hc1
  have hV := encR_lt .C W a b c n hW ha hb hc
  have kD := fun U => decode_any (encR .C W a b c n) U hV
  obtain ⟨V, hVe⟩ : ∃ V, V = encR .C W a b c n := ⟨_, rfl⟩
  obtain ⟨r, hr⟩ : ∃ r, r = encE .C W i a b c n := ⟨_, rfl⟩
  rw [← hr, ← hVe]
  rw [← hVe] at kD hV
  unfold encE at hr
  rw [← hVe] at hr
  unfold encR regR at hVe
  simp only [show rdB .C = true from rfl, show r1B .C = true from rfl, show r2B .C = false from rfl, Bool.false_eq_true, if_true, if_false] at hVe
  obtain ⟨W1, hW1e⟩ : ∃ W', W' = W ||| a * 128 := ⟨_, rfl⟩
  have o1 : bits .or .i64 (W : Int) ((a : Int) * 128) = (W1 : Int) := by rw [hW1e]; exact or_reg W a 128 hW (by omega)
  have hW1 : W1 < 4294967296 := by rw [hW1e]; exact or_lt32 _ _ hW (by omega)
  rw [← hW1e] at hVe
  clear hW1e
  obtain ⟨W2, hW2e⟩ : ∃ W', W' = W1 ||| b * 32768 := ⟨_, rfl⟩
  have o2 : bits .or .i64 (W1 : Int) ((b : Int) * 32768) = (W2 : Int) := by rw [hW2e]; exact or_reg W1 b 32768 hW1 (by omega)
  have hW2 : W2 < 4294967296 := by rw [hW2e]; exact or_lt32 _ _ hW1 (by omega)
  rw [← hW2e] at hVe
  clear hW2e
  obtain ⟨n5, hn5⟩ : ∃ n5, n5 = n % 4096 := ⟨_, rfl⟩
  have m3 : bits .and .i64 (n : Int) 4095 = (n5 : Int) := by rw [hn5]; exact and4095 n
  have l5 : n5 < 4096 := by omega
  have o9 : bits .or .i64 (W2 : Int) ((n5 : Int) * 1048576) = (V : Int) := by rw [hVe, ← hn5]; exact or_reg W2 n5 1048576 hW2 (by omega)
  clear hVe hn5
  have eD : tab 5 (decV V (opOf V)) = #[.int .i64 (opOf V : Nat), .int .i64 ((if rdB (opP (opOf V)).1 then bitsN V 11 7 else 0 : Nat) : Int), .int .i64 ((if r1B (opP (opOf V)).1 then bitsN V 19 15 else 0 : Nat) : Int), .int .i64 ((if r2B (opP (opOf V)).1 then bitsN V 24 20 else 0 : Nat) : Int), .int .i64 (immZ (opP (opOf V)).1 V)] := rfl
  rw [eD] at kD
  generalize ((if rdB (opP (opOf V)).1 then bitsN V 11 7 else 0 : Nat) : Int) = x1 at *
  generalize ((if r1B (opP (opOf V)).1 then bitsN V 19 15 else 0 : Nat) : Int) = x2 at *
  generalize ((if r2B (opP (opOf V)).1 then bitsN V 24 20 else 0 : Nat) : Int) = x3 at *
  have m1 := and32 (immZ (opP (opOf V)).1 V)
  generalize immZ (opP (opOf V)).1 V % 4294967296 = x5 at *
  generalize immZ (opP (opOf V)).1 V = x4 at *
  generalize opOf V = q at *
  have m2 : bits .and .i64 (n : Int) 4294967295 = n := by rw [and32]; omega
  have HR := Lib.hid hr
  have HC0 := Lib.hid hc0
  have HC1 := Lib.hid hc1
  clear hr hc0 hc1 eD hf hWe
  unfold fmS at HC0
  go_enter Tryd.func13, Tryd.ntmps13
  go_upto_region 2 with (go_at_call 26; refine (hL _).mono ?_; rintro e w2 ⟨⟨g, rfl, hG, hg⟩, hb⟩)
  have hB : Has w2 w.heap.size 29 (tab 5 (insR i a b c n)) := (Has.new w 29 (tab 5 (insR i a b c n))).below hb (by rw [size_alloc1]; omega)
  have c0 : w2.cell? ⟨w.heap.size, 0, none⟩ = some (.int .i64 (i : Int)) := hB.cellTab 0 (by omega)
  have c1 : w2.cell? ⟨w.heap.size, 1, none⟩ = some (.int .i64 (a : Int)) := hB.cellTab 1 (by omega)
  have c2 : w2.cell? ⟨w.heap.size, 2, none⟩ = some (.int .i64 (b : Int)) := hB.cellTab 2 (by omega)
  have c3 : w2.cell? ⟨w.heap.size, 3, none⟩ = some (.int .i64 (c : Int)) := hB.cellTab 3 (by omega)
  have c4 : w2.cell? ⟨w.heap.size, 4, none⟩ = some (.int .i64 (n : Int)) := hB.cellTab 4 (by omega)
  have hb4 : Below w.heap.size w w2 := ((Below.refl _ _).alloc (Nat.le_refl _) _).trans (hb.mono (by rw [size_alloc1]; omega))
  have d0 := (hG.cell (i * 2)).trans ((List.getElem?_toArray (xs := opCells)).trans HC0.out)
  have d1 := (hG.cell (i * 2 + 1)).trans ((List.getElem?_toArray (xs := opCells)).trans HC1.out)
  have HB4 := Lib.hid hb4
  have HB := Lib.hid hB
  clear hL hB hb hG hb4 hg
  have k1 : ¬ (i : Int) < 1 := by omega
  have k2 : ¬ 57 ≤ (i : Int) := by omega
  have k2' : (i : Int) < 57 := by omega
  have k3 : ¬ (a : Int) < 0 := by omega
  have k4 : ¬ 31 < (a : Int) := by omega
  have k5 : ¬ (b : Int) < 0 := by omega
  have k6 : ¬ 31 < (b : Int) := by omega
  have k7 : ¬ (c : Int) < 0 := by omega
  have k8 : ¬ 31 < (c : Int) := by omega
  go_upto_region 18 with fail
  clear k1 k2 k2' k3 k4 k5 k6 k7 k8 c0 c1 c2 c3 c4 d0 d1
  go_wp2_with fail
  refine (kD _).mono ?_
  rintro e w5 ⟨rfl, hb5⟩
  have hB5 := (HB.out).below hb5 (HB.out).lt
  have hb4 := HB4.out
  replace hb5 := hb4.trans (hb5.mono hb4.size)
  have f4 := hB5.free 4
  have c4 : w5.cell? ⟨w.heap.size, 4, none⟩ = some (.int .i64 (n : Int)) := hB5.cellTab 4 (by omega)
  have hl5 := hB5.lt
  have hne : w.heap.size ≠ w5.heap.size := by omega
  have HB5 := Lib.hid hB5
  have HBb := Lib.hid hb5
  clear hB5 hb5 hb4
  go_upto_region 21 with fail
  have hX := has_to (HB5.out.set 4 (.int .i64 (n : Int))) (insR_set4 i a b c n n)
  have hb6 : Below w.heap.size w (w5.setCell ⟨w.heap.size, 4, none⟩ (.int .i64 (n : Int))) := Below.setCell HBb.out (Nat.le_refl _) _
  have hsz : (w5.setCell ⟨w.heap.size, 4, none⟩ (.int .i64 (n : Int))).heap.size = w5.heap.size := by simp
  generalize w5.setCell ⟨w.heap.size, 4, none⟩ (.int .i64 (n : Int)) = w6 at *
  obtain ⟨wa, hwa, hY, hbY, hsY⟩ := one_newR w6 #[.int .i64 q, .int .i64 x1, .int .i64 x2, .int .i64 x3, .int .i64 x5] 29
  rw [← hwa]
  rw [hsz] at hY
  have hXa := hX.below hbY (by omega)
  have hba := hb6.trans (hbY.mono (by have := hb6.size; omega))
  have hla := hXa.lt
  have hya := hY.lt
  have HBA := Lib.hid hba
  clear hwa hX hb6 hsz hbY hsY f4 c4 hl5 hba
  refine region_quiet_all (fun w' => ∃ n, w' = wa.drewN n) (by kernel_rfl) (by kernel_rfl) ⟨1, rfl⟩ ?_
  refine wpQ_move _ rfl rfl (.int .i64 (V : Int)) rfl ?_
  simp only [Act.put, List.setIfInBounds_toArray, List.set_cons_zero, List.set_cons_succ]
  refine wpQ_has 29 _ rfl w5.heap.size rfl rfl 29 #[.int .i64 q, .int .i64 x1, .int .i64 x2, .int .i64 x3, .int .i64 x5] (fun w' hC => by obtain ⟨n9, rfl⟩ := hC; exact hY) _ Tryd.underlying29 rfl infoIn5 ?_
  simp only [Act.put, List.setIfInBounds_toArray, List.set_cons_zero, List.set_cons_succ]
  refine wpQ_has 29 _ rfl w.heap.size rfl rfl 29 #[.int .i64 i, .int .i64 a, .int .i64 b, .int .i64 c, .int .i64 n] (fun w' hC => by obtain ⟨n9, rfl⟩ := hC; exact hXa) _ Tryd.underlying29 rfl infoIn5 ?_
  simp only [Act.put, List.setIfInBounds_toArray, List.set_cons_zero, List.set_cons_succ]
  refine wpQ_bin .eql 29 _ _ 29 rfl rfl (.agg #[.int .i64 q, .int .i64 x1, .int .i64 x2, .int .i64 x3, .int .i64 x5]) (.agg #[.int .i64 i, .int .i64 a, .int .i64 b, .int .i64 c, .int .i64 n]) rfl rfl (.bool r) (fun W _ => by rw [HR.out]; exact run_eql_ref _ _ _ _ _ _ _ _ _ _ W _ _) ?_
  simp only [Act.put, List.setIfInBounds_toArray, List.set_cons_zero, List.set_cons_succ]
  refine wpQ_assign _ rfl rfl (.int .i64 (V : Int)) rfl ?_
  simp only [Act.put, List.setIfInBounds_toArray, List.set_cons_zero, List.set_cons_succ]
  refine wpQ_assign _ rfl rfl (.bool r) rfl ?_
  simp only [Act.put, List.setIfInBounds_toArray, List.set_cons_zero, List.set_cons_succ]
  refine wpQuiet_nil ?_
  rintro w' ⟨n9, rfl⟩
  go_wp2_with fail
  go_ret2
  exact ⟨rfl, below_drewN HBA.out n9⟩
set_option maxRecDepth 100000 in
set_option maxHeartbeats 4000000 in
theorem encode_Z (W i a b c n : Nat) (w : World) (h1 : 1 ≤ i) (h2 : i < 57) (hf : (opP i).1 = .Z) (hWe : (opP i).2 = W) (hW : W < 4294967296) (ha : a ≤ 31) (hb : b ≤ 31) (hc : c ≤ 31) (hn : n < 4294967296) :
    Calls Tryd.prog 13 #[.agg (tab 5 (insR i a b c n))] w fun e w' => e = .returned (.tuple #[.int .i64 (encR .Z W a b c n : Nat), .bool (encE .Z W i a b c n)]) ∧ Below w.heap.size w w' := by
  rw [show tab 5 (insR i a b c n) = #[.int .i64 i, .int .i64 a, .int .i64 b, .int .i64 c, .int .i64 n] from rfl]
  have hL := fun W => list_any W
  obtain ⟨hc0, hc1⟩ := opCells_get i h2
  rw [hf] at hc0
  rw [hWe] at hc1
  rw [Nat.mul_comm 2 i] at hc0 hc1
  have hV := encR_lt .Z W a b c n hW ha hb hc
  have kD := fun U => decode_any (encR .Z W a b c n) U hV
  obtain ⟨V, hVe⟩ : ∃ V, V = encR .Z W a b c n := ⟨_, rfl⟩
  obtain ⟨r, hr⟩ : ∃ r, r = encE .Z W i a b c n := ⟨_, rfl⟩
  rw [← hr, ← hVe]
  rw [← hVe] at kD hV
  unfold encE at hr
  rw [← hVe] at hr
  unfold encR regR at hVe
  simp only [show rdB .Z = true from rfl, show r1B .Z = true from rfl, show r2B .Z = false from rfl, Bool.false_eq_true, if_true, if_false] at hVe
  obtain ⟨W1, hW1e⟩ : ∃ W', W' = W ||| a * 128 := ⟨_, rfl⟩
  have o1 : bits .or .i64 (W : Int) ((a : Int) * 128) = (W1 : Int) := by rw [hW1e]; exact or_reg W a 128 hW (by omega)
  have hW1 : W1 < 4294967296 := by rw [hW1e]; exact or_lt32 _ _ hW (by omega)
  rw [← hW1e] at hVe
  clear hW1e
  obtain ⟨W2, hW2e⟩ : ∃ W', W' = W1 ||| b * 32768 := ⟨_, rfl⟩
  have o2 : bits .or .i64 (W1 : Int) ((b : Int) * 32768) = (W2 : Int) := by rw [hW2e]; exact or_reg W1 b 32768 hW1 (by omega)
  have hW2 : W2 < 4294967296 := by rw [hW2e]; exact or_lt32 _ _ hW1 (by omega)
  rw [← hW2e] at hVe
  clear hW2e
  obtain ⟨n5, hn5⟩ : ∃ n5, n5 = n % 4096 := ⟨_, rfl⟩
  have m3 : bits .and .i64 (n : Int) 4095 = (n5 : Int) := by rw [hn5]; exact and4095 n
  have l5 : n5 < 4096 := by omega
  have o9 : bits .or .i64 (W2 : Int) ((n5 : Int) * 1048576) = (V : Int) := by rw [hVe, ← hn5]; exact or_reg W2 n5 1048576 hW2 (by omega)
  clear hVe hn5
  have eD : tab 5 (decV V (opOf V)) = #[.int .i64 (opOf V : Nat), .int .i64 ((if rdB (opP (opOf V)).1 then bitsN V 11 7 else 0 : Nat) : Int), .int .i64 ((if r1B (opP (opOf V)).1 then bitsN V 19 15 else 0 : Nat) : Int), .int .i64 ((if r2B (opP (opOf V)).1 then bitsN V 24 20 else 0 : Nat) : Int), .int .i64 (immZ (opP (opOf V)).1 V)] := rfl
  rw [eD] at kD
  generalize ((if rdB (opP (opOf V)).1 then bitsN V 11 7 else 0 : Nat) : Int) = x1 at *
  generalize ((if r1B (opP (opOf V)).1 then bitsN V 19 15 else 0 : Nat) : Int) = x2 at *
  generalize ((if r2B (opP (opOf V)).1 then bitsN V 24 20 else 0 : Nat) : Int) = x3 at *
  have m1 := and32 (immZ (opP (opOf V)).1 V)
  generalize immZ (opP (opOf V)).1 V % 4294967296 = x5 at *
  generalize immZ (opP (opOf V)).1 V = x4 at *
  generalize opOf V = q at *
  have m2 : bits .and .i64 (n : Int) 4294967295 = n := by rw [and32]; omega
  have HR := Lib.hid hr
  have HC0 := Lib.hid hc0
  have HC1 := Lib.hid hc1
  clear hr hc0 hc1 eD hf hWe
  unfold fmS at HC0
  go_enter Tryd.func13, Tryd.ntmps13
  go_upto_region 2 with (go_at_call 26; refine (hL _).mono ?_; rintro e w2 ⟨⟨g, rfl, hG, hg⟩, hb⟩)
  have hB : Has w2 w.heap.size 29 (tab 5 (insR i a b c n)) := (Has.new w 29 (tab 5 (insR i a b c n))).below hb (by rw [size_alloc1]; omega)
  have c0 : w2.cell? ⟨w.heap.size, 0, none⟩ = some (.int .i64 (i : Int)) := hB.cellTab 0 (by omega)
  have c1 : w2.cell? ⟨w.heap.size, 1, none⟩ = some (.int .i64 (a : Int)) := hB.cellTab 1 (by omega)
  have c2 : w2.cell? ⟨w.heap.size, 2, none⟩ = some (.int .i64 (b : Int)) := hB.cellTab 2 (by omega)
  have c3 : w2.cell? ⟨w.heap.size, 3, none⟩ = some (.int .i64 (c : Int)) := hB.cellTab 3 (by omega)
  have c4 : w2.cell? ⟨w.heap.size, 4, none⟩ = some (.int .i64 (n : Int)) := hB.cellTab 4 (by omega)
  have hb4 : Below w.heap.size w w2 := ((Below.refl _ _).alloc (Nat.le_refl _) _).trans (hb.mono (by rw [size_alloc1]; omega))
  have d0 := (hG.cell (i * 2)).trans ((List.getElem?_toArray (xs := opCells)).trans HC0.out)
  have d1 := (hG.cell (i * 2 + 1)).trans ((List.getElem?_toArray (xs := opCells)).trans HC1.out)
  have HB4 := Lib.hid hb4
  have HB := Lib.hid hB
  clear hL hB hb hG hb4 hg
  have k1 : ¬ (i : Int) < 1 := by omega
  have k2 : ¬ 57 ≤ (i : Int) := by omega
  have k2' : (i : Int) < 57 := by omega
  have k3 : ¬ (a : Int) < 0 := by omega
  have k4 : ¬ 31 < (a : Int) := by omega
  have k5 : ¬ (b : Int) < 0 := by omega
  have k6 : ¬ 31 < (b : Int) := by omega
  have k7 : ¬ (c : Int) < 0 := by omega
  have k8 : ¬ 31 < (c : Int) := by omega
  go_upto_region 18 with fail
  clear k1 k2 k2' k3 k4 k5 k6 k7 k8 c0 c1 c2 c3 c4 d0 d1
  go_wp2_with fail
  refine (kD _).mono ?_
  rintro e w5 ⟨rfl, hb5⟩
  have hB5 := (HB.out).below hb5 (HB.out).lt
  have hb4 := HB4.out
  replace hb5 := hb4.trans (hb5.mono hb4.size)
  have f4 := hB5.free 4
  have c4 : w5.cell? ⟨w.heap.size, 4, none⟩ = some (.int .i64 (n : Int)) := hB5.cellTab 4 (by omega)
  have hl5 := hB5.lt
  have hne : w.heap.size ≠ w5.heap.size := by omega
  have HB5 := Lib.hid hB5
  have HBb := Lib.hid hb5
  clear hB5 hb5 hb4
  go_upto_region 21 with fail
  have hX := has_to (HB5.out.set 4 (.int .i64 (n : Int))) (insR_set4 i a b c n n)
  have hb6 : Below w.heap.size w (w5.setCell ⟨w.heap.size, 4, none⟩ (.int .i64 (n : Int))) := Below.setCell HBb.out (Nat.le_refl _) _
  have hsz : (w5.setCell ⟨w.heap.size, 4, none⟩ (.int .i64 (n : Int))).heap.size = w5.heap.size := by simp
  generalize w5.setCell ⟨w.heap.size, 4, none⟩ (.int .i64 (n : Int)) = w6 at *
  obtain ⟨wa, hwa, hY, hbY, hsY⟩ := one_newR w6 #[.int .i64 q, .int .i64 x1, .int .i64 x2, .int .i64 x3, .int .i64 x5] 29
  rw [← hwa]
  rw [hsz] at hY
  have hXa := hX.below hbY (by omega)
  have hba := hb6.trans (hbY.mono (by have := hb6.size; omega))
  have hla := hXa.lt
  have hya := hY.lt
  have HBA := Lib.hid hba
  clear hwa hX hb6 hsz hbY hsY f4 c4 hl5 hba
  refine region_quiet_all (fun w' => ∃ n, w' = wa.drewN n) (by kernel_rfl) (by kernel_rfl) ⟨1, rfl⟩ ?_
  refine wpQ_move _ rfl rfl (.int .i64 (V : Int)) rfl ?_
  simp only [Act.put, List.setIfInBounds_toArray, List.set_cons_zero, List.set_cons_succ]
  refine wpQ_has 29 _ rfl w5.heap.size rfl rfl 29 #[.int .i64 q, .int .i64 x1, .int .i64 x2, .int .i64 x3, .int .i64 x5] (fun w' hC => by obtain ⟨n9, rfl⟩ := hC; exact hY) _ Tryd.underlying29 rfl infoIn5 ?_
  simp only [Act.put, List.setIfInBounds_toArray, List.set_cons_zero, List.set_cons_succ]
  refine wpQ_has 29 _ rfl w.heap.size rfl rfl 29 #[.int .i64 i, .int .i64 a, .int .i64 b, .int .i64 c, .int .i64 n] (fun w' hC => by obtain ⟨n9, rfl⟩ := hC; exact hXa) _ Tryd.underlying29 rfl infoIn5 ?_
  simp only [Act.put, List.setIfInBounds_toArray, List.set_cons_zero, List.set_cons_succ]
  refine wpQ_bin .eql 29 _ _ 29 rfl rfl (.agg #[.int .i64 q, .int .i64 x1, .int .i64 x2, .int .i64 x3, .int .i64 x5]) (.agg #[.int .i64 i, .int .i64 a, .int .i64 b, .int .i64 c, .int .i64 n]) rfl rfl (.bool r) (fun W _ => by rw [HR.out]; exact run_eql_ref _ _ _ _ _ _ _ _ _ _ W _ _) ?_
  simp only [Act.put, List.setIfInBounds_toArray, List.set_cons_zero, List.set_cons_succ]
  refine wpQ_assign _ rfl rfl (.int .i64 (V : Int)) rfl ?_
  simp only [Act.put, List.setIfInBounds_toArray, List.set_cons_zero, List.set_cons_succ]
  refine wpQ_assign _ rfl rfl (.bool r) rfl ?_
  simp only [Act.put, List.setIfInBounds_toArray, List.set_cons_zero, List.set_cons_succ]
  refine wpQuiet_nil ?_
  rintro w' ⟨n9, rfl⟩
  go_wp2_with fail
  go_ret2
  exact ⟨rfl, below_drewN HBA.out n9⟩
end Go.Proofs.YtghfbdkfibbhoaaDoor
