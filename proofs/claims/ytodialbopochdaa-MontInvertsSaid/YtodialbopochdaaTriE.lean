/-
The reference of layer 3: differences and products modulo m.
-/
import Derived.Test.YtodialbopochdaaTriD
namespace Go.Proofs.Ytodialbopochdaa
open Go.RowKit

theorem load_d16 (g R : Nat) (t : TypeId) (w : World) (h : Has w g t (d17 R)) : (Instr.loadAt 34 (.pointer (some ⟨g, 0, none⟩))).run Try.prog w = .ok (.agg (d16 R)) w := by
  have hc := h.range 0 16 (by decide)
  simp only [Nat.zero_add] at hc
  simp only [Instr.loadAt, Instr.sureAddr, Sem.run_bind, Sem.run_pure, Result.andThen_ok, run_loadVar_mid (P := Try.prog) w g 0 34 _ _ hc Try.underlying34 rfl (by simpa using info16')]
  rfl
attribute [local go_sem] zeroNum zero16 zero17
set_option maxRecDepth 100000 in
set_option maxHeartbeats 1000000 in
theorem dif3_any (a b m : Nat) (w : World) (ha : a < m) (hbm : b < m) (hm : m < 65536 ^ 16) :
    Calls Try.prog 19 #[.agg (d16 a), .agg (d16 b), .agg (d16 m)] w fun e w' => e = .returned (.agg (d16 ((a + (m - b)) % m))) ∧ Below w.heap.size w w' := by
  have ctake := fun W => take_any m b W (Nat.lt_of_lt_of_le hm (Nat.pow_le_pow_right (by decide) (by decide))) (by omega) (by omega)
  have cred := fun W => reduce3_any (m - b) m W (by omega) (by omega) hm
  have cadd := fun W => sum3_any a ((m - b) % m) m W ha (Nat.mod_lt _ (by omega)) hm
  have hval : (a + (m - b) % m) % m = (a + (m - b)) % m := Nat.add_mod_mod _ _ _
  rw [hval] at cadd
  have hm17 : d17 (m % 65536 ^ 16) = d17 m := by rw [Nat.mod_eq_of_lt hm]
  have HM17 := Lib.hid hm17
  have hne : ¬ d17 0 = #[] := fun h => by have := congrArg Array.size h; simp [d17_size] at this
  clear hval hm17 ha hbm hm
  generalize (a + (m - b)) % m = y at *
  generalize (m - b) % m = z at *
  generalize m - b = d at *
  go_enter Try.func19, Try.ntmps19
  go_wp2_with fail
  go_loopw [8] (fun ct wr => ∃ k : Nat, k ≤ 16 ∧ ct = .int .i64 k ∧ Has wr w.heap.size 34 (d16 a) ∧ Has wr (w.heap.size + 1) 34 (d16 b) ∧ Has wr (w.heap.size + 1 + 1) 34 (d16 m) ∧
      Has wr (w.heap.size + 1 + 1 + 1) 34 (d16 0) ∧ Has wr (w.heap.size + 1 + 1 + 1 + 1) 57 (d17 (m % 65536 ^ k)) ∧ Below w.heap.size w wr) (fun ct _ => 16 - (intOf ct).toNat)
  case atStart =>
    exact ⟨0, by omega, rfl, ((((Has.new w _ _).alloc _).alloc _).alloc _).alloc _, (((Has.new' (by simp)).alloc _).alloc _).alloc _, ((Has.new' (by simp)).alloc _).alloc _, (Has.new' (by simp)).alloc _, by rw [Nat.pow_zero, Nat.mod_one]; exact Has.new' (by simp),
      (((((Below.refl _ _).alloc (Nat.le_refl _) _).alloc (by simp) _).alloc (by simp <;> omega) _).alloc (by simp <;> omega) _).alloc (by simp <;> omega) _⟩
  case round =>
    obtain ⟨k, hk, rfl, hA, hB, hM, hR, hT, hb⟩ := hrel
    by_cases hlt : k < 16
    · have c0 := d16_at hM k hlt
      have dk : (k : Int) < 16 := by omega
      have c3 := hT.cellTab k (by omega)
      have f3 := hT.free k
      go_wp2_with fail
      go_roundw
      case rel => exact ⟨k + 1, by omega, by go_num, hA.far (by simp <;> omega) _, hB.far (by simp <;> omega) _, hM.far (by simp <;> omega) _, hR.far (by simp <;> omega) _, by rw [← d17_set (by omega)]; exact hT.set k _, hb.setCell (by simp <;> omega) _⟩
      case measure => simp [intOf]; omega
    · obtain rfl : k = 16 := by omega
      rw [HM17.out] at hT
      clear hk hlt
      go_wp2_with (first | refine wpList_load_row rfl 57 _ rfl (w.heap.size + 1 + 1 + 1 + 1) rfl 57 _ _ _ hT Try.underlying57 rfl (info17 _) ?_ | refine wpList_load_row rfl 34 _ rfl (w.heap.size + 1) rfl 34 _ _ _ hB Try.underlying34 rfl (info16 _) ?_)
      refine (ctake _).mono ?_
      rintro e w1 ⟨rfl, hx⟩
      have hN := put_new w1 57 (d17 0) (d17 d)
      replace hA := (hA.after hx).after hN.2
      replace hM := (hM.after hx).after hN.2
      replace hR := (hR.after hx).after hN.2
      replace hb := below_trans (below_trans hb hx) hN.2
      have hS := hN.1
      have hsl := slice16 w1.heap.size
      have har := array16 w1.heap.size
      clear hx hN ctake hT hB
      go_wp2_with (refine wpList_store_row rfl 57 _ _ rfl w1.heap.size _ rfl rfl 57 (d17 0) (Has.new' rfl) (info17 _) (by simp only [d17_size]) (tab_oneCell _ _ fun _ => rfl) ?_)
      generalize hW : Go.World.setRow _ _ _ = W at *
      clear hW
      refine region_quiet_tail (Below W.heap.size W) 8 (by kernel_rfl) (by kernel_rfl) (below_drewN (Below.refl _ _) 1) ?_
      simp only [List.take_succ_cons, List.take_zero, List.drop_succ_cons, List.drop_zero]
      refine wpQ_has 34 _ rfl _ rfl rfl 34 _ (fun w' hC => hA.after hC) _ Try.underlying34 rfl (info16 _) ?_
      simp only [Act.put, List.setIfInBounds_toArray, List.set_cons_zero, List.set_cons_succ]
      refine wpQ_slice _ _ _ _ _ rfl rfl (.pointer (some ⟨w1.heap.size, 0, none⟩)) rfl none (some (.int .i64 16)) none rfl rfl rfl (.slice (some ⟨w1.heap.size, 0, none⟩) 16 17) (fun w' _ => hsl w') ?_
      simp only [Act.put, List.setIfInBounds_toArray, List.set_cons_zero, List.set_cons_succ]
      refine wpQ_arrayAt _ _ rfl rfl (.slice (some ⟨w1.heap.size, 0, none⟩) 16 17) rfl (.pointer (some ⟨w1.heap.size, 0, none⟩)) (fun w' _ => har w') ?_
      simp only [Act.put, List.setIfInBounds_toArray, List.set_cons_zero, List.set_cons_succ]
      refine wpQ_load _ _ rfl rfl (.pointer (some ⟨w1.heap.size, 0, none⟩)) rfl (.agg (d16 d)) (fun w' hC => load_d16 _ _ _ w' (hS.after hC)) ?_
      simp only [Act.put, List.setIfInBounds_toArray, List.set_cons_zero, List.set_cons_succ]
      refine wpQ_has 34 _ rfl _ rfl rfl 34 _ (fun w' hC => hM.after hC) _ Try.underlying34 rfl (info16 _) ?_
      simp only [Act.put, List.setIfInBounds_toArray, List.set_cons_zero, List.set_cons_succ]
      refine wpQ_fn 13 _ _ rfl rfl #[.agg (d16 d), .agg (d16 m)] rfl (fun _ => by go_simp) (.agg (d16 z)) (fun w' hC => (cred w').mono fun e w'' ⟨he, hb⟩ => ⟨he, below_class hC hb⟩) ?_
      simp only [Act.put, List.setIfInBounds_toArray, List.set_cons_zero, List.set_cons_succ]
      refine wpQ_has 34 _ rfl _ rfl rfl 34 _ (fun w' hC => hM.after hC) _ Try.underlying34 rfl (info16 _) ?_
      simp only [Act.put, List.setIfInBounds_toArray, List.set_cons_zero, List.set_cons_succ]
      refine wpQ_fn 17 _ _ rfl rfl #[.agg (d16 a), .agg (d16 z), .agg (d16 m)] rfl (fun _ => by go_simp) (.agg (d16 y)) (fun w' hC => (cadd w').mono fun e w'' ⟨he, hb⟩ => ⟨he, below_class hC hb⟩) ?_
      simp only [Act.put, List.setIfInBounds_toArray, List.set_cons_zero, List.set_cons_succ]
      refine wpQuiet_nil ?_
      intro w2 hC
      replace hR := hR.after hC
      replace hb := below_trans hb hC
      clear hC hA hM hS hsl har cred cadd
      have hR2 := hR.setRow (d16 y)
      have hb2 := below_setRow hb (g := w.heap.size + 1 + 1 + 1) (by omega) (d16 y)
      go_wp2_with (refine wpList_store_row rfl 34 _ _ rfl (w.heap.size + 1 + 1 + 1) _ rfl rfl 34 _ hR (info16 _) (by simp only [d16_size]) (tab_oneCell _ _ fun _ => rfl) ?_)
      exact bodyPost_ret (v := .agg (d16 y)) (results_cell_row rfl _ _ (w.heap.size + 1 + 1 + 1) 34 _ _ _ rfl hR2 Try.underlying34 rfl (info16 _)) rfl ⟨rfl, hb2⟩
end Go.Proofs.Ytodialbopochdaa
