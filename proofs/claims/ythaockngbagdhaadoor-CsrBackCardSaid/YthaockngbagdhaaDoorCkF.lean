/-
Layer 15: package csr's writing: setConfig, setConfigs, beginsLocked, setAddress, writeSingle, Write.
-/
import Derived.Test.YthaockngbagdhaaDoorCkE
namespace Go.Proofs.YthaockngbagdhaaDoor.Cs
open Go Go.RowKit
open Go.Proofs.YthaockngbagdhaaDoor.Pm (En Sl SlC SlE enV enV_one en0 TabT at_entry infoE of_any)

def cfgS (s : St) (k b : Nat) : St := if lkB (s.cfg k) = true then s else { s with cfg := upd s.cfg k (cfgB b) }
theorem and_3 (b : Nat) (hb : b < 256) : bits .and .u8 (b : Int) 3 = ((b % 4 : Nat) : Int) := by
  have h := Pm.u8_and_nat' b 3 hb (by omega)
  rw [show b &&& 3 = b % 4 from Nat.and_two_pow_sub_one_eq_mod b 2] at h
  exact h
theorem not_2 (b : Nat) (hb : b < 256) (h2 : b % 4 = 2) : bits .andNot .u8 (b : Int) 2 = ((b - 2 : Nat) : Int) := by
  have h : ∀ b : Fin 256, b.1 % 4 = 2 → bits .andNot .u8 ((b.1 : Nat) : Int) 2 = ((b.1 - 2 : Nat) : Int) := by decide +kernel
  exact h ⟨b, hb⟩ h2
theorem and_128 (b : Nat) (hb : b < 256) : bits .and .u8 (b : Int) 128 = ((b / 128 * 128 : Nat) : Int) := by
  have h := a8 b 7 hb (by decide)
  rw [show b / 2 ^ 7 % 2 * 2 ^ 7 = b / 128 * 128 by omega] at h
  exact h
theorem ne_lk (b : Nat) : (((b / 128 * 128 : Nat) : Int) != 0) = lkB b := by
  unfold lkB
  by_cases h : 128 ≤ b
  · rw [decide_eq_true h, bne_iff_ne]; omega
  · rw [decide_eq_false h, show b / 128 * 128 = 0 by omega]; rfl
theorem cfgB_of (b : Nat) : cfgB b = (if b % 4 = 2 then b - 2 else b) / 128 * 128 + (if b % 4 = 2 then b - 2 else b) % 32 := by
  unfold cfgB
  split <;> split <;> omega
/-- the end of setConfig: the entry's row, then its lock -/
theorem set_st (s : St) (k b : Nat) : ({ entS s k (b % 32) (s.r (944 + k)) with cfg := upd (entS s k (b % 32) (s.r (944 + k))).cfg k (b / 128 * 128 + b % 32) } : St) = { s with cfg := upd s.cfg k (b / 128 * 128 + b % 32) } := by
  unfold entS
  dsimp only
  rw [upd_upd, upd_id]
set_option maxRecDepth 100000 in
set_option maxHeartbeats 4000000 in
theorem setConfig_any (w : World) (g k b : Nat) (s : St) (H : IsF w g s) (hk : k < 16) (hb : b < 256) : Calls Tryd.prog 43 #[hP g, .int .u32 (k : Int), .int .u8 (b : Int)] w fun e w' => e = .returned (.tuple #[]) ∧ IsF w' g (cfgS s k b) ∧ Only (S1 g) w w' := by
  have cl := H.cl k hk
  have dk : (k : Int) < 16 := by omega
  have hat := fun W => at_ent g k dk W
  have hal := fun W => at_lck g k dk W
  unfold cfgS
  by_cases hul : lkB (s.cfg k) = true
  · rw [hul] at cl
    rw [if_pos hul]
    go_enter Tryd.func43, Tryd.ntmps43
    go_wp2_with fail
    first | go_end0 | refine bodyPost_ret (results_none rfl _ _ _) rfl ?_
    exact ⟨rfl, H, Only.refl _ _⟩
  replace hul : lkB (s.cfg k) = false := by simpa using hul
  rw [hul] at cl
  rw [if_neg (by rw [hul]; decide), cfgB_of b]
  have ha := H.inv.ok.r (944 + k)
  have c2 : w.cell? ⟨g, 11 + k * 3 + 2, none⟩ = some (.int .u32 (s.r (944 + k) : Int)) := H.ce k 2 hk (by decide)
  have HC2 := Lib.hid c2
  have HL := Lib.hid H.lt
  have h3 := and_3 b hb
  have HH := Lib.hid H
  clear c2 H
  by_cases h2 : b % 4 = 2
  · rw [h2] at h3
    have hN := not_2 b hb h2
    rw [if_pos h2]
    obtain ⟨c, hc⟩ : ∃ c, c = b - 2 := ⟨_, rfl⟩
    rw [← hc] at hN ⊢
    have hcl : c < 256 := by omega
    replace h3 : bits .and .u8 (b : Int) 3 = 2 := h3
    have h128 := and_128 c hcl
    have hne := ne_lk c
    have kO := fun W => of_any c (s.r (944 + k)) W hcl ha
    have hE := fun w1 (h1 : IsF w1 g s) (w' : World) hB => h1.ent (w' := w') k (c % 32) (s.r (944 + k)) hk ha (by omega) (by omega) (by rw [hul]; unfold lkB; exact decide_eq_false (by omega)) (enV ⟨((c / 8 % 4 : Nat) : Int), ((c % 8 : Nat) : Int), s.r (944 + k)⟩) (fun i _ => by
      unfold entN entS
      dsimp only
      rw [upd_same, upd_same, show c % 32 / 8 % 4 = c / 8 % 4 by omega, show c % 32 % 8 = c % 8 by omega]) hB
    have hrow : tab 3 (enV ⟨((c / 8 % 4 : Nat) : Int), ((c % 8 : Nat) : Int), s.r (944 + k)⟩) = #[.int .i64 ((c / 8 % 4 : Nat) : Int), .int .i64 ((c % 8 : Nat) : Int), .int .u32 (s.r (944 + k) : Int)] := rfl
    have hone := enV_one ⟨((c / 8 % 4 : Nat) : Int), ((c % 8 : Nat) : Int), s.r (944 + k)⟩
    have hLk := fun w2 (h2 : IsF w2 g (entS s k (c % 32) (s.r (944 + k)))) => h2.lck k (c / 128 * 128 + c % 32) hk (by omega) (by omega) (by unfold entS; dsimp only; rw [upd_same]; omega) (lkB c) (by
      unfold lkB
      by_cases hq : 128 ≤ c
      · rw [decide_eq_true hq, decide_eq_true (by omega)]
      · rw [decide_eq_false hq, decide_eq_false (by omega)])
    rw [set_st] at hLk
    have HE := Lib.hid hE
    have HLK := Lib.hid hLk
    clear hE hLk hc
    generalize enV ⟨((c / 8 % 4 : Nat) : Int), ((c % 8 : Nat) : Int), s.r (944 + k)⟩ = v at *
    generalize s.r (944 + k) = a at *
    generalize c / 8 % 4 = ew at *
    generalize c % 8 = er at *
    generalize c / 128 * 128 + c % 32 = z at *
    generalize c / 128 * 128 = y at *
    generalize lkB c = lb at *
    go_enter Tryd.func43, Tryd.ntmps43
    go_upto_region 3 with fail
    refine region_quiet_tail (Below w.heap.size w) 14 (by kernel_rfl) (by kernel_rfl) (below_drewN (Below.refl _ _) 1) ?_
    simp only [List.take_succ_cons, List.take_zero, List.drop_succ_cons, List.drop_zero]
    refine wpQ_move _ rfl rfl (hP g) rfl ?_
    simp only [Act.put, List.setIfInBounds_toArray, List.set_cons_zero, List.set_cons_succ]
    refine wpQ_move _ rfl rfl (.int .u32 (k : Int)) rfl ?_
    simp only [Act.put, List.setIfInBounds_toArray, List.set_cons_zero, List.set_cons_succ]
    refine wpQ_move _ rfl rfl (.int .u8 (c : Int)) rfl ?_
    simp only [Act.put, List.setIfInBounds_toArray, List.set_cons_zero, List.set_cons_succ]
    refine wpQ_move _ rfl rfl (hP g) rfl ?_
    simp only [Act.put, List.setIfInBounds_toArray, List.set_cons_zero, List.set_cons_succ]
    refine wpQ_move _ rfl rfl (.int .u32 (k : Int)) rfl ?_
    simp only [Act.put, List.setIfInBounds_toArray, List.set_cons_zero, List.set_cons_succ]
    refine wpQ_val rfl (hP g) (fun w' hC => by go_simp) ?_
    simp only [Act.put, List.setIfInBounds_toArray, List.set_cons_zero, List.set_cons_succ]
    refine wpQ_val rfl (.pointer (some ⟨g, 11, none⟩)) (fun w' hC => by go_simp) ?_
    simp only [Act.put, List.setIfInBounds_toArray, List.set_cons_zero, List.set_cons_succ]
    refine wpQ_val rfl (.pointer (some ⟨g, 11 + k * 3, none⟩)) (fun w' hC => by go_simp) ?_
    simp only [Act.put, List.setIfInBounds_toArray, List.set_cons_zero, List.set_cons_succ]
    refine wpQ_val rfl (.pointer (some ⟨g, 11 + k * 3 + 2, none⟩)) (fun w' hC => by go_simp) ?_
    simp only [Act.put, List.setIfInBounds_toArray, List.set_cons_zero, List.set_cons_succ]
    refine wpQ_val rfl (.int .u32 (a : Int)) (fun w' hC => by 
        have q2 := (hC.cell (p := ⟨g, 11 + k * 3 + 2, none⟩) HL.out).trans HC2.out
        go_simp) ?_
    simp only [Act.put, List.setIfInBounds_toArray, List.set_cons_zero, List.set_cons_succ]
    refine wpQ_fn 37 _ _ rfl rfl #[.int .u8 (c : Int), .int .u32 (a : Int)] rfl (fun _ => by go_simp) (.agg #[.int .i64 (ew : Int), .int .i64 (er : Int), .int .u32 (a : Int)]) (fun w' hC => (kO w').mono fun e w'' ⟨he, hb⟩ => ⟨he, below_class hC hb⟩) ?_
    simp only [Act.put, List.setIfInBounds_toArray, List.set_cons_zero, List.set_cons_succ]
    refine wpQ_val rfl (hP g) (fun w' hC => by go_simp) ?_
    simp only [Act.put, List.setIfInBounds_toArray, List.set_cons_zero, List.set_cons_succ]
    refine wpQ_val rfl (.pointer (some ⟨g, 11, none⟩)) (fun w' hC => by go_simp) ?_
    simp only [Act.put, List.setIfInBounds_toArray, List.set_cons_zero, List.set_cons_succ]
    refine wpQ_val rfl (.pointer (some ⟨g, 11 + k * 3, none⟩)) (fun w' hC => by go_simp) ?_
    simp only [Act.put, List.setIfInBounds_toArray, List.set_cons_zero, List.set_cons_succ]
    refine wpQuiet_nil ?_
    intro w1 hC
    have H1 := HH.out.after hC
    have hB1 := H1.blk
    have hE1 := HE.out w1 H1
    have HC := Lib.hid hC
    have HE1 := Lib.hid hE1
    clear hE1 hC H1
    go_upto_region 4 with (
      refine wp_store_tab rfl 38 _ _ rfl g (11 + k * 3) rfl 3 v (congrArg Value.agg hrow.symm) 77 _ _ hB1 infoE (by omega) hone ?_
      intro w5 hB5 hg5
      go_frame)
    have H5 := HE1.out _ hB5
    have O5 := (Only.of_below (S := S1 g) HC.out).trans (Only.of_grown (S := S1 g) hg5 fun l e => by injection e with e; exact e.symm)
    have cl5 := H5.blk.cell (59 + k)
    have cl6 := H5.cl k hk
    have fl5 : w5.frozen? ⟨g, 59 + k, none⟩ = false := H5.blk.free _
    have H6 := HLK.out w5 H5
    have HHH := Lib.hid (And.intro H6 O5)
    clear H6 O5 cl5 hB5 hg5 hB1 H5
    go_wp2_with fail
    first | go_end0 | refine bodyPost_ret (results_none rfl _ _ _) rfl ?_
    exact ⟨rfl, HHH.out.1, HHH.out.2.trans (Only.setCell _ (show S1 g g from rfl) _)⟩
  · have d2 : (((b % 4 : Nat) : Int) == 2) = false := beq_eq_false_iff_ne.2 (by omega)
    rw [if_neg h2]
    obtain ⟨c, hc⟩ : ∃ c, c = b := ⟨_, rfl⟩
    rw [← hc] at h3 hb d2 ⊢
    have hcl : c < 256 := by omega
    generalize c % 4 = c4 at h3 d2
    have h128 := and_128 c hcl
    have hne := ne_lk c
    have kO := fun W => of_any c (s.r (944 + k)) W hcl ha
    have hE := fun w1 (h1 : IsF w1 g s) (w' : World) hB => h1.ent (w' := w') k (c % 32) (s.r (944 + k)) hk ha (by omega) (by omega) (by rw [hul]; unfold lkB; exact decide_eq_false (by omega)) (enV ⟨((c / 8 % 4 : Nat) : Int), ((c % 8 : Nat) : Int), s.r (944 + k)⟩) (fun i _ => by
      unfold entN entS
      dsimp only
      rw [upd_same, upd_same, show c % 32 / 8 % 4 = c / 8 % 4 by omega, show c % 32 % 8 = c % 8 by omega]) hB
    have hrow : tab 3 (enV ⟨((c / 8 % 4 : Nat) : Int), ((c % 8 : Nat) : Int), s.r (944 + k)⟩) = #[.int .i64 ((c / 8 % 4 : Nat) : Int), .int .i64 ((c % 8 : Nat) : Int), .int .u32 (s.r (944 + k) : Int)] := rfl
    have hone := enV_one ⟨((c / 8 % 4 : Nat) : Int), ((c % 8 : Nat) : Int), s.r (944 + k)⟩
    have hLk := fun w2 (h2 : IsF w2 g (entS s k (c % 32) (s.r (944 + k)))) => h2.lck k (c / 128 * 128 + c % 32) hk (by omega) (by omega) (by unfold entS; dsimp only; rw [upd_same]; omega) (lkB c) (by
      unfold lkB
      by_cases hq : 128 ≤ c
      · rw [decide_eq_true hq, decide_eq_true (by omega)]
      · rw [decide_eq_false hq, decide_eq_false (by omega)])
    rw [set_st] at hLk
    have HE := Lib.hid hE
    have HLK := Lib.hid hLk
    clear hE hLk hc
    generalize enV ⟨((c / 8 % 4 : Nat) : Int), ((c % 8 : Nat) : Int), s.r (944 + k)⟩ = v at *
    generalize s.r (944 + k) = a at *
    generalize c / 8 % 4 = ew at *
    generalize c % 8 = er at *
    generalize c / 128 * 128 + c % 32 = z at *
    generalize c / 128 * 128 = y at *
    generalize lkB c = lb at *
    go_enter Tryd.func43, Tryd.ntmps43
    go_upto_region 3 with fail
    refine region_quiet_tail (Below w.heap.size w) 14 (by kernel_rfl) (by kernel_rfl) (below_drewN (Below.refl _ _) 1) ?_
    simp only [List.take_succ_cons, List.take_zero, List.drop_succ_cons, List.drop_zero]
    refine wpQ_move _ rfl rfl (hP g) rfl ?_
    simp only [Act.put, List.setIfInBounds_toArray, List.set_cons_zero, List.set_cons_succ]
    refine wpQ_move _ rfl rfl (.int .u32 (k : Int)) rfl ?_
    simp only [Act.put, List.setIfInBounds_toArray, List.set_cons_zero, List.set_cons_succ]
    refine wpQ_move _ rfl rfl (.int .u8 (c : Int)) rfl ?_
    simp only [Act.put, List.setIfInBounds_toArray, List.set_cons_zero, List.set_cons_succ]
    refine wpQ_move _ rfl rfl (hP g) rfl ?_
    simp only [Act.put, List.setIfInBounds_toArray, List.set_cons_zero, List.set_cons_succ]
    refine wpQ_move _ rfl rfl (.int .u32 (k : Int)) rfl ?_
    simp only [Act.put, List.setIfInBounds_toArray, List.set_cons_zero, List.set_cons_succ]
    refine wpQ_val rfl (hP g) (fun w' hC => by go_simp) ?_
    simp only [Act.put, List.setIfInBounds_toArray, List.set_cons_zero, List.set_cons_succ]
    refine wpQ_val rfl (.pointer (some ⟨g, 11, none⟩)) (fun w' hC => by go_simp) ?_
    simp only [Act.put, List.setIfInBounds_toArray, List.set_cons_zero, List.set_cons_succ]
    refine wpQ_val rfl (.pointer (some ⟨g, 11 + k * 3, none⟩)) (fun w' hC => by go_simp) ?_
    simp only [Act.put, List.setIfInBounds_toArray, List.set_cons_zero, List.set_cons_succ]
    refine wpQ_val rfl (.pointer (some ⟨g, 11 + k * 3 + 2, none⟩)) (fun w' hC => by go_simp) ?_
    simp only [Act.put, List.setIfInBounds_toArray, List.set_cons_zero, List.set_cons_succ]
    refine wpQ_val rfl (.int .u32 (a : Int)) (fun w' hC => by 
        have q2 := (hC.cell (p := ⟨g, 11 + k * 3 + 2, none⟩) HL.out).trans HC2.out
        go_simp) ?_
    simp only [Act.put, List.setIfInBounds_toArray, List.set_cons_zero, List.set_cons_succ]
    refine wpQ_fn 37 _ _ rfl rfl #[.int .u8 (c : Int), .int .u32 (a : Int)] rfl (fun _ => by go_simp) (.agg #[.int .i64 (ew : Int), .int .i64 (er : Int), .int .u32 (a : Int)]) (fun w' hC => (kO w').mono fun e w'' ⟨he, hb⟩ => ⟨he, below_class hC hb⟩) ?_
    simp only [Act.put, List.setIfInBounds_toArray, List.set_cons_zero, List.set_cons_succ]
    refine wpQ_val rfl (hP g) (fun w' hC => by go_simp) ?_
    simp only [Act.put, List.setIfInBounds_toArray, List.set_cons_zero, List.set_cons_succ]
    refine wpQ_val rfl (.pointer (some ⟨g, 11, none⟩)) (fun w' hC => by go_simp) ?_
    simp only [Act.put, List.setIfInBounds_toArray, List.set_cons_zero, List.set_cons_succ]
    refine wpQ_val rfl (.pointer (some ⟨g, 11 + k * 3, none⟩)) (fun w' hC => by go_simp) ?_
    simp only [Act.put, List.setIfInBounds_toArray, List.set_cons_zero, List.set_cons_succ]
    refine wpQuiet_nil ?_
    intro w1 hC
    have H1 := HH.out.after hC
    have hB1 := H1.blk
    have hE1 := HE.out w1 H1
    have HC := Lib.hid hC
    have HE1 := Lib.hid hE1
    clear hE1 hC H1
    go_upto_region 4 with (
      refine wp_store_tab rfl 38 _ _ rfl g (11 + k * 3) rfl 3 v (congrArg Value.agg hrow.symm) 77 _ _ hB1 infoE (by omega) hone ?_
      intro w5 hB5 hg5
      go_frame)
    have H5 := HE1.out _ hB5
    have O5 := (Only.of_below (S := S1 g) HC.out).trans (Only.of_grown (S := S1 g) hg5 fun l e => by injection e with e; exact e.symm)
    have cl5 := H5.blk.cell (59 + k)
    have cl6 := H5.cl k hk
    have fl5 : w5.frozen? ⟨g, 59 + k, none⟩ = false := H5.blk.free _
    have H6 := HLK.out w5 H5
    have HHH := Lib.hid (And.intro H6 O5)
    clear H6 O5 cl5 hB5 hg5 hB1 H5
    go_wp2_with fail
    first | go_end0 | refine bodyPost_ret (results_none rfl _ _ _) rfl ?_
    exact ⟨rfl, HHH.out.1, HHH.out.2.trans (Only.setCell _ (show S1 g g from rfl) _)⟩
end Go.Proofs.YthaockngbagdhaaDoor.Cs
