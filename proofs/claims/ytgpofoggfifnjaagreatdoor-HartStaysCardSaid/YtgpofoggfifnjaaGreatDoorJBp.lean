/-
Layer 16: the landed hart's attempt.
-/
import Derived.Test.YtgpofoggfifnjaaGreatDoorJBo
import Derived.Test.YtgpofoggfifnjaaGreatDoorJBi
namespace Go.Proofs.YtgpofoggfifnjaaGreatDoor.Ha
open Go Go.RowKit
open Go.Proofs.YtgpofoggfifnjaaGreatDoor (RamP stM ldV stB inR mP erI two_new has_to wp_load_tabI below_fin insA infoIa5 opOf opP bitsN immU rdB r1B r2B Fm fmN TabW has_any has_nil mload_any store_any adecode_any form_at form_no)
open Go.Proofs.YtgpofoggfifnjaaGreatDoor.Cs (St IsF Only S1 hP upd upd_other dueC trapC tickC readC cdue_any ctrap_any ctick_any cread_any cnew_any mayM_any)
open Go.Proofs.YtgpofoggfifnjaaGreatDoor.Pm (TabT)
open Go.Proofs.YtgpofoggfifnjaaGreatDoor.Al (widthN widenN goesN reckN reckon_is goes_is width_is widen_is reckN_lt)

theorem opOf_57 (w : Nat) : opOf w < 57 := by
  unfold opOf
  cases h : (List.range 57).find? (fun i => decide (1 ≤ i) && Go.Proofs.YtgpofoggfifnjaaGreatDoor.mtchB w i) with
  | none => decide
  | some i => exact List.mem_range.1 (List.mem_of_find?_eq_some h)
/-- a call's result block, new -/
theorem one_tr (w : World) : ∃ wa, wa = w.alloc (.cells #[.int .u32 0, .bool false, .int .u32 0, .int .u32 0, .int .u32 0, .int .i64 0, .bool false] 51) ∧ Has wa w.heap.size 51 (tab 7 (trC did0)) ∧ Below w.heap.size w wa :=
  ⟨_, rfl, Has.new w 51 (tab 7 (trC did0)), (Below.refl _ _).alloc (Nat.le_refl _) _⟩
set_option maxRecDepth 100000 in
set_option maxHeartbeats 2000000 in
theorem attempt_any (p g gm pc : Nat) (x : Nat → Nat) (s : St) (m : Nat → UInt8) (w : World) (hH : Ht w p g gm x pc s m) (hT : TabT w) (hTW : TabW w) (hm : Mo s) (hu : s.mode = 0 ∨ opOf (ldV m pc 4) < 49) : Calls Tryz.prog 28 #[hP p] w (Ans p g gm x pc s m (stepR x pc s m) w) := by
  have hl := hH.lts
  have hpl := hH.pl
  have kD : ∀ W, IsF W g s → Calls Tryz.prog 49 #[.pointer (some ⟨g, 0, none⟩)] W fun e w' => e = .returned (.bool (dueC s)) ∧ Below W.heap.size W w' := fun W h => cdue_any W g s h
  have kO : ∀ W, Calls Tryz.prog 51 #[.int .u32 (pc : Int), .int .i64 4] W fun e w' => e = .returned (.bool (decide (¬ pc % 4 = 0))) ∧ W = w' := fun W => isOdd_any pc 4 (by decide) W
  have kM : ∀ W, Ht W p g gm x pc s m → TabT W → Calls Tryz.prog 52 #[hP p, .int .u32 (pc : Int), .int .i64 4, .int .i64 4] W fun e w' => e = .returned (.bool (inR pc 4 && mayS s pc 4 4)) ∧ Below W.heap.size W w' := fun W h h2 => hmay_any p g gm pc x s m pc 4 4 W h h2 hm hpl (by decide) (by decide)
  have HD := Lib.hid hl
  have HP := Lib.hid hpl
  have HT := Lib.hid (And.intro hT hTW)
  have HU := Lib.hid (And.intro hm hu)
  have HMO := Lib.hid hH.f.inv.ok
  unfold stepR
  clear hl hpl hT hTW hm hu
  have hzz : Value.agg #[.int .u32 0, .bool false, .int .u32 0, .int .u32 0, .int .u32 0, .int .i64 0, .bool false] = .agg (tab 7 (trC did0)) := rfl
  by_cases hdue : dueC s = true
  · rw [if_pos hdue]
    rw [hdue] at kD
    have kT : ∀ W, Calls Tryz.prog 50 #[.agg #[.int .u32 0, .bool false, .int .u32 0, .int .u32 0, .int .u32 0, .int .i64 0, .bool false], .int .u32 2147483655, .int .u32 0] W fun e w' => e = .returned (trV { did0 with trap := true, cause := 2147483655, tval := 0 }) ∧ Below W.heap.size W w' := fun W => trapped_any did0 2147483655 0 W
    clear hdue kO kM hzz
    go_enter Tryz.func28, Tryz.ntmps28
    go_upto_region 1 with fail
    obtain ⟨wa, hwa, hF, hb0⟩ := one_tr w
    rw [← hwa]
    clear hwa
    have HH := Lib.hid (hH.after hb0)
    have HB := Lib.hid (sh_b (p := p) (g := g) (gm := gm) hb0)
    have HTA := Lib.hid (And.intro (HT.out.1.below hb0) (HT.out.2.below hb0))
    generalize hgn : w.heap.size = bR at *
    have HN := Lib.hid hgn
    have HF := Lib.hid hF
    clear hH hF hb0 hgn
    have cg := HH.out.cg
    go_upto_region 2 with (go_at_call 49; with_reducible refine (kD _ HH.out.f).mono ?_; rintro e w1 ⟨rfl, hb1⟩)
    clear cg
    have HF1 := Lib.hid (HF.out.after hb1)
    have HH1 := Lib.hid (HH.out.after hb1)
    have HB1 := Lib.hid (HB.out.trans (sh_b hb1))
    have HTA1 := Lib.hid (And.intro (HTA.out.1.below hb1) (HTA.out.2.below hb1))
    clear HF HH HB HTA hb1
    go_wp2_with (first
      | (go_at_call 50; with_reducible refine (kT _).mono ?_; rintro e wt ⟨rfl, hbt⟩)
      | (refine wp_store_tab rfl 51 _ _ rfl bR 0 rfl 7 (trC { did0 with trap := true, cause := 2147483655, tval := 0 }) rfl 7 (trC did0) 51 (HF1.out.after hbt) infoTr (by omega) (trC_one _) ?_; intro w9 hG9 hg9))
    rw [tab7_all] at hG9
    have hlo := HD.out
    obtain rfl := HN.out
    exact bodyPost_ret (results_cell_row rfl _ _ _ 51 _ _ _ rfl hG9 Tryz.underlying51 rfl infoTr) rfl (Ans.trap did0 2147483655 0 rfl (Only.fresh (HB1.out.trans (sh_b hbt)) hg9 (Nat.le_refl _)) ((HH1.out.after hbt).far hg9 (by omega) (by omega) (by omega)) (by decide) (by decide))
  rw [if_neg hdue]
  have hdue' : dueC s = false := eq_false_of_ne_true hdue
  rw [hdue'] at kD
  clear hdue hdue'
  by_cases hodd : pc % 4 = 0
  rotate_left
  · rw [if_pos hodd]
    rw [decide_eq_true hodd] at kO
    have kT : ∀ W, Calls Tryz.prog 50 #[.agg #[.int .u32 0, .bool false, .int .u32 0, .int .u32 0, .int .u32 0, .int .i64 0, .bool false], .int .u32 0, .int .u32 (pc : Int)] W fun e w' => e = .returned (trV { did0 with trap := true, cause := 0, tval := pc }) ∧ Below W.heap.size W w' := fun W => trapped_any did0 0 pc W
    clear hodd kM hzz
    go_enter Tryz.func28, Tryz.ntmps28
    go_upto_region 1 with fail
    obtain ⟨wa, hwa, hF, hb0⟩ := one_tr w
    rw [← hwa]
    clear hwa
    have HH := Lib.hid (hH.after hb0)
    have HB := Lib.hid (sh_b (p := p) (g := g) (gm := gm) hb0)
    have HTA := Lib.hid (And.intro (HT.out.1.below hb0) (HT.out.2.below hb0))
    generalize hgn : w.heap.size = bR at *
    have HN := Lib.hid hgn
    have HF := Lib.hid hF
    clear hH hF hb0 hgn
    have cg := HH.out.cg
    go_upto_region 3 with (go_at_call 49; with_reducible refine (kD _ HH.out.f).mono ?_; rintro e w1 ⟨rfl, hb1⟩)
    clear cg
    have HF1 := Lib.hid (HF.out.after hb1)
    have HH1 := Lib.hid (HH.out.after hb1)
    have HB1 := Lib.hid (HB.out.trans (sh_b hb1))
    have HTA1 := Lib.hid (And.intro (HTA.out.1.below hb1) (HTA.out.2.below hb1))
    clear HF HH HB HTA hb1
    have cp := HH1.out.cpc
    go_wp2_with (first
      | (go_at_call 51; with_reducible refine (kO _).mono ?_; rintro e wz ⟨rfl, rfl⟩)
      | (go_at_call 50; with_reducible refine (kT _).mono ?_; rintro e wt ⟨rfl, hbt⟩)
      | (refine wp_store_tab rfl 51 _ _ rfl bR 0 rfl 7 (trC { did0 with trap := true, cause := 0, tval := pc }) rfl 7 (trC did0) 51 (HF1.out.after hbt) infoTr (by omega) (trC_one _) ?_; intro w9 hG9 hg9))
    rw [tab7_all] at hG9
    have hlo := HD.out
    obtain rfl := HN.out
    exact bodyPost_ret (results_cell_row rfl _ _ _ 51 _ _ _ rfl hG9 Tryz.underlying51 rfl infoTr) rfl (Ans.trap did0 0 pc rfl (Only.fresh (HB1.out.trans (sh_b hbt)) hg9 (Nat.le_refl _)) ((HH1.out.after hbt).far hg9 (by omega) (by omega) (by omega)) (by decide) HP.out)
  rw [if_neg (not_not_intro hodd)]
  rw [decide_eq_false (not_not_intro hodd)] at kO
  have hst : stB pc 4 = inR pc 4 := by
    unfold Go.Proofs.YtgpofoggfifnjaaGreatDoor.stB
    rw [show Go.Proofs.YtgpofoggfifnjaaGreatDoor.widB 4 = true by decide, Bool.true_and]
    rfl
  rw [hst]
  by_cases hmy : (inR pc 4 && mayS s pc 4 4) = true
  rotate_left
  · rw [if_pos (fun h => hmy (Bool.and_eq_true_iff.2 h))]
    simp only [eq_false_of_ne_true hmy] at kM
    have kT : ∀ W, Calls Tryz.prog 50 #[.agg #[.int .u32 0, .bool false, .int .u32 0, .int .u32 0, .int .u32 0, .int .i64 0, .bool false], .int .u32 1, .int .u32 (pc : Int)] W fun e w' => e = .returned (trV { did0 with trap := true, cause := 1, tval := pc }) ∧ Below W.heap.size W w' := fun W => trapped_any did0 1 pc W
    clear hodd hmy hst hzz
    go_enter Tryz.func28, Tryz.ntmps28
    go_upto_region 1 with fail
    obtain ⟨wa, hwa, hF, hb0⟩ := one_tr w
    rw [← hwa]
    clear hwa
    have HH := Lib.hid (hH.after hb0)
    have HB := Lib.hid (sh_b (p := p) (g := g) (gm := gm) hb0)
    have HTA := Lib.hid (And.intro (HT.out.1.below hb0) (HT.out.2.below hb0))
    generalize hgn : w.heap.size = bR at *
    have HN := Lib.hid hgn
    have HF := Lib.hid hF
    clear hH hF hb0 hgn
    have cg := HH.out.cg
    go_upto_region 3 with (go_at_call 49; with_reducible refine (kD _ HH.out.f).mono ?_; rintro e w1 ⟨rfl, hb1⟩)
    clear cg
    have HF1 := Lib.hid (HF.out.after hb1)
    have HH1 := Lib.hid (HH.out.after hb1)
    have HB1 := Lib.hid (HB.out.trans (sh_b hb1))
    have HTA1 := Lib.hid (And.intro (HTA.out.1.below hb1) (HTA.out.2.below hb1))
    clear HF HH HB HTA hb1
    have cp := HH1.out.cpc
    go_upto_region 6 with (first
      | (go_at_call 51; with_reducible refine (kO _).mono ?_; rintro e wz ⟨rfl, rfl⟩)
      | (go_at_call 52; with_reducible refine (kM _ HH1.out HTA1.out.1).mono ?_; rintro e w2 ⟨rfl, hb2⟩))
    clear cp
    have HF2 := Lib.hid (HF1.out.after hb2)
    have HH2 := Lib.hid (HH1.out.after hb2)
    have HB2 := Lib.hid (HB1.out.trans (sh_b hb2))
    have HTA2 := Lib.hid (And.intro (HTA1.out.1.below hb2) (HTA1.out.2.below hb2))
    clear HF1 HH1 HB1 HTA1 hb2
    have cp := HH2.out.cpc
    go_wp2_with (first
      | (go_at_call 50; with_reducible refine (kT _).mono ?_; rintro e wt ⟨rfl, hbt⟩)
      | (refine wp_store_tab rfl 51 _ _ rfl bR 0 rfl 7 (trC { did0 with trap := true, cause := 1, tval := pc }) rfl 7 (trC did0) 51 (HF2.out.after hbt) infoTr (by omega) (trC_one _) ?_; intro w9 hG9 hg9))
    rw [tab7_all] at hG9
    have hlo := HD.out
    obtain rfl := HN.out
    exact bodyPost_ret (results_cell_row rfl _ _ _ 51 _ _ _ rfl hG9 Tryz.underlying51 rfl infoTr) rfl (Ans.trap did0 1 pc rfl (Only.fresh (HB2.out.trans (sh_b hbt)) hg9 (Nat.le_refl _)) ((HH2.out.after hbt).far hg9 (by omega) (by omega) (by omega)) (by decide) HP.out)
  rw [if_neg (fun h => h (Bool.and_eq_true_iff.1 hmy))]
  simp only [hmy] at kM
  have hyl : ldV m pc 4 < L32 := ldV_lt m pc 4 (by omega)
  have kL := fun W (h : RamP W gm m) => mload_any m gm pc 4 W h HP.out
  have kC : ∀ W, TabW W → Calls Tryz.prog 55 #[.int .u32 ((ldV m pc 4 : Nat) : Int)] W fun e w' => e = .returned (insV (opOf (ldV m pc 4)) (rdN (opOf (ldV m pc 4)) (ldV m pc 4)) (r1N (opOf (ldV m pc 4)) (ldV m pc 4)) (r2N (opOf (ldV m pc 4)) (ldV m pc 4)) (imN (opOf (ldV m pc 4)) (ldV m pc 4))) ∧ Below W.heap.size W w' := fun W h => by
    have k := adecode_any (ldV m pc 4) W h hyl
    rw [insW_is _ _ hyl] at k
    exact k
  have kX : ∀ W, Ht W p g gm x pc s m → TabT W → Calls Tryz.prog 54 #[hP p, insV (opOf (ldV m pc 4)) (rdN (opOf (ldV m pc 4)) (ldV m pc 4)) (r1N (opOf (ldV m pc 4)) (ldV m pc 4)) (r2N (opOf (ldV m pc 4)) (ldV m pc 4)) (imN (opOf (ldV m pc 4)) (ldV m pc 4)), .agg #[.int .u32 ((ldV m pc 4 : Nat) : Int), .bool false, .int .u32 0, .int .u32 0, .int .u32 0, .int .i64 0, .bool false]] W (Ans p g gm x pc s m (execR { did0 with word := ldV m pc 4 } x pc s m (ldV m pc 4) (opOf (ldV m pc 4))) W) := fun W h h2 => by
    rw [execF_is]
    exact execute_any p g gm pc x s m _ _ _ _ _ { did0 with word := ldV m pc 4 } W h h2 HU.out.1 HU.out.2 rfl rfl hyl (rdN_lt _ _) (r1N_lt _ _) (r2N_lt _ _) (imN_lt _ _) (opOf_57 _)
  generalize execR { did0 with word := ldV m pc 4 } x pc s m (ldV m pc 4) (opOf (ldV m pc 4)) = R at *
  generalize hI : insV (opOf (ldV m pc 4)) (rdN (opOf (ldV m pc 4)) (ldV m pc 4)) (r1N (opOf (ldV m pc 4)) (ldV m pc 4)) (r2N (opOf (ldV m pc 4)) (ldV m pc 4)) (imN (opOf (ldV m pc 4)) (ldV m pc 4)) = iv at *
  generalize ldV m pc 4 = y at *
  generalize erI (stB pc 4) = er at *
  clear hodd hmy hst hzz hI hyl HU
  go_enter Tryz.func28, Tryz.ntmps28
  go_upto_region 1 with fail
  obtain ⟨wa, hwa, hF, hb0⟩ := one_tr w
  rw [← hwa]
  clear hwa
  have HH := Lib.hid (hH.after hb0)
  have HB := Lib.hid (sh_b (p := p) (g := g) (gm := gm) hb0)
  have HTA := Lib.hid (And.intro (HT.out.1.below hb0) (HT.out.2.below hb0))
  generalize hgn : w.heap.size = bR at *
  have HN := Lib.hid hgn
  have HF := Lib.hid hF
  clear hH hF hb0 hgn
  have cg := HH.out.cg
  go_upto_region 3 with (go_at_call 49; with_reducible refine (kD _ HH.out.f).mono ?_; rintro e w1 ⟨rfl, hb1⟩)
  clear cg
  have HF1 := Lib.hid (HF.out.after hb1)
  have HH1 := Lib.hid (HH.out.after hb1)
  have HB1 := Lib.hid (HB.out.trans (sh_b hb1))
  have HTA1 := Lib.hid (And.intro (HTA.out.1.below hb1) (HTA.out.2.below hb1))
  clear HF HH HB HTA hb1
  have cp := HH1.out.cpc
  go_upto_region 7 with (first
    | (go_at_call 51; with_reducible refine (kO _).mono ?_; rintro e wz ⟨rfl, rfl⟩)
    | (go_at_call 52; with_reducible refine (kM _ HH1.out HTA1.out.1).mono ?_; rintro e w2 ⟨rfl, hb2⟩))
  clear cp
  have HF2 := Lib.hid (HF1.out.after hb2)
  have HH2 := Lib.hid (HH1.out.after hb2)
  have HB2 := Lib.hid (HB1.out.trans (sh_b hb2))
  have HTA2 := Lib.hid (And.intro (HTA1.out.1.below hb2) (HTA1.out.2.below hb2))
  clear HF1 HH1 HB1 HTA1 hb2
  refine region_quiet_all (Below w2.heap.size w2) (by kernel_rfl) (by kernel_rfl) (below_drewN (Below.refl _ _) 1) ?_
  refine WQ.out ?_
  refine WQ.lift (wpQ_move _ rfl rfl (.pointer (some ⟨p, 0, none⟩)) rfl) ?_
  simp only [Act.put, List.setIfInBounds_toArray, List.set_cons_zero, List.set_cons_succ]
  refine WQ.lift (wpQ_val rfl (.pointer (some ⟨p, 0, none⟩)) (fun w' _ => by go_simp)) ?_
  simp only [Act.put, List.setIfInBounds_toArray, List.set_cons_zero, List.set_cons_succ]
  refine WQ.lift (wpQ_val rfl (.pointer (some ⟨p, 34, none⟩)) (fun w' _ => by go_simp)) ?_
  simp only [Act.put, List.setIfInBounds_toArray, List.set_cons_zero, List.set_cons_succ]
  refine WQ.lift (wpQ_load 46 (.tmp 39) rfl rfl (.pointer (some ⟨p, 34, none⟩)) rfl (.pointer (some ⟨gm, 0, none⟩)) (fun w' hC => by
      have hcell : w'.cell? ⟨p, 34, none⟩ = some (.pointer (some ⟨gm, 0, none⟩)) := (HH2.out.after hC).cm
      go_simp)) ?_
  simp only [Act.put, List.setIfInBounds_toArray, List.set_cons_zero, List.set_cons_succ]
  refine WQ.lift (wpQ_move _ rfl rfl (.pointer (some ⟨p, 0, none⟩)) rfl) ?_
  simp only [Act.put, List.setIfInBounds_toArray, List.set_cons_zero, List.set_cons_succ]
  refine WQ.lift (wpQ_val rfl (.pointer (some ⟨p, 0, none⟩)) (fun w' _ => by go_simp)) ?_
  simp only [Act.put, List.setIfInBounds_toArray, List.set_cons_zero, List.set_cons_succ]
  refine WQ.lift (wpQ_val rfl (.pointer (some ⟨p, 32, none⟩)) (fun w' _ => by go_simp)) ?_
  simp only [Act.put, List.setIfInBounds_toArray, List.set_cons_zero, List.set_cons_succ]
  refine WQ.lift (wpQ_load 25 (.tmp 43) rfl rfl (.pointer (some ⟨p, 32, none⟩)) rfl (.int .u32 (pc : Int)) (fun w' hC => by
      have hcell : w'.cell? ⟨p, 32, none⟩ = some (.int .u32 (pc : Int)) := (HH2.out.after hC).cpc
      go_simp)) ?_
  simp only [Act.put, List.setIfInBounds_toArray, List.set_cons_zero, List.set_cons_succ]
  refine WQ.lift (wpQ_fn 53 _ _ rfl rfl #[.pointer (some ⟨gm, 0, none⟩), .int .u32 (pc : Int), .int .i64 4] rfl (fun _ => by go_simp) (.tuple #[.int .u32 (y : Int), .int .i64 er]) (fun w' hC => (kL w' (HH2.out.after hC).r).mono fun e w'' ⟨he, hb⟩ => ⟨he, below_class hC hb⟩)) ?_
  simp only [Act.put, List.setIfInBounds_toArray, List.set_cons_zero, List.set_cons_succ]
  refine WQ.lift (wpQ_move _ rfl rfl (.tuple #[.int .u32 (y : Int), .int .i64 er]) rfl) ?_
  simp only [Act.put, List.setIfInBounds_toArray, List.set_cons_zero, List.set_cons_succ]
  refine WQ.lift (wpQ_val rfl (.int .u32 (y : Int)) (fun w' _ => by go_simp)) ?_
  simp only [Act.put, List.setIfInBounds_toArray, List.set_cons_zero, List.set_cons_succ]
  refine WQ.lift (wpQ_val rfl (.int .i64 er) (fun w' _ => by go_simp)) ?_
  simp only [Act.put, List.setIfInBounds_toArray, List.set_cons_zero, List.set_cons_succ]
  refine WQ.lift (wpQ_assign _ rfl rfl (.int .u32 (y : Int)) rfl) ?_
  simp only [Act.put, List.setIfInBounds_toArray, List.set_cons_zero, List.set_cons_succ]
  refine WQ.lift (wpQ_assign _ rfl rfl (.int .i64 er) rfl) ?_
  simp only [Act.put, List.setIfInBounds_toArray, List.set_cons_zero, List.set_cons_succ]
  refine WQ.mk (wpQuiet_nil ?_)
  rintro w3 hb3
  have HF3 := Lib.hid (HF2.out.after hb3)
  have HH3 := Lib.hid (HH2.out.after hb3)
  have HB3 := Lib.hid (HB2.out.trans (sh_b hb3))
  have HTA3 := Lib.hid (And.intro (HTA2.out.1.below hb3) (HTA2.out.2.below hb3))
  clear HF2 HH2 HB2 HTA2 hb3
  go_upto_region 8 with fail
  go_wp2_with (first
    | (go_at_call 55; with_reducible refine (kC _ HTA3.out.2).mono ?_; rintro e w4 ⟨rfl, hb4⟩)
    | (go_at_call 54; with_reducible refine (kX _ (HH3.out.after hb4) (HTA3.out.1.below hb4)).mono ?_; intro e wc hA; obtain rfl := hA.ret)
    | (refine wp_store_tab rfl 51 _ _ rfl bR 0 rfl 7 (trC R.d) rfl 7 (trC did0) 51 (hA.2.1.has (HF3.out.after hb4) (sh_out HD.out (Nat.le_refl _))) infoTr (by omega) (trC_one _) ?_; intro w9 hG9 hg9))
  rw [tab7_all] at hG9
  have hlo := HD.out
  obtain rfl := HN.out
  exact bodyPost_ret (results_cell_row rfl _ _ _ 51 _ _ _ rfl hG9 Tryz.underlying51 rfl infoTr) rfl (Ans.fin hA (HB3.out.trans (sh_b hb4)) hlo (Nat.le_refl _) hg9)
end Go.Proofs.YtgpofoggfifnjaaGreatDoor.Ha
