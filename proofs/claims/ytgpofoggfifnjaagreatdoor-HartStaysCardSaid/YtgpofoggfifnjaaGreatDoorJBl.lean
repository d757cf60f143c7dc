/-
Layer 16: the landed hart's load and store.
-/
import Derived.Test.YtgpofoggfifnjaaGreatDoorJBk
namespace Go.Proofs.YtgpofoggfifnjaaGreatDoor.Ha
open Go Go.RowKit
open Go.Proofs.YtgpofoggfifnjaaGreatDoor (RamP stM ldV stB inR mP erI two_new has_to wp_load_tabI below_fin insA infoIa5 opOf opP bitsN immU rdB r1B r2B Fm fmN TabW has_any has_nil mload_any store_any adecode_any form_at form_no)
open Go.Proofs.YtgpofoggfifnjaaGreatDoor.Cs (St IsF Only S1 hP upd upd_other dueC trapC tickC readC cdue_any ctrap_any ctick_any cread_any cnew_any mayM_any)
open Go.Proofs.YtgpofoggfifnjaaGreatDoor.Pm (TabT)
open Go.Proofs.YtgpofoggfifnjaaGreatDoor.Al (widthN widenN goesN reckN reckon_is goes_is width_is widen_is reckN_lt)

theorem memR_st (d : Did) (x : Nat → Nat) (pc : Nat) (s : St) (m : Nat → UInt8) (op rd b at' n : Nat) : memR d x pc s m op rd b at' n true = if at' % n = 0 then (if (inR at' n && mayS s at' n 2) = true then onR { d with at' := at', width := n, store := true } x s (stM m at' (n : Int) b) 0 0 ((pc + 4) % L32) else trapR { d with at' := at', width := n, store := true } x pc s m 7 at') else trapR { d with at' := at', width := n, store := true } x pc s m 6 at' := by
  have e : memR d x pc s m op rd b at' n true = if at' % n = 0 then (if inR at' n = true ∧ mayS s at' n 2 = true then onR { d with at' := at', width := n, store := true } x s (stM m at' (n : Int) b) 0 0 ((pc + 4) % L32) else trapR { d with at' := at', width := n, store := true } x pc s m 7 at') else trapR { d with at' := at', width := n, store := true } x pc s m 6 at' := rfl
  rw [e]
  by_cases h2 : inR at' n = true ∧ mayS s at' n 2 = true
  · rw [if_pos h2, if_pos (show (inR at' n && mayS s at' n 2) = true by rw [h2.1, h2.2]; rfl)]
  · rw [if_neg h2, if_neg (fun h => h2 (Bool.and_eq_true_iff.1 h))]
theorem memR_ld (d : Did) (hd : d.store = false) (x : Nat → Nat) (pc : Nat) (s : St) (m : Nat → UInt8) (op rd b at' n : Nat) : memR d x pc s m op rd b at' n false = if at' % n = 0 then (if (inR at' n && mayS s at' n 1) = true then onR { d with at' := at', width := n } x s m rd (widenN (op : Int) (ldV m at' (n : Int))) ((pc + 4) % L32) else trapR { d with at' := at', width := n } x pc s m 5 at') else trapR { d with at' := at', width := n } x pc s m 4 at' := by
  obtain ⟨d0, d1, d2, d3, d4, d5, d6⟩ := d
  dsimp only at hd
  subst hd
  have e : memR ⟨d0, d1, d2, d3, d4, d5, false⟩ x pc s m op rd b at' n false = if at' % n = 0 then (if inR at' n = true ∧ mayS s at' n 1 = true then onR ⟨d0, d1, d2, d3, at', n, false⟩ x s m rd (widenN (op : Int) (ldV m at' (n : Int))) ((pc + 4) % L32) else trapR ⟨d0, d1, d2, d3, at', n, false⟩ x pc s m 5 at') else trapR ⟨d0, d1, d2, d3, at', n, false⟩ x pc s m 4 at' := rfl
  rw [e]
  by_cases h2 : inR at' n = true ∧ mayS s at' n 1 = true
  · rw [if_pos h2, if_pos (show (inR at' n && mayS s at' n 1) = true by rw [h2.1, h2.2]; rfl)]
  · rw [if_neg h2, if_neg (fun h => h2 (Bool.and_eq_true_iff.1 h))]
set_option maxRecDepth 100000 in
set_option maxHeartbeats 2000000 in
theorem hstore_any (p g gm pc : Nat) (x : Nat → Nat) (s : St) (m : Nat → UInt8) (op rd r1 r2 im : Nat) (d : Did) (w : World) (hH : Ht w p g gm x pc s m) (hT : TabT w) (hm : Mo s) (hd : d.trap = false) (_hds : d.store = false) (_hr : rd < 32) (h1 : r1 < 32) (h2 : r2 < 32) (_hi : im < L32) (ho1 : 16 ≤ op) (ho2 : op ≤ 18) : Calls Tryz.prog 77 #[hP p, insV op rd r1 r2 im, trV d] w (Ans p g gm x pc s m (memR d x pc s m op rd (x r2) ((x r1 + im) % L32) (widthN (op : Int)).toNat true) w) := by
  have hl := hH.lts
  have hTl := hT.size
  have hx1 := hH.xl r1
  have hx2 := hH.xl r2
  have hwd := width_in op (by omega) (by omega)
  have hwz : widthN (op : Int) = ((widthN (op : Int)).toNat : Int) := by omega
  have kW := fun W => width_is (op : Int) W
  have e1 : ((x r1 : Int) + (im : Int)) % 4294967296 = (((x r1 + im) % L32 : Nat) : Int) := by unfold L32; omega
  have e1' : IntKind.u32.wrap ((x r1 : Int) + (im : Int)) = (((x r1 + im) % L32 : Nat) : Int) := by simpa [IntKind.wrap, IntKind.signed, IntKind.bits] using e1
  have hat : (x r1 + im) % L32 < L32 := Nat.mod_lt _ (by decide)
  rw [hwz] at kW
  generalize (widthN (op : Int)).toNat = n at *
  generalize (x r1 + im) % L32 = at' at *
  have kO := fun W => isOdd_any at' n hwd W
  have kT1 : ∀ W, Calls Tryz.prog 50 #[trV { d with at' := at', width := n, store := true }, .int .u32 6, .int .u32 (at' : Int)] W fun e w' => e = .returned (trV { { d with at' := at', width := n, store := true } with trap := true, cause := 6, tval := at' }) ∧ Below W.heap.size W w' := fun W => trapped_any _ 6 at' W
  have kT2 : ∀ W, Calls Tryz.prog 50 #[trV { d with at' := at', width := n, store := true }, .int .u32 7, .int .u32 (at' : Int)] W fun e w' => e = .returned (trV { { d with at' := at', width := n, store := true } with trap := true, cause := 7, tval := at' }) ∧ Below W.heap.size W w' := fun W => trapped_any _ 7 at' W
  have kM : ∀ W, Ht W p g gm x pc s m → TabT W → Calls Tryz.prog 52 #[hP p, .int .u32 (at' : Int), .int .i64 (n : Int), .int .i64 2] W fun e w' => e = .returned (.bool (inR at' n && mayS s at' n 2)) ∧ Below W.heap.size W w' := fun W h h2 => hmay_any p g gm pc x s m at' n 2 W h h2 hm hat hwd (by decide)
  have kS := fun W (h : RamP W gm m) => store_any m gm at' (x r2) (n : Int) W h hat hx2
  have kN := fun W (h : Ht W p g gm x pc s (stM m at' (n : Int) (x r2))) => next_any p g gm pc x s _ ({ d with at' := at', width := n, store := true }) W h
  rw [memR_st]
  have HD := Lib.hid hl
  have HR := Lib.hid (And.intro h1 h2)
  have HX := Lib.hid (And.intro hd hat)
  have HW := Lib.hid hTl
  have HT0 := Lib.hid hT
  have h1I : (r1 : Int) < 32 := by omega
  have h2I : (r2 : Int) < 32 := by omega
  unfold trV at kT1 kT2 kN
  clear hl hx1 hx2 hwd hwz hd _hds _hr h1 h2 _hi ho1 ho2 hT hTl hm hat
  by_cases hodd : at' % n = 0
  rotate_left
  · rw [if_neg hodd]
    rw [decide_eq_true hodd] at kO
    clear hodd kT2 kM kS kN
    unfold trV insV
    go_enter Tryz.func77, Tryz.ntmps77
    go_upto_region 1 with fail
    obtain ⟨wa, hwa, hF, hb0⟩ := three_tr w op rd r1 r2 im d
    rw [← hwa]
    clear hwa
    have HH := Lib.hid (hH.after hb0)
    have HB := Lib.hid (sh_b (p := p) (g := g) (gm := gm) hb0)
    have HT := Lib.hid (HT0.out.below hb0)
    clear hb0
    generalize hgn : w.heap.size = bI at *
    generalize hgT : bI + 1 = bT at *
    generalize hgR : bT + 1 = bR at *
    have HN := Lib.hid hgn
    clear hgn hgT hgR
    have HF := Lib.hid hF
    clear hH hF
    refine region_quiet_tail (Below wa.heap.size wa) 11 (by kernel_rfl) (by kernel_rfl) (below_drewN (Below.refl _ _) 1) ?_
    simp only [List.take_succ_cons, List.take_zero, List.drop_succ_cons, List.drop_zero]
    refine WQ.out ?_
    refine WQ.lift (wpQ_move _ rfl rfl (.pointer (some ⟨p, 0, none⟩)) rfl) ?_
    simp only [Act.put, List.setIfInBounds_toArray, List.set_cons_zero, List.set_cons_succ]
    refine WQ.lift (wpQ_val rfl (.pointer (some ⟨bI, 2, none⟩)) (fun w' _ => by go_simp)) ?_
    simp only [Act.put, List.setIfInBounds_toArray, List.set_cons_zero, List.set_cons_succ]
    refine WQ.lift (wpQ_load 3 (.tmp 8) rfl rfl (.pointer (some ⟨bI, 2, none⟩)) rfl (.int .i64 (r1 : Int)) (fun w' hC => by
        have hcell : w'.cell? ⟨bI, 2, none⟩ = some (.int .i64 (r1 : Int)) := (HF.out.after hC).i.cellTab 2 (by decide)
        go_simp)) ?_
    simp only [Act.put, List.setIfInBounds_toArray, List.set_cons_zero, List.set_cons_succ]
    refine WQ.lift (wpQ_val rfl (.pointer (some ⟨p, 0, none⟩)) (fun w' _ => by go_simp)) ?_
    simp only [Act.put, List.setIfInBounds_toArray, List.set_cons_zero, List.set_cons_succ]
    refine WQ.lift (wpQ_val rfl (.pointer (some ⟨p, 0, none⟩)) (fun w' _ => by go_simp)) ?_
    simp only [Act.put, List.setIfInBounds_toArray, List.set_cons_zero, List.set_cons_succ]
    refine WQ.lift (wpQ_val rfl (.pointer (some ⟨p, r1, none⟩)) (fun w' hC => by
      have h2 := Addr.add_mid p 0 r1
      rw [Nat.zero_add] at h2
      go_simp)) ?_
    simp only [Act.put, List.setIfInBounds_toArray, List.set_cons_zero, List.set_cons_succ]
    refine WQ.lift (wpQ_load 25 (.tmp 12) rfl rfl (.pointer (some ⟨p, r1, none⟩)) rfl (.int .u32 (x r1 : Int)) (fun w' hC => by
        have hcell : w'.cell? ⟨p, r1, none⟩ = some (.int .u32 (x r1 : Int)) := (HH.out.after hC).cx r1 HR.out.1
        go_simp)) ?_
    simp only [Act.put, List.setIfInBounds_toArray, List.set_cons_zero, List.set_cons_succ]
    refine WQ.lift (wpQ_val rfl (.pointer (some ⟨bI, 4, none⟩)) (fun w' _ => by go_simp)) ?_
    simp only [Act.put, List.setIfInBounds_toArray, List.set_cons_zero, List.set_cons_succ]
    refine WQ.lift (wpQ_load 25 (.tmp 14) rfl rfl (.pointer (some ⟨bI, 4, none⟩)) rfl (.int .u32 (im : Int)) (fun w' hC => by
        have hcell : w'.cell? ⟨bI, 4, none⟩ = some (.int .u32 (im : Int)) := (HF.out.after hC).i.cellTab 4 (by decide)
        go_simp)) ?_
    simp only [Act.put, List.setIfInBounds_toArray, List.set_cons_zero, List.set_cons_succ]
    refine WQ.lift (wpQ_val rfl (.int .u32 (at' : Int)) (fun w' hC => by
        rw [← e1']
        go_simp)) ?_
    simp only [Act.put, List.setIfInBounds_toArray, List.set_cons_zero, List.set_cons_succ]
    refine WQ.lift (wpQ_val rfl (.pointer (some ⟨bT, 4, none⟩)) (fun w' _ => by go_simp)) ?_
    simp only [Act.put, List.setIfInBounds_toArray, List.set_cons_zero, List.set_cons_succ]
    refine WQ.mk (wpQuiet_nil ?_)
    rintro w1 hb1
    have HF1 := Lib.hid (HF.out.after hb1)
    have HH1 := Lib.hid (HH.out.after hb1)
    have HB1 := Lib.hid (HB.out.trans (sh_b hb1))
    have HT1 := Lib.hid (HT.out.below hb1)
    clear HF HH HB HT hb1
    have ck4 : w1.cell? ⟨bT, 4, none⟩ = some (.int .u32 (d.at' : Int)) := HF1.out.f.t.cellTab 4 (by decide)
    have fk4 := HF1.out.f.t.free 4
    go_upto_region 2 with fail
    have hFn : F3 (w1.setCell ⟨bT, 4, none⟩ (.int .u32 (at' : Int))) bI bI bT bR op rd r1 r2 im { d with at' := at' } := HF1.out.put 4 _ _ (trC_set4 _ _)
    have hHn := HH1.out.put (b := bT) 4 (.int .u32 (at' : Int)) (by have := HF1.out.f.nT; have := HD.out; omega) (by have := HF1.out.f.nT; have := HD.out; omega) (by have := HF1.out.f.nT; have := HD.out; omega)
    have hBn := only_put (b := bT) HB1.out (by have := HF1.out.f.nT; have := HN.out; omega) 4 (.int .u32 (at' : Int))
    have hTn := tabT_put (b := bT) HT1.out (by have := HF1.out.f.nT; have := HW.out; omega) 4 (.int .u32 (at' : Int))
    clear ck4 fk4
    generalize w1.setCell ⟨bT, 4, none⟩ (.int .u32 (at' : Int)) = w2 at *
    have HF2 := Lib.hid hFn
    have HH2 := Lib.hid hHn
    have HB2 := Lib.hid hBn
    have HT2 := Lib.hid hTn
    clear hFn hHn hBn hTn HF1 HH1 HB1 HT1
    have ck5 : w2.cell? ⟨bT, 5, none⟩ = some (.int .i64 (d.width : Int)) := HF2.out.f.t.cellTab 5 (by decide)
    have fk5 := HF2.out.f.t.free 5
    have ci0 : w2.cell? ⟨bI, 0, none⟩ = some (.int .i64 (op : Int)) := HF2.out.i.cellTab 0 (by decide)
    go_upto_region 3 with (go_at_call 91; with_reducible refine (kW _).mono ?_; rintro e wW ⟨rfl, rfl⟩)
    clear ci0
    have hFn : F3 (w2.setCell ⟨bT, 5, none⟩ (.int .i64 (n : Int))) bI bI bT bR op rd r1 r2 im { d with at' := at', width := n } := HF2.out.put 5 _ _ (trC_set5 _ _)
    have hHn := HH2.out.put (b := bT) 5 (.int .i64 (n : Int)) (by have := HF2.out.f.nT; have := HD.out; omega) (by have := HF2.out.f.nT; have := HD.out; omega) (by have := HF2.out.f.nT; have := HD.out; omega)
    have hBn := only_put (b := bT) HB2.out (by have := HF2.out.f.nT; have := HN.out; omega) 5 (.int .i64 (n : Int))
    have hTn := tabT_put (b := bT) HT2.out (by have := HF2.out.f.nT; have := HW.out; omega) 5 (.int .i64 (n : Int))
    clear ck5 fk5
    generalize w2.setCell ⟨bT, 5, none⟩ (.int .i64 (n : Int)) = w3 at *
    have HF3 := Lib.hid hFn
    have HH3 := Lib.hid hHn
    have HB3 := Lib.hid hBn
    have HT3 := Lib.hid hTn
    clear hFn hHn hBn hTn HF2 HH2 HB2 HT2
    have ck6 : w3.cell? ⟨bT, 6, none⟩ = some (.bool d.store) := HF3.out.f.t.cellTab 6 (by decide)
    have fk6 := HF3.out.f.t.free 6
    go_upto_region 4 with fail
    have hFn : F3 (w3.setCell ⟨bT, 6, none⟩ (.bool true)) bI bI bT bR op rd r1 r2 im { d with at' := at', width := n, store := true } := HF3.out.put 6 _ _ (trC_set6 _ _)
    have hHn := HH3.out.put (b := bT) 6 (.bool true) (by have := HF3.out.f.nT; have := HD.out; omega) (by have := HF3.out.f.nT; have := HD.out; omega) (by have := HF3.out.f.nT; have := HD.out; omega)
    have hBn := only_put (b := bT) HB3.out (by have := HF3.out.f.nT; have := HN.out; omega) 6 (.bool true)
    have hTn := tabT_put (b := bT) HT3.out (by have := HF3.out.f.nT; have := HW.out; omega) 6 (.bool true)
    clear ck6 fk6
    generalize w3.setCell ⟨bT, 6, none⟩ (.bool true) = w4 at *
    have HF4 := Lib.hid hFn
    have HH4 := Lib.hid hHn
    have HB4 := Lib.hid hBn
    have HT4 := Lib.hid hTn
    clear hFn hHn hBn hTn HF3 HH3 HB3 HT3
    have ct4 : w4.cell? ⟨bT, 4, none⟩ = some (.int .u32 (at' : Int)) := HF4.out.f.t.cellTab 4 (by decide)
    have ct5 : w4.cell? ⟨bT, 5, none⟩ = some (.int .i64 (n : Int)) := HF4.out.f.t.cellTab 5 (by decide)
    go_wp2_with (first
      | (go_at_call 51; with_reducible refine (kO _).mono ?_; rintro e wz ⟨rfl, rfl⟩)
      | (refine wp_load_tabI rfl 51 _ rfl bT rfl 7 (trC { d with at' := at', width := n, store := true }) 51 HF4.out.f.t _ Tryz.underlying51 rfl infoTr ?_; simp only [Act.put, List.setIfInBounds_toArray, List.set_cons_zero, List.set_cons_succ])
      | (go_at_call 50; with_reducible refine (kT1 _).mono ?_; rintro e wt ⟨rfl, hbt⟩)
      | (refine wp_store_tab rfl 51 _ _ rfl bR 0 rfl 7 (trC { { d with at' := at', width := n, store := true } with trap := true, cause := 6, tval := at' }) rfl 7 (trC did0) 51 (HF4.out.after hbt).f.r infoTr (by omega) (trC_one _) ?_; intro w9 hG9 hg9))
    rw [tab7_all] at hG9
    have hlo := HD.out
    have hn := HF4.out.f.nR
    obtain rfl := HN.out
    exact bodyPost_ret (results_cell_row rfl _ _ _ 51 _ _ _ rfl hG9 Tryz.underlying51 rfl infoTr) rfl (Ans.trap ({ d with at' := at', width := n, store := true }) 6 at' rfl (Only.fresh (HB4.out.trans (sh_b hbt)) hg9 hn) ((HH4.out.after hbt).far hg9 (by omega) (by omega) (by omega)) (by decide) HX.out.2)
  rw [if_pos hodd]
  rw [decide_eq_false (not_not_intro hodd)] at kO
  by_cases hmy : (inR at' n && mayS s at' n 2) = true
  rotate_left
  · rw [if_neg hmy]
    simp only [eq_false_of_ne_true hmy] at kM
    clear hmy hodd kT1 kS kN
    unfold trV insV
    go_enter Tryz.func77, Tryz.ntmps77
    go_upto_region 1 with fail
    obtain ⟨wa, hwa, hF, hb0⟩ := three_tr w op rd r1 r2 im d
    rw [← hwa]
    clear hwa
    have HH := Lib.hid (hH.after hb0)
    have HB := Lib.hid (sh_b (p := p) (g := g) (gm := gm) hb0)
    have HT := Lib.hid (HT0.out.below hb0)
    clear hb0
    generalize hgn : w.heap.size = bI at *
    generalize hgT : bI + 1 = bT at *
    generalize hgR : bT + 1 = bR at *
    have HN := Lib.hid hgn
    clear hgn hgT hgR
    have HF := Lib.hid hF
    clear hH hF
    refine region_quiet_tail (Below wa.heap.size wa) 11 (by kernel_rfl) (by kernel_rfl) (below_drewN (Below.refl _ _) 1) ?_
    simp only [List.take_succ_cons, List.take_zero, List.drop_succ_cons, List.drop_zero]
    refine WQ.out ?_
    refine WQ.lift (wpQ_move _ rfl rfl (.pointer (some ⟨p, 0, none⟩)) rfl) ?_
    simp only [Act.put, List.setIfInBounds_toArray, List.set_cons_zero, List.set_cons_succ]
    refine WQ.lift (wpQ_val rfl (.pointer (some ⟨bI, 2, none⟩)) (fun w' _ => by go_simp)) ?_
    simp only [Act.put, List.setIfInBounds_toArray, List.set_cons_zero, List.set_cons_succ]
    refine WQ.lift (wpQ_load 3 (.tmp 8) rfl rfl (.pointer (some ⟨bI, 2, none⟩)) rfl (.int .i64 (r1 : Int)) (fun w' hC => by
        have hcell : w'.cell? ⟨bI, 2, none⟩ = some (.int .i64 (r1 : Int)) := (HF.out.after hC).i.cellTab 2 (by decide)
        go_simp)) ?_
    simp only [Act.put, List.setIfInBounds_toArray, List.set_cons_zero, List.set_cons_succ]
    refine WQ.lift (wpQ_val rfl (.pointer (some ⟨p, 0, none⟩)) (fun w' _ => by go_simp)) ?_
    simp only [Act.put, List.setIfInBounds_toArray, List.set_cons_zero, List.set_cons_succ]
    refine WQ.lift (wpQ_val rfl (.pointer (some ⟨p, 0, none⟩)) (fun w' _ => by go_simp)) ?_
    simp only [Act.put, List.setIfInBounds_toArray, List.set_cons_zero, List.set_cons_succ]
    refine WQ.lift (wpQ_val rfl (.pointer (some ⟨p, r1, none⟩)) (fun w' hC => by
      have h2 := Addr.add_mid p 0 r1
      rw [Nat.zero_add] at h2
      go_simp)) ?_
    simp only [Act.put, List.setIfInBounds_toArray, List.set_cons_zero, List.set_cons_succ]
    refine WQ.lift (wpQ_load 25 (.tmp 12) rfl rfl (.pointer (some ⟨p, r1, none⟩)) rfl (.int .u32 (x r1 : Int)) (fun w' hC => by
        have hcell : w'.cell? ⟨p, r1, none⟩ = some (.int .u32 (x r1 : Int)) := (HH.out.after hC).cx r1 HR.out.1
        go_simp)) ?_
    simp only [Act.put, List.setIfInBounds_toArray, List.set_cons_zero, List.set_cons_succ]
    refine WQ.lift (wpQ_val rfl (.pointer (some ⟨bI, 4, none⟩)) (fun w' _ => by go_simp)) ?_
    simp only [Act.put, List.setIfInBounds_toArray, List.set_cons_zero, List.set_cons_succ]
    refine WQ.lift (wpQ_load 25 (.tmp 14) rfl rfl (.pointer (some ⟨bI, 4, none⟩)) rfl (.int .u32 (im : Int)) (fun w' hC => by
        have hcell : w'.cell? ⟨bI, 4, none⟩ = some (.int .u32 (im : Int)) := (HF.out.after hC).i.cellTab 4 (by decide)
        go_simp)) ?_
    simp only [Act.put, List.setIfInBounds_toArray, List.set_cons_zero, List.set_cons_succ]
    refine WQ.lift (wpQ_val rfl (.int .u32 (at' : Int)) (fun w' hC => by
        rw [← e1']
        go_simp)) ?_
    simp only [Act.put, List.setIfInBounds_toArray, List.set_cons_zero, List.set_cons_succ]
    refine WQ.lift (wpQ_val rfl (.pointer (some ⟨bT, 4, none⟩)) (fun w' _ => by go_simp)) ?_
    simp only [Act.put, List.setIfInBounds_toArray, List.set_cons_zero, List.set_cons_succ]
    refine WQ.mk (wpQuiet_nil ?_)
    rintro w1 hb1
    have HF1 := Lib.hid (HF.out.after hb1)
    have HH1 := Lib.hid (HH.out.after hb1)
    have HB1 := Lib.hid (HB.out.trans (sh_b hb1))
    have HT1 := Lib.hid (HT.out.below hb1)
    clear HF HH HB HT hb1
    have ck4 : w1.cell? ⟨bT, 4, none⟩ = some (.int .u32 (d.at' : Int)) := HF1.out.f.t.cellTab 4 (by decide)
    have fk4 := HF1.out.f.t.free 4
    go_upto_region 2 with fail
    have hFn : F3 (w1.setCell ⟨bT, 4, none⟩ (.int .u32 (at' : Int))) bI bI bT bR op rd r1 r2 im { d with at' := at' } := HF1.out.put 4 _ _ (trC_set4 _ _)
    have hHn := HH1.out.put (b := bT) 4 (.int .u32 (at' : Int)) (by have := HF1.out.f.nT; have := HD.out; omega) (by have := HF1.out.f.nT; have := HD.out; omega) (by have := HF1.out.f.nT; have := HD.out; omega)
    have hBn := only_put (b := bT) HB1.out (by have := HF1.out.f.nT; have := HN.out; omega) 4 (.int .u32 (at' : Int))
    have hTn := tabT_put (b := bT) HT1.out (by have := HF1.out.f.nT; have := HW.out; omega) 4 (.int .u32 (at' : Int))
    clear ck4 fk4
    generalize w1.setCell ⟨bT, 4, none⟩ (.int .u32 (at' : Int)) = w2 at *
    have HF2 := Lib.hid hFn
    have HH2 := Lib.hid hHn
    have HB2 := Lib.hid hBn
    have HT2 := Lib.hid hTn
    clear hFn hHn hBn hTn HF1 HH1 HB1 HT1
    have ck5 : w2.cell? ⟨bT, 5, none⟩ = some (.int .i64 (d.width : Int)) := HF2.out.f.t.cellTab 5 (by decide)
    have fk5 := HF2.out.f.t.free 5
    have ci0 : w2.cell? ⟨bI, 0, none⟩ = some (.int .i64 (op : Int)) := HF2.out.i.cellTab 0 (by decide)
    go_upto_region 3 with (go_at_call 91; with_reducible refine (kW _).mono ?_; rintro e wW ⟨rfl, rfl⟩)
    clear ci0
    have hFn : F3 (w2.setCell ⟨bT, 5, none⟩ (.int .i64 (n : Int))) bI bI bT bR op rd r1 r2 im { d with at' := at', width := n } := HF2.out.put 5 _ _ (trC_set5 _ _)
    have hHn := HH2.out.put (b := bT) 5 (.int .i64 (n : Int)) (by have := HF2.out.f.nT; have := HD.out; omega) (by have := HF2.out.f.nT; have := HD.out; omega) (by have := HF2.out.f.nT; have := HD.out; omega)
    have hBn := only_put (b := bT) HB2.out (by have := HF2.out.f.nT; have := HN.out; omega) 5 (.int .i64 (n : Int))
    have hTn := tabT_put (b := bT) HT2.out (by have := HF2.out.f.nT; have := HW.out; omega) 5 (.int .i64 (n : Int))
    clear ck5 fk5
    generalize w2.setCell ⟨bT, 5, none⟩ (.int .i64 (n : Int)) = w3 at *
    have HF3 := Lib.hid hFn
    have HH3 := Lib.hid hHn
    have HB3 := Lib.hid hBn
    have HT3 := Lib.hid hTn
    clear hFn hHn hBn hTn HF2 HH2 HB2 HT2
    have ck6 : w3.cell? ⟨bT, 6, none⟩ = some (.bool d.store) := HF3.out.f.t.cellTab 6 (by decide)
    have fk6 := HF3.out.f.t.free 6
    go_upto_region 4 with fail
    have hFn : F3 (w3.setCell ⟨bT, 6, none⟩ (.bool true)) bI bI bT bR op rd r1 r2 im { d with at' := at', width := n, store := true } := HF3.out.put 6 _ _ (trC_set6 _ _)
    have hHn := HH3.out.put (b := bT) 6 (.bool true) (by have := HF3.out.f.nT; have := HD.out; omega) (by have := HF3.out.f.nT; have := HD.out; omega) (by have := HF3.out.f.nT; have := HD.out; omega)
    have hBn := only_put (b := bT) HB3.out (by have := HF3.out.f.nT; have := HN.out; omega) 6 (.bool true)
    have hTn := tabT_put (b := bT) HT3.out (by have := HF3.out.f.nT; have := HW.out; omega) 6 (.bool true)
    clear ck6 fk6
    generalize w3.setCell ⟨bT, 6, none⟩ (.bool true) = w4 at *
    have HF4 := Lib.hid hFn
    have HH4 := Lib.hid hHn
    have HB4 := Lib.hid hBn
    have HT4 := Lib.hid hTn
    clear hFn hHn hBn hTn HF3 HH3 HB3 HT3
    have ct4 : w4.cell? ⟨bT, 4, none⟩ = some (.int .u32 (at' : Int)) := HF4.out.f.t.cellTab 4 (by decide)
    have ct5 : w4.cell? ⟨bT, 5, none⟩ = some (.int .i64 (n : Int)) := HF4.out.f.t.cellTab 5 (by decide)
    go_upto_region 7 with (first
      | (go_at_call 51; with_reducible refine (kO _).mono ?_; rintro e wz ⟨rfl, rfl⟩)
      | (go_at_call 52; with_reducible refine (kM _ HH4.out HT4.out).mono ?_; rintro e w5 ⟨rfl, hb5⟩))
    clear ct4 ct5
    have HF5 := Lib.hid (HF4.out.after hb5)
    have HH5 := Lib.hid (HH4.out.after hb5)
    have HB5 := Lib.hid (HB4.out.trans (sh_b hb5))
    have HT5 := Lib.hid (HT4.out.below hb5)
    clear HF4 HH4 HB4 HT4 hb5
    have ct4 : w5.cell? ⟨bT, 4, none⟩ = some (.int .u32 (at' : Int)) := HF5.out.f.t.cellTab 4 (by decide)
    have ct5 : w5.cell? ⟨bT, 5, none⟩ = some (.int .i64 (n : Int)) := HF5.out.f.t.cellTab 5 (by decide)
    go_wp2_with (first
      | (refine wp_load_tabI rfl 51 _ rfl bT rfl 7 (trC { d with at' := at', width := n, store := true }) 51 HF5.out.f.t _ Tryz.underlying51 rfl infoTr ?_; simp only [Act.put, List.setIfInBounds_toArray, List.set_cons_zero, List.set_cons_succ])
      | (go_at_call 50; with_reducible refine (kT2 _).mono ?_; rintro e wt ⟨rfl, hbt⟩)
      | (refine wp_store_tab rfl 51 _ _ rfl bR 0 rfl 7 (trC { { d with at' := at', width := n, store := true } with trap := true, cause := 7, tval := at' }) rfl 7 (trC did0) 51 (HF5.out.after hbt).f.r infoTr (by omega) (trC_one _) ?_; intro w9 hG9 hg9))
    rw [tab7_all] at hG9
    have hlo := HD.out
    have hn := HF5.out.f.nR
    obtain rfl := HN.out
    exact bodyPost_ret (results_cell_row rfl _ _ _ 51 _ _ _ rfl hG9 Tryz.underlying51 rfl infoTr) rfl (Ans.trap ({ d with at' := at', width := n, store := true }) 7 at' rfl (Only.fresh (HB5.out.trans (sh_b hbt)) hg9 hn) ((HH5.out.after hbt).far hg9 (by omega) (by omega) (by omega)) (by decide) HX.out.2)
  · rw [if_pos hmy]
    simp only [hmy] at kM
    clear hmy hodd kT1 kT2
    generalize hqe : (pc + 4) % L32 = q at *
    have HQ := Lib.hid hqe
    clear hqe
    unfold trV insV
    go_enter Tryz.func77, Tryz.ntmps77
    go_upto_region 1 with fail
    obtain ⟨wa, hwa, hF, hb0⟩ := three_tr w op rd r1 r2 im d
    rw [← hwa]
    clear hwa
    have HH := Lib.hid (hH.after hb0)
    have HB := Lib.hid (sh_b (p := p) (g := g) (gm := gm) hb0)
    have HT := Lib.hid (HT0.out.below hb0)
    clear hb0
    generalize hgn : w.heap.size = bI at *
    generalize hgT : bI + 1 = bT at *
    generalize hgR : bT + 1 = bR at *
    have HN := Lib.hid hgn
    clear hgn hgT hgR
    have HF := Lib.hid hF
    clear hH hF
    refine region_quiet_tail (Below wa.heap.size wa) 11 (by kernel_rfl) (by kernel_rfl) (below_drewN (Below.refl _ _) 1) ?_
    simp only [List.take_succ_cons, List.take_zero, List.drop_succ_cons, List.drop_zero]
    refine WQ.out ?_
    refine WQ.lift (wpQ_move _ rfl rfl (.pointer (some ⟨p, 0, none⟩)) rfl) ?_
    simp only [Act.put, List.setIfInBounds_toArray, List.set_cons_zero, List.set_cons_succ]
    refine WQ.lift (wpQ_val rfl (.pointer (some ⟨bI, 2, none⟩)) (fun w' _ => by go_simp)) ?_
    simp only [Act.put, List.setIfInBounds_toArray, List.set_cons_zero, List.set_cons_succ]
    refine WQ.lift (wpQ_load 3 (.tmp 8) rfl rfl (.pointer (some ⟨bI, 2, none⟩)) rfl (.int .i64 (r1 : Int)) (fun w' hC => by
        have hcell : w'.cell? ⟨bI, 2, none⟩ = some (.int .i64 (r1 : Int)) := (HF.out.after hC).i.cellTab 2 (by decide)
        go_simp)) ?_
    simp only [Act.put, List.setIfInBounds_toArray, List.set_cons_zero, List.set_cons_succ]
    refine WQ.lift (wpQ_val rfl (.pointer (some ⟨p, 0, none⟩)) (fun w' _ => by go_simp)) ?_
    simp only [Act.put, List.setIfInBounds_toArray, List.set_cons_zero, List.set_cons_succ]
    refine WQ.lift (wpQ_val rfl (.pointer (some ⟨p, 0, none⟩)) (fun w' _ => by go_simp)) ?_
    simp only [Act.put, List.setIfInBounds_toArray, List.set_cons_zero, List.set_cons_succ]
    refine WQ.lift (wpQ_val rfl (.pointer (some ⟨p, r1, none⟩)) (fun w' hC => by
      have h2 := Addr.add_mid p 0 r1
      rw [Nat.zero_add] at h2
      go_simp)) ?_
    simp only [Act.put, List.setIfInBounds_toArray, List.set_cons_zero, List.set_cons_succ]
    refine WQ.lift (wpQ_load 25 (.tmp 12) rfl rfl (.pointer (some ⟨p, r1, none⟩)) rfl (.int .u32 (x r1 : Int)) (fun w' hC => by
        have hcell : w'.cell? ⟨p, r1, none⟩ = some (.int .u32 (x r1 : Int)) := (HH.out.after hC).cx r1 HR.out.1
        go_simp)) ?_
    simp only [Act.put, List.setIfInBounds_toArray, List.set_cons_zero, List.set_cons_succ]
    refine WQ.lift (wpQ_val rfl (.pointer (some ⟨bI, 4, none⟩)) (fun w' _ => by go_simp)) ?_
    simp only [Act.put, List.setIfInBounds_toArray, List.set_cons_zero, List.set_cons_succ]
    refine WQ.lift (wpQ_load 25 (.tmp 14) rfl rfl (.pointer (some ⟨bI, 4, none⟩)) rfl (.int .u32 (im : Int)) (fun w' hC => by
        have hcell : w'.cell? ⟨bI, 4, none⟩ = some (.int .u32 (im : Int)) := (HF.out.after hC).i.cellTab 4 (by decide)
        go_simp)) ?_
    simp only [Act.put, List.setIfInBounds_toArray, List.set_cons_zero, List.set_cons_succ]
    refine WQ.lift (wpQ_val rfl (.int .u32 (at' : Int)) (fun w' hC => by
        rw [← e1']
        go_simp)) ?_
    simp only [Act.put, List.setIfInBounds_toArray, List.set_cons_zero, List.set_cons_succ]
    refine WQ.lift (wpQ_val rfl (.pointer (some ⟨bT, 4, none⟩)) (fun w' _ => by go_simp)) ?_
    simp only [Act.put, List.setIfInBounds_toArray, List.set_cons_zero, List.set_cons_succ]
    refine WQ.mk (wpQuiet_nil ?_)
    rintro w1 hb1
    have HF1 := Lib.hid (HF.out.after hb1)
    have HH1 := Lib.hid (HH.out.after hb1)
    have HB1 := Lib.hid (HB.out.trans (sh_b hb1))
    have HT1 := Lib.hid (HT.out.below hb1)
    clear HF HH HB HT hb1
    have ck4 : w1.cell? ⟨bT, 4, none⟩ = some (.int .u32 (d.at' : Int)) := HF1.out.f.t.cellTab 4 (by decide)
    have fk4 := HF1.out.f.t.free 4
    go_upto_region 2 with fail
    have hFn : F3 (w1.setCell ⟨bT, 4, none⟩ (.int .u32 (at' : Int))) bI bI bT bR op rd r1 r2 im { d with at' := at' } := HF1.out.put 4 _ _ (trC_set4 _ _)
    have hHn := HH1.out.put (b := bT) 4 (.int .u32 (at' : Int)) (by have := HF1.out.f.nT; have := HD.out; omega) (by have := HF1.out.f.nT; have := HD.out; omega) (by have := HF1.out.f.nT; have := HD.out; omega)
    have hBn := only_put (b := bT) HB1.out (by have := HF1.out.f.nT; have := HN.out; omega) 4 (.int .u32 (at' : Int))
    have hTn := tabT_put (b := bT) HT1.out (by have := HF1.out.f.nT; have := HW.out; omega) 4 (.int .u32 (at' : Int))
    clear ck4 fk4
    generalize w1.setCell ⟨bT, 4, none⟩ (.int .u32 (at' : Int)) = w2 at *
    have HF2 := Lib.hid hFn
    have HH2 := Lib.hid hHn
    have HB2 := Lib.hid hBn
    have HT2 := Lib.hid hTn
    clear hFn hHn hBn hTn HF1 HH1 HB1 HT1
    have ck5 : w2.cell? ⟨bT, 5, none⟩ = some (.int .i64 (d.width : Int)) := HF2.out.f.t.cellTab 5 (by decide)
    have fk5 := HF2.out.f.t.free 5
    have ci0 : w2.cell? ⟨bI, 0, none⟩ = some (.int .i64 (op : Int)) := HF2.out.i.cellTab 0 (by decide)
    go_upto_region 3 with (go_at_call 91; with_reducible refine (kW _).mono ?_; rintro e wW ⟨rfl, rfl⟩)
    clear ci0
    have hFn : F3 (w2.setCell ⟨bT, 5, none⟩ (.int .i64 (n : Int))) bI bI bT bR op rd r1 r2 im { d with at' := at', width := n } := HF2.out.put 5 _ _ (trC_set5 _ _)
    have hHn := HH2.out.put (b := bT) 5 (.int .i64 (n : Int)) (by have := HF2.out.f.nT; have := HD.out; omega) (by have := HF2.out.f.nT; have := HD.out; omega) (by have := HF2.out.f.nT; have := HD.out; omega)
    have hBn := only_put (b := bT) HB2.out (by have := HF2.out.f.nT; have := HN.out; omega) 5 (.int .i64 (n : Int))
    have hTn := tabT_put (b := bT) HT2.out (by have := HF2.out.f.nT; have := HW.out; omega) 5 (.int .i64 (n : Int))
    clear ck5 fk5
    generalize w2.setCell ⟨bT, 5, none⟩ (.int .i64 (n : Int)) = w3 at *
    have HF3 := Lib.hid hFn
    have HH3 := Lib.hid hHn
    have HB3 := Lib.hid hBn
    have HT3 := Lib.hid hTn
    clear hFn hHn hBn hTn HF2 HH2 HB2 HT2
    have ck6 : w3.cell? ⟨bT, 6, none⟩ = some (.bool d.store) := HF3.out.f.t.cellTab 6 (by decide)
    have fk6 := HF3.out.f.t.free 6
    go_upto_region 4 with fail
    have hFn : F3 (w3.setCell ⟨bT, 6, none⟩ (.bool true)) bI bI bT bR op rd r1 r2 im { d with at' := at', width := n, store := true } := HF3.out.put 6 _ _ (trC_set6 _ _)
    have hHn := HH3.out.put (b := bT) 6 (.bool true) (by have := HF3.out.f.nT; have := HD.out; omega) (by have := HF3.out.f.nT; have := HD.out; omega) (by have := HF3.out.f.nT; have := HD.out; omega)
    have hBn := only_put (b := bT) HB3.out (by have := HF3.out.f.nT; have := HN.out; omega) 6 (.bool true)
    have hTn := tabT_put (b := bT) HT3.out (by have := HF3.out.f.nT; have := HW.out; omega) 6 (.bool true)
    clear ck6 fk6
    generalize w3.setCell ⟨bT, 6, none⟩ (.bool true) = w4 at *
    have HF4 := Lib.hid hFn
    have HH4 := Lib.hid hHn
    have HB4 := Lib.hid hBn
    have HT4 := Lib.hid hTn
    clear hFn hHn hBn hTn HF3 HH3 HB3 HT3
    have ct4 : w4.cell? ⟨bT, 4, none⟩ = some (.int .u32 (at' : Int)) := HF4.out.f.t.cellTab 4 (by decide)
    have ct5 : w4.cell? ⟨bT, 5, none⟩ = some (.int .i64 (n : Int)) := HF4.out.f.t.cellTab 5 (by decide)
    go_upto_region 8 with (first
      | (go_at_call 51; with_reducible refine (kO _).mono ?_; rintro e wz ⟨rfl, rfl⟩)
      | (go_at_call 52; with_reducible refine (kM _ HH4.out HT4.out).mono ?_; rintro e w5 ⟨rfl, hb5⟩))
    clear ct4 ct5
    have HF5 := Lib.hid (HF4.out.after hb5)
    have HH5 := Lib.hid (HH4.out.after hb5)
    have HB5 := Lib.hid (HB4.out.trans (sh_b hb5))
    have HT5 := Lib.hid (HT4.out.below hb5)
    clear HF4 HH4 HB4 HT4 hb5
    have ct4 : w5.cell? ⟨bT, 4, none⟩ = some (.int .u32 (at' : Int)) := HF5.out.f.t.cellTab 4 (by decide)
    have ct5 : w5.cell? ⟨bT, 5, none⟩ = some (.int .i64 (n : Int)) := HF5.out.f.t.cellTab 5 (by decide)
    clear ct4 ct5
    refine region_quiet_tail (Below w5.heap.size w5) 15 (by kernel_rfl) (by kernel_rfl) (below_drewN (Below.refl _ _) 1) ?_
    simp only [List.take_succ_cons, List.take_zero, List.drop_succ_cons, List.drop_zero]
    refine WQ.out ?_
    refine WQ.lift (wpQ_move _ rfl rfl (.pointer (some ⟨p, 0, none⟩)) rfl) ?_
    simp only [Act.put, List.setIfInBounds_toArray, List.set_cons_zero, List.set_cons_succ]
    refine WQ.lift (wpQ_val rfl (.pointer (some ⟨p, 0, none⟩)) (fun w' _ => by go_simp)) ?_
    simp only [Act.put, List.setIfInBounds_toArray, List.set_cons_zero, List.set_cons_succ]
    refine WQ.lift (wpQ_val rfl (.pointer (some ⟨p, 34, none⟩)) (fun w' _ => by go_simp)) ?_
    simp only [Act.put, List.setIfInBounds_toArray, List.set_cons_zero, List.set_cons_succ]
    refine WQ.lift (wpQ_load 46 (.tmp 45) rfl rfl (.pointer (some ⟨p, 34, none⟩)) rfl (.pointer (some ⟨gm, 0, none⟩)) (fun w' hC => by
        have hcell : w'.cell? ⟨p, 34, none⟩ = some (.pointer (some ⟨gm, 0, none⟩)) := (HH5.out.after hC).cm
        go_simp)) ?_
    simp only [Act.put, List.setIfInBounds_toArray, List.set_cons_zero, List.set_cons_succ]
    refine WQ.lift (wpQ_val rfl (.pointer (some ⟨bT, 4, none⟩)) (fun w' _ => by go_simp)) ?_
    simp only [Act.put, List.setIfInBounds_toArray, List.set_cons_zero, List.set_cons_succ]
    refine WQ.lift (wpQ_load 25 (.tmp 47) rfl rfl (.pointer (some ⟨bT, 4, none⟩)) rfl (.int .u32 (at' : Int)) (fun w' hC => by
        have hcell : w'.cell? ⟨bT, 4, none⟩ = some (.int .u32 (at' : Int)) := (HF5.out.after hC).f.t.cellTab 4 (by decide)
        go_simp)) ?_
    simp only [Act.put, List.setIfInBounds_toArray, List.set_cons_zero, List.set_cons_succ]
    refine WQ.lift (wpQ_val rfl (.pointer (some ⟨bT, 5, none⟩)) (fun w' _ => by go_simp)) ?_
    simp only [Act.put, List.setIfInBounds_toArray, List.set_cons_zero, List.set_cons_succ]
    refine WQ.lift (wpQ_load 3 (.tmp 49) rfl rfl (.pointer (some ⟨bT, 5, none⟩)) rfl (.int .i64 (n : Int)) (fun w' hC => by
        have hcell : w'.cell? ⟨bT, 5, none⟩ = some (.int .i64 (n : Int)) := (HF5.out.after hC).f.t.cellTab 5 (by decide)
        go_simp)) ?_
    simp only [Act.put, List.setIfInBounds_toArray, List.set_cons_zero, List.set_cons_succ]
    refine WQ.lift (wpQ_move _ rfl rfl (.pointer (some ⟨p, 0, none⟩)) rfl) ?_
    simp only [Act.put, List.setIfInBounds_toArray, List.set_cons_zero, List.set_cons_succ]
    refine WQ.lift (wpQ_val rfl (.pointer (some ⟨bI, 3, none⟩)) (fun w' _ => by go_simp)) ?_
    simp only [Act.put, List.setIfInBounds_toArray, List.set_cons_zero, List.set_cons_succ]
    refine WQ.lift (wpQ_load 3 (.tmp 52) rfl rfl (.pointer (some ⟨bI, 3, none⟩)) rfl (.int .i64 (r2 : Int)) (fun w' hC => by
        have hcell : w'.cell? ⟨bI, 3, none⟩ = some (.int .i64 (r2 : Int)) := (HF5.out.after hC).i.cellTab 3 (by decide)
        go_simp)) ?_
    simp only [Act.put, List.setIfInBounds_toArray, List.set_cons_zero, List.set_cons_succ]
    refine WQ.lift (wpQ_val rfl (.pointer (some ⟨p, 0, none⟩)) (fun w' _ => by go_simp)) ?_
    simp only [Act.put, List.setIfInBounds_toArray, List.set_cons_zero, List.set_cons_succ]
    refine WQ.lift (wpQ_val rfl (.pointer (some ⟨p, 0, none⟩)) (fun w' _ => by go_simp)) ?_
    simp only [Act.put, List.setIfInBounds_toArray, List.set_cons_zero, List.set_cons_succ]
    refine WQ.lift (wpQ_val rfl (.pointer (some ⟨p, r2, none⟩)) (fun w' hC => by
      have h2 := Addr.add_mid p 0 r2
      rw [Nat.zero_add] at h2
      go_simp)) ?_
    simp only [Act.put, List.setIfInBounds_toArray, List.set_cons_zero, List.set_cons_succ]
    refine WQ.lift (wpQ_load 25 (.tmp 56) rfl rfl (.pointer (some ⟨p, r2, none⟩)) rfl (.int .u32 (x r2 : Int)) (fun w' hC => by
        have hcell : w'.cell? ⟨p, r2, none⟩ = some (.int .u32 (x r2 : Int)) := (HH5.out.after hC).cx r2 HR.out.2
        go_simp)) ?_
    simp only [Act.put, List.setIfInBounds_toArray, List.set_cons_zero, List.set_cons_succ]
    refine WQ.mk (wpQuiet_nil ?_)
    rintro w6 hb6
    have HF6 := Lib.hid (HF5.out.after hb6)
    have HH6 := Lib.hid (HH5.out.after hb6)
    have HB6 := Lib.hid (HB5.out.trans (sh_b hb6))
    have HT6 := Lib.hid (HT5.out.below hb6)
    clear HF5 HH5 HB5 HT5 hb6
    go_upto_region 9 with (go_at_call 20; with_reducible refine (kS _ HH6.out.r).mono ?_; rintro e w7 ⟨rfl, hr7, hg7⟩)
    have HH7 := Lib.hid (HH6.out.ram hr7 hg7)
    have HF7 := Lib.hid (HF6.out.sh (sh_m (p := p) (g := g) hg7) HD.out)
    have HB7 := Lib.hid (HB6.out.trans (sh_m hg7))
    clear HH6 HF6 HB6 HT6 hr7 hg7
    go_wp2_with (first
      | (refine wp_load_tabI rfl 51 _ rfl bT rfl 7 (trC { d with at' := at', width := n, store := true }) 51 HF7.out.f.t _ Tryz.underlying51 rfl infoTr ?_; simp only [Act.put, List.setIfInBounds_toArray, List.set_cons_zero, List.set_cons_succ])
      | (go_at_call 90; with_reducible refine (kN _ HH7.out).mono ?_; rintro e w8 ⟨rfl, hH8, hO8⟩)
      | (refine wp_store_tab rfl 51 _ _ rfl bR 0 rfl 7 (trC { d with at' := at', width := n, store := true }) rfl 7 (trC did0) 51 (HF7.out.sh hO8 HD.out).f.r infoTr (by omega) (trC_one _) ?_; intro w9 hG9 hg9))
    rw [tab7_all] at hG9
    have hlo := HD.out
    have hn := HF7.out.f.nR
    obtain rfl := HN.out
    obtain rfl := HQ.out
    exact bodyPost_ret (results_cell_row rfl _ _ _ 51 _ _ _ rfl hG9 Tryz.underlying51 rfl infoTr) rfl (Ans.on ({ d with at' := at', width := n, store := true }) 0 0 _ HX.out.1 _ rfl (Only.fresh (HB7.out.trans hO8) hg9 hn) (hH8.far hg9 (by omega) (by omega) (by omega)))
set_option maxRecDepth 100000 in
set_option maxHeartbeats 2000000 in
theorem hload_any (p g gm pc : Nat) (x : Nat → Nat) (s : St) (m : Nat → UInt8) (op rd r1 r2 im : Nat) (d : Did) (w : World) (hH : Ht w p g gm x pc s m) (hT : TabT w) (hm : Mo s) (hd : d.trap = false) (hds : d.store = false) (hr : rd < 32) (h1 : r1 < 32) (h2 : r2 < 32) (_hi : im < L32) (ho1 : 11 ≤ op) (ho2 : op ≤ 15) : Calls Tryz.prog 92 #[hP p, insV op rd r1 r2 im, trV d] w (Ans p g gm x pc s m (memR d x pc s m op rd (x r2) ((x r1 + im) % L32) (widthN (op : Int)).toNat false) w) := by
  have hl := hH.lts
  have hTl := hT.size
  have hx1 := hH.xl r1
  have hx2 := hH.xl r2
  have hwd := width_in op (by omega) (by omega)
  have hwz : widthN (op : Int) = ((widthN (op : Int)).toNat : Int) := by omega
  have kW := fun W => width_is (op : Int) W
  have e1 : ((x r1 : Int) + (im : Int)) % 4294967296 = (((x r1 + im) % L32 : Nat) : Int) := by unfold L32; omega
  have e1' : IntKind.u32.wrap ((x r1 : Int) + (im : Int)) = (((x r1 + im) % L32 : Nat) : Int) := by simpa [IntKind.wrap, IntKind.signed, IntKind.bits] using e1
  have hat : (x r1 + im) % L32 < L32 := Nat.mod_lt _ (by decide)
  rw [hwz] at kW
  generalize (widthN (op : Int)).toNat = n at *
  generalize (x r1 + im) % L32 = at' at *
  have kO := fun W => isOdd_any at' n hwd W
  have kT1 : ∀ W, Calls Tryz.prog 50 #[trV { d with at' := at', width := n }, .int .u32 4, .int .u32 (at' : Int)] W fun e w' => e = .returned (trV { { d with at' := at', width := n } with trap := true, cause := 4, tval := at' }) ∧ Below W.heap.size W w' := fun W => trapped_any _ 4 at' W
  have kT2 : ∀ W, Calls Tryz.prog 50 #[trV { d with at' := at', width := n }, .int .u32 5, .int .u32 (at' : Int)] W fun e w' => e = .returned (trV { { d with at' := at', width := n } with trap := true, cause := 5, tval := at' }) ∧ Below W.heap.size W w' := fun W => trapped_any _ 5 at' W
  have kM : ∀ W, Ht W p g gm x pc s m → TabT W → Calls Tryz.prog 52 #[hP p, .int .u32 (at' : Int), .int .i64 (n : Int), .int .i64 1] W fun e w' => e = .returned (.bool (inR at' n && mayS s at' n 1)) ∧ Below W.heap.size W w' := fun W h h2 => hmay_any p g gm pc x s m at' n 1 W h h2 hm hat hwd (by decide)
  have kL := fun W (h : RamP W gm m) => mload_any m gm at' (n : Int) W h hat
  have hyl : ldV m at' (n : Int) < L32 := ldV_lt m at' n (by omega)
  have kD := fun W => Al.alu_ok.widen (op : Int) (ldV m at' (n : Int)) W hyl
  have kF := fun W (h : Ht W p g gm x pc s m) => finish_any p g gm pc x s m rd (widenN (op : Int) (ldV m at' (n : Int))) ({ d with at' := at', width := n }) W h hd hr (Al.widenN_lt _ _ hyl)
  rw [memR_ld d hds]
  have HD := Lib.hid hl
  have HR := Lib.hid (And.intro h1 h2)
  have HX := Lib.hid (And.intro hd hat)
  have HW := Lib.hid hTl
  have HT0 := Lib.hid hT
  have h1I : (r1 : Int) < 32 := by omega
  have h2I : (r2 : Int) < 32 := by omega
  unfold trV at kT1 kT2 kF
  clear hl hx1 hx2 hwd hwz hd hds hr h1 h2 _hi ho1 ho2 hT hTl hm hat hyl
  by_cases hodd : at' % n = 0
  rotate_left
  · rw [if_neg hodd]
    rw [decide_eq_true hodd] at kO
    clear hodd kT2 kM kL kD kF
    unfold trV insV
    go_enter Tryz.func92, Tryz.ntmps92
    go_upto_region 1 with fail
    obtain ⟨wa, hwa, hF, hb0⟩ := three_tr w op rd r1 r2 im d
    rw [← hwa]
    clear hwa
    have HH := Lib.hid (hH.after hb0)
    have HB := Lib.hid (sh_b (p := p) (g := g) (gm := gm) hb0)
    have HT := Lib.hid (HT0.out.below hb0)
    clear hb0
    generalize hgn : w.heap.size = bI at *
    generalize hgT : bI + 1 = bT at *
    generalize hgR : bT + 1 = bR at *
    have HN := Lib.hid hgn
    clear hgn hgT hgR
    have HF := Lib.hid hF
    clear hH hF
    refine region_quiet_tail (Below wa.heap.size wa) 11 (by kernel_rfl) (by kernel_rfl) (below_drewN (Below.refl _ _) 1) ?_
    simp only [List.take_succ_cons, List.take_zero, List.drop_succ_cons, List.drop_zero]
    refine WQ.out ?_
    refine WQ.lift (wpQ_move _ rfl rfl (.pointer (some ⟨p, 0, none⟩)) rfl) ?_
    simp only [Act.put, List.setIfInBounds_toArray, List.set_cons_zero, List.set_cons_succ]
    refine WQ.lift (wpQ_val rfl (.pointer (some ⟨bI, 2, none⟩)) (fun w' _ => by go_simp)) ?_
    simp only [Act.put, List.setIfInBounds_toArray, List.set_cons_zero, List.set_cons_succ]
    refine WQ.lift (wpQ_load 3 (.tmp 10) rfl rfl (.pointer (some ⟨bI, 2, none⟩)) rfl (.int .i64 (r1 : Int)) (fun w' hC => by
        have hcell : w'.cell? ⟨bI, 2, none⟩ = some (.int .i64 (r1 : Int)) := (HF.out.after hC).i.cellTab 2 (by decide)
        go_simp)) ?_
    simp only [Act.put, List.setIfInBounds_toArray, List.set_cons_zero, List.set_cons_succ]
    refine WQ.lift (wpQ_val rfl (.pointer (some ⟨p, 0, none⟩)) (fun w' _ => by go_simp)) ?_
    simp only [Act.put, List.setIfInBounds_toArray, List.set_cons_zero, List.set_cons_succ]
    refine WQ.lift (wpQ_val rfl (.pointer (some ⟨p, 0, none⟩)) (fun w' _ => by go_simp)) ?_
    simp only [Act.put, List.setIfInBounds_toArray, List.set_cons_zero, List.set_cons_succ]
    refine WQ.lift (wpQ_val rfl (.pointer (some ⟨p, r1, none⟩)) (fun w' hC => by
      have h2 := Addr.add_mid p 0 r1
      rw [Nat.zero_add] at h2
      go_simp)) ?_
    simp only [Act.put, List.setIfInBounds_toArray, List.set_cons_zero, List.set_cons_succ]
    refine WQ.lift (wpQ_load 25 (.tmp 14) rfl rfl (.pointer (some ⟨p, r1, none⟩)) rfl (.int .u32 (x r1 : Int)) (fun w' hC => by
        have hcell : w'.cell? ⟨p, r1, none⟩ = some (.int .u32 (x r1 : Int)) := (HH.out.after hC).cx r1 HR.out.1
        go_simp)) ?_
    simp only [Act.put, List.setIfInBounds_toArray, List.set_cons_zero, List.set_cons_succ]
    refine WQ.lift (wpQ_val rfl (.pointer (some ⟨bI, 4, none⟩)) (fun w' _ => by go_simp)) ?_
    simp only [Act.put, List.setIfInBounds_toArray, List.set_cons_zero, List.set_cons_succ]
    refine WQ.lift (wpQ_load 25 (.tmp 16) rfl rfl (.pointer (some ⟨bI, 4, none⟩)) rfl (.int .u32 (im : Int)) (fun w' hC => by
        have hcell : w'.cell? ⟨bI, 4, none⟩ = some (.int .u32 (im : Int)) := (HF.out.after hC).i.cellTab 4 (by decide)
        go_simp)) ?_
    simp only [Act.put, List.setIfInBounds_toArray, List.set_cons_zero, List.set_cons_succ]
    refine WQ.lift (wpQ_val rfl (.int .u32 (at' : Int)) (fun w' hC => by
        rw [← e1']
        go_simp)) ?_
    simp only [Act.put, List.setIfInBounds_toArray, List.set_cons_zero, List.set_cons_succ]
    refine WQ.lift (wpQ_val rfl (.pointer (some ⟨bT, 4, none⟩)) (fun w' _ => by go_simp)) ?_
    simp only [Act.put, List.setIfInBounds_toArray, List.set_cons_zero, List.set_cons_succ]
    refine WQ.mk (wpQuiet_nil ?_)
    rintro w1 hb1
    have HF1 := Lib.hid (HF.out.after hb1)
    have HH1 := Lib.hid (HH.out.after hb1)
    have HB1 := Lib.hid (HB.out.trans (sh_b hb1))
    have HT1 := Lib.hid (HT.out.below hb1)
    clear HF HH HB HT hb1
    have ck4 : w1.cell? ⟨bT, 4, none⟩ = some (.int .u32 (d.at' : Int)) := HF1.out.f.t.cellTab 4 (by decide)
    have fk4 := HF1.out.f.t.free 4
    go_upto_region 2 with fail
    have hFn : F3 (w1.setCell ⟨bT, 4, none⟩ (.int .u32 (at' : Int))) bI bI bT bR op rd r1 r2 im { d with at' := at' } := HF1.out.put 4 _ _ (trC_set4 _ _)
    have hHn := HH1.out.put (b := bT) 4 (.int .u32 (at' : Int)) (by have := HF1.out.f.nT; have := HD.out; omega) (by have := HF1.out.f.nT; have := HD.out; omega) (by have := HF1.out.f.nT; have := HD.out; omega)
    have hBn := only_put (b := bT) HB1.out (by have := HF1.out.f.nT; have := HN.out; omega) 4 (.int .u32 (at' : Int))
    have hTn := tabT_put (b := bT) HT1.out (by have := HF1.out.f.nT; have := HW.out; omega) 4 (.int .u32 (at' : Int))
    clear ck4 fk4
    generalize w1.setCell ⟨bT, 4, none⟩ (.int .u32 (at' : Int)) = w2 at *
    have HF2 := Lib.hid hFn
    have HH2 := Lib.hid hHn
    have HB2 := Lib.hid hBn
    have HT2 := Lib.hid hTn
    clear hFn hHn hBn hTn HF1 HH1 HB1 HT1
    have ck5 : w2.cell? ⟨bT, 5, none⟩ = some (.int .i64 (d.width : Int)) := HF2.out.f.t.cellTab 5 (by decide)
    have fk5 := HF2.out.f.t.free 5
    have ci0 : w2.cell? ⟨bI, 0, none⟩ = some (.int .i64 (op : Int)) := HF2.out.i.cellTab 0 (by decide)
    go_upto_region 3 with (go_at_call 91; with_reducible refine (kW _).mono ?_; rintro e wW ⟨rfl, rfl⟩)
    clear ci0
    have hFn : F3 (w2.setCell ⟨bT, 5, none⟩ (.int .i64 (n : Int))) bI bI bT bR op rd r1 r2 im { d with at' := at', width := n } := HF2.out.put 5 _ _ (trC_set5 _ _)
    have hHn := HH2.out.put (b := bT) 5 (.int .i64 (n : Int)) (by have := HF2.out.f.nT; have := HD.out; omega) (by have := HF2.out.f.nT; have := HD.out; omega) (by have := HF2.out.f.nT; have := HD.out; omega)
    have hBn := only_put (b := bT) HB2.out (by have := HF2.out.f.nT; have := HN.out; omega) 5 (.int .i64 (n : Int))
    have hTn := tabT_put (b := bT) HT2.out (by have := HF2.out.f.nT; have := HW.out; omega) 5 (.int .i64 (n : Int))
    clear ck5 fk5
    generalize w2.setCell ⟨bT, 5, none⟩ (.int .i64 (n : Int)) = w3 at *
    have HF3 := Lib.hid hFn
    have HH3 := Lib.hid hHn
    have HB3 := Lib.hid hBn
    have HT3 := Lib.hid hTn
    clear hFn hHn hBn hTn HF2 HH2 HB2 HT2
    have ct4 : w3.cell? ⟨bT, 4, none⟩ = some (.int .u32 (at' : Int)) := HF3.out.f.t.cellTab 4 (by decide)
    have ct5 : w3.cell? ⟨bT, 5, none⟩ = some (.int .i64 (n : Int)) := HF3.out.f.t.cellTab 5 (by decide)
    go_wp2_with (first
      | (go_at_call 51; with_reducible refine (kO _).mono ?_; rintro e wz ⟨rfl, rfl⟩)
      | (refine wp_load_tabI rfl 51 _ rfl bT rfl 7 (trC { d with at' := at', width := n }) 51 HF3.out.f.t _ Tryz.underlying51 rfl infoTr ?_; simp only [Act.put, List.setIfInBounds_toArray, List.set_cons_zero, List.set_cons_succ])
      | (go_at_call 50; with_reducible refine (kT1 _).mono ?_; rintro e wt ⟨rfl, hbt⟩)
      | (refine wp_store_tab rfl 51 _ _ rfl bR 0 rfl 7 (trC { { d with at' := at', width := n } with trap := true, cause := 4, tval := at' }) rfl 7 (trC did0) 51 (HF3.out.after hbt).f.r infoTr (by omega) (trC_one _) ?_; intro w9 hG9 hg9))
    rw [tab7_all] at hG9
    have hlo := HD.out
    have hn := HF3.out.f.nR
    obtain rfl := HN.out
    exact bodyPost_ret (results_cell_row rfl _ _ _ 51 _ _ _ rfl hG9 Tryz.underlying51 rfl infoTr) rfl (Ans.trap ({ d with at' := at', width := n }) 4 at' rfl (Only.fresh (HB3.out.trans (sh_b hbt)) hg9 hn) ((HH3.out.after hbt).far hg9 (by omega) (by omega) (by omega)) (by decide) HX.out.2)
  rw [if_pos hodd]
  rw [decide_eq_false (not_not_intro hodd)] at kO
  by_cases hmy : (inR at' n && mayS s at' n 1) = true
  rotate_left
  · rw [if_neg hmy]
    simp only [eq_false_of_ne_true hmy] at kM
    clear hmy hodd kT1 kL kD kF
    unfold trV insV
    go_enter Tryz.func92, Tryz.ntmps92
    go_upto_region 1 with fail
    obtain ⟨wa, hwa, hF, hb0⟩ := three_tr w op rd r1 r2 im d
    rw [← hwa]
    clear hwa
    have HH := Lib.hid (hH.after hb0)
    have HB := Lib.hid (sh_b (p := p) (g := g) (gm := gm) hb0)
    have HT := Lib.hid (HT0.out.below hb0)
    clear hb0
    generalize hgn : w.heap.size = bI at *
    generalize hgT : bI + 1 = bT at *
    generalize hgR : bT + 1 = bR at *
    have HN := Lib.hid hgn
    clear hgn hgT hgR
    have HF := Lib.hid hF
    clear hH hF
    refine region_quiet_tail (Below wa.heap.size wa) 11 (by kernel_rfl) (by kernel_rfl) (below_drewN (Below.refl _ _) 1) ?_
    simp only [List.take_succ_cons, List.take_zero, List.drop_succ_cons, List.drop_zero]
    refine WQ.out ?_
    refine WQ.lift (wpQ_move _ rfl rfl (.pointer (some ⟨p, 0, none⟩)) rfl) ?_
    simp only [Act.put, List.setIfInBounds_toArray, List.set_cons_zero, List.set_cons_succ]
    refine WQ.lift (wpQ_val rfl (.pointer (some ⟨bI, 2, none⟩)) (fun w' _ => by go_simp)) ?_
    simp only [Act.put, List.setIfInBounds_toArray, List.set_cons_zero, List.set_cons_succ]
    refine WQ.lift (wpQ_load 3 (.tmp 10) rfl rfl (.pointer (some ⟨bI, 2, none⟩)) rfl (.int .i64 (r1 : Int)) (fun w' hC => by
        have hcell : w'.cell? ⟨bI, 2, none⟩ = some (.int .i64 (r1 : Int)) := (HF.out.after hC).i.cellTab 2 (by decide)
        go_simp)) ?_
    simp only [Act.put, List.setIfInBounds_toArray, List.set_cons_zero, List.set_cons_succ]
    refine WQ.lift (wpQ_val rfl (.pointer (some ⟨p, 0, none⟩)) (fun w' _ => by go_simp)) ?_
    simp only [Act.put, List.setIfInBounds_toArray, List.set_cons_zero, List.set_cons_succ]
    refine WQ.lift (wpQ_val rfl (.pointer (some ⟨p, 0, none⟩)) (fun w' _ => by go_simp)) ?_
    simp only [Act.put, List.setIfInBounds_toArray, List.set_cons_zero, List.set_cons_succ]
    refine WQ.lift (wpQ_val rfl (.pointer (some ⟨p, r1, none⟩)) (fun w' hC => by
      have h2 := Addr.add_mid p 0 r1
      rw [Nat.zero_add] at h2
      go_simp)) ?_
    simp only [Act.put, List.setIfInBounds_toArray, List.set_cons_zero, List.set_cons_succ]
    refine WQ.lift (wpQ_load 25 (.tmp 14) rfl rfl (.pointer (some ⟨p, r1, none⟩)) rfl (.int .u32 (x r1 : Int)) (fun w' hC => by
        have hcell : w'.cell? ⟨p, r1, none⟩ = some (.int .u32 (x r1 : Int)) := (HH.out.after hC).cx r1 HR.out.1
        go_simp)) ?_
    simp only [Act.put, List.setIfInBounds_toArray, List.set_cons_zero, List.set_cons_succ]
    refine WQ.lift (wpQ_val rfl (.pointer (some ⟨bI, 4, none⟩)) (fun w' _ => by go_simp)) ?_
    simp only [Act.put, List.setIfInBounds_toArray, List.set_cons_zero, List.set_cons_succ]
    refine WQ.lift (wpQ_load 25 (.tmp 16) rfl rfl (.pointer (some ⟨bI, 4, none⟩)) rfl (.int .u32 (im : Int)) (fun w' hC => by
        have hcell : w'.cell? ⟨bI, 4, none⟩ = some (.int .u32 (im : Int)) := (HF.out.after hC).i.cellTab 4 (by decide)
        go_simp)) ?_
    simp only [Act.put, List.setIfInBounds_toArray, List.set_cons_zero, List.set_cons_succ]
    refine WQ.lift (wpQ_val rfl (.int .u32 (at' : Int)) (fun w' hC => by
        rw [← e1']
        go_simp)) ?_
    simp only [Act.put, List.setIfInBounds_toArray, List.set_cons_zero, List.set_cons_succ]
    refine WQ.lift (wpQ_val rfl (.pointer (some ⟨bT, 4, none⟩)) (fun w' _ => by go_simp)) ?_
    simp only [Act.put, List.setIfInBounds_toArray, List.set_cons_zero, List.set_cons_succ]
    refine WQ.mk (wpQuiet_nil ?_)
    rintro w1 hb1
    have HF1 := Lib.hid (HF.out.after hb1)
    have HH1 := Lib.hid (HH.out.after hb1)
    have HB1 := Lib.hid (HB.out.trans (sh_b hb1))
    have HT1 := Lib.hid (HT.out.below hb1)
    clear HF HH HB HT hb1
    have ck4 : w1.cell? ⟨bT, 4, none⟩ = some (.int .u32 (d.at' : Int)) := HF1.out.f.t.cellTab 4 (by decide)
    have fk4 := HF1.out.f.t.free 4
    go_upto_region 2 with fail
    have hFn : F3 (w1.setCell ⟨bT, 4, none⟩ (.int .u32 (at' : Int))) bI bI bT bR op rd r1 r2 im { d with at' := at' } := HF1.out.put 4 _ _ (trC_set4 _ _)
    have hHn := HH1.out.put (b := bT) 4 (.int .u32 (at' : Int)) (by have := HF1.out.f.nT; have := HD.out; omega) (by have := HF1.out.f.nT; have := HD.out; omega) (by have := HF1.out.f.nT; have := HD.out; omega)
    have hBn := only_put (b := bT) HB1.out (by have := HF1.out.f.nT; have := HN.out; omega) 4 (.int .u32 (at' : Int))
    have hTn := tabT_put (b := bT) HT1.out (by have := HF1.out.f.nT; have := HW.out; omega) 4 (.int .u32 (at' : Int))
    clear ck4 fk4
    generalize w1.setCell ⟨bT, 4, none⟩ (.int .u32 (at' : Int)) = w2 at *
    have HF2 := Lib.hid hFn
    have HH2 := Lib.hid hHn
    have HB2 := Lib.hid hBn
    have HT2 := Lib.hid hTn
    clear hFn hHn hBn hTn HF1 HH1 HB1 HT1
    have ck5 : w2.cell? ⟨bT, 5, none⟩ = some (.int .i64 (d.width : Int)) := HF2.out.f.t.cellTab 5 (by decide)
    have fk5 := HF2.out.f.t.free 5
    have ci0 : w2.cell? ⟨bI, 0, none⟩ = some (.int .i64 (op : Int)) := HF2.out.i.cellTab 0 (by decide)
    go_upto_region 3 with (go_at_call 91; with_reducible refine (kW _).mono ?_; rintro e wW ⟨rfl, rfl⟩)
    clear ci0
    have hFn : F3 (w2.setCell ⟨bT, 5, none⟩ (.int .i64 (n : Int))) bI bI bT bR op rd r1 r2 im { d with at' := at', width := n } := HF2.out.put 5 _ _ (trC_set5 _ _)
    have hHn := HH2.out.put (b := bT) 5 (.int .i64 (n : Int)) (by have := HF2.out.f.nT; have := HD.out; omega) (by have := HF2.out.f.nT; have := HD.out; omega) (by have := HF2.out.f.nT; have := HD.out; omega)
    have hBn := only_put (b := bT) HB2.out (by have := HF2.out.f.nT; have := HN.out; omega) 5 (.int .i64 (n : Int))
    have hTn := tabT_put (b := bT) HT2.out (by have := HF2.out.f.nT; have := HW.out; omega) 5 (.int .i64 (n : Int))
    clear ck5 fk5
    generalize w2.setCell ⟨bT, 5, none⟩ (.int .i64 (n : Int)) = w3 at *
    have HF3 := Lib.hid hFn
    have HH3 := Lib.hid hHn
    have HB3 := Lib.hid hBn
    have HT3 := Lib.hid hTn
    clear hFn hHn hBn hTn HF2 HH2 HB2 HT2
    have ct4 : w3.cell? ⟨bT, 4, none⟩ = some (.int .u32 (at' : Int)) := HF3.out.f.t.cellTab 4 (by decide)
    have ct5 : w3.cell? ⟨bT, 5, none⟩ = some (.int .i64 (n : Int)) := HF3.out.f.t.cellTab 5 (by decide)
    go_upto_region 6 with (first
      | (go_at_call 51; with_reducible refine (kO _).mono ?_; rintro e wz ⟨rfl, rfl⟩)
      | (go_at_call 52; with_reducible refine (kM _ HH3.out HT3.out).mono ?_; rintro e w5 ⟨rfl, hb5⟩))
    clear ct4 ct5
    have HF5 := Lib.hid (HF3.out.after hb5)
    have HH5 := Lib.hid (HH3.out.after hb5)
    have HB5 := Lib.hid (HB3.out.trans (sh_b hb5))
    have HT5 := Lib.hid (HT3.out.below hb5)
    clear HF3 HH3 HB3 HT3 hb5
    have ct4 : w5.cell? ⟨bT, 4, none⟩ = some (.int .u32 (at' : Int)) := HF5.out.f.t.cellTab 4 (by decide)
    have ct5 : w5.cell? ⟨bT, 5, none⟩ = some (.int .i64 (n : Int)) := HF5.out.f.t.cellTab 5 (by decide)
    go_wp2_with (first
      | (refine wp_load_tabI rfl 51 _ rfl bT rfl 7 (trC { d with at' := at', width := n }) 51 HF5.out.f.t _ Tryz.underlying51 rfl infoTr ?_; simp only [Act.put, List.setIfInBounds_toArray, List.set_cons_zero, List.set_cons_succ])
      | (go_at_call 50; with_reducible refine (kT2 _).mono ?_; rintro e wt ⟨rfl, hbt⟩)
      | (refine wp_store_tab rfl 51 _ _ rfl bR 0 rfl 7 (trC { { d with at' := at', width := n } with trap := true, cause := 5, tval := at' }) rfl 7 (trC did0) 51 (HF5.out.after hbt).f.r infoTr (by omega) (trC_one _) ?_; intro w9 hG9 hg9))
    rw [tab7_all] at hG9
    have hlo := HD.out
    have hn := HF5.out.f.nR
    obtain rfl := HN.out
    exact bodyPost_ret (results_cell_row rfl _ _ _ 51 _ _ _ rfl hG9 Tryz.underlying51 rfl infoTr) rfl (Ans.trap ({ d with at' := at', width := n }) 5 at' rfl (Only.fresh (HB5.out.trans (sh_b hbt)) hg9 hn) ((HH5.out.after hbt).far hg9 (by omega) (by omega) (by omega)) (by decide) HX.out.2)
  · rw [if_pos hmy]
    simp only [hmy] at kM
    clear hmy hodd kT1 kT2
    generalize hR : onR ({ d with at' := at', width := n }) x s m rd (widenN (op : Int) (ldV m at' (n : Int))) ((pc + 4) % L32) = R at *
    generalize widenN (op : Int) (ldV m at' (n : Int)) = z at *
    generalize ldV m at' (n : Int) = y at *
    generalize erI (stB at' (n : Int)) = er at *
    clear hR
    unfold trV insV
    go_enter Tryz.func92, Tryz.ntmps92
    go_upto_region 1 with fail
    obtain ⟨wa, hwa, hF, hb0⟩ := three_tr w op rd r1 r2 im d
    rw [← hwa]
    clear hwa
    have HH := Lib.hid (hH.after hb0)
    have HB := Lib.hid (sh_b (p := p) (g := g) (gm := gm) hb0)
    have HT := Lib.hid (HT0.out.below hb0)
    clear hb0
    generalize hgn : w.heap.size = bI at *
    generalize hgT : bI + 1 = bT at *
    generalize hgR : bT + 1 = bR at *
    have HN := Lib.hid hgn
    clear hgn hgT hgR
    have HF := Lib.hid hF
    clear hH hF
    refine region_quiet_tail (Below wa.heap.size wa) 11 (by kernel_rfl) (by kernel_rfl) (below_drewN (Below.refl _ _) 1) ?_
    simp only [List.take_succ_cons, List.take_zero, List.drop_succ_cons, List.drop_zero]
    refine WQ.out ?_
    refine WQ.lift (wpQ_move _ rfl rfl (.pointer (some ⟨p, 0, none⟩)) rfl) ?_
    simp only [Act.put, List.setIfInBounds_toArray, List.set_cons_zero, List.set_cons_succ]
    refine WQ.lift (wpQ_val rfl (.pointer (some ⟨bI, 2, none⟩)) (fun w' _ => by go_simp)) ?_
    simp only [Act.put, List.setIfInBounds_toArray, List.set_cons_zero, List.set_cons_succ]
    refine WQ.lift (wpQ_load 3 (.tmp 10) rfl rfl (.pointer (some ⟨bI, 2, none⟩)) rfl (.int .i64 (r1 : Int)) (fun w' hC => by
        have hcell : w'.cell? ⟨bI, 2, none⟩ = some (.int .i64 (r1 : Int)) := (HF.out.after hC).i.cellTab 2 (by decide)
        go_simp)) ?_
    simp only [Act.put, List.setIfInBounds_toArray, List.set_cons_zero, List.set_cons_succ]
    refine WQ.lift (wpQ_val rfl (.pointer (some ⟨p, 0, none⟩)) (fun w' _ => by go_simp)) ?_
    simp only [Act.put, List.setIfInBounds_toArray, List.set_cons_zero, List.set_cons_succ]
    refine WQ.lift (wpQ_val rfl (.pointer (some ⟨p, 0, none⟩)) (fun w' _ => by go_simp)) ?_
    simp only [Act.put, List.setIfInBounds_toArray, List.set_cons_zero, List.set_cons_succ]
    refine WQ.lift (wpQ_val rfl (.pointer (some ⟨p, r1, none⟩)) (fun w' hC => by
      have h2 := Addr.add_mid p 0 r1
      rw [Nat.zero_add] at h2
      go_simp)) ?_
    simp only [Act.put, List.setIfInBounds_toArray, List.set_cons_zero, List.set_cons_succ]
    refine WQ.lift (wpQ_load 25 (.tmp 14) rfl rfl (.pointer (some ⟨p, r1, none⟩)) rfl (.int .u32 (x r1 : Int)) (fun w' hC => by
        have hcell : w'.cell? ⟨p, r1, none⟩ = some (.int .u32 (x r1 : Int)) := (HH.out.after hC).cx r1 HR.out.1
        go_simp)) ?_
    simp only [Act.put, List.setIfInBounds_toArray, List.set_cons_zero, List.set_cons_succ]
    refine WQ.lift (wpQ_val rfl (.pointer (some ⟨bI, 4, none⟩)) (fun w' _ => by go_simp)) ?_
    simp only [Act.put, List.setIfInBounds_toArray, List.set_cons_zero, List.set_cons_succ]
    refine WQ.lift (wpQ_load 25 (.tmp 16) rfl rfl (.pointer (some ⟨bI, 4, none⟩)) rfl (.int .u32 (im : Int)) (fun w' hC => by
        have hcell : w'.cell? ⟨bI, 4, none⟩ = some (.int .u32 (im : Int)) := (HF.out.after hC).i.cellTab 4 (by decide)
        go_simp)) ?_
    simp only [Act.put, List.setIfInBounds_toArray, List.set_cons_zero, List.set_cons_succ]
    refine WQ.lift (wpQ_val rfl (.int .u32 (at' : Int)) (fun w' hC => by
        rw [← e1']
        go_simp)) ?_
    simp only [Act.put, List.setIfInBounds_toArray, List.set_cons_zero, List.set_cons_succ]
    refine WQ.lift (wpQ_val rfl (.pointer (some ⟨bT, 4, none⟩)) (fun w' _ => by go_simp)) ?_
    simp only [Act.put, List.setIfInBounds_toArray, List.set_cons_zero, List.set_cons_succ]
    refine WQ.mk (wpQuiet_nil ?_)
    rintro w1 hb1
    have HF1 := Lib.hid (HF.out.after hb1)
    have HH1 := Lib.hid (HH.out.after hb1)
    have HB1 := Lib.hid (HB.out.trans (sh_b hb1))
    have HT1 := Lib.hid (HT.out.below hb1)
    clear HF HH HB HT hb1
    have ck4 : w1.cell? ⟨bT, 4, none⟩ = some (.int .u32 (d.at' : Int)) := HF1.out.f.t.cellTab 4 (by decide)
    have fk4 := HF1.out.f.t.free 4
    go_upto_region 2 with fail
    have hFn : F3 (w1.setCell ⟨bT, 4, none⟩ (.int .u32 (at' : Int))) bI bI bT bR op rd r1 r2 im { d with at' := at' } := HF1.out.put 4 _ _ (trC_set4 _ _)
    have hHn := HH1.out.put (b := bT) 4 (.int .u32 (at' : Int)) (by have := HF1.out.f.nT; have := HD.out; omega) (by have := HF1.out.f.nT; have := HD.out; omega) (by have := HF1.out.f.nT; have := HD.out; omega)
    have hBn := only_put (b := bT) HB1.out (by have := HF1.out.f.nT; have := HN.out; omega) 4 (.int .u32 (at' : Int))
    have hTn := tabT_put (b := bT) HT1.out (by have := HF1.out.f.nT; have := HW.out; omega) 4 (.int .u32 (at' : Int))
    clear ck4 fk4
    generalize w1.setCell ⟨bT, 4, none⟩ (.int .u32 (at' : Int)) = w2 at *
    have HF2 := Lib.hid hFn
    have HH2 := Lib.hid hHn
    have HB2 := Lib.hid hBn
    have HT2 := Lib.hid hTn
    clear hFn hHn hBn hTn HF1 HH1 HB1 HT1
    have ck5 : w2.cell? ⟨bT, 5, none⟩ = some (.int .i64 (d.width : Int)) := HF2.out.f.t.cellTab 5 (by decide)
    have fk5 := HF2.out.f.t.free 5
    have ci0 : w2.cell? ⟨bI, 0, none⟩ = some (.int .i64 (op : Int)) := HF2.out.i.cellTab 0 (by decide)
    go_upto_region 3 with (go_at_call 91; with_reducible refine (kW _).mono ?_; rintro e wW ⟨rfl, rfl⟩)
    clear ci0
    have hFn : F3 (w2.setCell ⟨bT, 5, none⟩ (.int .i64 (n : Int))) bI bI bT bR op rd r1 r2 im { d with at' := at', width := n } := HF2.out.put 5 _ _ (trC_set5 _ _)
    have hHn := HH2.out.put (b := bT) 5 (.int .i64 (n : Int)) (by have := HF2.out.f.nT; have := HD.out; omega) (by have := HF2.out.f.nT; have := HD.out; omega) (by have := HF2.out.f.nT; have := HD.out; omega)
    have hBn := only_put (b := bT) HB2.out (by have := HF2.out.f.nT; have := HN.out; omega) 5 (.int .i64 (n : Int))
    have hTn := tabT_put (b := bT) HT2.out (by have := HF2.out.f.nT; have := HW.out; omega) 5 (.int .i64 (n : Int))
    clear ck5 fk5
    generalize w2.setCell ⟨bT, 5, none⟩ (.int .i64 (n : Int)) = w3 at *
    have HF3 := Lib.hid hFn
    have HH3 := Lib.hid hHn
    have HB3 := Lib.hid hBn
    have HT3 := Lib.hid hTn
    clear hFn hHn hBn hTn HF2 HH2 HB2 HT2
    have ct4 : w3.cell? ⟨bT, 4, none⟩ = some (.int .u32 (at' : Int)) := HF3.out.f.t.cellTab 4 (by decide)
    have ct5 : w3.cell? ⟨bT, 5, none⟩ = some (.int .i64 (n : Int)) := HF3.out.f.t.cellTab 5 (by decide)
    go_upto_region 7 with (first
      | (go_at_call 51; with_reducible refine (kO _).mono ?_; rintro e wz ⟨rfl, rfl⟩)
      | (go_at_call 52; with_reducible refine (kM _ HH3.out HT3.out).mono ?_; rintro e w5 ⟨rfl, hb5⟩))
    clear ct4 ct5
    have HF5 := Lib.hid (HF3.out.after hb5)
    have HH5 := Lib.hid (HH3.out.after hb5)
    have HB5 := Lib.hid (HB3.out.trans (sh_b hb5))
    have HT5 := Lib.hid (HT3.out.below hb5)
    clear HF3 HH3 HB3 HT3 hb5
    have ct4 : w5.cell? ⟨bT, 4, none⟩ = some (.int .u32 (at' : Int)) := HF5.out.f.t.cellTab 4 (by decide)
    have ct5 : w5.cell? ⟨bT, 5, none⟩ = some (.int .i64 (n : Int)) := HF5.out.f.t.cellTab 5 (by decide)
    clear ct4 ct5
    refine region_quiet_all (Below w5.heap.size w5) (by kernel_rfl) (by kernel_rfl) (below_drewN (Below.refl _ _) 1) ?_
    refine WQ.out ?_
    refine WQ.lift (wpQ_move _ rfl rfl (.pointer (some ⟨p, 0, none⟩)) rfl) ?_
    simp only [Act.put, List.setIfInBounds_toArray, List.set_cons_zero, List.set_cons_succ]
    refine WQ.lift (wpQ_val rfl (.pointer (some ⟨p, 0, none⟩)) (fun w' _ => by go_simp)) ?_
    simp only [Act.put, List.setIfInBounds_toArray, List.set_cons_zero, List.set_cons_succ]
    refine WQ.lift (wpQ_val rfl (.pointer (some ⟨p, 34, none⟩)) (fun w' _ => by go_simp)) ?_
    simp only [Act.put, List.setIfInBounds_toArray, List.set_cons_zero, List.set_cons_succ]
    refine WQ.lift (wpQ_load 46 (.tmp 47) rfl rfl (.pointer (some ⟨p, 34, none⟩)) rfl (.pointer (some ⟨gm, 0, none⟩)) (fun w' hC => by
        have hcell : w'.cell? ⟨p, 34, none⟩ = some (.pointer (some ⟨gm, 0, none⟩)) := (HH5.out.after hC).cm
        go_simp)) ?_
    simp only [Act.put, List.setIfInBounds_toArray, List.set_cons_zero, List.set_cons_succ]
    refine WQ.lift (wpQ_val rfl (.pointer (some ⟨bT, 4, none⟩)) (fun w' _ => by go_simp)) ?_
    simp only [Act.put, List.setIfInBounds_toArray, List.set_cons_zero, List.set_cons_succ]
    refine WQ.lift (wpQ_load 25 (.tmp 49) rfl rfl (.pointer (some ⟨bT, 4, none⟩)) rfl (.int .u32 (at' : Int)) (fun w' hC => by
        have hcell : w'.cell? ⟨bT, 4, none⟩ = some (.int .u32 (at' : Int)) := (HF5.out.after hC).f.t.cellTab 4 (by decide)
        go_simp)) ?_
    simp only [Act.put, List.setIfInBounds_toArray, List.set_cons_zero, List.set_cons_succ]
    refine WQ.lift (wpQ_val rfl (.pointer (some ⟨bT, 5, none⟩)) (fun w' _ => by go_simp)) ?_
    simp only [Act.put, List.setIfInBounds_toArray, List.set_cons_zero, List.set_cons_succ]
    refine WQ.lift (wpQ_load 3 (.tmp 51) rfl rfl (.pointer (some ⟨bT, 5, none⟩)) rfl (.int .i64 (n : Int)) (fun w' hC => by
        have hcell : w'.cell? ⟨bT, 5, none⟩ = some (.int .i64 (n : Int)) := (HF5.out.after hC).f.t.cellTab 5 (by decide)
        go_simp)) ?_
    simp only [Act.put, List.setIfInBounds_toArray, List.set_cons_zero, List.set_cons_succ]
    refine WQ.lift (wpQ_fn 53 _ _ rfl rfl #[.pointer (some ⟨gm, 0, none⟩), .int .u32 (at' : Int), .int .i64 (n : Int)] rfl (fun _ => by go_simp) (.tuple #[.int .u32 (y : Int), .int .i64 er]) (fun w' hC => (kL w' (HH5.out.after hC).r).mono fun e w'' ⟨he, hb⟩ => ⟨he, below_class hC hb⟩)) ?_
    simp only [Act.put, List.setIfInBounds_toArray, List.set_cons_zero, List.set_cons_succ]
    refine WQ.lift (wpQ_move _ rfl rfl (.tuple #[.int .u32 (y : Int), .int .i64 er]) rfl) ?_
    simp only [Act.put, List.setIfInBounds_toArray, List.set_cons_zero, List.set_cons_succ]
    refine WQ.lift (wpQ_val rfl (.int .u32 (y : Int)) (fun w' _ => by go_simp)) ?_
    simp only [Act.put, List.setIfInBounds_toArray, List.set_cons_zero, List.set_cons_succ]
    refine WQ.lift (wpQ_val rfl (.int .i64 er) (fun w' _ => by go_simp)) ?_
    simp only [Act.put, List.setIfInBounds_toArray, List.set_cons_zero, List.set_cons_succ]
    refine WQ.lift (wpQ_assign _ rfl rfl (.int .u32 (y : Int)) rfl) ?_
    simp only [Act.put, List.setIfInBounds_toArray, List.set_cons_zero, List.set_cons_succ]
    refine WQ.lift (wpQ_assign _ rfl rfl (.int .i64 er) rfl) ?_
    simp only [Act.put, List.setIfInBounds_toArray, List.set_cons_zero, List.set_cons_succ]
    refine WQ.mk (wpQuiet_nil ?_)
    rintro w6 hb6
    have HF6 := Lib.hid (HF5.out.after hb6)
    have HH6 := Lib.hid (HH5.out.after hb6)
    have HB6 := Lib.hid (HB5.out.trans (sh_b hb6))
    have HT6 := Lib.hid (HT5.out.below hb6)
    clear HF5 HH5 HB5 HT5 hb6
    go_upto_region 8 with fail
    refine region_quiet_tail (Below w6.heap.size w6) 8 (by kernel_rfl) (by kernel_rfl) (below_drewN (Below.refl _ _) 1) ?_
    simp only [List.take_succ_cons, List.take_zero, List.drop_succ_cons, List.drop_zero]
    refine WQ.out ?_
    refine WQ.lift (wpQ_move _ rfl rfl (.pointer (some ⟨p, 0, none⟩)) rfl) ?_
    simp only [Act.put, List.setIfInBounds_toArray, List.set_cons_zero, List.set_cons_succ]
    refine WQ.lift (wpQ_val rfl (.pointer (some ⟨bI, 1, none⟩)) (fun w' _ => by go_simp)) ?_
    simp only [Act.put, List.setIfInBounds_toArray, List.set_cons_zero, List.set_cons_succ]
    refine WQ.lift (wpQ_load 3 (.tmp 57) rfl rfl (.pointer (some ⟨bI, 1, none⟩)) rfl (.int .i64 (rd : Int)) (fun w' hC => by
        have hcell : w'.cell? ⟨bI, 1, none⟩ = some (.int .i64 (rd : Int)) := (HF6.out.after hC).i.cellTab 1 (by decide)
        go_simp)) ?_
    simp only [Act.put, List.setIfInBounds_toArray, List.set_cons_zero, List.set_cons_succ]
    refine WQ.lift (wpQ_val rfl (.pointer (some ⟨bI, 0, none⟩)) (fun w' _ => by go_simp)) ?_
    simp only [Act.put, List.setIfInBounds_toArray, List.set_cons_zero, List.set_cons_succ]
    refine WQ.lift (wpQ_load 3 (.tmp 59) rfl rfl (.pointer (some ⟨bI, 0, none⟩)) rfl (.int .i64 (op : Int)) (fun w' hC => by
        have hcell : w'.cell? ⟨bI, 0, none⟩ = some (.int .i64 (op : Int)) := (HF6.out.after hC).i.cellTab 0 (by decide)
        go_simp)) ?_
    simp only [Act.put, List.setIfInBounds_toArray, List.set_cons_zero, List.set_cons_succ]
    refine WQ.lift (wpQ_move _ rfl rfl (.int .u32 (y : Int)) rfl) ?_
    simp only [Act.put, List.setIfInBounds_toArray, List.set_cons_zero, List.set_cons_succ]
    refine WQ.lift (wpQ_fn 107 _ _ rfl rfl #[.int .i64 (op : Int), .int .u32 (y : Int)] rfl (fun _ => by go_simp) (.int .u32 (z : Int)) (fun w' hC => (kD w').mono fun e w'' ⟨he, hb⟩ => ⟨he, below_class hC hb⟩)) ?_
    simp only [Act.put, List.setIfInBounds_toArray, List.set_cons_zero, List.set_cons_succ]
    refine WQ.lift (wpQ_has 51 (.tmp 5) rfl bT rfl rfl 51 _ (fun w' hC => (HF6.out.after hC).f.t) _ Tryz.underlying51 rfl infoTr) ?_
    simp only [Act.put, List.setIfInBounds_toArray, List.set_cons_zero, List.set_cons_succ]
    refine WQ.mk (wpQuiet_nil ?_)
    rintro w7 hb7
    have HF7 := Lib.hid (HF6.out.after hb7)
    have HH7 := Lib.hid (HH6.out.after hb7)
    have HB7 := Lib.hid (HB6.out.trans (sh_b hb7))
    have HT7 := Lib.hid (HT6.out.below hb7)
    clear HF6 HH6 HB6 HT6 hb7
    go_wp2_with (first
      | (go_at_call 87; with_reducible refine (kF _ HH7.out).mono ?_; intro e wc hA; obtain rfl := hA.ret)
      | (refine wp_store_tab rfl 51 _ _ rfl bR 0 rfl 7 (trC R.d) rfl 7 (trC did0) 51 (HF7.out.sh hA.2.1 HD.out).f.r infoTr (by omega) (trC_one _) ?_; intro w9 hG9 hg9))
    rw [tab7_all] at hG9
    have hlo := HD.out
    have hn := HF7.out.f.nR
    obtain rfl := HN.out
    exact bodyPost_ret (results_cell_row rfl _ _ _ 51 _ _ _ rfl hG9 Tryz.underlying51 rfl infoTr) rfl (Ans.fin hA HB7.out hlo hn hg9)
end Go.Proofs.YtgpofoggfifnjaaGreatDoor.Ha
