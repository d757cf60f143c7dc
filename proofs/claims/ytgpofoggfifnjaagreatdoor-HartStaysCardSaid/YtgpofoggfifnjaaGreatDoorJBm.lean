/-
Layer 16: the landed hart's short and system.
-/
import Derived.Test.YtgpofoggfifnjaaGreatDoorJBl
namespace Go.Proofs.YtgpofoggfifnjaaGreatDoor.Ha
open Go Go.RowKit
open Go.Proofs.YtgpofoggfifnjaaGreatDoor (RamP stM ldV stB inR mP erI two_new has_to wp_load_tabI below_fin insA infoIa5 opOf opP bitsN immU rdB r1B r2B Fm fmN TabW has_any has_nil mload_any store_any adecode_any form_at form_no)
open Go.Proofs.YtgpofoggfifnjaaGreatDoor.Cs (St IsF Only S1 hP upd upd_other dueC trapC tickC readC cdue_any ctrap_any ctick_any cread_any cnew_any mayM_any)
open Go.Proofs.YtgpofoggfifnjaaGreatDoor.Pm (TabT)
open Go.Proofs.YtgpofoggfifnjaaGreatDoor.Al (widthN widenN goesN reckN reckon_is goes_is width_is widen_is reckN_lt)

theorem width_0 (op : Nat) (h1 : 19 ≤ op) (h2 : op ≤ 24) : widthN (op : Int) = 0 := by
  have h : (List.range 6).all (fun k => widthN ((19 + k : Nat) : Int) == 0) = true := by decide +kernel
  have := List.all_eq_true.1 h (op - 19) (List.mem_range.2 (by omega))
  rw [show 19 + (op - 19) = op by omega] at this
  exact eq_of_beq this
theorem and_not1 (x : Nat) (h : x < 4294967296) : bits .andNot .u32 (x : Int) 1 = ((x / 2 * 2 : Nat) : Int) := by
  rw [show (1 : Int) = ((1 : Nat) : Int) from rfl, u32_andNot_nat _ _ h (by decide)]
  refine congrArg (fun n : Nat => (n : Int)) ?_
  refine Nat.eq_of_testBit_eq fun i => ?_
  rw [show x / 2 * 2 = x / 2 ^ 1 * 2 ^ 1 by omega, Nat.testBit_and, Nat.testBit_mul_two_pow, Nat.testBit_div_two_pow]
  rw [show (4294967295 - 1 : Nat) = 2 ^ 32 - (1 + 1) by decide, Nat.testBit_two_pow_sub_succ (by decide), show (1 : Nat) = 2 ^ 1 - 1 by decide, Nat.testBit_two_pow_sub_one]
  by_cases h2 : 1 ≤ i
  · rw [show i - 1 + 1 = i by omega]
    by_cases h32 : i < 32
    · simp [h2, h32, Nat.not_lt.2 h2]
    · have : x.testBit i = false := Nat.testBit_lt_two_pow (Nat.lt_of_lt_of_le h (Nat.pow_le_pow_right (n := 2) (i := 32) (by decide) (by omega)))
      simp [this]
  · simp [h2, Nat.lt_of_not_le h2]
set_option maxRecDepth 100000 in
set_option maxHeartbeats 2000000 in
theorem short_jalr (p g gm pc : Nat) (x : Nat → Nat) (s : St) (m : Nat → UInt8) (op rd r1 r2 im : Nat) (d : Did) (w : World) (hH : Ht w p g gm x pc s m) (_hT : TabT w) (_hm : Mo s) (hd : d.trap = false) (_hds : d.store = false) (hr : rd < 32) (h1 : r1 < 32) (h2 : r2 < 32) (_hi : im < L32) (ho : op = 4) : Calls Tryz.prog 76 #[hP p, insV op rd r1 r2 im, trV d] w (Ans p g gm x pc s m (jumpR d x pc s m rd ((x r1 + im) % L32 / 2 * 2)) w) := by
  have hl := hH.lts
  have e1 : ((x r1 : Int) + (im : Int)) % 4294967296 = (((x r1 + im) % L32 : Nat) : Int) := by unfold L32; omega
  have e1' : IntKind.u32.wrap ((x r1 : Int) + (im : Int)) = (((x r1 + im) % L32 : Nat) : Int) := by simpa [IntKind.wrap, IntKind.signed, IntKind.bits] using e1
  have hat : (x r1 + im) % L32 < L32 := Nat.mod_lt _ (by decide)
  have hA := and_not1 _ hat
  have htl : (x r1 + im) % L32 / 2 * 2 < L32 := by omega
  have kJ := fun W (h : Ht W p g gm x pc s m) => jump_any p g gm pc x s m rd ((x r1 + im) % L32 / 2 * 2) d W h hd hr htl
  generalize hR : jumpR d x pc s m rd ((x r1 + im) % L32 / 2 * 2) = R at *
  generalize (x r1 + im) % L32 / 2 * 2 = tg at *
  generalize (x r1 + im) % L32 = at' at *
  have b4 : ((op : Int) == 4) = true := beq_iff_eq.2 (by omega)
  have HD := Lib.hid hl
  have HR := Lib.hid (And.intro h1 h2)
  have h1I : (r1 : Int) < 32 := by omega
  clear hR hl hat htl _hT _hm hd _hds hr h1 h2 _hi ho
  unfold trV at kJ
  unfold trV insV
  go_enter Tryz.func76, Tryz.ntmps76
  go_upto_region 1 with fail
  obtain ⟨wa, hwa, hF, hb0⟩ := three_tr w op rd r1 r2 im d
  rw [← hwa]
  clear hwa
  have HH := Lib.hid (hH.after hb0)
  have HB := Lib.hid (sh_b (p := p) (g := g) (gm := gm) hb0)
  clear hb0
  generalize hgn : w.heap.size = bI at *
  generalize hgT : bI + 1 = bT at *
  generalize hgR : bT + 1 = bR at *
  have HN := Lib.hid hgn
  clear hgn hgT hgR
  have HF := Lib.hid hF
  clear hH hF
  have ci0 : wa.cell? ⟨bI, 0, none⟩ = some (.int .i64 (op : Int)) := HF.out.i.cellTab 0 (by decide)
  go_upto_region 2 with fail
  clear ci0
  refine region_quiet_tail (Below wa.heap.size wa) 15 (by kernel_rfl) (by kernel_rfl) (below_drewN (Below.refl _ _) 1) ?_
  simp only [List.take_succ_cons, List.take_zero, List.drop_succ_cons, List.drop_zero]
  refine WQ.out ?_
  refine WQ.lift (wpQ_move _ rfl rfl (.pointer (some ⟨p, 0, none⟩)) rfl) ?_
  simp only [Act.put, List.setIfInBounds_toArray, List.set_cons_zero, List.set_cons_succ]
  refine WQ.lift (wpQ_val rfl (.pointer (some ⟨bI, 1, none⟩)) (fun w' _ => by go_simp)) ?_
  simp only [Act.put, List.setIfInBounds_toArray, List.set_cons_zero, List.set_cons_succ]
  refine WQ.lift (wpQ_load 3 (.tmp 11) rfl rfl (.pointer (some ⟨bI, 1, none⟩)) rfl (.int .i64 (rd : Int)) (fun w' hC => by
      have hcell : w'.cell? ⟨bI, 1, none⟩ = some (.int .i64 (rd : Int)) := (HF.out.after hC).i.cellTab 1 (by decide)
      go_simp)) ?_
  simp only [Act.put, List.setIfInBounds_toArray, List.set_cons_zero, List.set_cons_succ]
  refine WQ.lift (wpQ_move _ rfl rfl (.pointer (some ⟨p, 0, none⟩)) rfl) ?_
  simp only [Act.put, List.setIfInBounds_toArray, List.set_cons_zero, List.set_cons_succ]
  refine WQ.lift (wpQ_val rfl (.pointer (some ⟨bI, 2, none⟩)) (fun w' _ => by go_simp)) ?_
  simp only [Act.put, List.setIfInBounds_toArray, List.set_cons_zero, List.set_cons_succ]
  refine WQ.lift (wpQ_load 3 (.tmp 14) rfl rfl (.pointer (some ⟨bI, 2, none⟩)) rfl (.int .i64 (r1 : Int)) (fun w' hC => by
      have hcell : w'.cell? ⟨bI, 2, none⟩ = some (.int .i64 (r1 : Int)) := (HF.out.after hC).i.cellTab 2 (by decide)
      go_simp)) ?_
  simp only [Act.put, List.setIfInBounds_toArray, List.set_cons_zero, List.set_cons_succ]
  refine WQ.lift (wpQ_val rfl (.pointer (some ⟨p, 0, none⟩)) (fun w' _ => by go_simp)) ?_
  simp only [Act.put, List.setIfInBounds_toArray, List.set_cons_zero, List.set_cons_succ]
  refine WQ.lift (wpQ_val rfl (.pointer (some ⟨p, 0, none⟩)) (fun w' _ => by go_simp)) ?_
  simp only [Act.put, List.setIfInBounds_toArray, List.set_cons_zero, List.set_cons_succ]
  refine WQ.lift (wpQ_val rfl (.pointer (some ⟨p, r1, none⟩)) (fun w' hC => by
      have h2 := Addr.add_mid p 0 r1
      rw [Nat.zero_add] at h2
      go_simp)) ?_
  simp only [Act.put, List.setIfInBounds_toArray, List.set_cons_zero, List.set_cons_succ]
  refine WQ.lift (wpQ_load 25 (.tmp 18) rfl rfl (.pointer (some ⟨p, r1, none⟩)) rfl (.int .u32 (x r1 : Int)) (fun w' hC => by
      have hcell : w'.cell? ⟨p, r1, none⟩ = some (.int .u32 (x r1 : Int)) := (HH.out.after hC).cx r1 HR.out.1
      go_simp)) ?_
  simp only [Act.put, List.setIfInBounds_toArray, List.set_cons_zero, List.set_cons_succ]
  refine WQ.lift (wpQ_val rfl (.pointer (some ⟨bI, 4, none⟩)) (fun w' _ => by go_simp)) ?_
  simp only [Act.put, List.setIfInBounds_toArray, List.set_cons_zero, List.set_cons_succ]
  refine WQ.lift (wpQ_load 25 (.tmp 20) rfl rfl (.pointer (some ⟨bI, 4, none⟩)) rfl (.int .u32 (im : Int)) (fun w' hC => by
      have hcell : w'.cell? ⟨bI, 4, none⟩ = some (.int .u32 (im : Int)) := (HF.out.after hC).i.cellTab 4 (by decide)
      go_simp)) ?_
  simp only [Act.put, List.setIfInBounds_toArray, List.set_cons_zero, List.set_cons_succ]
  refine WQ.lift (wpQ_val rfl (.int .u32 (at' : Int)) (fun w' hC => by
      rw [← e1']
      go_simp)) ?_
  simp only [Act.put, List.setIfInBounds_toArray, List.set_cons_zero, List.set_cons_succ]
  refine WQ.lift (wpQ_val rfl (.int .u32 (tg : Int)) (fun w' hC => by
      rw [← hA]
      go_simp)) ?_
  simp only [Act.put, List.setIfInBounds_toArray, List.set_cons_zero, List.set_cons_succ]
  refine WQ.lift (wpQ_has 51 (.tmp 5) rfl bT rfl rfl 51 _ (fun w' hC => (HF.out.after hC).f.t) _ Tryz.underlying51 rfl infoTr) ?_
  simp only [Act.put, List.setIfInBounds_toArray, List.set_cons_zero, List.set_cons_succ]
  refine WQ.mk (wpQuiet_nil ?_)
  rintro w1 hb1
  have HF1 := Lib.hid (HF.out.after hb1)
  have HH1 := Lib.hid (HH.out.after hb1)
  have HB1 := Lib.hid (HB.out.trans (sh_b hb1))
  clear HF HH HB hb1
  go_wp2_with (first
    | (go_at_call 74; with_reducible refine (kJ _ HH1.out).mono ?_; intro e wc hA; obtain rfl := hA.ret)
    | (refine wp_store_tab rfl 51 _ _ rfl bR 0 rfl 7 (trC R.d) rfl 7 (trC did0) 51 (HF1.out.sh hA.2.1 HD.out).f.r infoTr (by omega) (trC_one _) ?_; intro w9 hG9 hg9))
  rw [tab7_all] at hG9
  have hlo := HD.out
  have hn := HF1.out.f.nR
  obtain rfl := HN.out
  exact bodyPost_ret (results_cell_row rfl _ _ _ 51 _ _ _ rfl hG9 Tryz.underlying51 rfl infoTr) rfl (Ans.fin hA HB1.out hlo hn hg9)
set_option maxRecDepth 100000 in
set_option maxHeartbeats 2000000 in
theorem short_load (p g gm pc : Nat) (x : Nat → Nat) (s : St) (m : Nat → UInt8) (op rd r1 r2 im : Nat) (d : Did) (w : World) (hH : Ht w p g gm x pc s m) (hT : TabT w) (hm : Mo s) (hd : d.trap = false) (hds : d.store = false) (hr : rd < 32) (h1 : r1 < 32) (h2 : r2 < 32) (hi : im < L32) (ho1 : 11 ≤ op) (ho2 : op ≤ 15) : Calls Tryz.prog 76 #[hP p, insV op rd r1 r2 im, trV d] w (Ans p g gm x pc s m (memR d x pc s m op rd (x r2) ((x r1 + im) % L32) (widthN (op : Int)).toNat false) w) := by
  have hl := hH.lts
  have kF := fun W (h : Ht W p g gm x pc s m) (hT : TabT W) => hload_any p g gm pc x s m op rd r1 r2 im d W h hT hm hd hds hr h1 h2 hi ho1 ho2
  have kW := fun W => width_is (op : Int) W
  have hwd := width_in op (by omega) (by omega)
  have hp0 : (0 : Int) < widthN (op : Int) := by omega
  have b4 : ((op : Int) == 4) = false := beq_eq_false_iff_ne.2 (by omega)
  have HD := Lib.hid hl
  have HT := Lib.hid hT
  generalize hR : memR d x pc s m op rd (x r2) ((x r1 + im) % L32) (widthN (op : Int)).toNat false = R at *
  generalize widthN (op : Int) = wd at *
  clear hR hl hwd hT hm hd hds hr h1 h2 hi ho1 ho2
  unfold trV insV at kF ⊢
  go_enter Tryz.func76, Tryz.ntmps76
  go_upto_region 1 with fail
  obtain ⟨wa, hwa, hF, hb0⟩ := three_tr w op rd r1 r2 im d
  rw [← hwa]
  clear hwa
  have HH := Lib.hid (hH.after hb0)
  have HT2 := Lib.hid (HT.out.below hb0)
  have HB := Lib.hid (sh_b (p := p) (g := g) (gm := gm) hb0)
  clear hb0
  generalize hgn : w.heap.size = bI at *
  generalize hgT : bI + 1 = bT at *
  generalize hgR : bT + 1 = bR at *
  have HN := Lib.hid hgn
  clear hgn hgT hgR
  have HF := Lib.hid hF
  clear hH hF
  have ci0 : wa.cell? ⟨bI, 0, none⟩ = some (.int .i64 (op : Int)) := HF.out.i.cellTab 0 (by decide)
  go_wp2_with (first
    | (go_at_call 91; with_reducible refine (kW _).mono ?_; rintro e wW ⟨rfl, rfl⟩)
    | (refine wp_load_tabI rfl 115 _ rfl bI rfl 5 _ 115 HF.out.i _ Tryz.underlying115 rfl infoIa5 ?_; simp only [Act.put, List.setIfInBounds_toArray, List.set_cons_zero, List.set_cons_succ])
    | (refine wp_load_tabI rfl 51 _ rfl bT rfl 7 (trC d) 51 HF.out.f.t _ Tryz.underlying51 rfl infoTr ?_; simp only [Act.put, List.setIfInBounds_toArray, List.set_cons_zero, List.set_cons_succ])
    | (go_at_call 92; with_reducible refine (kF _ HH.out HT2.out).mono ?_; intro e wc hA; obtain rfl := hA.ret)
    | (refine wp_store_tab rfl 51 _ _ rfl bR 0 rfl 7 (trC R.d) rfl 7 (trC did0) 51 (HF.out.sh hA.2.1 HD.out).f.r infoTr (by omega) (trC_one _) ?_; intro w9 hG9 hg9))
  rw [tab7_all] at hG9
  have hlo := HD.out
  have hn := HF.out.f.nR
  obtain rfl := HN.out
  exact bodyPost_ret (results_cell_row rfl _ _ _ 51 _ _ _ rfl hG9 Tryz.underlying51 rfl infoTr) rfl (Ans.fin hA HB.out hlo hn hg9)
set_option maxRecDepth 100000 in
set_option maxHeartbeats 2000000 in
theorem short_reck (p g gm pc : Nat) (x : Nat → Nat) (s : St) (m : Nat → UInt8) (op rd r1 r2 im : Nat) (d : Did) (w : World) (hH : Ht w p g gm x pc s m) (hT : TabT w) (_hm : Mo s) (hd : d.trap = false) (_hds : d.store = false) (hr : rd < 32) (h1 : r1 < 32) (h2 : r2 < 32) (hi : im < L32) (ho1 : 19 ≤ op) (ho2 : op ≤ 24) : Calls Tryz.prog 76 #[hP p, insV op rd r1 r2 im, trV d] w (Ans p g gm x pc s m (onR d x s m rd (reckN (op : Int) (x r1) im).1 ((pc + 4) % L32)) w) := by
  have hl := hH.lts
  have kF := fun W (h : Ht W p g gm x pc s m) => hreckon_any p g gm pc x s m op rd r1 r2 im im d W h hd hr h1 h2 hi hi
  have kW := fun W => width_is (op : Int) W
  rw [width_0 op ho1 ho2] at kW
  have b4 : ((op : Int) == 4) = false := beq_eq_false_iff_ne.2 (by omega)
  have HD := Lib.hid hl
  have HT := Lib.hid hT
  generalize hR : onR d x s m rd (reckN (op : Int) (x r1) im).1 ((pc + 4) % L32) = R at *
  clear hR hl hT _hm hd _hds hr h1 h2 hi ho1 ho2
  unfold trV insV at kF ⊢
  go_enter Tryz.func76, Tryz.ntmps76
  go_upto_region 1 with fail
  obtain ⟨wa, hwa, hF, hb0⟩ := three_tr w op rd r1 r2 im d
  rw [← hwa]
  clear hwa
  have HH := Lib.hid (hH.after hb0)
  have HT2 := Lib.hid (HT.out.below hb0)
  have HB := Lib.hid (sh_b (p := p) (g := g) (gm := gm) hb0)
  clear hb0
  generalize hgn : w.heap.size = bI at *
  generalize hgT : bI + 1 = bT at *
  generalize hgR : bT + 1 = bR at *
  have HN := Lib.hid hgn
  clear hgn hgT hgR
  have HF := Lib.hid hF
  clear hH hF
  have ci0 : wa.cell? ⟨bI, 0, none⟩ = some (.int .i64 (op : Int)) := HF.out.i.cellTab 0 (by decide)
  have ci4 : wa.cell? ⟨bI, 4, none⟩ = some (.int .u32 (im : Int)) := HF.out.i.cellTab 4 (by decide)
  go_wp2_with (first
    | (go_at_call 91; with_reducible refine (kW _).mono ?_; rintro e wW ⟨rfl, rfl⟩)
    | (refine wp_load_tabI rfl 115 _ rfl bI rfl 5 _ 115 HF.out.i _ Tryz.underlying115 rfl infoIa5 ?_; simp only [Act.put, List.setIfInBounds_toArray, List.set_cons_zero, List.set_cons_succ])
    | (refine wp_load_tabI rfl 51 _ rfl bT rfl 7 (trC d) 51 HF.out.f.t _ Tryz.underlying51 rfl infoTr ?_; simp only [Act.put, List.setIfInBounds_toArray, List.set_cons_zero, List.set_cons_succ])
    | (go_at_call 78; with_reducible refine (kF _ HH.out).mono ?_; intro e wc hA; obtain rfl := hA.ret)
    | (refine wp_store_tab rfl 51 _ _ rfl bR 0 rfl 7 (trC R.d) rfl 7 (trC did0) 51 (HF.out.sh hA.2.1 HD.out).f.r infoTr (by omega) (trC_one _) ?_; intro w9 hG9 hg9))
  rw [tab7_all] at hG9
  have hlo := HD.out
  have hn := HF.out.f.nR
  obtain rfl := HN.out
  exact bodyPost_ret (results_cell_row rfl _ _ _ 51 _ _ _ rfl hG9 Tryz.underlying51 rfl infoTr) rfl (Ans.fin hA HB.out hlo hn hg9)
set_option maxRecDepth 100000 in
set_option maxHeartbeats 2000000 in
theorem system_next (p g gm pc : Nat) (x : Nat → Nat) (s : St) (m : Nat → UInt8) (op rd r1 r2 im : Nat) (d : Did) (w : World) (hH : Ht w p g gm x pc s m) (hd : d.trap = false) (hdw : d.word < L32) (ho : op = 46) : Calls Tryz.prog 79 #[hP p, insV op rd r1 r2 im, trV d] w (Ans p g gm x pc s m (onR d x s m 0 0 ((pc + 4) % L32)) w) := by
  have hl := hH.lts
  have hpl := hH.pl
  have kN := fun W (h : Ht W p g gm x pc s m) => next_any p g gm pc x s m d W h
  have hmo := hH.f.inv.ok.mode
  have b46 : ((op : Int) == 46) = true := beq_iff_eq.2 (by omega)
  have b50 : ((op : Int) == 50) = false := beq_eq_false_iff_ne.2 (by omega)
  have b49 : ((op : Int) == 49) = false := beq_eq_false_iff_ne.2 (by omega)
  have b47 : ((op : Int) == 47) = false := beq_eq_false_iff_ne.2 (by omega)
  have b48 : ((op : Int) == 48) = false := beq_eq_false_iff_ne.2 (by omega)
  have HD := Lib.hid (And.intro hl (And.intro hd (And.intro hpl hdw)))
  generalize hqe : (pc + 4) % L32 = q at *
  have HQ := Lib.hid hqe
  clear hqe hl hpl hd hdw ho
  unfold trV at kN
  generalize hms : s.mode = md at *
  have HM := Lib.hid hms
  clear hms
  rcases hmo with rfl | rfl
  · unfold trV insV
    go_enter Tryz.func79, Tryz.ntmps79
    go_upto_region 1 with fail
    obtain ⟨wa, hwa, hF, hb0⟩ := three_tr w op rd r1 r2 im d
    rw [← hwa]
    clear hwa
    have HH := Lib.hid (hH.after hb0)
    have HB := Lib.hid (sh_b (p := p) (g := g) (gm := gm) hb0)
    clear hb0
    generalize hgn : w.heap.size = bI at *
    generalize hgT : bI + 1 = bT at *
    generalize hgR : bT + 1 = bR at *
    have HN := Lib.hid hgn
    clear hgn hgT hgR
    have HF := Lib.hid hF
    clear hH hF
    have ci0 : wa.cell? ⟨bI, 0, none⟩ = some (.int .i64 (op : Int)) := HF.out.i.cellTab 0 (by decide)
    have cg := HH.out.cg
    have cmo := HH.out.cmode
    rw [HM.out] at cmo
    go_wp2_with (first
      | (refine wp_load_tabI rfl 51 _ rfl bT rfl 7 (trC d) 51 HF.out.f.t _ Tryz.underlying51 rfl infoTr ?_; simp only [Act.put, List.setIfInBounds_toArray, List.set_cons_zero, List.set_cons_succ])
      | (go_at_call 90; with_reducible refine (kN _ HH.out).mono ?_; rintro e wc ⟨rfl, hH3, hO3⟩)
      | (refine wp_store_tab rfl 51 _ _ rfl bR 0 rfl 7 (trC d) rfl 7 (trC did0) 51 (HF.out.sh hO3 HD.out.1).f.r infoTr (by omega) (trC_one _) ?_; intro w9 hG9 hg9))
    rw [tab7_all] at hG9
    have hlo := HD.out.1
    have hn := HF.out.f.nR
    obtain rfl := HN.out
    obtain rfl := HQ.out
    exact bodyPost_ret (results_cell_row rfl _ _ _ 51 _ _ _ rfl hG9 Tryz.underlying51 rfl infoTr) rfl (Ans.on d 0 0 _ HD.out.2.1 m rfl (Only.fresh (HB.out.trans hO3) hg9 hn) (hH3.far hg9 (by omega) (by omega) (by omega)))
  · unfold trV insV
    go_enter Tryz.func79, Tryz.ntmps79
    go_upto_region 1 with fail
    obtain ⟨wa, hwa, hF, hb0⟩ := three_tr w op rd r1 r2 im d
    rw [← hwa]
    clear hwa
    have HH := Lib.hid (hH.after hb0)
    have HB := Lib.hid (sh_b (p := p) (g := g) (gm := gm) hb0)
    clear hb0
    generalize hgn : w.heap.size = bI at *
    generalize hgT : bI + 1 = bT at *
    generalize hgR : bT + 1 = bR at *
    have HN := Lib.hid hgn
    clear hgn hgT hgR
    have HF := Lib.hid hF
    clear hH hF
    have ci0 : wa.cell? ⟨bI, 0, none⟩ = some (.int .i64 (op : Int)) := HF.out.i.cellTab 0 (by decide)
    have cg := HH.out.cg
    have cmo := HH.out.cmode
    rw [HM.out] at cmo
    go_wp2_with (first
      | (refine wp_load_tabI rfl 51 _ rfl bT rfl 7 (trC d) 51 HF.out.f.t _ Tryz.underlying51 rfl infoTr ?_; simp only [Act.put, List.setIfInBounds_toArray, List.set_cons_zero, List.set_cons_succ])
      | (go_at_call 90; with_reducible refine (kN _ HH.out).mono ?_; rintro e wc ⟨rfl, hH3, hO3⟩)
      | (refine wp_store_tab rfl 51 _ _ rfl bR 0 rfl 7 (trC d) rfl 7 (trC did0) 51 (HF.out.sh hO3 HD.out.1).f.r infoTr (by omega) (trC_one _) ?_; intro w9 hG9 hg9))
    rw [tab7_all] at hG9
    have hlo := HD.out.1
    have hn := HF.out.f.nR
    obtain rfl := HN.out
    obtain rfl := HQ.out
    exact bodyPost_ret (results_cell_row rfl _ _ _ 51 _ _ _ rfl hG9 Tryz.underlying51 rfl infoTr) rfl (Ans.on d 0 0 _ HD.out.2.1 m rfl (Only.fresh (HB.out.trans hO3) hg9 hn) (hH3.far hg9 (by omega) (by omega) (by omega)))
set_option maxRecDepth 100000 in
set_option maxHeartbeats 2000000 in
theorem system_callU (p g gm pc : Nat) (x : Nat → Nat) (s : St) (m : Nat → UInt8) (op rd r1 r2 im : Nat) (d : Did) (w : World) (hH : Ht w p g gm x pc s m) (hd : d.trap = false) (hdw : d.word < L32) (ho : op = 47) (hmd : s.mode = 0) : Calls Tryz.prog 79 #[hP p, insV op rd r1 r2 im, trV d] w (Ans p g gm x pc s m (trapR d x pc s m 8 0) w) := by
  have hl := hH.lts
  have hpl := hH.pl
  have kT : ∀ W, Calls Tryz.prog 50 #[trV d, .int .u32 8, .int .u32 0] W fun e w' => e = .returned (trV { d with trap := true, cause := 8, tval := 0 }) ∧ Below W.heap.size W w' := fun W => trapped_any d 8 0 W
  have b46 : ((op : Int) == 46) = false := beq_eq_false_iff_ne.2 (by omega)
  have b50 : ((op : Int) == 50) = false := beq_eq_false_iff_ne.2 (by omega)
  have b49 : ((op : Int) == 49) = false := beq_eq_false_iff_ne.2 (by omega)
  have b47 : ((op : Int) == 47) = true := beq_iff_eq.2 (by omega)
  have b48 : ((op : Int) == 48) = false := beq_eq_false_iff_ne.2 (by omega)
  have HD := Lib.hid (And.intro hl (And.intro hd (And.intro hpl hdw)))
  have HM := Lib.hid hmd
  clear hl hpl hd hdw ho hmd
  unfold trV at kT
  unfold trV insV
  go_enter Tryz.func79, Tryz.ntmps79
  go_upto_region 1 with fail
  obtain ⟨wa, hwa, hF, hb0⟩ := three_tr w op rd r1 r2 im d
  rw [← hwa]
  clear hwa
  have HH := Lib.hid (hH.after hb0)
  have HB := Lib.hid (sh_b (p := p) (g := g) (gm := gm) hb0)
  clear hb0
  generalize hgn : w.heap.size = bI at *
  generalize hgT : bI + 1 = bT at *
  generalize hgR : bT + 1 = bR at *
  have HN := Lib.hid hgn
  clear hgn hgT hgR
  have HF := Lib.hid hF
  clear hH hF
  have ci0 : wa.cell? ⟨bI, 0, none⟩ = some (.int .i64 (op : Int)) := HF.out.i.cellTab 0 (by decide)
  have cg := HH.out.cg
  have cmo := HH.out.cmode
  rw [HM.out] at cmo
  go_wp2_with (first
    | (refine wp_load_tabI rfl 51 _ rfl bT rfl 7 (trC d) 51 HF.out.f.t _ Tryz.underlying51 rfl infoTr ?_; simp only [Act.put, List.setIfInBounds_toArray, List.set_cons_zero, List.set_cons_succ])
    | (go_at_call 50; with_reducible refine (kT _).mono ?_; rintro e wt ⟨rfl, hbt⟩)
    | (refine wp_store_tab rfl 51 _ _ rfl bR 0 rfl 7 (trC { d with trap := true, cause := 8, tval := 0 }) rfl 7 (trC did0) 51 (HF.out.after hbt).f.r infoTr (by omega) (trC_one _) ?_; intro w9 hG9 hg9))
  rw [tab7_all] at hG9
  have hlo := HD.out.1
  have hn := HF.out.f.nR
  obtain rfl := HN.out
  exact bodyPost_ret (results_cell_row rfl _ _ _ 51 _ _ _ rfl hG9 Tryz.underlying51 rfl infoTr) rfl (Ans.trap d 8 0 rfl (Only.fresh (HB.out.trans (sh_b hbt)) hg9 hn) ((HH.out.after hbt).far hg9 (by omega) (by omega) (by omega)) (by decide) (by decide))
set_option maxRecDepth 100000 in
set_option maxHeartbeats 2000000 in
theorem system_callM (p g gm pc : Nat) (x : Nat → Nat) (s : St) (m : Nat → UInt8) (op rd r1 r2 im : Nat) (d : Did) (w : World) (hH : Ht w p g gm x pc s m) (hd : d.trap = false) (hdw : d.word < L32) (ho : op = 47) (hmd : s.mode = 3) : Calls Tryz.prog 79 #[hP p, insV op rd r1 r2 im, trV d] w (Ans p g gm x pc s m (trapR d x pc s m 11 0) w) := by
  have hl := hH.lts
  have hpl := hH.pl
  have kT : ∀ W, Calls Tryz.prog 50 #[trV d, .int .u32 11, .int .u32 0] W fun e w' => e = .returned (trV { d with trap := true, cause := 11, tval := 0 }) ∧ Below W.heap.size W w' := fun W => trapped_any d 11 0 W
  have b46 : ((op : Int) == 46) = false := beq_eq_false_iff_ne.2 (by omega)
  have b50 : ((op : Int) == 50) = false := beq_eq_false_iff_ne.2 (by omega)
  have b49 : ((op : Int) == 49) = false := beq_eq_false_iff_ne.2 (by omega)
  have b47 : ((op : Int) == 47) = true := beq_iff_eq.2 (by omega)
  have b48 : ((op : Int) == 48) = false := beq_eq_false_iff_ne.2 (by omega)
  have HD := Lib.hid (And.intro hl (And.intro hd (And.intro hpl hdw)))
  have HM := Lib.hid hmd
  clear hl hpl hd hdw ho hmd
  unfold trV at kT
  unfold trV insV
  go_enter Tryz.func79, Tryz.ntmps79
  go_upto_region 1 with fail
  obtain ⟨wa, hwa, hF, hb0⟩ := three_tr w op rd r1 r2 im d
  rw [← hwa]
  clear hwa
  have HH := Lib.hid (hH.after hb0)
  have HB := Lib.hid (sh_b (p := p) (g := g) (gm := gm) hb0)
  clear hb0
  generalize hgn : w.heap.size = bI at *
  generalize hgT : bI + 1 = bT at *
  generalize hgR : bT + 1 = bR at *
  have HN := Lib.hid hgn
  clear hgn hgT hgR
  have HF := Lib.hid hF
  clear hH hF
  have ci0 : wa.cell? ⟨bI, 0, none⟩ = some (.int .i64 (op : Int)) := HF.out.i.cellTab 0 (by decide)
  have cg := HH.out.cg
  have cmo := HH.out.cmode
  rw [HM.out] at cmo
  go_wp2_with (first
    | (refine wp_load_tabI rfl 51 _ rfl bT rfl 7 (trC d) 51 HF.out.f.t _ Tryz.underlying51 rfl infoTr ?_; simp only [Act.put, List.setIfInBounds_toArray, List.set_cons_zero, List.set_cons_succ])
    | (go_at_call 50; with_reducible refine (kT _).mono ?_; rintro e wt ⟨rfl, hbt⟩)
    | (refine wp_store_tab rfl 51 _ _ rfl bR 0 rfl 7 (trC { d with trap := true, cause := 11, tval := 0 }) rfl 7 (trC did0) 51 (HF.out.after hbt).f.r infoTr (by omega) (trC_one _) ?_; intro w9 hG9 hg9))
  rw [tab7_all] at hG9
  have hlo := HD.out.1
  have hn := HF.out.f.nR
  obtain rfl := HN.out
  exact bodyPost_ret (results_cell_row rfl _ _ _ 51 _ _ _ rfl hG9 Tryz.underlying51 rfl infoTr) rfl (Ans.trap d 11 0 rfl (Only.fresh (HB.out.trans (sh_b hbt)) hg9 hn) ((HH.out.after hbt).far hg9 (by omega) (by omega) (by omega)) (by decide) (by decide))
set_option maxRecDepth 100000 in
set_option maxHeartbeats 2000000 in
theorem system_break (p g gm pc : Nat) (x : Nat → Nat) (s : St) (m : Nat → UInt8) (op rd r1 r2 im : Nat) (d : Did) (w : World) (hH : Ht w p g gm x pc s m) (hd : d.trap = false) (hdw : d.word < L32) (ho : op = 48) : Calls Tryz.prog 79 #[hP p, insV op rd r1 r2 im, trV d] w (Ans p g gm x pc s m (trapR d x pc s m 3 pc) w) := by
  have hl := hH.lts
  have hpl := hH.pl
  have kT : ∀ W, Calls Tryz.prog 50 #[trV d, .int .u32 3, .int .u32 (pc : Int)] W fun e w' => e = .returned (trV { d with trap := true, cause := 3, tval := pc }) ∧ Below W.heap.size W w' := fun W => trapped_any d 3 pc W
  have hmo := hH.f.inv.ok.mode
  have b46 : ((op : Int) == 46) = false := beq_eq_false_iff_ne.2 (by omega)
  have b50 : ((op : Int) == 50) = false := beq_eq_false_iff_ne.2 (by omega)
  have b49 : ((op : Int) == 49) = false := beq_eq_false_iff_ne.2 (by omega)
  have b47 : ((op : Int) == 47) = false := beq_eq_false_iff_ne.2 (by omega)
  have b48 : ((op : Int) == 48) = true := beq_iff_eq.2 (by omega)
  have HD := Lib.hid (And.intro hl (And.intro hd (And.intro hpl hdw)))
  clear hl hpl hd hdw ho
  unfold trV at kT
  generalize hms : s.mode = md at *
  have HM := Lib.hid hms
  clear hms
  rcases hmo with rfl | rfl
  · unfold trV insV
    go_enter Tryz.func79, Tryz.ntmps79
    go_upto_region 1 with fail
    obtain ⟨wa, hwa, hF, hb0⟩ := three_tr w op rd r1 r2 im d
    rw [← hwa]
    clear hwa
    have HH := Lib.hid (hH.after hb0)
    have HB := Lib.hid (sh_b (p := p) (g := g) (gm := gm) hb0)
    clear hb0
    generalize hgn : w.heap.size = bI at *
    generalize hgT : bI + 1 = bT at *
    generalize hgR : bT + 1 = bR at *
    have HN := Lib.hid hgn
    clear hgn hgT hgR
    have HF := Lib.hid hF
    clear hH hF
    have ci0 : wa.cell? ⟨bI, 0, none⟩ = some (.int .i64 (op : Int)) := HF.out.i.cellTab 0 (by decide)
    have cg := HH.out.cg
    have cmo := HH.out.cmode
    rw [HM.out] at cmo
    go_upto_region 14 with fail
    clear ci0 cg cmo
    refine region_quiet_tail (Below wa.heap.size wa) 5 (by kernel_rfl) (by kernel_rfl) (below_drewN (Below.refl _ _) 1) ?_
    simp only [List.take_succ_cons, List.take_zero, List.drop_succ_cons, List.drop_zero]
    refine WQ.out ?_
    refine WQ.lift (wpQ_has 51 (.tmp 5) rfl bT rfl rfl 51 _ (fun w' hC => (HF.out.after hC).f.t) _ Tryz.underlying51 rfl infoTr) ?_
    simp only [Act.put, List.setIfInBounds_toArray, List.set_cons_zero, List.set_cons_succ]
    refine WQ.lift (wpQ_move _ rfl rfl (.pointer (some ⟨p, 0, none⟩)) rfl) ?_
    simp only [Act.put, List.setIfInBounds_toArray, List.set_cons_zero, List.set_cons_succ]
    refine WQ.lift (wpQ_val rfl (.pointer (some ⟨p, 0, none⟩)) (fun w' _ => by go_simp)) ?_
    simp only [Act.put, List.setIfInBounds_toArray, List.set_cons_zero, List.set_cons_succ]
    refine WQ.lift (wpQ_val rfl (.pointer (some ⟨p, 32, none⟩)) (fun w' _ => by go_simp)) ?_
    simp only [Act.put, List.setIfInBounds_toArray, List.set_cons_zero, List.set_cons_succ]
    refine WQ.lift (wpQ_load 25 (.tmp 69) rfl rfl (.pointer (some ⟨p, 32, none⟩)) rfl (.int .u32 (pc : Int)) (fun w' hC => by
        have hcell : w'.cell? ⟨p, 32, none⟩ = some (.int .u32 (pc : Int)) := (HH.out.after hC).cpc
        go_simp)) ?_
    simp only [Act.put, List.setIfInBounds_toArray, List.set_cons_zero, List.set_cons_succ]
    refine WQ.mk (wpQuiet_nil ?_)
    rintro w1 hb1
    have HF1 := Lib.hid (HF.out.after hb1)
    have HH1 := Lib.hid (HH.out.after hb1)
    have HB1 := Lib.hid (HB.out.trans (sh_b hb1))
    clear HF HH HB hb1
    go_wp2_with (first
      | (go_at_call 50; with_reducible refine (kT _).mono ?_; rintro e wt ⟨rfl, hbt⟩)
      | (refine wp_store_tab rfl 51 _ _ rfl bR 0 rfl 7 (trC { d with trap := true, cause := 3, tval := pc }) rfl 7 (trC did0) 51 (HF1.out.after hbt).f.r infoTr (by omega) (trC_one _) ?_; intro w9 hG9 hg9))
    rw [tab7_all] at hG9
    have hlo := HD.out.1
    have hn := HF1.out.f.nR
    obtain rfl := HN.out
    exact bodyPost_ret (results_cell_row rfl _ _ _ 51 _ _ _ rfl hG9 Tryz.underlying51 rfl infoTr) rfl (Ans.trap d 3 pc rfl (Only.fresh (HB1.out.trans (sh_b hbt)) hg9 hn) ((HH1.out.after hbt).far hg9 (by omega) (by omega) (by omega)) (by decide) HD.out.2.2.1)
  · unfold trV insV
    go_enter Tryz.func79, Tryz.ntmps79
    go_upto_region 1 with fail
    obtain ⟨wa, hwa, hF, hb0⟩ := three_tr w op rd r1 r2 im d
    rw [← hwa]
    clear hwa
    have HH := Lib.hid (hH.after hb0)
    have HB := Lib.hid (sh_b (p := p) (g := g) (gm := gm) hb0)
    clear hb0
    generalize hgn : w.heap.size = bI at *
    generalize hgT : bI + 1 = bT at *
    generalize hgR : bT + 1 = bR at *
    have HN := Lib.hid hgn
    clear hgn hgT hgR
    have HF := Lib.hid hF
    clear hH hF
    have ci0 : wa.cell? ⟨bI, 0, none⟩ = some (.int .i64 (op : Int)) := HF.out.i.cellTab 0 (by decide)
    have cg := HH.out.cg
    have cmo := HH.out.cmode
    rw [HM.out] at cmo
    go_upto_region 14 with fail
    clear ci0 cg cmo
    refine region_quiet_tail (Below wa.heap.size wa) 5 (by kernel_rfl) (by kernel_rfl) (below_drewN (Below.refl _ _) 1) ?_
    simp only [List.take_succ_cons, List.take_zero, List.drop_succ_cons, List.drop_zero]
    refine WQ.out ?_
    refine WQ.lift (wpQ_has 51 (.tmp 5) rfl bT rfl rfl 51 _ (fun w' hC => (HF.out.after hC).f.t) _ Tryz.underlying51 rfl infoTr) ?_
    simp only [Act.put, List.setIfInBounds_toArray, List.set_cons_zero, List.set_cons_succ]
    refine WQ.lift (wpQ_move _ rfl rfl (.pointer (some ⟨p, 0, none⟩)) rfl) ?_
    simp only [Act.put, List.setIfInBounds_toArray, List.set_cons_zero, List.set_cons_succ]
    refine WQ.lift (wpQ_val rfl (.pointer (some ⟨p, 0, none⟩)) (fun w' _ => by go_simp)) ?_
    simp only [Act.put, List.setIfInBounds_toArray, List.set_cons_zero, List.set_cons_succ]
    refine WQ.lift (wpQ_val rfl (.pointer (some ⟨p, 32, none⟩)) (fun w' _ => by go_simp)) ?_
    simp only [Act.put, List.setIfInBounds_toArray, List.set_cons_zero, List.set_cons_succ]
    refine WQ.lift (wpQ_load 25 (.tmp 69) rfl rfl (.pointer (some ⟨p, 32, none⟩)) rfl (.int .u32 (pc : Int)) (fun w' hC => by
        have hcell : w'.cell? ⟨p, 32, none⟩ = some (.int .u32 (pc : Int)) := (HH.out.after hC).cpc
        go_simp)) ?_
    simp only [Act.put, List.setIfInBounds_toArray, List.set_cons_zero, List.set_cons_succ]
    refine WQ.mk (wpQuiet_nil ?_)
    rintro w1 hb1
    have HF1 := Lib.hid (HF.out.after hb1)
    have HH1 := Lib.hid (HH.out.after hb1)
    have HB1 := Lib.hid (HB.out.trans (sh_b hb1))
    clear HF HH HB hb1
    go_wp2_with (first
      | (go_at_call 50; with_reducible refine (kT _).mono ?_; rintro e wt ⟨rfl, hbt⟩)
      | (refine wp_store_tab rfl 51 _ _ rfl bR 0 rfl 7 (trC { d with trap := true, cause := 3, tval := pc }) rfl 7 (trC did0) 51 (HF1.out.after hbt).f.r infoTr (by omega) (trC_one _) ?_; intro w9 hG9 hg9))
    rw [tab7_all] at hG9
    have hlo := HD.out.1
    have hn := HF1.out.f.nR
    obtain rfl := HN.out
    exact bodyPost_ret (results_cell_row rfl _ _ _ 51 _ _ _ rfl hG9 Tryz.underlying51 rfl infoTr) rfl (Ans.trap d 3 pc rfl (Only.fresh (HB1.out.trans (sh_b hbt)) hg9 hn) ((HH1.out.after hbt).far hg9 (by omega) (by omega) (by omega)) (by decide) HD.out.2.2.1)
set_option maxRecDepth 100000 in
set_option maxHeartbeats 2000000 in
theorem system_mret (p g gm pc : Nat) (x : Nat → Nat) (s : St) (m : Nat → UInt8) (op rd r1 r2 im : Nat) (d : Did) (w : World) (hH : Ht w p g gm x pc s m) (hd : d.trap = false) (hdw : d.word < L32) (ho : op = 49) (hmd : s.mode = 0) : Calls Tryz.prog 79 #[hP p, insV op rd r1 r2 im, trV d] w (Ans p g gm x pc s m (trapR d x pc s m 2 d.word) w) := by
  have hl := hH.lts
  have hpl := hH.pl
  have kT := fun W => illegal_any d W
  have b46 : ((op : Int) == 46) = false := beq_eq_false_iff_ne.2 (by omega)
  have b50 : ((op : Int) == 50) = false := beq_eq_false_iff_ne.2 (by omega)
  have b49 : ((op : Int) == 49) = true := beq_iff_eq.2 (by omega)
  have b47 : ((op : Int) == 47) = false := beq_eq_false_iff_ne.2 (by omega)
  have b48 : ((op : Int) == 48) = false := beq_eq_false_iff_ne.2 (by omega)
  have HD := Lib.hid (And.intro hl (And.intro hd (And.intro hpl hdw)))
  have HM := Lib.hid hmd
  clear hl hpl hd hdw ho hmd
  unfold trV at kT
  unfold trV insV
  go_enter Tryz.func79, Tryz.ntmps79
  go_upto_region 1 with fail
  obtain ⟨wa, hwa, hF, hb0⟩ := three_tr w op rd r1 r2 im d
  rw [← hwa]
  clear hwa
  have HH := Lib.hid (hH.after hb0)
  have HB := Lib.hid (sh_b (p := p) (g := g) (gm := gm) hb0)
  clear hb0
  generalize hgn : w.heap.size = bI at *
  generalize hgT : bI + 1 = bT at *
  generalize hgR : bT + 1 = bR at *
  have HN := Lib.hid hgn
  clear hgn hgT hgR
  have HF := Lib.hid hF
  clear hH hF
  have ci0 : wa.cell? ⟨bI, 0, none⟩ = some (.int .i64 (op : Int)) := HF.out.i.cellTab 0 (by decide)
  have cg := HH.out.cg
  have cmo := HH.out.cmode
  rw [HM.out] at cmo
  go_wp2_with (first
    | (refine wp_load_tabI rfl 51 _ rfl bT rfl 7 (trC d) 51 HF.out.f.t _ Tryz.underlying51 rfl infoTr ?_; simp only [Act.put, List.setIfInBounds_toArray, List.set_cons_zero, List.set_cons_succ])
    | (go_at_call 81; with_reducible refine (kT _).mono ?_; rintro e wt ⟨rfl, hbt⟩)
    | (refine wp_store_tab rfl 51 _ _ rfl bR 0 rfl 7 (trC { d with trap := true, cause := 2, tval := d.word }) rfl 7 (trC did0) 51 (HF.out.after hbt).f.r infoTr (by omega) (trC_one _) ?_; intro w9 hG9 hg9))
  rw [tab7_all] at hG9
  have hlo := HD.out.1
  have hn := HF.out.f.nR
  obtain rfl := HN.out
  exact bodyPost_ret (results_cell_row rfl _ _ _ 51 _ _ _ rfl hG9 Tryz.underlying51 rfl infoTr) rfl (Ans.trap d 2 d.word rfl (Only.fresh (HB.out.trans (sh_b hbt)) hg9 hn) ((HH.out.after hbt).far hg9 (by omega) (by omega) (by omega)) (by decide) HD.out.2.2.2)
set_option maxRecDepth 100000 in
set_option maxHeartbeats 2000000 in
theorem system_wfi (p g gm pc : Nat) (x : Nat → Nat) (s : St) (m : Nat → UInt8) (op rd r1 r2 im : Nat) (d : Did) (w : World) (hH : Ht w p g gm x pc s m) (hd : d.trap = false) (hdw : d.word < L32) (ho : op = 50) (hmd : s.mode = 0) : Calls Tryz.prog 79 #[hP p, insV op rd r1 r2 im, trV d] w (Ans p g gm x pc s m (trapR d x pc s m 2 d.word) w) := by
  have hl := hH.lts
  have hpl := hH.pl
  have kT := fun W => illegal_any d W
  have b46 : ((op : Int) == 46) = false := beq_eq_false_iff_ne.2 (by omega)
  have b50 : ((op : Int) == 50) = true := beq_iff_eq.2 (by omega)
  have b49 : ((op : Int) == 49) = false := beq_eq_false_iff_ne.2 (by omega)
  have b47 : ((op : Int) == 47) = false := beq_eq_false_iff_ne.2 (by omega)
  have b48 : ((op : Int) == 48) = false := beq_eq_false_iff_ne.2 (by omega)
  have HD := Lib.hid (And.intro hl (And.intro hd (And.intro hpl hdw)))
  have HM := Lib.hid hmd
  clear hl hpl hd hdw ho hmd
  unfold trV at kT
  unfold trV insV
  go_enter Tryz.func79, Tryz.ntmps79
  go_upto_region 1 with fail
  obtain ⟨wa, hwa, hF, hb0⟩ := three_tr w op rd r1 r2 im d
  rw [← hwa]
  clear hwa
  have HH := Lib.hid (hH.after hb0)
  have HB := Lib.hid (sh_b (p := p) (g := g) (gm := gm) hb0)
  clear hb0
  generalize hgn : w.heap.size = bI at *
  generalize hgT : bI + 1 = bT at *
  generalize hgR : bT + 1 = bR at *
  have HN := Lib.hid hgn
  clear hgn hgT hgR
  have HF := Lib.hid hF
  clear hH hF
  have ci0 : wa.cell? ⟨bI, 0, none⟩ = some (.int .i64 (op : Int)) := HF.out.i.cellTab 0 (by decide)
  have cg := HH.out.cg
  have cmo := HH.out.cmode
  rw [HM.out] at cmo
  go_wp2_with (first
    | (refine wp_load_tabI rfl 51 _ rfl bT rfl 7 (trC d) 51 HF.out.f.t _ Tryz.underlying51 rfl infoTr ?_; simp only [Act.put, List.setIfInBounds_toArray, List.set_cons_zero, List.set_cons_succ])
    | (go_at_call 81; with_reducible refine (kT _).mono ?_; rintro e wt ⟨rfl, hbt⟩)
    | (refine wp_store_tab rfl 51 _ _ rfl bR 0 rfl 7 (trC { d with trap := true, cause := 2, tval := d.word }) rfl 7 (trC did0) 51 (HF.out.after hbt).f.r infoTr (by omega) (trC_one _) ?_; intro w9 hG9 hg9))
  rw [tab7_all] at hG9
  have hlo := HD.out.1
  have hn := HF.out.f.nR
  obtain rfl := HN.out
  exact bodyPost_ret (results_cell_row rfl _ _ _ 51 _ _ _ rfl hG9 Tryz.underlying51 rfl infoTr) rfl (Ans.trap d 2 d.word rfl (Only.fresh (HB.out.trans (sh_b hbt)) hg9 hn) ((HH.out.after hbt).far hg9 (by omega) (by omega) (by omega)) (by decide) HD.out.2.2.2)
end Go.Proofs.YtgpofoggfifnjaaGreatDoor.Ha
