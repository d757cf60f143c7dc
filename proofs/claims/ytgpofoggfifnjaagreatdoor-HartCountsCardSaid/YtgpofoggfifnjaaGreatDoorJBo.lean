/-
Layer 16: the landed hart's execute.
-/
import Derived.Test.YtgpofoggfifnjaaGreatDoorJBn
namespace Go.Proofs.YtgpofoggfifnjaaGreatDoor.Ha
open Go Go.RowKit
open Go.Proofs.YtgpofoggfifnjaaGreatDoor (RamP stM ldV stB inR mP erI two_new has_to wp_load_tabI below_fin insA infoIa5 opOf opP bitsN immU rdB r1B r2B Fm fmN TabW has_any has_nil mload_any store_any adecode_any form_at form_no)
open Go.Proofs.YtgpofoggfifnjaaGreatDoor.Cs (St IsF Only S1 hP upd upd_other dueC trapC tickC readC cdue_any ctrap_any ctick_any cread_any cnew_any mayM_any)
open Go.Proofs.YtgpofoggfifnjaaGreatDoor.Pm (TabT)
open Go.Proofs.YtgpofoggfifnjaaGreatDoor.Al (widthN widenN goesN reckN reckon_is goes_is width_is widen_is reckN_lt)

/-- the operations of each form -/
theorem form_way (op : Nat) (h : op < 57) : op = 0 ∨ ((op = 1 ∨ op = 2) ∧ fmN (opP op).1 = 0) ∨ (op = 3 ∧ fmN (opP op).1 = 1) ∨ ((5 ≤ op ∧ op ≤ 10) ∧ fmN (opP op).1 = 3) ∨ ((op = 4 ∨ (11 ≤ op ∧ op ≤ 15) ∨ (19 ≤ op ∧ op ≤ 24)) ∧ fmN (opP op).1 = 2) ∨ ((16 ≤ op ∧ op ≤ 18) ∧ fmN (opP op).1 = 4) ∨ ((28 ≤ op ∧ op ≤ 45) ∧ fmN (opP op).1 = 5) ∨ ((25 ≤ op ∧ op ≤ 27) ∧ fmN (opP op).1 = 6) ∨ ((46 ≤ op ∧ op ≤ 50) ∧ fmN (opP op).1 = 7) ∨ ((51 ≤ op ∧ op ≤ 53) ∧ fmN (opP op).1 = 8) ∨ ((54 ≤ op ∧ op ≤ 56) ∧ fmN (opP op).1 = 9) := by
  have h1 : (List.range 57).all (fun op => decide (op = 0 ∨ ((op = 1 ∨ op = 2) ∧ fmN (opP op).1 = 0) ∨ (op = 3 ∧ fmN (opP op).1 = 1) ∨ ((5 ≤ op ∧ op ≤ 10) ∧ fmN (opP op).1 = 3) ∨ ((op = 4 ∨ (11 ≤ op ∧ op ≤ 15) ∨ (19 ≤ op ∧ op ≤ 24)) ∧ fmN (opP op).1 = 2) ∨ ((16 ≤ op ∧ op ≤ 18) ∧ fmN (opP op).1 = 4) ∨ ((28 ≤ op ∧ op ≤ 45) ∧ fmN (opP op).1 = 5) ∨ ((25 ≤ op ∧ op ≤ 27) ∧ fmN (opP op).1 = 6) ∨ ((46 ≤ op ∧ op ≤ 50) ∧ fmN (opP op).1 = 7) ∨ ((51 ≤ op ∧ op ≤ 53) ∧ fmN (opP op).1 = 8) ∨ ((54 ≤ op ∧ op ≤ 56) ∧ fmN (opP op).1 = 9))) = true := by decide +kernel
  exact of_decide_eq_true (List.all_eq_true.1 h1 op (List.mem_range.2 h))
set_option maxRecDepth 100000 in
set_option maxHeartbeats 2000000 in
theorem exec_no (p g gm pc : Nat) (x : Nat → Nat) (s : St) (m : Nat → UInt8) (op rd r1 r2 im : Nat) (d : Did) (w : World) (hH : Ht w p g gm x pc s m) (_hT : TabT w) (_hm : Mo s) (_hu : s.mode = 0 ∨ op < 49) (_hd : d.trap = false) (_hds : d.store = false) (hdw : d.word < L32) (_hr : rd < 32) (h1 : r1 < 32) (h2 : r2 < 32) (_hi : im < L32) (ho : op = 0) : Calls Tryz.prog 54 #[hP p, insV op rd r1 r2 im, trV d] w (Ans p g gm x pc s m (execF d x pc s m d.word op rd r1 r2 im) w) := by
  have hl := hH.lts
  have hans : execF d x pc s m d.word op rd r1 r2 im = trapR d x pc s m 2 d.word := by
    unfold execF
    rw [if_neg (by omega), if_neg (by omega), if_neg (by omega), if_neg (by omega), if_neg (by omega), if_neg (by omega), if_neg (by omega), if_neg (by omega), if_neg (by omega), if_neg (by omega), if_neg (by omega)]
  rw [hans]
  have kF : ∀ W, Calls Tryz.prog 72 #[.int .i64 (op : Int)] W fun e w' => e = .returned (.int .i64 (-1)) ∧ W = w' := fun W => form_no (op : Int) W (by omega)
  have kI := fun W => illegal_any d W
  have HD := Lib.hid (And.intro hl hdw)
  have HR := Lib.hid (And.intro h1 h2)
  clear hans hl _hT _hm _hu _hd _hds hdw _hr h1 h2 _hi ho
  unfold trV at kI
  unfold trV insV
  go_enter Tryz.func54, Tryz.ntmps54
  go_upto_region 1 with fail
  obtain ⟨wa, hwa, hF, hb0⟩ := three_tr w op rd r1 r2 im d
  rw [← hwa]
  clear hwa
  have HH := Lib.hid (hH.after hb0)
  have HB := Lib.hid (sh_b (p := p) (g := g) (gm := gm) hb0)
  clear hb0
  generalize hgn : w.heap.size = bI at *
  generalize hgT : bI + 1 = bT at *
  generalize hgR : bT + 1 = bR at *
  have HN := Lib.hid hgn
  clear hgn hgT hgR
  have HF := Lib.hid hF
  clear hH hF
  have ci0 : wa.cell? ⟨bI, 0, none⟩ = some (.int .i64 (op : Int)) := HF.out.i.cellTab 0 (by decide)
  go_wp2_with (first
    | (go_at_call 72; with_reducible refine (kF _).mono ?_; rintro e wz ⟨rfl, rfl⟩)
    | (refine wp_load_tabI rfl 51 _ rfl bT rfl 7 (trC d) 51 HF.out.f.t _ Tryz.underlying51 rfl infoTr ?_; simp only [Act.put, List.setIfInBounds_toArray, List.set_cons_zero, List.set_cons_succ])
    | (go_at_call 81; with_reducible refine (kI _).mono ?_; rintro e wt ⟨rfl, hbt⟩)
    | (refine wp_store_tab rfl 51 _ _ rfl bR 0 rfl 7 (trC { d with trap := true, cause := 2, tval := d.word }) rfl 7 (trC did0) 51 (HF.out.after hbt).f.r infoTr (by omega) (trC_one _) ?_; intro w9 hG9 hg9))
  rw [tab7_all] at hG9
  have hlo := HD.out.1
  have hn := HF.out.f.nR
  obtain rfl := HN.out
  exact bodyPost_ret (results_cell_row rfl _ _ _ 51 _ _ _ rfl hG9 Tryz.underlying51 rfl infoTr) rfl (Ans.trap d 2 d.word rfl (Only.fresh (HB.out.trans (sh_b hbt)) hg9 hn) ((HH.out.after hbt).far hg9 (by omega) (by omega) (by omega)) (by decide) HD.out.2)
set_option maxRecDepth 100000 in
set_option maxHeartbeats 2000000 in
theorem exec_U (p g gm pc : Nat) (x : Nat → Nat) (s : St) (m : Nat → UInt8) (op rd r1 r2 im : Nat) (d : Did) (w : World) (hH : Ht w p g gm x pc s m) (_hT : TabT w) (_hm : Mo s) (_hu : s.mode = 0 ∨ op < 49) (hd : d.trap = false) (_hds : d.store = false) (hdw : d.word < L32) (hr : rd < 32) (h1 : r1 < 32) (h2 : r2 < 32) (hi : im < L32) (ho : op = 1 ∨ op = 2) (hfm : fmN (opP op).1 = 0) : Calls Tryz.prog 54 #[hP p, insV op rd r1 r2 im, trV d] w (Ans p g gm x pc s m (execF d x pc s m d.word op rd r1 r2 im) w) := by
  have hl := hH.lts
  have hans : execF d x pc s m d.word op rd r1 r2 im = onR d x s m rd (if op = 2 then (pc + im) % L32 else im) ((pc + 4) % L32) := by
    unfold execF
    by_cases h : op = 1
    · rw [if_pos h, if_neg (by omega)]
    · rw [if_neg h, if_pos (by omega), if_pos (by omega)]
  rw [hans]
  have kF : ∀ W, Calls Tryz.prog 72 #[.int .i64 (op : Int)] W fun e w' => e = .returned (.int .i64 0) ∧ W = w' := fun W => by
    have k := form_at op W (by omega) (by omega)
    rw [hfm] at k
    exact k
  have kG := fun W (h : Ht W p g gm x pc s m) => upper_any p g gm pc x s m op rd r1 r2 im d W h hd hr h1 h2 hi
  have HD := Lib.hid (And.intro hl hdw)
  have HR := Lib.hid (And.intro h1 h2)
  generalize hR : onR d x s m rd (if op = 2 then (pc + im) % L32 else im) ((pc + 4) % L32) = R at *
  clear hR hans hl _hT _hm _hu hd _hds hdw hr h1 h2 hi ho hfm
  unfold trV at kG
  unfold trV insV
  try unfold insV at kG
  go_enter Tryz.func54, Tryz.ntmps54
  go_upto_region 1 with fail
  obtain ⟨wa, hwa, hF, hb0⟩ := three_tr w op rd r1 r2 im d
  rw [← hwa]
  clear hwa
  have HH := Lib.hid (hH.after hb0)
  have HB := Lib.hid (sh_b (p := p) (g := g) (gm := gm) hb0)
  clear hb0
  generalize hgn : w.heap.size = bI at *
  generalize hgT : bI + 1 = bT at *
  generalize hgR : bT + 1 = bR at *
  have HN := Lib.hid hgn
  clear hgn hgT hgR
  have HF := Lib.hid hF
  clear hH hF
  have ci0 : wa.cell? ⟨bI, 0, none⟩ = some (.int .i64 (op : Int)) := HF.out.i.cellTab 0 (by decide)
  go_wp2_with (first
    | (go_at_call 72; with_reducible refine (kF _).mono ?_; rintro e wz ⟨rfl, rfl⟩)
    | (refine wp_load_tabI rfl 115 _ rfl bI rfl 5 _ 115 HF.out.i _ Tryz.underlying115 rfl infoIa5 ?_; simp only [Act.put, List.setIfInBounds_toArray, List.set_cons_zero, List.set_cons_succ])
    | (refine wp_load_tabI rfl 51 _ rfl bT rfl 7 (trC d) 51 HF.out.f.t _ Tryz.underlying51 rfl infoTr ?_; simp only [Act.put, List.setIfInBounds_toArray, List.set_cons_zero, List.set_cons_succ])
    | (go_at_call 73; with_reducible refine (kG _ HH.out).mono ?_; intro e wc hA; obtain rfl := hA.ret)
    | (refine wp_store_tab rfl 51 _ _ rfl bR 0 rfl 7 (trC R.d) rfl 7 (trC did0) 51 (HF.out.sh hA.2.1 HD.out.1).f.r infoTr (by omega) (trC_one _) ?_; intro w9 hG9 hg9))
  rw [tab7_all] at hG9
  have hlo := HD.out.1
  have hn := HF.out.f.nR
  obtain rfl := HN.out
  exact bodyPost_ret (results_cell_row rfl _ _ _ 51 _ _ _ rfl hG9 Tryz.underlying51 rfl infoTr) rfl (Ans.fin hA HB.out hlo hn hg9)
set_option maxRecDepth 100000 in
set_option maxHeartbeats 2000000 in
theorem exec_J (p g gm pc : Nat) (x : Nat → Nat) (s : St) (m : Nat → UInt8) (op rd r1 r2 im : Nat) (d : Did) (w : World) (hH : Ht w p g gm x pc s m) (_hT : TabT w) (_hm : Mo s) (_hu : s.mode = 0 ∨ op < 49) (hd : d.trap = false) (_hds : d.store = false) (hdw : d.word < L32) (hr : rd < 32) (h1 : r1 < 32) (h2 : r2 < 32) (_hi : im < L32) (ho : op = 3) (hfm : fmN (opP op).1 = 1) : Calls Tryz.prog 54 #[hP p, insV op rd r1 r2 im, trV d] w (Ans p g gm x pc s m (execF d x pc s m d.word op rd r1 r2 im) w) := by
  have hl := hH.lts
  have hans : execF d x pc s m d.word op rd r1 r2 im = jumpR d x pc s m rd ((pc + im) % L32) := by
    unfold execF
    rw [if_neg (by omega), if_neg (by omega), if_pos ho]
  rw [hans]
  have htl : (pc + im) % L32 < L32 := Nat.mod_lt _ (by decide)
  have kF : ∀ W, Calls Tryz.prog 72 #[.int .i64 (op : Int)] W fun e w' => e = .returned (.int .i64 1) ∧ W = w' := fun W => by
    have k := form_at op W (by omega) (by omega)
    rw [hfm] at k
    exact k
  have kG := fun W (h : Ht W p g gm x pc s m) => jump_any p g gm pc x s m rd ((pc + im) % L32) d W h hd hr htl
  have e1 : ((pc : Int) + (im : Int)) % 4294967296 = (((pc + im) % L32 : Nat) : Int) := by unfold L32; omega
  have e1' : IntKind.u32.wrap ((pc : Int) + (im : Int)) = (((pc + im) % L32 : Nat) : Int) := by simpa [IntKind.wrap, IntKind.signed, IntKind.bits] using e1
  have h1I : (r1 : Int) < 32 := by omega
  have h2I : (r2 : Int) < 32 := by omega
  have HD := Lib.hid (And.intro hl hdw)
  have HR := Lib.hid (And.intro h1 h2)
  generalize hR : jumpR d x pc s m rd ((pc + im) % L32) = R at *
  generalize (pc + im) % L32 = tg at *
  clear hR hans hl _hT _hm _hu hd _hds hdw hr h1 h2 _hi ho hfm htl
  unfold trV at kG
  unfold trV insV
  go_enter Tryz.func54, Tryz.ntmps54
  go_upto_region 1 with fail
  obtain ⟨wa, hwa, hF, hb0⟩ := three_tr w op rd r1 r2 im d
  rw [← hwa]
  clear hwa
  have HH := Lib.hid (hH.after hb0)
  have HB := Lib.hid (sh_b (p := p) (g := g) (gm := gm) hb0)
  clear hb0
  generalize hgn : w.heap.size = bI at *
  generalize hgT : bI + 1 = bT at *
  generalize hgR : bT + 1 = bR at *
  have HN := Lib.hid hgn
  clear hgn hgT hgR
  have HF := Lib.hid hF
  clear hH hF
  have ci0 : wa.cell? ⟨bI, 0, none⟩ = some (.int .i64 (op : Int)) := HF.out.i.cellTab 0 (by decide)
  go_upto_region 6 with (go_at_call 72; with_reducible refine (kF _).mono ?_; rintro e wz ⟨rfl, rfl⟩)
  clear ci0
  refine region_quiet_tail (Below wa.heap.size wa) 11 (by kernel_rfl) (by kernel_rfl) (below_drewN (Below.refl _ _) 1) ?_
  simp only [List.take_succ_cons, List.take_zero, List.drop_succ_cons, List.drop_zero]
  refine WQ.out ?_
  refine WQ.lift (wpQ_move _ rfl rfl (.pointer (some ⟨p, 0, none⟩)) rfl) ?_
  simp only [Act.put, List.setIfInBounds_toArray, List.set_cons_zero, List.set_cons_succ]
  refine WQ.lift (wpQ_val rfl (.pointer (some ⟨bI, 1, none⟩)) (fun w' _ => by go_simp)) ?_
  simp only [Act.put, List.setIfInBounds_toArray, List.set_cons_zero, List.set_cons_succ]
  refine WQ.lift (wpQ_load 3 (.tmp 21) rfl rfl (.pointer (some ⟨bI, 1, none⟩)) rfl (.int .i64 (rd : Int)) (fun w' hC => by
      have hcell : w'.cell? ⟨bI, 1, none⟩ = some (.int .i64 (rd : Int)) := (HF.out.after hC).i.cellTab 1 (by decide)
      go_simp)) ?_
  simp only [Act.put, List.setIfInBounds_toArray, List.set_cons_zero, List.set_cons_succ]
  refine WQ.lift (wpQ_move _ rfl rfl (.pointer (some ⟨p, 0, none⟩)) rfl) ?_
  simp only [Act.put, List.setIfInBounds_toArray, List.set_cons_zero, List.set_cons_succ]
  refine WQ.lift (wpQ_val rfl (.pointer (some ⟨p, 0, none⟩)) (fun w' _ => by go_simp)) ?_
  simp only [Act.put, List.setIfInBounds_toArray, List.set_cons_zero, List.set_cons_succ]
  refine WQ.lift (wpQ_val rfl (.pointer (some ⟨p, 32, none⟩)) (fun w' _ => by go_simp)) ?_
  simp only [Act.put, List.setIfInBounds_toArray, List.set_cons_zero, List.set_cons_succ]
  refine WQ.lift (wpQ_load 25 (.tmp 25) rfl rfl (.pointer (some ⟨p, 32, none⟩)) rfl (.int .u32 (pc : Int)) (fun w' hC => by
      have hcell : w'.cell? ⟨p, 32, none⟩ = some (.int .u32 (pc : Int)) := (HH.out.after hC).cpc
      go_simp)) ?_
  simp only [Act.put, List.setIfInBounds_toArray, List.set_cons_zero, List.set_cons_succ]
  refine WQ.lift (wpQ_val rfl (.pointer (some ⟨bI, 4, none⟩)) (fun w' _ => by go_simp)) ?_
  simp only [Act.put, List.setIfInBounds_toArray, List.set_cons_zero, List.set_cons_succ]
  refine WQ.lift (wpQ_load 25 (.tmp 27) rfl rfl (.pointer (some ⟨bI, 4, none⟩)) rfl (.int .u32 (im : Int)) (fun w' hC => by
      have hcell : w'.cell? ⟨bI, 4, none⟩ = some (.int .u32 (im : Int)) := (HF.out.after hC).i.cellTab 4 (by decide)
      go_simp)) ?_
  simp only [Act.put, List.setIfInBounds_toArray, List.set_cons_zero, List.set_cons_succ]
  refine WQ.lift (wpQ_val rfl (.int .u32 (tg : Int)) (fun w' hC => by
      rw [← e1']
      go_simp)) ?_
  simp only [Act.put, List.setIfInBounds_toArray, List.set_cons_zero, List.set_cons_succ]
  refine WQ.lift (wpQ_has 51 (.tmp 5) rfl bT rfl rfl 51 _ (fun w' hC => (HF.out.after hC).f.t) _ Tryz.underlying51 rfl infoTr) ?_
  simp only [Act.put, List.setIfInBounds_toArray, List.set_cons_zero, List.set_cons_succ]
  refine WQ.mk (wpQuiet_nil ?_)
  rintro w1 hb1
  have HF1 := Lib.hid (HF.out.after hb1)
  have HH1 := Lib.hid (HH.out.after hb1)
  have HB1 := Lib.hid (HB.out.trans (sh_b hb1))
  clear HF HH HB hb1
  go_wp2_with (first
    | (go_at_call 74; with_reducible refine (kG _ HH1.out).mono ?_; intro e wc hA; obtain rfl := hA.ret)
    | (refine wp_store_tab rfl 51 _ _ rfl bR 0 rfl 7 (trC R.d) rfl 7 (trC did0) 51 (HF1.out.sh hA.2.1 HD.out.1).f.r infoTr (by omega) (trC_one _) ?_; intro w9 hG9 hg9))
  rw [tab7_all] at hG9
  have hlo := HD.out.1
  have hn := HF1.out.f.nR
  obtain rfl := HN.out
  exact bodyPost_ret (results_cell_row rfl _ _ _ 51 _ _ _ rfl hG9 Tryz.underlying51 rfl infoTr) rfl (Ans.fin hA HB1.out hlo hn hg9)
set_option maxRecDepth 100000 in
set_option maxHeartbeats 2000000 in
theorem exec_B (p g gm pc : Nat) (x : Nat → Nat) (s : St) (m : Nat → UInt8) (op rd r1 r2 im : Nat) (d : Did) (w : World) (hH : Ht w p g gm x pc s m) (_hT : TabT w) (_hm : Mo s) (_hu : s.mode = 0 ∨ op < 49) (hd : d.trap = false) (_hds : d.store = false) (hdw : d.word < L32) (hr : rd < 32) (h1 : r1 < 32) (h2 : r2 < 32) (hi : im < L32) (ho : 5 ≤ op ∧ op ≤ 10) (hfm : fmN (opP op).1 = 3) : Calls Tryz.prog 54 #[hP p, insV op rd r1 r2 im, trV d] w (Ans p g gm x pc s m (execF d x pc s m d.word op rd r1 r2 im) w) := by
  have hl := hH.lts
  have hans : execF d x pc s m d.word op rd r1 r2 im = (if (goesN (op : Int) (x r1) (x r2)).1 = true then jumpR d x pc s m 0 ((pc + im) % L32) else onR d x s m 0 0 ((pc + 4) % L32)) := by
    unfold execF
    rw [if_neg (by omega), if_neg (by omega), if_neg (by omega), if_neg (by omega), if_pos (by omega)]
  rw [hans]
  have kF : ∀ W, Calls Tryz.prog 72 #[.int .i64 (op : Int)] W fun e w' => e = .returned (.int .i64 3) ∧ W = w' := fun W => by
    have k := form_at op W (by omega) (by omega)
    rw [hfm] at k
    exact k
  have kG := fun W (h : Ht W p g gm x pc s m) => branch_any p g gm pc x s m op rd r1 r2 im d W h hd hr h1 h2 hi
  have HD := Lib.hid (And.intro hl hdw)
  have HR := Lib.hid (And.intro h1 h2)
  generalize hR : (if (goesN (op : Int) (x r1) (x r2)).1 = true then jumpR d x pc s m 0 ((pc + im) % L32) else onR d x s m 0 0 ((pc + 4) % L32)) = R at *
  clear hR hans hl _hT _hm _hu hd _hds hdw hr h1 h2 hi ho hfm
  unfold trV at kG
  unfold trV insV
  try unfold insV at kG
  go_enter Tryz.func54, Tryz.ntmps54
  go_upto_region 1 with fail
  obtain ⟨wa, hwa, hF, hb0⟩ := three_tr w op rd r1 r2 im d
  rw [← hwa]
  clear hwa
  have HH := Lib.hid (hH.after hb0)
  have HB := Lib.hid (sh_b (p := p) (g := g) (gm := gm) hb0)
  clear hb0
  generalize hgn : w.heap.size = bI at *
  generalize hgT : bI + 1 = bT at *
  generalize hgR : bT + 1 = bR at *
  have HN := Lib.hid hgn
  clear hgn hgT hgR
  have HF := Lib.hid hF
  clear hH hF
  have ci0 : wa.cell? ⟨bI, 0, none⟩ = some (.int .i64 (op : Int)) := HF.out.i.cellTab 0 (by decide)
  go_wp2_with (first
    | (go_at_call 72; with_reducible refine (kF _).mono ?_; rintro e wz ⟨rfl, rfl⟩)
    | (refine wp_load_tabI rfl 115 _ rfl bI rfl 5 _ 115 HF.out.i _ Tryz.underlying115 rfl infoIa5 ?_; simp only [Act.put, List.setIfInBounds_toArray, List.set_cons_zero, List.set_cons_succ])
    | (refine wp_load_tabI rfl 51 _ rfl bT rfl 7 (trC d) 51 HF.out.f.t _ Tryz.underlying51 rfl infoTr ?_; simp only [Act.put, List.setIfInBounds_toArray, List.set_cons_zero, List.set_cons_succ])
    | (go_at_call 75; with_reducible refine (kG _ HH.out).mono ?_; intro e wc hA; obtain rfl := hA.ret)
    | (refine wp_store_tab rfl 51 _ _ rfl bR 0 rfl 7 (trC R.d) rfl 7 (trC did0) 51 (HF.out.sh hA.2.1 HD.out.1).f.r infoTr (by omega) (trC_one _) ?_; intro w9 hG9 hg9))
  rw [tab7_all] at hG9
  have hlo := HD.out.1
  have hn := HF.out.f.nR
  obtain rfl := HN.out
  exact bodyPost_ret (results_cell_row rfl _ _ _ 51 _ _ _ rfl hG9 Tryz.underlying51 rfl infoTr) rfl (Ans.fin hA HB.out hlo hn hg9)
set_option maxRecDepth 100000 in
set_option maxHeartbeats 2000000 in
theorem exec_I (p g gm pc : Nat) (x : Nat → Nat) (s : St) (m : Nat → UInt8) (op rd r1 r2 im : Nat) (d : Did) (w : World) (hH : Ht w p g gm x pc s m) (hT : TabT w) (hm : Mo s) (_hu : s.mode = 0 ∨ op < 49) (hd : d.trap = false) (hds : d.store = false) (hdw : d.word < L32) (hr : rd < 32) (h1 : r1 < 32) (h2 : r2 < 32) (hi : im < L32) (ho : op = 4 ∨ (11 ≤ op ∧ op ≤ 15) ∨ (19 ≤ op ∧ op ≤ 24)) (hfm : fmN (opP op).1 = 2) : Calls Tryz.prog 54 #[hP p, insV op rd r1 r2 im, trV d] w (Ans p g gm x pc s m (execF d x pc s m d.word op rd r1 r2 im) w) := by
  have hl := hH.lts
  have kF : ∀ W, Calls Tryz.prog 72 #[.int .i64 (op : Int)] W fun e w' => e = .returned (.int .i64 2) ∧ W = w' := fun W => by
    have k := form_at op W (by omega) (by omega)
    rw [hfm] at k
    exact k
  have kG := fun W (h : Ht W p g gm x pc s m) (hT : TabT W) => short_any p g gm pc x s m op rd r1 r2 im d W h hT hm hd hds hr h1 h2 hi ho
  have HD := Lib.hid (And.intro hl hdw)
  have HR := Lib.hid (And.intro h1 h2)
  have HT := Lib.hid hT
  generalize hR : execF d x pc s m d.word op rd r1 r2 im = R at *
  clear hR hl hT hm _hu hd hds hdw hr h1 h2 hi ho hfm
  unfold trV at kG
  unfold trV insV
  try unfold insV at kG
  go_enter Tryz.func54, Tryz.ntmps54
  go_upto_region 1 with fail
  obtain ⟨wa, hwa, hF, hb0⟩ := three_tr w op rd r1 r2 im d
  rw [← hwa]
  clear hwa
  have HH := Lib.hid (hH.after hb0)
  have HT2 := Lib.hid (HT.out.below hb0)
  have HB := Lib.hid (sh_b (p := p) (g := g) (gm := gm) hb0)
  clear hb0
  generalize hgn : w.heap.size = bI at *
  generalize hgT : bI + 1 = bT at *
  generalize hgR : bT + 1 = bR at *
  have HN := Lib.hid hgn
  clear hgn hgT hgR
  have HF := Lib.hid hF
  clear hH hF
  have ci0 : wa.cell? ⟨bI, 0, none⟩ = some (.int .i64 (op : Int)) := HF.out.i.cellTab 0 (by decide)
  go_wp2_with (first
    | (go_at_call 72; with_reducible refine (kF _).mono ?_; rintro e wz ⟨rfl, rfl⟩)
    | (refine wp_load_tabI rfl 115 _ rfl bI rfl 5 _ 115 HF.out.i _ Tryz.underlying115 rfl infoIa5 ?_; simp only [Act.put, List.setIfInBounds_toArray, List.set_cons_zero, List.set_cons_succ])
    | (refine wp_load_tabI rfl 51 _ rfl bT rfl 7 (trC d) 51 HF.out.f.t _ Tryz.underlying51 rfl infoTr ?_; simp only [Act.put, List.setIfInBounds_toArray, List.set_cons_zero, List.set_cons_succ])
    | (go_at_call 76; with_reducible refine (kG _ HH.out HT2.out).mono ?_; intro e wc hA; obtain rfl := hA.ret)
    | (refine wp_store_tab rfl 51 _ _ rfl bR 0 rfl 7 (trC R.d) rfl 7 (trC did0) 51 (HF.out.sh hA.2.1 HD.out.1).f.r infoTr (by omega) (trC_one _) ?_; intro w9 hG9 hg9))
  rw [tab7_all] at hG9
  have hlo := HD.out.1
  have hn := HF.out.f.nR
  obtain rfl := HN.out
  exact bodyPost_ret (results_cell_row rfl _ _ _ 51 _ _ _ rfl hG9 Tryz.underlying51 rfl infoTr) rfl (Ans.fin hA HB.out hlo hn hg9)
set_option maxRecDepth 100000 in
set_option maxHeartbeats 2000000 in
theorem exec_S (p g gm pc : Nat) (x : Nat → Nat) (s : St) (m : Nat → UInt8) (op rd r1 r2 im : Nat) (d : Did) (w : World) (hH : Ht w p g gm x pc s m) (hT : TabT w) (hm : Mo s) (_hu : s.mode = 0 ∨ op < 49) (hd : d.trap = false) (hds : d.store = false) (hdw : d.word < L32) (hr : rd < 32) (h1 : r1 < 32) (h2 : r2 < 32) (hi : im < L32) (ho : 16 ≤ op ∧ op ≤ 18) (hfm : fmN (opP op).1 = 4) : Calls Tryz.prog 54 #[hP p, insV op rd r1 r2 im, trV d] w (Ans p g gm x pc s m (execF d x pc s m d.word op rd r1 r2 im) w) := by
  have hl := hH.lts
  have hans : execF d x pc s m d.word op rd r1 r2 im = memR d x pc s m op rd (x r2) ((x r1 + im) % L32) (widthN (op : Int)).toNat true := by
    unfold execF
    rw [if_neg (by omega), if_neg (by omega), if_neg (by omega), if_neg (by omega), if_neg (by omega), if_pos (by omega), decide_eq_true (by omega)]
  rw [hans]
  have kF : ∀ W, Calls Tryz.prog 72 #[.int .i64 (op : Int)] W fun e w' => e = .returned (.int .i64 4) ∧ W = w' := fun W => by
    have k := form_at op W (by omega) (by omega)
    rw [hfm] at k
    exact k
  have kG := fun W (h : Ht W p g gm x pc s m) (hT : TabT W) => hstore_any p g gm pc x s m op rd r1 r2 im d W h hT hm hd hds hr h1 h2 hi ho.1 ho.2
  have HD := Lib.hid (And.intro hl hdw)
  have HR := Lib.hid (And.intro h1 h2)
  have HT := Lib.hid hT
  generalize hR : memR d x pc s m op rd (x r2) ((x r1 + im) % L32) (widthN (op : Int)).toNat true = R at *
  clear hR hans hl hT hm _hu hd hds hdw hr h1 h2 hi ho hfm
  unfold trV at kG
  unfold trV insV
  try unfold insV at kG
  go_enter Tryz.func54, Tryz.ntmps54
  go_upto_region 1 with fail
  obtain ⟨wa, hwa, hF, hb0⟩ := three_tr w op rd r1 r2 im d
  rw [← hwa]
  clear hwa
  have HH := Lib.hid (hH.after hb0)
  have HT2 := Lib.hid (HT.out.below hb0)
  have HB := Lib.hid (sh_b (p := p) (g := g) (gm := gm) hb0)
  clear hb0
  generalize hgn : w.heap.size = bI at *
  generalize hgT : bI + 1 = bT at *
  generalize hgR : bT + 1 = bR at *
  have HN := Lib.hid hgn
  clear hgn hgT hgR
  have HF := Lib.hid hF
  clear hH hF
  have ci0 : wa.cell? ⟨bI, 0, none⟩ = some (.int .i64 (op : Int)) := HF.out.i.cellTab 0 (by decide)
  go_wp2_with (first
    | (go_at_call 72; with_reducible refine (kF _).mono ?_; rintro e wz ⟨rfl, rfl⟩)
    | (refine wp_load_tabI rfl 115 _ rfl bI rfl 5 _ 115 HF.out.i _ Tryz.underlying115 rfl infoIa5 ?_; simp only [Act.put, List.setIfInBounds_toArray, List.set_cons_zero, List.set_cons_succ])
    | (refine wp_load_tabI rfl 51 _ rfl bT rfl 7 (trC d) 51 HF.out.f.t _ Tryz.underlying51 rfl infoTr ?_; simp only [Act.put, List.setIfInBounds_toArray, List.set_cons_zero, List.set_cons_succ])
    | (go_at_call 77; with_reducible refine (kG _ HH.out HT2.out).mono ?_; intro e wc hA; obtain rfl := hA.ret)
    | (refine wp_store_tab rfl 51 _ _ rfl bR 0 rfl 7 (trC R.d) rfl 7 (trC did0) 51 (HF.out.sh hA.2.1 HD.out.1).f.r infoTr (by omega) (trC_one _) ?_; intro w9 hG9 hg9))
  rw [tab7_all] at hG9
  have hlo := HD.out.1
  have hn := HF.out.f.nR
  obtain rfl := HN.out
  exact bodyPost_ret (results_cell_row rfl _ _ _ 51 _ _ _ rfl hG9 Tryz.underlying51 rfl infoTr) rfl (Ans.fin hA HB.out hlo hn hg9)
set_option maxRecDepth 100000 in
set_option maxHeartbeats 2000000 in
theorem exec_R (p g gm pc : Nat) (x : Nat → Nat) (s : St) (m : Nat → UInt8) (op rd r1 r2 im : Nat) (d : Did) (w : World) (hH : Ht w p g gm x pc s m) (_hT : TabT w) (_hm : Mo s) (_hu : s.mode = 0 ∨ op < 49) (hd : d.trap = false) (_hds : d.store = false) (hdw : d.word < L32) (hr : rd < 32) (h1 : r1 < 32) (h2 : r2 < 32) (hi : im < L32) (ho : 28 ≤ op ∧ op ≤ 45) (hfm : fmN (opP op).1 = 5) : Calls Tryz.prog 54 #[hP p, insV op rd r1 r2 im, trV d] w (Ans p g gm x pc s m (execF d x pc s m d.word op rd r1 r2 im) w) := by
  have hl := hH.lts
  have hans : execF d x pc s m d.word op rd r1 r2 im = onR d x s m rd (reckN (op : Int) (x r1) (x r2)).1 ((pc + 4) % L32) := by
    unfold execF
    rw [if_neg (by omega), if_neg (by omega), if_neg (by omega), if_neg (by omega), if_neg (by omega), if_neg (by omega), if_neg (by omega), if_pos (by omega)]
  rw [hans]
  have kF : ∀ W, Calls Tryz.prog 72 #[.int .i64 (op : Int)] W fun e w' => e = .returned (.int .i64 5) ∧ W = w' := fun W => by
    have k := form_at op W (by omega) (by omega)
    rw [hfm] at k
    exact k
  have kG := fun W (h : Ht W p g gm x pc s m) => hreckon_any p g gm pc x s m op rd r1 r2 im (x r2) d W h hd hr h1 h2 hi (hH.xl r2)
  have h1I : (r1 : Int) < 32 := by omega
  have h2I : (r2 : Int) < 32 := by omega
  have HD := Lib.hid (And.intro hl hdw)
  have HR := Lib.hid (And.intro h1 h2)
  generalize hR : onR d x s m rd (reckN (op : Int) (x r1) (x r2)).1 ((pc + 4) % L32) = R at *
  clear hR hans hl _hT _hm _hu hd _hds hdw hr h1 h2 hi ho hfm
  unfold trV at kG
  unfold trV insV
  try unfold insV at kG
  go_enter Tryz.func54, Tryz.ntmps54
  go_upto_region 1 with fail
  obtain ⟨wa, hwa, hF, hb0⟩ := three_tr w op rd r1 r2 im d
  rw [← hwa]
  clear hwa
  have HH := Lib.hid (hH.after hb0)
  have HB := Lib.hid (sh_b (p := p) (g := g) (gm := gm) hb0)
  clear hb0
  generalize hgn : w.heap.size = bI at *
  generalize hgT : bI + 1 = bT at *
  generalize hgR : bT + 1 = bR at *
  have HN := Lib.hid hgn
  clear hgn hgT hgR
  have HF := Lib.hid hF
  clear hH hF
  have ci0 : wa.cell? ⟨bI, 0, none⟩ = some (.int .i64 (op : Int)) := HF.out.i.cellTab 0 (by decide)
  go_upto_region 14 with (go_at_call 72; with_reducible refine (kF _).mono ?_; rintro e wz ⟨rfl, rfl⟩)
  clear ci0
  refine region_quiet_tail (Below wa.heap.size wa) 10 (by kernel_rfl) (by kernel_rfl) (below_drewN (Below.refl _ _) 1) ?_
  simp only [List.take_succ_cons, List.take_zero, List.drop_succ_cons, List.drop_zero]
  refine WQ.out ?_
  refine WQ.lift (wpQ_move _ rfl rfl (.pointer (some ⟨p, 0, none⟩)) rfl) ?_
  simp only [Act.put, List.setIfInBounds_toArray, List.set_cons_zero, List.set_cons_succ]
  refine WQ.lift (wpQ_has 115 (.tmp 4) rfl bI rfl rfl 115 _ (fun w' hC => (HF.out.after hC).i) _ Tryz.underlying115 rfl infoIa5) ?_
  simp only [Act.put, List.setIfInBounds_toArray, List.set_cons_zero, List.set_cons_succ]
  refine WQ.lift (wpQ_move _ rfl rfl (.pointer (some ⟨p, 0, none⟩)) rfl) ?_
  simp only [Act.put, List.setIfInBounds_toArray, List.set_cons_zero, List.set_cons_succ]
  refine WQ.lift (wpQ_val rfl (.pointer (some ⟨bI, 3, none⟩)) (fun w' _ => by go_simp)) ?_
  simp only [Act.put, List.setIfInBounds_toArray, List.set_cons_zero, List.set_cons_succ]
  refine WQ.lift (wpQ_load 3 (.tmp 55) rfl rfl (.pointer (some ⟨bI, 3, none⟩)) rfl (.int .i64 (r2 : Int)) (fun w' hC => by
      have hcell : w'.cell? ⟨bI, 3, none⟩ = some (.int .i64 (r2 : Int)) := (HF.out.after hC).i.cellTab 3 (by decide)
      go_simp)) ?_
  simp only [Act.put, List.setIfInBounds_toArray, List.set_cons_zero, List.set_cons_succ]
  refine WQ.lift (wpQ_val rfl (.pointer (some ⟨p, 0, none⟩)) (fun w' _ => by go_simp)) ?_
  simp only [Act.put, List.setIfInBounds_toArray, List.set_cons_zero, List.set_cons_succ]
  refine WQ.lift (wpQ_val rfl (.pointer (some ⟨p, 0, none⟩)) (fun w' _ => by go_simp)) ?_
  simp only [Act.put, List.setIfInBounds_toArray, List.set_cons_zero, List.set_cons_succ]
  refine WQ.lift (wpQ_val rfl (.pointer (some ⟨p, r2, none⟩)) (fun w' hC => by
      have h2 := Addr.add_mid p 0 r2
      rw [Nat.zero_add] at h2
      go_simp)) ?_
  simp only [Act.put, List.setIfInBounds_toArray, List.set_cons_zero, List.set_cons_succ]
  refine WQ.lift (wpQ_load 25 (.tmp 59) rfl rfl (.pointer (some ⟨p, r2, none⟩)) rfl (.int .u32 (x r2 : Int)) (fun w' hC => by
      have hcell : w'.cell? ⟨p, r2, none⟩ = some (.int .u32 (x r2 : Int)) := (HH.out.after hC).cx r2 HR.out.2
      go_simp)) ?_
  simp only [Act.put, List.setIfInBounds_toArray, List.set_cons_zero, List.set_cons_succ]
  refine WQ.lift (wpQ_has 51 (.tmp 5) rfl bT rfl rfl 51 _ (fun w' hC => (HF.out.after hC).f.t) _ Tryz.underlying51 rfl infoTr) ?_
  simp only [Act.put, List.setIfInBounds_toArray, List.set_cons_zero, List.set_cons_succ]
  refine WQ.mk (wpQuiet_nil ?_)
  rintro w1 hb1
  have HF1 := Lib.hid (HF.out.after hb1)
  have HH1 := Lib.hid (HH.out.after hb1)
  have HB1 := Lib.hid (HB.out.trans (sh_b hb1))
  clear HF HH HB hb1
  go_wp2_with (first
    | (go_at_call 78; with_reducible refine (kG _ HH1.out).mono ?_; intro e wc hA; obtain rfl := hA.ret)
    | (refine wp_store_tab rfl 51 _ _ rfl bR 0 rfl 7 (trC R.d) rfl 7 (trC did0) 51 (HF1.out.sh hA.2.1 HD.out.1).f.r infoTr (by omega) (trC_one _) ?_; intro w9 hG9 hg9))
  rw [tab7_all] at hG9
  have hlo := HD.out.1
  have hn := HF1.out.f.nR
  obtain rfl := HN.out
  exact bodyPost_ret (results_cell_row rfl _ _ _ 51 _ _ _ rfl hG9 Tryz.underlying51 rfl infoTr) rfl (Ans.fin hA HB1.out hlo hn hg9)
set_option maxRecDepth 100000 in
set_option maxHeartbeats 2000000 in
theorem exec_T (p g gm pc : Nat) (x : Nat → Nat) (s : St) (m : Nat → UInt8) (op rd r1 r2 im : Nat) (d : Did) (w : World) (hH : Ht w p g gm x pc s m) (_hT : TabT w) (_hm : Mo s) (_hu : s.mode = 0 ∨ op < 49) (hd : d.trap = false) (_hds : d.store = false) (hdw : d.word < L32) (hr : rd < 32) (h1 : r1 < 32) (h2 : r2 < 32) (hi : im < L32) (ho : 25 ≤ op ∧ op ≤ 27) (hfm : fmN (opP op).1 = 6) : Calls Tryz.prog 54 #[hP p, insV op rd r1 r2 im, trV d] w (Ans p g gm x pc s m (execF d x pc s m d.word op rd r1 r2 im) w) := by
  have hl := hH.lts
  have hans : execF d x pc s m d.word op rd r1 r2 im = onR d x s m rd (reckN (op : Int) (x r1) im).1 ((pc + 4) % L32) := by
    unfold execF
    rw [if_neg (by omega), if_neg (by omega), if_neg (by omega), if_neg (by omega), if_neg (by omega), if_neg (by omega), if_pos (by omega)]
  rw [hans]
  have kF : ∀ W, Calls Tryz.prog 72 #[.int .i64 (op : Int)] W fun e w' => e = .returned (.int .i64 6) ∧ W = w' := fun W => by
    have k := form_at op W (by omega) (by omega)
    rw [hfm] at k
    exact k
  have kG := fun W (h : Ht W p g gm x pc s m) => hreckon_any p g gm pc x s m op rd r1 r2 im im d W h hd hr h1 h2 hi hi
  have HD := Lib.hid (And.intro hl hdw)
  have HR := Lib.hid (And.intro h1 h2)
  generalize hR : onR d x s m rd (reckN (op : Int) (x r1) im).1 ((pc + 4) % L32) = R at *
  clear hR hans hl _hT _hm _hu hd _hds hdw hr h1 h2 hi ho hfm
  unfold trV at kG
  unfold trV insV
  try unfold insV at kG
  go_enter Tryz.func54, Tryz.ntmps54
  go_upto_region 1 with fail
  obtain ⟨wa, hwa, hF, hb0⟩ := three_tr w op rd r1 r2 im d
  rw [← hwa]
  clear hwa
  have HH := Lib.hid (hH.after hb0)
  have HB := Lib.hid (sh_b (p := p) (g := g) (gm := gm) hb0)
  clear hb0
  generalize hgn : w.heap.size = bI at *
  generalize hgT : bI + 1 = bT at *
  generalize hgR : bT + 1 = bR at *
  have HN := Lib.hid hgn
  clear hgn hgT hgR
  have HF := Lib.hid hF
  clear hH hF
  have ci0 : wa.cell? ⟨bI, 0, none⟩ = some (.int .i64 (op : Int)) := HF.out.i.cellTab 0 (by decide)
  have ci4 : wa.cell? ⟨bI, 4, none⟩ = some (.int .u32 (im : Int)) := HF.out.i.cellTab 4 (by decide)
  go_wp2_with (first
    | (go_at_call 72; with_reducible refine (kF _).mono ?_; rintro e wz ⟨rfl, rfl⟩)
    | (refine wp_load_tabI rfl 115 _ rfl bI rfl 5 _ 115 HF.out.i _ Tryz.underlying115 rfl infoIa5 ?_; simp only [Act.put, List.setIfInBounds_toArray, List.set_cons_zero, List.set_cons_succ])
    | (refine wp_load_tabI rfl 51 _ rfl bT rfl 7 (trC d) 51 HF.out.f.t _ Tryz.underlying51 rfl infoTr ?_; simp only [Act.put, List.setIfInBounds_toArray, List.set_cons_zero, List.set_cons_succ])
    | (go_at_call 78; with_reducible refine (kG _ HH.out).mono ?_; intro e wc hA; obtain rfl := hA.ret)
    | (refine wp_store_tab rfl 51 _ _ rfl bR 0 rfl 7 (trC R.d) rfl 7 (trC did0) 51 (HF.out.sh hA.2.1 HD.out.1).f.r infoTr (by omega) (trC_one _) ?_; intro w9 hG9 hg9))
  rw [tab7_all] at hG9
  have hlo := HD.out.1
  have hn := HF.out.f.nR
  obtain rfl := HN.out
  exact bodyPost_ret (results_cell_row rfl _ _ _ 51 _ _ _ rfl hG9 Tryz.underlying51 rfl infoTr) rfl (Ans.fin hA HB.out hlo hn hg9)
set_option maxRecDepth 100000 in
set_option maxHeartbeats 2000000 in
theorem exec_N (p g gm pc : Nat) (x : Nat → Nat) (s : St) (m : Nat → UInt8) (op rd r1 r2 im : Nat) (d : Did) (w : World) (hH : Ht w p g gm x pc s m) (_hT : TabT w) (_hm : Mo s) (hu : s.mode = 0 ∨ op < 49) (hd : d.trap = false) (_hds : d.store = false) (hdw : d.word < L32) (_hr : rd < 32) (h1 : r1 < 32) (h2 : r2 < 32) (_hi : im < L32) (ho : 46 ≤ op ∧ op ≤ 50) (hfm : fmN (opP op).1 = 7) : Calls Tryz.prog 54 #[hP p, insV op rd r1 r2 im, trV d] w (Ans p g gm x pc s m (execF d x pc s m d.word op rd r1 r2 im) w) := by
  have hl := hH.lts
  have kF : ∀ W, Calls Tryz.prog 72 #[.int .i64 (op : Int)] W fun e w' => e = .returned (.int .i64 7) ∧ W = w' := fun W => by
    have k := form_at op W (by omega) (by omega)
    rw [hfm] at k
    exact k
  have kG := fun W (h : Ht W p g gm x pc s m) => system_any p g gm pc x s m op rd r1 r2 im d W h hd hdw hu ho.1 ho.2
  have HD := Lib.hid (And.intro hl hdw)
  have HR := Lib.hid (And.intro h1 h2)
  generalize hR : execF d x pc s m d.word op rd r1 r2 im = R at *
  clear hR hl _hT _hm hu hd _hds hdw _hr h1 h2 _hi ho hfm
  unfold trV at kG
  unfold trV insV
  try unfold insV at kG
  go_enter Tryz.func54, Tryz.ntmps54
  go_upto_region 1 with fail
  obtain ⟨wa, hwa, hF, hb0⟩ := three_tr w op rd r1 r2 im d
  rw [← hwa]
  clear hwa
  have HH := Lib.hid (hH.after hb0)
  have HB := Lib.hid (sh_b (p := p) (g := g) (gm := gm) hb0)
  clear hb0
  generalize hgn : w.heap.size = bI at *
  generalize hgT : bI + 1 = bT at *
  generalize hgR : bT + 1 = bR at *
  have HN := Lib.hid hgn
  clear hgn hgT hgR
  have HF := Lib.hid hF
  clear hH hF
  have ci0 : wa.cell? ⟨bI, 0, none⟩ = some (.int .i64 (op : Int)) := HF.out.i.cellTab 0 (by decide)
  go_wp2_with (first
    | (go_at_call 72; with_reducible refine (kF _).mono ?_; rintro e wz ⟨rfl, rfl⟩)
    | (refine wp_load_tabI rfl 115 _ rfl bI rfl 5 _ 115 HF.out.i _ Tryz.underlying115 rfl infoIa5 ?_; simp only [Act.put, List.setIfInBounds_toArray, List.set_cons_zero, List.set_cons_succ])
    | (refine wp_load_tabI rfl 51 _ rfl bT rfl 7 (trC d) 51 HF.out.f.t _ Tryz.underlying51 rfl infoTr ?_; simp only [Act.put, List.setIfInBounds_toArray, List.set_cons_zero, List.set_cons_succ])
    | (go_at_call 79; with_reducible refine (kG _ HH.out).mono ?_; intro e wc hA; obtain rfl := hA.ret)
    | (refine wp_store_tab rfl 51 _ _ rfl bR 0 rfl 7 (trC R.d) rfl 7 (trC did0) 51 (HF.out.sh hA.2.1 HD.out.1).f.r infoTr (by omega) (trC_one _) ?_; intro w9 hG9 hg9))
  rw [tab7_all] at hG9
  have hlo := HD.out.1
  have hn := HF.out.f.nR
  obtain rfl := HN.out
  exact bodyPost_ret (results_cell_row rfl _ _ _ 51 _ _ _ rfl hG9 Tryz.underlying51 rfl infoTr) rfl (Ans.fin hA HB.out hlo hn hg9)
set_option maxRecDepth 100000 in
set_option maxHeartbeats 2000000 in
theorem exec_C (p g gm pc : Nat) (x : Nat → Nat) (s : St) (m : Nat → UInt8) (op rd r1 r2 im : Nat) (d : Did) (w : World) (hH : Ht w p g gm x pc s m) (_hT : TabT w) (_hm : Mo s) (hu : s.mode = 0 ∨ op < 49) (_hd : d.trap = false) (_hds : d.store = false) (hdw : d.word < L32) (_hr : rd < 32) (h1 : r1 < 32) (h2 : r2 < 32) (hi : im < L32) (ho : 51 ≤ op ∧ op ≤ 53) (hfm : fmN (opP op).1 = 8) : Calls Tryz.prog 54 #[hP p, insV op rd r1 r2 im, trV d] w (Ans p g gm x pc s m (execF d x pc s m d.word op rd r1 r2 im) w) := by
  have hl := hH.lts
  have hans : execF d x pc s m d.word op rd r1 r2 im = trapR d x pc s m 2 d.word := by
    unfold execF
    rw [if_neg (by omega), if_neg (by omega), if_neg (by omega), if_neg (by omega), if_neg (by omega), if_neg (by omega), if_neg (by omega), if_neg (by omega), if_neg (by omega), if_neg (by omega), if_neg (by omega)]
  rw [hans]
  have kF : ∀ W, Calls Tryz.prog 72 #[.int .i64 (op : Int)] W fun e w' => e = .returned (.int .i64 8) ∧ W = w' := fun W => by
    have k := form_at op W (by omega) (by omega)
    rw [hfm] at k
    exact k
  have kG := fun W (h : Ht W p g gm x pc s m) => control_any p g gm pc x s m op rd r1 r2 im (x r1) d W h (by omega) hi hdw
  have h1I : (r1 : Int) < 32 := by omega
  have h2I : (r2 : Int) < 32 := by omega
  have HD := Lib.hid (And.intro hl hdw)
  have HR := Lib.hid (And.intro h1 h2)
  generalize hR : trapR d x pc s m 2 d.word = R at *
  clear hR hans hl _hT _hm hu _hd _hds hdw _hr h1 h2 hi ho hfm
  unfold trV at kG
  unfold trV insV
  try unfold insV at kG
  go_enter Tryz.func54, Tryz.ntmps54
  go_upto_region 1 with fail
  obtain ⟨wa, hwa, hF, hb0⟩ := three_tr w op rd r1 r2 im d
  rw [← hwa]
  clear hwa
  have HH := Lib.hid (hH.after hb0)
  have HB := Lib.hid (sh_b (p := p) (g := g) (gm := gm) hb0)
  clear hb0
  generalize hgn : w.heap.size = bI at *
  generalize hgT : bI + 1 = bT at *
  generalize hgR : bT + 1 = bR at *
  have HN := Lib.hid hgn
  clear hgn hgT hgR
  have HF := Lib.hid hF
  clear hH hF
  have ci0 : wa.cell? ⟨bI, 0, none⟩ = some (.int .i64 (op : Int)) := HF.out.i.cellTab 0 (by decide)
  go_upto_region 20 with (go_at_call 72; with_reducible refine (kF _).mono ?_; rintro e wz ⟨rfl, rfl⟩)
  clear ci0
  refine region_quiet_tail (Below wa.heap.size wa) 10 (by kernel_rfl) (by kernel_rfl) (below_drewN (Below.refl _ _) 1) ?_
  simp only [List.take_succ_cons, List.take_zero, List.drop_succ_cons, List.drop_zero]
  refine WQ.out ?_
  refine WQ.lift (wpQ_move _ rfl rfl (.pointer (some ⟨p, 0, none⟩)) rfl) ?_
  simp only [Act.put, List.setIfInBounds_toArray, List.set_cons_zero, List.set_cons_succ]
  refine WQ.lift (wpQ_has 115 (.tmp 4) rfl bI rfl rfl 115 _ (fun w' hC => (HF.out.after hC).i) _ Tryz.underlying115 rfl infoIa5) ?_
  simp only [Act.put, List.setIfInBounds_toArray, List.set_cons_zero, List.set_cons_succ]
  refine WQ.lift (wpQ_move _ rfl rfl (.pointer (some ⟨p, 0, none⟩)) rfl) ?_
  simp only [Act.put, List.setIfInBounds_toArray, List.set_cons_zero, List.set_cons_succ]
  refine WQ.lift (wpQ_val rfl (.pointer (some ⟨bI, 2, none⟩)) (fun w' _ => by go_simp)) ?_
  simp only [Act.put, List.setIfInBounds_toArray, List.set_cons_zero, List.set_cons_succ]
  refine WQ.lift (wpQ_load 3 (.tmp 82) rfl rfl (.pointer (some ⟨bI, 2, none⟩)) rfl (.int .i64 (r1 : Int)) (fun w' hC => by
      have hcell : w'.cell? ⟨bI, 2, none⟩ = some (.int .i64 (r1 : Int)) := (HF.out.after hC).i.cellTab 2 (by decide)
      go_simp)) ?_
  simp only [Act.put, List.setIfInBounds_toArray, List.set_cons_zero, List.set_cons_succ]
  refine WQ.lift (wpQ_val rfl (.pointer (some ⟨p, 0, none⟩)) (fun w' _ => by go_simp)) ?_
  simp only [Act.put, List.setIfInBounds_toArray, List.set_cons_zero, List.set_cons_succ]
  refine WQ.lift (wpQ_val rfl (.pointer (some ⟨p, 0, none⟩)) (fun w' _ => by go_simp)) ?_
  simp only [Act.put, List.setIfInBounds_toArray, List.set_cons_zero, List.set_cons_succ]
  refine WQ.lift (wpQ_val rfl (.pointer (some ⟨p, r1, none⟩)) (fun w' hC => by
      have h2 := Addr.add_mid p 0 r1
      rw [Nat.zero_add] at h2
      go_simp)) ?_
  simp only [Act.put, List.setIfInBounds_toArray, List.set_cons_zero, List.set_cons_succ]
  refine WQ.lift (wpQ_load 25 (.tmp 86) rfl rfl (.pointer (some ⟨p, r1, none⟩)) rfl (.int .u32 (x r1 : Int)) (fun w' hC => by
      have hcell : w'.cell? ⟨p, r1, none⟩ = some (.int .u32 (x r1 : Int)) := (HH.out.after hC).cx r1 HR.out.1
      go_simp)) ?_
  simp only [Act.put, List.setIfInBounds_toArray, List.set_cons_zero, List.set_cons_succ]
  refine WQ.lift (wpQ_has 51 (.tmp 5) rfl bT rfl rfl 51 _ (fun w' hC => (HF.out.after hC).f.t) _ Tryz.underlying51 rfl infoTr) ?_
  simp only [Act.put, List.setIfInBounds_toArray, List.set_cons_zero, List.set_cons_succ]
  refine WQ.mk (wpQuiet_nil ?_)
  rintro w1 hb1
  have HF1 := Lib.hid (HF.out.after hb1)
  have HH1 := Lib.hid (HH.out.after hb1)
  have HB1 := Lib.hid (HB.out.trans (sh_b hb1))
  clear HF HH HB hb1
  go_wp2_with (first
    | (go_at_call 80; with_reducible refine (kG _ HH1.out).mono ?_; intro e wc hA; obtain rfl := hA.ret)
    | (refine wp_store_tab rfl 51 _ _ rfl bR 0 rfl 7 (trC R.d) rfl 7 (trC did0) 51 (HF1.out.sh hA.2.1 HD.out.1).f.r infoTr (by omega) (trC_one _) ?_; intro w9 hG9 hg9))
  rw [tab7_all] at hG9
  have hlo := HD.out.1
  have hn := HF1.out.f.nR
  obtain rfl := HN.out
  exact bodyPost_ret (results_cell_row rfl _ _ _ 51 _ _ _ rfl hG9 Tryz.underlying51 rfl infoTr) rfl (Ans.fin hA HB1.out hlo hn hg9)
set_option maxRecDepth 100000 in
set_option maxHeartbeats 2000000 in
theorem exec_Z (p g gm pc : Nat) (x : Nat → Nat) (s : St) (m : Nat → UInt8) (op rd r1 r2 im : Nat) (d : Did) (w : World) (hH : Ht w p g gm x pc s m) (_hT : TabT w) (_hm : Mo s) (hu : s.mode = 0 ∨ op < 49) (_hd : d.trap = false) (_hds : d.store = false) (hdw : d.word < L32) (_hr : rd < 32) (h1 : r1 < 32) (h2 : r2 < 32) (hi : im < L32) (ho : 54 ≤ op ∧ op ≤ 56) (hfm : fmN (opP op).1 = 9) : Calls Tryz.prog 54 #[hP p, insV op rd r1 r2 im, trV d] w (Ans p g gm x pc s m (execF d x pc s m d.word op rd r1 r2 im) w) := by
  have hl := hH.lts
  have hans : execF d x pc s m d.word op rd r1 r2 im = trapR d x pc s m 2 d.word := by
    unfold execF
    rw [if_neg (by omega), if_neg (by omega), if_neg (by omega), if_neg (by omega), if_neg (by omega), if_neg (by omega), if_neg (by omega), if_neg (by omega), if_neg (by omega), if_neg (by omega), if_neg (by omega)]
  rw [hans]
  have kF : ∀ W, Calls Tryz.prog 72 #[.int .i64 (op : Int)] W fun e w' => e = .returned (.int .i64 9) ∧ W = w' := fun W => by
    have k := form_at op W (by omega) (by omega)
    rw [hfm] at k
    exact k
  have kG := fun W (h : Ht W p g gm x pc s m) => control_any p g gm pc x s m op rd r1 r2 im r1 d W h (by omega) hi hdw
  have e32 : (r1 : Int) % 4294967296 = (r1 : Int) := by omega
  have HD := Lib.hid (And.intro hl hdw)
  have HR := Lib.hid (And.intro h1 h2)
  generalize hR : trapR d x pc s m 2 d.word = R at *
  clear hR hans hl _hT _hm hu _hd _hds hdw _hr h1 h2 hi ho hfm
  unfold trV at kG
  unfold trV insV
  try unfold insV at kG
  go_enter Tryz.func54, Tryz.ntmps54
  go_upto_region 1 with fail
  obtain ⟨wa, hwa, hF, hb0⟩ := three_tr w op rd r1 r2 im d
  rw [← hwa]
  clear hwa
  have HH := Lib.hid (hH.after hb0)
  have HB := Lib.hid (sh_b (p := p) (g := g) (gm := gm) hb0)
  clear hb0
  generalize hgn : w.heap.size = bI at *
  generalize hgT : bI + 1 = bT at *
  generalize hgR : bT + 1 = bR at *
  have HN := Lib.hid hgn
  clear hgn hgT hgR
  have HF := Lib.hid hF
  clear hH hF
  have ci0 : wa.cell? ⟨bI, 0, none⟩ = some (.int .i64 (op : Int)) := HF.out.i.cellTab 0 (by decide)
  have ci2 : wa.cell? ⟨bI, 2, none⟩ = some (.int .i64 (r1 : Int)) := HF.out.i.cellTab 2 (by decide)
  go_wp2_with (first
    | (go_at_call 72; with_reducible refine (kF _).mono ?_; rintro e wz ⟨rfl, rfl⟩)
    | (refine wp_load_tabI rfl 115 _ rfl bI rfl 5 _ 115 HF.out.i _ Tryz.underlying115 rfl infoIa5 ?_; simp only [Act.put, List.setIfInBounds_toArray, List.set_cons_zero, List.set_cons_succ])
    | (refine wp_load_tabI rfl 51 _ rfl bT rfl 7 (trC d) 51 HF.out.f.t _ Tryz.underlying51 rfl infoTr ?_; simp only [Act.put, List.setIfInBounds_toArray, List.set_cons_zero, List.set_cons_succ])
    | (go_at_call 80; with_reducible refine (kG _ HH.out).mono ?_; intro e wc hA; obtain rfl := hA.ret)
    | (refine wp_store_tab rfl 51 _ _ rfl bR 0 rfl 7 (trC R.d) rfl 7 (trC did0) 51 (HF.out.sh hA.2.1 HD.out.1).f.r infoTr (by omega) (trC_one _) ?_; intro w9 hG9 hg9))
  rw [tab7_all] at hG9
  have hlo := HD.out.1
  have hn := HF.out.f.nR
  obtain rfl := HN.out
  exact bodyPost_ret (results_cell_row rfl _ _ _ 51 _ _ _ rfl hG9 Tryz.underlying51 rfl infoTr) rfl (Ans.fin hA HB.out hlo hn hg9)
theorem execute_any (p g gm pc : Nat) (x : Nat → Nat) (s : St) (m : Nat → UInt8) (op rd r1 r2 im : Nat) (d : Did) (w : World) (hH : Ht w p g gm x pc s m) (hT : TabT w) (hm : Mo s) (hu : s.mode = 0 ∨ op < 49) (hd : d.trap = false) (hds : d.store = false) (hdw : d.word < L32) (hr : rd < 32) (h1 : r1 < 32) (h2 : r2 < 32) (hi : im < L32) (hop : op < 57) : Calls Tryz.prog 54 #[hP p, insV op rd r1 r2 im, trV d] w (Ans p g gm x pc s m (execF d x pc s m d.word op rd r1 r2 im) w) := by
  rcases form_way op hop with h | h | h | h | h | h | h | h | h | h | h
  · exact exec_no p g gm pc x s m op rd r1 r2 im d w hH hT hm hu hd hds hdw hr h1 h2 hi h
  · exact exec_U p g gm pc x s m op rd r1 r2 im d w hH hT hm hu hd hds hdw hr h1 h2 hi h.1 h.2
  · exact exec_J p g gm pc x s m op rd r1 r2 im d w hH hT hm hu hd hds hdw hr h1 h2 hi h.1 h.2
  · exact exec_B p g gm pc x s m op rd r1 r2 im d w hH hT hm hu hd hds hdw hr h1 h2 hi h.1 h.2
  · exact exec_I p g gm pc x s m op rd r1 r2 im d w hH hT hm hu hd hds hdw hr h1 h2 hi h.1 h.2
  · exact exec_S p g gm pc x s m op rd r1 r2 im d w hH hT hm hu hd hds hdw hr h1 h2 hi h.1 h.2
  · exact exec_R p g gm pc x s m op rd r1 r2 im d w hH hT hm hu hd hds hdw hr h1 h2 hi h.1 h.2
  · exact exec_T p g gm pc x s m op rd r1 r2 im d w hH hT hm hu hd hds hdw hr h1 h2 hi h.1 h.2
  · exact exec_N p g gm pc x s m op rd r1 r2 im d w hH hT hm hu hd hds hdw hr h1 h2 hi h.1 h.2
  · exact exec_C p g gm pc x s m op rd r1 r2 im d w hH hT hm hu hd hds hdw hr h1 h2 hi h.1 h.2
  · exact exec_Z p g gm pc x s m op rd r1 r2 im d w hH hT hm hu hd hds hdw hr h1 h2 hi h.1 h.2
end Go.Proofs.YtgpofoggfifnjaaGreatDoor.Ha
