/-
Layer 16: the landed hart's reckon, upper, branch.
Layer 16: the landed hart's may.
-/
import Derived.Test.YtgpofoggfifnjaaGreatDoorJBj
namespace Go.Proofs.YtgpofoggfifnjaaGreatDoor.Ha
open Go Go.RowKit
open Go.Proofs.YtgpofoggfifnjaaGreatDoor (RamP stM ldV stB inR mP erI two_new has_to wp_load_tabI below_fin insA infoIa5 opOf opP bitsN immU rdB r1B r2B Fm fmN TabW has_any has_nil mload_any store_any adecode_any form_at form_no)
open Go.Proofs.YtgpofoggfifnjaaGreatDoor.Cs (St IsF Only S1 hP upd upd_other dueC trapC tickC readC cdue_any ctrap_any ctick_any cread_any cnew_any mayM_any)
open Go.Proofs.YtgpofoggfifnjaaGreatDoor.Pm (TabT)
open Go.Proofs.YtgpofoggfifnjaaGreatDoor.Al (widthN widenN goesN reckN reckon_is goes_is width_is widen_is reckN_lt)

set_option maxRecDepth 100000 in
set_option maxHeartbeats 2000000 in
theorem hreckon_any (p g gm pc : Nat) (x : Nat → Nat) (s : St) (m : Nat → UInt8) (op rd r1 r2 im b : Nat) (d : Did) (w : World) (hH : Ht w p g gm x pc s m) (hd : d.trap = false) (hr : rd < 32) (h1 : r1 < 32) (h2 : r2 < 32) (_hi : im < L32) (hb : b < L32) : Calls Tryz.prog 78 #[hP p, insV op rd r1 r2 im, .int .u32 (b : Int), trV d] w (Ans p g gm x pc s m (onR d x s m rd (reckN (op : Int) (x r1) b).1 ((pc + 4) % L32)) w) := by
  have hl := hH.lts
  have hx1 := hH.xl r1
  have kA := fun W => Al.alu_ok.reckon (op : Int) (x r1) b W hx1 hb
  have kF := fun W (h : Ht W p g gm x pc s m) => finish_any p g gm pc x s m rd (reckN (op : Int) (x r1) b).1 d W h hd hr (reckN_lt _ _ _ hx1 hb)
  have HD := Lib.hid hl
  have HR := Lib.hid (And.intro h1 h2)
  have h1I : (r1 : Int) < 32 := by omega
  generalize hR : onR d x s m rd (reckN (op : Int) (x r1) b).1 ((pc + 4) % L32) = R at *
  generalize (reckN (op : Int) (x r1) b).1 = y at *
  generalize (reckN (op : Int) (x r1) b).2 = yb at *
  clear hR hl hx1 hd hr _hi hb h1 h2
  unfold trV at kF
  unfold trV insV
  go_enter Tryz.func78, Tryz.ntmps78
  go_upto_region 1 with fail
  obtain ⟨wa, hwa, hF, hb0⟩ := three_tr w op rd r1 r2 im d
  rw [← hwa]
  clear hwa
  have HH := Lib.hid (hH.after hb0)
  have HB := Lib.hid (sh_b (p := p) (g := g) (gm := gm) hb0)
  clear hb0
  generalize hgn : w.heap.size = bI at *
  generalize hgT : bI + 1 = bT at *
  generalize hgR : bT + 1 = bR at *
  have HN := Lib.hid hgn
  clear hgn hgT hgR
  have HF := Lib.hid hF
  clear hH hF
  refine region_quiet_all (Below wa.heap.size wa) (by kernel_rfl) (by kernel_rfl) (below_drewN (Below.refl _ _) 1) ?_
  refine WQ.out ?_
  refine WQ.lift (wpQ_val rfl (.pointer (some ⟨bI, 0, none⟩)) (fun w' _ => by go_simp)) ?_
  simp only [Act.put, List.setIfInBounds_toArray, List.set_cons_zero, List.set_cons_succ]
  refine WQ.lift (wpQ_load 3 (.tmp 12) rfl rfl (.pointer (some ⟨bI, 0, none⟩)) rfl (.int .i64 (op : Int)) (fun w' hC => by
      have hcell : w'.cell? ⟨bI, 0, none⟩ = some (.int .i64 (op : Int)) := (HF.out.after hC).i.cellTab 0 (by decide)
      go_simp)) ?_
  simp only [Act.put, List.setIfInBounds_toArray, List.set_cons_zero, List.set_cons_succ]
  refine WQ.lift (wpQ_move _ rfl rfl (.pointer (some ⟨p, 0, none⟩)) rfl) ?_
  simp only [Act.put, List.setIfInBounds_toArray, List.set_cons_zero, List.set_cons_succ]
  refine WQ.lift (wpQ_val rfl (.pointer (some ⟨bI, 2, none⟩)) (fun w' _ => by go_simp)) ?_
  simp only [Act.put, List.setIfInBounds_toArray, List.set_cons_zero, List.set_cons_succ]
  refine WQ.lift (wpQ_load 3 (.tmp 15) rfl rfl (.pointer (some ⟨bI, 2, none⟩)) rfl (.int .i64 (r1 : Int)) (fun w' hC => by
      have hcell : w'.cell? ⟨bI, 2, none⟩ = some (.int .i64 (r1 : Int)) := (HF.out.after hC).i.cellTab 2 (by decide)
      go_simp)) ?_
  simp only [Act.put, List.setIfInBounds_toArray, List.set_cons_zero, List.set_cons_succ]
  refine WQ.lift (wpQ_val rfl (.pointer (some ⟨p, 0, none⟩)) (fun w' _ => by go_simp)) ?_
  simp only [Act.put, List.setIfInBounds_toArray, List.set_cons_zero, List.set_cons_succ]
  refine WQ.lift (wpQ_val rfl (.pointer (some ⟨p, 0, none⟩)) (fun w' _ => by go_simp)) ?_
  simp only [Act.put, List.setIfInBounds_toArray, List.set_cons_zero, List.set_cons_succ]
  refine WQ.lift (wpQ_val rfl (.pointer (some ⟨p, r1, none⟩)) (fun w' hC => by
      have h2 := Addr.add_mid p 0 r1
      rw [Nat.zero_add] at h2
      go_simp)) ?_
  simp only [Act.put, List.setIfInBounds_toArray, List.set_cons_zero, List.set_cons_succ]
  refine WQ.lift (wpQ_load 25 (.tmp 19) rfl rfl (.pointer (some ⟨p, r1, none⟩)) rfl (.int .u32 (x r1 : Int)) (fun w' hC => by
      have hcell : w'.cell? ⟨p, r1, none⟩ = some (.int .u32 (x r1 : Int)) := (HH.out.after hC).cx r1 HR.out.1
      go_simp)) ?_
  simp only [Act.put, List.setIfInBounds_toArray, List.set_cons_zero, List.set_cons_succ]
  refine WQ.lift (wpQ_move _ rfl rfl (.int .u32 (b : Int)) rfl) ?_
  simp only [Act.put, List.setIfInBounds_toArray, List.set_cons_zero, List.set_cons_succ]
  refine WQ.lift (wpQ_fn 93 _ _ rfl rfl #[.int .i64 (op : Int), .int .u32 (x r1 : Int), .int .u32 (b : Int)] rfl (fun _ => by go_simp) (.tuple #[.int .u32 (y : Int), .bool yb]) (fun w' hC => (kA w').mono fun e w'' ⟨he, hb⟩ => ⟨he, below_class hC hb⟩)) ?_
  simp only [Act.put, List.setIfInBounds_toArray, List.set_cons_zero, List.set_cons_succ]
  refine WQ.lift (wpQ_move _ rfl rfl (.tuple #[.int .u32 (y : Int), .bool yb]) rfl) ?_
  simp only [Act.put, List.setIfInBounds_toArray, List.set_cons_zero, List.set_cons_succ]
  refine WQ.lift (wpQ_val rfl (.int .u32 (y : Int)) (fun w' _ => by go_simp)) ?_
  simp only [Act.put, List.setIfInBounds_toArray, List.set_cons_zero, List.set_cons_succ]
  refine WQ.lift (wpQ_val rfl (.bool yb) (fun w' _ => by go_simp)) ?_
  simp only [Act.put, List.setIfInBounds_toArray, List.set_cons_zero, List.set_cons_succ]
  refine WQ.lift (wpQ_assign _ rfl rfl (.int .u32 (y : Int)) rfl) ?_
  simp only [Act.put, List.setIfInBounds_toArray, List.set_cons_zero, List.set_cons_succ]
  refine WQ.lift (wpQ_assign _ rfl rfl (.bool yb) rfl) ?_
  simp only [Act.put, List.setIfInBounds_toArray, List.set_cons_zero, List.set_cons_succ]
  refine WQ.mk (wpQuiet_nil ?_)
  rintro w1 hb1
  have HF1 := Lib.hid (HF.out.after hb1)
  have HH1 := Lib.hid (HH.out.after hb1)
  have HB1 := Lib.hid (HB.out.trans (sh_b hb1))
  clear HF HH HB hb1
  have ci1 : w1.cell? ⟨bI, 1, none⟩ = some (.int .i64 (rd : Int)) := HF1.out.i.cellTab 1 (by decide)
  go_wp2_with (first
    | (refine wp_load_tabI rfl 51 _ rfl bT rfl 7 (trC d) 51 HF1.out.f.t _ Tryz.underlying51 rfl infoTr ?_; simp only [Act.put, List.setIfInBounds_toArray, List.set_cons_zero, List.set_cons_succ])
    | (go_at_call 87; with_reducible refine (kF _ HH1.out).mono ?_; intro e wc hA; obtain rfl := hA.ret)
    | (refine wp_store_tab rfl 51 _ _ rfl bR 0 rfl 7 (trC R.d) rfl 7 (trC did0) 51 (HF1.out.sh hA.2.1 HD.out).f.r infoTr (by omega) (trC_one _) ?_; intro w9 hG9 hg9))
  rw [tab7_all] at hG9
  have hlo := HD.out
  have hn := HF1.out.f.nR
  obtain rfl := HN.out
  exact bodyPost_ret (results_cell_row rfl _ _ _ 51 _ _ _ rfl hG9 Tryz.underlying51 rfl infoTr) rfl (Ans.fin hA HB1.out hlo hn hg9)
set_option maxRecDepth 100000 in
set_option maxHeartbeats 2000000 in
theorem upper_any (p g gm pc : Nat) (x : Nat → Nat) (s : St) (m : Nat → UInt8) (op rd r1 r2 im : Nat) (d : Did) (w : World) (hH : Ht w p g gm x pc s m) (hd : d.trap = false) (hr : rd < 32) (_h1 : r1 < 32) (_h2 : r2 < 32) (hi : im < L32) : Calls Tryz.prog 73 #[hP p, insV op rd r1 r2 im, trV d] w (Ans p g gm x pc s m (onR d x s m rd (if op = 2 then (pc + im) % L32 else im) ((pc + 4) % L32)) w) := by
  have hl := hH.lts
  have hpl := hH.pl
  have hyl : (if op = 2 then (pc + im) % L32 else im) < L32 := by split; exact Nat.mod_lt _ (by decide); exact hi
  have kF := fun W (h : Ht W p g gm x pc s m) => finish_any p g gm pc x s m rd (if op = 2 then (pc + im) % L32 else im) d W h hd hr hyl
  have HD := Lib.hid hl
  generalize hR : onR d x s m rd (if op = 2 then (pc + im) % L32 else im) ((pc + 4) % L32) = R at *
  have e1 : ((im : Int) + (pc : Int)) % 4294967296 = (((pc + im) % L32 : Nat) : Int) := by unfold L32; omega
  by_cases h2' : op = 2
  · rw [if_pos h2'] at kF
    generalize (pc + im) % L32 = y at *
    have hb1 : ((op : Int) == 2) = true := beq_iff_eq.2 (by omega)
    clear hR hl hyl hd hr hi _h1 _h2 h2' hpl
    unfold trV at kF
    unfold trV insV
    go_enter Tryz.func73, Tryz.ntmps73
    go_upto_region 1 with fail
    obtain ⟨wa, hwa, hF, hb0⟩ := three_tr w op rd r1 r2 im d
    rw [← hwa]
    clear hwa
    have HH := Lib.hid (hH.after hb0)
    have HB := Lib.hid (sh_b (p := p) (g := g) (gm := gm) hb0)
    clear hb0
    generalize hgn : w.heap.size = bI at *
    generalize hgT : bI + 1 = bT at *
    generalize hgR : bT + 1 = bR at *
    have HN := Lib.hid hgn
    clear hgn hgT hgR
    have HF := Lib.hid hF
    clear hH hF
    have ci4 : wa.cell? ⟨bI, 4, none⟩ = some (.int .u32 (im : Int)) := HF.out.i.cellTab 4 (by decide)
    have ci0 : wa.cell? ⟨bI, 0, none⟩ = some (.int .i64 (op : Int)) := HF.out.i.cellTab 0 (by decide)
    have ci1 : wa.cell? ⟨bI, 1, none⟩ = some (.int .i64 (rd : Int)) := HF.out.i.cellTab 1 (by decide)
    have cp := HH.out.cpc
    go_wp2_with (first
      | (refine wp_load_tabI rfl 51 _ rfl bT rfl 7 (trC d) 51 HF.out.f.t _ Tryz.underlying51 rfl infoTr ?_; simp only [Act.put, List.setIfInBounds_toArray, List.set_cons_zero, List.set_cons_succ])
      | (go_at_call 87; with_reducible refine (kF _ HH.out).mono ?_; intro e wc hA; obtain rfl := hA.ret)
      | (refine wp_store_tab rfl 51 _ _ rfl bR 0 rfl 7 (trC R.d) rfl 7 (trC did0) 51 (HF.out.sh hA.2.1 HD.out).f.r infoTr (by omega) (trC_one _) ?_; intro w9 hG9 hg9))
    rw [tab7_all] at hG9
    have hlo := HD.out
    have hn := HF.out.f.nR
    obtain rfl := HN.out
    exact bodyPost_ret (results_cell_row rfl _ _ _ 51 _ _ _ rfl hG9 Tryz.underlying51 rfl infoTr) rfl (Ans.fin hA HB.out hlo hn hg9)
  · rw [if_neg h2'] at kF
    have hb1 : ((op : Int) == 2) = false := beq_eq_false_iff_ne.2 (by omega)
    clear hR hl hyl hd hr hi _h1 _h2 h2' hpl e1
    unfold trV at kF
    unfold trV insV
    go_enter Tryz.func73, Tryz.ntmps73
    go_upto_region 1 with fail
    obtain ⟨wa, hwa, hF, hb0⟩ := three_tr w op rd r1 r2 im d
    rw [← hwa]
    clear hwa
    have HH := Lib.hid (hH.after hb0)
    have HB := Lib.hid (sh_b (p := p) (g := g) (gm := gm) hb0)
    clear hb0
    generalize hgn : w.heap.size = bI at *
    generalize hgT : bI + 1 = bT at *
    generalize hgR : bT + 1 = bR at *
    have HN := Lib.hid hgn
    clear hgn hgT hgR
    have HF := Lib.hid hF
    clear hH hF
    have ci4 : wa.cell? ⟨bI, 4, none⟩ = some (.int .u32 (im : Int)) := HF.out.i.cellTab 4 (by decide)
    have ci0 : wa.cell? ⟨bI, 0, none⟩ = some (.int .i64 (op : Int)) := HF.out.i.cellTab 0 (by decide)
    have ci1 : wa.cell? ⟨bI, 1, none⟩ = some (.int .i64 (rd : Int)) := HF.out.i.cellTab 1 (by decide)
    go_wp2_with (first
      | (refine wp_load_tabI rfl 51 _ rfl bT rfl 7 (trC d) 51 HF.out.f.t _ Tryz.underlying51 rfl infoTr ?_; simp only [Act.put, List.setIfInBounds_toArray, List.set_cons_zero, List.set_cons_succ])
      | (go_at_call 87; with_reducible refine (kF _ HH.out).mono ?_; intro e wc hA; obtain rfl := hA.ret)
      | (refine wp_store_tab rfl 51 _ _ rfl bR 0 rfl 7 (trC R.d) rfl 7 (trC did0) 51 (HF.out.sh hA.2.1 HD.out).f.r infoTr (by omega) (trC_one _) ?_; intro w9 hG9 hg9))
    rw [tab7_all] at hG9
    have hlo := HD.out
    have hn := HF.out.f.nR
    obtain rfl := HN.out
    exact bodyPost_ret (results_cell_row rfl _ _ _ 51 _ _ _ rfl hG9 Tryz.underlying51 rfl infoTr) rfl (Ans.fin hA HB.out hlo hn hg9)
set_option maxRecDepth 100000 in
set_option maxHeartbeats 2000000 in
theorem branch_any (p g gm pc : Nat) (x : Nat → Nat) (s : St) (m : Nat → UInt8) (op rd r1 r2 im : Nat) (d : Did) (w : World) (hH : Ht w p g gm x pc s m) (hd : d.trap = false) (_hr : rd < 32) (h1 : r1 < 32) (h2 : r2 < 32) (_hi : im < L32) : Calls Tryz.prog 75 #[hP p, insV op rd r1 r2 im, trV d] w (Ans p g gm x pc s m (if (goesN (op : Int) (x r1) (x r2)).1 = true then jumpR d x pc s m 0 ((pc + im) % L32) else onR d x s m 0 0 ((pc + 4) % L32)) w) := by
  have hl := hH.lts
  have hx1 := hH.xl r1
  have hx2 := hH.xl r2
  have hpl := hH.pl
  have htl : (pc + im) % L32 < L32 := Nat.mod_lt _ (by decide)
  have kA := fun W => Al.alu_ok.goes (op : Int) (x r1) (x r2) W hx1 hx2
  have kJ : ∀ W, Ht W p g gm x pc s m → Calls Tryz.prog 74 #[hP p, .int .i64 0, .int .u32 (((pc + im) % L32 : Nat) : Int), trV d] W (Ans p g gm x pc s m (jumpR d x pc s m 0 ((pc + im) % L32)) W) := fun W h => jump_any p g gm pc x s m 0 ((pc + im) % L32) d W h hd (by decide) htl
  have kN := fun W (h : Ht W p g gm x pc s m) => next_any p g gm pc x s m d W h
  have HD := Lib.hid hl
  have HR := Lib.hid (And.intro h1 h2)
  have HT := Lib.hid hd
  have h1I : (r1 : Int) < 32 := by omega
  have h2I : (r2 : Int) < 32 := by omega
  have e1 : ((pc : Int) + (im : Int)) % 4294967296 = (((pc + im) % L32 : Nat) : Int) := by unfold L32; omega
  have e1' : IntKind.u32.wrap ((pc : Int) + (im : Int)) = (((pc + im) % L32 : Nat) : Int) := by simpa [IntKind.wrap, IntKind.signed, IntKind.bits] using e1
  generalize (goesN (op : Int) (x r1) (x r2)).2 = yb at *
  generalize (goesN (op : Int) (x r1) (x r2)).1 = tk at *
  cases tk with
  | true =>
    rw [if_pos rfl]
    generalize hR : jumpR d x pc s m 0 ((pc + im) % L32) = R at *
    generalize (pc + im) % L32 = tg at *
    clear hR hl hx1 hx2 hd _hr _hi h1 h2 hpl htl kN
    unfold trV at kJ
    unfold trV insV
    go_enter Tryz.func75, Tryz.ntmps75
    go_upto_region 1 with fail
    obtain ⟨wa, hwa, hF, hb0⟩ := three_tr w op rd r1 r2 im d
    rw [← hwa]
    clear hwa
    have HH := Lib.hid (hH.after hb0)
    have HB := Lib.hid (sh_b (p := p) (g := g) (gm := gm) hb0)
    clear hb0
    generalize hgn : w.heap.size = bI at *
    generalize hgT : bI + 1 = bT at *
    generalize hgR : bT + 1 = bR at *
    have HN := Lib.hid hgn
    clear hgn hgT hgR
    have HF := Lib.hid hF
    clear hH hF
    refine region_quiet_all (Below wa.heap.size wa) (by kernel_rfl) (by kernel_rfl) (below_drewN (Below.refl _ _) 1) ?_
    refine WQ.out ?_
    refine WQ.lift (wpQ_val rfl (.pointer (some ⟨bI, 0, none⟩)) (fun w' _ => by go_simp)) ?_
    simp only [Act.put, List.setIfInBounds_toArray, List.set_cons_zero, List.set_cons_succ]
    refine WQ.lift (wpQ_load 3 (.tmp 10) rfl rfl (.pointer (some ⟨bI, 0, none⟩)) rfl (.int .i64 (op : Int)) (fun w' hC => by
        have hcell : w'.cell? ⟨bI, 0, none⟩ = some (.int .i64 (op : Int)) := (HF.out.after hC).i.cellTab 0 (by decide)
        go_simp)) ?_
    simp only [Act.put, List.setIfInBounds_toArray, List.set_cons_zero, List.set_cons_succ]
    refine WQ.lift (wpQ_move _ rfl rfl (.pointer (some ⟨p, 0, none⟩)) rfl) ?_
    simp only [Act.put, List.setIfInBounds_toArray, List.set_cons_zero, List.set_cons_succ]
    refine WQ.lift (wpQ_val rfl (.pointer (some ⟨bI, 2, none⟩)) (fun w' _ => by go_simp)) ?_
    simp only [Act.put, List.setIfInBounds_toArray, List.set_cons_zero, List.set_cons_succ]
    refine WQ.lift (wpQ_load 3 (.tmp 13) rfl rfl (.pointer (some ⟨bI, 2, none⟩)) rfl (.int .i64 (r1 : Int)) (fun w' hC => by
        have hcell : w'.cell? ⟨bI, 2, none⟩ = some (.int .i64 (r1 : Int)) := (HF.out.after hC).i.cellTab 2 (by decide)
        go_simp)) ?_
    simp only [Act.put, List.setIfInBounds_toArray, List.set_cons_zero, List.set_cons_succ]
    refine WQ.lift (wpQ_val rfl (.pointer (some ⟨p, 0, none⟩)) (fun w' _ => by go_simp)) ?_
    simp only [Act.put, List.setIfInBounds_toArray, List.set_cons_zero, List.set_cons_succ]
    refine WQ.lift (wpQ_val rfl (.pointer (some ⟨p, 0, none⟩)) (fun w' _ => by go_simp)) ?_
    simp only [Act.put, List.setIfInBounds_toArray, List.set_cons_zero, List.set_cons_succ]
    refine WQ.lift (wpQ_val rfl (.pointer (some ⟨p, r1, none⟩)) (fun w' hC => by
      have h2 := Addr.add_mid p 0 r1
      rw [Nat.zero_add] at h2
      go_simp)) ?_
    simp only [Act.put, List.setIfInBounds_toArray, List.set_cons_zero, List.set_cons_succ]
    refine WQ.lift (wpQ_load 25 (.tmp 17) rfl rfl (.pointer (some ⟨p, r1, none⟩)) rfl (.int .u32 (x r1 : Int)) (fun w' hC => by
        have hcell : w'.cell? ⟨p, r1, none⟩ = some (.int .u32 (x r1 : Int)) := (HH.out.after hC).cx r1 HR.out.1
        go_simp)) ?_
    simp only [Act.put, List.setIfInBounds_toArray, List.set_cons_zero, List.set_cons_succ]
    refine WQ.lift (wpQ_move _ rfl rfl (.pointer (some ⟨p, 0, none⟩)) rfl) ?_
    simp only [Act.put, List.setIfInBounds_toArray, List.set_cons_zero, List.set_cons_succ]
    refine WQ.lift (wpQ_val rfl (.pointer (some ⟨bI, 3, none⟩)) (fun w' _ => by go_simp)) ?_
    simp only [Act.put, List.setIfInBounds_toArray, List.set_cons_zero, List.set_cons_succ]
    refine WQ.lift (wpQ_load 3 (.tmp 20) rfl rfl (.pointer (some ⟨bI, 3, none⟩)) rfl (.int .i64 (r2 : Int)) (fun w' hC => by
        have hcell : w'.cell? ⟨bI, 3, none⟩ = some (.int .i64 (r2 : Int)) := (HF.out.after hC).i.cellTab 3 (by decide)
        go_simp)) ?_
    simp only [Act.put, List.setIfInBounds_toArray, List.set_cons_zero, List.set_cons_succ]
    refine WQ.lift (wpQ_val rfl (.pointer (some ⟨p, 0, none⟩)) (fun w' _ => by go_simp)) ?_
    simp only [Act.put, List.setIfInBounds_toArray, List.set_cons_zero, List.set_cons_succ]
    refine WQ.lift (wpQ_val rfl (.pointer (some ⟨p, 0, none⟩)) (fun w' _ => by go_simp)) ?_
    simp only [Act.put, List.setIfInBounds_toArray, List.set_cons_zero, List.set_cons_succ]
    refine WQ.lift (wpQ_val rfl (.pointer (some ⟨p, r2, none⟩)) (fun w' hC => by
      have h2 := Addr.add_mid p 0 r2
      rw [Nat.zero_add] at h2
      go_simp)) ?_
    simp only [Act.put, List.setIfInBounds_toArray, List.set_cons_zero, List.set_cons_succ]
    refine WQ.lift (wpQ_load 25 (.tmp 24) rfl rfl (.pointer (some ⟨p, r2, none⟩)) rfl (.int .u32 (x r2 : Int)) (fun w' hC => by
        have hcell : w'.cell? ⟨p, r2, none⟩ = some (.int .u32 (x r2 : Int)) := (HH.out.after hC).cx r2 HR.out.2
        go_simp)) ?_
    simp only [Act.put, List.setIfInBounds_toArray, List.set_cons_zero, List.set_cons_succ]
    refine WQ.lift (wpQ_fn 89 _ _ rfl rfl #[.int .i64 (op : Int), .int .u32 (x r1 : Int), .int .u32 (x r2 : Int)] rfl (fun _ => by go_simp) (.tuple #[.bool true, .bool yb]) (fun w' hC => (kA w').mono fun e w'' ⟨he, hb⟩ => ⟨he, below_class hC hb⟩)) ?_
    simp only [Act.put, List.setIfInBounds_toArray, List.set_cons_zero, List.set_cons_succ]
    refine WQ.lift (wpQ_move _ rfl rfl (.tuple #[.bool true, .bool yb]) rfl) ?_
    simp only [Act.put, List.setIfInBounds_toArray, List.set_cons_zero, List.set_cons_succ]
    refine WQ.lift (wpQ_val rfl (.bool true) (fun w' _ => by go_simp)) ?_
    simp only [Act.put, List.setIfInBounds_toArray, List.set_cons_zero, List.set_cons_succ]
    refine WQ.lift (wpQ_val rfl (.bool yb) (fun w' _ => by go_simp)) ?_
    simp only [Act.put, List.setIfInBounds_toArray, List.set_cons_zero, List.set_cons_succ]
    refine WQ.lift (wpQ_assign _ rfl rfl (.bool true) rfl) ?_
    simp only [Act.put, List.setIfInBounds_toArray, List.set_cons_zero, List.set_cons_succ]
    refine WQ.lift (wpQ_assign _ rfl rfl (.bool yb) rfl) ?_
    simp only [Act.put, List.setIfInBounds_toArray, List.set_cons_zero, List.set_cons_succ]
    refine WQ.mk (wpQuiet_nil ?_)
    rintro w1 hb1
    have HF1 := Lib.hid (HF.out.after hb1)
    have HH1 := Lib.hid (HH.out.after hb1)
    have HB1 := Lib.hid (HB.out.trans (sh_b hb1))
    clear HF HH HB hb1
    go_upto_region 4 with fail
    refine region_quiet_tail (Below w1.heap.size w1) 9 (by kernel_rfl) (by kernel_rfl) (below_drewN (Below.refl _ _) 1) ?_
    simp only [List.take_succ_cons, List.take_zero, List.drop_succ_cons, List.drop_zero]
    refine WQ.out ?_
    refine WQ.lift (wpQ_move _ rfl rfl (.pointer (some ⟨p, 0, none⟩)) rfl) ?_
    simp only [Act.put, List.setIfInBounds_toArray, List.set_cons_zero, List.set_cons_succ]
    refine WQ.lift (wpQ_move _ rfl rfl (.pointer (some ⟨p, 0, none⟩)) rfl) ?_
    simp only [Act.put, List.setIfInBounds_toArray, List.set_cons_zero, List.set_cons_succ]
    refine WQ.lift (wpQ_val rfl (.pointer (some ⟨p, 0, none⟩)) (fun w' _ => by go_simp)) ?_
    simp only [Act.put, List.setIfInBounds_toArray, List.set_cons_zero, List.set_cons_succ]
    refine WQ.lift (wpQ_val rfl (.pointer (some ⟨p, 32, none⟩)) (fun w' _ => by go_simp)) ?_
    simp only [Act.put, List.setIfInBounds_toArray, List.set_cons_zero, List.set_cons_succ]
    refine WQ.lift (wpQ_load 25 (.tmp 37) rfl rfl (.pointer (some ⟨p, 32, none⟩)) rfl (.int .u32 (pc : Int)) (fun w' hC => by
        have hcell : w'.cell? ⟨p, 32, none⟩ = some (.int .u32 (pc : Int)) := (HH1.out.after hC).cpc
        go_simp)) ?_
    simp only [Act.put, List.setIfInBounds_toArray, List.set_cons_zero, List.set_cons_succ]
    refine WQ.lift (wpQ_val rfl (.pointer (some ⟨bI, 4, none⟩)) (fun w' _ => by go_simp)) ?_
    simp only [Act.put, List.setIfInBounds_toArray, List.set_cons_zero, List.set_cons_succ]
    refine WQ.lift (wpQ_load 25 (.tmp 39) rfl rfl (.pointer (some ⟨bI, 4, none⟩)) rfl (.int .u32 (im : Int)) (fun w' hC => by
        have hcell : w'.cell? ⟨bI, 4, none⟩ = some (.int .u32 (im : Int)) := (HF1.out.after hC).i.cellTab 4 (by decide)
        go_simp)) ?_
    simp only [Act.put, List.setIfInBounds_toArray, List.set_cons_zero, List.set_cons_succ]
    refine WQ.lift (wpQ_val rfl (.int .u32 (tg : Int)) (fun w' hC => by
      rw [← e1']
      go_simp)) ?_
    simp only [Act.put, List.setIfInBounds_toArray, List.set_cons_zero, List.set_cons_succ]
    refine WQ.lift (wpQ_has 51 (.tmp 5) rfl bT rfl rfl 51 _ (fun w' hC => (HF1.out.after hC).f.t) _ Tryz.underlying51 rfl infoTr) ?_
    simp only [Act.put, List.setIfInBounds_toArray, List.set_cons_zero, List.set_cons_succ]
    refine WQ.mk (wpQuiet_nil ?_)
    rintro w2 hb2
    have HF2 := Lib.hid (HF1.out.after hb2)
    have HH2 := Lib.hid (HH1.out.after hb2)
    have HB2 := Lib.hid (HB1.out.trans (sh_b hb2))
    clear HF1 HH1 HB1 hb2
    go_wp2_with (first
      | (go_at_call 74; with_reducible refine (kJ _ HH2.out).mono ?_; intro e wc hA; obtain rfl := hA.ret)
      | (refine wp_store_tab rfl 51 _ _ rfl bR 0 rfl 7 (trC R.d) rfl 7 (trC did0) 51 (HF2.out.sh hA.2.1 HD.out).f.r infoTr (by omega) (trC_one _) ?_; intro w9 hG9 hg9))
    rw [tab7_all] at hG9
    have hlo := HD.out
    have hn := HF2.out.f.nR
    obtain rfl := HN.out
    exact bodyPost_ret (results_cell_row rfl _ _ _ 51 _ _ _ rfl hG9 Tryz.underlying51 rfl infoTr) rfl (Ans.fin hA HB2.out hlo hn hg9)
  | false =>
    rw [if_neg (by decide)]
    generalize hqe : (pc + 4) % L32 = q at *
    clear hl hx1 hx2 hd _hr _hi h1 h2 hpl htl kJ
    unfold trV at kN
    unfold trV insV
    go_enter Tryz.func75, Tryz.ntmps75
    go_upto_region 1 with fail
    obtain ⟨wa, hwa, hF, hb0⟩ := three_tr w op rd r1 r2 im d
    rw [← hwa]
    clear hwa
    have HH := Lib.hid (hH.after hb0)
    have HB := Lib.hid (sh_b (p := p) (g := g) (gm := gm) hb0)
    clear hb0
    generalize hgn : w.heap.size = bI at *
    generalize hgT : bI + 1 = bT at *
    generalize hgR : bT + 1 = bR at *
    have HN := Lib.hid hgn
    clear hgn hgT hgR
    have HF := Lib.hid hF
    clear hH hF
    refine region_quiet_all (Below wa.heap.size wa) (by kernel_rfl) (by kernel_rfl) (below_drewN (Below.refl _ _) 1) ?_
    refine WQ.out ?_
    refine WQ.lift (wpQ_val rfl (.pointer (some ⟨bI, 0, none⟩)) (fun w' _ => by go_simp)) ?_
    simp only [Act.put, List.setIfInBounds_toArray, List.set_cons_zero, List.set_cons_succ]
    refine WQ.lift (wpQ_load 3 (.tmp 10) rfl rfl (.pointer (some ⟨bI, 0, none⟩)) rfl (.int .i64 (op : Int)) (fun w' hC => by
        have hcell : w'.cell? ⟨bI, 0, none⟩ = some (.int .i64 (op : Int)) := (HF.out.after hC).i.cellTab 0 (by decide)
        go_simp)) ?_
    simp only [Act.put, List.setIfInBounds_toArray, List.set_cons_zero, List.set_cons_succ]
    refine WQ.lift (wpQ_move _ rfl rfl (.pointer (some ⟨p, 0, none⟩)) rfl) ?_
    simp only [Act.put, List.setIfInBounds_toArray, List.set_cons_zero, List.set_cons_succ]
    refine WQ.lift (wpQ_val rfl (.pointer (some ⟨bI, 2, none⟩)) (fun w' _ => by go_simp)) ?_
    simp only [Act.put, List.setIfInBounds_toArray, List.set_cons_zero, List.set_cons_succ]
    refine WQ.lift (wpQ_load 3 (.tmp 13) rfl rfl (.pointer (some ⟨bI, 2, none⟩)) rfl (.int .i64 (r1 : Int)) (fun w' hC => by
        have hcell : w'.cell? ⟨bI, 2, none⟩ = some (.int .i64 (r1 : Int)) := (HF.out.after hC).i.cellTab 2 (by decide)
        go_simp)) ?_
    simp only [Act.put, List.setIfInBounds_toArray, List.set_cons_zero, List.set_cons_succ]
    refine WQ.lift (wpQ_val rfl (.pointer (some ⟨p, 0, none⟩)) (fun w' _ => by go_simp)) ?_
    simp only [Act.put, List.setIfInBounds_toArray, List.set_cons_zero, List.set_cons_succ]
    refine WQ.lift (wpQ_val rfl (.pointer (some ⟨p, 0, none⟩)) (fun w' _ => by go_simp)) ?_
    simp only [Act.put, List.setIfInBounds_toArray, List.set_cons_zero, List.set_cons_succ]
    refine WQ.lift (wpQ_val rfl (.pointer (some ⟨p, r1, none⟩)) (fun w' hC => by
      have h2 := Addr.add_mid p 0 r1
      rw [Nat.zero_add] at h2
      go_simp)) ?_
    simp only [Act.put, List.setIfInBounds_toArray, List.set_cons_zero, List.set_cons_succ]
    refine WQ.lift (wpQ_load 25 (.tmp 17) rfl rfl (.pointer (some ⟨p, r1, none⟩)) rfl (.int .u32 (x r1 : Int)) (fun w' hC => by
        have hcell : w'.cell? ⟨p, r1, none⟩ = some (.int .u32 (x r1 : Int)) := (HH.out.after hC).cx r1 HR.out.1
        go_simp)) ?_
    simp only [Act.put, List.setIfInBounds_toArray, List.set_cons_zero, List.set_cons_succ]
    refine WQ.lift (wpQ_move _ rfl rfl (.pointer (some ⟨p, 0, none⟩)) rfl) ?_
    simp only [Act.put, List.setIfInBounds_toArray, List.set_cons_zero, List.set_cons_succ]
    refine WQ.lift (wpQ_val rfl (.pointer (some ⟨bI, 3, none⟩)) (fun w' _ => by go_simp)) ?_
    simp only [Act.put, List.setIfInBounds_toArray, List.set_cons_zero, List.set_cons_succ]
    refine WQ.lift (wpQ_load 3 (.tmp 20) rfl rfl (.pointer (some ⟨bI, 3, none⟩)) rfl (.int .i64 (r2 : Int)) (fun w' hC => by
        have hcell : w'.cell? ⟨bI, 3, none⟩ = some (.int .i64 (r2 : Int)) := (HF.out.after hC).i.cellTab 3 (by decide)
        go_simp)) ?_
    simp only [Act.put, List.setIfInBounds_toArray, List.set_cons_zero, List.set_cons_succ]
    refine WQ.lift (wpQ_val rfl (.pointer (some ⟨p, 0, none⟩)) (fun w' _ => by go_simp)) ?_
    simp only [Act.put, List.setIfInBounds_toArray, List.set_cons_zero, List.set_cons_succ]
    refine WQ.lift (wpQ_val rfl (.pointer (some ⟨p, 0, none⟩)) (fun w' _ => by go_simp)) ?_
    simp only [Act.put, List.setIfInBounds_toArray, List.set_cons_zero, List.set_cons_succ]
    refine WQ.lift (wpQ_val rfl (.pointer (some ⟨p, r2, none⟩)) (fun w' hC => by
      have h2 := Addr.add_mid p 0 r2
      rw [Nat.zero_add] at h2
      go_simp)) ?_
    simp only [Act.put, List.setIfInBounds_toArray, List.set_cons_zero, List.set_cons_succ]
    refine WQ.lift (wpQ_load 25 (.tmp 24) rfl rfl (.pointer (some ⟨p, r2, none⟩)) rfl (.int .u32 (x r2 : Int)) (fun w' hC => by
        have hcell : w'.cell? ⟨p, r2, none⟩ = some (.int .u32 (x r2 : Int)) := (HH.out.after hC).cx r2 HR.out.2
        go_simp)) ?_
    simp only [Act.put, List.setIfInBounds_toArray, List.set_cons_zero, List.set_cons_succ]
    refine WQ.lift (wpQ_fn 89 _ _ rfl rfl #[.int .i64 (op : Int), .int .u32 (x r1 : Int), .int .u32 (x r2 : Int)] rfl (fun _ => by go_simp) (.tuple #[.bool false, .bool yb]) (fun w' hC => (kA w').mono fun e w'' ⟨he, hb⟩ => ⟨he, below_class hC hb⟩)) ?_
    simp only [Act.put, List.setIfInBounds_toArray, List.set_cons_zero, List.set_cons_succ]
    refine WQ.lift (wpQ_move _ rfl rfl (.tuple #[.bool false, .bool yb]) rfl) ?_
    simp only [Act.put, List.setIfInBounds_toArray, List.set_cons_zero, List.set_cons_succ]
    refine WQ.lift (wpQ_val rfl (.bool false) (fun w' _ => by go_simp)) ?_
    simp only [Act.put, List.setIfInBounds_toArray, List.set_cons_zero, List.set_cons_succ]
    refine WQ.lift (wpQ_val rfl (.bool yb) (fun w' _ => by go_simp)) ?_
    simp only [Act.put, List.setIfInBounds_toArray, List.set_cons_zero, List.set_cons_succ]
    refine WQ.lift (wpQ_assign _ rfl rfl (.bool false) rfl) ?_
    simp only [Act.put, List.setIfInBounds_toArray, List.set_cons_zero, List.set_cons_succ]
    refine WQ.lift (wpQ_assign _ rfl rfl (.bool yb) rfl) ?_
    simp only [Act.put, List.setIfInBounds_toArray, List.set_cons_zero, List.set_cons_succ]
    refine WQ.mk (wpQuiet_nil ?_)
    rintro w1 hb1
    have HF1 := Lib.hid (HF.out.after hb1)
    have HH1 := Lib.hid (HH.out.after hb1)
    have HB1 := Lib.hid (HB.out.trans (sh_b hb1))
    clear HF HH HB hb1
    go_wp2_with (first
      | (refine wp_load_tabI rfl 51 _ rfl bT rfl 7 (trC d) 51 HF1.out.f.t _ Tryz.underlying51 rfl infoTr ?_; simp only [Act.put, List.setIfInBounds_toArray, List.set_cons_zero, List.set_cons_succ])
      | (go_at_call 90; with_reducible refine (kN _ HH1.out).mono ?_; rintro e wc ⟨rfl, hH3, hO3⟩)
      | (refine wp_store_tab rfl 51 _ _ rfl bR 0 rfl 7 (trC d) rfl 7 (trC did0) 51 (HF1.out.sh hO3 HD.out).f.r infoTr (by omega) (trC_one _) ?_; intro w9 hG9 hg9))
    rw [tab7_all] at hG9
    have hlo := HD.out
    have hn := HF1.out.f.nR
    obtain rfl := HN.out
    exact bodyPost_ret (results_cell_row rfl _ _ _ 51 _ _ _ rfl hG9 Tryz.underlying51 rfl infoTr) rfl (Ans.on d 0 0 _ HT.out m rfl (Only.fresh (HB1.out.trans hO3) hg9 hn) (hH3.far hg9 (by omega) (by omega) (by omega)))
end Go.Proofs.YtgpofoggfifnjaaGreatDoor.Ha
namespace Go.Proofs.YtgpofoggfifnjaaGreatDoor.Ha
open Go Go.RowKit
open Go.Proofs.YtgpofoggfifnjaaGreatDoor (RamP stM ldV stB inR mP erI two_new has_to wp_load_tabI below_fin insA infoIa5 opOf opP bitsN immU rdB r1B r2B Fm fmN TabW has_any has_nil mload_any store_any adecode_any form_at form_no)
open Go.Proofs.YtgpofoggfifnjaaGreatDoor.Cs (St IsF Only S1 hP upd upd_other dueC trapC tickC readC cdue_any ctrap_any ctick_any cread_any cnew_any mayM_any)
open Go.Proofs.YtgpofoggfifnjaaGreatDoor.Pm (TabT)
open Go.Proofs.YtgpofoggfifnjaaGreatDoor.Al (widthN widenN goesN reckN reckon_is goes_is width_is widen_is reckN_lt)

/-- the modes of this stage's laws: the user's, or the machine's with no entry -/
def Mo (s : St) : Prop := s.mode = 0 ∨ (s.mode = 3 ∧ ∀ k, s.cfg k = 0)
theorem may1_any (w : World) (g : Nat) (s : St) (a n r : Nat) (hT : TabT w) (H : IsF w g s) (hm : Mo s) (ha : a < L32) (hn1 : 1 ≤ n) (hn8 : n ≤ 8) (hr : r ≤ 7) : Calls Tryz.prog 13 #[hP g, .int .u32 (a : Int), .int .i64 (n : Int), .int .i64 (r : Int)] w fun e w' => e = .returned (.bool (mayS s a n r)) ∧ Below w.heap.size w w' := by
  rcases hm with h | ⟨h, h0⟩
  · exact mayU_any w g s a n r hT H h ha hn1 hn8 hr
  · have e : mayS s a n r = true := by unfold mayS; rw [if_neg (by omega)]
    rw [e]
    exact mayM_any w g s a n r hT H h h0 ha hn1 hn8 hr
theorem Ht.put {w : World} {p g gm pc b : Nat} {x : Nat → Nat} {s : St} {m : Nat → UInt8} (H : Ht w p g gm x pc s m) (k : Nat) (v : Value) (h1 : p ≠ b) (h2 : g ≠ b) (h3 : gm ≠ b) : Ht (w.setCell ⟨b, k, none⟩ v) p g gm x pc s m := by
  have o : Only (S1 b) w (w.setCell ⟨b, k, none⟩ v) := Only.setCell w (a := ⟨b, k, none⟩) (show S1 b b from rfl) v
  exact ⟨o.has H.h h1, ⟨o.has H.f.blk h2, H.f.inv⟩, ram_only H.r o h3, H.pg, H.pm, H.gm, H.xl, H.pl⟩
theorem tabT_put {w : World} {b : Nat} (H : TabT w) (h : 1 < b) (k : Nat) (v : Value) : TabT (w.setCell ⟨b, k, none⟩ v) := by
  have hb : Below (1 + 1) w (w.setCell ⟨b, k, none⟩ v) := Below.setCell (Below.refl _ _) (p := ⟨b, k, none⟩) h v
  exact ⟨fun i hi => (hb.cell (p := ⟨_, i, none⟩) (Nat.lt_succ_self _)).trans (H.c i hi), Nat.lt_of_lt_of_le H.size hb.size⟩
theorem only_put {S : Nat → Prop} {w0 w1 : World} {b : Nat} (h : Only S w0 w1) (hb : w0.heap.size ≤ b) (k : Nat) (v : Value) : Only S w0 (w1.setCell ⟨b, k, none⟩ v) := by
  have o : Only (S1 b) w1 (w1.setCell ⟨b, k, none⟩ v) := Only.setCell w1 (a := ⟨b, k, none⟩) (show S1 b b from rfl) v
  exact ⟨o.os.trans h.os, o.tape.trans h.tape, o.output.trans h.output, Nat.le_trans h.size o.size, fun i hi hn => (o.block i (Nat.lt_of_lt_of_le hi h.size) (fun e => by have e : i = b := e; omega)).trans (h.block i hi hn)⟩
set_option maxRecDepth 100000 in
set_option maxHeartbeats 2000000 in
theorem hmay_any (p g gm pc : Nat) (x : Nat → Nat) (s : St) (m : Nat → UInt8) (at' n r : Nat) (w : World) (hH : Ht w p g gm x pc s m) (hT : TabT w) (hm : Mo s) (ha : at' < L32) (hn : n = 1 ∨ n = 2 ∨ n = 4) (hr : r ≤ 7) : Calls Tryz.prog 52 #[hP p, .int .u32 (at' : Int), .int .i64 (n : Int), .int .i64 (r : Int)] w fun e w' => e = .returned (.bool (inR at' n && mayS s at' n r)) ∧ Below w.heap.size w w' := by
  have kH : Calls Tryz.prog 14 #[.pointer (some ⟨gm, 0, none⟩), .int .u32 (at' : Int), .int .u32 (n : Int)] w fun e w' => e = .returned (.bool (inR at' n)) ∧ w = w' := has_any gm at' n w ha (by omega)
  have kM : Calls Tryz.prog 13 #[.pointer (some ⟨g, 0, none⟩), .int .u32 (at' : Int), .int .i64 (n : Int), .int .i64 (r : Int)] w fun e w' => e = .returned (.bool (mayS s at' n r)) ∧ Below w.heap.size w w' := may1_any w g s at' n r hT hH.f hm ha (by omega) (by omega) hr
  have cm := hH.cm
  have cg := hH.cg
  have h32 : (n : Int) % 4294967296 = (n : Int) := by omega
  generalize mayS s at' n r = b2 at *
  generalize inR at' n = b1 at *
  clear hH hT hm ha hn hr
  cases b1 with
  | true =>
    go_enter Tryz.func52, Tryz.ntmps52
    go_wp2_with (first
      | (go_at_call 14; with_reducible refine kH.mono ?_; rintro e w2 ⟨rfl, rfl⟩)
      | (go_at_call 13; with_reducible refine kM.mono ?_; rintro e w3 ⟨rfl, hb⟩))
    go_ret
    exact ⟨by rw [Bool.true_and]; rfl, hb⟩
  | false =>
    go_enter Tryz.func52, Tryz.ntmps52
    go_wp2_with (go_at_call 14; with_reducible refine kH.mono ?_; rintro e w2 ⟨rfl, rfl⟩)
    go_ret
    exact ⟨rfl, Below.refl _ _⟩
end Go.Proofs.YtgpofoggfifnjaaGreatDoor.Ha
