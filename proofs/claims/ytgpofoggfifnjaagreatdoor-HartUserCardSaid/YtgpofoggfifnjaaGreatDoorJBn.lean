/-
Layer 16: the landed hart's control; short and system as one.
-/
import Derived.Test.YtgpofoggfifnjaaGreatDoorJBm
namespace Go.Proofs.YtgpofoggfifnjaaGreatDoor.Ha
open Go Go.RowKit
open Go.Proofs.YtgpofoggfifnjaaGreatDoor (RamP stM ldV stB inR mP erI two_new has_to wp_load_tabI below_fin insA infoIa5 opOf opP bitsN immU rdB r1B r2B Fm fmN TabW has_any has_nil mload_any store_any adecode_any form_at form_no)
open Go.Proofs.YtgpofoggfifnjaaGreatDoor.Cs (St IsF Only S1 hP upd upd_other dueC trapC tickC readC cdue_any ctrap_any ctick_any cread_any cnew_any mayM_any)
open Go.Proofs.YtgpofoggfifnjaaGreatDoor.Pm (TabT)
open Go.Proofs.YtgpofoggfifnjaaGreatDoor.Al (widthN widenN goesN reckN reckon_is goes_is width_is widen_is reckN_lt)

/-- does an instruction write the register that it reads? -/
def wcB (op r1 : Nat) : Bool := ((op : Int) == 51) || ((op : Int) == 54) || ((r1 : Int) != 0)
set_option maxRecDepth 100000 in
set_option maxHeartbeats 2000000 in
theorem writes_any (op rd r1 r2 im : Nat) (w : World) : Calls Tryz.prog 95 #[insV op rd r1 r2 im] w fun e w' => e = .returned (.bool (wcB op r1)) ∧ Below w.heap.size w w' := by
  have hb0 : Below w.heap.size w (w.alloc (.cells (tab 5 (insA (op : Int) (rd : Int) (r1 : Int) (r2 : Int) (im : Int))) 115)) := (Below.refl _ _).alloc (Nat.le_refl _) _
  have h0 := Has.new w 115 (tab 5 (insA (op : Int) (rd : Int) (r1 : Int) (r2 : Int) (im : Int)))
  have c0 : (w.alloc (.cells (tab 5 (insA (op : Int) (rd : Int) (r1 : Int) (r2 : Int) (im : Int))) 115)).cell? ⟨w.heap.size, 0, none⟩ = some (.int .i64 (op : Int)) := h0.cellTab 0 (by decide)
  have c2 : (w.alloc (.cells (tab 5 (insA (op : Int) (rd : Int) (r1 : Int) (r2 : Int) (im : Int))) 115)).cell? ⟨w.heap.size, 2, none⟩ = some (.int .i64 (r1 : Int)) := h0.cellTab 2 (by decide)
  unfold wcB insV
  obtain ⟨A, hA⟩ : ∃ A, ((op : Int) == 51) = A := ⟨_, rfl⟩
  obtain ⟨B, hB⟩ : ∃ B, ((op : Int) == 54) = B := ⟨_, rfl⟩
  obtain ⟨C, hC⟩ : ∃ C, ((r1 : Int) != 0) = C := ⟨_, rfl⟩
  rw [hA, hB, hC]
  have HB := Lib.hid hb0
  clear hb0 h0
  generalize tab 5 (insA (op : Int) (rd : Int) (r1 : Int) (r2 : Int) (im : Int)) = cs at *
  cases A <;> cases B <;> cases C <;>
  · go_enter Tryz.func95, Tryz.ntmps95
    go_upto_region 1 with fail
    generalize w.alloc (.cells cs 115) = wa at *
    go_wp2_with fail
    go_ret
    exact ⟨rfl, HB.out⟩
set_option maxRecDepth 100000 in
set_option maxHeartbeats 2000000 in
theorem control_any (p g gm pc : Nat) (x : Nat → Nat) (s : St) (m : Nat → UInt8) (op rd r1 r2 im y : Nat) (d : Did) (w : World) (hH : Ht w p g gm x pc s m) (hmd : s.mode = 0) (hi : im < L32) (hdw : d.word < L32) : Calls Tryz.prog 80 #[hP p, insV op rd r1 r2 im, .int .u32 (y : Int), trV d] w (Ans p g gm x pc s m (trapR d x pc s m 2 d.word) w) := by
  have hl := hH.lts
  have kR : ∀ W, IsF W g s → Calls Tryz.prog 16 #[.pointer (some ⟨g, 0, none⟩), .int .u32 (im : Int)] W fun e w' => e = .returned (.tuple #[.int .u32 (((readC s im).getD 0 : Nat) : Int), .bool (readC s im).isSome]) ∧ Below W.heap.size W w' := fun W h => cread_any W g s im h hi
  have hpr := priv s im
  have kM : (readC s im).isSome = true → ∀ W, IsF W g s → Calls Tryz.prog 96 #[.pointer (some ⟨g, 0, none⟩), .int .u32 (im : Int)] W fun e w' => e = .returned (.bool false) ∧ W = w' := fun hs W h => by
    have k := mayR_any W g im s h hi
    have e : mayB s im = false := by
      have := hpr hs
      unfold mayB
      rw [decide_eq_false (by omega), decide_eq_false (by omega)]
      rfl
    rw [e] at k
    exact k
  have kW : ∀ W, Calls Tryz.prog 95 #[.agg (tab 5 (insA (op : Int) (rd : Int) (r1 : Int) (r2 : Int) (im : Int)))] W fun e w' => e = .returned (.bool (wcB op r1)) ∧ Below W.heap.size W w' := fun W => writes_any op rd r1 r2 im W
  have kT := fun W => illegal_any d W
  have HD := Lib.hid (And.intro hl hdw)
  generalize wcB op r1 = wb at *
  generalize (readC s im).getD 0 = v at *
  generalize (readC s im).isSome = ex at *
  clear hl hpr hmd hi hdw
  unfold trV at kT
  cases ex
  · clear kM
    unfold trV insV
    go_enter Tryz.func80, Tryz.ntmps80
    go_upto_region 1 with fail
    obtain ⟨wa, hwa, hF, hb0⟩ := three_tr w op rd r1 r2 im d
    rw [← hwa]
    clear hwa
    have HH := Lib.hid (hH.after hb0)
    have HB := Lib.hid (sh_b (p := p) (g := g) (gm := gm) hb0)
    clear hb0
    generalize hgn : w.heap.size = bI at *
    generalize hgT : bI + 1 = bT at *
    generalize hgR : bT + 1 = bR at *
    have HN := Lib.hid hgn
    clear hgn hgT hgR
    have HF := Lib.hid hF
    clear hH hF
    have ci4 : wa.cell? ⟨bI, 4, none⟩ = some (.int .u32 (im : Int)) := HF.out.i.cellTab 4 (by decide)
    have cg := HH.out.cg
    go_upto_region 3 with (go_at_call 16; with_reducible refine (kR _ HH.out.f).mono ?_; rintro e w1 ⟨rfl, hb1⟩)
    clear ci4 cg
    have HF1 := Lib.hid (HF.out.after hb1)
    have HH1 := Lib.hid (HH.out.after hb1)
    have HB1 := Lib.hid (HB.out.trans (sh_b hb1))
    clear HF HH HB hb1
    go_upto_region 4 with (first
      | (refine wp_load_tabI rfl 115 _ rfl bI rfl 5 _ 115 HF1.out.i _ Tryz.underlying115 rfl infoIa5 ?_; simp only [Act.put, List.setIfInBounds_toArray, List.set_cons_zero, List.set_cons_succ])
      | (go_at_call 95; with_reducible refine (kW _).mono ?_; rintro e w2 ⟨rfl, hb2⟩))
    have HF2 := Lib.hid (HF1.out.after hb2)
    have HH2 := Lib.hid (HH1.out.after hb2)
    have HB2 := Lib.hid (HB1.out.trans (sh_b hb2))
    clear HF1 HH1 HB1 hb2
    have cg := HH2.out.cg
    go_wp2_with (first
      | (refine wp_load_tabI rfl 51 _ rfl bT rfl 7 (trC d) 51 HF2.out.f.t _ Tryz.underlying51 rfl infoTr ?_; simp only [Act.put, List.setIfInBounds_toArray, List.set_cons_zero, List.set_cons_succ])
      | (go_at_call 81; with_reducible refine (kT _).mono ?_; rintro e wt ⟨rfl, hbt⟩)
      | (refine wp_store_tab rfl 51 _ _ rfl bR 0 rfl 7 (trC { d with trap := true, cause := 2, tval := d.word }) rfl 7 (trC did0) 51 (HF2.out.after hbt).f.r infoTr (by omega) (trC_one _) ?_; intro w9 hG9 hg9))
    rw [tab7_all] at hG9
    have hlo := HD.out.1
    have hn := HF2.out.f.nR
    obtain rfl := HN.out
    exact bodyPost_ret (results_cell_row rfl _ _ _ 51 _ _ _ rfl hG9 Tryz.underlying51 rfl infoTr) rfl (Ans.trap d 2 d.word rfl (Only.fresh (HB2.out.trans (sh_b hbt)) hg9 hn) ((HH2.out.after hbt).far hg9 (by omega) (by omega) (by omega)) (by decide) HD.out.2)
  · replace kM := kM rfl
    unfold trV insV
    go_enter Tryz.func80, Tryz.ntmps80
    go_upto_region 1 with fail
    obtain ⟨wa, hwa, hF, hb0⟩ := three_tr w op rd r1 r2 im d
    rw [← hwa]
    clear hwa
    have HH := Lib.hid (hH.after hb0)
    have HB := Lib.hid (sh_b (p := p) (g := g) (gm := gm) hb0)
    clear hb0
    generalize hgn : w.heap.size = bI at *
    generalize hgT : bI + 1 = bT at *
    generalize hgR : bT + 1 = bR at *
    have HN := Lib.hid hgn
    clear hgn hgT hgR
    have HF := Lib.hid hF
    clear hH hF
    have ci4 : wa.cell? ⟨bI, 4, none⟩ = some (.int .u32 (im : Int)) := HF.out.i.cellTab 4 (by decide)
    have cg := HH.out.cg
    go_upto_region 3 with (go_at_call 16; with_reducible refine (kR _ HH.out.f).mono ?_; rintro e w1 ⟨rfl, hb1⟩)
    clear ci4 cg
    have HF1 := Lib.hid (HF.out.after hb1)
    have HH1 := Lib.hid (HH.out.after hb1)
    have HB1 := Lib.hid (HB.out.trans (sh_b hb1))
    clear HF HH HB hb1
    go_upto_region 4 with (first
      | (refine wp_load_tabI rfl 115 _ rfl bI rfl 5 _ 115 HF1.out.i _ Tryz.underlying115 rfl infoIa5 ?_; simp only [Act.put, List.setIfInBounds_toArray, List.set_cons_zero, List.set_cons_succ])
      | (go_at_call 95; with_reducible refine (kW _).mono ?_; rintro e w2 ⟨rfl, hb2⟩))
    have HF2 := Lib.hid (HF1.out.after hb2)
    have HH2 := Lib.hid (HH1.out.after hb2)
    have HB2 := Lib.hid (HB1.out.trans (sh_b hb2))
    clear HF1 HH1 HB1 hb2
    have cg := HH2.out.cg
    go_wp2_with (first
      | (go_at_call 96; with_reducible refine (kM _ HH2.out.f).mono ?_; rintro e w3 ⟨rfl, rfl⟩)
      | (refine wp_load_tabI rfl 51 _ rfl bT rfl 7 (trC d) 51 HF2.out.f.t _ Tryz.underlying51 rfl infoTr ?_; simp only [Act.put, List.setIfInBounds_toArray, List.set_cons_zero, List.set_cons_succ])
      | (go_at_call 81; with_reducible refine (kT _).mono ?_; rintro e wt ⟨rfl, hbt⟩)
      | (refine wp_store_tab rfl 51 _ _ rfl bR 0 rfl 7 (trC { d with trap := true, cause := 2, tval := d.word }) rfl 7 (trC did0) 51 (HF2.out.after hbt).f.r infoTr (by omega) (trC_one _) ?_; intro w9 hG9 hg9))
    rw [tab7_all] at hG9
    have hlo := HD.out.1
    have hn := HF2.out.f.nR
    obtain rfl := HN.out
    exact bodyPost_ret (results_cell_row rfl _ _ _ 51 _ _ _ rfl hG9 Tryz.underlying51 rfl infoTr) rfl (Ans.trap d 2 d.word rfl (Only.fresh (HB2.out.trans (sh_b hbt)) hg9 hn) ((HH2.out.after hbt).far hg9 (by omega) (by omega) (by omega)) (by decide) HD.out.2)
theorem short_any (p g gm pc : Nat) (x : Nat → Nat) (s : St) (m : Nat → UInt8) (op rd r1 r2 im : Nat) (d : Did) (w : World) (hH : Ht w p g gm x pc s m) (hT : TabT w) (hm : Mo s) (hd : d.trap = false) (hds : d.store = false) (hr : rd < 32) (h1 : r1 < 32) (h2 : r2 < 32) (hi : im < L32) (ho : op = 4 ∨ (11 ≤ op ∧ op ≤ 15) ∨ (19 ≤ op ∧ op ≤ 24)) :
    Calls Tryz.prog 76 #[hP p, insV op rd r1 r2 im, trV d] w (Ans p g gm x pc s m (execF d x pc s m d.word op rd r1 r2 im) w) := by
  unfold execF
  rcases ho with h | h | h
  · rw [if_neg (by omega), if_neg (by omega), if_neg (by omega), if_pos h]
    exact short_jalr p g gm pc x s m op rd r1 r2 im d w hH hT hm hd hds hr h1 h2 hi h
  · rw [if_neg (by omega), if_neg (by omega), if_neg (by omega), if_neg (by omega), if_neg (by omega), if_pos (by omega), decide_eq_false (by omega)]
    exact short_load p g gm pc x s m op rd r1 r2 im d w hH hT hm hd hds hr h1 h2 hi h.1 h.2
  · rw [if_neg (by omega), if_neg (by omega), if_neg (by omega), if_neg (by omega), if_neg (by omega), if_neg (by omega), if_pos (by omega)]
    exact short_reck p g gm pc x s m op rd r1 r2 im d w hH hT hm hd hds hr h1 h2 hi h.1 h.2
theorem system_any (p g gm pc : Nat) (x : Nat → Nat) (s : St) (m : Nat → UInt8) (op rd r1 r2 im : Nat) (d : Did) (w : World) (hH : Ht w p g gm x pc s m) (hd : d.trap = false) (hdw : d.word < L32) (hu : s.mode = 0 ∨ op < 49) (ho1 : 46 ≤ op) (ho2 : op ≤ 50) :
    Calls Tryz.prog 79 #[hP p, insV op rd r1 r2 im, trV d] w (Ans p g gm x pc s m (execF d x pc s m d.word op rd r1 r2 im) w) := by
  unfold execF
  rw [if_neg (by omega), if_neg (by omega), if_neg (by omega), if_neg (by omega), if_neg (by omega), if_neg (by omega), if_neg (by omega), if_neg (by omega)]
  by_cases h46 : op = 46
  · rw [if_pos h46]
    exact system_next p g gm pc x s m op rd r1 r2 im d w hH hd hdw h46
  rw [if_neg h46]
  by_cases h47 : op = 47
  · rw [if_pos h47]
    by_cases hm0 : s.mode = 0
    · rw [if_pos hm0]
      exact system_callU p g gm pc x s m op rd r1 r2 im d w hH hd hdw h47 hm0
    · rw [if_neg hm0]
      exact system_callM p g gm pc x s m op rd r1 r2 im d w hH hd hdw h47 (by rcases hH.f.inv.ok.mode with h | h; exact absurd h hm0; exact h)
  rw [if_neg h47]
  by_cases h48 : op = 48
  · rw [if_pos h48]
    exact system_break p g gm pc x s m op rd r1 r2 im d w hH hd hdw h48
  rw [if_neg h48]
  by_cases h49 : op = 49
  · exact system_mret p g gm pc x s m op rd r1 r2 im d w hH hd hdw h49 (by omega)
  · exact system_wfi p g gm pc x s m op rd r1 r2 im d w hH hd hdw (by omega) (by omega)
end Go.Proofs.YtgpofoggfifnjaaGreatDoor.Ha
