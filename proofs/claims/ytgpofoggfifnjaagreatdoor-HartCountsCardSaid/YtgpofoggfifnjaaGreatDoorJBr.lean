/-
Layer 16: the landed hart's New; none; one without memory; package hart's calls (hart_ok).
-/
import Derived.Test.YtgpofoggfifnjaaGreatDoorJBq
import Derived.Test.YtgpofoggfifnjaaGreatDoorJAx
namespace Go.Proofs.YtgpofoggfifnjaaGreatDoor.Ha
open Go Go.RowKit
open Go.Proofs.YtgpofoggfifnjaaGreatDoor (RamP stM ldV stB inR mP erI two_new has_to wp_load_tabI below_fin insA infoIa5 opOf opP bitsN immU rdB r1B r2B Fm fmN TabW has_any has_nil mload_any store_any adecode_any form_at form_no)
open Go.Proofs.YtgpofoggfifnjaaGreatDoor.Cs (St IsF Only S1 hP upd upd_other dueC trapC tickC readC cdue_any ctrap_any ctick_any cread_any cnew_any mayM_any)
open Go.Proofs.YtgpofoggfifnjaaGreatDoor.Pm (TabT)
open Go.Proofs.YtgpofoggfifnjaaGreatDoor.Al (widthN widenN goesN reckN reckon_is goes_is width_is widen_is reckN_lt)

set_option maxRecDepth 100000 in
set_option maxHeartbeats 2000000 in
theorem step_nil (w : World) : Calls Tryz.prog 11 #[.pointer none] w fun e w' => e = .returned (trV did0) ∧ Below w.heap.size w w' := by
  go_enter Tryz.func11, Tryz.ntmps11
  go_wp2_with fail
  exact bodyPost_ret (results_cell_row rfl _ _ w.heap.size 51 _ _ _ rfl (Has.new w 51 (tab 7 (trC did0))) Tryz.underlying51 rfl infoTr) rfl ⟨rfl, (Below.refl _ _).alloc (Nat.le_refl _) _⟩
def zH (i : Nat) : Value := if i < 33 then .int .u32 0 else .pointer none
theorem zrowH : (Tryz.prog.info? 48).map (fun i => (i.zero, i.size)) = some (some (.agg (tab 35 zH)), 35) := by kernel_rfl
theorem zeroH (w : World) : (zeroValue 48).run Tryz.prog w = .ok (.agg (tab 35 zH)) w := (zero_of_info zrowH).1 w
theorem rowH (g : Nat) (M : Option Nat) : ((tab 35 zH).setIfInBounds 33 (.pointer (some ⟨g, 0, none⟩))).setIfInBounds 34 (.pointer (M.map fun k => ⟨k, 0, none⟩)) = tab 35 (hV (fun _ => 0) 0 g M) := by
  rw [tab_set, tab_set]
  refine tab_ext _ _ _ fun j hj => ?_
  by_cases e4 : j = 34
  · subst e4; rfl
  · rw [if_neg e4]
    by_cases e3 : j = 33
    · subst e3; rfl
    · rw [if_neg e3]
      unfold hV zH
      by_cases h : j < 32
      · rw [if_pos h, if_pos (by omega)]; rfl
      · have e2 : j = 32 := by omega
        subst e2; rfl
set_option maxRecDepth 100000 in
set_option maxHeartbeats 2000000 in
theorem hnew_any (w : World) (M : Option Nat) : Calls Tryz.prog 17 #[.pointer (M.map fun k => ⟨k, 0, none⟩)] w fun e w' => (∃ p g, e = .returned (hP p) ∧ Has w' p 48 (tab 35 (hV (fun _ => 0) 0 g M)) ∧ IsF w' g Cs.st0 ∧ w.heap.size ≤ p ∧ w.heap.size ≤ g ∧ p ≠ g) ∧ Below w.heap.size w w' := by
  have hz := zeroH
  have hr := fun g => rowH g M
  have hne : tab 35 zH ≠ #[] := by
    intro h
    have := congrArg Array.size h
    rw [tab_size] at this
    exact absurd this (by decide)
  have h34 : ((tab 35 zH).size < 34) = False := eq_false (by rw [tab_size]; omega)
  have h35 : ((tab 35 zH).size < 35) = False := eq_false (by rw [tab_size]; omega)
  generalize tab 35 zH = Z at *
  have he : (Z = #[]) = False := eq_false hne
  have hsz : (Tryz.prog.info? 48).map (·.size) = some 35 := by kernel_rfl
  clear hne
  have kC := cnew_any w
  cases M
  all_goals
    simp only [Option.map_none, Option.map_some] at hr ⊢
    go_enter Tryz.func17, Tryz.ntmps17
    go_upto_region 1 with fail
    go_wp2_with (go_at_call 38; with_reducible refine kC.mono ?_; rintro e w2 ⟨⟨g, rfl, hI, hg⟩, hb⟩)
    go_ret
    exact ⟨⟨w2.heap.size, g, rfl, Has.new _ _ _, hI.after ((Below.refl _ _).alloc (Nat.le_refl _) _), hb.size, hg, by have := hI.lt; omega⟩, hb.trans ((Below.refl _ _).alloc hb.size _)⟩
set_option maxRecDepth 100000 in
set_option maxHeartbeats 2000000 in
theorem may_bare (p g pc' at' n r : Nat) (x : Nat → Nat) (w : World) (hH : Has w p 48 (tab 35 (hV x pc' g none))) (_ha : at' < L32) (hn : n < L32) : Calls Tryz.prog 52 #[hP p, .int .u32 (at' : Int), .int .i64 (n : Int), .int .i64 (r : Int)] w fun e w' => e = .returned (.bool false) ∧ w = w' := by
  have kH : Calls Tryz.prog 14 #[.pointer none, .int .u32 (at' : Int), .int .u32 (n : Int)] w fun e w' => e = .returned (.bool false) ∧ w = w' := has_nil at' n w
  have cm : w.cell? ⟨p, 34, none⟩ = some (.pointer none) := hH.cellTab 34 (by decide)
  have h32 : (n : Int) % 4294967296 = (n : Int) := by unfold L32 at hn; omega
  clear hH _ha hn
  go_enter Tryz.func52, Tryz.ntmps52
  go_wp2_with (go_at_call 14; with_reducible refine kH.mono ?_; rintro e w2 ⟨rfl, rfl⟩)
  go_ret
  exact ⟨rfl, rfl⟩
set_option maxRecDepth 100000 in
set_option maxHeartbeats 2000000 in
theorem attempt_bare (p g pc : Nat) (w : World) (hH : Has w p 48 (tab 35 (hV (fun _ => 0) pc g none))) (hI : IsF w g Cs.st0) (hpc : pc < L32) (R : Res) (hR : R.d = { did0 with trap := true, cause := if pc % 4 = 0 then 1 else 0, tval := pc }) :
    Calls Tryz.prog 28 #[hP p] w (Try p g g pc (fun _ => 0) Cs.st0 none R (fun _ => True) (fun _ => True) w) := by
  have kD : ∀ W, IsF W g Cs.st0 → Calls Tryz.prog 49 #[.pointer (some ⟨g, 0, none⟩)] W fun e w' => e = .returned (.bool false) ∧ Below W.heap.size W w' := fun W h => cdue_any W g Cs.st0 h
  have kO : ∀ W, Calls Tryz.prog 51 #[.int .u32 (pc : Int), .int .i64 4] W fun e w' => e = .returned (.bool (decide (¬ pc % 4 = 0))) ∧ W = w' := fun W => isOdd_any pc 4 (by decide) W
  have kM : ∀ W, Has W p 48 (tab 35 (hV (fun _ => 0) pc g none)) → Calls Tryz.prog 52 #[hP p, .int .u32 (pc : Int), .int .i64 4, .int .i64 4] W fun e w' => e = .returned (.bool false) ∧ W = w' := fun W h => may_bare p g pc pc 4 4 _ W h hpc (by decide)
  have HL := Lib.hid (And.intro hH.lt (And.intro hI.lt hpc))
  have HR := Lib.hid hR
  clear hpc hR
  by_cases hodd : pc % 4 = 0
  · rw [decide_eq_false (not_not_intro hodd)] at kO
    have hRd : R.d = { did0 with trap := true, cause := 1, tval := pc } := by rw [HR.out, if_pos hodd]
    have HRd := Lib.hid hRd
    have kT : ∀ W, Calls Tryz.prog 50 #[.agg #[.int .u32 0, .bool false, .int .u32 0, .int .u32 0, .int .u32 0, .int .i64 0, .bool false], .int .u32 1, .int .u32 (pc : Int)] W fun e w' => e = .returned (trV { did0 with trap := true, cause := 1, tval := pc }) ∧ Below W.heap.size W w' := fun W => trapped_any did0 1 pc W
    clear hRd hodd
    go_enter Tryz.func28, Tryz.ntmps28
    go_upto_region 1 with fail
    obtain ⟨wa, hwa, hF, hb0⟩ := one_tr w
    rw [← hwa]
    clear hwa
    have HH := Lib.hid (And.intro (hH.after hb0) (hI.after hb0))
    have HB := Lib.hid (sh_b (p := p) (g := g) (gm := g) hb0)
    generalize hgn : w.heap.size = bR at *
    have HN := Lib.hid hgn
    have HF := Lib.hid hF
    clear hH hI hF hb0 hgn
    have cg : wa.cell? ⟨p, 33, none⟩ = some (.pointer (some ⟨g, 0, none⟩)) := HH.out.1.cellTab 33 (by decide)
    go_upto_region 3 with (go_at_call 49; with_reducible refine (kD _ HH.out.2).mono ?_; rintro e w1 ⟨rfl, hb1⟩)
    clear cg
    have HF1 := Lib.hid (HF.out.after hb1)
    have HH1 := Lib.hid (And.intro (HH.out.1.after hb1) (HH.out.2.after hb1))
    have HB1 := Lib.hid (HB.out.trans (sh_b hb1))
    clear HF HH HB hb1
    have cp : w1.cell? ⟨p, 32, none⟩ = some (.int .u32 (pc : Int)) := HH1.out.1.cellTab 32 (by decide)
    go_wp2_with (first
      | (go_at_call 51; with_reducible refine (kO _).mono ?_; rintro e wz ⟨rfl, rfl⟩)
      | (go_at_call 52; with_reducible refine (kM _ HH1.out.1).mono ?_; rintro e w2 ⟨rfl, rfl⟩)
      | (go_at_call 50; with_reducible refine (kT _).mono ?_; rintro e wt ⟨rfl, hbt⟩)
      | (refine wp_store_tab rfl 51 _ _ rfl bR 0 rfl 7 (trC { did0 with trap := true, cause := 1, tval := pc }) rfl 7 (trC did0) 51 (HF1.out.after hbt) infoTr (by omega) (trC_one _) ?_; intro w9 hG9 hg9))
    rw [tab7_all] at hG9
    have hlo := HL.out
    obtain rfl := HN.out
    have o9 : Only (S1 w.heap.size) wt w9 := Only.of_grown hg9 fun l e => by injection e with e; exact e.symm
    exact bodyPost_ret (results_cell_row rfl _ _ _ 51 _ _ _ rfl hG9 Tryz.underlying51 rfl infoTr) rfl ⟨by rw [HRd.out]; rfl, Only.fresh (HB1.out.trans (sh_b hbt)) hg9 (Nat.le_refl _), Or.inl ⟨by rw [HRd.out], o9.has (HH1.out.1.after hbt) (fun e => by have e : p = w.heap.size := e; omega), ⟨o9.has (HH1.out.2.after hbt).blk (fun e => by have e : g = w.heap.size := e; omega), HH1.out.2.inv⟩, by rw [HRd.out]; exact (by decide : 1 < L32), by rw [HRd.out]; exact hlo.2.2, trivial⟩⟩
  · rw [decide_eq_true hodd] at kO
    have hRd : R.d = { did0 with trap := true, cause := 0, tval := pc } := by rw [HR.out, if_neg hodd]
    have HRd := Lib.hid hRd
    have kT : ∀ W, Calls Tryz.prog 50 #[.agg #[.int .u32 0, .bool false, .int .u32 0, .int .u32 0, .int .u32 0, .int .i64 0, .bool false], .int .u32 0, .int .u32 (pc : Int)] W fun e w' => e = .returned (trV { did0 with trap := true, cause := 0, tval := pc }) ∧ Below W.heap.size W w' := fun W => trapped_any did0 0 pc W
    clear hRd hodd
    go_enter Tryz.func28, Tryz.ntmps28
    go_upto_region 1 with fail
    obtain ⟨wa, hwa, hF, hb0⟩ := one_tr w
    rw [← hwa]
    clear hwa
    have HH := Lib.hid (And.intro (hH.after hb0) (hI.after hb0))
    have HB := Lib.hid (sh_b (p := p) (g := g) (gm := g) hb0)
    generalize hgn : w.heap.size = bR at *
    have HN := Lib.hid hgn
    have HF := Lib.hid hF
    clear hH hI hF hb0 hgn
    have cg : wa.cell? ⟨p, 33, none⟩ = some (.pointer (some ⟨g, 0, none⟩)) := HH.out.1.cellTab 33 (by decide)
    go_upto_region 3 with (go_at_call 49; with_reducible refine (kD _ HH.out.2).mono ?_; rintro e w1 ⟨rfl, hb1⟩)
    clear cg
    have HF1 := Lib.hid (HF.out.after hb1)
    have HH1 := Lib.hid (And.intro (HH.out.1.after hb1) (HH.out.2.after hb1))
    have HB1 := Lib.hid (HB.out.trans (sh_b hb1))
    clear HF HH HB hb1
    have cp : w1.cell? ⟨p, 32, none⟩ = some (.int .u32 (pc : Int)) := HH1.out.1.cellTab 32 (by decide)
    go_wp2_with (first
      | (go_at_call 51; with_reducible refine (kO _).mono ?_; rintro e wz ⟨rfl, rfl⟩)
      | (go_at_call 50; with_reducible refine (kT _).mono ?_; rintro e wt ⟨rfl, hbt⟩)
      | (refine wp_store_tab rfl 51 _ _ rfl bR 0 rfl 7 (trC { did0 with trap := true, cause := 0, tval := pc }) rfl 7 (trC did0) 51 (HF1.out.after hbt) infoTr (by omega) (trC_one _) ?_; intro w9 hG9 hg9))
    rw [tab7_all] at hG9
    have hlo := HL.out
    obtain rfl := HN.out
    have o9 : Only (S1 w.heap.size) wt w9 := Only.of_grown hg9 fun l e => by injection e with e; exact e.symm
    exact bodyPost_ret (results_cell_row rfl _ _ _ 51 _ _ _ rfl hG9 Tryz.underlying51 rfl infoTr) rfl ⟨by rw [HRd.out]; rfl, Only.fresh (HB1.out.trans (sh_b hbt)) hg9 (Nat.le_refl _), Or.inl ⟨by rw [HRd.out], o9.has (HH1.out.1.after hbt) (fun e => by have e : p = w.heap.size := e; omega), ⟨o9.has (HH1.out.2.after hbt).blk (fun e => by have e : g = w.heap.size := e; omega), HH1.out.2.inv⟩, by rw [HRd.out]; exact (by decide : 0 < L32), by rw [HRd.out]; exact hlo.2.2, trivial⟩⟩
theorem step_bare (p g pc : Nat) (w : World) (hH : Has w p 48 (tab 35 (hV (fun _ => 0) pc g none))) (hI : IsF w g Cs.st0) (hpg : p ≠ g) (hpc : pc < L32) :
    Calls Tryz.prog 11 #[hP p] w fun e w' => e = .returned (trV { did0 with trap := true, cause := if pc % 4 = 0 then 1 else 0, tval := pc }) ∧ Has w' p 48 (tab 35 (hV (fun _ => 0) 0 g none)) ∧ Only (SH p g g) w w' := by
  have k := step_gen p g g pc (fun _ => 0) Cs.st0 none ⟨{ did0 with trap := true, cause := if pc % 4 = 0 then 1 else 0, tval := pc }, fun _ => 0, 0, Cs.st0, Go.Proofs.YtgpofoggfifnjaaGreatDoor.mem0⟩ (fun _ => True) (fun _ => True) w (fun _ _ _ _ => trivial) (fun _ _ _ _ => trivial) hH hI hpg hI.lt rfl hpc (fun W h1 h2 _ => attempt_bare p g pc W h1 h2 hpc _ rfl)
  refine k.mono ?_
  rintro e w' ⟨h1, h2, h3⟩
  rcases h3 with ⟨-, h4, -, -⟩ | ⟨h4, -⟩
  · exact ⟨h1, h4, h2⟩
  · cases h4
theorem step_ok (W0 : World) (hT0 : TabT W0) (hW0 : TabW W0) (w : World) (p g gm pc : Nat) (x : Nat → Nat) (s : St) (m : Nat → UInt8) (hB : Below W0.heap.size W0 w) (hH : Has w p 48 (tab 35 (hV x pc g (some gm)))) (hI : IsF w g s) (hM : RamP w gm m) (hpg : p ≠ g) (hpm : p ≠ gm) (hgm : g ≠ gm) (hp0 : W0.heap.size ≤ p) (_hg0 : W0.heap.size ≤ g) (_hm0 : W0.heap.size ≤ gm) (hx : XOk x) (hpc : pc < L32)
    (hmo : s.mode = 0 ∨ (s.mode = 3 ∧ (∀ k, s.cfg k = 0) ∧ opOf (ldV m pc 4) < 49)) :
    Calls Tryz.prog 11 #[hP p] w fun e w' => e = .returned (trV (stepR x pc s m).d) ∧ (Has w' p 48 (tab 35 (hV (stepR x pc s m).x (stepR x pc s m).pc g (some gm))) ∧ IsF w' g (stepR x pc s m).s ∧ RamP w' gm (stepR x pc s m).m) ∧ Only (SH p g gm) w w' := by
  have hgl : gm < w.heap.size := by obtain ⟨N, _, h⟩ := hM; exact h.lt
  have hout : ¬ PG p g w.heap.size gm := by rintro (h | h | h) <;> omega
  have k := step_gen p g gm pc x s (some gm) (stepR x pc s m) (fun W => RamP W gm m ∧ stepR x pc s m = trapR (stepR x pc s m).d x pc s m (stepR x pc s m).d.cause (stepR x pc s m).d.tval) (fun W => RamP W gm (stepR x pc s m).m ∧ (stepR x pc s m).s = tickC s true) w
    (fun W W' h k => ⟨ram_only h.1 k hout, h.2⟩) (fun W W' h k => ⟨ram_only h.1 k hout, h.2⟩) hH hI hpg hgl hx.z hpc (fun W h1 h2 h3 => by
      have hBW : Below W0.heap.size W0 W := hB.trans (h3.below (fun i e => by have e : i = p := e; omega) hB.size)
      have hA := attempt_any p g gm pc x s m W ⟨h1, h2, ram_only hM h3 (fun e => hpm e.symm), hpg, hpm, hgm, hx.lt, hpc⟩ (hT0.below hBW) (hW0.below hBW) (hmo.elim Or.inl fun h => Or.inr ⟨h.1, h.2.1⟩) (hmo.elim Or.inl fun h => Or.inr h.2.2)
      refine hA.mono ?_
      rintro e w' ⟨a1, a2, a3⟩
      rcases a3 with ⟨b1, b2, b3, b4, b5⟩ | ⟨b1, b2, b3⟩
      · exact ⟨a1, a2, Or.inl ⟨b1, b2.h, b2.f, b4, b5, b2.r, b3⟩⟩
      · exact ⟨a1, a2, Or.inr ⟨b1, b2.h, b2.f, b2.r, b3⟩⟩)
  refine k.mono ?_
  rintro e w' ⟨h1, h2, h3⟩
  generalize stepR x pc s m = R at *
  rcases h3 with ⟨-, h4, h5, h6, h7⟩ | ⟨-, h4, h5, h6, h7⟩
  · have e1 : R.x = x := by rw [h7]; rfl
    have e2 : R.pc = s.r 773 := by rw [h7]; rfl
    have e3 : R.s = tickC (trapC s pc R.d.cause R.d.tval) false := by rw [h7]; rfl
    have e4 : R.m = m := by rw [h7]; rfl
    exact ⟨h1, ⟨by rw [e1, e2]; exact h4, by rw [e3]; exact h5, by rw [e4]; exact h6⟩, h2⟩
  · exact ⟨h1, ⟨h4, by rw [h7]; exact h5, h6⟩, h2⟩
/-- what package hart answers -/
theorem hart_ok (W0 : World) (hT0 : TabT W0) (hW0 : TabW W0) : HartOK IsF W0 where
  new := fun w M _ => hnew_any w M
  step := fun w p g gm pc x s m hB hH hI hM hpg hpm hgm hp0 hg0 hm0 hx hpc hmo => step_ok W0 hT0 hW0 w p g gm pc x s m hB hH hI hM hpg hpm hgm hp0 hg0 hm0 hx hpc hmo
  nil := fun w _ => step_nil w
  bare := fun w p g pc _ hH hI hpg _ _ hpc => step_bare p g pc w hH hI hpg hpc
end Go.Proofs.YtgpofoggfifnjaaGreatDoor.Ha
