/-
Layer 15: package csr's calls: New, Due, Timer, Tick, Trap, Back.
-/
import Derived.Test.YthaockngbagdhaaDoorCkB
namespace Go.Proofs.YthaockngbagdhaaDoor.Cs
open Go Go.RowKit
open Go.Proofs.YthaockngbagdhaaDoor.Pm (En Sl SlC SlE enV en0 TabT at_entry infoE)

theorem stV_row (r : Nat) : tab 3 (stV r) = #[.bool (decide (r / 8 % 2 = 1)), .bool (decide (r / 128 % 2 = 1)), .int .i64 ((r / 2048 % 4 : Nat) : Int)] := rfl
theorem trap_bits (b m : Nat) (hb : b < 2) (hm : m = 0 ∨ m = 3) : (b * 128 + m * 2048) / 8 % 2 = 0 ∧ (b * 128 + m * 2048) / 128 % 2 = b ∧ (b * 128 + m * 2048) / 2048 % 4 = m ∧ b * 128 + m * 2048 = (b * 128 + m * 2048) / 8 % 2 * 8 + (b * 128 + m * 2048) / 128 % 2 * 128 + (b * 128 + m * 2048) / 2048 % 4 * 2048 := by
  rcases (show b = 0 ∨ b = 1 by omega) with rfl | rfl <;> rcases hm with rfl | rfl <;> decide
set_option maxRecDepth 100000 in
set_option maxHeartbeats 2000000 in
theorem cdue_any (w : World) (g : Nat) (s : St) (H : IsF w g s) : Calls Tryd.prog 11 #[hP g] w fun e w' => e = .returned (.bool (dueC s)) ∧ Below w.heap.size w w' := by
  have c0 : w.cell? ⟨g, 0, none⟩ = some (.int .i64 (s.mode : Int)) := H.blk.cellTab 0 (by decide)
  have c1 : w.cell? ⟨g, 1, none⟩ = some (.bool (decide (s.r 768 / 8 % 2 = 1))) := H.blk.cellTab 1 (by decide)
  have c2 : w.cell? ⟨g, 4, none⟩ = some (.int .u32 (s.r 772 : Int)) := H.blk.cellTab 4 (by decide)
  have c3 : w.cell? ⟨g, 5, none⟩ = some (.int .u32 (s.r 836 : Int)) := H.blk.cellTab 5 (by decide)
  have hm := H.inv.ok.mode
  have he := H.inv.en
  have hp := H.inv.pe
  unfold dueC
  generalize decide (s.r 768 / 8 % 2 = 1) = b at *
  generalize s.mode = m at *
  generalize s.r 772 = e at *
  generalize s.r 836 = p at *
  clear H
  rcases he with rfl | rfl <;> rcases hp with rfl | rfl
  · replace c2 : w.cell? ⟨g, 4, none⟩ = some (.int .u32 0) := c2
    replace c3 : w.cell? ⟨g, 5, none⟩ = some (.int .u32 0) := c3
    have ha : bits .and .u32 0 0 = 0 := by decide
    go_enter Tryd.func11, Tryd.ntmps11
    go_upto_region 1 with fail
    go_quiet (fail)
    go_wp2_with fail
    go_ret
    exact ⟨rfl, below_drewN (Below.refl _ w) _⟩
  · replace c2 : w.cell? ⟨g, 4, none⟩ = some (.int .u32 0) := c2
    replace c3 : w.cell? ⟨g, 5, none⟩ = some (.int .u32 128) := c3
    have ha : bits .and .u32 0 128 = 0 := by decide
    go_enter Tryd.func11, Tryd.ntmps11
    go_upto_region 1 with fail
    go_quiet (fail)
    go_wp2_with fail
    go_ret
    exact ⟨rfl, below_drewN (Below.refl _ w) _⟩
  · replace c2 : w.cell? ⟨g, 4, none⟩ = some (.int .u32 128) := c2
    replace c3 : w.cell? ⟨g, 5, none⟩ = some (.int .u32 0) := c3
    have ha : bits .and .u32 128 0 = 0 := by decide
    go_enter Tryd.func11, Tryd.ntmps11
    go_upto_region 1 with fail
    go_quiet (fail)
    go_wp2_with fail
    go_ret
    exact ⟨rfl, below_drewN (Below.refl _ w) _⟩
  · replace c2 : w.cell? ⟨g, 4, none⟩ = some (.int .u32 128) := c2
    replace c3 : w.cell? ⟨g, 5, none⟩ = some (.int .u32 128) := c3
    have ha : bits .and .u32 128 128 = 128 := by decide
    rcases hm with rfl | rfl
    · replace c0 : w.cell? ⟨g, 0, none⟩ = some (.int .i64 0) := c0
      go_enter Tryd.func11, Tryd.ntmps11
      go_upto_region 1 with fail
      go_quiet (fail)
      have d0 : (w.drewN nq).cell? ⟨g, 0, none⟩ = some (.int .i64 0) := c0
      have d1 : (w.drewN nq).cell? ⟨g, 1, none⟩ = some (.bool b) := c1
      have hb := below_drewN (Below.refl w.heap.size w) nq
      have HB := Lib.hid hb
      clear hb c0 c1 c2 c3
      generalize w.drewN nq = w1 at *
      go_wp2_with fail
      go_ret
      exact ⟨by cases b <;> rfl, HB.out⟩
    · replace c0 : w.cell? ⟨g, 0, none⟩ = some (.int .i64 3) := c0
      go_enter Tryd.func11, Tryd.ntmps11
      go_upto_region 1 with fail
      go_quiet (fail)
      have d0 : (w.drewN nq).cell? ⟨g, 0, none⟩ = some (.int .i64 3) := c0
      have d1 : (w.drewN nq).cell? ⟨g, 1, none⟩ = some (.bool b) := c1
      have hb := below_drewN (Below.refl w.heap.size w) nq
      have HB := Lib.hid hb
      clear hb c0 c1 c2 c3
      generalize w.drewN nq = w1 at *
      go_wp2_with fail
      go_ret
      exact ⟨by cases b <;> rfl, HB.out⟩
set_option maxRecDepth 100000 in
set_option maxHeartbeats 2000000 in
theorem ctimer_any (w : World) (g : Nat) (s : St) (b : Bool) (H : IsF w g s) : Calls Tryd.prog 14 #[hP g, .bool b] w fun e w' => e = .returned (.tuple #[]) ∧ IsF w' g (timC s b) ∧ Only (S1 g) w w' := by
  have c5 : w.cell? ⟨g, 5, none⟩ = some (.int .u32 (s.r 836 : Int)) := H.blk.cellTab 5 (by decide)
  have f5 : w.frozen? ⟨g, 5, none⟩ = false := H.blk.free 5
  have kb := bits128 b
  have H1 := H.reg 5 (if b = true then 128 else 0) (by decide) (by decide) (H.inv.ip _ (by split <;> simp))
  rw [show regL 5 = 836 from rfl] at H1
  have HH := Lib.hid H1
  unfold timC
  generalize (if b = true then 128 else 0 : Nat) = v at *
  clear H1 H
  go_enter Tryd.func14, Tryd.ntmps14
  go_wp2_with (go_at_call 32; with_reducible refine (kb _).mono ?_; rintro e w2 ⟨rfl, rfl⟩)
  first | go_end0 | refine bodyPost_ret (results_none rfl _ _ _) rfl ?_
  exact ⟨rfl, HH.out, Only.setCell _ (show S1 g g from rfl) _⟩
set_option maxRecDepth 100000 in
set_option maxHeartbeats 2000000 in
theorem ctick_any (w : World) (g : Nat) (s : St) (b : Bool) (H : IsF w g s) : Calls Tryd.prog 15 #[hP g, .bool b] w fun e w' => e = .returned (.tuple #[]) ∧ IsF w' g (tickC s b) ∧ Only (S1 g) w w' := by
  have hc : w.cell? ⟨g, 75, none⟩ = some (.int .u64 (s.cyc : Int)) := H.blk.cellTab 75 (by decide)
  have hf : w.frozen? ⟨g, 75, none⟩ = false := H.blk.free 75
  have hlt := H.inv.ok.cyc
  have hlt2 := H.inv.ok.ret
  obtain ⟨c, hcc⟩ : ∃ c, c = (s.cyc + 1) % 18446744073709551616 := ⟨_, rfl⟩
  have w1 : IntKind.u64.wrap ((s.cyc : Int) + 1) = (c : Int) := by
    have h2 : ((s.cyc : Int) + 1) % 18446744073709551616 = (c : Int) := by omega
    simpa [IntKind.wrap, IntKind.signed, IntKind.bits] using h2
  obtain ⟨d, hdd⟩ : ∃ d, d = (s.ret + 1) % 18446744073709551616 := ⟨_, rfl⟩
  have w2 : IntKind.u64.wrap ((s.ret : Int) + 1) = (d : Int) := by
    have h2 : ((s.ret : Int) + 1) % 18446744073709551616 = (d : Int) := by omega
    simpa [IntKind.wrap, IntKind.signed, IntKind.bits] using h2
  have w1b : ((s.cyc : Int) + 1) % 18446744073709551616 = (c : Int) := by omega
  have w2b : ((s.ret : Int) + 1) % 18446744073709551616 = (d : Int) := by omega
  have H1 := H.cycS c (by omega)
  have hd1 : (w.setCell ⟨g, 75, none⟩ (.int .u64 (c : Int))).cell? ⟨g, 76, none⟩ = some (.int .u64 (s.ret : Int)) := H1.blk.cellTab 76 (by decide)
  have hf1 : (w.setCell ⟨g, 75, none⟩ (.int .u64 (c : Int))).frozen? ⟨g, 76, none⟩ = false := H1.blk.free 76
  have hd : w.cell? ⟨g, 76, none⟩ = some (.int .u64 (s.ret : Int)) := H.blk.cellTab 76 (by decide)
  have hf0 : w.frozen? ⟨g, 76, none⟩ = false := H.blk.free 76
  have H2 := H1.retS d (by omega)
  have E1 : ({ s with cyc := c } : St) = tickC s false := by unfold tickC; rw [hcc]; rfl
  have E2 : ({ s with cyc := c, ret := d } : St) = tickC s true := by unfold tickC; rw [hcc, hdd]; rfl
  have HH := Lib.hid (And.intro H1 (And.intro H2 (And.intro E1 (And.intro E2 (And.intro hcc hdd)))))
  generalize s.cyc = x at *
  generalize s.ret = y at *
  clear H1 H2 E1 E2 hcc hdd hlt hlt2 H
  cases b
  · go_enter Tryd.func15, Tryd.ntmps15
    go_wp2_with fail
    first | go_end0 | refine bodyPost_ret (results_none rfl _ _ _) rfl ?_
    have q := HH.out
    exact ⟨rfl, by rw [← q.2.2.1]; exact q.1, Only.setCell _ (show S1 g g from rfl) _⟩
  · go_enter Tryd.func15, Tryd.ntmps15
    go_wp2_with fail
    first | go_end0 | refine bodyPost_ret (results_none rfl _ _ _) rfl ?_
    have q := HH.out
    exact ⟨rfl, by rw [← q.2.2.2.1]; exact q.2.1, (Only.setCell _ (show S1 g g from rfl) _).trans (Only.setCell _ (show S1 g g from rfl) _)⟩
set_option maxRecDepth 100000 in
set_option maxHeartbeats 2000000 in
theorem ctrap_any (w : World) (g : Nat) (s : St) (pc ca tv : Nat) (H : IsF w g s) (hpc : pc < 4294967296) (hca : ca < 4294967296) (htv : tv < 4294967296) : Calls Tryd.prog 12 #[hP g, .int .u32 (pc : Int), .int .u32 (ca : Int), .int .u32 (tv : Int)] w fun e w' => e = .returned (.int .u32 (s.r 773 : Int)) ∧ IsF w' g (trapC s pc ca tv) ∧ Only (S1 g) w w' := by
  have kA := aligned_any pc
  have hpl : pc - pc % 4 < 4294967296 := by omega
  unfold trapC trR
  generalize pc - pc % 4 = p at *
  have c8 : w.cell? ⟨g, 8, none⟩ = some (.int .u32 (s.r 833 : Int)) := H.blk.cellTab 8 (by decide)
  have f8 : w.frozen? ⟨g, 8, none⟩ = false := H.blk.free 8
  have HM := Lib.hid H.inv.ok.mode
  have HK := Lib.hid (kA · hpc)
  go_enter Tryd.func12, Tryd.ntmps12
  go_upto_region 4 with (go_at_call 30; with_reducible refine (HK.out _).mono ?_; rintro e w2 ⟨rfl, rfl⟩)
  have H1 := H.reg 8 p (by decide) (by decide) (H.inv.reg 833 p (by omega) (by decide) (by decide) (by decide))
  have OH1 : Only (S1 g) w (w.setCell ⟨g, 8, none⟩ (.int .u32 (p : Int))) := Only.setCell _ (show S1 g g from rfl) _
  generalize w.setCell ⟨g, 8, none⟩ (.int .u32 (p : Int)) = w1 at *
  have c9 : w1.cell? ⟨g, 9, none⟩ = some (.int .u32 (s.r 834 : Int)) := H1.blk.cellTab 9 (by decide)
  have f9 : w1.frozen? ⟨g, 9, none⟩ = false := H1.blk.free 9
  clear c8 f8
  go_upto_region 5 with fail
  have H2 := H1.reg 9 ca (by decide) (by decide) (H1.inv.reg 834 ca (by omega) (by decide) (by decide) (by decide))
  have OH2 : Only (S1 g) w1 (w1.setCell ⟨g, 9, none⟩ (.int .u32 (ca : Int))) := Only.setCell _ (show S1 g g from rfl) _
  generalize w1.setCell ⟨g, 9, none⟩ (.int .u32 (ca : Int)) = w2 at *
  have c10 : w2.cell? ⟨g, 10, none⟩ = some (.int .u32 (s.r 835 : Int)) := H2.blk.cellTab 10 (by decide)
  have f10 : w2.frozen? ⟨g, 10, none⟩ = false := H2.blk.free 10
  clear c9 f9
  go_upto_region 6 with fail
  have H3 := H2.reg 10 tv (by decide) (by decide) (H2.inv.reg 835 tv (by omega) (by decide) (by decide) (by decide))
  have OH3 : Only (S1 g) w2 (w2.setCell ⟨g, 10, none⟩ (.int .u32 (tv : Int))) := Only.setCell _ (show S1 g g from rfl) _
  generalize w2.setCell ⟨g, 10, none⟩ (.int .u32 (tv : Int)) = w3 at *
  have c0 : w3.cell? ⟨g, 0, none⟩ = some (.int .i64 (s.mode : Int)) := H3.blk.cellTab 0 (by decide)
  have c1 : w3.cell? ⟨g, 1, none⟩ = some (.bool (decide (s.r 768 / 8 % 2 = 1))) := H3.blk.cellTab 1 (by decide)
  have c6 : w3.cell? ⟨g, 6, none⟩ = some (.int .u32 (s.r 773 : Int)) := H3.blk.cellTab 6 (by decide)
  have hst : (if s.mode = 3 then 3 else 0) = s.mode := by rcases HM.out with h | h <;> rw [h] <;> rfl
  have kS := stored_any s.mode
  rw [hst] at kS
  obtain ⟨hv1, hv2, hv3, hvf⟩ := trap_bits (s.r 768 / 8 % 2) s.mode (Nat.mod_lt _ (by decide)) HM.out
  have hI := H3.inv.sta (s.r 768 / 8 % 2 * 128 + s.mode * 2048) (by rw [hv3]; exact HM.out) hvf
  have hS := fun (w' : World) hB => H3.sta (w' := w') (s.r 768 / 8 % 2 * 128 + s.mode * 2048) hI hB
  have hrow : tab 3 (stV (s.r 768 / 8 % 2 * 128 + s.mode * 2048)) = #[.bool false, .bool (decide (s.r 768 / 8 % 2 = 1)), .int .i64 (s.mode : Int)] := by
    rw [stV_row, hv1, hv2, hv3]
    rfl
  have HS := Lib.hid hS
  have H3B := H3.blk
  have HO := Lib.hid (OH1.trans (OH2.trans OH3))
  clear c10 f10 hS hI hvf hv1 hv2 hv3 hst
  clear OH1 OH2 OH3 H1 H2 H H3
  generalize hb : decide (s.r 768 / 8 % 2 = 1) = b at *
  have HM2 := Lib.hid hb
  clear hb
  refine region_quiet_tail (fun w' => ∃ n, w' = w3.drewN n) 14 (by kernel_rfl) (by kernel_rfl) ⟨1, rfl⟩ ?_
  simp only [List.take_succ_cons, List.take_zero, List.drop_succ_cons, List.drop_zero]
  repeat (quiet_step ((go_at_call 31; with_reducible exact Calls.quiet_of_same ((kS _).mono fun _ _ ⟨he, hw⟩ => ⟨he, hw.symm⟩))))
  refine wpQuiet_nil ?_
  rintro w' ⟨nq, rfl⟩
  have hB4 := H3B.drewN nq
  have hO4 := HO.out.trans (Only.drewN (S := S1 g) w3 nq)
  have d0 : (w3.drewN nq).cell? ⟨g, 0, none⟩ = some (.int .i64 (s.mode : Int)) := c0
  have HO4 := Lib.hid hO4
  clear hO4 c0 c1 c6 H3B
  generalize w3.drewN nq = w4 at *
  go_upto_region 7 with (
    refine wp_store_tab rfl 36 _ _ rfl g 1 rfl 3 _ (congrArg Value.agg hrow.symm) 77 _ _ hB4 infoS3 (by decide) (stV_one _) ?_
    intro w5 hB5 hg5
    go_frame)
  have H5 := HS.out _ hB5
  have O5 := HO4.out.trans (Only.of_grown (S := S1 g) hg5 fun l e => by injection e with e; exact e.symm)
  have e0 : w5.cell? ⟨g, 0, none⟩ = some (.int .i64 (s.mode : Int)) := H5.blk.cellTab 0 (by decide)
  have f0 : w5.frozen? ⟨g, 0, none⟩ = false := H5.blk.free 0
  have H6 := H5.modeS 3 (Or.inr rfl)
  have O6 := O5.trans (Only.setCell w5 (a := ⟨g, 0, none⟩) (show S1 g g from rfl) (.int .i64 ((3 : Nat) : Int)))
  have e6 : (w5.setCell ⟨g, 0, none⟩ (.int .i64 3)).cell? ⟨g, 6, none⟩ = some (.int .u32 (s.r 773 : Int)) := H6.blk.cellTab 6 (by decide)
  have HH := Lib.hid (And.intro H6 O6)
  clear H5 O5 H6 O6 hB5 hg5 hB4 d0
  go_wp2_with fail
  go_ret
  exact ⟨rfl, HH.out.1, HH.out.2⟩
end Go.Proofs.YthaockngbagdhaaDoor.Cs
