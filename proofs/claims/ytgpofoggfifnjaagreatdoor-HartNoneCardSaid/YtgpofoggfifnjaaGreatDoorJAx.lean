/-
Layer 15: package csr's calls: New, Due, Timer, Tick, Trap, Back.
Layer 15: package csr's Back; reading: readSingle, config, configs, Read.
Layer 15: package csr's New.
-/
import Derived.Test.YtgpofoggfifnjaaGreatDoorJAw
namespace Go.Proofs.YtgpofoggfifnjaaGreatDoor.Cs
open Go Go.RowKit
open Go.Proofs.YtgpofoggfifnjaaGreatDoor.Pm (En Sl SlC SlE enV en0 TabT at_entry infoE)

theorem stV_row (r : Nat) : tab 3 (stV r) = #[.bool (decide (r / 8 % 2 = 1)), .bool (decide (r / 128 % 2 = 1)), .int .i64 ((r / 2048 % 4 : Nat) : Int)] := rfl
theorem trap_bits (b m : Nat) (hb : b < 2) (hm : m = 0 ∨ m = 3) : (b * 128 + m * 2048) / 8 % 2 = 0 ∧ (b * 128 + m * 2048) / 128 % 2 = b ∧ (b * 128 + m * 2048) / 2048 % 4 = m ∧ b * 128 + m * 2048 = (b * 128 + m * 2048) / 8 % 2 * 8 + (b * 128 + m * 2048) / 128 % 2 * 128 + (b * 128 + m * 2048) / 2048 % 4 * 2048 := by
  rcases (show b = 0 ∨ b = 1 by omega) with rfl | rfl <;> rcases hm with rfl | rfl <;> decide
set_option maxRecDepth 100000 in
set_option maxHeartbeats 2000000 in
theorem cdue_any (w : World) (g : Nat) (s : St) (H : IsF w g s) : Calls Tryz.prog 49 #[hP g] w fun e w' => e = .returned (.bool (dueC s)) ∧ Below w.heap.size w w' := by
  have c0 : w.cell? ⟨g, 0, none⟩ = some (.int .i64 (s.mode : Int)) := H.blk.cellTab 0 (by decide)
  have c1 : w.cell? ⟨g, 1, none⟩ = some (.bool (decide (s.r 768 / 8 % 2 = 1))) := H.blk.cellTab 1 (by decide)
  have c2 : w.cell? ⟨g, 4, none⟩ = some (.int .u32 (s.r 772 : Int)) := H.blk.cellTab 4 (by decide)
  have c3 : w.cell? ⟨g, 5, none⟩ = some (.int .u32 (s.r 836 : Int)) := H.blk.cellTab 5 (by decide)
  have hm := H.inv.ok.mode
  have he := H.inv.en
  have hp := H.inv.pe
  unfold dueC
  generalize decide (s.r 768 / 8 % 2 = 1) = b at *
  generalize s.mode = m at *
  generalize s.r 772 = e at *
  generalize s.r 836 = p at *
  clear H
  rcases he with rfl | rfl <;> rcases hp with rfl | rfl
  · replace c2 : w.cell? ⟨g, 4, none⟩ = some (.int .u32 0) := c2
    replace c3 : w.cell? ⟨g, 5, none⟩ = some (.int .u32 0) := c3
    have ha : bits .and .u32 0 0 = 0 := by decide
    go_enter Tryz.func49, Tryz.ntmps49
    go_upto_region 1 with fail
    go_quiet (fail)
    go_wp2_with fail
    go_ret
    exact ⟨rfl, below_drewN (Below.refl _ w) _⟩
  · replace c2 : w.cell? ⟨g, 4, none⟩ = some (.int .u32 0) := c2
    replace c3 : w.cell? ⟨g, 5, none⟩ = some (.int .u32 128) := c3
    have ha : bits .and .u32 0 128 = 0 := by decide
    go_enter Tryz.func49, Tryz.ntmps49
    go_upto_region 1 with fail
    go_quiet (fail)
    go_wp2_with fail
    go_ret
    exact ⟨rfl, below_drewN (Below.refl _ w) _⟩
  · replace c2 : w.cell? ⟨g, 4, none⟩ = some (.int .u32 128) := c2
    replace c3 : w.cell? ⟨g, 5, none⟩ = some (.int .u32 0) := c3
    have ha : bits .and .u32 128 0 = 0 := by decide
    go_enter Tryz.func49, Tryz.ntmps49
    go_upto_region 1 with fail
    go_quiet (fail)
    go_wp2_with fail
    go_ret
    exact ⟨rfl, below_drewN (Below.refl _ w) _⟩
  · replace c2 : w.cell? ⟨g, 4, none⟩ = some (.int .u32 128) := c2
    replace c3 : w.cell? ⟨g, 5, none⟩ = some (.int .u32 128) := c3
    have ha : bits .and .u32 128 128 = 128 := by decide
    rcases hm with rfl | rfl
    · replace c0 : w.cell? ⟨g, 0, none⟩ = some (.int .i64 0) := c0
      go_enter Tryz.func49, Tryz.ntmps49
      go_upto_region 1 with fail
      go_quiet (fail)
      have d0 : (w.drewN nq).cell? ⟨g, 0, none⟩ = some (.int .i64 0) := c0
      have d1 : (w.drewN nq).cell? ⟨g, 1, none⟩ = some (.bool b) := c1
      have hb := below_drewN (Below.refl w.heap.size w) nq
      have HB := Lib.hid hb
      clear hb c0 c1 c2 c3
      generalize w.drewN nq = w1 at *
      go_wp2_with fail
      go_ret
      exact ⟨by cases b <;> rfl, HB.out⟩
    · replace c0 : w.cell? ⟨g, 0, none⟩ = some (.int .i64 3) := c0
      go_enter Tryz.func49, Tryz.ntmps49
      go_upto_region 1 with fail
      go_quiet (fail)
      have d0 : (w.drewN nq).cell? ⟨g, 0, none⟩ = some (.int .i64 3) := c0
      have d1 : (w.drewN nq).cell? ⟨g, 1, none⟩ = some (.bool b) := c1
      have hb := below_drewN (Below.refl w.heap.size w) nq
      have HB := Lib.hid hb
      clear hb c0 c1 c2 c3
      generalize w.drewN nq = w1 at *
      go_wp2_with fail
      go_ret
      exact ⟨by cases b <;> rfl, HB.out⟩
set_option maxRecDepth 100000 in
set_option maxHeartbeats 2000000 in
theorem ctimer_any (w : World) (g : Nat) (s : St) (b : Bool) (H : IsF w g s) : Calls Tryz.prog 18 #[hP g, .bool b] w fun e w' => e = .returned (.tuple #[]) ∧ IsF w' g (timC s b) ∧ Only (S1 g) w w' := by
  have c5 : w.cell? ⟨g, 5, none⟩ = some (.int .u32 (s.r 836 : Int)) := H.blk.cellTab 5 (by decide)
  have f5 : w.frozen? ⟨g, 5, none⟩ = false := H.blk.free 5
  have kb := bits128 b
  have H1 := H.reg 5 (if b = true then 128 else 0) (by decide) (by decide) (H.inv.ip _ (by split <;> simp))
  rw [show regL 5 = 836 from rfl] at H1
  have HH := Lib.hid H1
  unfold timC
  generalize (if b = true then 128 else 0 : Nat) = v at *
  clear H1 H
  go_enter Tryz.func18, Tryz.ntmps18
  go_wp2_with (go_at_call 39; with_reducible refine (kb _).mono ?_; rintro e w2 ⟨rfl, rfl⟩)
  first | go_end0 | refine bodyPost_ret (results_none rfl _ _ _) rfl ?_
  exact ⟨rfl, HH.out, Only.setCell _ (show S1 g g from rfl) _⟩
set_option maxRecDepth 100000 in
set_option maxHeartbeats 2000000 in
theorem ctick_any (w : World) (g : Nat) (s : St) (b : Bool) (H : IsF w g s) : Calls Tryz.prog 30 #[hP g, .bool b] w fun e w' => e = .returned (.tuple #[]) ∧ IsF w' g (tickC s b) ∧ Only (S1 g) w w' := by
  have hc : w.cell? ⟨g, 75, none⟩ = some (.int .u64 (s.cyc : Int)) := H.blk.cellTab 75 (by decide)
  have hf : w.frozen? ⟨g, 75, none⟩ = false := H.blk.free 75
  have hlt := H.inv.ok.cyc
  have hlt2 := H.inv.ok.ret
  obtain ⟨c, hcc⟩ : ∃ c, c = (s.cyc + 1) % 18446744073709551616 := ⟨_, rfl⟩
  have w1 : IntKind.u64.wrap ((s.cyc : Int) + 1) = (c : Int) := by
    have h2 : ((s.cyc : Int) + 1) % 18446744073709551616 = (c : Int) := by omega
    simpa [IntKind.wrap, IntKind.signed, IntKind.bits] using h2
  obtain ⟨d, hdd⟩ : ∃ d, d = (s.ret + 1) % 18446744073709551616 := ⟨_, rfl⟩
  have w2 : IntKind.u64.wrap ((s.ret : Int) + 1) = (d : Int) := by
    have h2 : ((s.ret : Int) + 1) % 18446744073709551616 = (d : Int) := by omega
    simpa [IntKind.wrap, IntKind.signed, IntKind.bits] using h2
  have w1b : ((s.cyc : Int) + 1) % 18446744073709551616 = (c : Int) := by omega
  have w2b : ((s.ret : Int) + 1) % 18446744073709551616 = (d : Int) := by omega
  have H1 := H.cycS c (by omega)
  have hd1 : (w.setCell ⟨g, 75, none⟩ (.int .u64 (c : Int))).cell? ⟨g, 76, none⟩ = some (.int .u64 (s.ret : Int)) := H1.blk.cellTab 76 (by decide)
  have hf1 : (w.setCell ⟨g, 75, none⟩ (.int .u64 (c : Int))).frozen? ⟨g, 76, none⟩ = false := H1.blk.free 76
  have hd : w.cell? ⟨g, 76, none⟩ = some (.int .u64 (s.ret : Int)) := H.blk.cellTab 76 (by decide)
  have hf0 : w.frozen? ⟨g, 76, none⟩ = false := H.blk.free 76
  have H2 := H1.retS d (by omega)
  have E1 : ({ s with cyc := c } : St) = tickC s false := by unfold tickC; rw [hcc]; rfl
  have E2 : ({ s with cyc := c, ret := d } : St) = tickC s true := by unfold tickC; rw [hcc, hdd]; rfl
  have HH := Lib.hid (And.intro H1 (And.intro H2 (And.intro E1 (And.intro E2 (And.intro hcc hdd)))))
  generalize s.cyc = x at *
  generalize s.ret = y at *
  clear H1 H2 E1 E2 hcc hdd hlt hlt2 H
  cases b
  · go_enter Tryz.func30, Tryz.ntmps30
    go_wp2_with fail
    first | go_end0 | refine bodyPost_ret (results_none rfl _ _ _) rfl ?_
    have q := HH.out
    exact ⟨rfl, by rw [← q.2.2.1]; exact q.1, Only.setCell _ (show S1 g g from rfl) _⟩
  · go_enter Tryz.func30, Tryz.ntmps30
    go_wp2_with fail
    first | go_end0 | refine bodyPost_ret (results_none rfl _ _ _) rfl ?_
    have q := HH.out
    exact ⟨rfl, by rw [← q.2.2.2.1]; exact q.2.1, (Only.setCell _ (show S1 g g from rfl) _).trans (Only.setCell _ (show S1 g g from rfl) _)⟩
set_option maxRecDepth 100000 in
set_option maxHeartbeats 2000000 in
theorem ctrap_any (w : World) (g : Nat) (s : St) (pc ca tv : Nat) (H : IsF w g s) (hpc : pc < 4294967296) (hca : ca < 4294967296) (htv : tv < 4294967296) : Calls Tryz.prog 29 #[hP g, .int .u32 (pc : Int), .int .u32 (ca : Int), .int .u32 (tv : Int)] w fun e w' => e = .returned (.int .u32 (s.r 773 : Int)) ∧ IsF w' g (trapC s pc ca tv) ∧ Only (S1 g) w w' := by
  have kA := aligned_any pc
  have hpl : pc - pc % 4 < 4294967296 := by omega
  unfold trapC trR
  generalize pc - pc % 4 = p at *
  have c8 : w.cell? ⟨g, 8, none⟩ = some (.int .u32 (s.r 833 : Int)) := H.blk.cellTab 8 (by decide)
  have f8 : w.frozen? ⟨g, 8, none⟩ = false := H.blk.free 8
  have HM := Lib.hid H.inv.ok.mode
  have HK := Lib.hid (kA · hpc)
  go_enter Tryz.func29, Tryz.ntmps29
  go_upto_region 4 with (go_at_call 56; with_reducible refine (HK.out _).mono ?_; rintro e w2 ⟨rfl, rfl⟩)
  have H1 := H.reg 8 p (by decide) (by decide) (H.inv.reg 833 p (by omega) (by decide) (by decide) (by decide))
  have OH1 : Only (S1 g) w (w.setCell ⟨g, 8, none⟩ (.int .u32 (p : Int))) := Only.setCell _ (show S1 g g from rfl) _
  generalize w.setCell ⟨g, 8, none⟩ (.int .u32 (p : Int)) = w1 at *
  have c9 : w1.cell? ⟨g, 9, none⟩ = some (.int .u32 (s.r 834 : Int)) := H1.blk.cellTab 9 (by decide)
  have f9 : w1.frozen? ⟨g, 9, none⟩ = false := H1.blk.free 9
  clear c8 f8
  go_upto_region 5 with fail
  have H2 := H1.reg 9 ca (by decide) (by decide) (H1.inv.reg 834 ca (by omega) (by decide) (by decide) (by decide))
  have OH2 : Only (S1 g) w1 (w1.setCell ⟨g, 9, none⟩ (.int .u32 (ca : Int))) := Only.setCell _ (show S1 g g from rfl) _
  generalize w1.setCell ⟨g, 9, none⟩ (.int .u32 (ca : Int)) = w2 at *
  have c10 : w2.cell? ⟨g, 10, none⟩ = some (.int .u32 (s.r 835 : Int)) := H2.blk.cellTab 10 (by decide)
  have f10 : w2.frozen? ⟨g, 10, none⟩ = false := H2.blk.free 10
  clear c9 f9
  go_upto_region 6 with fail
  have H3 := H2.reg 10 tv (by decide) (by decide) (H2.inv.reg 835 tv (by omega) (by decide) (by decide) (by decide))
  have OH3 : Only (S1 g) w2 (w2.setCell ⟨g, 10, none⟩ (.int .u32 (tv : Int))) := Only.setCell _ (show S1 g g from rfl) _
  generalize w2.setCell ⟨g, 10, none⟩ (.int .u32 (tv : Int)) = w3 at *
  have c0 : w3.cell? ⟨g, 0, none⟩ = some (.int .i64 (s.mode : Int)) := H3.blk.cellTab 0 (by decide)
  have c1 : w3.cell? ⟨g, 1, none⟩ = some (.bool (decide (s.r 768 / 8 % 2 = 1))) := H3.blk.cellTab 1 (by decide)
  have c6 : w3.cell? ⟨g, 6, none⟩ = some (.int .u32 (s.r 773 : Int)) := H3.blk.cellTab 6 (by decide)
  have hst : (if s.mode = 3 then 3 else 0) = s.mode := by rcases HM.out with h | h <;> rw [h] <;> rfl
  have kS := stored_any s.mode
  rw [hst] at kS
  obtain ⟨hv1, hv2, hv3, hvf⟩ := trap_bits (s.r 768 / 8 % 2) s.mode (Nat.mod_lt _ (by decide)) HM.out
  have hI := H3.inv.sta (s.r 768 / 8 % 2 * 128 + s.mode * 2048) (by rw [hv3]; exact HM.out) hvf
  have hS := fun (w' : World) hB => H3.sta (w' := w') (s.r 768 / 8 % 2 * 128 + s.mode * 2048) hI hB
  have hrow : tab 3 (stV (s.r 768 / 8 % 2 * 128 + s.mode * 2048)) = #[.bool false, .bool (decide (s.r 768 / 8 % 2 = 1)), .int .i64 (s.mode : Int)] := by
    rw [stV_row, hv1, hv2, hv3]
    rfl
  have HS := Lib.hid hS
  have H3B := H3.blk
  have HO := Lib.hid (OH1.trans (OH2.trans OH3))
  clear c10 f10 hS hI hvf hv1 hv2 hv3 hst
  clear OH1 OH2 OH3 H1 H2 H H3
  generalize hb : decide (s.r 768 / 8 % 2 = 1) = b at *
  have HM2 := Lib.hid hb
  clear hb
  refine region_quiet_tail (fun w' => ∃ n, w' = w3.drewN n) 14 (by kernel_rfl) (by kernel_rfl) ⟨1, rfl⟩ ?_
  simp only [List.take_succ_cons, List.take_zero, List.drop_succ_cons, List.drop_zero]
  repeat (quiet_step ((go_at_call 57; with_reducible exact Calls.quiet_of_same ((kS _).mono fun _ _ ⟨he, hw⟩ => ⟨he, hw.symm⟩))))
  refine wpQuiet_nil ?_
  rintro w' ⟨nq, rfl⟩
  have hB4 := H3B.drewN nq
  have hO4 := HO.out.trans (Only.drewN (S := S1 g) w3 nq)
  have d0 : (w3.drewN nq).cell? ⟨g, 0, none⟩ = some (.int .i64 (s.mode : Int)) := c0
  have HO4 := Lib.hid hO4
  clear hO4 c0 c1 c6 H3B
  generalize w3.drewN nq = w4 at *
  go_upto_region 7 with (
    refine wp_store_tab rfl 36 _ _ rfl g 1 rfl 3 _ (congrArg Value.agg hrow.symm) 77 _ _ hB4 infoS3 (by decide) (stV_one _) ?_
    intro w5 hB5 hg5
    go_frame)
  have H5 := HS.out _ hB5
  have O5 := HO4.out.trans (Only.of_grown (S := S1 g) hg5 fun l e => by injection e with e; exact e.symm)
  have e0 : w5.cell? ⟨g, 0, none⟩ = some (.int .i64 (s.mode : Int)) := H5.blk.cellTab 0 (by decide)
  have f0 : w5.frozen? ⟨g, 0, none⟩ = false := H5.blk.free 0
  have H6 := H5.modeS 3 (Or.inr rfl)
  have O6 := O5.trans (Only.setCell w5 (a := ⟨g, 0, none⟩) (show S1 g g from rfl) (.int .i64 ((3 : Nat) : Int)))
  have e6 : (w5.setCell ⟨g, 0, none⟩ (.int .i64 3)).cell? ⟨g, 6, none⟩ = some (.int .u32 (s.r 773 : Int)) := H6.blk.cellTab 6 (by decide)
  have HH := Lib.hid (And.intro H6 O6)
  clear H5 O5 H6 O6 hB5 hg5 hB4 d0
  go_wp2_with fail
  go_ret
  exact ⟨rfl, HH.out.1, HH.out.2⟩
end Go.Proofs.YtgpofoggfifnjaaGreatDoor.Cs
namespace Go.Proofs.YtgpofoggfifnjaaGreatDoor.Cs
open Go Go.RowKit
open Go.Proofs.YtgpofoggfifnjaaGreatDoor.Pm (En Sl SlC SlE enV en0 TabT at_entry infoE byte_any)

theorem read_k (s : St) (n : Nat) (h1 : ¬ (n = 769 ∨ n = 2816 ∨ n = 2944 ∨ n = 2818 ∨ n = 2946)) (h2 : ¬ (3857 ≤ n ∧ n ≤ 3860)) (h3 : ¬ (928 ≤ n ∧ n < 932)) (h4 : isK n = true) : readC s n = some (s.r n) := by
  unfold readC
  rw [if_neg (by omega), if_neg (by omega), if_neg (by omega), if_neg (by omega), if_neg (by omega), if_neg h2, if_neg h3]
  exact rM_in s n h4
theorem back_bits (b : Nat) (hb : b < 2) : (b * 8 + 128) / 8 % 2 = b ∧ (b * 8 + 128) / 128 % 2 = 1 ∧ (b * 8 + 128) / 2048 % 4 = 0 ∧ b * 8 + 128 = (b * 8 + 128) / 8 % 2 * 8 + (b * 8 + 128) / 128 % 2 * 128 + (b * 8 + 128) / 2048 % 4 * 2048 := by
  rcases (show b = 0 ∨ b = 1 by omega) with rfl | rfl <;> decide
set_option maxRecDepth 100000 in
set_option maxHeartbeats 2000000 in
theorem cback_any (w : World) (g : Nat) (s : St) (H : IsF w g s) : Calls Tryz.prog 94 #[hP g] w fun e w' => e = .returned (.int .u32 (s.r 833 : Int)) ∧ IsF w' g (backC s) ∧ Only (S1 g) w w' := by
  have c0 : w.cell? ⟨g, 0, none⟩ = some (.int .i64 (s.mode : Int)) := H.blk.cellTab 0 (by decide)
  have f0 : w.frozen? ⟨g, 0, none⟩ = false := H.blk.free 0
  have c3 : w.cell? ⟨g, 3, none⟩ = some (.int .i64 ((s.r 768 / 2048 % 4 : Nat) : Int)) := H.blk.cellTab 3 (by decide)
  have H1 := H.modeS _ H.inv.ok.mpp
  have O1 := Only.setCell w (a := ⟨g, 0, none⟩) (show S1 g g from rfl) (.int .i64 ((s.r 768 / 2048 % 4 : Nat) : Int))
  obtain ⟨hv1, hv2, hv3, hvf⟩ := back_bits (s.r 768 / 128 % 2) (Nat.mod_lt _ (by decide))
  have hI := H1.inv.sta (s.r 768 / 128 % 2 * 8 + 128) (Or.inl hv3) hvf
  have hS := fun w0 (HW : IsF w0 g { s with mode := s.r 768 / 2048 % 4 }) (w' : World) hB => HW.sta (w' := w') (s.r 768 / 128 % 2 * 8 + 128) hI hB
  have hrow : tab 3 (stV (s.r 768 / 128 % 2 * 8 + 128)) = #[.bool (decide (s.r 768 / 128 % 2 = 1)), .bool true, .int .i64 0] := by
    rw [stV_row, hv1, hv2, hv3]
    rfl
  have HS := Lib.hid hS
  unfold backC
  generalize hm : s.r 768 / 2048 % 4 = m at *
  generalize hb : decide (s.r 768 / 128 % 2 = 1) = b at *
  have HB := Lib.hid (And.intro hm hb)
  clear hS hI hvf hv1 hv2 hv3 hm
  go_enter Tryz.func94, Tryz.ntmps94
  go_upto_region 4 with fail
  have c2 : (w.setCell ⟨g, 0, none⟩ (.int .i64 (m : Int))).cell? ⟨g, 2, none⟩ = some (.bool b) := by rw [← hb]; exact H1.blk.cellTab 2 (by decide)
  have HO := Lib.hid O1
  clear O1 c0 f0 c3 hb H
  generalize w.setCell ⟨g, 0, none⟩ (.int .i64 (m : Int)) = w1 at *
  have HBk := H1.blk
  have HS2 := Lib.hid (HS.out _ H1)
  clear H1 HS
  go_upto_region 5 with (
    refine wp_store_tab rfl 36 _ _ rfl g 1 rfl 3 _ (congrArg Value.agg hrow.symm) 77 _ _ HBk infoS3 (by decide) (stV_one _) ?_
    intro w5 hB5 hg5
    go_frame)
  have H5 := HS2.out _ hB5
  have O5 := HO.out.trans (Only.of_grown (S := S1 g) hg5 fun l e => by injection e with e; exact e.symm)
  have c8 : w5.cell? ⟨g, 8, none⟩ = some (.int .u32 (s.r 833 : Int)) := H5.blk.cellTab 8 (by decide)
  have HH := Lib.hid (And.intro H5 O5)
  clear H5 O5 hB5 hg5 HBk c2
  go_wp2_with fail
  go_ret
  exact ⟨rfl, HH.out.1, HH.out.2⟩
set_option maxRecDepth 100000 in
set_option maxHeartbeats 2000000 in
theorem rs_768 (w : World) (g : Nat) (s : St) (H : IsF w g s) : Calls Tryz.prog 37 #[hP g, .int .u32 768] w fun e w' => e = .returned (.tuple #[.int .u32 (((readC s 768).getD 0 : Nat) : Int), .bool (readC s 768).isSome]) ∧ Below w.heap.size w w' := by
  rw [show readC s 768 = some (s.r 768) from read_k s 768 (by decide) (by decide) (by decide) (by decide)]
  dsimp only [Option.getD_some, Option.isSome_some]
  have c1 : w.cell? ⟨g, 1, none⟩ = some (.bool (decide (s.r 768 / 8 % 2 = 1))) := H.blk.cellTab 1 (by decide)
  have c2 : w.cell? ⟨g, 2, none⟩ = some (.bool (decide (s.r 768 / 128 % 2 = 1))) := H.blk.cellTab 2 (by decide)
  have c3 : w.cell? ⟨g, 3, none⟩ = some (.int .i64 ((s.r 768 / 2048 % 4 : Nat) : Int)) := H.blk.cellTab 3 (by decide)
  have kw := word_any (decide (s.r 768 / 8 % 2 = 1)) (decide (s.r 768 / 128 % 2 = 1)) (s.r 768 / 2048 % 4) H.inv.ok.mpp w
  have e : (if decide (s.r 768 / 8 % 2 = 1) = true then 8 else 0) + (if decide (s.r 768 / 128 % 2 = 1) = true then 128 else 0) + s.r 768 / 2048 % 4 * 2048 = s.r 768 := by
    have hf := H.inv.st
    have q1 : (if decide (s.r 768 / 8 % 2 = 1) = true then 8 else 0) = s.r 768 / 8 % 2 * 8 := by
      rcases (show s.r 768 / 8 % 2 = 0 ∨ s.r 768 / 8 % 2 = 1 by omega) with h | h <;> rw [h] <;> rfl
    have q2 : (if decide (s.r 768 / 128 % 2 = 1) = true then 128 else 0) = s.r 768 / 128 % 2 * 128 := by
      rcases (show s.r 768 / 128 % 2 = 0 ∨ s.r 768 / 128 % 2 = 1 by omega) with h | h <;> rw [h] <;> rfl
    rw [q1, q2]
    exact hf.symm
  rw [e] at kw
  generalize decide (s.r 768 / 8 % 2 = 1) = b1 at *
  generalize decide (s.r 768 / 128 % 2 = 1) = b2 at *
  generalize s.r 768 / 2048 % 4 = m at *
  clear H e
  go_enter Tryz.func37, Tryz.ntmps37
  go_wp2_with (go_at_call 61; with_reducible refine kw.mono ?_; rintro e w2 ⟨rfl, hb⟩)
  go_ret2
  exact ⟨rfl, hb⟩
set_option maxRecDepth 100000 in
set_option maxHeartbeats 2000000 in
theorem rs_769 (w : World) (g : Nat) (s : St) (_H : IsF w g s) : Calls Tryz.prog 37 #[hP g, .int .u32 769] w fun e w' => e = .returned (.tuple #[.int .u32 (((readC s 769).getD 0 : Nat) : Int), .bool (readC s 769).isSome]) ∧ Below w.heap.size w w' := by
  rw [show readC s 769 = some (1074794752) from rfl]
  dsimp only [Option.getD_some, Option.isSome_some]
  go_enter Tryz.func37, Tryz.ntmps37
  go_wp2_with fail
  go_ret2
  exact ⟨rfl, Below.refl _ _⟩
set_option maxRecDepth 100000 in
set_option maxHeartbeats 2000000 in
theorem rs_772 (w : World) (g : Nat) (s : St) (H : IsF w g s) : Calls Tryz.prog 37 #[hP g, .int .u32 772] w fun e w' => e = .returned (.tuple #[.int .u32 (((readC s 772).getD 0 : Nat) : Int), .bool (readC s 772).isSome]) ∧ Below w.heap.size w w' := by
  rw [show readC s 772 = some (s.r 772) from read_k s 772 (by decide) (by decide) (by decide) (by decide)]
  dsimp only [Option.getD_some, Option.isSome_some]
  have c : w.cell? ⟨g, 4, none⟩ = some (.int .u32 (s.r 772 : Int)) := H.blk.cellTab 4 (by decide)
  go_enter Tryz.func37, Tryz.ntmps37
  go_wp2_with fail
  go_ret2
  exact ⟨rfl, Below.refl _ _⟩
set_option maxRecDepth 100000 in
set_option maxHeartbeats 2000000 in
theorem rs_773 (w : World) (g : Nat) (s : St) (H : IsF w g s) : Calls Tryz.prog 37 #[hP g, .int .u32 773] w fun e w' => e = .returned (.tuple #[.int .u32 (((readC s 773).getD 0 : Nat) : Int), .bool (readC s 773).isSome]) ∧ Below w.heap.size w w' := by
  rw [show readC s 773 = some (s.r 773) from read_k s 773 (by decide) (by decide) (by decide) (by decide)]
  dsimp only [Option.getD_some, Option.isSome_some]
  have c : w.cell? ⟨g, 6, none⟩ = some (.int .u32 (s.r 773 : Int)) := H.blk.cellTab 6 (by decide)
  go_enter Tryz.func37, Tryz.ntmps37
  go_wp2_with fail
  go_ret2
  exact ⟨rfl, Below.refl _ _⟩
set_option maxRecDepth 100000 in
set_option maxHeartbeats 2000000 in
theorem rs_832 (w : World) (g : Nat) (s : St) (H : IsF w g s) : Calls Tryz.prog 37 #[hP g, .int .u32 832] w fun e w' => e = .returned (.tuple #[.int .u32 (((readC s 832).getD 0 : Nat) : Int), .bool (readC s 832).isSome]) ∧ Below w.heap.size w w' := by
  rw [show readC s 832 = some (s.r 832) from read_k s 832 (by decide) (by decide) (by decide) (by decide)]
  dsimp only [Option.getD_some, Option.isSome_some]
  have c : w.cell? ⟨g, 7, none⟩ = some (.int .u32 (s.r 832 : Int)) := H.blk.cellTab 7 (by decide)
  go_enter Tryz.func37, Tryz.ntmps37
  go_wp2_with fail
  go_ret2
  exact ⟨rfl, Below.refl _ _⟩
set_option maxRecDepth 100000 in
set_option maxHeartbeats 2000000 in
theorem rs_833 (w : World) (g : Nat) (s : St) (H : IsF w g s) : Calls Tryz.prog 37 #[hP g, .int .u32 833] w fun e w' => e = .returned (.tuple #[.int .u32 (((readC s 833).getD 0 : Nat) : Int), .bool (readC s 833).isSome]) ∧ Below w.heap.size w w' := by
  rw [show readC s 833 = some (s.r 833) from read_k s 833 (by decide) (by decide) (by decide) (by decide)]
  dsimp only [Option.getD_some, Option.isSome_some]
  have c : w.cell? ⟨g, 8, none⟩ = some (.int .u32 (s.r 833 : Int)) := H.blk.cellTab 8 (by decide)
  go_enter Tryz.func37, Tryz.ntmps37
  go_wp2_with fail
  go_ret2
  exact ⟨rfl, Below.refl _ _⟩
set_option maxRecDepth 100000 in
set_option maxHeartbeats 2000000 in
theorem rs_834 (w : World) (g : Nat) (s : St) (H : IsF w g s) : Calls Tryz.prog 37 #[hP g, .int .u32 834] w fun e w' => e = .returned (.tuple #[.int .u32 (((readC s 834).getD 0 : Nat) : Int), .bool (readC s 834).isSome]) ∧ Below w.heap.size w w' := by
  rw [show readC s 834 = some (s.r 834) from read_k s 834 (by decide) (by decide) (by decide) (by decide)]
  dsimp only [Option.getD_some, Option.isSome_some]
  have c : w.cell? ⟨g, 9, none⟩ = some (.int .u32 (s.r 834 : Int)) := H.blk.cellTab 9 (by decide)
  go_enter Tryz.func37, Tryz.ntmps37
  go_wp2_with fail
  go_ret2
  exact ⟨rfl, Below.refl _ _⟩
set_option maxRecDepth 100000 in
set_option maxHeartbeats 2000000 in
theorem rs_835 (w : World) (g : Nat) (s : St) (H : IsF w g s) : Calls Tryz.prog 37 #[hP g, .int .u32 835] w fun e w' => e = .returned (.tuple #[.int .u32 (((readC s 835).getD 0 : Nat) : Int), .bool (readC s 835).isSome]) ∧ Below w.heap.size w w' := by
  rw [show readC s 835 = some (s.r 835) from read_k s 835 (by decide) (by decide) (by decide) (by decide)]
  dsimp only [Option.getD_some, Option.isSome_some]
  have c : w.cell? ⟨g, 10, none⟩ = some (.int .u32 (s.r 835 : Int)) := H.blk.cellTab 10 (by decide)
  go_enter Tryz.func37, Tryz.ntmps37
  go_wp2_with fail
  go_ret2
  exact ⟨rfl, Below.refl _ _⟩
set_option maxRecDepth 100000 in
set_option maxHeartbeats 2000000 in
theorem rs_836 (w : World) (g : Nat) (s : St) (H : IsF w g s) : Calls Tryz.prog 37 #[hP g, .int .u32 836] w fun e w' => e = .returned (.tuple #[.int .u32 (((readC s 836).getD 0 : Nat) : Int), .bool (readC s 836).isSome]) ∧ Below w.heap.size w w' := by
  rw [show readC s 836 = some (s.r 836) from read_k s 836 (by decide) (by decide) (by decide) (by decide)]
  dsimp only [Option.getD_some, Option.isSome_some]
  have c : w.cell? ⟨g, 5, none⟩ = some (.int .u32 (s.r 836 : Int)) := H.blk.cellTab 5 (by decide)
  go_enter Tryz.func37, Tryz.ntmps37
  go_wp2_with fail
  go_ret2
  exact ⟨rfl, Below.refl _ _⟩
set_option maxRecDepth 100000 in
set_option maxHeartbeats 2000000 in
theorem rs_2816 (w : World) (g : Nat) (s : St) (H : IsF w g s) : Calls Tryz.prog 37 #[hP g, .int .u32 2816] w fun e w' => e = .returned (.tuple #[.int .u32 (((readC s 2816).getD 0 : Nat) : Int), .bool (readC s 2816).isSome]) ∧ Below w.heap.size w w' := by
  rw [show readC s 2816 = some (s.cyc % 4294967296) from rfl]
  dsimp only [Option.getD_some, Option.isSome_some]
  have c : w.cell? ⟨g, 75, none⟩ = some (.int .u64 (s.cyc : Int)) := H.blk.cellTab 75 (by decide)
  have hl := H.inv.ok.cyc
  obtain ⟨v, hv⟩ : ∃ v, v = s.cyc % 4294967296 := ⟨_, rfl⟩
  rw [← hv]
  have e1 : (s.cyc : Int) % 4294967296 = (v : Int) := by omega
  rw [← e1]
  clear e1 hl
  generalize s.cyc = x at *
  clear hv H
  go_enter Tryz.func37, Tryz.ntmps37
  go_wp2_with fail
  go_ret2
  exact ⟨rfl, Below.refl _ _⟩
set_option maxRecDepth 100000 in
set_option maxHeartbeats 2000000 in
theorem rs_2944 (w : World) (g : Nat) (s : St) (H : IsF w g s) : Calls Tryz.prog 37 #[hP g, .int .u32 2944] w fun e w' => e = .returned (.tuple #[.int .u32 (((readC s 2944).getD 0 : Nat) : Int), .bool (readC s 2944).isSome]) ∧ Below w.heap.size w w' := by
  rw [show readC s 2944 = some (s.cyc / 4294967296) from rfl]
  dsimp only [Option.getD_some, Option.isSome_some]
  have c : w.cell? ⟨g, 75, none⟩ = some (.int .u64 (s.cyc : Int)) := H.blk.cellTab 75 (by decide)
  have hl := H.inv.ok.cyc
  obtain ⟨v, hv⟩ : ∃ v, v = s.cyc / 4294967296 := ⟨_, rfl⟩
  rw [← hv]
  have e1 : (s.cyc : Int) / 4294967296 = (v : Int) := by omega
  have hvl : v < 4294967296 := by omega
  have e2 : (v : Int) % 4294967296 = (v : Int) := by omega
  generalize s.cyc = x at *
  clear hv H
  go_enter Tryz.func37, Tryz.ntmps37
  go_wp2_with fail
  go_ret2
  exact ⟨rfl, Below.refl _ _⟩
set_option maxRecDepth 100000 in
set_option maxHeartbeats 2000000 in
theorem rs_2818 (w : World) (g : Nat) (s : St) (H : IsF w g s) : Calls Tryz.prog 37 #[hP g, .int .u32 2818] w fun e w' => e = .returned (.tuple #[.int .u32 (((readC s 2818).getD 0 : Nat) : Int), .bool (readC s 2818).isSome]) ∧ Below w.heap.size w w' := by
  rw [show readC s 2818 = some (s.ret % 4294967296) from rfl]
  dsimp only [Option.getD_some, Option.isSome_some]
  have c : w.cell? ⟨g, 76, none⟩ = some (.int .u64 (s.ret : Int)) := H.blk.cellTab 76 (by decide)
  have hl := H.inv.ok.ret
  obtain ⟨v, hv⟩ : ∃ v, v = s.ret % 4294967296 := ⟨_, rfl⟩
  rw [← hv]
  have e1 : (s.ret : Int) % 4294967296 = (v : Int) := by omega
  rw [← e1]
  clear e1 hl
  generalize s.ret = x at *
  clear hv H
  go_enter Tryz.func37, Tryz.ntmps37
  go_wp2_with fail
  go_ret2
  exact ⟨rfl, Below.refl _ _⟩
set_option maxRecDepth 100000 in
set_option maxHeartbeats 2000000 in
theorem rs_2946 (w : World) (g : Nat) (s : St) (H : IsF w g s) : Calls Tryz.prog 37 #[hP g, .int .u32 2946] w fun e w' => e = .returned (.tuple #[.int .u32 (((readC s 2946).getD 0 : Nat) : Int), .bool (readC s 2946).isSome]) ∧ Below w.heap.size w w' := by
  rw [show readC s 2946 = some (s.ret / 4294967296) from rfl]
  dsimp only [Option.getD_some, Option.isSome_some]
  have c : w.cell? ⟨g, 76, none⟩ = some (.int .u64 (s.ret : Int)) := H.blk.cellTab 76 (by decide)
  have hl := H.inv.ok.ret
  obtain ⟨v, hv⟩ : ∃ v, v = s.ret / 4294967296 := ⟨_, rfl⟩
  rw [← hv]
  have e1 : (s.ret : Int) / 4294967296 = (v : Int) := by omega
  have hvl : v < 4294967296 := by omega
  have e2 : (v : Int) % 4294967296 = (v : Int) := by omega
  generalize s.ret = x at *
  clear hv H
  go_enter Tryz.func37, Tryz.ntmps37
  go_wp2_with fail
  go_ret2
  exact ⟨rfl, Below.refl _ _⟩
set_option maxRecDepth 100000 in
set_option maxHeartbeats 2000000 in
theorem rs_no (w : World) (g n : Nat) (hn : n ≠ 768 ∧ n ≠ 769 ∧ n ≠ 772 ∧ n ≠ 773 ∧ n ≠ 832 ∧ n ≠ 833 ∧ n ≠ 834 ∧ n ≠ 835 ∧ n ≠ 836 ∧ n ≠ 2816 ∧ n ≠ 2944 ∧ n ≠ 2818 ∧ n ≠ 2946) : Calls Tryz.prog 37 #[hP g, .int .u32 (n : Int)] w fun e w' => e = .returned (.tuple #[.int .u32 0, .bool false]) ∧ Below w.heap.size w w' := by
  obtain ⟨h768, h769, h772, h773, h832, h833, h834, h835, h836, h2816, h2944, h2818, h2946⟩ := hn
  have d768 : ((n : Int) == 768) = false := beq_eq_false_iff_ne.2 (by omega)
  have d769 : ((n : Int) == 769) = false := beq_eq_false_iff_ne.2 (by omega)
  have d772 : ((n : Int) == 772) = false := beq_eq_false_iff_ne.2 (by omega)
  have d773 : ((n : Int) == 773) = false := beq_eq_false_iff_ne.2 (by omega)
  have d832 : ((n : Int) == 832) = false := beq_eq_false_iff_ne.2 (by omega)
  have d833 : ((n : Int) == 833) = false := beq_eq_false_iff_ne.2 (by omega)
  have d834 : ((n : Int) == 834) = false := beq_eq_false_iff_ne.2 (by omega)
  have d835 : ((n : Int) == 835) = false := beq_eq_false_iff_ne.2 (by omega)
  have d836 : ((n : Int) == 836) = false := beq_eq_false_iff_ne.2 (by omega)
  have d2816 : ((n : Int) == 2816) = false := beq_eq_false_iff_ne.2 (by omega)
  have d2944 : ((n : Int) == 2944) = false := beq_eq_false_iff_ne.2 (by omega)
  have d2818 : ((n : Int) == 2818) = false := beq_eq_false_iff_ne.2 (by omega)
  have d2946 : ((n : Int) == 2946) = false := beq_eq_false_iff_ne.2 (by omega)
  go_enter Tryz.func37, Tryz.ntmps37
  go_wp2_with fail
  go_ret2
  exact ⟨rfl, Below.refl _ _⟩
set_option maxRecDepth 100000 in
set_option maxHeartbeats 2000000 in
theorem rs_any (w : World) (g n : Nat) (s : St) (H : IsF w g s) (h1 : ¬ (928 ≤ n ∧ n < 932)) (h2 : ¬ (944 ≤ n ∧ n < 960)) (h3 : ¬ (3857 ≤ n ∧ n < 3861)) : Calls Tryz.prog 37 #[hP g, .int .u32 (n : Int)] w fun e w' => e = .returned (.tuple #[.int .u32 (((readC s n).getD 0 : Nat) : Int), .bool (readC s n).isSome]) ∧ Below w.heap.size w w' := by
  by_cases h768 : n = 768
  · subst h768; exact rs_768 w g s H
  by_cases h769 : n = 769
  · subst h769; exact rs_769 w g s H
  by_cases h772 : n = 772
  · subst h772; exact rs_772 w g s H
  by_cases h773 : n = 773
  · subst h773; exact rs_773 w g s H
  by_cases h832 : n = 832
  · subst h832; exact rs_832 w g s H
  by_cases h833 : n = 833
  · subst h833; exact rs_833 w g s H
  by_cases h834 : n = 834
  · subst h834; exact rs_834 w g s H
  by_cases h835 : n = 835
  · subst h835; exact rs_835 w g s H
  by_cases h836 : n = 836
  · subst h836; exact rs_836 w g s H
  by_cases h2816 : n = 2816
  · subst h2816; exact rs_2816 w g s H
  by_cases h2944 : n = 2944
  · subst h2944; exact rs_2944 w g s H
  by_cases h2818 : n = 2818
  · subst h2818; exact rs_2818 w g s H
  by_cases h2946 : n = 2946
  · subst h2946; exact rs_2946 w g s H
  have hr : readC s n = none := by
    unfold readC rM isK
    rw [if_neg h769, if_neg h2816, if_neg h2944, if_neg h2818, if_neg h2946, if_neg (by omega), if_neg h1, if_neg]
    simp only [Bool.or_eq_true, beq_iff_eq, Bool.and_eq_true, decide_eq_true_eq]
    omega
  rw [hr]
  exact rs_no w g n ⟨h768, h769, h772, h773, h832, h833, h834, h835, h836, h2816, h2944, h2818, h2946⟩
end Go.Proofs.YtgpofoggfifnjaaGreatDoor.Cs
namespace Go.Proofs.YtgpofoggfifnjaaGreatDoor.Cs
open Go Go.RowKit

def zst : St := ⟨0, fun _ => 0, fun _ => 0, 0, 0⟩
theorem zrow : (Tryz.prog.info? 43).map (fun i => (i.zero, i.size)) = some (some (.agg (tab 77 (fV zst))), 77) := by kernel_rfl
theorem zeroF (w : World) : (zeroValue 43).run Tryz.prog w = .ok (.agg (tab 77 (fV zst))) w := (zero_of_info zrow).1 w
theorem row0 : (tab 77 (fV zst)).setIfInBounds 0 (.int .i64 3) = tab 77 (fV st0) := by
  rw [tab_set]
  refine tab_ext _ _ _ fun j hj => ?_
  by_cases e : j = 0
  · subst e; rfl
  · rw [if_neg e]; unfold fV; simp only [e, if_false]; rfl
theorem inv0 : Inv st0 := ⟨st0_ok, rfl, Or.inl rfl, Or.inl rfl⟩
set_option maxRecDepth 100000 in
set_option maxHeartbeats 2000000 in
theorem cnew_any (w : World) : Calls Tryz.prog 38 #[] w fun e w' => (∃ g, e = .returned (hP g) ∧ IsF w' g st0 ∧ w.heap.size ≤ g) ∧ Below w.heap.size w w' := by
  have hz := zeroF
  have hr := row0
  have hne : tab 77 (fV zst) ≠ #[] := by
    intro h
    have := congrArg Array.size h
    rw [tab_size] at this
    exact absurd this (by decide)
  generalize tab 77 (fV zst) = Z at *
  have he : (Z = #[]) = False := eq_false hne
  have hsz : (Tryz.prog.info? 43).map (·.size) = some 77 := by kernel_rfl
  clear hne
  have HW : Has (w.alloc (.cells (tab 77 (fV st0)) 43)) w.heap.size 43 (tab 77 (fV st0)) := Has.new _ _ _
  generalize hR : tab 77 (fV st0) = R at *
  have HR := Lib.hid hR
  clear hR
  go_enter Tryz.func38, Tryz.ntmps38
  go_wp2_with fail
  go_ret
  exact ⟨⟨w.heap.size, rfl, ⟨by rw [HR.out]; exact HW, inv0⟩, Nat.le_refl _⟩, (Below.refl _ w).alloc (Nat.le_refl _) _⟩
end Go.Proofs.YtgpofoggfifnjaaGreatDoor.Cs
