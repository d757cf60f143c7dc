/-
Layer 15: package csr's writing: setConfigs, beginsLocked, setAddress, writeSingle, Write.
-/
import Derived.Test.YtgpofoggfifnjaaGreatDoorJAy
namespace Go.Proofs.YtgpofoggfifnjaaGreatDoor.Cs
open Go Go.RowKit
open Go.Proofs.YtgpofoggfifnjaaGreatDoor.Pm (En Sl SlC SlE enV enV_one en0 TabT at_entry infoE)

theorem cfgS_up (s : St) (b x i : Nat) (r : Nat) (hr : r = x / 2 ^ (8 * i) % 256) : cfgS { s with cfg := cfg4 s.cfg b x i } (b + i) r = { s with cfg := cfg4 s.cfg b x (i + 1) } := by
  subst hr
  have e := cfg4_at s.cfg b x i
  unfold cfgS
  dsimp only
  by_cases h : s.cfg (b + i) < 128
  · rw [if_neg (by show ¬ lkB (cfg4 s.cfg b x i (b + i)) = true; rw [e]; unfold lkB; rw [decide_eq_true_eq]; omega), cfg4_yes _ _ _ _ h]
  · rw [if_pos (by show lkB (cfg4 s.cfg b x i (b + i)) = true; rw [e]; unfold lkB; rw [decide_eq_true_eq]; omega), cfg4_no _ _ _ _ h]
set_option maxRecDepth 100000 in
set_option maxHeartbeats 4000000 in
theorem setConfigs_any (w : World) (g i x : Nat) (s : St) (H : IsF w g s) (hi : i < 4) (hx : x < 4294967296) : Calls Tryz.prog 46 #[hP g, .int .u32 (i : Int), .int .u32 (x : Int)] w fun e w' => e = .returned (.tuple #[]) ∧ IsF w' g { s with cfg := cfg4 s.cfg (4 * i) x 4 } ∧ Only (S1 g) w w' := by
  obtain ⟨b0, e0⟩ : ∃ b, b = x % 256 := ⟨_, rfl⟩
  obtain ⟨b1, e1⟩ : ∃ b, b = x / 256 % 256 := ⟨_, rfl⟩
  obtain ⟨b2, e2⟩ : ∃ b, b = x / 65536 % 256 := ⟨_, rfl⟩
  obtain ⟨b3, e3⟩ : ∃ b, b = x / 16777216 % 256 := ⟨_, rfl⟩
  obtain ⟨s0, z0⟩ : ∃ t, t = s := ⟨_, rfl⟩
  obtain ⟨s1, z1⟩ : ∃ t : St, t = { s with cfg := cfg4 s.cfg (4 * i) x 1 } := ⟨_, rfl⟩
  obtain ⟨s2, z2⟩ : ∃ t : St, t = { s with cfg := cfg4 s.cfg (4 * i) x 2 } := ⟨_, rfl⟩
  obtain ⟨s3, z3⟩ : ∃ t : St, t = { s with cfg := cfg4 s.cfg (4 * i) x 3 } := ⟨_, rfl⟩
  obtain ⟨s4, z4⟩ : ∃ t : St, t = { s with cfg := cfg4 s.cfg (4 * i) x 4 } := ⟨_, rfl⟩
  have u0 : cfgS s0 (4 * i) b0 = s1 := by
    rw [z0, z1, ← cfgS_up s (4 * i) x 0 b0 (by rw [e0]; simp), cfg4_0]
    rfl
  have u1 : cfgS s1 (4 * i + 1) b1 = s2 := by rw [z1, z2]; exact cfgS_up s (4 * i) x 1 b1 (by rw [e1])
  have u2 : cfgS s2 (4 * i + 2) b2 = s3 := by rw [z2, z3]; exact cfgS_up s (4 * i) x 2 b2 (by rw [e2])
  have u3 : cfgS s3 (4 * i + 3) b3 = s4 := by rw [z3, z4]; exact cfgS_up s (4 * i) x 3 b3 (by rw [e3])
  rw [← z4]
  have k0 := fun W (hW : IsF W g s0) => setConfig_any W g (4 * i) b0 s0 hW (by omega) (by omega)
  have k1 := fun W (hW : IsF W g s1) => setConfig_any W g (4 * i + 1) b1 s1 hW (by omega) (by omega)
  have k2 := fun W (hW : IsF W g s2) => setConfig_any W g (4 * i + 2) b2 s2 hW (by omega) (by omega)
  have k3 := fun W (hW : IsF W g s3) => setConfig_any W g (4 * i + 3) b3 s3 hW (by omega) (by omega)
  rw [u0] at k0
  rw [u1] at k1
  rw [u2] at k2
  rw [u3] at k3
  rw [← z0] at H
  clear z0 z1 z2 z3 z4 u0 u1 u2 u3
  obtain ⟨j0, q0⟩ : ∃ j, j = 4 * i := ⟨_, rfl⟩
  obtain ⟨j1, q1⟩ : ∃ j, j = 4 * i + 1 := ⟨_, rfl⟩
  obtain ⟨j2, q2⟩ : ∃ j, j = 4 * i + 2 := ⟨_, rfl⟩
  obtain ⟨j3, q3⟩ : ∃ j, j = 4 * i + 3 := ⟨_, rfl⟩
  rw [← q0] at k0
  rw [← q1] at k1
  rw [← q2] at k2
  rw [← q3] at k3
  have f0 : 4 * (i : Int) = (j0 : Int) := by omega
  have f1 : (j0 : Int) + 1 = (j1 : Int) := by omega
  have f2 : (j0 : Int) + 2 = (j2 : Int) := by omega
  have f3 : (j0 : Int) + 3 = (j3 : Int) := by omega
  have g0 : (j0 : Int) < 16 := by omega
  have g1 : (j1 : Int) < 16 := by omega
  have g2 : (j2 : Int) < 16 := by omega
  have g3 : (j3 : Int) < 16 := by omega
  have m0 : (x : Int) % 256 = (b0 : Int) := by omega
  obtain ⟨y1, d1⟩ : ∃ y, y = x / 256 := ⟨_, rfl⟩
  obtain ⟨y2, d2⟩ : ∃ y, y = x / 65536 := ⟨_, rfl⟩
  have p1 : (x : Int) / 256 = (y1 : Int) := by omega
  have p2 : (x : Int) / 65536 = (y2 : Int) := by omega
  have p3 : (x : Int) / 16777216 = (b3 : Int) := by omega
  have p4 : (b3 : Int) < 256 := by omega
  have m1 : (y1 : Int) % 256 = (b1 : Int) := by omega
  have m2 : (y2 : Int) % 256 = (b2 : Int) := by omega
  have HI := Lib.hid H
  clear e0 e1 e2 e3 q0 q1 q2 q3 d1 d2 H
  go_enter Tryz.func46, Tryz.ntmps46
  go_wp2_with fail
  go_loopw [7] (fun ct wr => ((ct = .int .u32 0 ∧ IsF wr g s0) ∨ (ct = .int .u32 1 ∧ IsF wr g s1) ∨ (ct = .int .u32 2 ∧ IsF wr g s2) ∨ (ct = .int .u32 3 ∧ IsF wr g s3) ∨ (ct = .int .u32 4 ∧ IsF wr g s4)) ∧ Only (S1 g) w wr) (fun ct _ => (4 - (intOf ct)).toNat)
  case atStart => exact ⟨Or.inl ⟨rfl, HI.out⟩, Only.refl _ _⟩
  case round =>
    obtain ⟨hor, hb⟩ := hrel
    have HB := Lib.hid hb
    rcases hor with ⟨rfl, hW⟩ | ⟨rfl, hW⟩ | ⟨rfl, hW⟩ | ⟨rfl, hW⟩ | ⟨rfl, hW⟩
    · have kk := k0 wr hW
      clear hb hW k0 k1 k2 k3
      go_wp2_with (go_at_call 63; with_reducible refine kk.mono ?_; rintro e w2 ⟨rfl, HN, hb2⟩)
      go_roundw
      case rel => exact ⟨Or.inr (Or.inl ⟨rfl, HN⟩), HB.out.trans hb2⟩
      case measure => decide
    · have kk := k1 wr hW
      clear hb hW k0 k1 k2 k3
      go_wp2_with (go_at_call 63; with_reducible refine kk.mono ?_; rintro e w2 ⟨rfl, HN, hb2⟩)
      go_roundw
      case rel => exact ⟨Or.inr (Or.inr (Or.inl ⟨rfl, HN⟩)), HB.out.trans hb2⟩
      case measure => decide
    · have kk := k2 wr hW
      clear hb hW k0 k1 k2 k3
      go_wp2_with (go_at_call 63; with_reducible refine kk.mono ?_; rintro e w2 ⟨rfl, HN, hb2⟩)
      go_roundw
      case rel => exact ⟨Or.inr (Or.inr (Or.inr (Or.inl ⟨rfl, HN⟩))), HB.out.trans hb2⟩
      case measure => decide
    · have kk := k3 wr hW
      clear hb hW k0 k1 k2 k3
      go_wp2_with (go_at_call 63; with_reducible refine kk.mono ?_; rintro e w2 ⟨rfl, HN, hb2⟩)
      go_roundw
      case rel => exact ⟨Or.inr (Or.inr (Or.inr (Or.inr (⟨rfl, HN⟩)))), HB.out.trans hb2⟩
      case measure => decide
    · have HW := Lib.hid hW
      clear hb hW
      go_wp2_with fail
      first | go_end0 | refine bodyPost_ret (results_none rfl _ _ _) rfl ?_
      exact ⟨rfl, HW.out, HB.out⟩
def begB (s : St) (i : Nat) : Bool := decide (i < 16) && lkB (s.cfg i) && decide (s.cfg i / 8 % 4 = 1)
set_option maxRecDepth 100000 in
set_option maxHeartbeats 2000000 in
theorem begins_any (w : World) (g i : Nat) (s : St) (H : IsF w g s) (hi : i ≤ 16) : Calls Tryz.prog 64 #[hP g, .int .u32 (i : Int)] w fun e w' => e = .returned (.bool (begB s i)) ∧ w = w' := by
  unfold begB
  by_cases h : i < 16
  · have dk : (i : Int) < 16 := by omega
    have hat := fun W => at_ent g i dk W
    have hal := fun W => at_lck g i dk W
    have cl := H.cl i h
    have c0 : w.cell? ⟨g, 11 + i * 3, none⟩ = some (.int .i64 ((s.cfg i / 8 % 4 : Nat) : Int)) := H.ce i 0 h (by decide)
    rw [decide_eq_true h, Bool.true_and]
    have he : (((s.cfg i / 8 % 4 : Nat) : Int) == 1) = decide (s.cfg i / 8 % 4 = 1) := by
      by_cases q : s.cfg i / 8 % 4 = 1
      · rw [decide_eq_true q, q]; rfl
      · rw [decide_eq_false q]; exact beq_eq_false_iff_ne.2 (by omega)
    generalize decide (s.cfg i / 8 % 4 = 1) = b1 at *
    generalize s.cfg i / 8 % 4 = m at *
    clear H h
    generalize lkB (s.cfg i) = lb at *
    cases lb
    · go_enter Tryz.func64, Tryz.ntmps64
      go_wp2_with fail
      go_ret
      exact ⟨rfl, rfl⟩
    · go_enter Tryz.func64, Tryz.ntmps64
      go_wp2_with fail
      go_ret
      exact ⟨rfl, rfl⟩
  · have dk : ¬ (i : Int) < 16 := by omega
    rw [decide_eq_false h]
    go_enter Tryz.func64, Tryz.ntmps64
    go_wp2_with fail
    go_ret
    exact ⟨rfl, rfl⟩
theorem locked_is (s : St) (k : Nat) : locked s k = (lkB (s.cfg k) || begB s (k + 1)) := by
  unfold locked lkB begB lkB
  congr 3
  exact decide_eq_decide.2 ⟨fun h => by omega, fun h => by omega⟩
set_option maxRecDepth 100000 in
set_option maxHeartbeats 2000000 in
theorem setAddress_any (w : World) (g k x : Nat) (s : St) (H : IsF w g s) (hk : k < 16) (hx : x < 4294967296) : Calls Tryz.prog 47 #[hP g, .int .u32 (k : Int), .int .u32 (x : Int)] w fun e w' => e = .returned (.tuple #[]) ∧ IsF w' g (if locked s k = true then s else { s with r := upd s.r (944 + k) x }) ∧ Only (S1 g) w w' := by
  have cl := H.cl k hk
  have dk : (k : Int) < 16 := by omega
  have hat := fun W => at_ent g k dk W
  have hal := fun W => at_lck g k dk W
  rw [locked_is]
  have kb := begins_any w g (k + 1) s H (by omega)
  obtain ⟨j, hj⟩ : ∃ j, j = k + 1 := ⟨_, rfl⟩
  rw [← hj] at kb ⊢
  have e1 : (k : Int) + 1 = (j : Int) := by omega
  have c2 : w.cell? ⟨g, 11 + k * 3 + 2, none⟩ = some (.int .u32 (s.r (944 + k) : Int)) := H.ce k 2 hk (by decide)
  have f2 : w.frozen? ⟨g, 11 + k * 3 + 2, none⟩ = false := H.blk.free _
  have HN := Lib.hid (H.adr k x hk hx)
  have HH := Lib.hid H
  clear H hj
  generalize lkB (s.cfg k) = lb at *
  generalize begB s j = bb at *
  generalize s.r (944 + k) = a at *
  cases lb
  · cases bb
    · rw [if_neg (by decide)]
      go_enter Tryz.func47, Tryz.ntmps47
      go_wp2_with (go_at_call 64; with_reducible refine kb.mono ?_; rintro e w2 ⟨rfl, rfl⟩)
      first | go_end0 | refine bodyPost_ret (results_none rfl _ _ _) rfl ?_
      exact ⟨rfl, HN.out, Only.setCell _ (show S1 g g from rfl) _⟩
    · rw [if_pos (by decide)]
      go_enter Tryz.func47, Tryz.ntmps47
      go_wp2_with (go_at_call 64; with_reducible refine kb.mono ?_; rintro e w2 ⟨rfl, rfl⟩)
      first | go_end0 | refine bodyPost_ret (results_none rfl _ _ _) rfl ?_
      exact ⟨rfl, HH.out, Only.refl _ _⟩
  · rw [if_pos (by simp)]
    go_enter Tryz.func47, Tryz.ntmps47
    go_wp2_with (go_at_call 64; with_reducible refine kb.mono ?_; rintro e w2 ⟨rfl, rfl⟩)
    first | go_end0 | refine bodyPost_ret (results_none rfl _ _ _) rfl ?_
    exact ⟨rfl, HH.out, Only.refl _ _⟩
theorem wC_k (s : St) (n x : Nat) (h1 : ¬ (n = 769 ∨ n = 836 ∨ n = 2816 ∨ n = 2944 ∨ n = 2818 ∨ n = 2946)) (h3 : ¬ (928 ≤ n ∧ n < 932)) (h4 : isK n = true) (h5 : ¬ (944 ≤ n ∧ n < 960)) : writeC s n x = some { s with r := upd s.r n (maskR n x) } := by
  unfold writeC
  rw [if_neg (by omega), if_neg (by omega), if_neg (by omega), if_neg (by omega), if_neg (by omega), if_neg h3, if_pos h4, if_neg]
  simp only [Bool.and_eq_true, decide_eq_true_eq]
  omega
set_option maxRecDepth 100000 in
set_option maxHeartbeats 2000000 in
theorem ws_768 (w : World) (g x : Nat) (s : St) (H : IsF w g s) (hx : x < 4294967296) : Calls Tryz.prog 48 #[hP g, .int .u32 768, .int .u32 (x : Int)] w fun e w' => e = .returned (.bool (writeC s 768 x).isSome) ∧ IsF w' g ((writeC s 768 x).getD s) ∧ Only (S1 g) w w' := by
  rw [show writeC s 768 x = some ({ s with r := upd s.r 768 (stW x) }) from (wC_k s 768 x (by decide) (by decide) (by decide) (by decide)).trans rfl]
  dsimp only [Option.getD_some, Option.isSome_some]
  have kS := statusOf_any x w hx
  have hI := H.inv.sta (stW x) (stW_mpp x) (stW_form x)
  have hS := fun w1 (h1 : IsF w1 g s) (w' : World) hB => h1.sta (w' := w') (stW x) hI hB
  have HS := Lib.hid hS
  have hone := stV_one (stW x)
  have HH := Lib.hid H
  obtain ⟨v, hv⟩ : ∃ v, v = stV (stW x) := ⟨_, rfl⟩
  rw [← hv] at kS hone
  have HV := Lib.hid hv
  clear hS hI hv H
  go_enter Tryz.func48, Tryz.ntmps48
  go_wp2_with (first
    | (go_at_call 65; with_reducible refine kS.mono ?_; rintro e w1 ⟨rfl, hb1⟩; have H1 := HH.out.after hb1; have hB1 := H1.blk)
    | (refine wp_store_tab rfl 36 _ _ rfl g 1 rfl 3 v rfl 77 _ _ hB1 infoS3 (by decide) hone ?_
       intro w5 hB5 hg5
       go_frame))
  go_ret
  exact ⟨rfl, HS.out w1 H1 _ (by rw [← HV.out]; exact hB5), (Only.of_below (S := S1 g) hb1).trans (Only.of_grown (S := S1 g) hg5 fun l e => by injection e with e; exact e.symm)⟩
set_option maxRecDepth 100000 in
set_option maxHeartbeats 2000000 in
theorem ws_769 (w : World) (g x : Nat) (s : St) (H : IsF w g s) (_hx : x < 4294967296) : Calls Tryz.prog 48 #[hP g, .int .u32 769, .int .u32 (x : Int)] w fun e w' => e = .returned (.bool (writeC s 769 x).isSome) ∧ IsF w' g ((writeC s 769 x).getD s) ∧ Only (S1 g) w w' := by
  rw [show writeC s 769 x = some (s) from rfl]
  dsimp only [Option.getD_some, Option.isSome_some]
  go_enter Tryz.func48, Tryz.ntmps48
  go_wp2_with fail
  go_ret
  exact ⟨rfl, H, Only.refl _ _⟩
set_option maxRecDepth 100000 in
set_option maxHeartbeats 2000000 in
theorem ws_772 (w : World) (g x : Nat) (s : St) (H : IsF w g s) (hx : x < 4294967296) : Calls Tryz.prog 48 #[hP g, .int .u32 772, .int .u32 (x : Int)] w fun e w' => e = .returned (.bool (writeC s 772 x).isSome) ∧ IsF w' g ((writeC s 772 x).getD s) ∧ Only (S1 g) w w' := by
  rw [show writeC s 772 x = some ({ s with r := upd s.r 772 (x / 128 % 2 * 128) }) from (wC_k s 772 x (by decide) (by decide) (by decide) (by decide)).trans rfl]
  dsimp only [Option.getD_some, Option.isSome_some]
  have c : w.cell? ⟨g, 4, none⟩ = some (.int .u32 (s.r 772 : Int)) := H.blk.cellTab 4 (by decide)
  have fz : w.frozen? ⟨g, 4, none⟩ = false := H.blk.free 4
  have ha := a32 x 7 hx (by decide)
  replace ha : bits .and .u32 (x : Int) 128 = ((x / 128 % 2 * 128 : Nat) : Int) := ha
  have HN := Lib.hid (H.reg 4 (x / 128 % 2 * 128) (by decide) (by decide) (H.inv.ie _ (by omega)))
  generalize x / 128 % 2 * 128 = v at *
  clear H
  go_enter Tryz.func48, Tryz.ntmps48
  go_wp2_with fail
  go_ret
  exact ⟨rfl, HN.out, Only.setCell _ (show S1 g g from rfl) _⟩
set_option maxRecDepth 100000 in
set_option maxHeartbeats 2000000 in
theorem ws_773 (w : World) (g x : Nat) (s : St) (H : IsF w g s) (hx : x < 4294967296) : Calls Tryz.prog 48 #[hP g, .int .u32 773, .int .u32 (x : Int)] w fun e w' => e = .returned (.bool (writeC s 773 x).isSome) ∧ IsF w' g ((writeC s 773 x).getD s) ∧ Only (S1 g) w w' := by
  rw [show writeC s 773 x = some ({ s with r := upd s.r 773 (x - x % 4) }) from (wC_k s 773 x (by decide) (by decide) (by decide) (by decide)).trans rfl]
  dsimp only [Option.getD_some, Option.isSome_some]
  have c : w.cell? ⟨g, 6, none⟩ = some (.int .u32 (s.r 773 : Int)) := H.blk.cellTab 6 (by decide)
  have fz : w.frozen? ⟨g, 6, none⟩ = false := H.blk.free 6
  have kA := aligned_any x w hx
  have HN := Lib.hid (H.reg 6 (x - x % 4) (by decide) (by decide) (H.inv.reg 773 _ (by omega) (by decide) (by decide) (by decide)))
  generalize x - x % 4 = v at *
  clear H
  go_enter Tryz.func48, Tryz.ntmps48
  go_wp2_with (go_at_call 56; with_reducible refine kA.mono ?_; rintro e w2 ⟨rfl, rfl⟩)
  go_ret
  exact ⟨rfl, HN.out, Only.setCell _ (show S1 g g from rfl) _⟩
set_option maxRecDepth 100000 in
set_option maxHeartbeats 2000000 in
theorem ws_832 (w : World) (g x : Nat) (s : St) (H : IsF w g s) (hx : x < 4294967296) : Calls Tryz.prog 48 #[hP g, .int .u32 832, .int .u32 (x : Int)] w fun e w' => e = .returned (.bool (writeC s 832 x).isSome) ∧ IsF w' g ((writeC s 832 x).getD s) ∧ Only (S1 g) w w' := by
  rw [show writeC s 832 x = some ({ s with r := upd s.r 832 x }) from (wC_k s 832 x (by decide) (by decide) (by decide) (by decide)).trans rfl]
  dsimp only [Option.getD_some, Option.isSome_some]
  have c : w.cell? ⟨g, 7, none⟩ = some (.int .u32 (s.r 832 : Int)) := H.blk.cellTab 7 (by decide)
  have fz : w.frozen? ⟨g, 7, none⟩ = false := H.blk.free 7
  have HN := Lib.hid (H.reg 7 x (by decide) (by decide) (H.inv.reg 832 _ hx (by decide) (by decide) (by decide)))
  clear H
  go_enter Tryz.func48, Tryz.ntmps48
  go_wp2_with fail
  go_ret
  exact ⟨rfl, HN.out, Only.setCell _ (show S1 g g from rfl) _⟩
set_option maxRecDepth 100000 in
set_option maxHeartbeats 2000000 in
theorem ws_833 (w : World) (g x : Nat) (s : St) (H : IsF w g s) (hx : x < 4294967296) : Calls Tryz.prog 48 #[hP g, .int .u32 833, .int .u32 (x : Int)] w fun e w' => e = .returned (.bool (writeC s 833 x).isSome) ∧ IsF w' g ((writeC s 833 x).getD s) ∧ Only (S1 g) w w' := by
  rw [show writeC s 833 x = some ({ s with r := upd s.r 833 (x - x % 4) }) from (wC_k s 833 x (by decide) (by decide) (by decide) (by decide)).trans rfl]
  dsimp only [Option.getD_some, Option.isSome_some]
  have c : w.cell? ⟨g, 8, none⟩ = some (.int .u32 (s.r 833 : Int)) := H.blk.cellTab 8 (by decide)
  have fz : w.frozen? ⟨g, 8, none⟩ = false := H.blk.free 8
  have kA := aligned_any x w hx
  have HN := Lib.hid (H.reg 8 (x - x % 4) (by decide) (by decide) (H.inv.reg 833 _ (by omega) (by decide) (by decide) (by decide)))
  generalize x - x % 4 = v at *
  clear H
  go_enter Tryz.func48, Tryz.ntmps48
  go_wp2_with (go_at_call 56; with_reducible refine kA.mono ?_; rintro e w2 ⟨rfl, rfl⟩)
  go_ret
  exact ⟨rfl, HN.out, Only.setCell _ (show S1 g g from rfl) _⟩
set_option maxRecDepth 100000 in
set_option maxHeartbeats 2000000 in
theorem ws_834 (w : World) (g x : Nat) (s : St) (H : IsF w g s) (hx : x < 4294967296) : Calls Tryz.prog 48 #[hP g, .int .u32 834, .int .u32 (x : Int)] w fun e w' => e = .returned (.bool (writeC s 834 x).isSome) ∧ IsF w' g ((writeC s 834 x).getD s) ∧ Only (S1 g) w w' := by
  rw [show writeC s 834 x = some ({ s with r := upd s.r 834 x }) from (wC_k s 834 x (by decide) (by decide) (by decide) (by decide)).trans rfl]
  dsimp only [Option.getD_some, Option.isSome_some]
  have c : w.cell? ⟨g, 9, none⟩ = some (.int .u32 (s.r 834 : Int)) := H.blk.cellTab 9 (by decide)
  have fz : w.frozen? ⟨g, 9, none⟩ = false := H.blk.free 9
  have HN := Lib.hid (H.reg 9 x (by decide) (by decide) (H.inv.reg 834 _ hx (by decide) (by decide) (by decide)))
  clear H
  go_enter Tryz.func48, Tryz.ntmps48
  go_wp2_with fail
  go_ret
  exact ⟨rfl, HN.out, Only.setCell _ (show S1 g g from rfl) _⟩
set_option maxRecDepth 100000 in
set_option maxHeartbeats 2000000 in
theorem ws_835 (w : World) (g x : Nat) (s : St) (H : IsF w g s) (hx : x < 4294967296) : Calls Tryz.prog 48 #[hP g, .int .u32 835, .int .u32 (x : Int)] w fun e w' => e = .returned (.bool (writeC s 835 x).isSome) ∧ IsF w' g ((writeC s 835 x).getD s) ∧ Only (S1 g) w w' := by
  rw [show writeC s 835 x = some ({ s with r := upd s.r 835 x }) from (wC_k s 835 x (by decide) (by decide) (by decide) (by decide)).trans rfl]
  dsimp only [Option.getD_some, Option.isSome_some]
  have c : w.cell? ⟨g, 10, none⟩ = some (.int .u32 (s.r 835 : Int)) := H.blk.cellTab 10 (by decide)
  have fz : w.frozen? ⟨g, 10, none⟩ = false := H.blk.free 10
  have HN := Lib.hid (H.reg 10 x (by decide) (by decide) (H.inv.reg 835 _ hx (by decide) (by decide) (by decide)))
  clear H
  go_enter Tryz.func48, Tryz.ntmps48
  go_wp2_with fail
  go_ret
  exact ⟨rfl, HN.out, Only.setCell _ (show S1 g g from rfl) _⟩
set_option maxRecDepth 100000 in
set_option maxHeartbeats 2000000 in
theorem ws_836 (w : World) (g x : Nat) (s : St) (H : IsF w g s) (_hx : x < 4294967296) : Calls Tryz.prog 48 #[hP g, .int .u32 836, .int .u32 (x : Int)] w fun e w' => e = .returned (.bool (writeC s 836 x).isSome) ∧ IsF w' g ((writeC s 836 x).getD s) ∧ Only (S1 g) w w' := by
  rw [show writeC s 836 x = some (s) from rfl]
  dsimp only [Option.getD_some, Option.isSome_some]
  go_enter Tryz.func48, Tryz.ntmps48
  go_wp2_with fail
  go_ret
  exact ⟨rfl, H, Only.refl _ _⟩
set_option maxRecDepth 100000 in
set_option maxHeartbeats 2000000 in
theorem ws_2816 (w : World) (g x : Nat) (s : St) (H : IsF w g s) (hx : x < 4294967296) : Calls Tryz.prog 48 #[hP g, .int .u32 2816, .int .u32 (x : Int)] w fun e w' => e = .returned (.bool (writeC s 2816 x).isSome) ∧ IsF w' g ((writeC s 2816 x).getD s) ∧ Only (S1 g) w w' := by
  rw [show writeC s 2816 x = some ({ s with cyc := s.cyc / 4294967296 * 4294967296 + x }) from rfl]
  dsimp only [Option.getD_some, Option.isSome_some]
  have c : w.cell? ⟨g, 75, none⟩ = some (.int .u64 (s.cyc : Int)) := H.blk.cellTab 75 (by decide)
  have fz : w.frozen? ⟨g, 75, none⟩ = false := H.blk.free 75
  have hl := H.inv.ok.cyc
  have kA := lower_any s.cyc x w hl hx
  have HN := Lib.hid (H.cycS (s.cyc / 4294967296 * 4294967296 + x) (by omega))
  generalize s.cyc / 4294967296 * 4294967296 + x = v at *
  generalize s.cyc = y at *
  clear H
  go_enter Tryz.func48, Tryz.ntmps48
  go_wp2_with (go_at_call 66; with_reducible refine kA.mono ?_; rintro e w2 ⟨rfl, rfl⟩)
  go_ret
  exact ⟨rfl, HN.out, Only.setCell _ (show S1 g g from rfl) _⟩
set_option maxRecDepth 100000 in
set_option maxHeartbeats 2000000 in
theorem ws_2944 (w : World) (g x : Nat) (s : St) (H : IsF w g s) (hx : x < 4294967296) : Calls Tryz.prog 48 #[hP g, .int .u32 2944, .int .u32 (x : Int)] w fun e w' => e = .returned (.bool (writeC s 2944 x).isSome) ∧ IsF w' g ((writeC s 2944 x).getD s) ∧ Only (S1 g) w w' := by
  rw [show writeC s 2944 x = some ({ s with cyc := s.cyc % 4294967296 + x * 4294967296 }) from rfl]
  dsimp only [Option.getD_some, Option.isSome_some]
  have c : w.cell? ⟨g, 75, none⟩ = some (.int .u64 (s.cyc : Int)) := H.blk.cellTab 75 (by decide)
  have fz : w.frozen? ⟨g, 75, none⟩ = false := H.blk.free 75
  have hl := H.inv.ok.cyc
  have kA := upper_any s.cyc x w hl hx
  have HN := Lib.hid (H.cycS (s.cyc % 4294967296 + x * 4294967296) (by omega))
  generalize s.cyc % 4294967296 + x * 4294967296 = v at *
  generalize s.cyc = y at *
  clear H
  go_enter Tryz.func48, Tryz.ntmps48
  go_wp2_with (go_at_call 67; with_reducible refine kA.mono ?_; rintro e w2 ⟨rfl, rfl⟩)
  go_ret
  exact ⟨rfl, HN.out, Only.setCell _ (show S1 g g from rfl) _⟩
set_option maxRecDepth 100000 in
set_option maxHeartbeats 2000000 in
theorem ws_2818 (w : World) (g x : Nat) (s : St) (H : IsF w g s) (hx : x < 4294967296) : Calls Tryz.prog 48 #[hP g, .int .u32 2818, .int .u32 (x : Int)] w fun e w' => e = .returned (.bool (writeC s 2818 x).isSome) ∧ IsF w' g ((writeC s 2818 x).getD s) ∧ Only (S1 g) w w' := by
  rw [show writeC s 2818 x = some ({ s with ret := s.ret / 4294967296 * 4294967296 + x }) from rfl]
  dsimp only [Option.getD_some, Option.isSome_some]
  have c : w.cell? ⟨g, 76, none⟩ = some (.int .u64 (s.ret : Int)) := H.blk.cellTab 76 (by decide)
  have fz : w.frozen? ⟨g, 76, none⟩ = false := H.blk.free 76
  have hl := H.inv.ok.ret
  have kA := lower_any s.ret x w hl hx
  have HN := Lib.hid (H.retS (s.ret / 4294967296 * 4294967296 + x) (by omega))
  generalize s.ret / 4294967296 * 4294967296 + x = v at *
  generalize s.ret = y at *
  clear H
  go_enter Tryz.func48, Tryz.ntmps48
  go_wp2_with (go_at_call 66; with_reducible refine kA.mono ?_; rintro e w2 ⟨rfl, rfl⟩)
  go_ret
  exact ⟨rfl, HN.out, Only.setCell _ (show S1 g g from rfl) _⟩
set_option maxRecDepth 100000 in
set_option maxHeartbeats 2000000 in
theorem ws_2946 (w : World) (g x : Nat) (s : St) (H : IsF w g s) (hx : x < 4294967296) : Calls Tryz.prog 48 #[hP g, .int .u32 2946, .int .u32 (x : Int)] w fun e w' => e = .returned (.bool (writeC s 2946 x).isSome) ∧ IsF w' g ((writeC s 2946 x).getD s) ∧ Only (S1 g) w w' := by
  rw [show writeC s 2946 x = some ({ s with ret := s.ret % 4294967296 + x * 4294967296 }) from rfl]
  dsimp only [Option.getD_some, Option.isSome_some]
  have c : w.cell? ⟨g, 76, none⟩ = some (.int .u64 (s.ret : Int)) := H.blk.cellTab 76 (by decide)
  have fz : w.frozen? ⟨g, 76, none⟩ = false := H.blk.free 76
  have hl := H.inv.ok.ret
  have kA := upper_any s.ret x w hl hx
  have HN := Lib.hid (H.retS (s.ret % 4294967296 + x * 4294967296) (by omega))
  generalize s.ret % 4294967296 + x * 4294967296 = v at *
  generalize s.ret = y at *
  clear H
  go_enter Tryz.func48, Tryz.ntmps48
  go_wp2_with (go_at_call 67; with_reducible refine kA.mono ?_; rintro e w2 ⟨rfl, rfl⟩)
  go_ret
  exact ⟨rfl, HN.out, Only.setCell _ (show S1 g g from rfl) _⟩
set_option maxRecDepth 100000 in
set_option maxHeartbeats 2000000 in
theorem ws_no (w : World) (g n x : Nat) (hn : n ≠ 768 ∧ n ≠ 769 ∧ n ≠ 772 ∧ n ≠ 773 ∧ n ≠ 832 ∧ n ≠ 833 ∧ n ≠ 834 ∧ n ≠ 835 ∧ n ≠ 836 ∧ n ≠ 2816 ∧ n ≠ 2944 ∧ n ≠ 2818 ∧ n ≠ 2946) : Calls Tryz.prog 48 #[hP g, .int .u32 (n : Int), .int .u32 (x : Int)] w fun e w' => e = .returned (.bool false) ∧ w = w' := by
  obtain ⟨h768, h769, h772, h773, h832, h833, h834, h835, h836, h2816, h2944, h2818, h2946⟩ := hn
  have d768 : ((n : Int) == 768) = false := beq_eq_false_iff_ne.2 (by omega)
  have d769 : ((n : Int) == 769) = false := beq_eq_false_iff_ne.2 (by omega)
  have d772 : ((n : Int) == 772) = false := beq_eq_false_iff_ne.2 (by omega)
  have d773 : ((n : Int) == 773) = false := beq_eq_false_iff_ne.2 (by omega)
  have d832 : ((n : Int) == 832) = false := beq_eq_false_iff_ne.2 (by omega)
  have d833 : ((n : Int) == 833) = false := beq_eq_false_iff_ne.2 (by omega)
  have d834 : ((n : Int) == 834) = false := beq_eq_false_iff_ne.2 (by omega)
  have d835 : ((n : Int) == 835) = false := beq_eq_false_iff_ne.2 (by omega)
  have d836 : ((n : Int) == 836) = false := beq_eq_false_iff_ne.2 (by omega)
  have d2816 : ((n : Int) == 2816) = false := beq_eq_false_iff_ne.2 (by omega)
  have d2944 : ((n : Int) == 2944) = false := beq_eq_false_iff_ne.2 (by omega)
  have d2818 : ((n : Int) == 2818) = false := beq_eq_false_iff_ne.2 (by omega)
  have d2946 : ((n : Int) == 2946) = false := beq_eq_false_iff_ne.2 (by omega)
  go_enter Tryz.func48, Tryz.ntmps48
  go_wp2_with fail
  go_ret
  exact ⟨rfl, rfl⟩
theorem ws_any (w : World) (g n x : Nat) (s : St) (H : IsF w g s) (hx : x < 4294967296) (h1 : ¬ (928 ≤ n ∧ n < 932)) (h2 : ¬ (944 ≤ n ∧ n < 960)) : Calls Tryz.prog 48 #[hP g, .int .u32 (n : Int), .int .u32 (x : Int)] w fun e w' => e = .returned (.bool (writeC s n x).isSome) ∧ IsF w' g ((writeC s n x).getD s) ∧ Only (S1 g) w w' := by
  by_cases h768 : n = 768
  · subst h768; exact ws_768 w g x s H hx
  by_cases h769 : n = 769
  · subst h769; exact ws_769 w g x s H hx
  by_cases h772 : n = 772
  · subst h772; exact ws_772 w g x s H hx
  by_cases h773 : n = 773
  · subst h773; exact ws_773 w g x s H hx
  by_cases h832 : n = 832
  · subst h832; exact ws_832 w g x s H hx
  by_cases h833 : n = 833
  · subst h833; exact ws_833 w g x s H hx
  by_cases h834 : n = 834
  · subst h834; exact ws_834 w g x s H hx
  by_cases h835 : n = 835
  · subst h835; exact ws_835 w g x s H hx
  by_cases h836 : n = 836
  · subst h836; exact ws_836 w g x s H hx
  by_cases h2816 : n = 2816
  · subst h2816; exact ws_2816 w g x s H hx
  by_cases h2944 : n = 2944
  · subst h2944; exact ws_2944 w g x s H hx
  by_cases h2818 : n = 2818
  · subst h2818; exact ws_2818 w g x s H hx
  by_cases h2946 : n = 2946
  · subst h2946; exact ws_2946 w g x s H hx
  have hr : writeC s n x = none := by
    unfold writeC
    rw [if_neg (by omega), if_neg h2816, if_neg h2944, if_neg h2818, if_neg h2946, if_neg h1, if_neg]
    unfold isK
    simp only [Bool.or_eq_true, beq_iff_eq, Bool.and_eq_true, decide_eq_true_eq]
    omega
  rw [hr]
  refine (ws_no w g n x ⟨h768, h769, h772, h773, h832, h833, h834, h835, h836, h2816, h2944, h2818, h2946⟩).mono ?_
  rintro e w' ⟨rfl, rfl⟩
  exact ⟨rfl, H, Only.refl _ _⟩
set_option maxRecDepth 100000 in
set_option maxHeartbeats 2000000 in
theorem cwrite_any (w : World) (g : Nat) (s : St) (n x : Nat) (H : IsF w g s) (hn : n < 4294967296) (hx : x < 4294967296) : Calls Tryz.prog 26 #[hP g, .int .u32 (n : Int), .int .u32 (x : Int)] w fun e w' => e = .returned (.bool (writeC s n x).isSome) ∧ IsF w' g ((writeC s n x).getD s) ∧ Only (S1 g) w w' := by
  have kc := among_cfg n
  have ka := among_adr n
  have hlt : (n : Int) < 4294967296 := by omega
  by_cases h1 : 928 ≤ n ∧ n < 932
  · rw [decide_eq_true h1] at kc
    have hr : writeC s n x = some { s with cfg := cfg4 s.cfg (4 * (n - 928)) x 4 } := by
      unfold writeC
      rw [if_neg (by omega), if_neg (by omega), if_neg (by omega), if_neg (by omega), if_neg (by omega), if_pos h1]
    rw [hr]
    dsimp only [Option.getD_some, Option.isSome_some]
    have kk := setConfigs_any w g (n - 928) x s H (by omega) hx
    obtain ⟨i, hi⟩ : ∃ i, i = n - 928 := ⟨_, rfl⟩
    rw [← hi] at kk ⊢
    have e1 : (n : Int) - 928 = (i : Int) := by omega
    have i4 : (i : Int) < 4 := by omega
    generalize ({ s with cfg := cfg4 s.cfg (4 * i) x 4 } : St) = s' at *
    clear hi H hr
    go_enter Tryz.func26, Tryz.ntmps26
    go_wp2_with (first
      | (go_at_call 35; with_reducible refine (kc _).mono ?_; rintro e w2 ⟨rfl, rfl⟩)
      | (go_at_call 46; with_reducible refine kk.mono ?_; rintro e w2 ⟨rfl, HN, hb2⟩))
    go_ret
    exact ⟨rfl, HN, hb2⟩
  rw [decide_eq_false h1] at kc
  by_cases h2 : 944 ≤ n ∧ n < 960
  · rw [decide_eq_true h2] at ka
    obtain ⟨k, hk⟩ : ∃ k, k = n - 944 := ⟨_, rfl⟩
    have hr : writeC s n x = some (if locked s k = true then s else { s with r := upd s.r (944 + k) x }) := by
      unfold writeC
      rw [if_neg (by omega), if_neg (by omega), if_neg (by omega), if_neg (by omega), if_neg (by omega), if_neg h1, if_pos (by
        unfold isK
        simp only [Bool.or_eq_true, beq_iff_eq, Bool.and_eq_true, decide_eq_true_eq]
        omega), decide_eq_true h2.1, decide_eq_true h2.2, Bool.true_and, Bool.true_and, ← hk]
      have e : maskR n x = x := by unfold maskR; rw [if_neg (by omega), if_neg (by omega), if_neg (by omega)]
      rw [e, show 944 + k = n by omega]
      split <;> rfl
    rw [hr]
    dsimp only [Option.getD_some, Option.isSome_some]
    have kk := setAddress_any w g k x s H (by omega) hx
    have e1 : (n : Int) - 944 = (k : Int) := by omega
    have k4 : (k : Int) < 16 := by omega
    generalize (if locked s k = true then s else { s with r := upd s.r (944 + k) x } : St) = s' at *
    clear hk H hr
    go_enter Tryz.func26, Tryz.ntmps26
    go_wp2_with (first
      | (go_at_call 35; with_reducible refine (kc _).mono ?_; rintro e w2 ⟨rfl, rfl⟩)
      | (go_at_call 35; with_reducible refine (ka _).mono ?_; rintro e w2 ⟨rfl, rfl⟩)
      | (go_at_call 47; with_reducible refine kk.mono ?_; rintro e w2 ⟨rfl, HN, hb2⟩))
    go_ret
    exact ⟨rfl, HN, hb2⟩
  rw [decide_eq_false h2] at ka
  have kk := ws_any w g n x s H hx h1 h2
  generalize writeC s n x = r at *
  clear H
  go_enter Tryz.func26, Tryz.ntmps26
  go_wp2_with (first
    | (go_at_call 35; with_reducible refine (kc _).mono ?_; rintro e w2 ⟨rfl, rfl⟩)
    | (go_at_call 35; with_reducible refine (ka _).mono ?_; rintro e w2 ⟨rfl, rfl⟩)
    | (go_at_call 48; with_reducible refine kk.mono ?_; rintro e w2 ⟨rfl, HN, hb2⟩))
  go_ret
  exact ⟨rfl, HN, hb2⟩
end Go.Proofs.YtgpofoggfifnjaaGreatDoor.Cs
