/-
Layer 15: the reference's Write: the addresses, no register; the whole.
Layer 15: the reference's Timer, Trap, Back, Tick.
-/
import Derived.Test.YtgpofoggfifnjaaGreatDoorJAt
namespace Go.Proofs.YtgpofoggfifnjaaGreatDoor.Cs
open Go Go.RowKit

set_option maxRecDepth 100000 in
set_option maxHeartbeats 4000000 in
theorem rw_none (s : St) (n x h mb : Nat) (w : World) (H : Ref w h mb s) (hn : n < 4294967296) (hk : isK n = false)
    (hl : n ≠ 769 ∧ n ≠ 836 ∧ n ≠ 2816 ∧ n ≠ 2944 ∧ n ≠ 2818 ∧ n ≠ 2946 ∧ n ≠ 928 ∧ n ≠ 929 ∧ n ≠ 930 ∧ n ≠ 931) : Calls Tryz.prog 27 #[hP h, .int .i64 (n : Int), .int .i64 (x : Int)] w fun e w' => e = .returned (.bool false) ∧ w = w' := by
  have d769 : ((n : Int) == 769) = false := beq_eq_false_iff_ne.2 (by omega)
  have d836 : ((n : Int) == 836) = false := beq_eq_false_iff_ne.2 (by omega)
  have d2816 : ((n : Int) == 2816) = false := beq_eq_false_iff_ne.2 (by omega)
  have d2944 : ((n : Int) == 2944) = false := beq_eq_false_iff_ne.2 (by omega)
  have d2818 : ((n : Int) == 2818) = false := beq_eq_false_iff_ne.2 (by omega)
  have d2946 : ((n : Int) == 2946) = false := beq_eq_false_iff_ne.2 (by omega)
  have d928 : ((n : Int) == 928) = false := beq_eq_false_iff_ne.2 (by omega)
  have d929 : ((n : Int) == 929) = false := beq_eq_false_iff_ne.2 (by omega)
  have d930 : ((n : Int) == 930) = false := beq_eq_false_iff_ne.2 (by omega)
  have d931 : ((n : Int) == 931) = false := beq_eq_false_iff_ne.2 (by omega)
  have hc : w.cell? ⟨h, 1, none⟩ = some (.map (some mb)) := H.blk.cellTab 1 (by decide)
  have hlk := H.map.look_ok (t := n) hn
  rw [show rM s n = none from if_neg (by rw [hk]; decide)] at hlk
  dsimp only [Option.getD_none, Option.isSome_none] at hlk
  clear hk hl hn
  go_enter Tryz.func27, Tryz.ntmps27
  go_wp2_with fail
  go_ret
  exact ⟨rfl, rfl⟩
set_option maxRecDepth 100000 in
set_option maxHeartbeats 4000000 in
theorem rw_addr1 (s : St) (n i x h mb : Nat) (w : World) (H : Ref w h mb s) (_hx : x < 4294967296) (hn : n = 944 + i) (hi : i < 16) (hL : 128 ≤ s.cfg i) : Calls Tryz.prog 27 #[hP h, .int .i64 (n : Int), .int .i64 (x : Int)] w fun e w' => e = .returned (.bool true) ∧ w = w' := by
  have d769 : ((n : Int) == 769) = false := beq_eq_false_iff_ne.2 (by omega)
  have d836 : ((n : Int) == 836) = false := beq_eq_false_iff_ne.2 (by omega)
  have d2816 : ((n : Int) == 2816) = false := beq_eq_false_iff_ne.2 (by omega)
  have d2944 : ((n : Int) == 2944) = false := beq_eq_false_iff_ne.2 (by omega)
  have d2818 : ((n : Int) == 2818) = false := beq_eq_false_iff_ne.2 (by omega)
  have d2946 : ((n : Int) == 2946) = false := beq_eq_false_iff_ne.2 (by omega)
  have d928 : ((n : Int) == 928) = false := beq_eq_false_iff_ne.2 (by omega)
  have d929 : ((n : Int) == 929) = false := beq_eq_false_iff_ne.2 (by omega)
  have d930 : ((n : Int) == 930) = false := beq_eq_false_iff_ne.2 (by omega)
  have d931 : ((n : Int) == 931) = false := beq_eq_false_iff_ne.2 (by omega)
  have d768 : ((n : Int) == 768) = false := beq_eq_false_iff_ne.2 (by omega)
  have d772 : ((n : Int) == 772) = false := beq_eq_false_iff_ne.2 (by omega)
  have d773 : ((n : Int) == 773) = false := beq_eq_false_iff_ne.2 (by omega)
  have d833 : ((n : Int) == 833) = false := beq_eq_false_iff_ne.2 (by omega)
  have hg1 : (944 : Int) ≤ (n : Int) := by omega
  have hg2 : (n : Int) < 960 := by omega
  have hK : isK n = true := by
    unfold isK
    simp only [Bool.or_eq_true, beq_iff_eq, Bool.and_eq_true, decide_eq_true_eq]
    omega
  have e1 : (n : Int) - 944 = (i : Int) := by omega
  have hiI : (i : Int) < 16 := by omega
  have hc : w.cell? ⟨h, 1, none⟩ = some (.map (some mb)) := H.blk.cellTab 1 (by decide)
  have hlk := H.map.look_ok (t := n) (by omega)
  rw [rM_in s n hK] at hlk
  dsimp only [Option.getD_some, Option.isSome_some] at hlk
  generalize s.r n = y0 at hlk
  have hci : w.cell? ⟨h, 2 + i, none⟩ = some (.int .i64 (s.cfg i : Int)) := by
    have h1 := H.blk.cellTab (2 + i) (by omega)
    rw [rV_c _ _ i (by omega)] at h1
    exact h1
  have hat := fun W => at_c h i hiI W
  generalize s.cfg i = q at *
  have cB : (128 : Int) ≤ (q : Int) := by omega
  clear hL hn hi hK H
  go_enter Tryz.func27, Tryz.ntmps27
  go_wp2_with fail
  go_ret
  exact ⟨rfl, rfl⟩
set_option maxRecDepth 100000 in
set_option maxHeartbeats 4000000 in
theorem rw_addr2 (s : St) (n i x h mb : Nat) (w : World) (H : Ref w h mb s) (hx : x < 4294967296) (hn : n = 944 + i) (hi : i < 16) (ok : ({ s with r := upd s.r n x } : St).Ok) (hL : ¬ 128 ≤ s.cfg i) (h15 : ¬ i < 15) : Calls Tryz.prog 27 #[hP h, .int .i64 (n : Int), .int .i64 (x : Int)] w fun e w' => e = .returned (.bool true) ∧ Ref w' h mb { s with r := upd s.r n x } ∧ Only (SR h mb) w w' := by
  have d769 : ((n : Int) == 769) = false := beq_eq_false_iff_ne.2 (by omega)
  have d836 : ((n : Int) == 836) = false := beq_eq_false_iff_ne.2 (by omega)
  have d2816 : ((n : Int) == 2816) = false := beq_eq_false_iff_ne.2 (by omega)
  have d2944 : ((n : Int) == 2944) = false := beq_eq_false_iff_ne.2 (by omega)
  have d2818 : ((n : Int) == 2818) = false := beq_eq_false_iff_ne.2 (by omega)
  have d2946 : ((n : Int) == 2946) = false := beq_eq_false_iff_ne.2 (by omega)
  have d928 : ((n : Int) == 928) = false := beq_eq_false_iff_ne.2 (by omega)
  have d929 : ((n : Int) == 929) = false := beq_eq_false_iff_ne.2 (by omega)
  have d930 : ((n : Int) == 930) = false := beq_eq_false_iff_ne.2 (by omega)
  have d931 : ((n : Int) == 931) = false := beq_eq_false_iff_ne.2 (by omega)
  have d768 : ((n : Int) == 768) = false := beq_eq_false_iff_ne.2 (by omega)
  have d772 : ((n : Int) == 772) = false := beq_eq_false_iff_ne.2 (by omega)
  have d773 : ((n : Int) == 773) = false := beq_eq_false_iff_ne.2 (by omega)
  have d833 : ((n : Int) == 833) = false := beq_eq_false_iff_ne.2 (by omega)
  have hg1 : (944 : Int) ≤ (n : Int) := by omega
  have hg2 : (n : Int) < 960 := by omega
  have hK : isK n = true := by
    unfold isK
    simp only [Bool.or_eq_true, beq_iff_eq, Bool.and_eq_true, decide_eq_true_eq]
    omega
  have e1 : (n : Int) - 944 = (i : Int) := by omega
  have hiI : (i : Int) < 16 := by omega
  have hc : w.cell? ⟨h, 1, none⟩ = some (.map (some mb)) := H.blk.cellTab 1 (by decide)
  have hlk := H.map.look_ok (t := n) (by omega)
  rw [rM_in s n hK] at hlk
  dsimp only [Option.getD_some, Option.isSome_some] at hlk
  generalize s.r n = y0 at hlk
  have hci : w.cell? ⟨h, 2 + i, none⟩ = some (.int .i64 (s.cfg i : Int)) := by
    have h1 := H.blk.cellTab (2 + i) (by omega)
    rw [rV_c _ _ i (by omega)] at h1
    exact h1
  have hat := fun W => at_c h i hiI W
  have HOK := Lib.hid ok
  clear ok
  generalize s.cfg i = q at *
  have cA : decide ((128 : Int) ≤ (q : Int)) = false := decide_eq_false (by omega)
  have cB : ((128 : Int) ≤ (q : Int)) = False := eq_false (by omega)
  have cC : decide (128 ≤ q) = false := decide_eq_false (by omega)
  have hi15 : ((i : Int) < 15) = False := eq_false (by omega)
  have hi15b : decide ((i : Int) < 15) = false := decide_eq_false (by omega)
  have hi15c : decide (i < 15) = false := decide_eq_false h15
  clear hL h15 hi
  have HN := Lib.hid hn
  have hnl : n < 4294967296 := by omega
  clear hn
  have hiss : (if (rM s n).isSome = true then 0 else 1) = 0 := by rw [rM_in s n hK]; rfl
  have HISS := Lib.hid hiss
  clear hiss
  go_enter Tryz.func27, Tryz.ntmps27
  go_wp2_with (
    refine wp_mapput rfl _ _ _ rfl rfl H.map n x rfl rfl hnl hx (by decide) 24 (by rw [HISS.out]; exact Nat.le_refl _) ?_
    intro w3 hM3 hgr3
    go_frame)
  go_ret
  exact ⟨rfl, H.reg n x hK hM3 hgr3 HOK.out, Only.of_grown hgr3 fun l e => by injection e with e; exact Or.inr e.symm⟩
set_option maxRecDepth 100000 in
set_option maxHeartbeats 4000000 in
theorem rw_addr3 (s : St) (n i x h mb : Nat) (w : World) (H : Ref w h mb s) (hx : x < 4294967296) (hn : n = 944 + i) (hi : i < 16) (ok : ({ s with r := upd s.r n x } : St).Ok) (hL : ¬ 128 ≤ s.cfg i) (h15 : i < 15) (hL2 : ¬ 128 ≤ s.cfg (i + 1)) : Calls Tryz.prog 27 #[hP h, .int .i64 (n : Int), .int .i64 (x : Int)] w fun e w' => e = .returned (.bool true) ∧ Ref w' h mb { s with r := upd s.r n x } ∧ Only (SR h mb) w w' := by
  have d769 : ((n : Int) == 769) = false := beq_eq_false_iff_ne.2 (by omega)
  have d836 : ((n : Int) == 836) = false := beq_eq_false_iff_ne.2 (by omega)
  have d2816 : ((n : Int) == 2816) = false := beq_eq_false_iff_ne.2 (by omega)
  have d2944 : ((n : Int) == 2944) = false := beq_eq_false_iff_ne.2 (by omega)
  have d2818 : ((n : Int) == 2818) = false := beq_eq_false_iff_ne.2 (by omega)
  have d2946 : ((n : Int) == 2946) = false := beq_eq_false_iff_ne.2 (by omega)
  have d928 : ((n : Int) == 928) = false := beq_eq_false_iff_ne.2 (by omega)
  have d929 : ((n : Int) == 929) = false := beq_eq_false_iff_ne.2 (by omega)
  have d930 : ((n : Int) == 930) = false := beq_eq_false_iff_ne.2 (by omega)
  have d931 : ((n : Int) == 931) = false := beq_eq_false_iff_ne.2 (by omega)
  have d768 : ((n : Int) == 768) = false := beq_eq_false_iff_ne.2 (by omega)
  have d772 : ((n : Int) == 772) = false := beq_eq_false_iff_ne.2 (by omega)
  have d773 : ((n : Int) == 773) = false := beq_eq_false_iff_ne.2 (by omega)
  have d833 : ((n : Int) == 833) = false := beq_eq_false_iff_ne.2 (by omega)
  have hg1 : (944 : Int) ≤ (n : Int) := by omega
  have hg2 : (n : Int) < 960 := by omega
  have hK : isK n = true := by
    unfold isK
    simp only [Bool.or_eq_true, beq_iff_eq, Bool.and_eq_true, decide_eq_true_eq]
    omega
  have e1 : (n : Int) - 944 = (i : Int) := by omega
  have hiI : (i : Int) < 16 := by omega
  have hc : w.cell? ⟨h, 1, none⟩ = some (.map (some mb)) := H.blk.cellTab 1 (by decide)
  have hlk := H.map.look_ok (t := n) (by omega)
  rw [rM_in s n hK] at hlk
  dsimp only [Option.getD_some, Option.isSome_some] at hlk
  generalize s.r n = y0 at hlk
  have hci : w.cell? ⟨h, 2 + i, none⟩ = some (.int .i64 (s.cfg i : Int)) := by
    have h1 := H.blk.cellTab (2 + i) (by omega)
    rw [rV_c _ _ i (by omega)] at h1
    exact h1
  have hat := fun W => at_c h i hiI W
  obtain ⟨j, hj⟩ : ∃ j, j = i + 1 := ⟨_, rfl⟩
  have hjI : (j : Int) < 16 := by omega
  have e2 : (i : Int) + 1 = (j : Int) := by omega
  have hi15 : (i : Int) < 15 := by omega
  have hcj : w.cell? ⟨h, 2 + j, none⟩ = some (.int .i64 (s.cfg j : Int)) := by
    have h1 := H.blk.cellTab (2 + j) (by omega)
    rw [rV_c _ _ j (by omega)] at h1
    exact h1
  have hatj := fun W => at_c h j hjI W
  have hcj0 := H.ok.cfg j
  have HOK := Lib.hid ok
  rw [← hj] at hL2
  generalize s.cfg i = q at *
  generalize s.cfg j = p at *
  have cA : decide ((128 : Int) ≤ (q : Int)) = false := decide_eq_false (by omega)
  have cB : ((128 : Int) ≤ (q : Int)) = False := eq_false (by omega)
  have cC : decide (128 ≤ q) = false := decide_eq_false (by omega)
  have bA : decide ((128 : Int) ≤ (p : Int)) = false := decide_eq_false (by omega)
  have bB : ((128 : Int) ≤ (p : Int)) = False := eq_false (by omega)
  have bC : decide (128 ≤ p) = false := decide_eq_false (by omega)
  have HJ := Lib.hid hj
  clear hj hL hL2 h15 hi ok
  have HN := Lib.hid hn
  have hnl : n < 4294967296 := by omega
  clear hn
  have hiss : (if (rM s n).isSome = true then 0 else 1) = 0 := by rw [rM_in s n hK]; rfl
  have HISS := Lib.hid hiss
  clear hiss
  go_enter Tryz.func27, Tryz.ntmps27
  go_wp2_with (
    refine wp_mapput rfl _ _ _ rfl rfl H.map n x rfl rfl hnl hx (by decide) 24 (by rw [HISS.out]; exact Nat.le_refl _) ?_
    intro w3 hM3 hgr3
    go_frame)
  go_ret
  exact ⟨rfl, H.reg n x hK hM3 hgr3 HOK.out, Only.of_grown hgr3 fun l e => by injection e with e; exact Or.inr e.symm⟩
set_option maxRecDepth 100000 in
set_option maxHeartbeats 4000000 in
theorem rw_addr4 (s : St) (n i x h mb : Nat) (w : World) (H : Ref w h mb s) (hx : x < 4294967296) (hn : n = 944 + i) (hi : i < 16) (ok : ({ s with r := upd s.r n x } : St).Ok) (hL : ¬ 128 ≤ s.cfg i) (h15 : i < 15) (hL2 : 128 ≤ s.cfg (i + 1)) (hT : ¬ s.cfg (i + 1) / 8 % 4 = 1) : Calls Tryz.prog 27 #[hP h, .int .i64 (n : Int), .int .i64 (x : Int)] w fun e w' => e = .returned (.bool true) ∧ Ref w' h mb { s with r := upd s.r n x } ∧ Only (SR h mb) w w' := by
  have d769 : ((n : Int) == 769) = false := beq_eq_false_iff_ne.2 (by omega)
  have d836 : ((n : Int) == 836) = false := beq_eq_false_iff_ne.2 (by omega)
  have d2816 : ((n : Int) == 2816) = false := beq_eq_false_iff_ne.2 (by omega)
  have d2944 : ((n : Int) == 2944) = false := beq_eq_false_iff_ne.2 (by omega)
  have d2818 : ((n : Int) == 2818) = false := beq_eq_false_iff_ne.2 (by omega)
  have d2946 : ((n : Int) == 2946) = false := beq_eq_false_iff_ne.2 (by omega)
  have d928 : ((n : Int) == 928) = false := beq_eq_false_iff_ne.2 (by omega)
  have d929 : ((n : Int) == 929) = false := beq_eq_false_iff_ne.2 (by omega)
  have d930 : ((n : Int) == 930) = false := beq_eq_false_iff_ne.2 (by omega)
  have d931 : ((n : Int) == 931) = false := beq_eq_false_iff_ne.2 (by omega)
  have d768 : ((n : Int) == 768) = false := beq_eq_false_iff_ne.2 (by omega)
  have d772 : ((n : Int) == 772) = false := beq_eq_false_iff_ne.2 (by omega)
  have d773 : ((n : Int) == 773) = false := beq_eq_false_iff_ne.2 (by omega)
  have d833 : ((n : Int) == 833) = false := beq_eq_false_iff_ne.2 (by omega)
  have hg1 : (944 : Int) ≤ (n : Int) := by omega
  have hg2 : (n : Int) < 960 := by omega
  have hK : isK n = true := by
    unfold isK
    simp only [Bool.or_eq_true, beq_iff_eq, Bool.and_eq_true, decide_eq_true_eq]
    omega
  have e1 : (n : Int) - 944 = (i : Int) := by omega
  have hiI : (i : Int) < 16 := by omega
  have hc : w.cell? ⟨h, 1, none⟩ = some (.map (some mb)) := H.blk.cellTab 1 (by decide)
  have hlk := H.map.look_ok (t := n) (by omega)
  rw [rM_in s n hK] at hlk
  dsimp only [Option.getD_some, Option.isSome_some] at hlk
  generalize s.r n = y0 at hlk
  have hci : w.cell? ⟨h, 2 + i, none⟩ = some (.int .i64 (s.cfg i : Int)) := by
    have h1 := H.blk.cellTab (2 + i) (by omega)
    rw [rV_c _ _ i (by omega)] at h1
    exact h1
  have hat := fun W => at_c h i hiI W
  obtain ⟨j, hj⟩ : ∃ j, j = i + 1 := ⟨_, rfl⟩
  have hjI : (j : Int) < 16 := by omega
  have e2 : (i : Int) + 1 = (j : Int) := by omega
  have hi15 : (i : Int) < 15 := by omega
  have hcj : w.cell? ⟨h, 2 + j, none⟩ = some (.int .i64 (s.cfg j : Int)) := by
    have h1 := H.blk.cellTab (2 + j) (by omega)
    rw [rV_c _ _ j (by omega)] at h1
    exact h1
  have hatj := fun W => at_c h j hjI W
  have hcj0 := H.ok.cfg j
  have HOK := Lib.hid ok
  rw [← hj] at hL2 hT
  generalize s.cfg i = q at *
  generalize s.cfg j = p at *
  have cA : decide ((128 : Int) ≤ (q : Int)) = false := decide_eq_false (by omega)
  have cB : ((128 : Int) ≤ (q : Int)) = False := eq_false (by omega)
  have cC : decide (128 ≤ q) = false := decide_eq_false (by omega)
  have bB : (128 : Int) ≤ (p : Int) := by omega
  obtain ⟨t, ht⟩ : ∃ t, t = p / 8 := ⟨_, rfl⟩
  have f1 : (p : Int).tdiv 8 = (t : Int) := by rw [ht]; exact tdN p 8
  obtain ⟨u, hu⟩ : ∃ u, u = t % 4 := ⟨_, rfl⟩
  have f2 : (t : Int).tmod 4 = (u : Int) := by rw [hu]; exact tmN t 4
  have htI : (t : Int) < 32 := by omega
  have huI : (u : Int) < 4 := by omega
  have hpI : (p : Int) < 256 := by omega
  have hu1 : ((u : Int) == 1) = false := beq_eq_false_iff_ne.2 (by omega)
  have HJ := Lib.hid (And.intro hj (And.intro ht hu))
  clear hj hL hL2 h15 hi hT ht hu ok hcj0
  have HN := Lib.hid hn
  have hnl : n < 4294967296 := by omega
  clear hn
  have hiss : (if (rM s n).isSome = true then 0 else 1) = 0 := by rw [rM_in s n hK]; rfl
  have HISS := Lib.hid hiss
  clear hiss
  go_enter Tryz.func27, Tryz.ntmps27
  go_wp2_with (
    refine wp_mapput rfl _ _ _ rfl rfl H.map n x rfl rfl hnl hx (by decide) 24 (by rw [HISS.out]; exact Nat.le_refl _) ?_
    intro w3 hM3 hgr3
    go_frame)
  go_ret
  exact ⟨rfl, H.reg n x hK hM3 hgr3 HOK.out, Only.of_grown hgr3 fun l e => by injection e with e; exact Or.inr e.symm⟩
set_option maxRecDepth 100000 in
set_option maxHeartbeats 4000000 in
theorem rw_addr5 (s : St) (n i x h mb : Nat) (w : World) (H : Ref w h mb s) (_hx : x < 4294967296) (hn : n = 944 + i) (hi : i < 16) (hL : ¬ 128 ≤ s.cfg i) (h15 : i < 15) (hL2 : 128 ≤ s.cfg (i + 1)) (hT : s.cfg (i + 1) / 8 % 4 = 1) : Calls Tryz.prog 27 #[hP h, .int .i64 (n : Int), .int .i64 (x : Int)] w fun e w' => e = .returned (.bool true) ∧ w = w' := by
  have d769 : ((n : Int) == 769) = false := beq_eq_false_iff_ne.2 (by omega)
  have d836 : ((n : Int) == 836) = false := beq_eq_false_iff_ne.2 (by omega)
  have d2816 : ((n : Int) == 2816) = false := beq_eq_false_iff_ne.2 (by omega)
  have d2944 : ((n : Int) == 2944) = false := beq_eq_false_iff_ne.2 (by omega)
  have d2818 : ((n : Int) == 2818) = false := beq_eq_false_iff_ne.2 (by omega)
  have d2946 : ((n : Int) == 2946) = false := beq_eq_false_iff_ne.2 (by omega)
  have d928 : ((n : Int) == 928) = false := beq_eq_false_iff_ne.2 (by omega)
  have d929 : ((n : Int) == 929) = false := beq_eq_false_iff_ne.2 (by omega)
  have d930 : ((n : Int) == 930) = false := beq_eq_false_iff_ne.2 (by omega)
  have d931 : ((n : Int) == 931) = false := beq_eq_false_iff_ne.2 (by omega)
  have d768 : ((n : Int) == 768) = false := beq_eq_false_iff_ne.2 (by omega)
  have d772 : ((n : Int) == 772) = false := beq_eq_false_iff_ne.2 (by omega)
  have d773 : ((n : Int) == 773) = false := beq_eq_false_iff_ne.2 (by omega)
  have d833 : ((n : Int) == 833) = false := beq_eq_false_iff_ne.2 (by omega)
  have hg1 : (944 : Int) ≤ (n : Int) := by omega
  have hg2 : (n : Int) < 960 := by omega
  have hK : isK n = true := by
    unfold isK
    simp only [Bool.or_eq_true, beq_iff_eq, Bool.and_eq_true, decide_eq_true_eq]
    omega
  have e1 : (n : Int) - 944 = (i : Int) := by omega
  have hiI : (i : Int) < 16 := by omega
  have hc : w.cell? ⟨h, 1, none⟩ = some (.map (some mb)) := H.blk.cellTab 1 (by decide)
  have hlk := H.map.look_ok (t := n) (by omega)
  rw [rM_in s n hK] at hlk
  dsimp only [Option.getD_some, Option.isSome_some] at hlk
  generalize s.r n = y0 at hlk
  have hci : w.cell? ⟨h, 2 + i, none⟩ = some (.int .i64 (s.cfg i : Int)) := by
    have h1 := H.blk.cellTab (2 + i) (by omega)
    rw [rV_c _ _ i (by omega)] at h1
    exact h1
  have hat := fun W => at_c h i hiI W
  obtain ⟨j, hj⟩ : ∃ j, j = i + 1 := ⟨_, rfl⟩
  have hjI : (j : Int) < 16 := by omega
  have e2 : (i : Int) + 1 = (j : Int) := by omega
  have hi15 : (i : Int) < 15 := by omega
  have hcj : w.cell? ⟨h, 2 + j, none⟩ = some (.int .i64 (s.cfg j : Int)) := by
    have h1 := H.blk.cellTab (2 + j) (by omega)
    rw [rV_c _ _ j (by omega)] at h1
    exact h1
  have hatj := fun W => at_c h j hjI W
  have hcj0 := H.ok.cfg j
  rw [← hj] at hL2 hT
  generalize s.cfg i = q at *
  generalize s.cfg j = p at *
  have cA : decide ((128 : Int) ≤ (q : Int)) = false := decide_eq_false (by omega)
  have cB : ((128 : Int) ≤ (q : Int)) = False := eq_false (by omega)
  have cC : decide (128 ≤ q) = false := decide_eq_false (by omega)
  have bB : (128 : Int) ≤ (p : Int) := by omega
  obtain ⟨t, ht⟩ : ∃ t, t = p / 8 := ⟨_, rfl⟩
  have f1 : (p : Int).tdiv 8 = (t : Int) := by rw [ht]; exact tdN p 8
  obtain ⟨u, hu⟩ : ∃ u, u = t % 4 := ⟨_, rfl⟩
  have f2 : (t : Int).tmod 4 = (u : Int) := by rw [hu]; exact tmN t 4
  have htI : (t : Int) < 32 := by omega
  have huI : (u : Int) < 4 := by omega
  have hpI : (p : Int) < 256 := by omega
  have hu1 : ((u : Int) == 1) = true := by rw [show u = 1 by omega]; rfl
  have HJ := Lib.hid (And.intro hj (And.intro ht hu))
  clear hj hL hL2 h15 hi hT ht hu hcj0 hn hK H
  go_enter Tryz.func27, Tryz.ntmps27
  go_wp2_with fail
  go_ret
  exact ⟨rfl, rfl⟩
theorem rwrite_any (s : St) (n x h mb : Nat) (w : World) (H : Ref w h mb s) (hn : n < 4294967296) (hx : x < 4294967296) :
    Calls Tryz.prog 27 #[hP h, .int .i64 (n : Int), .int .i64 (x : Int)] w fun e w' => e = .returned (.bool (writeC s n x).isSome) ∧ Ref w' h mb ((writeC s n x).getD s) ∧ Only (SR h mb) w w' := by
  by_cases h769 : n = 769
  · subst h769
    exact rw_769 s x h mb w H hx
  by_cases h836 : n = 836
  · subst h836
    exact rw_836 s x h mb w H hx
  by_cases h2816 : n = 2816
  · subst h2816
    exact rw_2816 s x h mb w H hx
  by_cases h2944 : n = 2944
  · subst h2944
    exact rw_2944 s x h mb w H hx
  by_cases h2818 : n = 2818
  · subst h2818
    exact rw_2818 s x h mb w H hx
  by_cases h2946 : n = 2946
  · subst h2946
    exact rw_2946 s x h mb w H hx
  by_cases h928 : n = 928
  · subst h928
    exact rw_928 s x h mb w H hx
  by_cases h929 : n = 929
  · subst h929
    exact rw_929 s x h mb w H hx
  by_cases h930 : n = 930
  · subst h930
    exact rw_930 s x h mb w H hx
  by_cases h931 : n = 931
  · subst h931
    exact rw_931 s x h mb w H hx
  by_cases h768 : n = 768
  · subst h768
    exact rw_768 s x h mb w H hx
  by_cases h772 : n = 772
  · subst h772
    exact rw_772 s x h mb w H hx
  by_cases h773 : n = 773
  · subst h773
    exact rw_773 s x h mb w H hx
  by_cases h832 : n = 832
  · subst h832
    exact rw_832 s x h mb w H hx
  by_cases h833 : n = 833
  · subst h833
    exact rw_833 s x h mb w H hx
  by_cases h834 : n = 834
  · subst h834
    exact rw_834 s x h mb w H hx
  by_cases h835 : n = 835
  · subst h835
    exact rw_835 s x h mb w H hx
  have hW : ∀ o, (if isK n = true then (if (decide (944 ≤ n) && decide (n < 960) && locked s (n - 944)) = true then some s else some { s with r := upd s.r n (maskR n x) }) else none) = o → writeC s n x = o := by
    intro o ho
    unfold writeC
    rw [if_neg (by omega), if_neg (by omega), if_neg (by omega), if_neg (by omega), if_neg (by omega), if_neg (by omega), ho]
  by_cases hA : 944 ≤ n ∧ n < 960
  · obtain ⟨i, hi⟩ : ∃ i, n = 944 + i := ⟨n - 944, by omega⟩
    have hi16 : i < 16 := by omega
    have hK : isK n = true := by
      unfold isK
      simp only [Bool.or_eq_true, beq_iff_eq, Bool.and_eq_true, decide_eq_true_eq]
      omega
    have hmn : maskR n x = x := by unfold maskR; rw [if_neg (by omega), if_neg (by omega), if_neg (by omega)]
    have hd : ∀ b, locked s i = b → (decide (944 ≤ n) && decide (n < 960) && locked s (n - 944)) = b := by
      intro b hb
      rw [show n - 944 = i by omega, hb, decide_eq_true hA.1, decide_eq_true hA.2]
      rfl
    have yes : locked s i = true → writeC s n x = some s := fun hl => hW _ (by rw [if_pos hK, if_pos (hd _ hl)])
    have nope : locked s i = false → writeC s n x = some { s with r := upd s.r n x } := fun hl => hW _ (by rw [if_pos hK, if_neg (by rw [hd _ hl]; decide), hmn])
    have stay : locked s i = true → Calls Tryz.prog 27 #[hP h, .int .i64 (n : Int), .int .i64 (x : Int)] w (fun e w' => e = .returned (.bool true) ∧ w = w') → Calls Tryz.prog 27 #[hP h, .int .i64 (n : Int), .int .i64 (x : Int)] w fun e w' => e = .returned (.bool (writeC s n x).isSome) ∧ Ref w' h mb ((writeC s n x).getD s) ∧ Only (SR h mb) w w' := fun hl hc => by
      rw [yes hl]
      refine hc.mono ?_
      rintro e w' ⟨rfl, rfl⟩
      exact ⟨rfl, H, Only.refl _ _⟩
    by_cases hL : 128 ≤ s.cfg i
    · exact stay (by unfold locked; rw [decide_eq_true hL]; rfl) (rw_addr1 s n i x h mb w H hx hi hi16 hL)
    by_cases h15 : i < 15
    · by_cases hL2 : 128 ≤ s.cfg (i + 1)
      · by_cases hT : s.cfg (i + 1) / 8 % 4 = 1
        · exact stay (by unfold locked; rw [decide_eq_false hL, decide_eq_true h15, decide_eq_true hL2, decide_eq_true hT]; rfl) (rw_addr5 s n i x h mb w H hx hi hi16 hL h15 hL2 hT)
        · have hl := nope (by unfold locked; rw [decide_eq_false hL, decide_eq_true h15, decide_eq_true hL2, decide_eq_false hT]; rfl)
          rw [hl]
          exact rw_addr4 s n i x h mb w H hx hi hi16 (writeC_ok s _ n x H.ok hx hl) hL h15 hL2 hT
      · have hl := nope (by unfold locked; rw [decide_eq_false hL, decide_eq_true h15, decide_eq_false hL2]; rfl)
        rw [hl]
        exact rw_addr3 s n i x h mb w H hx hi hi16 (writeC_ok s _ n x H.ok hx hl) hL h15 hL2
    · have hl := nope (by unfold locked; rw [decide_eq_false hL, decide_eq_false h15]; rfl)
      rw [hl]
      exact rw_addr2 s n i x h mb w H hx hi hi16 (writeC_ok s _ n x H.ok hx hl) hL h15
  · have hK : isK n = false := by
      rw [Bool.eq_false_iff]
      unfold isK
      simp only [ne_eq, Bool.or_eq_true, beq_iff_eq, Bool.and_eq_true, decide_eq_true_eq]
      omega
    rw [hW none (if_neg (by rw [hK]; decide))]
    refine (rw_none s n x h mb w H hn hK (by omega)).mono ?_
    rintro e w' ⟨rfl, rfl⟩
    exact ⟨rfl, H, Only.refl _ _⟩
end Go.Proofs.YtgpofoggfifnjaaGreatDoor.Cs
namespace Go.Proofs.YtgpofoggfifnjaaGreatDoor.Cs
open Go Go.RowKit

def timC (s : St) (on : Bool) : St := { s with r := upd s.r 836 (if on = true then 128 else 0) }
def trR (s : St) (pc ca tv : Nat) : Nat → Nat := upd (upd (upd (upd s.r 833 (pc - pc % 4)) 834 ca) 835 tv) 768 (s.r 768 / 8 % 2 * 128 + s.mode * 2048)
def trapC (s : St) (pc ca tv : Nat) : St := { s with r := trR s pc ca tv, mode := 3 }
def backC (s : St) : St := { s with mode := s.r 768 / 2048 % 4, r := upd s.r 768 (s.r 768 / 128 % 2 * 8 + 128) }
def tickC (s : St) (done : Bool) : St := { s with cyc := (s.cyc + 1) % 18446744073709551616, ret := if done = true then (s.ret + 1) % 18446744073709551616 else s.ret }
theorem reg_ok (s : St) (h : s.Ok) (k v : Nat) (hk : k ≠ 768) (hv : v < 4294967296) : ({ s with r := upd s.r k v } : St).Ok :=
  ⟨h.mode, fun x => by dsimp only; unfold upd; split; exact hv; exact h.r x, h.cfg, h.cyc, h.ret, by dsimp only; rw [upd_other _ _ (Ne.symm hk)]; exact h.st, by dsimp only; rw [upd_other _ _ (Ne.symm hk)]; exact h.mpp, h.bits⟩
theorem sta_ok (s : St) (h : s.Ok) (v : Nat) (hv : v < 8192) (hm : v / 2048 % 4 = 0 ∨ v / 2048 % 4 = 3) : ({ s with r := upd s.r 768 v } : St).Ok :=
  ⟨h.mode, fun x => by dsimp only; unfold upd; split; omega; exact h.r x, h.cfg, h.cyc, h.ret, by dsimp only; rw [upd_same]; exact hv, by dsimp only; rw [upd_same]; exact hm, h.bits⟩
theorem mode_ok (s : St) (h : s.Ok) (m : Nat) (hm : m = 0 ∨ m = 3) : ({ s with mode := m } : St).Ok := ⟨hm, h.r, h.cfg, h.cyc, h.ret, h.st, h.mpp, h.bits⟩
theorem upd_upd {α : Type} (f : Nat → α) (k : Nat) (a b : α) : upd (upd f k a) k b = upd f k b := by
  funext j
  unfold upd
  split <;> rfl
theorem OG {h mb : Nat} {w w' : World} (k : w.grownBy w' (some mb)) : Only (SR h mb) w w' := Only.of_grown k fun l e => by injection e with e; exact Or.inr e.symm
theorem some_in (s : St) (k : Nat) (h : isK k = true) : (if (rM s k).isSome = true then 0 else 1) = 0 := by rw [rM_in s k h]; rfl
end Go.Proofs.YtgpofoggfifnjaaGreatDoor.Cs
