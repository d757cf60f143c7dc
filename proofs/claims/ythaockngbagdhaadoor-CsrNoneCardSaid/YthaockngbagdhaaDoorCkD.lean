/-
Layer 15: package csr's Back; reading: readSingle, config, configs, Read.
-/
import Derived.Test.YthaockngbagdhaaDoorCkC
namespace Go.Proofs.YthaockngbagdhaaDoor.Cs
open Go Go.RowKit
open Go.Proofs.YthaockngbagdhaaDoor.Pm (En Sl SlC SlE enV en0 TabT at_entry infoE byte_any)

theorem read_k (s : St) (n : Nat) (h1 : ¬ (n = 769 ∨ n = 2816 ∨ n = 2944 ∨ n = 2818 ∨ n = 2946)) (h2 : ¬ (3857 ≤ n ∧ n ≤ 3860)) (h3 : ¬ (928 ≤ n ∧ n < 932)) (h4 : isK n = true) : readC s n = some (s.r n) := by
  unfold readC
  rw [if_neg (by omega), if_neg (by omega), if_neg (by omega), if_neg (by omega), if_neg (by omega), if_neg h2, if_neg h3]
  exact rM_in s n h4
theorem back_bits (b : Nat) (hb : b < 2) : (b * 8 + 128) / 8 % 2 = b ∧ (b * 8 + 128) / 128 % 2 = 1 ∧ (b * 8 + 128) / 2048 % 4 = 0 ∧ b * 8 + 128 = (b * 8 + 128) / 8 % 2 * 8 + (b * 8 + 128) / 128 % 2 * 128 + (b * 8 + 128) / 2048 % 4 * 2048 := by
  rcases (show b = 0 ∨ b = 1 by omega) with rfl | rfl <;> decide
set_option maxRecDepth 100000 in
set_option maxHeartbeats 2000000 in
theorem cback_any (w : World) (g : Nat) (s : St) (H : IsF w g s) : Calls Tryd.prog 13 #[hP g] w fun e w' => e = .returned (.int .u32 (s.r 833 : Int)) ∧ IsF w' g (backC s) ∧ Only (S1 g) w w' := by
  have c0 : w.cell? ⟨g, 0, none⟩ = some (.int .i64 (s.mode : Int)) := H.blk.cellTab 0 (by decide)
  have f0 : w.frozen? ⟨g, 0, none⟩ = false := H.blk.free 0
  have c3 : w.cell? ⟨g, 3, none⟩ = some (.int .i64 ((s.r 768 / 2048 % 4 : Nat) : Int)) := H.blk.cellTab 3 (by decide)
  have H1 := H.modeS _ H.inv.ok.mpp
  have O1 := Only.setCell w (a := ⟨g, 0, none⟩) (show S1 g g from rfl) (.int .i64 ((s.r 768 / 2048 % 4 : Nat) : Int))
  obtain ⟨hv1, hv2, hv3, hvf⟩ := back_bits (s.r 768 / 128 % 2) (Nat.mod_lt _ (by decide))
  have hI := H1.inv.sta (s.r 768 / 128 % 2 * 8 + 128) (Or.inl hv3) hvf
  have hS := fun w0 (HW : IsF w0 g { s with mode := s.r 768 / 2048 % 4 }) (w' : World) hB => HW.sta (w' := w') (s.r 768 / 128 % 2 * 8 + 128) hI hB
  have hrow : tab 3 (stV (s.r 768 / 128 % 2 * 8 + 128)) = #[.bool (decide (s.r 768 / 128 % 2 = 1)), .bool true, .int .i64 0] := by
    rw [stV_row, hv1, hv2, hv3]
    rfl
  have HS := Lib.hid hS
  unfold backC
  generalize hm : s.r 768 / 2048 % 4 = m at *
  generalize hb : decide (s.r 768 / 128 % 2 = 1) = b at *
  have HB := Lib.hid (And.intro hm hb)
  clear hS hI hvf hv1 hv2 hv3 hm
  go_enter Tryd.func13, Tryd.ntmps13
  go_upto_region 4 with fail
  have c2 : (w.setCell ⟨g, 0, none⟩ (.int .i64 (m : Int))).cell? ⟨g, 2, none⟩ = some (.bool b) := by rw [← hb]; exact H1.blk.cellTab 2 (by decide)
  have HO := Lib.hid O1
  clear O1 c0 f0 c3 hb H
  generalize w.setCell ⟨g, 0, none⟩ (.int .i64 (m : Int)) = w1 at *
  have HBk := H1.blk
  have HS2 := Lib.hid (HS.out _ H1)
  clear H1 HS
  go_upto_region 5 with (
    refine wp_store_tab rfl 36 _ _ rfl g 1 rfl 3 _ (congrArg Value.agg hrow.symm) 77 _ _ HBk infoS3 (by decide) (stV_one _) ?_
    intro w5 hB5 hg5
    go_frame)
  have H5 := HS2.out _ hB5
  have O5 := HO.out.trans (Only.of_grown (S := S1 g) hg5 fun l e => by injection e with e; exact e.symm)
  have c8 : w5.cell? ⟨g, 8, none⟩ = some (.int .u32 (s.r 833 : Int)) := H5.blk.cellTab 8 (by decide)
  have HH := Lib.hid (And.intro H5 O5)
  clear H5 O5 hB5 hg5 HBk c2
  go_wp2_with fail
  go_ret
  exact ⟨rfl, HH.out.1, HH.out.2⟩
set_option maxRecDepth 100000 in
set_option maxHeartbeats 2000000 in
theorem rs_768 (w : World) (g : Nat) (s : St) (H : IsF w g s) : Calls Tryd.prog 29 #[hP g, .int .u32 768] w fun e w' => e = .returned (.tuple #[.int .u32 (((readC s 768).getD 0 : Nat) : Int), .bool (readC s 768).isSome]) ∧ Below w.heap.size w w' := by
  rw [show readC s 768 = some (s.r 768) from read_k s 768 (by decide) (by decide) (by decide) (by decide)]
  dsimp only [Option.getD_some, Option.isSome_some]
  have c1 : w.cell? ⟨g, 1, none⟩ = some (.bool (decide (s.r 768 / 8 % 2 = 1))) := H.blk.cellTab 1 (by decide)
  have c2 : w.cell? ⟨g, 2, none⟩ = some (.bool (decide (s.r 768 / 128 % 2 = 1))) := H.blk.cellTab 2 (by decide)
  have c3 : w.cell? ⟨g, 3, none⟩ = some (.int .i64 ((s.r 768 / 2048 % 4 : Nat) : Int)) := H.blk.cellTab 3 (by decide)
  have kw := word_any (decide (s.r 768 / 8 % 2 = 1)) (decide (s.r 768 / 128 % 2 = 1)) (s.r 768 / 2048 % 4) H.inv.ok.mpp w
  have e : (if decide (s.r 768 / 8 % 2 = 1) = true then 8 else 0) + (if decide (s.r 768 / 128 % 2 = 1) = true then 128 else 0) + s.r 768 / 2048 % 4 * 2048 = s.r 768 := by
    have hf := H.inv.st
    have q1 : (if decide (s.r 768 / 8 % 2 = 1) = true then 8 else 0) = s.r 768 / 8 % 2 * 8 := by
      rcases (show s.r 768 / 8 % 2 = 0 ∨ s.r 768 / 8 % 2 = 1 by omega) with h | h <;> rw [h] <;> rfl
    have q2 : (if decide (s.r 768 / 128 % 2 = 1) = true then 128 else 0) = s.r 768 / 128 % 2 * 128 := by
      rcases (show s.r 768 / 128 % 2 = 0 ∨ s.r 768 / 128 % 2 = 1 by omega) with h | h <;> rw [h] <;> rfl
    rw [q1, q2]
    exact hf.symm
  rw [e] at kw
  generalize decide (s.r 768 / 8 % 2 = 1) = b1 at *
  generalize decide (s.r 768 / 128 % 2 = 1) = b2 at *
  generalize s.r 768 / 2048 % 4 = m at *
  clear H e
  go_enter Tryd.func29, Tryd.ntmps29
  go_wp2_with (go_at_call 42; with_reducible refine kw.mono ?_; rintro e w2 ⟨rfl, hb⟩)
  go_ret2
  exact ⟨rfl, hb⟩
set_option maxRecDepth 100000 in
set_option maxHeartbeats 2000000 in
theorem rs_769 (w : World) (g : Nat) (s : St) (_H : IsF w g s) : Calls Tryd.prog 29 #[hP g, .int .u32 769] w fun e w' => e = .returned (.tuple #[.int .u32 (((readC s 769).getD 0 : Nat) : Int), .bool (readC s 769).isSome]) ∧ Below w.heap.size w w' := by
  rw [show readC s 769 = some (1074794752) from rfl]
  dsimp only [Option.getD_some, Option.isSome_some]
  go_enter Tryd.func29, Tryd.ntmps29
  go_wp2_with fail
  go_ret2
  exact ⟨rfl, Below.refl _ _⟩
set_option maxRecDepth 100000 in
set_option maxHeartbeats 2000000 in
theorem rs_772 (w : World) (g : Nat) (s : St) (H : IsF w g s) : Calls Tryd.prog 29 #[hP g, .int .u32 772] w fun e w' => e = .returned (.tuple #[.int .u32 (((readC s 772).getD 0 : Nat) : Int), .bool (readC s 772).isSome]) ∧ Below w.heap.size w w' := by
  rw [show readC s 772 = some (s.r 772) from read_k s 772 (by decide) (by decide) (by decide) (by decide)]
  dsimp only [Option.getD_some, Option.isSome_some]
  have c : w.cell? ⟨g, 4, none⟩ = some (.int .u32 (s.r 772 : Int)) := H.blk.cellTab 4 (by decide)
  go_enter Tryd.func29, Tryd.ntmps29
  go_wp2_with fail
  go_ret2
  exact ⟨rfl, Below.refl _ _⟩
set_option maxRecDepth 100000 in
set_option maxHeartbeats 2000000 in
theorem rs_773 (w : World) (g : Nat) (s : St) (H : IsF w g s) : Calls Tryd.prog 29 #[hP g, .int .u32 773] w fun e w' => e = .returned (.tuple #[.int .u32 (((readC s 773).getD 0 : Nat) : Int), .bool (readC s 773).isSome]) ∧ Below w.heap.size w w' := by
  rw [show readC s 773 = some (s.r 773) from read_k s 773 (by decide) (by decide) (by decide) (by decide)]
  dsimp only [Option.getD_some, Option.isSome_some]
  have c : w.cell? ⟨g, 6, none⟩ = some (.int .u32 (s.r 773 : Int)) := H.blk.cellTab 6 (by decide)
  go_enter Tryd.func29, Tryd.ntmps29
  go_wp2_with fail
  go_ret2
  exact ⟨rfl, Below.refl _ _⟩
set_option maxRecDepth 100000 in
set_option maxHeartbeats 2000000 in
theorem rs_832 (w : World) (g : Nat) (s : St) (H : IsF w g s) : Calls Tryd.prog 29 #[hP g, .int .u32 832] w fun e w' => e = .returned (.tuple #[.int .u32 (((readC s 832).getD 0 : Nat) : Int), .bool (readC s 832).isSome]) ∧ Below w.heap.size w w' := by
  rw [show readC s 832 = some (s.r 832) from read_k s 832 (by decide) (by decide) (by decide) (by decide)]
  dsimp only [Option.getD_some, Option.isSome_some]
  have c : w.cell? ⟨g, 7, none⟩ = some (.int .u32 (s.r 832 : Int)) := H.blk.cellTab 7 (by decide)
  go_enter Tryd.func29, Tryd.ntmps29
  go_wp2_with fail
  go_ret2
  exact ⟨rfl, Below.refl _ _⟩
set_option maxRecDepth 100000 in
set_option maxHeartbeats 2000000 in
theorem rs_833 (w : World) (g : Nat) (s : St) (H : IsF w g s) : Calls Tryd.prog 29 #[hP g, .int .u32 833] w fun e w' => e = .returned (.tuple #[.int .u32 (((readC s 833).getD 0 : Nat) : Int), .bool (readC s 833).isSome]) ∧ Below w.heap.size w w' := by
  rw [show readC s 833 = some (s.r 833) from read_k s 833 (by decide) (by decide) (by decide) (by decide)]
  dsimp only [Option.getD_some, Option.isSome_some]
  have c : w.cell? ⟨g, 8, none⟩ = some (.int .u32 (s.r 833 : Int)) := H.blk.cellTab 8 (by decide)
  go_enter Tryd.func29, Tryd.ntmps29
  go_wp2_with fail
  go_ret2
  exact ⟨rfl, Below.refl _ _⟩
set_option maxRecDepth 100000 in
set_option maxHeartbeats 2000000 in
theorem rs_834 (w : World) (g : Nat) (s : St) (H : IsF w g s) : Calls Tryd.prog 29 #[hP g, .int .u32 834] w fun e w' => e = .returned (.tuple #[.int .u32 (((readC s 834).getD 0 : Nat) : Int), .bool (readC s 834).isSome]) ∧ Below w.heap.size w w' := by
  rw [show readC s 834 = some (s.r 834) from read_k s 834 (by decide) (by decide) (by decide) (by decide)]
  dsimp only [Option.getD_some, Option.isSome_some]
  have c : w.cell? ⟨g, 9, none⟩ = some (.int .u32 (s.r 834 : Int)) := H.blk.cellTab 9 (by decide)
  go_enter Tryd.func29, Tryd.ntmps29
  go_wp2_with fail
  go_ret2
  exact ⟨rfl, Below.refl _ _⟩
set_option maxRecDepth 100000 in
set_option maxHeartbeats 2000000 in
theorem rs_835 (w : World) (g : Nat) (s : St) (H : IsF w g s) : Calls Tryd.prog 29 #[hP g, .int .u32 835] w fun e w' => e = .returned (.tuple #[.int .u32 (((readC s 835).getD 0 : Nat) : Int), .bool (readC s 835).isSome]) ∧ Below w.heap.size w w' := by
  rw [show readC s 835 = some (s.r 835) from read_k s 835 (by decide) (by decide) (by decide) (by decide)]
  dsimp only [Option.getD_some, Option.isSome_some]
  have c : w.cell? ⟨g, 10, none⟩ = some (.int .u32 (s.r 835 : Int)) := H.blk.cellTab 10 (by decide)
  go_enter Tryd.func29, Tryd.ntmps29
  go_wp2_with fail
  go_ret2
  exact ⟨rfl, Below.refl _ _⟩
set_option maxRecDepth 100000 in
set_option maxHeartbeats 2000000 in
theorem rs_836 (w : World) (g : Nat) (s : St) (H : IsF w g s) : Calls Tryd.prog 29 #[hP g, .int .u32 836] w fun e w' => e = .returned (.tuple #[.int .u32 (((readC s 836).getD 0 : Nat) : Int), .bool (readC s 836).isSome]) ∧ Below w.heap.size w w' := by
  rw [show readC s 836 = some (s.r 836) from read_k s 836 (by decide) (by decide) (by decide) (by decide)]
  dsimp only [Option.getD_some, Option.isSome_some]
  have c : w.cell? ⟨g, 5, none⟩ = some (.int .u32 (s.r 836 : Int)) := H.blk.cellTab 5 (by decide)
  go_enter Tryd.func29, Tryd.ntmps29
  go_wp2_with fail
  go_ret2
  exact ⟨rfl, Below.refl _ _⟩
set_option maxRecDepth 100000 in
set_option maxHeartbeats 2000000 in
theorem rs_2816 (w : World) (g : Nat) (s : St) (H : IsF w g s) : Calls Tryd.prog 29 #[hP g, .int .u32 2816] w fun e w' => e = .returned (.tuple #[.int .u32 (((readC s 2816).getD 0 : Nat) : Int), .bool (readC s 2816).isSome]) ∧ Below w.heap.size w w' := by
  rw [show readC s 2816 = some (s.cyc % 4294967296) from rfl]
  dsimp only [Option.getD_some, Option.isSome_some]
  have c : w.cell? ⟨g, 75, none⟩ = some (.int .u64 (s.cyc : Int)) := H.blk.cellTab 75 (by decide)
  have hl := H.inv.ok.cyc
  obtain ⟨v, hv⟩ : ∃ v, v = s.cyc % 4294967296 := ⟨_, rfl⟩
  rw [← hv]
  have e1 : (s.cyc : Int) % 4294967296 = (v : Int) := by omega
  rw [← e1]
  clear e1 hl
  generalize s.cyc = x at *
  clear hv H
  go_enter Tryd.func29, Tryd.ntmps29
  go_wp2_with fail
  go_ret2
  exact ⟨rfl, Below.refl _ _⟩
set_option maxRecDepth 100000 in
set_option maxHeartbeats 2000000 in
theorem rs_2944 (w : World) (g : Nat) (s : St) (H : IsF w g s) : Calls Tryd.prog 29 #[hP g, .int .u32 2944] w fun e w' => e = .returned (.tuple #[.int .u32 (((readC s 2944).getD 0 : Nat) : Int), .bool (readC s 2944).isSome]) ∧ Below w.heap.size w w' := by
  rw [show readC s 2944 = some (s.cyc / 4294967296) from rfl]
  dsimp only [Option.getD_some, Option.isSome_some]
  have c : w.cell? ⟨g, 75, none⟩ = some (.int .u64 (s.cyc : Int)) := H.blk.cellTab 75 (by decide)
  have hl := H.inv.ok.cyc
  obtain ⟨v, hv⟩ : ∃ v, v = s.cyc / 4294967296 := ⟨_, rfl⟩
  rw [← hv]
  have e1 : (s.cyc : Int) / 4294967296 = (v : Int) := by omega
  have hvl : v < 4294967296 := by omega
  have e2 : (v : Int) % 4294967296 = (v : Int) := by omega
  generalize s.cyc = x at *
  clear hv H
  go_enter Tryd.func29, Tryd.ntmps29
  go_wp2_with fail
  go_ret2
  exact ⟨rfl, Below.refl _ _⟩
set_option maxRecDepth 100000 in
set_option maxHeartbeats 2000000 in
theorem rs_2818 (w : World) (g : Nat) (s : St) (H : IsF w g s) : Calls Tryd.prog 29 #[hP g, .int .u32 2818] w fun e w' => e = .returned (.tuple #[.int .u32 (((readC s 2818).getD 0 : Nat) : Int), .bool (readC s 2818).isSome]) ∧ Below w.heap.size w w' := by
  rw [show readC s 2818 = some (s.ret % 4294967296) from rfl]
  dsimp only [Option.getD_some, Option.isSome_some]
  have c : w.cell? ⟨g, 76, none⟩ = some (.int .u64 (s.ret : Int)) := H.blk.cellTab 76 (by decide)
  have hl := H.inv.ok.ret
  obtain ⟨v, hv⟩ : ∃ v, v = s.ret % 4294967296 := ⟨_, rfl⟩
  rw [← hv]
  have e1 : (s.ret : Int) % 4294967296 = (v : Int) := by omega
  rw [← e1]
  clear e1 hl
  generalize s.ret = x at *
  clear hv H
  go_enter Tryd.func29, Tryd.ntmps29
  go_wp2_with fail
  go_ret2
  exact ⟨rfl, Below.refl _ _⟩
set_option maxRecDepth 100000 in
set_option maxHeartbeats 2000000 in
theorem rs_2946 (w : World) (g : Nat) (s : St) (H : IsF w g s) : Calls Tryd.prog 29 #[hP g, .int .u32 2946] w fun e w' => e = .returned (.tuple #[.int .u32 (((readC s 2946).getD 0 : Nat) : Int), .bool (readC s 2946).isSome]) ∧ Below w.heap.size w w' := by
  rw [show readC s 2946 = some (s.ret / 4294967296) from rfl]
  dsimp only [Option.getD_some, Option.isSome_some]
  have c : w.cell? ⟨g, 76, none⟩ = some (.int .u64 (s.ret : Int)) := H.blk.cellTab 76 (by decide)
  have hl := H.inv.ok.ret
  obtain ⟨v, hv⟩ : ∃ v, v = s.ret / 4294967296 := ⟨_, rfl⟩
  rw [← hv]
  have e1 : (s.ret : Int) / 4294967296 = (v : Int) := by omega
  have hvl : v < 4294967296 := by omega
  have e2 : (v : Int) % 4294967296 = (v : Int) := by omega
  generalize s.ret = x at *
  clear hv H
  go_enter Tryd.func29, Tryd.ntmps29
  go_wp2_with fail
  go_ret2
  exact ⟨rfl, Below.refl _ _⟩
set_option maxRecDepth 100000 in
set_option maxHeartbeats 2000000 in
theorem rs_no (w : World) (g n : Nat) (hn : n ≠ 768 ∧ n ≠ 769 ∧ n ≠ 772 ∧ n ≠ 773 ∧ n ≠ 832 ∧ n ≠ 833 ∧ n ≠ 834 ∧ n ≠ 835 ∧ n ≠ 836 ∧ n ≠ 2816 ∧ n ≠ 2944 ∧ n ≠ 2818 ∧ n ≠ 2946) : Calls Tryd.prog 29 #[hP g, .int .u32 (n : Int)] w fun e w' => e = .returned (.tuple #[.int .u32 0, .bool false]) ∧ Below w.heap.size w w' := by
  obtain ⟨h768, h769, h772, h773, h832, h833, h834, h835, h836, h2816, h2944, h2818, h2946⟩ := hn
  have d768 : ((n : Int) == 768) = false := beq_eq_false_iff_ne.2 (by omega)
  have d769 : ((n : Int) == 769) = false := beq_eq_false_iff_ne.2 (by omega)
  have d772 : ((n : Int) == 772) = false := beq_eq_false_iff_ne.2 (by omega)
  have d773 : ((n : Int) == 773) = false := beq_eq_false_iff_ne.2 (by omega)
  have d832 : ((n : Int) == 832) = false := beq_eq_false_iff_ne.2 (by omega)
  have d833 : ((n : Int) == 833) = false := beq_eq_false_iff_ne.2 (by omega)
  have d834 : ((n : Int) == 834) = false := beq_eq_false_iff_ne.2 (by omega)
  have d835 : ((n : Int) == 835) = false := beq_eq_false_iff_ne.2 (by omega)
  have d836 : ((n : Int) == 836) = false := beq_eq_false_iff_ne.2 (by omega)
  have d2816 : ((n : Int) == 2816) = false := beq_eq_false_iff_ne.2 (by omega)
  have d2944 : ((n : Int) == 2944) = false := beq_eq_false_iff_ne.2 (by omega)
  have d2818 : ((n : Int) == 2818) = false := beq_eq_false_iff_ne.2 (by omega)
  have d2946 : ((n : Int) == 2946) = false := beq_eq_false_iff_ne.2 (by omega)
  go_enter Tryd.func29, Tryd.ntmps29
  go_wp2_with fail
  go_ret2
  exact ⟨rfl, Below.refl _ _⟩
set_option maxRecDepth 100000 in
set_option maxHeartbeats 2000000 in
theorem rs_any (w : World) (g n : Nat) (s : St) (H : IsF w g s) (h1 : ¬ (928 ≤ n ∧ n < 932)) (h2 : ¬ (944 ≤ n ∧ n < 960)) (h3 : ¬ (3857 ≤ n ∧ n < 3861)) : Calls Tryd.prog 29 #[hP g, .int .u32 (n : Int)] w fun e w' => e = .returned (.tuple #[.int .u32 (((readC s n).getD 0 : Nat) : Int), .bool (readC s n).isSome]) ∧ Below w.heap.size w w' := by
  by_cases h768 : n = 768
  · subst h768; exact rs_768 w g s H
  by_cases h769 : n = 769
  · subst h769; exact rs_769 w g s H
  by_cases h772 : n = 772
  · subst h772; exact rs_772 w g s H
  by_cases h773 : n = 773
  · subst h773; exact rs_773 w g s H
  by_cases h832 : n = 832
  · subst h832; exact rs_832 w g s H
  by_cases h833 : n = 833
  · subst h833; exact rs_833 w g s H
  by_cases h834 : n = 834
  · subst h834; exact rs_834 w g s H
  by_cases h835 : n = 835
  · subst h835; exact rs_835 w g s H
  by_cases h836 : n = 836
  · subst h836; exact rs_836 w g s H
  by_cases h2816 : n = 2816
  · subst h2816; exact rs_2816 w g s H
  by_cases h2944 : n = 2944
  · subst h2944; exact rs_2944 w g s H
  by_cases h2818 : n = 2818
  · subst h2818; exact rs_2818 w g s H
  by_cases h2946 : n = 2946
  · subst h2946; exact rs_2946 w g s H
  have hr : readC s n = none := by
    unfold readC rM isK
    rw [if_neg h769, if_neg h2816, if_neg h2944, if_neg h2818, if_neg h2946, if_neg (by omega), if_neg h1, if_neg]
    simp only [Bool.or_eq_true, beq_iff_eq, Bool.and_eq_true, decide_eq_true_eq]
    omega
  rw [hr]
  exact rs_no w g n ⟨h768, h769, h772, h773, h832, h833, h834, h835, h836, h2816, h2944, h2818, h2946⟩
end Go.Proofs.YthaockngbagdhaaDoor.Cs
