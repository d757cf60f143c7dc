/-
Layer 11: the law's example; InstDecodes.
-/
import Derived.Test.YtghfbdkfibbhoaaDoorIpE
import Derived.Test.YtghfbdkfibbhoaaDoorIqJ
import Derived.Test.YtghfbdkfibbhoaaDoorInJ
import Derived.Test.YtghfbdkfibbhoaaDoorInK
namespace Go.Proofs.YtghfbdkfibbhoaaDoor
open Go Go.RowKit

theorem rencode_ok (i a b c n : Nat) (w : World) (h1 : 1 ≤ i) (h2 : i < 57) (ha : a ≤ 31) (hb : b ≤ 31) (hc : c ≤ 31) (hn : n < 4294967296) :
    Calls Tryd.prog 13 #[.agg (tab 5 (insR i a b c n))] w fun e w' => e = .returned (.tuple #[.int .i64 (encW i a b c n : Nat), .bool (encB i a b c n)]) ∧ Below w.heap.size w w' := by
  have hf := opP_ne i h1 h2
  obtain ⟨e1, e2⟩ := enc_agree i a b c n h1 h2 ha hb hc
  rw [← e1, ← e2]
  obtain ⟨W, hWe⟩ : ∃ W, (opP i).2 = W := ⟨_, rfl⟩
  have hW : W < 4294967296 := hWe ▸ word_lt i
  obtain ⟨f, hfe⟩ : ∃ f, (opP i).1 = f := ⟨_, rfl⟩
  rw [hWe, hfe]
  rw [hfe] at hf
  cases f
  case O => exact absurd rfl hf
  case U => exact encode_U W i a b c n w h1 h2 hfe hWe hW ha hb hc hn
  case J => exact encode_J W i a b c n w h1 h2 hfe hWe hW ha hb hc hn
  case I => exact encode_I W i a b c n w h1 h2 hfe hWe hW ha hb hc hn
  case B => exact encode_B W i a b c n w h1 h2 hfe hWe hW ha hb hc hn
  case S => exact encode_S W i a b c n w h1 h2 hfe hWe hW ha hb hc hn
  case T => exact encode_T W i a b c n w h1 h2 hfe hWe hW ha hb hc hn
  case R => exact encode_R W i a b c n w h1 h2 hfe hWe hW ha hb hc hn
  case F => exact encode_F W i a b c n w h1 h2 hfe hWe hW ha hb hc hn
  case N => exact encode_N W i a b c n w h1 h2 hfe hWe hW ha hb hc hn
  case C => exact encode_C W i a b c n w h1 h2 hfe hWe hW ha hb hc hn
  case Z => exact encode_Z W i a b c n w h1 h2 hfe hWe hW ha hb hc hn
theorem opOf_one : opOf 1048723 = 19 := opOf_is 1048723 19 (by decide) (by decide) (by decide +kernel)
theorem opOf_nil : opOf 0 = 0 := by decide +kernel
theorem dec_one (w : World) (hT : TabW w) : Calls Tryd.prog 10 #[.int .u32 1048723] w fun e w' => e = .returned (.agg #[.int .i64 19, .int .i64 1, .int .i64 0, .int .i64 0, .int .u32 1]) ∧ Below w.heap.size w w' := by
  have h := adecode_any 1048723 w hT (by decide)
  rw [opOf_one, show tab 5 (insW 1048723 19) = #[.int .i64 19, .int .i64 1, .int .i64 0, .int .i64 0, .int .u32 1] by kernel_rfl] at h
  exact h
theorem dec_nil (w : World) (hT : TabW w) : Calls Tryd.prog 10 #[.int .u32 0] w fun e w' => e = .returned (.agg #[.int .i64 0, .int .i64 0, .int .i64 0, .int .i64 0, .int .u32 0]) ∧ Below w.heap.size w w' := by
  have h := adecode_any 0 w hT (by decide)
  rw [opOf_nil, insW_zero] at h
  exact h
theorem enc_one (w : World) (hT : TabW w) : Calls Tryd.prog 12 #[.agg #[.int .i64 19, .int .i64 1, .int .i64 0, .int .i64 0, .int .u32 1]] w fun e w' => e = .returned (.tuple #[.int .u32 1048723, .bool true]) ∧ Below w.heap.size w w' := by
  have h := aencode_any 19 1 0 0 1 w hT (by decide) (by decide) (by decide)
  rw [show encB 19 1 0 0 1 = true by decide +kernel, show encW 19 1 0 0 1 = 1048723 by decide +kernel] at h
  exact h
theorem form_45 (w : World) : Calls Tryd.prog 27 #[.int .i64 45] w fun e w' => e = .returned (.int .i64 5) ∧ w = w' := form_at 45 w (by decide) (by decide)
set_option maxRecDepth 100000 in
set_option maxHeartbeats 4000000 in
theorem fit11_any (w : World) (hT : TabW w) : Calls Tryd.prog 8 #[] w fun e w' => e = .returned (.bool true) ∧ Below w.heap.size w w' := by
  have HT := Lib.hid hT
  have k0 := dec_one w hT
  clear hT
  go_enter Tryd.func8, Tryd.ntmps8
  go_wp2_with fail
  refine k0.mono ?_
  rintro e w1 ⟨rfl, hb1⟩
  go_upto_region 2 with fail
  obtain ⟨wa, hwa, hX, hba, hsa⟩ := one_new w1 #[.int .i64 19, .int .i64 1, .int .i64 0, .int .i64 0, .int .u32 1] 26
  rw [← hwa]
  have hTa := (HT.out.below hb1).below hba
  have hb2 := hb1.trans (hba.mono hb1.size)
  have hlX := hX.lt
  clear hwa hba hb1 hsa k0
  have k1 := enc_one wa hTa
  have HTa := Lib.hid hTa
  have HX := Lib.hid hX
  have HB2 := Lib.hid hb2
  have c0 : wa.cell? ⟨w1.heap.size, 0, none⟩ = some (.int .i64 19) := hX.cell 0
  have c1 : wa.cell? ⟨w1.heap.size, 1, none⟩ = some (.int .i64 1) := hX.cell 1
  have c2 : wa.cell? ⟨w1.heap.size, 2, none⟩ = some (.int .i64 0) := hX.cell 2
  have c3 : wa.cell? ⟨w1.heap.size, 3, none⟩ = some (.int .i64 0) := hX.cell 3
  have c4 : wa.cell? ⟨w1.heap.size, 4, none⟩ = some (.int .u32 1) := hX.cell 4
  clear hTa hX hb2
  go_upto_region 3 with (go_at_call 12; with_reducible refine k1.mono ?_; rintro e w3 ⟨rfl, hb3⟩)
  have hX3 := HX.out.below hb3 HX.out.lt
  have hT3 := HTa.out.below hb3
  have hbb := HB2.out.trans (hb3.mono HB2.out.size)
  have HT3 := Lib.hid hT3
  have HBB := Lib.hid hbb
  clear c0 c1 c2 c3 c4 hb3 hT3 hbb k1
  have c0 : w3.cell? ⟨w1.heap.size, 0, none⟩ = some (.int .i64 19) := hX3.cell 0
  have c1 : w3.cell? ⟨w1.heap.size, 1, none⟩ = some (.int .i64 1) := hX3.cell 1
  have c2 : w3.cell? ⟨w1.heap.size, 2, none⟩ = some (.int .i64 0) := hX3.cell 2
  have c3 : w3.cell? ⟨w1.heap.size, 3, none⟩ = some (.int .i64 0) := hX3.cell 3
  have c4 : w3.cell? ⟨w1.heap.size, 4, none⟩ = some (.int .u32 1) := hX3.cell 4
  clear hX3
  go_wp2_with (go_at_call 27; with_reducible refine (form_45 _).mono ?_; rintro e w4 ⟨rfl, rfl⟩)
  refine (dec_nil _ HT3.out).mono ?_
  rintro e w5 ⟨rfl, hb5⟩
  go_wp2_with fail
  go_ret
  exact ⟨rfl, HBB.out.trans (hb5.mono HBB.out.size)⟩
set_option maxRecDepth 100000 in
set_option maxHeartbeats 4000000 in
theorem decodes11_ok (x : Nat) (w : World) (hT : TabW w) (hx : x < 4294967296) :
    Calls Tryd.prog 3 #[.int .u32 (x : Int)] w fun e w' => e = .returned (.bool true) ∧ Below w.heap.size w w' := by
  have HT := Lib.hid hT
  have kf := fit11_any w hT
  have kA := fun W (hT : TabW W) => adecode_any x W hT hx
  have kR := fun W => decode_any x W hx
  have kL : ∀ W, Calls Tryd.prog 9 #[.agg (tab 5 (insW x (opOf x))), .agg (tab 5 (decV x (opOf x)))] W fun e w' => e = .returned (.bool true) ∧ Below W.heap.size W w' := fun W => by
    have h := like_any (opOf x : Nat) ((if rdB (opP (opOf x)).1 then bitsN x 11 7 else 0 : Nat) : Int) ((if r1B (opP (opOf x)).1 then bitsN x 19 15 else 0 : Nat) : Int) ((if r2B (opP (opOf x)).1 then bitsN x 24 20 else 0 : Nat) : Int) ((immL (opP (opOf x)).1 x : Nat) : Int) (opOf x : Nat) ((if rdB (opP (opOf x)).1 then bitsN x 11 7 else 0 : Nat) : Int) ((if r1B (opP (opOf x)).1 then bitsN x 19 15 else 0 : Nat) : Int) ((if r2B (opP (opOf x)).1 then bitsN x 24 20 else 0 : Nat) : Int) (immZ (opP (opOf x)).1 x) W
    rw [like_dec x (opOf x) hx] at h
    exact h
  clear hT
  generalize tab 5 (insW x (opOf x)) = X at *
  generalize tab 5 (decV x (opOf x)) = Y at *
  have KA := Lib.hid kA
  clear kA
  go_enter Tryd.func3, Tryd.ntmps3
  go_wp2_with (go_at_call 8; with_reducible refine kf.mono ?_; rintro e w1 ⟨rfl, hb1⟩)
  refine (KA.out _ (HT.out.below hb1)).mono ?_
  rintro e w2 ⟨rfl, hb2⟩
  go_wp2_with fail
  refine (kR _).mono ?_
  rintro e w3 ⟨rfl, hb3⟩
  go_wp2_with fail
  refine (kL _).mono ?_
  rintro e w4 ⟨rfl, hb4⟩
  go_wp2_with fail
  go_ret
  replace hb2 := hb1.trans (hb2.mono hb1.size)
  replace hb3 := hb2.trans (hb3.mono hb2.size)
  exact ⟨rfl, hb3.trans (hb4.mono hb3.size)⟩
end Go.Proofs.YtghfbdkfibbhoaaDoor
