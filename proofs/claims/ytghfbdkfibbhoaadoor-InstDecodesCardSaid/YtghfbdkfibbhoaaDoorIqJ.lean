/-
Layer 11: package inst's Decode.
-/
import Derived.Test.YtghfbdkfibbhoaaDoorIqI
namespace Go.Proofs.YtghfbdkfibbhoaaDoor
open Go Go.RowKit

theorem insW_zero (x : Nat) : tab 5 (insW x 0) = tab 5 (insA 0 0 0 0 0) := rfl
set_option maxRecDepth 100000 in
set_option maxHeartbeats 4000000 in
theorem adecode_any (x : Nat) (w : World) (hT : TabW w) (hx : x < 4294967296) :
    Calls Tryd.prog 10 #[.int .u32 (x : Int)] w fun e w' => e = .returned (.agg (tab 5 (insW x (opOf x)))) ∧ Below w.heap.size w w' := by
  have kE := fun (i : Nat) (h1 : 1 ≤ i) (h2 : i < 57) (W : World) (hT : TabW W) => encodes_any x i W hT hx h1 h2
  have kF := fun (i : Nat) (h1 : 1 ≤ i) (h2 : i < 57) (W : World) => fieldsOf_any x i W hx h1 h2
  have KE := Lib.hid kE
  have KF := Lib.hid kF
  have HT := Lib.hid hT
  clear kE kF hT
  go_enter Tryd.func10, Tryd.ntmps10
  go_wp2_with fail
  go_loopw [3] (fun ct wr => ∃ i : Nat, 1 ≤ i ∧ i ≤ 57 ∧ ct = .int .i64 (i : Int) ∧ (∀ j, 1 ≤ j → j < i → mtchB x j = false) ∧ TabW wr ∧ Has wr w.heap.size 26 (tab 5 (insA 0 0 0 0 0)) ∧ Below w.heap.size w wr) (fun ct _ => (57 - (intOf ct)).toNat)
  case atStart => exact ⟨1, by omega, by omega, rfl, fun j h1 h2 => by omega, HT.out.below ((Below.refl _ _).alloc (Nat.le_refl _) _), Has.new w 26 (tab 5 (insA 0 0 0 0 0)), (Below.refl _ _).alloc (Nat.le_refl _) _⟩
  case round =>
    obtain ⟨i, h1, hi, rfl, hn, hT, hR, hb⟩ := hrel
    by_cases hlt : i < 57
    · have di : (i : Int) < 57 := by omega
      have kE := KE.out i h1 hlt wr hT
      have kF := KF.out i h1 hlt
      have HN := Lib.hid hn
      have HR := Lib.hid hR
      have HB := Lib.hid hb
      have HTr := Lib.hid hT
      clear hn hR hb hT
      cases hm : mtchB x i with
      | true =>
        rw [hm] at kE
        have hop := opOf_some h1 hlt hm HN.out
        have HOP := Lib.hid hop
        clear hm hop
        go_wp2_with (go_at_call 28; with_reducible refine kE.mono ?_; rintro e w2 ⟨rfl, hb2⟩)
        refine (kF _).mono ?_
        rintro e w3 ⟨rfl, hb3⟩
        have hR3 := (HR.out.below hb2 HR.out.lt).below hb3 (HR.out.below hb2 HR.out.lt).lt
        have hbb := (HB.out.trans (hb2.mono HB.out.size)).trans (hb3.mono (Nat.le_trans HB.out.size hb2.size))
        have HR3 := Lib.hid hR3
        have HBB := Lib.hid hbb
        clear hR3 hbb hb2 hb3
        go_wp2_with (refine wp_store_tab rfl 26 _ _ rfl w.heap.size 0 rfl 5 (insW x i) rfl 5 (insA 0 0 0 0 0) 26 HR3.out infoIa5 (by omega) (insA_one _ _ _ _ _) ?_; intro w9 hG9 hg9)
        rw [tab5_all] at hG9
        exact bodyPost_ret (results_cell_row rfl _ _ w.heap.size 26 _ _ _ rfl hG9 Tryd.underlying26 rfl infoIa5) rfl ⟨by rw [HOP.out], below_fin hg9 HBB.out (Nat.le_refl _)⟩
      | false =>
        rw [hm] at kE
        have HM := Lib.hid hm
        clear hm
        go_wp2_with (go_at_call 28; with_reducible refine kE.mono ?_; rintro e w2 ⟨rfl, hb2⟩)
        go_roundw
        case rel => exact ⟨i + 1, by omega, by omega, by go_num, fun j hj1 hj => if h : j = i then h ▸ HM.out else HN.out j hj1 (by omega), HTr.out.below hb2, HR.out.below hb2 HR.out.lt, HB.out.trans (hb2.mono HB.out.size)⟩
        case measure => simp [intOf] <;> omega
    · obtain rfl : i = 57 := by omega
      go_wp2_with (refine wp_store_tab rfl 26 _ _ rfl w.heap.size 0 rfl 5 (insA 0 0 0 0 0) rfl 5 (insA 0 0 0 0 0) 26 hR infoIa5 (by omega) (insA_one _ _ _ _ _) ?_; intro w9 hG9 hg9)
      rw [tab5_all] at hG9
      exact bodyPost_ret (results_cell_row rfl _ _ w.heap.size 26 _ _ _ rfl hG9 Tryd.underlying26 rfl infoIa5) rfl ⟨by rw [opOf_none hn, insW_zero], below_fin hg9 hb (Nat.le_refl _)⟩
end Go.Proofs.YtghfbdkfibbhoaaDoor
