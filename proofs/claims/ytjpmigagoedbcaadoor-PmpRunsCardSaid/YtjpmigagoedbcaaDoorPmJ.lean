/-
Layer 12: PmpPlans, by what package pmp's calls answer.
-/
import Derived.Test.YtjpmigagoedbcaaDoorPmI
namespace Go.Proofs.YtjpmigagoedbcaaDoor.Pm
open Go Go.RowKit

theorem drewN_add (w : World) (m n : Nat) : (w.drewN m).drewN n = w.drewN (m + n) := by
  unfold World.drewN
  simp [Nat.add_assoc]
set_option maxRecDepth 100000 in
set_option maxHeartbeats 2000000 in
theorem plans12_ok (H : PmpOK) (gs : List Gr) (s : Sl) (w : World) (hT : TabT w) (hS : SlG w s gs) :
    Calls Tryd.prog 3 #[s.v] w fun e w' => e = .returned (.bool true) ∧ Below w.heap.size w w' := by
  have hlen := hS.1
  have kf := fit12_any H w hT
  obtain ⟨A, n, c⟩ := s
  dsimp only at hlen
  have HS := Lib.hid hS
  clear hS hT
  show Calls Tryd.prog 3 #[.slice A n c] w _
  go_enter Tryd.func3, Tryd.ntmps3
  by_cases h40 : n ≤ 40
  · have h40' : ¬ 40 < (n : Int) := by omega
    go_wp2_with (go_at_call 8; with_reducible refine kf.mono ?_; rintro e w1 ⟨rfl, hb1⟩)
    refine (show Calls Tryd.prog 9 #[.slice A n c] w1 _ from H.plan gs ⟨A, n, c⟩ w1 (HS.out.below hb1) (by omega)).mono ?_
    rintro e w2 ⟨⟨A2, n2, c2, rfl, hE2⟩, hb2⟩
    have hb2' := hb1.trans (hb2.mono hb1.size)
    have HE2 := Lib.hid hE2
    have HB2 := Lib.hid hb2'
    clear hE2 hb2 hb2' hb1 kf
    go_wp2_with fail
    refine (show Calls Tryd.prog 10 #[.slice A n c] w2 _ from rplan_R gs ⟨A, n, c⟩ w2 (HS.out.below HB2.out) (by omega)).mono ?_
    rintro e w3 ⟨⟨A3, n3, c3, rfl, hE3⟩, hb3⟩
    have hE2 := HE2.out.below hb3
    have hb3' := HB2.out.trans (hb3.mono HB2.out.size)
    have hn : n2 = n3 := hE2.1.symm.trans hE3.1
    subst hn
    have hn2 := hE2.2.1.1
    have hn3 := hE3.2.1.1
    dsimp only at hn2 hn3
    have HE2' := Lib.hid hE2
    have HE3 := Lib.hid hE3
    have HB3 := Lib.hid hb3'
    clear hE2 hE3 hb3 hb3' HE2
    generalize (planN gs).2 = er at *
    generalize (planN gs).1 = es at *
    go_wp2_with fail
    go_loopw [35] (fun ct wr => ∃ i : Nat, i ≤ n2 ∧ ct = .int .i64 (i : Int) ∧ ∃ m, wr = w3.drewN m) (fun ct _ => (n2 - (intOf ct)).toNat)
    case atStart => exact ⟨0, Nat.zero_le _, rfl, 0, rfl⟩
    case round =>
      obtain ⟨i, hi, rfl, m, rfl⟩ := hrel
      by_cases hlt : i < n2
      · have hin : (i : Int) < (n2 : Int) := by omega
        obtain ⟨b, o, hA2, hlb2, hcc2⟩ := HE2'.out.2.1.2 (show 0 < n2 by omega)
        obtain ⟨b', o', hA3, hlb3, hcc3⟩ := HE3.out.2.1.2 (show 0 < n2 by omega)
        dsimp only at hA2 hA3
        subst hA2 hA3
        have c0 : (w3.drewN m).cell? ⟨b, o + i * 3, none⟩ = some (.int .i64 (es.getD i en0).w) := hcc2 i 0 hlt (by omega)
        have c1 : (w3.drewN m).cell? ⟨b, o + i * 3 + 1, none⟩ = some (.int .i64 (es.getD i en0).r) := hcc2 i 1 hlt (by omega)
        have c2' : (w3.drewN m).cell? ⟨b, o + i * 3 + 2, none⟩ = some (.int .u32 ((es.getD i en0).a : Int)) := hcc2 i 2 hlt (by omega)
        have d0 : (w3.drewN m).cell? ⟨b', o' + i * 3, none⟩ = some (.int .i64 (es.getD i en0).w) := hcc3 i 0 hlt (by omega)
        have d1 : (w3.drewN m).cell? ⟨b', o' + i * 3 + 1, none⟩ = some (.int .i64 (es.getD i en0).r) := hcc3 i 1 hlt (by omega)
        have d2 : (w3.drewN m).cell? ⟨b', o' + i * 3 + 2, none⟩ = some (.int .u32 ((es.getD i en0).a : Int)) := hcc3 i 2 hlt (by omega)
        have hat1 := at_entry b o n2 c2 i hin
        have hat2 := at_entry b' o' n2 c3 i hin
        generalize es.getD i en0 = g at *
        clear hcc2 hcc3
        generalize hwm : w3.drewN m = wm at *
        have HWM := Lib.hid hwm
        clear hwm
        go_upto_region 12 with fail
        go_quiet (fail)
        go_wp2_with fail
        go_roundw
        case rel => exact ⟨i + 1, by omega, by go_num, m + nq, by rw [← HWM.out, drewN_add]⟩
        case measure => simp [intOf] <;> omega
      · obtain rfl : i = n2 := by omega
        go_wp2_with fail
        go_ret
        exact ⟨rfl, below_drewN HB3.out m⟩
  · have h40' : 40 < (n : Int) := by omega
    go_wp2_with (go_at_call 8; with_reducible refine kf.mono ?_; rintro e w1 ⟨rfl, hb1⟩)
    go_ret
    exact ⟨rfl, hb1⟩
end Go.Proofs.YtjpmigagoedbcaaDoor.Pm
