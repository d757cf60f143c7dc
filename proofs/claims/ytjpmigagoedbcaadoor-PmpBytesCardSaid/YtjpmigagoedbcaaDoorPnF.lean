/-
Layer 12: package pmp's Plan; what package pmp's calls answer (but Runs).
-/
import Derived.Test.YtjpmigagoedbcaaDoorPnE
import Derived.Test.YtjpmigagoedbcaaDoorPnD
namespace Go.Proofs.YtjpmigagoedbcaaDoor.Pm
open Go Go.RowKit

theorem nap_last : (0 : Nat) / 4 ||| (4294967296 / 8 - 1) = 536870911 := by decide
set_option maxRecDepth 100000 in
set_option maxHeartbeats 4000000 in
theorem plan_any' (gs : List Gr) (s : Sl) (w : World) (hS : SlG w s gs) (h40 : gs.length ≤ 40) :
    Calls Tryd.prog 9 #[s.v] w fun e w' => PlanR gs e w' ∧ Below w.heap.size w w' := by
  have hlen := hS.1
  have hn := hS.2.1.1
  obtain ⟨A, n, c⟩ := s
  dsimp only at hlen hn
  have HS := Lib.hid hS
  clear hS
  show Calls Tryd.prog 9 #[.slice A n c] w _
  unfold PlanR
  go_enter Tryd.func9, Tryd.ntmps9
  go_wp2_with fail
  go_loopw [11] (fun ct wr => ∃ i : Nat, i ≤ n ∧ ct = .int .i64 (i : Int) ∧ (∀ j, j < i → okG (gs.getD j gr0) = true) ∧ Below w.heap.size w wr) (fun ct _ => (n - (intOf ct)).toNat)
  case atStart => exact ⟨0, Nat.zero_le _, rfl, fun j h => by omega, Below.refl _ _⟩
  case round =>
    obtain ⟨i, hi, rfl, hok, hb⟩ := hrel
    by_cases hlt : i < n
    · have hin : (i : Int) < (n : Int) := by omega
      have hwf := HS.out.wf (j := i) hlt
      obtain ⟨b, o, hA, hlb, _⟩ := HS.out.2.1.2 (show 0 < n by omega)
      dsimp only at hA
      subst hA
      have hrg := (HS.out.below hb).2.1.range (b := b) (o := o) rfl (j := i) hlt
      have hrg' : wr.rangeAt b (o + i * 3) ((List.range 3).map (grV (gs.getD i gr0))) := hrg
      have hat := at_grant b o n c i hin
      generalize hg : gs.getD i gr0 = g at *
      have HG := Lib.hid hg
      have HOK := Lib.hid hok
      have HB := Lib.hid hb
      have HW := Lib.hid hwf
      obtain ⟨gS, gZ, gR⟩ := g
      clear hg hok hb hrg hwf
      go_upto_region 4 with (refine wp_load_grant rfl _ rfl b (o + i * 3) rfl ⟨gS, gZ, gR⟩ hrg' ?_)
      obtain ⟨wa, hwa, hX, hba, hsa⟩ := one_new wr #[.int .u32 (gS : Int), .int .u32 (gZ : Int), .int .i64 gR] 36
      rw [← hwa]
      have hbb := HB.out.trans (hba.mono HB.out.size)
      have c0 : wa.cell? ⟨wr.heap.size, 0, none⟩ = some (.int .u32 (gS : Int)) := hX.cell 0
      have c1 : wa.cell? ⟨wr.heap.size, 1, none⟩ = some (.int .u32 (gZ : Int)) := hX.cell 1
      have c2 : wa.cell? ⟨wr.heap.size, 2, none⟩ = some (.int .i64 gR) := hX.cell 2
      have kV := valid_any gS gZ gR HW.out.s HW.out.z wa
      generalize hv : okG ⟨gS, gZ, gR⟩ = v at *
      have HV := Lib.hid hv
      have HBB := Lib.hid hbb
      clear hwa hba hsa hrg' hX hbb hv
      go_wp2_with fail
      refine kV.mono ?_
      rintro e w2 ⟨rfl, hb2⟩
      have hb3 := HBB.out.trans (hb2.mono HBB.out.size)
      have HB3 := Lib.hid hb3
      clear hb2 hb3 kV c0 c1 c2
      cases v with
      | false =>
        go_wp2_with fail
        go_ret2
        rw [planN_bad (i := i) (by omega) (by rw [HG.out]; exact HV.out)]
        exact ⟨⟨none, 0, 0, rfl, slE_nil _⟩, HB3.out⟩
      | true =>
        go_wp2_with fail
        go_roundw
        case rel =>
          refine ⟨i + 1, by omega, by go_num, fun j hj => ?_, HB3.out⟩
          by_cases hji : j = i
          · rw [hji, HG.out]; exact HV.out
          · exact HOK.out j (by omega)
        case measure => simp [intOf] <;> omega
    · obtain rfl : i = n := by omega
      have hallB : gs.all okG = true := List.all_eq_true.2 fun g hg => by
        obtain ⟨j, hj, rfl⟩ := List.getElem_of_mem hg
        have := hok j (by omega)
        rwa [List.getD_eq_getElem?_getD, List.getElem?_eq_getElem hj] at this
      have hin : ¬ (i : Int) < (i : Int) := by omega
      have HB := Lib.hid hb
      have HAL := Lib.hid hallB
      have HOK := Lib.hid hok
      clear hb hallB hok hlt
      go_wp2_with fail
      obtain ⟨wo, hwo⟩ : ∃ wo : World, wo = wr := ⟨_, rfl⟩
      rw [← hwo] at HB
      clear hin
      go_loopw [6, 21] (fun cv ct wr => ∃ (j m : Nat), j ≤ i ∧ ct = .int .i64 (j : Int) ∧ m = (entsG (gs.take j)).length ∧ wr.ownsRow w.heap.size 32 3 cv m (cellsL 3 enV (entsG (gs.take j))) ∧ Below w.heap.size w wr) (fun _ ct _ => (i - (intOf ct)).toNat)
      case atStart => exact ⟨0, 0, Nat.zero_le _, rfl, rfl, ⟨rfl, Or.inl ⟨rfl, rfl⟩⟩, hwo ▸ HB.out⟩
      case round =>
        clear hwo
        obtain ⟨j, m, hj, rfl, hm, hown, hb⟩ := hrel
        by_cases hlt : j < i
        · have hjn : (j : Int) < (i : Int) := by omega
          have hwf := HS.out.wf (j := j) hlt
          have hokj := HOK.out j hlt
          obtain ⟨b, o, hA, hlb, _⟩ := HS.out.2.1.2 (show 0 < i by omega)
          dsimp only at hA
          subst hA
          have hrg := (HS.out.below hb).2.1.range (b := b) (o := o) rfl (j := j) hlt
          have hrg' : wr.rangeAt b (o + j * 3) ((List.range 3).map (grV (gs.getD j gr0))) := hrg
          have hat := at_grant b o i c j hjn
          have hm2 : m ≤ 80 := by
            have h1 := ents_len (gs.take j)
            have h2 : (gs.take j).length ≤ j := List.length_take_le ..
            omega
          have hsu := ents_succ gs j (by omega)
          generalize gs.getD j gr0 = g at *
          have HSU := Lib.hid hsu
          have HM := Lib.hid hm
          have HO := Lib.hid hown
          have HBr := Lib.hid hb
          have HW := Lib.hid hwf
          have HKJ := Lib.hid hokj
          obtain ⟨gS, gZ, gR⟩ := g
          clear hsu hm hown hb hrg hwf hokj
          go_upto_region 11 with (refine wp_load_grant rfl _ rfl b (o + j * 3) rfl ⟨gS, gZ, gR⟩ hrg' ?_)
          obtain ⟨wa, hwa, hX, hba, hsa⟩ := one_new wr #[.int .u32 (gS : Int), .int .u32 (gZ : Int), .int .i64 gR] 36
          rw [← hwa]
          have hbb := HBr.out.trans (hba.mono HBr.out.size)
          have hown := own_after HO.out hba
          have c0 : wa.cell? ⟨wr.heap.size, 0, none⟩ = some (.int .u32 (gS : Int)) := hX.cell 0
          have c1 : wa.cell? ⟨wr.heap.size, 1, none⟩ = some (.int .u32 (gZ : Int)) := hX.cell 1
          have c2 : wa.cell? ⟨wr.heap.size, 2, none⟩ = some (.int .i64 gR) := hX.cell 2
          have kP := permit_any gS gZ gR HKJ.out HW.out.s HW.out.z wa
          have HBB := Lib.hid hbb
          have HOW := Lib.hid hown
          clear hwa hba hsa hrg' hX hbb hown
          go_wp2_with fail
          refine kP.mono ?_
          rintro e w2 ⟨h, mm, rfl, hmm, hH, hb2⟩
          have hb3 := HBB.out.trans (hb2.mono HBB.out.size)
          have hown := own_after HOW.out hb2
          have hmm2 := entG_len ⟨gS, gZ, gR⟩
          rw [hmm] at hmm2
          have HMM := Lib.hid hmm
          have HH := Lib.hid hH
          have HB3 := Lib.hid hb3
          have HO3 := Lib.hid hown
          clear hb2 hb3 kP c0 c1 c2 hmm hH hown
          go_wp2_with (refine wp_append_els (f := enV) Tryd.underlying24 infoEb rfl (by decide) (by decide) enV_one rfl _ _ rfl w.heap.size _ m _ rfl HO3.out h mm rfl (entG ⟨gS, gZ, gR⟩) HMM.out HH.out (by omega) HB3.out.size ?_; intro v5 w5 hown5 hgr5; go_frame)
          go_roundw
          case rel =>
            have hb5 := below_own HB3.out HO3.out (Nat.le_refl _) HB3.out.size hgr5
            refine ⟨j + 1, m + mm, by omega, by go_num, ?_, ?_, hb5⟩
            · rw [HSU.out, List.length_append, ← HM.out, HMM.out]
            · rw [HSU.out]; exact hown5
          case measure => simp [intOf] <;> omega
        · obtain rfl : j = i := by omega
          have hjn : ¬ (j : Int) < (j : Int) := by omega
          have htk : gs.take j = gs := by rw [← hlen]; exact List.take_length
          rw [htk] at hm hown
          have hm2 : m ≤ 80 := by have := ents_len gs; omega
          have hpl : (planE gs).length = m + 1 := by unfold planE; rw [List.length_append, hm]; rfl
          have hwfE : ∀ e ∈ planE gs, e.Wf := plan_wf gs HS.out.2.2 HAL.out
          have HOW := Lib.hid hown
          have HBB := Lib.hid hb
          have HPL := Lib.hid hpl
          have HWE := Lib.hid hwfE
          clear hm hown hb hpl hwfE htk hlt hj
          go_wp2_with fail
          refine (show Calls Tryd.prog 21 #[.int .u32 0, .int .u64 4294967296, .int .i64 0] wr _ from napot_any 0 4294967296 536870911 0 (by decide) (by decide) (by decide) nap_last wr).mono ?_
          rintro e w2 ⟨rfl, hb2⟩
          rw [show ((536870911 : Nat) : Int) = 536870911 from rfl]
          have hb3 := HBB.out.trans (hb2.mono HBB.out.size)
          have hown := own_after HOW.out hb2
          have HB3 := Lib.hid hb3
          have HO3 := Lib.hid hown
          clear hb2 hb3 hown
          go_upto_region 14 with (first
            | (refine wp_append_els (f := enV) Tryd.underlying24 infoEb rfl (by decide) (by decide) enV_one rfl _ _ rfl w.heap.size _ m _ rfl (own_after HO3.out ((Below.refl _ _).alloc (Nat.le_refl _) _)) _ 1 rfl [⟨3, 0, 536870911⟩] rfl (Has.new _ _ _) (by omega) (by rw [size_alloc1]; have h8 := HB3.out.size; omega) ?_
               intro v5 w5 hown5 hgr5
               obtain ⟨A5, c5, rfl⟩ := own_sl hown5
               have hb5 := below_app HB3.out HO3.out hgr5
               have hs5 := own_slC hown5 (by decide) (by omega) en0
               have HS5 := Lib.hid hs5
               have HB5 := Lib.hid hb5
               clear hown5 hgr5 hs5 hb5))
          by_cases h16 : 16 < m + 1
          · have h16' : 16 < (m : Int) + 1 := by omega
            have hpn : planN gs = ([], 15) := by unfold planN; rw [if_pos HAL.out, if_pos (by rw [HPL.out]; exact h16)]
            have HPN := Lib.hid hpn
            clear hpn h16
            go_wp2_with fail
            go_ret2
            rw [HPN.out]
            exact ⟨⟨none, 0, 0, rfl, slE_nil _⟩, HB5.out⟩
          · have h16' : ¬ 16 < (m : Int) + 1 := by omega
            have hpn : planN gs = (planE gs, 0) := by unfold planN; rw [if_pos HAL.out, if_neg (by rw [HPL.out]; exact h16)]
            have HPN := Lib.hid hpn
            clear hpn h16
            go_wp2_with fail
            go_ret2
            rw [HPN.out]
            exact ⟨⟨_, _, _, rfl, ⟨HS5.out.1, HS5.out.2, HWE.out⟩⟩, HB5.out⟩
/-- what package pmp's calls answer, but Runs -/
theorem pmp_ok : PmpOK where
  plan := plan_any'
  check := check_any
  of := of_any
  byte := byte_any
end Go.Proofs.YtjpmigagoedbcaaDoor.Pm
