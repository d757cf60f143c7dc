/-
Layer 8, package elf: areLoadable, isEntry.
-/
import Derived.Test.YtfdoloonllhodaaJEmB
import Derived.BigQuiet
namespace Go.Proofs.Ytfdoloonllhodaa
open Go Go.RowKit

set_option maxRecDepth 100000 in
set_option maxHeartbeats 2000000 in
theorem eare_any (hs : List Hd) (s : Sl) (w : World) (hH : SlH w s hs) (hm : hs.length ≤ 5) (hwf : ∀ h ∈ hs, h.Wf) :
    Calls Try.prog 27 #[s.v] w fun e w' => e = .returned (.bool (decide (hs.length ≤ 4) && ldGo hs 0)) ∧ Below w.heap.size w w' := by
  obtain ⟨Ah, m, ch, rfl⟩ := s.out
  have hl : hs.length = m := hH.1
  have HL := Lib.hid hl
  have HH := Lib.hid hH.2
  have HW := Lib.hid hwf
  have hm5 : m ≤ 5 := by omega
  rw [show Sl.v ⟨Ah, m, ch⟩ = .slice Ah m ch from rfl, hl]
  clear hl hm hH hwf
  by_cases h4 : 4 < m
  · have d4 : 4 < (m : Int) := by omega
    have H4 : Hid (decide (m ≤ 4) = false) := Lib.hid (decide_eq_false (by omega))
    clear h4
    go_enter Try.func27, Try.ntmps27
    go_wp2_with fail
    go_ret
    exact ⟨by rw [H4.out]; rfl, Below.refl _ _⟩
  have d4 : (m : Int) ≤ 4 := by omega
  have H4 : Hid (decide (m ≤ 4) = true) := Lib.hid (decide_eq_true (by omega))
  rw [H4.out, Bool.true_and]
  clear h4 H4
  go_enter Try.func27, Try.ntmps27
  go_wp2_with fail
  go_loopw [3, 11] (fun ve ct wr => ∃ i e : Nat, i ≤ m ∧ ve = .int .u32 (e : Int) ∧ ct = .int .i64 (i : Int) ∧ e < 4294967296 ∧ ldGo (hs.drop i) e = ldGo hs 0 ∧ Below w.heap.size w wr) (fun _ ct _ => (m - (intOf ct)).toNat)
  case atStart => exact ⟨0, 0, Nat.zero_le _, rfl, rfl, by decide, rfl, Below.refl _ _⟩
  case round =>
    obtain ⟨i, e, hi, rfl, rfl, he, hgo, hb⟩ := hrel
    by_cases hlt : i < m
    · have di : (i : Int) < (m : Int) := by omega
      have hJ := HH.out.below hb
      obtain ⟨b, o, hA2, hbl, _⟩ := HH.out.2 (by show 0 < m; omega)
      replace hA2 : Ah = some ⟨b, o, none⟩ := hA2
      subst hA2
      have hr := hJ.range rfl (j := i) hlt
      have ha1 := fun w => atE' b o m ch i di w
      have hdc := drop_cons hs hd0 i (by rw [HL.out]; exact hlt)
      have hmem : hs.getD i hd0 ∈ hs := by rw [List.getD_eq_getElem?_getD, List.getElem?_eq_getElem (by rw [HL.out]; exact hlt)]; exact List.getElem_mem _
      have hwf := HW.out _ hmem
      change wr.rangeAt b (o + i * 6) ((List.range 6).map (hdE (hs.getD i hd0))) at hr
      rw [hdc] at hgo
      generalize hs.getD i hd0 = hd at *
      have hgo2 : (ldB hd && decide (e ≤ hd.d) && ldGo (hs.drop (i + 1)) (hd.d + hd.m)) = ldGo hs 0 := hgo
      have HGO := Lib.hid hgo2
      have kL := fun w' => eload_any hd hwf w'
      have hdl := hwf.d
      have hml := hwf.m
      have HB := Lib.hid hb
      obtain ⟨lb, hlb⟩ : ∃ x, x = ldB hd := ⟨_, rfl⟩
      have HLB := Lib.hid hlb
      simp only [← hlb] at kL
      clear hdc hmem hwf hgo hgo2 hJ hbl hb hlb
      cases lb with
      | false =>
        have hret : Hid (ldGo hs 0 = false) := Lib.hid (by rw [← HGO.out, ← HLB.out]; rfl)
        go_wp2_with (first
          | (refine (kL _).mono ?_
             rintro e2 w2 ⟨rfl, hb2⟩
             have hb02 := below_trans hb01 (hb2.mono (Nat.le_refl _)))
          | (refine wp_load_he rfl _ rfl b (o + i * 6) rfl _ hr ?_)
          | (refine wp_fresh 74 6 _ _ _ _ rfl rfl rfl rfl zeroHE infoHE6 (by omega) (hdE_one _) rfl rfl ?_
             intro w1 hG hb1 hz1
             have hb01 := below_trans HB.out (hb1.mono (Nat.le_refl _)))
          | (refine wpList_load_has 74 _ rfl _ rfl rfl 74 _ hG _ Try.underlying74 rfl (by rw [tab_size]; exact infoHE6) ?_))
        go_ret
        exact ⟨by rw [hret.out]; rfl, hb02⟩
      | true =>
        have hsum : hd.d + hd.m ≤ 4294967292 := by
          have h1 := HLB.out
          unfold ldB at h1
          have := of_decide_eq_true h1.symm
          omega
        by_cases hed : hd.d < e
        · have ded : (hd.d : Int) < (e : Int) := by omega
          have hret : Hid (ldGo hs 0 = false) := Lib.hid (by rw [← HGO.out, decide_eq_false (by omega), Bool.and_false]; rfl)
          clear hed
          go_wp2_with (first
            | (refine (kL _).mono ?_
               rintro e2 w2 ⟨rfl, hb2⟩
               have hG2 := hG.after hb2
               have hc2 : w2.cell? ⟨_, 2, none⟩ = some (.int .u32 (hd.d : Int)) := hG2.cellTab 2 (by omega)
               have hb02 := below_trans hb01 (hb2.mono (Nat.le_refl _)))
            | (refine wp_load_he rfl _ rfl b (o + i * 6) rfl _ hr ?_)
            | (refine wp_fresh 74 6 _ _ _ _ rfl rfl rfl rfl zeroHE infoHE6 (by omega) (hdE_one _) rfl rfl ?_
               intro w1 hG hb1 hz1
               have hb01 := below_trans HB.out (hb1.mono (Nat.le_refl _)))
            | (refine wpList_load_has 74 _ rfl _ rfl rfl 74 _ hG _ Try.underlying74 rfl (by rw [tab_size]; exact infoHE6) ?_))
          go_ret
          exact ⟨by rw [hret.out]; rfl, hb02⟩
        · have ded : (e : Int) ≤ (hd.d : Int) := by omega
          have hret : Hid (ldGo (hs.drop (i + 1)) (hd.d + hd.m) = ldGo hs 0) := Lib.hid (by rw [← HGO.out, ← HLB.out, decide_eq_true (by omega)]; rfl)
          have hsi : (hd.d : Int) + (hd.m : Int) ≤ 4294967292 := by omega
          clear hed
          go_wp2_with (first
            | (refine (kL _).mono ?_
               rintro e2 w2 ⟨rfl, hb2⟩
               have hG2 := hG.after hb2
               have hc2 : w2.cell? ⟨_, 2, none⟩ = some (.int .u32 (hd.d : Int)) := hG2.cellTab 2 (by omega)
               have hc4 : w2.cell? ⟨_, 4, none⟩ = some (.int .u32 (hd.m : Int)) := hG2.cellTab 4 (by omega)
               have hb02 := below_trans hb01 (hb2.mono (Nat.le_refl _)))
            | (refine wp_load_he rfl _ rfl b (o + i * 6) rfl _ hr ?_)
            | (refine wp_fresh 74 6 _ _ _ _ rfl rfl rfl rfl zeroHE infoHE6 (by omega) (hdE_one _) rfl rfl ?_
               intro w1 hG hb1 hz1
               have hb01 := below_trans HB.out (hb1.mono (Nat.le_refl _)))
            | (refine wpList_load_has 74 _ rfl _ rfl rfl 74 _ hG _ Try.underlying74 rfl (by rw [tab_size]; exact infoHE6) ?_))
          go_roundw
          case rel => exact ⟨i + 1, hd.d + hd.m, hlt, congrArg (Value.int .u32) (by rw [Int.natCast_add]), by go_num, by omega, hret.out, hb02⟩
          case measure => simp [intOf] <;> omega
    · obtain rfl : i = m := by omega
      rw [List.drop_of_length_le (by rw [HL.out]; exact Nat.le_refl _)] at hgo
      have hret : Hid (ldGo hs 0 = true) := Lib.hid (by rw [← hgo]; rfl)
      clear hgo
      go_wp2_with fail
      go_ret
      exact ⟨by rw [hret.out]; rfl, hb⟩
theorem entB_eq (en : Nat) (h : Hd) : entB en h = (decide (4 ≤ h.r) && (decide (en % 4 = 0) && inB en 4 h.d h.m)) := by
  unfold entB inB
  rw [← Bool.decide_and, ← Bool.decide_and]
set_option maxRecDepth 100000 in
set_option maxHeartbeats 2000000 in
theorem eentry_any (en : Nat) (hen : en < 4294967296) (hs : List Hd) (s : Sl) (w : World) (hH : SlH w s hs) (hm : hs.length ≤ 5) (hwf : ∀ h ∈ hs, h.Wf) :
    Calls Try.prog 28 #[.int .u32 (en : Int), s.v] w fun e w' => e = .returned (.bool (hs.any (entB en))) ∧ Below w.heap.size w w' := by
  obtain ⟨Ah, m, ch, rfl⟩ := s.out
  have hl : hs.length = m := hH.1
  have HL := Lib.hid hl
  have HH := Lib.hid hH.2
  have HW := Lib.hid hwf
  have hm5 : m ≤ 5 := by omega
  rw [show Sl.v ⟨Ah, m, ch⟩ = .slice Ah m ch from rfl]
  clear hl hm hH hwf
  obtain ⟨e4, he4⟩ : ∃ x, x = en % 4 := ⟨_, rfl⟩
  have t1 : (en : Int).tmod 4 = (e4 : Int) := by rw [Int.tmod_eq_emod_of_nonneg (by omega)]; omega
  have l1 : e4 < 4 := by omega
  by_cases h4 : ¬ e4 = 0
  · have d4 : ((e4 : Int) != 0) = true := by simp only [bne_iff_ne, ne_eq]; omega
    have H4 : Hid (hs.any (entB en) = false) := Lib.hid (by
      rw [List.any_eq_false]
      intro x _
      rw [entB_eq, decide_eq_false (show ¬ en % 4 = 0 by omega)]
      simp)
    clear h4 he4
    go_enter Try.func28, Try.ntmps28
    go_wp2_with fail
    go_ret
    exact ⟨by rw [H4.out]; rfl, Below.refl _ _⟩
  have d4 : ((e4 : Int) != 0) = false := by simp only [bne_eq_false_iff_eq]; omega
  have HE : Hid (en % 4 = 0) := Lib.hid (by omega)
  clear h4 he4
  go_enter Try.func28, Try.ntmps28
  go_wp2_with fail
  go_loopw [12] (fun ct wr => ∃ i : Nat, i ≤ m ∧ ct = .int .i64 (i : Int) ∧ (hs.drop i).any (entB en) = hs.any (entB en) ∧ Below w.heap.size w wr) (fun ct _ => (m - (intOf ct)).toNat)
  case atStart => exact ⟨0, Nat.zero_le _, rfl, rfl, Below.refl _ _⟩
  case round =>
    obtain ⟨i, hi, rfl, hgo, hb⟩ := hrel
    by_cases hlt : i < m
    · have di : (i : Int) < (m : Int) := by omega
      have hJ := HH.out.below hb
      obtain ⟨b, o, hA2, hbl, _⟩ := HH.out.2 (by show 0 < m; omega)
      replace hA2 : Ah = some ⟨b, o, none⟩ := hA2
      subst hA2
      have hr := hJ.range rfl (j := i) hlt
      have ha1 := fun w => atE' b o m ch i di w
      have hdc := drop_cons hs hd0 i (by rw [HL.out]; exact hlt)
      have hmem : hs.getD i hd0 ∈ hs := by rw [List.getD_eq_getElem?_getD, List.getElem?_eq_getElem (by rw [HL.out]; exact hlt)]; exact List.getElem_mem _
      have hwf := HW.out _ hmem
      change wr.rangeAt b (o + i * 6) ((List.range 6).map (hdE (hs.getD i hd0))) at hr
      rw [hdc, List.any_cons, entB_eq, decide_eq_true HE.out, Bool.true_and] at hgo
      generalize hs.getD i hd0 = hd at *
      have HGO := Lib.hid hgo
      have kW := fun w' => pwithin_any en 4 hd.d hd.m w' hen (by decide) hwf.d hwf.m
      have hr7 := hwf.r
      have hr4 := i64_and4 hd.r hr7
      have hq4 := and4_eq hd.r hr7
      obtain ⟨q, hq⟩ : ∃ x, x = hd.r &&& 4 := ⟨_, rfl⟩
      rw [← hq] at hr4 hq4
      obtain ⟨ib, hib⟩ : ∃ x, x = inB en 4 hd.d hd.m := ⟨_, rfl⟩
      have HIB := Lib.hid hib
      simp only [← hib] at kW
      have HB := Lib.hid hb
      clear hdc hmem hwf hgo hJ hbl hb hib hq
      by_cases h4r : 4 ≤ hd.r
      · have dq : ((q : Int) != 0) = true := by
          have : ¬ q = 0 := by rw [hq4]; omega
          simp only [bne_iff_ne, ne_eq]; omega
        cases ib with
        | true =>
          have hret : Hid (hs.any (entB en) = true) := Lib.hid (by rw [← HGO.out, ← HIB.out, decide_eq_true h4r]; rfl)
          clear hq4 h4r
          go_wp2_with (first
            | (refine (kW _).mono ?_
               rintro e2 w2 ⟨rfl, rfl⟩)
            | (refine wp_load_he rfl _ rfl b (o + i * 6) rfl _ hr ?_)
            | (refine wp_fresh 74 6 _ _ _ _ rfl rfl rfl rfl zeroHE infoHE6 (by omega) (hdE_one _) rfl rfl ?_
               intro w1 hG hb1 hz1
               have hc2 : w1.cell? ⟨_, 2, none⟩ = some (.int .u32 (hd.d : Int)) := hG.cellTab 2 (by omega)
               have hc4 : w1.cell? ⟨_, 4, none⟩ = some (.int .u32 (hd.m : Int)) := hG.cellTab 4 (by omega)
               have hc5 : w1.cell? ⟨_, 5, none⟩ = some (.int .i64 (hd.r : Int)) := hG.cellTab 5 (by omega)
               have hb01 := below_trans HB.out (hb1.mono (Nat.le_refl _))))
          go_ret
          exact ⟨by rw [hret.out]; rfl, hb01⟩
        | false =>
          have hret : Hid ((hs.drop (i + 1)).any (entB en) = hs.any (entB en)) := Lib.hid (by rw [← HGO.out, ← HIB.out, Bool.and_false, Bool.false_or])
          clear hq4 h4r
          go_wp2_with (first
            | (refine (kW _).mono ?_
               rintro e2 w2 ⟨rfl, rfl⟩)
            | (refine wp_load_he rfl _ rfl b (o + i * 6) rfl _ hr ?_)
            | (refine wp_fresh 74 6 _ _ _ _ rfl rfl rfl rfl zeroHE infoHE6 (by omega) (hdE_one _) rfl rfl ?_
               intro w1 hG hb1 hz1
               have hc2 : w1.cell? ⟨_, 2, none⟩ = some (.int .u32 (hd.d : Int)) := hG.cellTab 2 (by omega)
               have hc4 : w1.cell? ⟨_, 4, none⟩ = some (.int .u32 (hd.m : Int)) := hG.cellTab 4 (by omega)
               have hc5 : w1.cell? ⟨_, 5, none⟩ = some (.int .i64 (hd.r : Int)) := hG.cellTab 5 (by omega)
               have hb01 := below_trans HB.out (hb1.mono (Nat.le_refl _))))
          go_roundw
          case rel => exact ⟨i + 1, hlt, by go_num, hret.out, hb01⟩
          case measure => simp [intOf] <;> omega
      · have dq : ((q : Int) != 0) = false := by
          have : q = 0 := by rw [hq4]; omega
          simp only [bne_eq_false_iff_eq]; omega
        have hret : Hid ((hs.drop (i + 1)).any (entB en) = hs.any (entB en)) := Lib.hid (by rw [← HGO.out, decide_eq_false h4r, Bool.false_and, Bool.false_or])
        clear hq4 h4r
        go_wp2_with (first
          | (refine wp_load_he rfl _ rfl b (o + i * 6) rfl _ hr ?_)
          | (refine wp_fresh 74 6 _ _ _ _ rfl rfl rfl rfl zeroHE infoHE6 (by omega) (hdE_one _) rfl rfl ?_
             intro w1 hG hb1 hz1
             have hc5 : w1.cell? ⟨_, 5, none⟩ = some (.int .i64 (hd.r : Int)) := hG.cellTab 5 (by omega)
             have hb01 := below_trans HB.out (hb1.mono (Nat.le_refl _))))
        go_roundw
        case rel => exact ⟨i + 1, hlt, by go_num, hret.out, hb01⟩
        case measure => simp [intOf] <;> omega
    · obtain rfl : i = m := by omega
      rw [List.drop_of_length_le (by rw [HL.out]; exact Nat.le_refl _)] at hgo
      have hret : Hid (hs.any (entB en) = false) := Lib.hid (by rw [← hgo]; rfl)
      clear hgo
      go_wp2_with fail
      go_ret
      exact ⟨by rw [hret.out]; rfl, hb⟩
end Go.Proofs.Ytfdoloonllhodaa
