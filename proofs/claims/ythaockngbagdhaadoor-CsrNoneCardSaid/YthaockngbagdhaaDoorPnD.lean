/-
Layer 12: package pmp's Check.
-/
import Derived.Test.YthaockngbagdhaaDoorPnC
namespace Go.Proofs.YthaockngbagdhaaDoor.Pm
open Go Go.RowKit

theorem checkT_step (es : List En) (i at' n right : Nat) (hi : i < es.length) : checkT ((tri 0 es).drop i) at' n right = (if overB ⟨(rangeI es i).1, (rangeI es i).2, (es.getD i en0).r⟩ at' n then (inB' ⟨(rangeI es i).1, (rangeI es i).2, (es.getD i en0).r⟩ at' n && decide (andR (es.getD i en0).r right = right)) else checkT ((tri 0 es).drop (i + 1)) at' n right) := by
  have h2 := tri_at es 0 i hi
  have hlt : i < (tri 0 es).length := by rw [tri_len]; exact hi
  rw [List.getElem?_eq_getElem hlt] at h2
  rw [List.drop_eq_getElem_cons hlt, Option.some.inj h2]
  rfl
/-- how far a Range goes -/
theorem rangeI_le (es : List En) (i : Nat) (h : ∀ e ∈ es, e.a < 4294967296) : (rangeI es i).1 < 68719476736 ∧ (rangeI es i).2 < 68719476736 := by
  have h1 : ∀ j, (es.getD j en0).a < 4294967296 := fun j => by
    by_cases hj : j < es.length
    · rw [List.getD_eq_getElem?_getD, List.getElem?_eq_getElem hj]; exact h _ (List.getElem_mem _)
    · rw [List.getD_eq_getElem?_getD, List.getElem?_eq_none (by omega)]; exact (by decide : (0 : Nat) < 4294967296)
  have ha := h1 i
  have hp := h1 (i - 1)
  unfold rangeI rangeP
  generalize (es.getD (i - 1) en0).a = p at *
  generalize es.getD i en0 = e at *
  have hn : napS e.a ≤ 34359738368 := by
    unfold napS
    have := pow32 (onesF_le 32 e.a)
    omega
  have hm := Nat.div_mul_le_self (4 * e.a) (napS e.a)
  have hq : (if i = 0 then 0 else p) < 4294967296 := by split <;> omega
  generalize (if i = 0 then 0 else p) = q at *
  split
  · split <;> (dsimp only; omega)
  · split
    · dsimp only; omega
    · split <;> (dsimp only; omega)
set_option maxRecDepth 100000 in
set_option maxHeartbeats 8000000 in
theorem check_any (es : List En) (s : Sl) (at' n right : Nat) (w : World) (hT : TabT w) (hS : SlE w s es) (hpl : plainL es) (ha : at' < 4294967296) (hn1 : 1 ≤ n) (hn8 : n ≤ 8) (hr : right ≤ 7) :
    Calls Tryd.prog 39 #[s.v, .int .u32 (at' : Int), .int .i64 (n : Int), .int .i64 (right : Int)] w fun e w' => e = .returned (.bool (checkT (tri 0 es) at' n right)) ∧ Below w.heap.size w w' := by
  have hlen := hS.1
  obtain ⟨A, m, c⟩ := s
  dsimp only at hlen
  have HS := Lib.hid hS
  have HT := Lib.hid hT
  have HPL := Lib.hid hpl.1
  have hm40 : m ≤ 40 := by have := hpl.2; omega
  generalize hr' : checkT (tri 0 es) at' n right = res
  have HRES := Lib.hid hr'
  have HLEN := Lib.hid hlen
  clear hS hT hpl hr' hlen
  have hn0 : ¬ (n : Int) ≤ 0 := by omega
  show Calls Tryd.prog 39 #[.slice A m c, .int .u32 (at' : Int), .int .i64 (n : Int), .int .i64 (right : Int)] w _
  go_enter Tryd.func39, Tryd.ntmps39
  go_wp2_with fail
  go_loopw [25] (fun ct wr => ∃ i : Nat, i ≤ m ∧ ct = .int .i64 (i : Int) ∧ Hid (checkT ((tri 0 es).drop i) at' n right = res) ∧ Below w.heap.size w wr) (fun ct _ => (m - (intOf ct)).toNat)
  case atStart => exact ⟨0, Nat.zero_le _, rfl, HRES, Below.refl _ _⟩
  case round =>
    obtain ⟨i, hi, rfl, HR, hb⟩ := hrel
    by_cases hlt : i < m
    · have hin : (i : Int) < (m : Int) := by omega
      obtain ⟨b, o, hA, hlb, hcc⟩ := (HS.out.below hb).2.1.2 (show 0 < m by omega)
      dsimp only at hA
      subst hA
      have c0 := hcc i 0 hlt (by omega)
      have c1 := hcc i 1 hlt (by omega)
      have c2 := hcc i 2 hlt (by omega)
      have hpe := HPL.out (es.getD i en0) (by rw [List.getD_eq_getElem?_getD, List.getElem?_eq_getElem (show i < es.length by rw [HLEN.out]; exact hlt)]; exact List.getElem_mem _)
      have hst := checkT_step es i at' n right (by rw [HLEN.out]; exact hlt)
      rw [HR.out] at hst
      have hle := rangeI_le es i fun e he => (HS.out.2.2 e he).a
      have kR : ∀ W, Below w.heap.size w W → Calls Tryd.prog 48 #[.slice (some ⟨b, o, none⟩) m c, .int .i64 (i : Int)] W (retP (rangeI es i).1 (rangeI es i).2 W) := fun W hW => range_any es ⟨some ⟨b, o, none⟩, m, c⟩ i W (HT.out.below hW) (HS.out.below hW) hlt
      dsimp only at c0 c1 c2
      generalize (rangeI es i).1 = F at *
      generalize (rangeI es i).2 = T at *
      have hat := at_entry b o m c i hin
      generalize es.getD i en0 = e at *
      obtain ⟨ew, er, ea⟩ := e
      dsimp only at hpe hst
      obtain ⟨e0, e1, e2, e3⟩ := hpe
      obtain ⟨l1, l2⟩ := hle
      have HST := Lib.hid hst
      have HKR := Lib.hid kR
      have HB := Lib.hid hb
      replace c0 : wr.cell? ⟨b, o + i * 3, none⟩ = some (.int .i64 ew) := c0
      replace c1 : wr.cell? ⟨b, o + i * 3 + 1, none⟩ = some (.int .i64 er) := c1
      replace c2 : wr.cell? ⟨b, o + i * 3 + 2, none⟩ = some (.int .u32 (ea : Int)) := c2
      clear hst kR hcc hb
      go_upto_region 8 with fail
      obtain ⟨wa, hwa, hX, hba, hsa⟩ := one_new wr #[.int .i64 ew, .int .i64 er, .int .u32 (ea : Int)] 38
      rw [← hwa]
      have hg : wr.heap.size < wa.heap.size := by omega
      have hbwa := HB.out.trans (hba.mono HB.out.size)
      have kR := HKR.out wa hbwa
      clear hwa hsa c0 c1 c2 hba
      generalize wr.heap.size = g at *
      go_wp2_with fail
      refine kR.mono ?_
      rintro e w2 ⟨rfl, hb2⟩
      have hX2 := hX.below hb2 hg
      have hb3 := hbwa.trans (hb2.mono hbwa.size)
      clear kR hX hb2 hbwa hg hat
      have c1 : w2.cell? ⟨g, 1, none⟩ = some (.int .i64 er) := hX2.cell 1
      have HB3 := Lib.hid hb3
      clear hX2 hb3
      obtain ⟨r, rfl⟩ : ∃ r : Nat, er = (r : Int) := ⟨er.toNat, by omega⟩
      have hand := i64_and_nat r right (by omega) (by omega)
      have hv : r &&& right ≤ right := Nat.and_le_right
      have hst : res = (if overB ⟨F, T, (r : Int)⟩ at' n then (inB' ⟨F, T, (r : Int)⟩ at' n && decide (r &&& right = right)) else checkT ((tri 0 es).drop (i + 1)) at' n right) := HST.out
      have HST2 := Lib.hid hst
      clear hst
      generalize r &&& right = v at *
      obtain ⟨q, hq⟩ : ∃ q, q = decide (v = right) := ⟨_, rfl⟩
      have hqe : ((v : Int) == (right : Int)) = q := by
        rw [hq]
        by_cases h : v = right
        · rw [decide_eq_true h, h]; exact beq_self_eq_true _
        · rw [decide_eq_false h]; exact beq_eq_false_iff_ne.2 (by omega)
      rw [← hq] at HST2
      have HQ := Lib.hid hq
      clear hq
      have HN := Lib.hid hn1
      have over : F < at' + n → at' < T → F < T → res = (inB' ⟨F, T, (r : Int)⟩ at' n && q) := fun h1 h2 h3 => by
        rw [HST2.out, if_pos (show overB ⟨F, T, (r : Int)⟩ at' n = true by unfold overB; simp [h1, h2, h3])]
      have past : ¬(F < at' + n ∧ at' < T ∧ F < T) → checkT ((tri 0 es).drop (i + 1)) at' n right = res := fun h => by
        rw [HST2.out, if_neg (show ¬ overB ⟨F, T, (r : Int)⟩ at' n = true by unfold overB; simp; intro h1 h2; omega)]
      have OVER := Lib.hid over
      have PAST := Lib.hid past
      clear over past
      by_cases hf : (F : Int) < (at' : Int)
      · by_cases ht : (at' : Int) + (n : Int) < (T : Int)
        · skip
          by_cases ho : (at' : Int) < (at' : Int) + (n : Int)
          · have hres := OVER.out (by omega) (by omega) (by omega)
            have HRS := Lib.hid hres
            clear hres
            by_cases hp1 : F ≤ at'
            · have hp1' : (F : Int) ≤ (at' : Int) := by omega
              by_cases hp2 : at' + n ≤ T
              · have hp2' : (at' : Int) + (n : Int) ≤ (T : Int) := by omega
                have HI := Lib.hid (show inB' ⟨F, T, (r : Int)⟩ at' n = true by unfold inB'; simp [hp1, hp2])
                go_wp2_with fail
                all_goals (go_ret; exact ⟨by rw [HRS.out, HI.out, Bool.true_and]; rfl, HB3.out⟩)
              · have hp2' : ¬ (at' : Int) + (n : Int) ≤ (T : Int) := by omega
                have HI := Lib.hid (show inB' ⟨F, T, (r : Int)⟩ at' n = false by unfold inB'; simp [hp2])
                go_wp2_with fail
                all_goals (go_ret; exact ⟨by rw [HRS.out, HI.out]; rfl, HB3.out⟩)
            · have hp1' : ¬ (F : Int) ≤ (at' : Int) := by omega
              have HI := Lib.hid (show inB' ⟨F, T, (r : Int)⟩ at' n = false by unfold inB'; simp [hp1])
              go_wp2_with fail
              all_goals (go_ret; exact ⟨by rw [HRS.out, HI.out]; rfl, HB3.out⟩)
          · have hres := PAST.out (by omega)
            have HRS := Lib.hid hres
            clear hres
            go_wp2_with fail
            all_goals
              go_roundw
              case rel => exact ⟨i + 1, by omega, by go_num, HRS, HB3.out⟩
              case measure => simp [intOf] <;> omega
        · skip
          by_cases ho : (at' : Int) < (T : Int)
          · have hres := OVER.out (by omega) (by omega) (by omega)
            have HRS := Lib.hid hres
            clear hres
            by_cases hp1 : F ≤ at'
            · have hp1' : (F : Int) ≤ (at' : Int) := by omega
              by_cases hp2 : at' + n ≤ T
              · have hp2' : (at' : Int) + (n : Int) ≤ (T : Int) := by omega
                have HI := Lib.hid (show inB' ⟨F, T, (r : Int)⟩ at' n = true by unfold inB'; simp [hp1, hp2])
                go_wp2_with fail
                all_goals (go_ret; exact ⟨by rw [HRS.out, HI.out, Bool.true_and]; rfl, HB3.out⟩)
              · have hp2' : ¬ (at' : Int) + (n : Int) ≤ (T : Int) := by omega
                have HI := Lib.hid (show inB' ⟨F, T, (r : Int)⟩ at' n = false by unfold inB'; simp [hp2])
                go_wp2_with fail
                all_goals (go_ret; exact ⟨by rw [HRS.out, HI.out]; rfl, HB3.out⟩)
            · have hp1' : ¬ (F : Int) ≤ (at' : Int) := by omega
              have HI := Lib.hid (show inB' ⟨F, T, (r : Int)⟩ at' n = false by unfold inB'; simp [hp1])
              go_wp2_with fail
              all_goals (go_ret; exact ⟨by rw [HRS.out, HI.out]; rfl, HB3.out⟩)
          · have hres := PAST.out (by omega)
            have HRS := Lib.hid hres
            clear hres
            go_wp2_with fail
            all_goals
              go_roundw
              case rel => exact ⟨i + 1, by omega, by go_num, HRS, HB3.out⟩
              case measure => simp [intOf] <;> omega
      · by_cases ht : (at' : Int) + (n : Int) < (T : Int)
        · skip
          by_cases ho : (F : Int) < (at' : Int) + (n : Int)
          · have hres := OVER.out (by omega) (by omega) (by omega)
            have HRS := Lib.hid hres
            clear hres
            by_cases hp1 : F ≤ at'
            · have hp1' : (F : Int) ≤ (at' : Int) := by omega
              by_cases hp2 : at' + n ≤ T
              · have hp2' : (at' : Int) + (n : Int) ≤ (T : Int) := by omega
                have HI := Lib.hid (show inB' ⟨F, T, (r : Int)⟩ at' n = true by unfold inB'; simp [hp1, hp2])
                go_wp2_with fail
                all_goals (go_ret; exact ⟨by rw [HRS.out, HI.out, Bool.true_and]; rfl, HB3.out⟩)
              · have hp2' : ¬ (at' : Int) + (n : Int) ≤ (T : Int) := by omega
                have HI := Lib.hid (show inB' ⟨F, T, (r : Int)⟩ at' n = false by unfold inB'; simp [hp2])
                go_wp2_with fail
                all_goals (go_ret; exact ⟨by rw [HRS.out, HI.out]; rfl, HB3.out⟩)
            · have hp1' : ¬ (F : Int) ≤ (at' : Int) := by omega
              have HI := Lib.hid (show inB' ⟨F, T, (r : Int)⟩ at' n = false by unfold inB'; simp [hp1])
              go_wp2_with fail
              all_goals (go_ret; exact ⟨by rw [HRS.out, HI.out]; rfl, HB3.out⟩)
          · have hres := PAST.out (by omega)
            have HRS := Lib.hid hres
            clear hres
            go_wp2_with fail
            all_goals
              go_roundw
              case rel => exact ⟨i + 1, by omega, by go_num, HRS, HB3.out⟩
              case measure => simp [intOf] <;> omega
        · skip
          by_cases ho : (F : Int) < (T : Int)
          · have hres := OVER.out (by omega) (by omega) (by omega)
            have HRS := Lib.hid hres
            clear hres
            by_cases hp1 : F ≤ at'
            · have hp1' : (F : Int) ≤ (at' : Int) := by omega
              by_cases hp2 : at' + n ≤ T
              · have hp2' : (at' : Int) + (n : Int) ≤ (T : Int) := by omega
                have HI := Lib.hid (show inB' ⟨F, T, (r : Int)⟩ at' n = true by unfold inB'; simp [hp1, hp2])
                go_wp2_with fail
                all_goals (go_ret; exact ⟨by rw [HRS.out, HI.out, Bool.true_and]; rfl, HB3.out⟩)
              · have hp2' : ¬ (at' : Int) + (n : Int) ≤ (T : Int) := by omega
                have HI := Lib.hid (show inB' ⟨F, T, (r : Int)⟩ at' n = false by unfold inB'; simp [hp2])
                go_wp2_with fail
                all_goals (go_ret; exact ⟨by rw [HRS.out, HI.out]; rfl, HB3.out⟩)
            · have hp1' : ¬ (F : Int) ≤ (at' : Int) := by omega
              have HI := Lib.hid (show inB' ⟨F, T, (r : Int)⟩ at' n = false by unfold inB'; simp [hp1])
              go_wp2_with fail
              all_goals (go_ret; exact ⟨by rw [HRS.out, HI.out]; rfl, HB3.out⟩)
          · have hres := PAST.out (by omega)
            have HRS := Lib.hid hres
            clear hres
            go_wp2_with fail
            all_goals
              go_roundw
              case rel => exact ⟨i + 1, by omega, by go_num, HRS, HB3.out⟩
              case measure => simp [intOf] <;> omega
    · obtain rfl : i = m := by omega
      have hin : ¬ (i : Int) < (i : Int) := by omega
      have hz : res = false := by rw [← HR.out, List.drop_eq_nil_of_le (by rw [tri_len, HLEN.out]; exact Nat.le_refl _)]; rfl
      have HZ := Lib.hid hz
      have HBr := Lib.hid hb
      clear hz hb
      go_wp2_with fail
      go_ret
      exact ⟨by rw [HZ.out]; rfl, HBr.out⟩
end Go.Proofs.YthaockngbagdhaaDoor.Pm
