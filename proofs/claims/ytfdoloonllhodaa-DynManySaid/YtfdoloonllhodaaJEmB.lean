/-
Layer 8, package elf: isLoadable.
-/
import Derived.Test.YtfdoloonllhodaaJEmA
import Derived.BigQuiet
namespace Go.Proofs.Ytfdoloonllhodaa
open Go Go.RowKit

theorem i64_and6 (r : Nat) (h : r ≤ 7) : bits .and .i64 (r : Int) 6 = ((r &&& 6 : Nat) : Int) := by
  have h8 : r = 0 ∨ r = 1 ∨ r = 2 ∨ r = 3 ∨ r = 4 ∨ r = 5 ∨ r = 6 ∨ r = 7 := by omega
  rcases h8 with rfl | rfl | rfl | rfl | rfl | rfl | rfl | rfl <;> decide
theorem i64_and4 (r : Nat) (h : r ≤ 7) : bits .and .i64 (r : Int) 4 = ((r &&& 4 : Nat) : Int) := by
  have h8 : r = 0 ∨ r = 1 ∨ r = 2 ∨ r = 3 ∨ r = 4 ∨ r = 5 ∨ r = 6 ∨ r = 7 := by omega
  rcases h8 with rfl | rfl | rfl | rfl | rfl | rfl | rfl | rfl <;> decide
theorem and6_eq (r : Nat) (h : r ≤ 7) : (r &&& 6 = 6) = (6 ≤ r) := by
  have h8 : r = 0 ∨ r = 1 ∨ r = 2 ∨ r = 3 ∨ r = 4 ∨ r = 5 ∨ r = 6 ∨ r = 7 := by omega
  rcases h8 with rfl | rfl | rfl | rfl | rfl | rfl | rfl | rfl <;> decide
theorem and4_eq (r : Nat) (h : r ≤ 7) : (r &&& 4 = 0) = (r < 4) := by
  have h8 : r = 0 ∨ r = 1 ∨ r = 2 ∨ r = 3 ∨ r = 4 ∨ r = 5 ∨ r = 6 ∨ r = 7 := by omega
  rcases h8 with rfl | rfl | rfl | rfl | rfl | rfl | rfl | rfl <;> decide
set_option maxRecDepth 100000 in
set_option maxHeartbeats 2000000 in
theorem eload_any (h : Hd) (hwf : h.Wf) (w : World) :
    Calls Try.prog 40 #[.agg (tab 6 (hdE h))] w fun e w' => e = .returned (.bool (ldB h)) ∧ Below w.heap.size w w' := by
  have hG : Has (w.alloc (.cells #[.int .i64 (h.k : Int), .int .u32 (h.a : Int), .int .u32 (h.d : Int), .int .u32 (h.f : Int), .int .u32 (h.m : Int), .int .i64 (h.r : Int)] 74)) w.heap.size 74 (tab 6 (hdE h)) := by
    rw [← hdE_lit]
    exact Has.new _ _ _
  have hb : Below w.heap.size w (w.alloc (.cells #[.int .i64 (h.k : Int), .int .u32 (h.a : Int), .int .u32 (h.d : Int), .int .u32 (h.f : Int), .int .u32 (h.m : Int), .int .i64 (h.r : Int)] 74)) := (Below.refl _ _).alloc (Nat.le_refl _) _
  rw [← hdE_lit]
  go_enter Try.func40, Try.ntmps40
  go_upto_region 1 with fail
  generalize w.alloc (.cells #[.int .i64 (h.k : Int), .int .u32 (h.a : Int), .int .u32 (h.d : Int), .int .u32 (h.f : Int), .int .u32 (h.m : Int), .int .i64 (h.r : Int)] 74) = u at *
  obtain ⟨gb, hgb⟩ : ∃ x, x = w.heap.size := ⟨_, rfl⟩
  rw [← hgb] at hG ⊢
  clear hgb
  have hc2 : u.cell? ⟨gb, 2, none⟩ = some (.int .u32 (h.d : Int)) := hG.cellTab 2 (by omega)
  have hc4 : u.cell? ⟨gb, 4, none⟩ = some (.int .u32 (h.m : Int)) := hG.cellTab 4 (by omega)
  have hc5 : u.cell? ⟨gb, 5, none⟩ = some (.int .i64 (h.r : Int)) := hG.cellTab 5 (by omega)
  have kW := pwithin_any h.d h.m 0 4294967292 u hwf.d hwf.m (by decide) (by decide)
  have hr7 := hwf.r
  have hr6 := i64_and6 h.r hr7
  have hq6 := and6_eq h.r hr7
  have hdl := hwf.d
  have hml := hwf.m
  obtain ⟨q, hq⟩ : ∃ x, x = h.r &&& 6 := ⟨_, rfl⟩
  obtain ⟨d4, hd4⟩ : ∃ x, x = h.d % 4 := ⟨_, rfl⟩
  obtain ⟨m4, hm4⟩ : ∃ x, x = h.m % 4 := ⟨_, rfl⟩
  have t1 : (h.d : Int).tmod 4 = (d4 : Int) := by rw [Int.tmod_eq_emod_of_nonneg (by omega)]; omega
  have t2 : (h.m : Int).tmod 4 = (m4 : Int) := by rw [Int.tmod_eq_emod_of_nonneg (by omega)]; omega
  have l1 : d4 < 4 := by omega
  have l2 : m4 < 4 := by omega
  have HL : Hid (ldB h = decide (d4 = 0 ∧ m4 = 0 ∧ h.m ≠ 0 ∧ h.d + h.m ≤ 4294967292 ∧ h.r ≠ 0 ∧ q ≠ 6)) := Lib.hid (by
    rw [hd4, hm4, hq]
    unfold ldB
    rw [Bool.eq_iff_iff, decide_eq_true_iff, decide_eq_true_iff, ne_eq (h.r &&& 6), hq6]
    omega)
  rw [← hq] at hr6
  clear hq hd4 hm4 hq6 hwf hG
  generalize h.d = d at *
  generalize h.m = m at *
  generalize h.r = r at *
  by_cases h0 : ¬ (d4 = 0)
  · have f0 : (((d4 : Int) == 0) = false) := by simp only [beq_eq_false_iff_ne, ne_eq]; omega
    have HF : Hid (¬ (d4 = 0 ∧ m4 = 0 ∧ m ≠ 0 ∧ d + m ≤ 4294967292 ∧ r ≠ 0 ∧ q ≠ 6)) := Lib.hid (fun g => h0 g.1)
    clear h0
    go_wp2_with fail
    go_ret
    exact ⟨by rw [HL.out, decide_eq_false HF.out]; rfl, hb⟩
  replace h0 : d4 = 0 := by omega
  have f0 : (((d4 : Int) == 0) = true) := by simp only [beq_iff_eq]; omega
  have H0 := Lib.hid h0
  clear h0
  by_cases h1 : ¬ (m4 = 0)
  · have f1 : (((m4 : Int) == 0) = false) := by simp only [beq_eq_false_iff_ne, ne_eq]; omega
    have HF : Hid (¬ (d4 = 0 ∧ m4 = 0 ∧ m ≠ 0 ∧ d + m ≤ 4294967292 ∧ r ≠ 0 ∧ q ≠ 6)) := Lib.hid (fun g => h1 g.2.1)
    clear h1
    go_wp2_with fail
    go_ret
    exact ⟨by rw [HL.out, decide_eq_false HF.out]; rfl, hb⟩
  replace h1 : m4 = 0 := by omega
  have f1 : (((m4 : Int) == 0) = true) := by simp only [beq_iff_eq]; omega
  have H1 := Lib.hid h1
  clear h1
  by_cases h2 : ¬ (m ≠ 0)
  · have f2 : (((m : Int) != 0) = false) := by simp only [bne_eq_false_iff_eq]; omega
    have HF : Hid (¬ (d4 = 0 ∧ m4 = 0 ∧ m ≠ 0 ∧ d + m ≤ 4294967292 ∧ r ≠ 0 ∧ q ≠ 6)) := Lib.hid (fun g => h2 g.2.2.1)
    clear h2
    go_wp2_with fail
    go_ret
    exact ⟨by rw [HL.out, decide_eq_false HF.out]; rfl, hb⟩
  replace h2 : m ≠ 0 := by omega
  have f2 : (((m : Int) != 0) = true) := by simp only [bne_iff_ne, ne_eq]; omega
  have H2 := Lib.hid h2
  clear h2
  by_cases h3 : ¬ (d + m ≤ 4294967292)
  · have f3 : inB d m 0 4294967292 = false := decide_eq_false (by omega)
    have HF : Hid (¬ (d4 = 0 ∧ m4 = 0 ∧ m ≠ 0 ∧ d + m ≤ 4294967292 ∧ r ≠ 0 ∧ q ≠ 6)) := Lib.hid (fun g => h3 g.2.2.2.1)
    rw [f3] at kW
    clear f3
    clear h3
    go_wp2_with (refine kW.mono ?_; rintro e w1 ⟨rfl, rfl⟩)
    go_ret
    exact ⟨by rw [HL.out, decide_eq_false HF.out]; rfl, hb⟩
  replace h3 : d + m ≤ 4294967292 := by omega
  have f3 : inB d m 0 4294967292 = true := decide_eq_true (by omega)
  rw [f3] at kW
  clear f3
  have H3 := Lib.hid h3
  clear h3
  by_cases h4 : ¬ (r ≠ 0)
  · have f4 : (((r : Int) != 0) = false) := by simp only [bne_eq_false_iff_eq]; omega
    have HF : Hid (¬ (d4 = 0 ∧ m4 = 0 ∧ m ≠ 0 ∧ d + m ≤ 4294967292 ∧ r ≠ 0 ∧ q ≠ 6)) := Lib.hid (fun g => h4 g.2.2.2.2.1)
    clear h4
    go_wp2_with (refine kW.mono ?_; rintro e w1 ⟨rfl, rfl⟩)
    go_ret
    exact ⟨by rw [HL.out, decide_eq_false HF.out]; rfl, hb⟩
  replace h4 : r ≠ 0 := by omega
  have f4 : (((r : Int) != 0) = true) := by simp only [bne_iff_ne, ne_eq]; omega
  have H4 := Lib.hid h4
  clear h4
  by_cases h5 : ¬ (q ≠ 6)
  · have f5 : (((q : Int) != 6) = false) := by simp only [bne_eq_false_iff_eq]; omega
    have HF : Hid (¬ (d4 = 0 ∧ m4 = 0 ∧ m ≠ 0 ∧ d + m ≤ 4294967292 ∧ r ≠ 0 ∧ q ≠ 6)) := Lib.hid (fun g => h5 g.2.2.2.2.2)
    clear h5
    go_wp2_with (refine kW.mono ?_; rintro e w1 ⟨rfl, rfl⟩)
    go_ret
    exact ⟨by rw [HL.out, decide_eq_false HF.out]; rfl, hb⟩
  replace h5 : q ≠ 6 := by omega
  have f5 : (((q : Int) != 6) = true) := by simp only [bne_iff_ne, ne_eq]; omega
  have H5 := Lib.hid h5
  clear h5
  go_wp2_with (refine kW.mono ?_; rintro e w1 ⟨rfl, rfl⟩)
  go_ret
  exact ⟨by rw [HL.out, decide_eq_true ⟨H0.out, H1.out, H2.out, H3.out, H4.out, H5.out⟩]; rfl, hb⟩
end Go.Proofs.Ytfdoloonllhodaa
