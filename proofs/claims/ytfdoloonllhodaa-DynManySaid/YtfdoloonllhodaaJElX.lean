/-
Layer 8, package elf: readFileHeader.
-/
import Derived.Test.YtfdoloonllhodaaJElV
import Derived.BigQuiet
namespace Go.Proofs.Ytfdoloonllhodaa
open Go Go.RowKit

/-- a file header's cells -/
def tpC (en p n : Nat) : Array Value := #[.int .u32 (en : Int), .int .u32 (p : Int), .int .i64 (n : Int)]
theorem tpC_zero : (#[.int .u32 0, .int .u32 0, .int .i64 0] : Array Value) = tpC 0 0 0 := by kernel_rfl
theorem infoTP (en p n : Nat) : (Try.prog.info? 113).map (·.size) = some (tpC en p n).size := by kernel_rfl
theorem tpC_all (en p n : Nat) : (tpC en p n).all (·.oneCell') = true := by simp [tpC, Value.oneCell']
theorem CuP.take16 {B L g q : Nat} {bs : List UInt8} {w : World} (h : CuP B L g bs q w) :
    Calls Try.prog 45 #[.pointer (some ⟨g, 0, none⟩), .int .i64 16] w fun e w' => (∃ A n c, e = .returned (.slice A n c) ∧ SlA w' A n c (if q + 16 ≤ bs.length then (bs.drop q).take 16 else [])) ∧ CuP B L g bs (q + 16) w' ∧ w.grownBy w' (some g) :=
  (h.take 16).mono fun _ _ ⟨⟨A, n, c, h1, h2, _⟩, h3⟩ => ⟨⟨A, n, c, h1, h2⟩, h3⟩
set_option maxRecDepth 100000 in
set_option maxHeartbeats 2000000 in
theorem etop_any (bs : List UInt8) (A : Option Addr) (n c : Nat) (w : World) (hS : SlA w A n c bs) (hl : bs.length ≤ 100000) :
    Calls Try.prog 38 #[.slice A n c] w fun e w' => (∃ en p m, e = .returned (.tuple #[.agg (tpC en p m), .bool (topB bs)]) ∧ (topB bs = true → en = nm bs 4 24 ∧ p = hAt bs ∧ m = hN bs)) ∧ Below w.heap.size w w' := by
  go_enter Try.func38, Try.ntmps38
  go_wp2_with fail
  have hG : Has (w.alloc (.cells #[.int .u32 0, .int .u32 0, .int .i64 0] 113)) w.heap.size 113 (tpC 0 0 0) := by
    rw [← tpC_zero]
    exact Has.new _ _ _
  have hb0 : Below w.heap.size w (w.alloc (.cells #[.int .u32 0, .int .u32 0, .int .i64 0] 113)) := (Below.refl _ _).alloc (Nat.le_refl _) _
  replace hS := hS.below hb0
  have hlt : w.heap.size < (w.alloc (.cells #[.int .u32 0, .int .u32 0, .int .i64 0] 113)).heap.size := hG.lt
  generalize w.alloc (.cells #[.int .u32 0, .int .u32 0, .int .i64 0] 113) = u at *
  obtain ⟨gh, hgh⟩ : ∃ x, x = w.heap.size := ⟨_, rfl⟩
  have hghw : w.heap.size ≤ gh := by omega
  have hghu : gh < u.heap.size := by omega
  rw [← hgh] at hG ⊢
  clear hgh hlt
  have kP := epart_any bs A n c 0 52 u hS hl (by decide) (by decide)
  refine kP.mono ?_
  rintro e u0 ⟨⟨A', m', k', rfl, hP⟩, rfl⟩
  clear kP hS
  rw [Nat.zero_add] at *
  by_cases h52 : ¬ 52 ≤ bs.length
  · have HT : Hid (topB bs = false) := Lib.hid (decide_eq_false (fun h => h52 h.1))
    rw [decide_eq_false h52]
    clear h52 hP
    go_wp2_with (refine wp_store_cs rfl 113 _ _ rfl gh rfl (tpC 0 0 0) (congrArg Value.agg tpC_zero) _ (by rfl) (infoTP _ _ _) (tpC_all _ _ _) hG ?_; intro wz hz hgz)
    exact bodyPost_ret (v := .tuple #[.agg (tpC 0 0 0), .bool false]) (results_cell_tmp rfl _ _ gh 113 _ _ _ rfl rfl hz Try.underlying113 rfl (infoTP _ _ _)) rfl ⟨⟨0, 0, 0, by rw [HT.out], fun h => by rw [HT.out] at h; cases h⟩, below_only hb0 hgz hghw hb0.size⟩
  replace h52 : 52 ≤ bs.length := by omega
  obtain ⟨hSl, hA', rfl, rfl⟩ := hP h52
  rw [decide_eq_true h52]
  have hfl : ((bs.drop 0).take 52).length = 52 := by rw [List.length_take, List.length_drop]; omega
  have hnm := fun k q (h : q + k ≤ 52) => nm_part (bs := bs) (a := 0) (m := 52) (k := k) (q := q) (by omega) h
  simp only [Nat.zero_add] at hnm
  have hid0 : (if 0 + 16 ≤ ((bs.drop 0).take 52).length then (((bs.drop 0).take 52).drop 0).take 16 else []) = bs.take 16 := by
    rw [hfl, if_pos (by decide)]
    simp [List.take_take]
  clear hP
  generalize (bs.drop 0).take 52 = fs at *
  have kA := fun w' (hb : Below u.heap.size u w') => cu_at (bs := fs) A' 52 52 (hSl.below hb) hA' (by omega)
  have HH52 := Lib.hid h52
  clear h52 hSl hA'
  go_wp2_with fail
  refine (kA u (Below.refl _ _)).mono ?_
  rintro e u1 ⟨⟨g, rfl, hC⟩, hb1⟩
  clear kA
  replace hG := hG.after hb1
  replace hb0 := below_trans hb0 (hb1.mono (Nat.le_refl _))
  have hgB := hC.gB
  obtain ⟨B, hB⟩ : ∃ x, x = u.heap.size := ⟨_, rfl⟩
  obtain ⟨L, hL⟩ : ∃ x, x = u1.heap.size := ⟨_, rfl⟩
  rw [← hB, ← hL] at hC hgB
  have hBw : w.heap.size ≤ B := by have := hghw; omega
  have hne : gh ≠ g := by omega
  have hgw : w.heap.size ≤ g := by omega
  clear hB hL hb1 hgB hghu
  go_wp2_with fail
  refine hC.take16.mono ?_
  rintro e u2 ⟨⟨A2, n2, c2, rfl, hS2⟩, hC2, hg2⟩
  rw [hid0] at hS2
  change CuP B L g fs 16 u2 at hC2
  have hcv := str_conv hS2
  have hid := strB_id (bs.take 16)
  replace hG := has_grown hG hg2 (fun l e => by injection e with e; rw [← e]; exact hne)
  replace hb0 := below_only hb0 hg2 hgw hb0.size
  clear hC hS2 hg2 hid0
  generalize strB (bs.take 16) = sb at *
  obtain ⟨b0, hb0'⟩ : ∃ x, x = decide (bs.take 16 = ident16) := ⟨_, rfl⟩
  rw [← hb0'] at hid
  have HB0 := Lib.hid hb0'
  clear hb0'
  obtain ⟨x16, hx16⟩ : ∃ x, x = nm fs 2 16 := ⟨_, rfl⟩
  have l16 := nm2 fs 16
  rw [← hx16] at l16
  have y16 := hnm 2 16 (by decide)
  rw [← hx16] at y16
  obtain ⟨x18, hx18⟩ : ∃ x, x = nm fs 2 18 := ⟨_, rfl⟩
  have l18 := nm2 fs 18
  rw [← hx18] at l18
  have y18 := hnm 2 18 (by decide)
  rw [← hx18] at y18
  obtain ⟨x20, hx20⟩ : ∃ x, x = nm fs 4 20 := ⟨_, rfl⟩
  have l20 := nm4 fs 20
  rw [← hx20] at l20
  have y20 := hnm 4 20 (by decide)
  rw [← hx20] at y20
  obtain ⟨x24, hx24⟩ : ∃ x, x = nm fs 4 24 := ⟨_, rfl⟩
  have l24 := nm4 fs 24
  rw [← hx24] at l24
  have y24 := hnm 4 24 (by decide)
  rw [← hx24] at y24
  obtain ⟨x28, hx28⟩ : ∃ x, x = nm fs 4 28 := ⟨_, rfl⟩
  have l28 := nm4 fs 28
  rw [← hx28] at l28
  have y28 := hnm 4 28 (by decide)
  rw [← hx28] at y28
  obtain ⟨x36, hx36⟩ : ∃ x, x = nm fs 4 36 := ⟨_, rfl⟩
  have l36 := nm4 fs 36
  rw [← hx36] at l36
  have y36 := hnm 4 36 (by decide)
  rw [← hx36] at y36
  obtain ⟨x40, hx40⟩ : ∃ x, x = nm fs 2 40 := ⟨_, rfl⟩
  have l40 := nm2 fs 40
  rw [← hx40] at l40
  have y40 := hnm 2 40 (by decide)
  rw [← hx40] at y40
  obtain ⟨x42, hx42⟩ : ∃ x, x = nm fs 2 42 := ⟨_, rfl⟩
  have l42 := nm2 fs 42
  rw [← hx42] at l42
  have y42 := hnm 2 42 (by decide)
  rw [← hx42] at y42
  obtain ⟨x44, hx44⟩ : ∃ x, x = nm fs 2 44 := ⟨_, rfl⟩
  have l44 := nm2 fs 44
  rw [← hx44] at l44
  have y44 := hnm 2 44 (by decide)
  rw [← hx44] at y44
  have HT : Hid (topB bs = decide (b0 = true ∧ x16 = 3 ∧ x18 = 243 ∧ x20 = 1 ∧ x36 = 0 ∧ x40 = 52 ∧ x42 = 32)) := Lib.hid (by
    unfold topB
    rw [HB0.out, y16, y18, y20, y36, y40, y42, Bool.eq_iff_iff, decide_eq_true_iff, decide_eq_true_iff, decide_eq_true_iff]
    exact ⟨fun h => h.2, fun h => ⟨HH52.out, h⟩⟩)
  have HV : Hid (x24 = nm bs 4 24 ∧ x28 = hAt bs ∧ x44 = hN bs) := Lib.hid ⟨y24, y28, y44⟩
  have HX16 := Lib.hid hx16
  have HX18 := Lib.hid hx18
  have HX20 := Lib.hid hx20
  have HX24 := Lib.hid hx24
  have HX28 := Lib.hid hx28
  have HX36 := Lib.hid hx36
  have HX40 := Lib.hid hx40
  have HX42 := Lib.hid hx42
  have HX44 := Lib.hid hx44
  clear y16 hx16 y18 hx18 y20 hx20 y24 hx24 y28 hx28 y36 hx36 y40 hx40 y42 hx42 y44 hx44 hnm HB0 HH52
  cases b0 with
  | false =>
    have FG : Hid (¬ (false = true ∧ x16 = 3 ∧ x18 = 243 ∧ x20 = 1 ∧ x36 = 0 ∧ x40 = 52 ∧ x42 = 32)) := Lib.hid (fun h => by cases h.1)
    clear HV
    go_wp2_with (first
      | (refine wp_store_cs rfl 113 _ _ rfl gh rfl (tpC 0 0 0) (congrArg Value.agg tpC_zero) _ (by rfl) (infoTP _ _ _) (tpC_all _ _ _) hG ?_; intro wz hz hgz))
    exact bodyPost_ret (v := .tuple #[.agg (tpC 0 0 0), .bool false]) (results_cell_tmp rfl _ _ gh 113 _ _ _ rfl rfl hz Try.underlying113 rfl (infoTP _ _ _)) rfl ⟨⟨0, 0, 0, by rw [HT.out, decide_eq_false FG.out], fun h => by rw [HT.out, decide_eq_false FG.out] at h; cases h⟩, below_only hb0 hgz hghw hb0.size⟩
  | true =>
    by_cases h16 : ¬ x16 = 3
    · have d16 : ((x16 : Int) != 3) = true := by simp only [bne_iff_ne, ne_eq]; omega
      have FG : Hid (¬ (true = true ∧ x16 = 3 ∧ x18 = 243 ∧ x20 = 1 ∧ x36 = 0 ∧ x40 = 52 ∧ x42 = 32)) := Lib.hid (fun h => h16 h.2.1)
      clear HV
      go_wp2_with (first
        | (refine (hC2.u16).mono ?_
           rintro e u3 ⟨rfl, hC3, hg⟩
           change CuP B L g fs 18 u3 at hC3
           replace hG := has_grown hG hg (fun l e => by injection e with e; rw [← e]; exact hne)
           replace hb0 := below_only hb0 hg hgw hb0.size
           clear hg hC2
           rw [← HX16.out])
        | (refine wp_store_cs rfl 113 _ _ rfl gh rfl (tpC 0 0 0) (congrArg Value.agg tpC_zero) _ (by rfl) (infoTP _ _ _) (tpC_all _ _ _) hG ?_; intro wz hz hgz))
      exact bodyPost_ret (v := .tuple #[.agg (tpC 0 0 0), .bool false]) (results_cell_tmp rfl _ _ gh 113 _ _ _ rfl rfl hz Try.underlying113 rfl (infoTP _ _ _)) rfl ⟨⟨0, 0, 0, by rw [HT.out, decide_eq_false FG.out], fun h => by rw [HT.out, decide_eq_false FG.out] at h; cases h⟩, below_only hb0 hgz hghw hb0.size⟩
    replace h16 : x16 = 3 := by omega
    have d16 : ((x16 : Int) != 3) = false := by simp only [bne_eq_false_iff_eq]; omega
    have K16 := Lib.hid h16
    clear h16
    by_cases h18 : ¬ x18 = 243
    · have d18 : ((x18 : Int) != 243) = true := by simp only [bne_iff_ne, ne_eq]; omega
      have FG : Hid (¬ (true = true ∧ x16 = 3 ∧ x18 = 243 ∧ x20 = 1 ∧ x36 = 0 ∧ x40 = 52 ∧ x42 = 32)) := Lib.hid (fun h => h18 h.2.2.1)
      clear HV
      go_wp2_with (first
        | (refine (hC2.u16).mono ?_
           rintro e u3 ⟨rfl, hC3, hg⟩
           change CuP B L g fs 18 u3 at hC3
           replace hG := has_grown hG hg (fun l e => by injection e with e; rw [← e]; exact hne)
           replace hb0 := below_only hb0 hg hgw hb0.size
           clear hg hC2
           rw [← HX16.out])
        | (refine (hC3.u16).mono ?_
           rintro e u4 ⟨rfl, hC4, hg⟩
           change CuP B L g fs 20 u4 at hC4
           replace hG := has_grown hG hg (fun l e => by injection e with e; rw [← e]; exact hne)
           replace hb0 := below_only hb0 hg hgw hb0.size
           clear hg hC3
           rw [← HX18.out])
        | (refine wp_store_cs rfl 113 _ _ rfl gh rfl (tpC 0 0 0) (congrArg Value.agg tpC_zero) _ (by rfl) (infoTP _ _ _) (tpC_all _ _ _) hG ?_; intro wz hz hgz))
      exact bodyPost_ret (v := .tuple #[.agg (tpC 0 0 0), .bool false]) (results_cell_tmp rfl _ _ gh 113 _ _ _ rfl rfl hz Try.underlying113 rfl (infoTP _ _ _)) rfl ⟨⟨0, 0, 0, by rw [HT.out, decide_eq_false FG.out], fun h => by rw [HT.out, decide_eq_false FG.out] at h; cases h⟩, below_only hb0 hgz hghw hb0.size⟩
    replace h18 : x18 = 243 := by omega
    have d18 : ((x18 : Int) != 243) = false := by simp only [bne_eq_false_iff_eq]; omega
    have K18 := Lib.hid h18
    clear h18
    by_cases h20 : ¬ x20 = 1
    · have d20 : ((x20 : Int) != 1) = true := by simp only [bne_iff_ne, ne_eq]; omega
      have FG : Hid (¬ (true = true ∧ x16 = 3 ∧ x18 = 243 ∧ x20 = 1 ∧ x36 = 0 ∧ x40 = 52 ∧ x42 = 32)) := Lib.hid (fun h => h20 h.2.2.2.1)
      clear HV
      go_wp2_with (first
        | (refine (hC2.u16).mono ?_
           rintro e u3 ⟨rfl, hC3, hg⟩
           change CuP B L g fs 18 u3 at hC3
           replace hG := has_grown hG hg (fun l e => by injection e with e; rw [← e]; exact hne)
           replace hb0 := below_only hb0 hg hgw hb0.size
           clear hg hC2
           rw [← HX16.out])
        | (refine (hC3.u16).mono ?_
           rintro e u4 ⟨rfl, hC4, hg⟩
           change CuP B L g fs 20 u4 at hC4
           replace hG := has_grown hG hg (fun l e => by injection e with e; rw [← e]; exact hne)
           replace hb0 := below_only hb0 hg hgw hb0.size
           clear hg hC3
           rw [← HX18.out])
        | (refine (hC4.u32).mono ?_
           rintro e u5 ⟨rfl, hC5, hg⟩
           change CuP B L g fs 24 u5 at hC5
           replace hG := has_grown hG hg (fun l e => by injection e with e; rw [← e]; exact hne)
           replace hb0 := below_only hb0 hg hgw hb0.size
           clear hg hC4
           rw [← HX20.out])
        | (refine wp_store_cs rfl 113 _ _ rfl gh rfl (tpC 0 0 0) (congrArg Value.agg tpC_zero) _ (by rfl) (infoTP _ _ _) (tpC_all _ _ _) hG ?_; intro wz hz hgz))
      exact bodyPost_ret (v := .tuple #[.agg (tpC 0 0 0), .bool false]) (results_cell_tmp rfl _ _ gh 113 _ _ _ rfl rfl hz Try.underlying113 rfl (infoTP _ _ _)) rfl ⟨⟨0, 0, 0, by rw [HT.out, decide_eq_false FG.out], fun h => by rw [HT.out, decide_eq_false FG.out] at h; cases h⟩, below_only hb0 hgz hghw hb0.size⟩
    replace h20 : x20 = 1 := by omega
    have d20 : ((x20 : Int) != 1) = false := by simp only [bne_eq_false_iff_eq]; omega
    have K20 := Lib.hid h20
    clear h20
    go_wp2_with (first
      | (refine (hC2.u16).mono ?_
         rintro e u3 ⟨rfl, hC3, hg⟩
         change CuP B L g fs 18 u3 at hC3
         replace hG := has_grown hG hg (fun l e => by injection e with e; rw [← e]; exact hne)
         replace hb0 := below_only hb0 hg hgw hb0.size
         clear hg hC2
         rw [← HX16.out])
      | (refine (hC3.u16).mono ?_
         rintro e u4 ⟨rfl, hC4, hg⟩
         change CuP B L g fs 20 u4 at hC4
         replace hG := has_grown hG hg (fun l e => by injection e with e; rw [← e]; exact hne)
         replace hb0 := below_only hb0 hg hgw hb0.size
         clear hg hC3
         rw [← HX18.out])
      | (refine (hC4.u32).mono ?_
         rintro e u5 ⟨rfl, hC5, hg⟩
         change CuP B L g fs 24 u5 at hC5
         replace hG := has_grown hG hg (fun l e => by injection e with e; rw [← e]; exact hne)
         replace hb0 := below_only hb0 hg hgw hb0.size
         clear hg hC4
         rw [← HX20.out]))
    refine (hC5.u32).mono ?_
    rintro e u6 ⟨rfl, hC6, hg⟩
    change CuP B L g fs 28 u6 at hC6
    replace hG := has_grown hG hg (fun l e => by injection e with e; rw [← e]; exact hne)
    replace hb0 := below_only hb0 hg hgw hb0.size
    clear hg hC5
    rw [← HX24.out]
    go_wp2_with fail
    refine (hC6.u32).mono ?_
    rintro e u7 ⟨rfl, hC7, hg⟩
    change CuP B L g fs 32 u7 at hC7
    replace hG := has_grown hG hg (fun l e => by injection e with e; rw [← e]; exact hne)
    replace hb0 := below_only hb0 hg hgw hb0.size
    clear hg hC6
    rw [← HX28.out]
    go_wp2_with fail
    have hT : Has (u7.alloc (.cells #[.int .u32 (x24 : Int), .int .u32 (x28 : Int), .int .i64 0] 113)) u7.heap.size 113 (tpC x24 x28 0) := Has.new _ _ _
    have hb2 : Below u7.heap.size u7 (u7.alloc (.cells #[.int .u32 (x24 : Int), .int .u32 (x28 : Int), .int .i64 0] 113)) := (Below.refl _ _).alloc (Nat.le_refl _) _
    have hgl := hC7.lt
    have hGl := hG.lt
    have hwl := hb0.size
    replace hC7 := hC7.after hb2
    replace hG := hG.after hb2
    replace hb0 := below_trans hb0 (hb2.mono (Nat.le_refl _))
    generalize u7.alloc (.cells #[.int .u32 (x24 : Int), .int .u32 (x28 : Int), .int .i64 0] 113) = v7 at *
    obtain ⟨gt, hgt⟩ : ∃ x, x = u7.heap.size := ⟨_, rfl⟩
    have hgtg : gt ≠ g := by omega
    have hght : gh ≠ gt := by omega
    have hgtw : w.heap.size ≤ gt := by omega
    rw [← hgt] at hT ⊢
    clear hgt hb2 hgl hGl hwl
    go_wp2_with (first
      | (refine (hC7.u32).mono ?_
         rintro e u8 ⟨rfl, hC8, hg⟩
         change CuP B L g fs 36 u8 at hC8
         replace hG := has_grown hG hg (fun l e => by injection e with e; rw [← e]; exact hne)
         replace hT := has_grown hT hg (fun l e => by injection e with e; rw [← e]; exact hgtg)
         replace hb0 := below_only hb0 hg hgw hb0.size
         clear hg hC7))
    by_cases h36 : ¬ x36 = 0
    · have d36 : ((x36 : Int) != 0) = true := by simp only [bne_iff_ne, ne_eq]; omega
      have FG : Hid (¬ (true = true ∧ x16 = 3 ∧ x18 = 243 ∧ x20 = 1 ∧ x36 = 0 ∧ x40 = 52 ∧ x42 = 32)) := Lib.hid (fun h => h36 h.2.2.2.2.1)
      clear HV
      go_wp2_with (first
        | (refine (hC8.u32).mono ?_
           rintro e u9 ⟨rfl, hC9, hg⟩
           change CuP B L g fs 40 u9 at hC9
           replace hG := has_grown hG hg (fun l e => by injection e with e; rw [← e]; exact hne)
           replace hT := has_grown hT hg (fun l e => by injection e with e; rw [← e]; exact hgtg)
           replace hb0 := below_only hb0 hg hgw hb0.size
           clear hg hC8
           rw [← HX36.out])
        | (refine wp_store_cs rfl 113 _ _ rfl gh rfl (tpC 0 0 0) (congrArg Value.agg tpC_zero) _ (by rfl) (infoTP _ _ _) (tpC_all _ _ _) hG ?_; intro wz hz hgz))
      exact bodyPost_ret (v := .tuple #[.agg (tpC 0 0 0), .bool false]) (results_cell_tmp rfl _ _ gh 113 _ _ _ rfl rfl hz Try.underlying113 rfl (infoTP _ _ _)) rfl ⟨⟨0, 0, 0, by rw [HT.out, decide_eq_false FG.out], fun h => by rw [HT.out, decide_eq_false FG.out] at h; cases h⟩, below_only hb0 hgz hghw hb0.size⟩
    replace h36 : x36 = 0 := by omega
    have d36 : ((x36 : Int) != 0) = false := by simp only [bne_eq_false_iff_eq]; omega
    have K36 := Lib.hid h36
    clear h36
    by_cases h40 : ¬ x40 = 52
    · have d40 : ((x40 : Int) != 52) = true := by simp only [bne_iff_ne, ne_eq]; omega
      have FG : Hid (¬ (true = true ∧ x16 = 3 ∧ x18 = 243 ∧ x20 = 1 ∧ x36 = 0 ∧ x40 = 52 ∧ x42 = 32)) := Lib.hid (fun h => h40 h.2.2.2.2.2.1)
      clear HV
      go_wp2_with (first
        | (refine (hC8.u32).mono ?_
           rintro e u9 ⟨rfl, hC9, hg⟩
           change CuP B L g fs 40 u9 at hC9
           replace hG := has_grown hG hg (fun l e => by injection e with e; rw [← e]; exact hne)
           replace hT := has_grown hT hg (fun l e => by injection e with e; rw [← e]; exact hgtg)
           replace hb0 := below_only hb0 hg hgw hb0.size
           clear hg hC8
           rw [← HX36.out])
        | (refine (hC9.u16).mono ?_
           rintro e u10 ⟨rfl, hC10, hg⟩
           change CuP B L g fs 42 u10 at hC10
           replace hG := has_grown hG hg (fun l e => by injection e with e; rw [← e]; exact hne)
           replace hT := has_grown hT hg (fun l e => by injection e with e; rw [← e]; exact hgtg)
           replace hb0 := below_only hb0 hg hgw hb0.size
           clear hg hC9
           rw [← HX40.out])
        | (refine wp_store_cs rfl 113 _ _ rfl gh rfl (tpC 0 0 0) (congrArg Value.agg tpC_zero) _ (by rfl) (infoTP _ _ _) (tpC_all _ _ _) hG ?_; intro wz hz hgz))
      exact bodyPost_ret (v := .tuple #[.agg (tpC 0 0 0), .bool false]) (results_cell_tmp rfl _ _ gh 113 _ _ _ rfl rfl hz Try.underlying113 rfl (infoTP _ _ _)) rfl ⟨⟨0, 0, 0, by rw [HT.out, decide_eq_false FG.out], fun h => by rw [HT.out, decide_eq_false FG.out] at h; cases h⟩, below_only hb0 hgz hghw hb0.size⟩
    replace h40 : x40 = 52 := by omega
    have d40 : ((x40 : Int) != 52) = false := by simp only [bne_eq_false_iff_eq]; omega
    have K40 := Lib.hid h40
    clear h40
    by_cases h42 : ¬ x42 = 32
    · have d42 : ((x42 : Int) != 32) = true := by simp only [bne_iff_ne, ne_eq]; omega
      have FG : Hid (¬ (true = true ∧ x16 = 3 ∧ x18 = 243 ∧ x20 = 1 ∧ x36 = 0 ∧ x40 = 52 ∧ x42 = 32)) := Lib.hid (fun h => h42 h.2.2.2.2.2.2)
      clear HV
      go_wp2_with (first
        | (refine (hC8.u32).mono ?_
           rintro e u9 ⟨rfl, hC9, hg⟩
           change CuP B L g fs 40 u9 at hC9
           replace hG := has_grown hG hg (fun l e => by injection e with e; rw [← e]; exact hne)
           replace hT := has_grown hT hg (fun l e => by injection e with e; rw [← e]; exact hgtg)
           replace hb0 := below_only hb0 hg hgw hb0.size
           clear hg hC8
           rw [← HX36.out])
        | (refine (hC9.u16).mono ?_
           rintro e u10 ⟨rfl, hC10, hg⟩
           change CuP B L g fs 42 u10 at hC10
           replace hG := has_grown hG hg (fun l e => by injection e with e; rw [← e]; exact hne)
           replace hT := has_grown hT hg (fun l e => by injection e with e; rw [← e]; exact hgtg)
           replace hb0 := below_only hb0 hg hgw hb0.size
           clear hg hC9
           rw [← HX40.out])
        | (refine (hC10.u16).mono ?_
           rintro e u11 ⟨rfl, hC11, hg⟩
           change CuP B L g fs 44 u11 at hC11
           replace hG := has_grown hG hg (fun l e => by injection e with e; rw [← e]; exact hne)
           replace hT := has_grown hT hg (fun l e => by injection e with e; rw [← e]; exact hgtg)
           replace hb0 := below_only hb0 hg hgw hb0.size
           clear hg hC10
           rw [← HX42.out])
        | (refine wp_store_cs rfl 113 _ _ rfl gh rfl (tpC 0 0 0) (congrArg Value.agg tpC_zero) _ (by rfl) (infoTP _ _ _) (tpC_all _ _ _) hG ?_; intro wz hz hgz))
      exact bodyPost_ret (v := .tuple #[.agg (tpC 0 0 0), .bool false]) (results_cell_tmp rfl _ _ gh 113 _ _ _ rfl rfl hz Try.underlying113 rfl (infoTP _ _ _)) rfl ⟨⟨0, 0, 0, by rw [HT.out, decide_eq_false FG.out], fun h => by rw [HT.out, decide_eq_false FG.out] at h; cases h⟩, below_only hb0 hgz hghw hb0.size⟩
    replace h42 : x42 = 32 := by omega
    have d42 : ((x42 : Int) != 32) = false := by simp only [bne_eq_false_iff_eq]; omega
    have K42 := Lib.hid h42
    clear h42
    go_wp2_with (first
      | (refine (hC8.u32).mono ?_
         rintro e u9 ⟨rfl, hC9, hg⟩
         change CuP B L g fs 40 u9 at hC9
         replace hG := has_grown hG hg (fun l e => by injection e with e; rw [← e]; exact hne)
         replace hT := has_grown hT hg (fun l e => by injection e with e; rw [← e]; exact hgtg)
         replace hb0 := below_only hb0 hg hgw hb0.size
         clear hg hC8
         rw [← HX36.out])
      | (refine (hC9.u16).mono ?_
         rintro e u10 ⟨rfl, hC10, hg⟩
         change CuP B L g fs 42 u10 at hC10
         replace hG := has_grown hG hg (fun l e => by injection e with e; rw [← e]; exact hne)
         replace hT := has_grown hT hg (fun l e => by injection e with e; rw [← e]; exact hgtg)
         replace hb0 := below_only hb0 hg hgw hb0.size
         clear hg hC9
         rw [← HX40.out])
      | (refine (hC10.u16).mono ?_
         rintro e u11 ⟨rfl, hC11, hg⟩
         change CuP B L g fs 44 u11 at hC11
         replace hG := has_grown hG hg (fun l e => by injection e with e; rw [← e]; exact hne)
         replace hT := has_grown hT hg (fun l e => by injection e with e; rw [← e]; exact hgtg)
         replace hb0 := below_only hb0 hg hgw hb0.size
         clear hg hC10
         rw [← HX42.out])
      | (refine (hC11.u16).mono ?_
         rintro e u12 ⟨rfl, hC12, hg⟩
         change CuP B L g fs 46 u12 at hC12
         replace hG := has_grown hG hg (fun l e => by injection e with e; rw [← e]; exact hne)
         replace hT := has_grown hT hg (fun l e => by injection e with e; rw [← e]; exact hgtg)
         replace hb0 := below_only hb0 hg hgw hb0.size
         clear hg hC11
         rw [← HX44.out]
         have hf2 := hT.free 2
         have hc2 : u12.cell? ⟨gt, 2, none⟩ = some (.int .i64 0) := hT.cell 2
         have hT2 := hT.set 2 (.int .i64 (x44 : Int))
         have hgs := only_setCell u12 gt 2 (.int .i64 (x44 : Int))
         have hG2 := has_grown hG hgs (fun l e => by injection e with e; rw [← e]; exact hght)
         have hb3 := below_only hb0 hgs hgtw hb0.size)
      | (refine wpList_load_has 113 _ rfl _ rfl rfl 113 _ hT2 _ Try.underlying113 rfl (infoTP x24 x28 x44) ?_)
      | (refine wp_store_cs rfl 113 _ _ rfl gh rfl (tpC x24 x28 x44) rfl _ (by rfl) (infoTP _ _ _) (tpC_all _ _ _) hG2 ?_; intro wz hz hgz))
    exact bodyPost_ret (v := .tuple #[.agg (tpC x24 x28 x44), .bool true]) (results_cell_tmp rfl _ _ gh 113 _ _ _ rfl rfl hz Try.underlying113 rfl (infoTP _ _ _)) rfl ⟨⟨x24, x28, x44, by rw [HT.out, decide_eq_true ⟨by trivial, K16.out, K18.out, K20.out, K36.out, K40.out, K42.out⟩], fun _ => HV.out⟩, below_only hb3 hgz hghw hb3.size⟩
end Go.Proofs.Ytfdoloonllhodaa
