/-
Layer 11: package inst's fieldsOf.
-/
import Derived.Test.YtghfbdkfibbhoaaDoorIqG
namespace Go.Proofs.YtghfbdkfibbhoaaDoor
open Go Go.RowKit

theorem opP_ne (i : Nat) (h1 : 1 ≤ i) (h2 : i < 57) : (opP i).1 ≠ .O := by
  have h : (List.range 57).all (fun i => decide (i = 0) || decide ((opP i).1 ≠ .O)) = true := by decide +kernel
  have h3 := List.all_eq_true.1 h i (List.mem_range.2 h2)
  rcases Bool.or_eq_true_iff.1 h3 with h4 | h4
  · have := of_decide_eq_true h4; omega
  · exact of_decide_eq_true h4
/-- the fields of a word of operation i, as the program finds them -/
def insW (x i : Nat) : Nat → Value := insA (i : Int) ((if rdB (opP i).1 then bitsN x 11 7 else 0 : Nat) : Int) ((if r1B (opP i).1 then bitsN x 19 15 else 0 : Nat) : Int) ((if r2B (opP i).1 then bitsN x 24 20 else 0 : Nat) : Int) ((immL (opP i).1 x : Nat) : Int)
theorem infoIa5 : (Tryd.prog.info? 26).map (·.size) = some 5 := by kernel_rfl
theorem insA_set1 (i a b c n q : Int) : (tab 5 (insA i a b c n)).setIfInBounds 1 (.int .i64 q) = tab 5 (insA i q b c n) := rfl
theorem insA_set2 (i a b c n q : Int) : (tab 5 (insA i a b c n)).setIfInBounds 2 (.int .i64 q) = tab 5 (insA i a q c n) := rfl
theorem insA_set3 (i a b c n q : Int) : (tab 5 (insA i a b c n)).setIfInBounds 3 (.int .i64 q) = tab 5 (insA i a b q n) := rfl
theorem partRd_any (x : Nat) (hx : x < 4294967296) (W : World) : Calls Tryd.prog 34 #[.int .u32 (x : Int), .int .u64 11, .int .u64 7] W fun e w' => e = .returned (.int .u32 ((bitsN x 11 7 : Nat) : Int)) ∧ W = w' := part_any x 11 7 W hx (by decide) (by decide) (by decide)
theorem partR1_any (x : Nat) (hx : x < 4294967296) (W : World) : Calls Tryd.prog 34 #[.int .u32 (x : Int), .int .u64 19, .int .u64 15] W fun e w' => e = .returned (.int .u32 ((bitsN x 19 15 : Nat) : Int)) ∧ W = w' := part_any x 19 15 W hx (by decide) (by decide) (by decide)
theorem partR2_any (x : Nat) (hx : x < 4294967296) (W : World) : Calls Tryd.prog 34 #[.int .u32 (x : Int), .int .u64 24, .int .u64 20] W fun e w' => e = .returned (.int .u32 ((bitsN x 24 20 : Nat) : Int)) ∧ W = w' := part_any x 24 20 W hx (by decide) (by decide) (by decide)
theorem two_new (w : World) (u v : Array Value) (t : TypeId) : ∃ wa, wa = (w.alloc (.cells u t)).alloc (.cells v t) ∧ Has wa w.heap.size t u ∧ Has wa (w.heap.size + 1) t v ∧ Below w.heap.size w wa ∧ wa.heap.size = w.heap.size + 2 :=
  ⟨_, rfl, (Has.new w t u).alloc _, Has.new' (size_alloc1 w _).symm, ((Below.refl _ _).alloc (Nat.le_refl _) _).alloc (by rw [size_alloc1]; omega) _, by rw [size_alloc1, size_alloc1]⟩
theorem step_keep {w wc w6 : World} {g4 g6 : Nat} {t : TypeId} {cs cs4 : Array Value} (hb6 : Below wc.heap.size wc w6) (hG : Has wc g6 t cs) (hR : Has wc g4 t cs4) (hb : Below w.heap.size w wc) : Has w6 g6 t cs ∧ Has w6 g4 t cs4 ∧ Below w.heap.size w w6 :=
  ⟨hG.below hb6 hG.lt, hR.below hb6 hR.lt, hb.trans (hb6.mono hb.size)⟩
set_option maxRecDepth 100000 in
set_option maxHeartbeats 4000000 in
theorem fieldsOf_any (x i : Nat) (w : World) (hx : x < 4294967296) (h1 : 1 ≤ i) (h2 : i < 57) :
    Calls Tryd.prog 29 #[.int .u32 (x : Int), .int .i64 (i : Int)] w fun e w' => e = .returned (.agg (tab 5 (insW x i))) ∧ Below w.heap.size w w' := by
  have hf := opP_ne i h1 h2
  have kF := fun W => form_at i W h1 h2
  have kM := fun W => immediate_any (opP i).1 hf x W hx
  have k1 := fun W => hasRd_any (fmN (opP i).1 : Nat) W
  have k2 := fun W => hasRs1_any (fmN (opP i).1 : Nat) W
  have k3 := fun W => hasRs2_any (fmN (opP i).1 : Nat) W
  rw [rd_is _ hf] at k1
  rw [r1_is _ hf] at k2
  rw [r2_is _ hf] at k3
  have p1 := fun W => partRd_any x hx W
  have p2 := fun W => partR1_any x hx W
  have p3 := fun W => partR2_any x hx W
  have l1 : bitsN x 11 7 < 32 := bitsN_lt x 11 7
  have l2 : bitsN x 19 15 < 32 := bitsN_lt x 19 15
  have l3 : bitsN x 24 20 < 32 := bitsN_lt x 24 20
  obtain ⟨V, hV⟩ : ∃ V, V = insW x i := ⟨_, rfl⟩
  rw [← hV]
  unfold insW at hV
  generalize fmN (opP i).1 = k at *
  generalize immL (opP i).1 x = m at *
  generalize bitsN x 11 7 = q1 at *
  generalize bitsN x 19 15 = q2 at *
  generalize bitsN x 24 20 = q3 at *
  generalize rdB (opP i).1 = d1 at *
  generalize r1B (opP i).1 = d2 at *
  generalize r2B (opP i).1 = d3 at *
  clear hf
  go_enter Tryd.func29, Tryd.ntmps29
  go_upto_region 3 with (first
    | (go_at_call 27; with_reducible refine (kF _).mono ?_; rintro e w2 ⟨rfl, rfl⟩)
    | (go_at_call 37; with_reducible refine (kM _).mono ?_; rintro e w2 ⟨rfl, rfl⟩))
  obtain ⟨wa, hwa, hR0, hG0, hb0, hs0⟩ := two_new w #[.int .i64 0, .int .i64 0, .int .i64 0, .int .i64 0, .int .u32 0] #[.int .i64 (i : Int), .int .i64 0, .int .i64 0, .int .i64 0, .int .u32 (m : Int)] 26
  rw [← hwa]
  replace hR0 : Has wa w.heap.size 26 (tab 5 (insA 0 0 0 0 0)) := hR0
  replace hG0 : Has wa (w.heap.size + 1) 26 (tab 5 (insA i 0 0 0 m)) := hG0
  have hne : w.heap.size ≠ w.heap.size + 1 := by omega
  have hle : w.heap.size ≤ w.heap.size + 1 := by omega
  clear hwa hs0 kF kM
  generalize hg6 : w.heap.size + 1 = g6 at *
  have HG0 := Lib.hid hG0
  have HR0 := Lib.hid hR0
  have HB0 := Lib.hid hb0
  have HL := Lib.hid hle
  have HV := Lib.hid hV
  clear hR0 hG0 hb0 hg6 hle hV h1 h2 hx
  by_cases hd : d1 = true ∧ d2 = true ∧ d3 = true
  · obtain ⟨rfl, rfl, rfl⟩ := hd
    go_wp2_with fail
    refine (k1 _).mono ?_
    rintro e w5 ⟨rfl, hb5⟩
    obtain ⟨hG5, hR5, hb5⟩ := step_keep hb5 HG0.out HR0.out HB0.out
    have c1 : w5.cell? ⟨g6, 1, none⟩ = some (.int .i64 0) := hG5.cellTab 1 (by omega)
    have f1 := hG5.free 1
    have HG5 := Lib.hid hG5
    have HR5 := Lib.hid hR5
    have HB5 := Lib.hid hb5
    clear hG5 hR5 hb5
    go_wp2_with (go_at_call 34; with_reducible refine (p1 _).mono ?_; rintro e w2 ⟨rfl, rfl⟩)
    refine (k2 _).mono ?_
    rintro e w6 ⟨rfl, hb6⟩
    obtain ⟨hG6, hR6, hb6⟩ := step_keep hb6 (has_to (HG5.out.set 1 _) (insA_set1 _ _ _ _ _ _)) (HR5.out.far hne _) (Below.setCell HB5.out HL.out _)
    have c2 : w6.cell? ⟨g6, 2, none⟩ = some (.int .i64 0) := hG6.cellTab 2 (by omega)
    have f2 := hG6.free 2
    have HG6 := Lib.hid hG6
    have HR6 := Lib.hid hR6
    have HB6 := Lib.hid hb6
    clear hG6 hR6 hb6 c1 f1
    go_wp2_with (go_at_call 34; with_reducible refine (p2 _).mono ?_; rintro e w2 ⟨rfl, rfl⟩)
    refine (k3 _).mono ?_
    rintro e w7 ⟨rfl, hb7⟩
    obtain ⟨hG7, hR7, hb7⟩ := step_keep hb7 (has_to (HG6.out.set 2 _) (insA_set2 _ _ _ _ _ _)) (HR6.out.far hne _) (Below.setCell HB6.out HL.out _)
    have c0 : w7.cell? ⟨g6, 0, none⟩ = some (.int .i64 (i : Int)) := hG7.cellTab 0 (by omega)
    have c1 : w7.cell? ⟨g6, 1, none⟩ = some (.int .i64 (q1 : Int)) := hG7.cellTab 1 (by omega)
    have c2 : w7.cell? ⟨g6, 2, none⟩ = some (.int .i64 (q2 : Int)) := hG7.cellTab 2 (by omega)
    have c3 : w7.cell? ⟨g6, 3, none⟩ = some (.int .i64 0) := hG7.cellTab 3 (by omega)
    have c4 : w7.cell? ⟨g6, 4, none⟩ = some (.int .u32 (m : Int)) := hG7.cellTab 4 (by omega)
    have f3 := hG7.free 3
    have HG7 := Lib.hid hG7
    have HR7 := Lib.hid hR7
    have HB7 := Lib.hid hb7
    clear hG7 hR7 hb7
    go_wp2_with (first
      | (go_at_call 34; with_reducible refine (p3 _).mono ?_; rintro e w2 ⟨rfl, rfl⟩)
      | (refine wp_store_tab rfl 26 _ _ rfl w.heap.size 0 rfl 5 (insA i q1 q2 q3 m) rfl 5 (insA 0 0 0 0 0) 26 (HR7.out.far hne _) infoIa5 (by omega) (insA_one _ _ _ _ _) ?_
         intro w9 hG9 hg9))
    rw [tab5_all] at hG9
    exact bodyPost_ret (results_cell_row rfl _ _ w.heap.size 26 _ _ _ rfl hG9 Tryd.underlying26 rfl infoIa5) rfl ⟨by rw [HV.out]; rfl, below_fin hg9 (Below.setCell HB7.out HL.out _) (Nat.le_refl _)⟩
  by_cases hd : d1 = true ∧ d2 = true ∧ d3 = false
  · obtain ⟨rfl, rfl, rfl⟩ := hd
    go_wp2_with fail
    refine (k1 _).mono ?_
    rintro e w5 ⟨rfl, hb5⟩
    obtain ⟨hG5, hR5, hb5⟩ := step_keep hb5 HG0.out HR0.out HB0.out
    have c1 : w5.cell? ⟨g6, 1, none⟩ = some (.int .i64 0) := hG5.cellTab 1 (by omega)
    have f1 := hG5.free 1
    have HG5 := Lib.hid hG5
    have HR5 := Lib.hid hR5
    have HB5 := Lib.hid hb5
    clear hG5 hR5 hb5
    go_wp2_with (go_at_call 34; with_reducible refine (p1 _).mono ?_; rintro e w2 ⟨rfl, rfl⟩)
    refine (k2 _).mono ?_
    rintro e w6 ⟨rfl, hb6⟩
    obtain ⟨hG6, hR6, hb6⟩ := step_keep hb6 (has_to (HG5.out.set 1 _) (insA_set1 _ _ _ _ _ _)) (HR5.out.far hne _) (Below.setCell HB5.out HL.out _)
    have c2 : w6.cell? ⟨g6, 2, none⟩ = some (.int .i64 0) := hG6.cellTab 2 (by omega)
    have f2 := hG6.free 2
    have HG6 := Lib.hid hG6
    have HR6 := Lib.hid hR6
    have HB6 := Lib.hid hb6
    clear hG6 hR6 hb6 c1 f1
    go_wp2_with (go_at_call 34; with_reducible refine (p2 _).mono ?_; rintro e w2 ⟨rfl, rfl⟩)
    refine (k3 _).mono ?_
    rintro e w7 ⟨rfl, hb7⟩
    obtain ⟨hG7, hR7, hb7⟩ := step_keep hb7 (has_to (HG6.out.set 2 _) (insA_set2 _ _ _ _ _ _)) (HR6.out.far hne _) (Below.setCell HB6.out HL.out _)
    have c0 : w7.cell? ⟨g6, 0, none⟩ = some (.int .i64 (i : Int)) := hG7.cellTab 0 (by omega)
    have c1 : w7.cell? ⟨g6, 1, none⟩ = some (.int .i64 (q1 : Int)) := hG7.cellTab 1 (by omega)
    have c2 : w7.cell? ⟨g6, 2, none⟩ = some (.int .i64 (q2 : Int)) := hG7.cellTab 2 (by omega)
    have c3 : w7.cell? ⟨g6, 3, none⟩ = some (.int .i64 0) := hG7.cellTab 3 (by omega)
    have c4 : w7.cell? ⟨g6, 4, none⟩ = some (.int .u32 (m : Int)) := hG7.cellTab 4 (by omega)
    have f3 := hG7.free 3
    have HG7 := Lib.hid hG7
    have HR7 := Lib.hid hR7
    have HB7 := Lib.hid hb7
    clear hG7 hR7 hb7
    go_wp2_with (first
      | (go_at_call 34; with_reducible refine (p3 _).mono ?_; rintro e w2 ⟨rfl, rfl⟩)
      | (refine wp_store_tab rfl 26 _ _ rfl w.heap.size 0 rfl 5 (insA i q1 q2 0 m) rfl 5 (insA 0 0 0 0 0) 26 HR7.out infoIa5 (by omega) (insA_one _ _ _ _ _) ?_
         intro w9 hG9 hg9))
    rw [tab5_all] at hG9
    exact bodyPost_ret (results_cell_row rfl _ _ w.heap.size 26 _ _ _ rfl hG9 Tryd.underlying26 rfl infoIa5) rfl ⟨by rw [HV.out]; rfl, below_fin hg9 HB7.out (Nat.le_refl _)⟩
  by_cases hd : d1 = true ∧ d2 = false ∧ d3 = true
  · obtain ⟨rfl, rfl, rfl⟩ := hd
    go_wp2_with fail
    refine (k1 _).mono ?_
    rintro e w5 ⟨rfl, hb5⟩
    obtain ⟨hG5, hR5, hb5⟩ := step_keep hb5 HG0.out HR0.out HB0.out
    have c1 : w5.cell? ⟨g6, 1, none⟩ = some (.int .i64 0) := hG5.cellTab 1 (by omega)
    have f1 := hG5.free 1
    have HG5 := Lib.hid hG5
    have HR5 := Lib.hid hR5
    have HB5 := Lib.hid hb5
    clear hG5 hR5 hb5
    go_wp2_with (go_at_call 34; with_reducible refine (p1 _).mono ?_; rintro e w2 ⟨rfl, rfl⟩)
    refine (k2 _).mono ?_
    rintro e w6 ⟨rfl, hb6⟩
    obtain ⟨hG6, hR6, hb6⟩ := step_keep hb6 (has_to (HG5.out.set 1 _) (insA_set1 _ _ _ _ _ _)) (HR5.out.far hne _) (Below.setCell HB5.out HL.out _)
    have c2 : w6.cell? ⟨g6, 2, none⟩ = some (.int .i64 0) := hG6.cellTab 2 (by omega)
    have f2 := hG6.free 2
    have HG6 := Lib.hid hG6
    have HR6 := Lib.hid hR6
    have HB6 := Lib.hid hb6
    clear hG6 hR6 hb6 c1 f1
    go_wp2_with (go_at_call 34; with_reducible refine (p2 _).mono ?_; rintro e w2 ⟨rfl, rfl⟩)
    refine (k3 _).mono ?_
    rintro e w7 ⟨rfl, hb7⟩
    obtain ⟨hG7, hR7, hb7⟩ := step_keep hb7 (HG6.out) HR6.out HB6.out
    have c0 : w7.cell? ⟨g6, 0, none⟩ = some (.int .i64 (i : Int)) := hG7.cellTab 0 (by omega)
    have c1 : w7.cell? ⟨g6, 1, none⟩ = some (.int .i64 (q1 : Int)) := hG7.cellTab 1 (by omega)
    have c2 : w7.cell? ⟨g6, 2, none⟩ = some (.int .i64 0) := hG7.cellTab 2 (by omega)
    have c3 : w7.cell? ⟨g6, 3, none⟩ = some (.int .i64 0) := hG7.cellTab 3 (by omega)
    have c4 : w7.cell? ⟨g6, 4, none⟩ = some (.int .u32 (m : Int)) := hG7.cellTab 4 (by omega)
    have f3 := hG7.free 3
    have HG7 := Lib.hid hG7
    have HR7 := Lib.hid hR7
    have HB7 := Lib.hid hb7
    clear hG7 hR7 hb7
    go_wp2_with (first
      | (go_at_call 34; with_reducible refine (p3 _).mono ?_; rintro e w2 ⟨rfl, rfl⟩)
      | (refine wp_store_tab rfl 26 _ _ rfl w.heap.size 0 rfl 5 (insA i q1 0 q3 m) rfl 5 (insA 0 0 0 0 0) 26 (HR7.out.far hne _) infoIa5 (by omega) (insA_one _ _ _ _ _) ?_
         intro w9 hG9 hg9))
    rw [tab5_all] at hG9
    exact bodyPost_ret (results_cell_row rfl _ _ w.heap.size 26 _ _ _ rfl hG9 Tryd.underlying26 rfl infoIa5) rfl ⟨by rw [HV.out]; rfl, below_fin hg9 (Below.setCell HB7.out HL.out _) (Nat.le_refl _)⟩
  by_cases hd : d1 = true ∧ d2 = false ∧ d3 = false
  · obtain ⟨rfl, rfl, rfl⟩ := hd
    go_wp2_with fail
    refine (k1 _).mono ?_
    rintro e w5 ⟨rfl, hb5⟩
    obtain ⟨hG5, hR5, hb5⟩ := step_keep hb5 HG0.out HR0.out HB0.out
    have c1 : w5.cell? ⟨g6, 1, none⟩ = some (.int .i64 0) := hG5.cellTab 1 (by omega)
    have f1 := hG5.free 1
    have HG5 := Lib.hid hG5
    have HR5 := Lib.hid hR5
    have HB5 := Lib.hid hb5
    clear hG5 hR5 hb5
    go_wp2_with (go_at_call 34; with_reducible refine (p1 _).mono ?_; rintro e w2 ⟨rfl, rfl⟩)
    refine (k2 _).mono ?_
    rintro e w6 ⟨rfl, hb6⟩
    obtain ⟨hG6, hR6, hb6⟩ := step_keep hb6 (has_to (HG5.out.set 1 _) (insA_set1 _ _ _ _ _ _)) (HR5.out.far hne _) (Below.setCell HB5.out HL.out _)
    have c2 : w6.cell? ⟨g6, 2, none⟩ = some (.int .i64 0) := hG6.cellTab 2 (by omega)
    have f2 := hG6.free 2
    have HG6 := Lib.hid hG6
    have HR6 := Lib.hid hR6
    have HB6 := Lib.hid hb6
    clear hG6 hR6 hb6 c1 f1
    go_wp2_with (go_at_call 34; with_reducible refine (p2 _).mono ?_; rintro e w2 ⟨rfl, rfl⟩)
    refine (k3 _).mono ?_
    rintro e w7 ⟨rfl, hb7⟩
    obtain ⟨hG7, hR7, hb7⟩ := step_keep hb7 (HG6.out) HR6.out HB6.out
    have c0 : w7.cell? ⟨g6, 0, none⟩ = some (.int .i64 (i : Int)) := hG7.cellTab 0 (by omega)
    have c1 : w7.cell? ⟨g6, 1, none⟩ = some (.int .i64 (q1 : Int)) := hG7.cellTab 1 (by omega)
    have c2 : w7.cell? ⟨g6, 2, none⟩ = some (.int .i64 0) := hG7.cellTab 2 (by omega)
    have c3 : w7.cell? ⟨g6, 3, none⟩ = some (.int .i64 0) := hG7.cellTab 3 (by omega)
    have c4 : w7.cell? ⟨g6, 4, none⟩ = some (.int .u32 (m : Int)) := hG7.cellTab 4 (by omega)
    have f3 := hG7.free 3
    have HG7 := Lib.hid hG7
    have HR7 := Lib.hid hR7
    have HB7 := Lib.hid hb7
    clear hG7 hR7 hb7
    go_wp2_with (first
      | (go_at_call 34; with_reducible refine (p3 _).mono ?_; rintro e w2 ⟨rfl, rfl⟩)
      | (refine wp_store_tab rfl 26 _ _ rfl w.heap.size 0 rfl 5 (insA i q1 0 0 m) rfl 5 (insA 0 0 0 0 0) 26 HR7.out infoIa5 (by omega) (insA_one _ _ _ _ _) ?_
         intro w9 hG9 hg9))
    rw [tab5_all] at hG9
    exact bodyPost_ret (results_cell_row rfl _ _ w.heap.size 26 _ _ _ rfl hG9 Tryd.underlying26 rfl infoIa5) rfl ⟨by rw [HV.out]; rfl, below_fin hg9 HB7.out (Nat.le_refl _)⟩
  by_cases hd : d1 = false ∧ d2 = true ∧ d3 = true
  · obtain ⟨rfl, rfl, rfl⟩ := hd
    go_wp2_with fail
    refine (k1 _).mono ?_
    rintro e w5 ⟨rfl, hb5⟩
    obtain ⟨hG5, hR5, hb5⟩ := step_keep hb5 HG0.out HR0.out HB0.out
    have c1 : w5.cell? ⟨g6, 1, none⟩ = some (.int .i64 0) := hG5.cellTab 1 (by omega)
    have f1 := hG5.free 1
    have HG5 := Lib.hid hG5
    have HR5 := Lib.hid hR5
    have HB5 := Lib.hid hb5
    clear hG5 hR5 hb5
    go_wp2_with (go_at_call 34; with_reducible refine (p1 _).mono ?_; rintro e w2 ⟨rfl, rfl⟩)
    refine (k2 _).mono ?_
    rintro e w6 ⟨rfl, hb6⟩
    obtain ⟨hG6, hR6, hb6⟩ := step_keep hb6 (HG5.out) HR5.out HB5.out
    have c2 : w6.cell? ⟨g6, 2, none⟩ = some (.int .i64 0) := hG6.cellTab 2 (by omega)
    have f2 := hG6.free 2
    have HG6 := Lib.hid hG6
    have HR6 := Lib.hid hR6
    have HB6 := Lib.hid hb6
    clear hG6 hR6 hb6 c1 f1
    go_wp2_with (go_at_call 34; with_reducible refine (p2 _).mono ?_; rintro e w2 ⟨rfl, rfl⟩)
    refine (k3 _).mono ?_
    rintro e w7 ⟨rfl, hb7⟩
    obtain ⟨hG7, hR7, hb7⟩ := step_keep hb7 (has_to (HG6.out.set 2 _) (insA_set2 _ _ _ _ _ _)) (HR6.out.far hne _) (Below.setCell HB6.out HL.out _)
    have c0 : w7.cell? ⟨g6, 0, none⟩ = some (.int .i64 (i : Int)) := hG7.cellTab 0 (by omega)
    have c1 : w7.cell? ⟨g6, 1, none⟩ = some (.int .i64 0) := hG7.cellTab 1 (by omega)
    have c2 : w7.cell? ⟨g6, 2, none⟩ = some (.int .i64 (q2 : Int)) := hG7.cellTab 2 (by omega)
    have c3 : w7.cell? ⟨g6, 3, none⟩ = some (.int .i64 0) := hG7.cellTab 3 (by omega)
    have c4 : w7.cell? ⟨g6, 4, none⟩ = some (.int .u32 (m : Int)) := hG7.cellTab 4 (by omega)
    have f3 := hG7.free 3
    have HG7 := Lib.hid hG7
    have HR7 := Lib.hid hR7
    have HB7 := Lib.hid hb7
    clear hG7 hR7 hb7
    go_wp2_with (first
      | (go_at_call 34; with_reducible refine (p3 _).mono ?_; rintro e w2 ⟨rfl, rfl⟩)
      | (refine wp_store_tab rfl 26 _ _ rfl w.heap.size 0 rfl 5 (insA i 0 q2 q3 m) rfl 5 (insA 0 0 0 0 0) 26 (HR7.out.far hne _) infoIa5 (by omega) (insA_one _ _ _ _ _) ?_
         intro w9 hG9 hg9))
    rw [tab5_all] at hG9
    exact bodyPost_ret (results_cell_row rfl _ _ w.heap.size 26 _ _ _ rfl hG9 Tryd.underlying26 rfl infoIa5) rfl ⟨by rw [HV.out]; rfl, below_fin hg9 (Below.setCell HB7.out HL.out _) (Nat.le_refl _)⟩
  by_cases hd : d1 = false ∧ d2 = true ∧ d3 = false
  · obtain ⟨rfl, rfl, rfl⟩ := hd
    go_wp2_with fail
    refine (k1 _).mono ?_
    rintro e w5 ⟨rfl, hb5⟩
    obtain ⟨hG5, hR5, hb5⟩ := step_keep hb5 HG0.out HR0.out HB0.out
    have c1 : w5.cell? ⟨g6, 1, none⟩ = some (.int .i64 0) := hG5.cellTab 1 (by omega)
    have f1 := hG5.free 1
    have HG5 := Lib.hid hG5
    have HR5 := Lib.hid hR5
    have HB5 := Lib.hid hb5
    clear hG5 hR5 hb5
    go_wp2_with (go_at_call 34; with_reducible refine (p1 _).mono ?_; rintro e w2 ⟨rfl, rfl⟩)
    refine (k2 _).mono ?_
    rintro e w6 ⟨rfl, hb6⟩
    obtain ⟨hG6, hR6, hb6⟩ := step_keep hb6 (HG5.out) HR5.out HB5.out
    have c2 : w6.cell? ⟨g6, 2, none⟩ = some (.int .i64 0) := hG6.cellTab 2 (by omega)
    have f2 := hG6.free 2
    have HG6 := Lib.hid hG6
    have HR6 := Lib.hid hR6
    have HB6 := Lib.hid hb6
    clear hG6 hR6 hb6 c1 f1
    go_wp2_with (go_at_call 34; with_reducible refine (p2 _).mono ?_; rintro e w2 ⟨rfl, rfl⟩)
    refine (k3 _).mono ?_
    rintro e w7 ⟨rfl, hb7⟩
    obtain ⟨hG7, hR7, hb7⟩ := step_keep hb7 (has_to (HG6.out.set 2 _) (insA_set2 _ _ _ _ _ _)) (HR6.out.far hne _) (Below.setCell HB6.out HL.out _)
    have c0 : w7.cell? ⟨g6, 0, none⟩ = some (.int .i64 (i : Int)) := hG7.cellTab 0 (by omega)
    have c1 : w7.cell? ⟨g6, 1, none⟩ = some (.int .i64 0) := hG7.cellTab 1 (by omega)
    have c2 : w7.cell? ⟨g6, 2, none⟩ = some (.int .i64 (q2 : Int)) := hG7.cellTab 2 (by omega)
    have c3 : w7.cell? ⟨g6, 3, none⟩ = some (.int .i64 0) := hG7.cellTab 3 (by omega)
    have c4 : w7.cell? ⟨g6, 4, none⟩ = some (.int .u32 (m : Int)) := hG7.cellTab 4 (by omega)
    have f3 := hG7.free 3
    have HG7 := Lib.hid hG7
    have HR7 := Lib.hid hR7
    have HB7 := Lib.hid hb7
    clear hG7 hR7 hb7
    go_wp2_with (first
      | (go_at_call 34; with_reducible refine (p3 _).mono ?_; rintro e w2 ⟨rfl, rfl⟩)
      | (refine wp_store_tab rfl 26 _ _ rfl w.heap.size 0 rfl 5 (insA i 0 q2 0 m) rfl 5 (insA 0 0 0 0 0) 26 HR7.out infoIa5 (by omega) (insA_one _ _ _ _ _) ?_
         intro w9 hG9 hg9))
    rw [tab5_all] at hG9
    exact bodyPost_ret (results_cell_row rfl _ _ w.heap.size 26 _ _ _ rfl hG9 Tryd.underlying26 rfl infoIa5) rfl ⟨by rw [HV.out]; rfl, below_fin hg9 HB7.out (Nat.le_refl _)⟩
  by_cases hd : d1 = false ∧ d2 = false ∧ d3 = true
  · obtain ⟨rfl, rfl, rfl⟩ := hd
    go_wp2_with fail
    refine (k1 _).mono ?_
    rintro e w5 ⟨rfl, hb5⟩
    obtain ⟨hG5, hR5, hb5⟩ := step_keep hb5 HG0.out HR0.out HB0.out
    have c1 : w5.cell? ⟨g6, 1, none⟩ = some (.int .i64 0) := hG5.cellTab 1 (by omega)
    have f1 := hG5.free 1
    have HG5 := Lib.hid hG5
    have HR5 := Lib.hid hR5
    have HB5 := Lib.hid hb5
    clear hG5 hR5 hb5
    go_wp2_with (go_at_call 34; with_reducible refine (p1 _).mono ?_; rintro e w2 ⟨rfl, rfl⟩)
    refine (k2 _).mono ?_
    rintro e w6 ⟨rfl, hb6⟩
    obtain ⟨hG6, hR6, hb6⟩ := step_keep hb6 (HG5.out) HR5.out HB5.out
    have c2 : w6.cell? ⟨g6, 2, none⟩ = some (.int .i64 0) := hG6.cellTab 2 (by omega)
    have f2 := hG6.free 2
    have HG6 := Lib.hid hG6
    have HR6 := Lib.hid hR6
    have HB6 := Lib.hid hb6
    clear hG6 hR6 hb6 c1 f1
    go_wp2_with (go_at_call 34; with_reducible refine (p2 _).mono ?_; rintro e w2 ⟨rfl, rfl⟩)
    refine (k3 _).mono ?_
    rintro e w7 ⟨rfl, hb7⟩
    obtain ⟨hG7, hR7, hb7⟩ := step_keep hb7 (HG6.out) HR6.out HB6.out
    have c0 : w7.cell? ⟨g6, 0, none⟩ = some (.int .i64 (i : Int)) := hG7.cellTab 0 (by omega)
    have c1 : w7.cell? ⟨g6, 1, none⟩ = some (.int .i64 0) := hG7.cellTab 1 (by omega)
    have c2 : w7.cell? ⟨g6, 2, none⟩ = some (.int .i64 0) := hG7.cellTab 2 (by omega)
    have c3 : w7.cell? ⟨g6, 3, none⟩ = some (.int .i64 0) := hG7.cellTab 3 (by omega)
    have c4 : w7.cell? ⟨g6, 4, none⟩ = some (.int .u32 (m : Int)) := hG7.cellTab 4 (by omega)
    have f3 := hG7.free 3
    have HG7 := Lib.hid hG7
    have HR7 := Lib.hid hR7
    have HB7 := Lib.hid hb7
    clear hG7 hR7 hb7
    go_wp2_with (first
      | (go_at_call 34; with_reducible refine (p3 _).mono ?_; rintro e w2 ⟨rfl, rfl⟩)
      | (refine wp_store_tab rfl 26 _ _ rfl w.heap.size 0 rfl 5 (insA i 0 0 q3 m) rfl 5 (insA 0 0 0 0 0) 26 (HR7.out.far hne _) infoIa5 (by omega) (insA_one _ _ _ _ _) ?_
         intro w9 hG9 hg9))
    rw [tab5_all] at hG9
    exact bodyPost_ret (results_cell_row rfl _ _ w.heap.size 26 _ _ _ rfl hG9 Tryd.underlying26 rfl infoIa5) rfl ⟨by rw [HV.out]; rfl, below_fin hg9 (Below.setCell HB7.out HL.out _) (Nat.le_refl _)⟩
  by_cases hd : d1 = false ∧ d2 = false ∧ d3 = false
  · obtain ⟨rfl, rfl, rfl⟩ := hd
    go_wp2_with fail
    refine (k1 _).mono ?_
    rintro e w5 ⟨rfl, hb5⟩
    obtain ⟨hG5, hR5, hb5⟩ := step_keep hb5 HG0.out HR0.out HB0.out
    have c1 : w5.cell? ⟨g6, 1, none⟩ = some (.int .i64 0) := hG5.cellTab 1 (by omega)
    have f1 := hG5.free 1
    have HG5 := Lib.hid hG5
    have HR5 := Lib.hid hR5
    have HB5 := Lib.hid hb5
    clear hG5 hR5 hb5
    go_wp2_with (go_at_call 34; with_reducible refine (p1 _).mono ?_; rintro e w2 ⟨rfl, rfl⟩)
    refine (k2 _).mono ?_
    rintro e w6 ⟨rfl, hb6⟩
    obtain ⟨hG6, hR6, hb6⟩ := step_keep hb6 (HG5.out) HR5.out HB5.out
    have c2 : w6.cell? ⟨g6, 2, none⟩ = some (.int .i64 0) := hG6.cellTab 2 (by omega)
    have f2 := hG6.free 2
    have HG6 := Lib.hid hG6
    have HR6 := Lib.hid hR6
    have HB6 := Lib.hid hb6
    clear hG6 hR6 hb6 c1 f1
    go_wp2_with (go_at_call 34; with_reducible refine (p2 _).mono ?_; rintro e w2 ⟨rfl, rfl⟩)
    refine (k3 _).mono ?_
    rintro e w7 ⟨rfl, hb7⟩
    obtain ⟨hG7, hR7, hb7⟩ := step_keep hb7 (HG6.out) HR6.out HB6.out
    have c0 : w7.cell? ⟨g6, 0, none⟩ = some (.int .i64 (i : Int)) := hG7.cellTab 0 (by omega)
    have c1 : w7.cell? ⟨g6, 1, none⟩ = some (.int .i64 0) := hG7.cellTab 1 (by omega)
    have c2 : w7.cell? ⟨g6, 2, none⟩ = some (.int .i64 0) := hG7.cellTab 2 (by omega)
    have c3 : w7.cell? ⟨g6, 3, none⟩ = some (.int .i64 0) := hG7.cellTab 3 (by omega)
    have c4 : w7.cell? ⟨g6, 4, none⟩ = some (.int .u32 (m : Int)) := hG7.cellTab 4 (by omega)
    have f3 := hG7.free 3
    have HG7 := Lib.hid hG7
    have HR7 := Lib.hid hR7
    have HB7 := Lib.hid hb7
    clear hG7 hR7 hb7
    go_wp2_with (first
      | (go_at_call 34; with_reducible refine (p3 _).mono ?_; rintro e w2 ⟨rfl, rfl⟩)
      | (refine wp_store_tab rfl 26 _ _ rfl w.heap.size 0 rfl 5 (insA i 0 0 0 m) rfl 5 (insA 0 0 0 0 0) 26 HR7.out infoIa5 (by omega) (insA_one _ _ _ _ _) ?_
         intro w9 hG9 hg9))
    rw [tab5_all] at hG9
    exact bodyPost_ret (results_cell_row rfl _ _ w.heap.size 26 _ _ _ rfl hG9 Tryd.underlying26 rfl infoIa5) rfl ⟨by rw [HV.out]; rfl, below_fin hg9 HB7.out (Nat.le_refl _)⟩
  cases d1 <;> cases d2 <;> cases d3 <;> simp_all
end Go.Proofs.YtghfbdkfibbhoaaDoor
