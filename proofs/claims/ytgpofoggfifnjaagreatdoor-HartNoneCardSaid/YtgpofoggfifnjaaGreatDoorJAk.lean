/-
Layer 11: package inst's fieldsOf.
Layer 11, plain: where each bit of a word with its fields put comes from.
-/
import Derived.Test.YtgpofoggfifnjaaGreatDoorJAj
namespace Go.Proofs.YtgpofoggfifnjaaGreatDoor
open Go Go.RowKit

theorem opP_ne (i : Nat) (h1 : 1 ≤ i) (h2 : i < 57) : (opP i).1 ≠ .O := by
  have h : (List.range 57).all (fun i => decide (i = 0) || decide ((opP i).1 ≠ .O)) = true := by decide +kernel
  have h3 := List.all_eq_true.1 h i (List.mem_range.2 h2)
  rcases Bool.or_eq_true_iff.1 h3 with h4 | h4
  · have := of_decide_eq_true h4; omega
  · exact of_decide_eq_true h4
/-- the fields of a word of operation i, as the program finds them -/
def insW (x i : Nat) : Nat → Value := insA (i : Int) ((if rdB (opP i).1 then bitsN x 11 7 else 0 : Nat) : Int) ((if r1B (opP i).1 then bitsN x 19 15 else 0 : Nat) : Int) ((if r2B (opP i).1 then bitsN x 24 20 else 0 : Nat) : Int) ((immL (opP i).1 x : Nat) : Int)
theorem infoIa5 : (Tryz.prog.info? 115).map (·.size) = some 5 := by kernel_rfl
theorem insA_set1 (i a b c n q : Int) : (tab 5 (insA i a b c n)).setIfInBounds 1 (.int .i64 q) = tab 5 (insA i q b c n) := rfl
theorem insA_set2 (i a b c n q : Int) : (tab 5 (insA i a b c n)).setIfInBounds 2 (.int .i64 q) = tab 5 (insA i a q c n) := rfl
theorem partRd_any (x : Nat) (hx : x < 4294967296) (W : World) : Calls Tryz.prog 98 #[.int .u32 (x : Int), .int .u64 11, .int .u64 7] W fun e w' => e = .returned (.int .u32 ((bitsN x 11 7 : Nat) : Int)) ∧ W = w' := part_any x 11 7 W hx (by decide) (by decide) (by decide)
theorem partR1_any (x : Nat) (hx : x < 4294967296) (W : World) : Calls Tryz.prog 98 #[.int .u32 (x : Int), .int .u64 19, .int .u64 15] W fun e w' => e = .returned (.int .u32 ((bitsN x 19 15 : Nat) : Int)) ∧ W = w' := part_any x 19 15 W hx (by decide) (by decide) (by decide)
theorem partR2_any (x : Nat) (hx : x < 4294967296) (W : World) : Calls Tryz.prog 98 #[.int .u32 (x : Int), .int .u64 24, .int .u64 20] W fun e w' => e = .returned (.int .u32 ((bitsN x 24 20 : Nat) : Int)) ∧ W = w' := part_any x 24 20 W hx (by decide) (by decide) (by decide)
theorem two_new (w : World) (u v : Array Value) (t : TypeId) : ∃ wa, wa = (w.alloc (.cells u t)).alloc (.cells v t) ∧ Has wa w.heap.size t u ∧ Has wa (w.heap.size + 1) t v ∧ Below w.heap.size w wa ∧ wa.heap.size = w.heap.size + 2 :=
  ⟨_, rfl, (Has.new w t u).alloc _, Has.new' (size_alloc1 w _).symm, ((Below.refl _ _).alloc (Nat.le_refl _) _).alloc (by rw [size_alloc1]; omega) _, by rw [size_alloc1, size_alloc1]⟩
theorem step_keep {w wc w6 : World} {g4 g6 : Nat} {t : TypeId} {cs cs4 : Array Value} (hb6 : Below wc.heap.size wc w6) (hG : Has wc g6 t cs) (hR : Has wc g4 t cs4) (hb : Below w.heap.size w wc) : Has w6 g6 t cs ∧ Has w6 g4 t cs4 ∧ Below w.heap.size w w6 :=
  ⟨hG.below hb6 hG.lt, hR.below hb6 hR.lt, hb.trans (hb6.mono hb.size)⟩
set_option maxRecDepth 100000 in
set_option maxHeartbeats 4000000 in
theorem fieldsOf_any (x i : Nat) (w : World) (hx : x < 4294967296) (h1 : 1 ≤ i) (h2 : i < 57) :
    Calls Tryz.prog 83 #[.int .u32 (x : Int), .int .i64 (i : Int)] w fun e w' => e = .returned (.agg (tab 5 (insW x i))) ∧ Below w.heap.size w w' := by
  have hf := opP_ne i h1 h2
  have kF := fun W => form_at i W h1 h2
  have kM := fun W => immediate_any (opP i).1 hf x W hx
  have k1 := fun W => hasRd_any (fmN (opP i).1 : Nat) W
  have k2 := fun W => hasRs1_any (fmN (opP i).1 : Nat) W
  have k3 := fun W => hasRs2_any (fmN (opP i).1 : Nat) W
  rw [rd_is _ hf] at k1
  rw [r1_is _ hf] at k2
  rw [r2_is _ hf] at k3
  have p1 := fun W => partRd_any x hx W
  have p2 := fun W => partR1_any x hx W
  have p3 := fun W => partR2_any x hx W
  have l1 : bitsN x 11 7 < 32 := bitsN_lt x 11 7
  have l2 : bitsN x 19 15 < 32 := bitsN_lt x 19 15
  have l3 : bitsN x 24 20 < 32 := bitsN_lt x 24 20
  obtain ⟨V, hV⟩ : ∃ V, V = insW x i := ⟨_, rfl⟩
  rw [← hV]
  unfold insW at hV
  generalize fmN (opP i).1 = k at *
  generalize immL (opP i).1 x = m at *
  generalize bitsN x 11 7 = q1 at *
  generalize bitsN x 19 15 = q2 at *
  generalize bitsN x 24 20 = q3 at *
  generalize rdB (opP i).1 = d1 at *
  generalize r1B (opP i).1 = d2 at *
  generalize r2B (opP i).1 = d3 at *
  clear hf
  go_enter Tryz.func83, Tryz.ntmps83
  go_upto_region 3 with (first
    | (go_at_call 72; with_reducible refine (kF _).mono ?_; rintro e w2 ⟨rfl, rfl⟩)
    | (go_at_call 100; with_reducible refine (kM _).mono ?_; rintro e w2 ⟨rfl, rfl⟩))
  obtain ⟨wa, hwa, hR0, hG0, hb0, hs0⟩ := two_new w #[.int .i64 0, .int .i64 0, .int .i64 0, .int .i64 0, .int .u32 0] #[.int .i64 (i : Int), .int .i64 0, .int .i64 0, .int .i64 0, .int .u32 (m : Int)] 115
  rw [← hwa]
  replace hR0 : Has wa w.heap.size 115 (tab 5 (insA 0 0 0 0 0)) := hR0
  replace hG0 : Has wa (w.heap.size + 1) 115 (tab 5 (insA i 0 0 0 m)) := hG0
  have hne : w.heap.size ≠ w.heap.size + 1 := by omega
  have hle : w.heap.size ≤ w.heap.size + 1 := by omega
  clear hwa hs0 kF kM
  generalize hg6 : w.heap.size + 1 = g6 at *
  have HG0 := Lib.hid hG0
  have HR0 := Lib.hid hR0
  have HB0 := Lib.hid hb0
  have HL := Lib.hid hle
  have HV := Lib.hid hV
  clear hR0 hG0 hb0 hg6 hle hV h1 h2 hx
  by_cases hd : d1 = true ∧ d2 = true ∧ d3 = true
  · obtain ⟨rfl, rfl, rfl⟩ := hd
    go_wp2_with fail
    refine (k1 _).mono ?_
    rintro e w5 ⟨rfl, hb5⟩
    obtain ⟨hG5, hR5, hb5⟩ := step_keep hb5 HG0.out HR0.out HB0.out
    have c1 : w5.cell? ⟨g6, 1, none⟩ = some (.int .i64 0) := hG5.cellTab 1 (by omega)
    have f1 := hG5.free 1
    have HG5 := Lib.hid hG5
    have HR5 := Lib.hid hR5
    have HB5 := Lib.hid hb5
    clear hG5 hR5 hb5
    go_wp2_with (go_at_call 98; with_reducible refine (p1 _).mono ?_; rintro e w2 ⟨rfl, rfl⟩)
    refine (k2 _).mono ?_
    rintro e w6 ⟨rfl, hb6⟩
    obtain ⟨hG6, hR6, hb6⟩ := step_keep hb6 (has_to (HG5.out.set 1 _) (insA_set1 _ _ _ _ _ _)) (HR5.out.far hne _) (Below.setCell HB5.out HL.out _)
    have c2 : w6.cell? ⟨g6, 2, none⟩ = some (.int .i64 0) := hG6.cellTab 2 (by omega)
    have f2 := hG6.free 2
    have HG6 := Lib.hid hG6
    have HR6 := Lib.hid hR6
    have HB6 := Lib.hid hb6
    clear hG6 hR6 hb6 c1 f1
    go_wp2_with (go_at_call 98; with_reducible refine (p2 _).mono ?_; rintro e w2 ⟨rfl, rfl⟩)
    refine (k3 _).mono ?_
    rintro e w7 ⟨rfl, hb7⟩
    obtain ⟨hG7, hR7, hb7⟩ := step_keep hb7 (has_to (HG6.out.set 2 _) (insA_set2 _ _ _ _ _ _)) (HR6.out.far hne _) (Below.setCell HB6.out HL.out _)
    have c0 : w7.cell? ⟨g6, 0, none⟩ = some (.int .i64 (i : Int)) := hG7.cellTab 0 (by omega)
    have c1 : w7.cell? ⟨g6, 1, none⟩ = some (.int .i64 (q1 : Int)) := hG7.cellTab 1 (by omega)
    have c2 : w7.cell? ⟨g6, 2, none⟩ = some (.int .i64 (q2 : Int)) := hG7.cellTab 2 (by omega)
    have c3 : w7.cell? ⟨g6, 3, none⟩ = some (.int .i64 0) := hG7.cellTab 3 (by omega)
    have c4 : w7.cell? ⟨g6, 4, none⟩ = some (.int .u32 (m : Int)) := hG7.cellTab 4 (by omega)
    have f3 := hG7.free 3
    have HG7 := Lib.hid hG7
    have HR7 := Lib.hid hR7
    have HB7 := Lib.hid hb7
    clear hG7 hR7 hb7
    go_wp2_with (first
      | (go_at_call 98; with_reducible refine (p3 _).mono ?_; rintro e w2 ⟨rfl, rfl⟩)
      | (refine wp_store_tab rfl 115 _ _ rfl w.heap.size 0 rfl 5 (insA i q1 q2 q3 m) rfl 5 (insA 0 0 0 0 0) 115 (HR7.out.far hne _) infoIa5 (by omega) (insA_one _ _ _ _ _) ?_
         intro w9 hG9 hg9))
    rw [tab5_all] at hG9
    exact bodyPost_ret (results_cell_row rfl _ _ w.heap.size 115 _ _ _ rfl hG9 Tryz.underlying115 rfl infoIa5) rfl ⟨by rw [HV.out]; rfl, below_fin hg9 (Below.setCell HB7.out HL.out _) (Nat.le_refl _)⟩
  by_cases hd : d1 = true ∧ d2 = true ∧ d3 = false
  · obtain ⟨rfl, rfl, rfl⟩ := hd
    go_wp2_with fail
    refine (k1 _).mono ?_
    rintro e w5 ⟨rfl, hb5⟩
    obtain ⟨hG5, hR5, hb5⟩ := step_keep hb5 HG0.out HR0.out HB0.out
    have c1 : w5.cell? ⟨g6, 1, none⟩ = some (.int .i64 0) := hG5.cellTab 1 (by omega)
    have f1 := hG5.free 1
    have HG5 := Lib.hid hG5
    have HR5 := Lib.hid hR5
    have HB5 := Lib.hid hb5
    clear hG5 hR5 hb5
    go_wp2_with (go_at_call 98; with_reducible refine (p1 _).mono ?_; rintro e w2 ⟨rfl, rfl⟩)
    refine (k2 _).mono ?_
    rintro e w6 ⟨rfl, hb6⟩
    obtain ⟨hG6, hR6, hb6⟩ := step_keep hb6 (has_to (HG5.out.set 1 _) (insA_set1 _ _ _ _ _ _)) (HR5.out.far hne _) (Below.setCell HB5.out HL.out _)
    have c2 : w6.cell? ⟨g6, 2, none⟩ = some (.int .i64 0) := hG6.cellTab 2 (by omega)
    have f2 := hG6.free 2
    have HG6 := Lib.hid hG6
    have HR6 := Lib.hid hR6
    have HB6 := Lib.hid hb6
    clear hG6 hR6 hb6 c1 f1
    go_wp2_with (go_at_call 98; with_reducible refine (p2 _).mono ?_; rintro e w2 ⟨rfl, rfl⟩)
    refine (k3 _).mono ?_
    rintro e w7 ⟨rfl, hb7⟩
    obtain ⟨hG7, hR7, hb7⟩ := step_keep hb7 (has_to (HG6.out.set 2 _) (insA_set2 _ _ _ _ _ _)) (HR6.out.far hne _) (Below.setCell HB6.out HL.out _)
    have c0 : w7.cell? ⟨g6, 0, none⟩ = some (.int .i64 (i : Int)) := hG7.cellTab 0 (by omega)
    have c1 : w7.cell? ⟨g6, 1, none⟩ = some (.int .i64 (q1 : Int)) := hG7.cellTab 1 (by omega)
    have c2 : w7.cell? ⟨g6, 2, none⟩ = some (.int .i64 (q2 : Int)) := hG7.cellTab 2 (by omega)
    have c3 : w7.cell? ⟨g6, 3, none⟩ = some (.int .i64 0) := hG7.cellTab 3 (by omega)
    have c4 : w7.cell? ⟨g6, 4, none⟩ = some (.int .u32 (m : Int)) := hG7.cellTab 4 (by omega)
    have f3 := hG7.free 3
    have HG7 := Lib.hid hG7
    have HR7 := Lib.hid hR7
    have HB7 := Lib.hid hb7
    clear hG7 hR7 hb7
    go_wp2_with (first
      | (go_at_call 98; with_reducible refine (p3 _).mono ?_; rintro e w2 ⟨rfl, rfl⟩)
      | (refine wp_store_tab rfl 115 _ _ rfl w.heap.size 0 rfl 5 (insA i q1 q2 0 m) rfl 5 (insA 0 0 0 0 0) 115 HR7.out infoIa5 (by omega) (insA_one _ _ _ _ _) ?_
         intro w9 hG9 hg9))
    rw [tab5_all] at hG9
    exact bodyPost_ret (results_cell_row rfl _ _ w.heap.size 115 _ _ _ rfl hG9 Tryz.underlying115 rfl infoIa5) rfl ⟨by rw [HV.out]; rfl, below_fin hg9 HB7.out (Nat.le_refl _)⟩
  by_cases hd : d1 = true ∧ d2 = false ∧ d3 = true
  · obtain ⟨rfl, rfl, rfl⟩ := hd
    go_wp2_with fail
    refine (k1 _).mono ?_
    rintro e w5 ⟨rfl, hb5⟩
    obtain ⟨hG5, hR5, hb5⟩ := step_keep hb5 HG0.out HR0.out HB0.out
    have c1 : w5.cell? ⟨g6, 1, none⟩ = some (.int .i64 0) := hG5.cellTab 1 (by omega)
    have f1 := hG5.free 1
    have HG5 := Lib.hid hG5
    have HR5 := Lib.hid hR5
    have HB5 := Lib.hid hb5
    clear hG5 hR5 hb5
    go_wp2_with (go_at_call 98; with_reducible refine (p1 _).mono ?_; rintro e w2 ⟨rfl, rfl⟩)
    refine (k2 _).mono ?_
    rintro e w6 ⟨rfl, hb6⟩
    obtain ⟨hG6, hR6, hb6⟩ := step_keep hb6 (has_to (HG5.out.set 1 _) (insA_set1 _ _ _ _ _ _)) (HR5.out.far hne _) (Below.setCell HB5.out HL.out _)
    have c2 : w6.cell? ⟨g6, 2, none⟩ = some (.int .i64 0) := hG6.cellTab 2 (by omega)
    have f2 := hG6.free 2
    have HG6 := Lib.hid hG6
    have HR6 := Lib.hid hR6
    have HB6 := Lib.hid hb6
    clear hG6 hR6 hb6 c1 f1
    go_wp2_with (go_at_call 98; with_reducible refine (p2 _).mono ?_; rintro e w2 ⟨rfl, rfl⟩)
    refine (k3 _).mono ?_
    rintro e w7 ⟨rfl, hb7⟩
    obtain ⟨hG7, hR7, hb7⟩ := step_keep hb7 (HG6.out) HR6.out HB6.out
    have c0 : w7.cell? ⟨g6, 0, none⟩ = some (.int .i64 (i : Int)) := hG7.cellTab 0 (by omega)
    have c1 : w7.cell? ⟨g6, 1, none⟩ = some (.int .i64 (q1 : Int)) := hG7.cellTab 1 (by omega)
    have c2 : w7.cell? ⟨g6, 2, none⟩ = some (.int .i64 0) := hG7.cellTab 2 (by omega)
    have c3 : w7.cell? ⟨g6, 3, none⟩ = some (.int .i64 0) := hG7.cellTab 3 (by omega)
    have c4 : w7.cell? ⟨g6, 4, none⟩ = some (.int .u32 (m : Int)) := hG7.cellTab 4 (by omega)
    have f3 := hG7.free 3
    have HG7 := Lib.hid hG7
    have HR7 := Lib.hid hR7
    have HB7 := Lib.hid hb7
    clear hG7 hR7 hb7
    go_wp2_with (first
      | (go_at_call 98; with_reducible refine (p3 _).mono ?_; rintro e w2 ⟨rfl, rfl⟩)
      | (refine wp_store_tab rfl 115 _ _ rfl w.heap.size 0 rfl 5 (insA i q1 0 q3 m) rfl 5 (insA 0 0 0 0 0) 115 (HR7.out.far hne _) infoIa5 (by omega) (insA_one _ _ _ _ _) ?_
         intro w9 hG9 hg9))
    rw [tab5_all] at hG9
    exact bodyPost_ret (results_cell_row rfl _ _ w.heap.size 115 _ _ _ rfl hG9 Tryz.underlying115 rfl infoIa5) rfl ⟨by rw [HV.out]; rfl, below_fin hg9 (Below.setCell HB7.out HL.out _) (Nat.le_refl _)⟩
  by_cases hd : d1 = true ∧ d2 = false ∧ d3 = false
  · obtain ⟨rfl, rfl, rfl⟩ := hd
    go_wp2_with fail
    refine (k1 _).mono ?_
    rintro e w5 ⟨rfl, hb5⟩
    obtain ⟨hG5, hR5, hb5⟩ := step_keep hb5 HG0.out HR0.out HB0.out
    have c1 : w5.cell? ⟨g6, 1, none⟩ = some (.int .i64 0) := hG5.cellTab 1 (by omega)
    have f1 := hG5.free 1
    have HG5 := Lib.hid hG5
    have HR5 := Lib.hid hR5
    have HB5 := Lib.hid hb5
    clear hG5 hR5 hb5
    go_wp2_with (go_at_call 98; with_reducible refine (p1 _).mono ?_; rintro e w2 ⟨rfl, rfl⟩)
    refine (k2 _).mono ?_
    rintro e w6 ⟨rfl, hb6⟩
    obtain ⟨hG6, hR6, hb6⟩ := step_keep hb6 (has_to (HG5.out.set 1 _) (insA_set1 _ _ _ _ _ _)) (HR5.out.far hne _) (Below.setCell HB5.out HL.out _)
    have c2 : w6.cell? ⟨g6, 2, none⟩ = some (.int .i64 0) := hG6.cellTab 2 (by omega)
    have f2 := hG6.free 2
    have HG6 := Lib.hid hG6
    have HR6 := Lib.hid hR6
    have HB6 := Lib.hid hb6
    clear hG6 hR6 hb6 c1 f1
    go_wp2_with (go_at_call 98; with_reducible refine (p2 _).mono ?_; rintro e w2 ⟨rfl, rfl⟩)
    refine (k3 _).mono ?_
    rintro e w7 ⟨rfl, hb7⟩
    obtain ⟨hG7, hR7, hb7⟩ := step_keep hb7 (HG6.out) HR6.out HB6.out
    have c0 : w7.cell? ⟨g6, 0, none⟩ = some (.int .i64 (i : Int)) := hG7.cellTab 0 (by omega)
    have c1 : w7.cell? ⟨g6, 1, none⟩ = some (.int .i64 (q1 : Int)) := hG7.cellTab 1 (by omega)
    have c2 : w7.cell? ⟨g6, 2, none⟩ = some (.int .i64 0) := hG7.cellTab 2 (by omega)
    have c3 : w7.cell? ⟨g6, 3, none⟩ = some (.int .i64 0) := hG7.cellTab 3 (by omega)
    have c4 : w7.cell? ⟨g6, 4, none⟩ = some (.int .u32 (m : Int)) := hG7.cellTab 4 (by omega)
    have f3 := hG7.free 3
    have HG7 := Lib.hid hG7
    have HR7 := Lib.hid hR7
    have HB7 := Lib.hid hb7
    clear hG7 hR7 hb7
    go_wp2_with (first
      | (go_at_call 98; with_reducible refine (p3 _).mono ?_; rintro e w2 ⟨rfl, rfl⟩)
      | (refine wp_store_tab rfl 115 _ _ rfl w.heap.size 0 rfl 5 (insA i q1 0 0 m) rfl 5 (insA 0 0 0 0 0) 115 HR7.out infoIa5 (by omega) (insA_one _ _ _ _ _) ?_
         intro w9 hG9 hg9))
    rw [tab5_all] at hG9
    exact bodyPost_ret (results_cell_row rfl _ _ w.heap.size 115 _ _ _ rfl hG9 Tryz.underlying115 rfl infoIa5) rfl ⟨by rw [HV.out]; rfl, below_fin hg9 HB7.out (Nat.le_refl _)⟩
  by_cases hd : d1 = false ∧ d2 = true ∧ d3 = true
  · obtain ⟨rfl, rfl, rfl⟩ := hd
    go_wp2_with fail
    refine (k1 _).mono ?_
    rintro e w5 ⟨rfl, hb5⟩
    obtain ⟨hG5, hR5, hb5⟩ := step_keep hb5 HG0.out HR0.out HB0.out
    have c1 : w5.cell? ⟨g6, 1, none⟩ = some (.int .i64 0) := hG5.cellTab 1 (by omega)
    have f1 := hG5.free 1
    have HG5 := Lib.hid hG5
    have HR5 := Lib.hid hR5
    have HB5 := Lib.hid hb5
    clear hG5 hR5 hb5
    go_wp2_with (go_at_call 98; with_reducible refine (p1 _).mono ?_; rintro e w2 ⟨rfl, rfl⟩)
    refine (k2 _).mono ?_
    rintro e w6 ⟨rfl, hb6⟩
    obtain ⟨hG6, hR6, hb6⟩ := step_keep hb6 (HG5.out) HR5.out HB5.out
    have c2 : w6.cell? ⟨g6, 2, none⟩ = some (.int .i64 0) := hG6.cellTab 2 (by omega)
    have f2 := hG6.free 2
    have HG6 := Lib.hid hG6
    have HR6 := Lib.hid hR6
    have HB6 := Lib.hid hb6
    clear hG6 hR6 hb6 c1 f1
    go_wp2_with (go_at_call 98; with_reducible refine (p2 _).mono ?_; rintro e w2 ⟨rfl, rfl⟩)
    refine (k3 _).mono ?_
    rintro e w7 ⟨rfl, hb7⟩
    obtain ⟨hG7, hR7, hb7⟩ := step_keep hb7 (has_to (HG6.out.set 2 _) (insA_set2 _ _ _ _ _ _)) (HR6.out.far hne _) (Below.setCell HB6.out HL.out _)
    have c0 : w7.cell? ⟨g6, 0, none⟩ = some (.int .i64 (i : Int)) := hG7.cellTab 0 (by omega)
    have c1 : w7.cell? ⟨g6, 1, none⟩ = some (.int .i64 0) := hG7.cellTab 1 (by omega)
    have c2 : w7.cell? ⟨g6, 2, none⟩ = some (.int .i64 (q2 : Int)) := hG7.cellTab 2 (by omega)
    have c3 : w7.cell? ⟨g6, 3, none⟩ = some (.int .i64 0) := hG7.cellTab 3 (by omega)
    have c4 : w7.cell? ⟨g6, 4, none⟩ = some (.int .u32 (m : Int)) := hG7.cellTab 4 (by omega)
    have f3 := hG7.free 3
    have HG7 := Lib.hid hG7
    have HR7 := Lib.hid hR7
    have HB7 := Lib.hid hb7
    clear hG7 hR7 hb7
    go_wp2_with (first
      | (go_at_call 98; with_reducible refine (p3 _).mono ?_; rintro e w2 ⟨rfl, rfl⟩)
      | (refine wp_store_tab rfl 115 _ _ rfl w.heap.size 0 rfl 5 (insA i 0 q2 q3 m) rfl 5 (insA 0 0 0 0 0) 115 (HR7.out.far hne _) infoIa5 (by omega) (insA_one _ _ _ _ _) ?_
         intro w9 hG9 hg9))
    rw [tab5_all] at hG9
    exact bodyPost_ret (results_cell_row rfl _ _ w.heap.size 115 _ _ _ rfl hG9 Tryz.underlying115 rfl infoIa5) rfl ⟨by rw [HV.out]; rfl, below_fin hg9 (Below.setCell HB7.out HL.out _) (Nat.le_refl _)⟩
  by_cases hd : d1 = false ∧ d2 = true ∧ d3 = false
  · obtain ⟨rfl, rfl, rfl⟩ := hd
    go_wp2_with fail
    refine (k1 _).mono ?_
    rintro e w5 ⟨rfl, hb5⟩
    obtain ⟨hG5, hR5, hb5⟩ := step_keep hb5 HG0.out HR0.out HB0.out
    have c1 : w5.cell? ⟨g6, 1, none⟩ = some (.int .i64 0) := hG5.cellTab 1 (by omega)
    have f1 := hG5.free 1
    have HG5 := Lib.hid hG5
    have HR5 := Lib.hid hR5
    have HB5 := Lib.hid hb5
    clear hG5 hR5 hb5
    go_wp2_with (go_at_call 98; with_reducible refine (p1 _).mono ?_; rintro e w2 ⟨rfl, rfl⟩)
    refine (k2 _).mono ?_
    rintro e w6 ⟨rfl, hb6⟩
    obtain ⟨hG6, hR6, hb6⟩ := step_keep hb6 (HG5.out) HR5.out HB5.out
    have c2 : w6.cell? ⟨g6, 2, none⟩ = some (.int .i64 0) := hG6.cellTab 2 (by omega)
    have f2 := hG6.free 2
    have HG6 := Lib.hid hG6
    have HR6 := Lib.hid hR6
    have HB6 := Lib.hid hb6
    clear hG6 hR6 hb6 c1 f1
    go_wp2_with (go_at_call 98; with_reducible refine (p2 _).mono ?_; rintro e w2 ⟨rfl, rfl⟩)
    refine (k3 _).mono ?_
    rintro e w7 ⟨rfl, hb7⟩
    obtain ⟨hG7, hR7, hb7⟩ := step_keep hb7 (has_to (HG6.out.set 2 _) (insA_set2 _ _ _ _ _ _)) (HR6.out.far hne _) (Below.setCell HB6.out HL.out _)
    have c0 : w7.cell? ⟨g6, 0, none⟩ = some (.int .i64 (i : Int)) := hG7.cellTab 0 (by omega)
    have c1 : w7.cell? ⟨g6, 1, none⟩ = some (.int .i64 0) := hG7.cellTab 1 (by omega)
    have c2 : w7.cell? ⟨g6, 2, none⟩ = some (.int .i64 (q2 : Int)) := hG7.cellTab 2 (by omega)
    have c3 : w7.cell? ⟨g6, 3, none⟩ = some (.int .i64 0) := hG7.cellTab 3 (by omega)
    have c4 : w7.cell? ⟨g6, 4, none⟩ = some (.int .u32 (m : Int)) := hG7.cellTab 4 (by omega)
    have f3 := hG7.free 3
    have HG7 := Lib.hid hG7
    have HR7 := Lib.hid hR7
    have HB7 := Lib.hid hb7
    clear hG7 hR7 hb7
    go_wp2_with (first
      | (go_at_call 98; with_reducible refine (p3 _).mono ?_; rintro e w2 ⟨rfl, rfl⟩)
      | (refine wp_store_tab rfl 115 _ _ rfl w.heap.size 0 rfl 5 (insA i 0 q2 0 m) rfl 5 (insA 0 0 0 0 0) 115 HR7.out infoIa5 (by omega) (insA_one _ _ _ _ _) ?_
         intro w9 hG9 hg9))
    rw [tab5_all] at hG9
    exact bodyPost_ret (results_cell_row rfl _ _ w.heap.size 115 _ _ _ rfl hG9 Tryz.underlying115 rfl infoIa5) rfl ⟨by rw [HV.out]; rfl, below_fin hg9 HB7.out (Nat.le_refl _)⟩
  by_cases hd : d1 = false ∧ d2 = false ∧ d3 = true
  · obtain ⟨rfl, rfl, rfl⟩ := hd
    go_wp2_with fail
    refine (k1 _).mono ?_
    rintro e w5 ⟨rfl, hb5⟩
    obtain ⟨hG5, hR5, hb5⟩ := step_keep hb5 HG0.out HR0.out HB0.out
    have c1 : w5.cell? ⟨g6, 1, none⟩ = some (.int .i64 0) := hG5.cellTab 1 (by omega)
    have f1 := hG5.free 1
    have HG5 := Lib.hid hG5
    have HR5 := Lib.hid hR5
    have HB5 := Lib.hid hb5
    clear hG5 hR5 hb5
    go_wp2_with (go_at_call 98; with_reducible refine (p1 _).mono ?_; rintro e w2 ⟨rfl, rfl⟩)
    refine (k2 _).mono ?_
    rintro e w6 ⟨rfl, hb6⟩
    obtain ⟨hG6, hR6, hb6⟩ := step_keep hb6 (HG5.out) HR5.out HB5.out
    have c2 : w6.cell? ⟨g6, 2, none⟩ = some (.int .i64 0) := hG6.cellTab 2 (by omega)
    have f2 := hG6.free 2
    have HG6 := Lib.hid hG6
    have HR6 := Lib.hid hR6
    have HB6 := Lib.hid hb6
    clear hG6 hR6 hb6 c1 f1
    go_wp2_with (go_at_call 98; with_reducible refine (p2 _).mono ?_; rintro e w2 ⟨rfl, rfl⟩)
    refine (k3 _).mono ?_
    rintro e w7 ⟨rfl, hb7⟩
    obtain ⟨hG7, hR7, hb7⟩ := step_keep hb7 (HG6.out) HR6.out HB6.out
    have c0 : w7.cell? ⟨g6, 0, none⟩ = some (.int .i64 (i : Int)) := hG7.cellTab 0 (by omega)
    have c1 : w7.cell? ⟨g6, 1, none⟩ = some (.int .i64 0) := hG7.cellTab 1 (by omega)
    have c2 : w7.cell? ⟨g6, 2, none⟩ = some (.int .i64 0) := hG7.cellTab 2 (by omega)
    have c3 : w7.cell? ⟨g6, 3, none⟩ = some (.int .i64 0) := hG7.cellTab 3 (by omega)
    have c4 : w7.cell? ⟨g6, 4, none⟩ = some (.int .u32 (m : Int)) := hG7.cellTab 4 (by omega)
    have f3 := hG7.free 3
    have HG7 := Lib.hid hG7
    have HR7 := Lib.hid hR7
    have HB7 := Lib.hid hb7
    clear hG7 hR7 hb7
    go_wp2_with (first
      | (go_at_call 98; with_reducible refine (p3 _).mono ?_; rintro e w2 ⟨rfl, rfl⟩)
      | (refine wp_store_tab rfl 115 _ _ rfl w.heap.size 0 rfl 5 (insA i 0 0 q3 m) rfl 5 (insA 0 0 0 0 0) 115 (HR7.out.far hne _) infoIa5 (by omega) (insA_one _ _ _ _ _) ?_
         intro w9 hG9 hg9))
    rw [tab5_all] at hG9
    exact bodyPost_ret (results_cell_row rfl _ _ w.heap.size 115 _ _ _ rfl hG9 Tryz.underlying115 rfl infoIa5) rfl ⟨by rw [HV.out]; rfl, below_fin hg9 (Below.setCell HB7.out HL.out _) (Nat.le_refl _)⟩
  by_cases hd : d1 = false ∧ d2 = false ∧ d3 = false
  · obtain ⟨rfl, rfl, rfl⟩ := hd
    go_wp2_with fail
    refine (k1 _).mono ?_
    rintro e w5 ⟨rfl, hb5⟩
    obtain ⟨hG5, hR5, hb5⟩ := step_keep hb5 HG0.out HR0.out HB0.out
    have c1 : w5.cell? ⟨g6, 1, none⟩ = some (.int .i64 0) := hG5.cellTab 1 (by omega)
    have f1 := hG5.free 1
    have HG5 := Lib.hid hG5
    have HR5 := Lib.hid hR5
    have HB5 := Lib.hid hb5
    clear hG5 hR5 hb5
    go_wp2_with (go_at_call 98; with_reducible refine (p1 _).mono ?_; rintro e w2 ⟨rfl, rfl⟩)
    refine (k2 _).mono ?_
    rintro e w6 ⟨rfl, hb6⟩
    obtain ⟨hG6, hR6, hb6⟩ := step_keep hb6 (HG5.out) HR5.out HB5.out
    have c2 : w6.cell? ⟨g6, 2, none⟩ = some (.int .i64 0) := hG6.cellTab 2 (by omega)
    have f2 := hG6.free 2
    have HG6 := Lib.hid hG6
    have HR6 := Lib.hid hR6
    have HB6 := Lib.hid hb6
    clear hG6 hR6 hb6 c1 f1
    go_wp2_with (go_at_call 98; with_reducible refine (p2 _).mono ?_; rintro e w2 ⟨rfl, rfl⟩)
    refine (k3 _).mono ?_
    rintro e w7 ⟨rfl, hb7⟩
    obtain ⟨hG7, hR7, hb7⟩ := step_keep hb7 (HG6.out) HR6.out HB6.out
    have c0 : w7.cell? ⟨g6, 0, none⟩ = some (.int .i64 (i : Int)) := hG7.cellTab 0 (by omega)
    have c1 : w7.cell? ⟨g6, 1, none⟩ = some (.int .i64 0) := hG7.cellTab 1 (by omega)
    have c2 : w7.cell? ⟨g6, 2, none⟩ = some (.int .i64 0) := hG7.cellTab 2 (by omega)
    have c3 : w7.cell? ⟨g6, 3, none⟩ = some (.int .i64 0) := hG7.cellTab 3 (by omega)
    have c4 : w7.cell? ⟨g6, 4, none⟩ = some (.int .u32 (m : Int)) := hG7.cellTab 4 (by omega)
    have f3 := hG7.free 3
    have HG7 := Lib.hid hG7
    have HR7 := Lib.hid hR7
    have HB7 := Lib.hid hb7
    clear hG7 hR7 hb7
    go_wp2_with (first
      | (go_at_call 98; with_reducible refine (p3 _).mono ?_; rintro e w2 ⟨rfl, rfl⟩)
      | (refine wp_store_tab rfl 115 _ _ rfl w.heap.size 0 rfl 5 (insA i 0 0 0 m) rfl 5 (insA 0 0 0 0 0) 115 HR7.out infoIa5 (by omega) (insA_one _ _ _ _ _) ?_
         intro w9 hG9 hg9))
    rw [tab5_all] at hG9
    exact bodyPost_ret (results_cell_row rfl _ _ w.heap.size 115 _ _ _ rfl hG9 Tryz.underlying115 rfl infoIa5) rfl ⟨by rw [HV.out]; rfl, below_fin hg9 HB7.out (Nat.le_refl _)⟩
  cases d1 <;> cases d2 <;> cases d3 <;> simp_all
end Go.Proofs.YtgpofoggfifnjaaGreatDoor
namespace Go.Proofs.YtgpofoggfifnjaaGreatDoor
open Go Go.RowKit

/-- where a bit comes from: the word itself, a register's number, the number -/
inductive Src where
  | k | a (j : Nat) | b (j : Nat) | c (j : Nat) | n (j : Nat)
deriving DecidableEq
def Src.bit (s : Src) (w a b c n i : Nat) : Bool :=
  match s with
  | .k => w.testBit i
  | .a j => a.testBit j
  | .b j => b.testBit j
  | .c j => c.testBit j
  | .n j => n.testBit j
def srcO (o : Option Nat) : Src :=
  match o with
  | none => .k
  | some j => .n j
def srcI (f : Fm) (i : Nat) : Src :=
  match f with
  | .U => srcO (bitK .U i)
  | .J => srcO (bitK .J i)
  | .I | .C | .Z => srcO (bitK .I i)
  | .B => srcO (bitK .B i)
  | .S => srcO (bitK .S i)
  | .T => bif inBt 24 20 i then .n (i - 20) else .k
  | _ => .k
def srcF (f : Fm) (i : Nat) : Src := bif r2B f && inBt 24 20 i then .c (i - 20) else bif r1B f && inBt 19 15 i then .b (i - 15) else bif rdB f && inBt 11 7 i then .a (i - 7) else srcI f i
theorem setL_src (f : Fm) (hf : f = .I ∨ f = .S ∨ f = .B ∨ f = .U ∨ f = .J) (w a b c n i : Nat) (hi : i < 32) : (setL f w n).testBit i = (srcO (bitK f i)).bit w a b c n i := by
  rw [setL_bit f hf w n i hi, srcL_is f hf i hi]
  cases bitK f i <;> rfl
theorem immF_bit (f : Fm) (w a b c n i : Nat) (hi : i < 32) : (immF f w n).testBit i = (srcI f i).bit w a b c n i := by
  cases f <;> (unfold immF srcI; dsimp only)
  case T =>
    rw [with_bitB _ _ _ _ _ (by decide) (by decide) hi]
    cases inBt 24 20 i <;> rfl
  case U => exact setL_src _ (by simp) _ _ _ _ _ _ hi
  case J => exact setL_src _ (by simp) _ _ _ _ _ _ hi
  case I => exact setL_src _ (by simp) _ _ _ _ _ _ hi
  case C => exact setL_src _ (by simp) _ _ _ _ _ _ hi
  case Z => exact setL_src _ (by simp) _ _ _ _ _ _ hi
  case B => exact setL_src _ (by simp) _ _ _ _ _ _ hi
  case S => exact setL_src _ (by simp) _ _ _ _ _ _ hi
  all_goals rfl
theorem fldL_bit (f : Fm) (w a b c n i : Nat) (hi : i < 32) : (fldL f w a b c n).testBit i = (srcF f i).bit w a b c n i := by
  unfold fldL srcF
  dsimp only
  have h0 := immF_bit f w a b c n i hi
  generalize immF f w n = v at *
  generalize srcI f i = s at *
  have e1 : (if rdB f then withN v 11 7 a else v).testBit i = (bif rdB f && inBt 11 7 i then Src.a (i - 7) else s).bit w a b c n i := by
    cases rdB f with
    | false => rw [if_neg (by decide), h0]; rfl
    | true =>
      rw [if_pos rfl, with_bitB _ _ _ _ _ (by decide) (by decide) hi, h0]
      cases inBt 11 7 i <;> rfl
  generalize (if rdB f = true then withN v 11 7 a else v) = v2 at *
  generalize (bif rdB f && inBt 11 7 i then Src.a (i - 7) else s) = s2 at *
  have e2 : (if r1B f then withN v2 19 15 b else v2).testBit i = (bif r1B f && inBt 19 15 i then Src.b (i - 15) else s2).bit w a b c n i := by
    cases r1B f with
    | false => rw [if_neg (by decide), e1]; rfl
    | true =>
      rw [if_pos rfl, with_bitB _ _ _ _ _ (by decide) (by decide) hi, e1]
      cases inBt 19 15 i <;> rfl
  generalize (if r1B f = true then withN v2 19 15 b else v2) = v3 at *
  generalize (bif r1B f && inBt 19 15 i then Src.b (i - 15) else s2) = s3 at *
  cases r2B f with
  | false => rw [if_neg (by decide), e2]; rfl
  | true =>
    rw [if_pos rfl, with_bitB _ _ _ _ _ (by decide) (by decide) hi, e2]
    cases inBt 24 20 i <;> rfl
theorem mask_src : ∀ f : Fm, f ≠ .O → f ≠ .F → ∀ i, i < 32 → (maskN f).testBit i = decide (srcF f i = .k) := by
  intro f h1 h2
  cases f <;> first | exact absurd rfl h1 | exact absurd rfl h2 | decide +kernel
theorem and_bit (x y i : Nat) : (x &&& y).testBit i = (x.testBit i && y.testBit i) := Nat.testBit_and x y i
theorem and_lt (x y : Nat) (hx : x < 4294967296) : x &&& y < 4294967296 := Nat.lt_of_le_of_lt Nat.and_le_left hx
/-- a word with its fields 0 -/
theorem clr_is (f : Fm) (h1 : f ≠ .O) (h2 : f ≠ .F) (w : Nat) (hw : w < 4294967296) : fldL f w 0 0 0 0 = w &&& maskN f := by
  refine eq_bits (fldL_lt f w 0 0 0 0 hw) (and_lt _ _ hw) fun i hi => ?_
  rw [fldL_bit f w 0 0 0 0 i hi, and_bit, mask_src f h1 h2 i hi]
  cases srcF f i <;> simp [Src.bit]
theorem mask_low : ∀ f : Fm, ∀ i, i < 7 → (maskN f).testBit i = true := by
  intro f
  cases f <;> decide +kernel
theorem low_of (f : Fm) (x W : Nat) (h : x &&& maskN f = W) : bitsN x 6 0 = bitsN W 6 0 := by
  refine Nat.eq_of_testBit_eq fun i => ?_
  rw [bitsN_bit, bitsN_bit, ← h, and_bit]
  by_cases hi : i < 7
  · rw [Nat.zero_add, mask_low f i hi, Bool.and_true]
  · have e : decide (i < 6 - 0 + 1) = false := decide_eq_false hi
    rw [e]; rfl
theorem word_lt (i : Nat) : (opP i).2 < 4294967296 := by
  by_cases h : i < 57
  · have h2 : (List.range 57).all (fun i => decide ((opP i).2 < 4294967296)) = true := by decide +kernel
    exact of_decide_eq_true (List.all_eq_true.1 h2 i (List.mem_range.2 h))
  · have e : opP i = (.O, 0) := by
      unfold opP
      rw [List.getD_eq_getElem?_getD, List.getElem?_eq_none (by rw [opsL_len]; omega)]
      rfl
    rw [e]; decide
/-- the form by which the program looks whether a word is an operation's -/
def fmE (i : Nat) : Fm := if i = 46 then .I else (opP i).1
theorem fmE_ne (i : Nat) (h1 : 1 ≤ i) (h2 : i < 57) : fmE i ≠ .O ∧ fmE i ≠ .F ∧ maskN (fmE i) = maskN (opP i).1 := by
  have h : (List.range 57).all (fun i => decide (i = 0) || (decide (fmE i ≠ .O) && decide (fmE i ≠ .F) && decide (maskN (fmE i) = maskN (opP i).1))) = true := by decide +kernel
  have h3 := List.all_eq_true.1 h i (List.mem_range.2 h2)
  rcases Bool.or_eq_true_iff.1 h3 with h4 | h4
  · have := of_decide_eq_true h4; omega
  · obtain ⟨h5, h6⟩ := Bool.and_eq_true_iff.1 h4
    obtain ⟨h7, h8⟩ := Bool.and_eq_true_iff.1 h5
    exact ⟨of_decide_eq_true h7, of_decide_eq_true h8, of_decide_eq_true h6⟩
theorem clrE (x i : Nat) (hx : x < 4294967296) (h1 : 1 ≤ i) (h2 : i < 57) : fldL (fmE i) x 0 0 0 0 = x &&& maskN (opP i).1 := by
  obtain ⟨e1, e2, e3⟩ := fmE_ne i h1 h2
  rw [clr_is _ e1 e2 x hx, e3]
theorem mtch_no (x i : Nat) (h : bitsN x 6 0 ≠ bitsN (opP i).2 6 0) : mtchB x i = false :=
  decide_eq_false fun e => h (low_of _ x _ e)
theorem mtch_is (x i : Nat) (hx : x < 4294967296) (h1 : 1 ≤ i) (h2 : i < 57) : mtchB x i = decide (fldL (fmE i) x 0 0 0 0 = (opP i).2) := by
  unfold mtchB
  rw [clrE x i hx h1 h2]
end Go.Proofs.YtgpofoggfifnjaaGreatDoor
