/-
Layer 14: the reference's Width, Widen, Goes.
-/
import Derived.Test.YtdkdbphcliblcaaAaD
namespace Go.Proofs.Ytdkdbphcliblcaa.Al
open Go Go.RowKit

theorem width_no : nmX [11, 12, 13, 14, 15, 16, 17, 18] [[108, 98], [108, 98, 117], [115, 98], [108, 104], [108, 104, 117], [115, 104], [108, 119], [115, 119]] = true := by decide +kernel
set_option maxRecDepth 100000 in
set_option maxHeartbeats 4000000 in
theorem width_other (op : Int) (w : World) (hop : ∀ j ∈ ([11, 12, 13, 14, 15, 16, 17, 18] : List Nat), op ≠ (j : Int)) :
    Calls Try.prog 14 #[.int .i64 op] w fun e w' => e = .returned (.int .i64 0) ∧ Below w.heap.size w w' := by
  have kN := name_any op w
  have hno := nm_no _ _ width_no op hop
  have n0 := hno [108, 98] (by decide)
  have n1 := hno [108, 98, 117] (by decide)
  have n2 := hno [115, 98] (by decide)
  have n3 := hno [108, 104] (by decide)
  have n4 := hno [108, 104, 117] (by decide)
  have n5 := hno [115, 104] (by decide)
  have n6 := hno [108, 119] (by decide)
  have n7 := hno [115, 119] (by decide)
  generalize nmO op = s at *
  clear hno hop
  go_enter Try.func14, Try.ntmps14
  go_wp2_with (go_at_call 28; with_reducible refine kN.mono ?_; rintro e w1 ⟨rfl, hb⟩)
  go_ret
  exact ⟨rfl, hb⟩
set_option maxRecDepth 100000 in
theorem width_11 (w : World) : Calls Try.prog 14 #[.int .i64 11] w fun e w' => e = .returned (.int .i64 1) ∧ Below w.heap.size w w' := by
  have kN := name_any 11 w
  rw [show nmO 11 = ⟨#[108, 98]⟩ from rfl] at kN
  go_enter Try.func14, Try.ntmps14
  go_wp2_with (go_at_call 28; with_reducible refine kN.mono ?_; rintro e w1 ⟨rfl, hb⟩)
  go_ret
  exact ⟨rfl, hb⟩
set_option maxRecDepth 100000 in
theorem width_14 (w : World) : Calls Try.prog 14 #[.int .i64 14] w fun e w' => e = .returned (.int .i64 1) ∧ Below w.heap.size w w' := by
  have kN := name_any 14 w
  rw [show nmO 14 = ⟨#[108, 98, 117]⟩ from rfl] at kN
  go_enter Try.func14, Try.ntmps14
  go_wp2_with (go_at_call 28; with_reducible refine kN.mono ?_; rintro e w1 ⟨rfl, hb⟩)
  go_ret
  exact ⟨rfl, hb⟩
set_option maxRecDepth 100000 in
theorem width_16 (w : World) : Calls Try.prog 14 #[.int .i64 16] w fun e w' => e = .returned (.int .i64 1) ∧ Below w.heap.size w w' := by
  have kN := name_any 16 w
  rw [show nmO 16 = ⟨#[115, 98]⟩ from rfl] at kN
  go_enter Try.func14, Try.ntmps14
  go_wp2_with (go_at_call 28; with_reducible refine kN.mono ?_; rintro e w1 ⟨rfl, hb⟩)
  go_ret
  exact ⟨rfl, hb⟩
set_option maxRecDepth 100000 in
theorem width_12 (w : World) : Calls Try.prog 14 #[.int .i64 12] w fun e w' => e = .returned (.int .i64 2) ∧ Below w.heap.size w w' := by
  have kN := name_any 12 w
  rw [show nmO 12 = ⟨#[108, 104]⟩ from rfl] at kN
  go_enter Try.func14, Try.ntmps14
  go_wp2_with (go_at_call 28; with_reducible refine kN.mono ?_; rintro e w1 ⟨rfl, hb⟩)
  go_ret
  exact ⟨rfl, hb⟩
set_option maxRecDepth 100000 in
theorem width_15 (w : World) : Calls Try.prog 14 #[.int .i64 15] w fun e w' => e = .returned (.int .i64 2) ∧ Below w.heap.size w w' := by
  have kN := name_any 15 w
  rw [show nmO 15 = ⟨#[108, 104, 117]⟩ from rfl] at kN
  go_enter Try.func14, Try.ntmps14
  go_wp2_with (go_at_call 28; with_reducible refine kN.mono ?_; rintro e w1 ⟨rfl, hb⟩)
  go_ret
  exact ⟨rfl, hb⟩
set_option maxRecDepth 100000 in
theorem width_17 (w : World) : Calls Try.prog 14 #[.int .i64 17] w fun e w' => e = .returned (.int .i64 2) ∧ Below w.heap.size w w' := by
  have kN := name_any 17 w
  rw [show nmO 17 = ⟨#[115, 104]⟩ from rfl] at kN
  go_enter Try.func14, Try.ntmps14
  go_wp2_with (go_at_call 28; with_reducible refine kN.mono ?_; rintro e w1 ⟨rfl, hb⟩)
  go_ret
  exact ⟨rfl, hb⟩
set_option maxRecDepth 100000 in
theorem width_13 (w : World) : Calls Try.prog 14 #[.int .i64 13] w fun e w' => e = .returned (.int .i64 4) ∧ Below w.heap.size w w' := by
  have kN := name_any 13 w
  rw [show nmO 13 = ⟨#[108, 119]⟩ from rfl] at kN
  go_enter Try.func14, Try.ntmps14
  go_wp2_with (go_at_call 28; with_reducible refine kN.mono ?_; rintro e w1 ⟨rfl, hb⟩)
  go_ret
  exact ⟨rfl, hb⟩
set_option maxRecDepth 100000 in
theorem width_18 (w : World) : Calls Try.prog 14 #[.int .i64 18] w fun e w' => e = .returned (.int .i64 4) ∧ Below w.heap.size w w' := by
  have kN := name_any 18 w
  rw [show nmO 18 = ⟨#[115, 119]⟩ from rfl] at kN
  go_enter Try.func14, Try.ntmps14
  go_wp2_with (go_at_call 28; with_reducible refine kN.mono ?_; rintro e w1 ⟨rfl, hb⟩)
  go_ret
  exact ⟨rfl, hb⟩
theorem width_any (op : Int) (w : World) : Calls Try.prog 14 #[.int .i64 op] w fun e w' => e = .returned (.int .i64 (widthN op)) ∧ Below w.heap.size w w' := by
  by_cases h11 : op = 11
  · subst h11; exact width_11 w
  by_cases h12 : op = 12
  · subst h12; exact width_12 w
  by_cases h13 : op = 13
  · subst h13; exact width_13 w
  by_cases h14 : op = 14
  · subst h14; exact width_14 w
  by_cases h15 : op = 15
  · subst h15; exact width_15 w
  by_cases h16 : op = 16
  · subst h16; exact width_16 w
  by_cases h17 : op = 17
  · subst h17; exact width_17 w
  by_cases h18 : op = 18
  · subst h18; exact width_18 w
  have hop : ∀ j ∈ ([11, 12, 13, 14, 15, 16, 17, 18] : List Nat), op ≠ (j : Int) := by
    intro j hj
    simp at hj
    omega
  rw [show widthN op = 0 by unfold widthN; rw [if_neg (by omega), if_neg (by omega), if_neg (by omega)]]
  exact width_other op w hop
theorem widen_no : nmX [11, 12, 14, 15] [[108, 98], [108, 98, 117], [108, 104], [108, 104, 117]] = true := by decide +kernel
set_option maxRecDepth 100000 in
set_option maxHeartbeats 4000000 in
theorem widen_other (op : Int) (x : Nat) (w : World) (hop : ∀ j ∈ ([11, 12, 14, 15] : List Nat), op ≠ (j : Int)) :
    Calls Try.prog 16 #[.int .i64 op, .int .i64 (x : Int)] w fun e w' => e = .returned (.int .i64 (x : Int)) ∧ Below w.heap.size w w' := by
  have kN := name_any op w
  have hno := nm_no _ _ widen_no op hop
  have n0 := hno [108, 98] (by decide)
  have n1 := hno [108, 98, 117] (by decide)
  have n2 := hno [108, 104] (by decide)
  have n3 := hno [108, 104, 117] (by decide)
  generalize nmO op = s at *
  clear hno hop
  go_enter Try.func16, Try.ntmps16
  go_wp2_with (go_at_call 28; with_reducible refine kN.mono ?_; rintro e w1 ⟨rfl, hb⟩)
  go_ret
  exact ⟨rfl, hb⟩
set_option maxRecDepth 100000 in
set_option maxHeartbeats 2000000 in
theorem widen_11 (x : Nat) (w : World) (hx : x < 4294967296) : Calls Try.prog 16 #[.int .i64 11, .int .i64 (x : Int)] w fun e w' => e = .returned (.int .i64 ((widenN 11 x : Nat) : Int)) ∧ Below w.heap.size w w' := by
  have kN := name_any 11 w
  rw [show nmO 11 = ⟨#[108, 98]⟩ from rfl] at kN
  obtain ⟨y, hy⟩ : ∃ y, y = x % 256 := ⟨_, rfl⟩
  have h1 : (x : Int).tmod 256 = (y : Int) := by rw [Int.tmod_eq_emod_of_nonneg (by omega)]; omega
  have h2 : (x : Int) % 256 = (y : Int) := by omega
  have hyl : y < 256 := by omega
  have e : widenN 11 x = if 128 ≤ y then y + 4294967040 else y := by rw [hy]; rfl
  rw [e]
  clear e
  obtain ⟨z, hz⟩ : ∃ z, z = y + 4294967040 := ⟨_, rfl⟩
  have e1 : (y : Int) + 4294967040 = (z : Int) := by omega
  by_cases hh : 128 ≤ y
  · rw [if_pos hh, ← hz]
    have hI : 128 ≤ (y : Int) := by omega
    clear hy hz
    go_enter Try.func16, Try.ntmps16
    go_wp2_with (go_at_call 28; with_reducible refine kN.mono ?_; rintro e w1 ⟨rfl, hb⟩)
    go_ret
    first | exact ⟨rfl, hb⟩ | exact ⟨congrArg (fun z => Ending.returned (Value.int .i64 z)) e1, hb⟩
  · rw [if_neg hh]
    have hI : decide (128 ≤ (y : Int)) = false := decide_eq_false (by omega)
    have hI2 : (128 ≤ (y : Int)) = False := eq_false (by omega)
    have hI3 : decide (128 ≤ y) = false := decide_eq_false (by omega)
    clear hy hz e1
    go_enter Try.func16, Try.ntmps16
    go_wp2_with (go_at_call 28; with_reducible refine kN.mono ?_; rintro e w1 ⟨rfl, hb⟩)
    go_ret
    exact ⟨rfl, hb⟩
set_option maxRecDepth 100000 in
set_option maxHeartbeats 2000000 in
theorem widen_14 (x : Nat) (w : World) (hx : x < 4294967296) : Calls Try.prog 16 #[.int .i64 14, .int .i64 (x : Int)] w fun e w' => e = .returned (.int .i64 ((widenN 14 x : Nat) : Int)) ∧ Below w.heap.size w w' := by
  have kN := name_any 14 w
  rw [show nmO 14 = ⟨#[108, 98, 117]⟩ from rfl] at kN
  obtain ⟨y, hy⟩ : ∃ y, y = x % 256 := ⟨_, rfl⟩
  have h1 : (x : Int).tmod 256 = (y : Int) := by rw [Int.tmod_eq_emod_of_nonneg (by omega)]; omega
  have h2 : (x : Int) % 256 = (y : Int) := by omega
  have hyl : y < 256 := by omega
  rw [show widenN 14 x = y from hy.symm]
  clear hy
  go_enter Try.func16, Try.ntmps16
  go_wp2_with (go_at_call 28; with_reducible refine kN.mono ?_; rintro e w1 ⟨rfl, hb⟩)
  go_ret
  exact ⟨rfl, hb⟩
set_option maxRecDepth 100000 in
set_option maxHeartbeats 2000000 in
theorem widen_12 (x : Nat) (w : World) (hx : x < 4294967296) : Calls Try.prog 16 #[.int .i64 12, .int .i64 (x : Int)] w fun e w' => e = .returned (.int .i64 ((widenN 12 x : Nat) : Int)) ∧ Below w.heap.size w w' := by
  have kN := name_any 12 w
  rw [show nmO 12 = ⟨#[108, 104]⟩ from rfl] at kN
  obtain ⟨y, hy⟩ : ∃ y, y = x % 65536 := ⟨_, rfl⟩
  have h1 : (x : Int).tmod 65536 = (y : Int) := by rw [Int.tmod_eq_emod_of_nonneg (by omega)]; omega
  have h2 : (x : Int) % 65536 = (y : Int) := by omega
  have hyl : y < 65536 := by omega
  have e : widenN 12 x = if 32768 ≤ y then y + 4294901760 else y := by rw [hy]; rfl
  rw [e]
  clear e
  obtain ⟨z, hz⟩ : ∃ z, z = y + 4294901760 := ⟨_, rfl⟩
  have e1 : (y : Int) + 4294901760 = (z : Int) := by omega
  by_cases hh : 32768 ≤ y
  · rw [if_pos hh, ← hz]
    have hI : 32768 ≤ (y : Int) := by omega
    clear hy hz
    go_enter Try.func16, Try.ntmps16
    go_wp2_with (go_at_call 28; with_reducible refine kN.mono ?_; rintro e w1 ⟨rfl, hb⟩)
    go_ret
    first | exact ⟨rfl, hb⟩ | exact ⟨congrArg (fun z => Ending.returned (Value.int .i64 z)) e1, hb⟩
  · rw [if_neg hh]
    have hI : decide (32768 ≤ (y : Int)) = false := decide_eq_false (by omega)
    have hI2 : (32768 ≤ (y : Int)) = False := eq_false (by omega)
    have hI3 : decide (32768 ≤ y) = false := decide_eq_false (by omega)
    clear hy hz e1
    go_enter Try.func16, Try.ntmps16
    go_wp2_with (go_at_call 28; with_reducible refine kN.mono ?_; rintro e w1 ⟨rfl, hb⟩)
    go_ret
    exact ⟨rfl, hb⟩
set_option maxRecDepth 100000 in
set_option maxHeartbeats 2000000 in
theorem widen_15 (x : Nat) (w : World) (hx : x < 4294967296) : Calls Try.prog 16 #[.int .i64 15, .int .i64 (x : Int)] w fun e w' => e = .returned (.int .i64 ((widenN 15 x : Nat) : Int)) ∧ Below w.heap.size w w' := by
  have kN := name_any 15 w
  rw [show nmO 15 = ⟨#[108, 104, 117]⟩ from rfl] at kN
  obtain ⟨y, hy⟩ : ∃ y, y = x % 65536 := ⟨_, rfl⟩
  have h1 : (x : Int).tmod 65536 = (y : Int) := by rw [Int.tmod_eq_emod_of_nonneg (by omega)]; omega
  have h2 : (x : Int) % 65536 = (y : Int) := by omega
  have hyl : y < 65536 := by omega
  rw [show widenN 15 x = y from hy.symm]
  clear hy
  go_enter Try.func16, Try.ntmps16
  go_wp2_with (go_at_call 28; with_reducible refine kN.mono ?_; rintro e w1 ⟨rfl, hb⟩)
  go_ret
  exact ⟨rfl, hb⟩
theorem widen_any (op : Int) (x : Nat) (w : World) (hx : x < 4294967296) : Calls Try.prog 16 #[.int .i64 op, .int .i64 (x : Int)] w fun e w' => e = .returned (.int .i64 ((widenN op x : Nat) : Int)) ∧ Below w.heap.size w w' := by
  by_cases h11 : op = 11
  · subst h11; exact widen_11 x w hx
  by_cases h12 : op = 12
  · subst h12; exact widen_12 x w hx
  by_cases h14 : op = 14
  · subst h14; exact widen_14 x w hx
  by_cases h15 : op = 15
  · subst h15; exact widen_15 x w hx
  have hop : ∀ j ∈ ([11, 12, 14, 15] : List Nat), op ≠ (j : Int) := by
    intro j hj
    simp at hj
    omega
  rw [show widenN op x = x by unfold widenN; rw [if_neg (by omega), if_neg (by omega), if_neg (by omega), if_neg (by omega)]]
  exact widen_other op x w hop
theorem goes_no : nmX [5, 6, 7, 8, 9, 10] [[98, 101, 113], [98, 110, 101], [98, 108, 116], [98, 103, 101], [98, 108, 116, 117], [98, 103, 101, 117]] = true := by decide +kernel
set_option maxRecDepth 100000 in
set_option maxHeartbeats 4000000 in
theorem goes_other (op : Int) (a b : Nat) (w : World) (hop : ∀ j ∈ ([5, 6, 7, 8, 9, 10] : List Nat), op ≠ (j : Int)) :
    Calls Try.prog 12 #[.int .i64 op, .int .i64 (a : Int), .int .i64 (b : Int)] w fun e w' => e = .returned (.tuple #[.bool false, .bool false]) ∧ Below w.heap.size w w' := by
  have kN := name_any op w
  have hno := nm_no _ _ goes_no op hop
  have n0 := hno [98, 101, 113] (by decide)
  have n1 := hno [98, 110, 101] (by decide)
  have n2 := hno [98, 108, 116] (by decide)
  have n3 := hno [98, 103, 101] (by decide)
  have n4 := hno [98, 108, 116, 117] (by decide)
  have n5 := hno [98, 103, 101, 117] (by decide)
  generalize nmO op = s at *
  clear hno hop
  go_enter Try.func12, Try.ntmps12
  go_wp2_with (go_at_call 28; with_reducible refine kN.mono ?_; rintro e w1 ⟨rfl, hb⟩)
  go_ret2
  exact ⟨rfl, hb⟩
set_option maxRecDepth 100000 in
set_option maxHeartbeats 2000000 in
theorem goes_5 (a b : Nat) (w : World) (_ha : a < 4294967296) (_hb : b < 4294967296) : Calls Try.prog 12 #[.int .i64 5, .int .i64 (a : Int), .int .i64 (b : Int)] w fun e w' => e = .returned (.tuple #[.bool (decide (a = b)), .bool true]) ∧ Below w.heap.size w w' := by
  have kN := name_any 5 w
  rw [show nmO 5 = ⟨#[98, 101, 113]⟩ from rfl] at kN
  by_cases h : a = b
  · rw [decide_eq_true h]
    have d1 : ((a : Int) == (b : Int)) = true := by simp only [beq_iff_eq]; omega
    clear h
    go_enter Try.func12, Try.ntmps12
    go_wp2_with (go_at_call 28; with_reducible refine kN.mono ?_; rintro e w1 ⟨rfl, hbl⟩)
    go_ret2
    exact ⟨rfl, hbl⟩
  · rw [decide_eq_false h]
    have d1 : ((a : Int) == (b : Int)) = false := by simp only [beq_eq_false_iff_ne, ne_eq]; omega
    clear h
    go_enter Try.func12, Try.ntmps12
    go_wp2_with (go_at_call 28; with_reducible refine kN.mono ?_; rintro e w1 ⟨rfl, hbl⟩)
    go_ret2
    exact ⟨rfl, hbl⟩
set_option maxRecDepth 100000 in
set_option maxHeartbeats 2000000 in
theorem goes_6 (a b : Nat) (w : World) (_ha : a < 4294967296) (_hb : b < 4294967296) : Calls Try.prog 12 #[.int .i64 6, .int .i64 (a : Int), .int .i64 (b : Int)] w fun e w' => e = .returned (.tuple #[.bool (decide (a ≠ b)), .bool true]) ∧ Below w.heap.size w w' := by
  have kN := name_any 6 w
  rw [show nmO 6 = ⟨#[98, 110, 101]⟩ from rfl] at kN
  by_cases h : a ≠ b
  · rw [decide_eq_true h]
    have d1 : ((a : Int) != (b : Int)) = true := by rw [bne_iff_ne]; omega
    clear h
    go_enter Try.func12, Try.ntmps12
    go_wp2_with (go_at_call 28; with_reducible refine kN.mono ?_; rintro e w1 ⟨rfl, hbl⟩)
    go_ret2
    exact ⟨rfl, hbl⟩
  · rw [decide_eq_false h]
    have d1 : ((a : Int) != (b : Int)) = false := by rw [bne_eq_false_iff_eq]; omega
    clear h
    go_enter Try.func12, Try.ntmps12
    go_wp2_with (go_at_call 28; with_reducible refine kN.mono ?_; rintro e w1 ⟨rfl, hbl⟩)
    go_ret2
    exact ⟨rfl, hbl⟩
set_option maxRecDepth 100000 in
set_option maxHeartbeats 2000000 in
theorem goes_7 (a b : Nat) (w : World) (ha : a < 4294967296) (hb : b < 4294967296) : Calls Try.prog 12 #[.int .i64 7, .int .i64 (a : Int), .int .i64 (b : Int)] w fun e w' => e = .returned (.tuple #[.bool (decide (sgA a < sgA b)), .bool true]) ∧ Below w.heap.size w w' := by
  have kN := name_any 7 w
  rw [show nmO 7 = ⟨#[98, 108, 116]⟩ from rfl] at kN
  have ka := fun W => sign_any' a W ha
  have kb := fun W => sign_any' b W hb
  generalize sgA a = x at *
  generalize sgA b = y at *
  by_cases h : x < y
  · rw [decide_eq_true h]
    have d1 : decide (x < y) = true := by exact decide_eq_true h
    clear h
    go_enter Try.func12, Try.ntmps12
    go_wp2_with (first | (go_at_call 28; with_reducible refine kN.mono ?_; rintro e w1 ⟨rfl, hbl⟩) | (go_at_call 31; with_reducible refine (ka _).mono ?_; rintro e w2 ⟨rfl, rfl⟩) | (go_at_call 31; with_reducible refine (kb _).mono ?_; rintro e w2 ⟨rfl, rfl⟩))
    go_ret2
    exact ⟨rfl, hbl⟩
  · rw [decide_eq_false h]
    have d1 : decide (x < y) = false := by exact decide_eq_false h
    clear h
    go_enter Try.func12, Try.ntmps12
    go_wp2_with (first | (go_at_call 28; with_reducible refine kN.mono ?_; rintro e w1 ⟨rfl, hbl⟩) | (go_at_call 31; with_reducible refine (ka _).mono ?_; rintro e w2 ⟨rfl, rfl⟩) | (go_at_call 31; with_reducible refine (kb _).mono ?_; rintro e w2 ⟨rfl, rfl⟩))
    go_ret2
    exact ⟨rfl, hbl⟩
set_option maxRecDepth 100000 in
set_option maxHeartbeats 2000000 in
theorem goes_8 (a b : Nat) (w : World) (ha : a < 4294967296) (hb : b < 4294967296) : Calls Try.prog 12 #[.int .i64 8, .int .i64 (a : Int), .int .i64 (b : Int)] w fun e w' => e = .returned (.tuple #[.bool (decide (sgA b ≤ sgA a)), .bool true]) ∧ Below w.heap.size w w' := by
  have kN := name_any 8 w
  rw [show nmO 8 = ⟨#[98, 103, 101]⟩ from rfl] at kN
  have ka := fun W => sign_any' a W ha
  have kb := fun W => sign_any' b W hb
  generalize sgA a = x at *
  generalize sgA b = y at *
  by_cases h : y ≤ x
  · rw [decide_eq_true h]
    have d1 : decide (y ≤ x) = true := by exact decide_eq_true h
    clear h
    go_enter Try.func12, Try.ntmps12
    go_wp2_with (first | (go_at_call 28; with_reducible refine kN.mono ?_; rintro e w1 ⟨rfl, hbl⟩) | (go_at_call 31; with_reducible refine (ka _).mono ?_; rintro e w2 ⟨rfl, rfl⟩) | (go_at_call 31; with_reducible refine (kb _).mono ?_; rintro e w2 ⟨rfl, rfl⟩))
    go_ret2
    exact ⟨rfl, hbl⟩
  · rw [decide_eq_false h]
    have d1 : decide (y ≤ x) = false := by exact decide_eq_false h
    clear h
    go_enter Try.func12, Try.ntmps12
    go_wp2_with (first | (go_at_call 28; with_reducible refine kN.mono ?_; rintro e w1 ⟨rfl, hbl⟩) | (go_at_call 31; with_reducible refine (ka _).mono ?_; rintro e w2 ⟨rfl, rfl⟩) | (go_at_call 31; with_reducible refine (kb _).mono ?_; rintro e w2 ⟨rfl, rfl⟩))
    go_ret2
    exact ⟨rfl, hbl⟩
set_option maxRecDepth 100000 in
set_option maxHeartbeats 2000000 in
theorem goes_9 (a b : Nat) (w : World) (_ha : a < 4294967296) (_hb : b < 4294967296) : Calls Try.prog 12 #[.int .i64 9, .int .i64 (a : Int), .int .i64 (b : Int)] w fun e w' => e = .returned (.tuple #[.bool (decide (a < b)), .bool true]) ∧ Below w.heap.size w w' := by
  have kN := name_any 9 w
  rw [show nmO 9 = ⟨#[98, 108, 116, 117]⟩ from rfl] at kN
  by_cases h : a < b
  · rw [decide_eq_true h]
    have d1 : decide (a < b) = true := by exact decide_eq_true h
    clear h
    go_enter Try.func12, Try.ntmps12
    go_wp2_with (go_at_call 28; with_reducible refine kN.mono ?_; rintro e w1 ⟨rfl, hbl⟩)
    go_ret2
    exact ⟨rfl, hbl⟩
  · rw [decide_eq_false h]
    have d1 : decide (a < b) = false := by exact decide_eq_false h
    clear h
    go_enter Try.func12, Try.ntmps12
    go_wp2_with (go_at_call 28; with_reducible refine kN.mono ?_; rintro e w1 ⟨rfl, hbl⟩)
    go_ret2
    exact ⟨rfl, hbl⟩
set_option maxRecDepth 100000 in
set_option maxHeartbeats 2000000 in
theorem goes_10 (a b : Nat) (w : World) (_ha : a < 4294967296) (_hb : b < 4294967296) : Calls Try.prog 12 #[.int .i64 10, .int .i64 (a : Int), .int .i64 (b : Int)] w fun e w' => e = .returned (.tuple #[.bool (decide (b ≤ a)), .bool true]) ∧ Below w.heap.size w w' := by
  have kN := name_any 10 w
  rw [show nmO 10 = ⟨#[98, 103, 101, 117]⟩ from rfl] at kN
  by_cases h : b ≤ a
  · rw [decide_eq_true h]
    have d1 : decide (b ≤ a) = true := by exact decide_eq_true h
    clear h
    go_enter Try.func12, Try.ntmps12
    go_wp2_with (go_at_call 28; with_reducible refine kN.mono ?_; rintro e w1 ⟨rfl, hbl⟩)
    go_ret2
    exact ⟨rfl, hbl⟩
  · rw [decide_eq_false h]
    have d1 : decide (b ≤ a) = false := by exact decide_eq_false h
    clear h
    go_enter Try.func12, Try.ntmps12
    go_wp2_with (go_at_call 28; with_reducible refine kN.mono ?_; rintro e w1 ⟨rfl, hbl⟩)
    go_ret2
    exact ⟨rfl, hbl⟩
theorem goes_any (op : Int) (a b : Nat) (w : World) (ha : a < 4294967296) (hb : b < 4294967296) : Calls Try.prog 12 #[.int .i64 op, .int .i64 (a : Int), .int .i64 (b : Int)] w fun e w' => e = .returned (.tuple #[.bool (goesN op a b).1, .bool (goesN op a b).2]) ∧ Below w.heap.size w w' := by
  by_cases h5 : op = 5
  · subst h5; exact goes_5 a b w ha hb
  by_cases h6 : op = 6
  · subst h6; exact goes_6 a b w ha hb
  by_cases h7 : op = 7
  · subst h7; exact goes_7 a b w ha hb
  by_cases h8 : op = 8
  · subst h8; exact goes_8 a b w ha hb
  by_cases h9 : op = 9
  · subst h9; exact goes_9 a b w ha hb
  by_cases h10 : op = 10
  · subst h10; exact goes_10 a b w ha hb
  have hop : ∀ j ∈ ([5, 6, 7, 8, 9, 10] : List Nat), op ≠ (j : Int) := by
    intro j hj
    simp at hj
    omega
  rw [show goesN op a b = (false, false) by unfold goesN; rw [if_neg h5, if_neg h6, if_neg h7, if_neg h8, if_neg h9, if_neg h10]]
  exact goes_other op a b w hop
end Go.Proofs.Ytdkdbphcliblcaa.Al
