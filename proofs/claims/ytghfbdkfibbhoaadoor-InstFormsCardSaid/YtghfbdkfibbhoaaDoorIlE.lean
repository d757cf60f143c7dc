/-
Layer 11: InstForms.
-/
import Derived.Test.YtghfbdkfibbhoaaDoorIlA
namespace Go.Proofs.YtghfbdkfibbhoaaDoor
open Go Go.RowKit

def ltr : Nat → Fm
  | 0 => .U
  | 1 => .J
  | 2 => .I
  | 3 => .B
  | 4 => .S
  | 5 => .R
  | 6 => .T
  | 7 => .N
  | 8 => .C
  | _ => .Z
def ltrV (j : Nat) : Value := .string (fmS (ltr j))
theorem ltr_cells : tab 10 ltrV = #[.string ⟨#[85]⟩, .string ⟨#[74]⟩, .string ⟨#[73]⟩, .string ⟨#[66]⟩, .string ⟨#[83]⟩, .string ⟨#[82]⟩, .string ⟨#[84]⟩, .string ⟨#[78]⟩, .string ⟨#[67]⟩, .string ⟨#[90]⟩] := rfl
set_option maxRecDepth 100000 in
set_option maxHeartbeats 4000000 in
theorem forms11_no (z : Int) (w : World) (hT : TabW w) (h : ¬(1 ≤ z ∧ z < 57)) :
    Calls Tryd.prog 7 #[.int .i64 z] w fun e w' => e = .returned (.bool true) ∧ Below w.heap.size w w' := by
  have kf := fit11_any w hT
  have kL := fun W => list_any W
  have kF := fun W => form_no z W h
  clear hT
  go_enter Tryd.func7, Tryd.ntmps7
  go_wp2_with (go_at_call 8; with_reducible refine kf.mono ?_; rintro e w1 ⟨rfl, hb1⟩)
  refine (kL _).mono ?_
  rintro e w2 ⟨⟨g, rfl, hG, hg⟩, hb2⟩
  have hb := hb1.trans (hb2.mono hb1.size)
  have HB := Lib.hid hb
  clear hG hg hb1 hb2 hb kf kL
  by_cases h1 : z < 1
  · go_wp2_with (go_at_call 27; with_reducible refine (kF _).mono ?_; rintro e w3 ⟨rfl, rfl⟩)
    go_ret
    exact ⟨rfl, HB.out⟩
  · have h2 : 57 ≤ z := by omega
    clear h
    go_wp2_with (go_at_call 27; with_reducible refine (kF _).mono ?_; rintro e w3 ⟨rfl, rfl⟩)
    go_ret
    exact ⟨rfl, HB.out⟩
set_option maxRecDepth 100000 in
set_option maxHeartbeats 4000000 in
theorem forms11_at (k : Nat) (w : World) (hT : TabW w) (h1 : 1 ≤ k) (h2 : k < 57) :
    Calls Tryd.prog 7 #[.int .i64 (k : Int)] w fun e w' => e = .returned (.bool true) ∧ Below w.heap.size w w' := by
  have kf := fit11_any w hT
  have kL := fun W => list_any W
  have kF := fun W => form_at k W h1 h2
  have hf := opP_ne k h1 h2
  obtain ⟨hc0, _⟩ := opCells_get k h2
  rw [Nat.mul_comm 2 k] at hc0
  have hk1 : ¬ (k : Int) < 1 := by omega
  have hk2 : ¬ 57 ≤ (k : Int) := by omega
  have hk3 : (k : Int) < 57 := by omega
  generalize (opP k).1 = f at *
  have HC0 := Lib.hid hc0
  have HF := Lib.hid hf
  clear hT hf hc0
  go_enter Tryd.func7, Tryd.ntmps7
  go_wp2_with (go_at_call 8; with_reducible refine kf.mono ?_; rintro e w1 ⟨rfl, hb1⟩)
  refine (kL _).mono ?_
  rintro e w2 ⟨⟨g, rfl, hG, hg⟩, hb2⟩
  have hb := hb1.trans (hb2.mono hb1.size)
  have HB := Lib.hid hb
  clear hg hb1 hb2 hb kf kL
  go_wp2_with fail
  obtain ⟨wa, hwa, hS, hba, hsa⟩ := one_new w2 #[.string ⟨#[85]⟩, .string ⟨#[74]⟩, .string ⟨#[73]⟩, .string ⟨#[66]⟩, .string ⟨#[83]⟩, .string ⟨#[82]⟩, .string ⟨#[84]⟩, .string ⟨#[78]⟩, .string ⟨#[67]⟩, .string ⟨#[90]⟩] 9
  rw [← hwa]
  rw [← ltr_cells] at hS
  have d0 : wa.cell? ⟨g, k * 2, none⟩ = some (.string (fmS f)) := (hba.cell (p := ⟨g, k * 2, none⟩) hG.lt).trans ((hG.cell (k * 2)).trans ((List.getElem?_toArray (xs := opCells)).trans HC0.out))
  have hbb := HB.out.trans (hba.mono HB.out.size)
  have HBB := Lib.hid hbb
  clear hwa hba hsa hG hbb
  go_loopw [22] (fun ct wr => ∃ i : Nat, i ≤ fmN f ∧ ct = .int .i64 (i : Int) ∧ wa = wr) (fun ct _ => (10 - (intOf ct)).toNat)
  case atStart => exact ⟨0, Nat.zero_le _, rfl, rfl⟩
  case round =>
    obtain ⟨i, hi, rfl, rfl⟩ := hrel
    cases f
    case O => exact absurd rfl HF.out
    case U =>
      have kG : ∀ W, Calls Tryd.prog 27 #[.int .i64 (k : Int)] W fun e w' => e = .returned (.int .i64 0) ∧ W = w' := kF
      clear kF
      unfold fmS at d0
      have hi' : i ≤ 0 := hi
      clear hi
      rcases (show i = 0 by omega) with rfl
      · have cs : wa.cell? ⟨w2.heap.size, 0, none⟩ = some (.string (fmS (ltr 0))) := hS.cellTab 0 (by omega)
        unfold ltr fmS at cs
        go_wp2_with (go_at_call 27; with_reducible refine (kG _).mono ?_; rintro e w3 ⟨rfl, rfl⟩)
        go_ret
        exact ⟨rfl, HBB.out⟩
    case J =>
      have kG : ∀ W, Calls Tryd.prog 27 #[.int .i64 (k : Int)] W fun e w' => e = .returned (.int .i64 1) ∧ W = w' := kF
      clear kF
      unfold fmS at d0
      have hi' : i ≤ 1 := hi
      clear hi
      rcases (show i = 0 ∨ i = 1 by omega) with rfl | rfl
      · have cs : wa.cell? ⟨w2.heap.size, 0, none⟩ = some (.string (fmS (ltr 0))) := hS.cellTab 0 (by omega)
        unfold ltr fmS at cs
        go_wp2_with (go_at_call 27; with_reducible refine (kG _).mono ?_; rintro e w3 ⟨rfl, rfl⟩)
        go_roundw
        case rel => exact ⟨1, by decide, by go_num, trivial⟩
        case measure => simp [intOf] <;> omega
      · have cs : wa.cell? ⟨w2.heap.size, 1, none⟩ = some (.string (fmS (ltr 1))) := hS.cellTab 1 (by omega)
        unfold ltr fmS at cs
        go_wp2_with (go_at_call 27; with_reducible refine (kG _).mono ?_; rintro e w3 ⟨rfl, rfl⟩)
        go_ret
        exact ⟨rfl, HBB.out⟩
    case I =>
      have kG : ∀ W, Calls Tryd.prog 27 #[.int .i64 (k : Int)] W fun e w' => e = .returned (.int .i64 2) ∧ W = w' := kF
      clear kF
      unfold fmS at d0
      have hi' : i ≤ 2 := hi
      clear hi
      rcases (show i = 0 ∨ i = 1 ∨ i = 2 by omega) with rfl | rfl | rfl
      · have cs : wa.cell? ⟨w2.heap.size, 0, none⟩ = some (.string (fmS (ltr 0))) := hS.cellTab 0 (by omega)
        unfold ltr fmS at cs
        go_wp2_with (go_at_call 27; with_reducible refine (kG _).mono ?_; rintro e w3 ⟨rfl, rfl⟩)
        go_roundw
        case rel => exact ⟨1, by decide, by go_num, trivial⟩
        case measure => simp [intOf] <;> omega
      · have cs : wa.cell? ⟨w2.heap.size, 1, none⟩ = some (.string (fmS (ltr 1))) := hS.cellTab 1 (by omega)
        unfold ltr fmS at cs
        go_wp2_with (go_at_call 27; with_reducible refine (kG _).mono ?_; rintro e w3 ⟨rfl, rfl⟩)
        go_roundw
        case rel => exact ⟨2, by decide, by go_num, trivial⟩
        case measure => simp [intOf] <;> omega
      · have cs : wa.cell? ⟨w2.heap.size, 2, none⟩ = some (.string (fmS (ltr 2))) := hS.cellTab 2 (by omega)
        unfold ltr fmS at cs
        go_wp2_with (go_at_call 27; with_reducible refine (kG _).mono ?_; rintro e w3 ⟨rfl, rfl⟩)
        go_ret
        exact ⟨rfl, HBB.out⟩
    case B =>
      have kG : ∀ W, Calls Tryd.prog 27 #[.int .i64 (k : Int)] W fun e w' => e = .returned (.int .i64 3) ∧ W = w' := kF
      clear kF
      unfold fmS at d0
      have hi' : i ≤ 3 := hi
      clear hi
      rcases (show i = 0 ∨ i = 1 ∨ i = 2 ∨ i = 3 by omega) with rfl | rfl | rfl | rfl
      · have cs : wa.cell? ⟨w2.heap.size, 0, none⟩ = some (.string (fmS (ltr 0))) := hS.cellTab 0 (by omega)
        unfold ltr fmS at cs
        go_wp2_with (go_at_call 27; with_reducible refine (kG _).mono ?_; rintro e w3 ⟨rfl, rfl⟩)
        go_roundw
        case rel => exact ⟨1, by decide, by go_num, trivial⟩
        case measure => simp [intOf] <;> omega
      · have cs : wa.cell? ⟨w2.heap.size, 1, none⟩ = some (.string (fmS (ltr 1))) := hS.cellTab 1 (by omega)
        unfold ltr fmS at cs
        go_wp2_with (go_at_call 27; with_reducible refine (kG _).mono ?_; rintro e w3 ⟨rfl, rfl⟩)
        go_roundw
        case rel => exact ⟨2, by decide, by go_num, trivial⟩
        case measure => simp [intOf] <;> omega
      · have cs : wa.cell? ⟨w2.heap.size, 2, none⟩ = some (.string (fmS (ltr 2))) := hS.cellTab 2 (by omega)
        unfold ltr fmS at cs
        go_wp2_with (go_at_call 27; with_reducible refine (kG _).mono ?_; rintro e w3 ⟨rfl, rfl⟩)
        go_roundw
        case rel => exact ⟨3, by decide, by go_num, trivial⟩
        case measure => simp [intOf] <;> omega
      · have cs : wa.cell? ⟨w2.heap.size, 3, none⟩ = some (.string (fmS (ltr 3))) := hS.cellTab 3 (by omega)
        unfold ltr fmS at cs
        go_wp2_with (go_at_call 27; with_reducible refine (kG _).mono ?_; rintro e w3 ⟨rfl, rfl⟩)
        go_ret
        exact ⟨rfl, HBB.out⟩
    case S =>
      have kG : ∀ W, Calls Tryd.prog 27 #[.int .i64 (k : Int)] W fun e w' => e = .returned (.int .i64 4) ∧ W = w' := kF
      clear kF
      unfold fmS at d0
      have hi' : i ≤ 4 := hi
      clear hi
      rcases (show i = 0 ∨ i = 1 ∨ i = 2 ∨ i = 3 ∨ i = 4 by omega) with rfl | rfl | rfl | rfl | rfl
      · have cs : wa.cell? ⟨w2.heap.size, 0, none⟩ = some (.string (fmS (ltr 0))) := hS.cellTab 0 (by omega)
        unfold ltr fmS at cs
        go_wp2_with (go_at_call 27; with_reducible refine (kG _).mono ?_; rintro e w3 ⟨rfl, rfl⟩)
        go_roundw
        case rel => exact ⟨1, by decide, by go_num, trivial⟩
        case measure => simp [intOf] <;> omega
      · have cs : wa.cell? ⟨w2.heap.size, 1, none⟩ = some (.string (fmS (ltr 1))) := hS.cellTab 1 (by omega)
        unfold ltr fmS at cs
        go_wp2_with (go_at_call 27; with_reducible refine (kG _).mono ?_; rintro e w3 ⟨rfl, rfl⟩)
        go_roundw
        case rel => exact ⟨2, by decide, by go_num, trivial⟩
        case measure => simp [intOf] <;> omega
      · have cs : wa.cell? ⟨w2.heap.size, 2, none⟩ = some (.string (fmS (ltr 2))) := hS.cellTab 2 (by omega)
        unfold ltr fmS at cs
        go_wp2_with (go_at_call 27; with_reducible refine (kG _).mono ?_; rintro e w3 ⟨rfl, rfl⟩)
        go_roundw
        case rel => exact ⟨3, by decide, by go_num, trivial⟩
        case measure => simp [intOf] <;> omega
      · have cs : wa.cell? ⟨w2.heap.size, 3, none⟩ = some (.string (fmS (ltr 3))) := hS.cellTab 3 (by omega)
        unfold ltr fmS at cs
        go_wp2_with (go_at_call 27; with_reducible refine (kG _).mono ?_; rintro e w3 ⟨rfl, rfl⟩)
        go_roundw
        case rel => exact ⟨4, by decide, by go_num, trivial⟩
        case measure => simp [intOf] <;> omega
      · have cs : wa.cell? ⟨w2.heap.size, 4, none⟩ = some (.string (fmS (ltr 4))) := hS.cellTab 4 (by omega)
        unfold ltr fmS at cs
        go_wp2_with (go_at_call 27; with_reducible refine (kG _).mono ?_; rintro e w3 ⟨rfl, rfl⟩)
        go_ret
        exact ⟨rfl, HBB.out⟩
    case R =>
      have kG : ∀ W, Calls Tryd.prog 27 #[.int .i64 (k : Int)] W fun e w' => e = .returned (.int .i64 5) ∧ W = w' := kF
      clear kF
      unfold fmS at d0
      have hi' : i ≤ 5 := hi
      clear hi
      rcases (show i = 0 ∨ i = 1 ∨ i = 2 ∨ i = 3 ∨ i = 4 ∨ i = 5 by omega) with rfl | rfl | rfl | rfl | rfl | rfl
      · have cs : wa.cell? ⟨w2.heap.size, 0, none⟩ = some (.string (fmS (ltr 0))) := hS.cellTab 0 (by omega)
        unfold ltr fmS at cs
        go_wp2_with (go_at_call 27; with_reducible refine (kG _).mono ?_; rintro e w3 ⟨rfl, rfl⟩)
        go_roundw
        case rel => exact ⟨1, by decide, by go_num, trivial⟩
        case measure => simp [intOf] <;> omega
      · have cs : wa.cell? ⟨w2.heap.size, 1, none⟩ = some (.string (fmS (ltr 1))) := hS.cellTab 1 (by omega)
        unfold ltr fmS at cs
        go_wp2_with (go_at_call 27; with_reducible refine (kG _).mono ?_; rintro e w3 ⟨rfl, rfl⟩)
        go_roundw
        case rel => exact ⟨2, by decide, by go_num, trivial⟩
        case measure => simp [intOf] <;> omega
      · have cs : wa.cell? ⟨w2.heap.size, 2, none⟩ = some (.string (fmS (ltr 2))) := hS.cellTab 2 (by omega)
        unfold ltr fmS at cs
        go_wp2_with (go_at_call 27; with_reducible refine (kG _).mono ?_; rintro e w3 ⟨rfl, rfl⟩)
        go_roundw
        case rel => exact ⟨3, by decide, by go_num, trivial⟩
        case measure => simp [intOf] <;> omega
      · have cs : wa.cell? ⟨w2.heap.size, 3, none⟩ = some (.string (fmS (ltr 3))) := hS.cellTab 3 (by omega)
        unfold ltr fmS at cs
        go_wp2_with (go_at_call 27; with_reducible refine (kG _).mono ?_; rintro e w3 ⟨rfl, rfl⟩)
        go_roundw
        case rel => exact ⟨4, by decide, by go_num, trivial⟩
        case measure => simp [intOf] <;> omega
      · have cs : wa.cell? ⟨w2.heap.size, 4, none⟩ = some (.string (fmS (ltr 4))) := hS.cellTab 4 (by omega)
        unfold ltr fmS at cs
        go_wp2_with (go_at_call 27; with_reducible refine (kG _).mono ?_; rintro e w3 ⟨rfl, rfl⟩)
        go_roundw
        case rel => exact ⟨5, by decide, by go_num, trivial⟩
        case measure => simp [intOf] <;> omega
      · have cs : wa.cell? ⟨w2.heap.size, 5, none⟩ = some (.string (fmS (ltr 5))) := hS.cellTab 5 (by omega)
        unfold ltr fmS at cs
        go_wp2_with (go_at_call 27; with_reducible refine (kG _).mono ?_; rintro e w3 ⟨rfl, rfl⟩)
        go_ret
        exact ⟨rfl, HBB.out⟩
    case T =>
      have kG : ∀ W, Calls Tryd.prog 27 #[.int .i64 (k : Int)] W fun e w' => e = .returned (.int .i64 6) ∧ W = w' := kF
      clear kF
      unfold fmS at d0
      have hi' : i ≤ 6 := hi
      clear hi
      rcases (show i = 0 ∨ i = 1 ∨ i = 2 ∨ i = 3 ∨ i = 4 ∨ i = 5 ∨ i = 6 by omega) with rfl | rfl | rfl | rfl | rfl | rfl | rfl
      · have cs : wa.cell? ⟨w2.heap.size, 0, none⟩ = some (.string (fmS (ltr 0))) := hS.cellTab 0 (by omega)
        unfold ltr fmS at cs
        go_wp2_with (go_at_call 27; with_reducible refine (kG _).mono ?_; rintro e w3 ⟨rfl, rfl⟩)
        go_roundw
        case rel => exact ⟨1, by decide, by go_num, trivial⟩
        case measure => simp [intOf] <;> omega
      · have cs : wa.cell? ⟨w2.heap.size, 1, none⟩ = some (.string (fmS (ltr 1))) := hS.cellTab 1 (by omega)
        unfold ltr fmS at cs
        go_wp2_with (go_at_call 27; with_reducible refine (kG _).mono ?_; rintro e w3 ⟨rfl, rfl⟩)
        go_roundw
        case rel => exact ⟨2, by decide, by go_num, trivial⟩
        case measure => simp [intOf] <;> omega
      · have cs : wa.cell? ⟨w2.heap.size, 2, none⟩ = some (.string (fmS (ltr 2))) := hS.cellTab 2 (by omega)
        unfold ltr fmS at cs
        go_wp2_with (go_at_call 27; with_reducible refine (kG _).mono ?_; rintro e w3 ⟨rfl, rfl⟩)
        go_roundw
        case rel => exact ⟨3, by decide, by go_num, trivial⟩
        case measure => simp [intOf] <;> omega
      · have cs : wa.cell? ⟨w2.heap.size, 3, none⟩ = some (.string (fmS (ltr 3))) := hS.cellTab 3 (by omega)
        unfold ltr fmS at cs
        go_wp2_with (go_at_call 27; with_reducible refine (kG _).mono ?_; rintro e w3 ⟨rfl, rfl⟩)
        go_roundw
        case rel => exact ⟨4, by decide, by go_num, trivial⟩
        case measure => simp [intOf] <;> omega
      · have cs : wa.cell? ⟨w2.heap.size, 4, none⟩ = some (.string (fmS (ltr 4))) := hS.cellTab 4 (by omega)
        unfold ltr fmS at cs
        go_wp2_with (go_at_call 27; with_reducible refine (kG _).mono ?_; rintro e w3 ⟨rfl, rfl⟩)
        go_roundw
        case rel => exact ⟨5, by decide, by go_num, trivial⟩
        case measure => simp [intOf] <;> omega
      · have cs : wa.cell? ⟨w2.heap.size, 5, none⟩ = some (.string (fmS (ltr 5))) := hS.cellTab 5 (by omega)
        unfold ltr fmS at cs
        go_wp2_with (go_at_call 27; with_reducible refine (kG _).mono ?_; rintro e w3 ⟨rfl, rfl⟩)
        go_roundw
        case rel => exact ⟨6, by decide, by go_num, trivial⟩
        case measure => simp [intOf] <;> omega
      · have cs : wa.cell? ⟨w2.heap.size, 6, none⟩ = some (.string (fmS (ltr 6))) := hS.cellTab 6 (by omega)
        unfold ltr fmS at cs
        go_wp2_with (go_at_call 27; with_reducible refine (kG _).mono ?_; rintro e w3 ⟨rfl, rfl⟩)
        go_ret
        exact ⟨rfl, HBB.out⟩
    case F =>
      have kG : ∀ W, Calls Tryd.prog 27 #[.int .i64 (k : Int)] W fun e w' => e = .returned (.int .i64 7) ∧ W = w' := kF
      clear kF
      unfold fmS at d0
      have hi' : i ≤ 7 := hi
      clear hi
      rcases (show i = 0 ∨ i = 1 ∨ i = 2 ∨ i = 3 ∨ i = 4 ∨ i = 5 ∨ i = 6 ∨ i = 7 by omega) with rfl | rfl | rfl | rfl | rfl | rfl | rfl | rfl
      · have cs : wa.cell? ⟨w2.heap.size, 0, none⟩ = some (.string (fmS (ltr 0))) := hS.cellTab 0 (by omega)
        unfold ltr fmS at cs
        go_wp2_with (go_at_call 27; with_reducible refine (kG _).mono ?_; rintro e w3 ⟨rfl, rfl⟩)
        go_roundw
        case rel => exact ⟨1, by decide, by go_num, trivial⟩
        case measure => simp [intOf] <;> omega
      · have cs : wa.cell? ⟨w2.heap.size, 1, none⟩ = some (.string (fmS (ltr 1))) := hS.cellTab 1 (by omega)
        unfold ltr fmS at cs
        go_wp2_with (go_at_call 27; with_reducible refine (kG _).mono ?_; rintro e w3 ⟨rfl, rfl⟩)
        go_roundw
        case rel => exact ⟨2, by decide, by go_num, trivial⟩
        case measure => simp [intOf] <;> omega
      · have cs : wa.cell? ⟨w2.heap.size, 2, none⟩ = some (.string (fmS (ltr 2))) := hS.cellTab 2 (by omega)
        unfold ltr fmS at cs
        go_wp2_with (go_at_call 27; with_reducible refine (kG _).mono ?_; rintro e w3 ⟨rfl, rfl⟩)
        go_roundw
        case rel => exact ⟨3, by decide, by go_num, trivial⟩
        case measure => simp [intOf] <;> omega
      · have cs : wa.cell? ⟨w2.heap.size, 3, none⟩ = some (.string (fmS (ltr 3))) := hS.cellTab 3 (by omega)
        unfold ltr fmS at cs
        go_wp2_with (go_at_call 27; with_reducible refine (kG _).mono ?_; rintro e w3 ⟨rfl, rfl⟩)
        go_roundw
        case rel => exact ⟨4, by decide, by go_num, trivial⟩
        case measure => simp [intOf] <;> omega
      · have cs : wa.cell? ⟨w2.heap.size, 4, none⟩ = some (.string (fmS (ltr 4))) := hS.cellTab 4 (by omega)
        unfold ltr fmS at cs
        go_wp2_with (go_at_call 27; with_reducible refine (kG _).mono ?_; rintro e w3 ⟨rfl, rfl⟩)
        go_roundw
        case rel => exact ⟨5, by decide, by go_num, trivial⟩
        case measure => simp [intOf] <;> omega
      · have cs : wa.cell? ⟨w2.heap.size, 5, none⟩ = some (.string (fmS (ltr 5))) := hS.cellTab 5 (by omega)
        unfold ltr fmS at cs
        go_wp2_with (go_at_call 27; with_reducible refine (kG _).mono ?_; rintro e w3 ⟨rfl, rfl⟩)
        go_roundw
        case rel => exact ⟨6, by decide, by go_num, trivial⟩
        case measure => simp [intOf] <;> omega
      · have cs : wa.cell? ⟨w2.heap.size, 6, none⟩ = some (.string (fmS (ltr 6))) := hS.cellTab 6 (by omega)
        unfold ltr fmS at cs
        go_wp2_with (go_at_call 27; with_reducible refine (kG _).mono ?_; rintro e w3 ⟨rfl, rfl⟩)
        go_roundw
        case rel => exact ⟨7, by decide, by go_num, trivial⟩
        case measure => simp [intOf] <;> omega
      · have cs : wa.cell? ⟨w2.heap.size, 7, none⟩ = some (.string (fmS (ltr 7))) := hS.cellTab 7 (by omega)
        unfold ltr fmS at cs
        go_wp2_with (go_at_call 27; with_reducible refine (kG _).mono ?_; rintro e w3 ⟨rfl, rfl⟩)
        go_ret
        exact ⟨rfl, HBB.out⟩
    case N =>
      have kG : ∀ W, Calls Tryd.prog 27 #[.int .i64 (k : Int)] W fun e w' => e = .returned (.int .i64 7) ∧ W = w' := kF
      clear kF
      unfold fmS at d0
      have hi' : i ≤ 7 := hi
      clear hi
      rcases (show i = 0 ∨ i = 1 ∨ i = 2 ∨ i = 3 ∨ i = 4 ∨ i = 5 ∨ i = 6 ∨ i = 7 by omega) with rfl | rfl | rfl | rfl | rfl | rfl | rfl | rfl
      · have cs : wa.cell? ⟨w2.heap.size, 0, none⟩ = some (.string (fmS (ltr 0))) := hS.cellTab 0 (by omega)
        unfold ltr fmS at cs
        go_wp2_with (go_at_call 27; with_reducible refine (kG _).mono ?_; rintro e w3 ⟨rfl, rfl⟩)
        go_roundw
        case rel => exact ⟨1, by decide, by go_num, trivial⟩
        case measure => simp [intOf] <;> omega
      · have cs : wa.cell? ⟨w2.heap.size, 1, none⟩ = some (.string (fmS (ltr 1))) := hS.cellTab 1 (by omega)
        unfold ltr fmS at cs
        go_wp2_with (go_at_call 27; with_reducible refine (kG _).mono ?_; rintro e w3 ⟨rfl, rfl⟩)
        go_roundw
        case rel => exact ⟨2, by decide, by go_num, trivial⟩
        case measure => simp [intOf] <;> omega
      · have cs : wa.cell? ⟨w2.heap.size, 2, none⟩ = some (.string (fmS (ltr 2))) := hS.cellTab 2 (by omega)
        unfold ltr fmS at cs
        go_wp2_with (go_at_call 27; with_reducible refine (kG _).mono ?_; rintro e w3 ⟨rfl, rfl⟩)
        go_roundw
        case rel => exact ⟨3, by decide, by go_num, trivial⟩
        case measure => simp [intOf] <;> omega
      · have cs : wa.cell? ⟨w2.heap.size, 3, none⟩ = some (.string (fmS (ltr 3))) := hS.cellTab 3 (by omega)
        unfold ltr fmS at cs
        go_wp2_with (go_at_call 27; with_reducible refine (kG _).mono ?_; rintro e w3 ⟨rfl, rfl⟩)
        go_roundw
        case rel => exact ⟨4, by decide, by go_num, trivial⟩
        case measure => simp [intOf] <;> omega
      · have cs : wa.cell? ⟨w2.heap.size, 4, none⟩ = some (.string (fmS (ltr 4))) := hS.cellTab 4 (by omega)
        unfold ltr fmS at cs
        go_wp2_with (go_at_call 27; with_reducible refine (kG _).mono ?_; rintro e w3 ⟨rfl, rfl⟩)
        go_roundw
        case rel => exact ⟨5, by decide, by go_num, trivial⟩
        case measure => simp [intOf] <;> omega
      · have cs : wa.cell? ⟨w2.heap.size, 5, none⟩ = some (.string (fmS (ltr 5))) := hS.cellTab 5 (by omega)
        unfold ltr fmS at cs
        go_wp2_with (go_at_call 27; with_reducible refine (kG _).mono ?_; rintro e w3 ⟨rfl, rfl⟩)
        go_roundw
        case rel => exact ⟨6, by decide, by go_num, trivial⟩
        case measure => simp [intOf] <;> omega
      · have cs : wa.cell? ⟨w2.heap.size, 6, none⟩ = some (.string (fmS (ltr 6))) := hS.cellTab 6 (by omega)
        unfold ltr fmS at cs
        go_wp2_with (go_at_call 27; with_reducible refine (kG _).mono ?_; rintro e w3 ⟨rfl, rfl⟩)
        go_roundw
        case rel => exact ⟨7, by decide, by go_num, trivial⟩
        case measure => simp [intOf] <;> omega
      · have cs : wa.cell? ⟨w2.heap.size, 7, none⟩ = some (.string (fmS (ltr 7))) := hS.cellTab 7 (by omega)
        unfold ltr fmS at cs
        go_wp2_with (go_at_call 27; with_reducible refine (kG _).mono ?_; rintro e w3 ⟨rfl, rfl⟩)
        go_ret
        exact ⟨rfl, HBB.out⟩
    case C =>
      have kG : ∀ W, Calls Tryd.prog 27 #[.int .i64 (k : Int)] W fun e w' => e = .returned (.int .i64 8) ∧ W = w' := kF
      clear kF
      unfold fmS at d0
      have hi' : i ≤ 8 := hi
      clear hi
      rcases (show i = 0 ∨ i = 1 ∨ i = 2 ∨ i = 3 ∨ i = 4 ∨ i = 5 ∨ i = 6 ∨ i = 7 ∨ i = 8 by omega) with rfl | rfl | rfl | rfl | rfl | rfl | rfl | rfl | rfl
      · have cs : wa.cell? ⟨w2.heap.size, 0, none⟩ = some (.string (fmS (ltr 0))) := hS.cellTab 0 (by omega)
        unfold ltr fmS at cs
        go_wp2_with (go_at_call 27; with_reducible refine (kG _).mono ?_; rintro e w3 ⟨rfl, rfl⟩)
        go_roundw
        case rel => exact ⟨1, by decide, by go_num, trivial⟩
        case measure => simp [intOf] <;> omega
      · have cs : wa.cell? ⟨w2.heap.size, 1, none⟩ = some (.string (fmS (ltr 1))) := hS.cellTab 1 (by omega)
        unfold ltr fmS at cs
        go_wp2_with (go_at_call 27; with_reducible refine (kG _).mono ?_; rintro e w3 ⟨rfl, rfl⟩)
        go_roundw
        case rel => exact ⟨2, by decide, by go_num, trivial⟩
        case measure => simp [intOf] <;> omega
      · have cs : wa.cell? ⟨w2.heap.size, 2, none⟩ = some (.string (fmS (ltr 2))) := hS.cellTab 2 (by omega)
        unfold ltr fmS at cs
        go_wp2_with (go_at_call 27; with_reducible refine (kG _).mono ?_; rintro e w3 ⟨rfl, rfl⟩)
        go_roundw
        case rel => exact ⟨3, by decide, by go_num, trivial⟩
        case measure => simp [intOf] <;> omega
      · have cs : wa.cell? ⟨w2.heap.size, 3, none⟩ = some (.string (fmS (ltr 3))) := hS.cellTab 3 (by omega)
        unfold ltr fmS at cs
        go_wp2_with (go_at_call 27; with_reducible refine (kG _).mono ?_; rintro e w3 ⟨rfl, rfl⟩)
        go_roundw
        case rel => exact ⟨4, by decide, by go_num, trivial⟩
        case measure => simp [intOf] <;> omega
      · have cs : wa.cell? ⟨w2.heap.size, 4, none⟩ = some (.string (fmS (ltr 4))) := hS.cellTab 4 (by omega)
        unfold ltr fmS at cs
        go_wp2_with (go_at_call 27; with_reducible refine (kG _).mono ?_; rintro e w3 ⟨rfl, rfl⟩)
        go_roundw
        case rel => exact ⟨5, by decide, by go_num, trivial⟩
        case measure => simp [intOf] <;> omega
      · have cs : wa.cell? ⟨w2.heap.size, 5, none⟩ = some (.string (fmS (ltr 5))) := hS.cellTab 5 (by omega)
        unfold ltr fmS at cs
        go_wp2_with (go_at_call 27; with_reducible refine (kG _).mono ?_; rintro e w3 ⟨rfl, rfl⟩)
        go_roundw
        case rel => exact ⟨6, by decide, by go_num, trivial⟩
        case measure => simp [intOf] <;> omega
      · have cs : wa.cell? ⟨w2.heap.size, 6, none⟩ = some (.string (fmS (ltr 6))) := hS.cellTab 6 (by omega)
        unfold ltr fmS at cs
        go_wp2_with (go_at_call 27; with_reducible refine (kG _).mono ?_; rintro e w3 ⟨rfl, rfl⟩)
        go_roundw
        case rel => exact ⟨7, by decide, by go_num, trivial⟩
        case measure => simp [intOf] <;> omega
      · have cs : wa.cell? ⟨w2.heap.size, 7, none⟩ = some (.string (fmS (ltr 7))) := hS.cellTab 7 (by omega)
        unfold ltr fmS at cs
        go_wp2_with (go_at_call 27; with_reducible refine (kG _).mono ?_; rintro e w3 ⟨rfl, rfl⟩)
        go_roundw
        case rel => exact ⟨8, by decide, by go_num, trivial⟩
        case measure => simp [intOf] <;> omega
      · have cs : wa.cell? ⟨w2.heap.size, 8, none⟩ = some (.string (fmS (ltr 8))) := hS.cellTab 8 (by omega)
        unfold ltr fmS at cs
        go_wp2_with (go_at_call 27; with_reducible refine (kG _).mono ?_; rintro e w3 ⟨rfl, rfl⟩)
        go_ret
        exact ⟨rfl, HBB.out⟩
    case Z =>
      have kG : ∀ W, Calls Tryd.prog 27 #[.int .i64 (k : Int)] W fun e w' => e = .returned (.int .i64 9) ∧ W = w' := kF
      clear kF
      unfold fmS at d0
      have hi' : i ≤ 9 := hi
      clear hi
      rcases (show i = 0 ∨ i = 1 ∨ i = 2 ∨ i = 3 ∨ i = 4 ∨ i = 5 ∨ i = 6 ∨ i = 7 ∨ i = 8 ∨ i = 9 by omega) with rfl | rfl | rfl | rfl | rfl | rfl | rfl | rfl | rfl | rfl
      · have cs : wa.cell? ⟨w2.heap.size, 0, none⟩ = some (.string (fmS (ltr 0))) := hS.cellTab 0 (by omega)
        unfold ltr fmS at cs
        go_wp2_with (go_at_call 27; with_reducible refine (kG _).mono ?_; rintro e w3 ⟨rfl, rfl⟩)
        go_roundw
        case rel => exact ⟨1, by decide, by go_num, trivial⟩
        case measure => simp [intOf] <;> omega
      · have cs : wa.cell? ⟨w2.heap.size, 1, none⟩ = some (.string (fmS (ltr 1))) := hS.cellTab 1 (by omega)
        unfold ltr fmS at cs
        go_wp2_with (go_at_call 27; with_reducible refine (kG _).mono ?_; rintro e w3 ⟨rfl, rfl⟩)
        go_roundw
        case rel => exact ⟨2, by decide, by go_num, trivial⟩
        case measure => simp [intOf] <;> omega
      · have cs : wa.cell? ⟨w2.heap.size, 2, none⟩ = some (.string (fmS (ltr 2))) := hS.cellTab 2 (by omega)
        unfold ltr fmS at cs
        go_wp2_with (go_at_call 27; with_reducible refine (kG _).mono ?_; rintro e w3 ⟨rfl, rfl⟩)
        go_roundw
        case rel => exact ⟨3, by decide, by go_num, trivial⟩
        case measure => simp [intOf] <;> omega
      · have cs : wa.cell? ⟨w2.heap.size, 3, none⟩ = some (.string (fmS (ltr 3))) := hS.cellTab 3 (by omega)
        unfold ltr fmS at cs
        go_wp2_with (go_at_call 27; with_reducible refine (kG _).mono ?_; rintro e w3 ⟨rfl, rfl⟩)
        go_roundw
        case rel => exact ⟨4, by decide, by go_num, trivial⟩
        case measure => simp [intOf] <;> omega
      · have cs : wa.cell? ⟨w2.heap.size, 4, none⟩ = some (.string (fmS (ltr 4))) := hS.cellTab 4 (by omega)
        unfold ltr fmS at cs
        go_wp2_with (go_at_call 27; with_reducible refine (kG _).mono ?_; rintro e w3 ⟨rfl, rfl⟩)
        go_roundw
        case rel => exact ⟨5, by decide, by go_num, trivial⟩
        case measure => simp [intOf] <;> omega
      · have cs : wa.cell? ⟨w2.heap.size, 5, none⟩ = some (.string (fmS (ltr 5))) := hS.cellTab 5 (by omega)
        unfold ltr fmS at cs
        go_wp2_with (go_at_call 27; with_reducible refine (kG _).mono ?_; rintro e w3 ⟨rfl, rfl⟩)
        go_roundw
        case rel => exact ⟨6, by decide, by go_num, trivial⟩
        case measure => simp [intOf] <;> omega
      · have cs : wa.cell? ⟨w2.heap.size, 6, none⟩ = some (.string (fmS (ltr 6))) := hS.cellTab 6 (by omega)
        unfold ltr fmS at cs
        go_wp2_with (go_at_call 27; with_reducible refine (kG _).mono ?_; rintro e w3 ⟨rfl, rfl⟩)
        go_roundw
        case rel => exact ⟨7, by decide, by go_num, trivial⟩
        case measure => simp [intOf] <;> omega
      · have cs : wa.cell? ⟨w2.heap.size, 7, none⟩ = some (.string (fmS (ltr 7))) := hS.cellTab 7 (by omega)
        unfold ltr fmS at cs
        go_wp2_with (go_at_call 27; with_reducible refine (kG _).mono ?_; rintro e w3 ⟨rfl, rfl⟩)
        go_roundw
        case rel => exact ⟨8, by decide, by go_num, trivial⟩
        case measure => simp [intOf] <;> omega
      · have cs : wa.cell? ⟨w2.heap.size, 8, none⟩ = some (.string (fmS (ltr 8))) := hS.cellTab 8 (by omega)
        unfold ltr fmS at cs
        go_wp2_with (go_at_call 27; with_reducible refine (kG _).mono ?_; rintro e w3 ⟨rfl, rfl⟩)
        go_roundw
        case rel => exact ⟨9, by decide, by go_num, trivial⟩
        case measure => simp [intOf] <;> omega
      · have cs : wa.cell? ⟨w2.heap.size, 9, none⟩ = some (.string (fmS (ltr 9))) := hS.cellTab 9 (by omega)
        unfold ltr fmS at cs
        go_wp2_with (go_at_call 27; with_reducible refine (kG _).mono ?_; rintro e w3 ⟨rfl, rfl⟩)
        go_ret
        exact ⟨rfl, HBB.out⟩
theorem forms11_ok (z : Int) (w : World) (hT : TabW w) :
    Calls Tryd.prog 7 #[.int .i64 z] w fun e w' => e = .returned (.bool true) ∧ Below w.heap.size w w' := by
  by_cases h : 1 ≤ z ∧ z < 57
  · obtain ⟨k, rfl⟩ : ∃ k : Nat, z = (k : Int) := ⟨z.toNat, by omega⟩
    exact forms11_at k w hT (by omega) (by omega)
  · exact forms11_no z w hT h
end Go.Proofs.YtghfbdkfibbhoaaDoor
