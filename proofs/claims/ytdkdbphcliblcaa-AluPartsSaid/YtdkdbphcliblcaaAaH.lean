/-
Layer 14: what package alu's calls answer; the example; AluReckons, AluGoes.
-/
import Derived.Test.YtdkdbphcliblcaaAaG
namespace Go.Proofs.Ytdkdbphcliblcaa.Al
open Go Go.RowKit

structure AluOK : Prop where
  reckon : ∀ (op : Int) (a b : Nat) (w : World), a < 4294967296 → b < 4294967296 → Calls Try.prog 9 #[.int .i64 op, .int .u32 (a : Int), .int .u32 (b : Int)] w fun e w' => e = .returned (.tuple #[.int .u32 (((reckN op a b).1 : Nat) : Int), .bool (reckN op a b).2]) ∧ Below w.heap.size w w'
  goes : ∀ (op : Int) (a b : Nat) (w : World), a < 4294967296 → b < 4294967296 → Calls Try.prog 11 #[.int .i64 op, .int .u32 (a : Int), .int .u32 (b : Int)] w fun e w' => e = .returned (.tuple #[.bool (goesN op a b).1, .bool (goesN op a b).2]) ∧ Below w.heap.size w w'
  width : ∀ (op : Int) (w : World), Calls Try.prog 13 #[.int .i64 op] w fun e w' => e = .returned (.int .i64 (widthN op)) ∧ Below w.heap.size w w'
  widen : ∀ (op : Int) (x : Nat) (w : World), x < 4294967296 → Calls Try.prog 15 #[.int .i64 op, .int .u32 (x : Int)] w fun e w' => e = .returned (.int .u32 ((widenN op x : Nat) : Int)) ∧ Below w.heap.size w w'
theorem toNat_le (b : Bool) : b.toNat ≤ 1 := by cases b <;> decide
theorem ite_lt {c : Prop} [Decidable c] {x y : Nat × Bool} (hx : x.1 < 4294967296) (hy : y.1 < 4294967296) : (if c then x else y).1 < 4294967296 := by
  by_cases h : c
  · rw [if_pos h]; exact hx
  · rw [if_neg h]; exact hy
theorem reckN_lt (op : Int) (a b : Nat) (ha : a < 4294967296) (hb : b < 4294967296) : (reckN op a b).1 < 4294967296 := by
  have h1 : ∀ z, lowA z < 4294967296 := lowA_lt
  have h2 : a % (4294967296 / 2 ^ (b % 32)) * 2 ^ (b % 32) < 4294967296 := sll_in a _ (shf b).P0 (shf b).P1
  have h3 : a / 2 ^ (b % 32) ≤ a := Nat.div_le_self _ _
  have h4 : a / b ≤ a := Nat.div_le_self _ _
  have h5 : a % b ≤ a := Nat.mod_le _ _
  have h6 := Nat.xor_lt_two_pow (n := 32) ha hb
  have h7 := Nat.or_lt_two_pow (n := 32) ha hb
  have h8 : a &&& b < 4294967296 := Nat.lt_of_le_of_lt Nat.and_le_left ha
  have h9 := fun c : Bool => toNat_le c
  have hd1 := h9 (decide (sgA a < sgA b))
  have hd2 := h9 (decide (a < b))
  have hq1 : (if b = 0 then 4294967295 else lowA ((sgA a).tdiv (sgA b))) < 4294967296 := by split; decide; exact h1 _
  have hq2 : (if b = 0 then 4294967295 else a / b) < 4294967296 := by split; decide; omega
  have hq3 : (if b = 0 then a else lowA ((sgA a).tmod (sgA b))) < 4294967296 := by split; exact ha; exact h1 _
  have hq4 : (if b = 0 then a else a % b) < 4294967296 := by split; exact ha; omega
  unfold reckN hiA
  repeat' (refine ite_lt ?_ ?_)
  · exact h1 ((a : Int) + b)
  · exact h1 ((a : Int) - b)
  · exact h2
  · exact Nat.lt_of_le_of_lt h3 ha
  · exact h1 (sgA a / 2 ^ (b % 32))
  · exact Nat.lt_of_le_of_lt hd1 (by decide)
  · exact Nat.lt_of_le_of_lt hd2 (by decide)
  · exact h6
  · exact h7
  · exact h8
  · exact h1 ((a : Int) * b)
  · exact h1 (sgA a * sgA b / 4294967296)
  · exact h1 (sgA a * (b : Int) / 4294967296)
  · exact h1 ((a : Int) * (b : Int) / 4294967296)
  · exact hq1
  · exact hq2
  · exact hq3
  · exact hq4
  · exact (by decide : 0 < 4294967296)
theorem widenN_lt (op : Int) (x : Nat) (hx : x < 4294967296) : widenN op x < 4294967296 := by
  unfold widenN
  repeat' split
  all_goals omega
/-- what the example asks -/
def FitA : Prop := ∀ w : World, Calls Try.prog 8 #[] w fun e w' => e = .returned (.bool true) ∧ Below w.heap.size w w'
set_option maxRecDepth 100000 in
set_option maxHeartbeats 2000000 in
theorem fit14_ok (H : AluOK) : FitA := by
  intro w
  have k1 := fun W => H.reckon 42 4294967289 2 W (by decide) (by decide)
  rw [show reckN 42 4294967289 2 = (4294967293, true) by decide +kernel] at k1
  have k2 := fun W => H.goes 7 4294967295 0 W (by decide) (by decide)
  rw [show goesN 7 4294967295 0 = (true, true) by decide +kernel] at k2
  have k3 := fun W => H.width 15 W
  rw [show widthN 15 = 2 by decide] at k3
  have k4 := fun W => H.widen 11 128 W (by decide)
  rw [show widenN 11 128 = 4294967168 by decide] at k4
  simp only [Int.cast_ofNat_Int] at k1 k2 k4
  go_enter Try.func8, Try.ntmps8
  go_wp2_with (first
    | (go_at_call 9; with_reducible refine (k1 _).mono ?_; rintro e w1 ⟨rfl, hb1⟩)
    | (go_at_call 11; with_reducible refine (k2 _).mono ?_; rintro e w2 ⟨rfl, hb2⟩)
    | (go_at_call 13; with_reducible refine (k3 _).mono ?_; rintro e w3 ⟨rfl, hb3⟩)
    | (go_at_call 15; with_reducible refine (k4 _).mono ?_; rintro e w4 ⟨rfl, hb4⟩))
  go_ret
  have h2 := hb1.trans (hb2.mono hb1.size)
  have h3 := h2.trans (hb3.mono h2.size)
  exact ⟨rfl, h3.trans (hb4.mono h3.size)⟩
set_option maxRecDepth 100000 in
set_option maxHeartbeats 2000000 in
theorem reckons14_ok (H : AluOK) (op : Int) (a b : Nat) (w : World) (ha : a < 4294967296) (hb : b < 4294967296) :
    Calls Try.prog 3 #[.int .i64 op, .int .u32 (a : Int), .int .u32 (b : Int)] w fun e w' => e = .returned (.bool true) ∧ Below w.heap.size w w' := by
  have kF := fit14_ok H w
  have k1 := fun W => H.reckon op a b W ha hb
  have k2 := fun W => reckon_any op a b W ha hb
  have hz := reckN_lt op a b ha hb
  generalize reckN op a b = p at *
  obtain ⟨z, c⟩ := p
  dsimp only at k1 k2 hz
  go_enter Try.func3, Try.ntmps3
  go_wp2_with (first
    | (go_at_call 8; with_reducible refine kF.mono ?_; rintro e w0 ⟨rfl, hb0⟩)
    | (go_at_call 9; with_reducible refine (k1 _).mono ?_; rintro e w1 ⟨rfl, hb1⟩)
    | (go_at_call 10; with_reducible refine (k2 _).mono ?_; rintro e w2 ⟨rfl, hb2⟩))
  go_ret
  have h1 := hb0.trans (hb1.mono hb0.size)
  exact ⟨rfl, h1.trans (hb2.mono h1.size)⟩
set_option maxRecDepth 100000 in
set_option maxHeartbeats 4000000 in
theorem goes14_ok (H : AluOK) (op : Int) (a b : Nat) (w : World) (ha : a < 4294967296) (hb : b < 4294967296) :
    Calls Try.prog 4 #[.int .i64 op, .int .u32 (a : Int), .int .u32 (b : Int)] w fun e w' => e = .returned (.bool true) ∧ Below w.heap.size w w' := by
  have kF := fit14_ok H w
  have k1 := fun W => H.goes op a b W ha hb
  have k2 := fun W => goes_any op a b W ha hb
  generalize goesN op a b = p at *
  obtain ⟨z, c⟩ := p
  dsimp only at k1 k2
  have k3 := fun W => H.width op W
  have k4 := fun W => width_any op W
  generalize widthN op = d at *
  have k5 := fun W => H.widen op a W ha
  have k6 := fun W => widen_any op a W ha
  have hx := widenN_lt op a ha
  generalize widenN op a = x at *
  go_enter Try.func4, Try.ntmps4
  go_wp2_with (first
    | (go_at_call 8; with_reducible refine kF.mono ?_; rintro e w0 ⟨rfl, hb0⟩)
    | (go_at_call 11; with_reducible refine (k1 _).mono ?_; rintro e w1 ⟨rfl, hb1⟩)
    | (go_at_call 12; with_reducible refine (k2 _).mono ?_; rintro e w2 ⟨rfl, hb2⟩)
    | (go_at_call 13; with_reducible refine (k3 _).mono ?_; rintro e w3 ⟨rfl, hb3⟩)
    | (go_at_call 14; with_reducible refine (k4 _).mono ?_; rintro e w4 ⟨rfl, hb4⟩)
    | (go_at_call 15; with_reducible refine (k5 _).mono ?_; rintro e w5 ⟨rfl, hb5⟩)
    | (go_at_call 16; with_reducible refine (k6 _).mono ?_; rintro e w6 ⟨rfl, hb6⟩))
  go_ret
  have h1 := hb0.trans (hb1.mono hb0.size)
  have h2 := h1.trans (hb2.mono h1.size)
  have h3 := h2.trans (hb3.mono h2.size)
  have h4 := h3.trans (hb4.mono h3.size)
  have h5 := h4.trans (hb5.mono h4.size)
  exact ⟨rfl, h5.trans (hb6.mono h5.size)⟩
end Go.Proofs.Ytdkdbphcliblcaa.Al
