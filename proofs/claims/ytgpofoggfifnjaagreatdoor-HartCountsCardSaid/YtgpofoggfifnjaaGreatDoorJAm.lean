/-
Layer 14: the reference's names; sign, low, truth, floor, high.
Layer 14: the reference's high, bitwise.
Layer 14: the reference's bitwise.
Layer 14: what each call answers, as plain data; names that are others.
Layer 14: the reference's Width, Widen, Goes.
Layer 14: the reference's quotients.
Layer 14: the reference's Reckon.
Layer 14: what package alu's calls answer; the example; AluReckons, AluGoes.
Layer 14: package alu's small functions: shift, one, less, upper, signed, quotients and remainders.
-/
import Derived.Test.YtgpofoggfifnjaaGreatDoorJAh
import Derived.Test.YtgpofoggfifnjaaGreatDoorJAb
import Derived.Laws.BitsAllLaws
import Derived.Deep.QuietTactic
import Derived.Deep.DeepCutAuto
namespace Go.Proofs.YtgpofoggfifnjaaGreatDoor.Al
open Go Go.RowKit

theorem same_bel {w w' : World} (h : w = w') : Below w.heap.size w w' := by subst h; exact Below.refl _ _
def sgA (x : Nat) : Int := if 2147483648 ≤ x then (x : Int) - 4294967296 else x
def lowA (z : Int) : Nat := (z % 4294967296).toNat
theorem lowA_is (z : Int) : ((lowA z : Nat) : Int) = z % 4294967296 := by unfold lowA; omega
theorem lowA_lt (z : Int) : lowA z < 4294967296 := by unfold lowA; omega
theorem sgA_in (x : Nat) (h : x < 4294967296) : -2147483648 ≤ sgA x ∧ sgA x < 2147483648 := by unfold sgA; split <;> omega
end Go.Proofs.YtgpofoggfifnjaaGreatDoor.Al
namespace Go.Proofs.YtgpofoggfifnjaaGreatDoor.Al
open Go Go.RowKit

theorem mul_in (a b : Int) (A B : Nat) (h1 : a.natAbs ≤ A) (h2 : b.natAbs ≤ B) : (a * b).natAbs ≤ A * B := by
  rw [Int.natAbs_mul]
  exact Nat.mul_le_mul h1 h2
/-- a product's upper half -/
def hiA (a b : Int) : Nat := lowA (a * b / 4294967296)
end Go.Proofs.YtgpofoggfifnjaaGreatDoor.Al
namespace Go.Proofs.YtgpofoggfifnjaaGreatDoor.Al
open Go Go.RowKit

theorem one_new (w : World) (u : Array Value) (t : TypeId) : ∃ wa, wa = w.alloc (.cells u t) ∧ Has wa w.heap.size t u ∧ Below w.heap.size w wa ∧ wa.heap.size = w.heap.size + 1 :=
  ⟨_, rfl, Has.new _ _ _, (Below.refl _ _).alloc (Nat.le_refl _) _, Array.size_push _⟩
end Go.Proofs.YtgpofoggfifnjaaGreatDoor.Al
namespace Go.Proofs.YtgpofoggfifnjaaGreatDoor.Al
open Go Go.RowKit

def widthN (op : Int) : Int := if op = 11 ∨ op = 14 ∨ op = 16 then 1 else if op = 12 ∨ op = 15 ∨ op = 17 then 2 else if op = 13 ∨ op = 18 then 4 else 0
def widenN (op : Int) (x : Nat) : Nat :=
  if op = 11 then (if 128 ≤ x % 256 then x % 256 + 4294967040 else x % 256)
  else if op = 14 then x % 256
  else if op = 12 then (if 32768 ≤ x % 65536 then x % 65536 + 4294901760 else x % 65536)
  else if op = 15 then x % 65536
  else x
def goesN (op : Int) (a b : Nat) : Bool × Bool :=
  if op = 5 then (decide (a = b), true)
  else if op = 6 then (decide (a ≠ b), true)
  else if op = 7 then (decide (sgA a < sgA b), true)
  else if op = 8 then (decide (sgA b ≤ sgA a), true)
  else if op = 9 then (decide (a < b), true)
  else if op = 10 then (decide (b ≤ a), true)
  else (false, false)
/-- what an operation of two numbers answers -/
def reckN (op : Int) (a b : Nat) : Nat × Bool :=
  if op = 19 ∨ op = 28 then (lowA ((a : Int) + b), true)
  else if op = 29 then (lowA ((a : Int) - b), true)
  else if op = 25 ∨ op = 30 then (a % (4294967296 / 2 ^ (b % 32)) * 2 ^ (b % 32), true)
  else if op = 26 ∨ op = 34 then (a / 2 ^ (b % 32), true)
  else if op = 27 ∨ op = 35 then (lowA (sgA a / 2 ^ (b % 32)), true)
  else if op = 20 ∨ op = 31 then ((decide (sgA a < sgA b)).toNat, true)
  else if op = 21 ∨ op = 32 then ((decide (a < b)).toNat, true)
  else if op = 22 ∨ op = 33 then (a ^^^ b, true)
  else if op = 23 ∨ op = 36 then (a ||| b, true)
  else if op = 24 ∨ op = 37 then (a &&& b, true)
  else if op = 38 then (lowA ((a : Int) * b), true)
  else if op = 39 then (hiA (sgA a) (sgA b), true)
  else if op = 40 then (hiA (sgA a) b, true)
  else if op = 41 then (hiA a b, true)
  else if op = 42 then ((if b = 0 then 4294967295 else lowA ((sgA a).tdiv (sgA b))), true)
  else if op = 43 then ((if b = 0 then 4294967295 else a / b), true)
  else if op = 44 then ((if b = 0 then a else lowA ((sgA a).tmod (sgA b))), true)
  else if op = 45 then ((if b = 0 then a else a % b), true)
  else (0, false)
end Go.Proofs.YtgpofoggfifnjaaGreatDoor.Al
namespace Go.Proofs.YtgpofoggfifnjaaGreatDoor.Al
open Go Go.RowKit

end Go.Proofs.YtgpofoggfifnjaaGreatDoor.Al
namespace Go.Proofs.YtgpofoggfifnjaaGreatDoor.Al
open Go Go.RowKit

theorem sgA_ne {b : Nat} (h : b ≠ 0) (hb : b < 4294967296) : sgA b ≠ 0 := by unfold sgA; split <;> omega
theorem tdiv_in (x y : Int) : (x.tdiv y).natAbs ≤ x.natAbs := by
  rw [Int.natAbs_tdiv]
  exact Nat.div_le_self _ _
theorem tmod_in (x y : Int) : (x.tmod y).natAbs ≤ x.natAbs := by
  rw [Int.natAbs_tmod]
  exact Nat.mod_le _ _
end Go.Proofs.YtgpofoggfifnjaaGreatDoor.Al
namespace Go.Proofs.YtgpofoggfifnjaaGreatDoor.Al
open Go Go.RowKit

/-- what a shift goes by -/
structure Shf (b k P : Nat) : Prop where
  t : (b : Int).tmod 32 = (k : Int)
  m : (b : Int) % 32 = (k : Int)
  n : (k : Int).toNat = k
  p : (2 : Int) ^ k = (P : Int)
  k0 : k < 32
  P0 : 0 < P
  P1 : P ≤ 2147483648
theorem shf (b : Nat) : Shf b (b % 32) (2 ^ (b % 32)) where
  t := by rw [Int.tmod_eq_emod_of_nonneg (by omega)]; omega
  m := by omega
  n := by omega
  p := by rw [Int.natCast_pow]; rfl
  k0 := by omega
  P0 := Nat.two_pow_pos _
  P1 := Nat.le_trans (Nat.pow_le_pow_right (by decide) (show b % 32 ≤ 31 by omega)) (by decide)
theorem sll_in (a P : Nat) (hP : 0 < P) (hP1 : P ≤ 2147483648) : a % (4294967296 / P) * P < 4294967296 := by
  have hD : 0 < 4294967296 / P := Nat.div_pos (by omega) hP
  have h1 := Nat.mod_lt a hD
  have h2 := Nat.mul_le_mul_right P (show a % (4294967296 / P) + 1 ≤ 4294967296 / P from h1)
  have h3 := Nat.div_mul_le_self 4294967296 P
  rw [Nat.add_mul] at h2
  omega
end Go.Proofs.YtgpofoggfifnjaaGreatDoor.Al
namespace Go.Proofs.YtgpofoggfifnjaaGreatDoor.Al
open Go Go.RowKit

structure AluOK : Prop where
  reckon : ∀ (op : Int) (a b : Nat) (w : World), a < 4294967296 → b < 4294967296 → Calls Tryz.prog 93 #[.int .i64 op, .int .u32 (a : Int), .int .u32 (b : Int)] w fun e w' => e = .returned (.tuple #[.int .u32 (((reckN op a b).1 : Nat) : Int), .bool (reckN op a b).2]) ∧ Below w.heap.size w w'
  goes : ∀ (op : Int) (a b : Nat) (w : World), a < 4294967296 → b < 4294967296 → Calls Tryz.prog 89 #[.int .i64 op, .int .u32 (a : Int), .int .u32 (b : Int)] w fun e w' => e = .returned (.tuple #[.bool (goesN op a b).1, .bool (goesN op a b).2]) ∧ Below w.heap.size w w'
  width : ∀ (op : Int) (w : World), Calls Tryz.prog 91 #[.int .i64 op] w fun e w' => e = .returned (.int .i64 (widthN op)) ∧ Below w.heap.size w w'
  widen : ∀ (op : Int) (x : Nat) (w : World), x < 4294967296 → Calls Tryz.prog 107 #[.int .i64 op, .int .u32 (x : Int)] w fun e w' => e = .returned (.int .u32 ((widenN op x : Nat) : Int)) ∧ Below w.heap.size w w'
theorem toNat_le (b : Bool) : b.toNat ≤ 1 := by cases b <;> decide
theorem ite_lt {c : Prop} [Decidable c] {x y : Nat × Bool} (hx : x.1 < 4294967296) (hy : y.1 < 4294967296) : (if c then x else y).1 < 4294967296 := by
  by_cases h : c
  · rw [if_pos h]; exact hx
  · rw [if_neg h]; exact hy
theorem reckN_lt (op : Int) (a b : Nat) (ha : a < 4294967296) (hb : b < 4294967296) : (reckN op a b).1 < 4294967296 := by
  have h1 : ∀ z, lowA z < 4294967296 := lowA_lt
  have h2 : a % (4294967296 / 2 ^ (b % 32)) * 2 ^ (b % 32) < 4294967296 := sll_in a _ (shf b).P0 (shf b).P1
  have h3 : a / 2 ^ (b % 32) ≤ a := Nat.div_le_self _ _
  have h4 : a / b ≤ a := Nat.div_le_self _ _
  have h5 : a % b ≤ a := Nat.mod_le _ _
  have h6 := Nat.xor_lt_two_pow (n := 32) ha hb
  have h7 := Nat.or_lt_two_pow (n := 32) ha hb
  have h8 : a &&& b < 4294967296 := Nat.lt_of_le_of_lt Nat.and_le_left ha
  have h9 := fun c : Bool => toNat_le c
  have hd1 := h9 (decide (sgA a < sgA b))
  have hd2 := h9 (decide (a < b))
  have hq1 : (if b = 0 then 4294967295 else lowA ((sgA a).tdiv (sgA b))) < 4294967296 := by split; decide; exact h1 _
  have hq2 : (if b = 0 then 4294967295 else a / b) < 4294967296 := by split; decide; omega
  have hq3 : (if b = 0 then a else lowA ((sgA a).tmod (sgA b))) < 4294967296 := by split; exact ha; exact h1 _
  have hq4 : (if b = 0 then a else a % b) < 4294967296 := by split; exact ha; omega
  unfold reckN hiA
  repeat' (refine ite_lt ?_ ?_)
  · exact h1 ((a : Int) + b)
  · exact h1 ((a : Int) - b)
  · exact h2
  · exact Nat.lt_of_le_of_lt h3 ha
  · exact h1 (sgA a / 2 ^ (b % 32))
  · exact Nat.lt_of_le_of_lt hd1 (by decide)
  · exact Nat.lt_of_le_of_lt hd2 (by decide)
  · exact h6
  · exact h7
  · exact h8
  · exact h1 ((a : Int) * b)
  · exact h1 (sgA a * sgA b / 4294967296)
  · exact h1 (sgA a * (b : Int) / 4294967296)
  · exact h1 ((a : Int) * (b : Int) / 4294967296)
  · exact hq1
  · exact hq2
  · exact hq3
  · exact hq4
  · exact (by decide : 0 < 4294967296)
theorem widenN_lt (op : Int) (x : Nat) (hx : x < 4294967296) : widenN op x < 4294967296 := by
  unfold widenN
  repeat' split
  all_goals omega
end Go.Proofs.YtgpofoggfifnjaaGreatDoor.Al
namespace Go.Proofs.YtgpofoggfifnjaaGreatDoor.Al
open Go Go.RowKit

theorem w32_sg (a : Nat) (h : a < 4294967296) : wrap32 (a : Int) = sgA a := by
  unfold sgA
  simp only [wrap32]
  split <;> omega
set_option maxRecDepth 100000 in
set_option maxHeartbeats 1000000 in
theorem shift_any (b : Nat) (w : World) (hb : b < 4294967296) : Calls Tryz.prog 108 #[.int .u32 (b : Int)] w fun e w' => e = .returned (.int .u32 ((b % 32 : Nat) : Int)) ∧ w = w' := by
  have h1 : bits .and .u32 (b : Int) 31 = ((b % 32 : Nat) : Int) := by
    rw [show (31 : Int) = ((2 ^ 5 - 1 : Nat) : Int) by decide, u32_and_nat _ _ hb (by decide), Nat.and_two_pow_sub_one_eq_mod]
  obtain ⟨k, hk⟩ : ∃ k, k = b % 32 := ⟨_, rfl⟩
  rw [← hk] at h1 ⊢
  have HK := Lib.hid hk
  clear hk
  go_enter Tryz.func108, Tryz.ntmps108
  go_wp2_with fail
  go_ret
  exact ⟨rfl, rfl⟩
set_option maxRecDepth 100000 in
set_option maxHeartbeats 1000000 in
theorem kone_any (b : Bool) (w : World) : Calls Tryz.prog 109 #[.bool b] w fun e w' => e = .returned (.int .u32 ((b.toNat : Nat) : Int)) ∧ w = w' := by
  cases b
  · go_enter Tryz.func109, Tryz.ntmps109
    go_wp2_with fail
    go_ret
    exact ⟨rfl, rfl⟩
  · go_enter Tryz.func109, Tryz.ntmps109
    go_wp2_with fail
    go_ret
    exact ⟨rfl, rfl⟩
set_option maxRecDepth 100000 in
set_option maxHeartbeats 1000000 in
theorem less_any (a b : Nat) (w : World) (ha : a < 4294967296) (hb : b < 4294967296) : Calls Tryz.prog 106 #[.int .u32 (a : Int), .int .u32 (b : Int)] w fun e w' => e = .returned (.bool (decide (sgA a < sgA b))) ∧ w = w' := by
  have h1 := w32_sg a ha
  have h2 := w32_sg b hb
  generalize sgA a = x at *
  generalize sgA b = y at *
  go_enter Tryz.func106, Tryz.ntmps106
  go_wp2_with fail
  go_ret
  exact ⟨rfl, rfl⟩
set_option maxRecDepth 100000 in
set_option maxHeartbeats 1000000 in
theorem signed_any (a : Nat) (w : World) (ha : a < 4294967296) : Calls Tryz.prog 111 #[.int .u32 (a : Int)] w fun e w' => e = .returned (.int .i64 (sgA a)) ∧ w = w' := by
  have h1 := w32_sg a ha
  have h2 := sgA_in a ha
  generalize sgA a = x at *
  have h3 := h2.1
  have h4 := h2.2
  go_enter Tryz.func111, Tryz.ntmps111
  go_wp2_with fail
  go_ret
  exact ⟨rfl, rfl⟩
set_option maxRecDepth 100000 in
set_option maxHeartbeats 1000000 in
theorem upper_any (z : Int) (w : World) (_h1 : -9223372036854775808 ≤ z) (_h2 : z ≤ 9223372036854775807) : Calls Tryz.prog 110 #[.int .i64 z] w fun e w' => e = .returned (.int .u32 ((lowA (z / 4294967296) : Nat) : Int)) ∧ w = w' := by
  rw [lowA_is]
  go_enter Tryz.func110, Tryz.ntmps110
  go_wp2_with fail
  go_ret
  exact ⟨rfl, rfl⟩
set_option maxRecDepth 100000 in
set_option maxHeartbeats 1000000 in
theorem unq_any (a b : Nat) (w : World) (ha : a < 4294967296) (hb : b < 4294967296) : Calls Tryz.prog 114 #[.int .u32 (a : Int), .int .u32 (b : Int)] w fun e w' => e = .returned (.int .u32 (((if b = 0 then 4294967295 else a / b : Nat) : Nat) : Int)) ∧ w = w' := by
  by_cases h0 : b = 0
  · subst h0
    go_enter Tryz.func114, Tryz.ntmps114
    go_wp2_with fail
    go_ret
    exact ⟨rfl, rfl⟩
  · rw [if_neg h0]
    have hbI : ¬ (b : Int) = 0 := by omega
    have d0 : ((b : Int) == 0) = false := by simp only [beq_eq_false_iff_ne, ne_eq]; omega
    have hz : a / b ≤ a := Nat.div_le_self _ _
    obtain ⟨Z, hZ⟩ : ∃ Z, Z = a / b := ⟨_, rfl⟩
    have e1 : (a : Int).tdiv (b : Int) = (Z : Int) := by rw [hZ, Int.natCast_ediv, Int.tdiv_eq_ediv_of_nonneg (by omega)]
    rw [← hZ] at hz ⊢
    have hzI : (Z : Int) < 4294967296 := by omega
    clear hZ h0
    go_enter Tryz.func114, Tryz.ntmps114
    go_wp2_with fail
    go_ret
    exact ⟨rfl, rfl⟩
set_option maxRecDepth 100000 in
set_option maxHeartbeats 1000000 in
theorem unr_any (a b : Nat) (w : World) (ha : a < 4294967296) (hb : b < 4294967296) : Calls Tryz.prog 115 #[.int .u32 (a : Int), .int .u32 (b : Int)] w fun e w' => e = .returned (.int .u32 (((if b = 0 then a else a % b : Nat) : Nat) : Int)) ∧ w = w' := by
  by_cases h0 : b = 0
  · subst h0
    go_enter Tryz.func115, Tryz.ntmps115
    go_wp2_with fail
    go_ret
    exact ⟨rfl, rfl⟩
  · rw [if_neg h0]
    have hbI : ¬ (b : Int) = 0 := by omega
    have d0 : ((b : Int) == 0) = false := by simp only [beq_eq_false_iff_ne, ne_eq]; omega
    have hz : a % b ≤ a := Nat.mod_le _ _
    obtain ⟨Z, hZ⟩ : ∃ Z, Z = a % b := ⟨_, rfl⟩
    have e1 : (a : Int).tmod (b : Int) = (Z : Int) := by rw [hZ, Int.natCast_emod, Int.tmod_eq_emod_of_nonneg (by omega)]
    rw [← hZ] at hz ⊢
    have hzI : (Z : Int) < 4294967296 := by omega
    clear hZ h0
    go_enter Tryz.func115, Tryz.ntmps115
    go_wp2_with fail
    go_ret
    exact ⟨rfl, rfl⟩
set_option maxRecDepth 100000 in
set_option maxHeartbeats 1000000 in
theorem quo_any (a b : Nat) (w : World) (ha : a < 4294967296) (hb : b < 4294967296) : Calls Tryz.prog 112 #[.int .u32 (a : Int), .int .u32 (b : Int)] w fun e w' => e = .returned (.int .u32 (((if b = 0 then 4294967295 else lowA ((sgA a).tdiv (sgA b)) : Nat) : Nat) : Int)) ∧ w = w' := by
  by_cases h0 : b = 0
  · subst h0
    go_enter Tryz.func112, Tryz.ntmps112
    go_wp2_with fail
    go_ret
    exact ⟨rfl, rfl⟩
  · rw [if_neg h0]
    have hbI : ¬ (b : Int) = 0 := by omega
    have d0 : ((b : Int) == 0) = false := by simp only [beq_eq_false_iff_ne, ne_eq]; omega
    have ka := fun W => signed_any a W ha
    have kb := fun W => signed_any b W hb
    have hy0 := sgA_ne h0 hb
    have hx := sgA_in a ha
    have hq : -2147483648 ≤ (sgA a).tdiv (sgA b) ∧ (sgA a).tdiv (sgA b) ≤ 2147483648 := by have := tdiv_in (sgA a) (sgA b); omega
    have hl := lowA_is ((sgA a).tdiv (sgA b))
    have hyy := sgA_in b hb
    generalize sgA a = x at *
    generalize sgA b = y at *
    obtain ⟨q, hqe⟩ : ∃ q, x.tdiv y = q := ⟨_, rfl⟩
    rw [hqe] at hq hl ⊢
    obtain ⟨z, hz⟩ : ∃ z, lowA q = z := ⟨_, rfl⟩
    rw [hz] at hl ⊢
    have hl2 : q % 4294967296 = (z : Int) := hl.symm
    have x1 := hx.1
    have x2 := hx.2
    have y1 := hyy.1
    have y2 := hyy.2
    have q1 := hq.1
    have q2 := hq.2
    clear hl hz h0 hx hq hyy
    go_enter Tryz.func112, Tryz.ntmps112
    go_wp2_with (first
      | (go_at_call 111; with_reducible refine (ka _).mono ?_; rintro e w1 ⟨rfl, rfl⟩)
      | (go_at_call 111; with_reducible refine (kb _).mono ?_; rintro e w1 ⟨rfl, rfl⟩))
    go_ret
    exact ⟨congrArg (fun z => Ending.returned (Value.int .u32 z)) hl2, rfl⟩
set_option maxRecDepth 100000 in
set_option maxHeartbeats 1000000 in
theorem rem_any (a b : Nat) (w : World) (ha : a < 4294967296) (hb : b < 4294967296) : Calls Tryz.prog 113 #[.int .u32 (a : Int), .int .u32 (b : Int)] w fun e w' => e = .returned (.int .u32 (((if b = 0 then a else lowA ((sgA a).tmod (sgA b)) : Nat) : Nat) : Int)) ∧ w = w' := by
  by_cases h0 : b = 0
  · subst h0
    go_enter Tryz.func113, Tryz.ntmps113
    go_wp2_with fail
    go_ret
    exact ⟨rfl, rfl⟩
  · rw [if_neg h0]
    have hbI : ¬ (b : Int) = 0 := by omega
    have d0 : ((b : Int) == 0) = false := by simp only [beq_eq_false_iff_ne, ne_eq]; omega
    have ka := fun W => signed_any a W ha
    have kb := fun W => signed_any b W hb
    have hy0 := sgA_ne h0 hb
    have hx := sgA_in a ha
    have hq : -2147483648 ≤ (sgA a).tmod (sgA b) ∧ (sgA a).tmod (sgA b) ≤ 2147483648 := by have := tmod_in (sgA a) (sgA b); omega
    have hl := lowA_is ((sgA a).tmod (sgA b))
    have hyy := sgA_in b hb
    generalize sgA a = x at *
    generalize sgA b = y at *
    obtain ⟨q, hqe⟩ : ∃ q, x.tmod y = q := ⟨_, rfl⟩
    rw [hqe] at hq hl ⊢
    obtain ⟨z, hz⟩ : ∃ z, lowA q = z := ⟨_, rfl⟩
    rw [hz] at hl ⊢
    have hl2 : q % 4294967296 = (z : Int) := hl.symm
    have x1 := hx.1
    have x2 := hx.2
    have y1 := hyy.1
    have y2 := hyy.2
    have q1 := hq.1
    have q2 := hq.2
    clear hl hz h0 hx hq hyy
    go_enter Tryz.func113, Tryz.ntmps113
    go_wp2_with (first
      | (go_at_call 111; with_reducible refine (ka _).mono ?_; rintro e w1 ⟨rfl, rfl⟩)
      | (go_at_call 111; with_reducible refine (kb _).mono ?_; rintro e w1 ⟨rfl, rfl⟩))
    go_ret
    exact ⟨congrArg (fun z => Ending.returned (Value.int .u32 z)) hl2, rfl⟩
end Go.Proofs.YtgpofoggfifnjaaGreatDoor.Al
