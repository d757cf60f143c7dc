/-
Layer 11, plain: a word's bits: parts taken and put, numbers found and put.
-/
import Derived.Test.YtegaiphhoinilaaInF
namespace Go.Proofs.Ytegaiphhoinilaa
open Go Go.RowKit

theorem bitsN_bit (w a b j : Nat) : (bitsN w a b).testBit j = (decide (j < a - b + 1) && w.testBit (b + j)) := by
  unfold bitsN
  rw [Nat.testBit_mod_two_pow, Nat.testBit_div_two_pow, Nat.add_comm j b]
/-- w with the bits a to b replaced by the lowest of x -/
def withN (w a b x : Nat) : Nat := (w &&& (4294967295 ^^^ (2 ^ (a - b + 1) - 1) * 2 ^ b)) ||| ((x * 2 ^ b % 4294967296) &&& (2 ^ (a - b + 1) - 1) * 2 ^ b)
theorem mask_bit (s b i : Nat) : ((2 ^ s - 1) * 2 ^ b).testBit i = (decide (b ≤ i) && decide (i - b < s)) := by
  rw [Nat.testBit_mul_two_pow, Nat.testBit_two_pow_sub_one]
theorem ones_bit (i : Nat) : (4294967295 : Nat).testBit i = decide (i < 32) := by
  rw [show (4294967295 : Nat) = 2 ^ 32 - 1 from rfl, Nat.testBit_two_pow_sub_one]
theorem bit_high {w : Nat} (hw : w < 4294967296) {i : Nat} (hi : 32 ≤ i) : w.testBit i = false :=
  Nat.testBit_lt_two_pow (Nat.lt_of_lt_of_le (show w < 2 ^ 32 from hw) (Nat.pow_le_pow_right (by decide) hi))
theorem with_bit (w a b x i : Nat) (hb : b ≤ a) (_ha : a ≤ 31) (hi : i < 32) : (withN w a b x).testBit i = if b ≤ i ∧ i ≤ a then x.testBit (i - b) else w.testBit i := by
  unfold withN
  rw [Nat.testBit_or, Nat.testBit_and, Nat.testBit_xor, Nat.testBit_and, mask_bit, ones_bit, show (4294967296 : Nat) = 2 ^ 32 from rfl, Nat.testBit_mod_two_pow, Nat.testBit_mul_two_pow]
  by_cases h : b ≤ i ∧ i ≤ a
  · rw [if_pos h]
    have h1 : i - b < a - b + 1 := by omega
    simp [h.1, h1, hi]
  · rw [if_neg h]
    have h1 : (decide (b ≤ i) && decide (i - b < a - b + 1)) = false := by
      by_cases hb2 : b ≤ i
      · have : ¬ i - b < a - b + 1 := by omega
        simp [this]
      · simp [hb2]
    rw [h1]
    simp [hi]
theorem with_lt (w a b x : Nat) (hw : w < 4294967296) : withN w a b x < 4294967296 := by
  unfold withN
  have h1 : x * 2 ^ b % 4294967296 < 4294967296 := Nat.mod_lt _ (by decide)
  exact Nat.or_lt_two_pow (n := 32) (Nat.lt_of_le_of_lt Nat.and_le_left hw) (Nat.lt_of_le_of_lt Nat.and_le_left h1)
theorem bit_div (x c i : Nat) : (x / 2 ^ c).testBit i = x.testBit (c + i) := by
  rw [Nat.testBit_div_two_pow, Nat.add_comm]
theorem one_bit (x k i j : Nat) : (x / 2 ^ k % 2 * 2 ^ i).testBit j = (decide (j = i) && x.testBit k) := by
  rw [Nat.testBit_mul_two_pow]
  by_cases h : j = i
  · subst h
    simp only [Nat.le_refl, decide_true, Bool.true_and, Nat.sub_self]
    rw [show x / 2 ^ k % 2 = x / 2 ^ k % 2 ^ 1 from rfl, Nat.testBit_mod_two_pow, bit_div]
    simp
  · have e : decide (j = i) = false := decide_eq_false h
    rw [e, show x / 2 ^ k % 2 = x / 2 ^ k % 2 ^ 1 from rfl, Nat.testBit_mod_two_pow]
    by_cases h2 : i ≤ j
    · have : ¬ j - i < 1 := by omega
      simp [this]
    · simp [h2]
/-- the bit that bit i of a word with a number put is -/
theorem setN_bit (f : Fm) (w x : Nat) (i : Nat) (hi : i < 32) : ∀ n, n ≤ 32 → (setN f w x n).testBit i = if i < n then (match bitK f i with | none => w.testBit i | some k => x.testBit k) else w.testBit i
  | 0, _ => by simp [setN]
  | n + 1, hn => by
    have ih := setN_bit f w x i hi n (by omega)
    cases hb : bitK f n with
    | none =>
      rw [setN_none hb, ih]
      by_cases h1 : i < n
      · rw [if_pos h1, if_pos (by omega)]
      · rw [if_neg h1]
        by_cases h2 : i = n
        · subst h2; rw [if_pos (by omega), hb]
        · rw [if_neg (by omega)]
    | some k =>
      rw [setN_some hb, Nat.testBit_or, Nat.testBit_and, Nat.testBit_xor, ones_bit, one_bit, Nat.testBit_two_pow, ih]
      by_cases h2 : i = n
      · subst h2
        rw [if_neg (by omega), if_pos (by omega), hb]
        simp [hi]
      · have e1 : decide (i = n) = false := decide_eq_false h2
        have e2 : decide (n = i) = false := decide_eq_false (fun e => h2 e.symm)
        rw [e1, e2]
        by_cases h1 : i < n
        · rw [if_pos h1, if_pos (by omega)]; simp [hi]
        · rw [if_neg h1, if_neg (by omega)]; simp [hi]
theorem set_bit32 (f : Fm) (w x : Nat) (i : Nat) (hi : i < 32) : (setN f w x 32).testBit i = (match bitK f i with | none => w.testBit i | some k => x.testBit k) := by
  rw [setN_bit f w x i hi 32 (Nat.le_refl _), if_pos hi]
theorem eq_bits {x y : Nat} (hx : x < 4294967296) (hy : y < 4294967296) (h : ∀ i, i < 32 → x.testBit i = y.testBit i) : x = y := by
  refine Nat.eq_of_testBit_eq fun i => ?_
  by_cases hi : i < 32
  · exact h i hi
  · rw [bit_high hx (by omega), bit_high hy (by omega)]
/-- the program's Set of each form -/
def setL (f : Fm) (w x : Nat) : Nat :=
  match f with
  | .I => withN w 31 20 x
  | .S => withN (withN w 31 25 (x / 2 ^ 5)) 11 7 x
  | .B => withN (withN (withN (withN w 31 31 (x / 2 ^ 12)) 7 7 (x / 2 ^ 11)) 30 25 (x / 2 ^ 5)) 11 8 (x / 2 ^ 1)
  | .U => withN w 31 12 (x / 2 ^ 12)
  | .J => withN (withN (withN (withN w 31 31 (x / 2 ^ 20)) 19 12 (x / 2 ^ 12)) 20 20 (x / 2 ^ 11)) 30 21 (x / 2 ^ 1)
  | _ => w
def inBt (a b i : Nat) : Bool := decide (b ≤ i) && decide (i ≤ a)
def srcL (f : Fm) (i : Nat) : Option Nat :=
  match f with
  | .I => bif inBt 31 20 i then some (i - 20) else none
  | .S => bif inBt 11 7 i then some (i - 7) else bif inBt 31 25 i then some (5 + (i - 25)) else none
  | .B => bif inBt 11 8 i then some (1 + (i - 8)) else bif inBt 30 25 i then some (5 + (i - 25)) else bif inBt 7 7 i then some (11 + (i - 7)) else bif inBt 31 31 i then some (12 + (i - 31)) else none
  | .U => bif inBt 31 12 i then some (12 + (i - 12)) else none
  | .J => bif inBt 30 21 i then some (1 + (i - 21)) else bif inBt 20 20 i then some (11 + (i - 20)) else bif inBt 19 12 i then some (12 + (i - 12)) else bif inBt 31 31 i then some (20 + (i - 31)) else none
  | _ => none
theorem with_bitB (w a b x i : Nat) (hb : b ≤ a) (ha : a ≤ 31) (hi : i < 32) : (withN w a b x).testBit i = bif inBt a b i then x.testBit (i - b) else w.testBit i := by
  rw [with_bit w a b x i hb ha hi]
  unfold inBt
  by_cases h : b ≤ i ∧ i ≤ a
  · rw [if_pos h]; simp [h.1, h.2]
  · rw [if_neg h]
    by_cases h1 : b ≤ i
    · have h2 : ¬ i ≤ a := fun h2 => h ⟨h1, h2⟩
      simp [h2]
    · simp [h1]
theorem srcL_is : ∀ f : Fm, f = .I ∨ f = .S ∨ f = .B ∨ f = .U ∨ f = .J → ∀ i, i < 32 → srcL f i = bitK f i := by
  intro f hf
  rcases hf with rfl | rfl | rfl | rfl | rfl <;> decide +kernel
theorem setL_bit (f : Fm) (hf : f = .I ∨ f = .S ∨ f = .B ∨ f = .U ∨ f = .J) (w x i : Nat) (hi : i < 32) : (setL f w x).testBit i = (match srcL f i with | none => w.testBit i | some k => x.testBit k) := by
  rcases hf with rfl | rfl | rfl | rfl | rfl <;> (
    unfold setL srcL
    dsimp only
    repeat rw [with_bitB _ _ _ _ _ (by decide) (by decide) hi]
    try simp only [bit_div]
    repeat (first
      | rfl
      | (generalize inBt _ _ i = q; cases q)
      ))
theorem setL_lt (f : Fm) (w x : Nat) (hw : w < 4294967296) : setL f w x < 4294967296 := by
  cases f <;> (unfold setL; dsimp only; repeat (first | exact hw | refine with_lt _ _ _ _ ?_))
theorem setL_is (f : Fm) (hf : f = .I ∨ f = .S ∨ f = .B ∨ f = .U ∨ f = .J) (w x : Nat) (hw : w < 4294967296) : setL f w x = setN f w x 32 := by
  refine eq_bits (setL_lt f w x hw) (setN_lt f w x hw 32 (Nat.le_refl _)) fun i hi => ?_
  rw [setL_bit f hf w x i hi, set_bit32 f w x i hi, srcL_is f hf i hi]
/-- a form's number in a word, as a word -/
def immU (f : Fm) (w : Nat) : Nat := (immZ f w % 4294967296).toNat
/-- a number of n bits, with its sign, as a word -/
def sgnU (x n : Nat) : Nat := if x / 2 ^ (n - 1) = 1 then 4294967296 + x - 2 ^ n else x
theorem sgnU_is (x n : Nat) (_hn : 1 ≤ n) (hn2 : n ≤ 32) (hx : x < 2 ^ n) : (sgnZ x n % 4294967296).toNat = sgnU x n := by
  unfold sgnZ sgnU
  have h2 : (2 : Nat) ^ n ≤ 2 ^ 32 := Nat.pow_le_pow_right (by decide) hn2
  have e : (2 : Int) ^ n = ((2 ^ n : Nat) : Int) := by rw [Int.natCast_pow]; rfl
  have e3 : (2 : Nat) ^ 32 = 4294967296 := by decide
  by_cases h : x / 2 ^ (n - 1) = 1
  · rw [if_pos h, if_pos h, e]
    have hp := Nat.two_pow_pos (n - 1)
    have hx0 : 0 < x := by
      rcases Nat.eq_zero_or_pos x with h0 | h0
      · rw [h0, Nat.zero_div] at h; cases h
      · exact h0
    generalize (2 : Nat) ^ n = q at *
    omega
  · rw [if_neg h, if_neg h]
    generalize (2 : Nat) ^ n = q at *
    omega
theorem sgnU_lt (x n : Nat) (hn2 : n ≤ 32) (hx : x < 2 ^ n) : sgnU x n < 4294967296 := by
  unfold sgnU
  have h2 : (2 : Nat) ^ n ≤ 2 ^ 32 := Nat.pow_le_pow_right (by decide) hn2
  have e3 : (2 : Nat) ^ 32 = 4294967296 := by decide
  split
  · generalize (2 : Nat) ^ n = q at *; omega
  · generalize (2 : Nat) ^ n = q at *; omega
theorem sgnU_bit (x n k : Nat) (hn2 : n ≤ 32) (hx : x < 2 ^ n) (hk : k < n) : (sgnU x n).testBit k = x.testBit k := by
  have e : sgnU x n % 2 ^ n = x := by
    unfold sgnU
    split
    · have e3 : (4294967296 : Nat) = 2 ^ n * 2 ^ (32 - n) := by rw [← Nat.pow_add, show n + (32 - n) = 32 by omega]
      have h32 := Nat.two_pow_pos (32 - n)
      rw [e3]
      obtain ⟨m, hm⟩ : ∃ m, 2 ^ (32 - n) = m + 1 := ⟨2 ^ (32 - n) - 1, by omega⟩
      rw [hm, Nat.mul_add, Nat.mul_one, show 2 ^ n * m + 2 ^ n + x - 2 ^ n = 2 ^ n * m + x by omega, Nat.mul_add_mod, Nat.mod_eq_of_lt hx]
    · exact Nat.mod_eq_of_lt hx
  have h := Nat.testBit_mod_two_pow (sgnU x n) n k
  rw [e] at h
  rw [h]; simp [hk]
end Go.Proofs.Ytegaiphhoinilaa
