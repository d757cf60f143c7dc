/-
Layer 11: the reference's Set, in bits.
-/
import Derived.Test.YtegaiphhoinilaaJIn
import Derived.KernelRfl
namespace Go.Proofs.Ytegaiphhoinilaa
open Go Go.RowKit

/-- the lowest bit of a number that bit i of a word is; none: it is of no number -/
def lowK (z : Int) : Nat → Option Nat
  | 0 => none
  | k + 1 => match lowK z k with
    | some j => some j
    | none => if z / 2 ^ k % 2 = 1 then some k else none
/-- the number's bit that bit i of the word is -/
def bitK (f : Fm) (i : Nat) : Option Nat := lowK (immZ f (2 ^ i)) 32
/-- the table of each form, by the kernel -/
def tabK : Fm → List (Option Nat)
  | f => (List.range 32).map (bitK f)
theorem tabK_I : tabK .I = (List.replicate 20 none) ++ (List.range 12).map some := by decide +kernel
theorem tabK_S : tabK .S = List.replicate 7 none ++ (List.range 5).map some ++ List.replicate 13 none ++ (List.range 7).map (fun j => some (j + 5)) := by decide +kernel
theorem tabK_B : tabK .B = List.replicate 7 none ++ [some 11] ++ (List.range 4).map (fun j => some (j + 1)) ++ List.replicate 13 none ++ (List.range 6).map (fun j => some (j + 5)) ++ [some 12] := by decide +kernel
theorem tabK_U : tabK .U = List.replicate 12 none ++ (List.range 20).map (fun j => some (j + 12)) := by decide +kernel
theorem tabK_J : tabK .J = List.replicate 12 none ++ (List.range 8).map (fun j => some (j + 12)) ++ [some 11] ++ (List.range 10).map (fun j => some (j + 1)) ++ [some 20] := by decide +kernel
theorem lowK_none {z : Int} : ∀ {n : Nat}, lowK z n = none → ∀ j, j < n → ¬ (z / 2 ^ j % 2 = 1)
| 0, _, j, hj => absurd hj (Nat.not_lt_zero _)
| n + 1, h, j, hj => by
  unfold lowK at h
  cases hl : lowK z n with
  | some k => rw [hl] at h; cases h
  | none =>
    rw [hl] at h
    dsimp only at h
    by_cases hb : z / 2 ^ n % 2 = 1
    · rw [if_pos hb] at h; cases h
    · by_cases e : j = n
      · rw [e]; exact hb
      · exact lowK_none hl j (by omega)
theorem lowK_spec {z : Int} : ∀ {n k : Nat}, lowK z n = some k → k < n ∧ z / 2 ^ k % 2 = 1 ∧ ∀ j, j < k → z / 2 ^ j % 2 = 0
  | 0, k, h => by cases h
  | n + 1, k, h => by
    unfold lowK at h
    cases hl : lowK z n with
    | some j =>
      rw [hl] at h
      injection h with h
      subst h
      obtain ⟨h1, h2⟩ := lowK_spec hl
      exact ⟨by omega, h2⟩
    | none =>
      rw [hl] at h
      dsimp only at h
      by_cases hb : z / 2 ^ n % 2 = 1
      · rw [if_pos hb] at h
        injection h with h
        subst h
        refine ⟨by omega, hb, fun j hj => ?_⟩
        have h0 := lowK_none hl j hj
        omega
      · rw [if_neg hb] at h; cases h
theorem bitK_zero : ∀ f : Fm, ∀ i, i < 32 → (immZ f (2 ^ i) = 0 ↔ bitK f i = none) := by
  intro f
  cases f <;> decide +kernel
theorem immZ_le : ∀ f : Fm, ∀ i, i < 32 → -4294967296 ≤ immZ f (2 ^ i) ∧ immZ f (2 ^ i) ≤ 4294967296 := by
  intro f i hi
  have hall : ∀ f : Fm, (List.range 32).all (fun i => decide (-4294967296 ≤ immZ f (2 ^ i)) && decide (immZ f (2 ^ i) ≤ 4294967296)) = true := by
    intro f
    cases f <;> kernel_rfl
  have h := List.all_eq_true.1 (hall f) i (List.mem_range.2 hi)
  obtain ⟨h1, h2⟩ := Bool.and_eq_true_iff.1 h
  exact ⟨of_decide_eq_true h1, of_decide_eq_true h2⟩
/-- one bit of the number put into the word -/
def setStep (o : Option Nat) (W x i : Nat) : Nat :=
  match o with
  | none => W
  | some k => (W &&& (4294967295 ^^^ 2 ^ i)) ||| (x / 2 ^ k % 2 * 2 ^ i)
/-- the word with the number's bits -/
def setN (f : Fm) (w x : Nat) : Nat → Nat
  | 0 => w
  | i + 1 => setStep (bitK f i) (setN f w x i) x i
theorem setN_succ (f : Fm) (w x i : Nat) : setN f w x (i + 1) = setStep (bitK f i) (setN f w x i) x i := rfl
theorem setN_none {f : Fm} {w x i : Nat} (h : bitK f i = none) : setN f w x (i + 1) = setN f w x i := by
  rw [setN_succ, h]; rfl
theorem setN_some {f : Fm} {w x i k : Nat} (h : bitK f i = some k) : setN f w x (i + 1) = (setN f w x i &&& (4294967295 ^^^ 2 ^ i)) ||| (x / 2 ^ k % 2 * 2 ^ i) := by
  rw [setN_succ, h]; rfl
theorem bit_lt (x k i : Nat) (hi : i < 32) : x / 2 ^ k % 2 * 2 ^ i < 2 ^ 32 := by
  have hp : (2 : Nat) ^ i ≤ 2 ^ 31 := Nat.pow_le_pow_right (by decide) (by omega)
  have hm : x / 2 ^ k % 2 ≤ 1 := by omega
  have h2 := Nat.mul_le_mul hm hp
  exact Nat.lt_of_le_of_lt h2 (by decide)
theorem setN_lt2 (f : Fm) (w x : Nat) (hw : w < 2 ^ 32) : ∀ i, i ≤ 32 → setN f w x i < 2 ^ 32
  | 0, _ => hw
  | i + 1, h => by
    have ih := setN_lt2 f w x hw i (by omega)
    cases hb : bitK f i with
    | none => rw [setN_none hb]; exact ih
    | some k =>
      rw [setN_some hb]
      exact Nat.or_lt_two_pow (Nat.lt_of_le_of_lt Nat.and_le_left ih) (bit_lt x k i (by omega))
theorem setN_lt (f : Fm) (w x : Nat) (hw : w < 4294967296) (i : Nat) (hi : i ≤ 32) : setN f w x i < 4294967296 := by
  have h := setN_lt2 f w x (by have e : (2 : Nat) ^ 32 = 4294967296 := by decide
                               omega) i hi
  have e : (2 : Nat) ^ 32 = 4294967296 := by decide
  omega
theorem not64 : ∀ i, i < 32 → BitVec.ofInt 64 (-(2 ^ i : Int) - 1) = BitVec.ofNat 64 (18446744073709551615 - 2 ^ i) := by decide +kernel
theorem mask64 : ∀ i, i < 32 → 4294967295 &&& (18446744073709551615 - 2 ^ i) = 4294967295 ^^^ 2 ^ i := by decide +kernel
theorem i64_clear (W i : Nat) (hW : W < 4294967296) (hi : i < 32) : bits .and .i64 (W : Int) (-(2 : Int) ^ i - 1) = ((W &&& (4294967295 ^^^ 2 ^ i) : Nat) : Int) := by
  have hl : W &&& (4294967295 ^^^ 2 ^ i) ≤ W := Nat.and_le_left
  show IntKind.i64.wrap ((BitVec.ofInt 64 (W : Int) &&& BitVec.ofInt 64 (-(2 : Int) ^ i - 1)).toNat : Int) = _
  rw [BitVec.toNat_and, ofInt_u64 W (by omega), not64 i hi, BitVec.toNat_ofNat]
  have e : (18446744073709551615 - 2 ^ i) % 2 ^ 64 = 18446744073709551615 - 2 ^ i := Nat.mod_eq_of_lt (by have := Nat.two_pow_pos i; omega)
  rw [e]
  have hW2 : W = W &&& 4294967295 := by
    have := Nat.and_two_pow_sub_one_eq_mod W 32
    rw [show (2 : Nat) ^ 32 - 1 = 4294967295 from rfl, Nat.mod_eq_of_lt (show W < 2 ^ 32 from hW)] at this
    exact this.symm
  have e2 : W &&& (18446744073709551615 - 2 ^ i) = W &&& (4294967295 ^^^ 2 ^ i) := by
    rw [← mask64 i hi, ← Nat.and_assoc, ← hW2]
  rw [e2]
  exact IntWalk.i64_in _ (by omega)
theorem i64_or_nat (a b : Nat) (ha : a < 4294967296) (hb : b < 4294967296) : bits .or .i64 (a : Int) (b : Int) = ((a ||| b : Nat) : Int) := by
  have hx : a ||| b < 2 ^ 32 := Nat.or_lt_two_pow (by omega) (by omega)
  show IntKind.i64.wrap ((BitVec.ofInt 64 (a : Int) ||| BitVec.ofInt 64 (b : Int)).toNat : Int) = _
  rw [BitVec.toNat_or, ofInt_u64 a (by omega), ofInt_u64 b (by omega), IntWalk.i64_in _ (by omega)]
end Go.Proofs.Ytegaiphhoinilaa
