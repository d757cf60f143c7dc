/-
A product over 2^256 word by word: each word's product, and the multiple of the modulus that makes the lowest word zero. Numbers alone.
-/
import Derived.Test.YtodialbopochdaaMontM
namespace Go.Proofs.Ytodialbopochdaa
open Go

/-- the carry into place k of x + w y -/
def mcar (B x w y k : Nat) : Nat := (x % B ^ k + w * (y % B ^ k)) / B ^ k
theorem mcar_zero (B x w y : Nat) : mcar B x w y 0 = 0 := by simp [mcar, Nat.mod_one]
theorem mcar_lt {B w : Nat} (hB : 0 < B) (hw : w < B) (x y k : Nat) : mcar B x w y k < B := by
  unfold mcar
  have hp : 0 < B ^ k := Nat.pow_pos hB
  rw [Nat.div_lt_iff_lt_mul hp]
  have h1 := Nat.mod_lt x hp
  have h2 := Nat.mod_lt y hp
  have h3 : w * (y % B ^ k) ≤ (B - 1) * (B ^ k - 1) := Nat.mul_le_mul (by omega) (by omega)
  obtain ⟨c, rfl⟩ : ∃ c, B = c + 1 := ⟨B - 1, by omega⟩
  generalize (c + 1) ^ k = p at *
  rw [Nat.add_sub_cancel] at h3
  obtain ⟨q, rfl⟩ : ∃ q, p = q + 1 := ⟨p - 1, by omega⟩
  rw [Nat.add_sub_cancel] at h3
  have : (c + 1) * (q + 1) = c * q + c + q + 1 := by rw [Nat.add_mul, Nat.mul_add]; omega
  omega
theorem mcar_step {B : Nat} (hB : 0 < B) (x w y k : Nat) : (dg B x k + w * dg B y k + mcar B x w y k) / B = mcar B x w y (k + 1) := by
  unfold mcar
  have hp : 0 < B ^ k := Nat.pow_pos hB
  rw [mod_step B x k, mod_step B y k, Nat.pow_succ, ← Nat.div_div_eq_div_mul]
  have e : x % B ^ k + B ^ k * dg B x k + w * (y % B ^ k + B ^ k * dg B y k) = x % B ^ k + w * (y % B ^ k) + B ^ k * (dg B x k + w * dg B y k) := by
    rw [Nat.mul_add, Nat.mul_add, ← Nat.mul_assoc w, Nat.mul_comm w (B ^ k), Nat.mul_assoc]; omega
  rw [e, Nat.add_mul_div_left _ _ hp, Nat.add_comm]
theorem mcar_split {B : Nat} (hB : 0 < B) (x w y k : Nat) : (x + w * y) / B ^ k = x / B ^ k + w * (y / B ^ k) + mcar B x w y k := by
  unfold mcar
  have hp : 0 < B ^ k := Nat.pow_pos hB
  have hx := Nat.div_add_mod x (B ^ k)
  have hy := Nat.div_add_mod y (B ^ k)
  have e : x + w * y = x % B ^ k + w * (y % B ^ k) + B ^ k * (x / B ^ k + w * (y / B ^ k)) := by
    conv => lhs; rw [← hx, ← hy]
    rw [Nat.mul_add, Nat.mul_add, ← Nat.mul_assoc w, Nat.mul_comm w (B ^ k), Nat.mul_assoc]; omega
  rw [e, Nat.add_mul_div_left _ _ hp, Nat.add_comm]
theorem mcar_dg {B : Nat} (hB : 0 < B) (x w y k : Nat) : (dg B x k + w * dg B y k + mcar B x w y k) % B = dg B (x + w * y) k := by
  unfold dg
  rw [mcar_split hB]
  simp [Nat.add_mod, Nat.mul_mod]
theorem mul_le {B n a b c : Nat} (hn : n < B) (ha : a < B) (hb : b < B) (hc : c < B) : n + a * b + c < B * B := by
  have h3 : a * b ≤ (B - 1) * (B - 1) := Nat.mul_le_mul (by omega) (by omega)
  obtain ⟨d, rfl⟩ : ∃ d, B = d + 1 := ⟨B - 1, by omega⟩
  rw [Nat.add_sub_cancel] at h3
  have : (d + 1) * (d + 1) = d * d + d + d + 1 := by rw [Nat.add_mul, Nat.mul_add]; omega
  omega

/-- the multiple's factor, and one word's step -/
def facN (B T w b ni : Nat) : Nat := (T + w * b) % B * ni % B
def sumN (B T w b m ni : Nat) : Nat := T + w * b + facN B T w b ni * m
def stepN (B T w b m ni : Nat) : Nat := sumN B T w b m ni / B
theorem facN_lt {B : Nat} (hB : 0 < B) (T w b ni : Nat) : facN B T w b ni < B := Nat.mod_lt _ hB
theorem sumN_zero {B m ni : Nat} (hB : 1 < B) (h : (m % B * ni + 1) % B = 0) (T w b : Nat) : sumN B T w b m ni % B = 0 := by
  unfold sumN facN
  have e : (T + w * b + (T + w * b) % B * ni % B * m) % B = ((T + w * b) % B * (m % B * ni + 1)) % B := by
    have e1 : (T + w * b) % B * (m % B * ni + 1) = (T + w * b) % B + (T + w * b) % B * ni * (m % B) := by
      rw [Nat.mul_add, Nat.mul_one, Nat.add_comm, Nat.mul_comm (m % B), Nat.mul_assoc]
    rw [e1]
    simp [Nat.add_mod, Nat.mul_mod]
  rw [e, Nat.mul_mod, h, Nat.mul_zero, Nat.zero_mod]
theorem stepN_mul {B m ni : Nat} (hB : 1 < B) (h : (m % B * ni + 1) % B = 0) (T w b : Nat) : B * stepN B T w b m ni = sumN B T w b m ni := by
  have := Nat.div_add_mod (sumN B T w b m ni) B
  rw [sumN_zero hB h, Nat.add_zero] at this
  exact this
/-- the words of the next number: one place up -/
theorem stepN_dg (B T w b m ni j : Nat) : dg B (stepN B T w b m ni) j = dg B (sumN B T w b m ni) (j + 1) := by
  unfold stepN dg
  rw [Nat.div_div_eq_div_mul, Nat.pow_succ, Nat.mul_comm B]
/-- what is above the eight words -/
theorem sumN_top {B T w b m ni n : Nat} (hB : 0 < B) (hb : b < B ^ n) (hm : m < B ^ n) :
    sumN B T w b m ni / B ^ n = T / B ^ n + mcar B T w b n + mcar B (T + w * b) (facN B T w b ni) m n := by
  unfold sumN
  rw [mcar_split hB, mcar_split hB, Nat.div_eq_of_lt hb, Nat.div_eq_of_lt hm]
  simp
theorem stepN_high {B T w b m ni n : Nat} : stepN B T w b m ni / B ^ n = sumN B T w b m ni / B ^ n / B := by
  unfold stepN
  rw [Nat.div_div_eq_div_mul, Nat.div_div_eq_div_mul, Nat.mul_comm]

/-- k words of a have been taken -/
def prodN (B a b m ni : Nat) : Nat → Nat
  | 0 => 0
  | k + 1 => stepN B (prodN B a b m ni k) (dg B a k) b m ni
theorem prodN_eq {B m ni : Nat} (hB : 1 < B) (h : (m % B * ni + 1) % B = 0) (a b : Nat) : ∀ k, ∃ F, F < B ^ k ∧ B ^ k * prodN B a b m ni k = a % B ^ k * b + F * m
  | 0 => ⟨0, by simp, by simp [prodN, Nat.mod_one]⟩
  | k + 1 => by
    obtain ⟨F, hF, e⟩ := prodN_eq hB h a b k
    refine ⟨F + B ^ k * facN B (prodN B a b m ni k) (dg B a k) b ni, ?_, ?_⟩
    · have := facN_lt (B := B) (by omega) (prodN B a b m ni k) (dg B a k) b ni
      generalize facN B (prodN B a b m ni k) (dg B a k) b ni = f at *
      rw [Nat.pow_succ]
      have : B ^ k * f ≤ B ^ k * (B - 1) := Nat.mul_le_mul_left _ (by omega)
      have h2 : B ^ k * B = B ^ k * (B - 1) + B ^ k := by rw [← Nat.mul_succ]; congr 1; omega
      omega
    · show B ^ (k + 1) * stepN B (prodN B a b m ni k) (dg B a k) b m ni = _
      rw [mod_step, Nat.pow_succ, Nat.mul_assoc, stepN_mul hB h, sumN]
      generalize facN B (prodN B a b m ni k) (dg B a k) b ni = f at *
      rw [Nat.mul_add, Nat.mul_add, e, Nat.add_mul, Nat.add_mul, Nat.mul_assoc (B ^ k), Nat.mul_assoc (B ^ k) f m]
      omega
theorem prodN_lt {B m ni : Nat} (hB : 1 < B) (h : (m % B * ni + 1) % B = 0) (a b k : Nat) (hm : 0 < m) : prodN B a b m ni k < b + m := by
  obtain ⟨F, hF, e⟩ := prodN_eq hB h a b k
  have hp : 0 < B ^ k := Nat.pow_pos (by omega)
  apply Nat.lt_of_mul_lt_mul_left (a := B ^ k)
  rw [e, Nat.mul_add]
  have h1 : a % B ^ k * b ≤ B ^ k * b := Nat.mul_le_mul_right _ (Nat.le_of_lt (Nat.mod_lt _ hp))
  have h2 : F * m < B ^ k * m := Nat.mul_lt_mul_of_pos_right hF hm
  omega
theorem prodN_end {B m ni n : Nat} (hB : 1 < B) (h : (m % B * ni + 1) % B = 0) (a b : Nat) (hm : 0 < m) (ha : a < B ^ n) (hab : a * b < B ^ n * m) :
    prodN B a b m ni n < 2 * m ∧ B ^ n * prodN B a b m ni n % m = a * b % m := by
  obtain ⟨F, hF, e⟩ := prodN_eq hB h a b n
  rw [Nat.mod_eq_of_lt ha] at e
  refine ⟨?_, by rw [e, Nat.add_mul_mod_self_right]⟩
  apply Nat.lt_of_mul_lt_mul_left (a := B ^ n)
  rw [e, Nat.mul_comm 2 m, ← Nat.mul_assoc, Nat.mul_comm _ 2]
  have h2 : F * m < B ^ n * m := Nat.mul_lt_mul_of_pos_right hF hm
  generalize B ^ n * m = p at *
  omega

/-- the inverse of an odd number: each round doubles the right bits -/
theorem inv_round {j o n n' : Int} {B : Int} (hj : j * j ∣ B) (h : j ∣ o * n - 1) (e : B ∣ n' - n * (2 - o * n)) : j * j ∣ o * n' - 1 := by
  obtain ⟨c, hc⟩ := h
  have h1 : j * j ∣ n' - n * (2 - o * n) := Int.dvd_trans hj e
  have e2 : o * n' - 1 = o * (n' - n * (2 - o * n)) + -((o * n - 1) * (o * n - 1)) := by
    simp only [Int.mul_sub, Int.sub_mul, Int.mul_one, Int.one_mul]
    rw [show o * (n * 2) = o * n + o * n by rw [← Int.mul_assoc, Int.mul_comm _ 2, Int.two_mul], show o * (n * (o * n)) = o * n * (o * n) by rw [Int.mul_assoc]]
    omega
  rw [e2]
  refine Int.dvd_add (Int.dvd_trans h1 (Int.dvd_mul_left _ _)) ?_
  rw [hc, show -(j * c * (j * c)) = j * j * (-(c * c)) by rw [Int.mul_neg, Int.mul_assoc, Int.mul_left_comm c j c, ← Int.mul_assoc]]
  exact Int.dvd_mul_right _ _
end Go.Proofs.Ytodialbopochdaa
