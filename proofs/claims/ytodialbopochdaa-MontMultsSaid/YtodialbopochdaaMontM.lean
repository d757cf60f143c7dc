/-
Montgomery's form in numbers: what a product over 2^256 is, and the laws' equalities.
-/
import Derived.Test.YtodialbopochdaaTriG
import Derived.Test.YtodialbopochdaaPrime
namespace Go.Proofs.Ytodialbopochdaa
open Go

theorem overN_succ (m a : Nat) : ∀ k, overN m a (k + 1) = overN m (halfN m a) k
  | 0 => rfl
  | k + 1 => by
    show halfN m (overN m a (k + 1)) = halfN m (overN m (halfN m a) k)
    rw [overN_succ m a k]
theorem half_dbl (m t : Nat) (hm : m % 2 = 1) (h : t < m) : halfN m (2 * t % m) = t := by
  unfold halfN
  by_cases c : 2 * t < m
  · rw [Nat.mod_eq_of_lt c, show 2 * t % 2 = 0 by omega]; omega
  · have e : 2 * t % m = 2 * t - m := by rw [Nat.mod_eq_sub_mod (by omega), Nat.mod_eq_of_lt (by omega)]
    rw [e, show (2 * t - m) % 2 = 1 by omega]; omega
theorem over_mul (m t : Nat) (hm : m % 2 = 1) (h : t < m) : ∀ k, overN m (2 ^ k * t % m) k = t
  | 0 => by rw [Nat.pow_zero, Nat.one_mul, Nat.mod_eq_of_lt h]; rfl
  | k + 1 => by
    rw [overN_succ]
    have hx : 2 ^ k * t % m < m := Nat.mod_lt _ (by omega)
    have e : 2 ^ (k + 1) * t % m = 2 * (2 ^ k * t % m) % m := by rw [Nat.pow_succ, Nat.mul_comm (2 ^ k) 2, Nat.mul_assoc, Nat.mul_mod 2 (2 ^ k * t), Nat.mul_mod 2 (2 ^ k * t % m), Nat.mod_mod]
    rw [e, half_dbl m _ hm hx, over_mul m t hm h k]
/-- 2^256 -/
def RR : Nat := 2 ^ 256
/-- x over 2^256, modulo m -/
def redc (m x : Nat) : Nat := overN m (x % m) 256
theorem redc_lt (m x : Nat) (hm : 0 < m) : redc m x < m := overN_lt m _ (Nat.mod_lt _ hm) 256
theorem redc_mod (m x : Nat) : redc m (x % m) = redc m x := by unfold redc; rw [Nat.mod_mod]
theorem redc_R (m x : Nat) (hm : m % 2 = 1) : redc m (x * RR) = x % m := by
  unfold redc RR
  have e : x * 2 ^ 256 % m = 2 ^ 256 * (x % m) % m := by rw [Nat.mul_comm, Nat.mul_mod, Nat.mul_mod (2 ^ 256) (x % m), Nat.mod_mod]
  rw [e]
  exact over_mul m _ hm (Nat.mod_lt _ (by omega)) 256
theorem redc_eq (m x : Nat) (hm : m % 2 = 1) : RR * redc m x % m = x % m := by
  unfold redc RR
  rw [overN_pow m _ hm 256, Nat.mod_mod]
/-- what has the factor 2^256 in common is alike -/
theorem redc_unique (m t x : Nat) (hm : m % 2 = 1) (ht : t < m) (h : RR * t % m = x % m) : t = redc m x := by
  have := redc_R m t hm
  rw [Nat.mod_eq_of_lt ht, Nat.mul_comm, ← redc_mod, h, redc_mod] at this
  exact this.symm
theorem mul_mod3 (m x y : Nat) : (x % m) * (y % m) % m = x * y % m := (Nat.mul_mod x y m).symm
/-- in, and out again -/
theorem out_in (m a : Nat) (hm : m % 2 = 1) : redc m (a * RR % m) = a % m := by rw [redc_mod, redc_R m a hm]
theorem times_in (m a b : Nat) (hm : m % 2 = 1) : redc m ((a * RR % m) * (b % m)) = a * b % m := by
  rw [← redc_mod, mul_mod3, redc_mod, show a * RR * b = a * b * RR by rw [Nat.mul_assoc, Nat.mul_comm RR, ← Nat.mul_assoc], redc_R m _ hm]
theorem times_plain (m a b : Nat) : redc m ((a % m) * (b % m)) = redc m (a * b) := by rw [← redc_mod, mul_mod3, redc_mod]
/-- the e-th power of what is in -/
def powN (m a e : Nat) : Nat := redc m a ^ e * RR % m
theorem pow_in (m a e : Nat) (hm : m % 2 = 1) : redc m (powN m (a * RR % m) e) = a ^ e % m := by
  unfold powN
  rw [out_in m a hm, redc_mod, redc_R m _ hm, ← Nat.pow_mod]
theorem powN_lt (m a e : Nat) (hm : 0 < m) : powN m a e < m := Nat.mod_lt _ hm
/-- products of what is in -/
theorem times_R (m x y : Nat) (hm : m % 2 = 1) : redc m ((x * RR % m) * (y * RR % m)) = x * y * RR % m := by
  have e : (x * RR % m) * (y * RR % m) % m = (x * y * RR) * RR % m := by rw [mul_mod3, Nat.mul_mul_mul_comm, ← Nat.mul_assoc (x * y)]
  rw [← redc_mod, e, redc_mod, redc_R m _ hm]
theorem in_zero (m a : Nat) (hm : m % 2 = 1) (h1 : 1 < m) : a * RR % m = 0 ↔ a % m = 0 := by
  constructor
  · intro h
    have := out_in m a hm
    rw [h] at this
    have hz := redc_R m 0 hm
    rw [Nat.zero_mul, Nat.zero_mod] at hz
    rw [← this, hz]
  · intro h
    rw [Nat.mul_mod, h, Nat.zero_mul, Nat.zero_mod]
/-- the inverse by the power p - 2 -/
theorem inv_times (p a : Nat) (hp : p % 2 = 1) (h3 : 3 ≤ p) (hf : ∀ a, a % p ≠ 0 → a ^ (p - 1) % p = 1) (ha : a % p ≠ 0) : redc p ((a * RR % p) * powN p (a * RR % p) (p - 2)) = RR % p := by
  unfold powN
  rw [out_in p a hp, times_R p a _ hp]
  have e : a * (a % p) ^ (p - 2) % p = 1 := by
    rw [Nat.mul_mod, ← Nat.pow_mod, ← Nat.mul_mod, ← Nat.pow_succ', show (p - 2).succ = p - 1 by omega, hf a ha]
  rw [Nat.mul_mod, e, Nat.one_mul, Nat.mod_mod]
theorem inv_inv (p a : Nat) (hp : p % 2 = 1) (h3 : 3 ≤ p) (hf : ∀ a, a % p ≠ 0 → a ^ (p - 1) % p = 1) (ha : a % p ≠ 0) : powN p (powN p (a * RR % p) (p - 2)) (p - 2) = a * RR % p := by
  have e1 : powN p (a * RR % p) (p - 2) = (a ^ (p - 2)) * RR % p := by
    unfold powN
    rw [out_in p a hp, Nat.mul_mod, ← Nat.pow_mod, ← Nat.mul_mod]
  rw [e1]
  unfold powN
  rw [out_in p _ hp]
  have e2 : ((a ^ (p - 2)) % p) ^ (p - 2) % p = a % p := by
    rw [← Nat.pow_mod, ← Nat.pow_mul]
    have e3 : (p - 2) * (p - 2) = (p - 1) * (p - 3) + 1 := by
      obtain ⟨q, rfl⟩ : ∃ q, p = q + 3 := ⟨p - 3, by omega⟩
      rw [show q + 3 - 2 = q + 1 by omega, show q + 3 - 1 = q + 2 by omega, show q + 3 - 3 = q by omega, Nat.add_mul, Nat.mul_add, Nat.one_mul, Nat.add_mul]
      omega
    rw [e3, Nat.pow_succ, Nat.pow_mul, Nat.mul_mod, Nat.pow_mod, hf a ha, Nat.one_pow, Nat.mod_eq_of_lt (show 1 < p by omega), Nat.one_mul, Nat.mod_mod]
  rw [Nat.mul_mod, e2, ← Nat.mul_mod]
theorem pow_zero_in (p : Nat) (hp : p % 2 = 1) (h3 : 3 ≤ p) : powN p 0 (p - 2) = 0 := by
  have hz := redc_R p 0 hp
  rw [Nat.zero_mul, Nat.zero_mod] at hz
  unfold powN
  rw [hz, Nat.zero_pow (by omega), Nat.zero_mul, Nat.zero_mod]
theorem primeP_odd : primeP % 2 = 1 ∧ 3 ≤ primeP ∧ 1 < primeP := by decide +kernel
theorem primeN_odd : primeN % 2 = 1 ∧ 3 ≤ primeN ∧ 1 < primeN := by decide +kernel
/- what the laws say of sums and products of what is in -/
theorem law_comm (m x y : Nat) : redc m (x * y) = redc m (y * x) := by rw [Nat.mul_comm]
theorem law_dist (m x y z : Nat) (hm : m % 2 = 1) : redc m (((x + y) % m) * z) = (redc m (x * z) + redc m (y * z)) % m := by
  refine (redc_unique m _ _ hm (Nat.mod_lt _ (by omega)) ?_).symm
  rw [Nat.mul_mod, Nat.mod_mod, ← Nat.mul_mod, Nat.mul_add, Nat.add_mod, redc_eq m _ hm, redc_eq m _ hm, ← Nat.add_mod, Nat.mul_mod ((x + y) % m), Nat.mod_mod, ← Nat.mul_mod, Nat.add_mul]
theorem law_back (m x y : Nat) (hx : x < m) (hy : y < m) : ((x + y) % m + (m - y)) % m = x := by
  rw [Nat.mod_add_mod, show x + y + (m - y) = x + m by omega, Nat.add_mod_right, Nat.mod_eq_of_lt hx]
theorem law_one (m x : Nat) (hm : m % 2 = 1) (hx : x < m) : redc m (x * (RR % m)) = x := by
  rw [← redc_mod, Nat.mul_mod, Nat.mod_mod, ← Nat.mul_mod, redc_mod, redc_R m x hm, Nat.mod_eq_of_lt hx]
end Go.Proofs.Ytodialbopochdaa
