/-
More on digits: a number built up digit by digit in words of a greater base, twice a number, a digit set anew, half a number.
-/
import Derived.Test.YthaockngbagdhaaDoorLimM
namespace Go.Proofs.YthaockngbagdhaaDoor
open Go

theorem acc_here {b m : Nat} (hb : 0 < b) (x k : Nat) : (dg (b ^ m) (x % b ^ k) (k / m) + dg b x k * b ^ (k % m) % b ^ m) % b ^ m = dg (b ^ m) (x % b ^ (k + 1)) (k / m) := by
  have hk : b ^ k = (b ^ m) ^ (k / m) * b ^ (k % m) := by rw [← Nat.pow_mul, ← Nat.pow_add, Nat.div_add_mod]
  rw [mod_step b x k, hk]
  unfold dg
  rw [Nat.mul_assoc, Nat.add_mul_div_left _ _ (Nat.pow_pos (Nat.pow_pos hb)), Nat.add_mod, Nat.mod_mod, Nat.mod_mod, ← Nat.add_mod, Nat.mul_comm (b ^ (k % m))]
theorem acc_other {b m : Nat} (hb : 0 < b) (hm : 0 < m) (x k j : Nat) (h : j ≠ k / m) : dg (b ^ m) (x % b ^ (k + 1)) j = dg (b ^ m) (x % b ^ k) j := by
  have hp : 0 < b ^ m := Nat.pow_pos hb
  refine digits_inj (B := b) (n := m) (dg_lt hp _ _) (dg_lt hp _ _) fun r hr => ?_
  rw [dg_dg hr, dg_dg hr]
  have hne : m * j + r ≠ k := fun e => h (by rw [← e, Nat.mul_add_div hm, Nat.div_eq_of_lt hr, Nat.add_zero])
  by_cases hlt : m * j + r < k
  · rw [dg_mod (by omega), dg_mod hlt]
  · rw [dg_top hb (Nat.mod_lt _ (Nat.pow_pos hb)) (show k + 1 ≤ m * j + r by omega), dg_top hb (Nat.mod_lt _ (Nat.pow_pos hb)) (show k ≤ m * j + r by omega)]

/-- s a + c: what is carried into digit k -/
def carL (B s a c k : Nat) : Nat := (s * (a % B ^ k) + c) / B ^ k
theorem carL_zero (B s a c : Nat) : carL B s a c 0 = c := by simp [carL, Nat.mod_one]
theorem carL_step {B : Nat} (hB : 0 < B) (s a c k : Nat) : (s * dg B a k + carL B s a c k) / B = carL B s a c (k + 1) := by
  have hp : 0 < B ^ k := Nat.pow_pos hB
  unfold carL
  have e : s * (a % B ^ (k + 1)) + c = s * (a % B ^ k) + c + B ^ k * (s * dg B a k) := by
    rw [mod_step, Nat.mul_add, ← Nat.mul_assoc, Nat.mul_comm s (B ^ k), Nat.mul_assoc]; omega
  rw [e, Nat.pow_succ, ← Nat.div_div_eq_div_mul, Nat.add_mul_div_left _ _ hp, Nat.add_comm (s * dg B a k)]
theorem carL_dg {B : Nat} (hB : 0 < B) (s a c k : Nat) : (s * dg B a k + carL B s a c k) % B = dg B (s * a + c) k := by
  have hp : 0 < B ^ k := Nat.pow_pos hB
  have ea := Nat.mod_add_div a (B ^ k)
  have e : s * a + c = s * (a % B ^ k) + c + B ^ k * (s * (a / B ^ k)) := by
    have h : s * a = s * (a % B ^ k) + s * (B ^ k * (a / B ^ k)) := by rw [← Nat.mul_add, ea]
    rw [h, ← Nat.mul_assoc s, Nat.mul_comm s (B ^ k), Nat.mul_assoc]; omega
  have h : (s * a + c) / B ^ k = carL B s a c k + s * (a / B ^ k) := by rw [e, Nat.add_mul_div_left _ _ hp]; rfl
  show _ = (s * a + c) / B ^ k % B
  rw [h]
  unfold dg
  rw [Nat.add_comm, Nat.add_mod, Nat.mul_mod s, Nat.mod_mod, ← Nat.mul_mod, ← Nat.add_mod]
theorem carL_end {B n s a c : Nat} (ha : a < B ^ n) : carL B s a c n = (s * a + c) / B ^ n := by
  unfold carL; rw [Nat.mod_eq_of_lt ha]

/-- digit j is d -/
def setDig (B V j d : Nat) : Nat := V % B ^ j + (d + V / B ^ (j + 1) * B) * B ^ j
theorem setDig_dg {B : Nat} (hB : 0 < B) (V j d i : Nat) (hd : d < B) : dg B (setDig B V j d) i = if i = j then d else dg B V i := by
  have hp : 0 < B ^ j := Nat.pow_pos hB
  unfold setDig
  rcases Nat.lt_trichotomy i j with h | h | h
  · rw [if_neg (by omega), ← dg_mod h, Nat.add_mul_mod_self_right, dg_mod (x := V % B ^ j) h, dg_mod h]
  · subst h
    rw [if_pos rfl]
    unfold dg
    rw [Nat.add_mul_div_right _ _ hp, Nat.div_eq_of_lt (Nat.mod_lt _ hp), Nat.zero_add, Nat.add_mul_mod_self_right, Nat.mod_eq_of_lt hd]
  · rw [if_neg (by omega)]
    unfold dg
    have e : B ^ i = B ^ j * B * B ^ (i - j - 1) := by rw [← Nat.pow_succ, ← Nat.pow_add]; congr 1; omega
    rw [e, ← Nat.div_div_eq_div_mul, ← Nat.div_div_eq_div_mul, Nat.add_mul_div_right _ _ hp, Nat.div_eq_of_lt (Nat.mod_lt _ hp), Nat.zero_add, Nat.add_mul_div_right _ _ hB, Nat.div_eq_of_lt hd, Nat.zero_add, ← Nat.div_div_eq_div_mul V, Nat.pow_succ]
theorem setDig_eq {B : Nat} (_hB : 0 < B) (V j d : Nat) : setDig B V j d + dg B V j * B ^ j = V + d * B ^ j := by
  have e : V / B ^ (j + 1) * B + dg B V j = V / B ^ j := by
    unfold dg
    rw [Nat.pow_succ, ← Nat.div_div_eq_div_mul, Nat.mul_comm]
    exact Nat.div_add_mod _ _
  have h := Nat.mod_add_div V (B ^ j)
  unfold setDig
  rw [Nat.add_mul]
  have h2 : V / B ^ (j + 1) * B * B ^ j + dg B V j * B ^ j = B ^ j * (V / B ^ j) := by rw [← Nat.add_mul, e, Nat.mul_comm]
  omega
theorem setDig_lt {B n V j d : Nat} (hB : 0 < B) (hV : V < B ^ n) (hj : j < n) (hd : d < B) : setDig B V j d < B ^ n := by
  have hp : 0 < B ^ j := Nat.pow_pos hB
  have e : B ^ n = B ^ (n - j - 1) * B * B ^ j := by rw [← Nat.pow_succ, ← Nat.pow_add]; congr 1; omega
  have hq : V / B ^ (j + 1) < B ^ (n - j - 1) := by
    rw [Nat.div_lt_iff_lt_mul (Nat.pow_pos hB), ← Nat.pow_add, show n - j - 1 + (j + 1) = n by omega]; exact hV
  have h1 : d + V / B ^ (j + 1) * B + 1 ≤ B ^ (n - j - 1) * B := by
    have : (V / B ^ (j + 1) + 1) * B ≤ B ^ (n - j - 1) * B := Nat.mul_le_mul_right _ hq
    rw [Nat.add_mul, Nat.one_mul] at this
    omega
  have h2 : (d + V / B ^ (j + 1) * B + 1) * B ^ j ≤ B ^ (n - j - 1) * B * B ^ j := Nat.mul_le_mul_right _ h1
  rw [Nat.add_mul, Nat.one_mul] at h2
  have h3 := Nat.mod_lt V hp
  rw [e]
  unfold setDig
  omega
theorem dgs_setDig {ik : IntKind} {B n V j d : Nat} (hB : 0 < B) (hd : d < B) : (tab n (dgs ik B V)).setIfInBounds j (.int ik (d : Int)) = tab n (dgs ik B (setDig B V j d)) := by
  rw [tab_set]
  apply tab_ext
  intro i _
  unfold dgs
  rw [setDig_dg hB V j d i hd]
  by_cases h : i = j
  · rw [if_pos h, if_pos h]
  · rw [if_neg h, if_neg h]
theorem dgs_congr {ik : IntKind} {B n x y : Nat} (h : x % B ^ n = y % B ^ n) : tab n (dgs ik B x) = tab n (dgs ik B y) := by
  rw [← dgs_mod (x := x), ← dgs_mod (x := y), h]
theorem half_dg {H : Nat} (hH : 0 < H) (t i : Nat) : dg (2 * H) (t / 2) i = dg (2 * H) t i / 2 + dg (2 * H) t (i + 1) % 2 * H := by
  have hp : 0 < (2 * H) ^ i := Nat.pow_pos (by omega)
  unfold dg
  rw [Nat.div_div_eq_div_mul, Nat.mul_comm 2, ← Nat.div_div_eq_div_mul, Nat.pow_succ, ← Nat.div_div_eq_div_mul]
  generalize t / (2 * H) ^ i = q
  have h1 : q = q % (2 * H) + 2 * H * (q / (2 * H)) := (Nat.mod_add_div q (2 * H)).symm
  obtain ⟨r, hr⟩ : ∃ r, r = q % (2 * H) := ⟨_, rfl⟩
  obtain ⟨u, hu⟩ : ∃ u, u = q / (2 * H) := ⟨_, rfl⟩
  rw [← hr, ← hu] at h1 ⊢
  have hrl : r < 2 * H := by rw [hr]; exact Nat.mod_lt _ (by omega)
  have e2 : q / 2 = r / 2 + H * u := by rw [h1, Nat.mul_assoc, Nat.add_mul_div_left _ _ (by decide)]
  have h3 := Nat.mod_add_div u 2
  have h4 : u % (2 * H) % 2 = u % 2 := Nat.mod_mul_right_mod u 2 H
  rw [h4, e2]
  have e5 : H * u = u % 2 * H + 2 * H * (u / 2) := by
    have : H * u = H * (u % 2 + 2 * (u / 2)) := by rw [h3]
    rw [this, Nat.mul_add, ← Nat.mul_assoc, Nat.mul_comm H 2, Nat.mul_comm H (u % 2)]
  have hb : u % 2 < 2 := Nat.mod_lt _ (by decide)
  have hb2 : u % 2 * H ≤ 1 * H := Nat.mul_le_mul_right _ (by omega)
  rw [e5, ← Nat.add_assoc, Nat.add_mul_mod_self_left, Nat.mod_eq_of_lt (by omega)]
theorem div_stepB (B x k : Nat) : x / B ^ k = B * (x / B ^ (k + 1)) + dg B x k := by
  unfold dg
  rw [Nat.pow_succ, ← Nat.div_div_eq_div_mul]
  exact (Nat.div_add_mod _ _).symm
theorem less_dig (B x y k : Nat) (h : x / B ^ (k + 1) = y / B ^ (k + 1)) (hne : dg B x k ≠ dg B y k) : decide (x < y) = decide (dg B x k < dg B y k) := by
  have ex := div_stepB B x k
  have ey := div_stepB B y k
  rw [← h] at ey
  by_cases hl : dg B x k < dg B y k
  · rw [decide_eq_true hl, decide_eq_true]
    exact Nat.lt_of_div_lt_div (c := B ^ k) (by omega)
  · rw [decide_eq_false hl, decide_eq_false]
    have : y < x := Nat.lt_of_div_lt_div (c := B ^ k) (by omega)
    omega
/-- a chain of doublings: the bits from k on -/
theorem twice_step (a m k : Nat) : (2 * (a / 2 ^ (k + 1) % m) + a / 2 ^ k % 2) % m = a / 2 ^ k % m := by
  have h : a / 2 ^ k = 2 * (a / 2 ^ (k + 1)) + a / 2 ^ k % 2 := by
    rw [Nat.pow_succ, ← Nat.div_div_eq_div_mul]
    exact (Nat.div_add_mod _ _).symm
  conv => rhs; rw [h]
  rw [Nat.add_mod, Nat.mul_mod, Nat.mod_mod, ← Nat.mul_mod, ← Nat.add_mod]
end Go.Proofs.YthaockngbagdhaaDoor
