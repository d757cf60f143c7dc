/-
Digits of a natural number to any base, sums and differences by digits, with what is carried and borrowed.
-/
import Derived.Test.YthaockngbagdhaaDoorMem
namespace Go.Proofs.YthaockngbagdhaaDoor
open Go

/-- digit j of x to the base B -/
def dg (B x j : Nat) : Nat := x / B ^ j % B
theorem dg_lt {B : Nat} (h : 0 < B) (x j : Nat) : dg B x j < B := Nat.mod_lt _ h
theorem mod_step (B x k : Nat) : x % B ^ (k + 1) = x % B ^ k + B ^ k * dg B x k := Nat.mod_pow_succ
theorem dg_mod {B x j n : Nat} (h : j < n) : dg B (x % B ^ n) j = dg B x j := by
  unfold dg
  have e : B ^ n = B ^ j * B ^ (n - j) := by rw [← Nat.pow_add]; congr 1; omega
  have e2 : B ^ (n - j) = B * B ^ (n - j - 1) := by rw [← Nat.pow_succ']; congr 1; omega
  rw [e, Nat.mod_mul_right_div_self, Nat.mod_mod_of_dvd _ ⟨_, e2⟩]
theorem dg_zero (B j : Nat) : dg B 0 j = 0 := by simp [dg]
theorem dg_top {B x j n : Nat} (hB : 0 < B) (hx : x < B ^ n) (h : n ≤ j) : dg B x j = 0 := by
  unfold dg
  rw [Nat.div_eq_of_lt (Nat.lt_of_lt_of_le hx (Nat.pow_le_pow_right hB h)), Nat.zero_mod]
theorem digits_eq {B : Nat} {x y : Nat} : ∀ n, (∀ j, j < n → dg B x j = dg B y j) → x % B ^ n = y % B ^ n
  | 0, _ => by simp [Nat.mod_one]
  | n + 1, h => by rw [mod_step, mod_step, h n (by omega), digits_eq n fun j hj => h j (by omega)]
theorem digits_inj {B n x y : Nat} (hx : x < B ^ n) (hy : y < B ^ n) (h : ∀ j, j < n → dg B x j = dg B y j) : x = y := by
  have := digits_eq n h
  rwa [Nat.mod_eq_of_lt hx, Nat.mod_eq_of_lt hy] at this
/-- any digits are a number's -/
theorem digits_of {B : Nat} (hB : 0 < B) (f : Nat → Nat) : ∀ n, (∀ j, j < n → f j < B) → ∃ x, x < B ^ n ∧ ∀ j, j < n → dg B x j = f j
  | 0, _ => ⟨0, by simp, fun j hj => by omega⟩
  | n + 1, h => by
    obtain ⟨x, hx, hd⟩ := digits_of hB f n fun j hj => h j (by omega)
    have hf := h n (by omega)
    have hp : 0 < B ^ n := Nat.pow_pos hB
    have hd' : ∀ j, j < n → dg B (x + B ^ n * f n) j = f j := fun j hj => by
      rw [← hd j hj, ← dg_mod hj, Nat.add_mul_mod_self_left, dg_mod hj]
    refine ⟨x + B ^ n * f n, ?_, fun j hj => ?_⟩
    · have h1 : B ^ n * (f n + 1) ≤ B ^ n * B := Nat.mul_le_mul_left _ hf
      rw [Nat.pow_succ]
      rw [Nat.mul_add, Nat.mul_one] at h1
      omega
    · by_cases e : j = n
      · subst e
        unfold dg
        rw [Nat.add_mul_div_left _ _ hp, Nat.div_eq_of_lt hx, Nat.zero_add, Nat.mod_eq_of_lt hf]
      · exact hd' j (by omega)

/-- what is carried into digit k of a + b -/
def car (B a b k : Nat) : Nat := (a % B ^ k + b % B ^ k) / B ^ k
theorem car_zero (B a b : Nat) : car B a b 0 = 0 := by simp [car, Nat.mod_one]
theorem car_le {B : Nat} (hB : 0 < B) (a b k : Nat) : car B a b k ≤ 1 := by
  have hp : 0 < B ^ k := Nat.pow_pos hB
  have h1 := Nat.mod_lt a hp
  have h2 := Nat.mod_lt b hp
  have h3 : car B a b k < 2 := by unfold car; rw [Nat.div_lt_iff_lt_mul hp]; omega
  omega
theorem car_step {B : Nat} (hB : 0 < B) (a b k : Nat) : (dg B a k + dg B b k + car B a b k) / B = car B a b (k + 1) := by
  have hp : 0 < B ^ k := Nat.pow_pos hB
  have e : a % B ^ (k + 1) + b % B ^ (k + 1) = a % B ^ k + b % B ^ k + B ^ k * (dg B a k + dg B b k) := by rw [mod_step, mod_step, Nat.mul_add]; omega
  show _ = (a % B ^ (k + 1) + b % B ^ (k + 1)) / B ^ (k + 1)
  rw [e, Nat.pow_succ, ← Nat.div_div_eq_div_mul, Nat.add_mul_div_left _ _ hp]
  congr 1
  unfold car
  omega
theorem add_split {B : Nat} (hB : 0 < B) (a b k : Nat) : (a + b) / B ^ k = a / B ^ k + b / B ^ k + car B a b k := by
  have hp : 0 < B ^ k := Nat.pow_pos hB
  have ea := Nat.mod_add_div a (B ^ k)
  have eb := Nat.mod_add_div b (B ^ k)
  have e : a + b = a % B ^ k + b % B ^ k + B ^ k * (a / B ^ k + b / B ^ k) := by rw [Nat.mul_add]; omega
  have h : (a + b) / B ^ k = (a % B ^ k + b % B ^ k + B ^ k * (a / B ^ k + b / B ^ k)) / B ^ k := congrArg (· / B ^ k) e
  rw [Nat.add_mul_div_left _ _ hp] at h
  unfold car
  omega
theorem add_dg {B : Nat} (hB : 0 < B) (a b k : Nat) : (dg B a k + dg B b k + car B a b k) % B = dg B (a + b) k := by
  have h := add_split hB a b k
  show _ = (a + b) / B ^ k % B
  rw [h]
  unfold dg
  rw [Nat.add_mod (a / B ^ k + b / B ^ k), Nat.add_mod (a / B ^ k) (b / B ^ k), Nat.add_mod (a / B ^ k % B + b / B ^ k % B)]
theorem car_end {B n a b : Nat} (ha : a < B ^ n) (hb : b < B ^ n) : car B a b n = (a + b) / B ^ n := by
  unfold car; rw [Nat.mod_eq_of_lt ha, Nat.mod_eq_of_lt hb]

/-- what is borrowed for digit k of a - b -/
def bor (B a b k : Nat) : Nat := if a % B ^ k < b % B ^ k then 1 else 0
theorem bor_zero (B a b : Nat) : bor B a b 0 = 0 := by simp [bor, Nat.mod_one]
theorem bor_le (B a b k : Nat) : bor B a b k ≤ 1 := by unfold bor; split <;> omega
theorem bor_step {B : Nat} (hB : 0 < B) (a b k : Nat) : (if dg B a k < dg B b k + bor B a b k then 1 else 0) = bor B a b (k + 1) := by
  have hp : 0 < B ^ k := Nat.pow_pos hB
  have h1 := Nat.mod_lt a hp
  have h2 := Nat.mod_lt b hp
  show _ = if a % B ^ (k + 1) < b % B ^ (k + 1) then 1 else 0
  rw [mod_step, mod_step]
  have key : ∀ x y : Nat, x < y → B ^ k * x + B ^ k ≤ B ^ k * y := fun x y h => by rw [← Nat.mul_succ]; exact Nat.mul_le_mul_left _ h
  unfold bor
  generalize a % B ^ k = ra at *
  generalize b % B ^ k = rb at *
  rcases Nat.lt_trichotomy (dg B a k) (dg B b k) with h | h | h
  · have := key _ _ h
    rw [if_pos (show _ < _ by omega), if_pos (by omega)]
  · rw [h]
    by_cases c : ra < rb
    · rw [if_pos c, if_pos (by omega), if_pos (by omega)]
    · rw [if_neg c, if_neg (by omega), if_neg (by omega)]
  · have := key _ _ h
    have hbl : (if ra < rb then 1 else 0) ≤ 1 := by split <;> omega
    rw [if_neg (by omega), if_neg (by omega)]
/-- a less b, beyond the highest place -/
theorem car_bor {B a b d k : Nat} (hB : 0 < B) (h : (d + b) % B ^ k = a % B ^ k) : car B d b k = bor B a b k := by
  have hp : 0 < B ^ k := Nat.pow_pos hB
  have h1 := Nat.mod_lt a hp
  have h2 := Nat.mod_lt b hp
  have h3 := Nat.mod_lt d hp
  have hc := car_le hB d b k
  rw [Nat.add_mod] at h
  have hs := Nat.mod_add_div (d % B ^ k + b % B ^ k) (B ^ k)
  rw [h] at hs
  unfold car at hc ⊢
  unfold bor
  generalize (d % B ^ k + b % B ^ k) / B ^ k = c at *
  generalize a % B ^ k = ra at *
  generalize b % B ^ k = rb at *
  generalize d % B ^ k = rd at *
  generalize B ^ k = P at *
  rcases (show c = 0 ∨ c = 1 by omega) with rfl | rfl
  · rw [Nat.mul_zero] at hs; rw [if_neg (by omega)]
  · rw [Nat.mul_one] at hs; rw [if_pos (by omega)]
theorem sub_dg {B n a b k : Nat} (hB : 0 < B) (hk : k < n) (hb : b < B ^ n) : (dg B a k + 2 * B - dg B b k - bor B a b k) % B = dg B (a + B ^ n - b) k := by
  obtain ⟨d, hd⟩ : ∃ d, d = a + B ^ n - b := ⟨_, rfl⟩
  rw [← hd]
  have e : d + b = a + B ^ n := by omega
  have hm : ∀ j, j ≤ n → (d + b) % B ^ j = a % B ^ j := fun j hj => by
    rw [e]
    have e2 : B ^ n = B ^ j * B ^ (n - j) := by rw [← Nat.pow_add]; congr 1; omega
    rw [e2, Nat.add_mul_mod_self_left]
  have hc := car_bor (k := k) hB (hm k (by omega))
  have hdg : dg B (d + b) k = dg B a k := by rw [← dg_mod (x := d + b) hk, hm n (by omega), dg_mod hk]
  have h := add_dg hB d b k
  rw [hdg, hc] at h
  have hx := dg_lt hB d k
  have hy := dg_lt hB b k
  have hz := dg_lt hB a k
  have hl := bor_le B a b k
  generalize bor B a b k = c at *
  generalize dg B a k = x at *
  generalize dg B b k = y at *
  generalize dg B d k = z at *
  by_cases hlt : z + y + c < B
  · rw [Nat.mod_eq_of_lt hlt] at h
    have e3 : x + 2 * B - y - c = z + B * 2 := by omega
    rw [e3, Nat.add_mul_mod_self_left, Nat.mod_eq_of_lt hx]
  · have e4 : z + y + c = z + y + c - B + B := by omega
    rw [e4, Nat.add_mod_right, Nat.mod_eq_of_lt (by omega)] at h
    have e3 : x + 2 * B - y - c = z + B := by omega
    rw [e3, Nat.add_mod_right, Nat.mod_eq_of_lt hx]
theorem bor_end {B n a b : Nat} (ha : a < B ^ n) (hb : b < B ^ n) : bor B a b n = if a < b then 1 else 0 := by
  unfold bor; rw [Nat.mod_eq_of_lt ha, Nat.mod_eq_of_lt hb]

/-- n digits as the model's values -/
def dgs (ik : IntKind) (B x : Nat) (j : Nat) : Value := .int ik ((dg B x j : Nat) : Int)
theorem dgs_set {ik : IntKind} {B x k n : Nat} (hB : 0 < B) (_h : k < n) : (tab n (dgs ik B (x % B ^ k))).setIfInBounds k (.int ik ((dg B x k : Nat) : Int)) = tab n (dgs ik B (x % B ^ (k + 1))) := by
  rw [tab_set]
  apply tab_ext
  intro j hj
  unfold dgs
  by_cases e : j = k
  · rw [if_pos e, e, dg_mod (by omega)]
  · rw [if_neg e]
    by_cases l : j < k
    · rw [dg_mod l, dg_mod (by omega)]
    · rw [dg_top hB (Nat.mod_lt _ (Nat.pow_pos hB)) (by omega), dg_top hB (Nat.mod_lt _ (Nat.pow_pos hB)) (show k + 1 ≤ j by omega)]
theorem dgs_mod {ik : IntKind} {B x n : Nat} : tab n (dgs ik B (x % B ^ n)) = tab n (dgs ik B x) := tab_ext _ _ _ fun j hj => by unfold dgs; rw [dg_mod hj]
theorem dgs_start {ik : IntKind} {B x n : Nat} : tab n (dgs ik B (x % B ^ 0)) = tab n fun _ => .int ik 0 := tab_ext _ _ _ fun j _ => by simp [dgs, Nat.mod_one, dg_zero]
theorem dg_dg {b m x q r : Nat} (hr : r < m) : dg b (dg (b ^ m) x q) r = dg b x (m * q + r) := by
  have e : b ^ m = b ^ r * b ^ (m - r) := by rw [← Nat.pow_add]; congr 1; omega
  have e2 : b ^ (m - r) = b * b ^ (m - r - 1) := by rw [← Nat.pow_succ']; congr 1; omega
  have h1 : ∀ z : Nat, z % b ^ m / b ^ r % b = z / b ^ r % b := fun z => by rw [e, Nat.mod_mul_right_div_self, Nat.mod_mod_of_dvd _ ⟨_, e2⟩]
  unfold dg
  rw [h1, ← Nat.pow_mul, Nat.div_div_eq_div_mul, ← Nat.pow_add]
/-- what is left of x above m digits -/
theorem dg_cut {B : Nat} (hB : 0 < B) (x m i : Nat) : dg B (x / B ^ m * B ^ m) i = if m ≤ i then dg B x i else 0 := by
  unfold dg
  by_cases h : m ≤ i
  · rw [if_pos h]
    have e : B ^ i = B ^ m * B ^ (i - m) := by rw [← Nat.pow_add]; congr 1; omega
    rw [e, ← Nat.div_div_eq_div_mul, Nat.mul_div_cancel _ (Nat.pow_pos hB), Nat.div_div_eq_div_mul]
  · rw [if_neg h]
    have e : B ^ m = B * B ^ (m - i - 1) * B ^ i := by rw [← Nat.pow_succ', ← Nat.pow_add]; congr 1; omega
    rw [e, ← Nat.mul_assoc, Nat.mul_div_cancel _ (Nat.pow_pos hB), ← Nat.mul_assoc, Nat.mul_comm _ B, Nat.mul_assoc, Nat.mul_mod_right]
theorem cut_step (B x m : Nat) : x / B ^ m * B ^ m = x / B ^ (m + 1) * B ^ (m + 1) + dg B x m * B ^ m := by
  unfold dg
  have h := Nat.mod_add_div (x / B ^ m) B
  have e : x / B ^ (m + 1) = x / B ^ m / B := by rw [Nat.pow_succ, Nat.div_div_eq_div_mul]
  rw [e, Nat.pow_succ]
  generalize x / B ^ m = t at *
  have e2 : t / B * (B ^ m * B) = B * (t / B) * B ^ m := by rw [Nat.mul_comm B (t / B), Nat.mul_assoc, Nat.mul_comm B]
  rw [e2, ← Nat.add_mul, Nat.add_comm (B * (t / B)), h]
end Go.Proofs.YthaockngbagdhaaDoor
