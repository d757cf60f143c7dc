/-
Layer 13: the number that a relocation puts into a word is decoded from it (plain).
-/
import Derived.Test.YtegaiphhoinilaaRkH
import Derived.Test.YtegaiphhoinilaaJPf
namespace Go.Proofs.Ytegaiphhoinilaa.Rc
open Go Go.RowKit

def optB (o : Option Nat) (w : Nat) : Bool :=
  match o with
  | none => false
  | some i => w.testBit i
/-- the bit of the word that bit k of the number is -/
def srcV (f : Fm) (k : Nat) : Option Nat :=
  match f with
  | .I | .C | .Z => bif decide (k < 12) then some (20 + k) else none
  | .S => bif decide (k < 5) then some (7 + k) else bif decide (k < 12) then some (25 + (k - 5)) else none
  | .B => bif decide (k < 1) then none else bif decide (k < 5) then some (8 + (k - 1)) else bif decide (k < 11) then some (25 + (k - 5)) else bif decide (k < 12) then some 7 else bif decide (k < 13) then some 31 else none
  | .J => bif decide (k < 1) then none else bif decide (k < 11) then some (21 + (k - 1)) else bif decide (k < 12) then some 20 else bif decide (k < 20) then some (12 + (k - 12)) else bif decide (k < 21) then some 31 else none
  | .U => bif decide (k < 12) then none else bif decide (k < 32) then some (12 + (k - 12)) else none
  | .T => bif decide (k < 5) then some (20 + k) else none
  | _ => none
theorem mul_add_bit (a b s m k : Nat) (hm : m = 2 ^ s) (hb : b < 2 ^ s) : (a * m + b).testBit k = bif decide (k < s) then b.testBit k else a.testBit (k - s) := by
  rw [hm, Nat.mul_comm, Nat.testBit_two_pow_mul_add a hb k]
  by_cases h : k < s <;> simp [h]
theorem part_bit (w a b k : Nat) : (bitsN w a b).testBit k = (decide (k < a - b + 1) && w.testBit (b + k)) := bitsN_bit w a b k
theorem imm_bitI (w k : Nat) (hk : k < 12) : (bitsN w 31 20).testBit k = w.testBit (20 + k) := by
  rw [bitsN_bit]; simp [hk]
theorem imm_bitT (w k : Nat) (hk : k < 5) : (bitsN w 24 20).testBit k = w.testBit (20 + k) := by
  rw [bitsN_bit]; simp [hk]
theorem imm_bitS (w k : Nat) (hk : k < 12) : (bitsN w 31 25 * 32 + bitsN w 11 7).testBit k = optB (srcV .S k) w := by
  rw [mul_add_bit _ _ 5 32 k rfl (bitsN_lt w 11 7), bitsN_bit, bitsN_bit]
  unfold srcV
  by_cases h : k < 5
  · simp [h, optB]
  · have : k - 5 < 7 := by omega
    simp [h, hk, this, optB]
theorem imm_bitB (w k : Nat) (hk : k < 13) : (bitsN w 31 31 * 4096 + bitsN w 7 7 * 2048 + bitsN w 30 25 * 32 + bitsN w 11 8 * 2).testBit k = optB (srcV .B k) w := by
  have p1 : bitsN w 11 8 < 16 := bitsN_lt w 11 8
  have p2 : bitsN w 30 25 < 64 := bitsN_lt w 30 25
  have p3 : bitsN w 7 7 < 2 := bitsN_lt w 7 7
  rw [show bitsN w 31 31 * 4096 + bitsN w 7 7 * 2048 + bitsN w 30 25 * 32 + bitsN w 11 8 * 2 = bitsN w 31 31 * 4096 + (bitsN w 7 7 * 2048 + (bitsN w 30 25 * 32 + (bitsN w 11 8 * 2 + 0))) by omega,
    mul_add_bit _ _ 12 4096 k rfl (by omega), mul_add_bit _ _ 11 2048 k rfl (by omega), mul_add_bit _ _ 5 32 k rfl (by omega), mul_add_bit _ _ 1 2 k rfl (by decide), bitsN_bit, bitsN_bit, bitsN_bit, bitsN_bit]
  unfold srcV
  by_cases h1 : k < 1
  · have e1 : k < 5 := by omega
    have e2 : k < 11 := by omega
    have e3 : k < 12 := by omega
    simp [h1, e1, e2, e3, optB]
  · by_cases h2 : k < 5
    · have e2 : k < 11 := by omega
      have e3 : k < 12 := by omega
      have e4 : k - 1 < 4 := by omega
      simp [h1, h2, e2, e3, e4, optB]
    · by_cases h3 : k < 11
      · have e3 : k < 12 := by omega
        have e4 : k - 5 < 6 := by omega
        simp [h1, h2, h3, e3, e4, optB]
      · by_cases h4 : k < 12
        · obtain rfl : k = 11 := by omega
          simp [optB]
        · obtain rfl : k = 12 := by omega
          simp [optB]
theorem imm_bitJ (w k : Nat) (hk : k < 21) : (bitsN w 31 31 * 1048576 + bitsN w 19 12 * 4096 + bitsN w 20 20 * 2048 + bitsN w 30 21 * 2).testBit k = optB (srcV .J k) w := by
  have p1 : bitsN w 30 21 < 1024 := bitsN_lt w 30 21
  have p2 : bitsN w 20 20 < 2 := bitsN_lt w 20 20
  have p3 : bitsN w 19 12 < 256 := bitsN_lt w 19 12
  rw [show bitsN w 31 31 * 1048576 + bitsN w 19 12 * 4096 + bitsN w 20 20 * 2048 + bitsN w 30 21 * 2 = bitsN w 31 31 * 1048576 + (bitsN w 19 12 * 4096 + (bitsN w 20 20 * 2048 + (bitsN w 30 21 * 2 + 0))) by omega,
    mul_add_bit _ _ 20 1048576 k rfl (by omega), mul_add_bit _ _ 12 4096 k rfl (by omega), mul_add_bit _ _ 11 2048 k rfl (by omega), mul_add_bit _ _ 1 2 k rfl (by decide), bitsN_bit, bitsN_bit, bitsN_bit, bitsN_bit]
  unfold srcV
  by_cases h1 : k < 1
  · have e1 : k < 11 := by omega
    have e2 : k < 12 := by omega
    have e3 : k < 20 := by omega
    simp [h1, e1, e2, e3, optB]
  · by_cases h2 : k < 11
    · have e2 : k < 12 := by omega
      have e3 : k < 20 := by omega
      have e4 : k - 1 < 10 := by omega
      simp [h1, h2, e2, e3, e4, optB]
    · by_cases h3 : k < 12
      · obtain rfl : k = 11 := by omega
        simp [optB]
      · by_cases h4 : k < 20
        · have e4 : k - 12 < 8 := by omega
          simp [h1, h2, h3, h4, e4, optB]
        · obtain rfl : k = 20 := by omega
          simp [optB]
/-- the number in a word, ahead of its sign -/
def rawN (f : Fm) (w : Nat) : Nat :=
  match f with
  | .I => bitsN w 31 20
  | .S => bitsN w 31 25 * 32 + bitsN w 11 7
  | .B => bitsN w 31 31 * 4096 + bitsN w 7 7 * 2048 + bitsN w 30 25 * 32 + bitsN w 11 8 * 2
  | .J => bitsN w 31 31 * 1048576 + bitsN w 19 12 * 4096 + bitsN w 20 20 * 2048 + bitsN w 30 21 * 2
  | _ => 0
/-- what a number of this form keeps of x -/
def keepN (f : Fm) (x : Nat) : Nat :=
  match f with
  | .I | .S => x % 4096
  | .B => x % 8192 / 2 * 2
  | .J => x % 2097152 / 2 * 2
  | _ => 0
def wideN : Fm → Nat
  | .I | .S => 12
  | .B => 13
  | .J => 21
  | _ => 0
def isF (f : Fm) : Prop := f = .I ∨ f = .S ∨ f = .B ∨ f = .J
theorem raw_bit (f : Fm) (hf : isF f) (w k : Nat) (hk : k < wideN f) : (rawN f w).testBit k = optB (srcV f k) w := by
  rcases hf with rfl | rfl | rfl | rfl
  · show (bitsN w 31 20).testBit k = _
    rw [imm_bitI w k hk]
    unfold srcV
    simp [show k < 12 from hk, optB]
  · exact imm_bitS w k hk
  · exact imm_bitB w k hk
  · exact imm_bitJ w k hk
theorem raw_lt (f : Fm) (hf : isF f) (w : Nat) : rawN f w < 2 ^ wideN f := by
  rcases hf with rfl | rfl | rfl | rfl
  · exact bitsN_lt w 31 20
  · exact immS_lt w
  · exact immB_lt w
  · exact immJ_lt w
theorem keep_lt (f : Fm) (hf : isF f) (x : Nat) : keepN f x < 2 ^ wideN f := by
  rcases hf with rfl | rfl | rfl | rfl <;> (unfold keepN wideN; dsimp only; omega)
theorem src_bitK : ∀ f : Fm, isF f → ∀ k, k < wideN f → (match srcV f k with | some i => decide (i < 32) && decide (bitK f i = some k) | none => decide (k = 0) && decide (f = .B ∨ f = .J)) = true := by
  intro f hf
  rcases hf with rfl | rfl | rfl | rfl <;> decide +kernel
theorem even_bit (y k : Nat) : (y / 2 * 2).testBit k = (!decide (k = 0) && y.testBit k) := by
  cases k with
  | zero => simp
  | succ k =>
    rw [show y / 2 * 2 = 2 ^ 1 * (y / 2) + 0 by omega, Nat.testBit_two_pow_mul_add _ (by decide)]
    simp [Nat.testBit_div_two]
theorem keep_bit (f : Fm) (hf : isF f) (x k : Nat) (hk : k < wideN f) : (keepN f x).testBit k = (!(decide (k = 0) && decide (f = .B ∨ f = .J)) && x.testBit k) := by
  rcases hf with rfl | rfl | rfl | rfl
  · show (x % 2 ^ 12).testBit k = _
    rw [Nat.testBit_mod_two_pow, decide_eq_true (show k < 12 from hk)]
    simp
  · show (x % 2 ^ 12).testBit k = _
    rw [Nat.testBit_mod_two_pow, decide_eq_true (show k < 12 from hk)]
    simp
  · show (x % 2 ^ 13 / 2 * 2).testBit k = _
    rw [even_bit, Nat.testBit_mod_two_pow, decide_eq_true (show k < 13 from hk)]
    simp
  · show (x % 2 ^ 21 / 2 * 2).testBit k = _
    rw [even_bit, Nat.testBit_mod_two_pow, decide_eq_true (show k < 21 from hk)]
    simp
theorem high_bit {x n k : Nat} (h : x < 2 ^ n) (hk : n ≤ k) : x.testBit k = false := Nat.testBit_lt_two_pow (Nat.lt_of_lt_of_le h (Nat.pow_le_pow_right (by decide) hk))
theorem raw_set (f : Fm) (hf : isF f) (w x : Nat) : rawN f (setN f w x 32) = keepN f x := by
  refine Nat.eq_of_testBit_eq fun k => ?_
  by_cases hk : k < wideN f
  · have h := src_bitK f hf k hk
    rw [raw_bit f hf _ k hk, keep_bit f hf x k hk]
    cases hs : srcV f k with
    | some i =>
      rw [hs] at h
      simp only [Bool.and_eq_true, decide_eq_true_eq] at h
      show (setN f w x 32).testBit i = _
      rw [set_bit32 f w x i h.1, h.2]
      by_cases h0 : k = 0 ∧ (f = .B ∨ f = .J)
      · exfalso
        obtain ⟨rfl, h3⟩ := h0
        rcases h3 with rfl | rfl <;> cases hs
      · have e : (decide (k = 0) && decide (f = .B ∨ f = .J)) = false := by
          rw [← Bool.decide_and]
          exact decide_eq_false h0
        rw [e]
        rfl
    | none =>
      rw [hs] at h
      replace h : (decide (k = 0) && decide (f = .B ∨ f = .J)) = true := h
      rw [h]
      rfl
  · rw [high_bit (raw_lt f hf _) (by omega), high_bit (keep_lt f hf x) (by omega)]
theorem immZ_set (f : Fm) (hf : isF f) (w x : Nat) : immZ f (setN f w x 32) = sgnZ (keepN f x) (wideN f) := by
  rw [← raw_set f hf w x]
  rcases hf with rfl | rfl | rfl | rfl <;> rfl
/-- a way that may be -/
theorem way_B (w x : Nat) (hx : x < 4294967296) (h : wayB x 4096 = true) : immZ .B (setN .B w x 32) = sgP x := by
  rw [immZ_set .B (by unfold isF; simp)]
  have h2 := (wayB_iff x 4096 hx (by decide)).1 h
  show sgnZ (x % 8192 / 2 * 2) 13 = sgP x
  unfold sgnZ sgP at *
  by_cases h3 : 2147483648 ≤ x
  · rw [if_pos h3] at h2 ⊢
    rw [if_pos (by omega)]
    omega
  · rw [if_neg h3] at h2 ⊢
    rw [if_neg (by omega)]
    omega
theorem way_J (w x : Nat) (hx : x < 4294967296) (h : wayB x 1048576 = true) : immZ .J (setN .J w x 32) = sgP x := by
  rw [immZ_set .J (by unfold isF; simp)]
  have h2 := (wayB_iff x 1048576 hx (by decide)).1 h
  show sgnZ (x % 2097152 / 2 * 2) 21 = sgP x
  unfold sgnZ sgP at *
  by_cases h3 : 2147483648 ≤ x
  · rw [if_pos h3] at h2 ⊢
    rw [if_pos (by omega)]
    omega
  · rw [if_neg h3] at h2 ⊢
    rw [if_neg (by omega)]
    omega
theorem low_I (f : Fm) (hf : f = .I ∨ f = .S) (w x : Nat) : immZ f (setN f w x 32) = sgnZ (x % 4096) 12 := by
  rcases hf with rfl | rfl
  · exact immZ_set .I (by unfold isF; simp) w x
  · exact immZ_set .S (by unfold isF; simp) w x
/-- the upper and the lower part make the number -/
theorem up_low (x : Nat) (hx : x < 4294967296) : (((upP x : Nat) : Int) + sgnZ (x % 4096) 12) % 4294967296 = (x : Int) := by
  unfold sgnZ upP
  split <;> omega
theorem low_is (x : Nat) (_hx : x < 4294967296) : sgnZ (x % 4096) 12 % 4294967296 = ((x : Int) - ((upP x : Nat) : Int)) % 4294967296 := by
  unfold sgnZ upP
  split <;> omega
theorem sgn_in (x : Nat) : -2048 ≤ sgnZ (x % 4096) 12 ∧ sgnZ (x % 4096) 12 < 2048 := by
  unfold sgnZ
  split <;> omega
theorem immZ_U (w u : Nat) (hu : u < 4294967296) (h0 : u % 4096 = 0) : immZ .U (w % 4096 + u) = sgP u := by
  show sgnZ (w % 4096 + u - (w % 4096 + u) % 4096) 32 = _
  rw [show w % 4096 + u - (w % 4096 + u) % 4096 = u by omega]
  unfold sgnZ sgP
  by_cases h : 2147483648 ≤ u
  · rw [if_pos (by omega), if_pos h]
    rfl
  · rw [if_neg (by omega), if_neg h]
/-- what a Load behind a Store of four bytes answers -/
theorem ram_off {x : Nat} (hx : stB x 4 = true) : ∃ k, x = 2147483648 + k ∧ k + 4 ≤ 65536 := by
  have h := stB_le hx
  exact ⟨x - 2147483648, by omega, by omega⟩
theorem ld_st (m : Nat → UInt8) (x v : Nat) (hx : stB x 4 = true) (hv : v < 4294967296) : ldV (stM m x 4 v) x 4 = v := by
  obtain ⟨k, rfl, hk⟩ := ram_off hx
  unfold ldV
  rw [if_pos hx, show (2147483648 + k - 2147483648) = k by omega]
  have h := leT_dig (f := fun j => (stM m (2147483648 + k) 4 v j).toNat) v 4 k 0 fun i hi => by
    show (stM m (2147483648 + k) ((4 : Nat) : Int) v (k + i)).toNat = _
    rw [stM_at m k 4 v hk (by omega), if_pos (by omega), UInt8.toNat_ofNat', show k + i - k = 0 + i by omega]
  refine h.trans ?_
  rw [Nat.pow_zero, Nat.div_one]
  exact Nat.mod_eq_of_lt hv
theorem ld_far (m : Nat → UInt8) (x y v : Nat) (hx : stB x 4 = true) (hy : stB y 4 = true) (h : x + 4 ≤ y ∨ y + 4 ≤ x) : ldV (stM m x 4 v) y 4 = ldV m y 4 := by
  obtain ⟨k, rfl, hk⟩ := ram_off hx
  obtain ⟨j, rfl, hj⟩ := ram_off hy
  unfold ldV
  rw [if_pos hy, if_pos hy, show (2147483648 + j - 2147483648) = j by omega]
  refine leT_congr 4 j j fun i hi => ?_
  show (stM m (2147483648 + k) ((4 : Nat) : Int) v (j + i)).toNat = _
  rw [stM_at m k 4 v hk (by omega), if_neg (by omega)]
end Go.Proofs.Ytegaiphhoinilaa.Rc
