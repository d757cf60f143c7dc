/-
Layer 12: the library's TrailingZeros32; package pmp's address, napotRange, end, napot.
-/
import Derived.Test.YthaockngbagdhaaDoorPmC
import Derived.Test.YthaockngbagdhaaDoorPnT
import Derived.Laws.BitsAllLaws
namespace Go.Proofs.YthaockngbagdhaaDoor.Pm
open Go Go.RowKit

/-- how many ones a number ends in, by the zeros that its complement ends in -/
theorem ctzF_ones : ∀ (n a : Nat), a < 2 ^ n → a ≠ 2 ^ n - 1 → Go.Lib.ctzFrom n (2 ^ n - 1 - a) = onesF n a
  | 0, a, h, h1 => by omega
  | n + 1, a, h, h1 => by
    have hp := Nat.two_pow_pos n
    have e2 : (2 : Nat) ^ (n + 1) = 2 * 2 ^ n := by rw [Nat.pow_succ]; omega
    show (if (2 ^ (n + 1) - 1 - a) % 2 = 1 then 0 else 1 + Go.Lib.ctzFrom n ((2 ^ (n + 1) - 1 - a) / 2)) = (if a % 2 = 1 then onesF n (a / 2) + 1 else 0)
    rw [e2] at h h1 ⊢
    by_cases ha : a % 2 = 1
    · rw [if_neg (by omega), if_pos ha, show (2 * 2 ^ n - 1 - a) / 2 = 2 ^ n - 1 - a / 2 by omega, ctzF_ones n (a / 2) (by omega) (by omega), Nat.add_comm]
    · rw [if_pos (by omega), if_neg ha]
theorem onesF_full : ∀ n, onesF n (2 ^ n - 1) = n
  | 0 => rfl
  | n + 1 => by
    have hp := Nat.two_pow_pos n
    have e2 : (2 : Nat) ^ (n + 1) = 2 * 2 ^ n := by rw [Nat.pow_succ]; omega
    rw [onesF_step _ _ (by omega), show (2 ^ (n + 1) - 1) / 2 = 2 ^ n - 1 by omega, onesF_full n]
theorem ctz_ones (a : Nat) (h : a < 4294967296) : Go.Lib.ctz 32 (4294967295 - a) = onesF 32 a := by
  unfold Go.Lib.ctz
  by_cases h1 : a = 4294967295
  · rw [if_pos (by omega), h1]
    exact (onesF_full 32).symm
  · rw [if_neg (by omega)]
    exact ctzF_ones 32 a (by omega) (by omega)
/-- what a number is by its ones -/
theorem ones_form : ∀ (n a : Nat), a < 2 ^ n → a = 2 ^ n - 1 ∨ a = 2 ^ (onesF n a + 1) * (a / 2 ^ (onesF n a + 1)) + (2 ^ onesF n a - 1)
  | 0, a, h => by left; omega
  | n + 1, a, h => by
    have hp := Nat.two_pow_pos n
    have e2 : (2 : Nat) ^ (n + 1) = 2 * 2 ^ n := by rw [Nat.pow_succ]; omega
    by_cases ha : a % 2 = 1
    · rw [onesF_step n a ha]
      rcases ones_form n (a / 2) (by omega) with h1 | h1
      · left; omega
      · right
        generalize onesF n (a / 2) = q at *
        have e3 : (2 : Nat) ^ (q + 1 + 1) = 2 * 2 ^ (q + 1) := by rw [Nat.pow_succ]; omega
        have e4 : (2 : Nat) ^ (q + 1) = 2 * 2 ^ q := by rw [Nat.pow_succ]; omega
        have hq := Nat.two_pow_pos q
        have e5 : a / 2 ^ (q + 1 + 1) = a / 2 / 2 ^ (q + 1) := by rw [e3, Nat.div_div_eq_div_mul]
        rw [e5, e3, Nat.mul_assoc]
        rw [e4] at h1 ⊢
        generalize 2 * 2 ^ q * (a / 2 / (2 * 2 ^ q)) = c at *
        generalize (2 : Nat) ^ q = p at *
        omega
    · right
      rw [onesF_zero _ _ ha]
      simp only [Nat.zero_add, Nat.pow_one, Nat.pow_zero]
      omega
theorem and_succ (m q : Nat) : (2 ^ (q + 1) * m + (2 ^ q - 1)) &&& (2 ^ (q + 1) * m + 2 ^ q) = 2 ^ (q + 1) * m := by
  have hp := Nat.two_pow_pos q
  have e4 : (2 : Nat) ^ (q + 1) = 2 * 2 ^ q := by rw [Nat.pow_succ]; omega
  apply Nat.eq_of_testBit_eq
  intro j
  rw [Nat.testBit_and, Nat.testBit_two_pow_mul_add _ (by omega), Nat.testBit_two_pow_mul_add _ (by omega)]
  have e := Nat.testBit_two_pow_mul_add m (b := 0) (i := q + 1) (by omega) j
  rw [Nat.add_zero] at e
  rw [e]
  by_cases hj : j < q + 1
  · rw [if_pos hj, if_pos hj, if_pos hj, Nat.testBit_two_pow_sub_one, Nat.testBit_two_pow, Nat.zero_testBit]
    by_cases h1 : j < q
    · rw [decide_eq_false (show ¬ q = j by omega), Bool.and_false]
    · rw [decide_eq_false h1, Bool.false_and]
  · rw [if_neg hj, if_neg hj, if_neg hj, Bool.and_self]
/-- where a Napot entry begins, by the bits -/
theorem nap_start (a : Nat) (h : a < 4294967296) : 4 * (a &&& (a + 1) % 4294967296) = 4 * a / napS a * napS a := by
  unfold napS
  rcases ones_form 32 a h with h1 | h1
  · rw [h1, onesF_full]; decide
  · have hle := onesF_le 32 a
    generalize onesF 32 a = q at *
    have hp := Nat.two_pow_pos q
    have e4 : (2 : Nat) ^ (q + 1) = 2 * 2 ^ q := by rw [Nat.pow_succ]; omega
    by_cases h2 : a = 4294967295
    · subst h2
      have hm : (4294967295 : Nat) / 2 ^ (q + 1) < 4294967296 := Nat.lt_of_le_of_lt (Nat.div_le_self _ _) (by decide)
      have e0 : (4294967295 + 1) % 4294967296 = 0 := by decide
      rw [e0, Nat.and_zero]
      by_cases hq : q ≤ 31
      · exfalso
        have hd : 2 ^ (q + 1) ∣ 2 ^ 32 := Nat.pow_dvd_pow 2 (by omega)
        obtain ⟨k, hk⟩ := hd
        have e32 : (2 : Nat) ^ 32 = 4294967296 := by decide
        rw [e32] at hk
        have e6 : 4294967295 / 2 ^ (q + 1) = k - 1 := by
          have hk0 : 0 < k := Nat.pos_of_ne_zero fun h => by subst h; omega
          have e7 : 4294967295 = 2 ^ (q + 1) * (k - 1) + (2 ^ (q + 1) - 1) := by
            have : 2 ^ (q + 1) * k = 2 ^ (q + 1) * (k - 1) + 2 ^ (q + 1) := by
              obtain ⟨k', rfl⟩ : ∃ k', k = k' + 1 := ⟨k - 1, by omega⟩
              rw [Nat.mul_succ]; rfl
            omega
          rw [e7, Nat.mul_add_div (by omega), Nat.div_eq_of_lt (by omega)]; rfl
        rw [e6] at h1
        have : 2 ^ (q + 1) * k = 2 ^ (q + 1) * (k - 1) + 2 ^ (q + 1) := by
          have hk0 : 0 < k := Nat.pos_of_ne_zero fun h => by subst h; omega
          obtain ⟨k', rfl⟩ : ∃ k', k = k' + 1 := ⟨k - 1, by omega⟩
          rw [Nat.mul_succ]; rfl
        omega
      · obtain rfl : q = 32 := by omega
        decide
    · rw [Nat.mod_eq_of_lt (by omega)]
      have e5 := and_succ (a / 2 ^ (q + 1)) q
      have e6 : 2 ^ (q + 1) * (a / 2 ^ (q + 1)) + 2 ^ q = a + 1 := by omega
      rw [← h1, e6] at e5
      rw [e5]
      have e7 : 8 * 2 ^ q = 4 * 2 ^ (q + 1) := by omega
      rw [e7, Nat.mul_div_mul_left _ _ (by decide : 0 < 4), Nat.mul_comm (a / _), Nat.mul_assoc]
set_option maxRecDepth 100000 in
set_option maxHeartbeats 1000000 in
theorem tz32_any (x : Nat) (hx : x < 4294967296) (w : World) (hT : TabT w) :
    Calls Tryd.prog 51 #[.int .u32 (x : Int)] w fun e w' => e = .returned (.int .i64 ((Go.Lib.ctz 32 x : Nat) : Int)) ∧ w' = w := by
  by_cases h0 : x = 0
  · subst h0
    have e0 : Go.Lib.ctz 32 0 = 32 := rfl
    rw [e0]
    go_enter Tryd.func51, Tryd.ntmps51
    go_wp2_with fail
    go_ret
    exact ⟨rfl, rfl⟩
  · obtain ⟨hlow, hk⟩ := Go.Lib.lowest_bit 32 x h0 hx
    obtain ⟨hi, htab⟩ := Go.Lib.deBruijn32_at _ hk
    have hc := hT.c _ hi
    rw [htab] at hc
    generalize Go.Lib.ctz 32 x = k at *
    have hneg : -(x : Int) % 4294967296 = ((2 ^ 32 - x : Nat) : Int) := by
      have : (2 : Nat) ^ 32 = 4294967296 := by decide
      omega
    have hand : bits .and .u32 (x : Int) ((2 ^ 32 - x : Nat) : Int) = ((2 ^ k : Nat) : Int) := by
      rw [u32_and_nat x _ hx (by have : (2 : Nat) ^ 32 = 4294967296 := by decide
                                 omega), hlow]
    have hx0 : ((x : Int) == 0) = false := beq_eq_false_iff_ne.2 (by omega)
    obtain ⟨p, hp⟩ : ∃ p, p = 2 ^ k := ⟨_, rfl⟩
    rw [← hp] at hand hi hc
    obtain ⟨j, hj⟩ : ∃ j, j = p * 125613361 % 4294967296 / 134217728 := ⟨_, rfl⟩
    rw [← hj] at hi hc
    have hidx : (p : Int) * 125613361 % 4294967296 / 134217728 = (j : Int) := by rw [hj, Int.natCast_ediv, Int.natCast_emod, Int.natCast_mul]; rfl
    have hkey : bits .and .u32 (x : Int) (-(x : Int) % 4294967296) * 125613361 % 4294967296 / 134217728 = (j : Int) := by rw [hneg, hand, hidx]
    clear hp hj hneg hand hidx htab hlow
    go_enter Tryd.func51, Tryd.ntmps51
    go_wp2_with (simp only [hkey])
    go_ret
    exact ⟨rfl, rfl⟩
set_option maxRecDepth 100000 in
set_option maxHeartbeats 1000000 in
theorem address_any (x r : Int) (a : Nat) (ha : a < 4294967296) (w : World) :
    Calls Tryd.prog 49 #[.agg #[.int .i64 x, .int .i64 r, .int .u32 (a : Int)]] w fun e w' => e = .returned (.int .u64 ((4 * a : Nat) : Int)) ∧ Below w.heap.size w w' := by
  go_enter Tryd.func49, Tryd.ntmps49
  go_wp2_with fail
  go_ret
  refine ⟨by go_num, ?_⟩
  exact (Below.refl _ w).alloc (Nat.le_refl _) _
theorem below_drew (w : World) : Below w.heap.size w w.drew := below_drewN (Below.refl _ _) 1
/-- the call answers two addresses -/
def retP (f t : Nat) (w : World) (e : Ending) (w' : World) : Prop := e = .returned (.tuple #[.int .u64 (f : Int), .int .u64 (t : Int)]) ∧ Below w.heap.size w w'
theorem not32 (a : Nat) (ha : a < 4294967296) : bits .xor .u32 IntKind.u32.max (a : Int) = ((4294967295 - a : Nat) : Int) := by
  have h := u32_xor_nat 4294967295 a (by decide) ha
  have e : 4294967295 ^^^ a = 4294967295 - a := by
    apply Nat.eq_of_testBit_eq
    intro j
    have h1 := Nat.testBit_two_pow_sub_succ (n := 32) (x := a) (by omega) j
    have h2 := Nat.testBit_two_pow_sub_one 32 j
    have e1 : (2 : Nat) ^ 32 - 1 = 4294967295 := by decide
    rw [show (2 : Nat) ^ 32 - (a + 1) = 4294967295 - a by omega] at h1
    rw [e1] at h2
    rw [Nat.testBit_xor, h1, h2]
    by_cases hj : j < 32
    · rw [decide_eq_true hj, Bool.true_xor, Bool.true_and]
    · have : a < 2 ^ j := Nat.lt_of_lt_of_le (show a < 2 ^ 32 by omega) (Nat.pow_le_pow_right (by decide) (by omega))
      rw [decide_eq_false hj, Nat.testBit_lt_two_pow this]; rfl
  rw [e] at h
  exact h
set_option maxRecDepth 100000 in
set_option maxHeartbeats 1000000 in
theorem napot_range (a : Nat) (ha : a < 4294967296) (w : World) (hT : TabT w) :
    Calls Tryd.prog 50 #[.int .u32 (a : Int)] w (retP (4 * a / napS a * napS a) (4 * a / napS a * napS a + napS a) w) := by
  have kT := tz32_any (4294967295 - a) (by omega) w hT
  rw [ctz_ones a ha] at kT
  have hs := nap_start a ha
  have hand : bits .and .u32 (a : Int) (((a : Int) + 1) % 4294967296) = ((a &&& (a + 1) % 4294967296 : Nat) : Int) := by
    rw [show ((a : Int) + 1) % 4294967296 = (((a + 1) % 4294967296 : Nat) : Int) by omega]
    exact u32_and_nat a ((a + 1) % 4294967296) ha (by omega)
  have hle := onesF_le 32 a
  have hnp : napS a = 8 * 2 ^ onesF 32 a := rfl
  have hlt : a &&& (a + 1) % 4294967296 < 4294967296 := Nat.lt_of_le_of_lt Nat.and_le_left ha
  rw [← hs]
  have hxor := not32 a ha
  generalize (a &&& (a + 1) % 4294967296) = v at *
  generalize onesF 32 a = q at *
  generalize napS a = z at *
  have hz : z ≤ 34359738368 := by
    have hp := pow32 hle
    omega
  unfold retP
  have hsh : IntKind.u64.wrap ((8 : Int) * 2 ^ q) = (z : Int) := by
    rw [hnp, IntKind.wrap_u64]
    have hp := pow32 hle
    generalize hg : (2 : Nat) ^ q = p at *
    have : (2 : Int) ^ q = (p : Int) := by rw [← hg]; simp
    rw [this]; omega
  have hwr : IntKind.u64.wrap (4 * (v : Int) + (z : Int)) = ((4 * v + z : Nat) : Int) := by
    rw [IntKind.wrap_u64]; omega
  clear hnp hs
  go_enter Tryd.func50, Tryd.ntmps50
  go_wp2_with fail
  refine (show Calls Tryd.prog 51 #[.int .u32 ((4294967295 - a : Nat) : Int)] w _ from kT).mono ?_
  rintro e w2 ⟨rfl, hw2⟩
  subst hw2
  go_wp2_with fail
  go_region
  go_wp2_with fail
  go_ret2
  exact ⟨by go_num, below_drew w2⟩
end Go.Proofs.YthaockngbagdhaaDoor.Pm
