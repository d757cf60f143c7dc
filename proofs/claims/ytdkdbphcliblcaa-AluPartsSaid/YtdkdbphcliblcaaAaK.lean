/-
Layer 14: the numbers that AluParts speaks of.
-/
import Derived.Test.YtdkdbphcliblcaaAaH
namespace Go.Proofs.Ytdkdbphcliblcaa.Al
open Go Go.RowKit

theorem or_u (h l : Nat) (hh : h < 4294967296) (hl : l < 4294967296) : bits .or .u64 ((h : Int) * 4294967296) (l : Int) = (h : Int) * 4294967296 + l := by
  obtain ⟨x, hx⟩ : ∃ x, x = 2 ^ 32 * h := ⟨_, rfl⟩
  have e : (h : Int) * 4294967296 = (x : Int) := by omega
  have ho : x + l = x ||| l := by rw [hx]; exact Nat.two_pow_add_eq_or_of_lt hl h
  rw [e, u64_or_nat x l (by omega) (by omega), ← ho]
  omega
theorem or_i (s : Int) (l : Nat) (h1 : -2147483648 ≤ s) (h2 : s < 2147483648) (hl : l < 4294967296) : bits .or .i64 (s * 4294967296) (l : Int) = s * 4294967296 + l := by
  show IntKind.i64.wrap ((BitVec.ofInt 64 (s * 4294967296) ||| BitVec.ofInt 64 (l : Int)).toNat : Int) = _
  obtain ⟨h, hh⟩ : ∃ h, h = (s % 4294967296).toNat := ⟨_, rfl⟩
  have e1 : (BitVec.ofInt 64 (s * 4294967296)).toNat = 2 ^ 32 * h := by rw [BitVec.toNat_ofInt]; omega
  have e2 : (BitVec.ofInt 64 (l : Int)).toNat = l := by rw [BitVec.toNat_ofInt]; omega
  rw [BitVec.toNat_or, e1, e2, ← Nat.two_pow_add_eq_or_of_lt hl h, IntKind.wrap_i64]
  omega
theorem sgA_low (z : Int) (h1 : -2147483648 ≤ z) (h2 : z < 2147483648) : sgA (lowA z) = z := by unfold sgA lowA; split <;> omega
theorem sgA_mod (x : Nat) : (sgA x) % 4294967296 = (x : Int) % 4294967296 := by unfold sgA; split <;> omega
theorem prod_in (x y : Int) (h1 : -2147483648 ≤ x) (h2 : x < 2147483648) (h3 : -2147483648 ≤ y) (h4 : y < 2147483648) : -4611686018427387904 ≤ x * y ∧ x * y ≤ 4611686018427387904 := by
  have h : (x * y).natAbs ≤ 2147483648 * 2147483648 := by
    rw [Int.natAbs_mul]
    exact Nat.mul_le_mul (by omega) (by omega)
  omega
theorem tmod_sign (x y : Int) (h1 : -2147483648 ≤ x) (h2 : x < 2147483648) (h3 : -2147483648 ≤ y) (h4 : y < 2147483648) (hy : y ≠ 0) :
    -2147483648 < x.tmod y ∧ x.tmod y < 2147483648 ∧ (0 ≤ x → 0 ≤ x.tmod y) ∧ (x < 0 → x.tmod y ≤ 0) := by
  have hb : ∀ u v : Int, 0 ≤ u → -2147483648 ≤ v → v < 2147483648 → v ≠ 0 → 0 ≤ u.tmod v ∧ u.tmod v < 2147483648 := by
    intro u v hu g1 g2 g3
    refine ⟨Int.tmod_nonneg _ hu, ?_⟩
    by_cases hv : 0 < v
    · have := Int.tmod_lt_of_pos u hv
      omega
    · have := Int.tmod_lt_of_pos u (show 0 < -v by omega)
      rw [Int.tmod_neg] at this
      omega
  by_cases hx : 0 ≤ x
  · have := hb x y hx h3 h4 hy
    exact ⟨by omega, by omega, fun _ => this.1, fun h => by omega⟩
  · have := hb (-x) y (by omega) h3 h4 hy
    rw [Int.neg_tmod] at this
    exact ⟨by omega, by omega, fun h => by omega, fun _ => by omega⟩
structure Parts (a b q r p l L H G : Nat) : Prop where
  q0 : (reckN 43 a b).1 = q
  r0 : (reckN 45 a b).1 = r
  p0 : (reckN 42 a b).1 = p
  l0 : (reckN 44 a b).1 = l
  L0 : (reckN 38 a b).1 = L
  H0 : (reckN 41 a b).1 = H
  G0 : (reckN 39 a b).1 = G
  q1 : q < 4294967296
  r1 : r < 4294967296
  p1 : p < 4294967296
  l1 : l < 4294967296
  L1 : L < 4294967296
  H1 : H < 4294967296
  G1 : G < 4294967296
  u : (H : Int) * 4294967296 + L = (a : Int) * b
  s : sgA G * 4294967296 + L = sgA a * sgA b
  z : b = 0 → r = a ∧ l = a ∧ q = 4294967295 ∧ p = 4294967295
  d : b ≠ 0 → ((q : Int) * b + r) % 4294967296 = a ∧ ((p : Int) * b + l) % 4294967296 = a ∧ r < b
  n : b ≠ 0 → l ≠ 0 → (0 ≤ sgA l ↔ 0 ≤ sgA a)
theorem lowA_mod (x y : Int) (h : x % 4294967296 = y % 4294967296) : lowA x = lowA y := by unfold lowA; rw [h]
theorem parts (a b : Nat) (ha : a < 4294967296) (hb : b < 4294967296) : ∃ q r p l L H G : Nat, Parts a b q r p l L H G := by
  have hsa := sgA_in a ha
  have hsb := sgA_in b hb
  have hL : lowA ((a : Int) * b) = lowA (sgA a * sgA b) := by
    refine lowA_mod _ _ ?_
    rw [Int.mul_emod, Int.mul_emod (sgA a), sgA_mod, sgA_mod]
  have hp := prod_in (sgA a) (sgA b) hsa.1 hsa.2 hsb.1 hsb.2
  have hab : a * b ≤ 4294967295 * 4294967295 := Nat.mul_le_mul (by omega) (by omega)
  have eab : ((a * b : Nat) : Int) = (a : Int) * b := Int.natCast_mul a b
  refine ⟨_, _, _, _, _, _, _, rfl, rfl, rfl, rfl, rfl, rfl, rfl, reckN_lt _ _ _ ha hb, reckN_lt _ _ _ ha hb, reckN_lt _ _ _ ha hb, reckN_lt _ _ _ ha hb, reckN_lt _ _ _ ha hb, reckN_lt _ _ _ ha hb, reckN_lt _ _ _ ha hb, ?_, ?_, ?_, ?_, ?_⟩
  · show ((hiA a b : Nat) : Int) * 4294967296 + ((lowA ((a : Int) * b) : Nat) : Int) = _
    unfold hiA
    rw [← eab]
    unfold lowA
    omega
  · show sgA (hiA (sgA a) (sgA b)) * 4294967296 + ((lowA ((a : Int) * b) : Nat) : Int) = _
    rw [hL]
    unfold hiA
    generalize sgA a * sgA b = y at *
    rw [sgA_low _ (by omega) (by omega), lowA_is]
    omega
  · rintro rfl
    exact ⟨rfl, rfl, rfl, rfl⟩
  · intro h
    have e43 : (reckN 43 a b).1 = a / b := if_neg h
    have e45 : (reckN 45 a b).1 = a % b := if_neg h
    have e42 : (reckN 42 a b).1 = lowA ((sgA a).tdiv (sgA b)) := if_neg h
    have e44 : (reckN 44 a b).1 = lowA ((sgA a).tmod (sgA b)) := if_neg h
    rw [e43, e45, e42, e44]
    refine ⟨?_, ?_, Nat.mod_lt _ (by omega)⟩
    · rw [← Int.natCast_mul, ← Int.natCast_add, Nat.mul_comm, Nat.div_add_mod]
      omega
    · have e := Int.mul_tdiv_add_tmod (sgA a) (sgA b)
      rw [Int.mul_comm] at e
      rw [lowA_is, lowA_is, Int.add_emod, Int.mul_emod, Int.emod_emod_of_dvd _ (Int.dvd_refl _), Int.emod_emod_of_dvd _ (Int.dvd_refl _), ← sgA_mod b, ← Int.mul_emod, ← Int.add_emod, e, sgA_mod]
      omega
  · intro h
    have e44 : (reckN 44 a b).1 = lowA ((sgA a).tmod (sgA b)) := if_neg h
    rw [e44]
    have ht := tmod_sign (sgA a) (sgA b) hsa.1 hsa.2 hsb.1 hsb.2 (sgA_ne h hb)
    generalize (sgA a).tmod (sgA b) = m at *
    intro hl
    have hm : m ≠ 0 := fun e => hl (by rw [e]; rfl)
    rw [sgA_low m (by omega) (by omega)]
    omega
theorem w64_s (x : Int) (h : -2147483648 ≤ x ∧ x < 2147483648) : wrap64 x = x := by unfold wrap64; omega
theorem w64_p (x : Int) (h : -4611686018427387904 ≤ x ∧ x ≤ 4611686018427387904) : wrap64 x = x := by unfold wrap64; omega
theorem w64_g (G : Nat) (h : G < 4294967296) : wrap64 ((G : Int) * 4294967296) = sgA G * 4294967296 := by unfold wrap64 sgA; split <;> omega
theorem w32_a (a : Nat) (h : a < 4294967296) : wrap32 (a : Int) = sgA a := by unfold wrap32 sgA; split <;> omega
theorem w_u (x y : Nat) (h1 : x < 4294967296) (h2 : y < 4294967296) : IntKind.u64.wrap ((x : Int) * (y : Int)) = (x : Int) * y := by
  have h : x * y ≤ 4294967295 * 4294967295 := Nat.mul_le_mul (by omega) (by omega)
  rw [← Int.natCast_mul, IntKind.wrap_u64]
  omega
theorem ne_z (b : Nat) (h : b ≠ 0) : ((b : Int) == 0) = false := by
  have : (b : Int) ≠ 0 := by omega
  simpa using this
end Go.Proofs.Ytdkdbphcliblcaa.Al
