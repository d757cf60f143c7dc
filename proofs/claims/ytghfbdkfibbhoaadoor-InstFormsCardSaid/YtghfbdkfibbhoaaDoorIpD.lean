/-
Layer 11, plain: a number found in a word is put back as it was; decoding and encoding agree.
-/
import Derived.Test.YtghfbdkfibbhoaaDoorIpC
namespace Go.Proofs.YtghfbdkfibbhoaaDoor
open Go Go.RowKit

def optB (o : Option Nat) (w : Nat) : Bool :=
  match o with
  | none => false
  | some i => w.testBit i
/-- the bit of the word that bit k of the number is -/
def srcV (f : Fm) (k : Nat) : Option Nat :=
  match f with
  | .I | .C | .Z => bif decide (k < 12) then some (20 + k) else none
  | .S => bif decide (k < 5) then some (7 + k) else bif decide (k < 12) then some (25 + (k - 5)) else none
  | .B => bif decide (k < 1) then none else bif decide (k < 5) then some (8 + (k - 1)) else bif decide (k < 11) then some (25 + (k - 5)) else bif decide (k < 12) then some 7 else bif decide (k < 13) then some 31 else none
  | .J => bif decide (k < 1) then none else bif decide (k < 11) then some (21 + (k - 1)) else bif decide (k < 12) then some 20 else bif decide (k < 20) then some (12 + (k - 12)) else bif decide (k < 21) then some 31 else none
  | .U => bif decide (k < 12) then none else bif decide (k < 32) then some (12 + (k - 12)) else none
  | .T => bif decide (k < 5) then some (20 + k) else none
  | _ => none
theorem mul_add_bit (a b s m k : Nat) (hm : m = 2 ^ s) (hb : b < 2 ^ s) : (a * m + b).testBit k = bif decide (k < s) then b.testBit k else a.testBit (k - s) := by
  rw [hm, Nat.mul_comm, Nat.testBit_two_pow_mul_add a hb k]
  by_cases h : k < s <;> simp [h]
theorem part_bit (w a b k : Nat) : (bitsN w a b).testBit k = (decide (k < a - b + 1) && w.testBit (b + k)) := bitsN_bit w a b k
theorem imm_bitI (w k : Nat) (hk : k < 12) : (bitsN w 31 20).testBit k = w.testBit (20 + k) := by
  rw [bitsN_bit]; simp [hk]
theorem imm_bitT (w k : Nat) (hk : k < 5) : (bitsN w 24 20).testBit k = w.testBit (20 + k) := by
  rw [bitsN_bit]; simp [hk]
theorem imm_bitS (w k : Nat) (hk : k < 12) : (bitsN w 31 25 * 32 + bitsN w 11 7).testBit k = optB (srcV .S k) w := by
  rw [mul_add_bit _ _ 5 32 k rfl (bitsN_lt w 11 7), bitsN_bit, bitsN_bit]
  unfold srcV
  by_cases h : k < 5
  · simp [h, optB]
  · have : k - 5 < 7 := by omega
    simp [h, hk, this, optB]
theorem imm_bitB (w k : Nat) (hk : k < 13) : (bitsN w 31 31 * 4096 + bitsN w 7 7 * 2048 + bitsN w 30 25 * 32 + bitsN w 11 8 * 2).testBit k = optB (srcV .B k) w := by
  have p1 : bitsN w 11 8 < 16 := bitsN_lt w 11 8
  have p2 : bitsN w 30 25 < 64 := bitsN_lt w 30 25
  have p3 : bitsN w 7 7 < 2 := bitsN_lt w 7 7
  rw [show bitsN w 31 31 * 4096 + bitsN w 7 7 * 2048 + bitsN w 30 25 * 32 + bitsN w 11 8 * 2 = bitsN w 31 31 * 4096 + (bitsN w 7 7 * 2048 + (bitsN w 30 25 * 32 + (bitsN w 11 8 * 2 + 0))) by omega,
    mul_add_bit _ _ 12 4096 k rfl (by omega), mul_add_bit _ _ 11 2048 k rfl (by omega), mul_add_bit _ _ 5 32 k rfl (by omega), mul_add_bit _ _ 1 2 k rfl (by decide), bitsN_bit, bitsN_bit, bitsN_bit, bitsN_bit]
  unfold srcV
  by_cases h1 : k < 1
  · have e1 : k < 5 := by omega
    have e2 : k < 11 := by omega
    have e3 : k < 12 := by omega
    simp [h1, e1, e2, e3, optB]
  · by_cases h2 : k < 5
    · have e2 : k < 11 := by omega
      have e3 : k < 12 := by omega
      have e4 : k - 1 < 4 := by omega
      simp [h1, h2, e2, e3, e4, optB]
    · by_cases h3 : k < 11
      · have e3 : k < 12 := by omega
        have e4 : k - 5 < 6 := by omega
        simp [h1, h2, h3, e3, e4, optB]
      · by_cases h4 : k < 12
        · obtain rfl : k = 11 := by omega
          simp [optB]
        · obtain rfl : k = 12 := by omega
          simp [optB]
theorem imm_bitJ (w k : Nat) (hk : k < 21) : (bitsN w 31 31 * 1048576 + bitsN w 19 12 * 4096 + bitsN w 20 20 * 2048 + bitsN w 30 21 * 2).testBit k = optB (srcV .J k) w := by
  have p1 : bitsN w 30 21 < 1024 := bitsN_lt w 30 21
  have p2 : bitsN w 20 20 < 2 := bitsN_lt w 20 20
  have p3 : bitsN w 19 12 < 256 := bitsN_lt w 19 12
  rw [show bitsN w 31 31 * 1048576 + bitsN w 19 12 * 4096 + bitsN w 20 20 * 2048 + bitsN w 30 21 * 2 = bitsN w 31 31 * 1048576 + (bitsN w 19 12 * 4096 + (bitsN w 20 20 * 2048 + (bitsN w 30 21 * 2 + 0))) by omega,
    mul_add_bit _ _ 20 1048576 k rfl (by omega), mul_add_bit _ _ 12 4096 k rfl (by omega), mul_add_bit _ _ 11 2048 k rfl (by omega), mul_add_bit _ _ 1 2 k rfl (by decide), bitsN_bit, bitsN_bit, bitsN_bit, bitsN_bit]
  unfold srcV
  by_cases h1 : k < 1
  · have e1 : k < 11 := by omega
    have e2 : k < 12 := by omega
    have e3 : k < 20 := by omega
    simp [h1, e1, e2, e3, optB]
  · by_cases h2 : k < 11
    · have e2 : k < 12 := by omega
      have e3 : k < 20 := by omega
      have e4 : k - 1 < 10 := by omega
      simp [h1, h2, e2, e3, e4, optB]
    · by_cases h3 : k < 12
      · obtain rfl : k = 11 := by omega
        simp [optB]
      · by_cases h4 : k < 20
        · have e4 : k - 12 < 8 := by omega
          simp [h1, h2, h3, h4, e4, optB]
        · obtain rfl : k = 20 := by omega
          simp [optB]
theorem imm_bitU (w k : Nat) (h1 : 12 ≤ k) (hk : k < 32) : (bitsN w 31 12 * 4096).testBit k = w.testBit (12 + (k - 12)) := by
  rw [← Nat.add_zero (bitsN w 31 12 * 4096), mul_add_bit _ _ 12 4096 k rfl (by decide), bitsN_bit]
  have e1 : ¬ k < 12 := by omega
  have e2 : k - 12 < 20 := by omega
  simp [e1, e2]
def nF : Fm → Nat
  | .I | .S => 12
  | .C | .Z => 12
  | .B => 13
  | .J => 21
  | .U => 32
  | .T => 5
  | _ => 0
/-- a bit of the number that the program finds -/
theorem immL_bit (f : Fm) (w k i : Nat) (hk : k < nF f) (h : srcV f k = some i) : (immL f w).testBit k = w.testBit i := by
  have hx : bitsN w 31 20 < 4096 := bitsN_lt w 31 20
  cases f <;> (unfold immL; dsimp only)
  case I =>
    rw [sgnU_bit _ 12 k (by decide) hx hk, imm_bitI w k hk]
    unfold srcV at h
    simp [show k < 12 from hk] at h
    rw [h]
  case C =>
    rw [imm_bitI w k hk]
    unfold srcV at h
    simp [show k < 12 from hk] at h
    rw [h]
  case Z =>
    rw [imm_bitI w k hk]
    unfold srcV at h
    simp [show k < 12 from hk] at h
    rw [h]
  case T =>
    rw [imm_bitT w k hk]
    unfold srcV at h
    simp [show k < 5 from hk] at h
    rw [h]
  case S => rw [sgnU_bit _ 12 k (by decide) (immS_lt w) hk, imm_bitS w k hk, h]; rfl
  case B => rw [sgnU_bit _ 13 k (by decide) (immB_lt w) hk, imm_bitB w k hk, h]; rfl
  case J => rw [sgnU_bit _ 21 k (by decide) (immJ_lt w) hk, imm_bitJ w k hk, h]; rfl
  case U =>
    unfold srcV at h
    dsimp only at h
    by_cases h1 : k < 12
    · simp [h1] at h
    · simp [h1, show k < 32 from hk] at h
      rw [imm_bitU w k (by omega) hk, h]
  all_goals exact absurd hk (Nat.not_lt_zero _)
theorem srcI_back : ∀ f : Fm, f ≠ .O → ∀ i, i < 32 → ∀ k, srcI f i = .n k → k < nF f ∧ srcV f k = some i := by
  intro f hf
  have hall : (List.range 32).all (fun i => match srcI f i with | .n k => decide (k < nF f) && decide (srcV f k = some i) | _ => true) = true := by
    cases f <;> first | exact absurd rfl hf | decide +kernel
  intro i hi k hk
  have h := List.all_eq_true.1 hall i (List.mem_range.2 hi)
  rw [hk] at h
  obtain ⟨h1, h2⟩ := Bool.and_eq_true_iff.1 h
  exact ⟨of_decide_eq_true h1, of_decide_eq_true h2⟩
theorem imm_back (f : Fm) (hf : f ≠ .O) (w i k : Nat) (hi : i < 32) (hk : srcI f i = .n k) : (immL f w).testBit k = w.testBit i := by
  obtain ⟨h1, h2⟩ := srcI_back f hf i hi k hk
  exact immL_bit f w k i h1 h2
theorem srcI_ne (f : Fm) (i j : Nat) : srcI f i ≠ .a j ∧ srcI f i ≠ .b j ∧ srcI f i ≠ .c j := by
  have ho : ∀ o : Option Nat, srcO o ≠ .a j ∧ srcO o ≠ .b j ∧ srcO o ≠ .c j := by
    intro o; cases o <;> simp [srcO]
  cases f <;> (unfold srcI; dsimp only) <;> first | exact ho _ | (cases inB 24 20 i <;> simp) | simp
/-- a word with its own number put is itself -/
theorem setL_back (f : Fm) (hf : f = .I ∨ f = .S ∨ f = .B ∨ f = .U ∨ f = .J) (w : Nat) (hw : w < 4294967296) : setL f w (immL f w) = w := by
  refine eq_bits (setL_lt f w _ hw) hw fun i hi => ?_
  have e : (setL f w (immL f w)) = immF f w (immL f w) := by rcases hf with rfl | rfl | rfl | rfl | rfl <;> rfl
  have hO : f ≠ .O := by rcases hf with rfl | rfl | rfl | rfl | rfl <;> decide
  rw [e, immF_bit f w 0 0 0 (immL f w) i hi]
  cases hs : srcI f i with
  | k => rfl
  | n k => exact imm_back f hO w i k hi hs
  | a j => exact absurd hs (srcI_ne f i j).1
  | b j => exact absurd hs (srcI_ne f i j).2.1
  | c j => exact absurd hs (srcI_ne f i j).2.2
end Go.Proofs.YtghfbdkfibbhoaaDoor
