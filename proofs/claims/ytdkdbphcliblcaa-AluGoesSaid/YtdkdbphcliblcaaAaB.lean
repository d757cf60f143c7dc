/-
Layer 14: the reference's high, bitwise.
-/
import Derived.Test.YtdkdbphcliblcaaAaA
namespace Go.Proofs.Ytdkdbphcliblcaa.Al
open Go Go.RowKit

theorem mul_in (a b : Int) (A B : Nat) (h1 : a.natAbs ≤ A) (h2 : b.natAbs ≤ B) : (a * b).natAbs ≤ A * B := by
  rw [Int.natAbs_mul]
  exact Nat.mul_le_mul h1 h2
/-- a product's upper half -/
def hiA (a b : Int) : Nat := lowA (a * b / 4294967296)
theorem hi_parts (a b : Int) : (a * (b / 65536) + a * (b - 65536 * (b / 65536)) / 65536) / 65536 = a * b / 4294967296 := by
  have e : a * b = a * (b - 65536 * (b / 65536)) + 65536 * (a * (b / 65536)) := by
    rw [Int.mul_sub, Int.mul_left_comm]
    omega
  have e2 : a * b / 65536 = a * (b / 65536) + a * (b - 65536 * (b / 65536)) / 65536 := by
    rw [e, Int.add_mul_ediv_left _ _ (by decide)]
    omega
  rw [← e2, Int.ediv_ediv_of_nonneg (by decide)]
  rfl
set_option maxRecDepth 100000 in
set_option maxHeartbeats 2000000 in
theorem high_any (a b : Int) (w : World) (ha : -2147483648 ≤ a ∧ a < 4294967296) (hb : -2147483648 ≤ b ∧ b < 4294967296) :
    Calls Try.prog 34 #[.int .i64 a, .int .i64 b] w fun e w' => e = .returned (.int .i64 ((hiA a b : Nat) : Int)) ∧ w = w' := by
  have kb := fun W => floor_any b 65536 W (by omega) (by omega) (by decide) (by decide)
  have hp := hi_parts a b
  obtain ⟨h, hh⟩ : ∃ h, h = b / 65536 := ⟨_, rfl⟩
  rw [← hh] at kb hp
  obtain ⟨l, hl⟩ : ∃ l, l = b - 65536 * h := ⟨_, rfl⟩
  rw [← hl] at hp
  have hl1 : 0 ≤ l ∧ l < 65536 := by omega
  have hh1 : -32768 ≤ h ∧ h < 65536 := by omega
  have m1 := mul_in a h 4294967296 65536 (by omega) (by omega)
  have m2 := mul_in a l 4294967296 65536 (by omega) (by omega)
  obtain ⟨p, hpp⟩ : ∃ p, p = a * h := ⟨_, rfl⟩
  obtain ⟨q, hq⟩ : ∃ q, q = a * l := ⟨_, rfl⟩
  rw [← hpp] at m1 hp
  rw [← hq] at m2 hp
  have b1 : -281474976710656 ≤ p ∧ p ≤ 281474976710656 := by omega
  have b2 : -281474976710656 ≤ q ∧ q ≤ 281474976710656 := by omega
  have kq := fun W => floor_any q 65536 W (by omega) (by omega) (by decide) (by decide)
  obtain ⟨r, hr⟩ : ∃ r, r = q / 65536 := ⟨_, rfl⟩
  rw [← hr] at kq hp
  have b3 : -4294967297 ≤ r ∧ r ≤ 4294967297 := by omega
  have kx := fun W => floor_any (p + r) 65536 W (by omega) (by omega) (by decide) (by decide)
  rw [hp] at kx
  have b4 : -9223372036854775808 ≤ a * b / 4294967296 ∧ a * b / 4294967296 ≤ 9223372036854775807 := by rw [← hp]; omega
  have kl := fun W => low_any (a * b / 4294967296) W b4.1 b4.2
  have eh : ((hiA a b : Nat) : Int) = ((lowA (a * b / 4294967296) : Nat) : Int) := rfl
  rw [eh]
  generalize lowA (a * b / 4294967296) = z at *
  generalize a * b / 4294967296 = y at *
  have e1 : a * h = p := hpp.symm
  have e2 : a * l = q := hq.symm
  have e3 : b - 65536 * h = l := hl.symm
  obtain ⟨b11, b12⟩ := b1
  obtain ⟨b21, b22⟩ := b2
  obtain ⟨b31, b32⟩ := b3
  obtain ⟨hh11, hh12⟩ := hh1
  clear hh hl hpp hq hr m1 m2 hp eh
  go_enter Try.func34, Try.ntmps34
  go_wp2_with (first
    | (go_at_call 30; with_reducible refine (kb _).mono ?_; rintro e w2 ⟨rfl, rfl⟩)
    | (go_at_call 30; with_reducible refine (kq _).mono ?_; rintro e w2 ⟨rfl, rfl⟩)
    | (go_at_call 30; with_reducible refine (kx _).mono ?_; rintro e w2 ⟨rfl, rfl⟩)
    | (go_at_call 29; with_reducible refine (kl _).mono ?_; rintro e w2 ⟨rfl, rfl⟩))
  go_ret
  exact ⟨rfl, rfl⟩
end Go.Proofs.Ytdkdbphcliblcaa.Al
