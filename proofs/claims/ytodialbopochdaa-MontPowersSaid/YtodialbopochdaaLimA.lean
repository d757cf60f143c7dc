/-
Words of 32 bits: sum and difference with a carry and a borrow.
-/
import Derived.Test.YtodialbopochdaaLimM
import Derived.Test.YtodialbopochdaaWords
import Derived.Test.YtodialbopochdaaMem2
import Derived.WalkSpells
import Derived.WalkLawsBesides
import Derived.Outline
import Derived.Deep.QuietTactic
import Derived.BigQuiet
import Derived.BigRegion
import Derived.Lib.Hide
import Derived.IntWalk
namespace Go.Proofs.Ytodialbopochdaa
open Go.RowKit

def wsub (x y : UInt32) : UInt32 := x - y
def wor (x y : UInt32) : UInt32 := x ||| y
def wtop (x : UInt32) : UInt32 := x >>> 31
theorem u32_sub_w (x y : UInt32) : IntKind.u32.wrap ((x.toNat : Int) - (y.toNat : Int)) = ((wsub x y).toNat : Int) := by
  have hx := x.toNat_lt; have hy := y.toNat_lt
  rw [IntKind.wrap_u32, wsub, UInt32.toNat_sub]; omega
theorem u32_or_w (x y : UInt32) : bits .or .u32 (x.toNat : Int) (y.toNat : Int) = ((wor x y).toNat : Int) := by
  rw [u32_or_nat _ _ x.toNat_lt y.toNat_lt, wor, UInt32.toNat_or]
theorem u32_top_w (x : UInt32) : (x.toNat : Int) / 2147483648 = ((wtop x).toNat : Int) := by
  rw [wtop, UInt32.toNat_shiftRight]; simp [Nat.shiftRight_eq_div_pow]
/-- what bits.Sub32 borrows, as its text has it -/
def borW (x y d : UInt32) : UInt32 := wtop (wor (wand (wnot x) y) (wand (wnot (wxor x y)) d))
theorem top_and (a b : Nat) : (a &&& b) / 2147483648 = a / 2147483648 &&& b / 2147483648 := Nat.and_div_two_pow (n := 31)
theorem top_or (a b : Nat) : (a ||| b) / 2147483648 = a / 2147483648 ||| b / 2147483648 := Nat.or_div_two_pow (n := 31)
theorem top_xor (a b : Nat) : (a ^^^ b) / 2147483648 = a / 2147483648 ^^^ b / 2147483648 := Nat.xor_div_two_pow (n := 31)
theorem borW_toNat (x y c : UInt32) (hc : c.toNat ≤ 1) : (borW x y (wsub (wsub x y) c)).toNat = if x.toNat < y.toNat + c.toNat then 1 else 0 := by
  have hx := x.toNat_lt; have hy := y.toNat_lt
  unfold borW wtop wor wand wnot wxor wsub
  rw [UInt32.toNat_shiftRight, UInt32.toNat_or, UInt32.toNat_and, UInt32.toNat_and, UInt32.toNat_not, UInt32.toNat_not, UInt32.toNat_xor, UInt32.toNat_sub, UInt32.toNat_sub]
  have e31 : (31 : UInt32).toNat % 32 = 31 := rfl
  rw [e31, Nat.shiftRight_eq_div_pow]
  have e2 : 2 ^ 31 = 2147483648 := rfl
  rw [e2, top_or, top_and, top_and]
  have hz : ∀ z : Nat, z < 4294967296 → (UInt32.size - 1 - z) / 2147483648 = 1 - z / 2147483648 := fun z hz => by
    have : UInt32.size = 4294967296 := rfl
    omega
  have hxy : (x.toNat ^^^ y.toNat) < 4294967296 := Nat.xor_lt_two_pow (n := 32) hx hy
  rw [hz _ hx, hz _ hxy, top_xor]
  obtain ⟨d, hd⟩ : ∃ d, d = (2 ^ 32 - c.toNat + (2 ^ 32 - y.toNat + x.toNat) % 2 ^ 32) % 2 ^ 32 := ⟨_, rfl⟩
  rw [← hd]
  have hd2 : d < 4294967296 := by omega
  rcases (show x.toNat / 2147483648 = 0 ∨ x.toNat / 2147483648 = 1 by omega) with h1 | h1 <;> rcases (show y.toNat / 2147483648 = 0 ∨ y.toNat / 2147483648 = 1 by omega) with h2 | h2 <;>
    rcases (show d / 2147483648 = 0 ∨ d / 2147483648 = 1 by omega) with h3 | h3 <;> rw [h1, h2, h3] <;> split <;> first | decide | (exfalso; omega) | skip

attribute [local go_sem] u32_sub_w u32_or_w u32_top_w u32_xor_w u32_and_w u32_not_w
set_option maxHeartbeats 400000 in
theorem sub32_w (x y c : UInt32) (w : World) :
    Calls Try.prog 45 #[.int .u32 x.toNat, .int .u32 y.toNat, .int .u32 c.toNat] w fun e w' => e = .returned (.tuple #[.int .u32 (wsub (wsub x y) c).toNat, .int .u32 (borW x y (wsub (wsub x y) c)).toNat]) ∧ w = w' := by
  go_enter Try.func45, Try.ntmps45
  go_wp2
  go_ret2
  exact ⟨rfl, rfl⟩
/-- x - y - c, and whether it is below 0 -/
def subW (x y c : Nat) : Nat := (x + 8589934592 - y - c) % 4294967296
def subB (x y c : Nat) : Nat := if x < y + c then 1 else 0
theorem sub32_any (x y c : Nat) (w : World) (hx : x < 4294967296) (hy : y < 4294967296) (hc : c ≤ 1) :
    Calls Try.prog 45 #[.int .u32 (x : Int), .int .u32 (y : Int), .int .u32 (c : Int)] w fun e w' => e = .returned (.tuple #[.int .u32 ((subW x y c : Nat) : Int), .int .u32 ((subB x y c : Nat) : Int)]) ∧ w = w' := by
  have ex : x = (UInt32.ofNat x).toNat := (UInt32.toNat_ofNat_of_lt' hx).symm
  have ey : y = (UInt32.ofNat y).toNat := (UInt32.toNat_ofNat_of_lt' hy).symm
  have ec : c = (UInt32.ofNat c).toNat := (UInt32.toNat_ofNat_of_lt' (by omega : c < 4294967296)).symm
  have h := sub32_w (UInt32.ofNat x) (UInt32.ofNat y) (UInt32.ofNat c) w
  rw [borW_toNat _ _ _ (by omega), ← ex, ← ey, ← ec] at h
  have e : (wsub (wsub (UInt32.ofNat x) (UInt32.ofNat y)) (UInt32.ofNat c)).toNat = subW x y c := by
    unfold wsub subW
    rw [UInt32.toNat_sub, UInt32.toNat_sub, ← ex, ← ey, ← ec]
    omega
  rw [e] at h
  exact h
/-- x + y + c, and what is carried -/
def addW (x y c : Nat) : Nat := (x + y + c) % 4294967296
def addC (x y c : Nat) : Nat := (x + y + c) / 4294967296
set_option maxHeartbeats 400000 in
theorem add32_any (x y c : Nat) (w : World) (hx : x < 4294967296) (hy : y < 4294967296) (hc : c ≤ 1) :
    Calls Try.prog 44 #[.int .u32 (x : Int), .int .u32 (y : Int), .int .u32 (c : Int)] w fun e w' => e = .returned (.tuple #[.int .u32 ((addW x y c : Nat) : Int), .int .u32 ((addC x y c : Nat) : Int)]) ∧ w = w' := by
  have hw := addW.eq_def x y c
  go_enter Try.func44, Try.ntmps44
  go_wp2
  go_ret2
  refine ⟨?_, rfl⟩
  congr 3 <;> unfold addW addC <;> omega
end Go.Proofs.Ytodialbopochdaa
