/-
Words of 32 bits: how the walk's integer operations read as words of 32 bits.
-/
import Derived.Test.YtodialbopochdaaRows
import Derived.WalkKit
import Derived.Laws.BitsAllLaws
namespace Go.Proofs.Ytodialbopochdaa
open Go

/-- a word as the model's value -/
def wd (x : UInt32) : Value := .int .u32 (x.toNat : Int)

theorem u32_lt (x : UInt32) : x.toNat < 4294967296 := x.toNat_lt
theorem u32_ltI (x : UInt32) : (x.toNat : Int) < 4294967296 := by have := x.toNat_lt; omega
theorem u32_geI (x : UInt32) : 0 ≤ (x.toNat : Int) := by omega

/- The words' operations under names of their own, so that the walk's simp leaves them whole. -/
def wxor (x y : UInt32) : UInt32 := x ^^^ y
def wand (x y : UInt32) : UInt32 := x &&& y
def wadd (x y : UInt32) : UInt32 := x + y
def wnot (x : UInt32) : UInt32 := ~~~x
theorem u32_xor_w (x y : UInt32) : bits .xor .u32 (x.toNat : Int) (y.toNat : Int) = ((wxor x y).toNat : Int) := by
  rw [u32_xor_nat _ _ x.toNat_lt y.toNat_lt, wxor, UInt32.toNat_xor]
theorem u32_and_w (x y : UInt32) : bits .and .u32 (x.toNat : Int) (y.toNat : Int) = ((wand x y).toNat : Int) := by
  rw [u32_and_nat _ _ x.toNat_lt y.toNat_lt, wand, UInt32.toNat_and]
theorem u32_add_w (x y : UInt32) : IntKind.u32.wrap ((x.toNat : Int) + (y.toNat : Int)) = ((wadd x y).toNat : Int) := by
  rw [IntKind.wrap_u32, wadd, UInt32.toNat_add]; omega

theorem u32_not_w (x : UInt32) : bits .xor .u32 (if IntKind.u32.signed = true then -1 else IntKind.u32.max) (x.toNat : Int) = ((wnot x).toNat : Int) := by
  have e : (if IntKind.u32.signed = true then (-1 : Int) else IntKind.u32.max) = ((4294967295 : UInt32).toNat : Int) := rfl
  rw [e, u32_xor_w, wnot, wxor]
  congr 2
/-- x turned to the right by n -/
def rotr (n : Nat) (x : UInt32) : UInt32 := UInt32.ofNat (x.toNat * 2 ^ (32 - n) % 4294967296 ||| x.toNat / 2 ^ n)
def mix (i j k : Nat) (x : UInt32) : UInt32 := wxor (wxor (rotr i x) (rotr j x)) (rotr k x)
def shr (n : Nat) (x : UInt32) : UInt32 := UInt32.ofNat (x.toNat / 2 ^ n)
def mixS (i j k : Nat) (x : UInt32) : UInt32 := wxor (wxor (rotr i x) (rotr j x)) (shr k x)

theorem div_lt (x : UInt32) (n : Nat) : x.toNat / 2 ^ n < 4294967296 := Nat.lt_of_le_of_lt (Nat.div_le_self _ _) x.toNat_lt
theorem shr_toNat (n : Nat) (x : UInt32) : (shr n x).toNat = x.toNat / 2 ^ n := by
  unfold shr; rw [UInt32.toNat_ofNat']; exact Nat.mod_eq_of_lt (div_lt x n)
theorem shr_w (n : Nat) (x : UInt32) : (x.toNat : Int) / 2 ^ n = ((shr n x).toNat : Int) := by
  rw [shr_toNat]; simp [Int.natCast_ediv, Int.natCast_pow]
theorem rotr_toNat (n : Nat) (x : UInt32) : (rotr n x).toNat = (x.toNat * 2 ^ (32 - n) % 4294967296 ||| x.toNat / 2 ^ n) := by
  unfold rotr; rw [UInt32.toNat_ofNat']
  exact Nat.mod_eq_of_lt (Nat.or_lt_two_pow (n := 32) (Nat.mod_lt _ (by decide)) (div_lt x n))
theorem rotr_walk (n : Nat) (x : UInt32) (h0 : 1 ≤ n) (hn : n ≤ 31) :
    bits BinOp.or IntKind.u32 ((x.toNat : Int) * 2 ^ (32 - n) % 4294967296) ((x.toNat : Int) / 2 ^ (32 - (32 - n))) = ((rotr n x).toNat : Int) := by
  have e : 32 - (32 - n) = n := by omega
  rw [e, rotr_toNat, ← u32_or_nat _ _ (Nat.mod_lt _ (by decide)) (div_lt x n)]
  congr 1
theorem neg_count (n : Nat) (h0 : 1 ≤ n) (hn : n ≤ 31) : bits BinOp.and IntKind.u64 (IntKind.u64.wrap (-(n : Int))) 31 = ((32 - n : Nat) : Int) := by
  have e : IntKind.u64.wrap (-(n : Int)) = ((18446744073709551616 - n : Nat) : Int) := by
    simp [IntKind.wrap, IntKind.bits, IntKind.signed]; omega
  have h31 : (31 : Int) = ((31 : Nat) : Int) := rfl
  rw [e, h31, u64_and_nat _ _ (by omega) (by decide)]
  have : (18446744073709551616 - n) &&& 31 = (18446744073709551616 - n) % 2 ^ 5 := Nat.and_two_pow_sub_one_eq_mod _ 5
  rw [this]; omega
/-- four bytes, the first the most significant -/
def word (a b c d : UInt8) : UInt32 := UInt32.ofNat (((a.toNat * 256 + b.toNat) * 256 + c.toNat) * 256 + d.toNat)
theorem word_toNat (a b c d : UInt8) : (word a b c d).toNat = ((a.toNat * 256 + b.toNat) * 256 + c.toNat) * 256 + d.toNat := by
  have ha := a.toNat_lt; have hb := b.toNat_lt; have hc := c.toNat_lt; have hd := d.toNat_lt
  unfold word; rw [UInt32.toNat_ofNat']; exact Nat.mod_eq_of_lt (by omega)
theorem word_walk (a b c d : UInt8) :
    bits BinOp.or IntKind.u32
      (bits BinOp.or IntKind.u32
        (bits BinOp.or IntKind.u32 ((a.toNat : Int) % 4294967296 * 16777216 % 4294967296) ((b.toNat : Int) % 4294967296 * 65536 % 4294967296))
        ((c.toNat : Int) % 4294967296 * 256 % 4294967296))
      ((d.toNat : Int) % 4294967296) = ((word a b c d).toNat : Int) := by
  have ha := a.toNat_lt; have hb := b.toNat_lt; have hc := c.toNat_lt; have hd := d.toNat_lt
  have e1 : (a.toNat : Int) % 4294967296 * 16777216 % 4294967296 = ((a.toNat * 16777216 : Nat) : Int) := by omega
  have e2 : (b.toNat : Int) % 4294967296 * 65536 % 4294967296 = ((b.toNat * 65536 : Nat) : Int) := by omega
  have e3 : (c.toNat : Int) % 4294967296 * 256 % 4294967296 = ((c.toNat * 256 : Nat) : Int) := by omega
  have e4 : (d.toNat : Int) % 4294967296 = ((d.toNat : Nat) : Int) := by omega
  rw [e1, e2, e3, e4, u32_or_nat _ _ (by omega) (by omega), nat_join24 _ _ (by omega) (by omega), u32_or_nat _ _ (by omega) (by omega), nat_join16 _ _ (by omega) (by omega), u32_or_nat _ _ (by omega) (by omega),
    nat_join8 _ _ (by omega) (by omega), word_toNat]
  omega
end Go.Proofs.Ytodialbopochdaa
