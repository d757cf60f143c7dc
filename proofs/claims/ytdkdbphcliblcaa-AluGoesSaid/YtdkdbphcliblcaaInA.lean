/-
Layer 11: operations, numbers in a word, as plain data; the reference's bits, sign, mask, Imm.
-/
import Derived.Test.YtdkdbphcliblcaaMem2
import Derived.Test.YtdkdbphcliblcaaIb
import Derived.Test.YtdkdbphcliblcaaQTail
import Derived.Test.YtdkdbphcliblcaaGenB
import Derived.BigQuiet
import Derived.Lib.Hide
namespace Go.Proofs.Ytdkdbphcliblcaa
open Go Go.RowKit

/-- a form -/
inductive Fm where
  | O | U | J | I | B | S | T | R | F | N | C | Z
deriving DecidableEq
def fmS : Fm → ByteArray
  | .O => ⟨#[]⟩
  | .U => ⟨#[85]⟩
  | .J => ⟨#[74]⟩
  | .I => ⟨#[73]⟩
  | .B => ⟨#[66]⟩
  | .S => ⟨#[83]⟩
  | .T => ⟨#[84]⟩
  | .R => ⟨#[82]⟩
  | .F => ⟨#[70]⟩
  | .N => ⟨#[78]⟩
  | .C => ⟨#[67]⟩
  | .Z => ⟨#[90]⟩
/-- the operations: form and word -/
def opsL : List (Fm × Nat) :=
  [(.O, 0), (.U, 55), (.U, 23), (.J, 111), (.I, 103), (.B, 99), (.B, 4195), (.B, 16483), (.B, 20579), (.B, 24675), (.B, 28771),
   (.I, 3), (.I, 4099), (.I, 8195), (.I, 16387), (.I, 20483), (.S, 35), (.S, 4131), (.S, 8227),
   (.I, 19), (.I, 8211), (.I, 12307), (.I, 16403), (.I, 24595), (.I, 28691), (.T, 4115), (.T, 20499), (.T, 1073762323),
   (.R, 51), (.R, 1073741875), (.R, 4147), (.R, 8243), (.R, 12339), (.R, 16435), (.R, 20531), (.R, 1073762355), (.R, 24627), (.R, 28723),
   (.R, 33554483), (.R, 33558579), (.R, 33562675), (.R, 33566771), (.R, 33570867), (.R, 33574963), (.R, 33579059), (.R, 33583155),
   (.F, 15), (.N, 115), (.N, 1048691), (.N, 807403635), (.N, 273678451), (.C, 4211), (.C, 8307), (.C, 12403), (.Z, 20595), (.Z, 24691), (.Z, 28787)]
def opP (i : Nat) : Fm × Nat := opsL.getD i (.O, 0)
/-- w[a:b] -/
def bitsN (w a b : Nat) : Nat := w / 2 ^ b % 2 ^ (a - b + 1)
theorem bitsN_lt (w a b : Nat) : bitsN w a b < 2 ^ (a - b + 1) := Nat.mod_lt _ (Nat.two_pow_pos _)
/-- a number of n bits, with its sign -/
def sgnZ (x n : Nat) : Int := if x / 2 ^ (n - 1) = 1 then (x : Int) - 2 ^ n else x
def maskN : Fm → Nat
  | .U | .J => 127
  | .I | .S | .B | .C | .Z => 28799
  | .R | .T => 4261441663
  | .F => 28799
  | _ => 4294967295
/-- a form's number in a word -/
def immZ (f : Fm) (w : Nat) : Int :=
  match f with
  | .I => sgnZ (bitsN w 31 20) 12
  | .S => sgnZ (bitsN w 31 25 * 32 + bitsN w 11 7) 12
  | .B => sgnZ (bitsN w 31 31 * 4096 + bitsN w 7 7 * 2048 + bitsN w 30 25 * 32 + bitsN w 11 8 * 2) 13
  | .J => sgnZ (bitsN w 31 31 * 1048576 + bitsN w 19 12 * 4096 + bitsN w 20 20 * 2048 + bitsN w 30 21 * 2) 21
  | .U => sgnZ (w - w % 4096) 32
  | .T => (bitsN w 24 20 : Nat)
  | .C | .Z => (bitsN w 31 20 : Nat)
  | _ => 0
theorem pow_le32 {n : Nat} (h : n ≤ 32) : (2 : Int) ^ n ≤ 4294967296 ∧ 0 < (2 : Int) ^ n := by
  have h1 : (2 : Nat) ^ n ≤ 2 ^ 32 := Nat.pow_le_pow_right (by decide) h
  have h2 := Nat.two_pow_pos n
  have e : (2 : Int) ^ n = ((2 ^ n : Nat) : Int) := by rw [Int.natCast_pow]; rfl
  rw [e]
  generalize (2 : Nat) ^ n = q at *
  have h3 : (2 : Nat) ^ 32 = 4294967296 := by decide
  omega
theorem div_pow (x b : Nat) : (x : Int) / 2 ^ b = ((x / 2 ^ b : Nat) : Int) := by
  rw [Int.natCast_ediv, Int.natCast_pow]; rfl
end Go.Proofs.Ytdkdbphcliblcaa
