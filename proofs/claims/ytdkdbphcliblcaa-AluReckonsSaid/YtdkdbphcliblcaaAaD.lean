/-
Layer 14: what each call answers, as plain data; names that are others.
-/
import Derived.Test.YtdkdbphcliblcaaAaC
namespace Go.Proofs.Ytdkdbphcliblcaa.Al
open Go Go.RowKit

def widthN (op : Int) : Int := if op = 11 ∨ op = 14 ∨ op = 16 then 1 else if op = 12 ∨ op = 15 ∨ op = 17 then 2 else if op = 13 ∨ op = 18 then 4 else 0
def widenN (op : Int) (x : Nat) : Nat :=
  if op = 11 then (if 128 ≤ x % 256 then x % 256 + 4294967040 else x % 256)
  else if op = 14 then x % 256
  else if op = 12 then (if 32768 ≤ x % 65536 then x % 65536 + 4294901760 else x % 65536)
  else if op = 15 then x % 65536
  else x
def goesN (op : Int) (a b : Nat) : Bool × Bool :=
  if op = 5 then (decide (a = b), true)
  else if op = 6 then (decide (a ≠ b), true)
  else if op = 7 then (decide (sgA a < sgA b), true)
  else if op = 8 then (decide (sgA b ≤ sgA a), true)
  else if op = 9 then (decide (a < b), true)
  else if op = 10 then (decide (b ≤ a), true)
  else (false, false)
/-- what an operation of two numbers answers -/
def reckN (op : Int) (a b : Nat) : Nat × Bool :=
  if op = 19 ∨ op = 28 then (lowA ((a : Int) + b), true)
  else if op = 29 then (lowA ((a : Int) - b), true)
  else if op = 25 ∨ op = 30 then (a % (4294967296 / 2 ^ (b % 32)) * 2 ^ (b % 32), true)
  else if op = 26 ∨ op = 34 then (a / 2 ^ (b % 32), true)
  else if op = 27 ∨ op = 35 then (lowA (sgA a / 2 ^ (b % 32)), true)
  else if op = 20 ∨ op = 31 then ((decide (sgA a < sgA b)).toNat, true)
  else if op = 21 ∨ op = 32 then ((decide (a < b)).toNat, true)
  else if op = 22 ∨ op = 33 then (a ^^^ b, true)
  else if op = 23 ∨ op = 36 then (a ||| b, true)
  else if op = 24 ∨ op = 37 then (a &&& b, true)
  else if op = 38 then (lowA ((a : Int) * b), true)
  else if op = 39 then (hiA (sgA a) (sgA b), true)
  else if op = 40 then (hiA (sgA a) b, true)
  else if op = 41 then (hiA a b, true)
  else if op = 42 then ((if b = 0 then 4294967295 else lowA ((sgA a).tdiv (sgA b))), true)
  else if op = 43 then ((if b = 0 then 4294967295 else a / b), true)
  else if op = 44 then ((if b = 0 then a else lowA ((sgA a).tmod (sgA b))), true)
  else if op = 45 then ((if b = 0 then a else a % b), true)
  else (0, false)
def nmX (S : List Nat) (N : List (List UInt8)) : Bool := (N.all fun x => !((⟨#[]⟩ : ByteArray).toList == x)) && (List.range 46).all fun j => S.contains j || N.all fun x => !((nmL.getD j ⟨#[]⟩).toList == x)
theorem nm_no (S : List Nat) (N : List (List UInt8)) (h : nmX S N = true) (op : Int) (hop : ∀ j ∈ S, op ≠ (j : Int)) (x : List UInt8) (hx : x ∈ N) : ((nmO op).toList == x) = false := by
  unfold nmX at h
  rw [Bool.and_eq_true] at h
  unfold nmO
  split
  · have := List.all_eq_true.1 h.1 x hx
    simpa using this
  · rename_i hr
    have hj : op.toNat < 46 := by omega
    have h1 := List.all_eq_true.1 h.2 op.toNat (List.mem_range.2 hj)
    rw [Bool.or_eq_true] at h1
    rcases h1 with h1 | h1
    · have := hop op.toNat (by simpa using h1)
      omega
    · have := List.all_eq_true.1 h1 x hx
      simpa using this
def wdN : List (List UInt8) := [[108, 98], [108, 98, 117], [115, 98], [108, 104], [108, 104, 117], [115, 104], [108, 119], [115, 119]]
theorem wd_no : nmX [11, 12, 13, 14, 15, 16, 17, 18] wdN = true := by decide +kernel
end Go.Proofs.Ytdkdbphcliblcaa.Al
