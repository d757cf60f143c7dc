/-
The reference's roots as plain functions on words of 64 bits, in the order of its own text.
-/
import Derived.Test.YtopjdckfphhnnaaDoorWords
namespace Go.Proofs.YtopjdckfphhnnaaDoor
open Go

def qadd (x y : UInt64) : UInt64 := x + y
def qmul (x y : UInt64) : UInt64 := x * y
def qmod (x : UInt64) : UInt64 := x % 4294967296
def qdiv (x : UInt64) : UInt64 := x / 4294967296
theorem u64_add_w (x y : UInt64) : IntKind.u64.wrap ((x.toNat : Int) + (y.toNat : Int)) = ((qadd x y).toNat : Int) := by
  rw [qadd, UInt64.toNat_add]; simp [IntKind.wrap, IntKind.bits, IntKind.signed]
theorem u64_wrap_w (x : UInt64) : IntKind.u64.wrap (x.toNat : Int) = (x.toNat : Int) := by
  have := x.toNat_lt
  simp [IntKind.wrap, IntKind.bits, IntKind.signed]; omega
theorem u64_mul_w (x y : UInt64) : IntKind.u64.wrap ((x.toNat : Int) * (y.toNat : Int)) = ((qmul x y).toNat : Int) := by
  rw [qmul, UInt64.toNat_mul]; simp [IntKind.wrap, IntKind.bits, IntKind.signed]
theorem u64_mod_w (x : UInt64) : (x.toNat : Int) % 4294967296 = ((qmod x).toNat : Int) := by
  rw [qmod, UInt64.toNat_mod]; simp
theorem u64_tmod_w (x : UInt64) : (x.toNat : Int).tmod 4294967296 = ((qmod x).toNat : Int) := by
  rw [Int.tmod_eq_emod_of_nonneg (by omega), u64_mod_w]
theorem u64_div_w (x : UInt64) : (x.toNat : Int) / 4294967296 = ((qdiv x).toNat : Int) := by
  rw [qdiv, UInt64.toNat_div]; simp
theorem u64_tdiv_w (x : UInt64) : (x.toNat : Int).tdiv 4294967296 = ((qdiv x).toNat : Int) := by
  rw [Int.tdiv_eq_ediv_of_nonneg (by omega), u64_div_w]

def upd (t : Nat → UInt64) (i : Nat) (v : UInt64) (j : Nat) : UInt64 := if j = i then v else t j
/-- the inner loop's state, after l rounds: the digits and the carry -/
def inner (r a : Nat → UInt64) (j : Nat) (t : Nat → UInt64) : Nat → (Nat → UInt64) × UInt64
  | 0 => (t, 0)
  | l + 1 =>
    let s := inner r a j t l
    let c := qadd s.2 (qadd (s.1 (j + l)) (qmul (r j) (a l)))
    (upd s.1 (j + l) (qmod c), qdiv c)
def row (r a : Nat → UInt64) (j : Nat) (t : Nat → UInt64) : Nat → UInt64 :=
  let s := inner r a j t 2
  upd s.1 (j + 2) (qadd (s.1 (j + 2)) s.2)
def rowsTo (r a : Nat → UInt64) : Nat → Nat → UInt64
  | 0 => fun _ => 0
  | j + 1 => row r a j (rowsTo r a j)
def digA (y : UInt64) (j : Nat) : UInt64 := if j = 0 then qmod y else if j = 1 then qdiv y else 0
def digR (y : UInt64) : Nat → Nat → UInt64
  | 0 => fun j => if j = 0 then 1 else 0
  | i + 1 => rowsTo (digR y i) (digA y) 5
/-- is one of the digits from j down to k + 1 above 0? -/
def someHi (r : Nat → UInt64) (k : Nat) : Nat → Bool
  | 0 => false
  | j + 1 => if k < j + 1 then (if 0 < (r (j + 1)).toNat then true else someHi r k j) else false
/-- is one of the n digits from i on above 0? -/
def someLo (r : Nat → UInt64) : Nat → Nat → Bool
  | 0, _ => false
  | n + 1, i => if 0 < (r i).toNat then true else someLo r n (i + 1)
def aboveM (y p : UInt64) (k : Nat) : Bool :=
  if someHi (digR y k) k 5 then true
  else if (digR y k k).toNat = p.toNat then someLo (digR y k) k 0 else decide (p.toNat < (digR y k k).toNat)
/-- the root's bits, after the bits 35 down to n have been tried -/
def rootTo (p : UInt64) (k : Nat) : Nat → UInt64
  | 0 => 0
  | i + 1 =>
    let x := rootTo p k i
    let y := qadd x (UInt64.ofNat (2 ^ (35 - i)))
    if aboveM y p k then x else y
def rootM (p : UInt64) (k : Nat) : UInt64 := qmod (rootTo p k 36)
example : rootM 2 2 = 0x6A09E667 := by decide +kernel
end Go.Proofs.YtopjdckfphhnnaaDoor
