/-
Layer 13: relocations as plain data; the reference's low, Signed, Upper.
-/
import Derived.Test.YtegaiphhoinilaaJPf
import Derived.Test.YtegaiphhoinilaaIqC
namespace Go.Proofs.Ytegaiphhoinilaa.Rc
open Go Go.RowKit

/-- a relocation -/
structure Re where
  p : Nat
  t : Int
  s : Int
  a : Nat
deriving DecidableEq
def re0 : Re := ⟨0, 0, 0, 0⟩
/-- its cells -/
def reE (r : Re) : Nat → Value
  | 0 => .int .u32 (r.p : Int)
  | 1 => .int .i64 r.t
  | 2 => .int .i64 r.s
  | _ => .int .u32 (r.a : Int)
structure Re.Wf (r : Re) : Prop where
  p : r.p < 4294967296
  t : i64ok r.t
  s : i64ok r.s
  a : r.a < 4294967296
/-- symbols; relocations: what a file holds of them -/
structure Fi where
  ss : List Nat
  rs : List Re
/-- S -/
def symP (ss : List Nat) (B : Nat) (n : Int) : Nat := if n ≤ 0 ∨ (ss.length : Int) ≤ n then 0 else (B + ss.getD n.toNat 0) % 4294967296
/-- the upper part -/
def upP (v : Nat) : Nat := (v + 2048) % 4294967296 - (v + 2048) % 4294967296 % 4096
/-- P -/
def atP (B : Nat) (r : Re) : Nat := (B + r.p) % 4294967296
/-- S + A -/
def saP (ss : List Nat) (B : Nat) (r : Re) : Nat := (symP ss B r.s + r.a) % 4294967296
/-- S + A - P -/
def wayP (ss : List Nat) (B : Nat) (r : Re) : Nat := (saP ss B r + 4294967296 - atP B r) % 4294967296
/-- is a way even, and within? -/
def wayB (v most : Nat) : Bool := decide (v % 2 = 0) && decide (v < most ∨ 4294967296 - most ≤ v)
/-- the upper one of a pair -/
def hiP (ss : List Nat) (B at' : Nat) : List Re → Option Nat
  | [] => none
  | h :: l => if h.t = 23 ∧ atP B h = at' then some (wayP ss B h) else hiP ss B at' l
/-- v, and what it goes into; an error -/
inductive Go1 where
  | word (v : Nat)
  | num (f : Fm) (v : Nat)
  | bad (e : Int)
def valP (ss : List Nat) (rs : List Re) (B : Nat) (r : Re) : Go1 :=
  if r.t = 1 then .word (saP ss B r)
  else if r.t = 3 then .word ((B + r.a) % 4294967296)
  else if r.t = 16 then (if wayB (wayP ss B r) 4096 = true then .num .B (wayP ss B r) else .bad 14)
  else if r.t = 17 then (if wayB (wayP ss B r) 1048576 = true then .num .J (wayP ss B r) else .bad 14)
  else if r.t = 18 ∨ r.t = 19 ∨ r.t = 23 then .num .U (wayP ss B r)
  else if r.t = 26 then .num .U (saP ss B r)
  else if r.t = 27 then .num .I (saP ss B r)
  else if r.t = 28 then .num .S (saP ss B r)
  else if r.a = 0 then (match hiP ss B (saP ss B r) rs with
    | some v => .num (if r.t = 25 then .S else .I) v
    | none => .bad 13)
  else .bad 13
/-- a span: where it begins, how long it is -/
def inSp (l : List (Nat × Nat)) (at' n : Nat) : Bool := l.any fun s => decide (s.1 ≤ at' ∧ at' + n ≤ s.1 + s.2)
def kindB (t : Int) : Bool := decide (t = 1 ∨ t = 3 ∨ t = 16 ∨ t = 17 ∨ t = 18 ∨ t = 19 ∨ t = 23 ∨ t = 24 ∨ t = 25 ∨ t = 26 ∨ t = 27 ∨ t = 28)
def lenP (t : Int) : Nat := if t = 18 ∨ t = 19 then 8 else 4
/-- may it be? -/
def mayP (B : Nat) (l : List (Nat × Nat)) (r : Re) : Bool :=
  kindB r.t && inSp l (atP B r) (lenP r.t) && !(decide (3 < r.t) && decide (atP B r % 4 ≠ 0)) && !(decide (r.t = 3) && decide (r.s ≠ 0))
theorem low_at (B x : Nat) : ((B : Int) + (x : Int)) % 4294967296 = (((B + x) % 4294967296 : Nat) : Int) := by omega

theorem low_any (x : Int) (w : World) (_h1 : -9223372036854775808 ≤ x) (_h2 : x ≤ 9223372036854775807) :
    Calls Try.prog 25 #[.int .i64 x] w fun e w' => e = .returned (.int .i64 (x % 4294967296)) ∧ w = w' := by
  go_enter Try.func25, Try.ntmps25
  go_wp2_with fail
  go_ret
  have e0 : x.tmod 4294967296 = x % 4294967296 ∨ x.tmod 4294967296 = x % 4294967296 - 4294967296 := by
    rw [Int.tmod_eq_emod]
    split
    · left; omega
    · right; rfl
  have e2 : (wrap64 (x.tmod 4294967296 + 4294967296)).tmod 4294967296 = x % 4294967296 := by
    rw [IntWalk.wrap64_in _ (by omega), Int.tmod_eq_emod, if_pos (Or.inl (by omega))]
    omega
  exact ⟨congrArg (fun z => Ending.returned (Value.int .i64 z)) e2, rfl⟩
theorem upper_any (v : Nat) (w : World) (hv : v < 4294967296) :
    Calls Try.prog 17 #[.int .i64 (v : Int)] w fun e w' => e = .returned (.int .i64 ((upP v : Nat) : Int)) ∧ w = w' := by
  have kL := low_any
  go_enter Try.func17, Try.ntmps17
  go_wp2_with fail
  refine (kL ((v : Int) + 2048) _ (by omega) (by omega)).mono ?_
  rintro e u0 ⟨rfl, rfl⟩
  have e1 : ((v : Int) + 2048) % 4294967296 = (((v + 2048) % 4294967296 : Nat) : Int) := by omega
  rw [e1]
  generalize hu : (v + 2048) % 4294967296 = u
  have hul : u < 4294967296 := by omega
  have e3 : (u : Int) - (u : Int) % 4096 = ((upP v : Nat) : Int) := by unfold upP; rw [hu]; omega
  go_wp2_with fail
  go_ret
  exact ⟨rfl, rfl⟩
/-- Signed -/
def sgP (v : Nat) : Int := if 2147483648 ≤ v then (v : Int) - 4294967296 else v
theorem signed_any (x : Int) (v : Nat) (w : World) (h1 : -9223372036854775808 ≤ x) (h2 : x ≤ 9223372036854775807) (hv : x % 4294967296 = (v : Int)) :
    Calls Try.prog 30 #[.int .i64 x] w fun e w' => e = .returned (.int .i64 (sgP v)) ∧ w = w' := by
  have kL := low_any
  have hvl : v < 4294967296 := by omega
  go_enter Try.func30, Try.ntmps30
  go_wp2_with fail
  refine (kL x _ h1 h2).mono ?_
  rintro e u0 ⟨rfl, rfl⟩
  rw [hv]
  by_cases h : 2147483648 ≤ v
  · have d1 : 2147483648 ≤ (v : Int) := by omega
    have e3 : sgP v = (v : Int) - 4294967296 := if_pos h
    dsimp only
    go_wp2_with fail
    go_ret
    first | exact ⟨rfl, rfl⟩ | exact ⟨congrArg (fun z => Ending.returned (Value.int .i64 z)) e3.symm, rfl⟩
  · have d1 : ¬ 2147483648 ≤ (v : Int) := by omega
    have e3 : sgP v = (v : Int) := if_neg h
    dsimp only
    go_wp2_with fail
    go_ret
    first | exact ⟨rfl, rfl⟩ | exact ⟨congrArg (fun z => Ending.returned (Value.int .i64 z)) e3.symm, rfl⟩
end Go.Proofs.Ytegaiphhoinilaa.Rc
