/-
The primes that the reference finds by trying.
-/
import Derived.Test.YtopjdckfphhnnaaDoorRefK
namespace Go.Proofs.YtopjdckfphhnnaaDoor
open Go
/-- what the inner loop makes of 'prime', from d on -/
def prTo (p : Nat) : Nat → Nat → Bool → Bool
  | 0, _, acc => acc
  | f + 1, d, acc => if d * d ≤ p then prTo p f (d + 1) (acc && decide (0 < p % d)) else acc
def isPr (p : Nat) : Bool := prTo p 18 2 true
/-- the primes below p -/
def prs : Nat → List Nat
  | 0 => []
  | p + 1 => if p < 2 then [] else if isPr p then prs p ++ [p] else prs p
theorem prs_two : prs 2 = [] := rfl
theorem prs_succ (p : Nat) (h : 2 ≤ p) : prs (p + 1) = if isPr p then prs p ++ [p] else prs p := by
  show (if p < 2 then _ else _) = _
  rw [if_neg (by omega)]
theorem prs64 : (prs 312) = primes64.map (·.toNat) := by decide +kernel
theorem prs8 : (prs 20) = (primes64.take 8).map (·.toNat) := by decide +kernel
theorem cnt64 : ∀ p, p < 312 → (prs p).length < 64 := by decide +kernel
theorem cnt8 : ∀ p, p < 20 → (prs p).length < 8 := by decide +kernel
/-- the roots of the primes below p -/
def rts (k p : Nat) : List Value := (prs p).map fun q => .int .u64 ((rootM (UInt64.ofNat q) k).toNat : Int)
theorem rts_len (k p : Nat) : (rts k p).length = (prs p).length := by simp [rts]
theorem rts64 : rts 3 312 = consts.map fun x => Value.int .u64 (x.toNat : Int) := by
  have h := roots64
  have e : consts.map (fun x => Value.int .u64 (x.toNat : Int)) = (consts.map (·.toNat)).map fun n : Nat => Value.int .u64 (n : Int) := by rw [List.map_map]; rfl
  unfold rts
  rw [prs64, e, ← h, List.map_map, List.map_map]
  apply List.map_congr_left
  intro x _
  simp
theorem rts8 : rts 2 20 = inits.map fun x => Value.int .u64 (x.toNat : Int) := by
  have h := roots8
  have e : inits.map (fun x => Value.int .u64 (x.toNat : Int)) = (inits.map (·.toNat)).map fun n : Nat => Value.int .u64 (n : Int) := by rw [List.map_map]; rfl
  unfold rts
  rw [prs8, e, ← h, List.map_map, List.map_map]
  apply List.map_congr_left
  intro x _
  simp
end Go.Proofs.YtopjdckfphhnnaaDoor
