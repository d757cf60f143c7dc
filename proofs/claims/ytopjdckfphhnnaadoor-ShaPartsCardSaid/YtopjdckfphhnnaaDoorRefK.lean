/-
The reference's roots are the program's tables: by the kernel.
-/
import Derived.Test.YtopjdckfphhnnaaDoorRefM
import Derived.Test.YtopjdckfphhnnaaDoorShaM
namespace Go.Proofs.YtopjdckfphhnnaaDoor
open Go
/-- is p a prime, by trying? -/
def noDiv (p : UInt64) : Nat → UInt64 → Bool
  | 0, _ => true
  | f + 1, d => if d * d ≤ p then (if p % d = 0 then false else noDiv p f (d + 1)) else true
def primes64 : List UInt64 := [2, 3, 5, 7, 11, 13, 17, 19, 23, 29, 31, 37, 41, 43, 47, 53, 59, 61, 67, 71, 73, 79, 83, 89, 97, 101, 103, 107, 109, 113, 127, 131, 137, 139, 149, 151, 157, 163, 167, 173, 179, 181, 191, 193, 197, 199, 211, 223, 227, 229, 233, 239, 241, 251, 257, 263, 269, 271, 277, 281, 283, 293, 307, 311]
theorem roots8 : (primes64.take 8).map (fun p => (rootM p 2).toNat) = inits.map (·.toNat) := by decide +kernel
theorem roots64 : primes64.map (fun p => (rootM p 3).toNat) = consts.map (·.toNat) := by decide +kernel
end Go.Proofs.YtopjdckfphhnnaaDoor
