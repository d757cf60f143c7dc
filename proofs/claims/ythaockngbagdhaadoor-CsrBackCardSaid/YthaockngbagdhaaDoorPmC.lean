/-
Layer 12: the reference's Range.
-/
import Derived.Test.YthaockngbagdhaaDoorRwA
import Derived.Lib.Hide
import Derived.BigQuiet
import Derived.Deep.DeepCutAuto
namespace Go.Proofs.YthaockngbagdhaaDoor.Pm
open Go Go.RowKit

/-- the bytes of entry i -/
def rangeI (es : List En) (i : Nat) : Nat × Nat := rangeP (if i = 0 then 0 else (es.getD (i - 1) en0).a) (es.getD i en0)
theorem onesF_le : ∀ n a, onesF n a ≤ n
  | 0, _ => Nat.le_refl _
  | n + 1, a => by
    unfold onesF
    split
    · have := onesF_le n (a / 2); omega
    · omega
theorem onesF_step (n a : Nat) (h : a % 2 = 1) : onesF (n + 1) a = onesF n (a / 2) + 1 := by
  show (if a % 2 = 1 then _ else _) = _
  rw [if_pos h]
theorem onesF_zero (n a : Nat) (h : a % 2 ≠ 1) : onesF n a = 0 := by
  cases n with
  | zero => rfl
  | succ n => show (if a % 2 = 1 then _ else _) = _; rw [if_neg h]
theorem rng_w1a {p : Nat} {e : En} (hw : e.w = 1) (h : 4 * e.a ≤ 4 * p) : rangeP p e = (4 * p, 4 * p) := by unfold rangeP; rw [if_pos hw, if_pos h]
theorem rng_w1b {p : Nat} {e : En} (hw : e.w = 1) (h : ¬4 * e.a ≤ 4 * p) : rangeP p e = (4 * p, 4 * e.a) := by unfold rangeP; rw [if_pos hw, if_neg h]
theorem rng_w2 {p : Nat} {e : En} (hw : e.w = 2) : rangeP p e = (4 * e.a, 4 * e.a + 4) := by unfold rangeP; rw [if_neg (by omega), if_pos hw]
theorem rng_w3 {p : Nat} {e : En} (hw : e.w = 3) : rangeP p e = (4 * e.a / napS e.a * napS e.a, 4 * e.a / napS e.a * napS e.a + napS e.a) := by unfold rangeP; rw [if_neg (by omega), if_neg (by omega), if_pos hw]
theorem rng_w0 {p : Nat} {e : En} (h1 : e.w ≠ 1) (h2 : e.w ≠ 2) (h3 : e.w ≠ 3) : rangeP p e = (0, 0) := by unfold rangeP; rw [if_neg h1, if_neg h2, if_neg h3]
/-- the call answers two numbers and leaves the world -/
def retR (f t : Nat) (w : World) (e : Ending) (w' : World) : Prop := e = .returned (.tuple #[.int .i64 (f : Int), .int .i64 (t : Int)]) ∧ w = w'
theorem pow32 {k : Nat} (h : k ≤ 32) : 2 ^ k ≤ 4294967296 := Nat.le_trans (Nat.pow_le_pow_right (by decide) h) (by decide)
end Go.Proofs.YthaockngbagdhaaDoor.Pm
