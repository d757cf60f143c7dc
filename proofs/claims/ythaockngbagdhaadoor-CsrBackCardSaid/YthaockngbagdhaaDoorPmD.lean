/-
Layer 12: the reference's Range, whole; its Byte.
-/
import Derived.Test.YthaockngbagdhaaDoorPmC
namespace Go.Proofs.YthaockngbagdhaaDoor.Pm
open Go Go.RowKit

/-- the first entry from i on that has the byte -/
def byteF (es : List En) (x : Nat) : Nat → Nat → Int
  | 0, _ => 0
  | n + 1, i => if (rangeI es i).1 ≤ x ∧ x < (rangeI es i).2 then (es.getD i en0).r else byteF es x n (i + 1)
theorem tri_at (es : List En) : ∀ (p i : Nat) (_hi : i < es.length), (tri p es)[i]? = some ⟨(rangeP (if i = 0 then p else (es.getD (i - 1) en0).a) (es.getD i en0)).1, (rangeP (if i = 0 then p else (es.getD (i - 1) en0).a) (es.getD i en0)).2, (es.getD i en0).r⟩ := by
  induction es with
  | nil => intro p i hi; cases hi
  | cons e l ih =>
    intro p i hi
    cases i with
    | zero => rfl
    | succ i =>
      have h := ih e.a i (by simpa using hi)
      show (tri e.a l)[i]? = _
      rw [h]
      cases i with
      | zero => rfl
      | succ i => rfl
theorem tri_len (es : List En) : ∀ p, (tri p es).length = es.length := by
  induction es with
  | nil => intro p; rfl
  | cons e l ih => intro p; show (tri e.a l).length + 1 = _; rw [ih]; rfl
theorem byteF_drop (es : List En) (x : Nat) : ∀ (n i : Nat), i + n = es.length → byteF es x n i = byteT ((tri 0 es).drop i) x
  | 0, i, h => by
    rw [List.drop_eq_nil_of_le (by rw [tri_len]; omega)]; rfl
  | n + 1, i, h => by
    have hi : i < es.length := by omega
    have h2 := tri_at es 0 i hi
    have hlt : i < (tri 0 es).length := by rw [tri_len]; exact hi
    rw [List.getElem?_eq_getElem hlt] at h2
    have h3 := Option.some.inj h2
    rw [List.drop_eq_getElem_cons hlt, h3]
    have e : hasB ⟨(rangeI es i).1, (rangeI es i).2, (es.getD i en0).r⟩ x = decide ((rangeI es i).1 ≤ x ∧ x < (rangeI es i).2) := by
      unfold hasB; simp
    show (if (rangeI es i).1 ≤ x ∧ x < (rangeI es i).2 then (es.getD i en0).r else byteF es x n (i + 1)) = (if hasB ⟨(rangeI es i).1, (rangeI es i).2, (es.getD i en0).r⟩ x then (es.getD i en0).r else byteT ((tri 0 es).drop (i + 1)) x)
    rw [e, byteF_drop es x n (i + 1) (by omega)]
    by_cases hp : (rangeI es i).1 ≤ x ∧ x < (rangeI es i).2
    · rw [if_pos hp, if_pos (decide_eq_true hp)]
    · rw [if_neg hp, if_neg (by rw [decide_eq_false hp]; decide)]
theorem byteF_all (es : List En) (x : Nat) : byteF es x es.length 0 = byteT (tri 0 es) x := byteF_drop es x es.length 0 (by omega)
end Go.Proofs.YthaockngbagdhaaDoor.Pm
