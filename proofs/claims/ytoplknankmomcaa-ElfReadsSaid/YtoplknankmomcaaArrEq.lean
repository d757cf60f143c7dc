/-
'==' of two arrays of integers by value.
-/
import Derived.Test.YtoplknankmomcaaMem
import Derived.Laws.StructEq
namespace Go.Proofs.Ytoplknankmomcaa
open Go Go.RowKit

/-- are the first n places alike? -/
def sameTo (f g : Nat → Int) (n : Nat) : Bool := (List.range' 0 n).all fun j => f j == g j
theorem sameTo_iff (f g : Nat → Int) (n : Nat) : sameTo f g n = true ↔ ∀ j, j < n → f j = g j := by
  simp [sameTo, List.all_eq_true, List.mem_range'_1]

theorem run_equalIn_tab {P : Program} (w : World) (d : Nat) (t e : TypeId) (n : Nat) (ik k : IntKind) (i : TypeInfo) (f g : Nat → Int) (hu : P.underlying t = some (.array n e)) (he : P.underlying e = some (.int ik))
    (hi : P.info? e = some i) (hs : i.size = 1) (heq : ∀ (a b : Int) (W : World), (Op.equalIn d e (.int k a) (.int k b)).run P W = .ok (a == b) W) :
    (Op.equalIn (d + 1) t (.agg (tab n fun j => .int k (f j))) (.agg (tab n fun j => .int k (g j)))).run P w = .ok (sameTo f g n) w := by
  have hsz : ∀ W, (sizeOf e).run P W = .ok 1 W := fun W => by simp [sizeOf, typeInfo, hi, hs]
  have hpart : ∀ (h : Nat → Int) (j : Nat) (W : World), j < n → (part e (tab n fun j => .int k (h j)) j).run P W = .ok (.int k (h j)) W := fun h j W hj => by
    simp [part, isAgg, run_underlying he, tab_get n _ j hj, go_sem]
  simp only [Op.equalIn, Sem.run_bind, run_underlying hu, Result.andThen_ok, hsz]
  rw [Std.Legacy.Range.forIn_eq_forIn_range']
  simp only [Std.Legacy.Range.size, Nat.sub_zero, Nat.add_sub_cancel, Nat.div_one, Nat.mul_one]
  unfold sameTo
  have hL : ∀ j ∈ List.range' 0 n, j < n := fun j hj => by simpa [List.mem_range'_1] using hj
  generalize List.range' 0 n = L at *
  induction L generalizing w with
  | nil => simp
  | cons s0 L ih =>
    have h0 : s0 < n := hL s0 (by simp)
    simp only [List.forIn_cons, Sem.run_bind, hpart f s0 _ h0, hpart g s0 _ h0, Result.andThen_ok, heq, List.all_cons]
    by_cases h : f s0 = g s0
    · have hb : (f s0 == g s0) = true := by simpa using h
      simp only [hb, Bool.not_true, Bool.false_eq_true, if_false, Sem.run_pure, Result.andThen_ok, Bool.true_and]
      exact ih w (fun j hj => hL j (by simp [hj]))
    · have hb : (f s0 == g s0) = false := by simpa using h
      simp only [hb, Bool.not_false, if_true, Sem.run_pure, Result.andThen_ok, Bool.false_and]

/-- 'x == y' of two arrays of integers that are alike -/
theorem run_eql_tab {P : Program} (w : World) (t e : TypeId) (n : Nat) (ik k : IntKind) (i : TypeInfo) (f g : Nat → Int) (hu : P.underlying t = some (.array n e)) (he : P.underlying e = some (.int ik))
    (hi : P.info? e = some i) (hs : i.size = 1) : (binOp .eql t (.agg (tab n fun j => .int k (f j))) (.agg (tab n fun j => .int k (g j)))).run P w = .ok (.bool (sameTo f g n)) w := by
  rw [run_eql_struct]
  have h := run_equalIn_tab (P := P) w 9999 t e n ik k i f g hu he hi hs (fun a b W => run_equalIn_int (P := P) (w := W) 9998 e k ik a b he)
  rw [h]
  rfl
theorem sameTo_refl (f : Nat → Int) (n : Nat) : sameTo f f n = true := (sameTo_iff f f n).2 fun _ _ => rfl
end Go.Proofs.Ytoplknankmomcaa
