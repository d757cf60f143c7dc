/-
Layer 11: the reference's list of operations.
-/
import Derived.Test.YtghfbdkfibbhoaaDoorInB
import Derived.Test.YtghfbdkfibbhoaaDoorBs
import Derived.Great.BuildSlice
import Derived.Great.FillDense
namespace Go.Proofs.YtghfbdkfibbhoaaDoor
open Go Go.RowKit

/-- an operation's cells -/
def opV (q : Fm × Nat) : Nat → Value
  | 0 => .string (fmS q.1)
  | _ => .int .i64 (q.2 : Int)
def opCells : List Value := opsL.flatMap fun q => (List.range 2).map (opV q)
theorem opsL_len : opsL.length = 57 := rfl
theorem opCells_get (i : Nat) (hi : i < 57) : opCells[2 * i]? = some (.string (fmS (opP i).1)) ∧ opCells[2 * i + 1]? = some (.int .i64 ((opP i).2 : Int)) := by
  have h : ∀ i, i < 57 → opCells[2 * i]? = some (.string (fmS (opP i).1)) ∧ opCells[2 * i + 1]? = some (.int .i64 ((opP i).2 : Int)) := by
    intro i hi
    have hall : ∀ (qs : List (Fm × Nat)) (j : Nat), j < qs.length → (qs.flatMap fun q => (List.range 2).map (opV q))[2 * j]? = some (.string (fmS (qs.getD j (.O, 0)).1)) ∧ (qs.flatMap fun q => (List.range 2).map (opV q))[2 * j + 1]? = some (.int .i64 ((qs.getD j (.O, 0)).2 : Int)) := by
      intro qs
      induction qs with
      | nil => intro j hj; exact absurd hj (Nat.not_lt_zero _)
      | cons q qs ih =>
        intro j hj
        rw [List.flatMap_cons]
        cases j with
        | zero => exact ⟨rfl, rfl⟩
        | succ j =>
          have := ih j (by simpa using hj)
          rw [List.getElem?_append_right (by simp; omega), List.getElem?_append_right (by simp; omega)]
          simpa [show 2 * (j + 1) - 2 = 2 * j by omega, show 2 * (j + 1) + 1 - 2 = 2 * j + 1 by omega] using this
    exact hall opsL i hi
  exact h i hi
theorem infoOp : (Tryd.prog.info? 48).map (fun i => (i.zero, i.size, i.bytes)) = some (some (.agg #[.string ⟨#[]⟩, .int .i64 0]), 2, 24) := by kernel_rfl
/-- the list lies at g -/
def LstP (w : World) (g : Nat) : Prop := Has w g 48 opCells.toArray
/-- a row of operations -/
theorem wp_build_ops {w : World} {ops : Array Oper} {rest : List Oper} {o : Oper} {a : Act} {Q : Exit → Act → World → Prop} (hg : o.guard = none) (parts : Array (Nat × Operand)) (ho : o.op = .buildSlice 44 57 parts)
    (hp : (parts.map fun (i, x) => (i, a.eval x)).toList = ((opsL.map fun q => Value.agg (tab 2 (opV q))).zipIdx 0).map fun x => (x.2, x.1))
    (h : ∀ w', w' = w.alloc (.cells opCells.toArray 48) → wpList Tryd.prog ops Q rest (a.put o.dst (.slice (some ⟨w.heap.size, 0, none⟩) 57 57)) w') : wpList Tryd.prog ops Q (o :: rest) a w := by
  obtain ⟨i5, hi5, hz5, hs5, hb5⟩ := info_parts infoOp
  refine wpList_buildSlice hg 44 48 57 parts ho opCells.toArray i5 _ Tryd.underlying44 hi5 hz5 (by rw [hs5]; decide) (by rw [hs5]; decide) ?_ (h _ rfl)
  rw [hs5, hp]
  refine (Great.fill_whole (s := 2) (by decide) (opsL.map fun q => .agg (tab 2 (opV q))) _ (fun v hv => ?_) (by simp [opsL_len])).trans ?_
  · obtain ⟨q, _, rfl⟩ := List.mem_map.1 hv
    exact tab_size _ _
  · congr 2
set_option maxRecDepth 100000 in
set_option maxHeartbeats 4000000 in
theorem list_any (w : World) :
    Calls Tryd.prog 26 #[] w fun e w' => (∃ g, e = .returned (.slice (some ⟨g, 0, none⟩) 57 57) ∧ LstP w' g ∧ w.heap.size ≤ g) ∧ Below w.heap.size w w' := by
  go_enter Tryd.func26, Tryd.ntmps26
  go_wp2_with (refine wp_build_ops rfl _ rfl (by kernel_rfl) ?_; rintro w1 rfl)
  go_ret
  exact ⟨⟨_, rfl, Has.new _ _ _, Nat.le_refl _⟩, (Below.refl _ _).alloc (Nat.le_refl _) _⟩
end Go.Proofs.YtghfbdkfibbhoaaDoor
