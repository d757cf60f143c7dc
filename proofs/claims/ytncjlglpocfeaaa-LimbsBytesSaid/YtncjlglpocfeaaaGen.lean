/-
Laws for whole arrays: a load under a guard, in a list of operations and in a region that only reads.
-/
import Derived.Test.YtncjlglpocfeaaaMem2
namespace Go.Proofs.Ytncjlglpocfeaaa
open Go Go.RowKit

section
variable {P : Program} {w : World} {ops : Array Oper} {rest : List Oper} {o : Oper} {a : Act} {Q : Exit → Act → World → Prop}
theorem wpList_wanted (hw : Region.wanted o (yielded ops a.tmps) = true)
    (h : ∀ K : Act → World → Prop, (∀ a w, wpList P ops Q rest a w → K a w) → o.wp P a w K Q) : wpList P ops Q (o :: rest) a w :=
  wpList_step fun K hK => by rw [if_pos hw]; exact h K hK
/-- a load of a whole array from a block that is known whole -/
theorem wpList_load_has (ty : TypeId) (x : Operand) (ho : o.op = .load ty x) (g : Nat) (hx : a.eval x = .pointer (some ⟨g, 0, none⟩)) (hw : Region.wanted o (yielded ops a.tmps) = true)
    (t : TypeId) (cs : Array Value) (hg : Has w g t cs) (d : TypeDesc) (hu : P.underlying ty = some d) (hd : (match d with | .struct _ | .array _ _ => true | _ => false) = true) (hi : (P.info? ty).map (·.size) = some cs.size)
    (h : wpList P ops Q rest (a.put o.dst (.agg cs)) w) : wpList P ops Q (o :: rest) a w :=
  wpList_wanted hw fun _ hK => wp_load_row ty x ho g hx t cs (0, 0) d hg hu hd hi (hK _ _ h)
/-- .. in a region whose operations keep the class C -/
theorem q_has {C : World → Prop} {K : Act → Prop} (ty : TypeId) (x : Operand) (ho : o.op = .load ty x) (g : Nat) (hx : a.eval x = .pointer (some ⟨g, 0, none⟩))
    (t : TypeId) (cs : Array Value) (hg : ∀ w', C w' → Has w' g t cs) (d : TypeDesc) (hu : P.underlying ty = some d) (hd : (match d with | .struct _ | .array _ _ => true | _ => false) = true) (hi : (P.info? ty).map (·.size) = some cs.size)
    (h : K (a.put o.dst (.agg cs))) : o.quiet P a C K := by
  refine ⟨.agg cs, fun w' hC => ?_, h⟩
  unfold Oper.quietAt execOp
  simp only [ho, hx, Instr.loadAt, Instr.sureAddr, Sem.run_bind, Sem.run_pure, Result.andThen_ok, run_loadVar_row w' g t ty cs (0, 0) d (hg w' hC) hu hd hi]
  exact ⟨rfl, rfl⟩
theorem wpQ_has {C : World → Prop} {L : Act → Prop} (ty : TypeId) (x : Operand) (ho : o.op = .load ty x) (g : Nat) (hx : a.eval x = .pointer (some ⟨g, 0, none⟩)) (hw : Region.wanted o (yielded ops a.tmps) = true)
    (t : TypeId) (cs : Array Value) (hg : ∀ w', C w' → Has w' g t cs) (d : TypeDesc) (hu : P.underlying ty = some d) (hd : (match d with | .struct _ | .array _ _ => true | _ => false) = true) (hi : (P.info? ty).map (·.size) = some cs.size)
    (h : wpQuiet P ops C L rest (a.put o.dst (.agg cs))) : wpQuiet P ops C L (o :: rest) a :=
  wpQuiet_step fun K hK => by rw [if_pos hw]; exact q_has ty x ho g hx t cs hg d hu hd hi (hK _ h)
/-- a call in a region whose operations keep the class C -/
theorem wpQ_call {C : World → Prop} {L : Act → Prop} (fn : FuncId) (args : Array Value) (hw : Region.wanted o (yielded ops a.tmps) = true)
    (hrun : ∀ w, (execOp a.eval o).run P w = .ok (.enter fn args) w) (v : Value) (hc : ∀ w', C w' → Calls P fn args w' fun e w'' => e = .returned v ∧ C w'')
    (h : wpQuiet P ops C L rest (a.put o.dst v)) : wpQuiet P ops C L (o :: rest) a :=
  wpQuiet_step fun K hK => by
    rw [if_pos hw]
    refine ⟨v, fun w' hC => ?_, hK _ h⟩
    unfold Oper.quietAt
    rw [hrun w']
    exact ⟨rfl, hc w' hC⟩
/-- an operation that gives one value in every world -/
theorem wpQ_val {C : World → Prop} {L : Act → Prop} (hw : Region.wanted o (yielded ops a.tmps) = true) (v : Value)
    (hrun : ∀ w, C w → (execOp a.eval o).run P w = .ok (.value v) w) (h : wpQuiet P ops C L rest (a.put o.dst v)) : wpQuiet P ops C L (o :: rest) a :=
  wpQuiet_step fun K hK => by
    rw [if_pos hw]
    refine ⟨v, fun w' hC => ?_, hK _ h⟩
    unfold Oper.quietAt
    rw [hrun w' hC]
    exact ⟨rfl, rfl⟩
end
/-- the class 'blocks that were there are as they were' after a call -/
theorem below_class {a w' w'' : World} (h : Below a.heap.size a w') (k : Below w'.heap.size w' w'') : Below a.heap.size a w'' := h.trans (k.mono h.size)
end Go.Proofs.Ytncjlglpocfeaaa
