/-
Laws for whole arrays: a load under a guard, in a list of operations and in a region that only reads.
-/
import Derived.Test.YthaockngbagdhaaDoorMem2
namespace Go.Proofs.YthaockngbagdhaaDoor
open Go Go.RowKit

section
variable {P : Program} {w : World} {ops : Array Oper} {rest : List Oper} {o : Oper} {a : Act} {Q : Exit → Act → World → Prop}
theorem wpList_wanted (hw : Region.wanted o (yielded ops a.tmps) = true)
    (h : ∀ K : Act → World → Prop, (∀ a w, wpList P ops Q rest a w → K a w) → o.wp P a w K Q) : wpList P ops Q (o :: rest) a w :=
  wpList_step fun K hK => by rw [if_pos hw]; exact h K hK
/-- a load of a whole array from a block that is known whole -/
theorem wpList_load_has (ty : TypeId) (x : Operand) (ho : o.op = .load ty x) (g : Nat) (hx : a.eval x = .pointer (some ⟨g, 0, none⟩)) (hw : Region.wanted o (yielded ops a.tmps) = true)
    (t : TypeId) (cs : Array Value) (hg : Has w g t cs) (d : TypeDesc) (hu : P.underlying ty = some d) (hd : (match d with | .struct _ | .array _ _ => true | _ => false) = true) (hi : (P.info? ty).map (·.size) = some cs.size)
    (h : wpList P ops Q rest (a.put o.dst (.agg cs)) w) : wpList P ops Q (o :: rest) a w :=
  wpList_wanted hw fun _ hK => wp_load_row ty x ho g hx t cs (0, 0) d hg hu hd hi (hK _ _ h)
/-- .. in a region whose operations keep the class C -/
theorem q_has {C : World → Prop} {K : Act → Prop} (ty : TypeId) (x : Operand) (ho : o.op = .load ty x) (g : Nat) (hx : a.eval x = .pointer (some ⟨g, 0, none⟩))
    (t : TypeId) (cs : Array Value) (hg : ∀ w', C w' → Has w' g t cs) (d : TypeDesc) (hu : P.underlying ty = some d) (hd : (match d with | .struct _ | .array _ _ => true | _ => false) = true) (hi : (P.info? ty).map (·.size) = some cs.size)
    (h : K (a.put o.dst (.agg cs))) : o.quiet P a C K := by
  refine ⟨.agg cs, fun w' hC => ?_, h⟩
  unfold Oper.quietAt execOp
  simp only [ho, hx, Instr.loadAt, Instr.sureAddr, Sem.run_bind, Sem.run_pure, Result.andThen_ok, run_loadVar_row w' g t ty cs (0, 0) d (hg w' hC) hu hd hi]
  exact ⟨rfl, rfl⟩
theorem wpQ_has {C : World → Prop} {L : Act → Prop} (ty : TypeId) (x : Operand) (ho : o.op = .load ty x) (g : Nat) (hx : a.eval x = .pointer (some ⟨g, 0, none⟩)) (hw : Region.wanted o (yielded ops a.tmps) = true)
    (t : TypeId) (cs : Array Value) (hg : ∀ w', C w' → Has w' g t cs) (d : TypeDesc) (hu : P.underlying ty = some d) (hd : (match d with | .struct _ | .array _ _ => true | _ => false) = true) (hi : (P.info? ty).map (·.size) = some cs.size)
    (h : wpQuiet P ops C L rest (a.put o.dst (.agg cs))) : wpQuiet P ops C L (o :: rest) a :=
  wpQuiet_step fun K hK => by rw [if_pos hw]; exact q_has ty x ho g hx t cs hg d hu hd hi (hK _ h)
/-- a call in a region whose operations keep the class C -/
theorem wpQ_call {C : World → Prop} {L : Act → Prop} (fn : FuncId) (args : Array Value) (hw : Region.wanted o (yielded ops a.tmps) = true)
    (hrun : ∀ w, (execOp a.eval o).run P w = .ok (.enter fn args) w) (v : Value) (hc : ∀ w', C w' → Calls P fn args w' fun e w'' => e = .returned v ∧ C w'')
    (h : wpQuiet P ops C L rest (a.put o.dst v)) : wpQuiet P ops C L (o :: rest) a :=
  wpQuiet_step fun K hK => by
    rw [if_pos hw]
    refine ⟨v, fun w' hC => ?_, hK _ h⟩
    unfold Oper.quietAt
    rw [hrun w']
    exact ⟨rfl, hc w' hC⟩
/-- an operation that gives one value in every world -/
theorem wpQ_val {C : World → Prop} {L : Act → Prop} (hw : Region.wanted o (yielded ops a.tmps) = true) (v : Value)
    (hrun : ∀ w, C w → (execOp a.eval o).run P w = .ok (.value v) w) (h : wpQuiet P ops C L rest (a.put o.dst v)) : wpQuiet P ops C L (o :: rest) a :=
  wpQuiet_step fun K hK => by
    rw [if_pos hw]
    refine ⟨v, fun w' hC => ?_, hK _ h⟩
    unfold Oper.quietAt
    rw [hrun w' hC]
    exact ⟨rfl, rfl⟩
/- .. by the kind of the operation: what its operands hold is told beside it, so that no walk sees the whole frame -/
theorem wpQ_move {C : World → Prop} {L : Act → Prop} (x : Operand) (ho : o.op = .move x) (hw : Region.wanted o (yielded ops a.tmps) = true) (X : Value) (hx : a.eval x = X)
    (h : wpQuiet P ops C L rest (a.put o.dst X)) : wpQuiet P ops C L (o :: rest) a :=
  wpQ_val hw X (fun w _ => by simp [execOp, ho, hx]) h
theorem wpQ_assign {C : World → Prop} {L : Act → Prop} (x : Operand) (ho : o.op = .assign x) (hw : Region.wanted o (yielded ops a.tmps) = true) (X : Value) (hx : a.eval x = X)
    (h : wpQuiet P ops C L rest (a.put o.dst X)) : wpQuiet P ops C L (o :: rest) a :=
  wpQ_val hw X (fun w _ => by simp [execOp, ho, hx]) h
theorem wpQ_bin {C : World → Prop} {L : Act → Prop} (op : BinOp) (t : TypeId) (x y : Operand) (t2 : TypeId) (ho : o.op = .binOp op t x y t2) (hw : Region.wanted o (yielded ops a.tmps) = true) (X Y : Value) (hx : a.eval x = X) (hy : a.eval y = Y) (v : Value)
    (hrun : ∀ w, C w → (do eqGuard op t x y X Y; binOp op t X Y : Sem Value).run P w = .ok v w) (h : wpQuiet P ops C L rest (a.put o.dst v)) : wpQuiet P ops C L (o :: rest) a :=
  wpQ_val hw v (fun w hC => by
    have := hrun w hC
    simp only [execOp, ho, hx, hy]
    rw [Sem.run_bind, this]
    rfl) h
theorem wpQ_un {C : World → Prop} {L : Act → Prop} (op : UnOp) (t : TypeId) (x : Operand) (ho : o.op = .unOp op t x) (hw : Region.wanted o (yielded ops a.tmps) = true) (X : Value) (hx : a.eval x = X) (v : Value)
    (hrun : ∀ w, C w → (Op.unary op X).run P w = .ok v w) (h : wpQuiet P ops C L rest (a.put o.dst v)) : wpQuiet P ops C L (o :: rest) a :=
  wpQ_val hw v (fun w hC => by
    have := hrun w hC
    simp only [execOp, ho, hx]
    rw [Sem.run_bind, this]
    rfl) h
theorem wpQ_conv {C : World → Prop} {L : Act → Prop} (s d : TypeId) (x : Operand) (ho : o.op = .convert s d x) (hw : Region.wanted o (yielded ops a.tmps) = true) (X : Value) (hx : a.eval x = X) (v : Value)
    (hrun : ∀ w, C w → (convert s d X).run P w = .ok v w) (h : wpQuiet P ops C L rest (a.put o.dst v)) : wpQuiet P ops C L (o :: rest) a :=
  wpQ_val hw v (fun w hC => by
    have := hrun w hC
    simp only [execOp, ho, hx]
    rw [Sem.run_bind, this]
    rfl) h
theorem wpQ_pick {C : World → Prop} {L : Act → Prop} (c x y : Operand) (ho : o.op = .pick c x y) (hw : Region.wanted o (yielded ops a.tmps) = true) (b : Bool) (hc : a.eval c = .bool b) (v : Value)
    (hv : (if b then a.eval x else a.eval y) = v) (h : wpQuiet P ops C L rest (a.put o.dst v)) : wpQuiet P ops C L (o :: rest) a :=
  wpQ_val hw v (fun w _ => by
    subst hv
    simp only [execOp, ho, hc]
    cases b <;> rfl) h
theorem wpQ_build {C : World → Prop} {L : Act → Prop} (t : TypeId) (ho : o.op = .build t #[]) (hw : Region.wanted o (yielded ops a.tmps) = true) (v : Value)
    (hrun : ∀ w, C w → (Instr.build t #[]).run P w = .ok v w) (h : wpQuiet P ops C L rest (a.put o.dst v)) : wpQuiet P ops C L (o :: rest) a :=
  wpQ_val hw v (fun w hC => by
    have := hrun w hC
    simp only [execOp, ho]
    rw [Sem.run_bind]
    simp only [Array.map_empty]
    rw [this]
    rfl) h
end
/-- the class 'blocks that were there are as they were' after a call -/
theorem below_class {a w' w'' : World} (h : Below a.heap.size a w') (k : Below w'.heap.size w' w'') : Below a.heap.size a w'' := h.trans (k.mono h.size)
end Go.Proofs.YthaockngbagdhaaDoor
