/-
More operations of a region whose operations keep a class of worlds: an address in an array, a cell, a part of a block, a slice.
-/
import Derived.Test.YthaockngbagdhaaDoorGen
namespace Go.Proofs.YthaockngbagdhaaDoor
open Go Go.RowKit

section
variable {P : Program} {w : World} {ops : Array Oper} {rest : List Oper} {o : Oper} {a : Act} {C : World → Prop} {L : Act → Prop}
theorem wpQ_indexAddr (t : TypeId) (x i : Operand) (ho : o.op = .indexAddr t x i) (hw : Region.wanted o (yielded ops a.tmps) = true) (X I : Value) (hx : a.eval x = X) (hi : a.eval i = I) (v : Value)
    (hrun : ∀ w, C w → (Instr.indexAt t X I).run P w = .ok v w) (h : wpQuiet P ops C L rest (a.put o.dst v)) : wpQuiet P ops C L (o :: rest) a :=
  wpQ_val hw v (fun w hC => by
    have := hrun w hC
    simp only [execOp, ho, hx, hi]
    rw [Sem.run_bind, this]
    rfl) h
theorem wpQ_load (t : TypeId) (x : Operand) (ho : o.op = .load t x) (hw : Region.wanted o (yielded ops a.tmps) = true) (X : Value) (hx : a.eval x = X) (v : Value)
    (hrun : ∀ w, C w → (Instr.loadAt t X).run P w = .ok v w) (h : wpQuiet P ops C L rest (a.put o.dst v)) : wpQuiet P ops C L (o :: rest) a :=
  wpQ_val hw v (fun w hC => by
    have := hrun w hC
    simp only [execOp, ho, hx]
    rw [Sem.run_bind, this]
    rfl) h
theorem wpQ_slice (t : TypeId) (x : Operand) (lo hi mx : Option Operand) (ho : o.op = .slice t x lo hi mx) (hw : Region.wanted o (yielded ops a.tmps) = true) (X : Value) (hx : a.eval x = X) (l h' m : Option Value) (hl : lo.map a.eval = l) (hh : hi.map a.eval = h') (hm : mx.map a.eval = m) (v : Value)
    (hrun : ∀ w, C w → (Instr.sliceAt t X l h' m).run P w = .ok v w) (h : wpQuiet P ops C L rest (a.put o.dst v)) : wpQuiet P ops C L (o :: rest) a :=
  wpQ_val hw v (fun w hC => by
    have := hrun w hC
    simp only [execOp, ho, hx, hl, hh, hm]
    rw [Sem.run_bind, this]
    rfl) h
theorem wpQ_arrayAt (t : TypeId) (x : Operand) (ho : o.op = .sliceToArrayPointer t x) (hw : Region.wanted o (yielded ops a.tmps) = true) (X : Value) (hx : a.eval x = X) (v : Value)
    (hrun : ∀ w, C w → (Instr.arrayAt t X).run P w = .ok v w) (h : wpQuiet P ops C L rest (a.put o.dst v)) : wpQuiet P ops C L (o :: rest) a :=
  wpQ_val hw v (fun w hC => by
    have := hrun w hC
    simp only [execOp, ho, hx]
    rw [Sem.run_bind, this]
    rfl) h
/-- a call, its function and its arguments told beside it -/
theorem wpQ_fn (fn : FuncId) (cs : Array Operand) (ts : Array TypeId) (ho : o.op = .call { callee := .value (.func fn), args := cs, argTypes := ts }) (hw : Region.wanted o (yielded ops a.tmps) = true) (args : Array Value) (hargs0 : cs.toList.map a.eval = args.toList) (hfn : ∀ w, (callFunc fn args).run P w = .ok (.enter fn args) w) (v : Value)
    (hc : ∀ w', C w' → Calls P fn args w' fun e w'' => e = .returned v ∧ C w'') (h : wpQuiet P ops C L rest (a.put o.dst v)) : wpQuiet P ops C L (o :: rest) a :=
  have hargs : cs.map a.eval = args := by
    apply Array.toList_inj.1
    rw [Array.toList_map]
    exact hargs0
  wpQ_call fn args hw (fun w => by
    unfold execOp
    simp only [ho]
    subst hargs
    go_simp) v hc h
end
end Go.Proofs.YthaockngbagdhaaDoor
