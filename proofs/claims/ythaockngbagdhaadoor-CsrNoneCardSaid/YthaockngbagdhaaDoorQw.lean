/-
The steps of a quiet region behind a structure, which nothing unfolds: a skipped operation costs nothing then.
-/
import Derived.Test.YthaockngbagdhaaDoorGenB
import Derived.Test.YthaockngbagdhaaDoorMem2
import Derived.Test.YthaockngbagdhaaDoorTriM
import Derived.BigQuiet
namespace Go.Proofs.YthaockngbagdhaaDoor
open Go Go.RowKit

structure WQ (P : Program) (ops : Array Oper) (C : World → Prop) (L : Act → Prop) (rest : List Oper) (a : Act) : Prop where
  out : wpQuiet P ops C L rest a
section
variable {P : Program} {ops : Array Oper} {C : World → Prop} {L : Act → Prop} {rest rest' : List Oper} {a a' : Act} {o : Oper}
theorem WQ.lift (h : wpQuiet P ops C L rest a → wpQuiet P ops C L rest' a') (k : WQ P ops C L rest a) : WQ P ops C L rest' a' := ⟨h k.out⟩
theorem WQ.skip (hw : Region.wanted o (yielded ops a.tmps) = false) (k : WQ P ops C L rest (a.put o.dst undef)) : WQ P ops C L (o :: rest) a := ⟨BigFrame.wpQuiet_skip hw k.out⟩
end
theorem setRow_same {w : World} {g : Nat} {t : TypeId} {cs : Array Value} (h : Has w g t cs) : w.setRow g cs = w := by
  have hl : g < w.heap.size := h.lt
  have hg : w.heap[g]? = some (.cells cs t (0, 0)) := h
  have e : (w.setRow g cs).heap = w.heap := by
    unfold World.setRow
    apply Array.ext (by simp)
    intro i h1 h2
    dsimp only
    rw [Array.getElem_modify]
    by_cases hi : g = i
    · subst hi
      have h3 : w.heap[g] = .cells cs t (0, 0) := by
        rw [Array.getElem?_eq_getElem h2] at hg
        exact Option.some.inj hg
      rw [if_pos rfl, h3]
    · rw [if_neg hi]
  show { w with heap := (w.setRow g cs).heap } = w
  rw [e]
section
variable {P : Program} {ops : Array Oper} {C : World → Prop} {L : Act → Prop} {rest : List Oper} {a : Act} {o : Oper}
/-- a store of what lies there already -/
theorem wpQ_same (ty : TypeId) (x y : Operand) (ho : o.op = .store ty x y) (hw : Region.wanted o (yielded ops a.tmps) = true) (g : Nat) (hx : a.eval x = .pointer (some ⟨g, 0, none⟩)) (cells : Array Value) (hy : a.eval y = .agg cells)
    (t : TypeId) (hg : ∀ w', C w' → Has w' g t cells) (hi : (P.info? ty).map (·.size) = some cells.size) (h1 : cells.all (·.oneCell') = true)
    (h : wpQuiet P ops C L rest (a.put o.dst undef)) : wpQuiet P ops C L (o :: rest) a :=
  wpQuiet_step fun K hK => by
    rw [if_pos hw]
    refine ⟨undef, fun w hC => ?_, hK _ h⟩
    have hr : (execOp a.eval o).run P w = .ok .skip w := by
      unfold execOp
      simp only [ho, hx, hy, Instr.storeAt, Instr.sureAddr, Sem.run_bind, Sem.run_pure, Result.andThen_ok, run_storeVar_row w g t ty cells cells (hg w hC) hi rfl h1]
      rw [setRow_same (hg w hC)]
    unfold Oper.quietAt
    rw [hr]
    exact ⟨rfl, rfl⟩
theorem region_quiet_all {id : Nat} {Q : Exit → Act → World → Prop} {a : Act} {w : World} {l : List Oper} (C : World → Prop) (hm : P.follows .mixedOrders = true) (hB : Region.lexB .any l.toArray = true)
    (hC : C { w with drawn := w.drawn + 1 }) (h : wpQuiet P l.toArray C (fun a' => ∀ w', C w' → Q .normal a' w') l a) : (Code.region id l.toArray true).wp P Q a w :=
  wp_region_quiet (C := C) hm hB hC (by simpa using h)
end
theorem zero32b : (#[Value.int IntKind.u8 0, Value.int IntKind.u8 0, Value.int IntKind.u8 0, Value.int IntKind.u8 0, Value.int IntKind.u8 0, Value.int IntKind.u8 0, Value.int IntKind.u8 0, Value.int IntKind.u8 0, Value.int IntKind.u8 0, Value.int IntKind.u8 0, Value.int IntKind.u8 0, Value.int IntKind.u8 0, Value.int IntKind.u8 0, Value.int IntKind.u8 0, Value.int IntKind.u8 0, Value.int IntKind.u8 0, Value.int IntKind.u8 0, Value.int IntKind.u8 0, Value.int IntKind.u8 0, Value.int IntKind.u8 0, Value.int IntKind.u8 0, Value.int IntKind.u8 0, Value.int IntKind.u8 0, Value.int IntKind.u8 0, Value.int IntKind.u8 0, Value.int IntKind.u8 0, Value.int IntKind.u8 0, Value.int IntKind.u8 0, Value.int IntKind.u8 0, Value.int IntKind.u8 0, Value.int IntKind.u8 0, Value.int IntKind.u8 0] : Array Value) = tab 32 fun _ => .int .u8 0 := by kernel_rfl
theorem infA32 (f : Nat → Value) : (Tryd.prog.info? 87).map (·.size) = some (tab 32 f).size := by rw [tab_size]; kernel_rfl
theorem zeroA32 : (Tryd.prog.info? 87).map (fun i => (i.zero, i.size)) = some (some (.agg (tab 32 fun _ => .int .u8 0)), 32) := by kernel_rfl
theorem sliceAll (d : Nat) (W : World) : (Instr.sliceAt 87 (.pointer (some ⟨d, 0, none⟩)) none none none).run Tryd.prog W = .ok (.slice (some ⟨d, 0, none⟩) 32 32) W := by
  go_simp
end Go.Proofs.YthaockngbagdhaaDoor
