/-
Memory, continued: only one block changes; whole arrays loaded, stored, copied in the middle of a block; the steps of a region that only reads, in a class of worlds.
-/
import Derived.Test.YthaockngbagdhaaDoorMem
import Derived.Test.YthaockngbagdhaaDoorQTail
import Derived.Deep.MidRow
import Derived.Laws.CopyOwn
namespace Go.Proofs.YthaockngbagdhaaDoor
open Go Go.RowKit

/- only block g has changed, and there may be new ones -/
theorem only_trans {a b c : World} {row : Option Nat} (h : a.grownBy b row) (k : b.grownBy c row) : a.grownBy c row :=
  ⟨k.os.trans h.os, k.tape.trans h.tape, k.output.trans h.output, Nat.le_trans h.size k.size, fun i hi hne => (k.block i (Nat.lt_of_lt_of_le hi h.size) hne).trans (h.block i hi hne)⟩
theorem only_drewN (a : World) (n : Nat) (row : Option Nat) : a.grownBy (a.drewN n) row := ⟨rfl, rfl, rfl, Nat.le_refl _, fun _ _ _ => rfl⟩
theorem only_below {a b : World} (h : Below a.heap.size a b) (row : Option Nat) : a.grownBy b row := ⟨h.os, h.tape, h.output, h.size, fun i hi _ => h.block i hi⟩
theorem only_setCell (a : World) (g o : Nat) (v : Value) : a.grownBy (a.setCell ⟨g, o, none⟩ v) (some g) :=
  ⟨rfl, rfl, rfl, by simp [World.setCell], fun i _ hne => Below.heap_setCell a _ v i (fun e => hne (by rw [e]))⟩
theorem below_of_only {a b : World} {g : Nat} (h : a.grownBy b (some g)) {B : Nat} (hB : B ≤ g) (hs : B ≤ a.heap.size) : Below B a b :=
  ⟨h.os, h.tape, h.output, h.size, fun i hi => h.block i (Nat.lt_of_lt_of_le hi hs) (by simp; omega)⟩
/-- what was known of a block is known of a range of it -/
theorem Has.range {w : World} {g N : Nat} {t : TypeId} {f : Nat → Value} (h : Has w g t (tab N f)) (off n : Nat) (hn : off + n ≤ N) : w.rangeAt g off ((List.range n).map fun j => f (off + j)) := fun j v hv => by
  have hj : j < n := by have := (List.getElem?_eq_some_iff.1 hv).1; simpa using this
  rw [h.cellTab (off + j) (by omega), ← hv]
  simp [hj]

/-- a whole array is loaded in a region that only reads -/
theorem q_load {P : Program} {ops : Array Oper} {C : World → Prop} {K : Act → Prop} {a : Act} {op : Oper} (hgd : op.guard = none) (ty : TypeId) (x : Operand) (ho : op.op = .load ty x)
    (b off : Nat) (hx : a.eval x = .pointer (some ⟨b, off, none⟩)) (n : Nat) (f : Nat → Value) (d : TypeDesc) (hc : ∀ w', C w' → w'.rangeAt b off ((List.range n).map f))
    (hu : P.underlying ty = some d) (hd : d.isRow = true) (hi : (P.info? ty).map (·.size) = some n)
    (h : K (a.put op.dst (.agg (tab n f)))) : if Region.wanted op (yielded ops a.tmps) then op.quiet P a C K else K (a.put op.dst undef) := by
  have hw : Region.wanted op (yielded ops a.tmps) = true := by simp [Region.wanted, hgd]
  rw [if_pos hw]
  refine ⟨.agg (tab n f), fun w' hw' => ?_, h⟩
  unfold Oper.quietAt execOp
  simp only [ho, hx, Instr.loadAt, Instr.sureAddr, Sem.run_bind, Sem.run_pure, Result.andThen_ok, run_loadVar_mid w' b off ty _ d (hc w' hw') hu hd (by simpa using hi)]
  exact ⟨rfl, rfl⟩

/-- an operation that gives one value in every world -/
theorem q_val {P : Program} {ops : Array Oper} {C : World → Prop} {K : Act → Prop} {a : Act} {op : Oper} (hgd : op.guard = none) (v : Value)
    (hrun : ∀ w, (execOp a.eval op).run P w = .ok (.value v) w) (h : K (a.put op.dst v)) : if Region.wanted op (yielded ops a.tmps) then op.quiet P a C K else K (a.put op.dst undef) := by
  have hw : Region.wanted op (yielded ops a.tmps) = true := by simp [Region.wanted, hgd]
  rw [if_pos hw]
  refine ⟨v, fun w' _ => ?_, h⟩
  unfold Oper.quietAt
  rw [hrun w']
  exact ⟨rfl, rfl⟩
/-- a call, in a region whose operations keep the class C -/
theorem q_call {P : Program} {ops : Array Oper} {C : World → Prop} {K : Act → Prop} {a : Act} {op : Oper} (hgd : op.guard = none) (fn : FuncId) (args : Array Value)
    (hrun : ∀ w, (execOp a.eval op).run P w = .ok (.enter fn args) w) (v : Value) (hc : ∀ w', C w' → Calls P fn args w' fun e w'' => e = .returned v ∧ C w'')
    (h : K (a.put op.dst v)) : if Region.wanted op (yielded ops a.tmps) then op.quiet P a C K else K (a.put op.dst undef) := by
  have hw : Region.wanted op (yielded ops a.tmps) = true := by simp [Region.wanted, hgd]
  rw [if_pos hw]
  refine ⟨v, fun w' hw' => ?_, h⟩
  unfold Oper.quietAt
  rw [hrun w']
  exact ⟨rfl, hc w' hw'⟩

/-- an array by value goes into a part of a block that is known whole -/
theorem wp_store_tab {P : Program} {w : World} {ops : Array Oper} {rest : List Oper} {op : Oper} {a : Act} {Q : Exit → Act → World → Prop} (hgd : op.guard = none) (ty : TypeId) (x y : Operand) (ho : op.op = .store ty x y)
    (g off : Nat) (hx : a.eval x = .pointer (some ⟨g, off, none⟩)) (n : Nat) (v : Nat → Value) (hy : a.eval y = .agg (tab n v))
    (N : Nat) (f : Nat → Value) (t : TypeId) (hg : Has w g t (tab N f)) (hi : (P.info? ty).map (·.size) = some n) (hfit : off + n ≤ N) (h1 : ∀ j, (v j).oneCell' = true)
    (h : ∀ w', Has w' g t (tab N fun j => if off ≤ j ∧ j < off + n then v (j - off) else f j) → w.grownBy w' (some g) → wpList P ops Q rest (a.put op.dst undef) w') : wpList P ops Q (op :: rest) a w := by
  refine wpList_plain hgd fun K hK => ?_
  have hl : ((List.range n).map v).length = n := by simp
  have hrun := run_storeCells_at (P := P) g off t ((List.range n).map v) 0 (tab N f) w hg (by rw [hl, tab_size]; omega) (fun u hu => by obtain ⟨j, _, rfl⟩ := List.mem_map.1 hu; exact h1 j)
  have e := tab_splice N f v off n hfit
  rw [hl, Nat.add_zero, List.append_assoc, e] at hrun
  have hs : (storeVar ty ⟨g, off, none⟩ (.agg (tab n v))).run P w = .ok () (w.setRow g (tab N fun j => if off ≤ j ∧ j < off + n then v (j - off) else f j)) := by
    cases hq : P.info? ty with
    | none => simp [hq] at hi
    | some i =>
      have hs : i.size = n := by simpa [hq] using hi
      simp [storeVar, sizeOf, typeInfo, hq, Value.cells, hs, tab_size, tab_toList, hrun]
  unfold Oper.wp execOp
  simp only [ho, hx, hy, Instr.storeAt, Instr.sureAddr, Sem.run_bind, Sem.run_pure, Result.andThen_ok, hs]
  exact hK _ _ (h _ (hg.setRow _) ⟨rfl, rfl, rfl, by simp, fun i _ hne => setRow_other w g i _ (fun e => hne (by rw [e]))⟩)
/-- 'copy' into a block that is known whole, from cells elsewhere -/
theorem wp_copy_tab {P : Program} {w : World} {ops : Array Oper} {rest : List Oper} {op : Oper} {a : Act} {Q : Exit → Act → World → Prop} (hgd : op.guard = none) (d s : Operand) (dT sT : TypeId)
    (ho : op.op = .call { callee := .builtin .copy, args := #[d, s], argTypes := #[dT, sT] }) (elem : TypeId) (hu : P.underlying dT = some (.slice elem)) (hsz : (P.info? elem).map (·.size) = some 1)
    (g off dLen dCap b o sLen sCap : Nat) (hd : a.eval d = .slice (some ⟨g, off, none⟩) dLen dCap) (hs : a.eval s = .slice (some ⟨b, o, none⟩) sLen sCap)
    (N : Nat) (f : Nat → Value) (t : TypeId) (hg : Has w g t (tab N f)) (k : Nat) (hk : k = Nat.min sLen dLen) (v : Nat → Value)
    (hsrc : ∀ j, j < k → w.cell? ⟨b, o + j, none⟩ = some (v j)) (hfit : off + k ≤ N) (h1 : ∀ j, (v j).oneCell' = true)
    (h : ∀ w', Has w' g t (tab N fun j => if off ≤ j ∧ j < off + k then v (j - off) else f j) → w.grownBy w' (some g) → wpList P ops Q rest (a.put op.dst (.int .i64 (k : Int))) w') : wpList P ops Q (op :: rest) a w := by
  have hl : ((List.range k).map v).length = k := by simp
  refine wpList_copy_own hgd d s dT sT ho elem hu hsz g off dLen dCap ⟨b, o, none⟩ sLen sCap hd hs (tab N f) t hg ((List.range k).map v) (by rw [hl, hk]) (fun j u hj => ?_) (by rw [hl, tab_size]; exact hfit) (fun u hu => ?_) ?_
  · have hjk : j < k := by have := (List.getElem?_eq_some_iff.1 hj).1; simpa using this
    have e : (⟨b, o, none⟩ : Addr).add j = ⟨b, o + j, none⟩ := Addr.add_mid b o j
    rw [e, hsrc j hjk, ← hj]
    simp [hjk]
  · obtain ⟨j, _, rfl⟩ := List.mem_map.1 hu
    exact h1 j
  · have e := tab_splice N f v off k hfit
    have hh := hg.setRow (((tab N f).toList.take off ++ ((List.range k).map v ++ (tab N f).toList.drop (off + k))).toArray)
    rw [hl]
    rw [e] at hh ⊢
    exact h _ hh ⟨rfl, rfl, rfl, by simp, fun i _ hne => setRow_other w g i _ (fun e => hne (by rw [e]))⟩

end Go.Proofs.YthaockngbagdhaaDoor
