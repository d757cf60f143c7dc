/-
Memory: a block that is known whole, and arrays given by a function of the place.
A region that draws its order, whose operations up to a tail only read or call quietly (in a class of worlds), and whose tail comes in one order: one walk in the order of the text.
Memory, continued: only one block changes; whole arrays loaded, stored, copied in the middle of a block; the steps of a region that only reads, in a class of worlds.
Laws for whole arrays: a load under a guard, in a list of operations and in a region that only reads.
More operations of a region whose operations keep a class of worlds: an address in an array, a cell, a part of a block, a slice.
Digits of a natural number to any base, sums and differences by digits, with what is carried and borrowed.
More on digits: a number built up digit by digit in words of a greater base, twice a number, a digit set anew, half a number.
A region that draws its order, whose operations up to a tail may read, call and make memory in any order, and leave what was there as it was: each gives a value of which a fact holds that lasts; then the tail, which comes in one order. Operations of no world ('floats') may come late.
'==' of two arrays of integers by value.
-/
import Derived.Test.YtgpofoggfifnjaaGreatDoorRows
import Derived.WalkKit
import Derived.Laws.Rows
import Derived.Deep.Draws
import Derived.KernelRfl
import Derived.StillTail
import Derived.Deep.Quiet
import Derived.Deep.QuietTactic
import Derived.Below
import Derived.Deep.MidRow
import Derived.Laws.CopyOwn
import Derived.Laws.StructEq
namespace Go.Proofs.YtgpofoggfifnjaaGreatDoor
open Go Go.RowKit

/-- n values, the j-th is f j -/
def tab (n : Nat) (f : Nat → Value) : Array Value := ((List.range n).map f).toArray
theorem tab_size (n : Nat) (f : Nat → Value) : (tab n f).size = n := by simp [tab]
theorem tab_get (n : Nat) (f : Nat → Value) (i : Nat) (h : i < n) : (tab n f)[i]? = some (f i) := by simp [tab, h]
theorem tab_ext (n : Nat) (f g : Nat → Value) (h : ∀ j, j < n → f j = g j) : tab n f = tab n g := by
  unfold tab; congr 1; apply List.map_congr_left; intro j hj; exact h j (by simpa using hj)
theorem tab_set (n : Nat) (f : Nat → Value) (i : Nat) (v : Value) : (tab n f).setIfInBounds i v = tab n (fun j => if j = i then v else f j) := by
  apply Array.ext
  · simp [tab]
  · intro j h1 h2
    simp only [tab, List.setIfInBounds_toArray, List.getElem_toArray, List.getElem_set, List.getElem_map, List.getElem_range]
    simp only [eq_comm]

/-- block g of w holds just the cells cs of type t, none frozen -/
def Has (w : World) (g : Nat) (t : TypeId) (cs : Array Value) : Prop := w.heap[g]? = some (.cells cs t (0, 0))

section
variable {w w' : World} {g : Nat} {t : TypeId} {cs : Array Value}
theorem Has.lt (h : Has w g t cs) : g < w.heap.size := by
  by_cases c : g < w.heap.size
  · exact c
  · have : w.heap[g]? = none := by simp; omega
    unfold Has at h; rw [this] at h; cases h
theorem Has.cell (h : Has w g t cs) (i : Nat) : w.cell? ⟨g, i, none⟩ = cs[i]? := cell_of_row w g i cs t (0, 0) h
theorem Has.cellTab {n : Nat} {f : Nat → Value} (h : Has w g t (tab n f)) (i : Nat) (hi : i < n) : w.cell? ⟨g, i, none⟩ = some (f i) := by
  rw [h.cell, tab_get n f i hi]
theorem Has.free (h : Has w g t cs) (i : Nat) : w.frozen? ⟨g, i, none⟩ = false := frozen_of_row w g i cs t h
theorem Has.new (w : World) (t : TypeId) (cs : Array Value) : Has (w.alloc (.cells cs t)) w.heap.size t cs := heap_alloc_new w _
theorem Has.new' (h : g = w.heap.size) : Has (w.alloc (.cells cs t)) g t cs := by subst h; exact Has.new w t cs
theorem Has.alloc (h : Has w g t cs) (o : Obj) : Has (w.alloc o) g t cs := (Below.heap_alloc w o g h.lt).trans h
theorem Has.drewN (h : Has w g t cs) (n : Nat) : Has (w.drewN n) g t cs := h
theorem Has.set (h : Has w g t cs) (i : Nat) (v : Value) : Has (w.setCell ⟨g, i, none⟩ v) g t (cs.setIfInBounds i v) := heap_setCell_same w g i cs t v h
theorem Has.far (h : Has w g t cs) {a : Addr} (ha : g ≠ a.block) (v : Value) : Has (w.setCell a v) g t cs := (heap_setCell_other w a g v ha).trans h
theorem Has.below {B : Nat} (h : Has w g t cs) (hb : Below B w w') (hg : g < B) : Has w' g t cs := (hb.block g hg).trans h
theorem Has.setRow (h : Has w g t cs) (cs' : Array Value) : Has (w.setRow g cs') g t cs' := setRow_heap w g cs cs' t (0, 0) h
end
theorem below_drewN {B : Nat} {a w : World} (h : Below B a w) (n : Nat) : Below B a (w.drewN n) := ⟨h.os, h.tape, h.output, h.size, h.block⟩
/-- a part of a block is overwritten -/
theorem tab_splice (n : Nat) (f v : Nat → Value) (o m : Nat) (h : o + m ≤ n) :
    ((tab n f).toList.take o ++ ((List.range m).map v ++ (tab n f).toList.drop (o + m))).toArray = tab n (fun j => if o ≤ j ∧ j < o + m then v (j - o) else f j) := by
  unfold tab
  congr 1
  apply List.ext_getElem
  · simp; omega
  · intro j h1 h2
    have hj : j < n := by simpa using h2
    simp only [List.getElem_append, List.getElem_take, List.getElem_map, List.getElem_range, List.getElem_drop, List.length_take, List.length_map, List.length_range, Nat.min_eq_left (show o ≤ n by omega)]
    by_cases h3 : j < o
    · rw [dif_pos h3, if_neg (by omega)]
    · rw [dif_neg h3]
      by_cases h4 : j < o + m
      · rw [dif_pos (by omega), if_pos (by omega)]
      · rw [dif_neg (by omega), if_neg (by omega)]
        congr 1
        omega
theorem tab_toList (n : Nat) (f : Nat → Value) : (tab n f).toList = (List.range n).map f := by simp [tab]
end Go.Proofs.YtgpofoggfifnjaaGreatDoor
namespace Go.Proofs.YtgpofoggfifnjaaGreatDoor
open Go

section
variable {P : Program} {md : Region.Mode} {ops : Array Oper} {C : World → Prop}

def headQ (P : Program) (md : Region.Mode) (ops : Array Oper) (C : World → Prop) (n : Nat) (L : Array Bool → Act → Prop) : Nat → Array Bool → Act → Prop
  | 0, listed, a => L listed a
  | f + 1, listed, a =>
    Region.ready md ops listed ≠ [] ∧ ∀ i ∈ Region.ready md ops listed, i < n ∧ qOp P ops C i (headQ P md ops C n L f (listed.setIfInBounds i true)) a

theorem any_of_headQ {n g : Nat} {L : Array Bool → Act → Prop} {Q' : Exit → Act → World → Prop} (hL : ∀ listed a w, C w → L listed a → wpAny P md ops Q' g listed a w) :
    ∀ (f : Nat) (listed : Array Bool) (a : Act) (w : World), C w → headQ P md ops C n L f listed a → wpAny P md ops Q' (f + g) listed a w := by
  intro f
  induction f with
  | zero => intro listed a w hC h; rw [Nat.zero_add]; exact hL _ _ _ hC h
  | succ f ih =>
    intro listed a w hC h
    rw [show f + 1 + g = (f + g) + 1 by omega]
    exact ⟨fun h0 => absurd h0 h.1, fun i hi => wpOp_of_qOp hC (fun a' w' hC' h' => ih _ a' w' hC' h') (h.2 i hi).2⟩

theorem headQ_first {n i : Nat} {oi : Oper} {v : Value} {L : Array Bool → Act → Prop} (hi : ops[i]? = some oi) (hsel : ∀ (j : Nat) (o : Oper) cs b, ops[j]? = some o → o.op ≠ .select cs b)
    (hs : Region.sinkB md ops n = true) (hc : Region.chainB md ops n = true) (hn : n < ops.size) (hin : i < n)
    (hdone : ∀ listed a, L listed a → ∀ j ∈ Region.ready md ops listed, n ≤ j) :
    ∀ (f : Nat) (listed : Array Bool) (a : Act), HeadInv md ops n listed →
      (∀ j oj, ops[j]? = some oj → j ≠ i → listed.getD j true = false → (∀ e ∈ oj.after, Region.binds md e = true → e.on ≠ i) → oi.apart ops oj = true) →
      i ∈ Region.ready md ops listed → YieldsIn P ops C oi v a →
      headQ P md ops C n L f (listed.setIfInBounds i true) (a.put oi.dst v) → headQ P md ops C n L (f + 1) listed a := by
  intro f
  induction f with
  | zero =>
    intro listed a inv _ hr hy H
    have hun := (mem_ready.1 hr).1
    refine ⟨fun h => (by rw [h] at hr; cases hr), fun j hj => ?_⟩
    have hjn : j < n := by
      by_cases h : j < n
      · exact h
      · exact absurd hj (tail_waits hs hc hn inv _ i rfl hin hun j (by omega))
    refine ⟨hjn, ?_⟩
    by_cases hji : j = i
    · subst hji; exact hy.qOp hi H
    · have := hdone _ _ H j (ready_mono hj hji)
      omega
  | succ f ih =>
    intro listed a inv hfree hr hy H
    have hun := (mem_ready.1 hr).1
    refine ⟨fun h => (by rw [h] at hr; cases hr), fun j hj => ?_⟩
    have hjn : j < n := by
      by_cases h : j < n
      · exact h
      · exact absurd hj (tail_waits hs hc hn inv _ i rfl hin hun j (by omega))
    refine ⟨hjn, ?_⟩
    by_cases hji : j = i
    · subst hji; exact hy.qOp hi H
    · have h1 := (H.2 j (ready_mono hj hji)).2
      obtain ⟨hjun, oj, hoj, hall⟩ := mem_ready.1 hj
      have hnot : ∀ e ∈ oj.after, Region.binds md e = true → e.on ≠ i := fun e he hb heq => by
        have h1 := hall e he hb
        rw [heq, getD_both hun] at h1
        cases h1
      have h2 := qOp_put hoj (hfree j oj hoj hji hjun hnot) (fun cs b => hsel i oi cs b hi) (fun cs b => hsel j oj cs b hoj) hy h1
      have hfree' : ∀ k ok, ops[k]? = some ok → k ≠ i → (listed.setIfInBounds j true).getD k true = false →
          (∀ e ∈ ok.after, Region.binds md e = true → e.on ≠ i) → oi.apart ops ok = true := fun k ok hk hki hun' hno => by
        refine hfree k ok hk hki ?_ hno
        by_cases hjk : j = k
        · subst hjk; exact hjun
        · rw [getD_set_ne true hjk] at hun'; exact hun'
      refine qOp_mono (fun a' h3 => ih (listed.setIfInBounds j true) a' (inv.set hj hjn) hfree' (ready_mono hr (Ne.symm hji)) h3.1 ?_) h2
      rw [Array.setIfInBounds_comm _ _ hji]
      exact h3.2

theorem headQ_lex {n g : Nat} {Lq : Act → Prop} (hsel : Region.noSelect ops = true) (hs : Region.sinkB md ops n = true) (hc : Region.chainB md ops n = true) (hn : n < ops.size)
    (l : List Oper) : ∀ (k : Nat) (listed : Array Bool) (a : Act), (∀ j, j < l.length → l[j]? = ops[k + j]?) → k + l.length = n → HeadInv md ops n listed →
    Region.lexHead md ops g l.length k listed = true → wpQuiet P ops C Lq l a →
    headQ P md ops C n (fun listed' a' => Region.seqB md ops g n listed' = true ∧ Lq a') l.length listed a := by
  induction l with
  | nil =>
    intro k listed a _ hk _ hB h
    obtain rfl : k = n := by simpa using hk
    exact ⟨by simpa [Region.lexHead] using hB, h⟩
  | cons o l ih =>
    intro k listed a hl hk inv hB h
    have h0 : ops[k]? = some o := by simpa using (hl 0 (by simp)).symm
    simp only [List.length_cons, Region.lexHead, Bool.and_eq_true] at hB
    obtain ⟨⟨hr, hf⟩, hB'⟩ := hB
    have hkn : k < n := by simp only [List.length_cons] at hk; omega
    have hr' : k ∈ Region.ready md ops listed := by simpa using hr
    have hst : qOp P ops C k (wpQuiet P ops C Lq l) a := by unfold qOp; simp only [h0]; exact h
    obtain ⟨v, hy, hK⟩ := yieldsIn_of_qOp h0 hst
    exact headQ_first h0 (Region.noSelect_spec hsel) hs hc hn hkn (fun listed' a' hL => seqB_ready hL.1) l.length listed a inv (Region.free_spec h0 hf) hr' hy
      (ih (k + 1) _ _ (fun j hj => by have := hl (j + 1) (by simp; omega); simpa [Nat.add_assoc, Nat.add_comm 1 j] using this) (by simp only [List.length_cons] at hk; omega) (inv.set hr' hkn) hB' hK)

/-- the region's wp, by one walk: the head in the class C, then the tail in every world of the class -/
theorem region_quiet_tail {id : Nat} {Q : Exit → Act → World → Prop} {a : Act} {w : World} {l : List Oper} (C : World → Prop) (n : Nat) (hm : P.follows .mixedOrders = true)
    (hB : Region.lexTailB .any l.toArray n = true) (hC : C { w with drawn := w.drawn + 1 })
    (h : wpQuiet P l.toArray C (fun a' => ∀ w', C w' → wpList P l.toArray Q (l.drop n) a' w') (l.take n) a) : (Code.region id l.toArray true).wp P Q a w := by
  simp only [Region.lexTailB, Bool.and_eq_true, decide_eq_true_eq] at hB
  obtain ⟨⟨⟨⟨hsel, hn⟩, hs⟩, hc⟩, hlex⟩ := hB
  have hn' : n < l.length := by simpa using hn
  have htl : (l.take n).length = n := by simp; omega
  have hdl : (l.drop n).length = l.toArray.size - n := by simp
  have inv0 : HeadInv .any l.toArray n (Array.replicate l.toArray.size false) :=
    ⟨by simp, fun j oj _ hl => (by rw [getD_replicate_false] at hl; cases hl), fun t _ ht => getD_in (by simpa using ht) (getD_replicate_false _ _)⟩
  have H := headQ_lex (md := .any) (g := l.toArray.size - n) hsel hs hc hn (l.take n) 0 _ a (fun j hj => by
    have hj' : j < n := by rw [htl] at hj; exact hj
    simp [hj']) (by simpa using htl) inv0 (by rw [htl]; exact hlex) h
  refine wp_region_any hm ?_
  have := any_of_headQ (Q' := Q) (g := l.toArray.size - n) (fun listed a' w' hC' hL => by
    have := wpAny_of_seq (md := .any) (Q' := Q) (l.drop n) n listed a' w' (fun j => by simp [List.getElem?_drop]) (by rw [hdl]; exact hL.1) (hL.2 w' hC')
    rwa [hdl] at this) _ _ _ _ hC H
  rw [htl, show n + (l.toArray.size - n) = l.toArray.size by omega] at this
  exact this
end
end Go.Proofs.YtgpofoggfifnjaaGreatDoor
namespace Go.Proofs.YtgpofoggfifnjaaGreatDoor
open Go Go.RowKit

/- only block g has changed, and there may be new ones -/
theorem only_trans {a b c : World} {row : Option Nat} (h : a.grownBy b row) (k : b.grownBy c row) : a.grownBy c row :=
  ⟨k.os.trans h.os, k.tape.trans h.tape, k.output.trans h.output, Nat.le_trans h.size k.size, fun i hi hne => (k.block i (Nat.lt_of_lt_of_le hi h.size) hne).trans (h.block i hi hne)⟩
theorem only_drewN (a : World) (n : Nat) (row : Option Nat) : a.grownBy (a.drewN n) row := ⟨rfl, rfl, rfl, Nat.le_refl _, fun _ _ _ => rfl⟩
theorem only_below {a b : World} (h : Below a.heap.size a b) (row : Option Nat) : a.grownBy b row := ⟨h.os, h.tape, h.output, h.size, fun i hi _ => h.block i hi⟩
theorem only_setCell (a : World) (g o : Nat) (v : Value) : a.grownBy (a.setCell ⟨g, o, none⟩ v) (some g) :=
  ⟨rfl, rfl, rfl, by simp [World.setCell], fun i _ hne => Below.heap_setCell a _ v i (fun e => hne (by rw [e]))⟩
theorem below_of_only {a b : World} {g : Nat} (h : a.grownBy b (some g)) {B : Nat} (hB : B ≤ g) (hs : B ≤ a.heap.size) : Below B a b :=
  ⟨h.os, h.tape, h.output, h.size, fun i hi => h.block i (Nat.lt_of_lt_of_le hi hs) (by simp; omega)⟩
/-- what was known of a block is known of a range of it -/
theorem Has.range {w : World} {g N : Nat} {t : TypeId} {f : Nat → Value} (h : Has w g t (tab N f)) (off n : Nat) (hn : off + n ≤ N) : w.rangeAt g off ((List.range n).map fun j => f (off + j)) := fun j v hv => by
  have hj : j < n := by have := (List.getElem?_eq_some_iff.1 hv).1; simpa using this
  rw [h.cellTab (off + j) (by omega), ← hv]
  simp [hj]

/-- an array by value goes into a part of a block that is known whole -/
theorem wp_store_tab {P : Program} {w : World} {ops : Array Oper} {rest : List Oper} {op : Oper} {a : Act} {Q : Exit → Act → World → Prop} (hgd : op.guard = none) (ty : TypeId) (x y : Operand) (ho : op.op = .store ty x y)
    (g off : Nat) (hx : a.eval x = .pointer (some ⟨g, off, none⟩)) (n : Nat) (v : Nat → Value) (hy : a.eval y = .agg (tab n v))
    (N : Nat) (f : Nat → Value) (t : TypeId) (hg : Has w g t (tab N f)) (hi : (P.info? ty).map (·.size) = some n) (hfit : off + n ≤ N) (h1 : ∀ j, (v j).oneCell' = true)
    (h : ∀ w', Has w' g t (tab N fun j => if off ≤ j ∧ j < off + n then v (j - off) else f j) → w.grownBy w' (some g) → wpList P ops Q rest (a.put op.dst undef) w') : wpList P ops Q (op :: rest) a w := by
  refine wpList_plain hgd fun K hK => ?_
  have hl : ((List.range n).map v).length = n := by simp
  have hrun := run_storeCells_at (P := P) g off t ((List.range n).map v) 0 (tab N f) w hg (by rw [hl, tab_size]; omega) (fun u hu => by obtain ⟨j, _, rfl⟩ := List.mem_map.1 hu; exact h1 j)
  have e := tab_splice N f v off n hfit
  rw [hl, Nat.add_zero, List.append_assoc, e] at hrun
  have hs : (storeVar ty ⟨g, off, none⟩ (.agg (tab n v))).run P w = .ok () (w.setRow g (tab N fun j => if off ≤ j ∧ j < off + n then v (j - off) else f j)) := by
    cases hq : P.info? ty with
    | none => simp [hq] at hi
    | some i =>
      have hs : i.size = n := by simpa [hq] using hi
      simp [storeVar, sizeOf, typeInfo, hq, Value.cells, hs, tab_size, tab_toList, hrun]
  unfold Oper.wp execOp
  simp only [ho, hx, hy, Instr.storeAt, Instr.sureAddr, Sem.run_bind, Sem.run_pure, Result.andThen_ok, hs]
  exact hK _ _ (h _ (hg.setRow _) ⟨rfl, rfl, rfl, by simp, fun i _ hne => setRow_other w g i _ (fun e => hne (by rw [e]))⟩)
/-- 'copy' into a block that is known whole, from cells elsewhere -/
theorem wp_copy_tab {P : Program} {w : World} {ops : Array Oper} {rest : List Oper} {op : Oper} {a : Act} {Q : Exit → Act → World → Prop} (hgd : op.guard = none) (d s : Operand) (dT sT : TypeId)
    (ho : op.op = .call { callee := .builtin .copy, args := #[d, s], argTypes := #[dT, sT] }) (elem : TypeId) (hu : P.underlying dT = some (.slice elem)) (hsz : (P.info? elem).map (·.size) = some 1)
    (g off dLen dCap b o sLen sCap : Nat) (hd : a.eval d = .slice (some ⟨g, off, none⟩) dLen dCap) (hs : a.eval s = .slice (some ⟨b, o, none⟩) sLen sCap)
    (N : Nat) (f : Nat → Value) (t : TypeId) (hg : Has w g t (tab N f)) (k : Nat) (hk : k = Nat.min sLen dLen) (v : Nat → Value)
    (hsrc : ∀ j, j < k → w.cell? ⟨b, o + j, none⟩ = some (v j)) (hfit : off + k ≤ N) (h1 : ∀ j, (v j).oneCell' = true)
    (h : ∀ w', Has w' g t (tab N fun j => if off ≤ j ∧ j < off + k then v (j - off) else f j) → w.grownBy w' (some g) → wpList P ops Q rest (a.put op.dst (.int .i64 (k : Int))) w') : wpList P ops Q (op :: rest) a w := by
  have hl : ((List.range k).map v).length = k := by simp
  refine wpList_copy_own hgd d s dT sT ho elem hu hsz g off dLen dCap ⟨b, o, none⟩ sLen sCap hd hs (tab N f) t hg ((List.range k).map v) (by rw [hl, hk]) (fun j u hj => ?_) (by rw [hl, tab_size]; exact hfit) (fun u hu => ?_) ?_
  · have hjk : j < k := by have := (List.getElem?_eq_some_iff.1 hj).1; simpa using this
    have e : (⟨b, o, none⟩ : Addr).add j = ⟨b, o + j, none⟩ := Addr.add_mid b o j
    rw [e, hsrc j hjk, ← hj]
    simp [hjk]
  · obtain ⟨j, _, rfl⟩ := List.mem_map.1 hu
    exact h1 j
  · have e := tab_splice N f v off k hfit
    have hh := hg.setRow (((tab N f).toList.take off ++ ((List.range k).map v ++ (tab N f).toList.drop (off + k))).toArray)
    rw [hl]
    rw [e] at hh ⊢
    exact h _ hh ⟨rfl, rfl, rfl, by simp, fun i _ hne => setRow_other w g i _ (fun e => hne (by rw [e]))⟩

end Go.Proofs.YtgpofoggfifnjaaGreatDoor
namespace Go.Proofs.YtgpofoggfifnjaaGreatDoor
open Go Go.RowKit

section
variable {P : Program} {w : World} {ops : Array Oper} {rest : List Oper} {o : Oper} {a : Act} {Q : Exit → Act → World → Prop}
theorem wpList_wanted (hw : Region.wanted o (yielded ops a.tmps) = true)
    (h : ∀ K : Act → World → Prop, (∀ a w, wpList P ops Q rest a w → K a w) → o.wp P a w K Q) : wpList P ops Q (o :: rest) a w :=
  wpList_step fun K hK => by rw [if_pos hw]; exact h K hK
/-- a load of a whole array from a block that is known whole -/
theorem wpList_load_has (ty : TypeId) (x : Operand) (ho : o.op = .load ty x) (g : Nat) (hx : a.eval x = .pointer (some ⟨g, 0, none⟩)) (hw : Region.wanted o (yielded ops a.tmps) = true)
    (t : TypeId) (cs : Array Value) (hg : Has w g t cs) (d : TypeDesc) (hu : P.underlying ty = some d) (hd : (match d with | .struct _ | .array _ _ => true | _ => false) = true) (hi : (P.info? ty).map (·.size) = some cs.size)
    (h : wpList P ops Q rest (a.put o.dst (.agg cs)) w) : wpList P ops Q (o :: rest) a w :=
  wpList_wanted hw fun _ hK => wp_load_row ty x ho g hx t cs (0, 0) d hg hu hd hi (hK _ _ h)
/-- .. in a region whose operations keep the class C -/
theorem q_has {C : World → Prop} {K : Act → Prop} (ty : TypeId) (x : Operand) (ho : o.op = .load ty x) (g : Nat) (hx : a.eval x = .pointer (some ⟨g, 0, none⟩))
    (t : TypeId) (cs : Array Value) (hg : ∀ w', C w' → Has w' g t cs) (d : TypeDesc) (hu : P.underlying ty = some d) (hd : (match d with | .struct _ | .array _ _ => true | _ => false) = true) (hi : (P.info? ty).map (·.size) = some cs.size)
    (h : K (a.put o.dst (.agg cs))) : o.quiet P a C K := by
  refine ⟨.agg cs, fun w' hC => ?_, h⟩
  unfold Oper.quietAt execOp
  simp only [ho, hx, Instr.loadAt, Instr.sureAddr, Sem.run_bind, Sem.run_pure, Result.andThen_ok, run_loadVar_row w' g t ty cs (0, 0) d (hg w' hC) hu hd hi]
  exact ⟨rfl, rfl⟩
theorem wpQ_has {C : World → Prop} {L : Act → Prop} (ty : TypeId) (x : Operand) (ho : o.op = .load ty x) (g : Nat) (hx : a.eval x = .pointer (some ⟨g, 0, none⟩)) (hw : Region.wanted o (yielded ops a.tmps) = true)
    (t : TypeId) (cs : Array Value) (hg : ∀ w', C w' → Has w' g t cs) (d : TypeDesc) (hu : P.underlying ty = some d) (hd : (match d with | .struct _ | .array _ _ => true | _ => false) = true) (hi : (P.info? ty).map (·.size) = some cs.size)
    (h : wpQuiet P ops C L rest (a.put o.dst (.agg cs))) : wpQuiet P ops C L (o :: rest) a :=
  wpQuiet_step fun K hK => by rw [if_pos hw]; exact q_has ty x ho g hx t cs hg d hu hd hi (hK _ h)
/-- a call in a region whose operations keep the class C -/
theorem wpQ_call {C : World → Prop} {L : Act → Prop} (fn : FuncId) (args : Array Value) (hw : Region.wanted o (yielded ops a.tmps) = true)
    (hrun : ∀ w, (execOp a.eval o).run P w = .ok (.enter fn args) w) (v : Value) (hc : ∀ w', C w' → Calls P fn args w' fun e w'' => e = .returned v ∧ C w'')
    (h : wpQuiet P ops C L rest (a.put o.dst v)) : wpQuiet P ops C L (o :: rest) a :=
  wpQuiet_step fun K hK => by
    rw [if_pos hw]
    refine ⟨v, fun w' hC => ?_, hK _ h⟩
    unfold Oper.quietAt
    rw [hrun w']
    exact ⟨rfl, hc w' hC⟩
/-- an operation that gives one value in every world -/
theorem wpQ_val {C : World → Prop} {L : Act → Prop} (hw : Region.wanted o (yielded ops a.tmps) = true) (v : Value)
    (hrun : ∀ w, C w → (execOp a.eval o).run P w = .ok (.value v) w) (h : wpQuiet P ops C L rest (a.put o.dst v)) : wpQuiet P ops C L (o :: rest) a :=
  wpQuiet_step fun K hK => by
    rw [if_pos hw]
    refine ⟨v, fun w' hC => ?_, hK _ h⟩
    unfold Oper.quietAt
    rw [hrun w' hC]
    exact ⟨rfl, rfl⟩
/- .. by the kind of the operation: what its operands hold is told beside it, so that no walk sees the whole frame -/
theorem wpQ_move {C : World → Prop} {L : Act → Prop} (x : Operand) (ho : o.op = .move x) (hw : Region.wanted o (yielded ops a.tmps) = true) (X : Value) (hx : a.eval x = X)
    (h : wpQuiet P ops C L rest (a.put o.dst X)) : wpQuiet P ops C L (o :: rest) a :=
  wpQ_val hw X (fun w _ => by simp [execOp, ho, hx]) h
theorem wpQ_assign {C : World → Prop} {L : Act → Prop} (x : Operand) (ho : o.op = .assign x) (hw : Region.wanted o (yielded ops a.tmps) = true) (X : Value) (hx : a.eval x = X)
    (h : wpQuiet P ops C L rest (a.put o.dst X)) : wpQuiet P ops C L (o :: rest) a :=
  wpQ_val hw X (fun w _ => by simp [execOp, ho, hx]) h
theorem wpQ_bin {C : World → Prop} {L : Act → Prop} (op : BinOp) (t : TypeId) (x y : Operand) (t2 : TypeId) (ho : o.op = .binOp op t x y t2) (hw : Region.wanted o (yielded ops a.tmps) = true) (X Y : Value) (hx : a.eval x = X) (hy : a.eval y = Y) (v : Value)
    (hrun : ∀ w, C w → (do eqGuard op t x y X Y; binOp op t X Y : Sem Value).run P w = .ok v w) (h : wpQuiet P ops C L rest (a.put o.dst v)) : wpQuiet P ops C L (o :: rest) a :=
  wpQ_val hw v (fun w hC => by
    have := hrun w hC
    simp only [execOp, ho, hx, hy]
    rw [Sem.run_bind, this]
    rfl) h
theorem wpQ_build {C : World → Prop} {L : Act → Prop} (t : TypeId) (ho : o.op = .build t #[]) (hw : Region.wanted o (yielded ops a.tmps) = true) (v : Value)
    (hrun : ∀ w, C w → (Instr.build t #[]).run P w = .ok v w) (h : wpQuiet P ops C L rest (a.put o.dst v)) : wpQuiet P ops C L (o :: rest) a :=
  wpQ_val hw v (fun w hC => by
    have := hrun w hC
    simp only [execOp, ho]
    rw [Sem.run_bind]
    simp only [Array.map_empty]
    rw [this]
    rfl) h
end
/-- the class 'blocks that were there are as they were' after a call -/
theorem below_class {a w' w'' : World} (h : Below a.heap.size a w') (k : Below w'.heap.size w' w'') : Below a.heap.size a w'' := h.trans (k.mono h.size)
end Go.Proofs.YtgpofoggfifnjaaGreatDoor
namespace Go.Proofs.YtgpofoggfifnjaaGreatDoor
open Go Go.RowKit

section
variable {P : Program} {w : World} {ops : Array Oper} {rest : List Oper} {o : Oper} {a : Act} {C : World → Prop} {L : Act → Prop}
theorem wpQ_load (t : TypeId) (x : Operand) (ho : o.op = .load t x) (hw : Region.wanted o (yielded ops a.tmps) = true) (X : Value) (hx : a.eval x = X) (v : Value)
    (hrun : ∀ w, C w → (Instr.loadAt t X).run P w = .ok v w) (h : wpQuiet P ops C L rest (a.put o.dst v)) : wpQuiet P ops C L (o :: rest) a :=
  wpQ_val hw v (fun w hC => by
    have := hrun w hC
    simp only [execOp, ho, hx]
    rw [Sem.run_bind, this]
    rfl) h
/-- a call, its function and its arguments told beside it -/
theorem wpQ_fn (fn : FuncId) (cs : Array Operand) (ts : Array TypeId) (ho : o.op = .call { callee := .value (.func fn), args := cs, argTypes := ts }) (hw : Region.wanted o (yielded ops a.tmps) = true) (args : Array Value) (hargs0 : cs.toList.map a.eval = args.toList) (hfn : ∀ w, (callFunc fn args).run P w = .ok (.enter fn args) w) (v : Value)
    (hc : ∀ w', C w' → Calls P fn args w' fun e w'' => e = .returned v ∧ C w'') (h : wpQuiet P ops C L rest (a.put o.dst v)) : wpQuiet P ops C L (o :: rest) a :=
  have hargs : cs.map a.eval = args := by
    apply Array.toList_inj.1
    rw [Array.toList_map]
    exact hargs0
  wpQ_call fn args hw (fun w => by
    unfold execOp
    simp only [ho]
    subst hargs
    go_simp) v hc h
end
end Go.Proofs.YtgpofoggfifnjaaGreatDoor
namespace Go.Proofs.YtgpofoggfifnjaaGreatDoor
open Go

end Go.Proofs.YtgpofoggfifnjaaGreatDoor
namespace Go.Proofs.YtgpofoggfifnjaaGreatDoor
open Go

end Go.Proofs.YtgpofoggfifnjaaGreatDoor
namespace Go.Proofs.YtgpofoggfifnjaaGreatDoor
open Go Go.RowKit

section
variable {P : Program} {md : Region.Mode} {ops : Array Oper}

/-- the values v of the operations, put in their slots -/
def putAll : List Oper → (Nat → Value) → Nat → Act → Act
  | [], _, _, a => a
  | o :: r, v, k, a => putAll r v (k + 1) (a.put o.dst (v k))
def setAt (v : Nat → Value) (i : Nat) (x : Value) (j : Nat) : Value := if j = i then x else v j

theorem putAll_put (l : List Oper) : ∀ (v : Nat → Value) (k : Nat) (a : Act) (dst : Option Tmp) (x : Value), (∀ o ∈ l, ∀ d, dst = some d → o.dst ≠ some d) → (putAll l v k a).put dst x = putAll l v k (a.put dst x) := by
  induction l with
  | nil => intro v k a dst x _; rfl
  | cons o r ih =>
    intro v k a dst x h
    show (putAll r v (k + 1) (a.put o.dst (v k))).put dst x = putAll r v (k + 1) ((a.put dst x).put o.dst (v k))
    rw [ih _ _ _ _ _ fun o' ho' => h o' (List.mem_cons_of_mem _ ho')]
    rw [Act.put_comm a x (v k) (h o (List.mem_cons_self ..))]
theorem put_put (a : Act) (dst : Option Tmp) (x y : Value) : (a.put dst x).put dst y = a.put dst y := by
  cases dst with
  | none => rfl
  | some d => simp [Act.put]
theorem putAll_agree (l : List Oper) : ∀ (v u : Nat → Value) (k : Nat) (a : Act), (∀ j, k ≤ j → j < k + l.length → v j = u j) → putAll l v k a = putAll l u k a := by
  induction l with
  | nil => intro v u k a _; rfl
  | cons o r ih =>
    intro v u k a h
    show putAll r v (k + 1) (a.put o.dst (v k)) = putAll r u (k + 1) (a.put o.dst (u k))
    rw [h k (Nat.le_refl _) (by simp), ih v u _ _ fun j h1 h2 => h j (by omega) (by simp; omega)]
/-- the slots are different ones -/
def distinctB : List Oper → Bool
  | [] => true
  | o :: r => (match o.dst with | some d => r.all fun x => x.dst != some d | none => true) && distinctB r
theorem putAll_set (l : List Oper) : ∀ (v : Nat → Value) (k : Nat) (a : Act) (i : Nat) (o : Oper) (x : Value), distinctB l = true → l[i]? = some o → (putAll l v k a).put o.dst x = putAll l (setAt v (k + i) x) k a := by
  induction l with
  | nil => intro v k a i o x _ h; simp at h
  | cons o' r ih =>
    intro v k a i o x hd h
    simp only [distinctB, Bool.and_eq_true] at hd
    cases i with
    | zero =>
      obtain rfl : o' = o := by simpa using h
      have hne : ∀ o ∈ r, ∀ d, o'.dst = some d → o.dst ≠ some d := fun o ho d hdd => by
        have h1 := hd.1
        rw [hdd] at h1
        simp only [List.all_eq_true, bne_iff_ne] at h1
        exact h1 o ho
      show (putAll r v (k + 1) (a.put o'.dst (v k))).put o'.dst x = putAll r (setAt v (k + 0) x) (k + 1) (a.put o'.dst (setAt v (k + 0) x k))
      rw [putAll_put r v (k + 1) _ _ x hne, put_put]
      have e : setAt v (k + 0) x k = x := by simp [setAt]
      rw [e]
      exact putAll_agree r _ _ _ _ fun j h1 _ => by simp only [setAt]; rw [if_neg (by omega)]
    | succ i =>
      have h' : r[i]? = some o := by simpa using h
      show (putAll r v (k + 1) (a.put o'.dst (v k))).put o.dst x = putAll r (setAt v (k + (i + 1)) x) (k + 1) (a.put o'.dst (setAt v (k + (i + 1)) x k))
      rw [ih v (k + 1) _ i o x hd.2 h']
      have e : setAt v (k + (i + 1)) x k = v k := by simp only [setAt]; rw [if_neg (by omega)]
      have e2 : k + (i + 1) = k + 1 + i := by omega
      rw [e, e2]
/-- what lies in the slots -/
def slotsOf (l : List Oper) (a : Act) (j : Nat) : Value := match l[j]? with
  | some o => match o.dst with
    | some d => a.tmps.getD d undef
    | none => undef
  | none => undef
theorem put_same (a : Act) (d : Tmp) : a.put (some d) (a.tmps.getD d undef) = a := by
  have e : a.tmps.setIfInBounds d (a.tmps.getD d undef) = a.tmps := by
    apply Array.ext
    · simp
    · intro i h1 h2
      rw [Array.getElem_setIfInBounds (by simpa using h2)]
      by_cases h : d = i
      · subst h; simp [h2]
      · rw [if_neg h]
  show { a with tmps := a.tmps.setIfInBounds d (a.tmps.getD d undef) } = a
  rw [e]
theorem putAll_slots (l : List Oper) (a : Act) : ∀ (v : Nat → Value) (k : Nat), (∀ j o d, l[j]? = some o → o.dst = some d → v (k + j) = a.tmps.getD d undef) → putAll l v k a = a := by
  induction l with
  | nil => intro v k _; rfl
  | cons o r ih =>
    intro v k h
    show putAll r v (k + 1) (a.put o.dst (v k)) = a
    have e : a.put o.dst (v k) = a := by
      cases hd : o.dst with
      | none => rfl
      | some d =>
        have := h 0 o d rfl hd
        rw [Nat.add_zero] at this
        rw [this, put_same]
    rw [e]
    exact ih v (k + 1) fun j o' d ho hd => by rw [show k + 1 + j = k + (j + 1) by omega]; exact h (j + 1) o' d (by simpa using ho) hd

theorem getD_of_true {listed : Array Bool} {i : Nat} (h : listed.getD i true = true) (hi : i < listed.size) : listed.getD i false = true := by
  simp [hi] at h ⊢; exact h
/-- how many of the first n are not yet done -/
def left (listed : Array Bool) (n : Nat) : Nat := (List.range n).countP fun i => !listed.getD i true
theorem countP_one {p q : Nat → Bool} {i : Nat} (hp : p i = true) (hq : q i = false) (hne : ∀ j, j ≠ i → q j = p j) : ∀ (L : List Nat), L.Nodup → i ∈ L → L.countP q + 1 = L.countP p
  | [], _, h => by simp at h
  | x :: L, hnd, h => by
    rw [List.nodup_cons] at hnd
    by_cases hx : x = i
    · subst hx
      have e : L.countP q = L.countP p := List.countP_congr fun j hj => by
        have : j ≠ x := fun e => hnd.1 (e ▸ hj)
        rw [hne j this]
      rw [List.countP_cons, List.countP_cons, hp, hq, e]
      simp
    · have hm : i ∈ L := by
        rcases List.mem_cons.1 h with h | h
        · exact absurd h.symm hx
        · exact h
      have := countP_one hp hq hne L hnd.2 hm
      rw [List.countP_cons, List.countP_cons, hne x hx]
      omega
theorem left_set {listed : Array Bool} {n i : Nat} (hi : i < n) (hun : listed.getD i true = false) : left (listed.setIfInBounds i true) n + 1 = left listed n := by
  unfold left
  refine countP_one (i := i) (by rw [hun]; rfl) ?_ (fun j hj => by rw [getD_set_ne true (Ne.symm hj)]) _ List.nodup_range (by simpa using hi)
  have hlt : i < listed.size := by
    rcases Nat.lt_or_ge i listed.size with h | h
    · exact h
    · simp [Array.getElem?_eq_none h] at hun
  simp [hlt]
theorem left_zero {listed : Array Bool} {n : Nat} (h : left listed n = 0) : ∀ i, i < n → listed.getD i true = true := fun i hi => by
  unfold left at h
  rw [List.countP_eq_zero] at h
  have := h i (by simpa using hi)
  simpa using this
end

section
variable {P : Program} {Q : Exit → Act → World → Prop}
/-- a call, by its contract -/
theorem wp_call_fn {o : Oper} {a : Act} {w : World} {K : Act → World → Prop} (fn : FuncId) (args : Array Value) (hrun : (execOp a.eval o).run P w = .ok (.enter fn args) w)
    (hc : Calls P fn args w fun e w'' => ∃ x, e = .returned x ∧ K (a.put o.dst x) w'') : o.wp P a w K Q := by
  unfold Oper.wp
  rw [hrun]
  simp only [Oper.upon]
  refine hc.mono ?_
  rintro e w'' ⟨x, rfl, h⟩
  exact h
end
end Go.Proofs.YtgpofoggfifnjaaGreatDoor
namespace Go.Proofs.YtgpofoggfifnjaaGreatDoor
open Go Go.RowKit

/-- are the first n places alike? -/
def sameTo (f g : Nat → Int) (n : Nat) : Bool := (List.range' 0 n).all fun j => f j == g j
theorem sameTo_iff (f g : Nat → Int) (n : Nat) : sameTo f g n = true ↔ ∀ j, j < n → f j = g j := by
  simp [sameTo, List.all_eq_true, List.mem_range'_1]

theorem run_equalIn_tab {P : Program} (w : World) (d : Nat) (t e : TypeId) (n : Nat) (ik k : IntKind) (i : TypeInfo) (f g : Nat → Int) (hu : P.underlying t = some (.array n e)) (he : P.underlying e = some (.int ik))
    (hi : P.info? e = some i) (hs : i.size = 1) (heq : ∀ (a b : Int) (W : World), (Op.equalIn d e (.int k a) (.int k b)).run P W = .ok (a == b) W) :
    (Op.equalIn (d + 1) t (.agg (tab n fun j => .int k (f j))) (.agg (tab n fun j => .int k (g j)))).run P w = .ok (sameTo f g n) w := by
  have hsz : ∀ W, (sizeOf e).run P W = .ok 1 W := fun W => by simp [sizeOf, typeInfo, hi, hs]
  have hpart : ∀ (h : Nat → Int) (j : Nat) (W : World), j < n → (part e (tab n fun j => .int k (h j)) j).run P W = .ok (.int k (h j)) W := fun h j W hj => by
    simp [part, isAgg, run_underlying he, tab_get n _ j hj, go_sem]
  simp only [Op.equalIn, Sem.run_bind, run_underlying hu, Result.andThen_ok, hsz]
  rw [Std.Legacy.Range.forIn_eq_forIn_range']
  simp only [Std.Legacy.Range.size, Nat.sub_zero, Nat.add_sub_cancel, Nat.div_one, Nat.mul_one]
  unfold sameTo
  have hL : ∀ j ∈ List.range' 0 n, j < n := fun j hj => by simpa [List.mem_range'_1] using hj
  generalize List.range' 0 n = L at *
  induction L generalizing w with
  | nil => simp
  | cons s0 L ih =>
    have h0 : s0 < n := hL s0 (by simp)
    simp only [List.forIn_cons, Sem.run_bind, hpart f s0 _ h0, hpart g s0 _ h0, Result.andThen_ok, heq, List.all_cons]
    by_cases h : f s0 = g s0
    · have hb : (f s0 == g s0) = true := by simpa using h
      simp only [hb, Bool.not_true, Bool.false_eq_true, if_false, Sem.run_pure, Result.andThen_ok, Bool.true_and]
      exact ih w (fun j hj => hL j (by simp [hj]))
    · have hb : (f s0 == g s0) = false := by simpa using h
      simp only [hb, Bool.not_false, if_true, Sem.run_pure, Result.andThen_ok, Bool.false_and]

/-- 'x == y' of two arrays of integers that are alike -/
theorem run_eql_tab {P : Program} (w : World) (t e : TypeId) (n : Nat) (ik k : IntKind) (i : TypeInfo) (f g : Nat → Int) (hu : P.underlying t = some (.array n e)) (he : P.underlying e = some (.int ik))
    (hi : P.info? e = some i) (hs : i.size = 1) : (binOp .eql t (.agg (tab n fun j => .int k (f j))) (.agg (tab n fun j => .int k (g j)))).run P w = .ok (.bool (sameTo f g n)) w := by
  rw [run_eql_struct]
  have h := run_equalIn_tab (P := P) w 9999 t e n ik k i f g hu he hi hs (fun a b W => run_equalIn_int (P := P) (w := W) 9998 e k ik a b he)
  rw [h]
  rfl
theorem sameTo_refl (f : Nat → Int) (n : Nat) : sameTo f f n = true := (sameTo_iff f f n).2 fun _ _ => rfl
end Go.Proofs.YtgpofoggfifnjaaGreatDoor
