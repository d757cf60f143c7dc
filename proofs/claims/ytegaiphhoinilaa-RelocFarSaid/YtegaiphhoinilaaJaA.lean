/-
Memory: a block that is known whole, and arrays given by a function of the place.
A region that draws its order, whose operations up to a tail only read or call quietly (in a class of worlds), and whose tail comes in one order: one walk in the order of the text.
Memory, continued: only one block changes; whole arrays loaded, stored, copied in the middle of a block; the steps of a region that only reads, in a class of worlds.
Slices of bytes: what they read as; rows of the call's own; appends; what came in.
The reference of layer 6: Within and Apart.
Laws for whole arrays: a load under a guard, in a list of operations and in a region that only reads.
Layer 7: manifests as plain data; how they lie in memory.
More operations of a region whose operations keep a class of worlds: an address in an array, a cell, a part of a block, a slice.
Digits of a natural number to any base, sums and differences by digits, with what is carried and borrowed.
More on digits: a number built up digit by digit in words of a greater base, twice a number, a digit set anew, half a number.
The steps of a quiet region behind a structure, which nothing unfolds: a skipped operation costs nothing then.
-/
import Derived.Test.YtegaiphhoinilaaRows
import Derived.WalkKit
import Derived.Laws.Rows
import Derived.Deep.Draws
import Derived.KernelRfl
import Derived.StillTail
import Derived.Deep.Quiet
import Derived.Deep.QuietTactic
import Derived.Below
import Derived.Deep.MidRow
import Derived.Laws.CopyOwn
import Derived.OwnWalk
import Derived.Laws.OwnMore
import Derived.Laws.AppendOwnNone
import Derived.ProofKit
import Derived.OpenShut
import Derived.Deep.DeepHandedRow
import Derived.Lib.SlBytesConst
import Derived.IntWalk
import Derived.WalkSpells
import Derived.WalkLawsBesides
import Derived.Outline
import Derived.Lib.Hide
import Derived.Deep.WholeRow
import Derived.BigQuiet
namespace Go.Proofs.Ytegaiphhoinilaa
open Go Go.RowKit

/-- n values, the j-th is f j -/
def tab (n : Nat) (f : Nat → Value) : Array Value := ((List.range n).map f).toArray
theorem tab_size (n : Nat) (f : Nat → Value) : (tab n f).size = n := by simp [tab]
theorem tab_get (n : Nat) (f : Nat → Value) (i : Nat) (h : i < n) : (tab n f)[i]? = some (f i) := by simp [tab, h]
theorem tab_ext (n : Nat) (f g : Nat → Value) (h : ∀ j, j < n → f j = g j) : tab n f = tab n g := by
  unfold tab; congr 1; apply List.map_congr_left; intro j hj; exact h j (by simpa using hj)
theorem tab_set (n : Nat) (f : Nat → Value) (i : Nat) (v : Value) : (tab n f).setIfInBounds i v = tab n (fun j => if j = i then v else f j) := by
  apply Array.ext
  · simp [tab]
  · intro j h1 h2
    simp only [tab, List.setIfInBounds_toArray, List.getElem_toArray, List.getElem_set, List.getElem_map, List.getElem_range]
    simp only [eq_comm]

/-- a word as the model's value -/
def zeroW : Nat → Value := fun _ => .int .u32 0
theorem zeros64 : (#[Value.int IntKind.u32 0, Value.int IntKind.u32 0, Value.int IntKind.u32 0, Value.int IntKind.u32 0, Value.int IntKind.u32 0, Value.int IntKind.u32 0, Value.int IntKind.u32 0, Value.int IntKind.u32 0, Value.int IntKind.u32 0, Value.int IntKind.u32 0, Value.int IntKind.u32 0, Value.int IntKind.u32 0, Value.int IntKind.u32 0, Value.int IntKind.u32 0, Value.int IntKind.u32 0, Value.int IntKind.u32 0, Value.int IntKind.u32 0, Value.int IntKind.u32 0, Value.int IntKind.u32 0, Value.int IntKind.u32 0, Value.int IntKind.u32 0, Value.int IntKind.u32 0, Value.int IntKind.u32 0, Value.int IntKind.u32 0, Value.int IntKind.u32 0, Value.int IntKind.u32 0, Value.int IntKind.u32 0, Value.int IntKind.u32 0, Value.int IntKind.u32 0, Value.int IntKind.u32 0, Value.int IntKind.u32 0, Value.int IntKind.u32 0, Value.int IntKind.u32 0, Value.int IntKind.u32 0, Value.int IntKind.u32 0, Value.int IntKind.u32 0, Value.int IntKind.u32 0, Value.int IntKind.u32 0, Value.int IntKind.u32 0, Value.int IntKind.u32 0, Value.int IntKind.u32 0, Value.int IntKind.u32 0, Value.int IntKind.u32 0, Value.int IntKind.u32 0, Value.int IntKind.u32 0, Value.int IntKind.u32 0, Value.int IntKind.u32 0, Value.int IntKind.u32 0, Value.int IntKind.u32 0, Value.int IntKind.u32 0, Value.int IntKind.u32 0, Value.int IntKind.u32 0, Value.int IntKind.u32 0, Value.int IntKind.u32 0, Value.int IntKind.u32 0, Value.int IntKind.u32 0, Value.int IntKind.u32 0, Value.int IntKind.u32 0, Value.int IntKind.u32 0, Value.int IntKind.u32 0, Value.int IntKind.u32 0, Value.int IntKind.u32 0, Value.int IntKind.u32 0, Value.int IntKind.u32 0] : Array Value) = tab 64 zeroW := by kernel_rfl
theorem zeros8 : (#[Value.int IntKind.u32 0, Value.int IntKind.u32 0, Value.int IntKind.u32 0, Value.int IntKind.u32 0, Value.int IntKind.u32 0, Value.int IntKind.u32 0, Value.int IntKind.u32 0, Value.int IntKind.u32 0] : Array Value) = tab 8 zeroW := by kernel_rfl

/-- block g of w holds just the cells cs of type t, none frozen -/
def Has (w : World) (g : Nat) (t : TypeId) (cs : Array Value) : Prop := w.heap[g]? = some (.cells cs t (0, 0))

section
variable {w w' : World} {g : Nat} {t : TypeId} {cs : Array Value}
theorem Has.lt (h : Has w g t cs) : g < w.heap.size := by
  by_cases c : g < w.heap.size
  · exact c
  · have : w.heap[g]? = none := by simp; omega
    unfold Has at h; rw [this] at h; cases h
theorem Has.cell (h : Has w g t cs) (i : Nat) : w.cell? ⟨g, i, none⟩ = cs[i]? := cell_of_row w g i cs t (0, 0) h
theorem Has.cellTab {n : Nat} {f : Nat → Value} (h : Has w g t (tab n f)) (i : Nat) (hi : i < n) : w.cell? ⟨g, i, none⟩ = some (f i) := by
  rw [h.cell, tab_get n f i hi]
theorem Has.free (h : Has w g t cs) (i : Nat) : w.frozen? ⟨g, i, none⟩ = false := frozen_of_row w g i cs t h
theorem Has.new (w : World) (t : TypeId) (cs : Array Value) : Has (w.alloc (.cells cs t)) w.heap.size t cs := heap_alloc_new w _
theorem Has.new' (h : g = w.heap.size) : Has (w.alloc (.cells cs t)) g t cs := by subst h; exact Has.new w t cs
theorem Has.alloc (h : Has w g t cs) (o : Obj) : Has (w.alloc o) g t cs := (Below.heap_alloc w o g h.lt).trans h
theorem Has.drew (h : Has w g t cs) : Has w.drew g t cs := h
theorem Has.drewN (h : Has w g t cs) (n : Nat) : Has (w.drewN n) g t cs := h
theorem Has.set (h : Has w g t cs) (i : Nat) (v : Value) : Has (w.setCell ⟨g, i, none⟩ v) g t (cs.setIfInBounds i v) := heap_setCell_same w g i cs t v h
theorem Has.far (h : Has w g t cs) {a : Addr} (ha : g ≠ a.block) (v : Value) : Has (w.setCell a v) g t cs := (heap_setCell_other w a g v ha).trans h
theorem Has.below {B : Nat} (h : Has w g t cs) (hb : Below B w w') (hg : g < B) : Has w' g t cs := (hb.block g hg).trans h
theorem Has.setRow (h : Has w g t cs) (cs' : Array Value) : Has (w.setRow g cs') g t cs' := setRow_heap w g cs cs' t (0, 0) h
theorem Has.farRow (h : Has w g t cs) {k : Nat} (hk : g ≠ k) (cs' : Array Value) : Has (w.setRow k cs') g t cs := (setRow_other w k g cs' hk).trans h
end
theorem below_drewN {B : Nat} {a w : World} (h : Below B a w) (n : Nat) : Below B a (w.drewN n) := ⟨h.os, h.tape, h.output, h.size, h.block⟩
theorem below_setRow {B : Nat} {a w : World} (h : Below B a w) {g : Nat} (hg : B ≤ g) (cs : Array Value) : Below B a (w.setRow g cs) :=
  ⟨h.os, h.tape, h.output, by simpa using h.size, fun i hi => (setRow_other w g i cs (by omega)).trans (h.block i hi)⟩
/-- 'x[k]' of an array by value -/
theorem run_index_tab {P : Program} (t e : TypeId) (n : Nat) (ik : IntKind) (i : TypeInfo) (f : Nat → Value) (hu : P.underlying t = some (.array n e)) (he : P.underlying e = some (.int ik))
    (hi : P.info? e = some i) (hs : i.size = 1) (kd : IntKind) (k : Nat) (hk : k < n) (w : World) :
    (Instr.index t (.agg (tab n f)) (.int kd (k : Int))).run P w = .ok (f k) w := by
  have h0 : (0 : Int) ≤ (k : Int) ∧ (k : Int) < (n : Int) := by omega
  simp [Instr.index, run_underlying hu, run_underlying he, asIntOf, h0, part, isAgg, sizeOf, typeInfo, hi, hs, tab_get n f k hk, go_sem, hk]
/-- a part of a block is overwritten -/
theorem tab_splice (n : Nat) (f v : Nat → Value) (o m : Nat) (h : o + m ≤ n) :
    ((tab n f).toList.take o ++ ((List.range m).map v ++ (tab n f).toList.drop (o + m))).toArray = tab n (fun j => if o ≤ j ∧ j < o + m then v (j - o) else f j) := by
  unfold tab
  congr 1
  apply List.ext_getElem
  · simp; omega
  · intro j h1 h2
    have hj : j < n := by simpa using h2
    simp only [List.getElem_append, List.getElem_take, List.getElem_map, List.getElem_range, List.getElem_drop, List.length_take, List.length_map, List.length_range, Nat.min_eq_left (show o ≤ n by omega)]
    by_cases h3 : j < o
    · rw [dif_pos h3, if_neg (by omega)]
    · rw [dif_neg h3]
      by_cases h4 : j < o + m
      · rw [dif_pos (by omega), if_pos (by omega)]
      · rw [dif_neg (by omega), if_neg (by omega)]
        congr 1
        omega
theorem tab_toList (n : Nat) (f : Nat → Value) : (tab n f).toList = (List.range n).map f := by simp [tab]
theorem tab_oneCell (n : Nat) (f : Nat → Value) (h : ∀ j, (f j).oneCell' = true) : (tab n f).all (·.oneCell') = true := by
  simp [tab, h]

end Go.Proofs.Ytegaiphhoinilaa
namespace Go.Proofs.Ytegaiphhoinilaa
open Go

section
variable {P : Program} {md : Region.Mode} {ops : Array Oper} {C : World → Prop}

def headQ (P : Program) (md : Region.Mode) (ops : Array Oper) (C : World → Prop) (n : Nat) (L : Array Bool → Act → Prop) : Nat → Array Bool → Act → Prop
  | 0, listed, a => L listed a
  | f + 1, listed, a =>
    Region.ready md ops listed ≠ [] ∧ ∀ i ∈ Region.ready md ops listed, i < n ∧ qOp P ops C i (headQ P md ops C n L f (listed.setIfInBounds i true)) a

theorem any_of_headQ {n g : Nat} {L : Array Bool → Act → Prop} {Q' : Exit → Act → World → Prop} (hL : ∀ listed a w, C w → L listed a → wpAny P md ops Q' g listed a w) :
    ∀ (f : Nat) (listed : Array Bool) (a : Act) (w : World), C w → headQ P md ops C n L f listed a → wpAny P md ops Q' (f + g) listed a w := by
  intro f
  induction f with
  | zero => intro listed a w hC h; rw [Nat.zero_add]; exact hL _ _ _ hC h
  | succ f ih =>
    intro listed a w hC h
    rw [show f + 1 + g = (f + g) + 1 by omega]
    exact ⟨fun h0 => absurd h0 h.1, fun i hi => wpOp_of_qOp hC (fun a' w' hC' h' => ih _ a' w' hC' h') (h.2 i hi).2⟩

theorem headQ_first {n i : Nat} {oi : Oper} {v : Value} {L : Array Bool → Act → Prop} (hi : ops[i]? = some oi) (hsel : ∀ (j : Nat) (o : Oper) cs b, ops[j]? = some o → o.op ≠ .select cs b)
    (hs : Region.sinkB md ops n = true) (hc : Region.chainB md ops n = true) (hn : n < ops.size) (hin : i < n)
    (hdone : ∀ listed a, L listed a → ∀ j ∈ Region.ready md ops listed, n ≤ j) :
    ∀ (f : Nat) (listed : Array Bool) (a : Act), HeadInv md ops n listed →
      (∀ j oj, ops[j]? = some oj → j ≠ i → listed.getD j true = false → (∀ e ∈ oj.after, Region.binds md e = true → e.on ≠ i) → oi.apart ops oj = true) →
      i ∈ Region.ready md ops listed → YieldsIn P ops C oi v a →
      headQ P md ops C n L f (listed.setIfInBounds i true) (a.put oi.dst v) → headQ P md ops C n L (f + 1) listed a := by
  intro f
  induction f with
  | zero =>
    intro listed a inv _ hr hy H
    have hun := (mem_ready.1 hr).1
    refine ⟨fun h => (by rw [h] at hr; cases hr), fun j hj => ?_⟩
    have hjn : j < n := by
      by_cases h : j < n
      · exact h
      · exact absurd hj (tail_waits hs hc hn inv _ i rfl hin hun j (by omega))
    refine ⟨hjn, ?_⟩
    by_cases hji : j = i
    · subst hji; exact hy.qOp hi H
    · have := hdone _ _ H j (ready_mono hj hji)
      omega
  | succ f ih =>
    intro listed a inv hfree hr hy H
    have hun := (mem_ready.1 hr).1
    refine ⟨fun h => (by rw [h] at hr; cases hr), fun j hj => ?_⟩
    have hjn : j < n := by
      by_cases h : j < n
      · exact h
      · exact absurd hj (tail_waits hs hc hn inv _ i rfl hin hun j (by omega))
    refine ⟨hjn, ?_⟩
    by_cases hji : j = i
    · subst hji; exact hy.qOp hi H
    · have h1 := (H.2 j (ready_mono hj hji)).2
      obtain ⟨hjun, oj, hoj, hall⟩ := mem_ready.1 hj
      have hnot : ∀ e ∈ oj.after, Region.binds md e = true → e.on ≠ i := fun e he hb heq => by
        have h1 := hall e he hb
        rw [heq, getD_both hun] at h1
        cases h1
      have h2 := qOp_put hoj (hfree j oj hoj hji hjun hnot) (fun cs b => hsel i oi cs b hi) (fun cs b => hsel j oj cs b hoj) hy h1
      have hfree' : ∀ k ok, ops[k]? = some ok → k ≠ i → (listed.setIfInBounds j true).getD k true = false →
          (∀ e ∈ ok.after, Region.binds md e = true → e.on ≠ i) → oi.apart ops ok = true := fun k ok hk hki hun' hno => by
        refine hfree k ok hk hki ?_ hno
        by_cases hjk : j = k
        · subst hjk; exact hjun
        · rw [getD_set_ne true hjk] at hun'; exact hun'
      refine qOp_mono (fun a' h3 => ih (listed.setIfInBounds j true) a' (inv.set hj hjn) hfree' (ready_mono hr (Ne.symm hji)) h3.1 ?_) h2
      rw [Array.setIfInBounds_comm _ _ hji]
      exact h3.2

theorem headQ_lex {n g : Nat} {Lq : Act → Prop} (hsel : Region.noSelect ops = true) (hs : Region.sinkB md ops n = true) (hc : Region.chainB md ops n = true) (hn : n < ops.size)
    (l : List Oper) : ∀ (k : Nat) (listed : Array Bool) (a : Act), (∀ j, j < l.length → l[j]? = ops[k + j]?) → k + l.length = n → HeadInv md ops n listed →
    Region.lexHead md ops g l.length k listed = true → wpQuiet P ops C Lq l a →
    headQ P md ops C n (fun listed' a' => Region.seqB md ops g n listed' = true ∧ Lq a') l.length listed a := by
  induction l with
  | nil =>
    intro k listed a _ hk _ hB h
    obtain rfl : k = n := by simpa using hk
    exact ⟨by simpa [Region.lexHead] using hB, h⟩
  | cons o l ih =>
    intro k listed a hl hk inv hB h
    have h0 : ops[k]? = some o := by simpa using (hl 0 (by simp)).symm
    simp only [List.length_cons, Region.lexHead, Bool.and_eq_true] at hB
    obtain ⟨⟨hr, hf⟩, hB'⟩ := hB
    have hkn : k < n := by simp only [List.length_cons] at hk; omega
    have hr' : k ∈ Region.ready md ops listed := by simpa using hr
    have hst : qOp P ops C k (wpQuiet P ops C Lq l) a := by unfold qOp; simp only [h0]; exact h
    obtain ⟨v, hy, hK⟩ := yieldsIn_of_qOp h0 hst
    exact headQ_first h0 (Region.noSelect_spec hsel) hs hc hn hkn (fun listed' a' hL => seqB_ready hL.1) l.length listed a inv (Region.free_spec h0 hf) hr' hy
      (ih (k + 1) _ _ (fun j hj => by have := hl (j + 1) (by simp; omega); simpa [Nat.add_assoc, Nat.add_comm 1 j] using this) (by simp only [List.length_cons] at hk; omega) (inv.set hr' hkn) hB' hK)

/-- the region's wp, by one walk: the head in the class C, then the tail in every world of the class -/
theorem region_quiet_tail {id : Nat} {Q : Exit → Act → World → Prop} {a : Act} {w : World} {l : List Oper} (C : World → Prop) (n : Nat) (hm : P.follows .mixedOrders = true)
    (hB : Region.lexTailB .any l.toArray n = true) (hC : C { w with drawn := w.drawn + 1 })
    (h : wpQuiet P l.toArray C (fun a' => ∀ w', C w' → wpList P l.toArray Q (l.drop n) a' w') (l.take n) a) : (Code.region id l.toArray true).wp P Q a w := by
  simp only [Region.lexTailB, Bool.and_eq_true, decide_eq_true_eq] at hB
  obtain ⟨⟨⟨⟨hsel, hn⟩, hs⟩, hc⟩, hlex⟩ := hB
  have hn' : n < l.length := by simpa using hn
  have htl : (l.take n).length = n := by simp; omega
  have hdl : (l.drop n).length = l.toArray.size - n := by simp
  have inv0 : HeadInv .any l.toArray n (Array.replicate l.toArray.size false) :=
    ⟨by simp, fun j oj _ hl => (by rw [getD_replicate_false] at hl; cases hl), fun t _ ht => getD_in (by simpa using ht) (getD_replicate_false _ _)⟩
  have H := headQ_lex (md := .any) (g := l.toArray.size - n) hsel hs hc hn (l.take n) 0 _ a (fun j hj => by
    have hj' : j < n := by rw [htl] at hj; exact hj
    simp [hj']) (by simpa using htl) inv0 (by rw [htl]; exact hlex) h
  refine wp_region_any hm ?_
  have := any_of_headQ (Q' := Q) (g := l.toArray.size - n) (fun listed a' w' hC' hL => by
    have := wpAny_of_seq (md := .any) (Q' := Q) (l.drop n) n listed a' w' (fun j => by simp [List.getElem?_drop]) (by rw [hdl]; exact hL.1) (hL.2 w' hC')
    rwa [hdl] at this) _ _ _ _ hC H
  rw [htl, show n + (l.toArray.size - n) = l.toArray.size by omega] at this
  exact this
end
end Go.Proofs.Ytegaiphhoinilaa
namespace Go.Proofs.Ytegaiphhoinilaa
open Go Go.RowKit

/- only block g has changed, and there may be new ones -/
theorem only_trans {a b c : World} {row : Option Nat} (h : a.grownBy b row) (k : b.grownBy c row) : a.grownBy c row :=
  ⟨k.os.trans h.os, k.tape.trans h.tape, k.output.trans h.output, Nat.le_trans h.size k.size, fun i hi hne => (k.block i (Nat.lt_of_lt_of_le hi h.size) hne).trans (h.block i hi hne)⟩
theorem only_drewN (a : World) (n : Nat) (row : Option Nat) : a.grownBy (a.drewN n) row := ⟨rfl, rfl, rfl, Nat.le_refl _, fun _ _ _ => rfl⟩
theorem only_below {a b : World} (h : Below a.heap.size a b) (row : Option Nat) : a.grownBy b row := ⟨h.os, h.tape, h.output, h.size, fun i hi _ => h.block i hi⟩
theorem only_setCell (a : World) (g o : Nat) (v : Value) : a.grownBy (a.setCell ⟨g, o, none⟩ v) (some g) :=
  ⟨rfl, rfl, rfl, by simp [World.setCell], fun i _ hne => Below.heap_setCell a _ v i (fun e => hne (by rw [e]))⟩
theorem below_of_only {a b : World} {g : Nat} (h : a.grownBy b (some g)) {B : Nat} (hB : B ≤ g) (hs : B ≤ a.heap.size) : Below B a b :=
  ⟨h.os, h.tape, h.output, h.size, fun i hi => h.block i (Nat.lt_of_lt_of_le hi hs) (by simp; omega)⟩
/-- what was known of a block is known of a range of it -/
theorem Has.range {w : World} {g N : Nat} {t : TypeId} {f : Nat → Value} (h : Has w g t (tab N f)) (off n : Nat) (hn : off + n ≤ N) : w.rangeAt g off ((List.range n).map fun j => f (off + j)) := fun j v hv => by
  have hj : j < n := by have := (List.getElem?_eq_some_iff.1 hv).1; simpa using this
  rw [h.cellTab (off + j) (by omega), ← hv]
  simp [hj]

/-- a whole array is loaded in a region that only reads -/
theorem q_load {P : Program} {ops : Array Oper} {C : World → Prop} {K : Act → Prop} {a : Act} {op : Oper} (hgd : op.guard = none) (ty : TypeId) (x : Operand) (ho : op.op = .load ty x)
    (b off : Nat) (hx : a.eval x = .pointer (some ⟨b, off, none⟩)) (n : Nat) (f : Nat → Value) (d : TypeDesc) (hc : ∀ w', C w' → w'.rangeAt b off ((List.range n).map f))
    (hu : P.underlying ty = some d) (hd : d.isRow = true) (hi : (P.info? ty).map (·.size) = some n)
    (h : K (a.put op.dst (.agg (tab n f)))) : if Region.wanted op (yielded ops a.tmps) then op.quiet P a C K else K (a.put op.dst undef) := by
  have hw : Region.wanted op (yielded ops a.tmps) = true := by simp [Region.wanted, hgd]
  rw [if_pos hw]
  refine ⟨.agg (tab n f), fun w' hw' => ?_, h⟩
  unfold Oper.quietAt execOp
  simp only [ho, hx, Instr.loadAt, Instr.sureAddr, Sem.run_bind, Sem.run_pure, Result.andThen_ok, run_loadVar_mid w' b off ty _ d (hc w' hw') hu hd (by simpa using hi)]
  exact ⟨rfl, rfl⟩

/-- an operation that gives one value in every world -/
theorem q_val {P : Program} {ops : Array Oper} {C : World → Prop} {K : Act → Prop} {a : Act} {op : Oper} (hgd : op.guard = none) (v : Value)
    (hrun : ∀ w, (execOp a.eval op).run P w = .ok (.value v) w) (h : K (a.put op.dst v)) : if Region.wanted op (yielded ops a.tmps) then op.quiet P a C K else K (a.put op.dst undef) := by
  have hw : Region.wanted op (yielded ops a.tmps) = true := by simp [Region.wanted, hgd]
  rw [if_pos hw]
  refine ⟨v, fun w' _ => ?_, h⟩
  unfold Oper.quietAt
  rw [hrun w']
  exact ⟨rfl, rfl⟩
/-- a call, in a region whose operations keep the class C -/
theorem q_call {P : Program} {ops : Array Oper} {C : World → Prop} {K : Act → Prop} {a : Act} {op : Oper} (hgd : op.guard = none) (fn : FuncId) (args : Array Value)
    (hrun : ∀ w, (execOp a.eval op).run P w = .ok (.enter fn args) w) (v : Value) (hc : ∀ w', C w' → Calls P fn args w' fun e w'' => e = .returned v ∧ C w'')
    (h : K (a.put op.dst v)) : if Region.wanted op (yielded ops a.tmps) then op.quiet P a C K else K (a.put op.dst undef) := by
  have hw : Region.wanted op (yielded ops a.tmps) = true := by simp [Region.wanted, hgd]
  rw [if_pos hw]
  refine ⟨v, fun w' hw' => ?_, h⟩
  unfold Oper.quietAt
  rw [hrun w']
  exact ⟨rfl, hc w' hw'⟩

/-- an array by value goes into a part of a block that is known whole -/
theorem wp_store_tab {P : Program} {w : World} {ops : Array Oper} {rest : List Oper} {op : Oper} {a : Act} {Q : Exit → Act → World → Prop} (hgd : op.guard = none) (ty : TypeId) (x y : Operand) (ho : op.op = .store ty x y)
    (g off : Nat) (hx : a.eval x = .pointer (some ⟨g, off, none⟩)) (n : Nat) (v : Nat → Value) (hy : a.eval y = .agg (tab n v))
    (N : Nat) (f : Nat → Value) (t : TypeId) (hg : Has w g t (tab N f)) (hi : (P.info? ty).map (·.size) = some n) (hfit : off + n ≤ N) (h1 : ∀ j, (v j).oneCell' = true)
    (h : ∀ w', Has w' g t (tab N fun j => if off ≤ j ∧ j < off + n then v (j - off) else f j) → w.grownBy w' (some g) → wpList P ops Q rest (a.put op.dst undef) w') : wpList P ops Q (op :: rest) a w := by
  refine wpList_plain hgd fun K hK => ?_
  have hl : ((List.range n).map v).length = n := by simp
  have hrun := run_storeCells_at (P := P) g off t ((List.range n).map v) 0 (tab N f) w hg (by rw [hl, tab_size]; omega) (fun u hu => by obtain ⟨j, _, rfl⟩ := List.mem_map.1 hu; exact h1 j)
  have e := tab_splice N f v off n hfit
  rw [hl, Nat.add_zero, List.append_assoc, e] at hrun
  have hs : (storeVar ty ⟨g, off, none⟩ (.agg (tab n v))).run P w = .ok () (w.setRow g (tab N fun j => if off ≤ j ∧ j < off + n then v (j - off) else f j)) := by
    cases hq : P.info? ty with
    | none => simp [hq] at hi
    | some i =>
      have hs : i.size = n := by simpa [hq] using hi
      simp [storeVar, sizeOf, typeInfo, hq, Value.cells, hs, tab_size, tab_toList, hrun]
  unfold Oper.wp execOp
  simp only [ho, hx, hy, Instr.storeAt, Instr.sureAddr, Sem.run_bind, Sem.run_pure, Result.andThen_ok, hs]
  exact hK _ _ (h _ (hg.setRow _) ⟨rfl, rfl, rfl, by simp, fun i _ hne => setRow_other w g i _ (fun e => hne (by rw [e]))⟩)
/-- 'copy' into a block that is known whole, from cells elsewhere -/
theorem wp_copy_tab {P : Program} {w : World} {ops : Array Oper} {rest : List Oper} {op : Oper} {a : Act} {Q : Exit → Act → World → Prop} (hgd : op.guard = none) (d s : Operand) (dT sT : TypeId)
    (ho : op.op = .call { callee := .builtin .copy, args := #[d, s], argTypes := #[dT, sT] }) (elem : TypeId) (hu : P.underlying dT = some (.slice elem)) (hsz : (P.info? elem).map (·.size) = some 1)
    (g off dLen dCap b o sLen sCap : Nat) (hd : a.eval d = .slice (some ⟨g, off, none⟩) dLen dCap) (hs : a.eval s = .slice (some ⟨b, o, none⟩) sLen sCap)
    (N : Nat) (f : Nat → Value) (t : TypeId) (hg : Has w g t (tab N f)) (k : Nat) (hk : k = Nat.min sLen dLen) (v : Nat → Value)
    (hsrc : ∀ j, j < k → w.cell? ⟨b, o + j, none⟩ = some (v j)) (hfit : off + k ≤ N) (h1 : ∀ j, (v j).oneCell' = true)
    (h : ∀ w', Has w' g t (tab N fun j => if off ≤ j ∧ j < off + k then v (j - off) else f j) → w.grownBy w' (some g) → wpList P ops Q rest (a.put op.dst (.int .i64 (k : Int))) w') : wpList P ops Q (op :: rest) a w := by
  have hl : ((List.range k).map v).length = k := by simp
  refine wpList_copy_own hgd d s dT sT ho elem hu hsz g off dLen dCap ⟨b, o, none⟩ sLen sCap hd hs (tab N f) t hg ((List.range k).map v) (by rw [hl, hk]) (fun j u hj => ?_) (by rw [hl, tab_size]; exact hfit) (fun u hu => ?_) ?_
  · have hjk : j < k := by have := (List.getElem?_eq_some_iff.1 hj).1; simpa using this
    have e : (⟨b, o, none⟩ : Addr).add j = ⟨b, o + j, none⟩ := Addr.add_mid b o j
    rw [e, hsrc j hjk, ← hj]
    simp [hjk]
  · obtain ⟨j, _, rfl⟩ := List.mem_map.1 hu
    exact h1 j
  · have e := tab_splice N f v off k hfit
    have hh := hg.setRow (((tab N f).toList.take off ++ ((List.range k).map v ++ (tab N f).toList.drop (off + k))).toArray)
    rw [hl]
    rw [e] at hh ⊢
    exact h _ hh ⟨rfl, rfl, rfl, by simp, fun i _ hne => setRow_other w g i _ (fun e => hne (by rw [e]))⟩

end Go.Proofs.Ytegaiphhoinilaa
namespace Go.Proofs.Ytegaiphhoinilaa
open Go Go.RowKit Go.ChangeShapes Go.WideShapes Go.ChangeAt

def by8 (b : UInt8) : Value := .int .u8 (b.toNat : Int)
theorem info5 : (Try.prog.info? 5).map (fun i => (i.zero, i.size, i.bytes)) = some (some (.int .u8 0), 1, 1) := by kernel_rfl
/-- the slice value reads as the bytes bs, in a block that is there -/
def SlA (w : World) (A : Option Addr) (n c : Nat) (bs : List UInt8) : Prop :=
  bs.length = n ∧ n ≤ c ∧ (0 < n → ∃ b o, A = some ⟨b, o, none⟩ ∧ b < w.heap.size ∧ ∀ j, j < n → w.cell? ⟨b, o + j, none⟩ = some (by8 (bs.getD j 0)))
theorem SlA.below {w w' : World} {A : Option Addr} {n c : Nat} {bs : List UInt8} (h : SlA w A n c bs) (hb : Below w.heap.size w w') : SlA w' A n c bs := by
  refine ⟨h.1, h.2.1, fun hn => ?_⟩
  obtain ⟨b, o, rfl, hlt, hc⟩ := h.2.2 hn
  exact ⟨b, o, rfl, Nat.lt_of_lt_of_le hlt hb.size, fun j hj => (hb.cell (p := ⟨b, o + j, none⟩) hlt).trans (hc j hj)⟩
theorem below_only {a b c : World} {g B : Nat} (h : Below B a b) (k : b.grownBy c (some g)) (hg : B ≤ g) (hB : B ≤ b.heap.size) : Below B a c := h.trans (below_of_only k hg hB)

theorem SlA.grown {w w' : World} {A : Option Addr} {n c : Nat} {bs : List UInt8} {r : Option Nat} (h : SlA w A n c bs) (k : w.grownBy w' r) (hne : ∀ b o, A = some ⟨b, o, none⟩ → 0 < n → r ≠ some b) : SlA w' A n c bs := by
  refine ⟨h.1, h.2.1, fun hn => ?_⟩
  obtain ⟨b, o, rfl, hlt, hc⟩ := h.2.2 hn
  refine ⟨b, o, rfl, Nat.lt_of_lt_of_le hlt k.size, fun j hj => ?_⟩
  have hb := k.block b hlt (fun e => hne b o rfl hn e.symm)
  have hcell := hc j hj
  unfold World.cell? at hcell ⊢
  dsimp only at hcell ⊢
  rw [hb]
  exact hcell
theorem nil_slA (w : World) : SlA w none 0 0 [] := ⟨rfl, Nat.le_refl _, fun h => absurd h (Nat.lt_irrefl _)⟩
theorem SlA.sub {w : World} {b o n c : Nat} {bs : List UInt8} (h : SlA w (some ⟨b, o, none⟩) n c bs) {i j : Nat} (hij : i ≤ j) (hj : j ≤ n) : SlA w (some ⟨b, o + i, none⟩) (j - i) (c - i) ((bs.drop i).take (j - i)) := by
  obtain ⟨hl, hc, h1⟩ := h
  refine ⟨by rw [List.length_take, List.length_drop]; omega, by omega, fun hn => ?_⟩
  obtain ⟨b', o', e, hlt, hcell⟩ := h1 (by omega)
  obtain ⟨rfl, rfl⟩ : b' = b ∧ o' = o := by injection e with e; injection e with e1 e2; exact ⟨e1.symm, e2.symm⟩
  refine ⟨b', o' + i, rfl, hlt, fun k hk => ?_⟩
  rw [Nat.add_assoc, hcell (i + k) (by omega)]
  simp [List.getD_eq_getElem?_getD, hk]
theorem own_form {w : World} {base : Nat} {e : TypeId} {size n : Nat} {v : Value} {xs : List Value} (h : w.ownsRow base e size v n xs) : ∃ A c, v = .slice A n c := by
  rcases h.2 with ⟨rfl, rfl⟩ | ⟨g, cap, cur, rfl, _⟩
  · exact ⟨none, 0, rfl⟩
  · exact ⟨_, _, rfl⟩

theorem own_slA {w : World} {base n c : Nat} {A : Option Addr} {bs : List UInt8} (h : w.ownsRow base 5 1 (.slice A n c) n (bs.map by8)) : SlA w A n c bs ∧ (A = none → c = 0) := by
  have hl : bs.length = n := by have := h.1; simpa using this
  rcases h.2 with ⟨hv, h0⟩ | ⟨g, cap, cur, hv, hb, hg, hnc, _⟩
  · have e1 : A = none := by injection hv
    have e2 : c = 0 := by injection hv
    exact ⟨⟨hl, by omega, fun h => absurd h (by omega)⟩, fun _ => e2⟩
  · have e1 : A = some ⟨g, 0, none⟩ := by injection hv
    have e2 : c = cap := by injection hv
    subst e1
    subst e2
    have hlt : g < w.heap.size := (Array.getElem?_eq_some_iff.1 hg).1
    refine ⟨⟨hl, hnc, fun _ => ⟨g, 0, rfl, hlt, fun j hj => ?_⟩⟩, fun h => by cases h⟩
    rw [Nat.zero_add, h.cellAt j (by omega)]
    simp [List.getD_eq_getElem?_getD, show j < bs.length by omega]
theorem own_mono {w : World} {base base' : Nat} {e : TypeId} {size : Nat} {v : Value} {n : Nat} {xs : List Value} (h : w.ownsRow base e size v n xs) (hb : base' ≤ base) : w.ownsRow base' e size v n xs :=
  ⟨h.1, h.2.elim .inl fun ⟨g, cap, cur, h1, h2, h3⟩ => .inr ⟨g, cap, cur, h1, Nat.le_trans hb h2, h3⟩⟩
theorem Has.after {w w' : World} {g : Nat} {t : TypeId} {cs : Array Value} (h : Has w g t cs) (k : Below w.heap.size w w') : Has w' g t cs := h.below k h.lt
theorem below_trans {a b c : World} (h : Below a.heap.size a b) (k : Below b.heap.size b c) : Below a.heap.size a c := h.trans (k.mono h.size)
theorem has_grown {w w' : World} {g : Nat} {t : TypeId} {cs : Array Value} {o : Option Nat} (h : Has w g t cs) (k : w.grownBy w' o) (hne : ∀ l, o = some l → g ≠ l) : Has w' g t cs :=
  (k.block g h.lt (fun e => hne g e.symm rfl)).trans h
/-- append(v, x...), x a slice of bytes that is there -/
theorem wp_append_bytes {w : World} {ops : Array Oper} {rest : List Oper} {op : Oper} {a : Act} {Q : Exit → Act → World → Prop} (hgd : op.guard = none) (s x : Operand)
    (ho : op.op = .call { callee := .builtin .append, args := #[s, x], argTypes := #[70, 70] }) (base : Nat) (v : Value) (n : Nat) (xs : List Value) (hs : a.eval s = v)
    (hown : w.ownsRow base 5 1 v n xs) (A : Option Addr) (m c : Nat) (hx : a.eval x = .slice A m c) (bs : List UInt8) (hS : SlA w A m c bs) (hnil : A = none → c = 0) (h63 : n + m ≤ 1000000) (hbase : base ≤ w.heap.size)
    (h : ∀ v' w', w'.ownsRow base 5 1 v' (n + m) (xs ++ bs.map by8) → w.grownBy w' v.ownBlock → wpList Try.prog ops Q rest (a.put op.dst v') w') : wpList Try.prog ops Q (op :: rest) a w := by
  obtain ⟨i5, hi5, hz5, hs5, hb5⟩ := info_parts info5
  have hl : bs.length = m := hS.1
  cases A with
  | none =>
    have hm : m = 0 := by
      rcases Nat.eq_zero_or_pos m with h0 | h0
      · exact h0
      · obtain ⟨b, o, e, _⟩ := hS.2.2 h0
        cases e
    have hc : c = 0 := hnil rfl
    subst hm
    subst hc
    have hbs : bs = [] := List.eq_nil_of_length_eq_zero hl
    subst hbs
    refine wpList_append_own_none hgd s x 70 ho base 5 i5 1 Try.underlying70 hi5 v n xs hs hown hx ?_
    exact h v w (by simpa using hown) (World.grownBy.refl w _)
  | some ad =>
    refine wpList_append_own _ hgd s x 70 ho base 5 i5 (.int .u8 0) 1 1 Try.underlying70 hi5 hz5 hs5 hb5 rfl (by decide) v n xs hs hown ad m c (bs.map by8) hx (by simp [hl]) (fun j u hj => ?_) (fun u hu => ?_) (by simp only [maxLen]; omega) (by omega) hbase
      (fun v' w' h1 h2 _ => h v' w' h1 h2)
    · have hjm : j < m := by have := (List.getElem?_eq_some_iff.1 hj).1; simpa [hl] using this
      obtain ⟨b, o, e, _, hcell⟩ := hS.2.2 (by omega)
      obtain rfl : ad = ⟨b, o, none⟩ := Option.some.inj e
      rw [Addr.add_mid, hcell j hjm, ← hj]
      simp [List.getD_eq_getElem?_getD, show j < bs.length by omega]
    · obtain ⟨b, _, rfl⟩ := List.mem_map.1 hu
      rfl

/-- append(v, x), one byte -/
theorem wp_append_byte {w : World} {ops : Array Oper} {rest : List Oper} {op : Oper} {a : Act} {Q : Exit → Act → World → Prop} (hgd : op.guard = none) (s x : Operand)
    (ho : op.op = .call { callee := .builtin .append, args := #[s, x], argTypes := #[70, 70] }) (base : Nat) (v : Value) (n : Nat) (xs : List Value) (hs : a.eval s = v)
    (hown : w.ownsRow base 5 1 v n xs) (g : Nat) (hx : a.eval x = .slice (some ⟨g, 0, none⟩) 1 1) (b : UInt8) (hc : w.cell? ⟨g, 0, none⟩ = some (by8 b)) (h63 : n + 1 ≤ 1000000) (hbase : base ≤ w.heap.size)
    (h : ∀ v' w', w'.ownsRow base 5 1 v' (n + 1) (xs ++ [by8 b]) → w.grownBy w' v.ownBlock → wpList Try.prog ops Q rest (a.put op.dst v') w') : wpList Try.prog ops Q (op :: rest) a w := by
  obtain ⟨i5, hi5, hz5, hs5, hb5⟩ := info_parts info5
  refine wpList_append_own _ hgd s x 70 ho base 5 i5 (.int .u8 0) 1 1 Try.underlying70 hi5 hz5 hs5 hb5 rfl (by decide) v n xs hs hown ⟨g, 0, none⟩ 1 1 [by8 b] hx rfl (fun j u hj => ?_) (fun u hu => ?_) (by simp only [maxLen]; omega) (by omega) hbase
    (fun v' w' h1 h2 _ => h v' w' h1 h2)
  · have hj0 : j = 0 := by have := (List.getElem?_eq_some_iff.1 hj).1; simp at this; omega
    subst hj0
    rw [Addr.add_mid, hc, ← hj]
    rfl
  · obtain rfl : u = by8 b := by simpa using hu
    rfl

/-- the slice value reads as bytes -/
theorem isRow_bytes {W : World} {b off : Nat} {len cap : Nat} {zs : List Int} (hl : len ≤ cap) (hz : zs.length = cap) (hcell : ∀ i, i < zs.length → W.cell? ⟨b, off + i, none⟩ = some (.int .u8 (zs.getD i 0))) (hwz : ∀ n ∈ zs, (Lit.int .u8 n).wf = true) :
    ∀ j, j < len → W.cell? ⟨b, off + j, none⟩ = some (by8 (((zs.take len).map fun z => UInt8.ofNat z.toNat).getD j 0)) := by
  intro j hj
  rw [hcell j (by omega)]
  have hm : zs[j]'(by omega) ∈ zs := List.getElem_mem _
  have hw := hwz _ hm
  have hb : 0 ≤ zs[j]'(by omega) ∧ zs[j]'(by omega) ≤ 255 := by simpa [Lit.wf, IntKind.min, IntKind.max, IntKind.signed, IntKind.bits] using hw
  unfold by8
  simp only [List.getD_eq_getElem?_getD, List.getElem?_map, List.getElem?_take, if_pos hj]
  rw [List.getElem?_eq_getElem (by omega)]
  simp only [Option.getD_some, Option.map_some, UInt8.toNat_ofNat']
  congr 2
  omega
/-- a slice of bytes that came in -/
theorem came {H : Type} {enc : TypeId × Value → H} {W : World} {a : Option Addr} {len cap : Nat} {d : DataW H} {p : List MemPlace} (h : DataW.Trod enc Try.prog W 0 (fun _ => true) true 70 (.slice a len cap) d p) :
    (∃ bs, SlA W a len cap bs) ∧ (a = none → cap = 0) := by
  obtain ⟨fuel, hf⟩ := h
  rcases open_ints Try.underlying70 Try.underlying5 (by kernel_rfl) hf with ⟨hcs, _⟩ | ⟨x, l, c, zs, hcs, _, hl, _, hz, _, hcell, hwz⟩
  · simp [Value.cells] at hcs
    obtain ⟨rfl, rfl, rfl⟩ := hcs
    exact ⟨⟨[], rfl, Nat.le_refl _, fun h => absurd h (by omega)⟩, fun _ => rfl⟩
  · simp [Value.cells] at hcs
    obtain ⟨rfl, rfl, rfl⟩ := hcs
    have hz' : zs.length = cap := by simpa using hz
    refine ⟨⟨(zs.take len).map fun z => UInt8.ofNat z.toNat, by simp; omega, hl, fun hn => ?_⟩, fun h => by cases h⟩
    obtain ⟨b, off, spot⟩ := x
    have hc := hcell 0 (by omega)
    have hspot : spot = none := by simpa [Addr.add] using World.cell?_spot hc
    subst hspot
    have hcell' : ∀ i, i < zs.length → W.cell? ⟨b, off + i, none⟩ = some (.int .u8 (zs.getD i 0)) := fun i hi => by
      have := hcell i hi
      rwa [Addr.add_mid] at this
    refine ⟨b, off, rfl, ?_, isRow_bytes hl hz' hcell' hwz⟩
    have := block_lt_of_cell (hcell' 0 (by omega))
    exact this

end Go.Proofs.Ytegaiphhoinilaa
namespace Go.Proofs.Ytegaiphhoinilaa
open Go Go.RowKit

/-- the n addresses from a on lie within the m addresses from b on -/
def inB (a n b m : Nat) : Bool := decide (b ≤ a ∧ a + n ≤ b + m)
/-- no address in common -/
def apB (a n b m : Nat) : Bool := decide (min (a + n) (b + m) ≤ max a b)
end Go.Proofs.Ytegaiphhoinilaa
namespace Go.Proofs.Ytegaiphhoinilaa
open Go Go.RowKit

section
variable {P : Program} {w : World} {ops : Array Oper} {rest : List Oper} {o : Oper} {a : Act} {Q : Exit → Act → World → Prop}
theorem wpList_wanted (hw : Region.wanted o (yielded ops a.tmps) = true)
    (h : ∀ K : Act → World → Prop, (∀ a w, wpList P ops Q rest a w → K a w) → o.wp P a w K Q) : wpList P ops Q (o :: rest) a w :=
  wpList_step fun K hK => by rw [if_pos hw]; exact h K hK
/-- a load of a whole array from a block that is known whole -/
theorem wpList_load_has (ty : TypeId) (x : Operand) (ho : o.op = .load ty x) (g : Nat) (hx : a.eval x = .pointer (some ⟨g, 0, none⟩)) (hw : Region.wanted o (yielded ops a.tmps) = true)
    (t : TypeId) (cs : Array Value) (hg : Has w g t cs) (d : TypeDesc) (hu : P.underlying ty = some d) (hd : (match d with | .struct _ | .array _ _ => true | _ => false) = true) (hi : (P.info? ty).map (·.size) = some cs.size)
    (h : wpList P ops Q rest (a.put o.dst (.agg cs)) w) : wpList P ops Q (o :: rest) a w :=
  wpList_wanted hw fun _ hK => wp_load_row ty x ho g hx t cs (0, 0) d hg hu hd hi (hK _ _ h)
/-- .. in a region whose operations keep the class C -/
theorem q_has {C : World → Prop} {K : Act → Prop} (ty : TypeId) (x : Operand) (ho : o.op = .load ty x) (g : Nat) (hx : a.eval x = .pointer (some ⟨g, 0, none⟩))
    (t : TypeId) (cs : Array Value) (hg : ∀ w', C w' → Has w' g t cs) (d : TypeDesc) (hu : P.underlying ty = some d) (hd : (match d with | .struct _ | .array _ _ => true | _ => false) = true) (hi : (P.info? ty).map (·.size) = some cs.size)
    (h : K (a.put o.dst (.agg cs))) : o.quiet P a C K := by
  refine ⟨.agg cs, fun w' hC => ?_, h⟩
  unfold Oper.quietAt execOp
  simp only [ho, hx, Instr.loadAt, Instr.sureAddr, Sem.run_bind, Sem.run_pure, Result.andThen_ok, run_loadVar_row w' g t ty cs (0, 0) d (hg w' hC) hu hd hi]
  exact ⟨rfl, rfl⟩
theorem wpQ_has {C : World → Prop} {L : Act → Prop} (ty : TypeId) (x : Operand) (ho : o.op = .load ty x) (g : Nat) (hx : a.eval x = .pointer (some ⟨g, 0, none⟩)) (hw : Region.wanted o (yielded ops a.tmps) = true)
    (t : TypeId) (cs : Array Value) (hg : ∀ w', C w' → Has w' g t cs) (d : TypeDesc) (hu : P.underlying ty = some d) (hd : (match d with | .struct _ | .array _ _ => true | _ => false) = true) (hi : (P.info? ty).map (·.size) = some cs.size)
    (h : wpQuiet P ops C L rest (a.put o.dst (.agg cs))) : wpQuiet P ops C L (o :: rest) a :=
  wpQuiet_step fun K hK => by rw [if_pos hw]; exact q_has ty x ho g hx t cs hg d hu hd hi (hK _ h)
/-- a call in a region whose operations keep the class C -/
theorem wpQ_call {C : World → Prop} {L : Act → Prop} (fn : FuncId) (args : Array Value) (hw : Region.wanted o (yielded ops a.tmps) = true)
    (hrun : ∀ w, (execOp a.eval o).run P w = .ok (.enter fn args) w) (v : Value) (hc : ∀ w', C w' → Calls P fn args w' fun e w'' => e = .returned v ∧ C w'')
    (h : wpQuiet P ops C L rest (a.put o.dst v)) : wpQuiet P ops C L (o :: rest) a :=
  wpQuiet_step fun K hK => by
    rw [if_pos hw]
    refine ⟨v, fun w' hC => ?_, hK _ h⟩
    unfold Oper.quietAt
    rw [hrun w']
    exact ⟨rfl, hc w' hC⟩
/-- an operation that gives one value in every world -/
theorem wpQ_val {C : World → Prop} {L : Act → Prop} (hw : Region.wanted o (yielded ops a.tmps) = true) (v : Value)
    (hrun : ∀ w, C w → (execOp a.eval o).run P w = .ok (.value v) w) (h : wpQuiet P ops C L rest (a.put o.dst v)) : wpQuiet P ops C L (o :: rest) a :=
  wpQuiet_step fun K hK => by
    rw [if_pos hw]
    refine ⟨v, fun w' hC => ?_, hK _ h⟩
    unfold Oper.quietAt
    rw [hrun w' hC]
    exact ⟨rfl, rfl⟩
/- .. by the kind of the operation: what its operands hold is told beside it, so that no walk sees the whole frame -/
theorem wpQ_move {C : World → Prop} {L : Act → Prop} (x : Operand) (ho : o.op = .move x) (hw : Region.wanted o (yielded ops a.tmps) = true) (X : Value) (hx : a.eval x = X)
    (h : wpQuiet P ops C L rest (a.put o.dst X)) : wpQuiet P ops C L (o :: rest) a :=
  wpQ_val hw X (fun w _ => by simp [execOp, ho, hx]) h
theorem wpQ_assign {C : World → Prop} {L : Act → Prop} (x : Operand) (ho : o.op = .assign x) (hw : Region.wanted o (yielded ops a.tmps) = true) (X : Value) (hx : a.eval x = X)
    (h : wpQuiet P ops C L rest (a.put o.dst X)) : wpQuiet P ops C L (o :: rest) a :=
  wpQ_val hw X (fun w _ => by simp [execOp, ho, hx]) h
theorem wpQ_bin {C : World → Prop} {L : Act → Prop} (op : BinOp) (t : TypeId) (x y : Operand) (t2 : TypeId) (ho : o.op = .binOp op t x y t2) (hw : Region.wanted o (yielded ops a.tmps) = true) (X Y : Value) (hx : a.eval x = X) (hy : a.eval y = Y) (v : Value)
    (hrun : ∀ w, C w → (do eqGuard op t x y X Y; binOp op t X Y : Sem Value).run P w = .ok v w) (h : wpQuiet P ops C L rest (a.put o.dst v)) : wpQuiet P ops C L (o :: rest) a :=
  wpQ_val hw v (fun w hC => by
    have := hrun w hC
    simp only [execOp, ho, hx, hy]
    rw [Sem.run_bind, this]
    rfl) h
theorem wpQ_un {C : World → Prop} {L : Act → Prop} (op : UnOp) (t : TypeId) (x : Operand) (ho : o.op = .unOp op t x) (hw : Region.wanted o (yielded ops a.tmps) = true) (X : Value) (hx : a.eval x = X) (v : Value)
    (hrun : ∀ w, C w → (Op.unary op X).run P w = .ok v w) (h : wpQuiet P ops C L rest (a.put o.dst v)) : wpQuiet P ops C L (o :: rest) a :=
  wpQ_val hw v (fun w hC => by
    have := hrun w hC
    simp only [execOp, ho, hx]
    rw [Sem.run_bind, this]
    rfl) h
theorem wpQ_conv {C : World → Prop} {L : Act → Prop} (s d : TypeId) (x : Operand) (ho : o.op = .convert s d x) (hw : Region.wanted o (yielded ops a.tmps) = true) (X : Value) (hx : a.eval x = X) (v : Value)
    (hrun : ∀ w, C w → (convert s d X).run P w = .ok v w) (h : wpQuiet P ops C L rest (a.put o.dst v)) : wpQuiet P ops C L (o :: rest) a :=
  wpQ_val hw v (fun w hC => by
    have := hrun w hC
    simp only [execOp, ho, hx]
    rw [Sem.run_bind, this]
    rfl) h
theorem wpQ_pick {C : World → Prop} {L : Act → Prop} (c x y : Operand) (ho : o.op = .pick c x y) (hw : Region.wanted o (yielded ops a.tmps) = true) (b : Bool) (hc : a.eval c = .bool b) (v : Value)
    (hv : (if b then a.eval x else a.eval y) = v) (h : wpQuiet P ops C L rest (a.put o.dst v)) : wpQuiet P ops C L (o :: rest) a :=
  wpQ_val hw v (fun w _ => by
    subst hv
    simp only [execOp, ho, hc]
    cases b <;> rfl) h
theorem wpQ_build {C : World → Prop} {L : Act → Prop} (t : TypeId) (ho : o.op = .build t #[]) (hw : Region.wanted o (yielded ops a.tmps) = true) (v : Value)
    (hrun : ∀ w, C w → (Instr.build t #[]).run P w = .ok v w) (h : wpQuiet P ops C L rest (a.put o.dst v)) : wpQuiet P ops C L (o :: rest) a :=
  wpQ_val hw v (fun w hC => by
    have := hrun w hC
    simp only [execOp, ho]
    rw [Sem.run_bind]
    simp only [Array.map_empty]
    rw [this]
    rfl) h
end
/-- the class 'blocks that were there are as they were' after a call -/
theorem below_class {a w' w'' : World} (h : Below a.heap.size a w') (k : Below w'.heap.size w' w'') : Below a.heap.size a w'' := h.trans (k.mono h.size)
end Go.Proofs.Ytegaiphhoinilaa
namespace Go.Proofs.Ytegaiphhoinilaa
open Go Go.RowKit

/-- a grant -/
structure Gr where
  s : Nat
  z : Nat
  r : Int
deriving DecidableEq
/-- a payload -/
structure Pay where
  d : List UInt8
  z : Nat
  b : Nat
  gs : List Gr
  c : Int
deriving DecidableEq
/-- a manifest -/
structure Man where
  c : Nat
  k : Int
  ps : List Pay
deriving DecidableEq
def gr0 : Gr := ⟨0, 0, 0⟩
def pay0 : Pay := ⟨List.replicate 32 0, 0, 0, [], 0⟩
def man0 : Man := ⟨0, 0, []⟩
def i64ok (z : Int) : Prop := -9223372036854775808 ≤ z ∧ z ≤ 9223372036854775807
structure Gr.Wf (g : Gr) : Prop where
  s : g.s < 4294967296
  z : g.z < 4294967296
  r : i64ok g.r
structure Pay.Wf (p : Pay) : Prop where
  d : p.d.length = 32
  z : p.z < 4294967296
  b : p.b < 4294967296
  gs : ∀ g ∈ p.gs, g.Wf
  c : i64ok p.c
structure Man.Wf (m : Man) : Prop where
  c : m.c < 4294967296
  k : i64ok m.k
  ps : ∀ p ∈ m.ps, p.Wf
/-- a slice's three parts -/
structure Sl where
  A : Option Addr
  n : Nat
  c : Nat
def Sl.v (s : Sl) : Value := .slice s.A s.n s.c
/-- a grant's cells -/
def grV (g : Gr) : Nat → Value
  | 0 => .int .u32 (g.s : Int)
  | 1 => .int .u32 (g.z : Int)
  | _ => .int .i64 g.r
/-- a payload's cells, with the slice of its grants -/
def payV (p : Pay) (s : Sl) (i : Nat) : Value :=
  if i < 32 then by8 (p.d.getD i 0) else if i = 32 then .int .u32 (p.z : Int) else if i = 33 then .int .u32 (p.b : Int) else if i = 34 then s.v else .int .i64 p.c
theorem payV_z (p : Pay) (s : Sl) : payV p s 32 = .int .u32 (p.z : Int) := rfl
theorem payV_b (p : Pay) (s : Sl) : payV p s 33 = .int .u32 (p.b : Int) := rfl
theorem payV_g' (p : Pay) (A : Option Addr) (n c : Nat) : payV p ⟨A, n, c⟩ 34 = .slice A n c := rfl
theorem payV_g (p : Pay) (s : Sl) : payV p s 34 = s.v := rfl
theorem payV_c (p : Pay) (s : Sl) : payV p s 35 = .int .i64 p.c := rfl
/-- n elements of k cells each lie where the slice says -/
def SlC (w : World) (s : Sl) (k : Nat) (cs : Nat → Nat → Value) : Prop :=
  (s.n ≤ s.c ∧ s.n ≤ 140737488355328) ∧ (0 < s.n → ∃ b o, s.A = some ⟨b, o, none⟩ ∧ b < w.heap.size ∧ ∀ j i, j < s.n → i < k → w.cell? ⟨b, o + j * k + i, none⟩ = some (cs j i))
theorem SlC.below {w w' : World} {s : Sl} {k : Nat} {cs : Nat → Nat → Value} (h : SlC w s k cs) (hb : Below w.heap.size w w') : SlC w' s k cs := by
  refine ⟨h.1, fun hn => ?_⟩
  obtain ⟨b, o, e, hlt, hc⟩ := h.2 hn
  exact ⟨b, o, e, Nat.lt_of_lt_of_le hlt hb.size, fun j i hj hi => (hb.cell (p := ⟨b, o + j * k + i, none⟩) hlt).trans (hc j i hj hi)⟩
theorem SlC.grown {w w' : World} {s : Sl} {k : Nat} {cs : Nat → Nat → Value} {r : Option Nat} (h : SlC w s k cs) (kk : w.grownBy w' r) (hne : ∀ b o, s.A = some ⟨b, o, none⟩ → 0 < s.n → r ≠ some b) : SlC w' s k cs := by
  refine ⟨h.1, fun hn => ?_⟩
  obtain ⟨b, o, e, hlt, hc⟩ := h.2 hn
  refine ⟨b, o, e, Nat.lt_of_lt_of_le hlt kk.size, fun j i hj hi => ?_⟩
  have hb := kk.block b hlt (fun e2 => hne b o e hn e2.symm)
  have hcell := hc j i hj hi
  unfold World.cell? at hcell ⊢
  dsimp only at hcell ⊢
  rw [hb]
  exact hcell
theorem SlC.ext {w : World} {s : Sl} {k : Nat} {cs ds : Nat → Nat → Value} (h : SlC w s k cs) (he : ∀ j i, j < s.n → i < k → cs j i = ds j i) : SlC w s k ds := by
  refine ⟨h.1, fun hn => ?_⟩
  obtain ⟨b, o, e, hlt, hc⟩ := h.2 hn
  exact ⟨b, o, e, hlt, fun j i hj hi => by rw [← he j i hj hi]; exact hc j i hj hi⟩
/-- the slice reads as these grants -/
def SlG (w : World) (s : Sl) (gs : List Gr) : Prop := gs.length = s.n ∧ SlC w s 3 (fun j i => grV (gs.getD j gr0) i) ∧ ∀ g ∈ gs, g.Wf
/-- the slice reads as these payloads -/
def SlP (w : World) (s : Sl) (ps : List Pay) : Prop :=
  ps.length = s.n ∧ ∃ S : Nat → Sl, SlC w s 36 (fun j i => payV (ps.getD j pay0) (S j) i) ∧ ∀ j, j < s.n → SlG w (S j) (ps.getD j pay0).gs ∧ (ps.getD j pay0).Wf
def manC (m : Man) (s : Sl) : Array Value := #[.int .u32 (m.c : Int), .int .i64 m.k, s.v]
theorem manC_mk (m : Man) (A : Option Addr) (n c : Nat) : manC m ⟨A, n, c⟩ = #[.int .u32 (m.c : Int), .int .i64 m.k, .slice A n c] := rfl
theorem Sl.out (s : Sl) : ∃ A n c, s = ⟨A, n, c⟩ := ⟨_, _, _, rfl⟩
/-- the value reads as the manifest -/
def ManV (w : World) (v : Value) (m : Man) : Prop := ∃ s, v = .agg (manC m s) ∧ SlP w s m.ps ∧ m.c < 4294967296 ∧ i64ok m.k
theorem SlG.below {w w' : World} {s : Sl} {gs : List Gr} (h : SlG w s gs) (hb : Below w.heap.size w w') : SlG w' s gs := ⟨h.1, h.2.1.below hb, h.2.2⟩
theorem SlP.below {w w' : World} {s : Sl} {ps : List Pay} (h : SlP w s ps) (hb : Below w.heap.size w w') : SlP w' s ps := by
  obtain ⟨hl, S, hc, hg⟩ := h
  exact ⟨hl, S, hc.below hb, fun j hj => ⟨(hg j hj).1.below hb, (hg j hj).2⟩⟩
theorem ManV.below {w w' : World} {v : Value} {m : Man} (h : ManV w v m) (hb : Below w.heap.size w w') : ManV w' v m := by
  obtain ⟨s, e, hp, h2⟩ := h
  exact ⟨s, e, hp.below hb, h2⟩
theorem ManV.wf {w : World} {v : Value} {m : Man} (h : ManV w v m) : m.Wf := by
  obtain ⟨s, _, ⟨hl, S, _, hg⟩, hc, hk⟩ := h
  refine ⟨hc, hk, fun p hp => ?_⟩
  obtain ⟨j, hj, rfl⟩ := List.getElem_of_mem hp
  have := (hg j (by omega)).2
  simpa [List.getD_eq_getElem?_getD, hj] using this
/-- a variable of a type of many cells, laid and filled -/
theorem wp_fresh {P : Program} {w : World} {ops : Array Oper} {rest : List Oper} {o1 o2 : Oper} {a : Act} {Q : Exit → Act → World → Prop} (ty : TypeId) (n : Nat) (v z : Nat → Value) (x y : Operand)
    (hg1 : o1.guard = none) (h1 : o1.op = .alloc ty) (hg2 : o2.guard = none) (h2 : o2.op = .store ty x y)
    (hz : ∀ w, (zeroValue ty).run P w = .ok (.agg (tab n z)) w) (hi : (P.info? ty).map (·.size) = some n) (_hn : 0 < n) (h1v : ∀ j, (v j).oneCell' = true)
    (hx : (a.put o1.dst (.pointer (some ⟨w.heap.size, 0, none⟩))).eval x = .pointer (some ⟨w.heap.size, 0, none⟩)) (hy : (a.put o1.dst (.pointer (some ⟨w.heap.size, 0, none⟩))).eval y = .agg (tab n v))
    (h : ∀ w', Has w' w.heap.size ty (tab n v) → Below w.heap.size w w' → w.heap.size < w'.heap.size → wpList P ops Q rest ((a.put o1.dst (.pointer (some ⟨w.heap.size, 0, none⟩))).put o2.dst undef) w') : wpList P ops Q (o1 :: o2 :: rest) a w := by
  refine wpList_plain hg1 fun K hK => ?_
  unfold Oper.wp execOp
  simp only [h1, Instr.alloc, Sem.run_bind, hz, Result.andThen_ok]
  have hnv : (newVar ty (.agg (tab n z))).run P w = .ok ⟨w.heap.size, 0, none⟩ (w.alloc (.cells (tab n z) ty)) := by
    go_simp
  simp only [hnv, Result.andThen_ok, Sem.run_pure]
  refine hK _ _ ?_
  refine wp_store_tab hg2 ty x y h2 w.heap.size 0 hx n v hy n z ty (Has.new _ _ _) hi (by omega) h1v ?_
  intro w' hh hg
  have e : (tab n fun j => if 0 ≤ j ∧ j < 0 + n then v (j - 0) else z j) = tab n v := tab_ext _ _ _ fun j hj => by rw [if_pos ⟨Nat.zero_le _, by omega⟩]; rfl
  rw [e] at hh
  have hb1 : Below w.heap.size w (w.alloc (.cells (tab n z) ty)) := (Below.refl _ _).alloc (Nat.le_refl _) _
  have hb2 := hb1.trans (below_of_only hg (Nat.le_refl _) (by simp))
  exact h w' hh hb2 hh.lt
theorem grV_one (g : Gr) (j : Nat) : (grV g j).oneCell' = true := by unfold grV; split <;> rfl
theorem payV_one (p : Pay) (s : Sl) (j : Nat) : (payV p s j).oneCell' = true := by
  unfold payV
  split
  · rfl
  · split
    · rfl
    · split
      · rfl
      · split <;> rfl
/-- what the element lies as -/
theorem SlC.range {w : World} {s : Sl} {k : Nat} {cs : Nat → Nat → Value} (h : SlC w s k cs) {b o : Nat} (hA : s.A = some ⟨b, o, none⟩) {j : Nat} (hj : j < s.n) : w.rangeAt b (o + j * k) ((List.range k).map (cs j)) := fun i v hv => by
  have hi : i < k := by have := (List.getElem?_eq_some_iff.1 hv).1; simpa using this
  obtain ⟨b', o', e, _, hc⟩ := h.2 (by omega)
  obtain ⟨rfl, rfl⟩ : b' = b ∧ o' = o := by
    have := hA.symm.trans e
    injection this with this
    injection this with e1 e2
    exact ⟨e1.symm, e2.symm⟩
  rw [hc j i hj hi, ← hv]
  simp [hi]
end Go.Proofs.Ytegaiphhoinilaa
namespace Go.Proofs.Ytegaiphhoinilaa
open Go Go.RowKit

section
variable {P : Program} {w : World} {ops : Array Oper} {rest : List Oper} {o : Oper} {a : Act} {C : World → Prop} {L : Act → Prop}
theorem wpQ_indexAddr (t : TypeId) (x i : Operand) (ho : o.op = .indexAddr t x i) (hw : Region.wanted o (yielded ops a.tmps) = true) (X I : Value) (hx : a.eval x = X) (hi : a.eval i = I) (v : Value)
    (hrun : ∀ w, C w → (Instr.indexAt t X I).run P w = .ok v w) (h : wpQuiet P ops C L rest (a.put o.dst v)) : wpQuiet P ops C L (o :: rest) a :=
  wpQ_val hw v (fun w hC => by
    have := hrun w hC
    simp only [execOp, ho, hx, hi]
    rw [Sem.run_bind, this]
    rfl) h
theorem wpQ_load (t : TypeId) (x : Operand) (ho : o.op = .load t x) (hw : Region.wanted o (yielded ops a.tmps) = true) (X : Value) (hx : a.eval x = X) (v : Value)
    (hrun : ∀ w, C w → (Instr.loadAt t X).run P w = .ok v w) (h : wpQuiet P ops C L rest (a.put o.dst v)) : wpQuiet P ops C L (o :: rest) a :=
  wpQ_val hw v (fun w hC => by
    have := hrun w hC
    simp only [execOp, ho, hx]
    rw [Sem.run_bind, this]
    rfl) h
theorem wpQ_slice (t : TypeId) (x : Operand) (lo hi mx : Option Operand) (ho : o.op = .slice t x lo hi mx) (hw : Region.wanted o (yielded ops a.tmps) = true) (X : Value) (hx : a.eval x = X) (l h' m : Option Value) (hl : lo.map a.eval = l) (hh : hi.map a.eval = h') (hm : mx.map a.eval = m) (v : Value)
    (hrun : ∀ w, C w → (Instr.sliceAt t X l h' m).run P w = .ok v w) (h : wpQuiet P ops C L rest (a.put o.dst v)) : wpQuiet P ops C L (o :: rest) a :=
  wpQ_val hw v (fun w hC => by
    have := hrun w hC
    simp only [execOp, ho, hx, hl, hh, hm]
    rw [Sem.run_bind, this]
    rfl) h
theorem wpQ_arrayAt (t : TypeId) (x : Operand) (ho : o.op = .sliceToArrayPointer t x) (hw : Region.wanted o (yielded ops a.tmps) = true) (X : Value) (hx : a.eval x = X) (v : Value)
    (hrun : ∀ w, C w → (Instr.arrayAt t X).run P w = .ok v w) (h : wpQuiet P ops C L rest (a.put o.dst v)) : wpQuiet P ops C L (o :: rest) a :=
  wpQ_val hw v (fun w hC => by
    have := hrun w hC
    simp only [execOp, ho, hx]
    rw [Sem.run_bind, this]
    rfl) h
/-- a call, its function and its arguments told beside it -/
theorem wpQ_fn (fn : FuncId) (cs : Array Operand) (ts : Array TypeId) (ho : o.op = .call { callee := .value (.func fn), args := cs, argTypes := ts }) (hw : Region.wanted o (yielded ops a.tmps) = true) (args : Array Value) (hargs0 : cs.toList.map a.eval = args.toList) (hfn : ∀ w, (callFunc fn args).run P w = .ok (.enter fn args) w) (v : Value)
    (hc : ∀ w', C w' → Calls P fn args w' fun e w'' => e = .returned v ∧ C w'') (h : wpQuiet P ops C L rest (a.put o.dst v)) : wpQuiet P ops C L (o :: rest) a :=
  have hargs : cs.map a.eval = args := by
    apply Array.toList_inj.1
    rw [Array.toList_map]
    exact hargs0
  wpQ_call fn args hw (fun w => by
    unfold execOp
    simp only [ho]
    subst hargs
    go_simp) v hc h
end
end Go.Proofs.Ytegaiphhoinilaa
namespace Go.Proofs.Ytegaiphhoinilaa
open Go

/-- digit j of x to the base B -/
def dg (B x j : Nat) : Nat := x / B ^ j % B
theorem dg_lt {B : Nat} (h : 0 < B) (x j : Nat) : dg B x j < B := Nat.mod_lt _ h
theorem mod_step (B x k : Nat) : x % B ^ (k + 1) = x % B ^ k + B ^ k * dg B x k := Nat.mod_pow_succ
theorem dg_mod {B x j n : Nat} (h : j < n) : dg B (x % B ^ n) j = dg B x j := by
  unfold dg
  have e : B ^ n = B ^ j * B ^ (n - j) := by rw [← Nat.pow_add]; congr 1; omega
  have e2 : B ^ (n - j) = B * B ^ (n - j - 1) := by rw [← Nat.pow_succ']; congr 1; omega
  rw [e, Nat.mod_mul_right_div_self, Nat.mod_mod_of_dvd _ ⟨_, e2⟩]
theorem dg_zero (B j : Nat) : dg B 0 j = 0 := by simp [dg]
theorem dg_top {B x j n : Nat} (hB : 0 < B) (hx : x < B ^ n) (h : n ≤ j) : dg B x j = 0 := by
  unfold dg
  rw [Nat.div_eq_of_lt (Nat.lt_of_lt_of_le hx (Nat.pow_le_pow_right hB h)), Nat.zero_mod]
theorem digits_eq {B : Nat} {x y : Nat} : ∀ n, (∀ j, j < n → dg B x j = dg B y j) → x % B ^ n = y % B ^ n
  | 0, _ => by simp [Nat.mod_one]
  | n + 1, h => by rw [mod_step, mod_step, h n (by omega), digits_eq n fun j hj => h j (by omega)]
theorem digits_inj {B n x y : Nat} (hx : x < B ^ n) (hy : y < B ^ n) (h : ∀ j, j < n → dg B x j = dg B y j) : x = y := by
  have := digits_eq n h
  rwa [Nat.mod_eq_of_lt hx, Nat.mod_eq_of_lt hy] at this
/-- any digits are a number's -/
theorem digits_of {B : Nat} (hB : 0 < B) (f : Nat → Nat) : ∀ n, (∀ j, j < n → f j < B) → ∃ x, x < B ^ n ∧ ∀ j, j < n → dg B x j = f j
  | 0, _ => ⟨0, by simp, fun j hj => by omega⟩
  | n + 1, h => by
    obtain ⟨x, hx, hd⟩ := digits_of hB f n fun j hj => h j (by omega)
    have hf := h n (by omega)
    have hp : 0 < B ^ n := Nat.pow_pos hB
    have hd' : ∀ j, j < n → dg B (x + B ^ n * f n) j = f j := fun j hj => by
      rw [← hd j hj, ← dg_mod hj, Nat.add_mul_mod_self_left, dg_mod hj]
    refine ⟨x + B ^ n * f n, ?_, fun j hj => ?_⟩
    · have h1 : B ^ n * (f n + 1) ≤ B ^ n * B := Nat.mul_le_mul_left _ hf
      rw [Nat.pow_succ]
      rw [Nat.mul_add, Nat.mul_one] at h1
      omega
    · by_cases e : j = n
      · subst e
        unfold dg
        rw [Nat.add_mul_div_left _ _ hp, Nat.div_eq_of_lt hx, Nat.zero_add, Nat.mod_eq_of_lt hf]
      · exact hd' j (by omega)

/-- what is carried into digit k of a + b -/
def car (B a b k : Nat) : Nat := (a % B ^ k + b % B ^ k) / B ^ k
theorem car_zero (B a b : Nat) : car B a b 0 = 0 := by simp [car, Nat.mod_one]
theorem car_le {B : Nat} (hB : 0 < B) (a b k : Nat) : car B a b k ≤ 1 := by
  have hp : 0 < B ^ k := Nat.pow_pos hB
  have h1 := Nat.mod_lt a hp
  have h2 := Nat.mod_lt b hp
  have h3 : car B a b k < 2 := by unfold car; rw [Nat.div_lt_iff_lt_mul hp]; omega
  omega
theorem car_step {B : Nat} (hB : 0 < B) (a b k : Nat) : (dg B a k + dg B b k + car B a b k) / B = car B a b (k + 1) := by
  have hp : 0 < B ^ k := Nat.pow_pos hB
  have e : a % B ^ (k + 1) + b % B ^ (k + 1) = a % B ^ k + b % B ^ k + B ^ k * (dg B a k + dg B b k) := by rw [mod_step, mod_step, Nat.mul_add]; omega
  show _ = (a % B ^ (k + 1) + b % B ^ (k + 1)) / B ^ (k + 1)
  rw [e, Nat.pow_succ, ← Nat.div_div_eq_div_mul, Nat.add_mul_div_left _ _ hp]
  congr 1
  unfold car
  omega
theorem add_split {B : Nat} (hB : 0 < B) (a b k : Nat) : (a + b) / B ^ k = a / B ^ k + b / B ^ k + car B a b k := by
  have hp : 0 < B ^ k := Nat.pow_pos hB
  have ea := Nat.mod_add_div a (B ^ k)
  have eb := Nat.mod_add_div b (B ^ k)
  have e : a + b = a % B ^ k + b % B ^ k + B ^ k * (a / B ^ k + b / B ^ k) := by rw [Nat.mul_add]; omega
  have h : (a + b) / B ^ k = (a % B ^ k + b % B ^ k + B ^ k * (a / B ^ k + b / B ^ k)) / B ^ k := congrArg (· / B ^ k) e
  rw [Nat.add_mul_div_left _ _ hp] at h
  unfold car
  omega
theorem add_dg {B : Nat} (hB : 0 < B) (a b k : Nat) : (dg B a k + dg B b k + car B a b k) % B = dg B (a + b) k := by
  have h := add_split hB a b k
  show _ = (a + b) / B ^ k % B
  rw [h]
  unfold dg
  rw [Nat.add_mod (a / B ^ k + b / B ^ k), Nat.add_mod (a / B ^ k) (b / B ^ k), Nat.add_mod (a / B ^ k % B + b / B ^ k % B)]
theorem car_end {B n a b : Nat} (ha : a < B ^ n) (hb : b < B ^ n) : car B a b n = (a + b) / B ^ n := by
  unfold car; rw [Nat.mod_eq_of_lt ha, Nat.mod_eq_of_lt hb]

/-- what is borrowed for digit k of a - b -/
def bor (B a b k : Nat) : Nat := if a % B ^ k < b % B ^ k then 1 else 0
theorem bor_zero (B a b : Nat) : bor B a b 0 = 0 := by simp [bor, Nat.mod_one]
theorem bor_le (B a b k : Nat) : bor B a b k ≤ 1 := by unfold bor; split <;> omega
theorem bor_step {B : Nat} (hB : 0 < B) (a b k : Nat) : (if dg B a k < dg B b k + bor B a b k then 1 else 0) = bor B a b (k + 1) := by
  have hp : 0 < B ^ k := Nat.pow_pos hB
  have h1 := Nat.mod_lt a hp
  have h2 := Nat.mod_lt b hp
  show _ = if a % B ^ (k + 1) < b % B ^ (k + 1) then 1 else 0
  rw [mod_step, mod_step]
  have key : ∀ x y : Nat, x < y → B ^ k * x + B ^ k ≤ B ^ k * y := fun x y h => by rw [← Nat.mul_succ]; exact Nat.mul_le_mul_left _ h
  unfold bor
  generalize a % B ^ k = ra at *
  generalize b % B ^ k = rb at *
  rcases Nat.lt_trichotomy (dg B a k) (dg B b k) with h | h | h
  · have := key _ _ h
    rw [if_pos (show _ < _ by omega), if_pos (by omega)]
  · rw [h]
    by_cases c : ra < rb
    · rw [if_pos c, if_pos (by omega), if_pos (by omega)]
    · rw [if_neg c, if_neg (by omega), if_neg (by omega)]
  · have := key _ _ h
    have hbl : (if ra < rb then 1 else 0) ≤ 1 := by split <;> omega
    rw [if_neg (by omega), if_neg (by omega)]
/-- a less b, beyond the highest place -/
theorem car_bor {B a b d k : Nat} (hB : 0 < B) (h : (d + b) % B ^ k = a % B ^ k) : car B d b k = bor B a b k := by
  have hp : 0 < B ^ k := Nat.pow_pos hB
  have h1 := Nat.mod_lt a hp
  have h2 := Nat.mod_lt b hp
  have h3 := Nat.mod_lt d hp
  have hc := car_le hB d b k
  rw [Nat.add_mod] at h
  have hs := Nat.mod_add_div (d % B ^ k + b % B ^ k) (B ^ k)
  rw [h] at hs
  unfold car at hc ⊢
  unfold bor
  generalize (d % B ^ k + b % B ^ k) / B ^ k = c at *
  generalize a % B ^ k = ra at *
  generalize b % B ^ k = rb at *
  generalize d % B ^ k = rd at *
  generalize B ^ k = P at *
  rcases (show c = 0 ∨ c = 1 by omega) with rfl | rfl
  · rw [Nat.mul_zero] at hs; rw [if_neg (by omega)]
  · rw [Nat.mul_one] at hs; rw [if_pos (by omega)]
theorem sub_dg {B n a b k : Nat} (hB : 0 < B) (hk : k < n) (hb : b < B ^ n) : (dg B a k + 2 * B - dg B b k - bor B a b k) % B = dg B (a + B ^ n - b) k := by
  obtain ⟨d, hd⟩ : ∃ d, d = a + B ^ n - b := ⟨_, rfl⟩
  rw [← hd]
  have e : d + b = a + B ^ n := by omega
  have hm : ∀ j, j ≤ n → (d + b) % B ^ j = a % B ^ j := fun j hj => by
    rw [e]
    have e2 : B ^ n = B ^ j * B ^ (n - j) := by rw [← Nat.pow_add]; congr 1; omega
    rw [e2, Nat.add_mul_mod_self_left]
  have hc := car_bor (k := k) hB (hm k (by omega))
  have hdg : dg B (d + b) k = dg B a k := by rw [← dg_mod (x := d + b) hk, hm n (by omega), dg_mod hk]
  have h := add_dg hB d b k
  rw [hdg, hc] at h
  have hx := dg_lt hB d k
  have hy := dg_lt hB b k
  have hz := dg_lt hB a k
  have hl := bor_le B a b k
  generalize bor B a b k = c at *
  generalize dg B a k = x at *
  generalize dg B b k = y at *
  generalize dg B d k = z at *
  by_cases hlt : z + y + c < B
  · rw [Nat.mod_eq_of_lt hlt] at h
    have e3 : x + 2 * B - y - c = z + B * 2 := by omega
    rw [e3, Nat.add_mul_mod_self_left, Nat.mod_eq_of_lt hx]
  · have e4 : z + y + c = z + y + c - B + B := by omega
    rw [e4, Nat.add_mod_right, Nat.mod_eq_of_lt (by omega)] at h
    have e3 : x + 2 * B - y - c = z + B := by omega
    rw [e3, Nat.add_mod_right, Nat.mod_eq_of_lt hx]
theorem bor_end {B n a b : Nat} (ha : a < B ^ n) (hb : b < B ^ n) : bor B a b n = if a < b then 1 else 0 := by
  unfold bor; rw [Nat.mod_eq_of_lt ha, Nat.mod_eq_of_lt hb]

/-- n digits as the model's values -/
def dgs (ik : IntKind) (B x : Nat) (j : Nat) : Value := .int ik ((dg B x j : Nat) : Int)
theorem dgs_set {ik : IntKind} {B x k n : Nat} (hB : 0 < B) (_h : k < n) : (tab n (dgs ik B (x % B ^ k))).setIfInBounds k (.int ik ((dg B x k : Nat) : Int)) = tab n (dgs ik B (x % B ^ (k + 1))) := by
  rw [tab_set]
  apply tab_ext
  intro j hj
  unfold dgs
  by_cases e : j = k
  · rw [if_pos e, e, dg_mod (by omega)]
  · rw [if_neg e]
    by_cases l : j < k
    · rw [dg_mod l, dg_mod (by omega)]
    · rw [dg_top hB (Nat.mod_lt _ (Nat.pow_pos hB)) (by omega), dg_top hB (Nat.mod_lt _ (Nat.pow_pos hB)) (show k + 1 ≤ j by omega)]
theorem dgs_mod {ik : IntKind} {B x n : Nat} : tab n (dgs ik B (x % B ^ n)) = tab n (dgs ik B x) := tab_ext _ _ _ fun j hj => by unfold dgs; rw [dg_mod hj]
theorem dgs_start {ik : IntKind} {B x n : Nat} : tab n (dgs ik B (x % B ^ 0)) = tab n fun _ => .int ik 0 := tab_ext _ _ _ fun j _ => by simp [dgs, Nat.mod_one, dg_zero]
theorem dg_dg {b m x q r : Nat} (hr : r < m) : dg b (dg (b ^ m) x q) r = dg b x (m * q + r) := by
  have e : b ^ m = b ^ r * b ^ (m - r) := by rw [← Nat.pow_add]; congr 1; omega
  have e2 : b ^ (m - r) = b * b ^ (m - r - 1) := by rw [← Nat.pow_succ']; congr 1; omega
  have h1 : ∀ z : Nat, z % b ^ m / b ^ r % b = z / b ^ r % b := fun z => by rw [e, Nat.mod_mul_right_div_self, Nat.mod_mod_of_dvd _ ⟨_, e2⟩]
  unfold dg
  rw [h1, ← Nat.pow_mul, Nat.div_div_eq_div_mul, ← Nat.pow_add]
/-- what is left of x above m digits -/
theorem dg_cut {B : Nat} (hB : 0 < B) (x m i : Nat) : dg B (x / B ^ m * B ^ m) i = if m ≤ i then dg B x i else 0 := by
  unfold dg
  by_cases h : m ≤ i
  · rw [if_pos h]
    have e : B ^ i = B ^ m * B ^ (i - m) := by rw [← Nat.pow_add]; congr 1; omega
    rw [e, ← Nat.div_div_eq_div_mul, Nat.mul_div_cancel _ (Nat.pow_pos hB), Nat.div_div_eq_div_mul]
  · rw [if_neg h]
    have e : B ^ m = B * B ^ (m - i - 1) * B ^ i := by rw [← Nat.pow_succ', ← Nat.pow_add]; congr 1; omega
    rw [e, ← Nat.mul_assoc, Nat.mul_div_cancel _ (Nat.pow_pos hB), ← Nat.mul_assoc, Nat.mul_comm _ B, Nat.mul_assoc, Nat.mul_mod_right]
theorem cut_step (B x m : Nat) : x / B ^ m * B ^ m = x / B ^ (m + 1) * B ^ (m + 1) + dg B x m * B ^ m := by
  unfold dg
  have h := Nat.mod_add_div (x / B ^ m) B
  have e : x / B ^ (m + 1) = x / B ^ m / B := by rw [Nat.pow_succ, Nat.div_div_eq_div_mul]
  rw [e, Nat.pow_succ]
  generalize x / B ^ m = t at *
  have e2 : t / B * (B ^ m * B) = B * (t / B) * B ^ m := by rw [Nat.mul_comm B (t / B), Nat.mul_assoc, Nat.mul_comm B]
  rw [e2, ← Nat.add_mul, Nat.add_comm (B * (t / B)), h]
end Go.Proofs.Ytegaiphhoinilaa
namespace Go.Proofs.Ytegaiphhoinilaa
open Go

theorem acc_here {b m : Nat} (hb : 0 < b) (x k : Nat) : (dg (b ^ m) (x % b ^ k) (k / m) + dg b x k * b ^ (k % m) % b ^ m) % b ^ m = dg (b ^ m) (x % b ^ (k + 1)) (k / m) := by
  have hk : b ^ k = (b ^ m) ^ (k / m) * b ^ (k % m) := by rw [← Nat.pow_mul, ← Nat.pow_add, Nat.div_add_mod]
  rw [mod_step b x k, hk]
  unfold dg
  rw [Nat.mul_assoc, Nat.add_mul_div_left _ _ (Nat.pow_pos (Nat.pow_pos hb)), Nat.add_mod, Nat.mod_mod, Nat.mod_mod, ← Nat.add_mod, Nat.mul_comm (b ^ (k % m))]
theorem acc_other {b m : Nat} (hb : 0 < b) (hm : 0 < m) (x k j : Nat) (h : j ≠ k / m) : dg (b ^ m) (x % b ^ (k + 1)) j = dg (b ^ m) (x % b ^ k) j := by
  have hp : 0 < b ^ m := Nat.pow_pos hb
  refine digits_inj (B := b) (n := m) (dg_lt hp _ _) (dg_lt hp _ _) fun r hr => ?_
  rw [dg_dg hr, dg_dg hr]
  have hne : m * j + r ≠ k := fun e => h (by rw [← e, Nat.mul_add_div hm, Nat.div_eq_of_lt hr, Nat.add_zero])
  by_cases hlt : m * j + r < k
  · rw [dg_mod (by omega), dg_mod hlt]
  · rw [dg_top hb (Nat.mod_lt _ (Nat.pow_pos hb)) (show k + 1 ≤ m * j + r by omega), dg_top hb (Nat.mod_lt _ (Nat.pow_pos hb)) (show k ≤ m * j + r by omega)]

/-- s a + c: what is carried into digit k -/
def carL (B s a c k : Nat) : Nat := (s * (a % B ^ k) + c) / B ^ k
theorem carL_zero (B s a c : Nat) : carL B s a c 0 = c := by simp [carL, Nat.mod_one]
theorem carL_step {B : Nat} (hB : 0 < B) (s a c k : Nat) : (s * dg B a k + carL B s a c k) / B = carL B s a c (k + 1) := by
  have hp : 0 < B ^ k := Nat.pow_pos hB
  unfold carL
  have e : s * (a % B ^ (k + 1)) + c = s * (a % B ^ k) + c + B ^ k * (s * dg B a k) := by
    rw [mod_step, Nat.mul_add, ← Nat.mul_assoc, Nat.mul_comm s (B ^ k), Nat.mul_assoc]; omega
  rw [e, Nat.pow_succ, ← Nat.div_div_eq_div_mul, Nat.add_mul_div_left _ _ hp, Nat.add_comm (s * dg B a k)]
theorem carL_dg {B : Nat} (hB : 0 < B) (s a c k : Nat) : (s * dg B a k + carL B s a c k) % B = dg B (s * a + c) k := by
  have hp : 0 < B ^ k := Nat.pow_pos hB
  have ea := Nat.mod_add_div a (B ^ k)
  have e : s * a + c = s * (a % B ^ k) + c + B ^ k * (s * (a / B ^ k)) := by
    have h : s * a = s * (a % B ^ k) + s * (B ^ k * (a / B ^ k)) := by rw [← Nat.mul_add, ea]
    rw [h, ← Nat.mul_assoc s, Nat.mul_comm s (B ^ k), Nat.mul_assoc]; omega
  have h : (s * a + c) / B ^ k = carL B s a c k + s * (a / B ^ k) := by rw [e, Nat.add_mul_div_left _ _ hp]; rfl
  show _ = (s * a + c) / B ^ k % B
  rw [h]
  unfold dg
  rw [Nat.add_comm, Nat.add_mod, Nat.mul_mod s, Nat.mod_mod, ← Nat.mul_mod, ← Nat.add_mod]
theorem carL_end {B n s a c : Nat} (ha : a < B ^ n) : carL B s a c n = (s * a + c) / B ^ n := by
  unfold carL; rw [Nat.mod_eq_of_lt ha]

/-- digit j is d -/
def setDig (B V j d : Nat) : Nat := V % B ^ j + (d + V / B ^ (j + 1) * B) * B ^ j
theorem setDig_dg {B : Nat} (hB : 0 < B) (V j d i : Nat) (hd : d < B) : dg B (setDig B V j d) i = if i = j then d else dg B V i := by
  have hp : 0 < B ^ j := Nat.pow_pos hB
  unfold setDig
  rcases Nat.lt_trichotomy i j with h | h | h
  · rw [if_neg (by omega), ← dg_mod h, Nat.add_mul_mod_self_right, dg_mod (x := V % B ^ j) h, dg_mod h]
  · subst h
    rw [if_pos rfl]
    unfold dg
    rw [Nat.add_mul_div_right _ _ hp, Nat.div_eq_of_lt (Nat.mod_lt _ hp), Nat.zero_add, Nat.add_mul_mod_self_right, Nat.mod_eq_of_lt hd]
  · rw [if_neg (by omega)]
    unfold dg
    have e : B ^ i = B ^ j * B * B ^ (i - j - 1) := by rw [← Nat.pow_succ, ← Nat.pow_add]; congr 1; omega
    rw [e, ← Nat.div_div_eq_div_mul, ← Nat.div_div_eq_div_mul, Nat.add_mul_div_right _ _ hp, Nat.div_eq_of_lt (Nat.mod_lt _ hp), Nat.zero_add, Nat.add_mul_div_right _ _ hB, Nat.div_eq_of_lt hd, Nat.zero_add, ← Nat.div_div_eq_div_mul V, Nat.pow_succ]
theorem setDig_eq {B : Nat} (_hB : 0 < B) (V j d : Nat) : setDig B V j d + dg B V j * B ^ j = V + d * B ^ j := by
  have e : V / B ^ (j + 1) * B + dg B V j = V / B ^ j := by
    unfold dg
    rw [Nat.pow_succ, ← Nat.div_div_eq_div_mul, Nat.mul_comm]
    exact Nat.div_add_mod _ _
  have h := Nat.mod_add_div V (B ^ j)
  unfold setDig
  rw [Nat.add_mul]
  have h2 : V / B ^ (j + 1) * B * B ^ j + dg B V j * B ^ j = B ^ j * (V / B ^ j) := by rw [← Nat.add_mul, e, Nat.mul_comm]
  omega
theorem setDig_lt {B n V j d : Nat} (hB : 0 < B) (hV : V < B ^ n) (hj : j < n) (hd : d < B) : setDig B V j d < B ^ n := by
  have hp : 0 < B ^ j := Nat.pow_pos hB
  have e : B ^ n = B ^ (n - j - 1) * B * B ^ j := by rw [← Nat.pow_succ, ← Nat.pow_add]; congr 1; omega
  have hq : V / B ^ (j + 1) < B ^ (n - j - 1) := by
    rw [Nat.div_lt_iff_lt_mul (Nat.pow_pos hB), ← Nat.pow_add, show n - j - 1 + (j + 1) = n by omega]; exact hV
  have h1 : d + V / B ^ (j + 1) * B + 1 ≤ B ^ (n - j - 1) * B := by
    have : (V / B ^ (j + 1) + 1) * B ≤ B ^ (n - j - 1) * B := Nat.mul_le_mul_right _ hq
    rw [Nat.add_mul, Nat.one_mul] at this
    omega
  have h2 : (d + V / B ^ (j + 1) * B + 1) * B ^ j ≤ B ^ (n - j - 1) * B * B ^ j := Nat.mul_le_mul_right _ h1
  rw [Nat.add_mul, Nat.one_mul] at h2
  have h3 := Nat.mod_lt V hp
  rw [e]
  unfold setDig
  omega
theorem dgs_setDig {ik : IntKind} {B n V j d : Nat} (hB : 0 < B) (hd : d < B) : (tab n (dgs ik B V)).setIfInBounds j (.int ik (d : Int)) = tab n (dgs ik B (setDig B V j d)) := by
  rw [tab_set]
  apply tab_ext
  intro i _
  unfold dgs
  rw [setDig_dg hB V j d i hd]
  by_cases h : i = j
  · rw [if_pos h, if_pos h]
  · rw [if_neg h, if_neg h]
theorem dgs_congr {ik : IntKind} {B n x y : Nat} (h : x % B ^ n = y % B ^ n) : tab n (dgs ik B x) = tab n (dgs ik B y) := by
  rw [← dgs_mod (x := x), ← dgs_mod (x := y), h]
theorem half_dg {H : Nat} (hH : 0 < H) (t i : Nat) : dg (2 * H) (t / 2) i = dg (2 * H) t i / 2 + dg (2 * H) t (i + 1) % 2 * H := by
  have hp : 0 < (2 * H) ^ i := Nat.pow_pos (by omega)
  unfold dg
  rw [Nat.div_div_eq_div_mul, Nat.mul_comm 2, ← Nat.div_div_eq_div_mul, Nat.pow_succ, ← Nat.div_div_eq_div_mul]
  generalize t / (2 * H) ^ i = q
  have h1 : q = q % (2 * H) + 2 * H * (q / (2 * H)) := (Nat.mod_add_div q (2 * H)).symm
  obtain ⟨r, hr⟩ : ∃ r, r = q % (2 * H) := ⟨_, rfl⟩
  obtain ⟨u, hu⟩ : ∃ u, u = q / (2 * H) := ⟨_, rfl⟩
  rw [← hr, ← hu] at h1 ⊢
  have hrl : r < 2 * H := by rw [hr]; exact Nat.mod_lt _ (by omega)
  have e2 : q / 2 = r / 2 + H * u := by rw [h1, Nat.mul_assoc, Nat.add_mul_div_left _ _ (by decide)]
  have h3 := Nat.mod_add_div u 2
  have h4 : u % (2 * H) % 2 = u % 2 := Nat.mod_mul_right_mod u 2 H
  rw [h4, e2]
  have e5 : H * u = u % 2 * H + 2 * H * (u / 2) := by
    have : H * u = H * (u % 2 + 2 * (u / 2)) := by rw [h3]
    rw [this, Nat.mul_add, ← Nat.mul_assoc, Nat.mul_comm H 2, Nat.mul_comm H (u % 2)]
  have hb : u % 2 < 2 := Nat.mod_lt _ (by decide)
  have hb2 : u % 2 * H ≤ 1 * H := Nat.mul_le_mul_right _ (by omega)
  rw [e5, ← Nat.add_assoc, Nat.add_mul_mod_self_left, Nat.mod_eq_of_lt (by omega)]
theorem div_stepB (B x k : Nat) : x / B ^ k = B * (x / B ^ (k + 1)) + dg B x k := by
  unfold dg
  rw [Nat.pow_succ, ← Nat.div_div_eq_div_mul]
  exact (Nat.div_add_mod _ _).symm
theorem less_dig (B x y k : Nat) (h : x / B ^ (k + 1) = y / B ^ (k + 1)) (hne : dg B x k ≠ dg B y k) : decide (x < y) = decide (dg B x k < dg B y k) := by
  have ex := div_stepB B x k
  have ey := div_stepB B y k
  rw [← h] at ey
  by_cases hl : dg B x k < dg B y k
  · rw [decide_eq_true hl, decide_eq_true]
    exact Nat.lt_of_div_lt_div (c := B ^ k) (by omega)
  · rw [decide_eq_false hl, decide_eq_false]
    have : y < x := Nat.lt_of_div_lt_div (c := B ^ k) (by omega)
    omega
/-- a chain of doublings: the bits from k on -/
theorem twice_step (a m k : Nat) : (2 * (a / 2 ^ (k + 1) % m) + a / 2 ^ k % 2) % m = a / 2 ^ k % m := by
  have h : a / 2 ^ k = 2 * (a / 2 ^ (k + 1)) + a / 2 ^ k % 2 := by
    rw [Nat.pow_succ, ← Nat.div_div_eq_div_mul]
    exact (Nat.div_add_mod _ _).symm
  conv => rhs; rw [h]
  rw [Nat.add_mod, Nat.mul_mod, Nat.mod_mod, ← Nat.mul_mod, ← Nat.add_mod]
end Go.Proofs.Ytegaiphhoinilaa
namespace Go.Proofs.Ytegaiphhoinilaa
open Go Go.RowKit

structure WQ (P : Program) (ops : Array Oper) (C : World → Prop) (L : Act → Prop) (rest : List Oper) (a : Act) : Prop where
  out : wpQuiet P ops C L rest a
section
variable {P : Program} {ops : Array Oper} {C : World → Prop} {L : Act → Prop} {rest rest' : List Oper} {a a' : Act} {o : Oper}
theorem WQ.lift (h : wpQuiet P ops C L rest a → wpQuiet P ops C L rest' a') (k : WQ P ops C L rest a) : WQ P ops C L rest' a' := ⟨h k.out⟩
theorem WQ.skip (hw : Region.wanted o (yielded ops a.tmps) = false) (k : WQ P ops C L rest (a.put o.dst undef)) : WQ P ops C L (o :: rest) a := ⟨BigFrame.wpQuiet_skip hw k.out⟩
end
theorem setRow_same {w : World} {g : Nat} {t : TypeId} {cs : Array Value} (h : Has w g t cs) : w.setRow g cs = w := by
  have hl : g < w.heap.size := h.lt
  have hg : w.heap[g]? = some (.cells cs t (0, 0)) := h
  have e : (w.setRow g cs).heap = w.heap := by
    unfold World.setRow
    apply Array.ext (by simp)
    intro i h1 h2
    dsimp only
    rw [Array.getElem_modify]
    by_cases hi : g = i
    · subst hi
      have h3 : w.heap[g] = .cells cs t (0, 0) := by
        rw [Array.getElem?_eq_getElem h2] at hg
        exact Option.some.inj hg
      rw [if_pos rfl, h3]
    · rw [if_neg hi]
  show { w with heap := (w.setRow g cs).heap } = w
  rw [e]
section
variable {P : Program} {ops : Array Oper} {C : World → Prop} {L : Act → Prop} {rest : List Oper} {a : Act} {o : Oper}
/-- a store of what lies there already -/
theorem wpQ_same (ty : TypeId) (x y : Operand) (ho : o.op = .store ty x y) (hw : Region.wanted o (yielded ops a.tmps) = true) (g : Nat) (hx : a.eval x = .pointer (some ⟨g, 0, none⟩)) (cells : Array Value) (hy : a.eval y = .agg cells)
    (t : TypeId) (hg : ∀ w', C w' → Has w' g t cells) (hi : (P.info? ty).map (·.size) = some cells.size) (h1 : cells.all (·.oneCell') = true)
    (h : wpQuiet P ops C L rest (a.put o.dst undef)) : wpQuiet P ops C L (o :: rest) a :=
  wpQuiet_step fun K hK => by
    rw [if_pos hw]
    refine ⟨undef, fun w hC => ?_, hK _ h⟩
    have hr : (execOp a.eval o).run P w = .ok .skip w := by
      unfold execOp
      simp only [ho, hx, hy, Instr.storeAt, Instr.sureAddr, Sem.run_bind, Sem.run_pure, Result.andThen_ok, run_storeVar_row w g t ty cells cells (hg w hC) hi rfl h1]
      rw [setRow_same (hg w hC)]
    unfold Oper.quietAt
    rw [hr]
    exact ⟨rfl, rfl⟩
theorem region_quiet_all {id : Nat} {Q : Exit → Act → World → Prop} {a : Act} {w : World} {l : List Oper} (C : World → Prop) (hm : P.follows .mixedOrders = true) (hB : Region.lexB .any l.toArray = true)
    (hC : C { w with drawn := w.drawn + 1 }) (h : wpQuiet P l.toArray C (fun a' => ∀ w', C w' → Q .normal a' w') l a) : (Code.region id l.toArray true).wp P Q a w :=
  wp_region_quiet (C := C) hm hB hC (by simpa using h)
end
theorem zero32b : (#[Value.int IntKind.u8 0, Value.int IntKind.u8 0, Value.int IntKind.u8 0, Value.int IntKind.u8 0, Value.int IntKind.u8 0, Value.int IntKind.u8 0, Value.int IntKind.u8 0, Value.int IntKind.u8 0, Value.int IntKind.u8 0, Value.int IntKind.u8 0, Value.int IntKind.u8 0, Value.int IntKind.u8 0, Value.int IntKind.u8 0, Value.int IntKind.u8 0, Value.int IntKind.u8 0, Value.int IntKind.u8 0, Value.int IntKind.u8 0, Value.int IntKind.u8 0, Value.int IntKind.u8 0, Value.int IntKind.u8 0, Value.int IntKind.u8 0, Value.int IntKind.u8 0, Value.int IntKind.u8 0, Value.int IntKind.u8 0, Value.int IntKind.u8 0, Value.int IntKind.u8 0, Value.int IntKind.u8 0, Value.int IntKind.u8 0, Value.int IntKind.u8 0, Value.int IntKind.u8 0, Value.int IntKind.u8 0, Value.int IntKind.u8 0] : Array Value) = tab 32 fun _ => .int .u8 0 := by kernel_rfl
end Go.Proofs.Ytegaiphhoinilaa
