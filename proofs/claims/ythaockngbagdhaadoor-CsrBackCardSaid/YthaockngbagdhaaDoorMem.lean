/-
Memory: a block that is known whole, and arrays given by a function of the place.
-/
import Derived.Test.YthaockngbagdhaaDoorRows
import Derived.WalkKit
import Derived.Laws.Rows
import Derived.Deep.Draws
import Derived.KernelRfl
namespace Go.Proofs.YthaockngbagdhaaDoor
open Go Go.RowKit

/-- n values, the j-th is f j -/
def tab (n : Nat) (f : Nat → Value) : Array Value := ((List.range n).map f).toArray
theorem tab_size (n : Nat) (f : Nat → Value) : (tab n f).size = n := by simp [tab]
theorem tab_get (n : Nat) (f : Nat → Value) (i : Nat) (h : i < n) : (tab n f)[i]? = some (f i) := by simp [tab, h]
theorem tab_ext (n : Nat) (f g : Nat → Value) (h : ∀ j, j < n → f j = g j) : tab n f = tab n g := by
  unfold tab; congr 1; apply List.map_congr_left; intro j hj; exact h j (by simpa using hj)
theorem tab_set (n : Nat) (f : Nat → Value) (i : Nat) (v : Value) : (tab n f).setIfInBounds i v = tab n (fun j => if j = i then v else f j) := by
  apply Array.ext
  · simp [tab]
  · intro j h1 h2
    simp only [tab, List.setIfInBounds_toArray, List.getElem_toArray, List.getElem_set, List.getElem_map, List.getElem_range]
    simp only [eq_comm]

/-- a word as the model's value -/
def zeroW : Nat → Value := fun _ => .int .u32 0
theorem zeros64 : (#[Value.int IntKind.u32 0, Value.int IntKind.u32 0, Value.int IntKind.u32 0, Value.int IntKind.u32 0, Value.int IntKind.u32 0, Value.int IntKind.u32 0, Value.int IntKind.u32 0, Value.int IntKind.u32 0, Value.int IntKind.u32 0, Value.int IntKind.u32 0, Value.int IntKind.u32 0, Value.int IntKind.u32 0, Value.int IntKind.u32 0, Value.int IntKind.u32 0, Value.int IntKind.u32 0, Value.int IntKind.u32 0, Value.int IntKind.u32 0, Value.int IntKind.u32 0, Value.int IntKind.u32 0, Value.int IntKind.u32 0, Value.int IntKind.u32 0, Value.int IntKind.u32 0, Value.int IntKind.u32 0, Value.int IntKind.u32 0, Value.int IntKind.u32 0, Value.int IntKind.u32 0, Value.int IntKind.u32 0, Value.int IntKind.u32 0, Value.int IntKind.u32 0, Value.int IntKind.u32 0, Value.int IntKind.u32 0, Value.int IntKind.u32 0, Value.int IntKind.u32 0, Value.int IntKind.u32 0, Value.int IntKind.u32 0, Value.int IntKind.u32 0, Value.int IntKind.u32 0, Value.int IntKind.u32 0, Value.int IntKind.u32 0, Value.int IntKind.u32 0, Value.int IntKind.u32 0, Value.int IntKind.u32 0, Value.int IntKind.u32 0, Value.int IntKind.u32 0, Value.int IntKind.u32 0, Value.int IntKind.u32 0, Value.int IntKind.u32 0, Value.int IntKind.u32 0, Value.int IntKind.u32 0, Value.int IntKind.u32 0, Value.int IntKind.u32 0, Value.int IntKind.u32 0, Value.int IntKind.u32 0, Value.int IntKind.u32 0, Value.int IntKind.u32 0, Value.int IntKind.u32 0, Value.int IntKind.u32 0, Value.int IntKind.u32 0, Value.int IntKind.u32 0, Value.int IntKind.u32 0, Value.int IntKind.u32 0, Value.int IntKind.u32 0, Value.int IntKind.u32 0, Value.int IntKind.u32 0] : Array Value) = tab 64 zeroW := by kernel_rfl
theorem zeros8 : (#[Value.int IntKind.u32 0, Value.int IntKind.u32 0, Value.int IntKind.u32 0, Value.int IntKind.u32 0, Value.int IntKind.u32 0, Value.int IntKind.u32 0, Value.int IntKind.u32 0, Value.int IntKind.u32 0] : Array Value) = tab 8 zeroW := by kernel_rfl

/-- block g of w holds just the cells cs of type t, none frozen -/
def Has (w : World) (g : Nat) (t : TypeId) (cs : Array Value) : Prop := w.heap[g]? = some (.cells cs t (0, 0))

section
variable {w w' : World} {g : Nat} {t : TypeId} {cs : Array Value}
theorem Has.lt (h : Has w g t cs) : g < w.heap.size := by
  by_cases c : g < w.heap.size
  · exact c
  · have : w.heap[g]? = none := by simp; omega
    unfold Has at h; rw [this] at h; cases h
theorem Has.cell (h : Has w g t cs) (i : Nat) : w.cell? ⟨g, i, none⟩ = cs[i]? := cell_of_row w g i cs t (0, 0) h
theorem Has.cellTab {n : Nat} {f : Nat → Value} (h : Has w g t (tab n f)) (i : Nat) (hi : i < n) : w.cell? ⟨g, i, none⟩ = some (f i) := by
  rw [h.cell, tab_get n f i hi]
theorem Has.free (h : Has w g t cs) (i : Nat) : w.frozen? ⟨g, i, none⟩ = false := frozen_of_row w g i cs t h
theorem Has.new (w : World) (t : TypeId) (cs : Array Value) : Has (w.alloc (.cells cs t)) w.heap.size t cs := heap_alloc_new w _
theorem Has.new' (h : g = w.heap.size) : Has (w.alloc (.cells cs t)) g t cs := by subst h; exact Has.new w t cs
theorem Has.alloc (h : Has w g t cs) (o : Obj) : Has (w.alloc o) g t cs := (Below.heap_alloc w o g h.lt).trans h
theorem Has.drew (h : Has w g t cs) : Has w.drew g t cs := h
theorem Has.drewN (h : Has w g t cs) (n : Nat) : Has (w.drewN n) g t cs := h
theorem Has.set (h : Has w g t cs) (i : Nat) (v : Value) : Has (w.setCell ⟨g, i, none⟩ v) g t (cs.setIfInBounds i v) := heap_setCell_same w g i cs t v h
theorem Has.far (h : Has w g t cs) {a : Addr} (ha : g ≠ a.block) (v : Value) : Has (w.setCell a v) g t cs := (heap_setCell_other w a g v ha).trans h
theorem Has.below {B : Nat} (h : Has w g t cs) (hb : Below B w w') (hg : g < B) : Has w' g t cs := (hb.block g hg).trans h
theorem Has.setRow (h : Has w g t cs) (cs' : Array Value) : Has (w.setRow g cs') g t cs' := setRow_heap w g cs cs' t (0, 0) h
theorem Has.farRow (h : Has w g t cs) {k : Nat} (hk : g ≠ k) (cs' : Array Value) : Has (w.setRow k cs') g t cs := (setRow_other w k g cs' hk).trans h
end
theorem below_drewN {B : Nat} {a w : World} (h : Below B a w) (n : Nat) : Below B a (w.drewN n) := ⟨h.os, h.tape, h.output, h.size, h.block⟩
theorem below_setRow {B : Nat} {a w : World} (h : Below B a w) {g : Nat} (hg : B ≤ g) (cs : Array Value) : Below B a (w.setRow g cs) :=
  ⟨h.os, h.tape, h.output, by simpa using h.size, fun i hi => (setRow_other w g i cs (by omega)).trans (h.block i hi)⟩
/-- 'x[k]' of an array by value -/
theorem run_index_tab {P : Program} (t e : TypeId) (n : Nat) (ik : IntKind) (i : TypeInfo) (f : Nat → Value) (hu : P.underlying t = some (.array n e)) (he : P.underlying e = some (.int ik))
    (hi : P.info? e = some i) (hs : i.size = 1) (kd : IntKind) (k : Nat) (hk : k < n) (w : World) :
    (Instr.index t (.agg (tab n f)) (.int kd (k : Int))).run P w = .ok (f k) w := by
  have h0 : (0 : Int) ≤ (k : Int) ∧ (k : Int) < (n : Int) := by omega
  simp [Instr.index, run_underlying hu, run_underlying he, asIntOf, h0, part, isAgg, sizeOf, typeInfo, hi, hs, tab_get n f k hk, go_sem, hk]
/-- a part of a block is overwritten -/
theorem tab_splice (n : Nat) (f v : Nat → Value) (o m : Nat) (h : o + m ≤ n) :
    ((tab n f).toList.take o ++ ((List.range m).map v ++ (tab n f).toList.drop (o + m))).toArray = tab n (fun j => if o ≤ j ∧ j < o + m then v (j - o) else f j) := by
  unfold tab
  congr 1
  apply List.ext_getElem
  · simp; omega
  · intro j h1 h2
    have hj : j < n := by simpa using h2
    simp only [List.getElem_append, List.getElem_take, List.getElem_map, List.getElem_range, List.getElem_drop, List.length_take, List.length_map, List.length_range, Nat.min_eq_left (show o ≤ n by omega)]
    by_cases h3 : j < o
    · rw [dif_pos h3, if_neg (by omega)]
    · rw [dif_neg h3]
      by_cases h4 : j < o + m
      · rw [dif_pos (by omega), if_pos (by omega)]
      · rw [dif_neg (by omega), if_neg (by omega)]
        congr 1
        omega
theorem tab_toList (n : Nat) (f : Nat → Value) : (tab n f).toList = (List.range n).map f := by simp [tab]
theorem tab_oneCell (n : Nat) (f : Nat → Value) (h : ∀ j, (f j).oneCell' = true) : (tab n f).all (·.oneCell') = true := by
  simp [tab, h]

end Go.Proofs.YthaockngbagdhaaDoor
