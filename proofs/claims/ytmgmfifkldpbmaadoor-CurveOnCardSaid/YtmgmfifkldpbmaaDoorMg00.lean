/-
Memory: a block that is known whole, and arrays given by a function of the place.
Digits of a natural number to any base, sums and differences by digits, with what is carried and borrowed.
More on digits: a number built up digit by digit in words of a greater base, twice a number, a digit set anew, half a number.
A region that draws its order, whose operations up to a tail only read or call quietly (in a class of worlds), and whose tail comes in one order: one walk in the order of the text.
Memory, continued: only one block changes; whole arrays loaded, stored, copied in the middle of a block; the steps of a region that only reads, in a class of worlds.
Numbers of eight words: a number as the model's value.
Laws for whole arrays: a load under a guard, in a list of operations and in a region that only reads.
The reference of layer 3: digits of 16 bits: in, back, the order, what is taken away.
The reference of layer 3: which is less, what is taken away.
The reference of layer 3: twice a number, sums, modulo m.
More operations of a region whose operations keep a class of worlds: an address in an array, a cell, a part of a block, a slice.
-/
import Derived.Test.YtmgmfifkldpbmaaDoorRows
import Derived.WalkKit
import Derived.Laws.Rows
import Derived.Deep.Draws
import Derived.KernelRfl
import Derived.StillTail
import Derived.Deep.Quiet
import Derived.Deep.QuietTactic
import Derived.Below
import Derived.Deep.MidRow
import Derived.Laws.CopyOwn
import Derived.WalkSpells
import Derived.WalkLawsBesides
import Derived.Outline
import Derived.BigQuiet
import Derived.BigRegion
import Derived.Lib.Hide
import Derived.IntWalk
import Derived.Laws.ResultCell
import Derived.Deep.WholeRow
import Derived.Deep.RegionWith
import Derived.Laws.Cover3
import Derived.Laws.Slices
namespace Go.Proofs.YtmgmfifkldpbmaaDoor
open Go Go.RowKit

/-- n values, the j-th is f j -/
def tab (n : Nat) (f : Nat → Value) : Array Value := ((List.range n).map f).toArray
theorem tab_size (n : Nat) (f : Nat → Value) : (tab n f).size = n := by simp [tab]
theorem tab_get (n : Nat) (f : Nat → Value) (i : Nat) (h : i < n) : (tab n f)[i]? = some (f i) := by simp [tab, h]
theorem tab_ext (n : Nat) (f g : Nat → Value) (h : ∀ j, j < n → f j = g j) : tab n f = tab n g := by
  unfold tab; congr 1; apply List.map_congr_left; intro j hj; exact h j (by simpa using hj)
theorem tab_set (n : Nat) (f : Nat → Value) (i : Nat) (v : Value) : (tab n f).setIfInBounds i v = tab n (fun j => if j = i then v else f j) := by
  apply Array.ext
  · simp [tab]
  · intro j h1 h2
    simp only [tab, List.setIfInBounds_toArray, List.getElem_toArray, List.getElem_set, List.getElem_map, List.getElem_range]
    simp only [eq_comm]

/-- a word as the model's value -/
def zeroW : Nat → Value := fun _ => .int .u32 0
theorem zeros64 : (#[Value.int IntKind.u32 0, Value.int IntKind.u32 0, Value.int IntKind.u32 0, Value.int IntKind.u32 0, Value.int IntKind.u32 0, Value.int IntKind.u32 0, Value.int IntKind.u32 0, Value.int IntKind.u32 0, Value.int IntKind.u32 0, Value.int IntKind.u32 0, Value.int IntKind.u32 0, Value.int IntKind.u32 0, Value.int IntKind.u32 0, Value.int IntKind.u32 0, Value.int IntKind.u32 0, Value.int IntKind.u32 0, Value.int IntKind.u32 0, Value.int IntKind.u32 0, Value.int IntKind.u32 0, Value.int IntKind.u32 0, Value.int IntKind.u32 0, Value.int IntKind.u32 0, Value.int IntKind.u32 0, Value.int IntKind.u32 0, Value.int IntKind.u32 0, Value.int IntKind.u32 0, Value.int IntKind.u32 0, Value.int IntKind.u32 0, Value.int IntKind.u32 0, Value.int IntKind.u32 0, Value.int IntKind.u32 0, Value.int IntKind.u32 0, Value.int IntKind.u32 0, Value.int IntKind.u32 0, Value.int IntKind.u32 0, Value.int IntKind.u32 0, Value.int IntKind.u32 0, Value.int IntKind.u32 0, Value.int IntKind.u32 0, Value.int IntKind.u32 0, Value.int IntKind.u32 0, Value.int IntKind.u32 0, Value.int IntKind.u32 0, Value.int IntKind.u32 0, Value.int IntKind.u32 0, Value.int IntKind.u32 0, Value.int IntKind.u32 0, Value.int IntKind.u32 0, Value.int IntKind.u32 0, Value.int IntKind.u32 0, Value.int IntKind.u32 0, Value.int IntKind.u32 0, Value.int IntKind.u32 0, Value.int IntKind.u32 0, Value.int IntKind.u32 0, Value.int IntKind.u32 0, Value.int IntKind.u32 0, Value.int IntKind.u32 0, Value.int IntKind.u32 0, Value.int IntKind.u32 0, Value.int IntKind.u32 0, Value.int IntKind.u32 0, Value.int IntKind.u32 0, Value.int IntKind.u32 0] : Array Value) = tab 64 zeroW := by kernel_rfl
theorem zeros8 : (#[Value.int IntKind.u32 0, Value.int IntKind.u32 0, Value.int IntKind.u32 0, Value.int IntKind.u32 0, Value.int IntKind.u32 0, Value.int IntKind.u32 0, Value.int IntKind.u32 0, Value.int IntKind.u32 0] : Array Value) = tab 8 zeroW := by kernel_rfl

/-- block g of w holds just the cells cs of type t, none frozen -/
def Has (w : World) (g : Nat) (t : TypeId) (cs : Array Value) : Prop := w.heap[g]? = some (.cells cs t (0, 0))

section
variable {w w' : World} {g : Nat} {t : TypeId} {cs : Array Value}
theorem Has.lt (h : Has w g t cs) : g < w.heap.size := by
  by_cases c : g < w.heap.size
  · exact c
  · have : w.heap[g]? = none := by simp; omega
    unfold Has at h; rw [this] at h; cases h
theorem Has.cell (h : Has w g t cs) (i : Nat) : w.cell? ⟨g, i, none⟩ = cs[i]? := cell_of_row w g i cs t (0, 0) h
theorem Has.cellTab {n : Nat} {f : Nat → Value} (h : Has w g t (tab n f)) (i : Nat) (hi : i < n) : w.cell? ⟨g, i, none⟩ = some (f i) := by
  rw [h.cell, tab_get n f i hi]
theorem Has.free (h : Has w g t cs) (i : Nat) : w.frozen? ⟨g, i, none⟩ = false := frozen_of_row w g i cs t h
theorem Has.new (w : World) (t : TypeId) (cs : Array Value) : Has (w.alloc (.cells cs t)) w.heap.size t cs := heap_alloc_new w _
theorem Has.new' (h : g = w.heap.size) : Has (w.alloc (.cells cs t)) g t cs := by subst h; exact Has.new w t cs
theorem Has.alloc (h : Has w g t cs) (o : Obj) : Has (w.alloc o) g t cs := (Below.heap_alloc w o g h.lt).trans h
theorem Has.drew (h : Has w g t cs) : Has w.drew g t cs := h
theorem Has.drewN (h : Has w g t cs) (n : Nat) : Has (w.drewN n) g t cs := h
theorem Has.set (h : Has w g t cs) (i : Nat) (v : Value) : Has (w.setCell ⟨g, i, none⟩ v) g t (cs.setIfInBounds i v) := heap_setCell_same w g i cs t v h
theorem Has.far (h : Has w g t cs) {a : Addr} (ha : g ≠ a.block) (v : Value) : Has (w.setCell a v) g t cs := (heap_setCell_other w a g v ha).trans h
theorem Has.below {B : Nat} (h : Has w g t cs) (hb : Below B w w') (hg : g < B) : Has w' g t cs := (hb.block g hg).trans h
theorem Has.setRow (h : Has w g t cs) (cs' : Array Value) : Has (w.setRow g cs') g t cs' := setRow_heap w g cs cs' t (0, 0) h
theorem Has.farRow (h : Has w g t cs) {k : Nat} (hk : g ≠ k) (cs' : Array Value) : Has (w.setRow k cs') g t cs := (setRow_other w k g cs' hk).trans h
end
theorem below_drewN {B : Nat} {a w : World} (h : Below B a w) (n : Nat) : Below B a (w.drewN n) := ⟨h.os, h.tape, h.output, h.size, h.block⟩
theorem below_setRow {B : Nat} {a w : World} (h : Below B a w) {g : Nat} (hg : B ≤ g) (cs : Array Value) : Below B a (w.setRow g cs) :=
  ⟨h.os, h.tape, h.output, by simpa using h.size, fun i hi => (setRow_other w g i cs (by omega)).trans (h.block i hi)⟩
/-- 'x[k]' of an array by value -/
theorem run_index_tab {P : Program} (t e : TypeId) (n : Nat) (ik : IntKind) (i : TypeInfo) (f : Nat → Value) (hu : P.underlying t = some (.array n e)) (he : P.underlying e = some (.int ik))
    (hi : P.info? e = some i) (hs : i.size = 1) (kd : IntKind) (k : Nat) (hk : k < n) (w : World) :
    (Instr.index t (.agg (tab n f)) (.int kd (k : Int))).run P w = .ok (f k) w := by
  have h0 : (0 : Int) ≤ (k : Int) ∧ (k : Int) < (n : Int) := by omega
  simp [Instr.index, run_underlying hu, run_underlying he, asIntOf, h0, part, isAgg, sizeOf, typeInfo, hi, hs, tab_get n f k hk, go_sem, hk]
/-- a part of a block is overwritten -/
theorem tab_splice (n : Nat) (f v : Nat → Value) (o m : Nat) (h : o + m ≤ n) :
    ((tab n f).toList.take o ++ ((List.range m).map v ++ (tab n f).toList.drop (o + m))).toArray = tab n (fun j => if o ≤ j ∧ j < o + m then v (j - o) else f j) := by
  unfold tab
  congr 1
  apply List.ext_getElem
  · simp; omega
  · intro j h1 h2
    have hj : j < n := by simpa using h2
    simp only [List.getElem_append, List.getElem_take, List.getElem_map, List.getElem_range, List.getElem_drop, List.length_take, List.length_map, List.length_range, Nat.min_eq_left (show o ≤ n by omega)]
    by_cases h3 : j < o
    · rw [dif_pos h3, if_neg (by omega)]
    · rw [dif_neg h3]
      by_cases h4 : j < o + m
      · rw [dif_pos (by omega), if_pos (by omega)]
      · rw [dif_neg (by omega), if_neg (by omega)]
        congr 1
        omega
theorem tab_toList (n : Nat) (f : Nat → Value) : (tab n f).toList = (List.range n).map f := by simp [tab]
theorem tab_oneCell (n : Nat) (f : Nat → Value) (h : ∀ j, (f j).oneCell' = true) : (tab n f).all (·.oneCell') = true := by
  simp [tab, h]

end Go.Proofs.YtmgmfifkldpbmaaDoor
namespace Go.Proofs.YtmgmfifkldpbmaaDoor
open Go

/-- digit j of x to the base B -/
def dg (B x j : Nat) : Nat := x / B ^ j % B
theorem dg_lt {B : Nat} (h : 0 < B) (x j : Nat) : dg B x j < B := Nat.mod_lt _ h
theorem mod_step (B x k : Nat) : x % B ^ (k + 1) = x % B ^ k + B ^ k * dg B x k := Nat.mod_pow_succ
theorem dg_mod {B x j n : Nat} (h : j < n) : dg B (x % B ^ n) j = dg B x j := by
  unfold dg
  have e : B ^ n = B ^ j * B ^ (n - j) := by rw [← Nat.pow_add]; congr 1; omega
  have e2 : B ^ (n - j) = B * B ^ (n - j - 1) := by rw [← Nat.pow_succ']; congr 1; omega
  rw [e, Nat.mod_mul_right_div_self, Nat.mod_mod_of_dvd _ ⟨_, e2⟩]
theorem dg_zero (B j : Nat) : dg B 0 j = 0 := by simp [dg]
theorem dg_top {B x j n : Nat} (hB : 0 < B) (hx : x < B ^ n) (h : n ≤ j) : dg B x j = 0 := by
  unfold dg
  rw [Nat.div_eq_of_lt (Nat.lt_of_lt_of_le hx (Nat.pow_le_pow_right hB h)), Nat.zero_mod]
theorem digits_eq {B : Nat} {x y : Nat} : ∀ n, (∀ j, j < n → dg B x j = dg B y j) → x % B ^ n = y % B ^ n
  | 0, _ => by simp [Nat.mod_one]
  | n + 1, h => by rw [mod_step, mod_step, h n (by omega), digits_eq n fun j hj => h j (by omega)]
theorem digits_inj {B n x y : Nat} (hx : x < B ^ n) (hy : y < B ^ n) (h : ∀ j, j < n → dg B x j = dg B y j) : x = y := by
  have := digits_eq n h
  rwa [Nat.mod_eq_of_lt hx, Nat.mod_eq_of_lt hy] at this
/-- any digits are a number's -/
theorem digits_of {B : Nat} (hB : 0 < B) (f : Nat → Nat) : ∀ n, (∀ j, j < n → f j < B) → ∃ x, x < B ^ n ∧ ∀ j, j < n → dg B x j = f j
  | 0, _ => ⟨0, by simp, fun j hj => by omega⟩
  | n + 1, h => by
    obtain ⟨x, hx, hd⟩ := digits_of hB f n fun j hj => h j (by omega)
    have hf := h n (by omega)
    have hp : 0 < B ^ n := Nat.pow_pos hB
    have hd' : ∀ j, j < n → dg B (x + B ^ n * f n) j = f j := fun j hj => by
      rw [← hd j hj, ← dg_mod hj, Nat.add_mul_mod_self_left, dg_mod hj]
    refine ⟨x + B ^ n * f n, ?_, fun j hj => ?_⟩
    · have h1 : B ^ n * (f n + 1) ≤ B ^ n * B := Nat.mul_le_mul_left _ hf
      rw [Nat.pow_succ]
      rw [Nat.mul_add, Nat.mul_one] at h1
      omega
    · by_cases e : j = n
      · subst e
        unfold dg
        rw [Nat.add_mul_div_left _ _ hp, Nat.div_eq_of_lt hx, Nat.zero_add, Nat.mod_eq_of_lt hf]
      · exact hd' j (by omega)

/-- what is carried into digit k of a + b -/
def car (B a b k : Nat) : Nat := (a % B ^ k + b % B ^ k) / B ^ k
theorem car_zero (B a b : Nat) : car B a b 0 = 0 := by simp [car, Nat.mod_one]
theorem car_le {B : Nat} (hB : 0 < B) (a b k : Nat) : car B a b k ≤ 1 := by
  have hp : 0 < B ^ k := Nat.pow_pos hB
  have h1 := Nat.mod_lt a hp
  have h2 := Nat.mod_lt b hp
  have h3 : car B a b k < 2 := by unfold car; rw [Nat.div_lt_iff_lt_mul hp]; omega
  omega
theorem car_step {B : Nat} (hB : 0 < B) (a b k : Nat) : (dg B a k + dg B b k + car B a b k) / B = car B a b (k + 1) := by
  have hp : 0 < B ^ k := Nat.pow_pos hB
  have e : a % B ^ (k + 1) + b % B ^ (k + 1) = a % B ^ k + b % B ^ k + B ^ k * (dg B a k + dg B b k) := by rw [mod_step, mod_step, Nat.mul_add]; omega
  show _ = (a % B ^ (k + 1) + b % B ^ (k + 1)) / B ^ (k + 1)
  rw [e, Nat.pow_succ, ← Nat.div_div_eq_div_mul, Nat.add_mul_div_left _ _ hp]
  congr 1
  unfold car
  omega
theorem add_split {B : Nat} (hB : 0 < B) (a b k : Nat) : (a + b) / B ^ k = a / B ^ k + b / B ^ k + car B a b k := by
  have hp : 0 < B ^ k := Nat.pow_pos hB
  have ea := Nat.mod_add_div a (B ^ k)
  have eb := Nat.mod_add_div b (B ^ k)
  have e : a + b = a % B ^ k + b % B ^ k + B ^ k * (a / B ^ k + b / B ^ k) := by rw [Nat.mul_add]; omega
  have h : (a + b) / B ^ k = (a % B ^ k + b % B ^ k + B ^ k * (a / B ^ k + b / B ^ k)) / B ^ k := congrArg (· / B ^ k) e
  rw [Nat.add_mul_div_left _ _ hp] at h
  unfold car
  omega
theorem add_dg {B : Nat} (hB : 0 < B) (a b k : Nat) : (dg B a k + dg B b k + car B a b k) % B = dg B (a + b) k := by
  have h := add_split hB a b k
  show _ = (a + b) / B ^ k % B
  rw [h]
  unfold dg
  rw [Nat.add_mod (a / B ^ k + b / B ^ k), Nat.add_mod (a / B ^ k) (b / B ^ k), Nat.add_mod (a / B ^ k % B + b / B ^ k % B)]
theorem car_end {B n a b : Nat} (ha : a < B ^ n) (hb : b < B ^ n) : car B a b n = (a + b) / B ^ n := by
  unfold car; rw [Nat.mod_eq_of_lt ha, Nat.mod_eq_of_lt hb]

/-- what is borrowed for digit k of a - b -/
def bor (B a b k : Nat) : Nat := if a % B ^ k < b % B ^ k then 1 else 0
theorem bor_zero (B a b : Nat) : bor B a b 0 = 0 := by simp [bor, Nat.mod_one]
theorem bor_le (B a b k : Nat) : bor B a b k ≤ 1 := by unfold bor; split <;> omega
theorem bor_step {B : Nat} (hB : 0 < B) (a b k : Nat) : (if dg B a k < dg B b k + bor B a b k then 1 else 0) = bor B a b (k + 1) := by
  have hp : 0 < B ^ k := Nat.pow_pos hB
  have h1 := Nat.mod_lt a hp
  have h2 := Nat.mod_lt b hp
  show _ = if a % B ^ (k + 1) < b % B ^ (k + 1) then 1 else 0
  rw [mod_step, mod_step]
  have key : ∀ x y : Nat, x < y → B ^ k * x + B ^ k ≤ B ^ k * y := fun x y h => by rw [← Nat.mul_succ]; exact Nat.mul_le_mul_left _ h
  unfold bor
  generalize a % B ^ k = ra at *
  generalize b % B ^ k = rb at *
  rcases Nat.lt_trichotomy (dg B a k) (dg B b k) with h | h | h
  · have := key _ _ h
    rw [if_pos (show _ < _ by omega), if_pos (by omega)]
  · rw [h]
    by_cases c : ra < rb
    · rw [if_pos c, if_pos (by omega), if_pos (by omega)]
    · rw [if_neg c, if_neg (by omega), if_neg (by omega)]
  · have := key _ _ h
    have hbl : (if ra < rb then 1 else 0) ≤ 1 := by split <;> omega
    rw [if_neg (by omega), if_neg (by omega)]
/-- a less b, beyond the highest place -/
theorem car_bor {B a b d k : Nat} (hB : 0 < B) (h : (d + b) % B ^ k = a % B ^ k) : car B d b k = bor B a b k := by
  have hp : 0 < B ^ k := Nat.pow_pos hB
  have h1 := Nat.mod_lt a hp
  have h2 := Nat.mod_lt b hp
  have h3 := Nat.mod_lt d hp
  have hc := car_le hB d b k
  rw [Nat.add_mod] at h
  have hs := Nat.mod_add_div (d % B ^ k + b % B ^ k) (B ^ k)
  rw [h] at hs
  unfold car at hc ⊢
  unfold bor
  generalize (d % B ^ k + b % B ^ k) / B ^ k = c at *
  generalize a % B ^ k = ra at *
  generalize b % B ^ k = rb at *
  generalize d % B ^ k = rd at *
  generalize B ^ k = P at *
  rcases (show c = 0 ∨ c = 1 by omega) with rfl | rfl
  · rw [Nat.mul_zero] at hs; rw [if_neg (by omega)]
  · rw [Nat.mul_one] at hs; rw [if_pos (by omega)]
theorem sub_dg {B n a b k : Nat} (hB : 0 < B) (hk : k < n) (hb : b < B ^ n) : (dg B a k + 2 * B - dg B b k - bor B a b k) % B = dg B (a + B ^ n - b) k := by
  obtain ⟨d, hd⟩ : ∃ d, d = a + B ^ n - b := ⟨_, rfl⟩
  rw [← hd]
  have e : d + b = a + B ^ n := by omega
  have hm : ∀ j, j ≤ n → (d + b) % B ^ j = a % B ^ j := fun j hj => by
    rw [e]
    have e2 : B ^ n = B ^ j * B ^ (n - j) := by rw [← Nat.pow_add]; congr 1; omega
    rw [e2, Nat.add_mul_mod_self_left]
  have hc := car_bor (k := k) hB (hm k (by omega))
  have hdg : dg B (d + b) k = dg B a k := by rw [← dg_mod (x := d + b) hk, hm n (by omega), dg_mod hk]
  have h := add_dg hB d b k
  rw [hdg, hc] at h
  have hx := dg_lt hB d k
  have hy := dg_lt hB b k
  have hz := dg_lt hB a k
  have hl := bor_le B a b k
  generalize bor B a b k = c at *
  generalize dg B a k = x at *
  generalize dg B b k = y at *
  generalize dg B d k = z at *
  by_cases hlt : z + y + c < B
  · rw [Nat.mod_eq_of_lt hlt] at h
    have e3 : x + 2 * B - y - c = z + B * 2 := by omega
    rw [e3, Nat.add_mul_mod_self_left, Nat.mod_eq_of_lt hx]
  · have e4 : z + y + c = z + y + c - B + B := by omega
    rw [e4, Nat.add_mod_right, Nat.mod_eq_of_lt (by omega)] at h
    have e3 : x + 2 * B - y - c = z + B := by omega
    rw [e3, Nat.add_mod_right, Nat.mod_eq_of_lt hx]
theorem bor_end {B n a b : Nat} (ha : a < B ^ n) (hb : b < B ^ n) : bor B a b n = if a < b then 1 else 0 := by
  unfold bor; rw [Nat.mod_eq_of_lt ha, Nat.mod_eq_of_lt hb]

/-- n digits as the model's values -/
def dgs (ik : IntKind) (B x : Nat) (j : Nat) : Value := .int ik ((dg B x j : Nat) : Int)
theorem dgs_set {ik : IntKind} {B x k n : Nat} (hB : 0 < B) (_h : k < n) : (tab n (dgs ik B (x % B ^ k))).setIfInBounds k (.int ik ((dg B x k : Nat) : Int)) = tab n (dgs ik B (x % B ^ (k + 1))) := by
  rw [tab_set]
  apply tab_ext
  intro j hj
  unfold dgs
  by_cases e : j = k
  · rw [if_pos e, e, dg_mod (by omega)]
  · rw [if_neg e]
    by_cases l : j < k
    · rw [dg_mod l, dg_mod (by omega)]
    · rw [dg_top hB (Nat.mod_lt _ (Nat.pow_pos hB)) (by omega), dg_top hB (Nat.mod_lt _ (Nat.pow_pos hB)) (show k + 1 ≤ j by omega)]
theorem dgs_mod {ik : IntKind} {B x n : Nat} : tab n (dgs ik B (x % B ^ n)) = tab n (dgs ik B x) := tab_ext _ _ _ fun j hj => by unfold dgs; rw [dg_mod hj]
theorem dgs_start {ik : IntKind} {B x n : Nat} : tab n (dgs ik B (x % B ^ 0)) = tab n fun _ => .int ik 0 := tab_ext _ _ _ fun j _ => by simp [dgs, Nat.mod_one, dg_zero]
theorem dg_dg {b m x q r : Nat} (hr : r < m) : dg b (dg (b ^ m) x q) r = dg b x (m * q + r) := by
  have e : b ^ m = b ^ r * b ^ (m - r) := by rw [← Nat.pow_add]; congr 1; omega
  have e2 : b ^ (m - r) = b * b ^ (m - r - 1) := by rw [← Nat.pow_succ']; congr 1; omega
  have h1 : ∀ z : Nat, z % b ^ m / b ^ r % b = z / b ^ r % b := fun z => by rw [e, Nat.mod_mul_right_div_self, Nat.mod_mod_of_dvd _ ⟨_, e2⟩]
  unfold dg
  rw [h1, ← Nat.pow_mul, Nat.div_div_eq_div_mul, ← Nat.pow_add]
/-- what is left of x above m digits -/
theorem dg_cut {B : Nat} (hB : 0 < B) (x m i : Nat) : dg B (x / B ^ m * B ^ m) i = if m ≤ i then dg B x i else 0 := by
  unfold dg
  by_cases h : m ≤ i
  · rw [if_pos h]
    have e : B ^ i = B ^ m * B ^ (i - m) := by rw [← Nat.pow_add]; congr 1; omega
    rw [e, ← Nat.div_div_eq_div_mul, Nat.mul_div_cancel _ (Nat.pow_pos hB), Nat.div_div_eq_div_mul]
  · rw [if_neg h]
    have e : B ^ m = B * B ^ (m - i - 1) * B ^ i := by rw [← Nat.pow_succ', ← Nat.pow_add]; congr 1; omega
    rw [e, ← Nat.mul_assoc, Nat.mul_div_cancel _ (Nat.pow_pos hB), ← Nat.mul_assoc, Nat.mul_comm _ B, Nat.mul_assoc, Nat.mul_mod_right]
theorem cut_step (B x m : Nat) : x / B ^ m * B ^ m = x / B ^ (m + 1) * B ^ (m + 1) + dg B x m * B ^ m := by
  unfold dg
  have h := Nat.mod_add_div (x / B ^ m) B
  have e : x / B ^ (m + 1) = x / B ^ m / B := by rw [Nat.pow_succ, Nat.div_div_eq_div_mul]
  rw [e, Nat.pow_succ]
  generalize x / B ^ m = t at *
  have e2 : t / B * (B ^ m * B) = B * (t / B) * B ^ m := by rw [Nat.mul_comm B (t / B), Nat.mul_assoc, Nat.mul_comm B]
  rw [e2, ← Nat.add_mul, Nat.add_comm (B * (t / B)), h]
end Go.Proofs.YtmgmfifkldpbmaaDoor
namespace Go.Proofs.YtmgmfifkldpbmaaDoor
open Go

theorem acc_here {b m : Nat} (hb : 0 < b) (x k : Nat) : (dg (b ^ m) (x % b ^ k) (k / m) + dg b x k * b ^ (k % m) % b ^ m) % b ^ m = dg (b ^ m) (x % b ^ (k + 1)) (k / m) := by
  have hk : b ^ k = (b ^ m) ^ (k / m) * b ^ (k % m) := by rw [← Nat.pow_mul, ← Nat.pow_add, Nat.div_add_mod]
  rw [mod_step b x k, hk]
  unfold dg
  rw [Nat.mul_assoc, Nat.add_mul_div_left _ _ (Nat.pow_pos (Nat.pow_pos hb)), Nat.add_mod, Nat.mod_mod, Nat.mod_mod, ← Nat.add_mod, Nat.mul_comm (b ^ (k % m))]
theorem acc_other {b m : Nat} (hb : 0 < b) (hm : 0 < m) (x k j : Nat) (h : j ≠ k / m) : dg (b ^ m) (x % b ^ (k + 1)) j = dg (b ^ m) (x % b ^ k) j := by
  have hp : 0 < b ^ m := Nat.pow_pos hb
  refine digits_inj (B := b) (n := m) (dg_lt hp _ _) (dg_lt hp _ _) fun r hr => ?_
  rw [dg_dg hr, dg_dg hr]
  have hne : m * j + r ≠ k := fun e => h (by rw [← e, Nat.mul_add_div hm, Nat.div_eq_of_lt hr, Nat.add_zero])
  by_cases hlt : m * j + r < k
  · rw [dg_mod (by omega), dg_mod hlt]
  · rw [dg_top hb (Nat.mod_lt _ (Nat.pow_pos hb)) (show k + 1 ≤ m * j + r by omega), dg_top hb (Nat.mod_lt _ (Nat.pow_pos hb)) (show k ≤ m * j + r by omega)]

/-- s a + c: what is carried into digit k -/
def carL (B s a c k : Nat) : Nat := (s * (a % B ^ k) + c) / B ^ k
theorem carL_zero (B s a c : Nat) : carL B s a c 0 = c := by simp [carL, Nat.mod_one]
theorem carL_step {B : Nat} (hB : 0 < B) (s a c k : Nat) : (s * dg B a k + carL B s a c k) / B = carL B s a c (k + 1) := by
  have hp : 0 < B ^ k := Nat.pow_pos hB
  unfold carL
  have e : s * (a % B ^ (k + 1)) + c = s * (a % B ^ k) + c + B ^ k * (s * dg B a k) := by
    rw [mod_step, Nat.mul_add, ← Nat.mul_assoc, Nat.mul_comm s (B ^ k), Nat.mul_assoc]; omega
  rw [e, Nat.pow_succ, ← Nat.div_div_eq_div_mul, Nat.add_mul_div_left _ _ hp, Nat.add_comm (s * dg B a k)]
theorem carL_dg {B : Nat} (hB : 0 < B) (s a c k : Nat) : (s * dg B a k + carL B s a c k) % B = dg B (s * a + c) k := by
  have hp : 0 < B ^ k := Nat.pow_pos hB
  have ea := Nat.mod_add_div a (B ^ k)
  have e : s * a + c = s * (a % B ^ k) + c + B ^ k * (s * (a / B ^ k)) := by
    have h : s * a = s * (a % B ^ k) + s * (B ^ k * (a / B ^ k)) := by rw [← Nat.mul_add, ea]
    rw [h, ← Nat.mul_assoc s, Nat.mul_comm s (B ^ k), Nat.mul_assoc]; omega
  have h : (s * a + c) / B ^ k = carL B s a c k + s * (a / B ^ k) := by rw [e, Nat.add_mul_div_left _ _ hp]; rfl
  show _ = (s * a + c) / B ^ k % B
  rw [h]
  unfold dg
  rw [Nat.add_comm, Nat.add_mod, Nat.mul_mod s, Nat.mod_mod, ← Nat.mul_mod, ← Nat.add_mod]
theorem carL_end {B n s a c : Nat} (ha : a < B ^ n) : carL B s a c n = (s * a + c) / B ^ n := by
  unfold carL; rw [Nat.mod_eq_of_lt ha]

/-- digit j is d -/
def setDig (B V j d : Nat) : Nat := V % B ^ j + (d + V / B ^ (j + 1) * B) * B ^ j
theorem setDig_dg {B : Nat} (hB : 0 < B) (V j d i : Nat) (hd : d < B) : dg B (setDig B V j d) i = if i = j then d else dg B V i := by
  have hp : 0 < B ^ j := Nat.pow_pos hB
  unfold setDig
  rcases Nat.lt_trichotomy i j with h | h | h
  · rw [if_neg (by omega), ← dg_mod h, Nat.add_mul_mod_self_right, dg_mod (x := V % B ^ j) h, dg_mod h]
  · subst h
    rw [if_pos rfl]
    unfold dg
    rw [Nat.add_mul_div_right _ _ hp, Nat.div_eq_of_lt (Nat.mod_lt _ hp), Nat.zero_add, Nat.add_mul_mod_self_right, Nat.mod_eq_of_lt hd]
  · rw [if_neg (by omega)]
    unfold dg
    have e : B ^ i = B ^ j * B * B ^ (i - j - 1) := by rw [← Nat.pow_succ, ← Nat.pow_add]; congr 1; omega
    rw [e, ← Nat.div_div_eq_div_mul, ← Nat.div_div_eq_div_mul, Nat.add_mul_div_right _ _ hp, Nat.div_eq_of_lt (Nat.mod_lt _ hp), Nat.zero_add, Nat.add_mul_div_right _ _ hB, Nat.div_eq_of_lt hd, Nat.zero_add, ← Nat.div_div_eq_div_mul V, Nat.pow_succ]
theorem setDig_eq {B : Nat} (_hB : 0 < B) (V j d : Nat) : setDig B V j d + dg B V j * B ^ j = V + d * B ^ j := by
  have e : V / B ^ (j + 1) * B + dg B V j = V / B ^ j := by
    unfold dg
    rw [Nat.pow_succ, ← Nat.div_div_eq_div_mul, Nat.mul_comm]
    exact Nat.div_add_mod _ _
  have h := Nat.mod_add_div V (B ^ j)
  unfold setDig
  rw [Nat.add_mul]
  have h2 : V / B ^ (j + 1) * B * B ^ j + dg B V j * B ^ j = B ^ j * (V / B ^ j) := by rw [← Nat.add_mul, e, Nat.mul_comm]
  omega
theorem setDig_lt {B n V j d : Nat} (hB : 0 < B) (hV : V < B ^ n) (hj : j < n) (hd : d < B) : setDig B V j d < B ^ n := by
  have hp : 0 < B ^ j := Nat.pow_pos hB
  have e : B ^ n = B ^ (n - j - 1) * B * B ^ j := by rw [← Nat.pow_succ, ← Nat.pow_add]; congr 1; omega
  have hq : V / B ^ (j + 1) < B ^ (n - j - 1) := by
    rw [Nat.div_lt_iff_lt_mul (Nat.pow_pos hB), ← Nat.pow_add, show n - j - 1 + (j + 1) = n by omega]; exact hV
  have h1 : d + V / B ^ (j + 1) * B + 1 ≤ B ^ (n - j - 1) * B := by
    have : (V / B ^ (j + 1) + 1) * B ≤ B ^ (n - j - 1) * B := Nat.mul_le_mul_right _ hq
    rw [Nat.add_mul, Nat.one_mul] at this
    omega
  have h2 : (d + V / B ^ (j + 1) * B + 1) * B ^ j ≤ B ^ (n - j - 1) * B * B ^ j := Nat.mul_le_mul_right _ h1
  rw [Nat.add_mul, Nat.one_mul] at h2
  have h3 := Nat.mod_lt V hp
  rw [e]
  unfold setDig
  omega
theorem dgs_setDig {ik : IntKind} {B n V j d : Nat} (hB : 0 < B) (hd : d < B) : (tab n (dgs ik B V)).setIfInBounds j (.int ik (d : Int)) = tab n (dgs ik B (setDig B V j d)) := by
  rw [tab_set]
  apply tab_ext
  intro i _
  unfold dgs
  rw [setDig_dg hB V j d i hd]
  by_cases h : i = j
  · rw [if_pos h, if_pos h]
  · rw [if_neg h, if_neg h]
theorem dgs_congr {ik : IntKind} {B n x y : Nat} (h : x % B ^ n = y % B ^ n) : tab n (dgs ik B x) = tab n (dgs ik B y) := by
  rw [← dgs_mod (x := x), ← dgs_mod (x := y), h]
theorem half_dg {H : Nat} (hH : 0 < H) (t i : Nat) : dg (2 * H) (t / 2) i = dg (2 * H) t i / 2 + dg (2 * H) t (i + 1) % 2 * H := by
  have hp : 0 < (2 * H) ^ i := Nat.pow_pos (by omega)
  unfold dg
  rw [Nat.div_div_eq_div_mul, Nat.mul_comm 2, ← Nat.div_div_eq_div_mul, Nat.pow_succ, ← Nat.div_div_eq_div_mul]
  generalize t / (2 * H) ^ i = q
  have h1 : q = q % (2 * H) + 2 * H * (q / (2 * H)) := (Nat.mod_add_div q (2 * H)).symm
  obtain ⟨r, hr⟩ : ∃ r, r = q % (2 * H) := ⟨_, rfl⟩
  obtain ⟨u, hu⟩ : ∃ u, u = q / (2 * H) := ⟨_, rfl⟩
  rw [← hr, ← hu] at h1 ⊢
  have hrl : r < 2 * H := by rw [hr]; exact Nat.mod_lt _ (by omega)
  have e2 : q / 2 = r / 2 + H * u := by rw [h1, Nat.mul_assoc, Nat.add_mul_div_left _ _ (by decide)]
  have h3 := Nat.mod_add_div u 2
  have h4 : u % (2 * H) % 2 = u % 2 := Nat.mod_mul_right_mod u 2 H
  rw [h4, e2]
  have e5 : H * u = u % 2 * H + 2 * H * (u / 2) := by
    have : H * u = H * (u % 2 + 2 * (u / 2)) := by rw [h3]
    rw [this, Nat.mul_add, ← Nat.mul_assoc, Nat.mul_comm H 2, Nat.mul_comm H (u % 2)]
  have hb : u % 2 < 2 := Nat.mod_lt _ (by decide)
  have hb2 : u % 2 * H ≤ 1 * H := Nat.mul_le_mul_right _ (by omega)
  rw [e5, ← Nat.add_assoc, Nat.add_mul_mod_self_left, Nat.mod_eq_of_lt (by omega)]
theorem div_stepB (B x k : Nat) : x / B ^ k = B * (x / B ^ (k + 1)) + dg B x k := by
  unfold dg
  rw [Nat.pow_succ, ← Nat.div_div_eq_div_mul]
  exact (Nat.div_add_mod _ _).symm
theorem less_dig (B x y k : Nat) (h : x / B ^ (k + 1) = y / B ^ (k + 1)) (hne : dg B x k ≠ dg B y k) : decide (x < y) = decide (dg B x k < dg B y k) := by
  have ex := div_stepB B x k
  have ey := div_stepB B y k
  rw [← h] at ey
  by_cases hl : dg B x k < dg B y k
  · rw [decide_eq_true hl, decide_eq_true]
    exact Nat.lt_of_div_lt_div (c := B ^ k) (by omega)
  · rw [decide_eq_false hl, decide_eq_false]
    have : y < x := Nat.lt_of_div_lt_div (c := B ^ k) (by omega)
    omega
/-- a chain of doublings: the bits from k on -/
theorem twice_step (a m k : Nat) : (2 * (a / 2 ^ (k + 1) % m) + a / 2 ^ k % 2) % m = a / 2 ^ k % m := by
  have h : a / 2 ^ k = 2 * (a / 2 ^ (k + 1)) + a / 2 ^ k % 2 := by
    rw [Nat.pow_succ, ← Nat.div_div_eq_div_mul]
    exact (Nat.div_add_mod _ _).symm
  conv => rhs; rw [h]
  rw [Nat.add_mod, Nat.mul_mod, Nat.mod_mod, ← Nat.mul_mod, ← Nat.add_mod]
end Go.Proofs.YtmgmfifkldpbmaaDoor
namespace Go.Proofs.YtmgmfifkldpbmaaDoor
open Go

section
variable {P : Program} {md : Region.Mode} {ops : Array Oper} {C : World → Prop}

def headQ (P : Program) (md : Region.Mode) (ops : Array Oper) (C : World → Prop) (n : Nat) (L : Array Bool → Act → Prop) : Nat → Array Bool → Act → Prop
  | 0, listed, a => L listed a
  | f + 1, listed, a =>
    Region.ready md ops listed ≠ [] ∧ ∀ i ∈ Region.ready md ops listed, i < n ∧ qOp P ops C i (headQ P md ops C n L f (listed.setIfInBounds i true)) a

theorem any_of_headQ {n g : Nat} {L : Array Bool → Act → Prop} {Q' : Exit → Act → World → Prop} (hL : ∀ listed a w, C w → L listed a → wpAny P md ops Q' g listed a w) :
    ∀ (f : Nat) (listed : Array Bool) (a : Act) (w : World), C w → headQ P md ops C n L f listed a → wpAny P md ops Q' (f + g) listed a w := by
  intro f
  induction f with
  | zero => intro listed a w hC h; rw [Nat.zero_add]; exact hL _ _ _ hC h
  | succ f ih =>
    intro listed a w hC h
    rw [show f + 1 + g = (f + g) + 1 by omega]
    exact ⟨fun h0 => absurd h0 h.1, fun i hi => wpOp_of_qOp hC (fun a' w' hC' h' => ih _ a' w' hC' h') (h.2 i hi).2⟩

theorem headQ_first {n i : Nat} {oi : Oper} {v : Value} {L : Array Bool → Act → Prop} (hi : ops[i]? = some oi) (hsel : ∀ (j : Nat) (o : Oper) cs b, ops[j]? = some o → o.op ≠ .select cs b)
    (hs : Region.sinkB md ops n = true) (hc : Region.chainB md ops n = true) (hn : n < ops.size) (hin : i < n)
    (hdone : ∀ listed a, L listed a → ∀ j ∈ Region.ready md ops listed, n ≤ j) :
    ∀ (f : Nat) (listed : Array Bool) (a : Act), HeadInv md ops n listed →
      (∀ j oj, ops[j]? = some oj → j ≠ i → listed.getD j true = false → (∀ e ∈ oj.after, Region.binds md e = true → e.on ≠ i) → oi.apart ops oj = true) →
      i ∈ Region.ready md ops listed → YieldsIn P ops C oi v a →
      headQ P md ops C n L f (listed.setIfInBounds i true) (a.put oi.dst v) → headQ P md ops C n L (f + 1) listed a := by
  intro f
  induction f with
  | zero =>
    intro listed a inv _ hr hy H
    have hun := (mem_ready.1 hr).1
    refine ⟨fun h => (by rw [h] at hr; cases hr), fun j hj => ?_⟩
    have hjn : j < n := by
      by_cases h : j < n
      · exact h
      · exact absurd hj (tail_waits hs hc hn inv _ i rfl hin hun j (by omega))
    refine ⟨hjn, ?_⟩
    by_cases hji : j = i
    · subst hji; exact hy.qOp hi H
    · have := hdone _ _ H j (ready_mono hj hji)
      omega
  | succ f ih =>
    intro listed a inv hfree hr hy H
    have hun := (mem_ready.1 hr).1
    refine ⟨fun h => (by rw [h] at hr; cases hr), fun j hj => ?_⟩
    have hjn : j < n := by
      by_cases h : j < n
      · exact h
      · exact absurd hj (tail_waits hs hc hn inv _ i rfl hin hun j (by omega))
    refine ⟨hjn, ?_⟩
    by_cases hji : j = i
    · subst hji; exact hy.qOp hi H
    · have h1 := (H.2 j (ready_mono hj hji)).2
      obtain ⟨hjun, oj, hoj, hall⟩ := mem_ready.1 hj
      have hnot : ∀ e ∈ oj.after, Region.binds md e = true → e.on ≠ i := fun e he hb heq => by
        have h1 := hall e he hb
        rw [heq, getD_both hun] at h1
        cases h1
      have h2 := qOp_put hoj (hfree j oj hoj hji hjun hnot) (fun cs b => hsel i oi cs b hi) (fun cs b => hsel j oj cs b hoj) hy h1
      have hfree' : ∀ k ok, ops[k]? = some ok → k ≠ i → (listed.setIfInBounds j true).getD k true = false →
          (∀ e ∈ ok.after, Region.binds md e = true → e.on ≠ i) → oi.apart ops ok = true := fun k ok hk hki hun' hno => by
        refine hfree k ok hk hki ?_ hno
        by_cases hjk : j = k
        · subst hjk; exact hjun
        · rw [getD_set_ne true hjk] at hun'; exact hun'
      refine qOp_mono (fun a' h3 => ih (listed.setIfInBounds j true) a' (inv.set hj hjn) hfree' (ready_mono hr (Ne.symm hji)) h3.1 ?_) h2
      rw [Array.setIfInBounds_comm _ _ hji]
      exact h3.2

theorem headQ_lex {n g : Nat} {Lq : Act → Prop} (hsel : Region.noSelect ops = true) (hs : Region.sinkB md ops n = true) (hc : Region.chainB md ops n = true) (hn : n < ops.size)
    (l : List Oper) : ∀ (k : Nat) (listed : Array Bool) (a : Act), (∀ j, j < l.length → l[j]? = ops[k + j]?) → k + l.length = n → HeadInv md ops n listed →
    Region.lexHead md ops g l.length k listed = true → wpQuiet P ops C Lq l a →
    headQ P md ops C n (fun listed' a' => Region.seqB md ops g n listed' = true ∧ Lq a') l.length listed a := by
  induction l with
  | nil =>
    intro k listed a _ hk _ hB h
    obtain rfl : k = n := by simpa using hk
    exact ⟨by simpa [Region.lexHead] using hB, h⟩
  | cons o l ih =>
    intro k listed a hl hk inv hB h
    have h0 : ops[k]? = some o := by simpa using (hl 0 (by simp)).symm
    simp only [List.length_cons, Region.lexHead, Bool.and_eq_true] at hB
    obtain ⟨⟨hr, hf⟩, hB'⟩ := hB
    have hkn : k < n := by simp only [List.length_cons] at hk; omega
    have hr' : k ∈ Region.ready md ops listed := by simpa using hr
    have hst : qOp P ops C k (wpQuiet P ops C Lq l) a := by unfold qOp; simp only [h0]; exact h
    obtain ⟨v, hy, hK⟩ := yieldsIn_of_qOp h0 hst
    exact headQ_first h0 (Region.noSelect_spec hsel) hs hc hn hkn (fun listed' a' hL => seqB_ready hL.1) l.length listed a inv (Region.free_spec h0 hf) hr' hy
      (ih (k + 1) _ _ (fun j hj => by have := hl (j + 1) (by simp; omega); simpa [Nat.add_assoc, Nat.add_comm 1 j] using this) (by simp only [List.length_cons] at hk; omega) (inv.set hr' hkn) hB' hK)

/-- the region's wp, by one walk: the head in the class C, then the tail in every world of the class -/
theorem region_quiet_tail {id : Nat} {Q : Exit → Act → World → Prop} {a : Act} {w : World} {l : List Oper} (C : World → Prop) (n : Nat) (hm : P.follows .mixedOrders = true)
    (hB : Region.lexTailB .any l.toArray n = true) (hC : C { w with drawn := w.drawn + 1 })
    (h : wpQuiet P l.toArray C (fun a' => ∀ w', C w' → wpList P l.toArray Q (l.drop n) a' w') (l.take n) a) : (Code.region id l.toArray true).wp P Q a w := by
  simp only [Region.lexTailB, Bool.and_eq_true, decide_eq_true_eq] at hB
  obtain ⟨⟨⟨⟨hsel, hn⟩, hs⟩, hc⟩, hlex⟩ := hB
  have hn' : n < l.length := by simpa using hn
  have htl : (l.take n).length = n := by simp; omega
  have hdl : (l.drop n).length = l.toArray.size - n := by simp
  have inv0 : HeadInv .any l.toArray n (Array.replicate l.toArray.size false) :=
    ⟨by simp, fun j oj _ hl => (by rw [getD_replicate_false] at hl; cases hl), fun t _ ht => getD_in (by simpa using ht) (getD_replicate_false _ _)⟩
  have H := headQ_lex (md := .any) (g := l.toArray.size - n) hsel hs hc hn (l.take n) 0 _ a (fun j hj => by
    have hj' : j < n := by rw [htl] at hj; exact hj
    simp [hj']) (by simpa using htl) inv0 (by rw [htl]; exact hlex) h
  refine wp_region_any hm ?_
  have := any_of_headQ (Q' := Q) (g := l.toArray.size - n) (fun listed a' w' hC' hL => by
    have := wpAny_of_seq (md := .any) (Q' := Q) (l.drop n) n listed a' w' (fun j => by simp [List.getElem?_drop]) (by rw [hdl]; exact hL.1) (hL.2 w' hC')
    rwa [hdl] at this) _ _ _ _ hC H
  rw [htl, show n + (l.toArray.size - n) = l.toArray.size by omega] at this
  exact this
end
end Go.Proofs.YtmgmfifkldpbmaaDoor
namespace Go.Proofs.YtmgmfifkldpbmaaDoor
open Go Go.RowKit

/- only block g has changed, and there may be new ones -/
theorem only_trans {a b c : World} {row : Option Nat} (h : a.grownBy b row) (k : b.grownBy c row) : a.grownBy c row :=
  ⟨k.os.trans h.os, k.tape.trans h.tape, k.output.trans h.output, Nat.le_trans h.size k.size, fun i hi hne => (k.block i (Nat.lt_of_lt_of_le hi h.size) hne).trans (h.block i hi hne)⟩
theorem only_drewN (a : World) (n : Nat) (row : Option Nat) : a.grownBy (a.drewN n) row := ⟨rfl, rfl, rfl, Nat.le_refl _, fun _ _ _ => rfl⟩
theorem only_below {a b : World} (h : Below a.heap.size a b) (row : Option Nat) : a.grownBy b row := ⟨h.os, h.tape, h.output, h.size, fun i hi _ => h.block i hi⟩
theorem only_setCell (a : World) (g o : Nat) (v : Value) : a.grownBy (a.setCell ⟨g, o, none⟩ v) (some g) :=
  ⟨rfl, rfl, rfl, by simp [World.setCell], fun i _ hne => Below.heap_setCell a _ v i (fun e => hne (by rw [e]))⟩
theorem below_of_only {a b : World} {g : Nat} (h : a.grownBy b (some g)) {B : Nat} (hB : B ≤ g) (hs : B ≤ a.heap.size) : Below B a b :=
  ⟨h.os, h.tape, h.output, h.size, fun i hi => h.block i (Nat.lt_of_lt_of_le hi hs) (by simp; omega)⟩
/-- what was known of a block is known of a range of it -/
theorem Has.range {w : World} {g N : Nat} {t : TypeId} {f : Nat → Value} (h : Has w g t (tab N f)) (off n : Nat) (hn : off + n ≤ N) : w.rangeAt g off ((List.range n).map fun j => f (off + j)) := fun j v hv => by
  have hj : j < n := by have := (List.getElem?_eq_some_iff.1 hv).1; simpa using this
  rw [h.cellTab (off + j) (by omega), ← hv]
  simp [hj]

/-- a whole array is loaded in a region that only reads -/
theorem q_load {P : Program} {ops : Array Oper} {C : World → Prop} {K : Act → Prop} {a : Act} {op : Oper} (hgd : op.guard = none) (ty : TypeId) (x : Operand) (ho : op.op = .load ty x)
    (b off : Nat) (hx : a.eval x = .pointer (some ⟨b, off, none⟩)) (n : Nat) (f : Nat → Value) (d : TypeDesc) (hc : ∀ w', C w' → w'.rangeAt b off ((List.range n).map f))
    (hu : P.underlying ty = some d) (hd : d.isRow = true) (hi : (P.info? ty).map (·.size) = some n)
    (h : K (a.put op.dst (.agg (tab n f)))) : if Region.wanted op (yielded ops a.tmps) then op.quiet P a C K else K (a.put op.dst undef) := by
  have hw : Region.wanted op (yielded ops a.tmps) = true := by simp [Region.wanted, hgd]
  rw [if_pos hw]
  refine ⟨.agg (tab n f), fun w' hw' => ?_, h⟩
  unfold Oper.quietAt execOp
  simp only [ho, hx, Instr.loadAt, Instr.sureAddr, Sem.run_bind, Sem.run_pure, Result.andThen_ok, run_loadVar_mid w' b off ty _ d (hc w' hw') hu hd (by simpa using hi)]
  exact ⟨rfl, rfl⟩

/-- an operation that gives one value in every world -/
theorem q_val {P : Program} {ops : Array Oper} {C : World → Prop} {K : Act → Prop} {a : Act} {op : Oper} (hgd : op.guard = none) (v : Value)
    (hrun : ∀ w, (execOp a.eval op).run P w = .ok (.value v) w) (h : K (a.put op.dst v)) : if Region.wanted op (yielded ops a.tmps) then op.quiet P a C K else K (a.put op.dst undef) := by
  have hw : Region.wanted op (yielded ops a.tmps) = true := by simp [Region.wanted, hgd]
  rw [if_pos hw]
  refine ⟨v, fun w' _ => ?_, h⟩
  unfold Oper.quietAt
  rw [hrun w']
  exact ⟨rfl, rfl⟩
/-- a call, in a region whose operations keep the class C -/
theorem q_call {P : Program} {ops : Array Oper} {C : World → Prop} {K : Act → Prop} {a : Act} {op : Oper} (hgd : op.guard = none) (fn : FuncId) (args : Array Value)
    (hrun : ∀ w, (execOp a.eval op).run P w = .ok (.enter fn args) w) (v : Value) (hc : ∀ w', C w' → Calls P fn args w' fun e w'' => e = .returned v ∧ C w'')
    (h : K (a.put op.dst v)) : if Region.wanted op (yielded ops a.tmps) then op.quiet P a C K else K (a.put op.dst undef) := by
  have hw : Region.wanted op (yielded ops a.tmps) = true := by simp [Region.wanted, hgd]
  rw [if_pos hw]
  refine ⟨v, fun w' hw' => ?_, h⟩
  unfold Oper.quietAt
  rw [hrun w']
  exact ⟨rfl, hc w' hw'⟩

/-- an array by value goes into a part of a block that is known whole -/
theorem wp_store_tab {P : Program} {w : World} {ops : Array Oper} {rest : List Oper} {op : Oper} {a : Act} {Q : Exit → Act → World → Prop} (hgd : op.guard = none) (ty : TypeId) (x y : Operand) (ho : op.op = .store ty x y)
    (g off : Nat) (hx : a.eval x = .pointer (some ⟨g, off, none⟩)) (n : Nat) (v : Nat → Value) (hy : a.eval y = .agg (tab n v))
    (N : Nat) (f : Nat → Value) (t : TypeId) (hg : Has w g t (tab N f)) (hi : (P.info? ty).map (·.size) = some n) (hfit : off + n ≤ N) (h1 : ∀ j, (v j).oneCell' = true)
    (h : ∀ w', Has w' g t (tab N fun j => if off ≤ j ∧ j < off + n then v (j - off) else f j) → w.grownBy w' (some g) → wpList P ops Q rest (a.put op.dst undef) w') : wpList P ops Q (op :: rest) a w := by
  refine wpList_plain hgd fun K hK => ?_
  have hl : ((List.range n).map v).length = n := by simp
  have hrun := run_storeCells_at (P := P) g off t ((List.range n).map v) 0 (tab N f) w hg (by rw [hl, tab_size]; omega) (fun u hu => by obtain ⟨j, _, rfl⟩ := List.mem_map.1 hu; exact h1 j)
  have e := tab_splice N f v off n hfit
  rw [hl, Nat.add_zero, List.append_assoc, e] at hrun
  have hs : (storeVar ty ⟨g, off, none⟩ (.agg (tab n v))).run P w = .ok () (w.setRow g (tab N fun j => if off ≤ j ∧ j < off + n then v (j - off) else f j)) := by
    cases hq : P.info? ty with
    | none => simp [hq] at hi
    | some i =>
      have hs : i.size = n := by simpa [hq] using hi
      simp [storeVar, sizeOf, typeInfo, hq, Value.cells, hs, tab_size, tab_toList, hrun]
  unfold Oper.wp execOp
  simp only [ho, hx, hy, Instr.storeAt, Instr.sureAddr, Sem.run_bind, Sem.run_pure, Result.andThen_ok, hs]
  exact hK _ _ (h _ (hg.setRow _) ⟨rfl, rfl, rfl, by simp, fun i _ hne => setRow_other w g i _ (fun e => hne (by rw [e]))⟩)
/-- 'copy' into a block that is known whole, from cells elsewhere -/
theorem wp_copy_tab {P : Program} {w : World} {ops : Array Oper} {rest : List Oper} {op : Oper} {a : Act} {Q : Exit → Act → World → Prop} (hgd : op.guard = none) (d s : Operand) (dT sT : TypeId)
    (ho : op.op = .call { callee := .builtin .copy, args := #[d, s], argTypes := #[dT, sT] }) (elem : TypeId) (hu : P.underlying dT = some (.slice elem)) (hsz : (P.info? elem).map (·.size) = some 1)
    (g off dLen dCap b o sLen sCap : Nat) (hd : a.eval d = .slice (some ⟨g, off, none⟩) dLen dCap) (hs : a.eval s = .slice (some ⟨b, o, none⟩) sLen sCap)
    (N : Nat) (f : Nat → Value) (t : TypeId) (hg : Has w g t (tab N f)) (k : Nat) (hk : k = Nat.min sLen dLen) (v : Nat → Value)
    (hsrc : ∀ j, j < k → w.cell? ⟨b, o + j, none⟩ = some (v j)) (hfit : off + k ≤ N) (h1 : ∀ j, (v j).oneCell' = true)
    (h : ∀ w', Has w' g t (tab N fun j => if off ≤ j ∧ j < off + k then v (j - off) else f j) → w.grownBy w' (some g) → wpList P ops Q rest (a.put op.dst (.int .i64 (k : Int))) w') : wpList P ops Q (op :: rest) a w := by
  have hl : ((List.range k).map v).length = k := by simp
  refine wpList_copy_own hgd d s dT sT ho elem hu hsz g off dLen dCap ⟨b, o, none⟩ sLen sCap hd hs (tab N f) t hg ((List.range k).map v) (by rw [hl, hk]) (fun j u hj => ?_) (by rw [hl, tab_size]; exact hfit) (fun u hu => ?_) ?_
  · have hjk : j < k := by have := (List.getElem?_eq_some_iff.1 hj).1; simpa using this
    have e : (⟨b, o, none⟩ : Addr).add j = ⟨b, o + j, none⟩ := Addr.add_mid b o j
    rw [e, hsrc j hjk, ← hj]
    simp [hjk]
  · obtain ⟨j, _, rfl⟩ := List.mem_map.1 hu
    exact h1 j
  · have e := tab_splice N f v off k hfit
    have hh := hg.setRow (((tab N f).toList.take off ++ ((List.range k).map v ++ (tab N f).toList.drop (off + k))).toArray)
    rw [hl]
    rw [e] at hh ⊢
    exact h _ hh ⟨rfl, rfl, rfl, by simp, fun i _ hne => setRow_other w g i _ (fun e => hne (by rw [e]))⟩

end Go.Proofs.YtmgmfifkldpbmaaDoor
namespace Go.Proofs.YtmgmfifkldpbmaaDoor
open Go.RowKit

/-- one above the greatest number -/
def big : Nat := 4294967296 ^ 8
/-- a number's words -/
def nums (x : Nat) : Array Value := tab 8 (dgs .u32 4294967296 x)
/-- a number as the model's value -/
def numV (x : Nat) : Value := .agg (nums x)
def wrd (x j : Nat) : Nat := dg 4294967296 x j
theorem wrd_lt (x j : Nat) : wrd x j < 4294967296 := dg_lt (by decide) x j
theorem zeroNum : (#[Value.int IntKind.u32 0, Value.int IntKind.u32 0, Value.int IntKind.u32 0, Value.int IntKind.u32 0, Value.int IntKind.u32 0, Value.int IntKind.u32 0, Value.int IntKind.u32 0, Value.int IntKind.u32 0] : Array Value) = nums 0 := by kernel_rfl
theorem nums_at {w : World} {g x : Nat} {t : TypeId} (h : Has w g t (nums x)) (j : Nat) (hj : j < 8) : w.cell? ⟨g, j, none⟩ = some (.int .u32 ((wrd x j : Nat) : Int)) := h.cellTab j hj
theorem nums_size (x : Nat) : (nums x).size = 8 := tab_size _ _
theorem nums_set {x k : Nat} (h : k < 8) : (nums (x % 4294967296 ^ k)).setIfInBounds k (.int .u32 ((wrd x k : Nat) : Int)) = nums (x % 4294967296 ^ (k + 1)) := dgs_set (by decide) h
theorem nums_end (x : Nat) : nums (x % 4294967296 ^ 8) = nums x := dgs_mod
theorem nums_start (x : Nat) : nums (x % 4294967296 ^ 0) = nums 0 := by rw [Nat.pow_zero, Nat.mod_one]
/-- a result that lies in a block that is known whole, and one in a slot -/
theorem results_row_tmp {P : Program} {fn : Func} {p u : Tmp} {ty : TypeId} (h : fn.results = #[.cell p ty, .tmp u]) (tmps : Array Value) (w : World) (g : Nat) (t : TypeId) (cs : Array Value) (v : Value) (d : TypeDesc)
    (hp : tmps.getD p undef = .pointer (some ⟨g, 0, none⟩)) (hv : tmps.getD u undef = v) (hg : Has w g t cs)
    (hu : P.underlying ty = some d) (hd : (match d with | .struct _ | .array _ _ => true | _ => false) = true) (hi : (P.info? ty).map (·.size) = some cs.size) :
    (results fn tmps).run P w = .ok (.tuple #[.agg cs, v]) w := by
  rw [results_cell_tmp h, hp, hv]
  simp [asAddr, run_loadVar_row w g t ty cs (0, 0) d hg hu hd hi, Result.andThen]
theorem infoNum (x : Nat) : (Tryd.prog.info? 24).map (·.size) = some (nums x).size := by rw [nums_size]; kernel_rfl

theorem big_pos : 0 < big := by decide +kernel
theorem nums_ne (x : Nat) : ¬ nums x = #[] := fun h => by have := congrArg Array.size h; simp [nums_size] at this
theorem nums_mod (x : Nat) : nums (x % big) = nums x := nums_end x
/-- a new block, stored whole -/
theorem put_new (w : World) (t : TypeId) (cs cs' : Array Value) : Has ((w.alloc (.cells cs t)).setRow w.heap.size cs') w.heap.size t cs' ∧ Below w.heap.size w ((w.alloc (.cells cs t)).setRow w.heap.size cs') :=
  ⟨(Has.new w t cs).setRow cs', below_setRow ((Below.refl _ _).alloc (Nat.le_refl _) _) (Nat.le_refl _) _⟩
theorem Has.after {w w' : World} {g : Nat} {t : TypeId} {cs : Array Value} (h : Has w g t cs) (k : Below w.heap.size w w') : Has w' g t cs := h.below k h.lt
theorem below_trans {a b c : World} (h : Below a.heap.size a b) (k : Below b.heap.size b c) : Below a.heap.size a c := h.trans (k.mono h.size)

theorem put_at (w : World) (t : TypeId) (cs cs' : Array Value) (g : Nat) (h : g = w.heap.size) : Has ((w.alloc (.cells cs t)).setRow g cs') g t cs' ∧ Below w.heap.size w ((w.alloc (.cells cs t)).setRow g cs') := by
  subst h; exact put_new w t cs cs'

end Go.Proofs.YtmgmfifkldpbmaaDoor
namespace Go.Proofs.YtmgmfifkldpbmaaDoor
open Go Go.RowKit

section
variable {P : Program} {w : World} {ops : Array Oper} {rest : List Oper} {o : Oper} {a : Act} {Q : Exit → Act → World → Prop}
theorem wpList_wanted (hw : Region.wanted o (yielded ops a.tmps) = true)
    (h : ∀ K : Act → World → Prop, (∀ a w, wpList P ops Q rest a w → K a w) → o.wp P a w K Q) : wpList P ops Q (o :: rest) a w :=
  wpList_step fun K hK => by rw [if_pos hw]; exact h K hK
/-- a load of a whole array from a block that is known whole -/
theorem wpList_load_has (ty : TypeId) (x : Operand) (ho : o.op = .load ty x) (g : Nat) (hx : a.eval x = .pointer (some ⟨g, 0, none⟩)) (hw : Region.wanted o (yielded ops a.tmps) = true)
    (t : TypeId) (cs : Array Value) (hg : Has w g t cs) (d : TypeDesc) (hu : P.underlying ty = some d) (hd : (match d with | .struct _ | .array _ _ => true | _ => false) = true) (hi : (P.info? ty).map (·.size) = some cs.size)
    (h : wpList P ops Q rest (a.put o.dst (.agg cs)) w) : wpList P ops Q (o :: rest) a w :=
  wpList_wanted hw fun _ hK => wp_load_row ty x ho g hx t cs (0, 0) d hg hu hd hi (hK _ _ h)
/-- .. in a region whose operations keep the class C -/
theorem q_has {C : World → Prop} {K : Act → Prop} (ty : TypeId) (x : Operand) (ho : o.op = .load ty x) (g : Nat) (hx : a.eval x = .pointer (some ⟨g, 0, none⟩))
    (t : TypeId) (cs : Array Value) (hg : ∀ w', C w' → Has w' g t cs) (d : TypeDesc) (hu : P.underlying ty = some d) (hd : (match d with | .struct _ | .array _ _ => true | _ => false) = true) (hi : (P.info? ty).map (·.size) = some cs.size)
    (h : K (a.put o.dst (.agg cs))) : o.quiet P a C K := by
  refine ⟨.agg cs, fun w' hC => ?_, h⟩
  unfold Oper.quietAt execOp
  simp only [ho, hx, Instr.loadAt, Instr.sureAddr, Sem.run_bind, Sem.run_pure, Result.andThen_ok, run_loadVar_row w' g t ty cs (0, 0) d (hg w' hC) hu hd hi]
  exact ⟨rfl, rfl⟩
theorem wpQ_has {C : World → Prop} {L : Act → Prop} (ty : TypeId) (x : Operand) (ho : o.op = .load ty x) (g : Nat) (hx : a.eval x = .pointer (some ⟨g, 0, none⟩)) (hw : Region.wanted o (yielded ops a.tmps) = true)
    (t : TypeId) (cs : Array Value) (hg : ∀ w', C w' → Has w' g t cs) (d : TypeDesc) (hu : P.underlying ty = some d) (hd : (match d with | .struct _ | .array _ _ => true | _ => false) = true) (hi : (P.info? ty).map (·.size) = some cs.size)
    (h : wpQuiet P ops C L rest (a.put o.dst (.agg cs))) : wpQuiet P ops C L (o :: rest) a :=
  wpQuiet_step fun K hK => by rw [if_pos hw]; exact q_has ty x ho g hx t cs hg d hu hd hi (hK _ h)
/-- a call in a region whose operations keep the class C -/
theorem wpQ_call {C : World → Prop} {L : Act → Prop} (fn : FuncId) (args : Array Value) (hw : Region.wanted o (yielded ops a.tmps) = true)
    (hrun : ∀ w, (execOp a.eval o).run P w = .ok (.enter fn args) w) (v : Value) (hc : ∀ w', C w' → Calls P fn args w' fun e w'' => e = .returned v ∧ C w'')
    (h : wpQuiet P ops C L rest (a.put o.dst v)) : wpQuiet P ops C L (o :: rest) a :=
  wpQuiet_step fun K hK => by
    rw [if_pos hw]
    refine ⟨v, fun w' hC => ?_, hK _ h⟩
    unfold Oper.quietAt
    rw [hrun w']
    exact ⟨rfl, hc w' hC⟩
/-- an operation that gives one value in every world -/
theorem wpQ_val {C : World → Prop} {L : Act → Prop} (hw : Region.wanted o (yielded ops a.tmps) = true) (v : Value)
    (hrun : ∀ w, C w → (execOp a.eval o).run P w = .ok (.value v) w) (h : wpQuiet P ops C L rest (a.put o.dst v)) : wpQuiet P ops C L (o :: rest) a :=
  wpQuiet_step fun K hK => by
    rw [if_pos hw]
    refine ⟨v, fun w' hC => ?_, hK _ h⟩
    unfold Oper.quietAt
    rw [hrun w' hC]
    exact ⟨rfl, rfl⟩
/- .. by the kind of the operation: what its operands hold is told beside it, so that no walk sees the whole frame -/
theorem wpQ_move {C : World → Prop} {L : Act → Prop} (x : Operand) (ho : o.op = .move x) (hw : Region.wanted o (yielded ops a.tmps) = true) (X : Value) (hx : a.eval x = X)
    (h : wpQuiet P ops C L rest (a.put o.dst X)) : wpQuiet P ops C L (o :: rest) a :=
  wpQ_val hw X (fun w _ => by simp [execOp, ho, hx]) h
theorem wpQ_assign {C : World → Prop} {L : Act → Prop} (x : Operand) (ho : o.op = .assign x) (hw : Region.wanted o (yielded ops a.tmps) = true) (X : Value) (hx : a.eval x = X)
    (h : wpQuiet P ops C L rest (a.put o.dst X)) : wpQuiet P ops C L (o :: rest) a :=
  wpQ_val hw X (fun w _ => by simp [execOp, ho, hx]) h
theorem wpQ_bin {C : World → Prop} {L : Act → Prop} (op : BinOp) (t : TypeId) (x y : Operand) (t2 : TypeId) (ho : o.op = .binOp op t x y t2) (hw : Region.wanted o (yielded ops a.tmps) = true) (X Y : Value) (hx : a.eval x = X) (hy : a.eval y = Y) (v : Value)
    (hrun : ∀ w, C w → (do eqGuard op t x y X Y; binOp op t X Y : Sem Value).run P w = .ok v w) (h : wpQuiet P ops C L rest (a.put o.dst v)) : wpQuiet P ops C L (o :: rest) a :=
  wpQ_val hw v (fun w hC => by
    have := hrun w hC
    simp only [execOp, ho, hx, hy]
    rw [Sem.run_bind, this]
    rfl) h
theorem wpQ_un {C : World → Prop} {L : Act → Prop} (op : UnOp) (t : TypeId) (x : Operand) (ho : o.op = .unOp op t x) (hw : Region.wanted o (yielded ops a.tmps) = true) (X : Value) (hx : a.eval x = X) (v : Value)
    (hrun : ∀ w, C w → (Op.unary op X).run P w = .ok v w) (h : wpQuiet P ops C L rest (a.put o.dst v)) : wpQuiet P ops C L (o :: rest) a :=
  wpQ_val hw v (fun w hC => by
    have := hrun w hC
    simp only [execOp, ho, hx]
    rw [Sem.run_bind, this]
    rfl) h
theorem wpQ_conv {C : World → Prop} {L : Act → Prop} (s d : TypeId) (x : Operand) (ho : o.op = .convert s d x) (hw : Region.wanted o (yielded ops a.tmps) = true) (X : Value) (hx : a.eval x = X) (v : Value)
    (hrun : ∀ w, C w → (convert s d X).run P w = .ok v w) (h : wpQuiet P ops C L rest (a.put o.dst v)) : wpQuiet P ops C L (o :: rest) a :=
  wpQ_val hw v (fun w hC => by
    have := hrun w hC
    simp only [execOp, ho, hx]
    rw [Sem.run_bind, this]
    rfl) h
theorem wpQ_pick {C : World → Prop} {L : Act → Prop} (c x y : Operand) (ho : o.op = .pick c x y) (hw : Region.wanted o (yielded ops a.tmps) = true) (b : Bool) (hc : a.eval c = .bool b) (v : Value)
    (hv : (if b then a.eval x else a.eval y) = v) (h : wpQuiet P ops C L rest (a.put o.dst v)) : wpQuiet P ops C L (o :: rest) a :=
  wpQ_val hw v (fun w _ => by
    subst hv
    simp only [execOp, ho, hc]
    cases b <;> rfl) h
theorem wpQ_build {C : World → Prop} {L : Act → Prop} (t : TypeId) (ho : o.op = .build t #[]) (hw : Region.wanted o (yielded ops a.tmps) = true) (v : Value)
    (hrun : ∀ w, C w → (Instr.build t #[]).run P w = .ok v w) (h : wpQuiet P ops C L rest (a.put o.dst v)) : wpQuiet P ops C L (o :: rest) a :=
  wpQ_val hw v (fun w hC => by
    have := hrun w hC
    simp only [execOp, ho]
    rw [Sem.run_bind]
    simp only [Array.map_empty]
    rw [this]
    rfl) h
end
/-- the class 'blocks that were there are as they were' after a call -/
theorem below_class {a w' w'' : World} (h : Below a.heap.size a w') (k : Below w'.heap.size w' w'') : Below a.heap.size a w'' := h.trans (k.mono h.size)
end Go.Proofs.YtmgmfifkldpbmaaDoor
namespace Go.Proofs.YtmgmfifkldpbmaaDoor
open Go.RowKit

/-- digit j of 16 bits -/
def hxd (x j : Nat) : Nat := dg 65536 x j
theorem hxd_lt (x j : Nat) : hxd x j < 65536 := dg_lt (by decide) x j
def d16 (x : Nat) : Array Value := tab 16 (dgs .u64 65536 x)
def d17 (x : Nat) : Array Value := tab 17 (dgs .u64 65536 x)
theorem d16_size (x : Nat) : (d16 x).size = 16 := tab_size _ _
theorem d17_size (x : Nat) : (d17 x).size = 17 := tab_size _ _
theorem d16_at {w : World} {g x : Nat} {t : TypeId} (h : Has w g t (d16 x)) (j : Nat) (hj : j < 16) : w.cell? ⟨g, j, none⟩ = some (.int .u64 ((hxd x j : Nat) : Int)) := h.cellTab j hj
theorem d17_at {w : World} {g x : Nat} {t : TypeId} (h : Has w g t (d17 x)) (j : Nat) (hj : j < 17) : w.cell? ⟨g, j, none⟩ = some (.int .u64 ((hxd x j : Nat) : Int)) := h.cellTab j hj
theorem info16 (x : Nat) : (Tryd.prog.info? 32).map (·.size) = some (d16 x).size := by rw [d16_size]; kernel_rfl
theorem info17 (x : Nat) : (Tryd.prog.info? 89).map (·.size) = some (d17 x).size := by rw [d17_size]; kernel_rfl
theorem zero16 : (#[Value.int IntKind.u64 0, Value.int IntKind.u64 0, Value.int IntKind.u64 0, Value.int IntKind.u64 0, Value.int IntKind.u64 0, Value.int IntKind.u64 0, Value.int IntKind.u64 0, Value.int IntKind.u64 0, Value.int IntKind.u64 0, Value.int IntKind.u64 0, Value.int IntKind.u64 0, Value.int IntKind.u64 0, Value.int IntKind.u64 0, Value.int IntKind.u64 0, Value.int IntKind.u64 0, Value.int IntKind.u64 0] : Array Value) = d16 0 := by kernel_rfl
theorem zero17 : (#[Value.int IntKind.u64 0, Value.int IntKind.u64 0, Value.int IntKind.u64 0, Value.int IntKind.u64 0, Value.int IntKind.u64 0, Value.int IntKind.u64 0, Value.int IntKind.u64 0, Value.int IntKind.u64 0, Value.int IntKind.u64 0, Value.int IntKind.u64 0, Value.int IntKind.u64 0, Value.int IntKind.u64 0, Value.int IntKind.u64 0, Value.int IntKind.u64 0, Value.int IntKind.u64 0, Value.int IntKind.u64 0, Value.int IntKind.u64 0] : Array Value) = d17 0 := by kernel_rfl
theorem d16_set {x k : Nat} (h : k < 16) : (d16 (x % 65536 ^ k)).setIfInBounds k (.int .u64 ((hxd x k : Nat) : Int)) = d16 (x % 65536 ^ (k + 1)) := dgs_set (by decide) h
theorem d17_set {x k : Nat} (h : k < 17) : (d17 (x % 65536 ^ k)).setIfInBounds k (.int .u64 ((hxd x k : Nat) : Int)) = d17 (x % 65536 ^ (k + 1)) := dgs_set (by decide) h
theorem d16_end (x : Nat) : d16 (x % 65536 ^ 16) = d16 x := dgs_mod
theorem d17_end (x : Nat) : d17 (x % 65536 ^ 17) = d17 x := dgs_mod
theorem big_hex : big = 65536 ^ 16 := by decide +kernel
theorem word_hex (x k : Nat) : wrd x (k / 2) / 65536 ^ (k % 2) % 65536 = hxd x k := by
  have h := dg_dg (b := 65536) (m := 2) (x := x) (q := k / 2) (r := k % 2) (by omega)
  rw [Nat.div_add_mod] at h
  unfold hxd
  rw [← h]
  rfl
theorem hex_word (x k : Nat) : (wrd (x % 65536 ^ k) (k / 2) + hxd x k * 65536 ^ (k % 2) % 4294967296) % 4294967296 = wrd (x % 65536 ^ (k + 1)) (k / 2) := acc_here (b := 65536) (m := 2) (by decide) x k
theorem nums_hex (x k : Nat) : (nums (x % 65536 ^ k)).setIfInBounds (k / 2) (.int .u32 ((wrd (x % 65536 ^ (k + 1)) (k / 2) : Nat) : Int)) = nums (x % 65536 ^ (k + 1)) := by
  unfold nums
  rw [tab_set]
  apply tab_ext
  intro j _
  by_cases h : j = k / 2
  · rw [if_pos h, h]; rfl
  · rw [if_neg h]
    unfold dgs
    have : dg 4294967296 (x % 65536 ^ (k + 1)) j = dg 4294967296 (x % 65536 ^ k) j := acc_other (b := 65536) (m := 2) (by decide) (by decide) x k j h
    rw [this]

attribute [local go_sem] zeroNum zero16 zero17
set_option maxRecDepth 100000 in
set_option maxHeartbeats 1000000 in
theorem of3_any (x : Nat) (w : World) :
    Calls Tryd.prog 14 #[.agg (nums x)] w fun e w' => e = .returned (.agg (d16 x)) ∧ Below w.heap.size w w' := by
  go_enter Tryd.func14, Tryd.ntmps14
  go_wp2_with fail
  go_loopw [4] (fun ct wr => ∃ k : Nat, k ≤ 16 ∧ ct = .int .i64 k ∧ Has wr w.heap.size 23 (nums x) ∧ Has wr (w.heap.size + 1) 32 (d16 0) ∧
      Has wr (w.heap.size + 1 + 1) 32 (d16 (x % 65536 ^ k)) ∧ Below w.heap.size w wr) (fun ct _ => 16 - (intOf ct).toNat)
  case atStart =>
    exact ⟨0, by omega, rfl, ((Has.new w _ _).alloc _).alloc _, (Has.new' (by simp)).alloc _, by rw [Nat.pow_zero, Nat.mod_one]; exact Has.new' (by simp),
      (((Below.refl _ _).alloc (Nat.le_refl _) _).alloc (by simp) _).alloc (by simp <;> omega) _⟩
  case round =>
    obtain ⟨k, hk, rfl, h0, h1, h2, hb⟩ := hrel
    by_cases hlt : k < 16
    · have c0 := nums_at h0 (k / 2) (by omega)
      have dk : (k : Int) < 16 := by omega
      have e1 : (k : Int).tdiv 2 = ((k / 2 : Nat) : Int) := by rw [Int.tdiv_eq_ediv_of_nonneg (by omega)]; omega
      have hw := word_hex x k
      have hl : ((wrd x (k / 2) : Nat) : Int) < 4294967296 := by have := wrd_lt x (k / 2); omega
      have c2 := h2.cellTab k hlt
      have f2 := h2.free k
      rcases (show k % 2 = 0 ∨ k % 2 = 1 by omega) with hr | hr
      · have e2 : (k : Int).tmod 2 = 0 := by rw [Int.tmod_eq_emod_of_nonneg (by omega)]; omega
        rw [hr] at hw
        have hw2 : ((wrd x (k / 2) : Nat) : Int) % 65536 = ((hxd x k : Nat) : Int) := by rw [← hw]; omega
        go_wp2_with fail
        go_roundw
        case rel => exact ⟨k + 1, by omega, by go_num, h0.far (by simp <;> omega) _, h1.far (by simp <;> omega) _, by rw [← d16_set hlt]; exact h2.set k _, hb.setCell (by simp <;> omega) _⟩
        case measure => simp [intOf]; omega
      · have e2 : (k : Int).tmod 2 = 1 := by rw [Int.tmod_eq_emod_of_nonneg (by omega)]; omega
        rw [hr] at hw
        have hw2 : ((wrd x (k / 2) : Nat) : Int) / 65536 % 65536 = ((hxd x k : Nat) : Int) := by rw [← hw]; omega
        go_wp2_with fail
        go_roundw
        case rel => exact ⟨k + 1, by omega, by go_num, h0.far (by simp <;> omega) _, h1.far (by simp <;> omega) _, by rw [← d16_set hlt]; exact h2.set k _, hb.setCell (by simp <;> omega) _⟩
        case measure => simp [intOf]; omega
    · have e256 : k = 16 := by omega
      have h2' : Has wr (w.heap.size + 1 + 1) 32 (d16 x) := by rw [e256, d16_end] at h2; exact h2
      have dk : ¬ (k : Int) < 16 := by omega
      clear e256 hk h0 h2
      go_wp2_with (first | refine wpList_load_row rfl 32 _ rfl (w.heap.size + 1 + 1) rfl 32 _ _ _ h2' Tryd.underlying32 rfl (info16 _) ?_ | refine wpList_store_row rfl 32 _ _ rfl (w.heap.size + 1) _ rfl rfl 32 _ h1 (info16 _) (by simp only [d16_size]) (tab_oneCell _ _ fun _ => rfl) ?_)
      exact bodyPost_ret (v := .agg (d16 x)) (results_cell_row rfl _ _ (w.heap.size + 1) 32 _ _ _ rfl (h1.setRow _) Tryd.underlying32 rfl (info16 _)) rfl ⟨rfl, below_setRow hb (by omega) _⟩

set_option maxRecDepth 100000 in
set_option maxHeartbeats 1000000 in
theorem words3_any (x : Nat) (w : World) (hx : x < big) :
    Calls Tryd.prog 22 #[.agg (d16 x)] w fun e w' => e = .returned (.agg (nums x)) ∧ Below w.heap.size w w' := by
  have HX := Lib.hid hx
  clear hx
  go_enter Tryd.func22, Tryd.ntmps22
  go_wp2_with fail
  go_loopw [4] (fun ct wr => ∃ k : Nat, k ≤ 16 ∧ ct = .int .i64 k ∧ Has wr w.heap.size 32 (d16 x) ∧ Has wr (w.heap.size + 1) 23 (nums 0) ∧
      Has wr (w.heap.size + 1 + 1) 23 (nums (x % 65536 ^ k)) ∧ Below w.heap.size w wr) (fun ct _ => 16 - (intOf ct).toNat)
  case atStart =>
    exact ⟨0, by omega, rfl, ((Has.new w _ _).alloc _).alloc _, (Has.new' (by simp)).alloc _, by rw [Nat.pow_zero, Nat.mod_one]; exact Has.new' (by simp),
      (((Below.refl _ _).alloc (Nat.le_refl _) _).alloc (by simp) _).alloc (by simp <;> omega) _⟩
  case round =>
    obtain ⟨k, hk, rfl, h0, h1, h2, hb⟩ := hrel
    by_cases hlt : k < 16
    · have c0 := d16_at h0 k hlt
      have dk : (k : Int) < 16 := by omega
      have e1 : (k : Int).tdiv 2 = ((k / 2 : Nat) : Int) := by rw [Int.tdiv_eq_ediv_of_nonneg (by omega)]; omega
      have hw := hex_word x k
      have hl : ((hxd x k : Nat) : Int) < 65536 := by have := hxd_lt x k; omega
      have c2 := nums_at h2 (k / 2) (by omega)
      have f2 := h2.free (k / 2)
      rcases (show k % 2 = 0 ∨ k % 2 = 1 by omega) with hr | hr
      · have e2 : (k : Int).tmod 2 = 0 := by rw [Int.tmod_eq_emod_of_nonneg (by omega)]; omega
        rw [hr] at hw
        have hw2 : (((wrd (x % 65536 ^ k) (k / 2) : Nat) : Int) + ((hxd x k : Nat) : Int)) % 4294967296 = ((wrd (x % 65536 ^ (k + 1)) (k / 2) : Nat) : Int) := by rw [← hw]; omega
        go_wp2_with fail
        go_region
        all_goals
          go_wp2_with fail
          go_roundw
        all_goals first
          | (refine ⟨k + 1, by omega, by go_num, h0.drew.far (by simp <;> omega) _, h1.drew.far (by simp <;> omega) _, ?_, (below_drewN hb 1).setCell (by simp <;> omega) _⟩
             rw [← nums_hex]
             exact h2.drew.set (k / 2) _)
          | (simp [intOf]; omega)
      · have e2 : (k : Int).tmod 2 = 1 := by rw [Int.tmod_eq_emod_of_nonneg (by omega)]; omega
        rw [hr] at hw
        have hw2 : (((wrd (x % 65536 ^ k) (k / 2) : Nat) : Int) + ((hxd x k : Nat) : Int) * 65536) % 4294967296 = ((wrd (x % 65536 ^ (k + 1)) (k / 2) : Nat) : Int) := by rw [← hw]; omega
        go_wp2_with fail
        go_region
        all_goals
          go_wp2_with fail
          go_roundw
        all_goals first
          | (refine ⟨k + 1, by omega, by go_num, h0.drew.far (by simp <;> omega) _, h1.drew.far (by simp <;> omega) _, ?_, (below_drewN hb 1).setCell (by simp <;> omega) _⟩
             rw [← nums_hex]
             exact h2.drew.set (k / 2) _)
          | (simp [intOf]; omega)
    · have e256 : k = 16 := by omega
      have h2' : Has wr (w.heap.size + 1 + 1) 23 (nums x) := by rw [e256, ← big_hex, Nat.mod_eq_of_lt HX.out] at h2; exact h2
      have dk : ¬ (k : Int) < 16 := by omega
      have hz : (Tryd.prog.info? 23).map (·.size) = some (nums x).size := by rw [nums_size]; kernel_rfl
      clear e256 hk h0 h2
      go_wp2_with (first | refine wpList_load_row rfl 23 _ rfl (w.heap.size + 1 + 1) rfl 23 _ _ _ h2' Tryd.underlying23 rfl hz ?_ | refine wpList_store_row rfl 23 _ _ rfl (w.heap.size + 1) _ rfl rfl 23 _ h1 hz (by simp only [nums_size]) (tab_oneCell _ _ fun _ => rfl) ?_)
      exact bodyPost_ret (v := .agg (nums x)) (results_cell_row rfl _ _ (w.heap.size + 1) 23 _ _ _ rfl (h1.setRow _) Tryd.underlying23 rfl hz) rfl ⟨rfl, below_setRow hb (by omega) _⟩
end Go.Proofs.YtmgmfifkldpbmaaDoor
namespace Go.Proofs.YtmgmfifkldpbmaaDoor
open Go.RowKit

def ltB (x y : Nat) : Bool := decide (x < y)
theorem ltB_dg (x y k : Nat) (h : x / 65536 ^ (k + 1) = y / 65536 ^ (k + 1)) (hne : hxd x k ≠ hxd y k) : ltB x y = decide (hxd x k < hxd y k) := less_dig 65536 x y k h hne
set_option maxRecDepth 100000 in
set_option maxHeartbeats 1000000 in
theorem less3_any (x y : Nat) (w : World) (hx : x < 65536 ^ 17) (hy : y < 65536 ^ 16) :
    Calls Tryd.prog 55 #[.agg (d17 x), .agg (d16 y)] w fun e w' => e = .returned (.bool (ltB x y)) ∧ Below w.heap.size w w' := by
  have h0 : Has ((w.alloc (.cells (d17 x) 89)).alloc (.cells (d16 y) 32)) w.heap.size 89 (d17 x) := (Has.new w _ _).alloc _
  have h1 : Has ((w.alloc (.cells (d17 x) 89)).alloc (.cells (d16 y) 32)) (w.heap.size + 1) 32 (d16 y) := Has.new' (by simp)
  have hb0 : Below w.heap.size w ((w.alloc (.cells (d17 x) 89)).alloc (.cells (d16 y) 32)) := ((Below.refl _ _).alloc (Nat.le_refl _) _).alloc (by simp) _
  have c16 := d17_at h0 16 (by decide)
  have hl16 := hxd_lt x 16
  have htop : hxd x 16 = x / 65536 ^ 16 := by
    unfold hxd dg
    exact Nat.mod_eq_of_lt (by rw [Nat.div_lt_iff_lt_mul (Nat.pow_pos (by decide)), ← Nat.pow_succ']; exact hx)
  by_cases hz : 0 < hxd x 16
  · have hf : ltB x y = false := by
      unfold ltB
      rw [htop] at hz
      have : ¬ x < 65536 ^ 16 := fun h => by rw [Nat.div_eq_of_lt h] at hz; omega
      exact decide_eq_false (by omega)
    have HF := Lib.hid hf
    have hd : decide (0 < hxd x 16) = true := by simp; omega
    clear hf hx hy htop
    go_enter Tryd.func55, Tryd.ntmps55
    go_wp2_with fail
    go_ret
    exact ⟨by rw [HF.out]; rfl, hb0⟩
  · have h16 : x / 65536 ^ 16 = y / 65536 ^ 16 := by rw [Nat.div_eq_of_lt hy]; omega
    have H := Lib.hid h16
    have hd : decide (0 < hxd x 16) = false := by simp; omega
    clear hx hy htop h16 hz
    go_enter Tryd.func55, Tryd.ntmps55
    go_wp2_with fail
    clear c16 hl16 hd
    go_loopw [5] (fun ct wr => ∃ k : Nat, k ≤ 16 ∧ ct = .int .i64 ((k : Int) - 1) ∧ Hid (x / 65536 ^ k = y / 65536 ^ k) ∧ Has wr w.heap.size 89 (d17 x) ∧ Has wr (w.heap.size + 1) 32 (d16 y) ∧ Below w.heap.size w wr) (fun ct _ => (intOf ct + 1).toNat)
    case atStart => exact ⟨16, by omega, rfl, H, h0, h1, hb0⟩
    case round =>
      clear h0 h1 hb0
      obtain ⟨k, hk, rfl, HK, h0, h1, hb⟩ := hrel
      clear H
      by_cases hlt : 0 < k
      · obtain ⟨k, rfl⟩ : ∃ j, k = j + 1 := ⟨k - 1, by omega⟩
        have ek : ((k + 1 : Nat) : Int) - 1 = (k : Int) := by omega
        rw [ek]
        clear ek
        have c0 := d17_at h0 k (by omega)
        have c1 := d16_at h1 k (by omega)
        have dk : (k : Int) < 16 := by omega
        by_cases he : hxd x k = hxd y k
        · have hd : (((hxd x k : Nat) : Int) == ((hxd y k : Nat) : Int)) = true := beq_iff_eq.2 (by omega)
          have HK' : Hid (x / 65536 ^ k = y / 65536 ^ k) := Lib.hid (by
            have e1 := div_stepB 65536 x k
            have e2 := div_stepB 65536 y k
            unfold hxd at he
            rw [e1, e2, HK.out, he])
          clear he HK
          go_wp2_with fail
          go_quiet (fail)
          go_wp2_with fail
          go_roundw
          case rel => exact ⟨k, by omega, by go_num, HK', h0.drewN _, h1.drewN _, below_drewN hb _⟩
          case measure => simp [intOf] <;> omega
        · have hd : (((hxd x k : Nat) : Int) == ((hxd y k : Nat) : Int)) = false := beq_eq_false_iff_ne.2 (by omega)
          have hl := ltB_dg x y k HK.out he
          have HL := Lib.hid hl
          clear he HK hl
          go_wp2_with fail
          go_quiet (fail)
          replace h0 := h0.drewN nq
          replace h1 := h1.drewN nq
          replace hb := below_drewN hb nq
          clear c0 c1
          generalize hq : Go.World.drewN _ nq = wr at *
          clear hq
          have c0 := d17_at h0 k (by omega)
          have c1 := d16_at h1 k (by omega)
          go_wp2_with fail
          go_quiet (fail)
          go_wp2_with fail
          go_ret
          exact ⟨by rw [HL.out]; rfl, below_drewN hb _⟩
      · have e0 : k = 0 := by omega
        subst e0
        have hf : ltB x y = false := by
          have := HK.out
          rw [Nat.pow_zero, Nat.div_one, Nat.div_one] at this
          simp [ltB, this]
        have HF := Lib.hid hf
        clear HK hf
        go_wp2_with fail
        go_ret
        exact ⟨by rw [HF.out]; rfl, hb⟩

/-- the first k digits of D, the others a's -/
def mixT (D a k j : Nat) : Value := .int .u64 (((if j < k then hxd D j else hxd a j) : Nat) : Int)
theorem mixT_zero (D a : Nat) : tab 17 (mixT D a 0) = d17 a := tab_ext _ _ _ fun j _ => by simp [mixT, dgs, hxd]
theorem mixT_end (D a : Nat) : tab 17 (mixT D a 17) = d17 D := tab_ext _ _ _ fun j hj => by simp [mixT, dgs, hxd, hj]
theorem mixT_at {w : World} {g : Nat} {t : TypeId} {D a k : Nat} (h : Has w g t (tab 17 (mixT D a k))) (hk : k < 17) : w.cell? ⟨g, k, none⟩ = some (.int .u64 ((hxd a k : Nat) : Int)) := by
  rw [h.cellTab k hk]
  simp [mixT]
theorem mixT_set (D a k : Nat) : (tab 17 (mixT D a k)).setIfInBounds k (.int .u64 ((hxd D k : Nat) : Int)) = tab 17 (mixT D a (k + 1)) := by
  rw [tab_set]
  apply tab_ext
  intro j _
  by_cases h : j = k
  · subst h; simp [mixT]
  · simp only [mixT, if_neg h]
    by_cases h2 : j < k
    · rw [if_pos h2, if_pos (by omega)]
    · rw [if_neg h2, if_neg (by omega)]
def bor3 (a b k : Nat) : Nat := bor 65536 a b k
theorem bor3_le (a b k : Nat) : bor3 a b k ≤ 1 := bor_le _ a b k
theorem take_lo (a b k : Nat) (hk : k < 17) (hb : b < 65536 ^ 17) : (((hxd a k : Nat) : Int) + 65536 - ((hxd b k : Nat) : Int) - ((bor3 a b k : Nat) : Int)) % 65536 = ((hxd (a + 65536 ^ 17 - b) k : Nat) : Int) := by
  have h : (hxd a k + 2 * 65536 - hxd b k - bor3 a b k) % 65536 = hxd (a + 65536 ^ 17 - b) k := sub_dg (by decide) hk hb
  have h1 := hxd_lt b k
  have h2 := bor3_le a b k
  rw [← h]; omega
theorem take_hi (a b k : Nat) : (1 : Int) - (((hxd a k : Nat) : Int) + 65536 - ((hxd b k : Nat) : Int) - ((bor3 a b k : Nat) : Int)) / 65536 = ((bor3 a b (k + 1) : Nat) : Int) := by
  have h : (if hxd a k < hxd b k + bor3 a b k then 1 else 0) = bor3 a b (k + 1) := bor_step (by decide) a b k
  have h1 := hxd_lt b k
  have h2 := bor3_le a b k
  have h3 := hxd_lt a k
  rw [← h]
  split <;> omega

attribute [local go_sem] zeroNum zero16 zero17
set_option maxRecDepth 100000 in
set_option maxHeartbeats 1000000 in
theorem take_any (a b : Nat) (w : World) (_ha : a < 65536 ^ 17) (hb : b < 65536 ^ 16) (hle : b ≤ a) :
    Calls Tryd.prog 56 #[.agg (d17 a), .agg (d16 b)] w fun e w' => e = .returned (.agg (d17 (a - b))) ∧ Below w.heap.size w w' := by
  have hD : d17 (a + 65536 ^ 17 - b) = d17 (a - b) := by
    unfold d17
    refine dgs_congr ?_
    rw [show a + 65536 ^ 17 - b = a - b + 65536 ^ 17 by omega, Nat.add_mod_right]
  have hb17 : b < 65536 ^ 17 := Nat.lt_of_lt_of_le hb (Nat.pow_le_pow_right (by decide) (by decide))
  have hlo := fun k (hk : k < 17) => take_lo a b k hk hb17
  have hhi := take_hi a b
  have hb16 : hxd b 16 = 0 := dg_top (by decide) hb (Nat.le_refl _)
  rw [← hD]
  obtain ⟨D, hDD⟩ : ∃ D, D = a + 65536 ^ 17 - b := ⟨_, rfl⟩
  rw [← hDD] at hlo ⊢
  have HLO := Lib.hid hlo
  have HHI := Lib.hid hhi
  clear hD hb17 hDD _ha hb hle hlo hhi
  go_enter Tryd.func56, Tryd.ntmps56
  go_wp2_with fail
  go_loopw [5, 6, 7, 8] (fun cc ct _ _ wr => ∃ k : Nat, k ≤ 17 ∧ ct = .int .i64 k ∧ cc = .int .u64 ((bor3 a b k : Nat) : Int) ∧ Has wr w.heap.size 89 (tab 17 (mixT D a k)) ∧ Has wr (w.heap.size + 1) 32 (d16 b) ∧
      Has wr (w.heap.size + 1 + 1) 89 (d17 0) ∧ Below w.heap.size w wr) (fun _ ct _ _ _ => 17 - (intOf ct).toNat)
  case atStart =>
    exact ⟨0, by omega, rfl, by rw [bor3, bor_zero]; rfl, by rw [mixT_zero]; exact ((Has.new w _ _).alloc _).alloc _, (Has.new' (by simp)).alloc _, Has.new' (by simp),
      (((Below.refl _ _).alloc (Nat.le_refl _) _).alloc (by simp) _).alloc (by simp <;> omega) _⟩
  case round =>
    obtain ⟨k, hk, rfl, rfl, h0, h1, h2, hb⟩ := hrel
    by_cases hlt : k < 17
    · have c0 := mixT_at h0 hlt
      have dk : (k : Int) < 17 := by omega
      have l0 : ((hxd a k : Nat) : Int) < 65536 := by have := hxd_lt a k; omega
      have l2 : ((bor3 a b k : Nat) : Int) ≤ 1 := by have := bor3_le a b k; omega
      have e1 := HLO.out k hlt
      have e2 := HHI.out k
      have f0 := h0.free k
      by_cases h16 : k < 16
      · have c1 := d16_at h1 k h16
        have d16k : (k : Int) < 16 := by omega
        have l1 : ((hxd b k : Nat) : Int) < 65536 := by have := hxd_lt b k; omega
        go_wp2_with fail
        go_roundw
        case rel => exact ⟨k + 1, by omega, by go_num, by rw [← e2], by rw [← mixT_set, ← e1]; exact h0.set k _, h1.far (by simp <;> omega) _, h2.far (by simp <;> omega) _, hb.setCell (by simp <;> omega) _⟩
        case measure => simp [intOf]; omega
      · have ek : k = 16 := by omega
        have d16k : ¬ (k : Int) < 16 := by omega
        have hz : ((hxd b k : Nat) : Int) = 0 := by rw [ek, hb16]; rfl
        rw [hz] at e1 e2
        simp only [Int.sub_zero] at e1 e2
        clear ek
        go_wp2_with fail
        go_roundw
        case rel => exact ⟨k + 1, by omega, by go_num, by rw [← e2], by rw [← mixT_set, ← e1]; exact h0.set k _, h1.far (by simp <;> omega) _, h2.far (by simp <;> omega) _, hb.setCell (by simp <;> omega) _⟩
        case measure => simp [intOf]; omega
    · have e17 : k = 17 := by omega
      have h0' : Has wr w.heap.size 89 (d17 D) := by rw [e17, mixT_end] at h0; exact h0
      have dk : ¬ (k : Int) < 17 := by omega
      clear e17 hk h0 h1
      go_wp2_with (first | refine wpList_load_row rfl 89 _ rfl w.heap.size rfl 89 _ _ _ h0' Tryd.underlying89 rfl (info17 _) ?_ | refine wpList_store_row rfl 89 _ _ rfl (w.heap.size + 1 + 1) _ rfl rfl 89 _ h2 (info17 _) (by simp only [d17_size]) (tab_oneCell _ _ fun _ => rfl) ?_)
      exact bodyPost_ret (v := .agg (d17 D)) (results_cell_row rfl _ _ (w.heap.size + 1 + 1) 89 _ _ _ rfl (h2.setRow _) Tryd.underlying89 rfl (info17 _)) rfl ⟨rfl, below_setRow hb (by omega) _⟩
end Go.Proofs.YtmgmfifkldpbmaaDoor
namespace Go.Proofs.YtmgmfifkldpbmaaDoor
open Go.RowKit

/-- the first sixteen cells of seventeen, as a number -/
theorem wpList_load_d16 {P : Program} {ops : Array Oper} {rest : List Oper} {op : Oper} {a : Act} {w : World} {Q : Exit → Act → World → Prop} (hgd : op.guard = none) (ty : TypeId) (x : Operand) (ho : op.op = .load ty x)
    (b : Nat) (hx : a.eval x = .pointer (some ⟨b, 0, none⟩)) (t : TypeId) (R : Nat) (hg : Has w b t (d17 R)) (d : TypeDesc) (hu : P.underlying ty = some d) (hd : d.isRow = true) (hi : (P.info? ty).map (·.size) = some 16)
    (h : wpList P ops Q rest (a.put op.dst (.agg (d16 R))) w) : wpList P ops Q (op :: rest) a w := by
  have hc := hg.range 0 16 (by decide)
  simp only [Nat.zero_add] at hc
  exact wpList_load_mid hgd ty x ho b 0 hx _ d hc hu hd (by simpa using hi) h
theorem info16' : (Tryd.prog.info? 32).map (·.size) = some 16 := by kernel_rfl
theorem slice16 (g : Nat) : ∀ W : World, (Instr.sliceAt 89 (.pointer (some ⟨g, 0, none⟩)) none (some (.int .i64 16)) none).run Tryd.prog W = .ok (.slice (some ⟨g, 0, none⟩) 16 17) W := fun W => by
  have hs : (sizeOf 30).run Tryd.prog W = .ok 1 W := by kernel_rfl
  have e5 : Tryd.prog.elem 89 = 30 := by kernel_rfl
  have e17 : Tryd.prog.arrayLen 89 = 17 := by kernel_rfl
  have h := run_sliceAt_array_h (P := Tryd.prog) (w := W) 89 ⟨g, 0, none⟩ (by kernel_rfl) .i64 16 (by decide) (by rw [e17]; decide)
  rw [h, e5, hs, e17]
  simp [Result.andThen, slicedAt, Addr.add]
theorem array16 (g : Nat) : ∀ W : World, (Instr.arrayAt 32 (.slice (some ⟨g, 0, none⟩) 16 17)).run Tryd.prog W = .ok (.pointer (some ⟨g, 0, none⟩)) W := fun W =>
  run_arrayAt (P := Tryd.prog) (w := W) 32 _ 16 _ 16 17 Tryd.underlying32 (by decide)
theorem mod_of (T m R : Nat) (h : T < 2 * m) (hR : R = if T < m then T else T - m) : R = T % m := by
  subst hR
  by_cases c : T < m
  · rw [if_pos c, Nat.mod_eq_of_lt c]
  · rw [if_neg c, Nat.mod_eq_sub_mod (by omega), Nat.mod_eq_of_lt (by omega)]

def car3 (a c k : Nat) : Nat := carL 65536 2 a c k
theorem car3_le (a c k : Nat) (hc : c ≤ 1) : car3 a c k ≤ 1 := by
  unfold car3 carL
  have h := Nat.mod_lt a (Nat.pow_pos (n := k) (show 0 < 65536 by decide))
  have : (2 * (a % 65536 ^ k) + c) / 65536 ^ k < 2 := by rw [Nat.div_lt_iff_lt_mul (Nat.pow_pos (by decide))]; omega
  omega
theorem twice_lo (a c k : Nat) : ((2 : Int) * ((hxd a k : Nat) : Int) + ((car3 a c k : Nat) : Int)) % 65536 = ((hxd (2 * a + c) k : Nat) : Int) := by
  have h : (2 * hxd a k + car3 a c k) % 65536 = hxd (2 * a + c) k := carL_dg (by decide) 2 a c k
  rw [← h]; omega
theorem twice_hi (a c k : Nat) : ((2 : Int) * ((hxd a k : Nat) : Int) + ((car3 a c k : Nat) : Int)) / 65536 = ((car3 a c (k + 1) : Nat) : Int) := by
  have h : (2 * hxd a k + car3 a c k) / 65536 = car3 a c (k + 1) := carL_step (by decide) 2 a c k
  rw [← h]; omega
theorem top_dig (T c : Nat) (h : T < 2 * 65536 ^ 16) (hc : c = T / 65536 ^ 16) : c = hxd T 16 := by
  subst hc
  unfold hxd dg
  refine (Nat.mod_eq_of_lt ?_).symm
  rw [Nat.div_lt_iff_lt_mul (Nat.pow_pos (by decide))]
  refine Nat.lt_of_lt_of_le h (Nat.mul_le_mul_right _ (by decide))
def car4 (a b k : Nat) : Nat := car 65536 a b k
theorem car4_le (a b k : Nat) : car4 a b k ≤ 1 := car_le (by decide) a b k
theorem sum3_lo (a b k : Nat) : (((hxd a k : Nat) : Int) + ((hxd b k : Nat) : Int) + ((car4 a b k : Nat) : Int)) % 65536 = ((hxd (a + b) k : Nat) : Int) := by
  have h : (hxd a k + hxd b k + car4 a b k) % 65536 = hxd (a + b) k := add_dg (by decide) a b k
  rw [← h]; omega
theorem sum3_hi (a b k : Nat) : (((hxd a k : Nat) : Int) + ((hxd b k : Nat) : Int) + ((car4 a b k : Nat) : Int)) / 65536 = ((car4 a b (k + 1) : Nat) : Int) := by
  have h : (hxd a k + hxd b k + car4 a b k) / 65536 = car4 a b (k + 1) := car_step (by decide) a b k
  rw [← h]; omega

attribute [local go_sem] zeroNum zero16 zero17
set_option maxRecDepth 100000 in
set_option maxHeartbeats 1000000 in
theorem twice_any (a m c : Nat) (w : World) (ha : a < m) (hm : m < 65536 ^ 16) (hc : c ≤ 1) :
    Calls Tryd.prog 54 #[.agg (d16 a), .agg (d16 m), .int .u64 (c : Int)] w fun e w' => e = .returned (.agg (d16 ((2 * a + c) % m))) ∧ Below w.heap.size w w' := by
  have h2 : 2 * a + c < 2 * m := by omega
  have h17 : 2 * a + c < 65536 ^ 17 := by
    have : (65536 : Nat) ^ 17 = 65536 * 65536 ^ 16 := by rw [← Nat.pow_succ']
    omega
  have hcar : car3 a c 16 = hxd (2 * a + c) 16 := top_dig _ _ (by omega) (carL_end (by omega))
  have HC := Lib.hid hcar
  have HT2 := Lib.hid h2
  have HT17 := Lib.hid h17
  have HM16 := Lib.hid hm
  have hcl := fun k => car3_le a c k hc
  have HCL := Lib.hid hcl
  have hc1 : (c : Int) ≤ 1 := by omega
  clear h2 h17 hcar ha hm hc hcl
  go_enter Tryd.func54, Tryd.ntmps54
  go_wp2_with fail
  go_loopw [8, 9, 10] (fun cc ct _ wr => ∃ k : Nat, k ≤ 16 ∧ ct = .int .i64 k ∧ cc = .int .u64 ((car3 a c k : Nat) : Int) ∧ Has wr w.heap.size 32 (d16 a) ∧ Has wr (w.heap.size + 1) 32 (d16 m) ∧
      Has wr (w.heap.size + 1 + 1) 32 (d16 0) ∧ Has wr (w.heap.size + 1 + 1 + 1) 89 (d17 ((2 * a + c) % 65536 ^ k)) ∧ Below w.heap.size w wr) (fun _ ct _ _ => 16 - (intOf ct).toNat)
  case atStart =>
    exact ⟨0, by omega, rfl, by rw [car3, carL_zero], (((Has.new w _ _).alloc _).alloc _).alloc _, ((Has.new' (by simp)).alloc _).alloc _, (Has.new' (by simp)).alloc _, by rw [Nat.pow_zero, Nat.mod_one]; exact Has.new' (by simp),
      ((((Below.refl _ _).alloc (Nat.le_refl _) _).alloc (by simp) _).alloc (by simp <;> omega) _).alloc (by simp <;> omega) _⟩
  case round =>
    obtain ⟨k, hk, rfl, rfl, h0, hm, hr, ht, hb⟩ := hrel
    by_cases hlt : k < 16
    · have c0 := d16_at h0 k hlt
      have dk : (k : Int) < 16 := by omega
      have l0 : ((hxd a k : Nat) : Int) < 65536 := by have := hxd_lt a k; omega
      have l2 : ((car3 a c k : Nat) : Int) ≤ 1 := by have := HCL.out k; omega
      have e1 := twice_lo a c k
      have e2 := twice_hi a c k
      have c3 := ht.cellTab k (by omega)
      have f3 := ht.free k
      go_wp2_with fail
      go_roundw
      case rel => exact ⟨k + 1, by omega, by go_num, by rw [← e2], h0.far (by simp <;> omega) _, hm.far (by simp <;> omega) _, hr.far (by simp <;> omega) _, by rw [← d17_set (by omega), ← e1]; exact ht.set k _, hb.setCell (by simp <;> omega) _⟩
      case measure => simp [intOf]; omega
    · obtain rfl : k = 16 := by omega
      clear h0 hk hlt
      have hT : Has (wr.setCell ⟨(w.heap.size + 1 + 1 + 1), 16, none⟩ (.int .u64 ((car3 a c 16 : Nat) : Int))) ((w.heap.size + 1 + 1 + 1)) 89 (d17 (2 * a + c)) := by
        have h := ht.set 16 (.int .u64 ((car3 a c 16 : Nat) : Int))
        rw [HC.out, d17_set (by decide), d17_end] at h
        rw [HC.out]
        exact h
      have hM := hm.far (a := ⟨(w.heap.size + 1 + 1 + 1), 16, none⟩) (by simp <;> omega) (.int .u64 ((car3 a c 16 : Nat) : Int))
      have hR := hr.far (a := ⟨(w.heap.size + 1 + 1 + 1), 16, none⟩) (by simp <;> omega) (.int .u64 ((car3 a c 16 : Nat) : Int))
      have hB : Below w.heap.size w (wr.setCell ⟨(w.heap.size + 1 + 1 + 1), 16, none⟩ (.int .u64 ((car3 a c 16 : Nat) : Int))) := hb.setCell (by simp <;> omega) _
      have cT := ht.cellTab 16 (by decide)
      have fT := ht.free 16
      have hsl := slice16 ((w.heap.size + 1 + 1 + 1))
      have har := array16 ((w.heap.size + 1 + 1 + 1))
      clear ht hm hr hb
      go_wp2_with (first | refine wpList_load_row rfl 89 _ rfl (w.heap.size + 1 + 1 + 1) rfl 89 _ _ _ hT Tryd.underlying89 rfl (info17 _) ?_ | refine wpList_load_row rfl 32 _ rfl (w.heap.size + 1) rfl 32 _ _ _ hM Tryd.underlying32 rfl (info16 _) ?_)
      refine (less3_any (2 * a + c) m _ HT17.out HM16.out).mono ?_
      rintro e w1 ⟨rfl, hx⟩
      replace hT := hT.below hx hT.lt
      replace hM := hM.below hx hM.lt
      replace hR := hR.below hx hR.lt
      replace hB := hB.trans (hx.mono hB.size)
      clear hx cT fT
      by_cases hlt : 2 * a + c < m
      · have hl : ltB (2 * a + c) m = true := by simp [ltB, hlt]
        have hmod : (2 * a + c) % m = 2 * a + c := Nat.mod_eq_of_lt hlt
        have HMOD := Lib.hid hmod
        clear hmod hlt
        go_wp2_with (first | refine wpList_load_d16 rfl 32 _ rfl ((w.heap.size + 1 + 1 + 1)) rfl 89 _ hT _ Tryd.underlying32 rfl info16' ?_ | refine wpList_store_row rfl 32 _ _ rfl ((w.heap.size + 1 + 1)) _ rfl rfl 32 _ hR (info16 _) (by simp only [d16_size]) (tab_oneCell _ _ fun _ => rfl) ?_)
        exact bodyPost_ret (v := .agg (d16 (2 * a + c))) (results_cell_row rfl _ _ ((w.heap.size + 1 + 1)) 32 _ _ _ rfl (hR.setRow _) Tryd.underlying32 rfl (info16 _)) rfl ⟨by rw [HMOD.out], below_setRow hB (by omega) _⟩
      · have hl : ltB (2 * a + c) m = false := by simp [ltB]; omega
        have hmod : (2 * a + c) % m = 2 * a + c - m := by rw [Nat.mod_eq_sub_mod (by omega), Nat.mod_eq_of_lt (by have := HT2.out; omega)]
        have HMOD := Lib.hid hmod
        have hge : m ≤ 2 * a + c := by omega
        clear hmod hlt
        go_wp2_with (first | refine wpList_load_row rfl 89 _ rfl (w.heap.size + 1 + 1 + 1) rfl 89 _ _ _ hT Tryd.underlying89 rfl (info17 _) ?_ | refine wpList_load_row rfl 32 _ rfl (w.heap.size + 1) rfl 32 _ _ _ hM Tryd.underlying32 rfl (info16 _) ?_)
        refine (take_any (2 * a + c) m _ HT17.out HM16.out hge).mono ?_
        rintro e w2 ⟨rfl, hx⟩
        replace hT := hT.below hx hT.lt
        replace hR := hR.below hx hR.lt
        replace hB := hB.trans (hx.mono hB.size)
        clear hx hM
        have hT2 := hT.setRow (d17 (2 * a + c - m))
        have hR2 := hR.farRow (k := (w.heap.size + 1 + 1 + 1)) (by omega) (d17 (2 * a + c - m))
        have hB2 := below_setRow hB (g := (w.heap.size + 1 + 1 + 1)) (by omega) (d17 (2 * a + c - m))
        go_wp2_with (first | refine wpList_store_row rfl 89 _ _ rfl ((w.heap.size + 1 + 1 + 1)) _ rfl rfl 89 _ hT (info17 _) (by simp only [d17_size]) (tab_oneCell _ _ fun _ => rfl) ?_ | refine wpList_load_d16 rfl 32 _ rfl ((w.heap.size + 1 + 1 + 1)) rfl 89 _ hT2 _ Tryd.underlying32 rfl info16' ?_ | refine wpList_store_row rfl 32 _ _ rfl ((w.heap.size + 1 + 1)) _ rfl rfl 32 _ hR2 (info16 _) (by simp only [d16_size]) (tab_oneCell _ _ fun _ => rfl) ?_)
        exact bodyPost_ret (v := .agg (d16 (2 * a + c - m))) (results_cell_row rfl _ _ ((w.heap.size + 1 + 1)) 32 _ _ _ rfl (hR2.setRow _) Tryd.underlying32 rfl (info16 _)) rfl ⟨by rw [HMOD.out], below_setRow hB2 (by omega) _⟩
set_option maxRecDepth 100000 in
set_option maxHeartbeats 1000000 in
theorem sum3_any (a b m : Nat) (w : World) (ha : a < m) (hbm : b < m) (hm : m < 65536 ^ 16) :
    Calls Tryd.prog 31 #[.agg (d16 a), .agg (d16 b), .agg (d16 m)] w fun e w' => e = .returned (.agg (d16 ((a + b) % m))) ∧ Below w.heap.size w w' := by
  have h2 : a + b < 2 * m := by omega
  have h17 : a + b < 65536 ^ 17 := by
    have : (65536 : Nat) ^ 17 = 65536 * 65536 ^ 16 := by rw [← Nat.pow_succ']
    omega
  have hcar : car4 a b 16 = hxd (a + b) 16 := top_dig _ _ (by omega) (car_end (by omega) (by omega))
  have HC := Lib.hid hcar
  have HT2 := Lib.hid h2
  have HT17 := Lib.hid h17
  have HM16 := Lib.hid hm
  clear h2 h17 hcar ha hbm hm
  go_enter Tryd.func31, Tryd.ntmps31
  go_wp2_with fail
  go_loopw [8, 9, 10] (fun cc ct _ wr => ∃ k : Nat, k ≤ 16 ∧ ct = .int .i64 k ∧ cc = .int .u64 ((car4 a b k : Nat) : Int) ∧ Has wr w.heap.size 32 (d16 a) ∧ Has wr (w.heap.size + 1) 32 (d16 b) ∧ Has wr (w.heap.size + 1 + 1) 32 (d16 m) ∧
      Has wr (w.heap.size + 1 + 1 + 1) 32 (d16 0) ∧ Has wr (w.heap.size + 1 + 1 + 1 + 1) 89 (d17 ((a + b) % 65536 ^ k)) ∧ Below w.heap.size w wr) (fun _ ct _ _ => 16 - (intOf ct).toNat)
  case atStart =>
    exact ⟨0, by omega, rfl, by rw [car4, car_zero]; rfl, ((((Has.new w _ _).alloc _).alloc _).alloc _).alloc _, (((Has.new' (by simp)).alloc _).alloc _).alloc _, ((Has.new' (by simp)).alloc _).alloc _, (Has.new' (by simp)).alloc _, by rw [Nat.pow_zero, Nat.mod_one]; exact Has.new' (by simp),
      (((((Below.refl _ _).alloc (Nat.le_refl _) _).alloc (by simp) _).alloc (by simp <;> omega) _).alloc (by simp <;> omega) _).alloc (by simp <;> omega) _⟩
  case round =>
    obtain ⟨k, hk, rfl, rfl, h0, h1, hm, hr, ht, hb⟩ := hrel
    by_cases hlt : k < 16
    · have c0 := d16_at h0 k hlt
      have c1 := d16_at h1 k hlt
      have dk : (k : Int) < 16 := by omega
      have l0 : ((hxd a k : Nat) : Int) < 65536 := by have := hxd_lt a k; omega
      have l1 : ((hxd b k : Nat) : Int) < 65536 := by have := hxd_lt b k; omega
      have l2 : ((car4 a b k : Nat) : Int) ≤ 1 := by have := car4_le a b k; omega
      have e1 := sum3_lo a b k
      have e2 := sum3_hi a b k
      go_wp2_with fail
      go_quiet (fail)
      replace h0 := h0.drewN nq
      replace h1 := h1.drewN nq
      replace hm := hm.drewN nq
      replace hr := hr.drewN nq
      replace ht := ht.drewN nq
      replace hb := below_drewN hb nq
      clear c0 c1
      generalize hq : Go.World.drewN _ nq = wr at *
      clear hq
      have c3 := ht.cellTab k (by omega)
      have f3 := ht.free k
      go_wp2_with fail
      go_roundw
      case rel => exact ⟨k + 1, by omega, by go_num, by rw [← e2], h0.far (by simp <;> omega) _, h1.far (by simp <;> omega) _, hm.far (by simp <;> omega) _, hr.far (by simp <;> omega) _, by rw [← d17_set (by omega), ← e1]; exact ht.set k _, hb.setCell (by simp <;> omega) _⟩
      case measure => simp [intOf]; omega
    · obtain rfl : k = 16 := by omega
      clear h0 h1 hk hlt
      have hT : Has (wr.setCell ⟨(w.heap.size + 1 + 1 + 1 + 1), 16, none⟩ (.int .u64 ((car4 a b 16 : Nat) : Int))) ((w.heap.size + 1 + 1 + 1 + 1)) 89 (d17 (a + b)) := by
        have h := ht.set 16 (.int .u64 ((car4 a b 16 : Nat) : Int))
        rw [HC.out, d17_set (by decide), d17_end] at h
        rw [HC.out]
        exact h
      have hM := hm.far (a := ⟨(w.heap.size + 1 + 1 + 1 + 1), 16, none⟩) (by simp <;> omega) (.int .u64 ((car4 a b 16 : Nat) : Int))
      have hR := hr.far (a := ⟨(w.heap.size + 1 + 1 + 1 + 1), 16, none⟩) (by simp <;> omega) (.int .u64 ((car4 a b 16 : Nat) : Int))
      have hB : Below w.heap.size w (wr.setCell ⟨(w.heap.size + 1 + 1 + 1 + 1), 16, none⟩ (.int .u64 ((car4 a b 16 : Nat) : Int))) := hb.setCell (by simp <;> omega) _
      have cT := ht.cellTab 16 (by decide)
      have fT := ht.free 16
      have hsl := slice16 ((w.heap.size + 1 + 1 + 1 + 1))
      have har := array16 ((w.heap.size + 1 + 1 + 1 + 1))
      clear ht hm hr hb
      go_wp2_with (first | refine wpList_load_row rfl 89 _ rfl (w.heap.size + 1 + 1 + 1 + 1) rfl 89 _ _ _ hT Tryd.underlying89 rfl (info17 _) ?_ | refine wpList_load_row rfl 32 _ rfl (w.heap.size + 1 + 1) rfl 32 _ _ _ hM Tryd.underlying32 rfl (info16 _) ?_)
      refine (less3_any (a + b) m _ HT17.out HM16.out).mono ?_
      rintro e w1 ⟨rfl, hx⟩
      replace hT := hT.below hx hT.lt
      replace hM := hM.below hx hM.lt
      replace hR := hR.below hx hR.lt
      replace hB := hB.trans (hx.mono hB.size)
      clear hx cT fT
      by_cases hlt : a + b < m
      · have hl : ltB (a + b) m = true := by simp [ltB, hlt]
        have hmod : (a + b) % m = a + b := Nat.mod_eq_of_lt hlt
        have HMOD := Lib.hid hmod
        clear hmod hlt
        go_wp2_with (first | refine wpList_load_d16 rfl 32 _ rfl ((w.heap.size + 1 + 1 + 1 + 1)) rfl 89 _ hT _ Tryd.underlying32 rfl info16' ?_ | refine wpList_store_row rfl 32 _ _ rfl ((w.heap.size + 1 + 1 + 1)) _ rfl rfl 32 _ hR (info16 _) (by simp only [d16_size]) (tab_oneCell _ _ fun _ => rfl) ?_)
        exact bodyPost_ret (v := .agg (d16 (a + b))) (results_cell_row rfl _ _ ((w.heap.size + 1 + 1 + 1)) 32 _ _ _ rfl (hR.setRow _) Tryd.underlying32 rfl (info16 _)) rfl ⟨by rw [HMOD.out], below_setRow hB (by omega) _⟩
      · have hl : ltB (a + b) m = false := by simp [ltB]; omega
        have hmod : (a + b) % m = a + b - m := by rw [Nat.mod_eq_sub_mod (by omega), Nat.mod_eq_of_lt (by have := HT2.out; omega)]
        have HMOD := Lib.hid hmod
        have hge : m ≤ a + b := by omega
        clear hmod hlt
        go_wp2_with (first | refine wpList_load_row rfl 89 _ rfl (w.heap.size + 1 + 1 + 1 + 1) rfl 89 _ _ _ hT Tryd.underlying89 rfl (info17 _) ?_ | refine wpList_load_row rfl 32 _ rfl (w.heap.size + 1 + 1) rfl 32 _ _ _ hM Tryd.underlying32 rfl (info16 _) ?_)
        refine (take_any (a + b) m _ HT17.out HM16.out hge).mono ?_
        rintro e w2 ⟨rfl, hx⟩
        replace hT := hT.below hx hT.lt
        replace hR := hR.below hx hR.lt
        replace hB := hB.trans (hx.mono hB.size)
        clear hx hM
        have hT2 := hT.setRow (d17 (a + b - m))
        have hR2 := hR.farRow (k := (w.heap.size + 1 + 1 + 1 + 1)) (by omega) (d17 (a + b - m))
        have hB2 := below_setRow hB (g := (w.heap.size + 1 + 1 + 1 + 1)) (by omega) (d17 (a + b - m))
        go_wp2_with (first | refine wpList_store_row rfl 89 _ _ rfl ((w.heap.size + 1 + 1 + 1 + 1)) _ rfl rfl 89 _ hT (info17 _) (by simp only [d17_size]) (tab_oneCell _ _ fun _ => rfl) ?_ | refine wpList_load_d16 rfl 32 _ rfl ((w.heap.size + 1 + 1 + 1 + 1)) rfl 89 _ hT2 _ Tryd.underlying32 rfl info16' ?_ | refine wpList_store_row rfl 32 _ _ rfl ((w.heap.size + 1 + 1 + 1)) _ rfl rfl 32 _ hR2 (info16 _) (by simp only [d16_size]) (tab_oneCell _ _ fun _ => rfl) ?_)
        exact bodyPost_ret (v := .agg (d16 (a + b - m))) (results_cell_row rfl _ _ ((w.heap.size + 1 + 1 + 1)) 32 _ _ _ rfl (hR2.setRow _) Tryd.underlying32 rfl (info16 _)) rfl ⟨by rw [HMOD.out], below_setRow hB2 (by omega) _⟩
end Go.Proofs.YtmgmfifkldpbmaaDoor
namespace Go.Proofs.YtmgmfifkldpbmaaDoor
open Go Go.RowKit

section
variable {P : Program} {w : World} {ops : Array Oper} {rest : List Oper} {o : Oper} {a : Act} {C : World → Prop} {L : Act → Prop}
theorem wpQ_indexAddr (t : TypeId) (x i : Operand) (ho : o.op = .indexAddr t x i) (hw : Region.wanted o (yielded ops a.tmps) = true) (X I : Value) (hx : a.eval x = X) (hi : a.eval i = I) (v : Value)
    (hrun : ∀ w, C w → (Instr.indexAt t X I).run P w = .ok v w) (h : wpQuiet P ops C L rest (a.put o.dst v)) : wpQuiet P ops C L (o :: rest) a :=
  wpQ_val hw v (fun w hC => by
    have := hrun w hC
    simp only [execOp, ho, hx, hi]
    rw [Sem.run_bind, this]
    rfl) h
theorem wpQ_load (t : TypeId) (x : Operand) (ho : o.op = .load t x) (hw : Region.wanted o (yielded ops a.tmps) = true) (X : Value) (hx : a.eval x = X) (v : Value)
    (hrun : ∀ w, C w → (Instr.loadAt t X).run P w = .ok v w) (h : wpQuiet P ops C L rest (a.put o.dst v)) : wpQuiet P ops C L (o :: rest) a :=
  wpQ_val hw v (fun w hC => by
    have := hrun w hC
    simp only [execOp, ho, hx]
    rw [Sem.run_bind, this]
    rfl) h
theorem wpQ_slice (t : TypeId) (x : Operand) (lo hi mx : Option Operand) (ho : o.op = .slice t x lo hi mx) (hw : Region.wanted o (yielded ops a.tmps) = true) (X : Value) (hx : a.eval x = X) (l h' m : Option Value) (hl : lo.map a.eval = l) (hh : hi.map a.eval = h') (hm : mx.map a.eval = m) (v : Value)
    (hrun : ∀ w, C w → (Instr.sliceAt t X l h' m).run P w = .ok v w) (h : wpQuiet P ops C L rest (a.put o.dst v)) : wpQuiet P ops C L (o :: rest) a :=
  wpQ_val hw v (fun w hC => by
    have := hrun w hC
    simp only [execOp, ho, hx, hl, hh, hm]
    rw [Sem.run_bind, this]
    rfl) h
theorem wpQ_arrayAt (t : TypeId) (x : Operand) (ho : o.op = .sliceToArrayPointer t x) (hw : Region.wanted o (yielded ops a.tmps) = true) (X : Value) (hx : a.eval x = X) (v : Value)
    (hrun : ∀ w, C w → (Instr.arrayAt t X).run P w = .ok v w) (h : wpQuiet P ops C L rest (a.put o.dst v)) : wpQuiet P ops C L (o :: rest) a :=
  wpQ_val hw v (fun w hC => by
    have := hrun w hC
    simp only [execOp, ho, hx]
    rw [Sem.run_bind, this]
    rfl) h
/-- a call, its function and its arguments told beside it -/
theorem wpQ_fn (fn : FuncId) (cs : Array Operand) (ts : Array TypeId) (ho : o.op = .call { callee := .value (.func fn), args := cs, argTypes := ts }) (hw : Region.wanted o (yielded ops a.tmps) = true) (args : Array Value) (hargs0 : cs.toList.map a.eval = args.toList) (hfn : ∀ w, (callFunc fn args).run P w = .ok (.enter fn args) w) (v : Value)
    (hc : ∀ w', C w' → Calls P fn args w' fun e w'' => e = .returned v ∧ C w'') (h : wpQuiet P ops C L rest (a.put o.dst v)) : wpQuiet P ops C L (o :: rest) a :=
  have hargs : cs.map a.eval = args := by
    apply Array.toList_inj.1
    rw [Array.toList_map]
    exact hargs0
  wpQ_call fn args hw (fun w => by
    unfold execOp
    simp only [ho]
    subst hargs
    go_simp) v hc h
end
end Go.Proofs.YtmgmfifkldpbmaaDoor
