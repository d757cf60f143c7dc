/-
Memory: a block that is known whole, and arrays given by a function of the place.
Digits of a natural number to any base, sums and differences by digits, with what is carried and borrowed.
More on digits: a number built up digit by digit in words of a greater base, twice a number, a digit set anew, half a number.
A region that draws its order, whose operations up to a tail only read or call quietly (in a class of worlds), and whose tail comes in one order: one walk in the order of the text.
Memory, continued: only one block changes; whole arrays loaded, stored, copied in the middle of a block; the steps of a region that only reads, in a class of worlds.
Numbers of eight words: a number as the model's value.
Laws for whole arrays: a load under a guard, in a list of operations and in a region that only reads.
The reference of layer 3: digits of 16 bits: in, back, the order, what is taken away.
The reference of layer 3: which is less, what is taken away.
The reference of layer 3: twice a number, sums, modulo m.
More operations of a region whose operations keep a class of worlds: an address in an array, a cell, a part of a block, a slice.
The reference of layer 3: what is left modulo m, differences, 2^256 modulo m.
Half a number, and a number over 2^256, modulo m: numbers.
The two primes of P-256: what isn't 0 modulo one of them has the power p - 1 equal to 1. By certificates (a root of each prime, the primes of p - 1), checked by the kernel's own arithmetic.
Montgomery's form in numbers: what a product over 2^256 is, and the laws' equalities.
A product over 2^256 word by word: each word's product, and the multiple of the modulus that makes the lowest word zero. Numbers alone.
Words of 32 bits: how the walk's integer operations read as words of 32 bits.
Words of 32 bits: sum and difference with a carry and a borrow.
limbs.Add and limbs.Sub: sums and differences of numbers of eight words.
'==' of two arrays of integers by value.
limbs.Zero, limbs.Compare, limbs.Bit.
-/
import Derived.Test.YtflkhlhpifmocaaDoorRows
import Derived.WalkKit
import Derived.Laws.Rows
import Derived.Deep.Draws
import Derived.KernelRfl
import Derived.StillTail
import Derived.Deep.Quiet
import Derived.Deep.QuietTactic
import Derived.Below
import Derived.Deep.MidRow
import Derived.Laws.CopyOwn
import Derived.WalkSpells
import Derived.WalkLawsBesides
import Derived.Outline
import Derived.BigQuiet
import Derived.BigRegion
import Derived.Lib.Hide
import Derived.IntWalk
import Derived.Laws.ResultCell
import Derived.Deep.WholeRow
import Derived.Deep.RegionWith
import Derived.Laws.Cover3
import Derived.Laws.Slices
import Derived.Laws.BitsAllLaws
import Derived.Laws.StructEq
namespace Go.Proofs.YtflkhlhpifmocaaDoor
open Go Go.RowKit

/-- n values, the j-th is f j -/
def tab (n : Nat) (f : Nat → Value) : Array Value := ((List.range n).map f).toArray
theorem tab_size (n : Nat) (f : Nat → Value) : (tab n f).size = n := by simp [tab]
theorem tab_get (n : Nat) (f : Nat → Value) (i : Nat) (h : i < n) : (tab n f)[i]? = some (f i) := by simp [tab, h]
theorem tab_ext (n : Nat) (f g : Nat → Value) (h : ∀ j, j < n → f j = g j) : tab n f = tab n g := by
  unfold tab; congr 1; apply List.map_congr_left; intro j hj; exact h j (by simpa using hj)
theorem tab_set (n : Nat) (f : Nat → Value) (i : Nat) (v : Value) : (tab n f).setIfInBounds i v = tab n (fun j => if j = i then v else f j) := by
  apply Array.ext
  · simp [tab]
  · intro j h1 h2
    simp only [tab, List.setIfInBounds_toArray, List.getElem_toArray, List.getElem_set, List.getElem_map, List.getElem_range]
    simp only [eq_comm]

/-- a word as the model's value -/
def zeroW : Nat → Value := fun _ => .int .u32 0
theorem zeros64 : (#[Value.int IntKind.u32 0, Value.int IntKind.u32 0, Value.int IntKind.u32 0, Value.int IntKind.u32 0, Value.int IntKind.u32 0, Value.int IntKind.u32 0, Value.int IntKind.u32 0, Value.int IntKind.u32 0, Value.int IntKind.u32 0, Value.int IntKind.u32 0, Value.int IntKind.u32 0, Value.int IntKind.u32 0, Value.int IntKind.u32 0, Value.int IntKind.u32 0, Value.int IntKind.u32 0, Value.int IntKind.u32 0, Value.int IntKind.u32 0, Value.int IntKind.u32 0, Value.int IntKind.u32 0, Value.int IntKind.u32 0, Value.int IntKind.u32 0, Value.int IntKind.u32 0, Value.int IntKind.u32 0, Value.int IntKind.u32 0, Value.int IntKind.u32 0, Value.int IntKind.u32 0, Value.int IntKind.u32 0, Value.int IntKind.u32 0, Value.int IntKind.u32 0, Value.int IntKind.u32 0, Value.int IntKind.u32 0, Value.int IntKind.u32 0, Value.int IntKind.u32 0, Value.int IntKind.u32 0, Value.int IntKind.u32 0, Value.int IntKind.u32 0, Value.int IntKind.u32 0, Value.int IntKind.u32 0, Value.int IntKind.u32 0, Value.int IntKind.u32 0, Value.int IntKind.u32 0, Value.int IntKind.u32 0, Value.int IntKind.u32 0, Value.int IntKind.u32 0, Value.int IntKind.u32 0, Value.int IntKind.u32 0, Value.int IntKind.u32 0, Value.int IntKind.u32 0, Value.int IntKind.u32 0, Value.int IntKind.u32 0, Value.int IntKind.u32 0, Value.int IntKind.u32 0, Value.int IntKind.u32 0, Value.int IntKind.u32 0, Value.int IntKind.u32 0, Value.int IntKind.u32 0, Value.int IntKind.u32 0, Value.int IntKind.u32 0, Value.int IntKind.u32 0, Value.int IntKind.u32 0, Value.int IntKind.u32 0, Value.int IntKind.u32 0, Value.int IntKind.u32 0, Value.int IntKind.u32 0] : Array Value) = tab 64 zeroW := by kernel_rfl
theorem zeros8 : (#[Value.int IntKind.u32 0, Value.int IntKind.u32 0, Value.int IntKind.u32 0, Value.int IntKind.u32 0, Value.int IntKind.u32 0, Value.int IntKind.u32 0, Value.int IntKind.u32 0, Value.int IntKind.u32 0] : Array Value) = tab 8 zeroW := by kernel_rfl

/-- block g of w holds just the cells cs of type t, none frozen -/
def Has (w : World) (g : Nat) (t : TypeId) (cs : Array Value) : Prop := w.heap[g]? = some (.cells cs t (0, 0))

section
variable {w w' : World} {g : Nat} {t : TypeId} {cs : Array Value}
theorem Has.lt (h : Has w g t cs) : g < w.heap.size := by
  by_cases c : g < w.heap.size
  · exact c
  · have : w.heap[g]? = none := by simp; omega
    unfold Has at h; rw [this] at h; cases h
theorem Has.cell (h : Has w g t cs) (i : Nat) : w.cell? ⟨g, i, none⟩ = cs[i]? := cell_of_row w g i cs t (0, 0) h
theorem Has.cellTab {n : Nat} {f : Nat → Value} (h : Has w g t (tab n f)) (i : Nat) (hi : i < n) : w.cell? ⟨g, i, none⟩ = some (f i) := by
  rw [h.cell, tab_get n f i hi]
theorem Has.free (h : Has w g t cs) (i : Nat) : w.frozen? ⟨g, i, none⟩ = false := frozen_of_row w g i cs t h
theorem Has.new (w : World) (t : TypeId) (cs : Array Value) : Has (w.alloc (.cells cs t)) w.heap.size t cs := heap_alloc_new w _
theorem Has.new' (h : g = w.heap.size) : Has (w.alloc (.cells cs t)) g t cs := by subst h; exact Has.new w t cs
theorem Has.alloc (h : Has w g t cs) (o : Obj) : Has (w.alloc o) g t cs := (Below.heap_alloc w o g h.lt).trans h
theorem Has.drew (h : Has w g t cs) : Has w.drew g t cs := h
theorem Has.drewN (h : Has w g t cs) (n : Nat) : Has (w.drewN n) g t cs := h
theorem Has.set (h : Has w g t cs) (i : Nat) (v : Value) : Has (w.setCell ⟨g, i, none⟩ v) g t (cs.setIfInBounds i v) := heap_setCell_same w g i cs t v h
theorem Has.far (h : Has w g t cs) {a : Addr} (ha : g ≠ a.block) (v : Value) : Has (w.setCell a v) g t cs := (heap_setCell_other w a g v ha).trans h
theorem Has.below {B : Nat} (h : Has w g t cs) (hb : Below B w w') (hg : g < B) : Has w' g t cs := (hb.block g hg).trans h
theorem Has.setRow (h : Has w g t cs) (cs' : Array Value) : Has (w.setRow g cs') g t cs' := setRow_heap w g cs cs' t (0, 0) h
theorem Has.farRow (h : Has w g t cs) {k : Nat} (hk : g ≠ k) (cs' : Array Value) : Has (w.setRow k cs') g t cs := (setRow_other w k g cs' hk).trans h
end
theorem below_drewN {B : Nat} {a w : World} (h : Below B a w) (n : Nat) : Below B a (w.drewN n) := ⟨h.os, h.tape, h.output, h.size, h.block⟩
theorem below_setRow {B : Nat} {a w : World} (h : Below B a w) {g : Nat} (hg : B ≤ g) (cs : Array Value) : Below B a (w.setRow g cs) :=
  ⟨h.os, h.tape, h.output, by simpa using h.size, fun i hi => (setRow_other w g i cs (by omega)).trans (h.block i hi)⟩
/-- 'x[k]' of an array by value -/
theorem run_index_tab {P : Program} (t e : TypeId) (n : Nat) (ik : IntKind) (i : TypeInfo) (f : Nat → Value) (hu : P.underlying t = some (.array n e)) (he : P.underlying e = some (.int ik))
    (hi : P.info? e = some i) (hs : i.size = 1) (kd : IntKind) (k : Nat) (hk : k < n) (w : World) :
    (Instr.index t (.agg (tab n f)) (.int kd (k : Int))).run P w = .ok (f k) w := by
  have h0 : (0 : Int) ≤ (k : Int) ∧ (k : Int) < (n : Int) := by omega
  simp [Instr.index, run_underlying hu, run_underlying he, asIntOf, h0, part, isAgg, sizeOf, typeInfo, hi, hs, tab_get n f k hk, go_sem, hk]
/-- a part of a block is overwritten -/
theorem tab_splice (n : Nat) (f v : Nat → Value) (o m : Nat) (h : o + m ≤ n) :
    ((tab n f).toList.take o ++ ((List.range m).map v ++ (tab n f).toList.drop (o + m))).toArray = tab n (fun j => if o ≤ j ∧ j < o + m then v (j - o) else f j) := by
  unfold tab
  congr 1
  apply List.ext_getElem
  · simp; omega
  · intro j h1 h2
    have hj : j < n := by simpa using h2
    simp only [List.getElem_append, List.getElem_take, List.getElem_map, List.getElem_range, List.getElem_drop, List.length_take, List.length_map, List.length_range, Nat.min_eq_left (show o ≤ n by omega)]
    by_cases h3 : j < o
    · rw [dif_pos h3, if_neg (by omega)]
    · rw [dif_neg h3]
      by_cases h4 : j < o + m
      · rw [dif_pos (by omega), if_pos (by omega)]
      · rw [dif_neg (by omega), if_neg (by omega)]
        congr 1
        omega
theorem tab_toList (n : Nat) (f : Nat → Value) : (tab n f).toList = (List.range n).map f := by simp [tab]
theorem tab_oneCell (n : Nat) (f : Nat → Value) (h : ∀ j, (f j).oneCell' = true) : (tab n f).all (·.oneCell') = true := by
  simp [tab, h]

end Go.Proofs.YtflkhlhpifmocaaDoor
namespace Go.Proofs.YtflkhlhpifmocaaDoor
open Go

/-- digit j of x to the base B -/
def dg (B x j : Nat) : Nat := x / B ^ j % B
theorem dg_lt {B : Nat} (h : 0 < B) (x j : Nat) : dg B x j < B := Nat.mod_lt _ h
theorem mod_step (B x k : Nat) : x % B ^ (k + 1) = x % B ^ k + B ^ k * dg B x k := Nat.mod_pow_succ
theorem dg_mod {B x j n : Nat} (h : j < n) : dg B (x % B ^ n) j = dg B x j := by
  unfold dg
  have e : B ^ n = B ^ j * B ^ (n - j) := by rw [← Nat.pow_add]; congr 1; omega
  have e2 : B ^ (n - j) = B * B ^ (n - j - 1) := by rw [← Nat.pow_succ']; congr 1; omega
  rw [e, Nat.mod_mul_right_div_self, Nat.mod_mod_of_dvd _ ⟨_, e2⟩]
theorem dg_zero (B j : Nat) : dg B 0 j = 0 := by simp [dg]
theorem dg_top {B x j n : Nat} (hB : 0 < B) (hx : x < B ^ n) (h : n ≤ j) : dg B x j = 0 := by
  unfold dg
  rw [Nat.div_eq_of_lt (Nat.lt_of_lt_of_le hx (Nat.pow_le_pow_right hB h)), Nat.zero_mod]
theorem digits_eq {B : Nat} {x y : Nat} : ∀ n, (∀ j, j < n → dg B x j = dg B y j) → x % B ^ n = y % B ^ n
  | 0, _ => by simp [Nat.mod_one]
  | n + 1, h => by rw [mod_step, mod_step, h n (by omega), digits_eq n fun j hj => h j (by omega)]
theorem digits_inj {B n x y : Nat} (hx : x < B ^ n) (hy : y < B ^ n) (h : ∀ j, j < n → dg B x j = dg B y j) : x = y := by
  have := digits_eq n h
  rwa [Nat.mod_eq_of_lt hx, Nat.mod_eq_of_lt hy] at this
/-- any digits are a number's -/
theorem digits_of {B : Nat} (hB : 0 < B) (f : Nat → Nat) : ∀ n, (∀ j, j < n → f j < B) → ∃ x, x < B ^ n ∧ ∀ j, j < n → dg B x j = f j
  | 0, _ => ⟨0, by simp, fun j hj => by omega⟩
  | n + 1, h => by
    obtain ⟨x, hx, hd⟩ := digits_of hB f n fun j hj => h j (by omega)
    have hf := h n (by omega)
    have hp : 0 < B ^ n := Nat.pow_pos hB
    have hd' : ∀ j, j < n → dg B (x + B ^ n * f n) j = f j := fun j hj => by
      rw [← hd j hj, ← dg_mod hj, Nat.add_mul_mod_self_left, dg_mod hj]
    refine ⟨x + B ^ n * f n, ?_, fun j hj => ?_⟩
    · have h1 : B ^ n * (f n + 1) ≤ B ^ n * B := Nat.mul_le_mul_left _ hf
      rw [Nat.pow_succ]
      rw [Nat.mul_add, Nat.mul_one] at h1
      omega
    · by_cases e : j = n
      · subst e
        unfold dg
        rw [Nat.add_mul_div_left _ _ hp, Nat.div_eq_of_lt hx, Nat.zero_add, Nat.mod_eq_of_lt hf]
      · exact hd' j (by omega)

/-- what is carried into digit k of a + b -/
def car (B a b k : Nat) : Nat := (a % B ^ k + b % B ^ k) / B ^ k
theorem car_zero (B a b : Nat) : car B a b 0 = 0 := by simp [car, Nat.mod_one]
theorem car_le {B : Nat} (hB : 0 < B) (a b k : Nat) : car B a b k ≤ 1 := by
  have hp : 0 < B ^ k := Nat.pow_pos hB
  have h1 := Nat.mod_lt a hp
  have h2 := Nat.mod_lt b hp
  have h3 : car B a b k < 2 := by unfold car; rw [Nat.div_lt_iff_lt_mul hp]; omega
  omega
theorem car_step {B : Nat} (hB : 0 < B) (a b k : Nat) : (dg B a k + dg B b k + car B a b k) / B = car B a b (k + 1) := by
  have hp : 0 < B ^ k := Nat.pow_pos hB
  have e : a % B ^ (k + 1) + b % B ^ (k + 1) = a % B ^ k + b % B ^ k + B ^ k * (dg B a k + dg B b k) := by rw [mod_step, mod_step, Nat.mul_add]; omega
  show _ = (a % B ^ (k + 1) + b % B ^ (k + 1)) / B ^ (k + 1)
  rw [e, Nat.pow_succ, ← Nat.div_div_eq_div_mul, Nat.add_mul_div_left _ _ hp]
  congr 1
  unfold car
  omega
theorem add_split {B : Nat} (hB : 0 < B) (a b k : Nat) : (a + b) / B ^ k = a / B ^ k + b / B ^ k + car B a b k := by
  have hp : 0 < B ^ k := Nat.pow_pos hB
  have ea := Nat.mod_add_div a (B ^ k)
  have eb := Nat.mod_add_div b (B ^ k)
  have e : a + b = a % B ^ k + b % B ^ k + B ^ k * (a / B ^ k + b / B ^ k) := by rw [Nat.mul_add]; omega
  have h : (a + b) / B ^ k = (a % B ^ k + b % B ^ k + B ^ k * (a / B ^ k + b / B ^ k)) / B ^ k := congrArg (· / B ^ k) e
  rw [Nat.add_mul_div_left _ _ hp] at h
  unfold car
  omega
theorem add_dg {B : Nat} (hB : 0 < B) (a b k : Nat) : (dg B a k + dg B b k + car B a b k) % B = dg B (a + b) k := by
  have h := add_split hB a b k
  show _ = (a + b) / B ^ k % B
  rw [h]
  unfold dg
  rw [Nat.add_mod (a / B ^ k + b / B ^ k), Nat.add_mod (a / B ^ k) (b / B ^ k), Nat.add_mod (a / B ^ k % B + b / B ^ k % B)]
theorem car_end {B n a b : Nat} (ha : a < B ^ n) (hb : b < B ^ n) : car B a b n = (a + b) / B ^ n := by
  unfold car; rw [Nat.mod_eq_of_lt ha, Nat.mod_eq_of_lt hb]

/-- what is borrowed for digit k of a - b -/
def bor (B a b k : Nat) : Nat := if a % B ^ k < b % B ^ k then 1 else 0
theorem bor_zero (B a b : Nat) : bor B a b 0 = 0 := by simp [bor, Nat.mod_one]
theorem bor_le (B a b k : Nat) : bor B a b k ≤ 1 := by unfold bor; split <;> omega
theorem bor_step {B : Nat} (hB : 0 < B) (a b k : Nat) : (if dg B a k < dg B b k + bor B a b k then 1 else 0) = bor B a b (k + 1) := by
  have hp : 0 < B ^ k := Nat.pow_pos hB
  have h1 := Nat.mod_lt a hp
  have h2 := Nat.mod_lt b hp
  show _ = if a % B ^ (k + 1) < b % B ^ (k + 1) then 1 else 0
  rw [mod_step, mod_step]
  have key : ∀ x y : Nat, x < y → B ^ k * x + B ^ k ≤ B ^ k * y := fun x y h => by rw [← Nat.mul_succ]; exact Nat.mul_le_mul_left _ h
  unfold bor
  generalize a % B ^ k = ra at *
  generalize b % B ^ k = rb at *
  rcases Nat.lt_trichotomy (dg B a k) (dg B b k) with h | h | h
  · have := key _ _ h
    rw [if_pos (show _ < _ by omega), if_pos (by omega)]
  · rw [h]
    by_cases c : ra < rb
    · rw [if_pos c, if_pos (by omega), if_pos (by omega)]
    · rw [if_neg c, if_neg (by omega), if_neg (by omega)]
  · have := key _ _ h
    have hbl : (if ra < rb then 1 else 0) ≤ 1 := by split <;> omega
    rw [if_neg (by omega), if_neg (by omega)]
/-- a less b, beyond the highest place -/
theorem car_bor {B a b d k : Nat} (hB : 0 < B) (h : (d + b) % B ^ k = a % B ^ k) : car B d b k = bor B a b k := by
  have hp : 0 < B ^ k := Nat.pow_pos hB
  have h1 := Nat.mod_lt a hp
  have h2 := Nat.mod_lt b hp
  have h3 := Nat.mod_lt d hp
  have hc := car_le hB d b k
  rw [Nat.add_mod] at h
  have hs := Nat.mod_add_div (d % B ^ k + b % B ^ k) (B ^ k)
  rw [h] at hs
  unfold car at hc ⊢
  unfold bor
  generalize (d % B ^ k + b % B ^ k) / B ^ k = c at *
  generalize a % B ^ k = ra at *
  generalize b % B ^ k = rb at *
  generalize d % B ^ k = rd at *
  generalize B ^ k = P at *
  rcases (show c = 0 ∨ c = 1 by omega) with rfl | rfl
  · rw [Nat.mul_zero] at hs; rw [if_neg (by omega)]
  · rw [Nat.mul_one] at hs; rw [if_pos (by omega)]
theorem sub_dg {B n a b k : Nat} (hB : 0 < B) (hk : k < n) (hb : b < B ^ n) : (dg B a k + 2 * B - dg B b k - bor B a b k) % B = dg B (a + B ^ n - b) k := by
  obtain ⟨d, hd⟩ : ∃ d, d = a + B ^ n - b := ⟨_, rfl⟩
  rw [← hd]
  have e : d + b = a + B ^ n := by omega
  have hm : ∀ j, j ≤ n → (d + b) % B ^ j = a % B ^ j := fun j hj => by
    rw [e]
    have e2 : B ^ n = B ^ j * B ^ (n - j) := by rw [← Nat.pow_add]; congr 1; omega
    rw [e2, Nat.add_mul_mod_self_left]
  have hc := car_bor (k := k) hB (hm k (by omega))
  have hdg : dg B (d + b) k = dg B a k := by rw [← dg_mod (x := d + b) hk, hm n (by omega), dg_mod hk]
  have h := add_dg hB d b k
  rw [hdg, hc] at h
  have hx := dg_lt hB d k
  have hy := dg_lt hB b k
  have hz := dg_lt hB a k
  have hl := bor_le B a b k
  generalize bor B a b k = c at *
  generalize dg B a k = x at *
  generalize dg B b k = y at *
  generalize dg B d k = z at *
  by_cases hlt : z + y + c < B
  · rw [Nat.mod_eq_of_lt hlt] at h
    have e3 : x + 2 * B - y - c = z + B * 2 := by omega
    rw [e3, Nat.add_mul_mod_self_left, Nat.mod_eq_of_lt hx]
  · have e4 : z + y + c = z + y + c - B + B := by omega
    rw [e4, Nat.add_mod_right, Nat.mod_eq_of_lt (by omega)] at h
    have e3 : x + 2 * B - y - c = z + B := by omega
    rw [e3, Nat.add_mod_right, Nat.mod_eq_of_lt hx]
theorem bor_end {B n a b : Nat} (ha : a < B ^ n) (hb : b < B ^ n) : bor B a b n = if a < b then 1 else 0 := by
  unfold bor; rw [Nat.mod_eq_of_lt ha, Nat.mod_eq_of_lt hb]

/-- n digits as the model's values -/
def dgs (ik : IntKind) (B x : Nat) (j : Nat) : Value := .int ik ((dg B x j : Nat) : Int)
theorem dgs_set {ik : IntKind} {B x k n : Nat} (hB : 0 < B) (_h : k < n) : (tab n (dgs ik B (x % B ^ k))).setIfInBounds k (.int ik ((dg B x k : Nat) : Int)) = tab n (dgs ik B (x % B ^ (k + 1))) := by
  rw [tab_set]
  apply tab_ext
  intro j hj
  unfold dgs
  by_cases e : j = k
  · rw [if_pos e, e, dg_mod (by omega)]
  · rw [if_neg e]
    by_cases l : j < k
    · rw [dg_mod l, dg_mod (by omega)]
    · rw [dg_top hB (Nat.mod_lt _ (Nat.pow_pos hB)) (by omega), dg_top hB (Nat.mod_lt _ (Nat.pow_pos hB)) (show k + 1 ≤ j by omega)]
theorem dgs_mod {ik : IntKind} {B x n : Nat} : tab n (dgs ik B (x % B ^ n)) = tab n (dgs ik B x) := tab_ext _ _ _ fun j hj => by unfold dgs; rw [dg_mod hj]
theorem dgs_start {ik : IntKind} {B x n : Nat} : tab n (dgs ik B (x % B ^ 0)) = tab n fun _ => .int ik 0 := tab_ext _ _ _ fun j _ => by simp [dgs, Nat.mod_one, dg_zero]
theorem dg_dg {b m x q r : Nat} (hr : r < m) : dg b (dg (b ^ m) x q) r = dg b x (m * q + r) := by
  have e : b ^ m = b ^ r * b ^ (m - r) := by rw [← Nat.pow_add]; congr 1; omega
  have e2 : b ^ (m - r) = b * b ^ (m - r - 1) := by rw [← Nat.pow_succ']; congr 1; omega
  have h1 : ∀ z : Nat, z % b ^ m / b ^ r % b = z / b ^ r % b := fun z => by rw [e, Nat.mod_mul_right_div_self, Nat.mod_mod_of_dvd _ ⟨_, e2⟩]
  unfold dg
  rw [h1, ← Nat.pow_mul, Nat.div_div_eq_div_mul, ← Nat.pow_add]
/-- what is left of x above m digits -/
theorem dg_cut {B : Nat} (hB : 0 < B) (x m i : Nat) : dg B (x / B ^ m * B ^ m) i = if m ≤ i then dg B x i else 0 := by
  unfold dg
  by_cases h : m ≤ i
  · rw [if_pos h]
    have e : B ^ i = B ^ m * B ^ (i - m) := by rw [← Nat.pow_add]; congr 1; omega
    rw [e, ← Nat.div_div_eq_div_mul, Nat.mul_div_cancel _ (Nat.pow_pos hB), Nat.div_div_eq_div_mul]
  · rw [if_neg h]
    have e : B ^ m = B * B ^ (m - i - 1) * B ^ i := by rw [← Nat.pow_succ', ← Nat.pow_add]; congr 1; omega
    rw [e, ← Nat.mul_assoc, Nat.mul_div_cancel _ (Nat.pow_pos hB), ← Nat.mul_assoc, Nat.mul_comm _ B, Nat.mul_assoc, Nat.mul_mod_right]
theorem cut_step (B x m : Nat) : x / B ^ m * B ^ m = x / B ^ (m + 1) * B ^ (m + 1) + dg B x m * B ^ m := by
  unfold dg
  have h := Nat.mod_add_div (x / B ^ m) B
  have e : x / B ^ (m + 1) = x / B ^ m / B := by rw [Nat.pow_succ, Nat.div_div_eq_div_mul]
  rw [e, Nat.pow_succ]
  generalize x / B ^ m = t at *
  have e2 : t / B * (B ^ m * B) = B * (t / B) * B ^ m := by rw [Nat.mul_comm B (t / B), Nat.mul_assoc, Nat.mul_comm B]
  rw [e2, ← Nat.add_mul, Nat.add_comm (B * (t / B)), h]
end Go.Proofs.YtflkhlhpifmocaaDoor
namespace Go.Proofs.YtflkhlhpifmocaaDoor
open Go

theorem acc_here {b m : Nat} (hb : 0 < b) (x k : Nat) : (dg (b ^ m) (x % b ^ k) (k / m) + dg b x k * b ^ (k % m) % b ^ m) % b ^ m = dg (b ^ m) (x % b ^ (k + 1)) (k / m) := by
  have hk : b ^ k = (b ^ m) ^ (k / m) * b ^ (k % m) := by rw [← Nat.pow_mul, ← Nat.pow_add, Nat.div_add_mod]
  rw [mod_step b x k, hk]
  unfold dg
  rw [Nat.mul_assoc, Nat.add_mul_div_left _ _ (Nat.pow_pos (Nat.pow_pos hb)), Nat.add_mod, Nat.mod_mod, Nat.mod_mod, ← Nat.add_mod, Nat.mul_comm (b ^ (k % m))]
theorem acc_other {b m : Nat} (hb : 0 < b) (hm : 0 < m) (x k j : Nat) (h : j ≠ k / m) : dg (b ^ m) (x % b ^ (k + 1)) j = dg (b ^ m) (x % b ^ k) j := by
  have hp : 0 < b ^ m := Nat.pow_pos hb
  refine digits_inj (B := b) (n := m) (dg_lt hp _ _) (dg_lt hp _ _) fun r hr => ?_
  rw [dg_dg hr, dg_dg hr]
  have hne : m * j + r ≠ k := fun e => h (by rw [← e, Nat.mul_add_div hm, Nat.div_eq_of_lt hr, Nat.add_zero])
  by_cases hlt : m * j + r < k
  · rw [dg_mod (by omega), dg_mod hlt]
  · rw [dg_top hb (Nat.mod_lt _ (Nat.pow_pos hb)) (show k + 1 ≤ m * j + r by omega), dg_top hb (Nat.mod_lt _ (Nat.pow_pos hb)) (show k ≤ m * j + r by omega)]

/-- s a + c: what is carried into digit k -/
def carL (B s a c k : Nat) : Nat := (s * (a % B ^ k) + c) / B ^ k
theorem carL_zero (B s a c : Nat) : carL B s a c 0 = c := by simp [carL, Nat.mod_one]
theorem carL_step {B : Nat} (hB : 0 < B) (s a c k : Nat) : (s * dg B a k + carL B s a c k) / B = carL B s a c (k + 1) := by
  have hp : 0 < B ^ k := Nat.pow_pos hB
  unfold carL
  have e : s * (a % B ^ (k + 1)) + c = s * (a % B ^ k) + c + B ^ k * (s * dg B a k) := by
    rw [mod_step, Nat.mul_add, ← Nat.mul_assoc, Nat.mul_comm s (B ^ k), Nat.mul_assoc]; omega
  rw [e, Nat.pow_succ, ← Nat.div_div_eq_div_mul, Nat.add_mul_div_left _ _ hp, Nat.add_comm (s * dg B a k)]
theorem carL_dg {B : Nat} (hB : 0 < B) (s a c k : Nat) : (s * dg B a k + carL B s a c k) % B = dg B (s * a + c) k := by
  have hp : 0 < B ^ k := Nat.pow_pos hB
  have ea := Nat.mod_add_div a (B ^ k)
  have e : s * a + c = s * (a % B ^ k) + c + B ^ k * (s * (a / B ^ k)) := by
    have h : s * a = s * (a % B ^ k) + s * (B ^ k * (a / B ^ k)) := by rw [← Nat.mul_add, ea]
    rw [h, ← Nat.mul_assoc s, Nat.mul_comm s (B ^ k), Nat.mul_assoc]; omega
  have h : (s * a + c) / B ^ k = carL B s a c k + s * (a / B ^ k) := by rw [e, Nat.add_mul_div_left _ _ hp]; rfl
  show _ = (s * a + c) / B ^ k % B
  rw [h]
  unfold dg
  rw [Nat.add_comm, Nat.add_mod, Nat.mul_mod s, Nat.mod_mod, ← Nat.mul_mod, ← Nat.add_mod]
theorem carL_end {B n s a c : Nat} (ha : a < B ^ n) : carL B s a c n = (s * a + c) / B ^ n := by
  unfold carL; rw [Nat.mod_eq_of_lt ha]

/-- digit j is d -/
def setDig (B V j d : Nat) : Nat := V % B ^ j + (d + V / B ^ (j + 1) * B) * B ^ j
theorem setDig_dg {B : Nat} (hB : 0 < B) (V j d i : Nat) (hd : d < B) : dg B (setDig B V j d) i = if i = j then d else dg B V i := by
  have hp : 0 < B ^ j := Nat.pow_pos hB
  unfold setDig
  rcases Nat.lt_trichotomy i j with h | h | h
  · rw [if_neg (by omega), ← dg_mod h, Nat.add_mul_mod_self_right, dg_mod (x := V % B ^ j) h, dg_mod h]
  · subst h
    rw [if_pos rfl]
    unfold dg
    rw [Nat.add_mul_div_right _ _ hp, Nat.div_eq_of_lt (Nat.mod_lt _ hp), Nat.zero_add, Nat.add_mul_mod_self_right, Nat.mod_eq_of_lt hd]
  · rw [if_neg (by omega)]
    unfold dg
    have e : B ^ i = B ^ j * B * B ^ (i - j - 1) := by rw [← Nat.pow_succ, ← Nat.pow_add]; congr 1; omega
    rw [e, ← Nat.div_div_eq_div_mul, ← Nat.div_div_eq_div_mul, Nat.add_mul_div_right _ _ hp, Nat.div_eq_of_lt (Nat.mod_lt _ hp), Nat.zero_add, Nat.add_mul_div_right _ _ hB, Nat.div_eq_of_lt hd, Nat.zero_add, ← Nat.div_div_eq_div_mul V, Nat.pow_succ]
theorem setDig_eq {B : Nat} (_hB : 0 < B) (V j d : Nat) : setDig B V j d + dg B V j * B ^ j = V + d * B ^ j := by
  have e : V / B ^ (j + 1) * B + dg B V j = V / B ^ j := by
    unfold dg
    rw [Nat.pow_succ, ← Nat.div_div_eq_div_mul, Nat.mul_comm]
    exact Nat.div_add_mod _ _
  have h := Nat.mod_add_div V (B ^ j)
  unfold setDig
  rw [Nat.add_mul]
  have h2 : V / B ^ (j + 1) * B * B ^ j + dg B V j * B ^ j = B ^ j * (V / B ^ j) := by rw [← Nat.add_mul, e, Nat.mul_comm]
  omega
theorem setDig_lt {B n V j d : Nat} (hB : 0 < B) (hV : V < B ^ n) (hj : j < n) (hd : d < B) : setDig B V j d < B ^ n := by
  have hp : 0 < B ^ j := Nat.pow_pos hB
  have e : B ^ n = B ^ (n - j - 1) * B * B ^ j := by rw [← Nat.pow_succ, ← Nat.pow_add]; congr 1; omega
  have hq : V / B ^ (j + 1) < B ^ (n - j - 1) := by
    rw [Nat.div_lt_iff_lt_mul (Nat.pow_pos hB), ← Nat.pow_add, show n - j - 1 + (j + 1) = n by omega]; exact hV
  have h1 : d + V / B ^ (j + 1) * B + 1 ≤ B ^ (n - j - 1) * B := by
    have : (V / B ^ (j + 1) + 1) * B ≤ B ^ (n - j - 1) * B := Nat.mul_le_mul_right _ hq
    rw [Nat.add_mul, Nat.one_mul] at this
    omega
  have h2 : (d + V / B ^ (j + 1) * B + 1) * B ^ j ≤ B ^ (n - j - 1) * B * B ^ j := Nat.mul_le_mul_right _ h1
  rw [Nat.add_mul, Nat.one_mul] at h2
  have h3 := Nat.mod_lt V hp
  rw [e]
  unfold setDig
  omega
theorem dgs_setDig {ik : IntKind} {B n V j d : Nat} (hB : 0 < B) (hd : d < B) : (tab n (dgs ik B V)).setIfInBounds j (.int ik (d : Int)) = tab n (dgs ik B (setDig B V j d)) := by
  rw [tab_set]
  apply tab_ext
  intro i _
  unfold dgs
  rw [setDig_dg hB V j d i hd]
  by_cases h : i = j
  · rw [if_pos h, if_pos h]
  · rw [if_neg h, if_neg h]
theorem dgs_congr {ik : IntKind} {B n x y : Nat} (h : x % B ^ n = y % B ^ n) : tab n (dgs ik B x) = tab n (dgs ik B y) := by
  rw [← dgs_mod (x := x), ← dgs_mod (x := y), h]
theorem half_dg {H : Nat} (hH : 0 < H) (t i : Nat) : dg (2 * H) (t / 2) i = dg (2 * H) t i / 2 + dg (2 * H) t (i + 1) % 2 * H := by
  have hp : 0 < (2 * H) ^ i := Nat.pow_pos (by omega)
  unfold dg
  rw [Nat.div_div_eq_div_mul, Nat.mul_comm 2, ← Nat.div_div_eq_div_mul, Nat.pow_succ, ← Nat.div_div_eq_div_mul]
  generalize t / (2 * H) ^ i = q
  have h1 : q = q % (2 * H) + 2 * H * (q / (2 * H)) := (Nat.mod_add_div q (2 * H)).symm
  obtain ⟨r, hr⟩ : ∃ r, r = q % (2 * H) := ⟨_, rfl⟩
  obtain ⟨u, hu⟩ : ∃ u, u = q / (2 * H) := ⟨_, rfl⟩
  rw [← hr, ← hu] at h1 ⊢
  have hrl : r < 2 * H := by rw [hr]; exact Nat.mod_lt _ (by omega)
  have e2 : q / 2 = r / 2 + H * u := by rw [h1, Nat.mul_assoc, Nat.add_mul_div_left _ _ (by decide)]
  have h3 := Nat.mod_add_div u 2
  have h4 : u % (2 * H) % 2 = u % 2 := Nat.mod_mul_right_mod u 2 H
  rw [h4, e2]
  have e5 : H * u = u % 2 * H + 2 * H * (u / 2) := by
    have : H * u = H * (u % 2 + 2 * (u / 2)) := by rw [h3]
    rw [this, Nat.mul_add, ← Nat.mul_assoc, Nat.mul_comm H 2, Nat.mul_comm H (u % 2)]
  have hb : u % 2 < 2 := Nat.mod_lt _ (by decide)
  have hb2 : u % 2 * H ≤ 1 * H := Nat.mul_le_mul_right _ (by omega)
  rw [e5, ← Nat.add_assoc, Nat.add_mul_mod_self_left, Nat.mod_eq_of_lt (by omega)]
theorem div_stepB (B x k : Nat) : x / B ^ k = B * (x / B ^ (k + 1)) + dg B x k := by
  unfold dg
  rw [Nat.pow_succ, ← Nat.div_div_eq_div_mul]
  exact (Nat.div_add_mod _ _).symm
theorem less_dig (B x y k : Nat) (h : x / B ^ (k + 1) = y / B ^ (k + 1)) (hne : dg B x k ≠ dg B y k) : decide (x < y) = decide (dg B x k < dg B y k) := by
  have ex := div_stepB B x k
  have ey := div_stepB B y k
  rw [← h] at ey
  by_cases hl : dg B x k < dg B y k
  · rw [decide_eq_true hl, decide_eq_true]
    exact Nat.lt_of_div_lt_div (c := B ^ k) (by omega)
  · rw [decide_eq_false hl, decide_eq_false]
    have : y < x := Nat.lt_of_div_lt_div (c := B ^ k) (by omega)
    omega
/-- a chain of doublings: the bits from k on -/
theorem twice_step (a m k : Nat) : (2 * (a / 2 ^ (k + 1) % m) + a / 2 ^ k % 2) % m = a / 2 ^ k % m := by
  have h : a / 2 ^ k = 2 * (a / 2 ^ (k + 1)) + a / 2 ^ k % 2 := by
    rw [Nat.pow_succ, ← Nat.div_div_eq_div_mul]
    exact (Nat.div_add_mod _ _).symm
  conv => rhs; rw [h]
  rw [Nat.add_mod, Nat.mul_mod, Nat.mod_mod, ← Nat.mul_mod, ← Nat.add_mod]
end Go.Proofs.YtflkhlhpifmocaaDoor
namespace Go.Proofs.YtflkhlhpifmocaaDoor
open Go

section
variable {P : Program} {md : Region.Mode} {ops : Array Oper} {C : World → Prop}

def headQ (P : Program) (md : Region.Mode) (ops : Array Oper) (C : World → Prop) (n : Nat) (L : Array Bool → Act → Prop) : Nat → Array Bool → Act → Prop
  | 0, listed, a => L listed a
  | f + 1, listed, a =>
    Region.ready md ops listed ≠ [] ∧ ∀ i ∈ Region.ready md ops listed, i < n ∧ qOp P ops C i (headQ P md ops C n L f (listed.setIfInBounds i true)) a

theorem any_of_headQ {n g : Nat} {L : Array Bool → Act → Prop} {Q' : Exit → Act → World → Prop} (hL : ∀ listed a w, C w → L listed a → wpAny P md ops Q' g listed a w) :
    ∀ (f : Nat) (listed : Array Bool) (a : Act) (w : World), C w → headQ P md ops C n L f listed a → wpAny P md ops Q' (f + g) listed a w := by
  intro f
  induction f with
  | zero => intro listed a w hC h; rw [Nat.zero_add]; exact hL _ _ _ hC h
  | succ f ih =>
    intro listed a w hC h
    rw [show f + 1 + g = (f + g) + 1 by omega]
    exact ⟨fun h0 => absurd h0 h.1, fun i hi => wpOp_of_qOp hC (fun a' w' hC' h' => ih _ a' w' hC' h') (h.2 i hi).2⟩

theorem headQ_first {n i : Nat} {oi : Oper} {v : Value} {L : Array Bool → Act → Prop} (hi : ops[i]? = some oi) (hsel : ∀ (j : Nat) (o : Oper) cs b, ops[j]? = some o → o.op ≠ .select cs b)
    (hs : Region.sinkB md ops n = true) (hc : Region.chainB md ops n = true) (hn : n < ops.size) (hin : i < n)
    (hdone : ∀ listed a, L listed a → ∀ j ∈ Region.ready md ops listed, n ≤ j) :
    ∀ (f : Nat) (listed : Array Bool) (a : Act), HeadInv md ops n listed →
      (∀ j oj, ops[j]? = some oj → j ≠ i → listed.getD j true = false → (∀ e ∈ oj.after, Region.binds md e = true → e.on ≠ i) → oi.apart ops oj = true) →
      i ∈ Region.ready md ops listed → YieldsIn P ops C oi v a →
      headQ P md ops C n L f (listed.setIfInBounds i true) (a.put oi.dst v) → headQ P md ops C n L (f + 1) listed a := by
  intro f
  induction f with
  | zero =>
    intro listed a inv _ hr hy H
    have hun := (mem_ready.1 hr).1
    refine ⟨fun h => (by rw [h] at hr; cases hr), fun j hj => ?_⟩
    have hjn : j < n := by
      by_cases h : j < n
      · exact h
      · exact absurd hj (tail_waits hs hc hn inv _ i rfl hin hun j (by omega))
    refine ⟨hjn, ?_⟩
    by_cases hji : j = i
    · subst hji; exact hy.qOp hi H
    · have := hdone _ _ H j (ready_mono hj hji)
      omega
  | succ f ih =>
    intro listed a inv hfree hr hy H
    have hun := (mem_ready.1 hr).1
    refine ⟨fun h => (by rw [h] at hr; cases hr), fun j hj => ?_⟩
    have hjn : j < n := by
      by_cases h : j < n
      · exact h
      · exact absurd hj (tail_waits hs hc hn inv _ i rfl hin hun j (by omega))
    refine ⟨hjn, ?_⟩
    by_cases hji : j = i
    · subst hji; exact hy.qOp hi H
    · have h1 := (H.2 j (ready_mono hj hji)).2
      obtain ⟨hjun, oj, hoj, hall⟩ := mem_ready.1 hj
      have hnot : ∀ e ∈ oj.after, Region.binds md e = true → e.on ≠ i := fun e he hb heq => by
        have h1 := hall e he hb
        rw [heq, getD_both hun] at h1
        cases h1
      have h2 := qOp_put hoj (hfree j oj hoj hji hjun hnot) (fun cs b => hsel i oi cs b hi) (fun cs b => hsel j oj cs b hoj) hy h1
      have hfree' : ∀ k ok, ops[k]? = some ok → k ≠ i → (listed.setIfInBounds j true).getD k true = false →
          (∀ e ∈ ok.after, Region.binds md e = true → e.on ≠ i) → oi.apart ops ok = true := fun k ok hk hki hun' hno => by
        refine hfree k ok hk hki ?_ hno
        by_cases hjk : j = k
        · subst hjk; exact hjun
        · rw [getD_set_ne true hjk] at hun'; exact hun'
      refine qOp_mono (fun a' h3 => ih (listed.setIfInBounds j true) a' (inv.set hj hjn) hfree' (ready_mono hr (Ne.symm hji)) h3.1 ?_) h2
      rw [Array.setIfInBounds_comm _ _ hji]
      exact h3.2

theorem headQ_lex {n g : Nat} {Lq : Act → Prop} (hsel : Region.noSelect ops = true) (hs : Region.sinkB md ops n = true) (hc : Region.chainB md ops n = true) (hn : n < ops.size)
    (l : List Oper) : ∀ (k : Nat) (listed : Array Bool) (a : Act), (∀ j, j < l.length → l[j]? = ops[k + j]?) → k + l.length = n → HeadInv md ops n listed →
    Region.lexHead md ops g l.length k listed = true → wpQuiet P ops C Lq l a →
    headQ P md ops C n (fun listed' a' => Region.seqB md ops g n listed' = true ∧ Lq a') l.length listed a := by
  induction l with
  | nil =>
    intro k listed a _ hk _ hB h
    obtain rfl : k = n := by simpa using hk
    exact ⟨by simpa [Region.lexHead] using hB, h⟩
  | cons o l ih =>
    intro k listed a hl hk inv hB h
    have h0 : ops[k]? = some o := by simpa using (hl 0 (by simp)).symm
    simp only [List.length_cons, Region.lexHead, Bool.and_eq_true] at hB
    obtain ⟨⟨hr, hf⟩, hB'⟩ := hB
    have hkn : k < n := by simp only [List.length_cons] at hk; omega
    have hr' : k ∈ Region.ready md ops listed := by simpa using hr
    have hst : qOp P ops C k (wpQuiet P ops C Lq l) a := by unfold qOp; simp only [h0]; exact h
    obtain ⟨v, hy, hK⟩ := yieldsIn_of_qOp h0 hst
    exact headQ_first h0 (Region.noSelect_spec hsel) hs hc hn hkn (fun listed' a' hL => seqB_ready hL.1) l.length listed a inv (Region.free_spec h0 hf) hr' hy
      (ih (k + 1) _ _ (fun j hj => by have := hl (j + 1) (by simp; omega); simpa [Nat.add_assoc, Nat.add_comm 1 j] using this) (by simp only [List.length_cons] at hk; omega) (inv.set hr' hkn) hB' hK)

/-- the region's wp, by one walk: the head in the class C, then the tail in every world of the class -/
theorem region_quiet_tail {id : Nat} {Q : Exit → Act → World → Prop} {a : Act} {w : World} {l : List Oper} (C : World → Prop) (n : Nat) (hm : P.follows .mixedOrders = true)
    (hB : Region.lexTailB .any l.toArray n = true) (hC : C { w with drawn := w.drawn + 1 })
    (h : wpQuiet P l.toArray C (fun a' => ∀ w', C w' → wpList P l.toArray Q (l.drop n) a' w') (l.take n) a) : (Code.region id l.toArray true).wp P Q a w := by
  simp only [Region.lexTailB, Bool.and_eq_true, decide_eq_true_eq] at hB
  obtain ⟨⟨⟨⟨hsel, hn⟩, hs⟩, hc⟩, hlex⟩ := hB
  have hn' : n < l.length := by simpa using hn
  have htl : (l.take n).length = n := by simp; omega
  have hdl : (l.drop n).length = l.toArray.size - n := by simp
  have inv0 : HeadInv .any l.toArray n (Array.replicate l.toArray.size false) :=
    ⟨by simp, fun j oj _ hl => (by rw [getD_replicate_false] at hl; cases hl), fun t _ ht => getD_in (by simpa using ht) (getD_replicate_false _ _)⟩
  have H := headQ_lex (md := .any) (g := l.toArray.size - n) hsel hs hc hn (l.take n) 0 _ a (fun j hj => by
    have hj' : j < n := by rw [htl] at hj; exact hj
    simp [hj']) (by simpa using htl) inv0 (by rw [htl]; exact hlex) h
  refine wp_region_any hm ?_
  have := any_of_headQ (Q' := Q) (g := l.toArray.size - n) (fun listed a' w' hC' hL => by
    have := wpAny_of_seq (md := .any) (Q' := Q) (l.drop n) n listed a' w' (fun j => by simp [List.getElem?_drop]) (by rw [hdl]; exact hL.1) (hL.2 w' hC')
    rwa [hdl] at this) _ _ _ _ hC H
  rw [htl, show n + (l.toArray.size - n) = l.toArray.size by omega] at this
  exact this
end
end Go.Proofs.YtflkhlhpifmocaaDoor
namespace Go.Proofs.YtflkhlhpifmocaaDoor
open Go Go.RowKit

/- only block g has changed, and there may be new ones -/
theorem only_trans {a b c : World} {row : Option Nat} (h : a.grownBy b row) (k : b.grownBy c row) : a.grownBy c row :=
  ⟨k.os.trans h.os, k.tape.trans h.tape, k.output.trans h.output, Nat.le_trans h.size k.size, fun i hi hne => (k.block i (Nat.lt_of_lt_of_le hi h.size) hne).trans (h.block i hi hne)⟩
theorem only_drewN (a : World) (n : Nat) (row : Option Nat) : a.grownBy (a.drewN n) row := ⟨rfl, rfl, rfl, Nat.le_refl _, fun _ _ _ => rfl⟩
theorem only_below {a b : World} (h : Below a.heap.size a b) (row : Option Nat) : a.grownBy b row := ⟨h.os, h.tape, h.output, h.size, fun i hi _ => h.block i hi⟩
theorem only_setCell (a : World) (g o : Nat) (v : Value) : a.grownBy (a.setCell ⟨g, o, none⟩ v) (some g) :=
  ⟨rfl, rfl, rfl, by simp [World.setCell], fun i _ hne => Below.heap_setCell a _ v i (fun e => hne (by rw [e]))⟩
theorem below_of_only {a b : World} {g : Nat} (h : a.grownBy b (some g)) {B : Nat} (hB : B ≤ g) (hs : B ≤ a.heap.size) : Below B a b :=
  ⟨h.os, h.tape, h.output, h.size, fun i hi => h.block i (Nat.lt_of_lt_of_le hi hs) (by simp; omega)⟩
/-- what was known of a block is known of a range of it -/
theorem Has.range {w : World} {g N : Nat} {t : TypeId} {f : Nat → Value} (h : Has w g t (tab N f)) (off n : Nat) (hn : off + n ≤ N) : w.rangeAt g off ((List.range n).map fun j => f (off + j)) := fun j v hv => by
  have hj : j < n := by have := (List.getElem?_eq_some_iff.1 hv).1; simpa using this
  rw [h.cellTab (off + j) (by omega), ← hv]
  simp [hj]

/-- a whole array is loaded in a region that only reads -/
theorem q_load {P : Program} {ops : Array Oper} {C : World → Prop} {K : Act → Prop} {a : Act} {op : Oper} (hgd : op.guard = none) (ty : TypeId) (x : Operand) (ho : op.op = .load ty x)
    (b off : Nat) (hx : a.eval x = .pointer (some ⟨b, off, none⟩)) (n : Nat) (f : Nat → Value) (d : TypeDesc) (hc : ∀ w', C w' → w'.rangeAt b off ((List.range n).map f))
    (hu : P.underlying ty = some d) (hd : d.isRow = true) (hi : (P.info? ty).map (·.size) = some n)
    (h : K (a.put op.dst (.agg (tab n f)))) : if Region.wanted op (yielded ops a.tmps) then op.quiet P a C K else K (a.put op.dst undef) := by
  have hw : Region.wanted op (yielded ops a.tmps) = true := by simp [Region.wanted, hgd]
  rw [if_pos hw]
  refine ⟨.agg (tab n f), fun w' hw' => ?_, h⟩
  unfold Oper.quietAt execOp
  simp only [ho, hx, Instr.loadAt, Instr.sureAddr, Sem.run_bind, Sem.run_pure, Result.andThen_ok, run_loadVar_mid w' b off ty _ d (hc w' hw') hu hd (by simpa using hi)]
  exact ⟨rfl, rfl⟩

/-- an operation that gives one value in every world -/
theorem q_val {P : Program} {ops : Array Oper} {C : World → Prop} {K : Act → Prop} {a : Act} {op : Oper} (hgd : op.guard = none) (v : Value)
    (hrun : ∀ w, (execOp a.eval op).run P w = .ok (.value v) w) (h : K (a.put op.dst v)) : if Region.wanted op (yielded ops a.tmps) then op.quiet P a C K else K (a.put op.dst undef) := by
  have hw : Region.wanted op (yielded ops a.tmps) = true := by simp [Region.wanted, hgd]
  rw [if_pos hw]
  refine ⟨v, fun w' _ => ?_, h⟩
  unfold Oper.quietAt
  rw [hrun w']
  exact ⟨rfl, rfl⟩
/-- a call, in a region whose operations keep the class C -/
theorem q_call {P : Program} {ops : Array Oper} {C : World → Prop} {K : Act → Prop} {a : Act} {op : Oper} (hgd : op.guard = none) (fn : FuncId) (args : Array Value)
    (hrun : ∀ w, (execOp a.eval op).run P w = .ok (.enter fn args) w) (v : Value) (hc : ∀ w', C w' → Calls P fn args w' fun e w'' => e = .returned v ∧ C w'')
    (h : K (a.put op.dst v)) : if Region.wanted op (yielded ops a.tmps) then op.quiet P a C K else K (a.put op.dst undef) := by
  have hw : Region.wanted op (yielded ops a.tmps) = true := by simp [Region.wanted, hgd]
  rw [if_pos hw]
  refine ⟨v, fun w' hw' => ?_, h⟩
  unfold Oper.quietAt
  rw [hrun w']
  exact ⟨rfl, hc w' hw'⟩

/-- an array by value goes into a part of a block that is known whole -/
theorem wp_store_tab {P : Program} {w : World} {ops : Array Oper} {rest : List Oper} {op : Oper} {a : Act} {Q : Exit → Act → World → Prop} (hgd : op.guard = none) (ty : TypeId) (x y : Operand) (ho : op.op = .store ty x y)
    (g off : Nat) (hx : a.eval x = .pointer (some ⟨g, off, none⟩)) (n : Nat) (v : Nat → Value) (hy : a.eval y = .agg (tab n v))
    (N : Nat) (f : Nat → Value) (t : TypeId) (hg : Has w g t (tab N f)) (hi : (P.info? ty).map (·.size) = some n) (hfit : off + n ≤ N) (h1 : ∀ j, (v j).oneCell' = true)
    (h : ∀ w', Has w' g t (tab N fun j => if off ≤ j ∧ j < off + n then v (j - off) else f j) → w.grownBy w' (some g) → wpList P ops Q rest (a.put op.dst undef) w') : wpList P ops Q (op :: rest) a w := by
  refine wpList_plain hgd fun K hK => ?_
  have hl : ((List.range n).map v).length = n := by simp
  have hrun := run_storeCells_at (P := P) g off t ((List.range n).map v) 0 (tab N f) w hg (by rw [hl, tab_size]; omega) (fun u hu => by obtain ⟨j, _, rfl⟩ := List.mem_map.1 hu; exact h1 j)
  have e := tab_splice N f v off n hfit
  rw [hl, Nat.add_zero, List.append_assoc, e] at hrun
  have hs : (storeVar ty ⟨g, off, none⟩ (.agg (tab n v))).run P w = .ok () (w.setRow g (tab N fun j => if off ≤ j ∧ j < off + n then v (j - off) else f j)) := by
    cases hq : P.info? ty with
    | none => simp [hq] at hi
    | some i =>
      have hs : i.size = n := by simpa [hq] using hi
      simp [storeVar, sizeOf, typeInfo, hq, Value.cells, hs, tab_size, tab_toList, hrun]
  unfold Oper.wp execOp
  simp only [ho, hx, hy, Instr.storeAt, Instr.sureAddr, Sem.run_bind, Sem.run_pure, Result.andThen_ok, hs]
  exact hK _ _ (h _ (hg.setRow _) ⟨rfl, rfl, rfl, by simp, fun i _ hne => setRow_other w g i _ (fun e => hne (by rw [e]))⟩)
/-- 'copy' into a block that is known whole, from cells elsewhere -/
theorem wp_copy_tab {P : Program} {w : World} {ops : Array Oper} {rest : List Oper} {op : Oper} {a : Act} {Q : Exit → Act → World → Prop} (hgd : op.guard = none) (d s : Operand) (dT sT : TypeId)
    (ho : op.op = .call { callee := .builtin .copy, args := #[d, s], argTypes := #[dT, sT] }) (elem : TypeId) (hu : P.underlying dT = some (.slice elem)) (hsz : (P.info? elem).map (·.size) = some 1)
    (g off dLen dCap b o sLen sCap : Nat) (hd : a.eval d = .slice (some ⟨g, off, none⟩) dLen dCap) (hs : a.eval s = .slice (some ⟨b, o, none⟩) sLen sCap)
    (N : Nat) (f : Nat → Value) (t : TypeId) (hg : Has w g t (tab N f)) (k : Nat) (hk : k = Nat.min sLen dLen) (v : Nat → Value)
    (hsrc : ∀ j, j < k → w.cell? ⟨b, o + j, none⟩ = some (v j)) (hfit : off + k ≤ N) (h1 : ∀ j, (v j).oneCell' = true)
    (h : ∀ w', Has w' g t (tab N fun j => if off ≤ j ∧ j < off + k then v (j - off) else f j) → w.grownBy w' (some g) → wpList P ops Q rest (a.put op.dst (.int .i64 (k : Int))) w') : wpList P ops Q (op :: rest) a w := by
  have hl : ((List.range k).map v).length = k := by simp
  refine wpList_copy_own hgd d s dT sT ho elem hu hsz g off dLen dCap ⟨b, o, none⟩ sLen sCap hd hs (tab N f) t hg ((List.range k).map v) (by rw [hl, hk]) (fun j u hj => ?_) (by rw [hl, tab_size]; exact hfit) (fun u hu => ?_) ?_
  · have hjk : j < k := by have := (List.getElem?_eq_some_iff.1 hj).1; simpa using this
    have e : (⟨b, o, none⟩ : Addr).add j = ⟨b, o + j, none⟩ := Addr.add_mid b o j
    rw [e, hsrc j hjk, ← hj]
    simp [hjk]
  · obtain ⟨j, _, rfl⟩ := List.mem_map.1 hu
    exact h1 j
  · have e := tab_splice N f v off k hfit
    have hh := hg.setRow (((tab N f).toList.take off ++ ((List.range k).map v ++ (tab N f).toList.drop (off + k))).toArray)
    rw [hl]
    rw [e] at hh ⊢
    exact h _ hh ⟨rfl, rfl, rfl, by simp, fun i _ hne => setRow_other w g i _ (fun e => hne (by rw [e]))⟩

end Go.Proofs.YtflkhlhpifmocaaDoor
namespace Go.Proofs.YtflkhlhpifmocaaDoor
open Go.RowKit

/-- one above the greatest number -/
def big : Nat := 4294967296 ^ 8
/-- a number's words -/
def nums (x : Nat) : Array Value := tab 8 (dgs .u32 4294967296 x)
/-- a number as the model's value -/
def numV (x : Nat) : Value := .agg (nums x)
def wrd (x j : Nat) : Nat := dg 4294967296 x j
theorem wrd_lt (x j : Nat) : wrd x j < 4294967296 := dg_lt (by decide) x j
theorem zeroNum : (#[Value.int IntKind.u32 0, Value.int IntKind.u32 0, Value.int IntKind.u32 0, Value.int IntKind.u32 0, Value.int IntKind.u32 0, Value.int IntKind.u32 0, Value.int IntKind.u32 0, Value.int IntKind.u32 0] : Array Value) = nums 0 := by kernel_rfl
theorem nums_at {w : World} {g x : Nat} {t : TypeId} (h : Has w g t (nums x)) (j : Nat) (hj : j < 8) : w.cell? ⟨g, j, none⟩ = some (.int .u32 ((wrd x j : Nat) : Int)) := h.cellTab j hj
theorem nums_size (x : Nat) : (nums x).size = 8 := tab_size _ _
theorem nums_set {x k : Nat} (h : k < 8) : (nums (x % 4294967296 ^ k)).setIfInBounds k (.int .u32 ((wrd x k : Nat) : Int)) = nums (x % 4294967296 ^ (k + 1)) := dgs_set (by decide) h
theorem nums_end (x : Nat) : nums (x % 4294967296 ^ 8) = nums x := dgs_mod
theorem nums_start (x : Nat) : nums (x % 4294967296 ^ 0) = nums 0 := by rw [Nat.pow_zero, Nat.mod_one]
/-- a result that lies in a block that is known whole, and one in a slot -/
theorem results_row_tmp {P : Program} {fn : Func} {p u : Tmp} {ty : TypeId} (h : fn.results = #[.cell p ty, .tmp u]) (tmps : Array Value) (w : World) (g : Nat) (t : TypeId) (cs : Array Value) (v : Value) (d : TypeDesc)
    (hp : tmps.getD p undef = .pointer (some ⟨g, 0, none⟩)) (hv : tmps.getD u undef = v) (hg : Has w g t cs)
    (hu : P.underlying ty = some d) (hd : (match d with | .struct _ | .array _ _ => true | _ => false) = true) (hi : (P.info? ty).map (·.size) = some cs.size) :
    (results fn tmps).run P w = .ok (.tuple #[.agg cs, v]) w := by
  rw [results_cell_tmp h, hp, hv]
  simp [asAddr, run_loadVar_row w g t ty cs (0, 0) d hg hu hd hi, Result.andThen]
theorem infoNum (x : Nat) : (Tryd.prog.info? 30).map (·.size) = some (nums x).size := by rw [nums_size]; kernel_rfl

theorem big_pos : 0 < big := by decide +kernel
theorem nums_ne (x : Nat) : ¬ nums x = #[] := fun h => by have := congrArg Array.size h; simp [nums_size] at this
theorem nums_mod (x : Nat) : nums (x % big) = nums x := nums_end x
/-- a new block, stored whole -/
theorem put_new (w : World) (t : TypeId) (cs cs' : Array Value) : Has ((w.alloc (.cells cs t)).setRow w.heap.size cs') w.heap.size t cs' ∧ Below w.heap.size w ((w.alloc (.cells cs t)).setRow w.heap.size cs') :=
  ⟨(Has.new w t cs).setRow cs', below_setRow ((Below.refl _ _).alloc (Nat.le_refl _) _) (Nat.le_refl _) _⟩
theorem Has.after {w w' : World} {g : Nat} {t : TypeId} {cs : Array Value} (h : Has w g t cs) (k : Below w.heap.size w w') : Has w' g t cs := h.below k h.lt
theorem below_trans {a b c : World} (h : Below a.heap.size a b) (k : Below b.heap.size b c) : Below a.heap.size a c := h.trans (k.mono h.size)

theorem put_at (w : World) (t : TypeId) (cs cs' : Array Value) (g : Nat) (h : g = w.heap.size) : Has ((w.alloc (.cells cs t)).setRow g cs') g t cs' ∧ Below w.heap.size w ((w.alloc (.cells cs t)).setRow g cs') := by
  subst h; exact put_new w t cs cs'

end Go.Proofs.YtflkhlhpifmocaaDoor
namespace Go.Proofs.YtflkhlhpifmocaaDoor
open Go Go.RowKit

section
variable {P : Program} {w : World} {ops : Array Oper} {rest : List Oper} {o : Oper} {a : Act} {Q : Exit → Act → World → Prop}
theorem wpList_wanted (hw : Region.wanted o (yielded ops a.tmps) = true)
    (h : ∀ K : Act → World → Prop, (∀ a w, wpList P ops Q rest a w → K a w) → o.wp P a w K Q) : wpList P ops Q (o :: rest) a w :=
  wpList_step fun K hK => by rw [if_pos hw]; exact h K hK
/-- a load of a whole array from a block that is known whole -/
theorem wpList_load_has (ty : TypeId) (x : Operand) (ho : o.op = .load ty x) (g : Nat) (hx : a.eval x = .pointer (some ⟨g, 0, none⟩)) (hw : Region.wanted o (yielded ops a.tmps) = true)
    (t : TypeId) (cs : Array Value) (hg : Has w g t cs) (d : TypeDesc) (hu : P.underlying ty = some d) (hd : (match d with | .struct _ | .array _ _ => true | _ => false) = true) (hi : (P.info? ty).map (·.size) = some cs.size)
    (h : wpList P ops Q rest (a.put o.dst (.agg cs)) w) : wpList P ops Q (o :: rest) a w :=
  wpList_wanted hw fun _ hK => wp_load_row ty x ho g hx t cs (0, 0) d hg hu hd hi (hK _ _ h)
/-- .. in a region whose operations keep the class C -/
theorem q_has {C : World → Prop} {K : Act → Prop} (ty : TypeId) (x : Operand) (ho : o.op = .load ty x) (g : Nat) (hx : a.eval x = .pointer (some ⟨g, 0, none⟩))
    (t : TypeId) (cs : Array Value) (hg : ∀ w', C w' → Has w' g t cs) (d : TypeDesc) (hu : P.underlying ty = some d) (hd : (match d with | .struct _ | .array _ _ => true | _ => false) = true) (hi : (P.info? ty).map (·.size) = some cs.size)
    (h : K (a.put o.dst (.agg cs))) : o.quiet P a C K := by
  refine ⟨.agg cs, fun w' hC => ?_, h⟩
  unfold Oper.quietAt execOp
  simp only [ho, hx, Instr.loadAt, Instr.sureAddr, Sem.run_bind, Sem.run_pure, Result.andThen_ok, run_loadVar_row w' g t ty cs (0, 0) d (hg w' hC) hu hd hi]
  exact ⟨rfl, rfl⟩
theorem wpQ_has {C : World → Prop} {L : Act → Prop} (ty : TypeId) (x : Operand) (ho : o.op = .load ty x) (g : Nat) (hx : a.eval x = .pointer (some ⟨g, 0, none⟩)) (hw : Region.wanted o (yielded ops a.tmps) = true)
    (t : TypeId) (cs : Array Value) (hg : ∀ w', C w' → Has w' g t cs) (d : TypeDesc) (hu : P.underlying ty = some d) (hd : (match d with | .struct _ | .array _ _ => true | _ => false) = true) (hi : (P.info? ty).map (·.size) = some cs.size)
    (h : wpQuiet P ops C L rest (a.put o.dst (.agg cs))) : wpQuiet P ops C L (o :: rest) a :=
  wpQuiet_step fun K hK => by rw [if_pos hw]; exact q_has ty x ho g hx t cs hg d hu hd hi (hK _ h)
/-- a call in a region whose operations keep the class C -/
theorem wpQ_call {C : World → Prop} {L : Act → Prop} (fn : FuncId) (args : Array Value) (hw : Region.wanted o (yielded ops a.tmps) = true)
    (hrun : ∀ w, (execOp a.eval o).run P w = .ok (.enter fn args) w) (v : Value) (hc : ∀ w', C w' → Calls P fn args w' fun e w'' => e = .returned v ∧ C w'')
    (h : wpQuiet P ops C L rest (a.put o.dst v)) : wpQuiet P ops C L (o :: rest) a :=
  wpQuiet_step fun K hK => by
    rw [if_pos hw]
    refine ⟨v, fun w' hC => ?_, hK _ h⟩
    unfold Oper.quietAt
    rw [hrun w']
    exact ⟨rfl, hc w' hC⟩
/-- an operation that gives one value in every world -/
theorem wpQ_val {C : World → Prop} {L : Act → Prop} (hw : Region.wanted o (yielded ops a.tmps) = true) (v : Value)
    (hrun : ∀ w, C w → (execOp a.eval o).run P w = .ok (.value v) w) (h : wpQuiet P ops C L rest (a.put o.dst v)) : wpQuiet P ops C L (o :: rest) a :=
  wpQuiet_step fun K hK => by
    rw [if_pos hw]
    refine ⟨v, fun w' hC => ?_, hK _ h⟩
    unfold Oper.quietAt
    rw [hrun w' hC]
    exact ⟨rfl, rfl⟩
/- .. by the kind of the operation: what its operands hold is told beside it, so that no walk sees the whole frame -/
theorem wpQ_move {C : World → Prop} {L : Act → Prop} (x : Operand) (ho : o.op = .move x) (hw : Region.wanted o (yielded ops a.tmps) = true) (X : Value) (hx : a.eval x = X)
    (h : wpQuiet P ops C L rest (a.put o.dst X)) : wpQuiet P ops C L (o :: rest) a :=
  wpQ_val hw X (fun w _ => by simp [execOp, ho, hx]) h
theorem wpQ_assign {C : World → Prop} {L : Act → Prop} (x : Operand) (ho : o.op = .assign x) (hw : Region.wanted o (yielded ops a.tmps) = true) (X : Value) (hx : a.eval x = X)
    (h : wpQuiet P ops C L rest (a.put o.dst X)) : wpQuiet P ops C L (o :: rest) a :=
  wpQ_val hw X (fun w _ => by simp [execOp, ho, hx]) h
theorem wpQ_bin {C : World → Prop} {L : Act → Prop} (op : BinOp) (t : TypeId) (x y : Operand) (t2 : TypeId) (ho : o.op = .binOp op t x y t2) (hw : Region.wanted o (yielded ops a.tmps) = true) (X Y : Value) (hx : a.eval x = X) (hy : a.eval y = Y) (v : Value)
    (hrun : ∀ w, C w → (do eqGuard op t x y X Y; binOp op t X Y : Sem Value).run P w = .ok v w) (h : wpQuiet P ops C L rest (a.put o.dst v)) : wpQuiet P ops C L (o :: rest) a :=
  wpQ_val hw v (fun w hC => by
    have := hrun w hC
    simp only [execOp, ho, hx, hy]
    rw [Sem.run_bind, this]
    rfl) h
theorem wpQ_un {C : World → Prop} {L : Act → Prop} (op : UnOp) (t : TypeId) (x : Operand) (ho : o.op = .unOp op t x) (hw : Region.wanted o (yielded ops a.tmps) = true) (X : Value) (hx : a.eval x = X) (v : Value)
    (hrun : ∀ w, C w → (Op.unary op X).run P w = .ok v w) (h : wpQuiet P ops C L rest (a.put o.dst v)) : wpQuiet P ops C L (o :: rest) a :=
  wpQ_val hw v (fun w hC => by
    have := hrun w hC
    simp only [execOp, ho, hx]
    rw [Sem.run_bind, this]
    rfl) h
theorem wpQ_conv {C : World → Prop} {L : Act → Prop} (s d : TypeId) (x : Operand) (ho : o.op = .convert s d x) (hw : Region.wanted o (yielded ops a.tmps) = true) (X : Value) (hx : a.eval x = X) (v : Value)
    (hrun : ∀ w, C w → (convert s d X).run P w = .ok v w) (h : wpQuiet P ops C L rest (a.put o.dst v)) : wpQuiet P ops C L (o :: rest) a :=
  wpQ_val hw v (fun w hC => by
    have := hrun w hC
    simp only [execOp, ho, hx]
    rw [Sem.run_bind, this]
    rfl) h
theorem wpQ_pick {C : World → Prop} {L : Act → Prop} (c x y : Operand) (ho : o.op = .pick c x y) (hw : Region.wanted o (yielded ops a.tmps) = true) (b : Bool) (hc : a.eval c = .bool b) (v : Value)
    (hv : (if b then a.eval x else a.eval y) = v) (h : wpQuiet P ops C L rest (a.put o.dst v)) : wpQuiet P ops C L (o :: rest) a :=
  wpQ_val hw v (fun w _ => by
    subst hv
    simp only [execOp, ho, hc]
    cases b <;> rfl) h
theorem wpQ_build {C : World → Prop} {L : Act → Prop} (t : TypeId) (ho : o.op = .build t #[]) (hw : Region.wanted o (yielded ops a.tmps) = true) (v : Value)
    (hrun : ∀ w, C w → (Instr.build t #[]).run P w = .ok v w) (h : wpQuiet P ops C L rest (a.put o.dst v)) : wpQuiet P ops C L (o :: rest) a :=
  wpQ_val hw v (fun w hC => by
    have := hrun w hC
    simp only [execOp, ho]
    rw [Sem.run_bind]
    simp only [Array.map_empty]
    rw [this]
    rfl) h
end
/-- the class 'blocks that were there are as they were' after a call -/
theorem below_class {a w' w'' : World} (h : Below a.heap.size a w') (k : Below w'.heap.size w' w'') : Below a.heap.size a w'' := h.trans (k.mono h.size)
end Go.Proofs.YtflkhlhpifmocaaDoor
namespace Go.Proofs.YtflkhlhpifmocaaDoor
open Go.RowKit

/-- digit j of 16 bits -/
def hxd (x j : Nat) : Nat := dg 65536 x j
theorem hxd_lt (x j : Nat) : hxd x j < 65536 := dg_lt (by decide) x j
def d16 (x : Nat) : Array Value := tab 16 (dgs .u64 65536 x)
def d17 (x : Nat) : Array Value := tab 17 (dgs .u64 65536 x)
theorem d16_size (x : Nat) : (d16 x).size = 16 := tab_size _ _
theorem d17_size (x : Nat) : (d17 x).size = 17 := tab_size _ _
theorem d16_at {w : World} {g x : Nat} {t : TypeId} (h : Has w g t (d16 x)) (j : Nat) (hj : j < 16) : w.cell? ⟨g, j, none⟩ = some (.int .u64 ((hxd x j : Nat) : Int)) := h.cellTab j hj
theorem d17_at {w : World} {g x : Nat} {t : TypeId} (h : Has w g t (d17 x)) (j : Nat) (hj : j < 17) : w.cell? ⟨g, j, none⟩ = some (.int .u64 ((hxd x j : Nat) : Int)) := h.cellTab j hj
theorem info16 (x : Nat) : (Tryd.prog.info? 37).map (·.size) = some (d16 x).size := by rw [d16_size]; kernel_rfl
theorem info17 (x : Nat) : (Tryd.prog.info? 116).map (·.size) = some (d17 x).size := by rw [d17_size]; kernel_rfl
theorem zero16 : (#[Value.int IntKind.u64 0, Value.int IntKind.u64 0, Value.int IntKind.u64 0, Value.int IntKind.u64 0, Value.int IntKind.u64 0, Value.int IntKind.u64 0, Value.int IntKind.u64 0, Value.int IntKind.u64 0, Value.int IntKind.u64 0, Value.int IntKind.u64 0, Value.int IntKind.u64 0, Value.int IntKind.u64 0, Value.int IntKind.u64 0, Value.int IntKind.u64 0, Value.int IntKind.u64 0, Value.int IntKind.u64 0] : Array Value) = d16 0 := by kernel_rfl
theorem zero17 : (#[Value.int IntKind.u64 0, Value.int IntKind.u64 0, Value.int IntKind.u64 0, Value.int IntKind.u64 0, Value.int IntKind.u64 0, Value.int IntKind.u64 0, Value.int IntKind.u64 0, Value.int IntKind.u64 0, Value.int IntKind.u64 0, Value.int IntKind.u64 0, Value.int IntKind.u64 0, Value.int IntKind.u64 0, Value.int IntKind.u64 0, Value.int IntKind.u64 0, Value.int IntKind.u64 0, Value.int IntKind.u64 0, Value.int IntKind.u64 0] : Array Value) = d17 0 := by kernel_rfl
theorem d16_set {x k : Nat} (h : k < 16) : (d16 (x % 65536 ^ k)).setIfInBounds k (.int .u64 ((hxd x k : Nat) : Int)) = d16 (x % 65536 ^ (k + 1)) := dgs_set (by decide) h
theorem d17_set {x k : Nat} (h : k < 17) : (d17 (x % 65536 ^ k)).setIfInBounds k (.int .u64 ((hxd x k : Nat) : Int)) = d17 (x % 65536 ^ (k + 1)) := dgs_set (by decide) h
theorem d16_end (x : Nat) : d16 (x % 65536 ^ 16) = d16 x := dgs_mod
theorem d17_end (x : Nat) : d17 (x % 65536 ^ 17) = d17 x := dgs_mod
theorem big_hex : big = 65536 ^ 16 := by decide +kernel
theorem word_hex (x k : Nat) : wrd x (k / 2) / 65536 ^ (k % 2) % 65536 = hxd x k := by
  have h := dg_dg (b := 65536) (m := 2) (x := x) (q := k / 2) (r := k % 2) (by omega)
  rw [Nat.div_add_mod] at h
  unfold hxd
  rw [← h]
  rfl
theorem hex_word (x k : Nat) : (wrd (x % 65536 ^ k) (k / 2) + hxd x k * 65536 ^ (k % 2) % 4294967296) % 4294967296 = wrd (x % 65536 ^ (k + 1)) (k / 2) := acc_here (b := 65536) (m := 2) (by decide) x k
theorem nums_hex (x k : Nat) : (nums (x % 65536 ^ k)).setIfInBounds (k / 2) (.int .u32 ((wrd (x % 65536 ^ (k + 1)) (k / 2) : Nat) : Int)) = nums (x % 65536 ^ (k + 1)) := by
  unfold nums
  rw [tab_set]
  apply tab_ext
  intro j _
  by_cases h : j = k / 2
  · rw [if_pos h, h]; rfl
  · rw [if_neg h]
    unfold dgs
    have : dg 4294967296 (x % 65536 ^ (k + 1)) j = dg 4294967296 (x % 65536 ^ k) j := acc_other (b := 65536) (m := 2) (by decide) (by decide) x k j h
    rw [this]

attribute [local go_sem] zeroNum zero16 zero17
set_option maxRecDepth 100000 in
set_option maxHeartbeats 1000000 in
theorem of3_any (x : Nat) (w : World) :
    Calls Tryd.prog 51 #[.agg (nums x)] w fun e w' => e = .returned (.agg (d16 x)) ∧ Below w.heap.size w w' := by
  go_enter Tryd.func51, Tryd.ntmps51
  go_wp2_with fail
  go_loopw [4] (fun ct wr => ∃ k : Nat, k ≤ 16 ∧ ct = .int .i64 k ∧ Has wr w.heap.size 29 (nums x) ∧ Has wr (w.heap.size + 1) 37 (d16 0) ∧
      Has wr (w.heap.size + 1 + 1) 37 (d16 (x % 65536 ^ k)) ∧ Below w.heap.size w wr) (fun ct _ => 16 - (intOf ct).toNat)
  case atStart =>
    exact ⟨0, by omega, rfl, ((Has.new w _ _).alloc _).alloc _, (Has.new' (by simp)).alloc _, by rw [Nat.pow_zero, Nat.mod_one]; exact Has.new' (by simp),
      (((Below.refl _ _).alloc (Nat.le_refl _) _).alloc (by simp) _).alloc (by simp <;> omega) _⟩
  case round =>
    obtain ⟨k, hk, rfl, h0, h1, h2, hb⟩ := hrel
    by_cases hlt : k < 16
    · have c0 := nums_at h0 (k / 2) (by omega)
      have dk : (k : Int) < 16 := by omega
      have e1 : (k : Int).tdiv 2 = ((k / 2 : Nat) : Int) := by rw [Int.tdiv_eq_ediv_of_nonneg (by omega)]; omega
      have hw := word_hex x k
      have hl : ((wrd x (k / 2) : Nat) : Int) < 4294967296 := by have := wrd_lt x (k / 2); omega
      have c2 := h2.cellTab k hlt
      have f2 := h2.free k
      rcases (show k % 2 = 0 ∨ k % 2 = 1 by omega) with hr | hr
      · have e2 : (k : Int).tmod 2 = 0 := by rw [Int.tmod_eq_emod_of_nonneg (by omega)]; omega
        rw [hr] at hw
        have hw2 : ((wrd x (k / 2) : Nat) : Int) % 65536 = ((hxd x k : Nat) : Int) := by rw [← hw]; omega
        go_wp2_with fail
        go_roundw
        case rel => exact ⟨k + 1, by omega, by go_num, h0.far (by simp <;> omega) _, h1.far (by simp <;> omega) _, by rw [← d16_set hlt]; exact h2.set k _, hb.setCell (by simp <;> omega) _⟩
        case measure => simp [intOf]; omega
      · have e2 : (k : Int).tmod 2 = 1 := by rw [Int.tmod_eq_emod_of_nonneg (by omega)]; omega
        rw [hr] at hw
        have hw2 : ((wrd x (k / 2) : Nat) : Int) / 65536 % 65536 = ((hxd x k : Nat) : Int) := by rw [← hw]; omega
        go_wp2_with fail
        go_roundw
        case rel => exact ⟨k + 1, by omega, by go_num, h0.far (by simp <;> omega) _, h1.far (by simp <;> omega) _, by rw [← d16_set hlt]; exact h2.set k _, hb.setCell (by simp <;> omega) _⟩
        case measure => simp [intOf]; omega
    · have e256 : k = 16 := by omega
      have h2' : Has wr (w.heap.size + 1 + 1) 37 (d16 x) := by rw [e256, d16_end] at h2; exact h2
      have dk : ¬ (k : Int) < 16 := by omega
      clear e256 hk h0 h2
      go_wp2_with (first | refine wpList_load_row rfl 37 _ rfl (w.heap.size + 1 + 1) rfl 37 _ _ _ h2' Tryd.underlying37 rfl (info16 _) ?_ | refine wpList_store_row rfl 37 _ _ rfl (w.heap.size + 1) _ rfl rfl 37 _ h1 (info16 _) (by simp only [d16_size]) (tab_oneCell _ _ fun _ => rfl) ?_)
      exact bodyPost_ret (v := .agg (d16 x)) (results_cell_row rfl _ _ (w.heap.size + 1) 37 _ _ _ rfl (h1.setRow _) Tryd.underlying37 rfl (info16 _)) rfl ⟨rfl, below_setRow hb (by omega) _⟩

set_option maxRecDepth 100000 in
set_option maxHeartbeats 1000000 in
theorem words3_any (x : Nat) (w : World) (hx : x < big) :
    Calls Tryd.prog 10 #[.agg (d16 x)] w fun e w' => e = .returned (.agg (nums x)) ∧ Below w.heap.size w w' := by
  have HX := Lib.hid hx
  clear hx
  go_enter Tryd.func10, Tryd.ntmps10
  go_wp2_with fail
  go_loopw [4] (fun ct wr => ∃ k : Nat, k ≤ 16 ∧ ct = .int .i64 k ∧ Has wr w.heap.size 37 (d16 x) ∧ Has wr (w.heap.size + 1) 29 (nums 0) ∧
      Has wr (w.heap.size + 1 + 1) 29 (nums (x % 65536 ^ k)) ∧ Below w.heap.size w wr) (fun ct _ => 16 - (intOf ct).toNat)
  case atStart =>
    exact ⟨0, by omega, rfl, ((Has.new w _ _).alloc _).alloc _, (Has.new' (by simp)).alloc _, by rw [Nat.pow_zero, Nat.mod_one]; exact Has.new' (by simp),
      (((Below.refl _ _).alloc (Nat.le_refl _) _).alloc (by simp) _).alloc (by simp <;> omega) _⟩
  case round =>
    obtain ⟨k, hk, rfl, h0, h1, h2, hb⟩ := hrel
    by_cases hlt : k < 16
    · have c0 := d16_at h0 k hlt
      have dk : (k : Int) < 16 := by omega
      have e1 : (k : Int).tdiv 2 = ((k / 2 : Nat) : Int) := by rw [Int.tdiv_eq_ediv_of_nonneg (by omega)]; omega
      have hw := hex_word x k
      have hl : ((hxd x k : Nat) : Int) < 65536 := by have := hxd_lt x k; omega
      have c2 := nums_at h2 (k / 2) (by omega)
      have f2 := h2.free (k / 2)
      rcases (show k % 2 = 0 ∨ k % 2 = 1 by omega) with hr | hr
      · have e2 : (k : Int).tmod 2 = 0 := by rw [Int.tmod_eq_emod_of_nonneg (by omega)]; omega
        rw [hr] at hw
        have hw2 : (((wrd (x % 65536 ^ k) (k / 2) : Nat) : Int) + ((hxd x k : Nat) : Int)) % 4294967296 = ((wrd (x % 65536 ^ (k + 1)) (k / 2) : Nat) : Int) := by rw [← hw]; omega
        go_wp2_with fail
        go_region
        all_goals
          go_wp2_with fail
          go_roundw
        all_goals first
          | (refine ⟨k + 1, by omega, by go_num, h0.drew.far (by simp <;> omega) _, h1.drew.far (by simp <;> omega) _, ?_, (below_drewN hb 1).setCell (by simp <;> omega) _⟩
             rw [← nums_hex]
             exact h2.drew.set (k / 2) _)
          | (simp [intOf]; omega)
      · have e2 : (k : Int).tmod 2 = 1 := by rw [Int.tmod_eq_emod_of_nonneg (by omega)]; omega
        rw [hr] at hw
        have hw2 : (((wrd (x % 65536 ^ k) (k / 2) : Nat) : Int) + ((hxd x k : Nat) : Int) * 65536) % 4294967296 = ((wrd (x % 65536 ^ (k + 1)) (k / 2) : Nat) : Int) := by rw [← hw]; omega
        go_wp2_with fail
        go_region
        all_goals
          go_wp2_with fail
          go_roundw
        all_goals first
          | (refine ⟨k + 1, by omega, by go_num, h0.drew.far (by simp <;> omega) _, h1.drew.far (by simp <;> omega) _, ?_, (below_drewN hb 1).setCell (by simp <;> omega) _⟩
             rw [← nums_hex]
             exact h2.drew.set (k / 2) _)
          | (simp [intOf]; omega)
    · have e256 : k = 16 := by omega
      have h2' : Has wr (w.heap.size + 1 + 1) 29 (nums x) := by rw [e256, ← big_hex, Nat.mod_eq_of_lt HX.out] at h2; exact h2
      have dk : ¬ (k : Int) < 16 := by omega
      have hz : (Tryd.prog.info? 29).map (·.size) = some (nums x).size := by rw [nums_size]; kernel_rfl
      clear e256 hk h0 h2
      go_wp2_with (first | refine wpList_load_row rfl 29 _ rfl (w.heap.size + 1 + 1) rfl 29 _ _ _ h2' Tryd.underlying29 rfl hz ?_ | refine wpList_store_row rfl 29 _ _ rfl (w.heap.size + 1) _ rfl rfl 29 _ h1 hz (by simp only [nums_size]) (tab_oneCell _ _ fun _ => rfl) ?_)
      exact bodyPost_ret (v := .agg (nums x)) (results_cell_row rfl _ _ (w.heap.size + 1) 29 _ _ _ rfl (h1.setRow _) Tryd.underlying29 rfl hz) rfl ⟨rfl, below_setRow hb (by omega) _⟩
end Go.Proofs.YtflkhlhpifmocaaDoor
namespace Go.Proofs.YtflkhlhpifmocaaDoor
open Go.RowKit

def ltB (x y : Nat) : Bool := decide (x < y)
theorem ltB_dg (x y k : Nat) (h : x / 65536 ^ (k + 1) = y / 65536 ^ (k + 1)) (hne : hxd x k ≠ hxd y k) : ltB x y = decide (hxd x k < hxd y k) := less_dig 65536 x y k h hne
set_option maxRecDepth 100000 in
set_option maxHeartbeats 1000000 in
theorem less3_any (x y : Nat) (w : World) (hx : x < 65536 ^ 17) (hy : y < 65536 ^ 16) :
    Calls Tryd.prog 79 #[.agg (d17 x), .agg (d16 y)] w fun e w' => e = .returned (.bool (ltB x y)) ∧ Below w.heap.size w w' := by
  have h0 : Has ((w.alloc (.cells (d17 x) 116)).alloc (.cells (d16 y) 37)) w.heap.size 116 (d17 x) := (Has.new w _ _).alloc _
  have h1 : Has ((w.alloc (.cells (d17 x) 116)).alloc (.cells (d16 y) 37)) (w.heap.size + 1) 37 (d16 y) := Has.new' (by simp)
  have hb0 : Below w.heap.size w ((w.alloc (.cells (d17 x) 116)).alloc (.cells (d16 y) 37)) := ((Below.refl _ _).alloc (Nat.le_refl _) _).alloc (by simp) _
  have c16 := d17_at h0 16 (by decide)
  have hl16 := hxd_lt x 16
  have htop : hxd x 16 = x / 65536 ^ 16 := by
    unfold hxd dg
    exact Nat.mod_eq_of_lt (by rw [Nat.div_lt_iff_lt_mul (Nat.pow_pos (by decide)), ← Nat.pow_succ']; exact hx)
  by_cases hz : 0 < hxd x 16
  · have hf : ltB x y = false := by
      unfold ltB
      rw [htop] at hz
      have : ¬ x < 65536 ^ 16 := fun h => by rw [Nat.div_eq_of_lt h] at hz; omega
      exact decide_eq_false (by omega)
    have HF := Lib.hid hf
    have hd : decide (0 < hxd x 16) = true := by simp; omega
    clear hf hx hy htop
    go_enter Tryd.func79, Tryd.ntmps79
    go_wp2_with fail
    go_ret
    exact ⟨by rw [HF.out]; rfl, hb0⟩
  · have h16 : x / 65536 ^ 16 = y / 65536 ^ 16 := by rw [Nat.div_eq_of_lt hy]; omega
    have H := Lib.hid h16
    have hd : decide (0 < hxd x 16) = false := by simp; omega
    clear hx hy htop h16 hz
    go_enter Tryd.func79, Tryd.ntmps79
    go_wp2_with fail
    clear c16 hl16 hd
    go_loopw [5] (fun ct wr => ∃ k : Nat, k ≤ 16 ∧ ct = .int .i64 ((k : Int) - 1) ∧ Hid (x / 65536 ^ k = y / 65536 ^ k) ∧ Has wr w.heap.size 116 (d17 x) ∧ Has wr (w.heap.size + 1) 37 (d16 y) ∧ Below w.heap.size w wr) (fun ct _ => (intOf ct + 1).toNat)
    case atStart => exact ⟨16, by omega, rfl, H, h0, h1, hb0⟩
    case round =>
      clear h0 h1 hb0
      obtain ⟨k, hk, rfl, HK, h0, h1, hb⟩ := hrel
      clear H
      by_cases hlt : 0 < k
      · obtain ⟨k, rfl⟩ : ∃ j, k = j + 1 := ⟨k - 1, by omega⟩
        have ek : ((k + 1 : Nat) : Int) - 1 = (k : Int) := by omega
        rw [ek]
        clear ek
        have c0 := d17_at h0 k (by omega)
        have c1 := d16_at h1 k (by omega)
        have dk : (k : Int) < 16 := by omega
        by_cases he : hxd x k = hxd y k
        · have hd : (((hxd x k : Nat) : Int) == ((hxd y k : Nat) : Int)) = true := beq_iff_eq.2 (by omega)
          have HK' : Hid (x / 65536 ^ k = y / 65536 ^ k) := Lib.hid (by
            have e1 := div_stepB 65536 x k
            have e2 := div_stepB 65536 y k
            unfold hxd at he
            rw [e1, e2, HK.out, he])
          clear he HK
          go_wp2_with fail
          go_quiet (fail)
          go_wp2_with fail
          go_roundw
          case rel => exact ⟨k, by omega, by go_num, HK', h0.drewN _, h1.drewN _, below_drewN hb _⟩
          case measure => simp [intOf] <;> omega
        · have hd : (((hxd x k : Nat) : Int) == ((hxd y k : Nat) : Int)) = false := beq_eq_false_iff_ne.2 (by omega)
          have hl := ltB_dg x y k HK.out he
          have HL := Lib.hid hl
          clear he HK hl
          go_wp2_with fail
          go_quiet (fail)
          replace h0 := h0.drewN nq
          replace h1 := h1.drewN nq
          replace hb := below_drewN hb nq
          clear c0 c1
          generalize hq : Go.World.drewN _ nq = wr at *
          clear hq
          have c0 := d17_at h0 k (by omega)
          have c1 := d16_at h1 k (by omega)
          go_wp2_with fail
          go_quiet (fail)
          go_wp2_with fail
          go_ret
          exact ⟨by rw [HL.out]; rfl, below_drewN hb _⟩
      · have e0 : k = 0 := by omega
        subst e0
        have hf : ltB x y = false := by
          have := HK.out
          rw [Nat.pow_zero, Nat.div_one, Nat.div_one] at this
          simp [ltB, this]
        have HF := Lib.hid hf
        clear HK hf
        go_wp2_with fail
        go_ret
        exact ⟨by rw [HF.out]; rfl, hb⟩

/-- the first k digits of D, the others a's -/
def mixT (D a k j : Nat) : Value := .int .u64 (((if j < k then hxd D j else hxd a j) : Nat) : Int)
theorem mixT_zero (D a : Nat) : tab 17 (mixT D a 0) = d17 a := tab_ext _ _ _ fun j _ => by simp [mixT, dgs, hxd]
theorem mixT_end (D a : Nat) : tab 17 (mixT D a 17) = d17 D := tab_ext _ _ _ fun j hj => by simp [mixT, dgs, hxd, hj]
theorem mixT_at {w : World} {g : Nat} {t : TypeId} {D a k : Nat} (h : Has w g t (tab 17 (mixT D a k))) (hk : k < 17) : w.cell? ⟨g, k, none⟩ = some (.int .u64 ((hxd a k : Nat) : Int)) := by
  rw [h.cellTab k hk]
  simp [mixT]
theorem mixT_set (D a k : Nat) : (tab 17 (mixT D a k)).setIfInBounds k (.int .u64 ((hxd D k : Nat) : Int)) = tab 17 (mixT D a (k + 1)) := by
  rw [tab_set]
  apply tab_ext
  intro j _
  by_cases h : j = k
  · subst h; simp [mixT]
  · simp only [mixT, if_neg h]
    by_cases h2 : j < k
    · rw [if_pos h2, if_pos (by omega)]
    · rw [if_neg h2, if_neg (by omega)]
def bor3 (a b k : Nat) : Nat := bor 65536 a b k
theorem bor3_le (a b k : Nat) : bor3 a b k ≤ 1 := bor_le _ a b k
theorem take_lo (a b k : Nat) (hk : k < 17) (hb : b < 65536 ^ 17) : (((hxd a k : Nat) : Int) + 65536 - ((hxd b k : Nat) : Int) - ((bor3 a b k : Nat) : Int)) % 65536 = ((hxd (a + 65536 ^ 17 - b) k : Nat) : Int) := by
  have h : (hxd a k + 2 * 65536 - hxd b k - bor3 a b k) % 65536 = hxd (a + 65536 ^ 17 - b) k := sub_dg (by decide) hk hb
  have h1 := hxd_lt b k
  have h2 := bor3_le a b k
  rw [← h]; omega
theorem take_hi (a b k : Nat) : (1 : Int) - (((hxd a k : Nat) : Int) + 65536 - ((hxd b k : Nat) : Int) - ((bor3 a b k : Nat) : Int)) / 65536 = ((bor3 a b (k + 1) : Nat) : Int) := by
  have h : (if hxd a k < hxd b k + bor3 a b k then 1 else 0) = bor3 a b (k + 1) := bor_step (by decide) a b k
  have h1 := hxd_lt b k
  have h2 := bor3_le a b k
  have h3 := hxd_lt a k
  rw [← h]
  split <;> omega

attribute [local go_sem] zeroNum zero16 zero17
set_option maxRecDepth 100000 in
set_option maxHeartbeats 1000000 in
theorem take_any (a b : Nat) (w : World) (_ha : a < 65536 ^ 17) (hb : b < 65536 ^ 16) (hle : b ≤ a) :
    Calls Tryd.prog 80 #[.agg (d17 a), .agg (d16 b)] w fun e w' => e = .returned (.agg (d17 (a - b))) ∧ Below w.heap.size w w' := by
  have hD : d17 (a + 65536 ^ 17 - b) = d17 (a - b) := by
    unfold d17
    refine dgs_congr ?_
    rw [show a + 65536 ^ 17 - b = a - b + 65536 ^ 17 by omega, Nat.add_mod_right]
  have hb17 : b < 65536 ^ 17 := Nat.lt_of_lt_of_le hb (Nat.pow_le_pow_right (by decide) (by decide))
  have hlo := fun k (hk : k < 17) => take_lo a b k hk hb17
  have hhi := take_hi a b
  have hb16 : hxd b 16 = 0 := dg_top (by decide) hb (Nat.le_refl _)
  rw [← hD]
  obtain ⟨D, hDD⟩ : ∃ D, D = a + 65536 ^ 17 - b := ⟨_, rfl⟩
  rw [← hDD] at hlo ⊢
  have HLO := Lib.hid hlo
  have HHI := Lib.hid hhi
  clear hD hb17 hDD _ha hb hle hlo hhi
  go_enter Tryd.func80, Tryd.ntmps80
  go_wp2_with fail
  go_loopw [5, 6, 7, 8] (fun cc ct _ _ wr => ∃ k : Nat, k ≤ 17 ∧ ct = .int .i64 k ∧ cc = .int .u64 ((bor3 a b k : Nat) : Int) ∧ Has wr w.heap.size 116 (tab 17 (mixT D a k)) ∧ Has wr (w.heap.size + 1) 37 (d16 b) ∧
      Has wr (w.heap.size + 1 + 1) 116 (d17 0) ∧ Below w.heap.size w wr) (fun _ ct _ _ _ => 17 - (intOf ct).toNat)
  case atStart =>
    exact ⟨0, by omega, rfl, by rw [bor3, bor_zero]; rfl, by rw [mixT_zero]; exact ((Has.new w _ _).alloc _).alloc _, (Has.new' (by simp)).alloc _, Has.new' (by simp),
      (((Below.refl _ _).alloc (Nat.le_refl _) _).alloc (by simp) _).alloc (by simp <;> omega) _⟩
  case round =>
    obtain ⟨k, hk, rfl, rfl, h0, h1, h2, hb⟩ := hrel
    by_cases hlt : k < 17
    · have c0 := mixT_at h0 hlt
      have dk : (k : Int) < 17 := by omega
      have l0 : ((hxd a k : Nat) : Int) < 65536 := by have := hxd_lt a k; omega
      have l2 : ((bor3 a b k : Nat) : Int) ≤ 1 := by have := bor3_le a b k; omega
      have e1 := HLO.out k hlt
      have e2 := HHI.out k
      have f0 := h0.free k
      by_cases h16 : k < 16
      · have c1 := d16_at h1 k h16
        have d16k : (k : Int) < 16 := by omega
        have l1 : ((hxd b k : Nat) : Int) < 65536 := by have := hxd_lt b k; omega
        go_wp2_with fail
        go_roundw
        case rel => exact ⟨k + 1, by omega, by go_num, by rw [← e2], by rw [← mixT_set, ← e1]; exact h0.set k _, h1.far (by simp <;> omega) _, h2.far (by simp <;> omega) _, hb.setCell (by simp <;> omega) _⟩
        case measure => simp [intOf]; omega
      · have ek : k = 16 := by omega
        have d16k : ¬ (k : Int) < 16 := by omega
        have hz : ((hxd b k : Nat) : Int) = 0 := by rw [ek, hb16]; rfl
        rw [hz] at e1 e2
        simp only [Int.sub_zero] at e1 e2
        clear ek
        go_wp2_with fail
        go_roundw
        case rel => exact ⟨k + 1, by omega, by go_num, by rw [← e2], by rw [← mixT_set, ← e1]; exact h0.set k _, h1.far (by simp <;> omega) _, h2.far (by simp <;> omega) _, hb.setCell (by simp <;> omega) _⟩
        case measure => simp [intOf]; omega
    · have e17 : k = 17 := by omega
      have h0' : Has wr w.heap.size 116 (d17 D) := by rw [e17, mixT_end] at h0; exact h0
      have dk : ¬ (k : Int) < 17 := by omega
      clear e17 hk h0 h1
      go_wp2_with (first | refine wpList_load_row rfl 116 _ rfl w.heap.size rfl 116 _ _ _ h0' Tryd.underlying116 rfl (info17 _) ?_ | refine wpList_store_row rfl 116 _ _ rfl (w.heap.size + 1 + 1) _ rfl rfl 116 _ h2 (info17 _) (by simp only [d17_size]) (tab_oneCell _ _ fun _ => rfl) ?_)
      exact bodyPost_ret (v := .agg (d17 D)) (results_cell_row rfl _ _ (w.heap.size + 1 + 1) 116 _ _ _ rfl (h2.setRow _) Tryd.underlying116 rfl (info17 _)) rfl ⟨rfl, below_setRow hb (by omega) _⟩
end Go.Proofs.YtflkhlhpifmocaaDoor
namespace Go.Proofs.YtflkhlhpifmocaaDoor
open Go.RowKit

/-- the first sixteen cells of seventeen, as a number -/
theorem wpList_load_d16 {P : Program} {ops : Array Oper} {rest : List Oper} {op : Oper} {a : Act} {w : World} {Q : Exit → Act → World → Prop} (hgd : op.guard = none) (ty : TypeId) (x : Operand) (ho : op.op = .load ty x)
    (b : Nat) (hx : a.eval x = .pointer (some ⟨b, 0, none⟩)) (t : TypeId) (R : Nat) (hg : Has w b t (d17 R)) (d : TypeDesc) (hu : P.underlying ty = some d) (hd : d.isRow = true) (hi : (P.info? ty).map (·.size) = some 16)
    (h : wpList P ops Q rest (a.put op.dst (.agg (d16 R))) w) : wpList P ops Q (op :: rest) a w := by
  have hc := hg.range 0 16 (by decide)
  simp only [Nat.zero_add] at hc
  exact wpList_load_mid hgd ty x ho b 0 hx _ d hc hu hd (by simpa using hi) h
theorem info16' : (Tryd.prog.info? 37).map (·.size) = some 16 := by kernel_rfl
theorem slice16 (g : Nat) : ∀ W : World, (Instr.sliceAt 116 (.pointer (some ⟨g, 0, none⟩)) none (some (.int .i64 16)) none).run Tryd.prog W = .ok (.slice (some ⟨g, 0, none⟩) 16 17) W := fun W => by
  have hs : (sizeOf 35).run Tryd.prog W = .ok 1 W := by kernel_rfl
  have e5 : Tryd.prog.elem 116 = 35 := by kernel_rfl
  have e17 : Tryd.prog.arrayLen 116 = 17 := by kernel_rfl
  have h := run_sliceAt_array_h (P := Tryd.prog) (w := W) 116 ⟨g, 0, none⟩ (by kernel_rfl) .i64 16 (by decide) (by rw [e17]; decide)
  rw [h, e5, hs, e17]
  simp [Result.andThen, slicedAt, Addr.add]
theorem array16 (g : Nat) : ∀ W : World, (Instr.arrayAt 37 (.slice (some ⟨g, 0, none⟩) 16 17)).run Tryd.prog W = .ok (.pointer (some ⟨g, 0, none⟩)) W := fun W =>
  run_arrayAt (P := Tryd.prog) (w := W) 37 _ 16 _ 16 17 Tryd.underlying37 (by decide)
theorem mod_of (T m R : Nat) (h : T < 2 * m) (hR : R = if T < m then T else T - m) : R = T % m := by
  subst hR
  by_cases c : T < m
  · rw [if_pos c, Nat.mod_eq_of_lt c]
  · rw [if_neg c, Nat.mod_eq_sub_mod (by omega), Nat.mod_eq_of_lt (by omega)]

def car3 (a c k : Nat) : Nat := carL 65536 2 a c k
theorem car3_le (a c k : Nat) (hc : c ≤ 1) : car3 a c k ≤ 1 := by
  unfold car3 carL
  have h := Nat.mod_lt a (Nat.pow_pos (n := k) (show 0 < 65536 by decide))
  have : (2 * (a % 65536 ^ k) + c) / 65536 ^ k < 2 := by rw [Nat.div_lt_iff_lt_mul (Nat.pow_pos (by decide))]; omega
  omega
theorem twice_lo (a c k : Nat) : ((2 : Int) * ((hxd a k : Nat) : Int) + ((car3 a c k : Nat) : Int)) % 65536 = ((hxd (2 * a + c) k : Nat) : Int) := by
  have h : (2 * hxd a k + car3 a c k) % 65536 = hxd (2 * a + c) k := carL_dg (by decide) 2 a c k
  rw [← h]; omega
theorem twice_hi (a c k : Nat) : ((2 : Int) * ((hxd a k : Nat) : Int) + ((car3 a c k : Nat) : Int)) / 65536 = ((car3 a c (k + 1) : Nat) : Int) := by
  have h : (2 * hxd a k + car3 a c k) / 65536 = car3 a c (k + 1) := carL_step (by decide) 2 a c k
  rw [← h]; omega
theorem top_dig (T c : Nat) (h : T < 2 * 65536 ^ 16) (hc : c = T / 65536 ^ 16) : c = hxd T 16 := by
  subst hc
  unfold hxd dg
  refine (Nat.mod_eq_of_lt ?_).symm
  rw [Nat.div_lt_iff_lt_mul (Nat.pow_pos (by decide))]
  refine Nat.lt_of_lt_of_le h (Nat.mul_le_mul_right _ (by decide))
def car4 (a b k : Nat) : Nat := car 65536 a b k
theorem car4_le (a b k : Nat) : car4 a b k ≤ 1 := car_le (by decide) a b k
theorem sum3_lo (a b k : Nat) : (((hxd a k : Nat) : Int) + ((hxd b k : Nat) : Int) + ((car4 a b k : Nat) : Int)) % 65536 = ((hxd (a + b) k : Nat) : Int) := by
  have h : (hxd a k + hxd b k + car4 a b k) % 65536 = hxd (a + b) k := add_dg (by decide) a b k
  rw [← h]; omega
theorem sum3_hi (a b k : Nat) : (((hxd a k : Nat) : Int) + ((hxd b k : Nat) : Int) + ((car4 a b k : Nat) : Int)) / 65536 = ((car4 a b (k + 1) : Nat) : Int) := by
  have h : (hxd a k + hxd b k + car4 a b k) / 65536 = car4 a b (k + 1) := car_step (by decide) a b k
  rw [← h]; omega

attribute [local go_sem] zeroNum zero16 zero17
set_option maxRecDepth 100000 in
set_option maxHeartbeats 1000000 in
theorem twice_any (a m c : Nat) (w : World) (ha : a < m) (hm : m < 65536 ^ 16) (hc : c ≤ 1) :
    Calls Tryd.prog 54 #[.agg (d16 a), .agg (d16 m), .int .u64 (c : Int)] w fun e w' => e = .returned (.agg (d16 ((2 * a + c) % m))) ∧ Below w.heap.size w w' := by
  have h2 : 2 * a + c < 2 * m := by omega
  have h17 : 2 * a + c < 65536 ^ 17 := by
    have : (65536 : Nat) ^ 17 = 65536 * 65536 ^ 16 := by rw [← Nat.pow_succ']
    omega
  have hcar : car3 a c 16 = hxd (2 * a + c) 16 := top_dig _ _ (by omega) (carL_end (by omega))
  have HC := Lib.hid hcar
  have HT2 := Lib.hid h2
  have HT17 := Lib.hid h17
  have HM16 := Lib.hid hm
  have hcl := fun k => car3_le a c k hc
  have HCL := Lib.hid hcl
  have hc1 : (c : Int) ≤ 1 := by omega
  clear h2 h17 hcar ha hm hc hcl
  go_enter Tryd.func54, Tryd.ntmps54
  go_wp2_with fail
  go_loopw [8, 9, 10] (fun cc ct _ wr => ∃ k : Nat, k ≤ 16 ∧ ct = .int .i64 k ∧ cc = .int .u64 ((car3 a c k : Nat) : Int) ∧ Has wr w.heap.size 37 (d16 a) ∧ Has wr (w.heap.size + 1) 37 (d16 m) ∧
      Has wr (w.heap.size + 1 + 1) 37 (d16 0) ∧ Has wr (w.heap.size + 1 + 1 + 1) 116 (d17 ((2 * a + c) % 65536 ^ k)) ∧ Below w.heap.size w wr) (fun _ ct _ _ => 16 - (intOf ct).toNat)
  case atStart =>
    exact ⟨0, by omega, rfl, by rw [car3, carL_zero], (((Has.new w _ _).alloc _).alloc _).alloc _, ((Has.new' (by simp)).alloc _).alloc _, (Has.new' (by simp)).alloc _, by rw [Nat.pow_zero, Nat.mod_one]; exact Has.new' (by simp),
      ((((Below.refl _ _).alloc (Nat.le_refl _) _).alloc (by simp) _).alloc (by simp <;> omega) _).alloc (by simp <;> omega) _⟩
  case round =>
    obtain ⟨k, hk, rfl, rfl, h0, hm, hr, ht, hb⟩ := hrel
    by_cases hlt : k < 16
    · have c0 := d16_at h0 k hlt
      have dk : (k : Int) < 16 := by omega
      have l0 : ((hxd a k : Nat) : Int) < 65536 := by have := hxd_lt a k; omega
      have l2 : ((car3 a c k : Nat) : Int) ≤ 1 := by have := HCL.out k; omega
      have e1 := twice_lo a c k
      have e2 := twice_hi a c k
      have c3 := ht.cellTab k (by omega)
      have f3 := ht.free k
      go_wp2_with fail
      go_roundw
      case rel => exact ⟨k + 1, by omega, by go_num, by rw [← e2], h0.far (by simp <;> omega) _, hm.far (by simp <;> omega) _, hr.far (by simp <;> omega) _, by rw [← d17_set (by omega), ← e1]; exact ht.set k _, hb.setCell (by simp <;> omega) _⟩
      case measure => simp [intOf]; omega
    · obtain rfl : k = 16 := by omega
      clear h0 hk hlt
      have hT : Has (wr.setCell ⟨(w.heap.size + 1 + 1 + 1), 16, none⟩ (.int .u64 ((car3 a c 16 : Nat) : Int))) ((w.heap.size + 1 + 1 + 1)) 116 (d17 (2 * a + c)) := by
        have h := ht.set 16 (.int .u64 ((car3 a c 16 : Nat) : Int))
        rw [HC.out, d17_set (by decide), d17_end] at h
        rw [HC.out]
        exact h
      have hM := hm.far (a := ⟨(w.heap.size + 1 + 1 + 1), 16, none⟩) (by simp <;> omega) (.int .u64 ((car3 a c 16 : Nat) : Int))
      have hR := hr.far (a := ⟨(w.heap.size + 1 + 1 + 1), 16, none⟩) (by simp <;> omega) (.int .u64 ((car3 a c 16 : Nat) : Int))
      have hB : Below w.heap.size w (wr.setCell ⟨(w.heap.size + 1 + 1 + 1), 16, none⟩ (.int .u64 ((car3 a c 16 : Nat) : Int))) := hb.setCell (by simp <;> omega) _
      have cT := ht.cellTab 16 (by decide)
      have fT := ht.free 16
      have hsl := slice16 ((w.heap.size + 1 + 1 + 1))
      have har := array16 ((w.heap.size + 1 + 1 + 1))
      clear ht hm hr hb
      go_wp2_with (first | refine wpList_load_row rfl 116 _ rfl (w.heap.size + 1 + 1 + 1) rfl 116 _ _ _ hT Tryd.underlying116 rfl (info17 _) ?_ | refine wpList_load_row rfl 37 _ rfl (w.heap.size + 1) rfl 37 _ _ _ hM Tryd.underlying37 rfl (info16 _) ?_)
      refine (less3_any (2 * a + c) m _ HT17.out HM16.out).mono ?_
      rintro e w1 ⟨rfl, hx⟩
      replace hT := hT.below hx hT.lt
      replace hM := hM.below hx hM.lt
      replace hR := hR.below hx hR.lt
      replace hB := hB.trans (hx.mono hB.size)
      clear hx cT fT
      by_cases hlt : 2 * a + c < m
      · have hl : ltB (2 * a + c) m = true := by simp [ltB, hlt]
        have hmod : (2 * a + c) % m = 2 * a + c := Nat.mod_eq_of_lt hlt
        have HMOD := Lib.hid hmod
        clear hmod hlt
        go_wp2_with (first | refine wpList_load_d16 rfl 37 _ rfl ((w.heap.size + 1 + 1 + 1)) rfl 116 _ hT _ Tryd.underlying37 rfl info16' ?_ | refine wpList_store_row rfl 37 _ _ rfl ((w.heap.size + 1 + 1)) _ rfl rfl 37 _ hR (info16 _) (by simp only [d16_size]) (tab_oneCell _ _ fun _ => rfl) ?_)
        exact bodyPost_ret (v := .agg (d16 (2 * a + c))) (results_cell_row rfl _ _ ((w.heap.size + 1 + 1)) 37 _ _ _ rfl (hR.setRow _) Tryd.underlying37 rfl (info16 _)) rfl ⟨by rw [HMOD.out], below_setRow hB (by omega) _⟩
      · have hl : ltB (2 * a + c) m = false := by simp [ltB]; omega
        have hmod : (2 * a + c) % m = 2 * a + c - m := by rw [Nat.mod_eq_sub_mod (by omega), Nat.mod_eq_of_lt (by have := HT2.out; omega)]
        have HMOD := Lib.hid hmod
        have hge : m ≤ 2 * a + c := by omega
        clear hmod hlt
        go_wp2_with (first | refine wpList_load_row rfl 116 _ rfl (w.heap.size + 1 + 1 + 1) rfl 116 _ _ _ hT Tryd.underlying116 rfl (info17 _) ?_ | refine wpList_load_row rfl 37 _ rfl (w.heap.size + 1) rfl 37 _ _ _ hM Tryd.underlying37 rfl (info16 _) ?_)
        refine (take_any (2 * a + c) m _ HT17.out HM16.out hge).mono ?_
        rintro e w2 ⟨rfl, hx⟩
        replace hT := hT.below hx hT.lt
        replace hR := hR.below hx hR.lt
        replace hB := hB.trans (hx.mono hB.size)
        clear hx hM
        have hT2 := hT.setRow (d17 (2 * a + c - m))
        have hR2 := hR.farRow (k := (w.heap.size + 1 + 1 + 1)) (by omega) (d17 (2 * a + c - m))
        have hB2 := below_setRow hB (g := (w.heap.size + 1 + 1 + 1)) (by omega) (d17 (2 * a + c - m))
        go_wp2_with (first | refine wpList_store_row rfl 116 _ _ rfl ((w.heap.size + 1 + 1 + 1)) _ rfl rfl 116 _ hT (info17 _) (by simp only [d17_size]) (tab_oneCell _ _ fun _ => rfl) ?_ | refine wpList_load_d16 rfl 37 _ rfl ((w.heap.size + 1 + 1 + 1)) rfl 116 _ hT2 _ Tryd.underlying37 rfl info16' ?_ | refine wpList_store_row rfl 37 _ _ rfl ((w.heap.size + 1 + 1)) _ rfl rfl 37 _ hR2 (info16 _) (by simp only [d16_size]) (tab_oneCell _ _ fun _ => rfl) ?_)
        exact bodyPost_ret (v := .agg (d16 (2 * a + c - m))) (results_cell_row rfl _ _ ((w.heap.size + 1 + 1)) 37 _ _ _ rfl (hR2.setRow _) Tryd.underlying37 rfl (info16 _)) rfl ⟨by rw [HMOD.out], below_setRow hB2 (by omega) _⟩
set_option maxRecDepth 100000 in
set_option maxHeartbeats 1000000 in
theorem sum3_any (a b m : Nat) (w : World) (ha : a < m) (hbm : b < m) (hm : m < 65536 ^ 16) :
    Calls Tryd.prog 50 #[.agg (d16 a), .agg (d16 b), .agg (d16 m)] w fun e w' => e = .returned (.agg (d16 ((a + b) % m))) ∧ Below w.heap.size w w' := by
  have h2 : a + b < 2 * m := by omega
  have h17 : a + b < 65536 ^ 17 := by
    have : (65536 : Nat) ^ 17 = 65536 * 65536 ^ 16 := by rw [← Nat.pow_succ']
    omega
  have hcar : car4 a b 16 = hxd (a + b) 16 := top_dig _ _ (by omega) (car_end (by omega) (by omega))
  have HC := Lib.hid hcar
  have HT2 := Lib.hid h2
  have HT17 := Lib.hid h17
  have HM16 := Lib.hid hm
  clear h2 h17 hcar ha hbm hm
  go_enter Tryd.func50, Tryd.ntmps50
  go_wp2_with fail
  go_loopw [8, 9, 10] (fun cc ct _ wr => ∃ k : Nat, k ≤ 16 ∧ ct = .int .i64 k ∧ cc = .int .u64 ((car4 a b k : Nat) : Int) ∧ Has wr w.heap.size 37 (d16 a) ∧ Has wr (w.heap.size + 1) 37 (d16 b) ∧ Has wr (w.heap.size + 1 + 1) 37 (d16 m) ∧
      Has wr (w.heap.size + 1 + 1 + 1) 37 (d16 0) ∧ Has wr (w.heap.size + 1 + 1 + 1 + 1) 116 (d17 ((a + b) % 65536 ^ k)) ∧ Below w.heap.size w wr) (fun _ ct _ _ => 16 - (intOf ct).toNat)
  case atStart =>
    exact ⟨0, by omega, rfl, by rw [car4, car_zero]; rfl, ((((Has.new w _ _).alloc _).alloc _).alloc _).alloc _, (((Has.new' (by simp)).alloc _).alloc _).alloc _, ((Has.new' (by simp)).alloc _).alloc _, (Has.new' (by simp)).alloc _, by rw [Nat.pow_zero, Nat.mod_one]; exact Has.new' (by simp),
      (((((Below.refl _ _).alloc (Nat.le_refl _) _).alloc (by simp) _).alloc (by simp <;> omega) _).alloc (by simp <;> omega) _).alloc (by simp <;> omega) _⟩
  case round =>
    obtain ⟨k, hk, rfl, rfl, h0, h1, hm, hr, ht, hb⟩ := hrel
    by_cases hlt : k < 16
    · have c0 := d16_at h0 k hlt
      have c1 := d16_at h1 k hlt
      have dk : (k : Int) < 16 := by omega
      have l0 : ((hxd a k : Nat) : Int) < 65536 := by have := hxd_lt a k; omega
      have l1 : ((hxd b k : Nat) : Int) < 65536 := by have := hxd_lt b k; omega
      have l2 : ((car4 a b k : Nat) : Int) ≤ 1 := by have := car4_le a b k; omega
      have e1 := sum3_lo a b k
      have e2 := sum3_hi a b k
      go_wp2_with fail
      go_quiet (fail)
      replace h0 := h0.drewN nq
      replace h1 := h1.drewN nq
      replace hm := hm.drewN nq
      replace hr := hr.drewN nq
      replace ht := ht.drewN nq
      replace hb := below_drewN hb nq
      clear c0 c1
      generalize hq : Go.World.drewN _ nq = wr at *
      clear hq
      have c3 := ht.cellTab k (by omega)
      have f3 := ht.free k
      go_wp2_with fail
      go_roundw
      case rel => exact ⟨k + 1, by omega, by go_num, by rw [← e2], h0.far (by simp <;> omega) _, h1.far (by simp <;> omega) _, hm.far (by simp <;> omega) _, hr.far (by simp <;> omega) _, by rw [← d17_set (by omega), ← e1]; exact ht.set k _, hb.setCell (by simp <;> omega) _⟩
      case measure => simp [intOf]; omega
    · obtain rfl : k = 16 := by omega
      clear h0 h1 hk hlt
      have hT : Has (wr.setCell ⟨(w.heap.size + 1 + 1 + 1 + 1), 16, none⟩ (.int .u64 ((car4 a b 16 : Nat) : Int))) ((w.heap.size + 1 + 1 + 1 + 1)) 116 (d17 (a + b)) := by
        have h := ht.set 16 (.int .u64 ((car4 a b 16 : Nat) : Int))
        rw [HC.out, d17_set (by decide), d17_end] at h
        rw [HC.out]
        exact h
      have hM := hm.far (a := ⟨(w.heap.size + 1 + 1 + 1 + 1), 16, none⟩) (by simp <;> omega) (.int .u64 ((car4 a b 16 : Nat) : Int))
      have hR := hr.far (a := ⟨(w.heap.size + 1 + 1 + 1 + 1), 16, none⟩) (by simp <;> omega) (.int .u64 ((car4 a b 16 : Nat) : Int))
      have hB : Below w.heap.size w (wr.setCell ⟨(w.heap.size + 1 + 1 + 1 + 1), 16, none⟩ (.int .u64 ((car4 a b 16 : Nat) : Int))) := hb.setCell (by simp <;> omega) _
      have cT := ht.cellTab 16 (by decide)
      have fT := ht.free 16
      have hsl := slice16 ((w.heap.size + 1 + 1 + 1 + 1))
      have har := array16 ((w.heap.size + 1 + 1 + 1 + 1))
      clear ht hm hr hb
      go_wp2_with (first | refine wpList_load_row rfl 116 _ rfl (w.heap.size + 1 + 1 + 1 + 1) rfl 116 _ _ _ hT Tryd.underlying116 rfl (info17 _) ?_ | refine wpList_load_row rfl 37 _ rfl (w.heap.size + 1 + 1) rfl 37 _ _ _ hM Tryd.underlying37 rfl (info16 _) ?_)
      refine (less3_any (a + b) m _ HT17.out HM16.out).mono ?_
      rintro e w1 ⟨rfl, hx⟩
      replace hT := hT.below hx hT.lt
      replace hM := hM.below hx hM.lt
      replace hR := hR.below hx hR.lt
      replace hB := hB.trans (hx.mono hB.size)
      clear hx cT fT
      by_cases hlt : a + b < m
      · have hl : ltB (a + b) m = true := by simp [ltB, hlt]
        have hmod : (a + b) % m = a + b := Nat.mod_eq_of_lt hlt
        have HMOD := Lib.hid hmod
        clear hmod hlt
        go_wp2_with (first | refine wpList_load_d16 rfl 37 _ rfl ((w.heap.size + 1 + 1 + 1 + 1)) rfl 116 _ hT _ Tryd.underlying37 rfl info16' ?_ | refine wpList_store_row rfl 37 _ _ rfl ((w.heap.size + 1 + 1 + 1)) _ rfl rfl 37 _ hR (info16 _) (by simp only [d16_size]) (tab_oneCell _ _ fun _ => rfl) ?_)
        exact bodyPost_ret (v := .agg (d16 (a + b))) (results_cell_row rfl _ _ ((w.heap.size + 1 + 1 + 1)) 37 _ _ _ rfl (hR.setRow _) Tryd.underlying37 rfl (info16 _)) rfl ⟨by rw [HMOD.out], below_setRow hB (by omega) _⟩
      · have hl : ltB (a + b) m = false := by simp [ltB]; omega
        have hmod : (a + b) % m = a + b - m := by rw [Nat.mod_eq_sub_mod (by omega), Nat.mod_eq_of_lt (by have := HT2.out; omega)]
        have HMOD := Lib.hid hmod
        have hge : m ≤ a + b := by omega
        clear hmod hlt
        go_wp2_with (first | refine wpList_load_row rfl 116 _ rfl (w.heap.size + 1 + 1 + 1 + 1) rfl 116 _ _ _ hT Tryd.underlying116 rfl (info17 _) ?_ | refine wpList_load_row rfl 37 _ rfl (w.heap.size + 1 + 1) rfl 37 _ _ _ hM Tryd.underlying37 rfl (info16 _) ?_)
        refine (take_any (a + b) m _ HT17.out HM16.out hge).mono ?_
        rintro e w2 ⟨rfl, hx⟩
        replace hT := hT.below hx hT.lt
        replace hR := hR.below hx hR.lt
        replace hB := hB.trans (hx.mono hB.size)
        clear hx hM
        have hT2 := hT.setRow (d17 (a + b - m))
        have hR2 := hR.farRow (k := (w.heap.size + 1 + 1 + 1 + 1)) (by omega) (d17 (a + b - m))
        have hB2 := below_setRow hB (g := (w.heap.size + 1 + 1 + 1 + 1)) (by omega) (d17 (a + b - m))
        go_wp2_with (first | refine wpList_store_row rfl 116 _ _ rfl ((w.heap.size + 1 + 1 + 1 + 1)) _ rfl rfl 116 _ hT (info17 _) (by simp only [d17_size]) (tab_oneCell _ _ fun _ => rfl) ?_ | refine wpList_load_d16 rfl 37 _ rfl ((w.heap.size + 1 + 1 + 1 + 1)) rfl 116 _ hT2 _ Tryd.underlying37 rfl info16' ?_ | refine wpList_store_row rfl 37 _ _ rfl ((w.heap.size + 1 + 1 + 1)) _ rfl rfl 37 _ hR2 (info16 _) (by simp only [d16_size]) (tab_oneCell _ _ fun _ => rfl) ?_)
        exact bodyPost_ret (v := .agg (d16 (a + b - m))) (results_cell_row rfl _ _ ((w.heap.size + 1 + 1 + 1)) 37 _ _ _ rfl (hR2.setRow _) Tryd.underlying37 rfl (info16 _)) rfl ⟨by rw [HMOD.out], below_setRow hB2 (by omega) _⟩
end Go.Proofs.YtflkhlhpifmocaaDoor
namespace Go.Proofs.YtflkhlhpifmocaaDoor
open Go Go.RowKit

section
variable {P : Program} {w : World} {ops : Array Oper} {rest : List Oper} {o : Oper} {a : Act} {C : World → Prop} {L : Act → Prop}
theorem wpQ_indexAddr (t : TypeId) (x i : Operand) (ho : o.op = .indexAddr t x i) (hw : Region.wanted o (yielded ops a.tmps) = true) (X I : Value) (hx : a.eval x = X) (hi : a.eval i = I) (v : Value)
    (hrun : ∀ w, C w → (Instr.indexAt t X I).run P w = .ok v w) (h : wpQuiet P ops C L rest (a.put o.dst v)) : wpQuiet P ops C L (o :: rest) a :=
  wpQ_val hw v (fun w hC => by
    have := hrun w hC
    simp only [execOp, ho, hx, hi]
    rw [Sem.run_bind, this]
    rfl) h
theorem wpQ_load (t : TypeId) (x : Operand) (ho : o.op = .load t x) (hw : Region.wanted o (yielded ops a.tmps) = true) (X : Value) (hx : a.eval x = X) (v : Value)
    (hrun : ∀ w, C w → (Instr.loadAt t X).run P w = .ok v w) (h : wpQuiet P ops C L rest (a.put o.dst v)) : wpQuiet P ops C L (o :: rest) a :=
  wpQ_val hw v (fun w hC => by
    have := hrun w hC
    simp only [execOp, ho, hx]
    rw [Sem.run_bind, this]
    rfl) h
theorem wpQ_slice (t : TypeId) (x : Operand) (lo hi mx : Option Operand) (ho : o.op = .slice t x lo hi mx) (hw : Region.wanted o (yielded ops a.tmps) = true) (X : Value) (hx : a.eval x = X) (l h' m : Option Value) (hl : lo.map a.eval = l) (hh : hi.map a.eval = h') (hm : mx.map a.eval = m) (v : Value)
    (hrun : ∀ w, C w → (Instr.sliceAt t X l h' m).run P w = .ok v w) (h : wpQuiet P ops C L rest (a.put o.dst v)) : wpQuiet P ops C L (o :: rest) a :=
  wpQ_val hw v (fun w hC => by
    have := hrun w hC
    simp only [execOp, ho, hx, hl, hh, hm]
    rw [Sem.run_bind, this]
    rfl) h
theorem wpQ_arrayAt (t : TypeId) (x : Operand) (ho : o.op = .sliceToArrayPointer t x) (hw : Region.wanted o (yielded ops a.tmps) = true) (X : Value) (hx : a.eval x = X) (v : Value)
    (hrun : ∀ w, C w → (Instr.arrayAt t X).run P w = .ok v w) (h : wpQuiet P ops C L rest (a.put o.dst v)) : wpQuiet P ops C L (o :: rest) a :=
  wpQ_val hw v (fun w hC => by
    have := hrun w hC
    simp only [execOp, ho, hx]
    rw [Sem.run_bind, this]
    rfl) h
/-- a call, its function and its arguments told beside it -/
theorem wpQ_fn (fn : FuncId) (cs : Array Operand) (ts : Array TypeId) (ho : o.op = .call { callee := .value (.func fn), args := cs, argTypes := ts }) (hw : Region.wanted o (yielded ops a.tmps) = true) (args : Array Value) (hargs0 : cs.toList.map a.eval = args.toList) (hfn : ∀ w, (callFunc fn args).run P w = .ok (.enter fn args) w) (v : Value)
    (hc : ∀ w', C w' → Calls P fn args w' fun e w'' => e = .returned v ∧ C w'') (h : wpQuiet P ops C L rest (a.put o.dst v)) : wpQuiet P ops C L (o :: rest) a :=
  have hargs : cs.map a.eval = args := by
    apply Array.toList_inj.1
    rw [Array.toList_map]
    exact hargs0
  wpQ_call fn args hw (fun w => by
    unfold execOp
    simp only [ho]
    subst hargs
    go_simp) v hc h
end
end Go.Proofs.YtflkhlhpifmocaaDoor
namespace Go.Proofs.YtflkhlhpifmocaaDoor
open Go.RowKit

def bitA (a k : Nat) : Nat := a / 2 ^ k % 2
theorem bitA_le (a k : Nat) : bitA a k ≤ 1 := by have : bitA a k < 2 := Nat.mod_lt _ (by decide); omega
theorem bit_hex (a k : Nat) : ((hxd a (k / 16) : Nat) : Int) / 2 ^ (k % 16) % 2 = ((bitA a k : Nat) : Int) := by
  have h := dg_dg (b := 2) (m := 16) (x := a) (q := k / 16) (r := k % 16) (by omega)
  rw [Nat.div_add_mod] at h
  have e : hxd a (k / 16) / 2 ^ (k % 16) % 2 = bitA a k := h
  rw [← e]
  simp [Int.natCast_ediv, Int.natCast_pow, Int.natCast_emod]
theorem quo16 (o1 o2 : Operand) (k : Nat) (hk : k < 65536) (w : World) : (do eqGuard .quo 3 o1 o2 (.int .i64 (k : Int)) (.int .i64 16); binOp .quo 3 (.int .i64 (k : Int)) (.int .i64 16) : Sem Value).run Tryd.prog w = .ok (.int .i64 ((k / 16 : Nat) : Int)) w := by
  have e1 : (k : Int).tdiv 16 = ((k / 16 : Nat) : Int) := by rw [Int.tdiv_eq_ediv_of_nonneg (by omega)]; omega
  go_simp
  exact IntWalk.i64_in _ (by omega)
theorem rem16 (o1 o2 : Operand) (k : Nat) (hk : k < 65536) (w : World) : (do eqGuard .rem 3 o1 o2 (.int .i64 (k : Int)) (.int .i64 16); binOp .rem 3 (.int .i64 (k : Int)) (.int .i64 16) : Sem Value).run Tryd.prog w = .ok (.int .i64 ((k % 16 : Nat) : Int)) w := by
  have e1 : (k : Int).tmod 16 = ((k % 16 : Nat) : Int) := by rw [Int.tmod_eq_emod_of_nonneg (by omega)]; omega
  go_simp
theorem shr64 (o1 o2 : Operand) (x k : Nat) (_hx : x < 65536) (hk : k < 64) (w : World) : (do eqGuard .shr 35 o1 o2 (.int .u64 (x : Int)) (.int .i64 (k : Int)); binOp .shr 35 (.int .u64 (x : Int)) (.int .i64 (k : Int)) : Sem Value).run Tryd.prog w = .ok (.int .u64 ((x : Int) / 2 ^ k)) w := by
  have hk2 : (k : Int) < 64 := by omega
  have hmin : min k 64 = k := Nat.min_eq_left (by omega)
  go_simp
theorem rem2 (o1 o2 : Operand) (x : Int) (b : Nat) (hx : 0 ≤ x) (h : x % 2 = (b : Int)) (w : World) : (do eqGuard .rem 35 o1 o2 (.int .u64 x) (.int .u64 2); binOp .rem 35 (.int .u64 x) (.int .u64 2) : Sem Value).run Tryd.prog w = .ok (.int .u64 (b : Int)) w := by
  have h2 : x.tmod 2 = (b : Int) := by rw [Int.tmod_eq_emod_of_nonneg hx]; exact h
  go_simp
theorem addr16 (g j : Nat) (hj : j < 16) (w : World) : (Instr.indexAt 37 (.pointer (some ⟨g, 0, none⟩)) (.int .i64 (j : Int))).run Tryd.prog w = .ok (.pointer (some ⟨g, j, none⟩)) w := by
  have h1 : (j : Int) < 16 := by omega
  go_simp
theorem cell_u64 (g j : Nat) (v : Value) (w : World) (h : w.cell? ⟨g, j, none⟩ = some v) : (Instr.loadAt 35 (.pointer (some ⟨g, j, none⟩))).run Tryd.prog w = .ok v w := by
  go_simp
attribute [local go_sem] zeroNum zero16 zero17
set_option maxRecDepth 100000 in
set_option maxHeartbeats 1000000 in
theorem reduce3_any (a m : Nat) (w : World) (ha : a < 65536 ^ 16) (hm0 : 0 < m) (hm : m < 65536 ^ 16) :
    Calls Tryd.prog 24 #[.agg (d16 a), .agg (d16 m)] w fun e w' => e = .returned (.agg (d16 (a % m))) ∧ Below w.heap.size w w' := by
  have htw := fun k W => twice_any (a / 2 ^ (k + 1) % m) m (bitA a k) W (Nat.mod_lt _ hm0) hm (bitA_le a k)
  have HTW := Lib.hid htw
  have hst : a / 2 ^ 256 % m = 0 := by
    have : (65536 : Nat) ^ 16 = 2 ^ 256 := by decide +kernel
    rw [this] at ha
    rw [Nat.div_eq_of_lt ha, Nat.zero_mod]
  have HST := Lib.hid hst
  clear htw hst ha hm0 hm
  go_enter Tryd.func24, Tryd.ntmps24
  go_wp2_with fail
  go_loopw [6] (fun ct wr => ∃ k : Nat, k ≤ 256 ∧ ct = .int .i64 ((k : Int) - 1) ∧ Has wr w.heap.size 37 (d16 a) ∧ Has wr (w.heap.size + 1) 37 (d16 m) ∧ Has wr (w.heap.size + 1 + 1) 37 (d16 0) ∧
      Has wr (w.heap.size + 1 + 1 + 1) 37 (d16 (a / 2 ^ k % m)) ∧ Below w.heap.size w wr) (fun ct _ => (intOf ct + 1).toNat)
  case atStart =>
    exact ⟨256, by omega, rfl, (((Has.new w _ _).alloc _).alloc _).alloc _, ((Has.new' (by simp)).alloc _).alloc _, (Has.new' (by simp)).alloc _, by rw [HST.out]; exact Has.new' (by simp),
      ((((Below.refl _ _).alloc (Nat.le_refl _) _).alloc (by simp) _).alloc (by simp <;> omega) _).alloc (by simp <;> omega) _⟩
  case round =>
    obtain ⟨k, hk, rfl, hA, hM, hR, hX, hb⟩ := hrel
    by_cases hlt : 0 < k
    · obtain ⟨k, rfl⟩ : ∃ j, k = j + 1 := ⟨k - 1, by omega⟩
      have ek : ((k + 1 : Nat) : Int) - 1 = (k : Int) := by omega
      rw [ek]
      clear ek
      have htw := HTW.out k
      have hts := twice_step a m k
      have hval : (2 * (a / 2 ^ (k + 1) % m) + bitA a k) % m = a / 2 ^ k % m := hts
      rw [hval] at htw
      clear hts hval
      generalize hold : a / 2 ^ (k + 1) % m = x at *
      generalize hnew : a / 2 ^ k % m = y at *
      have HN := Lib.hid hnew
      clear hold hnew
      go_wp2_with fail
      refine region_quiet_tail (Below wr.heap.size wr) 11 (by kernel_rfl) (by kernel_rfl) (below_drewN (Below.refl _ _) 1) ?_
      simp only [List.take_succ_cons, List.take_zero, List.drop_succ_cons, List.drop_zero]
      refine wpQ_has 37 _ rfl _ rfl rfl 37 _ (fun w' hC => hX.after hC) _ Tryd.underlying37 rfl (info16 _) ?_
      simp only [Act.put, List.setIfInBounds_toArray, List.set_cons_zero, List.set_cons_succ]
      refine wpQ_has 37 _ rfl _ rfl rfl 37 _ (fun w' hC => hM.after hC) _ Tryd.underlying37 rfl (info16 _) ?_
      simp only [Act.put, List.setIfInBounds_toArray, List.set_cons_zero, List.set_cons_succ]
      refine wpQ_move _ rfl rfl (.int .i64 (k : Int)) rfl ?_
      simp only [Act.put, List.setIfInBounds_toArray, List.set_cons_zero, List.set_cons_succ]
      refine wpQ_bin _ _ _ _ _ rfl rfl (.int .i64 (k : Int)) (.int .i64 16) rfl rfl (.int .i64 ((k / 16 : Nat) : Int)) (fun w' _ => quo16 _ _ k (by omega) w') ?_
      simp only [Act.put, List.setIfInBounds_toArray, List.set_cons_zero, List.set_cons_succ]
      refine wpQ_indexAddr _ _ _ rfl rfl (.pointer (some ⟨w.heap.size, 0, none⟩)) (.int .i64 ((k / 16 : Nat) : Int)) rfl rfl (.pointer (some ⟨w.heap.size, k / 16, none⟩)) (fun w' _ => addr16 _ _ (by omega) w') ?_
      simp only [Act.put, List.setIfInBounds_toArray, List.set_cons_zero, List.set_cons_succ]
      refine wpQ_load _ _ rfl rfl (.pointer (some ⟨w.heap.size, k / 16, none⟩)) rfl (.int .u64 ((hxd a (k / 16) : Nat) : Int)) (fun w' hC => cell_u64 _ _ _ w' (d16_at (hA.after hC) (k / 16) (by omega))) ?_
      simp only [Act.put, List.setIfInBounds_toArray, List.set_cons_zero, List.set_cons_succ]
      refine wpQ_move _ rfl rfl (.int .i64 (k : Int)) rfl ?_
      simp only [Act.put, List.setIfInBounds_toArray, List.set_cons_zero, List.set_cons_succ]
      refine wpQ_bin _ _ _ _ _ rfl rfl (.int .i64 (k : Int)) (.int .i64 16) rfl rfl (.int .i64 ((k % 16 : Nat) : Int)) (fun w' _ => rem16 _ _ k (by omega) w') ?_
      simp only [Act.put, List.setIfInBounds_toArray, List.set_cons_zero, List.set_cons_succ]
      refine wpQ_bin _ _ _ _ _ rfl rfl (.int .u64 ((hxd a (k / 16) : Nat) : Int)) (.int .i64 ((k % 16 : Nat) : Int)) rfl rfl (.int .u64 (((hxd a (k / 16) : Nat) : Int) / 2 ^ (k % 16))) (fun w' _ => shr64 _ _ _ _ (hxd_lt _ _) (by omega) w') ?_
      simp only [Act.put, List.setIfInBounds_toArray, List.set_cons_zero, List.set_cons_succ]
      refine wpQ_bin _ _ _ _ _ rfl rfl (.int .u64 (((hxd a (k / 16) : Nat) : Int) / 2 ^ (k % 16))) (.int .u64 2) rfl rfl (.int .u64 ((bitA a k : Nat) : Int)) (fun w' _ => rem2 _ _ _ _ (Int.ediv_nonneg (by omega) (Int.le_of_lt (Int.pow_pos (by decide)))) (bit_hex a k) w') ?_
      simp only [Act.put, List.setIfInBounds_toArray, List.set_cons_zero, List.set_cons_succ]
      refine wpQ_fn 54 _ _ rfl rfl #[.agg (d16 x), .agg (d16 m), .int .u64 ((bitA a k : Nat) : Int)] rfl (fun _ => by go_simp) (.agg (d16 y)) (fun w' hC => (htw w').mono fun e w'' ⟨he, hb⟩ => ⟨he, below_class hC hb⟩) ?_
      simp only [Act.put, List.setIfInBounds_toArray, List.set_cons_zero, List.set_cons_succ]
      refine wpQuiet_nil ?_
      intro w2 hC
      replace hA := hA.after hC
      replace hM := hM.after hC
      replace hR := hR.after hC
      replace hX := hX.after hC
      replace hb := below_trans hb hC
      clear hC htw
      have hX2 := hX.setRow (d16 y)
      have hA2 := hA.farRow (k := w.heap.size + 1 + 1 + 1) (by omega) (d16 y)
      have hM2 := hM.farRow (k := w.heap.size + 1 + 1 + 1) (by omega) (d16 y)
      have hR2 := hR.farRow (k := w.heap.size + 1 + 1 + 1) (by omega) (d16 y)
      have hb2 := below_setRow hb (g := w.heap.size + 1 + 1 + 1) (by omega) (d16 y)
      go_wp2_with (refine wpList_store_row rfl 37 _ _ rfl (w.heap.size + 1 + 1 + 1) _ rfl rfl 37 _ hX (info16 _) (by simp only [d16_size]) (tab_oneCell _ _ fun _ => rfl) ?_)
      go_roundw
      case rel => exact ⟨k, by omega, by go_num, hA2, hM2, hR2, by rw [HN.out]; exact hX2, hb2⟩
      case measure => simp [intOf] <;> omega
    · obtain rfl : k = 0 := by omega
      have hX' : Has wr (w.heap.size + 1 + 1 + 1) 37 (d16 (a % m)) := by rw [Nat.pow_zero, Nat.div_one] at hX; exact hX
      clear hX hA hM hk hlt
      go_wp2_with (first | refine wpList_load_row rfl 37 _ rfl (w.heap.size + 1 + 1 + 1) rfl 37 _ _ _ hX' Tryd.underlying37 rfl (info16 _) ?_ | refine wpList_store_row rfl 37 _ _ rfl (w.heap.size + 1 + 1) _ rfl rfl 37 _ hR (info16 _) (by simp only [d16_size]) (tab_oneCell _ _ fun _ => rfl) ?_)
      exact bodyPost_ret (v := .agg (d16 (a % m))) (results_cell_row rfl _ _ (w.heap.size + 1 + 1) 37 _ _ _ rfl (hR.setRow _) Tryd.underlying37 rfl (info16 _)) rfl ⟨rfl, below_setRow hb (by omega) _⟩

theorem one16 : (d16 0).setIfInBounds 0 (Value.int IntKind.u64 1) = d16 1 := by kernel_rfl
theorem d16_ne (x : Nat) : ¬ d16 x = #[] := fun h => by have := congrArg Array.size h; simp [d16_size] at this
attribute [local go_sem] one16
set_option maxRecDepth 100000 in
set_option maxHeartbeats 1000000 in
theorem r3_any (m : Nat) (w : World) (hm0 : 0 < m) (hm : m < 65536 ^ 16) :
    Calls Tryd.prog 49 #[.agg (d16 m)] w fun e w' => e = .returned (.agg (d16 (2 ^ 256 % m))) ∧ Below w.heap.size w w' := by
  have hred := fun W => reduce3_any 1 m W (by decide +kernel) hm0 hm
  have htw := fun k W => twice_any (2 ^ k % m) m 0 W (Nat.mod_lt _ hm0) hm (by decide)
  have htw2 : ∀ k W, Calls Tryd.prog 54 #[.agg (d16 (2 ^ k % m)), .agg (d16 m), .int .u64 0] W fun e w' => e = .returned (.agg (d16 (2 ^ (k + 1) % m))) ∧ Below W.heap.size W w' := fun k W => by
    have h := htw k W
    have e : (2 * (2 ^ k % m) + 0) % m = 2 ^ (k + 1) % m := by rw [Nat.add_zero, Nat.pow_succ, Nat.mul_comm (2 ^ k), Nat.mul_mod, Nat.mod_mod, ← Nat.mul_mod]
    rw [e] at h
    exact h
  have HTW := Lib.hid htw2
  have hne := d16_ne 0
  clear htw htw2 hm0 hm
  have hM : Has ((w.alloc (.cells (d16 m) 37)).alloc (.cells (d16 0) 37)) w.heap.size 37 (d16 m) := (Has.new w _ _).alloc _
  have hR : Has ((w.alloc (.cells (d16 m) 37)).alloc (.cells (d16 0) 37)) (w.heap.size + 1) 37 (d16 0) := Has.new' (by simp)
  have hb : Below w.heap.size w ((w.alloc (.cells (d16 m) 37)).alloc (.cells (d16 0) 37)) := ((Below.refl _ _).alloc (Nat.le_refl _) _).alloc (by simp) _
  go_enter Tryd.func49, Tryd.ntmps49
  go_wp2_with (refine wpList_load_has 37 _ rfl _ rfl rfl 37 _ hM _ Tryd.underlying37 rfl (info16 _) ?_)
  refine (hred _).mono ?_
  rintro e w1 ⟨rfl, hx⟩
  have hN := put_new w1 37 (d16 0) (d16 (1 % m))
  replace hM := (hM.after hx).after hN.2
  replace hR := (hR.after hx).after hN.2
  replace hb := below_trans (below_trans hb hx) hN.2
  have hX := hN.1
  have hw1 : w.heap.size ≤ w1.heap.size := by have := hx.size; simp at this; omega
  have hw2 : w.heap.size + 1 < w1.heap.size := by have := hx.size; simp at this; omega
  clear hx hN hred
  go_wp2_with (refine wpList_store_row rfl 37 _ _ rfl w1.heap.size _ rfl rfl 37 (d16 0) (Has.new' rfl) (info16 _) (by simp only [d16_size]) (tab_oneCell _ _ fun _ => rfl) ?_)
  generalize hg : w1.heap.size = g at *
  generalize hW : Go.World.setRow _ _ _ = W at *
  clear hW hg
  go_loopw [4] (fun ct wr => ∃ k : Nat, k ≤ 256 ∧ ct = .int .i64 k ∧ Has wr w.heap.size 37 (d16 m) ∧ Has wr (w.heap.size + 1) 37 (d16 0) ∧
      Has wr g 37 (d16 (2 ^ k % m)) ∧ Below w.heap.size w wr) (fun ct _ => 256 - (intOf ct).toNat)
  case atStart => exact ⟨0, by omega, rfl, hM, hR, hX, hb⟩
  case round =>
    clear hM hR hX hb
    obtain ⟨k, hk, rfl, hM, hR, hX, hb⟩ := hrel
    by_cases hlt : k < 256
    · have dk : (k : Int) < 256 := by omega
      have htw := HTW.out k
      generalize hold : 2 ^ k % m = x at *
      generalize hnew : 2 ^ (k + 1) % m = y at *
      have HN := Lib.hid hnew
      clear hold hnew
      go_wp2_with (first | refine wpList_load_has 37 _ rfl _ rfl rfl 37 _ hM _ Tryd.underlying37 rfl (info16 _) ?_ | refine wpList_load_has 37 _ rfl _ rfl rfl 37 _ hX _ Tryd.underlying37 rfl (info16 _) ?_)
      refine (htw _).mono ?_
      rintro e w2 ⟨rfl, hx⟩
      replace hM := hM.after hx
      replace hR := hR.after hx
      replace hX := hX.after hx
      replace hb := below_trans hb hx
      clear hx htw
      have hX2 := hX.setRow (d16 y)
      have hM2 := hM.farRow (k := g) (by omega) (d16 y)
      have hR2 := hR.farRow (k := g) (by omega) (d16 y)
      have hb2 := below_setRow hb (g := g) (by omega) (d16 y)
      go_wp2_with (refine wpList_store_row rfl 37 _ _ rfl g _ rfl rfl 37 _ hX (info16 _) (by simp only [d16_size]) (tab_oneCell _ _ fun _ => rfl) ?_)
      go_roundw
      case rel => exact ⟨k + 1, by omega, by go_num, hM2, hR2, by rw [HN.out]; exact hX2, hb2⟩
      case measure => simp [intOf]; omega
    · obtain rfl : k = 256 := by omega
      generalize hy : 2 ^ 256 % m = y at *
      have HY := Lib.hid hy
      clear hM hk hlt hy
      go_wp2_with (first | refine wpList_load_row rfl 37 _ rfl g rfl 37 _ _ _ hX Tryd.underlying37 rfl (info16 _) ?_ | refine wpList_store_row rfl 37 _ _ rfl (w.heap.size + 1) _ rfl rfl 37 _ hR (info16 _) (by simp only [d16_size]) (tab_oneCell _ _ fun _ => rfl) ?_)
      exact bodyPost_ret (v := .agg (d16 y)) (results_cell_row rfl _ _ (w.heap.size + 1) 37 _ _ _ rfl (hR.setRow _) Tryd.underlying37 rfl (info16 _)) rfl ⟨by rw [HY.out], below_setRow hb (by omega) _⟩

end Go.Proofs.YtflkhlhpifmocaaDoor
namespace Go.Proofs.YtflkhlhpifmocaaDoor

/-- half of a, modulo m (odd) -/
def halfN (m a : Nat) : Nat := (a + a % 2 * m) / 2
def overN (m a : Nat) : Nat → Nat
  | 0 => a
  | k + 1 => halfN m (overN m a k)
theorem halfN_lt (m a : Nat) (h : a < m) : halfN m a < m := by
  unfold halfN
  rcases (show a % 2 = 0 ∨ a % 2 = 1 by omega) with e | e <;> rw [e] <;> omega
theorem overN_lt (m a : Nat) (h : a < m) : ∀ k, overN m a k < m
  | 0 => h
  | k + 1 => halfN_lt m _ (overN_lt m a h k)
theorem halfN_two (m a : Nat) (hm : m % 2 = 1) : (2 * halfN m a) % m = a % m := by
  have h : 2 * halfN m a = a + a % 2 * m := by
    unfold halfN
    rcases (show a % 2 = 0 ∨ a % 2 = 1 by omega) with e | e <;> rw [e] <;> omega
  rw [h, Nat.add_mul_mod_self_right]
theorem overN_pow (m a : Nat) (hm : m % 2 = 1) : ∀ k, (2 ^ k * overN m a k) % m = a % m
  | 0 => by simp [overN]
  | k + 1 => by
    show (2 ^ (k + 1) * halfN m (overN m a k)) % m = a % m
    rw [Nat.pow_succ, Nat.mul_assoc, Nat.mul_mod, halfN_two m _ hm, ← Nat.mul_mod, overN_pow m a hm k]
end Go.Proofs.YtflkhlhpifmocaaDoor
namespace Go.Proofs.YtflkhlhpifmocaaDoor
open Go

def IsPr (p : Nat) : Prop := 2 ≤ p ∧ ∀ a b, p ∣ a * b → p ∣ a ∨ p ∣ b
theorem small_pr (p : Nat) (h2 : 2 ≤ p) (hd : ∀ d, d < p → 2 ≤ d → p % d ≠ 0) : IsPr p := by
  refine ⟨h2, fun a b hab => ?_⟩
  have hg : Nat.gcd p a ∣ p := Nat.gcd_dvd_left p a
  have hle : Nat.gcd p a ≤ p := Nat.le_of_dvd (by omega) hg
  have hpos : 0 < Nat.gcd p a := Nat.gcd_pos_of_pos_left a (by omega)
  by_cases h1 : Nat.gcd p a = 1
  · exact .inr (Nat.Coprime.dvd_of_dvd_mul_left h1 hab)
  · by_cases hp : Nat.gcd p a = p
    · left
      rw [← hp]
      exact Nat.gcd_dvd_right p a
    · exact absurd (Nat.mod_eq_zero_of_dvd hg) (hd _ (by omega) (by omega))
/-- b to the power e, modulo n, by squares -/
def powm (n : Nat) : Nat → Nat → Nat → Nat
  | 0, _, _ => 1 % n
  | f + 1, b, e => if e = 0 then 1 % n else if e % 2 = 1 then b * powm n f (b * b % n) (e / 2) % n else powm n f (b * b % n) (e / 2)
theorem powm_eq (n : Nat) : ∀ (f b e : Nat), e < 2 ^ f → powm n f b e = b ^ e % n
  | 0, b, e, h => by
    obtain rfl : e = 0 := by simpa using h
    rfl
  | f + 1, b, e, h => by
    unfold powm
    by_cases h0 : e = 0
    · rw [if_pos h0, h0, Nat.pow_zero]
    · rw [if_neg h0]
      have hlt : e / 2 < 2 ^ f := by rw [Nat.pow_succ] at h; omega
      rw [powm_eq n f _ _ hlt, ← Nat.pow_mod]
      have hsq : (b * b) ^ (e / 2) = b ^ (2 * (e / 2)) := by rw [Nat.pow_mul, Nat.pow_two]
      rw [hsq]
      by_cases h1 : e % 2 = 1
      · rw [if_pos h1, Nat.mul_mod, Nat.mod_mod, ← Nat.mul_mod, ← Nat.pow_succ']
        congr 2; omega
      · rw [if_neg h1]
        congr 2; omega
/-- a one-to-one map of the numbers below N into themselves meets each -/
theorem pigeon : ∀ (N : Nat) (f : Nat → Nat), (∀ i, i < N → f i < N) → (∀ i j, i < N → j < N → f i = f j → i = j) → ∀ y, y < N → ∃ i, i < N ∧ f i = y
  | 0, _, _, _, y, h => by omega
  | N + 1, f, hf, hi, y, hy => by
    have ih := pigeon N (fun i => if f i = N then f N else f i)
      (fun i h => by
        show (if f i = N then f N else f i) < N
        by_cases c : f i = N
        · rw [if_pos c]
          have h1 := hf N (by omega)
          have h2 : f N ≠ N := fun e => by have := hi i N (by omega) (by omega) (by rw [c, e]); omega
          omega
        · rw [if_neg c]
          have := hf i (by omega)
          omega)
      (fun i j h1 h2 h => by
        have h' : (if f i = N then f N else f i) = (if f j = N then f N else f j) := h
        by_cases c : f i = N
        · by_cases d : f j = N
          · exact hi i j (by omega) (by omega) (by rw [c, d])
          · rw [if_pos c, if_neg d] at h'
            have := hi N j (by omega) (by omega) h'
            omega
        · by_cases d : f j = N
          · rw [if_neg c, if_pos d] at h'
            have := hi i N (by omega) (by omega) h'
            omega
          · rw [if_neg c, if_neg d] at h'
            exact hi i j (by omega) (by omega) h')
    by_cases e1 : y = f N
    · exact ⟨N, by omega, e1.symm⟩
    · by_cases e2 : y = N
      · have hv : f N < N := by have := hf N (by omega); omega
        obtain ⟨i, h1, h2⟩ := ih (f N) hv
        have h2' : (if f i = N then f N else f i) = f N := h2
        by_cases c : f i = N
        · exact ⟨i, by omega, by rw [c, e2]⟩
        · rw [if_neg c] at h2'
          have := hi i N (by omega) (by omega) h2'
          omega
      · obtain ⟨i, h1, h2⟩ := ih y (by omega)
        have h2' : (if f i = N then f N else f i) = y := h2
        by_cases c : f i = N
        · rw [if_pos c] at h2'; exact absurd h2'.symm e1
        · rw [if_neg c] at h2'; exact ⟨i, by omega, h2'⟩
def prodL : List Nat → Nat
  | [] => 1
  | q :: r => q * prodL r
theorem some_prime : ∀ (L : List Nat), (∀ q ∈ L, IsPr q) → ∀ e d : Nat, e * d = prodL L → 1 < e → ∃ q ∈ L, q ∣ e
  | [], _, e, d, h, h1 => by
    have : e ∣ 1 := ⟨d, h.symm⟩
    have := Nat.le_of_dvd (by decide) this
    omega
  | q :: r, hL, e, d, h, h1 => by
    have hq := hL q (List.mem_cons_self ..)
    have hdv : q ∣ e * d := ⟨prodL r, h⟩
    rcases hq.2 e d hdv with h2 | h2
    · exact ⟨q, List.mem_cons_self .., h2⟩
    · obtain ⟨d', rfl⟩ := h2
      have hqp : 0 < q := by have := hq.1; omega
      have h3 : e * d' = prodL r := by
        have : q * (e * d') = q * prodL r := by
          show _ = prodL (q :: r)
          rw [← h, Nat.mul_left_comm]
        exact Nat.eq_of_mul_eq_mul_left hqp this
      obtain ⟨x, hx, hd⟩ := some_prime r (fun y hy => hL y (List.mem_cons_of_mem _ hy)) e d' h3 h1
      exact ⟨x, List.mem_cons_of_mem _ hx, hd⟩
theorem pow_one_mul (n g a b : Nat) (h : g ^ a % n = 1 % n) : g ^ (a * b) % n = 1 % n := by
  rw [Nat.pow_mul, Nat.pow_mod, h, ← Nat.pow_mod, Nat.one_pow]
theorem pow_add_one (n g a b : Nat) (h : g ^ a % n = 1 % n) : g ^ (a + b) % n = g ^ b % n := by
  rw [Nat.pow_add, Nat.mul_mod, h, ← Nat.mul_mod, Nat.one_mul]
/-- the least number with P, if there is one -/
theorem least {P : Nat → Prop} (n : Nat) (h : P n) : ∃ m, P m ∧ m ≤ n ∧ ∀ k, k < m → ¬ P k := by
  induction n using Nat.strongRecOn with
  | _ n ih =>
    by_cases c : ∃ k, k < n ∧ P k
    · obtain ⟨k, hk, hp⟩ := c
      obtain ⟨m, h1, h2, h3⟩ := ih k hk hp
      exact ⟨m, h1, by omega, h3⟩
    · exact ⟨n, h, Nat.le_refl _, fun k hk hp => c ⟨k, hk, hp⟩⟩
/-- a root g, all primes of n - 1: every number that isn't 0 modulo n is a power of g -/
theorem fermat_of (n g : Nat) (L : List Nat) (hn : 3 ≤ n) (hL : ∀ q ∈ L, IsPr q) (hprod : prodL L = n - 1) (h1 : g ^ (n - 1) % n = 1) (hq : ∀ q ∈ L, g ^ ((n - 1) / q) % n ≠ 1) :
    ∀ a, a % n ≠ 0 → a ^ (n - 1) % n = 1 := by
  have h1n : 1 % n = 1 := Nat.mod_eq_of_lt (by omega)
  have h1' : g ^ (n - 1) % n = 1 % n := by rw [h1n]; exact h1
  -- the order of g
  obtain ⟨d, ⟨hd0, hd1⟩, hdle, hmin⟩ := least (P := fun d => 0 < d ∧ g ^ d % n = 1 % n) (n - 1) ⟨by omega, h1'⟩
  have hdn : d = n - 1 := by
    have hz : (n - 1) % d = 0 := by
      refine Classical.byContradiction fun c => ?_
      have e : g ^ (n - 1) % n = g ^ ((n - 1) % d) % n := by
        have e2 : n - 1 = d * ((n - 1) / d) + (n - 1) % d := (Nat.div_add_mod _ _).symm
        conv => lhs; rw [e2]
        exact pow_add_one n g _ _ (pow_one_mul n g d _ hd1)
      exact hmin ((n - 1) % d) (Nat.mod_lt _ hd0) ⟨by omega, by rw [← e]; exact h1'⟩
    obtain ⟨e, he⟩ : ∃ e, n - 1 = d * e := ⟨(n - 1) / d, by have := Nat.div_add_mod (n - 1) d; omega⟩
    by_cases c : 1 < e
    · obtain ⟨q, hqL, x, hx⟩ := some_prime L hL e d (by rw [hprod, he, Nat.mul_comm]) c
      have hq2 := (hL q hqL).1
      have e2 : (n - 1) / q = d * x := by rw [he, hx, ← Nat.mul_assoc, Nat.mul_comm d q, Nat.mul_assoc, Nat.mul_div_cancel_left _ (by omega)]
      exact absurd (by rw [e2, pow_one_mul n g d x hd1, h1n]) (hq q hqL)
    · have : e = 1 := by
        have : e ≠ 0 := fun h0 => by rw [h0, Nat.mul_zero] at he; omega
        omega
      rw [this, Nat.mul_one] at he
      exact he.symm
  subst hdn
  have hnz : ∀ i, i < n - 1 → g ^ i % n ≠ 0 := fun i hi h0 => by
    have : g ^ (i + (n - 1 - i)) % n = 0 := by rw [Nat.pow_add, Nat.mul_mod, h0, Nat.zero_mul, Nat.zero_mod]
    rw [show i + (n - 1 - i) = n - 1 by omega, h1] at this
    cases this
  have hinj : ∀ i j, i < j → j < n - 1 → g ^ i % n ≠ g ^ j % n := fun i j hij hj h => by
    have e1 : g ^ (i + (n - 1 - i)) % n = g ^ (j + (n - 1 - i)) % n := by rw [Nat.pow_add, Nat.mul_mod, h, ← Nat.mul_mod, ← Nat.pow_add]
    rw [show i + (n - 1 - i) = n - 1 by omega, show j + (n - 1 - i) = n - 1 + (j - i) by omega, pow_add_one n g _ _ h1', h1'] at e1
    exact hmin (j - i) (by omega) ⟨by omega, e1.symm⟩
  intro a ha
  have hap : a % n - 1 < n - 1 := by have := Nat.mod_lt a (show 0 < n by omega); omega
  obtain ⟨i, hi, hia⟩ := pigeon (n - 1) (fun i => g ^ i % n - 1)
    (fun i hi => by have h2 := hnz i hi; have := Nat.mod_lt (g ^ i) (show 0 < n by omega); show g ^ i % n - 1 < n - 1; omega)
    (fun i j hi hj h => by
      have h' : g ^ i % n - 1 = g ^ j % n - 1 := h
      have h2 := hnz i hi
      have h3 := hnz j hj
      rcases Nat.lt_trichotomy i j with c | c | c
      · exact absurd (by omega) (hinj i j c hj)
      · exact c
      · exact absurd (by omega) (hinj j i c hi)) (a % n - 1) hap
  have hia' : g ^ i % n - 1 = a % n - 1 := hia
  have hga : g ^ i % n = a % n := by have := hnz i hi; omega
  rw [Nat.pow_mod, ← hga, ← Nat.pow_mod, ← Nat.pow_mul, Nat.mul_comm, pow_one_mul n g _ i h1', h1n]
theorem pr_of (n : Nat) (hn : 3 ≤ n) (hf : ∀ a, a % n ≠ 0 → a ^ (n - 1) % n = 1) : IsPr n := by
  refine ⟨by omega, fun a b hab => ?_⟩
  by_cases h : a % n = 0
  · exact .inl (Nat.dvd_of_mod_eq_zero h)
  · right
    have h1 := hf a h
    have hz : (a ^ (n - 2) * (a * b)) % n = 0 := Nat.mod_eq_zero_of_dvd (Nat.dvd_mul_left_of_dvd hab _)
    have e : a ^ (n - 2) * (a * b) = a ^ (n - 1) * b := by
      rw [← Nat.mul_assoc, ← Nat.pow_succ]
      congr 2; omega
    rw [e, Nat.mul_mod, h1, Nat.one_mul, Nat.mod_mod] at hz
    exact Nat.dvd_of_mod_eq_zero hz
/-- the certificate, as the kernel checks it -/
def certB (n g : Nat) (L : List Nat) : Bool := decide (3 ≤ n) && decide (prodL L = n - 1) && decide (n < 2 ^ 256) && decide (powm n 256 g (n - 1) = 1) && L.all fun q => decide (powm n 256 g ((n - 1) / q) ≠ 1)
theorem cert_fermat (n g : Nat) (L : List Nat) (h : certB n g L = true) (hL : ∀ q ∈ L, IsPr q) : ∀ a, a % n ≠ 0 → a ^ (n - 1) % n = 1 := by
  simp only [certB, Bool.and_eq_true, decide_eq_true_eq, List.all_eq_true] at h
  obtain ⟨⟨⟨⟨h1, h2⟩, h3⟩, h4⟩, h5⟩ := h
  refine fermat_of n g L h1 hL h2 (by rw [← powm_eq n 256 g _ (by omega)]; exact h4) fun q hq => ?_
  have h6 := h5 q hq
  rwa [powm_eq n 256 g _ (Nat.lt_of_le_of_lt (Nat.div_le_self _ _) (by omega))] at h6
theorem cert_pr (n g : Nat) (L : List Nat) (h : certB n g L = true) (hL : ∀ q ∈ L, IsPr q) : IsPr n := by
  have h' := h
  simp only [certB, Bool.and_eq_true, decide_eq_true_eq] at h'
  exact pr_of n h'.1.1.1.1 (cert_fermat n g L h hL)
theorem all_nil : ∀ q ∈ ([] : List Nat), IsPr q := fun _ h => by simp at h
theorem all_cons {x : Nat} {L : List Nat} (hx : IsPr x) (h : ∀ q ∈ L, IsPr q) : ∀ q ∈ x :: L, IsPr q := fun q hq => by
  rcases List.mem_cons.1 hq with rfl | hq
  · exact hx
  · exact h q hq

theorem pr0 : IsPr 2 := small_pr 2 (by decide) (by decide +kernel)
theorem pr1 : IsPr 3 := small_pr 3 (by decide) (by decide +kernel)
theorem pr2 : IsPr 5 := small_pr 5 (by decide) (by decide +kernel)
theorem pr3 : IsPr 17 := small_pr 17 (by decide) (by decide +kernel)
theorem pr4 : IsPr 257 := small_pr 257 (by decide) (by decide +kernel)
theorem pr5 : IsPr 641 := cert_pr 641 3 [2, 2, 2, 2, 2, 2, 2, 5] (by decide +kernel) (all_cons pr0 (all_cons pr0 (all_cons pr0 (all_cons pr0 (all_cons pr0 (all_cons pr0 (all_cons pr0 (all_cons pr2 (all_nil)))))))))
theorem pr6 : IsPr 1531 := cert_pr 1531 2 [2, 3, 3, 5, 17] (by decide +kernel) (all_cons pr0 (all_cons pr1 (all_cons pr1 (all_cons pr2 (all_cons pr3 (all_nil))))))
theorem pr7 : IsPr 65537 := cert_pr 65537 3 [2, 2, 2, 2, 2, 2, 2, 2, 2, 2, 2, 2, 2, 2, 2, 2] (by decide +kernel) (all_cons pr0 (all_cons pr0 (all_cons pr0 (all_cons pr0 (all_cons pr0 (all_cons pr0 (all_cons pr0 (all_cons pr0 (all_cons pr0 (all_cons pr0 (all_cons pr0 (all_cons pr0 (all_cons pr0 (all_cons pr0 (all_cons pr0 (all_cons pr0 (all_nil)))))))))))))))))
theorem pr8 : IsPr 7 := small_pr 7 (by decide) (by decide +kernel)
theorem pr9 : IsPr 53 := small_pr 53 (by decide) (by decide +kernel)
theorem pr10 : IsPr 11 := small_pr 11 (by decide) (by decide +kernel)
theorem pr11 : IsPr 661 := cert_pr 661 2 [2, 2, 3, 5, 11] (by decide +kernel) (all_cons pr0 (all_cons pr0 (all_cons pr1 (all_cons pr2 (all_cons pr10 (all_nil))))))
theorem pr12 : IsPr 490463 := cert_pr 490463 14 [2, 7, 53, 661] (by decide +kernel) (all_cons pr0 (all_cons pr8 (all_cons pr9 (all_cons pr11 (all_nil)))))
theorem pr13 : IsPr 727 := cert_pr 727 5 [2, 3, 11, 11] (by decide +kernel) (all_cons pr0 (all_cons pr1 (all_cons pr10 (all_cons pr10 (all_nil)))))
theorem pr14 : IsPr 17449 := cert_pr 17449 14 [2, 2, 2, 3, 727] (by decide +kernel) (all_cons pr0 (all_cons pr0 (all_cons pr0 (all_cons pr1 (all_cons pr13 (all_nil))))))
theorem pr15 : IsPr 6700417 := cert_pr 6700417 5 [2, 2, 2, 2, 2, 2, 2, 3, 17449] (by decide +kernel) (all_cons pr0 (all_cons pr0 (all_cons pr0 (all_cons pr0 (all_cons pr0 (all_cons pr0 (all_cons pr0 (all_cons pr1 (all_cons pr14 (all_nil))))))))))
theorem pr16 : IsPr 241 := small_pr 241 (by decide) (by decide +kernel)
theorem pr17 : IsPr 2411 := cert_pr 2411 6 [2, 5, 241] (by decide +kernel) (all_cons pr0 (all_cons pr2 (all_cons pr16 (all_nil))))
theorem pr18 : IsPr 23 := small_pr 23 (by decide) (by decide +kernel)
theorem pr19 : IsPr 107 := small_pr 107 (by decide) (by decide +kernel)
theorem pr20 : IsPr 157 := small_pr 157 (by decide) (by decide +kernel)
theorem pr21 : IsPr 3769 := cert_pr 3769 7 [2, 2, 2, 3, 157] (by decide +kernel) (all_cons pr0 (all_cons pr0 (all_cons pr0 (all_cons pr1 (all_cons pr20 (all_nil))))))
theorem pr22 : IsPr 204061199 := cert_pr 204061199 11 [2, 11, 23, 107, 3769] (by decide +kernel) (all_cons pr0 (all_cons pr10 (all_cons pr18 (all_cons pr19 (all_cons pr21 (all_nil))))))
theorem pr23 : IsPr 34282281433 := cert_pr 34282281433 17 [2, 2, 2, 3, 7, 204061199] (by decide +kernel) (all_cons pr0 (all_cons pr0 (all_cons pr0 (all_cons pr1 (all_cons pr8 (all_cons pr22 (all_nil)))))))
theorem pr24 : IsPr 173 := small_pr 173 (by decide) (by decide +kernel)
theorem pr25 : IsPr 197 := small_pr 197 (by decide) (by decide +kernel)
theorem pr26 : IsPr 919 := cert_pr 919 7 [2, 3, 3, 3, 17] (by decide +kernel) (all_cons pr0 (all_cons pr1 (all_cons pr1 (all_cons pr1 (all_cons pr3 (all_nil))))))
theorem pr27 : IsPr 3677 := cert_pr 3677 2 [2, 2, 919] (by decide +kernel) (all_cons pr0 (all_cons pr0 (all_cons pr26 (all_nil))))
theorem pr28 : IsPr 66417393611 := cert_pr 66417393611 6 [2, 5, 53, 173, 197, 3677] (by decide +kernel) (all_cons pr0 (all_cons pr2 (all_cons pr9 (all_cons pr24 (all_cons pr25 (all_cons pr27 (all_nil)))))))
theorem pr29 : IsPr 11290956913871 := cert_pr 11290956913871 13 [2, 5, 17, 66417393611] (by decide +kernel) (all_cons pr0 (all_cons pr2 (all_cons pr3 (all_cons pr28 (all_nil)))))
theorem pr30 : IsPr 757 := cert_pr 757 2 [2, 2, 3, 3, 3, 7] (by decide +kernel) (all_cons pr0 (all_cons pr0 (all_cons pr1 (all_cons pr1 (all_cons pr1 (all_cons pr8 (all_nil)))))))
theorem pr31 : IsPr 18169 := cert_pr 18169 11 [2, 2, 2, 3, 757] (by decide +kernel) (all_cons pr0 (all_cons pr0 (all_cons pr0 (all_cons pr1 (all_cons pr30 (all_nil))))))
theorem pr32 : IsPr 181 := small_pr 181 (by decide) (by decide +kernel)
theorem pr33 : IsPr 1087 := cert_pr 1087 3 [2, 3, 181] (by decide +kernel) (all_cons pr0 (all_cons pr1 (all_cons pr32 (all_nil))))
theorem pr34 : IsPr 4349 := cert_pr 4349 2 [2, 2, 1087] (by decide +kernel) (all_cons pr0 (all_cons pr0 (all_cons pr33 (all_nil))))
theorem pr35 : IsPr 78283 := cert_pr 78283 3 [2, 3, 3, 4349] (by decide +kernel) (all_cons pr0 (all_cons pr1 (all_cons pr1 (all_cons pr34 (all_nil)))))
theorem pr36 : IsPr 13 := small_pr 13 (by decide) (by decide +kernel)
theorem pr37 : IsPr 313 := cert_pr 313 10 [2, 2, 2, 3, 13] (by decide +kernel) (all_cons pr0 (all_cons pr0 (all_cons pr0 (all_cons pr1 (all_cons pr36 (all_nil))))))
theorem pr38 : IsPr 704251 := cert_pr 704251 2 [2, 3, 3, 5, 5, 5, 313] (by decide +kernel) (all_cons pr0 (all_cons pr1 (all_cons pr1 (all_cons pr2 (all_cons pr2 (all_cons pr2 (all_cons pr37 (all_nil))))))))
theorem pr39 : IsPr 46076956964474543 := cert_pr 46076956964474543 5 [2, 23, 18169, 78283, 704251] (by decide +kernel) (all_cons pr0 (all_cons pr18 (all_cons pr31 (all_cons pr35 (all_cons pr38 (all_nil))))))
theorem pr40 : IsPr 774023187263532362759620327192479577272145303 := cert_pr 774023187263532362759620327192479577272145303 3 [2, 3, 3, 2411, 34282281433, 11290956913871, 46076956964474543] (by decide +kernel) (all_cons pr0 (all_cons pr1 (all_cons pr1 (all_cons pr17 (all_cons pr23 (all_cons pr29 (all_cons pr39 (all_nil))))))))
theorem pr41 : IsPr 835945042244614951780389953367877943453916927241 := cert_pr 835945042244614951780389953367877943453916927241 11 [2, 2, 2, 3, 3, 3, 5, 774023187263532362759620327192479577272145303] (by decide +kernel) (all_cons pr0 (all_cons pr0 (all_cons pr0 (all_cons pr1 (all_cons pr1 (all_cons pr1 (all_cons pr2 (all_cons pr40 (all_nil)))))))))
def primeP : Nat := 115792089210356248762697446949407573530086143415290314195533631308867097853951
theorem fermatP : ∀ a, a % primeP ≠ 0 → a ^ (primeP - 1) % primeP = 1 := cert_fermat primeP 6 [2, 3, 5, 5, 17, 257, 641, 1531, 65537, 490463, 6700417, 835945042244614951780389953367877943453916927241] (by decide +kernel) (all_cons pr0 (all_cons pr1 (all_cons pr2 (all_cons pr2 (all_cons pr3 (all_cons pr4 (all_cons pr5 (all_cons pr6 (all_cons pr7 (all_cons pr12 (all_cons pr15 (all_cons pr41 (all_nil)))))))))))))
theorem pr43 : IsPr 71 := small_pr 71 (by decide) (by decide +kernel)
theorem pr44 : IsPr 131 := small_pr 131 (by decide) (by decide +kernel)
theorem pr45 : IsPr 31 := small_pr 31 (by decide) (by decide +kernel)
theorem pr46 : IsPr 373 := cert_pr 373 2 [2, 2, 3, 31] (by decide +kernel) (all_cons pr0 (all_cons pr0 (all_cons pr1 (all_cons pr45 (all_nil)))))
theorem pr47 : IsPr 3407 := cert_pr 3407 5 [2, 13, 131] (by decide +kernel) (all_cons pr0 (all_cons pr36 (all_cons pr44 (all_nil))))
theorem pr48 : IsPr 37 := small_pr 37 (by decide) (by decide +kernel)
theorem pr49 : IsPr 43 := small_pr 43 (by decide) (by decide +kernel)
theorem pr50 : IsPr 9547 := cert_pr 9547 2 [2, 3, 37, 43] (by decide +kernel) (all_cons pr0 (all_cons pr1 (all_cons pr48 (all_cons pr49 (all_nil)))))
theorem pr51 : IsPr 38189 := cert_pr 38189 2 [2, 2, 9547] (by decide +kernel) (all_cons pr0 (all_cons pr0 (all_cons pr50 (all_nil))))
theorem pr52 : IsPr 229 := small_pr 229 (by decide) (by decide +kernel)
theorem pr53 : IsPr 1201 := cert_pr 1201 11 [2, 2, 2, 2, 3, 5, 5] (by decide +kernel) (all_cons pr0 (all_cons pr0 (all_cons pr0 (all_cons pr0 (all_cons pr1 (all_cons pr2 (all_cons pr2 (all_nil))))))))
theorem pr54 : IsPr 9350987 := cert_pr 9350987 2 [2, 17, 229, 1201] (by decide +kernel) (all_cons pr0 (all_cons pr3 (all_cons pr52 (all_cons pr53 (all_nil)))))
theorem pr55 : IsPr 187019741 := cert_pr 187019741 2 [2, 2, 5, 9350987] (by decide +kernel) (all_cons pr0 (all_cons pr0 (all_cons pr2 (all_cons pr54 (all_nil)))))
theorem pr56 : IsPr 29 := small_pr 29 (by decide) (by decide +kernel)
theorem pr57 : IsPr 311 := cert_pr 311 17 [2, 5, 31] (by decide +kernel) (all_cons pr0 (all_cons pr2 (all_cons pr45 (all_nil))))
theorem pr58 : IsPr 311245691 := cert_pr 311245691 2 [2, 5, 7, 17, 29, 29, 311] (by decide +kernel) (all_cons pr0 (all_cons pr2 (all_cons pr8 (all_cons pr3 (all_cons pr56 (all_cons pr56 (all_cons pr57 (all_nil))))))))
theorem pr59 : IsPr 622491383 := cert_pr 622491383 5 [2, 311245691] (by decide +kernel) (all_cons pr0 (all_cons pr58 (all_nil)))
theorem pr60 : IsPr 263 := small_pr 263 (by decide) (by decide +kernel)
theorem pr61 : IsPr 126241 := cert_pr 126241 7 [2, 2, 2, 2, 2, 3, 5, 263] (by decide +kernel) (all_cons pr0 (all_cons pr0 (all_cons pr0 (all_cons pr0 (all_cons pr0 (all_cons pr1 (all_cons pr2 (all_cons pr60 (all_nil)))))))))
theorem pr62 : IsPr 19 := small_pr 19 (by decide) (by decide +kernel)
theorem pr63 : IsPr 337 := cert_pr 337 10 [2, 2, 2, 2, 3, 7] (by decide +kernel) (all_cons pr0 (all_cons pr0 (all_cons pr0 (all_cons pr0 (all_cons pr1 (all_cons pr8 (all_nil)))))))
theorem pr64 : IsPr 104471 := cert_pr 104471 11 [2, 5, 31, 337] (by decide +kernel) (all_cons pr0 (all_cons pr2 (all_cons pr45 (all_cons pr63 (all_nil)))))
theorem pr65 : IsPr 3969899 := cert_pr 3969899 2 [2, 19, 104471] (by decide +kernel) (all_cons pr0 (all_cons pr62 (all_cons pr64 (all_nil))))
theorem pr66 : IsPr 1002328039319 := cert_pr 1002328039319 19 [2, 126241, 3969899] (by decide +kernel) (all_cons pr0 (all_cons pr61 (all_cons pr65 (all_nil))))
theorem pr67 : IsPr 1297 := cert_pr 1297 10 [2, 2, 2, 2, 3, 3, 3, 3] (by decide +kernel) (all_cons pr0 (all_cons pr0 (all_cons pr0 (all_cons pr0 (all_cons pr1 (all_cons pr1 (all_cons pr1 (all_cons pr1 (all_nil)))))))))
theorem pr68 : IsPr 97 := small_pr 97 (by decide) (by decide +kernel)
theorem pr69 : IsPr 16879 := cert_pr 16879 3 [2, 3, 29, 97] (by decide +kernel) (all_cons pr0 (all_cons pr1 (all_cons pr56 (all_cons pr68 (all_nil)))))
theorem pr70 : IsPr 127 := small_pr 127 (by decide) (by decide +kernel)
theorem pr71 : IsPr 151 := small_pr 151 (by decide) (by decide +kernel)
theorem pr72 : IsPr 1511 := cert_pr 1511 11 [2, 5, 151] (by decide +kernel) (all_cons pr0 (all_cons pr2 (all_cons pr71 (all_nil))))
theorem pr73 : IsPr 3023 := cert_pr 3023 5 [2, 1511] (by decide +kernel) (all_cons pr0 (all_cons pr72 (all_nil)))
theorem pr74 : IsPr 41 := small_pr 41 (by decide) (by decide +kernel)
theorem pr75 : IsPr 155317 := cert_pr 155317 5 [2, 2, 3, 7, 43, 43] (by decide +kernel) (all_cons pr0 (all_cons pr0 (all_cons pr1 (all_cons pr8 (all_cons pr49 (all_cons pr49 (all_nil)))))))
theorem pr76 : IsPr 191039911 := cert_pr 191039911 3 [2, 3, 5, 41, 155317] (by decide +kernel) (all_cons pr0 (all_cons pr1 (all_cons pr2 (all_cons pr74 (all_cons pr75 (all_nil))))))
theorem pr77 : IsPr 208150935158385979 := cert_pr 208150935158385979 2 [2, 3, 11, 43, 127, 3023, 191039911] (by decide +kernel) (all_cons pr0 (all_cons pr1 (all_cons pr10 (all_cons pr49 (all_cons pr70 (all_cons pr73 (all_cons pr76 (all_nil))))))))
theorem pr78 : IsPr 2624747550333869278416773953 := cert_pr 2624747550333869278416773953 7 [2, 2, 2, 2, 2, 2, 3, 3, 1297, 16879, 208150935158385979] (by decide +kernel) (all_cons pr0 (all_cons pr0 (all_cons pr0 (all_cons pr0 (all_cons pr0 (all_cons pr0 (all_cons pr1 (all_cons pr1 (all_cons pr67 (all_cons pr69 (all_cons pr77 (all_nil))))))))))))
def primeN : Nat := 115792089210356248762697446949407573529996955224135760342422259061068512044369
theorem fermatN : ∀ a, a % primeN ≠ 0 → a ^ (primeN - 1) % primeN = 1 := cert_fermat primeN 7 [2, 2, 2, 2, 3, 71, 131, 373, 3407, 17449, 38189, 187019741, 622491383, 1002328039319, 2624747550333869278416773953] (by decide +kernel) (all_cons pr0 (all_cons pr0 (all_cons pr0 (all_cons pr0 (all_cons pr1 (all_cons pr43 (all_cons pr44 (all_cons pr46 (all_cons pr47 (all_cons pr14 (all_cons pr51 (all_cons pr55 (all_cons pr59 (all_cons pr66 (all_cons pr78 (all_nil))))))))))))))))
end Go.Proofs.YtflkhlhpifmocaaDoor
namespace Go.Proofs.YtflkhlhpifmocaaDoor
open Go

theorem overN_succ (m a : Nat) : ∀ k, overN m a (k + 1) = overN m (halfN m a) k
  | 0 => rfl
  | k + 1 => by
    show halfN m (overN m a (k + 1)) = halfN m (overN m (halfN m a) k)
    rw [overN_succ m a k]
theorem half_dbl (m t : Nat) (hm : m % 2 = 1) (h : t < m) : halfN m (2 * t % m) = t := by
  unfold halfN
  by_cases c : 2 * t < m
  · rw [Nat.mod_eq_of_lt c, show 2 * t % 2 = 0 by omega]; omega
  · have e : 2 * t % m = 2 * t - m := by rw [Nat.mod_eq_sub_mod (by omega), Nat.mod_eq_of_lt (by omega)]
    rw [e, show (2 * t - m) % 2 = 1 by omega]; omega
theorem over_mul (m t : Nat) (hm : m % 2 = 1) (h : t < m) : ∀ k, overN m (2 ^ k * t % m) k = t
  | 0 => by rw [Nat.pow_zero, Nat.one_mul, Nat.mod_eq_of_lt h]; rfl
  | k + 1 => by
    rw [overN_succ]
    have hx : 2 ^ k * t % m < m := Nat.mod_lt _ (by omega)
    have e : 2 ^ (k + 1) * t % m = 2 * (2 ^ k * t % m) % m := by rw [Nat.pow_succ, Nat.mul_comm (2 ^ k) 2, Nat.mul_assoc, Nat.mul_mod 2 (2 ^ k * t), Nat.mul_mod 2 (2 ^ k * t % m), Nat.mod_mod]
    rw [e, half_dbl m _ hm hx, over_mul m t hm h k]
/-- 2^256 -/
def RR : Nat := 2 ^ 256
/-- x over 2^256, modulo m -/
def redc (m x : Nat) : Nat := overN m (x % m) 256
theorem redc_lt (m x : Nat) (hm : 0 < m) : redc m x < m := overN_lt m _ (Nat.mod_lt _ hm) 256
theorem redc_mod (m x : Nat) : redc m (x % m) = redc m x := by unfold redc; rw [Nat.mod_mod]
theorem redc_R (m x : Nat) (hm : m % 2 = 1) : redc m (x * RR) = x % m := by
  unfold redc RR
  have e : x * 2 ^ 256 % m = 2 ^ 256 * (x % m) % m := by rw [Nat.mul_comm, Nat.mul_mod, Nat.mul_mod (2 ^ 256) (x % m), Nat.mod_mod]
  rw [e]
  exact over_mul m _ hm (Nat.mod_lt _ (by omega)) 256
theorem redc_eq (m x : Nat) (hm : m % 2 = 1) : RR * redc m x % m = x % m := by
  unfold redc RR
  rw [overN_pow m _ hm 256, Nat.mod_mod]
/-- what has the factor 2^256 in common is alike -/
theorem redc_unique (m t x : Nat) (hm : m % 2 = 1) (ht : t < m) (h : RR * t % m = x % m) : t = redc m x := by
  have := redc_R m t hm
  rw [Nat.mod_eq_of_lt ht, Nat.mul_comm, ← redc_mod, h, redc_mod] at this
  exact this.symm
theorem mul_mod3 (m x y : Nat) : (x % m) * (y % m) % m = x * y % m := (Nat.mul_mod x y m).symm
/-- in, and out again -/
theorem out_in (m a : Nat) (hm : m % 2 = 1) : redc m (a * RR % m) = a % m := by rw [redc_mod, redc_R m a hm]
theorem times_in (m a b : Nat) (hm : m % 2 = 1) : redc m ((a * RR % m) * (b % m)) = a * b % m := by
  rw [← redc_mod, mul_mod3, redc_mod, show a * RR * b = a * b * RR by rw [Nat.mul_assoc, Nat.mul_comm RR, ← Nat.mul_assoc], redc_R m _ hm]
theorem times_plain (m a b : Nat) : redc m ((a % m) * (b % m)) = redc m (a * b) := by rw [← redc_mod, mul_mod3, redc_mod]
/-- the e-th power of what is in -/
def powN (m a e : Nat) : Nat := redc m a ^ e * RR % m
theorem pow_in (m a e : Nat) (hm : m % 2 = 1) : redc m (powN m (a * RR % m) e) = a ^ e % m := by
  unfold powN
  rw [out_in m a hm, redc_mod, redc_R m _ hm, ← Nat.pow_mod]
theorem powN_lt (m a e : Nat) (hm : 0 < m) : powN m a e < m := Nat.mod_lt _ hm
/-- products of what is in -/
theorem times_R (m x y : Nat) (hm : m % 2 = 1) : redc m ((x * RR % m) * (y * RR % m)) = x * y * RR % m := by
  have e : (x * RR % m) * (y * RR % m) % m = (x * y * RR) * RR % m := by rw [mul_mod3, Nat.mul_mul_mul_comm, ← Nat.mul_assoc (x * y)]
  rw [← redc_mod, e, redc_mod, redc_R m _ hm]
theorem in_zero (m a : Nat) (hm : m % 2 = 1) (_h1 : 1 < m) : a * RR % m = 0 ↔ a % m = 0 := by
  constructor
  · intro h
    have := out_in m a hm
    rw [h] at this
    have hz := redc_R m 0 hm
    rw [Nat.zero_mul, Nat.zero_mod] at hz
    rw [← this, hz]
  · intro h
    rw [Nat.mul_mod, h, Nat.zero_mul, Nat.zero_mod]
/-- the inverse by the power p - 2 -/
theorem inv_times (p a : Nat) (hp : p % 2 = 1) (h3 : 3 ≤ p) (hf : ∀ a, a % p ≠ 0 → a ^ (p - 1) % p = 1) (ha : a % p ≠ 0) : redc p ((a * RR % p) * powN p (a * RR % p) (p - 2)) = RR % p := by
  unfold powN
  rw [out_in p a hp, times_R p a _ hp]
  have e : a * (a % p) ^ (p - 2) % p = 1 := by
    rw [Nat.mul_mod, ← Nat.pow_mod, ← Nat.mul_mod, ← Nat.pow_succ', show (p - 2).succ = p - 1 by omega, hf a ha]
  rw [Nat.mul_mod, e, Nat.one_mul, Nat.mod_mod]
theorem inv_inv (p a : Nat) (hp : p % 2 = 1) (h3 : 3 ≤ p) (hf : ∀ a, a % p ≠ 0 → a ^ (p - 1) % p = 1) (ha : a % p ≠ 0) : powN p (powN p (a * RR % p) (p - 2)) (p - 2) = a * RR % p := by
  have e1 : powN p (a * RR % p) (p - 2) = (a ^ (p - 2)) * RR % p := by
    unfold powN
    rw [out_in p a hp, Nat.mul_mod, ← Nat.pow_mod, ← Nat.mul_mod]
  rw [e1]
  unfold powN
  rw [out_in p _ hp]
  have e2 : ((a ^ (p - 2)) % p) ^ (p - 2) % p = a % p := by
    rw [← Nat.pow_mod, ← Nat.pow_mul]
    have e3 : (p - 2) * (p - 2) = (p - 1) * (p - 3) + 1 := by
      obtain ⟨q, rfl⟩ : ∃ q, p = q + 3 := ⟨p - 3, by omega⟩
      rw [show q + 3 - 2 = q + 1 by omega, show q + 3 - 1 = q + 2 by omega, show q + 3 - 3 = q by omega, Nat.add_mul, Nat.mul_add, Nat.one_mul, Nat.add_mul]
      omega
    rw [e3, Nat.pow_succ, Nat.pow_mul, Nat.mul_mod, Nat.pow_mod, hf a ha, Nat.one_pow, Nat.mod_eq_of_lt (show 1 < p by omega), Nat.one_mul, Nat.mod_mod]
  rw [Nat.mul_mod, e2, ← Nat.mul_mod]
theorem pow_zero_in (p : Nat) (hp : p % 2 = 1) (h3 : 3 ≤ p) : powN p 0 (p - 2) = 0 := by
  have hz := redc_R p 0 hp
  rw [Nat.zero_mul, Nat.zero_mod] at hz
  unfold powN
  rw [hz, Nat.zero_pow (by omega), Nat.zero_mul, Nat.zero_mod]
theorem primeP_odd : primeP % 2 = 1 ∧ 3 ≤ primeP ∧ 1 < primeP := by decide +kernel
theorem primeN_odd : primeN % 2 = 1 ∧ 3 ≤ primeN ∧ 1 < primeN := by decide +kernel
/- what the laws say of sums and products of what is in -/
theorem law_comm (m x y : Nat) : redc m (x * y) = redc m (y * x) := by rw [Nat.mul_comm]
theorem law_dist (m x y z : Nat) (hm : m % 2 = 1) : redc m (((x + y) % m) * z) = (redc m (x * z) + redc m (y * z)) % m := by
  refine (redc_unique m _ _ hm (Nat.mod_lt _ (by omega)) ?_).symm
  rw [Nat.mul_mod, Nat.mod_mod, ← Nat.mul_mod, Nat.mul_add, Nat.add_mod, redc_eq m _ hm, redc_eq m _ hm, ← Nat.add_mod, Nat.mul_mod ((x + y) % m), Nat.mod_mod, ← Nat.mul_mod, Nat.add_mul]
theorem law_back (m x y : Nat) (hx : x < m) (hy : y < m) : ((x + y) % m + (m - y)) % m = x := by
  rw [Nat.mod_add_mod, show x + y + (m - y) = x + m by omega, Nat.add_mod_right, Nat.mod_eq_of_lt hx]
theorem law_one (m x : Nat) (hm : m % 2 = 1) (hx : x < m) : redc m (x * (RR % m)) = x := by
  rw [← redc_mod, Nat.mul_mod, Nat.mod_mod, ← Nat.mul_mod, redc_mod, redc_R m x hm, Nat.mod_eq_of_lt hx]
end Go.Proofs.YtflkhlhpifmocaaDoor
namespace Go.Proofs.YtflkhlhpifmocaaDoor
open Go

/-- the carry into place k of x + w y -/
def mcar (B x w y k : Nat) : Nat := (x % B ^ k + w * (y % B ^ k)) / B ^ k
theorem mcar_zero (B x w y : Nat) : mcar B x w y 0 = 0 := by simp [mcar, Nat.mod_one]
theorem mcar_lt {B w : Nat} (hB : 0 < B) (hw : w < B) (x y k : Nat) : mcar B x w y k < B := by
  unfold mcar
  have hp : 0 < B ^ k := Nat.pow_pos hB
  rw [Nat.div_lt_iff_lt_mul hp]
  have h1 := Nat.mod_lt x hp
  have h2 := Nat.mod_lt y hp
  have h3 : w * (y % B ^ k) ≤ (B - 1) * (B ^ k - 1) := Nat.mul_le_mul (by omega) (by omega)
  obtain ⟨c, rfl⟩ : ∃ c, B = c + 1 := ⟨B - 1, by omega⟩
  generalize (c + 1) ^ k = p at *
  rw [Nat.add_sub_cancel] at h3
  obtain ⟨q, rfl⟩ : ∃ q, p = q + 1 := ⟨p - 1, by omega⟩
  rw [Nat.add_sub_cancel] at h3
  have : (c + 1) * (q + 1) = c * q + c + q + 1 := by rw [Nat.add_mul, Nat.mul_add]; omega
  omega
theorem mcar_step {B : Nat} (hB : 0 < B) (x w y k : Nat) : (dg B x k + w * dg B y k + mcar B x w y k) / B = mcar B x w y (k + 1) := by
  unfold mcar
  have hp : 0 < B ^ k := Nat.pow_pos hB
  rw [mod_step B x k, mod_step B y k, Nat.pow_succ, ← Nat.div_div_eq_div_mul]
  have e : x % B ^ k + B ^ k * dg B x k + w * (y % B ^ k + B ^ k * dg B y k) = x % B ^ k + w * (y % B ^ k) + B ^ k * (dg B x k + w * dg B y k) := by
    rw [Nat.mul_add, Nat.mul_add, ← Nat.mul_assoc w, Nat.mul_comm w (B ^ k), Nat.mul_assoc]; omega
  rw [e, Nat.add_mul_div_left _ _ hp, Nat.add_comm]
theorem mcar_split {B : Nat} (hB : 0 < B) (x w y k : Nat) : (x + w * y) / B ^ k = x / B ^ k + w * (y / B ^ k) + mcar B x w y k := by
  unfold mcar
  have hp : 0 < B ^ k := Nat.pow_pos hB
  have hx := Nat.div_add_mod x (B ^ k)
  have hy := Nat.div_add_mod y (B ^ k)
  have e : x + w * y = x % B ^ k + w * (y % B ^ k) + B ^ k * (x / B ^ k + w * (y / B ^ k)) := by
    conv => lhs; rw [← hx, ← hy]
    rw [Nat.mul_add, Nat.mul_add, ← Nat.mul_assoc w, Nat.mul_comm w (B ^ k), Nat.mul_assoc]; omega
  rw [e, Nat.add_mul_div_left _ _ hp, Nat.add_comm]
theorem mcar_dg {B : Nat} (hB : 0 < B) (x w y k : Nat) : (dg B x k + w * dg B y k + mcar B x w y k) % B = dg B (x + w * y) k := by
  unfold dg
  rw [mcar_split hB]
  simp [Nat.add_mod, Nat.mul_mod]
theorem mul_le {B n a b c : Nat} (hn : n < B) (ha : a < B) (hb : b < B) (hc : c < B) : n + a * b + c < B * B := by
  have h3 : a * b ≤ (B - 1) * (B - 1) := Nat.mul_le_mul (by omega) (by omega)
  obtain ⟨d, rfl⟩ : ∃ d, B = d + 1 := ⟨B - 1, by omega⟩
  rw [Nat.add_sub_cancel] at h3
  have : (d + 1) * (d + 1) = d * d + d + d + 1 := by rw [Nat.add_mul, Nat.mul_add]; omega
  omega

/-- the multiple's factor, and one word's step -/
def facN (B T w b ni : Nat) : Nat := (T + w * b) % B * ni % B
def sumN (B T w b m ni : Nat) : Nat := T + w * b + facN B T w b ni * m
def stepN (B T w b m ni : Nat) : Nat := sumN B T w b m ni / B
theorem facN_lt {B : Nat} (hB : 0 < B) (T w b ni : Nat) : facN B T w b ni < B := Nat.mod_lt _ hB
theorem sumN_zero {B m ni : Nat} (_hB : 1 < B) (h : (m % B * ni + 1) % B = 0) (T w b : Nat) : sumN B T w b m ni % B = 0 := by
  unfold sumN facN
  have e : (T + w * b + (T + w * b) % B * ni % B * m) % B = ((T + w * b) % B * (m % B * ni + 1)) % B := by
    have e1 : (T + w * b) % B * (m % B * ni + 1) = (T + w * b) % B + (T + w * b) % B * ni * (m % B) := by
      rw [Nat.mul_add, Nat.mul_one, Nat.add_comm, Nat.mul_comm (m % B), Nat.mul_assoc]
    rw [e1]
    simp [Nat.add_mod, Nat.mul_mod]
  rw [e, Nat.mul_mod, h, Nat.mul_zero, Nat.zero_mod]
theorem stepN_mul {B m ni : Nat} (hB : 1 < B) (h : (m % B * ni + 1) % B = 0) (T w b : Nat) : B * stepN B T w b m ni = sumN B T w b m ni := by
  have := Nat.div_add_mod (sumN B T w b m ni) B
  rw [sumN_zero hB h, Nat.add_zero] at this
  exact this
/-- the words of the next number: one place up -/
theorem stepN_dg (B T w b m ni j : Nat) : dg B (stepN B T w b m ni) j = dg B (sumN B T w b m ni) (j + 1) := by
  unfold stepN dg
  rw [Nat.div_div_eq_div_mul, Nat.pow_succ, Nat.mul_comm B]
/-- what is above the eight words -/
theorem sumN_top {B T w b m ni n : Nat} (hB : 0 < B) (hb : b < B ^ n) (hm : m < B ^ n) :
    sumN B T w b m ni / B ^ n = T / B ^ n + mcar B T w b n + mcar B (T + w * b) (facN B T w b ni) m n := by
  unfold sumN
  rw [mcar_split hB, mcar_split hB, Nat.div_eq_of_lt hb, Nat.div_eq_of_lt hm]
  simp
theorem stepN_high {B T w b m ni n : Nat} : stepN B T w b m ni / B ^ n = sumN B T w b m ni / B ^ n / B := by
  unfold stepN
  rw [Nat.div_div_eq_div_mul, Nat.div_div_eq_div_mul, Nat.mul_comm]

/-- k words of a have been taken -/
def prodN (B a b m ni : Nat) : Nat → Nat
  | 0 => 0
  | k + 1 => stepN B (prodN B a b m ni k) (dg B a k) b m ni
theorem prodN_eq {B m ni : Nat} (hB : 1 < B) (h : (m % B * ni + 1) % B = 0) (a b : Nat) : ∀ k, ∃ F, F < B ^ k ∧ B ^ k * prodN B a b m ni k = a % B ^ k * b + F * m
  | 0 => ⟨0, by simp, by simp [prodN, Nat.mod_one]⟩
  | k + 1 => by
    obtain ⟨F, hF, e⟩ := prodN_eq hB h a b k
    refine ⟨F + B ^ k * facN B (prodN B a b m ni k) (dg B a k) b ni, ?_, ?_⟩
    · have := facN_lt (B := B) (by omega) (prodN B a b m ni k) (dg B a k) b ni
      generalize facN B (prodN B a b m ni k) (dg B a k) b ni = f at *
      rw [Nat.pow_succ]
      have : B ^ k * f ≤ B ^ k * (B - 1) := Nat.mul_le_mul_left _ (by omega)
      have h2 : B ^ k * B = B ^ k * (B - 1) + B ^ k := by rw [← Nat.mul_succ]; congr 1; omega
      omega
    · show B ^ (k + 1) * stepN B (prodN B a b m ni k) (dg B a k) b m ni = _
      rw [mod_step, Nat.pow_succ, Nat.mul_assoc, stepN_mul hB h, sumN]
      generalize facN B (prodN B a b m ni k) (dg B a k) b ni = f at *
      rw [Nat.mul_add, Nat.mul_add, e, Nat.add_mul, Nat.add_mul, Nat.mul_assoc (B ^ k), Nat.mul_assoc (B ^ k) f m]
      omega
theorem prodN_lt {B m ni : Nat} (hB : 1 < B) (h : (m % B * ni + 1) % B = 0) (a b k : Nat) (hm : 0 < m) : prodN B a b m ni k < b + m := by
  obtain ⟨F, hF, e⟩ := prodN_eq hB h a b k
  have hp : 0 < B ^ k := Nat.pow_pos (by omega)
  apply Nat.lt_of_mul_lt_mul_left (a := B ^ k)
  rw [e, Nat.mul_add]
  have h1 : a % B ^ k * b ≤ B ^ k * b := Nat.mul_le_mul_right _ (Nat.le_of_lt (Nat.mod_lt _ hp))
  have h2 : F * m < B ^ k * m := Nat.mul_lt_mul_of_pos_right hF hm
  omega
theorem prodN_end {B m ni n : Nat} (hB : 1 < B) (h : (m % B * ni + 1) % B = 0) (a b : Nat) (hm : 0 < m) (ha : a < B ^ n) (hab : a * b < B ^ n * m) :
    prodN B a b m ni n < 2 * m ∧ B ^ n * prodN B a b m ni n % m = a * b % m := by
  obtain ⟨F, hF, e⟩ := prodN_eq hB h a b n
  rw [Nat.mod_eq_of_lt ha] at e
  refine ⟨?_, by rw [e, Nat.add_mul_mod_self_right]⟩
  apply Nat.lt_of_mul_lt_mul_left (a := B ^ n)
  rw [e, Nat.mul_comm 2 m, ← Nat.mul_assoc, Nat.mul_comm _ 2]
  have h2 : F * m < B ^ n * m := Nat.mul_lt_mul_of_pos_right hF hm
  generalize B ^ n * m = p at *
  omega

/-- the inverse of an odd number: each round doubles the right bits -/
theorem inv_round {j o n n' : Int} {B : Int} (hj : j * j ∣ B) (h : j ∣ o * n - 1) (e : B ∣ n' - n * (2 - o * n)) : j * j ∣ o * n' - 1 := by
  obtain ⟨c, hc⟩ := h
  have h1 : j * j ∣ n' - n * (2 - o * n) := Int.dvd_trans hj e
  have e2 : o * n' - 1 = o * (n' - n * (2 - o * n)) + -((o * n - 1) * (o * n - 1)) := by
    simp only [Int.mul_sub, Int.sub_mul, Int.mul_one, Int.one_mul]
    rw [show o * (n * 2) = o * n + o * n by rw [← Int.mul_assoc, Int.mul_comm _ 2, Int.two_mul], show o * (n * (o * n)) = o * n * (o * n) by rw [Int.mul_assoc]]
    omega
  rw [e2]
  refine Int.dvd_add (Int.dvd_trans h1 (Int.dvd_mul_left _ _)) ?_
  rw [hc, show -(j * c * (j * c)) = j * j * (-(c * c)) by rw [Int.mul_neg, Int.mul_assoc, Int.mul_left_comm c j c, ← Int.mul_assoc]]
  exact Int.dvd_mul_right _ _
end Go.Proofs.YtflkhlhpifmocaaDoor
namespace Go.Proofs.YtflkhlhpifmocaaDoor
open Go

/-- a word as the model's value -/
def wd (x : UInt32) : Value := .int .u32 (x.toNat : Int)

theorem u32_lt (x : UInt32) : x.toNat < 4294967296 := x.toNat_lt
theorem u32_ltI (x : UInt32) : (x.toNat : Int) < 4294967296 := by have := x.toNat_lt; omega
theorem u32_geI (x : UInt32) : 0 ≤ (x.toNat : Int) := by omega

/- The words' operations under names of their own, so that the walk's simp leaves them whole. -/
def wxor (x y : UInt32) : UInt32 := x ^^^ y
def wand (x y : UInt32) : UInt32 := x &&& y
def wadd (x y : UInt32) : UInt32 := x + y
def wnot (x : UInt32) : UInt32 := ~~~x
theorem u32_xor_w (x y : UInt32) : bits .xor .u32 (x.toNat : Int) (y.toNat : Int) = ((wxor x y).toNat : Int) := by
  rw [u32_xor_nat _ _ x.toNat_lt y.toNat_lt, wxor, UInt32.toNat_xor]
theorem u32_and_w (x y : UInt32) : bits .and .u32 (x.toNat : Int) (y.toNat : Int) = ((wand x y).toNat : Int) := by
  rw [u32_and_nat _ _ x.toNat_lt y.toNat_lt, wand, UInt32.toNat_and]
theorem u32_add_w (x y : UInt32) : IntKind.u32.wrap ((x.toNat : Int) + (y.toNat : Int)) = ((wadd x y).toNat : Int) := by
  rw [IntKind.wrap_u32, wadd, UInt32.toNat_add]; omega

theorem u32_not_w (x : UInt32) : bits .xor .u32 (if IntKind.u32.signed = true then -1 else IntKind.u32.max) (x.toNat : Int) = ((wnot x).toNat : Int) := by
  have e : (if IntKind.u32.signed = true then (-1 : Int) else IntKind.u32.max) = ((4294967295 : UInt32).toNat : Int) := rfl
  rw [e, u32_xor_w, wnot, wxor]
  congr 2
/-- x turned to the right by n -/
def rotr (n : Nat) (x : UInt32) : UInt32 := UInt32.ofNat (x.toNat * 2 ^ (32 - n) % 4294967296 ||| x.toNat / 2 ^ n)
def mix (i j k : Nat) (x : UInt32) : UInt32 := wxor (wxor (rotr i x) (rotr j x)) (rotr k x)
def shr (n : Nat) (x : UInt32) : UInt32 := UInt32.ofNat (x.toNat / 2 ^ n)
def mixS (i j k : Nat) (x : UInt32) : UInt32 := wxor (wxor (rotr i x) (rotr j x)) (shr k x)

theorem div_lt (x : UInt32) (n : Nat) : x.toNat / 2 ^ n < 4294967296 := Nat.lt_of_le_of_lt (Nat.div_le_self _ _) x.toNat_lt
theorem shr_toNat (n : Nat) (x : UInt32) : (shr n x).toNat = x.toNat / 2 ^ n := by
  unfold shr; rw [UInt32.toNat_ofNat']; exact Nat.mod_eq_of_lt (div_lt x n)
theorem shr_w (n : Nat) (x : UInt32) : (x.toNat : Int) / 2 ^ n = ((shr n x).toNat : Int) := by
  rw [shr_toNat]; simp [Int.natCast_ediv, Int.natCast_pow]
theorem rotr_toNat (n : Nat) (x : UInt32) : (rotr n x).toNat = (x.toNat * 2 ^ (32 - n) % 4294967296 ||| x.toNat / 2 ^ n) := by
  unfold rotr; rw [UInt32.toNat_ofNat']
  exact Nat.mod_eq_of_lt (Nat.or_lt_two_pow (n := 32) (Nat.mod_lt _ (by decide)) (div_lt x n))
theorem rotr_walk (n : Nat) (x : UInt32) (h0 : 1 ≤ n) (hn : n ≤ 31) :
    bits BinOp.or IntKind.u32 ((x.toNat : Int) * 2 ^ (32 - n) % 4294967296) ((x.toNat : Int) / 2 ^ (32 - (32 - n))) = ((rotr n x).toNat : Int) := by
  have e : 32 - (32 - n) = n := by omega
  rw [e, rotr_toNat, ← u32_or_nat _ _ (Nat.mod_lt _ (by decide)) (div_lt x n)]
  congr 1
theorem neg_count (n : Nat) (h0 : 1 ≤ n) (hn : n ≤ 31) : bits BinOp.and IntKind.u64 (IntKind.u64.wrap (-(n : Int))) 31 = ((32 - n : Nat) : Int) := by
  have e : IntKind.u64.wrap (-(n : Int)) = ((18446744073709551616 - n : Nat) : Int) := by
    simp [IntKind.wrap, IntKind.bits, IntKind.signed]; omega
  have h31 : (31 : Int) = ((31 : Nat) : Int) := rfl
  rw [e, h31, u64_and_nat _ _ (by omega) (by decide)]
  have : (18446744073709551616 - n) &&& 31 = (18446744073709551616 - n) % 2 ^ 5 := Nat.and_two_pow_sub_one_eq_mod _ 5
  rw [this]; omega
/-- four bytes, the first the most significant -/
def word (a b c d : UInt8) : UInt32 := UInt32.ofNat (((a.toNat * 256 + b.toNat) * 256 + c.toNat) * 256 + d.toNat)
theorem word_toNat (a b c d : UInt8) : (word a b c d).toNat = ((a.toNat * 256 + b.toNat) * 256 + c.toNat) * 256 + d.toNat := by
  have ha := a.toNat_lt; have hb := b.toNat_lt; have hc := c.toNat_lt; have hd := d.toNat_lt
  unfold word; rw [UInt32.toNat_ofNat']; exact Nat.mod_eq_of_lt (by omega)
theorem word_walk (a b c d : UInt8) :
    bits BinOp.or IntKind.u32
      (bits BinOp.or IntKind.u32
        (bits BinOp.or IntKind.u32 ((a.toNat : Int) % 4294967296 * 16777216 % 4294967296) ((b.toNat : Int) % 4294967296 * 65536 % 4294967296))
        ((c.toNat : Int) % 4294967296 * 256 % 4294967296))
      ((d.toNat : Int) % 4294967296) = ((word a b c d).toNat : Int) := by
  have ha := a.toNat_lt; have hb := b.toNat_lt; have hc := c.toNat_lt; have hd := d.toNat_lt
  have e1 : (a.toNat : Int) % 4294967296 * 16777216 % 4294967296 = ((a.toNat * 16777216 : Nat) : Int) := by omega
  have e2 : (b.toNat : Int) % 4294967296 * 65536 % 4294967296 = ((b.toNat * 65536 : Nat) : Int) := by omega
  have e3 : (c.toNat : Int) % 4294967296 * 256 % 4294967296 = ((c.toNat * 256 : Nat) : Int) := by omega
  have e4 : (d.toNat : Int) % 4294967296 = ((d.toNat : Nat) : Int) := by omega
  rw [e1, e2, e3, e4, u32_or_nat _ _ (by omega) (by omega), nat_join24 _ _ (by omega) (by omega), u32_or_nat _ _ (by omega) (by omega), nat_join16 _ _ (by omega) (by omega), u32_or_nat _ _ (by omega) (by omega),
    nat_join8 _ _ (by omega) (by omega), word_toNat]
  omega
end Go.Proofs.YtflkhlhpifmocaaDoor
namespace Go.Proofs.YtflkhlhpifmocaaDoor
open Go.RowKit

def wsub (x y : UInt32) : UInt32 := x - y
def wor (x y : UInt32) : UInt32 := x ||| y
def wtop (x : UInt32) : UInt32 := x >>> 31
theorem u32_sub_w (x y : UInt32) : IntKind.u32.wrap ((x.toNat : Int) - (y.toNat : Int)) = ((wsub x y).toNat : Int) := by
  have hx := x.toNat_lt; have hy := y.toNat_lt
  rw [IntKind.wrap_u32, wsub, UInt32.toNat_sub]; omega
theorem u32_or_w (x y : UInt32) : bits .or .u32 (x.toNat : Int) (y.toNat : Int) = ((wor x y).toNat : Int) := by
  rw [u32_or_nat _ _ x.toNat_lt y.toNat_lt, wor, UInt32.toNat_or]
theorem u32_top_w (x : UInt32) : (x.toNat : Int) / 2147483648 = ((wtop x).toNat : Int) := by
  rw [wtop, UInt32.toNat_shiftRight]; simp [Nat.shiftRight_eq_div_pow]
/-- what bits.Sub32 borrows, as its text has it -/
def borW (x y d : UInt32) : UInt32 := wtop (wor (wand (wnot x) y) (wand (wnot (wxor x y)) d))
theorem top_and (a b : Nat) : (a &&& b) / 2147483648 = a / 2147483648 &&& b / 2147483648 := Nat.and_div_two_pow (n := 31)
theorem top_or (a b : Nat) : (a ||| b) / 2147483648 = a / 2147483648 ||| b / 2147483648 := Nat.or_div_two_pow (n := 31)
theorem top_xor (a b : Nat) : (a ^^^ b) / 2147483648 = a / 2147483648 ^^^ b / 2147483648 := Nat.xor_div_two_pow (n := 31)
theorem borW_toNat (x y c : UInt32) (hc : c.toNat ≤ 1) : (borW x y (wsub (wsub x y) c)).toNat = if x.toNat < y.toNat + c.toNat then 1 else 0 := by
  have hx := x.toNat_lt; have hy := y.toNat_lt
  unfold borW wtop wor wand wnot wxor wsub
  rw [UInt32.toNat_shiftRight, UInt32.toNat_or, UInt32.toNat_and, UInt32.toNat_and, UInt32.toNat_not, UInt32.toNat_not, UInt32.toNat_xor, UInt32.toNat_sub, UInt32.toNat_sub]
  have e31 : (31 : UInt32).toNat % 32 = 31 := rfl
  rw [e31, Nat.shiftRight_eq_div_pow]
  have e2 : 2 ^ 31 = 2147483648 := rfl
  rw [e2, top_or, top_and, top_and]
  have hz : ∀ z : Nat, z < 4294967296 → (UInt32.size - 1 - z) / 2147483648 = 1 - z / 2147483648 := fun z hz => by
    have : UInt32.size = 4294967296 := rfl
    omega
  have hxy : (x.toNat ^^^ y.toNat) < 4294967296 := Nat.xor_lt_two_pow (n := 32) hx hy
  rw [hz _ hx, hz _ hxy, top_xor]
  obtain ⟨d, hd⟩ : ∃ d, d = (2 ^ 32 - c.toNat + (2 ^ 32 - y.toNat + x.toNat) % 2 ^ 32) % 2 ^ 32 := ⟨_, rfl⟩
  rw [← hd]
  have hd2 : d < 4294967296 := by omega
  rcases (show x.toNat / 2147483648 = 0 ∨ x.toNat / 2147483648 = 1 by omega) with h1 | h1 <;> rcases (show y.toNat / 2147483648 = 0 ∨ y.toNat / 2147483648 = 1 by omega) with h2 | h2 <;>
    rcases (show d / 2147483648 = 0 ∨ d / 2147483648 = 1 by omega) with h3 | h3 <;> rw [h1, h2, h3] <;> split <;> first | decide | (exfalso; omega) | skip

attribute [local go_sem] u32_sub_w u32_or_w u32_top_w u32_xor_w u32_and_w u32_not_w
set_option maxHeartbeats 400000 in
theorem sub32_w (x y c : UInt32) (w : World) :
    Calls Tryd.prog 86 #[.int .u32 x.toNat, .int .u32 y.toNat, .int .u32 c.toNat] w fun e w' => e = .returned (.tuple #[.int .u32 (wsub (wsub x y) c).toNat, .int .u32 (borW x y (wsub (wsub x y) c)).toNat]) ∧ w = w' := by
  go_enter Tryd.func86, Tryd.ntmps86
  go_wp2
  go_ret2
  exact ⟨rfl, rfl⟩
/-- x - y - c, and whether it is below 0 -/
def subW (x y c : Nat) : Nat := (x + 8589934592 - y - c) % 4294967296
def subB (x y c : Nat) : Nat := if x < y + c then 1 else 0
theorem sub32_any (x y c : Nat) (w : World) (hx : x < 4294967296) (hy : y < 4294967296) (hc : c ≤ 1) :
    Calls Tryd.prog 86 #[.int .u32 (x : Int), .int .u32 (y : Int), .int .u32 (c : Int)] w fun e w' => e = .returned (.tuple #[.int .u32 ((subW x y c : Nat) : Int), .int .u32 ((subB x y c : Nat) : Int)]) ∧ w = w' := by
  have ex : x = (UInt32.ofNat x).toNat := (UInt32.toNat_ofNat_of_lt' hx).symm
  have ey : y = (UInt32.ofNat y).toNat := (UInt32.toNat_ofNat_of_lt' hy).symm
  have ec : c = (UInt32.ofNat c).toNat := (UInt32.toNat_ofNat_of_lt' (by omega : c < 4294967296)).symm
  have h := sub32_w (UInt32.ofNat x) (UInt32.ofNat y) (UInt32.ofNat c) w
  rw [borW_toNat _ _ _ (by omega), ← ex, ← ey, ← ec] at h
  have e : (wsub (wsub (UInt32.ofNat x) (UInt32.ofNat y)) (UInt32.ofNat c)).toNat = subW x y c := by
    unfold wsub subW
    rw [UInt32.toNat_sub, UInt32.toNat_sub, ← ex, ← ey, ← ec]
    omega
  rw [e] at h
  exact h
/-- x + y + c, and what is carried -/
def addW (x y c : Nat) : Nat := (x + y + c) % 4294967296
def addC (x y c : Nat) : Nat := (x + y + c) / 4294967296
set_option maxHeartbeats 400000 in
theorem add32_any (x y c : Nat) (w : World) (hx : x < 4294967296) (hy : y < 4294967296) (hc : c ≤ 1) :
    Calls Tryd.prog 94 #[.int .u32 (x : Int), .int .u32 (y : Int), .int .u32 (c : Int)] w fun e w' => e = .returned (.tuple #[.int .u32 ((addW x y c : Nat) : Int), .int .u32 ((addC x y c : Nat) : Int)]) ∧ w = w' := by
  have hw := addW.eq_def x y c
  go_enter Tryd.func94, Tryd.ntmps94
  go_wp2
  go_ret2
  refine ⟨?_, rfl⟩
  congr 3 <;> unfold addW addC <;> omega
end Go.Proofs.YtflkhlhpifmocaaDoor
namespace Go.Proofs.YtflkhlhpifmocaaDoor
open Go.RowKit

/-- what is carried out of a sum -/
def over (a b : Nat) : Nat := (a + b) / big
/-- what is borrowed for a difference -/
def under (a b : Nat) : Nat := if a < b then 1 else 0
def carN (a b k : Nat) : Nat := car 4294967296 a b k
theorem addW_eq (a b k : Nat) : addW (wrd a k) (wrd b k) (carN a b k) = wrd (a + b) k := add_dg (by decide) a b k
theorem addC_eq (a b k : Nat) : addC (wrd a k) (wrd b k) (carN a b k) = carN a b (k + 1) := car_step (by decide) a b k
theorem carN_le (a b k : Nat) : carN a b k ≤ 1 := car_le (by decide) a b k
def borN (a b k : Nat) : Nat := bor 4294967296 a b k
theorem subW_eq (a b k : Nat) (hk : k < 8) (hb : b < big) : subW (wrd a k) (wrd b k) (borN a b k) = wrd (a + big - b) k := sub_dg (by decide) hk hb
theorem subB_eq (a b k : Nat) : subB (wrd a k) (wrd b k) (borN a b k) = borN a b (k + 1) := bor_step (by decide) a b k
theorem borN_le (a b k : Nat) : borN a b k ≤ 1 := bor_le _ a b k

attribute [local go_sem] zeroNum
set_option maxRecDepth 100000 in
set_option maxHeartbeats 1000000 in
theorem add_any (a b : Nat) (w : World) (ha : a < big) (hb : b < big) :
    Calls Tryd.prog 85 #[.agg (nums a), .agg (nums b)] w fun e w' => e = .returned (.tuple #[.agg (nums (a + b)), .int .u32 ((over a b : Nat) : Int)]) ∧ Below w.heap.size w w' := by
  have hend : carN a b 8 = over a b := car_end ha hb
  have HE := Lib.hid hend
  clear hend ha hb
  go_enter Tryd.func85, Tryd.ntmps85
  go_wp2_with fail
  go_loopw [7, 8, 9] (fun cc _ ct wr => ∃ k : Nat, k ≤ 8 ∧ ct = .int .i64 k ∧ cc = .int .u32 ((carN a b k : Nat) : Int) ∧ Has wr w.heap.size 30 (nums a) ∧ Has wr (w.heap.size + 1) 30 (nums b) ∧
      Has wr (w.heap.size + 1 + 1) 30 (nums 0) ∧ Has wr (w.heap.size + 1 + 1 + 1) 30 (nums ((a + b) % 4294967296 ^ k)) ∧ Below w.heap.size w wr) (fun _ _ ct _ => 8 - (intOf ct).toNat)
  case atStart =>
    exact ⟨0, by omega, rfl, by rw [carN, car_zero]; rfl, (((Has.new w _ _).alloc _).alloc _).alloc _, ((Has.new' (by simp)).alloc _).alloc _, (Has.new' (by simp)).alloc _, by rw [nums_start]; exact Has.new' (by simp),
      ((((Below.refl _ _).alloc (Nat.le_refl _) _).alloc (by simp) _).alloc (by simp <;> omega) _).alloc (by simp <;> omega) _⟩
  case round =>
    obtain ⟨k, hk, rfl, rfl, h0, h1, h2, h3, hb⟩ := hrel
    by_cases hlt : k < 8
    · have c0 := nums_at h0 k hlt
      have c1 := nums_at h1 k hlt
      have dk : (k : Int) < 8 := by omega
      have l0 := wrd_lt a k
      have l1 := wrd_lt b k
      have l2 := carN_le a b k
      go_wp2_with fail
      have c3 := h3.cellTab k hlt
      have f3 := h3.free k
      go_region_with (go_at_call 94; refine (add32_any _ _ _ _ l0 l1 l2).mono ?_; rintro e w' ⟨rfl, rfl⟩)
      all_goals
        go_wp2_with fail
        go_roundw
      all_goals first
        | (refine ⟨k + 1, by omega, by go_num, by rw [← addC_eq], h0.drew.far (by simp <;> omega) _, h1.drew.far (by simp <;> omega) _, h2.drew.far (by simp) _, ?_, (below_drewN hb 1).setCell (by simp <;> omega) _⟩
           have h := h3.drew.set k (.int .u32 ((wrd (a + b) k : Nat) : Int))
           rw [nums_set hlt, ← addW_eq] at h
           exact h)
        | (simp [intOf]; omega)
    · have e8 : k = 8 := by omega
      have h3' : Has wr (w.heap.size + 1 + 1 + 1) 30 (nums (a + b)) := by rw [e8, nums_end] at h3; exact h3
      have hcar : carN a b k = over a b := by rw [e8]; exact HE.out
      have dk : ¬ (k : Int) < 8 := by omega
      clear e8 hk h3 h0 h1
      go_wp2_with (first | refine wpList_load_row rfl 30 _ rfl (w.heap.size + 1 + 1 + 1) rfl 30 _ _ _ h3' Tryd.underlying30 rfl (infoNum _) ?_ | refine wpList_store_row rfl 30 _ _ rfl (w.heap.size + 1 + 1) _ rfl rfl 30 _ h2 (infoNum _) (by rw [nums_size, nums_size]) (tab_oneCell _ _ fun _ => rfl) ?_)
      exact bodyPost_ret (results_row_tmp rfl _ _ (w.heap.size + 1 + 1) 30 _ _ _ rfl rfl (h2.setRow _) Tryd.underlying30 rfl (infoNum _)) rfl ⟨rfl, below_setRow hb (by omega) _⟩
set_option maxRecDepth 100000 in
set_option maxHeartbeats 1000000 in
theorem sub_any (a b : Nat) (w : World) (ha : a < big) (hbb : b < big) :
    Calls Tryd.prog 70 #[.agg (nums a), .agg (nums b)] w fun e w' => e = .returned (.tuple #[.agg (nums (a + big - b)), .int .u32 ((under a b : Nat) : Int)]) ∧ Below w.heap.size w w' := by
  have hend : borN a b 8 = under a b := bor_end ha hbb
  have HE := Lib.hid hend
  have HB := Lib.hid hbb
  clear hend ha hbb
  go_enter Tryd.func70, Tryd.ntmps70
  go_wp2_with fail
  go_loopw [7, 8, 9] (fun cc _ ct wr => ∃ k : Nat, k ≤ 8 ∧ ct = .int .i64 k ∧ cc = .int .u32 ((borN a b k : Nat) : Int) ∧ Has wr w.heap.size 30 (nums a) ∧ Has wr (w.heap.size + 1) 30 (nums b) ∧
      Has wr (w.heap.size + 1 + 1) 30 (nums 0) ∧ Has wr (w.heap.size + 1 + 1 + 1) 30 (nums ((a + big - b) % 4294967296 ^ k)) ∧ Below w.heap.size w wr) (fun _ _ ct _ => 8 - (intOf ct).toNat)
  case atStart =>
    exact ⟨0, by omega, rfl, by rw [borN, bor_zero]; rfl, (((Has.new w _ _).alloc _).alloc _).alloc _, ((Has.new' (by simp)).alloc _).alloc _, (Has.new' (by simp)).alloc _, by rw [nums_start]; exact Has.new' (by simp),
      ((((Below.refl _ _).alloc (Nat.le_refl _) _).alloc (by simp) _).alloc (by simp <;> omega) _).alloc (by simp <;> omega) _⟩
  case round =>
    obtain ⟨k, hk, rfl, rfl, h0, h1, h2, h3, hb⟩ := hrel
    by_cases hlt : k < 8
    · have c0 := nums_at h0 k hlt
      have c1 := nums_at h1 k hlt
      have dk : (k : Int) < 8 := by omega
      have l0 := wrd_lt a k
      have l1 := wrd_lt b k
      have l2 := borN_le a b k
      go_wp2_with fail
      have c3 := h3.cellTab k hlt
      have f3 := h3.free k
      go_region_with (go_at_call 86; refine (sub32_any _ _ _ _ l0 l1 l2).mono ?_; rintro e w' ⟨rfl, rfl⟩)
      all_goals
        go_wp2_with fail
        go_roundw
      all_goals first
        | (refine ⟨k + 1, by omega, by go_num, by rw [← subB_eq], h0.drew.far (by simp <;> omega) _, h1.drew.far (by simp <;> omega) _, h2.drew.far (by simp) _, ?_, (below_drewN hb 1).setCell (by simp <;> omega) _⟩
           have h := h3.drew.set k (.int .u32 ((wrd (a + big - b) k : Nat) : Int))
           rw [nums_set hlt, ← subW_eq _ _ _ hlt HB.out] at h
           exact h)
        | (simp [intOf]; omega)
    · have e8 : k = 8 := by omega
      have h3' : Has wr (w.heap.size + 1 + 1 + 1) 30 (nums (a + big - b)) := by rw [e8, nums_end] at h3; exact h3
      have hbor : borN a b k = under a b := by rw [e8]; exact HE.out
      have dk : ¬ (k : Int) < 8 := by omega
      clear e8 hk h3 h0 h1
      go_wp2_with (first | refine wpList_load_row rfl 30 _ rfl (w.heap.size + 1 + 1 + 1) rfl 30 _ _ _ h3' Tryd.underlying30 rfl (infoNum _) ?_ | refine wpList_store_row rfl 30 _ _ rfl (w.heap.size + 1 + 1) _ rfl rfl 30 _ h2 (infoNum _) (by rw [nums_size, nums_size]) (tab_oneCell _ _ fun _ => rfl) ?_)
      exact bodyPost_ret (results_row_tmp rfl _ _ (w.heap.size + 1 + 1) 30 _ _ _ rfl rfl (h2.setRow _) Tryd.underlying30 rfl (infoNum _)) rfl ⟨rfl, below_setRow hb (by omega) _⟩
end Go.Proofs.YtflkhlhpifmocaaDoor
namespace Go.Proofs.YtflkhlhpifmocaaDoor
open Go Go.RowKit

/-- are the first n places alike? -/
def sameTo (f g : Nat → Int) (n : Nat) : Bool := (List.range' 0 n).all fun j => f j == g j
theorem sameTo_iff (f g : Nat → Int) (n : Nat) : sameTo f g n = true ↔ ∀ j, j < n → f j = g j := by
  simp [sameTo, List.all_eq_true, List.mem_range'_1]

theorem run_equalIn_tab {P : Program} (w : World) (d : Nat) (t e : TypeId) (n : Nat) (ik k : IntKind) (i : TypeInfo) (f g : Nat → Int) (hu : P.underlying t = some (.array n e)) (he : P.underlying e = some (.int ik))
    (hi : P.info? e = some i) (hs : i.size = 1) (heq : ∀ (a b : Int) (W : World), (Op.equalIn d e (.int k a) (.int k b)).run P W = .ok (a == b) W) :
    (Op.equalIn (d + 1) t (.agg (tab n fun j => .int k (f j))) (.agg (tab n fun j => .int k (g j)))).run P w = .ok (sameTo f g n) w := by
  have hsz : ∀ W, (sizeOf e).run P W = .ok 1 W := fun W => by simp [sizeOf, typeInfo, hi, hs]
  have hpart : ∀ (h : Nat → Int) (j : Nat) (W : World), j < n → (part e (tab n fun j => .int k (h j)) j).run P W = .ok (.int k (h j)) W := fun h j W hj => by
    simp [part, isAgg, run_underlying he, tab_get n _ j hj, go_sem]
  simp only [Op.equalIn, Sem.run_bind, run_underlying hu, Result.andThen_ok, hsz]
  rw [Std.Legacy.Range.forIn_eq_forIn_range']
  simp only [Std.Legacy.Range.size, Nat.sub_zero, Nat.add_sub_cancel, Nat.div_one, Nat.mul_one]
  unfold sameTo
  have hL : ∀ j ∈ List.range' 0 n, j < n := fun j hj => by simpa [List.mem_range'_1] using hj
  generalize List.range' 0 n = L at *
  induction L generalizing w with
  | nil => simp
  | cons s0 L ih =>
    have h0 : s0 < n := hL s0 (by simp)
    simp only [List.forIn_cons, Sem.run_bind, hpart f s0 _ h0, hpart g s0 _ h0, Result.andThen_ok, heq, List.all_cons]
    by_cases h : f s0 = g s0
    · have hb : (f s0 == g s0) = true := by simpa using h
      simp only [hb, Bool.not_true, Bool.false_eq_true, if_false, Sem.run_pure, Result.andThen_ok, Bool.true_and]
      exact ih w (fun j hj => hL j (by simp [hj]))
    · have hb : (f s0 == g s0) = false := by simpa using h
      simp only [hb, Bool.not_false, if_true, Sem.run_pure, Result.andThen_ok, Bool.false_and]

/-- 'x == y' of two arrays of integers that are alike -/
theorem run_eql_tab {P : Program} (w : World) (t e : TypeId) (n : Nat) (ik k : IntKind) (i : TypeInfo) (f g : Nat → Int) (hu : P.underlying t = some (.array n e)) (he : P.underlying e = some (.int ik))
    (hi : P.info? e = some i) (hs : i.size = 1) : (binOp .eql t (.agg (tab n fun j => .int k (f j))) (.agg (tab n fun j => .int k (g j)))).run P w = .ok (.bool (sameTo f g n)) w := by
  rw [run_eql_struct]
  have h := run_equalIn_tab (P := P) w 9999 t e n ik k i f g hu he hi hs (fun a b W => run_equalIn_int (P := P) (w := W) 9998 e k ik a b he)
  rw [h]
  rfl
theorem sameTo_refl (f : Nat → Int) (n : Nat) : sameTo f f n = true := (sameTo_iff f f n).2 fun _ _ => rfl
end Go.Proofs.YtflkhlhpifmocaaDoor
namespace Go.Proofs.YtflkhlhpifmocaaDoor
open Go.RowKit

theorem info32 : (Tryd.prog.info? 28).map (fun i => (i.zero, i.size, i.bytes)) = some (some (.int .u32 0), 1, 4) := by kernel_rfl
def sameN (x y : Nat) : Bool := decide (x = y)
theorem same_digits {B n x y : Nat} (hx : x < B ^ n) (hy : y < B ^ n) : sameTo (fun j => ((dg B x j : Nat) : Int)) (fun j => ((dg B y j : Nat) : Int)) n = sameN x y := by
  unfold sameN
  by_cases h : x = y
  · subst h; simp [sameTo_refl]
  · rw [decide_eq_false h, ← Bool.not_eq_true, sameTo_iff]
    exact fun hc => h (digits_inj hx hy fun j hj => by have := hc j hj; omega)
theorem eql_nums {x y : Nat} (hx : x < big) (hy : y < big) : ∀ W : World, (binOp .eql 30 (.agg (nums x)) (.agg (nums y))).run Tryd.prog W = .ok (.bool (sameN x y)) W := fun W => by
  obtain ⟨i, hi, _, hs, _⟩ := info_parts info32
  have h := run_eql_tab (P := Tryd.prog) W 30 28 8 .u32 .u32 i (fun j => ((dg 4294967296 x j : Nat) : Int)) (fun j => ((dg 4294967296 y j : Nat) : Int)) Tryd.underlying30 Tryd.underlying28 hi hs
  rw [same_digits hx hy] at h
  exact h

attribute [local go_sem] zeroNum
set_option maxRecDepth 100000 in
set_option maxHeartbeats 1000000 in
theorem zero_any (a : Nat) (w : World) (ha : a < big) :
    Calls Tryd.prog 39 #[.agg (nums a)] w fun e w' => e = .returned (.bool (sameN a 0)) ∧ Below w.heap.size w w' := by
  have he := eql_nums ha big_pos
  have h0 : Has (w.alloc (.cells (nums a) 30)) w.heap.size 30 (nums a) := Has.new w _ _
  clear ha
  go_enter Tryd.func39, Tryd.ntmps39
  go_wp2_with (refine wpList_load_row rfl 30 _ rfl w.heap.size rfl 30 _ _ _ h0 Tryd.underlying30 rfl (infoNum _) ?_)
  go_ret
  exact ⟨rfl, (Below.refl _ _).alloc (Nat.le_refl _) _⟩

/-- -1, 0, 1 -/
def cmpI (a b : Nat) : Int := if a = b then 0 else if a < b then -1 else 1
set_option maxRecDepth 100000 in
set_option maxHeartbeats 1000000 in
theorem compare_any (a b : Nat) (w : World) (ha : a < big) (hb : b < big) :
    Calls Tryd.prog 40 #[.agg (nums a), .agg (nums b)] w fun e w' => e = .returned (.int .i64 (cmpI a b)) ∧ Below w.heap.size w w' := by
  have he := eql_nums ha hb
  have hs := fun W => sub_any a b W ha hb
  clear ha hb
  have h0 : Has ((w.alloc (.cells (nums a) 30)).alloc (.cells (nums b) 30)) w.heap.size 30 (nums a) := (Has.new w _ _).alloc _
  have h1 : Has ((w.alloc (.cells (nums a) 30)).alloc (.cells (nums b) 30)) (w.heap.size + 1) 30 (nums b) := Has.new' (by simp)
  have hb0 : Below w.heap.size w ((w.alloc (.cells (nums a) 30)).alloc (.cells (nums b) 30)) := ((Below.refl _ _).alloc (Nat.le_refl _) _).alloc (by simp) _
  by_cases hab : a = b
  · have hsm : sameN a b = true := by simp [sameN, hab]
    have hc : cmpI a b = 0 := by simp [cmpI, hab]
    rw [hc]
    clear hc hs hab
    go_enter Tryd.func40, Tryd.ntmps40
    go_wp2_with (first | refine wpList_load_row rfl 30 _ rfl w.heap.size rfl 30 _ _ _ h0 Tryd.underlying30 rfl (infoNum _) ?_ | refine wpList_load_row rfl 30 _ rfl (w.heap.size + 1) rfl 30 _ _ _ h1 Tryd.underlying30 rfl (infoNum _) ?_)
    go_ret
    exact ⟨rfl, hb0⟩
  · have hsm : sameN a b = false := by simp [sameN, hab]
    have hcu : cmpI a b = if under a b = 1 then -1 else 1 := by unfold cmpI under; rw [if_neg hab]; split <;> simp
    rw [hcu]
    have hu : under a b = 0 ∨ under a b = 1 := by unfold under; split <;> simp
    clear hcu hab
    go_enter Tryd.func40, Tryd.ntmps40
    go_wp2_with (first | refine wpList_load_row rfl 30 _ rfl w.heap.size rfl 30 _ _ _ h0 Tryd.underlying30 rfl (infoNum _) ?_ | refine wpList_load_row rfl 30 _ rfl (w.heap.size + 1) rfl 30 _ _ _ h1 Tryd.underlying30 rfl (infoNum _) ?_)
    refine (hs _).mono ?_
    rintro e w1 ⟨rfl, hb1⟩
    have hB := hb0.trans (hb1.mono hb0.size)
    have hsz := hB.size
    clear hs he h0 h1 hb0 hb1
    rcases hu with hu | hu <;> rw [hu] <;>
    · go_wp2_with (refine wpList_store_row rfl 30 _ _ rfl w1.heap.size _ rfl rfl 30 (nums 0) (Has.new' rfl) (infoNum _) (by rw [nums_size, nums_size]) (tab_oneCell _ _ fun _ => rfl) ?_)
      go_ret
      exact ⟨rfl, below_setRow (hB.alloc hsz _) hsz _⟩

/-- bit i of x -/
def bitN (x i : Nat) : Nat := x / 2 ^ i % 2
theorem bit_walk (x i : Nat) : bits BinOp.and IntKind.u32 (((wrd x (i / 32) : Nat) : Int) / 2 ^ (i % 32)) 1 = ((bitN x i : Nat) : Int) := by
  have h1 : ((wrd x (i / 32) : Nat) : Int) / 2 ^ (i % 32) = ((wrd x (i / 32) / 2 ^ (i % 32) : Nat) : Int) := by simp [Int.natCast_ediv, Int.natCast_pow]
  have hlt : wrd x (i / 32) / 2 ^ (i % 32) < 4294967296 := Nat.lt_of_le_of_lt (Nat.div_le_self _ _) (wrd_lt _ _)
  have h2 : (1 : Int) = ((1 : Nat) : Int) := rfl
  rw [h1, h2, u32_and_nat _ _ hlt (by decide), Nat.and_one_is_mod]
  have h := dg_dg (b := 2) (m := 32) (x := x) (q := i / 32) (r := i % 32) (by omega)
  have e : 32 * (i / 32) + i % 32 = i := by omega
  rw [e] at h
  unfold bitN
  unfold dg at h
  unfold wrd dg
  rw [← h]
set_option maxRecDepth 100000 in
set_option maxHeartbeats 1000000 in
theorem bit_out (a : Nat) (i : Int) (w : World) (hi : i < 0 ∨ 256 ≤ i) :
    Calls Tryd.prog 60 #[.agg (nums a), .int .i64 i] w fun e w' => e = .returned (.int .u32 0) ∧ Below w.heap.size w w' := by
  by_cases h : i < 0
  · have hd : decide (i < 0) = true := by simp [h]
    go_enter Tryd.func60, Tryd.ntmps60
    go_wp2
    go_ret
    exact ⟨rfl, (Below.refl _ _).alloc (Nat.le_refl _) _⟩
  · have hd : decide (i < 0) = false := by simp; omega
    have hd2 : decide (256 ≤ i) = true := by simp; omega
    go_enter Tryd.func60, Tryd.ntmps60
    go_wp2
    go_ret
    exact ⟨rfl, (Below.refl _ _).alloc (Nat.le_refl _) _⟩
set_option maxRecDepth 100000 in
set_option maxHeartbeats 1000000 in
theorem bit_any (a i : Nat) (w : World) (hi : i < 256) :
    Calls Tryd.prog 60 #[.agg (nums a), .int .i64 (i : Int)] w fun e w' => e = .returned (.int .u32 ((bitN a i : Nat) : Int)) ∧ Below w.heap.size w w' := by
  have h0 : Has (w.alloc (.cells (nums a) 30)) w.heap.size 30 (nums a) := Has.new w _ _
  have c0 := nums_at h0 (i / 32) (by omega)
  have hd : decide ((i : Int) < 0) = false := by simp
  have hd2 : decide (256 ≤ (i : Int)) = false := by simp; omega
  have e1 : (i : Int).tdiv 32 = ((i / 32 : Nat) : Int) := by rw [Int.tdiv_eq_ediv_of_nonneg (by omega)]; omega
  have e2 : (i : Int).tmod 32 = ((i % 32 : Nat) : Int) := by rw [Int.tmod_eq_emod_of_nonneg (by omega)]; omega
  have hw := bit_walk a i
  go_enter Tryd.func60, Tryd.ntmps60
  go_wp2
  go_ret
  exact ⟨rfl, (Below.refl _ _).alloc (Nat.le_refl _) _⟩
end Go.Proofs.YtflkhlhpifmocaaDoor
