/-
The reference of layer 6: its cursor's End and Take.
The reference of layer 6: its cursor's Num.
Integers of 64 bits under a mask, and turned right.
Layer 6: what package bytes' calls answer; the laws' own example; a cursor that is none.
The reference of layer 6: its cursor's Take and Num, whatever the state.
Package bytes: its own calls' contracts.
Layer 7: has a manifest few parts; may a grant be.
Layer 7: may a grant be.
Layer 7: rows of grants that the call owns; when a manifest is valid.
Layer 7, the reference: when a manifest is valid.
Layer 6's reference: Put and Join; lists of bytes, lists of such lists.
-/
import Derived.Test.YtegaiphhoinilaaJaA
import Derived.Test.YtegaiphhoinilaaRows
import Derived.Lib.Hide
import Derived.WalkKit
import Derived.Laws.BitsAllLaws
import Derived.ArgAppend
import Derived.OwnWalk
import Derived.Great.BuildSlice
namespace Go.Proofs.Ytegaiphhoinilaa
open Go Go.RowKit

/-- the reference's cursor: bytes, place, failed -/
def curF (A : Option Addr) (n c p : Nat) (bad : Bool) (j : Nat) : Value := if j = 0 then .slice A n c else if j = 1 then .int .i64 (p : Int) else .bool bad
def curC (A : Option Addr) (n c p : Nat) (bad : Bool) : Array Value := tab 3 (curF A n c p bad)
theorem load_bool (g j : Nat) (v : Value) (w : World) (h : w.cell? ⟨g, j, none⟩ = some v) : (Instr.loadAt 4 (.pointer (some ⟨g, j, none⟩))).run Try.prog w = .ok v w := by
  go_simp
theorem load_int (g j : Nat) (v : Value) (w : World) (h : w.cell? ⟨g, j, none⟩ = some v) : (Instr.loadAt 3 (.pointer (some ⟨g, j, none⟩))).run Try.prog w = .ok v w := by
  go_simp
theorem load_sl (g j : Nat) (v : Value) (w : World) (h : w.cell? ⟨g, j, none⟩ = some v) : (Instr.loadAt 70 (.pointer (some ⟨g, j, none⟩))).run Try.prog w = .ok v w := by
  go_simp
theorem int_eq (o1 o2 : Operand) (x y : Int) (w : World) : (do eqGuard .eql 3 o1 o2 (.int .i64 x) (.int .i64 y); binOp .eql 3 (.int .i64 x) (.int .i64 y) : Sem Value).run Try.prog w = .ok (.bool (x == y)) w := by
  go_simp
theorem int_eqT (o1 o2 : Operand) (x y : Int) (h : x = y) (w : World) : (do eqGuard .eql 3 o1 o2 (.int .i64 x) (.int .i64 y); binOp .eql 3 (.int .i64 x) (.int .i64 y) : Sem Value).run Try.prog w = .ok (.bool true) w := by
  rw [int_eq, beq_iff_eq.2 h]
theorem int_eqF (o1 o2 : Operand) (x y : Int) (h : x ≠ y) (w : World) : (do eqGuard .eql 3 o1 o2 (.int .i64 x) (.int .i64 y); binOp .eql 3 (.int .i64 x) (.int .i64 y) : Sem Value).run Try.prog w = .ok (.bool false) w := by
  rw [int_eq, beq_eq_false_iff_ne.2 h]
theorem int_lt (o1 o2 : Operand) (x y : Int) (w : World) : (do eqGuard .lss 3 o1 o2 (.int .i64 x) (.int .i64 y); binOp .lss 3 (.int .i64 x) (.int .i64 y) : Sem Value).run Try.prog w = .ok (.bool (decide (x < y))) w := by
  go_simp
theorem int_ltT (o1 o2 : Operand) (x y : Int) (h : x < y) (w : World) : (do eqGuard .lss 3 o1 o2 (.int .i64 x) (.int .i64 y); binOp .lss 3 (.int .i64 x) (.int .i64 y) : Sem Value).run Try.prog w = .ok (.bool true) w := by
  rw [int_lt, decide_eq_true h]
theorem int_ltF (o1 o2 : Operand) (x y : Int) (h : ¬ x < y) (w : World) : (do eqGuard .lss 3 o1 o2 (.int .i64 x) (.int .i64 y); binOp .lss 3 (.int .i64 x) (.int .i64 y) : Sem Value).run Try.prog w = .ok (.bool false) w := by
  rw [int_lt, decide_eq_false h]
theorem int_gt (o1 o2 : Operand) (x y : Int) (w : World) : (do eqGuard .gtr 3 o1 o2 (.int .i64 x) (.int .i64 y); binOp .gtr 3 (.int .i64 x) (.int .i64 y) : Sem Value).run Try.prog w = .ok (.bool (decide (y < x))) w := by
  go_simp
theorem int_gtT (o1 o2 : Operand) (x y : Int) (h : y < x) (w : World) : (do eqGuard .gtr 3 o1 o2 (.int .i64 x) (.int .i64 y); binOp .gtr 3 (.int .i64 x) (.int .i64 y) : Sem Value).run Try.prog w = .ok (.bool true) w := by
  rw [int_gt, decide_eq_true h]
theorem int_gtF (o1 o2 : Operand) (x y : Int) (h : ¬ y < x) (w : World) : (do eqGuard .gtr 3 o1 o2 (.int .i64 x) (.int .i64 y); binOp .gtr 3 (.int .i64 x) (.int .i64 y) : Sem Value).run Try.prog w = .ok (.bool false) w := by
  rw [int_gt, decide_eq_false h]
theorem int_subN (o1 o2 : Operand) (x y z : Nat) (h : y ≤ x) (hx : x < 9223372036854775808) (hz : x - y = z) (w : World) : (do eqGuard .sub 3 o1 o2 (.int .i64 (x : Int)) (.int .i64 (y : Int)); binOp .sub 3 (.int .i64 (x : Int)) (.int .i64 (y : Int)) : Sem Value).run Try.prog w = .ok (.int .i64 (z : Int)) w := by
  have e : (x : Int) - (y : Int) = (z : Int) := by omega
  have hw : IntKind.i64.wrap (z : Int) = (z : Int) := by simp [IntKind.wrap, IntKind.bits, IntKind.signed]; omega
  go_simp
theorem not_bool (b : Bool) (w : World) : (Op.unary .not (.bool b)).run Try.prog w = .ok (.bool (!b)) w := by
  cases b <;> go_simp
/-- where the rest of a slice begins: at its capacity's end Go leaves the place as it is -/
def midO (A : Addr) (c p : Nat) : Addr := if c = p then A else A.add p
theorem slice_mid (b o n c p k : Nat) (s : Option Nat) (hp : p + k ≤ n) (hc : n ≤ c) (W : World) : (Instr.sliceAt 70 (.slice (some ⟨b, o, s⟩) n c) (some (.int .i64 ((p : Nat) : Int))) (some (.int .i64 ((p + k : Nat) : Int))) none).run Try.prog W = .ok (.slice (some (midO ⟨b, o, s⟩ c p)) k (c - p)) W := by
  have h1 : ((p + k : Nat) : Int) ≤ (c : Int) := by omega
  have h2 : (c : Int) - (p : Int) = ((c - p : Nat) : Int) := by omega
  have h3 : ((p + k : Nat) : Int) - (p : Int) = (k : Int) := by omega
  have h5 : (p : Int) ≤ ((p + k : Nat) : Int) := by omega
  have h6 : (((p + k : Nat) : Int)).toNat - p = k := by omega
  generalize ((p + k : Nat) : Int) = q at *
  unfold midO
  by_cases hcp : c = p
  · subst hcp
    go_simp
  · rw [if_neg hcp]
    go_simp
theorem slice_nil0 (p k : Nat) (hp : p + k ≤ 0) (W : World) : (Instr.sliceAt 70 (.slice none 0 0) (some (.int .i64 ((p : Nat) : Int))) (some (.int .i64 ((p + k : Nat) : Int))) none).run Try.prog W = .ok (.slice none 0 0) W := by
  obtain rfl : p = 0 := by omega
  obtain rfl : k = 0 := by omega
  go_simp
end Go.Proofs.Ytegaiphhoinilaa
namespace Go.Proofs.Ytegaiphhoinilaa
open Go Go.RowKit

/-- the number of the m bytes from place j on, the lowest first -/
def leT (f : Nat → Nat) : Nat → Nat → Nat
  | 0, _ => 0
  | m + 1, j => f j + 256 * leT f m (j + 1)
theorem leT_lt {f : Nat → Nat} (hf : ∀ j, f j < 256) : ∀ m j, leT f m j < 256 ^ m
  | 0, _ => by simp [leT]
  | m + 1, j => by
    have h1 := leT_lt hf m (j + 1)
    have h2 := hf j
    show f j + 256 * leT f m (j + 1) < 256 ^ (m + 1)
    rw [Nat.pow_succ]
    omega
def bsN (bs : List UInt8) (j : Nat) : Nat := (bs.getD j 0).toNat
theorem bsN_lt (bs : List UInt8) (j : Nat) : bsN bs j < 256 := (bs.getD j 0).toNat_lt
end Go.Proofs.Ytegaiphhoinilaa
namespace Go.Proofs.Ytegaiphhoinilaa
open Go Go.RowKit

theorem i64_and_mask (k : Int) (j : Nat) (hj : j < 63) : bits .and .i64 k ((2 ^ j - 1 : Nat) : Int) = k % (2 ^ j : Nat) := by
  unfold bits
  have hp : 2 ^ j ≤ 2 ^ 62 := Nat.pow_le_pow_right (by omega) (by omega)
  have h1 : (BitVec.ofInt 64 k &&& BitVec.ofNat 64 (2 ^ j - 1)).toNat = (k % 2 ^ 64).toNat % 2 ^ j := by
    rw [BitVec.toNat_and, BitVec.toNat_ofNat, BitVec.toNat_ofInt, Nat.mod_eq_of_lt (a := 2 ^ j - 1) (by omega), Nat.and_two_pow_sub_one_eq_mod]
    rfl
  have h2 : (((k % 2 ^ 64).toNat % 2 ^ j : Nat) : Int) = k % ((2 ^ j : Nat) : Int) := by
    rw [Int.natCast_emod, Int.toNat_of_nonneg (by omega)]
    refine Int.emod_emod_of_dvd k ?_
    refine ⟨((2 ^ (64 - j) : Nat) : Int), ?_⟩
    rw [← Int.natCast_mul, ← Nat.pow_add, show j + (64 - j) = 64 by omega]
    rfl
  have h3 : 0 ≤ k % ((2 ^ j : Nat) : Int) := Int.emod_nonneg _ (by have := Nat.two_pow_pos j; omega)
  have h4 : k % ((2 ^ j : Nat) : Int) < ((2 ^ j : Nat) : Int) := Int.emod_lt_of_pos _ (by have := Nat.two_pow_pos j; omega)
  simp only [IntKind.bits]
  show IntKind.i64.wrap (((BitVec.ofInt 64 k &&& BitVec.ofInt 64 ((2 ^ j - 1 : Nat) : Int)).toNat : Nat) : Int) = _
  rw [show BitVec.ofInt 64 ((2 ^ j - 1 : Nat) : Int) = BitVec.ofNat 64 (2 ^ j - 1) from BitVec.ofInt_natCast .., h1, h2]
  generalize k % ((2 ^ j : Nat) : Int) = r at *
  simp [IntKind.wrap, IntKind.bits, IntKind.signed]
  omega
theorem i64_and3 (k : Int) : bits .and .i64 k 3 = k % 4 := i64_and_mask k 2 (by omega)
theorem i64_and16 (k : Int) : bits .and .i64 k 65535 = k % 65536 := i64_and_mask k 16 (by omega)
theorem u32_and16 (x : Nat) (h : x < 4294967296) : bits .and .u32 (x : Int) 65535 = ((x % 65536 : Nat) : Int) := by
  have e := u32_and_nat x 65535 h (by omega)
  have e2 : x &&& 65535 = x % 2 ^ 16 := Nat.and_two_pow_sub_one_eq_mod x 16
  rw [e2] at e
  exact e
end Go.Proofs.Ytegaiphhoinilaa
namespace Go.Proofs.Ytegaiphhoinilaa
open Go Go.RowKit

/-- may k bytes be taken -/
def okT (n p : Nat) (bad : Bool) (k : Int) : Bool := !bad && decide (0 ≤ k ∧ k ≤ ((n - p : Nat) : Int))
def tkB (bs : List UInt8) (p : Nat) (bad : Bool) (k : Int) : List UInt8 := if okT bs.length p bad k then (bs.drop p).take k.toNat else []
def tkP (n p : Nat) (bad : Bool) (k : Int) : Nat := if okT n p bad k then p + k.toNat else p
def tkN (bs : List UInt8) (p : Nat) (bad : Bool) (k : Nat) : Nat := if okT bs.length p bad (k : Int) then leT (bsN bs) k p else 0
/-- the low bytes of a number, the lowest first -/
def leB (m : Nat) (x : Nat) : List UInt8 := (List.range m).map fun j => UInt8.ofNat (x / 256 ^ j)
theorem tkP_le {n p : Nat} (bad : Bool) (k : Int) (h : p ≤ n) : tkP n p bad k ≤ n := by
  unfold tkP
  by_cases hk : okT n p bad k = true
  · rw [if_pos hk]
    unfold okT at hk
    simp only [Bool.and_eq_true, decide_eq_true_eq] at hk
    omega
  · rw [if_neg hk]; exact h
/-- nothing below B, and nothing in block m, has changed -/
structure Kp (B m : Nat) (w w' : World) : Prop where
  below : Below B w w'
  same : w'.heap[m]? = w.heap[m]?
  size : w.heap.size ≤ w'.heap.size
abbrev curAt (g : Nat) : Value := .pointer (some ⟨g, 0, none⟩)
section
variable {Is : World → Nat → Nat → Nat → List UInt8 → Nat → Bool → Prop}
end
end Go.Proofs.Ytegaiphhoinilaa
namespace Go.Proofs.Ytegaiphhoinilaa
open Go Go.RowKit

theorem tkB_no {bs : List UInt8} {p : Nat} {bad : Bool} {k : Int} (h : okT bs.length p bad k = false) : tkB bs p bad k = [] ∧ tkP bs.length p bad k = p := by
  unfold tkB tkP
  rw [h]
  exact ⟨rfl, rfl⟩
theorem midO_block (A : Addr) (c p : Nat) : (midO A c p).block = A.block := by
  unfold midO
  split
  · rfl
  · unfold Addr.add; split <;> rfl
theorem leT_nil (bs : List UInt8) (k p : Nat) (h : k = 0) : leT (bsN bs) k p = 0 := by subst h; rfl
end Go.Proofs.Ytegaiphhoinilaa
namespace Go.Proofs.Ytegaiphhoinilaa
open Go Go.RowKit

theorem ret_bool {a b : Bool} (h : a = b) : Ending.returned (.bool a) = Ending.returned (.bool b) := by rw [h]
/-- the cells of a cursor -/
def curB (A : Option Addr) (n c : Nat) (bad : Bool) : Array Value := #[.slice A n c, .bool bad]
set_option maxRecDepth 100000 in
set_option maxHeartbeats 1000000 in
theorem pbad_any (A : Option Addr) (n c : Nat) (bad : Bool) (g : Nat) (w : World) (hG : Has w g 104 (curB A n c bad)) :
    Calls Try.prog 66 #[curAt g] w fun e w' => e = .returned (.bool bad) ∧ w = w' := by
  have hc1 : w.cell? ⟨g, 1, none⟩ = some (.bool bad) := hG.cell 1
  go_enter Try.func66, Try.ntmps66
  go_wp2_with fail
  go_ret
  exact ⟨rfl, rfl⟩
set_option maxRecDepth 100000 in
set_option maxHeartbeats 1000000 in
theorem pbad_nil (w : World) :
    Calls Try.prog 66 #[.pointer none] w fun e w' => e = .returned (.bool true) ∧ w = w' := by
  go_enter Try.func66, Try.ntmps66
  go_wp2_with fail
  go_ret
  exact ⟨rfl, rfl⟩
set_option maxRecDepth 100000 in
set_option maxHeartbeats 1000000 in
theorem pend2_any (a n : Nat) (w : World) (ha : a < 4294967296) (hn : n < 4294967296) :
    Calls Try.prog 63 #[.int .u32 (a : Int), .int .u32 (n : Int)] w fun e w' => e = .returned (.int .u64 ((a : Int) + (n : Int))) ∧ w = w' := by
  go_enter Try.func63, Try.ntmps63
  go_wp2_with fail
  go_ret
  exact ⟨rfl, rfl⟩
set_option maxRecDepth 100000 in
set_option maxHeartbeats 1000000 in
theorem pwithin_any (a n b m : Nat) (w : World) (ha : a < 4294967296) (hn : n < 4294967296) (hb : b < 4294967296) (hm : m < 4294967296) :
    Calls Try.prog 49 #[.int .u32 (a : Int), .int .u32 (n : Int), .int .u32 (b : Int), .int .u32 (m : Int)] w fun e w' => e = .returned (.bool (inB a n b m)) ∧ w = w' := by
  by_cases h1 : (b : Int) ≤ (a : Int)
  · by_cases h2 : (a : Int) + (n : Int) ≤ (b : Int) + (m : Int)
    · have hr : inB a n b m = true := decide_eq_true (by omega)
      rw [hr]
      go_enter Try.func49, Try.ntmps49
      go_wp2_with (refine (pend2_any _ _ _ (by omega) (by omega)).mono ?_; rintro e w' ⟨rfl, rfl⟩)
      go_ret
      exact ⟨rfl, rfl⟩
    · have hr : inB a n b m = false := decide_eq_false (by omega)
      rw [hr]
      go_enter Try.func49, Try.ntmps49
      go_wp2_with (refine (pend2_any _ _ _ (by omega) (by omega)).mono ?_; rintro e w' ⟨rfl, rfl⟩)
      go_ret
      exact ⟨ret_bool (decide_eq_false (by omega)), rfl⟩
  · have hr : inB a n b m = false := decide_eq_false (by omega)
    rw [hr]
    go_enter Try.func49, Try.ntmps49
    go_wp2_with fail
    go_ret
    exact ⟨rfl, rfl⟩
end Go.Proofs.Ytegaiphhoinilaa
namespace Go.Proofs.Ytegaiphhoinilaa
open Go Go.RowKit

def lightB : Nat → List Pay → Bool
  | _, [] => true
  | n, p :: ps => if 100 < n + (1 + p.gs.length) then false else lightB (n + (1 + p.gs.length)) ps
theorem drop_cons {α : Type} (l : List α) (d : α) (i : Nat) (h : i < l.length) : l.drop i = l.getD i d :: l.drop (i + 1) := by
  rw [List.drop_eq_getElem_cons h]
  simp [List.getD_eq_getElem?_getD, h]

end Go.Proofs.Ytegaiphhoinilaa
namespace Go.Proofs.Ytegaiphhoinilaa
open Go Go.RowKit

def fineB (g : Gr) : Bool := decide (2147487744 ≤ g.s ∧ g.s + g.z ≤ 2147549184 ∧ g.z ≠ 0 ∧ g.s % 4 = 0 ∧ g.z % 4 = 0 ∧ 1 ≤ g.r ∧ g.r ≤ 5)
end Go.Proofs.Ytegaiphhoinilaa
namespace Go.Proofs.Ytegaiphhoinilaa
open Go Go.RowKit

def gcells (gs : List Gr) : List Value := gs.flatMap fun g => [grV g 0, grV g 1, grV g 2]
theorem gcells_len : ∀ gs, (gcells gs).length = gs.length * 3
  | [] => rfl
  | g :: gs => by
    have := gcells_len gs
    simp only [gcells, List.flatMap_cons, List.length_append, List.length_cons, List.length_nil] at this ⊢
    omega
theorem gcells_app (a b : List Gr) : gcells (a ++ b) = gcells a ++ gcells b := by simp [gcells]
theorem gcells_one (g : Gr) : gcells [g] = [grV g 0, grV g 1, grV g 2] := rfl
theorem gcells_get : ∀ (gs : List Gr) (j i : Nat), j < gs.length → i < 3 → (gcells gs)[j * 3 + i]? = some (grV (gs.getD j gr0) i)
  | [], j, i, h, _ => by simp at h
  | g :: gs, 0, i, _, hi => by
    rcases (show i = 0 ∨ i = 1 ∨ i = 2 by omega) with rfl | rfl | rfl <;> rfl
  | g :: gs, j + 1, i, h, hi => by
    have e : (j + 1) * 3 + i = j * 3 + i + 3 := by omega
    have h2 := gcells_get gs j i (by simpa using h) hi
    show ([grV g 0, grV g 1, grV g 2] ++ gcells gs)[(j + 1) * 3 + i]? = _
    rw [e, List.getElem?_append_right (by simp)]
    simpa using h2
theorem own_blk {w : World} {base size n : Nat} {e : TypeId} {v : Value} {xs : List Value} (h : w.ownsRow base e size v n xs) {l : Nat} (hl : v.ownBlock = some l) : base ≤ l ∧ l < w.heap.size := by
  rcases h.2 with ⟨rfl, _⟩ | ⟨g, cap, cur, rfl, hb, hg, _⟩
  · cases hl
  · have : g = l := by simpa [Value.ownBlock] using hl
    subst this
    exact ⟨hb, (Array.getElem?_eq_some_iff.1 hg).1⟩
theorem own_has {w : World} {base size n g : Nat} {e t : TypeId} {v : Value} {xs : List Value} {cs : Array Value} (h : w.ownsRow base e size v n xs) (hG : Has w g t cs) (hte : t ≠ e) : ∀ l, v.ownBlock = some l → g ≠ l := by
  intro l hl he
  subst he
  rcases h.2 with ⟨rfl, _⟩ | ⟨g', cap, cur, rfl, hb, hg, _⟩
  · cases hl
  · have : g' = g := by simpa [Value.ownBlock] using hl
    subst this
    have h2 : w.heap[g']? = some (.cells cs t (0, 0)) := hG
    rw [h2] at hg
    injection hg with hg
    injection hg with _ e2 _
    exact hte e2
theorem has_own {w w' : World} {base size n g : Nat} {e t : TypeId} {v : Value} {xs : List Value} {cs : Array Value} (h : w.ownsRow base e size v n xs) (hG : Has w g t cs) (hte : t ≠ e) (k : w.grownBy w' v.ownBlock) : Has w' g t cs :=
  has_grown hG k (own_has h hG hte)
theorem below_own {a w w' : World} {B base size n : Nat} {e : TypeId} {v : Value} {xs : List Value} (hb : Below B a w) (h : w.ownsRow base e size v n xs) (hB : B ≤ base) (hw : B ≤ w.heap.size) (k : w.grownBy w' v.ownBlock) : Below B a w' := by
  refine hb.trans ⟨k.os, k.tape, k.output, k.size, fun i hi => k.block i (by omega) (fun he => ?_)⟩
  have := own_blk h he.symm
  omega
theorem own_after {w w' : World} {base size n : Nat} {e : TypeId} {v : Value} {xs : List Value} (h : w.ownsRow base e size v n xs) (k : Below w.heap.size w w') : w'.ownsRow base e size v n xs := by
  refine ⟨h.1, ?_⟩
  rcases h.2 with h1 | ⟨g, cap, cur, h1, hb, hg, h3⟩
  · exact .inl h1
  · exact .inr ⟨g, cap, cur, h1, hb, (k.block g (Array.getElem?_eq_some_iff.1 hg).1).trans hg, h3⟩
/-- have two grants a byte in common -/
def ovl (g h : Gr) : Bool := !apB g.s g.z h.s h.z
def pvBad : Option Gr → Gr → Bool
  | none, _ => false
  | some h, g => decide (g.s ≤ h.s)
def errG (all : List Gr) (pv : Option Gr) : List Gr → Nat
  | [] => 0
  | g :: gs => if (!fineB g || pvBad pv g) = true then 10 else if all.any (ovl g) = true then 11 else errG (all ++ [g]) (some g) gs
def badP (p : Pay) : Bool := decide (p.gs.length = 0 ∨ 4 < p.gs.length ∨ p.c < 0 ∨ 255 < p.c ∨ 32768 < p.z ∨ p.b % 4 ≠ 0)
def errP (all : List Gr) : List Pay → Nat
  | [] => 0
  | p :: ps => if badP p = true then 3 else if errG all none p.gs = 0 then errP (all ++ p.gs) ps else errG all none p.gs
def badM (m : Man) : Bool := decide (m.k < 0 ∨ 255 < m.k ∨ m.ps.length = 0 ∨ 4 < m.ps.length)
/-- the first check that fails -/
def rightM (m : Man) : Nat := if badM m = true then 3 else errP [] m.ps
end Go.Proofs.Ytegaiphhoinilaa
namespace Go.Proofs.Ytegaiphhoinilaa
open Go Go.RowKit

theorem ret_int {k : IntKind} {a b : Int} (h : a = b) : Ending.returned (.int k a) = Ending.returned (.int k b) := by rw [h]
theorem badM_ways (k : Int) (n : Nat) (h : k < 0 ∨ 255 < k ∨ n = 0 ∨ 4 < n) :
    (k < 0) ∨ (0 ≤ k ∧ 255 < k) ∨ (0 ≤ k ∧ k ≤ 255 ∧ ((n : Int) == 0) = true) ∨ (0 ≤ k ∧ k ≤ 255 ∧ ((n : Int) == 0) = false ∧ (4 : Int) < (n : Int)) := by
  simp only [beq_iff_eq, beq_eq_false_iff_ne]
  omega
theorem badP_ways (n : Nat) (c : Int) (z b : Nat) (h : n = 0 ∨ 4 < n ∨ c < 0 ∨ 255 < c ∨ 32768 < z ∨ b % 4 ≠ 0) :
    (((n : Int) == 0) = true) ∨ (((n : Int) == 0) = false ∧ (4 : Int) < (n : Int)) ∨ (((n : Int) == 0) = false ∧ (n : Int) ≤ 4 ∧ c < 0) ∨ (((n : Int) == 0) = false ∧ (n : Int) ≤ 4 ∧ 0 ≤ c ∧ 255 < c) ∨
    (((n : Int) == 0) = false ∧ (n : Int) ≤ 4 ∧ 0 ≤ c ∧ c ≤ 255 ∧ (32768 : Int) < (z : Int)) ∨ (((n : Int) == 0) = false ∧ (n : Int) ≤ 4 ∧ 0 ≤ c ∧ c ≤ 255 ∧ (z : Int) ≤ 32768 ∧ ((b : Int) % 4 != 0) = true) := by
  simp only [beq_iff_eq, beq_eq_false_iff_ne, bne_iff_ne]
  omega
theorem goodP_way (n : Nat) (c : Int) (z b : Nat) (h : ¬ (n = 0 ∨ 4 < n ∨ c < 0 ∨ 255 < c ∨ 32768 < z ∨ b % 4 ≠ 0)) :
    ((n : Int) == 0) = false ∧ (n : Int) ≤ 4 ∧ 0 ≤ c ∧ c ≤ 255 ∧ (z : Int) ≤ 32768 ∧ ((b : Int) % 4 != 0) = false := by
  simp only [beq_eq_false_iff_ne, bne_eq_false_iff_eq]
  omega
def prevAt (gs : List Gr) (k : Nat) : Option Gr := if k = 0 then none else some (gs.getD (k - 1) gr0)
end Go.Proofs.Ytegaiphhoinilaa
namespace Go.Proofs.Ytegaiphhoinilaa
open Go Go.RowKit

/-- the value is a slice that reads as these bytes -/
def RowB (w : World) (v : Value) (bs : List UInt8) : Prop :=
  ∃ A n c, v = .slice A n c ∧ SlA w A n c bs ∧ (A = none → c = 0) ∧ ∀ b o s, A = some ⟨b, o, s⟩ → 0 < n → ∃ cs fr, w.heap[b]? = some (Obj.cells cs 5 fr)
/-- what may happen beside: blocks of bytes may be marked, rows of slices written; all else stays -/
structure Kb (B : Nat) (w w' : World) : Prop where
  bel : Below B w w'
  blk : ∀ (b : Nat) (cs : Array Value) (t : TypeId) (fr : Nat × Nat), w.heap[b]? = some (Obj.cells cs t fr) → t ≠ 70 → ∃ fr', w'.heap[b]? = some (Obj.cells cs t fr') ∧ (t ≠ 5 → fr' = fr)
theorem Kb.refl (B : Nat) (w : World) : Kb B w w := ⟨Below.refl _ _, fun _ _ _ fr h _ => ⟨fr, h, fun _ => rfl⟩⟩
theorem Kb.trans {B : Nat} {a b c : World} (h : Kb B a b) (k : Kb B b c) : Kb B a c := ⟨h.bel.trans k.bel, fun i cs t fr hi ht => by
  obtain ⟨f1, h1, e1⟩ := h.blk i cs t fr hi ht
  obtain ⟨f2, h2, e2⟩ := k.blk i cs t f1 h1 ht
  exact ⟨f2, h2, fun h5 => (e2 h5).trans (e1 h5)⟩⟩
theorem Kb.of {B : Nat} {w w' : World} (h : Below w.heap.size w w') (hB : B ≤ w.heap.size) : Kb B w w' := ⟨h.mono hB, fun i _cs _t fr hi _ => ⟨fr, (h.block i (Array.getElem?_eq_some_iff.1 hi).1).trans hi, fun _ => rfl⟩⟩
theorem Kb.has {B g : Nat} {w w' : World} {t : TypeId} {cs : Array Value} (h : Kb B w w') (hG : Has w g t cs) (h1 : t ≠ 70) (h2 : t ≠ 5) : Has w' g t cs := by
  obtain ⟨f, h3, e⟩ := h.blk g cs t (0, 0) hG h1
  rw [e h2] at h3
  exact h3
theorem cell_cells {w w' : World} {b o : Nat} {cs : Array Value} {t : TypeId} {f f' : Nat × Nat} (h : w.heap[b]? = some (Obj.cells cs t f)) (h' : w'.heap[b]? = some (Obj.cells cs t f')) : w'.cell? ⟨b, o, none⟩ = w.cell? ⟨b, o, none⟩ := by
  unfold World.cell?
  dsimp only
  rw [h, h']
theorem RowB.keep {B : Nat} {w w' : World} {v : Value} {bs : List UInt8} (h : RowB w v bs) (k : Kb B w w') : RowB w' v bs := by
  obtain ⟨A, n, c, rfl, hS, hA, ht⟩ := h
  refine ⟨A, n, c, rfl, ⟨hS.1, hS.2.1, fun h0 => ?_⟩, hA, fun b o s e h0 => ?_⟩
  · obtain ⟨b, o, e, hlt, hc⟩ := hS.2.2 h0
    obtain ⟨cs, fr, hb⟩ := ht b o none e h0
    obtain ⟨f2, h2, _⟩ := k.blk b cs _ fr hb (by decide)
    exact ⟨b, o, e, Nat.lt_of_lt_of_le hlt k.bel.size, fun j hj => (cell_cells hb h2).trans (hc j hj)⟩
  · obtain ⟨cs, fr, hb⟩ := ht b o s e h0
    obtain ⟨f2, h2, _⟩ := k.blk b cs _ fr hb (by decide)
    exact ⟨cs, f2, h2⟩
theorem own_rowB {w : World} {base n : Nat} {v : Value} {bs : List UInt8} (h : w.ownsRow base 5 1 v n (bs.map by8)) : RowB w v bs := by
  obtain ⟨A, c, rfl⟩ := own_form h
  obtain ⟨hS, hA⟩ := own_slA h
  refine ⟨A, n, c, rfl, hS, hA, fun b o s e h0 => ?_⟩
  rcases h.2 with ⟨hv, _⟩ | ⟨g, cap, cur, hv, hb, hg, _⟩
  · injection hv with hv _ _
    rw [hv] at e
    cases e
  · have e1 : A = some ⟨g, 0, none⟩ := by injection hv
    rw [e1] at e
    injection e with e
    injection e with e2 _ _
    subst e2
    exact ⟨cur, (0, 0), hg⟩
theorem leB_snoc (m x : Nat) : leB (m + 1) x = leB m x ++ [UInt8.ofNat (x / 256 ^ m)] := by
  unfold leB
  rw [List.range_succ, List.map_append]
  rfl
theorem leB_len (m x : Nat) : (leB m x).length = m := by simp [leB]
theorem byte_at (x i : Nat) : Value.int .u8 ((x : Int) / 2 ^ (8 * i) % 256) = by8 (UInt8.ofNat (x / 256 ^ i)) := by
  have h256 : (256 : Nat) ^ i = 2 ^ (8 * i) := by rw [Nat.pow_mul]
  unfold by8
  rw [UInt8.toNat_ofNat', h256]
  congr 1
/-- the slice reads as these lists of bytes -/
def SlB (w : World) (s : Sl) (bss : List (List UInt8)) : Prop :=
  bss.length = s.n ∧ s.n ≤ 140737488355328 ∧ (0 < s.n → ∃ b o, s.A = some ⟨b, o, none⟩ ∧ b < w.heap.size ∧ ∀ j, j < s.n → ∃ v, w.cell? ⟨b, o + j, none⟩ = some v ∧ RowB w v (bss.getD j []))
theorem flat_take (bss : List (List UInt8)) (i : Nat) (h : i < bss.length) : (bss.take (i + 1)).flatten = (bss.take i).flatten ++ bss.getD i [] := by
  rw [List.take_add_one, List.flatten_append, List.getD_eq_getElem?_getD, List.getElem?_eq_getElem h]
  simp
theorem flat_le (bss : List (List UInt8)) (i : Nat) : (bss.take i).flatten.length ≤ bss.flatten.length := by
  conv => rhs; rw [← List.take_append_drop i bss, List.flatten_append, List.length_append]
  omega
end Go.Proofs.Ytegaiphhoinilaa
