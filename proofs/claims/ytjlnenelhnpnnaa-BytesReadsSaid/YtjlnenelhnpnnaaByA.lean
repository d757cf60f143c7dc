/-
Layer 6: what package bytes' calls answer; the laws' own example; a cursor that is none.
-/
import Derived.Test.YtjlnenelhnpnnaaR6C
import Derived.Test.YtjlnenelhnpnnaaIb
namespace Go.Proofs.Ytjlnenelhnpnnaa
open Go Go.RowKit

/-- may k bytes be taken -/
def okT (n p : Nat) (bad : Bool) (k : Int) : Bool := !bad && decide (0 ≤ k ∧ k ≤ ((n - p : Nat) : Int))
def tkB (bs : List UInt8) (p : Nat) (bad : Bool) (k : Int) : List UInt8 := if okT bs.length p bad k then (bs.drop p).take k.toNat else []
def tkP (n p : Nat) (bad : Bool) (k : Int) : Nat := if okT n p bad k then p + k.toNat else p
def tkN (bs : List UInt8) (p : Nat) (bad : Bool) (k : Nat) : Nat := if okT bs.length p bad (k : Int) then leT (bsN bs) k p else 0
/-- the low bytes of a number, the lowest first -/
def leB (m : Nat) (x : Nat) : List UInt8 := (List.range m).map fun j => UInt8.ofNat (x / 256 ^ j)
theorem tkP_le {n p : Nat} (bad : Bool) (k : Int) (h : p ≤ n) : tkP n p bad k ≤ n := by
  unfold tkP
  by_cases hk : okT n p bad k = true
  · rw [if_pos hk]
    unfold okT at hk
    simp only [Bool.and_eq_true, decide_eq_true_eq] at hk
    omega
  · rw [if_neg hk]; exact h
/-- nothing below B, and nothing in block m, has changed -/
structure Kp (B m : Nat) (w w' : World) : Prop where
  below : Below B w w'
  same : w'.heap[m]? = w.heap[m]?
  size : w.heap.size ≤ w'.heap.size
abbrev curAt (g : Nat) : Value := .pointer (some ⟨g, 0, none⟩)
/-- package bytes' calls do what the document says: Is w B m g bs p bad: at g there is a cursor over bs, at place p, failed or not; it writes no block below B, and has nothing to do with block m -/
structure BytesOK (Is : World → Nat → Nat → Nat → List UInt8 → Nat → Bool → Prop) : Prop where
  keep : ∀ {w w' B m g bs p bad}, Is w B m g bs p bad → w.grownBy w' (some m) → Is w' B m g bs p bad
  at_ok : ∀ (bs : List UInt8) (A : Option Addr) (n c : Nat) (w : World) (B : Nat), SlA w A n c bs → (A = none → c = 0) → B ≤ w.heap.size → bs.length ≤ 1000000 →
    Calls Try.prog 8 #[.slice A n c] w fun e w' => (∃ g, e = .returned (curAt g) ∧ ∀ m, w'.heap.size ≤ m → Is w' B m g bs 0 false) ∧ Below w.heap.size w w'
  take_ok : ∀ (bs : List UInt8) (p : Nat) (bad : Bool) (k : Int) (w : World) (B m g : Nat), Is w B m g bs p bad → p ≤ bs.length →
    Calls Try.prog 13 #[curAt g, .int .i64 k] w fun e w' => (∃ A n c, e = .returned (.slice A n c) ∧ SlA w' A n c (tkB bs p bad k) ∧ ∀ b o, A = some ⟨b, o, none⟩ → 0 < n → m ≠ b) ∧ Is w' B m g bs (tkP bs.length p bad k) (!okT bs.length p bad k) ∧ Kp B m w w'
  u8_ok : ∀ (bs : List UInt8) (p : Nat) (bad : Bool) (w : World) (B m g : Nat), Is w B m g bs p bad → p ≤ bs.length →
    Calls Try.prog 9 #[curAt g] w fun e w' => e = .returned (.int .i64 ((tkN bs p bad 1 : Nat) : Int)) ∧ Is w' B m g bs (tkP bs.length p bad 1) (!okT bs.length p bad 1) ∧ Kp B m w w'
  u16_ok : ∀ (bs : List UInt8) (p : Nat) (bad : Bool) (w : World) (B m g : Nat), Is w B m g bs p bad → p ≤ bs.length →
    Calls Try.prog 11 #[curAt g] w fun e w' => e = .returned (.int .i64 ((tkN bs p bad 2 : Nat) : Int)) ∧ Is w' B m g bs (tkP bs.length p bad 2) (!okT bs.length p bad 2) ∧ Kp B m w w'
  u32_ok : ∀ (bs : List UInt8) (p : Nat) (bad : Bool) (w : World) (B m g : Nat), Is w B m g bs p bad → p ≤ bs.length →
    Calls Try.prog 12 #[curAt g] w fun e w' => e = .returned (.int .u32 ((tkN bs p bad 4 : Nat) : Int)) ∧ Is w' B m g bs (tkP bs.length p bad 4) (!okT bs.length p bad 4) ∧ Kp B m w w'
  bad_ok : ∀ (bs : List UInt8) (p : Nat) (bad : Bool) (w : World) (B m g : Nat), Is w B m g bs p bad → p ≤ bs.length →
    Calls Try.prog 15 #[curAt g] w fun e w' => e = .returned (.bool bad) ∧ Below w.heap.size w w'
  end_ok : ∀ (bs : List UInt8) (p : Nat) (bad : Bool) (w : World) (B m g : Nat), Is w B m g bs p bad → p ≤ bs.length →
    Calls Try.prog 16 #[curAt g] w fun e w' => e = .returned (.bool (!bad && decide (p = bs.length))) ∧ Below w.heap.size w w'
  take_nil : ∀ (k : Int) (w : World), Calls Try.prog 13 #[.pointer none, .int .i64 k] w fun e w' => (∃ A c, e = .returned (.slice A 0 c)) ∧ Below w.heap.size w w'
  u8_nil : ∀ w, Calls Try.prog 9 #[.pointer none] w fun e w' => e = .returned (.int .i64 0) ∧ Below w.heap.size w w'
  u16_nil : ∀ w, Calls Try.prog 11 #[.pointer none] w fun e w' => e = .returned (.int .i64 0) ∧ Below w.heap.size w w'
  u32_nil : ∀ w, Calls Try.prog 12 #[.pointer none] w fun e w' => e = .returned (.int .u32 0) ∧ Below w.heap.size w w'
  bad_nil : ∀ w, Calls Try.prog 15 #[.pointer none] w fun e w' => e = .returned (.bool true) ∧ Below w.heap.size w w'
  end_nil : ∀ w, Calls Try.prog 16 #[.pointer none] w fun e w' => e = .returned (.bool false) ∧ Below w.heap.size w w'
  p16_ok : ∀ (bs : List UInt8) (k : Int) (v : Value) (n : Nat) (w : World) (B : Nat), w.ownsRow B 5 1 v n (bs.map by8) → B ≤ w.heap.size → n ≤ 1000000 →
    Calls Try.prog 19 #[v, .int .i64 k] w fun e w' => (∃ v', e = .returned v' ∧ w'.ownsRow B 5 1 v' (n + 2) ((bs ++ leB 2 (k % 65536).toNat).map by8)) ∧ Below B w w' ∧ w.heap.size ≤ w'.heap.size
  p32_ok : ∀ (bs : List UInt8) (x : Nat) (v : Value) (n : Nat) (w : World) (B : Nat), x < 4294967296 → w.ownsRow B 5 1 v n (bs.map by8) → B ≤ w.heap.size → n ≤ 1000000 →
    Calls Try.prog 18 #[v, .int .u32 (x : Int)] w fun e w' => (∃ v', e = .returned v' ∧ w'.ownsRow B 5 1 v' (n + 4) ((bs ++ leB 4 x).map by8)) ∧ Below B w w' ∧ w.heap.size ≤ w'.heap.size
  within_ok : ∀ (a n b m : Nat) (w : World), a < 4294967296 → n < 4294967296 → b < 4294967296 → m < 4294967296 →
    Calls Try.prog 22 #[.int .u32 (a : Int), .int .u32 (n : Int), .int .u32 (b : Int), .int .u32 (m : Int)] w fun e w' => e = .returned (.bool (inB a n b m)) ∧ Below w.heap.size w w'
  apart_ok : ∀ (a n b m : Nat) (w : World), a < 4294967296 → n < 4294967296 → b < 4294967296 → m < 4294967296 →
    Calls Try.prog 23 #[.int .u32 (a : Int), .int .u32 (n : Int), .int .u32 (b : Int), .int .u32 (m : Int)] w fun e w' => e = .returned (.bool (apB a n b m)) ∧ Below w.heap.size w w'

section
variable {Is : World → Nat → Nat → Nat → List UInt8 → Nat → Bool → Prop}
set_option maxRecDepth 100000 in
set_option maxHeartbeats 2000000 in
theorem fit6_any (H : BytesOK Is) (w : World) : Calls Try.prog 7 #[] w fun e w' => e = .returned (.bool true) ∧ Below w.heap.size w w' := by
  have hb0 := Below.refl w.heap.size w
  go_enter Try.func7, Try.ntmps7
  go_wp2_with fail
  have hx := (Below.refl w.heap.size w).alloc (Nat.le_refl _) (.cells #[.int .u8 1, .int .u8 2, .int .u8 3] 5)
  have hS : SlA (w.alloc (.cells #[.int .u8 1, .int .u8 2, .int .u8 3] 5)) (some ⟨w.heap.size, 0, none⟩) 3 3 [1, 2, 3] := by
    refine ⟨rfl, Nat.le_refl _, fun _ => ⟨w.heap.size, 0, rfl, by simp, fun j hj => ?_⟩⟩
    have h := fun i => (Has.new w 5 #[.int .u8 1, .int .u8 2, .int .u8 3]).cell i
    rcases (show j = 0 ∨ j = 1 ∨ j = 2 by omega) with rfl | rfl | rfl
    · exact (h 0).trans rfl
    · exact (h 1).trans rfl
    · exact (h 2).trans rfl
  have hz : w.heap.size ≤ (w.alloc (.cells #[.int .u8 1, .int .u8 2, .int .u8 3] 5)).heap.size := by simp
  have hA := H.at_ok [1, 2, 3] _ 3 3 _ w.heap.size hS (fun h => by cases h) hz (by decide)
  refine hA.mono ?_
  rintro e u1 ⟨⟨g, rfl, hI⟩, hy⟩
  replace hI := hI _ (Nat.le_refl _)
  generalize u1.heap.size = m at *
  replace hb0 := below_trans hx hy
  clear hx hS hA hy hz
  go_wp2_with fail
  refine (H.u16_ok _ _ _ _ _ _ _ hI (by decide)).mono ?_
  rintro e u2 ⟨rfl, hI, hy⟩
  replace hb0 := hb0.trans hy.below
  rw [show tkN [1, 2, 3] 0 false 2 = 513 by decide +kernel]
  replace hI : Is u2 w.heap.size m g [1, 2, 3] 2 false := hI
  clear hy
  go_wp2_with fail
  refine (H.end_ok _ _ _ _ _ _ _ hI (by decide)).mono ?_
  rintro e u3 ⟨rfl, hy⟩
  rw [show (!false && decide (2 = ([1, 2, 3] : List UInt8).length)) = false by decide]
  replace hb0 := below_trans hb0 hy
  replace hI := H.keep hI (only_below hy _)
  clear hy
  go_wp2_with fail
  refine (H.u16_ok _ _ _ _ _ _ _ hI (by decide)).mono ?_
  rintro e u4 ⟨rfl, hI, hy⟩
  replace hb0 := hb0.trans hy.below
  rw [show tkN [1, 2, 3] 2 false 2 = 0 by decide +kernel]
  replace hI : Is u4 w.heap.size m g [1, 2, 3] 2 true := hI
  clear hy
  go_wp2_with fail
  refine (H.bad_ok _ _ _ _ _ _ _ hI (by decide)).mono ?_
  rintro e u5 ⟨rfl, hy⟩
  replace hb0 := below_trans hb0 hy
  clear hy hI
  go_wp2_with fail
  have kW := H.within_ok 1 2 1 2 u5 (by decide) (by decide) (by decide) (by decide)
  rw [show inB 1 2 1 2 = true by decide] at kW
  refine kW.mono ?_
  rintro e u6 ⟨rfl, hy⟩
  replace hb0 := below_trans hb0 hy
  clear hy kW
  go_wp2_with fail
  have kA := H.apart_ok 1 2 2 1 u6 (by decide) (by decide) (by decide) (by decide)
  rw [show apB 1 2 2 1 = false by decide] at kA
  refine kA.mono ?_
  rintro e u7 ⟨rfl, hy⟩
  replace hb0 := below_trans hb0 hy
  clear hy kA
  go_wp2_with fail
  go_ret
  exact ⟨rfl, hb0⟩
set_option maxRecDepth 100000 in
set_option maxHeartbeats 2000000 in
theorem none6_ok (H : BytesOK Is) (k : Int) (w : World) : Calls Try.prog 6 #[.int .i64 k] w fun e w' => e = .returned (.bool true) ∧ Below w.heap.size w w' := by
  have hb0 := Below.refl w.heap.size w
  go_enter Try.func6, Try.ntmps6
  go_wp2_with fail
  refine (fit6_any H _).mono ?_
  rintro e u1 ⟨rfl, hy⟩
  replace hb0 := below_trans hb0 hy
  clear hy
  go_wp2_with fail
  refine (H.take_nil _ _).mono ?_
  rintro e u2 ⟨⟨A, c, rfl⟩, hy⟩
  replace hb0 := below_trans hb0 hy
  clear hy
  go_wp2_with fail
  refine (H.u8_nil _).mono ?_
  rintro e u3 ⟨rfl, hy⟩
  replace hb0 := below_trans hb0 hy
  clear hy
  go_wp2_with fail
  refine (H.u16_nil _).mono ?_
  rintro e u4 ⟨rfl, hy⟩
  replace hb0 := below_trans hb0 hy
  clear hy
  go_wp2_with fail
  refine (H.u32_nil _).mono ?_
  rintro e u5 ⟨rfl, hy⟩
  replace hb0 := below_trans hb0 hy
  clear hy
  go_wp2_with fail
  refine (H.bad_nil _).mono ?_
  rintro e u6 ⟨rfl, hy⟩
  replace hb0 := below_trans hb0 hy
  clear hy
  go_wp2_with fail
  refine (H.end_nil _).mono ?_
  rintro e u7 ⟨rfl, hy⟩
  replace hb0 := below_trans hb0 hy
  clear hy
  go_wp2_with fail
  go_ret
  exact ⟨rfl, hb0⟩
end
end Go.Proofs.Ytjlnenelhnpnnaa
