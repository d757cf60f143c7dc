/-
Sorting numbers of 64 bits: a row of them in memory, what a swap makes of it; cmp.Less.
-/
import Derived.Test.YtjpmigagoedbcaaDoorRwA
import Derived.Sort.AssemblyPlain
import Derived.Sort.Row
import Derived.Laws.World
import Derived.CellFam
import Derived.BigQuiet
import Derived.BigCall
import Derived.BigGuard
import Derived.Deep.Draws
import Derived.Lib.Hide
import Derived.Deep.DeepCutAuto
namespace Go.Proofs.YtjpmigagoedbcaaDoor.Pm
open Go Go.RowKit
open Go.Sort (swp)

/-- less -/
def ltN (x y : Nat) : Bool := decide (x < y)
theorem ltN_order : Go.Sort.SWO ltN where
  irrefl x := decide_eq_false (Nat.lt_irrefl x)
  trans x y z h1 h2 := decide_eq_true (Nat.lt_trans (of_decide_eq_true h1) (of_decide_eq_true h2))
  ntrans x y z h1 h2 := decide_eq_false (by have := of_decide_eq_false h1; have := of_decide_eq_false h2; omega)
/-- the row's cells hold d; since w0 only they have turned, and what is new -/
structure RowU (w0 : World) (b o : Nat) (d : Array Nat) (w : World) : Prop where
  c : ∀ t, t < d.size → w.cell? ⟨b, o + t, none⟩ = some (.int .u64 ((d[t]! : Nat) : Int))
  f : ∀ t, t < d.size → w.frozen? ⟨b, o + t, none⟩ = false
  k : w0.grownBy w (some b)
theorem grown_refl (w : World) (r : Option Nat) : w.grownBy w r := ⟨rfl, rfl, rfl, Nat.le_refl _, fun _ _ _ => rfl⟩
theorem grown_trans {a b c : World} {r : Option Nat} (h : a.grownBy b r) (k : b.grownBy c r) : a.grownBy c r :=
  ⟨k.os.trans h.os, k.tape.trans h.tape, k.output.trans h.output, Nat.le_trans h.size k.size, fun i hi hr => (k.block i (Nat.lt_of_lt_of_le hi h.size) hr).trans (h.block i hi hr)⟩
theorem RowU.refl {w0 : World} {b o : Nat} {d : Array Nat} {w : World} (h : RowU w0 b o d w) : RowU w b o d w := ⟨h.c, h.f, grown_refl w _⟩
theorem RowU.trans {w0 w1 w2 : World} {b o : Nat} {d d' : Array Nat} (h : RowU w0 b o d w1) (k : RowU w1 b o d' w2) : RowU w0 b o d' w2 := ⟨k.c, k.f, grown_trans h.k k.k⟩
theorem RowU.drewN {w0 : World} {b o : Nat} {d : Array Nat} {w : World} (h : RowU w0 b o d w) (n : Nat) : RowU w0 b o d (w.drewN n) := ⟨h.c, h.f, ⟨h.k.os, h.k.tape, h.k.output, h.k.size, h.k.block⟩⟩
theorem swp_same2 (d : Array Nat) (i j : Nat) (hj : j < d.size) : (swp d i j)[j]! = d[i]! := Go.Sort.getElem!_set_same _ _ _ (by simpa using hj)
theorem swp_same1 (d : Array Nat) (i j : Nat) (hi : i < d.size) : (swp d i j)[i]! = d[j]! := by
  by_cases h : i = j
  · subst h; exact swp_same2 d i i hi
  · exact (Go.Sort.getElem!_set_other _ _ _ _ h).trans (Go.Sort.getElem!_set_same _ _ _ hi)
theorem swp_other (d : Array Nat) (i j t : Nat) (h1 : t ≠ i) (h2 : t ≠ j) : (swp d i j)[t]! = d[t]! :=
  (Go.Sort.getElem!_set_other _ _ _ _ h2).trans (Go.Sort.getElem!_set_other _ _ _ _ h1)
theorem size_swp' (d : Array Nat) (i j : Nat) : (swp d i j).size = d.size := by unfold swp; simp
theorem grown_setCell (w : World) (b k : Nat) (v : Value) : w.grownBy (w.setCell ⟨b, k, none⟩ v) (some b) := by
  refine ⟨rfl, rfl, rfl, by simp [World.setCell], fun i hi hr => ?_⟩
  have hne : b ≠ i := fun h => hr (by rw [h])
  simp [World.setCell, Array.getElem?_modify, hne]
/-- two cells exchanged -/
theorem RowU.swap {w0 : World} {b o : Nat} {d : Array Nat} {w : World} (h : RowU w0 b o d w) (i j : Nat) (hi : i < d.size) (hj : j < d.size) (n : Nat) :
    RowU w0 b o (swp d i j) (((w.drewN n).setCell ⟨b, o + i, none⟩ (.int .u64 ((d[j]! : Nat) : Int))).setCell ⟨b, o + j, none⟩ (.int .u64 ((d[i]! : Nat) : Int))) := by
  have h := h.drewN n
  generalize w.drewN n = w at *
  refine ⟨fun t ht => ?_, fun t ht => ?_, grown_trans h.k (grown_trans (grown_setCell _ _ _ _) (grown_setCell _ _ _ _))⟩
  · rw [size_swp'] at ht
    by_cases e2 : t = j
    · subst e2
      rw [swp_same2 d i t hj]
      by_cases e1 : i = t
      · subst e1
        exact World.cell?_setCell_same _ _ _ (World.cell?_setCell_same _ _ _ (h.c i ht))
      · refine World.cell?_setCell_same _ _ _ (u := .int .u64 ((d[t]! : Nat) : Int)) ?_
        rw [World.cell?_setCell_other _ _ _ _ (fun e => e1 (by injection e with _ e _; omega))]
        exact h.c t ht
    · rw [World.cell?_setCell_other _ _ _ _ (fun e => e2 (by injection e with _ e _; omega))]
      by_cases e1 : t = i
      · subst e1
        rw [swp_same1 d t j hi]
        exact World.cell?_setCell_same _ _ _ (h.c t ht)
      · rw [World.cell?_setCell_other _ _ _ _ (fun e => e1 (by injection e with _ e _; omega)), swp_other d i j t e1 e2]
        exact h.c t ht
  · rw [size_swp'] at ht
    rw [World.frozen?_setCell, World.frozen?_setCell]
    exact h.f t ht
set_option maxRecDepth 100000 in
set_option maxHeartbeats 1000000 in
theorem isnan_any (x : Nat) (w : World) : Calls Tryd.prog 52 #[.int .u64 (x : Int)] w fun e w' => e = .returned (.bool false) ∧ w' = w := by
  go_enter Tryd.func52, Tryd.ntmps52
  go_wp2_with fail
  go_ret
  exact ⟨by simp, rfl⟩
set_option maxRecDepth 100000 in
set_option maxHeartbeats 1000000 in
theorem less_any (x y : Nat) (w : World) : Calls Tryd.prog 42 #[.int .u64 (x : Int), .int .u64 (y : Int)] w fun e w' => e = .returned (.bool (ltN x y)) ∧ w' = w := by
  unfold ltN
  have kx := fun W => isnan_any x W
  go_enter Tryd.func42, Tryd.ntmps42
  go_wp2_with (go_at_call 52; refine (kx _).mono ?_; rintro e w' ⟨rfl, hw⟩; subst hw)
  go_ret
  exact ⟨rfl, rfl⟩
end Go.Proofs.YtjpmigagoedbcaaDoor.Pm
