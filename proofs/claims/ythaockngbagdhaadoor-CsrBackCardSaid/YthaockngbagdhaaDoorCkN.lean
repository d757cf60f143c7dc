/-
Layer 15: package csr's New.
-/
import Derived.Test.YthaockngbagdhaaDoorCkA
namespace Go.Proofs.YthaockngbagdhaaDoor.Cs
open Go Go.RowKit

def zst : St := ⟨0, fun _ => 0, fun _ => 0, 0, 0⟩
theorem zrow : (Tryd.prog.info? 43).map (fun i => (i.zero, i.size)) = some (some (.agg (tab 77 (fV zst))), 77) := by kernel_rfl
theorem zeroF (w : World) : (zeroValue 43).run Tryd.prog w = .ok (.agg (tab 77 (fV zst))) w := (zero_of_info zrow).1 w
theorem row0 : (tab 77 (fV zst)).setIfInBounds 0 (.int .i64 3) = tab 77 (fV st0) := by
  rw [tab_set]
  refine tab_ext _ _ _ fun j hj => ?_
  by_cases e : j = 0
  · subst e; rfl
  · rw [if_neg e]; unfold fV; simp only [e, if_false]; rfl
theorem inv0 : Inv st0 := ⟨st0_ok, rfl, Or.inl rfl, Or.inl rfl⟩
set_option maxRecDepth 100000 in
set_option maxHeartbeats 2000000 in
theorem cnew_any (w : World) : Calls Tryd.prog 7 #[] w fun e w' => (∃ g, e = .returned (hP g) ∧ IsF w' g st0 ∧ w.heap.size ≤ g) ∧ Below w.heap.size w w' := by
  have hz := zeroF
  have hr := row0
  have hne : tab 77 (fV zst) ≠ #[] := by
    intro h
    have := congrArg Array.size h
    rw [tab_size] at this
    exact absurd this (by decide)
  generalize tab 77 (fV zst) = Z at *
  have he : (Z = #[]) = False := eq_false hne
  have hsz : (Tryd.prog.info? 43).map (·.size) = some 77 := by kernel_rfl
  clear hne
  have HW : Has (w.alloc (.cells (tab 77 (fV st0)) 43)) w.heap.size 43 (tab 77 (fV st0)) := Has.new _ _ _
  generalize hR : tab 77 (fV st0) = R at *
  have HR := Lib.hid hR
  clear hR
  go_enter Tryd.func7, Tryd.ntmps7
  go_wp2_with fail
  go_ret
  exact ⟨⟨w.heap.size, rfl, ⟨by rw [HR.out]; exact HW, inv0⟩, Nat.le_refl _⟩, (Below.refl _ w).alloc (Nat.le_refl _) _⟩
end Go.Proofs.YthaockngbagdhaaDoor.Cs
