/-
Layer 3: the law's own fit(), over what package mont's calls do.
-/
import Derived.Test.YtodialbopochdaaMontC
namespace Go.Proofs.Ytodialbopochdaa
open Go.RowKit

theorem nw1 : (nums 0).setIfInBounds 0 (Value.int IntKind.u32 1) = nums 1 := by kernel_rfl
theorem nw2 : (nums 0).setIfInBounds 0 (Value.int IntKind.u32 2) = nums 2 := by kernel_rfl
theorem nw3 : (nums 0).setIfInBounds 0 (Value.int IntKind.u32 3) = nums 3 := by kernel_rfl
theorem nw4 : (nums 0).setIfInBounds 0 (Value.int IntKind.u32 4) = nums 4 := by kernel_rfl
theorem nw5 : (nums 0).setIfInBounds 0 (Value.int IntKind.u32 5) = nums 5 := by kernel_rfl
theorem nw7 : (nums 0).setIfInBounds 0 (Value.int IntKind.u32 7) = nums 7 := by kernel_rfl
theorem nw9 : (nums 0).setIfInBounds 0 (Value.int IntKind.u32 9) = nums 9 := by kernel_rfl
attribute [local go_sem] zeroNum nw1 nw2 nw3 nw4 nw5 nw7 nw9
set_option maxRecDepth 100000 in
set_option maxHeartbeats 1000000 in
theorem fit3_any {Is : World → Nat → Nat → Prop} (H : MontOK Is) (w : World) : Calls Try.prog 8 #[] w fun e w' => e = .returned (.bool true) ∧ Below w.heap.size w w' := by
  have c0 := H.new_ok 7 w (by decide) (by decide) (by decide +kernel)
  have c1 := fun g W (h : Is W g 7) => H.mul_ok W g 7 3 5 h (by decide +kernel) (by decide +kernel)
  have c2 := fun g W (h : Is W g 7) => H.reduce_ok W g 7 9 h (by decide +kernel)
  have c3 := fun g W (h : Is W g 7) => H.one_ok W g 7 h
  have c4 := fun g W (h : Is W g 7) => H.in_ok W g 7 4 h (by decide +kernel)
  have c5 := fun g W (h : Is W g 7) => H.out_ok W g 7 (4 * RR % 7) h (Nat.mod_lt _ (by decide))
  have e1 : 3 * 5 % 7 = 1 := by decide
  have e2 : 9 % 7 = 2 := by decide
  have e3 : RR % 7 = 2 := by decide +kernel
  have e4 : redc 7 (4 * RR % 7) = 4 := out_in 7 4 (by decide)
  rw [e4] at c5
  simp only [e1] at c1
  simp only [e2] at c2
  simp only [e3] at c3
  clear e1 e2 e3 e4
  generalize 4 * RR % 7 = x at *
  have q1 := fun W => numEql 1 W
  have hne := nums_ne 0
  go_enter Try.func8, Try.ntmps8
  go_wp2_with fail
  refine c0.mono ?_
  rintro e w1 ⟨⟨g, rfl, hI⟩, hb⟩
  clear c0
  go_wp2_with fail
  refine (c1 g _ hI).mono ?_
  rintro e w2 ⟨rfl, hx⟩
  replace hI := H.keep hI hx
  replace hb := below_trans hb hx
  clear hx c1
  go_wp2_with fail
  clear q1
  refine (c2 g _ hI).mono ?_
  rintro e w3 ⟨rfl, hx⟩
  replace hI := H.keep hI hx
  replace hb := below_trans hb hx
  clear hx c2
  have q2 := fun W => numEql 2 W
  go_wp2_with fail
  refine (c3 g _ hI).mono ?_
  rintro e w4 ⟨rfl, hx⟩
  replace hI := H.keep hI hx
  replace hb := below_trans hb hx
  clear hx c3
  go_wp2_with fail
  clear q2
  refine (c4 g _ hI).mono ?_
  rintro e w5 ⟨rfl, hx⟩
  replace hI := H.keep hI hx
  replace hb := below_trans hb hx
  clear hx c4
  go_wp2_with fail
  refine (c5 g _ hI).mono ?_
  rintro e w6 ⟨rfl, hx⟩
  replace hb := below_trans hb hx
  clear hx c5
  have q4 := fun W => numEql 4 W
  go_wp2_with fail
  go_ret
  exact ⟨rfl, hb⟩
end Go.Proofs.Ytodialbopochdaa
