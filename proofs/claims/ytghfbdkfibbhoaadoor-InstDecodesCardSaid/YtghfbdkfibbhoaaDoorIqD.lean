/-
Layer 11: package inst's Form.
-/
import Derived.Test.YtghfbdkfibbhoaaDoorIqA
namespace Go.Proofs.YtghfbdkfibbhoaaDoor
open Go Go.RowKit

/-- a form's number -/
def fmN : Fm → Nat
  | .U => 0
  | .J => 1
  | .I => 2
  | .B => 3
  | .S => 4
  | .R => 5
  | .T => 6
  | .N => 7
  | .F => 7
  | .C => 8
  | .Z => 9
  | .O => 10
set_option maxRecDepth 100000 in
set_option maxHeartbeats 4000000 in
theorem form_at (k : Nat) (w : World) (h1 : 1 ≤ k) (h2 : k < 57) :
    Calls Tryd.prog 27 #[.int .i64 (k : Int)] w fun e w' => e = .returned (.int .i64 ((fmN (opP k).1 : Nat) : Int)) ∧ w = w' := by
  match k, h1, h2 with
  | 1, _, _ =>
    show Calls Tryd.prog 27 #[.int .i64 1] w _
    go_enter Tryd.func27, Tryd.ntmps27
    go_wp2_with fail
    go_ret
    exact ⟨rfl, rfl⟩
  | 2, _, _ =>
    show Calls Tryd.prog 27 #[.int .i64 2] w _
    go_enter Tryd.func27, Tryd.ntmps27
    go_wp2_with fail
    go_ret
    exact ⟨rfl, rfl⟩
  | 3, _, _ =>
    show Calls Tryd.prog 27 #[.int .i64 3] w _
    go_enter Tryd.func27, Tryd.ntmps27
    go_wp2_with fail
    go_ret
    exact ⟨rfl, rfl⟩
  | 4, _, _ =>
    show Calls Tryd.prog 27 #[.int .i64 4] w _
    go_enter Tryd.func27, Tryd.ntmps27
    go_wp2_with fail
    go_ret
    exact ⟨rfl, rfl⟩
  | 5, _, _ =>
    show Calls Tryd.prog 27 #[.int .i64 5] w _
    go_enter Tryd.func27, Tryd.ntmps27
    go_wp2_with fail
    go_ret
    exact ⟨rfl, rfl⟩
  | 6, _, _ =>
    show Calls Tryd.prog 27 #[.int .i64 6] w _
    go_enter Tryd.func27, Tryd.ntmps27
    go_wp2_with fail
    go_ret
    exact ⟨rfl, rfl⟩
  | 7, _, _ =>
    show Calls Tryd.prog 27 #[.int .i64 7] w _
    go_enter Tryd.func27, Tryd.ntmps27
    go_wp2_with fail
    go_ret
    exact ⟨rfl, rfl⟩
  | 8, _, _ =>
    show Calls Tryd.prog 27 #[.int .i64 8] w _
    go_enter Tryd.func27, Tryd.ntmps27
    go_wp2_with fail
    go_ret
    exact ⟨rfl, rfl⟩
  | 9, _, _ =>
    show Calls Tryd.prog 27 #[.int .i64 9] w _
    go_enter Tryd.func27, Tryd.ntmps27
    go_wp2_with fail
    go_ret
    exact ⟨rfl, rfl⟩
  | 10, _, _ =>
    show Calls Tryd.prog 27 #[.int .i64 10] w _
    go_enter Tryd.func27, Tryd.ntmps27
    go_wp2_with fail
    go_ret
    exact ⟨rfl, rfl⟩
  | 11, _, _ =>
    show Calls Tryd.prog 27 #[.int .i64 11] w _
    go_enter Tryd.func27, Tryd.ntmps27
    go_wp2_with fail
    go_ret
    exact ⟨rfl, rfl⟩
  | 12, _, _ =>
    show Calls Tryd.prog 27 #[.int .i64 12] w _
    go_enter Tryd.func27, Tryd.ntmps27
    go_wp2_with fail
    go_ret
    exact ⟨rfl, rfl⟩
  | 13, _, _ =>
    show Calls Tryd.prog 27 #[.int .i64 13] w _
    go_enter Tryd.func27, Tryd.ntmps27
    go_wp2_with fail
    go_ret
    exact ⟨rfl, rfl⟩
  | 14, _, _ =>
    show Calls Tryd.prog 27 #[.int .i64 14] w _
    go_enter Tryd.func27, Tryd.ntmps27
    go_wp2_with fail
    go_ret
    exact ⟨rfl, rfl⟩
  | 15, _, _ =>
    show Calls Tryd.prog 27 #[.int .i64 15] w _
    go_enter Tryd.func27, Tryd.ntmps27
    go_wp2_with fail
    go_ret
    exact ⟨rfl, rfl⟩
  | 16, _, _ =>
    show Calls Tryd.prog 27 #[.int .i64 16] w _
    go_enter Tryd.func27, Tryd.ntmps27
    go_wp2_with fail
    go_ret
    exact ⟨rfl, rfl⟩
  | 17, _, _ =>
    show Calls Tryd.prog 27 #[.int .i64 17] w _
    go_enter Tryd.func27, Tryd.ntmps27
    go_wp2_with fail
    go_ret
    exact ⟨rfl, rfl⟩
  | 18, _, _ =>
    show Calls Tryd.prog 27 #[.int .i64 18] w _
    go_enter Tryd.func27, Tryd.ntmps27
    go_wp2_with fail
    go_ret
    exact ⟨rfl, rfl⟩
  | 19, _, _ =>
    show Calls Tryd.prog 27 #[.int .i64 19] w _
    go_enter Tryd.func27, Tryd.ntmps27
    go_wp2_with fail
    go_ret
    exact ⟨rfl, rfl⟩
  | 20, _, _ =>
    show Calls Tryd.prog 27 #[.int .i64 20] w _
    go_enter Tryd.func27, Tryd.ntmps27
    go_wp2_with fail
    go_ret
    exact ⟨rfl, rfl⟩
  | 21, _, _ =>
    show Calls Tryd.prog 27 #[.int .i64 21] w _
    go_enter Tryd.func27, Tryd.ntmps27
    go_wp2_with fail
    go_ret
    exact ⟨rfl, rfl⟩
  | 22, _, _ =>
    show Calls Tryd.prog 27 #[.int .i64 22] w _
    go_enter Tryd.func27, Tryd.ntmps27
    go_wp2_with fail
    go_ret
    exact ⟨rfl, rfl⟩
  | 23, _, _ =>
    show Calls Tryd.prog 27 #[.int .i64 23] w _
    go_enter Tryd.func27, Tryd.ntmps27
    go_wp2_with fail
    go_ret
    exact ⟨rfl, rfl⟩
  | 24, _, _ =>
    show Calls Tryd.prog 27 #[.int .i64 24] w _
    go_enter Tryd.func27, Tryd.ntmps27
    go_wp2_with fail
    go_ret
    exact ⟨rfl, rfl⟩
  | 25, _, _ =>
    show Calls Tryd.prog 27 #[.int .i64 25] w _
    go_enter Tryd.func27, Tryd.ntmps27
    go_wp2_with fail
    go_ret
    exact ⟨rfl, rfl⟩
  | 26, _, _ =>
    show Calls Tryd.prog 27 #[.int .i64 26] w _
    go_enter Tryd.func27, Tryd.ntmps27
    go_wp2_with fail
    go_ret
    exact ⟨rfl, rfl⟩
  | 27, _, _ =>
    show Calls Tryd.prog 27 #[.int .i64 27] w _
    go_enter Tryd.func27, Tryd.ntmps27
    go_wp2_with fail
    go_ret
    exact ⟨rfl, rfl⟩
  | 28, _, _ =>
    show Calls Tryd.prog 27 #[.int .i64 28] w _
    go_enter Tryd.func27, Tryd.ntmps27
    go_wp2_with fail
    go_ret
    exact ⟨rfl, rfl⟩
  | 29, _, _ =>
    show Calls Tryd.prog 27 #[.int .i64 29] w _
    go_enter Tryd.func27, Tryd.ntmps27
    go_wp2_with fail
    go_ret
    exact ⟨rfl, rfl⟩
  | 30, _, _ =>
    show Calls Tryd.prog 27 #[.int .i64 30] w _
    go_enter Tryd.func27, Tryd.ntmps27
    go_wp2_with fail
    go_ret
    exact ⟨rfl, rfl⟩
  | 31, _, _ =>
    show Calls Tryd.prog 27 #[.int .i64 31] w _
    go_enter Tryd.func27, Tryd.ntmps27
    go_wp2_with fail
    go_ret
    exact ⟨rfl, rfl⟩
  | 32, _, _ =>
    show Calls Tryd.prog 27 #[.int .i64 32] w _
    go_enter Tryd.func27, Tryd.ntmps27
    go_wp2_with fail
    go_ret
    exact ⟨rfl, rfl⟩
  | 33, _, _ =>
    show Calls Tryd.prog 27 #[.int .i64 33] w _
    go_enter Tryd.func27, Tryd.ntmps27
    go_wp2_with fail
    go_ret
    exact ⟨rfl, rfl⟩
  | 34, _, _ =>
    show Calls Tryd.prog 27 #[.int .i64 34] w _
    go_enter Tryd.func27, Tryd.ntmps27
    go_wp2_with fail
    go_ret
    exact ⟨rfl, rfl⟩
  | 35, _, _ =>
    show Calls Tryd.prog 27 #[.int .i64 35] w _
    go_enter Tryd.func27, Tryd.ntmps27
    go_wp2_with fail
    go_ret
    exact ⟨rfl, rfl⟩
  | 36, _, _ =>
    show Calls Tryd.prog 27 #[.int .i64 36] w _
    go_enter Tryd.func27, Tryd.ntmps27
    go_wp2_with fail
    go_ret
    exact ⟨rfl, rfl⟩
  | 37, _, _ =>
    show Calls Tryd.prog 27 #[.int .i64 37] w _
    go_enter Tryd.func27, Tryd.ntmps27
    go_wp2_with fail
    go_ret
    exact ⟨rfl, rfl⟩
  | 38, _, _ =>
    show Calls Tryd.prog 27 #[.int .i64 38] w _
    go_enter Tryd.func27, Tryd.ntmps27
    go_wp2_with fail
    go_ret
    exact ⟨rfl, rfl⟩
  | 39, _, _ =>
    show Calls Tryd.prog 27 #[.int .i64 39] w _
    go_enter Tryd.func27, Tryd.ntmps27
    go_wp2_with fail
    go_ret
    exact ⟨rfl, rfl⟩
  | 40, _, _ =>
    show Calls Tryd.prog 27 #[.int .i64 40] w _
    go_enter Tryd.func27, Tryd.ntmps27
    go_wp2_with fail
    go_ret
    exact ⟨rfl, rfl⟩
  | 41, _, _ =>
    show Calls Tryd.prog 27 #[.int .i64 41] w _
    go_enter Tryd.func27, Tryd.ntmps27
    go_wp2_with fail
    go_ret
    exact ⟨rfl, rfl⟩
  | 42, _, _ =>
    show Calls Tryd.prog 27 #[.int .i64 42] w _
    go_enter Tryd.func27, Tryd.ntmps27
    go_wp2_with fail
    go_ret
    exact ⟨rfl, rfl⟩
  | 43, _, _ =>
    show Calls Tryd.prog 27 #[.int .i64 43] w _
    go_enter Tryd.func27, Tryd.ntmps27
    go_wp2_with fail
    go_ret
    exact ⟨rfl, rfl⟩
  | 44, _, _ =>
    show Calls Tryd.prog 27 #[.int .i64 44] w _
    go_enter Tryd.func27, Tryd.ntmps27
    go_wp2_with fail
    go_ret
    exact ⟨rfl, rfl⟩
  | 45, _, _ =>
    show Calls Tryd.prog 27 #[.int .i64 45] w _
    go_enter Tryd.func27, Tryd.ntmps27
    go_wp2_with fail
    go_ret
    exact ⟨rfl, rfl⟩
  | 46, _, _ =>
    show Calls Tryd.prog 27 #[.int .i64 46] w _
    go_enter Tryd.func27, Tryd.ntmps27
    go_wp2_with fail
    go_ret
    exact ⟨rfl, rfl⟩
  | 47, _, _ =>
    show Calls Tryd.prog 27 #[.int .i64 47] w _
    go_enter Tryd.func27, Tryd.ntmps27
    go_wp2_with fail
    go_ret
    exact ⟨rfl, rfl⟩
  | 48, _, _ =>
    show Calls Tryd.prog 27 #[.int .i64 48] w _
    go_enter Tryd.func27, Tryd.ntmps27
    go_wp2_with fail
    go_ret
    exact ⟨rfl, rfl⟩
  | 49, _, _ =>
    show Calls Tryd.prog 27 #[.int .i64 49] w _
    go_enter Tryd.func27, Tryd.ntmps27
    go_wp2_with fail
    go_ret
    exact ⟨rfl, rfl⟩
  | 50, _, _ =>
    show Calls Tryd.prog 27 #[.int .i64 50] w _
    go_enter Tryd.func27, Tryd.ntmps27
    go_wp2_with fail
    go_ret
    exact ⟨rfl, rfl⟩
  | 51, _, _ =>
    show Calls Tryd.prog 27 #[.int .i64 51] w _
    go_enter Tryd.func27, Tryd.ntmps27
    go_wp2_with fail
    go_ret
    exact ⟨rfl, rfl⟩
  | 52, _, _ =>
    show Calls Tryd.prog 27 #[.int .i64 52] w _
    go_enter Tryd.func27, Tryd.ntmps27
    go_wp2_with fail
    go_ret
    exact ⟨rfl, rfl⟩
  | 53, _, _ =>
    show Calls Tryd.prog 27 #[.int .i64 53] w _
    go_enter Tryd.func27, Tryd.ntmps27
    go_wp2_with fail
    go_ret
    exact ⟨rfl, rfl⟩
  | 54, _, _ =>
    show Calls Tryd.prog 27 #[.int .i64 54] w _
    go_enter Tryd.func27, Tryd.ntmps27
    go_wp2_with fail
    go_ret
    exact ⟨rfl, rfl⟩
  | 55, _, _ =>
    show Calls Tryd.prog 27 #[.int .i64 55] w _
    go_enter Tryd.func27, Tryd.ntmps27
    go_wp2_with fail
    go_ret
    exact ⟨rfl, rfl⟩
  | 56, _, _ =>
    show Calls Tryd.prog 27 #[.int .i64 56] w _
    go_enter Tryd.func27, Tryd.ntmps27
    go_wp2_with fail
    go_ret
    exact ⟨rfl, rfl⟩
  | n + 57, _, h2 => exact absurd h2 (by omega)
set_option maxRecDepth 100000 in
set_option maxHeartbeats 4000000 in
theorem form_no (z : Int) (w : World) (h : ¬(1 ≤ z ∧ z < 57)) :
    Calls Tryd.prog 27 #[.int .i64 z] w fun e w' => e = .returned (.int .i64 (-1)) ∧ w = w' := by
  have d1 : (z == 1) = false := beq_eq_false_iff_ne.2 (by omega)
  have d2 : (z == 2) = false := beq_eq_false_iff_ne.2 (by omega)
  have d3 : (z == 3) = false := beq_eq_false_iff_ne.2 (by omega)
  have d4 : (z == 4) = false := beq_eq_false_iff_ne.2 (by omega)
  have d5 : (z == 5) = false := beq_eq_false_iff_ne.2 (by omega)
  have d6 : (z == 6) = false := beq_eq_false_iff_ne.2 (by omega)
  have d7 : (z == 7) = false := beq_eq_false_iff_ne.2 (by omega)
  have d8 : (z == 8) = false := beq_eq_false_iff_ne.2 (by omega)
  have d9 : (z == 9) = false := beq_eq_false_iff_ne.2 (by omega)
  have d10 : (z == 10) = false := beq_eq_false_iff_ne.2 (by omega)
  have d11 : (z == 11) = false := beq_eq_false_iff_ne.2 (by omega)
  have d12 : (z == 12) = false := beq_eq_false_iff_ne.2 (by omega)
  have d13 : (z == 13) = false := beq_eq_false_iff_ne.2 (by omega)
  have d14 : (z == 14) = false := beq_eq_false_iff_ne.2 (by omega)
  have d15 : (z == 15) = false := beq_eq_false_iff_ne.2 (by omega)
  have d16 : (z == 16) = false := beq_eq_false_iff_ne.2 (by omega)
  have d17 : (z == 17) = false := beq_eq_false_iff_ne.2 (by omega)
  have d18 : (z == 18) = false := beq_eq_false_iff_ne.2 (by omega)
  have d19 : (z == 19) = false := beq_eq_false_iff_ne.2 (by omega)
  have d20 : (z == 20) = false := beq_eq_false_iff_ne.2 (by omega)
  have d21 : (z == 21) = false := beq_eq_false_iff_ne.2 (by omega)
  have d22 : (z == 22) = false := beq_eq_false_iff_ne.2 (by omega)
  have d23 : (z == 23) = false := beq_eq_false_iff_ne.2 (by omega)
  have d24 : (z == 24) = false := beq_eq_false_iff_ne.2 (by omega)
  have d25 : (z == 25) = false := beq_eq_false_iff_ne.2 (by omega)
  have d26 : (z == 26) = false := beq_eq_false_iff_ne.2 (by omega)
  have d27 : (z == 27) = false := beq_eq_false_iff_ne.2 (by omega)
  have d28 : (z == 28) = false := beq_eq_false_iff_ne.2 (by omega)
  have d29 : (z == 29) = false := beq_eq_false_iff_ne.2 (by omega)
  have d30 : (z == 30) = false := beq_eq_false_iff_ne.2 (by omega)
  have d31 : (z == 31) = false := beq_eq_false_iff_ne.2 (by omega)
  have d32 : (z == 32) = false := beq_eq_false_iff_ne.2 (by omega)
  have d33 : (z == 33) = false := beq_eq_false_iff_ne.2 (by omega)
  have d34 : (z == 34) = false := beq_eq_false_iff_ne.2 (by omega)
  have d35 : (z == 35) = false := beq_eq_false_iff_ne.2 (by omega)
  have d36 : (z == 36) = false := beq_eq_false_iff_ne.2 (by omega)
  have d37 : (z == 37) = false := beq_eq_false_iff_ne.2 (by omega)
  have d38 : (z == 38) = false := beq_eq_false_iff_ne.2 (by omega)
  have d39 : (z == 39) = false := beq_eq_false_iff_ne.2 (by omega)
  have d40 : (z == 40) = false := beq_eq_false_iff_ne.2 (by omega)
  have d41 : (z == 41) = false := beq_eq_false_iff_ne.2 (by omega)
  have d42 : (z == 42) = false := beq_eq_false_iff_ne.2 (by omega)
  have d43 : (z == 43) = false := beq_eq_false_iff_ne.2 (by omega)
  have d44 : (z == 44) = false := beq_eq_false_iff_ne.2 (by omega)
  have d45 : (z == 45) = false := beq_eq_false_iff_ne.2 (by omega)
  have d46 : (z == 46) = false := beq_eq_false_iff_ne.2 (by omega)
  have d47 : (z == 47) = false := beq_eq_false_iff_ne.2 (by omega)
  have d48 : (z == 48) = false := beq_eq_false_iff_ne.2 (by omega)
  have d49 : (z == 49) = false := beq_eq_false_iff_ne.2 (by omega)
  have d50 : (z == 50) = false := beq_eq_false_iff_ne.2 (by omega)
  have d51 : (z == 51) = false := beq_eq_false_iff_ne.2 (by omega)
  have d52 : (z == 52) = false := beq_eq_false_iff_ne.2 (by omega)
  have d53 : (z == 53) = false := beq_eq_false_iff_ne.2 (by omega)
  have d54 : (z == 54) = false := beq_eq_false_iff_ne.2 (by omega)
  have d55 : (z == 55) = false := beq_eq_false_iff_ne.2 (by omega)
  have d56 : (z == 56) = false := beq_eq_false_iff_ne.2 (by omega)
  clear h
  go_enter Tryd.func27, Tryd.ntmps27
  go_wp2_with fail
  go_ret
  exact ⟨rfl, rfl⟩
end Go.Proofs.YtghfbdkfibbhoaaDoor
