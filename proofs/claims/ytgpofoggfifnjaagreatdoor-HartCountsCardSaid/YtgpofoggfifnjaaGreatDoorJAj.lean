/-
Layer 11: package inst's Form.
Layer 11: package inst's among, hasRd, hasRs1, hasRs2.
Layer 11: package inst's immediate, withImmediate.
Layer 11: package inst's withFields.
-/
import Derived.Test.YtgpofoggfifnjaaGreatDoorJAh
import Derived.Test.YtgpofoggfifnjaaGreatDoorJAi
import Derived.Great.BuildSlice
import Derived.Great.FillDense
namespace Go.Proofs.YtgpofoggfifnjaaGreatDoor
open Go Go.RowKit

/-- a form's number -/
def fmN : Fm → Nat
  | .U => 0
  | .J => 1
  | .I => 2
  | .B => 3
  | .S => 4
  | .R => 5
  | .T => 6
  | .N => 7
  | .F => 7
  | .C => 8
  | .Z => 9
  | .O => 10
set_option maxRecDepth 100000 in
set_option maxHeartbeats 4000000 in
theorem form_at (k : Nat) (w : World) (h1 : 1 ≤ k) (h2 : k < 57) :
    Calls Tryz.prog 72 #[.int .i64 (k : Int)] w fun e w' => e = .returned (.int .i64 ((fmN (opP k).1 : Nat) : Int)) ∧ w = w' := by
  match k, h1, h2 with
  | 1, _, _ =>
    show Calls Tryz.prog 72 #[.int .i64 1] w _
    go_enter Tryz.func72, Tryz.ntmps72
    go_wp2_with fail
    go_ret
    exact ⟨rfl, rfl⟩
  | 2, _, _ =>
    show Calls Tryz.prog 72 #[.int .i64 2] w _
    go_enter Tryz.func72, Tryz.ntmps72
    go_wp2_with fail
    go_ret
    exact ⟨rfl, rfl⟩
  | 3, _, _ =>
    show Calls Tryz.prog 72 #[.int .i64 3] w _
    go_enter Tryz.func72, Tryz.ntmps72
    go_wp2_with fail
    go_ret
    exact ⟨rfl, rfl⟩
  | 4, _, _ =>
    show Calls Tryz.prog 72 #[.int .i64 4] w _
    go_enter Tryz.func72, Tryz.ntmps72
    go_wp2_with fail
    go_ret
    exact ⟨rfl, rfl⟩
  | 5, _, _ =>
    show Calls Tryz.prog 72 #[.int .i64 5] w _
    go_enter Tryz.func72, Tryz.ntmps72
    go_wp2_with fail
    go_ret
    exact ⟨rfl, rfl⟩
  | 6, _, _ =>
    show Calls Tryz.prog 72 #[.int .i64 6] w _
    go_enter Tryz.func72, Tryz.ntmps72
    go_wp2_with fail
    go_ret
    exact ⟨rfl, rfl⟩
  | 7, _, _ =>
    show Calls Tryz.prog 72 #[.int .i64 7] w _
    go_enter Tryz.func72, Tryz.ntmps72
    go_wp2_with fail
    go_ret
    exact ⟨rfl, rfl⟩
  | 8, _, _ =>
    show Calls Tryz.prog 72 #[.int .i64 8] w _
    go_enter Tryz.func72, Tryz.ntmps72
    go_wp2_with fail
    go_ret
    exact ⟨rfl, rfl⟩
  | 9, _, _ =>
    show Calls Tryz.prog 72 #[.int .i64 9] w _
    go_enter Tryz.func72, Tryz.ntmps72
    go_wp2_with fail
    go_ret
    exact ⟨rfl, rfl⟩
  | 10, _, _ =>
    show Calls Tryz.prog 72 #[.int .i64 10] w _
    go_enter Tryz.func72, Tryz.ntmps72
    go_wp2_with fail
    go_ret
    exact ⟨rfl, rfl⟩
  | 11, _, _ =>
    show Calls Tryz.prog 72 #[.int .i64 11] w _
    go_enter Tryz.func72, Tryz.ntmps72
    go_wp2_with fail
    go_ret
    exact ⟨rfl, rfl⟩
  | 12, _, _ =>
    show Calls Tryz.prog 72 #[.int .i64 12] w _
    go_enter Tryz.func72, Tryz.ntmps72
    go_wp2_with fail
    go_ret
    exact ⟨rfl, rfl⟩
  | 13, _, _ =>
    show Calls Tryz.prog 72 #[.int .i64 13] w _
    go_enter Tryz.func72, Tryz.ntmps72
    go_wp2_with fail
    go_ret
    exact ⟨rfl, rfl⟩
  | 14, _, _ =>
    show Calls Tryz.prog 72 #[.int .i64 14] w _
    go_enter Tryz.func72, Tryz.ntmps72
    go_wp2_with fail
    go_ret
    exact ⟨rfl, rfl⟩
  | 15, _, _ =>
    show Calls Tryz.prog 72 #[.int .i64 15] w _
    go_enter Tryz.func72, Tryz.ntmps72
    go_wp2_with fail
    go_ret
    exact ⟨rfl, rfl⟩
  | 16, _, _ =>
    show Calls Tryz.prog 72 #[.int .i64 16] w _
    go_enter Tryz.func72, Tryz.ntmps72
    go_wp2_with fail
    go_ret
    exact ⟨rfl, rfl⟩
  | 17, _, _ =>
    show Calls Tryz.prog 72 #[.int .i64 17] w _
    go_enter Tryz.func72, Tryz.ntmps72
    go_wp2_with fail
    go_ret
    exact ⟨rfl, rfl⟩
  | 18, _, _ =>
    show Calls Tryz.prog 72 #[.int .i64 18] w _
    go_enter Tryz.func72, Tryz.ntmps72
    go_wp2_with fail
    go_ret
    exact ⟨rfl, rfl⟩
  | 19, _, _ =>
    show Calls Tryz.prog 72 #[.int .i64 19] w _
    go_enter Tryz.func72, Tryz.ntmps72
    go_wp2_with fail
    go_ret
    exact ⟨rfl, rfl⟩
  | 20, _, _ =>
    show Calls Tryz.prog 72 #[.int .i64 20] w _
    go_enter Tryz.func72, Tryz.ntmps72
    go_wp2_with fail
    go_ret
    exact ⟨rfl, rfl⟩
  | 21, _, _ =>
    show Calls Tryz.prog 72 #[.int .i64 21] w _
    go_enter Tryz.func72, Tryz.ntmps72
    go_wp2_with fail
    go_ret
    exact ⟨rfl, rfl⟩
  | 22, _, _ =>
    show Calls Tryz.prog 72 #[.int .i64 22] w _
    go_enter Tryz.func72, Tryz.ntmps72
    go_wp2_with fail
    go_ret
    exact ⟨rfl, rfl⟩
  | 23, _, _ =>
    show Calls Tryz.prog 72 #[.int .i64 23] w _
    go_enter Tryz.func72, Tryz.ntmps72
    go_wp2_with fail
    go_ret
    exact ⟨rfl, rfl⟩
  | 24, _, _ =>
    show Calls Tryz.prog 72 #[.int .i64 24] w _
    go_enter Tryz.func72, Tryz.ntmps72
    go_wp2_with fail
    go_ret
    exact ⟨rfl, rfl⟩
  | 25, _, _ =>
    show Calls Tryz.prog 72 #[.int .i64 25] w _
    go_enter Tryz.func72, Tryz.ntmps72
    go_wp2_with fail
    go_ret
    exact ⟨rfl, rfl⟩
  | 26, _, _ =>
    show Calls Tryz.prog 72 #[.int .i64 26] w _
    go_enter Tryz.func72, Tryz.ntmps72
    go_wp2_with fail
    go_ret
    exact ⟨rfl, rfl⟩
  | 27, _, _ =>
    show Calls Tryz.prog 72 #[.int .i64 27] w _
    go_enter Tryz.func72, Tryz.ntmps72
    go_wp2_with fail
    go_ret
    exact ⟨rfl, rfl⟩
  | 28, _, _ =>
    show Calls Tryz.prog 72 #[.int .i64 28] w _
    go_enter Tryz.func72, Tryz.ntmps72
    go_wp2_with fail
    go_ret
    exact ⟨rfl, rfl⟩
  | 29, _, _ =>
    show Calls Tryz.prog 72 #[.int .i64 29] w _
    go_enter Tryz.func72, Tryz.ntmps72
    go_wp2_with fail
    go_ret
    exact ⟨rfl, rfl⟩
  | 30, _, _ =>
    show Calls Tryz.prog 72 #[.int .i64 30] w _
    go_enter Tryz.func72, Tryz.ntmps72
    go_wp2_with fail
    go_ret
    exact ⟨rfl, rfl⟩
  | 31, _, _ =>
    show Calls Tryz.prog 72 #[.int .i64 31] w _
    go_enter Tryz.func72, Tryz.ntmps72
    go_wp2_with fail
    go_ret
    exact ⟨rfl, rfl⟩
  | 32, _, _ =>
    show Calls Tryz.prog 72 #[.int .i64 32] w _
    go_enter Tryz.func72, Tryz.ntmps72
    go_wp2_with fail
    go_ret
    exact ⟨rfl, rfl⟩
  | 33, _, _ =>
    show Calls Tryz.prog 72 #[.int .i64 33] w _
    go_enter Tryz.func72, Tryz.ntmps72
    go_wp2_with fail
    go_ret
    exact ⟨rfl, rfl⟩
  | 34, _, _ =>
    show Calls Tryz.prog 72 #[.int .i64 34] w _
    go_enter Tryz.func72, Tryz.ntmps72
    go_wp2_with fail
    go_ret
    exact ⟨rfl, rfl⟩
  | 35, _, _ =>
    show Calls Tryz.prog 72 #[.int .i64 35] w _
    go_enter Tryz.func72, Tryz.ntmps72
    go_wp2_with fail
    go_ret
    exact ⟨rfl, rfl⟩
  | 36, _, _ =>
    show Calls Tryz.prog 72 #[.int .i64 36] w _
    go_enter Tryz.func72, Tryz.ntmps72
    go_wp2_with fail
    go_ret
    exact ⟨rfl, rfl⟩
  | 37, _, _ =>
    show Calls Tryz.prog 72 #[.int .i64 37] w _
    go_enter Tryz.func72, Tryz.ntmps72
    go_wp2_with fail
    go_ret
    exact ⟨rfl, rfl⟩
  | 38, _, _ =>
    show Calls Tryz.prog 72 #[.int .i64 38] w _
    go_enter Tryz.func72, Tryz.ntmps72
    go_wp2_with fail
    go_ret
    exact ⟨rfl, rfl⟩
  | 39, _, _ =>
    show Calls Tryz.prog 72 #[.int .i64 39] w _
    go_enter Tryz.func72, Tryz.ntmps72
    go_wp2_with fail
    go_ret
    exact ⟨rfl, rfl⟩
  | 40, _, _ =>
    show Calls Tryz.prog 72 #[.int .i64 40] w _
    go_enter Tryz.func72, Tryz.ntmps72
    go_wp2_with fail
    go_ret
    exact ⟨rfl, rfl⟩
  | 41, _, _ =>
    show Calls Tryz.prog 72 #[.int .i64 41] w _
    go_enter Tryz.func72, Tryz.ntmps72
    go_wp2_with fail
    go_ret
    exact ⟨rfl, rfl⟩
  | 42, _, _ =>
    show Calls Tryz.prog 72 #[.int .i64 42] w _
    go_enter Tryz.func72, Tryz.ntmps72
    go_wp2_with fail
    go_ret
    exact ⟨rfl, rfl⟩
  | 43, _, _ =>
    show Calls Tryz.prog 72 #[.int .i64 43] w _
    go_enter Tryz.func72, Tryz.ntmps72
    go_wp2_with fail
    go_ret
    exact ⟨rfl, rfl⟩
  | 44, _, _ =>
    show Calls Tryz.prog 72 #[.int .i64 44] w _
    go_enter Tryz.func72, Tryz.ntmps72
    go_wp2_with fail
    go_ret
    exact ⟨rfl, rfl⟩
  | 45, _, _ =>
    show Calls Tryz.prog 72 #[.int .i64 45] w _
    go_enter Tryz.func72, Tryz.ntmps72
    go_wp2_with fail
    go_ret
    exact ⟨rfl, rfl⟩
  | 46, _, _ =>
    show Calls Tryz.prog 72 #[.int .i64 46] w _
    go_enter Tryz.func72, Tryz.ntmps72
    go_wp2_with fail
    go_ret
    exact ⟨rfl, rfl⟩
  | 47, _, _ =>
    show Calls Tryz.prog 72 #[.int .i64 47] w _
    go_enter Tryz.func72, Tryz.ntmps72
    go_wp2_with fail
    go_ret
    exact ⟨rfl, rfl⟩
  | 48, _, _ =>
    show Calls Tryz.prog 72 #[.int .i64 48] w _
    go_enter Tryz.func72, Tryz.ntmps72
    go_wp2_with fail
    go_ret
    exact ⟨rfl, rfl⟩
  | 49, _, _ =>
    show Calls Tryz.prog 72 #[.int .i64 49] w _
    go_enter Tryz.func72, Tryz.ntmps72
    go_wp2_with fail
    go_ret
    exact ⟨rfl, rfl⟩
  | 50, _, _ =>
    show Calls Tryz.prog 72 #[.int .i64 50] w _
    go_enter Tryz.func72, Tryz.ntmps72
    go_wp2_with fail
    go_ret
    exact ⟨rfl, rfl⟩
  | 51, _, _ =>
    show Calls Tryz.prog 72 #[.int .i64 51] w _
    go_enter Tryz.func72, Tryz.ntmps72
    go_wp2_with fail
    go_ret
    exact ⟨rfl, rfl⟩
  | 52, _, _ =>
    show Calls Tryz.prog 72 #[.int .i64 52] w _
    go_enter Tryz.func72, Tryz.ntmps72
    go_wp2_with fail
    go_ret
    exact ⟨rfl, rfl⟩
  | 53, _, _ =>
    show Calls Tryz.prog 72 #[.int .i64 53] w _
    go_enter Tryz.func72, Tryz.ntmps72
    go_wp2_with fail
    go_ret
    exact ⟨rfl, rfl⟩
  | 54, _, _ =>
    show Calls Tryz.prog 72 #[.int .i64 54] w _
    go_enter Tryz.func72, Tryz.ntmps72
    go_wp2_with fail
    go_ret
    exact ⟨rfl, rfl⟩
  | 55, _, _ =>
    show Calls Tryz.prog 72 #[.int .i64 55] w _
    go_enter Tryz.func72, Tryz.ntmps72
    go_wp2_with fail
    go_ret
    exact ⟨rfl, rfl⟩
  | 56, _, _ =>
    show Calls Tryz.prog 72 #[.int .i64 56] w _
    go_enter Tryz.func72, Tryz.ntmps72
    go_wp2_with fail
    go_ret
    exact ⟨rfl, rfl⟩
  | n + 57, _, h2 => exact absurd h2 (by omega)
set_option maxRecDepth 100000 in
set_option maxHeartbeats 4000000 in
theorem form_no (z : Int) (w : World) (h : ¬(1 ≤ z ∧ z < 57)) :
    Calls Tryz.prog 72 #[.int .i64 z] w fun e w' => e = .returned (.int .i64 (-1)) ∧ w = w' := by
  have d1 : (z == 1) = false := beq_eq_false_iff_ne.2 (by omega)
  have d2 : (z == 2) = false := beq_eq_false_iff_ne.2 (by omega)
  have d3 : (z == 3) = false := beq_eq_false_iff_ne.2 (by omega)
  have d4 : (z == 4) = false := beq_eq_false_iff_ne.2 (by omega)
  have d5 : (z == 5) = false := beq_eq_false_iff_ne.2 (by omega)
  have d6 : (z == 6) = false := beq_eq_false_iff_ne.2 (by omega)
  have d7 : (z == 7) = false := beq_eq_false_iff_ne.2 (by omega)
  have d8 : (z == 8) = false := beq_eq_false_iff_ne.2 (by omega)
  have d9 : (z == 9) = false := beq_eq_false_iff_ne.2 (by omega)
  have d10 : (z == 10) = false := beq_eq_false_iff_ne.2 (by omega)
  have d11 : (z == 11) = false := beq_eq_false_iff_ne.2 (by omega)
  have d12 : (z == 12) = false := beq_eq_false_iff_ne.2 (by omega)
  have d13 : (z == 13) = false := beq_eq_false_iff_ne.2 (by omega)
  have d14 : (z == 14) = false := beq_eq_false_iff_ne.2 (by omega)
  have d15 : (z == 15) = false := beq_eq_false_iff_ne.2 (by omega)
  have d16 : (z == 16) = false := beq_eq_false_iff_ne.2 (by omega)
  have d17 : (z == 17) = false := beq_eq_false_iff_ne.2 (by omega)
  have d18 : (z == 18) = false := beq_eq_false_iff_ne.2 (by omega)
  have d19 : (z == 19) = false := beq_eq_false_iff_ne.2 (by omega)
  have d20 : (z == 20) = false := beq_eq_false_iff_ne.2 (by omega)
  have d21 : (z == 21) = false := beq_eq_false_iff_ne.2 (by omega)
  have d22 : (z == 22) = false := beq_eq_false_iff_ne.2 (by omega)
  have d23 : (z == 23) = false := beq_eq_false_iff_ne.2 (by omega)
  have d24 : (z == 24) = false := beq_eq_false_iff_ne.2 (by omega)
  have d25 : (z == 25) = false := beq_eq_false_iff_ne.2 (by omega)
  have d26 : (z == 26) = false := beq_eq_false_iff_ne.2 (by omega)
  have d27 : (z == 27) = false := beq_eq_false_iff_ne.2 (by omega)
  have d28 : (z == 28) = false := beq_eq_false_iff_ne.2 (by omega)
  have d29 : (z == 29) = false := beq_eq_false_iff_ne.2 (by omega)
  have d30 : (z == 30) = false := beq_eq_false_iff_ne.2 (by omega)
  have d31 : (z == 31) = false := beq_eq_false_iff_ne.2 (by omega)
  have d32 : (z == 32) = false := beq_eq_false_iff_ne.2 (by omega)
  have d33 : (z == 33) = false := beq_eq_false_iff_ne.2 (by omega)
  have d34 : (z == 34) = false := beq_eq_false_iff_ne.2 (by omega)
  have d35 : (z == 35) = false := beq_eq_false_iff_ne.2 (by omega)
  have d36 : (z == 36) = false := beq_eq_false_iff_ne.2 (by omega)
  have d37 : (z == 37) = false := beq_eq_false_iff_ne.2 (by omega)
  have d38 : (z == 38) = false := beq_eq_false_iff_ne.2 (by omega)
  have d39 : (z == 39) = false := beq_eq_false_iff_ne.2 (by omega)
  have d40 : (z == 40) = false := beq_eq_false_iff_ne.2 (by omega)
  have d41 : (z == 41) = false := beq_eq_false_iff_ne.2 (by omega)
  have d42 : (z == 42) = false := beq_eq_false_iff_ne.2 (by omega)
  have d43 : (z == 43) = false := beq_eq_false_iff_ne.2 (by omega)
  have d44 : (z == 44) = false := beq_eq_false_iff_ne.2 (by omega)
  have d45 : (z == 45) = false := beq_eq_false_iff_ne.2 (by omega)
  have d46 : (z == 46) = false := beq_eq_false_iff_ne.2 (by omega)
  have d47 : (z == 47) = false := beq_eq_false_iff_ne.2 (by omega)
  have d48 : (z == 48) = false := beq_eq_false_iff_ne.2 (by omega)
  have d49 : (z == 49) = false := beq_eq_false_iff_ne.2 (by omega)
  have d50 : (z == 50) = false := beq_eq_false_iff_ne.2 (by omega)
  have d51 : (z == 51) = false := beq_eq_false_iff_ne.2 (by omega)
  have d52 : (z == 52) = false := beq_eq_false_iff_ne.2 (by omega)
  have d53 : (z == 53) = false := beq_eq_false_iff_ne.2 (by omega)
  have d54 : (z == 54) = false := beq_eq_false_iff_ne.2 (by omega)
  have d55 : (z == 55) = false := beq_eq_false_iff_ne.2 (by omega)
  have d56 : (z == 56) = false := beq_eq_false_iff_ne.2 (by omega)
  clear h
  go_enter Tryz.func72, Tryz.ntmps72
  go_wp2_with fail
  go_ret
  exact ⟨rfl, rfl⟩
end Go.Proofs.YtgpofoggfifnjaaGreatDoor
namespace Go.Proofs.YtgpofoggfifnjaaGreatDoor
open Go Go.RowKit

def amN (a b c : Int) : Nat → Int
  | 0 => a
  | 1 => b
  | _ => c
def amV (a b c : Int) (j : Nat) : Value := .int .i64 (amN a b c j)
def amB (z a b c : Int) : Bool := z == a || z == b || z == c
set_option maxRecDepth 100000 in
set_option maxHeartbeats 1000000 in
theorem among_any (z a b c : Int) (g : Nat) (w : World) (hG : Has w g 3 (tab 3 (amV a b c))) :
    Calls Tryz.prog 124 #[.int .i64 z, .slice (some ⟨g, 0, none⟩) 3 3] w fun e w' => e = .returned (.bool (amB z a b c)) ∧ w = w' := by
  go_enter Tryz.func124, Tryz.ntmps124
  go_wp2_with fail
  go_loopw [9] (fun ct wr => ∃ i : Nat, i ≤ 3 ∧ ct = .int .i64 (i : Int) ∧ (∀ j, j < i → (z == amN a b c j) = false) ∧ w = wr) (fun ct _ => (3 - (intOf ct)).toNat)
  case atStart => exact ⟨0, by omega, rfl, fun j h => by omega, rfl⟩
  case round =>
    obtain ⟨i, hi, rfl, hn, rfl⟩ := hrel
    by_cases hlt : i < 3
    · have di : (i : Int) < 3 := by omega
      have hc : w.cell? ⟨g, i, none⟩ = some (.int .i64 (amN a b c i)) := hG.cellTab i hlt
      have HN := Lib.hid hn
      clear hn
      cases hb : (z == amN a b c i) with
      | true =>
        go_wp2_with fail
        go_ret
        refine ⟨?_, rfl⟩
        have e : amB z a b c = true := by
          unfold amB
          match i, hlt, hb with
          | 0, _, hb => rw [show (z == a) = true from hb]; rfl
          | 1, _, hb => rw [show (z == b) = true from hb]; simp
          | 2, _, hb => rw [show (z == c) = true from hb]; simp
        rw [e]; rfl
      | false =>
        go_wp2_with fail
        go_roundw
        case rel => exact ⟨i + 1, by omega, by go_num, fun j hj => if h : j = i then h ▸ hb else HN.out j (by omega), trivial⟩
        case measure => simp [intOf] <;> omega
    · obtain rfl : i = 3 := by omega
      go_wp2_with fail
      go_ret
      refine ⟨?_, rfl⟩
      have e : amB z a b c = false := by
        unfold amB
        rw [show (z == a) = false from hn 0 (by omega), show (z == b) = false from hn 1 (by omega), show (z == c) = false from hn 2 (by omega)]
        rfl
      rw [e]; rfl
set_option maxRecDepth 100000 in
set_option maxHeartbeats 1000000 in
theorem hasRd_any (z : Int) (w : World) :
    Calls Tryz.prog 101 #[.int .i64 z] w fun e w' => e = .returned (.bool (!amB z 3 4 7)) ∧ Below w.heap.size w w' := by
  have hK := among_any z 3 4 7 w.heap.size (w.alloc (.cells (tab 3 (amV 3 4 7)) 3)) (Has.new _ _ _)
  rw [show tab 3 (amV 3 4 7) = #[.int .i64 3, .int .i64 4, .int .i64 7] from rfl] at hK
  generalize amB z 3 4 7 = r at *
  go_enter Tryz.func101, Tryz.ntmps101
  go_wp2_with (go_at_call 124; with_reducible refine hK.mono ?_; rintro e w2 ⟨rfl, rfl⟩)
  go_ret
  exact ⟨rfl, (Below.refl _ _).alloc (Nat.le_refl _) _⟩
set_option maxRecDepth 100000 in
set_option maxHeartbeats 1000000 in
theorem hasRs1_any (z : Int) (w : World) :
    Calls Tryz.prog 102 #[.int .i64 z] w fun e w' => e = .returned (.bool (!amB z 0 1 7)) ∧ Below w.heap.size w w' := by
  have hK := among_any z 0 1 7 w.heap.size (w.alloc (.cells (tab 3 (amV 0 1 7)) 3)) (Has.new _ _ _)
  rw [show tab 3 (amV 0 1 7) = #[.int .i64 0, .int .i64 1, .int .i64 7] from rfl] at hK
  generalize amB z 0 1 7 = r at *
  go_enter Tryz.func102, Tryz.ntmps102
  go_wp2_with (go_at_call 124; with_reducible refine hK.mono ?_; rintro e w2 ⟨rfl, rfl⟩)
  go_ret
  exact ⟨rfl, (Below.refl _ _).alloc (Nat.le_refl _) _⟩
set_option maxRecDepth 100000 in
set_option maxHeartbeats 1000000 in
theorem hasRs2_any (z : Int) (w : World) :
    Calls Tryz.prog 103 #[.int .i64 z] w fun e w' => e = .returned (.bool (amB z 3 4 5)) ∧ Below w.heap.size w w' := by
  have hK := among_any z 3 4 5 w.heap.size (w.alloc (.cells (tab 3 (amV 3 4 5)) 3)) (Has.new _ _ _)
  rw [show tab 3 (amV 3 4 5) = #[.int .i64 3, .int .i64 4, .int .i64 5] from rfl] at hK
  generalize amB z 3 4 5 = r at *
  go_enter Tryz.func103, Tryz.ntmps103
  go_wp2_with (go_at_call 124; with_reducible refine hK.mono ?_; rintro e w2 ⟨rfl, rfl⟩)
  go_ret
  exact ⟨rfl, (Below.refl _ _).alloc (Nat.le_refl _) _⟩
end Go.Proofs.YtgpofoggfifnjaaGreatDoor
namespace Go.Proofs.YtgpofoggfifnjaaGreatDoor
open Go Go.RowKit

set_option maxRecDepth 100000 in
set_option maxHeartbeats 4000000 in
theorem immediate_any (f : Fm) (hf : f ≠ .O) (x : Nat) (w : World) (hx : x < 4294967296) :
    Calls Tryz.prog 100 #[.int .u32 (x : Int), .int .i64 ((fmN f : Nat) : Int)] w fun e w' => e = .returned (.int .u32 ((immL f x : Nat) : Int)) ∧ w = w' := by
  have kU := fun W => immU_any x W hx
  have kJ := fun W => immJ_any x W hx
  have kI := fun W => immI_any x W hx
  have kB := fun W => immB_any x W hx
  have kS := fun W => immS_any x W hx
  have kT : ∀ W, Calls Tryz.prog 98 #[.int .u32 (x : Int), .int .u64 24, .int .u64 20] W fun e w' => e = .returned (.int .u32 ((immL .T x : Nat) : Int)) ∧ W = w' := fun W => part_any x 24 20 W hx (by decide) (by decide) (by decide)
  have kC : ∀ W, Calls Tryz.prog 98 #[.int .u32 (x : Int), .int .u64 31, .int .u64 20] W fun e w' => e = .returned (.int .u32 ((immL .C x : Nat) : Int)) ∧ W = w' := fun W => part_any x 31 20 W hx (by decide) (by decide) (by decide)
  cases f
  case O => exact absurd rfl hf
  all_goals (
    go_enter Tryz.func100, Tryz.ntmps100
    go_wp2_with (first
      | (go_at_call 119; with_reducible refine (kU _).mono ?_; rintro e w2 ⟨rfl, rfl⟩)
      | (go_at_call 120; with_reducible refine (kJ _).mono ?_; rintro e w2 ⟨rfl, rfl⟩)
      | (go_at_call 121; with_reducible refine (kI _).mono ?_; rintro e w2 ⟨rfl, rfl⟩)
      | (go_at_call 122; with_reducible refine (kB _).mono ?_; rintro e w2 ⟨rfl, rfl⟩)
      | (go_at_call 123; with_reducible refine (kS _).mono ?_; rintro e w2 ⟨rfl, rfl⟩)
      | (go_at_call 98; with_reducible refine (kT _).mono ?_; rintro e w2 ⟨rfl, rfl⟩)
      | (go_at_call 98; with_reducible refine (kC _).mono ?_; rintro e w2 ⟨rfl, rfl⟩))
    go_ret
    exact ⟨rfl, rfl⟩)
/-- a word with a number put, as far as it fits -/
def immF (f : Fm) (w n : Nat) : Nat :=
  match f with
  | .U => setL .U w n
  | .J => setL .J w n
  | .I | .C | .Z => setL .I w n
  | .B => setL .B w n
  | .S => setL .S w n
  | .T => withN w 24 20 n
  | _ => w
theorem immF_lt (f : Fm) (w n : Nat) (hw : w < 4294967296) : immF f w n < 4294967296 := by
  cases f <;> (unfold immF; dsimp only; first | exact hw | exact setL_lt _ _ _ hw | exact with_lt _ _ _ _ hw)
set_option maxRecDepth 100000 in
set_option maxHeartbeats 4000000 in
theorem withImmediate_any (f : Fm) (hf : f ≠ .O) (x y : Nat) (w : World) (hx : x < 4294967296) (hy : y < 4294967296) :
    Calls Tryz.prog 117 #[.int .u32 (x : Int), .int .i64 ((fmN f : Nat) : Int), .int .u32 (y : Int)] w fun e w' => e = .returned (.int .u32 ((immF f x y : Nat) : Int)) ∧ w = w' := by
  have kU := fun W => setU_any x y W hx hy
  have kJ := fun W => setJ_any x y W hx hy
  have kI := fun W => setI_any x y W hx hy
  have kB := fun W => setB_any x y W hx hy
  have kS := fun W => setS_any x y W hx hy
  have kT : ∀ W, Calls Tryz.prog 118 #[.int .u32 (x : Int), .int .u64 24, .int .u64 20, .int .u32 (y : Int)] W fun e w' => e = .returned (.int .u32 ((withN x 24 20 y : Nat) : Int)) ∧ W = w' := fun W => with_any x 24 20 y W hx (by decide) (by decide) (by decide) hy
  cases f
  case O => exact absurd rfl hf
  all_goals (
    go_enter Tryz.func117, Tryz.ntmps117
    go_wp2_with (first
      | (go_at_call 126; with_reducible refine (kU _).mono ?_; rintro e w2 ⟨rfl, rfl⟩)
      | (go_at_call 127; with_reducible refine (kJ _).mono ?_; rintro e w2 ⟨rfl, rfl⟩)
      | (go_at_call 128; with_reducible refine (kI _).mono ?_; rintro e w2 ⟨rfl, rfl⟩)
      | (go_at_call 129; with_reducible refine (kB _).mono ?_; rintro e w2 ⟨rfl, rfl⟩)
      | (go_at_call 130; with_reducible refine (kS _).mono ?_; rintro e w2 ⟨rfl, rfl⟩)
      | (go_at_call 118; with_reducible refine (kT _).mono ?_; rintro e w2 ⟨rfl, rfl⟩))
    go_ret
    exact ⟨rfl, rfl⟩)
theorem rd_is : ∀ f : Fm, f ≠ .O → (!amB (fmN f) 3 4 7) = rdB f := by intro f hf; cases f <;> first | rfl | exact absurd rfl hf
theorem r1_is : ∀ f : Fm, f ≠ .O → (!amB (fmN f) 0 1 7) = r1B f := by intro f hf; cases f <;> first | rfl | exact absurd rfl hf
theorem r2_is : ∀ f : Fm, f ≠ .O → amB (fmN f) 3 4 5 = r2B f := by intro f hf; cases f <;> first | rfl | exact absurd rfl hf
end Go.Proofs.YtgpofoggfifnjaaGreatDoor
namespace Go.Proofs.YtgpofoggfifnjaaGreatDoor
open Go Go.RowKit

/-- a word with a form's fields put, as far as they fit -/
def fldL (f : Fm) (w a b c n : Nat) : Nat :=
  let w1 := immF f w n
  let w2 := if rdB f then withN w1 11 7 a else w1
  let w3 := if r1B f then withN w2 19 15 b else w2
  if r2B f then withN w3 24 20 c else w3
theorem ite_lt {p : Prop} [Decidable p] {a b n : Nat} (ha : a < n) (hb : b < n) : (if p then a else b) < n := by split <;> assumption
theorem fldL_lt (f : Fm) (w a b c n : Nat) (hw : w < 4294967296) : fldL f w a b c n < 4294967296 := by
  unfold fldL
  have h1 := immF_lt f w n hw
  have h2 : (if rdB f then withN (immF f w n) 11 7 a else immF f w n) < 4294967296 := ite_lt (with_lt _ _ _ _ h1) h1
  dsimp only
  generalize (if rdB f = true then withN (immF f w n) 11 7 a else immF f w n) = w2 at *
  have h3 : (if r1B f then withN w2 19 15 b else w2) < 4294967296 := ite_lt (with_lt _ _ _ _ h2) h2
  generalize (if r1B f = true then withN w2 19 15 b else w2) = w3 at *
  exact ite_lt (with_lt _ _ _ _ h3) h3
/-- a register's number as a word of 32 bits -/
def u32N (a : Int) : Nat := (a % 4294967296).toNat
theorem u32N_lt (a : Int) : u32N a < 4294967296 := by unfold u32N; omega
theorem u32N_is (a : Int) : a % 4294967296 = (u32N a : Int) := by unfold u32N; omega
theorem insA_one (i a b c n : Int) : ∀ j, (insA i a b c n j).oneCell' = true
  | 0 => rfl
  | 1 => rfl
  | 2 => rfl
  | 3 => rfl
  | _ + 4 => rfl
theorem withRd_any (y z : Nat) (hz : z < 4294967296) (hy : y < 4294967296) (W : World) :
    Calls Tryz.prog 118 #[.int .u32 (y : Int), .int .u64 11, .int .u64 7, .int .u32 (z : Int)] W fun e w' => e = .returned (.int .u32 ((withN y 11 7 z : Nat) : Int)) ∧ W = w' :=
  with_any y 11 7 z W hy (by decide) (by decide) (by decide) hz
theorem withR1_any (y z : Nat) (hz : z < 4294967296) (hy : y < 4294967296) (W : World) :
    Calls Tryz.prog 118 #[.int .u32 (y : Int), .int .u64 19, .int .u64 15, .int .u32 (z : Int)] W fun e w' => e = .returned (.int .u32 ((withN y 19 15 z : Nat) : Int)) ∧ W = w' :=
  with_any y 19 15 z W hy (by decide) (by decide) (by decide) hz
theorem withR2_any (y z : Nat) (hz : z < 4294967296) (hy : y < 4294967296) (W : World) :
    Calls Tryz.prog 118 #[.int .u32 (y : Int), .int .u64 24, .int .u64 20, .int .u32 (z : Int)] W fun e w' => e = .returned (.int .u32 ((withN y 24 20 z : Nat) : Int)) ∧ W = w' :=
  with_any y 24 20 z W hy (by decide) (by decide) (by decide) hz
set_option maxRecDepth 100000 in
set_option maxHeartbeats 4000000 in
theorem withFields_any (f : Fm) (hf : f ≠ .O) (x n : Nat) (i a b c : Int) (w : World) (hx : x < 4294967296) (hn : n < 4294967296) :
    Calls Tryz.prog 99 #[.int .u32 (x : Int), .int .i64 ((fmN f : Nat) : Int), .agg (tab 5 (insA i a b c (n : Int)))] w fun e w' => e = .returned (.int .u32 ((fldL f x (u32N a) (u32N b) (u32N c) n : Nat) : Int)) ∧ Below w.heap.size w w' := by
  have kI := fun W => withImmediate_any f hf x n W hx hn
  have k1 := fun W => hasRd_any (fmN f : Nat) W
  have k2 := fun W => hasRs1_any (fmN f : Nat) W
  have k3 := fun W => hasRs2_any (fmN f : Nat) W
  rw [rd_is f hf] at k1
  rw [r1_is f hf] at k2
  rw [r2_is f hf] at k3
  have ea := u32N_is a
  have eb := u32N_is b
  have ec := u32N_is c
  have la := u32N_lt a
  have lb := u32N_lt b
  have lc := u32N_lt c
  have h1 := immF_lt f x n hx
  have h2 := with_lt (immF f x n) 11 7 (u32N a) h1
  obtain ⟨r, hr⟩ : ∃ r, r = fldL f x (u32N a) (u32N b) (u32N c) n := ⟨_, rfl⟩
  rw [← hr]
  unfold fldL at hr
  dsimp only at hr
  generalize u32N a = a' at *
  generalize u32N b = b' at *
  generalize u32N c = c' at *
  generalize immF f x n = v at *
  generalize (fmN f) = k at *
  have w1 := fun y hy => withRd_any y a' la hy
  have w2 := fun y hy => withR1_any y b' lb hy
  have w3 := fun y hy => withR2_any y c' lc hy
  have et : tab 5 (insA i a b c (n : Int)) = #[.int .i64 i, .int .i64 a, .int .i64 b, .int .i64 c, .int .u32 (n : Int)] := rfl
  rw [et]
  clear h2 et
  have hall : ∀ W', Below (w.heap.size + 1) (w.alloc (.cells #[.int .i64 i, .int .i64 a, .int .i64 b, .int .i64 c, .int .u32 (n : Int)] 115)) W' → (W'.cell? ⟨w.heap.size, 1, none⟩ = some (.int .i64 a) ∧ W'.cell? ⟨w.heap.size, 2, none⟩ = some (.int .i64 b) ∧ W'.cell? ⟨w.heap.size, 3, none⟩ = some (.int .i64 c)) ∧ Below w.heap.size w W' := fun W' hb => by
    have hB : Has W' w.heap.size 115 (tab 5 (insA i a b c (n : Int))) := (Has.new w 115 (tab 5 (insA i a b c (n : Int)))).below hb (by omega)
    exact ⟨⟨hB.cellTab 1 (by omega), hB.cellTab 2 (by omega), hB.cellTab 3 (by omega)⟩, ((Below.refl _ _).alloc (Nat.le_refl _) _).trans (hb.mono (by omega))⟩
  have hs := size_alloc1 w (.cells #[.int .i64 i, .int .i64 a, .int .i64 b, .int .i64 c, .int .u32 (n : Int)] 115)
  have HALL := Lib.hid hall
  have HS := Lib.hid hs
  clear hall hs
  generalize rdB f = d1 at *
  generalize r1B f = d2 at *
  generalize r2B f = d3 at *
  cases d1 <;> cases d2 <;> cases d3 <;> (
    simp only [Bool.false_eq_true, if_true, if_false] at hr
    subst hr
    go_enter Tryz.func99, Tryz.ntmps99
    go_wp2_with (go_at_call 117; with_reducible refine (kI _).mono ?_; rintro e w2 ⟨rfl, rfl⟩)
    refine (k1 _).mono ?_
    rintro e w5 ⟨rfl, hb5⟩
    rw [HS.out] at hb5
    obtain ⟨⟨c1, c2, c3⟩, hb⟩ := HALL.out _ hb5
    have HB5 := Lib.hid hb5
    clear hb5 c2 c3 hb
    go_wp2_with (go_at_call 118; with_reducible refine (w1 _ h1 _).mono ?_; rintro e w2 ⟨rfl, rfl⟩)
    refine (k2 _).mono ?_
    rintro e w6 ⟨rfl, hb6⟩
    replace hb6 := HB5.out.trans (hb6.mono (by rw [← HS.out]; exact HB5.out.size))
    obtain ⟨⟨_, c2, c3⟩, hb⟩ := HALL.out _ hb6
    have HB6 := Lib.hid hb6
    clear hb6 c1 c3 hb
    go_wp2_with (go_at_call 118; with_reducible refine (w2 _ (by first | exact h1 | exact with_lt _ _ _ _ h1) _).mono ?_; rintro e w2 ⟨rfl, rfl⟩)
    refine (k3 _).mono ?_
    rintro e w7 ⟨rfl, hb7⟩
    replace hb7 := HB6.out.trans (hb7.mono (by rw [← HS.out]; exact HB6.out.size))
    obtain ⟨⟨_, _, c3⟩, hb⟩ := HALL.out _ hb7
    have HB7 := Lib.hid hb
    clear hb7 hb
    go_wp2_with (go_at_call 118; with_reducible refine (w3 _ (by first | exact h1 | exact with_lt _ _ _ _ h1 | exact with_lt _ _ _ _ (with_lt _ _ _ _ h1)) _).mono ?_; rintro e w2 ⟨rfl, rfl⟩)
    go_ret
    exact ⟨rfl, HB7.out⟩)
end Go.Proofs.YtgpofoggfifnjaaGreatDoor
