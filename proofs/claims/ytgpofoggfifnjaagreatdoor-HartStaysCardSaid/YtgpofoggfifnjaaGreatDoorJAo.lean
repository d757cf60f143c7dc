/-
Layer 14: package alu's Goes, Width, Widen, and what its calls answer.
-/
import Derived.Test.YtgpofoggfifnjaaGreatDoorJAn
namespace Go.Proofs.YtgpofoggfifnjaaGreatDoor.Al
open Go Go.RowKit

theorem w8_is (x : Int) : IntKind.i8.wrap x = if 128 ≤ x % 256 then x % 256 - 256 else x % 256 := by
  simp [IntKind.wrap, IntKind.signed, IntKind.bits]
theorem w16_is (x : Int) : IntKind.i16.wrap x = if 32768 ≤ x % 65536 then x % 65536 - 65536 else x % 65536 := by
  simp [IntKind.wrap, IntKind.signed, IntKind.bits]
theorem wu16_is (x : Int) : IntKind.u16.wrap x = x % 65536 := by
  simp [IntKind.wrap, IntKind.signed, IntKind.bits]
set_option maxRecDepth 100000 in
set_option maxHeartbeats 4000000 in
theorem gs_5 (a b : Nat) (w : World) (_ha : a < 4294967296) (_hb : b < 4294967296) : Calls Tryz.prog 89 #[.int .i64 5, .int .u32 (a : Int), .int .u32 (b : Int)] w fun e w' => e = .returned (.tuple #[.bool (decide (a = b)), .bool true]) ∧ w = w' := by
  have hd : ((a : Int) == (b : Int)) = decide (a = b) := by rw [Bool.eq_iff_iff]; simp; omega
  generalize decide (a = b) = d at *
  go_enter Tryz.func89, Tryz.ntmps89
  go_wp2_with fail
  go_ret2
  exact ⟨rfl, rfl⟩
set_option maxRecDepth 100000 in
set_option maxHeartbeats 4000000 in
theorem gs_6 (a b : Nat) (w : World) (_ha : a < 4294967296) (_hb : b < 4294967296) : Calls Tryz.prog 89 #[.int .i64 6, .int .u32 (a : Int), .int .u32 (b : Int)] w fun e w' => e = .returned (.tuple #[.bool (decide (a ≠ b)), .bool true]) ∧ w = w' := by
  have hd : ((a : Int) != (b : Int)) = decide (a ≠ b) := by rw [Bool.eq_iff_iff]; simp; omega
  generalize decide (a ≠ b) = d at *
  go_enter Tryz.func89, Tryz.ntmps89
  go_wp2_with fail
  go_ret2
  exact ⟨rfl, rfl⟩
set_option maxRecDepth 100000 in
set_option maxHeartbeats 4000000 in
theorem gs_7 (a b : Nat) (w : World) (ha : a < 4294967296) (hb : b < 4294967296) : Calls Tryz.prog 89 #[.int .i64 7, .int .u32 (a : Int), .int .u32 (b : Int)] w fun e w' => e = .returned (.tuple #[.bool (decide (sgA a < sgA b)), .bool true]) ∧ w = w' := by
  have kl := fun W => less_any a b W ha hb
  generalize decide (sgA a < sgA b) = d at *
  go_enter Tryz.func89, Tryz.ntmps89
  go_wp2_with (first
    | (go_at_call 106; with_reducible refine ((kl _)).mono ?_; rintro e w1 ⟨rfl, rfl⟩))
  go_ret2
  exact ⟨rfl, rfl⟩
set_option maxRecDepth 100000 in
set_option maxHeartbeats 4000000 in
theorem gs_8 (a b : Nat) (w : World) (ha : a < 4294967296) (hb : b < 4294967296) : Calls Tryz.prog 89 #[.int .i64 8, .int .u32 (a : Int), .int .u32 (b : Int)] w fun e w' => e = .returned (.tuple #[.bool (decide (sgA b ≤ sgA a)), .bool true]) ∧ w = w' := by
  have kl := fun W => less_any a b W ha hb
  have hd : (!decide (sgA a < sgA b)) = decide (sgA b ≤ sgA a) := by rw [Bool.eq_iff_iff]; simp
  generalize decide (sgA a < sgA b) = c at *
  generalize decide (sgA b ≤ sgA a) = d at *
  go_enter Tryz.func89, Tryz.ntmps89
  go_wp2_with (first
    | (go_at_call 106; with_reducible refine ((kl _)).mono ?_; rintro e w1 ⟨rfl, rfl⟩))
  go_ret2
  exact ⟨rfl, rfl⟩
set_option maxRecDepth 100000 in
set_option maxHeartbeats 4000000 in
theorem gs_9 (a b : Nat) (w : World) (_ha : a < 4294967296) (_hb : b < 4294967296) : Calls Tryz.prog 89 #[.int .i64 9, .int .u32 (a : Int), .int .u32 (b : Int)] w fun e w' => e = .returned (.tuple #[.bool (decide (a < b)), .bool true]) ∧ w = w' := by
  have hd : decide ((a : Int) < (b : Int)) = decide (a < b) := by simp
  generalize hd2 : decide (a < b) = d at *
  go_enter Tryz.func89, Tryz.ntmps89
  go_wp2_with fail
  go_ret2
  exact ⟨rfl, rfl⟩
set_option maxRecDepth 100000 in
set_option maxHeartbeats 4000000 in
theorem gs_10 (a b : Nat) (w : World) (_ha : a < 4294967296) (_hb : b < 4294967296) : Calls Tryz.prog 89 #[.int .i64 10, .int .u32 (a : Int), .int .u32 (b : Int)] w fun e w' => e = .returned (.tuple #[.bool (decide (b ≤ a)), .bool true]) ∧ w = w' := by
  have hd : decide ((b : Int) ≤ (a : Int)) = decide (b ≤ a) := by simp
  generalize hd2 : decide (b ≤ a) = d at *
  go_enter Tryz.func89, Tryz.ntmps89
  go_wp2_with fail
  go_ret2
  exact ⟨rfl, rfl⟩
set_option maxRecDepth 100000 in
set_option maxHeartbeats 4000000 in
theorem gs_no (op : Int) (a b : Nat) (w : World) (h : op < 5 ∨ 10 < op) : Calls Tryz.prog 89 #[.int .i64 op, .int .u32 (a : Int), .int .u32 (b : Int)] w fun e w' => e = .returned (.tuple #[.bool false, .bool false]) ∧ w = w' := by
  have d5 : (op == 5) = false := beq_eq_false_iff_ne.2 (by omega)
  have d6 : (op == 6) = false := beq_eq_false_iff_ne.2 (by omega)
  have d7 : (op == 7) = false := beq_eq_false_iff_ne.2 (by omega)
  have d8 : (op == 8) = false := beq_eq_false_iff_ne.2 (by omega)
  have d9 : (op == 9) = false := beq_eq_false_iff_ne.2 (by omega)
  have d10 : (op == 10) = false := beq_eq_false_iff_ne.2 (by omega)
  clear h
  go_enter Tryz.func89, Tryz.ntmps89
  go_wp2_with fail
  go_ret2
  exact ⟨rfl, rfl⟩
theorem goes_is (op : Int) (a b : Nat) (w : World) (ha : a < 4294967296) (hb : b < 4294967296) : Calls Tryz.prog 89 #[.int .i64 op, .int .u32 (a : Int), .int .u32 (b : Int)] w fun e w' => e = .returned (.tuple #[.bool (goesN op a b).1, .bool (goesN op a b).2]) ∧ w = w' := by
  by_cases h5 : op = 5
  · subst h5; exact gs_5 a b w ha hb
  by_cases h6 : op = 6
  · subst h6; exact gs_6 a b w ha hb
  by_cases h7 : op = 7
  · subst h7; exact gs_7 a b w ha hb
  by_cases h8 : op = 8
  · subst h8; exact gs_8 a b w ha hb
  by_cases h9 : op = 9
  · subst h9; exact gs_9 a b w ha hb
  by_cases h10 : op = 10
  · subst h10; exact gs_10 a b w ha hb
  rw [show goesN op a b = (false, false) by unfold goesN; simp only [h5, h6, h7, h8, h9, h10, if_false]]
  exact gs_no op a b w (by omega)
set_option maxRecDepth 100000 in
set_option maxHeartbeats 4000000 in
theorem width_is (op : Int) (w : World) : Calls Tryz.prog 91 #[.int .i64 op] w fun e w' => e = .returned (.int .i64 (widthN op)) ∧ w = w' := by
  by_cases h11 : op = 11
  · subst h11
    go_enter Tryz.func91, Tryz.ntmps91
    go_wp2_with fail
    go_ret
    exact ⟨rfl, rfl⟩
  by_cases h12 : op = 12
  · subst h12
    go_enter Tryz.func91, Tryz.ntmps91
    go_wp2_with fail
    go_ret
    exact ⟨rfl, rfl⟩
  by_cases h13 : op = 13
  · subst h13
    go_enter Tryz.func91, Tryz.ntmps91
    go_wp2_with fail
    go_ret
    exact ⟨rfl, rfl⟩
  by_cases h14 : op = 14
  · subst h14
    go_enter Tryz.func91, Tryz.ntmps91
    go_wp2_with fail
    go_ret
    exact ⟨rfl, rfl⟩
  by_cases h15 : op = 15
  · subst h15
    go_enter Tryz.func91, Tryz.ntmps91
    go_wp2_with fail
    go_ret
    exact ⟨rfl, rfl⟩
  by_cases h16 : op = 16
  · subst h16
    go_enter Tryz.func91, Tryz.ntmps91
    go_wp2_with fail
    go_ret
    exact ⟨rfl, rfl⟩
  by_cases h17 : op = 17
  · subst h17
    go_enter Tryz.func91, Tryz.ntmps91
    go_wp2_with fail
    go_ret
    exact ⟨rfl, rfl⟩
  by_cases h18 : op = 18
  · subst h18
    go_enter Tryz.func91, Tryz.ntmps91
    go_wp2_with fail
    go_ret
    exact ⟨rfl, rfl⟩
  rw [show widthN op = 0 by unfold widthN; simp only [h11, h12, h13, h14, h15, h16, h17, h18, or_self, if_false]]
  have d11 : (op == 11) = false := beq_eq_false_iff_ne.2 (by omega)
  have d12 : (op == 12) = false := beq_eq_false_iff_ne.2 (by omega)
  have d13 : (op == 13) = false := beq_eq_false_iff_ne.2 (by omega)
  have d14 : (op == 14) = false := beq_eq_false_iff_ne.2 (by omega)
  have d15 : (op == 15) = false := beq_eq_false_iff_ne.2 (by omega)
  have d16 : (op == 16) = false := beq_eq_false_iff_ne.2 (by omega)
  have d17 : (op == 17) = false := beq_eq_false_iff_ne.2 (by omega)
  have d18 : (op == 18) = false := beq_eq_false_iff_ne.2 (by omega)
  clear h11 h12 h13 h14 h15 h16 h17 h18
  go_enter Tryz.func91, Tryz.ntmps91
  go_wp2_with fail
  go_ret
  exact ⟨rfl, rfl⟩
set_option maxRecDepth 100000 in
set_option maxHeartbeats 4000000 in
theorem wd_11 (x : Nat) (w : World) (_hx : x < 4294967296) : Calls Tryz.prog 107 #[.int .i64 11, .int .u32 (x : Int)] w fun e w' => e = .returned (.int .u32 ((if 128 ≤ x % 256 then x % 256 + 4294967040 else x % 256 : Nat) : Int)) ∧ w = w' := by
  have hz : IntKind.i8.wrap (x : Int) % 4294967296 = ((if 128 ≤ x % 256 then x % 256 + 4294967040 else x % 256 : Nat) : Int) := by
    rw [w8_is]
    split <;> split <;> omega
  generalize (if 128 ≤ x % 256 then x % 256 + 4294967040 else x % 256) = z at *
  go_enter Tryz.func107, Tryz.ntmps107
  go_wp2_with fail
  go_ret
  exact ⟨congrArg (fun z => Ending.returned (Value.int .u32 z)) hz, rfl⟩
set_option maxRecDepth 100000 in
set_option maxHeartbeats 4000000 in
theorem wd_12 (x : Nat) (w : World) (_hx : x < 4294967296) : Calls Tryz.prog 107 #[.int .i64 12, .int .u32 (x : Int)] w fun e w' => e = .returned (.int .u32 ((if 32768 ≤ x % 65536 then x % 65536 + 4294901760 else x % 65536 : Nat) : Int)) ∧ w = w' := by
  have hz : IntKind.i16.wrap (x : Int) % 4294967296 = ((if 32768 ≤ x % 65536 then x % 65536 + 4294901760 else x % 65536 : Nat) : Int) := by
    rw [w16_is]
    split <;> split <;> omega
  generalize (if 32768 ≤ x % 65536 then x % 65536 + 4294901760 else x % 65536) = z at *
  go_enter Tryz.func107, Tryz.ntmps107
  go_wp2_with fail
  go_ret
  exact ⟨congrArg (fun z => Ending.returned (Value.int .u32 z)) hz, rfl⟩
set_option maxRecDepth 100000 in
set_option maxHeartbeats 4000000 in
theorem wd_14 (x : Nat) (w : World) (_hx : x < 4294967296) : Calls Tryz.prog 107 #[.int .i64 14, .int .u32 (x : Int)] w fun e w' => e = .returned (.int .u32 ((x % 256 : Nat) : Int)) ∧ w = w' := by
  have hz : (x : Int) % 256 = ((x % 256 : Nat) : Int) := by omega
  have hl : x % 256 < 256 := Nat.mod_lt _ (by decide)
  generalize (x % 256) = z at *
  go_enter Tryz.func107, Tryz.ntmps107
  go_wp2_with fail
  go_ret
  exact ⟨rfl, rfl⟩
set_option maxRecDepth 100000 in
set_option maxHeartbeats 4000000 in
theorem wd_15 (x : Nat) (w : World) (_hx : x < 4294967296) : Calls Tryz.prog 107 #[.int .i64 15, .int .u32 (x : Int)] w fun e w' => e = .returned (.int .u32 ((x % 65536 : Nat) : Int)) ∧ w = w' := by
  have hz : IntKind.u16.wrap (x : Int) % 4294967296 = ((x % 65536 : Nat) : Int) := by
    rw [wu16_is]
    omega
  generalize (x % 65536) = z at *
  go_enter Tryz.func107, Tryz.ntmps107
  go_wp2_with fail
  go_ret
  exact ⟨congrArg (fun z => Ending.returned (Value.int .u32 z)) hz, rfl⟩
set_option maxRecDepth 100000 in
set_option maxHeartbeats 4000000 in
theorem wid_no (op : Int) (x : Nat) (w : World) (h11 : ¬ op = 11) (h12 : ¬ op = 12) (h14 : ¬ op = 14) (h15 : ¬ op = 15) : Calls Tryz.prog 107 #[.int .i64 op, .int .u32 (x : Int)] w fun e w' => e = .returned (.int .u32 (x : Int)) ∧ w = w' := by
  have d11 : (op == 11) = false := beq_eq_false_iff_ne.2 (by omega)
  have d12 : (op == 12) = false := beq_eq_false_iff_ne.2 (by omega)
  have d14 : (op == 14) = false := beq_eq_false_iff_ne.2 (by omega)
  have d15 : (op == 15) = false := beq_eq_false_iff_ne.2 (by omega)
  clear h11 h12 h14 h15
  go_enter Tryz.func107, Tryz.ntmps107
  go_wp2_with fail
  go_ret
  exact ⟨rfl, rfl⟩
theorem widen_is (op : Int) (x : Nat) (w : World) (hx : x < 4294967296) : Calls Tryz.prog 107 #[.int .i64 op, .int .u32 (x : Int)] w fun e w' => e = .returned (.int .u32 ((widenN op x : Nat) : Int)) ∧ w = w' := by
  by_cases h11 : op = 11
  · subst h11; exact wd_11 x w hx
  by_cases h12 : op = 12
  · subst h12; exact wd_12 x w hx
  by_cases h14 : op = 14
  · subst h14; exact wd_14 x w hx
  by_cases h15 : op = 15
  · subst h15; exact wd_15 x w hx
  rw [show widenN op x = x by unfold widenN; simp only [h11, h12, h14, h15, if_false]]
  exact wid_no op x w h11 h12 h14 h15
/-- what package alu's calls answer -/
theorem alu_ok : AluOK where
  reckon op a b w ha hb := (reckon_is op a b w ha hb).mono fun _ _ h => ⟨h.1, same_bel h.2⟩
  goes op a b w ha hb := (goes_is op a b w ha hb).mono fun _ _ h => ⟨h.1, same_bel h.2⟩
  width op w := (width_is op w).mono fun _ _ h => ⟨h.1, same_bel h.2⟩
  widen op x w hx := (widen_is op x w hx).mono fun _ _ h => ⟨h.1, same_bel h.2⟩
end Go.Proofs.YtgpofoggfifnjaaGreatDoor.Al
