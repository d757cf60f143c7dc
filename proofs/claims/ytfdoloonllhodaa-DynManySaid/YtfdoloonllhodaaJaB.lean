/-
The reference of layer 6: its cursor's End and Take.
The reference of layer 6: its cursor's Num.
Integers of 64 bits under a mask, and turned right.
Layer 6: what package bytes' calls answer; the laws' own example; a cursor that is none.
The reference of layer 6: its cursor's Take and Num, whatever the state.
Package bytes: its own calls' contracts.
Layer 7: has a manifest few parts; may a grant be.
Layer 7: may a grant be.
Layer 7: rows of grants that the call owns; when a manifest is valid.
Layer 7, the reference: when a manifest is valid.
Layer 6's reference: Put and Join; lists of bytes, lists of such lists.
-/
import Derived.Test.YtfdoloonllhodaaJaA
import Derived.Test.YtfdoloonllhodaaRows
import Derived.Lib.Hide
import Derived.WalkKit
import Derived.Laws.BitsAllLaws
import Derived.ArgAppend
import Derived.OwnWalk
import Derived.Great.BuildSlice
namespace Go.Proofs.Ytfdoloonllhodaa
open Go Go.RowKit

/-- the reference's cursor: bytes, place, failed -/
def curF (A : Option Addr) (n c p : Nat) (bad : Bool) (j : Nat) : Value := if j = 0 then .slice A n c else if j = 1 then .int .i64 (p : Int) else .bool bad
def curC (A : Option Addr) (n c p : Nat) (bad : Bool) : Array Value := tab 3 (curF A n c p bad)
theorem infoCur : (Try.prog.info? 91).map (·.size) = some 3 := by kernel_rfl
theorem load_bool (g j : Nat) (v : Value) (w : World) (h : w.cell? ⟨g, j, none⟩ = some v) : (Instr.loadAt 4 (.pointer (some ⟨g, j, none⟩))).run Try.prog w = .ok v w := by
  go_simp
theorem load_int (g j : Nat) (v : Value) (w : World) (h : w.cell? ⟨g, j, none⟩ = some v) : (Instr.loadAt 3 (.pointer (some ⟨g, j, none⟩))).run Try.prog w = .ok v w := by
  go_simp
theorem load_sl (g j : Nat) (v : Value) (w : World) (h : w.cell? ⟨g, j, none⟩ = some v) : (Instr.loadAt 22 (.pointer (some ⟨g, j, none⟩))).run Try.prog w = .ok v w := by
  go_simp
theorem int_eq (o1 o2 : Operand) (x y : Int) (w : World) : (do eqGuard .eql 3 o1 o2 (.int .i64 x) (.int .i64 y); binOp .eql 3 (.int .i64 x) (.int .i64 y) : Sem Value).run Try.prog w = .ok (.bool (x == y)) w := by
  go_simp
theorem int_eqT (o1 o2 : Operand) (x y : Int) (h : x = y) (w : World) : (do eqGuard .eql 3 o1 o2 (.int .i64 x) (.int .i64 y); binOp .eql 3 (.int .i64 x) (.int .i64 y) : Sem Value).run Try.prog w = .ok (.bool true) w := by
  rw [int_eq, beq_iff_eq.2 h]
theorem int_eqF (o1 o2 : Operand) (x y : Int) (h : x ≠ y) (w : World) : (do eqGuard .eql 3 o1 o2 (.int .i64 x) (.int .i64 y); binOp .eql 3 (.int .i64 x) (.int .i64 y) : Sem Value).run Try.prog w = .ok (.bool false) w := by
  rw [int_eq, beq_eq_false_iff_ne.2 h]
theorem int_lt (o1 o2 : Operand) (x y : Int) (w : World) : (do eqGuard .lss 3 o1 o2 (.int .i64 x) (.int .i64 y); binOp .lss 3 (.int .i64 x) (.int .i64 y) : Sem Value).run Try.prog w = .ok (.bool (decide (x < y))) w := by
  go_simp
theorem int_ltT (o1 o2 : Operand) (x y : Int) (h : x < y) (w : World) : (do eqGuard .lss 3 o1 o2 (.int .i64 x) (.int .i64 y); binOp .lss 3 (.int .i64 x) (.int .i64 y) : Sem Value).run Try.prog w = .ok (.bool true) w := by
  rw [int_lt, decide_eq_true h]
theorem int_ltF (o1 o2 : Operand) (x y : Int) (h : ¬ x < y) (w : World) : (do eqGuard .lss 3 o1 o2 (.int .i64 x) (.int .i64 y); binOp .lss 3 (.int .i64 x) (.int .i64 y) : Sem Value).run Try.prog w = .ok (.bool false) w := by
  rw [int_lt, decide_eq_false h]
theorem int_gt (o1 o2 : Operand) (x y : Int) (w : World) : (do eqGuard .gtr 3 o1 o2 (.int .i64 x) (.int .i64 y); binOp .gtr 3 (.int .i64 x) (.int .i64 y) : Sem Value).run Try.prog w = .ok (.bool (decide (y < x))) w := by
  go_simp
theorem int_gtT (o1 o2 : Operand) (x y : Int) (h : y < x) (w : World) : (do eqGuard .gtr 3 o1 o2 (.int .i64 x) (.int .i64 y); binOp .gtr 3 (.int .i64 x) (.int .i64 y) : Sem Value).run Try.prog w = .ok (.bool true) w := by
  rw [int_gt, decide_eq_true h]
theorem int_gtF (o1 o2 : Operand) (x y : Int) (h : ¬ y < x) (w : World) : (do eqGuard .gtr 3 o1 o2 (.int .i64 x) (.int .i64 y); binOp .gtr 3 (.int .i64 x) (.int .i64 y) : Sem Value).run Try.prog w = .ok (.bool false) w := by
  rw [int_gt, decide_eq_false h]
theorem int_subN (o1 o2 : Operand) (x y z : Nat) (h : y ≤ x) (hx : x < 9223372036854775808) (hz : x - y = z) (w : World) : (do eqGuard .sub 3 o1 o2 (.int .i64 (x : Int)) (.int .i64 (y : Int)); binOp .sub 3 (.int .i64 (x : Int)) (.int .i64 (y : Int)) : Sem Value).run Try.prog w = .ok (.int .i64 (z : Int)) w := by
  have e : (x : Int) - (y : Int) = (z : Int) := by omega
  have hw : IntKind.i64.wrap (z : Int) = (z : Int) := by simp [IntKind.wrap, IntKind.bits, IntKind.signed]; omega
  go_simp
theorem not_bool (b : Bool) (w : World) : (Op.unary .not (.bool b)).run Try.prog w = .ok (.bool (!b)) w := by
  cases b <;> go_simp
set_option maxRecDepth 100000 in
set_option maxHeartbeats 1000000 in
theorem rtake_bad (A : Option Addr) (n c p : Nat) (k : Int) (g : Nat) (w : World) (hG : Has w g 91 (curC A n c p true))  : Calls Try.prog 37 #[.pointer (some ⟨g, 0, none⟩), .int .i64 k] w fun e w' => e = .returned (.slice none 0 0) ∧ Has w' g 91 (curC A n c p true) ∧ w.grownBy w' (some g) := by
  have hl := hG.lt
  go_enter Try.func37, Try.ntmps37
  go_wp2_with fail
  refine region_quiet_tail (Below w.heap.size w) 21 (by kernel_rfl) (by kernel_rfl) (below_drewN (Below.refl _ _) 1) ?_
  simp only [List.take_succ_cons, List.take_zero, List.drop_succ_cons, List.drop_zero]
  refine WQ.out ?_
  refine WQ.lift (wpQ_move _ rfl rfl (.pointer (some ⟨g, 0, none⟩)) rfl) ?_
  simp only [Act.put, List.setIfInBounds_toArray, List.set_cons_zero, List.set_cons_succ]
  refine WQ.lift (wpQ_val rfl (.pointer (some ⟨g, 0, none⟩)) (fun w' _ => by go_simp)) ?_
  simp only [Act.put, List.setIfInBounds_toArray, List.set_cons_zero, List.set_cons_succ]
  refine WQ.lift (wpQ_val rfl (.pointer (some ⟨g, 2, none⟩)) (fun w' _ => by go_simp)) ?_
  simp only [Act.put, List.setIfInBounds_toArray, List.set_cons_zero, List.set_cons_succ]
  refine WQ.lift (wpQ_load 4 (.tmp 7) rfl rfl (.pointer (some ⟨g, 2, none⟩)) rfl (.bool true) (fun w' hC => load_bool g 2 _ w' ((hG.after hC).cellTab 2 (by omega)))) ?_
  simp only [Act.put, List.setIfInBounds_toArray, List.set_cons_zero, List.set_cons_succ]
  refine WQ.lift (wpQ_move _ rfl rfl (.bool true) rfl) ?_
  simp only [Act.put, List.setIfInBounds_toArray, List.set_cons_zero, List.set_cons_succ]
  refine WQ.skip rfl ?_
  simp only [Act.put, List.setIfInBounds_toArray, List.set_cons_zero, List.set_cons_succ]
  refine WQ.skip rfl ?_
  simp only [Act.put, List.setIfInBounds_toArray, List.set_cons_zero, List.set_cons_succ]
  refine WQ.lift (wpQ_pick _ _ _ rfl rfl true rfl (.bool true) rfl) ?_
  simp only [Act.put, List.setIfInBounds_toArray, List.set_cons_zero, List.set_cons_succ]
  refine WQ.lift (wpQ_move _ rfl rfl (.bool true) rfl) ?_
  simp only [Act.put, List.setIfInBounds_toArray, List.set_cons_zero, List.set_cons_succ]
  refine WQ.skip rfl ?_
  simp only [Act.put, List.setIfInBounds_toArray, List.set_cons_zero, List.set_cons_succ]
  refine WQ.skip rfl ?_
  simp only [Act.put, List.setIfInBounds_toArray, List.set_cons_zero, List.set_cons_succ]
  refine WQ.skip rfl ?_
  simp only [Act.put, List.setIfInBounds_toArray, List.set_cons_zero, List.set_cons_succ]
  refine WQ.skip rfl ?_
  simp only [Act.put, List.setIfInBounds_toArray, List.set_cons_zero, List.set_cons_succ]
  refine WQ.skip rfl ?_
  simp only [Act.put, List.setIfInBounds_toArray, List.set_cons_zero, List.set_cons_succ]
  refine WQ.skip rfl ?_
  simp only [Act.put, List.setIfInBounds_toArray, List.set_cons_zero, List.set_cons_succ]
  refine WQ.skip rfl ?_
  simp only [Act.put, List.setIfInBounds_toArray, List.set_cons_zero, List.set_cons_succ]
  refine WQ.skip rfl ?_
  simp only [Act.put, List.setIfInBounds_toArray, List.set_cons_zero, List.set_cons_succ]
  refine WQ.skip rfl ?_
  simp only [Act.put, List.setIfInBounds_toArray, List.set_cons_zero, List.set_cons_succ]
  refine WQ.skip rfl ?_
  simp only [Act.put, List.setIfInBounds_toArray, List.set_cons_zero, List.set_cons_succ]
  refine WQ.skip rfl ?_
  simp only [Act.put, List.setIfInBounds_toArray, List.set_cons_zero, List.set_cons_succ]
  refine WQ.skip rfl ?_
  simp only [Act.put, List.setIfInBounds_toArray, List.set_cons_zero, List.set_cons_succ]
  refine WQ.mk (wpQuiet_nil ?_)
  intro u hC
  have hG2 := hG.after hC
  have hgr := only_below hC (some g)
  have hc2 := hG2.cellTab 2 (by omega)
  have hf2 := hG2.free 2
  go_wp2_with fail
  go_ret
  refine ⟨rfl, ?_, only_trans hgr (only_setCell u g 2 (.bool true))⟩
  have h := hG2.set 2 (.bool true)
  have e : (curC A n c p true).setIfInBounds 2 (.bool true) = curC A n c p true := by unfold curC; rw [tab_set]; exact tab_ext _ _ _ fun j hj => by rcases (show j = 0 ∨ j = 1 ∨ j = 2 by omega) with rfl | rfl | rfl <;> first | rfl | simp [curF]
  rw [e] at h
  exact h
set_option maxRecDepth 100000 in
set_option maxHeartbeats 1000000 in
theorem rtake_neg (A : Option Addr) (n c p : Nat) (k : Int) (g : Nat) (w : World) (hG : Has w g 91 (curC A n c p false)) (hk : k < 0) : Calls Try.prog 37 #[.pointer (some ⟨g, 0, none⟩), .int .i64 k] w fun e w' => e = .returned (.slice none 0 0) ∧ Has w' g 91 (curC A n c p true) ∧ w.grownBy w' (some g) := by
  have hl := hG.lt
  go_enter Try.func37, Try.ntmps37
  go_wp2_with fail
  refine region_quiet_tail (Below w.heap.size w) 21 (by kernel_rfl) (by kernel_rfl) (below_drewN (Below.refl _ _) 1) ?_
  simp only [List.take_succ_cons, List.take_zero, List.drop_succ_cons, List.drop_zero]
  refine WQ.out ?_
  refine WQ.lift (wpQ_move _ rfl rfl (.pointer (some ⟨g, 0, none⟩)) rfl) ?_
  simp only [Act.put, List.setIfInBounds_toArray, List.set_cons_zero, List.set_cons_succ]
  refine WQ.lift (wpQ_val rfl (.pointer (some ⟨g, 0, none⟩)) (fun w' _ => by go_simp)) ?_
  simp only [Act.put, List.setIfInBounds_toArray, List.set_cons_zero, List.set_cons_succ]
  refine WQ.lift (wpQ_val rfl (.pointer (some ⟨g, 2, none⟩)) (fun w' _ => by go_simp)) ?_
  simp only [Act.put, List.setIfInBounds_toArray, List.set_cons_zero, List.set_cons_succ]
  refine WQ.lift (wpQ_load 4 (.tmp 7) rfl rfl (.pointer (some ⟨g, 2, none⟩)) rfl (.bool false) (fun w' hC => load_bool g 2 _ w' ((hG.after hC).cellTab 2 (by omega)))) ?_
  simp only [Act.put, List.setIfInBounds_toArray, List.set_cons_zero, List.set_cons_succ]
  refine WQ.lift (wpQ_move _ rfl rfl (.bool false) rfl) ?_
  simp only [Act.put, List.setIfInBounds_toArray, List.set_cons_zero, List.set_cons_succ]
  refine WQ.lift (wpQ_move _ rfl rfl (.int .i64 k) rfl) ?_
  simp only [Act.put, List.setIfInBounds_toArray, List.set_cons_zero, List.set_cons_succ]
  refine WQ.lift (wpQ_bin _ _ _ _ _ rfl rfl (.int .i64 k) (.int .i64 0) rfl rfl (.bool true) (fun w' _ => int_ltT _ _ _ _ hk w')) ?_
  simp only [Act.put, List.setIfInBounds_toArray, List.set_cons_zero, List.set_cons_succ]
  refine WQ.lift (wpQ_pick _ _ _ rfl rfl false rfl (.bool true) rfl) ?_
  simp only [Act.put, List.setIfInBounds_toArray, List.set_cons_zero, List.set_cons_succ]
  refine WQ.lift (wpQ_move _ rfl rfl (.bool true) rfl) ?_
  simp only [Act.put, List.setIfInBounds_toArray, List.set_cons_zero, List.set_cons_succ]
  refine WQ.skip rfl ?_
  simp only [Act.put, List.setIfInBounds_toArray, List.set_cons_zero, List.set_cons_succ]
  refine WQ.skip rfl ?_
  simp only [Act.put, List.setIfInBounds_toArray, List.set_cons_zero, List.set_cons_succ]
  refine WQ.skip rfl ?_
  simp only [Act.put, List.setIfInBounds_toArray, List.set_cons_zero, List.set_cons_succ]
  refine WQ.skip rfl ?_
  simp only [Act.put, List.setIfInBounds_toArray, List.set_cons_zero, List.set_cons_succ]
  refine WQ.skip rfl ?_
  simp only [Act.put, List.setIfInBounds_toArray, List.set_cons_zero, List.set_cons_succ]
  refine WQ.skip rfl ?_
  simp only [Act.put, List.setIfInBounds_toArray, List.set_cons_zero, List.set_cons_succ]
  refine WQ.skip rfl ?_
  simp only [Act.put, List.setIfInBounds_toArray, List.set_cons_zero, List.set_cons_succ]
  refine WQ.skip rfl ?_
  simp only [Act.put, List.setIfInBounds_toArray, List.set_cons_zero, List.set_cons_succ]
  refine WQ.skip rfl ?_
  simp only [Act.put, List.setIfInBounds_toArray, List.set_cons_zero, List.set_cons_succ]
  refine WQ.skip rfl ?_
  simp only [Act.put, List.setIfInBounds_toArray, List.set_cons_zero, List.set_cons_succ]
  refine WQ.skip rfl ?_
  simp only [Act.put, List.setIfInBounds_toArray, List.set_cons_zero, List.set_cons_succ]
  refine WQ.skip rfl ?_
  simp only [Act.put, List.setIfInBounds_toArray, List.set_cons_zero, List.set_cons_succ]
  refine WQ.mk (wpQuiet_nil ?_)
  intro u hC
  have hG2 := hG.after hC
  have hgr := only_below hC (some g)
  have hc2 := hG2.cellTab 2 (by omega)
  have hf2 := hG2.free 2
  go_wp2_with fail
  go_ret
  refine ⟨rfl, ?_, only_trans hgr (only_setCell u g 2 (.bool true))⟩
  have h := hG2.set 2 (.bool true)
  have e : (curC A n c p false).setIfInBounds 2 (.bool true) = curC A n c p true := by unfold curC; rw [tab_set]; exact tab_ext _ _ _ fun j hj => by rcases (show j = 0 ∨ j = 1 ∨ j = 2 by omega) with rfl | rfl | rfl <;> first | rfl | simp [curF]
  rw [e] at h
  exact h
set_option maxRecDepth 100000 in
set_option maxHeartbeats 1000000 in
theorem rtake_far (A : Option Addr) (n c p : Nat) (k : Int) (g : Nat) (w : World) (hG : Has w g 91 (curC A n c p false)) (hp : p ≤ n) (hn63 : n < 9223372036854775808) (hk0 : 0 ≤ k) (hk : ((n - p : Nat) : Int) < k) : Calls Try.prog 37 #[.pointer (some ⟨g, 0, none⟩), .int .i64 k] w fun e w' => e = .returned (.slice none 0 0) ∧ Has w' g 91 (curC A n c p true) ∧ w.grownBy w' (some g) := by
  have hl := hG.lt
  go_enter Try.func37, Try.ntmps37
  go_wp2_with fail
  refine region_quiet_tail (Below w.heap.size w) 21 (by kernel_rfl) (by kernel_rfl) (below_drewN (Below.refl _ _) 1) ?_
  simp only [List.take_succ_cons, List.take_zero, List.drop_succ_cons, List.drop_zero]
  refine WQ.out ?_
  refine WQ.lift (wpQ_move _ rfl rfl (.pointer (some ⟨g, 0, none⟩)) rfl) ?_
  simp only [Act.put, List.setIfInBounds_toArray, List.set_cons_zero, List.set_cons_succ]
  refine WQ.lift (wpQ_val rfl (.pointer (some ⟨g, 0, none⟩)) (fun w' _ => by go_simp)) ?_
  simp only [Act.put, List.setIfInBounds_toArray, List.set_cons_zero, List.set_cons_succ]
  refine WQ.lift (wpQ_val rfl (.pointer (some ⟨g, 2, none⟩)) (fun w' _ => by go_simp)) ?_
  simp only [Act.put, List.setIfInBounds_toArray, List.set_cons_zero, List.set_cons_succ]
  refine WQ.lift (wpQ_load 4 (.tmp 7) rfl rfl (.pointer (some ⟨g, 2, none⟩)) rfl (.bool false) (fun w' hC => load_bool g 2 _ w' ((hG.after hC).cellTab 2 (by omega)))) ?_
  simp only [Act.put, List.setIfInBounds_toArray, List.set_cons_zero, List.set_cons_succ]
  refine WQ.lift (wpQ_move _ rfl rfl (.bool false) rfl) ?_
  simp only [Act.put, List.setIfInBounds_toArray, List.set_cons_zero, List.set_cons_succ]
  refine WQ.lift (wpQ_move _ rfl rfl (.int .i64 k) rfl) ?_
  simp only [Act.put, List.setIfInBounds_toArray, List.set_cons_zero, List.set_cons_succ]
  refine WQ.lift (wpQ_bin _ _ _ _ _ rfl rfl (.int .i64 k) (.int .i64 0) rfl rfl (.bool false) (fun w' _ => int_ltF _ _ _ _ (by omega) w')) ?_
  simp only [Act.put, List.setIfInBounds_toArray, List.set_cons_zero, List.set_cons_succ]
  refine WQ.lift (wpQ_pick _ _ _ rfl rfl false rfl (.bool false) rfl) ?_
  simp only [Act.put, List.setIfInBounds_toArray, List.set_cons_zero, List.set_cons_succ]
  refine WQ.lift (wpQ_move _ rfl rfl (.bool false) rfl) ?_
  simp only [Act.put, List.setIfInBounds_toArray, List.set_cons_zero, List.set_cons_succ]
  refine WQ.lift (wpQ_move _ rfl rfl (.int .i64 k) rfl) ?_
  simp only [Act.put, List.setIfInBounds_toArray, List.set_cons_zero, List.set_cons_succ]
  refine WQ.lift (wpQ_move _ rfl rfl (.pointer (some ⟨g, 0, none⟩)) rfl) ?_
  simp only [Act.put, List.setIfInBounds_toArray, List.set_cons_zero, List.set_cons_succ]
  refine WQ.lift (wpQ_val rfl (.pointer (some ⟨g, 0, none⟩)) (fun w' _ => by go_simp)) ?_
  simp only [Act.put, List.setIfInBounds_toArray, List.set_cons_zero, List.set_cons_succ]
  refine WQ.lift (wpQ_val rfl (.pointer (some ⟨g, 0, none⟩)) (fun w' _ => by go_simp)) ?_
  simp only [Act.put, List.setIfInBounds_toArray, List.set_cons_zero, List.set_cons_succ]
  refine WQ.lift (wpQ_load 22 (.tmp 17) rfl rfl (.pointer (some ⟨g, 0, none⟩)) rfl (.slice A n c) (fun w' hC => load_sl g 0 _ w' ((hG.after hC).cellTab 0 (by omega)))) ?_
  simp only [Act.put, List.setIfInBounds_toArray, List.set_cons_zero, List.set_cons_succ]
  refine WQ.lift (wpQ_val rfl (.int .i64 (n : Int)) (fun w' _ => by go_simp)) ?_
  simp only [Act.put, List.setIfInBounds_toArray, List.set_cons_zero, List.set_cons_succ]
  refine WQ.lift (wpQ_move _ rfl rfl (.pointer (some ⟨g, 0, none⟩)) rfl) ?_
  simp only [Act.put, List.setIfInBounds_toArray, List.set_cons_zero, List.set_cons_succ]
  refine WQ.lift (wpQ_val rfl (.pointer (some ⟨g, 0, none⟩)) (fun w' _ => by go_simp)) ?_
  simp only [Act.put, List.setIfInBounds_toArray, List.set_cons_zero, List.set_cons_succ]
  refine WQ.lift (wpQ_val rfl (.pointer (some ⟨g, 1, none⟩)) (fun w' _ => by go_simp)) ?_
  simp only [Act.put, List.setIfInBounds_toArray, List.set_cons_zero, List.set_cons_succ]
  refine WQ.lift (wpQ_load 3 (.tmp 22) rfl rfl (.pointer (some ⟨g, 1, none⟩)) rfl (.int .i64 (p : Int)) (fun w' hC => load_int g 1 _ w' ((hG.after hC).cellTab 1 (by omega)))) ?_
  simp only [Act.put, List.setIfInBounds_toArray, List.set_cons_zero, List.set_cons_succ]
  refine WQ.lift (wpQ_bin _ _ _ _ _ rfl rfl (.int .i64 (n : Int)) (.int .i64 (p : Int)) rfl rfl (.int .i64 ((n - p : Nat) : Int)) (fun w' _ => int_subN _ _ n p _ hp hn63 rfl w')) ?_
  simp only [Act.put, List.setIfInBounds_toArray, List.set_cons_zero, List.set_cons_succ]
  refine WQ.lift (wpQ_bin _ _ _ _ _ rfl rfl (.int .i64 k) (.int .i64 ((n - p : Nat) : Int)) rfl rfl (.bool true) (fun w' _ => int_gtT _ _ _ _ hk w')) ?_
  simp only [Act.put, List.setIfInBounds_toArray, List.set_cons_zero, List.set_cons_succ]
  refine WQ.mk (wpQuiet_nil ?_)
  intro u hC
  have hG2 := hG.after hC
  have hgr := only_below hC (some g)
  have hc2 := hG2.cellTab 2 (by omega)
  have hf2 := hG2.free 2
  go_wp2_with fail
  go_ret
  refine ⟨rfl, ?_, only_trans hgr (only_setCell u g 2 (.bool true))⟩
  have h := hG2.set 2 (.bool true)
  have e : (curC A n c p false).setIfInBounds 2 (.bool true) = curC A n c p true := by unfold curC; rw [tab_set]; exact tab_ext _ _ _ fun j hj => by rcases (show j = 0 ∨ j = 1 ∨ j = 2 by omega) with rfl | rfl | rfl <;> first | rfl | simp [curF]
  rw [e] at h
  exact h
/-- where the rest of a slice begins: at its capacity's end Go leaves the place as it is -/
def midO (A : Addr) (c p : Nat) : Addr := if c = p then A else A.add p
theorem slice_mid (b o n c p k : Nat) (s : Option Nat) (hp : p + k ≤ n) (hc : n ≤ c) (W : World) : (Instr.sliceAt 22 (.slice (some ⟨b, o, s⟩) n c) (some (.int .i64 ((p : Nat) : Int))) (some (.int .i64 ((p + k : Nat) : Int))) none).run Try.prog W = .ok (.slice (some (midO ⟨b, o, s⟩ c p)) k (c - p)) W := by
  have h1 : ((p + k : Nat) : Int) ≤ (c : Int) := by omega
  have h2 : (c : Int) - (p : Int) = ((c - p : Nat) : Int) := by omega
  have h3 : ((p + k : Nat) : Int) - (p : Int) = (k : Int) := by omega
  have h5 : (p : Int) ≤ ((p + k : Nat) : Int) := by omega
  have h6 : (((p + k : Nat) : Int)).toNat - p = k := by omega
  generalize ((p + k : Nat) : Int) = q at *
  unfold midO
  by_cases hcp : c = p
  · subst hcp
    go_simp
  · rw [if_neg hcp]
    go_simp
theorem slice_nil0 (p k : Nat) (hp : p + k ≤ 0) (W : World) : (Instr.sliceAt 22 (.slice none 0 0) (some (.int .i64 ((p : Nat) : Int))) (some (.int .i64 ((p + k : Nat) : Int))) none).run Try.prog W = .ok (.slice none 0 0) W := by
  obtain rfl : p = 0 := by omega
  obtain rfl : k = 0 := by omega
  go_simp
set_option maxRecDepth 100000 in
set_option maxHeartbeats 1000000 in
theorem rtake_some (b o n c p k : Nat) (s : Option Nat) (g : Nat) (w : World) (hG : Has w g 91 (curC (some ⟨b, o, s⟩) n c p false)) (hp : p + k ≤ n) (hc : n ≤ c) (hn63 : c < 9223372036854775808) : Calls Try.prog 37 #[.pointer (some ⟨g, 0, none⟩), .int .i64 (k : Int)] w fun e w' => e = .returned (.slice (some (midO ⟨b, o, s⟩ c p)) k (c - p)) ∧ Has w' g 91 (curC (some ⟨b, o, s⟩) n c (p + k) false) ∧ w.grownBy w' (some g) := by
  have hl := hG.lt
  go_enter Try.func37, Try.ntmps37
  go_wp2_with fail
  refine region_quiet_tail (Below w.heap.size w) 21 (by kernel_rfl) (by kernel_rfl) (below_drewN (Below.refl _ _) 1) ?_
  simp only [List.take_succ_cons, List.take_zero, List.drop_succ_cons, List.drop_zero]
  refine WQ.out ?_
  refine WQ.lift (wpQ_move _ rfl rfl (.pointer (some ⟨g, 0, none⟩)) rfl) ?_
  simp only [Act.put, List.setIfInBounds_toArray, List.set_cons_zero, List.set_cons_succ]
  refine WQ.lift (wpQ_val rfl (.pointer (some ⟨g, 0, none⟩)) (fun w' _ => by go_simp)) ?_
  simp only [Act.put, List.setIfInBounds_toArray, List.set_cons_zero, List.set_cons_succ]
  refine WQ.lift (wpQ_val rfl (.pointer (some ⟨g, 2, none⟩)) (fun w' _ => by go_simp)) ?_
  simp only [Act.put, List.setIfInBounds_toArray, List.set_cons_zero, List.set_cons_succ]
  refine WQ.lift (wpQ_load 4 (.tmp 7) rfl rfl (.pointer (some ⟨g, 2, none⟩)) rfl (.bool false) (fun w' hC => load_bool g 2 _ w' ((hG.after hC).cellTab 2 (by omega)))) ?_
  simp only [Act.put, List.setIfInBounds_toArray, List.set_cons_zero, List.set_cons_succ]
  refine WQ.lift (wpQ_move _ rfl rfl (.bool false) rfl) ?_
  simp only [Act.put, List.setIfInBounds_toArray, List.set_cons_zero, List.set_cons_succ]
  refine WQ.lift (wpQ_move _ rfl rfl (.int .i64 ((k : Nat) : Int)) rfl) ?_
  simp only [Act.put, List.setIfInBounds_toArray, List.set_cons_zero, List.set_cons_succ]
  refine WQ.lift (wpQ_bin _ _ _ _ _ rfl rfl (.int .i64 ((k : Nat) : Int)) (.int .i64 0) rfl rfl (.bool false) (fun w' _ => int_ltF _ _ _ _ (by omega) w')) ?_
  simp only [Act.put, List.setIfInBounds_toArray, List.set_cons_zero, List.set_cons_succ]
  refine WQ.lift (wpQ_pick _ _ _ rfl rfl false rfl (.bool false) rfl) ?_
  simp only [Act.put, List.setIfInBounds_toArray, List.set_cons_zero, List.set_cons_succ]
  refine WQ.lift (wpQ_move _ rfl rfl (.bool false) rfl) ?_
  simp only [Act.put, List.setIfInBounds_toArray, List.set_cons_zero, List.set_cons_succ]
  refine WQ.lift (wpQ_move _ rfl rfl (.int .i64 ((k : Nat) : Int)) rfl) ?_
  simp only [Act.put, List.setIfInBounds_toArray, List.set_cons_zero, List.set_cons_succ]
  refine WQ.lift (wpQ_move _ rfl rfl (.pointer (some ⟨g, 0, none⟩)) rfl) ?_
  simp only [Act.put, List.setIfInBounds_toArray, List.set_cons_zero, List.set_cons_succ]
  refine WQ.lift (wpQ_val rfl (.pointer (some ⟨g, 0, none⟩)) (fun w' _ => by go_simp)) ?_
  simp only [Act.put, List.setIfInBounds_toArray, List.set_cons_zero, List.set_cons_succ]
  refine WQ.lift (wpQ_val rfl (.pointer (some ⟨g, 0, none⟩)) (fun w' _ => by go_simp)) ?_
  simp only [Act.put, List.setIfInBounds_toArray, List.set_cons_zero, List.set_cons_succ]
  refine WQ.lift (wpQ_load 22 (.tmp 17) rfl rfl (.pointer (some ⟨g, 0, none⟩)) rfl (.slice (some ⟨b, o, s⟩) n c) (fun w' hC => load_sl g 0 _ w' ((hG.after hC).cellTab 0 (by omega)))) ?_
  simp only [Act.put, List.setIfInBounds_toArray, List.set_cons_zero, List.set_cons_succ]
  refine WQ.lift (wpQ_val rfl (.int .i64 (n : Int)) (fun w' _ => by go_simp)) ?_
  simp only [Act.put, List.setIfInBounds_toArray, List.set_cons_zero, List.set_cons_succ]
  refine WQ.lift (wpQ_move _ rfl rfl (.pointer (some ⟨g, 0, none⟩)) rfl) ?_
  simp only [Act.put, List.setIfInBounds_toArray, List.set_cons_zero, List.set_cons_succ]
  refine WQ.lift (wpQ_val rfl (.pointer (some ⟨g, 0, none⟩)) (fun w' _ => by go_simp)) ?_
  simp only [Act.put, List.setIfInBounds_toArray, List.set_cons_zero, List.set_cons_succ]
  refine WQ.lift (wpQ_val rfl (.pointer (some ⟨g, 1, none⟩)) (fun w' _ => by go_simp)) ?_
  simp only [Act.put, List.setIfInBounds_toArray, List.set_cons_zero, List.set_cons_succ]
  refine WQ.lift (wpQ_load 3 (.tmp 22) rfl rfl (.pointer (some ⟨g, 1, none⟩)) rfl (.int .i64 ((p : Nat) : Int)) (fun w' hC => load_int g 1 _ w' ((hG.after hC).cellTab 1 (by omega)))) ?_
  simp only [Act.put, List.setIfInBounds_toArray, List.set_cons_zero, List.set_cons_succ]
  refine WQ.lift (wpQ_bin _ _ _ _ _ rfl rfl (.int .i64 (n : Int)) (.int .i64 ((p : Nat) : Int)) rfl rfl (.int .i64 ((n - p : Nat) : Int)) (fun w' _ => int_subN _ _ n p _ (by omega) (by omega) rfl w')) ?_
  simp only [Act.put, List.setIfInBounds_toArray, List.set_cons_zero, List.set_cons_succ]
  refine WQ.lift (wpQ_bin _ _ _ _ _ rfl rfl (.int .i64 ((k : Nat) : Int)) (.int .i64 ((n - p : Nat) : Int)) rfl rfl (.bool false) (fun w' _ => int_gtF _ _ _ _ (by omega) w')) ?_
  simp only [Act.put, List.setIfInBounds_toArray, List.set_cons_zero, List.set_cons_succ]
  refine WQ.mk (wpQuiet_nil ?_)
  intro u hC
  have hG2 := hG.after hC
  have hgr := only_below hC (some g)
  have hc1 := hG2.cellTab 1 (by omega)
  have hf1 := hG2.free 1
  replace hc1 : u.cell? ⟨g, 1, none⟩ = some (.int .i64 ((p : Nat) : Int)) := hc1
  go_wp2_with fail
  have h3 := hG2.set 1 (.int .i64 ((p : Int) + (k : Int)))
  have e : (curC (some ⟨b, o, s⟩) n c p false).setIfInBounds 1 (.int .i64 ((p : Int) + (k : Int))) = curC (some ⟨b, o, s⟩) n c (p + k) false := by unfold curC; rw [tab_set]; exact tab_ext _ _ _ fun j hj => by rcases (show j = 0 ∨ j = 1 ∨ j = 2 by omega) with rfl | rfl | rfl <;> first | rfl | simp [curF]
  rw [e] at h3
  have hgr3 := only_trans hgr (only_setCell u g 1 (.int .i64 ((p : Int) + (k : Int))))
  generalize u.setCell ⟨g, 1, none⟩ _ = u3 at *
  clear hG hG2 hgr hc1 hf1 hl hC e
  replace hG := h3
  clear h3
  have hsl := slice_mid b o n c p k s hp hc
  refine region_quiet_tail (Below u3.heap.size u3) 15 (by kernel_rfl) (by kernel_rfl) (below_drewN (Below.refl _ _) 1) ?_
  simp only [List.take_succ_cons, List.take_zero, List.drop_succ_cons, List.drop_zero]
  refine WQ.out ?_
  refine WQ.lift (wpQ_move _ rfl rfl (.pointer (some ⟨g, 0, none⟩)) rfl) ?_
  simp only [Act.put, List.setIfInBounds_toArray, List.set_cons_zero, List.set_cons_succ]
  refine WQ.lift (wpQ_val rfl (.pointer (some ⟨g, 0, none⟩)) (fun w' _ => by go_simp)) ?_
  simp only [Act.put, List.setIfInBounds_toArray, List.set_cons_zero, List.set_cons_succ]
  refine WQ.lift (wpQ_val rfl (.pointer (some ⟨g, 0, none⟩)) (fun w' _ => by go_simp)) ?_
  simp only [Act.put, List.setIfInBounds_toArray, List.set_cons_zero, List.set_cons_succ]
  refine WQ.lift (wpQ_load 22 (.tmp 40) rfl rfl (.pointer (some ⟨g, 0, none⟩)) rfl (.slice (some ⟨b, o, s⟩) n c) (fun w' hC => load_sl g 0 _ w' ((hG.after hC).cellTab 0 (by omega)))) ?_
  simp only [Act.put, List.setIfInBounds_toArray, List.set_cons_zero, List.set_cons_succ]
  refine WQ.lift (wpQ_move _ rfl rfl (.pointer (some ⟨g, 0, none⟩)) rfl) ?_
  simp only [Act.put, List.setIfInBounds_toArray, List.set_cons_zero, List.set_cons_succ]
  refine WQ.lift (wpQ_val rfl (.pointer (some ⟨g, 0, none⟩)) (fun w' _ => by go_simp)) ?_
  simp only [Act.put, List.setIfInBounds_toArray, List.set_cons_zero, List.set_cons_succ]
  refine WQ.lift (wpQ_val rfl (.pointer (some ⟨g, 1, none⟩)) (fun w' _ => by go_simp)) ?_
  simp only [Act.put, List.setIfInBounds_toArray, List.set_cons_zero, List.set_cons_succ]
  refine WQ.lift (wpQ_load 3 (.tmp 44) rfl rfl (.pointer (some ⟨g, 1, none⟩)) rfl (.int .i64 ((p + k : Nat) : Int)) (fun w' hC => load_int g 1 _ w' ((hG.after hC).cellTab 1 (by omega)))) ?_
  simp only [Act.put, List.setIfInBounds_toArray, List.set_cons_zero, List.set_cons_succ]
  refine WQ.lift (wpQ_move _ rfl rfl (.int .i64 ((k : Nat) : Int)) rfl) ?_
  simp only [Act.put, List.setIfInBounds_toArray, List.set_cons_zero, List.set_cons_succ]
  refine WQ.lift (wpQ_bin _ _ _ _ _ rfl rfl (.int .i64 ((p + k : Nat) : Int)) (.int .i64 ((k : Nat) : Int)) rfl rfl (.int .i64 ((p : Nat) : Int)) (fun w' _ => int_subN _ _ (p + k) k p (by omega) (by omega) (by omega) w')) ?_
  simp only [Act.put, List.setIfInBounds_toArray, List.set_cons_zero, List.set_cons_succ]
  refine WQ.lift (wpQ_move _ rfl rfl (.pointer (some ⟨g, 0, none⟩)) rfl) ?_
  simp only [Act.put, List.setIfInBounds_toArray, List.set_cons_zero, List.set_cons_succ]
  refine WQ.lift (wpQ_val rfl (.pointer (some ⟨g, 0, none⟩)) (fun w' _ => by go_simp)) ?_
  simp only [Act.put, List.setIfInBounds_toArray, List.set_cons_zero, List.set_cons_succ]
  refine WQ.lift (wpQ_val rfl (.pointer (some ⟨g, 1, none⟩)) (fun w' _ => by go_simp)) ?_
  simp only [Act.put, List.setIfInBounds_toArray, List.set_cons_zero, List.set_cons_succ]
  refine WQ.lift (wpQ_load 3 (.tmp 50) rfl rfl (.pointer (some ⟨g, 1, none⟩)) rfl (.int .i64 ((p + k : Nat) : Int)) (fun w' hC => load_int g 1 _ w' ((hG.after hC).cellTab 1 (by omega)))) ?_
  simp only [Act.put, List.setIfInBounds_toArray, List.set_cons_zero, List.set_cons_succ]
  refine WQ.lift (wpQ_slice 22 _ _ _ _ rfl rfl (.slice (some ⟨b, o, s⟩) n c) rfl (some (.int .i64 ((p : Nat) : Int))) (some (.int .i64 ((p + k : Nat) : Int))) none rfl rfl rfl (.slice (some (midO ⟨b, o, s⟩ c p)) k (c - p)) (fun w' _ => hsl w')) ?_
  simp only [Act.put, List.setIfInBounds_toArray, List.set_cons_zero, List.set_cons_succ]
  refine WQ.mk (wpQuiet_nil ?_)
  intro u4 hC
  go_wp2_with fail
  go_ret
  exact ⟨rfl, hG.after hC, only_trans hgr3 (only_below hC _)⟩
set_option maxRecDepth 100000 in
set_option maxHeartbeats 1000000 in
theorem rtake_nil (p k g : Nat) (w : World) (hG : Has w g 91 (curC none 0 0 p false)) (hp : p + k ≤ 0) : Calls Try.prog 37 #[.pointer (some ⟨g, 0, none⟩), .int .i64 (k : Int)] w fun e w' => e = .returned (.slice none 0 0) ∧ Has w' g 91 (curC none 0 0 (p + k) false) ∧ w.grownBy w' (some g) := by
  have hl := hG.lt
  go_enter Try.func37, Try.ntmps37
  go_wp2_with fail
  refine region_quiet_tail (Below w.heap.size w) 21 (by kernel_rfl) (by kernel_rfl) (below_drewN (Below.refl _ _) 1) ?_
  simp only [List.take_succ_cons, List.take_zero, List.drop_succ_cons, List.drop_zero]
  refine WQ.out ?_
  refine WQ.lift (wpQ_move _ rfl rfl (.pointer (some ⟨g, 0, none⟩)) rfl) ?_
  simp only [Act.put, List.setIfInBounds_toArray, List.set_cons_zero, List.set_cons_succ]
  refine WQ.lift (wpQ_val rfl (.pointer (some ⟨g, 0, none⟩)) (fun w' _ => by go_simp)) ?_
  simp only [Act.put, List.setIfInBounds_toArray, List.set_cons_zero, List.set_cons_succ]
  refine WQ.lift (wpQ_val rfl (.pointer (some ⟨g, 2, none⟩)) (fun w' _ => by go_simp)) ?_
  simp only [Act.put, List.setIfInBounds_toArray, List.set_cons_zero, List.set_cons_succ]
  refine WQ.lift (wpQ_load 4 (.tmp 7) rfl rfl (.pointer (some ⟨g, 2, none⟩)) rfl (.bool false) (fun w' hC => load_bool g 2 _ w' ((hG.after hC).cellTab 2 (by omega)))) ?_
  simp only [Act.put, List.setIfInBounds_toArray, List.set_cons_zero, List.set_cons_succ]
  refine WQ.lift (wpQ_move _ rfl rfl (.bool false) rfl) ?_
  simp only [Act.put, List.setIfInBounds_toArray, List.set_cons_zero, List.set_cons_succ]
  refine WQ.lift (wpQ_move _ rfl rfl (.int .i64 ((k : Nat) : Int)) rfl) ?_
  simp only [Act.put, List.setIfInBounds_toArray, List.set_cons_zero, List.set_cons_succ]
  refine WQ.lift (wpQ_bin _ _ _ _ _ rfl rfl (.int .i64 ((k : Nat) : Int)) (.int .i64 0) rfl rfl (.bool false) (fun w' _ => int_ltF _ _ _ _ (by omega) w')) ?_
  simp only [Act.put, List.setIfInBounds_toArray, List.set_cons_zero, List.set_cons_succ]
  refine WQ.lift (wpQ_pick _ _ _ rfl rfl false rfl (.bool false) rfl) ?_
  simp only [Act.put, List.setIfInBounds_toArray, List.set_cons_zero, List.set_cons_succ]
  refine WQ.lift (wpQ_move _ rfl rfl (.bool false) rfl) ?_
  simp only [Act.put, List.setIfInBounds_toArray, List.set_cons_zero, List.set_cons_succ]
  refine WQ.lift (wpQ_move _ rfl rfl (.int .i64 ((k : Nat) : Int)) rfl) ?_
  simp only [Act.put, List.setIfInBounds_toArray, List.set_cons_zero, List.set_cons_succ]
  refine WQ.lift (wpQ_move _ rfl rfl (.pointer (some ⟨g, 0, none⟩)) rfl) ?_
  simp only [Act.put, List.setIfInBounds_toArray, List.set_cons_zero, List.set_cons_succ]
  refine WQ.lift (wpQ_val rfl (.pointer (some ⟨g, 0, none⟩)) (fun w' _ => by go_simp)) ?_
  simp only [Act.put, List.setIfInBounds_toArray, List.set_cons_zero, List.set_cons_succ]
  refine WQ.lift (wpQ_val rfl (.pointer (some ⟨g, 0, none⟩)) (fun w' _ => by go_simp)) ?_
  simp only [Act.put, List.setIfInBounds_toArray, List.set_cons_zero, List.set_cons_succ]
  refine WQ.lift (wpQ_load 22 (.tmp 17) rfl rfl (.pointer (some ⟨g, 0, none⟩)) rfl (.slice none 0 0) (fun w' hC => load_sl g 0 _ w' ((hG.after hC).cellTab 0 (by omega)))) ?_
  simp only [Act.put, List.setIfInBounds_toArray, List.set_cons_zero, List.set_cons_succ]
  refine WQ.lift (wpQ_val rfl (.int .i64 ((0 : Nat) : Int)) (fun w' _ => by go_simp)) ?_
  simp only [Act.put, List.setIfInBounds_toArray, List.set_cons_zero, List.set_cons_succ]
  refine WQ.lift (wpQ_move _ rfl rfl (.pointer (some ⟨g, 0, none⟩)) rfl) ?_
  simp only [Act.put, List.setIfInBounds_toArray, List.set_cons_zero, List.set_cons_succ]
  refine WQ.lift (wpQ_val rfl (.pointer (some ⟨g, 0, none⟩)) (fun w' _ => by go_simp)) ?_
  simp only [Act.put, List.setIfInBounds_toArray, List.set_cons_zero, List.set_cons_succ]
  refine WQ.lift (wpQ_val rfl (.pointer (some ⟨g, 1, none⟩)) (fun w' _ => by go_simp)) ?_
  simp only [Act.put, List.setIfInBounds_toArray, List.set_cons_zero, List.set_cons_succ]
  refine WQ.lift (wpQ_load 3 (.tmp 22) rfl rfl (.pointer (some ⟨g, 1, none⟩)) rfl (.int .i64 ((p : Nat) : Int)) (fun w' hC => load_int g 1 _ w' ((hG.after hC).cellTab 1 (by omega)))) ?_
  simp only [Act.put, List.setIfInBounds_toArray, List.set_cons_zero, List.set_cons_succ]
  refine WQ.lift (wpQ_bin _ _ _ _ _ rfl rfl (.int .i64 ((0 : Nat) : Int)) (.int .i64 ((p : Nat) : Int)) rfl rfl (.int .i64 ((0 - p : Nat) : Int)) (fun w' _ => int_subN _ _ 0 p _ (by omega) (by omega) rfl w')) ?_
  simp only [Act.put, List.setIfInBounds_toArray, List.set_cons_zero, List.set_cons_succ]
  refine WQ.lift (wpQ_bin _ _ _ _ _ rfl rfl (.int .i64 ((k : Nat) : Int)) (.int .i64 ((0 - p : Nat) : Int)) rfl rfl (.bool false) (fun w' _ => int_gtF _ _ _ _ (by omega) w')) ?_
  simp only [Act.put, List.setIfInBounds_toArray, List.set_cons_zero, List.set_cons_succ]
  refine WQ.mk (wpQuiet_nil ?_)
  intro u hC
  have hG2 := hG.after hC
  have hgr := only_below hC (some g)
  have hc1 := hG2.cellTab 1 (by omega)
  have hf1 := hG2.free 1
  replace hc1 : u.cell? ⟨g, 1, none⟩ = some (.int .i64 ((p : Nat) : Int)) := hc1
  go_wp2_with fail
  have h3 := hG2.set 1 (.int .i64 ((p : Int) + (k : Int)))
  have e : (curC none 0 0 p false).setIfInBounds 1 (.int .i64 ((p : Int) + (k : Int))) = curC none 0 0 (p + k) false := by unfold curC; rw [tab_set]; exact tab_ext _ _ _ fun j hj => by rcases (show j = 0 ∨ j = 1 ∨ j = 2 by omega) with rfl | rfl | rfl <;> first | rfl | simp [curF]
  rw [e] at h3
  have hgr3 := only_trans hgr (only_setCell u g 1 (.int .i64 ((p : Int) + (k : Int))))
  generalize u.setCell ⟨g, 1, none⟩ _ = u3 at *
  clear hG hG2 hgr hc1 hf1 hl hC e
  replace hG := h3
  clear h3
  have hsl := slice_nil0 p k hp
  refine region_quiet_tail (Below u3.heap.size u3) 15 (by kernel_rfl) (by kernel_rfl) (below_drewN (Below.refl _ _) 1) ?_
  simp only [List.take_succ_cons, List.take_zero, List.drop_succ_cons, List.drop_zero]
  refine WQ.out ?_
  refine WQ.lift (wpQ_move _ rfl rfl (.pointer (some ⟨g, 0, none⟩)) rfl) ?_
  simp only [Act.put, List.setIfInBounds_toArray, List.set_cons_zero, List.set_cons_succ]
  refine WQ.lift (wpQ_val rfl (.pointer (some ⟨g, 0, none⟩)) (fun w' _ => by go_simp)) ?_
  simp only [Act.put, List.setIfInBounds_toArray, List.set_cons_zero, List.set_cons_succ]
  refine WQ.lift (wpQ_val rfl (.pointer (some ⟨g, 0, none⟩)) (fun w' _ => by go_simp)) ?_
  simp only [Act.put, List.setIfInBounds_toArray, List.set_cons_zero, List.set_cons_succ]
  refine WQ.lift (wpQ_load 22 (.tmp 40) rfl rfl (.pointer (some ⟨g, 0, none⟩)) rfl (.slice none 0 0) (fun w' hC => load_sl g 0 _ w' ((hG.after hC).cellTab 0 (by omega)))) ?_
  simp only [Act.put, List.setIfInBounds_toArray, List.set_cons_zero, List.set_cons_succ]
  refine WQ.lift (wpQ_move _ rfl rfl (.pointer (some ⟨g, 0, none⟩)) rfl) ?_
  simp only [Act.put, List.setIfInBounds_toArray, List.set_cons_zero, List.set_cons_succ]
  refine WQ.lift (wpQ_val rfl (.pointer (some ⟨g, 0, none⟩)) (fun w' _ => by go_simp)) ?_
  simp only [Act.put, List.setIfInBounds_toArray, List.set_cons_zero, List.set_cons_succ]
  refine WQ.lift (wpQ_val rfl (.pointer (some ⟨g, 1, none⟩)) (fun w' _ => by go_simp)) ?_
  simp only [Act.put, List.setIfInBounds_toArray, List.set_cons_zero, List.set_cons_succ]
  refine WQ.lift (wpQ_load 3 (.tmp 44) rfl rfl (.pointer (some ⟨g, 1, none⟩)) rfl (.int .i64 ((p + k : Nat) : Int)) (fun w' hC => load_int g 1 _ w' ((hG.after hC).cellTab 1 (by omega)))) ?_
  simp only [Act.put, List.setIfInBounds_toArray, List.set_cons_zero, List.set_cons_succ]
  refine WQ.lift (wpQ_move _ rfl rfl (.int .i64 ((k : Nat) : Int)) rfl) ?_
  simp only [Act.put, List.setIfInBounds_toArray, List.set_cons_zero, List.set_cons_succ]
  refine WQ.lift (wpQ_bin _ _ _ _ _ rfl rfl (.int .i64 ((p + k : Nat) : Int)) (.int .i64 ((k : Nat) : Int)) rfl rfl (.int .i64 ((p : Nat) : Int)) (fun w' _ => int_subN _ _ (p + k) k p (by omega) (by omega) (by omega) w')) ?_
  simp only [Act.put, List.setIfInBounds_toArray, List.set_cons_zero, List.set_cons_succ]
  refine WQ.lift (wpQ_move _ rfl rfl (.pointer (some ⟨g, 0, none⟩)) rfl) ?_
  simp only [Act.put, List.setIfInBounds_toArray, List.set_cons_zero, List.set_cons_succ]
  refine WQ.lift (wpQ_val rfl (.pointer (some ⟨g, 0, none⟩)) (fun w' _ => by go_simp)) ?_
  simp only [Act.put, List.setIfInBounds_toArray, List.set_cons_zero, List.set_cons_succ]
  refine WQ.lift (wpQ_val rfl (.pointer (some ⟨g, 1, none⟩)) (fun w' _ => by go_simp)) ?_
  simp only [Act.put, List.setIfInBounds_toArray, List.set_cons_zero, List.set_cons_succ]
  refine WQ.lift (wpQ_load 3 (.tmp 50) rfl rfl (.pointer (some ⟨g, 1, none⟩)) rfl (.int .i64 ((p + k : Nat) : Int)) (fun w' hC => load_int g 1 _ w' ((hG.after hC).cellTab 1 (by omega)))) ?_
  simp only [Act.put, List.setIfInBounds_toArray, List.set_cons_zero, List.set_cons_succ]
  refine WQ.lift (wpQ_slice 22 _ _ _ _ rfl rfl (.slice none 0 0) rfl (some (.int .i64 ((p : Nat) : Int))) (some (.int .i64 ((p + k : Nat) : Int))) none rfl rfl rfl (.slice none 0 0) (fun w' _ => hsl w')) ?_
  simp only [Act.put, List.setIfInBounds_toArray, List.set_cons_zero, List.set_cons_succ]
  refine WQ.mk (wpQuiet_nil ?_)
  intro u4 hC
  go_wp2_with fail
  go_ret
  exact ⟨rfl, hG.after hC, only_trans hgr3 (only_below hC _)⟩
end Go.Proofs.Ytfdoloonllhodaa
namespace Go.Proofs.Ytfdoloonllhodaa
open Go Go.RowKit

/-- the number of the m bytes from place j on, the lowest first -/
def leT (f : Nat → Nat) : Nat → Nat → Nat
  | 0, _ => 0
  | m + 1, j => f j + 256 * leT f m (j + 1)
theorem leT_lt {f : Nat → Nat} (hf : ∀ j, f j < 256) : ∀ m j, leT f m j < 256 ^ m
  | 0, _ => by simp [leT]
  | m + 1, j => by
    have h1 := leT_lt hf m (j + 1)
    have h2 := hf j
    show f j + 256 * leT f m (j + 1) < 256 ^ (m + 1)
    rw [Nat.pow_succ]
    omega
def bsN (bs : List UInt8) (j : Nat) : Nat := (bs.getD j 0).toNat
theorem bsN_lt (bs : List UInt8) (j : Nat) : bsN bs j < 256 := (bs.getD j 0).toNat_lt
set_option maxRecDepth 100000 in
set_option maxHeartbeats 1000000 in
theorem rnum_fail (k : Nat) (A : Option Addr) (n c p : Nat) (g : Nat) (w : World)
    (kT : Calls Try.prog 37 #[.pointer (some ⟨g, 0, none⟩), .int .i64 (k : Int)] w fun e w' => e = .returned (.slice none 0 0) ∧ Has w' g 91 (curC A n c p true) ∧ w.grownBy w' (some g)) :
    Calls Try.prog 24 #[.pointer (some ⟨g, 0, none⟩), .int .i64 (k : Int)] w fun e w' => e = .returned (.int .i64 0) ∧ Has w' g 91 (curC A n c p true) ∧ w.grownBy w' (some g) := by
  go_enter Try.func24, Try.ntmps24
  go_wp2_with fail
  refine kT.mono ?_
  rintro e u ⟨rfl, hG, hg⟩
  clear kT
  go_wp2_with fail
  go_loopw [5, 7] (fun x ct wr => x = .int .i64 0 ∧ ct = .int .i64 (-1) ∧ wr = u) (fun _ _ _ => 0)
  case atStart => exact ⟨rfl, rfl, rfl⟩
  case round =>
    obtain ⟨rfl, rfl, rfl⟩ := hrel
    go_wp2_with fail
    go_ret
    exact ⟨rfl, hG, hg⟩
set_option maxRecDepth 100000 in
set_option maxHeartbeats 1000000 in
theorem rnum_ok (bs : List UInt8) (b o n c p k : Nat) (g : Nat) (w : World) (hG : Has w g 91 (curC (some ⟨b, o, none⟩) n c p false)) (hS : SlA w (some ⟨b, o, none⟩) n c bs) (hne : b ≠ g) (hp : p + k ≤ n) (hk : 0 < k) (hk4 : k ≤ 4) (hc : c < 9223372036854775808) :
    Calls Try.prog 24 #[.pointer (some ⟨g, 0, none⟩), .int .i64 (k : Int)] w fun e w' => e = .returned (.int .i64 ((leT (bsN bs) k p : Nat) : Int)) ∧ Has w' g 91 (curC (some ⟨b, o, none⟩) n c (p + k) false) ∧ w.grownBy w' (some g) := by
  have kT := rtake_some b o n c p k none g w hG hp hS.2.1 hc
  have hcell : ∀ j, j < k → w.cell? ⟨b, o + p + j, none⟩ = some (by8 (bs.getD (p + j) 0)) := fun j hj => by
    obtain ⟨b', o', e, _, h⟩ := hS.2.2 (by omega)
    obtain ⟨rfl, rfl⟩ : b' = b ∧ o' = o := by injection e with e; injection e with e1 e2; exact ⟨e1.symm, e2.symm⟩
    rw [Nat.add_assoc, h (p + j) (by omega)]
  have hlb : b < w.heap.size := by
    obtain ⟨b', o', e, h, _⟩ := hS.2.2 (by omega)
    obtain ⟨rfl, rfl⟩ : b' = b ∧ o' = o := by injection e with e; injection e with e1 e2; exact ⟨e1.symm, e2.symm⟩
    exact h
  have hmid : midO ⟨b, o, none⟩ c p = ⟨b, o + p, none⟩ := by
    have := hS.2.1
    unfold midO; rw [if_neg (by omega), Addr.add_mid]
  rw [hmid] at kT
  have hx := fun m j => leT_lt (bsN_lt bs) m j
  go_enter Try.func24, Try.ntmps24
  go_wp2_with fail
  refine kT.mono ?_
  rintro e u ⟨rfl, hG, hg⟩
  have hcu : ∀ j, j < k → u.cell? ⟨b, o + p + j, none⟩ = some (by8 (bs.getD (p + j) 0)) := fun j hj => by
    have h := hcell j hj
    unfold World.cell? at h ⊢
    dsimp only at h ⊢
    rw [hg.block b hlb (by simpa using hne)]
    exact h
  have HC := Lib.hid hcu
  have HX := Lib.hid hx
  clear kT hcell hlb hmid hne hS hcu hx hc
  generalize c - p = cc at *
  generalize o + p = oo at *
  go_wp2_with fail
  go_loopw [5, 7] (fun x ct wr => ∃ i : Nat, i ≤ k ∧ x = .int .i64 ((leT (bsN bs) (k - i) (p + i) : Nat) : Int) ∧ ct = .int .i64 ((i : Int) - 1) ∧ wr = u) (fun _ ct _ => (intOf ct + 1).toNat)
  case atStart => exact ⟨k, Nat.le_refl _, by rw [Nat.sub_self]; rfl, rfl, rfl⟩
  case round =>
    obtain ⟨i, hi, rfl, rfl, rfl⟩ := hrel
    by_cases hlt : 0 < i
    · obtain ⟨i, rfl⟩ : ∃ j, i = j + 1 := ⟨i - 1, by omega⟩
      have ek : ((i + 1 : Nat) : Int) - 1 = (i : Int) := by omega
      rw [ek]
      clear ek
      have hc0 := HC.out i (by omega)
      have e1 : leT (bsN bs) (k - i) (p + i) = bsN bs (p + i) + 256 * leT (bsN bs) (k - (i + 1)) (p + (i + 1)) := by
        rw [show k - i = (k - (i + 1)) + 1 by omega]; rfl
      have hx1 := HX.out (k - (i + 1)) (p + (i + 1))
      have hp4 : 256 ^ (k - (i + 1)) ≤ 256 ^ 3 := Nat.pow_le_pow_right (by omega) (by omega)
      have hb8 : by8 (bs.getD (p + i) 0) = .int .u8 ((bsN bs (p + i) : Nat) : Int) := rfl
      have hbl := bsN_lt bs (p + i)
      rw [hb8] at hc0
      generalize leT (bsN bs) (k - (i + 1)) (p + (i + 1)) = x0 at *
      generalize bsN bs (p + i) = d0 at *
      have hx2 : x0 < 16777216 := Nat.lt_of_lt_of_le hx1 (Nat.le_trans hp4 (by decide))
      have di : (i : Int) < (k : Int) := by omega
      have hres : Value.int .i64 ((x0 : Int) * 256 + (d0 : Int)) = .int .i64 ((leT (bsN bs) (k - i) (p + i) : Nat) : Int) := by
        rw [e1]; congr 1; omega
      have HR := Lib.hid hres
      clear e1 hx1 hp4 hb8 hres
      go_wp2_with fail
      go_roundw
      case rel => exact ⟨i, by omega, HR.out, by go_num, trivial⟩
      case measure => simp [intOf] <;> omega
    · obtain rfl : i = 0 := by omega
      rw [Nat.sub_zero, Nat.add_zero]
      go_wp2_with fail
      go_ret
      exact ⟨rfl, hG, hg⟩
end Go.Proofs.Ytfdoloonllhodaa
namespace Go.Proofs.Ytfdoloonllhodaa
open Go Go.RowKit

theorem i64_and_mask (k : Int) (j : Nat) (hj : j < 63) : bits .and .i64 k ((2 ^ j - 1 : Nat) : Int) = k % (2 ^ j : Nat) := by
  unfold bits
  have hp : 2 ^ j ≤ 2 ^ 62 := Nat.pow_le_pow_right (by omega) (by omega)
  have h1 : (BitVec.ofInt 64 k &&& BitVec.ofNat 64 (2 ^ j - 1)).toNat = (k % 2 ^ 64).toNat % 2 ^ j := by
    rw [BitVec.toNat_and, BitVec.toNat_ofNat, BitVec.toNat_ofInt, Nat.mod_eq_of_lt (a := 2 ^ j - 1) (by omega), Nat.and_two_pow_sub_one_eq_mod]
    rfl
  have h2 : (((k % 2 ^ 64).toNat % 2 ^ j : Nat) : Int) = k % ((2 ^ j : Nat) : Int) := by
    rw [Int.natCast_emod, Int.toNat_of_nonneg (by omega)]
    refine Int.emod_emod_of_dvd k ?_
    refine ⟨((2 ^ (64 - j) : Nat) : Int), ?_⟩
    rw [← Int.natCast_mul, ← Nat.pow_add, show j + (64 - j) = 64 by omega]
    rfl
  have h3 : 0 ≤ k % ((2 ^ j : Nat) : Int) := Int.emod_nonneg _ (by have := Nat.two_pow_pos j; omega)
  have h4 : k % ((2 ^ j : Nat) : Int) < ((2 ^ j : Nat) : Int) := Int.emod_lt_of_pos _ (by have := Nat.two_pow_pos j; omega)
  simp only [IntKind.bits]
  show IntKind.i64.wrap (((BitVec.ofInt 64 k &&& BitVec.ofInt 64 ((2 ^ j - 1 : Nat) : Int)).toNat : Nat) : Int) = _
  rw [show BitVec.ofInt 64 ((2 ^ j - 1 : Nat) : Int) = BitVec.ofNat 64 (2 ^ j - 1) from BitVec.ofInt_natCast .., h1, h2]
  generalize k % ((2 ^ j : Nat) : Int) = r at *
  simp [IntKind.wrap, IntKind.bits, IntKind.signed]
  omega
theorem i64_and3 (k : Int) : bits .and .i64 k 3 = k % 4 := i64_and_mask k 2 (by omega)
theorem i64_and16 (k : Int) : bits .and .i64 k 65535 = k % 65536 := i64_and_mask k 16 (by omega)
theorem u32_and16 (x : Nat) (h : x < 4294967296) : bits .and .u32 (x : Int) 65535 = ((x % 65536 : Nat) : Int) := by
  have e := u32_and_nat x 65535 h (by omega)
  have e2 : x &&& 65535 = x % 2 ^ 16 := Nat.and_two_pow_sub_one_eq_mod x 16
  rw [e2] at e
  exact e
end Go.Proofs.Ytfdoloonllhodaa
namespace Go.Proofs.Ytfdoloonllhodaa
open Go Go.RowKit

/-- may k bytes be taken -/
def okT (n p : Nat) (bad : Bool) (k : Int) : Bool := !bad && decide (0 ≤ k ∧ k ≤ ((n - p : Nat) : Int))
def tkB (bs : List UInt8) (p : Nat) (bad : Bool) (k : Int) : List UInt8 := if okT bs.length p bad k then (bs.drop p).take k.toNat else []
def tkP (n p : Nat) (bad : Bool) (k : Int) : Nat := if okT n p bad k then p + k.toNat else p
def tkN (bs : List UInt8) (p : Nat) (bad : Bool) (k : Nat) : Nat := if okT bs.length p bad (k : Int) then leT (bsN bs) k p else 0
/-- the low bytes of a number, the lowest first -/
def leB (m : Nat) (x : Nat) : List UInt8 := (List.range m).map fun j => UInt8.ofNat (x / 256 ^ j)
theorem tkP_le {n p : Nat} (bad : Bool) (k : Int) (h : p ≤ n) : tkP n p bad k ≤ n := by
  unfold tkP
  by_cases hk : okT n p bad k = true
  · rw [if_pos hk]
    unfold okT at hk
    simp only [Bool.and_eq_true, decide_eq_true_eq] at hk
    omega
  · rw [if_neg hk]; exact h
/-- nothing below B, and nothing in block m, has changed -/
structure Kp (B m : Nat) (w w' : World) : Prop where
  below : Below B w w'
  same : w'.heap[m]? = w.heap[m]?
  size : w.heap.size ≤ w'.heap.size
abbrev curAt (g : Nat) : Value := .pointer (some ⟨g, 0, none⟩)
section
variable {Is : World → Nat → Nat → Nat → List UInt8 → Nat → Bool → Prop}
end
end Go.Proofs.Ytfdoloonllhodaa
namespace Go.Proofs.Ytfdoloonllhodaa
open Go Go.RowKit

theorem tkB_no {bs : List UInt8} {p : Nat} {bad : Bool} {k : Int} (h : okT bs.length p bad k = false) : tkB bs p bad k = [] ∧ tkP bs.length p bad k = p := by
  unfold tkB tkP
  rw [h]
  exact ⟨rfl, rfl⟩
theorem midO_block (A : Addr) (c p : Nat) : (midO A c p).block = A.block := by
  unfold midO
  split
  · rfl
  · unfold Addr.add; split <;> rfl
theorem rtake_src (bs : List UInt8) (A : Option Addr) (n c p : Nat) (bad : Bool) (k : Int) (g : Nat) (w : World) (hG : Has w g 91 (curC A n c p bad)) (hS : SlA w A n c bs) (hA : A = none → c = 0) (hne : ∀ b o, A = some ⟨b, o, none⟩ → 0 < n → g ≠ b) (hp : p ≤ n) (hc : c < 9223372036854775808) :
    Calls Try.prog 37 #[.pointer (some ⟨g, 0, none⟩), .int .i64 k] w fun e w' => (∃ A' n' c', e = .returned (.slice A' n' c') ∧ SlA w' A' n' c' (tkB bs p bad k) ∧ (okT bs.length p bad k = false → A' = none ∧ c' = 0) ∧ ∀ b o, A' = some ⟨b, o, none⟩ → 0 < n' → 0 < n ∧ ∃ o2, A = some ⟨b, o2, none⟩) ∧ Has w' g 91 (curC A n c (tkP bs.length p bad k) (!okT bs.length p bad k)) ∧ w.grownBy w' (some g) := by
  have hl : bs.length = n := hS.1
  have hno : okT bs.length p bad k = false → (Calls Try.prog 37 #[.pointer (some ⟨g, 0, none⟩), .int .i64 k] w fun e w' => e = .returned (.slice none 0 0) ∧ Has w' g 91 (curC A n c p true) ∧ w.grownBy w' (some g)) →
      Calls Try.prog 37 #[.pointer (some ⟨g, 0, none⟩), .int .i64 k] w fun e w' => (∃ A' n' c', e = .returned (.slice A' n' c') ∧ SlA w' A' n' c' (tkB bs p bad k) ∧ (okT bs.length p bad k = false → A' = none ∧ c' = 0) ∧ ∀ b o, A' = some ⟨b, o, none⟩ → 0 < n' → 0 < n ∧ ∃ o2, A = some ⟨b, o2, none⟩) ∧ Has w' g 91 (curC A n c (tkP bs.length p bad k) (!okT bs.length p bad k)) ∧ w.grownBy w' (some g) := fun h hc => by
    obtain ⟨h1, h2⟩ := tkB_no h
    rw [h1, h2, h]
    refine hc.mono ?_
    rintro e w' ⟨rfl, hG', hg⟩
    exact ⟨⟨none, 0, 0, rfl, nil_slA _, fun _ => ⟨rfl, rfl⟩, fun _ _ h => by cases h⟩, hG', hg⟩
  cases bad with
  | true => exact hno rfl (rtake_bad A n c p k g w hG)
  | false =>
    by_cases h1 : k < 0
    · exact hno (by unfold okT; simp; omega) (rtake_neg A n c p k g w hG h1)
    · by_cases h2 : ((n - p : Nat) : Int) < k
      · exact hno (by unfold okT; simp; omega) (rtake_far A n c p k g w hG hp (by have := hS.2.1; omega) (by omega) h2)
      · obtain ⟨m, rfl⟩ : ∃ m : Nat, k = (m : Int) := ⟨k.toNat, by omega⟩
        have hok : okT bs.length p false (m : Int) = true := by unfold okT; simp; omega
        have e1 : tkB bs p false (m : Int) = (bs.drop p).take m := by unfold tkB; rw [if_pos hok]; rfl
        have e2 : tkP bs.length p false (m : Int) = p + m := by unfold tkP; rw [if_pos hok]; rfl
        rw [e1, e2, hok]
        cases A with
        | none =>
          obtain rfl : c = 0 := hA rfl
          obtain rfl : n = 0 := by have := hS.2.1; omega
          have hb : bs = [] := List.eq_nil_of_length_eq_zero hl
          subst hb
          refine (rtake_nil p m g w hG (by omega)).mono ?_
          rintro e w' ⟨rfl, hG', hg⟩
          exact ⟨⟨none, 0, 0, rfl, by simpa using nil_slA w', (fun h => by cases h), fun _ _ h => by cases h⟩, hG', hg⟩
        | some ad =>
          obtain ⟨b, o, s⟩ := ad
          have hs0 : n = 0 ∨ s = none := by
            rcases Nat.eq_zero_or_pos n with h | h
            · exact .inl h
            · obtain ⟨b', o', e, _⟩ := hS.2.2 h
              injection e with e
              injection e with e3 e4 e5
              exact .inr e5
          refine (rtake_some b o n c p m s g w hG (by omega) hS.2.1 hc).mono ?_
          rintro e w' ⟨rfl, hG', hg⟩
          refine ⟨⟨_, _, _, rfl, ?_, (fun h => by cases h), fun b' o' h hm0 => ?_⟩, hG', hg⟩
          · rcases hs0 with h0 | rfl
            · obtain rfl : m = 0 := by omega
              exact ⟨by simp, by omega, fun h => absurd h (Nat.lt_irrefl _)⟩
            · have hS' := hS.grown hg (fun b' o' h h0 he => hne b' o' h h0 (by injection he))
              rcases Nat.eq_zero_or_pos m with rfl | hm0
              · exact ⟨by simp, by omega, fun h => absurd h (Nat.lt_irrefl _)⟩
              · have := hS'.sub (i := p) (j := p + m) (by omega) (by omega)
                have hmid : midO ⟨b, o, none⟩ c p = ⟨b, o + p, none⟩ := by
                  have := hS.2.1
                  unfold midO; rw [if_neg (by omega), Addr.add_mid]
                rw [hmid]
                rwa [show p + m - p = m by omega] at this
          · rcases hs0 with h0 | rfl
            · omega
            · injection h with h
              have h2 := midO_block ⟨b, o, none⟩ c p
              rw [h] at h2
              exact ⟨by omega, o, by rw [show b' = b from h2]⟩
theorem rtake_any (bs : List UInt8) (A : Option Addr) (n c p : Nat) (bad : Bool) (k : Int) (g : Nat) (w : World) (hG : Has w g 91 (curC A n c p bad)) (hS : SlA w A n c bs) (hA : A = none → c = 0) (hne : ∀ b o, A = some ⟨b, o, none⟩ → 0 < n → g ≠ b) (hp : p ≤ n) (hc : c < 9223372036854775808) :
    Calls Try.prog 37 #[.pointer (some ⟨g, 0, none⟩), .int .i64 k] w fun e w' => (∃ A' n' c', e = .returned (.slice A' n' c') ∧ SlA w' A' n' c' (tkB bs p bad k) ∧ ∀ b o, A' = some ⟨b, o, none⟩ → 0 < n' → g ≠ b) ∧ Has w' g 91 (curC A n c (tkP bs.length p bad k) (!okT bs.length p bad k)) ∧ w.grownBy w' (some g) :=
  (rtake_src bs A n c p bad k g w hG hS hA hne hp hc).mono fun _ _ ⟨⟨A', n', c', e, h1, _, h3⟩, h4⟩ => ⟨⟨A', n', c', e, h1, fun b o hb hn => by obtain ⟨h5, o2, h6⟩ := h3 b o hb hn; exact hne b o2 h6 h5⟩, h4⟩
theorem leT_nil (bs : List UInt8) (k p : Nat) (h : k = 0) : leT (bsN bs) k p = 0 := by subst h; rfl
theorem rnum_any (bs : List UInt8) (A : Option Addr) (n c p k : Nat) (bad : Bool) (g : Nat) (w : World) (hG : Has w g 91 (curC A n c p bad)) (hS : SlA w A n c bs) (hA : A = none → c = 0) (hne : ∀ b o, A = some ⟨b, o, none⟩ → 0 < n → g ≠ b) (hp : p ≤ n) (hc : c < 9223372036854775808) (hk : 0 < k) (hk4 : k ≤ 4) :
    Calls Try.prog 24 #[.pointer (some ⟨g, 0, none⟩), .int .i64 (k : Int)] w fun e w' => e = .returned (.int .i64 ((tkN bs p bad k : Nat) : Int)) ∧ Has w' g 91 (curC A n c (tkP bs.length p bad k) (!okT bs.length p bad k)) ∧ w.grownBy w' (some g) := by
  have hl : bs.length = n := hS.1
  cases hok : okT bs.length p bad k with
  | false =>
    have e0 : tkN bs p bad k = 0 := by unfold tkN; rw [hok]; rfl
    rw [e0, (tkB_no hok).2]
    refine rnum_fail k A n c p g w ?_
    cases bad with
    | true => exact rtake_bad A n c p k g w hG
    | false =>
      refine rtake_far A n c p k g w hG hp (by have := hS.2.1; omega) (by omega) ?_
      unfold okT at hok
      simp only [Bool.not_false, Bool.true_and, decide_eq_false_iff_not] at hok
      omega
  | true =>
    have hb : bad = false := by
      cases bad with
      | false => rfl
      | true => exact absurd hok (by unfold okT; simp)
    subst hb
    have hok' := hok
    unfold okT at hok'
    simp only [Bool.not_false, Bool.true_and, decide_eq_true_eq] at hok'
    have hn0 : 0 < n := by omega
    obtain ⟨b, o, rfl, _⟩ := hS.2.2 hn0
    have e0 : tkN bs p false k = leT (bsN bs) k p := by unfold tkN; rw [if_pos hok]
    have e2 : tkP bs.length p false (k : Int) = p + k := by unfold tkP; rw [if_pos hok]; rfl
    rw [e0, e2]
    exact rnum_ok bs b o n c p k g w hG hS (hne b o rfl hn0).symm (by omega) hk hk4 hc
end Go.Proofs.Ytfdoloonllhodaa
namespace Go.Proofs.Ytfdoloonllhodaa
open Go Go.RowKit

theorem ret_bool {a b : Bool} (h : a = b) : Ending.returned (.bool a) = Ending.returned (.bool b) := by rw [h]
/-- the cells of a cursor -/
def curB (A : Option Addr) (n c : Nat) (bad : Bool) : Array Value := #[.slice A n c, .bool bad]
set_option maxRecDepth 100000 in
set_option maxHeartbeats 1000000 in
theorem pbad_any (A : Option Addr) (n c : Nat) (bad : Bool) (g : Nat) (w : World) (hG : Has w g 123 (curB A n c bad)) :
    Calls Try.prog 34 #[curAt g] w fun e w' => e = .returned (.bool bad) ∧ w = w' := by
  have hc1 : w.cell? ⟨g, 1, none⟩ = some (.bool bad) := hG.cell 1
  go_enter Try.func34, Try.ntmps34
  go_wp2_with fail
  go_ret
  exact ⟨rfl, rfl⟩
set_option maxRecDepth 100000 in
set_option maxHeartbeats 1000000 in
theorem pbad_nil (w : World) :
    Calls Try.prog 34 #[.pointer none] w fun e w' => e = .returned (.bool true) ∧ w = w' := by
  go_enter Try.func34, Try.ntmps34
  go_wp2_with fail
  go_ret
  exact ⟨rfl, rfl⟩
set_option maxRecDepth 100000 in
set_option maxHeartbeats 1000000 in
theorem pend2_any (a n : Nat) (w : World) (ha : a < 4294967296) (hn : n < 4294967296) :
    Calls Try.prog 48 #[.int .u32 (a : Int), .int .u32 (n : Int)] w fun e w' => e = .returned (.int .u64 ((a : Int) + (n : Int))) ∧ w = w' := by
  go_enter Try.func48, Try.ntmps48
  go_wp2_with fail
  go_ret
  exact ⟨rfl, rfl⟩
set_option maxRecDepth 100000 in
set_option maxHeartbeats 1000000 in
theorem pwithin_any (a n b m : Nat) (w : World) (ha : a < 4294967296) (hn : n < 4294967296) (hb : b < 4294967296) (hm : m < 4294967296) :
    Calls Try.prog 41 #[.int .u32 (a : Int), .int .u32 (n : Int), .int .u32 (b : Int), .int .u32 (m : Int)] w fun e w' => e = .returned (.bool (inB a n b m)) ∧ w = w' := by
  by_cases h1 : (b : Int) ≤ (a : Int)
  · by_cases h2 : (a : Int) + (n : Int) ≤ (b : Int) + (m : Int)
    · have hr : inB a n b m = true := decide_eq_true (by omega)
      rw [hr]
      go_enter Try.func41, Try.ntmps41
      go_wp2_with (refine (pend2_any _ _ _ (by omega) (by omega)).mono ?_; rintro e w' ⟨rfl, rfl⟩)
      go_ret
      exact ⟨rfl, rfl⟩
    · have hr : inB a n b m = false := decide_eq_false (by omega)
      rw [hr]
      go_enter Try.func41, Try.ntmps41
      go_wp2_with (refine (pend2_any _ _ _ (by omega) (by omega)).mono ?_; rintro e w' ⟨rfl, rfl⟩)
      go_ret
      exact ⟨ret_bool (decide_eq_false (by omega)), rfl⟩
  · have hr : inB a n b m = false := decide_eq_false (by omega)
    rw [hr]
    go_enter Try.func41, Try.ntmps41
    go_wp2_with fail
    go_ret
    exact ⟨rfl, rfl⟩
end Go.Proofs.Ytfdoloonllhodaa
namespace Go.Proofs.Ytfdoloonllhodaa
open Go Go.RowKit

def lightB : Nat → List Pay → Bool
  | _, [] => true
  | n, p :: ps => if 100 < n + (1 + p.gs.length) then false else lightB (n + (1 + p.gs.length)) ps
theorem drop_cons {α : Type} (l : List α) (d : α) (i : Nat) (h : i < l.length) : l.drop i = l.getD i d :: l.drop (i + 1) := by
  rw [List.drop_eq_getElem_cons h]
  simp [List.getD_eq_getElem?_getD, h]

end Go.Proofs.Ytfdoloonllhodaa
namespace Go.Proofs.Ytfdoloonllhodaa
open Go Go.RowKit

def fineB (g : Gr) : Bool := decide (2147487744 ≤ g.s ∧ g.s + g.z ≤ 2147549184 ∧ g.z ≠ 0 ∧ g.s % 4 = 0 ∧ g.z % 4 = 0 ∧ 1 ≤ g.r ∧ g.r ≤ 5)
end Go.Proofs.Ytfdoloonllhodaa
namespace Go.Proofs.Ytfdoloonllhodaa
open Go Go.RowKit

def gcells (gs : List Gr) : List Value := gs.flatMap fun g => [grV g 0, grV g 1, grV g 2]
theorem gcells_len : ∀ gs, (gcells gs).length = gs.length * 3
  | [] => rfl
  | g :: gs => by
    have := gcells_len gs
    simp only [gcells, List.flatMap_cons, List.length_append, List.length_cons, List.length_nil] at this ⊢
    omega
theorem gcells_app (a b : List Gr) : gcells (a ++ b) = gcells a ++ gcells b := by simp [gcells]
theorem gcells_one (g : Gr) : gcells [g] = [grV g 0, grV g 1, grV g 2] := rfl
theorem gcells_get : ∀ (gs : List Gr) (j i : Nat), j < gs.length → i < 3 → (gcells gs)[j * 3 + i]? = some (grV (gs.getD j gr0) i)
  | [], j, i, h, _ => by simp at h
  | g :: gs, 0, i, _, hi => by
    rcases (show i = 0 ∨ i = 1 ∨ i = 2 by omega) with rfl | rfl | rfl <;> rfl
  | g :: gs, j + 1, i, h, hi => by
    have e : (j + 1) * 3 + i = j * 3 + i + 3 := by omega
    have h2 := gcells_get gs j i (by simpa using h) hi
    show ([grV g 0, grV g 1, grV g 2] ++ gcells gs)[(j + 1) * 3 + i]? = _
    rw [e, List.getElem?_append_right (by simp)]
    simpa using h2
theorem own_blk {w : World} {base size n : Nat} {e : TypeId} {v : Value} {xs : List Value} (h : w.ownsRow base e size v n xs) {l : Nat} (hl : v.ownBlock = some l) : base ≤ l ∧ l < w.heap.size := by
  rcases h.2 with ⟨rfl, _⟩ | ⟨g, cap, cur, rfl, hb, hg, _⟩
  · cases hl
  · have : g = l := by simpa [Value.ownBlock] using hl
    subst this
    exact ⟨hb, (Array.getElem?_eq_some_iff.1 hg).1⟩
theorem own_has {w : World} {base size n g : Nat} {e t : TypeId} {v : Value} {xs : List Value} {cs : Array Value} (h : w.ownsRow base e size v n xs) (hG : Has w g t cs) (hte : t ≠ e) : ∀ l, v.ownBlock = some l → g ≠ l := by
  intro l hl he
  subst he
  rcases h.2 with ⟨rfl, _⟩ | ⟨g', cap, cur, rfl, hb, hg, _⟩
  · cases hl
  · have : g' = g := by simpa [Value.ownBlock] using hl
    subst this
    have h2 : w.heap[g']? = some (.cells cs t (0, 0)) := hG
    rw [h2] at hg
    injection hg with hg
    injection hg with _ e2 _
    exact hte e2
theorem has_own {w w' : World} {base size n g : Nat} {e t : TypeId} {v : Value} {xs : List Value} {cs : Array Value} (h : w.ownsRow base e size v n xs) (hG : Has w g t cs) (hte : t ≠ e) (k : w.grownBy w' v.ownBlock) : Has w' g t cs :=
  has_grown hG k (own_has h hG hte)
theorem below_own {a w w' : World} {B base size n : Nat} {e : TypeId} {v : Value} {xs : List Value} (hb : Below B a w) (h : w.ownsRow base e size v n xs) (hB : B ≤ base) (hw : B ≤ w.heap.size) (k : w.grownBy w' v.ownBlock) : Below B a w' := by
  refine hb.trans ⟨k.os, k.tape, k.output, k.size, fun i hi => k.block i (by omega) (fun he => ?_)⟩
  have := own_blk h he.symm
  omega
theorem own_after {w w' : World} {base size n : Nat} {e : TypeId} {v : Value} {xs : List Value} (h : w.ownsRow base e size v n xs) (k : Below w.heap.size w w') : w'.ownsRow base e size v n xs := by
  refine ⟨h.1, ?_⟩
  rcases h.2 with h1 | ⟨g, cap, cur, h1, hb, hg, h3⟩
  · exact .inl h1
  · exact .inr ⟨g, cap, cur, h1, hb, (k.block g (Array.getElem?_eq_some_iff.1 hg).1).trans hg, h3⟩
/-- have two grants a byte in common -/
def ovl (g h : Gr) : Bool := !apB g.s g.z h.s h.z
def pvBad : Option Gr → Gr → Bool
  | none, _ => false
  | some h, g => decide (g.s ≤ h.s)
def errG (all : List Gr) (pv : Option Gr) : List Gr → Nat
  | [] => 0
  | g :: gs => if (!fineB g || pvBad pv g) = true then 10 else if all.any (ovl g) = true then 11 else errG (all ++ [g]) (some g) gs
def badP (p : Pay) : Bool := decide (p.gs.length = 0 ∨ 4 < p.gs.length ∨ p.c < 0 ∨ 255 < p.c ∨ 32768 < p.z ∨ p.b % 4 ≠ 0)
def errP (all : List Gr) : List Pay → Nat
  | [] => 0
  | p :: ps => if badP p = true then 3 else if errG all none p.gs = 0 then errP (all ++ p.gs) ps else errG all none p.gs
def badM (m : Man) : Bool := decide (m.k < 0 ∨ 255 < m.k ∨ m.ps.length = 0 ∨ 4 < m.ps.length)
/-- the first check that fails -/
def rightM (m : Man) : Nat := if badM m = true then 3 else errP [] m.ps
end Go.Proofs.Ytfdoloonllhodaa
namespace Go.Proofs.Ytfdoloonllhodaa
open Go Go.RowKit

theorem ret_int {k : IntKind} {a b : Int} (h : a = b) : Ending.returned (.int k a) = Ending.returned (.int k b) := by rw [h]
theorem badM_ways (k : Int) (n : Nat) (h : k < 0 ∨ 255 < k ∨ n = 0 ∨ 4 < n) :
    (k < 0) ∨ (0 ≤ k ∧ 255 < k) ∨ (0 ≤ k ∧ k ≤ 255 ∧ ((n : Int) == 0) = true) ∨ (0 ≤ k ∧ k ≤ 255 ∧ ((n : Int) == 0) = false ∧ (4 : Int) < (n : Int)) := by
  simp only [beq_iff_eq, beq_eq_false_iff_ne]
  omega
theorem badP_ways (n : Nat) (c : Int) (z b : Nat) (h : n = 0 ∨ 4 < n ∨ c < 0 ∨ 255 < c ∨ 32768 < z ∨ b % 4 ≠ 0) :
    (((n : Int) == 0) = true) ∨ (((n : Int) == 0) = false ∧ (4 : Int) < (n : Int)) ∨ (((n : Int) == 0) = false ∧ (n : Int) ≤ 4 ∧ c < 0) ∨ (((n : Int) == 0) = false ∧ (n : Int) ≤ 4 ∧ 0 ≤ c ∧ 255 < c) ∨
    (((n : Int) == 0) = false ∧ (n : Int) ≤ 4 ∧ 0 ≤ c ∧ c ≤ 255 ∧ (32768 : Int) < (z : Int)) ∨ (((n : Int) == 0) = false ∧ (n : Int) ≤ 4 ∧ 0 ≤ c ∧ c ≤ 255 ∧ (z : Int) ≤ 32768 ∧ ((b : Int) % 4 != 0) = true) := by
  simp only [beq_iff_eq, beq_eq_false_iff_ne, bne_iff_ne]
  omega
theorem goodP_way (n : Nat) (c : Int) (z b : Nat) (h : ¬ (n = 0 ∨ 4 < n ∨ c < 0 ∨ 255 < c ∨ 32768 < z ∨ b % 4 ≠ 0)) :
    ((n : Int) == 0) = false ∧ (n : Int) ≤ 4 ∧ 0 ≤ c ∧ c ≤ 255 ∧ (z : Int) ≤ 32768 ∧ ((b : Int) % 4 != 0) = false := by
  simp only [beq_eq_false_iff_ne, bne_eq_false_iff_eq]
  omega
def prevAt (gs : List Gr) (k : Nat) : Option Gr := if k = 0 then none else some (gs.getD (k - 1) gr0)
end Go.Proofs.Ytfdoloonllhodaa
namespace Go.Proofs.Ytfdoloonllhodaa
open Go Go.RowKit

/-- the value is a slice that reads as these bytes -/
def RowB (w : World) (v : Value) (bs : List UInt8) : Prop :=
  ∃ A n c, v = .slice A n c ∧ SlA w A n c bs ∧ (A = none → c = 0) ∧ ∀ b o s, A = some ⟨b, o, s⟩ → 0 < n → ∃ cs fr, w.heap[b]? = some (Obj.cells cs 5 fr)
/-- what may happen beside: blocks of bytes may be marked, rows of slices written; all else stays -/
structure Kb (B : Nat) (w w' : World) : Prop where
  bel : Below B w w'
  blk : ∀ (b : Nat) (cs : Array Value) (t : TypeId) (fr : Nat × Nat), w.heap[b]? = some (Obj.cells cs t fr) → t ≠ 22 → ∃ fr', w'.heap[b]? = some (Obj.cells cs t fr') ∧ (t ≠ 5 → fr' = fr)
theorem Kb.refl (B : Nat) (w : World) : Kb B w w := ⟨Below.refl _ _, fun _ _ _ fr h _ => ⟨fr, h, fun _ => rfl⟩⟩
theorem Kb.trans {B : Nat} {a b c : World} (h : Kb B a b) (k : Kb B b c) : Kb B a c := ⟨h.bel.trans k.bel, fun i cs t fr hi ht => by
  obtain ⟨f1, h1, e1⟩ := h.blk i cs t fr hi ht
  obtain ⟨f2, h2, e2⟩ := k.blk i cs t f1 h1 ht
  exact ⟨f2, h2, fun h5 => (e2 h5).trans (e1 h5)⟩⟩
theorem Kb.of {B : Nat} {w w' : World} (h : Below w.heap.size w w') (hB : B ≤ w.heap.size) : Kb B w w' := ⟨h.mono hB, fun i _cs _t fr hi _ => ⟨fr, (h.block i (Array.getElem?_eq_some_iff.1 hi).1).trans hi, fun _ => rfl⟩⟩
theorem Kb.has {B g : Nat} {w w' : World} {t : TypeId} {cs : Array Value} (h : Kb B w w') (hG : Has w g t cs) (h1 : t ≠ 22) (h2 : t ≠ 5) : Has w' g t cs := by
  obtain ⟨f, h3, e⟩ := h.blk g cs t (0, 0) hG h1
  rw [e h2] at h3
  exact h3
theorem cell_cells {w w' : World} {b o : Nat} {cs : Array Value} {t : TypeId} {f f' : Nat × Nat} (h : w.heap[b]? = some (Obj.cells cs t f)) (h' : w'.heap[b]? = some (Obj.cells cs t f')) : w'.cell? ⟨b, o, none⟩ = w.cell? ⟨b, o, none⟩ := by
  unfold World.cell?
  dsimp only
  rw [h, h']
theorem RowB.keep {B : Nat} {w w' : World} {v : Value} {bs : List UInt8} (h : RowB w v bs) (k : Kb B w w') : RowB w' v bs := by
  obtain ⟨A, n, c, rfl, hS, hA, ht⟩ := h
  refine ⟨A, n, c, rfl, ⟨hS.1, hS.2.1, fun h0 => ?_⟩, hA, fun b o s e h0 => ?_⟩
  · obtain ⟨b, o, e, hlt, hc⟩ := hS.2.2 h0
    obtain ⟨cs, fr, hb⟩ := ht b o none e h0
    obtain ⟨f2, h2, _⟩ := k.blk b cs _ fr hb (by decide)
    exact ⟨b, o, e, Nat.lt_of_lt_of_le hlt k.bel.size, fun j hj => (cell_cells hb h2).trans (hc j hj)⟩
  · obtain ⟨cs, fr, hb⟩ := ht b o s e h0
    obtain ⟨f2, h2, _⟩ := k.blk b cs _ fr hb (by decide)
    exact ⟨cs, f2, h2⟩
theorem own_rowB {w : World} {base n : Nat} {v : Value} {bs : List UInt8} (h : w.ownsRow base 5 1 v n (bs.map by8)) : RowB w v bs := by
  obtain ⟨A, c, rfl⟩ := own_form h
  obtain ⟨hS, hA⟩ := own_slA h
  refine ⟨A, n, c, rfl, hS, hA, fun b o s e h0 => ?_⟩
  rcases h.2 with ⟨hv, _⟩ | ⟨g, cap, cur, hv, hb, hg, _⟩
  · injection hv with hv _ _
    rw [hv] at e
    cases e
  · have e1 : A = some ⟨g, 0, none⟩ := by injection hv
    rw [e1] at e
    injection e with e
    injection e with e2 _ _
    subst e2
    exact ⟨cur, (0, 0), hg⟩
theorem leB_snoc (m x : Nat) : leB (m + 1) x = leB m x ++ [UInt8.ofNat (x / 256 ^ m)] := by
  unfold leB
  rw [List.range_succ, List.map_append]
  rfl
theorem leB_len (m x : Nat) : (leB m x).length = m := by simp [leB]
theorem byte_at (x i : Nat) : Value.int .u8 ((x : Int) / 2 ^ (8 * i) % 256) = by8 (UInt8.ofNat (x / 256 ^ i)) := by
  have h256 : (256 : Nat) ^ i = 2 ^ (8 * i) := by rw [Nat.pow_mul]
  unfold by8
  rw [UInt8.toNat_ofNat', h256]
  congr 1
set_option maxRecDepth 100000 in
set_option maxHeartbeats 1000000 in
theorem put_any (n x : Nat) (w : World) (hn : n ≤ 7) (_hx : x < 9223372036854775808) :
    Calls Try.prog 12 #[.int .i64 (n : Int), .int .i64 (x : Int)] w fun e w' => (∃ v, e = .returned v ∧ RowB w' v (leB n x)) ∧ Below w.heap.size w w' := by
  go_enter Try.func12, Try.ntmps12
  go_wp2_with fail
  go_loopw [5, 6] (fun va ct wr => ∃ i : Nat, i ≤ n ∧ ct = .int .i64 (i : Int) ∧ wr.ownsRow w.heap.size 5 1 va i ((leB i x).map by8) ∧ Below w.heap.size w wr) (fun _ ct _ => (n - (intOf ct)).toNat)
  case atStart => exact ⟨0, Nat.zero_le _, rfl, World.ownsRow_nil _ _ _ _, Below.refl _ _⟩
  case round =>
    obtain ⟨i, hi, rfl, hown, hb⟩ := hrel
    by_cases hlt : i < n
    · have di : (i : Int) < (n : Int) := by omega
      have hws := hb.size
      have HB := Lib.hid hb
      have HOWN := Lib.hid hown
      have hbt := byte_at x i
      have HBT := Lib.hid hbt
      clear hbt hown hb
      go_wp2_with (
        refine wp_append_byte rfl _ _ rfl w.heap.size _ i _ rfl (own_after HOWN.out ((Below.refl _ _).alloc (Nat.le_refl _) _)) wr.heap.size rfl (UInt8.ofNat (x / 256 ^ i)) (((Has.new _ _ _).cell 0).trans (congrArg some HBT.out)) (by omega) (by simp; omega) ?_
        intro v' w' hown' hgr')
      go_roundw
      case rel =>
        refine ⟨i + 1, hlt, by go_num, ?_, ?_⟩
        · rw [leB_snoc, List.map_append]
          exact hown'
        · have hb1 : Below w.heap.size w (wr.alloc (.cells #[.int .u8 ((x : Int) / 2 ^ (8 * i) % 256)] 5)) := HB.out.alloc hws _
          exact below_own hb1 (own_after HOWN.out ((Below.refl _ _).alloc (Nat.le_refl _) _)) (Nat.le_refl _) hb1.size hgr'
      case measure => simp [intOf] <;> omega
    · obtain rfl : i = n := by omega
      go_wp2_with fail
      go_ret
      exact ⟨⟨_, rfl, own_rowB hown⟩, hb⟩
/-- the slice reads as these lists of bytes -/
def SlB (w : World) (s : Sl) (bss : List (List UInt8)) : Prop :=
  bss.length = s.n ∧ s.n ≤ 140737488355328 ∧ (0 < s.n → ∃ b o, s.A = some ⟨b, o, none⟩ ∧ b < w.heap.size ∧ ∀ j, j < s.n → ∃ v, w.cell? ⟨b, o + j, none⟩ = some v ∧ RowB w v (bss.getD j []))
theorem flat_take (bss : List (List UInt8)) (i : Nat) (h : i < bss.length) : (bss.take (i + 1)).flatten = (bss.take i).flatten ++ bss.getD i [] := by
  rw [List.take_add_one, List.flatten_append, List.getD_eq_getElem?_getD, List.getElem?_eq_getElem h]
  simp
theorem flat_le (bss : List (List UInt8)) (i : Nat) : (bss.take i).flatten.length ≤ bss.flatten.length := by
  conv => rhs; rw [← List.take_append_drop i bss, List.flatten_append, List.length_append]
  omega
set_option maxRecDepth 100000 in
set_option maxHeartbeats 1000000 in
theorem join_any (s : Sl) (bss : List (List UInt8)) (w : World) (hs : SlB w s bss) (hl : bss.flatten.length ≤ 1000000) :
    Calls Try.prog 19 #[s.v] w fun e w' => (∃ v, e = .returned v ∧ RowB w' v bss.flatten) ∧ Below w.heap.size w w' := by
  obtain ⟨A, n, c, rfl⟩ := s.out
  obtain ⟨hbl, hnl, hc⟩ := hs
  replace hbl : bss.length = n := hbl
  replace hnl : n ≤ 140737488355328 := hnl
  rw [show Sl.v ⟨A, n, c⟩ = .slice A n c from rfl]
  have HC := Lib.hid hc
  have HBL := Lib.hid hbl
  clear hc hbl
  go_enter Try.func19, Try.ntmps19
  go_wp2_with fail
  go_loopw [3, 4] (fun va ct wr => ∃ i m : Nat, i ≤ n ∧ ct = .int .i64 (i : Int) ∧ m = (bss.take i).flatten.length ∧ wr.ownsRow w.heap.size 5 1 va m ((bss.take i).flatten.map by8) ∧ Below w.heap.size w wr) (fun _ ct _ => (n - (intOf ct)).toNat)
  case atStart => exact ⟨0, 0, Nat.zero_le _, rfl, rfl, World.ownsRow_nil _ _ _ _, Below.refl _ _⟩
  case round =>
    obtain ⟨i, m, hi, rfl, hm, hown, hb⟩ := hrel
    by_cases hlt : i < n
    · have di : (i : Int) < (n : Int) := by omega
      have hws := hb.size
      obtain ⟨b, o, hA, hbl, hcs⟩ := HC.out (by show 0 < n; omega)
      replace hA : A = some ⟨b, o, none⟩ := hA
      subst hA
      obtain ⟨v, hcell, hrow⟩ := hcs i hlt
      replace hcell := (hb.cell (p := ⟨b, o + i, none⟩) hbl).trans hcell
      replace hrow := hrow.keep (Kb.of hb (Nat.le_refl _))
      obtain ⟨A1, n1, c1, rfl, hS1, hA1, _⟩ := hrow
      have hft := flat_take bss i (by rw [HBL.out]; exact hlt)
      have hfl := flat_le bss (i + 1)
      have hx1 := Addr.add_mid b o i
      rw [hft, List.length_append] at hfl
      have hln := hS1.1
      have HFT := Lib.hid hft
      have HM := Lib.hid hm
      have hbd : m + n1 ≤ 1000000 := by omega
      have HB := Lib.hid hb
      have HS := Lib.hid hS1
      have HLN := Lib.hid hln
      clear hcs hft hm hb hfl hS1 hln
      go_wp2_with (
        refine wp_append_bytes rfl _ _ rfl w.heap.size _ m _ rfl hown A1 n1 c1 rfl _ HS.out hA1 hbd hws ?_
        intro v' w' hown' hgr')
      go_roundw
      case rel =>
        refine ⟨i + 1, m + n1, hlt, by go_num, ?_, ?_, below_own HB.out hown (Nat.le_refl _) hws hgr'⟩
        · rw [HFT.out, List.length_append, ← HM.out, HLN.out]
        · rw [HFT.out, List.map_append]; exact hown'
      case measure => simp [intOf] <;> omega
    · obtain rfl : i = n := by omega
      have htk : bss.take i = bss := List.take_of_length_le (by rw [HBL.out]; exact Nat.le_refl _)
      rw [htk] at hown
      have HOWN := Lib.hid hown
      clear htk hown hm
      go_wp2_with fail
      go_ret
      exact ⟨⟨_, rfl, own_rowB HOWN.out⟩, hb⟩
end Go.Proofs.Ytfdoloonllhodaa
