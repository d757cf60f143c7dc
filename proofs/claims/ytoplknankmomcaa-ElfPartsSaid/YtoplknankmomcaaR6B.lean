/-
The reference of layer 6: its cursor's End and Take.
-/
import Derived.Test.YtoplknankmomcaaR6A
import Derived.Test.YtoplknankmomcaaQw
import Derived.Test.YtoplknankmomcaaGenB
namespace Go.Proofs.Ytoplknankmomcaa
open Go Go.RowKit

/-- the reference's cursor: bytes, place, failed -/
def curF (A : Option Addr) (n c p : Nat) (bad : Bool) (j : Nat) : Value := if j = 0 then .slice A n c else if j = 1 then .int .i64 (p : Int) else .bool bad
def curC (A : Option Addr) (n c p : Nat) (bad : Bool) : Array Value := tab 3 (curF A n c p bad)
theorem infoCur : (Try.prog.info? 72).map (·.size) = some 3 := by kernel_rfl
theorem load_bool (g j : Nat) (v : Value) (w : World) (h : w.cell? ⟨g, j, none⟩ = some v) : (Instr.loadAt 4 (.pointer (some ⟨g, j, none⟩))).run Try.prog w = .ok v w := by
  go_simp
theorem load_int (g j : Nat) (v : Value) (w : World) (h : w.cell? ⟨g, j, none⟩ = some v) : (Instr.loadAt 3 (.pointer (some ⟨g, j, none⟩))).run Try.prog w = .ok v w := by
  go_simp
theorem load_sl (g j : Nat) (v : Value) (w : World) (h : w.cell? ⟨g, j, none⟩ = some v) : (Instr.loadAt 25 (.pointer (some ⟨g, j, none⟩))).run Try.prog w = .ok v w := by
  go_simp
theorem int_eq (o1 o2 : Operand) (x y : Int) (w : World) : (do eqGuard .eql 3 o1 o2 (.int .i64 x) (.int .i64 y); binOp .eql 3 (.int .i64 x) (.int .i64 y) : Sem Value).run Try.prog w = .ok (.bool (x == y)) w := by
  go_simp
theorem int_eqT (o1 o2 : Operand) (x y : Int) (h : x = y) (w : World) : (do eqGuard .eql 3 o1 o2 (.int .i64 x) (.int .i64 y); binOp .eql 3 (.int .i64 x) (.int .i64 y) : Sem Value).run Try.prog w = .ok (.bool true) w := by
  rw [int_eq, beq_iff_eq.2 h]
theorem int_eqF (o1 o2 : Operand) (x y : Int) (h : x ≠ y) (w : World) : (do eqGuard .eql 3 o1 o2 (.int .i64 x) (.int .i64 y); binOp .eql 3 (.int .i64 x) (.int .i64 y) : Sem Value).run Try.prog w = .ok (.bool false) w := by
  rw [int_eq, beq_eq_false_iff_ne.2 h]
theorem int_lt (o1 o2 : Operand) (x y : Int) (w : World) : (do eqGuard .lss 3 o1 o2 (.int .i64 x) (.int .i64 y); binOp .lss 3 (.int .i64 x) (.int .i64 y) : Sem Value).run Try.prog w = .ok (.bool (decide (x < y))) w := by
  go_simp
theorem int_ltT (o1 o2 : Operand) (x y : Int) (h : x < y) (w : World) : (do eqGuard .lss 3 o1 o2 (.int .i64 x) (.int .i64 y); binOp .lss 3 (.int .i64 x) (.int .i64 y) : Sem Value).run Try.prog w = .ok (.bool true) w := by
  rw [int_lt, decide_eq_true h]
theorem int_ltF (o1 o2 : Operand) (x y : Int) (h : ¬ x < y) (w : World) : (do eqGuard .lss 3 o1 o2 (.int .i64 x) (.int .i64 y); binOp .lss 3 (.int .i64 x) (.int .i64 y) : Sem Value).run Try.prog w = .ok (.bool false) w := by
  rw [int_lt, decide_eq_false h]
theorem int_gt (o1 o2 : Operand) (x y : Int) (w : World) : (do eqGuard .gtr 3 o1 o2 (.int .i64 x) (.int .i64 y); binOp .gtr 3 (.int .i64 x) (.int .i64 y) : Sem Value).run Try.prog w = .ok (.bool (decide (y < x))) w := by
  go_simp
theorem int_gtT (o1 o2 : Operand) (x y : Int) (h : y < x) (w : World) : (do eqGuard .gtr 3 o1 o2 (.int .i64 x) (.int .i64 y); binOp .gtr 3 (.int .i64 x) (.int .i64 y) : Sem Value).run Try.prog w = .ok (.bool true) w := by
  rw [int_gt, decide_eq_true h]
theorem int_gtF (o1 o2 : Operand) (x y : Int) (h : ¬ y < x) (w : World) : (do eqGuard .gtr 3 o1 o2 (.int .i64 x) (.int .i64 y); binOp .gtr 3 (.int .i64 x) (.int .i64 y) : Sem Value).run Try.prog w = .ok (.bool false) w := by
  rw [int_gt, decide_eq_false h]
theorem int_subN (o1 o2 : Operand) (x y z : Nat) (h : y ≤ x) (hx : x < 9223372036854775808) (hz : x - y = z) (w : World) : (do eqGuard .sub 3 o1 o2 (.int .i64 (x : Int)) (.int .i64 (y : Int)); binOp .sub 3 (.int .i64 (x : Int)) (.int .i64 (y : Int)) : Sem Value).run Try.prog w = .ok (.int .i64 (z : Int)) w := by
  have e : (x : Int) - (y : Int) = (z : Int) := by omega
  have hw : IntKind.i64.wrap (z : Int) = (z : Int) := by simp [IntKind.wrap, IntKind.bits, IntKind.signed]; omega
  go_simp
theorem not_bool (b : Bool) (w : World) : (Op.unary .not (.bool b)).run Try.prog w = .ok (.bool (!b)) w := by
  cases b <;> go_simp
set_option maxRecDepth 100000 in
set_option maxHeartbeats 1000000 in
theorem rtake_bad (A : Option Addr) (n c p : Nat) (k : Int) (g : Nat) (w : World) (hG : Has w g 72 (curC A n c p true))  : Calls Try.prog 24 #[.pointer (some ⟨g, 0, none⟩), .int .i64 k] w fun e w' => e = .returned (.slice none 0 0) ∧ Has w' g 72 (curC A n c p true) ∧ w.grownBy w' (some g) := by
  have hl := hG.lt
  go_enter Try.func24, Try.ntmps24
  go_wp2_with fail
  refine region_quiet_tail (Below w.heap.size w) 21 (by kernel_rfl) (by kernel_rfl) (below_drewN (Below.refl _ _) 1) ?_
  simp only [List.take_succ_cons, List.take_zero, List.drop_succ_cons, List.drop_zero]
  refine WQ.out ?_
  refine WQ.lift (wpQ_move _ rfl rfl (.pointer (some ⟨g, 0, none⟩)) rfl) ?_
  simp only [Act.put, List.setIfInBounds_toArray, List.set_cons_zero, List.set_cons_succ]
  refine WQ.lift (wpQ_val rfl (.pointer (some ⟨g, 0, none⟩)) (fun w' _ => by go_simp)) ?_
  simp only [Act.put, List.setIfInBounds_toArray, List.set_cons_zero, List.set_cons_succ]
  refine WQ.lift (wpQ_val rfl (.pointer (some ⟨g, 2, none⟩)) (fun w' _ => by go_simp)) ?_
  simp only [Act.put, List.setIfInBounds_toArray, List.set_cons_zero, List.set_cons_succ]
  refine WQ.lift (wpQ_load 4 (.tmp 7) rfl rfl (.pointer (some ⟨g, 2, none⟩)) rfl (.bool true) (fun w' hC => load_bool g 2 _ w' ((hG.after hC).cellTab 2 (by omega)))) ?_
  simp only [Act.put, List.setIfInBounds_toArray, List.set_cons_zero, List.set_cons_succ]
  refine WQ.lift (wpQ_move _ rfl rfl (.bool true) rfl) ?_
  simp only [Act.put, List.setIfInBounds_toArray, List.set_cons_zero, List.set_cons_succ]
  refine WQ.skip rfl ?_
  simp only [Act.put, List.setIfInBounds_toArray, List.set_cons_zero, List.set_cons_succ]
  refine WQ.skip rfl ?_
  simp only [Act.put, List.setIfInBounds_toArray, List.set_cons_zero, List.set_cons_succ]
  refine WQ.lift (wpQ_pick _ _ _ rfl rfl true rfl (.bool true) rfl) ?_
  simp only [Act.put, List.setIfInBounds_toArray, List.set_cons_zero, List.set_cons_succ]
  refine WQ.lift (wpQ_move _ rfl rfl (.bool true) rfl) ?_
  simp only [Act.put, List.setIfInBounds_toArray, List.set_cons_zero, List.set_cons_succ]
  refine WQ.skip rfl ?_
  simp only [Act.put, List.setIfInBounds_toArray, List.set_cons_zero, List.set_cons_succ]
  refine WQ.skip rfl ?_
  simp only [Act.put, List.setIfInBounds_toArray, List.set_cons_zero, List.set_cons_succ]
  refine WQ.skip rfl ?_
  simp only [Act.put, List.setIfInBounds_toArray, List.set_cons_zero, List.set_cons_succ]
  refine WQ.skip rfl ?_
  simp only [Act.put, List.setIfInBounds_toArray, List.set_cons_zero, List.set_cons_succ]
  refine WQ.skip rfl ?_
  simp only [Act.put, List.setIfInBounds_toArray, List.set_cons_zero, List.set_cons_succ]
  refine WQ.skip rfl ?_
  simp only [Act.put, List.setIfInBounds_toArray, List.set_cons_zero, List.set_cons_succ]
  refine WQ.skip rfl ?_
  simp only [Act.put, List.setIfInBounds_toArray, List.set_cons_zero, List.set_cons_succ]
  refine WQ.skip rfl ?_
  simp only [Act.put, List.setIfInBounds_toArray, List.set_cons_zero, List.set_cons_succ]
  refine WQ.skip rfl ?_
  simp only [Act.put, List.setIfInBounds_toArray, List.set_cons_zero, List.set_cons_succ]
  refine WQ.skip rfl ?_
  simp only [Act.put, List.setIfInBounds_toArray, List.set_cons_zero, List.set_cons_succ]
  refine WQ.skip rfl ?_
  simp only [Act.put, List.setIfInBounds_toArray, List.set_cons_zero, List.set_cons_succ]
  refine WQ.skip rfl ?_
  simp only [Act.put, List.setIfInBounds_toArray, List.set_cons_zero, List.set_cons_succ]
  refine WQ.mk (wpQuiet_nil ?_)
  intro u hC
  have hG2 := hG.after hC
  have hgr := only_below hC (some g)
  have hc2 := hG2.cellTab 2 (by omega)
  have hf2 := hG2.free 2
  go_wp2_with fail
  go_ret
  refine ⟨rfl, ?_, only_trans hgr (only_setCell u g 2 (.bool true))⟩
  have h := hG2.set 2 (.bool true)
  have e : (curC A n c p true).setIfInBounds 2 (.bool true) = curC A n c p true := by unfold curC; rw [tab_set]; exact tab_ext _ _ _ fun j hj => by rcases (show j = 0 ∨ j = 1 ∨ j = 2 by omega) with rfl | rfl | rfl <;> first | rfl | simp [curF]
  rw [e] at h
  exact h
set_option maxRecDepth 100000 in
set_option maxHeartbeats 1000000 in
theorem rtake_neg (A : Option Addr) (n c p : Nat) (k : Int) (g : Nat) (w : World) (hG : Has w g 72 (curC A n c p false)) (hk : k < 0) : Calls Try.prog 24 #[.pointer (some ⟨g, 0, none⟩), .int .i64 k] w fun e w' => e = .returned (.slice none 0 0) ∧ Has w' g 72 (curC A n c p true) ∧ w.grownBy w' (some g) := by
  have hl := hG.lt
  go_enter Try.func24, Try.ntmps24
  go_wp2_with fail
  refine region_quiet_tail (Below w.heap.size w) 21 (by kernel_rfl) (by kernel_rfl) (below_drewN (Below.refl _ _) 1) ?_
  simp only [List.take_succ_cons, List.take_zero, List.drop_succ_cons, List.drop_zero]
  refine WQ.out ?_
  refine WQ.lift (wpQ_move _ rfl rfl (.pointer (some ⟨g, 0, none⟩)) rfl) ?_
  simp only [Act.put, List.setIfInBounds_toArray, List.set_cons_zero, List.set_cons_succ]
  refine WQ.lift (wpQ_val rfl (.pointer (some ⟨g, 0, none⟩)) (fun w' _ => by go_simp)) ?_
  simp only [Act.put, List.setIfInBounds_toArray, List.set_cons_zero, List.set_cons_succ]
  refine WQ.lift (wpQ_val rfl (.pointer (some ⟨g, 2, none⟩)) (fun w' _ => by go_simp)) ?_
  simp only [Act.put, List.setIfInBounds_toArray, List.set_cons_zero, List.set_cons_succ]
  refine WQ.lift (wpQ_load 4 (.tmp 7) rfl rfl (.pointer (some ⟨g, 2, none⟩)) rfl (.bool false) (fun w' hC => load_bool g 2 _ w' ((hG.after hC).cellTab 2 (by omega)))) ?_
  simp only [Act.put, List.setIfInBounds_toArray, List.set_cons_zero, List.set_cons_succ]
  refine WQ.lift (wpQ_move _ rfl rfl (.bool false) rfl) ?_
  simp only [Act.put, List.setIfInBounds_toArray, List.set_cons_zero, List.set_cons_succ]
  refine WQ.lift (wpQ_move _ rfl rfl (.int .i64 k) rfl) ?_
  simp only [Act.put, List.setIfInBounds_toArray, List.set_cons_zero, List.set_cons_succ]
  refine WQ.lift (wpQ_bin _ _ _ _ _ rfl rfl (.int .i64 k) (.int .i64 0) rfl rfl (.bool true) (fun w' _ => int_ltT _ _ _ _ hk w')) ?_
  simp only [Act.put, List.setIfInBounds_toArray, List.set_cons_zero, List.set_cons_succ]
  refine WQ.lift (wpQ_pick _ _ _ rfl rfl false rfl (.bool true) rfl) ?_
  simp only [Act.put, List.setIfInBounds_toArray, List.set_cons_zero, List.set_cons_succ]
  refine WQ.lift (wpQ_move _ rfl rfl (.bool true) rfl) ?_
  simp only [Act.put, List.setIfInBounds_toArray, List.set_cons_zero, List.set_cons_succ]
  refine WQ.skip rfl ?_
  simp only [Act.put, List.setIfInBounds_toArray, List.set_cons_zero, List.set_cons_succ]
  refine WQ.skip rfl ?_
  simp only [Act.put, List.setIfInBounds_toArray, List.set_cons_zero, List.set_cons_succ]
  refine WQ.skip rfl ?_
  simp only [Act.put, List.setIfInBounds_toArray, List.set_cons_zero, List.set_cons_succ]
  refine WQ.skip rfl ?_
  simp only [Act.put, List.setIfInBounds_toArray, List.set_cons_zero, List.set_cons_succ]
  refine WQ.skip rfl ?_
  simp only [Act.put, List.setIfInBounds_toArray, List.set_cons_zero, List.set_cons_succ]
  refine WQ.skip rfl ?_
  simp only [Act.put, List.setIfInBounds_toArray, List.set_cons_zero, List.set_cons_succ]
  refine WQ.skip rfl ?_
  simp only [Act.put, List.setIfInBounds_toArray, List.set_cons_zero, List.set_cons_succ]
  refine WQ.skip rfl ?_
  simp only [Act.put, List.setIfInBounds_toArray, List.set_cons_zero, List.set_cons_succ]
  refine WQ.skip rfl ?_
  simp only [Act.put, List.setIfInBounds_toArray, List.set_cons_zero, List.set_cons_succ]
  refine WQ.skip rfl ?_
  simp only [Act.put, List.setIfInBounds_toArray, List.set_cons_zero, List.set_cons_succ]
  refine WQ.skip rfl ?_
  simp only [Act.put, List.setIfInBounds_toArray, List.set_cons_zero, List.set_cons_succ]
  refine WQ.skip rfl ?_
  simp only [Act.put, List.setIfInBounds_toArray, List.set_cons_zero, List.set_cons_succ]
  refine WQ.mk (wpQuiet_nil ?_)
  intro u hC
  have hG2 := hG.after hC
  have hgr := only_below hC (some g)
  have hc2 := hG2.cellTab 2 (by omega)
  have hf2 := hG2.free 2
  go_wp2_with fail
  go_ret
  refine ⟨rfl, ?_, only_trans hgr (only_setCell u g 2 (.bool true))⟩
  have h := hG2.set 2 (.bool true)
  have e : (curC A n c p false).setIfInBounds 2 (.bool true) = curC A n c p true := by unfold curC; rw [tab_set]; exact tab_ext _ _ _ fun j hj => by rcases (show j = 0 ∨ j = 1 ∨ j = 2 by omega) with rfl | rfl | rfl <;> first | rfl | simp [curF]
  rw [e] at h
  exact h
set_option maxRecDepth 100000 in
set_option maxHeartbeats 1000000 in
theorem rtake_far (A : Option Addr) (n c p : Nat) (k : Int) (g : Nat) (w : World) (hG : Has w g 72 (curC A n c p false)) (hp : p ≤ n) (hn63 : n < 9223372036854775808) (hk0 : 0 ≤ k) (hk : ((n - p : Nat) : Int) < k) : Calls Try.prog 24 #[.pointer (some ⟨g, 0, none⟩), .int .i64 k] w fun e w' => e = .returned (.slice none 0 0) ∧ Has w' g 72 (curC A n c p true) ∧ w.grownBy w' (some g) := by
  have hl := hG.lt
  go_enter Try.func24, Try.ntmps24
  go_wp2_with fail
  refine region_quiet_tail (Below w.heap.size w) 21 (by kernel_rfl) (by kernel_rfl) (below_drewN (Below.refl _ _) 1) ?_
  simp only [List.take_succ_cons, List.take_zero, List.drop_succ_cons, List.drop_zero]
  refine WQ.out ?_
  refine WQ.lift (wpQ_move _ rfl rfl (.pointer (some ⟨g, 0, none⟩)) rfl) ?_
  simp only [Act.put, List.setIfInBounds_toArray, List.set_cons_zero, List.set_cons_succ]
  refine WQ.lift (wpQ_val rfl (.pointer (some ⟨g, 0, none⟩)) (fun w' _ => by go_simp)) ?_
  simp only [Act.put, List.setIfInBounds_toArray, List.set_cons_zero, List.set_cons_succ]
  refine WQ.lift (wpQ_val rfl (.pointer (some ⟨g, 2, none⟩)) (fun w' _ => by go_simp)) ?_
  simp only [Act.put, List.setIfInBounds_toArray, List.set_cons_zero, List.set_cons_succ]
  refine WQ.lift (wpQ_load 4 (.tmp 7) rfl rfl (.pointer (some ⟨g, 2, none⟩)) rfl (.bool false) (fun w' hC => load_bool g 2 _ w' ((hG.after hC).cellTab 2 (by omega)))) ?_
  simp only [Act.put, List.setIfInBounds_toArray, List.set_cons_zero, List.set_cons_succ]
  refine WQ.lift (wpQ_move _ rfl rfl (.bool false) rfl) ?_
  simp only [Act.put, List.setIfInBounds_toArray, List.set_cons_zero, List.set_cons_succ]
  refine WQ.lift (wpQ_move _ rfl rfl (.int .i64 k) rfl) ?_
  simp only [Act.put, List.setIfInBounds_toArray, List.set_cons_zero, List.set_cons_succ]
  refine WQ.lift (wpQ_bin _ _ _ _ _ rfl rfl (.int .i64 k) (.int .i64 0) rfl rfl (.bool false) (fun w' _ => int_ltF _ _ _ _ (by omega) w')) ?_
  simp only [Act.put, List.setIfInBounds_toArray, List.set_cons_zero, List.set_cons_succ]
  refine WQ.lift (wpQ_pick _ _ _ rfl rfl false rfl (.bool false) rfl) ?_
  simp only [Act.put, List.setIfInBounds_toArray, List.set_cons_zero, List.set_cons_succ]
  refine WQ.lift (wpQ_move _ rfl rfl (.bool false) rfl) ?_
  simp only [Act.put, List.setIfInBounds_toArray, List.set_cons_zero, List.set_cons_succ]
  refine WQ.lift (wpQ_move _ rfl rfl (.int .i64 k) rfl) ?_
  simp only [Act.put, List.setIfInBounds_toArray, List.set_cons_zero, List.set_cons_succ]
  refine WQ.lift (wpQ_move _ rfl rfl (.pointer (some ⟨g, 0, none⟩)) rfl) ?_
  simp only [Act.put, List.setIfInBounds_toArray, List.set_cons_zero, List.set_cons_succ]
  refine WQ.lift (wpQ_val rfl (.pointer (some ⟨g, 0, none⟩)) (fun w' _ => by go_simp)) ?_
  simp only [Act.put, List.setIfInBounds_toArray, List.set_cons_zero, List.set_cons_succ]
  refine WQ.lift (wpQ_val rfl (.pointer (some ⟨g, 0, none⟩)) (fun w' _ => by go_simp)) ?_
  simp only [Act.put, List.setIfInBounds_toArray, List.set_cons_zero, List.set_cons_succ]
  refine WQ.lift (wpQ_load 25 (.tmp 17) rfl rfl (.pointer (some ⟨g, 0, none⟩)) rfl (.slice A n c) (fun w' hC => load_sl g 0 _ w' ((hG.after hC).cellTab 0 (by omega)))) ?_
  simp only [Act.put, List.setIfInBounds_toArray, List.set_cons_zero, List.set_cons_succ]
  refine WQ.lift (wpQ_val rfl (.int .i64 (n : Int)) (fun w' _ => by go_simp)) ?_
  simp only [Act.put, List.setIfInBounds_toArray, List.set_cons_zero, List.set_cons_succ]
  refine WQ.lift (wpQ_move _ rfl rfl (.pointer (some ⟨g, 0, none⟩)) rfl) ?_
  simp only [Act.put, List.setIfInBounds_toArray, List.set_cons_zero, List.set_cons_succ]
  refine WQ.lift (wpQ_val rfl (.pointer (some ⟨g, 0, none⟩)) (fun w' _ => by go_simp)) ?_
  simp only [Act.put, List.setIfInBounds_toArray, List.set_cons_zero, List.set_cons_succ]
  refine WQ.lift (wpQ_val rfl (.pointer (some ⟨g, 1, none⟩)) (fun w' _ => by go_simp)) ?_
  simp only [Act.put, List.setIfInBounds_toArray, List.set_cons_zero, List.set_cons_succ]
  refine WQ.lift (wpQ_load 3 (.tmp 22) rfl rfl (.pointer (some ⟨g, 1, none⟩)) rfl (.int .i64 (p : Int)) (fun w' hC => load_int g 1 _ w' ((hG.after hC).cellTab 1 (by omega)))) ?_
  simp only [Act.put, List.setIfInBounds_toArray, List.set_cons_zero, List.set_cons_succ]
  refine WQ.lift (wpQ_bin _ _ _ _ _ rfl rfl (.int .i64 (n : Int)) (.int .i64 (p : Int)) rfl rfl (.int .i64 ((n - p : Nat) : Int)) (fun w' _ => int_subN _ _ n p _ hp hn63 rfl w')) ?_
  simp only [Act.put, List.setIfInBounds_toArray, List.set_cons_zero, List.set_cons_succ]
  refine WQ.lift (wpQ_bin _ _ _ _ _ rfl rfl (.int .i64 k) (.int .i64 ((n - p : Nat) : Int)) rfl rfl (.bool true) (fun w' _ => int_gtT _ _ _ _ hk w')) ?_
  simp only [Act.put, List.setIfInBounds_toArray, List.set_cons_zero, List.set_cons_succ]
  refine WQ.mk (wpQuiet_nil ?_)
  intro u hC
  have hG2 := hG.after hC
  have hgr := only_below hC (some g)
  have hc2 := hG2.cellTab 2 (by omega)
  have hf2 := hG2.free 2
  go_wp2_with fail
  go_ret
  refine ⟨rfl, ?_, only_trans hgr (only_setCell u g 2 (.bool true))⟩
  have h := hG2.set 2 (.bool true)
  have e : (curC A n c p false).setIfInBounds 2 (.bool true) = curC A n c p true := by unfold curC; rw [tab_set]; exact tab_ext _ _ _ fun j hj => by rcases (show j = 0 ∨ j = 1 ∨ j = 2 by omega) with rfl | rfl | rfl <;> first | rfl | simp [curF]
  rw [e] at h
  exact h
/-- where the rest of a slice begins: at its capacity's end Go leaves the place as it is -/
def midO (A : Addr) (c p : Nat) : Addr := if c = p then A else A.add p
theorem slice_mid (b o n c p k : Nat) (s : Option Nat) (hp : p + k ≤ n) (hc : n ≤ c) (W : World) : (Instr.sliceAt 25 (.slice (some ⟨b, o, s⟩) n c) (some (.int .i64 ((p : Nat) : Int))) (some (.int .i64 ((p + k : Nat) : Int))) none).run Try.prog W = .ok (.slice (some (midO ⟨b, o, s⟩ c p)) k (c - p)) W := by
  have h1 : ((p + k : Nat) : Int) ≤ (c : Int) := by omega
  have h2 : (c : Int) - (p : Int) = ((c - p : Nat) : Int) := by omega
  have h3 : ((p + k : Nat) : Int) - (p : Int) = (k : Int) := by omega
  have h5 : (p : Int) ≤ ((p + k : Nat) : Int) := by omega
  have h6 : (((p + k : Nat) : Int)).toNat - p = k := by omega
  generalize ((p + k : Nat) : Int) = q at *
  unfold midO
  by_cases hcp : c = p
  · subst hcp
    go_simp
  · rw [if_neg hcp]
    go_simp
theorem slice_nil0 (p k : Nat) (hp : p + k ≤ 0) (W : World) : (Instr.sliceAt 25 (.slice none 0 0) (some (.int .i64 ((p : Nat) : Int))) (some (.int .i64 ((p + k : Nat) : Int))) none).run Try.prog W = .ok (.slice none 0 0) W := by
  obtain rfl : p = 0 := by omega
  obtain rfl : k = 0 := by omega
  go_simp
set_option maxRecDepth 100000 in
set_option maxHeartbeats 1000000 in
theorem rtake_some (b o n c p k : Nat) (s : Option Nat) (g : Nat) (w : World) (hG : Has w g 72 (curC (some ⟨b, o, s⟩) n c p false)) (hp : p + k ≤ n) (hc : n ≤ c) (hn63 : c < 9223372036854775808) : Calls Try.prog 24 #[.pointer (some ⟨g, 0, none⟩), .int .i64 (k : Int)] w fun e w' => e = .returned (.slice (some (midO ⟨b, o, s⟩ c p)) k (c - p)) ∧ Has w' g 72 (curC (some ⟨b, o, s⟩) n c (p + k) false) ∧ w.grownBy w' (some g) := by
  have hl := hG.lt
  go_enter Try.func24, Try.ntmps24
  go_wp2_with fail
  refine region_quiet_tail (Below w.heap.size w) 21 (by kernel_rfl) (by kernel_rfl) (below_drewN (Below.refl _ _) 1) ?_
  simp only [List.take_succ_cons, List.take_zero, List.drop_succ_cons, List.drop_zero]
  refine WQ.out ?_
  refine WQ.lift (wpQ_move _ rfl rfl (.pointer (some ⟨g, 0, none⟩)) rfl) ?_
  simp only [Act.put, List.setIfInBounds_toArray, List.set_cons_zero, List.set_cons_succ]
  refine WQ.lift (wpQ_val rfl (.pointer (some ⟨g, 0, none⟩)) (fun w' _ => by go_simp)) ?_
  simp only [Act.put, List.setIfInBounds_toArray, List.set_cons_zero, List.set_cons_succ]
  refine WQ.lift (wpQ_val rfl (.pointer (some ⟨g, 2, none⟩)) (fun w' _ => by go_simp)) ?_
  simp only [Act.put, List.setIfInBounds_toArray, List.set_cons_zero, List.set_cons_succ]
  refine WQ.lift (wpQ_load 4 (.tmp 7) rfl rfl (.pointer (some ⟨g, 2, none⟩)) rfl (.bool false) (fun w' hC => load_bool g 2 _ w' ((hG.after hC).cellTab 2 (by omega)))) ?_
  simp only [Act.put, List.setIfInBounds_toArray, List.set_cons_zero, List.set_cons_succ]
  refine WQ.lift (wpQ_move _ rfl rfl (.bool false) rfl) ?_
  simp only [Act.put, List.setIfInBounds_toArray, List.set_cons_zero, List.set_cons_succ]
  refine WQ.lift (wpQ_move _ rfl rfl (.int .i64 ((k : Nat) : Int)) rfl) ?_
  simp only [Act.put, List.setIfInBounds_toArray, List.set_cons_zero, List.set_cons_succ]
  refine WQ.lift (wpQ_bin _ _ _ _ _ rfl rfl (.int .i64 ((k : Nat) : Int)) (.int .i64 0) rfl rfl (.bool false) (fun w' _ => int_ltF _ _ _ _ (by omega) w')) ?_
  simp only [Act.put, List.setIfInBounds_toArray, List.set_cons_zero, List.set_cons_succ]
  refine WQ.lift (wpQ_pick _ _ _ rfl rfl false rfl (.bool false) rfl) ?_
  simp only [Act.put, List.setIfInBounds_toArray, List.set_cons_zero, List.set_cons_succ]
  refine WQ.lift (wpQ_move _ rfl rfl (.bool false) rfl) ?_
  simp only [Act.put, List.setIfInBounds_toArray, List.set_cons_zero, List.set_cons_succ]
  refine WQ.lift (wpQ_move _ rfl rfl (.int .i64 ((k : Nat) : Int)) rfl) ?_
  simp only [Act.put, List.setIfInBounds_toArray, List.set_cons_zero, List.set_cons_succ]
  refine WQ.lift (wpQ_move _ rfl rfl (.pointer (some ⟨g, 0, none⟩)) rfl) ?_
  simp only [Act.put, List.setIfInBounds_toArray, List.set_cons_zero, List.set_cons_succ]
  refine WQ.lift (wpQ_val rfl (.pointer (some ⟨g, 0, none⟩)) (fun w' _ => by go_simp)) ?_
  simp only [Act.put, List.setIfInBounds_toArray, List.set_cons_zero, List.set_cons_succ]
  refine WQ.lift (wpQ_val rfl (.pointer (some ⟨g, 0, none⟩)) (fun w' _ => by go_simp)) ?_
  simp only [Act.put, List.setIfInBounds_toArray, List.set_cons_zero, List.set_cons_succ]
  refine WQ.lift (wpQ_load 25 (.tmp 17) rfl rfl (.pointer (some ⟨g, 0, none⟩)) rfl (.slice (some ⟨b, o, s⟩) n c) (fun w' hC => load_sl g 0 _ w' ((hG.after hC).cellTab 0 (by omega)))) ?_
  simp only [Act.put, List.setIfInBounds_toArray, List.set_cons_zero, List.set_cons_succ]
  refine WQ.lift (wpQ_val rfl (.int .i64 (n : Int)) (fun w' _ => by go_simp)) ?_
  simp only [Act.put, List.setIfInBounds_toArray, List.set_cons_zero, List.set_cons_succ]
  refine WQ.lift (wpQ_move _ rfl rfl (.pointer (some ⟨g, 0, none⟩)) rfl) ?_
  simp only [Act.put, List.setIfInBounds_toArray, List.set_cons_zero, List.set_cons_succ]
  refine WQ.lift (wpQ_val rfl (.pointer (some ⟨g, 0, none⟩)) (fun w' _ => by go_simp)) ?_
  simp only [Act.put, List.setIfInBounds_toArray, List.set_cons_zero, List.set_cons_succ]
  refine WQ.lift (wpQ_val rfl (.pointer (some ⟨g, 1, none⟩)) (fun w' _ => by go_simp)) ?_
  simp only [Act.put, List.setIfInBounds_toArray, List.set_cons_zero, List.set_cons_succ]
  refine WQ.lift (wpQ_load 3 (.tmp 22) rfl rfl (.pointer (some ⟨g, 1, none⟩)) rfl (.int .i64 ((p : Nat) : Int)) (fun w' hC => load_int g 1 _ w' ((hG.after hC).cellTab 1 (by omega)))) ?_
  simp only [Act.put, List.setIfInBounds_toArray, List.set_cons_zero, List.set_cons_succ]
  refine WQ.lift (wpQ_bin _ _ _ _ _ rfl rfl (.int .i64 (n : Int)) (.int .i64 ((p : Nat) : Int)) rfl rfl (.int .i64 ((n - p : Nat) : Int)) (fun w' _ => int_subN _ _ n p _ (by omega) (by omega) rfl w')) ?_
  simp only [Act.put, List.setIfInBounds_toArray, List.set_cons_zero, List.set_cons_succ]
  refine WQ.lift (wpQ_bin _ _ _ _ _ rfl rfl (.int .i64 ((k : Nat) : Int)) (.int .i64 ((n - p : Nat) : Int)) rfl rfl (.bool false) (fun w' _ => int_gtF _ _ _ _ (by omega) w')) ?_
  simp only [Act.put, List.setIfInBounds_toArray, List.set_cons_zero, List.set_cons_succ]
  refine WQ.mk (wpQuiet_nil ?_)
  intro u hC
  have hG2 := hG.after hC
  have hgr := only_below hC (some g)
  have hc1 := hG2.cellTab 1 (by omega)
  have hf1 := hG2.free 1
  replace hc1 : u.cell? ⟨g, 1, none⟩ = some (.int .i64 ((p : Nat) : Int)) := hc1
  go_wp2_with fail
  have h3 := hG2.set 1 (.int .i64 ((p : Int) + (k : Int)))
  have e : (curC (some ⟨b, o, s⟩) n c p false).setIfInBounds 1 (.int .i64 ((p : Int) + (k : Int))) = curC (some ⟨b, o, s⟩) n c (p + k) false := by unfold curC; rw [tab_set]; exact tab_ext _ _ _ fun j hj => by rcases (show j = 0 ∨ j = 1 ∨ j = 2 by omega) with rfl | rfl | rfl <;> first | rfl | simp [curF]
  rw [e] at h3
  have hgr3 := only_trans hgr (only_setCell u g 1 (.int .i64 ((p : Int) + (k : Int))))
  generalize u.setCell ⟨g, 1, none⟩ _ = u3 at *
  clear hG hG2 hgr hc1 hf1 hl hC e
  replace hG := h3
  clear h3
  have hsl := slice_mid b o n c p k s hp hc
  refine region_quiet_tail (Below u3.heap.size u3) 15 (by kernel_rfl) (by kernel_rfl) (below_drewN (Below.refl _ _) 1) ?_
  simp only [List.take_succ_cons, List.take_zero, List.drop_succ_cons, List.drop_zero]
  refine WQ.out ?_
  refine WQ.lift (wpQ_move _ rfl rfl (.pointer (some ⟨g, 0, none⟩)) rfl) ?_
  simp only [Act.put, List.setIfInBounds_toArray, List.set_cons_zero, List.set_cons_succ]
  refine WQ.lift (wpQ_val rfl (.pointer (some ⟨g, 0, none⟩)) (fun w' _ => by go_simp)) ?_
  simp only [Act.put, List.setIfInBounds_toArray, List.set_cons_zero, List.set_cons_succ]
  refine WQ.lift (wpQ_val rfl (.pointer (some ⟨g, 0, none⟩)) (fun w' _ => by go_simp)) ?_
  simp only [Act.put, List.setIfInBounds_toArray, List.set_cons_zero, List.set_cons_succ]
  refine WQ.lift (wpQ_load 25 (.tmp 40) rfl rfl (.pointer (some ⟨g, 0, none⟩)) rfl (.slice (some ⟨b, o, s⟩) n c) (fun w' hC => load_sl g 0 _ w' ((hG.after hC).cellTab 0 (by omega)))) ?_
  simp only [Act.put, List.setIfInBounds_toArray, List.set_cons_zero, List.set_cons_succ]
  refine WQ.lift (wpQ_move _ rfl rfl (.pointer (some ⟨g, 0, none⟩)) rfl) ?_
  simp only [Act.put, List.setIfInBounds_toArray, List.set_cons_zero, List.set_cons_succ]
  refine WQ.lift (wpQ_val rfl (.pointer (some ⟨g, 0, none⟩)) (fun w' _ => by go_simp)) ?_
  simp only [Act.put, List.setIfInBounds_toArray, List.set_cons_zero, List.set_cons_succ]
  refine WQ.lift (wpQ_val rfl (.pointer (some ⟨g, 1, none⟩)) (fun w' _ => by go_simp)) ?_
  simp only [Act.put, List.setIfInBounds_toArray, List.set_cons_zero, List.set_cons_succ]
  refine WQ.lift (wpQ_load 3 (.tmp 44) rfl rfl (.pointer (some ⟨g, 1, none⟩)) rfl (.int .i64 ((p + k : Nat) : Int)) (fun w' hC => load_int g 1 _ w' ((hG.after hC).cellTab 1 (by omega)))) ?_
  simp only [Act.put, List.setIfInBounds_toArray, List.set_cons_zero, List.set_cons_succ]
  refine WQ.lift (wpQ_move _ rfl rfl (.int .i64 ((k : Nat) : Int)) rfl) ?_
  simp only [Act.put, List.setIfInBounds_toArray, List.set_cons_zero, List.set_cons_succ]
  refine WQ.lift (wpQ_bin _ _ _ _ _ rfl rfl (.int .i64 ((p + k : Nat) : Int)) (.int .i64 ((k : Nat) : Int)) rfl rfl (.int .i64 ((p : Nat) : Int)) (fun w' _ => int_subN _ _ (p + k) k p (by omega) (by omega) (by omega) w')) ?_
  simp only [Act.put, List.setIfInBounds_toArray, List.set_cons_zero, List.set_cons_succ]
  refine WQ.lift (wpQ_move _ rfl rfl (.pointer (some ⟨g, 0, none⟩)) rfl) ?_
  simp only [Act.put, List.setIfInBounds_toArray, List.set_cons_zero, List.set_cons_succ]
  refine WQ.lift (wpQ_val rfl (.pointer (some ⟨g, 0, none⟩)) (fun w' _ => by go_simp)) ?_
  simp only [Act.put, List.setIfInBounds_toArray, List.set_cons_zero, List.set_cons_succ]
  refine WQ.lift (wpQ_val rfl (.pointer (some ⟨g, 1, none⟩)) (fun w' _ => by go_simp)) ?_
  simp only [Act.put, List.setIfInBounds_toArray, List.set_cons_zero, List.set_cons_succ]
  refine WQ.lift (wpQ_load 3 (.tmp 50) rfl rfl (.pointer (some ⟨g, 1, none⟩)) rfl (.int .i64 ((p + k : Nat) : Int)) (fun w' hC => load_int g 1 _ w' ((hG.after hC).cellTab 1 (by omega)))) ?_
  simp only [Act.put, List.setIfInBounds_toArray, List.set_cons_zero, List.set_cons_succ]
  refine WQ.lift (wpQ_slice 25 _ _ _ _ rfl rfl (.slice (some ⟨b, o, s⟩) n c) rfl (some (.int .i64 ((p : Nat) : Int))) (some (.int .i64 ((p + k : Nat) : Int))) none rfl rfl rfl (.slice (some (midO ⟨b, o, s⟩ c p)) k (c - p)) (fun w' _ => hsl w')) ?_
  simp only [Act.put, List.setIfInBounds_toArray, List.set_cons_zero, List.set_cons_succ]
  refine WQ.mk (wpQuiet_nil ?_)
  intro u4 hC
  go_wp2_with fail
  go_ret
  exact ⟨rfl, hG.after hC, only_trans hgr3 (only_below hC _)⟩
set_option maxRecDepth 100000 in
set_option maxHeartbeats 1000000 in
theorem rtake_nil (p k g : Nat) (w : World) (hG : Has w g 72 (curC none 0 0 p false)) (hp : p + k ≤ 0) : Calls Try.prog 24 #[.pointer (some ⟨g, 0, none⟩), .int .i64 (k : Int)] w fun e w' => e = .returned (.slice none 0 0) ∧ Has w' g 72 (curC none 0 0 (p + k) false) ∧ w.grownBy w' (some g) := by
  have hl := hG.lt
  go_enter Try.func24, Try.ntmps24
  go_wp2_with fail
  refine region_quiet_tail (Below w.heap.size w) 21 (by kernel_rfl) (by kernel_rfl) (below_drewN (Below.refl _ _) 1) ?_
  simp only [List.take_succ_cons, List.take_zero, List.drop_succ_cons, List.drop_zero]
  refine WQ.out ?_
  refine WQ.lift (wpQ_move _ rfl rfl (.pointer (some ⟨g, 0, none⟩)) rfl) ?_
  simp only [Act.put, List.setIfInBounds_toArray, List.set_cons_zero, List.set_cons_succ]
  refine WQ.lift (wpQ_val rfl (.pointer (some ⟨g, 0, none⟩)) (fun w' _ => by go_simp)) ?_
  simp only [Act.put, List.setIfInBounds_toArray, List.set_cons_zero, List.set_cons_succ]
  refine WQ.lift (wpQ_val rfl (.pointer (some ⟨g, 2, none⟩)) (fun w' _ => by go_simp)) ?_
  simp only [Act.put, List.setIfInBounds_toArray, List.set_cons_zero, List.set_cons_succ]
  refine WQ.lift (wpQ_load 4 (.tmp 7) rfl rfl (.pointer (some ⟨g, 2, none⟩)) rfl (.bool false) (fun w' hC => load_bool g 2 _ w' ((hG.after hC).cellTab 2 (by omega)))) ?_
  simp only [Act.put, List.setIfInBounds_toArray, List.set_cons_zero, List.set_cons_succ]
  refine WQ.lift (wpQ_move _ rfl rfl (.bool false) rfl) ?_
  simp only [Act.put, List.setIfInBounds_toArray, List.set_cons_zero, List.set_cons_succ]
  refine WQ.lift (wpQ_move _ rfl rfl (.int .i64 ((k : Nat) : Int)) rfl) ?_
  simp only [Act.put, List.setIfInBounds_toArray, List.set_cons_zero, List.set_cons_succ]
  refine WQ.lift (wpQ_bin _ _ _ _ _ rfl rfl (.int .i64 ((k : Nat) : Int)) (.int .i64 0) rfl rfl (.bool false) (fun w' _ => int_ltF _ _ _ _ (by omega) w')) ?_
  simp only [Act.put, List.setIfInBounds_toArray, List.set_cons_zero, List.set_cons_succ]
  refine WQ.lift (wpQ_pick _ _ _ rfl rfl false rfl (.bool false) rfl) ?_
  simp only [Act.put, List.setIfInBounds_toArray, List.set_cons_zero, List.set_cons_succ]
  refine WQ.lift (wpQ_move _ rfl rfl (.bool false) rfl) ?_
  simp only [Act.put, List.setIfInBounds_toArray, List.set_cons_zero, List.set_cons_succ]
  refine WQ.lift (wpQ_move _ rfl rfl (.int .i64 ((k : Nat) : Int)) rfl) ?_
  simp only [Act.put, List.setIfInBounds_toArray, List.set_cons_zero, List.set_cons_succ]
  refine WQ.lift (wpQ_move _ rfl rfl (.pointer (some ⟨g, 0, none⟩)) rfl) ?_
  simp only [Act.put, List.setIfInBounds_toArray, List.set_cons_zero, List.set_cons_succ]
  refine WQ.lift (wpQ_val rfl (.pointer (some ⟨g, 0, none⟩)) (fun w' _ => by go_simp)) ?_
  simp only [Act.put, List.setIfInBounds_toArray, List.set_cons_zero, List.set_cons_succ]
  refine WQ.lift (wpQ_val rfl (.pointer (some ⟨g, 0, none⟩)) (fun w' _ => by go_simp)) ?_
  simp only [Act.put, List.setIfInBounds_toArray, List.set_cons_zero, List.set_cons_succ]
  refine WQ.lift (wpQ_load 25 (.tmp 17) rfl rfl (.pointer (some ⟨g, 0, none⟩)) rfl (.slice none 0 0) (fun w' hC => load_sl g 0 _ w' ((hG.after hC).cellTab 0 (by omega)))) ?_
  simp only [Act.put, List.setIfInBounds_toArray, List.set_cons_zero, List.set_cons_succ]
  refine WQ.lift (wpQ_val rfl (.int .i64 ((0 : Nat) : Int)) (fun w' _ => by go_simp)) ?_
  simp only [Act.put, List.setIfInBounds_toArray, List.set_cons_zero, List.set_cons_succ]
  refine WQ.lift (wpQ_move _ rfl rfl (.pointer (some ⟨g, 0, none⟩)) rfl) ?_
  simp only [Act.put, List.setIfInBounds_toArray, List.set_cons_zero, List.set_cons_succ]
  refine WQ.lift (wpQ_val rfl (.pointer (some ⟨g, 0, none⟩)) (fun w' _ => by go_simp)) ?_
  simp only [Act.put, List.setIfInBounds_toArray, List.set_cons_zero, List.set_cons_succ]
  refine WQ.lift (wpQ_val rfl (.pointer (some ⟨g, 1, none⟩)) (fun w' _ => by go_simp)) ?_
  simp only [Act.put, List.setIfInBounds_toArray, List.set_cons_zero, List.set_cons_succ]
  refine WQ.lift (wpQ_load 3 (.tmp 22) rfl rfl (.pointer (some ⟨g, 1, none⟩)) rfl (.int .i64 ((p : Nat) : Int)) (fun w' hC => load_int g 1 _ w' ((hG.after hC).cellTab 1 (by omega)))) ?_
  simp only [Act.put, List.setIfInBounds_toArray, List.set_cons_zero, List.set_cons_succ]
  refine WQ.lift (wpQ_bin _ _ _ _ _ rfl rfl (.int .i64 ((0 : Nat) : Int)) (.int .i64 ((p : Nat) : Int)) rfl rfl (.int .i64 ((0 - p : Nat) : Int)) (fun w' _ => int_subN _ _ 0 p _ (by omega) (by omega) rfl w')) ?_
  simp only [Act.put, List.setIfInBounds_toArray, List.set_cons_zero, List.set_cons_succ]
  refine WQ.lift (wpQ_bin _ _ _ _ _ rfl rfl (.int .i64 ((k : Nat) : Int)) (.int .i64 ((0 - p : Nat) : Int)) rfl rfl (.bool false) (fun w' _ => int_gtF _ _ _ _ (by omega) w')) ?_
  simp only [Act.put, List.setIfInBounds_toArray, List.set_cons_zero, List.set_cons_succ]
  refine WQ.mk (wpQuiet_nil ?_)
  intro u hC
  have hG2 := hG.after hC
  have hgr := only_below hC (some g)
  have hc1 := hG2.cellTab 1 (by omega)
  have hf1 := hG2.free 1
  replace hc1 : u.cell? ⟨g, 1, none⟩ = some (.int .i64 ((p : Nat) : Int)) := hc1
  go_wp2_with fail
  have h3 := hG2.set 1 (.int .i64 ((p : Int) + (k : Int)))
  have e : (curC none 0 0 p false).setIfInBounds 1 (.int .i64 ((p : Int) + (k : Int))) = curC none 0 0 (p + k) false := by unfold curC; rw [tab_set]; exact tab_ext _ _ _ fun j hj => by rcases (show j = 0 ∨ j = 1 ∨ j = 2 by omega) with rfl | rfl | rfl <;> first | rfl | simp [curF]
  rw [e] at h3
  have hgr3 := only_trans hgr (only_setCell u g 1 (.int .i64 ((p : Int) + (k : Int))))
  generalize u.setCell ⟨g, 1, none⟩ _ = u3 at *
  clear hG hG2 hgr hc1 hf1 hl hC e
  replace hG := h3
  clear h3
  have hsl := slice_nil0 p k hp
  refine region_quiet_tail (Below u3.heap.size u3) 15 (by kernel_rfl) (by kernel_rfl) (below_drewN (Below.refl _ _) 1) ?_
  simp only [List.take_succ_cons, List.take_zero, List.drop_succ_cons, List.drop_zero]
  refine WQ.out ?_
  refine WQ.lift (wpQ_move _ rfl rfl (.pointer (some ⟨g, 0, none⟩)) rfl) ?_
  simp only [Act.put, List.setIfInBounds_toArray, List.set_cons_zero, List.set_cons_succ]
  refine WQ.lift (wpQ_val rfl (.pointer (some ⟨g, 0, none⟩)) (fun w' _ => by go_simp)) ?_
  simp only [Act.put, List.setIfInBounds_toArray, List.set_cons_zero, List.set_cons_succ]
  refine WQ.lift (wpQ_val rfl (.pointer (some ⟨g, 0, none⟩)) (fun w' _ => by go_simp)) ?_
  simp only [Act.put, List.setIfInBounds_toArray, List.set_cons_zero, List.set_cons_succ]
  refine WQ.lift (wpQ_load 25 (.tmp 40) rfl rfl (.pointer (some ⟨g, 0, none⟩)) rfl (.slice none 0 0) (fun w' hC => load_sl g 0 _ w' ((hG.after hC).cellTab 0 (by omega)))) ?_
  simp only [Act.put, List.setIfInBounds_toArray, List.set_cons_zero, List.set_cons_succ]
  refine WQ.lift (wpQ_move _ rfl rfl (.pointer (some ⟨g, 0, none⟩)) rfl) ?_
  simp only [Act.put, List.setIfInBounds_toArray, List.set_cons_zero, List.set_cons_succ]
  refine WQ.lift (wpQ_val rfl (.pointer (some ⟨g, 0, none⟩)) (fun w' _ => by go_simp)) ?_
  simp only [Act.put, List.setIfInBounds_toArray, List.set_cons_zero, List.set_cons_succ]
  refine WQ.lift (wpQ_val rfl (.pointer (some ⟨g, 1, none⟩)) (fun w' _ => by go_simp)) ?_
  simp only [Act.put, List.setIfInBounds_toArray, List.set_cons_zero, List.set_cons_succ]
  refine WQ.lift (wpQ_load 3 (.tmp 44) rfl rfl (.pointer (some ⟨g, 1, none⟩)) rfl (.int .i64 ((p + k : Nat) : Int)) (fun w' hC => load_int g 1 _ w' ((hG.after hC).cellTab 1 (by omega)))) ?_
  simp only [Act.put, List.setIfInBounds_toArray, List.set_cons_zero, List.set_cons_succ]
  refine WQ.lift (wpQ_move _ rfl rfl (.int .i64 ((k : Nat) : Int)) rfl) ?_
  simp only [Act.put, List.setIfInBounds_toArray, List.set_cons_zero, List.set_cons_succ]
  refine WQ.lift (wpQ_bin _ _ _ _ _ rfl rfl (.int .i64 ((p + k : Nat) : Int)) (.int .i64 ((k : Nat) : Int)) rfl rfl (.int .i64 ((p : Nat) : Int)) (fun w' _ => int_subN _ _ (p + k) k p (by omega) (by omega) (by omega) w')) ?_
  simp only [Act.put, List.setIfInBounds_toArray, List.set_cons_zero, List.set_cons_succ]
  refine WQ.lift (wpQ_move _ rfl rfl (.pointer (some ⟨g, 0, none⟩)) rfl) ?_
  simp only [Act.put, List.setIfInBounds_toArray, List.set_cons_zero, List.set_cons_succ]
  refine WQ.lift (wpQ_val rfl (.pointer (some ⟨g, 0, none⟩)) (fun w' _ => by go_simp)) ?_
  simp only [Act.put, List.setIfInBounds_toArray, List.set_cons_zero, List.set_cons_succ]
  refine WQ.lift (wpQ_val rfl (.pointer (some ⟨g, 1, none⟩)) (fun w' _ => by go_simp)) ?_
  simp only [Act.put, List.setIfInBounds_toArray, List.set_cons_zero, List.set_cons_succ]
  refine WQ.lift (wpQ_load 3 (.tmp 50) rfl rfl (.pointer (some ⟨g, 1, none⟩)) rfl (.int .i64 ((p + k : Nat) : Int)) (fun w' hC => load_int g 1 _ w' ((hG.after hC).cellTab 1 (by omega)))) ?_
  simp only [Act.put, List.setIfInBounds_toArray, List.set_cons_zero, List.set_cons_succ]
  refine WQ.lift (wpQ_slice 25 _ _ _ _ rfl rfl (.slice none 0 0) rfl (some (.int .i64 ((p : Nat) : Int))) (some (.int .i64 ((p + k : Nat) : Int))) none rfl rfl rfl (.slice none 0 0) (fun w' _ => hsl w')) ?_
  simp only [Act.put, List.setIfInBounds_toArray, List.set_cons_zero, List.set_cons_succ]
  refine WQ.mk (wpQuiet_nil ?_)
  intro u4 hC
  go_wp2_with fail
  go_ret
  exact ⟨rfl, hG.after hC, only_trans hgr3 (only_below hC _)⟩
end Go.Proofs.Ytoplknankmomcaa
