/-
What package mont's calls do, as the laws' walks ask it; equations of two values; the law's own like().
-/
import Derived.Test.YtodialbopochdaaMontM
import Derived.Test.YtodialbopochdaaGenB
import Derived.Test.YtodialbopochdaaFacts
import Derived.Test.YtodialbopochdaaArrEq
namespace Go.Proofs.Ytodialbopochdaa
open Go.RowKit

def ptrV (g : Nat) : Value := .pointer (some ⟨g, 0, none⟩)
/-- 'Is w g m': block g is a Mod of the modulus m -/
structure MontOK (Is : World → Nat → Nat → Prop) : Prop where
  keep : ∀ {w w' g m}, Is w g m → Below w.heap.size w w' → Is w' g m
  new_ok : ∀ m w, m % 2 = 1 → 1 < m → m < big → Calls Try.prog 9 #[.agg (nums m)] w fun e w' => (∃ g, e = .returned (.tuple #[.pointer (some ⟨g, 0, none⟩), .int .i64 0]) ∧ Is w' g m) ∧ Below w.heap.size w w'
  new_bad : ∀ m w, m < big → (m % 2 = 0 ∨ m = 1) → Calls Try.prog 9 #[.agg (nums m)] w fun e w' => e = .returned (.tuple #[.pointer none, .int .i64 1]) ∧ Below w.heap.size w w'
  modulus_ok : ∀ w g m, Is w g m → Calls Try.prog 11 #[.pointer (some ⟨g, 0, none⟩)] w fun e w' => e = .returned (.agg (nums m)) ∧ Below w.heap.size w w'
  modulus_nil : ∀ w, Calls Try.prog 11 #[.pointer none] w fun e w' => e = .returned (.agg (nums 0)) ∧ Below w.heap.size w w'
  add_ok : ∀ w g m a b, Is w g m → a < m → b < m → Calls Try.prog 10 #[.pointer (some ⟨g, 0, none⟩), .agg (nums a), .agg (nums b)] w fun e w' => e = .returned (.agg (nums ((a + b) % m))) ∧ Below w.heap.size w w'
  add_nil : ∀ w a b, a < big → b < big → Calls Try.prog 10 #[.pointer none, .agg (nums a), .agg (nums b)] w fun e w' => e = .returned (.agg (nums 0)) ∧ Below w.heap.size w w'
  sub_ok : ∀ w g m a b, Is w g m → a < m → b < m → Calls Try.prog 18 #[.pointer (some ⟨g, 0, none⟩), .agg (nums a), .agg (nums b)] w fun e w' => e = .returned (.agg (nums ((a + (m - b)) % m))) ∧ Below w.heap.size w w'
  times_ok : ∀ w g m a b, Is w g m → a < m → b < m → Calls Try.prog 25 #[.pointer (some ⟨g, 0, none⟩), .agg (nums a), .agg (nums b)] w fun e w' => e = .returned (.agg (nums (redc m (a * b)))) ∧ Below w.heap.size w w'
  in_ok : ∀ w g m a, Is w g m → a < big → Calls Try.prog 23 #[.pointer (some ⟨g, 0, none⟩), .agg (nums a)] w fun e w' => e = .returned (.agg (nums (a * RR % m))) ∧ Below w.heap.size w w'
  out_ok : ∀ w g m a, Is w g m → a < m → Calls Try.prog 24 #[.pointer (some ⟨g, 0, none⟩), .agg (nums a)] w fun e w' => e = .returned (.agg (nums (redc m a))) ∧ Below w.heap.size w w'
  one_ok : ∀ w g m, Is w g m → Calls Try.prog 26 #[.pointer (some ⟨g, 0, none⟩)] w fun e w' => e = .returned (.agg (nums (RR % m))) ∧ Below w.heap.size w w'
  pow_ok : ∀ w g m a e, Is w g m → a < m → e < big → Calls Try.prog 28 #[.pointer (some ⟨g, 0, none⟩), .agg (nums a), .agg (nums e)] w fun x w' => x = .returned (.agg (nums (powN m a e))) ∧ Below w.heap.size w w'
  inv_ok : ∀ w g m a, Is w g m → a < m → Calls Try.prog 30 #[.pointer (some ⟨g, 0, none⟩), .agg (nums a)] w fun x w' => x = .returned (.agg (nums (powN m a (m - 2)))) ∧ Below w.heap.size w w'
  mul_ok : ∀ w g m a b, Is w g m → a < big → b < big → Calls Try.prog 22 #[.pointer (some ⟨g, 0, none⟩), .agg (nums a), .agg (nums b)] w fun e w' => e = .returned (.agg (nums (a * b % m))) ∧ Below w.heap.size w w'
  reduce_ok : ∀ w g m a, Is w g m → a < big → Calls Try.prog 16 #[.pointer (some ⟨g, 0, none⟩), .agg (nums a)] w fun e w' => e = .returned (.agg (nums (a % m))) ∧ Below w.heap.size w w'

/- equations of two values, each alone -/
theorem infoW : (Try.prog.info? 22).map (fun i => (i.zero, i.size, i.bytes)) = some (some (.int .u32 0), 1, 4) := by kernel_rfl
theorem numEql (x : Nat) (W : World) : (binOp .eql 24 (.agg (nums x)) (.agg (nums x))).run Try.prog W = .ok (.bool true) W := by
  obtain ⟨i, hi, _, hs, _⟩ := info_parts infoW
  have h := run_eql_tab (P := Try.prog) W 24 22 8 .u32 .u32 i (fun j => ((dg 4294967296 x j : Nat) : Int)) (fun j => ((dg 4294967296 x j : Nat) : Int)) Try.underlying24 Try.underlying22 hi hs
  rw [sameTo_refl] at h
  exact h
theorem numEq (o1 o2 : Operand) (x : Nat) (w : World) : (do eqGuard .eql 24 o1 o2 (.agg (nums x)) (.agg (nums x)); binOp .eql 24 (.agg (nums x)) (.agg (nums x)) : Sem Value).run Try.prog w = .ok (.bool true) w := by
  have es := fun W => numEql x W
  go_simp
theorem numNeq (o1 o2 : Operand) (x : Nat) (w : World) : (do eqGuard .neq 24 o1 o2 (.agg (nums x)) (.agg (nums x)); binOp .neq 24 (.agg (nums x)) (.agg (nums x)) : Sem Value).run Try.prog w = .ok (.bool false) w := by
  have es : ∀ W, (binOp .neq 24 (.agg (nums x)) (.agg (nums x))).run Try.prog W = .ok (.bool false) W := fun W => by
    have h := numEql x W
    unfold nums at h ⊢
    rw [run_eql_struct] at h
    rw [run_neq_struct]
    cases hq : (Op.equalIn 10000 24 (.agg (tab 8 (dgs .u32 4294967296 x))) (.agg (tab 8 (dgs .u32 4294967296 x)))).run Try.prog W with
    | ok b w => rw [hq] at h; simp [Result.andThen] at h ⊢; exact h
    | _ => rw [hq] at h; simp [Result.andThen] at h
  go_simp
theorem errNeq (o1 o2 : Operand) (w : World) : (do eqGuard .neq 27 o1 o2 (.int .i64 0) (.int .i64 0); binOp .neq 27 (.int .i64 0) (.int .i64 0) : Sem Value).run Try.prog w = .ok (.bool false) w := by
  go_simp

attribute [local go_sem] zeroNum
set_option maxRecDepth 100000 in
set_option maxHeartbeats 1000000 in
theorem like_any (x : Nat) (w : World) (hx : x < big) :
    Calls Try.prog 15 #[.agg (nums x), .agg (d16 x)] w fun e w' => e = .returned (.bool true) ∧ Below w.heap.size w w' := by
  have cw := fun W => words3_any x W hx
  have hA : Has ((w.alloc (.cells (nums x) 24)).alloc (.cells (d16 x) 34)) w.heap.size 24 (nums x) := (Has.new w _ _).alloc _
  have hB : Has ((w.alloc (.cells (nums x) 24)).alloc (.cells (d16 x) 34)) (w.heap.size + 1) 34 (d16 x) := Has.new' (by simp)
  have hb : Below w.heap.size w ((w.alloc (.cells (nums x) 24)).alloc (.cells (d16 x) 34)) := ((Below.refl _ _).alloc (Nat.le_refl _) _).alloc (by simp) _
  go_enter Try.func15, Try.ntmps15
  go_wp2_with fail
  generalize hW : (w.alloc (.cells (nums x) 24)).alloc (.cells (d16 x) 34) = W at *
  clear hW
  refine region_quiet_tail (Below W.heap.size W) 4 (by kernel_rfl) (by kernel_rfl) (below_drewN (Below.refl _ _) 1) ?_
  simp only [List.take_succ_cons, List.take_zero, List.drop_succ_cons, List.drop_zero]
  refine wpQ_has 24 _ rfl _ rfl rfl 24 _ (fun w' hC => hA.after hC) _ Try.underlying24 rfl (infoNum _) ?_
  simp only [Act.put, List.setIfInBounds_toArray, List.set_cons_zero, List.set_cons_succ]
  refine wpQ_has 34 _ rfl _ rfl rfl 34 _ (fun w' hC => hB.after hC) _ Try.underlying34 rfl (info16 _) ?_
  simp only [Act.put, List.setIfInBounds_toArray, List.set_cons_zero, List.set_cons_succ]
  refine wpQ_fn 14 _ _ rfl rfl #[.agg (d16 x)] rfl (fun _ => by go_simp) (.agg (nums x)) (fun w' hC => (cw w').mono fun e w'' ⟨he, hb⟩ => ⟨he, below_class hC hb⟩) ?_
  simp only [Act.put, List.setIfInBounds_toArray, List.set_cons_zero, List.set_cons_succ]
  refine wpQ_bin _ _ _ _ _ rfl rfl (.agg (nums x)) (.agg (nums x)) rfl rfl (.bool true) (fun w' _ => numEq _ _ _ w') ?_
  simp only [Act.put, List.setIfInBounds_toArray, List.set_cons_zero, List.set_cons_succ]
  refine wpQuiet_nil ?_
  intro w2 hC
  replace hb := below_trans hb hC
  clear hC hA hB cw
  go_wp2_with fail
  go_ret
  exact ⟨rfl, hb⟩
end Go.Proofs.Ytodialbopochdaa
