/-
Layer 11: package inst's Encode.
-/
import Derived.Test.YtghfbdkfibbhoaaDoorIqI
import Derived.Test.YtghfbdkfibbhoaaDoorQw
namespace Go.Proofs.YtghfbdkfibbhoaaDoor
open Go Go.RowKit

theorem one_new (w : World) (u : Array Value) (t : TypeId) : ∃ wa, wa = w.alloc (.cells u t) ∧ Has wa w.heap.size t u ∧ Below w.heap.size w wa ∧ wa.heap.size = w.heap.size + 1 :=
  ⟨_, rfl, Has.new w t u, (Below.refl _ _).alloc (Nat.le_refl _) _, size_alloc1 w _⟩
/-- the same instruction? -/
def eqB (i a b c n i' a' b' c' n' : Int) : Bool := i == i' && a == a' && b == b' && c == c' && n == n'
theorem run_neq_inst (i a b c n i' a' b' c' n' : Int) (W : World) (t u : Operand) :
  (do eqGuard .neq 26 t u (.agg #[.int .i64 i, .int .i64 a, .int .i64 b, .int .i64 c, .int .u32 n]) (.agg #[.int .i64 i', .int .i64 a', .int .i64 b', .int .i64 c', .int .u32 n']); binOp .neq 26 (.agg #[.int .i64 i, .int .i64 a, .int .i64 b, .int .i64 c, .int .u32 n]) (.agg #[.int .i64 i', .int .i64 a', .int .i64 b', .int .i64 c', .int .u32 n']) : Sem Value).run Tryd.prog W = .ok (.bool (!eqB i a b c n i' a' b' c' n')) W := by
  go_simp
  unfold eqB
  by_cases h0 : i = i' <;> by_cases h1 : a = a' <;> by_cases h2 : b = b' <;> by_cases h3 : c = c' <;> by_cases h4 : n = n' <;> simp [h0, h1, h2, h3, h4]
theorem run_eql_inst (i a b c n i' a' b' c' n' : Int) (W : World) (t u : Operand) :
  (do eqGuard .eql 26 t u (.agg #[.int .i64 i, .int .i64 a, .int .i64 b, .int .i64 c, .int .u32 n]) (.agg #[.int .i64 i', .int .i64 a', .int .i64 b', .int .i64 c', .int .u32 n']); binOp .eql 26 (.agg #[.int .i64 i, .int .i64 a, .int .i64 b, .int .i64 c, .int .u32 n]) (.agg #[.int .i64 i', .int .i64 a', .int .i64 b', .int .i64 c', .int .u32 n']) : Sem Value).run Tryd.prog W = .ok (.bool (eqB i a b c n i' a' b' c' n')) W := by
  go_simp
  unfold eqB
  by_cases h0 : i = i' <;> by_cases h1 : a = a' <;> by_cases h2 : b = b' <;> by_cases h3 : c = c' <;> by_cases h4 : n = n' <;> simp [h0, h1, h2, h3, h4]
/-- the word that the program makes of an instruction -/
def encW (i : Nat) (a b c : Int) (n : Nat) : Nat := fldL (opP i).1 (opP i).2 (u32N a) (u32N b) (u32N c) n
/-- does it hold the whole instruction? -/
def encB (i : Nat) (a b c : Int) (n : Nat) : Bool :=
  eqB i ((if rdB (opP i).1 then bitsN (encW i a b c n) 11 7 else 0 : Nat) : Int) ((if r1B (opP i).1 then bitsN (encW i a b c n) 19 15 else 0 : Nat) : Int) ((if r2B (opP i).1 then bitsN (encW i a b c n) 24 20 else 0 : Nat) : Int) ((immL (opP i).1 (encW i a b c n) : Nat) : Int) i a b c n
theorem encW_lt (i : Nat) (a b c : Int) (n : Nat) : encW i a b c n < 4294967296 := fldL_lt _ _ _ _ _ _ (word_lt i)
set_option maxRecDepth 100000 in
set_option maxHeartbeats 4000000 in
theorem aencode_no (op a b c : Int) (n : Nat) (w : World) (h : ¬(1 ≤ op ∧ op < 57)) :
    Calls Tryd.prog 12 #[.agg (tab 5 (insA op a b c (n : Int)))] w fun e w' => e = .returned (.tuple #[.int .u32 0, .bool false]) ∧ Below w.heap.size w w' := by
  rw [show tab 5 (insA op a b c (n : Int)) = #[.int .i64 op, .int .i64 a, .int .i64 b, .int .i64 c, .int .u32 (n : Int)] from rfl]
  have kF := fun W => form_no op W h
  clear h
  go_enter Tryd.func12, Tryd.ntmps12
  go_wp2_with (go_at_call 27; with_reducible refine (kF _).mono ?_; rintro e w2 ⟨rfl, rfl⟩)
  go_ret2
  exact ⟨rfl, (Below.refl _ _).alloc (Nat.le_refl _) _⟩
set_option maxRecDepth 100000 in
set_option maxHeartbeats 4000000 in
theorem aencode_any (i : Nat) (a b c : Int) (n : Nat) (w : World) (hT : TabW w) (h1 : 1 ≤ i) (h2 : i < 57) (hn : n < 4294967296) :
    Calls Tryd.prog 12 #[.agg (tab 5 (insA (i : Int) a b c (n : Int)))] w fun e w' => e = .returned (.tuple #[.int .u32 ((if encB i a b c n then encW i a b c n else 0 : Nat) : Int), .bool (encB i a b c n)]) ∧ Below w.heap.size w w' := by
  rw [show tab 5 (insA (i : Int) a b c (n : Int)) = #[.int .i64 (i : Int), .int .i64 a, .int .i64 b, .int .i64 c, .int .u32 (n : Int)] from rfl]
  have hf := opP_ne i h1 h2
  have kF := fun W => form_at i W h1 h2
  have kW := fun W => withFields_any (opP i).1 hf (opP i).2 n i a b c W (word_lt i) hn
  rw [show tab 5 (insA (i : Int) a b c (n : Int)) = #[.int .i64 (i : Int), .int .i64 a, .int .i64 b, .int .i64 c, .int .u32 (n : Int)] from rfl] at kW
  have kD := fun W => fieldsOf_any (encW i a b c n) i W (encW_lt i a b c n) h1 h2
  obtain ⟨r, hr⟩ : ∃ r, r = encB i a b c n := ⟨_, rfl⟩
  rw [← hr]
  have hVl := encW_lt i a b c n
  have hml := word_lt i
  have hc := hT.c i h2
  unfold encB at hr
  have eW : fldL (opP i).1 (opP i).2 (u32N a) (u32N b) (u32N c) n = encW i a b c n := rfl
  rw [eW] at kW
  have eD : ∀ V, tab 5 (insW V i) = #[.int .i64 (i : Int), .int .i64 ((if rdB (opP i).1 then bitsN V 11 7 else 0 : Nat) : Int), .int .i64 ((if r1B (opP i).1 then bitsN V 19 15 else 0 : Nat) : Int), .int .i64 ((if r2B (opP i).1 then bitsN V 24 20 else 0 : Nat) : Int), .int .u32 ((immL (opP i).1 V : Nat) : Int)] := fun _ => rfl
  rw [eD] at kD
  clear eD
  generalize encW i a b c n = V at *
  generalize ((if rdB (opP i).1 then bitsN V 11 7 else 0 : Nat) : Int) = x1 at *
  generalize ((if r1B (opP i).1 then bitsN V 19 15 else 0 : Nat) : Int) = x2 at *
  generalize ((if r2B (opP i).1 then bitsN V 24 20 else 0 : Nat) : Int) = x3 at *
  generalize immL (opP i).1 V = x4 at *
  generalize (opP i).2 = m at *
  generalize fmN (opP i).1 = k at *
  have HT := Lib.hid hT
  have HC := Lib.hid hc
  have HR := Lib.hid hr
  clear hT hr hc hf eW
  go_enter Tryd.func12, Tryd.ntmps12
  go_upto_region 4 with (go_at_call 27; with_reducible refine (kF _).mono ?_; rintro e w2 ⟨rfl, rfl⟩)
  obtain ⟨wa, hwa, hX, hb0, hs0⟩ := one_new w #[.int .i64 (i : Int), .int .i64 a, .int .i64 b, .int .i64 c, .int .u32 (n : Int)] 26
  rw [← hwa]
  have hcA : wa.cell? ⟨0, i, none⟩ = some (.int .u32 (m : Int)) := (hb0.cell (p := ⟨0, i, none⟩) (Nat.lt_of_lt_of_le (show (0 : Nat) < 1 by decide) HT.out.size)).trans HC.out
  have hg0 : (0 : Nat) < wa.heap.size := by have := HT.out.size; show 0 < _; omega
  have hgx : w.heap.size < wa.heap.size := by omega
  have HS := Lib.hid hs0
  clear hwa hs0
  have hi57 : (i : Int) < 57 := by omega
  refine region_quiet_tail (Below wa.heap.size wa) 7 (by kernel_rfl) (by kernel_rfl) (below_drewN (Below.refl _ _) 1) ?_
  simp only [List.take_succ_cons, List.take_zero, List.drop_succ_cons, List.drop_zero]
  refine wpQ_val rfl (.pointer (some ⟨w.heap.size, 0, none⟩)) (fun w' _ => by go_simp) ?_
  simp only [Act.put, List.setIfInBounds_toArray, List.set_cons_zero, List.set_cons_succ]
  refine wpQ_val rfl (.int .i64 (i : Int)) (fun w' hC => by
    have hcell : w'.cell? ⟨w.heap.size, 0, none⟩ = some (.int .i64 (i : Int)) := (hC.cell (p := ⟨w.heap.size, 0, none⟩) hgx).trans (hX.cell 0)
    go_simp) ?_
  simp only [Act.put, List.setIfInBounds_toArray, List.set_cons_zero, List.set_cons_succ]
  refine wpQ_val rfl (.pointer (some ⟨0, i, none⟩)) (fun w' _ => by go_simp) ?_
  simp only [Act.put, List.setIfInBounds_toArray, List.set_cons_zero, List.set_cons_succ]
  refine wpQ_val rfl (.int .u32 (m : Int)) (fun w' hC => by
    have hcell : w'.cell? ⟨0, i, none⟩ = some (.int .u32 (m : Int)) := (hC.cell (p := ⟨0, i, none⟩) hg0).trans hcA
    go_simp) ?_
  simp only [Act.put, List.setIfInBounds_toArray, List.set_cons_zero, List.set_cons_succ]
  refine wpQ_move _ rfl rfl (.int .i64 (k : Int)) rfl ?_
  simp only [Act.put, List.setIfInBounds_toArray, List.set_cons_zero, List.set_cons_succ]
  refine wpQ_has 26 _ rfl w.heap.size rfl rfl 26 #[.int .i64 (i : Int), .int .i64 a, .int .i64 b, .int .i64 c, .int .u32 (n : Int)] (fun w' hC => hX.below hC hgx) _ Tryd.underlying26 rfl infoIa5 ?_
  simp only [Act.put, List.setIfInBounds_toArray, List.set_cons_zero, List.set_cons_succ]
  refine wpQ_fn 32 _ _ rfl rfl #[.int .u32 (m : Int), .int .i64 (k : Int), .agg #[.int .i64 (i : Int), .int .i64 a, .int .i64 b, .int .i64 c, .int .u32 (n : Int)]] rfl (fun _ => by go_simp) (.int .u32 (V : Int)) (fun w' hC => (kW w').mono fun e w'' ⟨he, hb⟩ => ⟨he, below_class hC hb⟩) ?_
  simp only [Act.put, List.setIfInBounds_toArray, List.set_cons_zero, List.set_cons_succ]
  refine wpQuiet_nil ?_
  intro w1 hC
  have hX1 := hX.below hC hgx
  have hb1 := hb0.trans (hC.mono (Nat.le_of_lt hgx))
  have hgx1 := hX1.lt
  clear hX hcA hg0 hgx
  clear hC
  have hb1' := Lib.hid hb1
  clear hb1
  go_upto_region 5 with fail
  refine region_quiet_all (Below w1.heap.size w1) (by kernel_rfl) (by kernel_rfl) (below_drewN (Below.refl _ _) 1) ?_
  refine wpQ_move _ rfl rfl (.int .u32 (V : Int)) rfl ?_
  simp only [Act.put, List.setIfInBounds_toArray, List.set_cons_zero, List.set_cons_succ]
  refine wpQ_val rfl (.pointer (some ⟨w.heap.size, 0, none⟩)) (fun w' _ => by go_simp) ?_
  simp only [Act.put, List.setIfInBounds_toArray, List.set_cons_zero, List.set_cons_succ]
  refine wpQ_val rfl (.int .i64 (i : Int)) (fun w' hC => by
    have hcell : w'.cell? ⟨w.heap.size, 0, none⟩ = some (.int .i64 (i : Int)) := (hC.cell (p := ⟨w.heap.size, 0, none⟩) hgx1).trans (hX1.cell 0)
    go_simp) ?_
  simp only [Act.put, List.setIfInBounds_toArray, List.set_cons_zero, List.set_cons_succ]
  refine wpQ_fn 29 _ _ rfl rfl #[.int .u32 (V : Int), .int .i64 (i : Int)] rfl (fun _ => by go_simp) (.agg #[.int .i64 (i : Int), .int .i64 x1, .int .i64 x2, .int .i64 x3, .int .u32 (x4 : Int)]) (fun w' hC => (kD w').mono fun e w'' ⟨he, hb⟩ => ⟨he, below_class hC hb⟩) ?_
  simp only [Act.put, List.setIfInBounds_toArray, List.set_cons_zero, List.set_cons_succ]
  refine wpQ_has 26 _ rfl w.heap.size rfl rfl 26 #[.int .i64 (i : Int), .int .i64 a, .int .i64 b, .int .i64 c, .int .u32 (n : Int)] (fun w' hC => hX1.below hC hgx1) _ Tryd.underlying26 rfl infoIa5 ?_
  simp only [Act.put, List.setIfInBounds_toArray, List.set_cons_zero, List.set_cons_succ]
  refine wpQ_bin .neq 26 _ _ 26 rfl rfl (.agg #[.int .i64 (i : Int), .int .i64 x1, .int .i64 x2, .int .i64 x3, .int .u32 (x4 : Int)]) (.agg #[.int .i64 (i : Int), .int .i64 a, .int .i64 b, .int .i64 c, .int .u32 (n : Int)]) rfl rfl (.bool (!r)) (fun W _ => by rw [HR.out]; exact run_neq_inst _ _ _ _ _ _ _ _ _ _ W _ _) ?_
  simp only [Act.put, List.setIfInBounds_toArray, List.set_cons_zero, List.set_cons_succ]
  refine wpQuiet_nil ?_
  intro w3 hC
  have hb3 := hb1'.out.trans (hC.mono hb1'.out.size)
  have HB3 := Lib.hid hb3
  clear hb3 hC hX1 kF kW kD
  have HRR := HR
  clear HR
  cases r with
  | true =>
    go_wp2_with fail
    go_ret2
    exact ⟨rfl, HB3.out⟩
  | false =>
    go_wp2_with fail
    go_ret2
    exact ⟨rfl, HB3.out⟩
end Go.Proofs.YtghfbdkfibbhoaaDoor
