/-
Package mont keeps what the laws' walks ask of it: New, Inv, and all its calls together.
-/
import Derived.Test.YtodialbopochdaaModG
import Derived.Test.YtodialbopochdaaMontC
namespace Go.Proofs.Ytodialbopochdaa
open Go.RowKit

theorem wpQ_parts {P : Program} {ops : Array Oper} {rest : List Oper} {o : Oper} {a : Act} {C : World → Prop} {L : Act → Prop} (t : TypeId) (ps : Array (Nat × Operand)) (ho : o.op = .build t ps) (hw : Region.wanted o (yielded ops a.tmps) = true) (vs : Array (Nat × Value)) (hvs : (ps.map fun p => (p.1, a.eval p.2)) = vs) (v : Value)
    (hrun : ∀ w, C w → (Instr.build t vs).run P w = .ok v w) (h : wpQuiet P ops C L rest (a.put o.dst v)) : wpQuiet P ops C L (o :: rest) a :=
  wpQ_val hw v (fun w hC => by
    have e := hrun w hC
    rw [← hvs] at e
    simp only [execOp, ho]
    rw [Sem.run_bind, e]
    rfl) h
theorem addr8 (g j : Nat) (hj : j < 8) (w : World) : (Instr.indexAt 24 (.pointer (some ⟨g, 0, none⟩)) (.int .i64 (j : Int))).run Try.prog w = .ok (.pointer (some ⟨g, j, none⟩)) w := by
  have h1 : (j : Int) < 8 := by omega
  go_simp
theorem cell_u32 (g j : Nat) (v : Value) (w : World) (h : w.cell? ⟨g, j, none⟩ = some v) : (Instr.loadAt 22 (.pointer (some ⟨g, j, none⟩))).run Try.prog w = .ok v w := by
  go_simp
theorem negU (x y : Int) (h : IntKind.u32.wrap (-x) = y) (w : World) : (Op.unary .neg (.int .u32 x)).run Try.prog w = .ok (.int .u32 y) w := by
  subst h
  go_simp
attribute [local go_sem] zeroNum md1 md2
set_option maxRecDepth 100000 in
set_option maxHeartbeats 1000000 in
theorem minv_any (a m g : Nat) (w : World) (h : IsMod w g m) (ha : a < m) : Calls Try.prog 30 #[.pointer (some ⟨g, 0, none⟩), .agg (nums a)] w fun z w' => z = .returned (.agg (nums (powN m a (m - 2)))) ∧ Below w.heap.size w w' := by
  obtain ⟨hm, h1, h2⟩ := h.facts
  have cS := fun W => sub_any m 2 W hm (by decide +kernel)
  have e : nums (m + big - 2) = nums (m - 2) := by rw [← nums_mod (m + big - 2), show m + big - 2 = (m - 2) + big by omega, Nat.add_mod_right, nums_mod]
  rw [e] at cS
  have cP := fun W h => mpow_any a (m - 2) m g W h ha (by omega)
  clear e ha hm h1 h2
  generalize powN m a (m - 2) = x at *
  generalize m - 2 = d at *
  generalize under m 2 = u at *
  have n0 := nums_ne 0
  have hA : Has ((w.alloc (.cells (nums a) 24)).alloc (.cells (nums 0) 24)) (w.heap.size) 24 (nums a) := (Has.new w _ _).alloc _
  have hR : Has ((w.alloc (.cells (nums a) 24)).alloc (.cells (nums 0) 24)) (w.heap.size + 1) 24 (nums 0) := Has.new' (by simp)
  have hb0 : Below w.heap.size w ((w.alloc (.cells (nums a) 24)).alloc (.cells (nums 0) 24)) := ((Below.refl _ _).alloc (Nat.le_refl _) _).alloc (by simp <;> omega) _
  replace h := h.after hb0
  have hG : ∃ ni, Has ((w.alloc (.cells (nums a) 24)).alloc (.cells (nums 0) 24)) g 52 (modC m ni (RR % m) (RR * RR % m)) := by obtain ⟨ni, _, _, _, _, _, h⟩ := h; exact ⟨ni, h⟩
  obtain ⟨ni, hG⟩ := hG
  go_enter Try.func30, Try.ntmps30
  go_wp2_with (first | refine wpList_load_num rfl _ rfl _ 0 rfl _ (mod_words hG) ?_)
  refine (cS _).mono ?_
  rintro z w1 ⟨rfl, hx⟩
  have hN := put_new w1 24 (nums 0) (nums d)
  replace hA := (hA.after hx).after hN.2
  replace hR := (hR.after hx).after hN.2
  replace h := (h.after hx).after hN.2
  replace hb0 := below_trans (below_trans hb0 hx) hN.2
  have hD := hN.1
  clear hx hN hG cS
  go_wp2_with (first | refine wpList_store_row rfl 24 _ _ rfl w1.heap.size _ rfl rfl 24 (nums 0) (Has.new' rfl) (infoNum _) (by simp only [nums_size]) (tab_oneCell _ _ fun _ => rfl) ?_ | refine wpList_load_has 24 _ rfl _ rfl rfl 24 _ hA _ Try.underlying24 rfl (infoNum _) ?_ | refine wpList_load_has 24 _ rfl _ rfl rfl 24 _ hD _ Try.underlying24 rfl (infoNum _) ?_)
  refine (cP _ h).mono ?_
  rintro z w2 ⟨rfl, hx⟩
  replace hR := hR.after hx
  replace hb0 := below_trans hb0 hx
  go_wp2_with (first | refine wpList_store_row rfl 24 _ _ rfl (w.heap.size + 1) _ rfl rfl 24 _ hR (infoNum _) (by simp only [nums_size]) (tab_oneCell _ _ fun _ => rfl) ?_)
  exact bodyPost_ret (v := .agg (nums x)) (results_cell_row rfl _ _ (w.heap.size + 1) 24 _ _ _ rfl (hR.setRow _) Try.underlying24 rfl (infoNum _)) rfl ⟨rfl, below_setRow hb0 (by omega) _⟩
theorem bit0 (m b : Nat) (h : m % 2 = b) (W : World) : Calls Try.prog 33 #[.agg (nums m), .int .i64 0] W fun e w' => e = .returned (.int .u32 (b : Int)) ∧ Below W.heap.size W w' := by
  have e := bit_any m 0 W (by omega)
  have hb : bitN m 0 = b := by unfold bitN; rw [Nat.pow_zero, Nat.div_one]; exact h
  rw [hb] at e
  exact e
attribute [local go_sem] zeroNum md1 md2
set_option maxRecDepth 100000 in
set_option maxHeartbeats 1000000 in
theorem new_any (m : Nat) (w : World) (hodd : m % 2 = 1) (h1 : 1 < m) (hm : m < big) :
    Calls Try.prog 9 #[.agg (nums m)] w fun e w' => (∃ g, e = .returned (.tuple #[.pointer (some ⟨g, 0, none⟩), .int .i64 0]) ∧ IsMod w' g m) ∧ Below w.heap.size w w' := by
  have cB := fun W => bit0 m 1 hodd W
  have he := eql_nums hm (show 1 < big by decide +kernel)
  have hsm : sameN m 1 = false := decide_eq_false (by omega)
  rw [hsm] at he
  have ho : wrd m 0 % 2 = 1 := by have : wrd m 0 = m % 4294967296 := by (unfold wrd dg; rw [Nat.pow_zero, Nat.div_one])
                                  omega
  have hinv := inv_end (wrd m 0) ho
  have cV := fun W => (inverse_any (wrd m 0) W).mono (fun e w' (h : _ ∧ W = w') => (⟨h.1, by rw [← h.2]; exact Below.refl _ _⟩ : _ ∧ Below W.heap.size W w'))
  have hlt := invN_lt (wrd m 0) 5
  generalize invN (wrd m 0) 5 = n at *
  obtain ⟨ni, hni⟩ : ∃ ni, ni = 4294967296 - n := ⟨_, rfl⟩
  have hn0 : n ≠ 0 := fun h => by rw [h, Nat.mul_zero] at hinv; omega
  have hneg : IntKind.u32.wrap (-(n : Int)) = (ni : Int) := by rw [IntKind.wrap_u32]; omega
  have hnl : ni < 4294967296 := by omega
  have hw0 : wrd m 0 = m % BB := by unfold wrd dg; rw [Nat.pow_zero, Nat.div_one]
  have hend : (m % BB * ni + 1) % BB = 0 := by rw [← hw0]; exact neg_end hlt hinv hni
  have buildV := buildM m ni
  have cD1 := fun o s g W h => doubled_any 1 m ni o s g W h h1 hm
  have cD2 := fun o s g W h => doubled_any (RR % m) m ni o s g W h (Nat.mod_lt _ (by omega)) hm
  have e1 : RR * 1 % m = RR % m := by rw [Nat.mul_one]
  have e2 : RR * (RR % m) % m = RR * RR % m := by rw [Nat.mul_mod, Nat.mod_mod, ← Nat.mul_mod]
  simp only [e1] at cD1
  simp only [e2] at cD2
  have hI : ∀ (w' : World) (g : Nat), Has w' g 52 (modC m ni (RR % m) (RR * RR % m)) → IsMod w' g m := fun w' g h => ⟨ni, hnl, hend, hodd, h1, hm, h⟩
  have HI := Lib.hid hI
  have HD1 := Lib.hid cD1
  have HD2 := Lib.hid cD2
  clear hI e1 e2 cD1 cD2 hni hn0 hlt hinv ho hsm hodd h1 hm hnl hend hw0
  generalize RR % m = x at *
  generalize RR * RR % m = y at *
  have n0 := nums_ne 0
  have hA : Has (w.alloc (.cells (nums m) 24)) (w.heap.size) 24 (nums m) := Has.new w _ _
  have hb0 : Below w.heap.size w (w.alloc (.cells (nums m) 24)) := (Below.refl _ _).alloc (Nat.le_refl _) _
  go_enter Try.func9, Try.ntmps9
  go_wp2_with (first | refine wpList_load_has 24 _ rfl _ rfl rfl 24 _ hA _ Try.underlying24 rfl (infoNum _) ?_)
  refine (cB _).mono ?_
  rintro e w1 ⟨rfl, hx⟩
  replace hA := hA.after hx
  replace hb0 := below_trans hb0 hx
  clear hx cB
  go_wp2_with (first | refine wpList_load_has 24 _ rfl _ rfl rfl 24 _ hA _ Try.underlying24 rfl (infoNum _) ?_)
  refine region_quiet_tail (Below w1.heap.size w1) 6 (by kernel_rfl) (by kernel_rfl) (below_drewN (Below.refl _ _) 1) ?_
  simp only [List.take_succ_cons, List.take_zero, List.drop_succ_cons, List.drop_zero]
  refine wpQ_has 24 _ rfl _ rfl rfl 24 _ (fun w' hC => hA.after hC) _ Try.underlying24 rfl (infoNum _) ?_
  simp only [Act.put, List.setIfInBounds_toArray, List.set_cons_zero, List.set_cons_succ]
  refine wpQ_val rfl (.pointer (some ⟨w.heap.size, 0, none⟩)) (fun w' _ => by go_simp) ?_
  simp only [Act.put, List.setIfInBounds_toArray, List.set_cons_zero, List.set_cons_succ]
  refine wpQ_load 22 _ rfl rfl _ rfl (.int .u32 ((wrd m 0 : Nat) : Int)) (fun w' hC => cell_u32 _ _ _ w' (nums_at (hA.after hC) 0 (by omega))) ?_
  simp only [Act.put, List.setIfInBounds_toArray, List.set_cons_zero, List.set_cons_succ]
  refine wpQ_fn 34 _ _ rfl rfl #[.int .u32 ((wrd m 0 : Nat) : Int)] rfl (fun _ => by go_simp) (.int .u32 (n : Int)) (fun w' hC => (cV w').mono fun e w'' ⟨he, hb⟩ => ⟨he, below_class hC hb⟩) ?_
  simp only [Act.put, List.setIfInBounds_toArray, List.set_cons_zero, List.set_cons_succ]
  refine wpQ_un _ _ _ rfl rfl (.int .u32 (n : Int)) rfl (.int .u32 (ni : Int)) (fun w' _ => negU _ _ hneg w') ?_
  simp only [Act.put, List.setIfInBounds_toArray, List.set_cons_zero, List.set_cons_succ]
  refine wpQ_parts 52 _ rfl rfl #[(0, .agg (nums m)), (1, .int .u32 (ni : Int))] (by simp only [List.map_toArray, List.map_cons, List.map_nil]; rfl) (.agg (modC m ni 0 0)) (fun w' _ => buildV w') ?_
  simp only [Act.put, List.setIfInBounds_toArray, List.set_cons_zero, List.set_cons_succ]
  refine wpQuiet_nil ?_
  intro w2 hC
  replace hb0 := below_trans hb0 hC
  have hgw := hb0.size
  have hG : Has (w2.alloc (.cells (modC m ni 0 0) 52)) w2.heap.size 52 (modC m ni 0 0) := Has.new _ _ _
  replace hb0 := hb0.alloc hgw (.cells (modC m ni 0 0) 52)
  clear hC hA cV hneg buildV he
  go_wp2_with fail
  generalize hWW : w2.alloc _ = W at *
  clear hWW
  generalize w2.heap.size = g at *
  refine (HD1.out _ _ _ _ hG).mono ?_
  rintro z w3 ⟨rfl, hx⟩
  replace hG := hG.after hx
  replace hb0 := below_trans hb0 hx
  have hG2 := hG.setRow (modC m ni x 0)
  replace hb0 := below_setRow hb0 (g := g) hgw (modC m ni x 0)
  clear hx
  go_wp2_with (first | refine wpList_store_sub rfl _ _ rfl g 9 rfl x rfl 25 (modF m ni 0 0) 52 hG (by omega) (modC m ni x 0) (oneM m ni 0 0 x) ?_ | refine wpList_load_num rfl _ rfl _ 9 rfl _ (mod_one hG2) ?_)
  refine (HD2.out _ _ _ _ hG2).mono ?_
  rintro z w4 ⟨rfl, hx⟩
  replace hG2 := hG2.after hx
  replace hb0 := below_trans hb0 hx
  have hG3 := hG2.setRow (modC m ni x y)
  replace hb0 := below_setRow hb0 (g := g) hgw (modC m ni x y)
  clear hx hG
  go_wp2_with (first | refine wpList_store_sub rfl _ _ rfl g 17 rfl y rfl 25 (modF m ni x 0) 52 hG2 (by omega) (modC m ni x y) (squareM m ni x 0 y) ?_)
  go_ret2
  exact ⟨⟨g, rfl, HI.out _ _ hG3⟩, hb0⟩
attribute [local go_sem] zeroNum md1 md2
set_option maxRecDepth 100000 in
set_option maxHeartbeats 1000000 in
theorem new_bad_any (m : Nat) (w : World) (hm : m < big) (hbad : m % 2 = 0 ∨ m = 1) :
    Calls Try.prog 9 #[.agg (nums m)] w fun e w' => e = .returned (.tuple #[.pointer none, .int .i64 1]) ∧ Below w.heap.size w w' := by
  have he := eql_nums hm (show 1 < big by decide +kernel)
  have n0 := nums_ne 0
  have hA : Has (w.alloc (.cells (nums m) 24)) (w.heap.size) 24 (nums m) := Has.new w _ _
  have hb0 : Below w.heap.size w (w.alloc (.cells (nums m) 24)) := (Below.refl _ _).alloc (Nat.le_refl _) _
  by_cases hz : m % 2 = 0
  · have cB := fun W => bit0 m 0 hz W
    clear hbad he hz
    go_enter Try.func9, Try.ntmps9
    go_wp2_with (first | refine wpList_load_has 24 _ rfl _ rfl rfl 24 _ hA _ Try.underlying24 rfl (infoNum _) ?_)
    refine (cB _).mono ?_
    rintro e w1 ⟨rfl, hx⟩
    replace hb0 := below_trans hb0 hx
    clear hx cB hA
    go_wp2_with fail
    go_ret2
    exact ⟨rfl, hb0⟩
  · have h1 : m = 1 := by omega
    have cB := fun W => bit0 m 1 (by omega) W
    have hsm : sameN m 1 = true := decide_eq_true h1
    rw [hsm] at he
    clear hbad hz h1 hsm
    go_enter Try.func9, Try.ntmps9
    go_wp2_with (first | refine wpList_load_has 24 _ rfl _ rfl rfl 24 _ hA _ Try.underlying24 rfl (infoNum _) ?_)
    refine (cB _).mono ?_
    rintro e w1 ⟨rfl, hx⟩
    replace hA := hA.after hx
    replace hb0 := below_trans hb0 hx
    clear hx cB
    go_wp2_with (first | refine wpList_load_has 24 _ rfl _ rfl rfl 24 _ hA _ Try.underlying24 rfl (infoNum _) ?_)
    go_ret2
    exact ⟨rfl, hb0⟩
/-- package mont's calls do what the laws' walks ask of them -/
theorem mont_ok : MontOK IsMod where
  keep := fun h k => h.after k
  new_ok := fun m w h1 h2 h3 => new_any m w h1 h2 h3
  new_bad := fun m w h1 h2 => new_bad_any m w h1 h2
  modulus_ok := fun w g m h => mmodulus_any m g w h
  modulus_nil := fun w => nmodulus_any w
  add_ok := fun w g m a b h ha hb => by
    obtain ⟨ni, i1, i2, i3, i4, i5, i6⟩ := h
    exact addm_any a b m ni _ _ g w i6 ha hb i5
  add_nil := fun w a b _ _ => nadd_any a b w
  sub_ok := fun w g m a b h ha hb => by
    obtain ⟨ni, i1, i2, i3, i4, i5, i6⟩ := h
    exact subm_any a b m ni _ _ g w i6 ha hb i5
  times_ok := fun w g m a b h ha hb => mtimes_any a b m g w h ha hb
  in_ok := fun w g m a h ha => min_any a m g w h ha
  out_ok := fun w g m a h ha => mout_any a m g w h ha
  one_ok := fun w g m h => mone_any m g w h
  pow_ok := fun w g m a e h ha he => mpow_any a e m g w h ha he
  inv_ok := fun w g m a h ha => minv_any a m g w h ha
  mul_ok := fun w g m a b h ha hb => mmul_any a b m g w h ha hb
  reduce_ok := fun w g m a h ha => mreduce_any a m g w h ha
end Go.Proofs.Ytodialbopochdaa
