/-
The reference of layer 3: what is left modulo m, differences, 2^256 modulo m.
-/
import Derived.Test.YtodialbopochdaaTriC
import Derived.Test.YtodialbopochdaaGenB
namespace Go.Proofs.Ytodialbopochdaa
open Go.RowKit

def bitA (a k : Nat) : Nat := a / 2 ^ k % 2
theorem bitA_le (a k : Nat) : bitA a k ≤ 1 := by have : bitA a k < 2 := Nat.mod_lt _ (by decide); omega
theorem bit_hex (a k : Nat) : ((hxd a (k / 16) : Nat) : Int) / 2 ^ (k % 16) % 2 = ((bitA a k : Nat) : Int) := by
  have h := dg_dg (b := 2) (m := 16) (x := a) (q := k / 16) (r := k % 16) (by omega)
  rw [Nat.div_add_mod] at h
  have e : hxd a (k / 16) / 2 ^ (k % 16) % 2 = bitA a k := h
  rw [← e]
  simp [Int.natCast_ediv, Int.natCast_pow, Int.natCast_emod]
theorem quo16 (o1 o2 : Operand) (k : Nat) (hk : k < 65536) (w : World) : (do eqGuard .quo 3 o1 o2 (.int .i64 (k : Int)) (.int .i64 16); binOp .quo 3 (.int .i64 (k : Int)) (.int .i64 16) : Sem Value).run Try.prog w = .ok (.int .i64 ((k / 16 : Nat) : Int)) w := by
  have e1 : (k : Int).tdiv 16 = ((k / 16 : Nat) : Int) := by rw [Int.tdiv_eq_ediv_of_nonneg (by omega)]; omega
  go_simp
  exact IntWalk.i64_in _ (by omega)
theorem rem16 (o1 o2 : Operand) (k : Nat) (hk : k < 65536) (w : World) : (do eqGuard .rem 3 o1 o2 (.int .i64 (k : Int)) (.int .i64 16); binOp .rem 3 (.int .i64 (k : Int)) (.int .i64 16) : Sem Value).run Try.prog w = .ok (.int .i64 ((k % 16 : Nat) : Int)) w := by
  have e1 : (k : Int).tmod 16 = ((k % 16 : Nat) : Int) := by rw [Int.tmod_eq_emod_of_nonneg (by omega)]; omega
  go_simp
theorem shr64 (o1 o2 : Operand) (x k : Nat) (hx : x < 65536) (hk : k < 64) (w : World) : (do eqGuard .shr 32 o1 o2 (.int .u64 (x : Int)) (.int .i64 (k : Int)); binOp .shr 32 (.int .u64 (x : Int)) (.int .i64 (k : Int)) : Sem Value).run Try.prog w = .ok (.int .u64 ((x : Int) / 2 ^ k)) w := by
  have hk2 : (k : Int) < 64 := by omega
  have hmin : min k 64 = k := Nat.min_eq_left (by omega)
  go_simp
theorem rem2 (o1 o2 : Operand) (x : Int) (b : Nat) (hx : 0 ≤ x) (h : x % 2 = (b : Int)) (w : World) : (do eqGuard .rem 32 o1 o2 (.int .u64 x) (.int .u64 2); binOp .rem 32 (.int .u64 x) (.int .u64 2) : Sem Value).run Try.prog w = .ok (.int .u64 (b : Int)) w := by
  have h2 : x.tmod 2 = (b : Int) := by rw [Int.tmod_eq_emod_of_nonneg hx]; exact h
  go_simp
theorem addr16 (g j : Nat) (hj : j < 16) (w : World) : (Instr.indexAt 34 (.pointer (some ⟨g, 0, none⟩)) (.int .i64 (j : Int))).run Try.prog w = .ok (.pointer (some ⟨g, j, none⟩)) w := by
  have h1 : (j : Int) < 16 := by omega
  go_simp
theorem cell_u64 (g j : Nat) (v : Value) (w : World) (h : w.cell? ⟨g, j, none⟩ = some v) : (Instr.loadAt 32 (.pointer (some ⟨g, j, none⟩))).run Try.prog w = .ok v w := by
  go_simp
attribute [local go_sem] zeroNum zero16 zero17
set_option maxRecDepth 100000 in
set_option maxHeartbeats 1000000 in
theorem reduce3_any (a m : Nat) (w : World) (ha : a < 65536 ^ 16) (hm0 : 0 < m) (hm : m < 65536 ^ 16) :
    Calls Try.prog 13 #[.agg (d16 a), .agg (d16 m)] w fun e w' => e = .returned (.agg (d16 (a % m))) ∧ Below w.heap.size w w' := by
  have htw := fun k W => twice_any (a / 2 ^ (k + 1) % m) m (bitA a k) W (Nat.mod_lt _ hm0) hm (bitA_le a k)
  have HTW := Lib.hid htw
  have hst : a / 2 ^ 256 % m = 0 := by
    have : (65536 : Nat) ^ 16 = 2 ^ 256 := by decide +kernel
    rw [this] at ha
    rw [Nat.div_eq_of_lt ha, Nat.zero_mod]
  have HST := Lib.hid hst
  clear htw hst ha hm0 hm
  go_enter Try.func13, Try.ntmps13
  go_wp2_with fail
  go_loopw [6] (fun ct wr => ∃ k : Nat, k ≤ 256 ∧ ct = .int .i64 ((k : Int) - 1) ∧ Has wr w.heap.size 34 (d16 a) ∧ Has wr (w.heap.size + 1) 34 (d16 m) ∧ Has wr (w.heap.size + 1 + 1) 34 (d16 0) ∧
      Has wr (w.heap.size + 1 + 1 + 1) 34 (d16 (a / 2 ^ k % m)) ∧ Below w.heap.size w wr) (fun ct _ => (intOf ct + 1).toNat)
  case atStart =>
    exact ⟨256, by omega, rfl, (((Has.new w _ _).alloc _).alloc _).alloc _, ((Has.new' (by simp)).alloc _).alloc _, (Has.new' (by simp)).alloc _, by rw [HST.out]; exact Has.new' (by simp),
      ((((Below.refl _ _).alloc (Nat.le_refl _) _).alloc (by simp) _).alloc (by simp <;> omega) _).alloc (by simp <;> omega) _⟩
  case round =>
    obtain ⟨k, hk, rfl, hA, hM, hR, hX, hb⟩ := hrel
    by_cases hlt : 0 < k
    · obtain ⟨k, rfl⟩ : ∃ j, k = j + 1 := ⟨k - 1, by omega⟩
      have ek : ((k + 1 : Nat) : Int) - 1 = (k : Int) := by omega
      rw [ek]
      clear ek
      have htw := HTW.out k
      have hts := twice_step a m k
      have hval : (2 * (a / 2 ^ (k + 1) % m) + bitA a k) % m = a / 2 ^ k % m := hts
      rw [hval] at htw
      clear hts hval
      generalize hold : a / 2 ^ (k + 1) % m = x at *
      generalize hnew : a / 2 ^ k % m = y at *
      have HN := Lib.hid hnew
      clear hold hnew
      go_wp2_with fail
      refine region_quiet_tail (Below wr.heap.size wr) 11 (by kernel_rfl) (by kernel_rfl) (below_drewN (Below.refl _ _) 1) ?_
      simp only [List.take_succ_cons, List.take_zero, List.drop_succ_cons, List.drop_zero]
      refine wpQ_has 34 _ rfl _ rfl rfl 34 _ (fun w' hC => hX.after hC) _ Try.underlying34 rfl (info16 _) ?_
      simp only [Act.put, List.setIfInBounds_toArray, List.set_cons_zero, List.set_cons_succ]
      refine wpQ_has 34 _ rfl _ rfl rfl 34 _ (fun w' hC => hM.after hC) _ Try.underlying34 rfl (info16 _) ?_
      simp only [Act.put, List.setIfInBounds_toArray, List.set_cons_zero, List.set_cons_succ]
      refine wpQ_move _ rfl rfl (.int .i64 (k : Int)) rfl ?_
      simp only [Act.put, List.setIfInBounds_toArray, List.set_cons_zero, List.set_cons_succ]
      refine wpQ_bin _ _ _ _ _ rfl rfl (.int .i64 (k : Int)) (.int .i64 16) rfl rfl (.int .i64 ((k / 16 : Nat) : Int)) (fun w' _ => quo16 _ _ k (by omega) w') ?_
      simp only [Act.put, List.setIfInBounds_toArray, List.set_cons_zero, List.set_cons_succ]
      refine wpQ_indexAddr _ _ _ rfl rfl (.pointer (some ⟨w.heap.size, 0, none⟩)) (.int .i64 ((k / 16 : Nat) : Int)) rfl rfl (.pointer (some ⟨w.heap.size, k / 16, none⟩)) (fun w' _ => addr16 _ _ (by omega) w') ?_
      simp only [Act.put, List.setIfInBounds_toArray, List.set_cons_zero, List.set_cons_succ]
      refine wpQ_load _ _ rfl rfl (.pointer (some ⟨w.heap.size, k / 16, none⟩)) rfl (.int .u64 ((hxd a (k / 16) : Nat) : Int)) (fun w' hC => cell_u64 _ _ _ w' (d16_at (hA.after hC) (k / 16) (by omega))) ?_
      simp only [Act.put, List.setIfInBounds_toArray, List.set_cons_zero, List.set_cons_succ]
      refine wpQ_move _ rfl rfl (.int .i64 (k : Int)) rfl ?_
      simp only [Act.put, List.setIfInBounds_toArray, List.set_cons_zero, List.set_cons_succ]
      refine wpQ_bin _ _ _ _ _ rfl rfl (.int .i64 (k : Int)) (.int .i64 16) rfl rfl (.int .i64 ((k % 16 : Nat) : Int)) (fun w' _ => rem16 _ _ k (by omega) w') ?_
      simp only [Act.put, List.setIfInBounds_toArray, List.set_cons_zero, List.set_cons_succ]
      refine wpQ_bin _ _ _ _ _ rfl rfl (.int .u64 ((hxd a (k / 16) : Nat) : Int)) (.int .i64 ((k % 16 : Nat) : Int)) rfl rfl (.int .u64 (((hxd a (k / 16) : Nat) : Int) / 2 ^ (k % 16))) (fun w' _ => shr64 _ _ _ _ (hxd_lt _ _) (by omega) w') ?_
      simp only [Act.put, List.setIfInBounds_toArray, List.set_cons_zero, List.set_cons_succ]
      refine wpQ_bin _ _ _ _ _ rfl rfl (.int .u64 (((hxd a (k / 16) : Nat) : Int) / 2 ^ (k % 16))) (.int .u64 2) rfl rfl (.int .u64 ((bitA a k : Nat) : Int)) (fun w' _ => rem2 _ _ _ _ (Int.ediv_nonneg (by omega) (Int.le_of_lt (Int.pow_pos (by decide)))) (bit_hex a k) w') ?_
      simp only [Act.put, List.setIfInBounds_toArray, List.set_cons_zero, List.set_cons_succ]
      refine wpQ_fn 38 _ _ rfl rfl #[.agg (d16 x), .agg (d16 m), .int .u64 ((bitA a k : Nat) : Int)] rfl (fun _ => by go_simp) (.agg (d16 y)) (fun w' hC => (htw w').mono fun e w'' ⟨he, hb⟩ => ⟨he, below_class hC hb⟩) ?_
      simp only [Act.put, List.setIfInBounds_toArray, List.set_cons_zero, List.set_cons_succ]
      refine wpQuiet_nil ?_
      intro w2 hC
      replace hA := hA.after hC
      replace hM := hM.after hC
      replace hR := hR.after hC
      replace hX := hX.after hC
      replace hb := below_trans hb hC
      clear hC htw
      have hX2 := hX.setRow (d16 y)
      have hA2 := hA.farRow (k := w.heap.size + 1 + 1 + 1) (by omega) (d16 y)
      have hM2 := hM.farRow (k := w.heap.size + 1 + 1 + 1) (by omega) (d16 y)
      have hR2 := hR.farRow (k := w.heap.size + 1 + 1 + 1) (by omega) (d16 y)
      have hb2 := below_setRow hb (g := w.heap.size + 1 + 1 + 1) (by omega) (d16 y)
      go_wp2_with (refine wpList_store_row rfl 34 _ _ rfl (w.heap.size + 1 + 1 + 1) _ rfl rfl 34 _ hX (info16 _) (by simp only [d16_size]) (tab_oneCell _ _ fun _ => rfl) ?_)
      go_roundw
      case rel => exact ⟨k, by omega, by go_num, hA2, hM2, hR2, by rw [HN.out]; exact hX2, hb2⟩
      case measure => simp [intOf] <;> omega
    · obtain rfl : k = 0 := by omega
      have hX' : Has wr (w.heap.size + 1 + 1 + 1) 34 (d16 (a % m)) := by rw [Nat.pow_zero, Nat.div_one] at hX; exact hX
      clear hX hA hM hk hlt
      go_wp2_with (first | refine wpList_load_row rfl 34 _ rfl (w.heap.size + 1 + 1 + 1) rfl 34 _ _ _ hX' Try.underlying34 rfl (info16 _) ?_ | refine wpList_store_row rfl 34 _ _ rfl (w.heap.size + 1 + 1) _ rfl rfl 34 _ hR (info16 _) (by simp only [d16_size]) (tab_oneCell _ _ fun _ => rfl) ?_)
      exact bodyPost_ret (v := .agg (d16 (a % m))) (results_cell_row rfl _ _ (w.heap.size + 1 + 1) 34 _ _ _ rfl (hR.setRow _) Try.underlying34 rfl (info16 _)) rfl ⟨rfl, below_setRow hb (by omega) _⟩

theorem one16 : (d16 0).setIfInBounds 0 (Value.int IntKind.u64 1) = d16 1 := by kernel_rfl
theorem d16_ne (x : Nat) : ¬ d16 x = #[] := fun h => by have := congrArg Array.size h; simp [d16_size] at this
attribute [local go_sem] one16
set_option maxRecDepth 100000 in
set_option maxHeartbeats 1000000 in
theorem r3_any (m : Nat) (w : World) (hm0 : 0 < m) (hm : m < 65536 ^ 16) :
    Calls Try.prog 21 #[.agg (d16 m)] w fun e w' => e = .returned (.agg (d16 (2 ^ 256 % m))) ∧ Below w.heap.size w w' := by
  have hred := fun W => reduce3_any 1 m W (by decide +kernel) hm0 hm
  have htw := fun k W => twice_any (2 ^ k % m) m 0 W (Nat.mod_lt _ hm0) hm (by decide)
  have htw2 : ∀ k W, Calls Try.prog 38 #[.agg (d16 (2 ^ k % m)), .agg (d16 m), .int .u64 0] W fun e w' => e = .returned (.agg (d16 (2 ^ (k + 1) % m))) ∧ Below W.heap.size W w' := fun k W => by
    have h := htw k W
    have e : (2 * (2 ^ k % m) + 0) % m = 2 ^ (k + 1) % m := by rw [Nat.add_zero, Nat.pow_succ, Nat.mul_comm (2 ^ k), Nat.mul_mod, Nat.mod_mod, ← Nat.mul_mod]
    rw [e] at h
    exact h
  have HTW := Lib.hid htw2
  have hne := d16_ne 0
  clear htw htw2 hm0 hm
  have hM : Has ((w.alloc (.cells (d16 m) 34)).alloc (.cells (d16 0) 34)) w.heap.size 34 (d16 m) := (Has.new w _ _).alloc _
  have hR : Has ((w.alloc (.cells (d16 m) 34)).alloc (.cells (d16 0) 34)) (w.heap.size + 1) 34 (d16 0) := Has.new' (by simp)
  have hb : Below w.heap.size w ((w.alloc (.cells (d16 m) 34)).alloc (.cells (d16 0) 34)) := ((Below.refl _ _).alloc (Nat.le_refl _) _).alloc (by simp) _
  go_enter Try.func21, Try.ntmps21
  go_wp2_with (refine wpList_load_has 34 _ rfl _ rfl rfl 34 _ hM _ Try.underlying34 rfl (info16 _) ?_)
  refine (hred _).mono ?_
  rintro e w1 ⟨rfl, hx⟩
  have hN := put_new w1 34 (d16 0) (d16 (1 % m))
  replace hM := (hM.after hx).after hN.2
  replace hR := (hR.after hx).after hN.2
  replace hb := below_trans (below_trans hb hx) hN.2
  have hX := hN.1
  have hw1 : w.heap.size ≤ w1.heap.size := by have := hx.size; simp at this; omega
  have hw2 : w.heap.size + 1 < w1.heap.size := by have := hx.size; simp at this; omega
  clear hx hN hred
  go_wp2_with (refine wpList_store_row rfl 34 _ _ rfl w1.heap.size _ rfl rfl 34 (d16 0) (Has.new' rfl) (info16 _) (by simp only [d16_size]) (tab_oneCell _ _ fun _ => rfl) ?_)
  generalize hg : w1.heap.size = g at *
  generalize hW : Go.World.setRow _ _ _ = W at *
  clear hW hg
  go_loopw [4] (fun ct wr => ∃ k : Nat, k ≤ 256 ∧ ct = .int .i64 k ∧ Has wr w.heap.size 34 (d16 m) ∧ Has wr (w.heap.size + 1) 34 (d16 0) ∧
      Has wr g 34 (d16 (2 ^ k % m)) ∧ Below w.heap.size w wr) (fun ct _ => 256 - (intOf ct).toNat)
  case atStart => exact ⟨0, by omega, rfl, hM, hR, hX, hb⟩
  case round =>
    clear hM hR hX hb
    obtain ⟨k, hk, rfl, hM, hR, hX, hb⟩ := hrel
    by_cases hlt : k < 256
    · have dk : (k : Int) < 256 := by omega
      have htw := HTW.out k
      generalize hold : 2 ^ k % m = x at *
      generalize hnew : 2 ^ (k + 1) % m = y at *
      have HN := Lib.hid hnew
      clear hold hnew
      go_wp2_with (first | refine wpList_load_has 34 _ rfl _ rfl rfl 34 _ hM _ Try.underlying34 rfl (info16 _) ?_ | refine wpList_load_has 34 _ rfl _ rfl rfl 34 _ hX _ Try.underlying34 rfl (info16 _) ?_)
      refine (htw _).mono ?_
      rintro e w2 ⟨rfl, hx⟩
      replace hM := hM.after hx
      replace hR := hR.after hx
      replace hX := hX.after hx
      replace hb := below_trans hb hx
      clear hx htw
      have hX2 := hX.setRow (d16 y)
      have hM2 := hM.farRow (k := g) (by omega) (d16 y)
      have hR2 := hR.farRow (k := g) (by omega) (d16 y)
      have hb2 := below_setRow hb (g := g) (by omega) (d16 y)
      go_wp2_with (refine wpList_store_row rfl 34 _ _ rfl g _ rfl rfl 34 _ hX (info16 _) (by simp only [d16_size]) (tab_oneCell _ _ fun _ => rfl) ?_)
      go_roundw
      case rel => exact ⟨k + 1, by omega, by go_num, hM2, hR2, by rw [HN.out]; exact hX2, hb2⟩
      case measure => simp [intOf]; omega
    · obtain rfl : k = 256 := by omega
      generalize hy : 2 ^ 256 % m = y at *
      have HY := Lib.hid hy
      clear hM hk hlt hy
      go_wp2_with (first | refine wpList_load_row rfl 34 _ rfl g rfl 34 _ _ _ hX Try.underlying34 rfl (info16 _) ?_ | refine wpList_store_row rfl 34 _ _ rfl (w.heap.size + 1) _ rfl rfl 34 _ hR (info16 _) (by simp only [d16_size]) (tab_oneCell _ _ fun _ => rfl) ?_)
      exact bodyPost_ret (v := .agg (d16 y)) (results_cell_row rfl _ _ (w.heap.size + 1) 34 _ _ _ rfl (hR.setRow _) Try.underlying34 rfl (info16 _)) rfl ⟨by rw [HY.out], below_setRow hb (by omega) _⟩

end Go.Proofs.Ytodialbopochdaa
