/-
The reference of layer 3: products modulo m.
-/
import Derived.Test.YtodialbopochdaaTriE
namespace Go.Proofs.Ytodialbopochdaa
open Go.RowKit

def d33 (x : Nat) : Array Value := tab 33 (dgs .u64 65536 x)
theorem d33_size (x : Nat) : (d33 x).size = 33 := tab_size _ _
theorem d33_at {w : World} {g x : Nat} {t : TypeId} (h : Has w g t (d33 x)) (j : Nat) (hj : j < 33) : w.cell? ⟨g, j, none⟩ = some (.int .u64 ((hxd x j : Nat) : Int)) := h.cellTab j hj
theorem info33 : (Try.prog.info? 61).map (fun i => (i.zero, i.size)) = some (some (.agg (d33 0)), 33) := by kernel_rfl
theorem zero33 (w : World) : (zeroValue 61).run Try.prog w = .ok (.agg (d33 0)) w := (zero_of_info info33).1 w
theorem d33_setDig {V j d : Nat} (hd : d < 65536) : (d33 V).setIfInBounds j (.int .u64 (d : Int)) = d33 (setDig 65536 V j d) := dgs_setDig (by decide) hd
theorem addr33 (g j : Nat) (hj : j < 33) (w : World) : (Instr.indexAt 61 (.pointer (some ⟨g, 0, none⟩)) (.int .i64 (j : Int))).run Try.prog w = .ok (.pointer (some ⟨g, j, none⟩)) w := by
  have h1 : (j : Int) < 33 := by omega
  go_simp

/-- a digit of a times a digit of b -/
def prd (a b i k : Nat) : Nat := hxd a i * hxd b k
theorem prd_le (a b i k : Nat) : prd a b i k ≤ 4294836225 := Nat.mul_le_mul (Nat.le_of_lt_succ (hxd_lt a i)) (Nat.le_of_lt_succ (hxd_lt b k))
theorem prd_walk (a b i k : Nat) : ((hxd a i : Nat) : Int) * ((hxd b k : Nat) : Int) = ((prd a b i k : Nat) : Int) := by simp [prd]
/-- the inner loop's state: V's digits and the carry c, after k digits of row i -/
def rowIs (a b i k V c : Nat) : Prop := c < 65536 ∧ V < 65536 ^ (i + 16) ∧ V + c * 65536 ^ (i + k) = (a % 65536 ^ i) * b + hxd a i * (b % 65536 ^ k) * 65536 ^ i
theorem row_start (a b i : Nat) (hb : b < 65536 ^ 16) : rowIs a b i 0 ((a % 65536 ^ i) * b) 0 := by
  refine ⟨by decide, ?_, by simp [Nat.mod_one]⟩
  have hp : 0 < 65536 ^ i := Nat.pow_pos (by decide)
  have h := Nat.mod_lt a hp
  rw [Nat.pow_add]
  rcases Nat.eq_zero_or_pos b with h0 | h0
  · subst h0; rw [Nat.mul_zero]; exact Nat.mul_pos hp (Nat.pow_pos (by decide))
  · exact Nat.lt_of_lt_of_le (Nat.mul_lt_mul_of_pos_right h h0) (Nat.mul_le_mul_left _ (Nat.le_of_lt hb))
theorem row_step (a b i k V c : Nat) (hk : k < 16) (h : rowIs a b i k V c) :
    rowIs a b i (k + 1) (setDig 65536 V (i + k) ((c + (hxd V (i + k) + prd a b i k)) % 65536)) ((c + (hxd V (i + k) + prd a b i k)) / 65536) := by
  obtain ⟨h1, h2, h3⟩ := h
  have hp := prd_le a b i k
  have hv := hxd_lt V (i + k)
  refine ⟨by omega, setDig_lt (by decide) h2 (by omega) (Nat.mod_lt _ (by decide)), ?_⟩
  have hs := setDig_eq (B := 65536) (by decide) V (i + k) ((c + (hxd V (i + k) + prd a b i k)) % 65536)
  have hdm := Nat.mod_add_div (c + (hxd V (i + k) + prd a b i k)) 65536
  have e1 : 65536 ^ (i + (k + 1)) = 65536 * 65536 ^ (i + k) := by rw [← Nat.add_assoc, Nat.pow_succ, Nat.mul_comm]
  have e2 : b % 65536 ^ (k + 1) = b % 65536 ^ k + 65536 ^ k * hxd b k := mod_step 65536 b k
  have e3 : hxd a i * (65536 ^ k * hxd b k) * 65536 ^ i = prd a b i k * 65536 ^ (i + k) := by
    unfold prd
    rw [Nat.pow_add, Nat.mul_comm (65536 ^ k) (hxd b k), ← Nat.mul_assoc, Nat.mul_assoc (hxd a i * hxd b k), Nat.mul_comm (65536 ^ k)]
  rw [e1, e2, Nat.mul_add, Nat.add_mul, e3]
  obtain ⟨X, hX⟩ : ∃ X, X = c + (hxd V (i + k) + prd a b i k) := ⟨_, rfl⟩
  rw [← hX] at hs hdm ⊢
  have e4 : X / 65536 * (65536 * 65536 ^ (i + k)) = 65536 * (X / 65536) * 65536 ^ (i + k) := by rw [← Nat.mul_assoc, Nat.mul_comm (X / 65536)]
  rw [e4]
  have e5 : X % 65536 * 65536 ^ (i + k) + 65536 * (X / 65536) * 65536 ^ (i + k) = c * 65536 ^ (i + k) + hxd V (i + k) * 65536 ^ (i + k) + prd a b i k * 65536 ^ (i + k) := by
    rw [← Nat.add_mul, hdm, hX, Nat.add_mul, Nat.add_mul, Nat.add_assoc]
  have e6 : dg 65536 V (i + k) = hxd V (i + k) := rfl
  rw [e6] at hs
  omega
theorem row_end (a b i V c : Nat) (hb : b < 65536 ^ 16) (h : rowIs a b i 16 V c) : setDig 65536 V (i + 16) c = (a % 65536 ^ (i + 1)) * b := by
  obtain ⟨h1, h2, h3⟩ := h
  have hs := setDig_eq (B := 65536) (by decide) V (i + 16) c
  have hz : dg 65536 V (i + 16) = 0 := dg_top (by decide) h2 (Nat.le_refl _)
  rw [hz, Nat.zero_mul, Nat.add_zero, h3, Nat.mod_eq_of_lt hb] at hs
  have e2 : a % 65536 ^ (i + 1) = a % 65536 ^ i + 65536 ^ i * hxd a i := mod_step 65536 a i
  rw [hs, e2, Nat.add_mul, Nat.mul_comm (65536 ^ i), Nat.mul_assoc (hxd a i) (65536 ^ i), Nat.mul_comm (65536 ^ i) b, Nat.mul_assoc]

attribute [local go_sem] zeroNum zero16 zero17 zero33
set_option maxRecDepth 100000 in
set_option maxHeartbeats 2000000 in
theorem mul3_any (a b m : Nat) (w : World) (ha : a < 65536 ^ 16) (hb16 : b < 65536 ^ 16) (hm0 : 0 < m) (hm : m < 65536 ^ 16) :
    Calls Try.prog 20 #[.agg (d16 a), .agg (d16 b), .agg (d16 m)] w fun e w' => e = .returned (.agg (d16 (a * b % m))) ∧ Below w.heap.size w w' := by
  have htw := fun k W => twice_any (a * b / 2 ^ (k + 1) % m) m (bitA (a * b) k) W (Nat.mod_lt _ hm0) hm (bitA_le _ k)
  have HTW := Lib.hid htw
  have hst : a * b / 2 ^ 512 % m = 0 := by
    have h1 : (65536 : Nat) ^ 16 * 65536 ^ 16 = 2 ^ 512 := by decide +kernel
    have h2 : a * b < 2 ^ 512 := by
      rw [← h1]
      rcases Nat.eq_zero_or_pos b with h0 | h0
      · subst h0; rw [Nat.mul_zero]; exact Nat.mul_pos (Nat.pow_pos (by decide)) (Nat.pow_pos (by decide))
      · exact Nat.lt_of_lt_of_le (Nat.mul_lt_mul_of_pos_right ha h0) (Nat.mul_le_mul_left _ (Nat.le_of_lt hb16))
    rw [Nat.div_eq_of_lt h2, Nat.zero_mod]
  have HST := Lib.hid hst
  have hpe : (a % 65536 ^ 16) * b = a * b := by rw [Nat.mod_eq_of_lt ha]
  have HPE := Lib.hid hpe
  have HB16 := Lib.hid hb16
  have hne : ¬ d33 0 = #[] := fun h => by have := congrArg Array.size h; simp [d33_size] at this
  have hne16 : ¬ d16 0 = #[] := d16_ne 0
  clear htw hst hpe ha hb16 hm0 hm
  go_enter Try.func20, Try.ntmps20
  go_wp2_with fail
  go_loopw [8, 9, 10] (fun ct _ _ wr => ∃ i : Nat, i ≤ 16 ∧ ct = .int .i64 i ∧ Has wr w.heap.size 34 (d16 a) ∧ Has wr (w.heap.size + 1) 34 (d16 b) ∧ Has wr (w.heap.size + 1 + 1) 34 (d16 m) ∧
      Has wr (w.heap.size + 1 + 1 + 1) 34 (d16 0) ∧ Has wr (w.heap.size + 1 + 1 + 1 + 1) 61 (d33 ((a % 65536 ^ i) * b)) ∧ Below w.heap.size w wr) (fun ct _ _ _ => 16 - (intOf ct).toNat)
  case atStart =>
    exact ⟨0, by omega, rfl, ((((Has.new w _ _).alloc _).alloc _).alloc _).alloc _, (((Has.new' (by simp)).alloc _).alloc _).alloc _, ((Has.new' (by simp)).alloc _).alloc _, (Has.new' (by simp)).alloc _, by rw [Nat.pow_zero, Nat.mod_one, Nat.zero_mul]; exact Has.new' (by simp),
      (((((Below.refl _ _).alloc (Nat.le_refl _) _).alloc (by simp) _).alloc (by simp <;> omega) _).alloc (by simp <;> omega) _).alloc (by simp <;> omega) _⟩
  case round =>
    obtain ⟨i, hi, rfl, hA, hB, hM, hR, hT, hb⟩ := hrel
    by_cases hlt : i < 16
    · have di : (i : Int) < 16 := by omega
      have hrow := row_start a b i HB16.out
      obtain ⟨V0, hV0⟩ : ∃ V0, V0 = (a % 65536 ^ i) * b := ⟨_, rfl⟩
      rw [← hV0] at hT hrow
      have HROW := Lib.hid hrow
      clear hrow hV0
      go_wp2_with fail
      go_loopw [9, 10] (fun cc ck wr => ∃ k V c : Nat, k ≤ 16 ∧ ck = .int .i64 k ∧ cc = .int .u64 (c : Int) ∧ Hid (rowIs a b i k V c) ∧ Has wr w.heap.size 34 (d16 a) ∧ Has wr (w.heap.size + 1) 34 (d16 b) ∧ Has wr (w.heap.size + 1 + 1) 34 (d16 m) ∧
          Has wr (w.heap.size + 1 + 1 + 1) 34 (d16 0) ∧ Has wr (w.heap.size + 1 + 1 + 1 + 1) 61 (d33 V) ∧ Below w.heap.size w wr) (fun _ ck _ => 16 - (intOf ck).toNat)
      case atStart => exact ⟨0, V0, 0, by omega, rfl, rfl, HROW, hA, hB, hM, hR, hT, hb⟩
      case round =>
        clear hA hB hM hR hT hb HROW
        obtain ⟨k, V, c, hk, rfl, rfl, HROW, hA, hB, hM, hR, hT, hb⟩ := hrel
        by_cases hltk : k < 16
        · have dk : (k : Int) < 16 := by omega
          have c1 := d33_at hT (i + k) (by omega)
          have c2 := d16_at hA i hlt
          have c3 := d16_at hB k hltk
          have s1 : IntKind.i64.wrap ((i : Int) + (k : Int)) = (i : Int) + (k : Int) := IntWalk.i64_in _ (by omega)
          have s2 : 0 ≤ (i : Int) + (k : Int) := by omega
          have s3 : (i : Int) + (k : Int) < 33 := by omega
          have s4 : ((i : Int) + (k : Int)).toNat = i + k := by omega
          have hp := prd_walk a b i k
          have lp : ((prd a b i k : Nat) : Int) ≤ 4294836225 := by have := prd_le a b i k; omega
          have lc : (c : Int) < 65536 := by have := HROW.out.1; omega
          have lv : ((hxd V (i + k) : Nat) : Int) < 65536 := by have := hxd_lt V (i + k); omega
          have HROW2 := Lib.hid (row_step a b i k V c hltk HROW.out)
          clear HROW
          go_wp2_with fail
          go_quiet (fail)
          replace hA := hA.drewN nq
          replace hB := hB.drewN nq
          replace hM := hM.drewN nq
          replace hR := hR.drewN nq
          replace hT := hT.drewN nq
          replace hb := below_drewN hb nq
          clear c1 c2 c3
          generalize hq : Go.World.drewN _ nq = wr at *
          clear hq
          have c1 := d33_at hT (i + k) (by omega)
          have f1 := hT.free (i + k)
          go_wp2_with fail
          go_roundw
          case rel =>
            refine ⟨k + 1, _, _, by omega, by go_num, ?_, HROW2, hA.far (by simp <;> omega) _, hB.far (by simp <;> omega) _, hM.far (by simp <;> omega) _, hR.far (by simp <;> omega) _, ?_, hb.setCell (by simp <;> omega) _⟩
            · simp [Int.natCast_ediv, Int.natCast_add]
            · rw [← d33_setDig (Nat.mod_lt _ (by decide))]
              have h := hT.set (i + k) (.int .u64 (((c + (hxd V (i + k) + prd a b i k)) % 65536 : Nat) : Int))
              have e : ((((c + (hxd V (i + k) + prd a b i k)) % 65536 : Nat) : Int)) = ((c : Int) + (((hxd V (i + k) : Nat) : Int) + ((prd a b i k : Nat) : Int))) % 65536 := by simp [Int.natCast_emod, Int.natCast_add]
              rw [e] at h ⊢
              exact h
          case measure => simp [intOf]; omega
        · obtain rfl : k = 16 := by omega
          have hend := row_end a b i V c HB16.out HROW.out
          have HEND := Lib.hid hend
          have c1 := d33_at hT (i + 16) (by omega)
          have f1 := hT.free (i + 16)
          have hc := HROW.out.1
          clear hend HROW hk hltk
          have s1 : IntKind.i64.wrap ((i : Int) + 16) = (i : Int) + 16 := IntWalk.i64_in _ (by omega)
          have s3 : (i : Int) + 16 < 33 := by omega
          go_wp2_with fail
          go_roundw
          case rel =>
            refine ⟨i + 1, by omega, by go_num, hA.far (by simp <;> omega) _, hB.far (by simp <;> omega) _, hM.far (by simp <;> omega) _, hR.far (by simp <;> omega) _, ?_, hb.setCell (by simp <;> omega) _⟩
            rw [← HEND.out, ← d33_setDig hc]
            exact hT.set (i + 16) _
          case measure => simp [intOf]; omega
    · have ei : i = 16 := by omega
      have di : ¬ (i : Int) < 16 := by omega
      rw [ei, HPE.out] at hT
      clear ei hA hB hi hlt
      go_wp2_with fail
      have hX : Has (wr.alloc (.cells (d16 0) 34)) wr.heap.size 34 (d16 0) := Has.new wr _ _
      have hszw := hb.size
      have lT := hT.lt
      have lM := hM.lt
      have lR := hR.lt
      replace hT := hT.alloc (.cells (d16 0) 34)
      replace hM := hM.alloc (.cells (d16 0) 34)
      replace hR := hR.alloc (.cells (d16 0) 34)
      replace hb := hb.alloc hszw (.cells (d16 0) 34)
      generalize wr.alloc (.cells (d16 0) 34) = W at *
      generalize wr.heap.size = g at *
      generalize hPP : a * b = p at *
      have HPP := Lib.hid hPP
      clear hPP
      go_loopw [12] (fun ct wr => ∃ k : Nat, k ≤ 512 ∧ ct = .int .i64 ((k : Int) - 1) ∧ Has wr (w.heap.size + 1 + 1) 34 (d16 m) ∧ Has wr (w.heap.size + 1 + 1 + 1) 34 (d16 0) ∧ Has wr (w.heap.size + 1 + 1 + 1 + 1) 61 (d33 p) ∧
          Has wr g 34 (d16 (p / 2 ^ k % m)) ∧ Below w.heap.size w wr) (fun ct _ => (intOf ct + 1).toNat)
      case atStart => exact ⟨512, by omega, rfl, hM, hR, hT, by rw [HST.out]; exact hX, hb⟩
      case round =>
        clear hM hR hT hX hb
        obtain ⟨k, hk, rfl, hM, hR, hT, hX, hb⟩ := hrel
        by_cases hlt : 0 < k
        · obtain ⟨k, rfl⟩ : ∃ j, k = j + 1 := ⟨k - 1, by omega⟩
          have ek : ((k + 1 : Nat) : Int) - 1 = (k : Int) := by omega
          rw [ek]
          clear ek
          have htw := HTW.out k
          have hval : (2 * (p / 2 ^ (k + 1) % m) + bitA p k) % m = p / 2 ^ k % m := twice_step p m k
          rw [hval] at htw
          clear hval
          generalize hold : p / 2 ^ (k + 1) % m = x at *
          generalize hnew : p / 2 ^ k % m = y at *
          have HN := Lib.hid hnew
          clear hold hnew
          go_wp2_with fail
          refine region_quiet_tail (Below wr.heap.size wr) 11 (by kernel_rfl) (by kernel_rfl) (below_drewN (Below.refl _ _) 1) ?_
          simp only [List.take_succ_cons, List.take_zero, List.drop_succ_cons, List.drop_zero]
          refine wpQ_has 34 _ rfl _ rfl rfl 34 _ (fun w' hC => hX.after hC) _ Try.underlying34 rfl (info16 _) ?_
          simp only [Act.put, List.setIfInBounds_toArray, List.set_cons_zero, List.set_cons_succ]
          refine wpQ_has 34 _ rfl _ rfl rfl 34 _ (fun w' hC => hM.after hC) _ Try.underlying34 rfl (info16 _) ?_
          simp only [Act.put, List.setIfInBounds_toArray, List.set_cons_zero, List.set_cons_succ]
          refine wpQ_move _ rfl rfl (.int .i64 (k : Int)) rfl ?_
          simp only [Act.put, List.setIfInBounds_toArray, List.set_cons_zero, List.set_cons_succ]
          refine wpQ_bin _ _ _ _ _ rfl rfl (.int .i64 (k : Int)) (.int .i64 16) rfl rfl (.int .i64 ((k / 16 : Nat) : Int)) (fun w' _ => quo16 _ _ k (by omega) w') ?_
          simp only [Act.put, List.setIfInBounds_toArray, List.set_cons_zero, List.set_cons_succ]
          refine wpQ_indexAddr _ _ _ rfl rfl (.pointer (some ⟨w.heap.size + 1 + 1 + 1 + 1, 0, none⟩)) (.int .i64 ((k / 16 : Nat) : Int)) rfl rfl (.pointer (some ⟨w.heap.size + 1 + 1 + 1 + 1, k / 16, none⟩)) (fun w' _ => addr33 _ _ (by omega) w') ?_
          simp only [Act.put, List.setIfInBounds_toArray, List.set_cons_zero, List.set_cons_succ]
          refine wpQ_load _ _ rfl rfl (.pointer (some ⟨w.heap.size + 1 + 1 + 1 + 1, k / 16, none⟩)) rfl (.int .u64 ((hxd p (k / 16) : Nat) : Int)) (fun w' hC => cell_u64 _ _ _ w' (d33_at (hT.after hC) (k / 16) (by omega))) ?_
          simp only [Act.put, List.setIfInBounds_toArray, List.set_cons_zero, List.set_cons_succ]
          refine wpQ_move _ rfl rfl (.int .i64 (k : Int)) rfl ?_
          simp only [Act.put, List.setIfInBounds_toArray, List.set_cons_zero, List.set_cons_succ]
          refine wpQ_bin _ _ _ _ _ rfl rfl (.int .i64 (k : Int)) (.int .i64 16) rfl rfl (.int .i64 ((k % 16 : Nat) : Int)) (fun w' _ => rem16 _ _ k (by omega) w') ?_
          simp only [Act.put, List.setIfInBounds_toArray, List.set_cons_zero, List.set_cons_succ]
          refine wpQ_bin _ _ _ _ _ rfl rfl (.int .u64 ((hxd p (k / 16) : Nat) : Int)) (.int .i64 ((k % 16 : Nat) : Int)) rfl rfl (.int .u64 (((hxd p (k / 16) : Nat) : Int) / 2 ^ (k % 16))) (fun w' _ => shr64 _ _ _ _ (hxd_lt _ _) (by omega) w') ?_
          simp only [Act.put, List.setIfInBounds_toArray, List.set_cons_zero, List.set_cons_succ]
          refine wpQ_bin _ _ _ _ _ rfl rfl (.int .u64 (((hxd p (k / 16) : Nat) : Int) / 2 ^ (k % 16))) (.int .u64 2) rfl rfl (.int .u64 ((bitA p k : Nat) : Int)) (fun w' _ => rem2 _ _ _ _ (Int.ediv_nonneg (by omega) (Int.le_of_lt (Int.pow_pos (by decide)))) (bit_hex p k) w') ?_
          simp only [Act.put, List.setIfInBounds_toArray, List.set_cons_zero, List.set_cons_succ]
          refine wpQ_fn 38 _ _ rfl rfl #[.agg (d16 x), .agg (d16 m), .int .u64 ((bitA p k : Nat) : Int)] rfl (fun _ => by go_simp) (.agg (d16 y)) (fun w' hC => (htw w').mono fun e w'' ⟨he, hb⟩ => ⟨he, below_class hC hb⟩) ?_
          simp only [Act.put, List.setIfInBounds_toArray, List.set_cons_zero, List.set_cons_succ]
          refine wpQuiet_nil ?_
          intro w2 hC
          replace hM := hM.after hC
          replace hR := hR.after hC
          replace hT := hT.after hC
          replace hX := hX.after hC
          replace hb := below_trans hb hC
          clear hC htw
          have hX2 := hX.setRow (d16 y)
          have hM2 := hM.farRow (k := g) (by omega) (d16 y)
          have hR2 := hR.farRow (k := g) (by omega) (d16 y)
          have hT2 := hT.farRow (k := g) (by omega) (d16 y)
          have hb2 := below_setRow hb (g := g) (by omega) (d16 y)
          go_wp2_with (refine wpList_store_row rfl 34 _ _ rfl g _ rfl rfl 34 _ hX (info16 _) (by simp only [d16_size]) (tab_oneCell _ _ fun _ => rfl) ?_)
          go_roundw
          case rel => exact ⟨k, by omega, by go_num, hM2, hR2, hT2, by rw [HN.out]; exact hX2, hb2⟩
          case measure => simp [intOf] <;> omega
        · obtain rfl : k = 0 := by omega
          have hX' : Has wr g 34 (d16 (p % m)) := by rw [Nat.pow_zero, Nat.div_one] at hX; exact hX
          clear hX hM hT hk hlt
          go_wp2_with (first | refine wpList_load_row rfl 34 _ rfl g rfl 34 _ _ _ hX' Try.underlying34 rfl (info16 _) ?_ | refine wpList_store_row rfl 34 _ _ rfl (w.heap.size + 1 + 1 + 1) _ rfl rfl 34 _ hR (info16 _) (by simp only [d16_size]) (tab_oneCell _ _ fun _ => rfl) ?_)
          exact bodyPost_ret (v := .agg (d16 (p % m))) (results_cell_row rfl _ _ (w.heap.size + 1 + 1 + 1) 34 _ _ _ rfl (hR.setRow _) Try.underlying34 rfl (info16 _)) rfl ⟨by rw [HPP.out], below_setRow hb (by omega) _⟩
end Go.Proofs.Ytodialbopochdaa
