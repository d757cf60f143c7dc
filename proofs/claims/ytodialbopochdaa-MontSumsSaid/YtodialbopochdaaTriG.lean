/-
The reference of layer 3: half a number, and a number over 2^256, modulo m.
-/
import Derived.Test.YtodialbopochdaaTriF
namespace Go.Proofs.Ytodialbopochdaa
open Go.RowKit

/-- half of a, modulo m (odd) -/
def halfN (m a : Nat) : Nat := (a + a % 2 * m) / 2
def overN (m a : Nat) : Nat → Nat
  | 0 => a
  | k + 1 => halfN m (overN m a k)
theorem halfN_lt (m a : Nat) (h : a < m) : halfN m a < m := by
  unfold halfN
  rcases (show a % 2 = 0 ∨ a % 2 = 1 by omega) with e | e <;> rw [e] <;> omega
theorem overN_lt (m a : Nat) (h : a < m) : ∀ k, overN m a k < m
  | 0 => h
  | k + 1 => halfN_lt m _ (overN_lt m a h k)
theorem halfN_two (m a : Nat) (hm : m % 2 = 1) : (2 * halfN m a) % m = a % m := by
  have h : 2 * halfN m a = a + a % 2 * m := by
    unfold halfN
    rcases (show a % 2 = 0 ∨ a % 2 = 1 by omega) with e | e <;> rw [e] <;> omega
  rw [h, Nat.add_mul_mod_self_right]
theorem overN_pow (m a : Nat) (hm : m % 2 = 1) : ∀ k, (2 ^ k * overN m a k) % m = a % m
  | 0 => by simp [overN]
  | k + 1 => by
    show (2 ^ (k + 1) * halfN m (overN m a k)) % m = a % m
    rw [Nat.pow_succ, Nat.mul_assoc, Nat.mul_mod, halfN_two m _ hm, ← Nat.mul_mod, overN_pow m a hm k]
theorem hxd_mul (o m k : Nat) (ho : o ≤ 1) : ((o : Nat) : Int) * ((hxd m k : Nat) : Int) = ((hxd (o * m) k : Nat) : Int) := by
  rcases (show o = 0 ∨ o = 1 by omega) with e | e
  · subst e; simp [hxd, dg_zero]
  · subst e; simp
theorem hxd_half (t k : Nat) : ((hxd t k : Nat) : Int) / 2 + ((hxd t (k + 1) : Nat) : Int) % 2 * 32768 = ((hxd (t / 2) k : Nat) : Int) := by
  have h : hxd (t / 2) k = hxd t k / 2 + hxd t (k + 1) % 2 * 32768 := half_dg (H := 32768) (by decide) t k
  rw [h]
  simp [Int.natCast_ediv, Int.natCast_add, Int.natCast_mul, Int.natCast_emod]

attribute [local go_sem] zeroNum zero16 zero17
set_option maxRecDepth 100000 in
set_option maxHeartbeats 1000000 in
theorem half3_any (a m : Nat) (w : World) (ha : a < m) (hm : m < 65536 ^ 16) :
    Calls Try.prog 43 #[.agg (d16 a), .agg (d16 m)] w fun e w' => e = .returned (.agg (d16 (halfN m a))) ∧ Below w.heap.size w w' := by
  obtain ⟨o, ho⟩ : ∃ o, o = a % 2 := ⟨_, rfl⟩
  have ho1 : o ≤ 1 := by omega
  have hom : o * m ≤ 1 * m := Nat.mul_le_mul_right _ ho1
  have hT : halfN m a = (a + o * m) / 2 := by rw [ho]; rfl
  rw [hT]
  have hcar : car4 a (o * m) 16 = hxd (a + o * m) 16 := top_dig _ _ (by omega) (car_end (by omega) (by omega))
  have HC := Lib.hid hcar
  have hodd : ((hxd a 0 : Nat) : Int) % 2 = (o : Int) := by
    have : hxd a 0 % 2 = a % 2 := by unfold hxd dg; rw [Nat.pow_zero, Nat.div_one]; omega
    omega
  have hodd2 : ((hxd a 0 : Nat) : Int).tmod 2 = (o : Int) := by rw [Int.tmod_eq_emod_of_nonneg (by omega)]; exact hodd
  have hne : ¬ d17 0 = #[] := fun h => by have := congrArg Array.size h; simp [d17_size] at this
  have hne16 : ¬ d16 0 = #[] := d16_ne 0
  have hlT : (a + o * m) / 2 < 65536 ^ 16 := by omega
  have HLT := Lib.hid hlT
  have hml := fun k => hxd_mul o m k ho1
  have HML := Lib.hid hml
  clear hT hcar ha hm hom ho hlT hml
  have h0 : Has ((((w.alloc (.cells (d16 a) 34)).alloc (.cells (d16 m) 34)).alloc (.cells (d16 0) 34)).alloc (.cells (d17 0) 57)) w.heap.size 34 (d16 a) := (((Has.new w _ _).alloc _).alloc _).alloc _
  have c00 := d16_at h0 0 (by decide)
  have l00 : ((hxd a 0 : Nat) : Int) < 65536 := by have := hxd_lt a 0; omega
  go_enter Try.func43, Try.ntmps43
  go_wp2_with fail
  clear hodd hodd2 c00 l00 h0
  go_loopw [6, 8, 9] (fun cc ct _ wr => ∃ k : Nat, k ≤ 16 ∧ ct = .int .i64 k ∧ cc = .int .u64 ((car4 a (o * m) k : Nat) : Int) ∧ Has wr w.heap.size 34 (d16 a) ∧ Has wr (w.heap.size + 1) 34 (d16 m) ∧
      Has wr (w.heap.size + 1 + 1) 34 (d16 0) ∧ Has wr (w.heap.size + 1 + 1 + 1) 57 (d17 ((a + o * m) % 65536 ^ k)) ∧ Below w.heap.size w wr) (fun _ ct _ _ => 16 - (intOf ct).toNat)
  case atStart =>
    exact ⟨0, by omega, rfl, by rw [car4, car_zero]; rfl, (((Has.new w _ _).alloc _).alloc _).alloc _, ((Has.new' (by simp)).alloc _).alloc _, (Has.new' (by simp)).alloc _, by rw [Nat.pow_zero, Nat.mod_one]; exact Has.new' (by simp),
      ((((Below.refl _ _).alloc (Nat.le_refl _) _).alloc (by simp) _).alloc (by simp <;> omega) _).alloc (by simp <;> omega) _⟩
  case round =>
    obtain ⟨k, hk, rfl, rfl, hA, hM, hR, hT, hb⟩ := hrel
    by_cases hlt : k < 16
    · have c0 := d16_at hA k hlt
      have c1 := d16_at hM k hlt
      have dk : (k : Int) < 16 := by omega
      have l0 : ((hxd a k : Nat) : Int) < 65536 := by have := hxd_lt a k; omega
      have l1 : ((hxd (o * m) k : Nat) : Int) < 65536 := by have := hxd_lt (o * m) k; omega
      have l2 : ((car4 a (o * m) k : Nat) : Int) ≤ 1 := by have := car4_le a (o * m) k; omega
      have e0 := HML.out k
      have e1 := sum3_lo a (o * m) k
      have e2 := sum3_hi a (o * m) k
      generalize o * m = om at *
      go_wp2_with fail
      go_quiet (fail)
      replace hA := hA.drewN nq
      replace hM := hM.drewN nq
      replace hR := hR.drewN nq
      replace hT := hT.drewN nq
      replace hb := below_drewN hb nq
      clear c0 c1
      generalize hq : Go.World.drewN _ nq = wr at *
      clear hq
      have c3 := hT.cellTab k (by omega)
      have f3 := hT.free k
      go_wp2_with fail
      go_roundw
      case rel => exact ⟨k + 1, by omega, by go_num, by rw [← e2], hA.far (by simp <;> omega) _, hM.far (by simp <;> omega) _, hR.far (by simp <;> omega) _, by rw [← d17_set (by omega), ← e1]; exact hT.set k _, hb.setCell (by simp <;> omega) _⟩
      case measure => simp [intOf]; omega
    · have ek : k = 16 := by omega
      have dk : ¬ (k : Int) < 16 := by omega
      rw [ek] at hT
      have hcc : car4 a (o * m) k = hxd (a + o * m) 16 := by rw [ek]; exact HC.out
      have hcl : car4 a (o * m) k ≤ 1 := car4_le _ _ _
      generalize car4 a (o * m) k = cc at *
      generalize hTT : a + o * m = T at *
      have cT := hT.cellTab 16 (by decide)
      have fT := hT.free 16
      have hT2 : Has (wr.setCell ⟨w.heap.size + 1 + 1 + 1, 16, none⟩ (.int .u64 (cc : Int))) (w.heap.size + 1 + 1 + 1) 57 (d17 T) := by
        have h := hT.set 16 (.int .u64 (cc : Int))
        rw [hcc, d17_set (by decide), d17_end] at h
        rw [hcc]
        exact h
      have HTT := Lib.hid hTT
      have hR2 := hR.far (a := ⟨w.heap.size + 1 + 1 + 1, 16, none⟩) (by simp <;> omega) (.int .u64 (cc : Int))
      have hb2 : Below w.heap.size w (wr.setCell ⟨w.heap.size + 1 + 1 + 1, 16, none⟩ (.int .u64 (cc : Int))) := hb.setCell (by simp <;> omega) _
      clear ek hA hM hk hlt hcc hTT
      go_wp2_with fail
      have lT0 := hT.lt
      have lR0 := hR.lt
      clear cT fT hT hR hb
      have hsz : (wr.setCell ⟨w.heap.size + 1 + 1 + 1, 16, none⟩ (.int .u64 (cc : Int))).heap.size = wr.heap.size := by simp
      generalize wr.setCell ⟨w.heap.size + 1 + 1 + 1, 16, none⟩ (.int .u64 (cc : Int)) = W at *
      have hX : Has (W.alloc (.cells (d16 0) 34)) wr.heap.size 34 (d16 0) := by rw [← hsz]; exact Has.new W _ _
      have hszw := hb2.size
      have lT := hT2.lt
      have lR := hR2.lt
      replace hT2 := hT2.alloc (.cells (d16 0) 34)
      replace hR2 := hR2.alloc (.cells (d16 0) 34)
      replace hb2 := hb2.alloc hszw (.cells (d16 0) 34)
      generalize W.alloc (.cells (d16 0) 34) = W' at *
      clear hsz
      generalize wr.heap.size = g at *
      go_loopw [11] (fun ct wr => ∃ k : Nat, k ≤ 16 ∧ ct = .int .i64 k ∧ Has wr (w.heap.size + 1 + 1) 34 (d16 0) ∧ Has wr (w.heap.size + 1 + 1 + 1) 57 (d17 T) ∧
          Has wr g 34 (d16 (T / 2 % 65536 ^ k)) ∧ Below w.heap.size w wr) (fun ct _ => 16 - (intOf ct).toNat)
      case atStart => exact ⟨0, by omega, rfl, hR2, hT2, by rw [Nat.pow_zero, Nat.mod_one]; exact hX, hb2⟩
      case round =>
        clear hR2 hT2 hX hb2
        obtain ⟨k, hk, rfl, hR, hT, hX, hb⟩ := hrel
        by_cases hlt : k < 16
        · have c0 := d17_at hT k (by omega)
          have c1 := d17_at hT (k + 1) (by omega)
          have c2 := hX.cellTab k hlt
          have f2 := hX.free k
          have dk : (k : Int) < 16 := by omega
          have s3 : (k : Int) + 1 < 17 := by omega
          have s4 : ((k : Int) + 1).toNat = k + 1 := by omega
          have l0 : ((hxd T k : Nat) : Int) < 65536 := by have := hxd_lt T k; omega
          have l1 : ((hxd T (k + 1) : Nat) : Int) < 65536 := by have := hxd_lt T (k + 1); omega
          have e1 := hxd_half T k
          go_wp2_with fail
          go_region
          all_goals
            go_wp2_with fail
            go_roundw
          all_goals first
            | (refine ⟨k + 1, by omega, by go_num, hR.drew.far (by simp <;> omega) _, hT.drew.far (by simp <;> omega) _, ?_, (below_drewN hb 1).setCell (by simp <;> omega) _⟩
               rw [← d16_set hlt, ← e1]
               exact hX.drew.set k _)
            | (simp [intOf]; omega)
        · have ek : k = 16 := by omega
          have dk : ¬ (k : Int) < 16 := by omega
          have hX' : Has wr g 34 (d16 (T / 2)) := by rw [ek, d16_end] at hX; exact hX
          clear ek hX hT hk hlt
          go_wp2_with (first | refine wpList_load_row rfl 34 _ rfl g rfl 34 _ _ _ hX' Try.underlying34 rfl (info16 _) ?_ | refine wpList_store_row rfl 34 _ _ rfl (w.heap.size + 1 + 1) _ rfl rfl 34 _ hR (info16 _) (by simp only [d16_size]) (tab_oneCell _ _ fun _ => rfl) ?_)
          exact bodyPost_ret (v := .agg (d16 (T / 2))) (results_cell_row rfl _ _ (w.heap.size + 1 + 1) 34 _ _ _ rfl (hR.setRow _) Try.underlying34 rfl (info16 _)) rfl ⟨by rw [HTT.out], below_setRow hb (by omega) _⟩

set_option maxRecDepth 100000 in
set_option maxHeartbeats 1000000 in
theorem over3_any (a m : Nat) (w : World) (ha : a < m) (hm : m < 65536 ^ 16) :
    Calls Try.prog 27 #[.agg (d16 a), .agg (d16 m)] w fun e w' => e = .returned (.agg (d16 (overN m a 256))) ∧ Below w.heap.size w w' := by
  have hh := fun k W => half3_any (overN m a k) m W (overN_lt m a ha k) hm
  have HH := Lib.hid hh
  clear hh ha hm
  go_enter Try.func27, Try.ntmps27
  go_wp2_with fail
  go_loopw [5] (fun ct wr => ∃ k : Nat, k ≤ 256 ∧ ct = .int .i64 k ∧ Has wr w.heap.size 34 (d16 (overN m a k)) ∧ Has wr (w.heap.size + 1) 34 (d16 m) ∧
      Has wr (w.heap.size + 1 + 1) 34 (d16 0) ∧ Below w.heap.size w wr) (fun ct _ => 256 - (intOf ct).toNat)
  case atStart => exact ⟨0, by omega, rfl, ((Has.new w _ _).alloc _).alloc _, (Has.new' (by simp)).alloc _, Has.new' (by simp), (((Below.refl _ _).alloc (Nat.le_refl _) _).alloc (by simp) _).alloc (by simp <;> omega) _⟩
  case round =>
    obtain ⟨k, hk, rfl, hA, hM, hR, hb⟩ := hrel
    by_cases hlt : k < 256
    · have dk : (k : Int) < 256 := by omega
      have hh := HH.out k
      have hnew : halfN m (overN m a k) = overN m a (k + 1) := rfl
      rw [hnew] at hh
      generalize overN m a k = x at *
      generalize hY : overN m a (k + 1) = y at *
      have HY := Lib.hid hY
      clear hnew hY
      go_wp2_with (first | refine wpList_load_has 34 _ rfl _ rfl rfl 34 _ hA _ Try.underlying34 rfl (info16 _) ?_ | refine wpList_load_has 34 _ rfl _ rfl rfl 34 _ hM _ Try.underlying34 rfl (info16 _) ?_)
      refine (hh _).mono ?_
      rintro e w2 ⟨rfl, hx⟩
      replace hA := hA.after hx
      replace hM := hM.after hx
      replace hR := hR.after hx
      replace hb := below_trans hb hx
      clear hx hh
      have hA2 := hA.setRow (d16 y)
      have hM2 := hM.farRow (k := w.heap.size) (by omega) (d16 y)
      have hR2 := hR.farRow (k := w.heap.size) (by omega) (d16 y)
      have hb2 := below_setRow hb (g := w.heap.size) (by omega) (d16 y)
      go_wp2_with (refine wpList_store_row rfl 34 _ _ rfl w.heap.size _ rfl rfl 34 _ hA (info16 _) (by simp only [d16_size]) (tab_oneCell _ _ fun _ => rfl) ?_)
      go_roundw
      case rel => exact ⟨k + 1, by omega, by go_num, by rw [HY.out]; exact hA2, hM2, hR2, hb2⟩
      case measure => simp [intOf]; omega
    · have ek : k = 256 := by omega
      have dk : ¬ (k : Int) < 256 := by omega
      rw [ek] at hA
      clear ek hM hk hlt
      generalize hy : overN m a 256 = y at *
      have HY := Lib.hid hy
      clear hy
      go_wp2_with (first | refine wpList_load_row rfl 34 _ rfl w.heap.size rfl 34 _ _ _ hA Try.underlying34 rfl (info16 _) ?_ | refine wpList_store_row rfl 34 _ _ rfl (w.heap.size + 1 + 1) _ rfl rfl 34 _ hR (info16 _) (by simp only [d16_size]) (tab_oneCell _ _ fun _ => rfl) ?_)
      exact bodyPost_ret (v := .agg (d16 y)) (results_cell_row rfl _ _ (w.heap.size + 1 + 1) 34 _ _ _ rfl (hR.setRow _) Try.underlying34 rfl (info16 _)) rfl ⟨by rw [HY.out], below_setRow hb (by omega) _⟩
end Go.Proofs.Ytodialbopochdaa
