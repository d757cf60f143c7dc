/-
Package mont: powers, and the calls that are made of products.
-/
import Derived.Test.YtodialbopochdaaModE
namespace Go.Proofs.Ytodialbopochdaa
open Go.RowKit

theorem md1 : (nums 0).setIfInBounds 0 (Value.int IntKind.u32 1) = nums 1 := by kernel_rfl
theorem md2 : (nums 0).setIfInBounds 0 (Value.int IntKind.u32 2) = nums 2 := by kernel_rfl
theorem IsMod.lt {w : World} {g m : Nat} (h : IsMod w g m) : g < w.heap.size := by
  obtain ⟨_, _, _, _, _, _, h⟩ := h
  exact Has.lt h
theorem IsMod.farRow {w : World} {g m : Nat} (h : IsMod w g m) {k : Nat} (hk : g ≠ k) (cs : Array Value) : IsMod (w.setRow k cs) g m := by
  obtain ⟨ni, h1, h2, h3, h4, h5, h6⟩ := h
  exact ⟨ni, h1, h2, h3, h4, h5, h6.farRow hk cs⟩
theorem IsMod.facts {w : World} {g m : Nat} (h : IsMod w g m) : m < big ∧ 1 < m ∧ m % 2 = 1 := by
  obtain ⟨_, _, _, h1, h2, h3, _⟩ := h
  exact ⟨h3, h2, h1⟩
attribute [local go_sem] zeroNum md1 md2
set_option maxRecDepth 100000 in
set_option maxHeartbeats 1000000 in
theorem mout_any (a m g : Nat) (w : World) (h : IsMod w g m) (ha : a < m) : Calls Try.prog 24 #[.pointer (some ⟨g, 0, none⟩), .agg (nums a)] w fun e w' => e = .returned (.agg (nums (redc m a))) ∧ Below w.heap.size w w' := by
  obtain ⟨hm, h1, h2⟩ := h.facts
  have cP := fun W h => mprod_any a 1 m g W h (by omega) (by decide +kernel) (mul_bound ha (by decide +kernel))
  rw [Nat.mul_one] at cP
  clear ha hm h1 h2
  generalize redc m a = x at *
  have n0 := nums_ne 0
  have hA : Has ((w.alloc (.cells (nums a) 24)).alloc (.cells (nums 0) 24)) (w.heap.size) 24 (nums a) := (Has.new w _ _).alloc _
  have hR : Has ((w.alloc (.cells (nums a) 24)).alloc (.cells (nums 0) 24)) (w.heap.size + 1) 24 (nums 0) := Has.new' (by simp)
  have hb0 : Below w.heap.size w ((w.alloc (.cells (nums a) 24)).alloc (.cells (nums 0) 24)) := ((Below.refl _ _).alloc (Nat.le_refl _) _).alloc (by simp <;> omega) _
  replace h := h.after hb0
  go_enter Try.func24, Try.ntmps24
  go_wp2_with (first | refine wpList_load_has 24 _ rfl _ rfl rfl 24 _ hA _ Try.underlying24 rfl (infoNum _) ?_)
  refine (cP _ h).mono ?_
  rintro e w1 ⟨rfl, hx⟩
  replace hR := hR.after hx
  replace hb0 := below_trans hb0 hx
  go_wp2_with (first | refine wpList_store_row rfl 24 _ _ rfl (w.heap.size + 1) _ rfl rfl 24 _ hR (infoNum _) (by simp only [nums_size]) (tab_oneCell _ _ fun _ => rfl) ?_)
  exact bodyPost_ret (v := .agg (nums x)) (results_cell_row rfl _ _ (w.heap.size + 1) 24 _ _ _ rfl (hR.setRow _) Try.underlying24 rfl (infoNum _)) rfl ⟨rfl, below_setRow hb0 (by omega) _⟩
attribute [local go_sem] zeroNum md1 md2
set_option maxRecDepth 100000 in
set_option maxHeartbeats 1000000 in
theorem mreduce_any (a m g : Nat) (w : World) (h : IsMod w g m) (ha : a < big) : Calls Try.prog 16 #[.pointer (some ⟨g, 0, none⟩), .agg (nums a)] w fun e w' => e = .returned (.agg (nums (a % m))) ∧ Below w.heap.size w w' := by
  obtain ⟨hm, h1, h2⟩ := h.facts
  have cI := fun W h => min_any a m g W h ha
  have cO := fun W h => mout_any (a * RR % m) m g W h (Nat.mod_lt _ (by omega))
  rw [out_in m a h2] at cO
  clear ha hm h1 h2
  generalize a * RR % m = y at *
  generalize a % m = x at *
  have n0 := nums_ne 0
  have hA : Has ((w.alloc (.cells (nums a) 24)).alloc (.cells (nums 0) 24)) (w.heap.size) 24 (nums a) := (Has.new w _ _).alloc _
  have hR : Has ((w.alloc (.cells (nums a) 24)).alloc (.cells (nums 0) 24)) (w.heap.size + 1) 24 (nums 0) := Has.new' (by simp)
  have hb0 : Below w.heap.size w ((w.alloc (.cells (nums a) 24)).alloc (.cells (nums 0) 24)) := ((Below.refl _ _).alloc (Nat.le_refl _) _).alloc (by simp <;> omega) _
  replace h := h.after hb0
  go_enter Try.func16, Try.ntmps16
  go_wp2_with (first | refine wpList_load_has 24 _ rfl _ rfl rfl 24 _ hA _ Try.underlying24 rfl (infoNum _) ?_)
  refine (cI _ h).mono ?_
  rintro e w1 ⟨rfl, hx⟩
  replace hR := hR.after hx
  replace h := h.after hx
  replace hb0 := below_trans hb0 hx
  clear hx
  go_wp2_with fail
  refine (cO _ h).mono ?_
  rintro e w2 ⟨rfl, hx⟩
  replace hR := hR.after hx
  replace hb0 := below_trans hb0 hx
  go_wp2_with (first | refine wpList_store_row rfl 24 _ _ rfl (w.heap.size + 1) _ rfl rfl 24 _ hR (infoNum _) (by simp only [nums_size]) (tab_oneCell _ _ fun _ => rfl) ?_)
  exact bodyPost_ret (v := .agg (nums x)) (results_cell_row rfl _ _ (w.heap.size + 1) 24 _ _ _ rfl (hR.setRow _) Try.underlying24 rfl (infoNum _)) rfl ⟨rfl, below_setRow hb0 (by omega) _⟩
attribute [local go_sem] zeroNum md1 md2
set_option maxRecDepth 100000 in
set_option maxHeartbeats 1000000 in
theorem mmul_any (a b m g : Nat) (w : World) (h : IsMod w g m) (ha : a < big) (hb : b < big) : Calls Try.prog 22 #[.pointer (some ⟨g, 0, none⟩), .agg (nums a), .agg (nums b)] w fun e w' => e = .returned (.agg (nums (a * b % m))) ∧ Below w.heap.size w w' := by
  obtain ⟨hm, h1, h2⟩ := h.facts
  have hy : a * RR % m < m := Nat.mod_lt _ (by omega)
  have cI := fun W h => min_any a m g W h ha
  have cP := fun W h => mprod_any (a * RR % m) b m g W h (by omega) hb (mul_bound hy hb)
  have e : redc m (a * RR % m * b) = a * b % m := by
    rw [← times_in m a b h2, ← redc_mod m (a * RR % m * b), ← redc_mod m (a * RR % m * (b % m)), Nat.mul_mod (a * RR % m) b, Nat.mul_mod (a * RR % m) (b % m), Nat.mod_mod b]
  rw [e] at cP
  clear e ha hb hm h1 h2 hy
  generalize a * RR % m = y at *
  generalize a * b % m = x at *
  have n0 := nums_ne 0
  have hA : Has (((w.alloc (.cells (nums a) 24)).alloc (.cells (nums b) 24)).alloc (.cells (nums 0) 24)) (w.heap.size) 24 (nums a) := ((Has.new w _ _).alloc _).alloc _
  have hB : Has (((w.alloc (.cells (nums a) 24)).alloc (.cells (nums b) 24)).alloc (.cells (nums 0) 24)) (w.heap.size + 1) 24 (nums b) := (Has.new' (by simp)).alloc _
  have hR : Has (((w.alloc (.cells (nums a) 24)).alloc (.cells (nums b) 24)).alloc (.cells (nums 0) 24)) (w.heap.size + 1 + 1) 24 (nums 0) := Has.new' (by simp)
  have hb0 : Below w.heap.size w (((w.alloc (.cells (nums a) 24)).alloc (.cells (nums b) 24)).alloc (.cells (nums 0) 24)) := (((Below.refl _ _).alloc (Nat.le_refl _) _).alloc (by simp <;> omega) _).alloc (by simp <;> omega) _
  replace h := h.after hb0
  go_enter Try.func22, Try.ntmps22
  go_wp2_with fail
  generalize (((w.alloc _).alloc _).alloc _) = W at *
  refine region_quiet_tail (Below W.heap.size W) 6 (by kernel_rfl) (by kernel_rfl) (below_drewN (Below.refl _ _) 1) ?_
  simp only [List.take_succ_cons, List.take_zero, List.drop_succ_cons, List.drop_zero]
  refine wpQ_move _ rfl rfl (.pointer (some ⟨g, 0, none⟩)) rfl ?_
  simp only [Act.put, List.setIfInBounds_toArray, List.set_cons_zero, List.set_cons_succ]
  refine wpQ_move _ rfl rfl (.pointer (some ⟨g, 0, none⟩)) rfl ?_
  simp only [Act.put, List.setIfInBounds_toArray, List.set_cons_zero, List.set_cons_succ]
  refine wpQ_has 24 _ rfl _ rfl rfl 24 _ (fun w' hC => hA.after hC) _ Try.underlying24 rfl (infoNum _) ?_
  simp only [Act.put, List.setIfInBounds_toArray, List.set_cons_zero, List.set_cons_succ]
  refine wpQ_fn 23 _ _ rfl rfl #[.pointer (some ⟨g, 0, none⟩), .agg (nums a)] rfl (fun _ => by go_simp) (.agg (nums y)) (fun w' hC => (cI w' (h.after hC)).mono fun e w'' ⟨he, hb⟩ => ⟨he, below_class hC hb⟩) ?_
  simp only [Act.put, List.setIfInBounds_toArray, List.set_cons_zero, List.set_cons_succ]
  refine wpQ_has 24 _ rfl _ rfl rfl 24 _ (fun w' hC => hB.after hC) _ Try.underlying24 rfl (infoNum _) ?_
  simp only [Act.put, List.setIfInBounds_toArray, List.set_cons_zero, List.set_cons_succ]
  refine wpQ_fn 42 _ _ rfl rfl #[.pointer (some ⟨g, 0, none⟩), .agg (nums y), .agg (nums b)] rfl (fun _ => by go_simp) (.agg (nums x)) (fun w' hC => (cP w' (h.after hC)).mono fun e w'' ⟨he, hb⟩ => ⟨he, below_class hC hb⟩) ?_
  simp only [Act.put, List.setIfInBounds_toArray, List.set_cons_zero, List.set_cons_succ]
  refine wpQuiet_nil ?_
  intro w1 hC
  replace hR := hR.after hC
  replace hb0 := below_trans hb0 hC
  clear hC h cP cI hA hB
  go_wp2_with (first | refine wpList_store_row rfl 24 _ _ rfl (w.heap.size + 1 + 1) _ rfl rfl 24 _ hR (infoNum _) (by simp only [nums_size]) (tab_oneCell _ _ fun _ => rfl) ?_)
  exact bodyPost_ret (v := .agg (nums x)) (results_cell_row rfl _ _ (w.heap.size + 1 + 1) 24 _ _ _ rfl (hR.setRow _) Try.underlying24 rfl (infoNum _)) rfl ⟨rfl, below_setRow hb0 (by omega) _⟩
/-- k bits of the exponent are taken -/
def powK (m a e k : Nat) : Nat := redc m a ^ (e / 2 ^ (256 - k)) * RR % m
theorem powK_zero {m a e : Nat} (he : e < big) : powK m a e 0 = RR % m := by
  unfold powK
  rw [Nat.div_eq_of_lt (by have : big = 2 ^ (256 - 0) := by decide +kernel
                           omega), Nat.pow_zero, Nat.one_mul]
theorem powK_end (m a e : Nat) : powK m a e 256 = powN m a e := by
  unfold powK powN
  rw [Nat.sub_self, Nat.pow_zero, Nat.div_one]
theorem powK_lt {m : Nat} (a e k : Nat) (hm : 0 < m) : powK m a e k < m := Nat.mod_lt _ hm
theorem exp_bit (e k : Nat) (hk : k < 256) : e / 2 ^ (256 - (k + 1)) = 2 * (e / 2 ^ (256 - k)) + bitN e (255 - k) := by
  have h1 : 256 - k = (255 - k) + 1 := by omega
  have h2 : 256 - (k + 1) = 255 - k := by omega
  unfold bitN
  rw [h1, h2, Nat.pow_succ, ← Nat.div_div_eq_div_mul]
  omega
theorem powK_even {m a e k : Nat} (hm : m % 2 = 1) (hk : k < 256) (hb : bitN e (255 - k) = 0) : redc m (powK m a e k * powK m a e k) = powK m a e (k + 1) := by
  unfold powK
  rw [times_R m _ _ hm, exp_bit e k hk, hb, Nat.add_zero, Nat.two_mul, Nat.pow_add]
theorem powK_odd {m a e k : Nat} (hm : m % 2 = 1) (ha : a < m) (hk : k < 256) (hb : bitN e (255 - k) = 1) : redc m (redc m (powK m a e k * powK m a e k) * a) = powK m a e (k + 1) := by
  have ea : a = redc m a * RR % m := by rw [Nat.mul_comm, redc_eq m a hm, Nat.mod_eq_of_lt ha]
  unfold powK
  rw [times_R m _ _ hm]
  conv => lhs; rw [show ∀ z, redc m (z * a) = redc m (z * (redc m a * RR % m)) from fun z => by rw [← ea]]
  rw [times_R m _ _ hm, exp_bit e k hk, hb, Nat.two_mul, Nat.pow_succ, Nat.pow_add]
theorem bitN_01 (x i : Nat) : bitN x i = 0 ∨ bitN x i = 1 := by unfold bitN; omega
attribute [local go_sem] zeroNum md1 md2
set_option maxRecDepth 100000 in
set_option maxHeartbeats 1000000 in
theorem mpow_any (a e m g : Nat) (w : World) (h : IsMod w g m) (ha : a < m) (he : e < big) : Calls Try.prog 28 #[.pointer (some ⟨g, 0, none⟩), .agg (nums a), .agg (nums e)] w fun z w' => z = .returned (.agg (nums (powN m a e))) ∧ Below w.heap.size w w' := by
  obtain ⟨hm, h1, h2⟩ := h.facts
  have hk0 := powK_zero (m := m) (a := a) he
  have hkl := fun k => powK_lt (m := m) a e k (by omega)
  have HSQ := Lib.hid (fun k W h => mprod_any (powK m a e k) (powK m a e k) m g W h (Nat.lt_trans (hkl k) hm) (Nat.lt_trans (hkl k) hm) (mul_bound (hkl k) (Nat.lt_trans (hkl k) hm)))
  have HML := Lib.hid (fun k W h => mprod_any (redc m (powK m a e k * powK m a e k)) a m g W h (Nat.lt_trans (redc_lt m _ (by omega)) hm) (by omega) (mul_bound (redc_lt m _ (by omega)) (by omega)))
  have HEV := Lib.hid (fun k hk hb => powK_even (a := a) (e := e) (k := k) h2 hk hb)
  have HOD := Lib.hid (fun k hk hb => powK_odd (e := e) (k := k) h2 ha hk hb)
  have HB := Lib.hid (fun i W hi => bit_any e i W hi)
  have HK := Lib.hid (And.intro hk0 (powK_end m a e))
  clear hk0 hkl ha he hm h1 h2
  generalize powK m a e = F at *
  generalize powN m a e = x at *
  have n0 := nums_ne 0
  have hA : Has (((w.alloc (.cells (nums a) 24)).alloc (.cells (nums e) 24)).alloc (.cells (nums 0) 24)) (w.heap.size) 24 (nums a) := ((Has.new w _ _).alloc _).alloc _
  have hE : Has (((w.alloc (.cells (nums a) 24)).alloc (.cells (nums e) 24)).alloc (.cells (nums 0) 24)) (w.heap.size + 1) 24 (nums e) := (Has.new' (by simp)).alloc _
  have hR : Has (((w.alloc (.cells (nums a) 24)).alloc (.cells (nums e) 24)).alloc (.cells (nums 0) 24)) (w.heap.size + 1 + 1) 24 (nums 0) := Has.new' (by simp)
  have hb0 : Below w.heap.size w (((w.alloc (.cells (nums a) 24)).alloc (.cells (nums e) 24)).alloc (.cells (nums 0) 24)) := (((Below.refl _ _).alloc (Nat.le_refl _) _).alloc (by simp <;> omega) _).alloc (by simp <;> omega) _
  have hgw : g < w.heap.size := h.lt
  replace h := h.after hb0
  have hG : ∃ ni, Has (((w.alloc (.cells (nums a) 24)).alloc (.cells (nums e) 24)).alloc (.cells (nums 0) 24)) g 52 (modC m ni (RR % m) (RR * RR % m)) := by obtain ⟨ni, _, _, _, _, _, h⟩ := h; exact ⟨ni, h⟩
  obtain ⟨ni, hG⟩ := hG
  rw [← HK.out.1] at hG
  have hP := put_at (((w.alloc (.cells (nums a) 24)).alloc (.cells (nums e) 24)).alloc (.cells (nums 0) 24)) 24 (nums 0) (nums (F 0)) (w.heap.size + 1 + 1 + 1) (by simp)
  replace hA := hA.after hP.2
  replace hE := hE.after hP.2
  replace hR := hR.after hP.2
  replace h := h.after hP.2
  replace hb0 := below_trans hb0 hP.2
  have hX := hP.1
  clear hP
  go_enter Try.func28, Try.ntmps28
  go_wp2_with (first | refine wpList_load_num rfl _ rfl _ 9 rfl _ (mod_one hG) ?_ | refine wpList_store_row rfl 24 _ _ rfl (w.heap.size + 1 + 1 + 1) _ rfl rfl 24 _ (Has.new' (by simp)) (infoNum _) (by simp only [nums_size]) (tab_oneCell _ _ fun _ => rfl) ?_)
  generalize (((((w.alloc _).alloc _).alloc _).alloc _).setRow _ _) = W at *
  clear hG
  go_loopw [8, 16] (fun _ vi wr => ∃ k : Nat, k ≤ 256 ∧ vi = .int .i64 (k : Int) ∧ Has wr w.heap.size 24 (nums a) ∧ Has wr (w.heap.size + 1) 24 (nums e) ∧
      Has wr (w.heap.size + 1 + 1) 24 (nums 0) ∧ Has wr (w.heap.size + 1 + 1 + 1) 24 (nums (F k)) ∧ IsMod wr g m ∧ g < w.heap.size ∧ Below w.heap.size w wr) (fun _ vi _ => 256 - (intOf vi).toNat)
  case atStart => exact ⟨0, by omega, rfl, hA, hE, hR, hX, h, hgw, hb0⟩
  case round =>
    obtain ⟨k, hk, rfl, h1, h2, h3, h4, h5, hg, hb⟩ := hrel
    clear hA hE hR hX h hb0 hgw
    by_cases hlt : k < 256
    · have dk : (k : Int) < 256 := by omega
      obtain ⟨q, hq⟩ : ∃ q, q + k = 255 := ⟨255 - k, by omega⟩
      have hqi : (255 : Int) - (k : Int) = (q : Int) := by omega
      have hq2 : 255 - k = q := by omega
      have cE := HEV.out k hlt
      have cO := HOD.out k hlt
      rw [hq2] at cE cO
      have cB := fun W => HB.out q W (by omega)
      have hK := Lib.hid hk
      clear hq2 hk
      go_wp2_with (first | refine wpList_load_has 24 _ rfl _ rfl rfl 24 _ h4 _ Try.underlying24 rfl (infoNum _) ?_)
      refine (HSQ.out k _ h5).mono ?_
      rintro z w2 ⟨rfl, hx⟩
      generalize hsq : redc m (F k * F k) = y at *
      replace h1 := h1.after hx; replace h2 := h2.after hx; replace h3 := h3.after hx; replace h4 := h4.after hx; replace h5 := h5.after hx; replace hb := below_trans hb hx
      have h4' := h4.setRow (nums y)
      replace h1 := h1.farRow (k := w.heap.size + 1 + 1 + 1) (by omega) (nums y)
      replace h2 := h2.farRow (k := w.heap.size + 1 + 1 + 1) (by omega) (nums y)
      replace h3 := h3.farRow (k := w.heap.size + 1 + 1 + 1) (by omega) (nums y)
      replace h5 := h5.farRow (k := w.heap.size + 1 + 1 + 1) (by omega) (nums y)
      replace hb := below_setRow hb (g := w.heap.size + 1 + 1 + 1) (by omega) (nums y)
      clear hx
      rcases bitN_01 e q with hbt | hbt
      · rw [hbt] at cB
        have HF := Lib.hid (cE hbt)
        clear cE cO hbt hsq
        go_wp2_with (first | refine wpList_store_row rfl 24 _ _ rfl (w.heap.size + 1 + 1 + 1) _ rfl rfl 24 _ h4 (infoNum _) (by simp only [nums_size]) (tab_oneCell _ _ fun _ => rfl) ?_ | refine wpList_load_has 24 _ rfl _ rfl rfl 24 _ h2 _ Try.underlying24 rfl (infoNum _) ?_)
        refine (cB _).mono ?_
        rintro z w3 ⟨rfl, hx⟩
        replace h1 := h1.after hx; replace h2 := h2.after hx; replace h3 := h3.after hx; replace h4' := h4'.after hx; replace h5 := h5.after hx; replace hb := below_trans hb hx
        clear hx h4 cB
        go_wp2_with fail
        go_roundw
        case rel => exact ⟨k + 1, by omega, by go_num, h1, h2, h3, by rw [← HF.out]; exact h4', h5, hg, hb⟩
        case measure => simp [intOf]; omega
      · rw [hbt] at cB
        have HF := Lib.hid (cO hbt)
        have cM := fun W h => HML.out k W h
        rw [hsq] at cM
        clear cE cO hbt hsq
        generalize redc m (y * a) = y2 at *
        go_wp2_with (first | refine wpList_store_row rfl 24 _ _ rfl (w.heap.size + 1 + 1 + 1) _ rfl rfl 24 _ h4 (infoNum _) (by simp only [nums_size]) (tab_oneCell _ _ fun _ => rfl) ?_ | refine wpList_load_has 24 _ rfl _ rfl rfl 24 _ h2 _ Try.underlying24 rfl (infoNum _) ?_)
        refine (cB _).mono ?_
        rintro z w3 ⟨rfl, hx⟩
        replace h1 := h1.after hx; replace h2 := h2.after hx; replace h3 := h3.after hx; replace h4' := h4'.after hx; replace h5 := h5.after hx; replace hb := below_trans hb hx
        clear hx h4 cB
        go_wp2_with (first | refine wpList_load_has 24 _ rfl _ rfl rfl 24 _ h4' _ Try.underlying24 rfl (infoNum _) ?_ | refine wpList_load_has 24 _ rfl _ rfl rfl 24 _ h1 _ Try.underlying24 rfl (infoNum _) ?_)
        refine (cM _ h5).mono ?_
        rintro z w4 ⟨rfl, hx⟩
        replace h1 := h1.after hx; replace h2 := h2.after hx; replace h3 := h3.after hx; replace h4' := h4'.after hx; replace h5 := h5.after hx; replace hb := below_trans hb hx
        have h6 := h4'.setRow (nums y2)
        replace h1 := h1.farRow (k := w.heap.size + 1 + 1 + 1) (by omega) (nums y2)
        replace h2 := h2.farRow (k := w.heap.size + 1 + 1 + 1) (by omega) (nums y2)
        replace h3 := h3.farRow (k := w.heap.size + 1 + 1 + 1) (by omega) (nums y2)
        replace h5 := h5.farRow (k := w.heap.size + 1 + 1 + 1) (by omega) (nums y2)
        replace hb := below_setRow hb (g := w.heap.size + 1 + 1 + 1) (by omega) (nums y2)
        clear hx cM
        go_wp2_with (first | refine wpList_store_row rfl 24 _ _ rfl (w.heap.size + 1 + 1 + 1) _ rfl rfl 24 _ h4' (infoNum _) (by simp only [nums_size]) (tab_oneCell _ _ fun _ => rfl) ?_)
        go_roundw
        case rel => exact ⟨k + 1, by omega, by go_num, h1, h2, h3, by rw [← HF.out]; exact h6, h5, hg, hb⟩
        case measure => simp [intOf]; omega
    · have hk8 : k = 256 := by omega
      have dk : ¬ (k : Int) < 256 := by omega
      rw [hk8, HK.out.2] at h4
      clear hlt hk hk8 h1 h2
      go_wp2_with (first | refine wpList_load_has 24 _ rfl _ rfl rfl 24 _ h4 _ Try.underlying24 rfl (infoNum _) ?_ | refine wpList_store_row rfl 24 _ _ rfl (w.heap.size + 1 + 1) _ rfl rfl 24 _ h3 (infoNum _) (by simp only [nums_size]) (tab_oneCell _ _ fun _ => rfl) ?_)
      exact bodyPost_ret (v := .agg (nums x)) (results_cell_row rfl _ _ (w.heap.size + 1 + 1) 24 _ _ _ rfl (h3.setRow _) Try.underlying24 rfl (infoNum _)) rfl ⟨rfl, below_setRow hb (by omega) _⟩
end Go.Proofs.Ytodialbopochdaa
