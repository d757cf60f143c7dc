/-
The reference of layer 3: twice a number, sums, modulo m.
-/
import Derived.Test.YtodialbopochdaaTriB
namespace Go.Proofs.Ytodialbopochdaa
open Go.RowKit

/-- the first sixteen cells of seventeen, as a number -/
theorem wpList_load_d16 {P : Program} {ops : Array Oper} {rest : List Oper} {op : Oper} {a : Act} {w : World} {Q : Exit → Act → World → Prop} (hgd : op.guard = none) (ty : TypeId) (x : Operand) (ho : op.op = .load ty x)
    (b : Nat) (hx : a.eval x = .pointer (some ⟨b, 0, none⟩)) (t : TypeId) (R : Nat) (hg : Has w b t (d17 R)) (d : TypeDesc) (hu : P.underlying ty = some d) (hd : d.isRow = true) (hi : (P.info? ty).map (·.size) = some 16)
    (h : wpList P ops Q rest (a.put op.dst (.agg (d16 R))) w) : wpList P ops Q (op :: rest) a w := by
  have hc := hg.range 0 16 (by decide)
  simp only [Nat.zero_add] at hc
  exact wpList_load_mid hgd ty x ho b 0 hx _ d hc hu hd (by simpa using hi) h
theorem info16' : (Try.prog.info? 34).map (·.size) = some 16 := by kernel_rfl
theorem slice16 (g : Nat) : ∀ W : World, (Instr.sliceAt 57 (.pointer (some ⟨g, 0, none⟩)) none (some (.int .i64 16)) none).run Try.prog W = .ok (.slice (some ⟨g, 0, none⟩) 16 17) W := fun W => by
  have hs : (sizeOf 32).run Try.prog W = .ok 1 W := by kernel_rfl
  have h := run_sliceAt_array_h (P := Try.prog) (w := W) 57 ⟨g, 0, none⟩ (by kernel_rfl) .i64 16 (by decide) (by show (16 : Int) ≤ 17; decide)
  have e5 : Try.prog.elem 57 = 32 := by kernel_rfl
  have e17 : Try.prog.arrayLen 57 = 17 := by kernel_rfl
  rw [h, e5, hs, e17]
  simp [Result.andThen, slicedAt, Addr.add]
theorem array16 (g : Nat) : ∀ W : World, (Instr.arrayAt 34 (.slice (some ⟨g, 0, none⟩) 16 17)).run Try.prog W = .ok (.pointer (some ⟨g, 0, none⟩)) W := fun W =>
  run_arrayAt (P := Try.prog) (w := W) 34 _ 16 _ 16 17 Try.underlying34 (by decide)
theorem mod_of (T m R : Nat) (h : T < 2 * m) (hR : R = if T < m then T else T - m) : R = T % m := by
  subst hR
  by_cases c : T < m
  · rw [if_pos c, Nat.mod_eq_of_lt c]
  · rw [if_neg c, Nat.mod_eq_sub_mod (by omega), Nat.mod_eq_of_lt (by omega)]

def car3 (a c k : Nat) : Nat := carL 65536 2 a c k
theorem car3_le (a c k : Nat) (hc : c ≤ 1) : car3 a c k ≤ 1 := by
  unfold car3 carL
  have h := Nat.mod_lt a (Nat.pow_pos (n := k) (show 0 < 65536 by decide))
  have : (2 * (a % 65536 ^ k) + c) / 65536 ^ k < 2 := by rw [Nat.div_lt_iff_lt_mul (Nat.pow_pos (by decide))]; omega
  omega
theorem twice_lo (a c k : Nat) : ((2 : Int) * ((hxd a k : Nat) : Int) + ((car3 a c k : Nat) : Int)) % 65536 = ((hxd (2 * a + c) k : Nat) : Int) := by
  have h : (2 * hxd a k + car3 a c k) % 65536 = hxd (2 * a + c) k := carL_dg (by decide) 2 a c k
  rw [← h]; omega
theorem twice_hi (a c k : Nat) : ((2 : Int) * ((hxd a k : Nat) : Int) + ((car3 a c k : Nat) : Int)) / 65536 = ((car3 a c (k + 1) : Nat) : Int) := by
  have h : (2 * hxd a k + car3 a c k) / 65536 = car3 a c (k + 1) := carL_step (by decide) 2 a c k
  rw [← h]; omega
theorem top_dig (T c : Nat) (h : T < 2 * 65536 ^ 16) (hc : c = T / 65536 ^ 16) : c = hxd T 16 := by
  subst hc
  unfold hxd dg
  refine (Nat.mod_eq_of_lt ?_).symm
  rw [Nat.div_lt_iff_lt_mul (Nat.pow_pos (by decide))]
  refine Nat.lt_of_lt_of_le h (Nat.mul_le_mul_right _ (by decide))
def car4 (a b k : Nat) : Nat := car 65536 a b k
theorem car4_le (a b k : Nat) : car4 a b k ≤ 1 := car_le (by decide) a b k
theorem sum3_lo (a b k : Nat) : (((hxd a k : Nat) : Int) + ((hxd b k : Nat) : Int) + ((car4 a b k : Nat) : Int)) % 65536 = ((hxd (a + b) k : Nat) : Int) := by
  have h : (hxd a k + hxd b k + car4 a b k) % 65536 = hxd (a + b) k := add_dg (by decide) a b k
  rw [← h]; omega
theorem sum3_hi (a b k : Nat) : (((hxd a k : Nat) : Int) + ((hxd b k : Nat) : Int) + ((car4 a b k : Nat) : Int)) / 65536 = ((car4 a b (k + 1) : Nat) : Int) := by
  have h : (hxd a k + hxd b k + car4 a b k) / 65536 = car4 a b (k + 1) := car_step (by decide) a b k
  rw [← h]; omega

attribute [local go_sem] zeroNum zero16 zero17
set_option maxRecDepth 100000 in
set_option maxHeartbeats 1000000 in
theorem twice_any (a m c : Nat) (w : World) (ha : a < m) (hm : m < 65536 ^ 16) (hc : c ≤ 1) :
    Calls Try.prog 38 #[.agg (d16 a), .agg (d16 m), .int .u64 (c : Int)] w fun e w' => e = .returned (.agg (d16 ((2 * a + c) % m))) ∧ Below w.heap.size w w' := by
  have h2 : 2 * a + c < 2 * m := by omega
  have h17 : 2 * a + c < 65536 ^ 17 := by
    have : (65536 : Nat) ^ 17 = 65536 * 65536 ^ 16 := by rw [← Nat.pow_succ']
    omega
  have hcar : car3 a c 16 = hxd (2 * a + c) 16 := top_dig _ _ (by omega) (carL_end (by omega))
  have HC := Lib.hid hcar
  have HT2 := Lib.hid h2
  have HT17 := Lib.hid h17
  have HM16 := Lib.hid hm
  have hcl := fun k => car3_le a c k hc
  have HCL := Lib.hid hcl
  have hc1 : (c : Int) ≤ 1 := by omega
  clear h2 h17 hcar ha hm hc hcl
  go_enter Try.func38, Try.ntmps38
  go_wp2_with fail
  go_loopw [8, 9, 10] (fun cc ct _ wr => ∃ k : Nat, k ≤ 16 ∧ ct = .int .i64 k ∧ cc = .int .u64 ((car3 a c k : Nat) : Int) ∧ Has wr w.heap.size 34 (d16 a) ∧ Has wr (w.heap.size + 1) 34 (d16 m) ∧
      Has wr (w.heap.size + 1 + 1) 34 (d16 0) ∧ Has wr (w.heap.size + 1 + 1 + 1) 57 (d17 ((2 * a + c) % 65536 ^ k)) ∧ Below w.heap.size w wr) (fun _ ct _ _ => 16 - (intOf ct).toNat)
  case atStart =>
    exact ⟨0, by omega, rfl, by rw [car3, carL_zero], (((Has.new w _ _).alloc _).alloc _).alloc _, ((Has.new' (by simp)).alloc _).alloc _, (Has.new' (by simp)).alloc _, by rw [Nat.pow_zero, Nat.mod_one]; exact Has.new' (by simp),
      ((((Below.refl _ _).alloc (Nat.le_refl _) _).alloc (by simp) _).alloc (by simp <;> omega) _).alloc (by simp <;> omega) _⟩
  case round =>
    obtain ⟨k, hk, rfl, rfl, h0, hm, hr, ht, hb⟩ := hrel
    by_cases hlt : k < 16
    · have c0 := d16_at h0 k hlt
      have dk : (k : Int) < 16 := by omega
      have l0 : ((hxd a k : Nat) : Int) < 65536 := by have := hxd_lt a k; omega
      have l2 : ((car3 a c k : Nat) : Int) ≤ 1 := by have := HCL.out k; omega
      have e1 := twice_lo a c k
      have e2 := twice_hi a c k
      have c3 := ht.cellTab k (by omega)
      have f3 := ht.free k
      go_wp2_with fail
      go_roundw
      case rel => exact ⟨k + 1, by omega, by go_num, by rw [← e2], h0.far (by simp <;> omega) _, hm.far (by simp <;> omega) _, hr.far (by simp <;> omega) _, by rw [← d17_set (by omega), ← e1]; exact ht.set k _, hb.setCell (by simp <;> omega) _⟩
      case measure => simp [intOf]; omega
    · obtain rfl : k = 16 := by omega
      clear h0 hk hlt
      have hT : Has (wr.setCell ⟨(w.heap.size + 1 + 1 + 1), 16, none⟩ (.int .u64 ((car3 a c 16 : Nat) : Int))) ((w.heap.size + 1 + 1 + 1)) 57 (d17 (2 * a + c)) := by
        have h := ht.set 16 (.int .u64 ((car3 a c 16 : Nat) : Int))
        rw [HC.out, d17_set (by decide), d17_end] at h
        rw [HC.out]
        exact h
      have hM := hm.far (a := ⟨(w.heap.size + 1 + 1 + 1), 16, none⟩) (by simp <;> omega) (.int .u64 ((car3 a c 16 : Nat) : Int))
      have hR := hr.far (a := ⟨(w.heap.size + 1 + 1 + 1), 16, none⟩) (by simp <;> omega) (.int .u64 ((car3 a c 16 : Nat) : Int))
      have hB : Below w.heap.size w (wr.setCell ⟨(w.heap.size + 1 + 1 + 1), 16, none⟩ (.int .u64 ((car3 a c 16 : Nat) : Int))) := hb.setCell (by simp <;> omega) _
      have cT := ht.cellTab 16 (by decide)
      have fT := ht.free 16
      have hsl := slice16 ((w.heap.size + 1 + 1 + 1))
      have har := array16 ((w.heap.size + 1 + 1 + 1))
      clear ht hm hr hb
      go_wp2_with (first | refine wpList_load_row rfl 57 _ rfl (w.heap.size + 1 + 1 + 1) rfl 57 _ _ _ hT Try.underlying57 rfl (info17 _) ?_ | refine wpList_load_row rfl 34 _ rfl (w.heap.size + 1) rfl 34 _ _ _ hM Try.underlying34 rfl (info16 _) ?_)
      refine (less3_any (2 * a + c) m _ HT17.out HM16.out).mono ?_
      rintro e w1 ⟨rfl, hx⟩
      replace hT := hT.below hx hT.lt
      replace hM := hM.below hx hM.lt
      replace hR := hR.below hx hR.lt
      replace hB := hB.trans (hx.mono hB.size)
      clear hx cT fT
      by_cases hlt : 2 * a + c < m
      · have hl : ltB (2 * a + c) m = true := by simp [ltB, hlt]
        have hmod : (2 * a + c) % m = 2 * a + c := Nat.mod_eq_of_lt hlt
        have HMOD := Lib.hid hmod
        clear hmod hlt
        go_wp2_with (first | refine wpList_load_d16 rfl 34 _ rfl ((w.heap.size + 1 + 1 + 1)) rfl 57 _ hT _ Try.underlying34 rfl info16' ?_ | refine wpList_store_row rfl 34 _ _ rfl ((w.heap.size + 1 + 1)) _ rfl rfl 34 _ hR (info16 _) (by simp only [d16_size]) (tab_oneCell _ _ fun _ => rfl) ?_)
        exact bodyPost_ret (v := .agg (d16 (2 * a + c))) (results_cell_row rfl _ _ ((w.heap.size + 1 + 1)) 34 _ _ _ rfl (hR.setRow _) Try.underlying34 rfl (info16 _)) rfl ⟨by rw [HMOD.out], below_setRow hB (by omega) _⟩
      · have hl : ltB (2 * a + c) m = false := by simp [ltB]; omega
        have hmod : (2 * a + c) % m = 2 * a + c - m := by rw [Nat.mod_eq_sub_mod (by omega), Nat.mod_eq_of_lt (by have := HT2.out; omega)]
        have HMOD := Lib.hid hmod
        have hge : m ≤ 2 * a + c := by omega
        clear hmod hlt
        go_wp2_with (first | refine wpList_load_row rfl 57 _ rfl (w.heap.size + 1 + 1 + 1) rfl 57 _ _ _ hT Try.underlying57 rfl (info17 _) ?_ | refine wpList_load_row rfl 34 _ rfl (w.heap.size + 1) rfl 34 _ _ _ hM Try.underlying34 rfl (info16 _) ?_)
        refine (take_any (2 * a + c) m _ HT17.out HM16.out hge).mono ?_
        rintro e w2 ⟨rfl, hx⟩
        replace hT := hT.below hx hT.lt
        replace hR := hR.below hx hR.lt
        replace hB := hB.trans (hx.mono hB.size)
        clear hx hM
        have hT2 := hT.setRow (d17 (2 * a + c - m))
        have hR2 := hR.farRow (k := (w.heap.size + 1 + 1 + 1)) (by omega) (d17 (2 * a + c - m))
        have hB2 := below_setRow hB (g := (w.heap.size + 1 + 1 + 1)) (by omega) (d17 (2 * a + c - m))
        go_wp2_with (first | refine wpList_store_row rfl 57 _ _ rfl ((w.heap.size + 1 + 1 + 1)) _ rfl rfl 57 _ hT (info17 _) (by simp only [d17_size]) (tab_oneCell _ _ fun _ => rfl) ?_ | refine wpList_load_d16 rfl 34 _ rfl ((w.heap.size + 1 + 1 + 1)) rfl 57 _ hT2 _ Try.underlying34 rfl info16' ?_ | refine wpList_store_row rfl 34 _ _ rfl ((w.heap.size + 1 + 1)) _ rfl rfl 34 _ hR2 (info16 _) (by simp only [d16_size]) (tab_oneCell _ _ fun _ => rfl) ?_)
        exact bodyPost_ret (v := .agg (d16 (2 * a + c - m))) (results_cell_row rfl _ _ ((w.heap.size + 1 + 1)) 34 _ _ _ rfl (hR2.setRow _) Try.underlying34 rfl (info16 _)) rfl ⟨by rw [HMOD.out], below_setRow hB2 (by omega) _⟩
set_option maxRecDepth 100000 in
set_option maxHeartbeats 1000000 in
theorem sum3_any (a b m : Nat) (w : World) (ha : a < m) (hbm : b < m) (hm : m < 65536 ^ 16) :
    Calls Try.prog 17 #[.agg (d16 a), .agg (d16 b), .agg (d16 m)] w fun e w' => e = .returned (.agg (d16 ((a + b) % m))) ∧ Below w.heap.size w w' := by
  have h2 : a + b < 2 * m := by omega
  have h17 : a + b < 65536 ^ 17 := by
    have : (65536 : Nat) ^ 17 = 65536 * 65536 ^ 16 := by rw [← Nat.pow_succ']
    omega
  have hcar : car4 a b 16 = hxd (a + b) 16 := top_dig _ _ (by omega) (car_end (by omega) (by omega))
  have HC := Lib.hid hcar
  have HT2 := Lib.hid h2
  have HT17 := Lib.hid h17
  have HM16 := Lib.hid hm
  clear h2 h17 hcar ha hbm hm
  go_enter Try.func17, Try.ntmps17
  go_wp2_with fail
  go_loopw [8, 9, 10] (fun cc ct _ wr => ∃ k : Nat, k ≤ 16 ∧ ct = .int .i64 k ∧ cc = .int .u64 ((car4 a b k : Nat) : Int) ∧ Has wr w.heap.size 34 (d16 a) ∧ Has wr (w.heap.size + 1) 34 (d16 b) ∧ Has wr (w.heap.size + 1 + 1) 34 (d16 m) ∧
      Has wr (w.heap.size + 1 + 1 + 1) 34 (d16 0) ∧ Has wr (w.heap.size + 1 + 1 + 1 + 1) 57 (d17 ((a + b) % 65536 ^ k)) ∧ Below w.heap.size w wr) (fun _ ct _ _ => 16 - (intOf ct).toNat)
  case atStart =>
    exact ⟨0, by omega, rfl, by rw [car4, car_zero]; rfl, ((((Has.new w _ _).alloc _).alloc _).alloc _).alloc _, (((Has.new' (by simp)).alloc _).alloc _).alloc _, ((Has.new' (by simp)).alloc _).alloc _, (Has.new' (by simp)).alloc _, by rw [Nat.pow_zero, Nat.mod_one]; exact Has.new' (by simp),
      (((((Below.refl _ _).alloc (Nat.le_refl _) _).alloc (by simp) _).alloc (by simp <;> omega) _).alloc (by simp <;> omega) _).alloc (by simp <;> omega) _⟩
  case round =>
    obtain ⟨k, hk, rfl, rfl, h0, h1, hm, hr, ht, hb⟩ := hrel
    by_cases hlt : k < 16
    · have c0 := d16_at h0 k hlt
      have c1 := d16_at h1 k hlt
      have dk : (k : Int) < 16 := by omega
      have l0 : ((hxd a k : Nat) : Int) < 65536 := by have := hxd_lt a k; omega
      have l1 : ((hxd b k : Nat) : Int) < 65536 := by have := hxd_lt b k; omega
      have l2 : ((car4 a b k : Nat) : Int) ≤ 1 := by have := car4_le a b k; omega
      have e1 := sum3_lo a b k
      have e2 := sum3_hi a b k
      go_wp2_with fail
      go_quiet (fail)
      replace h0 := h0.drewN nq
      replace h1 := h1.drewN nq
      replace hm := hm.drewN nq
      replace hr := hr.drewN nq
      replace ht := ht.drewN nq
      replace hb := below_drewN hb nq
      clear c0 c1
      generalize hq : Go.World.drewN _ nq = wr at *
      clear hq
      have c3 := ht.cellTab k (by omega)
      have f3 := ht.free k
      go_wp2_with fail
      go_roundw
      case rel => exact ⟨k + 1, by omega, by go_num, by rw [← e2], h0.far (by simp <;> omega) _, h1.far (by simp <;> omega) _, hm.far (by simp <;> omega) _, hr.far (by simp <;> omega) _, by rw [← d17_set (by omega), ← e1]; exact ht.set k _, hb.setCell (by simp <;> omega) _⟩
      case measure => simp [intOf]; omega
    · obtain rfl : k = 16 := by omega
      clear h0 h1 hk hlt
      have hT : Has (wr.setCell ⟨(w.heap.size + 1 + 1 + 1 + 1), 16, none⟩ (.int .u64 ((car4 a b 16 : Nat) : Int))) ((w.heap.size + 1 + 1 + 1 + 1)) 57 (d17 (a + b)) := by
        have h := ht.set 16 (.int .u64 ((car4 a b 16 : Nat) : Int))
        rw [HC.out, d17_set (by decide), d17_end] at h
        rw [HC.out]
        exact h
      have hM := hm.far (a := ⟨(w.heap.size + 1 + 1 + 1 + 1), 16, none⟩) (by simp <;> omega) (.int .u64 ((car4 a b 16 : Nat) : Int))
      have hR := hr.far (a := ⟨(w.heap.size + 1 + 1 + 1 + 1), 16, none⟩) (by simp <;> omega) (.int .u64 ((car4 a b 16 : Nat) : Int))
      have hB : Below w.heap.size w (wr.setCell ⟨(w.heap.size + 1 + 1 + 1 + 1), 16, none⟩ (.int .u64 ((car4 a b 16 : Nat) : Int))) := hb.setCell (by simp <;> omega) _
      have cT := ht.cellTab 16 (by decide)
      have fT := ht.free 16
      have hsl := slice16 ((w.heap.size + 1 + 1 + 1 + 1))
      have har := array16 ((w.heap.size + 1 + 1 + 1 + 1))
      clear ht hm hr hb
      go_wp2_with (first | refine wpList_load_row rfl 57 _ rfl (w.heap.size + 1 + 1 + 1 + 1) rfl 57 _ _ _ hT Try.underlying57 rfl (info17 _) ?_ | refine wpList_load_row rfl 34 _ rfl (w.heap.size + 1 + 1) rfl 34 _ _ _ hM Try.underlying34 rfl (info16 _) ?_)
      refine (less3_any (a + b) m _ HT17.out HM16.out).mono ?_
      rintro e w1 ⟨rfl, hx⟩
      replace hT := hT.below hx hT.lt
      replace hM := hM.below hx hM.lt
      replace hR := hR.below hx hR.lt
      replace hB := hB.trans (hx.mono hB.size)
      clear hx cT fT
      by_cases hlt : a + b < m
      · have hl : ltB (a + b) m = true := by simp [ltB, hlt]
        have hmod : (a + b) % m = a + b := Nat.mod_eq_of_lt hlt
        have HMOD := Lib.hid hmod
        clear hmod hlt
        go_wp2_with (first | refine wpList_load_d16 rfl 34 _ rfl ((w.heap.size + 1 + 1 + 1 + 1)) rfl 57 _ hT _ Try.underlying34 rfl info16' ?_ | refine wpList_store_row rfl 34 _ _ rfl ((w.heap.size + 1 + 1 + 1)) _ rfl rfl 34 _ hR (info16 _) (by simp only [d16_size]) (tab_oneCell _ _ fun _ => rfl) ?_)
        exact bodyPost_ret (v := .agg (d16 (a + b))) (results_cell_row rfl _ _ ((w.heap.size + 1 + 1 + 1)) 34 _ _ _ rfl (hR.setRow _) Try.underlying34 rfl (info16 _)) rfl ⟨by rw [HMOD.out], below_setRow hB (by omega) _⟩
      · have hl : ltB (a + b) m = false := by simp [ltB]; omega
        have hmod : (a + b) % m = a + b - m := by rw [Nat.mod_eq_sub_mod (by omega), Nat.mod_eq_of_lt (by have := HT2.out; omega)]
        have HMOD := Lib.hid hmod
        have hge : m ≤ a + b := by omega
        clear hmod hlt
        go_wp2_with (first | refine wpList_load_row rfl 57 _ rfl (w.heap.size + 1 + 1 + 1 + 1) rfl 57 _ _ _ hT Try.underlying57 rfl (info17 _) ?_ | refine wpList_load_row rfl 34 _ rfl (w.heap.size + 1 + 1) rfl 34 _ _ _ hM Try.underlying34 rfl (info16 _) ?_)
        refine (take_any (a + b) m _ HT17.out HM16.out hge).mono ?_
        rintro e w2 ⟨rfl, hx⟩
        replace hT := hT.below hx hT.lt
        replace hR := hR.below hx hR.lt
        replace hB := hB.trans (hx.mono hB.size)
        clear hx hM
        have hT2 := hT.setRow (d17 (a + b - m))
        have hR2 := hR.farRow (k := (w.heap.size + 1 + 1 + 1 + 1)) (by omega) (d17 (a + b - m))
        have hB2 := below_setRow hB (g := (w.heap.size + 1 + 1 + 1 + 1)) (by omega) (d17 (a + b - m))
        go_wp2_with (first | refine wpList_store_row rfl 57 _ _ rfl ((w.heap.size + 1 + 1 + 1 + 1)) _ rfl rfl 57 _ hT (info17 _) (by simp only [d17_size]) (tab_oneCell _ _ fun _ => rfl) ?_ | refine wpList_load_d16 rfl 34 _ rfl ((w.heap.size + 1 + 1 + 1 + 1)) rfl 57 _ hT2 _ Try.underlying34 rfl info16' ?_ | refine wpList_store_row rfl 34 _ _ rfl ((w.heap.size + 1 + 1 + 1)) _ rfl rfl 34 _ hR2 (info16 _) (by simp only [d16_size]) (tab_oneCell _ _ fun _ => rfl) ?_)
        exact bodyPost_ret (v := .agg (d16 (a + b - m))) (results_cell_row rfl _ _ ((w.heap.size + 1 + 1 + 1)) 34 _ _ _ rfl (hR2.setRow _) Try.underlying34 rfl (info16 _)) rfl ⟨by rw [HMOD.out], below_setRow hB2 (by omega) _⟩
end Go.Proofs.Ytodialbopochdaa
