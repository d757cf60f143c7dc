/-
MontInverts: modulo the curve's two primes what isn't nothing has an inverse: the walk, over what package mont's calls do.
-/
import Derived.Test.YtodialbopochdaaMontH
namespace Go.Proofs.Ytodialbopochdaa
open Go.RowKit

theorem buildP : (((((((((nums 0).setIfInBounds 0 (Value.int IntKind.u32 4294967295)).setIfInBounds 1 (Value.int IntKind.u32 4294967295)).setIfInBounds 2 (Value.int IntKind.u32 4294967295)).setIfInBounds 3 (Value.int IntKind.u32 0)).setIfInBounds 4 (Value.int IntKind.u32 0)).setIfInBounds 5 (Value.int IntKind.u32 0)).setIfInBounds 6 (Value.int IntKind.u32 1)).setIfInBounds 7 (Value.int IntKind.u32 4294967295)) = nums primeP := by kernel_rfl
theorem buildN : (((((((((nums 0).setIfInBounds 0 (Value.int IntKind.u32 4234356049)).setIfInBounds 1 (Value.int IntKind.u32 4089039554)).setIfInBounds 2 (Value.int IntKind.u32 2803342980)).setIfInBounds 3 (Value.int IntKind.u32 3169254061)).setIfInBounds 4 (Value.int IntKind.u32 4294967295)).setIfInBounds 5 (Value.int IntKind.u32 4294967295)).setIfInBounds 6 (Value.int IntKind.u32 0)).setIfInBounds 7 (Value.int IntKind.u32 4294967295)) = nums primeN := by kernel_rfl
theorem prime_lt : primeP < big ∧ primeN < big := by decide +kernel
attribute [local go_sem] zeroNum buildP buildN
set_option maxRecDepth 100000 in
set_option maxHeartbeats 1000000 in
theorem prime_any (x : Int) (w : World) : ∃ p, (p = primeP ∨ p = primeN) ∧ Calls Try.prog 29 #[.int .i64 x] w fun e w' => e = .returned (.agg (nums p)) ∧ Below w.heap.size w w' := by
  have hR : Has (w.alloc (.cells (nums 0) 24)) w.heap.size 24 (nums 0) := Has.new w _ _
  have hb : Below w.heap.size w (w.alloc (.cells (nums 0) 24)) := (Below.refl _ _).alloc (Nat.le_refl _) _
  have n0 := nums_ne 0
  by_cases h : (bits BinOp.and IntKind.i64 x 1 == 0) = true
  · refine ⟨primeP, .inl rfl, ?_⟩
    go_enter Try.func29, Try.ntmps29
    go_wp2_with (refine wpList_store_row rfl 24 _ _ rfl w.heap.size _ rfl rfl 24 _ hR (infoNum _) (by simp only [nums_size]) (tab_oneCell _ _ fun _ => rfl) ?_)
    exact bodyPost_ret (v := .agg (nums primeP)) (results_cell_row rfl _ _ w.heap.size 24 _ _ _ rfl (hR.setRow _) Try.underlying24 rfl (infoNum _)) rfl ⟨rfl, below_setRow hb (by omega) _⟩
  · have h' : (bits BinOp.and IntKind.i64 x 1 == 0) = false := by simpa using h
    clear h
    refine ⟨primeN, .inr rfl, ?_⟩
    go_enter Try.func29, Try.ntmps29
    go_wp2_with (refine wpList_store_row rfl 24 _ _ rfl w.heap.size _ rfl rfl 24 _ hR (infoNum _) (by simp only [nums_size]) (tab_oneCell _ _ fun _ => rfl) ?_)
    exact bodyPost_ret (v := .agg (nums primeN)) (results_cell_row rfl _ _ w.heap.size 24 _ _ _ rfl (hR.setRow _) Try.underlying24 rfl (infoNum _)) rfl ⟨rfl, below_setRow hb (by omega) _⟩

set_option maxRecDepth 100000 in
set_option maxHeartbeats 2000000 in
theorem inverts_ok {Is : World → Nat → Nat → Prop} (H : MontOK Is) (hZ : ∀ a W, a < big → Calls Try.prog 31 #[.agg (nums a)] W fun e w' => e = .returned (.bool (decide (a = 0))) ∧ Below W.heap.size W w')
    (wh : Int) (a : Nat) (w : World) (ha : a < big) :
    Calls Try.prog 6 #[.int .i64 wh, .agg (nums a)] w fun e w' => e = .returned (.bool true) ∧ Below w.heap.size w w' := by
  have hA : Has (w.alloc (.cells (nums a) 24)) w.heap.size 24 (nums a) := Has.new w _ _
  have hb0 : Below w.heap.size w (w.alloc (.cells (nums a) 24)) := (Below.refl _ _).alloc (Nat.le_refl _) _
  have n0 := nums_ne 0
  go_enter Try.func6, Try.ntmps6
  go_wp2_with fail
  refine (fit3_any H _).mono ?_
  rintro e w1 ⟨rfl, hx⟩
  replace hA := hA.after hx
  replace hb0 := below_trans hb0 hx
  clear hx
  go_wp2_with fail
  obtain ⟨p, hp, cp⟩ := prime_any wh w1
  refine cp.mono ?_
  rintro e w2 ⟨rfl, hx⟩
  replace hA := hA.after hx
  replace hb0 := below_trans hb0 hx
  clear hx cp
  have hodd : p % 2 = 1 ∧ 3 ≤ p ∧ 1 < p := by rcases hp with rfl | rfl; exact primeP_odd; exact primeN_odd
  have hpb : p < big := by rcases hp with rfl | rfl; exact prime_lt.1; exact prime_lt.2
  have hf : ∀ a, a % p ≠ 0 → a ^ (p - 1) % p = 1 := by rcases hp with rfl | rfl; exact fermatP; exact fermatN
  clear hp
  obtain ⟨ho, h3, h1⟩ := hodd
  have p0 : 0 < p := by omega
  have rnew2 := fun W => H.new_ok p W ho h1 hpb
  obtain ⟨i, hi⟩ : ∃ i, i = a * RR % p := ⟨_, rfl⟩
  obtain ⟨y, hy⟩ : ∃ y, y = powN p i (p - 2) := ⟨_, rfl⟩
  obtain ⟨r, hr⟩ : ∃ r, r = RR % p := ⟨_, rfl⟩
  have li : i < p := by rw [hi]; exact Nat.mod_lt _ p0
  have ly : y < p := by rw [hy]; exact powN_lt p _ _ p0
  have kIN := fun g W (h : Is W g p) => H.in_ok W g p a h ha
  rw [← hi] at kIN
  have kINV := fun g W (h : Is W g p) => H.inv_ok W g p i h li
  rw [← hy] at kINV
  have kT := fun g W (h : Is W g p) => H.times_ok W g p i y h li ly
  have kINV2 := fun g W (h : Is W g p) => H.inv_ok W g p y h ly
  have kONE := fun g W (h : Is W g p) => H.one_ok W g p h
  rw [← hr] at kONE
  have zI := fun W => hZ i W (by omega)
  have zY := fun W => hZ y W (by omega)
  have hiz : i = 0 ↔ a % p = 0 := by rw [hi]; exact in_zero p a ho h1
  have hTR : ¬ i = 0 → redc p (i * y) = r ∧ powN p y (p - 2) = i := fun hne => by
    have hap : a % p ≠ 0 := fun h => hne (hiz.2 h)
    refine ⟨?_, ?_⟩
    · rw [hy, hi, hr]; exact inv_times p a ho h3 hf hap
    · rw [hy, hi]; exact inv_inv p a ho h3 hf hap
  have hYZ : i = 0 → y = 0 := fun h => by rw [hy, h]; exact pow_zero_in p ho h3
  have hp2 : p < big := hpb
  clear hi hy hr hiz hf hpb p0 h3 ha
  go_wp2_with fail
  refine (rnew2 _).mono ?_
  rintro e w3 ⟨⟨g, rfl, hI⟩, hx⟩
  replace hA := hA.after hx
  replace hb0 := below_trans hb0 hx
  clear hx rnew2
  go_wp2_with (refine wpList_load_has 24 _ rfl _ rfl rfl 24 _ hA _ Try.underlying24 rfl (infoNum _) ?_)
  refine (kIN g _ hI).mono ?_
  rintro e w4 ⟨rfl, hx⟩
  have hN := put_new w4 24 (nums 0) (nums i)
  replace hA := (hA.after hx).after hN.2
  replace hI := H.keep (H.keep hI hx) hN.2
  replace hb0 := below_trans (below_trans hb0 hx) hN.2
  have hX := hN.1
  clear hx hN kIN
  go_wp2_with (first | refine wpList_store_row rfl 24 _ _ rfl w4.heap.size _ rfl rfl 24 (nums 0) (Has.new' rfl) (infoNum _) (by simp only [nums_size]) (tab_oneCell _ _ fun _ => rfl) ?_ | refine wpList_load_has 24 _ rfl _ rfl rfl 24 _ hX _ Try.underlying24 rfl (infoNum _) ?_)
  refine (kINV g _ hI).mono ?_
  rintro e w5 ⟨rfl, hx⟩
  have hN := put_new w5 24 (nums 0) (nums y)
  replace hX := (hX.after hx).after hN.2
  replace hI := H.keep (H.keep hI hx) hN.2
  replace hb0 := below_trans (below_trans hb0 hx) hN.2
  have hY := hN.1
  clear hx hN kINV hA
  go_wp2_with (first | refine wpList_store_row rfl 24 _ _ rfl w5.heap.size _ rfl rfl 24 (nums 0) (Has.new' rfl) (infoNum _) (by simp only [nums_size]) (tab_oneCell _ _ fun _ => rfl) ?_ | refine wpList_load_has 24 _ rfl _ rfl rfl 24 _ hX _ Try.underlying24 rfl (infoNum _) ?_)
  refine (zI _).mono ?_
  rintro e w6 ⟨rfl, hx⟩
  replace hX := hX.after hx
  replace hY := hY.after hx
  replace hI := H.keep hI hx
  replace hb0 := below_trans hb0 hx
  clear hx zI
  by_cases hz : i = 0
  · have hd : decide (i = 0) = true := decide_eq_true hz
    have hy0 := hYZ hz
    rw [hd]
    have hdy : decide (y = 0) = true := decide_eq_true hy0
    rw [hdy] at zY
    clear hz hd hy0 hdy hTR hYZ kT kINV2 kONE hX
    go_wp2_with (refine wpList_load_has 24 _ rfl _ rfl rfl 24 _ hY _ Try.underlying24 rfl (infoNum _) ?_)
    refine (zY _).mono ?_
    rintro e w7 ⟨rfl, hx⟩
    have hfin := below_trans hb0 hx
    clear hx zY hY hI hb0
    go_wp2_with fail
    go_ret
    exact ⟨rfl, hfin⟩
  · have hd : decide (i = 0) = false := decide_eq_false hz
    obtain ⟨t1, t2⟩ := hTR hz
    rw [t1] at kT
    rw [t2] at kINV2
    rw [hd]
    clear hz hd t1 t2 hTR hYZ zY
    go_wp2_with fail

    refine region_quiet_tail (Below w6.heap.size w6) 14 (by kernel_rfl) (by kernel_rfl) (below_drewN (Below.refl _ _) 1) ?_
    simp only [List.take_succ_cons, List.take_zero, List.drop_succ_cons, List.drop_zero]
    refine wpQ_move _ rfl rfl (.pointer (some ⟨g, 0, none⟩)) rfl ?_
    simp only [Act.put, List.setIfInBounds_toArray, List.set_cons_zero, List.set_cons_succ]
    refine wpQ_has 24 _ rfl _ rfl rfl 24 _ (fun w' hC => hX.after hC) _ Try.underlying24 rfl (infoNum _) ?_
    simp only [Act.put, List.setIfInBounds_toArray, List.set_cons_zero, List.set_cons_succ]
    refine wpQ_has 24 _ rfl _ rfl rfl 24 _ (fun w' hC => hY.after hC) _ Try.underlying24 rfl (infoNum _) ?_
    simp only [Act.put, List.setIfInBounds_toArray, List.set_cons_zero, List.set_cons_succ]
    refine wpQ_fn 25 _ _ rfl rfl #[.pointer (some ⟨g, 0, none⟩), .agg (nums i), .agg (nums y)] rfl (fun _ => by go_simp) (.agg (nums r)) (fun w' hC => (kT g w' (H.keep hI hC)).mono fun e w'' ⟨he, hb⟩ => ⟨he, below_class hC hb⟩) ?_
    simp only [Act.put, List.setIfInBounds_toArray, List.set_cons_zero, List.set_cons_succ]
    refine wpQ_move _ rfl rfl (.pointer (some ⟨g, 0, none⟩)) rfl ?_
    simp only [Act.put, List.setIfInBounds_toArray, List.set_cons_zero, List.set_cons_succ]
    refine wpQ_fn 26 _ _ rfl rfl #[.pointer (some ⟨g, 0, none⟩)] rfl (fun _ => by go_simp) (.agg (nums r)) (fun w' hC => (kONE g w' (H.keep hI hC)).mono fun e w'' ⟨he, hb⟩ => ⟨he, below_class hC hb⟩) ?_
    simp only [Act.put, List.setIfInBounds_toArray, List.set_cons_zero, List.set_cons_succ]
    refine wpQ_bin _ _ _ _ _ rfl rfl (.agg (nums r)) (.agg (nums r)) rfl rfl (.bool true) (fun w' _ => numEq _ _ _ w') ?_
    simp only [Act.put, List.setIfInBounds_toArray, List.set_cons_zero, List.set_cons_succ]
    refine wpQ_move _ rfl rfl (.bool true) rfl ?_
    simp only [Act.put, List.setIfInBounds_toArray, List.set_cons_zero, List.set_cons_succ]
    refine wpQ_move _ rfl rfl (.pointer (some ⟨g, 0, none⟩)) rfl ?_
    simp only [Act.put, List.setIfInBounds_toArray, List.set_cons_zero, List.set_cons_succ]
    refine wpQ_has 24 _ rfl _ rfl rfl 24 _ (fun w' hC => hY.after hC) _ Try.underlying24 rfl (infoNum _) ?_
    simp only [Act.put, List.setIfInBounds_toArray, List.set_cons_zero, List.set_cons_succ]
    refine wpQ_fn 30 _ _ rfl rfl #[.pointer (some ⟨g, 0, none⟩), .agg (nums y)] rfl (fun _ => by go_simp) (.agg (nums i)) (fun w' hC => (kINV2 g w' (H.keep hI hC)).mono fun e w'' ⟨he, hb⟩ => ⟨he, below_class hC hb⟩) ?_
    simp only [Act.put, List.setIfInBounds_toArray, List.set_cons_zero, List.set_cons_succ]
    refine wpQ_has 24 _ rfl _ rfl rfl 24 _ (fun w' hC => hX.after hC) _ Try.underlying24 rfl (infoNum _) ?_
    simp only [Act.put, List.setIfInBounds_toArray, List.set_cons_zero, List.set_cons_succ]
    refine wpQ_bin _ _ _ _ _ rfl rfl (.agg (nums i)) (.agg (nums i)) rfl rfl (.bool true) (fun w' _ => numEq _ _ _ w') ?_
    simp only [Act.put, List.setIfInBounds_toArray, List.set_cons_zero, List.set_cons_succ]
    refine wpQ_pick _ _ _ rfl rfl true rfl (.bool true) rfl ?_
    simp only [Act.put, List.setIfInBounds_toArray, List.set_cons_zero, List.set_cons_succ]
    refine wpQuiet_nil ?_

    intro w10 hC
    have hfin := below_trans hb0 hC
    clear hC hX hY hI kT kINV2 kONE
    go_wp2_with fail
    go_ret
    exact ⟨rfl, hfin⟩
end Go.Proofs.Ytodialbopochdaa
