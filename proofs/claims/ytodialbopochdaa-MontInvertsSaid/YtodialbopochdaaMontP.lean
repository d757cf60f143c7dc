/-
MontPowers: powers are the document's: the walk, over what package mont's calls do.
-/
import Derived.Test.YtodialbopochdaaMontI
namespace Go.Proofs.Ytodialbopochdaa
open Go.RowKit

theorem nwE (e : Nat) (he : e < 4294967296) : (nums 0).setIfInBounds 0 (Value.int IntKind.u32 (e : Int)) = nums e := by
  unfold nums
  rw [tab_set]
  apply tab_ext
  intro j hj
  unfold dgs
  by_cases h : j = 0
  · subst h
    rw [if_pos rfl]
    congr 2
    unfold dg
    rw [Nat.pow_zero, Nat.div_one, Nat.mod_eq_of_lt he]
  · rw [if_neg h, dg_zero, dg_top (n := 1) (by decide) (by rw [Nat.pow_one]; exact he) (by omega)]
/-- one step of the power by squares -/
theorem pow_step (m a e k : Nat) : (if e / 2 ^ k % 2 = 1 then ((a ^ (e / 2 ^ (k + 1)) % m) * (a ^ (e / 2 ^ (k + 1)) % m) % m) * (a % m) % m else (a ^ (e / 2 ^ (k + 1)) % m) * (a ^ (e / 2 ^ (k + 1)) % m) % m) = a ^ (e / 2 ^ k) % m := by
  have h : e / 2 ^ k = 2 * (e / 2 ^ (k + 1)) + e / 2 ^ k % 2 := by
    rw [Nat.pow_succ, ← Nat.div_div_eq_div_mul]
    exact (Nat.div_add_mod _ _).symm
  have hsq : (a ^ (e / 2 ^ (k + 1)) % m) * (a ^ (e / 2 ^ (k + 1)) % m) % m = a ^ (2 * (e / 2 ^ (k + 1))) % m := by
    rw [mul_mod3, ← Nat.pow_add]; congr 2; omega
  rw [hsq]
  by_cases c : e / 2 ^ k % 2 = 1
  · rw [if_pos c, mul_mod3, ← Nat.pow_succ]
    congr 2; omega
  · rw [if_neg c]
    congr 2; omega
attribute [local go_sem] zeroNum zero16 one16
set_option maxRecDepth 100000 in
set_option maxHeartbeats 2000000 in
theorem powers_ok {Is : World → Nat → Nat → Prop} (H : MontOK Is) (m a e : Nat) (w : World) (hm : m < big) (ha : a < big) (he : e < 4294967296) (hodd : m % 2 = 1) (h1 : 1 < m) :
    Calls Try.prog 5 #[.agg (nums m), .agg (nums a), .int .u32 (e : Int)] w fun x w' => x = .returned (.bool true) ∧ Below w.heap.size w w' := by
  have hm16 : m < 65536 ^ 16 := by rw [← big_hex]; exact hm
  have ha16 : a < 65536 ^ 16 := by rw [← big_hex]; exact ha
  have hbig : (4294967296 : Nat) < big := by decide +kernel
  have m0 : 0 < m := by omega
  have n0 := d16_ne 0
  have n1 := nums_ne 0
  have hne := nwE e he
  obtain ⟨inn, hin⟩ : ∃ inn, inn = a * RR % m := ⟨_, rfl⟩
  obtain ⟨am, ham⟩ : ∃ am, am = a % m := ⟨_, rfl⟩
  obtain ⟨q, hq⟩ : ∃ q, q = powN m inn e := ⟨_, rfl⟩
  obtain ⟨z, hz⟩ : ∃ z, z = a ^ e % m := ⟨_, rfl⟩
  have lin : inn < m := by rw [hin]; exact Nat.mod_lt _ m0
  have lam : am < m := by rw [ham]; exact Nat.mod_lt _ m0
  have lq : q < m := by rw [hq]; exact powN_lt m _ _ m0
  have lz : z < m := by rw [hz]; exact Nat.mod_lt _ m0
  have cONE := fun W => reduce3_any 1 m W (by decide +kernel) m0 hm16
  have cRED := fun W => reduce3_any a m W ha16 m0 hm16
  rw [← ham] at cRED
  have cMUL := fun x y W (hx : x < m) (hy : y < m) => mul3_any x y m W (by omega) (by omega) m0 hm16
  have kIN := fun g W (h : Is W g m) => H.in_ok W g m a h ha
  rw [← hin] at kIN
  have kPOW := fun g W (h : Is W g m) => H.pow_ok W g m inn e h lin (by omega)
  rw [← hq] at kPOW
  have kOUT := fun g W (h : Is W g m) => H.out_ok W g m q h lq
  have eOUT : redc m q = z := by rw [hq, hin, hz]; exact pow_in m a e hodd
  rw [eOUT] at kOUT
  have kL := fun W => like_any z W (by omega)
  have hst : a ^ (e / 2 ^ 32) % m = 1 % m := by rw [Nat.div_eq_of_lt (by exact he), Nat.pow_zero]
  have hen : a ^ (e / 2 ^ 0) % m = z := by rw [Nat.pow_zero, Nat.div_one, hz]
  have hps := pow_step m a e
  have hlm := fun x => Nat.mod_lt x m0
  rw [← ham] at hps
  have HST := Lib.hid hst
  have HEN := Lib.hid hen
  have HPS := Lib.hid hps
  have HLM := Lib.hid hlm
  have HAM := Lib.hid lam
  have rnew2 := fun W => H.new_ok m W hodd h1 hm
  have he2 : (e : Int) < 4294967296 := by omega
  clear hm16 ha16 hbig hin ham hq hz lin lam lq lz eOUT hst hen hps hlm m0 he
  have hM : Has ((w.alloc (.cells (nums m) 24)).alloc (.cells (nums a) 24)) w.heap.size 24 (nums m) := (Has.new w _ _).alloc _
  have hA : Has ((w.alloc (.cells (nums m) 24)).alloc (.cells (nums a) 24)) (w.heap.size + 1) 24 (nums a) := Has.new' (by simp)
  have hb0 : Below w.heap.size w ((w.alloc (.cells (nums m) 24)).alloc (.cells (nums a) 24)) := ((Below.refl _ _).alloc (Nat.le_refl _) _).alloc (by simp) _
  go_enter Try.func5, Try.ntmps5
  go_wp2_with fail
  refine (fit3_any H _).mono ?_
  rintro x w1 ⟨rfl, hx⟩
  replace hM := hM.after hx
  replace hA := hA.after hx
  replace hb0 := below_trans hb0 hx
  clear hx
  go_wp2_with (refine wpList_load_has 24 _ rfl _ rfl rfl 24 _ hM _ Try.underlying24 rfl (infoNum _) ?_)
  refine (rnew2 _).mono ?_
  rintro x w2 ⟨⟨g, rfl, hI⟩, hx⟩
  replace hM := hM.after hx
  replace hA := hA.after hx
  replace hb0 := below_trans hb0 hx
  clear hx rnew2
  have hN := put_new w2 24 (nums 0) (nums e)
  replace hM := hM.after hN.2
  replace hA := hA.after hN.2
  replace hI := H.keep hI hN.2
  replace hb0 := below_trans hb0 hN.2
  have hE := hN.1
  clear hN
  go_wp2_with (first | refine wpList_store_row rfl 24 _ _ rfl w2.heap.size _ rfl rfl 24 (nums 0) (Has.new' rfl) (infoNum _) (by simp only [nums_size]) (tab_oneCell _ _ fun _ => rfl) ?_ | refine wpList_load_has 24 _ rfl _ rfl rfl 24 _ hM _ Try.underlying24 rfl (infoNum _) ?_)
  refine (of3_any m _).mono ?_
  rintro x w3 ⟨rfl, hx⟩
  have hN := put_new w3 34 (d16 0) (d16 m)
  replace hM := (hM.after hx).after hN.2
  replace hA := (hA.after hx).after hN.2
  replace hE := (hE.after hx).after hN.2
  replace hI := H.keep (H.keep hI hx) hN.2
  replace hb0 := below_trans (below_trans hb0 hx) hN.2
  have hKm := hN.1
  clear hx hN hM
  go_wp2_with (first | refine wpList_store_row rfl 34 _ _ rfl w3.heap.size _ rfl rfl 34 (d16 0) (Has.new' rfl) (info16 _) (by simp only [d16_size]) (tab_oneCell _ _ fun _ => rfl) ?_ | refine wpList_load_has 34 _ rfl _ rfl rfl 34 _ hKm _ Try.underlying34 rfl (info16 _) ?_)
  refine (cONE _).mono ?_
  rintro x w4 ⟨rfl, hx⟩
  replace hA := hA.after hx
  replace hE := hE.after hx
  replace hKm := hKm.after hx
  replace hI := H.keep hI hx
  replace hb0 := below_trans hb0 hx
  clear hx cONE
  have hI0 := hI
  have hN := put_new w4 34 (d16 0) (d16 (1 % m))
  have lA := hA.lt
  have lE := hE.lt
  have lK := hKm.lt
  have l0 := hb0.size
  replace hA := hA.after hN.2
  replace hE := hE.after hN.2
  replace hKm := hKm.after hN.2
  have hbI := hN.2
  replace hb0 := below_trans hb0 hN.2
  have hX := hN.1
  clear hN hI
  go_wp2_with (refine wpList_store_row rfl 34 _ _ rfl w4.heap.size _ rfl rfl 34 (d16 0) (Has.new' rfl) (info16 _) (by simp only [d16_size]) (tab_oneCell _ _ fun _ => rfl) ?_)
  generalize hgw : w4.heap.size = gw at *
  generalize hW : Go.World.setRow _ _ _ = W5 at *
  clear hW

  refine region_facts 5 [] [.val (.agg (nums a)), .val (.agg (d16 a)), .val (.agg (d16 m)), .val (.agg (d16 am)), .new 34 (d16 0)]
    (by kernel_rfl) (by kernel_rfl) (fun _ _ _ _ _ h => h) ?_ ?_
  · simp only [List.take_succ_cons, List.take_zero, StepsOK]
    refine ⟨?_, ?_, ?_, ?_, ?_, trivial⟩
    · intro v w' hb hf K hKt
      simp only [putAll, Act.put, List.setIfInBounds_toArray, List.set_cons_zero, List.set_cons_succ, Nat.zero_add, Nat.reduceAdd] at hKt ⊢
      exact wp_load_row 24 _ rfl (w.heap.size + 1) rfl 24 _ (0, 0) _ (hA.after hb) Try.underlying24 rfl (infoNum _) (hKt _ (Below.refl _ _))
    · intro v w' hb hf K hKt
      have f0 : v 0 = _ := hf ⟨0, .data⟩ (by simp) rfl
      simp only [putAll, Act.put, List.setIfInBounds_toArray, List.set_cons_zero, List.set_cons_succ, Nat.zero_add, Nat.reduceAdd] at hKt ⊢
      rw [f0] at hKt ⊢
      go_simp
      refine (of3_any a w').mono ?_
      rintro e w'' ⟨rfl, hb2⟩
      exact hKt _ hb2
    · intro v w' hb hf K hKt
      simp only [putAll, Act.put, List.setIfInBounds_toArray, List.set_cons_zero, List.set_cons_succ, Nat.zero_add, Nat.reduceAdd] at hKt ⊢
      exact wp_load_row 34 _ rfl (w3.heap.size) rfl 34 _ (0, 0) _ (hKm.after hb) Try.underlying34 rfl (info16 _) (hKt _ (Below.refl _ _))
    · intro v w' hb hf K hKt
      have f1 : v 1 = _ := hf ⟨1, .data⟩ (by simp) rfl
      have f2 : v 2 = _ := hf ⟨2, .data⟩ (by simp) rfl
      simp only [putAll, Act.put, List.setIfInBounds_toArray, List.set_cons_zero, List.set_cons_succ, Nat.zero_add, Nat.reduceAdd] at hKt ⊢
      rw [f1, f2] at hKt ⊢
      go_simp
      refine (cRED w').mono ?_
      rintro e w'' ⟨rfl, hb2⟩
      exact hKt _ hb2
    · exact ⟨rfl, rfl, zeroV16⟩
  intro v W6 hb hF hD
  have f0 : v 0 = _ := hF 0 (by decide)
  have f1 : v 1 = _ := hF 1 (by decide)
  have f2 : v 2 = _ := hF 2 (by decide)
  have f3 : v 3 = _ := hF 3 (by decide)
  obtain ⟨gp, f4, hg4, hl4, hz4⟩ := hF 4 (by decide)
  replace hz4 : Has W6 gp 34 (d16 0) := hz4
  simp only [List.take_succ_cons, List.take_zero, List.drop_succ_cons, List.drop_zero, putAll, Act.put, List.setIfInBounds_toArray, List.set_cons_zero, List.set_cons_succ, Nat.zero_add, Nat.reduceAdd]
  rw [f0, f1, f2, f3, f4]
  clear hF hD f0 f1 f2 f3 f4
  have hs4 := hz4
  have hPge := hg4
  have hgwl := hX.lt
  have hBW := below_setRow (hb) (g := gp) hg4 (d16 am)
  have hP := (hz4).setRow (d16 am)
  replace hA := hA.after hBW
  replace hE := hE.after hBW
  replace hKm := hKm.after hBW
  replace hX := hX.after hBW
  replace hbI := hbI.trans (hBW.mono (by rw [← hgw]; exact hgw ▸ hbI.size))
  replace hb0 := below_trans hb0 hBW
  go_wp2_with (first | refine wpList_store_row rfl 34 _ _ rfl gp _ rfl rfl 34 (d16 0) hs4 (info16 _) rfl (tab_oneCell _ _ fun _ => rfl) ?_)
  clear hBW hb hs4 hz4 hg4 hl4

  generalize hW : Go.World.setRow _ _ _ = W7 at *
  clear hW cRED
  have lP : gp ≠ gw := by have := hPge; omega
  go_loopw [13] (fun ct wr => ∃ k : Nat, k ≤ 32 ∧ ct = .int .i64 ((k : Int) - 1) ∧ Has wr (w.heap.size + 1) 24 (nums a) ∧ Has wr w2.heap.size 24 (nums e) ∧ Has wr w3.heap.size 34 (d16 m) ∧
      Has wr gp 34 (d16 am) ∧ Has wr gw 34 (d16 (a ^ (e / 2 ^ k) % m)) ∧ Below gw w4 wr ∧ Below w.heap.size w wr) (fun ct _ => (intOf ct + 1).toNat)
  case atStart => exact ⟨32, by omega, rfl, hA, hE, hKm, hP, by rw [HST.out]; exact hX, hbI, hb0⟩
  case round =>
    clear hA hE hKm hP hX hbI hb0
    obtain ⟨k, hk, rfl, hA, hE, hKm, hP, hX, hbI, hb0⟩ := hrel
    by_cases hlt : 0 < k
    · obtain ⟨k, rfl⟩ : ∃ j, k = j + 1 := ⟨k - 1, by omega⟩
      have ek : ((k + 1 : Nat) : Int) - 1 = (k : Int) := by omega
      rw [ek]
      clear ek
      have hps := HPS.out k
      have hxl := HLM.out (a ^ (e / 2 ^ (k + 1)))
      generalize a ^ (e / 2 ^ (k + 1)) % m = x at *
      have cSQ := fun W => cMUL x x W hxl hxl
      have hyl := HLM.out (x * x)
      generalize x * x % m = y at *
      have cML := fun W => cMUL y am W hyl HAM.out
      clear hxl hyl
      have kl : (k : Int) < 32 := by omega
      go_wp2_with (first | refine wpList_load_has 34 _ rfl _ rfl rfl 34 _ hX _ Try.underlying34 rfl (info16 _) ?_ | refine wpList_load_has 34 _ rfl _ rfl rfl 34 _ hKm _ Try.underlying34 rfl (info16 _) ?_)
      refine (cSQ _).mono ?_
      rintro e2 v1 ⟨rfl, hx⟩
      have hszg := hbI.size
      replace hA := (hA.after hx).farRow (k := gw) (by omega) (d16 y)
      replace hE := (hE.after hx).farRow (k := gw) (by omega) (d16 y)
      replace hKm := (hKm.after hx).farRow (k := gw) (by omega) (d16 y)
      replace hP := (hP.after hx).farRow (k := gw) (by omega) (d16 y)
      have hX0 := hX.after hx
      replace hbI := below_setRow (hbI.trans (hx.mono (by omega))) (g := gw) (by omega) (d16 y)
      replace hb0 := below_setRow (below_trans hb0 hx) (g := gw) (by omega) (d16 y)
      have hX1 := hX0.setRow (d16 y)
      clear hx cSQ hX
      have hmin : min k 32 = k := Nat.min_eq_left (by omega)
      have hand : bits BinOp.and IntKind.u32 ((e : Int) / 2 ^ k) 1 = ((e / 2 ^ k % 2 : Nat) : Int) := by
        have h1 : (e : Int) / 2 ^ k = ((e / 2 ^ k : Nat) : Int) := by simp [Int.natCast_ediv, Int.natCast_pow]
        have hlt2 : e / 2 ^ k < 4294967296 := Nat.lt_of_le_of_lt (Nat.div_le_self _ _) (by omega)
        have h2 : (1 : Int) = ((1 : Nat) : Int) := rfl
        rw [h1, h2, u32_and_nat _ _ hlt2 (by decide), Nat.and_one_is_mod]
      by_cases hbit : e / 2 ^ k % 2 = 1
      · rw [if_pos hbit] at hps
        rw [hbit] at hand
        have HP2 := Lib.hid hps
        clear hps hbit
        go_wp2_with (first | refine wpList_store_row rfl 34 _ _ rfl gw _ rfl rfl 34 (d16 x) hX0 (info16 _) (by simp only [d16_size]) (tab_oneCell _ _ fun _ => rfl) ?_ | refine wpList_load_has 34 _ rfl _ rfl rfl 34 _ hX1 _ Try.underlying34 rfl (info16 _) ?_ | refine wpList_load_has 34 _ rfl _ rfl rfl 34 _ hP _ Try.underlying34 rfl (info16 _) ?_ | refine wpList_load_has 34 _ rfl _ rfl rfl 34 _ hKm _ Try.underlying34 rfl (info16 _) ?_)
        refine (cML _).mono ?_
        rintro e3 v2 ⟨rfl, hx⟩
        obtain ⟨nw, hnw⟩ : ∃ nw, nw = y * am % m := ⟨_, rfl⟩
        have HNW := Lib.hid hnw
        rw [← hnw]
        clear hnw cML
        replace hA := (hA.after hx).farRow (k := gw) (by omega) (d16 nw)
        replace hE := (hE.after hx).farRow (k := gw) (by omega) (d16 nw)
        replace hKm := (hKm.after hx).farRow (k := gw) (by omega) (d16 nw)
        replace hP := (hP.after hx).farRow (k := gw) (by omega) (d16 nw)
        have hX2 := hX1.after hx
        have hszg2 := hbI.size
        replace hbI := below_setRow (hbI.trans (hx.mono (by omega))) (g := gw) (by omega) (d16 nw)
        replace hb0 := below_setRow (below_trans hb0 hx) (g := gw) (by omega) (d16 nw)
        have hX3 := hX2.setRow (d16 nw)
        clear hx hX1
        go_wp2_with (refine wpList_store_row rfl 34 _ _ rfl gw _ rfl rfl 34 (d16 y) hX2 (info16 _) (by simp only [d16_size]) (tab_oneCell _ _ fun _ => rfl) ?_)
        go_roundw
        case rel => exact ⟨k, by omega, by go_num, hA, hE, hKm, hP, by rw [← HP2.out, ← HNW.out]; exact hX3, hbI, hb0⟩
        case measure => simp [intOf] <;> omega
      · rw [if_neg hbit] at hps
        have hb2 : e / 2 ^ k % 2 = 0 := by omega
        rw [hb2] at hand
        have HP2 := Lib.hid hps
        clear hps hbit hb2
        go_wp2_with (refine wpList_store_row rfl 34 _ _ rfl gw _ rfl rfl 34 (d16 x) hX0 (info16 _) (by simp only [d16_size]) (tab_oneCell _ _ fun _ => rfl) ?_)
        go_roundw
        case rel => exact ⟨k, by omega, by go_num, hA, hE, hKm, hP, by rw [← HP2.out]; exact hX1, hbI, hb0⟩
        case measure => simp [intOf] <;> omega
    · obtain rfl : k = 0 := by omega
      rw [HEN.out] at hX
      have hI : Is wr g m := H.keep hI0 (by rw [hgw]; exact hbI)
      clear hk hlt hKm hP hI0 HPS HLM HAM cMUL hbI
      go_wp2_with fail

      refine region_quiet_tail (Below wr.heap.size wr) 10 (by kernel_rfl) (by kernel_rfl) (below_drewN (Below.refl _ _) 1) ?_
      simp only [List.take_succ_cons, List.take_zero, List.drop_succ_cons, List.drop_zero]
      refine wpQ_move _ rfl rfl (.pointer (some ⟨g, 0, none⟩)) rfl ?_
      simp only [Act.put, List.setIfInBounds_toArray, List.set_cons_zero, List.set_cons_succ]
      refine wpQ_move _ rfl rfl (.pointer (some ⟨g, 0, none⟩)) rfl ?_
      simp only [Act.put, List.setIfInBounds_toArray, List.set_cons_zero, List.set_cons_succ]
      refine wpQ_move _ rfl rfl (.pointer (some ⟨g, 0, none⟩)) rfl ?_
      simp only [Act.put, List.setIfInBounds_toArray, List.set_cons_zero, List.set_cons_succ]
      refine wpQ_has 24 _ rfl _ rfl rfl 24 _ (fun w' hC => hA.after hC) _ Try.underlying24 rfl (infoNum _) ?_
      simp only [Act.put, List.setIfInBounds_toArray, List.set_cons_zero, List.set_cons_succ]
      refine wpQ_fn 23 _ _ rfl rfl #[.pointer (some ⟨g, 0, none⟩), .agg (nums a)] rfl (fun _ => by go_simp) (.agg (nums inn)) (fun w' hC => (kIN g w' (H.keep hI hC)).mono fun e w'' ⟨he, hb⟩ => ⟨he, below_class hC hb⟩) ?_
      simp only [Act.put, List.setIfInBounds_toArray, List.set_cons_zero, List.set_cons_succ]
      refine wpQ_has 24 _ rfl _ rfl rfl 24 _ (fun w' hC => hE.after hC) _ Try.underlying24 rfl (infoNum _) ?_
      simp only [Act.put, List.setIfInBounds_toArray, List.set_cons_zero, List.set_cons_succ]
      refine wpQ_fn 28 _ _ rfl rfl #[.pointer (some ⟨g, 0, none⟩), .agg (nums inn), .agg (nums e)] rfl (fun _ => by go_simp) (.agg (nums q)) (fun w' hC => (kPOW g w' (H.keep hI hC)).mono fun e w'' ⟨he, hb⟩ => ⟨he, below_class hC hb⟩) ?_
      simp only [Act.put, List.setIfInBounds_toArray, List.set_cons_zero, List.set_cons_succ]
      refine wpQ_fn 24 _ _ rfl rfl #[.pointer (some ⟨g, 0, none⟩), .agg (nums q)] rfl (fun _ => by go_simp) (.agg (nums z)) (fun w' hC => (kOUT g w' (H.keep hI hC)).mono fun e w'' ⟨he, hb⟩ => ⟨he, below_class hC hb⟩) ?_
      simp only [Act.put, List.setIfInBounds_toArray, List.set_cons_zero, List.set_cons_succ]
      refine wpQ_has 34 _ rfl _ rfl rfl 34 _ (fun w' hC => hX.after hC) _ Try.underlying34 rfl (info16 _) ?_
      simp only [Act.put, List.setIfInBounds_toArray, List.set_cons_zero, List.set_cons_succ]
      refine wpQ_fn 15 _ _ rfl rfl #[.agg (nums z), .agg (d16 z)] rfl (fun _ => by go_simp) (.bool true) (fun w' hC => (kL w').mono fun e w'' ⟨he, hb⟩ => ⟨he, below_class hC hb⟩) ?_
      simp only [Act.put, List.setIfInBounds_toArray, List.set_cons_zero, List.set_cons_succ]
      refine wpQuiet_nil ?_

      intro w10 hC
      have hfin := below_trans hb0 hC
      clear hC hA hE hX hI kIN kPOW kOUT kL
      go_wp2_with fail
      go_ret
      exact ⟨rfl, hfin⟩
end Go.Proofs.Ytodialbopochdaa
