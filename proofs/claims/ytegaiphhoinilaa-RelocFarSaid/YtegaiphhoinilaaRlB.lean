/-
Layer 13: RelocFar.
-/
import Derived.Test.YtegaiphhoinilaaRlA
namespace Go.Proofs.Ytegaiphhoinilaa.Rc
open Go Go.RowKit

theorem three_mem (w : World) (a b c : Array Value) (ta tb tc : TypeId) : ∃ u, u = ((w.alloc (.cells a ta)).alloc (.cells b tb)).alloc (.cells c tc) ∧ Has u w.heap.size ta a ∧ Has u (w.heap.size + 1) tb b ∧ Has u (w.heap.size + 1 + 1) tc c ∧ Below w.heap.size w u := by
  have s1 : (w.alloc (.cells a ta)).heap.size = w.heap.size + 1 := Array.size_push _
  have s2 : ((w.alloc (.cells a ta)).alloc (.cells b tb)).heap.size = w.heap.size + 1 + 1 := by rw [← s1]; exact Array.size_push _
  have b0 : Below w.heap.size w (w.alloc (.cells a ta)) := (Below.refl _ _).alloc (Nat.le_refl _) _
  have b1 : Below (w.alloc (.cells a ta)).heap.size (w.alloc (.cells a ta)) ((w.alloc (.cells a ta)).alloc (.cells b tb)) := (Below.refl _ _).alloc (Nat.le_refl _) _
  have b2 : Below ((w.alloc (.cells a ta)).alloc (.cells b tb)).heap.size ((w.alloc (.cells a ta)).alloc (.cells b tb)) (((w.alloc (.cells a ta)).alloc (.cells b tb)).alloc (.cells c tc)) := (Below.refl _ _).alloc (Nat.le_refl _) _
  have ha : Has (w.alloc (.cells a ta)) w.heap.size ta a := Has.new _ _ _
  have hb : Has ((w.alloc (.cells a ta)).alloc (.cells b tb)) (w.alloc (.cells a ta)).heap.size tb b := Has.new _ _ _
  have hc : Has (((w.alloc (.cells a ta)).alloc (.cells b tb)).alloc (.cells c tc)) ((w.alloc (.cells a ta)).alloc (.cells b tb)).heap.size tc c := Has.new _ _ _
  rw [s1] at hb
  rw [s2] at hc
  exact ⟨_, rfl, (ha.after b1).after b2, hb.after b2, hc, (b0.trans (b1.mono b0.size)).trans (b2.mono (b0.trans (b1.mono b0.size)).size)⟩
theorem nil_slC (w : World) (k : Nat) (f : Nat → Nat → Value) : SlC w nilS k f := ⟨⟨Nat.le_refl _, by decide⟩, fun h => absurd h (by decide)⟩
theorem nil_slN (w : World) : SlN w nilS [] := ⟨rfl, by simp, nil_slC w 1 _⟩
/-- one relocation at the beginning of RAM's second page, with a way x -/
theorem far_all (t : Int) (f : Fm) (most a x : Nat) (ht : (t = 16 ∧ f = .B ∧ most = 4096) ∨ (t = 17 ∧ f = .J ∧ most = 1048576)) (hx : x < 4294967296) (ha : a = (x + 2147487744) % 4294967296) :
    allP [] [⟨0, t, 0, a⟩] 2147487744 [(2147487744, 4)] mem0 [⟨0, t, 0, a⟩] = if wayB x most = true then (0, stM mem0 2147487744 4 (setN f (ldV mem0 2147487744 4) x 32)) else (14, mem0) := by
  have hat : atP 2147487744 ⟨0, t, 0, a⟩ = 2147487744 := rfl
  have hst : stB (atP 2147487744 ⟨0, t, 0, a⟩) 4 = true := by rw [hat]; decide
  have hsa : saP [] 2147487744 ⟨0, t, 0, a⟩ = a := by
    show (0 + a) % 4294967296 = a
    omega
  have hw : wayP [] 2147487744 ⟨0, t, 0, a⟩ = x := by
    unfold wayP
    rw [hsa, hat]
    omega
  have hm : mayP 2147487744 [(2147487744, 4)] ⟨0, t, 0, a⟩ = true := by
    rcases ht with ⟨rfl, _⟩ | ⟨rfl, _⟩ <;> (rw [mayP_eq _ _ _ _ _ _ (by unfold okT; decide)]; decide)
  have hv : valP [] [⟨0, t, 0, a⟩] 2147487744 ⟨0, t, 0, a⟩ = if wayB x most = true then .num f x else .bad 14 := by
    rcases ht with ⟨rfl, rfl, rfl⟩ | ⟨rfl, rfl, rfl⟩
    · rw [val_16, hw]
    · rw [val_17, hw]
  have h1 := one_val (ss := []) (rs := [⟨0, t, 0, a⟩]) (m := mem0) hm hst
  rw [hv, hat] at h1
  by_cases hb : wayB x most = true
  · rw [if_pos hb] at h1 ⊢
    have h2 : oneP [] [⟨0, t, 0, a⟩] 2147487744 [(2147487744, 4)] mem0 ⟨0, t, 0, a⟩ = (0, stM mem0 2147487744 4 (setN f (ldV mem0 2147487744 4) x 32)) := by
      rw [h1]
      rcases ht with ⟨rfl, rfl, rfl⟩ | ⟨rfl, rfl, rfl⟩ <;> rfl
    rw [all_go h2]
    rfl
  · rw [if_neg hb] at h1 ⊢
    exact all_bad h1 (by show (14 : Int) ≠ 0; decide)
theorem wf_any (p : Nat) (t s : Int) (a : Nat) (hp : p < 4294967296) (ht : -9223372036854775808 ≤ t ∧ t ≤ 9223372036854775807) (hs : -9223372036854775808 ≤ s ∧ s ≤ 9223372036854775807) (ha : a < 4294967296) : Re.Wf ⟨p, t, s, a⟩ := ⟨hp, ht, hs, ha⟩
theorem keep_one (_w u : World) (g n : Nat) (p : Nat) (t s : Int) (a : Nat) (hr : Re.Wf ⟨p, t, s, a⟩) (hA : Has u n 43 #[.int .u32 (p : Int), .int .i64 t, .int .i64 s, .int .u32 (a : Int)]) (k : Nat) (hC : Has u k 54 #[.int .u32 2147487744, .int .u32 4, .int .i64 0]) (hn : n ≠ g) (hk : k ≠ g) :
    KeepG u g [] [⟨p, t, s, a⟩] [(2147487744, 4)] nilS ⟨some ⟨n, 0, none⟩, 1, 1⟩ ⟨some ⟨k, 0, none⟩, 1, 1⟩ := by
  intro w' hg
  refine ⟨nil_slN w', ⟨rfl, ?_, has_slC (has_by hA hg hn) (by decide) ?_⟩, ⟨rfl, by decide, has_slC (has_by hC hg hk) (by decide) ?_⟩⟩
  · intro y hy
    obtain rfl : y = ⟨p, t, s, a⟩ := by simpa using hy
    exact hr
  · intro j i hj hi
    obtain rfl : j = 0 := by omega
    rcases (show i = 0 ∨ i = 1 ∨ i = 2 ∨ i = 3 by omega) with rfl | rfl | rfl | rfl <;> rfl
  · intro j i hj hi
    obtain rfl : j = 0 := by omega
    rcases (show i = 0 ∨ i = 1 ∨ i = 2 by omega) with rfl | rfl | rfl <;> rfl
theorem sg_back (z : Int) (x : Nat) (h1 : -2147483648 ≤ z) (h2 : z < 2147483648) (hx : z % 4294967296 = (x : Int)) : sgP x = z := by unfold sgP; split <;> omega
set_option maxRecDepth 100000 in
set_option maxHeartbeats 4000000 in
theorem far13_ok (H : RelocOK) (K : FitK) (z : Int) (long : Bool) (w : World) (h1 : -2147483648 ≤ z) (h2 : z < 2147483648) :
    Calls Try.prog 6 #[.int .i32 z, .bool long] w fun e w' => e = .returned (.bool true) ∧ Below w.heap.size w w' := by
  have kF := K w
  have kN := fun W => pnew_any W
  obtain ⟨x, hx⟩ : ∃ x : Nat, x = (z % 4294967296).toNat := ⟨_, rfl⟩
  have hxz : z % 4294967296 = (x : Int) := by omega
  have hxl : x < 4294967296 := by omega
  obtain ⟨a, ha⟩ : ∃ a : Nat, a = (x + 2147487744) % 4294967296 := ⟨_, rfl⟩
  have hax : ((x : Int) + 2147487744) % 4294967296 = (a : Int) := by omega
  have hsg := sg_back z x h1 h2 hxz
  have hal0 : a < 4294967296 := by omega
  have HA := Lib.hid ha
  have HX := Lib.hid hx
  have HSG := Lib.hid hsg
  clear ha hx hsg
  cases long with
  | true =>
    have hal := far_all 17 .J 1048576 a x (by decide) hxl HA.out
    obtain ⟨q, hq⟩ : ∃ q, q = allP [] [⟨0, 17, 0, a⟩] 2147487744 [(2147487744, 4)] mem0 [⟨0, 17, 0, a⟩] := ⟨_, rfl⟩
    rw [← hq] at hal
    obtain ⟨er, M⟩ := q
    have HAL := Lib.hid hal
    have HW := Lib.hid (wayB_iff x 1048576 hxl (by decide))
    have HQ := Lib.hid hq
    clear hal hq
    go_enter Try.func6, Try.ntmps6
    go_upto_region 4 with (first
      | (go_at_call 8; with_reducible refine kF.mono ?_; rintro e w1 ⟨rfl, hb1⟩)
      | (go_at_call 18; with_reducible refine (kN _).mono ?_; rintro e w2 ⟨⟨g, rfl, hG, hgw⟩, hb2⟩))
    clear kF kN
    go_wp2_with fail
    obtain ⟨u, hu, hRa, hFi, hSp, hb3⟩ := three_mem w2 #[.int .u32 0, .int .i64 17, .int .i64 0, .int .u32 (a : Int)] #[.int .u32 0, .slice none 0 0, .slice (some ⟨w2.heap.size, 0, none⟩) 1 1, .slice none 0 0] #[.int .u32 2147487744, .int .u32 4, .int .i64 0] 43 36 54
    rw [← hu]
    have hgl := hG.lt
    have kA := H.apply [] [⟨0, 17, 0, a⟩] [(2147487744, 4)] 2147487744 0 g mem0 nilS ⟨some ⟨w2.heap.size, 0, none⟩, 1, 1⟩ nilS ⟨some ⟨w2.heap.size + 1 + 1, 0, none⟩, 1, 1⟩ u (keep_one u u g _ 0 17 0 a (wf_any 0 17 0 a (by decide) (by decide) (by decide) hal0) hRa _ hSp (by omega) (by omega)) (by unfold inRam; decide) (by decide) (show 1 ≤ 10000 by decide) (hG.after hb3)
    rw [← HQ.out] at kA
    dsimp only at kA
    have HB0 := Lib.hid (hb1.trans ((hb2.trans (hb3.mono hb2.size)).mono hb1.size))
    have HGW : Hid (w.heap.size ≤ g) := Lib.hid (Nat.le_trans hb1.size hgw)
    refine kA.mono ?_
    clear kA hu hRa hFi hSp hb1 hb2 hb3 hG hgw HQ
    rintro e w3 ⟨rfl, hG3, hg3⟩
    have HB3 := Lib.hid (below_only HB0.out hg3 HGW.out HB0.out.size)
    clear hg3
    have kL := mload_any M g 2147487744 4 w3 hG3 (by decide)
    rw [show stB 2147487744 4 = true by decide, show erI true = 0 from rfl] at kL
    simp only [Int.cast_ofNat_Int] at kL
    dsimp only
    by_cases hway : wayB x 1048576 = true
    · have hh := HW.out.1 hway
      rw [HSG.out] at hh
      obtain ⟨t1, t2, t3⟩ := hh
      have d1 : (z.tmod 2 == 0) = true := by simp only [beq_iff_eq]; rw [Int.tmod_eq_emod]; split <;> omega
      have d2 : (z % 2 == 0) = true := by simp only [beq_iff_eq]; exact t1
      have hal := HAL.out
      rw [if_pos hway] at hal
      obtain ⟨e1, e2⟩ := Prod.mk.inj hal
      subst e1
      have hyl := setN_lt .J (ldV mem0 2147487744 4) x (ldV_lt _ _) 32 (by decide)
      have hy : ldV M 2147487744 4 = setN .J (ldV mem0 2147487744 4) x 32 := by
        rw [e2]
        exact ld_st mem0 2147487744 _ (by decide) hyl
      have him := way_J (ldV mem0 2147487744 4) x hxl hway
      rw [HSG.out] at him
      rw [hy] at kL
      generalize setN .J (ldV mem0 2147487744 4) x 32 = y at *
      have kI := fun W => imm_any .J y W hyl
      rw [him, show fmS .J = ⟨#[74]⟩ from rfl] at kI
      replace t2 : -1048576 ≤ z := t2
      replace t3 : z < 1048576 := t3
      clear hal e2 hy him t1 hway HAL HW
      go_wp2_with (first
        | (go_at_call 15; with_reducible refine kL.mono ?_; rintro e w4 ⟨rfl, hb4⟩)
        | (go_at_call 16; with_reducible refine (kI _).mono ?_; rintro e w5 ⟨rfl, nq, rfl⟩))
      go_ret
      exact ⟨rfl, below_drewN (HB3.out.trans (hb4.mono HB3.out.size)) nq⟩
    · have hno := fun h => hway (HW.out.2 h)
      rw [HSG.out] at hno
      have hal := HAL.out
      rw [if_neg hway] at hal
      obtain ⟨e1, e2⟩ := Prod.mk.inj hal
      subst e1
      have hy : ldV M 2147487744 4 = 0 := by rw [e2]; decide +kernel
      rw [hy] at kL
      replace hno : ¬(z % 2 = 0 ∧ -1048576 ≤ z ∧ z < 1048576) := hno
      clear hal e2 hy hway HAL HW
      by_cases t1 : z % 2 = 0
      · have d1 : (z.tmod 2 == 0) = true := by simp only [beq_iff_eq]; rw [Int.tmod_eq_emod]; split <;> omega
        have d2 : (z % 2 == 0) = true := by simp only [beq_iff_eq]; exact t1
        by_cases t2 : -1048576 ≤ z
        · have t3 : ¬ z < 1048576 := fun h => hno ⟨t1, t2, h⟩
          clear hno t1
          go_wp2_with (go_at_call 15; with_reducible refine kL.mono ?_; rintro e w4 ⟨rfl, hb4⟩)
          go_ret
          exact ⟨rfl, HB3.out.trans (hb4.mono HB3.out.size)⟩
        · clear hno t1
          go_wp2_with (go_at_call 15; with_reducible refine kL.mono ?_; rintro e w4 ⟨rfl, hb4⟩)
          go_ret
          exact ⟨rfl, HB3.out.trans (hb4.mono HB3.out.size)⟩
      · have d1 : (z.tmod 2 == 0) = false := by simp only [beq_eq_false_iff_ne, ne_eq]; rw [Int.tmod_eq_emod]; split <;> omega
        have d2 : (z % 2 == 0) = false := by simp only [beq_eq_false_iff_ne, ne_eq]; exact t1
        clear hno t1
        go_wp2_with (go_at_call 15; with_reducible refine kL.mono ?_; rintro e w4 ⟨rfl, hb4⟩)
        go_ret
        exact ⟨rfl, HB3.out.trans (hb4.mono HB3.out.size)⟩
  | false =>
    have hal := far_all 16 .B 4096 a x (by decide) hxl HA.out
    obtain ⟨q, hq⟩ : ∃ q, q = allP [] [⟨0, 16, 0, a⟩] 2147487744 [(2147487744, 4)] mem0 [⟨0, 16, 0, a⟩] := ⟨_, rfl⟩
    rw [← hq] at hal
    obtain ⟨er, M⟩ := q
    have HAL := Lib.hid hal
    have HW := Lib.hid (wayB_iff x 4096 hxl (by decide))
    have HQ := Lib.hid hq
    clear hal hq
    go_enter Try.func6, Try.ntmps6
    go_upto_region 4 with (first
      | (go_at_call 8; with_reducible refine kF.mono ?_; rintro e w1 ⟨rfl, hb1⟩)
      | (go_at_call 18; with_reducible refine (kN _).mono ?_; rintro e w2 ⟨⟨g, rfl, hG, hgw⟩, hb2⟩))
    clear kF kN
    go_wp2_with fail
    obtain ⟨u, hu, hRa, hFi, hSp, hb3⟩ := three_mem w2 #[.int .u32 0, .int .i64 16, .int .i64 0, .int .u32 (a : Int)] #[.int .u32 0, .slice none 0 0, .slice (some ⟨w2.heap.size, 0, none⟩) 1 1, .slice none 0 0] #[.int .u32 2147487744, .int .u32 4, .int .i64 0] 43 36 54
    rw [← hu]
    have hgl := hG.lt
    have kA := H.apply [] [⟨0, 16, 0, a⟩] [(2147487744, 4)] 2147487744 0 g mem0 nilS ⟨some ⟨w2.heap.size, 0, none⟩, 1, 1⟩ nilS ⟨some ⟨w2.heap.size + 1 + 1, 0, none⟩, 1, 1⟩ u (keep_one u u g _ 0 16 0 a (wf_any 0 16 0 a (by decide) (by decide) (by decide) hal0) hRa _ hSp (by omega) (by omega)) (by unfold inRam; decide) (by decide) (show 1 ≤ 10000 by decide) (hG.after hb3)
    rw [← HQ.out] at kA
    dsimp only at kA
    have HB0 := Lib.hid (hb1.trans ((hb2.trans (hb3.mono hb2.size)).mono hb1.size))
    have HGW : Hid (w.heap.size ≤ g) := Lib.hid (Nat.le_trans hb1.size hgw)
    refine kA.mono ?_
    clear kA hu hRa hFi hSp hb1 hb2 hb3 hG hgw HQ
    rintro e w3 ⟨rfl, hG3, hg3⟩
    have HB3 := Lib.hid (below_only HB0.out hg3 HGW.out HB0.out.size)
    clear hg3
    have kL := mload_any M g 2147487744 4 w3 hG3 (by decide)
    rw [show stB 2147487744 4 = true by decide, show erI true = 0 from rfl] at kL
    simp only [Int.cast_ofNat_Int] at kL
    dsimp only
    by_cases hway : wayB x 4096 = true
    · have hh := HW.out.1 hway
      rw [HSG.out] at hh
      obtain ⟨t1, t2, t3⟩ := hh
      have d1 : (z.tmod 2 == 0) = true := by simp only [beq_iff_eq]; rw [Int.tmod_eq_emod]; split <;> omega
      have d2 : (z % 2 == 0) = true := by simp only [beq_iff_eq]; exact t1
      have hal := HAL.out
      rw [if_pos hway] at hal
      obtain ⟨e1, e2⟩ := Prod.mk.inj hal
      subst e1
      have hyl := setN_lt .B (ldV mem0 2147487744 4) x (ldV_lt _ _) 32 (by decide)
      have hy : ldV M 2147487744 4 = setN .B (ldV mem0 2147487744 4) x 32 := by
        rw [e2]
        exact ld_st mem0 2147487744 _ (by decide) hyl
      have him := way_B (ldV mem0 2147487744 4) x hxl hway
      rw [HSG.out] at him
      rw [hy] at kL
      generalize setN .B (ldV mem0 2147487744 4) x 32 = y at *
      have kI := fun W => imm_any .B y W hyl
      rw [him, show fmS .B = ⟨#[66]⟩ from rfl] at kI
      replace t2 : -4096 ≤ z := t2
      replace t3 : z < 4096 := t3
      clear hal e2 hy him t1 hway HAL HW
      go_wp2_with (first
        | (go_at_call 15; with_reducible refine kL.mono ?_; rintro e w4 ⟨rfl, hb4⟩)
        | (go_at_call 16; with_reducible refine (kI _).mono ?_; rintro e w5 ⟨rfl, nq, rfl⟩))
      go_ret
      exact ⟨rfl, below_drewN (HB3.out.trans (hb4.mono HB3.out.size)) nq⟩
    · have hno := fun h => hway (HW.out.2 h)
      rw [HSG.out] at hno
      have hal := HAL.out
      rw [if_neg hway] at hal
      obtain ⟨e1, e2⟩ := Prod.mk.inj hal
      subst e1
      have hy : ldV M 2147487744 4 = 0 := by rw [e2]; decide +kernel
      rw [hy] at kL
      replace hno : ¬(z % 2 = 0 ∧ -4096 ≤ z ∧ z < 4096) := hno
      clear hal e2 hy hway HAL HW
      by_cases t1 : z % 2 = 0
      · have d1 : (z.tmod 2 == 0) = true := by simp only [beq_iff_eq]; rw [Int.tmod_eq_emod]; split <;> omega
        have d2 : (z % 2 == 0) = true := by simp only [beq_iff_eq]; exact t1
        by_cases t2 : -4096 ≤ z
        · have t3 : ¬ z < 4096 := fun h => hno ⟨t1, t2, h⟩
          clear hno t1
          go_wp2_with (go_at_call 15; with_reducible refine kL.mono ?_; rintro e w4 ⟨rfl, hb4⟩)
          go_ret
          exact ⟨rfl, HB3.out.trans (hb4.mono HB3.out.size)⟩
        · clear hno t1
          go_wp2_with (go_at_call 15; with_reducible refine kL.mono ?_; rintro e w4 ⟨rfl, hb4⟩)
          go_ret
          exact ⟨rfl, HB3.out.trans (hb4.mono HB3.out.size)⟩
      · have d1 : (z.tmod 2 == 0) = false := by simp only [beq_eq_false_iff_ne, ne_eq]; rw [Int.tmod_eq_emod]; split <;> omega
        have d2 : (z % 2 == 0) = false := by simp only [beq_eq_false_iff_ne, ne_eq]; exact t1
        clear hno t1
        go_wp2_with (go_at_call 15; with_reducible refine kL.mono ?_; rintro e w4 ⟨rfl, hb4⟩)
        go_ret
        exact ⟨rfl, HB3.out.trans (hb4.mono HB3.out.size)⟩
end Go.Proofs.Ytegaiphhoinilaa.Rc
