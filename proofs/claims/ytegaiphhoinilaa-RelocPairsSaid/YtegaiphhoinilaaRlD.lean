/-
Layer 13: RelocPairs.
-/
import Derived.Test.YtegaiphhoinilaaRlC
namespace Go.Proofs.Ytegaiphhoinilaa.Rc
open Go Go.RowKit

theorem keep_two (u : World) (g n1 n2 n3 : Nat) (ss : List Nat) (r1 r2 : Re) (cs : Array Value) (h1 : r1.Wf) (h2 : r2.Wf) (hss : ∀ x ∈ ss, x < 4294967296) (hsl : ss.length ≤ 3) (hcs : ∀ j, j < ss.length → cs[j]? = some (.int .u32 ((ss.getD j 0 : Nat) : Int)))
    (hA : Has u n1 24 cs) (hB : Has u n2 43 #[.int .u32 (r1.p : Int), .int .i64 r1.t, .int .i64 r1.s, .int .u32 (r1.a : Int), .int .u32 (r2.p : Int), .int .i64 r2.t, .int .i64 r2.s, .int .u32 (r2.a : Int)]) (hC : Has u n3 54 #[.int .u32 2147487744, .int .u32 8, .int .i64 0]) (e1 : n1 ≠ g) (e2 : n2 ≠ g) (e3 : n3 ≠ g) :
    KeepG u g ss [r1, r2] [(2147487744, 8)] ⟨some ⟨n1, 0, none⟩, ss.length, ss.length⟩ ⟨some ⟨n2, 0, none⟩, 2, 2⟩ ⟨some ⟨n3, 0, none⟩, 1, 1⟩ := by
  intro w' hg
  refine ⟨⟨rfl, hss, has_slC (has_by hA hg e1) (by omega) ?_⟩, ⟨rfl, ?_, has_slC (has_by hB hg e2) (by decide) ?_⟩, ⟨rfl, by decide, has_slC (has_by hC hg e3) (by decide) ?_⟩⟩
  · intro j i hj hi
    obtain rfl : i = 0 := by omega
    rw [show j * 1 + 0 = j by omega]
    exact hcs j hj
  · intro y hy
    have : y = r1 ∨ y = r2 := by simpa using hy
    rcases this with rfl | rfl
    · exact h1
    · exact h2
  · intro j i hj hi
    rcases (show j = 0 ∨ j = 1 by omega) with rfl | rfl <;> rcases (show i = 0 ∨ i = 1 ∨ i = 2 ∨ i = 3 by omega) with rfl | rfl | rfl | rfl <;> rfl
  · intro j i hj hi
    obtain rfl : j = 0 := by omega
    rcases (show i = 0 ∨ i = 1 ∨ i = 2 by omega) with rfl | rfl | rfl <;> rfl
theorem cells_two (V : Nat) : ∀ j, j < [0, V].length → (#[.int .u32 0, .int .u32 (V : Int)] : Array Value)[j]? = some (.int .u32 (([0, V].getD j 0 : Nat) : Int)) := by
  intro j hj
  rcases (show j = 0 ∨ j = 1 by simp at hj; omega) with rfl | rfl <;> rfl
theorem cells_three (V : Nat) : ∀ j, j < [0, V, 0].length → (#[.int .u32 0, .int .u32 (V : Int), .int .u32 0] : Array Value)[j]? = some (.int .u32 (([0, V, 0].getD j 0 : Nat) : Int)) := by
  intro j hj
  rcases (show j = 0 ∨ j = 1 ∨ j = 2 by simp at hj; omega) with rfl | rfl | rfl <;> rfl
theorem imm_below (f : Fm) (y : Nat) (z : Int) (hy : y < 4294967296) (hz : immZ f y = z) (W : World) : Calls Try.prog 16 #[.string (fmS f), .int .i64 (y : Int)] W fun e w' => e = .returned (.int .i64 z) ∧ ∃ n, w' = W.drewN n := by
  rw [← hz]
  exact imm_any f y W hy
set_option maxRecDepth 100000 in
set_option maxHeartbeats 8000000 in
theorem pairs13_ok (H : RelocOK) (K : FitK) (V A w0 w1 : Nat) (w : World) (hV : V < 4294967296) (hA : A < 4294967296) (h0 : w0 < 4294967296) (hw : w1 < 4294967296) :
    Calls Try.prog 5 #[.int .u32 (V : Int), .int .u32 (A : Int), .agg #[.int .u32 (w0 : Int), .int .u32 (w1 : Int)]] w fun e w' => e = .returned (.bool true) ∧ Below w.heap.size w w' := by
  obtain ⟨u0, hu0, hX, hb0, hz0⟩ := one_new w #[.int .u32 (w0 : Int), .int .u32 (w1 : Int)] 50
  obtain ⟨b0, hbb⟩ : ∃ b, b = w.heap.size := ⟨_, rfl⟩
  rw [← hbb] at hX
  have kF := K u0
  have kN := fun W => pnew_any W
  -- the numbers
  obtain ⟨v, hv⟩ : ∃ v, v = (V + A) % 4294967296 := ⟨_, rfl⟩
  obtain ⟨t, ht⟩ : ∃ t, t = (2147487744 + V + A) % 4294967296 := ⟨_, rfl⟩
  have hvl : v < 4294967296 := by omega
  have htl : t < 4294967296 := by omega
  have hup := upP_le v
  have hut := upP_le t
  obtain ⟨y0, hy0⟩ : ∃ y, y = w0 % 4096 + upP v := ⟨_, rfl⟩
  obtain ⟨y1, hy1⟩ : ∃ y, y = setN .I w1 v 32 := ⟨_, rfl⟩
  have hy0l : y0 < 4294967296 := by omega
  have hy1l : y1 < 4294967296 := by rw [hy1]; exact setN_lt .I w1 v hw 32 (by decide)
  obtain ⟨y2, hy2⟩ : ∃ y, y = y0 % 4096 + upP t := ⟨_, rfl⟩
  obtain ⟨y3, hy3⟩ : ∃ y, y = setN .S y1 t 32 := ⟨_, rfl⟩
  have hy2l : y2 < 4294967296 := by omega
  have hy3l : y3 < 4294967296 := by rw [hy3]; exact setN_lt .S y1 t hy1l 32 (by decide)
  obtain ⟨M0, hM0⟩ : ∃ M, M = twoM 2147487744 w0 w1 mem0 := ⟨_, rfl⟩
  obtain ⟨M1, hM1⟩ : ∃ M, M = twoM 2147487744 y0 y1 M0 := ⟨_, rfl⟩
  obtain ⟨M2, hM2⟩ : ∃ M, M = twoM 2147487744 y2 y3 M1 := ⟨_, rfl⟩
  have PA1 : Hid (allP [0, V, 0] (rsA A) 2147487744 [(2147487744, 8)] M0 (rsA A) = (0, M1)) := Lib.hid (by
    rw [hM1, hM0, hy0, hy1]
    exact pair_all 2147487744 V A w0 w1 (by decide) (by decide) (by decide) h0 hw mem0 v hv)
  have PA2 : Hid (allP [0, V] (rsB A) 2147487744 [(2147487744, 8)] M1 (rsB A) = (0, M2)) := Lib.hid (by
    rw [hM2, hM1, hy2, hy3]
    exact pair_all2 2147487744 V A y0 y1 (by decide) (by decide) (by decide) hy0l hy1l M0 t ht)
  have PL1 : Hid (ldV M1 2147487744 4 = y0 ∧ ldV M1 2147487748 4 = y1) := Lib.hid (by
    rw [hM1]
    exact two_ld 2147487744 y0 y1 (by decide) (by decide) hy0l hy1l M0)
  have PL2 : Hid (ldV M2 2147487744 4 = y2 ∧ ldV M2 2147487748 4 = y3) := Lib.hid (by
    rw [hM2]
    exact two_ld 2147487744 y2 y3 (by decide) (by decide) hy2l hy3l M1)
  have HM0 : Hid (M0 = stM (stM mem0 2147487744 4 w0) 2147487748 4 w1) := Lib.hid hM0
  obtain ⟨u1, hu1⟩ : ∃ z, z = sgP (upP v) := ⟨_, rfl⟩
  obtain ⟨i1, hi1⟩ : ∃ z, z = sgnZ (v % 4096) 12 := ⟨_, rfl⟩
  obtain ⟨u2, hu2⟩ : ∃ z, z = sgP (upP t) := ⟨_, rfl⟩
  obtain ⟨i2, hi2⟩ : ∃ z, z = sgnZ (t % 4096) 12 := ⟨_, rfl⟩
  have hU1 : immZ .U y0 = u1 := by rw [hy0, hu1]; exact immZ_U w0 _ hup.1 hup.2
  have hI1 : immZ .I y1 = i1 := by rw [hy1, hi1]; exact low_I .I (Or.inl rfl) w1 v
  have hU2 : immZ .U y2 = u2 := by rw [hy2, hu2]; exact immZ_U y0 _ hut.1 hut.2
  have hI2 : immZ .S y3 = i2 := by rw [hy3, hi2]; exact low_I .S (Or.inr rfl) y1 t
  have bu1 := sgP_in _ hup.1
  have bu2 := sgP_in _ hut.1
  have bi1 := sgn_in v
  have bi2 := sgn_in t
  have su1 := sgP_mod _ hup.1
  have su2 := sgP_mod _ hut.1
  have sv := up_low v hvl
  have st' := up_low t htl
  rw [← hu1] at bu1 su1
  rw [← hu2] at bu2 su2
  rw [← hi1] at bi1 sv
  rw [← hi2] at bi2 st'
  have s1 : (2147487744 + u1 + i1) % 4294967296 = (t : Int) := by omega
  have s2 : (u2 + i2) % 4294967296 = (t : Int) := by omega
  have s3 : ((2147487744 + (V : Int)) % 4294967296 + (A : Int)) % 4294967296 = (t : Int) := by omega
  obtain ⟨r0, hr0⟩ : ∃ r, r = w0 % 4096 := ⟨_, rfl⟩
  obtain ⟨r1, hr1⟩ : ∃ r, r = w1 % 1048576 := ⟨_, rfl⟩
  have a1 : bits .and .u32 (y0 : Int) 4095 = (r0 : Int) := by
    rw [hr0, show w0 % 4096 = y0 % 2 ^ 12 by rw [hy0]; omega]
    exact low_and y0 12 hy0l (by decide)
  have a2 : bits .and .u32 (w0 : Int) 4095 = (r0 : Int) := by
    rw [hr0]
    exact low_and w0 12 h0 (by decide)
  have a3 : bits .and .u32 (y1 : Int) 1048575 = (r1 : Int) := by
    rw [hr1, ← keep_I w1 v, ← hy1]
    exact low_and y1 20 hy1l (by decide)
  have a4 : bits .and .u32 (w1 : Int) 1048575 = (r1 : Int) := by
    rw [hr1]
    exact low_and w1 20 hw (by decide)
  have kU1 := fun W => imm_below .U y0 u1 hy0l hU1 W
  have kI1 := fun W => imm_below .I y1 i1 hy1l hI1 W
  have kU2 := fun W => imm_below .U y2 u2 hy2l hU2 W
  have kI2 := fun W => imm_below .S y3 i2 hy3l hI2 W
  rw [show fmS .U = ⟨#[85]⟩ from rfl] at kU1 kU2
  rw [show fmS .I = ⟨#[73]⟩ from rfl] at kI1
  rw [show fmS .S = ⟨#[83]⟩ from rfl] at kI2
  have S1 := Lib.hid s1
  have S2 := Lib.hid s2
  have S3 := Lib.hid s3
  have KU1 := Lib.hid kU1
  have KI1 := Lib.hid kI1
  have KU2 := Lib.hid kU2
  have KI2 := Lib.hid kI2
  have AA := Lib.hid (And.intro a1 (And.intro a2 (And.intro a3 a4)))
  have BU := Lib.hid (And.intro bu1 (And.intro bu2 (And.intro bi1 bi2)))
  have HB0 := Lib.hid hb0
  have HX := Lib.hid hX
  have HBB := Lib.hid hbb
  clear hv ht hy0 hy1 hy2 hy3 hM0 hM1 hM2 hu1 hi1 hu2 hi2 hU1 hI1 hU2 hI2 bu1 bu2 bi1 bi2 su1 su2 sv st' s1 s2 s3 hr0 hr1 a1 a2 a3 a4 kU1 kI1 kU2 kI2 hup hut hb0 hX
  go_enter Try.func5, Try.ntmps5
  go_upto_region 1 with fail
  replace hu0 := hu0.symm
  change _ = u0 at hu0
  rw [hu0, ← hbb]
  clear hu0 hbb
  go_upto_region 4 with (first
    | (go_at_call 8; with_reducible refine kF.mono ?_; rintro e q1 ⟨rfl, hb1⟩)
    | (go_at_call 18; with_reducible refine (kN _).mono ?_; rintro e q2 ⟨⟨g, rfl, hG, hgw⟩, hb2⟩))
  clear kF kN
  have HQ2 := Lib.hid (HB0.out.trans ((hb1.trans (hb2.mono hb1.size)).mono HB0.out.size))
  have HX2 := Lib.hid ((HX.out.after hb1).after hb2)
  have HGW : Hid (u0.heap.size ≤ g) := Lib.hid (Nat.le_trans hb1.size hgw)
  have hbg : b0 ≠ g := by have := HX.out.lt; have := HGW.out; omega
  have hgw2 : w.heap.size ≤ g := by have := HGW.out; have := HB0.out.size; omega
  clear hb1 hb2 hgw hz0
  have c0 : q2.cell? ⟨b0, 0, none⟩ = some (.int .u32 (w0 : Int)) := HX2.out.cell 0
  have kS1 := store_any mem0 g 2147487744 w0 4 q2 hG (by decide) h0
  rw [show stB 2147487744 4 = true by decide, show erI true = 0 from rfl] at kS1
  simp only [Int.cast_ofNat_Int] at kS1
  go_upto_region 5 with (go_at_call 19; with_reducible refine kS1.mono ?_; rintro e q3 ⟨rfl, hG3, hg3⟩)
  clear kS1 c0
  have HX3 := Lib.hid (has_by HX2.out hg3 hbg)
  have c1 : q3.cell? ⟨b0, 1, none⟩ = some (.int .u32 (w1 : Int)) := HX3.out.cell 1
  have kS2 := store_any _ g 2147487748 w1 4 q3 hG3 (by decide) hw
  rw [show stB 2147487748 4 = true by decide, show erI true = 0 from rfl] at kS2
  simp only [Int.cast_ofNat_Int] at kS2
  go_upto_region 6 with (go_at_call 19; with_reducible refine kS2.mono ?_; rintro e q4 ⟨rfl, hG4, hg4⟩)
  clear kS2 c1
  rw [← HM0.out] at hG4
  have HX4 := Lib.hid (has_by HX3.out hg4 hbg)
  have HQ4 := Lib.hid (below_only (below_only HQ2.out hg3 hgw2 HQ2.out.size) hg4 hgw2 (below_only HQ2.out hg3 hgw2 HQ2.out.size).size)
  clear hG3 hg3 hg4 hG HX2 HX3 HQ2 HM0
  go_wp2_with fail
  obtain ⟨x1, hx1, hA1, hB1, hD1, hb1⟩ := four_new q4 #[.int .u32 0, .int .u32 (V : Int), .int .u32 0] #[.int .u32 0, .int .i64 23, .int .i64 1, .int .u32 (A : Int), .int .u32 4, .int .i64 24, .int .i64 2, .int .u32 0] #[.int .u32 0, .slice none 0 0, .slice (some ⟨q4.heap.size + 1, 0, none⟩) 2 2, .slice (some ⟨q4.heap.size, 0, none⟩) 3 3] #[.int .u32 2147487744, .int .u32 8, .int .i64 0] 24 43 36 54
  rw [← hx1]
  have hgl1 := hG4.lt
  have kA1 := H.apply [0, V, 0] (rsA A) [(2147487744, 8)] 2147487744 0 g M0 nilS ⟨some ⟨q4.heap.size + 1, 0, none⟩, 2, 2⟩ ⟨some ⟨q4.heap.size, 0, none⟩, 3, 3⟩ ⟨some ⟨q4.heap.size + 1 + 1 + 1, 0, none⟩, 1, 1⟩ x1 (keep_two x1 g _ _ _ [0, V, 0] ⟨0, 23, 1, A⟩ ⟨4, 24, 2, 0⟩ #[.int .u32 0, .int .u32 (V : Int), .int .u32 0] (wf_any 0 23 1 A (by decide) (by decide) (by decide) hA) (wf_any 4 24 2 0 (by decide) (by decide) (by decide) (by decide)) (by intro y hy; simp at hy; omega) (by simp) (cells_three V) hA1 hB1 hD1 (by omega) (by omega) (by omega)) (by unfold inRam; decide) (by decide) (show 2 ≤ 10000 by decide) (hG4.after hb1)
  rw [PA1.out] at kA1
  dsimp only at kA1
  refine kA1.mono ?_
  have HQ1' := Lib.hid (HQ4.out.trans (hb1.mono HQ4.out.size))
  have HX1' := Lib.hid (HX4.out.after hb1)
  clear kA1 hx1 hA1 hB1 hD1 hb1 hgl1
  rintro e z1 ⟨rfl, hM1, hgz⟩
  dsimp only
  have HZ1 := Lib.hid (below_only HQ1'.out hgz hgw2 HQ1'.out.size)
  have HXZ1 := Lib.hid (has_by HX1'.out hgz hbg)
  clear hgz HQ1' HX1'
  have kL1 := fun W hb => mload_any M1 g 2147487744 4 W (hM1.after hb) (by decide)
  have kK1 := fun W hb => mload_any M1 g 2147487748 4 W (hM1.after hb) (by decide)
  rw [PL1.out.1, show stB 2147487744 4 = true by decide, show erI true = 0 from rfl] at kL1
  rw [PL1.out.2, show stB 2147487748 4 = true by decide, show erI true = 0 from rfl] at kK1
  simp only [Int.cast_ofNat_Int] at kL1 kK1
  go_wp2_with fail
  refine (kL1 _ (Below.refl _ _)).mono ?_
  rintro e p1 ⟨rfl, hbp⟩
  dsimp only
  go_wp2_with fail
  refine (kK1 _ hbp).mono ?_
  rintro e o1 ⟨rfl, hbo⟩
  dsimp only
  have HO1 := Lib.hid (hbp.trans (hbo.mono hbp.size))
  clear hbp hbo kL1 kK1
  obtain ⟨lu1, lu2⟩ := And.intro BU.out.1 BU.out.2.1
  obtain ⟨li1, li2⟩ := BU.out.2.2
  go_upto_region 11 with (first
    | (go_at_call 16; with_reducible refine (KU1.out _).mono ?_; rintro e w5 ⟨rfl, nq, rfl⟩)
    | (go_at_call 16; with_reducible refine (KI1.out _).mono ?_; rintro e w6 ⟨rfl, nr, rfl⟩))
  have hbN := below_drewN HO1.out (nq + nr)
  have hG5 := hM1.after hbN
  have HX5 := Lib.hid (HXZ1.out.after hbN)
  have HQ5 := Lib.hid (HZ1.out.trans (hbN.mono HZ1.out.size))
  clear hbN hM1 HO1 HXZ1 HZ1 HQ4 HX4 hG4
  generalize o1.drewN (nq + nr) = q5 at *
  go_wp2_with fail
  obtain ⟨x2, hx2, hA2, hB2, hD2, hb2⟩ := four_new q5 #[.int .u32 0, .int .u32 (V : Int)] #[.int .u32 0, .int .i64 26, .int .i64 1, .int .u32 (A : Int), .int .u32 4, .int .i64 28, .int .i64 1, .int .u32 (A : Int)] #[.int .u32 0, .slice none 0 0, .slice (some ⟨q5.heap.size + 1, 0, none⟩) 2 2, .slice (some ⟨q5.heap.size, 0, none⟩) 2 2] #[.int .u32 2147487744, .int .u32 8, .int .i64 0] 24 43 36 54
  rw [← hx2]
  have hgl2 := hG5.lt
  have kA2 := H.apply [0, V] (rsB A) [(2147487744, 8)] 2147487744 0 g M1 nilS ⟨some ⟨q5.heap.size + 1, 0, none⟩, 2, 2⟩ ⟨some ⟨q5.heap.size, 0, none⟩, 2, 2⟩ ⟨some ⟨q5.heap.size + 1 + 1 + 1, 0, none⟩, 1, 1⟩ x2 (keep_two x2 g _ _ _ [0, V] ⟨0, 26, 1, A⟩ ⟨4, 28, 1, A⟩ #[.int .u32 0, .int .u32 (V : Int)] (wf_any 0 26 1 A (by decide) (by decide) (by decide) hA) (wf_any 4 28 1 A (by decide) (by decide) (by decide) hA) (by intro y hy; simp at hy; omega) (by simp) (cells_two V) hA2 hB2 hD2 (by omega) (by omega) (by omega)) (by unfold inRam; decide) (by decide) (show 2 ≤ 10000 by decide) (hG5.after hb2)
  rw [PA2.out] at kA2
  dsimp only at kA2
  refine kA2.mono ?_
  have HQ2' := Lib.hid (HQ5.out.trans (hb2.mono HQ5.out.size))
  have HX2' := Lib.hid (HX5.out.after hb2)
  clear kA2 hx2 hA2 hB2 hD2 hb2 hgl2
  rintro e z2 ⟨rfl, hM2, hgz⟩
  dsimp only
  have HZ2 := Lib.hid (below_only HQ2'.out hgz hgw2 HQ2'.out.size)
  have HXZ2 := Lib.hid (has_by HX2'.out hgz hbg)
  clear hgz HQ2' HX2'
  have kL2 := fun W hb => mload_any M2 g 2147487744 4 W (hM2.after hb) (by decide)
  have kK2 := fun W hb => mload_any M2 g 2147487748 4 W (hM2.after hb) (by decide)
  rw [PL2.out.1, show stB 2147487744 4 = true by decide, show erI true = 0 from rfl] at kL2
  rw [PL2.out.2, show stB 2147487748 4 = true by decide, show erI true = 0 from rfl] at kK2
  simp only [Int.cast_ofNat_Int] at kL2 kK2
  go_wp2_with fail
  refine (kL2 _ (Below.refl _ _)).mono ?_
  rintro e p2 ⟨rfl, hbp⟩
  dsimp only
  go_wp2_with fail
  refine (kK2 _ hbp).mono ?_
  rintro e o2 ⟨rfl, hbo⟩
  dsimp only
  have HO2 := Lib.hid (hbp.trans (hbo.mono hbp.size))
  clear hbp hbo kL2 kK2
  have s1 := S1.out
  have s2 := S2.out
  have s3 := S3.out
  obtain ⟨a1, a2, a3, a4⟩ := AA.out
  have HXO := Lib.hid (HXZ2.out.after HO2.out)
  have c0 : o2.cell? ⟨b0, 0, none⟩ = some (.int .u32 (w0 : Int)) := HXO.out.cell 0
  have c1 : o2.cell? ⟨b0, 1, none⟩ = some (.int .u32 (w1 : Int)) := HXO.out.cell 1
  obtain ⟨lv1, lv2⟩ := BU.out.2.1
  obtain ⟨lj1, lj2⟩ := BU.out.2.2.2
  go_wp2_with (first
    | (go_at_call 16; with_reducible refine (KU2.out _).mono ?_; rintro e w5 ⟨rfl, nt, rfl⟩)
    | (go_at_call 16; with_reducible refine (KI2.out _).mono ?_; rintro e w6 ⟨rfl, nu, rfl⟩))
  go_ret
  exact ⟨rfl, below_drewN (HZ2.out.trans (HO2.out.mono HZ2.out.size)) _⟩
end Go.Proofs.Ytegaiphhoinilaa.Rc
