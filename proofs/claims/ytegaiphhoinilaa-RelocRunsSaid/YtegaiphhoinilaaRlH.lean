/-
Layer 13: RelocMeans.
-/
import Derived.Test.YtegaiphhoinilaaRlG
namespace Go.Proofs.Ytegaiphhoinilaa.Rc
open Go Go.RowKit

theorem two_mem (w : World) (a b : Array Value) (ta tb : TypeId) : ∃ u, u = (w.alloc (.cells a ta)).alloc (.cells b tb) ∧ Has u w.heap.size ta a ∧ Has u (w.heap.size + 1) tb b ∧ Below w.heap.size w u ∧ u.heap.size = w.heap.size + 2 := by
  have s1 : (w.alloc (.cells a ta)).heap.size = w.heap.size + 1 := Array.size_push _
  have h1 : Has (w.alloc (.cells a ta)) w.heap.size ta a := Has.new _ _ _
  have b1 : Below w.heap.size w (w.alloc (.cells a ta)) := (Below.refl _ _).alloc (Nat.le_refl _) _
  have h2 : Has ((w.alloc (.cells a ta)).alloc (.cells b tb)) (w.alloc (.cells a ta)).heap.size tb b := Has.new _ _ _
  rw [s1] at h2
  exact ⟨_, rfl, h1.after ((Below.refl _ _).alloc (Nat.le_refl _) _), h2, b1.alloc b1.size _, size_two _ _ _⟩
/-- the letter of a kind -/
def strT (t : Int) : ByteArray :=
  if t = 1 ∨ t = 3 then ⟨#[87]⟩
  else if t = 16 then ⟨#[66]⟩
  else if t = 17 then ⟨#[74]⟩
  else if t = 24 ∨ t = 27 then ⟨#[73]⟩
  else if t = 25 ∨ t = 28 then ⟨#[83]⟩
  else ⟨#[85]⟩
theorem out_str (t : Int) (v : Nat) : outV (goT t v) = .tuple #[.int .i64 (v : Int), .string (strT t), .int .i64 0] := by
  unfold goT strT
  split
  · rfl
  · split
    · rfl
    · split
      · rfl
      · split
        · rfl
        · split <;> rfl
set_option maxRecDepth 100000 in
set_option maxHeartbeats 16000000 in
theorem means13_ok (H : RelocOK) (K : FitK) (xs ss : List Nat) (rs : List Re) (ws sy rl : Sl) (more : Nat) (split : Int) (w : World) (hW : SlN w ws xs) (hSy : SlN w sy ss) (hRl : SlR w rl rs) (hm : more < 4294967296) (hs : i64ok split) :
    Calls Try.prog 4 #[.agg (jC ws sy rl more split)] w fun e w' => e = .returned (.bool true) ∧ Below w.heap.size w w' := by
  obtain ⟨u, hu, hJ, hb0, hz0⟩ := one_new w (jC ws sy rl more split) 26
  obtain ⟨gJ, hgJ0⟩ : ∃ b, b = w.heap.size := ⟨_, rfl⟩
  rw [← hgJ0] at hJ
  have kF := K u
  have HJ := Lib.hid hJ
  have HB0 := Lib.hid hb0
  have HW := Lib.hid (hW.below hb0)
  have HSy := Lib.hid (hSy.below hb0)
  have HRl := Lib.hid (hRl.below hb0)
  have HS := Lib.hid hs
  have HM := Lib.hid hm
  clear hb0 hW hSy hRl hJ hz0 hs hm
  go_enter Try.func4, Try.ntmps4
  go_upto_region 1 with fail
  replace hu := hu.symm
  change _ = u at hu
  rw [hu, ← hgJ0]
  clear hu hgJ0
  obtain ⟨A1, n1, c1⟩ := ws
  obtain ⟨A2, n2, c2⟩ := sy
  obtain ⟨A3, n3, c3⟩ := rl
  go_upto_region 3 with (go_at_call 8; with_reducible refine kF.mono ?_; rintro e q1 ⟨rfl, hb1⟩)
  clear kF
  have HB1 := Lib.hid hb1
  have HJ1 := Lib.hid (HJ.out.after hb1)
  clear hb1
  have j0 : q1.cell? ⟨gJ, 0, none⟩ = some (.slice A1 n1 c1) := (HJ1.out).cell 0
  have j1 : q1.cell? ⟨gJ, 1, none⟩ = some (.slice A2 n2 c2) := (HJ1.out).cell 1
  have j2 : q1.cell? ⟨gJ, 2, none⟩ = some (.slice A3 n3 c3) := (HJ1.out).cell 2
  have j3 : q1.cell? ⟨gJ, 3, none⟩ = some (.int .u32 (more : Int)) := (HJ1.out).cell 3
  have j4 : q1.cell? ⟨gJ, 4, none⟩ = some (.int .i64 split) := (HJ1.out).cell 4
  have kSm : Calls Try.prog 9 #[.agg #[.slice A1 n1 c1, .slice A2 n2 c2, .slice A3 n3 c3, .int .u32 (more : Int), .int .i64 split]] q1 fun e w' => e = .returned (.bool (smP n1 n2 n3)) ∧ Below q1.heap.size q1 w' := small_any ⟨A1, n1, c1⟩ ⟨A2, n2, c2⟩ ⟨A3, n3, c3⟩ more split q1
  by_cases hsm : smP n1 n2 n3 = true
  case neg =>
    rw [Bool.eq_false_iff.2 hsm] at kSm
    clear hsm
    go_wp2_with (go_at_call 9; with_reducible refine kSm.mono ?_; rintro e q2 ⟨rfl, hb2⟩)
    go_ret
    exact ⟨rfl, HB0.out.trans ((HB1.out.trans (hb2.mono HB1.out.size)).mono HB0.out.size)⟩
  case pos =>
    rw [hsm] at kSm
    have hsz : n1 ≤ 300 ∧ n2 ≤ 100 ∧ n3 ≤ 100 ∧ 0 < n1 := of_decide_eq_true hsm
    have HSZ := Lib.hid hsz
    clear hsm hsz
    by_cases h3 : n3 = 0
    · have d3 : ((n3 : Int) == 0) = true := by simp only [beq_iff_eq]; omega
      clear h3
      have HK2 : Hid (∀ W, Below q1.heap.size q1 W → W.cell? ⟨gJ, 2, none⟩ = some (.slice A3 n3 c3)) := Lib.hid (fun W hW => (hW.cell (p := ⟨gJ, 2, none⟩) HJ1.out.lt).trans j2)
      go_wp2_with (go_at_call 9; with_reducible refine kSm.mono ?_; rintro e q2 ⟨rfl, hb2⟩; have j2' := HK2.out q2 hb2; clear j0 j1 j2 j3 j4)
      go_ret
      exact ⟨rfl, HB0.out.trans ((HB1.out.trans (hb2.mono HB1.out.size)).mono HB0.out.size)⟩
    · have d3 : ((n3 : Int) == 0) = false := by simp only [beq_eq_false_iff_ne, ne_eq]; omega
      have HK2 : Hid (∀ W, Below q1.heap.size q1 W → W.cell? ⟨gJ, 2, none⟩ = some (.slice A3 n3 c3)) := Lib.hid (fun W hW => (hW.cell (p := ⟨gJ, 2, none⟩) HJ1.out.lt).trans j2)
      clear h3
      go_upto_region 5 with (go_at_call 9; with_reducible refine kSm.mono ?_; rintro e q2 ⟨rfl, hb2⟩; have j2' := HK2.out q2 hb2; clear j0 j1 j2 j3 j4)
      clear kSm d3 HK2
      have HB2 := Lib.hid (HB1.out.trans (hb2.mono HB1.out.size))
      have HJ2 := Lib.hid (HJ1.out.after hb2)
      clear hb2 j2'
      have j1 : q2.cell? ⟨gJ, 1, none⟩ = some (.slice A2 n2 c2) := HJ2.out.cell 1
      have j2 : q2.cell? ⟨gJ, 2, none⟩ = some (.slice A3 n3 c3) := HJ2.out.cell 2
      go_upto_region 6 with fail
      obtain ⟨w5, hw5, hF, hb5, hz5⟩ := one_new q2 (fC 0 nilS ⟨A3, n3, c3⟩ ⟨A2, n2, c2⟩) 36
      change Code.wp _ _ _ _ (q2.alloc (.cells (fC 0 nilS ⟨A3, n3, c3⟩ ⟨A2, n2, c2⟩) 36))
      rw [← hw5]
      obtain ⟨gF, hgF⟩ : ∃ b, b = q2.heap.size := ⟨_, rfl⟩
      rw [← hgF] at hF ⊢
      have HF := Lib.hid hF
      have HB5 := Lib.hid (HB2.out.trans (hb5.mono HB2.out.size))
      have HJ5 := Lib.hid (HJ2.out.after hb5)
      have j2' : w5.cell? ⟨gJ, 2, none⟩ = some (.slice A3 n3 c3) := HJ5.out.cell 2
      clear j1 j2 hw5 hF hb5 hz5 hgF HJ HJ1 HJ2 HB1 HB2
      have h47 : n3 ≤ 140737488355328 := by have := HSZ.out; omega
      go_wp2_with fail
      clear j2'
      go_loopw [40] (fun ct wr => ∃ i : Nat, i ≤ n3 ∧ ct = .int .i64 (i : Int) ∧ Below w5.heap.size w5 wr) (fun ct _ => (n3 - (intOf ct)).toNat)
      case atStart => exact ⟨0, Nat.zero_le _, rfl, Below.refl _ _⟩
      case round =>
        obtain ⟨i, hi, rfl, hb⟩ := hrel
        by_cases hlt : i < n3
        · have di : (i : Int) < (n3 : Int) := by omega
          have hR2 := (HRl.out.below HB5.out).below hb
          obtain ⟨bb, oo, hA, hbl, hcc⟩ := hR2.2.2.2 (by show 0 < n3; omega)
          replace hA : A3 = some ⟨bb, oo, none⟩ := hA
          subst hA
          have hwf := getD_all (P := Re.Wf) (d := re0) hR2.2.1 (j := i) (by have := HRl.out.1; dsimp only at this; omega)
          have e0 : wr.cell? ⟨bb, oo + i * 4, none⟩ = some (.int .u32 ((rs.getD i re0).p : Int)) := hcc i 0 hlt (by decide)
          have e1 : wr.cell? ⟨bb, oo + i * 4 + 1, none⟩ = some (.int .i64 (rs.getD i re0).t) := hcc i 1 hlt (by decide)
          have e2 : wr.cell? ⟨bb, oo + i * 4 + 2, none⟩ = some (.int .i64 (rs.getD i re0).s) := hcc i 2 hlt (by decide)
          have e3 : wr.cell? ⟨bb, oo + i * 4 + 3, none⟩ = some (.int .u32 ((rs.getD i re0).a : Int)) := hcc i 3 hlt (by decide)
          generalize rs.getD i re0 = h at *
          obtain ⟨p, t, s, a⟩ := h
          dsimp only at e0 e1 e2 e3
          have hat := fun W => at_re bb oo n3 c3 i di W
          have HWF := Lib.hid hwf
          have HBw := Lib.hid hb
          clear hcc hR2 hwf hb
          go_upto_region 9 with fail
          obtain ⟨wa, hwa, hH, hbw, hsz⟩ := one_new wr #[.int .u32 (p : Int), .int .i64 t, .int .i64 s, .int .u32 (a : Int)] 43
          rw [← hwa]
          obtain ⟨gH, hgH0⟩ : ∃ g, g = wr.heap.size := ⟨_, rfl⟩
          rw [← hgH0] at hH ⊢
          have HH : Hid (Has wa gH 43 (reC ⟨p, t, s, a⟩)) := Lib.hid hH
          have HBA : Hid (Below w5.heap.size w5 wa) := Lib.hid (HBw.out.trans (hbw.mono HBw.out.size))
          have HJA := Lib.hid (HJ5.out.after HBA.out)
          clear hwa hH hbw hsz hgH0 e0 e1 e2 e3 hat HBw
          have j0 : wa.cell? ⟨gJ, 0, none⟩ = some (.slice A1 n1 c1) := (HJA.out).cell 0
          have j1 : wa.cell? ⟨gJ, 1, none⟩ = some (.slice A2 n2 c2) := (HJA.out).cell 1
          have j2 : wa.cell? ⟨gJ, 2, none⟩ = some (.slice (some ⟨bb, oo, none⟩) n3 c3) := (HJA.out).cell 2
          have j3 : wa.cell? ⟨gJ, 3, none⟩ = some (.int .u32 (more : Int)) := (HJA.out).cell 3
          have j4 : wa.cell? ⟨gJ, 4, none⟩ = some (.int .i64 split) := (HJA.out).cell 4
          have kL : Calls Try.prog 10 #[.agg #[.slice A1 n1 c1, .slice A2 n2 c2, .slice (some ⟨bb, oo, none⟩) n3 c3, .int .u32 (more : Int), .int .i64 split]] wa fun e w' => LayO wa w' xs.length more (wordsM xs xs.length) e ∧ Below wa.heap.size wa w' :=
            lay_any xs ⟨A1, n1, c1⟩ ⟨A2, n2, c2⟩ ⟨some ⟨bb, oo, none⟩, n3, c3⟩ more split wa ((HW.out.below HB5.out).below HBA.out) (by have := HW.out.1; have := HSZ.out; dsimp only at *; omega) (by have := HW.out.1; have := HSZ.out; dsimp only at *; omega) HM.out HS.out
          obtain ⟨B, hB⟩ : ∃ B, B = (2147487744 + more) % 4294967296 := ⟨_, rfl⟩
          have hBl : B < 4294967296 := by omega
          unfold LayO at kL
          rw [← hB] at kL
          obtain ⟨M, hMx⟩ : ∃ M, M = wordsM xs xs.length := ⟨_, rfl⟩
          rw [← hMx] at kL
          clear hB hMx
          go_wp2_with fail
          refine kL.mono ?_
          clear j0 j1 j2 j3 j4 kL
          rintro e q3 ⟨⟨g, r, mb, bp, bq, k, rfl, hk, hG, hR, hSG, hSP, hg0, hm0, hr0, hbp0, hbq0, hgm, hpg, hpm, hqg, hqm⟩, hb3⟩
          dsimp only
          clear hR hSP hm0 hr0 hbq0 hgm hpm hqg hqm
          obtain ⟨l, hl⟩ : ∃ l, l = spL xs.length k := ⟨_, rfl⟩
          have hram : inRam l := by rw [hl]; exact inRam_spL _ _ hk (by have := HSZ.out; have := HW.out.1; dsimp only at *; omega)
          rw [← hl] at hSG
          have HB3 := Lib.hid (HBA.out.trans (hb3.mono HBA.out.size))
          have HJ3 := Lib.hid (HJA.out.after hb3)
          have HH3 := Lib.hid (HH.out.after hb3)
          have hw5a := HBA.out.size
          have HGA : Hid (w5.heap.size ≤ g) := Lib.hid (by omega)
          have hHg : gH ≠ g := by have := HH.out.lt; omega
          have hFg : gF ≠ g := by have := HF.out.lt; omega
          have hJg : gJ ≠ g := by have := HJ5.out.lt; omega
          have hgq := hG.lt
          have HG3 := Lib.hid hG
          have HSG3 := Lib.hid hSG
          have HRAM := Lib.hid hram
          clear hl hk hb3 hw5a hbp0 hG hSG hram
          have j1 : q3.cell? ⟨gJ, 1, none⟩ = some (.slice A2 n2 c2) := HJ3.out.cell 1
          have k0 : q3.cell? ⟨gH, 0, none⟩ = some (.int .u32 (p : Int)) := HH3.out.cell 0
          have k1 : q3.cell? ⟨gH, 1, none⟩ = some (.int .i64 t) := HH3.out.cell 1
          have k2 : q3.cell? ⟨gH, 2, none⟩ = some (.int .i64 s) := HH3.out.cell 2
          have k3 : q3.cell? ⟨gH, 3, none⟩ = some (.int .u32 (a : Int)) := HH3.out.cell 3
          go_upto_region 11 with fail
          obtain ⟨q4, hq4, hRow, hOn, hb4, hz4⟩ := two_mem q3 #[.int .u32 (p : Int), .int .i64 t, .int .i64 s, .int .u32 (a : Int)] #[.int .u32 0, .slice none 0 0, .slice (some ⟨q3.heap.size, 0, none⟩) 1 1, .slice A2 n2 c2] 43 36
          rw [← hq4]
          obtain ⟨gB, hgB⟩ : ∃ b, b = q3.heap.size := ⟨_, rfl⟩
          obtain ⟨gO, hgO⟩ : ∃ b, b = q3.heap.size + 1 := ⟨_, rfl⟩
          rw [← hgO] at hOn
          rw [← hgB] at hRow hOn
          rw [← hgO, ← hgB]
          have hBg : gB ≠ g := by omega
          have HB4 := Lib.hid (HB3.out.trans (hb4.mono HB3.out.size))
          have HH4 := Lib.hid (HH3.out.after hb4)
          have HRow := Lib.hid hRow
          have HG4 := Lib.hid (HG3.out.after hb4)
          have HSG4 := Lib.hid (HSG3.out.below hb4)
          have o0 : q4.cell? ⟨gO, 0, none⟩ = some (.int .u32 0) := hOn.cell 0
          have o1 : q4.cell? ⟨gO, 1, none⟩ = some (.slice none 0 0) := hOn.cell 1
          have o2 : q4.cell? ⟨gO, 2, none⟩ = some (.slice (some ⟨gB, 0, none⟩) 1 1) := hOn.cell 2
          have o3 : q4.cell? ⟨gO, 3, none⟩ = some (.slice A2 n2 c2) := hOn.cell 3
          have c1' : q4.cell? ⟨gH, 1, none⟩ = some (.int .i64 t) := HH4.out.cell 1
          clear hq4 hRow hOn hb4 hz4 hgB hgO hgq j1 k0 k1 k2 k3 HG3 HSG3 HH3 HJ3 HB3
          by_cases t24 : t = 24
          · have f1 : (t == 24) = true := by simp only [beq_iff_eq]; exact t24
            clear t24
            go_wp2_with fail
            go_roundw
            case rel => exact ⟨i + 1, hlt, by go_num, HB4.out⟩
            case measure => simp [intOf] <;> omega
          by_cases t25 : t = 25
          · have f1 : (t == 24) = false := by simp only [beq_eq_false_iff_ne, ne_eq]; exact t24
            have f2 : (t == 25) = true := by simp only [beq_iff_eq]; exact t25
            clear t24 t25
            go_wp2_with fail
            go_roundw
            case rel => exact ⟨i + 1, hlt, by go_num, HB4.out⟩
            case measure => simp [intOf] <;> omega
          have f1 : (t == 24) = false := by simp only [beq_eq_false_iff_ne, ne_eq]; exact t24
          have f2 : (t == 25) = false := by simp only [beq_eq_false_iff_ne, ne_eq]; exact t25
          have HT := Lib.hid (And.intro t24 t25)
          clear t24 t25
          obtain ⟨MA, hMA⟩ : ∃ MA, MA = (allP ss [⟨p, t, s, a⟩] B l M [⟨p, t, s, a⟩]).2 := ⟨_, rfl⟩
          obtain ⟨er, her⟩ : ∃ er, er = (allP ss [⟨p, t, s, a⟩] B l M [⟨p, t, s, a⟩]).1 := ⟨_, rfl⟩
          have HALL : Hid (allP ss [⟨p, t, s, a⟩] B l M [⟨p, t, s, a⟩] = (er, MA)) := Lib.hid (by rw [her, hMA])
          have kA : Calls Try.prog 11 #[mP g, .agg #[.int .u32 0, .slice none 0 0, .slice (some ⟨gB, 0, none⟩) 1 1, .slice A2 n2 c2], .int .u32 (B : Int), .slice (some ⟨bp, 0, none⟩) 2 2] q4 fun e w' => e = .returned (.int .i64 er) ∧ RamP w' g MA ∧ q4.grownBy w' (some g) := by
            have := H.apply ss [⟨p, t, s, a⟩] l B 0 g M nilS ⟨some ⟨gB, 0, none⟩, 1, 1⟩ ⟨A2, n2, c2⟩ ⟨some ⟨bp, 0, none⟩, 2, 2⟩ q4 (fun w' hk => by
              have hbk := below_only HB4.out hk HGA.out HB4.out.size
              refine ⟨(HSy.out.below HB5.out).below hbk, ⟨rfl, ?_, has_slC (has_by HRow.out hk hBg) (by decide) ?_⟩, ⟨HSG4.out.1, HSG4.out.2.1, HSG4.out.2.2.grown hk (fun b o e _ e2 => by injection e with e; injection e with e; injection e2 with e2; omega)⟩⟩
              · intro y hy
                obtain rfl : y = ⟨p, t, s, a⟩ := by simpa using hy
                exact HWF.out
              · intro j i' hj hi'
                obtain rfl : j = 0 := by omega
                rcases (show i' = 0 ∨ i' = 1 ∨ i' = 2 ∨ i' = 3 by omega) with rfl | rfl | rfl | rfl <;> rfl) HRAM.out hBl (show 1 ≤ 10000 by decide) HG4.out
            rw [← hMA, ← her] at this
            exact this
          clear hMA her
          go_wp2_with fail
          refine kA.mono ?_
          clear kA o0 o1 o2 o3 c1'
          rintro e q5 ⟨rfl, hG5, hg5⟩
          dsimp only
          have HBq := Lib.hid (below_only HB4.out hg5 HGA.out HB4.out.size)
          have hHH5 := has_by HH4.out hg5 hHg
          have HF5 := Lib.hid (has_by (HF.out.after HB4.out) hg5 hFg)
          clear hg5 HH4 HB4 HG4 HSG4 HRow
          by_cases her : er = 0
          case neg =>
            have d1 : (er != 0) = true := by rw [bne_iff_ne]; exact her
            clear her
            go_wp2_with fail
            go_roundw
            case rel => exact ⟨i + 1, hlt, by go_num, HBq.out⟩
            case measure => simp [intOf] <;> omega
          case pos =>
            subst her
            obtain ⟨ht, hst, hst2, v, hvl, hval, hMA⟩ := one_zero HRAM.out HALL.out
            have HOK := Lib.hid ht
            have HVAL := Lib.hid hval
            have hval2 : valP ss rs B ⟨p, t, s, a⟩ = goT t v := (val_any ss rs [⟨p, t, s, a⟩] B ⟨p, t, s, a⟩ ht HT.out.1 HT.out.2).trans hval
            have kV : Calls Try.prog 14 #[.agg #[.int .u32 0, .slice none 0 0, .slice (some ⟨bb, oo, none⟩) n3 c3, .slice A2 n2 c2], .int .i64 (B : Int), .agg #[.int .u32 (p : Int), .int .i64 t, .int .i64 s, .int .u32 (a : Int)]] q5 fun e w' => e = .returned (outV (valP ss rs B ⟨p, t, s, a⟩)) ∧ Below q5.heap.size q5 w' :=
              value_any ss rs p t s a B 0 nilS ⟨some ⟨bb, oo, none⟩, n3, c3⟩ ⟨A2, n2, c2⟩ q5 ((HSy.out.below HB5.out).below HBq.out) ((HRl.out.below HB5.out).below HBq.out) HWF.out hBl
            rw [hval2, out_str] at kV
            obtain ⟨x, hx⟩ : ∃ x, x = atP B ⟨p, t, s, a⟩ := ⟨_, rfl⟩
            rw [← hx] at hst hst2 hMA
            have hsx : ((B : Int) + (p : Int)) % 4294967296 = (x : Int) := by rw [hx]; show _ = (((B + p) % 4294967296 : Nat) : Int); omega
            have hxle := stB_le hst
            have hxl : x < 4294967296 := by omega
            have hx4 : (x : Int) + 4 < 4294967296 := by omega
            have HST := Lib.hid (And.intro hst hst2)
            have HMA := Lib.hid hMA
            have k0 : q5.cell? ⟨gH, 0, none⟩ = some (.int .u32 (p : Int)) := hHH5.cell 0
            have k1 : q5.cell? ⟨gH, 1, none⟩ = some (.int .i64 t) := hHH5.cell 1
            have k2 : q5.cell? ⟨gH, 2, none⟩ = some (.int .i64 s) := hHH5.cell 2
            have k3 : q5.cell? ⟨gH, 3, none⟩ = some (.int .u32 (a : Int)) := hHH5.cell 3
            have f0 : q5.cell? ⟨gF, 0, none⟩ = some (.int .u32 0) := HF5.out.cell 0
            have f1' : q5.cell? ⟨gF, 1, none⟩ = some (.slice none 0 0) := HF5.out.cell 1
            have f2' : q5.cell? ⟨gF, 2, none⟩ = some (.slice (some ⟨bb, oo, none⟩) n3 c3) := HF5.out.cell 2
            have f3' : q5.cell? ⟨gF, 3, none⟩ = some (.slice A2 n2 c2) := HF5.out.cell 3
            have HH5 := Lib.hid hHH5
            clear hx ht hst hst2 hval hval2 hMA hxle hHH5
            obtain ⟨st, hst⟩ : ∃ st, st = strT t := ⟨_, rfl⟩
            rw [← hst] at kV
            have HSTR := Lib.hid hst
            clear hst
            go_wp2_with fail
            refine kV.mono ?_
            clear kV k0 k1 k2 k3 f0 f1' f2' f3'
            rintro e q6 ⟨rfl, hb6⟩
            dsimp only
            have HB6 := Lib.hid (HBq.out.trans (hb6.mono HBq.out.size))
            have HH6 := Lib.hid (HH5.out.after hb6)
            have hG6 := hG5.after hb6
            have k0 : q6.cell? ⟨gH, 0, none⟩ = some (.int .u32 (p : Int)) := HH6.out.cell 0
            have kL1 := mload_any MA g x 4 q6 hG6 hxl
            obtain ⟨y0, hy0⟩ : ∃ y, y = ldV MA x 4 := ⟨_, rfl⟩
            obtain ⟨e0, he0⟩ : ∃ e, e = erI (stB x 4) := ⟨_, rfl⟩
            obtain ⟨y1, hy1⟩ : ∃ y, y = ldV MA (x + 4) 4 := ⟨_, rfl⟩
            obtain ⟨e1, he1⟩ : ∃ e, e = erI (stB (x + 4) 4) := ⟨_, rfl⟩
            have hy0l : y0 < 4294967296 := by rw [hy0]; exact ldV_lt _ _
            have hy1l : y1 < 4294967296 := by rw [hy1]; exact ldV_lt _ _
            rw [← hy0, ← he0] at kL1
            have HY := Lib.hid (And.intro hy0 hy1)
            have kL2 := fun W (hg : RamP W g MA) => mload_any MA g (x + 4) 4 W hg (by omega)
            rw [← hy1, ← he1, show ((x + 4 : Nat) : Int) = (x : Int) + 4 by omega] at kL2
            clear hy0 he0 hy1 he1
            go_wp2_with fail
            refine kL1.mono ?_
            clear kL1 k0
            rintro e q7 ⟨rfl, hb7⟩
            dsimp only
            have hG7 := hG6.after hb7
            go_wp2_with fail
            refine (kL2 q7 hG7).mono ?_
            clear kL2
            rintro e q8 ⟨rfl, hb8⟩
            dsimp only
            have HB8 := Lib.hid (HB6.out.trans ((hb7.trans (hb8.mono hb7.size)).mono HB6.out.size))
            have HH8 := Lib.hid ((HH6.out.after hb7).after hb8)
            clear hb6 hb7 hb8 hG5 hG6 hG7 HH5 HH6 HF5 HB6 HBq hsx hx4 f1 f2
            go_upto_region 17 with fail
            have hok : okT t := HOK.out
            clear HOK
            rcases hok with h | h | h | h | h | h | h | h | h | h | h | h <;> subst h
            · have hs : st = ⟨#[87]⟩ := HSTR.out
              subst hs
              have k1 : q8.cell? ⟨gH, 1, none⟩ = some (.int .i64 1) := HH8.out.cell 1
              have hv0 : y0 = v := HY.out.1.trans (by rw [HMA.out]; exact mean_W M x v 1 (by decide) HST.out.1 hvl)
              clear HY HMA HVAL HALL HSTR
              subst hv0
              go_wp2_with fail
              go_roundw
              case rel => exact ⟨i + 1, hlt, by go_num, by first | exact HB8.out | exact below_drewN HB8.out _⟩
              case measure => simp [intOf] <;> omega
            · have hs : st = ⟨#[87]⟩ := HSTR.out
              subst hs
              have k1 : q8.cell? ⟨gH, 1, none⟩ = some (.int .i64 3) := HH8.out.cell 1
              have hv0 : y0 = v := HY.out.1.trans (by rw [HMA.out]; exact mean_W M x v 3 (by decide) HST.out.1 hvl)
              clear HY HMA HVAL HALL HSTR
              subst hv0
              go_wp2_with fail
              go_roundw
              case rel => exact ⟨i + 1, hlt, by go_num, by first | exact HB8.out | exact below_drewN HB8.out _⟩
              case measure => simp [intOf] <;> omega
            · have hs : st = ⟨#[66]⟩ := HSTR.out
              subst hs
              have k1 : q8.cell? ⟨gH, 1, none⟩ = some (.int .i64 16) := HH8.out.cell 1
              have hy : y0 = setN .B (ldV M x 4) v 32 := HY.out.1.trans (by rw [HMA.out]; exact mean_N .B M x v 16 rfl HST.out.1)
              have hI : immZ .B y0 = sgP v := by rw [hy]; exact way_B _ v hvl (way_16 HVAL.out)
              have kI := fun W => imm_below .B y0 _ hy0l hI W
              rw [show fmS .B = ⟨#[66]⟩ from rfl] at kI
              have hg1 := sgP_mod v hvl
              clear hy hI HY HMA HVAL HALL HSTR
              generalize sgP v = g1 at *
              go_wp2_with (go_at_call 16; with_reducible refine (kI _).mono ?_; rintro e w5 ⟨rfl, nkI, rfl⟩)
              go_roundw
              case rel => exact ⟨i + 1, hlt, by go_num, by first | exact HB8.out | exact below_drewN HB8.out _⟩
              case measure => simp [intOf] <;> omega
            · have hs : st = ⟨#[74]⟩ := HSTR.out
              subst hs
              have k1 : q8.cell? ⟨gH, 1, none⟩ = some (.int .i64 17) := HH8.out.cell 1
              have hy : y0 = setN .J (ldV M x 4) v 32 := HY.out.1.trans (by rw [HMA.out]; exact mean_N .J M x v 17 rfl HST.out.1)
              have hI : immZ .J y0 = sgP v := by rw [hy]; exact way_J _ v hvl (way_17 HVAL.out)
              have kI := fun W => imm_below .J y0 _ hy0l hI W
              rw [show fmS .J = ⟨#[74]⟩ from rfl] at kI
              have hg1 := sgP_mod v hvl
              clear hy hI HY HMA HVAL HALL HSTR
              generalize sgP v = g1 at *
              go_wp2_with (go_at_call 16; with_reducible refine (kI _).mono ?_; rintro e w5 ⟨rfl, nkI, rfl⟩)
              go_roundw
              case rel => exact ⟨i + 1, hlt, by go_num, by first | exact HB8.out | exact below_drewN HB8.out _⟩
              case measure => simp [intOf] <;> omega
            · have hs : st = ⟨#[85]⟩ := HSTR.out
              subst hs
              have k1 : q8.cell? ⟨gH, 1, none⟩ = some (.int .i64 18) := HH8.out.cell 1
              obtain ⟨hy, wo, hyy, hwl⟩ := mean_two M x v 18 (by decide) HST.out.1 (HST.out.2 (by decide)) hvl
              replace hy : y0 = ldV M x 4 % 4096 + upP v := HY.out.1.trans (by rw [HMA.out]; exact hy)
              replace hyy : y1 = setN .I wo v 32 := HY.out.2.trans (by rw [HMA.out]; exact hyy)
              have hup := upP_le v
              have hI : immZ .U y0 = sgP (upP v) := by rw [hy]; exact immZ_U _ _ hup.1 hup.2
              have hJ : immZ .I y1 = sgnZ (v % 4096) 12 := by rw [hyy]; exact low_I .I (Or.inl rfl) wo v
              have kI := fun W => imm_below .U y0 _ hy0l hI W
              rw [show fmS .U = ⟨#[85]⟩ from rfl] at kI
              have kJ := fun W => imm_below .I y1 _ hy1l hJ W
              rw [show fmS .I = ⟨#[73]⟩ from rfl] at kJ
              have hg1 := sgP_mod _ hup.1
              have hg2 := up_low v hvl
              have hb1 := sgP_in _ hup.1
              have hb2 := sgn_in v
              clear hy hyy hI hJ HY HMA HVAL HALL HSTR
              generalize sgP (upP v) = g1 at *
              generalize sgnZ (v % 4096) 12 = i1 at *
              generalize upP v = uu at *
              have hsum : (g1 + i1) % 4294967296 = (v : Int) := by omega
              obtain ⟨l1, l2⟩ := hb1
              obtain ⟨l3, l4⟩ := hb2
              clear hg1 hg2 hup
              go_wp2_with (first | (go_at_call 16; with_reducible refine (kI _).mono ?_; rintro e w5 ⟨rfl, nkI, rfl⟩) | (go_at_call 16; with_reducible refine (kJ _).mono ?_; rintro e w5 ⟨rfl, nkJ, rfl⟩))
              go_roundw
              case rel => exact ⟨i + 1, hlt, by go_num, by first | exact HB8.out | exact below_drewN HB8.out _⟩
              case measure => simp [intOf] <;> omega
            · have hs : st = ⟨#[85]⟩ := HSTR.out
              subst hs
              have k1 : q8.cell? ⟨gH, 1, none⟩ = some (.int .i64 19) := HH8.out.cell 1
              obtain ⟨hy, wo, hyy, hwl⟩ := mean_two M x v 19 (by decide) HST.out.1 (HST.out.2 (by decide)) hvl
              replace hy : y0 = ldV M x 4 % 4096 + upP v := HY.out.1.trans (by rw [HMA.out]; exact hy)
              replace hyy : y1 = setN .I wo v 32 := HY.out.2.trans (by rw [HMA.out]; exact hyy)
              have hup := upP_le v
              have hI : immZ .U y0 = sgP (upP v) := by rw [hy]; exact immZ_U _ _ hup.1 hup.2
              have hJ : immZ .I y1 = sgnZ (v % 4096) 12 := by rw [hyy]; exact low_I .I (Or.inl rfl) wo v
              have kI := fun W => imm_below .U y0 _ hy0l hI W
              rw [show fmS .U = ⟨#[85]⟩ from rfl] at kI
              have kJ := fun W => imm_below .I y1 _ hy1l hJ W
              rw [show fmS .I = ⟨#[73]⟩ from rfl] at kJ
              have hg1 := sgP_mod _ hup.1
              have hg2 := up_low v hvl
              have hb1 := sgP_in _ hup.1
              have hb2 := sgn_in v
              clear hy hyy hI hJ HY HMA HVAL HALL HSTR
              generalize sgP (upP v) = g1 at *
              generalize sgnZ (v % 4096) 12 = i1 at *
              generalize upP v = uu at *
              have hsum : (g1 + i1) % 4294967296 = (v : Int) := by omega
              obtain ⟨l1, l2⟩ := hb1
              obtain ⟨l3, l4⟩ := hb2
              clear hg1 hg2 hup
              go_wp2_with (first | (go_at_call 16; with_reducible refine (kI _).mono ?_; rintro e w5 ⟨rfl, nkI, rfl⟩) | (go_at_call 16; with_reducible refine (kJ _).mono ?_; rintro e w5 ⟨rfl, nkJ, rfl⟩))
              go_roundw
              case rel => exact ⟨i + 1, hlt, by go_num, by first | exact HB8.out | exact below_drewN HB8.out _⟩
              case measure => simp [intOf] <;> omega
            · have hs : st = ⟨#[85]⟩ := HSTR.out
              subst hs
              have k1 : q8.cell? ⟨gH, 1, none⟩ = some (.int .i64 23) := HH8.out.cell 1
              have hy : y0 = ldV M x 4 % 4096 + upP v := HY.out.1.trans (by rw [HMA.out]; exact mean_U M x v 23 (put_U M x v 23 (by decide)) HST.out.1 hvl)
              have hup := upP_le v
              have hI : immZ .U y0 = sgP (upP v) := by rw [hy]; exact immZ_U _ _ hup.1 hup.2
              have kI := fun W => imm_below .U y0 _ hy0l hI W
              rw [show fmS .U = ⟨#[85]⟩ from rfl] at kI
              have kUp := fun W => upper_any v W hvl
              have hg1 := sgP_mod _ hup.1
              have hg2 : ((upP v : Nat) : Int) % 4294967296 = ((upP v : Nat) : Int) := by omega
              clear hy hI HY HMA HVAL HALL HSTR hup
              generalize sgP (upP v) = g1 at *
              generalize upP v = uu at *
              go_wp2_with (first | (go_at_call 16; with_reducible refine (kI _).mono ?_; rintro e w5 ⟨rfl, nkI, rfl⟩) | (go_at_call 17; with_reducible refine (kUp _).mono ?_; rintro e w6 ⟨rfl, rfl⟩))
              go_roundw
              case rel => exact ⟨i + 1, hlt, by go_num, by first | exact HB8.out | exact below_drewN HB8.out _⟩
              case measure => simp [intOf] <;> omega
            · exact absurd rfl HT.out.1
            · exact absurd rfl HT.out.2
            · have hs : st = ⟨#[85]⟩ := HSTR.out
              subst hs
              have k1 : q8.cell? ⟨gH, 1, none⟩ = some (.int .i64 26) := HH8.out.cell 1
              have hy : y0 = ldV M x 4 % 4096 + upP v := HY.out.1.trans (by rw [HMA.out]; exact mean_U M x v 26 (put_U M x v 26 (by decide)) HST.out.1 hvl)
              have hup := upP_le v
              have hI : immZ .U y0 = sgP (upP v) := by rw [hy]; exact immZ_U _ _ hup.1 hup.2
              have kI := fun W => imm_below .U y0 _ hy0l hI W
              rw [show fmS .U = ⟨#[85]⟩ from rfl] at kI
              have kUp := fun W => upper_any v W hvl
              have hg1 := sgP_mod _ hup.1
              have hg2 : ((upP v : Nat) : Int) % 4294967296 = ((upP v : Nat) : Int) := by omega
              clear hy hI HY HMA HVAL HALL HSTR hup
              generalize sgP (upP v) = g1 at *
              generalize upP v = uu at *
              go_wp2_with (first | (go_at_call 16; with_reducible refine (kI _).mono ?_; rintro e w5 ⟨rfl, nkI, rfl⟩) | (go_at_call 17; with_reducible refine (kUp _).mono ?_; rintro e w6 ⟨rfl, rfl⟩))
              go_roundw
              case rel => exact ⟨i + 1, hlt, by go_num, by first | exact HB8.out | exact below_drewN HB8.out _⟩
              case measure => simp [intOf] <;> omega
            · have hs : st = ⟨#[73]⟩ := HSTR.out
              subst hs
              have k1 : q8.cell? ⟨gH, 1, none⟩ = some (.int .i64 27) := HH8.out.cell 1
              have hy : y0 = setN .I (ldV M x 4) v 32 := HY.out.1.trans (by rw [HMA.out]; exact mean_N .I M x v 27 rfl HST.out.1)
              have hup := upP_le v
              have hI : immZ .I y0 = sgnZ (v % 4096) 12 := by rw [hy]; exact low_I .I (by simp) _ v
              have kI := fun W => imm_below .I y0 _ hy0l hI W
              rw [show fmS .I = ⟨#[73]⟩ from rfl] at kI
              have kUp := fun W => upper_any v W hvl
              have hc1 := low_is v hvl
              clear hy hI HY HMA HVAL HALL HSTR
              generalize sgnZ (v % 4096) 12 = i1 at *
              generalize upP v = uu at *
              generalize hc2 : ((v : Int) - (uu : Int)) % 4294967296 = c at *
              have huu := hup.1
              clear hup
              go_wp2_with (first | (go_at_call 16; with_reducible refine (kI _).mono ?_; rintro e w5 ⟨rfl, nkI, rfl⟩) | (go_at_call 17; with_reducible refine (kUp _).mono ?_; rintro e w6 ⟨rfl, rfl⟩))
              go_roundw
              case rel => exact ⟨i + 1, hlt, by go_num, by first | exact HB8.out | exact below_drewN HB8.out _⟩
              case measure => simp [intOf] <;> omega
            · have hs : st = ⟨#[83]⟩ := HSTR.out
              subst hs
              have k1 : q8.cell? ⟨gH, 1, none⟩ = some (.int .i64 28) := HH8.out.cell 1
              have hy : y0 = setN .S (ldV M x 4) v 32 := HY.out.1.trans (by rw [HMA.out]; exact mean_N .S M x v 28 rfl HST.out.1)
              have hup := upP_le v
              have hI : immZ .S y0 = sgnZ (v % 4096) 12 := by rw [hy]; exact low_I .S (by simp) _ v
              have kI := fun W => imm_below .S y0 _ hy0l hI W
              rw [show fmS .S = ⟨#[83]⟩ from rfl] at kI
              have kUp := fun W => upper_any v W hvl
              have hc1 := low_is v hvl
              clear hy hI HY HMA HVAL HALL HSTR
              generalize sgnZ (v % 4096) 12 = i1 at *
              generalize upP v = uu at *
              generalize hc2 : ((v : Int) - (uu : Int)) % 4294967296 = c at *
              have huu := hup.1
              clear hup
              go_wp2_with (first | (go_at_call 16; with_reducible refine (kI _).mono ?_; rintro e w5 ⟨rfl, nkI, rfl⟩) | (go_at_call 17; with_reducible refine (kUp _).mono ?_; rintro e w6 ⟨rfl, rfl⟩))
              go_roundw
              case rel => exact ⟨i + 1, hlt, by go_num, by first | exact HB8.out | exact below_drewN HB8.out _⟩
              case measure => simp [intOf] <;> omega
        · have him : i = n3 := by omega
          have di : ¬ (i : Int) < (n3 : Int) := by omega
          have HBw := Lib.hid hb
          clear hb
          go_wp2_with fail
          first | go_ret | go_end0
          exact ⟨rfl, HB0.out.trans ((HB5.out.trans (HBw.out.mono HB5.out.size)).mono HB0.out.size)⟩
end Go.Proofs.Ytegaiphhoinilaa.Rc
