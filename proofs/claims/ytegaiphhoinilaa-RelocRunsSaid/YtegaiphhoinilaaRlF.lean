/-
Layer 13: RelocRuns.
-/
import Derived.Test.YtegaiphhoinilaaRlE
import Derived.Test.YtegaiphhoinilaaRcH
namespace Go.Proofs.Ytegaiphhoinilaa.Rc
open Go Go.RowKit

/-- is a job small? -/
def smP (a b c : Nat) : Bool := decide (a ≤ 300 ∧ b ≤ 100 ∧ c ≤ 100 ∧ 0 < a)
set_option maxRecDepth 100000 in
set_option maxHeartbeats 4000000 in
theorem small_any (ws sy rl : Sl) (more : Nat) (split : Int) (w : World) :
    Calls Try.prog 9 #[.agg (jC ws sy rl more split)] w fun e w' => e = .returned (.bool (smP ws.n sy.n rl.n)) ∧ Below w.heap.size w w' := by
  obtain ⟨u, hu, hJ, hb0, hz0⟩ := one_new w (jC ws sy rl more split) 26
  obtain ⟨A1, n1, c1⟩ := ws
  obtain ⟨A2, n2, c2⟩ := sy
  obtain ⟨A3, n3, c3⟩ := rl
  have j0 : u.cell? ⟨w.heap.size, 0, none⟩ = some (.slice A1 n1 c1) := hJ.cell 0
  have j1 : u.cell? ⟨w.heap.size, 1, none⟩ = some (.slice A2 n2 c2) := hJ.cell 1
  have j2 : u.cell? ⟨w.heap.size, 2, none⟩ = some (.slice A3 n3 c3) := hJ.cell 2
  have HB := Lib.hid hb0
  clear hJ hb0 hz0
  show Calls _ _ _ _ fun e w' => e = .returned (.bool (smP n1 n2 n3)) ∧ Below w.heap.size w w'
  by_cases t1 : (n1 : Int) ≤ 300
  · by_cases t2 : (n2 : Int) ≤ 100
    · by_cases t3 : (n3 : Int) ≤ 100
      · by_cases t4 : 0 < (n1 : Int)
        · rw [show smP n1 n2 n3 = true from decide_eq_true (by omega)]
          have t5 : decide (0 < n1) = true := decide_eq_true (by omega)
          go_enter Try.func9, Try.ntmps9
          go_upto_region 1 with fail
          replace hu := hu.symm
          change _ = u at hu
          rw [hu]
          clear hu
          go_wp2_with fail
          go_ret
          first | exact ⟨rfl, HB.out⟩ | exact ⟨congrArg (fun z => Ending.returned (.bool z)) t5, HB.out⟩
        · rw [show smP n1 n2 n3 = false from decide_eq_false (by omega)]
          have t5 : decide (0 < n1) = false := decide_eq_false (by omega)
          go_enter Try.func9, Try.ntmps9
          go_upto_region 1 with fail
          replace hu := hu.symm
          change _ = u at hu
          rw [hu]
          clear hu
          go_wp2_with fail
          go_ret
          first | exact ⟨rfl, HB.out⟩ | exact ⟨congrArg (fun z => Ending.returned (.bool z)) t5, HB.out⟩
      · rw [show smP n1 n2 n3 = false from decide_eq_false (by omega)]
        go_enter Try.func9, Try.ntmps9
        go_upto_region 1 with fail
        replace hu := hu.symm
        change _ = u at hu
        rw [hu]
        clear hu
        go_wp2_with fail
        go_ret
        first | exact ⟨rfl, HB.out⟩ | exact ⟨congrArg (fun z => Ending.returned (.bool z)) t5, HB.out⟩
    · rw [show smP n1 n2 n3 = false from decide_eq_false (by omega)]
      go_enter Try.func9, Try.ntmps9
      go_upto_region 1 with fail
      replace hu := hu.symm
      change _ = u at hu
      rw [hu]
      clear hu
      go_wp2_with fail
      go_ret
      first | exact ⟨rfl, HB.out⟩ | exact ⟨congrArg (fun z => Ending.returned (.bool z)) t5, HB.out⟩
  · rw [show smP n1 n2 n3 = false from decide_eq_false (by omega)]
    go_enter Try.func9, Try.ntmps9
    go_upto_region 1 with fail
    replace hu := hu.symm
    change _ = u at hu
    rw [hu]
    clear hu
    go_wp2_with fail
    go_ret
    first | exact ⟨rfl, HB.out⟩ | exact ⟨congrArg (fun z => Ending.returned (.bool z)) t5, HB.out⟩
theorem ref_keep {w w' : World} {r mb c : Nat} {m : Nat → UInt8} {o : Option Nat} (h : RefP w r mb m c) (k : w.grownBy w' o) (h1 : ∀ l, o = some l → r ≠ l ∧ mb ≠ l) : RefP w' r mb m c :=
  ⟨has_grown h.1 k (fun l e => (h1 l e).1), h.2.kept k (fun e => (h1 mb e.symm).2 rfl)⟩
theorem below_trans' {B : Nat} {a b c : World} (h : Below B a b) (hB : B ≤ b.heap.size) (k : Below b.heap.size b c) : Below B a c := h.trans (k.mono hB)
/-- the slices of a job and of its spans -/
def Sls (ss : List Nat) (rs : List Re) (l : List (Nat × Nat)) (sy rl sp sl : Sl) (w : World) : Prop := SlN w sy ss ∧ SlR w rl rs ∧ SlG w sp l ∧ SlP w sl l
section
variable {ss : List Nat} {rs : List Re} {l : List (Nat × Nat)} {sy rl sp sl : Sl}
theorem sls_below {w w' : World} (h : Sls ss rs l sy rl sp sl w) (k : Below w.heap.size w w') : Sls ss rs l sy rl sp sl w' := ⟨h.1.below k, h.2.1.below k, h.2.2.1.below k, h.2.2.2.below k⟩
/-- a slice that lies in no block x -/
def offB (s : Sl) (x : Nat) : Prop := ∀ b o, s.A = some ⟨b, o, none⟩ → 0 < s.n → b ≠ x
theorem sls_grown {x : Nat} (h1 : offB sy x) (h2 : offB rl x) (h3 : offB sp x) (h4 : offB sl x) (w w' : World) (h : Sls ss rs l sy rl sp sl w) (k : w.grownBy w' (some x)) : Sls ss rs l sy rl sp sl w' :=
  have ne : ∀ {s : Sl}, offB s x → ∀ b o, s.A = some ⟨b, o, none⟩ → 0 < s.n → some x ≠ some b := fun hs b o e hn e2 => hs b o e hn (by injection e2 with e2; exact e2.symm)
  ⟨⟨h.1.1, h.1.2.1, h.1.2.2.grown k (ne h1)⟩, ⟨h.2.1.1, h.2.1.2.1, h.2.1.2.2.grown k (ne h2)⟩, ⟨h.2.2.1.1, h.2.2.1.2.1, h.2.2.1.2.2.grown k (ne h3)⟩, ⟨h.2.2.2.1, h.2.2.2.2.1, h.2.2.2.2.2.grown k (ne h4)⟩⟩
theorem slC_lt {w : World} {s : Sl} {k : Nat} {f : Nat → Nat → Value} (h : SlC w s k f) {b o : Nat} (e : s.A = some ⟨b, o, none⟩) (hn : 0 < s.n) : b < w.heap.size := by
  obtain ⟨b', o', e', hlt, _⟩ := h.2 hn
  rw [e] at e'
  injection e' with e'
  injection e' with e1 e2
  rw [e1]
  exact hlt
end
theorem inRam_spL (n k : Nat) (hk : k < n) (hn : n ≤ 300) : inRam (spL n k) := by
  intro x hx
  have : x = (2147487744, 4 * k) ∨ x = (2147487744 + 4 * k, 4 * (n - k)) := by simpa [spL] using hx
  rcases this with rfl | rfl <;> (dsimp only; omega)
set_option maxRecDepth 100000 in
set_option maxHeartbeats 8000000 in
theorem runs13_ok (H : RelocOK) (K : FitK) (xs ss : List Nat) (rs : List Re) (ws sy rl : Sl) (more : Nat) (split : Int) (w : World) (hW : SlN w ws xs) (hSy : SlN w sy ss) (hRl : SlR w rl rs) (hm : more < 4294967296) (hs : i64ok split) :
    Calls Try.prog 3 #[.agg (jC ws sy rl more split)] w fun e w' => e = .returned (.bool true) ∧ Below w.heap.size w w' := by
  obtain ⟨u, hu, hJ, hb0, hz0⟩ := one_new w (jC ws sy rl more split) 26
  obtain ⟨gJ, hgJ0⟩ : ∃ b, b = w.heap.size := ⟨_, rfl⟩
  rw [← hgJ0] at hJ
  have kF := K u
  have HJ := Lib.hid hJ
  have HB0 := Lib.hid hb0
  have HW := Lib.hid (hW.below hb0)
  have HSy := Lib.hid (hSy.below hb0)
  have HRl := Lib.hid (hRl.below hb0)
  have HS := Lib.hid hs
  have HM := Lib.hid hm
  clear hb0 hW hSy hRl hJ hz0 hs hm
  go_enter Try.func3, Try.ntmps3
  go_upto_region 1 with fail
  replace hu := hu.symm
  change _ = u at hu
  rw [hu, ← hgJ0]
  clear hu hgJ0
  obtain ⟨A1, n1, c1⟩ := ws
  obtain ⟨A2, n2, c2⟩ := sy
  obtain ⟨A3, n3, c3⟩ := rl
  go_upto_region 3 with (go_at_call 8; with_reducible refine kF.mono ?_; rintro e q1 ⟨rfl, hb1⟩)
  clear kF
  have HB1 := Lib.hid hb1
  have HJ1 := Lib.hid (HJ.out.after hb1)
  clear hb1
  have j0 : q1.cell? ⟨gJ, 0, none⟩ = some (.slice A1 n1 c1) := HJ1.out.cell 0
  have j1 : q1.cell? ⟨gJ, 1, none⟩ = some (.slice A2 n2 c2) := HJ1.out.cell 1
  have j2 : q1.cell? ⟨gJ, 2, none⟩ = some (.slice A3 n3 c3) := HJ1.out.cell 2
  have j3 : q1.cell? ⟨gJ, 3, none⟩ = some (.int .u32 (more : Int)) := HJ1.out.cell 3
  have j4 : q1.cell? ⟨gJ, 4, none⟩ = some (.int .i64 split) := HJ1.out.cell 4
  have kSm : Calls Try.prog 9 #[.agg #[.slice A1 n1 c1, .slice A2 n2 c2, .slice A3 n3 c3, .int .u32 (more : Int), .int .i64 split]] q1 fun e w' => e = .returned (.bool (smP n1 n2 n3)) ∧ Below q1.heap.size q1 w' := small_any ⟨A1, n1, c1⟩ ⟨A2, n2, c2⟩ ⟨A3, n3, c3⟩ more split q1
  by_cases hsm : smP n1 n2 n3 = true
  case neg =>
    rw [Bool.eq_false_iff.2 hsm] at kSm
    clear hsm
    go_wp2_with (go_at_call 9; with_reducible refine kSm.mono ?_; rintro e q2 ⟨rfl, hb2⟩)
    go_ret
    exact ⟨rfl, HB0.out.trans ((HB1.out.trans (hb2.mono HB1.out.size)).mono HB0.out.size)⟩
  case pos =>
    rw [hsm] at kSm
    have hsz : n1 ≤ 300 ∧ n2 ≤ 100 ∧ n3 ≤ 100 ∧ 0 < n1 := of_decide_eq_true hsm
    have HSZ := Lib.hid hsz
    clear hsm hsz
    go_upto_region 5 with (go_at_call 9; with_reducible refine kSm.mono ?_; rintro e q2 ⟨rfl, hb2⟩; clear j0 j1 j2 j3 j4)
    clear kSm
    have HB2 := Lib.hid (HB1.out.trans (hb2.mono HB1.out.size))
    have HJ2 := Lib.hid (HJ1.out.after hb2)
    clear hb2
    have j0 : q2.cell? ⟨gJ, 0, none⟩ = some (.slice A1 n1 c1) := HJ2.out.cell 0
    have j1 : q2.cell? ⟨gJ, 1, none⟩ = some (.slice A2 n2 c2) := HJ2.out.cell 1
    have j2 : q2.cell? ⟨gJ, 2, none⟩ = some (.slice A3 n3 c3) := HJ2.out.cell 2
    have j3 : q2.cell? ⟨gJ, 3, none⟩ = some (.int .u32 (more : Int)) := HJ2.out.cell 3
    have j4 : q2.cell? ⟨gJ, 4, none⟩ = some (.int .i64 split) := HJ2.out.cell 4
    have kL : Calls Try.prog 10 #[.agg #[.slice A1 n1 c1, .slice A2 n2 c2, .slice A3 n3 c3, .int .u32 (more : Int), .int .i64 split]] q2 fun e w' => LayO q2 w' xs.length more (wordsM xs xs.length) e ∧ Below q2.heap.size q2 w' :=
      lay_any xs ⟨A1, n1, c1⟩ ⟨A2, n2, c2⟩ ⟨A3, n3, c3⟩ more split q2 (HW.out.below HB2.out) (by have := HW.out.1; have := HSZ.out; dsimp only at *; omega) (by have := HW.out.1; have := HSZ.out; dsimp only at *; omega) HM.out HS.out
    obtain ⟨B, hB⟩ : ∃ B, B = (2147487744 + more) % 4294967296 := ⟨_, rfl⟩
    have hBl : B < 4294967296 := by omega
    unfold LayO at kL
    rw [← hB] at kL
    obtain ⟨M, hMx⟩ : ∃ M, M = wordsM xs xs.length := ⟨_, rfl⟩
    rw [← hMx] at kL
    clear hB hMx
    go_wp2_with fail
    refine kL.mono ?_
    clear j0 j1 j2 j3 j4 kL
    rintro e q3 ⟨⟨g, r, mb, bp, bq, k, rfl, hk, hG, hR, hSG, hSP, hg0, hm0, hr0, hbp0, hbq0, hgm, hpg, hpm, hqg, hqm⟩, hb3⟩
    dsimp only
    have hu2 := HB2.out.size
    have HB3 := Lib.hid (HB2.out.trans (hb3.mono HB2.out.size))
    have HJ3 := Lib.hid (HJ2.out.after hb3)
    have j1 : q3.cell? ⟨gJ, 1, none⟩ = some (.slice A2 n2 c2) := HJ3.out.cell 1
    have j2 : q3.cell? ⟨gJ, 2, none⟩ = some (.slice A3 n3 c3) := HJ3.out.cell 2
    go_upto_region 7 with fail
    obtain ⟨w0, hw0, hF, hb4, hz4⟩ := one_new q3 (fC 0 nilS ⟨A3, n3, c3⟩ ⟨A2, n2, c2⟩) 36
    change Code.wp _ _ _ _ (q3.alloc (.cells (fC 0 nilS ⟨A3, n3, c3⟩ ⟨A2, n2, c2⟩) 36))
    rw [← hw0]
    obtain ⟨gF, hgF⟩ : ∃ b, b = q3.heap.size := ⟨_, rfl⟩
    rw [← hgF] at hF ⊢
    obtain ⟨MA, hMA⟩ : ∃ MA, MA = (allP ss rs B (spL xs.length k) M rs).2 := ⟨_, rfl⟩
    obtain ⟨er, her⟩ : ∃ er, er = (allP ss rs B (spL xs.length k) M rs).1 := ⟨_, rfl⟩
    obtain ⟨l, hl⟩ : ∃ l, l = spL xs.length k := ⟨_, rfl⟩
    have hxl : xs.length = n1 := HW.out.1
    have hrsl : rs.length = n3 := HRl.out.1
    have hram : inRam l := by rw [hl]; exact inRam_spL _ _ hk (by have := HSZ.out; omega)
    rw [← hl] at hMA her hSG hSP
    obtain ⟨U, hU⟩ : ∃ U, U = u.heap.size := ⟨_, rfl⟩
    obtain ⟨S0, hS0'⟩ : ∃ S, S = w0.heap.size := ⟨_, rfl⟩
    have hgU : U ≤ g := by omega
    have hmU : U ≤ mb := by omega
    have hG0l := hG.lt
    have hR0l := hR.1.lt
    have hR1l := hR.2.lt
    have hFg : gF ≠ g := by omega
    have hFm : gF ≠ mb := by omega
    have hgr : g ≠ r := by
      intro e
      obtain ⟨N, _, hGG⟩ := hG
      have h1 := hR.1
      rw [← e] at h1
      have := h1.symm.trans hGG
      injection this with h2
      injection h2 with h3 h4
      exact absurd h4 (by decide)
    have hmr : mb ≠ r := fun e => absurd (hR.2.has_ne hR.1) (by simp [e])
    have HKg : Hid (∀ w w', Sls ss rs l ⟨A2, n2, c2⟩ ⟨A3, n3, c3⟩ ⟨some ⟨bp, 0, none⟩, 2, 2⟩ ⟨some ⟨bq, 0, none⟩, 2, 2⟩ w → w.grownBy w' (some g) → Sls ss rs l ⟨A2, n2, c2⟩ ⟨A3, n3, c3⟩ ⟨some ⟨bp, 0, none⟩, 2, 2⟩ ⟨some ⟨bq, 0, none⟩, 2, 2⟩ w') := Lib.hid (sls_grown
      (fun b o e hn => by have := slC_lt HSy.out.2.2 e hn; omega) (fun b o e hn => by have := slC_lt HRl.out.2.2 e hn; omega)
      (fun b o e _ => by injection e with e; injection e with e; omega) (fun b o e _ => by injection e with e; injection e with e; omega))
    have HKm : Hid (∀ w w', Sls ss rs l ⟨A2, n2, c2⟩ ⟨A3, n3, c3⟩ ⟨some ⟨bp, 0, none⟩, 2, 2⟩ ⟨some ⟨bq, 0, none⟩, 2, 2⟩ w → w.grownBy w' (some mb) → Sls ss rs l ⟨A2, n2, c2⟩ ⟨A3, n3, c3⟩ ⟨some ⟨bp, 0, none⟩, 2, 2⟩ ⟨some ⟨bq, 0, none⟩, 2, 2⟩ w') := Lib.hid (sls_grown
      (fun b o e hn => by have := slC_lt HSy.out.2.2 e hn; omega) (fun b o e hn => by have := slC_lt HRl.out.2.2 e hn; omega)
      (fun b o e _ => by injection e with e; injection e with e; omega) (fun b o e _ => by injection e with e; injection e with e; omega))
    have HSl : Hid (Sls ss rs l ⟨A2, n2, c2⟩ ⟨A3, n3, c3⟩ ⟨some ⟨bp, 0, none⟩, 2, 2⟩ ⟨some ⟨bq, 0, none⟩, 2, 2⟩ w0) := Lib.hid ⟨(HSy.out.below HB3.out).below hb4, (HRl.out.below HB3.out).below hb4, hSG.below hb4, hSP.below hb4⟩
    have HBe : Hid (Below U u w0) := Lib.hid (by rw [hU]; exact HB3.out.trans (hb4.mono HB3.out.size))
    have HF := Lib.hid hF
    have HG := Lib.hid (hG.after hb4)
    have HR := Lib.hid (hR.after hb4)
    have KP : Hid (∀ W, W.heap.size = S0 → Sls ss rs l ⟨A2, n2, c2⟩ ⟨A3, n3, c3⟩ ⟨some ⟨bp, 0, none⟩, 2, 2⟩ ⟨some ⟨bq, 0, none⟩, 2, 2⟩ W → RamP W g M → Calls Try.prog 11 #[mP g, .agg (fC 0 nilS ⟨A3, n3, c3⟩ ⟨A2, n2, c2⟩), .int .u32 (B : Int), .slice (some ⟨bp, 0, none⟩) 2 2] W fun e w' => e = .returned (.int .i64 er) ∧ RamP w' g MA ∧ W.grownBy w' (some g) ∧ W.heap.size < w'.heap.size) := Lib.hid (fun W _ hsl hg => by
      have := H.more ss rs l B 0 g M nilS ⟨A3, n3, c3⟩ ⟨A2, n2, c2⟩ ⟨some ⟨bp, 0, none⟩, 2, 2⟩ W (fun w' hk => ⟨(HKg.out _ _ hsl hk).1, (HKg.out _ _ hsl hk).2.1, (HKg.out _ _ hsl hk).2.2.1⟩) hram hBl (by have := HSZ.out; omega) hg
      rw [← hMA, ← her] at this
      exact this)
    have KQ : Hid (∀ W, Sls ss rs l ⟨A2, n2, c2⟩ ⟨A3, n3, c3⟩ ⟨some ⟨bp, 0, none⟩, 2, 2⟩ ⟨some ⟨bq, 0, none⟩, 2, 2⟩ W → RefP W r mb M 1200 → Calls Try.prog 12 #[mP r, .agg (fC 0 nilS ⟨A3, n3, c3⟩ ⟨A2, n2, c2⟩), .int .i64 (B : Int), .slice (some ⟨bq, 0, none⟩) 2 2] W fun e w' => e = .returned (.int .i64 er) ∧ RefP w' r mb MA (1200 + 8 * rs.length) ∧ W.grownBy w' (some mb)) := Lib.hid (fun W hsl hr => by
      have := rapply_any ss rs l B 0 r mb 1200 M nilS ⟨A3, n3, c3⟩ ⟨A2, n2, c2⟩ ⟨some ⟨bq, 0, none⟩, 2, 2⟩ W (fun w' hk => ⟨(HKm.out _ _ hsl hk).1, (HKm.out _ _ hsl hk).2.1, (HKm.out _ _ hsl hk).2.2.2⟩) hBl hr (by decide) (by have := HSZ.out; omega)
      rw [← hMA, ← her] at this
      exact this)
    have hS0 : w0.heap.size = S0 := hS0'.symm
    have hUu : U ≤ u.heap.size := by omega
    have hUw0 : U ≤ w0.heap.size := by have := HB3.out.size; have := hb4.size; omega
    have HUw : Hid (w.heap.size ≤ U) := Lib.hid (by rw [hU]; exact HB0.out.size)
    have HUe : Hid (U = u.heap.size) := Lib.hid hU
    generalize 1200 + 8 * rs.length = cc at *
    clear hw0 hF hb4 hz4 hgF hMA her hl hU hS0' hb3 hG hR hSG hSP j1 j2 hxl hrsl hram hg0 hm0 hr0 hbp0 hbq0 hu2 hk HJ HJ1 HJ2 HJ3 HW HSy HRl HS HM HSZ HB1 HB2 HB3
    refine region_simL [mP g, .agg (fC 0 nilS ⟨A3, n3, c3⟩ ⟨A2, n2, c2⟩), .int .u32 (B : Int), .slice (some ⟨bp, 0, none⟩) 2 2, undef, mP r, .agg (fC 0 nilS ⟨A3, n3, c3⟩ ⟨A2, n2, c2⟩), .int .u32 (B : Int), .int .i64 (B : Int), .slice (some ⟨bq, 0, none⟩) 2 2, undef, undef, undef, mP g, mP r, .bool true, .bool true, .bool true] [(4, fun x w' => x = .int .i64 er ∧ RamP w' g MA ∧ S0 < w'.heap.size), (10, fun x w' => x = .int .i64 er ∧ RefP w' r mb MA cc), (11, fun x w' => x = .bool true ∧ RamP w' g MA ∧ RefP w' r mb MA cc ∧ S0 < w'.heap.size), (12, fun x w' => x = .bool true ∧ RamP w' g MA ∧ RefP w' r mb MA cc ∧ S0 < w'.heap.size)] [(4, fun w' => w'.heap.size = S0 ∧ RamP w' g M), (10, fun w' => RefP w' r mb M 1200)] [(4, fun w' w'' => w'.heap.size = S0 ∧ S0 < w''.heap.size ∧ w'.grownBy w'' (some g)), (10, fun w' w'' => w'.grownBy w'' (some mb)), (15, fun w' w'' => S0 < w'.heap.size ∧ Below w'.heap.size w' w'')] (fun w' => Below U u w' ∧ Has w' gF 36 (fC 0 nilS ⟨A3, n3, c3⟩ ⟨A2, n2, c2⟩) ∧ Sls ss rs l ⟨A2, n2, c2⟩ ⟨A3, n3, c3⟩ ⟨some ⟨bp, 0, none⟩, 2, 2⟩ ⟨some ⟨bq, 0, none⟩, 2, 2⟩ w') 44 (by kernel_rfl) rfl (by kernel_rfl) ?_ ?_ ?_ ?_ ?_ (by decide) ?_
    · intro w' hb he
      refine ⟨⟨HBe.out.trans (hb.mono hUw0), HF.out.after hb, sls_below HSl.out hb⟩, ?_⟩
      simp only [List.forall_mem_cons, List.not_mem_nil, false_implies, implies_true, and_true]
      exact ⟨⟨by rw [he]; exact hS0, HG.out.after hb⟩, HR.out.after hb⟩
    · simp only [List.forall_mem_cons, List.not_mem_nil, false_implies, implies_true, and_true]
      exact ⟨fun w' w'' h hy => ⟨below_only h.1 hy.2.2 hgU (Nat.le_trans hUu h.1.size), has_by h.2.1 hy.2.2 hFg, HKg.out _ _ h.2.2 hy.2.2⟩, fun w' w'' h hy => ⟨below_only h.1 hy hmU (Nat.le_trans hUu h.1.size), has_by h.2.1 hy hFm, HKm.out _ _ h.2.2 hy⟩, fun w' w'' h hy => ⟨below_trans' h.1 (Nat.le_trans hUu h.1.size) hy.2, h.2.1.after hy.2, sls_below h.2.2 hy.2⟩⟩
    · simp only [List.forall_mem_cons, List.not_mem_nil, false_implies, implies_true, and_true]
      refine ⟨⟨fun h => absurd rfl h, fun _ _ x w' w'' hb ⟨e, h1, h2⟩ hy => ⟨e, h1.grown hy (fun l e => by injection e with e; omega), Nat.lt_of_lt_of_le h2 hy.size⟩, fun _ _ x w' w'' hb ⟨e, h1, h2⟩ hy => ⟨e, h1.after hy.2, Nat.lt_of_lt_of_le h2 hy.2.size⟩⟩,
        ⟨fun _ h => absurd h (by decide +kernel), fun h => absurd rfl h, fun _ _ x w' w'' hb ⟨e, h1⟩ hy => ⟨e, h1.after hy.2⟩⟩,
        ⟨fun _ h => absurd h (by decide +kernel), fun _ h => absurd h (by decide +kernel), fun _ _ x w' w'' hb ⟨e, h1, h2, h3⟩ hy => ⟨e, h1.after hy.2, h2.after hy.2, Nat.lt_of_lt_of_le h3 hy.2.size⟩⟩,
        ⟨fun _ _ x w' w'' hb ⟨e, h1, h2, h3⟩ hy => absurd hy.1 (by omega), fun _ h => absurd h (by decide +kernel), fun _ _ x w' w'' hb ⟨e, h1, h2, h3⟩ hy => ⟨e, h1.after hy.2, h2.after hy.2, Nat.lt_of_lt_of_le h3 hy.2.size⟩⟩⟩
    · simp only [List.forall_mem_cons, List.not_mem_nil, false_implies, implies_true, and_true]
      refine ⟨⟨fun h => absurd rfl h, fun _ h => absurd h (by decide +kernel), fun _ _ w' w'' hb h hy => absurd hy.1 (by have := h.1; omega)⟩,
        ⟨fun _ _ w' w'' hb h hy => ref_keep h hy.2.2 (fun l e => by injection e with e; omega), fun h => absurd rfl h, fun _ _ w' w'' hb h hy => h.after hy.2⟩⟩
    · refine ⟨⟨?_, ?_⟩, ⟨?_, ?_⟩, ⟨?_, ?_⟩, ⟨?_, ?_⟩, ⟨?_, ?_⟩, ⟨?_, ?_⟩, ⟨?_, ?_⟩, ⟨?_, ?_⟩, ⟨?_, ?_⟩, ⟨?_, ?_⟩, ⟨?_, ?_⟩, ⟨?_, ?_⟩, ⟨?_, ?_⟩, ⟨?_, ?_⟩, ⟨?_, ?_⟩, ⟨?_, ?_⟩, ⟨?_, ?_⟩, ⟨?_, ?_⟩, trivial⟩
      · intro v w' AA hAA hg hf hl hgd K hK
        exact pure_step (mP g) (fun ρ hρ => by
          have e3 : ρ (.tmp 3) = mP g := by rw [hρ]; exact hAA.2 3 (by simp)
          clear hρ hf hAA hl hK hg
          go_simp) (hK _ _ rfl ⟨rfl, hg.2⟩)
      · trivial
      · intro v w' AA hAA hg hf hl hgd K hK
        have hld := load_file hg.2.2.1 (fC_len _ _ _ _)
        exact pure_step (.agg (fC 0 nilS ⟨A3, n3, c3⟩ ⟨A2, n2, c2⟩)) (fun ρ hρ => by
          have e8 : ρ (.tmp 8) = .pointer (some ⟨gF, 0, none⟩) := by rw [hρ]; exact hAA.2 8 (by simp)
          clear hρ hf hAA hl hK hg
          simp only [execOp, e8]
          rw [Sem.run_bind, hld]
          rfl) (hK _ _ rfl ⟨rfl, hg.2⟩)
      · trivial
      · intro v w' AA hAA hg hf hl hgd K hK
        exact pure_step (.int .u32 (B : Int)) (fun ρ hρ => by
          have e7 : ρ (.tmp 7) = .int .u32 (B : Int) := by rw [hρ]; exact hAA.2 7 (by simp)
          clear hρ hf hAA hl hK hg
          go_simp) (hK _ _ rfl ⟨rfl, hg.2⟩)
      · trivial
      · intro v w' AA hAA hg hf hl hgd K hK
        exact pure_step (.slice (some ⟨bp, 0, none⟩) 2 2) (fun ρ hρ => by
          have e5 : ρ (.tmp 5) = .slice (some ⟨bp, 0, none⟩) 2 2 := by rw [hρ]; exact hAA.2 5 (by simp)
          clear hρ hf hAA hl hK hg
          go_simp) (hK _ _ rfl ⟨rfl, hg.2⟩)
      · trivial
      · intro v w' AA hAA hg hf hl hgd K hK
        refine call_step 11 #[mP g, .agg (fC 0 nilS ⟨A3, n3, c3⟩ ⟨A2, n2, c2⟩), .int .u32 (B : Int), .slice (some ⟨bp, 0, none⟩) 2 2] (fun ρ hρ => by
          have hfun : ∀ f, ρ (.func f) = .func (.func f) #[] #[] := fun f => by rw [hρ]; rfl
          have e27 : ρ (.tmp 27) = mP g := by rw [hρ]; exact (hAA.1 0 _ 27 rfl rfl).trans (hf ⟨0, .data⟩ (by simp) rfl).1
          have e28 : ρ (.tmp 28) = .agg (fC 0 nilS ⟨A3, n3, c3⟩ ⟨A2, n2, c2⟩) := by rw [hρ]; exact (hAA.1 1 _ 28 rfl rfl).trans (hf ⟨1, .data⟩ (by simp) rfl).1
          have e29 : ρ (.tmp 29) = .int .u32 (B : Int) := by rw [hρ]; exact (hAA.1 2 _ 29 rfl rfl).trans (hf ⟨2, .data⟩ (by simp) rfl).1
          have e30 : ρ (.tmp 30) = .slice (some ⟨bp, 0, none⟩) 2 2 := by rw [hρ]; exact (hAA.1 3 _ 30 rfl rfl).trans (hf ⟨3, .data⟩ (by simp) rfl).1
          clear hρ hf hAA hl hK hg
          go_simp) ?_
        refine (KP.out w' hg.1.1 hg.2.2.2 hg.1.2).mono ?_
        rintro e w'' ⟨rfl, hG, hy, hlt⟩
        exact ⟨_, rfl, hK _ _ ⟨hg.1.1, by have := hg.1.1; omega, hy⟩ ⟨⟨rfl, hG, by have := hg.1.1; omega⟩, ⟨below_only hg.2.1 hy hgU (Nat.le_trans hUu hg.2.1.size), has_by hg.2.2.1 hy hFg, HKg.out _ _ hg.2.2.2 hy⟩⟩⟩
      · trivial
      · intro v w' AA hAA hg hf hl hgd K hK
        exact pure_step (mP r) (fun ρ hρ => by
          have e4 : ρ (.tmp 4) = mP r := by rw [hρ]; exact hAA.2 4 (by simp)
          clear hρ hf hAA hl hK hg
          go_simp) (hK _ _ rfl ⟨rfl, hg.2⟩)
      · trivial
      · intro v w' AA hAA hg hf hl hgd K hK
        have hld := load_file hg.2.2.1 (fC_len _ _ _ _)
        exact pure_step (.agg (fC 0 nilS ⟨A3, n3, c3⟩ ⟨A2, n2, c2⟩)) (fun ρ hρ => by
          have e8 : ρ (.tmp 8) = .pointer (some ⟨gF, 0, none⟩) := by rw [hρ]; exact hAA.2 8 (by simp)
          clear hρ hf hAA hl hK hg
          simp only [execOp, e8]
          rw [Sem.run_bind, hld]
          rfl) (hK _ _ rfl ⟨rfl, hg.2⟩)
      · trivial
      · intro v w' AA hAA hg hf hl hgd K hK
        exact pure_step (.int .u32 (B : Int)) (fun ρ hρ => by
          have e7 : ρ (.tmp 7) = .int .u32 (B : Int) := by rw [hρ]; exact hAA.2 7 (by simp)
          clear hρ hf hAA hl hK hg
          go_simp) (hK _ _ rfl ⟨rfl, hg.2⟩)
      · trivial
      · intro v w' AA hAA hg hf hl hgd K hK
        exact pure_step (.int .i64 (B : Int)) (fun ρ hρ => by
          have e34 : ρ (.tmp 34) = .int .u32 (B : Int) := by rw [hρ]; exact (hAA.1 7 _ 34 rfl rfl).trans (hf ⟨7, .data⟩ (by simp) rfl).1
          clear hρ hf hAA hl hK hg
          have hwr : IntKind.i64.wrap (B : Int) = (B : Int) := IntWalk.i64_in _ (by omega)
          go_simp) (hK _ _ rfl ⟨rfl, hg.2⟩)
      · trivial
      · intro v w' AA hAA hg hf hl hgd K hK
        exact pure_step (.slice (some ⟨bq, 0, none⟩) 2 2) (fun ρ hρ => by
          have e6 : ρ (.tmp 6) = .slice (some ⟨bq, 0, none⟩) 2 2 := by rw [hρ]; exact hAA.2 6 (by simp)
          clear hρ hf hAA hl hK hg
          go_simp) (hK _ _ rfl ⟨rfl, hg.2⟩)
      · trivial
      · intro v w' AA hAA hg hf hl hgd K hK
        refine call_step 12 #[mP r, .agg (fC 0 nilS ⟨A3, n3, c3⟩ ⟨A2, n2, c2⟩), .int .i64 (B : Int), .slice (some ⟨bq, 0, none⟩) 2 2] (fun ρ hρ => by
          have hfun : ∀ f, ρ (.func f) = .func (.func f) #[] #[] := fun f => by rw [hρ]; rfl
          have e32 : ρ (.tmp 32) = mP r := by rw [hρ]; exact (hAA.1 5 _ 32 rfl rfl).trans (hf ⟨5, .data⟩ (by simp) rfl).1
          have e33 : ρ (.tmp 33) = .agg (fC 0 nilS ⟨A3, n3, c3⟩ ⟨A2, n2, c2⟩) := by rw [hρ]; exact (hAA.1 6 _ 33 rfl rfl).trans (hf ⟨6, .data⟩ (by simp) rfl).1
          have e35 : ρ (.tmp 35) = .int .i64 (B : Int) := by rw [hρ]; exact (hAA.1 8 _ 35 rfl rfl).trans (hf ⟨8, .data⟩ (by simp) rfl).1
          have e36 : ρ (.tmp 36) = .slice (some ⟨bq, 0, none⟩) 2 2 := by rw [hρ]; exact (hAA.1 9 _ 36 rfl rfl).trans (hf ⟨9, .data⟩ (by simp) rfl).1
          clear hρ hf hAA hl hK hg
          go_simp) ?_
        refine (KQ.out w' hg.2.2.2 hg.1).mono ?_
        rintro e w'' ⟨rfl, hR, hy⟩
        exact ⟨_, rfl, hK _ _ hy ⟨⟨rfl, hR⟩, ⟨below_only hg.2.1 hy hmU (Nat.le_trans hUu hg.2.1.size), has_by hg.2.2.1 hy hFm, HKm.out _ _ hg.2.2.2 hy⟩⟩⟩
      · trivial
      · intro v w' AA hAA hg hf hl hgd K hK
        obtain ⟨⟨hv4, hG4, hs4⟩, _⟩ := hf ⟨4, .data⟩ (by simp) rfl
        obtain ⟨⟨hv10, hR10⟩, _⟩ := hf ⟨10, .data⟩ (by simp) rfl
        exact pure_step (.bool true) (fun ρ hρ => by
            have e31 : ρ (.tmp 31) = .int .i64 er := by rw [hρ]; exact (hAA.1 4 _ 31 rfl rfl).trans hv4
            have e37 : ρ (.tmp 37) = .int .i64 er := by rw [hρ]; exact (hAA.1 10 _ 37 rfl rfl).trans hv10
            clear hρ hf hAA hl hK hg
            go_simp
            ) (hK _ _ rfl ⟨⟨rfl, hG4, hR10, hs4⟩, hg.2⟩)
      · trivial
      · intro v w' AA hAA hg hf hl hgd K hK
        obtain ⟨⟨hv11, hG11, hR11, hs11⟩, _⟩ := hf ⟨11, .data⟩ (by simp) rfl
        exact pure_step (.bool true) (fun ρ hρ => by
            have e38 : ρ (.tmp 38) = .bool true := by rw [hρ]; exact (hAA.1 11 _ 38 rfl rfl).trans hv11
            clear hρ hf hAA hl hK hg
            go_simp
            ) (hK _ _ rfl ⟨⟨rfl, hG11, hR11, hs11⟩, hg.2⟩)
      · trivial
      · intro v w' AA hAA hg hf hl hgd K hK
        exact pure_step (mP g) (fun ρ hρ => by
          have e3 : ρ (.tmp 3) = mP g := by rw [hρ]; exact hAA.2 3 (by simp)
          clear hρ hf hAA hl hK hg
          go_simp) (hK _ _ rfl ⟨rfl, hg.2⟩)
      · intro v w' hF hne
        exact absurd (by rw [hF.1.1]; rfl) hne
      · intro v w' AA hAA hg hf hl hgd K hK
        exact pure_step (mP r) (fun ρ hρ => by
          have e4 : ρ (.tmp 4) = mP r := by rw [hρ]; exact hAA.2 4 (by simp)
          clear hρ hf hAA hl hK hg
          go_simp) (hK _ _ rfl ⟨rfl, hg.2⟩)
      · intro v w' hF hne
        exact absurd (by rw [hF.1.1]; rfl) hne
      · intro v w' AA hAA hg hf hl hgd K hK
        obtain ⟨⟨hv12, hG12, hR12, hs12⟩, _⟩ := hf ⟨12, .chain⟩ (by simp) rfl
        refine call_step 13 #[mP g, mP r] (fun ρ hρ => by
          have hfun : ∀ f, ρ (.func f) = .func (.func f) #[] #[] := fun f => by rw [hρ]; rfl
          have e40 : ρ (.tmp 40) = mP g := by rw [hρ]; exact (hAA.1 13 _ 40 rfl rfl).trans (hf ⟨13, .data⟩ (by simp) rfl).1
          have e41 : ρ (.tmp 41) = mP r := by rw [hρ]; exact (hAA.1 14 _ 41 rfl rfl).trans (hf ⟨14, .data⟩ (by simp) rfl).1
          clear hρ hf hAA hl hK hg
          go_simp) ?_
        refine (like13_mem MA g r mb cc w' hG12 hR12).mono ?_
        rintro e w'' ⟨rfl, hb⟩
        exact ⟨_, rfl, hK _ _ ⟨hs12, hb⟩ ⟨rfl, below_trans' hg.2.1 (Nat.le_trans hUu hg.2.1.size) hb, hg.2.2.1.after hb, sls_below hg.2.2.2 hb⟩⟩
      · intro v w' hF hne
        exact absurd (by rw [hF.1.1]; rfl) hne
      · intro v w' AA hAA hg hf hl hgd K hK
        exact pure_step (.bool true) (fun ρ hρ => by
          have hcst : ∀ x, ρ (.const x) = x := fun x => by rw [hρ]; rfl
          obtain ⟨⟨hv12, hG12, hR12, hs12⟩, _⟩ := hf ⟨12, .data⟩ (by simp) rfl
          have e39 : ρ (.tmp 39) = .bool true := by rw [hρ]; exact (hAA.1 12 _ 39 rfl rfl).trans hv12
          have e42 : ρ (.tmp 42) = .bool true := by rw [hρ]; exact (hAA.1 15 _ 42 rfl rfl).trans (hf ⟨15, .data⟩ (by simp) rfl).1
          clear hρ hf hAA hl hK hg
          go_simp) (hK _ _ rfl ⟨rfl, hg.2⟩)
      · trivial
      · intro v w' AA hAA hg hf hl hgd K hK
        exact pure_step (.bool true) (fun ρ hρ => by
          have e43 : ρ (.tmp 43) = .bool true := by rw [hρ]; exact (hAA.1 16 _ 43 rfl rfl).trans (hf ⟨16, .data⟩ (by simp) rfl).1
          clear hρ hf hAA hl hK hg
          go_simp) (hK _ _ rfl ⟨rfl, hg.2⟩)
      · trivial
    intro v wE hIE hE
    have f0 : v 0 = mP g := (hE 0 (by decide)).1
    have f1 : v 1 = .agg (fC 0 nilS ⟨A3, n3, c3⟩ ⟨A2, n2, c2⟩) := (hE 1 (by decide)).1
    have f2 : v 2 = .int .u32 (B : Int) := (hE 2 (by decide)).1
    have f3 : v 3 = .slice (some ⟨bp, 0, none⟩) 2 2 := (hE 3 (by decide)).1
    obtain ⟨⟨hv4, hG4, hs4⟩, _⟩ := hE 4 (by decide)
    have f5 : v 5 = mP r := (hE 5 (by decide)).1
    have f6 : v 6 = .agg (fC 0 nilS ⟨A3, n3, c3⟩ ⟨A2, n2, c2⟩) := (hE 6 (by decide)).1
    have f7 : v 7 = .int .u32 (B : Int) := (hE 7 (by decide)).1
    have f8 : v 8 = .int .i64 (B : Int) := (hE 8 (by decide)).1
    have f9 : v 9 = .slice (some ⟨bq, 0, none⟩) 2 2 := (hE 9 (by decide)).1
    obtain ⟨⟨hv10, hR10⟩, _⟩ := hE 10 (by decide)
    obtain ⟨⟨hv11, hG11, hR11, hs11⟩, _⟩ := hE 11 (by decide)
    obtain ⟨⟨hv12, hG12, hR12, hs12⟩, _⟩ := hE 12 (by decide)
    have f13 : v 13 = mP g := (hE 13 (by decide)).1
    have f14 : v 14 = mP r := (hE 14 (by decide)).1
    have f15 : v 15 = .bool true := (hE 15 (by decide)).1
    have f16 : v 16 = .bool true := (hE 16 (by decide)).1
    have f17 : v 17 = .bool true := (hE 17 (by decide)).1
    clear hE
    simp only [putAll, Act.put, List.setIfInBounds_toArray, List.set_cons_zero, List.set_cons_succ, Nat.zero_add, Nat.reduceAdd]
    rw [f0, f1, f2, f3, hv4, f5, f6, f7, f8, f9, hv10, hv11, hv12, f13, f14, f15, f16, f17]
    clear f0 f1 f2 f3 f5 f6 f7 f8 f9 f13 f14 f15 f16 f17
    have HIE := Lib.hid hIE
    clear hIE
    go_wp2_with fail
    go_ret
    exact ⟨rfl, HB0.out.trans (HIE.out.1.mono HUw.out)⟩
end Go.Proofs.Ytegaiphhoinilaa.Rc
