/-
Layer 13: the reference's Apply.
-/
import Derived.Test.YtegaiphhoinilaaRcF
namespace Go.Proofs.Ytegaiphhoinilaa.Rc
open Go Go.RowKit

/-- the slices stay while only the map grows -/
def KeepS (w : World) (mb : Nat) (ss : List Nat) (rs : List Re) (l : List (Nat × Nat)) (sy rl sp : Sl) : Prop :=
  ∀ w', w.grownBy w' (some mb) → SlN w' sy ss ∧ SlR w' rl rs ∧ SlP w' sp l
theorem has_by {w w' : World} {g mb : Nat} {t : TypeId} {cs : Array Value} (h : Has w g t cs) (k : w.grownBy w' (some mb)) (hne : g ≠ mb) : Has w' g t cs :=
  has_grown h k (fun l hl => by injection hl with hl; rw [← hl]; exact hne)
theorem mod_w (x : Nat) : (x : Int).tmod 4096 = ((x % 4096 : Nat) : Int) := by
  rw [Int.tmod_eq_emod_of_nonneg (by omega)]; omega
theorem mod_w' (x : Nat) : (x : Int) % 4096 = ((x % 4096 : Nat) : Int) := by omega
theorem val_18 (ss : List Nat) (rs : List Re) (B : Nat) (r : Re) (h : r.t = 18 ∨ r.t = 19) : valP ss rs B r = .num .U (wayP ss B r) := by
  unfold valP
  rw [if_neg (by omega), if_neg (by omega), if_neg (by omega), if_neg (by omega), if_pos (by omega)]
theorem ldV_lt (m : Nat → UInt8) (x : Nat) : ldV m x 4 < 4294967296 := by
  unfold ldV
  split
  · exact ldN_lt m 4 _
  · decide
theorem stB_le {x : Nat} (h : stB x 4 = true) : x + 4 ≤ 2147549184 ∧ 2147483648 ≤ x := by
  unfold stB inR inB at h
  simp at h
  omega
set_option maxRecDepth 100000 in
set_option maxHeartbeats 16000000 in
theorem rapply_any (ss : List Nat) (rs : List Re) (l : List (Nat × Nat)) (B en r mb c : Nat) (m : Nat → UInt8) (sg rl sy sp : Sl) (w : World) (hK : KeepS w mb ss rs l sy rl sp) (hB : B < 4294967296) (hR : RefP w r mb m c) (hc : c ≤ 800000) (hn : rs.length ≤ 10000) :
    Calls Try.prog 12 #[mP r, .agg (fC en sg rl sy), .int .i64 (B : Int), sp.v] w fun e w' => e = .returned (.int .i64 (allP ss rs B l m rs).1) ∧ RefP w' r mb (allP ss rs B l m rs).2 (c + 8 * rs.length) ∧ w.grownBy w' (some mb) := by
  have hmb : mb < w.heap.size := hR.2.lt
  have hlen : rs.length = rl.n := (hK w (World.grownBy.refl _ _)).2.1.1
  have h47 : rl.n ≤ 140737488355328 := (hK w (World.grownBy.refl _ _)).2.1.2.2.1.2
  obtain ⟨A1, n1, c1⟩ := sg
  obtain ⟨A2, n2, c2⟩ := rl
  obtain ⟨A, k, d⟩ := sy
  obtain ⟨A4, n4, c4⟩ := sp
  dsimp only at hlen h47
  have hF0 : Has (w.alloc (.cells (fC en ⟨A1, n1, c1⟩ ⟨A2, n2, c2⟩ ⟨A, k, d⟩) 36)) w.heap.size 36 (fC en ⟨A1, n1, c1⟩ ⟨A2, n2, c2⟩ ⟨A, k, d⟩) := Has.new _ _ _
  have hb0 : Below w.heap.size w (w.alloc (.cells (fC en ⟨A1, n1, c1⟩ ⟨A2, n2, c2⟩ ⟨A, k, d⟩) 36)) := (Below.refl _ _).alloc (Nat.le_refl _) _
  obtain ⟨ev, hev⟩ : ∃ ev, ev = (allP ss rs B l m rs).1 := ⟨_, rfl⟩
  obtain ⟨M, hM⟩ : ∃ M, M = (allP ss rs B l m rs).2 := ⟨_, rfl⟩
  have HA0 : Hid (allP ss rs B l m (rs.drop 0) = (ev, M)) := Lib.hid (by rw [List.drop_zero, hev, hM])
  rw [← hev, ← hM]
  have HK := Lib.hid hK
  have HC := Lib.hid hc
  have HN := Lib.hid hn
  clear hev hM hK hc hn
  show Calls Try.prog 12 #[mP r, .agg (fC en ⟨A1, n1, c1⟩ ⟨A2, n2, c2⟩ ⟨A, k, d⟩), .int .i64 (B : Int), .slice A4 n4 c4] w _
  go_enter Try.func12, Try.ntmps12
  go_upto_region 1 with fail
  have hR1 := hR.after hb0
  have hsz : (w.alloc (.cells (fC en ⟨A1, n1, c1⟩ ⟨A2, n2, c2⟩ ⟨A, k, d⟩) 36)).heap.size = w.heap.size + 1 := Array.size_push _
  generalize (w.alloc (.cells (fC en ⟨A1, n1, c1⟩ ⟨A2, n2, c2⟩ ⟨A, k, d⟩) 36)) = u at *
  obtain ⟨gF, hgF0⟩ : ∃ g, g = w.heap.size := ⟨_, rfl⟩
  rw [← hgF0] at hF0 ⊢
  have hgF : gF ≠ mb := by omega
  have hgu : gF < u.heap.size := by omega
  have HU0 := Lib.hid (only_below hb0 (some mb))
  have HF0 := Lib.hid hF0
  have HR0 := Lib.hid hR1
  clear hR hb0 hF0 hR1 hsz hgF0
  go_wp2_with fail
  go_loopw [9] (fun ct wr => ∃ (i : Nat) (m' : Nat → UInt8), i ≤ n2 ∧ ct = .int .i64 (i : Int) ∧ Hid (allP ss rs B l m' (rs.drop i) = (ev, M)) ∧ RefP wr r mb m' (c + 8 * i) ∧ u.grownBy wr (some mb)) (fun ct _ => (n2 - (intOf ct)).toNat)
  case atStart => exact ⟨0, m, Nat.zero_le _, rfl, HA0, HR0.out, World.grownBy.refl _ _⟩
  case round =>
    obtain ⟨i, m', hi, rfl, HA, hR, hu⟩ := hrel
    have hwr := HU0.out.trans hu
    have HF := Lib.hid (has_by HF0.out hu hgF)
    have hf0 := HF.out.cell 0
    have hf2 : wr.cell? ⟨gF, 2, none⟩ = some (.slice A2 n2 c2) := HF.out.cell 2
    obtain ⟨hS1, hS2, hS3⟩ := HK.out wr hwr
    by_cases hlt : i < n2
    · have di : (i : Int) < (n2 : Int) := by omega
      obtain ⟨bb, oo, hA, hbl, hcc⟩ := hS2.2.2.2 (by show 0 < n2; omega)
      replace hA : A2 = some ⟨bb, oo, none⟩ := hA
      subst hA
      have hwf := getD_all (P := Re.Wf) (d := re0) hS2.2.1 (j := i) (by omega)
      have e0 : wr.cell? ⟨bb, oo + i * 4, none⟩ = some (.int .u32 ((rs.getD i re0).p : Int)) := hcc i 0 hlt (by decide)
      have e1 : wr.cell? ⟨bb, oo + i * 4 + 1, none⟩ = some (.int .i64 (rs.getD i re0).t) := hcc i 1 hlt (by decide)
      have e2 : wr.cell? ⟨bb, oo + i * 4 + 2, none⟩ = some (.int .i64 (rs.getD i re0).s) := hcc i 2 hlt (by decide)
      have e3 : wr.cell? ⟨bb, oo + i * 4 + 3, none⟩ = some (.int .u32 ((rs.getD i re0).a : Int)) := hcc i 3 hlt (by decide)
      have HDR := Lib.hid (drop_re rs i (by omega))
      clear hcc
      generalize rs.getD i re0 = h at *
      obtain ⟨ph, th, sh, ah⟩ := h
      dsimp only at e0 e1 e2 e3
      have hph : ph < 4294967296 := hwf.p
      have hah : ah < 4294967296 := hwf.a
      have hat := fun W => at_re bb oo n2 c2 i di W
      have HWF := Lib.hid hwf
      have HU := Lib.hid hu
      have HW := Lib.hid hwr
      have HR := Lib.hid hR
      clear hwf hu hwr hR hS1 hS2 hS3 hf0 hbl
      go_upto_region 5 with fail
      obtain ⟨wa, hwa, hX, hba, hs3⟩ := one_new wr #[.int .u32 (ph : Int), .int .i64 th, .int .i64 sh, .int .u32 (ah : Int)] 43
      rw [← hwa]
      have HU1 := Lib.hid (HU.out.trans (only_below hba (some mb)))
      have HW1 := Lib.hid (HW.out.trans (only_below hba (some mb)))
      have HR1 := Lib.hid (HR.out.after hba)
      have HF1 := Lib.hid (HF.out.after hba)
      obtain ⟨g3, hg30⟩ : ∃ g, g = wr.heap.size := ⟨_, rfl⟩
      rw [← hg30] at hX ⊢
      have hg3 : g3 ≠ mb := by have := HR.out.2.lt; omega
      have HX1 := Lib.hid hX
      clear hwa hX hba hs3 hg30 hf2 hat e0 e1 e2 e3 HF HR HU HW
      generalize wa = w1 at *
      have e0 : w1.cell? ⟨g3, 0, none⟩ = some (.int .u32 (ph : Int)) := HX1.out.cell 0
      have e1 : w1.cell? ⟨g3, 1, none⟩ = some (.int .i64 th) := HX1.out.cell 1
      have e2 : w1.cell? ⟨g3, 2, none⟩ = some (.int .i64 sh) := HX1.out.cell 2
      have e3 : w1.cell? ⟨g3, 3, none⟩ = some (.int .u32 (ah : Int)) := HX1.out.cell 3
      have f0 : w1.cell? ⟨gF, 0, none⟩ = some (.int .u32 (en : Int)) := HF1.out.cell 0
      have f1 : w1.cell? ⟨gF, 1, none⟩ = some (.slice A1 n1 c1) := HF1.out.cell 1
      have f2 : w1.cell? ⟨gF, 2, none⟩ = some (.slice (some ⟨bb, oo, none⟩) n2 c2) := HF1.out.cell 2
      have f3 : w1.cell? ⟨gF, 3, none⟩ = some (.slice A k d) := HF1.out.cell 3
      have kM := may_any ⟨ph, th, sh, ah⟩ B l ⟨A4, n4, c4⟩ w1 (HK.out w1 HW1.out).2.2 hph hB
      obtain ⟨q, hq⟩ : ∃ q, q = mayP B l ⟨ph, th, sh, ah⟩ := ⟨_, rfl⟩
      rw [← hq] at kM
      have HQ := Lib.hid hq
      clear hq
      go_wp2_with fail
      refine kM.mono ?_
      rintro e w2 ⟨rfl, hb2⟩
      dsimp only
      clear kM
      have HU2 := Lib.hid (HU1.out.trans (only_below hb2 (some mb)))
      have HW2 := Lib.hid (HW1.out.trans (only_below hb2 (some mb)))
      have HR2 := Lib.hid (HR1.out.after hb2)
      have HF2 := Lib.hid (HF1.out.after hb2)
      have HX2 := Lib.hid (HX1.out.after hb2)
      clear e0 e1 e2 e3 f0 f1 f2 f3 hb2 HU1 HW1 HR1 HF1 HX1
      have e0 : w2.cell? ⟨g3, 0, none⟩ = some (.int .u32 (ph : Int)) := HX2.out.cell 0
      have e1 : w2.cell? ⟨g3, 1, none⟩ = some (.int .i64 th) := HX2.out.cell 1
      have e2 : w2.cell? ⟨g3, 2, none⟩ = some (.int .i64 sh) := HX2.out.cell 2
      have e3 : w2.cell? ⟨g3, 3, none⟩ = some (.int .u32 (ah : Int)) := HX2.out.cell 3
      have f0 : w2.cell? ⟨gF, 0, none⟩ = some (.int .u32 (en : Int)) := HF2.out.cell 0
      have f1 : w2.cell? ⟨gF, 1, none⟩ = some (.slice A1 n1 c1) := HF2.out.cell 1
      have f2 : w2.cell? ⟨gF, 2, none⟩ = some (.slice (some ⟨bb, oo, none⟩) n2 c2) := HF2.out.cell 2
      have f3 : w2.cell? ⟨gF, 3, none⟩ = some (.slice A k d) := HF2.out.cell 3
      cases q with
      | false =>
        have hv : ((13 : Int), m') = (ev, M) := by
          rw [← HA.out, HDR.out]
          exact (all_bad (by unfold oneP; rw [← HQ.out]; rfl) (by first | decide | exact HE0.out)).symm
        injection hv with hv1 hv2
        have HV1 := Lib.hid hv1
        have HV2 := Lib.hid hv2
        clear hv1 hv2
        go_wp2_with fail
        go_ret
        refine ⟨by rw [← HV1.out]; rfl, ?_, HW2.out⟩
        rw [← HV2.out]
        exact ⟨HR2.out.1, HR2.out.2.more (by omega)⟩
      | true =>
        have hxl : (B + ph) % 4294967296 < 4294967296 := Nat.mod_lt _ (by decide)
        have hl := low_any ((B : Int) + (ph : Int)) w2 (by omega) (by omega)
        rw [low_at] at hl
        obtain ⟨x, hx⟩ : ∃ x, x = (B + ph) % 4294967296 := ⟨_, rfl⟩
        rw [← hx] at hl hxl
        have HXE : Hid (x = atP B ⟨ph, th, sh, ah⟩) := Lib.hid hx
        have kL := rload_any m' r mb (c + 8 * i) x 4 w2 HR2.out hxl
        obtain ⟨qs, hqs⟩ : ∃ qs, qs = stB x 4 := ⟨_, rfl⟩
        obtain ⟨v0, hv0⟩ : ∃ v0, v0 = ldV m' x 4 := ⟨_, rfl⟩
        have hv0l : v0 < 4294967296 := by rw [hv0]; exact ldV_lt _ _
        rw [← hqs, ← hv0] at kL
        have HQS := Lib.hid hqs
        have HV0 := Lib.hid hv0
        clear hx hqs hv0
        go_wp2_with fail
        refine hl.mono ?_
        rintro e u3 ⟨rfl, rfl⟩
        dsimp only
        clear hl
        go_wp2_with fail
        refine kL.mono ?_
        rintro e w3 ⟨rfl, hb3⟩
        dsimp only
        clear kL
        have HU3 := Lib.hid (HU2.out.trans (only_below hb3 (some mb)))
        have HW3 := Lib.hid (HW2.out.trans (only_below hb3 (some mb)))
        have HR3 := Lib.hid (HR2.out.after hb3)
        have HF3 := Lib.hid (HF2.out.after hb3)
        have HX3 := Lib.hid (HX2.out.after hb3)
        clear e0 e1 e2 e3 f0 f1 f2 f3 hb3 HU2 HW2 HR2 HF2 HX2
        have e0 : w3.cell? ⟨g3, 0, none⟩ = some (.int .u32 (ph : Int)) := HX3.out.cell 0
        have e1 : w3.cell? ⟨g3, 1, none⟩ = some (.int .i64 th) := HX3.out.cell 1
        have e2 : w3.cell? ⟨g3, 2, none⟩ = some (.int .i64 sh) := HX3.out.cell 2
        have e3 : w3.cell? ⟨g3, 3, none⟩ = some (.int .u32 (ah : Int)) := HX3.out.cell 3
        have f0 : w3.cell? ⟨gF, 0, none⟩ = some (.int .u32 (en : Int)) := HF3.out.cell 0
        have f1 : w3.cell? ⟨gF, 1, none⟩ = some (.slice A1 n1 c1) := HF3.out.cell 1
        have f2 : w3.cell? ⟨gF, 2, none⟩ = some (.slice (some ⟨bb, oo, none⟩) n2 c2) := HF3.out.cell 2
        have f3 : w3.cell? ⟨gF, 3, none⟩ = some (.slice A k d) := HF3.out.cell 3
        cases qs with
        | false =>
          have hv : ((18 : Int), m') = (ev, M) := by
            rw [← HA.out, HDR.out]
            exact (all_bad (by unfold oneP; rw [← HQ.out, if_pos rfl, ← HXE.out, ← HQS.out]; rfl) (by first | decide | exact HE0.out)).symm
          injection hv with hv1 hv2
          have HV1 := Lib.hid hv1
          have HV2 := Lib.hid hv2
          clear hv1 hv2
          go_wp2_with fail
          go_ret
          refine ⟨by rw [← HV1.out]; rfl, ?_, HW3.out⟩
          rw [← HV2.out]
          exact ⟨HR3.out.1, HR3.out.2.more (by omega)⟩
        | true =>
          have kV := value_any ss rs ph th sh ah B en ⟨A1, n1, c1⟩ ⟨some ⟨bb, oo, none⟩, n2, c2⟩ ⟨A, k, d⟩ w3 (HK.out w3 HW3.out).1 (HK.out w3 HW3.out).2.1 HWF.out hB
          have hok := val_ok ss rs B ⟨ph, th, sh, ah⟩
          obtain ⟨gv, hgv⟩ : ∃ gv, gv = valP ss rs B ⟨ph, th, sh, ah⟩ := ⟨_, rfl⟩
          rw [← hgv] at kV hok
          have HG := Lib.hid hgv
          have hb18 := stB_le HQS.out.symm
          clear hgv
          go_wp2_with fail
          refine kV.mono ?_
          rintro e w4 ⟨rfl, hb4⟩
          clear kV
          have HU4 := Lib.hid (HU3.out.trans (only_below hb4 (some mb)))
          have HW4 := Lib.hid (HW3.out.trans (only_below hb4 (some mb)))
          have HR4 := Lib.hid (HR3.out.after hb4)
          have HF4 := Lib.hid (HF3.out.after hb4)
          have HX4 := Lib.hid (HX3.out.after hb4)
          clear e0 e1 e2 e3 f0 f1 f2 f3 hb4 HU3 HW3 HR3 HF3 HX3
          have e0 : w4.cell? ⟨g3, 0, none⟩ = some (.int .u32 (ph : Int)) := HX4.out.cell 0
          have e1 : w4.cell? ⟨g3, 1, none⟩ = some (.int .i64 th) := HX4.out.cell 1
          have e2 : w4.cell? ⟨g3, 2, none⟩ = some (.int .i64 sh) := HX4.out.cell 2
          have e3 : w4.cell? ⟨g3, 3, none⟩ = some (.int .u32 (ah : Int)) := HX4.out.cell 3
          have f0 : w4.cell? ⟨gF, 0, none⟩ = some (.int .u32 (en : Int)) := HF4.out.cell 0
          have f1 : w4.cell? ⟨gF, 1, none⟩ = some (.slice A1 n1 c1) := HF4.out.cell 1
          have f2 : w4.cell? ⟨gF, 2, none⟩ = some (.slice (some ⟨bb, oo, none⟩) n2 c2) := HF4.out.cell 2
          have f3 : w4.cell? ⟨gF, 3, none⟩ = some (.slice A k d) := HF4.out.cell 3
          cases gv with
          | bad e =>
            have he : (e == 0) = false := beq_eq_false_iff_ne.2 (by rcases hok with rfl | rfl <;> decide)
            have HE0 : Hid (e ≠ 0) := Lib.hid (by rcases hok with rfl | rfl <;> decide)
            clear hok
            have he2 : (e != 0) = true := bne_iff_ne.2 HE0.out
            dsimp only [outV]
            have hv : ((e : Int), m') = (ev, M) := by
              rw [← HA.out, HDR.out]
              exact (all_bad (by unfold oneP; rw [← HQ.out, if_pos rfl, ← HXE.out, ← HQS.out, if_pos rfl, ← HG.out]; rfl) (by first | decide | exact HE0.out)).symm
            injection hv with hv1 hv2
            have HV1 := Lib.hid hv1
            have HV2 := Lib.hid hv2
            clear hv1 hv2
            go_wp2_with fail
            go_ret
            refine ⟨by rw [← HV1.out]; rfl, ?_, HW4.out⟩
            rw [← HV2.out]
            exact ⟨HR4.out.1, HR4.out.2.more (by omega)⟩
          | word v =>
            have hn : ¬(th = 18 ∨ th = 19) := fun h => by
              have h2 := HG.out.trans (val_18 ss rs B ⟨ph, th, sh, ah⟩ h)
              cases h2
            have k18 : (th == 18) = false := beq_eq_false_iff_ne.2 (fun h => hn (Or.inl h))
            have k19 : (th == 19) = false := beq_eq_false_iff_ne.2 (fun h => hn (Or.inr h))
            clear hn
            dsimp only [outV]
            have kT := rstore_any m' r mb (c + 8 * i) x (v) 4 w4 HR4.out hxl hok (by have := HC.out; have := HN.out; omega)
            go_wp2_with fail
            refine kT.mono ?_
            rintro e w5 ⟨rfl, hR5, hg5⟩
            dsimp only
            have HR5 := Lib.hid hR5
            have HU5 := Lib.hid (HU4.out.trans hg5)
            have HW5 := Lib.hid (HW4.out.trans hg5)
            have HX5 := Lib.hid (has_by HX4.out hg5 hg3)
            clear e0 e1 e2 e3 f0 f1 f2 f3 kT hR5 hg5 HR4 HU4 HW4 HX4
            have e1 : w5.cell? ⟨g3, 1, none⟩ = some (.int .i64 th) := HX5.out.cell 1
            go_wp2_with fail
            go_roundw
            case rel => exact ⟨i + 1, stM m' x 4 v, hlt, by go_num, Lib.hid (by rw [← HA.out, HDR.out, all_go (m' := stM m' x 4 v) (by unfold oneP; rw [← HQ.out, if_pos rfl, ← HXE.out, ← HQS.out, if_pos rfl, ← HG.out]; rfl)]), ⟨HR5.out.1, HR5.out.2.more (by omega)⟩, HU5.out⟩
            case measure => simp [intOf] <;> omega
          | num f v =>
            obtain ⟨hvl, hf⟩ := hok
            rcases hf with rfl | rfl | rfl | rfl | rfl
            · have kU := upper_any v w4 hvl
              have hu1 := upP_le v
              obtain ⟨uv, huv⟩ : ∃ uv, uv = upP v := ⟨_, rfl⟩
              rw [← huv] at kU hu1
              obtain ⟨wv, hwv⟩ : ∃ wv, wv = v0 % 4096 + uv := ⟨_, rfl⟩
              have hwvl : wv < 4294967296 := by omega
              have hsum : (v0 : Int) % 4096 + (uv : Int) = (wv : Int) := by omega
              have HWV : Hid (wv = ldV m' x 4 % 4096 + upP v) := Lib.hid (by rw [hwv, huv, HV0.out])
              clear hwv huv hu1
              dsimp only [outV, fmS]
              go_wp2_with fail
              refine kU.mono ?_
              rintro e u5 ⟨rfl, rfl⟩
              dsimp only
              clear kU
              have kT := rstore_any m' r mb (c + 8 * i) x (wv) 4 w4 HR4.out hxl hwvl (by have := HC.out; have := HN.out; omega)
              go_wp2_with fail
              refine kT.mono ?_
              rintro e w5 ⟨rfl, hR5, hg5⟩
              dsimp only
              have HR5 := Lib.hid hR5
              have HU5 := Lib.hid (HU4.out.trans hg5)
              have HW5 := Lib.hid (HW4.out.trans hg5)
              have HX5 := Lib.hid (has_by HX4.out hg5 hg3)
              clear e0 e1 e2 e3 f0 f1 f2 f3 kT hR5 hg5 HR4 HU4 HW4 HX4
              have e1 : w5.cell? ⟨g3, 1, none⟩ = some (.int .i64 th) := HX5.out.cell 1
              by_cases t18 : th = 18
              · subst t18
                have kL2 := rload_any (stM m' x 4 wv) r mb (c + 8 * i + 4) (x + 4) 4 w5 HR5.out (by omega)
                rw [show ((x + 4 : Nat) : Int) = (x : Int) + 4 from by omega] at kL2
                obtain ⟨nv, hnv⟩ : ∃ nv, nv = ldV (stM m' x 4 wv) (x + 4) 4 := ⟨_, rfl⟩
                have hnvl : nv < 4294967296 := by rw [hnv]; exact ldV_lt _ _
                rw [← hnv] at kL2
                have HNV := Lib.hid hnv
                clear hnv
                go_wp2_with fail
                refine kL2.mono ?_
                rintro e w6 ⟨rfl, hb6⟩
                dsimp only
                have HR6 := Lib.hid (HR5.out.after hb6)
                have HU6 := Lib.hid (HU5.out.trans (only_below hb6 (some mb)))
                have HW6 := Lib.hid (HW5.out.trans (only_below hb6 (some mb)))
                clear e1 hb6 kL2 HX5
                have kS := set_any .I nv v w6 hnvl hvl
                go_wp2_with fail
                refine kS.mono ?_
                rintro e w7 ⟨rfl, nq, hw7⟩
                dsimp only
                have hb7 : Below w6.heap.size w6 w7 := by rw [hw7]; exact below_drawn w6 nq
                have HR7 := Lib.hid (HR6.out.after hb7)
                have HU7 := Lib.hid (HU6.out.trans (only_below hb7 (some mb)))
                have HW7 := Lib.hid (HW6.out.trans (only_below hb7 (some mb)))
                obtain ⟨sv, hsv⟩ : ∃ sv, sv = setN .I nv v 32 := ⟨_, rfl⟩
                have hsvl : sv < 4294967296 := by rw [hsv]; exact setN_lt .I nv v hnvl 32 (by decide)
                rw [← hsv]
                have HSV := Lib.hid hsv
                clear hsv hw7 hb7 kS
                have kT := rstore_any (stM m' x 4 wv) r mb (c + 8 * i + 4) (x + 4) sv 4 w7 HR7.out (by omega) hsvl (by have := HC.out; have := HN.out; omega)
                rw [show ((x + 4 : Nat) : Int) = (x : Int) + 4 from by omega] at kT
                go_wp2_with fail
                refine kT.mono ?_
                rintro e w8 ⟨rfl, hR8, hg8⟩
                dsimp only
                have HR8 := Lib.hid hR8
                have HU8 := Lib.hid (HU7.out.trans hg8)
                clear hR8 hg8 kT
                go_wp2_with fail
                go_roundw
                case rel => exact ⟨i + 1, stM (stM m' x 4 wv) (x + 4) 4 sv, hlt, by go_num, Lib.hid (by rw [← HA.out, HDR.out, all_go (m' := stM (stM m' x 4 wv) (x + 4) 4 sv) (by unfold oneP; rw [← HQ.out, if_pos rfl, ← HXE.out, ← HQS.out, if_pos rfl, ← HG.out]; show (0, putV m' x 18 (.num .U v)) = _; unfold putV; dsimp only; rw [if_pos (by simp), ← HWV.out, ← HNV.out, ← HSV.out])]), ⟨HR8.out.1, HR8.out.2.more (by omega)⟩, HU8.out⟩
                case measure => simp [intOf] <;> omega
              by_cases t19 : th = 19
              · subst t19
                have kL2 := rload_any (stM m' x 4 wv) r mb (c + 8 * i + 4) (x + 4) 4 w5 HR5.out (by omega)
                rw [show ((x + 4 : Nat) : Int) = (x : Int) + 4 from by omega] at kL2
                obtain ⟨nv, hnv⟩ : ∃ nv, nv = ldV (stM m' x 4 wv) (x + 4) 4 := ⟨_, rfl⟩
                have hnvl : nv < 4294967296 := by rw [hnv]; exact ldV_lt _ _
                rw [← hnv] at kL2
                have HNV := Lib.hid hnv
                clear hnv
                go_wp2_with fail
                refine kL2.mono ?_
                rintro e w6 ⟨rfl, hb6⟩
                dsimp only
                have HR6 := Lib.hid (HR5.out.after hb6)
                have HU6 := Lib.hid (HU5.out.trans (only_below hb6 (some mb)))
                have HW6 := Lib.hid (HW5.out.trans (only_below hb6 (some mb)))
                clear e1 hb6 kL2 HX5
                have kS := set_any .I nv v w6 hnvl hvl
                go_wp2_with fail
                refine kS.mono ?_
                rintro e w7 ⟨rfl, nq, hw7⟩
                dsimp only
                have hb7 : Below w6.heap.size w6 w7 := by rw [hw7]; exact below_drawn w6 nq
                have HR7 := Lib.hid (HR6.out.after hb7)
                have HU7 := Lib.hid (HU6.out.trans (only_below hb7 (some mb)))
                have HW7 := Lib.hid (HW6.out.trans (only_below hb7 (some mb)))
                obtain ⟨sv, hsv⟩ : ∃ sv, sv = setN .I nv v 32 := ⟨_, rfl⟩
                have hsvl : sv < 4294967296 := by rw [hsv]; exact setN_lt .I nv v hnvl 32 (by decide)
                rw [← hsv]
                have HSV := Lib.hid hsv
                clear hsv hw7 hb7 kS
                have kT := rstore_any (stM m' x 4 wv) r mb (c + 8 * i + 4) (x + 4) sv 4 w7 HR7.out (by omega) hsvl (by have := HC.out; have := HN.out; omega)
                rw [show ((x + 4 : Nat) : Int) = (x : Int) + 4 from by omega] at kT
                go_wp2_with fail
                refine kT.mono ?_
                rintro e w8 ⟨rfl, hR8, hg8⟩
                dsimp only
                have HR8 := Lib.hid hR8
                have HU8 := Lib.hid (HU7.out.trans hg8)
                clear hR8 hg8 kT
                go_wp2_with fail
                go_roundw
                case rel => exact ⟨i + 1, stM (stM m' x 4 wv) (x + 4) 4 sv, hlt, by go_num, Lib.hid (by rw [← HA.out, HDR.out, all_go (m' := stM (stM m' x 4 wv) (x + 4) 4 sv) (by unfold oneP; rw [← HQ.out, if_pos rfl, ← HXE.out, ← HQS.out, if_pos rfl, ← HG.out]; show (0, putV m' x 19 (.num .U v)) = _; unfold putV; dsimp only; rw [if_pos (by simp), ← HWV.out, ← HNV.out, ← HSV.out])]), ⟨HR8.out.1, HR8.out.2.more (by omega)⟩, HU8.out⟩
                case measure => simp [intOf] <;> omega
              · have k18 : (th == 18) = false := beq_eq_false_iff_ne.2 t18
                have k19 : (th == 19) = false := beq_eq_false_iff_ne.2 t19
                have HN2 : Hid (¬(th = 18 ∨ th = 19)) := Lib.hid (by omega)
                clear t18 t19
                go_wp2_with fail
                go_roundw
                case rel => exact ⟨i + 1, stM m' x 4 wv, hlt, by go_num, Lib.hid (by rw [← HA.out, HDR.out, all_go (m' := stM m' x 4 wv) (by unfold oneP; rw [← HQ.out, if_pos rfl, ← HXE.out, ← HQS.out, if_pos rfl, ← HG.out]; show (0, putV m' x th (.num .U v)) = _; unfold putV; dsimp only; rw [if_neg HN2.out, ← HWV.out])]), ⟨HR5.out.1, HR5.out.2.more (by omega)⟩, HU5.out⟩
                case measure => simp [intOf] <;> omega
            · have hn : ¬(th = 18 ∨ th = 19) := fun h => by
                have h2 := HG.out.trans (val_18 ss rs B ⟨ph, th, sh, ah⟩ h)
                injection h2 with h3 _
                cases h3
              have k18 : (th == 18) = false := beq_eq_false_iff_ne.2 (fun h => hn (Or.inl h))
              have k19 : (th == 19) = false := beq_eq_false_iff_ne.2 (fun h => hn (Or.inr h))
              clear hn
              have kS := set_any .I v0 v w4 hv0l hvl
              dsimp only [outV, fmS]
              go_wp2_with fail
              refine kS.mono ?_
              rintro e w5 ⟨rfl, nq, hw5⟩
              dsimp only
              have hb5 : Below w4.heap.size w4 w5 := by rw [hw5]; exact below_drawn w4 nq
              obtain ⟨sv, hsv⟩ : ∃ sv, sv = setN .I v0 v 32 := ⟨_, rfl⟩
              have hsvl : sv < 4294967296 := by rw [hsv]; exact setN_lt .I v0 v hv0l 32 (by decide)
              rw [← hsv]
              have HSV : Hid (sv = setN .I (ldV m' x 4) v 32) := Lib.hid (by rw [hsv, HV0.out])
              clear hsv hw5 kS
              have HU5 := Lib.hid (HU4.out.trans (only_below hb5 (some mb)))
              have HW5 := Lib.hid (HW4.out.trans (only_below hb5 (some mb)))
              have HR5 := Lib.hid (HR4.out.after hb5)
              have HF5 := Lib.hid (HF4.out.after hb5)
              have HX5 := Lib.hid (HX4.out.after hb5)
              clear e0 e1 e2 e3 f0 f1 f2 f3 hb5 HU4 HW4 HR4 HF4 HX4
              have e0 : w5.cell? ⟨g3, 0, none⟩ = some (.int .u32 (ph : Int)) := HX5.out.cell 0
              have e1 : w5.cell? ⟨g3, 1, none⟩ = some (.int .i64 th) := HX5.out.cell 1
              have e2 : w5.cell? ⟨g3, 2, none⟩ = some (.int .i64 sh) := HX5.out.cell 2
              have e3 : w5.cell? ⟨g3, 3, none⟩ = some (.int .u32 (ah : Int)) := HX5.out.cell 3
              have f0 : w5.cell? ⟨gF, 0, none⟩ = some (.int .u32 (en : Int)) := HF5.out.cell 0
              have f1 : w5.cell? ⟨gF, 1, none⟩ = some (.slice A1 n1 c1) := HF5.out.cell 1
              have f2 : w5.cell? ⟨gF, 2, none⟩ = some (.slice (some ⟨bb, oo, none⟩) n2 c2) := HF5.out.cell 2
              have f3 : w5.cell? ⟨gF, 3, none⟩ = some (.slice A k d) := HF5.out.cell 3
              have kT := rstore_any m' r mb (c + 8 * i) x (sv) 4 w5 HR5.out hxl hsvl (by have := HC.out; have := HN.out; omega)
              go_wp2_with fail
              refine kT.mono ?_
              rintro e w6 ⟨rfl, hR6, hg6⟩
              dsimp only
              have HR6 := Lib.hid hR6
              have HU6 := Lib.hid (HU5.out.trans hg6)
              have HW6 := Lib.hid (HW5.out.trans hg6)
              have HX6 := Lib.hid (has_by HX5.out hg6 hg3)
              clear e0 e1 e2 e3 f0 f1 f2 f3 kT hR6 hg6 HR5 HU5 HW5 HX5
              have e1 : w6.cell? ⟨g3, 1, none⟩ = some (.int .i64 th) := HX6.out.cell 1
              go_wp2_with fail
              go_roundw
              case rel => exact ⟨i + 1, stM m' x 4 sv, hlt, by go_num, Lib.hid (by rw [← HA.out, HDR.out, all_go (m' := stM m' x 4 sv) (by unfold oneP; rw [← HQ.out, if_pos rfl, ← HXE.out, ← HQS.out, if_pos rfl, ← HG.out]; show (0, stM m' x 4 (setN .I (ldV m' x 4) v 32)) = _; rw [← HSV.out])]), ⟨HR6.out.1, HR6.out.2.more (by omega)⟩, HU6.out⟩
              case measure => simp [intOf] <;> omega
            · have hn : ¬(th = 18 ∨ th = 19) := fun h => by
                have h2 := HG.out.trans (val_18 ss rs B ⟨ph, th, sh, ah⟩ h)
                injection h2 with h3 _
                cases h3
              have k18 : (th == 18) = false := beq_eq_false_iff_ne.2 (fun h => hn (Or.inl h))
              have k19 : (th == 19) = false := beq_eq_false_iff_ne.2 (fun h => hn (Or.inr h))
              clear hn
              have kS := set_any .S v0 v w4 hv0l hvl
              dsimp only [outV, fmS]
              go_wp2_with fail
              refine kS.mono ?_
              rintro e w5 ⟨rfl, nq, hw5⟩
              dsimp only
              have hb5 : Below w4.heap.size w4 w5 := by rw [hw5]; exact below_drawn w4 nq
              obtain ⟨sv, hsv⟩ : ∃ sv, sv = setN .S v0 v 32 := ⟨_, rfl⟩
              have hsvl : sv < 4294967296 := by rw [hsv]; exact setN_lt .S v0 v hv0l 32 (by decide)
              rw [← hsv]
              have HSV : Hid (sv = setN .S (ldV m' x 4) v 32) := Lib.hid (by rw [hsv, HV0.out])
              clear hsv hw5 kS
              have HU5 := Lib.hid (HU4.out.trans (only_below hb5 (some mb)))
              have HW5 := Lib.hid (HW4.out.trans (only_below hb5 (some mb)))
              have HR5 := Lib.hid (HR4.out.after hb5)
              have HF5 := Lib.hid (HF4.out.after hb5)
              have HX5 := Lib.hid (HX4.out.after hb5)
              clear e0 e1 e2 e3 f0 f1 f2 f3 hb5 HU4 HW4 HR4 HF4 HX4
              have e0 : w5.cell? ⟨g3, 0, none⟩ = some (.int .u32 (ph : Int)) := HX5.out.cell 0
              have e1 : w5.cell? ⟨g3, 1, none⟩ = some (.int .i64 th) := HX5.out.cell 1
              have e2 : w5.cell? ⟨g3, 2, none⟩ = some (.int .i64 sh) := HX5.out.cell 2
              have e3 : w5.cell? ⟨g3, 3, none⟩ = some (.int .u32 (ah : Int)) := HX5.out.cell 3
              have f0 : w5.cell? ⟨gF, 0, none⟩ = some (.int .u32 (en : Int)) := HF5.out.cell 0
              have f1 : w5.cell? ⟨gF, 1, none⟩ = some (.slice A1 n1 c1) := HF5.out.cell 1
              have f2 : w5.cell? ⟨gF, 2, none⟩ = some (.slice (some ⟨bb, oo, none⟩) n2 c2) := HF5.out.cell 2
              have f3 : w5.cell? ⟨gF, 3, none⟩ = some (.slice A k d) := HF5.out.cell 3
              have kT := rstore_any m' r mb (c + 8 * i) x (sv) 4 w5 HR5.out hxl hsvl (by have := HC.out; have := HN.out; omega)
              go_wp2_with fail
              refine kT.mono ?_
              rintro e w6 ⟨rfl, hR6, hg6⟩
              dsimp only
              have HR6 := Lib.hid hR6
              have HU6 := Lib.hid (HU5.out.trans hg6)
              have HW6 := Lib.hid (HW5.out.trans hg6)
              have HX6 := Lib.hid (has_by HX5.out hg6 hg3)
              clear e0 e1 e2 e3 f0 f1 f2 f3 kT hR6 hg6 HR5 HU5 HW5 HX5
              have e1 : w6.cell? ⟨g3, 1, none⟩ = some (.int .i64 th) := HX6.out.cell 1
              go_wp2_with fail
              go_roundw
              case rel => exact ⟨i + 1, stM m' x 4 sv, hlt, by go_num, Lib.hid (by rw [← HA.out, HDR.out, all_go (m' := stM m' x 4 sv) (by unfold oneP; rw [← HQ.out, if_pos rfl, ← HXE.out, ← HQS.out, if_pos rfl, ← HG.out]; show (0, stM m' x 4 (setN .S (ldV m' x 4) v 32)) = _; rw [← HSV.out])]), ⟨HR6.out.1, HR6.out.2.more (by omega)⟩, HU6.out⟩
              case measure => simp [intOf] <;> omega
            · have hn : ¬(th = 18 ∨ th = 19) := fun h => by
                have h2 := HG.out.trans (val_18 ss rs B ⟨ph, th, sh, ah⟩ h)
                injection h2 with h3 _
                cases h3
              have k18 : (th == 18) = false := beq_eq_false_iff_ne.2 (fun h => hn (Or.inl h))
              have k19 : (th == 19) = false := beq_eq_false_iff_ne.2 (fun h => hn (Or.inr h))
              clear hn
              have kS := set_any .B v0 v w4 hv0l hvl
              dsimp only [outV, fmS]
              go_wp2_with fail
              refine kS.mono ?_
              rintro e w5 ⟨rfl, nq, hw5⟩
              dsimp only
              have hb5 : Below w4.heap.size w4 w5 := by rw [hw5]; exact below_drawn w4 nq
              obtain ⟨sv, hsv⟩ : ∃ sv, sv = setN .B v0 v 32 := ⟨_, rfl⟩
              have hsvl : sv < 4294967296 := by rw [hsv]; exact setN_lt .B v0 v hv0l 32 (by decide)
              rw [← hsv]
              have HSV : Hid (sv = setN .B (ldV m' x 4) v 32) := Lib.hid (by rw [hsv, HV0.out])
              clear hsv hw5 kS
              have HU5 := Lib.hid (HU4.out.trans (only_below hb5 (some mb)))
              have HW5 := Lib.hid (HW4.out.trans (only_below hb5 (some mb)))
              have HR5 := Lib.hid (HR4.out.after hb5)
              have HF5 := Lib.hid (HF4.out.after hb5)
              have HX5 := Lib.hid (HX4.out.after hb5)
              clear e0 e1 e2 e3 f0 f1 f2 f3 hb5 HU4 HW4 HR4 HF4 HX4
              have e0 : w5.cell? ⟨g3, 0, none⟩ = some (.int .u32 (ph : Int)) := HX5.out.cell 0
              have e1 : w5.cell? ⟨g3, 1, none⟩ = some (.int .i64 th) := HX5.out.cell 1
              have e2 : w5.cell? ⟨g3, 2, none⟩ = some (.int .i64 sh) := HX5.out.cell 2
              have e3 : w5.cell? ⟨g3, 3, none⟩ = some (.int .u32 (ah : Int)) := HX5.out.cell 3
              have f0 : w5.cell? ⟨gF, 0, none⟩ = some (.int .u32 (en : Int)) := HF5.out.cell 0
              have f1 : w5.cell? ⟨gF, 1, none⟩ = some (.slice A1 n1 c1) := HF5.out.cell 1
              have f2 : w5.cell? ⟨gF, 2, none⟩ = some (.slice (some ⟨bb, oo, none⟩) n2 c2) := HF5.out.cell 2
              have f3 : w5.cell? ⟨gF, 3, none⟩ = some (.slice A k d) := HF5.out.cell 3
              have kT := rstore_any m' r mb (c + 8 * i) x (sv) 4 w5 HR5.out hxl hsvl (by have := HC.out; have := HN.out; omega)
              go_wp2_with fail
              refine kT.mono ?_
              rintro e w6 ⟨rfl, hR6, hg6⟩
              dsimp only
              have HR6 := Lib.hid hR6
              have HU6 := Lib.hid (HU5.out.trans hg6)
              have HW6 := Lib.hid (HW5.out.trans hg6)
              have HX6 := Lib.hid (has_by HX5.out hg6 hg3)
              clear e0 e1 e2 e3 f0 f1 f2 f3 kT hR6 hg6 HR5 HU5 HW5 HX5
              have e1 : w6.cell? ⟨g3, 1, none⟩ = some (.int .i64 th) := HX6.out.cell 1
              go_wp2_with fail
              go_roundw
              case rel => exact ⟨i + 1, stM m' x 4 sv, hlt, by go_num, Lib.hid (by rw [← HA.out, HDR.out, all_go (m' := stM m' x 4 sv) (by unfold oneP; rw [← HQ.out, if_pos rfl, ← HXE.out, ← HQS.out, if_pos rfl, ← HG.out]; show (0, stM m' x 4 (setN .B (ldV m' x 4) v 32)) = _; rw [← HSV.out])]), ⟨HR6.out.1, HR6.out.2.more (by omega)⟩, HU6.out⟩
              case measure => simp [intOf] <;> omega
            · have hn : ¬(th = 18 ∨ th = 19) := fun h => by
                have h2 := HG.out.trans (val_18 ss rs B ⟨ph, th, sh, ah⟩ h)
                injection h2 with h3 _
                cases h3
              have k18 : (th == 18) = false := beq_eq_false_iff_ne.2 (fun h => hn (Or.inl h))
              have k19 : (th == 19) = false := beq_eq_false_iff_ne.2 (fun h => hn (Or.inr h))
              clear hn
              have kS := set_any .J v0 v w4 hv0l hvl
              dsimp only [outV, fmS]
              go_wp2_with fail
              refine kS.mono ?_
              rintro e w5 ⟨rfl, nq, hw5⟩
              dsimp only
              have hb5 : Below w4.heap.size w4 w5 := by rw [hw5]; exact below_drawn w4 nq
              obtain ⟨sv, hsv⟩ : ∃ sv, sv = setN .J v0 v 32 := ⟨_, rfl⟩
              have hsvl : sv < 4294967296 := by rw [hsv]; exact setN_lt .J v0 v hv0l 32 (by decide)
              rw [← hsv]
              have HSV : Hid (sv = setN .J (ldV m' x 4) v 32) := Lib.hid (by rw [hsv, HV0.out])
              clear hsv hw5 kS
              have HU5 := Lib.hid (HU4.out.trans (only_below hb5 (some mb)))
              have HW5 := Lib.hid (HW4.out.trans (only_below hb5 (some mb)))
              have HR5 := Lib.hid (HR4.out.after hb5)
              have HF5 := Lib.hid (HF4.out.after hb5)
              have HX5 := Lib.hid (HX4.out.after hb5)
              clear e0 e1 e2 e3 f0 f1 f2 f3 hb5 HU4 HW4 HR4 HF4 HX4
              have e0 : w5.cell? ⟨g3, 0, none⟩ = some (.int .u32 (ph : Int)) := HX5.out.cell 0
              have e1 : w5.cell? ⟨g3, 1, none⟩ = some (.int .i64 th) := HX5.out.cell 1
              have e2 : w5.cell? ⟨g3, 2, none⟩ = some (.int .i64 sh) := HX5.out.cell 2
              have e3 : w5.cell? ⟨g3, 3, none⟩ = some (.int .u32 (ah : Int)) := HX5.out.cell 3
              have f0 : w5.cell? ⟨gF, 0, none⟩ = some (.int .u32 (en : Int)) := HF5.out.cell 0
              have f1 : w5.cell? ⟨gF, 1, none⟩ = some (.slice A1 n1 c1) := HF5.out.cell 1
              have f2 : w5.cell? ⟨gF, 2, none⟩ = some (.slice (some ⟨bb, oo, none⟩) n2 c2) := HF5.out.cell 2
              have f3 : w5.cell? ⟨gF, 3, none⟩ = some (.slice A k d) := HF5.out.cell 3
              have kT := rstore_any m' r mb (c + 8 * i) x (sv) 4 w5 HR5.out hxl hsvl (by have := HC.out; have := HN.out; omega)
              go_wp2_with fail
              refine kT.mono ?_
              rintro e w6 ⟨rfl, hR6, hg6⟩
              dsimp only
              have HR6 := Lib.hid hR6
              have HU6 := Lib.hid (HU5.out.trans hg6)
              have HW6 := Lib.hid (HW5.out.trans hg6)
              have HX6 := Lib.hid (has_by HX5.out hg6 hg3)
              clear e0 e1 e2 e3 f0 f1 f2 f3 kT hR6 hg6 HR5 HU5 HW5 HX5
              have e1 : w6.cell? ⟨g3, 1, none⟩ = some (.int .i64 th) := HX6.out.cell 1
              go_wp2_with fail
              go_roundw
              case rel => exact ⟨i + 1, stM m' x 4 sv, hlt, by go_num, Lib.hid (by rw [← HA.out, HDR.out, all_go (m' := stM m' x 4 sv) (by unfold oneP; rw [← HQ.out, if_pos rfl, ← HXE.out, ← HQS.out, if_pos rfl, ← HG.out]; show (0, stM m' x 4 (setN .J (ldV m' x 4) v 32)) = _; rw [← HSV.out])]), ⟨HR6.out.1, HR6.out.2.more (by omega)⟩, HU6.out⟩
              case measure => simp [intOf] <;> omega
    · have di : ¬ (i : Int) < (n2 : Int) := by omega
      have him : i = n2 := by omega
      have hv : ((0 : Int), m') = (ev, M) := by
        rw [← HA.out, List.drop_eq_nil_of_le (by omega)]
        rfl
      injection hv with hv1 hv2
      have HV1 := Lib.hid hv1
      have HV2 := Lib.hid hv2
      have HRR := Lib.hid hR
      have HWW := Lib.hid hwr
      clear hv1 hv2 hR hwr hu hS1 hS2 hS3 hf0
      go_wp2_with fail
      go_ret
      refine ⟨by rw [← HV1.out]; rfl, ?_, HWW.out⟩
      rw [← HV2.out]
      exact ⟨HRR.out.1, HRR.out.2.more (by omega)⟩
end Go.Proofs.Ytegaiphhoinilaa.Rc
