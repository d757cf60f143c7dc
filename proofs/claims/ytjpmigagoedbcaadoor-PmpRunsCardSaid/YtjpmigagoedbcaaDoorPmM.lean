/-
Layer 12: PmpJust, by what package pmp's calls answer.
-/
import Derived.Test.YtjpmigagoedbcaaDoorPmL
namespace Go.Proofs.YtjpmigagoedbcaaDoor.Pm
open Go Go.RowKit

theorem wp_load_run {w : World} {ops : Array Oper} {rest : List Oper} {op : Oper} {a : Act} {Q : Exit → Act → World → Prop} (hgd : op.guard = none) (x : Operand) (ho : op.op = .load 45 x)
    (b o : Nat) (hx : a.eval x = .pointer (some ⟨b, o, none⟩)) (q : Sp) (hc : w.rangeAt b o ((List.range 3).map (ruV q))) (h : wpList Tryd.prog ops Q rest (a.put op.dst (.agg #[.int .u64 (q.f : Int), .int .u64 (q.t : Int), .int .i64 q.r])) w) : wpList Tryd.prog ops Q (op :: rest) a w :=
  wpList_load_mid hgd 45 x ho b o hx _ _ hc Tryd.underlying45 rfl (by simpa using infoR) h
theorem at_run (b o n c j : Nat) (hj : (j : Int) < (n : Int)) (w : World) : (Instr.indexAt 41 (.slice (some ⟨b, o, none⟩) n c) (.int .i64 (j : Int))).run Tryd.prog w = .ok (.pointer (some ⟨b, o + j * 3, none⟩)) w := by
  have h2 := Addr.add_mid b o (j * 3)
  go_simp
theorem lens_app (a b : List Sp) : lens (a ++ b) = lens a + lens b := by
  induction a with
  | nil => exact (Nat.zero_add _).symm
  | cons q l ih => show (q.t - q.f) + lens (l ++ b) = (q.t - q.f) + lens l + lens b; rw [ih]; omega
theorem takeS_succ (rs : List Sp) (i : Nat) (hi : i < rs.length) : rs.take (i + 1) = rs.take i ++ [rs.getD i sp0] := by
  rw [List.take_succ_eq_append_getElem hi]
  simp [List.getD_eq_getElem?_getD, hi]
theorem lens_succ (rs : List Sp) (i : Nat) (hi : i < rs.length) : lens (rs.take (i + 1)) = lens (rs.take i) + ((rs.getD i sp0).t - (rs.getD i sp0).f) := by
  rw [takeS_succ rs i hi, lens_app]
  show _ + ((rs.getD i sp0).t - (rs.getD i sp0).f + 0) = _
  omega
theorem lens_le (rs : List Sp) (i : Nat) : lens (rs.take i) ≤ lens rs := by
  have h := lens_app (rs.take i) (rs.drop i)
  rw [List.take_append_drop] at h
  omega
theorem lensG_le (gs : List Gr) (hz : ∀ g ∈ gs, g.z < 4294967296) : lens (gs.map g2t) ≤ gs.length * 4294967296 := by
  induction gs with
  | nil => exact Nat.zero_le _
  | cons g l ih =>
    show (g.s + g.z - g.s) + lens (l.map g2t) ≤ (l.length + 1) * 4294967296
    have h1 := hz g (List.mem_cons_self ..)
    have h2 := ih fun x hx => hz x (List.mem_cons_of_mem _ hx)
    omega
theorem lensG_succ (gs : List Gr) (i : Nat) (hi : i < gs.length) : lens ((gs.take (i + 1)).map g2t) = lens ((gs.take i).map g2t) + (gs.getD i gr0).z := by
  rw [take_succ gs i hi, List.map_append, lens_app]
  show _ + ((gs.getD i gr0).s + (gs.getD i gr0).z - (gs.getD i gr0).s + 0) = _
  omega
/-- the run holds the grant -/
def fndB (q : Sp) (g : Gr) : Bool := decide (q.f ≤ g.s) && decide (g.s + g.z ≤ q.t) && decide (q.r = g.r)
theorem any_succ (rs : List Sp) (g : Gr) (i : Nat) (hi : i < rs.length) : (rs.take (i + 1)).any (fun q => fndB q g) = ((rs.take i).any (fun q => fndB q g) || fndB (rs.getD i sp0) g) := by
  rw [takeS_succ rs i hi, List.any_append]
  simp
theorem plan_any (gs : List Gr) (hl : ∀ g ∈ gs, okG g = true) (ha : allApart gs) (rs : List Sp) (h : RunsOf (byteT (gs.map g2t ++ [lastT])) rs) (g : Gr) (hm : g ∈ gs) : rs.any (fun q => fndB q g) = true := by
  obtain ⟨q, hq, h1, h2, h3⟩ := plan_found gs hl ha rs h g hm
  refine List.any_eq_true.2 ⟨q, hq, ?_⟩
  unfold fndB
  rw [decide_eq_true h1, decide_eq_true h2, decide_eq_true h3]; rfl
set_option maxRecDepth 100000 in
set_option maxHeartbeats 4000000 in
theorem just12_ok (H : PmpOK) (HR : RunsOK) (gs : List Gr) (s : Sl) (w : World) (hT : TabT w) (hS : SlG w s gs) :
    Calls Tryd.prog 6 #[s.v] w fun e w' => e = .returned (.bool true) ∧ Below w.heap.size w w' := by
  have hlen := hS.1
  have kf := fun W hW => fit12_any H W hW
  obtain ⟨A, n, c⟩ := s
  dsimp only at hlen
  have HS := Lib.hid hS
  clear hS
  show Calls Tryd.prog 6 #[.slice A n c] w _
  go_enter Tryd.func6, Tryd.ntmps6
  go_wp2_with fail
  have HT := Lib.hid hT
  refine (kf w hT).mono ?_
  clear kf hT
  rintro e w1 ⟨rfl, hb1⟩
  have HB1 := Lib.hid hb1
  clear hb1
  by_cases h40 : n ≤ 40
  · have h40' : ¬ 40 < (n : Int) := by omega
    go_wp2_with fail
    refine (show Calls Tryd.prog 11 #[.slice A n c] w1 _ from apart_any gs ⟨A, n, c⟩ w1 (HS.out.below HB1.out)).mono ?_
    rintro e w2 ⟨⟨bb, rfl, hbb⟩, hb2⟩
    have hb2' := HB1.out.trans (hb2.mono HB1.out.size)
    have HB2 := Lib.hid hb2'
    clear hb2 hb2'
    cases bb with
    | false =>
      clear hbb
      go_wp2_with fail
      go_ret
      exact ⟨rfl, HB2.out⟩
    | true =>
      obtain ⟨hok, hap⟩ := hbb rfl
      clear hbb
      go_wp2_with fail
      refine (show Calls Tryd.prog 9 #[.slice A n c] w2 _ from H.plan gs ⟨A, n, c⟩ w2 (HS.out.below HB2.out) (by omega)).mono ?_
      rintro e w3 ⟨⟨A3, n3, c3, rfl, hE⟩, hb3⟩
      have hb3' := HB2.out.trans (hb3.mono HB2.out.size)
      have HB3 := Lib.hid hb3'
      clear hb3 hb3'
      rcases planN_cases gs hok with hp | ⟨hp, hpl⟩
      · rw [hp]
        clear hE hp
        dsimp only
        go_wp2_with fail
        go_ret
        exact ⟨rfl, HB3.out⟩
      · rw [hp] at hE ⊢
        dsimp only at hE ⊢
        rw [show ((0 : Nat) : Int) = 0 from rfl]
        have HE := Lib.hid hE
        have kR := HR.runs (planE gs) ⟨A3, n3, c3⟩ w3 (HT.out.below HB3.out) hE hpl
        have hz : ∀ g ∈ gs, g.z < 4294967296 := fun g hg => (HS.out.2.2 g hg).z
        have HOK := Lib.hid hok
        have HAP := Lib.hid hap
        clear hE hok hap hpl hp
        go_wp2_with fail
        refine (show Calls Tryd.prog 15 #[.slice A3 n3 c3] w3 _ from kR).mono ?_
        rintro e w4 ⟨⟨A5, n5, c5, rs, rfl, hR, hrun⟩, hb4⟩
        have hb4' := HB3.out.trans (hb4.mono HB3.out.size)
        have hrun' : RunsOf (byteT (gs.map g2t ++ [lastT])) rs := ⟨hrun.one, hrun.asc, fun x hx => by rw [← plan_byte gs HOK.out x]; exact hrun.say x hx⟩
        have htot := plan_total gs HOK.out HAP.out rs hrun'
        have hfnd := fun g hg => plan_any gs HOK.out HAP.out rs hrun' g hg
        have hbig := lensG_le gs hz
        have hrl := hR.1
        have hrn := hR.2.1
        dsimp only at hrl hrn
        obtain ⟨T, hT⟩ : ∃ T, T = lens rs := ⟨_, rfl⟩
        have hTl : T ≤ 171798691840 := by rw [hT, htot]; omega
        have HR := Lib.hid hR
        have HRUN := Lib.hid hrun'
        have HTOT := Lib.hid htot
        have HFND := Lib.hid hfnd
        have HT := Lib.hid hT
        have HB4 := Lib.hid hb4'
        have HRL := Lib.hid hrl
        clear hR hrun hrun' htot hfnd hb4 hb4' kR hbig hz hT hrl
        go_wp2_with fail
        go_loopw [6, 37] (fun cm ct wr => ∃ i : Nat, i ≤ n5 ∧ ct = .int .i64 (i : Int) ∧ cm = .int .i64 ((lens (rs.take i) : Nat) : Int) ∧ Below w4.heap.size w4 wr) (fun _ ct _ => (n5 - (intOf ct)).toNat)
        case atStart => exact ⟨0, Nat.zero_le _, rfl, rfl, Below.refl _ _⟩
        case round =>
          obtain ⟨i, hi, rfl, rfl, hb⟩ := hrel
          have HBr := Lib.hid hb
          by_cases hlt : i < n5
          · have hin : (i : Int) < (n5 : Int) := by omega
            obtain ⟨b, o, hA, hlb, _⟩ := HR.out.2.2 (show 0 < n5 by omega)
            dsimp only at hA
            subst hA
            have hSr := HR.out.below hb
            have hrg := hSr.2.range (b := b) (o := o) rfl (j := i) hlt
            have hrg' : wr.rangeAt b (o + i * 3) ((List.range 3).map (ruV (rs.getD i sp0))) := hrg
            have hone := HRUN.out.one (rs.getD i sp0) (by rw [List.getD_eq_getElem?_getD, List.getElem?_eq_getElem (show i < rs.length by have := HRL.out; omega)]; exact List.getElem_mem _)
            have hls := lens_succ rs i (by have := HRL.out; omega)
            have hle := lens_le rs (i + 1)
            rw [← HT.out] at hle
            have hat := at_run b o n5 c5 i hin
            generalize rs.getD i sp0 = q at *
            obtain ⟨qf, qt, qr⟩ := q
            dsimp only at hone hls
            obtain ⟨M, hM⟩ : ∃ M, M = lens (rs.take i) := ⟨_, rfl⟩
            obtain ⟨M2, hM2⟩ : ∃ M2, M2 = lens (rs.take (i + 1)) := ⟨_, rfl⟩
            rw [← hM, ← hM2] at hls
            rw [← hM2] at hle
            rw [← hM]
            have HM2 := Lib.hid hM2
            have hd : (qt : Int) - (qf : Int) = ((qt - qf : Nat) : Int) := by omega
            obtain ⟨D, hD⟩ : ∃ D, D = qt - qf := ⟨_, rfl⟩
            rw [← hD] at hd hls
            have hadd : (M : Int) + (D : Int) = (M2 : Int) := by omega
            have hD4 : D ≤ 4294967296 := by omega
            have hM4 : M ≤ 171798691840 := by omega
            obtain ⟨o1, o2, o3⟩ := hone
            clear hb hSr hrg hM hM2 hls hD
            go_upto_region 13 with (refine wp_load_run rfl _ rfl b (o + i * 3) rfl ⟨qf, qt, qr⟩ hrg' ?_)
            obtain ⟨wa, hwa, hY, hba, hsa⟩ := one_new wr #[.int .u64 (qf : Int), .int .u64 (qt : Int), .int .i64 qr] 45
            rw [← hwa]
            have hbb := HBr.out.trans (hba.mono HBr.out.size)
            have c0 : wa.cell? ⟨wr.heap.size, 0, none⟩ = some (.int .u64 (qf : Int)) := hY.cell 0
            have c1 : wa.cell? ⟨wr.heap.size, 1, none⟩ = some (.int .u64 (qt : Int)) := hY.cell 1
            have HBB := Lib.hid hbb
            clear hwa hY hba hsa hbb hrg'
            go_wp2_with fail
            go_roundw
            case rel => exact ⟨i + 1, by omega, by go_num, by rw [← HM2.out], HBB.out⟩
            case measure => simp [intOf] <;> omega
          · obtain rfl : i = n5 := by omega
            have e1 : rs.take i = rs := by rw [← HRL.out]; exact List.take_length
            rw [e1, ← HT.out]
            clear hb e1
            have HBL := Lib.hid (HB4.out.trans (HBr.out.mono HB4.out.size))
            have hRl := HR.out.below HBr.out
            have HRl := Lib.hid hRl
            clear HR HBr hRl
            generalize wr = wl at *
            go_wp2_with fail
            go_loopw [6, 52] (fun cm ct wr => ∃ k : Nat, k ≤ n ∧ ct = .int .i64 (k : Int) ∧ cm = .int .i64 ((T - lens ((gs.take k).map g2t) : Nat) : Int) ∧ Below wl.heap.size wl wr) (fun _ ct _ => (n - (intOf ct)).toNat)
            case atStart => exact ⟨0, Nat.zero_le _, rfl, by rw [List.take_zero]; rfl, Below.refl _ _⟩
            case round =>
              obtain ⟨k, hk, rfl, rfl, hb⟩ := hrel
              have HBr := Lib.hid hb
              by_cases hlt2 : k < n
              · have hin2 : (k : Int) < (n : Int) := by omega
                obtain ⟨b, o, hA, hlb, _⟩ := HS.out.2.1.2 (show 0 < n by omega)
                dsimp only at hA
                subst hA
                have hSr := HS.out.below (HBL.out.trans (hb.mono HBL.out.size))
                have hrg := hSr.2.1.range (b := b) (o := o) rfl (j := k) hlt2
                have hrg' : wr.rangeAt b (o + k * 3) ((List.range 3).map (grV (gs.getD k gr0))) := hrg
                have hwf := hSr.wf (j := k) hlt2
                have hls := lensG_succ gs k (by omega)
                have hmem : gs.getD k gr0 ∈ gs := by rw [List.getD_eq_getElem?_getD, List.getElem?_eq_getElem (by omega)]; exact List.getElem_mem _
                have hany := HFND.out _ hmem
                have hokg := okG_parts (HOK.out _ hmem)
                have hle : lens ((gs.take (k + 1)).map g2t) ≤ T := by
                  rw [HT.out, HTOT.out, List.map_take]
                  exact lens_le _ _
                have hat := at_grant b o n c k hin2
                generalize gs.getD k gr0 = g at *
                obtain ⟨gS, gZ, gR⟩ := g
                dsimp only at hls hokg
                have hs4 := hwf.s
                have hz4 := hwf.z
                dsimp only at hs4 hz4
                obtain ⟨M, hM⟩ : ∃ M, M = T - lens ((gs.take k).map g2t) := ⟨_, rfl⟩
                obtain ⟨M2, hM2⟩ : ∃ M2, M2 = T - lens ((gs.take (k + 1)).map g2t) := ⟨_, rfl⟩
                have hsub : (M : Int) - (gZ : Int) = (M2 : Int) := by omega
                have hM4 : M ≤ 171798691840 := by omega
                rw [← hM]
                have HM2 := Lib.hid hM2
                have HANY := Lib.hid hany
                obtain ⟨o1, o2, o3, o4, o5, o6⟩ := hokg
                clear hb hSr hrg hwf hls hmem hany hle hM hM2 o1 o2 o3 o5 o6
                go_upto_region 18 with (refine wp_load_grant rfl _ rfl b (o + k * 3) rfl ⟨gS, gZ, gR⟩ hrg' ?_)
                obtain ⟨wa, hwa, hY, hba, hsa⟩ := one_new wr #[.int .u32 (gS : Int), .int .u32 (gZ : Int), .int .i64 gR] 36
                rw [← hwa]
                have hbb := HBr.out.trans (hba.mono HBr.out.size)
                have c1 : wa.cell? ⟨wr.heap.size, 1, none⟩ = some (.int .u32 (gZ : Int)) := hY.cell 1
                have HBB := Lib.hid hbb
                have HY := Lib.hid hY
                clear hwa hY hba hsa hbb hrg' HBr
                generalize wr.heap.size = gX at *
                go_wp2_with fail
                go_loopw [11, 63] (fun cf cj wq => ∃ j : Nat, j ≤ i ∧ cj = .int .i64 (j : Int) ∧ cf = .bool ((rs.take j).any fun q => fndB q ⟨gS, gZ, gR⟩) ∧ Has wq gX 36 #[.int .u32 (gS : Int), .int .u32 (gZ : Int), .int .i64 gR] ∧ Below wl.heap.size wl wq) (fun _ cj _ => (i - (intOf cj)).toNat)
                case atStart => exact ⟨0, Nat.zero_le _, rfl, by rw [List.take_zero]; rfl, HY.out, HBB.out⟩
                case round =>
                  obtain ⟨j, hj, rfl, rfl, hY2, hb2⟩ := hrel
                  have HY2 := Lib.hid hY2
                  have HB2 := Lib.hid hb2
                  by_cases hlt3 : j < i
                  · have hin3 : (j : Int) < (i : Int) := by omega
                    obtain ⟨b5, o5, hA5, hlb5, _⟩ := HRl.out.2.2 (show 0 < i by omega)
                    dsimp only at hA5
                    subst hA5
                    have hSr := HRl.out.below hb2
                    have hrg := hSr.2.range (b := b5) (o := o5) rfl (j := j) hlt3
                    have hrg' : wr.rangeAt b5 (o5 + j * 3) ((List.range 3).map (ruV (rs.getD j sp0))) := hrg
                    have hone := HRUN.out.one (rs.getD j sp0) (by rw [List.getD_eq_getElem?_getD, List.getElem?_eq_getElem (show j < rs.length by have := HRL.out; omega)]; exact List.getElem_mem _)
                    have hsu := any_succ rs ⟨gS, gZ, gR⟩ j (by have := HRL.out; omega)
                    have hat5 := at_run b5 o5 i c5 j hin3
                    generalize rs.getD j sp0 = q at *
                    obtain ⟨qf, qt, qr⟩ := q
                    dsimp only at hone
                    generalize ((rs.take j).any fun q => fndB q ⟨gS, gZ, gR⟩) = f0 at *
                    have HSU := Lib.hid hsu
                    obtain ⟨p1, p2, p3⟩ := hone
                    clear hSr hrg hsu hY2 hb2 p3
                    go_upto_region 23 with (refine wp_load_run rfl _ rfl b5 (o5 + j * 3) rfl ⟨qf, qt, qr⟩ hrg' ?_)
                    obtain ⟨wa2, hwa2, hZ, hbz, hsz⟩ := one_new wr #[.int .u64 (qf : Int), .int .u64 (qt : Int), .int .i64 qr] 45
                    rw [← hwa2]
                    have hbb2 := HB2.out.trans (hbz.mono HB2.out.size)
                    have hY3 := HY2.out.below hbz HY2.out.lt
                    have c0 : wa2.cell? ⟨wr.heap.size, 0, none⟩ = some (.int .u64 (qf : Int)) := hZ.cell 0
                    have c1 : wa2.cell? ⟨wr.heap.size, 1, none⟩ = some (.int .u64 (qt : Int)) := hZ.cell 1
                    have c2 : wa2.cell? ⟨wr.heap.size, 2, none⟩ = some (.int .i64 qr) := hZ.cell 2
                    have d0 : wa2.cell? ⟨gX, 0, none⟩ = some (.int .u32 (gS : Int)) := hY3.cell 0
                    have d1 : wa2.cell? ⟨gX, 1, none⟩ = some (.int .u32 (gZ : Int)) := hY3.cell 1
                    have d2 : wa2.cell? ⟨gX, 2, none⟩ = some (.int .i64 gR) := hY3.cell 2
                    have HBB2 := Lib.hid hbb2
                    have HY3 := Lib.hid hY3
                    clear hwa2 hZ hbz hsz hbb2 hY3 hrg'
                    cases f0 with
                    | true =>
                      go_wp2_with fail
                      go_roundw
                      case rel => exact ⟨j + 1, by omega, by go_num, by rw [HSU.out]; rfl, HY3.out, HBB2.out⟩
                      case measure => simp [intOf] <;> omega
                    | false =>
                      have hfd : fndB ⟨qf, qt, qr⟩ ⟨gS, gZ, gR⟩ = (decide (qf ≤ gS) && decide (gS + gZ ≤ qt) && decide (qr = gR)) := rfl
                      have HFD := Lib.hid hfd
                      clear hfd
                      by_cases t1 : qf ≤ gS
                      · have t1' : (qf : Int) ≤ (gS : Int) := by omega
                        have HT1 := Lib.hid t1
                        by_cases t2 : gS + gZ ≤ qt
                        · have t2' : (gS : Int) + (gZ : Int) ≤ (qt : Int) := by omega
                          have HT2 := Lib.hid t2
                          by_cases t3 : qr = gR
                          · have t3' : (qr == gR) = true := by rw [t3]; exact beq_self_eq_true _
                            have HT3 := Lib.hid t3
                            clear t1 t2 t3
                            go_wp2_with fail
                            go_roundw
                            case rel => exact ⟨j + 1, by omega, by go_num, by rw [HSU.out, HFD.out, decide_eq_true HT1.out, decide_eq_true HT2.out, decide_eq_true HT3.out]; rfl, HY3.out, HBB2.out⟩
                            case measure => simp [intOf] <;> omega
                          · have t3' : (qr == gR) = false := beq_eq_false_iff_ne.2 t3
                            have HT3 := Lib.hid t3
                            clear t1 t2 t3
                            go_wp2_with fail
                            go_roundw
                            case rel => exact ⟨j + 1, by omega, by go_num, by rw [HSU.out, HFD.out, decide_eq_false HT3.out]; simp, HY3.out, HBB2.out⟩
                            case measure => simp [intOf] <;> omega
                        · have t2' : ¬ (gS : Int) + (gZ : Int) ≤ (qt : Int) := by omega
                          have HT2 := Lib.hid t2
                          clear t1 t2
                          go_wp2_with fail
                          go_roundw
                          case rel => exact ⟨j + 1, by omega, by go_num, by rw [HSU.out, HFD.out, decide_eq_false HT2.out]; simp, HY3.out, HBB2.out⟩
                          case measure => simp [intOf] <;> omega
                      · have t1' : ¬ (qf : Int) ≤ (gS : Int) := by omega
                        have HT1 := Lib.hid t1
                        clear t1
                        go_wp2_with fail
                        go_roundw
                        case rel => exact ⟨j + 1, by omega, by go_num, by rw [HSU.out, HFD.out, decide_eq_false HT1.out]; simp, HY3.out, HBB2.out⟩
                        case measure => simp [intOf] <;> omega
                  · obtain rfl : j = i := by omega
                    rw [show rs.take j = rs by rw [← HRL.out]; exact List.take_length, HANY.out]
                    clear hY2 hb2
                    go_wp2_with fail
                    go_roundw
                    case rel => exact ⟨k + 1, by omega, by go_num, by rw [← HM2.out], HB2.out⟩
                    case measure => simp [intOf] <;> omega
              · obtain rfl : k = n := by omega
                rw [show gs.take k = gs by rw [← hlen]; exact List.take_length, show T - lens (gs.map g2t) = 0 by rw [HT.out, HTOT.out]; omega]
                clear hb
                go_wp2_with fail
                go_ret
                exact ⟨rfl, HBL.out.trans (HBr.out.mono HBL.out.size)⟩
  · have h40' : 40 < (n : Int) := by omega
    go_wp2_with fail
    go_ret
    exact ⟨rfl, HB1.out⟩
end Go.Proofs.YtjpmigagoedbcaaDoor.Pm
