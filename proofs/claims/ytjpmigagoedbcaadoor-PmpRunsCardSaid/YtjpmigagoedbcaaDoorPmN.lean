/-
Layer 12: PmpRuns, by what package pmp's calls answer.
-/
import Derived.Test.YtjpmigagoedbcaaDoorPmM
import Derived.Test.YtjpmigagoedbcaaDoorQw
import Derived.Deep.DeepCutAuto
namespace Go.Proofs.YtjpmigagoedbcaaDoor.Pm
open Go Go.RowKit

theorem byteT_app (l : List Sp) (q : Sp) (x : Nat) (h : hasB q x = true → ∀ o ∈ l, hasB o x = false) : byteT (l ++ [q]) x = if hasB q x then q.r else byteT l x := by
  induction l with
  | nil => show (if hasB q x then q.r else (0 : Int)) = _; rfl
  | cons o l ih =>
    have ih := ih fun hq o ho => h hq o (List.mem_cons_of_mem _ ho)
    show (if hasB o x then o.r else byteT (l ++ [q]) x) = (if hasB q x then q.r else (if hasB o x then o.r else byteT l x))
    cases hq : hasB q x with
    | true =>
      have h1 := h hq o (List.mem_cons_self ..)
      rw [h1, ih, hq]
      rfl
    | false =>
      rw [ih, hq]
      rfl
theorem byteT_take {b : Nat → Int} {rs : List Sp} (h : RunsOf b rs) (i x : Nat) (hi : i < rs.length) : byteT (rs.take (i + 1)) x = if hasB (rs.getD i sp0) x then (rs.getD i sp0).r else byteT (rs.take i) x := by
  have e : rs.getD i sp0 = rs[i] := by simp [List.getD_eq_getElem?_getD, hi]
  rw [takeS_succ rs i hi]
  refine byteT_app _ _ _ fun hq o ho => ?_
  obtain ⟨j, hj, rfl⟩ := List.getElem_of_mem ho
  have hj2 : j < i := by rw [List.length_take] at hj; omega
  rw [List.getElem_take]
  cases hb : hasB (rs[j]'(by omega)) x with
  | false => rfl
  | true =>
    rw [e] at hq
    have := run_one h (by omega) hi hb hq
    omega
set_option maxRecDepth 100000 in
set_option maxHeartbeats 8000000 in
theorem runs12_ok (H : PmpOK) (HR0 : RunsOK) (es : List En) (s : Sl) (x : Nat) (w : World) (hT : TabT w) (hS : SlE w s es) (hx : x < 4294967296) :
    Calls Tryd.prog 5 #[s.v, .int .u32 (x : Int)] w fun e w' => e = .returned (.bool true) ∧ Below w.heap.size w w' := by
  have hlen := hS.1
  have kf := fun W hW => fit12_any H W hW
  obtain ⟨A, n, c⟩ := s
  dsimp only at hlen
  have HS := Lib.hid hS
  clear hS
  show Calls Tryd.prog 5 #[.slice A n c, .int .u32 (x : Int)] w _
  go_enter Tryd.func5, Tryd.ntmps5
  go_wp2_with fail
  have HT := Lib.hid hT
  refine (kf w hT).mono ?_
  clear kf hT
  rintro e w1 ⟨rfl, hb1⟩
  have HB1 := Lib.hid hb1
  clear hb1
  go_wp2_with fail
  refine (show Calls Tryd.prog 14 #[.slice A n c] w1 _ from plain_any es ⟨A, n, c⟩ w1 (HS.out.below HB1.out)).mono ?_
  rintro e w2 ⟨⟨bb, rfl, hbb⟩, hb2⟩
  have hb2' := HB1.out.trans (hb2.mono HB1.out.size)
  have HB2 := Lib.hid hb2'
  clear hb2 hb2'
  cases bb with
  | false =>
    clear hbb
    go_wp2_with fail
    go_ret
    exact ⟨rfl, HB2.out⟩
  | true =>
    have hpl := hbb rfl
    clear hbb
    go_wp2_with fail
    refine (show Calls Tryd.prog 15 #[.slice A n c] w2 _ from HR0.runs es ⟨A, n, c⟩ w2 (HT.out.below HB2.out) (HS.out.below HB2.out) hpl).mono ?_
    rintro e w3 ⟨⟨A5, n5, c5, rs, rfl, hR, hrun⟩, hb3⟩
    have hb3' := HB2.out.trans (hb3.mono HB2.out.size)
    have hrl := hR.1
    have hrn := hR.2.1
    dsimp only at hrl hrn
    have HR := Lib.hid hR
    have HRUN := Lib.hid hrun
    have HB3 := Lib.hid hb3'
    have HRL := Lib.hid hrl
    clear hR hrun hb3 hb3' hrl hpl
    go_wp2_with fail
    go_loopw [6, 18] (fun cm ct wr => ∃ i : Nat, i ≤ n5 ∧ ct = .int .i64 (i : Int) ∧ cm = .int .i64 (byteT (rs.take i) x) ∧ Below w3.heap.size w3 wr) (fun _ ct _ => (n5 - (intOf ct)).toNat)
    case atStart => exact ⟨0, Nat.zero_le _, rfl, rfl, Below.refl _ _⟩
    case round =>
      obtain ⟨i, hi, rfl, rfl, hb⟩ := hrel
      have HBr := Lib.hid hb
      by_cases hlt : i < n5
      · have hin : (i : Int) < (n5 : Int) := by omega
        have hil : i < rs.length := by have := HRL.out; omega
        obtain ⟨b, o, hA, hlb, hcc⟩ := (HR.out.below hb).2.2 (show 0 < n5 by omega)
        dsimp only at hA
        subst hA
        have hrg := (HR.out.below hb).2.range (b := b) (o := o) rfl (j := i) hlt
        have hrg' : wr.rangeAt b (o + i * 3) ((List.range 3).map (ruV (rs.getD i sp0))) := hrg
        have eg : rs.getD i sp0 = rs[i] := by simp [List.getD_eq_getElem?_getD, hil]
        have hone := HRUN.out.one (rs.getD i sp0) (by rw [eg]; exact List.getElem_mem _)
        have hends := run_ends HRUN.out i hil
        have htk := byteT_take HRUN.out i x hil
        have hprev : ∀ j, i = j + 1 → (rs.getD j sp0).t < (rs.getD i sp0).f ∨ ((rs.getD j sp0).t = (rs.getD i sp0).f ∧ (rs.getD j sp0).r ≠ (rs.getD i sp0).r) := fun j hj => by
          subst hj
          have h9 := HRUN.out.asc j hil
          have e1 : rs.getD j sp0 = rs[j] := by simp [List.getD_eq_getElem?_getD, show j < rs.length by omega]
          rw [e1, eg]; exact h9
        have hpc : ∀ j, i = j + 1 → wr.cell? ⟨b, o + j * 3 + 1, none⟩ = some (.int .u64 ((rs.getD j sp0).t : Int)) ∧ wr.cell? ⟨b, o + j * 3 + 2, none⟩ = some (.int .i64 (rs.getD j sp0).r) ∧ (rs.getD j sp0).t ≤ 4294967296 := fun j hj => by
          have e1 : rs.getD j sp0 = rs[j]'(by omega) := by simp [List.getD_eq_getElem?_getD, show j < rs.length by omega]
          exact ⟨hcc j 1 (by show j < n5; omega) (by omega), hcc j 2 (by show j < n5; omega) (by omega), by rw [e1]; exact (HRUN.out.one _ (List.getElem_mem _)).2.1⟩
        rw [← eg] at hends
        have hat := at_run b o n5 c5 i hin
        generalize rs.getD i sp0 = q at *
        obtain ⟨qf, qt, qr⟩ := q
        dsimp only at hone hends htk hprev
        obtain ⟨p1, p2, p3⟩ := hone
        obtain ⟨e1, e2, e3, e4⟩ := hends
        have HTK := Lib.hid htk
        have HPV := Lib.hid hprev
        have HPC := Lib.hid hpc
        have HE1 := Lib.hid e1
        have HE2 := Lib.hid e2
        have HE3 := Lib.hid e3
        have HE4 := Lib.hid e4
        clear hb hcc hrg eg htk hprev hpc e1 e2 e3 e4
        go_upto_region 10 with (refine wp_load_run rfl _ rfl b (o + i * 3) rfl ⟨qf, qt, qr⟩ hrg' ?_)
        obtain ⟨wa, hwa, hY, hba, hsa⟩ := one_new wr #[.int .u64 (qf : Int), .int .u64 (qt : Int), .int .i64 qr] 45
        rw [← hwa]
        have hbb := HBr.out.trans (hba.mono HBr.out.size)
        have hgl : b < wr.heap.size := hlb
        have hpc2 : ∀ j, i = j + 1 → wa.cell? ⟨b, o + j * 3 + 1, none⟩ = some (.int .u64 ((rs.getD j sp0).t : Int)) ∧ wa.cell? ⟨b, o + j * 3 + 2, none⟩ = some (.int .i64 (rs.getD j sp0).r) := fun j hj => ⟨(hba.cell (p := ⟨b, _, none⟩) hgl).trans (HPC.out j hj).1, (hba.cell (p := ⟨b, _, none⟩) hgl).trans (HPC.out j hj).2.1⟩
        have c0 : wa.cell? ⟨wr.heap.size, 0, none⟩ = some (.int .u64 (qf : Int)) := hY.cell 0
        have c1 : wa.cell? ⟨wr.heap.size, 1, none⟩ = some (.int .u64 (qt : Int)) := hY.cell 1
        have c2 : wa.cell? ⟨wr.heap.size, 2, none⟩ = some (.int .i64 qr) := hY.cell 2
        have HPC2 := Lib.hid hpc2
        have HBB := Lib.hid hbb
        have HY := Lib.hid hY
        have f1 : ¬ (qt : Int) ≤ (qf : Int) := by omega
        have f2 : ¬ 4294967296 < (qt : Int) := by omega
        have f3 : (qr == 0) = false := beq_eq_false_iff_ne.2 p3
        clear hwa hba hsa hbb hpc2 hY hrg' HBr HPC
        generalize wr.heap.size = gX at *
        go_cut [74] (fun t wx => t = .bool false ∧ ∃ m, wx = wa.drewN m)
        case first =>
          rcases Nat.eq_zero_or_pos i with h0 | h0
          · have hd0 : decide (0 < i) = false := decide_eq_false (by omega)
            clear h0
            go_quiet (fail)
            go_wp2_with fail
            go_meet
            exact ⟨rfl, nq, rfl⟩
          · obtain ⟨j, hji⟩ : ∃ j, i = j + 1 := ⟨i - 1, by omega⟩
            obtain ⟨d1, d2⟩ := HPC2.out j hji
            have hpv := HPV.out j hji
            have hd0 : decide (0 < i) = true := decide_eq_true h0
            have h0' : 0 < (i : Int) := by omega
            have hj1 : (i : Int) - 1 = (j : Int) := by omega
            have hjn : (j : Int) < (n5 : Int) := by omega
            clear hji
            have hat2 := at_run b o n5 c5 j hjn
            generalize rs.getD j sp0 = p at *
            obtain ⟨pf, pt, pr⟩ := p
            dsimp only at d1 d2 hpv
            rcases hpv with g1 | ⟨g1, g2⟩
            · have g1' : ¬ (qf : Int) < (pt : Int) := by omega
              have g2' : ((pt : Int) == (qf : Int)) = false := beq_eq_false_iff_ne.2 (by omega)
              clear g1
              go_quiet (fail)
              go_wp2_with fail
              go_meet
              exact ⟨rfl, nq, rfl⟩
            · have g1' : ¬ (qf : Int) < (pt : Int) := by omega
              have g2' : ((pt : Int) == (qf : Int)) = true := by rw [g1]; exact beq_self_eq_true _
              have g3' : (pr == qr) = false := beq_eq_false_iff_ne.2 g2
              clear g1 g2
              go_quiet (fail)
              go_wp2_with fail
              go_meet
              exact ⟨rfl, nq, rfl⟩
        case rest =>
          obtain ⟨rfl, m, rfl⟩ := hcut
          have hb5 := below_drewN HBB.out m
          have hY5 : Has (wa.drewN m) gX 45 #[.int .u64 (qf : Int), .int .u64 (qt : Int), .int .i64 qr] := HY.out
          clear c0 c1 c2 HY HBB HPC2 HPV
          have HY := Lib.hid hY5
          have HB5 := Lib.hid hb5
          clear hY5 hb5
          generalize wa.drewN m = wy at *
          have c0 : wy.cell? ⟨gX, 0, none⟩ = some (.int .u64 (qf : Int)) := HY.out.cell 0
          have c1 : wy.cell? ⟨gX, 1, none⟩ = some (.int .u64 (qt : Int)) := HY.out.cell 1
          have c2 : wy.cell? ⟨gX, 2, none⟩ = some (.int .i64 qr) := HY.out.cell 2
          go_upto_region 12 with fail
          go_cut [86] (fun t wx => t = .bool (hasB ⟨qf, qt, qr⟩ x) ∧ wy = wx)
          case first =>
            have hh : hasB ⟨qf, qt, qr⟩ x = (decide (qf ≤ x) && decide (x < qt)) := rfl
            by_cases x1 : qf ≤ x
            · have x1' : (qf : Int) ≤ (x : Int) := by omega
              by_cases x2 : x < qt
              · have x2' : (x : Int) < (qt : Int) := by omega
                have hv : hasB ⟨qf, qt, qr⟩ x = true := by rw [hh, decide_eq_true x1, decide_eq_true x2]; rfl
                have HV := Lib.hid hv
                clear hh hv
                go_wp2_with fail
                go_meet
                exact ⟨by rw [HV.out], rfl⟩
              · have x2' : ¬ (x : Int) < (qt : Int) := by omega
                have hv : hasB ⟨qf, qt, qr⟩ x = false := by rw [hh, decide_eq_false x2]; simp
                have HV := Lib.hid hv
                clear hh hv
                go_wp2_with fail
                go_meet
                exact ⟨by rw [HV.out], rfl⟩
            · have x1' : ¬ (qf : Int) ≤ (x : Int) := by omega
              have hv : hasB ⟨qf, qt, qr⟩ x = false := by rw [hh, decide_eq_false x1]; simp
              have HV := Lib.hid hv
              clear hh hv
              go_wp2_with fail
              go_meet
              exact ⟨by rw [HV.out], rfl⟩
          case rest =>
            obtain ⟨rfl, rfl⟩ := hcut
            have htk := HTK.out
            generalize hasB ⟨qf, qt, qr⟩ x = hb at *
            have HTK2 := Lib.hid htk
            clear htk HTK
            go_upto_if 86 with fail
            go_cut [6] (fun t wx => t = .int .i64 (byteT (rs.take (i + 1)) x) ∧ wy = wx)
            case first =>
              cases hb with
              | true =>
                go_wp2_with fail
                go_meet
                exact ⟨by rw [HTK2.out]; rfl, rfl⟩
              | false =>
                go_wp2_with fail
                go_meet
                exact ⟨by rw [HTK2.out]; rfl, rfl⟩
            case rest =>
            obtain ⟨rfl, rfl⟩ := hcut
            have hSy := HS.out.below (HB3.out.trans (HB5.out.mono HB3.out.size))
            have kB : ∀ (y : Nat), y < 18446744073709551616 → ∀ (W : World), Below wy.heap.size wy W → Calls Tryd.prog 16 #[.slice A n c, .int .i64 (y : Int)] W fun e w' => e = .returned (.int .i64 (byteT (tri 0 es) y)) ∧ Below W.heap.size W w' := fun y hy W hC => (rbyte_any es ⟨A, n, c⟩ y W (hSy.below hC) hy).mono fun e w' ⟨he, hw⟩ => ⟨he, by rw [← hw]; exact Below.refl _ _⟩
            obtain ⟨t1, ht1⟩ : ∃ t1, t1 = qt - 1 := ⟨_, rfl⟩
            have ht1' : (qt : Int) - 1 = (t1 : Int) := by omega
            have kF := kB qf (by omega)
            have kT1 := kB t1 (by omega)
            rw [HE1.out] at kF
            rw [ht1, HE2.out, ← ht1] at kT1
            clear ht1 c0 c1 c2
            go_upto_region 14 with fail
            by_cases hq0 : 0 < qf
            · by_cases hqt : qt < 4294967296
              · obtain ⟨f1, hf1⟩ : ∃ f1, f1 = qf - 1 := ⟨_, rfl⟩
                have hf1' : (qf : Int) - 1 = (f1 : Int) := by omega
                have kF1 := kB f1 (by omega)
                have hvf := HE3.out hq0
                rw [← hf1] at hvf
                obtain ⟨vF, hvF⟩ : ∃ vF, vF = byteT (tri 0 es) f1 := ⟨_, rfl⟩
                rw [← hvF] at kF1 hvf
                have hvf' : (vF == qr) = false := beq_eq_false_iff_ne.2 hvf
                have hq0' : 0 < (qf : Int) := by omega
                have hq0d : decide (0 < qf) = true := decide_eq_true hq0
                clear hf1 hvF hvf
                have kT := kB qt (by omega)
                have hvt := HE4.out hqt
                obtain ⟨vT, hvT⟩ : ∃ vT, vT = byteT (tri 0 es) qt := ⟨_, rfl⟩
                rw [← hvT] at kT hvt
                have hvt' : (vT == qr) = false := beq_eq_false_iff_ne.2 hvt
                have hqt' : (qt : Int) < 4294967296 := by omega
                clear hvT hvt
                refine region_quiet_all (Below wy.heap.size wy) (by kernel_rfl) (by kernel_rfl) (below_drewN (Below.refl _ _) 1) ?_
                refine WQ.out ?_
                refine WQ.lift (wpQ_move _ rfl rfl (.slice A n c) rfl) ?_
                simp only [Act.put, List.setIfInBounds_toArray, List.set_cons_zero, List.set_cons_succ]
                refine WQ.lift (wpQ_val rfl (.pointer (some ⟨gX, 0, none⟩)) (fun w' _ => by go_simp)) ?_
                simp only [Act.put, List.setIfInBounds_toArray, List.set_cons_zero, List.set_cons_succ]
                refine WQ.lift (wpQ_load 43 (.tmp 90) rfl rfl (.pointer (some ⟨gX, 0, none⟩)) rfl (.int .u64 (qf : Int)) (fun w' hC => by
                    have hcell : w'.cell? ⟨gX, 0, none⟩ = some (.int .u64 (qf : Int)) := (hC.cell (p := ⟨gX, 0, none⟩) HY.out.lt).trans (HY.out.cell 0)
                    go_simp)) ?_
                simp only [Act.put, List.setIfInBounds_toArray, List.set_cons_zero, List.set_cons_succ]
                refine WQ.lift (wpQ_val rfl (.int .i64 (qf : Int)) (fun w' hC => by go_simp; exact IntWalk.i64_in _ (by omega))) ?_
                simp only [Act.put, List.setIfInBounds_toArray, List.set_cons_zero, List.set_cons_succ]
                refine WQ.lift (wpQ_fn 16 _ _ rfl rfl #[.slice A n c, .int .i64 (qf : Int)] rfl (fun _ => by go_simp) (.int .i64 qr) (fun w' hC => (kF w' hC).mono fun e w'' ⟨he, hb⟩ => ⟨he, below_class hC hb⟩)) ?_
                simp only [Act.put, List.setIfInBounds_toArray, List.set_cons_zero, List.set_cons_succ]
                refine WQ.lift (wpQ_val rfl (.pointer (some ⟨gX, 2, none⟩)) (fun w' _ => by go_simp)) ?_
                simp only [Act.put, List.setIfInBounds_toArray, List.set_cons_zero, List.set_cons_succ]
                refine WQ.lift (wpQ_load 3 (.tmp 94) rfl rfl (.pointer (some ⟨gX, 2, none⟩)) rfl (.int .i64 qr) (fun w' hC => by
                    have hcell : w'.cell? ⟨gX, 2, none⟩ = some (.int .i64 qr) := (hC.cell (p := ⟨gX, 2, none⟩) HY.out.lt).trans (HY.out.cell 2)
                    go_simp)) ?_
                simp only [Act.put, List.setIfInBounds_toArray, List.set_cons_zero, List.set_cons_succ]
                refine WQ.lift (wpQ_val rfl (.bool false) (fun w' hC => by go_simp)) ?_
                simp only [Act.put, List.setIfInBounds_toArray, List.set_cons_zero, List.set_cons_succ]
                refine WQ.lift (wpQ_move _ rfl rfl (.bool false) rfl) ?_
                simp only [Act.put, List.setIfInBounds_toArray, List.set_cons_zero, List.set_cons_succ]
                refine WQ.lift (wpQ_move _ rfl rfl (.slice A n c) rfl) ?_
                simp only [Act.put, List.setIfInBounds_toArray, List.set_cons_zero, List.set_cons_succ]
                refine WQ.lift (wpQ_val rfl (.pointer (some ⟨gX, 1, none⟩)) (fun w' _ => by go_simp)) ?_
                simp only [Act.put, List.setIfInBounds_toArray, List.set_cons_zero, List.set_cons_succ]
                refine WQ.lift (wpQ_load 43 (.tmp 99) rfl rfl (.pointer (some ⟨gX, 1, none⟩)) rfl (.int .u64 (qt : Int)) (fun w' hC => by
                    have hcell : w'.cell? ⟨gX, 1, none⟩ = some (.int .u64 (qt : Int)) := (hC.cell (p := ⟨gX, 1, none⟩) HY.out.lt).trans (HY.out.cell 1)
                    go_simp)) ?_
                simp only [Act.put, List.setIfInBounds_toArray, List.set_cons_zero, List.set_cons_succ]
                refine WQ.lift (wpQ_val rfl (.int .i64 (qt : Int)) (fun w' hC => by go_simp; exact IntWalk.i64_in _ (by omega))) ?_
                simp only [Act.put, List.setIfInBounds_toArray, List.set_cons_zero, List.set_cons_succ]
                refine WQ.lift (wpQ_val rfl (.int .i64 (t1 : Int)) (fun w' hC => by go_simp; exact IntWalk.i64_in _ (by omega))) ?_
                simp only [Act.put, List.setIfInBounds_toArray, List.set_cons_zero, List.set_cons_succ]
                refine WQ.lift (wpQ_fn 16 _ _ rfl rfl #[.slice A n c, .int .i64 (t1 : Int)] rfl (fun _ => by go_simp) (.int .i64 qr) (fun w' hC => (kT1 w' hC).mono fun e w'' ⟨he, hb⟩ => ⟨he, below_class hC hb⟩)) ?_
                simp only [Act.put, List.setIfInBounds_toArray, List.set_cons_zero, List.set_cons_succ]
                refine WQ.lift (wpQ_val rfl (.pointer (some ⟨gX, 2, none⟩)) (fun w' _ => by go_simp)) ?_
                simp only [Act.put, List.setIfInBounds_toArray, List.set_cons_zero, List.set_cons_succ]
                refine WQ.lift (wpQ_load 3 (.tmp 104) rfl rfl (.pointer (some ⟨gX, 2, none⟩)) rfl (.int .i64 qr) (fun w' hC => by
                    have hcell : w'.cell? ⟨gX, 2, none⟩ = some (.int .i64 qr) := (hC.cell (p := ⟨gX, 2, none⟩) HY.out.lt).trans (HY.out.cell 2)
                    go_simp)) ?_
                simp only [Act.put, List.setIfInBounds_toArray, List.set_cons_zero, List.set_cons_succ]
                refine WQ.lift (wpQ_val rfl (.bool false) (fun w' hC => by go_simp)) ?_
                simp only [Act.put, List.setIfInBounds_toArray, List.set_cons_zero, List.set_cons_succ]
                refine WQ.lift (wpQ_pick _ _ _ rfl rfl false rfl (.bool false) rfl) ?_
                simp only [Act.put, List.setIfInBounds_toArray, List.set_cons_zero, List.set_cons_succ]
                refine WQ.lift (wpQ_move _ rfl rfl (.bool false) rfl) ?_
                simp only [Act.put, List.setIfInBounds_toArray, List.set_cons_zero, List.set_cons_succ]
                refine WQ.lift (wpQ_val rfl (.pointer (some ⟨gX, 0, none⟩)) (fun w' _ => by go_simp)) ?_
                simp only [Act.put, List.setIfInBounds_toArray, List.set_cons_zero, List.set_cons_succ]
                refine WQ.lift (wpQ_load 43 (.tmp 109) rfl rfl (.pointer (some ⟨gX, 0, none⟩)) rfl (.int .u64 (qf : Int)) (fun w' hC => by
                    have hcell : w'.cell? ⟨gX, 0, none⟩ = some (.int .u64 (qf : Int)) := (hC.cell (p := ⟨gX, 0, none⟩) HY.out.lt).trans (HY.out.cell 0)
                    go_simp)) ?_
                simp only [Act.put, List.setIfInBounds_toArray, List.set_cons_zero, List.set_cons_succ]
                refine WQ.lift (wpQ_val rfl (.bool true) (fun w' hC => by go_simp)) ?_
                simp only [Act.put, List.setIfInBounds_toArray, List.set_cons_zero, List.set_cons_succ]
                refine WQ.lift (wpQ_move _ rfl rfl (.bool true) rfl) ?_
                simp only [Act.put, List.setIfInBounds_toArray, List.set_cons_zero, List.set_cons_succ]
                refine WQ.lift (wpQ_move _ rfl rfl (.slice A n c) rfl) ?_
                simp only [Act.put, List.setIfInBounds_toArray, List.set_cons_zero, List.set_cons_succ]
                refine WQ.lift (wpQ_val rfl (.pointer (some ⟨gX, 0, none⟩)) (fun w' _ => by go_simp)) ?_
                simp only [Act.put, List.setIfInBounds_toArray, List.set_cons_zero, List.set_cons_succ]
                refine WQ.lift (wpQ_load 43 (.tmp 114) rfl rfl (.pointer (some ⟨gX, 0, none⟩)) rfl (.int .u64 (qf : Int)) (fun w' hC => by
                    have hcell : w'.cell? ⟨gX, 0, none⟩ = some (.int .u64 (qf : Int)) := (hC.cell (p := ⟨gX, 0, none⟩) HY.out.lt).trans (HY.out.cell 0)
                    go_simp)) ?_
                simp only [Act.put, List.setIfInBounds_toArray, List.set_cons_zero, List.set_cons_succ]
                refine WQ.lift (wpQ_val rfl (.int .i64 (qf : Int)) (fun w' hC => by go_simp; exact IntWalk.i64_in _ (by omega))) ?_
                simp only [Act.put, List.setIfInBounds_toArray, List.set_cons_zero, List.set_cons_succ]
                refine WQ.lift (wpQ_val rfl (.int .i64 (f1 : Int)) (fun w' hC => by go_simp; exact IntWalk.i64_in _ (by omega))) ?_
                simp only [Act.put, List.setIfInBounds_toArray, List.set_cons_zero, List.set_cons_succ]
                refine WQ.lift (wpQ_fn 16 _ _ rfl rfl #[.slice A n c, .int .i64 (f1 : Int)] rfl (fun _ => by go_simp) (.int .i64 vF) (fun w' hC => (kF1 w' hC).mono fun e w'' ⟨he, hb⟩ => ⟨he, below_class hC hb⟩)) ?_
                simp only [Act.put, List.setIfInBounds_toArray, List.set_cons_zero, List.set_cons_succ]
                refine WQ.lift (wpQ_val rfl (.pointer (some ⟨gX, 2, none⟩)) (fun w' _ => by go_simp)) ?_
                simp only [Act.put, List.setIfInBounds_toArray, List.set_cons_zero, List.set_cons_succ]
                refine WQ.lift (wpQ_load 3 (.tmp 119) rfl rfl (.pointer (some ⟨gX, 2, none⟩)) rfl (.int .i64 qr) (fun w' hC => by
                    have hcell : w'.cell? ⟨gX, 2, none⟩ = some (.int .i64 qr) := (hC.cell (p := ⟨gX, 2, none⟩) HY.out.lt).trans (HY.out.cell 2)
                    go_simp)) ?_
                simp only [Act.put, List.setIfInBounds_toArray, List.set_cons_zero, List.set_cons_succ]
                refine WQ.lift (wpQ_val rfl (.bool false) (fun w' hC => by go_simp)) ?_
                simp only [Act.put, List.setIfInBounds_toArray, List.set_cons_zero, List.set_cons_succ]
                refine WQ.lift (wpQ_pick _ _ _ rfl rfl true rfl (.bool false) rfl) ?_
                simp only [Act.put, List.setIfInBounds_toArray, List.set_cons_zero, List.set_cons_succ]
                refine WQ.lift (wpQ_pick _ _ _ rfl rfl false rfl (.bool false) rfl) ?_
                simp only [Act.put, List.setIfInBounds_toArray, List.set_cons_zero, List.set_cons_succ]
                refine WQ.lift (wpQ_move _ rfl rfl (.bool false) rfl) ?_
                simp only [Act.put, List.setIfInBounds_toArray, List.set_cons_zero, List.set_cons_succ]
                refine WQ.lift (wpQ_val rfl (.pointer (some ⟨gX, 1, none⟩)) (fun w' _ => by go_simp)) ?_
                simp only [Act.put, List.setIfInBounds_toArray, List.set_cons_zero, List.set_cons_succ]
                refine WQ.lift (wpQ_load 43 (.tmp 125) rfl rfl (.pointer (some ⟨gX, 1, none⟩)) rfl (.int .u64 (qt : Int)) (fun w' hC => by
                    have hcell : w'.cell? ⟨gX, 1, none⟩ = some (.int .u64 (qt : Int)) := (hC.cell (p := ⟨gX, 1, none⟩) HY.out.lt).trans (HY.out.cell 1)
                    go_simp)) ?_
                simp only [Act.put, List.setIfInBounds_toArray, List.set_cons_zero, List.set_cons_succ]
                refine WQ.lift (wpQ_val rfl (.bool true) (fun w' hC => by go_simp)) ?_
                simp only [Act.put, List.setIfInBounds_toArray, List.set_cons_zero, List.set_cons_succ]
                refine WQ.lift (wpQ_move _ rfl rfl (.bool true) rfl) ?_
                simp only [Act.put, List.setIfInBounds_toArray, List.set_cons_zero, List.set_cons_succ]
                refine WQ.lift (wpQ_move _ rfl rfl (.slice A n c) rfl) ?_
                simp only [Act.put, List.setIfInBounds_toArray, List.set_cons_zero, List.set_cons_succ]
                refine WQ.lift (wpQ_val rfl (.pointer (some ⟨gX, 1, none⟩)) (fun w' _ => by go_simp)) ?_
                simp only [Act.put, List.setIfInBounds_toArray, List.set_cons_zero, List.set_cons_succ]
                refine WQ.lift (wpQ_load 43 (.tmp 130) rfl rfl (.pointer (some ⟨gX, 1, none⟩)) rfl (.int .u64 (qt : Int)) (fun w' hC => by
                    have hcell : w'.cell? ⟨gX, 1, none⟩ = some (.int .u64 (qt : Int)) := (hC.cell (p := ⟨gX, 1, none⟩) HY.out.lt).trans (HY.out.cell 1)
                    go_simp)) ?_
                simp only [Act.put, List.setIfInBounds_toArray, List.set_cons_zero, List.set_cons_succ]
                refine WQ.lift (wpQ_val rfl (.int .i64 (qt : Int)) (fun w' hC => by go_simp; exact IntWalk.i64_in _ (by omega))) ?_
                simp only [Act.put, List.setIfInBounds_toArray, List.set_cons_zero, List.set_cons_succ]
                refine WQ.lift (wpQ_fn 16 _ _ rfl rfl #[.slice A n c, .int .i64 (qt : Int)] rfl (fun _ => by go_simp) (.int .i64 vT) (fun w' hC => (kT w' hC).mono fun e w'' ⟨he, hb⟩ => ⟨he, below_class hC hb⟩)) ?_
                simp only [Act.put, List.setIfInBounds_toArray, List.set_cons_zero, List.set_cons_succ]
                refine WQ.lift (wpQ_val rfl (.pointer (some ⟨gX, 2, none⟩)) (fun w' _ => by go_simp)) ?_
                simp only [Act.put, List.setIfInBounds_toArray, List.set_cons_zero, List.set_cons_succ]
                refine WQ.lift (wpQ_load 3 (.tmp 134) rfl rfl (.pointer (some ⟨gX, 2, none⟩)) rfl (.int .i64 qr) (fun w' hC => by
                    have hcell : w'.cell? ⟨gX, 2, none⟩ = some (.int .i64 qr) := (hC.cell (p := ⟨gX, 2, none⟩) HY.out.lt).trans (HY.out.cell 2)
                    go_simp)) ?_
                simp only [Act.put, List.setIfInBounds_toArray, List.set_cons_zero, List.set_cons_succ]
                refine WQ.lift (wpQ_val rfl (.bool false) (fun w' hC => by go_simp)) ?_
                simp only [Act.put, List.setIfInBounds_toArray, List.set_cons_zero, List.set_cons_succ]
                refine WQ.lift (wpQ_pick _ _ _ rfl rfl true rfl (.bool false) rfl) ?_
                simp only [Act.put, List.setIfInBounds_toArray, List.set_cons_zero, List.set_cons_succ]
                refine WQ.lift (wpQ_pick _ _ _ rfl rfl false rfl (.bool false) rfl) ?_
                simp only [Act.put, List.setIfInBounds_toArray, List.set_cons_zero, List.set_cons_succ]
                refine WQ.mk (wpQuiet_nil ?_)
                intro w' hC
                have hbw := HB5.out.trans (hC.mono HB5.out.size)
                have HBW := Lib.hid hbw
                clear hC hbw kF kT1 kB
                go_wp2_with fail
                go_roundw
                case rel => exact ⟨i + 1, by omega, by go_num, rfl, HBW.out⟩
                case measure => simp [intOf] <;> omega
              · obtain ⟨f1, hf1⟩ : ∃ f1, f1 = qf - 1 := ⟨_, rfl⟩
                have hf1' : (qf : Int) - 1 = (f1 : Int) := by omega
                have kF1 := kB f1 (by omega)
                have hvf := HE3.out hq0
                rw [← hf1] at hvf
                obtain ⟨vF, hvF⟩ : ∃ vF, vF = byteT (tri 0 es) f1 := ⟨_, rfl⟩
                rw [← hvF] at kF1 hvf
                have hvf' : (vF == qr) = false := beq_eq_false_iff_ne.2 hvf
                have hq0' : 0 < (qf : Int) := by omega
                have hq0d : decide (0 < qf) = true := decide_eq_true hq0
                clear hf1 hvF hvf
                have hqt' : ¬ (qt : Int) < 4294967296 := by omega
                clear hqt
                refine region_quiet_all (Below wy.heap.size wy) (by kernel_rfl) (by kernel_rfl) (below_drewN (Below.refl _ _) 1) ?_
                refine WQ.out ?_
                refine WQ.lift (wpQ_move _ rfl rfl (.slice A n c) rfl) ?_
                simp only [Act.put, List.setIfInBounds_toArray, List.set_cons_zero, List.set_cons_succ]
                refine WQ.lift (wpQ_val rfl (.pointer (some ⟨gX, 0, none⟩)) (fun w' _ => by go_simp)) ?_
                simp only [Act.put, List.setIfInBounds_toArray, List.set_cons_zero, List.set_cons_succ]
                refine WQ.lift (wpQ_load 43 (.tmp 90) rfl rfl (.pointer (some ⟨gX, 0, none⟩)) rfl (.int .u64 (qf : Int)) (fun w' hC => by
                    have hcell : w'.cell? ⟨gX, 0, none⟩ = some (.int .u64 (qf : Int)) := (hC.cell (p := ⟨gX, 0, none⟩) HY.out.lt).trans (HY.out.cell 0)
                    go_simp)) ?_
                simp only [Act.put, List.setIfInBounds_toArray, List.set_cons_zero, List.set_cons_succ]
                refine WQ.lift (wpQ_val rfl (.int .i64 (qf : Int)) (fun w' hC => by go_simp; exact IntWalk.i64_in _ (by omega))) ?_
                simp only [Act.put, List.setIfInBounds_toArray, List.set_cons_zero, List.set_cons_succ]
                refine WQ.lift (wpQ_fn 16 _ _ rfl rfl #[.slice A n c, .int .i64 (qf : Int)] rfl (fun _ => by go_simp) (.int .i64 qr) (fun w' hC => (kF w' hC).mono fun e w'' ⟨he, hb⟩ => ⟨he, below_class hC hb⟩)) ?_
                simp only [Act.put, List.setIfInBounds_toArray, List.set_cons_zero, List.set_cons_succ]
                refine WQ.lift (wpQ_val rfl (.pointer (some ⟨gX, 2, none⟩)) (fun w' _ => by go_simp)) ?_
                simp only [Act.put, List.setIfInBounds_toArray, List.set_cons_zero, List.set_cons_succ]
                refine WQ.lift (wpQ_load 3 (.tmp 94) rfl rfl (.pointer (some ⟨gX, 2, none⟩)) rfl (.int .i64 qr) (fun w' hC => by
                    have hcell : w'.cell? ⟨gX, 2, none⟩ = some (.int .i64 qr) := (hC.cell (p := ⟨gX, 2, none⟩) HY.out.lt).trans (HY.out.cell 2)
                    go_simp)) ?_
                simp only [Act.put, List.setIfInBounds_toArray, List.set_cons_zero, List.set_cons_succ]
                refine WQ.lift (wpQ_val rfl (.bool false) (fun w' hC => by go_simp)) ?_
                simp only [Act.put, List.setIfInBounds_toArray, List.set_cons_zero, List.set_cons_succ]
                refine WQ.lift (wpQ_move _ rfl rfl (.bool false) rfl) ?_
                simp only [Act.put, List.setIfInBounds_toArray, List.set_cons_zero, List.set_cons_succ]
                refine WQ.lift (wpQ_move _ rfl rfl (.slice A n c) rfl) ?_
                simp only [Act.put, List.setIfInBounds_toArray, List.set_cons_zero, List.set_cons_succ]
                refine WQ.lift (wpQ_val rfl (.pointer (some ⟨gX, 1, none⟩)) (fun w' _ => by go_simp)) ?_
                simp only [Act.put, List.setIfInBounds_toArray, List.set_cons_zero, List.set_cons_succ]
                refine WQ.lift (wpQ_load 43 (.tmp 99) rfl rfl (.pointer (some ⟨gX, 1, none⟩)) rfl (.int .u64 (qt : Int)) (fun w' hC => by
                    have hcell : w'.cell? ⟨gX, 1, none⟩ = some (.int .u64 (qt : Int)) := (hC.cell (p := ⟨gX, 1, none⟩) HY.out.lt).trans (HY.out.cell 1)
                    go_simp)) ?_
                simp only [Act.put, List.setIfInBounds_toArray, List.set_cons_zero, List.set_cons_succ]
                refine WQ.lift (wpQ_val rfl (.int .i64 (qt : Int)) (fun w' hC => by go_simp; exact IntWalk.i64_in _ (by omega))) ?_
                simp only [Act.put, List.setIfInBounds_toArray, List.set_cons_zero, List.set_cons_succ]
                refine WQ.lift (wpQ_val rfl (.int .i64 (t1 : Int)) (fun w' hC => by go_simp; exact IntWalk.i64_in _ (by omega))) ?_
                simp only [Act.put, List.setIfInBounds_toArray, List.set_cons_zero, List.set_cons_succ]
                refine WQ.lift (wpQ_fn 16 _ _ rfl rfl #[.slice A n c, .int .i64 (t1 : Int)] rfl (fun _ => by go_simp) (.int .i64 qr) (fun w' hC => (kT1 w' hC).mono fun e w'' ⟨he, hb⟩ => ⟨he, below_class hC hb⟩)) ?_
                simp only [Act.put, List.setIfInBounds_toArray, List.set_cons_zero, List.set_cons_succ]
                refine WQ.lift (wpQ_val rfl (.pointer (some ⟨gX, 2, none⟩)) (fun w' _ => by go_simp)) ?_
                simp only [Act.put, List.setIfInBounds_toArray, List.set_cons_zero, List.set_cons_succ]
                refine WQ.lift (wpQ_load 3 (.tmp 104) rfl rfl (.pointer (some ⟨gX, 2, none⟩)) rfl (.int .i64 qr) (fun w' hC => by
                    have hcell : w'.cell? ⟨gX, 2, none⟩ = some (.int .i64 qr) := (hC.cell (p := ⟨gX, 2, none⟩) HY.out.lt).trans (HY.out.cell 2)
                    go_simp)) ?_
                simp only [Act.put, List.setIfInBounds_toArray, List.set_cons_zero, List.set_cons_succ]
                refine WQ.lift (wpQ_val rfl (.bool false) (fun w' hC => by go_simp)) ?_
                simp only [Act.put, List.setIfInBounds_toArray, List.set_cons_zero, List.set_cons_succ]
                refine WQ.lift (wpQ_pick _ _ _ rfl rfl false rfl (.bool false) rfl) ?_
                simp only [Act.put, List.setIfInBounds_toArray, List.set_cons_zero, List.set_cons_succ]
                refine WQ.lift (wpQ_move _ rfl rfl (.bool false) rfl) ?_
                simp only [Act.put, List.setIfInBounds_toArray, List.set_cons_zero, List.set_cons_succ]
                refine WQ.lift (wpQ_val rfl (.pointer (some ⟨gX, 0, none⟩)) (fun w' _ => by go_simp)) ?_
                simp only [Act.put, List.setIfInBounds_toArray, List.set_cons_zero, List.set_cons_succ]
                refine WQ.lift (wpQ_load 43 (.tmp 109) rfl rfl (.pointer (some ⟨gX, 0, none⟩)) rfl (.int .u64 (qf : Int)) (fun w' hC => by
                    have hcell : w'.cell? ⟨gX, 0, none⟩ = some (.int .u64 (qf : Int)) := (hC.cell (p := ⟨gX, 0, none⟩) HY.out.lt).trans (HY.out.cell 0)
                    go_simp)) ?_
                simp only [Act.put, List.setIfInBounds_toArray, List.set_cons_zero, List.set_cons_succ]
                refine WQ.lift (wpQ_val rfl (.bool true) (fun w' hC => by go_simp)) ?_
                simp only [Act.put, List.setIfInBounds_toArray, List.set_cons_zero, List.set_cons_succ]
                refine WQ.lift (wpQ_move _ rfl rfl (.bool true) rfl) ?_
                simp only [Act.put, List.setIfInBounds_toArray, List.set_cons_zero, List.set_cons_succ]
                refine WQ.lift (wpQ_move _ rfl rfl (.slice A n c) rfl) ?_
                simp only [Act.put, List.setIfInBounds_toArray, List.set_cons_zero, List.set_cons_succ]
                refine WQ.lift (wpQ_val rfl (.pointer (some ⟨gX, 0, none⟩)) (fun w' _ => by go_simp)) ?_
                simp only [Act.put, List.setIfInBounds_toArray, List.set_cons_zero, List.set_cons_succ]
                refine WQ.lift (wpQ_load 43 (.tmp 114) rfl rfl (.pointer (some ⟨gX, 0, none⟩)) rfl (.int .u64 (qf : Int)) (fun w' hC => by
                    have hcell : w'.cell? ⟨gX, 0, none⟩ = some (.int .u64 (qf : Int)) := (hC.cell (p := ⟨gX, 0, none⟩) HY.out.lt).trans (HY.out.cell 0)
                    go_simp)) ?_
                simp only [Act.put, List.setIfInBounds_toArray, List.set_cons_zero, List.set_cons_succ]
                refine WQ.lift (wpQ_val rfl (.int .i64 (qf : Int)) (fun w' hC => by go_simp; exact IntWalk.i64_in _ (by omega))) ?_
                simp only [Act.put, List.setIfInBounds_toArray, List.set_cons_zero, List.set_cons_succ]
                refine WQ.lift (wpQ_val rfl (.int .i64 (f1 : Int)) (fun w' hC => by go_simp; exact IntWalk.i64_in _ (by omega))) ?_
                simp only [Act.put, List.setIfInBounds_toArray, List.set_cons_zero, List.set_cons_succ]
                refine WQ.lift (wpQ_fn 16 _ _ rfl rfl #[.slice A n c, .int .i64 (f1 : Int)] rfl (fun _ => by go_simp) (.int .i64 vF) (fun w' hC => (kF1 w' hC).mono fun e w'' ⟨he, hb⟩ => ⟨he, below_class hC hb⟩)) ?_
                simp only [Act.put, List.setIfInBounds_toArray, List.set_cons_zero, List.set_cons_succ]
                refine WQ.lift (wpQ_val rfl (.pointer (some ⟨gX, 2, none⟩)) (fun w' _ => by go_simp)) ?_
                simp only [Act.put, List.setIfInBounds_toArray, List.set_cons_zero, List.set_cons_succ]
                refine WQ.lift (wpQ_load 3 (.tmp 119) rfl rfl (.pointer (some ⟨gX, 2, none⟩)) rfl (.int .i64 qr) (fun w' hC => by
                    have hcell : w'.cell? ⟨gX, 2, none⟩ = some (.int .i64 qr) := (hC.cell (p := ⟨gX, 2, none⟩) HY.out.lt).trans (HY.out.cell 2)
                    go_simp)) ?_
                simp only [Act.put, List.setIfInBounds_toArray, List.set_cons_zero, List.set_cons_succ]
                refine WQ.lift (wpQ_val rfl (.bool false) (fun w' hC => by go_simp)) ?_
                simp only [Act.put, List.setIfInBounds_toArray, List.set_cons_zero, List.set_cons_succ]
                refine WQ.lift (wpQ_pick _ _ _ rfl rfl true rfl (.bool false) rfl) ?_
                simp only [Act.put, List.setIfInBounds_toArray, List.set_cons_zero, List.set_cons_succ]
                refine WQ.lift (wpQ_pick _ _ _ rfl rfl false rfl (.bool false) rfl) ?_
                simp only [Act.put, List.setIfInBounds_toArray, List.set_cons_zero, List.set_cons_succ]
                refine WQ.lift (wpQ_move _ rfl rfl (.bool false) rfl) ?_
                simp only [Act.put, List.setIfInBounds_toArray, List.set_cons_zero, List.set_cons_succ]
                refine WQ.lift (wpQ_val rfl (.pointer (some ⟨gX, 1, none⟩)) (fun w' _ => by go_simp)) ?_
                simp only [Act.put, List.setIfInBounds_toArray, List.set_cons_zero, List.set_cons_succ]
                refine WQ.lift (wpQ_load 43 (.tmp 125) rfl rfl (.pointer (some ⟨gX, 1, none⟩)) rfl (.int .u64 (qt : Int)) (fun w' hC => by
                    have hcell : w'.cell? ⟨gX, 1, none⟩ = some (.int .u64 (qt : Int)) := (hC.cell (p := ⟨gX, 1, none⟩) HY.out.lt).trans (HY.out.cell 1)
                    go_simp)) ?_
                simp only [Act.put, List.setIfInBounds_toArray, List.set_cons_zero, List.set_cons_succ]
                refine WQ.lift (wpQ_val rfl (.bool false) (fun w' hC => by go_simp)) ?_
                simp only [Act.put, List.setIfInBounds_toArray, List.set_cons_zero, List.set_cons_succ]
                refine WQ.lift (wpQ_move _ rfl rfl (.bool false) rfl) ?_
                simp only [Act.put, List.setIfInBounds_toArray, List.set_cons_zero, List.set_cons_succ]
                refine WQ.skip rfl ?_
                simp only [Act.put, List.setIfInBounds_toArray, List.set_cons_zero, List.set_cons_succ]
                refine WQ.skip rfl ?_
                simp only [Act.put, List.setIfInBounds_toArray, List.set_cons_zero, List.set_cons_succ]
                refine WQ.skip rfl ?_
                simp only [Act.put, List.setIfInBounds_toArray, List.set_cons_zero, List.set_cons_succ]
                refine WQ.skip rfl ?_
                simp only [Act.put, List.setIfInBounds_toArray, List.set_cons_zero, List.set_cons_succ]
                refine WQ.skip rfl ?_
                simp only [Act.put, List.setIfInBounds_toArray, List.set_cons_zero, List.set_cons_succ]
                refine WQ.skip rfl ?_
                simp only [Act.put, List.setIfInBounds_toArray, List.set_cons_zero, List.set_cons_succ]
                refine WQ.skip rfl ?_
                simp only [Act.put, List.setIfInBounds_toArray, List.set_cons_zero, List.set_cons_succ]
                refine WQ.skip rfl ?_
                simp only [Act.put, List.setIfInBounds_toArray, List.set_cons_zero, List.set_cons_succ]
                refine WQ.lift (wpQ_pick _ _ _ rfl rfl false rfl (.bool false) rfl) ?_
                simp only [Act.put, List.setIfInBounds_toArray, List.set_cons_zero, List.set_cons_succ]
                refine WQ.lift (wpQ_pick _ _ _ rfl rfl false rfl (.bool false) rfl) ?_
                simp only [Act.put, List.setIfInBounds_toArray, List.set_cons_zero, List.set_cons_succ]
                refine WQ.mk (wpQuiet_nil ?_)
                intro w' hC
                have hbw := HB5.out.trans (hC.mono HB5.out.size)
                have HBW := Lib.hid hbw
                clear hC hbw kF kT1 kB
                go_wp2_with fail
                go_roundw
                case rel => exact ⟨i + 1, by omega, by go_num, rfl, HBW.out⟩
                case measure => simp [intOf] <;> omega
            · by_cases hqt : qt < 4294967296
              · have hq0' : ¬ 0 < (qf : Int) := by omega
                have hq0d : decide (0 < qf) = false := decide_eq_false hq0
                clear hq0
                have kT := kB qt (by omega)
                have hvt := HE4.out hqt
                obtain ⟨vT, hvT⟩ : ∃ vT, vT = byteT (tri 0 es) qt := ⟨_, rfl⟩
                rw [← hvT] at kT hvt
                have hvt' : (vT == qr) = false := beq_eq_false_iff_ne.2 hvt
                have hqt' : (qt : Int) < 4294967296 := by omega
                clear hvT hvt
                refine region_quiet_all (Below wy.heap.size wy) (by kernel_rfl) (by kernel_rfl) (below_drewN (Below.refl _ _) 1) ?_
                refine WQ.out ?_
                refine WQ.lift (wpQ_move _ rfl rfl (.slice A n c) rfl) ?_
                simp only [Act.put, List.setIfInBounds_toArray, List.set_cons_zero, List.set_cons_succ]
                refine WQ.lift (wpQ_val rfl (.pointer (some ⟨gX, 0, none⟩)) (fun w' _ => by go_simp)) ?_
                simp only [Act.put, List.setIfInBounds_toArray, List.set_cons_zero, List.set_cons_succ]
                refine WQ.lift (wpQ_load 43 (.tmp 90) rfl rfl (.pointer (some ⟨gX, 0, none⟩)) rfl (.int .u64 (qf : Int)) (fun w' hC => by
                    have hcell : w'.cell? ⟨gX, 0, none⟩ = some (.int .u64 (qf : Int)) := (hC.cell (p := ⟨gX, 0, none⟩) HY.out.lt).trans (HY.out.cell 0)
                    go_simp)) ?_
                simp only [Act.put, List.setIfInBounds_toArray, List.set_cons_zero, List.set_cons_succ]
                refine WQ.lift (wpQ_val rfl (.int .i64 (qf : Int)) (fun w' hC => by go_simp; exact IntWalk.i64_in _ (by omega))) ?_
                simp only [Act.put, List.setIfInBounds_toArray, List.set_cons_zero, List.set_cons_succ]
                refine WQ.lift (wpQ_fn 16 _ _ rfl rfl #[.slice A n c, .int .i64 (qf : Int)] rfl (fun _ => by go_simp) (.int .i64 qr) (fun w' hC => (kF w' hC).mono fun e w'' ⟨he, hb⟩ => ⟨he, below_class hC hb⟩)) ?_
                simp only [Act.put, List.setIfInBounds_toArray, List.set_cons_zero, List.set_cons_succ]
                refine WQ.lift (wpQ_val rfl (.pointer (some ⟨gX, 2, none⟩)) (fun w' _ => by go_simp)) ?_
                simp only [Act.put, List.setIfInBounds_toArray, List.set_cons_zero, List.set_cons_succ]
                refine WQ.lift (wpQ_load 3 (.tmp 94) rfl rfl (.pointer (some ⟨gX, 2, none⟩)) rfl (.int .i64 qr) (fun w' hC => by
                    have hcell : w'.cell? ⟨gX, 2, none⟩ = some (.int .i64 qr) := (hC.cell (p := ⟨gX, 2, none⟩) HY.out.lt).trans (HY.out.cell 2)
                    go_simp)) ?_
                simp only [Act.put, List.setIfInBounds_toArray, List.set_cons_zero, List.set_cons_succ]
                refine WQ.lift (wpQ_val rfl (.bool false) (fun w' hC => by go_simp)) ?_
                simp only [Act.put, List.setIfInBounds_toArray, List.set_cons_zero, List.set_cons_succ]
                refine WQ.lift (wpQ_move _ rfl rfl (.bool false) rfl) ?_
                simp only [Act.put, List.setIfInBounds_toArray, List.set_cons_zero, List.set_cons_succ]
                refine WQ.lift (wpQ_move _ rfl rfl (.slice A n c) rfl) ?_
                simp only [Act.put, List.setIfInBounds_toArray, List.set_cons_zero, List.set_cons_succ]
                refine WQ.lift (wpQ_val rfl (.pointer (some ⟨gX, 1, none⟩)) (fun w' _ => by go_simp)) ?_
                simp only [Act.put, List.setIfInBounds_toArray, List.set_cons_zero, List.set_cons_succ]
                refine WQ.lift (wpQ_load 43 (.tmp 99) rfl rfl (.pointer (some ⟨gX, 1, none⟩)) rfl (.int .u64 (qt : Int)) (fun w' hC => by
                    have hcell : w'.cell? ⟨gX, 1, none⟩ = some (.int .u64 (qt : Int)) := (hC.cell (p := ⟨gX, 1, none⟩) HY.out.lt).trans (HY.out.cell 1)
                    go_simp)) ?_
                simp only [Act.put, List.setIfInBounds_toArray, List.set_cons_zero, List.set_cons_succ]
                refine WQ.lift (wpQ_val rfl (.int .i64 (qt : Int)) (fun w' hC => by go_simp; exact IntWalk.i64_in _ (by omega))) ?_
                simp only [Act.put, List.setIfInBounds_toArray, List.set_cons_zero, List.set_cons_succ]
                refine WQ.lift (wpQ_val rfl (.int .i64 (t1 : Int)) (fun w' hC => by go_simp; exact IntWalk.i64_in _ (by omega))) ?_
                simp only [Act.put, List.setIfInBounds_toArray, List.set_cons_zero, List.set_cons_succ]
                refine WQ.lift (wpQ_fn 16 _ _ rfl rfl #[.slice A n c, .int .i64 (t1 : Int)] rfl (fun _ => by go_simp) (.int .i64 qr) (fun w' hC => (kT1 w' hC).mono fun e w'' ⟨he, hb⟩ => ⟨he, below_class hC hb⟩)) ?_
                simp only [Act.put, List.setIfInBounds_toArray, List.set_cons_zero, List.set_cons_succ]
                refine WQ.lift (wpQ_val rfl (.pointer (some ⟨gX, 2, none⟩)) (fun w' _ => by go_simp)) ?_
                simp only [Act.put, List.setIfInBounds_toArray, List.set_cons_zero, List.set_cons_succ]
                refine WQ.lift (wpQ_load 3 (.tmp 104) rfl rfl (.pointer (some ⟨gX, 2, none⟩)) rfl (.int .i64 qr) (fun w' hC => by
                    have hcell : w'.cell? ⟨gX, 2, none⟩ = some (.int .i64 qr) := (hC.cell (p := ⟨gX, 2, none⟩) HY.out.lt).trans (HY.out.cell 2)
                    go_simp)) ?_
                simp only [Act.put, List.setIfInBounds_toArray, List.set_cons_zero, List.set_cons_succ]
                refine WQ.lift (wpQ_val rfl (.bool false) (fun w' hC => by go_simp)) ?_
                simp only [Act.put, List.setIfInBounds_toArray, List.set_cons_zero, List.set_cons_succ]
                refine WQ.lift (wpQ_pick _ _ _ rfl rfl false rfl (.bool false) rfl) ?_
                simp only [Act.put, List.setIfInBounds_toArray, List.set_cons_zero, List.set_cons_succ]
                refine WQ.lift (wpQ_move _ rfl rfl (.bool false) rfl) ?_
                simp only [Act.put, List.setIfInBounds_toArray, List.set_cons_zero, List.set_cons_succ]
                refine WQ.lift (wpQ_val rfl (.pointer (some ⟨gX, 0, none⟩)) (fun w' _ => by go_simp)) ?_
                simp only [Act.put, List.setIfInBounds_toArray, List.set_cons_zero, List.set_cons_succ]
                refine WQ.lift (wpQ_load 43 (.tmp 109) rfl rfl (.pointer (some ⟨gX, 0, none⟩)) rfl (.int .u64 (qf : Int)) (fun w' hC => by
                    have hcell : w'.cell? ⟨gX, 0, none⟩ = some (.int .u64 (qf : Int)) := (hC.cell (p := ⟨gX, 0, none⟩) HY.out.lt).trans (HY.out.cell 0)
                    go_simp)) ?_
                simp only [Act.put, List.setIfInBounds_toArray, List.set_cons_zero, List.set_cons_succ]
                refine WQ.lift (wpQ_val rfl (.bool false) (fun w' hC => by go_simp)) ?_
                simp only [Act.put, List.setIfInBounds_toArray, List.set_cons_zero, List.set_cons_succ]
                refine WQ.lift (wpQ_move _ rfl rfl (.bool false) rfl) ?_
                simp only [Act.put, List.setIfInBounds_toArray, List.set_cons_zero, List.set_cons_succ]
                refine WQ.skip rfl ?_
                simp only [Act.put, List.setIfInBounds_toArray, List.set_cons_zero, List.set_cons_succ]
                refine WQ.skip rfl ?_
                simp only [Act.put, List.setIfInBounds_toArray, List.set_cons_zero, List.set_cons_succ]
                refine WQ.skip rfl ?_
                simp only [Act.put, List.setIfInBounds_toArray, List.set_cons_zero, List.set_cons_succ]
                refine WQ.skip rfl ?_
                simp only [Act.put, List.setIfInBounds_toArray, List.set_cons_zero, List.set_cons_succ]
                refine WQ.skip rfl ?_
                simp only [Act.put, List.setIfInBounds_toArray, List.set_cons_zero, List.set_cons_succ]
                refine WQ.skip rfl ?_
                simp only [Act.put, List.setIfInBounds_toArray, List.set_cons_zero, List.set_cons_succ]
                refine WQ.skip rfl ?_
                simp only [Act.put, List.setIfInBounds_toArray, List.set_cons_zero, List.set_cons_succ]
                refine WQ.skip rfl ?_
                simp only [Act.put, List.setIfInBounds_toArray, List.set_cons_zero, List.set_cons_succ]
                refine WQ.skip rfl ?_
                simp only [Act.put, List.setIfInBounds_toArray, List.set_cons_zero, List.set_cons_succ]
                refine WQ.lift (wpQ_pick _ _ _ rfl rfl false rfl (.bool false) rfl) ?_
                simp only [Act.put, List.setIfInBounds_toArray, List.set_cons_zero, List.set_cons_succ]
                refine WQ.lift (wpQ_pick _ _ _ rfl rfl false rfl (.bool false) rfl) ?_
                simp only [Act.put, List.setIfInBounds_toArray, List.set_cons_zero, List.set_cons_succ]
                refine WQ.lift (wpQ_move _ rfl rfl (.bool false) rfl) ?_
                simp only [Act.put, List.setIfInBounds_toArray, List.set_cons_zero, List.set_cons_succ]
                refine WQ.lift (wpQ_val rfl (.pointer (some ⟨gX, 1, none⟩)) (fun w' _ => by go_simp)) ?_
                simp only [Act.put, List.setIfInBounds_toArray, List.set_cons_zero, List.set_cons_succ]
                refine WQ.lift (wpQ_load 43 (.tmp 125) rfl rfl (.pointer (some ⟨gX, 1, none⟩)) rfl (.int .u64 (qt : Int)) (fun w' hC => by
                    have hcell : w'.cell? ⟨gX, 1, none⟩ = some (.int .u64 (qt : Int)) := (hC.cell (p := ⟨gX, 1, none⟩) HY.out.lt).trans (HY.out.cell 1)
                    go_simp)) ?_
                simp only [Act.put, List.setIfInBounds_toArray, List.set_cons_zero, List.set_cons_succ]
                refine WQ.lift (wpQ_val rfl (.bool true) (fun w' hC => by go_simp)) ?_
                simp only [Act.put, List.setIfInBounds_toArray, List.set_cons_zero, List.set_cons_succ]
                refine WQ.lift (wpQ_move _ rfl rfl (.bool true) rfl) ?_
                simp only [Act.put, List.setIfInBounds_toArray, List.set_cons_zero, List.set_cons_succ]
                refine WQ.lift (wpQ_move _ rfl rfl (.slice A n c) rfl) ?_
                simp only [Act.put, List.setIfInBounds_toArray, List.set_cons_zero, List.set_cons_succ]
                refine WQ.lift (wpQ_val rfl (.pointer (some ⟨gX, 1, none⟩)) (fun w' _ => by go_simp)) ?_
                simp only [Act.put, List.setIfInBounds_toArray, List.set_cons_zero, List.set_cons_succ]
                refine WQ.lift (wpQ_load 43 (.tmp 130) rfl rfl (.pointer (some ⟨gX, 1, none⟩)) rfl (.int .u64 (qt : Int)) (fun w' hC => by
                    have hcell : w'.cell? ⟨gX, 1, none⟩ = some (.int .u64 (qt : Int)) := (hC.cell (p := ⟨gX, 1, none⟩) HY.out.lt).trans (HY.out.cell 1)
                    go_simp)) ?_
                simp only [Act.put, List.setIfInBounds_toArray, List.set_cons_zero, List.set_cons_succ]
                refine WQ.lift (wpQ_val rfl (.int .i64 (qt : Int)) (fun w' hC => by go_simp; exact IntWalk.i64_in _ (by omega))) ?_
                simp only [Act.put, List.setIfInBounds_toArray, List.set_cons_zero, List.set_cons_succ]
                refine WQ.lift (wpQ_fn 16 _ _ rfl rfl #[.slice A n c, .int .i64 (qt : Int)] rfl (fun _ => by go_simp) (.int .i64 vT) (fun w' hC => (kT w' hC).mono fun e w'' ⟨he, hb⟩ => ⟨he, below_class hC hb⟩)) ?_
                simp only [Act.put, List.setIfInBounds_toArray, List.set_cons_zero, List.set_cons_succ]
                refine WQ.lift (wpQ_val rfl (.pointer (some ⟨gX, 2, none⟩)) (fun w' _ => by go_simp)) ?_
                simp only [Act.put, List.setIfInBounds_toArray, List.set_cons_zero, List.set_cons_succ]
                refine WQ.lift (wpQ_load 3 (.tmp 134) rfl rfl (.pointer (some ⟨gX, 2, none⟩)) rfl (.int .i64 qr) (fun w' hC => by
                    have hcell : w'.cell? ⟨gX, 2, none⟩ = some (.int .i64 qr) := (hC.cell (p := ⟨gX, 2, none⟩) HY.out.lt).trans (HY.out.cell 2)
                    go_simp)) ?_
                simp only [Act.put, List.setIfInBounds_toArray, List.set_cons_zero, List.set_cons_succ]
                refine WQ.lift (wpQ_val rfl (.bool false) (fun w' hC => by go_simp)) ?_
                simp only [Act.put, List.setIfInBounds_toArray, List.set_cons_zero, List.set_cons_succ]
                refine WQ.lift (wpQ_pick _ _ _ rfl rfl true rfl (.bool false) rfl) ?_
                simp only [Act.put, List.setIfInBounds_toArray, List.set_cons_zero, List.set_cons_succ]
                refine WQ.lift (wpQ_pick _ _ _ rfl rfl false rfl (.bool false) rfl) ?_
                simp only [Act.put, List.setIfInBounds_toArray, List.set_cons_zero, List.set_cons_succ]
                refine WQ.mk (wpQuiet_nil ?_)
                intro w' hC
                have hbw := HB5.out.trans (hC.mono HB5.out.size)
                have HBW := Lib.hid hbw
                clear hC hbw kF kT1 kB
                go_wp2_with fail
                go_roundw
                case rel => exact ⟨i + 1, by omega, by go_num, rfl, HBW.out⟩
                case measure => simp [intOf] <;> omega
              · have hq0' : ¬ 0 < (qf : Int) := by omega
                have hq0d : decide (0 < qf) = false := decide_eq_false hq0
                clear hq0
                have hqt' : ¬ (qt : Int) < 4294967296 := by omega
                clear hqt
                refine region_quiet_all (Below wy.heap.size wy) (by kernel_rfl) (by kernel_rfl) (below_drewN (Below.refl _ _) 1) ?_
                refine WQ.out ?_
                refine WQ.lift (wpQ_move _ rfl rfl (.slice A n c) rfl) ?_
                simp only [Act.put, List.setIfInBounds_toArray, List.set_cons_zero, List.set_cons_succ]
                refine WQ.lift (wpQ_val rfl (.pointer (some ⟨gX, 0, none⟩)) (fun w' _ => by go_simp)) ?_
                simp only [Act.put, List.setIfInBounds_toArray, List.set_cons_zero, List.set_cons_succ]
                refine WQ.lift (wpQ_load 43 (.tmp 90) rfl rfl (.pointer (some ⟨gX, 0, none⟩)) rfl (.int .u64 (qf : Int)) (fun w' hC => by
                    have hcell : w'.cell? ⟨gX, 0, none⟩ = some (.int .u64 (qf : Int)) := (hC.cell (p := ⟨gX, 0, none⟩) HY.out.lt).trans (HY.out.cell 0)
                    go_simp)) ?_
                simp only [Act.put, List.setIfInBounds_toArray, List.set_cons_zero, List.set_cons_succ]
                refine WQ.lift (wpQ_val rfl (.int .i64 (qf : Int)) (fun w' hC => by go_simp; exact IntWalk.i64_in _ (by omega))) ?_
                simp only [Act.put, List.setIfInBounds_toArray, List.set_cons_zero, List.set_cons_succ]
                refine WQ.lift (wpQ_fn 16 _ _ rfl rfl #[.slice A n c, .int .i64 (qf : Int)] rfl (fun _ => by go_simp) (.int .i64 qr) (fun w' hC => (kF w' hC).mono fun e w'' ⟨he, hb⟩ => ⟨he, below_class hC hb⟩)) ?_
                simp only [Act.put, List.setIfInBounds_toArray, List.set_cons_zero, List.set_cons_succ]
                refine WQ.lift (wpQ_val rfl (.pointer (some ⟨gX, 2, none⟩)) (fun w' _ => by go_simp)) ?_
                simp only [Act.put, List.setIfInBounds_toArray, List.set_cons_zero, List.set_cons_succ]
                refine WQ.lift (wpQ_load 3 (.tmp 94) rfl rfl (.pointer (some ⟨gX, 2, none⟩)) rfl (.int .i64 qr) (fun w' hC => by
                    have hcell : w'.cell? ⟨gX, 2, none⟩ = some (.int .i64 qr) := (hC.cell (p := ⟨gX, 2, none⟩) HY.out.lt).trans (HY.out.cell 2)
                    go_simp)) ?_
                simp only [Act.put, List.setIfInBounds_toArray, List.set_cons_zero, List.set_cons_succ]
                refine WQ.lift (wpQ_val rfl (.bool false) (fun w' hC => by go_simp)) ?_
                simp only [Act.put, List.setIfInBounds_toArray, List.set_cons_zero, List.set_cons_succ]
                refine WQ.lift (wpQ_move _ rfl rfl (.bool false) rfl) ?_
                simp only [Act.put, List.setIfInBounds_toArray, List.set_cons_zero, List.set_cons_succ]
                refine WQ.lift (wpQ_move _ rfl rfl (.slice A n c) rfl) ?_
                simp only [Act.put, List.setIfInBounds_toArray, List.set_cons_zero, List.set_cons_succ]
                refine WQ.lift (wpQ_val rfl (.pointer (some ⟨gX, 1, none⟩)) (fun w' _ => by go_simp)) ?_
                simp only [Act.put, List.setIfInBounds_toArray, List.set_cons_zero, List.set_cons_succ]
                refine WQ.lift (wpQ_load 43 (.tmp 99) rfl rfl (.pointer (some ⟨gX, 1, none⟩)) rfl (.int .u64 (qt : Int)) (fun w' hC => by
                    have hcell : w'.cell? ⟨gX, 1, none⟩ = some (.int .u64 (qt : Int)) := (hC.cell (p := ⟨gX, 1, none⟩) HY.out.lt).trans (HY.out.cell 1)
                    go_simp)) ?_
                simp only [Act.put, List.setIfInBounds_toArray, List.set_cons_zero, List.set_cons_succ]
                refine WQ.lift (wpQ_val rfl (.int .i64 (qt : Int)) (fun w' hC => by go_simp; exact IntWalk.i64_in _ (by omega))) ?_
                simp only [Act.put, List.setIfInBounds_toArray, List.set_cons_zero, List.set_cons_succ]
                refine WQ.lift (wpQ_val rfl (.int .i64 (t1 : Int)) (fun w' hC => by go_simp; exact IntWalk.i64_in _ (by omega))) ?_
                simp only [Act.put, List.setIfInBounds_toArray, List.set_cons_zero, List.set_cons_succ]
                refine WQ.lift (wpQ_fn 16 _ _ rfl rfl #[.slice A n c, .int .i64 (t1 : Int)] rfl (fun _ => by go_simp) (.int .i64 qr) (fun w' hC => (kT1 w' hC).mono fun e w'' ⟨he, hb⟩ => ⟨he, below_class hC hb⟩)) ?_
                simp only [Act.put, List.setIfInBounds_toArray, List.set_cons_zero, List.set_cons_succ]
                refine WQ.lift (wpQ_val rfl (.pointer (some ⟨gX, 2, none⟩)) (fun w' _ => by go_simp)) ?_
                simp only [Act.put, List.setIfInBounds_toArray, List.set_cons_zero, List.set_cons_succ]
                refine WQ.lift (wpQ_load 3 (.tmp 104) rfl rfl (.pointer (some ⟨gX, 2, none⟩)) rfl (.int .i64 qr) (fun w' hC => by
                    have hcell : w'.cell? ⟨gX, 2, none⟩ = some (.int .i64 qr) := (hC.cell (p := ⟨gX, 2, none⟩) HY.out.lt).trans (HY.out.cell 2)
                    go_simp)) ?_
                simp only [Act.put, List.setIfInBounds_toArray, List.set_cons_zero, List.set_cons_succ]
                refine WQ.lift (wpQ_val rfl (.bool false) (fun w' hC => by go_simp)) ?_
                simp only [Act.put, List.setIfInBounds_toArray, List.set_cons_zero, List.set_cons_succ]
                refine WQ.lift (wpQ_pick _ _ _ rfl rfl false rfl (.bool false) rfl) ?_
                simp only [Act.put, List.setIfInBounds_toArray, List.set_cons_zero, List.set_cons_succ]
                refine WQ.lift (wpQ_move _ rfl rfl (.bool false) rfl) ?_
                simp only [Act.put, List.setIfInBounds_toArray, List.set_cons_zero, List.set_cons_succ]
                refine WQ.lift (wpQ_val rfl (.pointer (some ⟨gX, 0, none⟩)) (fun w' _ => by go_simp)) ?_
                simp only [Act.put, List.setIfInBounds_toArray, List.set_cons_zero, List.set_cons_succ]
                refine WQ.lift (wpQ_load 43 (.tmp 109) rfl rfl (.pointer (some ⟨gX, 0, none⟩)) rfl (.int .u64 (qf : Int)) (fun w' hC => by
                    have hcell : w'.cell? ⟨gX, 0, none⟩ = some (.int .u64 (qf : Int)) := (hC.cell (p := ⟨gX, 0, none⟩) HY.out.lt).trans (HY.out.cell 0)
                    go_simp)) ?_
                simp only [Act.put, List.setIfInBounds_toArray, List.set_cons_zero, List.set_cons_succ]
                refine WQ.lift (wpQ_val rfl (.bool false) (fun w' hC => by go_simp)) ?_
                simp only [Act.put, List.setIfInBounds_toArray, List.set_cons_zero, List.set_cons_succ]
                refine WQ.lift (wpQ_move _ rfl rfl (.bool false) rfl) ?_
                simp only [Act.put, List.setIfInBounds_toArray, List.set_cons_zero, List.set_cons_succ]
                refine WQ.skip rfl ?_
                simp only [Act.put, List.setIfInBounds_toArray, List.set_cons_zero, List.set_cons_succ]
                refine WQ.skip rfl ?_
                simp only [Act.put, List.setIfInBounds_toArray, List.set_cons_zero, List.set_cons_succ]
                refine WQ.skip rfl ?_
                simp only [Act.put, List.setIfInBounds_toArray, List.set_cons_zero, List.set_cons_succ]
                refine WQ.skip rfl ?_
                simp only [Act.put, List.setIfInBounds_toArray, List.set_cons_zero, List.set_cons_succ]
                refine WQ.skip rfl ?_
                simp only [Act.put, List.setIfInBounds_toArray, List.set_cons_zero, List.set_cons_succ]
                refine WQ.skip rfl ?_
                simp only [Act.put, List.setIfInBounds_toArray, List.set_cons_zero, List.set_cons_succ]
                refine WQ.skip rfl ?_
                simp only [Act.put, List.setIfInBounds_toArray, List.set_cons_zero, List.set_cons_succ]
                refine WQ.skip rfl ?_
                simp only [Act.put, List.setIfInBounds_toArray, List.set_cons_zero, List.set_cons_succ]
                refine WQ.skip rfl ?_
                simp only [Act.put, List.setIfInBounds_toArray, List.set_cons_zero, List.set_cons_succ]
                refine WQ.lift (wpQ_pick _ _ _ rfl rfl false rfl (.bool false) rfl) ?_
                simp only [Act.put, List.setIfInBounds_toArray, List.set_cons_zero, List.set_cons_succ]
                refine WQ.lift (wpQ_pick _ _ _ rfl rfl false rfl (.bool false) rfl) ?_
                simp only [Act.put, List.setIfInBounds_toArray, List.set_cons_zero, List.set_cons_succ]
                refine WQ.lift (wpQ_move _ rfl rfl (.bool false) rfl) ?_
                simp only [Act.put, List.setIfInBounds_toArray, List.set_cons_zero, List.set_cons_succ]
                refine WQ.lift (wpQ_val rfl (.pointer (some ⟨gX, 1, none⟩)) (fun w' _ => by go_simp)) ?_
                simp only [Act.put, List.setIfInBounds_toArray, List.set_cons_zero, List.set_cons_succ]
                refine WQ.lift (wpQ_load 43 (.tmp 125) rfl rfl (.pointer (some ⟨gX, 1, none⟩)) rfl (.int .u64 (qt : Int)) (fun w' hC => by
                    have hcell : w'.cell? ⟨gX, 1, none⟩ = some (.int .u64 (qt : Int)) := (hC.cell (p := ⟨gX, 1, none⟩) HY.out.lt).trans (HY.out.cell 1)
                    go_simp)) ?_
                simp only [Act.put, List.setIfInBounds_toArray, List.set_cons_zero, List.set_cons_succ]
                refine WQ.lift (wpQ_val rfl (.bool false) (fun w' hC => by go_simp)) ?_
                simp only [Act.put, List.setIfInBounds_toArray, List.set_cons_zero, List.set_cons_succ]
                refine WQ.lift (wpQ_move _ rfl rfl (.bool false) rfl) ?_
                simp only [Act.put, List.setIfInBounds_toArray, List.set_cons_zero, List.set_cons_succ]
                refine WQ.skip rfl ?_
                simp only [Act.put, List.setIfInBounds_toArray, List.set_cons_zero, List.set_cons_succ]
                refine WQ.skip rfl ?_
                simp only [Act.put, List.setIfInBounds_toArray, List.set_cons_zero, List.set_cons_succ]
                refine WQ.skip rfl ?_
                simp only [Act.put, List.setIfInBounds_toArray, List.set_cons_zero, List.set_cons_succ]
                refine WQ.skip rfl ?_
                simp only [Act.put, List.setIfInBounds_toArray, List.set_cons_zero, List.set_cons_succ]
                refine WQ.skip rfl ?_
                simp only [Act.put, List.setIfInBounds_toArray, List.set_cons_zero, List.set_cons_succ]
                refine WQ.skip rfl ?_
                simp only [Act.put, List.setIfInBounds_toArray, List.set_cons_zero, List.set_cons_succ]
                refine WQ.skip rfl ?_
                simp only [Act.put, List.setIfInBounds_toArray, List.set_cons_zero, List.set_cons_succ]
                refine WQ.skip rfl ?_
                simp only [Act.put, List.setIfInBounds_toArray, List.set_cons_zero, List.set_cons_succ]
                refine WQ.lift (wpQ_pick _ _ _ rfl rfl false rfl (.bool false) rfl) ?_
                simp only [Act.put, List.setIfInBounds_toArray, List.set_cons_zero, List.set_cons_succ]
                refine WQ.lift (wpQ_pick _ _ _ rfl rfl false rfl (.bool false) rfl) ?_
                simp only [Act.put, List.setIfInBounds_toArray, List.set_cons_zero, List.set_cons_succ]
                refine WQ.mk (wpQuiet_nil ?_)
                intro w' hC
                have hbw := HB5.out.trans (hC.mono HB5.out.size)
                have HBW := Lib.hid hbw
                clear hC hbw kF kT1 kB
                go_wp2_with fail
                go_roundw
                case rel => exact ⟨i + 1, by omega, by go_num, rfl, HBW.out⟩
                case measure => simp [intOf] <;> omega
      · obtain rfl : i = n5 := by omega
        clear hb
        have e1 : rs.take i = rs := by rw [← HRL.out]; exact List.take_length
        rw [e1]
        have kB := rbyte_any es ⟨A, n, c⟩ x wr (HS.out.below (HB3.out.trans (HBr.out.mono HB3.out.size))) (by omega)
        rw [HRUN.out.say x hx] at kB
        generalize byteT rs x = V at *
        clear e1
        go_wp2_with fail
        refine (show Calls Tryd.prog 16 #[.slice A n c, .int .i64 (x : Int)] wr _ from kB).mono ?_
        rintro e w9 ⟨rfl, rfl⟩
        go_wp2_with fail
        go_ret
        exact ⟨by simp, HB3.out.trans (HBr.out.mono HB3.out.size)⟩
end Go.Proofs.YtjpmigagoedbcaaDoor.Pm
