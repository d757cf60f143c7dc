/-
Layer 10, PlaceRuns: the law's walk.
-/
import Derived.Test.YtdifapdppdcidaaPlL
import Derived.Test.YtdifapdppdcidaaJaC
import Derived.Laws.BytesArg
import Derived.Deep.DeepCutAuto
namespace Go.Proofs.Ytdifapdppdcidaa
open Go Go.RowKit

theorem ref_ne {w : World} {g r mb c : Nat} {m m' : Nat → UInt8} (hG : RamP w g m) (hR : RefP w r mb m' c) : r ≠ g ∧ mb ≠ g := by
  obtain ⟨N, _, hG⟩ := hG
  refine ⟨?_, hR.2.has_ne hG⟩
  rintro rfl
  have e := hR.1.symm.trans hG
  injection e with e
  injection e with e1 e2
  exact absurd e2 (by decide)
theorem RefP.keep {w w' : World} {r mb c : Nat} {m : Nat → UInt8} {o : Option Nat} (h : RefP w r mb m c) (k : w.grownBy w' o) (h1 : ∀ l, o = some l → r ≠ l ∧ mb ≠ l) : RefP w' r mb m c :=
  ⟨has_grown h.1 k (fun l e => (h1 l e).1), h.2.kept k (fun e => (h1 mb e.symm).2 rfl)⟩
/-- what the law's loop keeps -/
structure RunO (w0 : World) (g r mb : Nat) (M : Nat → UInt8) (c : Nat) (w : World) : Prop where
  ram : RamP w g M
  ref : RefP w r mb M c
  gB : w0.heap.size ≤ g
  rB : w0.heap.size ≤ r
  mB : w0.heap.size ≤ mb
  bel : Below w0.heap.size w0 w
section
variable {w0 w w' : World} {g r mb c : Nat} {M : Nat → UInt8}
theorem RunO.after (h : RunO w0 g r mb M c w) (k : Below w.heap.size w w') : RunO w0 g r mb M c w' :=
  ⟨h.ram.after k, h.ref.after k, h.gB, h.rB, h.mB, h.bel.trans (k.mono h.bel.size)⟩
theorem RunO.more {c' : Nat} (h : RunO w0 g r mb M c w) (hc : c ≤ c') : RunO w0 g r mb M c' w := ⟨h.ram, ⟨h.ref.1, h.ref.2.more hc⟩, h.gB, h.rB, h.mB, h.bel⟩
theorem RunO.wrote {M' : Nat → UInt8} {w'' : World} {c' : Nat} (h : RunO w0 g r mb M c w) (h1 : RamP w' g M') (k1 : w.grownBy w' (some g)) (h2 : RefP w'' r mb M' c') (k2 : w'.grownBy w'' (some mb)) : RunO w0 g r mb M' c' w'' := by
  have hne := (ref_ne h.ram h.ref).2
  refine ⟨h1.grown k2 (fun l e => by injection e with e; omega), h2, h.gB, h.rB, h.mB, ?_⟩
  have hb := below_only h.bel k1 h.gB h.bel.size
  exact below_only hb k2 h.mB hb.size
end
theorem map_slA_ne {w : World} {mb c n cap : Nat} {m : Nat → UInt8} {A : Option Addr} {bs : List UInt8} (h : MpM w mb m c) (hS : SlA w A n cap bs) (b o : Nat) (s : Option Nat) (e : A = some ⟨b, o, s⟩) (h0 : 0 < n) : b ≠ mb := by
  rintro rfl
  obtain ⟨b', o', e', _, hc⟩ := hS.2.2 h0
  rw [e] at e'
  injection e' with e'
  injection e' with e1 e2 e3
  have hc0 := hc 0 h0
  obtain ⟨k, D, ⟨es, cl, hb, _⟩, _⟩ := h
  rw [e1] at hb
  unfold World.cell? at hc0
  dsimp only at hc0
  rw [hb] at hc0
  cases hc0
theorem ldV_lt (m : Nat → UInt8) (a : Nat) (n : Int) : ldV m a n < 4294967296 := by
  unfold ldV
  by_cases h : stB a n = true
  · rw [if_pos h]
    have hw : widB n = true := by
      unfold stB at h
      exact (Bool.and_eq_true_iff.1 h).1
    have h4 := of_decide_eq_true hw
    exact Nat.lt_of_lt_of_le (ldN_lt m _ _) (show 256 ^ n.toNat ≤ 256 ^ 4 from Nat.pow_le_pow_right (by decide) (by omega))
  · rw [if_neg h]; decide
theorem bne_self (b : Bool) : (b != b) = false := by cases b <;> rfl
set_option maxRecDepth 100000 in
set_option maxHeartbeats 20000000 in
theorem runs10_ok (cs : List Cl) (s : Sl) (T : Nat → Sl) (w0 : World) (hQ : SlCl w0 s cs T) :
    Calls Try.prog 3 #[s.v] w0 fun e w' => e = .returned (.bool true) ∧ Below w0.heap.size w0 w' := by
  obtain ⟨A, n, c, rfl⟩ := s.out
  have hl : cs.length = n := hQ.1
  have hn48 : n ≤ 140737488355328 := hQ.2.1.1.2
  have HQ := Lib.hid hQ
  have HL := Lib.hid hl
  have kF := fit10_any w0
  clear hQ hl
  rw [show Sl.v ⟨A, n, c⟩ = .slice A n c from rfl]
  go_enter Try.func3, Try.ntmps3
  go_wp2_with (go_at_call 7; refine kF.mono ?_; rintro e w1 ⟨rfl, hb1⟩)
  clear kF
  go_loopw [3, 27] (fun nt ct wr => ∃ i : Nat, i ≤ n ∧ ct = .int .i64 (i : Int) ∧ nt = .int .i64 ((wC cs i : Nat) : Int) ∧ wC cs i ≤ 3000 ∧ Below w0.heap.size w0 wr) (fun _ ct _ => (n - (intOf ct)).toNat)
  case atStart => exact ⟨0, Nat.zero_le _, rfl, rfl, Nat.zero_le _, hb1⟩
  case round =>
    obtain ⟨i, hi, rfl, rfl, hw3, hb⟩ := hrel
    by_cases hlt : i < n
    · have di : (i : Int) < (n : Int) := by omega
      obtain ⟨hl1, hC1, hY1⟩ := HQ.out.below hb
      obtain ⟨b, o, hA2, hbl, _⟩ := hC1.2 (by show 0 < n; omega)
      replace hA2 : A = some ⟨b, o, none⟩ := hA2
      subst hA2
      have hr := hC1.range rfl (j := i) hlt
      have ha1 := fun w => at_cl' b o n c i di w
      obtain ⟨hy, hyn, hwf⟩ := hY1 i hlt
      change wr.rangeAt b (o + i * 5) ((List.range 5).map (clV (cs.getD i cl0) (T i))) at hr
      have hws := hb.size
      have HWC : Hid (wC cs (i + 1) = wC cs i + (1 + (cs.getD i cl0).d.length)) := Lib.hid rfl
      obtain ⟨Ab, nb, cb, hTi⟩ := (T i).out
      rw [hTi] at hr hy hyn
      generalize cs.getD i cl0 = cl at *
      obtain ⟨ck, ca, cn, cx, cd⟩ := cl
      have hnb : cd.length = nb := hy.1
      have hnb48 : nb ≤ 140737488355328 := by have h5 : cd.length ≤ 140737488355328 := hwf.l; omega
      have HWC2 : Hid (wC cs (i + 1) = wC cs i + (1 + nb)) := Lib.hid (by rw [HWC.out]; show _ = _ + (1 + nb); rw [← hnb])
      clear hl1 hC1 hY1 hbl hy hyn hwf hnb HWC hTi
      have HB := Lib.hid hb
      clear hb hb1
      generalize wC cs i = q at *
      by_cases h30 : q + (1 + nb) ≤ 3000
      · have d30 : (q : Int) + (1 + (nb : Int)) ≤ 3000 := by omega
        go_wp2_with (first
          | (refine wp_load_cl rfl _ rfl b (o + i * 5) rfl _ hr ?_)
          | (refine wp_fresh 27 5 _ _ _ _ rfl rfl rfl rfl zeroCl infoCl5 (by omega) (clV_one _ _) rfl rfl ?_
             intro w2 hGc hb2 hz2
             have hc4 : w2.cell? ⟨_, 4, none⟩ = some (.slice Ab nb cb) := hGc.cellTab 4 (by omega)))
        go_roundw
        case rel => exact ⟨i + 1, hlt, by go_num, by rw [HWC2.out]; go_num, by rw [HWC2.out]; exact h30, HB.out.trans (hb2.mono hws)⟩
        case measure => simp [intOf] <;> omega
      · have d30 : 3000 < (q : Int) + (1 + (nb : Int)) := by omega
        go_wp2_with (first
          | (refine wp_load_cl rfl _ rfl b (o + i * 5) rfl _ hr ?_)
          | (refine wp_fresh 27 5 _ _ _ _ rfl rfl rfl rfl zeroCl infoCl5 (by omega) (clV_one _ _) rfl rfl ?_
             intro w2 hGc hb2 hz2
             have hc4 : w2.cell? ⟨_, 4, none⟩ = some (.slice Ab nb cb) := hGc.cellTab 4 (by omega)))
        go_ret
        exact ⟨rfl, HB.out.trans (hb2.mono hws)⟩
    · obtain rfl : i = n := by omega
      have HW3 := Lib.hid hw3
      have HB := Lib.hid hb
      clear hw3 hb hb1 hlt hi
      generalize hqq : wC cs i = q at *
      have HW3 : Hid (wC cs i ≤ 3000) := Lib.hid (by rw [hqq]; exact HW3.out)
      clear hqq
      go_upto_region 11 with fail
      go_wp2_with fail
      refine (pnew_any wr).mono ?_
      rintro e w2 ⟨⟨g0, rfl, hG0, hgB0⟩, hb2⟩
      go_wp2_with fail
      refine (rnew_any w2).mono ?_
      rintro e w3 ⟨⟨r, mb, rfl, hR0, hrB0, hmB0⟩, hb3⟩
      have hs1 := HB.out.size
      have hs2 := hb2.size
      have O0 : RunO w0 g0 r mb mem0 0 w3 := ⟨hG0.after hb3, hR0, by omega, by omega, by omega, (HB.out.trans (hb2.mono hs1)).trans (hb3.mono (by omega))⟩
      clear hG0 hgB0 hb2 hR0 hrB0 hmB0 hb3 hs1 hs2
      generalize mem0 = m0 at *
      go_wp2_with fail
      go_loopw [6, 44] (fun tm ct wr => ∃ (j g : Nat) (M : Nat → UInt8), j ≤ i ∧ ct = .int .i64 (j : Int) ∧ tm = mP g ∧ RunO w0 g r mb M (4 * wC cs j) wr) (fun _ ct _ => (i - (intOf ct)).toNat)
      case atStart => exact ⟨0, g0, m0, Nat.zero_le _, rfl, rfl, O0⟩
      case round =>
        obtain ⟨j, g, M, hj, rfl, rfl, hO⟩ := hrel
        clear O0
        by_cases hlt : j < i
        · have di : (j : Int) < (i : Int) := by omega
          obtain ⟨hl1, hC1, hY1⟩ := HQ.out.below hO.bel
          obtain ⟨b, o, hA2, hbl, _⟩ := hC1.2 (by show 0 < i; omega)
          replace hA2 : A = some ⟨b, o, none⟩ := hA2
          subst hA2
          have hr := hC1.range rfl (j := j) hlt
          have ha1 := fun w => at_cl' b o i c j di w
          obtain ⟨hy, hyn, hwf⟩ := hY1 j hlt
          change wr.rangeAt b (o + j * 5) ((List.range 5).map (clV (cs.getD j cl0) (T j))) at hr
          have hws := hO.bel.size
          have hwm := wC_mono cs (show j + 1 ≤ i by omega)
          have HW4 := HW3.out
          have hwe : wC cs (j + 1) = wC cs j + (1 + (cs.getD j cl0).d.length) := rfl
          obtain ⟨Ab, nb, cb, hTi⟩ := (T j).out
          rw [hTi] at hr hy hyn
          have hy0 := (HQ.out.2.2 j hlt).1
          rw [hTi] at hy0
          have HY : Hid (SlA w0 Ab nb cb (cs.getD j cl0).d) := Lib.hid hy0
          clear hy0
          generalize cs.getD j cl0 = cl at *
          obtain ⟨ck, ca, cn, cx, cd⟩ := cl
          have hnb : cd.length = nb := hy.1
          have hca : ca < 4294967296 := hwf.a
          have hcx : cx < 4294967296 := hwf.x
          replace hwe : wC cs (j + 1) = wC cs j + (1 + nb) := by rw [← hnb]; exact hwe
          have hcc : 4 * wC cs j ≤ 12000 := by omega
          have hnb3 : nb ≤ 3000 := by omega
          have HWC := Lib.hid hwe
          clear hl1 hC1 hY1 hbl hy hyn hwf hTi hwe hwm HW4 hnb
          generalize hq4 : 4 * wC cs j = cc at *
          have HQ4 := Lib.hid hq4
          have kH1 := fun (g : Nat) W => has_any g ca cx W hca hcx
          have kH2 := fun W => rhas_any ca cx W hca (by omega)
          change ∀ (g : Nat) W, Calls _ _ _ W fun e w' => e = .returned (.bool (inR ca cx)) ∧ W = w' at kH1
          have hbb := bne_self (inR ca cx)
          generalize inR ca cx = bh at *
          have HO := Lib.hid hO
          clear hO hq4
          go_upto_block 4 with (first
            | (refine wp_load_cl rfl _ rfl b (o + j * 5) rfl _ hr ?_)
            | (refine wp_fresh 27 5 _ _ _ _ rfl rfl rfl rfl zeroCl infoCl5 (by omega) (clV_one _ _) rfl rfl ?_
               intro w1 hGc hb1 hz1
               have hc0 : w1.cell? ⟨_, 0, none⟩ = some (.int .i64 ck) := hGc.cellTab 0 (by omega)
               have hc1 : w1.cell? ⟨_, 1, none⟩ = some (.int .u32 (ca : Int)) := hGc.cellTab 1 (by omega)))
          have hO := HO.out.after hb1
          have hyS : Hid (SlA w0 Ab nb cb cd) := HY
          have hgl := HO.out.ram.lt
          have hrl := HO.out.ref.1.lt
          have hml := HO.out.ref.2.lt
          obtain ⟨gc, hgc⟩ : ∃ x, x = wr.heap.size := ⟨_, rfl⟩
          rw [← hgc] at hGc hc0 hc1 hgl hrl hml ⊢
          clear hb1 HO HY hgc hr ha1 hz1
          have hc2 : w1.cell? ⟨gc, 2, none⟩ = some (.int .i64 cn) := hGc.cellTab 2 (by omega)
          have hc3 : w1.cell? ⟨gc, 3, none⟩ = some (.int .u32 (cx : Int)) := hGc.cellTab 3 (by omega)
          have hc4 : w1.cell? ⟨gc, 4, none⟩ = some (.slice Ab nb cb) := hGc.cellTab 4 (by omega)
          have hne := ref_ne hO.ram hO.ref
          have hgB := hO.gB
          have hmB := hO.mB
          clear hws
          go_cut [6, 11] (fun tm ok wx => ok = .bool true ∧ ∃ (g' : Nat) (M' : Nat → UInt8) (c' : Nat), tm = mP g' ∧ RunO w0 g' r mb M' c' wx ∧ c' ≤ cc + 4 * (1 + nb) ∧ Has wx gc 27 (tab 5 (clV ⟨ck, ca, cn, cx, cd⟩ ⟨Ab, nb, cb⟩)))
          case first =>
              by_cases k0 : ck = 0
              · subst k0
                obtain ⟨q5, hq5⟩ : ∃ q5, q5 = cx % 5000 := ⟨_, rfl⟩
                have e5 : (cx : Int) % 5000 = (q5 : Int) := by omega
                have e5t : (cx : Int).tmod 5000 = (q5 : Int) := by rw [Int.tmod_eq_emod_of_nonneg (by omega)]; exact e5
                have hq5' : q5 < 5000 := by omega
                clear hq5
                cases hin : inR ca q5 with
                | true =>
                  go_upto_region 19 with fail
                  go_wp2_with fail
                  refine (get_any M g ca q5 w1 hO.ram hca (by omega) hin).mono ?_
                  rintro e w2 ⟨⟨v, rfl, hown⟩, hb2⟩
                  obtain ⟨A1, c1, rfl⟩ := own_form hown
                  have hS1 := (own_slA hown).1
                  clear hown
                  go_wp2_with fail
                  refine (rget_any M r mb cc ca q5 w2 (hO.ref.after hb2) hca (by omega) hin).mono ?_
                  rintro e w3 ⟨⟨v, rfl, hown⟩, hb3⟩
                  obtain ⟨A2, c2, rfl⟩ := own_form hown
                  have hS2 := (own_slA hown).1
                  have hv1 := str_conv (hS1.below hb3)
                  have hv2 := str_conv hS2
                  generalize strB (cut M (ca - 2147483648) q5) = st at *
                  replace hO := (hO.after hb2).after hb3
                  replace hGc := (hGc.after hb2).after hb3
                  clear hown hS1 hS2 hb2 hb3 hc0 hc1 hc2 hc3 hc4
                  go_wp2_with fail
                  go_meet
                  exact ⟨rfl, g, M, _, rfl, hO, by omega, hGc⟩

                | false =>
                  go_upto_region 19 with fail
                  go_wp2_with fail
                  refine (get_far g ca q5 w1 hca (by omega) hin).mono ?_
                  rintro e w2 ⟨rfl, rfl⟩
                  go_wp2_with fail
                  refine (rget_far (mP r) ca q5 w1 hca (by omega) hin).mono ?_
                  rintro e w2 ⟨rfl, rfl⟩
                  have hv1 := str_conv (nil_slA w1)
                  generalize strB [] = st at *
                  clear hc0 hc1 hc2 hc3 hc4
                  go_wp2_with fail
                  go_meet
                  exact ⟨rfl, g, M, _, rfl, hO, by omega, hGc⟩

              by_cases k1 : ck = 1
              · subst k1
                have hyw := hyS.out.below hO.bel
                have kP := pput_any M g ca Ab nb cb cd w1 hO.ram hca hyw
                have kR := fun W (h1 : RefP W r mb M cc) (h2 : SlA W Ab nb cb cd) => rput_any M r mb cc ca Ab nb cb cd W h1 hca h2 (by omega) (by omega) (fun b o s e h0 => map_slA_ne h1.2 h2 b o s e h0)
                generalize puM M ca cd = M1 at *
                cases hin : inR ca cd.length with
                | true =>
                  rw [hin] at kP kR
                  rw [show erI true = 0 from rfl] at kP
                  go_upto_region 23 with fail
                  go_wp2_with fail
                  refine kP.mono ?_
                  rintro e w2 ⟨rfl, hR2, hgr2⟩
                  clear kP
                  have hbw2 := below_only hO.bel hgr2 hgB hO.bel.size
                  replace hGc := has_grown hGc hgr2 (fun l e => by injection e with e; omega)
                  have hc4' : w2.cell? ⟨gc, 4, none⟩ = some (.slice Ab nb cb) := hGc.cellTab 4 (by omega)
                  have kR2 := kR w2 (hO.ref.keep hgr2 (fun l e => by injection e with e; omega)) (hyS.out.below hbw2)
                  clear kR
                  go_wp2_with fail
                  refine kR2.mono ?_
                  rintro e w3 ⟨rfl, hR3, hgr3⟩
                  clear kR2
                  replace hO := hO.wrote hR2 hgr2 hR3 hgr3
                  replace hGc := has_grown hGc hgr3 (fun l e => by injection e with e; omega)
                  clear hR2 hgr2 hR3 hgr3 hbw2 hc0 hc1 hc2 hc3 hc4 hc4' hyw
                  go_wp2_with fail
                  go_meet
                  exact ⟨rfl, g, M1, _, rfl, hO, by omega, hGc⟩

                | false =>
                  rw [hin] at kP kR
                  rw [show erI false = 18 from rfl] at kP
                  go_upto_region 23 with fail
                  go_wp2_with fail
                  refine kP.mono ?_
                  rintro e w2 ⟨rfl, hR2, hgr2⟩
                  clear kP
                  have hbw2 := below_only hO.bel hgr2 hgB hO.bel.size
                  replace hGc := has_grown hGc hgr2 (fun l e => by injection e with e; omega)
                  have hc4' : w2.cell? ⟨gc, 4, none⟩ = some (.slice Ab nb cb) := hGc.cellTab 4 (by omega)
                  have kR2 := kR w2 (hO.ref.keep hgr2 (fun l e => by injection e with e; omega)) (hyS.out.below hbw2)
                  clear kR
                  go_wp2_with fail
                  refine kR2.mono ?_
                  rintro e w3 ⟨rfl, hR3, hgr3⟩
                  clear kR2
                  replace hO := hO.wrote hR2 hgr2 hR3 hgr3
                  replace hGc := has_grown hGc hgr3 (fun l e => by injection e with e; omega)
                  clear hR2 hgr2 hR3 hgr3 hbw2 hc0 hc1 hc2 hc3 hc4 hc4' hyw
                  go_wp2_with fail
                  go_meet
                  exact ⟨rfl, g, M1, _, rfl, hO, by omega, hGc⟩

              by_cases k2 : ck = 2
              · subst k2
                have kL := mload_any M g ca cn w1 hO.ram hca
                have kR := fun W (h : RefP W r mb M cc) => rload_any M r mb cc ca cn W h hca
                have hvl := ldV_lt M ca cn
                generalize ldV M ca cn = v at *
                cases hst : stB ca cn with
                | true =>
                  rw [hst] at kL kR
                  rw [show erI true = 0 from rfl] at kL
                  go_upto_region 26 with fail
                  go_wp2_with fail
                  refine kL.mono ?_
                  rintro e w2 ⟨rfl, hb2⟩
                  clear kL
                  replace hGc := hGc.after hb2
                  have hc2' : w2.cell? ⟨gc, 2, none⟩ = some (.int .i64 cn) := hGc.cellTab 2 (by omega)
                  replace hO := hO.after hb2
                  have kR2 := kR w2 hO.ref
                  clear kR
                  go_wp2_with fail
                  refine kR2.mono ?_
                  rintro e w3 ⟨rfl, hb3⟩
                  clear kR2
                  replace hGc := hGc.after hb3
                  replace hO := hO.after hb3
                  clear hb2 hb3 hc0 hc1 hc2 hc3 hc4 hc2'
                  go_wp2_with fail
                  go_meet
                  exact ⟨rfl, g, M, _, rfl, hO, by omega, hGc⟩

                | false =>
                  rw [hst] at kL kR
                  rw [show erI false = 18 from rfl] at kL
                  go_upto_region 26 with fail
                  go_wp2_with fail
                  refine kL.mono ?_
                  rintro e w2 ⟨rfl, hb2⟩
                  clear kL
                  replace hGc := hGc.after hb2
                  have hc2' : w2.cell? ⟨gc, 2, none⟩ = some (.int .i64 cn) := hGc.cellTab 2 (by omega)
                  replace hO := hO.after hb2
                  have kR2 := kR w2 hO.ref
                  clear kR
                  go_wp2_with fail
                  refine kR2.mono ?_
                  rintro e w3 ⟨rfl, hb3⟩
                  clear kR2
                  replace hGc := hGc.after hb3
                  replace hO := hO.after hb3
                  clear hb2 hb3 hc0 hc1 hc2 hc3 hc4 hc2'
                  go_wp2_with fail
                  go_meet
                  exact ⟨rfl, g, M, _, rfl, hO, by omega, hGc⟩

              by_cases k3 : ck = 3
              · subst k3
                have hst1 := fun W (h : RamP W g M) => store_any M g ca cx cn W h hca hcx
                have hst2 := fun W (h : RefP W r mb M cc) => rstore_any M r mb cc ca cx cn W h hca hcx (by omega)
                cases hst : stB ca cn with
                | true =>
                  rw [hst] at hst1 hst2
                  rw [show erI true = 0 from rfl] at hst1
                  go_upto_region 30 with fail
                  clear hc0 hc1 hc2 hc3 hc4
                  refine region_simL [.pointer (some ⟨g, 0, none⟩), .pointer (some ⟨gc, 1, none⟩), .int .u32 (ca : Int), .pointer (some ⟨gc, 2, none⟩), .int .i64 cn, .pointer (some ⟨gc, 3, none⟩), .int .u32 (cx : Int), undef, .bool true, .pointer (some ⟨r, 0, none⟩), .int .i64 (ca : Int), .pointer (some ⟨gc, 2, none⟩), .int .i64 cn, .pointer (some ⟨gc, 3, none⟩), .int .u32 (cx : Int), .int .i64 (cx : Int), undef, .bool true, .bool true] [(7, fun x w => x = .int .i64 0 ∧ RamP w g (stM M ca cn cx)), (16, fun x w => x = .bool true ∧ RefP w r mb (stM M ca cn cx) (cc + 4))] [(7, fun w => RamP w g M), (16, fun w => RefP w r mb M cc)] [(7, fun w w' => w.grownBy w' (some g)), (16, fun w w' => w.grownBy w' (some mb))] (fun w => Below w0.heap.size w0 w ∧ Has w gc 27 (tab 5 (clV ⟨3, ca, cn, cx, cd⟩ ⟨Ab, nb, cb⟩))) 186 (by kernel_rfl) rfl (by kernel_rfl) ?_ ?_ ?_ ?_ ?_ (by decide) ?_
                  · intro w' hb he
                    refine ⟨⟨hO.bel.trans (hb.mono hO.bel.size), hGc.after hb⟩, ?_⟩
                    simp only [List.forall_mem_cons, List.not_mem_nil, false_implies, implies_true, and_true]
                    exact ⟨hO.ram.after hb, hO.ref.after hb⟩
                  · simp only [List.forall_mem_cons, List.not_mem_nil, false_implies, implies_true, and_true]
                    exact ⟨fun w' w'' h hy => ⟨below_only h.1 hy hgB h.1.size, has_grown h.2 hy (fun l e => by injection e with e; omega)⟩, fun w' w'' h hy => ⟨below_only h.1 hy hmB h.1.size, has_grown h.2 hy (fun l e => by injection e with e; omega)⟩⟩
                  · simp only [List.forall_mem_cons, List.not_mem_nil, false_implies, implies_true, and_true]
                    refine ⟨⟨fun h => absurd rfl h, fun _ _ x w' w'' hb ⟨e, h1⟩ hy => ⟨e, h1.grown hy (fun l e => by injection e with e; omega)⟩⟩, ⟨fun _ _ x w' w'' hb ⟨e, h1⟩ hy => ⟨e, h1.keep hy (fun l e => by injection e with e; omega)⟩, fun h => absurd rfl h⟩⟩
                  · simp only [List.forall_mem_cons, List.not_mem_nil, false_implies, implies_true, and_true]
                    refine ⟨⟨fun h => absurd rfl h, fun _ _ w' w'' hb h hy => h.grown hy (fun l e => by injection e with e; omega)⟩, ⟨fun _ _ w' w'' hb h hy => h.keep hy (fun l e => by injection e with e; omega), fun h => absurd rfl h⟩⟩
                  · refine ⟨⟨?_, ?_⟩, ⟨?_, ?_⟩, ⟨?_, ?_⟩, ⟨?_, ?_⟩, ⟨?_, ?_⟩, ⟨?_, ?_⟩, ⟨?_, ?_⟩, ⟨?_, ?_⟩, ⟨?_, ?_⟩, ⟨?_, ?_⟩, ⟨?_, ?_⟩, ⟨?_, ?_⟩, ⟨?_, ?_⟩, ⟨?_, ?_⟩, ⟨?_, ?_⟩, ⟨?_, ?_⟩, ⟨?_, ?_⟩, ⟨?_, ?_⟩, ⟨?_, ?_⟩, trivial⟩
                    · intro v w' AA hAA hg hf hl hgd K hK
                      exact pure_step (.pointer (some ⟨g, 0, none⟩)) (fun ρ hρ => by
                        have e6 : ρ (.tmp 6) = .pointer (some ⟨g, 0, none⟩) := by rw [hρ]; exact hAA.2 6 (by simp)
                        clear hρ hf hAA hl hK hg
                        go_simp) (hK _ _ rfl ⟨rfl, hg.2⟩)
                    · trivial
                    · intro v w' AA hAA hg hf hl hgd K hK
                      exact pure_step (.pointer (some ⟨gc, 1, none⟩)) (fun ρ hρ => by
                        have e9 : ρ (.tmp 9) = .pointer (some ⟨gc, 0, none⟩) := by rw [hρ]; exact hAA.2 9 (by simp)
                        clear hρ hf hAA hl hK hg
                        go_simp) (hK _ _ rfl ⟨rfl, hg.2⟩)
                    · trivial
                    · intro v w' AA hAA hg hf hl hgd K hK
                      have hcell := (show w'.cell? ⟨gc, 1, none⟩ = some (.int .u32 (ca : Int)) from hg.2.2.cellTab 1 (by omega))
                      exact pure_step (.int .u32 (ca : Int)) (fun ρ hρ => by
                        have e140 : ρ (.tmp 140) = .pointer (some ⟨gc, 1, none⟩) := by rw [hρ]; exact (hAA.1 1 _ 140 rfl rfl).trans (hf ⟨1, .data⟩ (by simp) rfl).1
                        clear hρ hf hAA hl hK hg
                        go_simp) (hK _ _ rfl ⟨rfl, hg.2⟩)
                    · trivial
                    · intro v w' AA hAA hg hf hl hgd K hK
                      exact pure_step (.pointer (some ⟨gc, 2, none⟩)) (fun ρ hρ => by
                        have e9 : ρ (.tmp 9) = .pointer (some ⟨gc, 0, none⟩) := by rw [hρ]; exact hAA.2 9 (by simp)
                        clear hρ hf hAA hl hK hg
                        go_simp) (hK _ _ rfl ⟨rfl, hg.2⟩)
                    · trivial
                    · intro v w' AA hAA hg hf hl hgd K hK
                      have hcell := (show w'.cell? ⟨gc, 2, none⟩ = some (.int .i64 cn) from hg.2.2.cellTab 2 (by omega))
                      exact pure_step (.int .i64 cn) (fun ρ hρ => by
                        have e142 : ρ (.tmp 142) = .pointer (some ⟨gc, 2, none⟩) := by rw [hρ]; exact (hAA.1 3 _ 142 rfl rfl).trans (hf ⟨3, .data⟩ (by simp) rfl).1
                        clear hρ hf hAA hl hK hg
                        go_simp) (hK _ _ rfl ⟨rfl, hg.2⟩)
                    · trivial
                    · intro v w' AA hAA hg hf hl hgd K hK
                      exact pure_step (.pointer (some ⟨gc, 3, none⟩)) (fun ρ hρ => by
                        have e9 : ρ (.tmp 9) = .pointer (some ⟨gc, 0, none⟩) := by rw [hρ]; exact hAA.2 9 (by simp)
                        clear hρ hf hAA hl hK hg
                        go_simp) (hK _ _ rfl ⟨rfl, hg.2⟩)
                    · trivial
                    · intro v w' AA hAA hg hf hl hgd K hK
                      have hcell := (show w'.cell? ⟨gc, 3, none⟩ = some (.int .u32 (cx : Int)) from hg.2.2.cellTab 3 (by omega))
                      exact pure_step (.int .u32 (cx : Int)) (fun ρ hρ => by
                        have e144 : ρ (.tmp 144) = .pointer (some ⟨gc, 3, none⟩) := by rw [hρ]; exact (hAA.1 5 _ 144 rfl rfl).trans (hf ⟨5, .data⟩ (by simp) rfl).1
                        clear hρ hf hAA hl hK hg
                        go_simp) (hK _ _ rfl ⟨rfl, hg.2⟩)
                    · trivial
                    · intro v w' AA hAA hg hf hl hgd K hK
                      refine call_step 16 #[.pointer (some ⟨g, 0, none⟩), .int .u32 (ca : Int), .int .i64 cn, .int .u32 (cx : Int)] (fun ρ hρ => by
                        have hfun : ∀ f, ρ (.func f) = .func (.func f) #[] #[] := fun f => by rw [hρ]; rfl
                        have e139 : ρ (.tmp 139) = .pointer (some ⟨g, 0, none⟩) := by rw [hρ]; exact (hAA.1 0 _ 139 rfl rfl).trans (hf ⟨0, .data⟩ (by simp) rfl).1
                        have e141 : ρ (.tmp 141) = .int .u32 (ca : Int) := by rw [hρ]; exact (hAA.1 2 _ 141 rfl rfl).trans (hf ⟨2, .data⟩ (by simp) rfl).1
                        have e143 : ρ (.tmp 143) = .int .i64 cn := by rw [hρ]; exact (hAA.1 4 _ 143 rfl rfl).trans (hf ⟨4, .data⟩ (by simp) rfl).1
                        have e145 : ρ (.tmp 145) = .int .u32 (cx : Int) := by rw [hρ]; exact (hAA.1 6 _ 145 rfl rfl).trans (hf ⟨6, .data⟩ (by simp) rfl).1
                        clear hρ hf hAA hl hK hg
                        go_simp) ?_
                      refine (hst1 w' hg.1).mono ?_
                      rintro e w'' ⟨rfl, hR, hy⟩
                      exact ⟨_, rfl, hK _ _ hy ⟨⟨rfl, hR⟩, below_only hg.2.1 hy hgB hg.2.1.size, has_grown hg.2.2 hy (fun l e => by injection e with e; omega)⟩⟩
                    · trivial
                    · intro v w' AA hAA hg hf hl hgd K hK
                      exact pure_step (.bool true) (fun ρ hρ => by
                        have hcst : ∀ x, ρ (.const x) = x := fun x => by rw [hρ]; rfl
                        obtain ⟨⟨hv7, hR7⟩, _⟩ := hf ⟨7, .data⟩ (by simp) rfl
                        have e146 : ρ (.tmp 146) = .int .i64 0 := by rw [hρ]; exact (hAA.1 7 _ 146 rfl rfl).trans hv7
                        clear hρ hf hAA hl hK hg
                        go_simp) (hK _ _ rfl ⟨rfl, hg.2⟩)
                    · trivial
                    · intro v w' AA hAA hg hf hl hgd K hK
                      exact pure_step (.pointer (some ⟨r, 0, none⟩)) (fun ρ hρ => by
                        have e7 : ρ (.tmp 7) = .pointer (some ⟨r, 0, none⟩) := by rw [hρ]; exact hAA.2 7 (by simp)
                        clear hρ hf hAA hl hK hg
                        go_simp) (hK _ _ rfl ⟨rfl, hg.2⟩)
                    · trivial
                    · intro v w' AA hAA hg hf hl hgd K hK
                      exact pure_step (.int .i64 (ca : Int)) (fun ρ hρ => by
                        have e10 : ρ (.tmp 10) = .int .i64 (ca : Int) := by rw [hρ]; exact hAA.2 10 (by simp)
                        clear hρ hf hAA hl hK hg
                        go_simp) (hK _ _ rfl ⟨rfl, hg.2⟩)
                    · trivial
                    · intro v w' AA hAA hg hf hl hgd K hK
                      exact pure_step (.pointer (some ⟨gc, 2, none⟩)) (fun ρ hρ => by
                        have e9 : ρ (.tmp 9) = .pointer (some ⟨gc, 0, none⟩) := by rw [hρ]; exact hAA.2 9 (by simp)
                        clear hρ hf hAA hl hK hg
                        go_simp) (hK _ _ rfl ⟨rfl, hg.2⟩)
                    · trivial
                    · intro v w' AA hAA hg hf hl hgd K hK
                      have hcell := (show w'.cell? ⟨gc, 2, none⟩ = some (.int .i64 cn) from hg.2.2.cellTab 2 (by omega))
                      exact pure_step (.int .i64 cn) (fun ρ hρ => by
                        have e150 : ρ (.tmp 150) = .pointer (some ⟨gc, 2, none⟩) := by rw [hρ]; exact (hAA.1 11 _ 150 rfl rfl).trans (hf ⟨11, .data⟩ (by simp) rfl).1
                        clear hρ hf hAA hl hK hg
                        go_simp) (hK _ _ rfl ⟨rfl, hg.2⟩)
                    · trivial
                    · intro v w' AA hAA hg hf hl hgd K hK
                      exact pure_step (.pointer (some ⟨gc, 3, none⟩)) (fun ρ hρ => by
                        have e9 : ρ (.tmp 9) = .pointer (some ⟨gc, 0, none⟩) := by rw [hρ]; exact hAA.2 9 (by simp)
                        clear hρ hf hAA hl hK hg
                        go_simp) (hK _ _ rfl ⟨rfl, hg.2⟩)
                    · trivial
                    · intro v w' AA hAA hg hf hl hgd K hK
                      have hcell := (show w'.cell? ⟨gc, 3, none⟩ = some (.int .u32 (cx : Int)) from hg.2.2.cellTab 3 (by omega))
                      exact pure_step (.int .u32 (cx : Int)) (fun ρ hρ => by
                        have e152 : ρ (.tmp 152) = .pointer (some ⟨gc, 3, none⟩) := by rw [hρ]; exact (hAA.1 13 _ 152 rfl rfl).trans (hf ⟨13, .data⟩ (by simp) rfl).1
                        clear hρ hf hAA hl hK hg
                        go_simp) (hK _ _ rfl ⟨rfl, hg.2⟩)
                    · trivial
                    · intro v w' AA hAA hg hf hl hgd K hK
                      exact pure_step (.int .i64 (cx : Int)) (fun ρ hρ => by
                        have e153 : ρ (.tmp 153) = .int .u32 (cx : Int) := by rw [hρ]; exact (hAA.1 14 _ 153 rfl rfl).trans (hf ⟨14, .data⟩ (by simp) rfl).1
                        clear hρ hf hAA hl hK hg
                        have hwr : IntKind.i64.wrap (cx : Int) = (cx : Int) := IntWalk.i64_in _ (by omega)
                        go_simp) (hK _ _ rfl ⟨rfl, hg.2⟩)
                    · trivial
                    · intro v w' AA hAA hg hf hl hgd K hK
                      refine call_step 17 #[.pointer (some ⟨r, 0, none⟩), .int .i64 (ca : Int), .int .i64 cn, .int .i64 (cx : Int)] (fun ρ hρ => by
                        have hfun : ∀ f, ρ (.func f) = .func (.func f) #[] #[] := fun f => by rw [hρ]; rfl
                        have e148 : ρ (.tmp 148) = .pointer (some ⟨r, 0, none⟩) := by rw [hρ]; exact (hAA.1 9 _ 148 rfl rfl).trans (hf ⟨9, .data⟩ (by simp) rfl).1
                        have e149 : ρ (.tmp 149) = .int .i64 (ca : Int) := by rw [hρ]; exact (hAA.1 10 _ 149 rfl rfl).trans (hf ⟨10, .data⟩ (by simp) rfl).1
                        have e151 : ρ (.tmp 151) = .int .i64 cn := by rw [hρ]; exact (hAA.1 12 _ 151 rfl rfl).trans (hf ⟨12, .data⟩ (by simp) rfl).1
                        have e154 : ρ (.tmp 154) = .int .i64 (cx : Int) := by rw [hρ]; exact (hAA.1 15 _ 154 rfl rfl).trans (hf ⟨15, .data⟩ (by simp) rfl).1
                        clear hρ hf hAA hl hK hg
                        go_simp) ?_
                      refine (hst2 w' hg.1).mono ?_
                      rintro e w'' ⟨rfl, hR, hy⟩
                      exact ⟨_, rfl, hK _ _ hy ⟨⟨rfl, hR⟩, below_only hg.2.1 hy hmB hg.2.1.size, has_grown hg.2.2 hy (fun l e => by injection e with e; omega)⟩⟩
                    · trivial
                    · intro v w' AA hAA hg hf hl hgd K hK
                      exact pure_step (.bool true) (fun ρ hρ => by
                        have e147 : ρ (.tmp 147) = .bool true := by rw [hρ]; exact (hAA.1 8 _ 147 rfl rfl).trans (hf ⟨8, .data⟩ (by simp) rfl).1
                        obtain ⟨⟨hv16, hR16⟩, _⟩ := hf ⟨16, .data⟩ (by simp) rfl
                        have e155 : ρ (.tmp 155) = .bool true := by rw [hρ]; exact (hAA.1 16 _ 155 rfl rfl).trans hv16
                        clear hρ hf hAA hl hK hg
                        go_simp) (hK _ _ rfl ⟨rfl, hg.2⟩)
                    · trivial
                    · intro v w' AA hAA hg hf hl hgd K hK
                      exact pure_step (.bool true) (fun ρ hρ => by
                        have e156 : ρ (.tmp 156) = .bool true := by rw [hρ]; exact (hAA.1 17 _ 156 rfl rfl).trans (hf ⟨17, .data⟩ (by simp) rfl).1
                        clear hρ hf hAA hl hK hg
                        go_simp) (hK _ _ rfl ⟨rfl, hg.2⟩)
                    · trivial
                  intro v wE hIE hE
                  have f0 : v 0 = .pointer (some ⟨g, 0, none⟩) := (hE 0 (by decide)).1
                  have f1 : v 1 = .pointer (some ⟨gc, 1, none⟩) := (hE 1 (by decide)).1
                  have f2 : v 2 = .int .u32 (ca : Int) := (hE 2 (by decide)).1
                  have f3 : v 3 = .pointer (some ⟨gc, 2, none⟩) := (hE 3 (by decide)).1
                  have f4 : v 4 = .int .i64 cn := (hE 4 (by decide)).1
                  have f5 : v 5 = .pointer (some ⟨gc, 3, none⟩) := (hE 5 (by decide)).1
                  have f6 : v 6 = .int .u32 (cx : Int) := (hE 6 (by decide)).1
                  obtain ⟨⟨hv7, hR7⟩, _⟩ := hE 7 (by decide)
                  have f8 : v 8 = .bool true := (hE 8 (by decide)).1
                  have f9 : v 9 = .pointer (some ⟨r, 0, none⟩) := (hE 9 (by decide)).1
                  have f10 : v 10 = .int .i64 (ca : Int) := (hE 10 (by decide)).1
                  have f11 : v 11 = .pointer (some ⟨gc, 2, none⟩) := (hE 11 (by decide)).1
                  have f12 : v 12 = .int .i64 cn := (hE 12 (by decide)).1
                  have f13 : v 13 = .pointer (some ⟨gc, 3, none⟩) := (hE 13 (by decide)).1
                  have f14 : v 14 = .int .u32 (cx : Int) := (hE 14 (by decide)).1
                  have f15 : v 15 = .int .i64 (cx : Int) := (hE 15 (by decide)).1
                  obtain ⟨⟨hv16, hR16⟩, _⟩ := hE 16 (by decide)
                  have f17 : v 17 = .bool true := (hE 17 (by decide)).1
                  have f18 : v 18 = .bool true := (hE 18 (by decide)).1
                  clear hE
                  simp only [putAll, Act.put, List.setIfInBounds_toArray, List.set_cons_zero, List.set_cons_succ, Nat.zero_add, Nat.reduceAdd]
                  rw [f0, f1, f2, f3, f4, f5, f6, hv7, f8, f9, f10, f11, f12, f13, f14, f15, hv16, f17, f18]
                  clear f0 f1 f2 f3 f4 f5 f6 f8 f9 f10 f11 f12 f13 f14 f15 f17 f18
                  replace hO : RunO w0 g r mb (stM M ca cn cx) (cc + 4) wE := ⟨hR7, hR16, hgB, hO.rB, hmB, hIE.1⟩
                  replace hGc := hIE.2
                  clear hIE hR7 hR16 hst1 hst2
                  go_wp2_with fail
                  go_meet
                  exact ⟨rfl, g, (stM M ca cn cx), _, rfl, hO, by omega, hGc⟩

                | false =>
                  rw [hst] at hst1 hst2
                  rw [show erI false = 18 from rfl] at hst1
                  go_upto_region 30 with fail
                  clear hc0 hc1 hc2 hc3 hc4
                  refine region_simL [.pointer (some ⟨g, 0, none⟩), .pointer (some ⟨gc, 1, none⟩), .int .u32 (ca : Int), .pointer (some ⟨gc, 2, none⟩), .int .i64 cn, .pointer (some ⟨gc, 3, none⟩), .int .u32 (cx : Int), undef, .bool false, .pointer (some ⟨r, 0, none⟩), .int .i64 (ca : Int), .pointer (some ⟨gc, 2, none⟩), .int .i64 cn, .pointer (some ⟨gc, 3, none⟩), .int .u32 (cx : Int), .int .i64 (cx : Int), undef, .bool true, .bool true] [(7, fun x w => x = .int .i64 18 ∧ RamP w g (stM M ca cn cx)), (16, fun x w => x = .bool false ∧ RefP w r mb (stM M ca cn cx) (cc + 4))] [(7, fun w => RamP w g M), (16, fun w => RefP w r mb M cc)] [(7, fun w w' => w.grownBy w' (some g)), (16, fun w w' => w.grownBy w' (some mb))] (fun w => Below w0.heap.size w0 w ∧ Has w gc 27 (tab 5 (clV ⟨3, ca, cn, cx, cd⟩ ⟨Ab, nb, cb⟩))) 186 (by kernel_rfl) rfl (by kernel_rfl) ?_ ?_ ?_ ?_ ?_ (by decide) ?_
                  · intro w' hb he
                    refine ⟨⟨hO.bel.trans (hb.mono hO.bel.size), hGc.after hb⟩, ?_⟩
                    simp only [List.forall_mem_cons, List.not_mem_nil, false_implies, implies_true, and_true]
                    exact ⟨hO.ram.after hb, hO.ref.after hb⟩
                  · simp only [List.forall_mem_cons, List.not_mem_nil, false_implies, implies_true, and_true]
                    exact ⟨fun w' w'' h hy => ⟨below_only h.1 hy hgB h.1.size, has_grown h.2 hy (fun l e => by injection e with e; omega)⟩, fun w' w'' h hy => ⟨below_only h.1 hy hmB h.1.size, has_grown h.2 hy (fun l e => by injection e with e; omega)⟩⟩
                  · simp only [List.forall_mem_cons, List.not_mem_nil, false_implies, implies_true, and_true]
                    refine ⟨⟨fun h => absurd rfl h, fun _ _ x w' w'' hb ⟨e, h1⟩ hy => ⟨e, h1.grown hy (fun l e => by injection e with e; omega)⟩⟩, ⟨fun _ _ x w' w'' hb ⟨e, h1⟩ hy => ⟨e, h1.keep hy (fun l e => by injection e with e; omega)⟩, fun h => absurd rfl h⟩⟩
                  · simp only [List.forall_mem_cons, List.not_mem_nil, false_implies, implies_true, and_true]
                    refine ⟨⟨fun h => absurd rfl h, fun _ _ w' w'' hb h hy => h.grown hy (fun l e => by injection e with e; omega)⟩, ⟨fun _ _ w' w'' hb h hy => h.keep hy (fun l e => by injection e with e; omega), fun h => absurd rfl h⟩⟩
                  · refine ⟨⟨?_, ?_⟩, ⟨?_, ?_⟩, ⟨?_, ?_⟩, ⟨?_, ?_⟩, ⟨?_, ?_⟩, ⟨?_, ?_⟩, ⟨?_, ?_⟩, ⟨?_, ?_⟩, ⟨?_, ?_⟩, ⟨?_, ?_⟩, ⟨?_, ?_⟩, ⟨?_, ?_⟩, ⟨?_, ?_⟩, ⟨?_, ?_⟩, ⟨?_, ?_⟩, ⟨?_, ?_⟩, ⟨?_, ?_⟩, ⟨?_, ?_⟩, ⟨?_, ?_⟩, trivial⟩
                    · intro v w' AA hAA hg hf hl hgd K hK
                      exact pure_step (.pointer (some ⟨g, 0, none⟩)) (fun ρ hρ => by
                        have e6 : ρ (.tmp 6) = .pointer (some ⟨g, 0, none⟩) := by rw [hρ]; exact hAA.2 6 (by simp)
                        clear hρ hf hAA hl hK hg
                        go_simp) (hK _ _ rfl ⟨rfl, hg.2⟩)
                    · trivial
                    · intro v w' AA hAA hg hf hl hgd K hK
                      exact pure_step (.pointer (some ⟨gc, 1, none⟩)) (fun ρ hρ => by
                        have e9 : ρ (.tmp 9) = .pointer (some ⟨gc, 0, none⟩) := by rw [hρ]; exact hAA.2 9 (by simp)
                        clear hρ hf hAA hl hK hg
                        go_simp) (hK _ _ rfl ⟨rfl, hg.2⟩)
                    · trivial
                    · intro v w' AA hAA hg hf hl hgd K hK
                      have hcell := (show w'.cell? ⟨gc, 1, none⟩ = some (.int .u32 (ca : Int)) from hg.2.2.cellTab 1 (by omega))
                      exact pure_step (.int .u32 (ca : Int)) (fun ρ hρ => by
                        have e140 : ρ (.tmp 140) = .pointer (some ⟨gc, 1, none⟩) := by rw [hρ]; exact (hAA.1 1 _ 140 rfl rfl).trans (hf ⟨1, .data⟩ (by simp) rfl).1
                        clear hρ hf hAA hl hK hg
                        go_simp) (hK _ _ rfl ⟨rfl, hg.2⟩)
                    · trivial
                    · intro v w' AA hAA hg hf hl hgd K hK
                      exact pure_step (.pointer (some ⟨gc, 2, none⟩)) (fun ρ hρ => by
                        have e9 : ρ (.tmp 9) = .pointer (some ⟨gc, 0, none⟩) := by rw [hρ]; exact hAA.2 9 (by simp)
                        clear hρ hf hAA hl hK hg
                        go_simp) (hK _ _ rfl ⟨rfl, hg.2⟩)
                    · trivial
                    · intro v w' AA hAA hg hf hl hgd K hK
                      have hcell := (show w'.cell? ⟨gc, 2, none⟩ = some (.int .i64 cn) from hg.2.2.cellTab 2 (by omega))
                      exact pure_step (.int .i64 cn) (fun ρ hρ => by
                        have e142 : ρ (.tmp 142) = .pointer (some ⟨gc, 2, none⟩) := by rw [hρ]; exact (hAA.1 3 _ 142 rfl rfl).trans (hf ⟨3, .data⟩ (by simp) rfl).1
                        clear hρ hf hAA hl hK hg
                        go_simp) (hK _ _ rfl ⟨rfl, hg.2⟩)
                    · trivial
                    · intro v w' AA hAA hg hf hl hgd K hK
                      exact pure_step (.pointer (some ⟨gc, 3, none⟩)) (fun ρ hρ => by
                        have e9 : ρ (.tmp 9) = .pointer (some ⟨gc, 0, none⟩) := by rw [hρ]; exact hAA.2 9 (by simp)
                        clear hρ hf hAA hl hK hg
                        go_simp) (hK _ _ rfl ⟨rfl, hg.2⟩)
                    · trivial
                    · intro v w' AA hAA hg hf hl hgd K hK
                      have hcell := (show w'.cell? ⟨gc, 3, none⟩ = some (.int .u32 (cx : Int)) from hg.2.2.cellTab 3 (by omega))
                      exact pure_step (.int .u32 (cx : Int)) (fun ρ hρ => by
                        have e144 : ρ (.tmp 144) = .pointer (some ⟨gc, 3, none⟩) := by rw [hρ]; exact (hAA.1 5 _ 144 rfl rfl).trans (hf ⟨5, .data⟩ (by simp) rfl).1
                        clear hρ hf hAA hl hK hg
                        go_simp) (hK _ _ rfl ⟨rfl, hg.2⟩)
                    · trivial
                    · intro v w' AA hAA hg hf hl hgd K hK
                      refine call_step 16 #[.pointer (some ⟨g, 0, none⟩), .int .u32 (ca : Int), .int .i64 cn, .int .u32 (cx : Int)] (fun ρ hρ => by
                        have hfun : ∀ f, ρ (.func f) = .func (.func f) #[] #[] := fun f => by rw [hρ]; rfl
                        have e139 : ρ (.tmp 139) = .pointer (some ⟨g, 0, none⟩) := by rw [hρ]; exact (hAA.1 0 _ 139 rfl rfl).trans (hf ⟨0, .data⟩ (by simp) rfl).1
                        have e141 : ρ (.tmp 141) = .int .u32 (ca : Int) := by rw [hρ]; exact (hAA.1 2 _ 141 rfl rfl).trans (hf ⟨2, .data⟩ (by simp) rfl).1
                        have e143 : ρ (.tmp 143) = .int .i64 cn := by rw [hρ]; exact (hAA.1 4 _ 143 rfl rfl).trans (hf ⟨4, .data⟩ (by simp) rfl).1
                        have e145 : ρ (.tmp 145) = .int .u32 (cx : Int) := by rw [hρ]; exact (hAA.1 6 _ 145 rfl rfl).trans (hf ⟨6, .data⟩ (by simp) rfl).1
                        clear hρ hf hAA hl hK hg
                        go_simp) ?_
                      refine (hst1 w' hg.1).mono ?_
                      rintro e w'' ⟨rfl, hR, hy⟩
                      exact ⟨_, rfl, hK _ _ hy ⟨⟨rfl, hR⟩, below_only hg.2.1 hy hgB hg.2.1.size, has_grown hg.2.2 hy (fun l e => by injection e with e; omega)⟩⟩
                    · trivial
                    · intro v w' AA hAA hg hf hl hgd K hK
                      exact pure_step (.bool false) (fun ρ hρ => by
                        have hcst : ∀ x, ρ (.const x) = x := fun x => by rw [hρ]; rfl
                        obtain ⟨⟨hv7, hR7⟩, _⟩ := hf ⟨7, .data⟩ (by simp) rfl
                        have e146 : ρ (.tmp 146) = .int .i64 18 := by rw [hρ]; exact (hAA.1 7 _ 146 rfl rfl).trans hv7
                        clear hρ hf hAA hl hK hg
                        go_simp) (hK _ _ rfl ⟨rfl, hg.2⟩)
                    · trivial
                    · intro v w' AA hAA hg hf hl hgd K hK
                      exact pure_step (.pointer (some ⟨r, 0, none⟩)) (fun ρ hρ => by
                        have e7 : ρ (.tmp 7) = .pointer (some ⟨r, 0, none⟩) := by rw [hρ]; exact hAA.2 7 (by simp)
                        clear hρ hf hAA hl hK hg
                        go_simp) (hK _ _ rfl ⟨rfl, hg.2⟩)
                    · trivial
                    · intro v w' AA hAA hg hf hl hgd K hK
                      exact pure_step (.int .i64 (ca : Int)) (fun ρ hρ => by
                        have e10 : ρ (.tmp 10) = .int .i64 (ca : Int) := by rw [hρ]; exact hAA.2 10 (by simp)
                        clear hρ hf hAA hl hK hg
                        go_simp) (hK _ _ rfl ⟨rfl, hg.2⟩)
                    · trivial
                    · intro v w' AA hAA hg hf hl hgd K hK
                      exact pure_step (.pointer (some ⟨gc, 2, none⟩)) (fun ρ hρ => by
                        have e9 : ρ (.tmp 9) = .pointer (some ⟨gc, 0, none⟩) := by rw [hρ]; exact hAA.2 9 (by simp)
                        clear hρ hf hAA hl hK hg
                        go_simp) (hK _ _ rfl ⟨rfl, hg.2⟩)
                    · trivial
                    · intro v w' AA hAA hg hf hl hgd K hK
                      have hcell := (show w'.cell? ⟨gc, 2, none⟩ = some (.int .i64 cn) from hg.2.2.cellTab 2 (by omega))
                      exact pure_step (.int .i64 cn) (fun ρ hρ => by
                        have e150 : ρ (.tmp 150) = .pointer (some ⟨gc, 2, none⟩) := by rw [hρ]; exact (hAA.1 11 _ 150 rfl rfl).trans (hf ⟨11, .data⟩ (by simp) rfl).1
                        clear hρ hf hAA hl hK hg
                        go_simp) (hK _ _ rfl ⟨rfl, hg.2⟩)
                    · trivial
                    · intro v w' AA hAA hg hf hl hgd K hK
                      exact pure_step (.pointer (some ⟨gc, 3, none⟩)) (fun ρ hρ => by
                        have e9 : ρ (.tmp 9) = .pointer (some ⟨gc, 0, none⟩) := by rw [hρ]; exact hAA.2 9 (by simp)
                        clear hρ hf hAA hl hK hg
                        go_simp) (hK _ _ rfl ⟨rfl, hg.2⟩)
                    · trivial
                    · intro v w' AA hAA hg hf hl hgd K hK
                      have hcell := (show w'.cell? ⟨gc, 3, none⟩ = some (.int .u32 (cx : Int)) from hg.2.2.cellTab 3 (by omega))
                      exact pure_step (.int .u32 (cx : Int)) (fun ρ hρ => by
                        have e152 : ρ (.tmp 152) = .pointer (some ⟨gc, 3, none⟩) := by rw [hρ]; exact (hAA.1 13 _ 152 rfl rfl).trans (hf ⟨13, .data⟩ (by simp) rfl).1
                        clear hρ hf hAA hl hK hg
                        go_simp) (hK _ _ rfl ⟨rfl, hg.2⟩)
                    · trivial
                    · intro v w' AA hAA hg hf hl hgd K hK
                      exact pure_step (.int .i64 (cx : Int)) (fun ρ hρ => by
                        have e153 : ρ (.tmp 153) = .int .u32 (cx : Int) := by rw [hρ]; exact (hAA.1 14 _ 153 rfl rfl).trans (hf ⟨14, .data⟩ (by simp) rfl).1
                        clear hρ hf hAA hl hK hg
                        have hwr : IntKind.i64.wrap (cx : Int) = (cx : Int) := IntWalk.i64_in _ (by omega)
                        go_simp) (hK _ _ rfl ⟨rfl, hg.2⟩)
                    · trivial
                    · intro v w' AA hAA hg hf hl hgd K hK
                      refine call_step 17 #[.pointer (some ⟨r, 0, none⟩), .int .i64 (ca : Int), .int .i64 cn, .int .i64 (cx : Int)] (fun ρ hρ => by
                        have hfun : ∀ f, ρ (.func f) = .func (.func f) #[] #[] := fun f => by rw [hρ]; rfl
                        have e148 : ρ (.tmp 148) = .pointer (some ⟨r, 0, none⟩) := by rw [hρ]; exact (hAA.1 9 _ 148 rfl rfl).trans (hf ⟨9, .data⟩ (by simp) rfl).1
                        have e149 : ρ (.tmp 149) = .int .i64 (ca : Int) := by rw [hρ]; exact (hAA.1 10 _ 149 rfl rfl).trans (hf ⟨10, .data⟩ (by simp) rfl).1
                        have e151 : ρ (.tmp 151) = .int .i64 cn := by rw [hρ]; exact (hAA.1 12 _ 151 rfl rfl).trans (hf ⟨12, .data⟩ (by simp) rfl).1
                        have e154 : ρ (.tmp 154) = .int .i64 (cx : Int) := by rw [hρ]; exact (hAA.1 15 _ 154 rfl rfl).trans (hf ⟨15, .data⟩ (by simp) rfl).1
                        clear hρ hf hAA hl hK hg
                        go_simp) ?_
                      refine (hst2 w' hg.1).mono ?_
                      rintro e w'' ⟨rfl, hR, hy⟩
                      exact ⟨_, rfl, hK _ _ hy ⟨⟨rfl, hR⟩, below_only hg.2.1 hy hmB hg.2.1.size, has_grown hg.2.2 hy (fun l e => by injection e with e; omega)⟩⟩
                    · trivial
                    · intro v w' AA hAA hg hf hl hgd K hK
                      exact pure_step (.bool true) (fun ρ hρ => by
                        have e147 : ρ (.tmp 147) = .bool false := by rw [hρ]; exact (hAA.1 8 _ 147 rfl rfl).trans (hf ⟨8, .data⟩ (by simp) rfl).1
                        obtain ⟨⟨hv16, hR16⟩, _⟩ := hf ⟨16, .data⟩ (by simp) rfl
                        have e155 : ρ (.tmp 155) = .bool false := by rw [hρ]; exact (hAA.1 16 _ 155 rfl rfl).trans hv16
                        clear hρ hf hAA hl hK hg
                        go_simp) (hK _ _ rfl ⟨rfl, hg.2⟩)
                    · trivial
                    · intro v w' AA hAA hg hf hl hgd K hK
                      exact pure_step (.bool true) (fun ρ hρ => by
                        have e156 : ρ (.tmp 156) = .bool true := by rw [hρ]; exact (hAA.1 17 _ 156 rfl rfl).trans (hf ⟨17, .data⟩ (by simp) rfl).1
                        clear hρ hf hAA hl hK hg
                        go_simp) (hK _ _ rfl ⟨rfl, hg.2⟩)
                    · trivial
                  intro v wE hIE hE
                  have f0 : v 0 = .pointer (some ⟨g, 0, none⟩) := (hE 0 (by decide)).1
                  have f1 : v 1 = .pointer (some ⟨gc, 1, none⟩) := (hE 1 (by decide)).1
                  have f2 : v 2 = .int .u32 (ca : Int) := (hE 2 (by decide)).1
                  have f3 : v 3 = .pointer (some ⟨gc, 2, none⟩) := (hE 3 (by decide)).1
                  have f4 : v 4 = .int .i64 cn := (hE 4 (by decide)).1
                  have f5 : v 5 = .pointer (some ⟨gc, 3, none⟩) := (hE 5 (by decide)).1
                  have f6 : v 6 = .int .u32 (cx : Int) := (hE 6 (by decide)).1
                  obtain ⟨⟨hv7, hR7⟩, _⟩ := hE 7 (by decide)
                  have f8 : v 8 = .bool false := (hE 8 (by decide)).1
                  have f9 : v 9 = .pointer (some ⟨r, 0, none⟩) := (hE 9 (by decide)).1
                  have f10 : v 10 = .int .i64 (ca : Int) := (hE 10 (by decide)).1
                  have f11 : v 11 = .pointer (some ⟨gc, 2, none⟩) := (hE 11 (by decide)).1
                  have f12 : v 12 = .int .i64 cn := (hE 12 (by decide)).1
                  have f13 : v 13 = .pointer (some ⟨gc, 3, none⟩) := (hE 13 (by decide)).1
                  have f14 : v 14 = .int .u32 (cx : Int) := (hE 14 (by decide)).1
                  have f15 : v 15 = .int .i64 (cx : Int) := (hE 15 (by decide)).1
                  obtain ⟨⟨hv16, hR16⟩, _⟩ := hE 16 (by decide)
                  have f17 : v 17 = .bool true := (hE 17 (by decide)).1
                  have f18 : v 18 = .bool true := (hE 18 (by decide)).1
                  clear hE
                  simp only [putAll, Act.put, List.setIfInBounds_toArray, List.set_cons_zero, List.set_cons_succ, Nat.zero_add, Nat.reduceAdd]
                  rw [f0, f1, f2, f3, f4, f5, f6, hv7, f8, f9, f10, f11, f12, f13, f14, f15, hv16, f17, f18]
                  clear f0 f1 f2 f3 f4 f5 f6 f8 f9 f10 f11 f12 f13 f14 f15 f17 f18
                  replace hO : RunO w0 g r mb (stM M ca cn cx) (cc + 4) wE := ⟨hR7, hR16, hgB, hO.rB, hmB, hIE.1⟩
                  replace hGc := hIE.2
                  clear hIE hR7 hR16 hst1 hst2
                  go_wp2_with fail
                  go_meet
                  exact ⟨rfl, g, (stM M ca cn cx), _, rfl, hO, by omega, hGc⟩

              by_cases k4 : ck = 4
              · subst k4
                clear k0 k1 k2 k3
                go_upto_region 33 with fail
                go_wp2_with fail
                refine (copy_any M g w1 hO.ram).mono ?_
                rintro e w2 ⟨⟨g', rfl, hG', hgB'⟩, hb2⟩
                have kS := store_any M g 2147483648 cx 4 w2 (hO.ram.after hb2) (by decide) hcx
                simp only [Int.cast_ofNat_Int] at kS
                replace hGc := hGc.after hb2
                have hc3' : w2.cell? ⟨gc, 3, none⟩ = some (.int .u32 (cx : Int)) := hGc.cellTab 3 (by omega)
                go_wp2_with fail
                refine kS.mono ?_
                rintro e w3 ⟨rfl, _, hgr3⟩
                clear kS
                have hg1 := hO.ram.lt
                have hbw1 := hO.bel.size
                have hbw2 := hb2.size
                replace hO : RunO w0 g' r mb M cc w3 := ⟨hG'.grown hgr3 (fun l e => by injection e with e; omega), (hO.ref.after hb2).keep hgr3 (fun l e => by injection e with e; omega), by omega, hO.rB, hO.mB, below_only (hO.bel.trans (hb2.mono hbw1)) hgr3 hgB (by omega)⟩
                replace hGc := has_grown hGc hgr3 (fun l e => by injection e with e; omega)
                clear hG' hgB' hb2 hgr3 hc0 hc1 hc2 hc3 hc4 hc3' hg1 hbw1 hbw2
                go_wp2_with fail
                go_meet
                exact ⟨rfl, g', M, _, rfl, hO, by omega, hGc⟩

              · have d0 : (ck == 0) = false := by simpa using k0
                have d1 : (ck == 1) = false := by simpa using k1
                have d2 : (ck == 2) = false := by simpa using k2
                have d3 : (ck == 3) = false := by simpa using k3
                have d4 : (ck == 4) = false := by simpa using k4
                clear k0 k1 k2 k3 k4
                go_wp2_with fail
                go_meet
                exact ⟨rfl, g, M, _, rfl, hO, by omega, hGc⟩

          case rest =>
            clear hO hGc hc0 hc1 hc2 hc3 hc4 hgl hrl hml hne hgB hmB
            obtain ⟨rfl, g9, M9, c9, rfl, hO, hc9, hGc⟩ := hcut
            have OO := Lib.hid hO
            have c1 : wc.cell? ⟨gc, 1, none⟩ = some (.int .u32 (ca : Int)) := hGc.cellTab 1 (by omega)
            have c3 : wc.cell? ⟨gc, 3, none⟩ = some (.int .u32 (cx : Int)) := hGc.cellTab 3 (by omega)
            have HC9 := Lib.hid hc9
            clear hO hGc hc9
            go_upto_region 35 with fail
            go_quiet (first
              | (go_at_call 19; exact Calls.quiet_of_same ((kH1 g9 _).mono fun _ _ ⟨he, hw⟩ => ⟨he, hw.symm⟩))
              | (go_at_call 20; exact Calls.quiet_of_same ((kH2 _).mono fun _ _ ⟨he, hw⟩ => ⟨he, hw.symm⟩)))
            go_wp2_with fail
            go_roundw
            case rel => exact ⟨j + 1, g9, M9, by omega, by go_num, rfl, ((OO.out.after (below_drewN (Below.refl _ _) nq)).more (by rw [HWC.out]; have := HQ4.out; have := HC9.out; omega))⟩
            case measure => simp [intOf] <;> omega

        · obtain rfl : j = i := by omega
          go_wp2_with fail
          refine (plike_any M g r mb _ wr hO.ram hO.ref).mono ?_
          rintro e w5 ⟨rfl, hb5⟩
          go_wp2_with fail
          go_ret
          exact ⟨rfl, hO.bel.trans (hb5.mono hO.bel.size)⟩
end Go.Proofs.Ytdifapdppdcidaa
