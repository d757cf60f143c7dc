/-
Layer 8, package elf: Segments; what package elf's calls answer.
-/
import Derived.Test.YtfdoloonllhodaaJEmD
import Derived.Test.YtfdoloonllhodaaJElG
import Derived.BigQuiet
namespace Go.Proofs.Ytfdoloonllhodaa
open Go Go.RowKit

theorem infoSE : (Try.prog.info? 64).map (fun i => (i.zero, i.size, i.bytes)) = some (some (.agg (tab 4 (sgE sg0 ⟨none, 0, 0⟩))), 4, 48) := by kernel_rfl
def sgQ (q : Sg × Sl) : Nat → Value := sgE q.1 q.2
theorem sgQ_one (q : Sg × Sl) (j : Nat) : (sgQ q j).oneCell' = true := sgE_one _ _ _
/-- the segments' loop -/
structure SeO (w0 : World) (bs : List UInt8) (v : Value) (qs : List (Sg × Sl)) (w : World) : Prop where
  own : w.ownsRow w0.heap.size 64 4 v qs.length (cellsL 4 sgQ qs)
  bel : Below w0.heap.size w0 w
  by' : ∀ q ∈ qs, (SlY w q.2 q.1.b ∧ TyB w q.2.A q.2.n) ∧ (q.2.A = none → q.2.c = 0) ∧ q.2.c < 9223372036854775808
section
variable {w0 w w' : World} {bs : List UInt8} {v : Value} {qs : List (Sg × Sl)}
theorem SeO.after (h : SeO w0 bs v qs w) (k : Below w.heap.size w w') : SeO w0 bs v qs w' := ⟨own_after h.own k, h.bel.trans (k.mono h.bel.size), fun q hq => ⟨⟨SlA.below (h.by' q hq).1.1 k, (h.by' q hq).1.2.below k⟩, (h.by' q hq).2⟩⟩
theorem SeO.push {q : Sg × Sl} {v' : Value} (h : SeO w0 bs v qs w) (hy : (SlY w q.2 q.1.b ∧ TyB w q.2.A q.2.n) ∧ (q.2.A = none → q.2.c = 0) ∧ q.2.c < 9223372036854775808) (ho : w'.ownsRow w0.heap.size 64 4 v' (qs.length + 1) (cellsL 4 sgQ (qs ++ [q]))) (k : w.grownBy w' v.ownBlock) : SeO w0 bs v' (qs ++ [q]) w' := by
  have hk : ∀ x : Sg × Sl, SlY w x.2 x.1.b ∧ TyB w x.2.A x.2.n → SlY w' x.2 x.1.b ∧ TyB w' x.2.A x.2.n := fun x hx =>
    ⟨SlA.grown hx.1 k (fun b o e h0 => hx.2.row h.own (by decide) b o none e h0), hx.2.other k (fun b o s e h0 => hx.2.row h.own (by decide) b o s e h0)⟩
  refine ⟨by rw [List.length_append]; exact ho, below_own h.bel h.own (Nat.le_refl _) h.bel.size k, fun x hx => ?_⟩
  rcases List.mem_append.1 hx with hx | hx
  · exact ⟨hk x (h.by' x hx).1, (h.by' x hx).2⟩
  · rw [List.mem_singleton.1 hx]; exact ⟨hk q hy.1, hy.2⟩
theorem SeO.slS {A : Option Addr} {n c : Nat} (h : SeO w0 bs (.slice A n c) qs w) (hn : qs.length ≤ 10) : SlS w ⟨A, n, c⟩ (qs.map (·.1)) := by
  have e := own_n h.own
  have h2 := h.own
  rw [← e] at h2
  obtain ⟨h3, h4⟩ := own_slC h2 (by decide) (by omega) sq0
  have hg : ∀ j, j < n → (qs.map (·.1)).getD j sg0 = (qs.getD j sq0).1 := fun j hj => by
    simp [List.getD_eq_getElem?_getD, show j < qs.length by omega]
  refine ⟨by rw [List.length_map]; exact h3, fun j => (qs.getD j sq0).2, h4.ext (fun j i hj _ => by rw [hg j hj]; rfl), fun j hj => ?_⟩
  replace hj : j < n := hj
  rw [hg j hj]
  have hm : qs.getD j sq0 ∈ qs := by rw [List.getD_eq_getElem?_getD, List.getElem?_eq_getElem (by omega)]; exact List.getElem_mem _
  exact ⟨(h.by' _ hm).1.1, (h.by' _ hm).2⟩
end
theorem slS_nil (w : World) : SlS w ⟨none, 0, 0⟩ [] := ⟨rfl, fun _ => ⟨none, 0, 0⟩, ⟨⟨Nat.le_refl _, Nat.zero_le _⟩, fun h => absurd h (Nat.lt_irrefl _)⟩, fun _j h => absurd h (Nat.not_lt_zero _)⟩
def SegsR (w : World) (bs : List UInt8) (e : Ending) (w' : World) : Prop :=
  (∃ s t, e = .returned (.tuple #[.int .u32 (((segsN bs).1 : Nat) : Int), Sl.v s, Sl.v t, .int .i64 (((segsN bs).2.2.2 : Nat) : Int)]) ∧ SlS w' s (segsN bs).2.1 ∧ SlH w' t (segsN bs).2.2.1) ∧ Below w.heap.size w w'
theorem segsR_bad {w w' : World} {bs : List UInt8} {e : Nat} {x : Int} (h : segsN bs = (0, [], [], e)) (hx : x = (e : Int)) (hb : Below w.heap.size w w') : SegsR w bs (.returned (.tuple #[.int .u32 0, .slice none 0 0, .slice none 0 0, .int .i64 x])) w' := by
  unfold SegsR
  rw [h, hx]
  exact ⟨⟨⟨none, 0, 0⟩, ⟨none, 0, 0⟩, rfl, slS_nil _, slH_nil _⟩, hb⟩
theorem kdN_load (hs : List Hd) : kdN 1 hs = loadsN hs := rfl
theorem kdN_dyn (hs : List Hd) : kdN 2 hs = dynsN hs := rfl
set_option maxRecDepth 100000 in
set_option maxHeartbeats 4000000 in
theorem esegs_any (bs : List UInt8) (A : Option Addr) (n c : Nat) (w : World) (hS : SlA w A n c bs) (hl : bs.length ≤ 100000) :
    Calls Try.prog 15 #[.slice A n c] w fun e w' => SegsR w bs e w' := by
  have kH := eheads_any bs A n c w hS hl
  have hwfH := fun h hh => heads_wf (bs := bs) (h := h) hh
  have hinH := fun h hh => heads_in (bs := bs) (h := h) hh
  have hlenH := heads_len bs
  have hpos : (headsN bs).2.2 = 0 → 0 < bs.length := fun h => by
    unfold headsN at h
    split at h
    · rename_i hb
      rw [Bool.and_eq_true] at hb
      have := of_decide_eq_true hb.1
      omega
    · cases h
  have hsegE := fun h => segsN_eq (bs := bs) h
  have hsegN : (headsN bs).2.2 ≠ 0 → segsN bs = (0, [], [], (headsN bs).2.2) := fun h => by unfold segsN; rw [if_neg h]
  unfold HeadsR at kH
  obtain ⟨en, hen⟩ : ∃ x, x = (headsN bs).1 := ⟨_, rfl⟩
  obtain ⟨hs, hhs⟩ : ∃ x, x = (headsN bs).2.1 := ⟨_, rfl⟩
  obtain ⟨er, her⟩ : ∃ x, x = (headsN bs).2.2 := ⟨_, rfl⟩
  rw [← hen, ← hhs, ← her] at kH hlenH
  rw [← hhs] at hwfH hinH
  rw [← her] at hsegN hsegE hpos
  rw [← hen, ← hhs] at hsegE
  have HWF := Lib.hid hwfH
  have HIN := Lib.hid hinH
  have HSN := Lib.hid hsegN
  have HSE := Lib.hid hsegE
  have HPOS := Lib.hid hpos
  have HS := Lib.hid hS
  obtain ⟨hm5, hen32, her8⟩ := hlenH
  have HM5 := Lib.hid hm5
  clear hen hhs her hwfH hinH hsegN hsegE hm5 hS hpos
  go_enter Try.func15, Try.ntmps15
  go_wp2_with fail
  refine kH.mono ?_
  rintro e u ⟨⟨s, rfl, hJ⟩, hbu⟩
  obtain ⟨Ah, m, ch, rfl⟩ := s.out
  have hs1 : Sl.v ⟨Ah, m, ch⟩ = .slice Ah m ch := rfl
  have k1 := eof_any 1 (by decide) hs ⟨Ah, m, ch⟩ u hJ HM5.out
  have k2 := fun w' (hb : Below u.heap.size u w') => eof_any 2 (by decide) hs ⟨Ah, m, ch⟩ w' (hJ.below hb) HM5.out
  rw [hs1] at k1 ⊢
  rw [hs1] at k2
  clear kH hs1 hJ
  by_cases her0 : er = 0
  · have hz : ((er : Int) != 0) = false := by simp [her0]
    have HE := Lib.hid (HSE.out her0)
    have HP0 := Lib.hid (HPOS.out her0)
    clear her0 HSN HSE
    rw [show ((1 : Nat) : Int) = 1 from rfl] at k1
    go_wp2_with fail
    refine k1.mono ?_
    rintro e u1 ⟨⟨sl, rfl, hL⟩, hb1⟩
    rw [kdN_load] at hL
    have k2' := k2 u1 hb1
    rw [show ((2 : Nat) : Int) = 2 from rfl] at k2'
    clear k1 k2
    obtain ⟨Al, ml, cl, rfl⟩ := sl.out
    rw [show Sl.v ⟨Al, ml, cl⟩ = .slice Al ml cl from rfl]
    go_wp2_with fail
    refine k2'.mono ?_
    rintro e u2 ⟨⟨sd, rfl, hD⟩, hb2⟩
    rw [kdN_dyn] at hD
    clear k2'
    obtain ⟨Ad, md, cd, rfl⟩ := sd.out
    rw [show Sl.v ⟨Ad, md, cd⟩ = .slice Ad md cd from rfl]
    replace hL := hL.below hb2
    have hll : (loadsN hs).length ≤ 5 := Nat.le_trans (List.length_filter_le _ _) HM5.out
    have hdl : (dynsN hs).length ≤ 5 := Nat.le_trans (List.length_filter_le _ _) HM5.out
    have hmem : ∀ h ∈ loadsN hs, h ∈ hs := fun h hh => (List.mem_filter.1 hh).1
    have hwfL : ∀ h ∈ loadsN hs, h.Wf := fun h hh => HWF.out h (hmem h hh)
    have hinL : ∀ h ∈ loadsN hs, h.a + h.f ≤ bs.length := fun h hh => (HIN.out h (hmem h hh)).2.1
    have hbu2 := below_trans (below_trans hbu (hb1.mono (Nat.le_refl _))) (hb2.mono (Nat.le_refl _))
    have kA := eare_any (loadsN hs) ⟨Al, ml, cl⟩ u2 hL hll hwfL
    have kE := fun w' (hb : Below u2.heap.size u2 w') => eentry_any en hen32 (loadsN hs) ⟨Al, ml, cl⟩ w' (hL.below hb) hll hwfL
    have hcan : canB en hs = ((decide ((loadsN hs).length ≤ 4) && ldGo (loadsN hs) 0) && (loadsN hs).any (entB en) && decide ((dynsN hs).length ≤ 1)) := rfl
    have hdm : (dynsN hs).length = md := hD.1
    rw [hdm] at hcan
    rw [show Sl.v ⟨Al, ml, cl⟩ = .slice Al ml cl from rfl] at kA kE
    obtain ⟨ba, hba⟩ : ∃ x, x = (decide ((loadsN hs).length ≤ 4) && ldGo (loadsN hs) 0) := ⟨_, rfl⟩
    obtain ⟨be, hbe⟩ : ∃ x, x = (loadsN hs).any (entB en) := ⟨_, rfl⟩
    rw [← hba] at kA hcan
    simp only [← hbe] at kE
    rw [← hbe] at hcan
    have HCAN := Lib.hid hcan
    have HWL := Lib.hid hwfL
    have HINL := Lib.hid hinL
    have HL := Lib.hid hL
    have HD := Lib.hid hD
    have HLL := Lib.hid hll
    have hmd5 : md ≤ 5 := by omega
    clear hba hbe hcan hwfL hinL hmem hL hD hll hdl hb1 hb2 hbu hdm
    go_wp2_with fail
    refine kA.mono ?_
    rintro e u3 ⟨rfl, hb3⟩
    have hbu3 := hbu2.trans (hb3.mono hbu2.size)
    have kE3 := kE u3 hb3
    clear kA kE
    cases ba with
    | false =>
      have HSB : Hid (segsN bs = (0, [], [], 9)) := Lib.hid (by rw [HE.out, if_neg (by rw [HCAN.out]; simp)])
      go_wp2_with fail
      all_goals
          refine bodyPost_ret (results_tmp4 rfl _ _ _) rfl ?_
          exact segsR_bad (x := _) HSB.out rfl hbu3
    | true =>
      go_wp2_with fail
      refine kE3.mono ?_
      rintro e u4 ⟨rfl, hb4⟩
      have hb24 := hb3.trans (hb4.mono hb3.size)
      have hbu4 := hbu2.trans (hb24.mono hbu2.size)
      clear kE3
      cases be with
      | false =>
        have HSB : Hid (segsN bs = (0, [], [], 9)) := Lib.hid (by rw [HE.out, if_neg (by rw [HCAN.out]; simp)])
        go_wp2_with fail
        all_goals
          refine bodyPost_ret (results_tmp4 rfl _ _ _) rfl ?_
          exact segsR_bad (x := _) HSB.out rfl hbu4
      | true =>
        by_cases hd1 : 1 < md
        · have dd : 1 < (md : Int) := by omega
          have HSB : Hid (segsN bs = (0, [], [], 9)) := Lib.hid (by rw [HE.out, if_neg (by rw [HCAN.out, decide_eq_false (by omega)]; simp)])
          clear hd1
          go_wp2_with fail
          all_goals
          refine bodyPost_ret (results_tmp4 rfl _ _ _) rfl ?_
          exact segsR_bad (x := _) HSB.out rfl hbu4
        · have dd : (md : Int) ≤ 1 := by omega
          have HSG : Hid (segsN bs = (en, (loadsN hs).map (sgOf bs), dynsN hs, 0)) := Lib.hid (by rw [HE.out, if_pos (by rw [HCAN.out, decide_eq_true (show md ≤ 1 by omega)]; rfl)])
          have HLml : Hid ((loadsN hs).length = ml) := Lib.hid HL.out.1
          have hml5 : ml ≤ 5 := by have := HLL.out; have := HLml.out; omega
          clear hd1 HE HCAN
          have HBU2 := Lib.hid hbu2
          go_wp2_with fail
          go_loopw [11, 43] (fun va ct wr => ∃ (i : Nat) (qs : List (Sg × Sl)), i ≤ ml ∧ ct = .int .i64 (i : Int) ∧ qs.map (·.1) = ((loadsN hs).take i).map (sgOf bs) ∧ SeO u2 bs va qs wr) (fun _ ct _ => (ml - (intOf ct)).toNat)
          case atStart => exact ⟨0, [], Nat.zero_le _, rfl, rfl, ⟨World.ownsRow_nil _ _ _ _, hb24, fun _ h => by cases h⟩⟩
          case round =>
            obtain ⟨i, qs, hi, rfl, hqs, hO⟩ := hrel
            have hbr := hO.bel
            by_cases hlt : i < ml
            · have di : (i : Int) < (ml : Int) := by omega
              have hJ := HL.out.below hbr
              obtain ⟨b, o, hA2, hbl, _⟩ := HL.out.2.2 (by show 0 < ml; omega)
              replace hA2 : Al = some ⟨b, o, none⟩ := hA2
              subst hA2
              have hr := hJ.2.range rfl (j := i) hlt
              have ha1 := fun w => atE' b o ml cl i di w
              have hil : i < (loadsN hs).length := by rw [HLml.out]; exact hlt
              have htk := take_more (loadsN hs) hd0 i hil
              have hmem : (loadsN hs).getD i hd0 ∈ loadsN hs := by rw [List.getD_eq_getElem?_getD, List.getElem?_eq_getElem hil]; exact List.getElem_mem _
              have hwf := HWL.out _ hmem
              have hin := HINL.out _ hmem
              change wr.rangeAt b (o + i * 6) ((List.range 6).map (hdE ((loadsN hs).getD i hd0))) at hr
              generalize (loadsN hs).getD i hd0 = hd at *
              have kS := fun w' (hb : Below u2.heap.size u2 w') => esego_any bs A n c hd w' (SlA.below (SlA.below HS.out HBU2.out) hb) hl HP0.out hwf hin
              have hql : qs.length = i := by
                have h1 := congrArg List.length hqs
                rw [List.length_map, List.length_map, List.length_take] at h1
                omega
              have HTK := Lib.hid htk
              have HQS := Lib.hid hqs
              have HQL := Lib.hid hql
              have HO := Lib.hid hO
              obtain ⟨Av, cv, hva⟩ := own_form hO.own
              rw [hql] at hva
              subst hva
              clear htk hmem hwf hin hqs hql hO hbr hJ hbl hil hbu4 hb24 hb4 hb3 hbu3 hbu2
              go_wp2_with (first
                | (refine (kS w1 hO1.bel).mono ?_
                   rintro e w5 ⟨⟨x, rfl, hy, hty, hnl⟩, hb5⟩
                   have HNL := Lib.hid hnl
                   clear hnl
                   have hO5 := hO1.after hb5)
                | (refine wp_load_he rfl _ rfl b (o + i * 6) rfl _ hr ?_)
                | (refine wp_fresh 74 6 _ _ _ _ rfl rfl rfl rfl zeroHE infoHE6 (by omega) (hdE_one _) rfl rfl ?_
                   intro w1 hG hb1 hz1
                   have hO1 := HO.out.after hb1)
                | (refine wpList_load_has 74 _ rfl _ rfl rfl 74 _ hG _ Try.underlying74 rfl (by rw [tab_size]; exact infoHE6) ?_)
                | (refine wp_build_el (f := sgQ) Try.underlying35 infoSE (by decide) (by decide) rfl _ rfl (sgOf bs hd, x) rfl ?_
                   intro w6 hw6
                   have hb6 : Below w5.heap.size w5 w6 := by subst hw6; exact (Below.refl _ _).alloc (Nat.le_refl _) _
                   have hH6 : Has w6 w5.heap.size 64 (tab 4 (sgQ (sgOf bs hd, x))) := by subst hw6; exact Has.new _ _ _
                   have hO6 := hO5.after hb6
                   have hown6 := hO6.own
                   have hy6 : (SlY w6 x (sgOf bs hd).b ∧ TyB w6 x.A x.n) ∧ (x.A = none → x.c = 0) ∧ x.c < 9223372036854775808 := ⟨⟨SlA.below hy hb6, hty.below hb6⟩, HNL.out⟩
                   rw [HQL.out] at hown6
                   clear hw6)
                | (refine wp_append_el (f := sgQ) Try.underlying35 infoSE rfl (by decide) (by decide) sgQ_one rfl _ _ rfl u2.heap.size _ i qs rfl hown6 w5.heap.size rfl (sgOf bs hd, x) hH6 (by omega) hO6.bel.size ?_
                   intro v7 w7 hown7 hgr7))
              go_roundw
              case rel =>
                refine ⟨i + 1, qs ++ [(sgOf bs hd, x)], hlt, by go_num, ?_, hO6.push hy6 (by rw [HQL.out]; exact hown7) hgr7⟩
                rw [List.map_append, HQS.out, HTK.out, List.map_append]; rfl
              case measure => simp [intOf] <;> omega
            · obtain rfl : i = ml := by omega
              rw [List.take_of_length_le (by rw [HLml.out]; exact Nat.le_refl _)] at hqs
              have hql : qs.length = i := by
                have h1 := congrArg List.length hqs
                rw [List.length_map, List.length_map, HLml.out] at h1
                exact h1
              have HQS := Lib.hid hqs
              have HQL := Lib.hid hql
              obtain ⟨Av, cv, hva⟩ := own_form hO.own
              rw [hql] at hva
              subst hva
              have HO := Lib.hid hO
              have hDr := HD.out.below hbr
              have HDR := Lib.hid hDr
              clear hqs hql hO hbr hDr hbu4 hb24 hb4 hb3 hbu3 hbu2
              go_wp2_with fail
              refine bodyPost_ret (results_tmp4 rfl _ _ _) rfl ?_
              have hss := HO.out.slS (by have := HQL.out; omega)
              rw [HQS.out] at hss
              unfold SegsR
              rw [HSG.out]
              exact ⟨⟨⟨Av, i, cv⟩, ⟨Ad, md, cd⟩, rfl, hss, HDR.out⟩, HBU2.out.trans (HO.out.bel.mono HBU2.out.size)⟩
  · have hz : ((er : Int) != 0) = true := by simp; omega
    have HSB := Lib.hid (HSN.out her0)
    clear her0 HSE HSN k1 k2
    go_wp2_with fail
    all_goals
          refine bodyPost_ret (results_tmp4 rfl _ _ _) rfl ?_
          exact segsR_bad (x := _) HSB.out rfl hbu
/-- what package elf's calls answer -/
theorem elf_ok : ElfOK where
  heads_ok bs A n c w hS _ _ hl := eheads_any bs A n c w hS hl
  segs_ok bs A n c w hS _ _ hl := esegs_any bs A n c w hS hl
end Go.Proofs.Ytfdoloonllhodaa
