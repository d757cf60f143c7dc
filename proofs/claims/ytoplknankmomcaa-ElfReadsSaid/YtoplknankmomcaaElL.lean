/-
Layer 8: the law over package elf's contracts: ElfSafe.
-/
import Derived.Test.YtoplknankmomcaaElK
namespace Go.Proofs.Ytoplknankmomcaa
open Go Go.RowKit

theorem and6 (r : Nat) (h : r < 6) : ∃ x : Nat, bits .and .i64 (r : Int) 6 = (x : Int) ∧ x ≠ 6 := by
  rcases (show r = 0 ∨ r = 1 ∨ r = 2 ∨ r = 3 ∨ r = 4 ∨ r = 5 by omega) with rfl | rfl | rfl | rfl | rfl | rfl
  · exact ⟨0, by decide +kernel, by decide⟩
  · exact ⟨0, by decide +kernel, by decide⟩
  · exact ⟨2, by decide +kernel, by decide⟩
  · exact ⟨2, by decide +kernel, by decide⟩
  · exact ⟨4, by decide +kernel, by decide⟩
  · exact ⟨4, by decide +kernel, by decide⟩
theorem and4 (r : Nat) (h : r < 6) : bits .and .i64 (r : Int) 4 = ((if 4 ≤ r then 4 else 0 : Nat) : Int) := by
  rcases (show r = 0 ∨ r = 1 ∨ r = 2 ∨ r = 3 ∨ r = 4 ∨ r = 5 by omega) with rfl | rfl | rfl | rfl | rfl | rfl <;> decide +kernel
def fndN (ss : List Sg) (en j : Nat) : Bool := (List.range j).any fun i => entS en (ss.getD i sg0)
theorem fndN_succ (ss : List Sg) (en j : Nat) : fndN ss en (j + 1) = (fndN ss en j || entS en (ss.getD j sg0)) := by
  unfold fndN
  rw [List.range_succ, List.any_append]
  simp
theorem x16_ways (r en d z : Nat) :
    (((r : Int) < 4) ∧ (¬ (4 ≤ r ∧ d ≤ en ∧ en + 4 ≤ d + z))) ∨
    ((4 ≤ (r : Int)) ∧ ((en : Int) < (d : Int)) ∧ (¬ (4 ≤ r ∧ d ≤ en ∧ en + 4 ≤ d + z))) ∨
    ((4 ≤ (r : Int)) ∧ ((d : Int) ≤ (en : Int)) ∧ ((d : Int) + (z : Int) < (en : Int) + 4) ∧ (¬ (4 ≤ r ∧ d ≤ en ∧ en + 4 ≤ d + z))) ∨
    ((4 ≤ (r : Int)) ∧ ((d : Int) ≤ (en : Int)) ∧ ((en : Int) + 4 ≤ (d : Int) + (z : Int)) ∧ (4 ≤ r ∧ d ≤ en ∧ en + 4 ≤ d + z)) := by
  by_cases h0 : r < 4
  · exact (.inl ⟨by omega, (by omega)⟩)
  by_cases h1 : en < d
  · exact (.inr (.inl ⟨by omega, by omega, (by omega)⟩))
  by_cases h2 : d + z < en + 4
  · exact (.inr (.inr (.inl ⟨by omega, by omega, by omega, (by omega)⟩)))
  exact (.inr (.inr (.inr ⟨by omega, by omega, by omega, (by omega)⟩)))
set_option maxRecDepth 100000 in
set_option maxHeartbeats 4000000 in
theorem safe8_ok (H : ElfOK) (en : Nat) (s : Sl) (ps : List Pt) (T : Nat → Sl) (w : World) (hQ : SlQ w s ps T) (hen : en < 4294967296) :
    Calls Try.prog 5 #[.int .u32 (en : Int), s.v] w fun e w' => e = .returned (.bool true) ∧ Below w.heap.size w w' := by
  obtain ⟨A1, m1, c1, rfl⟩ := s.out
  rw [show Sl.v ⟨A1, m1, c1⟩ = .slice A1 m1 c1 from rfl]
  have HQ := Lib.hid hQ
  clear hQ
  go_enter Try.func5, Try.ntmps5
  go_wp2_with fail
  refine (fit8_any H w).mono ?_
  rintro e u1 ⟨rfl, hb⟩
  have k1 := file_any en ⟨A1, m1, c1⟩ ps T u1 (HQ.out.below hb) hen
  rw [show Sl.v ⟨A1, m1, c1⟩ = .slice A1 m1 c1 from rfl] at k1
  go_wp2_with fail
  refine k1.mono ?_
  rintro e u2 ⟨⟨A2, n2, c2, rfl, hR⟩, hb2⟩
  replace hb := below_trans hb hb2
  clear k1 hb2
  unfold FileR at hR
  by_cases hf : fitsB ps = true
  · rw [if_pos hf] at hR
    obtain ⟨hR, hc2⟩ := hR
    have hln := partsN_len (en := en) hf
    have hfe := fileN_en en (ps.map toHd) (ps.map (·.b)) hen
    rw [show fileN en (ps.map toHd) (ps.map (·.b)) = partsN en ps from rfl] at hfe
    obtain ⟨bs, hbs⟩ : ∃ x, x = partsN en ps := ⟨_, rfl⟩
    rw [← hbs] at hR hln hfe
    obtain ⟨b, o, rfl⟩ := slA_some hR.slA.1 (by omega)
    have k := H.segs_ok bs (some ⟨b, o, none⟩) n2 c2 u2 hR.slA.1 hR.slA.2 hc2 (by omega)
    have hsf := segs_wf bs
    have hsz := segs_zero (bs := bs)
    have hss := segs_safe (bs := bs)
    rw [hfe] at hss
    obtain ⟨en2, hen2⟩ : ∃ x, x = (segsN bs).1 := ⟨_, rfl⟩
    obtain ⟨ss, hsl⟩ : ∃ x, x = (segsN bs).2.1 := ⟨_, rfl⟩
    obtain ⟨ds, hds⟩ : ∃ x, x = (segsN bs).2.2.1 := ⟨_, rfl⟩
    obtain ⟨er, her⟩ : ∃ x, x = (segsN bs).2.2.2 := ⟨_, rfl⟩
    rw [← hen2, ← hsl, ← hds, ← her] at k hsf
    rw [← hen2, ← hsl, ← her] at hsz hss
    have her9 := hsf.2.1
    have HSZ := Lib.hid hsz
    have HSS := Lib.hid hss
    have heq := fun w => Lib.run_eql_slice_nil (P := Try.prog) w 25 5 (some ⟨b, o, none⟩) n2 c2 0 0 Try.underlying25
    simp only [Option.isNone_some] at heq
    clear hR hln hfe hbs hsf hsz hss hen2 hsl hds her
    go_wp2_with fail
    refine k.mono ?_
    rintro e u3 ⟨⟨s3, t3, rfl, hS3, _⟩, hb3⟩
    replace hb := below_trans hb hb3
    obtain ⟨A3, m, c3, rfl⟩ := s3.out
    obtain ⟨A4, md, c4, rfl⟩ := t3.out
    rw [show Sl.v ⟨A3, m, c3⟩ = .slice A3 m c3 from rfl, show Sl.v ⟨A4, md, c4⟩ = .slice A4 md c4 from rfl]
    have hml : ss.length = m := hS3.1
    have HML := Lib.hid hml
    have HS3 := Lib.hid hS3
    clear k hb3 heq hml hS3
    by_cases her0 : er = 0
    · have hz : ((er : Int) != 0) = false := by simp [her0]
      obtain ⟨⟨e9, hsk⟩, hee, he4, hex⟩ := HSS.out her0
      have hm4 : m ≤ 4 := by rw [← HML.out]; exact hsk.n
      have hm1' : 0 < m := by obtain ⟨j, hj, _⟩ := hex; rw [HML.out] at hj; omega
      have HSK := Lib.hid hsk
      have HEX := Lib.hid hex
      subst hee
      clear her0 hsk hex HSZ HSS
      have HB := Lib.hid hb
      clear hb
      go_wp2_with fail
      go_loopw [10, 11, 39] (fun ve vf ct wr => ∃ j : Nat, j ≤ m ∧ ct = .int .i64 (j : Int) ∧ ve = .int .u64 ((endN ss j : Nat) : Int) ∧ vf = .bool (fndN ss en2 j) ∧ Below u3.heap.size u3 wr) (fun _ _ ct _ => (m - (intOf ct)).toNat)
      case atStart => exact ⟨0, Nat.zero_le _, rfl, rfl, rfl, Below.refl _ _⟩
      case round =>
        obtain ⟨j, hj, rfl, rfl, rfl, hb⟩ := hrel
        by_cases hlt : j < m
        · have dj : (j : Int) < (m : Int) := by omega
          obtain ⟨hl1, T3, hC1, hY1⟩ := HS3.out.below hb
          obtain ⟨b1, o1, hA1, _, _⟩ := hC1.2 (by show 0 < m; omega)
          replace hA1 : A3 = some ⟨b1, o1, none⟩ := hA1
          subst hA1
          have hr := hC1.range rfl (j := j) hlt
          have ha1 := fun w => at_se' b1 o1 m c3 j dj w
          obtain ⟨hgok, hge, hge2⟩ := HSK.out.ok j (by rw [HML.out]; exact hlt)
          have hfs := fndN_succ ss en2 j
          have hes : endN ss (j + 1) = (ss.getD j sg0).d + (ss.getD j sg0).z := rfl
          have y1 := hY1 j hlt
          change wr.rangeAt b1 (o1 + j * 4) ((List.range 4).map (sgE (ss.getD j sg0) (T3 j))) at hr
          generalize ss.getD j sg0 = g at *
          obtain ⟨Ab, nb, cb, hT⟩ := (T3 j).out
          rw [hT] at hr y1
          have hnb : g.b.length = nb := y1.1
          obtain ⟨g1, g2, g3, g4, g5, g6, g7, g8⟩ := hgok
          rw [hnb] at g4
          obtain ⟨x6, hx6, hx6n⟩ := and6 g.r g6
          have hx4 := and4 g.r g6
          obtain ⟨x4, hx4e⟩ : ∃ x, x = (if 4 ≤ g.r then 4 else 0 : Nat) := ⟨_, rfl⟩
          rw [← hx4e] at hx4
          have hx4p : 0 < x4 ↔ 4 ≤ g.r := by rw [hx4e]; split <;> omega
          obtain ⟨e0, he0⟩ : ∃ x, x = endN ss j := ⟨_, rfl⟩
          rw [← he0] at hge ⊢
          obtain ⟨fb, hfb⟩ : ∃ x, x = fndN ss en2 j := ⟨_, rfl⟩
          rw [← hfb] at hfs ⊢
          have HFS := Lib.hid hfs
          have HES := Lib.hid hes
          have q1 : (e0 : Int) ≤ (g.d : Int) := by omega
          have q2 : (g.d : Int) % 4 = 0 := by omega
          have q3 : (g.z : Int) % 4 = 0 := by omega
          have q2t : (g.d : Int).tmod 4 = 0 := by rw [Int.tmod_eq_emod_of_nonneg (by omega)]; omega
          have q3t : (g.z : Int).tmod 4 = 0 := by rw [Int.tmod_eq_emod_of_nonneg (by omega)]; omega
          have q4 : ((g.z : Int) == 0) = false := by simp; omega
          have q5 : (nb : Int) ≤ (g.z : Int) := by omega
          have q6 : ((x6 : Int) == 6) = false := by simp; omega
          have q7 : ((g.r : Int) == 0) = false := by simp; omega
          have w1' : IntKind.i64.wrap (g.z : Int) = (g.z : Int) := i64_in' _ (by omega)
          have HX4 := Lib.hid hx4p
          have HX4E := Lib.hid hx4e
          have HB1 := Lib.hid hb
          rw [hes] at hge2
          clear hC1 hY1 hl1 hT y1 hnb hfs hes he0 hfb g1 g2 g3 g4 g5 hx6n hx4p hx4e hb hge
          go_upto_region 16 with (first
            | (refine wp_load_se rfl _ rfl b1 (o1 + j * 4) rfl _ hr ?_)
            | (refine wp_fresh 36 4 _ _ _ _ rfl rfl rfl rfl zeroSE infoSE4 (by omega) (sgE_one _ _) rfl rfl ?_
               intro w1 hG hb1 hz1
               have d0 : w1.cell? ⟨_, 0, none⟩ = some (.int .u32 (g.d : Int)) := hG.cellTab 0 (by omega)
               have d1 : w1.cell? ⟨_, 1, none⟩ = some (.slice Ab nb cb) := hG.cellTab 1 (by omega)
               have d2 : w1.cell? ⟨_, 2, none⟩ = some (.int .u32 (g.z : Int)) := hG.cellTab 2 (by omega)
               have d3 : w1.cell? ⟨_, 3, none⟩ = some (.int .i64 (g.r : Int)) := hG.cellTab 3 (by omega)
               have HB2 := Lib.hid (below_trans HB1.out hb1)
               clear hG hb1 hz1))
          clear q1 q2 q3 q2t q3t q4 q5 q6 q7 d1
          have qe : 4 ≤ g.r → x4 = 4 := fun h => by rw [HX4E.out, if_pos h]
          have qf : g.r < 4 → x4 = 0 := fun h => by rw [HX4E.out, if_neg (by omega)]
          have QE := Lib.hid qe
          have QF := Lib.hid qf
          clear qe qf
          cases fb with
          | true =>
            go_wp2_with fail
            go_roundw
            case rel => exact ⟨j + 1, hlt, by go_num, congrArg (Value.int .u64) (by rw [HES.out]; go_num), by rw [HFS.out]; rfl, HB2.out⟩
            case measure => simp [intOf] <;> omega
          | false =>
            rcases x16_ways g.r en2 g.d g.z with ⟨f0, fg⟩ | ⟨f0, f1, fg⟩ | ⟨f0, f1, f2, fg⟩ | ⟨f0, f1, f2, fg⟩
            · have HE : Hid (entS en2 g = false) := Lib.hid (decide_eq_false fg)
              obtain rfl : x4 = 0 := QF.out (by omega)
              clear fg
              go_wp2_with fail
              go_roundw
              case rel => exact ⟨j + 1, hlt, by go_num, congrArg (Value.int .u64) (by rw [HES.out]; go_num), (by first | (rw [HFS.out, HE.out]; rfl) | exact congrArg Value.bool (by rw [HFS.out, HE.out]; simp; omega)), HB2.out⟩
              case measure => simp [intOf] <;> omega
            · have HE : Hid (entS en2 g = false) := Lib.hid (decide_eq_false fg)
              obtain rfl : x4 = 4 := QE.out (by omega)
              clear fg
              go_wp2_with fail
              go_roundw
              case rel => exact ⟨j + 1, hlt, by go_num, congrArg (Value.int .u64) (by rw [HES.out]; go_num), (by first | (rw [HFS.out, HE.out]; rfl) | exact congrArg Value.bool (by rw [HFS.out, HE.out]; simp; omega)), HB2.out⟩
              case measure => simp [intOf] <;> omega
            · have HE : Hid (entS en2 g = false) := Lib.hid (decide_eq_false fg)
              obtain rfl : x4 = 4 := QE.out (by omega)
              clear fg
              go_wp2_with fail
              go_roundw
              case rel => exact ⟨j + 1, hlt, by go_num, congrArg (Value.int .u64) (by rw [HES.out]; go_num), (by first | (rw [HFS.out, HE.out]; rfl) | exact congrArg Value.bool (by rw [HFS.out, HE.out]; simp; omega)), HB2.out⟩
              case measure => simp [intOf] <;> omega
            · have HE : Hid (entS en2 g = true) := Lib.hid (decide_eq_true fg)
              obtain rfl : x4 = 4 := QE.out (by omega)
              clear fg
              go_wp2_with fail
              go_roundw
              case rel => exact ⟨j + 1, hlt, by go_num, congrArg (Value.int .u64) (by rw [HES.out]; go_num), (by first | (rw [HFS.out, HE.out]; rfl) | exact congrArg Value.bool (by rw [HFS.out, HE.out]; simp; omega)), HB2.out⟩
              case measure => simp [intOf] <;> omega
        · obtain rfl : j = m := by omega
          have hfn : fndN ss en2 j = true := by
            unfold fndN
            rw [List.any_eq_true]
            obtain ⟨i, hi, h2⟩ := HEX.out
            exact ⟨i, List.mem_range.2 (by rw [← HML.out]; exact hi), h2⟩
          have hle : endN ss j ≤ 4294967292 := by
            obtain ⟨i, rfl⟩ : ∃ i, j = i + 1 := ⟨j - 1, by omega⟩
            exact (HSK.out.ok i (by rw [HML.out]; omega)).2.2
          rw [hfn]
          obtain ⟨e9', he9⟩ : ∃ x, x = endN ss j := ⟨_, rfl⟩
          rw [← he9] at hle ⊢
          have q1 : (en2 : Int) % 4 = 0 := by omega
          have q2 : (en2 : Int).tmod 4 = 0 := by rw [Int.tmod_eq_emod_of_nonneg (by omega)]; omega
          have q3 : (e9' : Int) ≤ 4294967292 := by omega
          have hbw := below_trans HB.out hb
          clear hfn he9 hb
          go_wp2_with fail
          go_ret
          exact ⟨by show Ending.returned (.bool (decide ((j : Int) ≤ 4))) = _; rw [decide_eq_true (by omega)], hbw⟩
    · have hz : ((er : Int) != 0) = true := by simp; omega
      obtain ⟨rfl, rfl⟩ := HSZ.out her0
      obtain rfl : m = 0 := HML.out.symm
      clear her0 HSZ HSS
      go_wp2_with fail
      go_ret
      exact ⟨rfl, hb⟩
  · rw [if_neg hf] at hR
    obtain ⟨rfl, rfl, rfl⟩ := hR
    clear hf
    have heq := fun w => Lib.run_eql_slice_nil (P := Try.prog) w 25 5 none 0 0 0 0 Try.underlying25
    simp only [Option.isNone_none] at heq
    go_wp2_with fail
    go_ret
    exact ⟨rfl, hb⟩
end Go.Proofs.Ytoplknankmomcaa
