/-
Layer 9: DynBack, over package dyn's call.
-/
import Derived.Test.YtfdoloonllhodaaJDyK
import Derived.Test.YtfdoloonllhodaaJDzD
namespace Go.Proofs.Ytfdoloonllhodaa
open Go Go.RowKit

theorem tbC_back (Ay Ar : Option Addr) (ny cy nr cr : Nat) : (#[.slice none 0 0, .slice Ay ny cy, .slice Ar nr cr, .int .i64 0, .bool true] : Array Value) = tbC sl0 ⟨Ay, ny, cy⟩ ⟨Ar, nr, cr⟩ 0 true := rfl
theorem back_read {code : List UInt8} {sy : List Nat} {rl : List (Nat × Nat × Nat)} (hf : fits9 code.length 0 sy.length rl.length = true) (hyf : ∀ v ∈ sy, v < 4294967296) (hrf : ∀ r ∈ rl, T32 r) (h1 : sy.length ≤ 64) (h2 : rl.length ≤ 64)
    (hs : ∀ r ∈ rl, r.2.1 / 256 = 0 ∨ r.2.1 / 256 < sy.length) : readN (file9N code [] sy rl 0 true) = ⟨0, tabS code sy.length sy rl (ownT sy.length rl.length), sy, rl.map rlOf, 0⟩ := by
  have hft := of_decide_eq_true hf
  have e : natI (IntKind.i64.wrap ((sy.length : Int) + 0)) = sy.length := by
    rw [Int.add_zero, i64_wrap _ (by omega) (by omega), natI_nat _ (by omega)]
  unfold file9N
  rw [e]
  show readN (tabF code sy.length sy rl ([] ++ ownT sy.length rl.length)) = _
  have hall : (rl.map rlOf).all (rlB sy.length) = true := by
    rw [List.all_map]
    exact List.all_eq_true.2 fun r hr => decide_eq_true (hs r hr)
  rw [List.nil_append, tab_read ⟨by omega, by omega, by omega, by omega, by omega, by show (7 : Nat) ≤ 30; decide⟩ hyf hrf, if_pos ⟨h1, h2, hall⟩]
theorem at_re' (b o n c j : Nat) (hj : (j : Int) < (n : Int)) (w : World) : (Instr.indexAt 36 (.slice (some ⟨b, o, none⟩) n c) (.int .i64 (j : Int))).run Try.prog w = .ok (.pointer (some ⟨b, o + j * 4, none⟩)) w := by
  have h2 := Addr.add_mid b o (j * 4)
  go_simp
theorem wp_load_re {w : World} {ops : Array Oper} {rest : List Oper} {op : Oper} {a : Act} {Q : Exit → Act → World → Prop} (hgd : op.guard = none) (x : Operand) (ho : op.op = .load 43 x)
    (b o : Nat) (hx : a.eval x = .pointer (some ⟨b, o, none⟩)) (f : Nat → Value) (hc : w.rangeAt b o ((List.range 4).map f)) (h : wpList Try.prog ops Q rest (a.put op.dst (.agg (tab 4 f))) w) : wpList Try.prog ops Q (op :: rest) a w :=
  wpList_load_mid hgd 43 x ho b o hx _ _ hc Try.underlying43 rfl (by simpa using infoRE4) h
set_option maxRecDepth 100000 in
set_option maxHeartbeats 1000000 in
theorem back9_ok (H : DynOK) (code : List UInt8) (A : Option Addr) (n c : Nat) (y r : Sl) (sy : List Nat) (rl : List (Nat × Nat × Nat)) (w : World)
    (hS : SlA w A n c code) (hA : A = none → c = 0) (hy : SlU w y sy) (hyf : ∀ v ∈ sy, v < 4294967296) (hr : SlT3 w r rl) :
    Calls Try.prog 5 #[.slice A n c, y.v, r.v] w fun e w' => e = .returned (.bool true) ∧ Below w.heap.size w w' := by
  obtain ⟨Ay, ny, cy, rfl⟩ := y.out
  obtain ⟨Ar, nr, cr, rfl⟩ := r.out
  rw [show Sl.v ⟨Ay, ny, cy⟩ = .slice Ay ny cy from rfl, show Sl.v ⟨Ar, nr, cr⟩ = .slice Ar nr cr from rfl]
  have HS := Lib.hid hS
  have HA := Lib.hid hA
  have HY := Lib.hid hy
  have HYF := Lib.hid hyf
  have HR := Lib.hid hr
  clear hS hA hy hyf hr
  go_enter Try.func5, Try.ntmps5
  go_wp2_with fail
  refine (fit9_any H w).mono ?_
  rintro e u1 ⟨rfl, hb⟩
  by_cases h64 : 64 < ny
  · have d64 : 64 < (ny : Int) := by omega
    clear h64
    go_wp2_with fail
    go_ret
    exact ⟨rfl, hb⟩
  have d64 : (ny : Int) ≤ 64 := by omega
  by_cases hr64 : 64 < nr
  · have dr64 : 64 < (nr : Int) := by omega
    clear h64 hr64
    go_wp2_with fail
    go_ret
    exact ⟨rfl, hb⟩
  have dr64 : (nr : Int) ≤ 64 := by omega
  have H64 := Lib.hid (And.intro h64 hr64)
  clear h64 hr64
  go_wp2_with fail
  go_loopw [29] (fun ct wr => ∃ q : Nat, q ≤ nr ∧ ct = .int .i64 (q : Int) ∧ (∀ j, j < q → (rl.getD j (0, 0, 0)).2.1 / 256 < max ny 1) ∧ Below w.heap.size w wr) (fun ct _ => (nr - (intOf ct)).toNat)
  case atStart => exact ⟨0, Nat.zero_le _, rfl, fun j h => absurd h (Nat.not_lt_zero _), hb⟩
  case round =>
    obtain ⟨q, hq, rfl, hall, hbq⟩ := hrel
    clear hb
    by_cases hlt : q < nr
    · have di : (q : Int) < (nr : Int) := by omega
      have hRr := HR.out.below hbq
      obtain ⟨b, o, hA2, hbl, _⟩ := hRr.2.1.2 (by show 0 < nr; omega)
      replace hA2 : Ar = some ⟨b, o, none⟩ := hA2
      subst hA2
      have hrl : rl.length = nr := hRr.1
      have hrg := hRr.2.1.range rfl (j := q) hlt
      have hp32 : T32 (rl.getD q (0, 0, 0)) := hRr.2.2 _ (by rw [List.getD_eq_getElem?_getD, List.getElem?_eq_getElem (by omega)]; exact List.getElem_mem _)
      change wr.rangeAt b (o + q * 3) ((List.range 3).map (r3V (rl.getD q (0, 0, 0)))) at hrg
      obtain ⟨p, hp⟩ : ∃ p, p = rl.getD q (0, 0, 0) := ⟨_, rfl⟩
      rw [← hp] at hrg hp32
      have HP := Lib.hid hp
      have HALL := Lib.hid hall
      have HBQ := Lib.hid hbq
      have ha1 := fun w => at_t3 b o nr cr q di w
      obtain ⟨x, hx⟩ : ∃ x, x = p.2.1 := ⟨_, rfl⟩
      obtain ⟨s, hs⟩ : ∃ s, s = x / 256 := ⟨_, rfl⟩
      have hx32 : x < 4294967296 := by rw [hx]; exact hp32.2.1
      have hshr : (x : Int) / 256 = (s : Int) := by omega
      have hsb : (s : Int) < 16777216 := by omega
      have HX := Lib.hid (And.intro hx hs)
      clear hbl hRr hrl hp hall hbq hp32 hs
      go_upto_region 8 with (first
        | (refine wp_load_t3 rfl _ rfl b (o + q * 3) rfl _ hrg ?_)
        | (refine wp_fresh 33 3 _ _ _ _ rfl rfl rfl rfl zeroT3 infoT3 (by omega) (r3V_one _) rfl rfl ?_
           intro w2 hG2 hb2 hz2))
      have hc1 : w2.cell? ⟨_, 1, none⟩ = some (.int .u32 (p.2.1 : Int)) := hG2.cellTab 1 (by omega)
      rw [← hx] at hc1
      have hbq2 := HBQ.out.trans (hb2.mono HBQ.out.size)
      clear hx
      go_frame
      go_cut [40] (fun tv wx => ∃ bb : Bool, tv = .bool bb ∧ w2 = wx ∧ bb = decide (max ny 1 ≤ s))
      case first =>
        by_cases hny : ny < 1
        · have dk : (ny : Int) < 1 := by omega
          go_wp2_with fail
          go_meet
          exact ⟨_, rfl, rfl, decide_eq_decide.2 (by omega)⟩
        · have dk : 1 ≤ (ny : Int) := by omega
          go_wp2_with fail
          go_meet
          exact ⟨_, rfl, rfl, decide_eq_decide.2 (by omega)⟩
      case rest =>
        obtain ⟨bb, rfl, rfl, hbb⟩ := hcut
        have HBB := Lib.hid hbb
        clear hbb
        cases bb with
        | true =>
          go_wp2_with fail
          go_ret
          exact ⟨rfl, hbq2⟩
        | false =>
          go_wp2_with fail
          go_roundw
          case rel =>
            refine ⟨q + 1, hlt, by go_num, fun j hj => ?_, hbq2⟩
            by_cases hjq : j = q
            · subst hjq
              rw [← HP.out, ← HX.out.1, ← HX.out.2]
              have := of_decide_eq_false HBB.out.symm
              omega
            · exact HALL.out j (by omega)
          case measure => simp [intOf] <;> omega
    · obtain rfl : q = nr := by omega
      have hrl : rl.length = q := HR.out.1
      have hsl : sy.length = ny := HY.out.1
      have hall2 : ∀ r ∈ rl, r.2.1 / 256 = 0 ∨ r.2.1 / 256 < sy.length := fun r hr => by
        obtain ⟨j, hj, e⟩ := List.getElem_of_mem hr
        have h1 := hall j (by omega)
        rw [List.getD_eq_getElem?_getD, List.getElem?_eq_getElem hj, Option.getD_some, e] at h1
        omega
      have HRD : Hid (fits9 code.length 0 sy.length rl.length = true → readN (file9N code [] sy rl 0 true) = ⟨0, tabS code sy.length sy rl (ownT sy.length rl.length), sy, rl.map rlOf, 0⟩) := Lib.hid (fun hf => back_read hf HYF.out HR.out.2.2 (by have := H64.out.1; omega) (by have := H64.out.2; omega) hall2)
      have HLS := Lib.hid (And.intro hrl hsl)
      have kF : Calls Try.prog 8 #[.slice A n c, .agg #[.slice none 0 0, .slice Ay ny cy, .slice Ar q cr, .int .i64 0, .bool true]] wr fun e w' => (∃ A n c, e = .returned (.slice A n c) ∧ File9R code [] sy rl 0 true A n c w') ∧ Below wr.heap.size wr w' :=
        fl9_ok.file_ok code A n c sl0 ⟨Ay, ny, cy⟩ ⟨Ar, q, cr⟩ [] sy rl 0 true wr (HS.out.below hbq) HA.out ⟨rfl, slC_nil _ _ _, fun p h => by cases h⟩ (HY.out.below hbq) HYF.out (HR.out.below hbq) (by decide) (by decide)
      have HBQ := Lib.hid hbq
      clear hall hall2 hrl hsl hlt hbq
      go_wp2_with fail
      refine kF.mono ?_
      rintro e u2 ⟨⟨A2, n2, c2, rfl, hF⟩, hb2⟩
      have hb12 := HBQ.out.trans (hb2.mono HBQ.out.size)
      clear kF hb2
      unfold File9R at hF
      by_cases hf : fits9 code.length ([] : List (Nat × Nat)).length sy.length rl.length = true
      · rw [if_pos hf] at hF
        obtain ⟨hRB, hc2⟩ := hF
        have hft := of_decide_eq_true hf
        have hln : (file9N code [] sy rl 0 true).length = _ := tabF_len _ _ _ _ _
        have htl := tags9_len [] sy.length rl.length true
        have hl7 : ([] : List (Nat × Nat)).length = 0 := rfl
        rw [hl7] at htl
        obtain ⟨b, o, rfl⟩ := slA_some hRB.slA.1 (by omega)
        have k := H.read_ok (file9N code [] sy rl 0 true) (some ⟨b, o, none⟩) n2 c2 u2 hRB.slA.1 hRB.slA.2 hc2 (by omega)
        rw [HRD.out hf] at k
        have heq := fun w => Lib.run_eql_slice_nil (P := Try.prog) w 22 5 (some ⟨b, o, none⟩) n2 c2 0 0 Try.underlying22
        simp only [Option.isNone_some] at heq
        clear hRB hln hft htl hf hl7 hc2
        go_wp2_with fail
        refine k.mono ?_
        rintro e u3 ⟨⟨s, r2, y2, rfl, hs, hr2, hy2⟩, hb3⟩
        have hb13 := hb12.trans (hb3.mono hb12.size)
        clear k hs hb3 hb12 heq
        obtain ⟨A3, n3, c3, rfl⟩ := s.out
        obtain ⟨A4, n4, c4, rfl⟩ := r2.out
        obtain ⟨A5, n5, c5, rfl⟩ := y2.out
        have hn4 : n4 = q := by have h1 : (rl.map rlOf).length = n4 := hr2.1; rw [List.length_map] at h1; have := HLS.out.1; omega
        have hn5 : n5 = ny := by have h1 : sy.length = n5 := hy2.1; have := HLS.out.2; omega
        subst hn4 hn5
        rw [show fiC 0 ⟨A3, n3, c3⟩ ⟨A4, n4, c4⟩ ⟨A5, n5, c5⟩ = #[.int .u32 0, .slice A3 n3 c3, .slice A4 n4 c4, .slice A5 n5 c5] from rfl]
        go_upto_region 15 with fail
        have hG : Has (u3.alloc (.cells #[.int .u32 0, .slice A3 n3 c3, .slice A4 n4 c4, .slice A5 n5 c5] 38)) u3.heap.size 38 #[.int .u32 0, .slice A3 n3 c3, .slice A4 n4 c4, .slice A5 n5 c5] := Has.new _ _ _
        have hb4 : Below u3.heap.size u3 (u3.alloc (.cells #[.int .u32 0, .slice A3 n3 c3, .slice A4 n4 c4, .slice A5 n5 c5] 38)) := (Below.refl _ _).alloc (Nat.le_refl _) _
        generalize u3.alloc (.cells #[.int .u32 0, .slice A3 n3 c3, .slice A4 n4 c4, .slice A5 n5 c5] 38) = u4 at *
        have hb14 := hb13.trans (hb4.mono hb13.size)
        have HR4 := Lib.hid (hr2.below hb4)
        have HY4 := Lib.hid (hy2.below hb4)
        obtain ⟨gf, hgf⟩ : ∃ x, x = u3.heap.size := ⟨_, rfl⟩
        rw [← hgf] at hG ⊢
        have hcf2 := hG.cell 2
        have hcf3 := hG.cell 3
        have HG := Lib.hid hG
        clear hb13 hb4 hr2 hy2 hgf hG
        go_wp2_with fail
        go_loopw [74] (fun ct wx => ∃ i : Nat, i ≤ n5 ∧ ct = .int .i64 (i : Int) ∧ Below u4.heap.size u4 wx) (fun ct _ => (n5 - (intOf ct)).toNat)
        case atStart => exact ⟨0, Nat.zero_le _, rfl, Below.refl _ _⟩
        case round =>
          obtain ⟨i, hi, rfl, hbi⟩ := hrel
          clear hcf2 hcf3
          by_cases hlt : i < n5
          · have di : (i : Int) < (n5 : Int) := by omega
            have hYi := HY.out.below (hb14.trans (hbi.mono hb14.size))
            obtain ⟨b1, o1, hA1, _, hcl1⟩ := hYi.2.2 (by show 0 < n5; omega)
            replace hA1 : Ay = some ⟨b1, o1, none⟩ := hA1
            subst hA1
            have hc1 : wr.cell? ⟨b1, o1 + i * 1 + 0, none⟩ = some (.int .u32 ((sy.getD i 0 : Nat) : Int)) := hcl1 i 0 hlt (by decide)
            obtain ⟨b2, o2, hA2, _, hcl2⟩ := (HY4.out.below hbi).2.2 (by show 0 < n5; omega)
            replace hA2 : A5 = some ⟨b2, o2, none⟩ := hA2
            subst hA2
            have hc2 : wr.cell? ⟨b2, o2 + i * 1 + 0, none⟩ = some (.int .u32 ((sy.getD i 0 : Nat) : Int)) := hcl2 i 0 hlt (by decide)
            rw [Nat.mul_one, Nat.add_zero] at hc1 hc2
            generalize sy.getD i 0 = v at *
            replace hc1 : wr.cell? ⟨b1, o1 + i, none⟩ = some (.int .u32 (v : Int)) := hc1
            replace hc2 : wr.cell? ⟨b2, o2 + i, none⟩ = some (.int .u32 (v : Int)) := hc2
            have ha1 := fun w => at_u32 b1 o1 n5 cy i di w
            have ha2 := fun w => at_u32 b2 o2 n5 c5 i di w
            have hcf3 := (HG.out.after hbi).cell 3
            clear hYi hcl1 hcl2
            go_wp2_with fail
            go_roundw
            case rel => exact ⟨i + 1, hlt, by go_num, hbi⟩
            case measure => simp [intOf] <;> omega
          · obtain rfl : i = n5 := by omega
            have HBI := Lib.hid hbi
            clear hlt hbi
            go_wp2_with fail
            go_loopw [89] (fun ct wx => ∃ j : Nat, j ≤ n4 ∧ ct = .int .i64 (j : Int) ∧ Below u4.heap.size u4 wx) (fun ct _ => (n4 - (intOf ct)).toNat)
            case atStart => exact ⟨0, Nat.zero_le _, rfl, HBI.out⟩
            case round =>
              obtain ⟨j, hj, rfl, hbj⟩ := hrel
              by_cases hlt : j < n4
              · have di : (j : Int) < (n4 : Int) := by omega
                have hRr := HR.out.below (hb14.trans (hbj.mono hb14.size))
                obtain ⟨b1, o1, hA1, _, _⟩ := hRr.2.1.2 (by show 0 < n4; omega)
                replace hA1 : Ar = some ⟨b1, o1, none⟩ := hA1
                subst hA1
                have hrg := hRr.2.1.range rfl (j := j) hlt
                change wr.rangeAt b1 (o1 + j * 3) ((List.range 3).map (r3V (rl.getD j (0, 0, 0)))) at hrg
                have hp32 : T32 (rl.getD j (0, 0, 0)) := hRr.2.2 _ (by have h1 : rl.length = n4 := hRr.1; rw [List.getD_eq_getElem?_getD, List.getElem?_eq_getElem (by omega)]; exact List.getElem_mem _)
                obtain ⟨b2, o2, hA2, _, _⟩ := (HR4.out.below hbj).2.2 (by show 0 < n4; omega)
                replace hA2 : A4 = some ⟨b2, o2, none⟩ := hA2
                subst hA2
                have hgd : (rl.map rlOf).getD j rl0 = rlOf (rl.getD j (0, 0, 0)) := by
                  have h1 : rl.length = n4 := hRr.1
                  simp [List.getD_eq_getElem?_getD, show j < rl.length by omega]
                have hre0 : ∀ w', Below wr.heap.size wr w' → w'.rangeAt b2 (o2 + j * 4) ((List.range 4).map (rlE (rlOf (rl.getD j (0, 0, 0))))) := fun w' k => by
                  have h1 := (HR4.out.below (hbj.trans (k.mono hbj.size))).2.range rfl (j := j) hlt
                  change w'.rangeAt b2 (o2 + j * 4) ((List.range 4).map (rlE ((rl.map rlOf).getD j rl0))) at h1
                  rw [hgd] at h1
                  exact h1
                generalize rl.getD j (0, 0, 0) = p at *
                obtain ⟨p1, p2, p3⟩ := p
                obtain ⟨t8, ht8⟩ : ∃ t, t = p2 % 256 := ⟨_, rfl⟩
                obtain ⟨s8, hs8⟩ : ∃ t, t = p2 / 256 := ⟨_, rfl⟩
                have hp2 : p2 < 4294967296 := hp32.2.1
                have hand := u32_and8 p2 hp2
                rw [← ht8] at hand
                have hshr : (p2 : Int) / 256 = (s8 : Int) := by omega
                have ht8b : (t8 : Int) < 256 := by omega
                have hs8b : (s8 : Int) < 16777216 := by omega
                have e4 : rlOf (p1, p2, p3) = ⟨p1, t8, s8, p3⟩ := by rw [ht8, hs8]; rfl
                rw [e4] at hre0
                have HRE := Lib.hid hre0
                have ha1 := fun w => at_t3 b1 o1 n4 cr j di w
                have ha2 := fun w => at_re' b2 o2 n4 c4 j di w
                have hG0 : Has (wr.alloc (.cells #[.int .u32 0, .int .u32 0, .int .u32 0] 33)) wr.heap.size 33 #[.int .u32 0, .int .u32 0, .int .u32 0] := Has.new _ _ _
                have hb0 : Below wr.heap.size wr (wr.alloc (.cells #[.int .u32 0, .int .u32 0, .int .u32 0] 33)) := (Below.refl _ _).alloc (Nat.le_refl _) _
                have HBJ := Lib.hid hbj
                clear hRr hp32 ht8 hs8 e4 hgd hbj hre0
                go_upto_region 26 with (first
                  | (refine wp_load_t3 rfl _ rfl b1 (o1 + j * 3) rfl _ hrg ?_)
                  | (refine wp_store_cs rfl 33 _ _ rfl wr.heap.size rfl (tab 3 (r3V (p1, p2, p3))) rfl _ (by rfl) (by rw [tab_size]; exact infoT3) (tab_oneCell _ _ (r3V_one _)) hG0 ?_; intro w2 hG2 hg2))
                have hb2 : Below wr.heap.size wr w2 := below_only hb0 hg2 (Nat.le_refl _) hb0.size
                have hre2 := HRE.out w2 hb2
                have hbj2 := HBJ.out.trans (hb2.mono HBJ.out.size)
                have hcf2 := (HG.out.after hbj2).cell 2
                obtain ⟨g3, hg3⟩ : ∃ x, x = wr.heap.size := ⟨_, rfl⟩
                rw [← hg3] at hG2 ⊢
                clear hrg hG0 hb0 hg2 hg3
                go_upto_region 27 with (first
                  | (refine wp_load_re rfl _ rfl b2 (o2 + j * 4) rfl _ hre2 ?_)
                  | (refine wp_fresh 43 4 _ _ _ _ rfl rfl rfl rfl zeroRE infoRE4 (by omega) (rlE_one _) rfl rfl ?_
                     intro w3 hG3 hb3 hz3))
                have hx0 : w3.cell? ⟨_, 0, none⟩ = some (.int .u32 (p1 : Int)) := hG3.cellTab 0 (by omega)
                have hx1 : w3.cell? ⟨_, 1, none⟩ = some (.int .i64 (t8 : Int)) := hG3.cellTab 1 (by omega)
                have hx2 : w3.cell? ⟨_, 2, none⟩ = some (.int .i64 (s8 : Int)) := hG3.cellTab 2 (by omega)
                have hx3 : w3.cell? ⟨_, 3, none⟩ = some (.int .u32 (p3 : Int)) := hG3.cellTab 3 (by omega)
                have hG2' := hG2.after hb3
                have hy0 : w3.cell? ⟨g3, 0, none⟩ = some (.int .u32 (p1 : Int)) := hG2'.cellTab 0 (by omega)
                have hy1 : w3.cell? ⟨g3, 1, none⟩ = some (.int .u32 (p2 : Int)) := hG2'.cellTab 1 (by omega)
                have hy2 : w3.cell? ⟨g3, 2, none⟩ = some (.int .u32 (p3 : Int)) := hG2'.cellTab 2 (by omega)
                have hbj3 := hbj2.trans (hb3.mono hbj2.size)
                clear hG2 hG2' hG3 hb3 hz3 hre2 hcf2
                go_wp2_with fail
                go_roundw
                case rel => exact ⟨j + 1, hlt, by go_num, hbj3⟩
                case measure => simp [intOf] <;> omega
              · obtain rfl : j = n4 := by omega
                have hbE := hb14.trans (hbj.mono hb14.size)
                go_wp2_with fail
                go_ret
                exact ⟨rfl, hbE⟩
      · rw [if_neg hf] at hF
        obtain ⟨rfl, rfl, rfl⟩ := hF
        have heq := fun w => Lib.run_eql_slice_nil (P := Try.prog) w 22 5 none 0 0 0 0 Try.underlying22
        simp only [Option.isNone_none] at heq
        clear hf
        go_wp2_with fail
        go_ret
        exact ⟨rfl, hb12⟩
end Go.Proofs.Ytfdoloonllhodaa
