/-
Layer 12: PmpGrants, by what package pmp's calls answer.
-/
import Derived.Test.YtjpmigagoedbcaaDoorPmI
import Derived.Test.YtjpmigagoedbcaaDoorPmG
import Derived.Test.YtjpmigagoedbcaaDoorPmJ
import Derived.Test.YtjpmigagoedbcaaDoorGenB
import Derived.Test.YtjpmigagoedbcaaDoorIb
import Derived.Test.YtjpmigagoedbcaaDoorQw
namespace Go.Proofs.YtjpmigagoedbcaaDoor.Pm
open Go Go.RowKit

theorem ents_plain (gs : List Gr) (hk : gs.all okG = true) : ∀ e ∈ entsG gs, 0 ≤ e.w ∧ e.w ≤ 3 ∧ 0 ≤ e.r ∧ e.r ≤ 7 := by
  induction gs with
  | nil => intro e h; cases h
  | cons g l ih =>
    intro e he
    obtain ⟨k1, k2, k3, k4, k5, k6⟩ := okG_parts (List.all_eq_true.1 hk g (List.mem_cons_self ..))
    have hk2 : l.all okG = true := List.all_eq_true.2 fun x hx => List.all_eq_true.1 hk x (List.mem_cons_of_mem _ hx)
    rcases List.mem_append.1 (show e ∈ entG g ++ entsG l from he) with h | h
    · unfold entG at h
      split at h
      · rw [List.mem_singleton.1 h]; dsimp only; omega
      · split at h
        · rw [List.mem_singleton.1 h]; dsimp only; omega
        · rcases List.mem_cons.1 h with rfl | h
          · dsimp only; omega
          · rw [List.mem_singleton.1 h]; dsimp only; omega
    · exact ih hk2 e h
theorem plan_plain (gs : List Gr) (hk : gs.all okG = true) (h16 : ¬16 < (planE gs).length) : plainL (planE gs) := by
  refine ⟨fun e he => ?_, by omega⟩
  rcases List.mem_append.1 (show e ∈ entsG gs ++ [lastE] from he) with h | h
  · exact ents_plain gs hk e h
  · rw [List.mem_singleton.1 h]; decide
theorem planN_cases (gs : List Gr) (hk : ∀ g ∈ gs, okG g = true) : planN gs = ([], 15) ∨ (planN gs = (planE gs, 0) ∧ plainL (planE gs)) := by
  have hall : gs.all okG = true := List.all_eq_true.2 hk
  unfold planN
  rw [if_pos hall]
  by_cases h : 16 < (planE gs).length
  · rw [if_pos h]; exact Or.inl rfl
  · rw [if_neg h]; exact Or.inr ⟨rfl, plan_plain gs hall h⟩
/-- a right of a grant -/
theorem and_right : ∀ r, r ≤ 7 → 1 ≤ r → ∀ k, k ≤ 2 → (0 < r &&& 2 ^ k ↔ r &&& 2 ^ k = 2 ^ k) := by decide
theorem i64_land (a b : Nat) (ha : a < 4294967296) (hb : b < 4294967296) : bits .and .i64 (a : Int) (b : Int) = ((a &&& b : Nat) : Int) := by
  have hx : a &&& b ≤ a := Nat.and_le_left
  show IntKind.i64.wrap ((BitVec.ofInt 64 (a : Int) &&& BitVec.ofInt 64 (b : Int)).toNat : Int) = _
  have e1 : BitVec.ofInt 64 (a : Int) = BitVec.ofNat 64 a := BitVec.ofInt_natCast ..
  have e2 : BitVec.ofInt 64 (b : Int) = BitVec.ofNat 64 b := BitVec.ofInt_natCast ..
  rw [e1, e2, BitVec.toNat_and, BitVec.toNat_ofNat, BitVec.toNat_ofNat, Nat.mod_eq_of_lt (show a < 2 ^ 64 by omega), Nat.mod_eq_of_lt (show b < 2 ^ 64 by omega)]
  exact IntWalk.i64_in _ (by omega)
theorem may_succ (gs : List Gr) (i a n right : Nat) (hi : i < gs.length) : mayB (gs.take (i + 1)) a n right = (mayB (gs.take i) a n right || (decide (andR (gs.getD i gr0).r right = right) && withinG (gs.getD i gr0) a n)) := by
  unfold mayB
  rw [take_succ gs i hi, List.any_append]
  simp
set_option maxRecDepth 100000 in
set_option maxHeartbeats 4000000 in
theorem grants12_ok (H : PmpOK) (gs : List Gr) (s : Sl) (a : Nat) (h0 h1 : Int) (w : World) (hT : TabT w) (hS : SlG w s gs) (ha : a < 4294967296) (_i0 : i64ok h0) (_i1 : i64ok h1) :
    Calls Tryd.prog 4 #[s.v, .int .u32 (a : Int), .agg #[.int .i64 h0, .int .i64 h1]] w fun e w' => e = .returned (.bool true) ∧ Below w.heap.size w w' := by
  have hlen := hS.1
  have kf := fun W hW => fit12_any H W hW
  obtain ⟨A, n, c⟩ := s
  dsimp only at hlen
  have HS := Lib.hid hS
  clear hS
  show Calls Tryd.prog 4 #[.slice A n c, .int .u32 (a : Int), .agg #[.int .i64 h0, .int .i64 h1]] w _
  go_enter Tryd.func4, Tryd.ntmps4
  go_wp2_with fail
  obtain ⟨wa, hwa, hX, hba, hsa⟩ := one_new w #[.int .i64 h0, .int .i64 h1] 34
  rw [← hwa]
  clear hwa
  have HT := Lib.hid hT
  refine (kf wa (hT.below hba)).mono ?_
  clear kf hT
  rintro e w1 ⟨rfl, hb1⟩
  have hX1 := hX.below hb1 hX.lt
  have hb1' := hba.trans (hb1.mono hba.size)
  have HX1 := Lib.hid hX1
  have HB1 := Lib.hid hb1'
  clear hX hba hsa hb1 hX1 hb1'
  by_cases h40 : n ≤ 40
  · have h40' : ¬ 40 < (n : Int) := by omega
    go_wp2_with fail
    refine (show Calls Tryd.prog 11 #[.slice A n c] w1 _ from apart_any gs ⟨A, n, c⟩ w1 (HS.out.below HB1.out)).mono ?_
    rintro e w2 ⟨⟨bb, rfl, hbb⟩, hb2⟩
    have hX2 := HX1.out.below hb2 HX1.out.lt
    have hb2' := HB1.out.trans (hb2.mono HB1.out.size)
    have HX2 := Lib.hid hX2
    have HB2 := Lib.hid hb2'
    clear hX2 hb2 hb2'
    cases bb with
    | false =>
      clear hbb
      go_wp2_with fail
      go_ret
      exact ⟨rfl, HB2.out⟩
    | true =>
      obtain ⟨hok, hap⟩ := hbb rfl
      clear hbb
      go_wp2_with fail
      refine (show Calls Tryd.prog 9 #[.slice A n c] w2 _ from H.plan gs ⟨A, n, c⟩ w2 (HS.out.below HB2.out) (by omega)).mono ?_
      rintro e w3 ⟨⟨A3, n3, c3, rfl, hE⟩, hb3⟩
      have hX3 := HX2.out.below hb3 HX2.out.lt
      have hb3' := HB2.out.trans (hb3.mono HB2.out.size)
      have HX3 := Lib.hid hX3
      have HB3 := Lib.hid hb3'
      clear hX3 hb3 hb3'
      rcases planN_cases gs hok with hp | ⟨hp, hpl⟩
      · rw [hp]
        clear hE hp
        dsimp only
        go_wp2_with fail
        go_ret
        exact ⟨rfl, HB3.out⟩
      · rw [hp] at hE ⊢
        dsimp only at hE ⊢
        rw [show ((0 : Nat) : Int) = 0 from rfl]
        have HE := Lib.hid hE
        have HOK := Lib.hid hok
        have HAP := Lib.hid hap
        have HPL := Lib.hid hpl
        clear hE hok hap hpl hp
        go_upto_region 8 with fail
        have hX := HX3.out
        have hlt := hX.lt
        obtain ⟨k0, hk0⟩ : ∃ k0 : Nat, h0 % 4 = (k0 : Int) := ⟨(h0 % 4).toNat, by omega⟩
        have hk3 : k0 ≤ 3 := by omega
        have m0 : bits .and .i64 h0 3 = (k0 : Int) := by rw [← hk0]; exact i64_and3 h0
        obtain ⟨tm, htm⟩ : ∃ tm, tm = h1.tmod 3 := ⟨_, rfl⟩
        have htm2 : -2 ≤ tm ∧ tm ≤ 2 := by
          have e1 := Int.tmod_def h1 3
          have e2 := Int.emod_add_mul_ediv h1 3
          have e3 : h1.tmod 3 = h1 - 3 * h1.tdiv 3 := e1
          rw [htm]
          constructor
          · have := Int.lt_tmod_of_pos h1 (show (0 : Int) < 3 by decide); omega
          · have := Int.tmod_lt_of_pos h1 (show (0 : Int) < 3 by decide); omega
        have HT2 := Lib.hid htm2
        obtain ⟨k1, hk1⟩ : ∃ k1 : Nat, (tm + 3).tmod 3 = (k1 : Int) := ⟨((tm + 3) % 3).toNat, by rw [Int.tmod_eq_emod_of_nonneg (by omega)]; omega⟩
        have hk12 : k1 ≤ 2 := by rw [Int.tmod_eq_emod_of_nonneg (by omega)] at hk1; omega
        obtain ⟨N, hN⟩ : ∃ N, N = 2 ^ k0 := ⟨_, rfl⟩
        obtain ⟨R, hR⟩ : ∃ R, R = 2 ^ k1 := ⟨_, rfl⟩
        have hNI : (2 : Int) ^ k0 = (N : Int) := by rw [hN, Int.natCast_pow]; rfl
        have hRI : (2 : Int) ^ k1 = (R : Int) := by rw [hR, Int.natCast_pow]; rfl
        have hN8 : N ≤ 8 := by rw [hN]; exact Nat.pow_le_pow_right (by decide) hk3
        have hR4 : R ≤ 4 := by rw [hR]; exact Nat.pow_le_pow_right (by decide) hk12
        have hN1 : 1 ≤ N := by rw [hN]; exact Nat.two_pow_pos _
        have hR1 : 1 ≤ R := by rw [hR]; exact Nat.two_pow_pos _
        have HNI := Lib.hid hNI
        have HRI := Lib.hid hRI
        have HN := Lib.hid hN
        have HR := Lib.hid hR
        have HTM := Lib.hid htm
        have HK1 := Lib.hid hk1
        clear hNI hRI hN hR htm hk1 hk0 htm2
        have htm2 : -2 ≤ tm ∧ tm ≤ 2 := HT2.out
        refine region_quiet_all (fun w' => ∃ n, w' = w3.drewN n) (by kernel_rfl) (by kernel_rfl) ⟨1, rfl⟩ ?_
        refine wpQ_val rfl (.pointer (some ⟨w.heap.size, 0, none⟩)) (fun w' _ => by go_simp) ?_
        simp only [Act.put, List.setIfInBounds_toArray, List.set_cons_zero, List.set_cons_succ]
        refine wpQ_val rfl (.int .i64 h0) (fun w' hC => by
          obtain ⟨n9, rfl⟩ := hC
          have hcell : (w3.drewN n9).cell? ⟨w.heap.size, 0, none⟩ = some (.int .i64 h0) := hX.cell 0
          go_simp) ?_
        simp only [Act.put, List.setIfInBounds_toArray, List.set_cons_zero, List.set_cons_succ]
        refine wpQ_val rfl (.int .i64 (k0 : Int)) (fun w' _ => by go_simp) ?_
        simp only [Act.put, List.setIfInBounds_toArray, List.set_cons_zero, List.set_cons_succ]
        refine wpQ_val rfl (.int .i64 (N : Int)) (fun w' _ => by have h9 := HNI.out; go_simp; exact IntWalk.i64_in _ (by omega)) ?_
        simp only [Act.put, List.setIfInBounds_toArray, List.set_cons_zero, List.set_cons_succ]
        refine wpQ_val rfl (.pointer (some ⟨w.heap.size, 1, none⟩)) (fun w' _ => by go_simp) ?_
        simp only [Act.put, List.setIfInBounds_toArray, List.set_cons_zero, List.set_cons_succ]
        refine wpQ_val rfl (.int .i64 h1) (fun w' hC => by
          obtain ⟨n9, rfl⟩ := hC
          have hcell : (w3.drewN n9).cell? ⟨w.heap.size, 1, none⟩ = some (.int .i64 h1) := hX.cell 1
          go_simp) ?_
        simp only [Act.put, List.setIfInBounds_toArray, List.set_cons_zero, List.set_cons_succ]
        refine wpQ_val rfl (.int .i64 tm) (fun w' _ => by go_simp; exact HTM.out.symm) ?_
        simp only [Act.put, List.setIfInBounds_toArray, List.set_cons_zero, List.set_cons_succ]
        refine wpQ_val rfl (.int .i64 (tm + 3)) (fun w' _ => by go_simp; exact IntWalk.i64_in _ (by omega)) ?_
        simp only [Act.put, List.setIfInBounds_toArray, List.set_cons_zero, List.set_cons_succ]
        refine wpQ_val rfl (.int .i64 (k1 : Int)) (fun w' _ => by go_simp; exact HK1.out) ?_
        simp only [Act.put, List.setIfInBounds_toArray, List.set_cons_zero, List.set_cons_succ]
        refine wpQ_val rfl (.int .i64 (R : Int)) (fun w' _ => by have h9 := HRI.out; go_simp; exact IntWalk.i64_in _ (by omega)) ?_
        simp only [Act.put, List.setIfInBounds_toArray, List.set_cons_zero, List.set_cons_succ]
        refine wpQ_assign _ rfl rfl (.int .i64 (N : Int)) rfl ?_
        simp only [Act.put, List.setIfInBounds_toArray, List.set_cons_zero, List.set_cons_succ]
        refine wpQ_assign _ rfl rfl (.int .i64 (R : Int)) rfl ?_
        simp only [Act.put, List.setIfInBounds_toArray, List.set_cons_zero, List.set_cons_succ]
        refine wpQuiet_nil ?_
        rintro w' ⟨n9, rfl⟩
        have hb9 := below_drewN HB3.out n9
        have hE9 := HE.out.below (below_drewN (Below.refl _ _) n9)
        have HB9 := Lib.hid hb9
        have HE9 := Lib.hid hE9
        clear hb9 hE9 HB3 HE hX hlt HX3 m0
        generalize w3.drewN n9 = w4 at *
        have HRO := fun (r : Nat) (h1 : 1 ≤ r) (h2 : r ≤ 7) => and_right r h2 h1 k1 hk12
        rw [← HR.out] at HRO
        have HRO' := Lib.hid HRO
        clear HRO
        go_wp2_with fail
        go_loopw [11, 45] (fun cm ct wr => ∃ i : Nat, i ≤ n ∧ ct = .int .i64 (i : Int) ∧ cm = .bool (mayB (gs.take i) a N R) ∧ Below w4.heap.size w4 wr) (fun _ ct _ => (n - (intOf ct)).toNat)
        case atStart => exact ⟨0, Nat.zero_le _, rfl, by rw [List.take_zero]; rfl, Below.refl _ _⟩
        case round =>
          obtain ⟨i, hi, rfl, rfl, hb⟩ := hrel
          have HBr := Lib.hid hb
          by_cases hlt : i < n
          · have hin : (i : Int) < (n : Int) := by omega
            obtain ⟨b, o, hA, hlb, _⟩ := HS.out.2.1.2 (show 0 < n by omega)
            dsimp only at hA
            subst hA
            have hSr := HS.out.below (HB9.out.trans (hb.mono HB9.out.size))
            have hrg := hSr.2.1.range (b := b) (o := o) rfl (j := i) hlt
            have hrg' : wr.rangeAt b (o + i * 3) ((List.range 3).map (grV (gs.getD i gr0))) := hrg
            have hwf := hSr.wf (j := i) hlt
            have hms := may_succ gs i a N R (by omega)
            have hokg : okG (gs.getD i gr0) = true := HOK.out _ (by rw [List.getD_eq_getElem?_getD, List.getElem?_eq_getElem (by omega)]; exact List.getElem_mem _)
            have hat := at_grant b o n c i hin
            generalize gs.getD i gr0 = g at *
            generalize mayB (gs.take i) a N R = m0 at *
            have hs4 := hwf.s
            have hz4 := hwf.z
            have HMS := Lib.hid hms
            obtain ⟨o1, o2, o3, o4, o5, o6⟩ := okG_parts hokg
            obtain ⟨gS, gZ, gR⟩ := g
            dsimp only at hs4 hz4 o1 o2 o3 o4 o5 o6
            obtain ⟨r, rfl⟩ : ∃ r : Nat, gR = (r : Int) := ⟨gR.toNat, by omega⟩
            have hrr : andR (r : Int) R = r &&& R := rfl
            have hro := HRO'.out r (by omega) (by omega)
            have hbi := i64_land r R (by omega) (by omega)
            obtain ⟨X, hX⟩ : ∃ X, X = r &&& R := ⟨_, rfl⟩
            rw [← hX] at hro hbi hrr
            have HRR := Lib.hid hrr
            have HRO2 := Lib.hid hro
            clear hb hSr hrg hwf hms hokg o1 o2 o3 o4 o5 o6 hrr hro hX
            go_upto_region 13 with (refine wp_load_grant rfl _ rfl b (o + i * 3) rfl ⟨gS, gZ, (r : Int)⟩ hrg' ?_)
            obtain ⟨wa, hwa, hY, hba, hsa⟩ := one_new wr #[.int .u32 (gS : Int), .int .u32 (gZ : Int), .int .i64 (r : Int)] 36
            rw [← hwa]
            have hbb := HBr.out.trans (hba.mono HBr.out.size)
            have c0 : wa.cell? ⟨wr.heap.size, 0, none⟩ = some (.int .u32 (gS : Int)) := hY.cell 0
            have c1 : wa.cell? ⟨wr.heap.size, 1, none⟩ = some (.int .u32 (gZ : Int)) := hY.cell 1
            have c2 : wa.cell? ⟨wr.heap.size, 2, none⟩ = some (.int .i64 (r : Int)) := hY.cell 2
            have HBB := Lib.hid hbb
            clear hwa hY hba hsa hbb hrg'
            have kW := rwithin_any a N gS gZ wa ha (by omega) hs4 hz4
            cases m0 with
            | true =>
              go_wp2_with fail
              go_roundw
              case rel => exact ⟨i + 1, by omega, by go_num, by rw [HMS.out]; rfl, HBB.out⟩
              case measure => simp [intOf] <;> omega
            | false =>
              by_cases hXp : 0 < X
              · have hX' : 0 < (X : Int) := by omega
                have hde : decide (andR (r : Int) R = R) = true := decide_eq_true (by rw [HRR.out]; exact HRO2.out.1 hXp)
                have HDE := Lib.hid hde
                clear hde
                go_wp2_with fail
                refine kW.mono ?_
                rintro e w9 ⟨rfl, hb9⟩
                have hbz := HBB.out.trans (hb9.mono HBB.out.size)
                clear hb9
                have HBZ := Lib.hid hbz
                clear hbz c0 c1 c2
                generalize hq : inB a N gS gZ = q at *
                have HQ := Lib.hid hq
                clear hq
                go_wp2_with fail
                go_roundw
                case rel =>
                  refine ⟨i + 1, by omega, by go_num, ?_, HBZ.out⟩
                  rw [HMS.out, HDE.out, ← HQ.out]
                  unfold withinG inB
                  simp
                case measure => simp [intOf] <;> omega
              · have hX' : ¬ 0 < (X : Int) := by omega
                have hde : decide (andR (r : Int) R = R) = false := decide_eq_false (by rw [HRR.out]; exact fun h => hXp (HRO2.out.2 h))
                have HDE := Lib.hid hde
                clear hde
                go_wp2_with fail
                go_roundw
                case rel => exact ⟨i + 1, by omega, by go_num, by rw [HMS.out, HDE.out]; rfl, HBB.out⟩
                case measure => simp [intOf] <;> omega
          · obtain rfl : i = n := by omega
            clear hb
            have kC := H.check (planE gs) ⟨A3, n3, c3⟩ a N R wr (HT.out.below (HB9.out.trans (HBr.out.mono HB9.out.size))) (HE9.out.below HBr.out) HPL.out ha hN1 hN8 (by omega)
            rw [plan_check gs HOK.out, check_may gs HOK.out HAP.out a N R hN1 hR1] at kC
            rw [show gs.take i = gs by rw [← hlen]; exact List.take_length]
            generalize mayB gs a N R = q at *
            go_wp2_with fail
            refine (show Calls Tryd.prog 13 #[.slice A3 n3 c3, .int .u32 (a : Int), .int .i64 (N : Int), .int .i64 (R : Int)] wr _ from kC).mono ?_
            rintro e w9 ⟨rfl, hb9⟩
            go_wp2_with fail
            go_ret
            exact ⟨by simp, HB9.out.trans ((HBr.out.trans (hb9.mono HBr.out.size)).mono HB9.out.size)⟩
  · have h40' : 40 < (n : Int) := by omega
    go_wp2_with fail
    go_ret
    exact ⟨rfl, HB1.out⟩
end Go.Proofs.YtjpmigagoedbcaaDoor.Pm
