/-
Layer 8, package elf: readHeaders.
-/
import Derived.Test.YtfdoloonllhodaaJElX
import Derived.BigQuiet
namespace Go.Proofs.Ytfdoloonllhodaa
open Go Go.RowKit

theorem infoHE : (Try.prog.info? 74).map (fun i => (i.zero, i.size, i.bytes)) = some (some (.agg (tab 6 (hdE hd0))), 6, 32) := by kernel_rfl
/-- the headers' loop -/
structure HeO (w0 : World) (B L g : Nat) (bs ts : List UInt8) (v : Value) (i : Nat) (w : World) : Prop where
  own : w.ownsRow L 74 6 v i (cellsL 6 hdE (hds bs i))
  cur : CuP B L g ts (32 * i) w
  bel : Below w0.heap.size w0 w
  siz : L ≤ w.heap.size
  good : ∀ j, j < i → hdX bs (hAt bs + 32 * j) = false
theorem hdsB_bad {bs : List UInt8} {i : Nat} (hi : i < hN bs) (h : hdX bs (hAt bs + 32 * i) = true) : hdsB bs = false := by
  cases hb : hdsB bs with
  | false => rfl
  | true =>
    have := List.all_eq_true.1 hb i (List.mem_range.2 hi)
    rw [h] at this; cases this
theorem hdsB_ok {bs : List UInt8} (h : ∀ i, i < hN bs → hdX bs (hAt bs + 32 * i) = false) : hdsB bs = true := by
  refine List.all_eq_true.2 fun i hi => ?_
  rw [h i (List.mem_range.1 hi)]; rfl
def plB (bs : List UInt8) : Bool := decide (1 ≤ hN bs ∧ hN bs ≤ 5 ∧ hAt bs + 32 * hN bs ≤ bs.length)
def HdsR (w : World) (bs : List UInt8) (e : Ending) (w' : World) : Prop :=
  (∃ s b, e = .returned (.tuple #[Sl.v s, .bool b]) ∧ b = (plB bs && hdsB bs) ∧ (b = true → SlH w' s (hds bs (hN bs)))) ∧ Below w.heap.size w w'
theorem hdsR_bad {w w' : World} {bs : List UInt8} (h : (plB bs && hdsB bs) = false) (hb : Below w.heap.size w w') : HdsR w bs (.returned (.tuple #[.slice none 0 0, .bool false])) w' :=
  ⟨⟨⟨none, 0, 0⟩, false, rfl, h.symm, fun h => by cases h⟩, hb⟩
set_option maxRecDepth 100000 in
set_option maxHeartbeats 4000000 in
theorem ehdrs_any (bs : List UInt8) (A : Option Addr) (n c en : Nat) (w : World) (hS : SlA w A n c bs) (hl : bs.length ≤ 100000) :
    Calls Try.prog 39 #[.slice A n c, .agg (tpC en (hAt bs) (hN bs))] w fun e w' => HdsR w bs e w' := by
  have hm16 : hN bs < 65536 := nm2 bs 44
  have hp32 : hAt bs < 4294967296 := nm4 bs 28
  obtain ⟨p, hp⟩ : ∃ x, x = hAt bs := ⟨_, rfl⟩
  obtain ⟨m, hm⟩ : ∃ x, x = hN bs := ⟨_, rfl⟩
  rw [← hp] at hp32
  rw [← hm] at hm16
  rw [← hp, ← hm]
  have HPL : Hid (plB bs = decide (1 ≤ m ∧ m ≤ 5 ∧ p + 32 * m ≤ bs.length)) := Lib.hid (by rw [hp, hm]; rfl)
  have HPM : Hid (p = hAt bs ∧ m = hN bs) := Lib.hid ⟨hp, hm⟩
  have HS := Lib.hid hS
  have hn : bs.length = n := hS.1
  have HN := Lib.hid hn
  clear hp hm hS hn
  have hG : Has (w.alloc (.cells #[.int .u32 (en : Int), .int .u32 (p : Int), .int .i64 (m : Int)] 113)) w.heap.size 113 (tpC en p m) := Has.new _ _ _
  have hb0 : Below w.heap.size w (w.alloc (.cells #[.int .u32 (en : Int), .int .u32 (p : Int), .int .i64 (m : Int)] 113)) := (Below.refl _ _).alloc (Nat.le_refl _) _
  show Calls _ _ #[_, .agg #[.int .u32 (en : Int), .int .u32 (p : Int), .int .i64 (m : Int)]] _ _
  go_enter Try.func39, Try.ntmps39
  go_upto_region 1 with fail
  have hc1 : (w.alloc (.cells #[.int .u32 (en : Int), .int .u32 (p : Int), .int .i64 (m : Int)] 113)).cell? ⟨w.heap.size, 1, none⟩ = some (.int .u32 (p : Int)) := hG.cell 1
  have hc2 : (w.alloc (.cells #[.int .u32 (en : Int), .int .u32 (p : Int), .int .i64 (m : Int)] 113)).cell? ⟨w.heap.size, 2, none⟩ = some (.int .i64 (m : Int)) := hG.cell 2
  generalize w.alloc (.cells #[.int .u32 (en : Int), .int .u32 (p : Int), .int .i64 (m : Int)] 113) = u at *
  obtain ⟨gb, hgb⟩ : ∃ x, x = w.heap.size := ⟨_, rfl⟩
  rw [← hgb] at hG hc1 hc2 ⊢
  clear hgb
  by_cases h1 : m < 1
  · have d1 : (m : Int) < 1 := by omega
    have hbad : Hid ((plB bs && hdsB bs) = false) := Lib.hid (by rw [HPL.out, decide_eq_false (by omega)]; rfl)
    clear h1
    go_wp2_with fail
    go_ret2
    exact hdsR_bad hbad.out hb0
  have d1 : 1 ≤ (m : Int) := by omega
  by_cases h5 : 5 < m
  · have d5 : 5 < (m : Int) := by omega
    have hbad : Hid ((plB bs && hdsB bs) = false) := Lib.hid (by rw [HPL.out, decide_eq_false (by omega)]; rfl)
    clear h1 h5
    go_wp2_with fail
    go_ret2
    exact hdsR_bad hbad.out hb0
  have d5 : (m : Int) ≤ 5 := by omega
  have H15 : Hid (1 ≤ m ∧ m ≤ 5) := Lib.hid (by omega)
  have hmul : (32 * m) < 4294967296 := by omega
  have kP := epart_any bs A n c p (32 * m) u (HS.out.below hb0) hl hp32 hmul
  rw [show ((32 * m : Nat) : Int) = 32 * (m : Int) by omega] at kP
  clear h1 h5
  by_cases hin : ¬ p + 32 * m ≤ bs.length
  · have hbad : Hid ((plB bs && hdsB bs) = false) := Lib.hid (by rw [HPL.out, decide_eq_false (by omega)]; rfl)
    rw [decide_eq_false hin] at kP
    clear hin
    go_wp2_with (refine kP.mono ?_; rintro e u0 ⟨⟨A', m', k', rfl, _⟩, rfl⟩)
    go_ret2
    exact hdsR_bad hbad.out hb0
  replace hin : p + 32 * m ≤ bs.length := by omega
  rw [decide_eq_true hin] at kP
  have HIN := Lib.hid hin
  go_wp2_with (refine kP.mono ?_; rintro e u0 ⟨⟨A', m', k', rfl, hP⟩, rfl⟩; obtain ⟨hSl, hA', rfl, rfl⟩ := hP hin)
  have htl : ((bs.drop p).take (32 * m)).length = 32 * m := by rw [List.length_take, List.length_drop]; omega
  have hpt := fun i (h : i < m) => hdG_part (bs := bs) (a := p) (m := 32 * m) (q := 32 * i) hin (by omega)
  have HPT := Lib.hid hpt
  clear hpt hin kP hP
  generalize (bs.drop p).take (32 * m) = ts at *
  refine (cu_at (bs := ts) A' (32 * m) (32 * m) hSl hA' (by omega)).mono ?_
  rintro e u1 ⟨⟨g, rfl, hC⟩, hb1⟩
  have hG1 := hG.after hb1
  have hc1 : u1.cell? ⟨gb, 1, none⟩ = some (.int .u32 (p : Int)) := hG1.cell 1
  have hc2 : u1.cell? ⟨gb, 2, none⟩ = some (.int .i64 (m : Int)) := hG1.cell 2
  have hb01 := below_trans hb0 (hb1.mono (Nat.le_refl _))
  have hBw : w.heap.size ≤ u.heap.size := hb0.size
  obtain ⟨B, hB⟩ : ∃ x, x = u.heap.size := ⟨_, rfl⟩
  obtain ⟨L, hL⟩ : ∃ x, x = u1.heap.size := ⟨_, rfl⟩
  have hO : HeO w B L g bs ts (.slice none 0 0) 0 u1 := ⟨World.ownsRow_nil _ _ _ _, by rw [hB, hL]; exact hC, hb01, by omega, fun j h => absurd h (Nat.not_lt_zero _)⟩
  rw [← hB] at hBw
  have hwg : w.heap.size ≤ g := by have := hO.cur.gB; omega
  have hwL : w.heap.size ≤ L := by have := hO.cur.gB; omega
  clear hb0 hG1 hG hb1 hb01 hC hSl hA' hL hB
  have HO := Lib.hid hO
  clear hO
  go_wp2_with fail
  go_loopw [9, 39] (fun va ct wr => ∃ i : Nat, i ≤ m ∧ ct = .int .i64 (i : Int) ∧ HeO w B L g bs ts va i wr) (fun _ ct _ => (m - (intOf ct)).toNat)
  case atStart => exact ⟨0, Nat.zero_le _, rfl, HO.out⟩
  case round =>
    obtain ⟨i, hi, rfl, hH⟩ := hrel
    clear HO hc1 hc2
    by_cases hlt : i < m
    · have di : (i : Int) < (m : Int) := by omega
      obtain ⟨hg1, hg2⟩ := HPT.out i hlt
      have kH := ehead_any hH.cur hH.siz
      obtain ⟨gd, hgd⟩ : ∃ x, x = hdG ts (32 * i) := ⟨_, rfl⟩
      obtain ⟨hd, hhd⟩ : ∃ x, x = hdS ts (32 * i) := ⟨_, rfl⟩
      rw [← hgd, ← hhd] at kH
      have HGD : Hid (gd = hdG bs (p + 32 * i) ∧ (gd = true → hd = hdA bs (p + 32 * i))) := Lib.hid ⟨by rw [hgd, hg1], fun h => by rw [hhd]; unfold hdS; rw [← hgd, if_pos h, hg2]⟩
      have HH := Lib.hid hH
      clear hg1 hg2 hgd hhd hH
      cases gd with
      | false =>
        have hbad : Hid ((plB bs && hdsB bs) = false) := Lib.hid (by rw [hdsB_bad (i := i) (by rw [← HPM.out.2]; exact hlt) (by rw [hdX_eq, ← HPM.out.1, ← HGD.out.1]; rfl), Bool.and_false])
        go_wp2_with (first
          | (refine kH.mono ?_
             rintro e w1 ⟨rfl, hC1, hg1⟩
             have hb1 := below_only HH.out.bel hg1 hwg HH.out.bel.size)
          | (refine wp_fresh 74 6 _ _ _ _ rfl rfl rfl rfl zeroHE infoHE6 (by omega) (hdE_one _) rfl rfl ?_
             intro w2 hG hb2 hz2))
        go_ret2
        exact hdsR_bad hbad.out (hb1.trans (hb2.mono hb1.size))
      | true =>
        have hhd := HGD.out.2 rfl
        have hwf : hd.Wf := by rw [hhd]; exact hdA_wf _ _
        have HX : Hid (hdX bs (p + 32 * i) = !decide (hd.a + hd.f ≤ bs.length)) := Lib.hid (by rw [hdX_eq, ← HGD.out.1, hhd]; rfl)
        have HHD := Lib.hid hhd
        have kP2 := fun w' (hb : Below w.heap.size w w') => epart_any bs A n c hd.a hd.f w' (HS.out.below hb) hl hwf.a hwf.f
        clear hhd hwf
        by_cases hin : ¬ hd.a + hd.f ≤ bs.length
        · have hbad : Hid ((plB bs && hdsB bs) = false) := Lib.hid (by rw [hdsB_bad (i := i) (by rw [← HPM.out.2]; exact hlt) (by rw [← HPM.out.1, HX.out, decide_eq_false hin]; rfl), Bool.and_false])
          have hf := decide_eq_false hin
          simp only [hf] at kP2
          clear hin hf
          go_wp2_with (first
            | (refine kH.mono ?_
               rintro e w1 ⟨rfl, hC1, hg1⟩
               have hb1 := below_only HH.out.bel hg1 hwg HH.out.bel.size)
            | (refine wp_fresh 74 6 _ _ _ _ rfl rfl rfl rfl zeroHE infoHE6 (by omega) (hdE_one _) rfl rfl ?_
               intro w2 hG hb2 hz2
               have hc1 : w2.cell? ⟨_, 1, none⟩ = some (.int .u32 (hd.a : Int)) := hG.cellTab 1 (by omega)
               have hc3 : w2.cell? ⟨_, 3, none⟩ = some (.int .u32 (hd.f : Int)) := hG.cellTab 3 (by omega)
               have hb12 := hb1.trans (hb2.mono hb1.size)
               have kP := kP2 w2 hb12)
            | (refine kP.mono ?_
               rintro e u9 ⟨⟨A9, m9, k9, rfl, _⟩, rfl⟩))
          go_ret2
          exact hdsR_bad hbad.out hb12
        · replace hin : hd.a + hd.f ≤ bs.length := by omega
          have hf := decide_eq_true hin
          have HX2 : Hid (hdX bs (p + 32 * i) = false) := Lib.hid (by rw [HX.out, hf]; rfl)
          simp only [hf] at kP2
          clear hin hf HX
          obtain ⟨Av, cv, rfl⟩ := own_form HH.out.own
          have hm5 : i + 1 ≤ 5 := by have := H15.out.2; omega
          go_wp2_with (first
            | (refine kH.mono ?_
               rintro e w1 ⟨rfl, hC1, hg1⟩
               have hb1 := below_only HH.out.bel hg1 hwg HH.out.bel.size
               have hown1 := own_ne HH.out.own (fun l e => by have h3 := (own_blk HH.out.own e).1; have h4 := hC1.gB.2; omega) hg1
               have hL1 := Nat.le_trans HH.out.siz hg1.size)
            | (refine wp_fresh 74 6 _ _ _ _ rfl rfl rfl rfl zeroHE infoHE6 (by omega) (hdE_one _) rfl rfl ?_
               intro w2 hG hb2 hz2
               have hc1 : w2.cell? ⟨_, 1, none⟩ = some (.int .u32 (hd.a : Int)) := hG.cellTab 1 (by omega)
               have hc3 : w2.cell? ⟨_, 3, none⟩ = some (.int .u32 (hd.f : Int)) := hG.cellTab 3 (by omega)
               have hb12 := hb1.trans (hb2.mono hb1.size)
               have hown2 := own_after hown1 hb2
               have hC2 := hC1.after hb2
               have hL2 := Nat.le_trans hL1 hb2.size
               have kP := kP2 w2 hb12)
            | (refine kP.mono ?_
               rintro e u9 ⟨⟨A9, m9, k9, rfl, _⟩, rfl⟩)
            | (refine wpList_load_has 74 _ rfl _ rfl rfl 74 _ hG _ Try.underlying74 rfl (by rw [tab_size]; exact infoHE6) ?_)
            | (refine wp_build_el Try.underlying67 infoHE (by decide) (by decide) rfl _ rfl hd rfl ?_
               intro w6 hw6
               have hb6 : Below w2.heap.size w2 w6 := by subst hw6; exact (Below.refl _ _).alloc (Nat.le_refl _) _
               have hH6 : Has w6 w2.heap.size 74 (tab 6 (hdE hd)) := by subst hw6; exact Has.new _ _ _
               have hown6 := own_after hown2 hb6
               have hC6 := hC2.after hb6
               have hL6 := Nat.le_trans hL2 hb6.size
               have hb16 := hb12.trans (hb6.mono hb12.size)
               clear hw6)
            | (refine wp_append_el Try.underlying67 infoHE rfl (by decide) (by decide) hdE_one rfl _ _ rfl L _ i (hds bs i) rfl hown6 w2.heap.size rfl hd hH6 (by omega) hL6 ?_
               intro v7 w7 hown7 hgr7))
          go_roundw
          case rel =>
            refine ⟨i + 1, hlt, by go_num, ⟨?_, ?_, below_own hb16 hown6 hwL hb16.size hgr7, Nat.le_trans hL6 hgr7.size, fun j hj => ?_⟩⟩
            · rw [hds_succ, ← HPM.out.1, ← HHD.out]
              exact hown7
            · rw [show 32 * (i + 1) = 32 * i + 32 by omega]
              exact hC6.beside hgr7 fun l e => (own_blk hown6 e).1
            · by_cases hji : j = i
              · subst hji; rw [← HPM.out.1]; exact HX2.out
              · exact HH.out.good j (by omega)
          case measure => simp [intOf] <;> omega
    · obtain rfl : i = m := by omega
      obtain ⟨Av, cv, rfl⟩ := own_form hH.own
      go_wp2_with fail
      go_ret2
      have hpl : plB bs = true := by rw [HPL.out]; exact decide_eq_true ⟨H15.out.1, H15.out.2, HIN.out⟩
      have hds : hdsB bs = true := hdsB_ok fun j hj => hH.good j (by rw [HPM.out.2]; exact hj)
      refine ⟨⟨⟨Av, _, cv⟩, true, rfl, by rw [hpl, hds]; rfl, fun _ => ?_⟩, hH.bel⟩
      rw [← HPM.out.2]
      exact own_slC hH.own (by decide) (by have := H15.out.2; omega) hd0
end Go.Proofs.Ytfdoloonllhodaa
