/-
Layer 15: CsrBack over what package csr's calls answer.
-/
import Derived.Test.YthaockngbagdhaaDoorCsK
namespace Go.Proofs.YthaockngbagdhaaDoor.Cs
open Go Go.RowKit
open Go.Proofs.YthaockngbagdhaaDoor.Pm (En Sl SlC SlE enV en0 TabT wp_fresh)

theorem tr_768 (s : St) (p c v : Nat) : (trapC s p c v).r 768 = s.r 768 / 8 % 2 * 128 + s.mode * 2048 := by
  show trR s p c v 768 = _
  unfold trR
  exact upd_same _ _ _
theorem tr_772 (s : St) (p c v : Nat) : (trapC s p c v).r 772 = s.r 772 := by
  show trR s p c v 772 = _
  unfold trR
  rw [upd_other _ _ (by decide), upd_other _ _ (by decide), upd_other _ _ (by decide), upd_other _ _ (by decide)]
theorem tr_836 (s : St) (p c v : Nat) : (trapC s p c v).r 836 = s.r 836 := by
  show trR s p c v 836 = _
  unfold trR
  rw [upd_other _ _ (by decide), upd_other _ _ (by decide), upd_other _ _ (by decide), upd_other _ _ (by decide)]
theorem tr_833 (s : St) (p c v : Nat) : (trapC s p c v).r 833 = p - p % 4 := by
  show trR s p c v 833 = _
  unfold trR
  rw [upd_other _ _ (by decide), upd_other _ _ (by decide), upd_other _ _ (by decide), upd_same]
theorem tr_834 (s : St) (p c v : Nat) : (trapC s p c v).r 834 = c := by
  show trR s p c v 834 = _
  unfold trR
  rw [upd_other _ _ (by decide), upd_other _ _ (by decide), upd_same]
theorem tr_835 (s : St) (p c v : Nat) : (trapC s p c v).r 835 = v := by
  show trR s p c v 835 = _
  unfold trR
  rw [upd_other _ _ (by decide), upd_same]
theorem tr_due (s : St) (p c v : Nat) : dueC (trapC s p c v) = false := by
  unfold dueC
  rw [tr_768, show (trapC s p c v).mode = 3 from rfl]
  have h1 : decide ((s.r 768 / 8 % 2 * 128 + s.mode * 2048) / 8 % 2 = 1) = false := decide_eq_false (by omega)
  rw [h1, show decide (3 = 0) = false from rfl]
  simp
theorem bk_mode (s : St) (h : s.Ok) (p c v : Nat) : (backC (trapC s p c v)).mode = s.mode := by
  show (trapC s p c v).r 768 / 2048 % 4 = s.mode
  rw [tr_768]
  have := h.mode
  omega
theorem bk_768 (s : St) (h : s.Ok) (p c v : Nat) : (backC (trapC s p c v)).r 768 = s.r 768 / 8 % 2 * 8 + 128 := by
  show upd (trapC s p c v).r 768 ((trapC s p c v).r 768 / 128 % 2 * 8 + 128) 768 = _
  rw [upd_same, tr_768]
  have := h.mode
  omega
theorem bk_due (s : St) (h : s.Ok) (p c v : Nat) : dueC (backC (trapC s p c v)) = dueC s := by
  unfold dueC
  rw [bk_mode s h, bk_768 s h]
  have e1 : (backC (trapC s p c v)).r 772 = s.r 772 := by
    show upd (trapC s p c v).r 768 ((trapC s p c v).r 768 / 128 % 2 * 8 + 128) 772 = _
    rw [upd_other _ _ (by decide)]
    exact tr_772 s p c v
  have e2 : (backC (trapC s p c v)).r 836 = s.r 836 := by
    show upd (trapC s p c v).r 768 ((trapC s p c v).r 768 / 128 % 2 * 8 + 128) 836 = _
    rw [upd_other _ _ (by decide)]
    exact tr_836 s p c v
  rw [e1, e2]
  congr 2
  rw [show (s.r 768 / 8 % 2 * 8 + 128) / 8 % 2 = s.r 768 / 8 % 2 by omega]
theorem read_in (s : St) (n : Nat) (h : n = 768 ∨ n = 773 ∨ n = 834 ∨ n = 835) : readC s n = some (s.r n) := by
  unfold readC
  rw [if_neg (by omega), if_neg (by omega), if_neg (by omega), if_neg (by omega), if_neg (by omega), if_neg (by omega), if_neg (by omega)]
  exact rM_in s n (by rcases h with rfl | rfl | rfl | rfl <;> rfl)
theorem and8 (x : Nat) : x &&& 8 = x / 8 % 2 * 8 := by
  apply Nat.eq_of_testBit_eq
  intro i
  rw [Nat.testBit_and, show (8 : Nat) = 2 ^ 3 by rfl, Nat.testBit_two_pow, Nat.testBit_mul_two_pow]
  by_cases h : 3 = i
  · subst h
    rw [Nat.testBit_eq_decide_div_mod_eq]
    simp
  · rw [decide_eq_false h, Bool.and_false]
    by_cases h3 : 3 ≤ i
    · rw [decide_eq_true h3, Bool.true_and, Nat.testBit_eq_decide_div_mod_eq]
      have h4 : x / 2 ^ 3 % 2 / 2 ^ (i - 3) = 0 := Nat.div_eq_of_lt (by
        have h5 : 2 ^ 1 ≤ 2 ^ (i - 3) := Nat.pow_le_pow_right (by decide) (by omega)
        omega)
      rw [h4]
      rfl
    · rw [decide_eq_false h3]
      rfl
theorem b8 (x : Nat) (h : x < 4294967296) : bits .and .u32 (x : Int) 8 = ((x / 8 % 2 * 8 : Nat) : Int) := by
  rw [show (8 : Int) = ((8 : Nat) : Int) by rfl, u32_and_nat _ _ h (by decide), and8]
theorem bm (b : Nat) (h : b < 2) : bits .and .u32 ((b * 8 + 128 : Nat) : Int) 6144 = 0 := by
  rw [show (6144 : Int) = ((6144 : Nat) : Int) by rfl, u32_and_nat _ _ (by omega) (by decide)]
  rcases (show b = 0 ∨ b = 1 by omega) with rfl | rfl <;> decide
theorem at_k (b j : Nat) (hj : (j : Int) < 2) (w : World) : (Instr.indexAt 24 (.pointer (some ⟨b, 0, none⟩)) (.int .i64 (j : Int))).run Tryd.prog w = .ok (.pointer (some ⟨b, j, none⟩)) w := by
  have h2 := Addr.add_mid b 0 j
  rw [Nat.zero_add] at h2
  go_simp
set_option maxRecDepth 100000 in
set_option maxHeartbeats 8000000 in
theorem back15_ok {Is : World → Nat → St → Prop} (O : CsrOK Is) (q : Sl) (cs : List Ca) (T : Nat → Sl) (pc a0 a1 : Nat) (w : World) (hT : TabT w) (hS : SlCa w q cs T) (hpc : pc < 4294967296) (ha0 : a0 < 4294967296) (ha1 : a1 < 4294967296) :
    Calls Tryd.prog 3 #[q.v, .int .u32 (pc : Int), .agg #[.int .u32 (a0 : Int), .int .u32 (a1 : Int)]] w fun e w' => e = .returned (.bool true) ∧ Below w.heap.size w w' := by
  obtain ⟨u, hu, hK, hb0, hz0⟩ := one_new w #[.int .u32 (a0 : Int), .int .u32 (a1 : Int)] 24
  replace hu := hu.symm
  obtain ⟨bk, hbk⟩ : ∃ b, b = w.heap.size := ⟨_, rfl⟩
  have hF := fit15_ok O u (hT.below hb0)
  have hL := light_any q cs T
  have hS0 := hS.below hb0
  have HT := Lib.hid hT
  have HS := Lib.hid hS
  rw [← hbk] at hK
  have HK := Lib.hid hK
  have HB0 := Lib.hid hb0
  have HS0 := Lib.hid hS0
  have HZ0 := Lib.hid hz0
  have hnl : (q.n : Int) ≤ 140737488355328 := by have := hS.2.1.1.2; omega
  obtain ⟨A, n, c⟩ := q
  dsimp only at hnl
  have hzr := zeroCa
  unfold Sl.v at hL ⊢
  dsimp only at hL ⊢
  clear hT hS hK hb0 hS0 hz0
  go_enter Tryd.func3, Tryd.ntmps3
  go_upto_region 1 with fail
  first | rw [hu] | skip
  first | rw [← hbk] | skip
  clear hu hbk
  go_upto_region 3 with (go_at_call 5; refine hF.mono ?_; rintro e w1 ⟨rfl, hb1⟩)
  have hS1 := HS0.out.below hb1
  have hB1 : Below w.heap.size w w1 := HB0.out.trans (hb1.mono HB0.out.size)
  have hK1 := HK.out.after hb1
  have hL1 := hL w1 hS1
  have HS1 := Lib.hid hS1
  have HB1 := Lib.hid hB1
  have HK1 := Lib.hid hK1
  clear hF hb1 hS1 hB1 hK1 hL
  by_cases hli : liB cs n = true
  case neg =>
    rw [Bool.eq_false_iff.2 hli] at hL1
    clear hli
    go_wp2_with (go_at_call 6; refine hL1.mono ?_; rintro e w2 ⟨rfl, hb2⟩)
    go_ret
    exact ⟨rfl, HB1.out.trans (hb2.mono HB1.out.size)⟩
  case pos =>
  rw [hli] at hL1
  clear hli
  go_upto_region 5 with (go_at_call 6; refine hL1.mono ?_; rintro e w2 ⟨rfl, hb2⟩)
  have hS2 := HS1.out.below hb2
  have hB2 : Below w.heap.size w w2 := HB1.out.trans (hb2.mono HB1.out.size)
  have hK2 := HK1.out.after hb2
  have hN := O.new w2
  have hzz := hb2.size
  have HS2 := Lib.hid hS2
  have HB2 := Lib.hid hB2
  have HK2 := Lib.hid hK2
  clear hb2 hS2 hB2 hK2 hL1
  go_upto_region 6 with (first
    | (go_at_call 7; refine hN.mono ?_; rintro e w3 ⟨⟨g, rfl, hI3, hg3⟩, hb3⟩)
    | (go_at_call 8; refine (rnew_any _).mono ?_; rintro e w4 ⟨⟨h, mb, rfl, hR4, hh4, hm4⟩, hb4⟩))
  have hI4 := O.below hI3 hb4
  have hgl := O.lt hI3
  have hgh : g ≠ h := by omega
  have hgm : g ≠ mb := by omega
  have hb5 : Below w2.heap.size w2 w4 := hb3.trans (hb4.mono hb3.size)
  have hS4 := HS2.out.below hb5
  have hB4 : Below w.heap.size w w4 := HB2.out.trans (hb5.mono HB2.out.size)
  have hK4 := HK2.out.after hb5
  have hBs := HB2.out.size
  have h3s := hb3.size
  have hkl := HK2.out.lt
  have hbg : bk ≠ g := by omega
  have hbh : bk ≠ h := by omega
  have hbm : bk ≠ mb := by omega
  have hge : ∀ i, S3 g h mb i → w2.heap.size ≤ i := by
    rintro i (e | e | e) <;> omega
  have HG := Lib.hid (And.intro hgh (And.intro hgm (And.intro hbg (And.intro hbh hbm))))
  have HGE := Lib.hid hge
  have hB2s := HB2.out.size
  have hl2 := HS2.out
  have HS4 := Lib.hid hS4
  have HB4 := Lib.hid hB4
  have HK4 := Lib.hid hK4
  have hB4s := Lib.hid (show w2.heap.size ≤ w4.heap.size from hb5.size)
  have HW24 := Lib.hid hb5
  have HHB := Lib.hid (show w.heap.size ≤ w2.heap.size from hBs)
  clear hN hb3 hb4 hI3 hb5 hS4 hB4 hK4 hgh hgm hbg hbh hbm hge hgl hg3 hh4 hm4 h3s hl2
  go_wp2_with fail
  go_loopw [34] (fun ct wr => ∃ i : Nat, i ≤ n ∧ ct = .int .i64 (i : Int) ∧ (∃ s, Is wr g s ∧ Ref wr h mb s) ∧ Only (S3 g h mb) w4 wr) (fun ct _ => (n - (intOf ct)).toNat)
  case atStart => exact ⟨0, Nat.zero_le _, rfl, ⟨st0, hI4, hR4⟩, Only.refl _ _⟩
  case round =>
    obtain ⟨i, hi, rfl, ⟨s, hIr, hRr⟩, hOr⟩ := hrel
    by_cases hlt : i < n
    · have di : (i : Int) < (n : Int) := by omega
      have hbr : Below w2.heap.size w4 wr := hOr.below HGE.out hB4s.out
      have hSr := HS2.out.below (HW24.out.trans hbr)
      obtain ⟨b, o, hA, hbl, _⟩ := hSr.2.1.2 (show 0 < n by omega)
      dsimp only at hA
      subst hA
      have hat := fun W => at_ca b o n c i di W
      have hrg := hSr.2.1.range rfl hlt
      have hone := fun j => caV_one (cs.getD i ca0) (T i) j
      have hE := (hSr.2.2 i hlt).1
      have hW := (hSr.2.2 i hlt).2
      have hk0 : caV (cs.getD i ca0) (T i) 0 = .int .i64 (cs.getD i ca0).k := rfl
      have hneT : ∀ b o, (T i).A = some ⟨b, o, none⟩ → 0 < (T i).n → ¬ S3 g h mb b := by
        intro b' o' e h0 hs
        have h2 := HGE.out b' hs
        obtain ⟨b2, o2, e2, hlt2, _⟩ := (HS2.out.2.2 i hlt).1.2.1.2 h0
        rw [e] at e2
        injection e2 with e2
        injection e2 with e2 _
        omega
      have HE := Lib.hid hE
      have HW := Lib.hid hW
      have HNE := Lib.hid hneT
      have HIr := Lib.hid hIr
      have HRr := Lib.hid hRr
      have HOr := Lib.hid hOr
      generalize hp : cs.getD i ca0 = p at *
      generalize ht : T i = tt at *
      generalize hf : caV p tt = f at *
      clear hSr hE hW hneT hIr hRr hOr hbl hbr
      go_upto_region 8 with fail
      go_upto_region 9 with (first
        | (refine wp_load_ca rfl _ rfl b (o + i * 5) rfl f hrg ?_)
        | (refine wp_fresh 33 5 f _ _ _ rfl rfl rfl rfl hzr infoCa5 (by decide) hone rfl rfl ?_
           intro w5 hH5 hb5 hlt5
           go_frame))
      have hc0 : w5.cell? ⟨wr.heap.size, 0, none⟩ = some (.int .i64 p.k) := by
        have := hH5.cellTab 0 (by decide)
        rw [hk0] at this
        exact this
      have hI5 := O.below HIr.out hb5
      have hR5 := HRr.out.after hb5
      have hE5 := HE.out.below hb5
      have hO5 : Only (S3 g h mb) w4 w5 := HOr.out.trans (Only.of_below hb5)
      have HO5 := Lib.hid hO5
      clear hb5 hO5
      generalize wr.heap.size = bx at *
      by_cases hk : p.k = 3
      · have hk3 : (p.k != 3) = false := by rw [hk]; rfl
        clear hk
        go_wp2_with fail
        go_roundw
        case rel => exact ⟨i + 1, hlt, by go_num, ⟨s, hI5, hR5⟩, HO5.out⟩
        case measure => simp [intOf] <;> omega
      · have hk3 : (p.k != 3) = true := by simp [hk]
        have hpl := play_any O p tt g h mb s w5 hI5 hR5 hE5 HW.out hk HG.out.1 HG.out.2.1 HNE.out
        rw [hf] at hpl
        unfold PlayO at hpl
        clear hk
        go_wp2_with (first
          | (refine wpList_load_has 33 _ rfl _ rfl rfl 33 _ hH5 _ Tryd.underlying33 rfl (by rw [tab_size]; exact infoCa5) ?_)
          | (go_at_call 9; refine hpl.mono ?_; rintro e w6 ⟨rfl, ⟨s6, hI6, hR6⟩, hO6⟩))
        go_roundw
        case rel => exact ⟨i + 1, hlt, by go_num, ⟨s6, hI6, hR6⟩, HO5.out.trans hO6⟩
        case measure => simp [intOf] <;> omega
    · obtain rfl : i = n := by omega
      have hok := O.ok hIr
      have hm := (O.mode hIr).1
      have hst := hok.st
      have hrr := hok.r
      have hKr := hOr.has HK4.out (fun e => e.elim HG.out.2.2.1 fun e => e.elim HG.out.2.2.2.1 HG.out.2.2.2.2)
      have hbr : Below w.heap.size w wr := HB4.out.trans ((hOr.below HGE.out hB4s.out).mono HHB.out)
      have r1 := O.read wr g s 768 hIr (by decide)
      rw [read_in s 768 (Or.inl rfl)] at r1
      dsimp only [Option.getD_some, Option.isSome_some] at r1
      have HOK := Lib.hid hok
      have HI0 := Lib.hid hIr
      have HKr := Lib.hid hKr
      have HBr := Lib.hid hbr
      clear hok hIr hRr hOr hKr hbr
      have hmv : (s.mode : Int) ≤ 3 := by have := HOK.out.mode; omega
      go_upto_region 14 with (go_at_call 10; refine r1.mono ?_; rintro e x1 ⟨rfl, hx1⟩)
      have hI1 := O.below HI0.out hx1
      have r2 := O.due x1 g s hI1
      have HX1 := Lib.hid hx1
      have HI1 := Lib.hid hI1
      clear r1 hx1 hI1 hm
      go_upto_region 15 with (go_at_call 11; refine r2.mono ?_; rintro e x2 ⟨rfl, hx2⟩)
      have hI2 := O.below HI1.out hx2
      have r3 := O.read x2 g s 773 hI2 (by decide)
      rw [read_in s 773 (Or.inr (Or.inl rfl))] at r3
      dsimp only [Option.getD_some, Option.isSome_some] at r3
      have HX2 := Lib.hid (below_trans HX1.out hx2)
      have HI2 := Lib.hid hI2
      clear r2 hx2 hI2
      go_upto_region 16 with (go_at_call 10; refine r3.mono ?_; rintro e x3 ⟨rfl, hx3⟩)
      have hI3 := O.below HI2.out hx3
      have hx3w := below_trans HX2.out hx3
      have hK3 := HKr.out.after hx3w
      have k0 : x3.cell? ⟨bk, 0, none⟩ = some (.int .u32 (a0 : Int)) := hK3.cell 0
      have k1 : x3.cell? ⟨bk, 1, none⟩ = some (.int .u32 (a1 : Int)) := hK3.cell 1
      have r4 := O.trap x3 g s pc a0 a1 hI3 hpc ha0 ha1
      have HX3 := Lib.hid hx3w
      have HK3 := Lib.hid hK3
      clear r3 hx3 hI3 hx3w hK3
      go_upto_region 17 with (go_at_call 12; refine r4.mono ?_; rintro e x4 ⟨rfl, hI4, hO4⟩)
      clear k0 k1 r4
      have hK4 := hO4.has HK3.out HG.out.2.2.1
      have r5 := O.read x4 g _ 834 hI4 (by decide)
      rw [read_in _ 834 (Or.inr (Or.inr (Or.inl rfl))), tr_834] at r5
      dsimp only [Option.getD_some, Option.isSome_some] at r5
      have HO4 := Lib.hid hO4
      have HI4 := Lib.hid hI4
      have HK4' := Lib.hid hK4
      clear hO4 hI4 hK4
      go_upto_region 18 with (go_at_call 10; refine r5.mono ?_; rintro e x5 ⟨rfl, hx5⟩)
      have hI5 := O.below HI4.out hx5
      have r6 := O.read x5 g _ 835 hI5 (by decide)
      rw [read_in _ 835 (Or.inr (Or.inr (Or.inr rfl))), tr_835] at r6
      dsimp only [Option.getD_some, Option.isSome_some] at r6
      have HX5 := Lib.hid hx5
      have HI5 := Lib.hid hI5
      clear r5 hx5 hI5
      go_upto_region 19 with (go_at_call 10; refine r6.mono ?_; rintro e x6 ⟨rfl, hx6⟩)
      have hI6 := O.below HI5.out hx6
      have hx46 := below_trans HX5.out hx6
      have hK6 := HK4'.out.after hx46
      have k0 : x6.cell? ⟨bk, 0, none⟩ = some (.int .u32 (a0 : Int)) := hK6.cell 0
      have k1 : x6.cell? ⟨bk, 1, none⟩ = some (.int .u32 (a1 : Int)) := hK6.cell 1
      have m6 : x6.cell? ⟨g, 0, none⟩ = some (.int .i64 3) := (O.mode hI6).1
      have r7 := O.due x6 g _ hI6
      rw [tr_due] at r7
      have HX6 := Lib.hid hx46
      have HI6 := Lib.hid hI6
      clear r6 hx6 hI6 hx46 hK6
      generalize hv773 : s.r 773 = v773 at *
      go_upto_region 21 with (go_at_call 11; refine r7.mono ?_; rintro e x7 ⟨rfl, hx7⟩)
      clear k0 k1 m6 r7
      have hI7 := O.below HI6.out hx7
      have r8 := O.back x7 g _ hI7
      rw [tr_833] at r8
      have HX7 := Lib.hid (below_trans HX6.out hx7)
      clear hx7 hI7
      obtain ⟨qq, hqq⟩ : ∃ y, y = pc % 4 := ⟨_, rfl⟩
      have f1 : (pc : Int).tmod 4 = (qq : Int) := by rw [hqq]; exact tmN pc 4
      have f2 : (pc : Int) % 4 = (qq : Int) := by omega
      obtain ⟨pp, hpp⟩ : ∃ y, y = pc - qq := ⟨_, rfl⟩
      have f3 : (pc : Int) - (qq : Int) = (pp : Int) := by omega
      have f4 : (pp : Int) < 4294967296 := by omega
      have f5 : (qq : Int) < 4 := by omega
      rw [← hqq, ← hpp] at r8
      have HPP := Lib.hid (And.intro hqq hpp)
      clear hqq hpp
      go_upto_region 22 with (go_at_call 13; refine r8.mono ?_; rintro e x8 ⟨rfl, hI8, hO8⟩)
      have r9 := O.read x8 g _ 768 hI8 (by decide)
      rw [read_in _ 768 (Or.inl rfl), bk_768 s HOK.out] at r9
      dsimp only [Option.getD_some, Option.isSome_some] at r9
      obtain ⟨bt, hbt⟩ : ∃ y, y = s.r 768 / 8 % 2 := ⟨_, rfl⟩
      have hbt2 : bt < 2 := by omega
      have g1 := b8 (s.r 768) (hrr 768)
      rw [← hbt] at g1 r9
      obtain ⟨nw, hnw⟩ : ∃ y, y = bt * 8 + 128 := ⟨_, rfl⟩
      have g2 := b8 nw (by omega)
      have g3 := bm bt hbt2
      rw [← hnw] at g3 r9
      rw [show nw / 8 % 2 = bt by omega] at g2
      generalize hz8 : bt * 8 = z8 at *
      have HO8 := Lib.hid hO8
      have HI8 := Lib.hid hI8
      have HBT := Lib.hid (And.intro hbt (And.intro hnw hz8))
      generalize hs768 : s.r 768 = v768 at *
      have HS768 := Lib.hid (And.intro hs768 hv773)
      clear hbt hnw hz8 hs768 hv773 hO8 hI8 r8 hbt2 hst hrr
      go_upto_region 23 with (go_at_call 10; refine r9.mono ?_; rintro e x9 ⟨rfl, hx9⟩)
      have hI9 := O.below HI8.out hx9
      have m9 := (O.mode hI9).1
      rw [bk_mode s HOK.out] at m9
      have r10 := O.due x9 g _ hI9
      rw [bk_due s HOK.out] at r10
      have HX9 := Lib.hid hx9
      generalize hd : dueC s = d at *
      have hdd : (d == d) = true := by cases d <;> rfl
      generalize hmm : s.mode = m0 at *
      have HD := Lib.hid (And.intro hd hmm)
      clear hd hmm hx9 hI9 r9
      go_wp2_with (go_at_call 11; refine r10.mono ?_; rintro e x10 ⟨rfl, hx10⟩)
      go_ret
      have hge : ∀ j, S1 g j → w.heap.size ≤ j := fun j hj => by
        have e : j = g := hj
        have h1 := HGE.out g (Or.inl rfl)
        have h2 := HHB.out
        omega
      have c1 : Below w.heap.size w x3 := HBr.out.trans (HX3.out.mono HBr.out.size)
      have c2 := c1.trans (HO4.out.below hge c1.size)
      have c3 := c2.trans (HX7.out.mono c2.size)
      have c4 := c3.trans (HO8.out.below hge c3.size)
      have c5 := c4.trans (HX9.out.mono c4.size)
      exact ⟨rfl, c5.trans (hx10.mono c5.size)⟩
end Go.Proofs.YthaockngbagdhaaDoor.Cs
