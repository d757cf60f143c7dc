/-
Layer 8, the reference: Heads, the walk.
-/
import Derived.Test.YtfdoloonllhodaaJaE
namespace Go.Proofs.Ytfdoloonllhodaa
open Go Go.RowKit

def intsV (f : Nat → Nat) (j : Nat) : Value := .int .i64 (f j : Int)
theorem want_cells : (#[.int .i64 3, .int .i64 243, .int .i64 1] : Array Value) = tab 3 (intsV wnN) := by kernel_rfl
theorem size_cells : (#[.int .i64 2, .int .i64 2, .int .i64 4] : Array Value) = tab 3 (intsV szN) := by kernel_rfl
/-- the header's eight numbers, as far as they are read -/
def x8 (bs : List UInt8) (p k j : Nat) : Nat := if j < k then nm bs 4 (p + 4 * j) else 0
theorem x8_cells (bs : List UInt8) (p : Nat) : (#[.int .i64 0, .int .i64 0, .int .i64 0, .int .i64 0, .int .i64 0, .int .i64 0, .int .i64 0, .int .i64 0] : Array Value) = tab 8 (intsV (x8 bs p 0)) := by kernel_rfl
theorem x8_set (bs : List UInt8) (p k : Nat) : (tab 8 (intsV (x8 bs p k))).setIfInBounds k (.int .i64 ((nm bs 4 (p + 4 * k) : Nat) : Int)) = tab 8 (intsV (x8 bs p (k + 1))) := by
  rw [tab_set]
  refine tab_ext _ _ _ fun j hj => ?_
  unfold intsV x8
  by_cases h : j = k
  · subst h; rw [if_pos rfl, if_pos (by omega)]
  · rw [if_neg h]
    by_cases h2 : j < k
    · rw [if_pos h2, if_pos (by omega)]
    · rw [if_neg h2, if_neg (by omega)]
/-- the headers' loop: what was read, the row of headers -/
structure HsO (w0 : World) (bs : List UInt8) (v : Value) (i : Nat) (w : World) : Prop where
  own : w.ownsRow w0.heap.size 50 6 v i (cellsL 6 hdR (hds bs i))
  bel : Below w0.heap.size w0 w
  good : ∀ j, j < i → hdX bs (hAt bs + 32 * j) = false
theorem HsO.after {w0 w w' : World} {bs : List UInt8} {v : Value} {i : Nat} (h : HsO w0 bs v i w) (k : Below w.heap.size w w') : HsO w0 bs v i w' := ⟨own_after h.own k, h.bel.trans (k.mono h.bel.size), h.good⟩
theorem HsO.other {w0 w w' : World} {bs : List UInt8} {v : Value} {i g : Nat} {t : TypeId} {cs : Array Value} (h : HsO w0 bs v i w) (hG : Has w g t cs) (ht : t ≠ 50) (hg : w0.heap.size ≤ g) (k : w.grownBy w' (some g)) : HsO w0 bs v i w' :=
  ⟨own_other h.own hG ht k, below_only h.bel k hg h.bel.size, h.good⟩
theorem HsO.cur {w0 w1 w w' : World} {bs bs' : List UInt8} {v : Value} {i gc q n c : Nat} {A : Option Addr} (h : HsO w0 bs v i w) (hD : DcA w1 bs' A n c gc q w) (hg : w0.heap.size ≤ gc) (k : w.grownBy w' (some gc)) : HsO w0 bs v i w' := by
  obtain ⟨cs, h1⟩ := hD.curE
  exact h.other h1 (by decide) hg k
theorem HsO.slJ {w0 w : World} {bs : List UInt8} {A : Option Addr} {n c : Nat} (h : HsO w0 bs (.slice A n c) n w) (hn : n ≤ 5) : SlJ w ⟨A, n, c⟩ (hds bs n) := own_slC h.own (by decide) (by omega) hd0
theorem own_v {w : World} {base size n : Nat} {e : TypeId} {v : Value} {xs : List Value} (h : w.ownsRow base e size v n xs) : ∃ A c, v = .slice A n c := own_form h
theorem heads_bad_ret {bs : List UInt8} (h : headsN bs = (0, [], 8)) {w ww : World} (hb : Below w.heap.size w ww) :
    (∃ s, Ending.returned (.tuple #[.int .i64 0, .slice none 0 0, .int .i64 8]) = .returned (.tuple #[.int .i64 (((headsN bs).1 : Nat) : Int), Sl.v s, .int .i64 (((headsN bs).2.2 : Nat) : Int)]) ∧ SlJ ww s (headsN bs).2.1) ∧ Below w.heap.size w ww := by
  rw [h]; exact ⟨⟨⟨none, 0, 0⟩, rfl, slJ_nil _⟩, hb⟩
set_option maxRecDepth 100000 in
set_option maxHeartbeats 4000000 in
theorem rheads_any (bs : List UInt8) (A : Option Addr) (n c : Nat) (w : World) (hS : SlA w A n c bs) (hA : A = none → c = 0) (hc63 : c < 9223372036854775808) :
    Calls Try.prog 36 #[.slice A n c] w fun e w' => (∃ s, e = .returned (.tuple #[.int .i64 (((headsN bs).1 : Nat) : Int), Sl.v s, .int .i64 (((headsN bs).2.2 : Nat) : Int)]) ∧ SlJ w' s (headsN bs).2.1) ∧ Below w.heap.size w w' := by
  have hl : bs.length = n := hS.1
  go_enter Try.func36, Try.ntmps36
  go_wp2_with fail
  have hD : DcA w bs A n c w.heap.size 0 (w.alloc (.cells #[.slice A n c, .int .i64 0, .bool false] 91)) := DcA.new hS hA hc63 ((Below.refl _ _).alloc (Nat.le_refl _) _) (Nat.zero_le _) (Has.new _ _ _) (Nat.le_refl _)
  generalize (w.alloc (.cells #[.slice A n c, .int .i64 0, .bool false] 91)) = u at *
  obtain ⟨gc, hgc⟩ : ∃ x, x = w.heap.size := ⟨_, rfl⟩
  have hgcB : w.heap.size ≤ gc := by omega
  rw [← hgc] at hD ⊢
  clear hgc
  refine hD.take16.mono ?_
  rintro e u1 ⟨⟨A1, n1, c1, rfl, hS1⟩, hD1, _⟩
  have hcv := str_conv hS1
  rw [show (if 0 + 16 ≤ bs.length then (bs.drop 0).take 16 else []) = mk16 bs from rfl] at hcv
  have hid := strB_id (mk16 bs)
  rw [mk16_id] at hid
  clear hS1 hD
  generalize strB (mk16 bs) = sb at *
  obtain ⟨b0, hb0⟩ : ∃ x, x = decide (bs.take 16 = ident16) := ⟨_, rfl⟩
  rw [← hb0] at hid
  have HB0 := Lib.hid hb0
  clear hb0
  go_wp2_with fail
  have hW : Has ((u1.alloc (.cells #[.int .i64 3, .int .i64 243, .int .i64 1] 3)).alloc (.cells #[.int .i64 2, .int .i64 2, .int .i64 4] 3)) u1.heap.size 3 (tab 3 (intsV wnN)) := (Has.new u1 3 _).alloc _
  have hZ : Has ((u1.alloc (.cells #[.int .i64 3, .int .i64 243, .int .i64 1] 3)).alloc (.cells #[.int .i64 2, .int .i64 2, .int .i64 4] 3)) (u1.heap.size + 1) 3 (tab 3 (intsV szN)) := Has.new' (by simp)
  have hD2 := hD1.after ((Below.refl u1.heap.size u1).alloc (Nat.le_refl _) (.cells #[.int .i64 3, .int .i64 243, .int .i64 1] 3))
  replace hD2 := hD2.after ((Below.refl _ _).alloc (Nat.le_refl _) (.cells #[.int .i64 2, .int .i64 2, .int .i64 4] 3))
  have hlt : gc < u1.heap.size := by obtain ⟨s, h1, _⟩ := hD1; exact h1.cur.lt
  generalize (u1.alloc (.cells #[.int .i64 3, .int .i64 243, .int .i64 1] 3)).alloc (.cells #[.int .i64 2, .int .i64 2, .int .i64 4] 3) = u2 at *
  obtain ⟨gw, hgw⟩ : ∃ x, x = u1.heap.size := ⟨_, rfl⟩
  have hwc : gw ≠ gc := by omega
  have hzc : gw + 1 ≠ gc := by omega
  rw [← hgw] at hW hZ ⊢
  clear hgw hlt hD1 hcv
  rw [Nat.zero_add] at hD2
  have HI : Hid (DcA w bs A n c gc 16 u2 ∧ Has u2 gw 3 (tab 3 (intsV wnN)) ∧ Has u2 (gw + 1) 3 (tab 3 (intsV szN))) := Lib.hid ⟨hD2, hW, hZ⟩
  clear hD2 hW hZ hid
  go_loopw [8, 10] (fun ok ct wr => ∃ i : Nat, i ≤ 3 ∧ ok = .bool (ok3 bs i) ∧ ct = .int .i64 (i : Int) ∧ DcA w bs A n c gc (q3 i) wr ∧ Has wr gw 3 (tab 3 (intsV wnN)) ∧ Has wr (gw + 1) 3 (tab 3 (intsV szN))) (fun _ ct _ => (3 - (intOf ct)).toNat)
  case atStart => exact ⟨0, Nat.zero_le _, by rw [HB0.out]; rfl, rfl, HI.out⟩
  case round =>
    obtain ⟨i, hi, rfl, rfl, hD, hW, hZ⟩ := hrel
    clear HI
    by_cases hlt : i < 3
    · have di : (i : Int) < 3 := by omega
      have hz := hZ.cellTab i hlt
      rw [show intsV szN i = .int .i64 (szN i : Int) from rfl] at hz
      have hok : ok3 bs (i + 1) = (ok3 bs i && decide (nm bs (szN i) (q3 i) = wnN i)) := rfl
      have hs0 : 0 < szN i ∧ szN i ≤ 4 := by unfold szN; split <;> omega
      have k1 := hD.num (szN i) hs0.1 hs0.2
      rw [q3_next hlt] at k1
      obtain ⟨x, hx⟩ : ∃ x, x = nm bs (szN i) (q3 i) := ⟨_, rfl⟩
      rw [← hx] at k1 hok
      clear hx hs0
      generalize szN i = z at *
      generalize ok3 bs i = b at *
      have HW := Lib.hid hW
      have HZ := Lib.hid hZ
      have HOK := Lib.hid hok
      clear hW hZ hok hD
      cases b with
      | false =>
        go_wp2_with (
          refine k1.mono ?_
          rintro e w1 ⟨rfl, hD1, hg1⟩)
        go_roundw
        case rel => exact ⟨i + 1, hlt, by rw [HOK.out]; rfl, by go_num, hD1, has_grown HW.out hg1 (fun l e => by injection e with e; rw [← e]; exact hwc), has_grown HZ.out hg1 (fun l e => by injection e with e; rw [← e]; exact hzc)⟩
        case measure => simp [intOf] <;> omega
      | true =>
        obtain ⟨y, hy⟩ : ∃ y, y = wnN i := ⟨_, rfl⟩
        by_cases hxy : x = y
        · have hxe : ((x : Int) == (y : Int)) = true := by simp [hxy]
          have HXY := Lib.hid hxy
          have HY := Lib.hid hy
          clear hxy hy
          go_wp2_with (
            refine k1.mono ?_
            rintro e w1 ⟨rfl, hD1, hg1⟩
            have hW1 := has_grown HW.out hg1 (fun l e => by injection e with e; rw [← e]; exact hwc)
            have hc1 := hW1.cellTab i hlt
            rw [show intsV wnN i = .int .i64 (wnN i : Int) from rfl, ← HY.out] at hc1
            have HW1 := Lib.hid hW1
            clear hW1)
          go_roundw
          case rel => exact ⟨i + 1, hlt, by rw [HOK.out, ← HY.out, decide_eq_true HXY.out]; rfl, by go_num, hD1, HW1.out, has_grown HZ.out hg1 (fun l e => by injection e with e; rw [← e]; exact hzc)⟩
          case measure => simp [intOf] <;> omega
        · have hxe : ((x : Int) == (y : Int)) = false := by simp; omega
          have HXY := Lib.hid hxy
          have HY := Lib.hid hy
          clear hxy hy
          go_wp2_with (
            refine k1.mono ?_
            rintro e w1 ⟨rfl, hD1, hg1⟩
            have hW1 := has_grown HW.out hg1 (fun l e => by injection e with e; rw [← e]; exact hwc)
            have hc1 := hW1.cellTab i hlt
            rw [show intsV wnN i = .int .i64 (wnN i : Int) from rfl, ← HY.out] at hc1
            have HW1 := Lib.hid hW1
            clear hW1)
          go_roundw
          case rel => exact ⟨i + 1, hlt, by rw [HOK.out, ← HY.out, decide_eq_false HXY.out]; rfl, by go_num, hD1, HW1.out, has_grown HZ.out hg1 (fun l e => by injection e with e; rw [← e]; exact hzc)⟩
          case measure => simp [intOf] <;> omega
    · obtain rfl : i = 3 := by omega
      clear hW hZ hlt hi
      rw [show q3 3 = 24 from rfl] at hD
      go_wp2_with fail
      refine hD.num4.mono ?_
      rintro e v0 ⟨rfl, hE0, _⟩
      change DcA w bs A n c gc 28 v0 at hE0
      clear hD
      obtain ⟨en, hen⟩ : ∃ x, x = nm bs 4 24 := ⟨_, rfl⟩
      rw [← hen]
      have Gen := Lib.hid hen
      clear hen
      go_wp2_with fail
      refine hE0.num4.mono ?_
      rintro e v1 ⟨rfl, hE1, _⟩
      change DcA w bs A n c gc 32 v1 at hE1
      clear hE0
      obtain ⟨p, hp⟩ : ∃ x, x = nm bs 4 28 := ⟨_, rfl⟩
      rw [← hp]
      have Gp := Lib.hid hp
      clear hp
      go_wp2_with fail
      refine hE1.num4.mono ?_
      rintro e v2 ⟨rfl, hE2, _⟩
      change DcA w bs A n c gc 36 v2 at hE2
      clear hE1
      go_wp2_with fail
      refine hE2.num4.mono ?_
      rintro e v3 ⟨rfl, hE3, _⟩
      change DcA w bs A n c gc 40 v3 at hE3
      clear hE2
      obtain ⟨fl, hfl⟩ : ∃ x, x = nm bs 4 36 := ⟨_, rfl⟩
      rw [← hfl]
      have Gfl := Lib.hid hfl
      clear hfl
      go_wp2_with fail
      refine hE3.num2.mono ?_
      rintro e v4 ⟨rfl, hE4, _⟩
      change DcA w bs A n c gc 42 v4 at hE4
      clear hE3
      obtain ⟨sz, hsz⟩ : ∃ x, x = nm bs 2 40 := ⟨_, rfl⟩
      rw [← hsz]
      have Gsz := Lib.hid hsz
      clear hsz
      go_wp2_with fail
      refine hE4.num2.mono ?_
      rintro e v5 ⟨rfl, hE5, _⟩
      change DcA w bs A n c gc 44 v5 at hE5
      clear hE4
      obtain ⟨ea, hea⟩ : ∃ x, x = nm bs 2 42 := ⟨_, rfl⟩
      rw [← hea]
      have Gea := Lib.hid hea
      clear hea
      go_wp2_with fail
      refine hE5.num2.mono ?_
      rintro e v6 ⟨rfl, hE6, _⟩
      change DcA w bs A n c gc 46 v6 at hE6
      clear hE5
      obtain ⟨nh, hnh⟩ : ∃ x, x = nm bs 2 44 := ⟨_, rfl⟩
      rw [← hnh]
      have Gnh := Lib.hid hnh
      clear hnh
      go_wp2_with fail
      refine hE6.take6.mono ?_
      rintro e v7 ⟨⟨A7, n7, c7, rfl, _⟩, hE7, _⟩
      change DcA w bs A n c gc 52 v7 at hE7
      clear hE6
      have hbad := hE7.bad
      have hbel := hE7.bel
      have hp4 := nm4 bs 28
      have hn2 := nm2 bs 44
      rw [← Gp.out] at hp4
      rw [← Gnh.out] at hn2
      have HFB := Lib.hid (fileB_vals rfl rfl Gfl.out.symm Gsz.out.symm Gea.out.symm Gnh.out.symm Gp.out.symm)
      obtain ⟨bad, hbd⟩ : ∃ x, x = decide (bs.length < 52) := ⟨_, rfl⟩
      rw [← hbd] at hbad HFB
      obtain ⟨ok, hok⟩ : ∃ x, x = ok3 bs 3 := ⟨_, rfl⟩
      rw [← hok] at HFB ⊢
      have HEN := Lib.hid Gen.out
      clear hE7 hbd hok Gfl Gsz Gea Gnh Gp Gen
      cases ok with
      | false =>
        go_wp2_with fail
        go_ret3
        exact heads_bad_ret (headsN_bad (HFB.out.1.trans rfl)) hbel
      | true =>
        cases bad with
        | true =>
          go_wp2_with fail
          go_ret3
          exact heads_bad_ret (headsN_bad (HFB.out.1.trans rfl)) hbel
        | false =>
          rcases h19_ways fl sz ea nh p n with ⟨f0, fg⟩ | ⟨f0, f1, fg⟩ | ⟨f0, f1, f2, fg⟩ | ⟨f0, f1, f2, f3, fg⟩ | ⟨f0, f1, f2, f3, f4, fg⟩ | ⟨f0, f1, f2, f3, f4, f5, fg⟩ | ⟨f0, f1, f2, f3, f4, f5, fg⟩
          · have FG := Lib.hid fg
            clear fg
            go_wp2_with fail
            go_ret3
            exact heads_bad_ret (headsN_bad (HFB.out.1.trans (by rw [hl, decide_eq_false FG.out]; rfl))) hbel
          · have FG := Lib.hid fg
            clear fg
            go_wp2_with fail
            go_ret3
            exact heads_bad_ret (headsN_bad (HFB.out.1.trans (by rw [hl, decide_eq_false FG.out]; rfl))) hbel
          · have FG := Lib.hid fg
            clear fg
            go_wp2_with fail
            go_ret3
            exact heads_bad_ret (headsN_bad (HFB.out.1.trans (by rw [hl, decide_eq_false FG.out]; rfl))) hbel
          · have FG := Lib.hid fg
            clear fg
            go_wp2_with fail
            go_ret3
            exact heads_bad_ret (headsN_bad (HFB.out.1.trans (by rw [hl, decide_eq_false FG.out]; rfl))) hbel
          · have FG := Lib.hid fg
            clear fg
            go_wp2_with fail
            go_ret3
            exact heads_bad_ret (headsN_bad (HFB.out.1.trans (by rw [hl, decide_eq_false FG.out]; rfl))) hbel
          · have FG := Lib.hid fg
            clear fg
            go_wp2_with fail
            go_ret3
            exact heads_bad_ret (headsN_bad (HFB.out.1.trans (by rw [hl, decide_eq_false FG.out]; rfl))) hbel
          · have hfile : fileB bs = true := HFB.out.1.trans (by rw [hl, decide_eq_true fg]; rfl)
            have hN1 := HFB.out.2.1
            have hA1 := HFB.out.2.2
            have HF : Hid (fileB bs = true ∧ hN bs = nh ∧ hAt bs = p) := Lib.hid ⟨hfile, hN1, hA1⟩
            clear hfile hN1 hA1 HFB fg
            go_wp2_with fail
            clear f0 f1 f2 hbad
            go_loopw [18, 19] (fun va ct wr => ∃ i : Nat, i ≤ nh ∧ ct = .int .i64 (i : Int) ∧ HsO w bs va i wr) (fun _ ct _ => (nh - (intOf ct)).toNat)
            case atStart => exact ⟨0, Nat.zero_le _, rfl, World.ownsRow_nil _ _ _ _, hbel, fun j h => absurd h (Nat.not_lt_zero _)⟩
            case round =>
              obtain ⟨i, hi, rfl, hH⟩ := hrel
              clear hbel
              by_cases hlt : i < nh
              · have di : (i : Int) < (nh : Int) := by omega
                have HH := Lib.hid hH
                clear hH
                go_wp2_with fail
                have hX : Has ((wr.alloc (.cells #[.int .i64 0, .int .i64 0, .int .i64 0, .int .i64 0, .int .i64 0, .int .i64 0, .int .i64 0, .int .i64 0] 124)).alloc (.cells #[.slice A n c, .int .i64 ((p : Int) + 32 * (i : Int)), .bool false] 91)) wr.heap.size 124 (tab 8 (intsV (x8 bs (p + 32 * i) 0))) := by
                  rw [← x8_cells]
                  exact (Has.new wr 124 _).alloc _
                have hC : Has ((wr.alloc (.cells #[.int .i64 0, .int .i64 0, .int .i64 0, .int .i64 0, .int .i64 0, .int .i64 0, .int .i64 0, .int .i64 0] 124)).alloc (.cells #[.slice A n c, .int .i64 ((p : Int) + 32 * (i : Int)), .bool false] 91)) (wr.heap.size + 1) 91 (curC A n c (p + 32 * i) false) := by
                  rw [show ((p : Int) + 32 * (i : Int)) = ((p + 32 * i : Nat) : Int) by omega]
                  exact Has.new' (by simp)
                have hb2 : Below wr.heap.size wr ((wr.alloc (.cells #[.int .i64 0, .int .i64 0, .int .i64 0, .int .i64 0, .int .i64 0, .int .i64 0, .int .i64 0, .int .i64 0] 124)).alloc (.cells #[.slice A n c, .int .i64 ((p : Int) + 32 * (i : Int)), .bool false] 91)) := ((Below.refl wr.heap.size wr).alloc (Nat.le_refl _) (.cells #[.int .i64 0, .int .i64 0, .int .i64 0, .int .i64 0, .int .i64 0, .int .i64 0, .int .i64 0, .int .i64 0] 124)).alloc (by simp) (.cells #[.slice A n c, .int .i64 ((p : Int) + 32 * (i : Int)), .bool false] 91)
                have hH2 := HH.out.after hb2
                have hws := HH.out.bel.size
                have hDc : DcA w bs A n c (wr.heap.size + 1) (p + 32 * i) ((wr.alloc (.cells #[.int .i64 0, .int .i64 0, .int .i64 0, .int .i64 0, .int .i64 0, .int .i64 0, .int .i64 0, .int .i64 0] 124)).alloc (.cells #[.slice A n c, .int .i64 ((p : Int) + 32 * (i : Int)), .bool false] 91)) := DcA.new hS hA hc63 hH2.bel (by omega) hC (by omega)
                obtain ⟨gx, hgx⟩ : ∃ x, x = wr.heap.size := ⟨_, rfl⟩
                have hgxB : w.heap.size ≤ gx := by omega
                generalize (wr.alloc (.cells #[.int .i64 0, .int .i64 0, .int .i64 0, .int .i64 0, .int .i64 0, .int .i64 0, .int .i64 0, .int .i64 0] 124)).alloc (.cells #[.slice A n c, .int .i64 ((p : Int) + 32 * (i : Int)), .bool false] 91) = y0 at *
                rw [← hgx] at hX hDc ⊢
                have hxc : gx ≠ gx + 1 := by omega
                clear hgx hC hb2 hws
                have HI : Hid (Has y0 gx 124 (tab 8 (intsV (x8 bs (p + 32 * i) 0))) ∧ DcA w bs A n c (gx + 1) (p + 32 * i + 4 * 0) y0 ∧ HsO w bs u18 i y0) := Lib.hid ⟨hX, hDc, hH2⟩
                clear hX hDc hH2 HH
                go_loopw [22] (fun ct wz => ∃ k : Nat, k ≤ 8 ∧ ct = .int .i64 (k : Int) ∧ Has wz gx 124 (tab 8 (intsV (x8 bs (p + 32 * i) k))) ∧ DcA w bs A n c (gx + 1) (p + 32 * i + 4 * k) wz ∧ HsO w bs u18 i wz) (fun ct _ => (8 - (intOf ct)).toNat)
                case atStart => exact ⟨0, Nat.zero_le _, rfl, HI.out⟩
                case round =>
                  obtain ⟨k, hk, rfl, hX, hDc, hH⟩ := hrel
                  clear HI
                  by_cases hk8 : k < 8
                  · have dk : (k : Int) < 8 := by omega
                    have k1 := hDc.num4
                    have HX := Lib.hid hX
                    have HH := Lib.hid hH
                    have HDc := Lib.hid hDc
                    clear hX hH hDc
                    go_wp2_with (
                      refine k1.mono ?_
                      rintro e z1 ⟨rfl, hD1, hg1⟩
                      have hX1 := has_grown HX.out hg1 (fun l e => by injection e with e; rw [← e]; exact hxc)
                      have hxf := hX1.free k
                      have hxc1 := hX1.cellTab k hk8
                      have HX1 := Lib.hid hX1
                      have HD1 := Lib.hid hD1
                      have HH1 := Lib.hid (HH.out.cur HDc.out (by omega) hg1)
                      clear hX1 hD1 hg1)
                    go_roundw
                    case rel =>
                      have hset := only_setCell z1 gx k (.int .i64 ((nm bs 4 (p + 32 * i + 4 * k) : Nat) : Int))
                      have hX2 := HX1.out.set k (.int .i64 ((nm bs 4 (p + 32 * i + 4 * k) : Nat) : Int))
                      rw [x8_set] at hX2
                      exact ⟨k + 1, hk8, by go_num, hX2, (HD1.out.grown hset hgxB (Ne.symm hxc)), HH1.out.other HX1.out (by decide) hgxB hset⟩
                    case measure => simp [intOf] <;> omega
                  · obtain rfl : k = 8 := by omega
                    have hbz := hDc.bel
                    have c0 := hX.cellTab 0 (by omega)
                    have c1' := hX.cellTab 1 (by omega)
                    have c2 := hX.cellTab 2 (by omega)
                    have c4 := hX.cellTab 4 (by omega)
                    have c5 := hX.cellTab 5 (by omega)
                    have c6 := hX.cellTab 6 (by omega)
                    simp only [intsV] at c0 c1' c2 c4 c5 c6
                    obtain ⟨hd, hhd⟩ : ∃ x, x = hdA bs (p + 32 * i) := ⟨_, rfl⟩
                    obtain ⟨x6, hx6⟩ : ∃ x, x = nm bs 4 (p + 32 * i + 24) := ⟨_, rfl⟩
                    have HHD := Lib.hid hhd
                    have HX6 := Lib.hid hx6
                    have hwf : hd.Wf := by rw [hhd]; exact hdA_wf _ _
                    have hx6l := nm4 bs (p + 32 * i + 24)
                    rw [← hx6] at hx6l
                    replace c0 : wr.cell? ⟨gx, 0, none⟩ = some (.int .i64 (hd.k : Int)) := by rw [hhd]; exact c0
                    replace c1' : wr.cell? ⟨gx, 1, none⟩ = some (.int .i64 (hd.a : Int)) := by rw [hhd]; exact c1'
                    replace c2 : wr.cell? ⟨gx, 2, none⟩ = some (.int .i64 (hd.d : Int)) := by rw [hhd]; exact c2
                    replace c4 : wr.cell? ⟨gx, 4, none⟩ = some (.int .i64 (hd.f : Int)) := by rw [hhd]; exact c4
                    replace c5 : wr.cell? ⟨gx, 5, none⟩ = some (.int .i64 (hd.m : Int)) := by rw [hhd]; exact c5
                    replace c6 : wr.cell? ⟨gx, 6, none⟩ = some (.int .i64 (x6 : Int)) := by rw [hx6]; exact c6
                    have hbX : hdX bs (p + 32 * i) = decide ((hd.k ≠ 1 ∧ hd.k ≠ 2) ∨ 7 < x6 ∨ n < hd.a + hd.f ∨ hd.m < hd.f) := by rw [hhd, hx6, ← hl]; rfl
                    have hr6 : hd.r = rgt x6 := by rw [hhd, hx6]; rfl
                    have HBX := Lib.hid hbX
                    have HR6 := Lib.hid hr6
                    have HX := Lib.hid hX
                    have HH := Lib.hid hH
                    have HWF := Lib.hid hwf
                    have wk := hwf.k
                    have wa := hwf.a
                    have wf := hwf.f
                    clear hX hDc hH hhd hx6 hbX hr6 hwf hk8 hk
                    go_upto_region 31 with fail
                    go_cut [155] (fun t wx => ∃ b : Bool, t = .bool b ∧ wr = wx ∧ b = hdX bs (p + 32 * i))
                    case first =>
                      by_cases h1 : hd.k = 1
                      · have hk1 : ((hd.k : Int) != 1) = false := by simp [h1]
                        have H1 := Lib.hid h1
                        clear h1
                        rcases x31_ways1 0 x6 hd.a hd.f hd.m n with ⟨f0, fg⟩ | ⟨f0, f1, fg⟩ | ⟨f0, f1, f2, fg⟩ | ⟨f0, f1, f2, fg⟩
                        · have FG := Lib.hid fg
                          clear fg
                          go_wp2_with fail
                          go_meet
                          exact ⟨true, rfl, rfl, by rw [HBX.out, decide_eq_true]; have := FG.out; omega⟩
                        · have FG := Lib.hid fg
                          clear fg
                          go_wp2_with fail
                          go_meet
                          exact ⟨true, rfl, rfl, by rw [HBX.out, decide_eq_true]; have := FG.out; omega⟩
                        · have FG := Lib.hid fg
                          clear fg
                          go_wp2_with fail
                          go_meet
                          exact ⟨true, rfl, rfl, by rw [HBX.out, decide_eq_true]; have := FG.out; omega⟩
                        · have FG := Lib.hid fg
                          clear fg
                          go_wp2_with fail
                          go_meet
                          exact ⟨false, congrArg Value.bool (by rw [decide_eq_false (by omega), decide_eq_false (by omega), decide_eq_false (by omega)]; rfl), rfl, by rw [HBX.out, decide_eq_false]; have := FG.out; have := H1.out; omega⟩
                      · have hk1 : ((hd.k : Int) != 1) = true := by simp; omega
                        by_cases h2 : hd.k = 2
                        · have hk2 : ((hd.k : Int) != 2) = false := by simp [h2]
                          have H2 := Lib.hid h2
                          clear h1 h2
                          rcases x31_ways1 0 x6 hd.a hd.f hd.m n with ⟨f0, fg⟩ | ⟨f0, f1, fg⟩ | ⟨f0, f1, f2, fg⟩ | ⟨f0, f1, f2, fg⟩
                          · have FG := Lib.hid fg
                            clear fg
                            go_wp2_with fail
                            go_meet
                            exact ⟨true, rfl, rfl, by rw [HBX.out, decide_eq_true]; have := FG.out; omega⟩
                          · have FG := Lib.hid fg
                            clear fg
                            go_wp2_with fail
                            go_meet
                            exact ⟨true, rfl, rfl, by rw [HBX.out, decide_eq_true]; have := FG.out; omega⟩
                          · have FG := Lib.hid fg
                            clear fg
                            go_wp2_with fail
                            go_meet
                            exact ⟨true, rfl, rfl, by rw [HBX.out, decide_eq_true]; have := FG.out; omega⟩
                          · have FG := Lib.hid fg
                            clear fg
                            go_wp2_with fail
                            go_meet
                            exact ⟨false, congrArg Value.bool (by rw [decide_eq_false (by omega), decide_eq_false (by omega), decide_eq_false (by omega)]; rfl), rfl, by rw [HBX.out, decide_eq_false]; have := FG.out; have := H2.out; omega⟩
                        · have hk2 : ((hd.k : Int) != 2) = true := by simp; omega
                          have H12 : Hid (hd.k ≠ 1 ∧ hd.k ≠ 2) := Lib.hid ⟨h1, h2⟩
                          clear h1 h2
                          go_wp2_with fail
                          go_meet
                          exact ⟨true, rfl, rfl, by rw [HBX.out, decide_eq_true]; exact .inl H12.out⟩
                    case rest =>
                      obtain ⟨b, rfl, rfl, hb⟩ := hcut
                      have HB := Lib.hid hb
                      clear hb
                      cases b with
                      | true =>
                        go_wp2_with fail
                        go_ret3
                        exact heads_bad_ret (headsN_badH (i := i) (by rw [HF.out.2.1]; exact hlt) (by rw [HF.out.2.2, ← HB.out])) hbz
                      | false =>
                        have h67 : x6 ≤ 7 := by
                          have h1 : hdX bs (p + 32 * i) = false := HB.out.symm
                          rw [HBX.out] at h1
                          have := of_decide_eq_false h1
                          omega
                        obtain ⟨r1, hr1⟩ : ∃ x, x = x6 % 2 := ⟨_, rfl⟩
                        obtain ⟨q2, hq2⟩ : ∃ x, x = x6 / 2 := ⟨_, rfl⟩
                        obtain ⟨r2, hr2⟩ : ∃ x, x = q2 % 2 := ⟨_, rfl⟩
                        obtain ⟨r3, hr3⟩ : ∃ x, x = x6 / 4 := ⟨_, rfl⟩
                        have e1 : (x6 : Int).tmod 2 = (r1 : Int) := by rw [Int.tmod_eq_emod_of_nonneg (by omega)]; omega
                        have e2 : (x6 : Int).tdiv 2 = (q2 : Int) := by rw [Int.tdiv_eq_ediv_of_nonneg (by omega)]; omega
                        have e3 : (q2 : Int).tmod 2 = (r2 : Int) := by rw [Int.tmod_eq_emod_of_nonneg (by omega)]; omega
                        have e4 : (x6 : Int).tdiv 4 = (r3 : Int) := by rw [Int.tdiv_eq_ediv_of_nonneg (by omega)]; omega
                        have HR : Hid (hd.r = (if r1 = 1 then 4 else 0) + (if r2 = 1 then 2 else 0) + (if r3 = 1 then 1 else 0)) := Lib.hid (by rw [HR6.out, hr1, hr2, hq2, hr3]; rfl)
                        have l1 : r1 < 2 := by omega
                        have lq : q2 ≤ 3 := by omega
                        have l2 : r2 < 2 := by omega
                        have l3 : r3 < 2 := by omega
                        clear hr1 hq2 hr2 hr3 h67
                        go_upto_if 159 with fail
                        go_cut [23] (fun r wx => r = .int .i64 (((if r1 = 1 then 4 else 0 : Nat) : Nat) : Int) ∧ wr = wx)
                        case first =>
                          rcases (show r1 = 0 ∨ r1 = 1 by omega) with hz | hz
                          · have hb : ((r1 : Int) == 1) = false := by simp [hz]
                            have HZ := Lib.hid hz
                            clear hz
                            go_wp2_with fail
                            go_meet
                            exact ⟨by rw [HZ.out]; rfl, rfl⟩
                          · have hb : ((r1 : Int) == 1) = true := by simp [hz]
                            have HZ := Lib.hid hz
                            clear hz
                            go_wp2_with fail
                            go_meet
                            exact ⟨by rw [HZ.out]; rfl, rfl⟩
                        case rest =>
                          obtain ⟨rfl, rfl⟩ := hcut
                          obtain ⟨s1, hs1⟩ : ∃ x, x = (if r1 = 1 then 4 else 0 : Nat) := ⟨_, rfl⟩
                          have hs1l : s1 ≤ 4 := by rw [hs1]; split <;> omega
                          have HS1 := Lib.hid hs1
                          rw [← hs1]
                          clear hs1
                          go_upto_if 166 with fail
                          go_cut [23] (fun r wx => r = .int .i64 ((s1 + (if r2 = 1 then 2 else 0) : Nat) : Int) ∧ wr = wx)
                          case first =>
                            rcases (show r2 = 0 ∨ r2 = 1 by omega) with hz | hz
                            · have hb : ((r2 : Int) == 1) = false := by simp [hz]
                              have HZ := Lib.hid hz
                              clear hz
                              go_wp2_with fail
                              go_meet
                              exact ⟨by rw [HZ.out]; rfl, rfl⟩
                            · have hb : ((r2 : Int) == 1) = true := by simp [hz]
                              have HZ := Lib.hid hz
                              clear hz
                              go_wp2_with fail
                              go_meet
                              exact ⟨by rw [HZ.out]; rfl, rfl⟩
                          case rest =>
                            obtain ⟨rfl, rfl⟩ := hcut
                            obtain ⟨s2, hs2⟩ : ∃ x, x = s1 + (if r2 = 1 then 2 else 0 : Nat) := ⟨_, rfl⟩
                            have hs2l : s2 ≤ 6 := by rw [hs2]; split <;> omega
                            have HS2 := Lib.hid hs2
                            rw [← hs2]
                            clear hs2
                            go_upto_if 172 with fail
                            go_cut [23] (fun r wx => r = .int .i64 (hd.r : Int) ∧ wr = wx)
                            case first =>
                              rcases (show r3 = 0 ∨ r3 = 1 by omega) with hz | hz
                              · have hb : ((r3 : Int) == 1) = false := by simp [hz]
                                have HZ := Lib.hid hz
                                clear hz
                                go_wp2_with fail
                                go_meet
                                exact ⟨by rw [HR.out, ← HS1.out, ← HS2.out, HZ.out]; rfl, rfl⟩
                              · have hb : ((r3 : Int) == 1) = true := by simp [hz]
                                have HZ := Lib.hid hz
                                clear hz
                                go_wp2_with fail
                                go_meet
                                exact ⟨by rw [HR.out, ← HS1.out, ← HS2.out, HZ.out]; rfl, rfl⟩
                            case rest =>
                              obtain ⟨rfl, rfl⟩ := hcut
                              obtain ⟨Av, cv, rfl⟩ := own_form HH.out.own
                              have hown := HH.out.own
                              have hws := HH.out.bel.size
                              clear e1 e2 e3 e4
                              go_wp2_with (first
                                | (refine wp_build_el Try.underlying51 infoHR (by decide) (by decide) rfl _ rfl hd (congrArg Value.agg (hdR_lit hd)) ?_
                                   intro w6 hw6
                                   have hb6 : Below wr.heap.size wr w6 := by subst hw6; exact (Below.refl _ _).alloc (Nat.le_refl _) _
                                   have hH6 : Has w6 wr.heap.size 50 (tab 6 (hdR hd)) := by subst hw6; exact Has.new _ _ _
                                   have hown6 := own_after hown hb6
                                   have hws6 := Nat.le_trans hws hb6.size
                                   clear hw6)
                                | (refine wp_append_el Try.underlying51 infoHR rfl (by decide) (by decide) hdR_one rfl _ _ rfl w.heap.size _ i (hds bs i) rfl hown6 wr.heap.size rfl hd hH6 (by omega) hws6 ?_
                                   intro v7 w7 hown7 hgr7))
                              go_roundw
                              case rel =>
                                have hHf := HH.out.after hb6
                                refine ⟨i + 1, hlt, by go_num, ?_, below_own hHf.bel hown6 (Nat.le_refl _) hHf.bel.size hgr7, fun j hj => ?_⟩
                                · rw [hds_succ, HF.out.2.2, ← HHD.out]
                                  exact hown7
                                · by_cases hji : j = i
                                  · subst hji; rw [HF.out.2.2]; exact HB.out.symm
                                  · exact hHf.good j (by omega)
                              case measure => simp [intOf] <;> omega
              · obtain rfl : i = nh := by omega
                obtain ⟨Av, cv, rfl⟩ := own_form hH.own
                go_wp2_with fail
                go_ret3
                have hok := headsN_ok HF.out.1 (fun j hj => hH.good j (by rw [HF.out.2.1] at hj; exact hj))
                rw [hok, HF.out.2.1]
                exact ⟨⟨⟨Av, i, cv⟩, by rw [HEN.out]; rfl, hH.slJ (by omega)⟩, hH.bel⟩
end Go.Proofs.Ytfdoloonllhodaa
