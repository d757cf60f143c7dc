/-
Layer 9, package dyn: the tags, a symbol, a relocation of a table.
-/
import Derived.Test.YtfdoloonllhodaaJDzA
import Derived.Test.YtfdoloonllhodaaJDyC
import Derived.Test.YtfdoloonllhodaaJaC
import Derived.Maps.RangeWalk
namespace Go.Proofs.Ytfdoloonllhodaa
open Go Go.RowKit

/-- the tags of these bytes -/
def tgO (o : Option (List UInt8)) : Option (List (Nat × Nat)) := match o with
  | none => none
  | some b => tagsN b
/-- how many bytes are left of a cursor -/
def leftW (w : World) (p : Option Nat) : Nat := match p with
  | none => 0
  | some g => match w.heap[g]? with
    | some (.cells cs _ _) => lenOf cs[0]!
    | _ => 0
theorem left_of {B L g q : Nat} {b : List UInt8} {w : World} (h : CuP B L g b q w) (hq : q ≤ b.length) : leftW w (some g) = b.length - q := by
  obtain ⟨A, n, c, pp, bad, h1, h2, _, _, ⟨_, h5⟩, _⟩ := h
  have e := h5 hq
  dsimp only at e
  subst e
  have hl := h2.1
  rw [List.length_drop] at hl
  show (match w.heap[g]? with | some (.cells cs _ _) => lenOf cs[0]! | _ => 0) = _
  rw [show w.heap[g]? = _ from h1]
  show n = _
  omega
/-- what 'tags' answers -/
def TgsR (B : Nat) (w0 : World) (o : Option (List UInt8)) (e : Ending) (w' : World) : Prop :=
  (∃ gm, e = .returned (.tuple #[.map gm, .bool (tgO o).isSome]) ∧ ∀ l, tgO o = some l → ∃ g, gm = some g ∧ MpL w' g l) ∧ Below B w0 w'
theorem tgsR_none {B : Nat} {w0 w' : World} {o : Option (List UInt8)} (h : tgO o = none) (hb : Below B w0 w') : TgsR B w0 o (.returned (.tuple #[.map none, .bool false])) w' :=
  ⟨⟨none, by rw [h]; rfl, fun l e => by rw [h] at e; cases e⟩, hb⟩
/-- the tags' loop -/
structure TgL (B L : Nat) (p : Option Nat) (o : Option (List UInt8)) (gm gt : Nat) (w0 : World) (i : Nat) (l : List (Nat × Nat)) (w : World) : Prop where
  bel : Below B w0 w
  siz : B ≤ w.heap.size
  tc : Has w gt 101 #[pV p]
  tb : TbP B L p o (8 * i) w
  mp : MpL w gm l
  len : l.length = i
  go : ∀ b, o = some b → tagsGo b (b.length / 8 + 1 - i) (8 * i) l = tagsN b ∧ 8 * i ≤ b.length ∧ b.length ≤ 1000000
set_option maxRecDepth 100000 in
set_option maxHeartbeats 4000000 in
theorem dtags_any {B L : Nat} {p : Option Nat} {o : Option (List UInt8)} {w : World} (h : TbP B L p o 0 w) (hB : B ≤ w.heap.size) (hL : L ≤ w.heap.size) (hlb : ∀ b, o = some b → b.length ≤ 1000000) :
    Calls Try.prog 31 #[.agg #[pV p]] w fun e w' => TgsR B w o e w' := by
  have hmm := @run_makeMap Try.prog
  go_enter Try.func31, Try.ntmps31
  go_upto_region 1 with fail
  have hGt : Has (w.alloc (.cells #[pV p] 101)) w.heap.size 101 #[pV p] := Has.new _ _ _
  have hb0 : Below w.heap.size w (w.alloc (.cells #[pV p] 101)) := (Below.refl _ _).alloc (Nat.le_refl _) _
  have hgt := hGt.lt
  generalize w.alloc (.cells #[pV p] 101) = u at *
  obtain ⟨gt, hge⟩ : ∃ x, x = w.heap.size := ⟨_, rfl⟩
  rw [← hge] at hGt hgt ⊢
  go_wp2_with fail
  have hM : MpL (u.alloc (.map #[] 0)) u.heap.size [] := MpL.new u
  have hb1 : Below u.heap.size u (u.alloc (.map #[] 0)) := (Below.refl _ _).alloc (Nat.le_refl _) _
  generalize u.alloc (.map #[] 0) = v at *
  obtain ⟨gm, hgm⟩ : ∃ x, x = u.heap.size := ⟨_, rfl⟩
  rw [← hgm] at hM ⊢
  have hgp : some gm ≠ p := fun e => by have := (h.gB gm e.symm).2.1; omega
  have hgtp : ∀ l, p = some l → gt ≠ l := fun l e => by have := (h.gB l e).2.1; omega
  have hb01 := below_trans hb0 (hb1.mono (Nat.le_refl _))
  have hT := h.after hb01
  have hgmL : L ≤ gm := by omega
  have hgmB : B ≤ gm := by omega
  have hmt : gm ≠ gt := by omega
  have hbB := hb01.mono hB
  have HI : Hid (TgL B L p o gm gt w 0 [] v) := Lib.hid ⟨hbB, Nat.le_trans hB hb01.size, hGt.after hb1, hT, hM, rfl, fun b e => ⟨rfl, Nat.zero_le _, hlb b e⟩⟩
  clear hT hM hGt hb0 hb1 hb01 hgt hge hgm h hbB hlb
  go_loopw [] (fun wr => ∃ (i : Nat) (l : List (Nat × Nat)), TgL B L p o gm gt w i l wr) (fun wr => leftW wr p)
  case atStart => exact ⟨0, [], HI.out⟩
  case round =>
    obtain ⟨i, l, hO⟩ := hrel
    clear HI
    have hT := hO.tb
    have hM := hO.mp
    have hbl0 := hO.bel
    have hsz0 := hO.siz
    obtain ⟨w0, hw0⟩ : ∃ x, x = wr := ⟨_, rfl⟩
    have hC : CurI B L p o (8 * i) (8 * i + 8) gt w0 wr := CurI.new hT hO.tc hgtp (by omega) (by rw [hw0]; exact World.grownBy.refl _ _)
    have hlm : leftW wr p = leftW wr p := rfl
    have HGO := Lib.hid hO.go
    have HLEN := Lib.hid hO.len
    obtain ⟨M0, hM0⟩ : ∃ x, x = leftW wr p := ⟨_, rfl⟩
    rw [← hM0]
    have HLF : Hid (∀ g b, p = some g → o = some b → M0 = b.length - 8 * i) := Lib.hid (fun g b e1 e2 => by subst e1 e2; rw [hM0]; exact left_of hT (hO.go b rfl).2.1)
    clear hO hlm hM0
    go_wp2_with fail
    refine region_simL [.pointer (some ⟨gt, 0, none⟩), pV p, undef, .pointer (some ⟨gt, 0, none⟩), pV p, undef, .int .u32 ((nmO o (8 * i) : Nat) : Int), .int .u32 ((nmO o (8 * i + 4) : Nat) : Int)] [(2, fun x w' => x = .int .u32 ((nmO o (8 * i) : Nat) : Int) ∧ LvG B L p o (mO o (8 * i + 4)) w'), (5, fun x w' => x = .int .u32 ((nmO o (8 * i + 4) : Nat) : Int) ∧ LvG B L p o (mO o (8 * i + 8)) w')] [(2, fun w' => LvL B L p o (mO o (8 * i)) w'), (5, fun w' => LvL B L p o (mO o (8 * i + 4)) w')] [(2, fun w' w'' => LvE B L p o (mO o (8 * i)) (mO o (8 * i + 4)) w' w''), (5, fun w' w'' => LvE B L p o (mO o (8 * i + 4)) (mO o (8 * i + 8)) w' w'')] (fun w' => CurI B L p o (8 * i) (8 * i + 8) gt w0 w' ∧ MpL w' gm l) 32 (by kernel_rfl) rfl (by kernel_rfl) ?_ ?_ ?_ ?_ ?_ (by decide) ?_
    · intro w' hb he
      have hTs := hT.after hb
      refine ⟨⟨hC.after hb, hM.after hb⟩, ?_⟩
      simp only [List.forall_mem_cons, List.not_mem_nil, false_implies, implies_true, and_true]
      exact ⟨hTs.low (by omega), hTs.low (by omega)⟩
    · simp only [List.forall_mem_cons, List.not_mem_nil, false_implies, implies_true, and_true]
      refine ⟨?_, ?_⟩
      · exact fun w' w'' hg hE => ⟨hg.1.keep hE (by omega) (by omega), hg.2.kept hE.1 hgp⟩
      · exact fun w' w'' hg hE => ⟨hg.1.keep hE (by omega) (by omega), hg.2.kept hE.1 hgp⟩
    · simp only [List.forall_mem_cons, List.not_mem_nil, false_implies, implies_true, and_true]
      exact ⟨⟨(fun h => absurd rfl h), (fun _ _ x w' w'' _ ⟨e, h1⟩ hE => ⟨e, hE.great (mO_le (by omega)) h1⟩)⟩, ⟨(fun _ h => absurd h (by decide +kernel)), (fun h => absurd rfl h)⟩⟩
    · simp only [List.forall_mem_cons, List.not_mem_nil, false_implies, implies_true, and_true]
      exact ⟨⟨(fun h => absurd rfl h), (fun _ h => absurd h (by decide +kernel))⟩, ⟨(fun _ _ w' w'' _ h hE => LvE.low hE h (by omega)), (fun h => absurd rfl h)⟩⟩
    · refine ⟨⟨?_, ?_⟩, ⟨?_, ?_⟩, ⟨?_, ?_⟩, ⟨?_, ?_⟩, ⟨?_, ?_⟩, ⟨?_, ?_⟩, ⟨?_, ?_⟩, ⟨?_, ?_⟩, trivial⟩
      · intro v w' AA hAA hg hf hl hgd K hK
        exact pure_step (.pointer (some ⟨gt, 0, none⟩)) (fun ρ hρ => by
          have e1 : ρ (.tmp 1) = .pointer (some ⟨gt, 0, none⟩) := by rw [hρ]; exact hAA.2 1 (by simp)
          clear hρ hf hAA hl hK hg
          go_simp) (hK _ _ rfl ⟨rfl, hg.2⟩)
      · trivial
      · intro v w' AA hAA hg hf hl hgd K hK
        have hcell := (show w'.cell? ⟨gt, 0, none⟩ = some (pV p) from hg.2.1.tb.cell 0)
        exact pure_step (pV p) (fun ρ hρ => by
          have e10 : ρ (.tmp 10) = .pointer (some ⟨gt, 0, none⟩) := by rw [hρ]; exact (hAA.1 0 _ 10 rfl rfl).trans (hf ⟨0, .data⟩ (by simp) rfl).1
          clear hρ hf hAA hl hK hg
          go_simp) (hK _ _ rfl ⟨rfl, hg.2⟩)
      · trivial
      · intro v w' AA hAA hg hf hl hgd K hK
        have hT0 := tb_at hg.1 hg.2.1.first hg.2.1.ex
        refine call_step 44 #[pV p] (fun ρ hρ => by
          have hfun : ∀ f, ρ (.func f) = .func (.func f) #[] #[] := fun f => by rw [hρ]; rfl
          have e11 : ρ (.tmp 11) = pV p := by rw [hρ]; exact (hAA.1 1 _ 11 rfl rfl).trans (hf ⟨1, .data⟩ (by simp) rfl).1
          clear hρ hf hAA hl hK hg
          go_simp) ?_
        refine (hT0.u32).mono ?_
        rintro e w'' ⟨rfl, hT1, hy⟩
        have hE : LvE B L p o (mO o (8 * i)) (mO o (8 * i + 4)) w' w'' := ⟨hy, hT0.lv, hT1.lv⟩
        exact ⟨_, rfl, hK _ _ hE ⟨⟨rfl, hT1.great⟩, hg.2.1.keep hE (by omega) (by omega), hg.2.2.kept hy hgp⟩⟩
      · trivial
      · intro v w' AA hAA hg hf hl hgd K hK
        exact pure_step (.pointer (some ⟨gt, 0, none⟩)) (fun ρ hρ => by
          have e1 : ρ (.tmp 1) = .pointer (some ⟨gt, 0, none⟩) := by rw [hρ]; exact hAA.2 1 (by simp)
          clear hρ hf hAA hl hK hg
          go_simp) (hK _ _ rfl ⟨rfl, hg.2⟩)
      · trivial
      · intro v w' AA hAA hg hf hl hgd K hK
        have hcell := (show w'.cell? ⟨gt, 0, none⟩ = some (pV p) from hg.2.1.tb.cell 0)
        exact pure_step (pV p) (fun ρ hρ => by
          have e13 : ρ (.tmp 13) = .pointer (some ⟨gt, 0, none⟩) := by rw [hρ]; exact (hAA.1 3 _ 13 rfl rfl).trans (hf ⟨3, .data⟩ (by simp) rfl).1
          clear hρ hf hAA hl hK hg
          go_simp) (hK _ _ rfl ⟨rfl, hg.2⟩)
      · trivial
      · intro v w' AA hAA hg hf hl hgd K hK
        obtain ⟨⟨-, hlp⟩, _⟩ := hf ⟨2, .chain⟩ (by simp) rfl
        have hT0 := tb_at hg.1 hlp hg.2.1.ex
        refine call_step 44 #[pV p] (fun ρ hρ => by
          have hfun : ∀ f, ρ (.func f) = .func (.func f) #[] #[] := fun f => by rw [hρ]; rfl
          have e14 : ρ (.tmp 14) = pV p := by rw [hρ]; exact (hAA.1 4 _ 14 rfl rfl).trans (hf ⟨4, .data⟩ (by simp) rfl).1
          clear hρ hf hAA hl hK hg
          go_simp) ?_
        refine (hT0.u32).mono ?_
        rintro e w'' ⟨rfl, hT1, hy⟩
        have hE : LvE B L p o (mO o (8 * i + 4)) (mO o (8 * i + 8)) w' w'' := ⟨hy, hT0.lv, hT1.lv⟩
        exact ⟨_, rfl, hK _ _ hE ⟨⟨rfl, hT1.great⟩, hg.2.1.keep hE (by omega) (by omega), hg.2.2.kept hy hgp⟩⟩
      · trivial
      · intro v w' AA hAA hg hf hl hgd K hK
        exact pure_step (.int .u32 ((nmO o (8 * i) : Nat) : Int)) (fun ρ hρ => by
          obtain ⟨⟨hv2, hl2⟩, _⟩ := hf ⟨2, .data⟩ (by simp) rfl
          have e12 : ρ (.tmp 12) = .int .u32 ((nmO o (8 * i) : Nat) : Int) := by rw [hρ]; exact (hAA.1 2 _ 12 rfl rfl).trans hv2
          clear hρ hf hAA hl hK hg
          go_simp) (hK _ _ rfl ⟨rfl, hg.2⟩)
      · trivial
      · intro v w' AA hAA hg hf hl hgd K hK
        exact pure_step (.int .u32 ((nmO o (8 * i + 4) : Nat) : Int)) (fun ρ hρ => by
          obtain ⟨⟨hv5, hl5⟩, _⟩ := hf ⟨5, .data⟩ (by simp) rfl
          have e15 : ρ (.tmp 15) = .int .u32 ((nmO o (8 * i + 4) : Nat) : Int) := by rw [hρ]; exact (hAA.1 5 _ 15 rfl rfl).trans hv5
          clear hρ hf hAA hl hK hg
          go_simp) (hK _ _ rfl ⟨rfl, hg.2⟩)
      · trivial
    intro v wE hIE hE
    have f0 : v 0 = .pointer (some ⟨gt, 0, none⟩) := (hE 0 (by decide)).1
    have f1 : v 1 = pV p := (hE 1 (by decide)).1
    obtain ⟨⟨hv2, hl2⟩, _⟩ := hE 2 (by decide)
    have f3 : v 3 = .pointer (some ⟨gt, 0, none⟩) := (hE 3 (by decide)).1
    have f4 : v 4 = pV p := (hE 4 (by decide)).1
    obtain ⟨⟨hv5, hl5⟩, _⟩ := hE 5 (by decide)
    have f6 : v 6 = .int .u32 ((nmO o (8 * i) : Nat) : Int) := (hE 6 (by decide)).1
    have f7 : v 7 = .int .u32 ((nmO o (8 * i + 4) : Nat) : Int) := (hE 7 (by decide)).1
    clear hE
    simp only [putAll, Act.put, List.setIfInBounds_toArray, List.set_cons_zero, List.set_cons_succ, Nat.zero_add, Nat.reduceAdd]
    rw [f0, f1, hv2, f3, f4, hv5, f6, f7]
    clear f0 f1 f3 f4 f6 f7
    obtain ⟨hCE, hME⟩ := hIE
    have hbl := below_p hbl0 (by rw [← hw0]; exact hCE.gro) (fun l e => (hCE.ne l e).2) hsz0
    have hszE := Nat.le_trans hsz0 (by rw [← hw0]; exact hCE.gro.size)
    clear hw0 hbl0 hsz0
    have hTE := tb_at (q := 8 * i + 8) hCE.last hl5 hCE.ex
    have kB := hTE.bad
    obtain ⟨x, hx⟩ : ∃ x, x = nmO o (8 * i) := ⟨_, rfl⟩
    obtain ⟨y, hy⟩ : ∃ y, y = nmO o (8 * i + 4) := ⟨_, rfl⟩
    rw [← hx, ← hy]
    have HX := Lib.hid hx
    have HY := Lib.hid hy
    have hx32 := nmO_lt o (8 * i)
    have hy32 := nmO_lt o (8 * i + 4)
    rw [← hx] at hx32
    rw [← hy] at hy32
    have hct := hCE.tb.cell 0
    obtain ⟨bb, hbb⟩ : ∃ b, b = bdO o (8 * i + 8) := ⟨_, rfl⟩
    rw [← hbb] at kB
    have HBB := Lib.hid hbb
    clear hx hy hbb hC hT hM hv2 hv5 hl2 hl5 hmm
    cases bb with
    | true =>
      have HN : Hid (tgO o = none) := Lib.hid (by
        cases o with
        | none => rfl
        | some b =>
          obtain ⟨h1, h2, h3⟩ := HGO.out b rfl
          have h8 : b.length < 8 * i + 8 := of_decide_eq_true HBB.out.symm
          show tagsN b = none
          rw [← h1, show b.length / 8 + 1 - i = (b.length / 8 - i) + 1 by omega]
          unfold tagsGo
          rw [if_pos h8])
      clear HGO HBB HLF
      go_wp2_with (refine kB.mono ?_; rintro e w9 ⟨rfl, rfl⟩)
      go_ret2
      exact tgsR_none HN.out hbl
    | false =>
      obtain ⟨b, rfl⟩ : ∃ b, o = some b := by
        cases o with
        | none => cases HBB.out
        | some b => exact ⟨b, rfl⟩
      obtain ⟨g, rfl⟩ : ∃ g, p = some g := by
        cases p with
        | none => exact hTE.elim
        | some g => exact ⟨g, rfl⟩
      obtain ⟨h1, h2, h3⟩ := HGO.out b rfl
      have h8 : 8 * i + 8 ≤ b.length := by have := of_decide_eq_false HBB.out.symm; omega
      have HLE := Lib.hid h8
      have HB6 := Lib.hid h3
      have hM8 := HLF.out g b rfl rfl
      have HM8 := Lib.hid hM8
      rw [show b.length / 8 + 1 - i = (b.length / 8 - i) + 1 by omega] at h1
      unfold tagsGo at h1
      rw [if_neg (by omega), show nm b 4 (8 * i) = x from HX.out.symm, show nm b 4 (8 * i + 4) = y from HY.out.symm] at h1
      have HG1 := Lib.hid h1
      have hlen3 : l.length ≤ 1000000 := by rw [HLEN.out]; omega
      clear HGO HBB HLF h1 h2 h3 h8 hM8
      by_cases hx0 : x = 0
      · have hxb : ((x : Int) == 0) = true := by simp [hx0]
        have HN : Hid (tgO (some b) = some l) := Lib.hid ((if_pos hx0).symm.trans HG1.out).symm
        clear hx0
        go_wp2_with (refine kB.mono ?_; rintro e w9 ⟨rfl, rfl⟩)
        go_ret2
        exact ⟨⟨some gm, by rw [HN.out]; rfl, fun l' e => by rw [HN.out] at e; injection e with e; subst e; exact ⟨gm, rfl, hME⟩⟩, hbl⟩
      · have hxb : ((x : Int) == 0) = false := by simp; omega
        have HG2 := Lib.hid ((if_neg hx0).symm.trans HG1.out)
        have hlk := hME.look_ok hx32
        obtain ⟨z, hz⟩ : ∃ z, z = (valN l x).getD 0 := ⟨_, rfl⟩
        obtain ⟨vs, hvs⟩ : ∃ v, v = (valN l x).isSome := ⟨_, rfl⟩
        rw [← hz, ← hvs] at hlk
        have HVS := Lib.hid hvs
        clear hx0 hz hvs HG1
        cases vs with
        | true =>
          have HN : Hid (tgO (some b) = none) := Lib.hid ((if_pos HVS.out.symm).symm.trans HG2.out).symm
          go_wp2_with (refine kB.mono ?_; rintro e w9 ⟨rfl, rfl⟩)
          go_ret2
          exact tgsR_none HN.out hbl
        | false =>
          have HG3 := Lib.hid ((if_neg (by rw [← HVS.out]; decide)).symm.trans HG2.out)
          have hvn : valN l x = none := isSome_f HVS.out.symm
          go_wp2_with (first
            | (refine kB.mono ?_; rintro e w9 ⟨rfl, rfl⟩)
            | (refine wp_mapput rfl _ _ _ rfl rfl hME x y rfl rfl hx32 hy32 hvn hlen3 ?_
               intro w7 hM7 hgr7
               go_frame))
          go_roundw
          case rel =>
            have hT7 := hTE.aside hgr7 (fun l e => .inr (by injection e with e; omega))
            have hbl7 := below_only hbl hgr7 hgmB hszE
            refine ⟨i + 1, l ++ [(x, y)], hbl7, Nat.le_trans hszE hgr7.size, has_grown hCE.tb hgr7 (fun l e => by injection e with e; omega), hT7, hM7, by rw [List.length_append, HLEN.out]; rfl, fun b' e => ?_⟩
            injection e with e
            subst e
            have := HLE.out
            refine ⟨?_, by omega, ?_⟩
            · rw [show b.length / 8 + 1 - (i + 1) = b.length / 8 - i by omega, show 8 * (i + 1) = 8 * i + 8 by omega]
              exact HG3.out
            · exact HB6.out
          case measure =>
            have hT7 := hTE.aside hgr7 (fun l e => .inr (by injection e with e; omega))
            have hl7 := left_of hT7 HLE.out
            have := HLE.out
            rw [hl7, HM8.out]
            omega
end Go.Proofs.Ytfdoloonllhodaa
