/-
Layer 9, package dyn: the relocations.
-/
import Derived.Test.YtfdoloonllhodaaJDzE
namespace Go.Proofs.Ytfdoloonllhodaa
open Go Go.RowKit

def relO (o : Option (List UInt8)) (n : Nat) : List Rl := (List.range n).map fun i => rlO o (12 * i)
theorem relO_succ (o : Option (List UInt8)) (n : Nat) : relO o (n + 1) = relO o n ++ [rlO o (12 * n)] := by simp [relO, List.range_succ]
theorem relO_some (b : List UInt8) (n : Nat) : relO (some b) n = relG b n := rfl
theorem rlO_f (o : Option (List UInt8)) (q : Nat) : RlF (rlO o q) := by
  have h := nmO_lt o (q + 4)
  refine ⟨nmO_lt _ _, ?_, ?_, nmO_lt _ _⟩
  · show nmO o (q + 4) % 256 < 256; omega
  · show nmO o (q + 4) / 256 < 16777216; omega
theorem rels_of {ss : List Sg} {l : List (Nat × Nat)} {m x z : Nat} (h7 : (valN l 7).isSome = true) (hx : x = (valN l 7).getD 0) (hz : z = (valN l 8).getD 0) (h9 : (valN l 9).getD 0 = 12) (hm : z % 12 = 0) (h768 : z ≤ 768) :
    relsN ss l m = (adO ss x z).bind fun b => if (relG b (z / 12)).all (rlB m) = true then some (relG b (z / 12)) else none := by
  subst hx
  rw [rels_in h7 hz, if_neg (by rw [h9]; omega)]
  unfold adO
  by_cases h0 : z = 0
  · rw [if_pos h0, if_pos h0, h0]
    rfl
  · rw [if_neg h0, if_neg h0]
    show _ = Option.bind (adN ss ((valN l 7).getD 0) z) _
    cases adN ss ((valN l 7).getD 0) z <;> rfl
/-- the relocations' loop -/
structure ReL (w0 : World) (L : Nat) (p : Option Nat) (o : Option (List UInt8)) (gt m : Nat) (v : Value) (i : Nat) (w : World) : Prop where
  own : w.ownsRow L 43 4 v i (cellsL 4 rlE (relO o i))
  tb : TbP w0.heap.size L p o (12 * i) w
  tc : Has w gt 101 #[pV p]
  bel : Below w0.heap.size w0 w
  siz : L ≤ w.heap.size
  all : (relO o i).all (rlB m) = true
/-- what readRelas answers -/
def ReR (w : World) (r : Option (List Rl)) (e : Ending) (w' : World) : Prop :=
  (∃ A n c L, e = .returned (.tuple #[.slice A n c, .bool r.isSome]) ∧ w.heap.size ≤ L ∧ w'.ownsRow L 43 4 (.slice A n c) n (cellsL 4 rlE (r.getD []))) ∧ Below w.heap.size w w'
theorem reR_none {w w' : World} {r : Option (List Rl)} (h : r = none) (hb : Below w.heap.size w w') : ReR w r (.returned (.tuple #[.slice none 0 0, .bool false])) w' := by
  subst h
  exact ⟨⟨none, 0, 0, w.heap.size, rfl, Nat.le_refl _, World.ownsRow_nil _ _ _ _⟩, hb⟩
theorem reR_nil {w w' : World} {r : Option (List Rl)} (h : r = some []) (hb : Below w.heap.size w w') : ReR w r (.returned (.tuple #[.slice none 0 0, .bool true])) w' := by
  subst h
  exact ⟨⟨none, 0, 0, w.heap.size, rfl, Nat.le_refl _, World.ownsRow_nil _ _ _ _⟩, hb⟩
theorem reR_some {w w' : World} {r : Option (List Rl)} {A : Option Addr} {n c L : Nat} {xs : List Rl} (h : r = some xs) (ho : w'.ownsRow L 43 4 (.slice A n c) n (cellsL 4 rlE xs)) (hL : w.heap.size ≤ L) (hb : Below w.heap.size w w') : ReR w r (.returned (.tuple #[.slice A n c, .bool true])) w' := by
  subst h
  exact ⟨⟨A, n, c, L, rfl, hL, ho⟩, hb⟩
set_option maxRecDepth 100000 in
set_option maxHeartbeats 1000000 in
theorem drelas_any (ss : List Sg) (s : Sl) (gm : Nat) (l : List (Nat × Nat)) (y : Nat) (w : World) (hS : SlS w s ss) (hm : ss.length ≤ 5) (hd : ∀ g ∈ ss, g.d < 4294967296) (hlb : ∀ g ∈ ss, g.b.length ≤ 100000) (hM : MpL w gm l) (hl : ∀ q ∈ l, q.2 < 4294967296) (_hy : y ≤ 64) :
    Calls Try.prog 18 #[s.v, .map (some gm), .int .i64 (y : Int)] w fun e w' => ReR w (relsN ss l y) e w' := by
  have hlk7 := hM.look_ok (t := 7) (by decide)
  rw [show ((7 : Nat) : Int) = 7 from rfl] at hlk7
  have hlk8 := hM.look (t := 8) (by decide)
  rw [show ((8 : Nat) : Int) = 8 from rfl] at hlk8
  have hlk9 := hM.look (t := 9) (by decide)
  rw [show ((9 : Nat) : Int) = 9 from rfl] at hlk9
  have hx32 := valD_lt (t := 7) hl (by decide)
  have hz32 := valD_lt (t := 8) hl (by decide)
  have hu32 := valD_lt (t := 9) hl (by decide)
  have h0 := fun h h2 => rels_0 (ss := ss) (l := l) (m := y) h h2
  have h1 := fun h h2 => rels_1 (ss := ss) (l := l) (m := y) h h2
  have h2 := fun h h2 => rels_2 (ss := ss) (l := l) (m := y) h (hz := rfl) h2
  have h3 := fun h h2 h3 h4 => rels_of (ss := ss) (l := l) (m := y) h rfl rfl h2 h3 h4
  have kT := fun (a n : Nat) w' (hb : Below w.heap.size w w') (ha : a < 4294967296) (hn : n < 4294967296) => tat_any ss s a n w' (hS.below hb) hm ha hn hd hlb
  have hal : ∀ a n b, adO ss a n = some b → b.length = n := fun a n b h => by
    unfold adO at h
    split at h
    · rename_i h0
      injection h with h
      rw [← h, h0]
      rfl
    · exact adN_len h
  obtain ⟨x, hx⟩ : ∃ x, x = (valN l 7).getD 0 := ⟨_, rfl⟩
  obtain ⟨z, hz⟩ : ∃ z, z = (valN l 8).getD 0 := ⟨_, rfl⟩
  obtain ⟨u, hu⟩ : ∃ z, z = (valN l 9).getD 0 := ⟨_, rfl⟩
  obtain ⟨b7, hb7⟩ : ∃ x, x = (valN l 7).isSome := ⟨_, rfl⟩
  obtain ⟨r, hr⟩ : ∃ x, x = relsN ss l y := ⟨_, rfl⟩
  rw [← hx] at hlk7 hx32
  rw [← hz] at hlk8 hz32
  rw [← hu] at hlk9 hu32
  rw [← hb7] at hlk7
  simp only [← hb7, ← hr, ← hx, ← hz, ← hu] at h0 h1 h2 h3
  rw [← hr]
  have H0 := Lib.hid h0
  have H1 := Lib.hid h1
  have H2 := Lib.hid h2
  have H3 := Lib.hid h3
  have HT := Lib.hid kT
  have HAL := Lib.hid hal
  obtain ⟨As, m, cs, rfl⟩ := s.out
  rw [show Sl.v ⟨As, m, cs⟩ = .slice As m cs from rfl] at HT ⊢
  clear hS hm hd hlb hM hl hx hz hu hb7 hr h0 h1 h2 h3 kT hal
  go_enter Try.func18, Try.ntmps18
  cases b7 with
  | false =>
    by_cases hz0 : z = 0
    · have dz : ((z : Int) == 0) = true := by simp [hz0]
      have HR := Lib.hid (H0.out rfl hz0)
      clear H0 H1 H2 H3 HT HAL hz0
      go_wp2_with fail
      go_ret2
      exact reR_nil HR.out (Below.refl _ _)
    · have dz : ((z : Int) == 0) = false := by simp; omega
      have HR := Lib.hid (H1.out rfl hz0)
      clear H0 H1 H2 H3 HT HAL hz0
      go_wp2_with fail
      go_ret2
      exact reR_none HR.out (Below.refl _ _)
  | true =>
    clear H0 H1
    replace H2 := Lib.hid (H2.out rfl)
    replace H3 := Lib.hid (H3.out rfl)
    by_cases hu12 : ¬ u = 12
    · have du : ((u : Int) != 12) = true := by simp only [bne_iff_ne, ne_eq]; omega
      have HR := Lib.hid (H2.out (.inl hu12))
      clear H2 H3 HT HAL hu12
      go_wp2_with fail
      go_ret2
      exact reR_none HR.out (Below.refl _ _)
    replace hu12 : u = 12 := by omega
    have du : ((u : Int) != 12) = false := by simp only [bne_eq_false_iff_eq]; omega
    replace H3 := Lib.hid (H3.out hu12)
    by_cases hz12 : ¬ z % 12 = 0
    · have dz : ((z : Int) % 12 != 0) = true := by simp only [bne_iff_ne, ne_eq]; omega
      have HR := Lib.hid (H2.out (.inr (.inl hz12)))
      clear H2 H3 HT HAL hz12 hu12
      go_wp2_with fail
      go_ret2
      exact reR_none HR.out (Below.refl _ _)
    replace hz12 : z % 12 = 0 := by omega
    have dz : ((z : Int) % 12 != 0) = false := by simp only [bne_eq_false_iff_eq]; omega
    by_cases hz768 : 768 < z
    · have dz2 : 768 < (z : Int) := by omega
      have HR := Lib.hid (H2.out (.inr (.inr (.inl hz768))))
      clear H2 H3 HT HAL hz12 hu12 hz768
      go_wp2_with fail
      go_ret2
      exact reR_none HR.out (Below.refl _ _)
    have dz2 : (z : Int) ≤ 768 := by omega
    obtain ⟨n, hn⟩ : ∃ n, n = z / 12 := ⟨_, rfl⟩
    have hn64 : n ≤ 64 := by omega
    have dn64 : (n : Int) ≤ 64 := by omega
    have dq : (z : Int) / 12 = (n : Int) := by omega
    have hzn : z = 12 * n := by omega
    have HR := Lib.hid (H3.out hz12 (by omega))
    obtain ⟨o, ho⟩ : ∃ o, o = adO ss x z := ⟨_, rfl⟩
    have HAL2 : Hid (∀ b, o = some b → b.length = 12 * n) := Lib.hid (fun b h => by rw [← hzn]; exact HAL.out x z b (by rw [← ho, h]))
    replace HR : Hid (r = o.bind fun b => if (relG b n).all (rlB y) = true then some (relG b n) else none) := Lib.hid (by rw [ho, hn]; exact HR.out)
    have kT := HT.out x z w (Below.refl _ _) hx32 hz32
    rw [← ho] at kT
    clear H2 H3 HT HAL ho hz12 hu12 hz768 hn hzn
    go_wp2_with fail
    refine kT.mono ?_
    rintro e u2 ⟨⟨p, rfl, hT⟩, hb12⟩
    clear kT
    go_upto_region 8 with (refine wp_freshT p _ _ rfl rfl rfl rfl rfl rfl ?_; intro u3 hG3 hb3 hz3)
    have hT3 := hT.after hb3
    have hb13 := below_trans hb12 (hb3.mono (Nat.le_refl _))
    have hs2 := hb12.size
    have hpB : ∀ g, p = some g → w.heap.size ≤ g ∧ g < u2.heap.size := fun g e => ⟨(hT3.gB g e).1, (hT3.gB g e).2.1⟩
    obtain ⟨gt, hgt⟩ : ∃ x, x = u2.heap.size := ⟨_, rfl⟩
    rw [← hgt] at hG3 hT3 hz3 hpB ⊢
    have hne : ∀ g, p = some g → gt ≠ g := fun g e => by have := (hpB g e).2; omega
    have hwgt : w.heap.size ≤ gt := by omega
    obtain ⟨L, hL⟩ : ∃ x, x = gt := ⟨_, rfl⟩
    rw [← hL] at hT3
    have hwL : w.heap.size ≤ L := by omega
    have HI : Hid (ReL w L p o gt y (.slice none 0 0) 0 u3) := Lib.hid ⟨World.ownsRow_nil _ _ _ _, hT3, hG3, hb13, by omega, rfl⟩
    clear hT hb3 hb12 hG3 hT3 hb13 hgt hz3 hs2 hlk7 hlk8 hlk9 hL
    go_wp2_with fail
    go_loopw [12, 43] (fun va ct wr => ∃ i : Nat, i ≤ n ∧ ct = .int .u32 (i : Int) ∧ ReL w L p o gt y va i wr) (fun _ ct _ => (n - (intOf ct)).toNat)
    case atStart => exact ⟨0, Nat.zero_le _, rfl, HI.out⟩
    case round =>
      obtain ⟨i, hi, rfl, hO⟩ := hrel
      clear HI
      by_cases hlt : i < n
      · have di : (i : Int) < (n : Int) := by omega
        have kS := drela_any hO.tb hO.siz
        have hG := hO.tc
        obtain ⟨Av, cv, rfl⟩ := own_form hO.own
        have HO := Lib.hid hO
        have hi64 : i + 1 ≤ 64 := by omega
        have hrf := rlO_f o (12 * i)
        obtain ⟨rr, hrr⟩ : ∃ y, y = rlO o (12 * i) := ⟨_, rfl⟩
        rw [← hrr] at kS hrf
        have HY := Lib.hid hrr
        have hs24 := hrf.s
        clear hO hrr
        go_wp2_with (refine wpList_load_has 101 _ rfl _ rfl rfl 101 _ hG _ Try.underlying101 rfl (infoTB _) ?_)
        refine kS.mono ?_
        rintro e v1 ⟨rfl, hT1, hg1⟩
        have hown1 := own_p HO.out.own HO.out.tb (by decide) hg1
        have hG1 := has_grown HO.out.tc hg1 hne
        have hb1 := below_p HO.out.bel hg1 (fun g e => (hpB g e).1) HO.out.bel.size
        have hL1 := Nat.le_trans HO.out.siz hg1.size
        clear kS
        go_upto_region 12 with (refine wp_fresh 43 4 _ _ _ _ rfl rfl rfl rfl zeroRE infoRE4 (by omega) (rlE_one _) rfl rfl ?_; intro v2 hR2 hb2 hz2)
        have hown2 := own_after hown1 hb2
        have hG2 := hG1.after hb2
        have hb12 := below_trans hb1 (hb2.mono (Nat.le_refl _))
        have hL2 := Nat.le_trans hL1 hb2.size
        have hT2 := hT1.after hb2
        have hc2 : v2.cell? ⟨_, 2, none⟩ = some (.int .i64 (rr.s : Int)) := hR2.cellTab 2 (by omega)
        obtain ⟨gr, hgr⟩ : ∃ x, x = v1.heap.size := ⟨_, rfl⟩
        rw [← hgr] at hR2 hc2 hz2 ⊢
        clear hgr hb2 hz2 hT1 hG1 hown1 hb1 hL1
        by_cases hbad : rr.s ≠ 0 ∧ y ≤ rr.s
        · have d1 : ((rr.s : Int) != 0) = true := by simp only [bne_iff_ne, ne_eq]; omega
          have d2 : (y : Int) ≤ (rr.s : Int) := by omega
          have HN : Hid (r = none) := Lib.hid (by
            rw [HR.out]
            cases o with
            | none => rfl
            | some b =>
              have hx : rlB y (rlA b (12 * i)) = false := by
                rw [show rlA b (12 * i) = rr from HY.out.symm]
                exact decide_eq_false (by omega)
              show (if (relG b n).all (rlB y) = true then _ else none) = none
              rw [rel_bad hlt hx]
              rfl)
          clear hbad
          go_wp2_with fail
          go_ret2
          exact reR_none HN.out hb12
        · have hok : Hid (rlB y rr = true) := Lib.hid (decide_eq_true (by omega))
          have d12 : ((rr.s : Int) != 0) = false ∨ ((rr.s : Int) != 0) = true ∧ (rr.s : Int) < (y : Int) := by
            by_cases h0 : rr.s = 0
            · exact .inl (by simp only [bne_eq_false_iff_eq]; omega)
            · exact .inr ⟨by simp only [bne_iff_ne, ne_eq]; omega, by omega⟩
          clear hbad
          rcases d12 with d1 | ⟨d1, d2⟩
          all_goals
            go_wp2_with (first
              | (refine wpList_load_has 43 _ rfl _ rfl rfl 43 _ hR2 _ Try.underlying43 rfl (infoREt _) ?_)
              | (refine wp_build_el Try.underlying36 infoRE (by decide) (by decide) rfl _ rfl rr rfl ?_
                 intro w6 hw6
                 have hb6 : Below v2.heap.size v2 w6 := by subst hw6; exact (Below.refl _ _).alloc (Nat.le_refl _) _
                 have hH6 : Has w6 v2.heap.size 43 (tab 4 (rlE rr)) := by subst hw6; exact Has.new _ _ _
                 have hown6 := own_after hown2 hb6
                 have hb16 := below_trans hb12 (hb6.mono (Nat.le_refl _))
                 have hL6 := Nat.le_trans hL2 hb6.size
                 clear hw6)
              | (refine wp_append_el Try.underlying36 infoRE rfl (by decide) (by decide) rlE_one rfl _ _ rfl L _ i (relO o i) rfl hown6 v2.heap.size rfl rr hH6 (by omega) hL6 ?_
                 intro v7 w7 hown7 hgr7))
            go_roundw
            case rel =>
              refine ⟨i + 1, hlt, by go_num, ⟨?_, ?_, ?_, below_own hb16 hown6 hwL hb16.size hgr7, Nat.le_trans hL6 hgr7.size, ?_⟩⟩
              · rw [relO_succ, ← HY.out]
                exact hown7
              · rw [show 12 * (i + 1) = 12 * i + 12 by omega]
                exact (hT2.after hb6).aside hgr7 fun l e => .inr (own_blk hown6 e).1
              · exact has_grown (hG2.after hb6) hgr7 (own_has hown6 (hG2.after hb6) (by decide))
              · rw [relO_succ, ← HY.out, List.all_append, HO.out.all]
                simp [hok.out]
            case measure => simp [intOf] <;> omega
      · obtain rfl : i = n := by omega
        have kB := hO.tb.bad
        have hct := hO.tc.cell 0
        obtain ⟨Av, cv, rfl⟩ := own_form hO.own
        have HO := Lib.hid hO
        clear hO hlt
        cases o with
        | none =>
          have HN : Hid (r = none) := Lib.hid HR.out
          rw [show bdO none (12 * i) = true from rfl] at kB
          go_wp2_with (refine kB.mono ?_; rintro e w9 ⟨rfl, rfl⟩)
          go_ret2
          exact reR_none HN.out HO.out.bel
        | some b =>
          have HN : Hid (r = some (relG b i)) := Lib.hid (by
            rw [HR.out]
            show (if (relG b i).all (rlB y) = true then some (relG b i) else none) = _
            rw [if_pos (show (relG b i).all (rlB y) = true from HO.out.all)])
          have hbl := HAL2.out b rfl
          rw [show bdO (some b) (12 * i) = false from decide_eq_false (by omega)] at kB
          clear hbl
          go_wp2_with (refine kB.mono ?_; rintro e w9 ⟨rfl, rfl⟩)
          go_ret2
          exact reR_some HN.out HO.out.own hwL HO.out.bel
end Go.Proofs.Ytfdoloonllhodaa
