/-
Layer 9, package dyn: Read; what package dyn's call answers.
-/
import Derived.Test.YtfdoloonllhodaaJDzH
import Derived.Test.YtfdoloonllhodaaJDyDa
namespace Go.Proofs.Ytfdoloonllhodaa
open Go Go.RowKit

theorem infoFI (en : Nat) (s r y : Sl) : (Try.prog.info? 38).map (·.size) = some (fiC en s r y).size := by kernel_rfl
theorem fiC_all (en : Nat) (s r y : Sl) : (fiC en s r y).all (·.oneCell') = true := by simp [fiC, Sl.v, Value.oneCell']
def nl : Sl := ⟨none, 0, 0⟩
theorem fiC_zero : (#[.int .u32 0, .slice none 0 0, .slice none 0 0, .slice none 0 0] : Array Value) = fiC 0 nl nl nl := by kernel_rfl
theorem fiC_lit (en : Nat) (As Ar Ay : Option Addr) (m cs n cr k cy : Nat) : (#[.int .u32 (en : Int), .slice As m cs, .slice Ar n cr, .slice Ay k cy] : Array Value) = fiC en ⟨As, m, cs⟩ ⟨Ar, n, cr⟩ ⟨Ay, k, cy⟩ := by kernel_rfl
/-- what Read answers -/
def RdA (w : World) (x : Rd) (e : Ending) (w' : World) : Prop :=
  (∃ s r y, e = .returned (.tuple #[.agg (fiC x.en s r y), .int .i64 ((x.er : Nat) : Int)]) ∧ SlS w' s x.ss ∧ SlL w' r x.rl ∧ SlU w' y x.sy) ∧ Below w.heap.size w w'
theorem rdA_bad {w w' : World} {x : Rd} {e : Nat} (h : x = rdE e) (hb : Below w.heap.size w w') : RdA w x (.returned (.tuple #[.agg (fiC 0 nl nl nl), .int .i64 (e : Int)])) w' := by
  subst h
  exact ⟨⟨nl, nl, nl, rfl, slS_nil _, slL_nil _, slU_nil _⟩, hb⟩
theorem rdA_ok {w w' : World} {x : Rd} {en : Nat} {ss : List Sg} {sy : List Nat} {rl : List Rl} {s r y : Sl} (h : x = ⟨en, ss, sy, rl, 0⟩) (hs : SlS w' s ss) (hr : SlL w' r rl) (hy : SlU w' y sy) (hb : Below w.heap.size w w') : RdA w x (.returned (.tuple #[.agg (fiC en s r y), .int .i64 0])) w' := by
  subst h
  exact ⟨⟨s, r, y, rfl, hs, hr, hy⟩, hb⟩
theorem at_he0 (b o n c : Nat) (hn : 0 < (n : Int)) (w : World) : (Instr.indexAt 67 (.slice (some ⟨b, o, none⟩) n c) (.int .i64 0)).run Try.prog w = .ok (.pointer (some ⟨b, o, none⟩)) w := by
  have h := atE' b o n c 0 hn w
  rw [Nat.zero_mul, Nat.add_zero] at h
  exact h
theorem cellFi {w : World} {g : Nat} {en : Nat} {s r y : Sl} (h : Has w g 38 (fiC en s r y)) (o : Nat) (v : Value) (hv : w.cell? ⟨g, o, none⟩ = some v) : (o = 0 ∧ v = .int .u32 (en : Int)) ∨ ∃ x : Sl, v = x.v := by
  have h1 := h.cell o
  rw [hv] at h1
  match o, h1 with
  | 0, h1 => exact .inl ⟨rfl, by simpa [fiC] using h1⟩
  | 1, h1 => exact .inr ⟨s, by simpa [fiC] using h1⟩
  | 2, h1 => exact .inr ⟨r, by simpa [fiC] using h1⟩
  | 3, h1 => exact .inr ⟨y, by simpa [fiC] using h1⟩
  | k + 4, h1 => simp [fiC] at h1
/-- segments do not lie in a file's cells -/
theorem slA_fi {w w' : World} {g : Nat} {en : Nat} {s r y : Sl} {A : Option Addr} {n c : Nat} {bs : List UInt8} (h : Has w g 38 (fiC en s r y)) (hs : SlA w A n c bs) (k : w.grownBy w' (some g)) : SlA w' A n c bs := by
  refine hs.grown k fun b o e h0 e2 => ?_
  injection e2 with e2
  subst e2
  obtain ⟨b', o', e', _, hc⟩ := hs.2.2 h0
  rw [e] at e'
  injection e' with e'
  injection e' with e3 e4
  subst e3 e4
  rcases cellFi h _ _ (hc 0 h0) with ⟨_, h2⟩ | ⟨x, h2⟩
  · cases h2
  · cases h2
theorem slS_fi {w w' : World} {g : Nat} {en : Nat} {s r y : Sl} {x : Sl} {ss : List Sg} (h : Has w g 38 (fiC en s r y)) (hs : SlS w x ss) (k : w.grownBy w' (some g)) : SlS w' x ss := by
  obtain ⟨h1, T, h2, h3⟩ := hs
  refine ⟨h1, T, h2.grown k fun b o e h0 e2 => ?_, fun j hj => ⟨slA_fi h (h3 j hj).1 k, (h3 j hj).2⟩⟩
  injection e2 with e2
  subst e2
  obtain ⟨b', o', e', _, hc⟩ := h2.2 h0
  rw [e] at e'
  injection e' with e'
  injection e' with e3 e4
  subst e3 e4
  have h4 := hc 0 2 h0 (by omega)
  rcases cellFi h _ _ h4 with ⟨h5, _⟩ | ⟨x, h5⟩
  · omega
  · cases h5
/-- what Read's further walk keeps -/
structure FiW (w0 : World) (gr gf en : Nat) (ss : List Sg) (s r y : Sl) (w : World) : Prop where
  res : Has w gr 38 (fiC 0 nl nl nl)
  out : Has w gf 38 (fiC en s r y)
  bel : Below w0.heap.size w0 w
  ne : gr ≠ gf
  rB : w0.heap.size ≤ gr
  fB : w0.heap.size ≤ gf
  seg : SlS w s ss
section
variable {w0 w w' : World} {gr gf en : Nat} {ss : List Sg} {s r y : Sl}
theorem FiW.after (h : FiW w0 gr gf en ss s r y w) (k : Below w.heap.size w w') : FiW w0 gr gf en ss s r y w' := ⟨h.res.after k, h.out.after k, h.bel.trans (k.mono h.bel.size), h.ne, h.rB, h.fB, h.seg.below k⟩
theorem FiW.put (h : FiW w0 gr gf en ss s r y w) {r' y' : Sl} (k : w.grownBy w' (some gf)) (hG : Has w' gf 38 (fiC en s r' y')) : FiW w0 gr gf en ss s r' y' w' :=
  ⟨has_grown h.res k (fun l e => by injection e with e; rw [← e]; exact h.ne), hG, below_only h.bel k h.fB h.bel.size, h.ne, h.rB, h.fB, slS_fi h.out h.seg k⟩
theorem FiW.fin (h : FiW w0 gr gf en ss s r y w) (k : w.grownBy w' (some gr)) : Below w0.heap.size w0 w' := below_only h.bel k h.rB h.bel.size
end
theorem own_fi {w w' : World} {gr : Nat} {en : Nat} {s r y : Sl} {L n : Nat} {t : TypeId} {k : Nat} {v : Value} {xs : List Value} (h : Has w gr 38 (fiC en s r y)) (ho : w.ownsRow L t k v n xs) (ht : 38 ≠ t) (kk : w.grownBy w' (some gr)) : w'.ownsRow L t k v n xs := own_other ho h ht kk
theorem own_len {w : World} {L n : Nat} {t : TypeId} {k : Nat} {v : Value} {xs : List Value} (h : w.ownsRow L t k v n xs) : xs.length = n * k := h.1
set_option maxRecDepth 100000 in
set_option maxHeartbeats 1000000 in
theorem dread_any (bs : List UInt8) (A : Option Addr) (n c : Nat) (w : World) (hS : SlA w A n c bs) (hl : bs.length ≤ 100000) :
    Calls Try.prog 10 #[.slice A n c] w fun e w' => RdA w (readN bs) e w' := by
  have kS := fun w' (hb : Below w.heap.size w w') => esegs_any bs A n c w' (hS.below hb) hl
  have hwf := segs_wf bs
  have hdw := segs_dwf (bs := bs)
  have hbl := segs_bl (bs := bs)
  have hrd : readN bs = if (segsN bs).2.2.2 = 0 then readG (segsN bs).1 (segsN bs).2.1 (segsN bs).2.2.1 else rdE (segsN bs).2.2.2 := rfl
  unfold SegsR at kS
  obtain ⟨x, hx⟩ : ∃ x, x = readN bs := ⟨_, rfl⟩
  obtain ⟨en, hen⟩ : ∃ x, x = (segsN bs).1 := ⟨_, rfl⟩
  obtain ⟨ss, hss⟩ : ∃ x, x = (segsN bs).2.1 := ⟨_, rfl⟩
  obtain ⟨ds, hds⟩ : ∃ x, x = (segsN bs).2.2.1 := ⟨_, rfl⟩
  obtain ⟨er, her⟩ : ∃ x, x = (segsN bs).2.2.2 := ⟨_, rfl⟩
  simp only [← hen, ← hss, ← hds, ← her] at kS
  rw [← hen, ← hss, ← hds, ← her] at hwf
  rw [← hx, ← hen, ← hss, ← hds, ← her] at hrd
  rw [← hss] at hbl
  rw [← her, ← hds] at hdw
  rw [← hx]
  obtain ⟨hen32, her9, hss5, hds5, hsf⟩ := hwf
  have HRD := Lib.hid hrd
  have HDW := Lib.hid hdw
  have HSD : Hid (ss.length ≤ 5 ∧ (∀ g ∈ ss, g.d < 4294967296) ∧ ∀ g ∈ ss, g.b.length ≤ 100000) := Lib.hid ⟨hss5, fun g hg => (hsf g hg).1, fun g hg => Nat.le_trans (hbl g hg) hl⟩
  have HDS5 := Lib.hid hds5
  clear hx hen hss hds her hrd hsf hbl hdw hss5 hds5 hS hl
  go_enter Try.func10, Try.ntmps10
  go_wp2_with fail
  have hR : Has (w.alloc (.cells #[.int .u32 0, .slice none 0 0, .slice none 0 0, .slice none 0 0] 38)) w.heap.size 38 (fiC 0 nl nl nl) := by
    rw [← fiC_zero]
    exact Has.new _ _ _
  have hb0 : Below w.heap.size w (w.alloc (.cells #[.int .u32 0, .slice none 0 0, .slice none 0 0, .slice none 0 0] 38)) := (Below.refl _ _).alloc (Nat.le_refl _) _
  generalize w.alloc (.cells #[.int .u32 0, .slice none 0 0, .slice none 0 0, .slice none 0 0] 38) = w0 at *
  obtain ⟨gr, hgr⟩ : ∃ x, x = w.heap.size := ⟨_, rfl⟩
  have hgrB : w.heap.size ≤ gr := by omega
  rw [← hgr] at hR ⊢
  clear hgr
  refine (kS w0 hb0).mono ?_
  rintro e u ⟨⟨s, t, rfl, hT, hJ⟩, hbu⟩
  replace hR := hR.after hbu
  have hgrl := hR.lt
  have hwu := hb0.trans (hbu.mono hb0.size)
  clear kS hb0 hbu
  obtain ⟨As, ms, cs5, rfl⟩ := s.out
  obtain ⟨Ad, md, cd, rfl⟩ := t.out
  rw [show Sl.v ⟨As, ms, cs5⟩ = .slice As ms cs5 from rfl, show Sl.v ⟨Ad, md, cd⟩ = .slice Ad md cd from rfl]
  have HT := Lib.hid hT
  have HJ := Lib.hid hJ
  have hmd5 : md ≤ 5 := by have := HDS5.out; have h1 : ds.length = md := hJ.1; omega
  clear hT hJ
  by_cases her0 : er = 0
  · have dn : ((er : Int) != 0) = false := by simp [her0]
    have HX : Hid (x = readG en ss ds) := Lib.hid (by rw [HRD.out, if_pos her0])
    replace HDW := Lib.hid (HDW.out her0)
    clear HRD her0
    go_upto_region 5 with fail
    have hF : Has (u.alloc (.cells #[.int .u32 (en : Int), .slice As ms cs5, .slice none 0 0, .slice none 0 0] 38)) u.heap.size 38 (fiC en ⟨As, ms, cs5⟩ nl nl) := Has.new _ _ _
    have hb1 : Below u.heap.size u (u.alloc (.cells #[.int .u32 (en : Int), .slice As ms cs5, .slice none 0 0, .slice none 0 0] 38)) := (Below.refl _ _).alloc (Nat.le_refl _) _
    generalize u.alloc (.cells #[.int .u32 (en : Int), .slice As ms cs5, .slice none 0 0, .slice none 0 0] 38) = u1 at *
    obtain ⟨gf, hgf⟩ : ∃ x, x = u.heap.size := ⟨_, rfl⟩
    rw [← hgf] at hF ⊢
    have hne : gr ≠ gf := by omega
    have hgfB : w.heap.size ≤ gf := by have := hwu.size; omega
    have hwu1 := hwu.trans (hb1.mono hwu.size)
    have hR1 := hR.after hb1
    have hT1 := HT.out.below hb1
    have hJ1 := HJ.out.below hb1
    clear hgf hgrl hR hb1 HT HJ hwu
    by_cases hmd0 : md = 0
    · have dz : ((md : Int) == 0) = true := by simp [hmd0]
      have hdl : ds.length = md := hJ1.1
      have hd0 : ds = [] := List.eq_nil_of_length_eq_zero (by omega)
      replace HX : Hid (x = ⟨en, ss, [], [], 0⟩) := Lib.hid (by rw [HX.out, hd0]; rfl)
      clear hd0 hdl hmd0
      go_wp2_with (first
        | (refine wpList_load_has 38 _ rfl _ rfl rfl 38 _ hF _ Try.underlying38 rfl (infoFI _ _ _ _) ?_)
        | (refine wp_store_cs rfl 38 _ _ rfl gr rfl (fiC en ⟨As, ms, cs5⟩ nl nl) rfl _ (by rfl) (infoFI _ _ _ _) (fiC_all _ _ _ _) hR1 ?_; intro wz hz hgz))
      exact bodyPost_ret (v := .tuple #[.agg (fiC en ⟨As, ms, cs5⟩ nl nl), .int .i64 0]) (results_cell_tmp rfl _ _ gr 38 _ _ _ rfl rfl hz Try.underlying38 rfl (infoFI _ _ _ _)) rfl (rdA_ok HX.out (slS_fi hR1 hT1 hgz) (slL_nil _) (slU_nil _) (below_only hwu1 hgz hgrB hwu1.size))
    · have dz : ((md : Int) == 0) = false := by simp; omega
      have hW : FiW w gr gf en ss ⟨As, ms, cs5⟩ nl nl u1 := ⟨hR1, hF, hwu1, hne, hgrB, hgfB, hT1⟩
      obtain ⟨bd, od, hAd, hbdl, _⟩ := hJ1.2.2 (by show 0 < md; omega)
      replace hAd : Ad = some ⟨bd, od, none⟩ := hAd
      subst hAd
      have hrh := hJ1.2.range rfl (j := 0) (by show 0 < md; omega)
      rw [Nat.zero_mul, Nat.add_zero] at hrh
      change u1.rangeAt bd od ((List.range 6).map (hdE (ds.getD 0 hd0))) at hrh
      have hdm : ds.getD 0 hd0 ∈ ds := by
        have h1 : ds.length = md := hJ1.1
        rw [List.getD_eq_getElem?_getD, List.getElem?_eq_getElem (by omega)]
        exact List.getElem_mem _
      have hd := HDW.out _ hdm
      replace HX : Hid (x = readD en ss (ds.getD 0 hd0)) := Lib.hid (by
        rw [HX.out]
        cases ds with
        | nil => cases hdm
        | cons d r => rfl)
      generalize ds.getD 0 hd0 = d at *
      replace HX : Hid (x = match tgD ss d with
        | none => rdE 12
        | some l => readY en ss l) := Lib.hid (by rw [HX.out, readD_tg]; cases tgD ss d <;> rfl)
      have HTL : Hid (∀ l, tgD ss d = some l → ∀ q ∈ l, q.2 < 4294967296) := Lib.hid (fun l h => tgD_lt h)
      have hmp : 0 < (md : Int) := by omega
      have hat := fun w => at_he0 bd od md cd hmp w
      have kR := drtags_any ss ⟨As, ms, cs5⟩ d u1 hW.seg HSD.out.1 HSD.out.2.1 HSD.out.2.2 hd
      rw [show Sl.v ⟨As, ms, cs5⟩ = .slice As ms cs5 from rfl] at kR
      obtain ⟨tg, htg⟩ : ∃ x, x = tgD ss d := ⟨_, rfl⟩
      rw [← htg] at kR HX HTL
      have HW := Lib.hid hW
      clear hW hR1 hF hwu1 hT1 hJ1 hbdl hdm hd htg HDW hmp hmd0
      go_upto_region 7 with fail
      go_wp2_with (refine wp_load_he rfl _ rfl bd od rfl _ hrh ?_)
      refine kR.mono ?_
      rintro e u2 ⟨⟨gm, rfl, hg⟩, hb2⟩
      have hW2 := HW.out.after hb2
      clear kR hrh hat HW
      cases tg with
      | none =>
        replace HX : Hid (x = rdE 12) := HX
        have hR2 := hW2.res
        go_wp2_with (refine wp_store_cs rfl 38 _ _ rfl gr rfl (fiC 0 nl nl nl) (congrArg Value.agg fiC_zero) _ (by rfl) (infoFI _ _ _ _) (fiC_all _ _ _ _) hR2 ?_; intro wz hz hgz)
        exact bodyPost_ret (v := .tuple #[.agg (fiC 0 nl nl nl), .int .i64 12]) (results_cell_tmp rfl _ _ gr 38 _ _ _ rfl rfl hz Try.underlying38 rfl (infoFI _ _ _ _)) rfl (rdA_bad HX.out (hW2.fin hgz))
      | some l =>
        replace HX : Hid (x = readY en ss l) := HX
        obtain ⟨g, rfl, hM⟩ := hg l rfl
        have hl := HTL.out l rfl
        have kY := dsymbols_any ss ⟨As, ms, cs5⟩ g l u2 hW2.seg HSD.out.1 HSD.out.2.1 HSD.out.2.2 hM hl
        rw [show Sl.v ⟨As, ms, cs5⟩ = .slice As ms cs5 from rfl] at kY
        have HM := Lib.hid hM
        have HL := Lib.hid hl
        have HW := Lib.hid hW2
        have HSW : Hid (∀ r, symsN ss l = some r → r.length ≤ 64) := Lib.hid (fun r h => (syms_wf h).1)
        have HX0 : Hid (symsN ss l = none → x = rdE 12) := Lib.hid (fun h => by rw [HX.out]; exact readY_none h)
        obtain ⟨sy, hsy⟩ : ∃ y, y = symsN ss l := ⟨_, rfl⟩
        rw [← hsy] at kY HX0 HSW
        have HSY := Lib.hid hsy
        clear hM hl hW2 HTL hg hsy
        go_wp2_with fail
        refine kY.mono ?_
        rintro e u3 ⟨⟨Ay, ny, cy, Ly, rfl, hLy, hoy⟩, hb3⟩
        have hW3 := HW.out.after hb3
        clear kY HW
        have hf3 : u3.cell? ⟨gf, 3, none⟩ = some (.slice none 0 0) := hW3.out.cell 3
        have hfr3 := hW3.out.free 3
        have hF4 : Has (u3.setCell ⟨gf, 3, none⟩ (.slice Ay ny cy)) gf 38 (fiC en ⟨As, ms, cs5⟩ nl ⟨Ay, ny, cy⟩) := hW3.out.set 3 _
        have hg4 := only_setCell u3 gf 3 (.slice Ay ny cy)
        have hW4 := hW3.put hg4 hF4
        have hoy4 := own_fi hW3.out hoy (by decide) hg4
        have HM4 := Lib.hid ((HM.out.after hb3).kept hg4 (fun e => by injection e with e; exact (HM.out.after hb3).has_ne hW3.out e))
        go_upto_region 11 with fail
        generalize hu4 : u3.setCell ⟨gf, 3, none⟩ (.slice Ay ny cy) = u4 at *
        clear hu4 hf3 hfr3 hg4
        cases sy with
        | none =>
          have HXN := Lib.hid (HX0.out rfl)
          have hR4 := hW4.res
          go_wp2_with (refine wp_store_cs rfl 38 _ _ rfl gr rfl (fiC 0 nl nl nl) (congrArg Value.agg fiC_zero) _ (by rfl) (infoFI _ _ _ _) (fiC_all _ _ _ _) hR4 ?_; intro wz hz hgz)
          exact bodyPost_ret (v := .tuple #[.agg (fiC 0 nl nl nl), .int .i64 12]) (results_cell_tmp rfl _ _ gr 38 _ _ _ rfl rfl hz Try.underlying38 rfl (infoFI _ _ _ _)) rfl (rdA_bad HXN.out (hW4.fin hgz))
        | some sl =>
          have hsl := HSW.out sl rfl
          have hny : sl.length = ny := by have h1 := own_len hoy; rw [Option.getD_some, cellsL_len] at h1; omega
          have kZ := drelas_any ss ⟨As, ms, cs5⟩ g l ny _ hW4.seg HSD.out.1 HSD.out.2.1 HSD.out.2.2 HM4.out HL.out (by omega)
          rw [show Sl.v ⟨As, ms, cs5⟩ = .slice As ms cs5 from rfl] at kZ
          have HX1 : Hid (relsN ss l ny = none → x = rdE 12) := Lib.hid (fun h => by rw [HX.out]; exact readY_none2 HSY.out.symm (by rw [hny]; exact h))
          have HX2 : Hid (∀ r, relsN ss l ny = some r → x = ⟨en, ss, sl, r, 0⟩) := Lib.hid (fun r h => by rw [HX.out]; exact readY_some HSY.out.symm (by rw [hny]; exact h))
          have HRW : Hid (∀ r, relsN ss l ny = some r → r.length ≤ 64) := Lib.hid (fun r h => (rels_wf h).1)
          obtain ⟨rl, hrl⟩ : ∃ y, y = relsN ss l ny := ⟨_, rfl⟩
          rw [← hrl] at kZ HX1 HX2 HRW
          have hc3 : u4.cell? ⟨gf, 3, none⟩ = some (.slice Ay ny cy) := hW4.out.cell 3
          have HW := Lib.hid hW4
          have HOY := Lib.hid hoy4
          have HSN : Hid (sl.length = ny ∧ sl.length ≤ 64) := Lib.hid ⟨hny, hsl⟩
          clear hrl hW4 hoy4 hoy hW3 HX HX0 HSY HSW HM HM4 HL hb3 hb2 hny hsl hLy
          go_wp2_with fail
          refine kZ.mono ?_
          rintro e u5 ⟨⟨Ar, nr, cr, Lr, rfl, hLr, hor⟩, hb5⟩
          have hW5 := HW.out.after hb5
          have hoy5 := own_after HOY.out hb5
          clear kZ
          have hf5 : u5.cell? ⟨gf, 2, none⟩ = some (.slice none 0 0) := hW5.out.cell 2
          have hfr5 := hW5.out.free 2
          have hF6 : Has (u5.setCell ⟨gf, 2, none⟩ (.slice Ar nr cr)) gf 38 (fiC en ⟨As, ms, cs5⟩ ⟨Ar, nr, cr⟩ ⟨Ay, ny, cy⟩) := hW5.out.set 2 _
          have hg6 := only_setCell u5 gf 2 (.slice Ar nr cr)
          have hW6 := hW5.put hg6 hF6
          have hoy6 := own_fi hW5.out hoy5 (by decide) hg6
          have hor6 := own_fi hW5.out hor (by decide) hg6
          have hR6 := hW6.res
          clear hc3 hW5 hoy5 hor HW HOY
          go_upto_region 14 with fail
          generalize hu6 : u5.setCell ⟨gf, 2, none⟩ (.slice Ar nr cr) = u6 at *
          clear hu6 hf5 hfr5 hg6
          cases rl with
          | none =>
            have HXN := Lib.hid (HX1.out rfl)
            go_wp2_with (refine wp_store_cs rfl 38 _ _ rfl gr rfl (fiC 0 nl nl nl) (congrArg Value.agg fiC_zero) _ (by rfl) (infoFI _ _ _ _) (fiC_all _ _ _ _) hR6 ?_; intro wz hz hgz)
            exact bodyPost_ret (v := .tuple #[.agg (fiC 0 nl nl nl), .int .i64 12]) (results_cell_tmp rfl _ _ gr 38 _ _ _ rfl rfl hz Try.underlying38 rfl (infoFI _ _ _ _)) rfl (rdA_bad HXN.out (hW6.fin hgz))
          | some rs =>
            have HXS := Lib.hid (HX2.out rs rfl)
            have hrs := HRW.out rs rfl
            have hnr : rs.length = nr := by have h1 := own_len hor6; rw [Option.getD_some, cellsL_len] at h1; omega
            have HRN : Hid (rs.length = nr ∧ rs.length ≤ 64) := Lib.hid ⟨hnr, hrs⟩
            clear hnr hrs HX1 HX2 HRW
            go_wp2_with (first
              | (refine wpList_load_has 38 _ rfl _ rfl rfl 38 _ hF6 _ Try.underlying38 rfl (infoFI _ _ _ _) ?_)
              | (refine wp_store_cs rfl 38 _ _ rfl gr rfl (fiC en ⟨As, ms, cs5⟩ ⟨Ar, nr, cr⟩ ⟨Ay, ny, cy⟩) rfl _ (by rfl) (infoFI _ _ _ _) (fiC_all _ _ _ _) hR6 ?_; intro wz hz hgz))
            have hoy7 := own_fi hR6 hoy6 (by decide) hgz
            have hor7 := own_fi hR6 hor6 (by decide) hgz
            exact bodyPost_ret (v := .tuple #[.agg (fiC en ⟨As, ms, cs5⟩ ⟨Ar, nr, cr⟩ ⟨Ay, ny, cy⟩), .int .i64 0]) (results_cell_tmp rfl _ _ gr 38 _ _ _ rfl rfl hz Try.underlying38 rfl (infoFI _ _ _ _)) rfl
              (rdA_ok HXS.out (slS_fi hR6 hW6.seg hgz) (own_slC hor7 (by decide) (by have := HRN.out; omega) rl0) (own_slC hoy7 (by decide) (by have := HSN.out; omega) 0) (hW6.fin hgz))
  · have dn : ((er : Int) != 0) = true := by simp; omega
    have HX : Hid (x = rdE er) := Lib.hid (by rw [HRD.out, if_neg her0])
    clear her0 HRD HT HJ
    go_wp2_with (refine wp_store_cs rfl 38 _ _ rfl gr rfl (fiC 0 nl nl nl) (congrArg Value.agg fiC_zero) _ (by rfl) (infoFI _ _ _ _) (fiC_all _ _ _ _) hR ?_; intro wz hz hgz)
    exact bodyPost_ret (v := .tuple #[.agg (fiC 0 nl nl nl), .int .i64 (er : Int)]) (results_cell_tmp rfl _ _ gr 38 _ _ _ rfl rfl hz Try.underlying38 rfl (infoFI _ _ _ _)) rfl (rdA_bad HX.out (below_only hwu hgz hgrB hwu.size))
theorem dyn_ok : DynOK := ⟨fun bs A n c w hS _ _ hl => (dread_any bs A n c w hS hl).mono fun _ _ h => h⟩
end Go.Proofs.Ytfdoloonllhodaa
