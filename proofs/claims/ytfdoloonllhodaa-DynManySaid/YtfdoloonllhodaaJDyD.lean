/-
Layer 9, the reference's Read.
-/
import Derived.Test.YtfdoloonllhodaaJDyDa
import Derived.BigQuiet
namespace Go.Proofs.Ytfdoloonllhodaa
open Go Go.RowKit

set_option maxRecDepth 100000 in
set_option maxHeartbeats 200000000 in
theorem rread_any (bs : List UInt8) (A : Option Addr) (n c : Nat) (w : World) (hS : SlA w A n c bs) (hA : A = none → c = 0) (hc63 : c < 9223372036854775808) (hl : bs.length ≤ 100000) :
    Calls Try.prog 14 #[.slice A n c] w fun e w' => RdR w bs e w' := by
  have hwf := segs_wf bs
  have hbl := segs_bl (bs := bs)
  have hdw := segs_dwf (bs := bs)
  have hrd : readN bs = if (segsN bs).2.2.2 = 0 then readG (segsN bs).1 (segsN bs).2.1 (segsN bs).2.2.1 else rdE (segsN bs).2.2.2 := rfl
  have k1 := fun w' (hb : Below w.heap.size w w') => rsegs_any bs A n c w' (hS.below hb) hA hc63
  obtain ⟨en, hen⟩ : ∃ x, x = (segsN bs).1 := ⟨_, rfl⟩
  obtain ⟨ss, hss⟩ : ∃ x, x = (segsN bs).2.1 := ⟨_, rfl⟩
  obtain ⟨ds, hds⟩ : ∃ x, x = (segsN bs).2.2.1 := ⟨_, rfl⟩
  obtain ⟨er, her⟩ : ∃ x, x = (segsN bs).2.2.2 := ⟨_, rfl⟩
  simp only [← hen, ← hss, ← hds, ← her] at k1
  rw [← hen, ← hss, ← hds, ← her] at hwf hrd
  rw [← hss] at hbl
  rw [← her, ← hds] at hdw
  obtain ⟨hen32, her9, hss5, hds5, hsf⟩ := hwf
  have HRD := Lib.hid hrd
  have HSF := Lib.hid hsf
  have HBL := Lib.hid hbl
  have HDW := Lib.hid hdw
  have HSS5 := Lib.hid hss5
  have HDS5 := Lib.hid hds5
  have HL := Lib.hid hl
  have hsd : ∀ g ∈ ss, g.d < 4294967296 := fun g hg => (hsf g hg).1
  have hsb : ∀ g ∈ ss, g.b.length ≤ 100000 := fun g hg => Nat.le_trans (hbl g hg) hl
  have HSD := Lib.hid hsd
  have HSB := Lib.hid hsb
  clear hen hss hds her hrd hsf hbl hdw hss5 hds5 hS hA hsd hsb hl
  go_enter Try.func14, Try.ntmps14
  go_wp2_with fail
  have hR : Has (w.alloc (.cells #[.int .i64 0, .slice none 0 0, .slice none 0 0, .slice none 0 0] 58)) w.heap.size 58 (flC 0 sl0 sl0 sl0) := Has.new _ _ _
  have hb0 : Below w.heap.size w (w.alloc (.cells #[.int .i64 0, .slice none 0 0, .slice none 0 0, .slice none 0 0] 58)) := (Below.refl _ _).alloc (Nat.le_refl _) _
  generalize w.alloc (.cells #[.int .i64 0, .slice none 0 0, .slice none 0 0, .slice none 0 0] 58) = w0 at *
  obtain ⟨gr, hgr⟩ : ∃ x, x = w.heap.size := ⟨_, rfl⟩
  have hgrB : w.heap.size ≤ gr := by omega
  rw [← hgr] at hR ⊢
  clear hgr
  refine (k1 w0 hb0).mono ?_
  rintro e u ⟨⟨s, t, rfl, hT, hJ⟩, hbu⟩
  replace hR := hR.after hbu
  have hgrl := hR.lt
  have hwu := hb0.trans (hbu.mono hb0.size)
  clear k1 hb0 hbu
  obtain ⟨As, ms, cs5, rfl⟩ := s.out
  obtain ⟨Ad, md, cd, rfl⟩ := t.out
  rw [show Sl.v ⟨As, ms, cs5⟩ = .slice As ms cs5 from rfl, show Sl.v ⟨Ad, md, cd⟩ = .slice Ad md cd from rfl]
  have HT := Lib.hid hT
  have HJ := Lib.hid hJ
  have HMD : Hid (ds.length = md) := Lib.hid hJ.1
  have hmd5 : md ≤ 5 := by have := HDS5.out; have := HMD.out; omega
  clear hT hJ
  by_cases her0 : er = 0
  · have hz : ((er : Int) != 0) = false := by simp [her0]
    have HRD2 := Lib.hid (HRD.out.trans (if_pos her0))
    have HDW2 := Lib.hid (HDW.out her0)
    clear her0 HRD HDW
    go_upto_region 5 with fail
    have hO : Has (u.alloc (.cells #[.int .i64 (en : Int), .slice As ms cs5, .slice none 0 0, .slice none 0 0] 58)) u.heap.size 58 (flC en ⟨As, ms, cs5⟩ sl0 sl0) := Has.new _ _ _
    have hb1 : Below u.heap.size u (u.alloc (.cells #[.int .i64 (en : Int), .slice As ms cs5, .slice none 0 0, .slice none 0 0] 58)) := (Below.refl _ _).alloc (Nat.le_refl _) _
    replace hR := hR.after hb1
    generalize u.alloc (.cells #[.int .i64 (en : Int), .slice As ms cs5, .slice none 0 0, .slice none 0 0] 58) = w1 at *
    obtain ⟨go, hgo⟩ : ∃ x, x = u.heap.size := ⟨_, rfl⟩
    have HO : Hid (RdO w u gr go en ⟨As, ms, cs5⟩ sl0 sl0 w1) := Lib.hid ⟨hR, by rw [hgo]; exact hO, hb1, hwu, by omega, hgrB, hgrl⟩
    rw [← hgo]
    clear hgo hb1 hwu hgrB hgrl hO hR
    by_cases hd0 : md = 0
    · have hz2 : ((md : Int) == 0) = true := by simp [hd0]
      have HDN : Hid (readN bs = ⟨en, ss, [], [], 0⟩) := Lib.hid (by rw [HRD2.out, List.eq_nil_of_length_eq_zero (HMD.out.trans hd0)]; rfl)
      clear hd0
      go_wp2_with (first
        | (refine wpList_load_has 58 _ rfl _ rfl rfl 58 _ HO.out.out _ Try.underlying58 rfl (infoFL _ _ _ _) ?_)
        | (refine wp_store_cs rfl 58 _ _ rfl gr rfl (flC en ⟨As, ms, cs5⟩ sl0 sl0) rfl _ (by rfl) (infoFL _ _ _ _) (flC_one _ _ _ _) HO.out.res ?_; intro wz hz' hgz)
        | (refine wp_store_csK 58 _ _ rfl gr rfl (flC en ⟨As, ms, cs5⟩ sl0 sl0) rfl _ (by rfl) (infoFL _ _ _ _) (flC_one _ _ _ _) HO.out.res ?_; intro wz hz' hgz))
      exact bodyPost_ret (v := .tuple #[.agg (flC en ⟨As, ms, cs5⟩ sl0 sl0), .int .i64 0]) (results_cell_tmp rfl _ _ gr 58 _ _ _ rfl rfl hz' Try.underlying58 rfl (infoFL _ _ _ _)) rfl (rdR_ok HDN.out (slT_file HO.out.res (HT.out.below HO.out.bel) hgz) (slZ_nil _) (slM_nil _) (HO.out.fin hgz))
    · have hz2 : ((md : Int) == 0) = false := by simp; omega
      obtain ⟨dd, dr, hdd⟩ : ∃ d r, ds = d :: r := by
        cases hq : ds with
        | nil => rw [hq] at HMD; exact absurd HMD.out.symm hd0
        | cons d r => exact ⟨d, r, rfl⟩
      have hdw := HDW2.out dd (by rw [hdd]; exact List.mem_cons_self ..)
      obtain ⟨bd, od, hAd, hbd, hcd⟩ := (HJ.out.below HO.out.bel).2.2 (by show 0 < md; omega)
      replace hAd : Ad = some ⟨bd, od, none⟩ := hAd
      subst hAd
      have hd0' : 0 < (md : Int) := by omega
      have hcd2 : w1.cell? ⟨bd, od + 2, none⟩ = some (.int .i64 (dd.d : Int)) := by
        have := hcd 0 2 (by show 0 < md; omega) (by decide)
        rw [Nat.zero_mul, Nat.add_zero, hdd] at this; exact this
      have hcd3 : w1.cell? ⟨bd, od + 3, none⟩ = some (.int .i64 (dd.f : Int)) := by
        have := hcd 0 3 (by show 0 < md; omega) (by decide)
        rw [Nat.zero_mul, Nat.add_zero, hdd] at this; exact this
      have hcd4 : w1.cell? ⟨bd, od + 4, none⟩ = some (.int .i64 (dd.m : Int)) := by
        have := hcd 0 4 (by show 0 < md; omega) (by decide)
        rw [Nat.zero_mul, Nat.add_zero, hdd] at this; exact this
      have HRD3 := Lib.hid (HRD2.out.trans (by rw [hdd]))
      have kAt := fun w' (hb : Below w1.heap.size w1 w') => rat_any ss ⟨As, ms, cs5⟩ dd.d dd.f u w' HT.out (HO.out.bel.trans (hb.mono HO.out.bel.size)) HSS5.out (by have := hdw.d; omega) (by have := hdw.f; omega) HSD.out HSB.out
      rw [show Sl.v ⟨As, ms, cs5⟩ = .slice As ms cs5 from rfl] at kAt
      unfold AtR at kAt
      obtain ⟨sb, hsb⟩ : ∃ x, x = (adN ss dd.d dd.f).isSome := ⟨_, rfl⟩
      obtain ⟨cn, hcn⟩ : ∃ x, x = (adN ss dd.d dd.f).getD [] := ⟨_, rfl⟩
      simp only [← hsb, ← hcn] at kAt
      have HSB2 := Lib.hid hsb
      have HCN := Lib.hid hcn
      have HDWF := Lib.hid hdw
      clear hd0 hcd hdd hdw hsb hcn
      go_upto_region 7 with fail
      refine region_simL [.slice As ms cs5, .slice (some ⟨bd, od, none⟩) md cd, .pointer (some ⟨bd, od, none⟩), .pointer (some ⟨bd, od + 2, none⟩), .int .i64 (dd.d : Int), .slice (some ⟨bd, od, none⟩) md cd, .pointer (some ⟨bd, od, none⟩), .pointer (some ⟨bd, od + 3, none⟩), .int .i64 (dd.f : Int), undef, undef, undef, .bool sb, undef, .bool sb] [(9, fun x _ => ∃ A m k, x = .tuple #[.slice A m k, .bool sb] ∧ SlA u A m k cn ∧ (A = none → k = 0) ∧ k < 9223372036854775808), (10, fun x _ => ∃ A m k, x = .tuple #[.slice A m k, .bool sb] ∧ SlA u A m k cn ∧ (A = none → k = 0) ∧ k < 9223372036854775808), (11, fun x _ => ∃ A m k, x = .slice A m k ∧ SlA u A m k cn ∧ (A = none → k = 0) ∧ k < 9223372036854775808), (13, fun x _ => ∃ A m k, x = .slice A m k ∧ SlA u A m k cn ∧ (A = none → k = 0) ∧ k < 9223372036854775808)] [] [(9, fun w' w'' => Below w'.heap.size w' w'')] (fun w' => Below w1.heap.size w1 w') 251 (by kernel_rfl) rfl (by kernel_rfl) ?_ ?_ ?_ ?_ ?_ (by decide) ?_
      · intro w' hb _
        exact ⟨hb, fun y h => by cases h⟩
      · simp only [List.forall_mem_cons, List.not_mem_nil, false_implies, implies_true, and_true]
        exact fun w' w'' h hy => h.trans (hy.mono h.size)
      · simp only [List.forall_mem_cons, List.not_mem_nil, false_implies, implies_true, and_true]
        refine ⟨?_, ?_, ?_, ?_⟩
        · exact fun _ _ x w' w'' _ h _ => h
        · exact fun _ _ x w' w'' _ h _ => h
        · exact fun _ _ x w' w'' _ h _ => h
        · exact fun _ _ x w' w'' _ h _ => h
      · exact fun y h => by cases h
      · refine ⟨⟨?_, ?_⟩, ⟨?_, ?_⟩, ⟨?_, ?_⟩, ⟨?_, ?_⟩, ⟨?_, ?_⟩, ⟨?_, ?_⟩, ⟨?_, ?_⟩, ⟨?_, ?_⟩, ⟨?_, ?_⟩, ⟨?_, ?_⟩, ⟨?_, ?_⟩, ⟨?_, ?_⟩, ⟨?_, ?_⟩, ⟨?_, ?_⟩, ⟨?_, ?_⟩, trivial⟩
        · intro v w' AA hAA hg hf hl hgd K hK
          exact pure_step (.slice As ms cs5) (fun ρ hρ => by
            have e5 : ρ (.tmp 5) = .slice As ms cs5 := by rw [hρ]; exact hAA.2 5 (by simp)
            clear hρ hf hAA hl hK hg
            go_simp) (hK _ _ rfl ⟨rfl, hg.2⟩)
        · trivial
        · intro v w' AA hAA hg hf hl hgd K hK
          exact pure_step (.slice (some ⟨bd, od, none⟩) md cd) (fun ρ hρ => by
            have e6 : ρ (.tmp 6) = .slice (some ⟨bd, od, none⟩) md cd := by rw [hρ]; exact hAA.2 6 (by simp)
            clear hρ hf hAA hl hK hg
            go_simp) (hK _ _ rfl ⟨rfl, hg.2⟩)
        · trivial
        · intro v w' AA hAA hg hf hl hgd K hK
          exact pure_step (.pointer (some ⟨bd, od, none⟩)) (fun ρ hρ => by
            have hcst : ∀ x, ρ (.const x) = x := fun x => by rw [hρ]; rfl
            have e55 : ρ (.tmp 55) = .slice (some ⟨bd, od, none⟩) md cd := by rw [hρ]; exact (hAA.1 1 _ 55 rfl rfl).trans (hf ⟨1, .data⟩ (by simp) rfl).1
            clear hρ hf hAA hl hK hg
            have hat := at_hr0 bd od md cd hd0' w'
            go_simp) (hK _ _ rfl ⟨rfl, hg.2⟩)
        · trivial
        · intro v w' AA hAA hg hf hl hgd K hK
          exact pure_step (.pointer (some ⟨bd, od + 2, none⟩)) (fun ρ hρ => by
            have e56 : ρ (.tmp 56) = .pointer (some ⟨bd, od, none⟩) := by rw [hρ]; exact (hAA.1 2 _ 56 rfl rfl).trans (hf ⟨2, .data⟩ (by simp) rfl).1
            clear hρ hf hAA hl hK hg
            have had := Addr.add_mid bd od 2
            go_simp) (hK _ _ rfl ⟨rfl, hg.2⟩)
        · trivial
        · intro v w' AA hAA hg hf hl hgd K hK
          have hcell : w'.cell? ⟨bd, od + 2, none⟩ = some (.int .i64 (dd.d : Int)) := (hg.2.cell (p := ⟨bd, od + 2, none⟩) hbd).trans hcd2
          exact pure_step (.int .i64 (dd.d : Int)) (fun ρ hρ => by
            have e57 : ρ (.tmp 57) = .pointer (some ⟨bd, od + 2, none⟩) := by rw [hρ]; exact (hAA.1 3 _ 57 rfl rfl).trans (hf ⟨3, .data⟩ (by simp) rfl).1
            clear hρ hf hAA hl hK hg
            go_simp) (hK _ _ rfl ⟨rfl, hg.2⟩)
        · trivial
        · intro v w' AA hAA hg hf hl hgd K hK
          exact pure_step (.slice (some ⟨bd, od, none⟩) md cd) (fun ρ hρ => by
            have e6 : ρ (.tmp 6) = .slice (some ⟨bd, od, none⟩) md cd := by rw [hρ]; exact hAA.2 6 (by simp)
            clear hρ hf hAA hl hK hg
            go_simp) (hK _ _ rfl ⟨rfl, hg.2⟩)
        · trivial
        · intro v w' AA hAA hg hf hl hgd K hK
          exact pure_step (.pointer (some ⟨bd, od, none⟩)) (fun ρ hρ => by
            have hcst : ∀ x, ρ (.const x) = x := fun x => by rw [hρ]; rfl
            have e59 : ρ (.tmp 59) = .slice (some ⟨bd, od, none⟩) md cd := by rw [hρ]; exact (hAA.1 5 _ 59 rfl rfl).trans (hf ⟨5, .data⟩ (by simp) rfl).1
            clear hρ hf hAA hl hK hg
            have hat := at_hr0 bd od md cd hd0' w'
            go_simp) (hK _ _ rfl ⟨rfl, hg.2⟩)
        · trivial
        · intro v w' AA hAA hg hf hl hgd K hK
          exact pure_step (.pointer (some ⟨bd, od + 3, none⟩)) (fun ρ hρ => by
            have e60 : ρ (.tmp 60) = .pointer (some ⟨bd, od, none⟩) := by rw [hρ]; exact (hAA.1 6 _ 60 rfl rfl).trans (hf ⟨6, .data⟩ (by simp) rfl).1
            clear hρ hf hAA hl hK hg
            have had := Addr.add_mid bd od 3
            go_simp) (hK _ _ rfl ⟨rfl, hg.2⟩)
        · trivial
        · intro v w' AA hAA hg hf hl hgd K hK
          have hcell : w'.cell? ⟨bd, od + 3, none⟩ = some (.int .i64 (dd.f : Int)) := (hg.2.cell (p := ⟨bd, od + 3, none⟩) hbd).trans hcd3
          exact pure_step (.int .i64 (dd.f : Int)) (fun ρ hρ => by
            have e61 : ρ (.tmp 61) = .pointer (some ⟨bd, od + 3, none⟩) := by rw [hρ]; exact (hAA.1 7 _ 61 rfl rfl).trans (hf ⟨7, .data⟩ (by simp) rfl).1
            clear hρ hf hAA hl hK hg
            go_simp) (hK _ _ rfl ⟨rfl, hg.2⟩)
        · trivial
        · intro v w' AA hAA hg hf hl hgd K hK
          refine call_step 21 #[.slice As ms cs5, .int .i64 (dd.d : Int), .int .i64 (dd.f : Int)] (fun ρ hρ => by
            have hfun : ∀ f, ρ (.func f) = .func (.func f) #[] #[] := fun f => by rw [hρ]; rfl
            have e54 : ρ (.tmp 54) = .slice As ms cs5 := by rw [hρ]; exact (hAA.1 0 _ 54 rfl rfl).trans (hf ⟨0, .data⟩ (by simp) rfl).1
            have e58 : ρ (.tmp 58) = .int .i64 (dd.d : Int) := by rw [hρ]; exact (hAA.1 4 _ 58 rfl rfl).trans (hf ⟨4, .data⟩ (by simp) rfl).1
            have e62 : ρ (.tmp 62) = .int .i64 (dd.f : Int) := by rw [hρ]; exact (hAA.1 8 _ 62 rfl rfl).trans (hf ⟨8, .data⟩ (by simp) rfl).1
            clear hρ hf hAA hl hK hg
            go_simp) ?_
          refine (kAt w' hg.2).mono ?_
          rintro e w'' ⟨⟨A9, m9, k9, rfl, hS9, hn9, hc9⟩, hy⟩
          exact ⟨_, rfl, hK _ _ hy ⟨⟨A9, m9, k9, rfl, hS9, hn9, hc9⟩, hg.2.trans (hy.mono hg.2.size)⟩⟩
        · trivial
        · intro v w' AA hAA hg hf hl hgd K hK
          obtain ⟨⟨A9, m9, k9, hv9, hS9, hn9, hc9⟩, _⟩ := hf ⟨9, .data⟩ (by simp) rfl
          exact pure_step (.tuple #[.slice A9 m9 k9, .bool sb]) (fun ρ hρ => by
              have e63 : ρ (.tmp 63) = .tuple #[.slice A9 m9 k9, .bool sb] := by rw [hρ]; exact (hAA.1 9 _ 63 rfl rfl).trans hv9
              clear hρ hf hAA hl hK hg
              go_simp) (hK _ _ rfl ⟨⟨A9, m9, k9, rfl, hS9, hn9, hc9⟩, hg.2⟩)
        · trivial
        · intro v w' AA hAA hg hf hl hgd K hK
          obtain ⟨⟨A10, m10, k10, hv10, hS10, hn10, hc10⟩, _⟩ := hf ⟨10, .data⟩ (by simp) rfl
          exact pure_step (.slice A10 m10 k10) (fun ρ hρ => by
              have e53 : ρ (.tmp 53) = .tuple #[.slice A10 m10 k10, .bool sb] := by rw [hρ]; exact (hAA.1 10 _ 53 rfl rfl).trans hv10
              clear hρ hf hAA hl hK hg
              go_simp) (hK _ _ rfl ⟨⟨A10, m10, k10, rfl, hS10, hn10, hc10⟩, hg.2⟩)
        · trivial
        · intro v w' AA hAA hg hf hl hgd K hK
          obtain ⟨⟨A10, m10, k10, hv10, hS10, hn10, hc10⟩, _⟩ := hf ⟨10, .data⟩ (by simp) rfl
          exact pure_step (.bool sb) (fun ρ hρ => by
              have e53 : ρ (.tmp 53) = .tuple #[.slice A10 m10 k10, .bool sb] := by rw [hρ]; exact (hAA.1 10 _ 53 rfl rfl).trans hv10
              clear hρ hf hAA hl hK hg
              go_simp) (hK _ _ rfl ⟨rfl, hg.2⟩)
        · trivial
        · intro v w' AA hAA hg hf hl hgd K hK
          obtain ⟨⟨A11, m11, k11, hv11, hS11, hn11, hc11⟩, _⟩ := hf ⟨11, .data⟩ (by simp) rfl
          exact pure_step (.slice A11 m11 k11) (fun ρ hρ => by
              have e64 : ρ (.tmp 64) = .slice A11 m11 k11 := by rw [hρ]; exact (hAA.1 11 _ 64 rfl rfl).trans hv11
              clear hρ hf hAA hl hK hg
              go_simp) (hK _ _ rfl ⟨⟨A11, m11, k11, rfl, hS11, hn11, hc11⟩, hg.2⟩)
        · trivial
        · intro v w' AA hAA hg hf hl hgd K hK
          exact pure_step (.bool sb) (fun ρ hρ => by
              have e65 : ρ (.tmp 65) = .bool sb := by rw [hρ]; exact (hAA.1 12 _ 65 rfl rfl).trans (hf ⟨12, .data⟩ (by simp) rfl).1
              clear hρ hf hAA hl hK hg
              go_simp) (hK _ _ rfl ⟨rfl, hg.2⟩)
        · trivial
      intro v wE hIE hE
      have f0 : v 0 = .slice As ms cs5 := (hE 0 (by decide)).1
      have f1 : v 1 = .slice (some ⟨bd, od, none⟩) md cd := (hE 1 (by decide)).1
      have f2 : v 2 = .pointer (some ⟨bd, od, none⟩) := (hE 2 (by decide)).1
      have f3 : v 3 = .pointer (some ⟨bd, od + 2, none⟩) := (hE 3 (by decide)).1
      have f4 : v 4 = .int .i64 (dd.d : Int) := (hE 4 (by decide)).1
      have f5 : v 5 = .slice (some ⟨bd, od, none⟩) md cd := (hE 5 (by decide)).1
      have f6 : v 6 = .pointer (some ⟨bd, od, none⟩) := (hE 6 (by decide)).1
      have f7 : v 7 = .pointer (some ⟨bd, od + 3, none⟩) := (hE 7 (by decide)).1
      have f8 : v 8 = .int .i64 (dd.f : Int) := (hE 8 (by decide)).1
      obtain ⟨⟨A9, m9, k9, hv9, hS9, hn9, hc9⟩, _⟩ := hE 9 (by decide)
      obtain ⟨⟨A10, m10, k10, hv10, hS10, hn10, hc10⟩, _⟩ := hE 10 (by decide)
      obtain ⟨⟨A11, m11, k11, hv11, hS11, hn11, hc11⟩, _⟩ := hE 11 (by decide)
      have f12 : v 12 = .bool sb := (hE 12 (by decide)).1
      obtain ⟨⟨A13, m13, k13, hv13, hS13, hn13, hc13⟩, _⟩ := hE 13 (by decide)
      have f14 : v 14 = .bool sb := (hE 14 (by decide)).1
      clear hE
      simp only [putAll, Act.put, List.setIfInBounds_toArray, List.set_cons_zero, List.set_cons_succ, Nat.zero_add, Nat.reduceAdd]
      rw [f0, f1, f2, f3, f4, f5, f6, f7, f8, hv9, hv10, hv11, f12, hv13, f14]
      clear f0 f1 f2 f3 f4 f5 f6 f7 f8 f12 f14
      have HC13 : Hid (SlA u A13 m13 k13 cn ∧ (A13 = none → k13 = 0) ∧ k13 < 9223372036854775808) := Lib.hid ⟨hS13, hn13, hc13⟩
      have hat0 := fun w => at_hr0 bd od md cd hd0' w
      replace hcd3 := (hIE.cell (p := ⟨bd, od + 3, none⟩) hbd).trans hcd3
      replace hcd4 := (hIE.cell (p := ⟨bd, od + 4, none⟩) hbd).trans hcd4
      have HO2 := Lib.hid (HO.out.after hIE)
      clear hS9 hn9 hc9 hv9 hS10 hn10 hc10 hv10 hS11 hn11 hc11 hv11 hS13 hn13 hc13 hv13 kAt hIE hcd2 HO hbd
      go_upto_region 8 with fail
      cases sb with
      | false =>
        have HDN : Hid (readN bs = rdE 12) := Lib.hid (by rw [HRD3.out]; exact readG_none HSB2.out.symm)
        go_quiet (fail)
        have HO3 := Lib.hid (HO2.out.after (below_drewN (Below.refl _ _) nq))
        generalize wE.drewN nq = w2 at *
        clear HO2
        go_wp2_with (first
          | (refine wp_store_cs rfl 58 _ _ rfl gr rfl (flC 0 sl0 sl0 sl0) (congrArg Value.agg flC_zero) _ (by rfl) (infoFL _ _ _ _) (flC_one _ _ _ _) HO3.out.res ?_; intro wz hz' hgz)
          | (refine wp_store_csK 58 _ _ rfl gr rfl (flC 0 sl0 sl0 sl0) (congrArg Value.agg flC_zero) _ (by rfl) (infoFL _ _ _ _) (flC_one _ _ _ _) HO3.out.res ?_; intro wz hz' hgz))
        exact bodyPost_ret (v := .tuple #[.agg (flC 0 sl0 sl0 sl0), .int .i64 12]) (results_cell_tmp rfl _ _ gr 58 _ _ _ rfl rfl hz' Try.underlying58 rfl (infoFL _ _ _ _)) rfl (rdR_bad (e := 12) HDN.out (HO3.out.fin hgz))
      | true =>
        by_cases hfm : dd.f = dd.m
        · have e3 : ((dd.f : Int) != (dd.m : Int)) = false := by simp [hfm]
          have HRD4 := Lib.hid (HRD3.out.trans (readG_some hfm HSB2.out.symm))
          clear hfm HRD3
          go_quiet (fail)
          have HO3 := Lib.hid (HO2.out.after (below_drewN (Below.refl _ _) nq))
          generalize wE.drewN nq = w2 at *
          clear HO2 hcd3 hcd4
          go_upto_region 10 with fail
          have hb2 := HO3.out.bel
          have hcl : cn.length ≤ 100000 := by rw [HCN.out]; exact adN_le HSB.out
          have kT := rtags_any cn A13 m13 k13 w2 (HC13.out.1.below hb2) HC13.out.2.1 HC13.out.2.2 hcl
          unfold TgR at kT
          have hltl := tagsN_lt cn
          obtain ⟨tb, htb⟩ : ∃ x, x = (tagsN cn).isSome := ⟨_, rfl⟩
          obtain ⟨l, hl9⟩ : ∃ x, x = (tagsN cn).getD [] := ⟨_, rfl⟩
          rw [← htb, ← hl9] at kT
          rw [← hl9] at hltl
          have HRD4b : Hid (readN bs = readT en ss cn) := Lib.hid (by rw [HRD4.out, HCN.out])
          have HTB := Lib.hid htb
          have HL9 := Lib.hid hl9
          obtain ⟨hlt, hll⟩ := hltl
          have hll5 : l.length ≤ 100000 := by omega
          have HLT := Lib.hid hlt
          have HLL := Lib.hid hll5
          clear hb2 hcl htb hl9 hlt hll hll5 HRD4
          go_upto_region 11 with fail
          refine kT.mono ?_
          rintro e w3 ⟨⟨At, mt, ct, rfl, hto⟩, hb3⟩
          go_upto_region 11 with fail
          have hS3 : Hid (StO w u gr go en ⟨As, ms, cs5⟩ sl0 sl0 (.slice At mt ct) l [] [] w3) := Lib.hid (by
            have hlm : l.length = mt := by
              have h1 := hto.1
              rw [cellsL_len] at h1
              exact Nat.eq_of_mul_eq_mul_right (by decide) h1
            refine ⟨HO3.out.after hb3, ?_, World.ownsRow_nil _ _ _ _, World.ownsRow_nil _ _ _ _⟩
            rw [hlm]
            exact own_mono hto HO3.out.bel.size)
          have HLM : Hid (l.length = mt) := Lib.hid (by
            have h1 := hto.1
            rw [cellsL_len] at h1
            exact Nat.eq_of_mul_eq_mul_right (by decide) h1)
          clear kT hto hb3 HO3
          cases tb with
          | false =>
            have HDN : Hid (readN bs = rdE 12) := Lib.hid (by rw [HRD4b.out]; exact readT_none HTB.out.symm)
            go_wp2_with (first
              | (refine wp_store_cs rfl 58 _ _ rfl gr rfl (flC 0 sl0 sl0 sl0) (congrArg Value.agg flC_zero) _ (by rfl) (infoFL _ _ _ _) (flC_one _ _ _ _) hS3.out.rd.res ?_; intro wz hz' hgz)
              | (refine wp_store_csK 58 _ _ rfl gr rfl (flC 0 sl0 sl0 sl0) (congrArg Value.agg flC_zero) _ (by rfl) (infoFL _ _ _ _) (flC_one _ _ _ _) hS3.out.rd.res ?_; intro wz hz' hgz))
            exact bodyPost_ret (v := .tuple #[.agg (flC 0 sl0 sl0 sl0), .int .i64 12]) (results_cell_tmp rfl _ _ gr 58 _ _ _ rfl rfl hz' Try.underlying58 rfl (infoFL _ _ _ _)) rfl (rdR_bad (e := 12) HDN.out (hS3.out.rd.fin hgz))
          | true =>
            have HRD5 : Hid (readN bs = readY en ss l) := Lib.hid (by rw [HRD4b.out, readT_some HTB.out.symm, ← HL9.out])
            have kV := fun (t : Nat) (w' : World) (h : w'.ownsRow u.heap.size 110 2 (.slice At mt ct) l.length (cellsL 2 prR l)) => rval_any l ⟨At, mt, ct⟩ t w' (by
              have h2 := h
              rw [HLM.out] at h2
              exact slC_p2 h2 (by have := HLM.out; have := HLL.out; omega)) HLL.out
            rw [show Sl.v ⟨At, mt, ct⟩ = .slice At mt ct from rfl] at kV
            have hvl := fun t => valD_lt (l := l) (t := t) (B := 4294967296) (fun p hp => (HLT.out p hp).2) (by decide)
            have HKV := Lib.hid kV
            have HVL := Lib.hid hvl
            clear kV hvl HTB HRD4b
            have kV6 := HKV.out 6 w3 hS3.out.tg
            obtain ⟨v6, hv6⟩ : ∃ x, x = (valN l 6).getD 0 := ⟨_, rfl⟩
            obtain ⟨b6, hb6⟩ : ∃ x, x = (valN l 6).isSome := ⟨_, rfl⟩
            rw [← hv6, ← hb6, show ((6 : Nat) : Int) = 6 from rfl] at kV6
            have hv6l : v6 < 4294967296 := by rw [hv6]; exact HVL.out 6
            have HV6 : Hid (v6 = (valN l 6).getD 0 ∧ b6 = (valN l 6).isSome) := Lib.hid ⟨hv6, hb6⟩
            clear hv6 hb6
            go_upto_region 14 with fail
            refine kV6.mono ?_
            rintro e w4 ⟨rfl, rfl⟩
            clear kV6
            go_upto_region 14 with fail
            have hKA : Hid (∀ (a n : Nat) (w' : World), a < 1099511627776 → n < 1099511627776 → Below u.heap.size u w' → Calls Try.prog 21 #[.slice As ms cs5, .int .i64 (a : Int), .int .i64 (n : Int)] w' fun e w2 => AtR u w' (adN ss a n) e w2) := Lib.hid fun a n w' h1 h2 hb => rat_any ss ⟨As, ms, cs5⟩ a n u w' HT.out hb HSS5.out h1 h2 HSD.out HSB.out
            clear hd0' hat0 hz hz2
            go_upto_if 93 with fail
            go_cut [12] (fun _ wx => ∃ (sy : List Nat) (y : Sl), symsN ss l = some sy ∧ sy.length ≤ 64 ∧ StO w u gr go en ⟨As, ms, cs5⟩ y sl0 (.slice At mt ct) l sy [] wx)
            case first => as_aux_lemma =>
              cases b6 with
              | false =>
                go_wp2_with fail
                go_meet
                exact ⟨[], sl0, syms_0 HV6.out.2.symm, by decide, hS3.out⟩
              | true =>
                have kV := HKV.out 4 w3 hS3.out.tg
                have hvl4 := HVL.out 4
                obtain ⟨v4, hv4⟩ : ∃ x, x = (valN l 4).getD 0 := ⟨_, rfl⟩
                obtain ⟨b4, hb4⟩ : ∃ x, x = (valN l 4).isSome := ⟨_, rfl⟩
                rw [← hv4, ← hb4, show ((4 : Nat) : Int) = 4 from rfl] at kV
                rw [← hv4] at hvl4
                have HV4 : Hid (v4 = (valN l 4).getD 0 ∧ b4 = (valN l 4).isSome) := Lib.hid ⟨hv4, hb4⟩
                clear hv4 hb4
                go_wp2_with fail
                refine kV.mono ?_
                rintro e w4 ⟨rfl, rfl⟩
                clear kV
                go_upto_region 16 with fail
                have kA := hKA.out v4 8 w3 (by omega) (by decide) hS3.out.rd.bel
                rw [show ((8 : Nat) : Int) = 8 from rfl] at kA
                unfold AtR at kA
                obtain ⟨ba, hba⟩ : ∃ x, x = (adN ss v4 8).isSome := ⟨_, rfl⟩
                obtain ⟨hb, hhb⟩ : ∃ x, x = (adN ss v4 8).getD [] := ⟨_, rfl⟩
                rw [← hba, ← hhb] at kA
                have HBA : Hid (ba = (adN ss v4 8).isSome ∧ hb = (adN ss v4 8).getD []) := Lib.hid ⟨hba, hhb⟩
                clear hba hhb
                go_wp2_with fail
                refine kA.mono ?_
                rintro e w5 ⟨⟨A8, m8, k8, rfl, hS8, hn8, hk8⟩, hb5⟩
                replace hS3 := Lib.hid (hS3.out.after hb5)
                have HA8 : Hid (SlA u A8 m8 k8 hb ∧ (A8 = none → k8 = 0) ∧ k8 < 9223372036854775808) := Lib.hid ⟨hS8, hn8, hk8⟩
                clear kA hb5 hS8 hn8 hk8
                have kV := HKV.out 11 w5 hS3.out.tg
                have hvl11 := HVL.out 11
                obtain ⟨v11, hv11⟩ : ∃ x, x = (valN l 11).getD 0 := ⟨_, rfl⟩
                obtain ⟨b11, hb11⟩ : ∃ x, x = (valN l 11).isSome := ⟨_, rfl⟩
                rw [← hv11, ← hb11, show ((11 : Nat) : Int) = 11 from rfl] at kV
                rw [← hv11] at hvl11
                have HV11 : Hid (v11 = (valN l 11).getD 0 ∧ b11 = (valN l 11).isSome) := Lib.hid ⟨hv11, hb11⟩
                clear hv11 hb11
                go_wp2_with fail
                refine kV.mono ?_
                rintro e w4 ⟨rfl, rfl⟩
                clear kV
                go_upto_region 18 with fail
                cases b4 with
                | false =>
                  have HDN : Hid (readN bs = rdE 12) := Lib.hid (by rw [HRD5.out]; exact readY_none (syms_1 HV6.out.2.symm (.inl HV4.out.2.symm)))
                  go_wp2_with (first
                    | (refine wp_store_cs rfl 58 _ _ rfl gr rfl (flC 0 sl0 sl0 sl0) (congrArg Value.agg flC_zero) _ (by rfl) (infoFL _ _ _ _) (flC_one _ _ _ _) hS3.out.rd.res ?_; intro wz hz' hgz)
                    | (refine wp_store_csK 58 _ _ rfl gr rfl (flC 0 sl0 sl0 sl0) (congrArg Value.agg flC_zero) _ (by rfl) (infoFL _ _ _ _) (flC_one _ _ _ _) hS3.out.rd.res ?_; intro wz hz' hgz))
                  exact bodyPost_ret (v := .tuple #[.agg (flC 0 sl0 sl0 sl0), .int .i64 12]) (results_cell_tmp rfl _ _ gr 58 _ _ _ rfl rfl hz' Try.underlying58 rfl (infoFL _ _ _ _)) rfl (rdR_bad (e := 12) HDN.out (hS3.out.rd.fin hgz))
                | true =>
                  cases ba with
                  | false =>
                    have HDN : Hid (readN bs = rdE 12) := Lib.hid (by rw [HRD5.out]; exact readY_none (syms_1 HV6.out.2.symm (.inr (.inl (by rw [← HV4.out.1]; exact HBA.out.1.symm)))))
                    go_wp2_with (first
                      | (refine wp_store_cs rfl 58 _ _ rfl gr rfl (flC 0 sl0 sl0 sl0) (congrArg Value.agg flC_zero) _ (by rfl) (infoFL _ _ _ _) (flC_one _ _ _ _) hS3.out.rd.res ?_; intro wz hz' hgz)
                      | (refine wp_store_csK 58 _ _ rfl gr rfl (flC 0 sl0 sl0 sl0) (congrArg Value.agg flC_zero) _ (by rfl) (infoFL _ _ _ _) (flC_one _ _ _ _) hS3.out.rd.res ?_; intro wz hz' hgz))
                    exact bodyPost_ret (v := .tuple #[.agg (flC 0 sl0 sl0 sl0), .int .i64 12]) (results_cell_tmp rfl _ _ gr 58 _ _ _ rfl rfl hz' Try.underlying58 rfl (infoFL _ _ _ _)) rfl (rdR_bad (e := 12) HDN.out (hS3.out.rd.fin hgz))
                  | true =>
                    by_cases h16 : ¬ v11 = 16
                    · have d16 : ((v11 : Int) != 16) = true := by simp only [bne_iff_ne, ne_eq]; omega
                      have HDN : Hid (readN bs = rdE 12) := Lib.hid (by rw [HRD5.out]; exact readY_none (syms_1 HV6.out.2.symm (.inr (.inr (by rw [← HV11.out.1]; exact h16)))))
                      clear h16
                      go_wp2_with (first
                        | (refine wp_store_cs rfl 58 _ _ rfl gr rfl (flC 0 sl0 sl0 sl0) (congrArg Value.agg flC_zero) _ (by rfl) (infoFL _ _ _ _) (flC_one _ _ _ _) hS3.out.rd.res ?_; intro wz hz' hgz)
                        | (refine wp_store_csK 58 _ _ rfl gr rfl (flC 0 sl0 sl0 sl0) (congrArg Value.agg flC_zero) _ (by rfl) (infoFL _ _ _ _) (flC_one _ _ _ _) hS3.out.rd.res ?_; intro wz hz' hgz))
                      exact bodyPost_ret (v := .tuple #[.agg (flC 0 sl0 sl0 sl0), .int .i64 12]) (results_cell_tmp rfl _ _ gr 58 _ _ _ rfl rfl hz' Try.underlying58 rfl (infoFL _ _ _ _)) rfl (rdR_bad (e := 12) HDN.out (hS3.out.rd.fin hgz))
                    replace h16 : v11 = 16 := by omega
                    have d16 : ((v11 : Int) != 16) = false := by simp only [bne_eq_false_iff_eq]; omega
                    have H16 := Lib.hid h16
                    have hhl : hb.length = 8 := by
                      have h1 := isSome_t [] HBA.out.1.symm
                      rw [← HBA.out.2] at h1
                      exact adN_len h1
                    have HHL := Lib.hid hhl
                    clear h16 hhl
                    have HB11 : Hid (b11 = b11) := Lib.hid rfl
                    go_upto_region 20 with fail
                    go_wp2_with fail
                    have hC : Has (w5.alloc (.cells #[.slice A8 m8 k8, .int .i64 4, .bool false] 91)) w5.heap.size 91 (curC A8 m8 k8 4 false) := Has.new _ _ _
                    have hba : Below w5.heap.size w5 (w5.alloc (.cells #[.slice A8 m8 k8, .int .i64 4, .bool false] 91)) := (Below.refl _ _).alloc (Nat.le_refl _) _
                    have hS4 := hS3.out.after hba
                    have hDc : DcA u hb A8 m8 k8 w5.heap.size 4 (w5.alloc (.cells #[.slice A8 m8 k8, .int .i64 4, .bool false] 91)) := DcA.new HA8.out.1 HA8.out.2.1 HA8.out.2.2 hS4.rd.bel (by rw [HHL.out]; decide) hC hS3.out.rd.bel.size
                    have hgo5 := has_ne hS4.rd.out hC (by decide)
                    have huw5 := hS3.out.rd.bel.size
                    have kN := hDc.num4
                    obtain ⟨nn, hnn⟩ : ∃ x, x = nm hb 4 4 := ⟨_, rfl⟩
                    have hnl := nm4 hb 4
                    rw [← hnn] at kN hnl
                    have HNN := Lib.hid hnn
                    have HS4 := Lib.hid hS4
                    have HC5 := Lib.hid hC
                    clear hnn hba hDc hS3 hS4 hC
                    generalize w5.alloc (.cells #[.slice A8 m8 k8, .int .i64 4, .bool false] 91) = w6 at *
                    refine kN.mono ?_
                    rintro e w7 ⟨rfl, _, hg7⟩
                    have HS7 := Lib.hid (HS4.out.far HC5.out (by decide) (by decide) (by decide) hg7 huw5 hgo5)
                    clear kN hg7 HS4 HC5 huw5 hgo5
                    generalize w5.heap.size = g5 at *
                    go_upto_region 21 with fail
                    have kA := hKA.out v6 (16 * nn) w7 (by omega) (by omega) HS7.out.rd.bel
                    rw [show ((16 * nn : Nat) : Int) = 16 * (nn : Int) by omega] at kA
                    unfold AtR at kA
                    obtain ⟨bl, hbl⟩ : ∃ x, x = (adN ss v6 (16 * nn)).isSome := ⟨_, rfl⟩
                    obtain ⟨b, hbb⟩ : ∃ x, x = (adN ss v6 (16 * nn)).getD [] := ⟨_, rfl⟩
                    rw [← hbl, ← hbb] at kA
                    have HBL9 : Hid (bl = (adN ss v6 (16 * nn)).isSome ∧ b = (adN ss v6 (16 * nn)).getD []) := Lib.hid ⟨hbl, hbb⟩
                    clear hbl hbb
                    go_wp2_with fail
                    refine kA.mono ?_
                    rintro e w8 ⟨⟨A9, m9, k9, rfl, hS9, hn9, hk9⟩, hb8⟩
                    have HS8 := Lib.hid (HS7.out.after hb8)
                    have HA9 : Hid (SlA u A9 m9 k9 b ∧ (A9 = none → k9 = 0) ∧ k9 < 9223372036854775808) := Lib.hid ⟨hS9, hn9, hk9⟩
                    have HIN : Hid ((valN l 6).isSome = true ∧ (valN l 4).isSome = true ∧ (adN ss ((valN l 4).getD 0) 8).isSome = true ∧ (valN l 11).getD 0 = 16 ∧ nn = nm ((adN ss ((valN l 4).getD 0) 8).getD []) 4 4) :=
                      Lib.hid ⟨HV6.out.2.symm, HV4.out.2.symm, by rw [← HV4.out.1]; exact HBA.out.1.symm, by rw [← HV11.out.1]; exact H16.out, by rw [HNN.out, HBA.out.2, HV4.out.1]⟩
                    clear kA hb8 hS9 hn9 hk9 HS7
                    go_upto_region 22 with fail
                    by_cases h64 : 64 < nn
                    · have d64 : 64 < (nn : Int) := by omega
                      have HDN : Hid (readN bs = rdE 12) := Lib.hid (by rw [HRD5.out]; exact readY_none (syms_2 HIN.out.1 HIN.out.2.1 HIN.out.2.2.1 HIN.out.2.2.2.1 HIN.out.2.2.2.2 (.inl h64)))
                      clear h64
                      go_wp2_with (first
                        | (refine wp_store_cs rfl 58 _ _ rfl gr rfl (flC 0 sl0 sl0 sl0) (congrArg Value.agg flC_zero) _ (by rfl) (infoFL _ _ _ _) (flC_one _ _ _ _) HS8.out.rd.res ?_; intro wz hz' hgz)
                        | (refine wp_store_csK 58 _ _ rfl gr rfl (flC 0 sl0 sl0 sl0) (congrArg Value.agg flC_zero) _ (by rfl) (infoFL _ _ _ _) (flC_one _ _ _ _) HS8.out.rd.res ?_; intro wz hz' hgz))
                      exact bodyPost_ret (v := .tuple #[.agg (flC 0 sl0 sl0 sl0), .int .i64 12]) (results_cell_tmp rfl _ _ gr 58 _ _ _ rfl rfl hz' Try.underlying58 rfl (infoFL _ _ _ _)) rfl (rdR_bad (e := 12) HDN.out (HS8.out.rd.fin hgz))
                    have d64 : (nn : Int) ≤ 64 := by omega
                    have hn64 : nn ≤ 64 := by omega
                    clear h64
                    by_cases hbad : bl = false ∧ 0 < nn
                    · obtain ⟨rfl, h0⟩ := hbad
                      have d0 : 0 < (nn : Int) := by omega
                      have HDN : Hid (readN bs = rdE 12) := Lib.hid (by rw [HRD5.out]; exact readY_none (syms_2 HIN.out.1 HIN.out.2.1 HIN.out.2.2.1 HIN.out.2.2.2.1 HIN.out.2.2.2.2 (.inr ⟨by rw [← HV6.out.1]; exact HBL9.out.1.symm, h0⟩)))
                      clear h0
                      go_wp2_with (first
                        | (refine wp_store_cs rfl 58 _ _ rfl gr rfl (flC 0 sl0 sl0 sl0) (congrArg Value.agg flC_zero) _ (by rfl) (infoFL _ _ _ _) (flC_one _ _ _ _) HS8.out.rd.res ?_; intro wz hz' hgz)
                        | (refine wp_store_csK 58 _ _ rfl gr rfl (flC 0 sl0 sl0 sl0) (congrArg Value.agg flC_zero) _ (by rfl) (infoFL _ _ _ _) (flC_one _ _ _ _) HS8.out.rd.res ?_; intro wz hz' hgz))
                      exact bodyPost_ret (v := .tuple #[.agg (flC 0 sl0 sl0 sl0), .int .i64 12]) (results_cell_tmp rfl _ _ gr 58 _ _ _ rfl rfl hz' Try.underlying58 rfl (infoFL _ _ _ _)) rfl (rdR_bad (e := 12) HDN.out (HS8.out.rd.fin hgz))
                    have hok : nn = 0 ∨ bl = true := by
                      cases bl with
                      | true => exact .inr rfl
                      | false => exact .inl (by
                          rcases Nat.eq_zero_or_pos nn with h0 | h0
                          · exact h0
                          · exact absurd ⟨rfl, h0⟩ hbad)
                    have HSY : Hid (symsN ss l = some (symG b nn)) := Lib.hid (by
                      rw [syms_3 HIN.out.1 HIN.out.2.1 HIN.out.2.2.1 HIN.out.2.2.2.1 HIN.out.2.2.2.2 hn64 (by
                        rcases hok with h0 | h0
                        · exact .inl h0
                        · exact .inr (by rw [← HV6.out.1, ← HBL9.out.1]; exact h0)), HBL9.out.2, HV6.out.1])
                    have HLB : Hid (0 < nn → b.length = 16 * nn) := Lib.hid fun h0 => by
                      have h1 : bl = true := by rcases hok with h2 | h2; omega; exact h2
                      have h3 := isSome_t [] (HBL9.out.1.symm.trans h1)
                      rw [← HBL9.out.2] at h3
                      exact adN_len h3
                    have HOK := Lib.hid hok
                    clear hbad
                    have hway : (bl = true) ∨ (bl = false ∧ nn = 0) := by
                      cases bl with
                      | true => exact .inl rfl
                      | false => exact .inr ⟨rfl, by rcases hok with h0 | h0; exact h0; cases h0⟩
                    go_cut [142] (fun t wx => t = .bool false ∧ w8 = wx)
                    case first =>
                      clear hok
                      have e64 : decide (64 < (nn : Int)) = false := decide_eq_false (by omega)
                      have HE64 := Lib.hid e64
                      clear e64
                      rcases hway with rfl | ⟨rfl, h0⟩
                      · go_wp2_with fail
                        go_meet
                        exact ⟨congrArg Value.bool HE64.out, by trivial⟩
                      · have d0 : (nn : Int) ≤ 0 := by omega
                        have e0 : decide (0 < nn) = false := decide_eq_false (by omega)
                        have HE0 := Lib.hid e0
                        clear h0 e0
                        go_wp2_with fail
                        go_meet
                        exact ⟨congrArg Value.bool (by rw [HE64.out, HE0.out]; rfl), by trivial⟩
                    case rest =>
                      obtain ⟨rfl, rfl⟩ := hcut
                      clear hway hok
                      go_wp2_with fail
                      go_loopw [23] (fun cn9 wr => ∃ (i : Nat) (y : Sl), i ≤ nn ∧ cn9 = .int .i64 (i : Int) ∧ StO w u gr go en ⟨As, ms, cs5⟩ y sl0 (.slice At mt ct) l (symG b i) [] wr) (fun ct _ => (nn - (intOf ct)).toNat)
                      case atStart => exact ⟨0, sl0, Nat.zero_le _, rfl, HS8.out⟩
                      case round => as_aux_lemma =>
                        obtain ⟨i, y, hi, rfl, hS0⟩ := hrel
                        clear HS8
                        by_cases hlt : i < nn
                        · have di : (i : Int) < (nn : Int) := by omega
                          have HS0 := Lib.hid hS0
                          clear hS0
                          go_upto_region 27 with fail
                          have hS0 := HS0.out
                          clear HS0
                          obtain ⟨Ay, iy, cy, hy⟩ := y.out
                          have hsyl : (symG b i).length = i := symG_len b i
                          have hown := hS0.sy
                          subst hy
                          have hiy := own_n hown
                          rw [hsyl] at hiy
                          replace hiy : iy = i := hiy
                          subst hiy
                          have hsucc := symG_succ b iy
                          obtain ⟨vv, hvv⟩ : ∃ x, x = nm b 4 (16 * iy + 4) := ⟨_, rfl⟩
                          rw [← hvv] at hsucc
                          have HVV := Lib.hid hvv
                          have HSU := Lib.hid hsucc
                          obtain ⟨sy, hsyd⟩ : ∃ x, x = symG b iy := ⟨_, rfl⟩
                          rw [← hsyd] at hS0 hsyl hown
                          have HSYD := Lib.hid hsyd
                          have hyl : ∀ h, (Value.slice Ay iy cy).ownBlock = some h → h < wr.heap.size := fun h e => (own_blk hown e).2
                          have hgol : ∀ w' : World, wr.heap.size ≤ w'.heap.size → go < w'.heap.size := fun w' h => Nat.lt_of_lt_of_le hS0.rd.out.lt h
                          have hbl16 := HLB.out (by omega)
                          have kCur := fun (w' : World) (hb : Below u.heap.size u w') (h : Nat) (hh : u.heap.size ≤ h) (hc : Has w' h 91 (curC A9 m9 k9 (16 * iy + 4) false)) => DcA.new (q := 16 * iy + 4) HA9.out.1 HA9.out.2.1 HA9.out.2.2 hb (show 16 * iy + 4 ≤ b.length by rw [hbl16]; omega) hc hh
                          clear hvv hsucc hsyd hown
                          refine region_simL [.pointer (some ⟨go, 2, none⟩), .slice Ay iy cy, .slice A9 m9 k9, .int .i64 (iy : Int), .int .i64 (16 * (iy : Int)), .int .i64 (16 * (iy : Int) + 4), .agg #[.slice A9 m9 k9, .int .i64 (16 * (iy : Int) + 4), .bool false], undef, .int .i64 (vv : Int), undef, undef, .pointer (some ⟨go, 2, none⟩), undef] [(7, fun x w' => ∃ h, x = .pointer (some ⟨h, 0, none⟩) ∧ wr.heap.size ≤ h ∧ ∃ cs, Has w' h 91 cs), (9, fun x w' => ∃ h, x = .slice (some ⟨h, 0, none⟩) 1 1 ∧ Has w' h 3 (tab 1 (i8 vv)) ∧ (Value.slice Ay iy cy).ownBlock ≠ some h), (10, fun x w' => ∃ A n c, x = .slice A n c ∧ n = iy + 1 ∧ (Has w' go 58 (flC en ⟨As, ms, cs5⟩ ⟨Ay, iy, cy⟩ sl0) → ∃ w1, StO w u gr go en ⟨As, ms, cs5⟩ ⟨Ay, iy, cy⟩ sl0 (.slice At mt ct) l sy [] w1 ∧ w'.ownsRow u.heap.size 3 1 (.slice A n c) (sy.length + 1) (cellsL 1 i8 (sy ++ [vv])) ∧ w1.grownBy w' (Value.slice Ay iy cy).ownBlock)), (12, fun x w' => x = undef ∧ ∃ y', StO w u gr go en ⟨As, ms, cs5⟩ y' sl0 (.slice At mt ct) l (sy ++ [vv]) [] w')] [(1, fun w' => StO w u gr go en ⟨As, ms, cs5⟩ ⟨Ay, iy, cy⟩ sl0 (.slice At mt ct) l sy [] w'), (7, fun w' => True), (8, fun w' => (StO w u gr go en ⟨As, ms, cs5⟩ ⟨Ay, iy, cy⟩ sl0 (.slice At mt ct) l sy [] w') ∧ (fun w' => ∀ h cs, wr.heap.size ≤ h → Has w' h 91 cs → cs = curC A9 m9 k9 (16 * iy + 4) false) w'), (10, fun w' => StO w u gr go en ⟨As, ms, cs5⟩ ⟨Ay, iy, cy⟩ sl0 (.slice At mt ct) l sy [] w'), (12, fun w' => Has w' go 58 (flC en ⟨As, ms, cs5⟩ ⟨Ay, iy, cy⟩ sl0))] [(7, fun w' w'' => Below w'.heap.size w' w'' ∧ ∀ h cs, w'.heap.size ≤ h → Has w'' h 91 cs → cs = curC A9 m9 k9 (16 * iy + 4) false), (8, fun w' w'' => ∃ h, wr.heap.size ≤ h ∧ (∃ cs, Has w' h 91 cs) ∧ w'.grownBy w'' (some h) ∧ ∃ cs, Has w'' h 91 cs), (9, fun w' w'' => Below w'.heap.size w' w''), (10, fun w' w'' => w'.ownsRow u.heap.size 3 1 (.slice Ay iy cy) sy.length (cellsL 1 i8 sy) ∧ w'.grownBy w'' (Value.slice Ay iy cy).ownBlock), (12, fun w' w'' => (Has w' go 58 (flC en ⟨As, ms, cs5⟩ ⟨Ay, iy, cy⟩ sl0)) ∧ w'.grownBy w'' (some go) ∧ ∃ A n c, n = iy + 1 ∧ Has w'' go 58 (flC en ⟨As, ms, cs5⟩ ⟨A, n, c⟩ sl0))] (fun w' => wr.heap.size ≤ w'.heap.size) 251 (by kernel_rfl) rfl (by kernel_rfl) ?_ ?_ ?_ ?_ ?_ (by decide) ?_
                          · intro w' hb he
                            refine ⟨hb.size, ?_⟩
                            have hSw := hS0.after hb
                            simp only [List.forall_mem_cons, List.not_mem_nil, false_implies, implies_true, and_true]
                            exact ⟨hSw, trivial, ⟨hSw, fun h cs hl hH => absurd hH.lt (by rw [he]; omega)⟩, hSw, hSw.rd.out⟩
                          · intro z hz
                            simp only [List.mem_cons, List.not_mem_nil, or_false] at hz
                            rcases hz with rfl | rfl | rfl | rfl | rfl <;> dsimp only
                            · exact fun w' w'' h hy => Nat.le_trans h hy.1.size
                            · exact fun w' w'' h ⟨_, _, _, hy, _⟩ => Nat.le_trans h hy.size
                            · exact fun w' w'' h hy => Nat.le_trans h hy.size
                            · exact fun w' w'' h hy => Nat.le_trans h hy.2.size
                            · exact fun w' w'' h hy => Nat.le_trans h hy.2.1.size
                          · intro y hy z hz
                            simp only [List.mem_cons, List.not_mem_nil, or_false] at hy hz
                            rcases hy with rfl | rfl | rfl | rfl <;> rcases hz with rfl | rfl | rfl | rfl | rfl <;> dsimp only
                            · exact fun h => absurd rfl h
                            · exact fun _ _ x w' w'' _ ⟨h, e, hl, cs, hc⟩ ⟨h2, hl2, hc2, hy, cs2, hc3⟩ => ⟨h, e, hl, (if hh : h = h2 then ⟨cs2, by rw [hh]; exact hc3⟩ else ⟨cs, has_grown hc hy (fun l e => by injection e with e; rw [← e]; exact hh)⟩)⟩
                            · exact fun _ _ x w' w'' _ ⟨h, e, hl, cs, hc⟩ hy => ⟨h, e, hl, cs, hc.after hy⟩
                            · exact fun _ _ x w' w'' _ ⟨h, e, hl, cs, hc⟩ hy => ⟨h, e, hl, cs, has_own hy.1 hc (by decide) hy.2⟩
                            · exact fun _ _ x w' w'' _ ⟨h, e, hl, cs, hc⟩ hy => ⟨h, e, hl, cs, has_grown hc hy.2.1 (fun l e2 => by injection e2 with e2; rw [← e2]; exact has_ne hc hy.1 (by decide))⟩
                            · exact fun _ _ x w' w'' _ ⟨h, e, hH, hn⟩ hy => ⟨h, e, hH.after hy.1, hn⟩
                            · exact fun _ h => absurd h (by decide +kernel)
                            · exact fun h => absurd rfl h
                            · exact fun _ _ x w' w'' _ ⟨h, e, hH, hn⟩ hy => ⟨h, e, has_grown hH hy.2 (fun l e2 e3 => hn (by rw [e2, e3])), hn⟩
                            · exact fun _ _ x w' w'' _ ⟨h, e, hH, hn⟩ hy => ⟨h, e, has_grown hH hy.2.1 (fun l e2 => by injection e2 with e2; rw [← e2]; exact has_ne hH hy.1 (by decide)), hn⟩
                            · exact fun _ _ x w' w'' _ ⟨A, n, c, e, hn, hS⟩ hy => ⟨A, n, c, e, hn, fun hO => (by
                                  have hgo : go < w'.heap.size := hgol w' (by assumption)
                                  obtain ⟨w1, h1, h2, h3⟩ := hS ((hy.1.block go hgo).symm.trans hO)
                                  exact ⟨w1, h1, own_after h2 hy.1, only_trans h3 (only_below hy.1 _)⟩)⟩
                            · exact fun _ h => absurd h (by decide +kernel)
                            · exact fun _ h => absurd h (by decide +kernel)
                            · exact fun h => absurd rfl h
                            · exact fun _ _ x w' w'' _ ⟨A, n, c, e, hn, hS⟩ hy => ⟨A, n, c, e, hn, fun hO => (by
                                  obtain ⟨_, _, A2, n2, c2, hn2, hG2⟩ := hy
                                  exact absurd (flC_inj hO hG2) (by omega))⟩
                            · exact fun _ h => absurd h (by decide +kernel)
                            · exact fun _ h => absurd h (by decide +kernel)
                            · exact fun _ h => absurd h (by decide +kernel)
                            · exact fun _ h => absurd h (by decide +kernel)
                            · exact fun h => absurd rfl h
                          · intro y hy z hz
                            simp only [List.mem_cons, List.not_mem_nil, or_false] at hy hz
                            rcases hy with rfl | rfl | rfl | rfl | rfl <;> rcases hz with rfl | rfl | rfl | rfl | rfl <;> dsimp only
                            · exact fun _ _ w' w'' _ hS hy => hS.after hy.1
                            · exact fun _ _ w' w'' _ hS ⟨h, hl, ⟨cs, hc⟩, hy, _⟩ => hS.far hc (by decide) (by decide) (by decide) hy (Nat.le_trans hS0.rd.bel.size hl) (has_ne hS.rd.out hc (by decide))
                            · exact fun _ _ w' w'' _ hS hy => hS.after hy
                            · exact fun _ h => absurd h (by decide +kernel)
                            · exact fun _ h => absurd h (by decide +kernel)
                            · exact fun _ _ _ _ _ _ _ => trivial
                            · exact fun _ _ _ _ _ _ _ => trivial
                            · exact fun _ _ _ _ _ _ _ => trivial
                            · exact fun _ _ _ _ _ _ _ => trivial
                            · exact fun _ _ _ _ _ _ _ => trivial
                            · exact fun _ _ w' w'' hi ⟨hS, hG⟩ hy => ⟨hS.after hy.1, fun h cs hl hH => (by
                                  by_cases hh : h < w'.heap.size
                                  · exact hG h cs hl ((hy.1.block h hh).symm.trans hH)
                                  · exact hy.2 h cs (by omega) hH)⟩
                            · exact fun h => absurd rfl h
                            · exact fun _ h => absurd h (by decide +kernel)
                            · exact fun _ h => absurd h (by decide +kernel)
                            · exact fun _ h => absurd h (by decide +kernel)
                            · exact fun _ _ w' w'' _ hS hy => hS.after hy.1
                            · exact fun _ _ w' w'' _ hS ⟨h, hl, ⟨cs, hc⟩, hy, _⟩ => hS.far hc (by decide) (by decide) (by decide) hy (Nat.le_trans hS0.rd.bel.size hl) (has_ne hS.rd.out hc (by decide))
                            · exact fun _ _ w' w'' _ hS hy => hS.after hy
                            · exact fun h => absurd rfl h
                            · exact fun _ h => absurd h (by decide +kernel)
                            · exact fun _ _ w' w'' _ hS hy => hS.after hy.1
                            · exact fun _ _ w' w'' _ hS ⟨h, hl, ⟨cs, hc⟩, hy, _⟩ => has_grown hS hy (fun l e2 => by injection e2 with e2; rw [← e2]; exact has_ne hS hc (by decide))
                            · exact fun _ _ w' w'' _ hS hy => hS.after hy
                            · exact fun _ _ w' w'' _ hS hy => has_own hy.1 hS (by decide) hy.2
                            · exact fun h => absurd rfl h
                          · refine ⟨⟨?_, ?_⟩, ⟨?_, ?_⟩, ⟨?_, ?_⟩, ⟨?_, ?_⟩, ⟨?_, ?_⟩, ⟨?_, ?_⟩, ⟨?_, ?_⟩, ⟨?_, ?_⟩, ⟨?_, ?_⟩, ⟨?_, ?_⟩, ⟨?_, ?_⟩, ⟨?_, ?_⟩, ⟨?_, ?_⟩, trivial⟩
                            · intro v w' AA hAA hg hf hl hgd K hK
                              exact pure_step (.pointer (some ⟨go, 2, none⟩)) (fun ρ hρ => by
                                have e8 : ρ (.tmp 8) = .pointer (some ⟨go, 0, none⟩) := by rw [hρ]; exact hAA.2 8 (by simp)
                                clear hρ hf hAA hl hK hg
                                go_simp) (hK _ _ rfl ⟨rfl, hg.2⟩)
                            · trivial
                            · intro v w' AA hAA hg hf hl hgd K hK
                              have hcell : w'.cell? ⟨go, 2, none⟩ = some (.slice Ay iy cy) := hg.1.rd.out.cell 2
                              exact pure_step (.slice Ay iy cy) (fun ρ hρ => by
                                have e149 : ρ (.tmp 149) = .pointer (some ⟨go, 2, none⟩) := by rw [hρ]; exact (hAA.1 0 _ 149 rfl rfl).trans (hf ⟨0, .data⟩ (by simp) rfl).1
                                clear hρ hf hAA hl hK hg
                                go_simp) (hK _ _ rfl ⟨rfl, hg.2⟩)
                            · trivial
                            · intro v w' AA hAA hg hf hl hgd K hK
                              exact pure_step (.slice A9 m9 k9) (fun ρ hρ => by
                                have e21 : ρ (.tmp 21) = .slice A9 m9 k9 := by rw [hρ]; exact hAA.2 21 (by simp)
                                clear hρ hf hAA hl hK hg
                                go_simp) (hK _ _ rfl ⟨rfl, hg.2⟩)
                            · trivial
                            · intro v w' AA hAA hg hf hl hgd K hK
                              exact pure_step (.int .i64 (iy : Int)) (fun ρ hρ => by
                                have e23 : ρ (.tmp 23) = .int .i64 (iy : Int) := by rw [hρ]; exact hAA.2 23 (by simp)
                                clear hρ hf hAA hl hK hg
                                go_simp) (hK _ _ rfl ⟨rfl, hg.2⟩)
                            · trivial
                            · intro v w' AA hAA hg hf hl hgd K hK
                              exact pure_step (.int .i64 (16 * (iy : Int))) (fun ρ hρ => by
                                have hcst : ∀ x, ρ (.const x) = x := fun x => by rw [hρ]; rfl
                                have e152 : ρ (.tmp 152) = .int .i64 (iy : Int) := by rw [hρ]; exact (hAA.1 3 _ 152 rfl rfl).trans (hf ⟨3, .data⟩ (by simp) rfl).1
                                clear hρ hf hAA hl hK hg
                                have hwr : IntKind.i64.wrap (16 * (iy : Int)) = 16 * (iy : Int) := i64_in' _ (by omega)
                                go_simp) (hK _ _ rfl ⟨rfl, hg.2⟩)
                            · trivial
                            · intro v w' AA hAA hg hf hl hgd K hK
                              exact pure_step (.int .i64 (16 * (iy : Int) + 4)) (fun ρ hρ => by
                                have hcst : ∀ x, ρ (.const x) = x := fun x => by rw [hρ]; rfl
                                have e153 : ρ (.tmp 153) = .int .i64 (16 * (iy : Int)) := by rw [hρ]; exact (hAA.1 4 _ 153 rfl rfl).trans (hf ⟨4, .data⟩ (by simp) rfl).1
                                clear hρ hf hAA hl hK hg
                                have hwr : IntKind.i64.wrap (16 * (iy : Int) + 4) = 16 * (iy : Int) + 4 := i64_in' _ (by omega)
                                go_simp) (hK _ _ rfl ⟨rfl, hg.2⟩)
                            · trivial
                            · intro v w' AA hAA hg hf hl hgd K hK
                              exact pure_step (.agg #[.slice A9 m9 k9, .int .i64 (16 * (iy : Int) + 4), .bool false]) (fun ρ hρ => by
                                have e151 : ρ (.tmp 151) = .slice A9 m9 k9 := by rw [hρ]; exact (hAA.1 2 _ 151 rfl rfl).trans (hf ⟨2, .data⟩ (by simp) rfl).1
                                have e154 : ρ (.tmp 154) = .int .i64 (16 * (iy : Int) + 4) := by rw [hρ]; exact (hAA.1 5 _ 154 rfl rfl).trans (hf ⟨5, .data⟩ (by simp) rfl).1
                                clear hρ hf hAA hl hK hg
                                go_simp) (hK _ _ rfl ⟨rfl, hg.2⟩)
                            · trivial
                            · intro v w' AA hAA hg hf hl hgd K hK
                              refine new_step (w'' := w'.alloc (.cells #[.slice A9 m9 k9, .int .i64 (16 * (iy : Int) + 4), .bool false] 91)) (.pointer (some ⟨w'.heap.size, 0, none⟩)) (fun ρ hρ => by
                                  have e155 : ρ (.tmp 155) = .agg #[.slice A9 m9 k9, .int .i64 (16 * (iy : Int) + 4), .bool false] := by rw [hρ]; exact (hAA.1 6 _ 155 rfl rfl).trans (hf ⟨6, .data⟩ (by simp) rfl).1
                                  clear hρ hf hAA hl hK hg
                                  go_simp
                                ) (hK _ _ ⟨(Below.refl _ _).alloc (Nat.le_refl _) _, fun h cs hh hH => cur_fresh (by exact curLit A9 m9 k9 (16 * iy + 4)) hh hH⟩ ⟨⟨_, rfl, hg.2, _, Has.new _ _ _⟩, Nat.le_trans hg.2 ((Below.refl w'.heap.size w').alloc (Nat.le_refl _) (.cells #[.slice A9 m9 k9, .int .i64 (16 * (iy : Int) + 4), .bool false] 91)).size⟩)
                            · trivial
                            · intro v w' AA hAA hg hf hl hgd K hK
                              obtain ⟨⟨h7, hv7, hl7, cs7, hc7⟩, _⟩ := hf ⟨7, .data⟩ (by simp) rfl
                              have hgg := hg
                              obtain ⟨⟨hST, hG8⟩, hsz⟩ := hgg
                              have hcs7 := hG8 h7 cs7 hl7 hc7
                              subst hcs7
                              have hDc := kCur w' hST.rd.bel h7 (Nat.le_trans hS0.rd.bel.size hl7) hc7
                              refine call_step 24 #[.pointer (some ⟨h7, 0, none⟩), .int .i64 4] (fun ρ hρ => by
                                  have hcst : ∀ x, ρ (.const x) = x := fun x => by rw [hρ]; rfl
                                  have hfun : ∀ f, ρ (.func f) = .func (.func f) #[] #[] := fun f => by rw [hρ]; rfl
                                  have e156 : ρ (.tmp 156) = .pointer (some ⟨h7, 0, none⟩) := by rw [hρ]; exact (hAA.1 7 _ 156 rfl rfl).trans hv7
                                  clear hρ hf hAA hl hK hg hDc
                                  go_simp) ?_
                              refine (hDc.num4).mono ?_
                              rintro e w'' ⟨rfl, hD2, hy⟩
                              obtain ⟨cs8, hc8⟩ := hD2.curE
                              rw [← HVV.out]
                              exact ⟨_, rfl, hK _ _ ⟨h7, hl7, ⟨_, hc7⟩, hy, cs8, hc8⟩ ⟨rfl, Nat.le_trans hsz hy.size⟩⟩
                            · trivial
                            · intro v w' AA hAA hg hf hl hgd K hK
                              refine new_step (w'' := w'.alloc (.cells #[.int .i64 (vv : Int)] 3)) (.slice (some ⟨w'.heap.size, 0, none⟩) 1 1) (fun ρ hρ => by
                                  have e157 : ρ (.tmp 157) = .int .i64 (vv : Int) := by rw [hρ]; exact (hAA.1 8 _ 157 rfl rfl).trans (hf ⟨8, .data⟩ (by simp) rfl).1
                                  clear hρ hf hAA hl hK hg
                                  go_simp
                                ) (hK _ _ ((Below.refl _ _).alloc (Nat.le_refl _) _) ⟨⟨_, rfl, Has.new _ _ _, fun h => absurd (hyl _ h) (by have := hg.2; omega)⟩, Nat.le_trans hg.2 ((Below.refl w'.heap.size w').alloc (Nat.le_refl _) (.cells #[.int .i64 (vv : Int)] 3)).size⟩)
                            · trivial
                            · intro v w' AA hAA hg hf hl hgd K hK
                              obtain ⟨⟨h9, hv9, hH9, hn9⟩, _⟩ := hf ⟨9, .data⟩ (by simp) rfl
                              have es : AA.eval (.tmp 150) = .slice Ay iy cy := (hAA.1 1 _ 150 rfl rfl).trans (hf ⟨1, .data⟩ (by simp) rfl).1
                              have ex : AA.eval (.tmp 158) = .slice (some ⟨h9, 0, none⟩) 1 1 := (hAA.1 9 _ 158 rfl rfl).trans hv9
                              have hso := hg.1.sy
                              refine wp_append_elK (f := i8) Try.underlying55 infoI1 rfl (by decide) (by decide) i8_one _ _ rfl u.heap.size (.slice Ay iy cy) sy.length sy es hso h9 ex vv hH9 (by omega) hg.1.rd.bel.size ?_
                              intro v' w'' hown' hgr'
                              obtain ⟨Av, cv, rfl⟩ := own_form hown'
                              exact hK _ _ ⟨hso, hgr'⟩ ⟨⟨Av, _, cv, rfl, by rw [hsyl], fun _ => ⟨w', hg.1, hown', hgr'⟩⟩, Nat.le_trans hg.2 hgr'.size⟩
                            · trivial
                            · intro v w' AA hAA hg hf hl hgd K hK
                              exact pure_step (.pointer (some ⟨go, 2, none⟩)) (fun ρ hρ => by
                                have e8 : ρ (.tmp 8) = .pointer (some ⟨go, 0, none⟩) := by rw [hρ]; exact hAA.2 8 (by simp)
                                clear hρ hf hAA hl hK hg
                                go_simp) (hK _ _ rfl ⟨rfl, hg.2⟩)
                            · trivial
                            · intro v w' AA hAA hg hf hl hgd K hK
                              obtain ⟨⟨A10, n10, c10, hv10, hn10, hS10⟩, _⟩ := hf ⟨10, .data⟩ (by simp) rfl
                              obtain ⟨w1, hS1, ho1, hk1⟩ := hS10 hg.1
                              have hc2 : w'.cell? ⟨go, 2, none⟩ = some (.slice Ay iy cy) := hg.1.cell 2
                              have hf2 := hg.1.free 2
                              have hG2 := hg.1.set 2 (.slice A10 n10 c10)
                              have hgs := only_setCell w' go 2 (.slice A10 n10 c10)
                              have hno : n10 = sy.length + 1 := by rw [hn10, hsyl]
                              have hS2 := hS1.sym (A := A10) (n := n10) (c := c10) (w'.setCell ⟨go, 2, none⟩ (.slice A10 n10 c10)) ho1 hk1 hgs hG2
                              refine new_stepS (w'' := w'.setCell ⟨go, 2, none⟩ (.slice A10 n10 c10)) (fun ρ hρ => by
                                  have e160 : ρ (.tmp 160) = .pointer (some ⟨go, 2, none⟩) := by rw [hρ]; exact (hAA.1 11 _ 160 rfl rfl).trans (hf ⟨11, .data⟩ (by simp) rfl).1
                                  have e159 : ρ (.tmp 159) = .slice A10 n10 c10 := by rw [hρ]; exact (hAA.1 10 _ 159 rfl rfl).trans hv10
                                  clear hρ hf hAA hl hK hg hG2 hgs hS2 hS1 ho1 hk1 hS10
                                  go_simp
                                ) (hK _ _ ⟨hg.1, hgs, A10, n10, c10, hn10, hG2⟩ ⟨⟨rfl, _, hS2⟩, Nat.le_trans hg.2 hgs.size⟩)
                            · trivial
                          intro v wE hIE hE
                          have f0 : v 0 = .pointer (some ⟨go, 2, none⟩) := (hE 0 (by decide)).1
                          have f1 : v 1 = .slice Ay iy cy := (hE 1 (by decide)).1
                          have f2 : v 2 = .slice A9 m9 k9 := (hE 2 (by decide)).1
                          have f3 : v 3 = .int .i64 (iy : Int) := (hE 3 (by decide)).1
                          have f4 : v 4 = .int .i64 (16 * (iy : Int)) := (hE 4 (by decide)).1
                          have f5 : v 5 = .int .i64 (16 * (iy : Int) + 4) := (hE 5 (by decide)).1
                          have f6 : v 6 = .agg #[.slice A9 m9 k9, .int .i64 (16 * (iy : Int) + 4), .bool false] := (hE 6 (by decide)).1
                          obtain ⟨⟨h7, hv7, hl7, hc7⟩, _⟩ := hE 7 (by decide)
                          have f8 : v 8 = .int .i64 (vv : Int) := (hE 8 (by decide)).1
                          obtain ⟨⟨h9, hv9, hH9, hn9⟩, _⟩ := hE 9 (by decide)
                          obtain ⟨⟨A10, n10, c10, hv10, hn10, hS10⟩, _⟩ := hE 10 (by decide)
                          have f11 : v 11 = .pointer (some ⟨go, 2, none⟩) := (hE 11 (by decide)).1
                          obtain ⟨⟨hv12, hS12⟩, _⟩ := hE 12 (by decide)
                          clear hE
                          simp only [putAll, Act.put, List.setIfInBounds_toArray, List.set_cons_zero, List.set_cons_succ, Nat.zero_add, Nat.reduceAdd]
                          rw [f0, f1, f2, f3, f4, f5, f6, hv7, f8, hv9, hv10, f11]
                          clear f0 f1 f2 f3 f4 f5 f6 f8 f11
                          obtain ⟨y', hS12'⟩ := hS12
                          have HS12 : Hid (StO w u gr go en ⟨As, ms, cs5⟩ y' sl0 (.slice At mt ct) l (symG b (iy + 1)) [] wE) := Lib.hid (by rw [HSU.out, ← HSYD.out]; exact hS12')
                          clear hS12' hS0 hyl hgol kCur hbl16
                          go_wp2_with fail
                          go_roundw
                          case rel => exact ⟨iy + 1, y', hlt, by go_num, HS12.out⟩
                          case measure => simp [intOf] <;> omega
                        · obtain rfl : i = nn := by omega
                          have HS0 := Lib.hid hS0
                          clear hS0
                          go_wp2_with fail
                          go_meet
                          exact ⟨symG b i, y, HSY.out, by rw [symG_len]; exact hn64, HS0.out⟩
            case rest => as_aux_lemma =>
              obtain ⟨sy, y, hsy, hs64, hS⟩ := hcut
              have HSYN := Lib.hid hsy
              have HSY64 := Lib.hid hs64
              have HST := Lib.hid hS
              clear hsy hs64 hS hS3
              have kV := HKV.out 7 wc HST.out.tg
              have hvl7 := HVL.out 7
              obtain ⟨v7, hv7⟩ : ∃ x, x = (valN l 7).getD 0 := ⟨_, rfl⟩
              obtain ⟨b7, hb7⟩ : ∃ x, x = (valN l 7).isSome := ⟨_, rfl⟩
              rw [← hv7, ← hb7, show ((7 : Nat) : Int) = 7 from rfl] at kV
              rw [← hv7] at hvl7
              have HV7 : Hid (v7 = (valN l 7).getD 0 ∧ b7 = (valN l 7).isSome) := Lib.hid ⟨hv7, hb7⟩
              clear hv7 hb7
              go_wp2_with fail
              refine kV.mono ?_
              rintro e w4 ⟨rfl, rfl⟩
              clear kV
              have kV := HKV.out 8 wc HST.out.tg
              have hvl8 := HVL.out 8
              obtain ⟨v8, hv8⟩ : ∃ x, x = (valN l 8).getD 0 := ⟨_, rfl⟩
              obtain ⟨b8, hb8⟩ : ∃ x, x = (valN l 8).isSome := ⟨_, rfl⟩
              rw [← hv8, ← hb8, show ((8 : Nat) : Int) = 8 from rfl] at kV
              rw [← hv8] at hvl8
              have HV8 : Hid (v8 = (valN l 8).getD 0 ∧ b8 = (valN l 8).isSome) := Lib.hid ⟨hv8, hb8⟩
              clear hv8 hb8
              go_wp2_with fail
              refine kV.mono ?_
              rintro e w4 ⟨rfl, rfl⟩
              clear kV
              have kV := HKV.out 9 wc HST.out.tg
              have hvl9 := HVL.out 9
              obtain ⟨v9, hv9⟩ : ∃ x, x = (valN l 9).getD 0 := ⟨_, rfl⟩
              obtain ⟨b9, hb9⟩ : ∃ x, x = (valN l 9).isSome := ⟨_, rfl⟩
              rw [← hv9, ← hb9, show ((9 : Nat) : Int) = 9 from rfl] at kV
              rw [← hv9] at hvl9
              have HV9 : Hid (v9 = (valN l 9).getD 0 ∧ b9 = (valN l 9).isSome) := Lib.hid ⟨hv9, hb9⟩
              clear hv9 hb9
              go_wp2_with fail
              refine kV.mono ?_
              rintro e w4 ⟨rfl, rfl⟩
              clear kV
              go_upto_region 31 with fail
              cases b7 with
              | false =>
                by_cases h8 : ¬ v8 = 0
                · have d8 : ((v8 : Int) != 0) = true := by simp only [bne_iff_ne, ne_eq]; omega
                  have HDN : Hid (readN bs = rdE 12) := Lib.hid (by rw [HRD5.out]; exact readY_none2 HSYN.out (rels_1 HV7.out.2.symm (by rw [← HV8.out.1]; exact h8)))
                  clear h8
                  go_wp2_with (first
                    | (refine wp_store_cs rfl 58 _ _ rfl gr rfl (flC 0 sl0 sl0 sl0) (congrArg Value.agg flC_zero) _ (by rfl) (infoFL _ _ _ _) (flC_one _ _ _ _) HST.out.rd.res ?_; intro wz hz' hgz)
                    | (refine wp_store_csK 58 _ _ rfl gr rfl (flC 0 sl0 sl0 sl0) (congrArg Value.agg flC_zero) _ (by rfl) (infoFL _ _ _ _) (flC_one _ _ _ _) HST.out.rd.res ?_; intro wz hz' hgz))
                  exact bodyPost_ret (v := .tuple #[.agg (flC 0 sl0 sl0 sl0), .int .i64 12]) (results_cell_tmp rfl _ _ gr 58 _ _ _ rfl rfl hz' Try.underlying58 rfl (infoFL _ _ _ _)) rfl (rdR_bad (e := 12) HDN.out (HST.out.rd.fin hgz))
                replace h8 : v8 = 0 := by omega
                have d8 : ((v8 : Int) != 0) = false := by simp only [bne_eq_false_iff_eq]; omega
                have HDN : Hid (readN bs = ⟨en, ss, sy, [], 0⟩) := Lib.hid (by rw [HRD5.out]; exact readY_some HSYN.out (rels_0 HV7.out.2.symm (by rw [← HV8.out.1]; exact h8)))
                clear h8
                go_wp2_with (first
                  | (refine wpList_load_has 58 _ rfl _ rfl rfl 58 _ HST.out.rd.out _ Try.underlying58 rfl (infoFL _ _ _ _) ?_)
                  | (refine wp_store_cs rfl 58 _ _ rfl gr rfl (flC en ⟨As, ms, cs5⟩ y sl0) rfl _ (by rfl) (infoFL _ _ _ _) (flC_one _ _ _ _) HST.out.rd.res ?_; intro wz hz' hgz)
                  | (refine wp_store_csK 58 _ _ rfl gr rfl (flC en ⟨As, ms, cs5⟩ y sl0) rfl _ (by rfl) (infoFL _ _ _ _) (flC_one _ _ _ _) HST.out.rd.res ?_; intro wz hz' hgz))
                exact bodyPost_ret (v := .tuple #[.agg (flC en ⟨As, ms, cs5⟩ y sl0), .int .i64 0]) (results_cell_tmp rfl _ _ gr 58 _ _ _ rfl rfl hz' Try.underlying58 rfl (infoFL _ _ _ _)) rfl (HST.out.end HT.out (by have := HSY64.out; omega) (by decide) hgz HDN.out)
              | true =>
                go_upto_region 35 with fail
                have kA := hKA.out v7 v8 wc (by omega) (by omega) HST.out.rd.bel
                unfold AtR at kA
                obtain ⟨ba, hba⟩ : ∃ x, x = (adN ss v7 v8).isSome := ⟨_, rfl⟩
                obtain ⟨b, hbb⟩ : ∃ x, x = (adN ss v7 v8).getD [] := ⟨_, rfl⟩
                rw [← hba, ← hbb] at kA
                have HBA : Hid (ba = (adN ss v7 v8).isSome ∧ b = (adN ss v7 v8).getD []) := Lib.hid ⟨hba, hbb⟩
                clear hba hbb
                go_wp2_with fail
                refine kA.mono ?_
                rintro e w5 ⟨⟨A9, m9, k9, rfl, hS9, hn9, hk9⟩, hb5⟩
                have HST5 := Lib.hid (HST.out.after hb5)
                have HA9 : Hid (SlA u A9 m9 k9 b ∧ (A9 = none → k9 = 0) ∧ k9 < 9223372036854775808) := Lib.hid ⟨hS9, hn9, hk9⟩
                clear kA hb5 hS9 hn9 hk9 HST
                go_upto_region 36 with fail
                obtain ⟨q12, hq12⟩ : ∃ x, x = v8 % 12 := ⟨_, rfl⟩
                have t12 : (v8 : Int).tmod 12 = (q12 : Int) := by rw [Int.tmod_eq_emod_of_nonneg (by omega)]; omega
                have HQ12 := Lib.hid hq12
                have hq12l : q12 < 12 := by omega
                clear hq12
                go_cut [207] (fun t wx => w5 = wx ∧ t = .bool (decide (v9 ≠ 12 ∨ q12 ≠ 0 ∨ 768 < v8 ∨ (ba = false ∧ 0 < v8))))
                case first =>
                  by_cases h9 : ¬ v9 = 12
                  · have d9 : ((v9 : Int) != 12) = true := by simp only [bne_iff_ne, ne_eq]; omega
                    have HF := Lib.hid (decide_eq_true (show v9 ≠ 12 ∨ q12 ≠ 0 ∨ 768 < v8 ∨ (ba = false ∧ 0 < v8) from .inl h9))
                    clear h9
                    go_wp2_with fail
                    go_meet
                    exact ⟨by trivial, by rw [HF.out]⟩
                  have d9 : ((v9 : Int) != 12) = false := by simp only [bne_eq_false_iff_eq]; omega
                  by_cases h12 : ¬ q12 = 0
                  · have d12 : ((q12 : Int) != 0) = true := by simp only [bne_iff_ne, ne_eq]; omega
                    have HF := Lib.hid (decide_eq_true (show v9 ≠ 12 ∨ q12 ≠ 0 ∨ 768 < v8 ∨ (ba = false ∧ 0 < v8) from .inr (.inl h12)))
                    clear h9 h12
                    go_wp2_with fail
                    go_meet
                    exact ⟨by trivial, by rw [HF.out]⟩
                  have d12 : ((q12 : Int) != 0) = false := by simp only [bne_eq_false_iff_eq]; omega
                  by_cases h768 : 768 < v8
                  · have d768 : 768 < (v8 : Int) := by omega
                    have HF := Lib.hid (decide_eq_true (show v9 ≠ 12 ∨ q12 ≠ 0 ∨ 768 < v8 ∨ (ba = false ∧ 0 < v8) from .inr (.inr (.inl h768))))
                    clear h9 h12 h768
                    go_wp2_with fail
                    go_meet
                    exact ⟨by trivial, by rw [HF.out]⟩
                  have d768 : (v8 : Int) ≤ 768 := by omega
                  cases ba with
                  | true =>
                    have HF := Lib.hid (decide_eq_false (show ¬ (v9 ≠ 12 ∨ q12 ≠ 0 ∨ 768 < v8 ∨ (true = false ∧ 0 < v8)) from fun h => by
                      rcases h with h | h | h | ⟨h, _⟩
                      · exact h9 h
                      · exact h12 h
                      · exact h768 h
                      · cases h))
                    have e768 : decide (768 < (v8 : Int)) = false := decide_eq_false (by omega)
                    have HE := Lib.hid e768
                    clear h9 h12 h768 e768
                    go_wp2_with fail
                    go_meet
                    exact ⟨by trivial, by rw [HF.out]; first | rfl | exact congrArg Value.bool HE.out⟩
                  | false =>
                    by_cases h0 : 0 < v8
                    · have d0 : 0 < (v8 : Int) := by omega
                      have HF := Lib.hid (decide_eq_true (show v9 ≠ 12 ∨ q12 ≠ 0 ∨ 768 < v8 ∨ (false = false ∧ 0 < v8) from .inr (.inr (.inr ⟨rfl, h0⟩))))
                      have H0 := Lib.hid h0
                      clear h9 h12 h768 h0
                      go_wp2_with fail
                      go_meet
                      exact ⟨by trivial, by rw [HF.out]; first | rfl | exact congrArg Value.bool (by rw [decide_eq_true H0.out]; exact Bool.or_true _)⟩
                    · have d0 : (v8 : Int) ≤ 0 := by omega
                      have HF := Lib.hid (decide_eq_false (show ¬ (v9 ≠ 12 ∨ q12 ≠ 0 ∨ 768 < v8 ∨ (false = false ∧ 0 < v8)) from fun h => by
                        rcases h with h | h | h | ⟨_, h⟩
                        · exact h9 h
                        · exact h12 h
                        · exact h768 h
                        · exact h0 h))
                      have e768 : decide (768 < (v8 : Int)) = false := decide_eq_false (by omega)
                      have e0 : decide (0 < v8) = false := decide_eq_false h0
                      have HE := Lib.hid e768
                      have HE0 := Lib.hid e0
                      clear h9 h12 h768 h0 e768 e0
                      go_wp2_with fail
                      go_meet
                      exact ⟨by trivial, by rw [HF.out]; first | rfl | exact congrArg Value.bool (by rw [HE.out, HE0.out]; rfl)⟩
                case rest =>
                  obtain ⟨rfl, rfl⟩ := hcut
                  by_cases hbad : v9 ≠ 12 ∨ q12 ≠ 0 ∨ 768 < v8 ∨ (ba = false ∧ 0 < v8)
                  · rw [decide_eq_true hbad]
                    have HDN : Hid (readN bs = rdE 12) := Lib.hid (by rw [HRD5.out]; exact readY_none2 HSYN.out (rels_2 HV7.out.2.symm HV8.out.1 (by rw [← HV9.out.1, ← HV7.out.1, ← HQ12.out, ← HBA.out.1]; exact hbad)))
                    clear hbad
                    go_wp2_with (first
                      | (refine wp_store_cs rfl 58 _ _ rfl gr rfl (flC 0 sl0 sl0 sl0) (congrArg Value.agg flC_zero) _ (by rfl) (infoFL _ _ _ _) (flC_one _ _ _ _) HST5.out.rd.res ?_; intro wz hz' hgz)
                      | (refine wp_store_csK 58 _ _ rfl gr rfl (flC 0 sl0 sl0 sl0) (congrArg Value.agg flC_zero) _ (by rfl) (infoFL _ _ _ _) (flC_one _ _ _ _) HST5.out.rd.res ?_; intro wz hz' hgz))
                    exact bodyPost_ret (v := .tuple #[.agg (flC 0 sl0 sl0 sl0), .int .i64 12]) (results_cell_tmp rfl _ _ gr 58 _ _ _ rfl rfl hz' Try.underlying58 rfl (infoFL _ _ _ _)) rfl (rdR_bad (e := 12) HDN.out (HST5.out.rd.fin hgz))
                  rw [decide_eq_false hbad]
                  obtain ⟨h9, h12, h768, hok⟩ : v9 = 12 ∧ q12 = 0 ∧ v8 ≤ 768 ∧ (v8 = 0 ∨ ba = true) := by
                    refine ⟨by omega, by omega, by omega, ?_⟩
                    cases ba with
                    | true => exact .inr rfl
                    | false => exact .inl (by
                        rcases Nat.eq_zero_or_pos v8 with h0 | h0
                        · exact h0
                        · exact absurd (.inr (.inr (.inr ⟨rfl, h0⟩))) hbad)
                  have HRL : Hid (relsN ss l sy.length = if (relG b (v8 / 12)).all (rlB sy.length) = true then some (relG b (v8 / 12)) else none) := Lib.hid (by
                    have h1 := rels_3 (m := sy.length) (ss := ss) HV7.out.2.symm HV8.out.1 (HV9.out.1.symm.trans h9) (HQ12.out.symm.trans h12) h768 (by rw [← HV7.out.1, ← HBA.out.1]; exact hok)
                    rw [← HV7.out.1, ← HBA.out.2] at h1
                    exact h1)
                  have HLB : Hid (0 < v8 → b.length = v8) := Lib.hid fun h0 => by
                    have h1 : ba = true := by rcases hok with h2 | h2; omega; exact h2
                    have h3 := isSome_t [] (HBA.out.1.symm.trans h1)
                    rw [← HBA.out.2] at h3
                    exact adN_len h3
                  obtain ⟨qn, hqn⟩ : ∃ x, x = v8 / 12 := ⟨_, rfl⟩
                  have tqn : (v8 : Int).tdiv 12 = (qn : Int) := by rw [Int.tdiv_eq_ediv_of_nonneg (by omega)]; omega
                  have hqn64 : qn ≤ 64 := by omega
                  rw [← hqn] at HRL
                  have HQN : Hid (v8 = 12 * qn) := Lib.hid (by have := HQ12.out; omega)
                  clear hbad h9 h12 h768 hok hqn t12 hq12l
                  go_upto_region 39 with fail
                  have hC : Has (w5.alloc (.cells #[.slice A9 m9 k9, .int .i64 0, .bool false] 91)) w5.heap.size 91 (curC A9 m9 k9 0 false) := Has.new _ _ _
                  have hba : Below w5.heap.size w5 (w5.alloc (.cells #[.slice A9 m9 k9, .int .i64 0, .bool false] 91)) := (Below.refl _ _).alloc (Nat.le_refl _) _
                  have hS6 := HST5.out.after hba
                  have hD6 : DcA u b A9 m9 k9 w5.heap.size 0 (w5.alloc (.cells #[.slice A9 m9 k9, .int .i64 0, .bool false] 91)) := DcA.new HA9.out.1 HA9.out.2.1 HA9.out.2.2 hS6.rd.bel (Nat.zero_le _) hC HST5.out.rd.bel.size
                  have HGC : Hid (go ≠ w5.heap.size ∧ u.heap.size ≤ w5.heap.size) := Lib.hid ⟨has_ne hS6.rd.out hC (by decide), HST5.out.rd.bel.size⟩
                  clear hba hC HST5
                  generalize w5.alloc (.cells #[.slice A9 m9 k9, .int .i64 0, .bool false] 91) = w6 at *
                  generalize w5.heap.size = gc at *
                  have HI : Hid (StO w u gr go en ⟨As, ms, cs5⟩ y sl0 (.slice At mt ct) l sy [] w6 ∧ DcA u b A9 m9 k9 gc 0 w6) := Lib.hid ⟨hS6, hD6⟩
                  clear hS6 hD6
                  go_wp2_with fail
                  go_loopw [32] (fun cn9 wr => ∃ (i : Nat) (r : Sl), i ≤ qn ∧ cn9 = .int .i64 (i : Int) ∧ StO w u gr go en ⟨As, ms, cs5⟩ y r (.slice At mt ct) l sy (relG b i) wr ∧ DcA u b A9 m9 k9 gc (12 * i) wr ∧ (relG b i).all (rlB sy.length) = true) (fun cn9 _ => (qn - (intOf cn9)).toNat)
                  case atStart => exact ⟨0, sl0, Nat.zero_le _, rfl, HI.out.1, HI.out.2, rfl⟩
                  case round => as_aux_lemma =>
                    obtain ⟨i, r, hi, rfl, hS0, hD0, hall⟩ := hrel
                    clear HI
                    by_cases hlt : i < qn
                    · have di : (i : Int) < (qn : Int) := by omega
                      have HS0 := Lib.hid hS0
                      have HEV := Lib.hid hall
                      obtain ⟨csc, hcc⟩ := hD0.curE
                      have k1 := hD0.num4
                      obtain ⟨x0, hx0⟩ : ∃ x, x = nm b 4 (12 * i) := ⟨_, rfl⟩
                      obtain ⟨x4, hx4⟩ : ∃ x, x = nm b 4 (12 * i + 4) := ⟨_, rfl⟩
                      obtain ⟨x8, hx8⟩ : ∃ x, x = nm b 4 (12 * i + 8) := ⟨_, rfl⟩
                      have l0 := nm4 b (12 * i)
                      have l4 := nm4 b (12 * i + 4)
                      have l8 := nm4 b (12 * i + 8)
                      rw [← hx0] at k1 l0
                      rw [← hx4] at l4
                      rw [← hx8] at l8
                      have HX : Hid (x0 = nm b 4 (12 * i) ∧ x4 = nm b 4 (12 * i + 4) ∧ x8 = nm b 4 (12 * i + 8)) := Lib.hid ⟨hx0, hx4, hx8⟩
                      clear hx0 hx4 hx8 hS0 hD0 hall
                      go_wp2_with fail
                      refine k1.mono ?_
                      rintro e w1' ⟨rfl, hD1, hg1⟩
                      have hS1 := HS0.out.far hcc (by decide) (by decide) (by decide) hg1 HGC.out.2 HGC.out.1
                      clear k1 hcc hg1
                      go_upto_region 43 with fail
                      have hX2 : Has (w1'.alloc (.cells #[.int .i64 (x0 : Int), .int .i64 0, .int .i64 0, .int .i64 0] 62)) w1'.heap.size 62 (tab 4 (rlR ⟨x0, 0, 0, 0⟩)) := by
                        rw [← rlR_lit]
                        exact Has.new _ _ _
                      have hba : Below w1'.heap.size w1' (w1'.alloc (.cells #[.int .i64 (x0 : Int), .int .i64 0, .int .i64 0, .int .i64 0] 62)) := (Below.refl _ _).alloc (Nat.le_refl _) _
                      have hS2 := hS1.after hba
                      have hD2 := hD1.after hba
                      have hgxB := hS1.rd.bel.size
                      have hgog := has_ne hS2.rd.out hX2 (by decide)
                      obtain ⟨cs2, hc2⟩ := hD2.curE
                      have hgcx := has_ne hc2 hX2 (by decide)
                      have hrne : ∀ l, r.v.ownBlock = some l → l ≠ w1'.heap.size := fun l e => by have := (own_blk hS1.rl e).2; omega
                      clear hS1 hD1 hba
                      generalize w1'.alloc (.cells #[.int .i64 (x0 : Int), .int .i64 0, .int .i64 0, .int .i64 0] 62) = w2' at *
                      generalize w1'.heap.size = gx at *
                      have HRN : Hid ((∀ l, r.v.ownBlock = some l → l ≠ gx) ∧ u.heap.size ≤ gx ∧ go ≠ gx ∧ gc ≠ gx) := Lib.hid ⟨hrne, hgxB, hgog, hgcx⟩
                      have HS2 := Lib.hid hS2
                      have HX2 := Lib.hid hX2
                      have k2 := hD2.num4
                      rw [← HX.out.2.1] at k2
                      clear hrne hgxB hgog hgcx hS2 hX2
                      go_wp2_with fail
                      refine k2.mono ?_
                      rintro e w3' ⟨rfl, hD3, hg3⟩
                      have hX3 := has_grown HX2.out hg3 (fun l e => by injection e with e; rw [← e]; exact Ne.symm HRN.out.2.2.2)
                      have HS3 := Lib.hid (HS2.out.far hc2 (by decide) (by decide) (by decide) hg3 HGC.out.2 HGC.out.1)
                      have HX3 := Lib.hid hX3
                      have HD3 := Lib.hid hD3
                      obtain ⟨t4, ht4⟩ : ∃ x, x = x4 % 256 := ⟨_, rfl⟩
                      obtain ⟨s4, hs4⟩ : ∃ x, x = x4 / 256 := ⟨_, rfl⟩
                      have e1 : (x4 : Int).tmod 256 = (t4 : Int) := by rw [Int.tmod_eq_emod_of_nonneg (by omega)]; omega
                      have e2 : (x4 : Int).tdiv 256 = (s4 : Int) := by rw [Int.tdiv_eq_ediv_of_nonneg (by omega)]; omega
                      have ls4 : s4 < 4294967296 := by omega
                      have HRA : Hid (rlA b (12 * i) = ⟨x0, t4, s4, x8⟩) := Lib.hid (by
                        unfold rlA
                        rw [ht4, hs4, HX.out.1, HX.out.2.1, HX.out.2.2])
                      have hc1 : w3'.cell? ⟨gx, 1, none⟩ = some (.int .i64 0) := hX3.cellTab 1 (by omega)
                      have hf1 := hX3.free 1
                      clear k2 hg3 hc2 hD2 HS2 HX2 ht4 hs4 hX3 hD3
                      go_upto_region 45 with fail
                      have hX4 := HX3.out.set 1 (.int .i64 (t4 : Int))
                      rw [rlR_s1] at hX4
                      have hg4 := only_setCell w3' gx 1 (.int .i64 (t4 : Int))
                      have HS4 := Lib.hid (HS3.out.far2 HX3.out (by decide) (by decide) HRN.out.1 hg4 HRN.out.2.1 HRN.out.2.2.1)
                      have HD4 := Lib.hid (HD3.out.grown hg4 HRN.out.2.1 HRN.out.2.2.2)
                      clear hg4 hc1 hf1 HX3 HS3 HD3
                      generalize w3'.setCell ⟨gx, 1, none⟩ (.int .i64 (t4 : Int)) = w4' at *
                      have HX4 := Lib.hid hX4
                      have hc2 : w4'.cell? ⟨gx, 2, none⟩ = some (.int .i64 0) := hX4.cellTab 2 (by omega)
                      have hf2 := hX4.free 2
                      clear hX4
                      go_upto_region 46 with fail
                      have hX5 := HX4.out.set 2 (.int .i64 (s4 : Int))
                      rw [rlR_s2] at hX5
                      have hg5 := only_setCell w4' gx 2 (.int .i64 (s4 : Int))
                      have HS5 := Lib.hid (HS4.out.far2 HX4.out (by decide) (by decide) HRN.out.1 hg5 HRN.out.2.1 HRN.out.2.2.1)
                      have hD5 := HD4.out.grown hg5 HRN.out.2.1 HRN.out.2.2.2
                      clear hg5 hc2 hf2 HX4 HS4 HD4
                      generalize w4'.setCell ⟨gx, 2, none⟩ (.int .i64 (s4 : Int)) = w5' at *
                      have HX5 := Lib.hid hX5
                      obtain ⟨cs5', hc5⟩ := hD5.curE
                      have k3 := hD5.num4
                      rw [← HX.out.2.2] at k3
                      clear hX5
                      go_wp2_with fail
                      refine k3.mono ?_
                      rintro e w6' ⟨rfl, hD6, hg6⟩
                      have hX6 := has_grown HX5.out hg6 (fun l e => by injection e with e; rw [← e]; exact Ne.symm HRN.out.2.2.2)
                      have HS6 := Lib.hid (HS5.out.far hc5 (by decide) (by decide) (by decide) hg6 HGC.out.2 HGC.out.1)
                      have HX6 := Lib.hid hX6
                      have HD6 := Lib.hid hD6
                      have hc3 : w6'.cell? ⟨gx, 3, none⟩ = some (.int .i64 0) := hX6.cellTab 3 (by omega)
                      have hf3 := hX6.free 3
                      clear k3 hg6 hc5 hD5 HS5 HX5 hX6 hD6
                      go_upto_region 47 with fail
                      have hX7 := HX6.out.set 3 (.int .i64 (x8 : Int))
                      rw [rlR_s3] at hX7
                      have hg7 := only_setCell w6' gx 3 (.int .i64 (x8 : Int))
                      have hS7 := HS6.out.far2 HX6.out (by decide) (by decide) HRN.out.1 hg7 HRN.out.2.1 HRN.out.2.2.1
                      have HD7 := Lib.hid (HD6.out.grown hg7 HRN.out.2.1 HRN.out.2.2.2)
                      clear hg7 hc3 hf3 HX6 HS6 HD6
                      generalize w6'.setCell ⟨gx, 3, none⟩ (.int .i64 (x8 : Int)) = w7' at *
                      have HX7 := Lib.hid hX7
                      obtain ⟨Ay, ny, cy, rfl⟩ := y.out
                      have hny := own_n hS7.sy
                      replace hny : ny = sy.length := hny
                      have hcs2 : w7'.cell? ⟨gx, 2, none⟩ = some (.int .i64 (s4 : Int)) := hX7.cellTab 2 (by omega)
                      have hcy : w7'.cell? ⟨go, 2, none⟩ = some (.slice Ay ny cy) := hS7.rd.out.cell 2
                      have HS7 := Lib.hid hS7
                      have HNY := Lib.hid hny
                      clear hX7 hS7 hny
                      by_cases hbadr : 0 < s4 ∧ ny ≤ s4
                      · obtain ⟨h1, h2⟩ := hbadr
                        have d1 : 0 < (s4 : Int) := by omega
                        have d2 : (ny : Int) ≤ (s4 : Int) := by omega
                        have HDN : Hid (readN bs = rdE 12) := Lib.hid (by
                          have hrb : rlB sy.length (rlA b (12 * i)) = false := by
                            rw [HRA.out, ← HNY.out]
                            exact decide_eq_false (by show ¬ (s4 = 0 ∨ s4 < ny); omega)
                          rw [HRD5.out]
                          exact readY_none2 HSYN.out (by rw [HRL.out, rel_bad hlt hrb]; rfl))
                        clear h1 h2
                        go_wp2_with (first
                          | (refine wp_store_cs rfl 58 _ _ rfl gr rfl (flC 0 sl0 sl0 sl0) (congrArg Value.agg flC_zero) _ (by rfl) (infoFL _ _ _ _) (flC_one _ _ _ _) HS7.out.rd.res ?_; intro wz hz' hgz)
                          | (refine wp_store_csK 58 _ _ rfl gr rfl (flC 0 sl0 sl0 sl0) (congrArg Value.agg flC_zero) _ (by rfl) (infoFL _ _ _ _) (flC_one _ _ _ _) HS7.out.rd.res ?_; intro wz hz' hgz))
                        exact bodyPost_ret (v := .tuple #[.agg (flC 0 sl0 sl0 sl0), .int .i64 12]) (results_cell_tmp rfl _ _ gr 58 _ _ _ rfl rfl hz' Try.underlying58 rfl (infoFL _ _ _ _)) rfl (rdR_bad (e := 12) HDN.out (HS7.out.rd.fin hgz))
                      have hgood : rlB sy.length (rlA b (12 * i)) = true := by
                        rw [HRA.out, ← HNY.out]
                        exact decide_eq_true (by show s4 = 0 ∨ s4 < ny; omega)
                      have HEV2 := Lib.hid (rel_more HEV.out hgood)
                      have hway : (s4 = 0) ∨ (0 < s4 ∧ s4 < ny) := by omega
                      clear hbadr hgood
                      go_cut [242] (fun t wx => w7' = wx ∧ t = .bool false)
                      case first =>
                        rcases hway with rfl | ⟨h1, h2⟩
                        · go_wp2_with fail
                          go_meet
                          exact ⟨by trivial, by trivial⟩
                        · have d1 : 0 < (s4 : Int) := by omega
                          have d2 : (s4 : Int) < (ny : Int) := by omega
                          have e2' : decide (ny ≤ s4) = false := decide_eq_false (by omega)
                          have HE2 := Lib.hid e2'
                          clear h1 h2 e2'
                          go_wp2_with fail
                          go_meet
                          exact ⟨by trivial, by first | rfl | exact congrArg Value.bool HE2.out⟩
                      case rest =>
                        obtain ⟨rfl, rfl⟩ := hcut
                        clear hway hcs2 hcy
                        obtain ⟨Ar, nr, cr, rfl⟩ := r.out
                        have hc3 : w7'.cell? ⟨go, 3, none⟩ = some (.slice Ar nr cr) := HS7.out.rd.out.cell 3
                        have hi64 : i < 64 := by omega
                        go_wp2_with (first
                          | (refine wpList_load_has 62 _ rfl _ rfl rfl 62 _ HX7.out _ Try.underlying62 rfl (by rw [tab_size]; exact infoRL4) ?_)
                          | (refine wp_build_el Try.underlying56 infoRL (by decide) (by decide) rfl _ rfl (⟨x0, t4, s4, x8⟩ : Rl) rfl ?_
                             intro w8' hw8
                             have hb8 : Below w7'.heap.size w7' w8' := by subst hw8; exact (Below.refl _ _).alloc (Nat.le_refl _) _
                             have hH8 : Has w8' w7'.heap.size 62 (tab 4 (rlR ⟨x0, t4, s4, x8⟩)) := by subst hw8; exact Has.new _ _ _
                             have HS8 := Lib.hid (HS7.out.after hb8)
                             have HD8 := Lib.hid (HD7.out.after hb8)
                             have hrl8 := HS8.out.rl
                             rw [relG_len] at hrl8
                             clear hw8)
                          | (refine wp_append_el Try.underlying56 infoRL rfl (by decide) (by decide) rlR_one rfl _ _ rfl u.heap.size _ i (relG b i) rfl hrl8 w7'.heap.size rfl (⟨x0, t4, s4, x8⟩ : Rl) hH8 (by omega) HS8.out.rd.bel.size ?_
                             intro v9' w9 hown9 hgr9
                             obtain ⟨Av, cv, hv9⟩ := own_form hown9
                             subst hv9
                             have hout9 := has_own HS8.out.rl HS8.out.rd.out (by decide) hgr9
                             have hc9 : w9.cell? ⟨go, 3, none⟩ = some (.slice Ar nr cr) := hout9.cell 3
                             have hf9 := hout9.free 3
                             have HO9 := Lib.hid hout9
                             clear hout9))
                        go_roundw
                        case rel =>
                          have hG9 := HO9.out.set 3 (.slice Av (i + 1) cv)
                          have hgs := only_setCell w9 go 3 (.slice Av (i + 1) cv)
                          have hS9 := HS8.out.rel (v := ⟨x0, t4, s4, x8⟩) (A := Av) (n := i + 1) (c := cv) _ (by rw [relG_len]; exact hown9) hgr9 hgs hG9
                          refine ⟨i + 1, ⟨Av, i + 1, cv⟩, hlt, by go_num, ?_, ?_, HEV2.out⟩
                          · rw [relG_succ, HRA.out]
                            exact hS9
                          · rw [show 12 * (i + 1) = 12 * i + 4 + 4 + 4 by omega]
                            exact (HD8.out.own hrl8 (Nat.le_refl _) (by decide) hgr9).grown hgs HS8.out.rd.goB (Ne.symm HGC.out.1)
                        case measure => simp [intOf] <;> omega
                    · obtain rfl : i = qn := by omega
                      have HS0 := Lib.hid hS0
                      have HDN : Hid (readN bs = ⟨en, ss, sy, relG b i, 0⟩) := Lib.hid (by rw [HRD5.out]; exact readY_some HSYN.out (by rw [HRL.out, if_pos hall]))
                      clear hS0 hD0 hall
                      go_wp2_with (first
                        | (refine wpList_load_has 58 _ rfl _ rfl rfl 58 _ HS0.out.rd.out _ Try.underlying58 rfl (infoFL _ _ _ _) ?_)
                        | (refine wp_store_cs rfl 58 _ _ rfl gr rfl (flC en ⟨As, ms, cs5⟩ y r) rfl _ (by rfl) (infoFL _ _ _ _) (flC_one _ _ _ _) HS0.out.rd.res ?_; intro wz hz' hgz)
                        | (refine wp_store_csK 58 _ _ rfl gr rfl (flC en ⟨As, ms, cs5⟩ y r) rfl _ (by rfl) (infoFL _ _ _ _) (flC_one _ _ _ _) HS0.out.rd.res ?_; intro wz hz' hgz))
                      exact bodyPost_ret (v := .tuple #[.agg (flC en ⟨As, ms, cs5⟩ y r), .int .i64 0]) (results_cell_tmp rfl _ _ gr 58 _ _ _ rfl rfl hz' Try.underlying58 rfl (infoFL _ _ _ _)) rfl (HS0.out.end HT.out (by have := HSY64.out; omega) (by rw [relG_len]; omega) hgz HDN.out)
        · have e3 : ((dd.f : Int) != (dd.m : Int)) = true := by simp; omega
          have HDN : Hid (readN bs = rdE 12) := Lib.hid (by rw [HRD3.out]; exact readG_ne hfm)
          clear hfm
          go_quiet (fail)
          have HO3 := Lib.hid (HO2.out.after (below_drewN (Below.refl _ _) nq))
          generalize wE.drewN nq = w2 at *
          clear HO2
          go_wp2_with (first
            | (refine wp_store_cs rfl 58 _ _ rfl gr rfl (flC 0 sl0 sl0 sl0) (congrArg Value.agg flC_zero) _ (by rfl) (infoFL _ _ _ _) (flC_one _ _ _ _) HO3.out.res ?_; intro wz hz' hgz)
            | (refine wp_store_csK 58 _ _ rfl gr rfl (flC 0 sl0 sl0 sl0) (congrArg Value.agg flC_zero) _ (by rfl) (infoFL _ _ _ _) (flC_one _ _ _ _) HO3.out.res ?_; intro wz hz' hgz))
          exact bodyPost_ret (v := .tuple #[.agg (flC 0 sl0 sl0 sl0), .int .i64 12]) (results_cell_tmp rfl _ _ gr 58 _ _ _ rfl rfl hz' Try.underlying58 rfl (infoFL _ _ _ _)) rfl (rdR_bad (e := 12) HDN.out (HO3.out.fin hgz))
  · have hz : ((er : Int) != 0) = true := by simp; omega
    have HDN : Hid (readN bs = rdE er) := Lib.hid (HRD.out.trans (if_neg her0))
    have HR := Lib.hid hR
    clear her0 hR HRD HDW
    go_wp2_with (first
      | (refine wp_store_cs rfl 58 _ _ rfl gr rfl (flC 0 sl0 sl0 sl0) (congrArg Value.agg flC_zero) _ (by rfl) (infoFL _ _ _ _) (flC_one _ _ _ _) HR.out ?_; intro wz hz' hgz)
      | (refine wp_store_csK 58 _ _ rfl gr rfl (flC 0 sl0 sl0 sl0) (congrArg Value.agg flC_zero) _ (by rfl) (infoFL _ _ _ _) (flC_one _ _ _ _) HR.out ?_; intro wz hz' hgz))
    exact bodyPost_ret (v := .tuple #[.agg (flC 0 sl0 sl0 sl0), .int .i64 (er : Int)]) (results_cell_tmp rfl _ _ gr 58 _ _ _ rfl rfl hz' Try.underlying58 rfl (infoFL _ _ _ _)) rfl (rdR_bad HDN.out (below_only hwu hgz hgrB hwu.size))
end Go.Proofs.Ytfdoloonllhodaa
