/-
Layer 8: what both answer is the same.
-/
import Derived.Test.YtoplknankmomcaaElG
import Derived.BigQuiet
namespace Go.Proofs.Ytoplknankmomcaa
open Go Go.RowKit

/-- a variable of a type of many cells -/
theorem wp_new_el {P : Program} {w : World} {ops : Array Oper} {rest : List Oper} {o1 : Oper} {a : Act} {Q : Exit → Act → World → Prop} (ty : TypeId) (n : Nat) (z : Nat → Value) (hz : ∀ w, (zeroValue ty).run P w = .ok (.agg (tab n z)) w) (hg1 : o1.guard = none) (h1 : o1.op = .alloc ty)
    (h : ∀ w', Has w' w.heap.size ty (tab n z) → Below w.heap.size w w' → w.heap.size < w'.heap.size → wpList P ops Q rest (a.put o1.dst (.pointer (some ⟨w.heap.size, 0, none⟩))) w') : wpList P ops Q (o1 :: rest) a w := by
  refine wpList_plain hg1 fun K hK => ?_
  unfold Oper.wp execOp
  simp only [h1, Instr.alloc, Sem.run_bind, hz, Result.andThen_ok]
  have hnv : (newVar ty (.agg (tab n z))).run P w = .ok ⟨w.heap.size, 0, none⟩ (w.alloc (.cells (tab n z) ty)) := by
    go_simp
  simp only [hnv, Result.andThen_ok, Sem.run_pure]
  exact hK _ _ (h _ (Has.new _ _ _) ((Below.refl _ _).alloc (Nat.le_refl _) _) (by simp))
theorem at_he' (b o n c j : Nat) (hj : (j : Int) < (n : Int)) (w : World) : (Instr.indexAt 30 (.slice (some ⟨b, o, none⟩) n c) (.int .i64 (j : Int))).run Try.prog w = .ok (.pointer (some ⟨b, o + j * 6, none⟩)) w := by
  have h2 := Addr.add_mid b o (j * 6)
  go_simp
theorem at_se' (b o n c j : Nat) (hj : (j : Int) < (n : Int)) (w : World) : (Instr.indexAt 29 (.slice (some ⟨b, o, none⟩) n c) (.int .i64 (j : Int))).run Try.prog w = .ok (.pointer (some ⟨b, o + j * 4, none⟩)) w := by
  have h2 := Addr.add_mid b o (j * 4)
  go_simp
def SgF (g : Sg) : Prop := g.d < 4294967296 ∧ g.z < 4294967296
theorem segGo_wf (bs : List UInt8) (en : Nat) : ∀ (hs : List Hd) (ss : List Sg) (ds : List Hd) (e : Nat) (a : Bool) (r : List Sg × List Hd × Bool), (∀ h ∈ hs, h.Wf) → (∀ g ∈ ss, SgF g) → segGo bs en hs ss ds e a = some r → (∀ g ∈ r.1, SgF g) ∧ r.1.length ≤ ss.length + hs.length ∧ r.2.1.length ≤ ds.length + hs.length
  | [], ss, ds, e, a, r, _, h2, h => by
    obtain rfl : (ss, ds, a) = r := by injection h
    exact ⟨h2, Nat.le_refl _, Nat.le_refl _⟩
  | hd :: hs, ss, ds, e, a, r, h1, h2, h => by
    by_cases hk : hd.k = 2
    · rw [segGo_dyn hk] at h
      have := segGo_wf bs en hs ss (ds ++ [hd]) e a r (fun x hx => h1 x (List.mem_cons_of_mem _ hx)) h2 h
      simp only [List.length_append, List.length_cons, List.length_nil] at this ⊢
      exact ⟨this.1, by omega, by omega⟩
    · cases hx : segX hd ss.length e with
      | true => rw [segGo_bad hk hx] at h; cases h
      | false =>
        rw [segGo_seg hk hx] at h
        have hw := h1 hd (List.mem_cons_self ..)
        have := segGo_wf bs en hs _ ds _ _ r (fun x hx => h1 x (List.mem_cons_of_mem _ hx)) (fun g hg => by
          rcases List.mem_append.1 hg with hg | hg
          · exact h2 g hg
          · rw [List.mem_singleton.1 hg]; exact ⟨hw.d, hw.m⟩) h
        simp only [List.length_append, List.length_cons, List.length_nil] at this ⊢
        exact ⟨this.1, by omega, by omega⟩
theorem segs_wf (bs : List UInt8) : (segsN bs).1 < 4294967296 ∧ (segsN bs).2.2.2 ≤ 9 ∧ (segsN bs).2.1.length ≤ 5 ∧ (segsN bs).2.2.1.length ≤ 5 ∧ ∀ g ∈ (segsN bs).2.1, SgF g := by
  have hl := heads_len bs
  unfold segsN
  by_cases h0 : (headsN bs).2.2 = 0
  · rw [if_pos h0]
    cases hg : segGo bs (headsN bs).1 (headsN bs).2.1 [] [] 0 false with
    | none => exact ⟨by show 0 < _; decide, Nat.le_refl _, by show 0 ≤ _; decide, by show 0 ≤ _; decide, fun g h => by cases h⟩
    | some r =>
      obtain ⟨ss, ds, a⟩ := r
      have h1 := segGo_wf bs _ _ _ _ _ _ _ (fun h hh => heads_wf hh) (fun g h => by cases h) hg
      show (if 1 < ds.length ∨ a = false then (0, [], [], 9) else ((headsN bs).1, ss, ds, 0) : Nat × List Sg × List Hd × Nat).1 < _ ∧ _
      unfold segEnd
      dsimp only
      split
      · exact ⟨by decide, Nat.le_refl _, by decide, by decide, fun g h => by cases h⟩
      · refine ⟨hl.2.1, Nat.zero_le _, ?_, ?_, h1.1⟩
        · have h2 : ss.length ≤ ([] : List Sg).length + (headsN bs).2.1.length := h1.2.1
          show ss.length ≤ 5
          simp only [List.length_nil] at h2
          omega
        · have h2 : ds.length ≤ ([] : List Hd).length + (headsN bs).2.1.length := h1.2.2
          show ds.length ≤ 5
          simp only [List.length_nil] at h2
          omega
  · rw [if_neg h0]
    exact ⟨by show 0 < 4294967296; decide, by show (headsN bs).2.2 ≤ 9; omega, Nat.zero_le _, Nat.zero_le _, fun g h => by cases h⟩
set_option maxRecDepth 100000 in
set_option maxHeartbeats 4000000 in
theorem same8_any (H : ElfOK) (bs : List UInt8) (A : Option Addr) (n c : Nat) (w : World) (hS : SlA w A n c bs) (hA : A = none → c = 0) (hc : c < 9223372036854775808) (hn : bs.length ≤ 100000) :
    Calls Try.prog 9 #[.slice A n c] w fun e w' => e = .returned (.bool true) ∧ Below w.heap.size w w' := by
  have k1 := H.heads_ok bs A n c w hS hA hc hn
  have hlen := heads_len bs
  have hwfH := fun h hh => heads_wf (bs := bs) (h := h) hh
  obtain ⟨en, hen⟩ : ∃ x, x = (headsN bs).1 := ⟨_, rfl⟩
  obtain ⟨hs, hhs⟩ : ∃ x, x = (headsN bs).2.1 := ⟨_, rfl⟩
  obtain ⟨er, her⟩ : ∃ x, x = (headsN bs).2.2 := ⟨_, rfl⟩
  rw [← hen, ← hhs, ← her] at k1 hlen
  rw [← hhs] at hwfH
  have HWF := Lib.hid hwfH
  have HE : Hid (en = (headsN bs).1 ∧ hs = (headsN bs).2.1 ∧ er = (headsN bs).2.2) := Lib.hid ⟨hen, hhs, her⟩
  obtain ⟨hm5, hen32, her8⟩ := hlen
  have HM5 := Lib.hid hm5
  have hew : IntKind.i64.wrap (en : Int) = (en : Int) := i64_in' _ (by omega)
  clear hen hhs her hwfH hm5
  go_enter Try.func9, Try.ntmps9
  go_wp2_with fail
  refine k1.mono ?_
  rintro e u1 ⟨⟨s1, rfl, hH1⟩, hb1⟩
  replace hS := hS.below hb1
  obtain ⟨A1, m, c1, rfl⟩ := s1.out
  have hml : hs.length = m := hH1.1
  clear k1
  have k2 := rheads_any bs A n c u1 hS hA hc
  rw [← HE.out.1, ← HE.out.2.1, ← HE.out.2.2] at k2
  rw [show Sl.v ⟨A1, m, c1⟩ = .slice A1 m c1 from rfl]
  go_wp2_with fail
  refine k2.mono ?_
  rintro e u2 ⟨⟨s2, rfl, hJ2⟩, hb2⟩
  replace hS := hS.below hb2
  replace hH1 := hH1.below hb2
  replace hb2 := below_trans hb1 hb2
  clear hb1 k2
  obtain ⟨A2, m2, c2, rfl⟩ := s2.out
  obtain rfl : m2 = m := by have h1 : hs.length = m2 := hJ2.1; omega
  rw [show Sl.v ⟨A2, m2, c2⟩ = .slice A2 m2 c2 from rfl]
  have HH1 := Lib.hid hH1
  have HJ2 := Lib.hid hJ2
  have HML := Lib.hid hml
  have HS := Lib.hid hS
  have HB2 := Lib.hid hb2
  have hm5 : m2 ≤ 5 := by have := HM5.out; omega
  clear hH1 hJ2 hml hS hb2
  go_wp2_with fail
  go_loopw [51] (fun ct wr => ∃ i : Nat, i ≤ m2 ∧ ct = .int .i64 (i : Int) ∧ Below u2.heap.size u2 wr) (fun ct _ => (m2 - (intOf ct)).toNat)
  case atStart => exact ⟨0, Nat.zero_le _, rfl, Below.refl _ _⟩
  case round =>
    obtain ⟨i, hi, rfl, hb⟩ := hrel
    by_cases hlt : i < m2
    · have di : (i : Int) < (m2 : Int) := by omega
      obtain ⟨b1, o1, hA1, hbl1, _⟩ := HH1.out.2.2 (by show 0 < m2; omega)
      replace hA1 : A1 = some ⟨b1, o1, none⟩ := hA1
      subst hA1
      obtain ⟨b2, o2, hA2, hbl2, hcl2⟩ := HJ2.out.2.2 (by show 0 < m2; omega)
      replace hA2 : A2 = some ⟨b2, o2, none⟩ := hA2
      subst hA2
      have hr := (HH1.out.below hb).2.range rfl (j := i) hlt
      have ha1 := fun w => at_he' b1 o1 m2 c1 i di w
      have ha2 := fun w => at_hr' b2 o2 m2 c2 i di w
      have hmem : hs.getD i hd0 ∈ hs := by rw [List.getD_eq_getElem?_getD, List.getElem?_eq_getElem (by rw [HML.out]; exact hlt)]; exact List.getElem_mem _
      have hwf := HWF.out _ hmem
      have d0 : wr.cell? ⟨b2, o2 + i * 6, none⟩ = some (hdR (hs.getD i hd0) 0) := (hb.cell (p := ⟨b2, o2 + i * 6, none⟩) hbl2).trans (hcl2 i 0 hlt (by decide))
      have d1 : wr.cell? ⟨b2, o2 + i * 6 + 1, none⟩ = some (hdR (hs.getD i hd0) 1) := (hb.cell (p := ⟨b2, o2 + i * 6 + 1, none⟩) hbl2).trans (hcl2 i 1 hlt (by decide))
      have d2 : wr.cell? ⟨b2, o2 + i * 6 + 2, none⟩ = some (hdR (hs.getD i hd0) 2) := (hb.cell (p := ⟨b2, o2 + i * 6 + 2, none⟩) hbl2).trans (hcl2 i 2 hlt (by decide))
      have d3 : wr.cell? ⟨b2, o2 + i * 6 + 3, none⟩ = some (hdR (hs.getD i hd0) 3) := (hb.cell (p := ⟨b2, o2 + i * 6 + 3, none⟩) hbl2).trans (hcl2 i 3 hlt (by decide))
      have d4 : wr.cell? ⟨b2, o2 + i * 6 + 4, none⟩ = some (hdR (hs.getD i hd0) 4) := (hb.cell (p := ⟨b2, o2 + i * 6 + 4, none⟩) hbl2).trans (hcl2 i 4 hlt (by decide))
      have d5 : wr.cell? ⟨b2, o2 + i * 6 + 5, none⟩ = some (hdR (hs.getD i hd0) 5) := (hb.cell (p := ⟨b2, o2 + i * 6 + 5, none⟩) hbl2).trans (hcl2 i 5 hlt (by decide))
      change wr.rangeAt b1 (o1 + i * 6) ((List.range 6).map (hdE (hs.getD i hd0))) at hr
      generalize hs.getD i hd0 = hd at *
      replace d0 : wr.cell? ⟨b2, o2 + i * 6, none⟩ = some (.int .i64 (hd.k : Int)) := d0
      replace d1 : wr.cell? ⟨b2, o2 + i * 6 + 1, none⟩ = some (.int .i64 (hd.a : Int)) := d1
      replace d2 : wr.cell? ⟨b2, o2 + i * 6 + 2, none⟩ = some (.int .i64 (hd.d : Int)) := d2
      replace d3 : wr.cell? ⟨b2, o2 + i * 6 + 3, none⟩ = some (.int .i64 (hd.f : Int)) := d3
      replace d4 : wr.cell? ⟨b2, o2 + i * 6 + 4, none⟩ = some (.int .i64 (hd.m : Int)) := d4
      replace d5 : wr.cell? ⟨b2, o2 + i * 6 + 5, none⟩ = some (.int .i64 (hd.r : Int)) := d5
      have hl2 : b2 < wr.heap.size := Nat.lt_of_lt_of_le hbl2 hb.size
      have w1' : IntKind.i64.wrap (hd.a : Int) = (hd.a : Int) := i64_in' _ (by have := hwf.a; omega)
      have w2' : IntKind.i64.wrap (hd.d : Int) = (hd.d : Int) := i64_in' _ (by have := hwf.d; omega)
      have w3' : IntKind.i64.wrap (hd.f : Int) = (hd.f : Int) := i64_in' _ (by have := hwf.f; omega)
      have w4' : IntKind.i64.wrap (hd.m : Int) = (hd.m : Int) := i64_in' _ (by have := hwf.m; omega)
      clear hcl2 hmem hwf hbl1
      go_wp2_with (first
        | (refine wp_load_he rfl _ rfl b1 (o1 + i * 6) rfl _ hr ?_)
        | (refine wp_new_el 51 6 _ zeroHE rfl rfl ?_
           intro w1 hG0 hbw1 hzw1)
        | (refine wp_store_tab rfl 51 _ _ rfl _ 0 rfl 6 (hdE hd) rfl 6 _ 51 hG0 infoHE6 (by omega) (hdE_one _) ?_
           intro w2 hG1 hg1))
      have hb12 := below_only hbw1 hg1 (Nat.le_refl _) hbw1.size
      have c0 : w2.cell? ⟨wr.heap.size, 0, none⟩ = some (.int .i64 (hd.k : Int)) := hG1.cellTab 0 (by omega)
      have c1' : w2.cell? ⟨wr.heap.size, 1, none⟩ = some (.int .u32 (hd.a : Int)) := hG1.cellTab 1 (by omega)
      have c2' : w2.cell? ⟨wr.heap.size, 2, none⟩ = some (.int .u32 (hd.d : Int)) := hG1.cellTab 2 (by omega)
      have c3 : w2.cell? ⟨wr.heap.size, 3, none⟩ = some (.int .u32 (hd.f : Int)) := hG1.cellTab 3 (by omega)
      have c4 : w2.cell? ⟨wr.heap.size, 4, none⟩ = some (.int .u32 (hd.m : Int)) := hG1.cellTab 4 (by omega)
      have c5 : w2.cell? ⟨wr.heap.size, 5, none⟩ = some (.int .i64 (hd.r : Int)) := hG1.cellTab 5 (by omega)
      replace d0 := (hb12.cell (p := ⟨b2, o2 + i * 6, none⟩) hl2).trans d0
      replace d1 := (hb12.cell (p := ⟨b2, o2 + i * 6 + 1, none⟩) hl2).trans d1
      replace d2 := (hb12.cell (p := ⟨b2, o2 + i * 6 + 2, none⟩) hl2).trans d2
      replace d3 := (hb12.cell (p := ⟨b2, o2 + i * 6 + 3, none⟩) hl2).trans d3
      replace d4 := (hb12.cell (p := ⟨b2, o2 + i * 6 + 4, none⟩) hl2).trans d4
      replace d5 := (hb12.cell (p := ⟨b2, o2 + i * 6 + 5, none⟩) hl2).trans d5
      have HB12 := Lib.hid (below_trans hb hb12)
      clear hbw1 hzw1 hG0 hG1 hg1 hb12 hb hr ha1 hl2 hbl2
      generalize wr.heap.size = gg at *
      go_quiet (fail)
      go_wp2_with fail
      go_roundw
      case rel => exact ⟨i + 1, hlt, by go_num, below_drewN HB12.out _⟩
      case measure => simp [intOf] <;> omega
    · obtain rfl : i = m2 := by omega
      have hS2 := HS.out.below hb
      have hbw := below_trans HB2.out hb
      clear hb HB2 HS HH1 HJ2 HML HWF HM5 HE
      have hsf := segs_wf bs
      have k3 := H.segs_ok bs A n c wr hS2 hA hc hn
      have k4 := fun u hu => rsegs_any bs A n c u hu hA hc
      obtain ⟨en2, hen2⟩ : ∃ x, x = (segsN bs).1 := ⟨_, rfl⟩
      obtain ⟨ss, hss⟩ : ∃ x, x = (segsN bs).2.1 := ⟨_, rfl⟩
      obtain ⟨ds, hds⟩ : ∃ x, x = (segsN bs).2.2.1 := ⟨_, rfl⟩
      obtain ⟨er2, her2⟩ : ∃ x, x = (segsN bs).2.2.2 := ⟨_, rfl⟩
      rw [← hen2, ← hss, ← hds, ← her2] at k3 hsf
      simp only [← hen2, ← hss, ← hds, ← her2] at k4
      obtain ⟨hs1, hs2, hs3, hs4, hs5⟩ := hsf
      have HS5 := Lib.hid hs5
      have HS3 := Lib.hid hs3
      have HS4 := Lib.hid hs4
      have hew2 : IntKind.i64.wrap (en2 : Int) = (en2 : Int) := i64_in' _ (by omega)
      clear hen2 hss hds her2 hs5 hs3 hs4
      go_wp2_with fail
      refine k3.mono ?_
      rintro e u3 ⟨⟨s3, t3, rfl, hS3, hH3⟩, hb3⟩
      have k5 := k4 u3 (hS2.below hb3)
      replace hbw := below_trans hbw hb3
      clear k3 k4 hb3 hS2
      obtain ⟨A3, ms, c3, rfl⟩ := s3.out
      obtain ⟨A4, md, c4, rfl⟩ := t3.out
      rw [show Sl.v ⟨A3, ms, c3⟩ = .slice A3 ms c3 from rfl, show Sl.v ⟨A4, md, c4⟩ = .slice A4 md c4 from rfl]
      go_wp2_with fail
      refine k5.mono ?_
      rintro e u4 ⟨⟨s5, t5, rfl, hT5, hJ5⟩, hb4⟩
      replace hS3 := hS3.below hb4
      replace hbw := below_trans hbw hb4
      obtain ⟨A5, ms5, c5, rfl⟩ := s5.out
      obtain ⟨A6, md6, c6, rfl⟩ := t5.out
      have hmsl : ss.length = ms := hS3.1
      have hmdl : ds.length = md := hH3.1
      obtain rfl : ms5 = ms := by have h1 : ss.length = ms5 := hT5.1; omega
      obtain rfl : md6 = md := by have h1 : ds.length = md6 := hJ5.1; omega
      rw [show Sl.v ⟨A5, ms5, c5⟩ = .slice A5 ms5 c5 from rfl, show Sl.v ⟨A6, md6, c6⟩ = .slice A6 md6 c6 from rfl]
      have HS3' := Lib.hid hS3
      have HT5 := Lib.hid hT5
      have HMSL := Lib.hid hmsl
      have HBW := Lib.hid hbw
      have hms5 : ms5 ≤ 5 := by have := HS3.out; omega
      clear k5 hb4 hS3 hH3 hT5 hJ5 hmsl hmdl hbw
      go_wp2_with fail
      go_loopw [158] (fun ct wr => ∃ i : Nat, i ≤ ms5 ∧ ct = .int .i64 (i : Int) ∧ Below u4.heap.size u4 wr) (fun ct _ => (ms5 - (intOf ct)).toNat)
      case atStart => exact ⟨0, Nat.zero_le _, rfl, Below.refl _ _⟩
      case round =>
        obtain ⟨j, hj, rfl, hb⟩ := hrel
        by_cases hlj : j < ms5
        · have dj : (j : Int) < (ms5 : Int) := by omega
          obtain ⟨hl1, T, hC1, hY1⟩ := HS3'.out.below hb
          obtain ⟨hl2, T2, hC2, hY2⟩ := HT5.out.below hb
          obtain ⟨b1, o1, hA1, _, _⟩ := hC1.2 (by show 0 < ms5; omega)
          replace hA1 : A3 = some ⟨b1, o1, none⟩ := hA1
          subst hA1
          obtain ⟨b2, o2, hA2, hbl2, hcl2⟩ := hC2.2 (by show 0 < ms5; omega)
          replace hA2 : A5 = some ⟨b2, o2, none⟩ := hA2
          subst hA2
          have hr := hC1.range rfl (j := j) hlj
          have ha1 := fun w => at_se' b1 o1 ms5 c3 j dj w
          have ha2 := fun w => at_sr' b2 o2 ms5 c5 j dj w
          have hmem : ss.getD j sg0 ∈ ss := by rw [List.getD_eq_getElem?_getD, List.getElem?_eq_getElem (by rw [HMSL.out]; exact hlj)]; exact List.getElem_mem _
          have hwf := HS5.out _ hmem
          have d0 : wr.cell? ⟨b2, o2 + j * 4, none⟩ = some (sgR (ss.getD j sg0) (T2 j) 0) := hcl2 j 0 hlj (by decide)
          have d1 : wr.cell? ⟨b2, o2 + j * 4 + 1, none⟩ = some (sgR (ss.getD j sg0) (T2 j) 1) := hcl2 j 1 hlj (by decide)
          have d2 : wr.cell? ⟨b2, o2 + j * 4 + 2, none⟩ = some (sgR (ss.getD j sg0) (T2 j) 2) := hcl2 j 2 hlj (by decide)
          have d3 : wr.cell? ⟨b2, o2 + j * 4 + 3, none⟩ = some (sgR (ss.getD j sg0) (T2 j) 3) := hcl2 j 3 hlj (by decide)
          have y1 := hY1 j hlj
          have y2 := hY2 j hlj
          change wr.rangeAt b1 (o1 + j * 4) ((List.range 4).map (sgE (ss.getD j sg0) (T j))) at hr
          generalize ss.getD j sg0 = sg at *
          obtain ⟨Ab, nb, cb, hT⟩ := (T j).out
          obtain ⟨Ac, nc, cc, hT2⟩ := (T2 j).out
          rw [hT] at hr y1
          rw [hT2] at d0 d1 d2 d3 y2
          replace d0 : wr.cell? ⟨b2, o2 + j * 4, none⟩ = some (.int .i64 (sg.d : Int)) := d0
          replace d1 : wr.cell? ⟨b2, o2 + j * 4 + 1, none⟩ = some (.int .i64 (sg.z : Int)) := d1
          replace d2 : wr.cell? ⟨b2, o2 + j * 4 + 2, none⟩ = some (.int .i64 (sg.r : Int)) := d2
          replace d3 : wr.cell? ⟨b2, o2 + j * 4 + 3, none⟩ = some (.slice Ac nc cc) := d3
          have w1' : IntKind.i64.wrap (sg.d : Int) = (sg.d : Int) := i64_in' _ (by have := hwf.1; omega)
          have w2' : IntKind.i64.wrap (sg.z : Int) = (sg.z : Int) := i64_in' _ (by have := hwf.2; omega)
          have Y1 := Lib.hid y1
          have Y2 := Lib.hid y2
          clear hC1 hC2 hY1 hY2 hcl2 hl1 hl2 hmem hwf hT hT2 y1 y2
          go_wp2_with (first
            | (refine wp_load_se rfl _ rfl b1 (o1 + j * 4) rfl _ hr ?_)
            | (refine wp_new_el 36 4 _ zeroSE rfl rfl ?_
               intro w1 hG0 hbw1 hzw1)
            | (refine wp_store_tab rfl 36 _ _ rfl _ 0 rfl 4 (sgE sg ⟨Ab, nb, cb⟩) rfl 4 _ 36 hG0 infoSE4 (by omega) (sgE_one _ _) ?_
               intro w2 hG1 hg1))
          have hb12 := below_only hbw1 hg1 (Nat.le_refl _) hbw1.size
          have c0 : w2.cell? ⟨wr.heap.size, 0, none⟩ = some (.int .u32 (sg.d : Int)) := hG1.cellTab 0 (by omega)
          have c1' : w2.cell? ⟨wr.heap.size, 1, none⟩ = some (.slice Ab nb cb) := hG1.cellTab 1 (by omega)
          have c2' : w2.cell? ⟨wr.heap.size, 2, none⟩ = some (.int .u32 (sg.z : Int)) := hG1.cellTab 2 (by omega)
          have c3' : w2.cell? ⟨wr.heap.size, 3, none⟩ = some (.int .i64 (sg.r : Int)) := hG1.cellTab 3 (by omega)
          replace d0 := (hb12.cell (p := ⟨b2, o2 + j * 4, none⟩) hbl2).trans d0
          replace d1 := (hb12.cell (p := ⟨b2, o2 + j * 4 + 1, none⟩) hbl2).trans d1
          replace d2 := (hb12.cell (p := ⟨b2, o2 + j * 4 + 2, none⟩) hbl2).trans d2
          replace d3 := (hb12.cell (p := ⟨b2, o2 + j * 4 + 3, none⟩) hbl2).trans d3
          have hcv1 := fun k => str_conv (SlA.below (SlA.below Y1.out hb12) (below_drewN (Below.refl _ _) k))
          have hcv2 := fun k => str_conv (SlA.below (SlA.below Y2.out hb12) (below_drewN (Below.refl _ _) k))
          dsimp only at hcv1 hcv2
          generalize strB sg.b = sb at *
          have HB12 := Lib.hid (below_trans hb hb12)
          clear hbw1 hzw1 hG0 hG1 hg1 hb12 hb hr ha1 hbl2
          generalize wr.heap.size = gg at *
          go_quiet (fail)
          go_wp2_with fail
          go_roundw
          case rel => exact ⟨j + 1, hlj, by go_num, below_drewN HB12.out _⟩
          case measure => simp [intOf] <;> omega
        · obtain rfl : j = ms5 := by omega
          have hbw := below_trans HBW.out hb
          go_wp2_with fail
          go_ret
          exact ⟨rfl, hbw⟩
end Go.Proofs.Ytoplknankmomcaa
