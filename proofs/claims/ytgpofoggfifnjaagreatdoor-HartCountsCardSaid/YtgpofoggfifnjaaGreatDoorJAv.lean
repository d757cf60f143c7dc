/-
Layer 15: the reference's Protect.
Layer 15: reading a register and the timer's due as plain data; what package csr's calls answer; the example.
Layer 15: the law's calls as plain data, in memory; light.
-/
import Derived.Test.YtgpofoggfifnjaaGreatDoorJAu
import Derived.Test.YtgpofoggfifnjaaGreatDoorJAp
import Derived.Test.YtgpofoggfifnjaaGreatDoorJAb
import Derived.Test.YtgpofoggfifnjaaGreatDoorJAe
namespace Go.Proofs.YtgpofoggfifnjaaGreatDoor.Cs
open Go Go.RowKit
open Go.Proofs.YtgpofoggfifnjaaGreatDoor.Pm (En Sl SlC SlE enV en0 at_entry infoE)

theorem new_stepS {P : Program} {o : Oper} {A : Act} {w' w'' : World} {K : Act → World → Prop} {Q : Exit → Act → World → Prop} (h : ∀ ρ : Operand → Value, ρ = A.eval → (execOp ρ o).run P w' = .ok .skip w'') (hK : K (A.put o.dst undef) w'') : o.wp P A w' K Q := by
  unfold Oper.wp
  rw [h A.eval rfl]
  exact hK
theorem cell_heap {w w' : World} (h : w'.heap = w.heap) (a : Addr) : w'.cell? a = w.cell? a := by unfold World.cell?; rw [h]
theorem cell_far {w : World} {a b : Addr} (v : Value) (h : a.block ≠ b.block) : (w.setCell b v).cell? a = w.cell? a := by
  unfold World.cell?
  rw [Below.heap_setCell w b v a.block h]
/-- an entry's byte -/
def byE (e : En) : Nat := (e.r % 8).toNat + (e.w % 4).toNat * 8
theorem byE_lt (e : En) : byE e < 32 := by unfold byE; omega
/-- the first i entries are written -/
def prG (l : List En) (c : Nat → Nat) (i k : Nat) : Nat := if k < i then (if k < l.length then byE (l.getD k en0) else 0) else c k
def prR (l : List En) (r : Nat → Nat) (i x : Nat) : Nat := if 944 ≤ x ∧ x < 944 + i then (if x - 944 < l.length then (l.getD (x - 944) en0).a else 0) else r x
def protC (s : St) (l : List En) : St := { s with cfg := prG l s.cfg 16, r := prR l s.r 16 }
theorem prG_0 (l : List En) (c : Nat → Nat) : prG l c 0 = c := by funext k; unfold prG; rw [if_neg (by omega)]
theorem prR_0 (l : List En) (r : Nat → Nat) : prR l r 0 = r := by funext k; unfold prR; rw [if_neg (by omega)]
theorem prG_up (l : List En) (c : Nat → Nat) (i : Nat) : prG l c (i + 1) = upd (prG l c i) i (if i < l.length then byE (l.getD i en0) else 0) := by
  funext k
  by_cases e : k = i
  · subst e; rw [upd_same]; unfold prG; rw [if_pos (by omega)]
  · rw [upd_other _ _ e]
    unfold prG
    by_cases h : k < i
    · rw [if_pos (by omega), if_pos h]
    · rw [if_neg (by omega), if_neg h]
theorem prR_up (l : List En) (r : Nat → Nat) (i : Nat) : prR l r (i + 1) = upd (prR l r i) (944 + i) (if i < l.length then (l.getD i en0).a else 0) := by
  funext x
  by_cases e : x = 944 + i
  · subst e; rw [upd_same]; unfold prR; rw [if_pos (by omega), show 944 + i - 944 = i by omega]
  · rw [upd_other _ _ e]
    unfold prR
    by_cases h : 944 ≤ x ∧ x < 944 + i
    · rw [if_pos (by omega), if_pos h]
    · rw [if_neg (by omega), if_neg h]
theorem protC_ok (s : St) (h : s.Ok) (l : List En) (hl : ∀ e ∈ l, e.Wf) : (protC s l).Ok := by
  have hb : ∀ k, prG l s.cfg 16 k < 256 ∧ prG l s.cfg 16 k / 32 % 4 = 0 := fun k => by
    unfold prG
    split
    · split
      · have := byE_lt (l.getD k en0); omega
      · exact ⟨by decide, by decide⟩
    · exact ⟨h.cfg k, h.bits k⟩
  have e768 : prR l s.r 16 768 = s.r 768 := by unfold prR; rw [if_neg (by omega)]
  refine ⟨h.mode, fun x => ?_, fun k => (hb k).1, h.cyc, h.ret, by show prR l s.r 16 768 < _; rw [e768]; exact h.st, by show prR l s.r 16 768 / 2048 % 4 = 0 ∨ prR l s.r 16 768 / 2048 % 4 = 3; rw [e768]; exact h.mpp, fun k => (hb k).2⟩
  show prR l s.r 16 x < _
  unfold prR
  split
  · split
    · rename_i hx
      rw [List.getD_eq_getElem?_getD, List.getElem?_eq_getElem hx]
      exact (hl _ (List.getElem_mem _)).a
    · decide
  · exact h.r x
theorem isK_a (i : Nat) (h : i < 16) : isK (944 + i) = true := by
  unfold isK
  simp only [Bool.or_eq_true, beq_iff_eq, Bool.and_eq_true, decide_eq_true_eq]
  omega
set_option maxRecDepth 100000 in
set_option maxHeartbeats 4000000 in
theorem rprot_any (s : St) (l : List En) (q : Sl) (h mb : Nat) (w : World) (H : Ref w h mb s) (hS : SlE w q l) (hn16 : q.n ≤ 16) (hne : ∀ b o, q.A = some ⟨b, o, none⟩ → 0 < q.n → b ≠ h ∧ b ≠ mb) :
    Calls Tryz.prog 25 #[hP h, q.v] w fun e w' => e = .returned (.tuple #[]) ∧ Ref w' h mb (protC s l) ∧ Only (SR h mb) w w' := by
  have hlen := hS.1
  obtain ⟨A, n, c⟩ := q
  dsimp only at hlen hn16 hne
  have HS := Lib.hid hS
  have HNE := Lib.hid hne
  have HL := Lib.hid hlen
  clear hS hne hlen
  unfold Sl.v
  dsimp only
  go_enter Tryz.func25, Tryz.ntmps25
  go_wp2_with fail
  go_loopw [4] (fun ct wr => ∃ i : Nat, i ≤ 16 ∧ ct = .int .i64 (i : Int) ∧ Ref wr h mb { s with cfg := prG l s.cfg i, r := prR l s.r i } ∧ Only (SR h mb) w wr) (fun ct _ => (16 - (intOf ct)).toNat)
  case atStart => exact ⟨0, Nat.zero_le _, rfl, by rw [prG_0, prR_0]; exact H, Only.refl _ _⟩
  case round =>
    obtain ⟨i, hi, rfl, hR, hO⟩ := hrel
    by_cases hlt : i < 16
    · have di : (i : Int) < 16 := by omega
      have hK := isK_a i hlt
      obtain ⟨x, hx⟩ : ∃ x, x = 944 + i := ⟨_, rfl⟩
      have e1 : (944 : Int) + (i : Int) = (x : Int) := by omega
      have hxl : x < 4294967296 := by omega
      rw [← hx] at hK
      have hc1 : wr.cell? ⟨h, 1, none⟩ = some (.map (some mb)) := hR.blk.cellTab 1 (by decide)
      have hci : wr.cell? ⟨h, 2 + i, none⟩ = some (.int .i64 (prG l s.cfg i i : Int)) := by
        have h1 := hR.blk.cellTab (2 + i) (by omega)
        rw [rV_c _ _ i (by omega)] at h1
        exact h1
      have hfi : wr.frozen? ⟨h, 2 + i, none⟩ = false := hR.blk.free (2 + i)
      have hat := fun W => at_c h i di W
      have H1 : Ref (wr.setCell ⟨h, 2 + i, none⟩ (.int .i64 0)) h mb _ := hR.cfg i 0 hlt (by decide) (by decide)
      have hc2 : (wr.setCell ⟨h, 2 + i, none⟩ (.int .i64 0)).cell? ⟨h, 1, none⟩ = some (.map (some mb)) := H1.blk.cellTab 1 (by decide)
      have HM1 := H1.map
      have hiss : (if (rM ({ s with cfg := upd (prG l s.cfg i) i 0, r := prR l s.r i } : St) x).isSome = true then 0 else 1) = 0 := some_in _ x hK
      have HI := Lib.hid hiss
      have H1H := Lib.hid H1
      have HO := Lib.hid hO
      have HRH := Lib.hid hR
      have HX := Lib.hid hx
      have HK := Lib.hid hK
      have HGU := Lib.hid (prG_up l s.cfg i)
      have HRU := Lib.hid (prR_up l s.r i)
      clear hiss H1 hO hR hK hx
      go_upto_region 5 with (
        refine wp_mapput rfl _ _ _ rfl rfl HM1 x 0 rfl rfl hxl (by decide) (by decide) 24 (by rw [HI.out]; exact Nat.le_refl _) ?_
        intro w1 hM2 hg2
        go_frame)
      have H2 := H1H.out.reg x 0 HK.out hM2 hg2 (reg_ok _ H1H.out.ok x 0 (by have := HX.out; omega) (by decide))
      have hO2 : Only (SR h mb) w w1 := (HO.out.trans (Only.setCell _ (Or.inl rfl) _)).trans (OG hg2)
      have H2H := Lib.hid H2
      have HO2 := Lib.hid hO2
      clear hM2 hg2 hO2
      by_cases hil : i < n
      · have hlI : (i : Int) < (n : Int) := by omega
        have hin : (n : Int) ≤ 16 := by omega
        obtain ⟨hb1, hb2⟩ := HS.out.2.1.2 (by show 0 < n; omega)
        obtain ⟨o, hA, hblt, hcs⟩ := hb2
        dsimp only at hA
        subst hA
        have hbn := HNE.out hb1 o rfl (by omega)
        have hwf := HS.out.wf (j := i) hil
        generalize hE : l.getD i en0 = E at *
        have hcell : ∀ k, k < 3 → w1.cell? ⟨hb1, o + i * 3 + k, none⟩ = some (enV E k) := fun k hk => by
          have h0 := hcs i k hil hk
          dsimp only at h0
          rw [hE] at h0
          have hb := HO2.out.block hb1 hblt (by rintro (e | e); exact hbn.1 e; exact hbn.2 e)
          unfold World.cell? at h0 ⊢
          dsimp only at h0 ⊢
          rw [hb]
          exact h0
        have hcw := hcell 0 (by decide)
        have hcr := hcell 1 (by decide)
        have hca := hcell 2 (by decide)
        simp only [enV, Nat.add_zero] at hcw hcr hca
        have ha_lt := hwf.a
        have hmr : bits .and .i64 E.r 7 = (((E.r % 8).toNat : Nat) : Int) := by
          rw [show (7 : Int) = ((2 ^ 3 - 1 : Nat) : Int) by decide, i64_and_mask E.r 3 (by omega)]
          show E.r % 8 = _
          omega
        have hmw : bits .and .i64 E.w 3 = (((E.w % 4).toNat : Nat) : Int) := by rw [i64_and3]; omega
        have hby : byE E = (E.r % 8).toNat + (E.w % 4).toNat * 8 := rfl
        have hr8 : (E.r % 8).toNat < 8 := by omega
        have hw4 : (E.w % 4).toNat < 4 := by omega
        have hbl := byE_lt E
        generalize hy : byE E = y at *
        generalize hra : (E.r % 8).toNat = ra at *
        generalize hwa : (E.w % 4).toNat = wa at *
        obtain ⟨wa8, hw8⟩ : ∃ v, v = wa * 8 := ⟨_, rfl⟩
        have e2 : (wa : Int) * 8 = (wa8 : Int) := by omega
        have e3 : (ra : Int) + (wa8 : Int) = (y : Int) := by omega
        have b1 : (wa : Int) < 4 := by omega
        have b2 : (wa8 : Int) < 32 := by omega
        have b3 : (ra : Int) < 8 := by omega
        have b4 : (y : Int) < 32 := by omega
        have u1 := IntWalk.i64_in (wa : Int) (by omega)
        have u2 := IntWalk.i64_in (wa8 : Int) (by omega)
        have u3 := IntWalk.i64_in (ra : Int) (by omega)
        have u4 := IntWalk.i64_in (y : Int) (by omega)
        have u5 := IntWalk.i64_in (x : Int) (by omega)
        have u6 := IntWalk.i64_in (E.a : Int) (by omega)
        have aI : (E.a : Int) < 4294967296 := by omega
        have hata := fun W => at_entry hb1 o n c i hlI W
        have hcg : w1.cell? ⟨h, 2 + i, none⟩ = some (.int .i64 0) := by
          have h1 := H2.blk.cellTab (2 + i) (by omega)
          rw [rV_c _ _ i (by omega)] at h1
          dsimp only at h1
          rw [upd_same] at h1
          exact h1
        have hfg : w1.frozen? ⟨h, 2 + i, none⟩ = false := H2.blk.free (2 + i)
        have HZ := Lib.hid (And.intro hby (And.intro hw8 (And.intro hy hE)))
        have HH := Lib.hid hbn
        generalize hEa : E.a = ea at *
        generalize hEr : E.r = er at *
        generalize hEw : E.w = ew at *
        have HZ2 := Lib.hid (And.intro hEa (And.intro hEr hEw))
        clear hby hw8 hy hra hwa hwf hcell hcs hbn H2 hEa hEr hEw hE
        go_upto_region 6 with fail
        refine region_chain (fun w' => (w'.cell? ⟨hb1, o + i * 3 + 1, none⟩ = some (.int .i64 er) ∧ w'.cell? ⟨hb1, o + i * 3, none⟩ = some (.int .i64 ew) ∧ w'.cell? ⟨hb1, o + i * 3 + 2, none⟩ = some (.int .u32 (ea : Int)))) [(0, .pointer (some ⟨h, 0, none⟩)), (1, .int .i64 (i : Int)), (2, .slice (some ⟨hb1, o, none⟩) n c), (3, .int .i64 (i : Int)), (4, .pointer (some ⟨hb1, o + i * 3, none⟩)), (5, .pointer (some ⟨hb1, o + i * 3 + 1, none⟩)), (6, .int .i64 er), (7, .int .i64 (ra : Int)), (8, .slice (some ⟨hb1, o, none⟩) n c), (9, .int .i64 (i : Int)), (10, .pointer (some ⟨hb1, o + i * 3, none⟩)), (11, .pointer (some ⟨hb1, o + i * 3, none⟩)), (12, .int .i64 ew), (13, .int .i64 (wa : Int)), (14, .int .i64 (wa8 : Int)), (15, .int .i64 (y : Int)), (16, .pointer (some ⟨h, 0, none⟩)), (17, .pointer (some ⟨h, 2, none⟩)), (18, .pointer (some ⟨h, 2 + i, none⟩))] [(19, fun xs w' => (xs.getD 0 undef) = undef ∧ (w'.cell? ⟨hb1, o + i * 3 + 1, none⟩ = some (.int .i64 er) ∧ w'.cell? ⟨hb1, o + i * 3, none⟩ = some (.int .i64 ew) ∧ w'.cell? ⟨hb1, o + i * 3 + 2, none⟩ = some (.int .u32 (ea : Int))) ∧ Ref w' h mb { s with cfg := upd (prG l s.cfg i) i y, r := upd (prR l s.r i) x 0 } ∧ Only (SR h mb) w w')] (fun w' => (w'.cell? ⟨hb1, o + i * 3 + 1, none⟩ = some (.int .i64 er) ∧ w'.cell? ⟨hb1, o + i * 3, none⟩ = some (.int .i64 ew) ∧ w'.cell? ⟨hb1, o + i * 3 + 2, none⟩ = some (.int .u32 (ea : Int))) ∧ Ref w' h mb { s with cfg := upd (prG l s.cfg i) i 0, r := upd (prR l s.r i) x 0 } ∧ Only (SR h mb) w w') 55 (by kernel_rfl) rfl (by kernel_rfl) (by kernel_rfl) ?_ ?_ ?_ ?_ ?_ ?_
        · intro w' hb he
          exact ⟨⟨(cell_heap he _).trans hcr, (cell_heap he _).trans hcw, (cell_heap he _).trans hca⟩, H2H.out.after hb, HO2.out.trans (Only.of_below hb)⟩
        · exact fun w' h => h.1
        · simp only [List.forall_mem_cons, List.not_mem_nil, false_implies, implies_true, and_true]
          refine ?_
          · exact fun xs w' h => h.2.1
        · simp only [List.forall_mem_cons, List.not_mem_nil, false_implies, implies_true, and_true]
          refine ⟨?_, ?_, ?_, ?_, ?_, ?_, ?_, ?_, ?_, ?_, ?_, ?_, ?_, ?_, ?_, ?_, ?_, ?_, ?_⟩
          · refine qu_of rfl ?_
            intro v w' A hA hC hd hl K hK
            exact pure_step (.pointer (some ⟨h, 0, none⟩)) (fun ρ hρ => by
                have e0 : ρ (.tmp 0) = .pointer (some ⟨h, 0, none⟩) := by rw [hρ]; exact hA.2 0 (by simp)
                clear hρ hA hl hK hd hC
                go_simp) hK
          · refine qu_of rfl ?_
            intro v w' A hA hC hd hl K hK
            exact pure_step (.int .i64 (i : Int)) (fun ρ hρ => by
                have e4 : ρ (.tmp 4) = .int .i64 (i : Int) := by rw [hρ]; exact hA.2 4 (by simp)
                clear hρ hA hl hK hd hC
                go_simp) hK
          · refine qu_of rfl ?_
            intro v w' A hA hC hd hl K hK
            exact pure_step (.slice (some ⟨hb1, o, none⟩) n c) (fun ρ hρ => by
                have e1 : ρ (.tmp 1) = .slice (some ⟨hb1, o, none⟩) n c := by rw [hρ]; exact hA.2 1 (by simp)
                clear hρ hA hl hK hd hC
                go_simp) hK
          · refine qu_of rfl ?_
            intro v w' A hA hC hd hl K hK
            exact pure_step (.int .i64 (i : Int)) (fun ρ hρ => by
                have e4 : ρ (.tmp 4) = .int .i64 (i : Int) := by rw [hρ]; exact hA.2 4 (by simp)
                clear hρ hA hl hK hd hC
                go_simp) hK
          · refine qu_of rfl ?_
            intro v w' A hA hC hd hl K hK
            exact pure_step (.pointer (some ⟨hb1, o + i * 3, none⟩)) (fun ρ hρ => by
                have e26 : ρ (.tmp 26) = .slice (some ⟨hb1, o, none⟩) n c := by rw [hρ]; exact (hA.1 2 _ 26 rfl rfl).trans (hd (2, .slice (some ⟨hb1, o, none⟩) n c) (.tail _ (.tail _ (.head _))) ⟨⟨2, .data⟩, by simp, rfl, rfl⟩)
                have e27 : ρ (.tmp 27) = .int .i64 (i : Int) := by rw [hρ]; exact (hA.1 3 _ 27 rfl rfl).trans (hd (3, .int .i64 (i : Int)) (.tail _ (.tail _ (.tail _ (.head _)))) ⟨⟨3, .data⟩, by simp, rfl, rfl⟩)
                clear hρ hA hl hK hd hC
                have hx := hata w'
                go_simp) hK
          · refine qu_of rfl ?_
            intro v w' A hA hC hd hl K hK
            exact pure_step (.pointer (some ⟨hb1, o + i * 3 + 1, none⟩)) (fun ρ hρ => by
                have e28 : ρ (.tmp 28) = .pointer (some ⟨hb1, o + i * 3, none⟩) := by rw [hρ]; exact (hA.1 4 _ 28 rfl rfl).trans (hd (4, .pointer (some ⟨hb1, o + i * 3, none⟩)) (.tail _ (.tail _ (.tail _ (.tail _ (.head _))))) ⟨⟨4, .data⟩, by simp, rfl, rfl⟩)
                clear hρ hA hl hK hd hC
                go_simp) hK
          · refine qu_of rfl ?_
            intro v w' A hA hC hd hl K hK
            have hcell := hC.1
            exact pure_step (.int .i64 er) (fun ρ hρ => by
                have e29 : ρ (.tmp 29) = .pointer (some ⟨hb1, o + i * 3 + 1, none⟩) := by rw [hρ]; exact (hA.1 5 _ 29 rfl rfl).trans (hd (5, .pointer (some ⟨hb1, o + i * 3 + 1, none⟩)) (.tail _ (.tail _ (.tail _ (.tail _ (.tail _ (.head _)))))) ⟨⟨5, .data⟩, by simp, rfl, rfl⟩)
                clear hρ hA hl hK hd hC
                go_simp) hK
          · refine qu_of rfl ?_
            intro v w' A hA hC hd hl K hK
            exact pure_step (.int .i64 (ra : Int)) (fun ρ hρ => by
                have hcst : ∀ x, ρ (.const x) = x := fun x => by rw [hρ]; rfl
                have e30 : ρ (.tmp 30) = .int .i64 er := by rw [hρ]; exact (hA.1 6 _ 30 rfl rfl).trans (hd (6, .int .i64 er) (.tail _ (.tail _ (.tail _ (.tail _ (.tail _ (.tail _ (.head _))))))) ⟨⟨6, .data⟩, by simp, rfl, rfl⟩)
                clear hρ hA hl hK hd hC
                go_simp) hK
          · refine qu_of rfl ?_
            intro v w' A hA hC hd hl K hK
            exact pure_step (.slice (some ⟨hb1, o, none⟩) n c) (fun ρ hρ => by
                have e1 : ρ (.tmp 1) = .slice (some ⟨hb1, o, none⟩) n c := by rw [hρ]; exact hA.2 1 (by simp)
                clear hρ hA hl hK hd hC
                go_simp) hK
          · refine qu_of rfl ?_
            intro v w' A hA hC hd hl K hK
            exact pure_step (.int .i64 (i : Int)) (fun ρ hρ => by
                have e4 : ρ (.tmp 4) = .int .i64 (i : Int) := by rw [hρ]; exact hA.2 4 (by simp)
                clear hρ hA hl hK hd hC
                go_simp) hK
          · refine qu_of rfl ?_
            intro v w' A hA hC hd hl K hK
            exact pure_step (.pointer (some ⟨hb1, o + i * 3, none⟩)) (fun ρ hρ => by
                have e32 : ρ (.tmp 32) = .slice (some ⟨hb1, o, none⟩) n c := by rw [hρ]; exact (hA.1 8 _ 32 rfl rfl).trans (hd (8, .slice (some ⟨hb1, o, none⟩) n c) (.tail _ (.tail _ (.tail _ (.tail _ (.tail _ (.tail _ (.tail _ (.tail _ (.head _))))))))) ⟨⟨8, .data⟩, by simp, rfl, rfl⟩)
                have e33 : ρ (.tmp 33) = .int .i64 (i : Int) := by rw [hρ]; exact (hA.1 9 _ 33 rfl rfl).trans (hd (9, .int .i64 (i : Int)) (.tail _ (.tail _ (.tail _ (.tail _ (.tail _ (.tail _ (.tail _ (.tail _ (.tail _ (.head _)))))))))) ⟨⟨9, .data⟩, by simp, rfl, rfl⟩)
                clear hρ hA hl hK hd hC
                have hx := hata w'
                go_simp) hK
          · refine qu_of rfl ?_
            intro v w' A hA hC hd hl K hK
            exact pure_step (.pointer (some ⟨hb1, o + i * 3, none⟩)) (fun ρ hρ => by
                have e34 : ρ (.tmp 34) = .pointer (some ⟨hb1, o + i * 3, none⟩) := by rw [hρ]; exact (hA.1 10 _ 34 rfl rfl).trans (hd (10, .pointer (some ⟨hb1, o + i * 3, none⟩)) (.tail _ (.tail _ (.tail _ (.tail _ (.tail _ (.tail _ (.tail _ (.tail _ (.tail _ (.tail _ (.head _))))))))))) ⟨⟨10, .data⟩, by simp, rfl, rfl⟩)
                clear hρ hA hl hK hd hC
                go_simp) hK
          · refine qu_of rfl ?_
            intro v w' A hA hC hd hl K hK
            have hcell := hC.2.1
            exact pure_step (.int .i64 ew) (fun ρ hρ => by
                have e35 : ρ (.tmp 35) = .pointer (some ⟨hb1, o + i * 3, none⟩) := by rw [hρ]; exact (hA.1 11 _ 35 rfl rfl).trans (hd (11, .pointer (some ⟨hb1, o + i * 3, none⟩)) (.tail _ (.tail _ (.tail _ (.tail _ (.tail _ (.tail _ (.tail _ (.tail _ (.tail _ (.tail _ (.tail _ (.head _)))))))))))) ⟨⟨11, .data⟩, by simp, rfl, rfl⟩)
                clear hρ hA hl hK hd hC
                go_simp) hK
          · refine qu_of rfl ?_
            intro v w' A hA hC hd hl K hK
            exact pure_step (.int .i64 (wa : Int)) (fun ρ hρ => by
                have hcst : ∀ x, ρ (.const x) = x := fun x => by rw [hρ]; rfl
                have e36 : ρ (.tmp 36) = .int .i64 ew := by rw [hρ]; exact (hA.1 12 _ 36 rfl rfl).trans (hd (12, .int .i64 ew) (.tail _ (.tail _ (.tail _ (.tail _ (.tail _ (.tail _ (.tail _ (.tail _ (.tail _ (.tail _ (.tail _ (.tail _ (.head _))))))))))))) ⟨⟨12, .data⟩, by simp, rfl, rfl⟩)
                clear hρ hA hl hK hd hC
                go_simp) hK
          · refine qu_of rfl ?_
            intro v w' A hA hC hd hl K hK
            exact pure_step (.int .i64 (wa8 : Int)) (fun ρ hρ => by
                have hcst : ∀ x, ρ (.const x) = x := fun x => by rw [hρ]; rfl
                have e37 : ρ (.tmp 37) = .int .i64 (wa : Int) := by rw [hρ]; exact (hA.1 13 _ 37 rfl rfl).trans (hd (13, .int .i64 (wa : Int)) (.tail _ (.tail _ (.tail _ (.tail _ (.tail _ (.tail _ (.tail _ (.tail _ (.tail _ (.tail _ (.tail _ (.tail _ (.tail _ (.head _)))))))))))))) ⟨⟨13, .data⟩, by simp, rfl, rfl⟩)
                clear hρ hA hl hK hd hC
                go_simp) hK
          · refine qu_of rfl ?_
            intro v w' A hA hC hd hl K hK
            exact pure_step (.int .i64 (y : Int)) (fun ρ hρ => by
                have e31 : ρ (.tmp 31) = .int .i64 (ra : Int) := by rw [hρ]; exact (hA.1 7 _ 31 rfl rfl).trans (hd (7, .int .i64 (ra : Int)) (.tail _ (.tail _ (.tail _ (.tail _ (.tail _ (.tail _ (.tail _ (.head _)))))))) ⟨⟨7, .data⟩, by simp, rfl, rfl⟩)
                have e38 : ρ (.tmp 38) = .int .i64 (wa8 : Int) := by rw [hρ]; exact (hA.1 14 _ 38 rfl rfl).trans (hd (14, .int .i64 (wa8 : Int)) (.tail _ (.tail _ (.tail _ (.tail _ (.tail _ (.tail _ (.tail _ (.tail _ (.tail _ (.tail _ (.tail _ (.tail _ (.tail _ (.tail _ (.head _))))))))))))))) ⟨⟨14, .data⟩, by simp, rfl, rfl⟩)
                clear hρ hA hl hK hd hC
                go_simp) hK
          · refine qu_of rfl ?_
            intro v w' A hA hC hd hl K hK
            exact pure_step (.pointer (some ⟨h, 0, none⟩)) (fun ρ hρ => by
                have e24 : ρ (.tmp 24) = .pointer (some ⟨h, 0, none⟩) := by rw [hρ]; exact (hA.1 0 _ 24 rfl rfl).trans (hd (0, .pointer (some ⟨h, 0, none⟩)) (.head _) ⟨⟨0, .data⟩, by simp, rfl, rfl⟩)
                clear hρ hA hl hK hd hC
                go_simp) hK
          · refine qu_of rfl ?_
            intro v w' A hA hC hd hl K hK
            exact pure_step (.pointer (some ⟨h, 2, none⟩)) (fun ρ hρ => by
                have e40 : ρ (.tmp 40) = .pointer (some ⟨h, 0, none⟩) := by rw [hρ]; exact (hA.1 16 _ 40 rfl rfl).trans (hd (16, .pointer (some ⟨h, 0, none⟩)) (.tail _ (.tail _ (.tail _ (.tail _ (.tail _ (.tail _ (.tail _ (.tail _ (.tail _ (.tail _ (.tail _ (.tail _ (.tail _ (.tail _ (.tail _ (.tail _ (.head _))))))))))))))))) ⟨⟨16, .data⟩, by simp, rfl, rfl⟩)
                clear hρ hA hl hK hd hC
                go_simp) hK
          · refine qu_of rfl ?_
            intro v w' A hA hC hd hl K hK
            exact pure_step (.pointer (some ⟨h, 2 + i, none⟩)) (fun ρ hρ => by
                have e41 : ρ (.tmp 41) = .pointer (some ⟨h, 2, none⟩) := by rw [hρ]; exact (hA.1 17 _ 41 rfl rfl).trans (hd (17, .pointer (some ⟨h, 2, none⟩)) (.tail _ (.tail _ (.tail _ (.tail _ (.tail _ (.tail _ (.tail _ (.tail _ (.tail _ (.tail _ (.tail _ (.tail _ (.tail _ (.tail _ (.tail _ (.tail _ (.tail _ (.head _)))))))))))))))))) ⟨⟨17, .data⟩, by simp, rfl, rfl⟩)
                have e25 : ρ (.tmp 25) = .int .i64 (i : Int) := by rw [hρ]; exact (hA.1 1 _ 25 rfl rfl).trans (hd (1, .int .i64 (i : Int)) (.tail _ (.head _)) ⟨⟨1, .data⟩, by simp, rfl, rfl⟩)
                clear hρ hA hl hK hd hC
                have hx := hat w'
                go_simp) hK
        · refine ⟨qu_of rfl ?_, fun x19 => trivial⟩
          · intro v w' A hA hS hacc hd hl K hK
            replace hS : (w'.cell? ⟨hb1, o + i * 3 + 1, none⟩ = some (.int .i64 er) ∧ w'.cell? ⟨hb1, o + i * 3, none⟩ = some (.int .i64 ew) ∧ w'.cell? ⟨hb1, o + i * 3 + 2, none⟩ = some (.int .u32 (ea : Int))) ∧ Ref w' h mb { s with cfg := upd (prG l s.cfg i) i 0, r := upd (prR l s.r i) x 0 } ∧ Only (SR h mb) w w' := hS
            have hfz : w'.frozen? ⟨h, 2 + i, none⟩ = false := hS.2.1.blk.free (2 + i)
            have hcz : w'.cell? ⟨h, 2 + i, none⟩ = some (.int .i64 0) := by
              have h1 := hS.2.1.blk.cellTab (2 + i) (by omega)
              rw [rV_c _ _ i (by omega)] at h1
              dsimp only at h1
              rw [upd_same] at h1
              exact h1
            refine new_stepS (w'' := w'.setCell ⟨h, 2 + i, none⟩ (.int .i64 (y : Int))) (fun ρ hρ => by
                have e42 : ρ (.tmp 42) = .pointer (some ⟨h, 2 + i, none⟩) := by rw [hρ]; exact (hA.1 18 _ 42 rfl rfl).trans (hd (18, .pointer (some ⟨h, 2 + i, none⟩)) (.tail _ (.tail _ (.tail _ (.tail _ (.tail _ (.tail _ (.tail _ (.tail _ (.tail _ (.tail _ (.tail _ (.tail _ (.tail _ (.tail _ (.tail _ (.tail _ (.tail _ (.tail _ (.head _))))))))))))))))))) ⟨⟨18, .data⟩, by simp, rfl, rfl⟩)
                have e39 : ρ (.tmp 39) = .int .i64 (y : Int) := by rw [hρ]; exact (hA.1 15 _ 39 rfl rfl).trans (hd (15, .int .i64 (y : Int)) (.tail _ (.tail _ (.tail _ (.tail _ (.tail _ (.tail _ (.tail _ (.tail _ (.tail _ (.tail _ (.tail _ (.tail _ (.tail _ (.tail _ (.tail _ (.head _)))))))))))))))) ⟨⟨15, .data⟩, by simp, rfl, rfl⟩)
                clear hρ hA hl hK hd hS hacc
                go_simp
                ) ?_
            have h9 := hS.2.1.cfg i y hlt (by omega) (by omega)
            dsimp only at h9
            rw [upd_upd] at h9
            exact hK _ _ ⟨rfl, ⟨(cell_far _ HH.out.1).trans hS.1.1, (cell_far _ HH.out.1).trans hS.1.2.1, (cell_far _ HH.out.1).trans hS.1.2.2⟩, h9, hS.2.2.trans (Only.setCell _ (Or.inl rfl) _)⟩
        intro x19 v wE hSE hacc hqv
        replace hSE : x19 = undef ∧ (wE.cell? ⟨hb1, o + i * 3 + 1, none⟩ = some (.int .i64 er) ∧ wE.cell? ⟨hb1, o + i * 3, none⟩ = some (.int .i64 ew) ∧ wE.cell? ⟨hb1, o + i * 3 + 2, none⟩ = some (.int .u32 (ea : Int))) ∧ Ref wE h mb { s with cfg := upd (prG l s.cfg i) i y, r := upd (prR l s.r i) x 0 } ∧ Only (SR h mb) w wE := hSE
        have f0 : v 0 = .pointer (some ⟨h, 0, none⟩) := hqv (0, .pointer (some ⟨h, 0, none⟩)) (.head _)
        have f1 : v 1 = .int .i64 (i : Int) := hqv (1, .int .i64 (i : Int)) (.tail _ (.head _))
        have f2 : v 2 = .slice (some ⟨hb1, o, none⟩) n c := hqv (2, .slice (some ⟨hb1, o, none⟩) n c) (.tail _ (.tail _ (.head _)))
        have f3 : v 3 = .int .i64 (i : Int) := hqv (3, .int .i64 (i : Int)) (.tail _ (.tail _ (.tail _ (.head _))))
        have f4 : v 4 = .pointer (some ⟨hb1, o + i * 3, none⟩) := hqv (4, .pointer (some ⟨hb1, o + i * 3, none⟩)) (.tail _ (.tail _ (.tail _ (.tail _ (.head _)))))
        have f5 : v 5 = .pointer (some ⟨hb1, o + i * 3 + 1, none⟩) := hqv (5, .pointer (some ⟨hb1, o + i * 3 + 1, none⟩)) (.tail _ (.tail _ (.tail _ (.tail _ (.tail _ (.head _))))))
        have f6 : v 6 = .int .i64 er := hqv (6, .int .i64 er) (.tail _ (.tail _ (.tail _ (.tail _ (.tail _ (.tail _ (.head _)))))))
        have f7 : v 7 = .int .i64 (ra : Int) := hqv (7, .int .i64 (ra : Int)) (.tail _ (.tail _ (.tail _ (.tail _ (.tail _ (.tail _ (.tail _ (.head _))))))))
        have f8 : v 8 = .slice (some ⟨hb1, o, none⟩) n c := hqv (8, .slice (some ⟨hb1, o, none⟩) n c) (.tail _ (.tail _ (.tail _ (.tail _ (.tail _ (.tail _ (.tail _ (.tail _ (.head _)))))))))
        have f9 : v 9 = .int .i64 (i : Int) := hqv (9, .int .i64 (i : Int)) (.tail _ (.tail _ (.tail _ (.tail _ (.tail _ (.tail _ (.tail _ (.tail _ (.tail _ (.head _))))))))))
        have f10 : v 10 = .pointer (some ⟨hb1, o + i * 3, none⟩) := hqv (10, .pointer (some ⟨hb1, o + i * 3, none⟩)) (.tail _ (.tail _ (.tail _ (.tail _ (.tail _ (.tail _ (.tail _ (.tail _ (.tail _ (.tail _ (.head _)))))))))))
        have f11 : v 11 = .pointer (some ⟨hb1, o + i * 3, none⟩) := hqv (11, .pointer (some ⟨hb1, o + i * 3, none⟩)) (.tail _ (.tail _ (.tail _ (.tail _ (.tail _ (.tail _ (.tail _ (.tail _ (.tail _ (.tail _ (.tail _ (.head _))))))))))))
        have f12 : v 12 = .int .i64 ew := hqv (12, .int .i64 ew) (.tail _ (.tail _ (.tail _ (.tail _ (.tail _ (.tail _ (.tail _ (.tail _ (.tail _ (.tail _ (.tail _ (.tail _ (.head _)))))))))))))
        have f13 : v 13 = .int .i64 (wa : Int) := hqv (13, .int .i64 (wa : Int)) (.tail _ (.tail _ (.tail _ (.tail _ (.tail _ (.tail _ (.tail _ (.tail _ (.tail _ (.tail _ (.tail _ (.tail _ (.tail _ (.head _))))))))))))))
        have f14 : v 14 = .int .i64 (wa8 : Int) := hqv (14, .int .i64 (wa8 : Int)) (.tail _ (.tail _ (.tail _ (.tail _ (.tail _ (.tail _ (.tail _ (.tail _ (.tail _ (.tail _ (.tail _ (.tail _ (.tail _ (.tail _ (.head _)))))))))))))))
        have f15 : v 15 = .int .i64 (y : Int) := hqv (15, .int .i64 (y : Int)) (.tail _ (.tail _ (.tail _ (.tail _ (.tail _ (.tail _ (.tail _ (.tail _ (.tail _ (.tail _ (.tail _ (.tail _ (.tail _ (.tail _ (.tail _ (.head _))))))))))))))))
        have f16 : v 16 = .pointer (some ⟨h, 0, none⟩) := hqv (16, .pointer (some ⟨h, 0, none⟩)) (.tail _ (.tail _ (.tail _ (.tail _ (.tail _ (.tail _ (.tail _ (.tail _ (.tail _ (.tail _ (.tail _ (.tail _ (.tail _ (.tail _ (.tail _ (.tail _ (.head _)))))))))))))))))
        have f17 : v 17 = .pointer (some ⟨h, 2, none⟩) := hqv (17, .pointer (some ⟨h, 2, none⟩)) (.tail _ (.tail _ (.tail _ (.tail _ (.tail _ (.tail _ (.tail _ (.tail _ (.tail _ (.tail _ (.tail _ (.tail _ (.tail _ (.tail _ (.tail _ (.tail _ (.tail _ (.head _))))))))))))))))))
        have f18 : v 18 = .pointer (some ⟨h, 2 + i, none⟩) := hqv (18, .pointer (some ⟨h, 2 + i, none⟩)) (.tail _ (.tail _ (.tail _ (.tail _ (.tail _ (.tail _ (.tail _ (.tail _ (.tail _ (.tail _ (.tail _ (.tail _ (.tail _ (.tail _ (.tail _ (.tail _ (.tail _ (.tail _ (.head _)))))))))))))))))))
        have f19 : v 19 = x19 := hacc (19, x19) (by simp)
        clear hacc hqv
        simp only [putAll, Act.put, List.setIfInBounds_toArray, List.set_cons_zero, List.set_cons_succ, Nat.zero_add, Nat.reduceAdd]
        rw [f0, f1, f2, f3, f4, f5, f6, f7, f8, f9, f10, f11, f12, f13, f14, f15, f16, f17, f18]
        clear f0 f1 f2 f3 f4 f5 f6 f7 f8 f9 f10 f11 f12 f13 f14 f15 f16 f17 f18 f19
        have H3H := Lib.hid hSE.2.2.1
        have HO3 := Lib.hid hSE.2.2.2
        have hca3 := hSE.2.1.2.2
        have hc3 : wE.cell? ⟨h, 1, none⟩ = some (.map (some mb)) := hSE.2.2.1.blk.cellTab 1 (by decide)
        clear hSE
        go_upto_region 7 with fail
        refine region_quiet_tail (fun w' => ∃ n, w' = wE.drewN n) 12 (by kernel_rfl) (by kernel_rfl) ⟨1, rfl⟩ ?_
        simp only [List.take_succ_cons, List.take_zero, List.drop_succ_cons, List.drop_zero]
        repeat (quiet_step (fail))
        refine wpQuiet_nil ?_
        rintro w' ⟨nq, rfl⟩
        have HM4 := H3H.out.map.drewN nq
        have hea : ea < 4294967296 := by omega
        go_wp2_with (
          refine wp_mapput rfl _ _ _ rfl rfl HM4 x ea rfl rfl hxl hea (by decide) 24 (by rw [some_in _ x HK.out]; exact Nat.le_refl _) ?_
          intro w5 hM5 hg5
          go_frame)
        go_roundw
        case rel =>
          have H4 := (H3H.out.beside (only_drewN wE nq none) (by simp) (by simp)).reg x ea HK.out hM5 hg5 (reg_ok _ H3H.out.ok x ea (by have := HX.out; omega) hea)
          refine ⟨i + 1, hlt, by go_num, ?_, (HO3.out.trans (Only.drewN _ _)).trans (OG hg5)⟩
          have e7 := HGU.out
          have e8 := HRU.out
          have hl := HL.out
          rw [if_pos (by omega)] at e7
          rw [if_pos (by omega), ← HX.out] at e8
          rw [e7, e8]
          dsimp only at H4
          rw [upd_upd] at H4
          exact H4
        case measure => simp [intOf] <;> omega
      · have hlI : ¬ (i : Int) < (n : Int) := by omega
        go_wp2_with fail
        go_roundw
        case rel =>
          refine ⟨i + 1, hlt, by go_num, ?_, HO2.out⟩
          have e7 := HGU.out
          have e8 := HRU.out
          have hl := HL.out
          rw [if_neg (by omega)] at e7
          rw [if_neg (by omega), ← HX.out] at e8
          rw [e7, e8]
          exact H2H.out
        case measure => simp [intOf] <;> omega
    · obtain rfl : i = 16 := by omega
      go_wp2_with fail
      first | go_end0 | refine bodyPost_ret (results_none rfl _ _ _) rfl ?_
      exact ⟨rfl, hR, hO⟩
end Go.Proofs.YtgpofoggfifnjaaGreatDoor.Cs
namespace Go.Proofs.YtgpofoggfifnjaaGreatDoor.Cs
open Go Go.RowKit
open Go.Proofs.YtgpofoggfifnjaaGreatDoor.Pm (En Sl SlC SlE enV en0 TabT)

def word4 (c : Nat → Nat) (b : Nat) : Nat := c b + 256 * c (b + 1) + 65536 * c (b + 2) + 16777216 * c (b + 3)
/-- a register is read -/
def readC (s : St) (n : Nat) : Option Nat :=
  if n = 769 then some 1074794752
  else if n = 2816 then some (s.cyc % 4294967296)
  else if n = 2944 then some (s.cyc / 4294967296)
  else if n = 2818 then some (s.ret % 4294967296)
  else if n = 2946 then some (s.ret / 4294967296)
  else if 3857 ≤ n ∧ n ≤ 3860 then some 0
  else if 928 ≤ n ∧ n < 932 then some (word4 s.cfg (4 * (n - 928)))
  else rM s n
def dueC (s : St) : Bool := decide (0 < s.r 772) && decide (0 < s.r 836) && (decide (s.mode = 0) || decide (s.r 768 / 8 % 2 = 1))
/-- one block -/
def S1 (g : Nat) (i : Nat) : Prop := i = g
/-- what package csr's calls answer: 'Is w g s': at g lies a file of registers that holds s -/
structure CsrOK (Is : World → Nat → St → Prop) : Prop where
  lt : ∀ {w g s}, Is w g s → g < w.heap.size
  ok : ∀ {w g s}, Is w g s → s.Ok
  keep : ∀ {w w' g s} {S : Nat → Prop}, Is w g s → Only S w w' → ¬ S g → Is w' g s
  mode : ∀ {w g s}, Is w g s → w.cell? ⟨g, 0, none⟩ = some (.int .i64 (s.mode : Int)) ∧ w.frozen? ⟨g, 0, none⟩ = false
  setMode : ∀ {w g s} (m : Nat), Is w g s → m = 0 ∨ m = 3 → Is (w.setCell ⟨g, 0, none⟩ (.int .i64 (m : Int))) g { s with mode := m }
  new : ∀ w : World, Calls Tryz.prog 38 #[] w fun e w' => (∃ g, e = .returned (hP g) ∧ Is w' g st0 ∧ w.heap.size ≤ g) ∧ Below w.heap.size w w'
  write : ∀ (w : World) (g : Nat) (s : St) (n x : Nat), Is w g s → n < 4294967296 → x < 4294967296 → Calls Tryz.prog 26 #[hP g, .int .u32 (n : Int), .int .u32 (x : Int)] w fun e w' => e = .returned (.bool (writeC s n x).isSome) ∧ Is w' g ((writeC s n x).getD s) ∧ Only (S1 g) w w'
  read : ∀ (w : World) (g : Nat) (s : St) (n : Nat), Is w g s → n < 4294967296 → Calls Tryz.prog 16 #[hP g, .int .u32 (n : Int)] w fun e w' => e = .returned (.tuple #[.int .u32 (((readC s n).getD 0 : Nat) : Int), .bool (readC s n).isSome]) ∧ Below w.heap.size w w'
  due : ∀ (w : World) (g : Nat) (s : St), Is w g s → Calls Tryz.prog 49 #[hP g] w fun e w' => e = .returned (.bool (dueC s)) ∧ Below w.heap.size w w'
  timer : ∀ (w : World) (g : Nat) (s : St) (b : Bool), Is w g s → Calls Tryz.prog 18 #[hP g, .bool b] w fun e w' => e = .returned (.tuple #[]) ∧ Is w' g (timC s b) ∧ Only (S1 g) w w'
  tick : ∀ (w : World) (g : Nat) (s : St) (b : Bool), Is w g s → Calls Tryz.prog 30 #[hP g, .bool b] w fun e w' => e = .returned (.tuple #[]) ∧ Is w' g (tickC s b) ∧ Only (S1 g) w w'
  trap : ∀ (w : World) (g : Nat) (s : St) (pc ca tv : Nat), Is w g s → pc < 4294967296 → ca < 4294967296 → tv < 4294967296 → Calls Tryz.prog 29 #[hP g, .int .u32 (pc : Int), .int .u32 (ca : Int), .int .u32 (tv : Int)] w fun e w' => e = .returned (.int .u32 (s.r 773 : Int)) ∧ Is w' g (trapC s pc ca tv) ∧ Only (S1 g) w w'
  back : ∀ (w : World) (g : Nat) (s : St), Is w g s → Calls Tryz.prog 94 #[hP g] w fun e w' => e = .returned (.int .u32 (s.r 833 : Int)) ∧ Is w' g (backC s) ∧ Only (S1 g) w w'
  protect : ∀ (w : World) (g : Nat) (s : St) (l : List En) (q : Sl), Is w g s → SlE w q l → (∀ b o, q.A = some ⟨b, o, none⟩ → 0 < q.n → b ≠ g) → Calls Tryz.prog 24 #[hP g, q.v] w fun e w' => e = .returned (.int .i64 (if 16 < q.n then 1 else 0)) ∧ Is w' g (if 16 < q.n then s else protC s l) ∧ Only (S1 g) w w'
  may1 : ∀ (w : World) (g : Nat) (s : St), TabT w → Is w g s → s.mode = 3 → (∀ k, s.cfg k = 0) → Calls Tryz.prog 13 #[hP g, .int .u32 0, .int .i64 4, .int .i64 4] w fun e w' => e = .returned (.bool true) ∧ Below w.heap.size w w'
section
variable {Is : World → Nat → St → Prop}
theorem CsrOK.below (O : CsrOK Is) {w w' : World} {g : Nat} {s : St} (h : Is w g s) (k : Below w.heap.size w w') : Is w' g s := O.keep (S := fun _ => False) h (Only.of_below k) (fun h => h)
end
end Go.Proofs.YtgpofoggfifnjaaGreatDoor.Cs
namespace Go.Proofs.YtgpofoggfifnjaaGreatDoor.Cs
open Go Go.RowKit
open Go.Proofs.YtgpofoggfifnjaaGreatDoor.Pm (En Sl SlC SlE enV en0 TabT wp_fresh)

end Go.Proofs.YtgpofoggfifnjaaGreatDoor.Cs
