/-
Layer 15: what a file that is none answers; package csr's Protect.
Layer 15: package csr's May1 in the machine's mode, where no entry is set; all that the laws ask of package csr.
-/
import Derived.Test.YtgpofoggfifnjaaGreatDoorJAz
import Derived.Test.YtgpofoggfifnjaaGreatDoorJAw
import Derived.Test.YtgpofoggfifnjaaGreatDoorJAx
namespace Go.Proofs.YtgpofoggfifnjaaGreatDoor.Cs
open Go Go.RowKit
open Go.Proofs.YtgpofoggfifnjaaGreatDoor.Pm (En Sl SlC SlE enV enV_one en0 TabT at_entry infoE of_any)

theorem mask7 (z : Int) : bits .and .i64 z 7 = z % 8 := by
  have h := i64_and_mask z 3 (by omega)
  rw [show ((2 ^ 3 - 1 : Nat) : Int) = 7 from rfl] at h
  rw [h]
  have : ((2 ^ 3 : Nat) : Int) = 8 := rfl
  omega
theorem mask3 (z : Int) : bits .and .i64 z 3 = z % 4 := by
  have h := i64_and_mask z 2 (by omega)
  rw [show ((2 ^ 2 - 1 : Nat) : Int) = 3 from rfl] at h
  rw [h]
  have : ((2 ^ 2 : Nat) : Int) = 4 := rfl
  omega
set_option maxRecDepth 100000 in
set_option maxHeartbeats 1000000 in
theorem byteE_any (e : En) (w : World) (he : e.Wf) : Calls Tryz.prog 45 #[.agg #[.int .i64 e.w, .int .i64 e.r, .int .u32 (e.a : Int)]] w fun x w' => x = .returned (.int .u8 ((byE e : Nat) : Int)) ∧ Below w.heap.size w w' := by
  have k1 := mask7 e.r
  have k2 := mask3 e.w
  have hr := he.r
  obtain ⟨R, hR⟩ : ∃ R : Nat, R = (e.r % 8).toNat := ⟨_, rfl⟩
  obtain ⟨W, hW⟩ : ∃ W : Nat, W = (e.w % 4).toNat := ⟨_, rfl⟩
  have e1 : e.r % 8 = (R : Int) := by omega
  have e2 : e.w % 4 = (W : Int) := by omega
  rw [e1] at k1
  rw [e2] at k2
  have hRl : (R : Int) < 8 := by omega
  have hWl : (W : Int) < 4 := by omega
  unfold byE
  rw [← hR, ← hW]
  generalize e.r = er at *
  generalize e.w = ew at *
  clear hR hW e1 e2 hr
  go_enter Tryz.func45, Tryz.ntmps45
  go_wp2_with fail
  go_ret
  refine ⟨?_, (Below.refl _ w).alloc (Nat.le_refl _) _⟩
  rw [show (R : Int) + (W : Int) * 8 = ((R + W * 8 : Nat) : Int) by omega]
  rfl
def zE (j : Nat) : Value := enV en0 (j % 3)
theorem zE_one (j : Nat) : (zE j).oneCell' = true := enV_one _ _
def zL (_ : Nat) : Value := .bool false
theorem zrow39 : (Tryz.prog.info? 39).map (fun i => (i.zero, i.size)) = some (some (.agg (tab 48 zE)), 48) := by kernel_rfl
theorem zrow40 : (Tryz.prog.info? 40).map (fun i => (i.zero, i.size)) = some (some (.agg (tab 16 zL)), 16) := by kernel_rfl
theorem size39 : (Tryz.prog.info? 39).map (·.size) = some 48 := by kernel_rfl
theorem size40 : (Tryz.prog.info? 40).map (·.size) = some 16 := by kernel_rfl
/-- both tables are struck -/
theorem struck (s : St) (j : Nat) : (if 59 ≤ j ∧ j < 59 + 16 then zL (j - 59) else (if 11 ≤ j ∧ j < 11 + 48 then zE (j - 11) else fV s j)) = fV (protC s []) j := by
  by_cases h1 : 59 ≤ j ∧ j < 59 + 16
  · rw [if_pos h1]
    obtain ⟨k, rfl⟩ : ∃ k, j = 59 + k := ⟨j - 59, by omega⟩
    rw [fV_l _ k (by omega)]
    unfold zL protC
    dsimp only
    unfold prG
    rw [if_pos (by omega), if_neg (by simp)]
    rfl
  rw [if_neg h1]
  by_cases h2 : 11 ≤ j ∧ j < 11 + 48
  · rw [if_pos h2]
    obtain ⟨k, i, hi, rfl⟩ : ∃ k i, i < 3 ∧ j = 11 + k * 3 + i := ⟨(j - 11) / 3, (j - 11) % 3, by omega, by omega⟩
    rw [fV_e _ k i (by omega) hi]
    unfold zE entN protC
    dsimp only
    unfold prG prR
    rw [if_pos (by omega), if_neg (by simp), if_pos (by omega), if_neg (by simp), show (11 + k * 3 + i - 11) % 3 = i by omega]
    rfl
  rw [if_neg h2]
  unfold fV protC
  dsimp only
  have e768 : prR [] s.r 16 768 = s.r 768 := by unfold prR; rw [if_neg (by omega)]
  have eL : ∀ i, 4 ≤ i → i < 11 → prR [] s.r 16 (regL i) = s.r (regL i) := fun i h4 hi => by
    have := (regL_768 i h4 hi).2
    unfold prR
    rw [if_neg]
    intro h
    exact this (regL i - 944) (by omega)
  split
  · rfl
  split
  · rw [e768]
  split
  · rw [eL j (by omega) (by omega)]
  split
  · omega
  split
  · omega
  · rfl
theorem inv_prot {s : St} (I : Inv s) (l : List En) (hl : ∀ e ∈ l, e.Wf) : Inv (protC s l) := by
  have e : ∀ x, x < 944 → (protC s l).r x = s.r x := fun x hx => by show prR l s.r 16 x = _; unfold prR; rw [if_neg (by omega)]
  exact ⟨protC_ok s I.ok l hl, by rw [e 768 (by decide)]; exact I.st, by rw [e 772 (by decide)]; exact I.en, by rw [e 836 (by decide)]; exact I.pe⟩
theorem prot_up (s : St) (l : List En) (i : Nat) (hi : i < l.length) (h16 : i < 16) : entS (protC s (l.take i)) i (byE (l.getD i en0)) (l.getD i en0).a = protC s (l.take (i + 1)) := by
  have hg : ∀ k, k ≤ i → (l.take (i + 1)).getD k en0 = l.getD k en0 := fun k hk => by
    rw [List.getD_eq_getElem?_getD, List.getD_eq_getElem?_getD, List.getElem?_take_of_lt (by omega)]
  have hg2 : ∀ k, k < i → (l.take i).getD k en0 = l.getD k en0 := fun k hk => by
    rw [List.getD_eq_getElem?_getD, List.getD_eq_getElem?_getD, List.getElem?_take_of_lt (by omega)]
  have h1 : (l.take i).length = i := by rw [List.length_take]; omega
  have h2 : (l.take (i + 1)).length = i + 1 := by rw [List.length_take]; omega
  unfold entS protC
  dsimp only
  have hc : upd (prG (l.take i) s.cfg 16) i (byE (l.getD i en0)) = prG (l.take (i + 1)) s.cfg 16 := by
    funext k
    unfold upd prG
    rw [h1, h2]
    by_cases e : k = i
    · subst e
      rw [if_pos rfl, if_pos h16, if_pos (by omega), hg k (Nat.le_refl _)]
    · rw [if_neg e]
      by_cases h : k < 16
      · rw [if_pos h, if_pos h]
        by_cases hk : k < i
        · rw [if_pos hk, if_pos (by omega), hg k (by omega), hg2 k hk]
        · rw [if_neg hk, if_neg (by omega)]
      · rw [if_neg h, if_neg h]
  have hr : upd (prR (l.take i) s.r 16) (944 + i) (l.getD i en0).a = prR (l.take (i + 1)) s.r 16 := by
    funext x
    unfold upd prR
    rw [h1, h2]
    by_cases e : x = 944 + i
    · subst e
      rw [if_pos rfl, if_pos (by omega), if_pos (by omega), show 944 + i - 944 = i by omega, hg i (Nat.le_refl _)]
    · rw [if_neg e]
      by_cases h : 944 ≤ x ∧ x < 944 + 16
      · rw [if_pos h, if_pos h]
        by_cases hk : x - 944 < i
        · rw [if_pos hk, if_pos (by omega), hg _ (by omega), hg2 _ hk]
        · rw [if_neg hk, if_neg (by omega)]
      · rw [if_neg h, if_neg h]
  rw [hc, hr]
theorem at_ei (g k : Nat) (hk : (k : Int) < 16) (w : World) : (Instr.indexAt 39 (.pointer (some ⟨g, 11, none⟩)) (.int .i64 (k : Int))).run Tryz.prog w = .ok (.pointer (some ⟨g, 11 + k * 3, none⟩)) w := by
  have h2 := Addr.add_mid g 11 (k * 3)
  go_simp
set_option maxRecDepth 100000 in
set_option maxHeartbeats 8000000 in
theorem cprotect_any (w : World) (g : Nat) (s : St) (l : List En) (A : Option Addr) (m c : Nat) (H : IsF w g s) (hS : SlE w ⟨A, m, c⟩ l) (hne : ∀ b o, A = some ⟨b, o, none⟩ → 0 < m → b ≠ g) : Calls Tryz.prog 24 #[hP g, .slice A m c] w fun e w' => e = .returned (.int .i64 (if 16 < m then 1 else 0)) ∧ IsF w' g (if 16 < m then s else protC s l) ∧ Only (S1 g) w w' := by
  have hlen : l.length = m := hS.1
  by_cases h16 : 16 < m
  · have d16 : (16 : Int) < (m : Int) := by omega
    rw [if_pos h16, if_pos h16]
    have HH := Lib.hid H
    clear hS H hne
    go_enter Tryz.func24, Tryz.ntmps24
    go_wp2_with fail
    go_ret
    exact ⟨rfl, HH.out, Only.refl _ _⟩
  have d16 : ¬ (16 : Int) < (m : Int) := by omega
  rw [if_neg h16, if_neg h16]
  have hz39 := fun W => (zero_of_info zrow39).1 W
  have hz40 := fun W => (zero_of_info zrow40).1 W
  have hn39 : (tab 48 zE = #[]) = False := eq_false fun h => by
    have := congrArg Array.size h
    rw [tab_size] at this
    exact absurd this (by decide)
  have hn40 : (tab 16 zL = #[]) = False := eq_false fun h => by
    have := congrArg Array.size h
    rw [tab_size] at this
    exact absurd this (by decide)
  have HS := Lib.hid hS
  have HI := Lib.hid H.inv
  have hB := H.blk
  have HNE := Lib.hid hne
  clear H hS hne
  go_enter Tryz.func24, Tryz.ntmps24
  go_upto_region 4 with (
    refine wp_store_tab rfl 39 _ _ rfl g 11 rfl 48 zE rfl 77 _ _ hB size39 (by decide) zE_one ?_
    intro w1 hB1 hg1
    go_frame)
  clear hB
  go_upto_region 5 with (
    refine wp_store_tab rfl 40 _ _ rfl g 59 rfl 16 zL rfl 77 _ _ hB1 size40 (by decide) (fun _ => rfl) ?_
    intro w2 hB2 hg2
    go_frame)
  clear hB1 hz39 hz40 hn39 hn40
  have H2 : IsF w2 g (protC s []) := by
    refine ⟨?_, inv_prot HI.out [] (fun _ h => by cases h)⟩
    rw [tab_ext _ _ (fV (protC s []))] at hB2
    · exact hB2
    · intro j _
      exact struck s j
  have O2 : Only (S1 g) w w2 := (Only.of_grown (S := S1 g) hg1 fun l e => by injection e with e; exact e.symm).trans (Only.of_grown (S := S1 g) hg2 fun l e => by injection e with e; exact e.symm)
  clear hB2 hg1 hg2
  go_wp2_with fail
  go_loopw [24] (fun ct wr => ∃ i : Nat, i ≤ m ∧ ct = .int .i64 (i : Int) ∧ IsF wr g (protC s (l.take i)) ∧ Only (S1 g) w wr) (fun ct _ => (m - (intOf ct)).toNat)
  case atStart => exact ⟨0, Nat.zero_le _, rfl, by rw [List.take_zero]; exact H2, O2⟩
  case round =>
    obtain ⟨i, hi, rfl, HW, OW⟩ := hrel
    by_cases hlt : i < m
    · have hin : (i : Int) < (m : Int) := by omega
      have hi16 : i < 16 := by omega
      have di : (i : Int) < 16 := by omega
      have hSw := slE_only HS.out OW (fun b o e h0 => HNE.out b o e h0)
      obtain ⟨b, o, hA, hlb, hcc⟩ := hSw.2.1.2 (show 0 < m by omega)
      dsimp only at hA
      subst hA
      have c0 := hcc i 0 hlt (by omega)
      have c1 := hcc i 1 hlt (by omega)
      have c2 := hcc i 2 hlt (by omega)
      have hwf := hSw.wf hlt
      have hup := prot_up s l i (by omega) hi16
      have hat := at_entry b o m c i hin
      have hei := fun W => at_ei g i di W
      dsimp only at c0 c1 c2
      generalize l.getD i en0 = e at *
      have kB := fun W => byteE_any e W hwf
      have kO := fun W => of_any (byE e) e.a W (by have := byE_lt e; omega) hwf.a
      have hbl := byE_lt e
      have hE := fun w1 (h1 : IsF w1 g (protC s (l.take i))) (w' : World) hB => h1.ent (w' := w') i (byE e) e.a hi16 hwf.a (by omega) (by omega) (by
        have e0 : (protC s (l.take i)).cfg i = 0 := by
          show prG _ _ _ _ = _
          unfold prG
          rw [if_pos hi16, if_neg (by rw [List.length_take]; omega)]
        rw [e0]
        unfold lkB
        exact decide_eq_false (by omega)) (enV ⟨((byE e / 8 % 4 : Nat) : Int), ((byE e % 8 : Nat) : Int), e.a⟩) (fun i _ => by
        unfold entN entS
        dsimp only
        rw [upd_same, upd_same]) hB
      rw [hup] at hE
      have hrow : tab 3 (enV ⟨((byE e / 8 % 4 : Nat) : Int), ((byE e % 8 : Nat) : Int), e.a⟩) = #[.int .i64 ((byE e / 8 % 4 : Nat) : Int), .int .i64 ((byE e % 8 : Nat) : Int), .int .u32 (e.a : Int)] := rfl
      have hone := enV_one ⟨((byE e / 8 % 4 : Nat) : Int), ((byE e % 8 : Nat) : Int), e.a⟩
      replace c0 : wr.cell? ⟨b, o + i * 3, none⟩ = some (.int .i64 e.w) := c0
      replace c1 : wr.cell? ⟨b, o + i * 3 + 1, none⟩ = some (.int .i64 e.r) := c1
      replace c2 : wr.cell? ⟨b, o + i * 3 + 2, none⟩ = some (.int .u32 (e.a : Int)) := c2
      have HE := Lib.hid hE
      have HW2 := Lib.hid HW
      have HO := Lib.hid OW
      clear hE hcc hSw hup HW OW hwf hbl
      generalize enV ⟨((byE e / 8 % 4 : Nat) : Int), ((byE e % 8 : Nat) : Int), e.a⟩ = v at *
      generalize byE e / 8 % 4 = qw at *
      generalize byE e % 8 = qr at *
      generalize byE e = y at *
      generalize e.w = ew at *
      generalize e.r = er at *
      generalize e.a = ea at *
      go_upto_region 8 with fail
      obtain ⟨wa, hwa, hX, hba, hsa⟩ := one_new wr #[.int .i64 ew, .int .i64 er, .int .u32 (ea : Int)] 38
      rw [← hwa]
      have HWa := HW2.out.after hba
      have OWa := HO.out.trans (Only.of_below (S := S1 g) hba)
      have hgX : wr.heap.size < wa.heap.size := by omega
      have HX := Lib.hid hX
      have HA := Lib.hid HWa
      have HOA := Lib.hid OWa
      clear hwa hsa c0 c1 c2 hba hX HWa OWa
      generalize wr.heap.size = gx at *
      refine region_quiet_tail (Below wa.heap.size wa) 10 (by kernel_rfl) (by kernel_rfl) (below_drewN (Below.refl _ _) 1) ?_
      simp only [List.take_succ_cons, List.take_zero, List.drop_succ_cons, List.drop_zero]
      refine wpQ_move _ rfl rfl (hP g) rfl ?_
      simp only [Act.put, List.setIfInBounds_toArray, List.set_cons_zero, List.set_cons_succ]
      refine wpQ_move _ rfl rfl (.int .i64 (i : Int)) rfl ?_
      simp only [Act.put, List.setIfInBounds_toArray, List.set_cons_zero, List.set_cons_succ]
      refine wpQ_val rfl (.agg #[.int .i64 ew, .int .i64 er, .int .u32 (ea : Int)]) (fun w' hC => by 
          have hXX := HX.out.after hC
          have q0 := hXX.cell 0
          have q1 := hXX.cell 1
          have q2 := hXX.cell 2
          go_simp) ?_
      simp only [Act.put, List.setIfInBounds_toArray, List.set_cons_zero, List.set_cons_succ]
      refine wpQ_fn 45 _ _ rfl rfl #[.agg #[.int .i64 ew, .int .i64 er, .int .u32 (ea : Int)]] rfl (fun _ => by go_simp) (.int .u8 (y : Int)) (fun w' hC => (kB w').mono fun e w'' ⟨he, hb⟩ => ⟨he, below_class hC hb⟩) ?_
      simp only [Act.put, List.setIfInBounds_toArray, List.set_cons_zero, List.set_cons_succ]
      refine wpQ_val rfl (.pointer (some ⟨gx, 2, none⟩)) (fun w' hC => by go_simp) ?_
      simp only [Act.put, List.setIfInBounds_toArray, List.set_cons_zero, List.set_cons_succ]
      refine wpQ_val rfl (.int .u32 (ea : Int)) (fun w' hC => by 
          have hXX := HX.out.after hC
          have q2 := hXX.cell 2
          go_simp) ?_
      simp only [Act.put, List.setIfInBounds_toArray, List.set_cons_zero, List.set_cons_succ]
      refine wpQ_fn 44 _ _ rfl rfl #[.int .u8 (y : Int), .int .u32 (ea : Int)] rfl (fun _ => by go_simp) (.agg #[.int .i64 (qw : Int), .int .i64 (qr : Int), .int .u32 (ea : Int)]) (fun w' hC => (kO w').mono fun e w'' ⟨he, hb⟩ => ⟨he, below_class hC hb⟩) ?_
      simp only [Act.put, List.setIfInBounds_toArray, List.set_cons_zero, List.set_cons_succ]
      refine wpQ_val rfl (hP g) (fun w' hC => by go_simp) ?_
      simp only [Act.put, List.setIfInBounds_toArray, List.set_cons_zero, List.set_cons_succ]
      refine wpQ_val rfl (.pointer (some ⟨g, 11, none⟩)) (fun w' hC => by go_simp) ?_
      simp only [Act.put, List.setIfInBounds_toArray, List.set_cons_zero, List.set_cons_succ]
      refine wpQ_val rfl (.pointer (some ⟨g, 11 + i * 3, none⟩)) (fun w' hC => by go_simp) ?_
      simp only [Act.put, List.setIfInBounds_toArray, List.set_cons_zero, List.set_cons_succ]
      refine wpQuiet_nil ?_
      intro w3 hC
      have H3 := HA.out.after hC
      have hB3 := H3.blk
      have HE3 := Lib.hid (HE.out w3 H3)
      have HC := Lib.hid hC
      clear hC H3
      go_wp2_with (
        refine wp_store_tab rfl 38 _ _ rfl g (11 + i * 3) rfl 3 v (congrArg Value.agg hrow.symm) 77 _ _ hB3 infoE (by omega) hone ?_
        intro w5 hB5 hg5
        go_frame)
      go_roundw
      case rel =>
        exact ⟨i + 1, hlt, by go_num, HE3.out _ hB5, HOA.out.trans ((Only.of_below (S := S1 g) HC.out).trans (Only.of_grown (S := S1 g) hg5 fun l e => by injection e with e; exact e.symm))⟩
      case measure => simp [intOf] <;> omega
    · obtain rfl : i = m := by omega
      have hin : ¬ (i : Int) < (i : Int) := by omega
      have HW2 := Lib.hid HW
      have HO := Lib.hid OW
      clear HW OW
      go_wp2_with fail
      go_ret
      refine ⟨rfl, ?_, HO.out⟩
      have h := HW2.out
      rw [List.take_of_length_le (by omega)] at h
      exact h
end Go.Proofs.YtgpofoggfifnjaaGreatDoor.Cs
namespace Go.Proofs.YtgpofoggfifnjaaGreatDoor.Cs
open Go Go.RowKit
open Go.Proofs.YtgpofoggfifnjaaGreatDoor.Pm (En Sl SlC SlE enV enV_one en0 TabT at_entry infoE rangeI rangeP retP range_any rng_w0)

theorem cut3 (n : Nat) (f : Nat → Value) (o : Nat) (h : o + 3 ≤ n) : (tab n f).extract o (o + 3) = #[f o, f (o + 1), f (o + 2)] := by
  apply Array.ext
  · simp only [Array.size_extract, tab_size]
    simp
    omega
  · intro i h1 h2
    have hi : i < 3 := by simpa using h2
    have hg := tab_get n f (o + i) (by omega)
    have e : ((tab n f).extract o (o + 3))[i]? = some (f (o + i)) := by
      rw [Array.getElem?_extract, if_pos (by rw [tab_size]; omega)]
      exact hg
    rw [Array.getElem?_eq_getElem h1] at e
    rw [Option.some.inj e]
    rcases (show i = 0 ∨ i = 1 ∨ i = 2 by omega) with rfl | rfl | rfl <;> rfl
theorem index39 (F : Nat → Value) (i : Nat) (hi : i < 16) (w : World) : (Instr.index 39 (.agg (tab 48 F)) (.int .i64 (i : Int))).run Tryz.prog w = .ok (.agg #[F (i * 3), F (i * 3 + 1), F (i * 3 + 2)]) w := by
  have hb := cut3 48 F (i * 3) (by omega)
  have h0 : (0 : Int) ≤ (i : Int) ∧ (i : Int) < 16 := by omega
  obtain ⟨d, hd, hs⟩ : ∃ d, Tryz.prog.info? 38 = some d ∧ d.size = 3 := by
    have := infoE
    cases hq : Tryz.prog.info? 38 with
    | none => rw [hq] at this; cases this
    | some d => rw [hq] at this; exact ⟨d, rfl, by simpa using this⟩
  simp [Instr.index, run_underlying Tryz.underlying39, run_underlying Tryz.underlying38, asIntOf, h0, part, isAgg, sizeOf, typeInfo, hd, hs, go_sem, hb]
  intro h
  exact absurd h (by omega)
theorem wp_load39 {w : World} {ops : Array Oper} {rest : List Oper} {op : Oper} {a : Act} {Q : Exit → Act → World → Prop} (hgd : op.guard = none) (x : Operand) (ho : op.op = .load 39 x)
    (b o : Nat) (hx : a.eval x = .pointer (some ⟨b, o, none⟩)) (f : Nat → Value) (hc : w.rangeAt b o ((List.range 48).map f)) (h : wpList Tryz.prog ops Q rest (a.put op.dst (.agg (tab 48 f))) w) : wpList Tryz.prog ops Q (op :: rest) a w :=
  wpList_load_mid hgd 39 x ho b o hx _ _ hc Tryz.underlying39 rfl (by simpa using size39) h
/-- the file's entries -/
def entL (s : St) : List En := (List.range 16).map (entN s)
theorem entL_at (s : St) (i : Nat) (hi : i < 16) : (entL s).getD i en0 = entN s i := by
  unfold entL
  rw [List.getD_eq_getElem?_getD, List.getElem?_map, List.getElem?_range hi]
  rfl
theorem entL_mem {s : St} {e : En} (h : e ∈ entL s) : ∃ i, i < 16 ∧ e = entN s i := by
  obtain ⟨i, hi, rfl⟩ := List.mem_map.1 h
  exact ⟨i, List.mem_range.1 hi, rfl⟩
theorem IsF.entries {w : World} {g : Nat} {s : St} (H : IsF w g s) : SlE w ⟨some ⟨g, 11, none⟩, 16, 16⟩ (entL s) := by
  refine ⟨by unfold entL; rw [List.length_map, List.length_range], ⟨⟨Nat.le_refl _, by dsimp only; omega⟩, fun _ => ⟨g, 11, rfl, H.lt, fun j i hj hi => ?_⟩⟩, fun e he => ?_⟩
  · show w.cell? ⟨g, 11 + j * 3 + i, none⟩ = some (enV ((entL s).getD j en0) i)
    rw [entL_at s j hj]
    exact H.ce j i hj hi
  · obtain ⟨i, hi, rfl⟩ := entL_mem he
    have h1 := H.inv.ok.cfg i
    unfold entN
    exact ⟨by unfold Pm.i64ok; dsimp only; omega, by unfold Pm.i64ok; dsimp only; omega, H.inv.ok.r _⟩
set_option maxRecDepth 100000 in
set_option maxHeartbeats 4000000 in
theorem machine_any (w : World) (g : Nat) (s : St) (a t r : Nat) (hT : TabT w) (H : IsF w g s) (h0 : ∀ k, s.cfg k = 0) (_ha : a < 4294967296) (_ht : t < 8589934592) (_hat : a ≤ t) (_hr : r ≤ 7) : Calls Tryz.prog 32 #[hP g, .int .u64 (a : Int), .int .u64 (t : Int), .int .i64 (r : Int)] w fun e w' => e = .returned (.bool true) ∧ Below w.heap.size w w' := by
  have hrg := H.blk.range 11 48 (by decide)
  have hix := fun (i : Nat) (hi : i < 16) W => index39 (fun j => fV s (11 + j)) i hi W
  have hF : ∀ i, i < 16 → fV s (11 + i * 3) = .int .i64 0 ∧ fV s (11 + (i * 3 + 1)) = .int .i64 0 ∧ fV s (11 + (i * 3 + 2)) = .int .u32 (s.r (944 + i) : Int) := fun i hi => by
    have e := fV_e s i
    have e0 := e 0 hi (by decide)
    have e1 := e 1 hi (by decide)
    have e2 := e 2 hi (by decide)
    rw [Nat.add_zero] at e0
    rw [show 11 + (i * 3 + 1) = 11 + i * 3 + 1 by omega, show 11 + (i * 3 + 2) = 11 + i * 3 + 2 by omega, e0, e1, e2]
    unfold entN
    rw [h0 i]
    exact ⟨rfl, rfl, rfl⟩
  have hR : ∀ i, rangeI (entL s) i = (0, 0) ∨ 16 ≤ i := fun i => by
    by_cases hi : i < 16
    · refine Or.inl ?_
      unfold rangeI
      have e : (entN s i).w = 0 := by unfold entN; rw [h0 i]; rfl
      rw [entL_at s i hi]
      exact rng_w0 (by rw [e]; decide) (by rw [e]; decide) (by rw [e]; decide)
    · exact Or.inr (by omega)
  have HF := Lib.hid hF
  have HR := Lib.hid hR
  have HIX := Lib.hid hix
  have HH := Lib.hid H
  have HT := Lib.hid hT
  clear hF hR H hT hix
  have ha0 : (0 : Int) ≤ (a : Int) := by omega
  have ht0 : (0 : Int) ≤ (t : Int) := by omega
  generalize (fun j => fV s (11 + j)) = Fv at *
  go_enter Tryz.func32, Tryz.ntmps32
  go_upto_region 2 with (refine wp_load39 rfl _ rfl g 11 rfl Fv hrg ?_; go_frame)
  go_loopw [17] (fun ct wr => ∃ i : Nat, i ≤ 16 ∧ ct = .int .i64 (i : Int) ∧ Below w.heap.size w wr) (fun ct _ => (16 - (intOf ct)).toNat)
  case atStart => exact ⟨0, Nat.zero_le _, rfl, Below.refl _ _⟩
  case round =>
    obtain ⟨i, hi, rfl, hb⟩ := hrel
    by_cases hlt : i < 16
    · have hin : (i : Int) < 16 := by omega
      obtain ⟨f0, f1, f2⟩ := HF.out i hlt
      have hx := fun W => HIX.out i hlt W
      rw [f0, f1, f2] at hx
      have HB := Lib.hid hb
      generalize s.r (944 + i) = ea at *
      clear f0 f1 f2 hb
      go_upto_region 4 with fail
      obtain ⟨wa, hwa, hX, hba, hsa⟩ := one_new wr #[.int .i64 0, .int .i64 0, .int .u32 (ea : Int)] 38
      rw [← hwa]
      have hbwa := HB.out.trans (hba.mono HB.out.size)
      have hI := HH.out.after hbwa
      have kR := range_any (entL s) ⟨some ⟨g, 11, none⟩, 16, 16⟩ i wa (HT.out.below hbwa) hI.entries hlt
      rw [(HR.out i).resolve_right (by omega)] at kR
      replace kR : Calls Tryz.prog 58 #[.slice (some ⟨g, 11, none⟩) 16 16, .int .i64 (i : Int)] wa (retP 0 0 wa) := kR
      unfold retP at kR
      have HBA := Lib.hid hbwa
      clear hwa hsa hX hba hI hx hbwa
      go_wp2_with (go_at_call 58; refine kR.mono ?_; rintro e w2 ⟨rfl, hb2⟩)
      exact ⟨⟨i + 1, hlt, by go_num, HBA.out.trans (hb2.mono HBA.out.size)⟩, by simp [intOf] <;> omega⟩
    · obtain rfl : i = 16 := by omega
      have HB := Lib.hid hb
      clear hb
      go_wp2_with fail
      go_ret
      exact ⟨rfl, HB.out⟩
set_option maxRecDepth 100000 in
set_option maxHeartbeats 2000000 in
theorem mayM_any (w : World) (g : Nat) (s : St) (a n r : Nat) (hT : TabT w) (H : IsF w g s) (hm : s.mode = 3) (h0 : ∀ k, s.cfg k = 0) (ha : a < 4294967296) (hn1 : 1 ≤ n) (hn8 : n ≤ 8) (hr : r ≤ 7) : Calls Tryz.prog 13 #[hP g, .int .u32 (a : Int), .int .i64 (n : Int), .int .i64 (r : Int)] w fun e w' => e = .returned (.bool true) ∧ Below w.heap.size w w' := by
  have c0 : w.cell? ⟨g, 0, none⟩ = some (.int .i64 (s.mode : Int)) := H.blk.cellTab 0 (by decide)
  rw [hm] at c0
  replace c0 : w.cell? ⟨g, 0, none⟩ = some (.int .i64 3) := c0
  have kM := machine_any w g s a (a + n) r hT H h0 ha (by omega) (by omega) hr
  obtain ⟨t, ht⟩ : ∃ t, t = a + n := ⟨_, rfl⟩
  rw [← ht] at kM
  have e1 : (a : Int) + (n : Int) = (t : Int) := by omega
  have hnI : ¬ (n : Int) < 1 := by omega
  have hn9 : (n : Int) < 9 := by omega
  have htl : (t : Int) < 4294967304 := by omega
  clear ht H hT h0 hm
  go_enter Tryz.func13, Tryz.ntmps13
  go_wp2_with (go_at_call 32; with_reducible refine kM.mono ?_; rintro e w2 ⟨rfl, hb⟩)
  go_ret
  exact ⟨rfl, hb⟩
/-- package csr answers what the laws ask of it -/
theorem csr_ok : CsrOK IsF where
  lt := fun h => h.lt
  ok := fun h => h.inv.ok
  keep := fun h k hg => ⟨k.has h.blk hg, h.inv⟩
  mode := fun h => ⟨h.blk.cellTab 0 (by decide), h.blk.free 0⟩
  setMode := fun m h hm => h.modeS m hm
  new := cnew_any
  write := fun w g s n x h hn hx => cwrite_any w g s n x h hn hx
  read := fun w g s n h hn => cread_any w g s n h hn
  due := fun w g s h => cdue_any w g s h
  timer := fun w g s b h => ctimer_any w g s b h
  tick := fun w g s b h => ctick_any w g s b h
  trap := fun w g s pc ca tv h h1 h2 h3 => ctrap_any w g s pc ca tv h h1 h2 h3
  back := fun w g s h => cback_any w g s h
  protect := fun w g s l q h hS hne => cprotect_any w g s l q.A q.n q.c h hS hne
  may1 := fun w g s hT h hm h0 => mayM_any w g s 0 4 4 hT h hm h0 (by decide) (by decide) (by decide) (by decide)
end Go.Proofs.YtgpofoggfifnjaaGreatDoor.Cs
