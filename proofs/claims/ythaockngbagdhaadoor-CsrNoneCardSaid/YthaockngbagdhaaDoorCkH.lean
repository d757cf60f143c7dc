/-
Layer 15: what a file that is none answers; package csr's Protect.
-/
import Derived.Test.YthaockngbagdhaaDoorCkG
import Derived.Test.YthaockngbagdhaaDoorCsK
namespace Go.Proofs.YthaockngbagdhaaDoor.Cs
open Go Go.RowKit
open Go.Proofs.YthaockngbagdhaaDoor.Pm (En Sl SlC SlE enV enV_one en0 TabT at_entry infoE of_any)

set_option maxRecDepth 100000 in
set_option maxHeartbeats 1000000 in
theorem nwrite (w : World) (n x : Nat) : Calls Tryd.prog 16 #[.pointer none, .int .u32 (n : Int), .int .u32 (x : Int)] w fun e w' => e = .returned (.bool false) ∧ Below w.heap.size w w' := by
  go_enter Tryd.func16, Tryd.ntmps16
  go_wp2_with fail
  go_ret
  exact ⟨rfl, Below.refl _ _⟩
set_option maxRecDepth 100000 in
set_option maxHeartbeats 1000000 in
theorem nread (w : World) (n : Nat) : Calls Tryd.prog 10 #[.pointer none, .int .u32 (n : Int)] w fun e w' => e = .returned (.tuple #[.int .u32 0, .bool false]) ∧ Below w.heap.size w w' := by
  go_enter Tryd.func10, Tryd.ntmps10
  go_wp2_with fail
  go_ret2
  exact ⟨rfl, Below.refl _ _⟩
set_option maxRecDepth 100000 in
set_option maxHeartbeats 1000000 in
theorem ndue (w : World) : Calls Tryd.prog 11 #[.pointer none] w fun e w' => e = .returned (.bool false) ∧ Below w.heap.size w w' := by
  go_enter Tryd.func11, Tryd.ntmps11
  go_upto_region 1 with fail
  go_quiet (fail)
  go_wp2_with fail
  go_ret
  exact ⟨rfl, below_drewN (Below.refl _ _) _⟩
set_option maxRecDepth 100000 in
set_option maxHeartbeats 1000000 in
theorem ntimer (w : World) : Calls Tryd.prog 14 #[.pointer none, .bool true] w fun e w' => e = .returned (.tuple #[]) ∧ Below w.heap.size w w' := by
  go_enter Tryd.func14, Tryd.ntmps14
  go_wp2_with fail
  first | go_end0 | refine bodyPost_ret (results_none rfl _ _ _) rfl ?_
  exact ⟨rfl, Below.refl _ _⟩
set_option maxRecDepth 100000 in
set_option maxHeartbeats 1000000 in
theorem ntick (w : World) : Calls Tryd.prog 15 #[.pointer none, .bool true] w fun e w' => e = .returned (.tuple #[]) ∧ Below w.heap.size w w' := by
  go_enter Tryd.func15, Tryd.ntmps15
  go_wp2_with fail
  first | go_end0 | refine bodyPost_ret (results_none rfl _ _ _) rfl ?_
  exact ⟨rfl, Below.refl _ _⟩
set_option maxRecDepth 100000 in
set_option maxHeartbeats 1000000 in
theorem nmay (w : World) (n : Nat) : Calls Tryd.prog 17 #[.pointer none, .int .u32 (n : Int)] w fun e w' => e = .returned (.bool false) ∧ Below w.heap.size w w' := by
  go_enter Tryd.func17, Tryd.ntmps17
  go_wp2_with fail
  go_ret
  exact ⟨rfl, Below.refl _ _⟩
set_option maxRecDepth 100000 in
set_option maxHeartbeats 1000000 in
theorem ntrap (w : World) (a b c : Nat) : Calls Tryd.prog 12 #[.pointer none, .int .u32 (a : Int), .int .u32 (b : Int), .int .u32 (c : Int)] w fun e w' => e = .returned (.int .u32 0) ∧ Below w.heap.size w w' := by
  go_enter Tryd.func12, Tryd.ntmps12
  go_wp2_with fail
  go_ret
  exact ⟨rfl, Below.refl _ _⟩
set_option maxRecDepth 100000 in
set_option maxHeartbeats 1000000 in
theorem nback (w : World) : Calls Tryd.prog 13 #[.pointer none] w fun e w' => e = .returned (.int .u32 0) ∧ Below w.heap.size w w' := by
  go_enter Tryd.func13, Tryd.ntmps13
  go_wp2_with fail
  go_ret
  exact ⟨rfl, Below.refl _ _⟩
set_option maxRecDepth 100000 in
set_option maxHeartbeats 1000000 in
theorem nentries (w : World) : Calls Tryd.prog 18 #[.pointer none] w fun e w' => (∃ A c, e = .returned (.slice A 0 c)) ∧ Below w.heap.size w w' := by
  go_enter Tryd.func18, Tryd.ntmps18
  go_wp2_with fail
  go_ret
  exact ⟨⟨_, _, rfl⟩, Below.refl _ _⟩
set_option maxRecDepth 100000 in
set_option maxHeartbeats 1000000 in
theorem nprotect (w : World) (A : Option Addr) (n c : Nat) : Calls Tryd.prog 19 #[.pointer none, .slice A n c] w fun e w' => e = .returned (.int .i64 1) ∧ Below w.heap.size w w' := by
  go_enter Tryd.func19, Tryd.ntmps19
  go_wp2_with fail
  go_ret
  exact ⟨rfl, Below.refl _ _⟩
set_option maxRecDepth 100000 in
set_option maxHeartbeats 1000000 in
theorem nmay1 (w : World) (n : Nat) : Calls Tryd.prog 20 #[.pointer none, .int .u32 (n : Int), .int .i64 1, .int .i64 1] w fun e w' => e = .returned (.bool false) ∧ Below w.heap.size w w' := by
  go_enter Tryd.func20, Tryd.ntmps20
  go_wp2_with fail
  go_ret
  exact ⟨rfl, Below.refl _ _⟩
theorem csr_nil : CsrNil where
  write := nwrite
  read := nread
  due := ndue
  timer := ntimer
  tick := ntick
  may := nmay
  trap := ntrap
  back := nback
  entries := nentries
  protect := fun w q => nprotect w q.A q.n q.c
  may1 := nmay1
theorem mask7 (z : Int) : bits .and .i64 z 7 = z % 8 := by
  have h := i64_and_mask z 3 (by omega)
  rw [show ((2 ^ 3 - 1 : Nat) : Int) = 7 from rfl] at h
  rw [h]
  have : ((2 ^ 3 : Nat) : Int) = 8 := rfl
  omega
theorem mask3 (z : Int) : bits .and .i64 z 3 = z % 4 := by
  have h := i64_and_mask z 2 (by omega)
  rw [show ((2 ^ 2 - 1 : Nat) : Int) = 3 from rfl] at h
  rw [h]
  have : ((2 ^ 2 : Nat) : Int) = 4 := rfl
  omega
set_option maxRecDepth 100000 in
set_option maxHeartbeats 1000000 in
theorem byteE_any (e : En) (w : World) (he : e.Wf) : Calls Tryd.prog 38 #[.agg #[.int .i64 e.w, .int .i64 e.r, .int .u32 (e.a : Int)]] w fun x w' => x = .returned (.int .u8 ((byE e : Nat) : Int)) ∧ Below w.heap.size w w' := by
  have k1 := mask7 e.r
  have k2 := mask3 e.w
  have hr := he.r
  obtain ⟨R, hR⟩ : ∃ R : Nat, R = (e.r % 8).toNat := ⟨_, rfl⟩
  obtain ⟨W, hW⟩ : ∃ W : Nat, W = (e.w % 4).toNat := ⟨_, rfl⟩
  have e1 : e.r % 8 = (R : Int) := by omega
  have e2 : e.w % 4 = (W : Int) := by omega
  rw [e1] at k1
  rw [e2] at k2
  have hRl : (R : Int) < 8 := by omega
  have hWl : (W : Int) < 4 := by omega
  unfold byE
  rw [← hR, ← hW]
  generalize e.r = er at *
  generalize e.w = ew at *
  clear hR hW e1 e2 hr
  go_enter Tryd.func38, Tryd.ntmps38
  go_wp2_with fail
  go_ret
  refine ⟨?_, (Below.refl _ w).alloc (Nat.le_refl _) _⟩
  rw [show (R : Int) + (W : Int) * 8 = ((R + W * 8 : Nat) : Int) by omega]
  rfl
def zE (j : Nat) : Value := enV en0 (j % 3)
theorem zE_one (j : Nat) : (zE j).oneCell' = true := enV_one _ _
def zL (_ : Nat) : Value := .bool false
theorem zrow39 : (Tryd.prog.info? 39).map (fun i => (i.zero, i.size)) = some (some (.agg (tab 48 zE)), 48) := by kernel_rfl
theorem zrow40 : (Tryd.prog.info? 40).map (fun i => (i.zero, i.size)) = some (some (.agg (tab 16 zL)), 16) := by kernel_rfl
theorem size39 : (Tryd.prog.info? 39).map (·.size) = some 48 := by kernel_rfl
theorem size40 : (Tryd.prog.info? 40).map (·.size) = some 16 := by kernel_rfl
/-- both tables are struck -/
theorem struck (s : St) (j : Nat) : (if 59 ≤ j ∧ j < 59 + 16 then zL (j - 59) else (if 11 ≤ j ∧ j < 11 + 48 then zE (j - 11) else fV s j)) = fV (protC s []) j := by
  by_cases h1 : 59 ≤ j ∧ j < 59 + 16
  · rw [if_pos h1]
    obtain ⟨k, rfl⟩ : ∃ k, j = 59 + k := ⟨j - 59, by omega⟩
    rw [fV_l _ k (by omega)]
    unfold zL protC
    dsimp only
    unfold prG
    rw [if_pos (by omega), if_neg (by simp)]
    rfl
  rw [if_neg h1]
  by_cases h2 : 11 ≤ j ∧ j < 11 + 48
  · rw [if_pos h2]
    obtain ⟨k, i, hi, rfl⟩ : ∃ k i, i < 3 ∧ j = 11 + k * 3 + i := ⟨(j - 11) / 3, (j - 11) % 3, by omega, by omega⟩
    rw [fV_e _ k i (by omega) hi]
    unfold zE entN protC
    dsimp only
    unfold prG prR
    rw [if_pos (by omega), if_neg (by simp), if_pos (by omega), if_neg (by simp), show (11 + k * 3 + i - 11) % 3 = i by omega]
    rfl
  rw [if_neg h2]
  unfold fV protC
  dsimp only
  have e768 : prR [] s.r 16 768 = s.r 768 := by unfold prR; rw [if_neg (by omega)]
  have eL : ∀ i, 4 ≤ i → i < 11 → prR [] s.r 16 (regL i) = s.r (regL i) := fun i h4 hi => by
    have := (regL_768 i h4 hi).2
    unfold prR
    rw [if_neg]
    intro h
    exact this (regL i - 944) (by omega)
  split
  · rfl
  split
  · rw [e768]
  split
  · rw [eL j (by omega) (by omega)]
  split
  · omega
  split
  · omega
  · rfl
theorem inv_prot {s : St} (I : Inv s) (l : List En) (hl : ∀ e ∈ l, e.Wf) : Inv (protC s l) := by
  have e : ∀ x, x < 944 → (protC s l).r x = s.r x := fun x hx => by show prR l s.r 16 x = _; unfold prR; rw [if_neg (by omega)]
  exact ⟨protC_ok s I.ok l hl, by rw [e 768 (by decide)]; exact I.st, by rw [e 772 (by decide)]; exact I.en, by rw [e 836 (by decide)]; exact I.pe⟩
theorem prot_up (s : St) (l : List En) (i : Nat) (hi : i < l.length) (h16 : i < 16) : entS (protC s (l.take i)) i (byE (l.getD i en0)) (l.getD i en0).a = protC s (l.take (i + 1)) := by
  have hg : ∀ k, k ≤ i → (l.take (i + 1)).getD k en0 = l.getD k en0 := fun k hk => by
    rw [List.getD_eq_getElem?_getD, List.getD_eq_getElem?_getD, List.getElem?_take_of_lt (by omega)]
  have hg2 : ∀ k, k < i → (l.take i).getD k en0 = l.getD k en0 := fun k hk => by
    rw [List.getD_eq_getElem?_getD, List.getD_eq_getElem?_getD, List.getElem?_take_of_lt (by omega)]
  have h1 : (l.take i).length = i := by rw [List.length_take]; omega
  have h2 : (l.take (i + 1)).length = i + 1 := by rw [List.length_take]; omega
  unfold entS protC
  dsimp only
  have hc : upd (prG (l.take i) s.cfg 16) i (byE (l.getD i en0)) = prG (l.take (i + 1)) s.cfg 16 := by
    funext k
    unfold upd prG
    rw [h1, h2]
    by_cases e : k = i
    · subst e
      rw [if_pos rfl, if_pos h16, if_pos (by omega), hg k (Nat.le_refl _)]
    · rw [if_neg e]
      by_cases h : k < 16
      · rw [if_pos h, if_pos h]
        by_cases hk : k < i
        · rw [if_pos hk, if_pos (by omega), hg k (by omega), hg2 k hk]
        · rw [if_neg hk, if_neg (by omega)]
      · rw [if_neg h, if_neg h]
  have hr : upd (prR (l.take i) s.r 16) (944 + i) (l.getD i en0).a = prR (l.take (i + 1)) s.r 16 := by
    funext x
    unfold upd prR
    rw [h1, h2]
    by_cases e : x = 944 + i
    · subst e
      rw [if_pos rfl, if_pos (by omega), if_pos (by omega), show 944 + i - 944 = i by omega, hg i (Nat.le_refl _)]
    · rw [if_neg e]
      by_cases h : 944 ≤ x ∧ x < 944 + 16
      · rw [if_pos h, if_pos h]
        by_cases hk : x - 944 < i
        · rw [if_pos hk, if_pos (by omega), hg _ (by omega), hg2 _ hk]
        · rw [if_neg hk, if_neg (by omega)]
      · rw [if_neg h, if_neg h]
  rw [hc, hr]
theorem at_ei (g k : Nat) (hk : (k : Int) < 16) (w : World) : (Instr.indexAt 39 (.pointer (some ⟨g, 11, none⟩)) (.int .i64 (k : Int))).run Tryd.prog w = .ok (.pointer (some ⟨g, 11 + k * 3, none⟩)) w := by
  have h2 := Addr.add_mid g 11 (k * 3)
  go_simp
set_option maxRecDepth 100000 in
set_option maxHeartbeats 8000000 in
theorem cprotect_any (w : World) (g : Nat) (s : St) (l : List En) (A : Option Addr) (m c : Nat) (H : IsF w g s) (hS : SlE w ⟨A, m, c⟩ l) (hne : ∀ b o, A = some ⟨b, o, none⟩ → 0 < m → b ≠ g) : Calls Tryd.prog 19 #[hP g, .slice A m c] w fun e w' => e = .returned (.int .i64 (if 16 < m then 1 else 0)) ∧ IsF w' g (if 16 < m then s else protC s l) ∧ Only (S1 g) w w' := by
  have hlen : l.length = m := hS.1
  by_cases h16 : 16 < m
  · have d16 : (16 : Int) < (m : Int) := by omega
    rw [if_pos h16, if_pos h16]
    have HH := Lib.hid H
    clear hS H hne
    go_enter Tryd.func19, Tryd.ntmps19
    go_wp2_with fail
    go_ret
    exact ⟨rfl, HH.out, Only.refl _ _⟩
  have d16 : ¬ (16 : Int) < (m : Int) := by omega
  rw [if_neg h16, if_neg h16]
  have hz39 := fun W => (zero_of_info zrow39).1 W
  have hz40 := fun W => (zero_of_info zrow40).1 W
  have hn39 : (tab 48 zE = #[]) = False := eq_false fun h => by
    have := congrArg Array.size h
    rw [tab_size] at this
    exact absurd this (by decide)
  have hn40 : (tab 16 zL = #[]) = False := eq_false fun h => by
    have := congrArg Array.size h
    rw [tab_size] at this
    exact absurd this (by decide)
  have HS := Lib.hid hS
  have HI := Lib.hid H.inv
  have hB := H.blk
  have HNE := Lib.hid hne
  clear H hS hne
  go_enter Tryd.func19, Tryd.ntmps19
  go_upto_region 4 with (
    refine wp_store_tab rfl 39 _ _ rfl g 11 rfl 48 zE rfl 77 _ _ hB size39 (by decide) zE_one ?_
    intro w1 hB1 hg1
    go_frame)
  clear hB
  go_upto_region 5 with (
    refine wp_store_tab rfl 40 _ _ rfl g 59 rfl 16 zL rfl 77 _ _ hB1 size40 (by decide) (fun _ => rfl) ?_
    intro w2 hB2 hg2
    go_frame)
  clear hB1 hz39 hz40 hn39 hn40
  have H2 : IsF w2 g (protC s []) := by
    refine ⟨?_, inv_prot HI.out [] (fun _ h => by cases h)⟩
    rw [tab_ext _ _ (fV (protC s []))] at hB2
    · exact hB2
    · intro j _
      exact struck s j
  have O2 : Only (S1 g) w w2 := (Only.of_grown (S := S1 g) hg1 fun l e => by injection e with e; exact e.symm).trans (Only.of_grown (S := S1 g) hg2 fun l e => by injection e with e; exact e.symm)
  clear hB2 hg1 hg2
  go_wp2_with fail
  go_loopw [24] (fun ct wr => ∃ i : Nat, i ≤ m ∧ ct = .int .i64 (i : Int) ∧ IsF wr g (protC s (l.take i)) ∧ Only (S1 g) w wr) (fun ct _ => (m - (intOf ct)).toNat)
  case atStart => exact ⟨0, Nat.zero_le _, rfl, by rw [List.take_zero]; exact H2, O2⟩
  case round =>
    obtain ⟨i, hi, rfl, HW, OW⟩ := hrel
    by_cases hlt : i < m
    · have hin : (i : Int) < (m : Int) := by omega
      have hi16 : i < 16 := by omega
      have di : (i : Int) < 16 := by omega
      have hSw := slE_only HS.out OW (fun b o e h0 => HNE.out b o e h0)
      obtain ⟨b, o, hA, hlb, hcc⟩ := hSw.2.1.2 (show 0 < m by omega)
      dsimp only at hA
      subst hA
      have c0 := hcc i 0 hlt (by omega)
      have c1 := hcc i 1 hlt (by omega)
      have c2 := hcc i 2 hlt (by omega)
      have hwf := hSw.wf hlt
      have hup := prot_up s l i (by omega) hi16
      have hat := at_entry b o m c i hin
      have hei := fun W => at_ei g i di W
      dsimp only at c0 c1 c2
      generalize l.getD i en0 = e at *
      have kB := fun W => byteE_any e W hwf
      have kO := fun W => of_any (byE e) e.a W (by have := byE_lt e; omega) hwf.a
      have hbl := byE_lt e
      have hE := fun w1 (h1 : IsF w1 g (protC s (l.take i))) (w' : World) hB => h1.ent (w' := w') i (byE e) e.a hi16 hwf.a (by omega) (by omega) (by
        have e0 : (protC s (l.take i)).cfg i = 0 := by
          show prG _ _ _ _ = _
          unfold prG
          rw [if_pos hi16, if_neg (by rw [List.length_take]; omega)]
        rw [e0]
        unfold lkB
        exact decide_eq_false (by omega)) (enV ⟨((byE e / 8 % 4 : Nat) : Int), ((byE e % 8 : Nat) : Int), e.a⟩) (fun i _ => by
        unfold entN entS
        dsimp only
        rw [upd_same, upd_same]) hB
      rw [hup] at hE
      have hrow : tab 3 (enV ⟨((byE e / 8 % 4 : Nat) : Int), ((byE e % 8 : Nat) : Int), e.a⟩) = #[.int .i64 ((byE e / 8 % 4 : Nat) : Int), .int .i64 ((byE e % 8 : Nat) : Int), .int .u32 (e.a : Int)] := rfl
      have hone := enV_one ⟨((byE e / 8 % 4 : Nat) : Int), ((byE e % 8 : Nat) : Int), e.a⟩
      replace c0 : wr.cell? ⟨b, o + i * 3, none⟩ = some (.int .i64 e.w) := c0
      replace c1 : wr.cell? ⟨b, o + i * 3 + 1, none⟩ = some (.int .i64 e.r) := c1
      replace c2 : wr.cell? ⟨b, o + i * 3 + 2, none⟩ = some (.int .u32 (e.a : Int)) := c2
      have HE := Lib.hid hE
      have HW2 := Lib.hid HW
      have HO := Lib.hid OW
      clear hE hcc hSw hup HW OW hwf hbl
      generalize enV ⟨((byE e / 8 % 4 : Nat) : Int), ((byE e % 8 : Nat) : Int), e.a⟩ = v at *
      generalize byE e / 8 % 4 = qw at *
      generalize byE e % 8 = qr at *
      generalize byE e = y at *
      generalize e.w = ew at *
      generalize e.r = er at *
      generalize e.a = ea at *
      go_upto_region 8 with fail
      obtain ⟨wa, hwa, hX, hba, hsa⟩ := one_new wr #[.int .i64 ew, .int .i64 er, .int .u32 (ea : Int)] 38
      rw [← hwa]
      have HWa := HW2.out.after hba
      have OWa := HO.out.trans (Only.of_below (S := S1 g) hba)
      have hgX : wr.heap.size < wa.heap.size := by omega
      have HX := Lib.hid hX
      have HA := Lib.hid HWa
      have HOA := Lib.hid OWa
      clear hwa hsa c0 c1 c2 hba hX HWa OWa
      generalize wr.heap.size = gx at *
      refine region_quiet_tail (Below wa.heap.size wa) 10 (by kernel_rfl) (by kernel_rfl) (below_drewN (Below.refl _ _) 1) ?_
      simp only [List.take_succ_cons, List.take_zero, List.drop_succ_cons, List.drop_zero]
      refine wpQ_move _ rfl rfl (hP g) rfl ?_
      simp only [Act.put, List.setIfInBounds_toArray, List.set_cons_zero, List.set_cons_succ]
      refine wpQ_move _ rfl rfl (.int .i64 (i : Int)) rfl ?_
      simp only [Act.put, List.setIfInBounds_toArray, List.set_cons_zero, List.set_cons_succ]
      refine wpQ_val rfl (.agg #[.int .i64 ew, .int .i64 er, .int .u32 (ea : Int)]) (fun w' hC => by 
          have hXX := HX.out.after hC
          have q0 := hXX.cell 0
          have q1 := hXX.cell 1
          have q2 := hXX.cell 2
          go_simp) ?_
      simp only [Act.put, List.setIfInBounds_toArray, List.set_cons_zero, List.set_cons_succ]
      refine wpQ_fn 38 _ _ rfl rfl #[.agg #[.int .i64 ew, .int .i64 er, .int .u32 (ea : Int)]] rfl (fun _ => by go_simp) (.int .u8 (y : Int)) (fun w' hC => (kB w').mono fun e w'' ⟨he, hb⟩ => ⟨he, below_class hC hb⟩) ?_
      simp only [Act.put, List.setIfInBounds_toArray, List.set_cons_zero, List.set_cons_succ]
      refine wpQ_val rfl (.pointer (some ⟨gx, 2, none⟩)) (fun w' hC => by go_simp) ?_
      simp only [Act.put, List.setIfInBounds_toArray, List.set_cons_zero, List.set_cons_succ]
      refine wpQ_val rfl (.int .u32 (ea : Int)) (fun w' hC => by 
          have hXX := HX.out.after hC
          have q2 := hXX.cell 2
          go_simp) ?_
      simp only [Act.put, List.setIfInBounds_toArray, List.set_cons_zero, List.set_cons_succ]
      refine wpQ_fn 37 _ _ rfl rfl #[.int .u8 (y : Int), .int .u32 (ea : Int)] rfl (fun _ => by go_simp) (.agg #[.int .i64 (qw : Int), .int .i64 (qr : Int), .int .u32 (ea : Int)]) (fun w' hC => (kO w').mono fun e w'' ⟨he, hb⟩ => ⟨he, below_class hC hb⟩) ?_
      simp only [Act.put, List.setIfInBounds_toArray, List.set_cons_zero, List.set_cons_succ]
      refine wpQ_val rfl (hP g) (fun w' hC => by go_simp) ?_
      simp only [Act.put, List.setIfInBounds_toArray, List.set_cons_zero, List.set_cons_succ]
      refine wpQ_val rfl (.pointer (some ⟨g, 11, none⟩)) (fun w' hC => by go_simp) ?_
      simp only [Act.put, List.setIfInBounds_toArray, List.set_cons_zero, List.set_cons_succ]
      refine wpQ_val rfl (.pointer (some ⟨g, 11 + i * 3, none⟩)) (fun w' hC => by go_simp) ?_
      simp only [Act.put, List.setIfInBounds_toArray, List.set_cons_zero, List.set_cons_succ]
      refine wpQuiet_nil ?_
      intro w3 hC
      have H3 := HA.out.after hC
      have hB3 := H3.blk
      have HE3 := Lib.hid (HE.out w3 H3)
      have HC := Lib.hid hC
      clear hC H3
      go_wp2_with (
        refine wp_store_tab rfl 38 _ _ rfl g (11 + i * 3) rfl 3 v (congrArg Value.agg hrow.symm) 77 _ _ hB3 infoE (by omega) hone ?_
        intro w5 hB5 hg5
        go_frame)
      go_roundw
      case rel =>
        exact ⟨i + 1, hlt, by go_num, HE3.out _ hB5, HOA.out.trans ((Only.of_below (S := S1 g) HC.out).trans (Only.of_grown (S := S1 g) hg5 fun l e => by injection e with e; exact e.symm))⟩
      case measure => simp [intOf] <;> omega
    · obtain rfl : i = m := by omega
      have hin : ¬ (i : Int) < (i : Int) := by omega
      have HW2 := Lib.hid HW
      have HO := Lib.hid OW
      clear HW OW
      go_wp2_with fail
      go_ret
      refine ⟨rfl, ?_, HO.out⟩
      have h := HW2.out
      rw [List.take_of_length_le (by omega)] at h
      exact h
end Go.Proofs.YthaockngbagdhaaDoor.Cs
