/-
Package reloc: target, distance, inSpan, valid.
-/
import Derived.Test.YtegaiphhoinilaaRkA
import Derived.Test.YtegaiphhoinilaaJaA
namespace Go.Proofs.Ytegaiphhoinilaa.Rc
open Go Go.RowKit

theorem load_all {w : World} {g : Nat} {t : TypeId} {cs : Array Value} {fs : Array Field} (h : Has w g t cs) (hu : Try.prog.underlying t = some (.struct fs)) (hi : (Try.prog.info? t).map (·.size) = some cs.size) : (Instr.loadAt t (.pointer (some ⟨g, 0, none⟩))).run Try.prog w = .ok (.agg cs) w := by
  have hr : w.rangeAt g 0 cs.toList := fun i v hv => by
    rw [Nat.zero_add]
    have hi : i < cs.size := by have := (List.getElem?_eq_some_iff.1 hv).1; simpa using this
    have := h.cell i
    rw [this]
    simpa using hv
  have h2 := run_loadAt_mid w g 0 t cs.toList _ hr hu rfl (by simpa using hi)
  simpa using h2
theorem load_prog {w : World} {g en B : Nat} {sg rl sy sp : Sl} (h : Has w g 64 (prC en B sg rl sy sp)) : (Instr.loadAt 64 (.pointer (some ⟨g, 0, none⟩))).run Try.prog w = .ok (.agg (prC en B sg rl sy sp)) w :=
  load_all h Try.underlying64 (by kernel_rfl)
theorem load_rela {w : World} {g : Nat} {r : Re} (h : Has w g 43 (reC r)) : (Instr.loadAt 43 (.pointer (some ⟨g, 0, none⟩))).run Try.prog w = .ok (.agg (reC r)) w :=
  load_all h Try.underlying43 (by kernel_rfl)
set_option maxRecDepth 100000 in
set_option maxHeartbeats 4000000 in
theorem target_any (ss : List Nat) (en B : Nat) (sg rl sy sp : Sl) (r : Re) (w : World) (hS : SlN w sy ss) (hr : r.Wf) (_hB : B < 4294967296) :
    Calls Try.prog 53 #[.agg (prC en B sg rl sy sp), .agg (reC r)] w fun e w' => e = .returned (.int .u32 ((saP ss B r : Nat) : Int)) ∧ Below w.heap.size w w' := by
  obtain ⟨u, hu, hP, hR, hb, hz⟩ := two_new w en B sg rl sy sp r
  obtain ⟨p, t, s, a⟩ := r
  obtain ⟨A1, n1, c1⟩ := sg
  obtain ⟨A2, n2, c2⟩ := rl
  obtain ⟨A, m, c⟩ := sy
  obtain ⟨A4, n4, c4⟩ := sp
  have c3 : u.cell? ⟨w.heap.size, 3, none⟩ = some (.slice A m c) := hP.cell 3
  have c4 : u.cell? ⟨w.heap.size, 4, none⟩ = some (.int .u32 (B : Int)) := hP.cell 4
  have r2 : u.cell? ⟨w.heap.size + 1, 2, none⟩ = some (.int .i64 s) := hR.cell 2
  have r3 : u.cell? ⟨w.heap.size + 1, 3, none⟩ = some (.int .u32 (a : Int)) := hR.cell 3
  have hS2 := hS.below hb
  have hm : ss.length = m := hS.1
  have ha : a < 4294967296 := hr.a
  clear hP hR hz hS
  have HB := Lib.hid hb
  clear hb
  by_cases h0 : s ≤ 0
  · have e0 : saP ss B ⟨p, t, s, a⟩ = a := by
      unfold saP
      rw [show symP ss B s = 0 from if_pos (Or.inl h0)]
      show (0 + a) % 4294967296 = a
      omega
    rw [e0]
    clear hS2
    go_enter Try.func53, Try.ntmps53
    go_upto_region 1 with fail
    replace hu := hu.symm
    change _ = u at hu
    rw [hu]
    clear hu
    go_wp2_with fail
    go_ret
    exact ⟨rfl, HB.out⟩
  · by_cases h1 : (m : Int) ≤ s
    · have e0 : saP ss B ⟨p, t, s, a⟩ = a := by
        unfold saP
        rw [show symP ss B s = 0 from if_pos (Or.inr (by rw [hm]; exact h1))]
        show (0 + a) % 4294967296 = a
        omega
      rw [e0]
      clear hS2
      go_enter Try.func53, Try.ntmps53
      go_upto_region 1 with fail
      replace hu := hu.symm
      change _ = u at hu
      rw [hu]
      clear hu
      go_wp2_with fail
      go_ret
      exact ⟨rfl, HB.out⟩
    · obtain ⟨j, rfl⟩ : ∃ j : Nat, s = (j : Int) := ⟨s.toNat, by omega⟩
      have hj : j < m := by omega
      have hx : ss.getD j 0 < 4294967296 := getD_all (P := fun x => x < 4294967296) hS2.2.1 (by omega)
      have e0 : ((((ss.getD j 0 : Nat) : Int) + (B : Int)) % 4294967296 + (a : Int)) % 4294967296 = ((saP ss B ⟨p, t, (j : Int), a⟩ : Nat) : Int) := by
        unfold saP
        rw [show symP ss B (j : Int) = (B + ss.getD j 0) % 4294967296 by
          show (if _ then _ else _) = _
          rw [if_neg (by rw [hm]; omega)]
          rfl]
        show _ = ((((B + ss.getD j 0) % 4294967296 + a) % 4294967296 : Nat) : Int)
        omega
      obtain ⟨b, o, hA, hlt, hc⟩ := hS2.2.2.2 (by show 0 < m; omega)
      replace hA : A = some ⟨b, o, none⟩ := hA
      subst hA
      have hcj := hc j 0 hj (by decide)
      rw [show o + j * 1 + 0 = o + j by omega] at hcj
      replace hcj : World.cell? _ ⟨b, o + j, none⟩ = some (.int .u32 ((ss.getD j 0 : Nat) : Int)) := hcj
      generalize ss.getD j 0 = x at *
      generalize saP ss B ⟨p, t, (j : Int), a⟩ = v at *
      have ha := fun W => at_u b o m c j (by omega) W
      have h0' : ¬ (j : Int) ≤ 0 := h0
      have h1' : ¬ (m : Int) ≤ (j : Int) := h1
      clear hc hS2
      go_enter Try.func53, Try.ntmps53
      go_upto_region 1 with fail
      replace hu := hu.symm
      change _ = u at hu
      rw [hu]
      clear hu
      go_upto_region 3 with fail
      go_quiet (fail)
      go_wp2_with fail
      go_ret
      first | exact ⟨rfl, below_drewN HB.out nq⟩ | exact ⟨congrArg (fun z => Ending.returned (Value.int .u32 z)) e0, below_drewN HB.out nq⟩
set_option maxRecDepth 100000 in
set_option maxHeartbeats 4000000 in
theorem distance_any (ss : List Nat) (en B : Nat) (sg rl sy sp : Sl) (r : Re) (w : World) (hS : SlN w sy ss) (hr : r.Wf) (hB : B < 4294967296) :
    Calls Try.prog 55 #[.agg (prC en B sg rl sy sp), .agg (reC r)] w fun e w' => e = .returned (.int .u32 ((wayP ss B r : Nat) : Int)) ∧ Below w.heap.size w w' := by
  obtain ⟨u, hu, hP, hR, hb, hz⟩ := two_new w en B sg rl sy sp r
  have KT : Hid (∀ W, Below u.heap.size u W → Calls Try.prog 53 #[.agg (prC en B sg rl sy sp), .agg (reC r)] W fun e w' => e = .returned (.int .u32 ((saP ss B r : Nat) : Int)) ∧ Below W.heap.size W w') := Lib.hid (fun W hW => target_any ss en B sg rl sy sp r W ((hS.below hb).below hW) hr hB)
  have KA : Hid (∀ W, Calls Try.prog 43 #[.agg (prC en B sg rl sy sp), .agg (reC r)] W fun e w' => e = .returned (.int .u32 ((atP B r : Nat) : Int)) ∧ Below W.heap.size W w') := Lib.hid (fun W => address_any en B sg rl sy sp r W hB hr.p)
  have hv : (((saP ss B r : Nat) : Int) - ((atP B r : Nat) : Int)) % 4294967296 = ((wayP ss B r : Nat) : Int) := by
    have h1 : atP B r < 4294967296 := Nat.mod_lt _ (by decide)
    unfold wayP
    omega
  generalize saP ss B r = sa at *
  generalize atP B r = x at *
  generalize wayP ss B r = v at *
  have HP := Lib.hid hP
  have HR := Lib.hid hR
  have HB := Lib.hid hb
  clear hP hR hb hS hr hz
  go_enter Try.func55, Try.ntmps55
  go_upto_region 1 with fail
  replace hu := hu.symm
  change _ = u at hu
  rw [hu]
  clear hu
  obtain ⟨gR, hgR⟩ : ∃ g, g = w.heap.size + 1 := ⟨_, rfl⟩
  obtain ⟨gP, hgP⟩ : ∃ g, g = w.heap.size := ⟨_, rfl⟩
  rw [← hgR] at HR ⊢
  rw [← hgP] at HP ⊢
  clear hgR hgP
  refine region_quiet_all (Below u.heap.size u) (by kernel_rfl) (by kernel_rfl) (below_drewN (Below.refl _ _) 1) ?_
  refine WQ.out ?_
  refine WQ.lift (wpQ_load 64 (.tmp 2) rfl rfl (.pointer (some ⟨gP, 0, none⟩)) rfl (.agg (prC en B sg rl sy sp)) (fun w' hC => load_prog (HP.out.after hC))) ?_
  simp only [Act.put, List.setIfInBounds_toArray, List.set_cons_zero, List.set_cons_succ]
  refine WQ.lift (wpQ_load 43 (.tmp 3) rfl rfl (.pointer (some ⟨gR, 0, none⟩)) rfl (.agg (reC r)) (fun w' hC => load_rela (HR.out.after hC))) ?_
  simp only [Act.put, List.setIfInBounds_toArray, List.set_cons_zero, List.set_cons_succ]
  refine WQ.lift (wpQ_fn 53 _ _ rfl rfl #[.agg (prC en B sg rl sy sp), .agg (reC r)] rfl (fun _ => by go_simp) (.int .u32 (sa : Int)) (fun w' hC => (KT.out w' hC).mono fun e w'' ⟨he, hb⟩ => ⟨he, below_class hC hb⟩)) ?_
  simp only [Act.put, List.setIfInBounds_toArray, List.set_cons_zero, List.set_cons_succ]
  refine WQ.lift (wpQ_load 64 (.tmp 2) rfl rfl (.pointer (some ⟨gP, 0, none⟩)) rfl (.agg (prC en B sg rl sy sp)) (fun w' hC => load_prog (HP.out.after hC))) ?_
  simp only [Act.put, List.setIfInBounds_toArray, List.set_cons_zero, List.set_cons_succ]
  refine WQ.lift (wpQ_load 43 (.tmp 3) rfl rfl (.pointer (some ⟨gR, 0, none⟩)) rfl (.agg (reC r)) (fun w' hC => load_rela (HR.out.after hC))) ?_
  simp only [Act.put, List.setIfInBounds_toArray, List.set_cons_zero, List.set_cons_succ]
  refine WQ.lift (wpQ_fn 43 _ _ rfl rfl #[.agg (prC en B sg rl sy sp), .agg (reC r)] rfl (fun _ => by go_simp) (.int .u32 (x : Int)) (fun w' hC => (KA.out w').mono fun e w'' ⟨he, hb⟩ => ⟨he, below_class hC hb⟩)) ?_
  simp only [Act.put, List.setIfInBounds_toArray, List.set_cons_zero, List.set_cons_succ]
  refine WQ.lift (wpQ_val rfl (.int .u32 (v : Int)) (fun w' hC => by go_simp; first | done | exact hv)) ?_
  simp only [Act.put, List.setIfInBounds_toArray, List.set_cons_zero, List.set_cons_succ]
  refine WQ.lift (wpQ_assign _ rfl rfl (.int .u32 (v : Int)) rfl) ?_
  simp only [Act.put, List.setIfInBounds_toArray, List.set_cons_zero, List.set_cons_succ]
  refine WQ.mk (wpQuiet_nil ?_)
  intro u2 hC
  have HC := Lib.hid hC
  clear hC
  go_wp2_with fail
  go_ret
  exact ⟨rfl, HB.out.trans (HC.out.mono HB.out.size)⟩
theorem at_g (b o n c j : Nat) (hj : (j : Int) < (n : Int)) (w : World) : (Instr.indexAt 30 (.slice (some ⟨b, o, none⟩) n c) (.int .i64 (j : Int))).run Try.prog w = .ok (.pointer (some ⟨b, o + j * 3, none⟩)) w := by
  have h2 := Addr.add_mid b o (j * 3)
  go_simp
set_option maxRecDepth 100000 in
set_option maxHeartbeats 4000000 in
theorem inspan_any (l : List (Nat × Nat)) (en B : Nat) (sg rl sy sp : Sl) (x n : Nat) (w : World) (hS : SlG w sp l) (hx : x < 4294967296) (hn : n ≤ 8) :
    Calls Try.prog 52 #[.agg (prC en B sg rl sy sp), .int .u32 (x : Int), .int .u32 (n : Int)] w fun e w' => e = .returned (.bool (inSp l x n)) ∧ Below w.heap.size w w' := by
  obtain ⟨u, hu, hP, hb, hz⟩ := one_new w (prC en B sg rl sy sp) 64
  obtain ⟨A, m, c⟩ := sp
  have hm : l.length = m := hS.1
  have h47 : m ≤ 140737488355328 := hS.2.2.1.2
  generalize hr : inSp l x n = res
  have HR0 : Hid (inSp (l.drop 0) x n = res) := Lib.hid (by rw [List.drop_zero]; exact hr)
  have HS := Lib.hid (hS.below hb)
  have hc5 : u.cell? ⟨w.heap.size, 5, none⟩ = some (.slice A m c) := hP.cell 5
  have HB := Lib.hid hb
  clear hr hS hP hb hz
  go_enter Try.func52, Try.ntmps52
  go_upto_region 1 with fail
  replace hu := hu.symm
  change _ = u at hu
  rw [hu]
  clear hu
  go_wp2_with fail
  go_loopw [12] (fun ct wr => ∃ i : Nat, i ≤ m ∧ ct = .int .i64 (i : Int) ∧ Hid (inSp (l.drop i) x n = res) ∧ Below u.heap.size u wr) (fun ct _ => (m - (intOf ct)).toNat)
  case atStart => exact ⟨0, Nat.zero_le _, rfl, HR0, Below.refl _ _⟩
  case round =>
    obtain ⟨i, hi, rfl, HR, hb⟩ := hrel
    by_cases hlt : i < m
    · have di : (i : Int) < (m : Int) := by omega
      have hst := inSp_step l x n i (by omega)
      have hwf := getD_all (P := fun x : Nat × Nat => x.1 < 4294967296 ∧ x.2 < 4294967296) (d := (0, 0)) (j := i) HS.out.2.1 (by omega)
      obtain ⟨b, o, hA, hbl, hc⟩ := (HS.out.below hb).2.2.2 (by show 0 < m; omega)
      replace hA : A = some ⟨b, o, none⟩ := hA
      subst hA
      have hc0 : wr.cell? ⟨b, o + i * 3, none⟩ = some (.int .u32 (((l.getD i (0, 0)).1 : Nat) : Int)) := hc i 0 hlt (by decide)
      have hc1 : wr.cell? ⟨b, o + i * 3 + 1, none⟩ = some (.int .u32 (((l.getD i (0, 0)).2 : Nat) : Int)) := hc i 1 hlt (by decide)
      have hc2 : wr.cell? ⟨b, o + i * 3 + 2, none⟩ = some (.int .i64 0) := hc i 2 hlt (by decide)
      generalize l.getD i (0, 0) = p at *
      obtain ⟨a, z⟩ := p
      dsimp only at hc0 hc1 hst hwf
      have ha := fun W => at_g b o m c i di W
      have kI := fun W => pwithin_any x n a z W hx (by omega) hwf.1 hwf.2
      have hst' : inSp (l.drop i) x n = (inB x n a z || inSp (l.drop (i + 1)) x n) := hst
      generalize inB x n a z = q at *
      have HST := Lib.hid hst'
      clear hc hst hst'
      have HB2 := Lib.hid hb
      clear hb
      cases q with
      | true =>
        have e : res = true := by rw [← HR.out, HST.out]; rfl
        subst e
        go_wp2_with (go_at_call 49; with_reducible refine (kI _).mono ?_; rintro e w2 ⟨rfl, rfl⟩)
        go_ret
        exact ⟨rfl, HB.out.trans ((HB2.out.alloc HB2.out.size _).mono HB.out.size)⟩
      | false =>
        have e : inSp (l.drop (i + 1)) x n = res := by rw [← HR.out, HST.out]; rfl
        go_wp2_with (go_at_call 49; with_reducible refine (kI _).mono ?_; rintro e w2 ⟨rfl, rfl⟩)
        go_roundw
        case rel => exact ⟨i + 1, hlt, by go_num, Lib.hid e, HB2.out.alloc HB2.out.size _⟩
        case measure => simp [intOf] <;> omega
    · have him : i = m := by omega
      have di : ¬ (i : Int) < (m : Int) := by omega
      have e : res = false := by
        rw [← HR.out, List.drop_eq_nil_of_le (by omega)]; rfl
      subst e
      have HB2 := Lib.hid hb
      clear hb
      go_wp2_with fail
      first | go_ret | go_end0
      exact ⟨rfl, HB.out.trans (HB2.out.mono HB.out.size)⟩
theorem chP_ok {t : Int} (ht : okT t) : chP t = kL t := by
  unfold chP
  rw [show kindB t = true from decide_eq_true ht]
  rfl
theorem chP_no {t : Int} (ht : ¬ okT t) : chP t = 0 := by
  unfold chP
  rw [show kindB t = false from decide_eq_false ht]
  rfl
set_option maxRecDepth 100000 in
set_option maxHeartbeats 4000000 in
theorem valid_any (l : List (Nat × Nat)) (en B : Nat) (sg rl sy sp : Sl) (r : Re) (w : World) (hS : SlG w sp l) (hr : r.Wf) (hB : B < 4294967296) :
    Calls Try.prog 42 #[.agg (prC en B sg rl sy sp), .agg (reC r)] w fun e w' => e = .returned (.bool (mayP B l r)) ∧ Below w.heap.size w w' := by
  obtain ⟨u, hu, hP, hR, hb, hz⟩ := two_new w en B sg rl sy sp r
  have hx : atP B r < 4294967296 := Nat.mod_lt _ (by decide)
  have KA : Hid (∀ W, Calls Try.prog 43 #[.agg (prC en B sg rl sy sp), .agg (reC r)] W fun e w' => e = .returned (.int .u32 ((atP B r : Nat) : Int)) ∧ Below W.heap.size W w') := Lib.hid (fun W => address_any en B sg rl sy sp r W hB hr.p)
  have hn8 : chP r.t ≤ 8 := by unfold chP lenP; split; split <;> omega; omega
  have KI : Hid (∀ W, Below u.heap.size u W → Calls Try.prog 52 #[.agg (prC en B sg rl sy sp), .int .u32 ((atP B r : Nat) : Int), .int .u32 ((chP r.t : Nat) : Int)] W fun e w' => e = .returned (.bool (inSp l (atP B r) (chP r.t))) ∧ Below W.heap.size W w') := Lib.hid (fun W hW => inspan_any l en B sg rl sy sp _ _ W ((hS.below hb).below hW) hx hn8)
  have kC := fun W => changed_any r.t W
  have hr1 : u.cell? ⟨w.heap.size + 1, 1, none⟩ = some (.int .i64 r.t) := hR.cell 1
  have hr2 : u.cell? ⟨w.heap.size + 1, 2, none⟩ = some (.int .i64 r.s) := hR.cell 2
  have HP := Lib.hid hP
  have HR := Lib.hid hR
  have HB := Lib.hid hb
  have HZ := Lib.hid hz
  obtain ⟨res, hres⟩ : ∃ res, res = mayP B l r := ⟨_, rfl⟩
  rw [← hres]
  have hq : okT r.t → res = (inSp l (atP B r) (chP r.t) && !(decide (3 < r.t) && decide (atP B r % 4 ≠ 0)) && !(decide (r.t = 3) && decide (r.s ≠ 0))) := fun ht => by
    have hl : chP r.t = kL r.t := chP_ok ht
    rw [hres, hl]
    exact mayP_eq B l r.p r.t r.s r.a ht
  have hno : ¬ okT r.t → res = false := fun ht => by
    rw [hres]
    unfold mayP
    rw [show kindB r.t = false from decide_eq_false ht]
    rfl
  have HRES : Hid ((chP r.t = 0 ∧ res = false) ∨ (¬ chP r.t = 0 ∧ okT r.t ∧ res = (inSp l (atP B r) (chP r.t) && !(decide (3 < r.t) && decide (atP B r % 4 ≠ 0)) && !(decide (r.t = 3) && decide (r.s ≠ 0))))) := Lib.hid (by
    by_cases ht : okT r.t
    · refine Or.inr ⟨?_, ht, hq ht⟩
      rw [chP_ok ht]
      unfold kL
      split <;> omega
    · exact Or.inl ⟨chP_no ht, hno ht⟩)
  clear hP hR hb hS hq hno hres hz
  generalize chP r.t = n at *
  generalize hxx : atP B r = x at *
  generalize hqq : inSp l x n = q at *
  clear hxx hqq
  go_enter Try.func42, Try.ntmps42
  go_upto_region 1 with fail
  replace hu := hu.symm
  change _ = u at hu
  rw [hu]
  clear hu
  obtain ⟨gR, hgR⟩ : ∃ g, g = w.heap.size + 1 := ⟨_, rfl⟩
  obtain ⟨gP, hgP⟩ : ∃ g, g = w.heap.size := ⟨_, rfl⟩
  rw [← hgR] at HR hr1 hr2 ⊢
  rw [← hgP] at HP ⊢
  have hgRu : gR < u.heap.size := by have := HZ.out; omega
  clear hgR hgP
  go_upto_region 2 with (go_at_call 44; with_reducible refine (kC _).mono ?_; rintro e w2 ⟨rfl, rfl⟩)
  clear kC
  rcases HRES.out with ⟨e0, hf⟩ | ⟨e0, ht, hf⟩
  · have d0 : ((n : Int) == 0) = true := by simp only [beq_iff_eq]; omega
    subst hf
    clear e0
    refine region_quiet_all (Below u.heap.size u) (by kernel_rfl) (by kernel_rfl) (below_drewN (Below.refl _ _) 1) ?_
    refine WQ.out ?_
    refine WQ.lift (wpQ_move _ rfl rfl (.int .u32 (n : Int)) rfl) ?_
    simp only [Act.put, List.setIfInBounds_toArray, List.set_cons_zero, List.set_cons_succ]
    refine WQ.lift (wpQ_val rfl (.bool true) (fun w' hC => by go_simp)) ?_
    simp only [Act.put, List.setIfInBounds_toArray, List.set_cons_zero, List.set_cons_succ]
    refine WQ.lift (wpQ_move _ rfl rfl (.bool true) rfl) ?_
    simp only [Act.put, List.setIfInBounds_toArray, List.set_cons_zero, List.set_cons_succ]
    refine WQ.skip rfl ?_
    simp only [Act.put, List.setIfInBounds_toArray, List.set_cons_zero, List.set_cons_succ]
    refine WQ.skip rfl ?_
    simp only [Act.put, List.setIfInBounds_toArray, List.set_cons_zero, List.set_cons_succ]
    refine WQ.skip rfl ?_
    simp only [Act.put, List.setIfInBounds_toArray, List.set_cons_zero, List.set_cons_succ]
    refine WQ.skip rfl ?_
    simp only [Act.put, List.setIfInBounds_toArray, List.set_cons_zero, List.set_cons_succ]
    refine WQ.skip rfl ?_
    simp only [Act.put, List.setIfInBounds_toArray, List.set_cons_zero, List.set_cons_succ]
    refine WQ.skip rfl ?_
    simp only [Act.put, List.setIfInBounds_toArray, List.set_cons_zero, List.set_cons_succ]
    refine WQ.skip rfl ?_
    simp only [Act.put, List.setIfInBounds_toArray, List.set_cons_zero, List.set_cons_succ]
    refine WQ.lift (wpQ_pick _ _ _ rfl rfl true rfl (.bool true) rfl) ?_
    simp only [Act.put, List.setIfInBounds_toArray, List.set_cons_zero, List.set_cons_succ]
    refine WQ.mk (wpQuiet_nil ?_)
    intro u2 hC
    have HC := Lib.hid hC
    clear hC hr1 hr2
    go_wp2_with fail
    go_ret
    exact ⟨rfl, HB.out.trans (HC.out.mono HB.out.size)⟩
  · have d0 : ((n : Int) == 0) = false := by simp only [beq_eq_false_iff_ne, ne_eq]; omega
    have HT := Lib.hid ht
    have HF := Lib.hid hf
    clear ht hf e0 HRES
    cases q with
    | false =>
      have hf2 : res = false := by rw [HF.out]; simp
      clear HF
      subst hf2
      refine region_quiet_all (Below u.heap.size u) (by kernel_rfl) (by kernel_rfl) (below_drewN (Below.refl _ _) 1) ?_
      refine WQ.out ?_
      refine WQ.lift (wpQ_move _ rfl rfl (.int .u32 (n : Int)) rfl) ?_
      simp only [Act.put, List.setIfInBounds_toArray, List.set_cons_zero, List.set_cons_succ]
      refine WQ.lift (wpQ_val rfl (.bool false) (fun w' hC => by go_simp)) ?_
      simp only [Act.put, List.setIfInBounds_toArray, List.set_cons_zero, List.set_cons_succ]
      refine WQ.lift (wpQ_move _ rfl rfl (.bool false) rfl) ?_
      simp only [Act.put, List.setIfInBounds_toArray, List.set_cons_zero, List.set_cons_succ]
      refine WQ.lift (wpQ_load 64 (.tmp 2) rfl rfl (.pointer (some ⟨gP, 0, none⟩)) rfl (.agg (prC en B sg rl sy sp)) (fun w' hC => load_prog (HP.out.after hC))) ?_
      simp only [Act.put, List.setIfInBounds_toArray, List.set_cons_zero, List.set_cons_succ]
      refine WQ.lift (wpQ_load 64 (.tmp 2) rfl rfl (.pointer (some ⟨gP, 0, none⟩)) rfl (.agg (prC en B sg rl sy sp)) (fun w' hC => load_prog (HP.out.after hC))) ?_
      simp only [Act.put, List.setIfInBounds_toArray, List.set_cons_zero, List.set_cons_succ]
      refine WQ.lift (wpQ_load 43 (.tmp 3) rfl rfl (.pointer (some ⟨gR, 0, none⟩)) rfl (.agg (reC r)) (fun w' hC => load_rela (HR.out.after hC))) ?_
      simp only [Act.put, List.setIfInBounds_toArray, List.set_cons_zero, List.set_cons_succ]
      refine WQ.lift (wpQ_fn 43 _ _ rfl rfl #[.agg (prC en B sg rl sy sp), .agg (reC r)] rfl (fun _ => by go_simp) (.int .u32 (x : Int)) (fun w' hC => (KA.out w').mono fun e w'' ⟨he, hb⟩ => ⟨he, below_class hC hb⟩)) ?_
      simp only [Act.put, List.setIfInBounds_toArray, List.set_cons_zero, List.set_cons_succ]
      refine WQ.lift (wpQ_move _ rfl rfl (.int .u32 (n : Int)) rfl) ?_
      simp only [Act.put, List.setIfInBounds_toArray, List.set_cons_zero, List.set_cons_succ]
      refine WQ.lift (wpQ_fn 52 _ _ rfl rfl #[.agg (prC en B sg rl sy sp), .int .u32 (x : Int), .int .u32 (n : Int)] rfl (fun _ => by go_simp) (.bool false) (fun w' hC => (KI.out w' hC).mono fun e w'' ⟨he, hb⟩ => ⟨he, below_class hC hb⟩)) ?_
      simp only [Act.put, List.setIfInBounds_toArray, List.set_cons_zero, List.set_cons_succ]
      refine WQ.lift (wpQ_val rfl (.bool true) (fun w' hC => by go_simp)) ?_
      simp only [Act.put, List.setIfInBounds_toArray, List.set_cons_zero, List.set_cons_succ]
      refine WQ.lift (wpQ_pick _ _ _ rfl rfl false rfl (.bool true) rfl) ?_
      simp only [Act.put, List.setIfInBounds_toArray, List.set_cons_zero, List.set_cons_succ]
      refine WQ.mk (wpQuiet_nil ?_)
      intro u2 hC
      have HC := Lib.hid hC
      clear hC hr1 hr2
      go_wp2_with fail
      go_ret
      exact ⟨rfl, HB.out.trans (HC.out.mono HB.out.size)⟩
    | true =>
      refine region_quiet_all (Below u.heap.size u) (by kernel_rfl) (by kernel_rfl) (below_drewN (Below.refl _ _) 1) ?_
      refine WQ.out ?_
      refine WQ.lift (wpQ_move _ rfl rfl (.int .u32 (n : Int)) rfl) ?_
      simp only [Act.put, List.setIfInBounds_toArray, List.set_cons_zero, List.set_cons_succ]
      refine WQ.lift (wpQ_val rfl (.bool false) (fun w' hC => by go_simp)) ?_
      simp only [Act.put, List.setIfInBounds_toArray, List.set_cons_zero, List.set_cons_succ]
      refine WQ.lift (wpQ_move _ rfl rfl (.bool false) rfl) ?_
      simp only [Act.put, List.setIfInBounds_toArray, List.set_cons_zero, List.set_cons_succ]
      refine WQ.lift (wpQ_load 64 (.tmp 2) rfl rfl (.pointer (some ⟨gP, 0, none⟩)) rfl (.agg (prC en B sg rl sy sp)) (fun w' hC => load_prog (HP.out.after hC))) ?_
      simp only [Act.put, List.setIfInBounds_toArray, List.set_cons_zero, List.set_cons_succ]
      refine WQ.lift (wpQ_load 64 (.tmp 2) rfl rfl (.pointer (some ⟨gP, 0, none⟩)) rfl (.agg (prC en B sg rl sy sp)) (fun w' hC => load_prog (HP.out.after hC))) ?_
      simp only [Act.put, List.setIfInBounds_toArray, List.set_cons_zero, List.set_cons_succ]
      refine WQ.lift (wpQ_load 43 (.tmp 3) rfl rfl (.pointer (some ⟨gR, 0, none⟩)) rfl (.agg (reC r)) (fun w' hC => load_rela (HR.out.after hC))) ?_
      simp only [Act.put, List.setIfInBounds_toArray, List.set_cons_zero, List.set_cons_succ]
      refine WQ.lift (wpQ_fn 43 _ _ rfl rfl #[.agg (prC en B sg rl sy sp), .agg (reC r)] rfl (fun _ => by go_simp) (.int .u32 (x : Int)) (fun w' hC => (KA.out w').mono fun e w'' ⟨he, hb⟩ => ⟨he, below_class hC hb⟩)) ?_
      simp only [Act.put, List.setIfInBounds_toArray, List.set_cons_zero, List.set_cons_succ]
      refine WQ.lift (wpQ_move _ rfl rfl (.int .u32 (n : Int)) rfl) ?_
      simp only [Act.put, List.setIfInBounds_toArray, List.set_cons_zero, List.set_cons_succ]
      refine WQ.lift (wpQ_fn 52 _ _ rfl rfl #[.agg (prC en B sg rl sy sp), .int .u32 (x : Int), .int .u32 (n : Int)] rfl (fun _ => by go_simp) (.bool true) (fun w' hC => (KI.out w' hC).mono fun e w'' ⟨he, hb⟩ => ⟨he, below_class hC hb⟩)) ?_
      simp only [Act.put, List.setIfInBounds_toArray, List.set_cons_zero, List.set_cons_succ]
      refine WQ.lift (wpQ_val rfl (.bool false) (fun w' hC => by go_simp)) ?_
      simp only [Act.put, List.setIfInBounds_toArray, List.set_cons_zero, List.set_cons_succ]
      refine WQ.lift (wpQ_pick _ _ _ rfl rfl false rfl (.bool false) rfl) ?_
      simp only [Act.put, List.setIfInBounds_toArray, List.set_cons_zero, List.set_cons_succ]
      refine WQ.mk (wpQuiet_nil ?_)
      intro u2 hC
      have k1 := (hC.cell (p := ⟨gR, 1, none⟩) hgRu).trans hr1
      have k2 := (hC.cell (p := ⟨gR, 2, none⟩) hgRu).trans hr2
      have HC := Lib.hid hC
      clear hC hr1 hr2 KI
      by_cases t1 : r.t = 1
      · have hf2 : res = true := by rw [HF.out, t1]; simp
        subst hf2
        rw [t1] at k1
        clear t1 hn8
        go_wp2_with fail
        go_ret
        exact ⟨rfl, HB.out.trans (HC.out.mono HB.out.size)⟩
      · by_cases t3 : r.t = 3
        · have hf2 : (r.s == 0) = res := by
            rw [HF.out, t3]
            by_cases hs : r.s = 0
            · simp [hs]
            · simp [hs]
          rw [t3] at k1
          clear t1 t3 hn8
          generalize r.s = s at *
          go_wp2_with fail
          go_ret
          exact ⟨rfl, HB.out.trans (HC.out.mono HB.out.size)⟩
        · have f1 : (r.t == 1) = false := beq_eq_false_iff_ne.2 t1
          have f3 : (r.t == 3) = false := beq_eq_false_iff_ne.2 t3
          have ht3 : 3 < r.t := by
            have h := HT.out
            unfold okT at h
            omega
          have hf2 : ((x : Int).tmod 4 == 0) = res := by
            rw [HF.out, decide_eq_true ht3, Int.tmod_eq_emod_of_nonneg (by omega), decide_eq_false t3]
            by_cases hs : x % 4 = 0
            · rw [show (x : Int) % 4 = 0 by omega]; simp [hs]
            · rw [beq_eq_false_iff_ne.2 (show (x : Int) % 4 ≠ 0 by omega)]; simp [hs]
          have hf3 : ((x : Int) % 4 == 0) = res := by rw [← hf2, Int.tmod_eq_emod_of_nonneg (by omega)]
          obtain ⟨A1, n1, c1⟩ := sg
          obtain ⟨A2, n2, c2⟩ := rl
          obtain ⟨A3, n3, c3⟩ := sy
          obtain ⟨A4, n4, c4⟩ := sp
          obtain ⟨p, t, s, a⟩ := r
          have hP2 := HP.out.after HC.out
          have hR2 := HR.out.after HC.out
          have p0 : u2.cell? ⟨gP, 0, none⟩ = some (.int .u32 (en : Int)) := hP2.cell 0
          have p1 : u2.cell? ⟨gP, 1, none⟩ = some (.slice A1 n1 c1) := hP2.cell 1
          have p2 : u2.cell? ⟨gP, 2, none⟩ = some (.slice A2 n2 c2) := hP2.cell 2
          have p3 : u2.cell? ⟨gP, 3, none⟩ = some (.slice A3 n3 c3) := hP2.cell 3
          have p4 : u2.cell? ⟨gP, 4, none⟩ = some (.int .u32 (B : Int)) := hP2.cell 4
          have p5 : u2.cell? ⟨gP, 5, none⟩ = some (.slice A4 n4 c4) := hP2.cell 5
          have k0 : u2.cell? ⟨gR, 0, none⟩ = some (.int .u32 (p : Int)) := hR2.cell 0
          have k3 : u2.cell? ⟨gR, 3, none⟩ = some (.int .u32 (a : Int)) := hR2.cell 3
          have kA : ∀ W, Calls Try.prog 43 #[.agg #[.int .u32 (en : Int), .slice A1 n1 c1, .slice A2 n2 c2, .slice A3 n3 c3, .int .u32 (B : Int), .slice A4 n4 c4], .agg #[.int .u32 (p : Int), .int .i64 t, .int .i64 s, .int .u32 (a : Int)]] W fun e w' => e = .returned (.int .u32 (x : Int)) ∧ Below W.heap.size W w' := KA.out
          dsimp only at k1 k2 f1 f3
          clear hP2 hR2 t1 t3 ht3 hr hn8
          go_wp2_with (go_at_call 43; with_reducible refine (kA _).mono ?_; rintro e w2 ⟨rfl, hb2⟩)
          go_ret
          exact ⟨rfl, HB.out.trans ((HC.out.trans (hb2.mono HC.out.size)).mono HB.out.size)⟩
end Go.Proofs.Ytegaiphhoinilaa.Rc
