/-
Layer 16: HartStays over what the packages' calls answer.
-/
import Derived.Test.YtgpofoggfifnjaaGreatDoorJBg
import Derived.Test.YtgpofoggfifnjaaGreatDoorJAf
namespace Go.Proofs.YtgpofoggfifnjaaGreatDoor.Ha
open Go Go.RowKit
open Go.Proofs.YtgpofoggfifnjaaGreatDoor (opOf inR stM ldV stB RamP mP get_any has_any cut cut_get own_form own_slA by8)
open Go.Proofs.YtgpofoggfifnjaaGreatDoor.Cs (St CsrOK Only S1 hP new_stepS cell_heap cell_far one_new upd dueC trapC tickC readC)
open Go.Proofs.YtgpofoggfifnjaaGreatDoor.Pm (wp_fresh)

set_option maxRecDepth 100000 in
theorem neq_x (x : Nat → Nat) (W : World) (t u : Operand) : (do eqGuard .neq 44 t u (xA x) (xA x); binOp .neq 44 (xA x) (xA x)).run Tryz.prog W = .ok (.bool false) W := by
  obtain ⟨i, hi, hs⟩ : ∃ i, Tryz.prog.info? 25 = some i ∧ i.size = 1 := by
    have h := infoU
    cases hq : Tryz.prog.info? 25 with
    | none => rw [hq] at h; cases h
    | some i => exact ⟨i, rfl, by simpa [hq] using h⟩
  have h := run_equalIn_tab (P := Tryz.prog) W 9999 44 25 32 .u32 .u32 i (fun j => (x j : Int)) (fun j => (x j : Int)) Tryz.underlying44 Tryz.underlying25 hi hs (fun a b W => run_equalIn_int (P := Tryz.prog) (w := W) 9998 25 .u32 .u32 a b Tryz.underlying25)
  rw [sameTo_refl] at h
  have hg : (eqGuard .neq 44 t u (xA x) (xA x)).run Tryz.prog W = .ok () W := by
    unfold xA
    go_simp
  rw [Sem.run_bind, hg]
  show (binOp .neq 44 (.agg (tab 32 (xV x))) (.agg (tab 32 (xV x)))).run Tryz.prog W = _
  rw [run_neq_struct]
  show ((Op.equalIn 10000 44 (.agg (tab 32 fun j => .int .u32 (x j : Int))) (.agg (tab 32 fun j => .int .u32 (x j : Int)))).run Tryz.prog W).andThen _ = _
  rw [h]
  rfl
theorem Way.wid {x : Nat → Nat} {pc : Nat} {s : St} {m : Nat → UInt8} {R : Res} (h : Way x pc s m R) : R.d.width ≤ 4 ∧ R.d.at' < L32 := by
  cases h with
  | trap d c t hd hc ht ha hw hW => exact ⟨hw, ha⟩
  | on d rd v pc' hd hc ht hv hp hm ha hw => exact ⟨hw, ha⟩
  | store d b pc' hd hc ht hp hm ha hW hn => exact ⟨by show d.width ≤ 4; omega, ha⟩
set_option maxRecDepth 100000 in
set_option maxHeartbeats 8000000 in
theorem stays16_ok {Is : World → Nat → St → Prop} {W0 : World} (O : CsrOK Is) (K : HartOK Is W0) (M : CsrMore Is W0) (a : Sta) (t : Sls) (n : Int) (w : World) (hW : Below W0.heap.size W0 w) (hS : StaOk w a t) (hn : -9223372036854775808 ≤ n ∧ n ≤ 9223372036854775807) :
    Calls Tryz.prog 3 #[.agg (staA a t), .int .i64 n] w fun e w' => e = .returned (.bool true) ∧ Below w.heap.size w w' := by
  obtain ⟨u, hu, hJ, hb0, hz0⟩ := one_new w (staA a t) 27
  replace hu := hu.symm
  obtain ⟨bs, hbs⟩ : ∃ b, b = w.heap.size := ⟨_, rfl⟩
  rw [← hbs] at hJ
  have hws := hW.size
  have hF := fit16_ok O K u (hW.trans (hb0.mono hws))
  have hSm := small16_any a t
  have HW := Lib.hid hW
  have HS0 := Lib.hid (hS.after hb0)
  have HSw := Lib.hid hS
  have HB0 := Lib.hid hb0
  have HJ := Lib.hid hJ
  have hbw := Lib.hid (show w.heap.size ≤ bs ∧ bs < u.heap.size by omega)
  clear hW hS hJ hb0 hz0
  go_enter Tryz.func3, Tryz.ntmps3
  have hu2 : w.alloc (.cells (staA a t) 27) = u := hu
  go_upto_region 1 with fail
  first | rw [hu2] | skip
  first | rw [← hbs] | skip
  clear hu hu2 hbs
  go_upto_region 3 with (go_at_call 7; refine hF.mono ?_; rintro e w1 ⟨rfl, hb1⟩)
  have hJ1 := HJ.out.after hb1
  have hS1 := HS0.out.after hb1
  have hB1 := HB0.out.trans (hb1.mono HB0.out.size)
  have hSm1 := hSm w1
  have HB1 := Lib.hid hB1
  have HS1 := Lib.hid hS1
  have hsz := staA a t
  clear hF hb1 hB1 hS1 hSm hsz
  by_cases hsm : smB t = true
  case neg =>
    rw [Bool.eq_false_iff.2 hsm] at hSm1
    clear hsm
    go_wp2_with (first
      | (refine wpList_load_has 27 _ rfl _ rfl rfl 27 _ hJ1 _ Tryz.underlying27 rfl (infoSt a t) ?_)
      | (go_at_call 8; refine hSm1.mono ?_; rintro e w2 ⟨rfl, hb2⟩))
    go_ret
    exact ⟨rfl, HB1.out.trans (hb2.mono HB1.out.size)⟩
  case pos =>
  rw [hsm] at hSm1
  go_upto_region 5 with (first
    | (refine wpList_load_has 27 _ rfl _ rfl rfl 27 _ hJ1 _ Tryz.underlying27 rfl (infoSt a t) ?_)
    | (go_at_call 8; refine hSm1.mono ?_; rintro e w2 ⟨rfl, hb2⟩))
  have hJ2 := hJ1.after hb2
  have f3 : w2.frozen? ⟨bs, 3, none⟩ = false := hJ2.free 3
  have c3 : w2.cell? ⟨bs, 3, none⟩ = some (.bool a.user) := hJ2.cell 3
  have hJ3 := sta_user w2 bs a t hJ2
  have hO3 : Only (S1 bs) w2 (w2.setCell ⟨bs, 3, none⟩ (.bool true)) := Only.setCell (S := S1 bs) _ (show S1 bs bs from rfl) _
  have hB2 := HB1.out.trans (hb2.mono HB1.out.size)
  have hB3 : Below w.heap.size w (w2.setCell ⟨bs, 3, none⟩ (.bool true)) := hB2.trans (hO3.below (fun i e => by have e : i = bs := e; have := hbw.out.1; omega) hB2.size)
  have hS3 : StaOk (w2.setCell ⟨bs, 3, none⟩ (.bool true)) { a with user := true } t := by
    have h := HSw.out.after hB3
    exact ⟨h.w, h.x, h.l, h.c, h.pc⟩
  have hbg := begin_any O K { a with user := true } t _ (HW.out.trans (hB3.mono hws)) hS3 hsm
  unfold BegO at hbg
  have hs0 : (begS { a with user := true }).mode = 0 := by unfold begS; rw [if_pos rfl]
  generalize begS { a with user := true } = s0 at *
  have HB3 := Lib.hid hB3
  clear hSm1 hJ1 hJ2 hO3 hB2 hB3 hS3 hb2 hsm
  go_upto_region 7 with (first
    | (refine wpList_load_has 27 _ rfl _ rfl rfl 27 _ hJ3 _ Tryz.underlying27 rfl (infoSt _ t) ?_)
    | (go_at_call 9; refine hbg.mono ?_; rintro e w4 ⟨pp, p, q, g, gm, x, m, rfl, hP4, hH4, hI4, hM4, hx0, hxl, hne, hlo, hb4⟩))
  clear f3 c3 hJ3 hbg
  have hB4 := HB3.out.trans (hb4.mono HB3.out.size)
  have pc0 : w4.cell? ⟨pp, 0, none⟩ = some (.pointer (some ⟨p, 0, none⟩)) := hP4.cell 0
  have h3w := HB3.out.size
  have hlo2 : w.heap.size ≤ pp ∧ w.heap.size ≤ p ∧ w.heap.size ≤ g ∧ w.heap.size ≤ gm := by omega
  have HNE := Lib.hid hne
  have HLO := Lib.hid hlo2
  have HB4 := Lib.hid hB4
  obtain ⟨nt, N, k1, k2, k3, k4⟩ := steps_n n hn
  have k2a := k2.1
  have k2b := k2.2
  have hz := zeroTr
  have hzx := zeroX
  have hpc0 : (2147487744 + a.pc) % L32 < L32 := Nat.mod_lt _ (by decide)
  generalize (2147487744 + a.pc) % L32 = pc at *
  clear hne hlo hlo2 hb4 h3w hB4 k2 hn
  go_upto_region 10 with fail
  go_loopw [36] (fun ct wv => ∃ i : Nat, i ≤ N ∧ ct = .int .i64 (i : Int) ∧ (∃ (x : Nat → Nat) (pc : Nat) (s : St) (m : Nat → UInt8), Has wv p 48 (tab 35 (hV x pc g (some gm))) ∧ Is wv g s ∧ RamP wv gm m ∧ XOk x ∧ pc < L32) ∧ Only (SH p g gm) w4 wv) (fun ct _ => (N - (intOf ct)).toNat)
  case atStart => exact ⟨0, Nat.zero_le _, rfl, ⟨x, pc, s0, m, hH4, hI4, hM4, ⟨hxl, hx0⟩, hpc0⟩, Only.refl _ _⟩
  case round =>
    obtain ⟨i, hi, rfl, ⟨x, pc, s, m, hH1, hI1, hM1, hxl, hpc⟩, hO1⟩ := hrel
    have hB1 := HB4.out.trans (hO1.below (sh_ge HLO.out.2) HB4.out.size)
    by_cases hlt : i < N
    · have di : (i : Int) < (N : Int) := by omega
      have pg : wr.cell? ⟨p, 33, none⟩ = some (.pointer (some ⟨g, 0, none⟩)) := hH1.cellTab 33 (by decide)
      have pm := (O.mode hI1).1
      by_cases hmo : s.mode = 0
      case neg =>
        have hmI : ((s.mode : Int) != 0) = true := bne_iff_ne.2 (by omega)
        go_wp2_with fail
        go_ret
        exact ⟨rfl, hB1⟩
      case pos =>
      rw [hmo] at pm
      generalize hu1 : wr = u1 at *
      clear hu1
      have HH1 := Lib.hid hH1
      have HM1 := Lib.hid hM1
      go_upto_region 12 with fail
      refine region_simL [.pointer (some ⟨p, 0, none⟩), .pointer (some ⟨p, 0, none⟩), .pointer (some ⟨p, 34, none⟩), mP gm, undef, .pointer (some ⟨p, 0, none⟩), .pointer (some ⟨p, 0, none⟩), .pointer (some ⟨p, 0, none⟩), xA x, .pointer (some ⟨p, 0, none⟩), .pointer (some ⟨p, 0, none⟩), .pointer (some ⟨p, 32, none⟩), .int .u32 (pc : Int), undef, undef, undef, .int .u32 (pc : Int)] [(4, fun v w' => ∃ gc, v = mP gc ∧ u1.heap.size ≤ gc ∧ RamP w' gc m), (13, fun v w' => ∃ bt ft, v = .pointer (some ⟨bt, 0, none⟩) ∧ u1.heap.size ≤ bt ∧ Has w' bt 44 (tab 32 ft)), (14, fun v w' => ∃ gc, v = mP gc ∧ u1.heap.size ≤ gc ∧ RamP w' gc m), (15, fun v w' => v = undef ∧ ∀ b cs, u1.heap.size ≤ b → Has w' b 44 cs → cs = tab 32 (xV x))] [(13, fun w' => NoT u1.heap.size w')] [(4, fun w' w'' => Below w'.heap.size w' w'' ∧ (∀ b cs, w'.heap.size ≤ b → ¬ Has w'' b 44 cs)), (13, fun w' w'' => NoT u1.heap.size w' ∧ Below w'.heap.size w' w'' ∧ OneT u1.heap.size w''), (15, fun w' w'' => ∃ bt ft, u1.heap.size ≤ bt ∧ Has w' bt 44 (tab 32 ft) ∧ Has w'' bt 44 (tab 32 (xV x)) ∧ Only (S1 bt) w' w'' ∧ OneT u1.heap.size w'')] (fun w' => Has w' p 48 (tab 35 (hV x pc g (some gm))) ∧ RamP w' gm m ∧ Below u1.heap.size u1 w' ∧ OneT u1.heap.size w') 181 (by kernel_rfl) rfl (by kernel_rfl) ?_ ?_ ?_ ?_ ?_ (by decide) ?_
      · intro w' hb he
        exact ⟨⟨HH1.out.after hb, ram_only HM1.out (Only.of_below (S := fun _ => False) hb) (fun h => h), hb, fun b c cs ds hb1 _ h1 _ => absurd h1.lt (by rw [he]; omega)⟩, by
          simp only [List.forall_mem_cons, List.not_mem_nil, false_implies, implies_true, and_true]
          exact fun b cs hb1 h1 => absurd h1.lt (by rw [he]; omega)⟩
      · simp only [List.forall_mem_cons, List.not_mem_nil, false_implies, implies_true, and_true]
        exact ⟨fun w' w'' h hy => inv_4 h hy.1 hy.2, fun w' w'' h hy => ⟨h.1.after hy.2.1, ram_only h.2.1 (Only.of_below (S := fun _ => False) hy.2.1) (fun h => h), h.2.2.1.trans (hy.2.1.mono h.2.2.1.size), hy.2.2⟩, fun w' w'' h ⟨bt, ft, h1, _, _, h4, h5⟩ => ⟨(inv_15 HH1.out HM1.out h h1 h4).1, (inv_15 HH1.out HM1.out h h1 h4).2.1, (inv_15 HH1.out HM1.out h h1 h4).2.2, h5⟩⟩
      · simp only [List.forall_mem_cons, List.not_mem_nil, false_implies, implies_true, and_true]
        exact ⟨⟨fun h => absurd rfl h, fun _ _ v w' w'' _ h hy => cp_13 h hy.2.1, fun _ _ v w' w'' _ h ⟨bt, ft, _, h2, _, h4, _⟩ => cp_15 h h2 h4⟩, ⟨fun _ _ v w' w'' _ ⟨bt, ft, e1, e2, e3⟩ hy => ⟨bt, ft, e1, e2, e3.after hy.1⟩, fun h => absurd rfl h, fun _ _ v w' w'' _ ⟨bt, ft, e1, e2, e3⟩ ⟨bu, fu, _, _, h3, h4, _⟩ => row_15 e1 e2 e3 h3 h4⟩, ⟨fun _ h => absurd h (by decide +kernel), fun _ _ v w' w'' _ h hy => cp_13 h hy.2.1, fun _ _ v w' w'' _ h ⟨bt, ft, _, h2, _, h4, _⟩ => cp_15 h h2 h4⟩, ⟨fun _ h => absurd h (by decide +kernel), fun _ h => absurd h (by decide +kernel), fun h => absurd rfl h⟩⟩
      · simp only [List.forall_mem_cons, List.not_mem_nil, false_implies, implies_true, and_true]
        exact ⟨fun _ _ w' w'' _ h hy => noT_4 h hy.1 hy.2, fun h => absurd rfl h, fun _ h => absurd h (by decide +kernel)⟩
      · refine ⟨⟨?_, ?_⟩, ⟨?_, ?_⟩, ⟨?_, ?_⟩, ⟨?_, ?_⟩, ⟨?_, ?_⟩, ⟨?_, ?_⟩, ⟨?_, ?_⟩, ⟨?_, ?_⟩, ⟨?_, ?_⟩, ⟨?_, ?_⟩, ⟨?_, ?_⟩, ⟨?_, ?_⟩, ⟨?_, ?_⟩, ⟨?_, ?_⟩, ⟨?_, ?_⟩, ⟨?_, ?_⟩, ⟨?_, ?_⟩, trivial⟩
        · intro v w' AA hAA hg hf hl hgd K hK
          exact pure_step (.pointer (some ⟨p, 0, none⟩)) (fun ρ hρ => by
            have e6 : ρ (.tmp 6) = .pointer (some ⟨p, 0, none⟩) := by rw [hρ]; exact hAA.2 6 (by simp)
            clear hρ hf hAA hl hK hg
            go_simp) (hK _ _ rfl ⟨rfl, hg.2⟩)
        · trivial
        · intro v w' AA hAA hg hf hl hgd K hK
          exact pure_step (.pointer (some ⟨p, 0, none⟩)) (fun ρ hρ => by
            have e46 : ρ (.tmp 46) = .pointer (some ⟨p, 0, none⟩) := by rw [hρ]; exact (hAA.1 0 _ 46 rfl rfl).trans (hf ⟨0, .data⟩ (by simp) rfl).1
            clear hρ hf hAA hl hK hg
            go_simp) (hK _ _ rfl ⟨rfl, hg.2⟩)
        · trivial
        · intro v w' AA hAA hg hf hl hgd K hK
          exact pure_step (.pointer (some ⟨p, 34, none⟩)) (fun ρ hρ => by
            have e47 : ρ (.tmp 47) = .pointer (some ⟨p, 0, none⟩) := by rw [hρ]; exact (hAA.1 1 _ 47 rfl rfl).trans (hf ⟨1, .data⟩ (by simp) rfl).1
            clear hρ hf hAA hl hK hg
            go_simp) (hK _ _ rfl ⟨rfl, hg.2⟩)
        · trivial
        · intro v w' AA hAA hg hf hl hgd K hK
          have hcell := (show w'.cell? ⟨p, 34, none⟩ = some (mP gm) from hg.2.1.cellTab 34 (by decide))
          exact pure_step (mP gm) (fun ρ hρ => by
            have e48 : ρ (.tmp 48) = .pointer (some ⟨p, 34, none⟩) := by rw [hρ]; exact (hAA.1 2 _ 48 rfl rfl).trans (hf ⟨2, .data⟩ (by simp) rfl).1
            clear hρ hf hAA hl hK hg
            go_simp) (hK _ _ rfl ⟨rfl, hg.2⟩)
        · trivial
        · intro v w' AA hAA hg hf hl hgd K hK
          refine call_step 10 #[mP gm] (fun ρ hρ => by
            have hfun : ∀ f, ρ (.func f) = .func (.func f) #[] #[] := fun f => by rw [hρ]; rfl
            have e49 : ρ (.tmp 49) = mP gm := by rw [hρ]; exact (hAA.1 3 _ 49 rfl rfl).trans (hf ⟨3, .data⟩ (by simp) rfl).1
            clear hρ hf hAA hl hK hg
            go_simp) ?_
          refine (copy1_any m gm w' hg.2.2.1).mono ?_
          rintro e w'' ⟨⟨gc, rfl, hMc, hge⟩, hnT, hbC⟩
          exact ⟨_, rfl, hK _ _ ⟨hbC, hnT⟩ ⟨⟨gc, rfl, Nat.le_trans hg.2.2.2.1.size hge, hMc⟩, inv_4 hg.2 hbC hnT⟩⟩
        · trivial
        · intro v w' AA hAA hg hf hl hgd K hK
          exact pure_step (.pointer (some ⟨p, 0, none⟩)) (fun ρ hρ => by
            have e6 : ρ (.tmp 6) = .pointer (some ⟨p, 0, none⟩) := by rw [hρ]; exact hAA.2 6 (by simp)
            clear hρ hf hAA hl hK hg
            go_simp) (hK _ _ rfl ⟨rfl, hg.2⟩)
        · trivial
        · intro v w' AA hAA hg hf hl hgd K hK
          exact pure_step (.pointer (some ⟨p, 0, none⟩)) (fun ρ hρ => by
            have e51 : ρ (.tmp 51) = .pointer (some ⟨p, 0, none⟩) := by rw [hρ]; exact (hAA.1 5 _ 51 rfl rfl).trans (hf ⟨5, .data⟩ (by simp) rfl).1
            clear hρ hf hAA hl hK hg
            go_simp) (hK _ _ rfl ⟨rfl, hg.2⟩)
        · trivial
        · intro v w' AA hAA hg hf hl hgd K hK
          exact pure_step (.pointer (some ⟨p, 0, none⟩)) (fun ρ hρ => by
            have e52 : ρ (.tmp 52) = .pointer (some ⟨p, 0, none⟩) := by rw [hρ]; exact (hAA.1 6 _ 52 rfl rfl).trans (hf ⟨6, .data⟩ (by simp) rfl).1
            clear hρ hf hAA hl hK hg
            go_simp) (hK _ _ rfl ⟨rfl, hg.2⟩)
        · trivial
        · intro v w' AA hAA hg hf hl hgd K hK
          have hmid := load_x hg.2.1
          exact pure_step (xA x) (fun ρ hρ => by
            have e53 : ρ (.tmp 53) = .pointer (some ⟨p, 0, none⟩) := by rw [hρ]; exact (hAA.1 7 _ 53 rfl rfl).trans (hf ⟨7, .data⟩ (by simp) rfl).1
            clear hρ hf hAA hl hK hg
            unfold execOp
            simp only [e53, Instr.loadAt, Instr.sureAddr, Sem.run_bind, Sem.run_pure, Result.andThen_ok, hmid]) (hK _ _ rfl ⟨rfl, hg.2⟩)
        · trivial
        · intro v w' AA hAA hg hf hl hgd K hK
          exact pure_step (.pointer (some ⟨p, 0, none⟩)) (fun ρ hρ => by
            have e6 : ρ (.tmp 6) = .pointer (some ⟨p, 0, none⟩) := by rw [hρ]; exact hAA.2 6 (by simp)
            clear hρ hf hAA hl hK hg
            go_simp) (hK _ _ rfl ⟨rfl, hg.2⟩)
        · trivial
        · intro v w' AA hAA hg hf hl hgd K hK
          exact pure_step (.pointer (some ⟨p, 0, none⟩)) (fun ρ hρ => by
            have e55 : ρ (.tmp 55) = .pointer (some ⟨p, 0, none⟩) := by rw [hρ]; exact (hAA.1 9 _ 55 rfl rfl).trans (hf ⟨9, .data⟩ (by simp) rfl).1
            clear hρ hf hAA hl hK hg
            go_simp) (hK _ _ rfl ⟨rfl, hg.2⟩)
        · trivial
        · intro v w' AA hAA hg hf hl hgd K hK
          exact pure_step (.pointer (some ⟨p, 32, none⟩)) (fun ρ hρ => by
            have e56 : ρ (.tmp 56) = .pointer (some ⟨p, 0, none⟩) := by rw [hρ]; exact (hAA.1 10 _ 56 rfl rfl).trans (hf ⟨10, .data⟩ (by simp) rfl).1
            clear hρ hf hAA hl hK hg
            go_simp) (hK _ _ rfl ⟨rfl, hg.2⟩)
        · trivial
        · intro v w' AA hAA hg hf hl hgd K hK
          have hcell := (show w'.cell? ⟨p, 32, none⟩ = some (.int .u32 (pc : Int)) from hg.2.1.cellTab 32 (by decide))
          exact pure_step (.int .u32 (pc : Int)) (fun ρ hρ => by
            have e57 : ρ (.tmp 57) = .pointer (some ⟨p, 32, none⟩) := by rw [hρ]; exact (hAA.1 11 _ 57 rfl rfl).trans (hf ⟨11, .data⟩ (by simp) rfl).1
            clear hρ hf hAA hl hK hg
            go_simp) (hK _ _ rfl ⟨rfl, hg.2⟩)
        · trivial
        · intro v w' AA hAA hg hf hl hgd K hK
          refine new_step (w'' := w'.alloc (.cells (tab 32 (xV fun _ => 0)) 44)) (.pointer (some ⟨w'.heap.size, 0, none⟩)) (fun ρ hρ => by
              have hzz := hzx w'
              clear hρ hf hAA hl hK hg
              go_simp) ?_
          have hbA : Below w'.heap.size w' (w'.alloc (.cells (tab 32 (xV fun _ => 0)) 44)) := (Below.refl _ _).alloc (Nat.le_refl _) _
          have hone : OneT u1.heap.size (w'.alloc (.cells (tab 32 (xV fun _ => 0)) 44)) := one_alloc hg.1
          exact hK _ _ ⟨hg.1, hbA, hone⟩ ⟨⟨_, _, rfl, hg.2.2.2.1.size, Has.new _ _ _⟩, hg.2.1.after hbA, ram_only hg.2.2.1 (Only.of_below (S := fun _ => False) hbA) (fun h => h), hg.2.2.2.1.trans (hbA.mono hg.2.2.2.1.size), hone⟩
        · trivial
        · intro v w' AA hAA hg hf hl hgd K hK
          obtain ⟨ρ, hρ⟩ : ∃ ρ, ρ = AA.eval := ⟨_, rfl⟩
          obtain ⟨⟨gc, hv4, hgc4, hMc4⟩, _⟩ := hf ⟨4, .chain⟩ (by simp) rfl
          have e50 : ρ (.tmp 50) = mP gc := by rw [hρ]; exact (hAA.1 4 _ 50 rfl rfl).trans hv4
          refine pure_step (mP gc) (fun ρ2 hρ2 => by
              rw [hρ2, ← hρ]
              clear hρ hf hAA hl hK hg
              go_simp) (hK _ _ rfl ⟨⟨gc, rfl, hgc4, hMc4⟩, hg.2⟩)
        · trivial
        · intro v w' AA hAA hg hf hl hgd K hK
          obtain ⟨ρ, hρ⟩ : ∃ ρ, ρ = AA.eval := ⟨_, rfl⟩
          obtain ⟨⟨bt, ft, hv13, hbt13, hHt13⟩, _⟩ := hf ⟨13, .data⟩ (by simp) rfl
          have e8 : ρ (.tmp 8) = .pointer (some ⟨bt, 0, none⟩) := by rw [hρ]; exact (hAA.1 13 _ 8 rfl rfl).trans hv13
          have e54 : ρ (.tmp 54) = xA x := by rw [hρ]; exact (hAA.1 8 _ 54 rfl rfl).trans (hf ⟨8, .data⟩ (by simp) rfl).1
          rw [hρ] at e8 e54
          refine store_tabZ 44 _ _ rfl bt 0 e8 32 (xV x) e54 32 ft 44 hHt13 infoX (by decide) (fun _ => rfl) ?_
          intro w'' hX2 hg2 hsz2
          rw [tab_ext _ _ (xV x) fun j hj => by rw [if_pos ⟨Nat.zero_le _, by omega⟩]; rfl] at hX2
          have hOb : Only (S1 bt) w' w'' := Only.of_grown hg2 (fun l e => by injection e with e; exact e.symm)
          have hone : OneT u1.heap.size w'' := one_only hg.2.2.2.2 hOb hsz2 ⟨_, hHt13⟩
          exact hK _ _ ⟨bt, ft, hbt13, hHt13, hX2, hOb, hone⟩ ⟨⟨rfl, fun b cs hb hh => by have e := hone b bt cs _ hb hbt13 hh hX2; subst e; exact has_fun hh hX2⟩, (inv_15 HH1.out HM1.out hg.2 hbt13 hOb).1, (inv_15 HH1.out HM1.out hg.2 hbt13 hOb).2.1, (inv_15 HH1.out HM1.out hg.2 hbt13 hOb).2.2, hone⟩
        · trivial
        · intro v w' AA hAA hg hf hl hgd K hK
          exact pure_step (.int .u32 (pc : Int)) (fun ρ hρ => by
            have e58 : ρ (.tmp 58) = .int .u32 (pc : Int) := by rw [hρ]; exact (hAA.1 12 _ 58 rfl rfl).trans (hf ⟨12, .data⟩ (by simp) rfl).1
            clear hρ hf hAA hl hK hg
            go_simp) (hK _ _ rfl ⟨rfl, hg.2⟩)
        · trivial
      intro v wE hIE hE
      have f0 : v 0 = .pointer (some ⟨p, 0, none⟩) := (hE 0 (by decide)).1
      have f1 : v 1 = .pointer (some ⟨p, 0, none⟩) := (hE 1 (by decide)).1
      have f2 : v 2 = .pointer (some ⟨p, 34, none⟩) := (hE 2 (by decide)).1
      have f3 : v 3 = mP gm := (hE 3 (by decide)).1
      obtain ⟨⟨gc, hv4, hgc4, hMc4⟩, _⟩ := hE 4 (by decide)
      have f5 : v 5 = .pointer (some ⟨p, 0, none⟩) := (hE 5 (by decide)).1
      have f6 : v 6 = .pointer (some ⟨p, 0, none⟩) := (hE 6 (by decide)).1
      have f7 : v 7 = .pointer (some ⟨p, 0, none⟩) := (hE 7 (by decide)).1
      have f8 : v 8 = xA x := (hE 8 (by decide)).1
      have f9 : v 9 = .pointer (some ⟨p, 0, none⟩) := (hE 9 (by decide)).1
      have f10 : v 10 = .pointer (some ⟨p, 0, none⟩) := (hE 10 (by decide)).1
      have f11 : v 11 = .pointer (some ⟨p, 32, none⟩) := (hE 11 (by decide)).1
      have f12 : v 12 = .int .u32 (pc : Int) := (hE 12 (by decide)).1
      obtain ⟨⟨bt, ft, hv13, hbt13, hHt13⟩, _⟩ := hE 13 (by decide)
      obtain ⟨⟨gd, hv14, hgd14, hMd14⟩, _⟩ := hE 14 (by decide)
      obtain ⟨⟨hv15, hAll15⟩, _⟩ := hE 15 (by decide)
      have f16 : v 16 = .int .u32 (pc : Int) := (hE 16 (by decide)).1
      clear hE
      simp only [putAll, Act.put, List.setIfInBounds_toArray, List.set_cons_zero, List.set_cons_succ, Nat.zero_add, Nat.reduceAdd]
      rw [f0, f1, f2, f3, hv4, f5, f6, f7, f8, f9, f10, f11, f12, hv13, hv14, f16]
      clear f0 f1 f2 f3 f5 f6 f7 f8 f9 f10 f11 f12 f16
      have hT1 : Has wE bt 44 (tab 32 (xV x)) := by
        have e := hAll15 bt _ hbt13 hHt13
        rw [e] at hHt13
        exact hHt13
      obtain ⟨hH2, hM2, hBE, -⟩ := hIE
      have hI2 := O.below hI1 hBE
      have hB2 := hB1.trans (hBE.mono hB1.size)
      have hl1 : p < u1.heap.size ∧ g < u1.heap.size ∧ gm < u1.heap.size := ⟨HH1.out.lt, O.lt hI1, by obtain ⟨NN, _, hG⟩ := HM1.out; exact hG.lt⟩
      have hd1 : gd ≠ p ∧ gd ≠ g ∧ gd ≠ gm ∧ bt ≠ p ∧ bt ≠ g ∧ bt ≠ gm := by omega
      have HD := Lib.hid hd1
      have hst := K.step wE p g gm pc x s m (HW.out.trans (hB2.mono hws)) hH2 hI2 hM2 HNE.out.1 HNE.out.2.1 HNE.out.2.2.1 (by have := HLO.out; omega) (by have := HLO.out; omega) (by have := HLO.out; omega) hxl hpc (Or.inl hmo)
      have hway : Way x pc s m (stepR x pc s m) := step_way hpc hxl.lt
      have hok := O.ok hI1
      have hO2 : Only (SH p g gm) w4 wE := hO1.trans (Only.of_below hBE)
      generalize stepR x pc s m = R at *
      have hg1 : gm < u1.heap.size := hl1.2.2
      clear pg pm hAll15 hHt13 hMc4 hgc4 hv4 hd1 hB1 hI1 HH1 HM1 hl1 hO1
      go_upto_region 14 with (first
        | (go_at_call 11; refine hst.mono ?_; rintro e v5 ⟨rfl, ⟨hH5', hI5', hM5'⟩, hO5'⟩)
        | (refine wp_fresh 51 7 (trC R.d) _ _ _ rfl rfl rfl rfl hz infoTr (by decide) (trC_one _) rfl rfl ?_
           intro v6 hT6 hb6 hlt6
           go_frame))
      have hO6 : Only (SH p g gm) wE v6 := hO5'.trans (Only.of_below hb6)
      have hMd6 := ram_only hMd14 hO6 (fun e => by have h := HD.out; rcases e with e | e | e <;> omega)
      have hT16 := hO6.has hT1 (fun e => by have h := HD.out; rcases e with e | e | e <;> omega)
      have hH6 := hH5'.after hb6
      have hI6 := O.below hI5' hb6
      have hM6 := ram_only hM5' (Only.of_below (S := fun _ => False) hb6) (fun h => h)
      have hO7 := hO2.trans hO6
      have hB6 := hB2.trans (hO6.below (sh_ge HLO.out.2) hB2.size)
      clear hst hb6 hlt6 hH5' hI5' hM5' hO5' hO6 hO2 hB2 hMd14 hT1 hH2 hM2 hI2 hBE
      generalize v5.heap.size = tb at *
      have kg := get_any m gd 2147483648 65536 v6 hMd6 (by decide) (by decide) (by decide)
      go_upto_region 15 with (go_at_call 12; refine kg.mono ?_; rintro e v7 ⟨⟨A7, rfl, hw7⟩, hb7⟩)
      have hT7 := hT6.after hb7
      have hX7 := hT16.after hb7
      have hH7 := hH6.after hb7
      have hI7 := O.below hI6 hb7
      have hM7 := ram_only hM6 (Only.of_below (S := fun _ => False) hb7) (fun h => h)
      have hO8 := hO7.trans (Only.of_below (S := SH p g gm) hb7)
      have hB7 := hB6.trans (hb7.mono hB6.size)
      have pm7 : v7.cell? ⟨p, 34, none⟩ = some (mP gm) := hH7.cellTab 34 (by decide)
      have kg2 := get_any R.m gm 2147483648 65536 v7 hM7 (by decide) (by decide) (by decide)
      clear kg hMd6 hT6 hT16 hH6 hI6 hM6 hO7 hB6
      go_upto_region 16 with (go_at_call 12; refine kg2.mono ?_; rintro e v8 ⟨⟨A8, rfl, hw8⟩, hb8⟩)
      have hT8 := hT7.after hb8
      have hX8 := hX7.after hb8
      have hH8 := hH7.after hb8
      have hI8 := O.below hI7 hb8
      have hM8 := ram_only hM7 (Only.of_below (S := fun _ => False) hb8) (fun h => h)
      have hO9 := hO8.trans (Only.of_below (S := SH p g gm) hb8)
      have hB8 := hB7.trans (hb8.mono hB7.size)
      have hw78 := Pm.own_after hw7 hb8
      obtain ⟨D7, c7, rfl⟩ := own_form hw7
      obtain ⟨D8, c8, rfl⟩ := own_form hw8
      obtain ⟨b7, o7, rfl, hl7, hc7⟩ := (own_slA hw78).1.2.2 (by decide)
      obtain ⟨b8, o8, rfl, hl8, hc8⟩ := (own_slA hw8).1.2.2 (by decide)
      have hc7' : ∀ j, j < 65536 → v8.cell? ⟨b7, o7 + j, none⟩ = some (.int .u8 ((m j).toNat : Int)) := fun j hj => by
        rw [hc7 j hj, cut_get hj, show 2147483648 - 2147483648 + j = j by omega]
        rfl
      have hc8' : ∀ j, j < 65536 → v8.cell? ⟨b8, o8 + j, none⟩ = some (.int .u8 ((R.m j).toNat : Int)) := fun j hj => by
        rw [hc8 j hj, cut_get hj, show 2147483648 - 2147483648 + j = j by omega]
        rfl
      have hwid := hway.wid
      have HWAY := Lib.hid hway
      have HOK := Lib.hid hok
      have HC7 := Lib.hid hc7'
      have HC8 := Lib.hid hc8'
      have HT8 := Lib.hid hT8
      have HX8 := Lib.hid hX8
      have HH8 := Lib.hid hH8
      have HI8 := Lib.hid hI8
      have HM8 := Lib.hid hM8
      have HO9 := Lib.hid hO9
      have HB8 := Lib.hid hB8
      have HL := Lib.hid (And.intro hl7 hl8)
      clear kg2 hw78 hw7 hw8 hc7 hc8 hc7' hc8' hway hok hT8 hX8 hH8 hI8 hM8 hO9 hB8 hT7 hX7 hH7 hI7 hM7 hO8 hB7 hb7 hb8 pm7 hl7 hl8
      have hwI : (R.d.width : Int) < 5 := by omega
      have hwW : IntKind.u32.wrap (R.d.width : Int) = (R.d.width : Int) := by
        have e : (R.d.width : Int) % 4294967296 = (R.d.width : Int) := by omega
        simpa [IntKind.wrap, IntKind.signed, IntKind.bits] using e
      have haI : (R.d.at' : Int) < 4294967296 := by have := hwid.2; unfold L32 at this; omega
      go_wp2_with fail
      go_loopw [76] (fun ct wv => ∃ j : Nat, j ≤ 65536 ∧ ct = .int .i64 (j : Int) ∧ Below v8.heap.size v8 wv) (fun ct _ => (65536 - (intOf ct)).toNat)
      case atStart => exact ⟨0, Nat.zero_le _, rfl, Below.refl _ _⟩
      case round =>
        obtain ⟨j, hj, rfl, hbv⟩ := hrel
        have hT := HT8.out.after hbv
        have t1 : wr.cell? ⟨tb, 1, none⟩ = some (.bool R.d.trap) := hT.cellTab 1 (by decide)
        have t4 : wr.cell? ⟨tb, 4, none⟩ = some (.int .u32 (R.d.at' : Int)) := hT.cellTab 4 (by decide)
        have t5 : wr.cell? ⟨tb, 5, none⟩ = some (.int .i64 (R.d.width : Int)) := hT.cellTab 5 (by decide)
        have t6 : wr.cell? ⟨tb, 6, none⟩ = some (.bool R.d.store) := hT.cellTab 6 (by decide)
        have HBV := Lib.hid hbv
        by_cases hjl : j < 65536
        · have dj : (j : Int) < 65536 := by omega
          have y7 : wr.cell? ⟨b7, o7 + j, none⟩ = some (.int .u8 ((m j).toNat : Int)) := (hbv.cell (p := ⟨b7, o7 + j, none⟩) HL.out.1).trans (HC7.out j hjl)
          have y8 : wr.cell? ⟨b8, o8 + j, none⟩ = some (.int .u8 ((R.m j).toNat : Int)) := (hbv.cell (p := ⟨b8, o8 + j, none⟩) HL.out.2).trans (HC8.out j hjl)
          have hmem := HWAY.out.mem j
          obtain ⟨u, hu⟩ : ∃ u, u = 2147483648 + j := ⟨_, rfl⟩
          have eu : 2147483648 + (j : Int) = (u : Int) := by omega
          have uI : (u : Int) < 2147549184 := by omega
          obtain ⟨z, hz2⟩ : ∃ z, z = (R.d.at' + R.d.width) % 4294967296 := ⟨_, rfl⟩
          have ez : ((R.d.at' : Int) + (R.d.width : Int)) % 4294967296 = (z : Int) := by omega
          have ew : IntKind.u32.wrap ((R.d.at' : Int) + (R.d.width : Int)) = (z : Int) := by simpa [IntKind.wrap, IntKind.signed, IntKind.bits] using ez
          have same : ¬ (R.d.trap = false ∧ R.d.store = true ∧ 0 < R.d.width ∧ R.d.at' ≤ u ∧ u < z) → R.m j = m j := fun h => by
            rcases hmem with h1 | ⟨h1, h2, h3, h4, h5⟩
            · exact h1
            · exact absurd ⟨h1, h2, h3, by omega, by omega⟩ h
          have HSAME := Lib.hid same
          clear hmem same hbv hT hu hz2
          generalize R.d.trap = tr at *
          generalize R.d.store = st at *
          generalize R.d.width = wd at *
          generalize R.d.at' = at' at *
          by_cases c1 : 0 < wd
          case neg =>
            have d1 : ¬ (0 : Int) < (wd : Int) := by omega
            rw [HSAME.out (fun h => c1 h.2.2.1)] at y8
            generalize (m j).toNat = B at y7 y8
            go_upto_region 21 with fail
            go_quiet (fail)
            go_wp2_with fail
            go_roundw
            case rel => exact ⟨j + 1, hjl, by go_num, below_drewN HBV.out _⟩
            case measure => simp [intOf] <;> omega
          have d1 : (0 : Int) < (wd : Int) := by omega
          cases st with
          | false =>
            rw [HSAME.out (fun h => by cases h.2.1)] at y8
            generalize (m j).toNat = B at y7 y8
            go_upto_region 21 with fail
            go_quiet (fail)
            go_wp2_with fail
            go_roundw
            case rel => exact ⟨j + 1, hjl, by go_num, below_drewN HBV.out _⟩
            case measure => simp [intOf] <;> omega
          | true =>
            cases tr with
            | true =>
              rw [HSAME.out (fun h => by cases h.1)] at y8
              generalize (m j).toNat = B at y7 y8
              go_upto_region 21 with fail
              go_quiet (fail)
              go_wp2_with fail
              go_roundw
              case rel => exact ⟨j + 1, hjl, by go_num, below_drewN HBV.out _⟩
              case measure => simp [intOf] <;> omega
            | false =>
              by_cases c4 : at' ≤ u
              case neg =>
                have d4 : ¬ (at' : Int) ≤ (u : Int) := by omega
                rw [HSAME.out (fun h => c4 h.2.2.2.1)] at y8
                generalize (m j).toNat = B at y7 y8
                go_upto_region 21 with fail
                go_quiet (fail)
                go_wp2_with fail
                go_roundw
                case rel => exact ⟨j + 1, hjl, by go_num, below_drewN HBV.out _⟩
                case measure => simp [intOf] <;> omega
              have d4 : (at' : Int) ≤ (u : Int) := by omega
              by_cases c5 : u < z
              case neg =>
                have d5 : ¬ (u : Int) < (z : Int) := by omega
                rw [HSAME.out (fun h => c5 h.2.2.2.2)] at y8
                generalize (m j).toNat = B at y7 y8
                go_upto_region 21 with fail
                go_quiet (fail)
                go_wp2_with fail
                go_roundw
                case rel => exact ⟨j + 1, hjl, by go_num, below_drewN HBV.out _⟩
                case measure => simp [intOf] <;> omega
              have d5 : (u : Int) < (z : Int) := by omega
              go_upto_region 21 with fail
              go_quiet (fail)
              go_wp2_with fail
              go_roundw
              case rel => exact ⟨j + 1, hjl, by go_num, below_drewN HBV.out _⟩
              case measure => simp [intOf] <;> omega
        · obtain rfl : j = 65536 := by omega
          have HTv := Lib.hid hT
          have hHv := HH8.out.after hbv
          have HHv := Lib.hid hHv
          have hXv := HX8.out.after hbv
          have hIv := O.below HI8.out hbv
          have hMv := ram_only HM8.out (Only.of_below (S := fun _ => False) hbv) (fun h => h)
          have hbv2 := hbv
          have hOv := HO9.out.trans (Only.of_below (S := SH p g gm) hbv)
          have hBv := HB8.out.trans (hbv.mono HB8.out.size)
          have pg : wr.cell? ⟨p, 33, none⟩ = some (.pointer (some ⟨g, 0, none⟩)) := hHv.cellTab 33 (by decide)
          have hst := HWAY.out.s_is
          have hrx := HWAY.out.x_ok hxl
          have hrp := HWAY.out.pc_lt HOK.out
          have HEND := Lib.hid (And.intro hHv (And.intro hIv (And.intro hMv (And.intro hrx (And.intro hrp hOv)))))
          have fin : ∀ W, Below wr.heap.size wr W → ∃ (x : Nat → Nat) (pc : Nat) (s : St) (m : Nat → UInt8), Has W p 48 (tab 35 (hV x pc g (some gm))) ∧ Is W g s ∧ RamP W gm m ∧ XOk x ∧ pc < L32 := fun W hW =>
            ⟨R.x, R.pc, R.s, R.m, HEND.out.1.after hW, O.below HEND.out.2.1 hW, ram_only HEND.out.2.2.1 (Only.of_below (S := fun _ => False) hW) (fun h => h), HEND.out.2.2.2.1, HEND.out.2.2.2.2.1⟩
          have finO : ∀ W, Below wr.heap.size wr W → Only (SH p g gm) w4 W := fun W hW => HEND.out.2.2.2.2.2.trans (Only.of_below (S := SH p g gm) hW)
          have HFIN := Lib.hid (And.intro fin finO)
          have HHv2 := Lib.hid hHv
          have HXv := Lib.hid hXv
          have HBv := Lib.hid hBv
          clear fin finO hHv hXv hMv hrx hrp hT hBv
          cases htr : R.d.trap with
          | true =>
            rw [htr] at t1
            have hxe := HWAY.out.x_trap htr
            have qP : ∀ W, (∃ k, W = wr.drewN k) → (Instr.loadAt 44 (.pointer (some ⟨p, 0, none⟩))).run Tryz.prog W = .ok (xA x) W := by
              rintro W ⟨k, rfl⟩
              simp only [Instr.loadAt, Instr.sureAddr, Sem.run_bind, Sem.run_pure, Result.andThen_ok]
              rw [← hxe]
              exact load_x (HHv2.out.after (below_drewN (Below.refl _ _) k))
            have qX : ∀ W, (∃ k, W = wr.drewN k) → (Instr.loadAt 44 (.pointer (some ⟨bt, 0, none⟩))).run Tryz.prog W = .ok (xA x) W := by
              rintro W ⟨k, rfl⟩
              simp only [Instr.loadAt, Instr.sureAddr, Sem.run_bind, Sem.run_pure, Result.andThen_ok]
              exact load_xb (HXv.out.after (below_drewN (Below.refl _ _) k))
            clear hbv hbv2 hIv hOv hst hxe htr
            go_upto_region 32 with fail
            refine region_quiet_all (fun w' => ∃ n, w' = wr.drewN n) (by kernel_rfl) (by kernel_rfl) ⟨1, rfl⟩ ?_
            quiet_step (fail)
            quiet_step (fail)
            quiet_step (fail)
            quiet_step (fail)
            quiet_step (fail)
            quiet_step (fail)
            refine wpQ_load _ _ rfl rfl _ rfl (xA x) qP ?_
            refine wpQ_load _ _ rfl rfl _ rfl (xA x) qX ?_
            refine wpQ_bin _ _ _ _ _ rfl rfl (xA x) (xA x) rfl rfl (.bool false) (fun W _ => neq_x x W _ _) ?_
            repeat (quiet_step (fail))
            refine wpQuiet_nil ?_
            rintro w' ⟨nq, rfl⟩
            have hend := HFIN.out.1 (wr.drewN nq) (below_drewN (Below.refl _ _) nq)
            have hendO := HFIN.out.2 (wr.drewN nq) (below_drewN (Below.refl _ _) nq)
            go_wp2_with fail
            go_roundw
            case rel => exact ⟨i + 1, hlt, by go_num, hend, hendO⟩
            case measure => simp [intOf] <;> omega
          | false =>
            rw [htr] at t1
            rw [if_neg (by rw [htr]; decide)] at hst
            have hms : R.s.mode = 0 := by rw [hst]; exact hmo
            have hfe := HWAY.out.fetch htr
            have kPc : ∀ W, Below wr.heap.size wr W → Calls Tryz.prog 13 #[hP g, .int .u32 (pc : Int), .int .i64 4, .int .i64 4] W fun e w' => e = .returned (.bool true) ∧ Below W.heap.size W w' := fun W hW => by
              have h := M.may1 W g R.s pc 4 4 (HW.out.trans ((HBv.out.trans (hW.mono HBv.out.size)).mono hws)) (O.below hIv hW) hms hpc (by decide) (by decide) (by decide)
              rw [hst, may_tick, hfe] at h
              exact h
            have KPC := Lib.hid kPc
            by_cases hw0 : 0 < R.d.width
            · have dw : (0 : Int) < (R.d.width : Int) := by omega
              have hus := HWAY.out.used htr hw0
              have kHa : ∀ W, Calls Tryz.prog 14 #[mP gm, .int .u32 (R.d.at' : Int), .int .u32 (R.d.width : Int)] W fun e w' => e = .returned (.bool true) ∧ W = w' := fun W => by
                have h := has_any gm R.d.at' R.d.width W (by have := hwid.2; unfold L32 at this; exact this) (by omega)
                have h2 : inB R.d.at' R.d.width 2147483648 65536 = true := hus.1
                rw [h2] at h
                exact h
              have KHA := Lib.hid kHa
              cases hst6 : R.d.store with
              | false =>
                rw [hst6] at t6
                have kU : ∀ W, Below wr.heap.size wr W → Calls Tryz.prog 13 #[hP g, .int .u32 (R.d.at' : Int), .int .i64 (R.d.width : Int), .int .i64 1] W fun e w' => e = .returned (.bool true) ∧ Below W.heap.size W w' := fun W hW => by
                  have h := M.may1 W g R.s R.d.at' R.d.width 1 (HW.out.trans ((HBv.out.trans (hW.mono HBv.out.size)).mono hws)) (O.below hIv hW) hms hwid.2 hw0 (by omega) (by decide)
                  have h2 := hus.2
                  rw [hst6] at h2
                  rw [hst, may_tick, show mayS s R.d.at' R.d.width 1 = true from h2] at h
                  exact h
                have KU := Lib.hid kU
                have hbv2 : Below wr.heap.size wr wr := Below.refl _ _
                clear hbv hIv hOv hst hfe kPc hms kU kHa hus
                go_upto_region 28 with fail
                refine region_quiet_all (Below wr.heap.size wr) (by kernel_rfl) (by kernel_rfl) (below_drewN (Below.refl _ _) 1) ?_
                refine wpQ_move _ rfl rfl (hP p) rfl ?_
                simp only [Act.put, List.setIfInBounds_toArray, List.set_cons_zero, List.set_cons_succ]
                refine wpQ_val rfl (hP p) (fun w' hC => by go_simp) ?_
                simp only [Act.put, List.setIfInBounds_toArray, List.set_cons_zero, List.set_cons_succ]
                refine wpQ_val rfl (.pointer (some ⟨p, 33, none⟩)) (fun w' hC => by go_simp) ?_
                simp only [Act.put, List.setIfInBounds_toArray, List.set_cons_zero, List.set_cons_succ]
                refine wpQ_val rfl (hP g) (fun w' hC => by 
            have q0 := (show w'.cell? ⟨p, 33, none⟩ = some (hP g) from (HHv.out.after hC).cellTab 33 (by decide))
            go_simp) ?_
                simp only [Act.put, List.setIfInBounds_toArray, List.set_cons_zero, List.set_cons_succ]
                refine wpQ_val rfl (.pointer (some ⟨tb, 4, none⟩)) (fun w' hC => by go_simp) ?_
                simp only [Act.put, List.setIfInBounds_toArray, List.set_cons_zero, List.set_cons_succ]
                refine wpQ_val rfl (.int .u32 (R.d.at' : Int)) (fun w' hC => by 
            have q0 := (show w'.cell? ⟨tb, 4, none⟩ = some (.int .u32 (R.d.at' : Int)) from (HTv.out.after hC).cellTab 4 (by decide))
            go_simp) ?_
                simp only [Act.put, List.setIfInBounds_toArray, List.set_cons_zero, List.set_cons_succ]
                refine wpQ_val rfl (.pointer (some ⟨tb, 5, none⟩)) (fun w' hC => by go_simp) ?_
                simp only [Act.put, List.setIfInBounds_toArray, List.set_cons_zero, List.set_cons_succ]
                refine wpQ_val rfl (.int .i64 (R.d.width : Int)) (fun w' hC => by 
            have q0 := (show w'.cell? ⟨tb, 5, none⟩ = some (.int .i64 (R.d.width : Int)) from (HTv.out.after hC).cellTab 5 (by decide))
            go_simp) ?_
                simp only [Act.put, List.setIfInBounds_toArray, List.set_cons_zero, List.set_cons_succ]
                refine wpQ_move _ rfl rfl (.int .i64 1) rfl ?_
                simp only [Act.put, List.setIfInBounds_toArray, List.set_cons_zero, List.set_cons_succ]
                refine wpQ_fn 13 _ _ rfl rfl #[hP g, .int .u32 (R.d.at' : Int), .int .i64 (R.d.width : Int), .int .i64 1] rfl (fun _ => by go_simp) (.bool true) (fun w' hC => (KU.out w' (hbv2.trans (hC.mono hbv2.size))).mono fun e w'' ⟨he, hb⟩ => ⟨he, below_class hC hb⟩) ?_
                simp only [Act.put, List.setIfInBounds_toArray, List.set_cons_zero, List.set_cons_succ]
                refine wpQ_val rfl (.bool false) (fun w' hC => by go_simp) ?_
                simp only [Act.put, List.setIfInBounds_toArray, List.set_cons_zero, List.set_cons_succ]
                refine wpQ_move _ rfl rfl (.bool false) rfl ?_
                simp only [Act.put, List.setIfInBounds_toArray, List.set_cons_zero, List.set_cons_succ]
                refine wpQ_move _ rfl rfl (hP p) rfl ?_
                simp only [Act.put, List.setIfInBounds_toArray, List.set_cons_zero, List.set_cons_succ]
                refine wpQ_val rfl (hP p) (fun w' hC => by go_simp) ?_
                simp only [Act.put, List.setIfInBounds_toArray, List.set_cons_zero, List.set_cons_succ]
                refine wpQ_val rfl (.pointer (some ⟨p, 34, none⟩)) (fun w' hC => by go_simp) ?_
                simp only [Act.put, List.setIfInBounds_toArray, List.set_cons_zero, List.set_cons_succ]
                refine wpQ_val rfl (mP gm) (fun w' hC => by 
            have q0 := (show w'.cell? ⟨p, 34, none⟩ = some (mP gm) from (HHv.out.after hC).cellTab 34 (by decide))
            go_simp) ?_
                simp only [Act.put, List.setIfInBounds_toArray, List.set_cons_zero, List.set_cons_succ]
                refine wpQ_val rfl (.pointer (some ⟨tb, 4, none⟩)) (fun w' hC => by go_simp) ?_
                simp only [Act.put, List.setIfInBounds_toArray, List.set_cons_zero, List.set_cons_succ]
                refine wpQ_val rfl (.int .u32 (R.d.at' : Int)) (fun w' hC => by 
            have q0 := (show w'.cell? ⟨tb, 4, none⟩ = some (.int .u32 (R.d.at' : Int)) from (HTv.out.after hC).cellTab 4 (by decide))
            go_simp) ?_
                simp only [Act.put, List.setIfInBounds_toArray, List.set_cons_zero, List.set_cons_succ]
                refine wpQ_val rfl (.pointer (some ⟨tb, 5, none⟩)) (fun w' hC => by go_simp) ?_
                simp only [Act.put, List.setIfInBounds_toArray, List.set_cons_zero, List.set_cons_succ]
                refine wpQ_val rfl (.int .i64 (R.d.width : Int)) (fun w' hC => by 
            have q0 := (show w'.cell? ⟨tb, 5, none⟩ = some (.int .i64 (R.d.width : Int)) from (HTv.out.after hC).cellTab 5 (by decide))
            go_simp) ?_
                simp only [Act.put, List.setIfInBounds_toArray, List.set_cons_zero, List.set_cons_succ]
                refine wpQ_val rfl (.int .u32 (R.d.width : Int)) (fun w' hC => by go_simp) ?_
                simp only [Act.put, List.setIfInBounds_toArray, List.set_cons_zero, List.set_cons_succ]
                refine wpQ_fn 14 _ _ rfl rfl #[mP gm, .int .u32 (R.d.at' : Int), .int .u32 (R.d.width : Int)] rfl (fun _ => by go_simp) (.bool true) (fun w' hC => (KHA.out w').mono fun e w'' ⟨he, hb⟩ => ⟨he, hb ▸ hC⟩) ?_
                simp only [Act.put, List.setIfInBounds_toArray, List.set_cons_zero, List.set_cons_succ]
                refine wpQ_val rfl (.bool false) (fun w' hC => by go_simp) ?_
                simp only [Act.put, List.setIfInBounds_toArray, List.set_cons_zero, List.set_cons_succ]
                refine wpQ_val rfl (.bool false) (fun w' hC => by go_simp) ?_
                simp only [Act.put, List.setIfInBounds_toArray, List.set_cons_zero, List.set_cons_succ]
                refine wpQuiet_nil ?_
                intro w8 hC
                have t81 : w8.cell? ⟨tb, 1, none⟩ = some (.bool false) := by
                  have h := (HTv.out.after hC).cellTab 1 (by decide)
                  rw [h]
                  show some (Value.bool R.d.trap) = _
                  rw [htr]
                have pg8 : w8.cell? ⟨p, 33, none⟩ = some (.pointer (some ⟨g, 0, none⟩)) := (HHv2.out.after hC).cellTab 33 (by decide)
                have kp := KPC.out w8 hC
                have HC := Lib.hid hC
                clear hC hbv2
                go_upto_region 32 with (go_at_call 13; refine kp.mono ?_; rintro e w9 ⟨rfl, hb9⟩)
                have HB9 := Lib.hid (HC.out.trans (hb9.mono HC.out.size))
                have t9 : w9.cell? ⟨tb, 1, none⟩ = some (.bool false) := by
                  have h := (HTv.out.after HB9.out).cellTab 1 (by decide)
                  rw [h]
                  show some (Value.bool R.d.trap) = _
                  rw [htr]
                clear hb9 t81 pg8 t1 t4 t5 t6 pg
                go_quiet (fail)
                have hend := HFIN.out.1 (w9.drewN nq) (below_drewN HB9.out nq)
                have hendO := HFIN.out.2 (w9.drewN nq) (below_drewN HB9.out nq)
                go_wp2_with fail
                go_roundw
                case rel => exact ⟨i + 1, hlt, by go_num, hend, hendO⟩
                case measure => simp [intOf] <;> omega
              | true =>
                rw [hst6] at t6
                have kU : ∀ W, Below wr.heap.size wr W → Calls Tryz.prog 13 #[hP g, .int .u32 (R.d.at' : Int), .int .i64 (R.d.width : Int), .int .i64 2] W fun e w' => e = .returned (.bool true) ∧ Below W.heap.size W w' := fun W hW => by
                  have h := M.may1 W g R.s R.d.at' R.d.width 2 (HW.out.trans ((HBv.out.trans (hW.mono HBv.out.size)).mono hws)) (O.below hIv hW) hms hwid.2 hw0 (by omega) (by decide)
                  have h2 := hus.2
                  rw [hst6] at h2
                  rw [hst, may_tick, show mayS s R.d.at' R.d.width 2 = true from h2] at h
                  exact h
                have KU := Lib.hid kU
                have hbv2 : Below wr.heap.size wr wr := Below.refl _ _
                clear hbv hIv hOv hst hfe kPc hms kU kHa hus
                go_upto_region 28 with fail
                refine region_quiet_all (Below wr.heap.size wr) (by kernel_rfl) (by kernel_rfl) (below_drewN (Below.refl _ _) 1) ?_
                refine wpQ_move _ rfl rfl (hP p) rfl ?_
                simp only [Act.put, List.setIfInBounds_toArray, List.set_cons_zero, List.set_cons_succ]
                refine wpQ_val rfl (hP p) (fun w' hC => by go_simp) ?_
                simp only [Act.put, List.setIfInBounds_toArray, List.set_cons_zero, List.set_cons_succ]
                refine wpQ_val rfl (.pointer (some ⟨p, 33, none⟩)) (fun w' hC => by go_simp) ?_
                simp only [Act.put, List.setIfInBounds_toArray, List.set_cons_zero, List.set_cons_succ]
                refine wpQ_val rfl (hP g) (fun w' hC => by 
            have q0 := (show w'.cell? ⟨p, 33, none⟩ = some (hP g) from (HHv.out.after hC).cellTab 33 (by decide))
            go_simp) ?_
                simp only [Act.put, List.setIfInBounds_toArray, List.set_cons_zero, List.set_cons_succ]
                refine wpQ_val rfl (.pointer (some ⟨tb, 4, none⟩)) (fun w' hC => by go_simp) ?_
                simp only [Act.put, List.setIfInBounds_toArray, List.set_cons_zero, List.set_cons_succ]
                refine wpQ_val rfl (.int .u32 (R.d.at' : Int)) (fun w' hC => by 
            have q0 := (show w'.cell? ⟨tb, 4, none⟩ = some (.int .u32 (R.d.at' : Int)) from (HTv.out.after hC).cellTab 4 (by decide))
            go_simp) ?_
                simp only [Act.put, List.setIfInBounds_toArray, List.set_cons_zero, List.set_cons_succ]
                refine wpQ_val rfl (.pointer (some ⟨tb, 5, none⟩)) (fun w' hC => by go_simp) ?_
                simp only [Act.put, List.setIfInBounds_toArray, List.set_cons_zero, List.set_cons_succ]
                refine wpQ_val rfl (.int .i64 (R.d.width : Int)) (fun w' hC => by 
            have q0 := (show w'.cell? ⟨tb, 5, none⟩ = some (.int .i64 (R.d.width : Int)) from (HTv.out.after hC).cellTab 5 (by decide))
            go_simp) ?_
                simp only [Act.put, List.setIfInBounds_toArray, List.set_cons_zero, List.set_cons_succ]
                refine wpQ_move _ rfl rfl (.int .i64 2) rfl ?_
                simp only [Act.put, List.setIfInBounds_toArray, List.set_cons_zero, List.set_cons_succ]
                refine wpQ_fn 13 _ _ rfl rfl #[hP g, .int .u32 (R.d.at' : Int), .int .i64 (R.d.width : Int), .int .i64 2] rfl (fun _ => by go_simp) (.bool true) (fun w' hC => (KU.out w' (hbv2.trans (hC.mono hbv2.size))).mono fun e w'' ⟨he, hb⟩ => ⟨he, below_class hC hb⟩) ?_
                simp only [Act.put, List.setIfInBounds_toArray, List.set_cons_zero, List.set_cons_succ]
                refine wpQ_val rfl (.bool false) (fun w' hC => by go_simp) ?_
                simp only [Act.put, List.setIfInBounds_toArray, List.set_cons_zero, List.set_cons_succ]
                refine wpQ_move _ rfl rfl (.bool false) rfl ?_
                simp only [Act.put, List.setIfInBounds_toArray, List.set_cons_zero, List.set_cons_succ]
                refine wpQ_move _ rfl rfl (hP p) rfl ?_
                simp only [Act.put, List.setIfInBounds_toArray, List.set_cons_zero, List.set_cons_succ]
                refine wpQ_val rfl (hP p) (fun w' hC => by go_simp) ?_
                simp only [Act.put, List.setIfInBounds_toArray, List.set_cons_zero, List.set_cons_succ]
                refine wpQ_val rfl (.pointer (some ⟨p, 34, none⟩)) (fun w' hC => by go_simp) ?_
                simp only [Act.put, List.setIfInBounds_toArray, List.set_cons_zero, List.set_cons_succ]
                refine wpQ_val rfl (mP gm) (fun w' hC => by 
            have q0 := (show w'.cell? ⟨p, 34, none⟩ = some (mP gm) from (HHv.out.after hC).cellTab 34 (by decide))
            go_simp) ?_
                simp only [Act.put, List.setIfInBounds_toArray, List.set_cons_zero, List.set_cons_succ]
                refine wpQ_val rfl (.pointer (some ⟨tb, 4, none⟩)) (fun w' hC => by go_simp) ?_
                simp only [Act.put, List.setIfInBounds_toArray, List.set_cons_zero, List.set_cons_succ]
                refine wpQ_val rfl (.int .u32 (R.d.at' : Int)) (fun w' hC => by 
            have q0 := (show w'.cell? ⟨tb, 4, none⟩ = some (.int .u32 (R.d.at' : Int)) from (HTv.out.after hC).cellTab 4 (by decide))
            go_simp) ?_
                simp only [Act.put, List.setIfInBounds_toArray, List.set_cons_zero, List.set_cons_succ]
                refine wpQ_val rfl (.pointer (some ⟨tb, 5, none⟩)) (fun w' hC => by go_simp) ?_
                simp only [Act.put, List.setIfInBounds_toArray, List.set_cons_zero, List.set_cons_succ]
                refine wpQ_val rfl (.int .i64 (R.d.width : Int)) (fun w' hC => by 
            have q0 := (show w'.cell? ⟨tb, 5, none⟩ = some (.int .i64 (R.d.width : Int)) from (HTv.out.after hC).cellTab 5 (by decide))
            go_simp) ?_
                simp only [Act.put, List.setIfInBounds_toArray, List.set_cons_zero, List.set_cons_succ]
                refine wpQ_val rfl (.int .u32 (R.d.width : Int)) (fun w' hC => by go_simp) ?_
                simp only [Act.put, List.setIfInBounds_toArray, List.set_cons_zero, List.set_cons_succ]
                refine wpQ_fn 14 _ _ rfl rfl #[mP gm, .int .u32 (R.d.at' : Int), .int .u32 (R.d.width : Int)] rfl (fun _ => by go_simp) (.bool true) (fun w' hC => (KHA.out w').mono fun e w'' ⟨he, hb⟩ => ⟨he, hb ▸ hC⟩) ?_
                simp only [Act.put, List.setIfInBounds_toArray, List.set_cons_zero, List.set_cons_succ]
                refine wpQ_val rfl (.bool false) (fun w' hC => by go_simp) ?_
                simp only [Act.put, List.setIfInBounds_toArray, List.set_cons_zero, List.set_cons_succ]
                refine wpQ_val rfl (.bool false) (fun w' hC => by go_simp) ?_
                simp only [Act.put, List.setIfInBounds_toArray, List.set_cons_zero, List.set_cons_succ]
                refine wpQuiet_nil ?_
                intro w8 hC
                have t81 : w8.cell? ⟨tb, 1, none⟩ = some (.bool false) := by
                  have h := (HTv.out.after hC).cellTab 1 (by decide)
                  rw [h]
                  show some (Value.bool R.d.trap) = _
                  rw [htr]
                have pg8 : w8.cell? ⟨p, 33, none⟩ = some (.pointer (some ⟨g, 0, none⟩)) := (HHv2.out.after hC).cellTab 33 (by decide)
                have kp := KPC.out w8 hC
                have HC := Lib.hid hC
                clear hC hbv2
                go_upto_region 32 with (go_at_call 13; refine kp.mono ?_; rintro e w9 ⟨rfl, hb9⟩)
                have HB9 := Lib.hid (HC.out.trans (hb9.mono HC.out.size))
                have t9 : w9.cell? ⟨tb, 1, none⟩ = some (.bool false) := by
                  have h := (HTv.out.after HB9.out).cellTab 1 (by decide)
                  rw [h]
                  show some (Value.bool R.d.trap) = _
                  rw [htr]
                clear hb9 t81 pg8 t1 t4 t5 t6 pg
                go_quiet (fail)
                have hend := HFIN.out.1 (w9.drewN nq) (below_drewN HB9.out nq)
                have hendO := HFIN.out.2 (w9.drewN nq) (below_drewN HB9.out nq)
                go_wp2_with fail
                go_roundw
                case rel => exact ⟨i + 1, hlt, by go_num, hend, hendO⟩
                case measure => simp [intOf] <;> omega
            · have dw : ¬ (0 : Int) < (R.d.width : Int) := by omega
              clear hbv hbv2 hIv hOv hst hfe kPc hms
              have kp := KPC.out wr (Below.refl _ _)
              go_upto_region 32 with (go_at_call 13; refine kp.mono ?_; rintro e w9 ⟨rfl, hb9⟩)
              have HB9 := Lib.hid (hb9)
              have t9 : w9.cell? ⟨tb, 1, none⟩ = some (.bool false) := by
                have h := (HTv.out.after HB9.out).cellTab 1 (by decide)
                rw [h]
                show some (Value.bool R.d.trap) = _
                rw [htr]
              clear hb9 t1 t4 t5 t6 pg
              go_quiet (fail)
              have hend := HFIN.out.1 (w9.drewN nq) (below_drewN HB9.out nq)
              have hendO := HFIN.out.2 (w9.drewN nq) (below_drewN HB9.out nq)
              go_wp2_with fail
              go_roundw
              case rel => exact ⟨i + 1, hlt, by go_num, hend, hendO⟩
              case measure => simp [intOf] <;> omega
    · obtain rfl : i = N := by omega
      go_wp2_with fail
      go_ret
      exact ⟨rfl, hB1⟩
end Go.Proofs.YtgpofoggfifnjaaGreatDoor.Ha
