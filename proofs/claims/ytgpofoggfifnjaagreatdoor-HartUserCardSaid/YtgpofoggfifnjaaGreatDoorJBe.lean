/-
Layer 16, plain: what a step leaves of the registers of the machine; the law's count of steps.
Layer 16: HartUser over what the packages' calls answer.
Layer 16, plain: HartCounts: the registers of the machine at the beginning, and behind each step.
-/
import Derived.Test.YtgpofoggfifnjaaGreatDoorJBd
import Derived.Test.YtgpofoggfifnjaaGreatDoorJAw
namespace Go.Proofs.YtgpofoggfifnjaaGreatDoor.Ha
open Go Go.RowKit
open Go.Proofs.YtgpofoggfifnjaaGreatDoor.Cs (St upd upd_same upd_other dueC trapC tickC readC)
open Go.Proofs.YtgpofoggfifnjaaGreatDoor.Pm (En)

theorem tr_r (s : St) (p c v k : Nat) (h1 : k ≠ 768) (h2 : k ≠ 833) (h3 : k ≠ 834) (h4 : k ≠ 835) : (trapC s p c v).r k = s.r k := by
  show Cs.trR s p c v k = _
  unfold Cs.trR
  rw [upd_other _ _ h1, upd_other _ _ h4, upd_other _ _ h3, upd_other _ _ h2]
section
variable {x : Nat → Nat} {pc : Nat} {s : St} {m : Nat → UInt8} {R : Res}
theorem Way.r_same (h : Way x pc s m R) (k : Nat) (h1 : k ≠ 768) (h2 : k ≠ 833) (h3 : k ≠ 834) (h4 : k ≠ 835) : R.s.r k = s.r k := by
  rw [h.s_is]
  split
  · exact tr_r s pc _ _ k h1 h2 h3 h4
  · rfl
theorem Way.cfg_same (h : Way x pc s m R) : R.s.cfg = s.cfg := by
  rw [h.s_is]
  split <;> rfl
theorem Way.ent_same (h : Way x pc s m R) : entC R.s = entC s := by
  unfold entC
  refine List.map_congr_left fun i hi => ?_
  have hi := List.mem_range.1 hi
  rw [h.cfg_same, h.r_same (944 + i) (by omega) (by omega) (by omega) (by omega)]
theorem Way.on_s (h : Way x pc s m R) (ht : R.d.trap = false) : R.s = tickC s true := by rw [h.s_is, ht]; rfl
theorem Way.trap_mode (h : Way x pc s m R) (ht : R.d.trap = true) : R.s.mode = 3 := by rw [h.s_is, if_pos ht]; rfl
theorem Way.trap_st (h : Way x pc s m R) (ht : R.d.trap = true) : R.s.r 768 = s.r 768 / 8 % 2 * 128 + s.mode * 2048 := by
  rw [h.s_is, if_pos ht]
  exact Cs.tr_768 s pc R.d.cause R.d.tval
theorem Way.trap_pc (h : Way x pc s m R) (ht : R.d.trap = true) : R.pc = s.r 773 := by
  cases h with
  | trap => rfl
  | on d rd v pc' hd => rw [show (onR d x s m rd v pc').d = d from rfl, hd] at ht; cases ht
  | store d b pc' hd => rw [show (onR d x s (stM m d.at' (d.width : Int) b) 0 0 pc').d = d from rfl, hd] at ht; cases ht
end
/-- how many steps a law does -/
theorem steps_n (n : Int) (h : -9223372036854775808 ≤ n ∧ n ≤ 9223372036854775807) : ∃ (t : Int) (N : Nat), n.tmod 60 = t ∧ (-59 ≤ t ∧ t ≤ 59) ∧ (t + 60).tmod 60 = (N : Int) ∧ N < 60 := by
  have h1 : -59 ≤ n.tmod 60 ∧ n.tmod 60 ≤ 59 := by
    have e1 := Int.tmod_def n 60
    by_cases hn : 0 ≤ n
    · rw [Int.tmod_eq_emod_of_nonneg hn]; omega
    · have : n.tmod 60 = -((-n).tmod 60) := by rw [Int.neg_tmod, Int.neg_neg]
      rw [this, Int.tmod_eq_emod_of_nonneg (by omega)]; omega
  refine ⟨n.tmod 60, ((n.tmod 60 + 60) % 60).toNat, rfl, h1, ?_, by omega⟩
  rw [Int.tmod_eq_emod_of_nonneg (by omega)]
  omega
theorem bm0 (b : Nat) (h : b < 2) : bits .and .u32 ((b * 128 : Nat) : Int) 6144 = 0 := by
  rw [show (6144 : Int) = ((6144 : Nat) : Int) by rfl, u32_and_nat _ _ (by omega) (by decide)]
  rcases (show b = 0 ∨ b = 1 by omega) with rfl | rfl <;> decide
theorem infoSt (a : Sta) (t : Sls) : (Tryz.prog.info? 27).map (·.size) = some (staA a t).size := by kernel_rfl
theorem sta_user (w : World) (b : Nat) (a : Sta) (t : Sls) (H : Has w b 27 (staA a t)) : Has (w.setCell ⟨b, 3, none⟩ (.bool true)) b 27 (staA { a with user := true } t) := H.set 3 (.bool true)
theorem wp_fresh3h {P : Program} {w : World} {ops : Array Oper} {rest : List Oper} {o1 o3 o2 : Oper} {a : Act} {Q : Exit → Act → World → Prop} (ty : TypeId) (n : Nat) (v z : Nat → Value) (x y u : Operand) (U : Value)
    (hg1 : o1.guard = none) (h1 : o1.op = .alloc ty) (hg3 : o3.guard = none) (h3 : o3.op = .assign u) (hg2 : o2.guard = none) (h2 : o2.op = .store ty x y)
    (hz : ∀ w, (zeroValue ty).run P w = .ok (.agg (tab n z)) w) (hi : (P.info? ty).map (·.size) = some n) (h1v : ∀ j, (v j).oneCell' = true)
    (hu : (a.put o1.dst (.pointer (some ⟨w.heap.size, 0, none⟩))).eval u = U)
    (hx : ((a.put o1.dst (.pointer (some ⟨w.heap.size, 0, none⟩))).put o3.dst U).eval x = .pointer (some ⟨w.heap.size, 0, none⟩)) (hy : ((a.put o1.dst (.pointer (some ⟨w.heap.size, 0, none⟩))).put o3.dst U).eval y = .agg (tab n v))
    (h : ∀ w', Has w' w.heap.size ty (tab n v) → Below w.heap.size w w' → w.heap.size < w'.heap.size → wpList P ops Q rest (((a.put o1.dst (.pointer (some ⟨w.heap.size, 0, none⟩))).put o3.dst U).put o2.dst undef) w') : wpList P ops Q (o1 :: o3 :: o2 :: rest) a w := by
  refine wpList_plain hg1 fun K hK => ?_
  unfold Oper.wp execOp
  simp only [h1, Instr.alloc, Sem.run_bind, hz, Result.andThen_ok]
  have hnv : (newVar ty (.agg (tab n z))).run P w = .ok ⟨w.heap.size, 0, none⟩ (w.alloc (.cells (tab n z) ty)) := by
    go_simp
  simp only [hnv, Result.andThen_ok, Sem.run_pure]
  refine hK _ _ ?_
  refine wpList_plain hg3 fun K3 hK3 => ?_
  unfold Oper.wp execOp
  simp only [h3, Sem.run_pure, hu]
  refine hK3 _ _ ?_
  refine wp_store_tab hg2 ty x y h2 w.heap.size 0 hx n v hy n z ty (Has.new _ _ _) hi (by omega) h1v ?_
  intro w' hh hg
  have e : (tab n fun j => if 0 ≤ j ∧ j < 0 + n then v (j - 0) else z j) = tab n v := tab_ext _ _ _ fun j hj => by rw [if_pos ⟨Nat.zero_le _, by omega⟩]; rfl
  rw [e] at hh
  have hb1 : Below w.heap.size w (w.alloc (.cells (tab n z) ty)) := (Below.refl _ _).alloc (Nat.le_refl _) _
  have hb2 := hb1.trans (below_of_only hg (Nat.le_refl _) (by simp))
  exact h w' hh hb2 hh.lt
theorem infoEnz : (Tryz.prog.info? 38).map (fun i => (i.zero, i.size)) = some (some (.agg (tab 3 (Pm.enV Pm.en0))), 3) := by kernel_rfl
theorem zeroEn (w : World) : (zeroValue 38).run Tryz.prog w = .ok (.agg (tab 3 (Pm.enV Pm.en0))) w := (zero_of_info infoEnz).1 w
theorem wp_load_en {w : World} {ops : Array Oper} {rest : List Oper} {op : Oper} {a : Act} {Q : Exit → Act → World → Prop} (hgd : op.guard = none) (x : Operand) (ho : op.op = .load 38 x)
    (b o : Nat) (hx : a.eval x = .pointer (some ⟨b, o, none⟩)) (f : Nat → Value) (hc : w.rangeAt b o ((List.range 3).map f)) (h : wpList Tryz.prog ops Q rest (a.put op.dst (.agg (tab 3 f))) w) : wpList Tryz.prog ops Q (op :: rest) a w :=
  wpList_load_mid hgd 38 x ho b o hx _ _ hc Tryz.underlying38 rfl (by simpa using Pm.infoE) h
theorem neq_ent (i r : Int) (a : Nat) (W : World) (t u : Operand) :
  (do eqGuard .neq 38 t u (.agg #[.int .i64 i, .int .i64 r, .int .u32 (a : Int)]) (.agg #[.int .i64 i, .int .i64 r, .int .u32 (a : Int)]); binOp .neq 38 (.agg #[.int .i64 i, .int .i64 r, .int .u32 (a : Int)]) (.agg #[.int .i64 i, .int .i64 r, .int .u32 (a : Int)])).run Tryz.prog W = .ok (.bool false) W := by
  go_simp
end Go.Proofs.YtgpofoggfifnjaaGreatDoor.Ha
namespace Go.Proofs.YtgpofoggfifnjaaGreatDoor.Ha
open Go Go.RowKit
open Go.Proofs.YtgpofoggfifnjaaGreatDoor (opOf inR stM ldV stB RamP mP)
open Go.Proofs.YtgpofoggfifnjaaGreatDoor.Cs (St st0_ok upd upd_same upd_other dueC trapC tickC readC rM rM_in isK CsrOK Only S1 hP one_new slE_only)
open Go.Proofs.YtgpofoggfifnjaaGreatDoor.Pm (En SlE enV en0 wp_fresh at_entry infoE)

theorem read_in' (s : St) (n : Nat) (h : isK n = true) (_h2 : n ≠ 836) : readC s n = some (s.r n) := by
  have hk := h
  unfold isK at hk
  simp only [Bool.or_eq_true, beq_iff_eq, Bool.and_eq_true, decide_eq_true_eq] at hk
  unfold readC
  rw [if_neg (by omega), if_neg (by omega), if_neg (by omega), if_neg (by omega), if_neg (by omega), if_neg (by omega), if_neg (by omega)]
  exact rM_in s n h
theorem sh_ge {B p g gm : Nat} (h : B ≤ p ∧ B ≤ g ∧ B ≤ gm) : ∀ i, SH p g gm i → B ≤ i := by
  rintro i (e | e | e) <;> omega
set_option maxRecDepth 100000 in
set_option maxHeartbeats 8000000 in
theorem user16_ok {Is : World → Nat → St → Prop} {W0 : World} (O : CsrOK Is) (K : HartOK Is W0) (M : CsrMore Is W0) (a : Sta) (t : Sls) (n : Int) (w : World) (hW : Below W0.heap.size W0 w) (hS : StaOk w a t) (hn : -9223372036854775808 ≤ n ∧ n ≤ 9223372036854775807) :
    Calls Tryz.prog 4 #[.agg (staA a t), .int .i64 n] w fun e w' => e = .returned (.bool true) ∧ Below w.heap.size w w' := by
  obtain ⟨u, hu, hJ, hb0, hz0⟩ := one_new w (staA a t) 27
  replace hu := hu.symm
  obtain ⟨bs, hbs⟩ : ∃ b, b = w.heap.size := ⟨_, rfl⟩
  rw [← hbs] at hJ
  have hws := hW.size
  have hF := fit16_ok O K u (hW.trans (hb0.mono hws))
  have hSm := small16_any a t
  have HW := Lib.hid hW
  have HS0 := Lib.hid (hS.after hb0)
  have HSw := Lib.hid hS
  have HB0 := Lib.hid hb0
  have HJ := Lib.hid hJ
  have hbw := Lib.hid (show w.heap.size ≤ bs ∧ bs < u.heap.size by omega)
  clear hW hS hJ hb0 hz0
  go_enter Tryz.func4, Tryz.ntmps4
  have hu2 : w.alloc (.cells (staA a t) 27) = u := hu
  go_upto_region 1 with fail
  first | rw [hu2] | skip
  first | rw [← hbs] | skip
  clear hu hu2 hbs
  go_upto_region 3 with (go_at_call 7; refine hF.mono ?_; rintro e w1 ⟨rfl, hb1⟩)
  have hJ1 := HJ.out.after hb1
  have hS1 := HS0.out.after hb1
  have hB1 := HB0.out.trans (hb1.mono HB0.out.size)
  have hSm1 := hSm w1
  have HB1 := Lib.hid hB1
  have HS1 := Lib.hid hS1
  have hsz := staA a t
  clear hF hb1 hB1 hS1 hSm hsz
  by_cases hsm : smB t = true
  case neg =>
    rw [Bool.eq_false_iff.2 hsm] at hSm1
    clear hsm
    go_wp2_with (first
      | (refine wpList_load_has 27 _ rfl _ rfl rfl 27 _ hJ1 _ Tryz.underlying27 rfl (infoSt a t) ?_)
      | (go_at_call 8; refine hSm1.mono ?_; rintro e w2 ⟨rfl, hb2⟩))
    go_ret
    exact ⟨rfl, HB1.out.trans (hb2.mono HB1.out.size)⟩
  case pos =>
  rw [hsm] at hSm1
  go_upto_region 5 with (first
    | (refine wpList_load_has 27 _ rfl _ rfl rfl 27 _ hJ1 _ Tryz.underlying27 rfl (infoSt a t) ?_)
    | (go_at_call 8; refine hSm1.mono ?_; rintro e w2 ⟨rfl, hb2⟩))
  have hJ2 := hJ1.after hb2
  have f3 : w2.frozen? ⟨bs, 3, none⟩ = false := hJ2.free 3
  have c3 : w2.cell? ⟨bs, 3, none⟩ = some (.bool a.user) := hJ2.cell 3
  have hJ3 := sta_user w2 bs a t hJ2
  have hO3 : Only (S1 bs) w2 (w2.setCell ⟨bs, 3, none⟩ (.bool true)) := Only.setCell (S := S1 bs) _ (show S1 bs bs from rfl) _
  have hB2 := HB1.out.trans (hb2.mono HB1.out.size)
  have hB3 : Below w.heap.size w (w2.setCell ⟨bs, 3, none⟩ (.bool true)) := hB2.trans (hO3.below (fun i e => by have e : i = bs := e; have := hbw.out.1; omega) hB2.size)
  have hS3 : StaOk (w2.setCell ⟨bs, 3, none⟩ (.bool true)) { a with user := true } t := by
    have h := HSw.out.after hB3
    exact ⟨h.w, h.x, h.l, h.c, h.pc⟩
  have hbg := begin_any O K { a with user := true } t _ (HW.out.trans (hB3.mono hws)) hS3 hsm
  unfold BegO at hbg
  have hs0 : (begS { a with user := true }).mode = 0 := by unfold begS; rw [if_pos rfl]
  generalize begS { a with user := true } = s0 at *
  have HB3 := Lib.hid hB3
  clear hSm1 hJ1 hJ2 hO3 hB2 hB3 hS3 hb2 hsm
  go_upto_region 7 with (first
    | (refine wpList_load_has 27 _ rfl _ rfl rfl 27 _ hJ3 _ Tryz.underlying27 rfl (infoSt _ t) ?_)
    | (go_at_call 9; refine hbg.mono ?_; rintro e w4 ⟨pp, p, q, g, gm, x, m, rfl, hP4, hH4, hI4, hM4, hx0, hxl, hne, hlo, hb4⟩))
  clear f3 c3 hJ3 hbg
  have hB4 := HB3.out.trans (hb4.mono HB3.out.size)
  have pc0 : w4.cell? ⟨pp, 0, none⟩ = some (.pointer (some ⟨p, 0, none⟩)) := hP4.cell 0
  have pg : w4.cell? ⟨p, 33, none⟩ = some (.pointer (some ⟨g, 0, none⟩)) := hH4.cellTab 33 (by decide)
  have hE := M.entries w4 g s0 hI4
  have h3w := HB3.out.size
  have h4w := hb4.size
  have hlo2 : w.heap.size ≤ pp ∧ w.heap.size ≤ p ∧ w.heap.size ≤ g ∧ w.heap.size ≤ gm := by omega
  have hltp := hH4.lt
  have hltg := O.lt hI4
  have hltm : gm < w4.heap.size := by obtain ⟨N, _, hG⟩ := hM4; exact hG.lt
  have HNE := Lib.hid hne
  have HLO := Lib.hid hlo2
  have HLT := Lib.hid (And.intro hltp (And.intro hltg hltm))
  clear hne hlo hlo2 hb4 h3w h4w hltp hltg hltm
  go_upto_region 8 with (go_at_call 15; refine hE.mono ?_; rintro e w5 ⟨⟨AE, cE, rfl, hSE, hAE⟩, hb5⟩)
  have hP5 := hP4.after hb5
  have hH5 := hH4.after hb5
  have hI5 := O.below hI4 hb5
  have hM5 := ram_only hM4 (Only.of_below (S := fun _ => False) hb5) (fun h => h)
  have hB5 := hB4.trans (hb5.mono hB4.size)
  obtain ⟨nt, N, k1, k2, k3, k4⟩ := steps_n n hn
  have k2a := k2.1
  have k2b := k2.2
  have HP5 := Lib.hid hP5
  have HSE := Lib.hid hSE
  have hneE : ∀ b o, AE = some ⟨b, o, none⟩ → 0 < 16 → ¬ SH p g gm b := by
    intro b o e _ hs
    have h1 := hAE b o e
    have h2 := HLT.out
    rcases hs with e2 | e2 | e2 <;> omega
  have HNEE := Lib.hid hneE
  have HB5 := Lib.hid hB5
  have hz := zeroTr
  have hpc0 : (2147487744 + a.pc) % L32 < L32 := Nat.mod_lt _ (by decide)
  generalize (2147487744 + a.pc) % L32 = pc at *
  clear pc0 pg hE hP4 hH4 hI4 hM4 hB4 hb5 hP5 hSE hAE hneE hB5 k2 hn
  go_upto_region 10 with fail
  go_loopw [43] (fun ct wv => ∃ i : Nat, i ≤ N ∧ ct = .int .i64 (i : Int) ∧ (∃ (x : Nat → Nat) (pc : Nat) (s : St) (m : Nat → UInt8), Has wv p 48 (tab 35 (hV x pc g (some gm))) ∧ Is wv g s ∧ RamP wv gm m ∧ XOk x ∧ pc < L32 ∧ s.mode = 0 ∧ entC s = entC s0) ∧ Only (SH p g gm) w5 wv) (fun ct _ => (N - (intOf ct)).toNat)
  case atStart => exact ⟨0, Nat.zero_le _, rfl, ⟨x, pc, s0, m, hH5, hI5, hM5, ⟨hxl, hx0⟩, hpc0, hs0, rfl⟩, Only.refl _ _⟩
  case round =>
    obtain ⟨i, hi, rfl, ⟨x, pc, s, m, hH1, hI1, hM1, hxl, hpc, hmo, hen⟩, hO1⟩ := hrel
    by_cases hlt : i < N
    · have di : (i : Int) < (N : Int) := by omega
      have hP1 := hO1.has HP5.out (fun e => by have h := HNE.out; rcases e with e | e | e <;> omega)
      generalize hu1 : wr = u1 at *
      clear hu1
      have hok := O.ok hI1
      have HXL := Lib.hid (And.intro hxl (And.intro hpc (And.intro hmo (And.intro hen hok))))
      clear hxl hpc hmo hen hok
      have pc0 : u1.cell? ⟨pp, 0, none⟩ = some (.pointer (some ⟨p, 0, none⟩)) := hP1.cell 0
      have pg : u1.cell? ⟨p, 33, none⟩ = some (.pointer (some ⟨g, 0, none⟩)) := hH1.cellTab 33 (by decide)
      have r2 := O.read u1 g s 773 hI1 (by decide)
      rw [read_in' s 773 rfl (by decide)] at r2
      dsimp only [Option.getD_some, Option.isSome_some] at r2
      go_upto_region 12 with (go_at_call 16; refine r2.mono ?_; rintro e u2 ⟨rfl, hb2⟩)
      have hI2 := O.below hI1 hb2
      have hP2 := hP1.after hb2
      have hH2 := hH1.after hb2
      have hM2 := ram_only hM1 (Only.of_below (S := fun _ => False) hb2) (fun h => h)
      have hO2 : Only (SH p g gm) w5 u2 := hO1.trans (Only.of_below hb2)
      clear pc0 pg r2 hb2 hI1 hP1 hH1 hM1 hO1
      have pc0 : u2.cell? ⟨pp, 0, none⟩ = some (.pointer (some ⟨p, 0, none⟩)) := hP2.cell 0
      have pg : u2.cell? ⟨p, 33, none⟩ = some (.pointer (some ⟨g, 0, none⟩)) := hH2.cellTab 33 (by decide)
      have r3 := O.read u2 g s 768 hI2 (by decide)
      rw [read_in' s 768 rfl (by decide)] at r3
      dsimp only [Option.getD_some, Option.isSome_some] at r3
      go_upto_region 13 with (go_at_call 16; refine r3.mono ?_; rintro e u3 ⟨rfl, hb3⟩)
      have hI3 := O.below hI2 hb3
      have hP3 := hP2.after hb3
      have hH3 := hH2.after hb3
      have hM3 := ram_only hM2 (Only.of_below (S := fun _ => False) hb3) (fun h => h)
      have hO3 : Only (SH p g gm) w5 u3 := hO2.trans (Only.of_below hb3)
      clear pc0 pg r3 hb3 hI2 hP2 hH2 hM2 hO2
      have pc0 : u3.cell? ⟨pp, 0, none⟩ = some (.pointer (some ⟨p, 0, none⟩)) := hP3.cell 0
      have pg : u3.cell? ⟨p, 33, none⟩ = some (.pointer (some ⟨g, 0, none⟩)) := hH3.cellTab 33 (by decide)
      have r4 := O.read u3 g s 832 hI3 (by decide)
      rw [read_in' s 832 rfl (by decide)] at r4
      dsimp only [Option.getD_some, Option.isSome_some] at r4
      go_upto_region 14 with (go_at_call 16; refine r4.mono ?_; rintro e u4 ⟨rfl, hb4⟩)
      have hI4 := O.below hI3 hb4
      have hP4 := hP3.after hb4
      have hH4 := hH3.after hb4
      have hM4 := ram_only hM3 (Only.of_below (S := fun _ => False) hb4) (fun h => h)
      have hO4 : Only (SH p g gm) w5 u4 := hO3.trans (Only.of_below hb4)
      clear pc0 pg r4 hb4 hI3 hP3 hH3 hM3 hO3
      have pc0 : u4.cell? ⟨pp, 0, none⟩ = some (.pointer (some ⟨p, 0, none⟩)) := hP4.cell 0
      have pg : u4.cell? ⟨p, 33, none⟩ = some (.pointer (some ⟨g, 0, none⟩)) := hH4.cellTab 33 (by decide)
      have hway : Way x pc s m (stepR x pc s m) := step_way HXL.out.2.1 HXL.out.1.lt
      have hst := K.step u4 p g gm pc x s m (HW.out.trans ((HB5.out.trans (hO4.below (sh_ge HLO.out.2) HB5.out.size)).mono hws)) hH4 hI4 hM4 HNE.out.1 HNE.out.2.1 HNE.out.2.2.1 (by have := HLO.out; omega) (by have := HLO.out; omega) (by have := HLO.out; omega) HXL.out.1 HXL.out.2.1 (Or.inl HXL.out.2.2.1)
      generalize stepR x pc s m = R at *
      go_upto_region 15 with (first
        | (go_at_call 11; refine hst.mono ?_; rintro e u5 ⟨rfl, ⟨hH5', hI5', hM5'⟩, hO5'⟩)
        | (refine wp_fresh 51 7 (trC R.d) _ _ _ rfl rfl rfl rfl hz infoTr (by decide) (trC_one _) rfl rfl ?_
           intro u6 hT6 hb6 hlt6
           go_frame))
      have hP6 := (hO5'.has hP4 (fun e => by have h := HNE.out; rcases e with e | e | e <;> omega)).after hb6
      have hH6 := hH5'.after hb6
      have hI6 := O.below hI5' hb6
      have hM6 := ram_only hM5' (Only.of_below (S := fun _ => False) hb6) (fun h => h)
      have hO6 : Only (SH p g gm) w5 u6 := (hO4.trans hO5').trans (Only.of_below hb6)
      clear pc0 pg hst hb6 hlt6 hH5' hI5' hM5' hO5' hP4 hH4 hI4 hM4 hO4
      generalize u5.heap.size = tb at *
      have pc0 : u6.cell? ⟨pp, 0, none⟩ = some (.pointer (some ⟨p, 0, none⟩)) := hP6.cell 0
      have pg : u6.cell? ⟨p, 33, none⟩ = some (.pointer (some ⟨g, 0, none⟩)) := hH6.cellTab 33 (by decide)
      have r7 := O.read u6 g R.s 773 hI6 (by decide)
      rw [read_in' R.s 773 rfl (by decide)] at r7
      dsimp only [Option.getD_some, Option.isSome_some] at r7
      rw [hway.r_same 773 (by decide) (by decide) (by decide) (by decide)] at r7
      go_upto_region 16 with (go_at_call 16; refine r7.mono ?_; rintro e u7 ⟨rfl, hb7⟩)
      have hI7 := O.below hI6 hb7
      have hP7 := hP6.after hb7
      have hH7 := hH6.after hb7
      have hM7 := ram_only hM6 (Only.of_below (S := fun _ => False) hb7) (fun h => h)
      have hO7 : Only (SH p g gm) w5 u7 := hO6.trans (Only.of_below hb7)
      have hT7 := hT6.after hb7
      clear hT6
      clear pc0 pg r7 hb7 hI6 hP6 hH6 hM6 hO6
      have pc0 : u7.cell? ⟨pp, 0, none⟩ = some (.pointer (some ⟨p, 0, none⟩)) := hP7.cell 0
      have pg : u7.cell? ⟨p, 33, none⟩ = some (.pointer (some ⟨g, 0, none⟩)) := hH7.cellTab 33 (by decide)
      have r8 := O.read u7 g R.s 768 hI7 (by decide)
      rw [read_in' R.s 768 rfl (by decide)] at r8
      dsimp only [Option.getD_some, Option.isSome_some] at r8
      go_upto_region 17 with (go_at_call 16; refine r8.mono ?_; rintro e u8 ⟨rfl, hb8⟩)
      have hI8 := O.below hI7 hb8
      have hP8 := hP7.after hb8
      have hH8 := hH7.after hb8
      have hM8 := ram_only hM7 (Only.of_below (S := fun _ => False) hb8) (fun h => h)
      have hO8 : Only (SH p g gm) w5 u8 := hO7.trans (Only.of_below hb8)
      have hT8 := hT7.after hb8
      clear hT7
      clear pc0 pg r8 hb8 hI7 hP7 hH7 hM7 hO7
      have pc0 : u8.cell? ⟨pp, 0, none⟩ = some (.pointer (some ⟨p, 0, none⟩)) := hP8.cell 0
      have pg : u8.cell? ⟨p, 33, none⟩ = some (.pointer (some ⟨g, 0, none⟩)) := hH8.cellTab 33 (by decide)
      have r9 := O.read u8 g R.s 832 hI8 (by decide)
      rw [read_in' R.s 832 rfl (by decide)] at r9
      dsimp only [Option.getD_some, Option.isSome_some] at r9
      rw [hway.r_same 832 (by decide) (by decide) (by decide) (by decide)] at r9
      go_upto_region 18 with (go_at_call 16; refine r9.mono ?_; rintro e u9 ⟨rfl, hb9⟩)
      have hI9 := O.below hI8 hb9
      have hP9 := hP8.after hb9
      have hH9 := hH8.after hb9
      have hM9 := ram_only hM8 (Only.of_below (S := fun _ => False) hb9) (fun h => h)
      have hO9 : Only (SH p g gm) w5 u9 := hO8.trans (Only.of_below hb9)
      have hT9 := hT8.after hb9
      clear hT8
      clear pc0 pg r9 hb9 hI8 hP8 hH8 hM8 hO8
      have pc0 : u9.cell? ⟨pp, 0, none⟩ = some (.pointer (some ⟨p, 0, none⟩)) := hP9.cell 0
      have pg : u9.cell? ⟨p, 33, none⟩ = some (.pointer (some ⟨g, 0, none⟩)) := hH9.cellTab 33 (by decide)
      have hE2 := M.entries u9 g R.s hI9
      rw [hway.ent_same, HXL.out.2.2.2.1] at hE2
      go_upto_region 20 with fail
      go_upto_region 21 with (go_at_call 15; refine hE2.mono ?_; rintro e u10 ⟨⟨A2, c2, rfl, hSE2, hA2⟩, hb10⟩)
      have hI10 := O.below hI9 hb10
      have hP10 := hP9.after hb10
      have hH10 := hH9.after hb10
      have hM10 := ram_only hM9 (Only.of_below (S := fun _ => False) hb10) (fun h => h)
      have hT10 := hT9.after hb10
      have hO10 : Only (SH p g gm) w5 u10 := hO9.trans (Only.of_below hb10)
      have hSE1 := slE_only HSE.out hO10 HNEE.out
      have HI10 := Lib.hid hI10
      have HP10 := Lib.hid hP10
      have HH10 := Lib.hid hH10
      have HM10 := Lib.hid hM10
      have HT10 := Lib.hid hT10
      have HO10 := Lib.hid hO10
      have HSE1 := Lib.hid hSE1
      have HSE2 := Lib.hid hSE2
      have hzE := zeroEn
      have hNE := neq_ent
      clear pc0 pg hE2 hI9 hP9 hH9 hM9 hT9 hO9 hI10 hP10 hH10 hM10 hT10 hO10 hSE1 hSE2 hb10 hA2
      go_loopw [133] (fun ct wv => ∃ j : Nat, j ≤ 16 ∧ ct = .int .i64 (j : Int) ∧ Below u10.heap.size u10 wv) (fun ct _ => (16 - (intOf ct)).toNat)
      case atStart => exact ⟨0, Nat.zero_le _, rfl, Below.refl _ _⟩
      case round =>
        obtain ⟨j, hj, rfl, hbj⟩ := hrel
        by_cases hlj : j < 16
        · have dj : (j : Int) < 16 := by omega
          have hS1 := HSE1.out.below hbj
          have hS2 := HSE2.out.below hbj
          obtain ⟨b1, o1, hA1, hbl1, hc1⟩ := hS1.2.1.2 (show 0 < 16 by omega)
          obtain ⟨b2, o2, hA2, hbl2, hc2⟩ := hS2.2.1.2 (show 0 < 16 by omega)
          dsimp only at hA1 hA2
          subst hA1 hA2
          have hrg2 := hS2.2.1.range rfl hlj
          have hone := fun k => Pm.enV_one ((entC s0).getD j en0) k
          have hat1 := fun W => at_entry b1 o1 16 cE j (by omega) W
          have hat2 := fun W => at_entry b2 o2 16 c2 j (by omega) W
          have d0 := hc1 j 0 hlj (by decide)
          have d1 := hc1 j 1 hlj (by decide)
          have d2 := hc1 j 2 hlj (by decide)
          dsimp only at d0 d1 d2
          generalize hE : (entC s0).getD j en0 = E at *
          simp only [enV, Nat.add_zero] at d0 d1 d2
          have hf0 : enV E 0 = .int .i64 E.w := rfl
          have hf1 : enV E 1 = .int .i64 E.r := rfl
          have hf2 : enV E 2 = .int .u32 (E.a : Int) := rfl
          generalize enV E = f at *
          have HB := Lib.hid hbj
          clear hS1 hS2 hc1 hc2 hE hbj
          go_upto_region 22 with fail
          go_upto_region 23 with (first
            | (refine wp_load_en rfl _ rfl b2 (o2 + j * 3) rfl f hrg2 ?_)
            | (refine wp_fresh3h 38 3 f _ _ _ _ _ rfl rfl rfl rfl rfl rfl hzE infoE hone rfl rfl rfl ?_
               intro v7 hH7 hb7 hlt7
               go_frame))
          have e0 : v7.cell? ⟨wr.heap.size, 0, none⟩ = some (.int .i64 E.w) := by rw [hH7.cellTab 0 (by decide), hf0]
          have e1 : v7.cell? ⟨wr.heap.size, 1, none⟩ = some (.int .i64 E.r) := by rw [hH7.cellTab 1 (by decide), hf1]
          have e2 : v7.cell? ⟨wr.heap.size, 2, none⟩ = some (.int .u32 (E.a : Int)) := by rw [hH7.cellTab 2 (by decide), hf2]
          have g0 := (hb7.cell (p := ⟨b1, o1 + j * 3, none⟩) hbl1).trans d0
          have g1 := (hb7.cell (p := ⟨b1, o1 + j * 3 + 1, none⟩) hbl1).trans d1
          have g2 := (hb7.cell (p := ⟨b1, o1 + j * 3 + 2, none⟩) hbl1).trans d2
          have HB7 := Lib.hid (HB.out.trans (hb7.mono HB.out.size))
          clear hH7 hb7 hlt7 d0 d1 d2 hf0 hf1 hf2 hrg2 hone hat2 hbl1 hbl2
          generalize wr.heap.size = bx at *
          generalize E.w = ew at *
          generalize E.r = er at *
          generalize E.a = ea at *
          refine region_quiet_all (fun w' => ∃ n, w' = v7.drewN n) (by kernel_rfl) (by kernel_rfl) ⟨1, rfl⟩ ?_
          repeat (quiet_step (fail))
          refine wpQuiet_nil ?_
          rintro w' ⟨nq, rfl⟩
          go_wp2_with fail
          go_roundw
          case rel => exact ⟨j + 1, hlj, by go_num, below_drewN HB7.out nq⟩
          case measure => simp [intOf] <;> omega
        · obtain rfl : j = 16 := by omega
          have hTe := HT10.out.after hbj
          have hPe := HP10.out.after hbj
          have hHe := HH10.out.after hbj
          have hIe := O.below HI10.out hbj
          have hMe := ram_only HM10.out (Only.of_below (S := fun _ => False) hbj) (fun h => h)
          have hOe : Only (SH p g gm) w5 wr := HO10.out.trans (Only.of_below hbj)
          have hme := (O.mode hIe).1
          have te : wr.cell? ⟨tb, 1, none⟩ = some (.bool R.d.trap) := hTe.cellTab 1 (by decide)
          have pc0 : wr.cell? ⟨pp, 0, none⟩ = some (.pointer (some ⟨p, 0, none⟩)) := hPe.cell 0
          have pg : wr.cell? ⟨p, 33, none⟩ = some (.pointer (some ⟨g, 0, none⟩)) := hHe.cellTab 33 (by decide)
          have pcc : wr.cell? ⟨p, 32, none⟩ = some (.int .u32 (R.pc : Int)) := hHe.cellTab 32 (by decide)
          have HOe := Lib.hid hOe
          have hxR := hway.x_ok HXL.out.1
          have hpR := hway.pc_lt HXL.out.2.2.2.2
          by_cases htr : R.d.trap = true
          · rw [htr] at te
            rw [hway.trap_mode htr] at hme
            rw [hway.trap_pc htr] at pcc
            have hst768 := hway.trap_st htr
            rw [HXL.out.2.2.1] at hst768
            obtain ⟨bt, hbt⟩ : ∃ y, y = s.r 768 / 8 % 2 := ⟨_, rfl⟩
            have hbm := bm0 bt (by omega)
            have hb7 : bits .and .u32 (R.s.r 768 : Int) 6144 = 0 := by rw [hst768, ← hbt]; exact hbm
            clear hbt hst768 hbm
            generalize R.s.r 768 = v768 at *
            generalize s.r 773 = v773 at *
            go_wp2_with fail
            go_ret
            exact ⟨rfl, HB5.out.trans (HOe.out.below (sh_ge HLO.out.2) HB5.out.size)⟩
          · have htf : R.d.trap = false := Bool.eq_false_iff.2 htr
            rw [htf] at te
            have hs2 := hway.on_s htf
            have hm2 : R.s.mode = 0 := by rw [hs2]; exact HXL.out.2.2.1
            have h768 : R.s.r 768 = s.r 768 := by rw [hs2]; rfl
            rw [hm2] at hme
            rw [h768]
            have HF := Lib.hid (And.intro hHe (And.intro hIe (And.intro hMe (And.intro hxR (And.intro hpR hm2)))))
            have hee : entC R.s = entC s0 := by rw [hway.ent_same]; exact HXL.out.2.2.2.1
            have HEE := Lib.hid hee
            clear hHe hIe hMe hxR hpR hm2 hs2 h768 hee hTe hPe htr htf
            generalize s.r 768 = v768 at *
            go_wp2_with fail
            go_roundw
            case rel => exact ⟨i + 1, hlt, by go_num, ⟨R.x, R.pc, R.s, R.m, HF.out.1, HF.out.2.1, HF.out.2.2.1, HF.out.2.2.2.1, HF.out.2.2.2.2.1, HF.out.2.2.2.2.2, HEE.out⟩, HOe.out⟩
            case measure => simp [intOf] <;> omega
    · obtain rfl : i = N := by omega
      go_wp2_with fail
      go_ret
      exact ⟨rfl, HB5.out.trans (hO1.below (sh_ge HLO.out.2) HB5.out.size)⟩
end Go.Proofs.YtgpofoggfifnjaaGreatDoor.Ha
namespace Go.Proofs.YtgpofoggfifnjaaGreatDoor.Ha
open Go Go.RowKit
open Go.Proofs.YtgpofoggfifnjaaGreatDoor (stM)
open Go.Proofs.YtgpofoggfifnjaaGreatDoor.Cs (St upd upd_same upd_other dueC trapC tickC timC readC writeC maskR isK locked protC prR)
open Go.Proofs.YtgpofoggfifnjaaGreatDoor.Pm (En)

theorem wr_low (s : St) (n x : Nat) (h : n = 772 ∨ n = 773) : writeC s n x = some { s with r := upd s.r n (maskR n x) } := by
  have hk : isK n = true := by rcases h with rfl | rfl <;> rfl
  have hd : decide (944 ≤ n) = false := decide_eq_false (by omega)
  unfold writeC
  rw [if_neg (by omega), if_neg (by omega), if_neg (by omega), if_neg (by omega), if_neg (by omega), if_neg (by omega), if_pos hk, hd]
  simp
/-- what the law sets -/
def cntL : List (Nat × Nat) := [(772, 128), (773, 2147487744)]
/-- the registers that the law counts by -/
structure Cnt (s : St) (c d : Nat) : Prop where
  mode : s.mode = 0
  ie : s.r 772 = 128
  vec : s.r 773 = 2147487744
  ip : s.r 836 = 0
  cyc : s.cyc = c
  ret : s.ret = d
theorem cnt0 (a : Sta) : Cnt (begS { a with cs := cntL, user := true }) 0 0 := by
  have e : begS { a with cs := cntL, user := true } = { ({ ({ protC Cs.st0 a.l with r := upd (protC Cs.st0 a.l).r 772 (maskR 772 128) } : St) with r := upd (upd (protC Cs.st0 a.l).r 772 (maskR 772 128)) 773 (maskR 773 2147487744) } : St) with mode := 0 } := by
    unfold begS
    rw [if_pos rfl]
    show ({ wrS (protC Cs.st0 a.l) cntL with mode := 0 } : St) = _
    unfold wrS cntL
    simp only [List.foldl_cons, List.foldl_nil]
    rw [wr_low _ 772 128 (Or.inl rfl)]
    simp only [Option.getD_some]
    rw [wr_low _ 773 2147487744 (Or.inr rfl)]
    rfl
  rw [e]
  refine ⟨rfl, ?_, ?_, ?_, rfl, rfl⟩
  · show upd (upd (protC Cs.st0 a.l).r 772 (maskR 772 128)) 773 (maskR 773 2147487744) 772 = 128
    rw [upd_other _ _ (by decide), upd_same]
    decide
  · show upd (upd (protC Cs.st0 a.l).r 772 (maskR 772 128)) 773 (maskR 773 2147487744) 773 = 2147487744
    rw [upd_same]
    decide
  · show upd (upd (protC Cs.st0 a.l).r 772 (maskR 772 128)) 773 (maskR 773 2147487744) 836 = 0
    rw [upd_other _ _ (by decide), upd_other _ _ (by decide)]
    show prR a.l (fun _ => 0) 16 836 = 0
    unfold prR
    rw [if_neg (by decide)]
section
variable {x : Nat → Nat} {pc c d : Nat} {s : St} {m : Nat → UInt8} {R : Res}
/-- a step counts, and so does the instruction that was done -/
theorem Cnt.step (h : Cnt s c d) (hw : Way x pc s m R) (hc : c < 100) (hd : d < 100) : Cnt { R.s with mode := 0 } (c + 1) (if R.d.trap = true then d else d + 1) := by
  refine ⟨rfl, ?_, ?_, ?_, ?_, ?_⟩
  · show R.s.r 772 = 128
    rw [hw.r_same 772 (by decide) (by decide) (by decide) (by decide)]; exact h.ie
  · show R.s.r 773 = 2147487744
    rw [hw.r_same 773 (by decide) (by decide) (by decide) (by decide)]; exact h.vec
  · show R.s.r 836 = 0
    rw [hw.r_same 836 (by decide) (by decide) (by decide) (by decide)]; exact h.ip
  · show R.s.cyc = c + 1
    have h1 := h.cyc
    rw [hw.s_is]
    split
    · show (s.cyc + 1) % 18446744073709551616 = _; omega
    · show (s.cyc + 1) % 18446744073709551616 = _; omega
  · show R.s.ret = _
    have h1 := h.ret
    rw [hw.s_is]
    split
    · rename_i ht; show (if false = true then (s.ret + 1) % 18446744073709551616 else s.ret) = _; rw [if_neg (by decide)]; exact h1
    · rename_i ht; show (if true = true then (s.ret + 1) % 18446744073709551616 else s.ret) = _; rw [if_pos rfl]; omega
/-- the timer waits, or not -/
theorem Cnt.timer (h : Cnt s c d) (b : Bool) : dueC (timC s b) = b := by
  have e772 : (timC s b).r 772 = 128 := by
    show upd s.r 836 (if b = true then 128 else 0) 772 = 128
    rw [upd_other _ _ (by decide)]; exact h.ie
  have e836 : (timC s b).r 836 = if b = true then 128 else 0 := by
    show upd s.r 836 (if b = true then 128 else 0) 836 = _
    exact upd_same _ _ _
  have em : (timC s b).mode = 0 := h.mode
  unfold dueC
  rw [e772, e836, em]
  cases b <;> simp
theorem Cnt.vec_t (h : Cnt s c d) (b : Bool) : (timC s b).r 773 = 2147487744 := by
  show upd s.r 836 (if b = true then 128 else 0) 773 = 2147487744
  rw [upd_other _ _ (by decide)]; exact h.vec
theorem Cnt.reads (h : Cnt s c d) (hc : c < 100) (hd : d < 100) : readC s 2816 = some c ∧ readC s 2818 = some d := by
  have h1 := h.cyc
  have h2 := h.ret
  constructor
  · unfold readC
    rw [if_neg (by decide), if_pos rfl, h1, Nat.mod_eq_of_lt (by omega)]
  · unfold readC
    rw [if_neg (by decide), if_neg (by decide), if_neg (by decide), if_pos rfl, h2, Nat.mod_eq_of_lt (by omega)]
end
end Go.Proofs.YtgpofoggfifnjaaGreatDoor.Ha
