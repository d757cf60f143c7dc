/-
Layer 16: begin.
-/
import Derived.Test.YtgpofoggfifnjaaGreatDoorJBc
namespace Go.Proofs.YtgpofoggfifnjaaGreatDoor.Ha
open Go Go.RowKit
open Go.Proofs.YtgpofoggfifnjaaGreatDoor (opOf inR stM ldV stB RamP RefP mem0 pnew_any store_any rstore_any mP erI)
open Go.Proofs.YtgpofoggfifnjaaGreatDoor.Cs (St st0_ok upd upd_same upd_other dueC trapC tickC readC writeC writeC_ok protC protC_ok CsrOK Only S1 SR Ref hP one_new new_stepS cell_heap cell_far)
open Go.Proofs.YtgpofoggfifnjaaGreatDoor.Pm (En SlE wp_fresh)

theorem infoPr2 : (Tryz.prog.info? 65).map (·.size) = some 2 := by kernel_rfl
theorem infoPrz : (Tryz.prog.info? 65).map (fun i => (i.zero, i.size)) = some (some (.agg (tab 2 (prV (0, 0)))), 2) := by kernel_rfl
theorem zeroPr (w : World) : (zeroValue 65).run Tryz.prog w = .ok (.agg (tab 2 (prV (0, 0)))) w := (zero_of_info infoPrz).1 w
theorem wp_load_pr {w : World} {ops : Array Oper} {rest : List Oper} {op : Oper} {a : Act} {Q : Exit → Act → World → Prop} (hgd : op.guard = none) (x : Operand) (ho : op.op = .load 65 x)
    (b o : Nat) (hx : a.eval x = .pointer (some ⟨b, o, none⟩)) (f : Nat → Value) (hc : w.rangeAt b o ((List.range 2).map f)) (h : wpList Tryz.prog ops Q rest (a.put op.dst (.agg (tab 2 f))) w) : wpList Tryz.prog ops Q (op :: rest) a w :=
  wpList_load_mid hgd 65 x ho b o hx _ _ hc Tryz.underlying65 rfl (by simpa using infoPr2) h
theorem cell_only {S : Nat → Prop} {w w' : World} {a : Addr} {v : Value} (k : Only S w w') (h : w.cell? a = some v) (hn : ¬ S a.block) : w'.cell? a = some v := by
  have hl := block_lt_of_cell h
  have hb := k.block a.block hl hn
  unfold World.cell? at h ⊢
  rw [hb]
  exact h
theorem at_x (b j : Nat) (hj : (j : Int) < 32) (w : World) : (Instr.indexAt 44 (.pointer (some ⟨b, 0, none⟩)) (.int .u32 (j : Int))).run Tryz.prog w = .ok (.pointer (some ⟨b, j, none⟩)) w := by
  have h2 := Addr.add_mid b 0 j
  rw [Nat.zero_add] at h2
  go_simp
theorem at_q (b j : Nat) (hj : (j : Int) < 32) (w : World) : (Instr.indexAt 74 (.pointer (some ⟨b, 0, none⟩)) (.int .u32 (j : Int))).run Tryz.prog w = .ok (.pointer (some ⟨b, j, none⟩)) w := by
  have h2 := Addr.add_mid b 0 j
  rw [Nat.zero_add] at h2
  go_simp
theorem ram_grown {w w' : World} {gm l : Nat} {m : Nat → UInt8} (h : RamP w gm m) (k : w.grownBy w' (some l)) (hne : gm ≠ l) : RamP w' gm m := by
  obtain ⟨N, hN, hG⟩ := h
  exact ⟨N, hN, has_grown hG k (fun l' e => by injection e with e; omega)⟩
set_option maxRecDepth 100000 in
set_option maxHeartbeats 8000000 in
theorem begin_any {Is : World → Nat → St → Prop} {W0 : World} (O : CsrOK Is) (K : HartOK Is W0) (a : Sta) (t : Sls) (w : World) (hW : Below W0.heap.size W0 w) (hS : StaOk w a t) (hsm : smB t = true) :
    Calls Tryz.prog 9 #[.agg (staA a t)] w (BegO Is w a) := by
  obtain ⟨⟨A0, n0, c0⟩, ⟨A1, n1, c1⟩, ⟨A2, n2, c2⟩, ⟨A3, n3, c3⟩⟩ := t
  have hsz : n0 ≤ 300 ∧ n1 ≤ 100 ∧ n2 ≤ 16 ∧ n3 ≤ 100 := by
    unfold smB at hsm
    simp only [Bool.and_eq_true, decide_eq_true_eq] at hsm
    exact ⟨hsm.1.1.1, hsm.1.1.2, hsm.1.2, hsm.2⟩
  obtain ⟨z0, z1, z2, z3⟩ := hsz
  obtain ⟨u, hu, hJ, hb0, _⟩ := one_new w (staA a ⟨⟨A0, n0, c0⟩, ⟨A1, n1, c1⟩, ⟨A2, n2, c2⟩, ⟨A3, n3, c3⟩⟩) 27
  replace hu := hu.symm
  obtain ⟨bs, hbs⟩ : ∃ b, b = w.heap.size := ⟨_, rfl⟩
  rw [← hbs] at hJ
  have hJs := hJ.lt
  have HS0 := Lib.hid (hS.after hb0)
  have HS := Lib.hid hS
  have HB0 := Lib.hid hb0
  have HJ := Lib.hid hJ
  have HW := Lib.hid hW
  have hws := hW.size
  have hN := pnew_any u
  have hbw := Lib.hid (show w.heap.size ≤ bs by omega)
  change w.alloc (.cells #[.slice A0 n0 c0, .slice A1 n1 c1, .slice A2 n2 c2, .bool a.user, .slice A3 n3 c3, .int .u32 (a.pc : Int)] 27) = u at hu
  show Calls _ _ #[.agg #[.slice A0 n0 c0, .slice A1 n1 c1, .slice A2 n2 c2, .bool a.user, .slice A3 n3 c3, .int .u32 (a.pc : Int)]] _ _
  have z0I : (n0 : Int) ≤ 300 := by omega
  have z1I : (n1 : Int) ≤ 100 := by omega
  have z3I : (n3 : Int) ≤ 100 := by omega
  have apI : (a.pc : Int) < 4294967296 := by have h : a.pc < 4294967296 := hS.pc; omega
  clear hsm hS hJ hW hb0
  go_enter Tryz.func9, Tryz.ntmps9
  go_upto_region 1 with fail
  first | rw [hu] | skip
  first | rw [← hbs] | skip
  clear hu hbs
  go_upto_region 2 with (first
    | (go_at_call 19; refine hN.mono ?_; rintro e w1 ⟨⟨gm, rfl, hM1, hgm⟩, hb1⟩)
    | (go_at_call 21; refine (Go.Proofs.YtgpofoggfifnjaaGreatDoor.rnew_any _).mono ?_; rintro e w2 ⟨⟨r, rmb, rfl, hR2, hr, hrm⟩, hb2⟩))
  have hM2 := ram_only hM1 (Only.of_below (S := fun _ => False) hb2) (fun h => h)
  have hb12 : Below u.heap.size u w2 := hb1.trans (hb2.mono hb1.size)
  have hgl := hM1.lt
  have hu1 := hb1.size
  have hgr : gm ≠ r ∧ gm ≠ rmb := ⟨by omega, by omega⟩
  have hrr : rmb ≠ r := hR2.2.has_ne hR2.1
  have HU := Lib.hid hb12
  have hJ2 := HJ.out.after hb12
  have j0 : w2.cell? ⟨bs, 0, none⟩ = some (.slice A0 n0 c0) := hJ2.cell 0
  have HG := Lib.hid (And.intro hgr hrr)
  have HL := Lib.hid (show u.heap.size ≤ gm ∧ u.heap.size ≤ r ∧ u.heap.size ≤ rmb ∧ bs < u.heap.size by omega)
  have HJ2 := Lib.hid hJ2
  clear hN hM1 hb1 hb2 hb12 hgl hgr hrr hJ2 hr hrm hgm hu1
  go_upto_region 3 with fail
  clear j0
  go_loopw [17] (fun ct wr => ∃ i : Nat, i ≤ n0 ∧ ct = .int .i64 (i : Int) ∧ (∃ m, RamP wr gm m ∧ RefP wr r rmb m (4 * i)) ∧ Only (fun b => b = gm ∨ b = rmb) w2 wr) (fun ct _ => (n0 - (intOf ct)).toNat)
  case atStart => exact ⟨0, Nat.zero_le _, rfl, ⟨mem0, hM2, hR2⟩, Only.refl _ _⟩
  case round =>
    obtain ⟨i, hi, rfl, ⟨m, hMr, hRr⟩, hOr⟩ := hrel
    by_cases hlt : i < n0
    · have di : (i : Int) < (n0 : Int) := by omega
      have hbr : Below u.heap.size w2 wr := hOr.below (fun b hb => by have h := HL.out; rcases hb with e | e <;> omega) HU.out.size
      have hSr := HS0.out.after (HU.out.trans hbr)
      obtain ⟨b, o, hA, hbl, hcl⟩ := hSr.w.2.1.2 (show 0 < n0 by omega)
      dsimp only at hA
      subst hA
      have hxl := hSr.w.lt i
      have hci : wr.cell? ⟨b, o + i, none⟩ = some (.int .u32 (a.ws.getD i 0 : Int)) := by
        have := hcl i 0 hlt (by decide)
        rwa [Nat.mul_one, Nat.add_zero] at this
      have hat := fun W => at_w b o n0 c0 i di W
      obtain ⟨v, hv⟩ : ∃ v, v = 2147487744 + 4 * i := ⟨_, rfl⟩
      obtain ⟨i4, hi4⟩ : ∃ v, v = 4 * i := ⟨_, rfl⟩
      have e0 : (4 : Int) * (i : Int) = (i4 : Int) := by omega
      have e1 : (2147487744 : Int) + (i4 : Int) = (v : Int) := by omega
      have hvI : (v : Int) < 2147489000 := by omega
      have hi4I : (i4 : Int) ≤ 1200 := by omega
      have hxl2 : a.ws.getD i 0 < 4294967296 := hxl
      generalize a.ws.getD i 0 = x at *
      have hxI : (x : Int) < 4294967296 := by omega
      have ks := store_any m gm v x 4 wr hMr (by omega) hxl2
      have hOr2 := Lib.hid hOr
      have HV := Lib.hid (And.intro hv hi4)
      have kr := fun W (h : RefP W r rmb m (4 * i)) => rstore_any m r rmb (4 * i) v x 4 W h (by omega) hxl2 (by omega)
      have kb : ∀ W, wr.grownBy W (some gm) → RefP W r rmb m (4 * i) := fun W h => hRr.beside hMr h
      have HKR := Lib.hid kr
      clear hv hi4 hSr hcl hbl hbr hxl kr hOr hRr
      go_wp2_with (first
        | (go_at_call 20; refine ks.mono ?_; rintro e w3 ⟨rfl, hM3, hg3⟩)
        | (go_at_call 22; refine (HKR.out _ (kb _ hg3)).mono ?_; rintro e w4 ⟨rfl, hR4, hg4⟩))
      go_roundw
      case rel =>
        refine ⟨i + 1, hlt, by go_num, ⟨_, ram_grown hM3 hg4 HG.out.1.2, hR4⟩, (hOr2.out.trans (Only.of_grown hg3 (fun l e => ?_))).trans (Only.of_grown hg4 (fun l e => ?_))⟩
        · injection e with e; exact Or.inl e.symm
        · injection e with e; exact Or.inr e.symm
      case measure => simp [intOf] <;> omega
    · obtain rfl : i = n0 := by omega
      have hbr : Below u.heap.size w2 wr := hOr.below (fun b hb => by have h := HL.out; rcases hb with e | e <;> omega) HU.out.size
      have hUr := HU.out.trans hbr
      have hwr : Below w.heap.size w wr := HB0.out.trans (hUr.mono HB0.out.size)
      have hJr : Has wr bs 27 _ := HJ.out.after hUr
      have hK := K.new wr (some gm) (HW.out.trans (hwr.mono hws))
      have hgml := hMr.lt
      have hrl := hRr.1.lt
      have hrml := hRr.2.lt
      have hus := hUr.size
      have HJr := Lib.hid hJr
      have HMr := Lib.hid hMr
      have HUr := Lib.hid hUr
      have HLr := Lib.hid (And.intro hgml (And.intro hrl (And.intro hrml hus)))
      clear hOr hbr hUr hwr hJr hMr hRr hgml hrl hrml hus
      go_upto_region 9 with (first
        | (go_at_call 17; refine hK.mono ?_; rintro e w3 ⟨⟨p, g, rfl, hH3, hI3, hp, hg, hpg⟩, hb3⟩)
        | (go_at_call 23; refine (Cs.rnew_any _).mono ?_; rintro e w4 ⟨⟨h, mb, rfl, hR4, hh, hmb⟩, hb4⟩))
      rw [zero35]
      obtain ⟨w5, hw5, hQ5, hb5, hz5⟩ := one_new w4 (tab 35 (qV (fun _ => 0) 0 h r)) 76
      obtain ⟨w6, hw6, hP6, hb6, hz6⟩ := one_new w5 #[hP p, hP w4.heap.size] 34
      rw [← hw5, ← hw6]
      have hpl := hH3.lt
      have hgl := O.lt hI3
      have hhl := hR4.blk.lt
      have hml := hR4.map.lt
      have h3s := hb3.size
      have h4s := hb4.size
      have hneq := hR4.ne
      have hb46 := hb5.trans (hb6.mono hb5.size)
      have hb36 := hb4.trans (hb46.mono h4s)
      have hb06 := hb3.trans (hb36.mono h3s)
      have hH6 := hH3.after hb36
      have hI6 := O.below hI3 hb36
      have hR6 := hR4.after hb46
      have hQ6 := hQ5.after hb6
      have hU6 := HUr.out.trans (hb06.mono (HLr.out.2.2.2))
      have hJ6 : Has w6 bs 27 _ := HJ.out.after hU6
      have hM6 := ram_only HMr.out (Only.of_below (S := fun _ => False) hb06) (fun h => h)
      obtain ⟨q, hq⟩ : ∃ b, b = w4.heap.size := ⟨_, rfl⟩
      rw [hz5, ← hq] at hP6
      rw [← hq] at hQ6 ⊢
      obtain ⟨pp, hpp⟩ : ∃ b, b = q + 1 := ⟨_, rfl⟩
      rw [← hpp] at hP6 ⊢
      have j1 : w6.cell? ⟨bs, 1, none⟩ = some (.slice A1 n1 c1) := hJ6.cell 1
      have hne : (p ≠ g ∧ p ≠ gm ∧ p ≠ h ∧ p ≠ mb ∧ p ≠ q ∧ p ≠ pp ∧ p ≠ bs) ∧ (g ≠ gm ∧ g ≠ h ∧ g ≠ mb ∧ g ≠ q ∧ g ≠ pp ∧ g ≠ bs) ∧ (h ≠ gm ∧ mb ≠ gm ∧ q ≠ gm ∧ pp ≠ gm ∧ q ≠ h ∧ q ≠ mb ∧ pp ≠ h ∧ pp ≠ mb ∧ pp ≠ q ∧ mb ≠ h ∧ h ≠ bs ∧ mb ≠ bs ∧ q ≠ bs ∧ pp ≠ bs) := by
        have h1 := HLr.out
        have h2 := HL.out
        refine ⟨⟨?_, ?_, ?_, ?_, ?_, ?_, ?_⟩, ⟨?_, ?_, ?_, ?_, ?_, ?_⟩, ⟨?_, ?_, ?_, ?_, ?_, ?_, ?_, ?_, ?_, ?_, ?_, ?_, ?_, ?_⟩⟩ <;> omega
      have hlo : u.heap.size ≤ p ∧ u.heap.size ≤ g ∧ u.heap.size ≤ gm ∧ u.heap.size ≤ h ∧ u.heap.size ≤ mb ∧ u.heap.size ≤ q ∧ u.heap.size ≤ pp := by
        have h1 := HLr.out
        have h2 := HL.out
        refine ⟨?_, ?_, ?_, ?_, ?_, ?_, ?_⟩ <;> omega
      have HNE := Lib.hid hne
      have HLO := Lib.hid hlo
      have HI6 := Lib.hid hI6
      have HR6 := Lib.hid hR6
      have HU6 := Lib.hid hU6
      have HJ6 := Lib.hid hJ6
      have HM6 := Lib.hid hM6
      have HP6 := Lib.hid hP6
      have hz := zeroPr
      clear hK hw5 hQ5 hb5 hz5 hw6 hP6 hb6 hz6 hpl hgl hhl hml h3s h4s hneq hb46 hb36 hb06 hH3 hI3 hR4 hI6 hR6 hU6 hJ6 hM6 hq hpp hne hlo hb3 hb4 hp hg hpg hh hmb
      go_upto_region 10 with fail
      clear j1
      go_loopw [48] (fun ct wv => ∃ i : Nat, i ≤ n1 ∧ ct = .int .i64 (i : Int) ∧ (∃ x, Has wv p 48 (tab 35 (hV x 0 g (some gm))) ∧ Has wv q 76 (tab 35 (qV x 0 h r)) ∧ x 0 = 0 ∧ ∀ k, x k < L32) ∧ Only (fun b => b = p ∨ b = q) w6 wv) (fun ct _ => (n1 - (intOf ct)).toNat)
      case atStart => exact ⟨0, Nat.zero_le _, rfl, ⟨fun _ => 0, hH6, hQ6, rfl, fun _ => (by decide : 0 < L32)⟩, Only.refl _ _⟩
      case round =>
        obtain ⟨i2, hi2, rfl, ⟨x, hHv, hQv, hx0, hxl⟩, hOv⟩ := hrel
        by_cases hlt2 : i2 < n1
        · have di : (i2 : Int) < (n1 : Int) := by omega
          have hbv : Below u.heap.size w6 wr := hOv.below (fun b hb => by have h := HLO.out; rcases hb with e | e <;> omega) HU6.out.size
          have hSv := HS0.out.after (HU6.out.trans hbv)
          obtain ⟨b, o, hA, hbl, _⟩ := hSv.x.2.1.2 (show 0 < n1 by omega)
          dsimp only at hA
          subst hA
          have hpr := hSv.x.lt i2
          have hrg := hSv.x.2.1.range rfl hlt2
          have hat := fun W => at_pr b o n1 c1 i2 di W
          generalize hpe : a.xs.getD i2 (0, 0) = pr at *
          obtain ⟨pa, pb⟩ := pr
          have hpa : pa < 4294967296 := hpr.1
          have hpb : pb < 4294967296 := hpr.2
          have hf0 : prV (pa, pb) 0 = .int .u32 (pa : Int) := rfl
          have hf1 : prV (pa, pb) 1 = .int .u32 (pb : Int) := rfl
          have hone := fun j => prV_one (pa, pb) j
          generalize hfe : prV (pa, pb) = f at *
          have HHv := Lib.hid hHv
          have HQv := Lib.hid hQv
          have HX := Lib.hid (And.intro hx0 hxl)
          have HOv := Lib.hid hOv
          have hvs : u.heap.size ≤ wr.heap.size := Nat.le_trans HU6.out.size hbv.size
          have HVS := Lib.hid hvs
          have hpv := hHv.lt
          have hqv := hQv.lt
          have hPv := (hOv.has HP6.out (fun e => e.elim (fun e => HNE.out.1.2.2.2.2.2.1 e.symm) (fun e => HNE.out.2.2.2.2.2.2.2.2.2.2.1 e)))
          have hppl := hPv.lt
          have HPv := Lib.hid hPv
          clear hHv hQv hx0 hxl hOv hSv hbl hbv hpr hfe hpe hvs hPv
          go_upto_region 11 with fail
          go_upto_region 12 with (first
            | (refine wp_load_pr rfl _ rfl b (o + i2 * 2) rfl f hrg ?_)
            | (refine wp_fresh 65 2 f _ _ _ rfl rfl rfl rfl hz infoPr2 (by decide) hone rfl rfl ?_
               intro w7 hH7 hb7 hlt7
               go_frame))
          have t0 : w7.cell? ⟨wr.heap.size, 0, none⟩ = some (.int .u32 (pa : Int)) := by rw [hH7.cellTab 0 (by decide), hf0]
          have t1 : w7.cell? ⟨wr.heap.size, 1, none⟩ = some (.int .u32 (pb : Int)) := by rw [hH7.cellTab 1 (by decide), hf1]
          have hand : bits .and .u32 (pa : Int) 31 = ((pa % 32 : Nat) : Int) := by
            rw [show (31 : Int) = ((2 ^ 5 - 1 : Nat) : Int) by decide, u32_and_nat _ _ hpa (by decide), Nat.and_two_pow_sub_one_eq_mod]
          obtain ⟨k, hk⟩ : ∃ k, k = pa % 32 := ⟨_, rfl⟩
          rw [← hk] at hand
          have hk32 : k < 32 := by omega
          have hkI : (k : Int) < 32 := by omega
          have hHw := HHv.out.after hb7
          have hQw := HQv.out.after hb7
          have hPw := HPv.out.after hb7
          have hOw : Only (fun b => b = p ∨ b = q) w6 w7 := HOv.out.trans (Only.of_below hb7)
          have hbx : wr.heap.size ≠ p ∧ wr.heap.size ≠ q ∧ wr.heap.size ≠ pp := ⟨by omega, by omega, by omega⟩
          have hpbI : (pb : Int) < 4294967296 := by omega
          have HBX := Lib.hid hbx
          have HHw := Lib.hid hHw
          have HQw := Lib.hid hQw
          have HPw := Lib.hid hPw
          have HOw := Lib.hid hOw
          have HHT := Lib.hid hH7
          clear hHw hQw hPw hOw hbx hb7 hH7 hpv hqv hppl hk hf0 hf1 hrg hone hlt7
          generalize wr.heap.size = bx at *
          by_cases hk0 : 0 < k
          · have hk0I : (0 : Int) < (k : Int) := by omega
            have pc0 : w7.cell? ⟨pp, 0, none⟩ = some (.pointer (some ⟨p, 0, none⟩)) := HPw.out.cell 0
            have pc1 : w7.cell? ⟨pp, 1, none⟩ = some (.pointer (some ⟨q, 0, none⟩)) := HPw.out.cell 1
            have PPp : pp ≠ p := fun e => HNE.out.1.2.2.2.2.2.1 e.symm
            have PPq : pp ≠ q := HNE.out.2.2.2.2.2.2.2.2.2.2.1
            have BXp := HBX.out.1
            have BXq := HBX.out.2.1
            have hatp := fun W => at_x p k hkI W
            have hatq := fun W => at_q q k hkI W
            go_upto_region 13 with fail
            refine region_chain (fun w' => (w'.cell? ⟨pp, 0, none⟩ = some (.pointer (some ⟨p, 0, none⟩)) ∧ w'.cell? ⟨pp, 1, none⟩ = some (.pointer (some ⟨q, 0, none⟩)) ∧ w'.cell? ⟨bx, 0, none⟩ = some (.int .u32 (pa : Int)) ∧ w'.cell? ⟨bx, 1, none⟩ = some (.int .u32 (pb : Int)))) [(0, .pointer (some ⟨pp, 0, none⟩)), (1, .pointer (some ⟨pp, 0, none⟩)), (2, .pointer (some ⟨pp, 0, none⟩)), (3, .pointer (some ⟨p, 0, none⟩)), (4, .pointer (some ⟨bx, 0, none⟩)), (5, .int .u32 (pa : Int)), (6, .int .u32 (k : Int)), (7, .pointer (some ⟨pp, 0, none⟩)), (8, .pointer (some ⟨pp, 0, none⟩)), (9, .pointer (some ⟨pp, 1, none⟩)), (10, .pointer (some ⟨q, 0, none⟩)), (11, .pointer (some ⟨bx, 0, none⟩)), (12, .int .u32 (pa : Int)), (13, .int .u32 (k : Int)), (14, .pointer (some ⟨bx, 1, none⟩)), (15, .int .u32 (pb : Int)), (16, .pointer (some ⟨bx, 1, none⟩)), (17, .int .u32 (pb : Int)), (18, .int .i64 (pb : Int)), (19, .pointer (some ⟨p, 0, none⟩)), (20, .pointer (some ⟨p, 0, none⟩)), (21, .pointer (some ⟨p, k, none⟩)), (23, .pointer (some ⟨q, 0, none⟩)), (24, .pointer (some ⟨q, 0, none⟩)), (25, .pointer (some ⟨q, k, none⟩))] [(22, fun xs w' => (xs.getD 0 undef) = undef ∧ (w'.cell? ⟨pp, 0, none⟩ = some (.pointer (some ⟨p, 0, none⟩)) ∧ w'.cell? ⟨pp, 1, none⟩ = some (.pointer (some ⟨q, 0, none⟩)) ∧ w'.cell? ⟨bx, 0, none⟩ = some (.int .u32 (pa : Int)) ∧ w'.cell? ⟨bx, 1, none⟩ = some (.int .u32 (pb : Int))) ∧ Has w' p 48 (tab 35 (hV (upd x k pb) 0 g (some gm))) ∧ Has w' q 76 (tab 35 (qV x 0 h r)) ∧ Only (fun b => b = p ∨ b = q) w6 w'), (26, fun xs w' => (xs.getD 1 undef) = undef ∧ (w'.cell? ⟨pp, 0, none⟩ = some (.pointer (some ⟨p, 0, none⟩)) ∧ w'.cell? ⟨pp, 1, none⟩ = some (.pointer (some ⟨q, 0, none⟩)) ∧ w'.cell? ⟨bx, 0, none⟩ = some (.int .u32 (pa : Int)) ∧ w'.cell? ⟨bx, 1, none⟩ = some (.int .u32 (pb : Int))) ∧ Has w' p 48 (tab 35 (hV (upd x k pb) 0 g (some gm))) ∧ Has w' q 76 (tab 35 (qV (upd x k pb) 0 h r)) ∧ Only (fun b => b = p ∨ b = q) w6 w')] (fun w' => (w'.cell? ⟨pp, 0, none⟩ = some (.pointer (some ⟨p, 0, none⟩)) ∧ w'.cell? ⟨pp, 1, none⟩ = some (.pointer (some ⟨q, 0, none⟩)) ∧ w'.cell? ⟨bx, 0, none⟩ = some (.int .u32 (pa : Int)) ∧ w'.cell? ⟨bx, 1, none⟩ = some (.int .u32 (pb : Int))) ∧ Has w' p 48 (tab 35 (hV x 0 g (some gm))) ∧ Has w' q 76 (tab 35 (qV x 0 h r)) ∧ Only (fun b => b = p ∨ b = q) w6 w') 176 (by kernel_rfl) rfl (by kernel_rfl) (by kernel_rfl) ?_ ?_ ?_ ?_ ?_ ?_
            · intro w' hb he
              exact ⟨⟨(cell_heap he _).trans pc0, (cell_heap he _).trans pc1, (cell_heap he _).trans t0, (cell_heap he _).trans t1⟩, HHw.out.after hb, HQw.out.after hb, HOw.out.trans (Only.of_below hb)⟩
            · exact fun w' h => h.1
            · simp only [List.forall_mem_cons, List.not_mem_nil, false_implies, implies_true, and_true]
              refine ⟨?_, ?_⟩
              · exact fun xs w' h => h.2.1
              · exact fun xs w' h => h.2.1
            · simp only [List.forall_mem_cons, List.not_mem_nil, false_implies, implies_true, and_true]
              refine ⟨?_, ?_, ?_, ?_, ?_, ?_, ?_, ?_, ?_, ?_, ?_, ?_, ?_, ?_, ?_, ?_, ?_, ?_, ?_, ?_, ?_, ?_, ?_, ?_, ?_⟩
              · refine qu_of rfl ?_
                intro v w' A hA hC hd hl K hK
                exact pure_step (.pointer (some ⟨pp, 0, none⟩)) (fun ρ hρ => by
                    have e7 : ρ (.tmp 7) = .pointer (some ⟨pp, 0, none⟩) := by rw [hρ]; exact hA.2 7 (by simp)
                    clear hρ hA hl hK hd hC
                    go_simp) hK
              · refine qu_of rfl ?_
                intro v w' A hA hC hd hl K hK
                exact pure_step (.pointer (some ⟨pp, 0, none⟩)) (fun ρ hρ => by
                    have e56 : ρ (.tmp 56) = .pointer (some ⟨pp, 0, none⟩) := by rw [hρ]; exact (hA.1 0 _ 56 rfl rfl).trans (hd (0, .pointer (some ⟨pp, 0, none⟩)) (.head _) ⟨⟨0, .data⟩, by simp, rfl, rfl⟩)
                    clear hρ hA hl hK hd hC
                    go_simp) hK
              · refine qu_of rfl ?_
                intro v w' A hA hC hd hl K hK
                exact pure_step (.pointer (some ⟨pp, 0, none⟩)) (fun ρ hρ => by
                    have e57 : ρ (.tmp 57) = .pointer (some ⟨pp, 0, none⟩) := by rw [hρ]; exact (hA.1 1 _ 57 rfl rfl).trans (hd (1, .pointer (some ⟨pp, 0, none⟩)) (.tail _ (.head _)) ⟨⟨1, .data⟩, by simp, rfl, rfl⟩)
                    clear hρ hA hl hK hd hC
                    go_simp) hK
              · refine qu_of rfl ?_
                intro v w' A hA hC hd hl K hK
                have hcell := hC.1
                exact pure_step (.pointer (some ⟨p, 0, none⟩)) (fun ρ hρ => by
                    have e58 : ρ (.tmp 58) = .pointer (some ⟨pp, 0, none⟩) := by rw [hρ]; exact (hA.1 2 _ 58 rfl rfl).trans (hd (2, .pointer (some ⟨pp, 0, none⟩)) (.tail _ (.tail _ (.head _))) ⟨⟨2, .data⟩, by simp, rfl, rfl⟩)
                    clear hρ hA hl hK hd hC
                    go_simp) hK
              · refine qu_of rfl ?_
                intro v w' A hA hC hd hl K hK
                exact pure_step (.pointer (some ⟨bx, 0, none⟩)) (fun ρ hρ => by
                    have hcst : ∀ x, ρ (.const x) = x := fun x => by rw [hρ]; rfl
                    have e9 : ρ (.tmp 9) = .pointer (some ⟨bx, 0, none⟩) := by rw [hρ]; exact hA.2 9 (by simp)
                    clear hρ hA hl hK hd hC
                    go_simp) hK
              · refine qu_of rfl ?_
                intro v w' A hA hC hd hl K hK
                have hcell := hC.2.2.1
                exact pure_step (.int .u32 (pa : Int)) (fun ρ hρ => by
                    have e60 : ρ (.tmp 60) = .pointer (some ⟨bx, 0, none⟩) := by rw [hρ]; exact (hA.1 4 _ 60 rfl rfl).trans (hd (4, .pointer (some ⟨bx, 0, none⟩)) (.tail _ (.tail _ (.tail _ (.tail _ (.head _))))) ⟨⟨4, .data⟩, by simp, rfl, rfl⟩)
                    clear hρ hA hl hK hd hC
                    go_simp) hK
              · refine qu_of rfl ?_
                intro v w' A hA hC hd hl K hK
                exact pure_step (.int .u32 (k : Int)) (fun ρ hρ => by
                    have hcst : ∀ x, ρ (.const x) = x := fun x => by rw [hρ]; rfl
                    have e61 : ρ (.tmp 61) = .int .u32 (pa : Int) := by rw [hρ]; exact (hA.1 5 _ 61 rfl rfl).trans (hd (5, .int .u32 (pa : Int)) (.tail _ (.tail _ (.tail _ (.tail _ (.tail _ (.head _)))))) ⟨⟨5, .data⟩, by simp, rfl, rfl⟩)
                    clear hρ hA hl hK hd hC
                    go_simp) hK
              · refine qu_of rfl ?_
                intro v w' A hA hC hd hl K hK
                exact pure_step (.pointer (some ⟨pp, 0, none⟩)) (fun ρ hρ => by
                    have e7 : ρ (.tmp 7) = .pointer (some ⟨pp, 0, none⟩) := by rw [hρ]; exact hA.2 7 (by simp)
                    clear hρ hA hl hK hd hC
                    go_simp) hK
              · refine qu_of rfl ?_
                intro v w' A hA hC hd hl K hK
                exact pure_step (.pointer (some ⟨pp, 0, none⟩)) (fun ρ hρ => by
                    have e63 : ρ (.tmp 63) = .pointer (some ⟨pp, 0, none⟩) := by rw [hρ]; exact (hA.1 7 _ 63 rfl rfl).trans (hd (7, .pointer (some ⟨pp, 0, none⟩)) (.tail _ (.tail _ (.tail _ (.tail _ (.tail _ (.tail _ (.tail _ (.head _)))))))) ⟨⟨7, .data⟩, by simp, rfl, rfl⟩)
                    clear hρ hA hl hK hd hC
                    go_simp) hK
              · refine qu_of rfl ?_
                intro v w' A hA hC hd hl K hK
                exact pure_step (.pointer (some ⟨pp, 1, none⟩)) (fun ρ hρ => by
                    have e64 : ρ (.tmp 64) = .pointer (some ⟨pp, 0, none⟩) := by rw [hρ]; exact (hA.1 8 _ 64 rfl rfl).trans (hd (8, .pointer (some ⟨pp, 0, none⟩)) (.tail _ (.tail _ (.tail _ (.tail _ (.tail _ (.tail _ (.tail _ (.tail _ (.head _))))))))) ⟨⟨8, .data⟩, by simp, rfl, rfl⟩)
                    clear hρ hA hl hK hd hC
                    go_simp) hK
              · refine qu_of rfl ?_
                intro v w' A hA hC hd hl K hK
                have hcell := hC.2.1
                exact pure_step (.pointer (some ⟨q, 0, none⟩)) (fun ρ hρ => by
                    have e65 : ρ (.tmp 65) = .pointer (some ⟨pp, 1, none⟩) := by rw [hρ]; exact (hA.1 9 _ 65 rfl rfl).trans (hd (9, .pointer (some ⟨pp, 1, none⟩)) (.tail _ (.tail _ (.tail _ (.tail _ (.tail _ (.tail _ (.tail _ (.tail _ (.tail _ (.head _)))))))))) ⟨⟨9, .data⟩, by simp, rfl, rfl⟩)
                    clear hρ hA hl hK hd hC
                    go_simp) hK
              · refine qu_of rfl ?_
                intro v w' A hA hC hd hl K hK
                exact pure_step (.pointer (some ⟨bx, 0, none⟩)) (fun ρ hρ => by
                    have hcst : ∀ x, ρ (.const x) = x := fun x => by rw [hρ]; rfl
                    have e9 : ρ (.tmp 9) = .pointer (some ⟨bx, 0, none⟩) := by rw [hρ]; exact hA.2 9 (by simp)
                    clear hρ hA hl hK hd hC
                    go_simp) hK
              · refine qu_of rfl ?_
                intro v w' A hA hC hd hl K hK
                have hcell := hC.2.2.1
                exact pure_step (.int .u32 (pa : Int)) (fun ρ hρ => by
                    have e67 : ρ (.tmp 67) = .pointer (some ⟨bx, 0, none⟩) := by rw [hρ]; exact (hA.1 11 _ 67 rfl rfl).trans (hd (11, .pointer (some ⟨bx, 0, none⟩)) (.tail _ (.tail _ (.tail _ (.tail _ (.tail _ (.tail _ (.tail _ (.tail _ (.tail _ (.tail _ (.tail _ (.head _)))))))))))) ⟨⟨11, .data⟩, by simp, rfl, rfl⟩)
                    clear hρ hA hl hK hd hC
                    go_simp) hK
              · refine qu_of rfl ?_
                intro v w' A hA hC hd hl K hK
                exact pure_step (.int .u32 (k : Int)) (fun ρ hρ => by
                    have hcst : ∀ x, ρ (.const x) = x := fun x => by rw [hρ]; rfl
                    have e68 : ρ (.tmp 68) = .int .u32 (pa : Int) := by rw [hρ]; exact (hA.1 12 _ 68 rfl rfl).trans (hd (12, .int .u32 (pa : Int)) (.tail _ (.tail _ (.tail _ (.tail _ (.tail _ (.tail _ (.tail _ (.tail _ (.tail _ (.tail _ (.tail _ (.tail _ (.head _))))))))))))) ⟨⟨12, .data⟩, by simp, rfl, rfl⟩)
                    clear hρ hA hl hK hd hC
                    go_simp) hK
              · refine qu_of rfl ?_
                intro v w' A hA hC hd hl K hK
                exact pure_step (.pointer (some ⟨bx, 1, none⟩)) (fun ρ hρ => by
                    have hcst : ∀ x, ρ (.const x) = x := fun x => by rw [hρ]; rfl
                    have e9 : ρ (.tmp 9) = .pointer (some ⟨bx, 0, none⟩) := by rw [hρ]; exact hA.2 9 (by simp)
                    clear hρ hA hl hK hd hC
                    go_simp) hK
              · refine qu_of rfl ?_
                intro v w' A hA hC hd hl K hK
                have hcell := hC.2.2.2
                exact pure_step (.int .u32 (pb : Int)) (fun ρ hρ => by
                    have e70 : ρ (.tmp 70) = .pointer (some ⟨bx, 1, none⟩) := by rw [hρ]; exact (hA.1 14 _ 70 rfl rfl).trans (hd (14, .pointer (some ⟨bx, 1, none⟩)) (.tail _ (.tail _ (.tail _ (.tail _ (.tail _ (.tail _ (.tail _ (.tail _ (.tail _ (.tail _ (.tail _ (.tail _ (.tail _ (.tail _ (.head _))))))))))))))) ⟨⟨14, .data⟩, by simp, rfl, rfl⟩)
                    clear hρ hA hl hK hd hC
                    go_simp) hK
              · refine qu_of rfl ?_
                intro v w' A hA hC hd hl K hK
                exact pure_step (.pointer (some ⟨bx, 1, none⟩)) (fun ρ hρ => by
                    have hcst : ∀ x, ρ (.const x) = x := fun x => by rw [hρ]; rfl
                    have e9 : ρ (.tmp 9) = .pointer (some ⟨bx, 0, none⟩) := by rw [hρ]; exact hA.2 9 (by simp)
                    clear hρ hA hl hK hd hC
                    go_simp) hK
              · refine qu_of rfl ?_
                intro v w' A hA hC hd hl K hK
                have hcell := hC.2.2.2
                exact pure_step (.int .u32 (pb : Int)) (fun ρ hρ => by
                    have e72 : ρ (.tmp 72) = .pointer (some ⟨bx, 1, none⟩) := by rw [hρ]; exact (hA.1 16 _ 72 rfl rfl).trans (hd (16, .pointer (some ⟨bx, 1, none⟩)) (.tail _ (.tail _ (.tail _ (.tail _ (.tail _ (.tail _ (.tail _ (.tail _ (.tail _ (.tail _ (.tail _ (.tail _ (.tail _ (.tail _ (.tail _ (.tail _ (.head _))))))))))))))))) ⟨⟨16, .data⟩, by simp, rfl, rfl⟩)
                    clear hρ hA hl hK hd hC
                    go_simp) hK
              · refine qu_of rfl ?_
                intro v w' A hA hC hd hl K hK
                exact pure_step (.int .i64 (pb : Int)) (fun ρ hρ => by
                    have e73 : ρ (.tmp 73) = .int .u32 (pb : Int) := by rw [hρ]; exact (hA.1 17 _ 73 rfl rfl).trans (hd (17, .int .u32 (pb : Int)) (.tail _ (.tail _ (.tail _ (.tail _ (.tail _ (.tail _ (.tail _ (.tail _ (.tail _ (.tail _ (.tail _ (.tail _ (.tail _ (.tail _ (.tail _ (.tail _ (.tail _ (.head _)))))))))))))))))) ⟨⟨17, .data⟩, by simp, rfl, rfl⟩)
                    clear hρ hA hl hK hd hC
                    have hwr : IntKind.i64.wrap (pb : Int) = (pb : Int) := IntWalk.i64_in _ (by omega)
                    go_simp) hK
              · refine qu_of rfl ?_
                intro v w' A hA hC hd hl K hK
                exact pure_step (.pointer (some ⟨p, 0, none⟩)) (fun ρ hρ => by
                    have e59 : ρ (.tmp 59) = .pointer (some ⟨p, 0, none⟩) := by rw [hρ]; exact (hA.1 3 _ 59 rfl rfl).trans (hd (3, .pointer (some ⟨p, 0, none⟩)) (.tail _ (.tail _ (.tail _ (.head _)))) ⟨⟨3, .data⟩, by simp, rfl, rfl⟩)
                    clear hρ hA hl hK hd hC
                    go_simp) hK
              · refine qu_of rfl ?_
                intro v w' A hA hC hd hl K hK
                exact pure_step (.pointer (some ⟨p, 0, none⟩)) (fun ρ hρ => by
                    have e75 : ρ (.tmp 75) = .pointer (some ⟨p, 0, none⟩) := by rw [hρ]; exact (hA.1 19 _ 75 rfl rfl).trans (hd (19, .pointer (some ⟨p, 0, none⟩)) (.tail _ (.tail _ (.tail _ (.tail _ (.tail _ (.tail _ (.tail _ (.tail _ (.tail _ (.tail _ (.tail _ (.tail _ (.tail _ (.tail _ (.tail _ (.tail _ (.tail _ (.tail _ (.tail _ (.head _)))))))))))))))))))) ⟨⟨19, .data⟩, by simp, rfl, rfl⟩)
                    clear hρ hA hl hK hd hC
                    go_simp) hK
              · refine qu_of rfl ?_
                intro v w' A hA hC hd hl K hK
                exact pure_step (.pointer (some ⟨p, k, none⟩)) (fun ρ hρ => by
                    have e76 : ρ (.tmp 76) = .pointer (some ⟨p, 0, none⟩) := by rw [hρ]; exact (hA.1 20 _ 76 rfl rfl).trans (hd (20, .pointer (some ⟨p, 0, none⟩)) (.tail _ (.tail _ (.tail _ (.tail _ (.tail _ (.tail _ (.tail _ (.tail _ (.tail _ (.tail _ (.tail _ (.tail _ (.tail _ (.tail _ (.tail _ (.tail _ (.tail _ (.tail _ (.tail _ (.tail _ (.head _))))))))))))))))))))) ⟨⟨20, .data⟩, by simp, rfl, rfl⟩)
                    have e62 : ρ (.tmp 62) = .int .u32 (k : Int) := by rw [hρ]; exact (hA.1 6 _ 62 rfl rfl).trans (hd (6, .int .u32 (k : Int)) (.tail _ (.tail _ (.tail _ (.tail _ (.tail _ (.tail _ (.head _))))))) ⟨⟨6, .data⟩, by simp, rfl, rfl⟩)
                    clear hρ hA hl hK hd hC
                    have hx := hatp w'
                    go_simp) hK
              · refine qu_of rfl ?_
                intro v w' A hA hC hd hl K hK
                exact pure_step (.pointer (some ⟨q, 0, none⟩)) (fun ρ hρ => by
                    have e66 : ρ (.tmp 66) = .pointer (some ⟨q, 0, none⟩) := by rw [hρ]; exact (hA.1 10 _ 66 rfl rfl).trans (hd (10, .pointer (some ⟨q, 0, none⟩)) (.tail _ (.tail _ (.tail _ (.tail _ (.tail _ (.tail _ (.tail _ (.tail _ (.tail _ (.tail _ (.head _))))))))))) ⟨⟨10, .data⟩, by simp, rfl, rfl⟩)
                    clear hρ hA hl hK hd hC
                    go_simp) hK
              · refine qu_of rfl ?_
                intro v w' A hA hC hd hl K hK
                exact pure_step (.pointer (some ⟨q, 0, none⟩)) (fun ρ hρ => by
                    have e78 : ρ (.tmp 78) = .pointer (some ⟨q, 0, none⟩) := by rw [hρ]; exact (hA.1 23 _ 78 rfl rfl).trans (hd (23, .pointer (some ⟨q, 0, none⟩)) (.tail _ (.tail _ (.tail _ (.tail _ (.tail _ (.tail _ (.tail _ (.tail _ (.tail _ (.tail _ (.tail _ (.tail _ (.tail _ (.tail _ (.tail _ (.tail _ (.tail _ (.tail _ (.tail _ (.tail _ (.tail _ (.tail _ (.head _))))))))))))))))))))))) ⟨⟨23, .data⟩, by simp, rfl, rfl⟩)
                    clear hρ hA hl hK hd hC
                    go_simp) hK
              · refine qu_of rfl ?_
                intro v w' A hA hC hd hl K hK
                exact pure_step (.pointer (some ⟨q, k, none⟩)) (fun ρ hρ => by
                    have e79 : ρ (.tmp 79) = .pointer (some ⟨q, 0, none⟩) := by rw [hρ]; exact (hA.1 24 _ 79 rfl rfl).trans (hd (24, .pointer (some ⟨q, 0, none⟩)) (.tail _ (.tail _ (.tail _ (.tail _ (.tail _ (.tail _ (.tail _ (.tail _ (.tail _ (.tail _ (.tail _ (.tail _ (.tail _ (.tail _ (.tail _ (.tail _ (.tail _ (.tail _ (.tail _ (.tail _ (.tail _ (.tail _ (.tail _ (.head _)))))))))))))))))))))))) ⟨⟨24, .data⟩, by simp, rfl, rfl⟩)
                    have e69 : ρ (.tmp 69) = .int .u32 (k : Int) := by rw [hρ]; exact (hA.1 13 _ 69 rfl rfl).trans (hd (13, .int .u32 (k : Int)) (.tail _ (.tail _ (.tail _ (.tail _ (.tail _ (.tail _ (.tail _ (.tail _ (.tail _ (.tail _ (.tail _ (.tail _ (.tail _ (.head _)))))))))))))) ⟨⟨13, .data⟩, by simp, rfl, rfl⟩)
                    clear hρ hA hl hK hd hC
                    have hx := hatq w'
                    go_simp) hK
            · refine ⟨qu_of rfl ?_, fun x22 => ⟨qu_of rfl ?_, fun x26 => trivial⟩⟩
              · intro v w' A hA hS hacc hd hl K hK
                replace hS : (w'.cell? ⟨pp, 0, none⟩ = some (.pointer (some ⟨p, 0, none⟩)) ∧ w'.cell? ⟨pp, 1, none⟩ = some (.pointer (some ⟨q, 0, none⟩)) ∧ w'.cell? ⟨bx, 0, none⟩ = some (.int .u32 (pa : Int)) ∧ w'.cell? ⟨bx, 1, none⟩ = some (.int .u32 (pb : Int))) ∧ Has w' p 48 (tab 35 (hV x 0 g (some gm))) ∧ Has w' q 76 (tab 35 (qV x 0 h r)) ∧ Only (fun b => b = p ∨ b = q) w6 w' := hS
                have hC := hS.1
                have hfz : w'.frozen? ⟨p, k, none⟩ = false := hS.2.1.free k
                have hcz : w'.cell? ⟨p, k, none⟩ = some (.int .u32 (x k : Int)) := by rw [hS.2.1.cellTab k (by omega), hV_x _ _ _ _ _ hk32]
                refine new_stepS (w'' := w'.setCell ⟨p, k, none⟩ (.int .u32 (pb : Int))) (fun ρ hρ => by
                    have e77 : ρ (.tmp 77) = .pointer (some ⟨p, k, none⟩) := by rw [hρ]; exact (hA.1 21 _ 77 rfl rfl).trans (hd (21, .pointer (some ⟨p, k, none⟩)) (.tail _ (.tail _ (.tail _ (.tail _ (.tail _ (.tail _ (.tail _ (.tail _ (.tail _ (.tail _ (.tail _ (.tail _ (.tail _ (.tail _ (.tail _ (.tail _ (.tail _ (.tail _ (.tail _ (.tail _ (.tail _ (.head _)))))))))))))))))))))) ⟨⟨21, .data⟩, by simp, rfl, rfl⟩)
                    have e71 : ρ (.tmp 71) = .int .u32 (pb : Int) := by rw [hρ]; exact (hA.1 15 _ 71 rfl rfl).trans (hd (15, .int .u32 (pb : Int)) (.tail _ (.tail _ (.tail _ (.tail _ (.tail _ (.tail _ (.tail _ (.tail _ (.tail _ (.tail _ (.tail _ (.tail _ (.tail _ (.tail _ (.tail _ (.head _)))))))))))))))) ⟨⟨15, .data⟩, by simp, rfl, rfl⟩)
                    clear hρ hA hl hK hd hS hacc
                    go_simp
                    ) ?_
                exact hK _ _ ⟨rfl, ⟨(cell_far _ PPp).trans hC.1, (cell_far _ PPp).trans hC.2.1, (cell_far _ BXp).trans hC.2.2.1, (cell_far _ BXp).trans hC.2.2.2⟩, hart_x hS.2.1 k pb hk32, (Only.setCell (S := fun b => b = p) _ rfl _).has hS.2.2.1 (fun e => HNE.out.1.2.2.2.2.1 e.symm), hS.2.2.2.trans (Only.setCell _ (Or.inl rfl) _)⟩
              · intro v w' A hA hS hacc hd hl K hK
                replace hS : x22 = undef ∧ (w'.cell? ⟨pp, 0, none⟩ = some (.pointer (some ⟨p, 0, none⟩)) ∧ w'.cell? ⟨pp, 1, none⟩ = some (.pointer (some ⟨q, 0, none⟩)) ∧ w'.cell? ⟨bx, 0, none⟩ = some (.int .u32 (pa : Int)) ∧ w'.cell? ⟨bx, 1, none⟩ = some (.int .u32 (pb : Int))) ∧ Has w' p 48 (tab 35 (hV (upd x k pb) 0 g (some gm))) ∧ Has w' q 76 (tab 35 (qV x 0 h r)) ∧ Only (fun b => b = p ∨ b = q) w6 w' := hS
                have hC := hS.2.1
                have hfz : w'.frozen? ⟨q, k, none⟩ = false := hS.2.2.2.1.free k
                have hcz : w'.cell? ⟨q, k, none⟩ = some (.int .i64 (x k : Int)) := by rw [hS.2.2.2.1.cellTab k (by omega), qV_x _ _ _ _ _ hk32]
                refine new_stepS (w'' := w'.setCell ⟨q, k, none⟩ (.int .i64 (pb : Int))) (fun ρ hρ => by
                    have e80 : ρ (.tmp 80) = .pointer (some ⟨q, k, none⟩) := by rw [hρ]; exact (hA.1 25 _ 80 rfl rfl).trans (hd (25, .pointer (some ⟨q, k, none⟩)) (.tail _ (.tail _ (.tail _ (.tail _ (.tail _ (.tail _ (.tail _ (.tail _ (.tail _ (.tail _ (.tail _ (.tail _ (.tail _ (.tail _ (.tail _ (.tail _ (.tail _ (.tail _ (.tail _ (.tail _ (.tail _ (.tail _ (.tail _ (.tail _ (.head _))))))))))))))))))))))))) ⟨⟨25, .data⟩, by simp, rfl, rfl⟩)
                    have e74 : ρ (.tmp 74) = .int .i64 (pb : Int) := by rw [hρ]; exact (hA.1 18 _ 74 rfl rfl).trans (hd (18, .int .i64 (pb : Int)) (.tail _ (.tail _ (.tail _ (.tail _ (.tail _ (.tail _ (.tail _ (.tail _ (.tail _ (.tail _ (.tail _ (.tail _ (.tail _ (.tail _ (.tail _ (.tail _ (.tail _ (.tail _ (.head _))))))))))))))))))) ⟨⟨18, .data⟩, by simp, rfl, rfl⟩)
                    clear hρ hA hl hK hd hS hacc
                    go_simp
                    ) ?_
                exact hK _ _ ⟨rfl, ⟨(cell_far _ PPq).trans hC.1, (cell_far _ PPq).trans hC.2.1, (cell_far _ BXq).trans hC.2.2.1, (cell_far _ BXq).trans hC.2.2.2⟩, (Only.setCell (S := fun b => b = q) _ rfl _).has hS.2.2.1 HNE.out.1.2.2.2.2.1, qhart_x hS.2.2.2.1 k pb hk32, hS.2.2.2.2.trans (Only.setCell _ (Or.inr rfl) _)⟩
            intro x22 x26 v wE hSE hacc hqv
            replace hSE : x26 = undef ∧ (wE.cell? ⟨pp, 0, none⟩ = some (.pointer (some ⟨p, 0, none⟩)) ∧ wE.cell? ⟨pp, 1, none⟩ = some (.pointer (some ⟨q, 0, none⟩)) ∧ wE.cell? ⟨bx, 0, none⟩ = some (.int .u32 (pa : Int)) ∧ wE.cell? ⟨bx, 1, none⟩ = some (.int .u32 (pb : Int))) ∧ Has wE p 48 (tab 35 (hV (upd x k pb) 0 g (some gm))) ∧ Has wE q 76 (tab 35 (qV (upd x k pb) 0 h r)) ∧ Only (fun b => b = p ∨ b = q) w6 wE := hSE
            have f0 : v 0 = .pointer (some ⟨pp, 0, none⟩) := hqv (0, .pointer (some ⟨pp, 0, none⟩)) (.head _)
            have f1 : v 1 = .pointer (some ⟨pp, 0, none⟩) := hqv (1, .pointer (some ⟨pp, 0, none⟩)) (.tail _ (.head _))
            have f2 : v 2 = .pointer (some ⟨pp, 0, none⟩) := hqv (2, .pointer (some ⟨pp, 0, none⟩)) (.tail _ (.tail _ (.head _)))
            have f3 : v 3 = .pointer (some ⟨p, 0, none⟩) := hqv (3, .pointer (some ⟨p, 0, none⟩)) (.tail _ (.tail _ (.tail _ (.head _))))
            have f4 : v 4 = .pointer (some ⟨bx, 0, none⟩) := hqv (4, .pointer (some ⟨bx, 0, none⟩)) (.tail _ (.tail _ (.tail _ (.tail _ (.head _)))))
            have f5 : v 5 = .int .u32 (pa : Int) := hqv (5, .int .u32 (pa : Int)) (.tail _ (.tail _ (.tail _ (.tail _ (.tail _ (.head _))))))
            have f6 : v 6 = .int .u32 (k : Int) := hqv (6, .int .u32 (k : Int)) (.tail _ (.tail _ (.tail _ (.tail _ (.tail _ (.tail _ (.head _)))))))
            have f7 : v 7 = .pointer (some ⟨pp, 0, none⟩) := hqv (7, .pointer (some ⟨pp, 0, none⟩)) (.tail _ (.tail _ (.tail _ (.tail _ (.tail _ (.tail _ (.tail _ (.head _))))))))
            have f8 : v 8 = .pointer (some ⟨pp, 0, none⟩) := hqv (8, .pointer (some ⟨pp, 0, none⟩)) (.tail _ (.tail _ (.tail _ (.tail _ (.tail _ (.tail _ (.tail _ (.tail _ (.head _)))))))))
            have f9 : v 9 = .pointer (some ⟨pp, 1, none⟩) := hqv (9, .pointer (some ⟨pp, 1, none⟩)) (.tail _ (.tail _ (.tail _ (.tail _ (.tail _ (.tail _ (.tail _ (.tail _ (.tail _ (.head _))))))))))
            have f10 : v 10 = .pointer (some ⟨q, 0, none⟩) := hqv (10, .pointer (some ⟨q, 0, none⟩)) (.tail _ (.tail _ (.tail _ (.tail _ (.tail _ (.tail _ (.tail _ (.tail _ (.tail _ (.tail _ (.head _)))))))))))
            have f11 : v 11 = .pointer (some ⟨bx, 0, none⟩) := hqv (11, .pointer (some ⟨bx, 0, none⟩)) (.tail _ (.tail _ (.tail _ (.tail _ (.tail _ (.tail _ (.tail _ (.tail _ (.tail _ (.tail _ (.tail _ (.head _))))))))))))
            have f12 : v 12 = .int .u32 (pa : Int) := hqv (12, .int .u32 (pa : Int)) (.tail _ (.tail _ (.tail _ (.tail _ (.tail _ (.tail _ (.tail _ (.tail _ (.tail _ (.tail _ (.tail _ (.tail _ (.head _)))))))))))))
            have f13 : v 13 = .int .u32 (k : Int) := hqv (13, .int .u32 (k : Int)) (.tail _ (.tail _ (.tail _ (.tail _ (.tail _ (.tail _ (.tail _ (.tail _ (.tail _ (.tail _ (.tail _ (.tail _ (.tail _ (.head _))))))))))))))
            have f14 : v 14 = .pointer (some ⟨bx, 1, none⟩) := hqv (14, .pointer (some ⟨bx, 1, none⟩)) (.tail _ (.tail _ (.tail _ (.tail _ (.tail _ (.tail _ (.tail _ (.tail _ (.tail _ (.tail _ (.tail _ (.tail _ (.tail _ (.tail _ (.head _)))))))))))))))
            have f15 : v 15 = .int .u32 (pb : Int) := hqv (15, .int .u32 (pb : Int)) (.tail _ (.tail _ (.tail _ (.tail _ (.tail _ (.tail _ (.tail _ (.tail _ (.tail _ (.tail _ (.tail _ (.tail _ (.tail _ (.tail _ (.tail _ (.head _))))))))))))))))
            have f16 : v 16 = .pointer (some ⟨bx, 1, none⟩) := hqv (16, .pointer (some ⟨bx, 1, none⟩)) (.tail _ (.tail _ (.tail _ (.tail _ (.tail _ (.tail _ (.tail _ (.tail _ (.tail _ (.tail _ (.tail _ (.tail _ (.tail _ (.tail _ (.tail _ (.tail _ (.head _)))))))))))))))))
            have f17 : v 17 = .int .u32 (pb : Int) := hqv (17, .int .u32 (pb : Int)) (.tail _ (.tail _ (.tail _ (.tail _ (.tail _ (.tail _ (.tail _ (.tail _ (.tail _ (.tail _ (.tail _ (.tail _ (.tail _ (.tail _ (.tail _ (.tail _ (.tail _ (.head _))))))))))))))))))
            have f18 : v 18 = .int .i64 (pb : Int) := hqv (18, .int .i64 (pb : Int)) (.tail _ (.tail _ (.tail _ (.tail _ (.tail _ (.tail _ (.tail _ (.tail _ (.tail _ (.tail _ (.tail _ (.tail _ (.tail _ (.tail _ (.tail _ (.tail _ (.tail _ (.tail _ (.head _)))))))))))))))))))
            have f19 : v 19 = .pointer (some ⟨p, 0, none⟩) := hqv (19, .pointer (some ⟨p, 0, none⟩)) (.tail _ (.tail _ (.tail _ (.tail _ (.tail _ (.tail _ (.tail _ (.tail _ (.tail _ (.tail _ (.tail _ (.tail _ (.tail _ (.tail _ (.tail _ (.tail _ (.tail _ (.tail _ (.tail _ (.head _))))))))))))))))))))
            have f20 : v 20 = .pointer (some ⟨p, 0, none⟩) := hqv (20, .pointer (some ⟨p, 0, none⟩)) (.tail _ (.tail _ (.tail _ (.tail _ (.tail _ (.tail _ (.tail _ (.tail _ (.tail _ (.tail _ (.tail _ (.tail _ (.tail _ (.tail _ (.tail _ (.tail _ (.tail _ (.tail _ (.tail _ (.tail _ (.head _)))))))))))))))))))))
            have f21 : v 21 = .pointer (some ⟨p, k, none⟩) := hqv (21, .pointer (some ⟨p, k, none⟩)) (.tail _ (.tail _ (.tail _ (.tail _ (.tail _ (.tail _ (.tail _ (.tail _ (.tail _ (.tail _ (.tail _ (.tail _ (.tail _ (.tail _ (.tail _ (.tail _ (.tail _ (.tail _ (.tail _ (.tail _ (.tail _ (.head _))))))))))))))))))))))
            have f22 : v 22 = x22 := hacc (22, x22) (by simp)
            have f23 : v 23 = .pointer (some ⟨q, 0, none⟩) := hqv (23, .pointer (some ⟨q, 0, none⟩)) (.tail _ (.tail _ (.tail _ (.tail _ (.tail _ (.tail _ (.tail _ (.tail _ (.tail _ (.tail _ (.tail _ (.tail _ (.tail _ (.tail _ (.tail _ (.tail _ (.tail _ (.tail _ (.tail _ (.tail _ (.tail _ (.tail _ (.head _)))))))))))))))))))))))
            have f24 : v 24 = .pointer (some ⟨q, 0, none⟩) := hqv (24, .pointer (some ⟨q, 0, none⟩)) (.tail _ (.tail _ (.tail _ (.tail _ (.tail _ (.tail _ (.tail _ (.tail _ (.tail _ (.tail _ (.tail _ (.tail _ (.tail _ (.tail _ (.tail _ (.tail _ (.tail _ (.tail _ (.tail _ (.tail _ (.tail _ (.tail _ (.tail _ (.head _))))))))))))))))))))))))
            have f25 : v 25 = .pointer (some ⟨q, k, none⟩) := hqv (25, .pointer (some ⟨q, k, none⟩)) (.tail _ (.tail _ (.tail _ (.tail _ (.tail _ (.tail _ (.tail _ (.tail _ (.tail _ (.tail _ (.tail _ (.tail _ (.tail _ (.tail _ (.tail _ (.tail _ (.tail _ (.tail _ (.tail _ (.tail _ (.tail _ (.tail _ (.tail _ (.tail _ (.head _)))))))))))))))))))))))))
            have f26 : v 26 = x26 := hacc (26, x26) (by simp)
            clear hacc hqv
            simp only [putAll, Act.put, List.setIfInBounds_toArray, List.set_cons_zero, List.set_cons_succ, Nat.zero_add, Nat.reduceAdd]
            rw [f0, f1, f2, f3, f4, f5, f6, f7, f8, f9, f10, f11, f12, f13, f14, f15, f16, f17, f18, f19, f20, f21, f23, f24, f25]
            clear f0 f1 f2 f3 f4 f5 f6 f7 f8 f9 f10 f11 f12 f13 f14 f15 f16 f17 f18 f19 f20 f21 f22 f23 f24 f25 f26
            go_wp2_with fail
            go_roundw
            case rel => exact ⟨i2 + 1, hlt2, by go_num, ⟨upd x k pb, hSE.2.2.1, hSE.2.2.2.1, by rw [upd_other _ _ (by omega)]; exact HX.out.1, fun j => by unfold upd; split; exact hpb; exact HX.out.2 j⟩, hSE.2.2.2.2⟩
            case measure => simp [intOf] <;> omega
          · have hk00 : k = 0 := by omega
            have hg0 : decide ((0 : Int) < (k : Int)) = false := decide_eq_false (by omega)
            have hg1 : ((0 : Int) < (k : Int)) = False := eq_false (by omega)
            have hg2 : decide (0 < k) = false := decide_eq_false hk0
            clear hk00 hk0
            go_wp2_with fail
            go_roundw
            case rel => exact ⟨i2 + 1, hlt2, by go_num, ⟨x, HHw.out, HQw.out, HX.out.1, HX.out.2⟩, HOw.out⟩
            case measure => simp [intOf] <;> omega
        · obtain rfl : i2 = n1 := by omega
          have nn := HNE.out
          have hJa : Has wr bs 27 _ := hOv.has HJ6.out (fun e => e.elim (fun e => nn.1.2.2.2.2.2.2 e.symm) (fun e => nn.2.2.2.2.2.2.2.2.2.2.2.2.2.2.1 e.symm))
          have hPa := hOv.has HP6.out (fun e => e.elim (fun e => nn.1.2.2.2.2.2.1 e.symm) (fun e => nn.2.2.2.2.2.2.2.2.2.2.1 e))
          have hIa := O.keep HI6.out hOv (fun e => e.elim (fun e => nn.1.1 e.symm) (fun e => nn.2.1.2.2.2.1 e))
          have hRa := HR6.out.only hOv (fun e => e.elim (fun e => nn.1.2.2.1 e.symm) (fun e => nn.2.2.2.2.2.2.1 e.symm)) (fun e => e.elim (fun e => nn.1.2.2.2.1 e.symm) (fun e => nn.2.2.2.2.2.2.2.1 e.symm))
          have hMa := ram_only HM6.out hOv (fun e => e.elim (fun e => nn.1.2.1 e.symm) (fun e => nn.2.2.2.2.1 e.symm))
          have hbv : Below u.heap.size w6 wr := hOv.below (fun b hb => by have h := HLO.out; rcases hb with e | e <;> omega) HU6.out.size
          have hUa := HU6.out.trans hbv
          have hSa := HS0.out.after hUa
          have hEa := hSa.l
          have pc0 : wr.cell? ⟨pp, 0, none⟩ = some (.pointer (some ⟨p, 0, none⟩)) := hPa.cell 0
          have pc1 : wr.cell? ⟨pp, 1, none⟩ = some (.pointer (some ⟨q, 0, none⟩)) := hPa.cell 1
          have pg : wr.cell? ⟨p, 33, none⟩ = some (.pointer (some ⟨g, 0, none⟩)) := hHv.cellTab 33 (by decide)
          have qh : wr.cell? ⟨q, 33, none⟩ = some (.pointer (some ⟨h, 0, none⟩)) := hQv.cellTab 33 (by decide)
          have b2 : wr.cell? ⟨bs, 2, none⟩ = some (.slice A2 n2 c2) := hJa.cell 2
          have hneE : ∀ b o, A2 = some ⟨b, o, none⟩ → 0 < n2 → b < u.heap.size := fun b o e h0 => by
            obtain ⟨b', o', e', hlt', _⟩ := HS0.out.l.2.1.2 h0
            dsimp only at e'
            rw [e] at e'
            injection e' with e'
            injection e' with e1 e2
            rw [e1]
            exact hlt'
          have HHa := Lib.hid hHv
          have HQa := Lib.hid hQv
          have HXa := Lib.hid (And.intro hx0 hxl)
          have HJa := Lib.hid hJa
          have HPa := Lib.hid hPa
          have HIa := Lib.hid hIa
          have HRa := Lib.hid hRa
          have HMa := Lib.hid hMa
          have HUa := Lib.hid hUa
          have HEa := Lib.hid hEa
          have HNEE := Lib.hid hneE
          generalize hwa : wr = wa at *
          clear hwa hHv hQv hx0 hxl hOv hJa hPa hIa hRa hMa hbv hUa hSa hEa hneE nn
          go_upto_region 15 with fail
          refine region_chain (fun w' => (w'.cell? ⟨pp, 0, none⟩ = some (.pointer (some ⟨p, 0, none⟩)) ∧ w'.cell? ⟨p, 33, none⟩ = some (.pointer (some ⟨g, 0, none⟩)) ∧ w'.cell? ⟨bs, 2, none⟩ = some (.slice A2 n2 c2))) [(0, .pointer (some ⟨pp, 0, none⟩)), (1, .pointer (some ⟨pp, 0, none⟩)), (2, .pointer (some ⟨pp, 0, none⟩)), (3, .pointer (some ⟨p, 0, none⟩)), (4, .pointer (some ⟨p, 0, none⟩)), (5, .pointer (some ⟨p, 33, none⟩)), (6, .pointer (some ⟨g, 0, none⟩)), (7, .pointer (some ⟨bs, 2, none⟩)), (8, .slice A2 n2 c2)] [(9, fun xs w' => (xs.getD 0 undef) = .int .i64 0 ∧ (w'.cell? ⟨pp, 0, none⟩ = some (.pointer (some ⟨p, 0, none⟩)) ∧ w'.cell? ⟨p, 33, none⟩ = some (.pointer (some ⟨g, 0, none⟩)) ∧ w'.cell? ⟨bs, 2, none⟩ = some (.slice A2 n2 c2)) ∧ Is w' g (protC Cs.st0 a.l) ∧ Only (S1 g) wa w')] (fun w' => (w'.cell? ⟨pp, 0, none⟩ = some (.pointer (some ⟨p, 0, none⟩)) ∧ w'.cell? ⟨p, 33, none⟩ = some (.pointer (some ⟨g, 0, none⟩)) ∧ w'.cell? ⟨bs, 2, none⟩ = some (.slice A2 n2 c2)) ∧ Is w' g Cs.st0 ∧ SlE w' ⟨A2, n2, c2⟩ a.l ∧ Only (S1 g) wa w') 176 (by kernel_rfl) rfl (by kernel_rfl) (by kernel_rfl) ?_ ?_ ?_ ?_ ?_ ?_
          · intro w' hb he
            exact ⟨⟨(cell_heap he _).trans pc0, (cell_heap he _).trans pg, (cell_heap he _).trans b2⟩, O.below HIa.out hb, HEa.out.below hb, Only.of_below hb⟩
          · exact fun w' h => h.1
          · simp only [List.forall_mem_cons, List.not_mem_nil, false_implies, implies_true, and_true]
            refine ?_
            · exact fun xs w' h => h.2.1
          · simp only [List.forall_mem_cons, List.not_mem_nil, false_implies, implies_true, and_true]
            refine ⟨?_, ?_, ?_, ?_, ?_, ?_, ?_, ?_, ?_⟩
            · refine qu_of rfl ?_
              intro v w' A hA hC hd hl K hK
              exact pure_step (.pointer (some ⟨pp, 0, none⟩)) (fun ρ hρ => by
                  have e7 : ρ (.tmp 7) = .pointer (some ⟨pp, 0, none⟩) := by rw [hρ]; exact hA.2 7 (by simp)
                  clear hρ hA hl hK hd hC
                  go_simp) hK
            · refine qu_of rfl ?_
              intro v w' A hA hC hd hl K hK
              exact pure_step (.pointer (some ⟨pp, 0, none⟩)) (fun ρ hρ => by
                  have e82 : ρ (.tmp 82) = .pointer (some ⟨pp, 0, none⟩) := by rw [hρ]; exact (hA.1 0 _ 82 rfl rfl).trans (hd (0, .pointer (some ⟨pp, 0, none⟩)) (.head _) ⟨⟨0, .data⟩, by simp, rfl, rfl⟩)
                  clear hρ hA hl hK hd hC
                  go_simp) hK
            · refine qu_of rfl ?_
              intro v w' A hA hC hd hl K hK
              exact pure_step (.pointer (some ⟨pp, 0, none⟩)) (fun ρ hρ => by
                  have e83 : ρ (.tmp 83) = .pointer (some ⟨pp, 0, none⟩) := by rw [hρ]; exact (hA.1 1 _ 83 rfl rfl).trans (hd (1, .pointer (some ⟨pp, 0, none⟩)) (.tail _ (.head _)) ⟨⟨1, .data⟩, by simp, rfl, rfl⟩)
                  clear hρ hA hl hK hd hC
                  go_simp) hK
            · refine qu_of rfl ?_
              intro v w' A hA hC hd hl K hK
              have hcell := hC.1
              exact pure_step (.pointer (some ⟨p, 0, none⟩)) (fun ρ hρ => by
                  have e84 : ρ (.tmp 84) = .pointer (some ⟨pp, 0, none⟩) := by rw [hρ]; exact (hA.1 2 _ 84 rfl rfl).trans (hd (2, .pointer (some ⟨pp, 0, none⟩)) (.tail _ (.tail _ (.head _))) ⟨⟨2, .data⟩, by simp, rfl, rfl⟩)
                  clear hρ hA hl hK hd hC
                  go_simp) hK
            · refine qu_of rfl ?_
              intro v w' A hA hC hd hl K hK
              exact pure_step (.pointer (some ⟨p, 0, none⟩)) (fun ρ hρ => by
                  have e85 : ρ (.tmp 85) = .pointer (some ⟨p, 0, none⟩) := by rw [hρ]; exact (hA.1 3 _ 85 rfl rfl).trans (hd (3, .pointer (some ⟨p, 0, none⟩)) (.tail _ (.tail _ (.tail _ (.head _)))) ⟨⟨3, .data⟩, by simp, rfl, rfl⟩)
                  clear hρ hA hl hK hd hC
                  go_simp) hK
            · refine qu_of rfl ?_
              intro v w' A hA hC hd hl K hK
              exact pure_step (.pointer (some ⟨p, 33, none⟩)) (fun ρ hρ => by
                  have e86 : ρ (.tmp 86) = .pointer (some ⟨p, 0, none⟩) := by rw [hρ]; exact (hA.1 4 _ 86 rfl rfl).trans (hd (4, .pointer (some ⟨p, 0, none⟩)) (.tail _ (.tail _ (.tail _ (.tail _ (.head _))))) ⟨⟨4, .data⟩, by simp, rfl, rfl⟩)
                  clear hρ hA hl hK hd hC
                  go_simp) hK
            · refine qu_of rfl ?_
              intro v w' A hA hC hd hl K hK
              have hcell := hC.2.1
              exact pure_step (.pointer (some ⟨g, 0, none⟩)) (fun ρ hρ => by
                  have e87 : ρ (.tmp 87) = .pointer (some ⟨p, 33, none⟩) := by rw [hρ]; exact (hA.1 5 _ 87 rfl rfl).trans (hd (5, .pointer (some ⟨p, 33, none⟩)) (.tail _ (.tail _ (.tail _ (.tail _ (.tail _ (.head _)))))) ⟨⟨5, .data⟩, by simp, rfl, rfl⟩)
                  clear hρ hA hl hK hd hC
                  go_simp) hK
            · refine qu_of rfl ?_
              intro v w' A hA hC hd hl K hK
              exact pure_step (.pointer (some ⟨bs, 2, none⟩)) (fun ρ hρ => by
                  have e1 : ρ (.tmp 1) = .pointer (some ⟨bs, 0, none⟩) := by rw [hρ]; exact hA.2 1 (by simp)
                  clear hρ hA hl hK hd hC
                  go_simp) hK
            · refine qu_of rfl ?_
              intro v w' A hA hC hd hl K hK
              have hcell := hC.2.2
              exact pure_step (.slice A2 n2 c2) (fun ρ hρ => by
                  have e89 : ρ (.tmp 89) = .pointer (some ⟨bs, 2, none⟩) := by rw [hρ]; exact (hA.1 7 _ 89 rfl rfl).trans (hd (7, .pointer (some ⟨bs, 2, none⟩)) (.tail _ (.tail _ (.tail _ (.tail _ (.tail _ (.tail _ (.tail _ (.head _)))))))) ⟨⟨7, .data⟩, by simp, rfl, rfl⟩)
                  clear hρ hA hl hK hd hC
                  go_simp) hK
          · refine ⟨qu_of rfl ?_, fun x9 => trivial⟩
            · intro v w' A hA hS hacc hd hl K hK
              replace hS : (w'.cell? ⟨pp, 0, none⟩ = some (.pointer (some ⟨p, 0, none⟩)) ∧ w'.cell? ⟨p, 33, none⟩ = some (.pointer (some ⟨g, 0, none⟩)) ∧ w'.cell? ⟨bs, 2, none⟩ = some (.slice A2 n2 c2)) ∧ Is w' g Cs.st0 ∧ SlE w' ⟨A2, n2, c2⟩ a.l ∧ Only (S1 g) wa w' := hS
              refine call_step 24 #[hP g, .slice A2 n2 c2] (fun ρ hρ => by
                  have hfun : ∀ f, ρ (.func f) = .func (.func f) #[] #[] := fun f => by rw [hρ]; rfl
                  have e88 : ρ (.tmp 88) = .pointer (some ⟨g, 0, none⟩) := by rw [hρ]; exact (hA.1 6 _ 88 rfl rfl).trans (hd (6, .pointer (some ⟨g, 0, none⟩)) (.tail _ (.tail _ (.tail _ (.tail _ (.tail _ (.tail _ (.head _))))))) ⟨⟨6, .data⟩, by simp, rfl, rfl⟩)
                  have e90 : ρ (.tmp 90) = .slice A2 n2 c2 := by rw [hρ]; exact (hA.1 8 _ 90 rfl rfl).trans (hd (8, .slice A2 n2 c2) (.tail _ (.tail _ (.tail _ (.tail _ (.tail _ (.tail _ (.tail _ (.tail _ (.head _))))))))) ⟨⟨8, .data⟩, by simp, rfl, rfl⟩)
                  clear hρ hA hl hK hd hS hacc
                  go_simp
                  ) ?_
              have kk := O.protect w' g Cs.st0 a.l ⟨A2, n2, c2⟩ hS.2.1 hS.2.2.1 (fun b o e h0 e2 => by have h1 := HNEE.out b o e h0; have h2 := HLO.out; omega)
              rw [if_neg (by show ¬ 16 < n2; omega), if_neg (by show ¬ 16 < n2; omega)] at kk
              refine kk.mono ?_
              rintro e w'' ⟨rfl, hI9, hO9⟩
              exact ⟨_, rfl, hK _ _ ⟨rfl, ⟨cell_only hO9 hS.1.1 (fun e => HNE.out.2.1.2.2.2.2.1 (Eq.symm e)), cell_only hO9 hS.1.2.1 (fun e => HNE.out.1.1 e), cell_only hO9 hS.1.2.2 (fun e => HNE.out.2.1.2.2.2.2.2 (Eq.symm e))⟩, hI9, hS.2.2.2.trans hO9⟩⟩
          intro x9 v wE hSE hacc hqv
          replace hSE : x9 = .int .i64 0 ∧ (wE.cell? ⟨pp, 0, none⟩ = some (.pointer (some ⟨p, 0, none⟩)) ∧ wE.cell? ⟨p, 33, none⟩ = some (.pointer (some ⟨g, 0, none⟩)) ∧ wE.cell? ⟨bs, 2, none⟩ = some (.slice A2 n2 c2)) ∧ Is wE g (protC Cs.st0 a.l) ∧ Only (S1 g) wa wE := hSE
          have f0 : v 0 = .pointer (some ⟨pp, 0, none⟩) := hqv (0, .pointer (some ⟨pp, 0, none⟩)) (.head _)
          have f1 : v 1 = .pointer (some ⟨pp, 0, none⟩) := hqv (1, .pointer (some ⟨pp, 0, none⟩)) (.tail _ (.head _))
          have f2 : v 2 = .pointer (some ⟨pp, 0, none⟩) := hqv (2, .pointer (some ⟨pp, 0, none⟩)) (.tail _ (.tail _ (.head _)))
          have f3 : v 3 = .pointer (some ⟨p, 0, none⟩) := hqv (3, .pointer (some ⟨p, 0, none⟩)) (.tail _ (.tail _ (.tail _ (.head _))))
          have f4 : v 4 = .pointer (some ⟨p, 0, none⟩) := hqv (4, .pointer (some ⟨p, 0, none⟩)) (.tail _ (.tail _ (.tail _ (.tail _ (.head _)))))
          have f5 : v 5 = .pointer (some ⟨p, 33, none⟩) := hqv (5, .pointer (some ⟨p, 33, none⟩)) (.tail _ (.tail _ (.tail _ (.tail _ (.tail _ (.head _))))))
          have f6 : v 6 = .pointer (some ⟨g, 0, none⟩) := hqv (6, .pointer (some ⟨g, 0, none⟩)) (.tail _ (.tail _ (.tail _ (.tail _ (.tail _ (.tail _ (.head _)))))))
          have f7 : v 7 = .pointer (some ⟨bs, 2, none⟩) := hqv (7, .pointer (some ⟨bs, 2, none⟩)) (.tail _ (.tail _ (.tail _ (.tail _ (.tail _ (.tail _ (.tail _ (.head _))))))))
          have f8 : v 8 = .slice A2 n2 c2 := hqv (8, .slice A2 n2 c2) (.tail _ (.tail _ (.tail _ (.tail _ (.tail _ (.tail _ (.tail _ (.tail _ (.head _)))))))))
          have f9 : v 9 = x9 := hacc (9, x9) (by simp)
          clear hacc hqv
          simp only [putAll, Act.put, List.setIfInBounds_toArray, List.set_cons_zero, List.set_cons_succ, Nat.zero_add, Nat.reduceAdd]
          rw [f0, f1, f2, f3, f4, f5, f6, f7, f8, f9]
          clear f0 f1 f2 f3 f4 f5 f6 f7 f8 f9
          have hIb := hSE.2.2.1
          have hOb := hSE.2.2.2
          clear hSE pg
          have nn := HNE.out
          have hgs : ∀ b, S1 g b → u.heap.size ≤ b := fun b e => by have e : b = g := e; have h := HLO.out; omega
          have hUb := HUa.out.trans (hOb.below hgs HUa.out.size)
          have hEb := (HS0.out.after hUb).l
          have hRb := HRa.out.only hOb (fun e => nn.2.1.2.1 (Eq.symm e)) (fun e => nn.2.1.2.2.1 (Eq.symm e))
          have hPb := hOb.has HPa.out (fun e => nn.2.1.2.2.2.2.1 (Eq.symm e))
          have hQb := hOb.has HQa.out (fun e => nn.2.1.2.2.2.1 (Eq.symm e))
          have hHb := hOb.has HHa.out (fun e => nn.1.1 e)
          have hJb := hOb.has HJa.out (fun e => nn.2.1.2.2.2.2.2 (Eq.symm e))
          have hMb := ram_only HMa.out hOb (fun e => nn.2.1.1 (Eq.symm e))
          replace pc0 : wE.cell? ⟨pp, 0, none⟩ = some (.pointer (some ⟨p, 0, none⟩)) := hPb.cell 0
          replace pc1 : wE.cell? ⟨pp, 1, none⟩ = some (.pointer (some ⟨q, 0, none⟩)) := hPb.cell 1
          replace qh : wE.cell? ⟨q, 33, none⟩ = some (.pointer (some ⟨h, 0, none⟩)) := hQb.cellTab 33 (by decide)
          replace b2 : wE.cell? ⟨bs, 2, none⟩ = some (.slice A2 n2 c2) := hJb.cell 2
          have HRb := Lib.hid hRb
          have HEb := Lib.hid hEb
          have HPb := Lib.hid hPb
          have HQb := Lib.hid hQb
          have HHb := Lib.hid hHb
          have HJb := Lib.hid hJb
          have HMb := Lib.hid hMb
          have HUb := Lib.hid hUb
          have HIb := Lib.hid hIb
          generalize hwb : wE = wb at *
          clear hwb hIb hOb hgs hUb hEb hRb hPb hQb hHb hJb hMb nn
          go_upto_region 16 with fail
          refine region_chain (fun w' => (w'.cell? ⟨pp, 1, none⟩ = some (.pointer (some ⟨q, 0, none⟩)) ∧ w'.cell? ⟨q, 33, none⟩ = some (.pointer (some ⟨h, 0, none⟩)) ∧ w'.cell? ⟨bs, 2, none⟩ = some (.slice A2 n2 c2))) [(0, .pointer (some ⟨pp, 0, none⟩)), (1, .pointer (some ⟨pp, 0, none⟩)), (2, .pointer (some ⟨pp, 1, none⟩)), (3, .pointer (some ⟨q, 0, none⟩)), (4, .pointer (some ⟨q, 0, none⟩)), (5, .pointer (some ⟨q, 33, none⟩)), (6, .pointer (some ⟨h, 0, none⟩)), (7, .pointer (some ⟨bs, 2, none⟩)), (8, .slice A2 n2 c2)] [(9, fun xs w' => (xs.getD 0 undef) = .tuple #[] ∧ (w'.cell? ⟨pp, 1, none⟩ = some (.pointer (some ⟨q, 0, none⟩)) ∧ w'.cell? ⟨q, 33, none⟩ = some (.pointer (some ⟨h, 0, none⟩)) ∧ w'.cell? ⟨bs, 2, none⟩ = some (.slice A2 n2 c2)) ∧ Ref w' h mb (protC Cs.st0 a.l) ∧ Only (SR h mb) wb w')] (fun w' => (w'.cell? ⟨pp, 1, none⟩ = some (.pointer (some ⟨q, 0, none⟩)) ∧ w'.cell? ⟨q, 33, none⟩ = some (.pointer (some ⟨h, 0, none⟩)) ∧ w'.cell? ⟨bs, 2, none⟩ = some (.slice A2 n2 c2)) ∧ Ref w' h mb Cs.st0 ∧ SlE w' ⟨A2, n2, c2⟩ a.l ∧ Only (SR h mb) wb w') 176 (by kernel_rfl) rfl (by kernel_rfl) (by kernel_rfl) ?_ ?_ ?_ ?_ ?_ ?_
          · intro w' hb he
            exact ⟨⟨(cell_heap he _).trans pc1, (cell_heap he _).trans qh, (cell_heap he _).trans b2⟩, HRb.out.after hb, HEb.out.below hb, Only.of_below hb⟩
          · exact fun w' h => h.1
          · simp only [List.forall_mem_cons, List.not_mem_nil, false_implies, implies_true, and_true]
            refine ?_
            · exact fun xs w' h => h.2.1
          · simp only [List.forall_mem_cons, List.not_mem_nil, false_implies, implies_true, and_true]
            refine ⟨?_, ?_, ?_, ?_, ?_, ?_, ?_, ?_, ?_⟩
            · refine qu_of rfl ?_
              intro v w' A hA hC hd hl K hK
              exact pure_step (.pointer (some ⟨pp, 0, none⟩)) (fun ρ hρ => by
                  have e7 : ρ (.tmp 7) = .pointer (some ⟨pp, 0, none⟩) := by rw [hρ]; exact hA.2 7 (by simp)
                  clear hρ hA hl hK hd hC
                  go_simp) hK
            · refine qu_of rfl ?_
              intro v w' A hA hC hd hl K hK
              exact pure_step (.pointer (some ⟨pp, 0, none⟩)) (fun ρ hρ => by
                  have e92 : ρ (.tmp 92) = .pointer (some ⟨pp, 0, none⟩) := by rw [hρ]; exact (hA.1 0 _ 92 rfl rfl).trans (hd (0, .pointer (some ⟨pp, 0, none⟩)) (.head _) ⟨⟨0, .data⟩, by simp, rfl, rfl⟩)
                  clear hρ hA hl hK hd hC
                  go_simp) hK
            · refine qu_of rfl ?_
              intro v w' A hA hC hd hl K hK
              exact pure_step (.pointer (some ⟨pp, 1, none⟩)) (fun ρ hρ => by
                  have e93 : ρ (.tmp 93) = .pointer (some ⟨pp, 0, none⟩) := by rw [hρ]; exact (hA.1 1 _ 93 rfl rfl).trans (hd (1, .pointer (some ⟨pp, 0, none⟩)) (.tail _ (.head _)) ⟨⟨1, .data⟩, by simp, rfl, rfl⟩)
                  clear hρ hA hl hK hd hC
                  go_simp) hK
            · refine qu_of rfl ?_
              intro v w' A hA hC hd hl K hK
              have hcell := hC.1
              exact pure_step (.pointer (some ⟨q, 0, none⟩)) (fun ρ hρ => by
                  have e94 : ρ (.tmp 94) = .pointer (some ⟨pp, 1, none⟩) := by rw [hρ]; exact (hA.1 2 _ 94 rfl rfl).trans (hd (2, .pointer (some ⟨pp, 1, none⟩)) (.tail _ (.tail _ (.head _))) ⟨⟨2, .data⟩, by simp, rfl, rfl⟩)
                  clear hρ hA hl hK hd hC
                  go_simp) hK
            · refine qu_of rfl ?_
              intro v w' A hA hC hd hl K hK
              exact pure_step (.pointer (some ⟨q, 0, none⟩)) (fun ρ hρ => by
                  have e95 : ρ (.tmp 95) = .pointer (some ⟨q, 0, none⟩) := by rw [hρ]; exact (hA.1 3 _ 95 rfl rfl).trans (hd (3, .pointer (some ⟨q, 0, none⟩)) (.tail _ (.tail _ (.tail _ (.head _)))) ⟨⟨3, .data⟩, by simp, rfl, rfl⟩)
                  clear hρ hA hl hK hd hC
                  go_simp) hK
            · refine qu_of rfl ?_
              intro v w' A hA hC hd hl K hK
              exact pure_step (.pointer (some ⟨q, 33, none⟩)) (fun ρ hρ => by
                  have e96 : ρ (.tmp 96) = .pointer (some ⟨q, 0, none⟩) := by rw [hρ]; exact (hA.1 4 _ 96 rfl rfl).trans (hd (4, .pointer (some ⟨q, 0, none⟩)) (.tail _ (.tail _ (.tail _ (.tail _ (.head _))))) ⟨⟨4, .data⟩, by simp, rfl, rfl⟩)
                  clear hρ hA hl hK hd hC
                  go_simp) hK
            · refine qu_of rfl ?_
              intro v w' A hA hC hd hl K hK
              have hcell := hC.2.1
              exact pure_step (.pointer (some ⟨h, 0, none⟩)) (fun ρ hρ => by
                  have e97 : ρ (.tmp 97) = .pointer (some ⟨q, 33, none⟩) := by rw [hρ]; exact (hA.1 5 _ 97 rfl rfl).trans (hd (5, .pointer (some ⟨q, 33, none⟩)) (.tail _ (.tail _ (.tail _ (.tail _ (.tail _ (.head _)))))) ⟨⟨5, .data⟩, by simp, rfl, rfl⟩)
                  clear hρ hA hl hK hd hC
                  go_simp) hK
            · refine qu_of rfl ?_
              intro v w' A hA hC hd hl K hK
              exact pure_step (.pointer (some ⟨bs, 2, none⟩)) (fun ρ hρ => by
                  have e1 : ρ (.tmp 1) = .pointer (some ⟨bs, 0, none⟩) := by rw [hρ]; exact hA.2 1 (by simp)
                  clear hρ hA hl hK hd hC
                  go_simp) hK
            · refine qu_of rfl ?_
              intro v w' A hA hC hd hl K hK
              have hcell := hC.2.2
              exact pure_step (.slice A2 n2 c2) (fun ρ hρ => by
                  have e99 : ρ (.tmp 99) = .pointer (some ⟨bs, 2, none⟩) := by rw [hρ]; exact (hA.1 7 _ 99 rfl rfl).trans (hd (7, .pointer (some ⟨bs, 2, none⟩)) (.tail _ (.tail _ (.tail _ (.tail _ (.tail _ (.tail _ (.tail _ (.head _)))))))) ⟨⟨7, .data⟩, by simp, rfl, rfl⟩)
                  clear hρ hA hl hK hd hC
                  go_simp) hK
          · refine ⟨qu_of rfl ?_, fun x9 => trivial⟩
            · intro v w' A hA hS hacc hd hl K hK
              replace hS : (w'.cell? ⟨pp, 1, none⟩ = some (.pointer (some ⟨q, 0, none⟩)) ∧ w'.cell? ⟨q, 33, none⟩ = some (.pointer (some ⟨h, 0, none⟩)) ∧ w'.cell? ⟨bs, 2, none⟩ = some (.slice A2 n2 c2)) ∧ Ref w' h mb Cs.st0 ∧ SlE w' ⟨A2, n2, c2⟩ a.l ∧ Only (SR h mb) wb w' := hS
              refine call_step 25 #[hP h, .slice A2 n2 c2] (fun ρ hρ => by
                  have hfun : ∀ f, ρ (.func f) = .func (.func f) #[] #[] := fun f => by rw [hρ]; rfl
                  have e98 : ρ (.tmp 98) = .pointer (some ⟨h, 0, none⟩) := by rw [hρ]; exact (hA.1 6 _ 98 rfl rfl).trans (hd (6, .pointer (some ⟨h, 0, none⟩)) (.tail _ (.tail _ (.tail _ (.tail _ (.tail _ (.tail _ (.head _))))))) ⟨⟨6, .data⟩, by simp, rfl, rfl⟩)
                  have e100 : ρ (.tmp 100) = .slice A2 n2 c2 := by rw [hρ]; exact (hA.1 8 _ 100 rfl rfl).trans (hd (8, .slice A2 n2 c2) (.tail _ (.tail _ (.tail _ (.tail _ (.tail _ (.tail _ (.tail _ (.tail _ (.head _))))))))) ⟨⟨8, .data⟩, by simp, rfl, rfl⟩)
                  clear hρ hA hl hK hd hS hacc
                  go_simp
                  ) ?_
              refine (Cs.rprot_any Cs.st0 a.l ⟨A2, n2, c2⟩ h mb w' hS.2.1 hS.2.2.1 z2 (fun b o e h0 => by have h1 := HNEE.out b o e h0; have h2 := HLO.out; exact ⟨by omega, by omega⟩)).mono ?_
              rintro e w'' ⟨rfl, hI9, hO9⟩
              exact ⟨_, rfl, hK _ _ ⟨rfl, ⟨cell_only hO9 hS.1.1 (fun e => e.elim (fun e => HNE.out.2.2.2.2.2.2.2.2.1 e) (fun e => HNE.out.2.2.2.2.2.2.2.2.2.1 e)), cell_only hO9 hS.1.2.1 (fun e => e.elim (fun e => HNE.out.2.2.2.2.2.2.1 e) (fun e => HNE.out.2.2.2.2.2.2.2.1 e)), cell_only hO9 hS.1.2.2 (fun e => e.elim (fun e => HNE.out.2.2.2.2.2.2.2.2.2.2.2.2.1 e.symm) (fun e => HNE.out.2.2.2.2.2.2.2.2.2.2.2.2.2.1 e.symm))⟩, hI9, hS.2.2.2.trans hO9⟩⟩
          intro x9 v wE hSE hacc hqv
          replace hSE : x9 = .tuple #[] ∧ (wE.cell? ⟨pp, 1, none⟩ = some (.pointer (some ⟨q, 0, none⟩)) ∧ wE.cell? ⟨q, 33, none⟩ = some (.pointer (some ⟨h, 0, none⟩)) ∧ wE.cell? ⟨bs, 2, none⟩ = some (.slice A2 n2 c2)) ∧ Ref wE h mb (protC Cs.st0 a.l) ∧ Only (SR h mb) wb wE := hSE
          have f0 : v 0 = .pointer (some ⟨pp, 0, none⟩) := hqv (0, .pointer (some ⟨pp, 0, none⟩)) (.head _)
          have f1 : v 1 = .pointer (some ⟨pp, 0, none⟩) := hqv (1, .pointer (some ⟨pp, 0, none⟩)) (.tail _ (.head _))
          have f2 : v 2 = .pointer (some ⟨pp, 1, none⟩) := hqv (2, .pointer (some ⟨pp, 1, none⟩)) (.tail _ (.tail _ (.head _)))
          have f3 : v 3 = .pointer (some ⟨q, 0, none⟩) := hqv (3, .pointer (some ⟨q, 0, none⟩)) (.tail _ (.tail _ (.tail _ (.head _))))
          have f4 : v 4 = .pointer (some ⟨q, 0, none⟩) := hqv (4, .pointer (some ⟨q, 0, none⟩)) (.tail _ (.tail _ (.tail _ (.tail _ (.head _)))))
          have f5 : v 5 = .pointer (some ⟨q, 33, none⟩) := hqv (5, .pointer (some ⟨q, 33, none⟩)) (.tail _ (.tail _ (.tail _ (.tail _ (.tail _ (.head _))))))
          have f6 : v 6 = .pointer (some ⟨h, 0, none⟩) := hqv (6, .pointer (some ⟨h, 0, none⟩)) (.tail _ (.tail _ (.tail _ (.tail _ (.tail _ (.tail _ (.head _)))))))
          have f7 : v 7 = .pointer (some ⟨bs, 2, none⟩) := hqv (7, .pointer (some ⟨bs, 2, none⟩)) (.tail _ (.tail _ (.tail _ (.tail _ (.tail _ (.tail _ (.tail _ (.head _))))))))
          have f8 : v 8 = .slice A2 n2 c2 := hqv (8, .slice A2 n2 c2) (.tail _ (.tail _ (.tail _ (.tail _ (.tail _ (.tail _ (.tail _ (.tail _ (.head _)))))))))
          have f9 : v 9 = x9 := hacc (9, x9) (by simp)
          clear hacc hqv
          simp only [putAll, Act.put, List.setIfInBounds_toArray, List.set_cons_zero, List.set_cons_succ, Nat.zero_add, Nat.reduceAdd]
          rw [f0, f1, f2, f3, f4, f5, f6, f7, f8, f9]
          clear f0 f1 f2 f3 f4 f5 f6 f7 f8 f9
          have hRc := hSE.2.2.1
          have hOc := hSE.2.2.2
          clear hSE qh b2 pc0 pc1
          have nn := HNE.out
          have hls : ∀ b, SR h mb b → u.heap.size ≤ b := fun b e => by have h := HLO.out; rcases e with e | e <;> omega
          have hUc := HUb.out.trans (hOc.below hls HUb.out.size)
          have hIc := O.keep HIb.out hOc (fun e => e.elim (fun e => nn.2.1.2.1 e) (fun e => nn.2.1.2.2.1 e))
          have hPc := hOc.has HPb.out (fun e => e.elim (fun e => nn.2.2.2.2.2.2.2.2.1 e) (fun e => nn.2.2.2.2.2.2.2.2.2.1 e))
          have hQc := hOc.has HQb.out (fun e => e.elim (fun e => nn.2.2.2.2.2.2.1 e) (fun e => nn.2.2.2.2.2.2.2.1 e))
          have hHc := hOc.has HHb.out (fun e => e.elim (fun e => nn.1.2.2.1 e) (fun e => nn.1.2.2.2.1 e))
          have hJc : Has wE bs 27 _ := hOc.has HJb.out (fun e => e.elim (fun e => nn.2.2.2.2.2.2.2.2.2.2.2.2.1 e.symm) (fun e => nn.2.2.2.2.2.2.2.2.2.2.2.2.2.1 e.symm))
          have hMc := ram_only HMb.out hOc (fun e => e.elim (fun e => nn.2.2.1 e.symm) (fun e => nn.2.2.2.1 e.symm))
          have b4 : wE.cell? ⟨bs, 4, none⟩ = some (.slice A3 n3 c3) := hJc.cell 4
          have HPc := Lib.hid hPc
          have HQc := Lib.hid hQc
          have HHc := Lib.hid hHc
          have HJc := Lib.hid hJc
          have HMc := Lib.hid hMc
          have HUc := Lib.hid hUc
          generalize hwc : wE = wc at *
          clear hwc hOc hls hUc hPc hQc hHc hJc hMc nn
          obtain ⟨s1, hs1⟩ : ∃ s, s = protC Cs.st0 a.l := ⟨_, rfl⟩
          rw [← hs1] at hIc hRc
          have HS1 := Lib.hid hs1
          clear hs1
          go_upto_region 18 with fail
          clear b4
          go_loopw [105] (fun ct wv => ∃ i : Nat, i ≤ n3 ∧ ct = .int .i64 (i : Int) ∧ Is wv g (wrS s1 (a.cs.take i)) ∧ (∃ s', Ref wv h mb s') ∧ Only (fun b => b = g ∨ b = h ∨ b = mb) wc wv) (fun ct _ => (n3 - (intOf ct)).toNat)
          case atStart => exact ⟨0, Nat.zero_le _, rfl, by rw [List.take_zero]; exact hIc, ⟨_, hRc⟩, Only.refl _ _⟩
          case round =>
            obtain ⟨i3, hi3, rfl, hIr3, ⟨s', hRr3⟩, hOr3⟩ := hrel
            by_cases hlt3 : i3 < n3
            · have di : (i3 : Int) < (n3 : Int) := by omega
              have hbv : Below u.heap.size wc wr := hOr3.below (fun b hb => by have h := HLO.out; rcases hb with e | e | e <;> omega) HUc.out.size
              have hSv := HS0.out.after (HUc.out.trans hbv)
              obtain ⟨b, o, hA, hbl, _⟩ := hSv.c.2.1.2 (show 0 < n3 by omega)
              dsimp only at hA
              subst hA
              have hpr := hSv.c.lt i3
              have hrg := hSv.c.2.1.range rfl hlt3
              have hat := fun W => at_pr b o n3 c3 i3 di W
              have hup := wrS_up s1 a.cs i3 (by have := hSv.c.1; dsimp only at this; omega)
              generalize hpe : a.cs.getD i3 (0, 0) = pr at *
              obtain ⟨pa, pb⟩ := pr
              have hpa : pa < 4294967296 := hpr.1
              have hpb : pb < 4294967296 := hpr.2
              have hf0 : prV (pa, pb) 0 = .int .u32 (pa : Int) := rfl
              have hf1 : prV (pa, pb) 1 = .int .u32 (pb : Int) := rfl
              have hone := fun j => prV_one (pa, pb) j
              generalize hfe : prV (pa, pb) = f at *
              have nn := HNE.out
              have hPv := hOr3.has HPc.out (fun e => e.elim (fun e => nn.2.1.2.2.2.2.1 e.symm) fun e => e.elim (fun e => nn.2.2.2.2.2.2.2.2.1 e) (fun e => nn.2.2.2.2.2.2.2.2.2.1 e))
              have hQv := hOr3.has HQc.out (fun e => e.elim (fun e => nn.2.1.2.2.2.1 e.symm) fun e => e.elim (fun e => nn.2.2.2.2.2.2.1 e) (fun e => nn.2.2.2.2.2.2.2.1 e))
              have hHv := hOr3.has HHc.out (fun e => e.elim (fun e => nn.1.1 e) fun e => e.elim (fun e => nn.1.2.2.1 e) (fun e => nn.1.2.2.2.1 e))
              have HUP := Lib.hid hup
              have HI3 := Lib.hid hIr3
              have HR3 := Lib.hid hRr3
              have HO3 := Lib.hid hOr3
              have hppl := hPv.lt
              have hql := hQv.lt
              have hpl := hHv.lt
              have hgl := O.lt hIr3
              have hhl := hRr3.blk.lt
              have hml := hRr3.map.lt
              have HPv := Lib.hid hPv
              have HQv := Lib.hid hQv
              have HHv := Lib.hid hHv
              generalize wrS s1 (a.cs.take i3) = sv at *
              clear hIr3 hRr3 hOr3 hSv hbl hbv hpr hfe hpe hup hPv hQv hHv nn
              go_upto_region 19 with fail
              go_upto_region 20 with (first
                | (refine wp_load_pr rfl _ rfl b (o + i3 * 2) rfl f hrg ?_)
                | (refine wp_fresh 65 2 f _ _ _ rfl rfl rfl rfl hz infoPr2 (by decide) hone rfl rfl ?_
                   intro w7 hH7 hb7 hlt7
                   go_frame))
              have t0 : w7.cell? ⟨wr.heap.size, 0, none⟩ = some (.int .u32 (pa : Int)) := by rw [hH7.cellTab 0 (by decide), hf0]
              have t1 : w7.cell? ⟨wr.heap.size, 1, none⟩ = some (.int .u32 (pb : Int)) := by rw [hH7.cellTab 1 (by decide), hf1]
              have hPw := HPv.out.after hb7
              have hQw := HQv.out.after hb7
              have hHw := HHv.out.after hb7
              have hIw := O.below HI3.out hb7
              have hRw := HR3.out.after hb7
              have pc0 : w7.cell? ⟨pp, 0, none⟩ = some (.pointer (some ⟨p, 0, none⟩)) := hPw.cell 0
              have pc1 : w7.cell? ⟨pp, 1, none⟩ = some (.pointer (some ⟨q, 0, none⟩)) := hPw.cell 1
              have pg : w7.cell? ⟨p, 33, none⟩ = some (.pointer (some ⟨g, 0, none⟩)) := hHw.cellTab 33 (by decide)
              have qh : w7.cell? ⟨q, 33, none⟩ = some (.pointer (some ⟨h, 0, none⟩)) := hQw.cellTab 33 (by decide)
              have hOw : Only (fun b => b = g ∨ b = h ∨ b = mb) wc w7 := HO3.out.trans (Only.of_below hb7)
              have hbx : wr.heap.size ≠ g ∧ wr.heap.size ≠ h ∧ wr.heap.size ≠ mb := ⟨by omega, by omega, by omega⟩
              have HBX := Lib.hid hbx
              have HIw := Lib.hid hIw
              have HRw := Lib.hid hRw
              have HOw := Lib.hid hOw
              have hpaI : (pa : Int) < 4294967296 := by omega
              have hpbI : (pb : Int) < 4294967296 := by omega
              clear hPw hQw hHw hIw hRw hOw hbx hb7 hH7 hppl hql hpl hgl hhl hml hf0 hf1 hrg hone hlt7
              generalize wr.heap.size = bx at *
              refine region_chain (fun w' => (w'.cell? ⟨pp, 0, none⟩ = some (.pointer (some ⟨p, 0, none⟩)) ∧ w'.cell? ⟨p, 33, none⟩ = some (.pointer (some ⟨g, 0, none⟩)) ∧ w'.cell? ⟨bx, 0, none⟩ = some (.int .u32 (pa : Int)) ∧ w'.cell? ⟨bx, 1, none⟩ = some (.int .u32 (pb : Int)))) [(0, .pointer (some ⟨pp, 0, none⟩)), (1, .pointer (some ⟨pp, 0, none⟩)), (2, .pointer (some ⟨pp, 0, none⟩)), (3, .pointer (some ⟨p, 0, none⟩)), (4, .pointer (some ⟨p, 0, none⟩)), (5, .pointer (some ⟨p, 33, none⟩)), (6, .pointer (some ⟨g, 0, none⟩)), (7, .pointer (some ⟨bx, 0, none⟩)), (8, .int .u32 (pa : Int)), (9, .pointer (some ⟨bx, 1, none⟩)), (10, .int .u32 (pb : Int))] [(11, fun xs w' => (xs.getD 0 undef) = .bool (writeC sv pa pb).isSome ∧ (w'.cell? ⟨pp, 0, none⟩ = some (.pointer (some ⟨p, 0, none⟩)) ∧ w'.cell? ⟨p, 33, none⟩ = some (.pointer (some ⟨g, 0, none⟩)) ∧ w'.cell? ⟨bx, 0, none⟩ = some (.int .u32 (pa : Int)) ∧ w'.cell? ⟨bx, 1, none⟩ = some (.int .u32 (pb : Int))) ∧ Is w' g ((writeC sv pa pb).getD sv) ∧ Only (S1 g) w7 w')] (fun w' => (w'.cell? ⟨pp, 0, none⟩ = some (.pointer (some ⟨p, 0, none⟩)) ∧ w'.cell? ⟨p, 33, none⟩ = some (.pointer (some ⟨g, 0, none⟩)) ∧ w'.cell? ⟨bx, 0, none⟩ = some (.int .u32 (pa : Int)) ∧ w'.cell? ⟨bx, 1, none⟩ = some (.int .u32 (pb : Int))) ∧ Is w' g sv ∧ Only (S1 g) w7 w') 176 (by kernel_rfl) rfl (by kernel_rfl) (by kernel_rfl) ?_ ?_ ?_ ?_ ?_ ?_
              · intro w' hb he
                exact ⟨⟨(cell_heap he _).trans pc0, (cell_heap he _).trans pg, (cell_heap he _).trans t0, (cell_heap he _).trans t1⟩, O.below HIw.out hb, Only.of_below hb⟩
              · exact fun w' h => h.1
              · simp only [List.forall_mem_cons, List.not_mem_nil, false_implies, implies_true, and_true]
                refine ?_
                · exact fun xs w' h => h.2.1
              · simp only [List.forall_mem_cons, List.not_mem_nil, false_implies, implies_true, and_true]
                refine ⟨?_, ?_, ?_, ?_, ?_, ?_, ?_, ?_, ?_, ?_, ?_⟩
                · refine qu_of rfl ?_
                  intro v w' A hA hC hd hl K hK
                  exact pure_step (.pointer (some ⟨pp, 0, none⟩)) (fun ρ hρ => by
                      have e7 : ρ (.tmp 7) = .pointer (some ⟨pp, 0, none⟩) := by rw [hρ]; exact hA.2 7 (by simp)
                      clear hρ hA hl hK hd hC
                      go_simp) hK
                · refine qu_of rfl ?_
                  intro v w' A hA hC hd hl K hK
                  exact pure_step (.pointer (some ⟨pp, 0, none⟩)) (fun ρ hρ => by
                      have e109 : ρ (.tmp 109) = .pointer (some ⟨pp, 0, none⟩) := by rw [hρ]; exact (hA.1 0 _ 109 rfl rfl).trans (hd (0, .pointer (some ⟨pp, 0, none⟩)) (.head _) ⟨⟨0, .data⟩, by simp, rfl, rfl⟩)
                      clear hρ hA hl hK hd hC
                      go_simp) hK
                · refine qu_of rfl ?_
                  intro v w' A hA hC hd hl K hK
                  exact pure_step (.pointer (some ⟨pp, 0, none⟩)) (fun ρ hρ => by
                      have e110 : ρ (.tmp 110) = .pointer (some ⟨pp, 0, none⟩) := by rw [hρ]; exact (hA.1 1 _ 110 rfl rfl).trans (hd (1, .pointer (some ⟨pp, 0, none⟩)) (.tail _ (.head _)) ⟨⟨1, .data⟩, by simp, rfl, rfl⟩)
                      clear hρ hA hl hK hd hC
                      go_simp) hK
                · refine qu_of rfl ?_
                  intro v w' A hA hC hd hl K hK
                  have hcell := hC.1
                  exact pure_step (.pointer (some ⟨p, 0, none⟩)) (fun ρ hρ => by
                      have e111 : ρ (.tmp 111) = .pointer (some ⟨pp, 0, none⟩) := by rw [hρ]; exact (hA.1 2 _ 111 rfl rfl).trans (hd (2, .pointer (some ⟨pp, 0, none⟩)) (.tail _ (.tail _ (.head _))) ⟨⟨2, .data⟩, by simp, rfl, rfl⟩)
                      clear hρ hA hl hK hd hC
                      go_simp) hK
                · refine qu_of rfl ?_
                  intro v w' A hA hC hd hl K hK
                  exact pure_step (.pointer (some ⟨p, 0, none⟩)) (fun ρ hρ => by
                      have e112 : ρ (.tmp 112) = .pointer (some ⟨p, 0, none⟩) := by rw [hρ]; exact (hA.1 3 _ 112 rfl rfl).trans (hd (3, .pointer (some ⟨p, 0, none⟩)) (.tail _ (.tail _ (.tail _ (.head _)))) ⟨⟨3, .data⟩, by simp, rfl, rfl⟩)
                      clear hρ hA hl hK hd hC
                      go_simp) hK
                · refine qu_of rfl ?_
                  intro v w' A hA hC hd hl K hK
                  exact pure_step (.pointer (some ⟨p, 33, none⟩)) (fun ρ hρ => by
                      have e113 : ρ (.tmp 113) = .pointer (some ⟨p, 0, none⟩) := by rw [hρ]; exact (hA.1 4 _ 113 rfl rfl).trans (hd (4, .pointer (some ⟨p, 0, none⟩)) (.tail _ (.tail _ (.tail _ (.tail _ (.head _))))) ⟨⟨4, .data⟩, by simp, rfl, rfl⟩)
                      clear hρ hA hl hK hd hC
                      go_simp) hK
                · refine qu_of rfl ?_
                  intro v w' A hA hC hd hl K hK
                  have hcell := hC.2.1
                  exact pure_step (.pointer (some ⟨g, 0, none⟩)) (fun ρ hρ => by
                      have e114 : ρ (.tmp 114) = .pointer (some ⟨p, 33, none⟩) := by rw [hρ]; exact (hA.1 5 _ 114 rfl rfl).trans (hd (5, .pointer (some ⟨p, 33, none⟩)) (.tail _ (.tail _ (.tail _ (.tail _ (.tail _ (.head _)))))) ⟨⟨5, .data⟩, by simp, rfl, rfl⟩)
                      clear hρ hA hl hK hd hC
                      go_simp) hK
                · refine qu_of rfl ?_
                  intro v w' A hA hC hd hl K hK
                  exact pure_step (.pointer (some ⟨bx, 0, none⟩)) (fun ρ hρ => by
                      have hcst : ∀ x, ρ (.const x) = x := fun x => by rw [hρ]; rfl
                      have e11 : ρ (.tmp 11) = .pointer (some ⟨bx, 0, none⟩) := by rw [hρ]; exact hA.2 11 (by simp)
                      clear hρ hA hl hK hd hC
                      go_simp) hK
                · refine qu_of rfl ?_
                  intro v w' A hA hC hd hl K hK
                  have hcell := hC.2.2.1
                  exact pure_step (.int .u32 (pa : Int)) (fun ρ hρ => by
                      have e116 : ρ (.tmp 116) = .pointer (some ⟨bx, 0, none⟩) := by rw [hρ]; exact (hA.1 7 _ 116 rfl rfl).trans (hd (7, .pointer (some ⟨bx, 0, none⟩)) (.tail _ (.tail _ (.tail _ (.tail _ (.tail _ (.tail _ (.tail _ (.head _)))))))) ⟨⟨7, .data⟩, by simp, rfl, rfl⟩)
                      clear hρ hA hl hK hd hC
                      go_simp) hK
                · refine qu_of rfl ?_
                  intro v w' A hA hC hd hl K hK
                  exact pure_step (.pointer (some ⟨bx, 1, none⟩)) (fun ρ hρ => by
                      have hcst : ∀ x, ρ (.const x) = x := fun x => by rw [hρ]; rfl
                      have e11 : ρ (.tmp 11) = .pointer (some ⟨bx, 0, none⟩) := by rw [hρ]; exact hA.2 11 (by simp)
                      clear hρ hA hl hK hd hC
                      go_simp) hK
                · refine qu_of rfl ?_
                  intro v w' A hA hC hd hl K hK
                  have hcell := hC.2.2.2
                  exact pure_step (.int .u32 (pb : Int)) (fun ρ hρ => by
                      have e118 : ρ (.tmp 118) = .pointer (some ⟨bx, 1, none⟩) := by rw [hρ]; exact (hA.1 9 _ 118 rfl rfl).trans (hd (9, .pointer (some ⟨bx, 1, none⟩)) (.tail _ (.tail _ (.tail _ (.tail _ (.tail _ (.tail _ (.tail _ (.tail _ (.tail _ (.head _)))))))))) ⟨⟨9, .data⟩, by simp, rfl, rfl⟩)
                      clear hρ hA hl hK hd hC
                      go_simp) hK
              · refine ⟨qu_of rfl ?_, fun x11 => trivial⟩
                · intro v w' A hA hS hacc hd hl K hK
                  replace hS : (w'.cell? ⟨pp, 0, none⟩ = some (.pointer (some ⟨p, 0, none⟩)) ∧ w'.cell? ⟨p, 33, none⟩ = some (.pointer (some ⟨g, 0, none⟩)) ∧ w'.cell? ⟨bx, 0, none⟩ = some (.int .u32 (pa : Int)) ∧ w'.cell? ⟨bx, 1, none⟩ = some (.int .u32 (pb : Int))) ∧ Is w' g sv ∧ Only (S1 g) w7 w' := hS
                  refine call_step 26 #[hP g, .int .u32 (pa : Int), .int .u32 (pb : Int)] (fun ρ hρ => by
                      have hfun : ∀ f, ρ (.func f) = .func (.func f) #[] #[] := fun f => by rw [hρ]; rfl
                      have e115 : ρ (.tmp 115) = .pointer (some ⟨g, 0, none⟩) := by rw [hρ]; exact (hA.1 6 _ 115 rfl rfl).trans (hd (6, .pointer (some ⟨g, 0, none⟩)) (.tail _ (.tail _ (.tail _ (.tail _ (.tail _ (.tail _ (.head _))))))) ⟨⟨6, .data⟩, by simp, rfl, rfl⟩)
                      have e117 : ρ (.tmp 117) = .int .u32 (pa : Int) := by rw [hρ]; exact (hA.1 8 _ 117 rfl rfl).trans (hd (8, .int .u32 (pa : Int)) (.tail _ (.tail _ (.tail _ (.tail _ (.tail _ (.tail _ (.tail _ (.tail _ (.head _))))))))) ⟨⟨8, .data⟩, by simp, rfl, rfl⟩)
                      have e119 : ρ (.tmp 119) = .int .u32 (pb : Int) := by rw [hρ]; exact (hA.1 10 _ 119 rfl rfl).trans (hd (10, .int .u32 (pb : Int)) (.tail _ (.tail _ (.tail _ (.tail _ (.tail _ (.tail _ (.tail _ (.tail _ (.tail _ (.tail _ (.head _))))))))))) ⟨⟨10, .data⟩, by simp, rfl, rfl⟩)
                      clear hρ hA hl hK hd hS hacc
                      go_simp
                      ) ?_
                  refine (O.write w' g sv pa pb hS.2.1 hpa hpb).mono ?_
                  rintro e w'' ⟨rfl, hI9, hO9⟩
                  exact ⟨_, rfl, hK _ _ ⟨rfl, ⟨cell_only hO9 hS.1.1 (fun e => HNE.out.2.1.2.2.2.2.1 (Eq.symm e)), cell_only hO9 hS.1.2.1 (fun e => HNE.out.1.1 e), cell_only hO9 hS.1.2.2.1 (fun e => HBX.out.1 e), cell_only hO9 hS.1.2.2.2 (fun e => HBX.out.1 e)⟩, hI9, hS.2.2.trans hO9⟩⟩
              intro x11 v wE hSE hacc hqv
              replace hSE : x11 = .bool (writeC sv pa pb).isSome ∧ (wE.cell? ⟨pp, 0, none⟩ = some (.pointer (some ⟨p, 0, none⟩)) ∧ wE.cell? ⟨p, 33, none⟩ = some (.pointer (some ⟨g, 0, none⟩)) ∧ wE.cell? ⟨bx, 0, none⟩ = some (.int .u32 (pa : Int)) ∧ wE.cell? ⟨bx, 1, none⟩ = some (.int .u32 (pb : Int))) ∧ Is wE g ((writeC sv pa pb).getD sv) ∧ Only (S1 g) w7 wE := hSE
              have f0 : v 0 = .pointer (some ⟨pp, 0, none⟩) := hqv (0, .pointer (some ⟨pp, 0, none⟩)) (.head _)
              have f1 : v 1 = .pointer (some ⟨pp, 0, none⟩) := hqv (1, .pointer (some ⟨pp, 0, none⟩)) (.tail _ (.head _))
              have f2 : v 2 = .pointer (some ⟨pp, 0, none⟩) := hqv (2, .pointer (some ⟨pp, 0, none⟩)) (.tail _ (.tail _ (.head _)))
              have f3 : v 3 = .pointer (some ⟨p, 0, none⟩) := hqv (3, .pointer (some ⟨p, 0, none⟩)) (.tail _ (.tail _ (.tail _ (.head _))))
              have f4 : v 4 = .pointer (some ⟨p, 0, none⟩) := hqv (4, .pointer (some ⟨p, 0, none⟩)) (.tail _ (.tail _ (.tail _ (.tail _ (.head _)))))
              have f5 : v 5 = .pointer (some ⟨p, 33, none⟩) := hqv (5, .pointer (some ⟨p, 33, none⟩)) (.tail _ (.tail _ (.tail _ (.tail _ (.tail _ (.head _))))))
              have f6 : v 6 = .pointer (some ⟨g, 0, none⟩) := hqv (6, .pointer (some ⟨g, 0, none⟩)) (.tail _ (.tail _ (.tail _ (.tail _ (.tail _ (.tail _ (.head _)))))))
              have f7 : v 7 = .pointer (some ⟨bx, 0, none⟩) := hqv (7, .pointer (some ⟨bx, 0, none⟩)) (.tail _ (.tail _ (.tail _ (.tail _ (.tail _ (.tail _ (.tail _ (.head _))))))))
              have f8 : v 8 = .int .u32 (pa : Int) := hqv (8, .int .u32 (pa : Int)) (.tail _ (.tail _ (.tail _ (.tail _ (.tail _ (.tail _ (.tail _ (.tail _ (.head _)))))))))
              have f9 : v 9 = .pointer (some ⟨bx, 1, none⟩) := hqv (9, .pointer (some ⟨bx, 1, none⟩)) (.tail _ (.tail _ (.tail _ (.tail _ (.tail _ (.tail _ (.tail _ (.tail _ (.tail _ (.head _))))))))))
              have f10 : v 10 = .int .u32 (pb : Int) := hqv (10, .int .u32 (pb : Int)) (.tail _ (.tail _ (.tail _ (.tail _ (.tail _ (.tail _ (.tail _ (.tail _ (.tail _ (.tail _ (.head _)))))))))))
              have f11 : v 11 = x11 := hacc (11, x11) (by simp)
              clear hacc hqv
              simp only [putAll, Act.put, List.setIfInBounds_toArray, List.set_cons_zero, List.set_cons_succ, Nat.zero_add, Nat.reduceAdd]
              rw [f0, f1, f2, f3, f4, f5, f6, f7, f8, f9, f10, f11]
              clear f0 f1 f2 f3 f4 f5 f6 f7 f8 f9 f10 f11
              have hI20 := hSE.2.2.1
              have hO20 := hSE.2.2.2
              clear pc0 pg
              have nn := HNE.out
              have hR20 := HRw.out.only hO20 (fun e => nn.2.1.2.1 (Eq.symm e)) (fun e => nn.2.1.2.2.1 (Eq.symm e))
              replace pc1 := cell_only hO20 pc1 (fun e => nn.2.1.2.2.2.2.1 (Eq.symm e))
              replace qh := cell_only hO20 qh (fun e => nn.2.1.2.2.2.1 (Eq.symm e))
              replace t0 := cell_only hO20 t0 (fun e => HBX.out.1 e)
              replace t1 := cell_only hO20 t1 (fun e => HBX.out.1 e)
              have HI20 := Lib.hid hI20
              have HO20 := Lib.hid hO20
              have HR20 := Lib.hid hR20
              clear hSE hI20 hO20 hR20 nn
              generalize hwx : wE = wx at *
              clear hwx
              go_upto_region 21 with fail
              refine region_chain (fun w' => (w'.cell? ⟨pp, 1, none⟩ = some (.pointer (some ⟨q, 0, none⟩)) ∧ w'.cell? ⟨q, 33, none⟩ = some (.pointer (some ⟨h, 0, none⟩)) ∧ w'.cell? ⟨bx, 0, none⟩ = some (.int .u32 (pa : Int)) ∧ w'.cell? ⟨bx, 1, none⟩ = some (.int .u32 (pb : Int)))) [(0, .pointer (some ⟨pp, 0, none⟩)), (1, .pointer (some ⟨pp, 0, none⟩)), (2, .pointer (some ⟨pp, 1, none⟩)), (3, .pointer (some ⟨q, 0, none⟩)), (4, .pointer (some ⟨q, 0, none⟩)), (5, .pointer (some ⟨q, 33, none⟩)), (6, .pointer (some ⟨h, 0, none⟩)), (7, .pointer (some ⟨bx, 0, none⟩)), (8, .int .u32 (pa : Int)), (9, .int .i64 (pa : Int)), (10, .pointer (some ⟨bx, 1, none⟩)), (11, .int .u32 (pb : Int)), (12, .int .i64 (pb : Int))] [(13, fun xs w' => (xs.getD 0 undef) = .bool (writeC s' pa pb).isSome ∧ (w'.cell? ⟨pp, 1, none⟩ = some (.pointer (some ⟨q, 0, none⟩)) ∧ w'.cell? ⟨q, 33, none⟩ = some (.pointer (some ⟨h, 0, none⟩)) ∧ w'.cell? ⟨bx, 0, none⟩ = some (.int .u32 (pa : Int)) ∧ w'.cell? ⟨bx, 1, none⟩ = some (.int .u32 (pb : Int))) ∧ Ref w' h mb ((writeC s' pa pb).getD s') ∧ Only (SR h mb) wx w')] (fun w' => (w'.cell? ⟨pp, 1, none⟩ = some (.pointer (some ⟨q, 0, none⟩)) ∧ w'.cell? ⟨q, 33, none⟩ = some (.pointer (some ⟨h, 0, none⟩)) ∧ w'.cell? ⟨bx, 0, none⟩ = some (.int .u32 (pa : Int)) ∧ w'.cell? ⟨bx, 1, none⟩ = some (.int .u32 (pb : Int))) ∧ Ref w' h mb s' ∧ Only (SR h mb) wx w') 176 (by kernel_rfl) rfl (by kernel_rfl) (by kernel_rfl) ?_ ?_ ?_ ?_ ?_ ?_
              · intro w' hb he
                exact ⟨⟨(cell_heap he _).trans pc1, (cell_heap he _).trans qh, (cell_heap he _).trans t0, (cell_heap he _).trans t1⟩, HR20.out.after hb, Only.of_below hb⟩
              · exact fun w' h => h.1
              · simp only [List.forall_mem_cons, List.not_mem_nil, false_implies, implies_true, and_true]
                refine ?_
                · exact fun xs w' h => h.2.1
              · simp only [List.forall_mem_cons, List.not_mem_nil, false_implies, implies_true, and_true]
                refine ⟨?_, ?_, ?_, ?_, ?_, ?_, ?_, ?_, ?_, ?_, ?_, ?_, ?_⟩
                · refine qu_of rfl ?_
                  intro v w' A hA hC hd hl K hK
                  exact pure_step (.pointer (some ⟨pp, 0, none⟩)) (fun ρ hρ => by
                      have e7 : ρ (.tmp 7) = .pointer (some ⟨pp, 0, none⟩) := by rw [hρ]; exact hA.2 7 (by simp)
                      clear hρ hA hl hK hd hC
                      go_simp) hK
                · refine qu_of rfl ?_
                  intro v w' A hA hC hd hl K hK
                  exact pure_step (.pointer (some ⟨pp, 0, none⟩)) (fun ρ hρ => by
                      have e121 : ρ (.tmp 121) = .pointer (some ⟨pp, 0, none⟩) := by rw [hρ]; exact (hA.1 0 _ 121 rfl rfl).trans (hd (0, .pointer (some ⟨pp, 0, none⟩)) (.head _) ⟨⟨0, .data⟩, by simp, rfl, rfl⟩)
                      clear hρ hA hl hK hd hC
                      go_simp) hK
                · refine qu_of rfl ?_
                  intro v w' A hA hC hd hl K hK
                  exact pure_step (.pointer (some ⟨pp, 1, none⟩)) (fun ρ hρ => by
                      have e122 : ρ (.tmp 122) = .pointer (some ⟨pp, 0, none⟩) := by rw [hρ]; exact (hA.1 1 _ 122 rfl rfl).trans (hd (1, .pointer (some ⟨pp, 0, none⟩)) (.tail _ (.head _)) ⟨⟨1, .data⟩, by simp, rfl, rfl⟩)
                      clear hρ hA hl hK hd hC
                      go_simp) hK
                · refine qu_of rfl ?_
                  intro v w' A hA hC hd hl K hK
                  have hcell := hC.1
                  exact pure_step (.pointer (some ⟨q, 0, none⟩)) (fun ρ hρ => by
                      have e123 : ρ (.tmp 123) = .pointer (some ⟨pp, 1, none⟩) := by rw [hρ]; exact (hA.1 2 _ 123 rfl rfl).trans (hd (2, .pointer (some ⟨pp, 1, none⟩)) (.tail _ (.tail _ (.head _))) ⟨⟨2, .data⟩, by simp, rfl, rfl⟩)
                      clear hρ hA hl hK hd hC
                      go_simp) hK
                · refine qu_of rfl ?_
                  intro v w' A hA hC hd hl K hK
                  exact pure_step (.pointer (some ⟨q, 0, none⟩)) (fun ρ hρ => by
                      have e124 : ρ (.tmp 124) = .pointer (some ⟨q, 0, none⟩) := by rw [hρ]; exact (hA.1 3 _ 124 rfl rfl).trans (hd (3, .pointer (some ⟨q, 0, none⟩)) (.tail _ (.tail _ (.tail _ (.head _)))) ⟨⟨3, .data⟩, by simp, rfl, rfl⟩)
                      clear hρ hA hl hK hd hC
                      go_simp) hK
                · refine qu_of rfl ?_
                  intro v w' A hA hC hd hl K hK
                  exact pure_step (.pointer (some ⟨q, 33, none⟩)) (fun ρ hρ => by
                      have e125 : ρ (.tmp 125) = .pointer (some ⟨q, 0, none⟩) := by rw [hρ]; exact (hA.1 4 _ 125 rfl rfl).trans (hd (4, .pointer (some ⟨q, 0, none⟩)) (.tail _ (.tail _ (.tail _ (.tail _ (.head _))))) ⟨⟨4, .data⟩, by simp, rfl, rfl⟩)
                      clear hρ hA hl hK hd hC
                      go_simp) hK
                · refine qu_of rfl ?_
                  intro v w' A hA hC hd hl K hK
                  have hcell := hC.2.1
                  exact pure_step (.pointer (some ⟨h, 0, none⟩)) (fun ρ hρ => by
                      have e126 : ρ (.tmp 126) = .pointer (some ⟨q, 33, none⟩) := by rw [hρ]; exact (hA.1 5 _ 126 rfl rfl).trans (hd (5, .pointer (some ⟨q, 33, none⟩)) (.tail _ (.tail _ (.tail _ (.tail _ (.tail _ (.head _)))))) ⟨⟨5, .data⟩, by simp, rfl, rfl⟩)
                      clear hρ hA hl hK hd hC
                      go_simp) hK
                · refine qu_of rfl ?_
                  intro v w' A hA hC hd hl K hK
                  exact pure_step (.pointer (some ⟨bx, 0, none⟩)) (fun ρ hρ => by
                      have hcst : ∀ x, ρ (.const x) = x := fun x => by rw [hρ]; rfl
                      have e11 : ρ (.tmp 11) = .pointer (some ⟨bx, 0, none⟩) := by rw [hρ]; exact hA.2 11 (by simp)
                      clear hρ hA hl hK hd hC
                      go_simp) hK
                · refine qu_of rfl ?_
                  intro v w' A hA hC hd hl K hK
                  have hcell := hC.2.2.1
                  exact pure_step (.int .u32 (pa : Int)) (fun ρ hρ => by
                      have e128 : ρ (.tmp 128) = .pointer (some ⟨bx, 0, none⟩) := by rw [hρ]; exact (hA.1 7 _ 128 rfl rfl).trans (hd (7, .pointer (some ⟨bx, 0, none⟩)) (.tail _ (.tail _ (.tail _ (.tail _ (.tail _ (.tail _ (.tail _ (.head _)))))))) ⟨⟨7, .data⟩, by simp, rfl, rfl⟩)
                      clear hρ hA hl hK hd hC
                      go_simp) hK
                · refine qu_of rfl ?_
                  intro v w' A hA hC hd hl K hK
                  exact pure_step (.int .i64 (pa : Int)) (fun ρ hρ => by
                      have e129 : ρ (.tmp 129) = .int .u32 (pa : Int) := by rw [hρ]; exact (hA.1 8 _ 129 rfl rfl).trans (hd (8, .int .u32 (pa : Int)) (.tail _ (.tail _ (.tail _ (.tail _ (.tail _ (.tail _ (.tail _ (.tail _ (.head _))))))))) ⟨⟨8, .data⟩, by simp, rfl, rfl⟩)
                      clear hρ hA hl hK hd hC
                      have hwr : IntKind.i64.wrap (pa : Int) = (pa : Int) := IntWalk.i64_in _ (by omega)
                      go_simp) hK
                · refine qu_of rfl ?_
                  intro v w' A hA hC hd hl K hK
                  exact pure_step (.pointer (some ⟨bx, 1, none⟩)) (fun ρ hρ => by
                      have hcst : ∀ x, ρ (.const x) = x := fun x => by rw [hρ]; rfl
                      have e11 : ρ (.tmp 11) = .pointer (some ⟨bx, 0, none⟩) := by rw [hρ]; exact hA.2 11 (by simp)
                      clear hρ hA hl hK hd hC
                      go_simp) hK
                · refine qu_of rfl ?_
                  intro v w' A hA hC hd hl K hK
                  have hcell := hC.2.2.2
                  exact pure_step (.int .u32 (pb : Int)) (fun ρ hρ => by
                      have e131 : ρ (.tmp 131) = .pointer (some ⟨bx, 1, none⟩) := by rw [hρ]; exact (hA.1 10 _ 131 rfl rfl).trans (hd (10, .pointer (some ⟨bx, 1, none⟩)) (.tail _ (.tail _ (.tail _ (.tail _ (.tail _ (.tail _ (.tail _ (.tail _ (.tail _ (.tail _ (.head _))))))))))) ⟨⟨10, .data⟩, by simp, rfl, rfl⟩)
                      clear hρ hA hl hK hd hC
                      go_simp) hK
                · refine qu_of rfl ?_
                  intro v w' A hA hC hd hl K hK
                  exact pure_step (.int .i64 (pb : Int)) (fun ρ hρ => by
                      have e132 : ρ (.tmp 132) = .int .u32 (pb : Int) := by rw [hρ]; exact (hA.1 11 _ 132 rfl rfl).trans (hd (11, .int .u32 (pb : Int)) (.tail _ (.tail _ (.tail _ (.tail _ (.tail _ (.tail _ (.tail _ (.tail _ (.tail _ (.tail _ (.tail _ (.head _)))))))))))) ⟨⟨11, .data⟩, by simp, rfl, rfl⟩)
                      clear hρ hA hl hK hd hC
                      have hwr : IntKind.i64.wrap (pb : Int) = (pb : Int) := IntWalk.i64_in _ (by omega)
                      go_simp) hK
              · refine ⟨qu_of rfl ?_, fun x13 => trivial⟩
                · intro v w' A hA hS hacc hd hl K hK
                  replace hS : (w'.cell? ⟨pp, 1, none⟩ = some (.pointer (some ⟨q, 0, none⟩)) ∧ w'.cell? ⟨q, 33, none⟩ = some (.pointer (some ⟨h, 0, none⟩)) ∧ w'.cell? ⟨bx, 0, none⟩ = some (.int .u32 (pa : Int)) ∧ w'.cell? ⟨bx, 1, none⟩ = some (.int .u32 (pb : Int))) ∧ Ref w' h mb s' ∧ Only (SR h mb) wx w' := hS
                  refine call_step 27 #[hP h, .int .i64 (pa : Int), .int .i64 (pb : Int)] (fun ρ hρ => by
                      have hfun : ∀ f, ρ (.func f) = .func (.func f) #[] #[] := fun f => by rw [hρ]; rfl
                      have e127 : ρ (.tmp 127) = .pointer (some ⟨h, 0, none⟩) := by rw [hρ]; exact (hA.1 6 _ 127 rfl rfl).trans (hd (6, .pointer (some ⟨h, 0, none⟩)) (.tail _ (.tail _ (.tail _ (.tail _ (.tail _ (.tail _ (.head _))))))) ⟨⟨6, .data⟩, by simp, rfl, rfl⟩)
                      have e130 : ρ (.tmp 130) = .int .i64 (pa : Int) := by rw [hρ]; exact (hA.1 9 _ 130 rfl rfl).trans (hd (9, .int .i64 (pa : Int)) (.tail _ (.tail _ (.tail _ (.tail _ (.tail _ (.tail _ (.tail _ (.tail _ (.tail _ (.head _)))))))))) ⟨⟨9, .data⟩, by simp, rfl, rfl⟩)
                      have e133 : ρ (.tmp 133) = .int .i64 (pb : Int) := by rw [hρ]; exact (hA.1 12 _ 133 rfl rfl).trans (hd (12, .int .i64 (pb : Int)) (.tail _ (.tail _ (.tail _ (.tail _ (.tail _ (.tail _ (.tail _ (.tail _ (.tail _ (.tail _ (.tail _ (.tail _ (.head _))))))))))))) ⟨⟨12, .data⟩, by simp, rfl, rfl⟩)
                      clear hρ hA hl hK hd hS hacc
                      go_simp
                      ) ?_
                  refine (Cs.rwrite_any s' pa pb h mb w' hS.2.1 hpa hpb).mono ?_
                  rintro e w'' ⟨rfl, hI9, hO9⟩
                  exact ⟨_, rfl, hK _ _ ⟨rfl, ⟨cell_only hO9 hS.1.1 (fun e => e.elim (fun e => HNE.out.2.2.2.2.2.2.2.2.1 e) (fun e => HNE.out.2.2.2.2.2.2.2.2.2.1 e)), cell_only hO9 hS.1.2.1 (fun e => e.elim (fun e => HNE.out.2.2.2.2.2.2.1 e) (fun e => HNE.out.2.2.2.2.2.2.2.1 e)), cell_only hO9 hS.1.2.2.1 (fun e => e.elim (fun e => HBX.out.2.1 e) (fun e => HBX.out.2.2 e)), cell_only hO9 hS.1.2.2.2 (fun e => e.elim (fun e => HBX.out.2.1 e) (fun e => HBX.out.2.2 e))⟩, hI9, hS.2.2.trans hO9⟩⟩
              intro x13 v wE hSE hacc hqv
              replace hSE : x13 = .bool (writeC s' pa pb).isSome ∧ (wE.cell? ⟨pp, 1, none⟩ = some (.pointer (some ⟨q, 0, none⟩)) ∧ wE.cell? ⟨q, 33, none⟩ = some (.pointer (some ⟨h, 0, none⟩)) ∧ wE.cell? ⟨bx, 0, none⟩ = some (.int .u32 (pa : Int)) ∧ wE.cell? ⟨bx, 1, none⟩ = some (.int .u32 (pb : Int))) ∧ Ref wE h mb ((writeC s' pa pb).getD s') ∧ Only (SR h mb) wx wE := hSE
              have f0 : v 0 = .pointer (some ⟨pp, 0, none⟩) := hqv (0, .pointer (some ⟨pp, 0, none⟩)) (.head _)
              have f1 : v 1 = .pointer (some ⟨pp, 0, none⟩) := hqv (1, .pointer (some ⟨pp, 0, none⟩)) (.tail _ (.head _))
              have f2 : v 2 = .pointer (some ⟨pp, 1, none⟩) := hqv (2, .pointer (some ⟨pp, 1, none⟩)) (.tail _ (.tail _ (.head _)))
              have f3 : v 3 = .pointer (some ⟨q, 0, none⟩) := hqv (3, .pointer (some ⟨q, 0, none⟩)) (.tail _ (.tail _ (.tail _ (.head _))))
              have f4 : v 4 = .pointer (some ⟨q, 0, none⟩) := hqv (4, .pointer (some ⟨q, 0, none⟩)) (.tail _ (.tail _ (.tail _ (.tail _ (.head _)))))
              have f5 : v 5 = .pointer (some ⟨q, 33, none⟩) := hqv (5, .pointer (some ⟨q, 33, none⟩)) (.tail _ (.tail _ (.tail _ (.tail _ (.tail _ (.head _))))))
              have f6 : v 6 = .pointer (some ⟨h, 0, none⟩) := hqv (6, .pointer (some ⟨h, 0, none⟩)) (.tail _ (.tail _ (.tail _ (.tail _ (.tail _ (.tail _ (.head _)))))))
              have f7 : v 7 = .pointer (some ⟨bx, 0, none⟩) := hqv (7, .pointer (some ⟨bx, 0, none⟩)) (.tail _ (.tail _ (.tail _ (.tail _ (.tail _ (.tail _ (.tail _ (.head _))))))))
              have f8 : v 8 = .int .u32 (pa : Int) := hqv (8, .int .u32 (pa : Int)) (.tail _ (.tail _ (.tail _ (.tail _ (.tail _ (.tail _ (.tail _ (.tail _ (.head _)))))))))
              have f9 : v 9 = .int .i64 (pa : Int) := hqv (9, .int .i64 (pa : Int)) (.tail _ (.tail _ (.tail _ (.tail _ (.tail _ (.tail _ (.tail _ (.tail _ (.tail _ (.head _))))))))))
              have f10 : v 10 = .pointer (some ⟨bx, 1, none⟩) := hqv (10, .pointer (some ⟨bx, 1, none⟩)) (.tail _ (.tail _ (.tail _ (.tail _ (.tail _ (.tail _ (.tail _ (.tail _ (.tail _ (.tail _ (.head _)))))))))))
              have f11 : v 11 = .int .u32 (pb : Int) := hqv (11, .int .u32 (pb : Int)) (.tail _ (.tail _ (.tail _ (.tail _ (.tail _ (.tail _ (.tail _ (.tail _ (.tail _ (.tail _ (.tail _ (.head _))))))))))))
              have f12 : v 12 = .int .i64 (pb : Int) := hqv (12, .int .i64 (pb : Int)) (.tail _ (.tail _ (.tail _ (.tail _ (.tail _ (.tail _ (.tail _ (.tail _ (.tail _ (.tail _ (.tail _ (.tail _ (.head _)))))))))))))
              have f13 : v 13 = x13 := hacc (13, x13) (by simp)
              clear hacc hqv
              simp only [putAll, Act.put, List.setIfInBounds_toArray, List.set_cons_zero, List.set_cons_succ, Nat.zero_add, Nat.reduceAdd]
              rw [f0, f1, f2, f3, f4, f5, f6, f7, f8, f9, f10, f11, f12, f13]
              clear f0 f1 f2 f3 f4 f5 f6 f7 f8 f9 f10 f11 f12 f13
              have hR21 := hSE.2.2.1
              have hO21 := hSE.2.2.2
              have nn := HNE.out
              have hI21 := O.keep HI20.out hO21 (fun e => e.elim (fun e => nn.2.1.2.1 e) (fun e => nn.2.1.2.2.1 e))
              clear hSE pc1 qh t0 t1 nn
              go_wp2_with fail
              go_roundw
              case rel =>
                refine ⟨i3 + 1, hlt3, by go_num, by rw [HUP.out]; exact hI21, ⟨_, hR21⟩, (HOw.out.trans (HO20.out.mono fun b e => Or.inl e)).trans (hO21.mono fun b e => Or.inr e)⟩
              case measure => simp [intOf] <;> omega
            · obtain rfl : i3 = n3 := by omega
              have hbv : Below u.heap.size wc wr := hOr3.below (fun b hb => by have h := HLO.out; rcases hb with e | e | e <;> omega) HUc.out.size
              have hSv := HS0.out.after (HUc.out.trans hbv)
              have hcl : i3 = a.cs.length := by have := hSv.c.1; dsimp only at this; omega
              rw [hcl, List.take_length] at hIr3
              have nn := HNE.out
              have hPv := hOr3.has HPc.out (fun e => e.elim (fun e => nn.2.1.2.2.2.2.1 e.symm) fun e => e.elim (fun e => nn.2.2.2.2.2.2.2.2.1 e) (fun e => nn.2.2.2.2.2.2.2.2.2.1 e))
              have hQv := hOr3.has HQc.out (fun e => e.elim (fun e => nn.2.1.2.2.2.1 e.symm) fun e => e.elim (fun e => nn.2.2.2.2.2.2.1 e) (fun e => nn.2.2.2.2.2.2.2.1 e))
              have hHv := hOr3.has HHc.out (fun e => e.elim (fun e => nn.1.1 e) fun e => e.elim (fun e => nn.1.2.2.1 e) (fun e => nn.1.2.2.2.1 e))
              have hJv : Has wr bs 27 _ := hOr3.has HJc.out (fun e => e.elim (fun e => nn.2.1.2.2.2.2.2 e.symm) fun e => e.elim (fun e => nn.2.2.2.2.2.2.2.2.2.2.2.2.1 e.symm) (fun e => nn.2.2.2.2.2.2.2.2.2.2.2.2.2.1 e.symm))
              have hMv := ram_only HMc.out hOr3 (fun e => e.elim (fun e => nn.2.1.1 e.symm) fun e => e.elim (fun e => nn.2.2.1 e.symm) (fun e => nn.2.2.2.1 e.symm))
              have hUv := HUc.out.trans hbv
              have pc0 : wr.cell? ⟨pp, 0, none⟩ = some (.pointer (some ⟨p, 0, none⟩)) := hPv.cell 0
              have pc1 : wr.cell? ⟨pp, 1, none⟩ = some (.pointer (some ⟨q, 0, none⟩)) := hPv.cell 1
              have b5 : wr.cell? ⟨bs, 5, none⟩ = some (.int .u32 (a.pc : Int)) := hJv.cell 5
              obtain ⟨pcv, hpcv⟩ : ∃ v, v = (2147487744 + a.pc) % L32 := ⟨_, rfl⟩
              have hpc2 : (2147487744 + a.pc) % 4294967296 = pcv := hpcv.symm
              have e1 : ((2147487744 : Int) + (a.pc : Int)) % 4294967296 = (pcv : Int) := by omega
              have hpcI : (pcv : Int) < 4294967296 := by omega
              have PPp : pp ≠ p := fun e => nn.1.2.2.2.2.2.1 e.symm
              have PPq : pp ≠ q := nn.2.2.2.2.2.2.2.2.2.2.1
              have BSp : bs ≠ p := fun e => nn.1.2.2.2.2.2.2 e.symm
              have BSq : bs ≠ q := fun e => nn.2.2.2.2.2.2.2.2.2.2.2.2.2.2.1 e.symm
              have HPC := Lib.hid hpcv
              have HIv := Lib.hid hIr3
              have HRv := Lib.hid hRr3
              have HPv := Lib.hid hPv
              have HQv := Lib.hid hQv
              have HHv := Lib.hid hHv
              have HJv := Lib.hid hJv
              have HMv := Lib.hid hMv
              have HUv := Lib.hid hUv
              generalize hapc : a.pc = apc at *
              have HAPC := Lib.hid hapc
              clear hapc
              generalize hwd : wr = wd at *
              clear hwd hpcv hpc2 hIr3 hRr3 hOr3 hbv hSv hPv hQv hHv hJv hMv hUv nn hcl
              go_upto_region 23 with fail
              refine region_chain (fun w' => (w'.cell? ⟨pp, 0, none⟩ = some (.pointer (some ⟨p, 0, none⟩)) ∧ w'.cell? ⟨pp, 1, none⟩ = some (.pointer (some ⟨q, 0, none⟩)) ∧ w'.cell? ⟨bs, 5, none⟩ = some (.int .u32 (apc : Int)))) [(0, .pointer (some ⟨pp, 0, none⟩)), (1, .pointer (some ⟨pp, 0, none⟩)), (2, .pointer (some ⟨pp, 0, none⟩)), (3, .pointer (some ⟨p, 0, none⟩)), (4, .pointer (some ⟨pp, 0, none⟩)), (5, .pointer (some ⟨pp, 0, none⟩)), (6, .pointer (some ⟨pp, 1, none⟩)), (7, .pointer (some ⟨q, 0, none⟩)), (8, .pointer (some ⟨bs, 5, none⟩)), (9, .int .u32 (apc : Int)), (10, .int .u32 (pcv : Int)), (11, .pointer (some ⟨bs, 5, none⟩)), (12, .int .u32 (apc : Int)), (13, .int .u32 (pcv : Int)), (14, .int .i64 (pcv : Int)), (15, .pointer (some ⟨p, 0, none⟩)), (16, .pointer (some ⟨p, 32, none⟩)), (18, .pointer (some ⟨q, 0, none⟩)), (19, .pointer (some ⟨q, 32, none⟩))] [(17, fun xs w' => (xs.getD 0 undef) = undef ∧ (w'.cell? ⟨pp, 0, none⟩ = some (.pointer (some ⟨p, 0, none⟩)) ∧ w'.cell? ⟨pp, 1, none⟩ = some (.pointer (some ⟨q, 0, none⟩)) ∧ w'.cell? ⟨bs, 5, none⟩ = some (.int .u32 (apc : Int))) ∧ Has w' p 48 (tab 35 (hV x pcv g (some gm))) ∧ Has w' q 76 (tab 35 (qV x 0 h r)) ∧ Only (fun b => b = p ∨ b = q) wd w'), (20, fun xs w' => (xs.getD 1 undef) = undef ∧ (w'.cell? ⟨pp, 0, none⟩ = some (.pointer (some ⟨p, 0, none⟩)) ∧ w'.cell? ⟨pp, 1, none⟩ = some (.pointer (some ⟨q, 0, none⟩)) ∧ w'.cell? ⟨bs, 5, none⟩ = some (.int .u32 (apc : Int))) ∧ Has w' p 48 (tab 35 (hV x pcv g (some gm))) ∧ Has w' q 76 (tab 35 (qV x pcv h r)) ∧ Only (fun b => b = p ∨ b = q) wd w')] (fun w' => (w'.cell? ⟨pp, 0, none⟩ = some (.pointer (some ⟨p, 0, none⟩)) ∧ w'.cell? ⟨pp, 1, none⟩ = some (.pointer (some ⟨q, 0, none⟩)) ∧ w'.cell? ⟨bs, 5, none⟩ = some (.int .u32 (apc : Int))) ∧ Has w' p 48 (tab 35 (hV x 0 g (some gm))) ∧ Has w' q 76 (tab 35 (qV x 0 h r)) ∧ Only (fun b => b = p ∨ b = q) wd w') 176 (by kernel_rfl) rfl (by kernel_rfl) (by kernel_rfl) ?_ ?_ ?_ ?_ ?_ ?_
              · intro w' hb he
                exact ⟨⟨(cell_heap he _).trans pc0, (cell_heap he _).trans pc1, (cell_heap he _).trans b5⟩, HHv.out.after hb, HQv.out.after hb, Only.of_below hb⟩
              · exact fun w' h => h.1
              · simp only [List.forall_mem_cons, List.not_mem_nil, false_implies, implies_true, and_true]
                refine ⟨?_, ?_⟩
                · exact fun xs w' h => h.2.1
                · exact fun xs w' h => h.2.1
              · simp only [List.forall_mem_cons, List.not_mem_nil, false_implies, implies_true, and_true]
                refine ⟨?_, ?_, ?_, ?_, ?_, ?_, ?_, ?_, ?_, ?_, ?_, ?_, ?_, ?_, ?_, ?_, ?_, ?_, ?_⟩
                · refine qu_of rfl ?_
                  intro v w' A hA hC hd hl K hK
                  exact pure_step (.pointer (some ⟨pp, 0, none⟩)) (fun ρ hρ => by
                      have e7 : ρ (.tmp 7) = .pointer (some ⟨pp, 0, none⟩) := by rw [hρ]; exact hA.2 7 (by simp)
                      clear hρ hA hl hK hd hC
                      go_simp) hK
                · refine qu_of rfl ?_
                  intro v w' A hA hC hd hl K hK
                  exact pure_step (.pointer (some ⟨pp, 0, none⟩)) (fun ρ hρ => by
                      have e136 : ρ (.tmp 136) = .pointer (some ⟨pp, 0, none⟩) := by rw [hρ]; exact (hA.1 0 _ 136 rfl rfl).trans (hd (0, .pointer (some ⟨pp, 0, none⟩)) (.head _) ⟨⟨0, .data⟩, by simp, rfl, rfl⟩)
                      clear hρ hA hl hK hd hC
                      go_simp) hK
                · refine qu_of rfl ?_
                  intro v w' A hA hC hd hl K hK
                  exact pure_step (.pointer (some ⟨pp, 0, none⟩)) (fun ρ hρ => by
                      have e137 : ρ (.tmp 137) = .pointer (some ⟨pp, 0, none⟩) := by rw [hρ]; exact (hA.1 1 _ 137 rfl rfl).trans (hd (1, .pointer (some ⟨pp, 0, none⟩)) (.tail _ (.head _)) ⟨⟨1, .data⟩, by simp, rfl, rfl⟩)
                      clear hρ hA hl hK hd hC
                      go_simp) hK
                · refine qu_of rfl ?_
                  intro v w' A hA hC hd hl K hK
                  have hcell := hC.1
                  exact pure_step (.pointer (some ⟨p, 0, none⟩)) (fun ρ hρ => by
                      have e138 : ρ (.tmp 138) = .pointer (some ⟨pp, 0, none⟩) := by rw [hρ]; exact (hA.1 2 _ 138 rfl rfl).trans (hd (2, .pointer (some ⟨pp, 0, none⟩)) (.tail _ (.tail _ (.head _))) ⟨⟨2, .data⟩, by simp, rfl, rfl⟩)
                      clear hρ hA hl hK hd hC
                      go_simp) hK
                · refine qu_of rfl ?_
                  intro v w' A hA hC hd hl K hK
                  exact pure_step (.pointer (some ⟨pp, 0, none⟩)) (fun ρ hρ => by
                      have e7 : ρ (.tmp 7) = .pointer (some ⟨pp, 0, none⟩) := by rw [hρ]; exact hA.2 7 (by simp)
                      clear hρ hA hl hK hd hC
                      go_simp) hK
                · refine qu_of rfl ?_
                  intro v w' A hA hC hd hl K hK
                  exact pure_step (.pointer (some ⟨pp, 0, none⟩)) (fun ρ hρ => by
                      have e140 : ρ (.tmp 140) = .pointer (some ⟨pp, 0, none⟩) := by rw [hρ]; exact (hA.1 4 _ 140 rfl rfl).trans (hd (4, .pointer (some ⟨pp, 0, none⟩)) (.tail _ (.tail _ (.tail _ (.tail _ (.head _))))) ⟨⟨4, .data⟩, by simp, rfl, rfl⟩)
                      clear hρ hA hl hK hd hC
                      go_simp) hK
                · refine qu_of rfl ?_
                  intro v w' A hA hC hd hl K hK
                  exact pure_step (.pointer (some ⟨pp, 1, none⟩)) (fun ρ hρ => by
                      have e141 : ρ (.tmp 141) = .pointer (some ⟨pp, 0, none⟩) := by rw [hρ]; exact (hA.1 5 _ 141 rfl rfl).trans (hd (5, .pointer (some ⟨pp, 0, none⟩)) (.tail _ (.tail _ (.tail _ (.tail _ (.tail _ (.head _)))))) ⟨⟨5, .data⟩, by simp, rfl, rfl⟩)
                      clear hρ hA hl hK hd hC
                      go_simp) hK
                · refine qu_of rfl ?_
                  intro v w' A hA hC hd hl K hK
                  have hcell := hC.2.1
                  exact pure_step (.pointer (some ⟨q, 0, none⟩)) (fun ρ hρ => by
                      have e142 : ρ (.tmp 142) = .pointer (some ⟨pp, 1, none⟩) := by rw [hρ]; exact (hA.1 6 _ 142 rfl rfl).trans (hd (6, .pointer (some ⟨pp, 1, none⟩)) (.tail _ (.tail _ (.tail _ (.tail _ (.tail _ (.tail _ (.head _))))))) ⟨⟨6, .data⟩, by simp, rfl, rfl⟩)
                      clear hρ hA hl hK hd hC
                      go_simp) hK
                · refine qu_of rfl ?_
                  intro v w' A hA hC hd hl K hK
                  exact pure_step (.pointer (some ⟨bs, 5, none⟩)) (fun ρ hρ => by
                      have e1 : ρ (.tmp 1) = .pointer (some ⟨bs, 0, none⟩) := by rw [hρ]; exact hA.2 1 (by simp)
                      clear hρ hA hl hK hd hC
                      go_simp) hK
                · refine qu_of rfl ?_
                  intro v w' A hA hC hd hl K hK
                  have hcell := hC.2.2
                  exact pure_step (.int .u32 (apc : Int)) (fun ρ hρ => by
                      have e144 : ρ (.tmp 144) = .pointer (some ⟨bs, 5, none⟩) := by rw [hρ]; exact (hA.1 8 _ 144 rfl rfl).trans (hd (8, .pointer (some ⟨bs, 5, none⟩)) (.tail _ (.tail _ (.tail _ (.tail _ (.tail _ (.tail _ (.tail _ (.tail _ (.head _))))))))) ⟨⟨8, .data⟩, by simp, rfl, rfl⟩)
                      clear hρ hA hl hK hd hC
                      go_simp) hK
                · refine qu_of rfl ?_
                  intro v w' A hA hC hd hl K hK
                  exact pure_step (.int .u32 (pcv : Int)) (fun ρ hρ => by
                      have hcst : ∀ x, ρ (.const x) = x := fun x => by rw [hρ]; rfl
                      have e145 : ρ (.tmp 145) = .int .u32 (apc : Int) := by rw [hρ]; exact (hA.1 9 _ 145 rfl rfl).trans (hd (9, .int .u32 (apc : Int)) (.tail _ (.tail _ (.tail _ (.tail _ (.tail _ (.tail _ (.tail _ (.tail _ (.tail _ (.head _)))))))))) ⟨⟨9, .data⟩, by simp, rfl, rfl⟩)
                      clear hρ hA hl hK hd hC
                      have hwr : IntKind.u32.wrap ((2147487744 : Int) + (apc : Int)) = (pcv : Int) := by simpa [IntKind.wrap, IntKind.signed, IntKind.bits] using e1
                      go_simp) hK
                · refine qu_of rfl ?_
                  intro v w' A hA hC hd hl K hK
                  exact pure_step (.pointer (some ⟨bs, 5, none⟩)) (fun ρ hρ => by
                      have e1 : ρ (.tmp 1) = .pointer (some ⟨bs, 0, none⟩) := by rw [hρ]; exact hA.2 1 (by simp)
                      clear hρ hA hl hK hd hC
                      go_simp) hK
                · refine qu_of rfl ?_
                  intro v w' A hA hC hd hl K hK
                  have hcell := hC.2.2
                  exact pure_step (.int .u32 (apc : Int)) (fun ρ hρ => by
                      have e147 : ρ (.tmp 147) = .pointer (some ⟨bs, 5, none⟩) := by rw [hρ]; exact (hA.1 11 _ 147 rfl rfl).trans (hd (11, .pointer (some ⟨bs, 5, none⟩)) (.tail _ (.tail _ (.tail _ (.tail _ (.tail _ (.tail _ (.tail _ (.tail _ (.tail _ (.tail _ (.tail _ (.head _)))))))))))) ⟨⟨11, .data⟩, by simp, rfl, rfl⟩)
                      clear hρ hA hl hK hd hC
                      go_simp) hK
                · refine qu_of rfl ?_
                  intro v w' A hA hC hd hl K hK
                  exact pure_step (.int .u32 (pcv : Int)) (fun ρ hρ => by
                      have hcst : ∀ x, ρ (.const x) = x := fun x => by rw [hρ]; rfl
                      have e148 : ρ (.tmp 148) = .int .u32 (apc : Int) := by rw [hρ]; exact (hA.1 12 _ 148 rfl rfl).trans (hd (12, .int .u32 (apc : Int)) (.tail _ (.tail _ (.tail _ (.tail _ (.tail _ (.tail _ (.tail _ (.tail _ (.tail _ (.tail _ (.tail _ (.tail _ (.head _))))))))))))) ⟨⟨12, .data⟩, by simp, rfl, rfl⟩)
                      clear hρ hA hl hK hd hC
                      have hwr : IntKind.u32.wrap ((2147487744 : Int) + (apc : Int)) = (pcv : Int) := by simpa [IntKind.wrap, IntKind.signed, IntKind.bits] using e1
                      go_simp) hK
                · refine qu_of rfl ?_
                  intro v w' A hA hC hd hl K hK
                  exact pure_step (.int .i64 (pcv : Int)) (fun ρ hρ => by
                      have e149 : ρ (.tmp 149) = .int .u32 (pcv : Int) := by rw [hρ]; exact (hA.1 13 _ 149 rfl rfl).trans (hd (13, .int .u32 (pcv : Int)) (.tail _ (.tail _ (.tail _ (.tail _ (.tail _ (.tail _ (.tail _ (.tail _ (.tail _ (.tail _ (.tail _ (.tail _ (.tail _ (.head _)))))))))))))) ⟨⟨13, .data⟩, by simp, rfl, rfl⟩)
                      clear hρ hA hl hK hd hC
                      have hwr : IntKind.i64.wrap (pcv : Int) = (pcv : Int) := IntWalk.i64_in _ (by omega)
                      go_simp) hK
                · refine qu_of rfl ?_
                  intro v w' A hA hC hd hl K hK
                  exact pure_step (.pointer (some ⟨p, 0, none⟩)) (fun ρ hρ => by
                      have e139 : ρ (.tmp 139) = .pointer (some ⟨p, 0, none⟩) := by rw [hρ]; exact (hA.1 3 _ 139 rfl rfl).trans (hd (3, .pointer (some ⟨p, 0, none⟩)) (.tail _ (.tail _ (.tail _ (.head _)))) ⟨⟨3, .data⟩, by simp, rfl, rfl⟩)
                      clear hρ hA hl hK hd hC
                      go_simp) hK
                · refine qu_of rfl ?_
                  intro v w' A hA hC hd hl K hK
                  exact pure_step (.pointer (some ⟨p, 32, none⟩)) (fun ρ hρ => by
                      have e151 : ρ (.tmp 151) = .pointer (some ⟨p, 0, none⟩) := by rw [hρ]; exact (hA.1 15 _ 151 rfl rfl).trans (hd (15, .pointer (some ⟨p, 0, none⟩)) (.tail _ (.tail _ (.tail _ (.tail _ (.tail _ (.tail _ (.tail _ (.tail _ (.tail _ (.tail _ (.tail _ (.tail _ (.tail _ (.tail _ (.tail _ (.head _)))))))))))))))) ⟨⟨15, .data⟩, by simp, rfl, rfl⟩)
                      clear hρ hA hl hK hd hC
                      go_simp) hK
                · refine qu_of rfl ?_
                  intro v w' A hA hC hd hl K hK
                  exact pure_step (.pointer (some ⟨q, 0, none⟩)) (fun ρ hρ => by
                      have e143 : ρ (.tmp 143) = .pointer (some ⟨q, 0, none⟩) := by rw [hρ]; exact (hA.1 7 _ 143 rfl rfl).trans (hd (7, .pointer (some ⟨q, 0, none⟩)) (.tail _ (.tail _ (.tail _ (.tail _ (.tail _ (.tail _ (.tail _ (.head _)))))))) ⟨⟨7, .data⟩, by simp, rfl, rfl⟩)
                      clear hρ hA hl hK hd hC
                      go_simp) hK
                · refine qu_of rfl ?_
                  intro v w' A hA hC hd hl K hK
                  exact pure_step (.pointer (some ⟨q, 32, none⟩)) (fun ρ hρ => by
                      have e153 : ρ (.tmp 153) = .pointer (some ⟨q, 0, none⟩) := by rw [hρ]; exact (hA.1 18 _ 153 rfl rfl).trans (hd (18, .pointer (some ⟨q, 0, none⟩)) (.tail _ (.tail _ (.tail _ (.tail _ (.tail _ (.tail _ (.tail _ (.tail _ (.tail _ (.tail _ (.tail _ (.tail _ (.tail _ (.tail _ (.tail _ (.tail _ (.tail _ (.head _)))))))))))))))))) ⟨⟨18, .data⟩, by simp, rfl, rfl⟩)
                      clear hρ hA hl hK hd hC
                      go_simp) hK
              · refine ⟨qu_of rfl ?_, fun x17 => ⟨qu_of rfl ?_, fun x20 => trivial⟩⟩
                · intro v w' A hA hS hacc hd hl K hK
                  replace hS : (w'.cell? ⟨pp, 0, none⟩ = some (.pointer (some ⟨p, 0, none⟩)) ∧ w'.cell? ⟨pp, 1, none⟩ = some (.pointer (some ⟨q, 0, none⟩)) ∧ w'.cell? ⟨bs, 5, none⟩ = some (.int .u32 (apc : Int))) ∧ Has w' p 48 (tab 35 (hV x 0 g (some gm))) ∧ Has w' q 76 (tab 35 (qV x 0 h r)) ∧ Only (fun b => b = p ∨ b = q) wd w' := hS
                  have hC := hS.1
                  have hfz : w'.frozen? ⟨p, 32, none⟩ = false := hS.2.1.free 32
                  have hcz : w'.cell? ⟨p, 32, none⟩ = some (.int .u32 0) := hS.2.1.cellTab 32 (by decide)
                  refine new_stepS (w'' := w'.setCell ⟨p, 32, none⟩ (.int .u32 (pcv : Int))) (fun ρ hρ => by
                      have e152 : ρ (.tmp 152) = .pointer (some ⟨p, 32, none⟩) := by rw [hρ]; exact (hA.1 16 _ 152 rfl rfl).trans (hd (16, .pointer (some ⟨p, 32, none⟩)) (.tail _ (.tail _ (.tail _ (.tail _ (.tail _ (.tail _ (.tail _ (.tail _ (.tail _ (.tail _ (.tail _ (.tail _ (.tail _ (.tail _ (.tail _ (.tail _ (.head _))))))))))))))))) ⟨⟨16, .data⟩, by simp, rfl, rfl⟩)
                      have e146 : ρ (.tmp 146) = .int .u32 (pcv : Int) := by rw [hρ]; exact (hA.1 10 _ 146 rfl rfl).trans (hd (10, .int .u32 (pcv : Int)) (.tail _ (.tail _ (.tail _ (.tail _ (.tail _ (.tail _ (.tail _ (.tail _ (.tail _ (.tail _ (.head _))))))))))) ⟨⟨10, .data⟩, by simp, rfl, rfl⟩)
                      clear hρ hA hl hK hd hS hacc
                      go_simp
                      ) ?_
                  exact hK _ _ ⟨rfl, ⟨(cell_far _ PPp).trans hC.1, (cell_far _ PPp).trans hC.2.1, (cell_far _ BSp).trans hC.2.2⟩, hart_pc hS.2.1 pcv, (Only.setCell (S := fun b => b = p) _ rfl _).has hS.2.2.1 (fun e => HNE.out.1.2.2.2.2.1 e.symm), hS.2.2.2.trans (Only.setCell _ (Or.inl rfl) _)⟩
                · intro v w' A hA hS hacc hd hl K hK
                  replace hS : x17 = undef ∧ (w'.cell? ⟨pp, 0, none⟩ = some (.pointer (some ⟨p, 0, none⟩)) ∧ w'.cell? ⟨pp, 1, none⟩ = some (.pointer (some ⟨q, 0, none⟩)) ∧ w'.cell? ⟨bs, 5, none⟩ = some (.int .u32 (apc : Int))) ∧ Has w' p 48 (tab 35 (hV x pcv g (some gm))) ∧ Has w' q 76 (tab 35 (qV x 0 h r)) ∧ Only (fun b => b = p ∨ b = q) wd w' := hS
                  have hC := hS.2.1
                  have hfz : w'.frozen? ⟨q, 32, none⟩ = false := hS.2.2.2.1.free 32
                  have hcz : w'.cell? ⟨q, 32, none⟩ = some (.int .i64 0) := hS.2.2.2.1.cellTab 32 (by decide)
                  refine new_stepS (w'' := w'.setCell ⟨q, 32, none⟩ (.int .i64 (pcv : Int))) (fun ρ hρ => by
                      have e154 : ρ (.tmp 154) = .pointer (some ⟨q, 32, none⟩) := by rw [hρ]; exact (hA.1 19 _ 154 rfl rfl).trans (hd (19, .pointer (some ⟨q, 32, none⟩)) (.tail _ (.tail _ (.tail _ (.tail _ (.tail _ (.tail _ (.tail _ (.tail _ (.tail _ (.tail _ (.tail _ (.tail _ (.tail _ (.tail _ (.tail _ (.tail _ (.tail _ (.tail _ (.head _))))))))))))))))))) ⟨⟨19, .data⟩, by simp, rfl, rfl⟩)
                      have e150 : ρ (.tmp 150) = .int .i64 (pcv : Int) := by rw [hρ]; exact (hA.1 14 _ 150 rfl rfl).trans (hd (14, .int .i64 (pcv : Int)) (.tail _ (.tail _ (.tail _ (.tail _ (.tail _ (.tail _ (.tail _ (.tail _ (.tail _ (.tail _ (.tail _ (.tail _ (.tail _ (.tail _ (.head _))))))))))))))) ⟨⟨14, .data⟩, by simp, rfl, rfl⟩)
                      clear hρ hA hl hK hd hS hacc
                      go_simp
                      ) ?_
                  exact hK _ _ ⟨rfl, ⟨(cell_far _ PPq).trans hC.1, (cell_far _ PPq).trans hC.2.1, (cell_far _ BSq).trans hC.2.2⟩, (Only.setCell (S := fun b => b = q) _ rfl _).has hS.2.2.1 HNE.out.1.2.2.2.2.1, qhart_pc hS.2.2.2.1 pcv, hS.2.2.2.2.trans (Only.setCell _ (Or.inr rfl) _)⟩
              intro x17 x20 v wE hSE hacc hqv
              replace hSE : x20 = undef ∧ (wE.cell? ⟨pp, 0, none⟩ = some (.pointer (some ⟨p, 0, none⟩)) ∧ wE.cell? ⟨pp, 1, none⟩ = some (.pointer (some ⟨q, 0, none⟩)) ∧ wE.cell? ⟨bs, 5, none⟩ = some (.int .u32 (apc : Int))) ∧ Has wE p 48 (tab 35 (hV x pcv g (some gm))) ∧ Has wE q 76 (tab 35 (qV x pcv h r)) ∧ Only (fun b => b = p ∨ b = q) wd wE := hSE
              have f0 : v 0 = .pointer (some ⟨pp, 0, none⟩) := hqv (0, .pointer (some ⟨pp, 0, none⟩)) (.head _)
              have f1 : v 1 = .pointer (some ⟨pp, 0, none⟩) := hqv (1, .pointer (some ⟨pp, 0, none⟩)) (.tail _ (.head _))
              have f2 : v 2 = .pointer (some ⟨pp, 0, none⟩) := hqv (2, .pointer (some ⟨pp, 0, none⟩)) (.tail _ (.tail _ (.head _)))
              have f3 : v 3 = .pointer (some ⟨p, 0, none⟩) := hqv (3, .pointer (some ⟨p, 0, none⟩)) (.tail _ (.tail _ (.tail _ (.head _))))
              have f4 : v 4 = .pointer (some ⟨pp, 0, none⟩) := hqv (4, .pointer (some ⟨pp, 0, none⟩)) (.tail _ (.tail _ (.tail _ (.tail _ (.head _)))))
              have f5 : v 5 = .pointer (some ⟨pp, 0, none⟩) := hqv (5, .pointer (some ⟨pp, 0, none⟩)) (.tail _ (.tail _ (.tail _ (.tail _ (.tail _ (.head _))))))
              have f6 : v 6 = .pointer (some ⟨pp, 1, none⟩) := hqv (6, .pointer (some ⟨pp, 1, none⟩)) (.tail _ (.tail _ (.tail _ (.tail _ (.tail _ (.tail _ (.head _)))))))
              have f7 : v 7 = .pointer (some ⟨q, 0, none⟩) := hqv (7, .pointer (some ⟨q, 0, none⟩)) (.tail _ (.tail _ (.tail _ (.tail _ (.tail _ (.tail _ (.tail _ (.head _))))))))
              have f8 : v 8 = .pointer (some ⟨bs, 5, none⟩) := hqv (8, .pointer (some ⟨bs, 5, none⟩)) (.tail _ (.tail _ (.tail _ (.tail _ (.tail _ (.tail _ (.tail _ (.tail _ (.head _)))))))))
              have f9 : v 9 = .int .u32 (apc : Int) := hqv (9, .int .u32 (apc : Int)) (.tail _ (.tail _ (.tail _ (.tail _ (.tail _ (.tail _ (.tail _ (.tail _ (.tail _ (.head _))))))))))
              have f10 : v 10 = .int .u32 (pcv : Int) := hqv (10, .int .u32 (pcv : Int)) (.tail _ (.tail _ (.tail _ (.tail _ (.tail _ (.tail _ (.tail _ (.tail _ (.tail _ (.tail _ (.head _)))))))))))
              have f11 : v 11 = .pointer (some ⟨bs, 5, none⟩) := hqv (11, .pointer (some ⟨bs, 5, none⟩)) (.tail _ (.tail _ (.tail _ (.tail _ (.tail _ (.tail _ (.tail _ (.tail _ (.tail _ (.tail _ (.tail _ (.head _))))))))))))
              have f12 : v 12 = .int .u32 (apc : Int) := hqv (12, .int .u32 (apc : Int)) (.tail _ (.tail _ (.tail _ (.tail _ (.tail _ (.tail _ (.tail _ (.tail _ (.tail _ (.tail _ (.tail _ (.tail _ (.head _)))))))))))))
              have f13 : v 13 = .int .u32 (pcv : Int) := hqv (13, .int .u32 (pcv : Int)) (.tail _ (.tail _ (.tail _ (.tail _ (.tail _ (.tail _ (.tail _ (.tail _ (.tail _ (.tail _ (.tail _ (.tail _ (.tail _ (.head _))))))))))))))
              have f14 : v 14 = .int .i64 (pcv : Int) := hqv (14, .int .i64 (pcv : Int)) (.tail _ (.tail _ (.tail _ (.tail _ (.tail _ (.tail _ (.tail _ (.tail _ (.tail _ (.tail _ (.tail _ (.tail _ (.tail _ (.tail _ (.head _)))))))))))))))
              have f15 : v 15 = .pointer (some ⟨p, 0, none⟩) := hqv (15, .pointer (some ⟨p, 0, none⟩)) (.tail _ (.tail _ (.tail _ (.tail _ (.tail _ (.tail _ (.tail _ (.tail _ (.tail _ (.tail _ (.tail _ (.tail _ (.tail _ (.tail _ (.tail _ (.head _))))))))))))))))
              have f16 : v 16 = .pointer (some ⟨p, 32, none⟩) := hqv (16, .pointer (some ⟨p, 32, none⟩)) (.tail _ (.tail _ (.tail _ (.tail _ (.tail _ (.tail _ (.tail _ (.tail _ (.tail _ (.tail _ (.tail _ (.tail _ (.tail _ (.tail _ (.tail _ (.tail _ (.head _)))))))))))))))))
              have f17 : v 17 = x17 := hacc (17, x17) (by simp)
              have f18 : v 18 = .pointer (some ⟨q, 0, none⟩) := hqv (18, .pointer (some ⟨q, 0, none⟩)) (.tail _ (.tail _ (.tail _ (.tail _ (.tail _ (.tail _ (.tail _ (.tail _ (.tail _ (.tail _ (.tail _ (.tail _ (.tail _ (.tail _ (.tail _ (.tail _ (.tail _ (.head _))))))))))))))))))
              have f19 : v 19 = .pointer (some ⟨q, 32, none⟩) := hqv (19, .pointer (some ⟨q, 32, none⟩)) (.tail _ (.tail _ (.tail _ (.tail _ (.tail _ (.tail _ (.tail _ (.tail _ (.tail _ (.tail _ (.tail _ (.tail _ (.tail _ (.tail _ (.tail _ (.tail _ (.tail _ (.tail _ (.head _)))))))))))))))))))
              have f20 : v 20 = x20 := hacc (20, x20) (by simp)
              clear hacc hqv
              simp only [putAll, Act.put, List.setIfInBounds_toArray, List.set_cons_zero, List.set_cons_succ, Nat.zero_add, Nat.reduceAdd]
              rw [f0, f1, f2, f3, f4, f5, f6, f7, f8, f9, f10, f11, f12, f13, f14, f15, f16, f18, f19]
              clear f0 f1 f2 f3 f4 f5 f6 f7 f8 f9 f10 f11 f12 f13 f14 f15 f16 f17 f18 f19 f20
              have hHe := hSE.2.2.1
              have hQe := hSE.2.2.2.1
              have hOe := hSE.2.2.2.2
              have nn := HNE.out
              have hUe := HUv.out.trans (hOe.below (fun b hb => by have h := HLO.out; rcases hb with e | e <;> omega) HUv.out.size)
              have hIe := O.keep HIv.out hOe (fun e => e.elim (fun e => nn.1.1 e.symm) (fun e => nn.2.1.2.2.2.1 e))
              have hRe := HRv.out.only hOe (fun e => e.elim (fun e => nn.1.2.2.1 e.symm) (fun e => nn.2.2.2.2.2.2.1 e.symm)) (fun e => e.elim (fun e => nn.1.2.2.2.1 e.symm) (fun e => nn.2.2.2.2.2.2.2.1 e.symm))
              have hPe := hOe.has HPv.out (fun e => e.elim PPp PPq)
              have hJe : Has wE bs 27 _ := hOe.has HJv.out (fun e => e.elim BSp BSq)
              have hMe := ram_only HMv.out hOe (fun e => e.elim (fun e => nn.1.2.1 e.symm) (fun e => nn.2.2.2.2.1 e.symm))
              replace pc0 : wE.cell? ⟨pp, 0, none⟩ = some (.pointer (some ⟨p, 0, none⟩)) := hPe.cell 0
              replace pc1 : wE.cell? ⟨pp, 1, none⟩ = some (.pointer (some ⟨q, 0, none⟩)) := hPe.cell 1
              have b3 : wE.cell? ⟨bs, 3, none⟩ = some (.bool a.user) := hJe.cell 3
              have pg : wE.cell? ⟨p, 33, none⟩ = some (.pointer (some ⟨g, 0, none⟩)) := hHe.cellTab 33 (by decide)
              have qh : wE.cell? ⟨q, 33, none⟩ = some (.pointer (some ⟨h, 0, none⟩)) := hQe.cellTab 33 (by decide)
              have HHe := Lib.hid hHe
              have HQe := Lib.hid hQe
              have HUe := Lib.hid hUe
              have HIe := Lib.hid hIe
              have HRe := Lib.hid hRe
              have HPe := Lib.hid hPe
              have HMe := Lib.hid hMe
              have hbeg : begS a = if a.user = true then { wrS s1 a.cs with mode := 0 } else wrS s1 a.cs := by unfold begS; rw [← HS1.out]
              generalize wrS s1 a.cs = sf at *
              generalize hau : a.user = ub at *
              have HAU := Lib.hid hau
              have HBEG := Lib.hid hbeg
              generalize hwe : wE = we at *
              clear hwe hSE hHe hQe hOe hUe hIe hRe hPe hJe hMe b5 nn hau hbeg
              have hfin : ∀ W, Only (fun b => b = g ∨ b = h) we W → Is W g (if ub = true then { sf with mode := 0 } else sf) → BegO Is w a (.returned (hP pp)) W := by
                intro W hO9 hI9
                have nn := HNE.out
                have lo := HLO.out
                have hbw0 := HB0.out.size
                refine ⟨pp, p, q, g, gm, x, m, rfl, hO9.has HPe.out (fun e => e.elim (fun e => nn.2.1.2.2.2.2.1 e.symm) (fun e => nn.2.2.2.2.2.2.2.2.1 e)), ?_, by rw [HBEG.out]; exact hI9, ram_only HMe.out hO9 (fun e => e.elim (fun e => nn.2.1.1 e.symm) (fun e => nn.2.2.1 e.symm)), HXa.out.1, HXa.out.2, ⟨nn.1.1, nn.1.2.1, nn.2.1.1, PPp, fun e => nn.2.1.2.2.2.2.1 e.symm, nn.2.2.2.2.2.1⟩, ⟨by omega, by omega, by omega, by omega⟩, ?_⟩
                · have h1 := hO9.has HHe.out (fun e => e.elim (fun e => nn.1.1 e) (fun e => nn.1.2.2.1 e))
                  rw [HPC.out, ← HAPC.out] at h1
                  exact h1
                · exact HB0.out.trans ((HUe.out.trans (hO9.below (fun b hb => by rcases hb with e | e <;> omega) HUe.out.size)).mono hbw0)
              have HFIN := Lib.hid hfin
              clear hfin
              go_upto_if 156 with fail
              cases ub with
              | false =>
                go_wp2_with fail
                go_ret
                exact HFIN.out _ (Only.refl _ _) HIe.out
              | true =>
                go_upto_region 25 with fail
                refine region_chain (fun w' => (w'.cell? ⟨pp, 0, none⟩ = some (.pointer (some ⟨p, 0, none⟩)) ∧ w'.cell? ⟨pp, 1, none⟩ = some (.pointer (some ⟨q, 0, none⟩)) ∧ w'.cell? ⟨p, 33, none⟩ = some (.pointer (some ⟨g, 0, none⟩)) ∧ w'.cell? ⟨q, 33, none⟩ = some (.pointer (some ⟨h, 0, none⟩)))) [(0, .pointer (some ⟨pp, 0, none⟩)), (1, .pointer (some ⟨pp, 0, none⟩)), (2, .pointer (some ⟨pp, 0, none⟩)), (3, .pointer (some ⟨p, 0, none⟩)), (4, .pointer (some ⟨p, 0, none⟩)), (5, .pointer (some ⟨p, 33, none⟩)), (6, .pointer (some ⟨g, 0, none⟩)), (7, .pointer (some ⟨pp, 0, none⟩)), (8, .pointer (some ⟨pp, 0, none⟩)), (9, .pointer (some ⟨pp, 1, none⟩)), (10, .pointer (some ⟨q, 0, none⟩)), (11, .pointer (some ⟨q, 0, none⟩)), (12, .pointer (some ⟨q, 33, none⟩)), (13, .pointer (some ⟨h, 0, none⟩)), (14, .pointer (some ⟨g, 0, none⟩)), (15, .pointer (some ⟨g, 0, none⟩)), (17, .pointer (some ⟨h, 0, none⟩)), (18, .pointer (some ⟨h, 0, none⟩))] [(16, fun xs w' => (xs.getD 0 undef) = undef ∧ (w'.cell? ⟨pp, 0, none⟩ = some (.pointer (some ⟨p, 0, none⟩)) ∧ w'.cell? ⟨pp, 1, none⟩ = some (.pointer (some ⟨q, 0, none⟩)) ∧ w'.cell? ⟨p, 33, none⟩ = some (.pointer (some ⟨g, 0, none⟩)) ∧ w'.cell? ⟨q, 33, none⟩ = some (.pointer (some ⟨h, 0, none⟩))) ∧ Is w' g { sf with mode := 0 } ∧ Ref w' h mb s' ∧ Only (fun b => b = g ∨ b = h) we w'), (19, fun xs w' => (xs.getD 1 undef) = undef ∧ (w'.cell? ⟨pp, 0, none⟩ = some (.pointer (some ⟨p, 0, none⟩)) ∧ w'.cell? ⟨pp, 1, none⟩ = some (.pointer (some ⟨q, 0, none⟩)) ∧ w'.cell? ⟨p, 33, none⟩ = some (.pointer (some ⟨g, 0, none⟩)) ∧ w'.cell? ⟨q, 33, none⟩ = some (.pointer (some ⟨h, 0, none⟩))) ∧ Is w' g { sf with mode := 0 } ∧ Only (fun b => b = g ∨ b = h) we w')] (fun w' => (w'.cell? ⟨pp, 0, none⟩ = some (.pointer (some ⟨p, 0, none⟩)) ∧ w'.cell? ⟨pp, 1, none⟩ = some (.pointer (some ⟨q, 0, none⟩)) ∧ w'.cell? ⟨p, 33, none⟩ = some (.pointer (some ⟨g, 0, none⟩)) ∧ w'.cell? ⟨q, 33, none⟩ = some (.pointer (some ⟨h, 0, none⟩))) ∧ Is w' g sf ∧ Ref w' h mb s' ∧ Only (fun b => b = g ∨ b = h) we w') 176 (by kernel_rfl) rfl (by kernel_rfl) (by kernel_rfl) ?_ ?_ ?_ ?_ ?_ ?_
                · intro w' hb he
                  exact ⟨⟨(cell_heap he _).trans pc0, (cell_heap he _).trans pc1, (cell_heap he _).trans pg, (cell_heap he _).trans qh⟩, O.below HIe.out hb, HRe.out.after hb, Only.of_below hb⟩
                · exact fun w' h => h.1
                · simp only [List.forall_mem_cons, List.not_mem_nil, false_implies, implies_true, and_true]
                  refine ⟨?_, ?_⟩
                  · exact fun xs w' h => h.2.1
                  · exact fun xs w' h => h.2.1
                · simp only [List.forall_mem_cons, List.not_mem_nil, false_implies, implies_true, and_true]
                  refine ⟨?_, ?_, ?_, ?_, ?_, ?_, ?_, ?_, ?_, ?_, ?_, ?_, ?_, ?_, ?_, ?_, ?_, ?_⟩
                  · refine qu_of rfl ?_
                    intro v w' A hA hC hd hl K hK
                    exact pure_step (.pointer (some ⟨pp, 0, none⟩)) (fun ρ hρ => by
                        have e7 : ρ (.tmp 7) = .pointer (some ⟨pp, 0, none⟩) := by rw [hρ]; exact hA.2 7 (by simp)
                        clear hρ hA hl hK hd hC
                        go_simp) hK
                  · refine qu_of rfl ?_
                    intro v w' A hA hC hd hl K hK
                    exact pure_step (.pointer (some ⟨pp, 0, none⟩)) (fun ρ hρ => by
                        have e157 : ρ (.tmp 157) = .pointer (some ⟨pp, 0, none⟩) := by rw [hρ]; exact (hA.1 0 _ 157 rfl rfl).trans (hd (0, .pointer (some ⟨pp, 0, none⟩)) (.head _) ⟨⟨0, .data⟩, by simp, rfl, rfl⟩)
                        clear hρ hA hl hK hd hC
                        go_simp) hK
                  · refine qu_of rfl ?_
                    intro v w' A hA hC hd hl K hK
                    exact pure_step (.pointer (some ⟨pp, 0, none⟩)) (fun ρ hρ => by
                        have e158 : ρ (.tmp 158) = .pointer (some ⟨pp, 0, none⟩) := by rw [hρ]; exact (hA.1 1 _ 158 rfl rfl).trans (hd (1, .pointer (some ⟨pp, 0, none⟩)) (.tail _ (.head _)) ⟨⟨1, .data⟩, by simp, rfl, rfl⟩)
                        clear hρ hA hl hK hd hC
                        go_simp) hK
                  · refine qu_of rfl ?_
                    intro v w' A hA hC hd hl K hK
                    have hcell := hC.1
                    exact pure_step (.pointer (some ⟨p, 0, none⟩)) (fun ρ hρ => by
                        have e159 : ρ (.tmp 159) = .pointer (some ⟨pp, 0, none⟩) := by rw [hρ]; exact (hA.1 2 _ 159 rfl rfl).trans (hd (2, .pointer (some ⟨pp, 0, none⟩)) (.tail _ (.tail _ (.head _))) ⟨⟨2, .data⟩, by simp, rfl, rfl⟩)
                        clear hρ hA hl hK hd hC
                        go_simp) hK
                  · refine qu_of rfl ?_
                    intro v w' A hA hC hd hl K hK
                    exact pure_step (.pointer (some ⟨p, 0, none⟩)) (fun ρ hρ => by
                        have e160 : ρ (.tmp 160) = .pointer (some ⟨p, 0, none⟩) := by rw [hρ]; exact (hA.1 3 _ 160 rfl rfl).trans (hd (3, .pointer (some ⟨p, 0, none⟩)) (.tail _ (.tail _ (.tail _ (.head _)))) ⟨⟨3, .data⟩, by simp, rfl, rfl⟩)
                        clear hρ hA hl hK hd hC
                        go_simp) hK
                  · refine qu_of rfl ?_
                    intro v w' A hA hC hd hl K hK
                    exact pure_step (.pointer (some ⟨p, 33, none⟩)) (fun ρ hρ => by
                        have e161 : ρ (.tmp 161) = .pointer (some ⟨p, 0, none⟩) := by rw [hρ]; exact (hA.1 4 _ 161 rfl rfl).trans (hd (4, .pointer (some ⟨p, 0, none⟩)) (.tail _ (.tail _ (.tail _ (.tail _ (.head _))))) ⟨⟨4, .data⟩, by simp, rfl, rfl⟩)
                        clear hρ hA hl hK hd hC
                        go_simp) hK
                  · refine qu_of rfl ?_
                    intro v w' A hA hC hd hl K hK
                    have hcell := hC.2.2.1
                    exact pure_step (.pointer (some ⟨g, 0, none⟩)) (fun ρ hρ => by
                        have e162 : ρ (.tmp 162) = .pointer (some ⟨p, 33, none⟩) := by rw [hρ]; exact (hA.1 5 _ 162 rfl rfl).trans (hd (5, .pointer (some ⟨p, 33, none⟩)) (.tail _ (.tail _ (.tail _ (.tail _ (.tail _ (.head _)))))) ⟨⟨5, .data⟩, by simp, rfl, rfl⟩)
                        clear hρ hA hl hK hd hC
                        go_simp) hK
                  · refine qu_of rfl ?_
                    intro v w' A hA hC hd hl K hK
                    exact pure_step (.pointer (some ⟨pp, 0, none⟩)) (fun ρ hρ => by
                        have e7 : ρ (.tmp 7) = .pointer (some ⟨pp, 0, none⟩) := by rw [hρ]; exact hA.2 7 (by simp)
                        clear hρ hA hl hK hd hC
                        go_simp) hK
                  · refine qu_of rfl ?_
                    intro v w' A hA hC hd hl K hK
                    exact pure_step (.pointer (some ⟨pp, 0, none⟩)) (fun ρ hρ => by
                        have e164 : ρ (.tmp 164) = .pointer (some ⟨pp, 0, none⟩) := by rw [hρ]; exact (hA.1 7 _ 164 rfl rfl).trans (hd (7, .pointer (some ⟨pp, 0, none⟩)) (.tail _ (.tail _ (.tail _ (.tail _ (.tail _ (.tail _ (.tail _ (.head _)))))))) ⟨⟨7, .data⟩, by simp, rfl, rfl⟩)
                        clear hρ hA hl hK hd hC
                        go_simp) hK
                  · refine qu_of rfl ?_
                    intro v w' A hA hC hd hl K hK
                    exact pure_step (.pointer (some ⟨pp, 1, none⟩)) (fun ρ hρ => by
                        have e165 : ρ (.tmp 165) = .pointer (some ⟨pp, 0, none⟩) := by rw [hρ]; exact (hA.1 8 _ 165 rfl rfl).trans (hd (8, .pointer (some ⟨pp, 0, none⟩)) (.tail _ (.tail _ (.tail _ (.tail _ (.tail _ (.tail _ (.tail _ (.tail _ (.head _))))))))) ⟨⟨8, .data⟩, by simp, rfl, rfl⟩)
                        clear hρ hA hl hK hd hC
                        go_simp) hK
                  · refine qu_of rfl ?_
                    intro v w' A hA hC hd hl K hK
                    have hcell := hC.2.1
                    exact pure_step (.pointer (some ⟨q, 0, none⟩)) (fun ρ hρ => by
                        have e166 : ρ (.tmp 166) = .pointer (some ⟨pp, 1, none⟩) := by rw [hρ]; exact (hA.1 9 _ 166 rfl rfl).trans (hd (9, .pointer (some ⟨pp, 1, none⟩)) (.tail _ (.tail _ (.tail _ (.tail _ (.tail _ (.tail _ (.tail _ (.tail _ (.tail _ (.head _)))))))))) ⟨⟨9, .data⟩, by simp, rfl, rfl⟩)
                        clear hρ hA hl hK hd hC
                        go_simp) hK
                  · refine qu_of rfl ?_
                    intro v w' A hA hC hd hl K hK
                    exact pure_step (.pointer (some ⟨q, 0, none⟩)) (fun ρ hρ => by
                        have e167 : ρ (.tmp 167) = .pointer (some ⟨q, 0, none⟩) := by rw [hρ]; exact (hA.1 10 _ 167 rfl rfl).trans (hd (10, .pointer (some ⟨q, 0, none⟩)) (.tail _ (.tail _ (.tail _ (.tail _ (.tail _ (.tail _ (.tail _ (.tail _ (.tail _ (.tail _ (.head _))))))))))) ⟨⟨10, .data⟩, by simp, rfl, rfl⟩)
                        clear hρ hA hl hK hd hC
                        go_simp) hK
                  · refine qu_of rfl ?_
                    intro v w' A hA hC hd hl K hK
                    exact pure_step (.pointer (some ⟨q, 33, none⟩)) (fun ρ hρ => by
                        have e168 : ρ (.tmp 168) = .pointer (some ⟨q, 0, none⟩) := by rw [hρ]; exact (hA.1 11 _ 168 rfl rfl).trans (hd (11, .pointer (some ⟨q, 0, none⟩)) (.tail _ (.tail _ (.tail _ (.tail _ (.tail _ (.tail _ (.tail _ (.tail _ (.tail _ (.tail _ (.tail _ (.head _)))))))))))) ⟨⟨11, .data⟩, by simp, rfl, rfl⟩)
                        clear hρ hA hl hK hd hC
                        go_simp) hK
                  · refine qu_of rfl ?_
                    intro v w' A hA hC hd hl K hK
                    have hcell := hC.2.2.2
                    exact pure_step (.pointer (some ⟨h, 0, none⟩)) (fun ρ hρ => by
                        have e169 : ρ (.tmp 169) = .pointer (some ⟨q, 33, none⟩) := by rw [hρ]; exact (hA.1 12 _ 169 rfl rfl).trans (hd (12, .pointer (some ⟨q, 33, none⟩)) (.tail _ (.tail _ (.tail _ (.tail _ (.tail _ (.tail _ (.tail _ (.tail _ (.tail _ (.tail _ (.tail _ (.tail _ (.head _))))))))))))) ⟨⟨12, .data⟩, by simp, rfl, rfl⟩)
                        clear hρ hA hl hK hd hC
                        go_simp) hK
                  · refine qu_of rfl ?_
                    intro v w' A hA hC hd hl K hK
                    exact pure_step (.pointer (some ⟨g, 0, none⟩)) (fun ρ hρ => by
                        have e163 : ρ (.tmp 163) = .pointer (some ⟨g, 0, none⟩) := by rw [hρ]; exact (hA.1 6 _ 163 rfl rfl).trans (hd (6, .pointer (some ⟨g, 0, none⟩)) (.tail _ (.tail _ (.tail _ (.tail _ (.tail _ (.tail _ (.head _))))))) ⟨⟨6, .data⟩, by simp, rfl, rfl⟩)
                        clear hρ hA hl hK hd hC
                        go_simp) hK
                  · refine qu_of rfl ?_
                    intro v w' A hA hC hd hl K hK
                    exact pure_step (.pointer (some ⟨g, 0, none⟩)) (fun ρ hρ => by
                        have e171 : ρ (.tmp 171) = .pointer (some ⟨g, 0, none⟩) := by rw [hρ]; exact (hA.1 14 _ 171 rfl rfl).trans (hd (14, .pointer (some ⟨g, 0, none⟩)) (.tail _ (.tail _ (.tail _ (.tail _ (.tail _ (.tail _ (.tail _ (.tail _ (.tail _ (.tail _ (.tail _ (.tail _ (.tail _ (.tail _ (.head _))))))))))))))) ⟨⟨14, .data⟩, by simp, rfl, rfl⟩)
                        clear hρ hA hl hK hd hC
                        go_simp) hK
                  · refine qu_of rfl ?_
                    intro v w' A hA hC hd hl K hK
                    exact pure_step (.pointer (some ⟨h, 0, none⟩)) (fun ρ hρ => by
                        have e170 : ρ (.tmp 170) = .pointer (some ⟨h, 0, none⟩) := by rw [hρ]; exact (hA.1 13 _ 170 rfl rfl).trans (hd (13, .pointer (some ⟨h, 0, none⟩)) (.tail _ (.tail _ (.tail _ (.tail _ (.tail _ (.tail _ (.tail _ (.tail _ (.tail _ (.tail _ (.tail _ (.tail _ (.tail _ (.head _)))))))))))))) ⟨⟨13, .data⟩, by simp, rfl, rfl⟩)
                        clear hρ hA hl hK hd hC
                        go_simp) hK
                  · refine qu_of rfl ?_
                    intro v w' A hA hC hd hl K hK
                    exact pure_step (.pointer (some ⟨h, 0, none⟩)) (fun ρ hρ => by
                        have e173 : ρ (.tmp 173) = .pointer (some ⟨h, 0, none⟩) := by rw [hρ]; exact (hA.1 17 _ 173 rfl rfl).trans (hd (17, .pointer (some ⟨h, 0, none⟩)) (.tail _ (.tail _ (.tail _ (.tail _ (.tail _ (.tail _ (.tail _ (.tail _ (.tail _ (.tail _ (.tail _ (.tail _ (.tail _ (.tail _ (.tail _ (.tail _ (.head _))))))))))))))))) ⟨⟨17, .data⟩, by simp, rfl, rfl⟩)
                        clear hρ hA hl hK hd hC
                        go_simp) hK
                · refine ⟨qu_of rfl ?_, fun x16 => ⟨qu_of rfl ?_, fun x19 => trivial⟩⟩
                  · intro v w' A hA hS hacc hd hl K hK
                    replace hS : (w'.cell? ⟨pp, 0, none⟩ = some (.pointer (some ⟨p, 0, none⟩)) ∧ w'.cell? ⟨pp, 1, none⟩ = some (.pointer (some ⟨q, 0, none⟩)) ∧ w'.cell? ⟨p, 33, none⟩ = some (.pointer (some ⟨g, 0, none⟩)) ∧ w'.cell? ⟨q, 33, none⟩ = some (.pointer (some ⟨h, 0, none⟩))) ∧ Is w' g sf ∧ Ref w' h mb s' ∧ Only (fun b => b = g ∨ b = h) we w' := hS
                    have hC := hS.1
                    have hfz := (O.mode hS.2.1).2
                    have hcz := (O.mode hS.2.1).1
                    refine new_stepS (w'' := w'.setCell ⟨g, 0, none⟩ (.int .i64 0)) (fun ρ hρ => by
                        have hcst : ∀ x, ρ (.const x) = x := fun x => by rw [hρ]; rfl
                        have e172 : ρ (.tmp 172) = .pointer (some ⟨g, 0, none⟩) := by rw [hρ]; exact (hA.1 15 _ 172 rfl rfl).trans (hd (15, .pointer (some ⟨g, 0, none⟩)) (.tail _ (.tail _ (.tail _ (.tail _ (.tail _ (.tail _ (.tail _ (.tail _ (.tail _ (.tail _ (.tail _ (.tail _ (.tail _ (.tail _ (.tail _ (.head _)))))))))))))))) ⟨⟨15, .data⟩, by simp, rfl, rfl⟩)
                        clear hρ hA hl hK hd hS hacc
                        go_simp
                        ) ?_
                    have h8 : Is (w'.setCell ⟨g, 0, none⟩ (.int .i64 0)) g { sf with mode := 0 } := O.setMode 0 hS.2.1 (by decide)
                    exact hK _ _ ⟨rfl, ⟨(cell_far _ (fun e => HNE.out.2.1.2.2.2.2.1 (Eq.symm e))).trans hC.1, (cell_far _ (fun e => HNE.out.2.1.2.2.2.2.1 (Eq.symm e))).trans hC.2.1, (cell_far _ (fun e => HNE.out.1.1 e)).trans hC.2.2.1, (cell_far _ (fun e => HNE.out.2.1.2.2.2.1 (Eq.symm e))).trans hC.2.2.2⟩, h8, hS.2.2.1.only (Only.setCell (S := S1 g) _ (show S1 g g from rfl) _) (fun e => HNE.out.2.1.2.1 (Eq.symm e)) (fun e => HNE.out.2.1.2.2.1 (Eq.symm e)), hS.2.2.2.trans (Only.setCell _ (Or.inl rfl) _)⟩
                  · intro v w' A hA hS hacc hd hl K hK
                    replace hS : x16 = undef ∧ (w'.cell? ⟨pp, 0, none⟩ = some (.pointer (some ⟨p, 0, none⟩)) ∧ w'.cell? ⟨pp, 1, none⟩ = some (.pointer (some ⟨q, 0, none⟩)) ∧ w'.cell? ⟨p, 33, none⟩ = some (.pointer (some ⟨g, 0, none⟩)) ∧ w'.cell? ⟨q, 33, none⟩ = some (.pointer (some ⟨h, 0, none⟩))) ∧ Is w' g { sf with mode := 0 } ∧ Ref w' h mb s' ∧ Only (fun b => b = g ∨ b = h) we w' := hS
                    have hC := hS.2.1
                    have hfz : w'.frozen? ⟨h, 0, none⟩ = false := hS.2.2.2.1.blk.free 0
                    have hcz : w'.cell? ⟨h, 0, none⟩ = some (.int .i64 (s'.mode : Int)) := hS.2.2.2.1.blk.cellTab 0 (by decide)
                    refine new_stepS (w'' := w'.setCell ⟨h, 0, none⟩ (.int .i64 0)) (fun ρ hρ => by
                        have hcst : ∀ x, ρ (.const x) = x := fun x => by rw [hρ]; rfl
                        have e174 : ρ (.tmp 174) = .pointer (some ⟨h, 0, none⟩) := by rw [hρ]; exact (hA.1 18 _ 174 rfl rfl).trans (hd (18, .pointer (some ⟨h, 0, none⟩)) (.tail _ (.tail _ (.tail _ (.tail _ (.tail _ (.tail _ (.tail _ (.tail _ (.tail _ (.tail _ (.tail _ (.tail _ (.tail _ (.tail _ (.tail _ (.tail _ (.tail _ (.head _)))))))))))))))))) ⟨⟨18, .data⟩, by simp, rfl, rfl⟩)
                        clear hρ hA hl hK hd hS hacc
                        go_simp
                        ) ?_
                    exact hK _ _ ⟨rfl, ⟨(cell_far _ (fun e => HNE.out.2.2.2.2.2.2.2.2.1 e)).trans hC.1, (cell_far _ (fun e => HNE.out.2.2.2.2.2.2.2.2.1 e)).trans hC.2.1, (cell_far _ (fun e => HNE.out.1.2.2.1 e)).trans hC.2.2.1, (cell_far _ (fun e => HNE.out.2.2.2.2.2.2.1 e)).trans hC.2.2.2⟩, O.keep hS.2.2.1 (Only.setCell (S := S1 h) _ (show S1 h h from rfl) _) (fun e => HNE.out.2.1.2.1 e), hS.2.2.2.2.trans (Only.setCell _ (Or.inr rfl) _)⟩
                intro x16 x19 v wE hSE hacc hqv
                replace hSE : x19 = undef ∧ (wE.cell? ⟨pp, 0, none⟩ = some (.pointer (some ⟨p, 0, none⟩)) ∧ wE.cell? ⟨pp, 1, none⟩ = some (.pointer (some ⟨q, 0, none⟩)) ∧ wE.cell? ⟨p, 33, none⟩ = some (.pointer (some ⟨g, 0, none⟩)) ∧ wE.cell? ⟨q, 33, none⟩ = some (.pointer (some ⟨h, 0, none⟩))) ∧ Is wE g { sf with mode := 0 } ∧ Only (fun b => b = g ∨ b = h) we wE := hSE
                have f0 : v 0 = .pointer (some ⟨pp, 0, none⟩) := hqv (0, .pointer (some ⟨pp, 0, none⟩)) (.head _)
                have f1 : v 1 = .pointer (some ⟨pp, 0, none⟩) := hqv (1, .pointer (some ⟨pp, 0, none⟩)) (.tail _ (.head _))
                have f2 : v 2 = .pointer (some ⟨pp, 0, none⟩) := hqv (2, .pointer (some ⟨pp, 0, none⟩)) (.tail _ (.tail _ (.head _)))
                have f3 : v 3 = .pointer (some ⟨p, 0, none⟩) := hqv (3, .pointer (some ⟨p, 0, none⟩)) (.tail _ (.tail _ (.tail _ (.head _))))
                have f4 : v 4 = .pointer (some ⟨p, 0, none⟩) := hqv (4, .pointer (some ⟨p, 0, none⟩)) (.tail _ (.tail _ (.tail _ (.tail _ (.head _)))))
                have f5 : v 5 = .pointer (some ⟨p, 33, none⟩) := hqv (5, .pointer (some ⟨p, 33, none⟩)) (.tail _ (.tail _ (.tail _ (.tail _ (.tail _ (.head _))))))
                have f6 : v 6 = .pointer (some ⟨g, 0, none⟩) := hqv (6, .pointer (some ⟨g, 0, none⟩)) (.tail _ (.tail _ (.tail _ (.tail _ (.tail _ (.tail _ (.head _)))))))
                have f7 : v 7 = .pointer (some ⟨pp, 0, none⟩) := hqv (7, .pointer (some ⟨pp, 0, none⟩)) (.tail _ (.tail _ (.tail _ (.tail _ (.tail _ (.tail _ (.tail _ (.head _))))))))
                have f8 : v 8 = .pointer (some ⟨pp, 0, none⟩) := hqv (8, .pointer (some ⟨pp, 0, none⟩)) (.tail _ (.tail _ (.tail _ (.tail _ (.tail _ (.tail _ (.tail _ (.tail _ (.head _)))))))))
                have f9 : v 9 = .pointer (some ⟨pp, 1, none⟩) := hqv (9, .pointer (some ⟨pp, 1, none⟩)) (.tail _ (.tail _ (.tail _ (.tail _ (.tail _ (.tail _ (.tail _ (.tail _ (.tail _ (.head _))))))))))
                have f10 : v 10 = .pointer (some ⟨q, 0, none⟩) := hqv (10, .pointer (some ⟨q, 0, none⟩)) (.tail _ (.tail _ (.tail _ (.tail _ (.tail _ (.tail _ (.tail _ (.tail _ (.tail _ (.tail _ (.head _)))))))))))
                have f11 : v 11 = .pointer (some ⟨q, 0, none⟩) := hqv (11, .pointer (some ⟨q, 0, none⟩)) (.tail _ (.tail _ (.tail _ (.tail _ (.tail _ (.tail _ (.tail _ (.tail _ (.tail _ (.tail _ (.tail _ (.head _))))))))))))
                have f12 : v 12 = .pointer (some ⟨q, 33, none⟩) := hqv (12, .pointer (some ⟨q, 33, none⟩)) (.tail _ (.tail _ (.tail _ (.tail _ (.tail _ (.tail _ (.tail _ (.tail _ (.tail _ (.tail _ (.tail _ (.tail _ (.head _)))))))))))))
                have f13 : v 13 = .pointer (some ⟨h, 0, none⟩) := hqv (13, .pointer (some ⟨h, 0, none⟩)) (.tail _ (.tail _ (.tail _ (.tail _ (.tail _ (.tail _ (.tail _ (.tail _ (.tail _ (.tail _ (.tail _ (.tail _ (.tail _ (.head _))))))))))))))
                have f14 : v 14 = .pointer (some ⟨g, 0, none⟩) := hqv (14, .pointer (some ⟨g, 0, none⟩)) (.tail _ (.tail _ (.tail _ (.tail _ (.tail _ (.tail _ (.tail _ (.tail _ (.tail _ (.tail _ (.tail _ (.tail _ (.tail _ (.tail _ (.head _)))))))))))))))
                have f15 : v 15 = .pointer (some ⟨g, 0, none⟩) := hqv (15, .pointer (some ⟨g, 0, none⟩)) (.tail _ (.tail _ (.tail _ (.tail _ (.tail _ (.tail _ (.tail _ (.tail _ (.tail _ (.tail _ (.tail _ (.tail _ (.tail _ (.tail _ (.tail _ (.head _))))))))))))))))
                have f16 : v 16 = x16 := hacc (16, x16) (by simp)
                have f17 : v 17 = .pointer (some ⟨h, 0, none⟩) := hqv (17, .pointer (some ⟨h, 0, none⟩)) (.tail _ (.tail _ (.tail _ (.tail _ (.tail _ (.tail _ (.tail _ (.tail _ (.tail _ (.tail _ (.tail _ (.tail _ (.tail _ (.tail _ (.tail _ (.tail _ (.head _)))))))))))))))))
                have f18 : v 18 = .pointer (some ⟨h, 0, none⟩) := hqv (18, .pointer (some ⟨h, 0, none⟩)) (.tail _ (.tail _ (.tail _ (.tail _ (.tail _ (.tail _ (.tail _ (.tail _ (.tail _ (.tail _ (.tail _ (.tail _ (.tail _ (.tail _ (.tail _ (.tail _ (.tail _ (.head _))))))))))))))))))
                have f19 : v 19 = x19 := hacc (19, x19) (by simp)
                clear hacc hqv
                simp only [putAll, Act.put, List.setIfInBounds_toArray, List.set_cons_zero, List.set_cons_succ, Nat.zero_add, Nat.reduceAdd]
                rw [f0, f1, f2, f3, f4, f5, f6, f7, f8, f9, f10, f11, f12, f13, f14, f15, f17, f18]
                clear f0 f1 f2 f3 f4 f5 f6 f7 f8 f9 f10 f11 f12 f13 f14 f15 f16 f17 f18 f19
                have hI9 := hSE.2.2.1
                have hO9 := hSE.2.2.2
                clear hSE
                go_wp2_with fail
                go_ret
                exact HFIN.out _ hO9 hI9
end Go.Proofs.YtgpofoggfifnjaaGreatDoor.Ha
