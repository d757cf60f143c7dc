/-
Package reloc: pairValue, value.
-/
import Derived.Test.YtegaiphhoinilaaRkB
namespace Go.Proofs.Ytegaiphhoinilaa.Rc
open Go Go.RowKit

/-- the upper one's value -/
def pairO (ss : List Nat) (rs : List Re) (B : Nat) (r : Re) : Option Nat := if r.a = 0 then hiP ss B (saP ss B r) rs else none
def pairC : Option Nat → Value
  | some v => .tuple #[.int .u32 (v : Int), .int .i64 0]
  | none => .tuple #[.int .u32 0, .int .i64 13]
theorem hi_hit (ss : List Nat) (B sa : Nat) (h : Re) (l : List Re) (ht : h.t = 23) (hp : atP B h = sa) : hiP ss B sa (h :: l) = some (wayP ss B h) := if_pos ⟨ht, hp⟩
theorem hi_miss (ss : List Nat) (B sa : Nat) (h : Re) (l : List Re) (hn : ¬(h.t = 23 ∧ atP B h = sa)) : hiP ss B sa (h :: l) = hiP ss B sa l := if_neg hn
set_option maxRecDepth 100000 in
set_option maxHeartbeats 8000000 in
theorem pair_any (ss : List Nat) (rs : List Re) (en B : Nat) (sg rl sy sp : Sl) (r : Re) (w : World) (hS : SlN w sy ss) (hR : SlR w rl rs) (hr : r.Wf) (hB : B < 4294967296) :
    Calls Try.prog 54 #[.agg (prC en B sg rl sy sp), .agg (reC r)] w fun e w' => e = .returned (pairC (pairO ss rs B r)) ∧ Below w.heap.size w w' := by
  obtain ⟨u, hu, hP, hRR, hb, hz⟩ := two_new w en B sg rl sy sp r
  have r3 : u.cell? ⟨w.heap.size + 1, 3, none⟩ = some (.int .u32 (r.a : Int)) := hRR.cell 3
  obtain ⟨res, hres⟩ : ∃ res, res = pairO ss rs B r := ⟨_, rfl⟩
  rw [← hres]
  by_cases ha : r.a = 0
  · rw [ha] at r3
    have HR0 : Hid (hiP ss B (saP ss B r) (rs.drop 0) = res) := Lib.hid (by rw [List.drop_zero, hres]; exact (if_pos ha).symm)
    obtain ⟨A1, n1, c1⟩ := sg
    obtain ⟨A2, n2, c2⟩ := rl
    obtain ⟨A3, n3, c3⟩ := sy
    obtain ⟨A4, n4, c4⟩ := sp
    have hm : rs.length = n2 := hR.1
    have h47 : n2 ≤ 140737488355328 := hR.2.2.1.2
    have HS := Lib.hid (hS.below hb)
    have HRS := Lib.hid (hR.below hb)
    have KT : Hid (∀ W, Below u.heap.size u W → Calls Try.prog 53 #[.agg (prC en B ⟨A1, n1, c1⟩ ⟨A2, n2, c2⟩ ⟨A3, n3, c3⟩ ⟨A4, n4, c4⟩), .agg (reC r)] W fun e w' => e = .returned (.int .u32 ((saP ss B r : Nat) : Int)) ∧ Below W.heap.size W w') := Lib.hid (fun W hW => target_any ss en B _ _ _ _ r W (HS.out.below hW) hr hB)
    have hc2 : u.cell? ⟨w.heap.size, 2, none⟩ = some (.slice A2 n2 c2) := hP.cell 2
    have HB := Lib.hid hb
    have HP0 := Lib.hid hP
    have HRR := Lib.hid hRR
    have HZ := Lib.hid hz
    clear hres hS hR hb hP hRR hz ha
    generalize saP ss B r = sa at *
    go_enter Try.func54, Try.ntmps54
    go_upto_region 1 with fail
    replace hu := hu.symm
    change _ = u at hu
    rw [hu]
    clear hu
    obtain ⟨gR, hgR⟩ : ∃ g, g = w.heap.size + 1 := ⟨_, rfl⟩
    obtain ⟨gP, hgP⟩ : ∃ g, g = w.heap.size := ⟨_, rfl⟩
    rw [← hgR] at HRR r3 ⊢
    rw [← hgP] at HP0 hc2 ⊢
    clear hgR hgP
    go_wp2_with fail
    go_loopw [15] (fun ct wr => ∃ i : Nat, i ≤ n2 ∧ ct = .int .i64 (i : Int) ∧ Hid (hiP ss B sa (rs.drop i) = res) ∧ Below u.heap.size u wr) (fun ct _ => (n2 - (intOf ct)).toNat)
    case atStart => exact ⟨0, Nat.zero_le _, rfl, HR0, Below.refl _ _⟩
    case round =>
      obtain ⟨i, hi, rfl, HH0, hb⟩ := hrel
      by_cases hlt : i < n2
      · have di : (i : Int) < (n2 : Int) := by omega
        have hS2 := HRS.out.below hb
        obtain ⟨bb, oo, hA, hbl, hcc⟩ := hS2.2.2.2 (by show 0 < n2; omega)
        replace hA : A2 = some ⟨bb, oo, none⟩ := hA
        subst hA
        have hwf := getD_all (P := Re.Wf) (d := re0) hS2.2.1 (j := i) (by omega)
        have e0 : wr.cell? ⟨bb, oo + i * 4, none⟩ = some (.int .u32 ((rs.getD i re0).p : Int)) := hcc i 0 hlt (by decide)
        have e1 : wr.cell? ⟨bb, oo + i * 4 + 1, none⟩ = some (.int .i64 (rs.getD i re0).t) := hcc i 1 hlt (by decide)
        have e2 : wr.cell? ⟨bb, oo + i * 4 + 2, none⟩ = some (.int .i64 (rs.getD i re0).s) := hcc i 2 hlt (by decide)
        have e3 : wr.cell? ⟨bb, oo + i * 4 + 3, none⟩ = some (.int .u32 ((rs.getD i re0).a : Int)) := hcc i 3 hlt (by decide)
        have hdr := drop_re rs i (by omega)
        generalize rs.getD i re0 = h at *
        obtain ⟨p, t, s, a⟩ := h
        dsimp only at e0 e1 e2 e3
        have hat := fun W => at_re bb oo n2 c2 i di W
        have HDR := Lib.hid hdr
        have HWF := Lib.hid hwf
        have HB2 := Lib.hid hb
        clear hcc hS2 hdr hb hwf
        go_upto_region 6 with fail
        obtain ⟨wa, hwa, hH, hbw, hsz⟩ := one_new wr #[.int .u32 (p : Int), .int .i64 t, .int .i64 s, .int .u32 (a : Int)] 43
        rw [← hwa]
        obtain ⟨gH, hgH0⟩ : ∃ g, g = wr.heap.size := ⟨_, rfl⟩
        rw [← hgH0] at hH ⊢
        have hgH : gH < wa.heap.size := hH.lt
        have hh1 : wa.cell? ⟨gH, 1, none⟩ = some (.int .i64 t) := hH.cell 1
        have HH : Hid (Has wa gH 43 (reC ⟨p, t, s, a⟩)) := Lib.hid hH
        have HBA : Hid (Below u.heap.size u wa) := Lib.hid (HB2.out.trans (hbw.mono HB2.out.size))
        have HP := Lib.hid (HP0.out.after HBA.out)
        have HR := Lib.hid (HRR.out.after HBA.out)
        clear hwa hH hbw hsz hgH0 e0 e1 e2 e3 hat
        have KH : Hid (∀ W, Calls Try.prog 43 #[.agg (prC en B ⟨A1, n1, c1⟩ ⟨some ⟨bb, oo, none⟩, n2, c2⟩ ⟨A3, n3, c3⟩ ⟨A4, n4, c4⟩), .agg (reC ⟨p, t, s, a⟩)] W fun e w' => e = .returned (.int .u32 ((atP B ⟨p, t, s, a⟩ : Nat) : Int)) ∧ Below W.heap.size W w') := Lib.hid (fun W => address_any en B _ _ _ _ ⟨p, t, s, a⟩ W hB HWF.out.p)
        by_cases t1 : t = 23
        · have f1 : (t == 23) = true := by simp only [beq_iff_eq]; exact t1
          have HT1 := Lib.hid t1
          clear t1
          obtain ⟨y, hy⟩ : ∃ y, y = atP B ⟨p, t, s, a⟩ := ⟨_, rfl⟩
          rw [← hy] at KH
          by_cases t2 : y = sa
          · have HE : Hid (res = some (wayP ss B ⟨p, t, s, a⟩)) := Lib.hid (by rw [← HH0.out, HDR.out]; exact hi_hit ss B sa _ _ HT1.out (by rw [← hy]; exact t2))
            have f2 : ((y : Int) == (sa : Int)) = true := by simp only [beq_iff_eq]; omega
            clear t2 hy
            refine region_quiet_all (Below wa.heap.size wa) (by kernel_rfl) (by kernel_rfl) (below_drewN (Below.refl _ _) 1) ?_
            refine WQ.out ?_
            refine WQ.lift (wpQ_val rfl (.pointer (some ⟨gH, 1, none⟩)) (fun w' _ => by go_simp)) ?_
            simp only [Act.put, List.setIfInBounds_toArray, List.set_cons_zero, List.set_cons_succ]
            refine WQ.lift (wpQ_load 3 (.tmp 19) rfl rfl (.pointer (some ⟨gH, 1, none⟩)) rfl (.int .i64 t) (fun w' hC => by
                have hcell : w'.cell? ⟨gH, 1, none⟩ = some (.int .i64 t) := (hC.cell (p := ⟨gH, 1, none⟩) hgH).trans hh1
                go_simp)) ?_
            simp only [Act.put, List.setIfInBounds_toArray, List.set_cons_zero, List.set_cons_succ]
            refine WQ.lift (wpQ_val rfl (.bool true) (fun w' hC => by go_simp)) ?_
            simp only [Act.put, List.setIfInBounds_toArray, List.set_cons_zero, List.set_cons_succ]
            refine WQ.lift (wpQ_move _ rfl rfl (.bool true) rfl) ?_
            simp only [Act.put, List.setIfInBounds_toArray, List.set_cons_zero, List.set_cons_succ]
            refine WQ.lift (wpQ_load 64 (.tmp 2) rfl rfl (.pointer (some ⟨gP, 0, none⟩)) rfl (.agg (prC en B ⟨A1, n1, c1⟩ ⟨some ⟨bb, oo, none⟩, n2, c2⟩ ⟨A3, n3, c3⟩ ⟨A4, n4, c4⟩)) (fun w' hC => load_prog (HP.out.after hC))) ?_
            simp only [Act.put, List.setIfInBounds_toArray, List.set_cons_zero, List.set_cons_succ]
            refine WQ.lift (wpQ_load 43 (.tmp 7) rfl rfl (.pointer (some ⟨gH, 0, none⟩)) rfl (.agg (reC ⟨p, t, s, a⟩)) (fun w' hC => load_rela (HH.out.after hC))) ?_
            simp only [Act.put, List.setIfInBounds_toArray, List.set_cons_zero, List.set_cons_succ]
            refine WQ.lift (wpQ_fn 43 _ _ rfl rfl #[.agg (prC en B ⟨A1, n1, c1⟩ ⟨some ⟨bb, oo, none⟩, n2, c2⟩ ⟨A3, n3, c3⟩ ⟨A4, n4, c4⟩), .agg (reC ⟨p, t, s, a⟩)] rfl (fun _ => by go_simp) (.int .u32 (y : Int)) (fun w' hC => (KH.out w').mono fun e w'' ⟨he, hb⟩ => ⟨he, below_class hC hb⟩)) ?_
            simp only [Act.put, List.setIfInBounds_toArray, List.set_cons_zero, List.set_cons_succ]
            refine WQ.lift (wpQ_load 64 (.tmp 2) rfl rfl (.pointer (some ⟨gP, 0, none⟩)) rfl (.agg (prC en B ⟨A1, n1, c1⟩ ⟨some ⟨bb, oo, none⟩, n2, c2⟩ ⟨A3, n3, c3⟩ ⟨A4, n4, c4⟩)) (fun w' hC => load_prog (HP.out.after hC))) ?_
            simp only [Act.put, List.setIfInBounds_toArray, List.set_cons_zero, List.set_cons_succ]
            refine WQ.lift (wpQ_load 43 (.tmp 3) rfl rfl (.pointer (some ⟨gR, 0, none⟩)) rfl (.agg (reC r)) (fun w' hC => load_rela (HR.out.after hC))) ?_
            simp only [Act.put, List.setIfInBounds_toArray, List.set_cons_zero, List.set_cons_succ]
            refine WQ.lift (wpQ_fn 53 _ _ rfl rfl #[.agg (prC en B ⟨A1, n1, c1⟩ ⟨some ⟨bb, oo, none⟩, n2, c2⟩ ⟨A3, n3, c3⟩ ⟨A4, n4, c4⟩), .agg (reC r)] rfl (fun _ => by go_simp) (.int .u32 (sa : Int)) (fun w' hC => (KT.out w' (HBA.out.trans (hC.mono HBA.out.size))).mono fun e w'' ⟨he, hb⟩ => ⟨he, below_class hC hb⟩)) ?_
            simp only [Act.put, List.setIfInBounds_toArray, List.set_cons_zero, List.set_cons_succ]
            refine WQ.lift (wpQ_val rfl (.bool true) (fun w' hC => by go_simp)) ?_
            simp only [Act.put, List.setIfInBounds_toArray, List.set_cons_zero, List.set_cons_succ]
            refine WQ.lift (wpQ_pick _ _ _ rfl rfl true rfl (.bool true) rfl) ?_
            simp only [Act.put, List.setIfInBounds_toArray, List.set_cons_zero, List.set_cons_succ]
            refine WQ.mk (wpQuiet_nil ?_)
            intro u2 hC
            have HC := Lib.hid hC
            have kD : ∀ W, Below wa.heap.size wa W → Calls Try.prog 55 #[.agg #[.int .u32 (en : Int), .slice A1 n1 c1, .slice (some ⟨bb, oo, none⟩) n2 c2, .slice A3 n3 c3, .int .u32 (B : Int), .slice A4 n4 c4], .agg #[.int .u32 (p : Int), .int .i64 t, .int .i64 s, .int .u32 (a : Int)]] W fun e w' => e = .returned (.int .u32 ((wayP ss B ⟨p, t, s, a⟩ : Nat) : Int)) ∧ Below W.heap.size W w' := fun W hW => distance_any ss en B ⟨A1, n1, c1⟩ ⟨some ⟨bb, oo, none⟩, n2, c2⟩ ⟨A3, n3, c3⟩ ⟨A4, n4, c4⟩ ⟨p, t, s, a⟩ W ((HS.out.below HBA.out).below hW) HWF.out hB
            have hP2 := HP.out.after hC
            have hH2 := HH.out.after hC
            have q0 : u2.cell? ⟨gP, 0, none⟩ = some (.int .u32 (en : Int)) := (hP2).cell 0
            have q1 : u2.cell? ⟨gP, 1, none⟩ = some (.slice A1 n1 c1) := (hP2).cell 1
            have q2 : u2.cell? ⟨gP, 2, none⟩ = some (.slice (some ⟨bb, oo, none⟩) n2 c2) := (hP2).cell 2
            have q3 : u2.cell? ⟨gP, 3, none⟩ = some (.slice A3 n3 c3) := (hP2).cell 3
            have q4 : u2.cell? ⟨gP, 4, none⟩ = some (.int .u32 (B : Int)) := (hP2).cell 4
            have q5 : u2.cell? ⟨gP, 5, none⟩ = some (.slice A4 n4 c4) := (hP2).cell 5
            have k0 : u2.cell? ⟨gH, 0, none⟩ = some (.int .u32 (p : Int)) := hH2.cell 0
            have k1 : u2.cell? ⟨gH, 1, none⟩ = some (.int .i64 t) := hH2.cell 1
            have k2 : u2.cell? ⟨gH, 2, none⟩ = some (.int .i64 s) := hH2.cell 2
            have k3 : u2.cell? ⟨gH, 3, none⟩ = some (.int .u32 (a : Int)) := hH2.cell 3
            replace kD := kD u2 hC
            generalize wayP ss B ⟨p, t, s, a⟩ = v at *
            clear hP2 hH2 hC hh1 f1 f2
            go_wp2_with (go_at_call 55; with_reducible refine kD.mono ?_; rintro e w2 ⟨rfl, hb2⟩)
            first | go_ret | go_ret2
            rw [HE.out]
            exact ⟨rfl, HB.out.trans ((HBA.out.trans ((HC.out.trans (hb2.mono HC.out.size)).mono HBA.out.size)).mono HB.out.size)⟩
          · have HE : Hid (hiP ss B sa (rs.drop (i + 1)) = res) := Lib.hid (by rw [← HH0.out, HDR.out]; exact (hi_miss ss B sa _ _ (fun hh => t2 (by rw [hy]; exact hh.2))).symm)
            have f2 : ((y : Int) == (sa : Int)) = false := by simp only [beq_eq_false_iff_ne, ne_eq]; omega
            clear t2 hy
            refine region_quiet_all (Below wa.heap.size wa) (by kernel_rfl) (by kernel_rfl) (below_drewN (Below.refl _ _) 1) ?_
            refine WQ.out ?_
            refine WQ.lift (wpQ_val rfl (.pointer (some ⟨gH, 1, none⟩)) (fun w' _ => by go_simp)) ?_
            simp only [Act.put, List.setIfInBounds_toArray, List.set_cons_zero, List.set_cons_succ]
            refine WQ.lift (wpQ_load 3 (.tmp 19) rfl rfl (.pointer (some ⟨gH, 1, none⟩)) rfl (.int .i64 t) (fun w' hC => by
                have hcell : w'.cell? ⟨gH, 1, none⟩ = some (.int .i64 t) := (hC.cell (p := ⟨gH, 1, none⟩) hgH).trans hh1
                go_simp)) ?_
            simp only [Act.put, List.setIfInBounds_toArray, List.set_cons_zero, List.set_cons_succ]
            refine WQ.lift (wpQ_val rfl (.bool true) (fun w' hC => by go_simp)) ?_
            simp only [Act.put, List.setIfInBounds_toArray, List.set_cons_zero, List.set_cons_succ]
            refine WQ.lift (wpQ_move _ rfl rfl (.bool true) rfl) ?_
            simp only [Act.put, List.setIfInBounds_toArray, List.set_cons_zero, List.set_cons_succ]
            refine WQ.lift (wpQ_load 64 (.tmp 2) rfl rfl (.pointer (some ⟨gP, 0, none⟩)) rfl (.agg (prC en B ⟨A1, n1, c1⟩ ⟨some ⟨bb, oo, none⟩, n2, c2⟩ ⟨A3, n3, c3⟩ ⟨A4, n4, c4⟩)) (fun w' hC => load_prog (HP.out.after hC))) ?_
            simp only [Act.put, List.setIfInBounds_toArray, List.set_cons_zero, List.set_cons_succ]
            refine WQ.lift (wpQ_load 43 (.tmp 7) rfl rfl (.pointer (some ⟨gH, 0, none⟩)) rfl (.agg (reC ⟨p, t, s, a⟩)) (fun w' hC => load_rela (HH.out.after hC))) ?_
            simp only [Act.put, List.setIfInBounds_toArray, List.set_cons_zero, List.set_cons_succ]
            refine WQ.lift (wpQ_fn 43 _ _ rfl rfl #[.agg (prC en B ⟨A1, n1, c1⟩ ⟨some ⟨bb, oo, none⟩, n2, c2⟩ ⟨A3, n3, c3⟩ ⟨A4, n4, c4⟩), .agg (reC ⟨p, t, s, a⟩)] rfl (fun _ => by go_simp) (.int .u32 (y : Int)) (fun w' hC => (KH.out w').mono fun e w'' ⟨he, hb⟩ => ⟨he, below_class hC hb⟩)) ?_
            simp only [Act.put, List.setIfInBounds_toArray, List.set_cons_zero, List.set_cons_succ]
            refine WQ.lift (wpQ_load 64 (.tmp 2) rfl rfl (.pointer (some ⟨gP, 0, none⟩)) rfl (.agg (prC en B ⟨A1, n1, c1⟩ ⟨some ⟨bb, oo, none⟩, n2, c2⟩ ⟨A3, n3, c3⟩ ⟨A4, n4, c4⟩)) (fun w' hC => load_prog (HP.out.after hC))) ?_
            simp only [Act.put, List.setIfInBounds_toArray, List.set_cons_zero, List.set_cons_succ]
            refine WQ.lift (wpQ_load 43 (.tmp 3) rfl rfl (.pointer (some ⟨gR, 0, none⟩)) rfl (.agg (reC r)) (fun w' hC => load_rela (HR.out.after hC))) ?_
            simp only [Act.put, List.setIfInBounds_toArray, List.set_cons_zero, List.set_cons_succ]
            refine WQ.lift (wpQ_fn 53 _ _ rfl rfl #[.agg (prC en B ⟨A1, n1, c1⟩ ⟨some ⟨bb, oo, none⟩, n2, c2⟩ ⟨A3, n3, c3⟩ ⟨A4, n4, c4⟩), .agg (reC r)] rfl (fun _ => by go_simp) (.int .u32 (sa : Int)) (fun w' hC => (KT.out w' (HBA.out.trans (hC.mono HBA.out.size))).mono fun e w'' ⟨he, hb⟩ => ⟨he, below_class hC hb⟩)) ?_
            simp only [Act.put, List.setIfInBounds_toArray, List.set_cons_zero, List.set_cons_succ]
            refine WQ.lift (wpQ_val rfl (.bool false) (fun w' hC => by go_simp)) ?_
            simp only [Act.put, List.setIfInBounds_toArray, List.set_cons_zero, List.set_cons_succ]
            refine WQ.lift (wpQ_pick _ _ _ rfl rfl true rfl (.bool false) rfl) ?_
            simp only [Act.put, List.setIfInBounds_toArray, List.set_cons_zero, List.set_cons_succ]
            refine WQ.mk (wpQuiet_nil ?_)
            intro u2 hC
            have HC := Lib.hid hC
            clear hC hh1
            go_wp2_with fail
            go_roundw
            case rel => exact ⟨i + 1, hlt, by go_num, HE, HBA.out.trans (HC.out.mono HBA.out.size)⟩
            case measure => simp [intOf] <;> omega
        · have f1 : (t == 23) = false := by simp only [beq_eq_false_iff_ne, ne_eq]; exact t1
          have HE : Hid (hiP ss B sa (rs.drop (i + 1)) = res) := Lib.hid (by rw [← HH0.out, HDR.out]; exact (hi_miss ss B sa _ _ (fun hh => t1 hh.1)).symm)
          clear t1
          refine region_quiet_all (Below wa.heap.size wa) (by kernel_rfl) (by kernel_rfl) (below_drewN (Below.refl _ _) 1) ?_
          refine WQ.out ?_
          refine WQ.lift (wpQ_val rfl (.pointer (some ⟨gH, 1, none⟩)) (fun w' _ => by go_simp)) ?_
          simp only [Act.put, List.setIfInBounds_toArray, List.set_cons_zero, List.set_cons_succ]
          refine WQ.lift (wpQ_load 3 (.tmp 19) rfl rfl (.pointer (some ⟨gH, 1, none⟩)) rfl (.int .i64 t) (fun w' hC => by
              have hcell : w'.cell? ⟨gH, 1, none⟩ = some (.int .i64 t) := (hC.cell (p := ⟨gH, 1, none⟩) hgH).trans hh1
              go_simp)) ?_
          simp only [Act.put, List.setIfInBounds_toArray, List.set_cons_zero, List.set_cons_succ]
          refine WQ.lift (wpQ_val rfl (.bool false) (fun w' hC => by go_simp)) ?_
          simp only [Act.put, List.setIfInBounds_toArray, List.set_cons_zero, List.set_cons_succ]
          refine WQ.lift (wpQ_move _ rfl rfl (.bool false) rfl) ?_
          simp only [Act.put, List.setIfInBounds_toArray, List.set_cons_zero, List.set_cons_succ]
          refine WQ.skip rfl ?_
          simp only [Act.put, List.setIfInBounds_toArray, List.set_cons_zero, List.set_cons_succ]
          refine WQ.skip rfl ?_
          simp only [Act.put, List.setIfInBounds_toArray, List.set_cons_zero, List.set_cons_succ]
          refine WQ.skip rfl ?_
          simp only [Act.put, List.setIfInBounds_toArray, List.set_cons_zero, List.set_cons_succ]
          refine WQ.skip rfl ?_
          simp only [Act.put, List.setIfInBounds_toArray, List.set_cons_zero, List.set_cons_succ]
          refine WQ.skip rfl ?_
          simp only [Act.put, List.setIfInBounds_toArray, List.set_cons_zero, List.set_cons_succ]
          refine WQ.skip rfl ?_
          simp only [Act.put, List.setIfInBounds_toArray, List.set_cons_zero, List.set_cons_succ]
          refine WQ.skip rfl ?_
          simp only [Act.put, List.setIfInBounds_toArray, List.set_cons_zero, List.set_cons_succ]
          refine WQ.lift (wpQ_pick _ _ _ rfl rfl false rfl (.bool false) rfl) ?_
          simp only [Act.put, List.setIfInBounds_toArray, List.set_cons_zero, List.set_cons_succ]
          refine WQ.mk (wpQuiet_nil ?_)
          intro u2 hC
          have HC := Lib.hid hC
          clear hC hh1
          go_wp2_with fail
          go_roundw
          case rel => exact ⟨i + 1, hlt, by go_num, HE, HBA.out.trans (HC.out.mono HBA.out.size)⟩
          case measure => simp [intOf] <;> omega
      · have him : i = n2 := by omega
        have di : ¬ (i : Int) < (n2 : Int) := by omega
        have e : res = none := by
          rw [← HH0.out, List.drop_eq_nil_of_le (by omega)]; rfl
        subst e
        have HB2 := Lib.hid hb
        clear hb
        go_wp2_with fail
        first | go_ret | go_ret2
        exact ⟨rfl, HB.out.trans (HB2.out.mono HB.out.size)⟩
  · have f1 : ((r.a : Int) != 0) = true := by simp only [bne_iff_ne, ne_eq]; omega
    have e0 : res = none := hres.trans (if_neg ha)
    subst e0
    have HB := Lib.hid hb
    clear hP hRR hb hz ha hres
    go_enter Try.func54, Try.ntmps54
    go_upto_region 1 with fail
    replace hu := hu.symm
    change _ = u at hu
    rw [hu]
    clear hu
    go_wp2_with fail
    first | go_ret | go_ret2
    exact ⟨rfl, HB.out⟩
end Go.Proofs.Ytegaiphhoinilaa.Rc
