/-
Package reloc: Apply; what package reloc's calls answer.
-/
import Derived.Test.YtegaiphhoinilaaRkG
namespace Go.Proofs.Ytegaiphhoinilaa.Rc
open Go Go.RowKit

theorem build_prog (en B : Nat) (A1 A2 A3 A4 : Option Addr) (n1 c1 n2 c2 n3 c3 n4 c4 : Nat) (W : World) : (Instr.build 64 #[(0, .agg #[.int .u32 (en : Int), .slice A1 n1 c1, .slice A2 n2 c2, .slice A3 n3 c3]), (1, .int .u32 (B : Int)), (2, .slice A4 n4 c4)]).run Try.prog W = .ok (.agg #[.int .u32 (en : Int), .slice A1 n1 c1, .slice A2 n2 c2, .slice A3 n3 c3, .int .u32 (B : Int), .slice A4 n4 c4]) W := by
  kernel_rfl
set_option maxRecDepth 100000 in
set_option maxHeartbeats 1000000 in
theorem apply_nil (B : Nat) (w : World) : Calls Try.prog 11 #[.pointer none, .agg (fC 0 nilS nilS nilS), .int .u32 (B : Int), .slice none 0 0] w fun e w' => e = .returned (.int .i64 1) ∧ Below w.heap.size w w' := by
  have hb0 : Below w.heap.size w (w.alloc (.cells (fC 0 nilS nilS nilS) 36)) := (Below.refl _ _).alloc (Nat.le_refl _) _
  have HB := Lib.hid hb0
  clear hb0
  go_enter Try.func11, Try.ntmps11
  go_wp2_with fail
  go_ret
  exact ⟨rfl, HB.out⟩
set_option maxRecDepth 100000 in
set_option maxHeartbeats 8000000 in
theorem apply_more (ss : List Nat) (rs : List Re) (l : List (Nat × Nat)) (B en g : Nat) (m : Nat → UInt8) (sg rl sy sp : Sl) (w : World) (hK : KeepG w g ss rs l sy rl sp) (hram : inRam l) (hB : B < 4294967296) (hG : RamP w g m) :
    Calls Try.prog 11 #[mP g, .agg (fC en sg rl sy), .int .u32 (B : Int), sp.v] w fun e w' => e = .returned (.int .i64 (allP ss rs B l m rs).1) ∧ RamP w' g (allP ss rs B l m rs).2 ∧ w.grownBy w' (some g) ∧ w.heap.size < w'.heap.size := by
  have hlen : rs.length = rl.n := (hK w (World.grownBy.refl _ _)).2.1.1
  have h47 : rl.n ≤ 140737488355328 := (hK w (World.grownBy.refl _ _)).2.1.2.2.1.2
  have hgw := hG.lt
  obtain ⟨u, hu, hF, hb0, hz0⟩ := one_new w (fC en sg rl sy) 36
  obtain ⟨A1, n1, c1⟩ := sg
  obtain ⟨A2, n2, c2⟩ := rl
  obtain ⟨A3, n3, c3⟩ := sy
  obtain ⟨A4, n4, c4⟩ := sp
  dsimp only at hlen h47
  obtain ⟨ev, hev⟩ : ∃ ev, ev = (allP ss rs B l m rs).1 := ⟨_, rfl⟩
  obtain ⟨M, hM⟩ : ∃ M, M = (allP ss rs B l m rs).2 := ⟨_, rfl⟩
  have HA0 : Hid (allP ss rs B l m (rs.drop 0) = (ev, M)) := Lib.hid (by rw [List.drop_zero, hev, hM])
  rw [← hev, ← hM]
  have HK := Lib.hid hK
  have HRAM := Lib.hid hram
  clear hev hM hK hram
  show Calls Try.prog 11 #[mP g, .agg (fC en ⟨A1, n1, c1⟩ ⟨A2, n2, c2⟩ ⟨A3, n3, c3⟩), .int .u32 (B : Int), .slice A4 n4 c4] w _
  have p0 : u.cell? ⟨w.heap.size, 0, none⟩ = some (.int .u32 (en : Int)) := hF.cell 0
  have p1 : u.cell? ⟨w.heap.size, 1, none⟩ = some (.slice A1 n1 c1) := hF.cell 1
  have p2 : u.cell? ⟨w.heap.size, 2, none⟩ = some (.slice A2 n2 c2) := hF.cell 2
  have p3 : u.cell? ⟨w.heap.size, 3, none⟩ = some (.slice A3 n3 c3) := hF.cell 3
  have hbd := fun W => build_prog en B A1 A2 A3 A4 n1 c1 n2 c2 n3 c3 n4 c4 W
  have HF0 := Lib.hid hF
  have HU := Lib.hid hb0
  have HG0 := Lib.hid (hG.after hb0)
  clear hF hb0 hG
  go_enter Try.func11, Try.ntmps11
  go_upto_region 1 with fail
  replace hu := hu.symm
  change _ = u at hu
  rw [hu]
  clear hu
  obtain ⟨gF, hgF⟩ : ∃ g, g = w.heap.size := ⟨_, rfl⟩
  rw [← hgF] at HF0 p0 p1 p2 p3 ⊢
  have hgFg : gF ≠ g := by omega
  have hgFu : gF < u.heap.size := by omega
  have HW1 : Hid (w.heap.size < u.heap.size) := Lib.hid (by omega)
  clear hgF hz0
  go_upto_region 4 with fail
  obtain ⟨ua, hua, hP, hb1, hz1⟩ := one_new u #[.int .u32 (en : Int), .slice A1 n1 c1, .slice A2 n2 c2, .slice A3 n3 c3, .int .u32 (B : Int), .slice A4 n4 c4] 64
  rw [← hua]
  have p2' : ua.cell? ⟨gF, 2, none⟩ = some (.slice A2 n2 c2) := (hb1.cell (p := ⟨gF, 2, none⟩) hgFu).trans p2
  obtain ⟨gP, hgP⟩ : ∃ g, g = u.heap.size := ⟨_, rfl⟩
  rw [← hgP] at hP ⊢
  have hgPg : gP ≠ g := by have := HG0.out.lt; omega
  have HP0 : Hid (Has ua gP 64 (prC en B ⟨A1, n1, c1⟩ ⟨A2, n2, c2⟩ ⟨A3, n3, c3⟩ ⟨A4, n4, c4⟩)) := Lib.hid hP
  have HLT : Hid (w.heap.size < ua.heap.size) := Lib.hid (by have h1 := hb1.size; have h2 := HW1.out; omega)
  have HUA := Lib.hid (HU.out.trans (hb1.mono HU.out.size))
  have HG1 := Lib.hid (HG0.out.after hb1)
  clear hua hP hb1 hz1 hgP p0 p1 p2 p3 hbd hgFu HF0 HG0 hgw HU
  go_wp2_with fail
  clear p2'
  go_loopw [22] (fun ct wr => ∃ (i : Nat) (m' : Nat → UInt8), i ≤ n2 ∧ ct = .int .i64 (i : Int) ∧ Hid (allP ss rs B l m' (rs.drop i) = (ev, M)) ∧ RamP wr g m' ∧ ua.grownBy wr (some g)) (fun ct _ => (n2 - (intOf ct)).toNat)
  case atStart => exact ⟨0, m, Nat.zero_le _, rfl, HA0, HG1.out, World.grownBy.refl _ _⟩
  case round =>
    obtain ⟨i, m', hi, rfl, HA, hG, hu⟩ := hrel
    have hwr := only_trans (only_below HUA.out (some g)) hu
    obtain ⟨hS1, hS2, hS3⟩ := HK.out wr hwr
    by_cases hlt : i < n2
    · have di : (i : Int) < (n2 : Int) := by omega
      obtain ⟨bb, oo, hA, hbl, hcc⟩ := hS2.2.2.2 (by show 0 < n2; omega)
      replace hA : A2 = some ⟨bb, oo, none⟩ := hA
      subst hA
      have hwf := getD_all (P := Re.Wf) (d := re0) hS2.2.1 (j := i) (by omega)
      have e0 : wr.cell? ⟨bb, oo + i * 4, none⟩ = some (.int .u32 ((rs.getD i re0).p : Int)) := hcc i 0 hlt (by decide)
      have e1 : wr.cell? ⟨bb, oo + i * 4 + 1, none⟩ = some (.int .i64 (rs.getD i re0).t) := hcc i 1 hlt (by decide)
      have e2 : wr.cell? ⟨bb, oo + i * 4 + 2, none⟩ = some (.int .i64 (rs.getD i re0).s) := hcc i 2 hlt (by decide)
      have e3 : wr.cell? ⟨bb, oo + i * 4 + 3, none⟩ = some (.int .u32 ((rs.getD i re0).a : Int)) := hcc i 3 hlt (by decide)
      have HDR := Lib.hid (drop_re rs i (by omega))
      clear hcc
      generalize rs.getD i re0 = h at *
      obtain ⟨p, t, s, a⟩ := h
      dsimp only at e0 e1 e2 e3
      have hat := fun W => at_re bb oo n2 c2 i di W
      have HWF := Lib.hid hwf
      have HU := Lib.hid hu
      have HW := Lib.hid hwr
      have HG := Lib.hid hG
      have HS1 := Lib.hid hS1
      have HS2 := Lib.hid hS2
      have HS3 := Lib.hid hS3
      clear hu hwr hG hS1 hS2 hS3 hwf
      go_upto_region 7 with fail
      obtain ⟨wa, hwa, hH, hbw, hsz⟩ := one_new wr #[.int .u32 (p : Int), .int .i64 t, .int .i64 s, .int .u32 (a : Int)] 43
      rw [← hwa]
      obtain ⟨gH, hgH⟩ : ∃ g, g = wr.heap.size := ⟨_, rfl⟩
      rw [← hgH] at hH ⊢
      have HPA := Lib.hid ((has_by HP0.out HU.out hgPg).after hbw)
      have hG2 := HG.out.after hbw
      have p0 : wa.cell? ⟨gP, 0, none⟩ = some (.int .u32 (en : Int)) := HPA.out.cell 0
      have p1 : wa.cell? ⟨gP, 1, none⟩ = some (.slice A1 n1 c1) := HPA.out.cell 1
      have p2 : wa.cell? ⟨gP, 2, none⟩ = some (.slice (some ⟨bb, oo, none⟩) n2 c2) := HPA.out.cell 2
      have p3 : wa.cell? ⟨gP, 3, none⟩ = some (.slice A3 n3 c3) := HPA.out.cell 3
      have p4 : wa.cell? ⟨gP, 4, none⟩ = some (.int .u32 (B : Int)) := HPA.out.cell 4
      have p5 : wa.cell? ⟨gP, 5, none⟩ = some (.slice A4 n4 c4) := HPA.out.cell 5
      have k0 : wa.cell? ⟨gH, 0, none⟩ = some (.int .u32 (p : Int)) := hH.cell 0
      have k1 : wa.cell? ⟨gH, 1, none⟩ = some (.int .i64 t) := hH.cell 1
      have k2 : wa.cell? ⟨gH, 2, none⟩ = some (.int .i64 s) := hH.cell 2
      have k3 : wa.cell? ⟨gH, 3, none⟩ = some (.int .u32 (a : Int)) := hH.cell 3
      have kA : Calls Try.prog 23 #[.agg #[.int .u32 (en : Int), .slice A1 n1 c1, .slice (some ⟨bb, oo, none⟩) n2 c2, .slice A3 n3 c3, .int .u32 (B : Int), .slice A4 n4 c4], .iface 28 (mP g), .agg #[.int .u32 (p : Int), .int .i64 t, .int .i64 s, .int .u32 (a : Int)]] wa fun e w' => e = .returned (.int .i64 (oneP ss rs B l m' ⟨p, t, s, a⟩).1) ∧ RamP w' g (oneP ss rs B l m' ⟨p, t, s, a⟩).2 ∧ wa.grownBy w' (some g) :=
        apply_one ss rs l en B g m' ⟨A1, n1, c1⟩ ⟨some ⟨bb, oo, none⟩, n2, c2⟩ ⟨A3, n3, c3⟩ ⟨A4, n4, c4⟩ ⟨p, t, s, a⟩ wa (HS1.out.below hbw) (HS2.out.below hbw) (HS3.out.below hbw) HRAM.out HWF.out hB hG2
      have HBW := Lib.hid hbw
      clear hbw hsz hwa hgH e0 e1 e2 e3 hat hH hG2
      obtain ⟨er, her⟩ : ∃ er, er = (oneP ss rs B l m' ⟨p, t, s, a⟩).1 := ⟨_, rfl⟩
      obtain ⟨m2, hm2⟩ : ∃ m2, m2 = (oneP ss rs B l m' ⟨p, t, s, a⟩).2 := ⟨_, rfl⟩
      have HON : Hid (oneP ss rs B l m' ⟨p, t, s, a⟩ = (er, m2)) := Lib.hid (by rw [her, hm2])
      rw [← her, ← hm2] at kA
      clear her hm2
      by_cases h0 : er = 0
      · subst h0
        have HN : Hid (allP ss rs B l m2 (rs.drop (i + 1)) = (ev, M)) := Lib.hid (by rw [← HA.out, HDR.out]; exact (all_go HON.out).symm)
        go_wp2_with (go_at_call 23; with_reducible refine kA.mono ?_; rintro e w2 ⟨rfl, hG2, hg2⟩; clear p0 p1 p2 p3 p4 p5 k0 k1 k2 k3)
        go_roundw
        case rel => exact ⟨i + 1, m2, hlt, by go_num, HN, hG2, only_trans HU.out (only_trans (only_below HBW.out _) hg2)⟩
        case measure => simp [intOf] <;> omega
      · have d1 : (er != 0) = true := by rw [bne_iff_ne]; exact h0
        have HN : Hid ((er, m2) = (ev, M)) := Lib.hid (by rw [← HA.out, HDR.out]; exact (all_bad HON.out h0).symm)
        clear h0
        go_wp2_with (go_at_call 23; with_reducible refine kA.mono ?_; rintro e w2 ⟨rfl, hG2, hg2⟩; clear p0 p1 p2 p3 p4 p5 k0 k1 k2 k3)
        go_ret
        obtain ⟨h1, h2⟩ := Prod.mk.inj HN.out
        rw [← h1, ← h2]
        have hsz1 := HU.out.size
        have hsz2 := HBW.out.size
        have hsz3 := hg2.size
        have hsz4 := HLT.out
        exact ⟨rfl, hG2, only_trans HW.out (only_trans (only_below HBW.out _) hg2), by omega⟩
    · have di : ¬ (i : Int) < (n2 : Int) := by omega
      have HN : Hid ((0, m') = (ev, M)) := Lib.hid (by rw [← HA.out, List.drop_eq_nil_of_le (by omega)]; rfl)
      have HW := Lib.hid hwr
      have HG := Lib.hid hG
      have HUS := Lib.hid hu.size
      clear hu hwr hG hS1 hS2 hS3
      go_wp2_with fail
      first | go_ret | go_end0
      obtain ⟨h1, h2⟩ := Prod.mk.inj HN.out
      rw [← h1, ← h2]
      have hsz1 := HUS.out
      have hsz4 := HLT.out
      exact ⟨rfl, HG.out, HW.out, by omega⟩
theorem apply_any (ss : List Nat) (rs : List Re) (l : List (Nat × Nat)) (B en g : Nat) (m : Nat → UInt8) (sg rl sy sp : Sl) (w : World) (hK : KeepG w g ss rs l sy rl sp) (hram : inRam l) (hB : B < 4294967296) (hG : RamP w g m) :
    Calls Try.prog 11 #[mP g, .agg (fC en sg rl sy), .int .u32 (B : Int), sp.v] w fun e w' => e = .returned (.int .i64 (allP ss rs B l m rs).1) ∧ RamP w' g (allP ss rs B l m rs).2 ∧ w.grownBy w' (some g) :=
  (apply_more ss rs l B en g m sg rl sy sp w hK hram hB hG).mono fun _e _w' h => ⟨h.1, h.2.1, h.2.2.1⟩
theorem reloc_ok : RelocOK where
  upper v w hv := (kupper_any v w hv).mono fun _e _w' h => ⟨h.1, same_below h.2⟩
  none B w _ := apply_nil B w
  apply ss rs l B en g m sg rl sy sp w hK hram hB _ hG := apply_any ss rs l B en g m sg rl sy sp w hK hram hB hG
  more ss rs l B en g m sg rl sy sp w hK hram hB _ hG := apply_more ss rs l B en g m sg rl sy sp w hK hram hB hG
end Go.Proofs.Ytegaiphhoinilaa.Rc
