/-
Layer 8, package elf: readHeader.
-/
import Derived.Test.YtfdoloonllhodaaJaE
import Derived.BigQuiet
namespace Go.Proofs.Ytfdoloonllhodaa
open Go Go.RowKit

/-- a block is written whole -/
theorem wp_store_cs {P : Program} {w : World} {ops : Array Oper} {rest : List Oper} {op : Oper} {a : Act} {Q : Exit → Act → World → Prop} (hgd : op.guard = none) (ty : TypeId) (x y : Operand) (ho : op.op = .store ty x y) (g : Nat) (hx : a.eval x = .pointer (some ⟨g, 0, none⟩)) (ds : Array Value) (hy : a.eval y = .agg ds)
    (cs : Array Value) (hcs : cs.size = ds.size) (hi : (P.info? ty).map (·.size) = some ds.size) (h1 : ds.all (·.oneCell') = true) (hG : Has w g ty cs) (h : ∀ w', Has w' g ty ds → w.grownBy w' (some g) → wpList P ops Q rest (a.put op.dst undef) w') : wpList P ops Q (op :: rest) a w := by
  refine wpList_plain hgd fun K hK => ?_
  unfold Oper.wp execOp
  simp only [ho, hx, hy, Instr.storeAt, Instr.sureAddr, Sem.run_bind, Sem.run_pure, Result.andThen_ok, run_storeVar_row w g ty ty cs ds hG hi hcs h1]
  exact hK _ _ (h _ (hG.setRow _) ⟨rfl, rfl, rfl, by simp, fun i _ hne => setRow_other w g i _ (fun e => hne (by rw [e]))⟩)
theorem infoHEt (f : Nat → Value) : (Try.prog.info? 74).map (·.size) = some (tab 6 f).size := by rw [tab_size]; exact infoHE6
theorem hdE_all (h : Hd) : (tab 6 (hdE h)).all (·.oneCell') = true := tab_oneCell _ _ (hdE_one h)
theorem hdE_lit (h : Hd) : (#[.int .i64 (h.k : Int), .int .u32 (h.a : Int), .int .u32 (h.d : Int), .int .u32 (h.f : Int), .int .u32 (h.m : Int), .int .i64 (h.r : Int)] : Array Value) = tab 6 (hdE h) := by kernel_rfl
theorem hdE_zero : (#[.int .i64 0, .int .u32 0, .int .u32 0, .int .u32 0, .int .u32 0, .int .i64 0] : Array Value) = tab 6 (hdE hd0) := by kernel_rfl
/-- since w, only g and what is new -/
theorem grown_more {w u v : World} {g g' : Nat} (h : w.grownBy u (some g)) (k : u.grownBy v (some g')) (hg : g' = g ∨ w.heap.size ≤ g') : w.grownBy v (some g) := by
  rcases hg with rfl | hg
  · exact only_trans h k
  · refine ⟨k.os.trans h.os, k.tape.trans h.tape, k.output.trans h.output, Nat.le_trans h.size k.size, fun i hi hne => (k.block i (Nat.lt_of_lt_of_le hi h.size) (fun e => ?_)).trans (h.block i hi hne)⟩
    injection e with e
    omega
/-- what readHeader answers -/
def hdS (bs : List UInt8) (q : Nat) : Hd := if hdG bs q = true then hdA bs q else hd0
set_option maxRecDepth 100000 in
set_option maxHeartbeats 2000000 in
theorem ehead_any {B L g q : Nat} {bs : List UInt8} {w : World} (h : CuP B L g bs q w) (hL : L ≤ w.heap.size) :
    Calls Try.prog 47 #[.pointer (some ⟨g, 0, none⟩)] w fun e w' => e = .returned (.tuple #[.agg (tab 6 (hdE (hdS bs q))), .bool (hdG bs q)]) ∧ CuP B L g bs (q + 32) w' ∧ w.grownBy w' (some g) := by
  go_enter Try.func47, Try.ntmps47
  go_wp2_with fail
  have hG : Has (w.alloc (.cells #[.int .i64 0, .int .u32 0, .int .u32 0, .int .u32 0, .int .u32 0, .int .i64 0] 74)) w.heap.size 74 (tab 6 (hdE hd0)) := by
    rw [← hdE_zero]
    exact Has.new _ _ _
  have hb0 : Below w.heap.size w (w.alloc (.cells #[.int .i64 0, .int .u32 0, .int .u32 0, .int .u32 0, .int .u32 0, .int .i64 0] 74)) := (Below.refl _ _).alloc (Nat.le_refl _) _
  have hlt := h.lt
  replace h := h.after hb0
  have hgr := only_below hb0 (some g)
  generalize w.alloc (.cells #[.int .i64 0, .int .u32 0, .int .u32 0, .int .u32 0, .int .u32 0, .int .i64 0] 74) = u at *
  obtain ⟨gh, hgh⟩ : ∃ x, x = w.heap.size := ⟨_, rfl⟩
  have hne : gh ≠ g := by omega
  have hghw : w.heap.size ≤ gh := by omega
  rw [← hgh] at hG ⊢
  clear hgh hb0 hlt
  refine h.u32.mono ?_
  rintro e u0 ⟨rfl, h0, hg0⟩
  change CuP B L g bs (q + 4) u0 at h0
  replace hG := has_grown hG hg0 (fun l e => by injection e with e; rw [← e]; exact hne)
  replace hgr := only_trans hgr hg0
  clear h hg0
  obtain ⟨x0, hx0⟩ : ∃ x, x = nm bs 4 (q) := ⟨_, rfl⟩
  rw [← hx0]
  have H0 := Lib.hid hx0
  have l0 := nm4 bs (q)
  rw [← hx0] at l0
  clear hx0
  go_wp2_with fail
  refine h0.u32.mono ?_
  rintro e u1 ⟨rfl, h1, hg1⟩
  change CuP B L g bs (q + 8) u1 at h1
  replace hG := has_grown hG hg1 (fun l e => by injection e with e; rw [← e]; exact hne)
  replace hgr := only_trans hgr hg1
  clear h0 hg1
  obtain ⟨x1, hx1⟩ : ∃ x, x = nm bs 4 (q + 4) := ⟨_, rfl⟩
  have e1 : nm bs 4 (q + 0 + 4) = x1 := hx1.symm
  rw [e1]
  clear e1
  have H1 := Lib.hid hx1
  have l1 := nm4 bs (q + 4)
  rw [← hx1] at l1
  clear hx1
  go_wp2_with fail
  refine h1.u32.mono ?_
  rintro e u2 ⟨rfl, h2, hg2⟩
  change CuP B L g bs (q + 12) u2 at h2
  replace hG := has_grown hG hg2 (fun l e => by injection e with e; rw [← e]; exact hne)
  replace hgr := only_trans hgr hg2
  clear h1 hg2
  obtain ⟨x2, hx2⟩ : ∃ x, x = nm bs 4 (q + 8) := ⟨_, rfl⟩
  have e2 : nm bs 4 (q + 4 + 4) = x2 := hx2.symm
  rw [e2]
  clear e2
  have H2 := Lib.hid hx2
  have l2 := nm4 bs (q + 8)
  rw [← hx2] at l2
  clear hx2
  go_wp2_with fail
  refine h2.u32.mono ?_
  rintro e u3 ⟨rfl, h3, hg3⟩
  change CuP B L g bs (q + 16) u3 at h3
  replace hG := has_grown hG hg3 (fun l e => by injection e with e; rw [← e]; exact hne)
  replace hgr := only_trans hgr hg3
  clear h2 hg3
  go_wp2_with fail
  refine h3.u32.mono ?_
  rintro e u4 ⟨rfl, h4, hg4⟩
  change CuP B L g bs (q + 20) u4 at h4
  replace hG := has_grown hG hg4 (fun l e => by injection e with e; rw [← e]; exact hne)
  replace hgr := only_trans hgr hg4
  clear h3 hg4
  obtain ⟨x4, hx4⟩ : ∃ x, x = nm bs 4 (q + 16) := ⟨_, rfl⟩
  have e4 : nm bs 4 (q + 12 + 4) = x4 := hx4.symm
  rw [e4]
  clear e4
  have H4 := Lib.hid hx4
  have l4 := nm4 bs (q + 16)
  rw [← hx4] at l4
  clear hx4
  go_wp2_with fail
  refine h4.u32.mono ?_
  rintro e u5 ⟨rfl, h5, hg5⟩
  change CuP B L g bs (q + 24) u5 at h5
  replace hG := has_grown hG hg5 (fun l e => by injection e with e; rw [← e]; exact hne)
  replace hgr := only_trans hgr hg5
  clear h4 hg5
  obtain ⟨x5, hx5⟩ : ∃ x, x = nm bs 4 (q + 20) := ⟨_, rfl⟩
  have e5 : nm bs 4 (q + 16 + 4) = x5 := hx5.symm
  rw [e5]
  clear e5
  have H5 := Lib.hid hx5
  have l5 := nm4 bs (q + 20)
  rw [← hx5] at l5
  clear hx5
  go_wp2_with fail
  refine h5.u32.mono ?_
  rintro e u6 ⟨rfl, h6, hg6⟩
  change CuP B L g bs (q + 28) u6 at h6
  replace hG := has_grown hG hg6 (fun l e => by injection e with e; rw [← e]; exact hne)
  replace hgr := only_trans hgr hg6
  clear h5 hg6
  obtain ⟨x6, hx6⟩ : ∃ x, x = nm bs 4 (q + 24) := ⟨_, rfl⟩
  have e6 : nm bs 4 (q + 20 + 4) = x6 := hx6.symm
  rw [e6]
  clear e6
  have H6 := Lib.hid hx6
  have l6 := nm4 bs (q + 24)
  rw [← hx6] at l6
  clear hx6
  go_wp2_with fail
  refine h6.u32.mono ?_
  rintro e u7 ⟨rfl, h7, hg7⟩
  change CuP B L g bs (q + 32) u7 at h7
  replace hG := has_grown hG hg7 (fun l e => by injection e with e; rw [← e]; exact hne)
  replace hgr := only_trans hgr hg7
  clear h6 hg7
  have HB : Hid (hdG bs q = decide ((x0 = 1 ∨ x0 = 2) ∧ x6 ≤ 7 ∧ x4 ≤ x5)) := Lib.hid (by rw [H0.out, H4.out, H5.out, H6.out]; rfl)
  have hghL : L ≤ gh := by omega
  have HHD : Hid (∀ r, r = rgt x6 → Ending.returned (.tuple #[.agg (tab 6 (hdE ⟨x0, x1, x2, x4, x5, r⟩)), .bool true]) = .returned (.tuple #[.agg (tab 6 (hdE (hdA bs q))), .bool true])) := Lib.hid (fun r hr => by rw [hr, H0.out, H1.out, H2.out, H4.out, H5.out, H6.out]; rfl)
  clear hL
  clear H0 H1 H2 H4 H5 H6
  by_cases h1 : x0 = 1 ∨ x0 = 2
  · have HK : Hid (x0 = 1 ∨ x0 = 2) := Lib.hid h1
    have h0c : (((x0 : Int) != 1) = false) ∨ (((x0 : Int) != 1) = true ∧ ((x0 : Int) != 2) = false) := by
      rcases h1 with rfl | rfl
      · exact .inl (by decide)
      · exact .inr ⟨by decide, by decide⟩
    clear h1
    have hwx : x0 < 9223372036854775808 := by omega
    by_cases h6 : x6 ≤ 7
    · have d6 : (x6 : Int) ≤ 7 := by omega
      by_cases h4 : x4 ≤ x5
      · have d4 : (x4 : Int) ≤ (x5 : Int) := by omega
        have fg : (x0 = 1 ∨ x0 = 2) ∧ x6 ≤ 7 ∧ x4 ≤ x5 := ⟨HK.out, h6, h4⟩
        have FG := Lib.hid fg
        have kR := fun w => erights_any x6 h6 w
        have hr7 := rgt_le x6
        obtain ⟨r, hr⟩ : ∃ r, r = rgt x6 := ⟨_, rfl⟩
        rw [← hr] at hr7
        simp only [← hr] at kR
        replace HHD := Lib.hid (HHD.out r hr)
        clear fg h6 h4 HK hr
        rcases h0c with k1 | ⟨k1, k2⟩
        all_goals
          go_wp2_with (first
            | (refine (kR _).mono ?_; rintro e w' ⟨rfl, rfl⟩)
            | (refine wp_store_cs rfl 74 _ _ rfl gh rfl (tab 6 (hdE ⟨x0, x1, x2, x4, x5, r⟩)) (congrArg Value.agg (hdE_lit ⟨x0, x1, x2, x4, x5, r⟩)) _ (by simp only [tab_size]) (infoHEt _) (hdE_all _) hG ?_; intro wz hz hgz))
          exact bodyPost_ret (v := .tuple #[.agg (tab 6 (hdE ⟨x0, x1, x2, x4, x5, r⟩)), .bool true]) (results_cell_tmp rfl _ _ gh 74 _ _ _ rfl rfl hz Try.underlying74 rfl (infoHEt _)) rfl ⟨by unfold hdS; rw [HB.out, decide_eq_true FG.out]; exact HHD.out, h7.beside hgz (fun l e => by injection e with e; omega), grown_more hgr hgz (.inr hghw)⟩
      · have d4 : (x5 : Int) < (x4 : Int) := by omega
        have fg : ¬ ((x0 = 1 ∨ x0 = 2) ∧ x6 ≤ 7 ∧ x4 ≤ x5) := fun h => h4 h.2.2
        clear h4 h6 HK HHD
        rcases h0c with k1 | ⟨k1, k2⟩
        all_goals
          have FG := Lib.hid fg
          clear fg
          go_wp2_with (refine wp_store_cs rfl 74 _ _ rfl gh rfl (tab 6 (hdE hd0)) (congrArg Value.agg hdE_zero) _ (by simp only [tab_size]) (infoHEt _) (hdE_all _) hG ?_; intro wz hz hgz)
          all_goals exact bodyPost_ret (v := .tuple #[.agg (tab 6 (hdE hd0)), .bool false]) (results_cell_tmp rfl _ _ gh 74 _ _ _ rfl rfl hz Try.underlying74 rfl (infoHEt _)) rfl ⟨by unfold hdS; rw [HB.out, decide_eq_false FG.out]; rfl, h7.beside hgz (fun l e => by injection e with e; omega), grown_more hgr hgz (.inr hghw)⟩
    · have d6 : 7 < (x6 : Int) := by omega
      have fg : ¬ ((x0 = 1 ∨ x0 = 2) ∧ x6 ≤ 7 ∧ x4 ≤ x5) := fun h => h6 h.2.1
      clear h6 HK HHD
      rcases h0c with k1 | ⟨k1, k2⟩
      all_goals
        have FG := Lib.hid fg
        clear fg
        go_wp2_with (refine wp_store_cs rfl 74 _ _ rfl gh rfl (tab 6 (hdE hd0)) (congrArg Value.agg hdE_zero) _ (by simp only [tab_size]) (infoHEt _) (hdE_all _) hG ?_; intro wz hz hgz)
        all_goals exact bodyPost_ret (v := .tuple #[.agg (tab 6 (hdE hd0)), .bool false]) (results_cell_tmp rfl _ _ gh 74 _ _ _ rfl rfl hz Try.underlying74 rfl (infoHEt _)) rfl ⟨by unfold hdS; rw [HB.out, decide_eq_false FG.out]; rfl, h7.beside hgz (fun l e => by injection e with e; omega), grown_more hgr hgz (.inr hghw)⟩
  · have k1 : ((x0 : Int) != 1) = true := by simp only [bne_iff_ne, ne_eq]; omega
    have k2 : ((x0 : Int) != 2) = true := by simp only [bne_iff_ne, ne_eq]; omega
    have fg : ¬ ((x0 = 1 ∨ x0 = 2) ∧ x6 ≤ 7 ∧ x4 ≤ x5) := fun h => h1 h.1
    clear h1 HHD
    have FG := Lib.hid fg
    clear fg
    go_wp2_with (refine wp_store_cs rfl 74 _ _ rfl gh rfl (tab 6 (hdE hd0)) (congrArg Value.agg hdE_zero) _ (by simp only [tab_size]) (infoHEt _) (hdE_all _) hG ?_; intro wz hz hgz)
    all_goals exact bodyPost_ret (v := .tuple #[.agg (tab 6 (hdE hd0)), .bool false]) (results_cell_tmp rfl _ _ gh 74 _ _ _ rfl rfl hz Try.underlying74 rfl (infoHEt _)) rfl ⟨by unfold hdS; rw [HB.out, decide_eq_false FG.out]; rfl, h7.beside hgz (fun l e => by injection e with e; omega), grown_more hgr hgz (.inr hghw)⟩
end Go.Proofs.Ytfdoloonllhodaa
