/-
Layer 9: what both answer is the same.
-/
import Derived.Test.YtfdoloonllhodaaJElG
import Derived.Test.YtfdoloonllhodaaJDyD
import Derived.BigQuiet
namespace Go.Proofs.Ytfdoloonllhodaa
open Go Go.RowKit

theorem atU' (b o n c j : Nat) (hj : (j : Int) < (n : Int)) (w : World) : (Instr.indexAt 24 (.slice (some ⟨b, o, none⟩) n c) (.int .i64 (j : Int))).run Try.prog w = .ok (.pointer (some ⟨b, o + j, none⟩)) w := by
  have h2 := Addr.add_mid b o j
  go_simp
theorem atI' (b o n c j : Nat) (hj : (j : Int) < (n : Int)) (w : World) : (Instr.indexAt 55 (.slice (some ⟨b, o, none⟩) n c) (.int .i64 (j : Int))).run Try.prog w = .ok (.pointer (some ⟨b, o + j, none⟩)) w := by
  have h2 := Addr.add_mid b o j
  go_simp
theorem atL' (b o n c j : Nat) (hj : (j : Int) < (n : Int)) (w : World) : (Instr.indexAt 36 (.slice (some ⟨b, o, none⟩) n c) (.int .i64 (j : Int))).run Try.prog w = .ok (.pointer (some ⟨b, o + j * 4, none⟩)) w := by
  have h2 := Addr.add_mid b o (j * 4)
  go_simp
theorem atR' (b o n c j : Nat) (hj : (j : Int) < (n : Int)) (w : World) : (Instr.indexAt 56 (.slice (some ⟨b, o, none⟩) n c) (.int .i64 (j : Int))).run Try.prog w = .ok (.pointer (some ⟨b, o + j * 4, none⟩)) w := by
  have h2 := Addr.add_mid b o (j * 4)
  go_simp
theorem infoLE4 : (Try.prog.info? 43).map (·.size) = some 4 := by kernel_rfl
theorem infoLEz : (Try.prog.info? 43).map (fun i => (i.zero, i.size)) = some (some (.agg (tab 4 (rlE rl0))), 4) := by kernel_rfl
theorem zeroLE (w : World) : (zeroValue 43).run Try.prog w = .ok (.agg (tab 4 (rlE rl0))) w := (zero_of_info infoLEz).1 w
theorem wp_load_le {w : World} {ops : Array Oper} {rest : List Oper} {op : Oper} {a : Act} {Q : Exit → Act → World → Prop} (hgd : op.guard = none) (x : Operand) (ho : op.op = .load 43 x)
    (b o : Nat) (hx : a.eval x = .pointer (some ⟨b, o, none⟩)) (f : Nat → Value) (hc : w.rangeAt b o ((List.range 4).map f)) (h : wpList Try.prog ops Q rest (a.put op.dst (.agg (tab 4 f))) w) : wpList Try.prog ops Q (op :: rest) a w :=
  wpList_load_mid hgd 43 x ho b o hx _ _ hc Try.underlying43 rfl (by simpa using infoLE4) h
/-- the variables that hold both answers -/
structure LkO (w0 : World) (g1 g2 : Nat) (en : Nat) (s1 r1 y1 s2 y2 r2 : Sl) (rd : Rd) (w : World) : Prop where
  one : Has w g1 38 (fiC en s1 r1 y1)
  two : Has w g2 58 (flC en s2 y2 r2)
  ss1 : SlS w s1 rd.ss
  ss2 : SlT w s2 rd.ss
  sy1 : SlU w y1 rd.sy
  sy2 : SlZ w y2 rd.sy
  rl1 : SlL w r1 rd.rl
  rl2 : SlM w r2 rd.rl
  bel : Below w0.heap.size w0 w
theorem LkO.after {w0 w w' : World} {g1 g2 en : Nat} {s1 r1 y1 s2 y2 r2 : Sl} {rd : Rd} (h : LkO w0 g1 g2 en s1 r1 y1 s2 y2 r2 rd w) (k : Below w.heap.size w w') : LkO w0 g1 g2 en s1 r1 y1 s2 y2 r2 rd w' :=
  ⟨h.one.after k, h.two.after k, h.ss1.below k, h.ss2.below k, h.sy1.below k, h.sy2.below k, h.rl1.below k, h.rl2.below k, h.bel.trans (k.mono h.bel.size)⟩
set_option maxRecDepth 100000 in
set_option maxHeartbeats 8000000 in
theorem like_any (H : DynOK) (bs : List UInt8) (A : Option Addr) (n c : Nat) (w : World) (hS : SlA w A n c bs) (hA : A = none → c = 0) (hc : c < 9223372036854775808) (hn : bs.length ≤ 100000) :
    Calls Try.prog 9 #[.slice A n c] w fun e w' => e = .returned (.bool true) ∧ Below w.heap.size w w' := by
  have k1 := H.read_ok bs A n c w hS hA hc hn
  have k2 := fun w' (hb : Below w.heap.size w w') => rread_any bs A n c w' (hS.below hb) hA hc hn
  have hwf := readN_wf bs
  unfold RdR at k2
  obtain ⟨rd, hrd⟩ : ∃ x, x = readN bs := ⟨_, rfl⟩
  rw [← hrd] at k1 hwf
  simp only [← hrd] at k2
  have HWF := Lib.hid hwf
  have hen := hwf.en
  have her := hwf.er
  have hew : IntKind.i64.wrap (rd.en : Int) = (rd.en : Int) := i64_in' _ (by omega)
  clear hrd hS hA hwf
  go_enter Try.func9, Try.ntmps9
  go_wp2_with fail
  refine k1.mono ?_
  rintro e u1 ⟨⟨s1, r1, y1, rfl, hs1, hr1, hy1⟩, hb1⟩
  have k2' := k2 
  obtain ⟨As, ns, cs, rfl⟩ := s1.out
  obtain ⟨Ar, nr, cr, rfl⟩ := r1.out
  obtain ⟨Ay, ny, cy, rfl⟩ := y1.out
  clear k1 k2'
  rw [show fiC rd.en ⟨As, ns, cs⟩ ⟨Ar, nr, cr⟩ ⟨Ay, ny, cy⟩ = #[.int .u32 (rd.en : Int), .slice As ns cs, .slice Ar nr cr, .slice Ay ny cy] from rfl]
  go_upto_region 2 with fail
  have hG1 : Has (u1.alloc (.cells #[.int .u32 (rd.en : Int), .slice As ns cs, .slice Ar nr cr, .slice Ay ny cy] 38)) u1.heap.size 38 (fiC rd.en ⟨As, ns, cs⟩ ⟨Ar, nr, cr⟩ ⟨Ay, ny, cy⟩) := Has.new _ _ _
  have hba : Below u1.heap.size u1 (u1.alloc (.cells #[.int .u32 (rd.en : Int), .slice As ns cs, .slice Ar nr cr, .slice Ay ny cy] 38)) := (Below.refl _ _).alloc (Nat.le_refl _) _
  replace hs1 := hs1.below hba
  replace hr1 := hr1.below hba
  replace hy1 := hy1.below hba
  replace hb1 := below_trans hb1 hba
  clear hba
  generalize u1.alloc (.cells #[.int .u32 (rd.en : Int), .slice As ns cs, .slice Ar nr cr, .slice Ay ny cy] 38) = u2 at *
  generalize u1.heap.size = g1 at *
  have k3 := k2 u2 hb1
  clear k2
  go_wp2_with fail
  refine k3.mono ?_
  rintro e u3 ⟨⟨s2, y2, r2, rfl, hs2, hy2, hr2⟩, hb3⟩
  replace hG1 := hG1.after hb3
  replace hs1 := hs1.below hb3
  replace hr1 := hr1.below hb3
  replace hy1 := hy1.below hb3
  replace hb1 := below_trans hb1 hb3
  clear hb3 k3
  obtain ⟨At, ns2, ct, rfl⟩ := s2.out
  obtain ⟨Az, ny2, cz, rfl⟩ := y2.out
  obtain ⟨Aq, nr2, cq, rfl⟩ := r2.out
  obtain rfl : ns2 = ns := by have h1 : rd.ss.length = ns2 := hs2.1; have h2 : rd.ss.length = ns := hs1.1; omega
  obtain rfl : ny2 = ny := by have h1 : rd.sy.length = ny2 := hy2.1; have h2 : rd.sy.length = ny := hy1.1; omega
  obtain rfl : nr2 = nr := by have h1 : rd.rl.length = nr2 := hr2.1; have h2 : rd.rl.length = nr := hr1.1; omega
  rw [show flC rd.en ⟨At, ns2, ct⟩ ⟨Az, ny2, cz⟩ ⟨Aq, nr2, cq⟩ = #[.int .i64 (rd.en : Int), .slice At ns2 ct, .slice Az ny2 cz, .slice Aq nr2 cq] from rfl]
  go_upto_region 3 with fail
  have hG2 : Has (u3.alloc (.cells #[.int .i64 (rd.en : Int), .slice At ns2 ct, .slice Az ny2 cz, .slice Aq nr2 cq] 58)) u3.heap.size 58 (flC rd.en ⟨At, ns2, ct⟩ ⟨Az, ny2, cz⟩ ⟨Aq, nr2, cq⟩) := Has.new _ _ _
  have hba : Below u3.heap.size u3 (u3.alloc (.cells #[.int .i64 (rd.en : Int), .slice At ns2 ct, .slice Az ny2 cz, .slice Aq nr2 cq] 58)) := (Below.refl _ _).alloc (Nat.le_refl _) _
  have hO : LkO w g1 u3.heap.size rd.en ⟨As, ns2, cs⟩ ⟨Ar, nr2, cr⟩ ⟨Ay, ny2, cy⟩ ⟨At, ns2, ct⟩ ⟨Az, ny2, cz⟩ ⟨Aq, nr2, cq⟩ rd (u3.alloc (.cells #[.int .i64 (rd.en : Int), .slice At ns2 ct, .slice Az ny2 cz, .slice Aq nr2 cq] 58)) :=
    ⟨hG1.after hba, hG2, hs1.below hba, hs2.below hba, hy1.below hba, hy2.below hba, hr1.below hba, hr2.below hba, below_trans hb1 hba⟩
  generalize u3.alloc (.cells #[.int .i64 (rd.en : Int), .slice At ns2 ct, .slice Az ny2 cz, .slice Aq nr2 cq] 58) = u4 at *
  generalize u3.heap.size = g2 at *
  have a0 : u4.cell? ⟨g1, 0, none⟩ = some (.int .u32 (rd.en : Int)) := hO.one.cell 0
  have a1 : u4.cell? ⟨g1, 1, none⟩ = some (.slice As ns2 cs) := hO.one.cell 1
  have a2 : u4.cell? ⟨g1, 2, none⟩ = some (.slice Ar nr2 cr) := hO.one.cell 2
  have a3 : u4.cell? ⟨g1, 3, none⟩ = some (.slice Ay ny2 cy) := hO.one.cell 3
  have b0 : u4.cell? ⟨g2, 0, none⟩ = some (.int .i64 (rd.en : Int)) := hO.two.cell 0
  have b1 : u4.cell? ⟨g2, 1, none⟩ = some (.slice At ns2 ct) := hO.two.cell 1
  have b2 : u4.cell? ⟨g2, 2, none⟩ = some (.slice Az ny2 cz) := hO.two.cell 2
  have b3 : u4.cell? ⟨g2, 3, none⟩ = some (.slice Aq nr2 cq) := hO.two.cell 3
  have HO := Lib.hid hO
  have hny : ny2 ≤ 64 := by have := HWF.out.sy; have h1 : rd.sy.length = ny2 := hO.sy1.1; omega
  have hnr : nr2 ≤ 64 := by have := HWF.out.rl; have h1 : rd.rl.length = nr2 := hO.rl1.1; omega
  have hns : ns2 ≤ 5 := by have := HWF.out.ss; have h1 : rd.ss.length = ns2 := hO.ss1.1; omega
  clear hG1 hs1 hr1 hy1 hb1 hs2 hy2 hr2 hG2 hba hO
  go_wp2_with fail
  go_loopw [64] (fun cn9 wr => ∃ i : Nat, i ≤ ny2 ∧ cn9 = .int .i64 (i : Int) ∧ Below u4.heap.size u4 wr) (fun cn9 _ => (ny2 - (intOf cn9)).toNat)
  case atStart => exact ⟨0, Nat.zero_le _, rfl, Below.refl _ _⟩
  case round =>
    obtain ⟨i, hi, rfl, hb⟩ := hrel
    clear a0 a1 a2 a3 b0 b1 b2 b3
    by_cases hlt : i < ny2
    · have di : (i : Int) < (ny2 : Int) := by omega
      have hOr := HO.out.after hb
      have hyl : rd.sy.length = ny2 := hOr.sy1.1
      obtain ⟨p1, o1, e1, _, hc1⟩ := hOr.sy1.2.2 (by show 0 < ny2; omega)
      replace e1 : Ay = some ⟨p1, o1, none⟩ := e1
      subst e1
      obtain ⟨p2, o2, e2, _, hc2⟩ := hOr.sy2.2.2 (by show 0 < ny2; omega)
      replace e2 : Az = some ⟨p2, o2, none⟩ := e2
      subst e2
      have d1 := hc1 i 0 hlt (by decide)
      have d2 := hc2 i 0 hlt (by decide)
      have hv := HWF.out.yf (rd.sy.getD i 0) (by rw [List.getD_eq_getElem?_getD, List.getElem?_eq_getElem (by rw [hyl]; exact hlt)]; exact List.getElem_mem _)
      rw [Nat.mul_one, Nat.add_zero] at d1 d2
      replace d1 : wr.cell? ⟨p1, o1 + i, none⟩ = some (Go.Proofs.Ytfdoloonllhodaa.u4 (rd.sy.getD i 0) 0) := d1
      replace d2 : wr.cell? ⟨p2, o2 + i, none⟩ = some (Go.Proofs.Ytfdoloonllhodaa.i8 (rd.sy.getD i 0) 0) := d2
      generalize rd.sy.getD i 0 = v at *
      replace d1 : wr.cell? ⟨p1, o1 + i, none⟩ = some (.int .u32 (v : Int)) := d1
      replace d2 : wr.cell? ⟨p2, o2 + i, none⟩ = some (.int .i64 (v : Int)) := d2
      have hvw : IntKind.i64.wrap (v : Int) = (v : Int) := i64_in' _ (by omega)
      have ha1 := fun w => atU' p1 o1 ny2 cy i di w
      have ha2 := fun w => atI' p2 o2 ny2 cz i di w
      have b2 : wr.cell? ⟨g2, 2, none⟩ = some (.slice (some ⟨p2, o2, none⟩) ny2 cz) := hOr.two.cell 2
      have HB := Lib.hid hb
      clear hOr hyl hc1 hc2 hb
      go_wp2_with fail
      go_roundw
      case rel => exact ⟨i + 1, hlt, by go_num, HB.out⟩
      case measure => simp [intOf] <;> omega
    · obtain rfl : i = ny2 := by omega
      have hO5 := HO.out.after hb
      clear hb HO
      have a2 : wr.cell? ⟨g1, 2, none⟩ = some (.slice Ar nr2 cr) := hO5.one.cell 2
      have HO5 := Lib.hid hO5
      clear hO5
      go_wp2_with fail
      generalize wr = u5 at *
      go_loopw [81] (fun cn9 wr => ∃ i : Nat, i ≤ nr2 ∧ cn9 = .int .i64 (i : Int) ∧ Below u5.heap.size u5 wr) (fun cn9 _ => (nr2 - (intOf cn9)).toNat)
      case atStart => exact ⟨0, Nat.zero_le _, rfl, Below.refl _ _⟩
      case round =>
        obtain ⟨j, hj, rfl, hb⟩ := hrel
        clear a2
        by_cases hlt : j < nr2
        · have di : (j : Int) < (nr2 : Int) := by omega
          have hOr := HO5.out.after hb
          have hyl : rd.rl.length = nr2 := hOr.rl1.1
          obtain ⟨p1, o1, e1, _, hc1⟩ := hOr.rl1.2.2 (by show 0 < nr2; omega)
          replace e1 : Ar = some ⟨p1, o1, none⟩ := e1
          subst e1
          obtain ⟨p2, o2, e2, hpl2, hc2⟩ := hOr.rl2.2.2 (by show 0 < nr2; omega)
          replace e2 : Aq = some ⟨p2, o2, none⟩ := e2
          subst e2
          have hr := hOr.rl1.2.range rfl (j := j) hlt
          have hr2 := hOr.rl2.2.range rfl (j := j) hlt
          have hv := HWF.out.rf (rd.rl.getD j rl0) (by rw [List.getD_eq_getElem?_getD, List.getElem?_eq_getElem (by rw [hyl]; exact hlt)]; exact List.getElem_mem _)
          change wr.rangeAt p1 (o1 + j * 4) ((List.range 4).map (rlE (rd.rl.getD j rl0))) at hr
          change wr.rangeAt p2 (o2 + j * 4) ((List.range 4).map (rlR (rd.rl.getD j rl0))) at hr2
          generalize rd.rl.getD j rl0 = x at *
          have ha1 := fun w => atL' p1 o1 nr2 cr j di w
          have ha2 := fun w => atR' p2 o2 nr2 cq j di w
          have b3 : wr.cell? ⟨g2, 3, none⟩ = some (.slice (some ⟨p2, o2, none⟩) nr2 cq) := hOr.two.cell 3
          have hg2l := hOr.two.lt
          have w1' : IntKind.i64.wrap (x.a : Int) = (x.a : Int) := i64_in' _ (by have := hv.a; omega)
          have w2' : IntKind.i64.wrap (x.x : Int) = (x.x : Int) := i64_in' _ (by have := hv.x; omega)
          have HB := Lib.hid hb
          have HOR := Lib.hid hOr
          clear hOr hyl hc1 hc2 hb hv
          go_wp2_with (first
            | (refine wp_load_le rfl _ rfl p1 (o1 + j * 4) rfl _ hr ?_)
            | (refine wp_new_el 43 4 _ zeroLE rfl rfl ?_
               intro w1 hG0 hbw1 hzw1)
            | (refine wp_store_tab rfl 43 _ _ rfl _ 0 rfl 4 (rlE x) rfl 4 _ 43 hG0 infoLE4 (by omega) (rlE_one _) ?_
               intro w2 hGx hgx))
          have hb12 := below_only hbw1 hgx (Nat.le_refl _) hbw1.size
          have c0 : w2.cell? ⟨wr.heap.size, 0, none⟩ = some (.int .u32 (x.a : Int)) := hGx.cellTab 0 (by omega)
          have c1 : w2.cell? ⟨wr.heap.size, 1, none⟩ = some (.int .i64 (x.t : Int)) := hGx.cellTab 1 (by omega)
          have c2 : w2.cell? ⟨wr.heap.size, 2, none⟩ = some (.int .i64 (x.s : Int)) := hGx.cellTab 2 (by omega)
          have c3 : w2.cell? ⟨wr.heap.size, 3, none⟩ = some (.int .u32 (x.x : Int)) := hGx.cellTab 3 (by omega)
          replace b3 := (hb12.cell (p := ⟨g2, 3, none⟩) hg2l).trans b3
          have d0 : w2.cell? ⟨p2, o2 + j * 4, none⟩ = some (.int .i64 (x.a : Int)) := (hb12.cell (p := ⟨p2, o2 + j * 4, none⟩) hpl2).trans (by have := hr2 0 _ rfl; rwa [Nat.add_zero] at this)
          have d1 : w2.cell? ⟨p2, o2 + j * 4 + 1, none⟩ = some (.int .i64 (x.t : Int)) := (hb12.cell (p := ⟨p2, o2 + j * 4 + 1, none⟩) hpl2).trans (hr2 1 _ rfl)
          have d2 : w2.cell? ⟨p2, o2 + j * 4 + 2, none⟩ = some (.int .i64 (x.s : Int)) := (hb12.cell (p := ⟨p2, o2 + j * 4 + 2, none⟩) hpl2).trans (hr2 2 _ rfl)
          have d3 : w2.cell? ⟨p2, o2 + j * 4 + 3, none⟩ = some (.int .i64 (x.x : Int)) := (hb12.cell (p := ⟨p2, o2 + j * 4 + 3, none⟩) hpl2).trans (hr2 3 _ rfl)
          have HB12 := Lib.hid (below_trans HB.out hb12)
          clear hbw1 hzw1 hG0 hGx hgx hb12 hr hr2 ha1 hpl2 hg2l
          generalize wr.heap.size = gg at *
          go_quiet (fail)
          go_wp2_with fail
          go_roundw
          case rel => exact ⟨j + 1, hlt, by go_num, below_drewN HB12.out _⟩
          case measure => simp [intOf] <;> omega
        · obtain rfl : j = nr2 := by omega
          have hO6 := HO5.out.after hb
          clear hb HO5
          have a1 : wr.cell? ⟨g1, 1, none⟩ = some (.slice As ns2 cs) := hO6.one.cell 1
          have HO6 := Lib.hid hO6
          clear hO6
          go_wp2_with fail
          generalize wr = u6 at *
          go_loopw [107] (fun cn9 wr => ∃ i : Nat, i ≤ ns2 ∧ cn9 = .int .i64 (i : Int) ∧ Below u6.heap.size u6 wr) (fun cn9 _ => (ns2 - (intOf cn9)).toNat)
          case atStart => exact ⟨0, Nat.zero_le _, rfl, Below.refl _ _⟩
          case round =>
            obtain ⟨j, hj, rfl, hb⟩ := hrel
            clear a1
            by_cases hlj : j < ns2
            · have dj : (j : Int) < (ns2 : Int) := by omega
              have hOr := HO6.out.after hb
              obtain ⟨hl1, T, hC1, hY1⟩ := hOr.ss1
              obtain ⟨hl2, T2, hC2, hY2⟩ := hOr.ss2
              obtain ⟨b1, o1, hA1, _, _⟩ := hC1.2 (by show 0 < ns2; omega)
              replace hA1 : As = some ⟨b1, o1, none⟩ := hA1
              subst hA1
              obtain ⟨b2, o2, hA2, hbl2, hcl2⟩ := hC2.2 (by show 0 < ns2; omega)
              replace hA2 : At = some ⟨b2, o2, none⟩ := hA2
              subst hA2
              have hr := hC1.range rfl (j := j) hlj
              have ha1 := fun w => at_se' b1 o1 ns2 cs j dj w
              have ha2 := fun w => at_sr' b2 o2 ns2 ct j dj w
              have hyl : rd.ss.length = ns2 := hl1
              have hwf := HWF.out.sf (rd.ss.getD j sg0) (by rw [List.getD_eq_getElem?_getD, List.getElem?_eq_getElem (by rw [hyl]; exact hlj)]; exact List.getElem_mem _)
              have d0 : wr.cell? ⟨b2, o2 + j * 4, none⟩ = some (sgR (rd.ss.getD j sg0) (T2 j) 0) := hcl2 j 0 hlj (by decide)
              have d1 : wr.cell? ⟨b2, o2 + j * 4 + 1, none⟩ = some (sgR (rd.ss.getD j sg0) (T2 j) 1) := hcl2 j 1 hlj (by decide)
              have d2 : wr.cell? ⟨b2, o2 + j * 4 + 2, none⟩ = some (sgR (rd.ss.getD j sg0) (T2 j) 2) := hcl2 j 2 hlj (by decide)
              have d3 : wr.cell? ⟨b2, o2 + j * 4 + 3, none⟩ = some (sgR (rd.ss.getD j sg0) (T2 j) 3) := hcl2 j 3 hlj (by decide)
              have y1 := (hY1 j hlj).1
              have y2 := (hY2 j hlj).1
              have b1' : wr.cell? ⟨g2, 1, none⟩ = some (.slice (some ⟨b2, o2, none⟩) ns2 ct) := hOr.two.cell 1
              have hg2l := hOr.two.lt
              change wr.rangeAt b1 (o1 + j * 4) ((List.range 4).map (sgE (rd.ss.getD j sg0) (T j))) at hr
              generalize rd.ss.getD j sg0 = sg at *
              obtain ⟨Ab, nb, cb, hT⟩ := (T j).out
              obtain ⟨Ac, nc, cc, hT2⟩ := (T2 j).out
              rw [hT] at hr y1
              rw [hT2] at d0 d1 d2 d3 y2
              replace d0 : wr.cell? ⟨b2, o2 + j * 4, none⟩ = some (.int .i64 (sg.d : Int)) := d0
              replace d1 : wr.cell? ⟨b2, o2 + j * 4 + 1, none⟩ = some (.int .i64 (sg.z : Int)) := d1
              replace d2 : wr.cell? ⟨b2, o2 + j * 4 + 2, none⟩ = some (.int .i64 (sg.r : Int)) := d2
              replace d3 : wr.cell? ⟨b2, o2 + j * 4 + 3, none⟩ = some (.slice Ac nc cc) := d3
              have w1' : IntKind.i64.wrap (sg.d : Int) = (sg.d : Int) := i64_in' _ (by have := hwf.1; omega)
              have w2' : IntKind.i64.wrap (sg.z : Int) = (sg.z : Int) := i64_in' _ (by have := hwf.2; omega)
              have Y1 := Lib.hid y1
              have Y2 := Lib.hid y2
              have HB := Lib.hid hb
              clear hC1 hC2 hY1 hY2 hcl2 hl1 hl2 hwf hT hT2 y1 y2 hOr hyl hb
              go_wp2_with (first
                | (refine wp_load_se rfl _ rfl b1 (o1 + j * 4) rfl _ hr ?_)
                | (refine wp_new_el 64 4 _ zeroSE rfl rfl ?_
                   intro w1 hG0 hbw1 hzw1)
                | (refine wp_store_tab rfl 64 _ _ rfl _ 0 rfl 4 (sgE sg ⟨Ab, nb, cb⟩) rfl 4 _ 64 hG0 infoSE4 (by omega) (sgE_one _ _) ?_
                   intro w2 hGx hgx))
              have hb12 := below_only hbw1 hgx (Nat.le_refl _) hbw1.size
              have c0 : w2.cell? ⟨wr.heap.size, 0, none⟩ = some (.int .u32 (sg.d : Int)) := hGx.cellTab 0 (by omega)
              have c1' : w2.cell? ⟨wr.heap.size, 1, none⟩ = some (.slice Ab nb cb) := hGx.cellTab 1 (by omega)
              have c2' : w2.cell? ⟨wr.heap.size, 2, none⟩ = some (.int .u32 (sg.z : Int)) := hGx.cellTab 2 (by omega)
              have c3' : w2.cell? ⟨wr.heap.size, 3, none⟩ = some (.int .i64 (sg.r : Int)) := hGx.cellTab 3 (by omega)
              replace d0 := (hb12.cell (p := ⟨b2, o2 + j * 4, none⟩) hbl2).trans d0
              replace d1 := (hb12.cell (p := ⟨b2, o2 + j * 4 + 1, none⟩) hbl2).trans d1
              replace d2 := (hb12.cell (p := ⟨b2, o2 + j * 4 + 2, none⟩) hbl2).trans d2
              replace d3 := (hb12.cell (p := ⟨b2, o2 + j * 4 + 3, none⟩) hbl2).trans d3
              replace b1' := (hb12.cell (p := ⟨g2, 1, none⟩) hg2l).trans b1'
              have hcv1 := fun k => str_conv (SlA.below (SlA.below Y1.out hb12) (below_drewN (Below.refl _ _) k))
              have hcv2 := fun k => str_conv (SlA.below (SlA.below Y2.out hb12) (below_drewN (Below.refl _ _) k))
              dsimp only at hcv1 hcv2
              generalize strB sg.b = sb at *
              have HB12 := Lib.hid (below_trans HB.out hb12)
              clear hbw1 hzw1 hG0 hGx hgx hb12 hr ha1 hbl2 hg2l
              generalize wr.heap.size = gg at *
              go_quiet (fail)
              go_wp2_with fail
              go_roundw
              case rel => exact ⟨j + 1, hlj, by go_num, below_drewN HB12.out _⟩
              case measure => simp [intOf] <;> omega
            · obtain rfl : j = ns2 := by omega
              have hbw := (HO6.out.after hb).bel
              clear hb
              go_wp2_with fail
              go_ret
              exact ⟨rfl, hbw⟩
end Go.Proofs.Ytfdoloonllhodaa
