/-
Package reloc: value.
-/
import Derived.Test.YtegaiphhoinilaaRkC
namespace Go.Proofs.Ytegaiphhoinilaa.Rc
open Go Go.RowKit

/-- what value answers -/
def outU : Go1 → Value
  | .word v => .tuple #[.int .u32 (v : Int), .int .i64 0]
  | .num _ v => .tuple #[.int .u32 (v : Int), .int .i64 0]
  | .bad e => .tuple #[.int .u32 0, .int .i64 e]
theorem out_lo (ss : List Nat) (rs : List Re) (B p : Nat) (t s : Int) (a : Nat) (ht : t = 24 ∨ t = 25) : outU (valP ss rs B ⟨p, t, s, a⟩) = pairC (pairO ss rs B ⟨p, t, s, a⟩) := by
  rw [val_lo ss rs B p s a t (by omega)]
  unfold loP pairO saP
  by_cases ha : a = 0
  · rw [if_pos ha, if_pos ha]
    cases hiP ss B ((symP ss B s + a) % 4294967296) rs with
    | some v => rfl
    | none => rfl
  · rw [if_neg ha, if_neg ha]
    rfl
section
variable (ss : List Nat) (rs : List Re) (p : Nat) (s : Int) (a B en : Nat) (sg rl sy sp : Sl) (w : World)
set_option maxRecDepth 100000 in
set_option maxHeartbeats 4000000 in
theorem kvalue_3 (hS : SlN w sy ss) (hR : SlR w rl rs) (_hw : Re.Wf ⟨p, 3, s, a⟩) (_hB : B < 4294967296) :
    Calls Try.prog 45 #[.agg (prC en B sg rl sy sp), .agg (reC ⟨p, 3, s, a⟩)] w fun e w' => e = .returned (outU (valP ss rs B ⟨p, 3, s, a⟩)) ∧ Below w.heap.size w w' := by
  obtain ⟨u, hu, hP, hRR, hb, hz⟩ := two_new w en B sg rl sy sp ⟨p, 3, s, a⟩
  obtain ⟨A1, n1, c1⟩ := sg
  obtain ⟨A2, n2, c2⟩ := rl
  obtain ⟨A3, n3, c3⟩ := sy
  obtain ⟨A4, n4, c4⟩ := sp
  have p0 : u.cell? ⟨w.heap.size, 0, none⟩ = some (.int .u32 (en : Int)) := hP.cell 0
  have p1 : u.cell? ⟨w.heap.size, 1, none⟩ = some (.slice A1 n1 c1) := hP.cell 1
  have p2 : u.cell? ⟨w.heap.size, 2, none⟩ = some (.slice A2 n2 c2) := hP.cell 2
  have p3 : u.cell? ⟨w.heap.size, 3, none⟩ = some (.slice A3 n3 c3) := hP.cell 3
  have p4 : u.cell? ⟨w.heap.size, 4, none⟩ = some (.int .u32 (B : Int)) := hP.cell 4
  have p5 : u.cell? ⟨w.heap.size, 5, none⟩ = some (.slice A4 n4 c4) := hP.cell 5
  have k0 : u.cell? ⟨w.heap.size + 1, 0, none⟩ = some (.int .u32 (p : Int)) := hRR.cell 0
  have k1 : u.cell? ⟨w.heap.size + 1, 1, none⟩ = some (.int .i64 3) := hRR.cell 1
  have k2 : u.cell? ⟨w.heap.size + 1, 2, none⟩ = some (.int .i64 s) := hRR.cell 2
  have k3 : u.cell? ⟨w.heap.size + 1, 3, none⟩ = some (.int .u32 (a : Int)) := hRR.cell 3
  have hs : ((B : Int) + (a : Int)) % 4294967296 = (((B + a) % 4294967296 : Nat) : Int) := by omega
  rw [val_3]
  generalize (B + a) % 4294967296 = v at *
  have HB := Lib.hid hb
  clear hP hRR hb hz hS hR _hw
  go_enter Try.func45, Try.ntmps45
  go_upto_region 1 with fail
  replace hu := hu.symm
  change _ = u at hu
  rw [hu]
  clear hu
  go_wp2_with fail
  go_ret2
  first | exact ⟨rfl, HB.out⟩ | exact ⟨congrArg (fun z => Ending.returned (Value.tuple #[.int .u32 z, .int .i64 0])) hs, HB.out⟩
set_option maxRecDepth 100000 in
set_option maxHeartbeats 4000000 in
theorem kvalue_1 (hS : SlN w sy ss) (hR : SlR w rl rs) (hw : Re.Wf ⟨p, 1, s, a⟩) (hB : B < 4294967296) :
    Calls Try.prog 45 #[.agg (prC en B sg rl sy sp), .agg (reC ⟨p, 1, s, a⟩)] w fun e w' => e = .returned (outU (valP ss rs B ⟨p, 1, s, a⟩)) ∧ Below w.heap.size w w' := by
  obtain ⟨u, hu, hP, hRR, hb, hz⟩ := two_new w en B sg rl sy sp ⟨p, 1, s, a⟩
  obtain ⟨A1, n1, c1⟩ := sg
  obtain ⟨A2, n2, c2⟩ := rl
  obtain ⟨A3, n3, c3⟩ := sy
  obtain ⟨A4, n4, c4⟩ := sp
  have p0 : u.cell? ⟨w.heap.size, 0, none⟩ = some (.int .u32 (en : Int)) := hP.cell 0
  have p1 : u.cell? ⟨w.heap.size, 1, none⟩ = some (.slice A1 n1 c1) := hP.cell 1
  have p2 : u.cell? ⟨w.heap.size, 2, none⟩ = some (.slice A2 n2 c2) := hP.cell 2
  have p3 : u.cell? ⟨w.heap.size, 3, none⟩ = some (.slice A3 n3 c3) := hP.cell 3
  have p4 : u.cell? ⟨w.heap.size, 4, none⟩ = some (.int .u32 (B : Int)) := hP.cell 4
  have p5 : u.cell? ⟨w.heap.size, 5, none⟩ = some (.slice A4 n4 c4) := hP.cell 5
  have k0 : u.cell? ⟨w.heap.size + 1, 0, none⟩ = some (.int .u32 (p : Int)) := hRR.cell 0
  have k1 : u.cell? ⟨w.heap.size + 1, 1, none⟩ = some (.int .i64 1) := hRR.cell 1
  have k2 : u.cell? ⟨w.heap.size + 1, 2, none⟩ = some (.int .i64 s) := hRR.cell 2
  have k3 : u.cell? ⟨w.heap.size + 1, 3, none⟩ = some (.int .u32 (a : Int)) := hRR.cell 3
  have kT : Calls Try.prog 53 #[.agg #[.int .u32 (en : Int), .slice A1 n1 c1, .slice A2 n2 c2, .slice A3 n3 c3, .int .u32 (B : Int), .slice A4 n4 c4], .agg #[.int .u32 (p : Int), .int .i64 1, .int .i64 s, .int .u32 (a : Int)]] u fun e w' => e = .returned (.int .u32 ((saP ss B ⟨p, 1, s, a⟩ : Nat) : Int)) ∧ Below u.heap.size u w' := target_any ss en B ⟨A1, n1, c1⟩ ⟨A2, n2, c2⟩ ⟨A3, n3, c3⟩ ⟨A4, n4, c4⟩ ⟨p, 1, s, a⟩ u (hS.below hb) hw hB
  rw [val_1]
  change Calls _ _ _ _ fun e w' => e = .returned (.tuple #[.int .u32 ((saP ss B ⟨p, 1, s, a⟩ : Nat) : Int), .int .i64 0]) ∧ Below w.heap.size w w'
  generalize saP ss B ⟨p, 1, s, a⟩ = v at *
  have HB := Lib.hid hb
  clear hP hRR hb hz hS hR hw
  go_enter Try.func45, Try.ntmps45
  go_upto_region 1 with fail
  replace hu := hu.symm
  change _ = u at hu
  rw [hu]
  clear hu
  go_wp2_with (go_at_call 53; with_reducible refine kT.mono ?_; rintro e w2 ⟨rfl, hb2⟩)
  go_ret2
  exact ⟨rfl, HB.out.trans (hb2.mono HB.out.size)⟩
set_option maxRecDepth 100000 in
set_option maxHeartbeats 4000000 in
theorem kvalue_26 (hS : SlN w sy ss) (hR : SlR w rl rs) (hw : Re.Wf ⟨p, 26, s, a⟩) (hB : B < 4294967296) :
    Calls Try.prog 45 #[.agg (prC en B sg rl sy sp), .agg (reC ⟨p, 26, s, a⟩)] w fun e w' => e = .returned (outU (valP ss rs B ⟨p, 26, s, a⟩)) ∧ Below w.heap.size w w' := by
  obtain ⟨u, hu, hP, hRR, hb, hz⟩ := two_new w en B sg rl sy sp ⟨p, 26, s, a⟩
  obtain ⟨A1, n1, c1⟩ := sg
  obtain ⟨A2, n2, c2⟩ := rl
  obtain ⟨A3, n3, c3⟩ := sy
  obtain ⟨A4, n4, c4⟩ := sp
  have p0 : u.cell? ⟨w.heap.size, 0, none⟩ = some (.int .u32 (en : Int)) := hP.cell 0
  have p1 : u.cell? ⟨w.heap.size, 1, none⟩ = some (.slice A1 n1 c1) := hP.cell 1
  have p2 : u.cell? ⟨w.heap.size, 2, none⟩ = some (.slice A2 n2 c2) := hP.cell 2
  have p3 : u.cell? ⟨w.heap.size, 3, none⟩ = some (.slice A3 n3 c3) := hP.cell 3
  have p4 : u.cell? ⟨w.heap.size, 4, none⟩ = some (.int .u32 (B : Int)) := hP.cell 4
  have p5 : u.cell? ⟨w.heap.size, 5, none⟩ = some (.slice A4 n4 c4) := hP.cell 5
  have k0 : u.cell? ⟨w.heap.size + 1, 0, none⟩ = some (.int .u32 (p : Int)) := hRR.cell 0
  have k1 : u.cell? ⟨w.heap.size + 1, 1, none⟩ = some (.int .i64 26) := hRR.cell 1
  have k2 : u.cell? ⟨w.heap.size + 1, 2, none⟩ = some (.int .i64 s) := hRR.cell 2
  have k3 : u.cell? ⟨w.heap.size + 1, 3, none⟩ = some (.int .u32 (a : Int)) := hRR.cell 3
  have kT : Calls Try.prog 53 #[.agg #[.int .u32 (en : Int), .slice A1 n1 c1, .slice A2 n2 c2, .slice A3 n3 c3, .int .u32 (B : Int), .slice A4 n4 c4], .agg #[.int .u32 (p : Int), .int .i64 26, .int .i64 s, .int .u32 (a : Int)]] u fun e w' => e = .returned (.int .u32 ((saP ss B ⟨p, 26, s, a⟩ : Nat) : Int)) ∧ Below u.heap.size u w' := target_any ss en B ⟨A1, n1, c1⟩ ⟨A2, n2, c2⟩ ⟨A3, n3, c3⟩ ⟨A4, n4, c4⟩ ⟨p, 26, s, a⟩ u (hS.below hb) hw hB
  rw [val_26]
  change Calls _ _ _ _ fun e w' => e = .returned (.tuple #[.int .u32 ((saP ss B ⟨p, 26, s, a⟩ : Nat) : Int), .int .i64 0]) ∧ Below w.heap.size w w'
  generalize saP ss B ⟨p, 26, s, a⟩ = v at *
  have HB := Lib.hid hb
  clear hP hRR hb hz hS hR hw
  go_enter Try.func45, Try.ntmps45
  go_upto_region 1 with fail
  replace hu := hu.symm
  change _ = u at hu
  rw [hu]
  clear hu
  go_wp2_with (go_at_call 53; with_reducible refine kT.mono ?_; rintro e w2 ⟨rfl, hb2⟩)
  go_ret2
  exact ⟨rfl, HB.out.trans (hb2.mono HB.out.size)⟩
set_option maxRecDepth 100000 in
set_option maxHeartbeats 4000000 in
theorem kvalue_27 (hS : SlN w sy ss) (hR : SlR w rl rs) (hw : Re.Wf ⟨p, 27, s, a⟩) (hB : B < 4294967296) :
    Calls Try.prog 45 #[.agg (prC en B sg rl sy sp), .agg (reC ⟨p, 27, s, a⟩)] w fun e w' => e = .returned (outU (valP ss rs B ⟨p, 27, s, a⟩)) ∧ Below w.heap.size w w' := by
  obtain ⟨u, hu, hP, hRR, hb, hz⟩ := two_new w en B sg rl sy sp ⟨p, 27, s, a⟩
  obtain ⟨A1, n1, c1⟩ := sg
  obtain ⟨A2, n2, c2⟩ := rl
  obtain ⟨A3, n3, c3⟩ := sy
  obtain ⟨A4, n4, c4⟩ := sp
  have p0 : u.cell? ⟨w.heap.size, 0, none⟩ = some (.int .u32 (en : Int)) := hP.cell 0
  have p1 : u.cell? ⟨w.heap.size, 1, none⟩ = some (.slice A1 n1 c1) := hP.cell 1
  have p2 : u.cell? ⟨w.heap.size, 2, none⟩ = some (.slice A2 n2 c2) := hP.cell 2
  have p3 : u.cell? ⟨w.heap.size, 3, none⟩ = some (.slice A3 n3 c3) := hP.cell 3
  have p4 : u.cell? ⟨w.heap.size, 4, none⟩ = some (.int .u32 (B : Int)) := hP.cell 4
  have p5 : u.cell? ⟨w.heap.size, 5, none⟩ = some (.slice A4 n4 c4) := hP.cell 5
  have k0 : u.cell? ⟨w.heap.size + 1, 0, none⟩ = some (.int .u32 (p : Int)) := hRR.cell 0
  have k1 : u.cell? ⟨w.heap.size + 1, 1, none⟩ = some (.int .i64 27) := hRR.cell 1
  have k2 : u.cell? ⟨w.heap.size + 1, 2, none⟩ = some (.int .i64 s) := hRR.cell 2
  have k3 : u.cell? ⟨w.heap.size + 1, 3, none⟩ = some (.int .u32 (a : Int)) := hRR.cell 3
  have kT : Calls Try.prog 53 #[.agg #[.int .u32 (en : Int), .slice A1 n1 c1, .slice A2 n2 c2, .slice A3 n3 c3, .int .u32 (B : Int), .slice A4 n4 c4], .agg #[.int .u32 (p : Int), .int .i64 27, .int .i64 s, .int .u32 (a : Int)]] u fun e w' => e = .returned (.int .u32 ((saP ss B ⟨p, 27, s, a⟩ : Nat) : Int)) ∧ Below u.heap.size u w' := target_any ss en B ⟨A1, n1, c1⟩ ⟨A2, n2, c2⟩ ⟨A3, n3, c3⟩ ⟨A4, n4, c4⟩ ⟨p, 27, s, a⟩ u (hS.below hb) hw hB
  rw [val_27]
  change Calls _ _ _ _ fun e w' => e = .returned (.tuple #[.int .u32 ((saP ss B ⟨p, 27, s, a⟩ : Nat) : Int), .int .i64 0]) ∧ Below w.heap.size w w'
  generalize saP ss B ⟨p, 27, s, a⟩ = v at *
  have HB := Lib.hid hb
  clear hP hRR hb hz hS hR hw
  go_enter Try.func45, Try.ntmps45
  go_upto_region 1 with fail
  replace hu := hu.symm
  change _ = u at hu
  rw [hu]
  clear hu
  go_wp2_with (go_at_call 53; with_reducible refine kT.mono ?_; rintro e w2 ⟨rfl, hb2⟩)
  go_ret2
  exact ⟨rfl, HB.out.trans (hb2.mono HB.out.size)⟩
set_option maxRecDepth 100000 in
set_option maxHeartbeats 4000000 in
theorem kvalue_28 (hS : SlN w sy ss) (hR : SlR w rl rs) (hw : Re.Wf ⟨p, 28, s, a⟩) (hB : B < 4294967296) :
    Calls Try.prog 45 #[.agg (prC en B sg rl sy sp), .agg (reC ⟨p, 28, s, a⟩)] w fun e w' => e = .returned (outU (valP ss rs B ⟨p, 28, s, a⟩)) ∧ Below w.heap.size w w' := by
  obtain ⟨u, hu, hP, hRR, hb, hz⟩ := two_new w en B sg rl sy sp ⟨p, 28, s, a⟩
  obtain ⟨A1, n1, c1⟩ := sg
  obtain ⟨A2, n2, c2⟩ := rl
  obtain ⟨A3, n3, c3⟩ := sy
  obtain ⟨A4, n4, c4⟩ := sp
  have p0 : u.cell? ⟨w.heap.size, 0, none⟩ = some (.int .u32 (en : Int)) := hP.cell 0
  have p1 : u.cell? ⟨w.heap.size, 1, none⟩ = some (.slice A1 n1 c1) := hP.cell 1
  have p2 : u.cell? ⟨w.heap.size, 2, none⟩ = some (.slice A2 n2 c2) := hP.cell 2
  have p3 : u.cell? ⟨w.heap.size, 3, none⟩ = some (.slice A3 n3 c3) := hP.cell 3
  have p4 : u.cell? ⟨w.heap.size, 4, none⟩ = some (.int .u32 (B : Int)) := hP.cell 4
  have p5 : u.cell? ⟨w.heap.size, 5, none⟩ = some (.slice A4 n4 c4) := hP.cell 5
  have k0 : u.cell? ⟨w.heap.size + 1, 0, none⟩ = some (.int .u32 (p : Int)) := hRR.cell 0
  have k1 : u.cell? ⟨w.heap.size + 1, 1, none⟩ = some (.int .i64 28) := hRR.cell 1
  have k2 : u.cell? ⟨w.heap.size + 1, 2, none⟩ = some (.int .i64 s) := hRR.cell 2
  have k3 : u.cell? ⟨w.heap.size + 1, 3, none⟩ = some (.int .u32 (a : Int)) := hRR.cell 3
  have kT : Calls Try.prog 53 #[.agg #[.int .u32 (en : Int), .slice A1 n1 c1, .slice A2 n2 c2, .slice A3 n3 c3, .int .u32 (B : Int), .slice A4 n4 c4], .agg #[.int .u32 (p : Int), .int .i64 28, .int .i64 s, .int .u32 (a : Int)]] u fun e w' => e = .returned (.int .u32 ((saP ss B ⟨p, 28, s, a⟩ : Nat) : Int)) ∧ Below u.heap.size u w' := target_any ss en B ⟨A1, n1, c1⟩ ⟨A2, n2, c2⟩ ⟨A3, n3, c3⟩ ⟨A4, n4, c4⟩ ⟨p, 28, s, a⟩ u (hS.below hb) hw hB
  rw [val_28]
  change Calls _ _ _ _ fun e w' => e = .returned (.tuple #[.int .u32 ((saP ss B ⟨p, 28, s, a⟩ : Nat) : Int), .int .i64 0]) ∧ Below w.heap.size w w'
  generalize saP ss B ⟨p, 28, s, a⟩ = v at *
  have HB := Lib.hid hb
  clear hP hRR hb hz hS hR hw
  go_enter Try.func45, Try.ntmps45
  go_upto_region 1 with fail
  replace hu := hu.symm
  change _ = u at hu
  rw [hu]
  clear hu
  go_wp2_with (go_at_call 53; with_reducible refine kT.mono ?_; rintro e w2 ⟨rfl, hb2⟩)
  go_ret2
  exact ⟨rfl, HB.out.trans (hb2.mono HB.out.size)⟩
set_option maxRecDepth 100000 in
set_option maxHeartbeats 4000000 in
theorem kvalue_24 (hS : SlN w sy ss) (hR : SlR w rl rs) (hw : Re.Wf ⟨p, 24, s, a⟩) (hB : B < 4294967296) :
    Calls Try.prog 45 #[.agg (prC en B sg rl sy sp), .agg (reC ⟨p, 24, s, a⟩)] w fun e w' => e = .returned (outU (valP ss rs B ⟨p, 24, s, a⟩)) ∧ Below w.heap.size w w' := by
  obtain ⟨u, hu, hP, hRR, hb, hz⟩ := two_new w en B sg rl sy sp ⟨p, 24, s, a⟩
  obtain ⟨A1, n1, c1⟩ := sg
  obtain ⟨A2, n2, c2⟩ := rl
  obtain ⟨A3, n3, c3⟩ := sy
  obtain ⟨A4, n4, c4⟩ := sp
  have p0 : u.cell? ⟨w.heap.size, 0, none⟩ = some (.int .u32 (en : Int)) := hP.cell 0
  have p1 : u.cell? ⟨w.heap.size, 1, none⟩ = some (.slice A1 n1 c1) := hP.cell 1
  have p2 : u.cell? ⟨w.heap.size, 2, none⟩ = some (.slice A2 n2 c2) := hP.cell 2
  have p3 : u.cell? ⟨w.heap.size, 3, none⟩ = some (.slice A3 n3 c3) := hP.cell 3
  have p4 : u.cell? ⟨w.heap.size, 4, none⟩ = some (.int .u32 (B : Int)) := hP.cell 4
  have p5 : u.cell? ⟨w.heap.size, 5, none⟩ = some (.slice A4 n4 c4) := hP.cell 5
  have k0 : u.cell? ⟨w.heap.size + 1, 0, none⟩ = some (.int .u32 (p : Int)) := hRR.cell 0
  have k1 : u.cell? ⟨w.heap.size + 1, 1, none⟩ = some (.int .i64 24) := hRR.cell 1
  have k2 : u.cell? ⟨w.heap.size + 1, 2, none⟩ = some (.int .i64 s) := hRR.cell 2
  have k3 : u.cell? ⟨w.heap.size + 1, 3, none⟩ = some (.int .u32 (a : Int)) := hRR.cell 3
  have kT : Calls Try.prog 54 #[.agg #[.int .u32 (en : Int), .slice A1 n1 c1, .slice A2 n2 c2, .slice A3 n3 c3, .int .u32 (B : Int), .slice A4 n4 c4], .agg #[.int .u32 (p : Int), .int .i64 24, .int .i64 s, .int .u32 (a : Int)]] u fun e w' => e = .returned (pairC (pairO ss rs B ⟨p, 24, s, a⟩)) ∧ Below u.heap.size u w' := pair_any ss rs en B ⟨A1, n1, c1⟩ ⟨A2, n2, c2⟩ ⟨A3, n3, c3⟩ ⟨A4, n4, c4⟩ ⟨p, 24, s, a⟩ u (hS.below hb) (hR.below hb) hw hB
  rw [out_lo ss rs B p 24 s a (by decide)]
  have HB := Lib.hid hb
  clear hP hRR hb hz hS hR hw
  generalize pairO ss rs B ⟨p, 24, s, a⟩ = o at kT ⊢
  cases o with
  | some v =>
    dsimp only [pairC] at kT ⊢
    go_enter Try.func45, Try.ntmps45
    go_upto_region 1 with fail
    replace hu := hu.symm
    change _ = u at hu
    rw [hu]
    clear hu
    go_wp2_with (go_at_call 54; with_reducible refine kT.mono ?_; rintro e w2 ⟨rfl, hb2⟩)
    go_ret2
    exact ⟨rfl, HB.out.trans (hb2.mono HB.out.size)⟩
  | none =>
    dsimp only [pairC] at kT ⊢
    go_enter Try.func45, Try.ntmps45
    go_upto_region 1 with fail
    replace hu := hu.symm
    change _ = u at hu
    rw [hu]
    clear hu
    go_wp2_with (go_at_call 54; with_reducible refine kT.mono ?_; rintro e w2 ⟨rfl, hb2⟩)
    go_ret2
    exact ⟨rfl, HB.out.trans (hb2.mono HB.out.size)⟩
set_option maxRecDepth 100000 in
set_option maxHeartbeats 4000000 in
theorem kvalue_25 (hS : SlN w sy ss) (hR : SlR w rl rs) (hw : Re.Wf ⟨p, 25, s, a⟩) (hB : B < 4294967296) :
    Calls Try.prog 45 #[.agg (prC en B sg rl sy sp), .agg (reC ⟨p, 25, s, a⟩)] w fun e w' => e = .returned (outU (valP ss rs B ⟨p, 25, s, a⟩)) ∧ Below w.heap.size w w' := by
  obtain ⟨u, hu, hP, hRR, hb, hz⟩ := two_new w en B sg rl sy sp ⟨p, 25, s, a⟩
  obtain ⟨A1, n1, c1⟩ := sg
  obtain ⟨A2, n2, c2⟩ := rl
  obtain ⟨A3, n3, c3⟩ := sy
  obtain ⟨A4, n4, c4⟩ := sp
  have p0 : u.cell? ⟨w.heap.size, 0, none⟩ = some (.int .u32 (en : Int)) := hP.cell 0
  have p1 : u.cell? ⟨w.heap.size, 1, none⟩ = some (.slice A1 n1 c1) := hP.cell 1
  have p2 : u.cell? ⟨w.heap.size, 2, none⟩ = some (.slice A2 n2 c2) := hP.cell 2
  have p3 : u.cell? ⟨w.heap.size, 3, none⟩ = some (.slice A3 n3 c3) := hP.cell 3
  have p4 : u.cell? ⟨w.heap.size, 4, none⟩ = some (.int .u32 (B : Int)) := hP.cell 4
  have p5 : u.cell? ⟨w.heap.size, 5, none⟩ = some (.slice A4 n4 c4) := hP.cell 5
  have k0 : u.cell? ⟨w.heap.size + 1, 0, none⟩ = some (.int .u32 (p : Int)) := hRR.cell 0
  have k1 : u.cell? ⟨w.heap.size + 1, 1, none⟩ = some (.int .i64 25) := hRR.cell 1
  have k2 : u.cell? ⟨w.heap.size + 1, 2, none⟩ = some (.int .i64 s) := hRR.cell 2
  have k3 : u.cell? ⟨w.heap.size + 1, 3, none⟩ = some (.int .u32 (a : Int)) := hRR.cell 3
  have kT : Calls Try.prog 54 #[.agg #[.int .u32 (en : Int), .slice A1 n1 c1, .slice A2 n2 c2, .slice A3 n3 c3, .int .u32 (B : Int), .slice A4 n4 c4], .agg #[.int .u32 (p : Int), .int .i64 25, .int .i64 s, .int .u32 (a : Int)]] u fun e w' => e = .returned (pairC (pairO ss rs B ⟨p, 25, s, a⟩)) ∧ Below u.heap.size u w' := pair_any ss rs en B ⟨A1, n1, c1⟩ ⟨A2, n2, c2⟩ ⟨A3, n3, c3⟩ ⟨A4, n4, c4⟩ ⟨p, 25, s, a⟩ u (hS.below hb) (hR.below hb) hw hB
  rw [out_lo ss rs B p 25 s a (by decide)]
  have HB := Lib.hid hb
  clear hP hRR hb hz hS hR hw
  generalize pairO ss rs B ⟨p, 25, s, a⟩ = o at kT ⊢
  cases o with
  | some v =>
    dsimp only [pairC] at kT ⊢
    go_enter Try.func45, Try.ntmps45
    go_upto_region 1 with fail
    replace hu := hu.symm
    change _ = u at hu
    rw [hu]
    clear hu
    go_wp2_with (go_at_call 54; with_reducible refine kT.mono ?_; rintro e w2 ⟨rfl, hb2⟩)
    go_ret2
    exact ⟨rfl, HB.out.trans (hb2.mono HB.out.size)⟩
  | none =>
    dsimp only [pairC] at kT ⊢
    go_enter Try.func45, Try.ntmps45
    go_upto_region 1 with fail
    replace hu := hu.symm
    change _ = u at hu
    rw [hu]
    clear hu
    go_wp2_with (go_at_call 54; with_reducible refine kT.mono ?_; rintro e w2 ⟨rfl, hb2⟩)
    go_ret2
    exact ⟨rfl, HB.out.trans (hb2.mono HB.out.size)⟩
set_option maxRecDepth 100000 in
set_option maxHeartbeats 4000000 in
theorem kvalue_18 (hS : SlN w sy ss) (hR : SlR w rl rs) (hw : Re.Wf ⟨p, 18, s, a⟩) (hB : B < 4294967296) :
    Calls Try.prog 45 #[.agg (prC en B sg rl sy sp), .agg (reC ⟨p, 18, s, a⟩)] w fun e w' => e = .returned (outU (valP ss rs B ⟨p, 18, s, a⟩)) ∧ Below w.heap.size w w' := by
  obtain ⟨u, hu, hP, hRR, hb, hz⟩ := two_new w en B sg rl sy sp ⟨p, 18, s, a⟩
  obtain ⟨A1, n1, c1⟩ := sg
  obtain ⟨A2, n2, c2⟩ := rl
  obtain ⟨A3, n3, c3⟩ := sy
  obtain ⟨A4, n4, c4⟩ := sp
  have p0 : u.cell? ⟨w.heap.size, 0, none⟩ = some (.int .u32 (en : Int)) := hP.cell 0
  have p1 : u.cell? ⟨w.heap.size, 1, none⟩ = some (.slice A1 n1 c1) := hP.cell 1
  have p2 : u.cell? ⟨w.heap.size, 2, none⟩ = some (.slice A2 n2 c2) := hP.cell 2
  have p3 : u.cell? ⟨w.heap.size, 3, none⟩ = some (.slice A3 n3 c3) := hP.cell 3
  have p4 : u.cell? ⟨w.heap.size, 4, none⟩ = some (.int .u32 (B : Int)) := hP.cell 4
  have p5 : u.cell? ⟨w.heap.size, 5, none⟩ = some (.slice A4 n4 c4) := hP.cell 5
  have k0 : u.cell? ⟨w.heap.size + 1, 0, none⟩ = some (.int .u32 (p : Int)) := hRR.cell 0
  have k1 : u.cell? ⟨w.heap.size + 1, 1, none⟩ = some (.int .i64 18) := hRR.cell 1
  have k2 : u.cell? ⟨w.heap.size + 1, 2, none⟩ = some (.int .i64 s) := hRR.cell 2
  have k3 : u.cell? ⟨w.heap.size + 1, 3, none⟩ = some (.int .u32 (a : Int)) := hRR.cell 3
  have kT : Calls Try.prog 55 #[.agg #[.int .u32 (en : Int), .slice A1 n1 c1, .slice A2 n2 c2, .slice A3 n3 c3, .int .u32 (B : Int), .slice A4 n4 c4], .agg #[.int .u32 (p : Int), .int .i64 18, .int .i64 s, .int .u32 (a : Int)]] u fun e w' => e = .returned (.int .u32 ((wayP ss B ⟨p, 18, s, a⟩ : Nat) : Int)) ∧ Below u.heap.size u w' := distance_any ss en B ⟨A1, n1, c1⟩ ⟨A2, n2, c2⟩ ⟨A3, n3, c3⟩ ⟨A4, n4, c4⟩ ⟨p, 18, s, a⟩ u (hS.below hb) hw hB
  rw [val_u ss rs B p s a 18 (by decide)]
  change Calls _ _ _ _ fun e w' => e = .returned (.tuple #[.int .u32 ((wayP ss B ⟨p, 18, s, a⟩ : Nat) : Int), .int .i64 0]) ∧ Below w.heap.size w w'
  have HK1 : Hid (∀ W, Below u.heap.size u W → W.cell? ⟨w.heap.size + 1, 1, none⟩ = some (.int .i64 18)) := Lib.hid (fun W hW => (hW.cell (p := ⟨w.heap.size + 1, 1, none⟩) hRR.lt).trans k1)
  generalize wayP ss B ⟨p, 18, s, a⟩ = v at *
  have HB := Lib.hid hb
  clear hP hRR hb hz hS hR hw
  go_enter Try.func45, Try.ntmps45
  go_upto_region 1 with fail
  replace hu := hu.symm
  change _ = u at hu
  rw [hu]
  clear hu
  go_upto_region 12 with fail
  go_wp2_with (go_at_call 55; with_reducible refine kT.mono ?_; rintro e w2 ⟨rfl, hb2⟩; have k1' := HK1.out w2 hb2; clear k0 k1 k2 k3 p0 p1 p2 p3 p4 p5 kT HK1)
  go_ret2
  exact ⟨rfl, HB.out.trans (hb2.mono HB.out.size)⟩
set_option maxRecDepth 100000 in
set_option maxHeartbeats 4000000 in
theorem kvalue_19 (hS : SlN w sy ss) (hR : SlR w rl rs) (hw : Re.Wf ⟨p, 19, s, a⟩) (hB : B < 4294967296) :
    Calls Try.prog 45 #[.agg (prC en B sg rl sy sp), .agg (reC ⟨p, 19, s, a⟩)] w fun e w' => e = .returned (outU (valP ss rs B ⟨p, 19, s, a⟩)) ∧ Below w.heap.size w w' := by
  obtain ⟨u, hu, hP, hRR, hb, hz⟩ := two_new w en B sg rl sy sp ⟨p, 19, s, a⟩
  obtain ⟨A1, n1, c1⟩ := sg
  obtain ⟨A2, n2, c2⟩ := rl
  obtain ⟨A3, n3, c3⟩ := sy
  obtain ⟨A4, n4, c4⟩ := sp
  have p0 : u.cell? ⟨w.heap.size, 0, none⟩ = some (.int .u32 (en : Int)) := hP.cell 0
  have p1 : u.cell? ⟨w.heap.size, 1, none⟩ = some (.slice A1 n1 c1) := hP.cell 1
  have p2 : u.cell? ⟨w.heap.size, 2, none⟩ = some (.slice A2 n2 c2) := hP.cell 2
  have p3 : u.cell? ⟨w.heap.size, 3, none⟩ = some (.slice A3 n3 c3) := hP.cell 3
  have p4 : u.cell? ⟨w.heap.size, 4, none⟩ = some (.int .u32 (B : Int)) := hP.cell 4
  have p5 : u.cell? ⟨w.heap.size, 5, none⟩ = some (.slice A4 n4 c4) := hP.cell 5
  have k0 : u.cell? ⟨w.heap.size + 1, 0, none⟩ = some (.int .u32 (p : Int)) := hRR.cell 0
  have k1 : u.cell? ⟨w.heap.size + 1, 1, none⟩ = some (.int .i64 19) := hRR.cell 1
  have k2 : u.cell? ⟨w.heap.size + 1, 2, none⟩ = some (.int .i64 s) := hRR.cell 2
  have k3 : u.cell? ⟨w.heap.size + 1, 3, none⟩ = some (.int .u32 (a : Int)) := hRR.cell 3
  have kT : Calls Try.prog 55 #[.agg #[.int .u32 (en : Int), .slice A1 n1 c1, .slice A2 n2 c2, .slice A3 n3 c3, .int .u32 (B : Int), .slice A4 n4 c4], .agg #[.int .u32 (p : Int), .int .i64 19, .int .i64 s, .int .u32 (a : Int)]] u fun e w' => e = .returned (.int .u32 ((wayP ss B ⟨p, 19, s, a⟩ : Nat) : Int)) ∧ Below u.heap.size u w' := distance_any ss en B ⟨A1, n1, c1⟩ ⟨A2, n2, c2⟩ ⟨A3, n3, c3⟩ ⟨A4, n4, c4⟩ ⟨p, 19, s, a⟩ u (hS.below hb) hw hB
  rw [val_u ss rs B p s a 19 (by decide)]
  change Calls _ _ _ _ fun e w' => e = .returned (.tuple #[.int .u32 ((wayP ss B ⟨p, 19, s, a⟩ : Nat) : Int), .int .i64 0]) ∧ Below w.heap.size w w'
  have HK1 : Hid (∀ W, Below u.heap.size u W → W.cell? ⟨w.heap.size + 1, 1, none⟩ = some (.int .i64 19)) := Lib.hid (fun W hW => (hW.cell (p := ⟨w.heap.size + 1, 1, none⟩) hRR.lt).trans k1)
  generalize wayP ss B ⟨p, 19, s, a⟩ = v at *
  have HB := Lib.hid hb
  clear hP hRR hb hz hS hR hw
  go_enter Try.func45, Try.ntmps45
  go_upto_region 1 with fail
  replace hu := hu.symm
  change _ = u at hu
  rw [hu]
  clear hu
  go_upto_region 12 with fail
  go_wp2_with (go_at_call 55; with_reducible refine kT.mono ?_; rintro e w2 ⟨rfl, hb2⟩; have k1' := HK1.out w2 hb2; clear k0 k1 k2 k3 p0 p1 p2 p3 p4 p5 kT HK1)
  go_ret2
  exact ⟨rfl, HB.out.trans (hb2.mono HB.out.size)⟩
set_option maxRecDepth 100000 in
set_option maxHeartbeats 4000000 in
theorem kvalue_23 (hS : SlN w sy ss) (hR : SlR w rl rs) (hw : Re.Wf ⟨p, 23, s, a⟩) (hB : B < 4294967296) :
    Calls Try.prog 45 #[.agg (prC en B sg rl sy sp), .agg (reC ⟨p, 23, s, a⟩)] w fun e w' => e = .returned (outU (valP ss rs B ⟨p, 23, s, a⟩)) ∧ Below w.heap.size w w' := by
  obtain ⟨u, hu, hP, hRR, hb, hz⟩ := two_new w en B sg rl sy sp ⟨p, 23, s, a⟩
  obtain ⟨A1, n1, c1⟩ := sg
  obtain ⟨A2, n2, c2⟩ := rl
  obtain ⟨A3, n3, c3⟩ := sy
  obtain ⟨A4, n4, c4⟩ := sp
  have p0 : u.cell? ⟨w.heap.size, 0, none⟩ = some (.int .u32 (en : Int)) := hP.cell 0
  have p1 : u.cell? ⟨w.heap.size, 1, none⟩ = some (.slice A1 n1 c1) := hP.cell 1
  have p2 : u.cell? ⟨w.heap.size, 2, none⟩ = some (.slice A2 n2 c2) := hP.cell 2
  have p3 : u.cell? ⟨w.heap.size, 3, none⟩ = some (.slice A3 n3 c3) := hP.cell 3
  have p4 : u.cell? ⟨w.heap.size, 4, none⟩ = some (.int .u32 (B : Int)) := hP.cell 4
  have p5 : u.cell? ⟨w.heap.size, 5, none⟩ = some (.slice A4 n4 c4) := hP.cell 5
  have k0 : u.cell? ⟨w.heap.size + 1, 0, none⟩ = some (.int .u32 (p : Int)) := hRR.cell 0
  have k1 : u.cell? ⟨w.heap.size + 1, 1, none⟩ = some (.int .i64 23) := hRR.cell 1
  have k2 : u.cell? ⟨w.heap.size + 1, 2, none⟩ = some (.int .i64 s) := hRR.cell 2
  have k3 : u.cell? ⟨w.heap.size + 1, 3, none⟩ = some (.int .u32 (a : Int)) := hRR.cell 3
  have kT : Calls Try.prog 55 #[.agg #[.int .u32 (en : Int), .slice A1 n1 c1, .slice A2 n2 c2, .slice A3 n3 c3, .int .u32 (B : Int), .slice A4 n4 c4], .agg #[.int .u32 (p : Int), .int .i64 23, .int .i64 s, .int .u32 (a : Int)]] u fun e w' => e = .returned (.int .u32 ((wayP ss B ⟨p, 23, s, a⟩ : Nat) : Int)) ∧ Below u.heap.size u w' := distance_any ss en B ⟨A1, n1, c1⟩ ⟨A2, n2, c2⟩ ⟨A3, n3, c3⟩ ⟨A4, n4, c4⟩ ⟨p, 23, s, a⟩ u (hS.below hb) hw hB
  rw [val_u ss rs B p s a 23 (by decide)]
  change Calls _ _ _ _ fun e w' => e = .returned (.tuple #[.int .u32 ((wayP ss B ⟨p, 23, s, a⟩ : Nat) : Int), .int .i64 0]) ∧ Below w.heap.size w w'
  have HK1 : Hid (∀ W, Below u.heap.size u W → W.cell? ⟨w.heap.size + 1, 1, none⟩ = some (.int .i64 23)) := Lib.hid (fun W hW => (hW.cell (p := ⟨w.heap.size + 1, 1, none⟩) hRR.lt).trans k1)
  generalize wayP ss B ⟨p, 23, s, a⟩ = v at *
  have HB := Lib.hid hb
  clear hP hRR hb hz hS hR hw
  go_enter Try.func45, Try.ntmps45
  go_upto_region 1 with fail
  replace hu := hu.symm
  change _ = u at hu
  rw [hu]
  clear hu
  go_upto_region 12 with fail
  go_wp2_with (go_at_call 55; with_reducible refine kT.mono ?_; rintro e w2 ⟨rfl, hb2⟩; have k1' := HK1.out w2 hb2; clear k0 k1 k2 k3 p0 p1 p2 p3 p4 p5 kT HK1)
  go_ret2
  exact ⟨rfl, HB.out.trans (hb2.mono HB.out.size)⟩
set_option maxRecDepth 100000 in
set_option maxHeartbeats 4000000 in
theorem kvalue_16 (hS : SlN w sy ss) (hR : SlR w rl rs) (hw : Re.Wf ⟨p, 16, s, a⟩) (hB : B < 4294967296) :
    Calls Try.prog 45 #[.agg (prC en B sg rl sy sp), .agg (reC ⟨p, 16, s, a⟩)] w fun e w' => e = .returned (outU (valP ss rs B ⟨p, 16, s, a⟩)) ∧ Below w.heap.size w w' := by
  obtain ⟨u, hu, hP, hRR, hb, hz⟩ := two_new w en B sg rl sy sp ⟨p, 16, s, a⟩
  obtain ⟨A1, n1, c1⟩ := sg
  obtain ⟨A2, n2, c2⟩ := rl
  obtain ⟨A3, n3, c3⟩ := sy
  obtain ⟨A4, n4, c4⟩ := sp
  have p0 : u.cell? ⟨w.heap.size, 0, none⟩ = some (.int .u32 (en : Int)) := hP.cell 0
  have p1 : u.cell? ⟨w.heap.size, 1, none⟩ = some (.slice A1 n1 c1) := hP.cell 1
  have p2 : u.cell? ⟨w.heap.size, 2, none⟩ = some (.slice A2 n2 c2) := hP.cell 2
  have p3 : u.cell? ⟨w.heap.size, 3, none⟩ = some (.slice A3 n3 c3) := hP.cell 3
  have p4 : u.cell? ⟨w.heap.size, 4, none⟩ = some (.int .u32 (B : Int)) := hP.cell 4
  have p5 : u.cell? ⟨w.heap.size, 5, none⟩ = some (.slice A4 n4 c4) := hP.cell 5
  have k0 : u.cell? ⟨w.heap.size + 1, 0, none⟩ = some (.int .u32 (p : Int)) := hRR.cell 0
  have k1 : u.cell? ⟨w.heap.size + 1, 1, none⟩ = some (.int .i64 16) := hRR.cell 1
  have k2 : u.cell? ⟨w.heap.size + 1, 2, none⟩ = some (.int .i64 s) := hRR.cell 2
  have k3 : u.cell? ⟨w.heap.size + 1, 3, none⟩ = some (.int .u32 (a : Int)) := hRR.cell 3
  have kT : Calls Try.prog 55 #[.agg #[.int .u32 (en : Int), .slice A1 n1 c1, .slice A2 n2 c2, .slice A3 n3 c3, .int .u32 (B : Int), .slice A4 n4 c4], .agg #[.int .u32 (p : Int), .int .i64 16, .int .i64 s, .int .u32 (a : Int)]] u fun e w' => e = .returned (.int .u32 ((wayP ss B ⟨p, 16, s, a⟩ : Nat) : Int)) ∧ Below u.heap.size u w' := distance_any ss en B ⟨A1, n1, c1⟩ ⟨A2, n2, c2⟩ ⟨A3, n3, c3⟩ ⟨A4, n4, c4⟩ ⟨p, 16, s, a⟩ u (hS.below hb) hw hB
  have hvl : wayP ss B ⟨p, 16, s, a⟩ < 4294967296 := Nat.mod_lt _ (by decide)
  rw [val_16]
  have HK1 : Hid (∀ W, Below u.heap.size u W → W.cell? ⟨w.heap.size + 1, 1, none⟩ = some (.int .i64 16)) := Lib.hid (fun W hW => (hW.cell (p := ⟨w.heap.size + 1, 1, none⟩) hRR.lt).trans k1)
  generalize wayP ss B ⟨p, 16, s, a⟩ = v at *
  have kQ := fun W => reaches_any v 4096 W hvl (by decide) (by decide)
  simp only [Int.cast_ofNat_Int] at kQ
  have HB := Lib.hid hb
  clear hP hRR hb hz hS hR hw
  generalize wayB v 4096 = q at kQ ⊢
  cases q with
  | true =>
    rw [if_pos rfl]
    go_enter Try.func45, Try.ntmps45
    go_upto_region 1 with fail
    replace hu := hu.symm
    change _ = u at hu
    rw [hu]
    clear hu
    go_upto_region 12 with fail
    go_wp2_with (first | (go_at_call 55; with_reducible refine kT.mono ?_; rintro e w2 ⟨rfl, hb2⟩; have k1' := HK1.out w2 hb2; clear k0 k1 k2 k3 p0 p1 p2 p3 p4 p5 kT HK1) | (go_at_call 56; with_reducible refine (kQ _).mono ?_; rintro e w3 ⟨rfl, rfl⟩))
    go_ret2
    exact ⟨rfl, HB.out.trans (hb2.mono HB.out.size)⟩
  | false =>
    rw [if_neg (by decide)]
    go_enter Try.func45, Try.ntmps45
    go_upto_region 1 with fail
    replace hu := hu.symm
    change _ = u at hu
    rw [hu]
    clear hu
    go_upto_region 12 with fail
    go_wp2_with (first | (go_at_call 55; with_reducible refine kT.mono ?_; rintro e w2 ⟨rfl, hb2⟩; have k1' := HK1.out w2 hb2; clear k0 k1 k2 k3 p0 p1 p2 p3 p4 p5 kT HK1) | (go_at_call 56; with_reducible refine (kQ _).mono ?_; rintro e w3 ⟨rfl, rfl⟩))
    go_ret2
    exact ⟨rfl, HB.out.trans (hb2.mono HB.out.size)⟩
set_option maxRecDepth 100000 in
set_option maxHeartbeats 4000000 in
theorem kvalue_17 (hS : SlN w sy ss) (hR : SlR w rl rs) (hw : Re.Wf ⟨p, 17, s, a⟩) (hB : B < 4294967296) :
    Calls Try.prog 45 #[.agg (prC en B sg rl sy sp), .agg (reC ⟨p, 17, s, a⟩)] w fun e w' => e = .returned (outU (valP ss rs B ⟨p, 17, s, a⟩)) ∧ Below w.heap.size w w' := by
  obtain ⟨u, hu, hP, hRR, hb, hz⟩ := two_new w en B sg rl sy sp ⟨p, 17, s, a⟩
  obtain ⟨A1, n1, c1⟩ := sg
  obtain ⟨A2, n2, c2⟩ := rl
  obtain ⟨A3, n3, c3⟩ := sy
  obtain ⟨A4, n4, c4⟩ := sp
  have p0 : u.cell? ⟨w.heap.size, 0, none⟩ = some (.int .u32 (en : Int)) := hP.cell 0
  have p1 : u.cell? ⟨w.heap.size, 1, none⟩ = some (.slice A1 n1 c1) := hP.cell 1
  have p2 : u.cell? ⟨w.heap.size, 2, none⟩ = some (.slice A2 n2 c2) := hP.cell 2
  have p3 : u.cell? ⟨w.heap.size, 3, none⟩ = some (.slice A3 n3 c3) := hP.cell 3
  have p4 : u.cell? ⟨w.heap.size, 4, none⟩ = some (.int .u32 (B : Int)) := hP.cell 4
  have p5 : u.cell? ⟨w.heap.size, 5, none⟩ = some (.slice A4 n4 c4) := hP.cell 5
  have k0 : u.cell? ⟨w.heap.size + 1, 0, none⟩ = some (.int .u32 (p : Int)) := hRR.cell 0
  have k1 : u.cell? ⟨w.heap.size + 1, 1, none⟩ = some (.int .i64 17) := hRR.cell 1
  have k2 : u.cell? ⟨w.heap.size + 1, 2, none⟩ = some (.int .i64 s) := hRR.cell 2
  have k3 : u.cell? ⟨w.heap.size + 1, 3, none⟩ = some (.int .u32 (a : Int)) := hRR.cell 3
  have kT : Calls Try.prog 55 #[.agg #[.int .u32 (en : Int), .slice A1 n1 c1, .slice A2 n2 c2, .slice A3 n3 c3, .int .u32 (B : Int), .slice A4 n4 c4], .agg #[.int .u32 (p : Int), .int .i64 17, .int .i64 s, .int .u32 (a : Int)]] u fun e w' => e = .returned (.int .u32 ((wayP ss B ⟨p, 17, s, a⟩ : Nat) : Int)) ∧ Below u.heap.size u w' := distance_any ss en B ⟨A1, n1, c1⟩ ⟨A2, n2, c2⟩ ⟨A3, n3, c3⟩ ⟨A4, n4, c4⟩ ⟨p, 17, s, a⟩ u (hS.below hb) hw hB
  have hvl : wayP ss B ⟨p, 17, s, a⟩ < 4294967296 := Nat.mod_lt _ (by decide)
  rw [val_17]
  have HK1 : Hid (∀ W, Below u.heap.size u W → W.cell? ⟨w.heap.size + 1, 1, none⟩ = some (.int .i64 17)) := Lib.hid (fun W hW => (hW.cell (p := ⟨w.heap.size + 1, 1, none⟩) hRR.lt).trans k1)
  generalize wayP ss B ⟨p, 17, s, a⟩ = v at *
  have kQ := fun W => reaches_any v 1048576 W hvl (by decide) (by decide)
  simp only [Int.cast_ofNat_Int] at kQ
  have HB := Lib.hid hb
  clear hP hRR hb hz hS hR hw
  generalize wayB v 1048576 = q at kQ ⊢
  cases q with
  | true =>
    rw [if_pos rfl]
    go_enter Try.func45, Try.ntmps45
    go_upto_region 1 with fail
    replace hu := hu.symm
    change _ = u at hu
    rw [hu]
    clear hu
    go_upto_region 12 with fail
    go_wp2_with (first | (go_at_call 55; with_reducible refine kT.mono ?_; rintro e w2 ⟨rfl, hb2⟩; have k1' := HK1.out w2 hb2; clear k0 k1 k2 k3 p0 p1 p2 p3 p4 p5 kT HK1) | (go_at_call 56; with_reducible refine (kQ _).mono ?_; rintro e w3 ⟨rfl, rfl⟩))
    go_ret2
    exact ⟨rfl, HB.out.trans (hb2.mono HB.out.size)⟩
  | false =>
    rw [if_neg (by decide)]
    go_enter Try.func45, Try.ntmps45
    go_upto_region 1 with fail
    replace hu := hu.symm
    change _ = u at hu
    rw [hu]
    clear hu
    go_upto_region 12 with fail
    go_wp2_with (first | (go_at_call 55; with_reducible refine kT.mono ?_; rintro e w2 ⟨rfl, hb2⟩; have k1' := HK1.out w2 hb2; clear k0 k1 k2 k3 p0 p1 p2 p3 p4 p5 kT HK1) | (go_at_call 56; with_reducible refine (kQ _).mono ?_; rintro e w3 ⟨rfl, rfl⟩))
    go_ret2
    exact ⟨rfl, HB.out.trans (hb2.mono HB.out.size)⟩
end
theorem kvalue_any (ss : List Nat) (rs : List Re) (r : Re) (B en : Nat) (sg rl sy sp : Sl) (w : World) (hS : SlN w sy ss) (hR : SlR w rl rs) (hw : r.Wf) (hB : B < 4294967296) (ht : okT r.t) :
    Calls Try.prog 45 #[.agg (prC en B sg rl sy sp), .agg (reC r)] w fun e w' => e = .returned (outU (valP ss rs B r)) ∧ Below w.heap.size w w' := by
  obtain ⟨p, t, s, a⟩ := r
  rcases ht with h | h | h | h | h | h | h | h | h | h | h | h <;> (replace h : t = _ := h; subst h)
  · exact kvalue_1 ss rs p s a B en sg rl sy sp w hS hR hw hB
  · exact kvalue_3 ss rs p s a B en sg rl sy sp w hS hR hw hB
  · exact kvalue_16 ss rs p s a B en sg rl sy sp w hS hR hw hB
  · exact kvalue_17 ss rs p s a B en sg rl sy sp w hS hR hw hB
  · exact kvalue_18 ss rs p s a B en sg rl sy sp w hS hR hw hB
  · exact kvalue_19 ss rs p s a B en sg rl sy sp w hS hR hw hB
  · exact kvalue_23 ss rs p s a B en sg rl sy sp w hS hR hw hB
  · exact kvalue_24 ss rs p s a B en sg rl sy sp w hS hR hw hB
  · exact kvalue_25 ss rs p s a B en sg rl sy sp w hS hR hw hB
  · exact kvalue_26 ss rs p s a B en sg rl sy sp w hS hR hw hB
  · exact kvalue_27 ss rs p s a B en sg rl sy sp w hS hR hw hB
  · exact kvalue_28 ss rs p s a B en sg rl sy sp w hS hR hw hB
end Go.Proofs.Ytegaiphhoinilaa.Rc
