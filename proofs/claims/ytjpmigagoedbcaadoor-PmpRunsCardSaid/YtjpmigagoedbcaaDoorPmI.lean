/-
Layer 12: what package pmp's calls answer (contracts); the law's example.
-/
import Derived.Test.YtjpmigagoedbcaaDoorPmH
import Derived.Test.YtjpmigagoedbcaaDoorPnT
namespace Go.Proofs.YtjpmigagoedbcaaDoor.Pm
open Go Go.RowKit

def PlanR (gs : List Gr) (e : Ending) (w' : World) : Prop := ∃ A n c, e = .returned (.tuple #[.slice A n c, .int .i64 ((planN gs).2 : Int)]) ∧ SlE w' ⟨A, n, c⟩ (planN gs).1
def RunR (es : List En) (e : Ending) (w' : World) : Prop := ∃ A n c rs, e = .returned (.slice A n c) ∧ SlR w' ⟨A, n, c⟩ rs ∧ RunsOf (byteT (tri 0 es)) rs
/-- what package pmp's calls answer -/
structure PmpOK : Prop where
  plan : ∀ (gs : List Gr) (s : Sl) (w : World), SlG w s gs → gs.length ≤ 40 → Calls Tryd.prog 9 #[s.v] w fun e w' => PlanR gs e w' ∧ Below w.heap.size w w'
  check : ∀ (es : List En) (s : Sl) (at' n right : Nat) (w : World), TabT w → SlE w s es → plainL es → at' < 4294967296 → 1 ≤ n → n ≤ 8 → right ≤ 7 → Calls Tryd.prog 13 #[s.v, .int .u32 (at' : Int), .int .i64 (n : Int), .int .i64 (right : Int)] w fun e w' => e = .returned (.bool (checkT (tri 0 es) at' n right)) ∧ Below w.heap.size w w'
  of : ∀ (b a : Nat) (w : World), b < 256 → a < 4294967296 → Calls Tryd.prog 17 #[.int .u8 (b : Int), .int .u32 (a : Int)] w fun e w' => e = .returned (.agg #[.int .i64 ((b / 8 % 4 : Nat) : Int), .int .i64 ((b % 8 : Nat) : Int), .int .u32 (a : Int)]) ∧ Below w.heap.size w w'
  byte : ∀ (x r a : Nat) (w : World), x ≤ 3 → r ≤ 7 → a < 4294967296 → Calls Tryd.prog 18 #[.agg #[.int .i64 (x : Int), .int .i64 (r : Int), .int .u32 (a : Int)]] w fun e w' => e = .returned (.int .u8 ((r + 8 * x : Nat) : Int)) ∧ Below w.heap.size w w'
/-- what Runs answers -/
structure RunsOK : Prop where
  runs : ∀ (es : List En) (s : Sl) (w : World), TabT w → SlE w s es → plainL es → Calls Tryd.prog 15 #[s.v] w fun e w' => RunR es e w' ∧ Below w.heap.size w w'
theorem rplan_R (gs : List Gr) (s : Sl) (w : World) (hS : SlG w s gs) (h40 : gs.length ≤ 40) : Calls Tryd.prog 10 #[s.v] w fun e w' => PlanR gs e w' ∧ Below w.heap.size w w' := rplan_any gs s w hS (by omega)
/- the example -/
def exG : List Gr := [⟨2147487744, 4096, 5⟩]
def exE : List En := [⟨3, 5, 536872447⟩, ⟨3, 0, 536870911⟩]
theorem ex_plan : planN exG = (exE, 0) := by
  have h1 : exG.all okG = true := by decide
  have h2 : planE exG = exE := by
    show entG ⟨2147487744, 4096, 5⟩ ++ [] ++ [lastE] = _
    have h3 : entG ⟨2147487744, 4096, 5⟩ = [⟨3, 5, 536872447⟩] := by
      unfold entG
      rw [if_neg (by decide), if_pos (by decide +kernel)]
      rfl
    rw [h3]; rfl
  unfold planN
  rw [if_pos h1, h2, if_neg (by decide)]
theorem ex_yes : checkT (tri 0 exE) 2147487744 4 4 = true := by decide +kernel
theorem ex_no : checkT (tri 0 exE) 2147487742 4 1 = false := by decide +kernel
theorem ex_plain : plainL exE := ⟨fun e he => by
  rcases List.mem_cons.1 he with rfl | he
  · exact ⟨by decide, by decide, by decide, by decide⟩
  · rw [List.mem_singleton.1 he]; exact ⟨by decide, by decide, by decide, by decide⟩, by decide⟩
set_option maxRecDepth 100000 in
set_option maxHeartbeats 2000000 in
theorem fit12_any (H : PmpOK) (w : World) (hT : TabT w) : Calls Tryd.prog 8 #[] w fun e w' => e = .returned (.bool true) ∧ Below w.heap.size w w' := by
  go_enter Tryd.func8, Tryd.ntmps8
  go_wp2_with fail
  obtain ⟨wa, hwa, hX, hba, hsa⟩ := one_new w #[.int .u32 2147487744, .int .u32 4096, .int .i64 5] 36
  rw [← hwa]
  have hS : SlG wa ⟨some ⟨w.heap.size, 0, none⟩, 1, 1⟩ exG := ⟨rfl, ⟨⟨Nat.le_refl _, show (1 : Nat) ≤ 140737488355328 by decide⟩, fun _ => ⟨w.heap.size, 0, rfl, hX.lt, fun j i hj hi => by
    obtain rfl : j = 0 := by have : j < 1 := hj; omega
    rw [Nat.zero_mul, Nat.add_zero, Nat.zero_add, hX.cell]
    match i, hi with
    | 0, _ => rfl
    | 1, _ => rfl
    | 2, _ => rfl⟩⟩, fun g hg => by rw [List.mem_singleton.1 hg]; exact ⟨by decide, by decide, by unfold i64ok; decide⟩⟩
  have kP := H.plan exG _ wa hS (by decide)
  clear hwa hS hX hsa
  refine (show Calls Tryd.prog 9 #[.slice (some ⟨w.heap.size, 0, none⟩) 1 1] wa _ from kP).mono ?_
  rintro e w1 ⟨⟨A, n, c, rfl, hE⟩, hb1⟩
  rw [ex_plan] at hE ⊢
  dsimp only at hE ⊢
  have hb2 := hba.trans (hb1.mono hba.size)
  have hn : n = 2 := hE.1.symm
  subst hn
  obtain ⟨b, o, hA, hlb, hc⟩ := hE.2.1.2 (show 0 < 2 by decide)
  dsimp only at hA
  subst hA
  have hn2 := hE.2.1.1
  have c0 : w1.cell? ⟨b, o, none⟩ = some (.int .i64 3) := hc 0 0 (show 0 < 2 by decide) (by decide)
  have c1 : w1.cell? ⟨b, o + 1, none⟩ = some (.int .i64 5) := hc 0 1 (show 0 < 2 by decide) (by decide)
  have c2 : w1.cell? ⟨b, o + 2, none⟩ = some (.int .u32 536872447) := hc 0 2 (show 0 < 2 by decide) (by decide)
  have kY := H.check exE _ 2147487744 4 4 w1 (hT.below hb2) hE ex_plain (by decide) (by decide) (by decide) (by decide)
  rw [ex_yes] at kY
  have HE := Lib.hid hE
  have HB := Lib.hid hb2
  have HT := Lib.hid hT
  clear hc hE hb1 hb2 hba kP hT
  go_wp2_with fail
  refine (show Calls Tryd.prog 13 #[.slice (some ⟨b, o, none⟩) 2 c, .int .u32 2147487744, .int .i64 4, .int .i64 4] w1 _ from kY).mono ?_
  rintro e w2 ⟨rfl, hb3⟩
  have hE2 := HE.out.below hb3
  have hb4 := HB.out.trans (hb3.mono HB.out.size)
  have kN := H.check exE _ 2147487742 4 1 w2 (HT.out.below hb4) hE2 ex_plain (by decide) (by decide) (by decide) (by decide)
  rw [ex_no] at kN
  have HB4 := Lib.hid hb4
  clear hE2 hb3 hb4 kY c0 c1 c2
  go_wp2_with fail
  refine (show Calls Tryd.prog 13 #[.slice (some ⟨b, o, none⟩) 2 c, .int .u32 2147487742, .int .i64 4, .int .i64 1] w2 _ from kN).mono ?_
  rintro e w3 ⟨rfl, hb5⟩
  go_wp2_with fail
  go_ret
  exact ⟨rfl, HB4.out.trans (hb5.mono HB4.out.size)⟩
end Go.Proofs.YtjpmigagoedbcaaDoor.Pm
