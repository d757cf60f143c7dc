/-
Layer 13: what package reloc's calls answer; RelocUpper.
-/
import Derived.Test.YtegaiphhoinilaaRcG
namespace Go.Proofs.Ytegaiphhoinilaa.Rc
open Go Go.RowKit

/-- package place's spans, with no rights -/
def spG (s : Nat × Nat) : Nat → Value
  | 0 => .int .u32 (s.1 : Int)
  | 1 => .int .u32 (s.2 : Int)
  | _ => .int .i64 0
def SlG (w : World) (s : Sl) (l : List (Nat × Nat)) : Prop := l.length = s.n ∧ (∀ x ∈ l, x.1 < 4294967296 ∧ x.2 < 4294967296) ∧ SlC w s 3 fun j i => spG (l.getD j (0, 0)) i
theorem SlG.below {w w' : World} {s : Sl} {l : List (Nat × Nat)} (h : SlG w s l) (k : Below w.heap.size w w') : SlG w' s l := ⟨h.1, h.2.1, h.2.2.below k⟩
/-- the slices stay while only the memory's block grows -/
def KeepG (w : World) (g : Nat) (ss : List Nat) (rs : List Re) (l : List (Nat × Nat)) (sy rl sp : Sl) : Prop :=
  ∀ w', w.grownBy w' (some g) → SlN w' sy ss ∧ SlR w' rl rs ∧ SlG w' sp l
def nilS : Sl := ⟨none, 0, 0⟩
/-- the spans lie in RAM -/
def inRam (l : List (Nat × Nat)) : Prop := ∀ x ∈ l, 2147483648 ≤ x.1 ∧ x.1 + x.2 ≤ 2147549184
structure RelocOK : Prop where
  upper : ∀ (v : Nat) (w : World), v < 4294967296 → Calls Try.prog 20 #[.int .u32 (v : Int)] w fun e w' => e = .returned (.int .u32 ((upP v : Nat) : Int)) ∧ Below w.heap.size w w'
  none : ∀ (B : Nat) (w : World), B < 4294967296 → Calls Try.prog 11 #[.pointer none, .agg (fC 0 nilS nilS nilS), .int .u32 (B : Int), .slice none 0 0] w fun e w' => e = .returned (.int .i64 1) ∧ Below w.heap.size w w'
  apply : ∀ (ss : List Nat) (rs : List Re) (l : List (Nat × Nat)) (B en g : Nat) (m : Nat → UInt8) (sg rl sy sp : Sl) (w : World), KeepG w g ss rs l sy rl sp → inRam l → B < 4294967296 → rs.length ≤ 10000 → RamP w g m →
    Calls Try.prog 11 #[mP g, .agg (fC en sg rl sy), .int .u32 (B : Int), sp.v] w fun e w' => e = .returned (.int .i64 (allP ss rs B l m rs).1) ∧ RamP w' g (allP ss rs B l m rs).2 ∧ w.grownBy w' (some g)
  more : ∀ (ss : List Nat) (rs : List Re) (l : List (Nat × Nat)) (B en g : Nat) (m : Nat → UInt8) (sg rl sy sp : Sl) (w : World), KeepG w g ss rs l sy rl sp → inRam l → B < 4294967296 → rs.length ≤ 10000 → RamP w g m →
    Calls Try.prog 11 #[mP g, .agg (fC en sg rl sy), .int .u32 (B : Int), sp.v] w fun e w' => e = .returned (.int .i64 (allP ss rs B l m rs).1) ∧ RamP w' g (allP ss rs B l m rs).2 ∧ w.grownBy w' (some g) ∧ w.heap.size < w'.heap.size
/-- what the example asks -/
def FitK : Prop := ∀ w : World, Calls Try.prog 8 #[] w fun e w' => e = .returned (.bool true) ∧ Below w.heap.size w w'
theorem wrap_small (y : Int) (h0 : 0 ≤ y) (h1 : y < 4294967296) (h : y < 2048 ∨ 4294965248 ≤ y) : -2048 ≤ wrap32 y ∧ wrap32 y < 2048 := by unfold wrap32; omega
set_option maxRecDepth 100000 in
set_option maxHeartbeats 2000000 in
theorem upper13_ok (H : RelocOK) (K : FitK) (x : Nat) (w : World) (hx : x < 4294967296) :
    Calls Try.prog 7 #[.int .u32 (x : Int)] w fun e w' => e = .returned (.bool true) ∧ Below w.heap.size w w' := by
  have kF := K w
  have kU := fun W => H.upper x W hx
  have kN := fun W => H.none x W hx
  have kR := fun W => upper_any x W hx
  have hu := upP_le x
  have hd : ((x : Int) - ((upP x : Nat) : Int)) % 4294967296 < 2048 ∨ 4294965248 ≤ ((x : Int) - ((upP x : Nat) : Int)) % 4294967296 := by unfold upP; omega
  generalize upP x = u at *
  go_enter Try.func7, Try.ntmps7
  go_wp2_with fail
  refine kF.mono ?_
  rintro e w1 ⟨rfl, hb1⟩
  dsimp only
  go_wp2_with fail
  refine (kU w1).mono ?_
  rintro e w2 ⟨rfl, hb2⟩
  dsimp only
  clear kF kU
  go_upto_region 5 with fail
  obtain ⟨z, hz⟩ : ∃ z, z = wrap32 (((x : Int) - (u : Int)) % 4294967296) := ⟨_, rfl⟩
  have hz2 : -2048 ≤ z ∧ z < 2048 := by rw [hz]; exact wrap_small _ (by omega) (by omega) hd
  rw [← hz]
  obtain ⟨z1, z2⟩ := hz2
  have hu0 : (u : Int) % 4096 = 0 := by omega
  have hul : u < 4294967296 := hu.1
  have hu1 : (u : Int).tmod 4096 = 0 := by rw [Int.tmod_eq_emod_of_nonneg (by omega)]; exact hu0
  clear hz hd hu
  go_wp2_with fail
  refine (kR w2).mono ?_
  rintro e w3 ⟨rfl, rfl⟩
  dsimp only
  go_wp2_with fail
  refine (kN w2).mono ?_
  rintro e w3 ⟨rfl, hb3⟩
  dsimp only
  go_wp2_with fail
  go_ret
  exact ⟨rfl, hb1.trans ((hb2.trans (hb3.mono hb2.size)).mono hb1.size)⟩
end Go.Proofs.Ytegaiphhoinilaa.Rc
