/-
Layer 11: package inst's immediate, withImmediate.
-/
import Derived.Test.YtghfbdkfibbhoaaDoorIqB
import Derived.Test.YtghfbdkfibbhoaaDoorIqC
import Derived.Test.YtghfbdkfibbhoaaDoorIqD
import Derived.Test.YtghfbdkfibbhoaaDoorIqE
namespace Go.Proofs.YtghfbdkfibbhoaaDoor
open Go Go.RowKit

set_option maxRecDepth 100000 in
set_option maxHeartbeats 4000000 in
theorem immediate_any (f : Fm) (hf : f ≠ .O) (x : Nat) (w : World) (hx : x < 4294967296) :
    Calls Tryd.prog 37 #[.int .u32 (x : Int), .int .i64 ((fmN f : Nat) : Int)] w fun e w' => e = .returned (.int .u32 ((immL f x : Nat) : Int)) ∧ w = w' := by
  have kU := fun W => immU_any x W hx
  have kJ := fun W => immJ_any x W hx
  have kI := fun W => immI_any x W hx
  have kB := fun W => immB_any x W hx
  have kS := fun W => immS_any x W hx
  have kT : ∀ W, Calls Tryd.prog 34 #[.int .u32 (x : Int), .int .u64 24, .int .u64 20] W fun e w' => e = .returned (.int .u32 ((immL .T x : Nat) : Int)) ∧ W = w' := fun W => part_any x 24 20 W hx (by decide) (by decide) (by decide)
  have kC : ∀ W, Calls Tryd.prog 34 #[.int .u32 (x : Int), .int .u64 31, .int .u64 20] W fun e w' => e = .returned (.int .u32 ((immL .C x : Nat) : Int)) ∧ W = w' := fun W => part_any x 31 20 W hx (by decide) (by decide) (by decide)
  cases f
  case O => exact absurd rfl hf
  all_goals (
    go_enter Tryd.func37, Tryd.ntmps37
    go_wp2_with (first
      | (go_at_call 17; with_reducible refine (kU _).mono ?_; rintro e w2 ⟨rfl, rfl⟩)
      | (go_at_call 18; with_reducible refine (kJ _).mono ?_; rintro e w2 ⟨rfl, rfl⟩)
      | (go_at_call 14; with_reducible refine (kI _).mono ?_; rintro e w2 ⟨rfl, rfl⟩)
      | (go_at_call 16; with_reducible refine (kB _).mono ?_; rintro e w2 ⟨rfl, rfl⟩)
      | (go_at_call 15; with_reducible refine (kS _).mono ?_; rintro e w2 ⟨rfl, rfl⟩)
      | (go_at_call 34; with_reducible refine (kT _).mono ?_; rintro e w2 ⟨rfl, rfl⟩)
      | (go_at_call 34; with_reducible refine (kC _).mono ?_; rintro e w2 ⟨rfl, rfl⟩))
    go_ret
    exact ⟨rfl, rfl⟩)
/-- a word with a number put, as far as it fits -/
def immF (f : Fm) (w n : Nat) : Nat :=
  match f with
  | .U => setL .U w n
  | .J => setL .J w n
  | .I | .C | .Z => setL .I w n
  | .B => setL .B w n
  | .S => setL .S w n
  | .T => withN w 24 20 n
  | _ => w
theorem immF_lt (f : Fm) (w n : Nat) (hw : w < 4294967296) : immF f w n < 4294967296 := by
  cases f <;> (unfold immF; dsimp only; first | exact hw | exact setL_lt _ _ _ hw | exact with_lt _ _ _ _ hw)
set_option maxRecDepth 100000 in
set_option maxHeartbeats 4000000 in
theorem withImmediate_any (f : Fm) (hf : f ≠ .O) (x y : Nat) (w : World) (hx : x < 4294967296) (hy : y < 4294967296) :
    Calls Tryd.prog 41 #[.int .u32 (x : Int), .int .i64 ((fmN f : Nat) : Int), .int .u32 (y : Int)] w fun e w' => e = .returned (.int .u32 ((immF f x y : Nat) : Int)) ∧ w = w' := by
  have kU := fun W => setU_any x y W hx hy
  have kJ := fun W => setJ_any x y W hx hy
  have kI := fun W => setI_any x y W hx hy
  have kB := fun W => setB_any x y W hx hy
  have kS := fun W => setS_any x y W hx hy
  have kT : ∀ W, Calls Tryd.prog 35 #[.int .u32 (x : Int), .int .u64 24, .int .u64 20, .int .u32 (y : Int)] W fun e w' => e = .returned (.int .u32 ((withN x 24 20 y : Nat) : Int)) ∧ W = w' := fun W => with_any x 24 20 y W hx (by decide) (by decide) (by decide) hy
  cases f
  case O => exact absurd rfl hf
  all_goals (
    go_enter Tryd.func41, Tryd.ntmps41
    go_wp2_with (first
      | (go_at_call 22; with_reducible refine (kU _).mono ?_; rintro e w2 ⟨rfl, rfl⟩)
      | (go_at_call 23; with_reducible refine (kJ _).mono ?_; rintro e w2 ⟨rfl, rfl⟩)
      | (go_at_call 19; with_reducible refine (kI _).mono ?_; rintro e w2 ⟨rfl, rfl⟩)
      | (go_at_call 21; with_reducible refine (kB _).mono ?_; rintro e w2 ⟨rfl, rfl⟩)
      | (go_at_call 20; with_reducible refine (kS _).mono ?_; rintro e w2 ⟨rfl, rfl⟩)
      | (go_at_call 35; with_reducible refine (kT _).mono ?_; rintro e w2 ⟨rfl, rfl⟩))
    go_ret
    exact ⟨rfl, rfl⟩)
theorem rd_is : ∀ f : Fm, f ≠ .O → (!amB (fmN f) 3 4 7) = rdB f := by intro f hf; cases f <;> first | rfl | exact absurd rfl hf
theorem r1_is : ∀ f : Fm, f ≠ .O → (!amB (fmN f) 0 1 7) = r1B f := by intro f hf; cases f <;> first | rfl | exact absurd rfl hf
theorem r2_is : ∀ f : Fm, f ≠ .O → amB (fmN f) 3 4 5 = r2B f := by intro f hf; cases f <;> first | rfl | exact absurd rfl hf
end Go.Proofs.YtghfbdkfibbhoaaDoor
