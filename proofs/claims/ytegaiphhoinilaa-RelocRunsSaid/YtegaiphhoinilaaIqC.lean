/-
Layer 11: package inst's SetI, SetS, SetB, SetU, SetJ.
-/
import Derived.Test.YtegaiphhoinilaaIqA
namespace Go.Proofs.Ytegaiphhoinilaa
open Go Go.RowKit

theorem div_lt32 {y : Nat} (hy : y < 4294967296) (c : Nat) : y / 2 ^ c < 4294967296 := Nat.lt_of_le_of_lt (Nat.div_le_self _ _) hy
set_option maxRecDepth 100000 in
set_option maxHeartbeats 1000000 in
theorem setI_any (x y : Nat) (w : World) (hx : x < 4294967296) (hy : y < 4294967296) :
    Calls Try.prog 61 #[.int .u32 (x : Int), .int .u32 (y : Int)] w fun e w' => e = .returned (.int .u32 ((setL .I x y : Nat) : Int)) ∧ w = w' := by
  obtain ⟨r, hr⟩ : ∃ r, r = setL .I x y := ⟨_, rfl⟩
  rw [← hr]
  unfold setL at hr
  dsimp only at hr
  have k0 : ∀ W, Calls Try.prog 65 #[.int .u32 (x : Int), .int .u64 31, .int .u64 20, .int .u32 (y : Int)] W fun e w' => e = .returned (.int .u32 ((withN x 31 20 y : Nat) : Int)) ∧ W = w' := fun W => with_any x 31 20 y W hx (by decide) (by decide) (by decide) hy
  have hw0 := with_lt x 31 20 y hx
  generalize withN x 31 20 y = w0 at *
  subst hr
  go_enter Try.func61, Try.ntmps61
  go_wp2_with (first
    | (go_at_call 65; with_reducible refine (k0 _).mono ?_; rintro e w2 ⟨rfl, rfl⟩))
  go_ret
  exact ⟨rfl, rfl⟩
set_option maxRecDepth 100000 in
set_option maxHeartbeats 1000000 in
theorem setS_any (x y : Nat) (w : World) (hx : x < 4294967296) (hy : y < 4294967296) :
    Calls Try.prog 62 #[.int .u32 (x : Int), .int .u32 (y : Int)] w fun e w' => e = .returned (.int .u32 ((setL .S x y : Nat) : Int)) ∧ w = w' := by
  obtain ⟨r, hr⟩ : ∃ r, r = setL .S x y := ⟨_, rfl⟩
  rw [← hr]
  unfold setL at hr
  dsimp only at hr
  have d0 : (y : Int) / 32 = ((y / 2 ^ 5 : Nat) : Int) := by omega
  have hy0 := div_lt32 hy 5
  generalize y / 2 ^ 5 = y0 at *
  have k0 : ∀ W, Calls Try.prog 65 #[.int .u32 (x : Int), .int .u64 31, .int .u64 25, .int .u32 (y0 : Int)] W fun e w' => e = .returned (.int .u32 ((withN x 31 25 y0 : Nat) : Int)) ∧ W = w' := fun W => with_any x 31 25 y0 W hx (by decide) (by decide) (by decide) hy0
  have hw0 := with_lt x 31 25 y0 hx
  generalize withN x 31 25 y0 = w0 at *
  have k1 : ∀ W, Calls Try.prog 65 #[.int .u32 (w0 : Int), .int .u64 11, .int .u64 7, .int .u32 (y : Int)] W fun e w' => e = .returned (.int .u32 ((withN w0 11 7 y : Nat) : Int)) ∧ W = w' := fun W => with_any w0 11 7 y W hw0 (by decide) (by decide) (by decide) hy
  have hw1 := with_lt w0 11 7 y hw0
  generalize withN w0 11 7 y = w1 at *
  subst hr
  go_enter Try.func62, Try.ntmps62
  go_wp2_with (first
    | (go_at_call 65; with_reducible refine (k0 _).mono ?_; rintro e w2 ⟨rfl, rfl⟩)
    | (go_at_call 65; with_reducible refine (k1 _).mono ?_; rintro e w2 ⟨rfl, rfl⟩))
  go_ret
  exact ⟨rfl, rfl⟩
set_option maxRecDepth 100000 in
set_option maxHeartbeats 1000000 in
theorem setB_any (x y : Nat) (w : World) (hx : x < 4294967296) (hy : y < 4294967296) :
    Calls Try.prog 58 #[.int .u32 (x : Int), .int .u32 (y : Int)] w fun e w' => e = .returned (.int .u32 ((setL .B x y : Nat) : Int)) ∧ w = w' := by
  obtain ⟨r, hr⟩ : ∃ r, r = setL .B x y := ⟨_, rfl⟩
  rw [← hr]
  unfold setL at hr
  dsimp only at hr
  have d0 : (y : Int) / 4096 = ((y / 2 ^ 12 : Nat) : Int) := by omega
  have hy0 := div_lt32 hy 12
  generalize y / 2 ^ 12 = y0 at *
  have k0 : ∀ W, Calls Try.prog 65 #[.int .u32 (x : Int), .int .u64 31, .int .u64 31, .int .u32 (y0 : Int)] W fun e w' => e = .returned (.int .u32 ((withN x 31 31 y0 : Nat) : Int)) ∧ W = w' := fun W => with_any x 31 31 y0 W hx (by decide) (by decide) (by decide) hy0
  have hw0 := with_lt x 31 31 y0 hx
  generalize withN x 31 31 y0 = w0 at *
  have d1 : (y : Int) / 2048 = ((y / 2 ^ 11 : Nat) : Int) := by omega
  have hy1 := div_lt32 hy 11
  generalize y / 2 ^ 11 = y1 at *
  have k1 : ∀ W, Calls Try.prog 65 #[.int .u32 (w0 : Int), .int .u64 7, .int .u64 7, .int .u32 (y1 : Int)] W fun e w' => e = .returned (.int .u32 ((withN w0 7 7 y1 : Nat) : Int)) ∧ W = w' := fun W => with_any w0 7 7 y1 W hw0 (by decide) (by decide) (by decide) hy1
  have hw1 := with_lt w0 7 7 y1 hw0
  generalize withN w0 7 7 y1 = w1 at *
  have d2 : (y : Int) / 32 = ((y / 2 ^ 5 : Nat) : Int) := by omega
  have hy2 := div_lt32 hy 5
  generalize y / 2 ^ 5 = y2 at *
  have k2 : ∀ W, Calls Try.prog 65 #[.int .u32 (w1 : Int), .int .u64 30, .int .u64 25, .int .u32 (y2 : Int)] W fun e w' => e = .returned (.int .u32 ((withN w1 30 25 y2 : Nat) : Int)) ∧ W = w' := fun W => with_any w1 30 25 y2 W hw1 (by decide) (by decide) (by decide) hy2
  have hw2 := with_lt w1 30 25 y2 hw1
  generalize withN w1 30 25 y2 = w2 at *
  have d3 : (y : Int) / 2 = ((y / 2 ^ 1 : Nat) : Int) := by omega
  have hy3 := div_lt32 hy 1
  generalize y / 2 ^ 1 = y3 at *
  have k3 : ∀ W, Calls Try.prog 65 #[.int .u32 (w2 : Int), .int .u64 11, .int .u64 8, .int .u32 (y3 : Int)] W fun e w' => e = .returned (.int .u32 ((withN w2 11 8 y3 : Nat) : Int)) ∧ W = w' := fun W => with_any w2 11 8 y3 W hw2 (by decide) (by decide) (by decide) hy3
  have hw3 := with_lt w2 11 8 y3 hw2
  generalize withN w2 11 8 y3 = w3 at *
  subst hr
  go_enter Try.func58, Try.ntmps58
  go_wp2_with (first
    | (go_at_call 65; with_reducible refine (k0 _).mono ?_; rintro e w2 ⟨rfl, rfl⟩)
    | (go_at_call 65; with_reducible refine (k1 _).mono ?_; rintro e w2 ⟨rfl, rfl⟩)
    | (go_at_call 65; with_reducible refine (k2 _).mono ?_; rintro e w2 ⟨rfl, rfl⟩)
    | (go_at_call 65; with_reducible refine (k3 _).mono ?_; rintro e w2 ⟨rfl, rfl⟩))
  go_ret
  exact ⟨rfl, rfl⟩
set_option maxRecDepth 100000 in
set_option maxHeartbeats 1000000 in
theorem setU_any (x y : Nat) (w : World) (hx : x < 4294967296) (hy : y < 4294967296) :
    Calls Try.prog 60 #[.int .u32 (x : Int), .int .u32 (y : Int)] w fun e w' => e = .returned (.int .u32 ((setL .U x y : Nat) : Int)) ∧ w = w' := by
  obtain ⟨r, hr⟩ : ∃ r, r = setL .U x y := ⟨_, rfl⟩
  rw [← hr]
  unfold setL at hr
  dsimp only at hr
  have d0 : (y : Int) / 4096 = ((y / 2 ^ 12 : Nat) : Int) := by omega
  have hy0 := div_lt32 hy 12
  generalize y / 2 ^ 12 = y0 at *
  have k0 : ∀ W, Calls Try.prog 65 #[.int .u32 (x : Int), .int .u64 31, .int .u64 12, .int .u32 (y0 : Int)] W fun e w' => e = .returned (.int .u32 ((withN x 31 12 y0 : Nat) : Int)) ∧ W = w' := fun W => with_any x 31 12 y0 W hx (by decide) (by decide) (by decide) hy0
  have hw0 := with_lt x 31 12 y0 hx
  generalize withN x 31 12 y0 = w0 at *
  subst hr
  go_enter Try.func60, Try.ntmps60
  go_wp2_with (first
    | (go_at_call 65; with_reducible refine (k0 _).mono ?_; rintro e w2 ⟨rfl, rfl⟩))
  go_ret
  exact ⟨rfl, rfl⟩
set_option maxRecDepth 100000 in
set_option maxHeartbeats 1000000 in
theorem setJ_any (x y : Nat) (w : World) (hx : x < 4294967296) (hy : y < 4294967296) :
    Calls Try.prog 59 #[.int .u32 (x : Int), .int .u32 (y : Int)] w fun e w' => e = .returned (.int .u32 ((setL .J x y : Nat) : Int)) ∧ w = w' := by
  obtain ⟨r, hr⟩ : ∃ r, r = setL .J x y := ⟨_, rfl⟩
  rw [← hr]
  unfold setL at hr
  dsimp only at hr
  have d0 : (y : Int) / 1048576 = ((y / 2 ^ 20 : Nat) : Int) := by omega
  have hy0 := div_lt32 hy 20
  generalize y / 2 ^ 20 = y0 at *
  have k0 : ∀ W, Calls Try.prog 65 #[.int .u32 (x : Int), .int .u64 31, .int .u64 31, .int .u32 (y0 : Int)] W fun e w' => e = .returned (.int .u32 ((withN x 31 31 y0 : Nat) : Int)) ∧ W = w' := fun W => with_any x 31 31 y0 W hx (by decide) (by decide) (by decide) hy0
  have hw0 := with_lt x 31 31 y0 hx
  generalize withN x 31 31 y0 = w0 at *
  have d1 : (y : Int) / 4096 = ((y / 2 ^ 12 : Nat) : Int) := by omega
  have hy1 := div_lt32 hy 12
  generalize y / 2 ^ 12 = y1 at *
  have k1 : ∀ W, Calls Try.prog 65 #[.int .u32 (w0 : Int), .int .u64 19, .int .u64 12, .int .u32 (y1 : Int)] W fun e w' => e = .returned (.int .u32 ((withN w0 19 12 y1 : Nat) : Int)) ∧ W = w' := fun W => with_any w0 19 12 y1 W hw0 (by decide) (by decide) (by decide) hy1
  have hw1 := with_lt w0 19 12 y1 hw0
  generalize withN w0 19 12 y1 = w1 at *
  have d2 : (y : Int) / 2048 = ((y / 2 ^ 11 : Nat) : Int) := by omega
  have hy2 := div_lt32 hy 11
  generalize y / 2 ^ 11 = y2 at *
  have k2 : ∀ W, Calls Try.prog 65 #[.int .u32 (w1 : Int), .int .u64 20, .int .u64 20, .int .u32 (y2 : Int)] W fun e w' => e = .returned (.int .u32 ((withN w1 20 20 y2 : Nat) : Int)) ∧ W = w' := fun W => with_any w1 20 20 y2 W hw1 (by decide) (by decide) (by decide) hy2
  have hw2 := with_lt w1 20 20 y2 hw1
  generalize withN w1 20 20 y2 = w2 at *
  have d3 : (y : Int) / 2 = ((y / 2 ^ 1 : Nat) : Int) := by omega
  have hy3 := div_lt32 hy 1
  generalize y / 2 ^ 1 = y3 at *
  have k3 : ∀ W, Calls Try.prog 65 #[.int .u32 (w2 : Int), .int .u64 30, .int .u64 21, .int .u32 (y3 : Int)] W fun e w' => e = .returned (.int .u32 ((withN w2 30 21 y3 : Nat) : Int)) ∧ W = w' := fun W => with_any w2 30 21 y3 W hw2 (by decide) (by decide) (by decide) hy3
  have hw3 := with_lt w2 30 21 y3 hw2
  generalize withN w2 30 21 y3 = w3 at *
  subst hr
  go_enter Try.func59, Try.ntmps59
  go_wp2_with (first
    | (go_at_call 65; with_reducible refine (k0 _).mono ?_; rintro e w2 ⟨rfl, rfl⟩)
    | (go_at_call 65; with_reducible refine (k1 _).mono ?_; rintro e w2 ⟨rfl, rfl⟩)
    | (go_at_call 65; with_reducible refine (k2 _).mono ?_; rintro e w2 ⟨rfl, rfl⟩)
    | (go_at_call 65; with_reducible refine (k3 _).mono ?_; rintro e w2 ⟨rfl, rfl⟩))
  go_ret
  exact ⟨rfl, rfl⟩
end Go.Proofs.Ytegaiphhoinilaa
