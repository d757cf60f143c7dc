/-
Layer 11: package inst's ImmI, ImmS, ImmB, ImmU, ImmJ.
Layer 11: package inst's SetI, SetS, SetB, SetU, SetJ.
-/
import Derived.Test.YtgpofoggfifnjaaGreatDoorJAh
namespace Go.Proofs.YtgpofoggfifnjaaGreatDoor
open Go Go.RowKit

/-- a form's number in a word, as the program finds it -/
def immL (f : Fm) (w : Nat) : Nat :=
  match f with
  | .I => sgnU (bitsN w 31 20) 12
  | .S => sgnU (bitsN w 31 25 * 32 + bitsN w 11 7) 12
  | .B => sgnU (bitsN w 31 31 * 4096 + bitsN w 7 7 * 2048 + bitsN w 30 25 * 32 + bitsN w 11 8 * 2) 13
  | .J => sgnU (bitsN w 31 31 * 1048576 + bitsN w 19 12 * 4096 + bitsN w 20 20 * 2048 + bitsN w 30 21 * 2) 21
  | .U => bitsN w 31 12 * 4096
  | .T => bitsN w 24 20
  | .C | .Z => bitsN w 31 20
  | _ => 0
theorem immS_lt (w : Nat) : bitsN w 31 25 * 32 + bitsN w 11 7 < 4096 := by
  have h1 : bitsN w 31 25 < 128 := bitsN_lt w 31 25
  have h2 : bitsN w 11 7 < 32 := bitsN_lt w 11 7
  omega
theorem immB_lt (w : Nat) : bitsN w 31 31 * 4096 + bitsN w 7 7 * 2048 + bitsN w 30 25 * 32 + bitsN w 11 8 * 2 < 8192 := by
  have h1 : bitsN w 31 31 < 2 := bitsN_lt w 31 31
  have h2 : bitsN w 7 7 < 2 := bitsN_lt w 7 7
  have h3 : bitsN w 30 25 < 64 := bitsN_lt w 30 25
  have h4 : bitsN w 11 8 < 16 := bitsN_lt w 11 8
  omega
theorem immJ_lt (w : Nat) : bitsN w 31 31 * 1048576 + bitsN w 19 12 * 4096 + bitsN w 20 20 * 2048 + bitsN w 30 21 * 2 < 2097152 := by
  have h1 : bitsN w 31 31 < 2 := bitsN_lt w 31 31
  have h2 : bitsN w 19 12 < 256 := bitsN_lt w 19 12
  have h3 : bitsN w 20 20 < 2 := bitsN_lt w 20 20
  have h4 : bitsN w 30 21 < 1024 := bitsN_lt w 30 21
  omega
theorem immU_is (f : Fm) (w : Nat) (hw : w < 4294967296) : immU f w = immL f w := by
  have hx : bitsN w 31 20 < 4096 := bitsN_lt w 31 20
  have hy : bitsN w 24 20 < 32 := bitsN_lt w 24 20
  cases f <;> (unfold immU immZ immL; dsimp only)
  case I => exact sgnU_is _ 12 (by decide) (by decide) hx
  case S => exact sgnU_is _ 12 (by decide) (by decide) (immS_lt w)
  case B => exact sgnU_is _ 13 (by decide) (by decide) (immB_lt w)
  case J => exact sgnU_is _ 21 (by decide) (by decide) (immJ_lt w)
  case U =>
    rw [sgnU_is _ 32 (by decide) (by decide) (Nat.lt_of_le_of_lt (Nat.sub_le _ _) hw)]
    have e : bitsN w 31 12 * 4096 = w - w % 4096 := by
      show w / 4096 % 1048576 * 4096 = _
      omega
    rw [e]
    unfold sgnU
    have e2 : (2 : Nat) ^ 32 = 4294967296 := by decide
    split <;> omega
  case T => omega
  case C => omega
  case Z => omega
  all_goals rfl
theorem or_add (A b i : Nat) (hb : b < 2 ^ i) (hA : A < 4294967296) (hb2 : b < 4294967296) (hd : A % 2 ^ i = 0) : bits .or .u32 (A : Int) (b : Int) = ((A + b : Nat) : Int) := by
  rw [u32_or_nat _ _ hA hb2]
  have e : A = 2 ^ i * (A / 2 ^ i) := (Nat.mul_div_cancel' (Nat.dvd_of_mod_eq_zero hd)).symm
  rw [e, ← Nat.two_pow_add_eq_or_of_lt hb]
set_option maxRecDepth 100000 in
set_option maxHeartbeats 1000000 in
theorem immI_any (x : Nat) (w : World) (hx : x < 4294967296) :
    Calls Tryz.prog 121 #[.int .u32 (x : Int)] w fun e w' => e = .returned (.int .u32 ((immL .I x : Nat) : Int)) ∧ w = w' := by
  obtain ⟨r, hr⟩ : ∃ r, r = immL .I x := ⟨_, rfl⟩
  rw [← hr]
  unfold immL at hr
  dsimp only at hr
  have k0 : ∀ W, Calls Tryz.prog 98 #[.int .u32 (x : Int), .int .u64 31, .int .u64 20] W fun e w' => e = .returned (.int .u32 ((bitsN x 31 20 : Nat) : Int)) ∧ W = w' := fun W => part_any x 31 20 W hx (by decide) (by decide) (by decide)
  have p0 : bitsN x 31 20 < 4096 := bitsN_lt x 31 20
  generalize bitsN x 31 20 = q0 at *
  have ps := p0
  have kS := fun W => signed12 q0 W ps
  rw [← hr] at kS
  clear hr
  go_enter Tryz.func121, Tryz.ntmps121
  go_wp2_with (first
    | (go_at_call 98; with_reducible refine (k0 _).mono ?_; rintro e w2 ⟨rfl, rfl⟩)
    | (go_at_call 131; with_reducible refine (kS _).mono ?_; rintro e w2 ⟨rfl, rfl⟩))
  go_ret
  exact ⟨rfl, rfl⟩
set_option maxRecDepth 100000 in
set_option maxHeartbeats 1000000 in
theorem immS_any (x : Nat) (w : World) (hx : x < 4294967296) :
    Calls Tryz.prog 123 #[.int .u32 (x : Int)] w fun e w' => e = .returned (.int .u32 ((immL .S x : Nat) : Int)) ∧ w = w' := by
  obtain ⟨r, hr⟩ : ∃ r, r = immL .S x := ⟨_, rfl⟩
  rw [← hr]
  unfold immL at hr
  dsimp only at hr
  have k0 : ∀ W, Calls Tryz.prog 98 #[.int .u32 (x : Int), .int .u64 31, .int .u64 25] W fun e w' => e = .returned (.int .u32 ((bitsN x 31 25 : Nat) : Int)) ∧ W = w' := fun W => part_any x 31 25 W hx (by decide) (by decide) (by decide)
  have p0 : bitsN x 31 25 < 128 := bitsN_lt x 31 25
  generalize bitsN x 31 25 = q0 at *
  have k1 : ∀ W, Calls Tryz.prog 98 #[.int .u32 (x : Int), .int .u64 11, .int .u64 7] W fun e w' => e = .returned (.int .u32 ((bitsN x 11 7 : Nat) : Int)) ∧ W = w' := fun W => part_any x 11 7 W hx (by decide) (by decide) (by decide)
  have p1 : bitsN x 11 7 < 32 := bitsN_lt x 11 7
  generalize bitsN x 11 7 = q1 at *
  obtain ⟨v1, hv1⟩ : ∃ v, v = q0 * 32 + q1 := ⟨_, rfl⟩
  have o1 : bits .or .u32 ((q0 : Int) * 32) ((q1 : Int)) = (v1 : Int) := by
    have h := or_add (q0 * 32) (q1) 5 (by omega) (by omega) (by omega) (by omega)
    rw [← hv1] at h
    rw [← h]
    congr 1 <;> omega
  rw [← hv1] at hr
  have ps : v1 < 4096 := by omega
  have kS := fun W => signed12 v1 W ps
  rw [← hr] at kS
  clear hr hv1
  go_enter Tryz.func123, Tryz.ntmps123
  go_wp2_with (first
    | (go_at_call 98; with_reducible refine (k0 _).mono ?_; rintro e w2 ⟨rfl, rfl⟩)
    | (go_at_call 98; with_reducible refine (k1 _).mono ?_; rintro e w2 ⟨rfl, rfl⟩)
    | (go_at_call 131; with_reducible refine (kS _).mono ?_; rintro e w2 ⟨rfl, rfl⟩))
  go_ret
  exact ⟨rfl, rfl⟩
set_option maxRecDepth 100000 in
set_option maxHeartbeats 1000000 in
theorem immB_any (x : Nat) (w : World) (hx : x < 4294967296) :
    Calls Tryz.prog 122 #[.int .u32 (x : Int)] w fun e w' => e = .returned (.int .u32 ((immL .B x : Nat) : Int)) ∧ w = w' := by
  obtain ⟨r, hr⟩ : ∃ r, r = immL .B x := ⟨_, rfl⟩
  rw [← hr]
  unfold immL at hr
  dsimp only at hr
  have k0 : ∀ W, Calls Tryz.prog 98 #[.int .u32 (x : Int), .int .u64 31, .int .u64 31] W fun e w' => e = .returned (.int .u32 ((bitsN x 31 31 : Nat) : Int)) ∧ W = w' := fun W => part_any x 31 31 W hx (by decide) (by decide) (by decide)
  have p0 : bitsN x 31 31 < 2 := bitsN_lt x 31 31
  generalize bitsN x 31 31 = q0 at *
  have k1 : ∀ W, Calls Tryz.prog 98 #[.int .u32 (x : Int), .int .u64 7, .int .u64 7] W fun e w' => e = .returned (.int .u32 ((bitsN x 7 7 : Nat) : Int)) ∧ W = w' := fun W => part_any x 7 7 W hx (by decide) (by decide) (by decide)
  have p1 : bitsN x 7 7 < 2 := bitsN_lt x 7 7
  generalize bitsN x 7 7 = q1 at *
  have k2 : ∀ W, Calls Tryz.prog 98 #[.int .u32 (x : Int), .int .u64 30, .int .u64 25] W fun e w' => e = .returned (.int .u32 ((bitsN x 30 25 : Nat) : Int)) ∧ W = w' := fun W => part_any x 30 25 W hx (by decide) (by decide) (by decide)
  have p2 : bitsN x 30 25 < 64 := bitsN_lt x 30 25
  generalize bitsN x 30 25 = q2 at *
  have k3 : ∀ W, Calls Tryz.prog 98 #[.int .u32 (x : Int), .int .u64 11, .int .u64 8] W fun e w' => e = .returned (.int .u32 ((bitsN x 11 8 : Nat) : Int)) ∧ W = w' := fun W => part_any x 11 8 W hx (by decide) (by decide) (by decide)
  have p3 : bitsN x 11 8 < 16 := bitsN_lt x 11 8
  generalize bitsN x 11 8 = q3 at *
  obtain ⟨v1, hv1⟩ : ∃ v, v = q0 * 4096 + q1 * 2048 := ⟨_, rfl⟩
  have o1 : bits .or .u32 ((q0 : Int) * 4096) ((q1 : Int) * 2048) = (v1 : Int) := by
    have h := or_add (q0 * 4096) (q1 * 2048) 12 (by omega) (by omega) (by omega) (by omega)
    rw [← hv1] at h
    rw [← h]
    congr 1 <;> omega
  obtain ⟨v2, hv2⟩ : ∃ v, v = v1 + q2 * 32 := ⟨_, rfl⟩
  have o2 : bits .or .u32 ((v1 : Int)) ((q2 : Int) * 32) = (v2 : Int) := by
    have h := or_add (v1) (q2 * 32) 11 (by omega) (by omega) (by omega) (by omega)
    rw [← hv2] at h
    rw [← h]
    congr 1 <;> omega
  obtain ⟨v3, hv3⟩ : ∃ v, v = v2 + q3 * 2 := ⟨_, rfl⟩
  have o3 : bits .or .u32 ((v2 : Int)) ((q3 : Int) * 2) = (v3 : Int) := by
    have h := or_add (v2) (q3 * 2) 5 (by omega) (by omega) (by omega) (by omega)
    rw [← hv3] at h
    rw [← h]
    congr 1 <;> omega
  rw [← hv1, ← hv2, ← hv3] at hr
  have ps : v3 < 8192 := by omega
  have kS := fun W => signed13 v3 W ps
  rw [← hr] at kS
  clear hr hv1 hv2 hv3
  go_enter Tryz.func122, Tryz.ntmps122
  go_wp2_with (first
    | (go_at_call 98; with_reducible refine (k0 _).mono ?_; rintro e w2 ⟨rfl, rfl⟩)
    | (go_at_call 98; with_reducible refine (k1 _).mono ?_; rintro e w2 ⟨rfl, rfl⟩)
    | (go_at_call 98; with_reducible refine (k2 _).mono ?_; rintro e w2 ⟨rfl, rfl⟩)
    | (go_at_call 98; with_reducible refine (k3 _).mono ?_; rintro e w2 ⟨rfl, rfl⟩)
    | (go_at_call 131; with_reducible refine (kS _).mono ?_; rintro e w2 ⟨rfl, rfl⟩))
  go_ret
  exact ⟨rfl, rfl⟩
set_option maxRecDepth 100000 in
set_option maxHeartbeats 1000000 in
theorem immJ_any (x : Nat) (w : World) (hx : x < 4294967296) :
    Calls Tryz.prog 120 #[.int .u32 (x : Int)] w fun e w' => e = .returned (.int .u32 ((immL .J x : Nat) : Int)) ∧ w = w' := by
  obtain ⟨r, hr⟩ : ∃ r, r = immL .J x := ⟨_, rfl⟩
  rw [← hr]
  unfold immL at hr
  dsimp only at hr
  have k0 : ∀ W, Calls Tryz.prog 98 #[.int .u32 (x : Int), .int .u64 31, .int .u64 31] W fun e w' => e = .returned (.int .u32 ((bitsN x 31 31 : Nat) : Int)) ∧ W = w' := fun W => part_any x 31 31 W hx (by decide) (by decide) (by decide)
  have p0 : bitsN x 31 31 < 2 := bitsN_lt x 31 31
  generalize bitsN x 31 31 = q0 at *
  have k1 : ∀ W, Calls Tryz.prog 98 #[.int .u32 (x : Int), .int .u64 19, .int .u64 12] W fun e w' => e = .returned (.int .u32 ((bitsN x 19 12 : Nat) : Int)) ∧ W = w' := fun W => part_any x 19 12 W hx (by decide) (by decide) (by decide)
  have p1 : bitsN x 19 12 < 256 := bitsN_lt x 19 12
  generalize bitsN x 19 12 = q1 at *
  have k2 : ∀ W, Calls Tryz.prog 98 #[.int .u32 (x : Int), .int .u64 20, .int .u64 20] W fun e w' => e = .returned (.int .u32 ((bitsN x 20 20 : Nat) : Int)) ∧ W = w' := fun W => part_any x 20 20 W hx (by decide) (by decide) (by decide)
  have p2 : bitsN x 20 20 < 2 := bitsN_lt x 20 20
  generalize bitsN x 20 20 = q2 at *
  have k3 : ∀ W, Calls Tryz.prog 98 #[.int .u32 (x : Int), .int .u64 30, .int .u64 21] W fun e w' => e = .returned (.int .u32 ((bitsN x 30 21 : Nat) : Int)) ∧ W = w' := fun W => part_any x 30 21 W hx (by decide) (by decide) (by decide)
  have p3 : bitsN x 30 21 < 1024 := bitsN_lt x 30 21
  generalize bitsN x 30 21 = q3 at *
  obtain ⟨v1, hv1⟩ : ∃ v, v = q0 * 1048576 + q1 * 4096 := ⟨_, rfl⟩
  have o1 : bits .or .u32 ((q0 : Int) * 1048576) ((q1 : Int) * 4096) = (v1 : Int) := by
    have h := or_add (q0 * 1048576) (q1 * 4096) 20 (by omega) (by omega) (by omega) (by omega)
    rw [← hv1] at h
    rw [← h]
    congr 1 <;> omega
  obtain ⟨v2, hv2⟩ : ∃ v, v = v1 + q2 * 2048 := ⟨_, rfl⟩
  have o2 : bits .or .u32 ((v1 : Int)) ((q2 : Int) * 2048) = (v2 : Int) := by
    have h := or_add (v1) (q2 * 2048) 12 (by omega) (by omega) (by omega) (by omega)
    rw [← hv2] at h
    rw [← h]
    congr 1 <;> omega
  obtain ⟨v3, hv3⟩ : ∃ v, v = v2 + q3 * 2 := ⟨_, rfl⟩
  have o3 : bits .or .u32 ((v2 : Int)) ((q3 : Int) * 2) = (v3 : Int) := by
    have h := or_add (v2) (q3 * 2) 11 (by omega) (by omega) (by omega) (by omega)
    rw [← hv3] at h
    rw [← h]
    congr 1 <;> omega
  rw [← hv1, ← hv2, ← hv3] at hr
  have ps : v3 < 2097152 := by omega
  have kS := fun W => signed21 v3 W ps
  rw [← hr] at kS
  clear hr hv1 hv2 hv3
  go_enter Tryz.func120, Tryz.ntmps120
  go_wp2_with (first
    | (go_at_call 98; with_reducible refine (k0 _).mono ?_; rintro e w2 ⟨rfl, rfl⟩)
    | (go_at_call 98; with_reducible refine (k1 _).mono ?_; rintro e w2 ⟨rfl, rfl⟩)
    | (go_at_call 98; with_reducible refine (k2 _).mono ?_; rintro e w2 ⟨rfl, rfl⟩)
    | (go_at_call 98; with_reducible refine (k3 _).mono ?_; rintro e w2 ⟨rfl, rfl⟩)
    | (go_at_call 131; with_reducible refine (kS _).mono ?_; rintro e w2 ⟨rfl, rfl⟩))
  go_ret
  exact ⟨rfl, rfl⟩
set_option maxRecDepth 100000 in
set_option maxHeartbeats 1000000 in
theorem immU_any (x : Nat) (w : World) (hx : x < 4294967296) :
    Calls Tryz.prog 119 #[.int .u32 (x : Int)] w fun e w' => e = .returned (.int .u32 ((immL .U x : Nat) : Int)) ∧ w = w' := by
  obtain ⟨r, hr⟩ : ∃ r, r = immL .U x := ⟨_, rfl⟩
  rw [← hr]
  unfold immL at hr
  dsimp only at hr
  have k0 : ∀ W, Calls Tryz.prog 98 #[.int .u32 (x : Int), .int .u64 31, .int .u64 12] W fun e w' => e = .returned (.int .u32 ((bitsN x 31 12 : Nat) : Int)) ∧ W = w' := fun W => part_any x 31 12 W hx (by decide) (by decide) (by decide)
  have p0 : bitsN x 31 12 < 1048576 := bitsN_lt x 31 12
  generalize bitsN x 31 12 = q0 at *
  have e1 : (q0 : Int) * 4096 = (r : Int) := by omega
  have hr4 : r < 4294967296 := by omega
  clear hr
  go_enter Tryz.func119, Tryz.ntmps119
  go_wp2_with (go_at_call 98; with_reducible refine (k0 _).mono ?_; rintro e w2 ⟨rfl, rfl⟩)
  go_ret
  exact ⟨rfl, rfl⟩
end Go.Proofs.YtgpofoggfifnjaaGreatDoor
namespace Go.Proofs.YtgpofoggfifnjaaGreatDoor
open Go Go.RowKit

theorem div_lt32 {y : Nat} (hy : y < 4294967296) (c : Nat) : y / 2 ^ c < 4294967296 := Nat.lt_of_le_of_lt (Nat.div_le_self _ _) hy
set_option maxRecDepth 100000 in
set_option maxHeartbeats 1000000 in
theorem setI_any (x y : Nat) (w : World) (hx : x < 4294967296) (hy : y < 4294967296) :
    Calls Tryz.prog 128 #[.int .u32 (x : Int), .int .u32 (y : Int)] w fun e w' => e = .returned (.int .u32 ((setL .I x y : Nat) : Int)) ∧ w = w' := by
  obtain ⟨r, hr⟩ : ∃ r, r = setL .I x y := ⟨_, rfl⟩
  rw [← hr]
  unfold setL at hr
  dsimp only at hr
  have k0 : ∀ W, Calls Tryz.prog 118 #[.int .u32 (x : Int), .int .u64 31, .int .u64 20, .int .u32 (y : Int)] W fun e w' => e = .returned (.int .u32 ((withN x 31 20 y : Nat) : Int)) ∧ W = w' := fun W => with_any x 31 20 y W hx (by decide) (by decide) (by decide) hy
  have hw0 := with_lt x 31 20 y hx
  generalize withN x 31 20 y = w0 at *
  subst hr
  go_enter Tryz.func128, Tryz.ntmps128
  go_wp2_with (first
    | (go_at_call 118; with_reducible refine (k0 _).mono ?_; rintro e w2 ⟨rfl, rfl⟩))
  go_ret
  exact ⟨rfl, rfl⟩
set_option maxRecDepth 100000 in
set_option maxHeartbeats 1000000 in
theorem setS_any (x y : Nat) (w : World) (hx : x < 4294967296) (hy : y < 4294967296) :
    Calls Tryz.prog 130 #[.int .u32 (x : Int), .int .u32 (y : Int)] w fun e w' => e = .returned (.int .u32 ((setL .S x y : Nat) : Int)) ∧ w = w' := by
  obtain ⟨r, hr⟩ : ∃ r, r = setL .S x y := ⟨_, rfl⟩
  rw [← hr]
  unfold setL at hr
  dsimp only at hr
  have d0 : (y : Int) / 32 = ((y / 2 ^ 5 : Nat) : Int) := by omega
  have hy0 := div_lt32 hy 5
  generalize y / 2 ^ 5 = y0 at *
  have k0 : ∀ W, Calls Tryz.prog 118 #[.int .u32 (x : Int), .int .u64 31, .int .u64 25, .int .u32 (y0 : Int)] W fun e w' => e = .returned (.int .u32 ((withN x 31 25 y0 : Nat) : Int)) ∧ W = w' := fun W => with_any x 31 25 y0 W hx (by decide) (by decide) (by decide) hy0
  have hw0 := with_lt x 31 25 y0 hx
  generalize withN x 31 25 y0 = w0 at *
  have k1 : ∀ W, Calls Tryz.prog 118 #[.int .u32 (w0 : Int), .int .u64 11, .int .u64 7, .int .u32 (y : Int)] W fun e w' => e = .returned (.int .u32 ((withN w0 11 7 y : Nat) : Int)) ∧ W = w' := fun W => with_any w0 11 7 y W hw0 (by decide) (by decide) (by decide) hy
  have hw1 := with_lt w0 11 7 y hw0
  generalize withN w0 11 7 y = w1 at *
  subst hr
  go_enter Tryz.func130, Tryz.ntmps130
  go_wp2_with (first
    | (go_at_call 118; with_reducible refine (k0 _).mono ?_; rintro e w2 ⟨rfl, rfl⟩)
    | (go_at_call 118; with_reducible refine (k1 _).mono ?_; rintro e w2 ⟨rfl, rfl⟩))
  go_ret
  exact ⟨rfl, rfl⟩
set_option maxRecDepth 100000 in
set_option maxHeartbeats 1000000 in
theorem setB_any (x y : Nat) (w : World) (hx : x < 4294967296) (hy : y < 4294967296) :
    Calls Tryz.prog 129 #[.int .u32 (x : Int), .int .u32 (y : Int)] w fun e w' => e = .returned (.int .u32 ((setL .B x y : Nat) : Int)) ∧ w = w' := by
  obtain ⟨r, hr⟩ : ∃ r, r = setL .B x y := ⟨_, rfl⟩
  rw [← hr]
  unfold setL at hr
  dsimp only at hr
  have d0 : (y : Int) / 4096 = ((y / 2 ^ 12 : Nat) : Int) := by omega
  have hy0 := div_lt32 hy 12
  generalize y / 2 ^ 12 = y0 at *
  have k0 : ∀ W, Calls Tryz.prog 118 #[.int .u32 (x : Int), .int .u64 31, .int .u64 31, .int .u32 (y0 : Int)] W fun e w' => e = .returned (.int .u32 ((withN x 31 31 y0 : Nat) : Int)) ∧ W = w' := fun W => with_any x 31 31 y0 W hx (by decide) (by decide) (by decide) hy0
  have hw0 := with_lt x 31 31 y0 hx
  generalize withN x 31 31 y0 = w0 at *
  have d1 : (y : Int) / 2048 = ((y / 2 ^ 11 : Nat) : Int) := by omega
  have hy1 := div_lt32 hy 11
  generalize y / 2 ^ 11 = y1 at *
  have k1 : ∀ W, Calls Tryz.prog 118 #[.int .u32 (w0 : Int), .int .u64 7, .int .u64 7, .int .u32 (y1 : Int)] W fun e w' => e = .returned (.int .u32 ((withN w0 7 7 y1 : Nat) : Int)) ∧ W = w' := fun W => with_any w0 7 7 y1 W hw0 (by decide) (by decide) (by decide) hy1
  have hw1 := with_lt w0 7 7 y1 hw0
  generalize withN w0 7 7 y1 = w1 at *
  have d2 : (y : Int) / 32 = ((y / 2 ^ 5 : Nat) : Int) := by omega
  have hy2 := div_lt32 hy 5
  generalize y / 2 ^ 5 = y2 at *
  have k2 : ∀ W, Calls Tryz.prog 118 #[.int .u32 (w1 : Int), .int .u64 30, .int .u64 25, .int .u32 (y2 : Int)] W fun e w' => e = .returned (.int .u32 ((withN w1 30 25 y2 : Nat) : Int)) ∧ W = w' := fun W => with_any w1 30 25 y2 W hw1 (by decide) (by decide) (by decide) hy2
  have hw2 := with_lt w1 30 25 y2 hw1
  generalize withN w1 30 25 y2 = w2 at *
  have d3 : (y : Int) / 2 = ((y / 2 ^ 1 : Nat) : Int) := by omega
  have hy3 := div_lt32 hy 1
  generalize y / 2 ^ 1 = y3 at *
  have k3 : ∀ W, Calls Tryz.prog 118 #[.int .u32 (w2 : Int), .int .u64 11, .int .u64 8, .int .u32 (y3 : Int)] W fun e w' => e = .returned (.int .u32 ((withN w2 11 8 y3 : Nat) : Int)) ∧ W = w' := fun W => with_any w2 11 8 y3 W hw2 (by decide) (by decide) (by decide) hy3
  have hw3 := with_lt w2 11 8 y3 hw2
  generalize withN w2 11 8 y3 = w3 at *
  subst hr
  go_enter Tryz.func129, Tryz.ntmps129
  go_wp2_with (first
    | (go_at_call 118; with_reducible refine (k0 _).mono ?_; rintro e w2 ⟨rfl, rfl⟩)
    | (go_at_call 118; with_reducible refine (k1 _).mono ?_; rintro e w2 ⟨rfl, rfl⟩)
    | (go_at_call 118; with_reducible refine (k2 _).mono ?_; rintro e w2 ⟨rfl, rfl⟩)
    | (go_at_call 118; with_reducible refine (k3 _).mono ?_; rintro e w2 ⟨rfl, rfl⟩))
  go_ret
  exact ⟨rfl, rfl⟩
set_option maxRecDepth 100000 in
set_option maxHeartbeats 1000000 in
theorem setU_any (x y : Nat) (w : World) (hx : x < 4294967296) (hy : y < 4294967296) :
    Calls Tryz.prog 126 #[.int .u32 (x : Int), .int .u32 (y : Int)] w fun e w' => e = .returned (.int .u32 ((setL .U x y : Nat) : Int)) ∧ w = w' := by
  obtain ⟨r, hr⟩ : ∃ r, r = setL .U x y := ⟨_, rfl⟩
  rw [← hr]
  unfold setL at hr
  dsimp only at hr
  have d0 : (y : Int) / 4096 = ((y / 2 ^ 12 : Nat) : Int) := by omega
  have hy0 := div_lt32 hy 12
  generalize y / 2 ^ 12 = y0 at *
  have k0 : ∀ W, Calls Tryz.prog 118 #[.int .u32 (x : Int), .int .u64 31, .int .u64 12, .int .u32 (y0 : Int)] W fun e w' => e = .returned (.int .u32 ((withN x 31 12 y0 : Nat) : Int)) ∧ W = w' := fun W => with_any x 31 12 y0 W hx (by decide) (by decide) (by decide) hy0
  have hw0 := with_lt x 31 12 y0 hx
  generalize withN x 31 12 y0 = w0 at *
  subst hr
  go_enter Tryz.func126, Tryz.ntmps126
  go_wp2_with (first
    | (go_at_call 118; with_reducible refine (k0 _).mono ?_; rintro e w2 ⟨rfl, rfl⟩))
  go_ret
  exact ⟨rfl, rfl⟩
set_option maxRecDepth 100000 in
set_option maxHeartbeats 1000000 in
theorem setJ_any (x y : Nat) (w : World) (hx : x < 4294967296) (hy : y < 4294967296) :
    Calls Tryz.prog 127 #[.int .u32 (x : Int), .int .u32 (y : Int)] w fun e w' => e = .returned (.int .u32 ((setL .J x y : Nat) : Int)) ∧ w = w' := by
  obtain ⟨r, hr⟩ : ∃ r, r = setL .J x y := ⟨_, rfl⟩
  rw [← hr]
  unfold setL at hr
  dsimp only at hr
  have d0 : (y : Int) / 1048576 = ((y / 2 ^ 20 : Nat) : Int) := by omega
  have hy0 := div_lt32 hy 20
  generalize y / 2 ^ 20 = y0 at *
  have k0 : ∀ W, Calls Tryz.prog 118 #[.int .u32 (x : Int), .int .u64 31, .int .u64 31, .int .u32 (y0 : Int)] W fun e w' => e = .returned (.int .u32 ((withN x 31 31 y0 : Nat) : Int)) ∧ W = w' := fun W => with_any x 31 31 y0 W hx (by decide) (by decide) (by decide) hy0
  have hw0 := with_lt x 31 31 y0 hx
  generalize withN x 31 31 y0 = w0 at *
  have d1 : (y : Int) / 4096 = ((y / 2 ^ 12 : Nat) : Int) := by omega
  have hy1 := div_lt32 hy 12
  generalize y / 2 ^ 12 = y1 at *
  have k1 : ∀ W, Calls Tryz.prog 118 #[.int .u32 (w0 : Int), .int .u64 19, .int .u64 12, .int .u32 (y1 : Int)] W fun e w' => e = .returned (.int .u32 ((withN w0 19 12 y1 : Nat) : Int)) ∧ W = w' := fun W => with_any w0 19 12 y1 W hw0 (by decide) (by decide) (by decide) hy1
  have hw1 := with_lt w0 19 12 y1 hw0
  generalize withN w0 19 12 y1 = w1 at *
  have d2 : (y : Int) / 2048 = ((y / 2 ^ 11 : Nat) : Int) := by omega
  have hy2 := div_lt32 hy 11
  generalize y / 2 ^ 11 = y2 at *
  have k2 : ∀ W, Calls Tryz.prog 118 #[.int .u32 (w1 : Int), .int .u64 20, .int .u64 20, .int .u32 (y2 : Int)] W fun e w' => e = .returned (.int .u32 ((withN w1 20 20 y2 : Nat) : Int)) ∧ W = w' := fun W => with_any w1 20 20 y2 W hw1 (by decide) (by decide) (by decide) hy2
  have hw2 := with_lt w1 20 20 y2 hw1
  generalize withN w1 20 20 y2 = w2 at *
  have d3 : (y : Int) / 2 = ((y / 2 ^ 1 : Nat) : Int) := by omega
  have hy3 := div_lt32 hy 1
  generalize y / 2 ^ 1 = y3 at *
  have k3 : ∀ W, Calls Tryz.prog 118 #[.int .u32 (w2 : Int), .int .u64 30, .int .u64 21, .int .u32 (y3 : Int)] W fun e w' => e = .returned (.int .u32 ((withN w2 30 21 y3 : Nat) : Int)) ∧ W = w' := fun W => with_any w2 30 21 y3 W hw2 (by decide) (by decide) (by decide) hy3
  have hw3 := with_lt w2 30 21 y3 hw2
  generalize withN w2 30 21 y3 = w3 at *
  subst hr
  go_enter Tryz.func127, Tryz.ntmps127
  go_wp2_with (first
    | (go_at_call 118; with_reducible refine (k0 _).mono ?_; rintro e w2 ⟨rfl, rfl⟩)
    | (go_at_call 118; with_reducible refine (k1 _).mono ?_; rintro e w2 ⟨rfl, rfl⟩)
    | (go_at_call 118; with_reducible refine (k2 _).mono ?_; rintro e w2 ⟨rfl, rfl⟩)
    | (go_at_call 118; with_reducible refine (k3 _).mono ?_; rintro e w2 ⟨rfl, rfl⟩))
  go_ret
  exact ⟨rfl, rfl⟩
end Go.Proofs.YtgpofoggfifnjaaGreatDoor
