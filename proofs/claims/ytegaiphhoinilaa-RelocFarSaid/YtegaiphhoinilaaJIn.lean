/-
Layer 11: operations, numbers in a word, as plain data; the reference's bits, sign, mask, Imm.
Layer 11: the reference's Imm.
Layer 11: the reference's list of operations.
-/
import Derived.Test.YtegaiphhoinilaaJaA
import Derived.Test.YtegaiphhoinilaaJaB
import Derived.BigQuiet
import Derived.Lib.Hide
import Derived.Great.BuildSlice
import Derived.Great.FillDense
namespace Go.Proofs.Ytegaiphhoinilaa
open Go Go.RowKit

/-- a form -/
inductive Fm where
  | O | U | J | I | B | S | T | R | F | N | C | Z
deriving DecidableEq
def fmS : Fm → ByteArray
  | .O => ⟨#[]⟩
  | .U => ⟨#[85]⟩
  | .J => ⟨#[74]⟩
  | .I => ⟨#[73]⟩
  | .B => ⟨#[66]⟩
  | .S => ⟨#[83]⟩
  | .T => ⟨#[84]⟩
  | .R => ⟨#[82]⟩
  | .F => ⟨#[70]⟩
  | .N => ⟨#[78]⟩
  | .C => ⟨#[67]⟩
  | .Z => ⟨#[90]⟩
/-- the operations: form and word -/
def opsL : List (Fm × Nat) :=
  [(.O, 0), (.U, 55), (.U, 23), (.J, 111), (.I, 103), (.B, 99), (.B, 4195), (.B, 16483), (.B, 20579), (.B, 24675), (.B, 28771),
   (.I, 3), (.I, 4099), (.I, 8195), (.I, 16387), (.I, 20483), (.S, 35), (.S, 4131), (.S, 8227),
   (.I, 19), (.I, 8211), (.I, 12307), (.I, 16403), (.I, 24595), (.I, 28691), (.T, 4115), (.T, 20499), (.T, 1073762323),
   (.R, 51), (.R, 1073741875), (.R, 4147), (.R, 8243), (.R, 12339), (.R, 16435), (.R, 20531), (.R, 1073762355), (.R, 24627), (.R, 28723),
   (.R, 33554483), (.R, 33558579), (.R, 33562675), (.R, 33566771), (.R, 33570867), (.R, 33574963), (.R, 33579059), (.R, 33583155),
   (.F, 15), (.N, 115), (.N, 1048691), (.N, 807403635), (.N, 273678451), (.C, 4211), (.C, 8307), (.C, 12403), (.Z, 20595), (.Z, 24691), (.Z, 28787)]
def opP (i : Nat) : Fm × Nat := opsL.getD i (.O, 0)
/-- w[a:b] -/
def bitsN (w a b : Nat) : Nat := w / 2 ^ b % 2 ^ (a - b + 1)
theorem bitsN_lt (w a b : Nat) : bitsN w a b < 2 ^ (a - b + 1) := Nat.mod_lt _ (Nat.two_pow_pos _)
/-- a number of n bits, with its sign -/
def sgnZ (x n : Nat) : Int := if x / 2 ^ (n - 1) = 1 then (x : Int) - 2 ^ n else x
def maskN : Fm → Nat
  | .U | .J => 127
  | .I | .S | .B | .C | .Z => 28799
  | .R | .T => 4261441663
  | .F => 28799
  | _ => 4294967295
/-- a form's number in a word -/
def immZ (f : Fm) (w : Nat) : Int :=
  match f with
  | .I => sgnZ (bitsN w 31 20) 12
  | .S => sgnZ (bitsN w 31 25 * 32 + bitsN w 11 7) 12
  | .B => sgnZ (bitsN w 31 31 * 4096 + bitsN w 7 7 * 2048 + bitsN w 30 25 * 32 + bitsN w 11 8 * 2) 13
  | .J => sgnZ (bitsN w 31 31 * 1048576 + bitsN w 19 12 * 4096 + bitsN w 20 20 * 2048 + bitsN w 30 21 * 2) 21
  | .U => sgnZ (w - w % 4096) 32
  | .T => (bitsN w 24 20 : Nat)
  | .C | .Z => (bitsN w 31 20 : Nat)
  | _ => 0
theorem pow_le32 {n : Nat} (h : n ≤ 32) : (2 : Int) ^ n ≤ 4294967296 ∧ 0 < (2 : Int) ^ n := by
  have h1 : (2 : Nat) ^ n ≤ 2 ^ 32 := Nat.pow_le_pow_right (by decide) h
  have h2 := Nat.two_pow_pos n
  have e : (2 : Int) ^ n = ((2 ^ n : Nat) : Int) := by rw [Int.natCast_pow]; rfl
  rw [e]
  generalize (2 : Nat) ^ n = q at *
  have h3 : (2 : Nat) ^ 32 = 4294967296 := by decide
  omega
theorem div_pow (x b : Nat) : (x : Int) / 2 ^ b = ((x / 2 ^ b : Nat) : Int) := by
  rw [Int.natCast_ediv, Int.natCast_pow]; rfl
set_option maxRecDepth 100000 in
set_option maxHeartbeats 1000000 in
theorem sign_any (x n : Nat) (w : World) (hx : x < 4294967296) (hn : 1 ≤ n) (hn2 : n ≤ 32) :
    Calls Try.prog 37 #[.int .i64 (x : Int), .int .i64 (n : Int)] w fun e w' => e = .returned (.int .i64 (sgnZ x n)) ∧ w = w' := by
  have e1 : ((n : Int) - 1).toNat = n - 1 := by omega
  have d0 : 0 ≤ (n : Int) - 1 := by omega
  obtain ⟨hp2, hp0⟩ := pow_le32 hn2
  have hdv := div_pow x (n - 1)
  by_cases h : x / 2 ^ (n - 1) = 1
  · rw [show sgnZ x n = (x : Int) - 2 ^ n from if_pos h]
    have dh : ((x : Int) / 2 ^ (n - 1) == 1) = true := by rw [hdv, h]; rfl
    clear hdv h
    go_enter Try.func37, Try.ntmps37
    go_wp2_with fail
    go_ret
    exact ⟨rfl, rfl⟩
  · rw [show sgnZ x n = (x : Int) from if_neg h]
    have dh : ((x : Int) / 2 ^ (n - 1) == 1) = false := by
      rw [hdv]
      exact beq_eq_false_iff_ne.2 (fun e => h (by omega))
    clear hdv h
    go_enter Try.func37, Try.ntmps37
    go_wp2_with fail
    go_ret
    exact ⟨rfl, rfl⟩
set_option maxRecDepth 100000 in
set_option maxHeartbeats 1000000 in
theorem bits_any (x a b : Nat) (w : World) (hx : x < 4294967296) (hab : b ≤ a) (ha : a ≤ 31) :
    Calls Try.prog 38 #[.int .i64 (x : Int), .int .i64 (a : Int), .int .i64 (b : Int)] w fun e w' => e = .returned (.int .i64 ((bitsN x a b : Nat) : Int)) ∧ ∃ n, w' = w.drewN n := by
  obtain ⟨s, hs⟩ : ∃ s, s = a - b + 1 := ⟨_, rfl⟩
  have hs1 : s ≤ 32 := by omega
  have e1 : (a : Int) - (b : Int) + 1 = (s : Int) := by omega
  obtain ⟨hp2, hp0⟩ := pow_le32 hs1
  go_enter Try.func38, Try.ntmps38
  have hxb := div_pow x b
  have hxl : x / 2 ^ b < 4294967296 := Nat.lt_of_le_of_lt (Nat.div_le_self _ _) hx
  have hbb : (b : Int).toNat = b := by omega
  have hss : (s : Int).toNat = s := by omega
  have hand : bits .and .i64 ((x : Int) / 2 ^ b) ((2 : Int) ^ s - 1) = ((bitsN x a b : Nat) : Int) := by
    have h := i64_and_mask ((x : Int) / 2 ^ b) s (by omega)
    have e : (((2 : Nat) ^ s - 1 : Nat) : Int) = (2 : Int) ^ s - 1 := by
      have h2 := Nat.two_pow_pos s
      have e3 : (2 : Int) ^ s = ((2 ^ s : Nat) : Int) := by rw [Int.natCast_pow]; rfl
      rw [e3]
      generalize (2 : Nat) ^ s = q at *
      omega
    rw [e] at h
    rw [h, hxb]
    unfold bitsN
    rw [← hs, Int.natCast_emod]
  have HS := Lib.hid hs
  clear hs hxb hxl
  go_wp2_with fail
  refine region_quiet_tail (fun w' => ∃ n, w' = w.drewN n) 10 (by kernel_rfl) (by kernel_rfl) ⟨1, rfl⟩ ?_
  simp only [List.take_succ_cons, List.take_zero, List.drop_succ_cons, List.drop_zero]
  refine wpQ_move _ rfl rfl (.int .i64 (x : Int)) rfl ?_
  simp only [Act.put, List.setIfInBounds_toArray, List.set_cons_zero, List.set_cons_succ]
  refine wpQ_move _ rfl rfl (.int .i64 (b : Int)) rfl ?_
  simp only [Act.put, List.setIfInBounds_toArray, List.set_cons_zero, List.set_cons_succ]
  refine wpQ_val rfl (.int .i64 ((x : Int) / 2 ^ b)) (fun _ _ => by go_simp) ?_
  simp only [Act.put, List.setIfInBounds_toArray, List.set_cons_zero, List.set_cons_succ]
  refine wpQ_move _ rfl rfl (.int .i64 (a : Int)) rfl ?_
  simp only [Act.put, List.setIfInBounds_toArray, List.set_cons_zero, List.set_cons_succ]
  refine wpQ_move _ rfl rfl (.int .i64 (b : Int)) rfl ?_
  simp only [Act.put, List.setIfInBounds_toArray, List.set_cons_zero, List.set_cons_succ]
  refine wpQ_val rfl (.int .i64 ((a : Int) - (b : Int))) (fun _ _ => by go_simp; exact IntWalk.i64_in _ (by omega)) ?_
  simp only [Act.put, List.setIfInBounds_toArray, List.set_cons_zero, List.set_cons_succ]
  refine wpQ_val rfl (.int .i64 (s : Int)) (fun _ _ => by go_simp; exact IntWalk.i64_in _ (by omega)) ?_
  simp only [Act.put, List.setIfInBounds_toArray, List.set_cons_zero, List.set_cons_succ]
  refine wpQ_val rfl (.int .i64 ((2 : Int) ^ s)) (fun _ _ => by go_simp; exact IntWalk.i64_in _ (by omega)) ?_
  simp only [Act.put, List.setIfInBounds_toArray, List.set_cons_zero, List.set_cons_succ]
  refine wpQ_val rfl (.int .i64 ((2 : Int) ^ s - 1)) (fun _ _ => by go_simp; exact IntWalk.i64_in _ (by omega)) ?_
  simp only [Act.put, List.setIfInBounds_toArray, List.set_cons_zero, List.set_cons_succ]
  refine wpQ_val rfl (.int .i64 ((bitsN x a b : Nat) : Int)) (fun _ _ => by go_simp) ?_
  simp only [Act.put, List.setIfInBounds_toArray, List.set_cons_zero, List.set_cons_succ]
  refine wpQuiet_nil ?_
  rintro w' ⟨nq, rfl⟩
  go_wp2_with fail
  go_ret
  exact ⟨rfl, nq, rfl⟩
end Go.Proofs.Ytegaiphhoinilaa
namespace Go.Proofs.Ytegaiphhoinilaa
open Go Go.RowKit

set_option maxRecDepth 100000 in
set_option maxHeartbeats 1000000 in
theorem imm_O (x : Nat) (w : World) (_hx : x < 4294967296) :
    Calls Try.prog 16 #[.string (fmS .O), .int .i64 (x : Int)] w fun e w' => e = .returned (.int .i64 (immZ .O x)) ∧ ∃ n, w' = w.drewN n := by
  rw [show fmS .O = ⟨#[]⟩ from rfl, show immZ .O x = 0 from rfl]
  go_enter Try.func16, Try.ntmps16
  go_wp2_with fail
  go_ret
  exact ⟨rfl, 0, rfl⟩
set_option maxRecDepth 100000 in
set_option maxHeartbeats 1000000 in
theorem imm_R (x : Nat) (w : World) (_hx : x < 4294967296) :
    Calls Try.prog 16 #[.string (fmS .R), .int .i64 (x : Int)] w fun e w' => e = .returned (.int .i64 (immZ .R x)) ∧ ∃ n, w' = w.drewN n := by
  rw [show fmS .R = ⟨#[82]⟩ from rfl, show immZ .R x = 0 from rfl]
  go_enter Try.func16, Try.ntmps16
  go_wp2_with fail
  go_ret
  exact ⟨rfl, 0, rfl⟩
set_option maxRecDepth 100000 in
set_option maxHeartbeats 1000000 in
theorem imm_F (x : Nat) (w : World) (_hx : x < 4294967296) :
    Calls Try.prog 16 #[.string (fmS .F), .int .i64 (x : Int)] w fun e w' => e = .returned (.int .i64 (immZ .F x)) ∧ ∃ n, w' = w.drewN n := by
  rw [show fmS .F = ⟨#[70]⟩ from rfl, show immZ .F x = 0 from rfl]
  go_enter Try.func16, Try.ntmps16
  go_wp2_with fail
  go_ret
  exact ⟨rfl, 0, rfl⟩
set_option maxRecDepth 100000 in
set_option maxHeartbeats 1000000 in
theorem imm_N (x : Nat) (w : World) (_hx : x < 4294967296) :
    Calls Try.prog 16 #[.string (fmS .N), .int .i64 (x : Int)] w fun e w' => e = .returned (.int .i64 (immZ .N x)) ∧ ∃ n, w' = w.drewN n := by
  rw [show fmS .N = ⟨#[78]⟩ from rfl, show immZ .N x = 0 from rfl]
  go_enter Try.func16, Try.ntmps16
  go_wp2_with fail
  go_ret
  exact ⟨rfl, 0, rfl⟩
set_option maxRecDepth 100000 in
set_option maxHeartbeats 1000000 in
theorem imm_U (x : Nat) (w : World) (hx : x < 4294967296) :
    Calls Try.prog 16 #[.string (fmS .U), .int .i64 (x : Int)] w fun e w' => e = .returned (.int .i64 (immZ .U x)) ∧ ∃ n, w' = w.drewN n := by
  rw [show fmS .U = ⟨#[85]⟩ from rfl, show immZ .U x = sgnZ (x - x % 4096) 32 from rfl]
  have h4 : (x : Int) - (x : Int) % 4096 = ((x - x % 4096 : Nat) : Int) := by omega
  have h4t : (x : Int).tmod 4096 = (x : Int) % 4096 := Int.tmod_eq_emod_of_nonneg (by omega)
  obtain ⟨v, hv⟩ : ∃ v, v = x - x % 4096 := ⟨_, rfl⟩
  have hv4 : v < 4294967296 := by omega
  rw [← hv] at h4 ⊢
  clear hv
  generalize hr : sgnZ _ _ = rr
  have HR := Lib.hid hr
  clear hr
  go_enter Try.func16, Try.ntmps16
  go_wp2_with fail
  refine (sign_any v 32 _ hv4 (by decide) (by decide)).mono ?_
  rintro e u9 ⟨rfl, rfl⟩
  go_wp2_with fail
  go_ret
  exact ⟨by rw [← HR.out]; rfl, 0, rfl⟩
set_option maxRecDepth 100000 in
set_option maxHeartbeats 1000000 in
theorem imm_J (x : Nat) (w : World) (hx : x < 4294967296) :
    Calls Try.prog 16 #[.string (fmS .J), .int .i64 (x : Int)] w fun e w' => e = .returned (.int .i64 (immZ .J x)) ∧ ∃ n, w' = w.drewN n := by
  rw [show fmS .J = ⟨#[74]⟩ from rfl, show immZ .J x = sgnZ (bitsN x 31 31 * 1048576 + bitsN x 19 12 * 4096 + bitsN x 20 20 * 2048 + bitsN x 30 21 * 2) 21 from rfl]
  generalize hr : sgnZ _ _ = rr
  have HR := Lib.hid hr
  clear hr
  go_enter Try.func16, Try.ntmps16
  go_wp2_with fail
  refine (bits_any x 31 31 _ hx (by decide) (by decide)).mono ?_
  rintro e u0 ⟨rfl, n0, rfl⟩
  have p0 : bitsN x 31 31 < 2 := bitsN_lt x 31 31
  obtain ⟨q0, hq0⟩ : ∃ q, q = bitsN x 31 31 := ⟨_, rfl⟩
  rw [← hq0] at p0 HR ⊢
  clear hq0
  go_wp2_with fail
  refine (bits_any x 19 12 _ hx (by decide) (by decide)).mono ?_
  rintro e u1 ⟨rfl, n1, rfl⟩
  have p1 : bitsN x 19 12 < 256 := bitsN_lt x 19 12
  obtain ⟨q1, hq1⟩ : ∃ q, q = bitsN x 19 12 := ⟨_, rfl⟩
  rw [← hq1] at p1 HR ⊢
  clear hq1
  go_wp2_with fail
  refine (bits_any x 20 20 _ hx (by decide) (by decide)).mono ?_
  rintro e u2 ⟨rfl, n2, rfl⟩
  have p2 : bitsN x 20 20 < 2 := bitsN_lt x 20 20
  obtain ⟨q2, hq2⟩ : ∃ q, q = bitsN x 20 20 := ⟨_, rfl⟩
  rw [← hq2] at p2 HR ⊢
  clear hq2
  go_wp2_with fail
  refine (bits_any x 30 21 _ hx (by decide) (by decide)).mono ?_
  rintro e u3 ⟨rfl, n3, rfl⟩
  have p3 : bitsN x 30 21 < 1024 := bitsN_lt x 30 21
  obtain ⟨q3, hq3⟩ : ∃ q, q = bitsN x 30 21 := ⟨_, rfl⟩
  rw [← hq3] at p3 HR ⊢
  clear hq3
  obtain ⟨v, hv⟩ : ∃ v, v = q0 * 1048576 + q1 * 4096 + q2 * 2048 + q3 * 2 := ⟨_, rfl⟩
  rw [← hv] at HR
  have ev : (q0 : Int) * 1048576 + (q1 : Int) * 4096 + (q2 : Int) * 2048 + (q3 : Int) * 2 = (v : Int) := by omega
  have hv4 : v < 4294967296 := by omega
  clear hv
  go_wp2_with fail
  refine (sign_any v 21 _ (by omega) (by decide) (by decide)).mono ?_
  rintro e u9 ⟨rfl, rfl⟩
  go_wp2_with fail
  go_ret
  exact ⟨by rw [← HR.out]; rfl, _, rfl⟩
set_option maxRecDepth 100000 in
set_option maxHeartbeats 1000000 in
theorem imm_I (x : Nat) (w : World) (hx : x < 4294967296) :
    Calls Try.prog 16 #[.string (fmS .I), .int .i64 (x : Int)] w fun e w' => e = .returned (.int .i64 (immZ .I x)) ∧ ∃ n, w' = w.drewN n := by
  rw [show fmS .I = ⟨#[73]⟩ from rfl, show immZ .I x = sgnZ (bitsN x 31 20) 12 from rfl]
  generalize hr : sgnZ _ _ = rr
  have HR := Lib.hid hr
  clear hr
  go_enter Try.func16, Try.ntmps16
  go_wp2_with fail
  refine (bits_any x 31 20 _ hx (by decide) (by decide)).mono ?_
  rintro e u0 ⟨rfl, n0, rfl⟩
  have p0 : bitsN x 31 20 < 4096 := bitsN_lt x 31 20
  obtain ⟨q0, hq0⟩ : ∃ q, q = bitsN x 31 20 := ⟨_, rfl⟩
  rw [← hq0] at p0 HR ⊢
  clear hq0
  go_wp2_with fail
  refine (sign_any q0 12 _ (by omega) (by decide) (by decide)).mono ?_
  rintro e u9 ⟨rfl, rfl⟩
  go_wp2_with fail
  go_ret
  exact ⟨by rw [← HR.out]; rfl, _, rfl⟩
set_option maxRecDepth 100000 in
set_option maxHeartbeats 1000000 in
theorem imm_B (x : Nat) (w : World) (hx : x < 4294967296) :
    Calls Try.prog 16 #[.string (fmS .B), .int .i64 (x : Int)] w fun e w' => e = .returned (.int .i64 (immZ .B x)) ∧ ∃ n, w' = w.drewN n := by
  rw [show fmS .B = ⟨#[66]⟩ from rfl, show immZ .B x = sgnZ (bitsN x 31 31 * 4096 + bitsN x 7 7 * 2048 + bitsN x 30 25 * 32 + bitsN x 11 8 * 2) 13 from rfl]
  generalize hr : sgnZ _ _ = rr
  have HR := Lib.hid hr
  clear hr
  go_enter Try.func16, Try.ntmps16
  go_wp2_with fail
  refine (bits_any x 31 31 _ hx (by decide) (by decide)).mono ?_
  rintro e u0 ⟨rfl, n0, rfl⟩
  have p0 : bitsN x 31 31 < 2 := bitsN_lt x 31 31
  obtain ⟨q0, hq0⟩ : ∃ q, q = bitsN x 31 31 := ⟨_, rfl⟩
  rw [← hq0] at p0 HR ⊢
  clear hq0
  go_wp2_with fail
  refine (bits_any x 7 7 _ hx (by decide) (by decide)).mono ?_
  rintro e u1 ⟨rfl, n1, rfl⟩
  have p1 : bitsN x 7 7 < 2 := bitsN_lt x 7 7
  obtain ⟨q1, hq1⟩ : ∃ q, q = bitsN x 7 7 := ⟨_, rfl⟩
  rw [← hq1] at p1 HR ⊢
  clear hq1
  go_wp2_with fail
  refine (bits_any x 30 25 _ hx (by decide) (by decide)).mono ?_
  rintro e u2 ⟨rfl, n2, rfl⟩
  have p2 : bitsN x 30 25 < 64 := bitsN_lt x 30 25
  obtain ⟨q2, hq2⟩ : ∃ q, q = bitsN x 30 25 := ⟨_, rfl⟩
  rw [← hq2] at p2 HR ⊢
  clear hq2
  go_wp2_with fail
  refine (bits_any x 11 8 _ hx (by decide) (by decide)).mono ?_
  rintro e u3 ⟨rfl, n3, rfl⟩
  have p3 : bitsN x 11 8 < 16 := bitsN_lt x 11 8
  obtain ⟨q3, hq3⟩ : ∃ q, q = bitsN x 11 8 := ⟨_, rfl⟩
  rw [← hq3] at p3 HR ⊢
  clear hq3
  obtain ⟨v, hv⟩ : ∃ v, v = q0 * 4096 + q1 * 2048 + q2 * 32 + q3 * 2 := ⟨_, rfl⟩
  rw [← hv] at HR
  have ev : (q0 : Int) * 4096 + (q1 : Int) * 2048 + (q2 : Int) * 32 + (q3 : Int) * 2 = (v : Int) := by omega
  have hv4 : v < 4294967296 := by omega
  clear hv
  go_wp2_with fail
  refine (sign_any v 13 _ (by omega) (by decide) (by decide)).mono ?_
  rintro e u9 ⟨rfl, rfl⟩
  go_wp2_with fail
  go_ret
  exact ⟨by rw [← HR.out]; rfl, _, rfl⟩
set_option maxRecDepth 100000 in
set_option maxHeartbeats 1000000 in
theorem imm_S (x : Nat) (w : World) (hx : x < 4294967296) :
    Calls Try.prog 16 #[.string (fmS .S), .int .i64 (x : Int)] w fun e w' => e = .returned (.int .i64 (immZ .S x)) ∧ ∃ n, w' = w.drewN n := by
  rw [show fmS .S = ⟨#[83]⟩ from rfl, show immZ .S x = sgnZ (bitsN x 31 25 * 32 + bitsN x 11 7) 12 from rfl]
  generalize hr : sgnZ _ _ = rr
  have HR := Lib.hid hr
  clear hr
  go_enter Try.func16, Try.ntmps16
  go_wp2_with fail
  refine (bits_any x 31 25 _ hx (by decide) (by decide)).mono ?_
  rintro e u0 ⟨rfl, n0, rfl⟩
  have p0 : bitsN x 31 25 < 128 := bitsN_lt x 31 25
  obtain ⟨q0, hq0⟩ : ∃ q, q = bitsN x 31 25 := ⟨_, rfl⟩
  rw [← hq0] at p0 HR ⊢
  clear hq0
  go_wp2_with fail
  refine (bits_any x 11 7 _ hx (by decide) (by decide)).mono ?_
  rintro e u1 ⟨rfl, n1, rfl⟩
  have p1 : bitsN x 11 7 < 32 := bitsN_lt x 11 7
  obtain ⟨q1, hq1⟩ : ∃ q, q = bitsN x 11 7 := ⟨_, rfl⟩
  rw [← hq1] at p1 HR ⊢
  clear hq1
  obtain ⟨v, hv⟩ : ∃ v, v = q0 * 32 + q1 := ⟨_, rfl⟩
  rw [← hv] at HR
  have ev : (q0 : Int) * 32 + (q1 : Int) = (v : Int) := by omega
  have hv4 : v < 4294967296 := by omega
  clear hv
  go_wp2_with fail
  refine (sign_any v 12 _ (by omega) (by decide) (by decide)).mono ?_
  rintro e u9 ⟨rfl, rfl⟩
  go_wp2_with fail
  go_ret
  exact ⟨by rw [← HR.out]; rfl, _, rfl⟩
set_option maxRecDepth 100000 in
set_option maxHeartbeats 1000000 in
theorem imm_T (x : Nat) (w : World) (hx : x < 4294967296) :
    Calls Try.prog 16 #[.string (fmS .T), .int .i64 (x : Int)] w fun e w' => e = .returned (.int .i64 (immZ .T x)) ∧ ∃ n, w' = w.drewN n := by
  rw [show fmS .T = ⟨#[84]⟩ from rfl, show immZ .T x = ((bitsN x 24 20 : Nat) : Int) from rfl]
  go_enter Try.func16, Try.ntmps16
  go_wp2_with fail
  refine (bits_any x 24 20 _ hx (by decide) (by decide)).mono ?_
  rintro e u0 ⟨rfl, n0, rfl⟩
  go_wp2_with fail
  go_ret
  exact ⟨rfl, _, rfl⟩
set_option maxRecDepth 100000 in
set_option maxHeartbeats 1000000 in
theorem imm_C (x : Nat) (w : World) (hx : x < 4294967296) :
    Calls Try.prog 16 #[.string (fmS .C), .int .i64 (x : Int)] w fun e w' => e = .returned (.int .i64 (immZ .C x)) ∧ ∃ n, w' = w.drewN n := by
  rw [show fmS .C = ⟨#[67]⟩ from rfl, show immZ .C x = ((bitsN x 31 20 : Nat) : Int) from rfl]
  go_enter Try.func16, Try.ntmps16
  go_wp2_with fail
  refine (bits_any x 31 20 _ hx (by decide) (by decide)).mono ?_
  rintro e u0 ⟨rfl, n0, rfl⟩
  go_wp2_with fail
  go_ret
  exact ⟨rfl, _, rfl⟩
set_option maxRecDepth 100000 in
set_option maxHeartbeats 1000000 in
theorem imm_Z (x : Nat) (w : World) (hx : x < 4294967296) :
    Calls Try.prog 16 #[.string (fmS .Z), .int .i64 (x : Int)] w fun e w' => e = .returned (.int .i64 (immZ .Z x)) ∧ ∃ n, w' = w.drewN n := by
  rw [show fmS .Z = ⟨#[90]⟩ from rfl, show immZ .Z x = ((bitsN x 31 20 : Nat) : Int) from rfl]
  go_enter Try.func16, Try.ntmps16
  go_wp2_with fail
  refine (bits_any x 31 20 _ hx (by decide) (by decide)).mono ?_
  rintro e u0 ⟨rfl, n0, rfl⟩
  go_wp2_with fail
  go_ret
  exact ⟨rfl, _, rfl⟩
theorem imm_any (f : Fm) (x : Nat) (w : World) (hx : x < 4294967296) :
    Calls Try.prog 16 #[.string (fmS f), .int .i64 (x : Int)] w fun e w' => e = .returned (.int .i64 (immZ f x)) ∧ ∃ n, w' = w.drewN n := by
  cases f
  · exact imm_O x w hx
  · exact imm_U x w hx
  · exact imm_J x w hx
  · exact imm_I x w hx
  · exact imm_B x w hx
  · exact imm_S x w hx
  · exact imm_T x w hx
  · exact imm_R x w hx
  · exact imm_F x w hx
  · exact imm_N x w hx
  · exact imm_C x w hx
  · exact imm_Z x w hx
end Go.Proofs.Ytegaiphhoinilaa
namespace Go.Proofs.Ytegaiphhoinilaa
open Go Go.RowKit

/-- an operation's cells -/
def opV (q : Fm × Nat) : Nat → Value
  | 0 => .string (fmS q.1)
  | _ => .int .i64 (q.2 : Int)
def opCells : List Value := opsL.flatMap fun q => (List.range 2).map (opV q)
theorem opsL_len : opsL.length = 57 := rfl
theorem opCells_get (i : Nat) (hi : i < 57) : opCells[2 * i]? = some (.string (fmS (opP i).1)) ∧ opCells[2 * i + 1]? = some (.int .i64 ((opP i).2 : Int)) := by
  have h : ∀ i, i < 57 → opCells[2 * i]? = some (.string (fmS (opP i).1)) ∧ opCells[2 * i + 1]? = some (.int .i64 ((opP i).2 : Int)) := by
    intro i hi
    have hall : ∀ (qs : List (Fm × Nat)) (j : Nat), j < qs.length → (qs.flatMap fun q => (List.range 2).map (opV q))[2 * j]? = some (.string (fmS (qs.getD j (.O, 0)).1)) ∧ (qs.flatMap fun q => (List.range 2).map (opV q))[2 * j + 1]? = some (.int .i64 ((qs.getD j (.O, 0)).2 : Int)) := by
      intro qs
      induction qs with
      | nil => intro j hj; exact absurd hj (Nat.not_lt_zero _)
      | cons q qs ih =>
        intro j hj
        rw [List.flatMap_cons]
        cases j with
        | zero => exact ⟨rfl, rfl⟩
        | succ j =>
          have := ih j (by simpa using hj)
          rw [List.getElem?_append_right (by simp; omega), List.getElem?_append_right (by simp; omega)]
          simpa [show 2 * (j + 1) - 2 = 2 * j by omega, show 2 * (j + 1) + 1 - 2 = 2 * j + 1 by omega] using this
    exact hall opsL i hi
  exact h i hi
end Go.Proofs.Ytegaiphhoinilaa
