/-
Layer 11: the reference's Imm.
-/
import Derived.Test.YtghfbdkfibbhoaaDoorInA
namespace Go.Proofs.YtghfbdkfibbhoaaDoor
open Go Go.RowKit

set_option maxRecDepth 100000 in
set_option maxHeartbeats 1000000 in
theorem imm_O (x : Nat) (w : World) (_hx : x < 4294967296) :
    Calls Tryd.prog 24 #[.string (fmS .O), .int .i64 (x : Int)] w fun e w' => e = .returned (.int .i64 (immZ .O x)) ∧ ∃ n, w' = w.drewN n := by
  rw [show fmS .O = ⟨#[]⟩ from rfl, show immZ .O x = 0 from rfl]
  go_enter Tryd.func24, Tryd.ntmps24
  go_wp2_with fail
  go_ret
  exact ⟨rfl, 0, rfl⟩
set_option maxRecDepth 100000 in
set_option maxHeartbeats 1000000 in
theorem imm_R (x : Nat) (w : World) (_hx : x < 4294967296) :
    Calls Tryd.prog 24 #[.string (fmS .R), .int .i64 (x : Int)] w fun e w' => e = .returned (.int .i64 (immZ .R x)) ∧ ∃ n, w' = w.drewN n := by
  rw [show fmS .R = ⟨#[82]⟩ from rfl, show immZ .R x = 0 from rfl]
  go_enter Tryd.func24, Tryd.ntmps24
  go_wp2_with fail
  go_ret
  exact ⟨rfl, 0, rfl⟩
set_option maxRecDepth 100000 in
set_option maxHeartbeats 1000000 in
theorem imm_F (x : Nat) (w : World) (_hx : x < 4294967296) :
    Calls Tryd.prog 24 #[.string (fmS .F), .int .i64 (x : Int)] w fun e w' => e = .returned (.int .i64 (immZ .F x)) ∧ ∃ n, w' = w.drewN n := by
  rw [show fmS .F = ⟨#[70]⟩ from rfl, show immZ .F x = 0 from rfl]
  go_enter Tryd.func24, Tryd.ntmps24
  go_wp2_with fail
  go_ret
  exact ⟨rfl, 0, rfl⟩
set_option maxRecDepth 100000 in
set_option maxHeartbeats 1000000 in
theorem imm_N (x : Nat) (w : World) (_hx : x < 4294967296) :
    Calls Tryd.prog 24 #[.string (fmS .N), .int .i64 (x : Int)] w fun e w' => e = .returned (.int .i64 (immZ .N x)) ∧ ∃ n, w' = w.drewN n := by
  rw [show fmS .N = ⟨#[78]⟩ from rfl, show immZ .N x = 0 from rfl]
  go_enter Tryd.func24, Tryd.ntmps24
  go_wp2_with fail
  go_ret
  exact ⟨rfl, 0, rfl⟩
set_option maxRecDepth 100000 in
set_option maxHeartbeats 1000000 in
theorem imm_U (x : Nat) (w : World) (hx : x < 4294967296) :
    Calls Tryd.prog 24 #[.string (fmS .U), .int .i64 (x : Int)] w fun e w' => e = .returned (.int .i64 (immZ .U x)) ∧ ∃ n, w' = w.drewN n := by
  rw [show fmS .U = ⟨#[85]⟩ from rfl, show immZ .U x = sgnZ (x - x % 4096) 32 from rfl]
  have h4 : (x : Int) - (x : Int) % 4096 = ((x - x % 4096 : Nat) : Int) := by omega
  have h4t : (x : Int).tmod 4096 = (x : Int) % 4096 := Int.tmod_eq_emod_of_nonneg (by omega)
  obtain ⟨v, hv⟩ : ∃ v, v = x - x % 4096 := ⟨_, rfl⟩
  have hv4 : v < 4294967296 := by omega
  rw [← hv] at h4 ⊢
  clear hv
  generalize hr : sgnZ _ _ = rr
  have HR := Lib.hid hr
  clear hr
  go_enter Tryd.func24, Tryd.ntmps24
  go_wp2_with fail
  refine (sign_any v 32 _ hv4 (by decide) (by decide)).mono ?_
  rintro e u9 ⟨rfl, rfl⟩
  go_wp2_with fail
  go_ret
  exact ⟨by rw [← HR.out]; rfl, 0, rfl⟩
set_option maxRecDepth 100000 in
set_option maxHeartbeats 1000000 in
theorem imm_J (x : Nat) (w : World) (hx : x < 4294967296) :
    Calls Tryd.prog 24 #[.string (fmS .J), .int .i64 (x : Int)] w fun e w' => e = .returned (.int .i64 (immZ .J x)) ∧ ∃ n, w' = w.drewN n := by
  rw [show fmS .J = ⟨#[74]⟩ from rfl, show immZ .J x = sgnZ (bitsN x 31 31 * 1048576 + bitsN x 19 12 * 4096 + bitsN x 20 20 * 2048 + bitsN x 30 21 * 2) 21 from rfl]
  generalize hr : sgnZ _ _ = rr
  have HR := Lib.hid hr
  clear hr
  go_enter Tryd.func24, Tryd.ntmps24
  go_wp2_with fail
  refine (bits_any x 31 31 _ hx (by decide) (by decide)).mono ?_
  rintro e u0 ⟨rfl, n0, rfl⟩
  have p0 : bitsN x 31 31 < 2 := bitsN_lt x 31 31
  obtain ⟨q0, hq0⟩ : ∃ q, q = bitsN x 31 31 := ⟨_, rfl⟩
  rw [← hq0] at p0 HR ⊢
  clear hq0
  go_wp2_with fail
  refine (bits_any x 19 12 _ hx (by decide) (by decide)).mono ?_
  rintro e u1 ⟨rfl, n1, rfl⟩
  have p1 : bitsN x 19 12 < 256 := bitsN_lt x 19 12
  obtain ⟨q1, hq1⟩ : ∃ q, q = bitsN x 19 12 := ⟨_, rfl⟩
  rw [← hq1] at p1 HR ⊢
  clear hq1
  go_wp2_with fail
  refine (bits_any x 20 20 _ hx (by decide) (by decide)).mono ?_
  rintro e u2 ⟨rfl, n2, rfl⟩
  have p2 : bitsN x 20 20 < 2 := bitsN_lt x 20 20
  obtain ⟨q2, hq2⟩ : ∃ q, q = bitsN x 20 20 := ⟨_, rfl⟩
  rw [← hq2] at p2 HR ⊢
  clear hq2
  go_wp2_with fail
  refine (bits_any x 30 21 _ hx (by decide) (by decide)).mono ?_
  rintro e u3 ⟨rfl, n3, rfl⟩
  have p3 : bitsN x 30 21 < 1024 := bitsN_lt x 30 21
  obtain ⟨q3, hq3⟩ : ∃ q, q = bitsN x 30 21 := ⟨_, rfl⟩
  rw [← hq3] at p3 HR ⊢
  clear hq3
  obtain ⟨v, hv⟩ : ∃ v, v = q0 * 1048576 + q1 * 4096 + q2 * 2048 + q3 * 2 := ⟨_, rfl⟩
  rw [← hv] at HR
  have ev : (q0 : Int) * 1048576 + (q1 : Int) * 4096 + (q2 : Int) * 2048 + (q3 : Int) * 2 = (v : Int) := by omega
  have hv4 : v < 4294967296 := by omega
  clear hv
  go_wp2_with fail
  refine (sign_any v 21 _ (by omega) (by decide) (by decide)).mono ?_
  rintro e u9 ⟨rfl, rfl⟩
  go_wp2_with fail
  go_ret
  exact ⟨by rw [← HR.out]; rfl, _, rfl⟩
set_option maxRecDepth 100000 in
set_option maxHeartbeats 1000000 in
theorem imm_I (x : Nat) (w : World) (hx : x < 4294967296) :
    Calls Tryd.prog 24 #[.string (fmS .I), .int .i64 (x : Int)] w fun e w' => e = .returned (.int .i64 (immZ .I x)) ∧ ∃ n, w' = w.drewN n := by
  rw [show fmS .I = ⟨#[73]⟩ from rfl, show immZ .I x = sgnZ (bitsN x 31 20) 12 from rfl]
  generalize hr : sgnZ _ _ = rr
  have HR := Lib.hid hr
  clear hr
  go_enter Tryd.func24, Tryd.ntmps24
  go_wp2_with fail
  refine (bits_any x 31 20 _ hx (by decide) (by decide)).mono ?_
  rintro e u0 ⟨rfl, n0, rfl⟩
  have p0 : bitsN x 31 20 < 4096 := bitsN_lt x 31 20
  obtain ⟨q0, hq0⟩ : ∃ q, q = bitsN x 31 20 := ⟨_, rfl⟩
  rw [← hq0] at p0 HR ⊢
  clear hq0
  go_wp2_with fail
  refine (sign_any q0 12 _ (by omega) (by decide) (by decide)).mono ?_
  rintro e u9 ⟨rfl, rfl⟩
  go_wp2_with fail
  go_ret
  exact ⟨by rw [← HR.out]; rfl, _, rfl⟩
set_option maxRecDepth 100000 in
set_option maxHeartbeats 1000000 in
theorem imm_B (x : Nat) (w : World) (hx : x < 4294967296) :
    Calls Tryd.prog 24 #[.string (fmS .B), .int .i64 (x : Int)] w fun e w' => e = .returned (.int .i64 (immZ .B x)) ∧ ∃ n, w' = w.drewN n := by
  rw [show fmS .B = ⟨#[66]⟩ from rfl, show immZ .B x = sgnZ (bitsN x 31 31 * 4096 + bitsN x 7 7 * 2048 + bitsN x 30 25 * 32 + bitsN x 11 8 * 2) 13 from rfl]
  generalize hr : sgnZ _ _ = rr
  have HR := Lib.hid hr
  clear hr
  go_enter Tryd.func24, Tryd.ntmps24
  go_wp2_with fail
  refine (bits_any x 31 31 _ hx (by decide) (by decide)).mono ?_
  rintro e u0 ⟨rfl, n0, rfl⟩
  have p0 : bitsN x 31 31 < 2 := bitsN_lt x 31 31
  obtain ⟨q0, hq0⟩ : ∃ q, q = bitsN x 31 31 := ⟨_, rfl⟩
  rw [← hq0] at p0 HR ⊢
  clear hq0
  go_wp2_with fail
  refine (bits_any x 7 7 _ hx (by decide) (by decide)).mono ?_
  rintro e u1 ⟨rfl, n1, rfl⟩
  have p1 : bitsN x 7 7 < 2 := bitsN_lt x 7 7
  obtain ⟨q1, hq1⟩ : ∃ q, q = bitsN x 7 7 := ⟨_, rfl⟩
  rw [← hq1] at p1 HR ⊢
  clear hq1
  go_wp2_with fail
  refine (bits_any x 30 25 _ hx (by decide) (by decide)).mono ?_
  rintro e u2 ⟨rfl, n2, rfl⟩
  have p2 : bitsN x 30 25 < 64 := bitsN_lt x 30 25
  obtain ⟨q2, hq2⟩ : ∃ q, q = bitsN x 30 25 := ⟨_, rfl⟩
  rw [← hq2] at p2 HR ⊢
  clear hq2
  go_wp2_with fail
  refine (bits_any x 11 8 _ hx (by decide) (by decide)).mono ?_
  rintro e u3 ⟨rfl, n3, rfl⟩
  have p3 : bitsN x 11 8 < 16 := bitsN_lt x 11 8
  obtain ⟨q3, hq3⟩ : ∃ q, q = bitsN x 11 8 := ⟨_, rfl⟩
  rw [← hq3] at p3 HR ⊢
  clear hq3
  obtain ⟨v, hv⟩ : ∃ v, v = q0 * 4096 + q1 * 2048 + q2 * 32 + q3 * 2 := ⟨_, rfl⟩
  rw [← hv] at HR
  have ev : (q0 : Int) * 4096 + (q1 : Int) * 2048 + (q2 : Int) * 32 + (q3 : Int) * 2 = (v : Int) := by omega
  have hv4 : v < 4294967296 := by omega
  clear hv
  go_wp2_with fail
  refine (sign_any v 13 _ (by omega) (by decide) (by decide)).mono ?_
  rintro e u9 ⟨rfl, rfl⟩
  go_wp2_with fail
  go_ret
  exact ⟨by rw [← HR.out]; rfl, _, rfl⟩
set_option maxRecDepth 100000 in
set_option maxHeartbeats 1000000 in
theorem imm_S (x : Nat) (w : World) (hx : x < 4294967296) :
    Calls Tryd.prog 24 #[.string (fmS .S), .int .i64 (x : Int)] w fun e w' => e = .returned (.int .i64 (immZ .S x)) ∧ ∃ n, w' = w.drewN n := by
  rw [show fmS .S = ⟨#[83]⟩ from rfl, show immZ .S x = sgnZ (bitsN x 31 25 * 32 + bitsN x 11 7) 12 from rfl]
  generalize hr : sgnZ _ _ = rr
  have HR := Lib.hid hr
  clear hr
  go_enter Tryd.func24, Tryd.ntmps24
  go_wp2_with fail
  refine (bits_any x 31 25 _ hx (by decide) (by decide)).mono ?_
  rintro e u0 ⟨rfl, n0, rfl⟩
  have p0 : bitsN x 31 25 < 128 := bitsN_lt x 31 25
  obtain ⟨q0, hq0⟩ : ∃ q, q = bitsN x 31 25 := ⟨_, rfl⟩
  rw [← hq0] at p0 HR ⊢
  clear hq0
  go_wp2_with fail
  refine (bits_any x 11 7 _ hx (by decide) (by decide)).mono ?_
  rintro e u1 ⟨rfl, n1, rfl⟩
  have p1 : bitsN x 11 7 < 32 := bitsN_lt x 11 7
  obtain ⟨q1, hq1⟩ : ∃ q, q = bitsN x 11 7 := ⟨_, rfl⟩
  rw [← hq1] at p1 HR ⊢
  clear hq1
  obtain ⟨v, hv⟩ : ∃ v, v = q0 * 32 + q1 := ⟨_, rfl⟩
  rw [← hv] at HR
  have ev : (q0 : Int) * 32 + (q1 : Int) = (v : Int) := by omega
  have hv4 : v < 4294967296 := by omega
  clear hv
  go_wp2_with fail
  refine (sign_any v 12 _ (by omega) (by decide) (by decide)).mono ?_
  rintro e u9 ⟨rfl, rfl⟩
  go_wp2_with fail
  go_ret
  exact ⟨by rw [← HR.out]; rfl, _, rfl⟩
set_option maxRecDepth 100000 in
set_option maxHeartbeats 1000000 in
theorem imm_T (x : Nat) (w : World) (hx : x < 4294967296) :
    Calls Tryd.prog 24 #[.string (fmS .T), .int .i64 (x : Int)] w fun e w' => e = .returned (.int .i64 (immZ .T x)) ∧ ∃ n, w' = w.drewN n := by
  rw [show fmS .T = ⟨#[84]⟩ from rfl, show immZ .T x = ((bitsN x 24 20 : Nat) : Int) from rfl]
  go_enter Tryd.func24, Tryd.ntmps24
  go_wp2_with fail
  refine (bits_any x 24 20 _ hx (by decide) (by decide)).mono ?_
  rintro e u0 ⟨rfl, n0, rfl⟩
  go_wp2_with fail
  go_ret
  exact ⟨rfl, _, rfl⟩
set_option maxRecDepth 100000 in
set_option maxHeartbeats 1000000 in
theorem imm_C (x : Nat) (w : World) (hx : x < 4294967296) :
    Calls Tryd.prog 24 #[.string (fmS .C), .int .i64 (x : Int)] w fun e w' => e = .returned (.int .i64 (immZ .C x)) ∧ ∃ n, w' = w.drewN n := by
  rw [show fmS .C = ⟨#[67]⟩ from rfl, show immZ .C x = ((bitsN x 31 20 : Nat) : Int) from rfl]
  go_enter Tryd.func24, Tryd.ntmps24
  go_wp2_with fail
  refine (bits_any x 31 20 _ hx (by decide) (by decide)).mono ?_
  rintro e u0 ⟨rfl, n0, rfl⟩
  go_wp2_with fail
  go_ret
  exact ⟨rfl, _, rfl⟩
set_option maxRecDepth 100000 in
set_option maxHeartbeats 1000000 in
theorem imm_Z (x : Nat) (w : World) (hx : x < 4294967296) :
    Calls Tryd.prog 24 #[.string (fmS .Z), .int .i64 (x : Int)] w fun e w' => e = .returned (.int .i64 (immZ .Z x)) ∧ ∃ n, w' = w.drewN n := by
  rw [show fmS .Z = ⟨#[90]⟩ from rfl, show immZ .Z x = ((bitsN x 31 20 : Nat) : Int) from rfl]
  go_enter Tryd.func24, Tryd.ntmps24
  go_wp2_with fail
  refine (bits_any x 31 20 _ hx (by decide) (by decide)).mono ?_
  rintro e u0 ⟨rfl, n0, rfl⟩
  go_wp2_with fail
  go_ret
  exact ⟨rfl, _, rfl⟩
theorem imm_any (f : Fm) (x : Nat) (w : World) (hx : x < 4294967296) :
    Calls Tryd.prog 24 #[.string (fmS f), .int .i64 (x : Int)] w fun e w' => e = .returned (.int .i64 (immZ f x)) ∧ ∃ n, w' = w.drewN n := by
  cases f
  · exact imm_O x w hx
  · exact imm_U x w hx
  · exact imm_J x w hx
  · exact imm_I x w hx
  · exact imm_B x w hx
  · exact imm_S x w hx
  · exact imm_T x w hx
  · exact imm_R x w hx
  · exact imm_F x w hx
  · exact imm_N x w hx
  · exact imm_C x w hx
  · exact imm_Z x w hx
end Go.Proofs.YtghfbdkfibbhoaaDoor
