/-
Layer 11: the reference's Set.
-/
import Derived.Test.YtegaiphhoinilaaInD
import Derived.Lib.Zigzag
namespace Go.Proofs.Ytegaiphhoinilaa
open Go Go.RowKit

theorem one_and (z : Int) : bits .and .i64 z 1 = z % 2 := i64_and_mask z 1 (by omega)
theorem below_drawn (w : World) (n : Nat) : Below w.heap.size w (w.drewN n) := below_drewN (Below.refl _ _) n
theorem not_nat (p : Nat) (hp : p < 4294967296) (m : Int) : bits .xor .i64 (if IntKind.i64.signed = true then -1 else m) (p : Int) = -(p : Int) - 1 := by
  have e : (if IntKind.i64.signed = true then (-1 : Int) else m) = -1 := if_pos rfl
  rw [e]
  exact Lib.i64_not p (by omega)
theorem set_bit (W i y k P : Nat) (m : Int) (hP : P = 2 ^ i) (hW : W < 4294967296) (hi : i < 32) :
    bits .or .i64 (bits .and .i64 (W : Int) (bits .xor .i64 (if IntKind.i64.signed = true then -1 else m) (P : Int))) (wrap64 (bits .and .i64 ((y : Int) / 2 ^ k) 1 * (P : Int))) = (((W &&& (4294967295 ^^^ 2 ^ i)) ||| (y / 2 ^ k % 2 * 2 ^ i) : Nat) : Int) := by
  have h4 : P < 4294967296 := by
    have h1 : (2 : Nat) ^ i ≤ 2 ^ 31 := Nat.pow_le_pow_right (by decide) (by omega)
    have e : (2 : Nat) ^ 31 = 2147483648 := by decide
    omega
  have hb := bit_lt y k i hi
  have e32 : (2 : Nat) ^ 32 = 4294967296 := by decide
  have hl : W &&& (4294967295 ^^^ 2 ^ i) ≤ W := Nat.and_le_left
  have ey : (y : Int) / 2 ^ k = ((y / 2 ^ k : Nat) : Int) := by rw [Int.natCast_ediv, Int.natCast_pow]; rfl
  have e1 : (((y / 2 ^ k : Nat) : Int)) % 2 * (P : Int) = ((y / 2 ^ k % 2 * 2 ^ i : Nat) : Int) := by
    rw [hP, Int.natCast_mul, Int.natCast_emod]; rfl
  have eP : -(P : Int) - 1 = -(2 : Int) ^ i - 1 := by rw [hP, Int.natCast_pow]; rfl
  rw [not_nat P h4, one_and, ey, e1, eP, i64_clear W i hW hi, IntWalk.wrap64_in _ (by omega), i64_or_nat _ _ (by omega) (by omega)]
set_option maxRecDepth 100000 in
set_option maxHeartbeats 2000000 in
theorem set_any (f : Fm) (x y : Nat) (w : World) (hx : x < 4294967296) (_hy : y < 4294967296) :
    Calls Try.prog 27 #[.string (fmS f), .int .i64 (x : Int), .int .i64 (y : Int)] w fun e w' => e = .returned (.int .i64 ((setN f x y 32 : Nat) : Int)) ∧ ∃ n, w' = w.drewN n := by
  generalize hs : fmS f = s
  have HS := Lib.hid hs
  clear hs
  go_enter Try.func27, Try.ntmps27
  go_wp2_with fail
  go_loopw [1, 7] (fun wv ct wr => ∃ i : Nat, i ≤ 32 ∧ ct = .int .i64 (i : Int) ∧ wv = .int .i64 ((setN f x y i : Nat) : Int) ∧ ∃ n, wr = w.drewN n) (fun _ ct _ => (32 - (intOf ct)).toNat)
  case atStart => exact ⟨0, by decide, rfl, rfl, 0, rfl⟩
  case round =>
    obtain ⟨i, hi, rfl, rfl, n0, rfl⟩ := hrel
    by_cases hlt : i < 32
    · have di : (i : Int) < 32 := by omega
      obtain ⟨P, hP⟩ : ∃ P, P = 2 ^ i := ⟨_, rfl⟩
      have hP4 : P < 4294967296 := by
        have h1 : (2 : Nat) ^ i ≤ 2 ^ 31 := Nat.pow_le_pow_right (by decide) (by omega)
        have e : (2 : Nat) ^ 31 = 2147483648 := by decide
        omega
      have ePI : (2 : Int) ^ i = (P : Int) := by rw [hP, Int.natCast_pow]; rfl
      have hWl := setN_lt f x y hx i (by omega)
      have hz0 := bitK_zero f i hlt
      obtain ⟨hzl, hzu⟩ := immZ_le f i hlt
      have hN : bitK f i = none → setN f x y (i + 1) = setN f x y i := setN_none
      have hSo : ∀ k, bitK f i = some k → setN f x y (i + 1) = (setN f x y i &&& (4294967295 ^^^ 2 ^ i)) ||| (y / 2 ^ k % 2 * 2 ^ i) := fun k h => setN_some h
      have hsp : ∀ k, bitK f i = some k → k < 32 ∧ immZ f (2 ^ i) / 2 ^ k % 2 = 1 ∧ ∀ j, j < k → immZ f (2 ^ i) / 2 ^ j % 2 = 0 := fun k h => lowK_spec h
      obtain ⟨W1, hW1⟩ : ∃ W1, setN f x y (i + 1) = W1 := ⟨_, rfl⟩
      rw [hW1] at hN hSo
      have HW1 := Lib.hid hW1
      have HWL := Lib.hid hWl
      clear hW1 hWl
      have hI := fun W => imm_any f P W hP4
      rw [HS.out] at hI
      rw [← hP] at hz0 hzl hzu hsp
      have HN := Lib.hid hN
      have HSo := Lib.hid hSo
      have HSP := Lib.hid hsp
      have HZ := Lib.hid hz0
      generalize immZ f P = z at *
      generalize setN f x y i = W at *
      have HP := Lib.hid hP
      clear hN hSo hsp hz0 hP
      have HI := Lib.hid hI
      clear hI
      by_cases hz : z = 0
      · have dz : (z == 0) = true := by rw [hz]; rfl
        have hb := HZ.out.1 hz
        have h1 := HN.out hb
        have H1 := Lib.hid h1
        clear hz hb h1
        go_wp2_with (go_at_call 16; refine (HI.out _).mono ?_; rintro e w2 ⟨rfl, n1, rfl⟩)
        go_roundw
        case rel => exact ⟨i + 1, by omega, by go_num, by rw [HW1.out, H1.out], _, rfl⟩
        case measure => simp [intOf] <;> omega
      · have dz : (z == 0) = false := by simpa using hz
        obtain ⟨k, hk⟩ : ∃ k, bitK f i = some k := by
          cases hb : bitK f i with
          | none => exact absurd (HZ.out.2 hb) hz
          | some k => exact ⟨k, rfl⟩
        obtain ⟨hk32, hk1, hk0⟩ := HSP.out k hk
        have h1 := HSo.out k hk
        have H1 := Lib.hid h1
        have HK1 := Lib.hid hk1
        have HK0 := Lib.hid hk0
        clear hz hk h1 hk1 hk0
        go_wp2_with (go_at_call 16; refine (HI.out _).mono ?_; rintro e w2 ⟨rfl, n1, rfl⟩)
        go_loopw [9] (fun ck wq => ∃ j : Nat, j ≤ k ∧ ck = .int .i64 (j : Int) ∧ ∃ n, wq = w.drewN n) (fun ck _ => (k - (intOf ck)).toNat)
        case atStart => exact ⟨0, Nat.zero_le _, rfl, _, rfl⟩
        case round =>
          obtain ⟨j, hj, rfl, n3, rfl⟩ := hrel
          have ha := one_and (z / 2 ^ j)
          have hjn : (j : Int).toNat = j := by omega
          by_cases hjk : j < k
          · rw [HK0.out j hjk] at ha
            clear ePI
            go_wp2_with fail
            go_roundw
            case rel => exact ⟨j + 1, hjk, by go_num, _, rfl⟩
            case measure => simp [intOf] <;> omega
          · obtain rfl : j = k := by omega
            rw [HK1.out] at ha
            clear hjk hj
            go_wp2_with fail
            go_roundw
            case rel => exact ⟨i + 1, by omega, by go_num, by rw [HW1.out, H1.out, set_bit W i y j P _ HP.out HWL.out hlt], _, rfl⟩
            case measure => simp [intOf] <;> omega
    · obtain rfl : i = 32 := by omega
      go_wp2_with fail
      go_ret
      exact ⟨rfl, n0, rfl⟩
end Go.Proofs.Ytegaiphhoinilaa
