/-
Layer 12: package pmp's Of, Byte, Check.
-/
import Derived.Test.YthaockngbagdhaaDoorPnB
import Derived.Test.YthaockngbagdhaaDoorPmI
import Derived.Test.YthaockngbagdhaaDoorIb
namespace Go.Proofs.YthaockngbagdhaaDoor.Pm
open Go Go.RowKit

theorem u8_and_nat' (a b : Nat) (ha : a < 256) (hb : b < 256) : bits .and .u8 (a : Int) (b : Int) = ((a &&& b : Nat) : Int) := by
  have hx : a &&& b < 256 := Nat.lt_of_le_of_lt Nat.and_le_left ha
  have h1 : (BitVec.ofInt 8 (a : Int)).toNat = a := by
    rw [BitVec.ofInt_natCast, BitVec.toNat_ofNat]; exact Nat.mod_eq_of_lt (by omega)
  have h2 : (BitVec.ofInt 8 (b : Int)).toNat = b := by
    rw [BitVec.ofInt_natCast, BitVec.toNat_ofNat]; exact Nat.mod_eq_of_lt (by omega)
  show IntKind.u8.wrap ((BitVec.ofInt 8 (a : Int) &&& BitVec.ofInt 8 (b : Int)).toNat : Int) = _
  rw [BitVec.toNat_and, h1, h2]
  simp [IntKind.wrap, IntKind.bits, IntKind.signed]
  omega
set_option maxRecDepth 100000 in
set_option maxHeartbeats 1000000 in
theorem of_any (b a : Nat) (w : World) (hb : b < 256) (_ha : a < 4294967296) : Calls Tryd.prog 37 #[.int .u8 (b : Int), .int .u32 (a : Int)] w fun e w' => e = .returned (.agg #[.int .i64 ((b / 8 % 4 : Nat) : Int), .int .i64 ((b % 8 : Nat) : Int), .int .u32 (a : Int)]) ∧ Below w.heap.size w w' := by
  have k1 : bits .and .u8 ((b : Int) / 8) 3 = ((b / 8 % 4 : Nat) : Int) := by
    have h := u8_and_nat' (b / 8) 3 (by omega) (by omega)
    rw [show b / 8 &&& 3 = b / 8 % 4 from Nat.and_two_pow_sub_one_eq_mod (b / 8) 2] at h
    rw [show (b : Int) / 8 = ((b / 8 : Nat) : Int) by omega]
    exact h
  have k2 : bits .and .u8 (b : Int) 7 = ((b % 8 : Nat) : Int) := by
    have h := u8_and_nat' b 7 hb (by omega)
    rw [show b &&& 7 = b % 8 from Nat.and_two_pow_sub_one_eq_mod b 3] at h
    exact h
  obtain ⟨x, hx⟩ : ∃ x, x = b / 8 % 4 := ⟨_, rfl⟩
  obtain ⟨y, hy⟩ : ∃ y, y = b % 8 := ⟨_, rfl⟩
  rw [← hx] at k1 ⊢
  rw [← hy] at k2 ⊢
  have l1 : x < 4 := by omega
  have l2 : y < 8 := by omega
  clear hx hy
  go_enter Tryd.func37, Tryd.ntmps37
  go_wp2_with fail
  have hG : Has (w.alloc (.cells #[.int .i64 (x : Int), .int .i64 (y : Int), .int .u32 (a : Int)] 38)) w.heap.size 38 #[.int .i64 (x : Int), .int .i64 (y : Int), .int .u32 (a : Int)] := Has.new _ _ _
  refine bodyPost_ret (results_cell_row rfl _ _ w.heap.size 38 _ _ _ rfl hG Tryd.underlying38 rfl infoE) rfl ⟨rfl, ?_⟩
  exact (Below.refl _ w).alloc (Nat.le_refl _) _
set_option maxRecDepth 100000 in
set_option maxHeartbeats 1000000 in
theorem byte_any (x r a : Nat) (w : World) (hx : x ≤ 3) (hr : r ≤ 7) (_ha : a < 4294967296) : Calls Tryd.prog 38 #[.agg #[.int .i64 (x : Int), .int .i64 (r : Int), .int .u32 (a : Int)]] w fun e w' => e = .returned (.int .u8 ((r + 8 * x : Nat) : Int)) ∧ Below w.heap.size w w' := by
  have k1 : bits .and .i64 (r : Int) 7 = (r : Int) := by
    have h := i64_and_mask (r : Int) 3 (by omega)
    rw [show ((2 ^ 3 - 1 : Nat) : Int) = 7 from rfl] at h
    rw [h]
    have : ((2 ^ 3 : Nat) : Int) = 8 := rfl
    omega
  have k2 : bits .and .i64 (x : Int) 3 = (x : Int) := by
    have h := i64_and_mask (x : Int) 2 (by omega)
    rw [show ((2 ^ 2 - 1 : Nat) : Int) = 3 from rfl] at h
    rw [h]
    have : ((2 ^ 2 : Nat) : Int) = 4 := rfl
    omega
  go_enter Tryd.func38, Tryd.ntmps38
  go_wp2_with fail
  go_ret
  refine ⟨?_, (Below.refl _ w).alloc (Nat.le_refl _) _⟩
  rw [show (r : Int) + (x : Int) * 8 = ((r + 8 * x : Nat) : Int) by omega]
  rfl
theorem i64_and_nat (a b : Nat) (ha : a < 4294967296) (hb : b < 4294967296) : bits .and .i64 (a : Int) (b : Int) = ((a &&& b : Nat) : Int) := by
  have hx : a &&& b ≤ a := Nat.and_le_left
  show IntKind.i64.wrap ((BitVec.ofInt 64 (a : Int) &&& BitVec.ofInt 64 (b : Int)).toNat : Int) = _
  rw [BitVec.toNat_and, ofInt_u64 a (by omega), ofInt_u64 b (by omega), IntWalk.i64_in _ (by omega)]
end Go.Proofs.YthaockngbagdhaaDoor.Pm
