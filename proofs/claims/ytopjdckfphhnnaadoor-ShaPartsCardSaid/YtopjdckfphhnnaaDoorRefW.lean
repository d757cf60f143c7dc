/-
The reference counts words of 32 bits on 64 bits: sums there, cut back to 32 bits.
-/
import Derived.Test.YtopjdckfphhnnaaDoorShaM
namespace Go.Proofs.YtopjdckfphhnnaaDoor
open Go
def q2 (x y : UInt32) : UInt64 := UInt64.ofNat (x.toNat + y.toNat)
def qaw (X : UInt64) (y : UInt32) : UInt64 := UInt64.ofNat (X.toNat + y.toNat)
def low (X : UInt64) : UInt32 := UInt32.ofNat X.toNat
theorem low_q2 (x y : UInt32) : low (q2 x y) = wadd x y := by
  apply UInt32.toNat_inj.1
  have := x.toNat_lt
  have := y.toNat_lt
  rw [low, UInt32.toNat_ofNat', q2, UInt64.toNat_ofNat', wadd, UInt32.toNat_add]
  omega
theorem low_qaw (X : UInt64) (y : UInt32) : low (qaw X y) = wadd (low X) y := by
  apply UInt32.toNat_inj.1
  rw [low, UInt32.toNat_ofNat', qaw, UInt64.toNat_ofNat', wadd, UInt32.toNat_add, low, UInt32.toNat_ofNat']
  omega
theorem q_add2 (x y : UInt32) : IntKind.u64.wrap ((x.toNat : Int) + (y.toNat : Int)) = ((q2 x y).toNat : Int) := by
  rw [q2, UInt64.toNat_ofNat']; simp [IntKind.wrap, IntKind.bits, IntKind.signed]
theorem q_addw (X : UInt64) (y : UInt32) : IntKind.u64.wrap ((X.toNat : Int) + (y.toNat : Int)) = ((qaw X y).toNat : Int) := by
  rw [qaw, UInt64.toNat_ofNat']; simp [IntKind.wrap, IntKind.bits, IntKind.signed]
theorem q_low (X : UInt64) : (X.toNat : Int).tmod 4294967296 = ((low X).toNat : Int) := by
  rw [Int.tmod_eq_emod_of_nonneg (by omega), low, UInt32.toNat_ofNat']; simp
theorem q_low' (X : UInt64) : (X.toNat : Int) % 4294967296 = ((low X).toNat : Int) := by
  rw [low, UInt32.toNat_ofNat']; simp
theorem q_wrap (x : UInt32) : IntKind.u64.wrap (x.toNat : Int) = (x.toNat : Int) := by
  have := x.toNat_lt
  simp [IntKind.wrap, IntKind.bits, IntKind.signed]; omega
theorem q_xor (x y : UInt32) : bits .xor .u64 (x.toNat : Int) (y.toNat : Int) = ((wxor x y).toNat : Int) := by
  have := x.toNat_lt
  have := y.toNat_lt
  rw [u64_xor_nat _ _ (by omega) (by omega), wxor, UInt32.toNat_xor]
theorem q_and (x y : UInt32) : bits .and .u64 (x.toNat : Int) (y.toNat : Int) = ((wand x y).toNat : Int) := by
  have := x.toNat_lt
  have := y.toNat_lt
  rw [u64_and_nat _ _ (by omega) (by omega), wand, UInt32.toNat_and]
theorem wnot_toNat (x : UInt32) : (wnot x).toNat = 4294967295 - x.toNat := by
  have := x.toNat_lt
  rw [wnot, UInt32.toNat_not]
  show 2 ^ 32 - 1 - x.toNat = _
  omega
theorem q_not (x : UInt32) : IntKind.u64.wrap (4294967295 - (x.toNat : Int)) = ((wnot x).toNat : Int) := by
  have := x.toNat_lt
  rw [wnot_toNat]
  simp [IntKind.wrap, IntKind.bits, IntKind.signed]; omega
theorem q_shr3 (x : UInt32) : (x.toNat : Int) / 8 = ((shr 3 x).toNat : Int) := shr_w 3 x
theorem q_shr10 (x : UInt32) : (x.toNat : Int) / 1024 = ((shr 10 x).toNat : Int) := shr_w 10 x
theorem q_next (x16 x7 x15 x2 : UInt32) : low (qaw (qaw (q2 x16 x7) (wxor (wxor (rotr 7 x15) (rotr 18 x15)) (shr 3 x15))) (wxor (wxor (rotr 17 x2) (rotr 19 x2)) (shr 10 x2))) = nextW x16 x7 x15 x2 := by
  rw [low_qaw, low_qaw, low_q2]; rfl
/-- one round's t and u -/
theorem q_t (s : St) (k w : UInt32) : low (qaw (qaw (qaw (q2 s.h (wxor (wxor (rotr 6 s.e) (rotr 11 s.e)) (rotr 25 s.e))) (wxor (wand s.e s.f) (wand (wnot s.e) s.g))) k) w) = tOf s k w := by
  rw [low_qaw, low_qaw, low_qaw, low_q2]; rfl
theorem q_u (s : St) : low (q2 (wxor (wxor (rotr 2 s.a) (rotr 13 s.a)) (rotr 22 s.a)) (wxor (wxor (wand s.a s.b) (wand s.a s.c)) (wand s.b s.c))) = uOf s := by
  rw [low_q2]; rfl
end Go.Proofs.YtopjdckfphhnnaaDoor
