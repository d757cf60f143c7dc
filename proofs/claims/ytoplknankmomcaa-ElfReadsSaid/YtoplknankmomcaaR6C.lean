/-
The reference of layer 6: its cursor's Num.
-/
import Derived.Test.YtoplknankmomcaaR6B
import Derived.Lib.Hide
namespace Go.Proofs.Ytoplknankmomcaa
open Go Go.RowKit

/-- the number of the m bytes from place j on, the lowest first -/
def leT (f : Nat → Nat) : Nat → Nat → Nat
  | 0, _ => 0
  | m + 1, j => f j + 256 * leT f m (j + 1)
theorem leT_lt {f : Nat → Nat} (hf : ∀ j, f j < 256) : ∀ m j, leT f m j < 256 ^ m
  | 0, _ => by simp [leT]
  | m + 1, j => by
    have h1 := leT_lt hf m (j + 1)
    have h2 := hf j
    show f j + 256 * leT f m (j + 1) < 256 ^ (m + 1)
    rw [Nat.pow_succ]
    omega
def bsN (bs : List UInt8) (j : Nat) : Nat := (bs.getD j 0).toNat
theorem bsN_lt (bs : List UInt8) (j : Nat) : bsN bs j < 256 := (bs.getD j 0).toNat_lt
set_option maxRecDepth 100000 in
set_option maxHeartbeats 1000000 in
theorem rnum_fail (k : Nat) (A : Option Addr) (n c p : Nat) (g : Nat) (w : World)
    (kT : Calls Try.prog 24 #[.pointer (some ⟨g, 0, none⟩), .int .i64 (k : Int)] w fun e w' => e = .returned (.slice none 0 0) ∧ Has w' g 72 (curC A n c p true) ∧ w.grownBy w' (some g)) :
    Calls Try.prog 25 #[.pointer (some ⟨g, 0, none⟩), .int .i64 (k : Int)] w fun e w' => e = .returned (.int .i64 0) ∧ Has w' g 72 (curC A n c p true) ∧ w.grownBy w' (some g) := by
  go_enter Try.func25, Try.ntmps25
  go_wp2_with fail
  refine kT.mono ?_
  rintro e u ⟨rfl, hG, hg⟩
  clear kT
  go_wp2_with fail
  go_loopw [5, 7] (fun x ct wr => x = .int .i64 0 ∧ ct = .int .i64 (-1) ∧ wr = u) (fun _ _ _ => 0)
  case atStart => exact ⟨rfl, rfl, rfl⟩
  case round =>
    obtain ⟨rfl, rfl, rfl⟩ := hrel
    go_wp2_with fail
    go_ret
    exact ⟨rfl, hG, hg⟩
set_option maxRecDepth 100000 in
set_option maxHeartbeats 1000000 in
theorem rnum_ok (bs : List UInt8) (b o n c p k : Nat) (g : Nat) (w : World) (hG : Has w g 72 (curC (some ⟨b, o, none⟩) n c p false)) (hS : SlA w (some ⟨b, o, none⟩) n c bs) (hne : b ≠ g) (hp : p + k ≤ n) (hk : 0 < k) (hk4 : k ≤ 4) (hc : c < 9223372036854775808) :
    Calls Try.prog 25 #[.pointer (some ⟨g, 0, none⟩), .int .i64 (k : Int)] w fun e w' => e = .returned (.int .i64 ((leT (bsN bs) k p : Nat) : Int)) ∧ Has w' g 72 (curC (some ⟨b, o, none⟩) n c (p + k) false) ∧ w.grownBy w' (some g) := by
  have kT := rtake_some b o n c p k none g w hG hp hS.2.1 hc
  have hcell : ∀ j, j < k → w.cell? ⟨b, o + p + j, none⟩ = some (by8 (bs.getD (p + j) 0)) := fun j hj => by
    obtain ⟨b', o', e, _, h⟩ := hS.2.2 (by omega)
    obtain ⟨rfl, rfl⟩ : b' = b ∧ o' = o := by injection e with e; injection e with e1 e2; exact ⟨e1.symm, e2.symm⟩
    rw [Nat.add_assoc, h (p + j) (by omega)]
  have hlb : b < w.heap.size := by
    obtain ⟨b', o', e, h, _⟩ := hS.2.2 (by omega)
    obtain ⟨rfl, rfl⟩ : b' = b ∧ o' = o := by injection e with e; injection e with e1 e2; exact ⟨e1.symm, e2.symm⟩
    exact h
  have hmid : midO ⟨b, o, none⟩ c p = ⟨b, o + p, none⟩ := by
    have := hS.2.1
    unfold midO; rw [if_neg (by omega), Addr.add_mid]
  rw [hmid] at kT
  have hx := fun m j => leT_lt (bsN_lt bs) m j
  go_enter Try.func25, Try.ntmps25
  go_wp2_with fail
  refine kT.mono ?_
  rintro e u ⟨rfl, hG, hg⟩
  have hcu : ∀ j, j < k → u.cell? ⟨b, o + p + j, none⟩ = some (by8 (bs.getD (p + j) 0)) := fun j hj => by
    have h := hcell j hj
    unfold World.cell? at h ⊢
    dsimp only at h ⊢
    rw [hg.block b hlb (by simpa using hne)]
    exact h
  have HC := Lib.hid hcu
  have HX := Lib.hid hx
  clear kT hcell hlb hmid hne hS hcu hx hc
  generalize c - p = cc at *
  generalize o + p = oo at *
  go_wp2_with fail
  go_loopw [5, 7] (fun x ct wr => ∃ i : Nat, i ≤ k ∧ x = .int .i64 ((leT (bsN bs) (k - i) (p + i) : Nat) : Int) ∧ ct = .int .i64 ((i : Int) - 1) ∧ wr = u) (fun _ ct _ => (intOf ct + 1).toNat)
  case atStart => exact ⟨k, Nat.le_refl _, by rw [Nat.sub_self]; rfl, rfl, rfl⟩
  case round =>
    obtain ⟨i, hi, rfl, rfl, rfl⟩ := hrel
    by_cases hlt : 0 < i
    · obtain ⟨i, rfl⟩ : ∃ j, i = j + 1 := ⟨i - 1, by omega⟩
      have ek : ((i + 1 : Nat) : Int) - 1 = (i : Int) := by omega
      rw [ek]
      clear ek
      have hc0 := HC.out i (by omega)
      have e1 : leT (bsN bs) (k - i) (p + i) = bsN bs (p + i) + 256 * leT (bsN bs) (k - (i + 1)) (p + (i + 1)) := by
        rw [show k - i = (k - (i + 1)) + 1 by omega]; rfl
      have hx1 := HX.out (k - (i + 1)) (p + (i + 1))
      have hp4 : 256 ^ (k - (i + 1)) ≤ 256 ^ 3 := Nat.pow_le_pow_right (by omega) (by omega)
      have hb8 : by8 (bs.getD (p + i) 0) = .int .u8 ((bsN bs (p + i) : Nat) : Int) := rfl
      have hbl := bsN_lt bs (p + i)
      rw [hb8] at hc0
      generalize leT (bsN bs) (k - (i + 1)) (p + (i + 1)) = x0 at *
      generalize bsN bs (p + i) = d0 at *
      have hx2 : x0 < 16777216 := Nat.lt_of_lt_of_le hx1 (Nat.le_trans hp4 (by decide))
      have di : (i : Int) < (k : Int) := by omega
      have hres : Value.int .i64 ((x0 : Int) * 256 + (d0 : Int)) = .int .i64 ((leT (bsN bs) (k - i) (p + i) : Nat) : Int) := by
        rw [e1]; congr 1; omega
      have HR := Lib.hid hres
      clear e1 hx1 hp4 hb8 hres
      go_wp2_with fail
      go_roundw
      case rel => exact ⟨i, by omega, HR.out, by go_num, trivial⟩
      case measure => simp [intOf] <;> omega
    · obtain rfl : i = 0 := by omega
      rw [Nat.sub_zero, Nat.add_zero]
      go_wp2_with fail
      go_ret
      exact ⟨rfl, hG, hg⟩
end Go.Proofs.Ytoplknankmomcaa
