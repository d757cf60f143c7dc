/-
The reference of layer 3: what is left modulo m, differences, 2^256 modulo m.
Half a number, and a number over 2^256, modulo m: numbers.
The two primes of P-256: what isn't 0 modulo one of them has the power p - 1 equal to 1. By certificates (a root of each prime, the primes of p - 1), checked by the kernel's own arithmetic.
Montgomery's form in numbers: what a product over 2^256 is, and the laws' equalities.
A product over 2^256 word by word: each word's product, and the multiple of the modulus that makes the lowest word zero. Numbers alone.
Words of 32 bits: how the walk's integer operations read as words of 32 bits.
Words of 32 bits: sum and difference with a carry and a borrow.
limbs.Add and limbs.Sub: sums and differences of numbers of eight words.
'==' of two arrays of integers by value.
limbs.Zero, limbs.Compare, limbs.Bit.
-/
import Derived.Test.YtmgmfifkldpbmaaDoorRows
import Derived.Test.YtmgmfifkldpbmaaDoorMg00
import Derived.WalkKit
import Derived.Laws.BitsAllLaws
import Derived.WalkSpells
import Derived.WalkLawsBesides
import Derived.Outline
import Derived.Deep.QuietTactic
import Derived.BigQuiet
import Derived.BigRegion
import Derived.Lib.Hide
import Derived.IntWalk
import Derived.Laws.ResultCell
import Derived.Deep.RegionWith
import Derived.Laws.StructEq
namespace Go.Proofs.YtmgmfifkldpbmaaDoor
open Go.RowKit

def bitA (a k : Nat) : Nat := a / 2 ^ k % 2
theorem bitA_le (a k : Nat) : bitA a k ≤ 1 := by have : bitA a k < 2 := Nat.mod_lt _ (by decide); omega
theorem bit_hex (a k : Nat) : ((hxd a (k / 16) : Nat) : Int) / 2 ^ (k % 16) % 2 = ((bitA a k : Nat) : Int) := by
  have h := dg_dg (b := 2) (m := 16) (x := a) (q := k / 16) (r := k % 16) (by omega)
  rw [Nat.div_add_mod] at h
  have e : hxd a (k / 16) / 2 ^ (k % 16) % 2 = bitA a k := h
  rw [← e]
  simp [Int.natCast_ediv, Int.natCast_pow, Int.natCast_emod]
theorem quo16 (o1 o2 : Operand) (k : Nat) (hk : k < 65536) (w : World) : (do eqGuard .quo 3 o1 o2 (.int .i64 (k : Int)) (.int .i64 16); binOp .quo 3 (.int .i64 (k : Int)) (.int .i64 16) : Sem Value).run Tryd.prog w = .ok (.int .i64 ((k / 16 : Nat) : Int)) w := by
  have e1 : (k : Int).tdiv 16 = ((k / 16 : Nat) : Int) := by rw [Int.tdiv_eq_ediv_of_nonneg (by omega)]; omega
  go_simp
  exact IntWalk.i64_in _ (by omega)
theorem rem16 (o1 o2 : Operand) (k : Nat) (hk : k < 65536) (w : World) : (do eqGuard .rem 3 o1 o2 (.int .i64 (k : Int)) (.int .i64 16); binOp .rem 3 (.int .i64 (k : Int)) (.int .i64 16) : Sem Value).run Tryd.prog w = .ok (.int .i64 ((k % 16 : Nat) : Int)) w := by
  have e1 : (k : Int).tmod 16 = ((k % 16 : Nat) : Int) := by rw [Int.tmod_eq_emod_of_nonneg (by omega)]; omega
  go_simp
theorem shr64 (o1 o2 : Operand) (x k : Nat) (_hx : x < 65536) (hk : k < 64) (w : World) : (do eqGuard .shr 30 o1 o2 (.int .u64 (x : Int)) (.int .i64 (k : Int)); binOp .shr 30 (.int .u64 (x : Int)) (.int .i64 (k : Int)) : Sem Value).run Tryd.prog w = .ok (.int .u64 ((x : Int) / 2 ^ k)) w := by
  have hk2 : (k : Int) < 64 := by omega
  have hmin : min k 64 = k := Nat.min_eq_left (by omega)
  go_simp
theorem rem2 (o1 o2 : Operand) (x : Int) (b : Nat) (hx : 0 ≤ x) (h : x % 2 = (b : Int)) (w : World) : (do eqGuard .rem 30 o1 o2 (.int .u64 x) (.int .u64 2); binOp .rem 30 (.int .u64 x) (.int .u64 2) : Sem Value).run Tryd.prog w = .ok (.int .u64 (b : Int)) w := by
  have h2 : x.tmod 2 = (b : Int) := by rw [Int.tmod_eq_emod_of_nonneg hx]; exact h
  go_simp
theorem addr16 (g j : Nat) (hj : j < 16) (w : World) : (Instr.indexAt 32 (.pointer (some ⟨g, 0, none⟩)) (.int .i64 (j : Int))).run Tryd.prog w = .ok (.pointer (some ⟨g, j, none⟩)) w := by
  have h1 : (j : Int) < 16 := by omega
  go_simp
theorem cell_u64 (g j : Nat) (v : Value) (w : World) (h : w.cell? ⟨g, j, none⟩ = some v) : (Instr.loadAt 30 (.pointer (some ⟨g, j, none⟩))).run Tryd.prog w = .ok v w := by
  go_simp
attribute [local go_sem] zeroNum zero16 zero17
set_option maxRecDepth 100000 in
set_option maxHeartbeats 1000000 in
theorem reduce3_any (a m : Nat) (w : World) (ha : a < 65536 ^ 16) (hm0 : 0 < m) (hm : m < 65536 ^ 16) :
    Calls Tryd.prog 53 #[.agg (d16 a), .agg (d16 m)] w fun e w' => e = .returned (.agg (d16 (a % m))) ∧ Below w.heap.size w w' := by
  have htw := fun k W => twice_any (a / 2 ^ (k + 1) % m) m (bitA a k) W (Nat.mod_lt _ hm0) hm (bitA_le a k)
  have HTW := Lib.hid htw
  have hst : a / 2 ^ 256 % m = 0 := by
    have : (65536 : Nat) ^ 16 = 2 ^ 256 := by decide +kernel
    rw [this] at ha
    rw [Nat.div_eq_of_lt ha, Nat.zero_mod]
  have HST := Lib.hid hst
  clear htw hst ha hm0 hm
  go_enter Tryd.func53, Tryd.ntmps53
  go_wp2_with fail
  go_loopw [6] (fun ct wr => ∃ k : Nat, k ≤ 256 ∧ ct = .int .i64 ((k : Int) - 1) ∧ Has wr w.heap.size 32 (d16 a) ∧ Has wr (w.heap.size + 1) 32 (d16 m) ∧ Has wr (w.heap.size + 1 + 1) 32 (d16 0) ∧
      Has wr (w.heap.size + 1 + 1 + 1) 32 (d16 (a / 2 ^ k % m)) ∧ Below w.heap.size w wr) (fun ct _ => (intOf ct + 1).toNat)
  case atStart =>
    exact ⟨256, by omega, rfl, (((Has.new w _ _).alloc _).alloc _).alloc _, ((Has.new' (by simp)).alloc _).alloc _, (Has.new' (by simp)).alloc _, by rw [HST.out]; exact Has.new' (by simp),
      ((((Below.refl _ _).alloc (Nat.le_refl _) _).alloc (by simp) _).alloc (by simp <;> omega) _).alloc (by simp <;> omega) _⟩
  case round =>
    obtain ⟨k, hk, rfl, hA, hM, hR, hX, hb⟩ := hrel
    by_cases hlt : 0 < k
    · obtain ⟨k, rfl⟩ : ∃ j, k = j + 1 := ⟨k - 1, by omega⟩
      have ek : ((k + 1 : Nat) : Int) - 1 = (k : Int) := by omega
      rw [ek]
      clear ek
      have htw := HTW.out k
      have hts := twice_step a m k
      have hval : (2 * (a / 2 ^ (k + 1) % m) + bitA a k) % m = a / 2 ^ k % m := hts
      rw [hval] at htw
      clear hts hval
      generalize hold : a / 2 ^ (k + 1) % m = x at *
      generalize hnew : a / 2 ^ k % m = y at *
      have HN := Lib.hid hnew
      clear hold hnew
      go_wp2_with fail
      refine region_quiet_tail (Below wr.heap.size wr) 11 (by kernel_rfl) (by kernel_rfl) (below_drewN (Below.refl _ _) 1) ?_
      simp only [List.take_succ_cons, List.take_zero, List.drop_succ_cons, List.drop_zero]
      refine wpQ_has 32 _ rfl _ rfl rfl 32 _ (fun w' hC => hX.after hC) _ Tryd.underlying32 rfl (info16 _) ?_
      simp only [Act.put, List.setIfInBounds_toArray, List.set_cons_zero, List.set_cons_succ]
      refine wpQ_has 32 _ rfl _ rfl rfl 32 _ (fun w' hC => hM.after hC) _ Tryd.underlying32 rfl (info16 _) ?_
      simp only [Act.put, List.setIfInBounds_toArray, List.set_cons_zero, List.set_cons_succ]
      refine wpQ_move _ rfl rfl (.int .i64 (k : Int)) rfl ?_
      simp only [Act.put, List.setIfInBounds_toArray, List.set_cons_zero, List.set_cons_succ]
      refine wpQ_bin _ _ _ _ _ rfl rfl (.int .i64 (k : Int)) (.int .i64 16) rfl rfl (.int .i64 ((k / 16 : Nat) : Int)) (fun w' _ => quo16 _ _ k (by omega) w') ?_
      simp only [Act.put, List.setIfInBounds_toArray, List.set_cons_zero, List.set_cons_succ]
      refine wpQ_indexAddr _ _ _ rfl rfl (.pointer (some ⟨w.heap.size, 0, none⟩)) (.int .i64 ((k / 16 : Nat) : Int)) rfl rfl (.pointer (some ⟨w.heap.size, k / 16, none⟩)) (fun w' _ => addr16 _ _ (by omega) w') ?_
      simp only [Act.put, List.setIfInBounds_toArray, List.set_cons_zero, List.set_cons_succ]
      refine wpQ_load _ _ rfl rfl (.pointer (some ⟨w.heap.size, k / 16, none⟩)) rfl (.int .u64 ((hxd a (k / 16) : Nat) : Int)) (fun w' hC => cell_u64 _ _ _ w' (d16_at (hA.after hC) (k / 16) (by omega))) ?_
      simp only [Act.put, List.setIfInBounds_toArray, List.set_cons_zero, List.set_cons_succ]
      refine wpQ_move _ rfl rfl (.int .i64 (k : Int)) rfl ?_
      simp only [Act.put, List.setIfInBounds_toArray, List.set_cons_zero, List.set_cons_succ]
      refine wpQ_bin _ _ _ _ _ rfl rfl (.int .i64 (k : Int)) (.int .i64 16) rfl rfl (.int .i64 ((k % 16 : Nat) : Int)) (fun w' _ => rem16 _ _ k (by omega) w') ?_
      simp only [Act.put, List.setIfInBounds_toArray, List.set_cons_zero, List.set_cons_succ]
      refine wpQ_bin _ _ _ _ _ rfl rfl (.int .u64 ((hxd a (k / 16) : Nat) : Int)) (.int .i64 ((k % 16 : Nat) : Int)) rfl rfl (.int .u64 (((hxd a (k / 16) : Nat) : Int) / 2 ^ (k % 16))) (fun w' _ => shr64 _ _ _ _ (hxd_lt _ _) (by omega) w') ?_
      simp only [Act.put, List.setIfInBounds_toArray, List.set_cons_zero, List.set_cons_succ]
      refine wpQ_bin _ _ _ _ _ rfl rfl (.int .u64 (((hxd a (k / 16) : Nat) : Int) / 2 ^ (k % 16))) (.int .u64 2) rfl rfl (.int .u64 ((bitA a k : Nat) : Int)) (fun w' _ => rem2 _ _ _ _ (Int.ediv_nonneg (by omega) (Int.le_of_lt (Int.pow_pos (by decide)))) (bit_hex a k) w') ?_
      simp only [Act.put, List.setIfInBounds_toArray, List.set_cons_zero, List.set_cons_succ]
      refine wpQ_fn 54 _ _ rfl rfl #[.agg (d16 x), .agg (d16 m), .int .u64 ((bitA a k : Nat) : Int)] rfl (fun _ => by go_simp) (.agg (d16 y)) (fun w' hC => (htw w').mono fun e w'' ⟨he, hb⟩ => ⟨he, below_class hC hb⟩) ?_
      simp only [Act.put, List.setIfInBounds_toArray, List.set_cons_zero, List.set_cons_succ]
      refine wpQuiet_nil ?_
      intro w2 hC
      replace hA := hA.after hC
      replace hM := hM.after hC
      replace hR := hR.after hC
      replace hX := hX.after hC
      replace hb := below_trans hb hC
      clear hC htw
      have hX2 := hX.setRow (d16 y)
      have hA2 := hA.farRow (k := w.heap.size + 1 + 1 + 1) (by omega) (d16 y)
      have hM2 := hM.farRow (k := w.heap.size + 1 + 1 + 1) (by omega) (d16 y)
      have hR2 := hR.farRow (k := w.heap.size + 1 + 1 + 1) (by omega) (d16 y)
      have hb2 := below_setRow hb (g := w.heap.size + 1 + 1 + 1) (by omega) (d16 y)
      go_wp2_with (refine wpList_store_row rfl 32 _ _ rfl (w.heap.size + 1 + 1 + 1) _ rfl rfl 32 _ hX (info16 _) (by simp only [d16_size]) (tab_oneCell _ _ fun _ => rfl) ?_)
      go_roundw
      case rel => exact ⟨k, by omega, by go_num, hA2, hM2, hR2, by rw [HN.out]; exact hX2, hb2⟩
      case measure => simp [intOf] <;> omega
    · obtain rfl : k = 0 := by omega
      have hX' : Has wr (w.heap.size + 1 + 1 + 1) 32 (d16 (a % m)) := by rw [Nat.pow_zero, Nat.div_one] at hX; exact hX
      clear hX hA hM hk hlt
      go_wp2_with (first | refine wpList_load_row rfl 32 _ rfl (w.heap.size + 1 + 1 + 1) rfl 32 _ _ _ hX' Tryd.underlying32 rfl (info16 _) ?_ | refine wpList_store_row rfl 32 _ _ rfl (w.heap.size + 1 + 1) _ rfl rfl 32 _ hR (info16 _) (by simp only [d16_size]) (tab_oneCell _ _ fun _ => rfl) ?_)
      exact bodyPost_ret (v := .agg (d16 (a % m))) (results_cell_row rfl _ _ (w.heap.size + 1 + 1) 32 _ _ _ rfl (hR.setRow _) Tryd.underlying32 rfl (info16 _)) rfl ⟨rfl, below_setRow hb (by omega) _⟩

theorem one16 : (d16 0).setIfInBounds 0 (Value.int IntKind.u64 1) = d16 1 := by kernel_rfl
theorem d16_ne (x : Nat) : ¬ d16 x = #[] := fun h => by have := congrArg Array.size h; simp [d16_size] at this
attribute [local go_sem] one16
set_option maxRecDepth 100000 in
set_option maxHeartbeats 1000000 in
theorem r3_any (m : Nat) (w : World) (hm0 : 0 < m) (hm : m < 65536 ^ 16) :
    Calls Tryd.prog 30 #[.agg (d16 m)] w fun e w' => e = .returned (.agg (d16 (2 ^ 256 % m))) ∧ Below w.heap.size w w' := by
  have hred := fun W => reduce3_any 1 m W (by decide +kernel) hm0 hm
  have htw := fun k W => twice_any (2 ^ k % m) m 0 W (Nat.mod_lt _ hm0) hm (by decide)
  have htw2 : ∀ k W, Calls Tryd.prog 54 #[.agg (d16 (2 ^ k % m)), .agg (d16 m), .int .u64 0] W fun e w' => e = .returned (.agg (d16 (2 ^ (k + 1) % m))) ∧ Below W.heap.size W w' := fun k W => by
    have h := htw k W
    have e : (2 * (2 ^ k % m) + 0) % m = 2 ^ (k + 1) % m := by rw [Nat.add_zero, Nat.pow_succ, Nat.mul_comm (2 ^ k), Nat.mul_mod, Nat.mod_mod, ← Nat.mul_mod]
    rw [e] at h
    exact h
  have HTW := Lib.hid htw2
  have hne := d16_ne 0
  clear htw htw2 hm0 hm
  have hM : Has ((w.alloc (.cells (d16 m) 32)).alloc (.cells (d16 0) 32)) w.heap.size 32 (d16 m) := (Has.new w _ _).alloc _
  have hR : Has ((w.alloc (.cells (d16 m) 32)).alloc (.cells (d16 0) 32)) (w.heap.size + 1) 32 (d16 0) := Has.new' (by simp)
  have hb : Below w.heap.size w ((w.alloc (.cells (d16 m) 32)).alloc (.cells (d16 0) 32)) := ((Below.refl _ _).alloc (Nat.le_refl _) _).alloc (by simp) _
  go_enter Tryd.func30, Tryd.ntmps30
  go_wp2_with (refine wpList_load_has 32 _ rfl _ rfl rfl 32 _ hM _ Tryd.underlying32 rfl (info16 _) ?_)
  refine (hred _).mono ?_
  rintro e w1 ⟨rfl, hx⟩
  have hN := put_new w1 32 (d16 0) (d16 (1 % m))
  replace hM := (hM.after hx).after hN.2
  replace hR := (hR.after hx).after hN.2
  replace hb := below_trans (below_trans hb hx) hN.2
  have hX := hN.1
  have hw1 : w.heap.size ≤ w1.heap.size := by have := hx.size; simp at this; omega
  have hw2 : w.heap.size + 1 < w1.heap.size := by have := hx.size; simp at this; omega
  clear hx hN hred
  go_wp2_with (refine wpList_store_row rfl 32 _ _ rfl w1.heap.size _ rfl rfl 32 (d16 0) (Has.new' rfl) (info16 _) (by simp only [d16_size]) (tab_oneCell _ _ fun _ => rfl) ?_)
  generalize hg : w1.heap.size = g at *
  generalize hW : Go.World.setRow _ _ _ = W at *
  clear hW hg
  go_loopw [4] (fun ct wr => ∃ k : Nat, k ≤ 256 ∧ ct = .int .i64 k ∧ Has wr w.heap.size 32 (d16 m) ∧ Has wr (w.heap.size + 1) 32 (d16 0) ∧
      Has wr g 32 (d16 (2 ^ k % m)) ∧ Below w.heap.size w wr) (fun ct _ => 256 - (intOf ct).toNat)
  case atStart => exact ⟨0, by omega, rfl, hM, hR, hX, hb⟩
  case round =>
    clear hM hR hX hb
    obtain ⟨k, hk, rfl, hM, hR, hX, hb⟩ := hrel
    by_cases hlt : k < 256
    · have dk : (k : Int) < 256 := by omega
      have htw := HTW.out k
      generalize hold : 2 ^ k % m = x at *
      generalize hnew : 2 ^ (k + 1) % m = y at *
      have HN := Lib.hid hnew
      clear hold hnew
      go_wp2_with (first | refine wpList_load_has 32 _ rfl _ rfl rfl 32 _ hM _ Tryd.underlying32 rfl (info16 _) ?_ | refine wpList_load_has 32 _ rfl _ rfl rfl 32 _ hX _ Tryd.underlying32 rfl (info16 _) ?_)
      refine (htw _).mono ?_
      rintro e w2 ⟨rfl, hx⟩
      replace hM := hM.after hx
      replace hR := hR.after hx
      replace hX := hX.after hx
      replace hb := below_trans hb hx
      clear hx htw
      have hX2 := hX.setRow (d16 y)
      have hM2 := hM.farRow (k := g) (by omega) (d16 y)
      have hR2 := hR.farRow (k := g) (by omega) (d16 y)
      have hb2 := below_setRow hb (g := g) (by omega) (d16 y)
      go_wp2_with (refine wpList_store_row rfl 32 _ _ rfl g _ rfl rfl 32 _ hX (info16 _) (by simp only [d16_size]) (tab_oneCell _ _ fun _ => rfl) ?_)
      go_roundw
      case rel => exact ⟨k + 1, by omega, by go_num, hM2, hR2, by rw [HN.out]; exact hX2, hb2⟩
      case measure => simp [intOf]; omega
    · obtain rfl : k = 256 := by omega
      generalize hy : 2 ^ 256 % m = y at *
      have HY := Lib.hid hy
      clear hM hk hlt hy
      go_wp2_with (first | refine wpList_load_row rfl 32 _ rfl g rfl 32 _ _ _ hX Tryd.underlying32 rfl (info16 _) ?_ | refine wpList_store_row rfl 32 _ _ rfl (w.heap.size + 1) _ rfl rfl 32 _ hR (info16 _) (by simp only [d16_size]) (tab_oneCell _ _ fun _ => rfl) ?_)
      exact bodyPost_ret (v := .agg (d16 y)) (results_cell_row rfl _ _ (w.heap.size + 1) 32 _ _ _ rfl (hR.setRow _) Tryd.underlying32 rfl (info16 _)) rfl ⟨by rw [HY.out], below_setRow hb (by omega) _⟩

end Go.Proofs.YtmgmfifkldpbmaaDoor
namespace Go.Proofs.YtmgmfifkldpbmaaDoor

/-- half of a, modulo m (odd) -/
def halfN (m a : Nat) : Nat := (a + a % 2 * m) / 2
def overN (m a : Nat) : Nat → Nat
  | 0 => a
  | k + 1 => halfN m (overN m a k)
theorem halfN_lt (m a : Nat) (h : a < m) : halfN m a < m := by
  unfold halfN
  rcases (show a % 2 = 0 ∨ a % 2 = 1 by omega) with e | e <;> rw [e] <;> omega
theorem overN_lt (m a : Nat) (h : a < m) : ∀ k, overN m a k < m
  | 0 => h
  | k + 1 => halfN_lt m _ (overN_lt m a h k)
theorem halfN_two (m a : Nat) (hm : m % 2 = 1) : (2 * halfN m a) % m = a % m := by
  have h : 2 * halfN m a = a + a % 2 * m := by
    unfold halfN
    rcases (show a % 2 = 0 ∨ a % 2 = 1 by omega) with e | e <;> rw [e] <;> omega
  rw [h, Nat.add_mul_mod_self_right]
theorem overN_pow (m a : Nat) (hm : m % 2 = 1) : ∀ k, (2 ^ k * overN m a k) % m = a % m
  | 0 => by simp [overN]
  | k + 1 => by
    show (2 ^ (k + 1) * halfN m (overN m a k)) % m = a % m
    rw [Nat.pow_succ, Nat.mul_assoc, Nat.mul_mod, halfN_two m _ hm, ← Nat.mul_mod, overN_pow m a hm k]
end Go.Proofs.YtmgmfifkldpbmaaDoor
namespace Go.Proofs.YtmgmfifkldpbmaaDoor
open Go

def IsPr (p : Nat) : Prop := 2 ≤ p ∧ ∀ a b, p ∣ a * b → p ∣ a ∨ p ∣ b
theorem small_pr (p : Nat) (h2 : 2 ≤ p) (hd : ∀ d, d < p → 2 ≤ d → p % d ≠ 0) : IsPr p := by
  refine ⟨h2, fun a b hab => ?_⟩
  have hg : Nat.gcd p a ∣ p := Nat.gcd_dvd_left p a
  have hle : Nat.gcd p a ≤ p := Nat.le_of_dvd (by omega) hg
  have hpos : 0 < Nat.gcd p a := Nat.gcd_pos_of_pos_left a (by omega)
  by_cases h1 : Nat.gcd p a = 1
  · exact .inr (Nat.Coprime.dvd_of_dvd_mul_left h1 hab)
  · by_cases hp : Nat.gcd p a = p
    · left
      rw [← hp]
      exact Nat.gcd_dvd_right p a
    · exact absurd (Nat.mod_eq_zero_of_dvd hg) (hd _ (by omega) (by omega))
/-- b to the power e, modulo n, by squares -/
def powm (n : Nat) : Nat → Nat → Nat → Nat
  | 0, _, _ => 1 % n
  | f + 1, b, e => if e = 0 then 1 % n else if e % 2 = 1 then b * powm n f (b * b % n) (e / 2) % n else powm n f (b * b % n) (e / 2)
theorem powm_eq (n : Nat) : ∀ (f b e : Nat), e < 2 ^ f → powm n f b e = b ^ e % n
  | 0, b, e, h => by
    obtain rfl : e = 0 := by simpa using h
    rfl
  | f + 1, b, e, h => by
    unfold powm
    by_cases h0 : e = 0
    · rw [if_pos h0, h0, Nat.pow_zero]
    · rw [if_neg h0]
      have hlt : e / 2 < 2 ^ f := by rw [Nat.pow_succ] at h; omega
      rw [powm_eq n f _ _ hlt, ← Nat.pow_mod]
      have hsq : (b * b) ^ (e / 2) = b ^ (2 * (e / 2)) := by rw [Nat.pow_mul, Nat.pow_two]
      rw [hsq]
      by_cases h1 : e % 2 = 1
      · rw [if_pos h1, Nat.mul_mod, Nat.mod_mod, ← Nat.mul_mod, ← Nat.pow_succ']
        congr 2; omega
      · rw [if_neg h1]
        congr 2; omega
/-- a one-to-one map of the numbers below N into themselves meets each -/
theorem pigeon : ∀ (N : Nat) (f : Nat → Nat), (∀ i, i < N → f i < N) → (∀ i j, i < N → j < N → f i = f j → i = j) → ∀ y, y < N → ∃ i, i < N ∧ f i = y
  | 0, _, _, _, y, h => by omega
  | N + 1, f, hf, hi, y, hy => by
    have ih := pigeon N (fun i => if f i = N then f N else f i)
      (fun i h => by
        show (if f i = N then f N else f i) < N
        by_cases c : f i = N
        · rw [if_pos c]
          have h1 := hf N (by omega)
          have h2 : f N ≠ N := fun e => by have := hi i N (by omega) (by omega) (by rw [c, e]); omega
          omega
        · rw [if_neg c]
          have := hf i (by omega)
          omega)
      (fun i j h1 h2 h => by
        have h' : (if f i = N then f N else f i) = (if f j = N then f N else f j) := h
        by_cases c : f i = N
        · by_cases d : f j = N
          · exact hi i j (by omega) (by omega) (by rw [c, d])
          · rw [if_pos c, if_neg d] at h'
            have := hi N j (by omega) (by omega) h'
            omega
        · by_cases d : f j = N
          · rw [if_neg c, if_pos d] at h'
            have := hi i N (by omega) (by omega) h'
            omega
          · rw [if_neg c, if_neg d] at h'
            exact hi i j (by omega) (by omega) h')
    by_cases e1 : y = f N
    · exact ⟨N, by omega, e1.symm⟩
    · by_cases e2 : y = N
      · have hv : f N < N := by have := hf N (by omega); omega
        obtain ⟨i, h1, h2⟩ := ih (f N) hv
        have h2' : (if f i = N then f N else f i) = f N := h2
        by_cases c : f i = N
        · exact ⟨i, by omega, by rw [c, e2]⟩
        · rw [if_neg c] at h2'
          have := hi i N (by omega) (by omega) h2'
          omega
      · obtain ⟨i, h1, h2⟩ := ih y (by omega)
        have h2' : (if f i = N then f N else f i) = y := h2
        by_cases c : f i = N
        · rw [if_pos c] at h2'; exact absurd h2'.symm e1
        · rw [if_neg c] at h2'; exact ⟨i, by omega, h2'⟩
def prodL : List Nat → Nat
  | [] => 1
  | q :: r => q * prodL r
theorem some_prime : ∀ (L : List Nat), (∀ q ∈ L, IsPr q) → ∀ e d : Nat, e * d = prodL L → 1 < e → ∃ q ∈ L, q ∣ e
  | [], _, e, d, h, h1 => by
    have : e ∣ 1 := ⟨d, h.symm⟩
    have := Nat.le_of_dvd (by decide) this
    omega
  | q :: r, hL, e, d, h, h1 => by
    have hq := hL q (List.mem_cons_self ..)
    have hdv : q ∣ e * d := ⟨prodL r, h⟩
    rcases hq.2 e d hdv with h2 | h2
    · exact ⟨q, List.mem_cons_self .., h2⟩
    · obtain ⟨d', rfl⟩ := h2
      have hqp : 0 < q := by have := hq.1; omega
      have h3 : e * d' = prodL r := by
        have : q * (e * d') = q * prodL r := by
          show _ = prodL (q :: r)
          rw [← h, Nat.mul_left_comm]
        exact Nat.eq_of_mul_eq_mul_left hqp this
      obtain ⟨x, hx, hd⟩ := some_prime r (fun y hy => hL y (List.mem_cons_of_mem _ hy)) e d' h3 h1
      exact ⟨x, List.mem_cons_of_mem _ hx, hd⟩
theorem pow_one_mul (n g a b : Nat) (h : g ^ a % n = 1 % n) : g ^ (a * b) % n = 1 % n := by
  rw [Nat.pow_mul, Nat.pow_mod, h, ← Nat.pow_mod, Nat.one_pow]
theorem pow_add_one (n g a b : Nat) (h : g ^ a % n = 1 % n) : g ^ (a + b) % n = g ^ b % n := by
  rw [Nat.pow_add, Nat.mul_mod, h, ← Nat.mul_mod, Nat.one_mul]
/-- the least number with P, if there is one -/
theorem least {P : Nat → Prop} (n : Nat) (h : P n) : ∃ m, P m ∧ m ≤ n ∧ ∀ k, k < m → ¬ P k := by
  induction n using Nat.strongRecOn with
  | _ n ih =>
    by_cases c : ∃ k, k < n ∧ P k
    · obtain ⟨k, hk, hp⟩ := c
      obtain ⟨m, h1, h2, h3⟩ := ih k hk hp
      exact ⟨m, h1, by omega, h3⟩
    · exact ⟨n, h, Nat.le_refl _, fun k hk hp => c ⟨k, hk, hp⟩⟩
/-- a root g, all primes of n - 1: every number that isn't 0 modulo n is a power of g -/
theorem fermat_of (n g : Nat) (L : List Nat) (hn : 3 ≤ n) (hL : ∀ q ∈ L, IsPr q) (hprod : prodL L = n - 1) (h1 : g ^ (n - 1) % n = 1) (hq : ∀ q ∈ L, g ^ ((n - 1) / q) % n ≠ 1) :
    ∀ a, a % n ≠ 0 → a ^ (n - 1) % n = 1 := by
  have h1n : 1 % n = 1 := Nat.mod_eq_of_lt (by omega)
  have h1' : g ^ (n - 1) % n = 1 % n := by rw [h1n]; exact h1
  -- the order of g
  obtain ⟨d, ⟨hd0, hd1⟩, hdle, hmin⟩ := least (P := fun d => 0 < d ∧ g ^ d % n = 1 % n) (n - 1) ⟨by omega, h1'⟩
  have hdn : d = n - 1 := by
    have hz : (n - 1) % d = 0 := by
      refine Classical.byContradiction fun c => ?_
      have e : g ^ (n - 1) % n = g ^ ((n - 1) % d) % n := by
        have e2 : n - 1 = d * ((n - 1) / d) + (n - 1) % d := (Nat.div_add_mod _ _).symm
        conv => lhs; rw [e2]
        exact pow_add_one n g _ _ (pow_one_mul n g d _ hd1)
      exact hmin ((n - 1) % d) (Nat.mod_lt _ hd0) ⟨by omega, by rw [← e]; exact h1'⟩
    obtain ⟨e, he⟩ : ∃ e, n - 1 = d * e := ⟨(n - 1) / d, by have := Nat.div_add_mod (n - 1) d; omega⟩
    by_cases c : 1 < e
    · obtain ⟨q, hqL, x, hx⟩ := some_prime L hL e d (by rw [hprod, he, Nat.mul_comm]) c
      have hq2 := (hL q hqL).1
      have e2 : (n - 1) / q = d * x := by rw [he, hx, ← Nat.mul_assoc, Nat.mul_comm d q, Nat.mul_assoc, Nat.mul_div_cancel_left _ (by omega)]
      exact absurd (by rw [e2, pow_one_mul n g d x hd1, h1n]) (hq q hqL)
    · have : e = 1 := by
        have : e ≠ 0 := fun h0 => by rw [h0, Nat.mul_zero] at he; omega
        omega
      rw [this, Nat.mul_one] at he
      exact he.symm
  subst hdn
  have hnz : ∀ i, i < n - 1 → g ^ i % n ≠ 0 := fun i hi h0 => by
    have : g ^ (i + (n - 1 - i)) % n = 0 := by rw [Nat.pow_add, Nat.mul_mod, h0, Nat.zero_mul, Nat.zero_mod]
    rw [show i + (n - 1 - i) = n - 1 by omega, h1] at this
    cases this
  have hinj : ∀ i j, i < j → j < n - 1 → g ^ i % n ≠ g ^ j % n := fun i j hij hj h => by
    have e1 : g ^ (i + (n - 1 - i)) % n = g ^ (j + (n - 1 - i)) % n := by rw [Nat.pow_add, Nat.mul_mod, h, ← Nat.mul_mod, ← Nat.pow_add]
    rw [show i + (n - 1 - i) = n - 1 by omega, show j + (n - 1 - i) = n - 1 + (j - i) by omega, pow_add_one n g _ _ h1', h1'] at e1
    exact hmin (j - i) (by omega) ⟨by omega, e1.symm⟩
  intro a ha
  have hap : a % n - 1 < n - 1 := by have := Nat.mod_lt a (show 0 < n by omega); omega
  obtain ⟨i, hi, hia⟩ := pigeon (n - 1) (fun i => g ^ i % n - 1)
    (fun i hi => by have h2 := hnz i hi; have := Nat.mod_lt (g ^ i) (show 0 < n by omega); show g ^ i % n - 1 < n - 1; omega)
    (fun i j hi hj h => by
      have h' : g ^ i % n - 1 = g ^ j % n - 1 := h
      have h2 := hnz i hi
      have h3 := hnz j hj
      rcases Nat.lt_trichotomy i j with c | c | c
      · exact absurd (by omega) (hinj i j c hj)
      · exact c
      · exact absurd (by omega) (hinj j i c hi)) (a % n - 1) hap
  have hia' : g ^ i % n - 1 = a % n - 1 := hia
  have hga : g ^ i % n = a % n := by have := hnz i hi; omega
  rw [Nat.pow_mod, ← hga, ← Nat.pow_mod, ← Nat.pow_mul, Nat.mul_comm, pow_one_mul n g _ i h1', h1n]
theorem pr_of (n : Nat) (hn : 3 ≤ n) (hf : ∀ a, a % n ≠ 0 → a ^ (n - 1) % n = 1) : IsPr n := by
  refine ⟨by omega, fun a b hab => ?_⟩
  by_cases h : a % n = 0
  · exact .inl (Nat.dvd_of_mod_eq_zero h)
  · right
    have h1 := hf a h
    have hz : (a ^ (n - 2) * (a * b)) % n = 0 := Nat.mod_eq_zero_of_dvd (Nat.dvd_mul_left_of_dvd hab _)
    have e : a ^ (n - 2) * (a * b) = a ^ (n - 1) * b := by
      rw [← Nat.mul_assoc, ← Nat.pow_succ]
      congr 2; omega
    rw [e, Nat.mul_mod, h1, Nat.one_mul, Nat.mod_mod] at hz
    exact Nat.dvd_of_mod_eq_zero hz
/-- the certificate, as the kernel checks it -/
def certB (n g : Nat) (L : List Nat) : Bool := decide (3 ≤ n) && decide (prodL L = n - 1) && decide (n < 2 ^ 256) && decide (powm n 256 g (n - 1) = 1) && L.all fun q => decide (powm n 256 g ((n - 1) / q) ≠ 1)
theorem cert_fermat (n g : Nat) (L : List Nat) (h : certB n g L = true) (hL : ∀ q ∈ L, IsPr q) : ∀ a, a % n ≠ 0 → a ^ (n - 1) % n = 1 := by
  simp only [certB, Bool.and_eq_true, decide_eq_true_eq, List.all_eq_true] at h
  obtain ⟨⟨⟨⟨h1, h2⟩, h3⟩, h4⟩, h5⟩ := h
  refine fermat_of n g L h1 hL h2 (by rw [← powm_eq n 256 g _ (by omega)]; exact h4) fun q hq => ?_
  have h6 := h5 q hq
  rwa [powm_eq n 256 g _ (Nat.lt_of_le_of_lt (Nat.div_le_self _ _) (by omega))] at h6
theorem cert_pr (n g : Nat) (L : List Nat) (h : certB n g L = true) (hL : ∀ q ∈ L, IsPr q) : IsPr n := by
  have h' := h
  simp only [certB, Bool.and_eq_true, decide_eq_true_eq] at h'
  exact pr_of n h'.1.1.1.1 (cert_fermat n g L h hL)
theorem all_nil : ∀ q ∈ ([] : List Nat), IsPr q := fun _ h => by simp at h
theorem all_cons {x : Nat} {L : List Nat} (hx : IsPr x) (h : ∀ q ∈ L, IsPr q) : ∀ q ∈ x :: L, IsPr q := fun q hq => by
  rcases List.mem_cons.1 hq with rfl | hq
  · exact hx
  · exact h q hq

theorem pr0 : IsPr 2 := small_pr 2 (by decide) (by decide +kernel)
theorem pr1 : IsPr 3 := small_pr 3 (by decide) (by decide +kernel)
theorem pr2 : IsPr 5 := small_pr 5 (by decide) (by decide +kernel)
theorem pr3 : IsPr 17 := small_pr 17 (by decide) (by decide +kernel)
theorem pr4 : IsPr 257 := small_pr 257 (by decide) (by decide +kernel)
theorem pr5 : IsPr 641 := cert_pr 641 3 [2, 2, 2, 2, 2, 2, 2, 5] (by decide +kernel) (all_cons pr0 (all_cons pr0 (all_cons pr0 (all_cons pr0 (all_cons pr0 (all_cons pr0 (all_cons pr0 (all_cons pr2 (all_nil)))))))))
theorem pr6 : IsPr 1531 := cert_pr 1531 2 [2, 3, 3, 5, 17] (by decide +kernel) (all_cons pr0 (all_cons pr1 (all_cons pr1 (all_cons pr2 (all_cons pr3 (all_nil))))))
theorem pr7 : IsPr 65537 := cert_pr 65537 3 [2, 2, 2, 2, 2, 2, 2, 2, 2, 2, 2, 2, 2, 2, 2, 2] (by decide +kernel) (all_cons pr0 (all_cons pr0 (all_cons pr0 (all_cons pr0 (all_cons pr0 (all_cons pr0 (all_cons pr0 (all_cons pr0 (all_cons pr0 (all_cons pr0 (all_cons pr0 (all_cons pr0 (all_cons pr0 (all_cons pr0 (all_cons pr0 (all_cons pr0 (all_nil)))))))))))))))))
theorem pr8 : IsPr 7 := small_pr 7 (by decide) (by decide +kernel)
theorem pr9 : IsPr 53 := small_pr 53 (by decide) (by decide +kernel)
theorem pr10 : IsPr 11 := small_pr 11 (by decide) (by decide +kernel)
theorem pr11 : IsPr 661 := cert_pr 661 2 [2, 2, 3, 5, 11] (by decide +kernel) (all_cons pr0 (all_cons pr0 (all_cons pr1 (all_cons pr2 (all_cons pr10 (all_nil))))))
theorem pr12 : IsPr 490463 := cert_pr 490463 14 [2, 7, 53, 661] (by decide +kernel) (all_cons pr0 (all_cons pr8 (all_cons pr9 (all_cons pr11 (all_nil)))))
theorem pr13 : IsPr 727 := cert_pr 727 5 [2, 3, 11, 11] (by decide +kernel) (all_cons pr0 (all_cons pr1 (all_cons pr10 (all_cons pr10 (all_nil)))))
theorem pr14 : IsPr 17449 := cert_pr 17449 14 [2, 2, 2, 3, 727] (by decide +kernel) (all_cons pr0 (all_cons pr0 (all_cons pr0 (all_cons pr1 (all_cons pr13 (all_nil))))))
theorem pr15 : IsPr 6700417 := cert_pr 6700417 5 [2, 2, 2, 2, 2, 2, 2, 3, 17449] (by decide +kernel) (all_cons pr0 (all_cons pr0 (all_cons pr0 (all_cons pr0 (all_cons pr0 (all_cons pr0 (all_cons pr0 (all_cons pr1 (all_cons pr14 (all_nil))))))))))
theorem pr16 : IsPr 241 := small_pr 241 (by decide) (by decide +kernel)
theorem pr17 : IsPr 2411 := cert_pr 2411 6 [2, 5, 241] (by decide +kernel) (all_cons pr0 (all_cons pr2 (all_cons pr16 (all_nil))))
theorem pr18 : IsPr 23 := small_pr 23 (by decide) (by decide +kernel)
theorem pr19 : IsPr 107 := small_pr 107 (by decide) (by decide +kernel)
theorem pr20 : IsPr 157 := small_pr 157 (by decide) (by decide +kernel)
theorem pr21 : IsPr 3769 := cert_pr 3769 7 [2, 2, 2, 3, 157] (by decide +kernel) (all_cons pr0 (all_cons pr0 (all_cons pr0 (all_cons pr1 (all_cons pr20 (all_nil))))))
theorem pr22 : IsPr 204061199 := cert_pr 204061199 11 [2, 11, 23, 107, 3769] (by decide +kernel) (all_cons pr0 (all_cons pr10 (all_cons pr18 (all_cons pr19 (all_cons pr21 (all_nil))))))
theorem pr23 : IsPr 34282281433 := cert_pr 34282281433 17 [2, 2, 2, 3, 7, 204061199] (by decide +kernel) (all_cons pr0 (all_cons pr0 (all_cons pr0 (all_cons pr1 (all_cons pr8 (all_cons pr22 (all_nil)))))))
theorem pr24 : IsPr 173 := small_pr 173 (by decide) (by decide +kernel)
theorem pr25 : IsPr 197 := small_pr 197 (by decide) (by decide +kernel)
theorem pr26 : IsPr 919 := cert_pr 919 7 [2, 3, 3, 3, 17] (by decide +kernel) (all_cons pr0 (all_cons pr1 (all_cons pr1 (all_cons pr1 (all_cons pr3 (all_nil))))))
theorem pr27 : IsPr 3677 := cert_pr 3677 2 [2, 2, 919] (by decide +kernel) (all_cons pr0 (all_cons pr0 (all_cons pr26 (all_nil))))
theorem pr28 : IsPr 66417393611 := cert_pr 66417393611 6 [2, 5, 53, 173, 197, 3677] (by decide +kernel) (all_cons pr0 (all_cons pr2 (all_cons pr9 (all_cons pr24 (all_cons pr25 (all_cons pr27 (all_nil)))))))
theorem pr29 : IsPr 11290956913871 := cert_pr 11290956913871 13 [2, 5, 17, 66417393611] (by decide +kernel) (all_cons pr0 (all_cons pr2 (all_cons pr3 (all_cons pr28 (all_nil)))))
theorem pr30 : IsPr 757 := cert_pr 757 2 [2, 2, 3, 3, 3, 7] (by decide +kernel) (all_cons pr0 (all_cons pr0 (all_cons pr1 (all_cons pr1 (all_cons pr1 (all_cons pr8 (all_nil)))))))
theorem pr31 : IsPr 18169 := cert_pr 18169 11 [2, 2, 2, 3, 757] (by decide +kernel) (all_cons pr0 (all_cons pr0 (all_cons pr0 (all_cons pr1 (all_cons pr30 (all_nil))))))
theorem pr32 : IsPr 181 := small_pr 181 (by decide) (by decide +kernel)
theorem pr33 : IsPr 1087 := cert_pr 1087 3 [2, 3, 181] (by decide +kernel) (all_cons pr0 (all_cons pr1 (all_cons pr32 (all_nil))))
theorem pr34 : IsPr 4349 := cert_pr 4349 2 [2, 2, 1087] (by decide +kernel) (all_cons pr0 (all_cons pr0 (all_cons pr33 (all_nil))))
theorem pr35 : IsPr 78283 := cert_pr 78283 3 [2, 3, 3, 4349] (by decide +kernel) (all_cons pr0 (all_cons pr1 (all_cons pr1 (all_cons pr34 (all_nil)))))
theorem pr36 : IsPr 13 := small_pr 13 (by decide) (by decide +kernel)
theorem pr37 : IsPr 313 := cert_pr 313 10 [2, 2, 2, 3, 13] (by decide +kernel) (all_cons pr0 (all_cons pr0 (all_cons pr0 (all_cons pr1 (all_cons pr36 (all_nil))))))
theorem pr38 : IsPr 704251 := cert_pr 704251 2 [2, 3, 3, 5, 5, 5, 313] (by decide +kernel) (all_cons pr0 (all_cons pr1 (all_cons pr1 (all_cons pr2 (all_cons pr2 (all_cons pr2 (all_cons pr37 (all_nil))))))))
theorem pr39 : IsPr 46076956964474543 := cert_pr 46076956964474543 5 [2, 23, 18169, 78283, 704251] (by decide +kernel) (all_cons pr0 (all_cons pr18 (all_cons pr31 (all_cons pr35 (all_cons pr38 (all_nil))))))
theorem pr40 : IsPr 774023187263532362759620327192479577272145303 := cert_pr 774023187263532362759620327192479577272145303 3 [2, 3, 3, 2411, 34282281433, 11290956913871, 46076956964474543] (by decide +kernel) (all_cons pr0 (all_cons pr1 (all_cons pr1 (all_cons pr17 (all_cons pr23 (all_cons pr29 (all_cons pr39 (all_nil))))))))
theorem pr41 : IsPr 835945042244614951780389953367877943453916927241 := cert_pr 835945042244614951780389953367877943453916927241 11 [2, 2, 2, 3, 3, 3, 5, 774023187263532362759620327192479577272145303] (by decide +kernel) (all_cons pr0 (all_cons pr0 (all_cons pr0 (all_cons pr1 (all_cons pr1 (all_cons pr1 (all_cons pr2 (all_cons pr40 (all_nil)))))))))
def primeP : Nat := 115792089210356248762697446949407573530086143415290314195533631308867097853951
theorem fermatP : ∀ a, a % primeP ≠ 0 → a ^ (primeP - 1) % primeP = 1 := cert_fermat primeP 6 [2, 3, 5, 5, 17, 257, 641, 1531, 65537, 490463, 6700417, 835945042244614951780389953367877943453916927241] (by decide +kernel) (all_cons pr0 (all_cons pr1 (all_cons pr2 (all_cons pr2 (all_cons pr3 (all_cons pr4 (all_cons pr5 (all_cons pr6 (all_cons pr7 (all_cons pr12 (all_cons pr15 (all_cons pr41 (all_nil)))))))))))))
theorem pr43 : IsPr 71 := small_pr 71 (by decide) (by decide +kernel)
theorem pr44 : IsPr 131 := small_pr 131 (by decide) (by decide +kernel)
theorem pr45 : IsPr 31 := small_pr 31 (by decide) (by decide +kernel)
theorem pr46 : IsPr 373 := cert_pr 373 2 [2, 2, 3, 31] (by decide +kernel) (all_cons pr0 (all_cons pr0 (all_cons pr1 (all_cons pr45 (all_nil)))))
theorem pr47 : IsPr 3407 := cert_pr 3407 5 [2, 13, 131] (by decide +kernel) (all_cons pr0 (all_cons pr36 (all_cons pr44 (all_nil))))
theorem pr48 : IsPr 37 := small_pr 37 (by decide) (by decide +kernel)
theorem pr49 : IsPr 43 := small_pr 43 (by decide) (by decide +kernel)
theorem pr50 : IsPr 9547 := cert_pr 9547 2 [2, 3, 37, 43] (by decide +kernel) (all_cons pr0 (all_cons pr1 (all_cons pr48 (all_cons pr49 (all_nil)))))
theorem pr51 : IsPr 38189 := cert_pr 38189 2 [2, 2, 9547] (by decide +kernel) (all_cons pr0 (all_cons pr0 (all_cons pr50 (all_nil))))
theorem pr52 : IsPr 229 := small_pr 229 (by decide) (by decide +kernel)
theorem pr53 : IsPr 1201 := cert_pr 1201 11 [2, 2, 2, 2, 3, 5, 5] (by decide +kernel) (all_cons pr0 (all_cons pr0 (all_cons pr0 (all_cons pr0 (all_cons pr1 (all_cons pr2 (all_cons pr2 (all_nil))))))))
theorem pr54 : IsPr 9350987 := cert_pr 9350987 2 [2, 17, 229, 1201] (by decide +kernel) (all_cons pr0 (all_cons pr3 (all_cons pr52 (all_cons pr53 (all_nil)))))
theorem pr55 : IsPr 187019741 := cert_pr 187019741 2 [2, 2, 5, 9350987] (by decide +kernel) (all_cons pr0 (all_cons pr0 (all_cons pr2 (all_cons pr54 (all_nil)))))
theorem pr56 : IsPr 29 := small_pr 29 (by decide) (by decide +kernel)
theorem pr57 : IsPr 311 := cert_pr 311 17 [2, 5, 31] (by decide +kernel) (all_cons pr0 (all_cons pr2 (all_cons pr45 (all_nil))))
theorem pr58 : IsPr 311245691 := cert_pr 311245691 2 [2, 5, 7, 17, 29, 29, 311] (by decide +kernel) (all_cons pr0 (all_cons pr2 (all_cons pr8 (all_cons pr3 (all_cons pr56 (all_cons pr56 (all_cons pr57 (all_nil))))))))
theorem pr59 : IsPr 622491383 := cert_pr 622491383 5 [2, 311245691] (by decide +kernel) (all_cons pr0 (all_cons pr58 (all_nil)))
theorem pr60 : IsPr 263 := small_pr 263 (by decide) (by decide +kernel)
theorem pr61 : IsPr 126241 := cert_pr 126241 7 [2, 2, 2, 2, 2, 3, 5, 263] (by decide +kernel) (all_cons pr0 (all_cons pr0 (all_cons pr0 (all_cons pr0 (all_cons pr0 (all_cons pr1 (all_cons pr2 (all_cons pr60 (all_nil)))))))))
theorem pr62 : IsPr 19 := small_pr 19 (by decide) (by decide +kernel)
theorem pr63 : IsPr 337 := cert_pr 337 10 [2, 2, 2, 2, 3, 7] (by decide +kernel) (all_cons pr0 (all_cons pr0 (all_cons pr0 (all_cons pr0 (all_cons pr1 (all_cons pr8 (all_nil)))))))
theorem pr64 : IsPr 104471 := cert_pr 104471 11 [2, 5, 31, 337] (by decide +kernel) (all_cons pr0 (all_cons pr2 (all_cons pr45 (all_cons pr63 (all_nil)))))
theorem pr65 : IsPr 3969899 := cert_pr 3969899 2 [2, 19, 104471] (by decide +kernel) (all_cons pr0 (all_cons pr62 (all_cons pr64 (all_nil))))
theorem pr66 : IsPr 1002328039319 := cert_pr 1002328039319 19 [2, 126241, 3969899] (by decide +kernel) (all_cons pr0 (all_cons pr61 (all_cons pr65 (all_nil))))
theorem pr67 : IsPr 1297 := cert_pr 1297 10 [2, 2, 2, 2, 3, 3, 3, 3] (by decide +kernel) (all_cons pr0 (all_cons pr0 (all_cons pr0 (all_cons pr0 (all_cons pr1 (all_cons pr1 (all_cons pr1 (all_cons pr1 (all_nil)))))))))
theorem pr68 : IsPr 97 := small_pr 97 (by decide) (by decide +kernel)
theorem pr69 : IsPr 16879 := cert_pr 16879 3 [2, 3, 29, 97] (by decide +kernel) (all_cons pr0 (all_cons pr1 (all_cons pr56 (all_cons pr68 (all_nil)))))
theorem pr70 : IsPr 127 := small_pr 127 (by decide) (by decide +kernel)
theorem pr71 : IsPr 151 := small_pr 151 (by decide) (by decide +kernel)
theorem pr72 : IsPr 1511 := cert_pr 1511 11 [2, 5, 151] (by decide +kernel) (all_cons pr0 (all_cons pr2 (all_cons pr71 (all_nil))))
theorem pr73 : IsPr 3023 := cert_pr 3023 5 [2, 1511] (by decide +kernel) (all_cons pr0 (all_cons pr72 (all_nil)))
theorem pr74 : IsPr 41 := small_pr 41 (by decide) (by decide +kernel)
theorem pr75 : IsPr 155317 := cert_pr 155317 5 [2, 2, 3, 7, 43, 43] (by decide +kernel) (all_cons pr0 (all_cons pr0 (all_cons pr1 (all_cons pr8 (all_cons pr49 (all_cons pr49 (all_nil)))))))
theorem pr76 : IsPr 191039911 := cert_pr 191039911 3 [2, 3, 5, 41, 155317] (by decide +kernel) (all_cons pr0 (all_cons pr1 (all_cons pr2 (all_cons pr74 (all_cons pr75 (all_nil))))))
theorem pr77 : IsPr 208150935158385979 := cert_pr 208150935158385979 2 [2, 3, 11, 43, 127, 3023, 191039911] (by decide +kernel) (all_cons pr0 (all_cons pr1 (all_cons pr10 (all_cons pr49 (all_cons pr70 (all_cons pr73 (all_cons pr76 (all_nil))))))))
theorem pr78 : IsPr 2624747550333869278416773953 := cert_pr 2624747550333869278416773953 7 [2, 2, 2, 2, 2, 2, 3, 3, 1297, 16879, 208150935158385979] (by decide +kernel) (all_cons pr0 (all_cons pr0 (all_cons pr0 (all_cons pr0 (all_cons pr0 (all_cons pr0 (all_cons pr1 (all_cons pr1 (all_cons pr67 (all_cons pr69 (all_cons pr77 (all_nil))))))))))))
def primeN : Nat := 115792089210356248762697446949407573529996955224135760342422259061068512044369
theorem fermatN : ∀ a, a % primeN ≠ 0 → a ^ (primeN - 1) % primeN = 1 := cert_fermat primeN 7 [2, 2, 2, 2, 3, 71, 131, 373, 3407, 17449, 38189, 187019741, 622491383, 1002328039319, 2624747550333869278416773953] (by decide +kernel) (all_cons pr0 (all_cons pr0 (all_cons pr0 (all_cons pr0 (all_cons pr1 (all_cons pr43 (all_cons pr44 (all_cons pr46 (all_cons pr47 (all_cons pr14 (all_cons pr51 (all_cons pr55 (all_cons pr59 (all_cons pr66 (all_cons pr78 (all_nil))))))))))))))))
end Go.Proofs.YtmgmfifkldpbmaaDoor
namespace Go.Proofs.YtmgmfifkldpbmaaDoor
open Go

theorem overN_succ (m a : Nat) : ∀ k, overN m a (k + 1) = overN m (halfN m a) k
  | 0 => rfl
  | k + 1 => by
    show halfN m (overN m a (k + 1)) = halfN m (overN m (halfN m a) k)
    rw [overN_succ m a k]
theorem half_dbl (m t : Nat) (hm : m % 2 = 1) (h : t < m) : halfN m (2 * t % m) = t := by
  unfold halfN
  by_cases c : 2 * t < m
  · rw [Nat.mod_eq_of_lt c, show 2 * t % 2 = 0 by omega]; omega
  · have e : 2 * t % m = 2 * t - m := by rw [Nat.mod_eq_sub_mod (by omega), Nat.mod_eq_of_lt (by omega)]
    rw [e, show (2 * t - m) % 2 = 1 by omega]; omega
theorem over_mul (m t : Nat) (hm : m % 2 = 1) (h : t < m) : ∀ k, overN m (2 ^ k * t % m) k = t
  | 0 => by rw [Nat.pow_zero, Nat.one_mul, Nat.mod_eq_of_lt h]; rfl
  | k + 1 => by
    rw [overN_succ]
    have hx : 2 ^ k * t % m < m := Nat.mod_lt _ (by omega)
    have e : 2 ^ (k + 1) * t % m = 2 * (2 ^ k * t % m) % m := by rw [Nat.pow_succ, Nat.mul_comm (2 ^ k) 2, Nat.mul_assoc, Nat.mul_mod 2 (2 ^ k * t), Nat.mul_mod 2 (2 ^ k * t % m), Nat.mod_mod]
    rw [e, half_dbl m _ hm hx, over_mul m t hm h k]
/-- 2^256 -/
def RR : Nat := 2 ^ 256
/-- x over 2^256, modulo m -/
def redc (m x : Nat) : Nat := overN m (x % m) 256
theorem redc_lt (m x : Nat) (hm : 0 < m) : redc m x < m := overN_lt m _ (Nat.mod_lt _ hm) 256
theorem redc_mod (m x : Nat) : redc m (x % m) = redc m x := by unfold redc; rw [Nat.mod_mod]
theorem redc_R (m x : Nat) (hm : m % 2 = 1) : redc m (x * RR) = x % m := by
  unfold redc RR
  have e : x * 2 ^ 256 % m = 2 ^ 256 * (x % m) % m := by rw [Nat.mul_comm, Nat.mul_mod, Nat.mul_mod (2 ^ 256) (x % m), Nat.mod_mod]
  rw [e]
  exact over_mul m _ hm (Nat.mod_lt _ (by omega)) 256
theorem redc_eq (m x : Nat) (hm : m % 2 = 1) : RR * redc m x % m = x % m := by
  unfold redc RR
  rw [overN_pow m _ hm 256, Nat.mod_mod]
/-- what has the factor 2^256 in common is alike -/
theorem redc_unique (m t x : Nat) (hm : m % 2 = 1) (ht : t < m) (h : RR * t % m = x % m) : t = redc m x := by
  have := redc_R m t hm
  rw [Nat.mod_eq_of_lt ht, Nat.mul_comm, ← redc_mod, h, redc_mod] at this
  exact this.symm
theorem mul_mod3 (m x y : Nat) : (x % m) * (y % m) % m = x * y % m := (Nat.mul_mod x y m).symm
/-- in, and out again -/
theorem out_in (m a : Nat) (hm : m % 2 = 1) : redc m (a * RR % m) = a % m := by rw [redc_mod, redc_R m a hm]
theorem times_in (m a b : Nat) (hm : m % 2 = 1) : redc m ((a * RR % m) * (b % m)) = a * b % m := by
  rw [← redc_mod, mul_mod3, redc_mod, show a * RR * b = a * b * RR by rw [Nat.mul_assoc, Nat.mul_comm RR, ← Nat.mul_assoc], redc_R m _ hm]
theorem times_plain (m a b : Nat) : redc m ((a % m) * (b % m)) = redc m (a * b) := by rw [← redc_mod, mul_mod3, redc_mod]
/-- the e-th power of what is in -/
def powN (m a e : Nat) : Nat := redc m a ^ e * RR % m
theorem pow_in (m a e : Nat) (hm : m % 2 = 1) : redc m (powN m (a * RR % m) e) = a ^ e % m := by
  unfold powN
  rw [out_in m a hm, redc_mod, redc_R m _ hm, ← Nat.pow_mod]
theorem powN_lt (m a e : Nat) (hm : 0 < m) : powN m a e < m := Nat.mod_lt _ hm
/-- products of what is in -/
theorem times_R (m x y : Nat) (hm : m % 2 = 1) : redc m ((x * RR % m) * (y * RR % m)) = x * y * RR % m := by
  have e : (x * RR % m) * (y * RR % m) % m = (x * y * RR) * RR % m := by rw [mul_mod3, Nat.mul_mul_mul_comm, ← Nat.mul_assoc (x * y)]
  rw [← redc_mod, e, redc_mod, redc_R m _ hm]
theorem in_zero (m a : Nat) (hm : m % 2 = 1) (_h1 : 1 < m) : a * RR % m = 0 ↔ a % m = 0 := by
  constructor
  · intro h
    have := out_in m a hm
    rw [h] at this
    have hz := redc_R m 0 hm
    rw [Nat.zero_mul, Nat.zero_mod] at hz
    rw [← this, hz]
  · intro h
    rw [Nat.mul_mod, h, Nat.zero_mul, Nat.zero_mod]
/-- the inverse by the power p - 2 -/
theorem inv_times (p a : Nat) (hp : p % 2 = 1) (h3 : 3 ≤ p) (hf : ∀ a, a % p ≠ 0 → a ^ (p - 1) % p = 1) (ha : a % p ≠ 0) : redc p ((a * RR % p) * powN p (a * RR % p) (p - 2)) = RR % p := by
  unfold powN
  rw [out_in p a hp, times_R p a _ hp]
  have e : a * (a % p) ^ (p - 2) % p = 1 := by
    rw [Nat.mul_mod, ← Nat.pow_mod, ← Nat.mul_mod, ← Nat.pow_succ', show (p - 2).succ = p - 1 by omega, hf a ha]
  rw [Nat.mul_mod, e, Nat.one_mul, Nat.mod_mod]
theorem inv_inv (p a : Nat) (hp : p % 2 = 1) (h3 : 3 ≤ p) (hf : ∀ a, a % p ≠ 0 → a ^ (p - 1) % p = 1) (ha : a % p ≠ 0) : powN p (powN p (a * RR % p) (p - 2)) (p - 2) = a * RR % p := by
  have e1 : powN p (a * RR % p) (p - 2) = (a ^ (p - 2)) * RR % p := by
    unfold powN
    rw [out_in p a hp, Nat.mul_mod, ← Nat.pow_mod, ← Nat.mul_mod]
  rw [e1]
  unfold powN
  rw [out_in p _ hp]
  have e2 : ((a ^ (p - 2)) % p) ^ (p - 2) % p = a % p := by
    rw [← Nat.pow_mod, ← Nat.pow_mul]
    have e3 : (p - 2) * (p - 2) = (p - 1) * (p - 3) + 1 := by
      obtain ⟨q, rfl⟩ : ∃ q, p = q + 3 := ⟨p - 3, by omega⟩
      rw [show q + 3 - 2 = q + 1 by omega, show q + 3 - 1 = q + 2 by omega, show q + 3 - 3 = q by omega, Nat.add_mul, Nat.mul_add, Nat.one_mul, Nat.add_mul]
      omega
    rw [e3, Nat.pow_succ, Nat.pow_mul, Nat.mul_mod, Nat.pow_mod, hf a ha, Nat.one_pow, Nat.mod_eq_of_lt (show 1 < p by omega), Nat.one_mul, Nat.mod_mod]
  rw [Nat.mul_mod, e2, ← Nat.mul_mod]
theorem pow_zero_in (p : Nat) (hp : p % 2 = 1) (h3 : 3 ≤ p) : powN p 0 (p - 2) = 0 := by
  have hz := redc_R p 0 hp
  rw [Nat.zero_mul, Nat.zero_mod] at hz
  unfold powN
  rw [hz, Nat.zero_pow (by omega), Nat.zero_mul, Nat.zero_mod]
theorem primeP_odd : primeP % 2 = 1 ∧ 3 ≤ primeP ∧ 1 < primeP := by decide +kernel
theorem primeN_odd : primeN % 2 = 1 ∧ 3 ≤ primeN ∧ 1 < primeN := by decide +kernel
/- what the laws say of sums and products of what is in -/
theorem law_comm (m x y : Nat) : redc m (x * y) = redc m (y * x) := by rw [Nat.mul_comm]
theorem law_dist (m x y z : Nat) (hm : m % 2 = 1) : redc m (((x + y) % m) * z) = (redc m (x * z) + redc m (y * z)) % m := by
  refine (redc_unique m _ _ hm (Nat.mod_lt _ (by omega)) ?_).symm
  rw [Nat.mul_mod, Nat.mod_mod, ← Nat.mul_mod, Nat.mul_add, Nat.add_mod, redc_eq m _ hm, redc_eq m _ hm, ← Nat.add_mod, Nat.mul_mod ((x + y) % m), Nat.mod_mod, ← Nat.mul_mod, Nat.add_mul]
theorem law_back (m x y : Nat) (hx : x < m) (hy : y < m) : ((x + y) % m + (m - y)) % m = x := by
  rw [Nat.mod_add_mod, show x + y + (m - y) = x + m by omega, Nat.add_mod_right, Nat.mod_eq_of_lt hx]
theorem law_one (m x : Nat) (hm : m % 2 = 1) (hx : x < m) : redc m (x * (RR % m)) = x := by
  rw [← redc_mod, Nat.mul_mod, Nat.mod_mod, ← Nat.mul_mod, redc_mod, redc_R m x hm, Nat.mod_eq_of_lt hx]
end Go.Proofs.YtmgmfifkldpbmaaDoor
namespace Go.Proofs.YtmgmfifkldpbmaaDoor
open Go

/-- the carry into place k of x + w y -/
def mcar (B x w y k : Nat) : Nat := (x % B ^ k + w * (y % B ^ k)) / B ^ k
theorem mcar_zero (B x w y : Nat) : mcar B x w y 0 = 0 := by simp [mcar, Nat.mod_one]
theorem mcar_lt {B w : Nat} (hB : 0 < B) (hw : w < B) (x y k : Nat) : mcar B x w y k < B := by
  unfold mcar
  have hp : 0 < B ^ k := Nat.pow_pos hB
  rw [Nat.div_lt_iff_lt_mul hp]
  have h1 := Nat.mod_lt x hp
  have h2 := Nat.mod_lt y hp
  have h3 : w * (y % B ^ k) ≤ (B - 1) * (B ^ k - 1) := Nat.mul_le_mul (by omega) (by omega)
  obtain ⟨c, rfl⟩ : ∃ c, B = c + 1 := ⟨B - 1, by omega⟩
  generalize (c + 1) ^ k = p at *
  rw [Nat.add_sub_cancel] at h3
  obtain ⟨q, rfl⟩ : ∃ q, p = q + 1 := ⟨p - 1, by omega⟩
  rw [Nat.add_sub_cancel] at h3
  have : (c + 1) * (q + 1) = c * q + c + q + 1 := by rw [Nat.add_mul, Nat.mul_add]; omega
  omega
theorem mcar_step {B : Nat} (hB : 0 < B) (x w y k : Nat) : (dg B x k + w * dg B y k + mcar B x w y k) / B = mcar B x w y (k + 1) := by
  unfold mcar
  have hp : 0 < B ^ k := Nat.pow_pos hB
  rw [mod_step B x k, mod_step B y k, Nat.pow_succ, ← Nat.div_div_eq_div_mul]
  have e : x % B ^ k + B ^ k * dg B x k + w * (y % B ^ k + B ^ k * dg B y k) = x % B ^ k + w * (y % B ^ k) + B ^ k * (dg B x k + w * dg B y k) := by
    rw [Nat.mul_add, Nat.mul_add, ← Nat.mul_assoc w, Nat.mul_comm w (B ^ k), Nat.mul_assoc]; omega
  rw [e, Nat.add_mul_div_left _ _ hp, Nat.add_comm]
theorem mcar_split {B : Nat} (hB : 0 < B) (x w y k : Nat) : (x + w * y) / B ^ k = x / B ^ k + w * (y / B ^ k) + mcar B x w y k := by
  unfold mcar
  have hp : 0 < B ^ k := Nat.pow_pos hB
  have hx := Nat.div_add_mod x (B ^ k)
  have hy := Nat.div_add_mod y (B ^ k)
  have e : x + w * y = x % B ^ k + w * (y % B ^ k) + B ^ k * (x / B ^ k + w * (y / B ^ k)) := by
    conv => lhs; rw [← hx, ← hy]
    rw [Nat.mul_add, Nat.mul_add, ← Nat.mul_assoc w, Nat.mul_comm w (B ^ k), Nat.mul_assoc]; omega
  rw [e, Nat.add_mul_div_left _ _ hp, Nat.add_comm]
theorem mcar_dg {B : Nat} (hB : 0 < B) (x w y k : Nat) : (dg B x k + w * dg B y k + mcar B x w y k) % B = dg B (x + w * y) k := by
  unfold dg
  rw [mcar_split hB]
  simp [Nat.add_mod, Nat.mul_mod]
theorem mul_le {B n a b c : Nat} (hn : n < B) (ha : a < B) (hb : b < B) (hc : c < B) : n + a * b + c < B * B := by
  have h3 : a * b ≤ (B - 1) * (B - 1) := Nat.mul_le_mul (by omega) (by omega)
  obtain ⟨d, rfl⟩ : ∃ d, B = d + 1 := ⟨B - 1, by omega⟩
  rw [Nat.add_sub_cancel] at h3
  have : (d + 1) * (d + 1) = d * d + d + d + 1 := by rw [Nat.add_mul, Nat.mul_add]; omega
  omega

/-- the multiple's factor, and one word's step -/
def facN (B T w b ni : Nat) : Nat := (T + w * b) % B * ni % B
def sumN (B T w b m ni : Nat) : Nat := T + w * b + facN B T w b ni * m
def stepN (B T w b m ni : Nat) : Nat := sumN B T w b m ni / B
theorem facN_lt {B : Nat} (hB : 0 < B) (T w b ni : Nat) : facN B T w b ni < B := Nat.mod_lt _ hB
theorem sumN_zero {B m ni : Nat} (_hB : 1 < B) (h : (m % B * ni + 1) % B = 0) (T w b : Nat) : sumN B T w b m ni % B = 0 := by
  unfold sumN facN
  have e : (T + w * b + (T + w * b) % B * ni % B * m) % B = ((T + w * b) % B * (m % B * ni + 1)) % B := by
    have e1 : (T + w * b) % B * (m % B * ni + 1) = (T + w * b) % B + (T + w * b) % B * ni * (m % B) := by
      rw [Nat.mul_add, Nat.mul_one, Nat.add_comm, Nat.mul_comm (m % B), Nat.mul_assoc]
    rw [e1]
    simp [Nat.add_mod, Nat.mul_mod]
  rw [e, Nat.mul_mod, h, Nat.mul_zero, Nat.zero_mod]
theorem stepN_mul {B m ni : Nat} (hB : 1 < B) (h : (m % B * ni + 1) % B = 0) (T w b : Nat) : B * stepN B T w b m ni = sumN B T w b m ni := by
  have := Nat.div_add_mod (sumN B T w b m ni) B
  rw [sumN_zero hB h, Nat.add_zero] at this
  exact this
/-- the words of the next number: one place up -/
theorem stepN_dg (B T w b m ni j : Nat) : dg B (stepN B T w b m ni) j = dg B (sumN B T w b m ni) (j + 1) := by
  unfold stepN dg
  rw [Nat.div_div_eq_div_mul, Nat.pow_succ, Nat.mul_comm B]
/-- what is above the eight words -/
theorem sumN_top {B T w b m ni n : Nat} (hB : 0 < B) (hb : b < B ^ n) (hm : m < B ^ n) :
    sumN B T w b m ni / B ^ n = T / B ^ n + mcar B T w b n + mcar B (T + w * b) (facN B T w b ni) m n := by
  unfold sumN
  rw [mcar_split hB, mcar_split hB, Nat.div_eq_of_lt hb, Nat.div_eq_of_lt hm]
  simp
theorem stepN_high {B T w b m ni n : Nat} : stepN B T w b m ni / B ^ n = sumN B T w b m ni / B ^ n / B := by
  unfold stepN
  rw [Nat.div_div_eq_div_mul, Nat.div_div_eq_div_mul, Nat.mul_comm]

/-- k words of a have been taken -/
def prodN (B a b m ni : Nat) : Nat → Nat
  | 0 => 0
  | k + 1 => stepN B (prodN B a b m ni k) (dg B a k) b m ni
theorem prodN_eq {B m ni : Nat} (hB : 1 < B) (h : (m % B * ni + 1) % B = 0) (a b : Nat) : ∀ k, ∃ F, F < B ^ k ∧ B ^ k * prodN B a b m ni k = a % B ^ k * b + F * m
  | 0 => ⟨0, by simp, by simp [prodN, Nat.mod_one]⟩
  | k + 1 => by
    obtain ⟨F, hF, e⟩ := prodN_eq hB h a b k
    refine ⟨F + B ^ k * facN B (prodN B a b m ni k) (dg B a k) b ni, ?_, ?_⟩
    · have := facN_lt (B := B) (by omega) (prodN B a b m ni k) (dg B a k) b ni
      generalize facN B (prodN B a b m ni k) (dg B a k) b ni = f at *
      rw [Nat.pow_succ]
      have : B ^ k * f ≤ B ^ k * (B - 1) := Nat.mul_le_mul_left _ (by omega)
      have h2 : B ^ k * B = B ^ k * (B - 1) + B ^ k := by rw [← Nat.mul_succ]; congr 1; omega
      omega
    · show B ^ (k + 1) * stepN B (prodN B a b m ni k) (dg B a k) b m ni = _
      rw [mod_step, Nat.pow_succ, Nat.mul_assoc, stepN_mul hB h, sumN]
      generalize facN B (prodN B a b m ni k) (dg B a k) b ni = f at *
      rw [Nat.mul_add, Nat.mul_add, e, Nat.add_mul, Nat.add_mul, Nat.mul_assoc (B ^ k), Nat.mul_assoc (B ^ k) f m]
      omega
theorem prodN_lt {B m ni : Nat} (hB : 1 < B) (h : (m % B * ni + 1) % B = 0) (a b k : Nat) (hm : 0 < m) : prodN B a b m ni k < b + m := by
  obtain ⟨F, hF, e⟩ := prodN_eq hB h a b k
  have hp : 0 < B ^ k := Nat.pow_pos (by omega)
  apply Nat.lt_of_mul_lt_mul_left (a := B ^ k)
  rw [e, Nat.mul_add]
  have h1 : a % B ^ k * b ≤ B ^ k * b := Nat.mul_le_mul_right _ (Nat.le_of_lt (Nat.mod_lt _ hp))
  have h2 : F * m < B ^ k * m := Nat.mul_lt_mul_of_pos_right hF hm
  omega
theorem prodN_end {B m ni n : Nat} (hB : 1 < B) (h : (m % B * ni + 1) % B = 0) (a b : Nat) (hm : 0 < m) (ha : a < B ^ n) (hab : a * b < B ^ n * m) :
    prodN B a b m ni n < 2 * m ∧ B ^ n * prodN B a b m ni n % m = a * b % m := by
  obtain ⟨F, hF, e⟩ := prodN_eq hB h a b n
  rw [Nat.mod_eq_of_lt ha] at e
  refine ⟨?_, by rw [e, Nat.add_mul_mod_self_right]⟩
  apply Nat.lt_of_mul_lt_mul_left (a := B ^ n)
  rw [e, Nat.mul_comm 2 m, ← Nat.mul_assoc, Nat.mul_comm _ 2]
  have h2 : F * m < B ^ n * m := Nat.mul_lt_mul_of_pos_right hF hm
  generalize B ^ n * m = p at *
  omega

/-- the inverse of an odd number: each round doubles the right bits -/
theorem inv_round {j o n n' : Int} {B : Int} (hj : j * j ∣ B) (h : j ∣ o * n - 1) (e : B ∣ n' - n * (2 - o * n)) : j * j ∣ o * n' - 1 := by
  obtain ⟨c, hc⟩ := h
  have h1 : j * j ∣ n' - n * (2 - o * n) := Int.dvd_trans hj e
  have e2 : o * n' - 1 = o * (n' - n * (2 - o * n)) + -((o * n - 1) * (o * n - 1)) := by
    simp only [Int.mul_sub, Int.sub_mul, Int.mul_one, Int.one_mul]
    rw [show o * (n * 2) = o * n + o * n by rw [← Int.mul_assoc, Int.mul_comm _ 2, Int.two_mul], show o * (n * (o * n)) = o * n * (o * n) by rw [Int.mul_assoc]]
    omega
  rw [e2]
  refine Int.dvd_add (Int.dvd_trans h1 (Int.dvd_mul_left _ _)) ?_
  rw [hc, show -(j * c * (j * c)) = j * j * (-(c * c)) by rw [Int.mul_neg, Int.mul_assoc, Int.mul_left_comm c j c, ← Int.mul_assoc]]
  exact Int.dvd_mul_right _ _
end Go.Proofs.YtmgmfifkldpbmaaDoor
namespace Go.Proofs.YtmgmfifkldpbmaaDoor
open Go

/-- a word as the model's value -/
def wd (x : UInt32) : Value := .int .u32 (x.toNat : Int)

theorem u32_lt (x : UInt32) : x.toNat < 4294967296 := x.toNat_lt
theorem u32_ltI (x : UInt32) : (x.toNat : Int) < 4294967296 := by have := x.toNat_lt; omega
theorem u32_geI (x : UInt32) : 0 ≤ (x.toNat : Int) := by omega

/- The words' operations under names of their own, so that the walk's simp leaves them whole. -/
def wxor (x y : UInt32) : UInt32 := x ^^^ y
def wand (x y : UInt32) : UInt32 := x &&& y
def wadd (x y : UInt32) : UInt32 := x + y
def wnot (x : UInt32) : UInt32 := ~~~x
theorem u32_xor_w (x y : UInt32) : bits .xor .u32 (x.toNat : Int) (y.toNat : Int) = ((wxor x y).toNat : Int) := by
  rw [u32_xor_nat _ _ x.toNat_lt y.toNat_lt, wxor, UInt32.toNat_xor]
theorem u32_and_w (x y : UInt32) : bits .and .u32 (x.toNat : Int) (y.toNat : Int) = ((wand x y).toNat : Int) := by
  rw [u32_and_nat _ _ x.toNat_lt y.toNat_lt, wand, UInt32.toNat_and]
theorem u32_add_w (x y : UInt32) : IntKind.u32.wrap ((x.toNat : Int) + (y.toNat : Int)) = ((wadd x y).toNat : Int) := by
  rw [IntKind.wrap_u32, wadd, UInt32.toNat_add]; omega

theorem u32_not_w (x : UInt32) : bits .xor .u32 (if IntKind.u32.signed = true then -1 else IntKind.u32.max) (x.toNat : Int) = ((wnot x).toNat : Int) := by
  have e : (if IntKind.u32.signed = true then (-1 : Int) else IntKind.u32.max) = ((4294967295 : UInt32).toNat : Int) := rfl
  rw [e, u32_xor_w, wnot, wxor]
  congr 2
/-- x turned to the right by n -/
def rotr (n : Nat) (x : UInt32) : UInt32 := UInt32.ofNat (x.toNat * 2 ^ (32 - n) % 4294967296 ||| x.toNat / 2 ^ n)
def mix (i j k : Nat) (x : UInt32) : UInt32 := wxor (wxor (rotr i x) (rotr j x)) (rotr k x)
def shr (n : Nat) (x : UInt32) : UInt32 := UInt32.ofNat (x.toNat / 2 ^ n)
def mixS (i j k : Nat) (x : UInt32) : UInt32 := wxor (wxor (rotr i x) (rotr j x)) (shr k x)

theorem div_lt (x : UInt32) (n : Nat) : x.toNat / 2 ^ n < 4294967296 := Nat.lt_of_le_of_lt (Nat.div_le_self _ _) x.toNat_lt
theorem shr_toNat (n : Nat) (x : UInt32) : (shr n x).toNat = x.toNat / 2 ^ n := by
  unfold shr; rw [UInt32.toNat_ofNat']; exact Nat.mod_eq_of_lt (div_lt x n)
theorem shr_w (n : Nat) (x : UInt32) : (x.toNat : Int) / 2 ^ n = ((shr n x).toNat : Int) := by
  rw [shr_toNat]; simp [Int.natCast_ediv, Int.natCast_pow]
theorem rotr_toNat (n : Nat) (x : UInt32) : (rotr n x).toNat = (x.toNat * 2 ^ (32 - n) % 4294967296 ||| x.toNat / 2 ^ n) := by
  unfold rotr; rw [UInt32.toNat_ofNat']
  exact Nat.mod_eq_of_lt (Nat.or_lt_two_pow (n := 32) (Nat.mod_lt _ (by decide)) (div_lt x n))
theorem rotr_walk (n : Nat) (x : UInt32) (h0 : 1 ≤ n) (hn : n ≤ 31) :
    bits BinOp.or IntKind.u32 ((x.toNat : Int) * 2 ^ (32 - n) % 4294967296) ((x.toNat : Int) / 2 ^ (32 - (32 - n))) = ((rotr n x).toNat : Int) := by
  have e : 32 - (32 - n) = n := by omega
  rw [e, rotr_toNat, ← u32_or_nat _ _ (Nat.mod_lt _ (by decide)) (div_lt x n)]
  congr 1
theorem neg_count (n : Nat) (h0 : 1 ≤ n) (hn : n ≤ 31) : bits BinOp.and IntKind.u64 (IntKind.u64.wrap (-(n : Int))) 31 = ((32 - n : Nat) : Int) := by
  have e : IntKind.u64.wrap (-(n : Int)) = ((18446744073709551616 - n : Nat) : Int) := by
    simp [IntKind.wrap, IntKind.bits, IntKind.signed]; omega
  have h31 : (31 : Int) = ((31 : Nat) : Int) := rfl
  rw [e, h31, u64_and_nat _ _ (by omega) (by decide)]
  have : (18446744073709551616 - n) &&& 31 = (18446744073709551616 - n) % 2 ^ 5 := Nat.and_two_pow_sub_one_eq_mod _ 5
  rw [this]; omega
/-- four bytes, the first the most significant -/
def word (a b c d : UInt8) : UInt32 := UInt32.ofNat (((a.toNat * 256 + b.toNat) * 256 + c.toNat) * 256 + d.toNat)
theorem word_toNat (a b c d : UInt8) : (word a b c d).toNat = ((a.toNat * 256 + b.toNat) * 256 + c.toNat) * 256 + d.toNat := by
  have ha := a.toNat_lt; have hb := b.toNat_lt; have hc := c.toNat_lt; have hd := d.toNat_lt
  unfold word; rw [UInt32.toNat_ofNat']; exact Nat.mod_eq_of_lt (by omega)
theorem word_walk (a b c d : UInt8) :
    bits BinOp.or IntKind.u32
      (bits BinOp.or IntKind.u32
        (bits BinOp.or IntKind.u32 ((a.toNat : Int) % 4294967296 * 16777216 % 4294967296) ((b.toNat : Int) % 4294967296 * 65536 % 4294967296))
        ((c.toNat : Int) % 4294967296 * 256 % 4294967296))
      ((d.toNat : Int) % 4294967296) = ((word a b c d).toNat : Int) := by
  have ha := a.toNat_lt; have hb := b.toNat_lt; have hc := c.toNat_lt; have hd := d.toNat_lt
  have e1 : (a.toNat : Int) % 4294967296 * 16777216 % 4294967296 = ((a.toNat * 16777216 : Nat) : Int) := by omega
  have e2 : (b.toNat : Int) % 4294967296 * 65536 % 4294967296 = ((b.toNat * 65536 : Nat) : Int) := by omega
  have e3 : (c.toNat : Int) % 4294967296 * 256 % 4294967296 = ((c.toNat * 256 : Nat) : Int) := by omega
  have e4 : (d.toNat : Int) % 4294967296 = ((d.toNat : Nat) : Int) := by omega
  rw [e1, e2, e3, e4, u32_or_nat _ _ (by omega) (by omega), nat_join24 _ _ (by omega) (by omega), u32_or_nat _ _ (by omega) (by omega), nat_join16 _ _ (by omega) (by omega), u32_or_nat _ _ (by omega) (by omega),
    nat_join8 _ _ (by omega) (by omega), word_toNat]
  omega
end Go.Proofs.YtmgmfifkldpbmaaDoor
namespace Go.Proofs.YtmgmfifkldpbmaaDoor
open Go.RowKit

def wsub (x y : UInt32) : UInt32 := x - y
def wor (x y : UInt32) : UInt32 := x ||| y
def wtop (x : UInt32) : UInt32 := x >>> 31
theorem u32_sub_w (x y : UInt32) : IntKind.u32.wrap ((x.toNat : Int) - (y.toNat : Int)) = ((wsub x y).toNat : Int) := by
  have hx := x.toNat_lt; have hy := y.toNat_lt
  rw [IntKind.wrap_u32, wsub, UInt32.toNat_sub]; omega
theorem u32_or_w (x y : UInt32) : bits .or .u32 (x.toNat : Int) (y.toNat : Int) = ((wor x y).toNat : Int) := by
  rw [u32_or_nat _ _ x.toNat_lt y.toNat_lt, wor, UInt32.toNat_or]
theorem u32_top_w (x : UInt32) : (x.toNat : Int) / 2147483648 = ((wtop x).toNat : Int) := by
  rw [wtop, UInt32.toNat_shiftRight]; simp [Nat.shiftRight_eq_div_pow]
/-- what bits.Sub32 borrows, as its text has it -/
def borW (x y d : UInt32) : UInt32 := wtop (wor (wand (wnot x) y) (wand (wnot (wxor x y)) d))
theorem top_and (a b : Nat) : (a &&& b) / 2147483648 = a / 2147483648 &&& b / 2147483648 := Nat.and_div_two_pow (n := 31)
theorem top_or (a b : Nat) : (a ||| b) / 2147483648 = a / 2147483648 ||| b / 2147483648 := Nat.or_div_two_pow (n := 31)
theorem top_xor (a b : Nat) : (a ^^^ b) / 2147483648 = a / 2147483648 ^^^ b / 2147483648 := Nat.xor_div_two_pow (n := 31)
theorem borW_toNat (x y c : UInt32) (hc : c.toNat ≤ 1) : (borW x y (wsub (wsub x y) c)).toNat = if x.toNat < y.toNat + c.toNat then 1 else 0 := by
  have hx := x.toNat_lt; have hy := y.toNat_lt
  unfold borW wtop wor wand wnot wxor wsub
  rw [UInt32.toNat_shiftRight, UInt32.toNat_or, UInt32.toNat_and, UInt32.toNat_and, UInt32.toNat_not, UInt32.toNat_not, UInt32.toNat_xor, UInt32.toNat_sub, UInt32.toNat_sub]
  have e31 : (31 : UInt32).toNat % 32 = 31 := rfl
  rw [e31, Nat.shiftRight_eq_div_pow]
  have e2 : 2 ^ 31 = 2147483648 := rfl
  rw [e2, top_or, top_and, top_and]
  have hz : ∀ z : Nat, z < 4294967296 → (UInt32.size - 1 - z) / 2147483648 = 1 - z / 2147483648 := fun z hz => by
    have : UInt32.size = 4294967296 := rfl
    omega
  have hxy : (x.toNat ^^^ y.toNat) < 4294967296 := Nat.xor_lt_two_pow (n := 32) hx hy
  rw [hz _ hx, hz _ hxy, top_xor]
  obtain ⟨d, hd⟩ : ∃ d, d = (2 ^ 32 - c.toNat + (2 ^ 32 - y.toNat + x.toNat) % 2 ^ 32) % 2 ^ 32 := ⟨_, rfl⟩
  rw [← hd]
  have hd2 : d < 4294967296 := by omega
  rcases (show x.toNat / 2147483648 = 0 ∨ x.toNat / 2147483648 = 1 by omega) with h1 | h1 <;> rcases (show y.toNat / 2147483648 = 0 ∨ y.toNat / 2147483648 = 1 by omega) with h2 | h2 <;>
    rcases (show d / 2147483648 = 0 ∨ d / 2147483648 = 1 by omega) with h3 | h3 <;> rw [h1, h2, h3] <;> split <;> first | decide | (exfalso; omega) | skip

attribute [local go_sem] u32_sub_w u32_or_w u32_top_w u32_xor_w u32_and_w u32_not_w
set_option maxHeartbeats 400000 in
theorem sub32_w (x y c : UInt32) (w : World) :
    Calls Tryd.prog 48 #[.int .u32 x.toNat, .int .u32 y.toNat, .int .u32 c.toNat] w fun e w' => e = .returned (.tuple #[.int .u32 (wsub (wsub x y) c).toNat, .int .u32 (borW x y (wsub (wsub x y) c)).toNat]) ∧ w = w' := by
  go_enter Tryd.func48, Tryd.ntmps48
  go_wp2
  go_ret2
  exact ⟨rfl, rfl⟩
/-- x - y - c, and whether it is below 0 -/
def subW (x y c : Nat) : Nat := (x + 8589934592 - y - c) % 4294967296
def subB (x y c : Nat) : Nat := if x < y + c then 1 else 0
theorem sub32_any (x y c : Nat) (w : World) (hx : x < 4294967296) (hy : y < 4294967296) (hc : c ≤ 1) :
    Calls Tryd.prog 48 #[.int .u32 (x : Int), .int .u32 (y : Int), .int .u32 (c : Int)] w fun e w' => e = .returned (.tuple #[.int .u32 ((subW x y c : Nat) : Int), .int .u32 ((subB x y c : Nat) : Int)]) ∧ w = w' := by
  have ex : x = (UInt32.ofNat x).toNat := (UInt32.toNat_ofNat_of_lt' hx).symm
  have ey : y = (UInt32.ofNat y).toNat := (UInt32.toNat_ofNat_of_lt' hy).symm
  have ec : c = (UInt32.ofNat c).toNat := (UInt32.toNat_ofNat_of_lt' (by omega : c < 4294967296)).symm
  have h := sub32_w (UInt32.ofNat x) (UInt32.ofNat y) (UInt32.ofNat c) w
  rw [borW_toNat _ _ _ (by omega), ← ex, ← ey, ← ec] at h
  have e : (wsub (wsub (UInt32.ofNat x) (UInt32.ofNat y)) (UInt32.ofNat c)).toNat = subW x y c := by
    unfold wsub subW
    rw [UInt32.toNat_sub, UInt32.toNat_sub, ← ex, ← ey, ← ec]
    omega
  rw [e] at h
  exact h
/-- x + y + c, and what is carried -/
def addW (x y c : Nat) : Nat := (x + y + c) % 4294967296
def addC (x y c : Nat) : Nat := (x + y + c) / 4294967296
set_option maxHeartbeats 400000 in
theorem add32_any (x y c : Nat) (w : World) (hx : x < 4294967296) (hy : y < 4294967296) (hc : c ≤ 1) :
    Calls Tryd.prog 49 #[.int .u32 (x : Int), .int .u32 (y : Int), .int .u32 (c : Int)] w fun e w' => e = .returned (.tuple #[.int .u32 ((addW x y c : Nat) : Int), .int .u32 ((addC x y c : Nat) : Int)]) ∧ w = w' := by
  have hw := addW.eq_def x y c
  go_enter Tryd.func49, Tryd.ntmps49
  go_wp2
  go_ret2
  refine ⟨?_, rfl⟩
  congr 3 <;> unfold addW addC <;> omega
end Go.Proofs.YtmgmfifkldpbmaaDoor
namespace Go.Proofs.YtmgmfifkldpbmaaDoor
open Go.RowKit

/-- what is carried out of a sum -/
def over (a b : Nat) : Nat := (a + b) / big
/-- what is borrowed for a difference -/
def under (a b : Nat) : Nat := if a < b then 1 else 0
def carN (a b k : Nat) : Nat := car 4294967296 a b k
theorem addW_eq (a b k : Nat) : addW (wrd a k) (wrd b k) (carN a b k) = wrd (a + b) k := add_dg (by decide) a b k
theorem addC_eq (a b k : Nat) : addC (wrd a k) (wrd b k) (carN a b k) = carN a b (k + 1) := car_step (by decide) a b k
theorem carN_le (a b k : Nat) : carN a b k ≤ 1 := car_le (by decide) a b k
def borN (a b k : Nat) : Nat := bor 4294967296 a b k
theorem subW_eq (a b k : Nat) (hk : k < 8) (hb : b < big) : subW (wrd a k) (wrd b k) (borN a b k) = wrd (a + big - b) k := sub_dg (by decide) hk hb
theorem subB_eq (a b k : Nat) : subB (wrd a k) (wrd b k) (borN a b k) = borN a b (k + 1) := bor_step (by decide) a b k
theorem borN_le (a b k : Nat) : borN a b k ≤ 1 := bor_le _ a b k

attribute [local go_sem] zeroNum
set_option maxRecDepth 100000 in
set_option maxHeartbeats 1000000 in
theorem add_any (a b : Nat) (w : World) (ha : a < big) (hb : b < big) :
    Calls Tryd.prog 26 #[.agg (nums a), .agg (nums b)] w fun e w' => e = .returned (.tuple #[.agg (nums (a + b)), .int .u32 ((over a b : Nat) : Int)]) ∧ Below w.heap.size w w' := by
  have hend : carN a b 8 = over a b := car_end ha hb
  have HE := Lib.hid hend
  clear hend ha hb
  go_enter Tryd.func26, Tryd.ntmps26
  go_wp2_with fail
  go_loopw [7, 8, 9] (fun cc _ ct wr => ∃ k : Nat, k ≤ 8 ∧ ct = .int .i64 k ∧ cc = .int .u32 ((carN a b k : Nat) : Int) ∧ Has wr w.heap.size 24 (nums a) ∧ Has wr (w.heap.size + 1) 24 (nums b) ∧
      Has wr (w.heap.size + 1 + 1) 24 (nums 0) ∧ Has wr (w.heap.size + 1 + 1 + 1) 24 (nums ((a + b) % 4294967296 ^ k)) ∧ Below w.heap.size w wr) (fun _ _ ct _ => 8 - (intOf ct).toNat)
  case atStart =>
    exact ⟨0, by omega, rfl, by rw [carN, car_zero]; rfl, (((Has.new w _ _).alloc _).alloc _).alloc _, ((Has.new' (by simp)).alloc _).alloc _, (Has.new' (by simp)).alloc _, by rw [nums_start]; exact Has.new' (by simp),
      ((((Below.refl _ _).alloc (Nat.le_refl _) _).alloc (by simp) _).alloc (by simp <;> omega) _).alloc (by simp <;> omega) _⟩
  case round =>
    obtain ⟨k, hk, rfl, rfl, h0, h1, h2, h3, hb⟩ := hrel
    by_cases hlt : k < 8
    · have c0 := nums_at h0 k hlt
      have c1 := nums_at h1 k hlt
      have dk : (k : Int) < 8 := by omega
      have l0 := wrd_lt a k
      have l1 := wrd_lt b k
      have l2 := carN_le a b k
      go_wp2_with fail
      have c3 := h3.cellTab k hlt
      have f3 := h3.free k
      go_region_with (go_at_call 49; refine (add32_any _ _ _ _ l0 l1 l2).mono ?_; rintro e w' ⟨rfl, rfl⟩)
      all_goals
        go_wp2_with fail
        go_roundw
      all_goals first
        | (refine ⟨k + 1, by omega, by go_num, by rw [← addC_eq], h0.drew.far (by simp <;> omega) _, h1.drew.far (by simp <;> omega) _, h2.drew.far (by simp) _, ?_, (below_drewN hb 1).setCell (by simp <;> omega) _⟩
           have h := h3.drew.set k (.int .u32 ((wrd (a + b) k : Nat) : Int))
           rw [nums_set hlt, ← addW_eq] at h
           exact h)
        | (simp [intOf]; omega)
    · have e8 : k = 8 := by omega
      have h3' : Has wr (w.heap.size + 1 + 1 + 1) 24 (nums (a + b)) := by rw [e8, nums_end] at h3; exact h3
      have hcar : carN a b k = over a b := by rw [e8]; exact HE.out
      have dk : ¬ (k : Int) < 8 := by omega
      clear e8 hk h3 h0 h1
      go_wp2_with (first | refine wpList_load_row rfl 24 _ rfl (w.heap.size + 1 + 1 + 1) rfl 24 _ _ _ h3' Tryd.underlying24 rfl (infoNum _) ?_ | refine wpList_store_row rfl 24 _ _ rfl (w.heap.size + 1 + 1) _ rfl rfl 24 _ h2 (infoNum _) (by rw [nums_size, nums_size]) (tab_oneCell _ _ fun _ => rfl) ?_)
      exact bodyPost_ret (results_row_tmp rfl _ _ (w.heap.size + 1 + 1) 24 _ _ _ rfl rfl (h2.setRow _) Tryd.underlying24 rfl (infoNum _)) rfl ⟨rfl, below_setRow hb (by omega) _⟩
set_option maxRecDepth 100000 in
set_option maxHeartbeats 1000000 in
theorem sub_any (a b : Nat) (w : World) (ha : a < big) (hbb : b < big) :
    Calls Tryd.prog 25 #[.agg (nums a), .agg (nums b)] w fun e w' => e = .returned (.tuple #[.agg (nums (a + big - b)), .int .u32 ((under a b : Nat) : Int)]) ∧ Below w.heap.size w w' := by
  have hend : borN a b 8 = under a b := bor_end ha hbb
  have HE := Lib.hid hend
  have HB := Lib.hid hbb
  clear hend ha hbb
  go_enter Tryd.func25, Tryd.ntmps25
  go_wp2_with fail
  go_loopw [7, 8, 9] (fun cc _ ct wr => ∃ k : Nat, k ≤ 8 ∧ ct = .int .i64 k ∧ cc = .int .u32 ((borN a b k : Nat) : Int) ∧ Has wr w.heap.size 24 (nums a) ∧ Has wr (w.heap.size + 1) 24 (nums b) ∧
      Has wr (w.heap.size + 1 + 1) 24 (nums 0) ∧ Has wr (w.heap.size + 1 + 1 + 1) 24 (nums ((a + big - b) % 4294967296 ^ k)) ∧ Below w.heap.size w wr) (fun _ _ ct _ => 8 - (intOf ct).toNat)
  case atStart =>
    exact ⟨0, by omega, rfl, by rw [borN, bor_zero]; rfl, (((Has.new w _ _).alloc _).alloc _).alloc _, ((Has.new' (by simp)).alloc _).alloc _, (Has.new' (by simp)).alloc _, by rw [nums_start]; exact Has.new' (by simp),
      ((((Below.refl _ _).alloc (Nat.le_refl _) _).alloc (by simp) _).alloc (by simp <;> omega) _).alloc (by simp <;> omega) _⟩
  case round =>
    obtain ⟨k, hk, rfl, rfl, h0, h1, h2, h3, hb⟩ := hrel
    by_cases hlt : k < 8
    · have c0 := nums_at h0 k hlt
      have c1 := nums_at h1 k hlt
      have dk : (k : Int) < 8 := by omega
      have l0 := wrd_lt a k
      have l1 := wrd_lt b k
      have l2 := borN_le a b k
      go_wp2_with fail
      have c3 := h3.cellTab k hlt
      have f3 := h3.free k
      go_region_with (go_at_call 48; refine (sub32_any _ _ _ _ l0 l1 l2).mono ?_; rintro e w' ⟨rfl, rfl⟩)
      all_goals
        go_wp2_with fail
        go_roundw
      all_goals first
        | (refine ⟨k + 1, by omega, by go_num, by rw [← subB_eq], h0.drew.far (by simp <;> omega) _, h1.drew.far (by simp <;> omega) _, h2.drew.far (by simp) _, ?_, (below_drewN hb 1).setCell (by simp <;> omega) _⟩
           have h := h3.drew.set k (.int .u32 ((wrd (a + big - b) k : Nat) : Int))
           rw [nums_set hlt, ← subW_eq _ _ _ hlt HB.out] at h
           exact h)
        | (simp [intOf]; omega)
    · have e8 : k = 8 := by omega
      have h3' : Has wr (w.heap.size + 1 + 1 + 1) 24 (nums (a + big - b)) := by rw [e8, nums_end] at h3; exact h3
      have hbor : borN a b k = under a b := by rw [e8]; exact HE.out
      have dk : ¬ (k : Int) < 8 := by omega
      clear e8 hk h3 h0 h1
      go_wp2_with (first | refine wpList_load_row rfl 24 _ rfl (w.heap.size + 1 + 1 + 1) rfl 24 _ _ _ h3' Tryd.underlying24 rfl (infoNum _) ?_ | refine wpList_store_row rfl 24 _ _ rfl (w.heap.size + 1 + 1) _ rfl rfl 24 _ h2 (infoNum _) (by rw [nums_size, nums_size]) (tab_oneCell _ _ fun _ => rfl) ?_)
      exact bodyPost_ret (results_row_tmp rfl _ _ (w.heap.size + 1 + 1) 24 _ _ _ rfl rfl (h2.setRow _) Tryd.underlying24 rfl (infoNum _)) rfl ⟨rfl, below_setRow hb (by omega) _⟩
end Go.Proofs.YtmgmfifkldpbmaaDoor
namespace Go.Proofs.YtmgmfifkldpbmaaDoor
open Go Go.RowKit

/-- are the first n places alike? -/
def sameTo (f g : Nat → Int) (n : Nat) : Bool := (List.range' 0 n).all fun j => f j == g j
theorem sameTo_iff (f g : Nat → Int) (n : Nat) : sameTo f g n = true ↔ ∀ j, j < n → f j = g j := by
  simp [sameTo, List.all_eq_true, List.mem_range'_1]

theorem run_equalIn_tab {P : Program} (w : World) (d : Nat) (t e : TypeId) (n : Nat) (ik k : IntKind) (i : TypeInfo) (f g : Nat → Int) (hu : P.underlying t = some (.array n e)) (he : P.underlying e = some (.int ik))
    (hi : P.info? e = some i) (hs : i.size = 1) (heq : ∀ (a b : Int) (W : World), (Op.equalIn d e (.int k a) (.int k b)).run P W = .ok (a == b) W) :
    (Op.equalIn (d + 1) t (.agg (tab n fun j => .int k (f j))) (.agg (tab n fun j => .int k (g j)))).run P w = .ok (sameTo f g n) w := by
  have hsz : ∀ W, (sizeOf e).run P W = .ok 1 W := fun W => by simp [sizeOf, typeInfo, hi, hs]
  have hpart : ∀ (h : Nat → Int) (j : Nat) (W : World), j < n → (part e (tab n fun j => .int k (h j)) j).run P W = .ok (.int k (h j)) W := fun h j W hj => by
    simp [part, isAgg, run_underlying he, tab_get n _ j hj, go_sem]
  simp only [Op.equalIn, Sem.run_bind, run_underlying hu, Result.andThen_ok, hsz]
  rw [Std.Legacy.Range.forIn_eq_forIn_range']
  simp only [Std.Legacy.Range.size, Nat.sub_zero, Nat.add_sub_cancel, Nat.div_one, Nat.mul_one]
  unfold sameTo
  have hL : ∀ j ∈ List.range' 0 n, j < n := fun j hj => by simpa [List.mem_range'_1] using hj
  generalize List.range' 0 n = L at *
  induction L generalizing w with
  | nil => simp
  | cons s0 L ih =>
    have h0 : s0 < n := hL s0 (by simp)
    simp only [List.forIn_cons, Sem.run_bind, hpart f s0 _ h0, hpart g s0 _ h0, Result.andThen_ok, heq, List.all_cons]
    by_cases h : f s0 = g s0
    · have hb : (f s0 == g s0) = true := by simpa using h
      simp only [hb, Bool.not_true, Bool.false_eq_true, if_false, Sem.run_pure, Result.andThen_ok, Bool.true_and]
      exact ih w (fun j hj => hL j (by simp [hj]))
    · have hb : (f s0 == g s0) = false := by simpa using h
      simp only [hb, Bool.not_false, if_true, Sem.run_pure, Result.andThen_ok, Bool.false_and]

/-- 'x == y' of two arrays of integers that are alike -/
theorem run_eql_tab {P : Program} (w : World) (t e : TypeId) (n : Nat) (ik k : IntKind) (i : TypeInfo) (f g : Nat → Int) (hu : P.underlying t = some (.array n e)) (he : P.underlying e = some (.int ik))
    (hi : P.info? e = some i) (hs : i.size = 1) : (binOp .eql t (.agg (tab n fun j => .int k (f j))) (.agg (tab n fun j => .int k (g j)))).run P w = .ok (.bool (sameTo f g n)) w := by
  rw [run_eql_struct]
  have h := run_equalIn_tab (P := P) w 9999 t e n ik k i f g hu he hi hs (fun a b W => run_equalIn_int (P := P) (w := W) 9998 e k ik a b he)
  rw [h]
  rfl
theorem sameTo_refl (f : Nat → Int) (n : Nat) : sameTo f f n = true := (sameTo_iff f f n).2 fun _ _ => rfl
end Go.Proofs.YtmgmfifkldpbmaaDoor
namespace Go.Proofs.YtmgmfifkldpbmaaDoor
open Go.RowKit

theorem info32 : (Tryd.prog.info? 22).map (fun i => (i.zero, i.size, i.bytes)) = some (some (.int .u32 0), 1, 4) := by kernel_rfl
def sameN (x y : Nat) : Bool := decide (x = y)
theorem same_digits {B n x y : Nat} (hx : x < B ^ n) (hy : y < B ^ n) : sameTo (fun j => ((dg B x j : Nat) : Int)) (fun j => ((dg B y j : Nat) : Int)) n = sameN x y := by
  unfold sameN
  by_cases h : x = y
  · subst h; simp [sameTo_refl]
  · rw [decide_eq_false h, ← Bool.not_eq_true, sameTo_iff]
    exact fun hc => h (digits_inj hx hy fun j hj => by have := hc j hj; omega)
theorem eql_nums {x y : Nat} (hx : x < big) (hy : y < big) : ∀ W : World, (binOp .eql 24 (.agg (nums x)) (.agg (nums y))).run Tryd.prog W = .ok (.bool (sameN x y)) W := fun W => by
  obtain ⟨i, hi, _, hs, _⟩ := info_parts info32
  have h := run_eql_tab (P := Tryd.prog) W 24 22 8 .u32 .u32 i (fun j => ((dg 4294967296 x j : Nat) : Int)) (fun j => ((dg 4294967296 y j : Nat) : Int)) Tryd.underlying24 Tryd.underlying22 hi hs
  rw [same_digits hx hy] at h
  exact h

attribute [local go_sem] zeroNum
set_option maxRecDepth 100000 in
set_option maxHeartbeats 1000000 in
theorem zero_any (a : Nat) (w : World) (ha : a < big) :
    Calls Tryd.prog 61 #[.agg (nums a)] w fun e w' => e = .returned (.bool (sameN a 0)) ∧ Below w.heap.size w w' := by
  have he := eql_nums ha big_pos
  have h0 : Has (w.alloc (.cells (nums a) 24)) w.heap.size 24 (nums a) := Has.new w _ _
  clear ha
  go_enter Tryd.func61, Tryd.ntmps61
  go_wp2_with (refine wpList_load_row rfl 24 _ rfl w.heap.size rfl 24 _ _ _ h0 Tryd.underlying24 rfl (infoNum _) ?_)
  go_ret
  exact ⟨rfl, (Below.refl _ _).alloc (Nat.le_refl _) _⟩

/-- -1, 0, 1 -/
def cmpI (a b : Nat) : Int := if a = b then 0 else if a < b then -1 else 1
set_option maxRecDepth 100000 in
set_option maxHeartbeats 1000000 in
theorem compare_any (a b : Nat) (w : World) (ha : a < big) (hb : b < big) :
    Calls Tryd.prog 23 #[.agg (nums a), .agg (nums b)] w fun e w' => e = .returned (.int .i64 (cmpI a b)) ∧ Below w.heap.size w w' := by
  have he := eql_nums ha hb
  have hs := fun W => sub_any a b W ha hb
  clear ha hb
  have h0 : Has ((w.alloc (.cells (nums a) 24)).alloc (.cells (nums b) 24)) w.heap.size 24 (nums a) := (Has.new w _ _).alloc _
  have h1 : Has ((w.alloc (.cells (nums a) 24)).alloc (.cells (nums b) 24)) (w.heap.size + 1) 24 (nums b) := Has.new' (by simp)
  have hb0 : Below w.heap.size w ((w.alloc (.cells (nums a) 24)).alloc (.cells (nums b) 24)) := ((Below.refl _ _).alloc (Nat.le_refl _) _).alloc (by simp) _
  by_cases hab : a = b
  · have hsm : sameN a b = true := by simp [sameN, hab]
    have hc : cmpI a b = 0 := by simp [cmpI, hab]
    rw [hc]
    clear hc hs hab
    go_enter Tryd.func23, Tryd.ntmps23
    go_wp2_with (first | refine wpList_load_row rfl 24 _ rfl w.heap.size rfl 24 _ _ _ h0 Tryd.underlying24 rfl (infoNum _) ?_ | refine wpList_load_row rfl 24 _ rfl (w.heap.size + 1) rfl 24 _ _ _ h1 Tryd.underlying24 rfl (infoNum _) ?_)
    go_ret
    exact ⟨rfl, hb0⟩
  · have hsm : sameN a b = false := by simp [sameN, hab]
    have hcu : cmpI a b = if under a b = 1 then -1 else 1 := by unfold cmpI under; rw [if_neg hab]; split <;> simp
    rw [hcu]
    have hu : under a b = 0 ∨ under a b = 1 := by unfold under; split <;> simp
    clear hcu hab
    go_enter Tryd.func23, Tryd.ntmps23
    go_wp2_with (first | refine wpList_load_row rfl 24 _ rfl w.heap.size rfl 24 _ _ _ h0 Tryd.underlying24 rfl (infoNum _) ?_ | refine wpList_load_row rfl 24 _ rfl (w.heap.size + 1) rfl 24 _ _ _ h1 Tryd.underlying24 rfl (infoNum _) ?_)
    refine (hs _).mono ?_
    rintro e w1 ⟨rfl, hb1⟩
    have hB := hb0.trans (hb1.mono hb0.size)
    have hsz := hB.size
    clear hs he h0 h1 hb0 hb1
    rcases hu with hu | hu <;> rw [hu] <;>
    · go_wp2_with (refine wpList_store_row rfl 24 _ _ rfl w1.heap.size _ rfl rfl 24 (nums 0) (Has.new' rfl) (infoNum _) (by rw [nums_size, nums_size]) (tab_oneCell _ _ fun _ => rfl) ?_)
      go_ret
      exact ⟨rfl, below_setRow (hB.alloc hsz _) hsz _⟩

/-- bit i of x -/
def bitN (x i : Nat) : Nat := x / 2 ^ i % 2
theorem bit_walk (x i : Nat) : bits BinOp.and IntKind.u32 (((wrd x (i / 32) : Nat) : Int) / 2 ^ (i % 32)) 1 = ((bitN x i : Nat) : Int) := by
  have h1 : ((wrd x (i / 32) : Nat) : Int) / 2 ^ (i % 32) = ((wrd x (i / 32) / 2 ^ (i % 32) : Nat) : Int) := by simp [Int.natCast_ediv, Int.natCast_pow]
  have hlt : wrd x (i / 32) / 2 ^ (i % 32) < 4294967296 := Nat.lt_of_le_of_lt (Nat.div_le_self _ _) (wrd_lt _ _)
  have h2 : (1 : Int) = ((1 : Nat) : Int) := rfl
  rw [h1, h2, u32_and_nat _ _ hlt (by decide), Nat.and_one_is_mod]
  have h := dg_dg (b := 2) (m := 32) (x := x) (q := i / 32) (r := i % 32) (by omega)
  have e : 32 * (i / 32) + i % 32 = i := by omega
  rw [e] at h
  unfold bitN
  unfold dg at h
  unfold wrd dg
  rw [← h]
set_option maxRecDepth 100000 in
set_option maxHeartbeats 1000000 in
theorem bit_out (a : Nat) (i : Int) (w : World) (hi : i < 0 ∨ 256 ≤ i) :
    Calls Tryd.prog 42 #[.agg (nums a), .int .i64 i] w fun e w' => e = .returned (.int .u32 0) ∧ Below w.heap.size w w' := by
  by_cases h : i < 0
  · have hd : decide (i < 0) = true := by simp [h]
    go_enter Tryd.func42, Tryd.ntmps42
    go_wp2
    go_ret
    exact ⟨rfl, (Below.refl _ _).alloc (Nat.le_refl _) _⟩
  · have hd : decide (i < 0) = false := by simp; omega
    have hd2 : decide (256 ≤ i) = true := by simp; omega
    go_enter Tryd.func42, Tryd.ntmps42
    go_wp2
    go_ret
    exact ⟨rfl, (Below.refl _ _).alloc (Nat.le_refl _) _⟩
set_option maxRecDepth 100000 in
set_option maxHeartbeats 1000000 in
theorem bit_any (a i : Nat) (w : World) (hi : i < 256) :
    Calls Tryd.prog 42 #[.agg (nums a), .int .i64 (i : Int)] w fun e w' => e = .returned (.int .u32 ((bitN a i : Nat) : Int)) ∧ Below w.heap.size w w' := by
  have h0 : Has (w.alloc (.cells (nums a) 24)) w.heap.size 24 (nums a) := Has.new w _ _
  have c0 := nums_at h0 (i / 32) (by omega)
  have hd : decide ((i : Int) < 0) = false := by simp
  have hd2 : decide (256 ≤ (i : Int)) = false := by simp; omega
  have e1 : (i : Int).tdiv 32 = ((i / 32 : Nat) : Int) := by rw [Int.tdiv_eq_ediv_of_nonneg (by omega)]; omega
  have e2 : (i : Int).tmod 32 = ((i % 32 : Nat) : Int) := by rw [Int.tmod_eq_emod_of_nonneg (by omega)]; omega
  have hw := bit_walk a i
  go_enter Tryd.func42, Tryd.ntmps42
  go_wp2
  go_ret
  exact ⟨rfl, (Below.refl _ _).alloc (Nat.le_refl _) _⟩
end Go.Proofs.YtmgmfifkldpbmaaDoor
