/-
The reference of layer 2, continued: back from bits, sums, the opposite, the order.
-/
import Derived.Test.YtncjlglpocfeaaaRefA
import Derived.Deep.RegionWith
namespace Go.Proofs.Ytncjlglpocfeaaa
open Go.RowKit

theorem big_two : big = 2 ^ 256 := by decide +kernel
theorem bits2_mod (x : Nat) : bits2 (x % big) = bits2 x := by rw [big_two]; exact bits2_end x
theorem num_here (x k : Nat) : (wrd (x % 2 ^ k) (k / 32) + bitN x k * 2 ^ (k % 32) % 4294967296) % 4294967296 = wrd (x % 2 ^ (k + 1)) (k / 32) := by
  have hW : (4294967296 : Nat) ^ (k / 32) = 2 ^ (32 * (k / 32)) := by rw [show (4294967296 : Nat) = 2 ^ 32 from rfl, ← Nat.pow_mul]
  have hk : 2 ^ k = 4294967296 ^ (k / 32) * 2 ^ (k % 32) := by rw [hW, ← Nat.pow_add]; congr 1; omega
  have hs := mod_step 2 x k
  rw [hs]
  have e : dg 2 x k = bitN x k := rfl
  rw [e, hk]
  unfold wrd dg
  rw [Nat.mul_assoc, Nat.add_mul_div_left _ _ (Nat.pow_pos (by decide)), Nat.add_mod, Nat.mod_mod, Nat.mod_mod, ← Nat.add_mod, Nat.mul_comm (2 ^ (k % 32))]
theorem num_other (x k j : Nat) (h : j ≠ k / 32) : wrd (x % 2 ^ (k + 1)) j = wrd (x % 2 ^ k) j := by
  refine digits_inj (B := 2) (n := 32) (wrd_lt _ _) (wrd_lt _ _) fun r hr => ?_
  show dg 2 (dg (2 ^ 32) _ _) _ = dg 2 (dg (2 ^ 32) _ _) _
  rw [dg_dg hr, dg_dg hr]
  by_cases hlt : 32 * j + r < k
  · rw [dg_mod (by omega), dg_mod hlt]
  · rw [dg_top (by decide) (Nat.mod_lt _ (Nat.pow_pos (by decide))) (show k + 1 ≤ 32 * j + r by omega), dg_top (by decide) (Nat.mod_lt _ (Nat.pow_pos (by decide))) (show k ≤ 32 * j + r by omega)]
theorem num_walk (x k : Nat) : (((wrd (x % 2 ^ k) (k / 32) : Nat) : Int) + ((bitN x k : Nat) : Int) * 2 ^ (k % 32) % 4294967296) % 4294967296 = ((wrd (x % 2 ^ (k + 1)) (k / 32) : Nat) : Int) := by
  rw [← num_here]
  simp [Int.natCast_add, Int.natCast_mul, Int.natCast_pow, Int.natCast_emod]
theorem num_set (x k : Nat) : (nums (x % 2 ^ k)).setIfInBounds (k / 32) (.int .u32 ((wrd (x % 2 ^ (k + 1)) (k / 32) : Nat) : Int)) = nums (x % 2 ^ (k + 1)) := by
  unfold nums
  rw [tab_set]
  apply tab_ext
  intro j _
  by_cases h : j = k / 32
  · rw [if_pos h, h]; rfl
  · rw [if_neg h]
    unfold dgs
    have := num_other x k j h
    unfold wrd at this
    rw [this]

attribute [local go_sem] zeroBits zeroNum
set_option maxRecDepth 100000 in
set_option maxHeartbeats 1000000 in
theorem num_any (x : Nat) (w : World) (hx : x < big) :
    Calls Try.prog 13 #[.agg (bits2 x)] w fun e w' => e = .returned (.agg (nums x)) ∧ Below w.heap.size w w' := by
  have HX := Lib.hid hx
  clear hx
  go_enter Try.func13, Try.ntmps13
  go_wp2_with fail
  go_loopw [4] (fun ct wr => ∃ k : Nat, k ≤ 256 ∧ ct = .int .i64 k ∧ Has wr w.heap.size 27 (bits2 x) ∧ Has wr (w.heap.size + 1) 23 (nums 0) ∧
      Has wr (w.heap.size + 1 + 1) 23 (nums (x % 2 ^ k)) ∧ Below w.heap.size w wr) (fun ct _ => 256 - (intOf ct).toNat)
  case atStart =>
    exact ⟨0, by omega, rfl, ((Has.new w _ _).alloc _).alloc _, (Has.new' (by simp)).alloc _, by rw [Nat.pow_zero, Nat.mod_one]; exact Has.new' (by simp),
      (((Below.refl _ _).alloc (Nat.le_refl _) _).alloc (by simp) _).alloc (by simp; omega) _⟩
  case round =>
    obtain ⟨k, hk, rfl, h0, h1, h2, hb⟩ := hrel
    by_cases hlt : k < 256
    · have c0 := bits2_at h0 k hlt
      have dk : (k : Int) < 256 := by omega
      have e1 : (k : Int).tdiv 32 = ((k / 32 : Nat) : Int) := by rw [Int.tdiv_eq_ediv_of_nonneg (by omega)]; omega
      have e2 : (k : Int).tmod 32 = ((k % 32 : Nat) : Int) := by rw [Int.tmod_eq_emod_of_nonneg (by omega)]; omega
      have hbw := num_walk x k
      have hl : ((bitN x k : Nat) : Int) < 2 := by have := bitN_lt x k; omega
      have c2 := nums_at h2 (k / 32) (by omega)
      have f2 := h2.free (k / 32)
      go_wp2_with fail
      go_region
      all_goals
        go_wp2_with fail
        go_roundw
      all_goals first
        | (refine ⟨k + 1, by omega, by go_num, h0.drew.far (by simp <;> omega) _, h1.drew.far (by simp <;> omega) _, ?_, (below_drewN hb 1).setCell (by simp <;> omega) _⟩
           rw [← num_set]
           exact h2.drew.set (k / 32) _)
        | (simp [intOf]; omega)
    · have e256 : k = 256 := by omega
      have h2' : Has wr (w.heap.size + 1 + 1) 23 (nums x) := by rw [e256, ← big_two, Nat.mod_eq_of_lt HX.out] at h2; exact h2
      have dk : ¬ (k : Int) < 256 := by omega
      have hz : (Try.prog.info? 23).map (·.size) = some (nums x).size := by rw [nums_size]; kernel_rfl
      clear e256 hk h0 h2
      go_wp2_with (first | refine wpList_load_row rfl 23 _ rfl (w.heap.size + 1 + 1) rfl 23 _ _ _ h2' Try.underlying23 rfl hz ?_ | refine wpList_store_row rfl 23 _ _ rfl (w.heap.size + 1) _ rfl rfl 23 _ h1 hz (by simp only [nums_size]) (tab_oneCell _ _ fun _ => rfl) ?_)
      exact bodyPost_ret (v := .agg (nums x)) (results_cell_row rfl _ _ (w.heap.size + 1) 23 _ _ _ rfl (h1.setRow _) Try.underlying23 rfl hz) rfl ⟨rfl, below_setRow hb (by omega) _⟩

def car2 (a b k : Nat) : Nat := car 2 a b k
theorem car2_le (a b k : Nat) : car2 a b k ≤ 1 := car_le (by decide) a b k
theorem add2_lo (a b k : Nat) : (((bitN a k : Nat) : Int) + ((bitN b k : Nat) : Int) + ((car2 a b k : Nat) : Int)) % 2 = ((bitN (a + b) k : Nat) : Int) := by
  have h : (bitN a k + bitN b k + car2 a b k) % 2 = bitN (a + b) k := add_dg (by decide) a b k
  rw [← h]; omega
theorem add2_hi (a b k : Nat) : (((bitN a k : Nat) : Int) + ((bitN b k : Nat) : Int) + ((car2 a b k : Nat) : Int)) / 2 = ((car2 a b (k + 1) : Nat) : Int) := by
  have h : (bitN a k + bitN b k + car2 a b k) / 2 = car2 a b (k + 1) := car_step (by decide) a b k
  rw [← h]; omega
set_option maxRecDepth 100000 in
set_option maxHeartbeats 1000000 in
theorem refadd_any (a b : Nat) (w : World) (ha : a < big) (hb : b < big) :
    Calls Try.prog 10 #[.agg (bits2 a), .agg (bits2 b)] w fun e w' => e = .returned (.tuple #[.agg (bits2 (addN a b)), .int .i64 ((over a b : Nat) : Int)]) ∧ Below w.heap.size w w' := by
  have hend : car2 a b 256 = over a b := by unfold car2 over; rw [big_two] at ha hb ⊢; exact car_end ha hb
  have HE := Lib.hid hend
  clear hend ha hb
  have hm : bits2 (addN a b) = bits2 (a + b) := bits2_mod _
  rw [hm]
  clear hm
  go_enter Try.func10, Try.ntmps10
  go_wp2_with fail
  go_loopw [7, 8, 9] (fun cc ct _ wr => ∃ k : Nat, k ≤ 256 ∧ ct = .int .i64 k ∧ cc = .int .i64 ((car2 a b k : Nat) : Int) ∧ Has wr w.heap.size 27 (bits2 a) ∧ Has wr (w.heap.size + 1) 27 (bits2 b) ∧
      Has wr (w.heap.size + 1 + 1) 27 (bits2 0) ∧ Has wr (w.heap.size + 1 + 1 + 1) 27 (bits2 ((a + b) % 2 ^ k)) ∧ Below w.heap.size w wr) (fun _ ct _ _ => 256 - (intOf ct).toNat)
  case atStart =>
    exact ⟨0, by omega, rfl, by rw [car2, car_zero]; rfl, (((Has.new w _ _).alloc _).alloc _).alloc _, ((Has.new' (by simp)).alloc _).alloc _, (Has.new' (by simp)).alloc _, by rw [bits2_start]; exact Has.new' (by simp),
      ((((Below.refl _ _).alloc (Nat.le_refl _) _).alloc (by simp) _).alloc (by simp <;> omega) _).alloc (by simp <;> omega) _⟩
  case round =>
    obtain ⟨k, hk, rfl, rfl, h0, h1, h2, h3, hb⟩ := hrel
    by_cases hlt : k < 256
    · have c0 := bits2_at h0 k hlt
      have c1 := bits2_at h1 k hlt
      have dk : (k : Int) < 256 := by omega
      have l0 : ((bitN a k : Nat) : Int) < 2 := by have := bitN_lt a k; omega
      have l1 : ((bitN b k : Nat) : Int) < 2 := by have := bitN_lt b k; omega
      have l2 : ((car2 a b k : Nat) : Int) ≤ 1 := by have := car2_le a b k; omega
      have e1 := add2_lo a b k
      have e2 := add2_hi a b k
      go_wp2_with fail
      go_quiet (fail)
      replace h0 := h0.drewN nq
      replace h1 := h1.drewN nq
      replace h2 := h2.drewN nq
      replace h3 := h3.drewN nq
      replace hb := below_drewN hb nq
      clear c0 c1
      generalize hq : Go.World.drewN _ nq = wr at *
      clear hq
      have c3 := h3.cellTab k hlt
      have f3 := h3.free k
      go_wp2_with fail
      go_roundw
      case rel => exact ⟨k + 1, by omega, by go_num, by rw [← add2_hi], h0.far (by simp <;> omega) _, h1.far (by simp <;> omega) _, h2.far (by simp <;> omega) _, by rw [← bits2_set hlt, ← add2_lo]; exact h3.set k _, hb.setCell (by simp <;> omega) _⟩
      case measure => simp [intOf]; omega
    · have e256 : k = 256 := by omega
      have h3' : Has wr (w.heap.size + 1 + 1 + 1) 27 (bits2 (a + b)) := by rw [e256, bits2_end] at h3; exact h3
      have hcar : car2 a b k = over a b := by rw [e256]; exact HE.out
      have dk : ¬ (k : Int) < 256 := by omega
      clear e256 hk h3 h0 h1
      go_wp2_with (first | refine wpList_load_row rfl 27 _ rfl (w.heap.size + 1 + 1 + 1) rfl 27 _ _ _ h3' Try.underlying27 rfl (infoBits _) ?_ | refine wpList_store_row rfl 27 _ _ rfl (w.heap.size + 1 + 1) _ rfl rfl 27 _ h2 (infoBits _) (by simp only [bits2_size]) (tab_oneCell _ _ fun _ => rfl) ?_)
      exact bodyPost_ret (results_row_tmp rfl _ _ (w.heap.size + 1 + 1) 27 _ _ _ rfl rfl (h2.setRow _) Try.underlying27 rfl (infoBits _)) rfl ⟨rfl, below_setRow hb (by omega) _⟩

/-- each bit the other one -/
def notN (x : Nat) : Nat := big - (x + 1)
theorem notN_lt (x : Nat) : notN x < big := by have := big_pos; unfold notN; omega
theorem bitN_test (x j : Nat) : bitN x j = (x.testBit j).toNat := by
  rw [Nat.testBit_eq_decide_div_mod_eq]
  have h := bitN_lt x j
  unfold bitN at h ⊢
  rcases (show x / 2 ^ j % 2 = 0 ∨ x / 2 ^ j % 2 = 1 by omega) with e | e <;> simp [e]
theorem bitN_not (x j : Nat) (hx : x < big) (hj : j < 256) : bitN (notN x) j = 1 - bitN x j := by
  rw [bitN_test, bitN_test]
  unfold notN
  rw [big_two] at hx ⊢
  rw [Nat.testBit_two_pow_sub_succ hx]
  cases x.testBit j <;> simp [hj]
def notP (x k j : Nat) : Value := if j < k then .int .i64 ((bitN (notN x) j : Nat) : Int) else .int .i64 ((bitN x j : Nat) : Int)
theorem notP_zero (x : Nat) : tab 256 (notP x 0) = bits2 x := tab_ext _ _ _ fun j _ => by simp [notP]
theorem notP_end (x : Nat) : tab 256 (notP x 256) = bits2 (notN x) := tab_ext _ _ _ fun j hj => by simp [notP, hj]
theorem notP_at (x k : Nat) : notP x k k = .int .i64 ((bitN x k : Nat) : Int) := by simp [notP]
theorem notP_set (x k : Nat) (hx : x < big) (hk : k < 256) : (tab 256 (notP x k)).setIfInBounds k (.int .i64 (1 - ((bitN x k : Nat) : Int))) = tab 256 (notP x (k + 1)) := by
  rw [tab_set]
  apply tab_ext
  intro j _
  by_cases h : j = k
  · subst h
    have e := bitN_not x j hx hk
    have h2 := bitN_lt x j
    simp only [notP, if_pos, show j < j + 1 by omega]
    rw [e]
    congr 1
    omega
  · simp only [notP, if_neg h]
    by_cases h2 : j < k
    · rw [if_pos h2, if_pos (by omega)]
    · rw [if_neg h2, if_neg (by omega)]
set_option maxRecDepth 100000 in
set_option maxHeartbeats 1000000 in
theorem not_any (x : Nat) (w : World) (hx : x < big) :
    Calls Try.prog 22 #[.agg (bits2 x)] w fun e w' => e = .returned (.agg (bits2 (notN x))) ∧ Below w.heap.size w w' := by
  have HX := Lib.hid hx
  clear hx
  go_enter Try.func22, Try.ntmps22
  go_wp2_with fail
  go_loopw [3] (fun ct wr => ∃ k : Nat, k ≤ 256 ∧ ct = .int .i64 k ∧ Has wr w.heap.size 27 (tab 256 (notP x k)) ∧ Has wr (w.heap.size + 1) 27 (bits2 0) ∧ Below w.heap.size w wr) (fun ct _ => 256 - (intOf ct).toNat)
  case atStart =>
    exact ⟨0, by omega, rfl, by rw [notP_zero]; exact (Has.new w _ _).alloc _, Has.new' (by simp), ((Below.refl _ _).alloc (Nat.le_refl _) _).alloc (by simp) _⟩
  case round =>
    obtain ⟨k, hk, rfl, h0, h1, hb⟩ := hrel
    by_cases hlt : k < 256
    · have c0 := (h0.cellTab k hlt).trans (congrArg some (notP_at x k))
      have f0 := h0.free k
      have dk : (k : Int) < 256 := by omega
      have hl : ((bitN x k : Nat) : Int) < 2 := by have := bitN_lt x k; omega
      go_wp2_with fail
      go_roundw
      case rel => exact ⟨k + 1, by omega, by go_num, by rw [← notP_set x k HX.out hlt]; exact h0.set k _, h1.far (by simp <;> omega) _, hb.setCell (by simp <;> omega) _⟩
      case measure => simp [intOf]; omega
    · have e256 : k = 256 := by omega
      have h0' : Has wr w.heap.size 27 (bits2 (notN x)) := by rw [e256, notP_end] at h0; exact h0
      have dk : ¬ (k : Int) < 256 := by omega
      clear e256 hk h0
      go_wp2_with (first | refine wpList_load_row rfl 27 _ rfl w.heap.size rfl 27 _ _ _ h0' Try.underlying27 rfl (infoBits _) ?_ | refine wpList_store_row rfl 27 _ _ rfl (w.heap.size + 1) _ rfl rfl 27 _ h1 (infoBits _) (by simp only [bits2_size]) (tab_oneCell _ _ fun _ => rfl) ?_)
      exact bodyPost_ret (v := .agg (bits2 (notN x))) (results_cell_row rfl _ _ (w.heap.size + 1) 27 _ _ _ rfl (h1.setRow _) Try.underlying27 rfl (infoBits _)) rfl ⟨rfl, below_setRow hb (by omega) _⟩

def lessB (x y : Nat) : Bool := decide (x < y)
theorem div_step (x k : Nat) : x / 2 ^ k = 2 * (x / 2 ^ (k + 1)) + bitN x k := by
  unfold bitN
  rw [Nat.pow_succ, ← Nat.div_div_eq_div_mul]
  omega
theorem less_bit (x y k : Nat) (h : x / 2 ^ (k + 1) = y / 2 ^ (k + 1)) (hne : bitN x k ≠ bitN y k) : lessB x y = decide (bitN x k < bitN y k) := by
  unfold lessB
  have ex := div_step x k
  have ey := div_step y k
  by_cases hl : bitN x k < bitN y k
  · rw [decide_eq_true hl, decide_eq_true]
    exact Nat.lt_of_div_lt_div (c := 2 ^ k) (by omega)
  · rw [decide_eq_false hl, decide_eq_false]
    have : y < x := Nat.lt_of_div_lt_div (c := 2 ^ k) (by omega)
    omega
set_option maxRecDepth 100000 in
set_option maxHeartbeats 1000000 in
theorem less_any (x y : Nat) (w : World) (hx : x < big) (hy : y < big) :
    Calls Try.prog 14 #[.agg (bits2 x), .agg (bits2 y)] w fun e w' => e = .returned (.bool (lessB x y)) ∧ Below w.heap.size w w' := by
  have h256 : x / 2 ^ 256 = y / 2 ^ 256 := by rw [big_two] at hx hy; rw [Nat.div_eq_of_lt hx, Nat.div_eq_of_lt hy]
  have H := Lib.hid h256
  clear hx hy h256
  go_enter Try.func14, Try.ntmps14
  go_wp2_with fail
  go_loopw [5] (fun ct wr => ∃ k : Nat, k ≤ 256 ∧ ct = .int .i64 ((k : Int) - 1) ∧ Hid (x / 2 ^ k = y / 2 ^ k) ∧ Has wr w.heap.size 27 (bits2 x) ∧ Has wr (w.heap.size + 1) 27 (bits2 y) ∧ Below w.heap.size w wr) (fun ct _ => (intOf ct + 1).toNat)
  case atStart =>
    exact ⟨256, by omega, rfl, H, (Has.new w _ _).alloc _, Has.new' (by simp), ((Below.refl _ _).alloc (Nat.le_refl _) _).alloc (by simp) _⟩
  case round =>
    obtain ⟨k, hk, rfl, HK, h0, h1, hb⟩ := hrel
    clear H
    by_cases hlt : 0 < k
    · obtain ⟨k, rfl⟩ : ∃ j, k = j + 1 := ⟨k - 1, by omega⟩
      have ek : ((k + 1 : Nat) : Int) - 1 = (k : Int) := by omega
      rw [ek]
      clear ek
      have c0 := bits2_at h0 k (by omega)
      have c1 := bits2_at h1 k (by omega)
      have dk : (k : Int) < 256 := by omega
      by_cases he : bitN x k = bitN y k
      · have hd : (((bitN x k : Nat) : Int) == ((bitN y k : Nat) : Int)) = true := beq_iff_eq.2 (by omega)
        have HK' : Hid (x / 2 ^ k = y / 2 ^ k) := Lib.hid (by rw [div_step x k, div_step y k, HK.out, he])
        clear he HK
        go_wp2_with fail
        go_quiet (fail)
        go_wp2_with fail
        go_roundw
        case rel => exact ⟨k, by omega, by go_num, HK', h0.drewN _, h1.drewN _, below_drewN hb _⟩
        case measure => simp [intOf] <;> omega
      · have hd : (((bitN x k : Nat) : Int) == ((bitN y k : Nat) : Int)) = false := beq_eq_false_iff_ne.2 (by omega)
        have hl := less_bit x y k HK.out he
        have HL := Lib.hid hl
        clear he HK hl
        go_wp2_with fail
        go_quiet (fail)
        replace h0 := h0.drewN nq
        replace h1 := h1.drewN nq
        replace hb := below_drewN hb nq
        clear c0 c1
        generalize hq : Go.World.drewN _ nq = wr at *
        clear hq
        have c0 := bits2_at h0 k (by omega)
        have c1 := bits2_at h1 k (by omega)
        go_wp2_with fail
        go_quiet (fail)
        go_wp2_with fail
        go_ret
        exact ⟨by rw [HL.out]; rfl, below_drewN hb _⟩
    · have e0 : k = 0 := by omega
      subst e0
      have hf : lessB x y = false := by
        have := HK.out
        rw [Nat.pow_zero, Nat.div_one, Nat.div_one] at this
        simp [lessB, this]
      have HF := Lib.hid hf
      clear HK hf
      go_wp2_with fail
      go_ret
      exact ⟨by rw [HF.out]; rfl, hb⟩
end Go.Proofs.Ytncjlglpocfeaaa
