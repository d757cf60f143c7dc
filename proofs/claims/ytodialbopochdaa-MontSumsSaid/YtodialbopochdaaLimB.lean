/-
limbs.Add and limbs.Sub: sums and differences of numbers of eight words.
-/
import Derived.Test.YtodialbopochdaaLimA
import Derived.Test.YtodialbopochdaaNum
import Derived.Laws.ResultCell
import Derived.Deep.RegionWith
namespace Go.Proofs.Ytodialbopochdaa
open Go.RowKit

/-- what is carried out of a sum -/
def over (a b : Nat) : Nat := (a + b) / big
/-- what is borrowed for a difference -/
def under (a b : Nat) : Nat := if a < b then 1 else 0
def carN (a b k : Nat) : Nat := car 4294967296 a b k
theorem addW_eq (a b k : Nat) : addW (wrd a k) (wrd b k) (carN a b k) = wrd (a + b) k := add_dg (by decide) a b k
theorem addC_eq (a b k : Nat) : addC (wrd a k) (wrd b k) (carN a b k) = carN a b (k + 1) := car_step (by decide) a b k
theorem carN_le (a b k : Nat) : carN a b k ≤ 1 := car_le (by decide) a b k
def borN (a b k : Nat) : Nat := bor 4294967296 a b k
theorem subW_eq (a b k : Nat) (hk : k < 8) (hb : b < big) : subW (wrd a k) (wrd b k) (borN a b k) = wrd (a + big - b) k := sub_dg (by decide) hk hb
theorem subB_eq (a b k : Nat) : subB (wrd a k) (wrd b k) (borN a b k) = borN a b (k + 1) := bor_step (by decide) a b k
theorem borN_le (a b k : Nat) : borN a b k ≤ 1 := bor_le _ a b k

attribute [local go_sem] zeroNum
set_option maxRecDepth 100000 in
set_option maxHeartbeats 1000000 in
theorem add_any (a b : Nat) (w : World) (ha : a < big) (hb : b < big) :
    Calls Try.prog 36 #[.agg (nums a), .agg (nums b)] w fun e w' => e = .returned (.tuple #[.agg (nums (a + b)), .int .u32 ((over a b : Nat) : Int)]) ∧ Below w.heap.size w w' := by
  have hend : carN a b 8 = over a b := car_end ha hb
  have HE := Lib.hid hend
  clear hend ha hb
  go_enter Try.func36, Try.ntmps36
  go_wp2_with fail
  go_loopw [7, 8, 9] (fun cc _ ct wr => ∃ k : Nat, k ≤ 8 ∧ ct = .int .i64 k ∧ cc = .int .u32 ((carN a b k : Nat) : Int) ∧ Has wr w.heap.size 24 (nums a) ∧ Has wr (w.heap.size + 1) 24 (nums b) ∧
      Has wr (w.heap.size + 1 + 1) 24 (nums 0) ∧ Has wr (w.heap.size + 1 + 1 + 1) 24 (nums ((a + b) % 4294967296 ^ k)) ∧ Below w.heap.size w wr) (fun _ _ ct _ => 8 - (intOf ct).toNat)
  case atStart =>
    exact ⟨0, by omega, rfl, by rw [carN, car_zero]; rfl, (((Has.new w _ _).alloc _).alloc _).alloc _, ((Has.new' (by simp)).alloc _).alloc _, (Has.new' (by simp)).alloc _, by rw [nums_start]; exact Has.new' (by simp),
      ((((Below.refl _ _).alloc (Nat.le_refl _) _).alloc (by simp) _).alloc (by simp <;> omega) _).alloc (by simp <;> omega) _⟩
  case round =>
    obtain ⟨k, hk, rfl, rfl, h0, h1, h2, h3, hb⟩ := hrel
    by_cases hlt : k < 8
    · have c0 := nums_at h0 k hlt
      have c1 := nums_at h1 k hlt
      have dk : (k : Int) < 8 := by omega
      have l0 := wrd_lt a k
      have l1 := wrd_lt b k
      have l2 := carN_le a b k
      go_wp2_with fail
      have c3 := h3.cellTab k hlt
      have f3 := h3.free k
      go_region_with (go_at_call 44; refine (add32_any _ _ _ _ l0 l1 l2).mono ?_; rintro e w' ⟨rfl, rfl⟩)
      all_goals
        go_wp2_with fail
        go_roundw
      all_goals first
        | (refine ⟨k + 1, by omega, by go_num, by rw [← addC_eq], h0.drew.far (by simp <;> omega) _, h1.drew.far (by simp <;> omega) _, h2.drew.far (by simp) _, ?_, (below_drewN hb 1).setCell (by simp <;> omega) _⟩
           have h := h3.drew.set k (.int .u32 ((wrd (a + b) k : Nat) : Int))
           rw [nums_set hlt, ← addW_eq] at h
           exact h)
        | (simp [intOf]; omega)
    · have e8 : k = 8 := by omega
      have h3' : Has wr (w.heap.size + 1 + 1 + 1) 24 (nums (a + b)) := by rw [e8, nums_end] at h3; exact h3
      have hcar : carN a b k = over a b := by rw [e8]; exact HE.out
      have dk : ¬ (k : Int) < 8 := by omega
      clear e8 hk h3 h0 h1
      go_wp2_with (first | refine wpList_load_row rfl 24 _ rfl (w.heap.size + 1 + 1 + 1) rfl 24 _ _ _ h3' Try.underlying24 rfl (infoNum _) ?_ | refine wpList_store_row rfl 24 _ _ rfl (w.heap.size + 1 + 1) _ rfl rfl 24 _ h2 (infoNum _) (by rw [nums_size, nums_size]) (tab_oneCell _ _ fun _ => rfl) ?_)
      exact bodyPost_ret (results_row_tmp rfl _ _ (w.heap.size + 1 + 1) 24 _ _ _ rfl rfl (h2.setRow _) Try.underlying24 rfl (infoNum _)) rfl ⟨rfl, below_setRow hb (by omega) _⟩
set_option maxRecDepth 100000 in
set_option maxHeartbeats 1000000 in
theorem sub_any (a b : Nat) (w : World) (ha : a < big) (hbb : b < big) :
    Calls Try.prog 41 #[.agg (nums a), .agg (nums b)] w fun e w' => e = .returned (.tuple #[.agg (nums (a + big - b)), .int .u32 ((under a b : Nat) : Int)]) ∧ Below w.heap.size w w' := by
  have hend : borN a b 8 = under a b := bor_end ha hbb
  have HE := Lib.hid hend
  have HB := Lib.hid hbb
  clear hend ha hbb
  go_enter Try.func41, Try.ntmps41
  go_wp2_with fail
  go_loopw [7, 8, 9] (fun cc _ ct wr => ∃ k : Nat, k ≤ 8 ∧ ct = .int .i64 k ∧ cc = .int .u32 ((borN a b k : Nat) : Int) ∧ Has wr w.heap.size 24 (nums a) ∧ Has wr (w.heap.size + 1) 24 (nums b) ∧
      Has wr (w.heap.size + 1 + 1) 24 (nums 0) ∧ Has wr (w.heap.size + 1 + 1 + 1) 24 (nums ((a + big - b) % 4294967296 ^ k)) ∧ Below w.heap.size w wr) (fun _ _ ct _ => 8 - (intOf ct).toNat)
  case atStart =>
    exact ⟨0, by omega, rfl, by rw [borN, bor_zero]; rfl, (((Has.new w _ _).alloc _).alloc _).alloc _, ((Has.new' (by simp)).alloc _).alloc _, (Has.new' (by simp)).alloc _, by rw [nums_start]; exact Has.new' (by simp),
      ((((Below.refl _ _).alloc (Nat.le_refl _) _).alloc (by simp) _).alloc (by simp <;> omega) _).alloc (by simp <;> omega) _⟩
  case round =>
    obtain ⟨k, hk, rfl, rfl, h0, h1, h2, h3, hb⟩ := hrel
    by_cases hlt : k < 8
    · have c0 := nums_at h0 k hlt
      have c1 := nums_at h1 k hlt
      have dk : (k : Int) < 8 := by omega
      have l0 := wrd_lt a k
      have l1 := wrd_lt b k
      have l2 := borN_le a b k
      go_wp2_with fail
      have c3 := h3.cellTab k hlt
      have f3 := h3.free k
      go_region_with (go_at_call 45; refine (sub32_any _ _ _ _ l0 l1 l2).mono ?_; rintro e w' ⟨rfl, rfl⟩)
      all_goals
        go_wp2_with fail
        go_roundw
      all_goals first
        | (refine ⟨k + 1, by omega, by go_num, by rw [← subB_eq], h0.drew.far (by simp <;> omega) _, h1.drew.far (by simp <;> omega) _, h2.drew.far (by simp) _, ?_, (below_drewN hb 1).setCell (by simp <;> omega) _⟩
           have h := h3.drew.set k (.int .u32 ((wrd (a + big - b) k : Nat) : Int))
           rw [nums_set hlt, ← subW_eq _ _ _ hlt HB.out] at h
           exact h)
        | (simp [intOf]; omega)
    · have e8 : k = 8 := by omega
      have h3' : Has wr (w.heap.size + 1 + 1 + 1) 24 (nums (a + big - b)) := by rw [e8, nums_end] at h3; exact h3
      have hbor : borN a b k = under a b := by rw [e8]; exact HE.out
      have dk : ¬ (k : Int) < 8 := by omega
      clear e8 hk h3 h0 h1
      go_wp2_with (first | refine wpList_load_row rfl 24 _ rfl (w.heap.size + 1 + 1 + 1) rfl 24 _ _ _ h3' Try.underlying24 rfl (infoNum _) ?_ | refine wpList_store_row rfl 24 _ _ rfl (w.heap.size + 1 + 1) _ rfl rfl 24 _ h2 (infoNum _) (by rw [nums_size, nums_size]) (tab_oneCell _ _ fun _ => rfl) ?_)
      exact bodyPost_ret (results_row_tmp rfl _ _ (w.heap.size + 1 + 1) 24 _ _ _ rfl rfl (h2.setRow _) Try.underlying24 rfl (infoNum _)) rfl ⟨rfl, below_setRow hb (by omega) _⟩
end Go.Proofs.Ytodialbopochdaa
