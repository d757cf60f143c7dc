/-
Layer 15: package csr's calls without state: aligned, stored, bitsIf, among, word, statusOf, withLower, withUpper.
-/
import Derived.Test.YthaockngbagdhaaDoorCkA
namespace Go.Proofs.YthaockngbagdhaaDoor.Cs
open Go Go.RowKit

set_option maxRecDepth 100000 in
set_option maxHeartbeats 1000000 in
theorem aligned_any (x : Nat) (w : World) (hx : x < 4294967296) : Calls Tryd.prog 30 #[.int .u32 (x : Int)] w fun e w' => e = .returned (.int .u32 ((x - x % 4 : Nat) : Int)) ∧ w = w' := by
  have h := and_not3 x hx
  generalize x - x % 4 = y at *
  go_enter Tryd.func30, Tryd.ntmps30
  go_wp2_with fail
  go_ret
  exact ⟨rfl, rfl⟩
set_option maxRecDepth 100000 in
set_option maxHeartbeats 1000000 in
theorem stored_any (m : Nat) (w : World) : Calls Tryd.prog 31 #[.int .i64 (m : Int)] w fun e w' => e = .returned (.int .i64 ((if m = 3 then 3 else 0 : Nat) : Int)) ∧ w = w' := by
  by_cases h : m = 3
  · subst h
    go_enter Tryd.func31, Tryd.ntmps31
    go_wp2_with fail
    go_ret
    exact ⟨rfl, rfl⟩
  · have d : ((m : Int) == 3) = false := beq_eq_false_iff_ne.2 (by omega)
    rw [if_neg h]
    go_enter Tryd.func31, Tryd.ntmps31
    go_wp2_with fail
    go_ret
    exact ⟨rfl, rfl⟩
set_option maxRecDepth 100000 in
set_option maxHeartbeats 1000000 in
theorem bitsIf_any (b : Bool) (n : Nat) (w : World) : Calls Tryd.prog 32 #[.bool b, .int .u32 (n : Int)] w fun e w' => e = .returned (.int .u32 ((if b = true then n else 0 : Nat) : Int)) ∧ w = w' := by
  cases b
  · go_enter Tryd.func32, Tryd.ntmps32
    go_wp2_with fail
    go_ret
    exact ⟨rfl, rfl⟩
  · go_enter Tryd.func32, Tryd.ntmps32
    go_wp2_with fail
    go_ret
    exact ⟨rfl, rfl⟩
set_option maxRecDepth 100000 in
set_option maxHeartbeats 1000000 in
theorem among_any (n a c : Nat) (w : World) (hac : a + c < 4294967296) : Calls Tryd.prog 27 #[.int .u32 (n : Int), .int .u32 (a : Int), .int .u32 (c : Int)] w fun e w' => e = .returned (.bool (decide (a ≤ n ∧ n < a + c))) ∧ w = w' := by
  have e : ((a : Int) + (c : Int)) % 4294967296 = ((a + c : Nat) : Int) := by omega
  have hs : IntKind.u32.wrap ((a : Int) + (c : Int)) = ((a + c : Nat) : Int) := by simpa [IntKind.wrap, IntKind.signed, IntKind.bits] using e
  obtain ⟨t, ht⟩ : ∃ t, t = a + c := ⟨_, rfl⟩
  rw [← ht] at e hs hac ⊢
  clear ht
  by_cases h1 : a ≤ n
  · have d1 : (a : Int) ≤ (n : Int) := by omega
    by_cases h2 : n < t
    · have d2 : (n : Int) < (t : Int) := by omega
      rw [decide_eq_true (And.intro h1 h2)]
      go_enter Tryd.func27, Tryd.ntmps27
      go_wp2_with fail
      go_ret
      exact ⟨rfl, rfl⟩
    · have d2 : ¬ (n : Int) < (t : Int) := by omega
      rw [decide_eq_false (fun h => h2 h.2)]
      go_enter Tryd.func27, Tryd.ntmps27
      go_wp2_with fail
      go_ret
      exact ⟨rfl, rfl⟩
  · have d1 : ¬ (a : Int) ≤ (n : Int) := by omega
    rw [decide_eq_false (fun h => h1 h.1)]
    go_enter Tryd.func27, Tryd.ntmps27
    go_wp2_with fail
    go_ret
    exact ⟨rfl, rfl⟩
theorem among_cfg (n : Nat) (w : World) : Calls Tryd.prog 27 #[.int .u32 (n : Int), .int .u32 928, .int .u32 4] w fun e w' => e = .returned (.bool (decide (928 ≤ n ∧ n < 932))) ∧ w = w' := among_any n 928 4 w (by decide)
theorem among_adr (n : Nat) (w : World) : Calls Tryd.prog 27 #[.int .u32 (n : Int), .int .u32 944, .int .u32 16] w fun e w' => e = .returned (.bool (decide (944 ≤ n ∧ n < 960))) ∧ w = w' := among_any n 944 16 w (by decide)
theorem among_ven (n : Nat) (w : World) : Calls Tryd.prog 27 #[.int .u32 (n : Int), .int .u32 3857, .int .u32 4] w fun e w' => e = .returned (.bool (decide (3857 ≤ n ∧ n < 3861))) ∧ w = w' := among_any n 3857 4 w (by decide)
theorem bits8 (b : Bool) (w : World) : Calls Tryd.prog 32 #[.bool b, .int .u32 8] w fun e w' => e = .returned (.int .u32 ((if b = true then 8 else 0 : Nat) : Int)) ∧ w = w' := bitsIf_any b 8 w
theorem bits128 (b : Bool) (w : World) : Calls Tryd.prog 32 #[.bool b, .int .u32 128] w fun e w' => e = .returned (.int .u32 ((if b = true then 128 else 0 : Nat) : Int)) ∧ w = w' := bitsIf_any b 128 w
set_option maxRecDepth 100000 in
set_option maxHeartbeats 2000000 in
theorem lower_any (c x : Nat) (w : World) (hc : c < 18446744073709551616) (hx : x < 4294967296) : Calls Tryd.prog 46 #[.int .u64 (c : Int), .int .u32 (x : Int)] w fun e w' => e = .returned (.int .u64 ((c / 4294967296 * 4294967296 + x : Nat) : Int)) ∧ w = w' := by
  obtain ⟨h, hh⟩ : ∃ h, h = c / 4294967296 := ⟨_, rfl⟩
  have e1 : (c : Int) / 4294967296 = (h : Int) := by omega
  have hl : h < 4294967296 := by omega
  have e2 : ((h : Int) * 4294967296) % 18446744073709551616 = (h : Int) * 4294967296 := by omega
  have e3 := or64 h x hl hx
  have e4 : ((c / 4294967296 * 4294967296 + x : Nat) : Int) = (h : Int) * 4294967296 + x := by omega
  rw [e4]
  clear e4 hh
  go_enter Tryd.func46, Tryd.ntmps46
  go_wp2_with fail
  go_ret
  exact ⟨rfl, rfl⟩
set_option maxRecDepth 100000 in
set_option maxHeartbeats 2000000 in
theorem upper_any (c x : Nat) (w : World) (_hc : c < 18446744073709551616) (hx : x < 4294967296) : Calls Tryd.prog 47 #[.int .u64 (c : Int), .int .u32 (x : Int)] w fun e w' => e = .returned (.int .u64 ((c % 4294967296 + x * 4294967296 : Nat) : Int)) ∧ w = w' := by
  obtain ⟨l, hh⟩ : ∃ l, l = c % 4294967296 := ⟨_, rfl⟩
  have e1 : (c : Int) % 4294967296 = (l : Int) := by omega
  have hl : l < 4294967296 := by omega
  have e2 : ((x : Int) * 4294967296) % 18446744073709551616 = (x : Int) * 4294967296 := by omega
  have e3 := or64 x l hx hl
  have e4 : ((c % 4294967296 + x * 4294967296 : Nat) : Int) = (x : Int) * 4294967296 + l := by omega
  rw [e4]
  clear e4 hh
  go_enter Tryd.func47, Tryd.ntmps47
  go_wp2_with fail
  go_ret
  exact ⟨rfl, rfl⟩
set_option maxRecDepth 100000 in
set_option maxHeartbeats 2000000 in
theorem word_any (b1 b2 : Bool) (m : Nat) (hm : m = 0 ∨ m = 3) (w : World) : Calls Tryd.prog 42 #[.agg #[.bool b1, .bool b2, .int .i64 (m : Int)]] w fun e w' => e = .returned (.int .u32 (((if b1 = true then 8 else 0) + (if b2 = true then 128 else 0) + m * 2048 : Nat) : Int)) ∧ Below w.heap.size w w' := by
  have k8 := bits8 b1
  have k128 := bits128 b2
  obtain ⟨p, hp⟩ : ∃ p : Nat, p = if b1 = true then 8 else 0 := ⟨_, rfl⟩
  obtain ⟨q, hq⟩ : ∃ q : Nat, q = if b2 = true then 128 else 0 := ⟨_, rfl⟩
  rw [← hp] at k8 ⊢
  rw [← hq] at k128 ⊢
  have hpl : p < 128 := by rw [hp]; split <;> decide
  have hql : q ≤ 128 ∧ q % 128 = 0 := by rw [hq]; split <;> decide
  have o1 : bits .or .u32 (p : Int) (q : Int) = ((p + q : Nat) : Int) := by
    have h := or32 q p 7 hpl (by omega) (by omega) hql.2
    rw [u32_or_nat _ _ (by omega) (by omega), Nat.or_comm, ← u32_or_nat _ _ (by omega) (by omega), h, Nat.add_comm]
  have o2 : bits .or .u32 ((p + q : Nat) : Int) ((m : Int) * 2048) = ((p + q + m * 2048 : Nat) : Int) := by
    have h := or32 (m * 2048) (p + q) 11 (by omega) (by omega) (by omega) (by omega)
    rw [show (m : Int) * 2048 = ((m * 2048 : Nat) : Int) by omega]
    rw [u32_or_nat _ _ (by omega) (by omega), Nat.or_comm, ← u32_or_nat _ _ (by omega) (by omega), h, Nat.add_comm]
  obtain ⟨z, hz⟩ : ∃ z, z = p + q + m * 2048 := ⟨_, rfl⟩
  obtain ⟨y, hy⟩ : ∃ y, y = p + q := ⟨_, rfl⟩
  rw [← hz] at o2 ⊢
  rw [← hy] at o1 o2
  have hmI : (m : Int) < 4 := by omega
  have e2 : ((m : Int) * 2048) % 4294967296 = (m : Int) * 2048 := by omega
  have e1 : (m : Int) % 4294967296 = (m : Int) := by omega
  clear hp hq hz hy hpl hql hm
  go_enter Tryd.func42, Tryd.ntmps42
  go_upto_region 1 with fail
  go_quiet (first
    | (go_at_call 32; with_reducible exact Calls.quiet_of_same ((k8 _).mono fun _ _ ⟨he, hw⟩ => ⟨he, hw.symm⟩))
    | (go_at_call 32; with_reducible exact Calls.quiet_of_same ((k128 _).mono fun _ _ ⟨he, hw⟩ => ⟨he, hw.symm⟩)))
  go_wp2_with fail
  go_ret
  exact ⟨rfl, below_drewN ((Below.refl _ w).alloc (Nat.le_refl _) _) _⟩
theorem stW_8 (x : Nat) : stW x / 8 % 2 = x / 8 % 2 := by unfold stW mppW; split <;> omega
theorem stW_128 (x : Nat) : stW x / 128 % 2 = x / 128 % 2 := by unfold stW mppW; split <;> omega
theorem stW_m (x : Nat) : stW x / 2048 % 4 = if x / 2048 % 4 = 3 then 3 else 0 := by unfold stW mppW; split <;> split <;> omega
theorem stW_form (x : Nat) : stW x = stW x / 8 % 2 * 8 + stW x / 128 % 2 * 128 + stW x / 2048 % 4 * 2048 := by unfold stW mppW; split <;> omega
theorem ne0 (p k : Nat) (hp : p < 2) (hk : 0 < k) : (((p * k : Nat) : Int) != 0) = decide (p = 1) := by
  rcases (show p = 0 ∨ p = 1 by omega) with rfl | rfl
  · rw [Nat.zero_mul]; rfl
  · rw [Nat.one_mul, decide_eq_true rfl, bne_iff_ne]; omega
theorem infoS3 : (Tryd.prog.info? 36).map (·.size) = some 3 := by kernel_rfl
set_option maxRecDepth 100000 in
set_option maxHeartbeats 2000000 in
theorem statusOf_any (x : Nat) (w : World) (hx : x < 4294967296) : Calls Tryd.prog 45 #[.int .u32 (x : Int)] w fun e w' => e = .returned (.agg (tab 3 (stV (stW x)))) ∧ Below w.heap.size w w' := by
  rw [show tab 3 (stV (stW x)) = #[.bool (decide (stW x / 8 % 2 = 1)), .bool (decide (stW x / 128 % 2 = 1)), .int .i64 ((stW x / 2048 % 4 : Nat) : Int)] from rfl, stW_8, stW_128, stW_m]
  have a1 := a32 x 3 hx (by decide)
  have a2 := a32 x 7 hx (by decide)
  have a3 := a_mpp x hx
  replace a1 : bits .and .u32 (x : Int) 8 = ((x / 8 % 2 * 8 : Nat) : Int) := a1
  replace a2 : bits .and .u32 (x : Int) 128 = ((x / 128 % 2 * 128 : Nat) : Int) := a2
  have n1 := ne0 (x / 8 % 2) 8 (by omega) (by decide)
  have n2 := ne0 (x / 128 % 2) 128 (by omega) (by decide)
  have hm : x / 2048 % 4 < 4 := by omega
  have kS := stored_any (x / 2048 % 4)
  generalize (if x / 2048 % 4 = 3 then 3 else 0 : Nat) = v at *
  generalize x / 2048 % 4 = m at *
  generalize decide (x / 8 % 2 = 1) = b1 at *
  generalize decide (x / 128 % 2 = 1) = b2 at *
  generalize x / 8 % 2 * 8 = p at *
  generalize x / 128 % 2 * 128 = q at *
  obtain ⟨M, hM⟩ : ∃ M, M = m * 2048 := ⟨_, rfl⟩
  rw [← hM] at a3
  have e3 : (M : Int) / 2048 = (m : Int) := by omega
  have hmI : (m : Int) < 4 := by omega
  clear hM hm
  go_enter Tryd.func45, Tryd.ntmps45
  go_wp2_with (go_at_call 31; with_reducible refine (kS _).mono ?_; rintro e w2 ⟨rfl, rfl⟩)
  have hG : Has (w.alloc (.cells #[.bool b1, .bool b2, .int .i64 (v : Int)] 36)) w.heap.size 36 #[.bool b1, .bool b2, .int .i64 (v : Int)] := Has.new _ _ _
  refine bodyPost_ret (results_cell_row rfl _ _ w.heap.size 36 _ _ _ rfl hG Tryd.underlying36 rfl infoS3) rfl ⟨rfl, ?_⟩
  exact (Below.refl _ w).alloc (Nat.le_refl _) _
end Go.Proofs.YthaockngbagdhaaDoor.Cs
