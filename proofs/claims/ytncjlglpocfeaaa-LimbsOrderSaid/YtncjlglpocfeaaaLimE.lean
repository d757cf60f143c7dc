/-
Sums and differences modulo 2^256; the law's own fit(); blocks that are new and stored whole.
-/
import Derived.Test.YtncjlglpocfeaaaLimD
import Derived.Test.YtncjlglpocfeaaaGen
namespace Go.Proofs.Ytncjlglpocfeaaa
open Go.RowKit

def addN (a b : Nat) : Nat := (a + b) % big
def subN (a b : Nat) : Nat := (a + big - b) % big
theorem addN_lt (a b : Nat) : addN a b < big := Nat.mod_lt _ big_pos
theorem subN_lt (a b : Nat) : subN a b < big := Nat.mod_lt _ big_pos
theorem nums_mod (x : Nat) : nums (x % big) = nums x := nums_end x
theorem addN_comm (a b : Nat) : addN a b = addN b a := by unfold addN; rw [Nat.add_comm]
theorem over_comm (a b : Nat) : over a b = over b a := by unfold over; rw [Nat.add_comm]
theorem addN_assoc (a b c : Nat) : addN (addN a b) c = addN a (addN b c) := by
  unfold addN; rw [Nat.mod_add_mod, Nat.add_mod_mod, Nat.add_assoc]
theorem sub_add (a b : Nat) (ha : a < big) (hb : b < big) : subN (addN a b) b = a := by
  have hp := big_pos
  unfold subN addN
  generalize big = M at *
  by_cases h : a + b < M
  · rw [Nat.mod_eq_of_lt h, show a + b + M - b = a + M by omega, Nat.add_mod_right, Nat.mod_eq_of_lt ha]
  · have e : (a + b) % M = a + b - M := by rw [Nat.mod_eq_sub_mod (by omega), Nat.mod_eq_of_lt (by omega)]
    rw [e, show a + b - M + M - b = a by omega, Nat.mod_eq_of_lt ha]
theorem over_le (a b : Nat) (ha : a < big) (hb : b < big) : over a b ≤ 1 := by
  unfold over
  have : (a + b) / big < 2 := by rw [Nat.div_lt_iff_lt_mul big_pos]; omega
  omega
theorem over_under (a b : Nat) (ha : a < big) (hb : b < big) : under (addN a b) b = over a b := by
  have hp := big_pos
  unfold under over addN
  generalize big = M at *
  by_cases h : a + b < M
  · rw [Nat.mod_eq_of_lt h, Nat.div_eq_of_lt h, if_neg (by omega)]
  · have e : (a + b) % M = a + b - M := by rw [Nat.mod_eq_sub_mod (by omega), Nat.mod_eq_of_lt (by omega)]
    rw [e, if_pos (by omega)]
    have h1 : (a + b) / M < 2 := by rw [Nat.div_lt_iff_lt_mul hp]; omega
    have h2 : 0 < (a + b) / M := Nat.div_pos (by omega) hp
    omega
theorem nums_ne (x : Nat) : ¬ nums x = #[] := fun h => by have := congrArg Array.size h; simp [nums_size] at this
theorem add_call (a b : Nat) (w : World) (ha : a < big) (hb : b < big) :
    Calls Try.prog 9 #[.agg (nums a), .agg (nums b)] w fun e w' => e = .returned (.tuple #[.agg (nums (addN a b)), .int .u32 ((over a b : Nat) : Int)]) ∧ Below w.heap.size w w' := by
  unfold addN; rw [nums_mod]; exact add_any a b w ha hb
theorem sub_call (a b : Nat) (w : World) (ha : a < big) (hb : b < big) :
    Calls Try.prog 11 #[.agg (nums a), .agg (nums b)] w fun e w' => e = .returned (.tuple #[.agg (nums (subN a b)), .int .u32 ((under a b : Nat) : Int)]) ∧ Below w.heap.size w w' := by
  unfold subN; rw [nums_mod]; exact sub_any a b w ha hb
theorem eql_same (x : Nat) : ∀ W : World, (binOp .eql 24 (.agg (nums x)) (.agg (nums x))).run Try.prog W = .ok (.bool true) W := fun W => by
  obtain ⟨i, hi, _, hs, _⟩ := info_parts info32
  have h := run_eql_tab (P := Try.prog) W 24 22 8 .u32 .u32 i (fun j => ((dg 4294967296 x j : Nat) : Int)) (fun j => ((dg 4294967296 x j : Nat) : Int)) Try.underlying24 Try.underlying22 hi hs
  rw [sameTo_refl] at h
  exact h
/-- a new block, stored whole -/
theorem put_new (w : World) (t : TypeId) (cs cs' : Array Value) : Has ((w.alloc (.cells cs t)).setRow w.heap.size cs') w.heap.size t cs' ∧ Below w.heap.size w ((w.alloc (.cells cs t)).setRow w.heap.size cs') :=
  ⟨(Has.new w t cs).setRow cs', below_setRow ((Below.refl _ _).alloc (Nat.le_refl _) _) (Nat.le_refl _) _⟩
theorem Has.after {w w' : World} {g : Nat} {t : TypeId} {cs : Array Value} (h : Has w g t cs) (k : Below w.heap.size w w') : Has w' g t cs := h.below k h.lt
theorem below_trans {a b c : World} (h : Below a.heap.size a b) (k : Below b.heap.size b c) : Below a.heap.size a c := h.trans (k.mono h.size)

theorem one8 : (nums 0).setIfInBounds 0 (Value.int IntKind.u32 1) = nums 1 := by kernel_rfl
attribute [local go_sem] zeroNum one8
set_option maxRecDepth 100000 in
set_option maxHeartbeats 1000000 in
theorem fit_any (w : World) : Calls Try.prog 7 #[] w fun e w' => e = .returned (.bool true) ∧ Below w.heap.size w w' := by
  have f1 : subN 0 1 = big - 1 := by decide +kernel
  have f2 : under 0 1 = 1 := by decide +kernel
  have f3 : addN (big - 1) 1 = 0 := by decide +kernel
  have f4 : over (big - 1) 1 = 1 := by decide +kernel
  have f5 : ((wrd (big - 1) 7 : Nat) : Int) = 4294967295 := by decide +kernel
  have f6 : sameN 0 0 = true := rfl
  have f7 : cmpI (big - 1) 0 = 1 := by decide +kernel
  have f8 : ((bitN (big - 1) 255 : Nat) : Int) = 1 := by decide +kernel
  have hlt : big - 1 < big := by decide +kernel
  have c1 := fun W => sub_call 0 1 W big_pos (by decide +kernel)
  rw [f1, f2] at c1
  have c2 := fun W => add_call (big - 1) 1 W hlt (by decide +kernel)
  rw [f3, f4] at c2
  have c3 := fun W => zero_any 0 W big_pos
  rw [f6] at c3
  have c4 := fun W => compare_any (big - 1) 0 W hlt big_pos
  rw [f7] at c4
  have c5 := fun W => bit_any (big - 1) 255 W (by decide)
  rw [f8] at c5
  have hne := nums_ne 0
  clear f1 f2 f3 f4 f6 f7 f8
  generalize big - 1 = m at *
  clear hlt
  go_enter Try.func7, Try.ntmps7
  go_wp2_with fail
  refine (c1 _).mono ?_
  rintro e w1 ⟨rfl, hb1⟩
  have hP1 := put_new w1 24 (nums 0) (nums m)
  go_wp2_with (first
    | refine wpList_store_row rfl 24 _ _ rfl w1.heap.size _ rfl rfl 24 (nums 0) (Has.new' rfl) (infoNum _) (by simp only [nums_size]) (tab_oneCell _ _ fun _ => rfl) ?_
    | refine wpList_load_has 24 _ rfl w1.heap.size rfl rfl 24 _ hP1.1 _ Try.underlying24 rfl (infoNum _) ?_)
  refine (c2 _).mono ?_
  rintro e w2 ⟨rfl, hb2⟩
  have hA := hP1.1.after hb2
  have hB := below_trans (below_trans hb1 hP1.2) hb2
  clear hP1 hb1 hb2
  have hP2 := put_new w2 24 (nums 0) (nums 0)
  have hA2 := hA.after hP2.2
  have cA := nums_at hA2 7 (by decide)
  rw [f5] at cA
  go_wp2_with (first
    | refine wpList_store_row rfl 24 _ _ rfl w2.heap.size _ rfl rfl 24 (nums 0) (Has.new' rfl) (infoNum _) (by simp only [nums_size]) (tab_oneCell _ _ fun _ => rfl) ?_
    | refine wpList_load_has 24 _ rfl w2.heap.size rfl rfl 24 _ hP2.1 _ Try.underlying24 rfl (infoNum _) ?_)
  refine (c3 _).mono ?_
  rintro e w3 ⟨rfl, hb3⟩
  have hA3 := hA2.after hb3
  have hC3 := hP2.1.after hb3
  have hB3 := below_trans (below_trans hB hP2.2) hb3
  clear hA hA2 cA hP2 hB hb3
  go_wp2_with (first
    | refine wpList_load_has 24 _ rfl _ rfl rfl 24 _ hA3 _ Try.underlying24 rfl (infoNum _) ?_
    | refine wpList_load_has 24 _ rfl _ rfl rfl 24 _ hC3 _ Try.underlying24 rfl (infoNum _) ?_)
  refine (c4 _).mono ?_
  rintro e w4 ⟨rfl, hb4⟩
  have hA4 := hA3.after hb4
  have hB4 := below_trans hB3 hb4
  clear hA3 hC3 hB3 hb4
  go_wp2_with (refine wpList_load_has 24 _ rfl _ rfl rfl 24 _ hA4 _ Try.underlying24 rfl (infoNum _) ?_)
  refine (c5 _).mono ?_
  rintro e w5 ⟨rfl, hb5⟩
  have hB5 := below_trans hB4 hb5
  clear hA4 hB4 hb5
  go_wp2_with fail
  go_ret
  exact ⟨rfl, hB5⟩
end Go.Proofs.Ytncjlglpocfeaaa
