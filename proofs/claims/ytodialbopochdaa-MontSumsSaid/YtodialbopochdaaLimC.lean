/-
limbs.Zero, limbs.Compare, limbs.Bit.
-/
import Derived.Test.YtodialbopochdaaLimB
import Derived.Test.YtodialbopochdaaArrEq
namespace Go.Proofs.Ytodialbopochdaa
open Go.RowKit

theorem info32 : (Try.prog.info? 22).map (fun i => (i.zero, i.size, i.bytes)) = some (some (.int .u32 0), 1, 4) := by kernel_rfl
def sameN (x y : Nat) : Bool := decide (x = y)
theorem same_digits {B n x y : Nat} (hx : x < B ^ n) (hy : y < B ^ n) : sameTo (fun j => ((dg B x j : Nat) : Int)) (fun j => ((dg B y j : Nat) : Int)) n = sameN x y := by
  unfold sameN
  by_cases h : x = y
  · subst h; simp [sameTo_refl]
  · rw [decide_eq_false h, ← Bool.not_eq_true, sameTo_iff]
    exact fun hc => h (digits_inj hx hy fun j hj => by have := hc j hj; omega)
theorem eql_nums {x y : Nat} (hx : x < big) (hy : y < big) : ∀ W : World, (binOp .eql 24 (.agg (nums x)) (.agg (nums y))).run Try.prog W = .ok (.bool (sameN x y)) W := fun W => by
  obtain ⟨i, hi, _, hs, _⟩ := info_parts info32
  have h := run_eql_tab (P := Try.prog) W 24 22 8 .u32 .u32 i (fun j => ((dg 4294967296 x j : Nat) : Int)) (fun j => ((dg 4294967296 y j : Nat) : Int)) Try.underlying24 Try.underlying22 hi hs
  rw [same_digits hx hy] at h
  exact h

attribute [local go_sem] zeroNum
set_option maxRecDepth 100000 in
set_option maxHeartbeats 1000000 in
theorem zero_any (a : Nat) (w : World) (ha : a < big) :
    Calls Try.prog 31 #[.agg (nums a)] w fun e w' => e = .returned (.bool (sameN a 0)) ∧ Below w.heap.size w w' := by
  have he := eql_nums ha big_pos
  have h0 : Has (w.alloc (.cells (nums a) 24)) w.heap.size 24 (nums a) := Has.new w _ _
  clear ha
  go_enter Try.func31, Try.ntmps31
  go_wp2_with (refine wpList_load_row rfl 24 _ rfl w.heap.size rfl 24 _ _ _ h0 Try.underlying24 rfl (infoNum _) ?_)
  go_ret
  exact ⟨rfl, (Below.refl _ _).alloc (Nat.le_refl _) _⟩

/-- -1, 0, 1 -/
def cmpI (a b : Nat) : Int := if a = b then 0 else if a < b then -1 else 1
set_option maxRecDepth 100000 in
set_option maxHeartbeats 1000000 in
theorem compare_any (a b : Nat) (w : World) (ha : a < big) (hb : b < big) :
    Calls Try.prog 32 #[.agg (nums a), .agg (nums b)] w fun e w' => e = .returned (.int .i64 (cmpI a b)) ∧ Below w.heap.size w w' := by
  have he := eql_nums ha hb
  have hs := fun W => sub_any a b W ha hb
  clear ha hb
  have h0 : Has ((w.alloc (.cells (nums a) 24)).alloc (.cells (nums b) 24)) w.heap.size 24 (nums a) := (Has.new w _ _).alloc _
  have h1 : Has ((w.alloc (.cells (nums a) 24)).alloc (.cells (nums b) 24)) (w.heap.size + 1) 24 (nums b) := Has.new' (by simp)
  have hb0 : Below w.heap.size w ((w.alloc (.cells (nums a) 24)).alloc (.cells (nums b) 24)) := ((Below.refl _ _).alloc (Nat.le_refl _) _).alloc (by simp) _
  by_cases hab : a = b
  · have hsm : sameN a b = true := by simp [sameN, hab]
    have hc : cmpI a b = 0 := by simp [cmpI, hab]
    rw [hc]
    clear hc hs hab
    go_enter Try.func32, Try.ntmps32
    go_wp2_with (first | refine wpList_load_row rfl 24 _ rfl w.heap.size rfl 24 _ _ _ h0 Try.underlying24 rfl (infoNum _) ?_ | refine wpList_load_row rfl 24 _ rfl (w.heap.size + 1) rfl 24 _ _ _ h1 Try.underlying24 rfl (infoNum _) ?_)
    go_ret
    exact ⟨rfl, hb0⟩
  · have hsm : sameN a b = false := by simp [sameN, hab]
    have hcu : cmpI a b = if under a b = 1 then -1 else 1 := by unfold cmpI under; rw [if_neg hab]; split <;> simp
    rw [hcu]
    have hu : under a b = 0 ∨ under a b = 1 := by unfold under; split <;> simp
    clear hcu hab
    go_enter Try.func32, Try.ntmps32
    go_wp2_with (first | refine wpList_load_row rfl 24 _ rfl w.heap.size rfl 24 _ _ _ h0 Try.underlying24 rfl (infoNum _) ?_ | refine wpList_load_row rfl 24 _ rfl (w.heap.size + 1) rfl 24 _ _ _ h1 Try.underlying24 rfl (infoNum _) ?_)
    refine (hs _).mono ?_
    rintro e w1 ⟨rfl, hb1⟩
    have hB := hb0.trans (hb1.mono hb0.size)
    have hsz := hB.size
    clear hs he h0 h1 hb0 hb1
    rcases hu with hu | hu <;> rw [hu] <;>
    · go_wp2_with (refine wpList_store_row rfl 24 _ _ rfl w1.heap.size _ rfl rfl 24 (nums 0) (Has.new' rfl) (infoNum _) (by rw [nums_size, nums_size]) (tab_oneCell _ _ fun _ => rfl) ?_)
      go_ret
      exact ⟨rfl, below_setRow (hB.alloc hsz _) hsz _⟩

/-- bit i of x -/
def bitN (x i : Nat) : Nat := x / 2 ^ i % 2
theorem bit_walk (x i : Nat) : bits BinOp.and IntKind.u32 (((wrd x (i / 32) : Nat) : Int) / 2 ^ (i % 32)) 1 = ((bitN x i : Nat) : Int) := by
  have h1 : ((wrd x (i / 32) : Nat) : Int) / 2 ^ (i % 32) = ((wrd x (i / 32) / 2 ^ (i % 32) : Nat) : Int) := by simp [Int.natCast_ediv, Int.natCast_pow]
  have hlt : wrd x (i / 32) / 2 ^ (i % 32) < 4294967296 := Nat.lt_of_le_of_lt (Nat.div_le_self _ _) (wrd_lt _ _)
  have h2 : (1 : Int) = ((1 : Nat) : Int) := rfl
  rw [h1, h2, u32_and_nat _ _ hlt (by decide), Nat.and_one_is_mod]
  have h := dg_dg (b := 2) (m := 32) (x := x) (q := i / 32) (r := i % 32) (by omega)
  have e : 32 * (i / 32) + i % 32 = i := by omega
  rw [e] at h
  unfold bitN
  unfold dg at h
  unfold wrd dg
  rw [← h]
set_option maxRecDepth 100000 in
set_option maxHeartbeats 1000000 in
theorem bit_out (a : Nat) (i : Int) (w : World) (hi : i < 0 ∨ 256 ≤ i) :
    Calls Try.prog 33 #[.agg (nums a), .int .i64 i] w fun e w' => e = .returned (.int .u32 0) ∧ Below w.heap.size w w' := by
  by_cases h : i < 0
  · have hd : decide (i < 0) = true := by simp [h]
    go_enter Try.func33, Try.ntmps33
    go_wp2
    go_ret
    exact ⟨rfl, (Below.refl _ _).alloc (Nat.le_refl _) _⟩
  · have hd : decide (i < 0) = false := by simp; omega
    have hd2 : decide (256 ≤ i) = true := by simp; omega
    go_enter Try.func33, Try.ntmps33
    go_wp2
    go_ret
    exact ⟨rfl, (Below.refl _ _).alloc (Nat.le_refl _) _⟩
set_option maxRecDepth 100000 in
set_option maxHeartbeats 1000000 in
theorem bit_any (a i : Nat) (w : World) (hi : i < 256) :
    Calls Try.prog 33 #[.agg (nums a), .int .i64 (i : Int)] w fun e w' => e = .returned (.int .u32 ((bitN a i : Nat) : Int)) ∧ Below w.heap.size w w' := by
  have h0 : Has (w.alloc (.cells (nums a) 24)) w.heap.size 24 (nums a) := Has.new w _ _
  have c0 := nums_at h0 (i / 32) (by omega)
  have hd : decide ((i : Int) < 0) = false := by simp
  have hd2 : decide (256 ≤ (i : Int)) = false := by simp; omega
  have e1 : (i : Int).tdiv 32 = ((i / 32 : Nat) : Int) := by rw [Int.tdiv_eq_ediv_of_nonneg (by omega)]; omega
  have e2 : (i : Int).tmod 32 = ((i % 32 : Nat) : Int) := by rw [Int.tmod_eq_emod_of_nonneg (by omega)]; omega
  have hw := bit_walk a i
  go_enter Try.func33, Try.ntmps33
  go_wp2
  go_ret
  exact ⟨rfl, (Below.refl _ _).alloc (Nat.le_refl _) _⟩
end Go.Proofs.Ytodialbopochdaa
