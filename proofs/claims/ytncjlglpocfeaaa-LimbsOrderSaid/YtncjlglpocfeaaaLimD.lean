/-
limbs.Bytes and limbs.Read.
-/
import Derived.Test.YtncjlglpocfeaaaLimC
namespace Go.Proofs.Ytncjlglpocfeaaa
open Go.RowKit

/-- byte j of x, the highest first -/
def byB (x j : Nat) : Nat := dg 256 x (31 - j)
theorem byB_lt (x j : Nat) : byB x j < 256 := dg_lt (by decide) _ _
def bytV (x j : Nat) : Value := .int .u8 ((byB x j : Nat) : Int)
theorem zero32 : (#[Value.int IntKind.u8 0, Value.int IntKind.u8 0, Value.int IntKind.u8 0, Value.int IntKind.u8 0, Value.int IntKind.u8 0, Value.int IntKind.u8 0, Value.int IntKind.u8 0, Value.int IntKind.u8 0, Value.int IntKind.u8 0, Value.int IntKind.u8 0, Value.int IntKind.u8 0, Value.int IntKind.u8 0, Value.int IntKind.u8 0, Value.int IntKind.u8 0, Value.int IntKind.u8 0, Value.int IntKind.u8 0, Value.int IntKind.u8 0, Value.int IntKind.u8 0, Value.int IntKind.u8 0, Value.int IntKind.u8 0, Value.int IntKind.u8 0, Value.int IntKind.u8 0, Value.int IntKind.u8 0, Value.int IntKind.u8 0, Value.int IntKind.u8 0, Value.int IntKind.u8 0, Value.int IntKind.u8 0, Value.int IntKind.u8 0, Value.int IntKind.u8 0, Value.int IntKind.u8 0, Value.int IntKind.u8 0, Value.int IntKind.u8 0] : Array Value) = tab 32 fun _ => .int .u8 0 := by kernel_rfl
def partB (x k j : Nat) : Value := if j < k then bytV x j else .int .u8 0
theorem partB_zero (x : Nat) : tab 32 (partB x 0) = tab 32 fun _ => .int .u8 0 := tab_ext _ _ _ fun j _ => by simp [partB]
theorem partB_end (x : Nat) : tab 32 (partB x 32) = tab 32 (bytV x) := tab_ext _ _ _ fun j hj => by simp [partB, hj]
theorem partB_set (x k : Nat) : (tab 32 (partB x k)).setIfInBounds k (.int .u8 ((byB x k : Nat) : Int)) = tab 32 (partB x (k + 1)) := by
  rw [tab_set]
  apply tab_ext
  intro j _
  by_cases h : j = k
  · subst h; simp [partB, bytV]
  · simp only [partB, if_neg h]
    by_cases h2 : j < k
    · rw [if_pos h2, if_pos (by omega)]
    · rw [if_neg h2, if_neg (by omega)]
theorem byte_nat (x k : Nat) (hk : k < 32) : wrd x ((31 - k) / 4) / 2 ^ ((31 - k) % 4 * 8) % 256 = byB x k := by
  have h := dg_dg (b := 256) (m := 4) (x := x) (q := (31 - k) / 4) (r := (31 - k) % 4) (by omega)
  have e : 4 * ((31 - k) / 4) + (31 - k) % 4 = 31 - k := by omega
  rw [e] at h
  unfold byB
  have e2 : 2 ^ ((31 - k) % 4 * 8) = 256 ^ ((31 - k) % 4) := by rw [Nat.mul_comm, Nat.pow_mul]
  rw [← h, e2]
  rfl
theorem byte_walk (x k : Nat) (hk : k < 32) : ((wrd x ((31 - k) / 4) : Nat) : Int) / 2 ^ ((31 - k) % 4 * 8) % 256 = ((byB x k : Nat) : Int) := by
  rw [← byte_nat x k hk]
  simp [Int.natCast_ediv, Int.natCast_pow, Int.natCast_emod]
def plW (k : Nat) : Nat := (31 - k) / 4
def plS (k : Nat) : Nat := (31 - k) % 4 * 8
set_option maxHeartbeats 400000 in
theorem place_any (k : Nat) (w : World) (hk : k < 32) :
    Calls Try.prog 23 #[.int .i64 (k : Int)] w fun e w' => e = .returned (.tuple #[.int .i64 ((plW k : Nat) : Int), .int .i64 ((plS k : Nat) : Int)]) ∧ w = w' := by
  have hk' : (k : Int) < 32 := by omega
  go_enter Try.func23, Try.ntmps23
  go_wp2
  go_ret2
  refine ⟨?_, rfl⟩
  congr 3 <;> simp [plW, plS] <;> omega
theorem plW_lt (k : Nat) : plW k < 8 := by unfold plW; omega
theorem plS_lt (k : Nat) : plS k < 32 := by unfold plS; omega

attribute [local go_sem] zeroNum zero32
set_option maxRecDepth 100000 in
set_option maxHeartbeats 1000000 in
theorem bytes_any (a : Nat) (w : World) :
    Calls Try.prog 17 #[.agg (nums a)] w fun e w' => e = .returned (.agg (tab 32 (bytV a))) ∧ Below w.heap.size w w' := by
  go_enter Try.func17, Try.ntmps17
  go_wp2_with fail
  go_loopw [4, 5, 6, 7] (fun _ _ _ ct wr => ∃ k : Nat, k ≤ 32 ∧ ct = .int .i64 k ∧ Has wr w.heap.size 24 (nums a) ∧ Has wr (w.heap.size + 1) 39 (tab 32 fun _ => .int .u8 0) ∧
      Has wr (w.heap.size + 1 + 1) 39 (tab 32 (partB a k)) ∧ Below w.heap.size w wr) (fun _ _ _ ct _ => 32 - (intOf ct).toNat)
  case atStart =>
    exact ⟨0, by omega, rfl, ((Has.new w _ _).alloc _).alloc _, (Has.new' (by simp)).alloc _, by rw [partB_zero]; exact Has.new' (by simp),
      (((Below.refl _ _).alloc (Nat.le_refl _) _).alloc (by simp) _).alloc (by simp; omega) _⟩
  case round =>
    obtain ⟨k, hk, rfl, h0, h1, h2, hb⟩ := hrel
    by_cases hlt : k < 32
    · have c0 := nums_at h0 (plW k) (plW_lt k)
      have dW : ((plW k : Nat) : Int) < 8 := by have := plW_lt k; omega
      have c2 := h2.cellTab k hlt
      have f2 := h2.free k
      have hmin : min (plS k) 32 = plS k := Nat.min_eq_left (by have := plS_lt k; omega)
      have hbw : ((wrd a (plW k) : Nat) : Int) / 2 ^ (plS k) % 256 = ((byB a k : Nat) : Int) := byte_walk a k hlt
      go_wp2_with (go_at_call 23; refine (place_any _ _ hlt).mono ?_; rintro e w' ⟨rfl, rfl⟩)
      go_roundw
      case rel => exact ⟨k + 1, by omega, by go_num, h0.far (by simp <;> omega) _, h1.far (by simp <;> omega) _, by rw [← partB_set]; exact h2.set k _, hb.setCell (by simp <;> omega) _⟩
      case measure => simp [intOf]; omega
    · have e32 : k = 32 := by omega
      have h2' : Has wr (w.heap.size + 1 + 1) 39 (tab 32 (bytV a)) := by rw [e32, partB_end] at h2; exact h2
      have hz : (Try.prog.info? 39).map (·.size) = some (tab 32 (bytV a)).size := by rw [tab_size]; kernel_rfl
      have dk : ¬ (k : Int) < 32 := by omega
      clear e32 hk h0 h2
      go_wp2_with (first | refine wpList_load_row rfl 39 _ rfl (w.heap.size + 1 + 1) rfl 39 _ _ _ h2' Try.underlying39 rfl hz ?_ | refine wpList_store_row rfl 39 _ _ rfl (w.heap.size + 1) _ rfl rfl 39 _ h1 hz (by rw [tab_size, tab_size]) (tab_oneCell _ _ fun _ => rfl) ?_)
      exact bodyPost_ret (v := .agg (tab 32 (bytV a))) (results_cell_row rfl _ _ (w.heap.size + 1) 39 _ _ _ rfl (h1.setRow _) Try.underlying39 rfl hz) rfl ⟨rfl, below_setRow hb (by omega) _⟩

/-- n bytes, or none -/
def SlN (w : World) (A : Option Addr) (n : Nat) (f : Nat → Nat) : Prop := 0 < n → ∃ b o, A = some ⟨b, o, none⟩ ∧ b < w.heap.size ∧ ∀ j, j < n → w.cell? ⟨b, o + j, none⟩ = some (.int .u8 ((f j : Nat) : Int))
theorem SlN.below {w w' : World} {A : Option Addr} {n : Nat} {f : Nat → Nat} (h : SlN w A n f) (k : Below w.heap.size w w') : SlN w' A n f := fun hn => by
  obtain ⟨b, o, rfl, hlt, hc⟩ := h hn
  exact ⟨b, o, rfl, Nat.lt_of_lt_of_le hlt k.size, fun j hj => (World.cell?_of_block (k.block b hlt)).trans (hc j hj)⟩

/-- what has been read after k bytes -/
def upto (y k : Nat) : Nat := y / 256 ^ (32 - k) * 256 ^ (32 - k)
theorem upto_zero {y : Nat} (h : y < big) : upto y 0 = 0 := by
  unfold upto
  rw [Nat.div_eq_of_lt (by exact h), Nat.zero_mul]
theorem upto_end (y : Nat) : upto y 32 = y := by simp [upto]
theorem upto_step (y k : Nat) (hk : k < 32) : upto y (k + 1) = upto y k + byB y k * 256 ^ (31 - k) := by
  unfold upto byB
  have e1 : 32 - (k + 1) = 31 - k := by omega
  have e2 : 32 - k = 31 - k + 1 := by omega
  rw [e1, e2, cut_step]
theorem read_other (y k j : Nat) (hk : k < 32) (hj : j ≠ plW k) : wrd (upto y (k + 1)) j = wrd (upto y k) j := by
  refine digits_inj (B := 256) (n := 4) (wrd_lt _ _) (wrd_lt _ _) fun r hr => ?_
  show dg 256 (dg (256 ^ 4) _ _) _ = dg 256 (dg (256 ^ 4) _ _) _
  rw [dg_dg hr, dg_dg hr]
  unfold upto
  rw [dg_cut (by decide), dg_cut (by decide)]
  have hne : 4 * j + r ≠ 31 - k := fun e => hj (by unfold plW; omega)
  by_cases h : 32 - k ≤ 4 * j + r
  · rw [if_pos h, if_pos (by omega)]
  · rw [if_neg h, if_neg (by omega)]
theorem read_here (y k : Nat) (hk : k < 32) : wrd (upto y k) (plW k) ||| byB y k * 2 ^ plS k = wrd (upto y (k + 1)) (plW k) ∧ byB y k * 2 ^ plS k < 4294967296 := by
  obtain ⟨q, hq⟩ : ∃ q, q = (31 - k) / 4 := ⟨_, rfl⟩
  obtain ⟨r, hr⟩ : ∃ r, r = (31 - k) % 4 := ⟨_, rfl⟩
  have hr4 : r < 4 := by omega
  have e31 : 31 - k = 4 * q + r := by omega
  have e32 : 32 - k = 4 * q + r + 1 := by omega
  have hd := byB_lt y k
  have eS : 2 ^ plS k = 256 ^ r := by unfold plS; rw [← hr, Nat.mul_comm, Nat.pow_mul]
  have eW : plW k = q := by unfold plW; rw [hq]
  rw [eS, eW]
  have hpr : 0 < 256 ^ r := Nat.pow_pos (by decide)
  have hlt : byB y k * 256 ^ r < 256 ^ (r + 1) := by rw [Nat.pow_succ, Nat.mul_comm (256 ^ r)]; exact Nat.mul_lt_mul_of_pos_right hd hpr
  have h4 : (4294967296 : Nat) = 256 ^ (r + 1) * 256 ^ (3 - r) := by rw [← Nat.pow_add, show r + 1 + (3 - r) = 4 by omega]
  -- the word so far is a multiple of 256 ^ (r + 1)
  obtain ⟨m, hm⟩ : ∃ m, wrd (upto y k) q = 256 ^ (r + 1) * m := by
    unfold upto wrd dg
    rw [e32, h4]
    have e : y / 256 ^ (4 * q + r + 1) * 256 ^ (4 * q + r + 1) = (y / 256 ^ (4 * q + r + 1) * 256 ^ (r + 1)) * 256 ^ (4 * q) := by rw [Nat.mul_assoc, ← Nat.pow_add]; congr 2; omega
    have eq : (256 ^ (r + 1) * 256 ^ (3 - r)) ^ q = 256 ^ (4 * q) := by rw [← h4, show (4294967296 : Nat) = 256 ^ 4 from rfl, ← Nat.pow_mul]
    rw [eq, e, Nat.mul_div_cancel _ (Nat.pow_pos (by decide)), Nat.mul_comm, Nat.mul_mod_mul_left]
    exact ⟨_, rfl⟩
  have hw := wrd_lt (upto y k) q
  rw [hm] at hw ⊢
  have hp1 : 0 < 256 ^ (r + 1) := Nat.pow_pos (by decide)
  have hm2 : m < 256 ^ (3 - r) := by rw [h4] at hw; exact Nat.lt_of_mul_lt_mul_left hw
  have hsum : 256 ^ (r + 1) * m + byB y k * 256 ^ r < 4294967296 := by
    have : 256 ^ (r + 1) * (m + 1) ≤ 256 ^ (r + 1) * 256 ^ (3 - r) := Nat.mul_le_mul_left _ hm2
    rw [← h4, Nat.mul_add] at this
    omega
  have hor : 256 ^ (r + 1) * m ||| byB y k * 256 ^ r = 256 ^ (r + 1) * m + byB y k * 256 ^ r := by
    have e2 : 256 ^ (r + 1) = 2 ^ (8 * (r + 1)) := by rw [Nat.pow_mul]
    rw [e2] at hlt ⊢
    exact (Nat.two_pow_add_eq_or_of_lt hlt m).symm
  refine ⟨?_, by omega⟩
  rw [hor, upto_step y k hk, e31]
  have hW : (4294967296 : Nat) ^ q = 256 ^ (4 * q) := by rw [show (4294967296 : Nat) = 256 ^ 4 from rfl, ← Nat.pow_mul]
  unfold wrd dg at hm ⊢
  rw [hW] at hm ⊢
  have e3 : byB y k * 256 ^ (4 * q + r) = byB y k * 256 ^ r * 256 ^ (4 * q) := by rw [Nat.pow_add, Nat.mul_assoc, Nat.mul_comm (256 ^ r)]
  rw [e3, Nat.add_mul_div_right _ _ (Nat.pow_pos (by decide)), Nat.add_mod, hm, Nat.mod_eq_of_lt (show byB y k * 256 ^ r < 4294967296 by omega), Nat.mod_eq_of_lt hsum]
theorem read_set (y k : Nat) (hk : k < 32) : (nums (upto y k)).setIfInBounds (plW k) (.int .u32 ((wrd (upto y (k + 1)) (plW k) : Nat) : Int)) = nums (upto y (k + 1)) := by
  unfold nums
  rw [tab_set]
  apply tab_ext
  intro j hj
  by_cases h : j = plW k
  · rw [if_pos h, h]; rfl
  · rw [if_neg h]
    unfold dgs
    have := read_other y k j hk h
    unfold wrd at this
    rw [this]
theorem read_walk (y k : Nat) (hk : k < 32) : bits BinOp.or IntKind.u32 ((wrd (upto y k) (plW k) : Nat) : Int) (((byB y k : Nat) : Int) * 2 ^ plS k % 4294967296) = ((wrd (upto y (k + 1)) (plW k) : Nat) : Int) := by
  obtain ⟨h1, h2⟩ := read_here y k hk
  have e : ((byB y k : Nat) : Int) * 2 ^ plS k % 4294967296 = ((byB y k * 2 ^ plS k : Nat) : Int) := by
    have e1 : ((byB y k : Nat) : Int) * 2 ^ plS k = ((byB y k * 2 ^ plS k : Nat) : Int) := by simp [Int.natCast_mul, Int.natCast_pow]
    rw [e1]; omega
  rw [e, u32_or_nat _ _ (wrd_lt _ _) h2, h1]

set_option maxRecDepth 100000 in
set_option maxHeartbeats 1000000 in
theorem read_short (A : Option Addr) (n c : Nat) (w : World) (hn : n ≠ 32) :
    Calls Try.prog 18 #[.slice A n c] w fun e w' => e = .returned (.tuple #[.agg (nums 0), .int .i64 2]) ∧ Below w.heap.size w w' := by
  have hd : ((n : Int) == 32) = false := beq_eq_false_iff_ne.2 (by omega)
  have h0 : Has ((w.alloc (.cells (nums 0) 24)).alloc (.cells (nums 0) 24)) w.heap.size 24 (nums 0) := (Has.new w _ _).alloc _
  have h1 : Has ((w.alloc (.cells (nums 0) 24)).alloc (.cells (nums 0) 24)) (w.heap.size + 1) 24 (nums 0) := Has.new' (by simp)
  have hb : Below w.heap.size w ((w.alloc (.cells (nums 0) 24)).alloc (.cells (nums 0) 24)) := ((Below.refl _ _).alloc (Nat.le_refl _) _).alloc (by simp) _
  clear hn
  go_enter Try.func18, Try.ntmps18
  go_wp2_with (first | refine wpList_load_row rfl 24 _ rfl (w.heap.size + 1) rfl 24 _ _ _ h1 Try.underlying24 rfl (infoNum _) ?_ | refine wpList_store_row rfl 24 _ _ rfl w.heap.size _ rfl rfl 24 _ h0 (infoNum _) (by rw [nums_size]) (tab_oneCell _ _ fun _ => rfl) ?_)
  exact bodyPost_ret (results_row_tmp rfl _ _ w.heap.size 24 _ _ _ rfl rfl (h0.setRow _) Try.underlying24 rfl (infoNum _)) rfl ⟨rfl, below_setRow hb (Nat.le_refl _) _⟩
set_option maxRecDepth 100000 in
set_option maxHeartbeats 1000000 in
theorem read_any (y : Nat) (b o c : Nat) (w : World) (hy : y < big) (hlb : b < w.heap.size) (hc : ∀ j, j < 32 → w.cell? ⟨b, o + j, none⟩ = some (.int .u8 ((byB y j : Nat) : Int))) :
    Calls Try.prog 18 #[.slice (some ⟨b, o, none⟩) 32 c] w fun e w' => e = .returned (.tuple #[.agg (nums y), .int .i64 0]) ∧ Below w.heap.size w w' := by
  have h0 : Has ((w.alloc (.cells (nums 0) 24)).alloc (.cells (nums 0) 24)) w.heap.size 24 (nums 0) := (Has.new w _ _).alloc _
  have h1 : Has ((w.alloc (.cells (nums 0) 24)).alloc (.cells (nums 0) 24)) (w.heap.size + 1) 24 (nums 0) := Has.new' (by simp)
  have hb : Below w.heap.size w ((w.alloc (.cells (nums 0) 24)).alloc (.cells (nums 0) 24)) := ((Below.refl _ _).alloc (Nat.le_refl _) _).alloc (by simp) _
  have hu := upto_zero hy
  clear hy
  go_enter Try.func18, Try.ntmps18
  go_wp2_with fail
  go_loopw [5, 6, 7, 8, 15] (fun _ _ _ _ ct wr => ∃ k : Nat, k ≤ 32 ∧ ct = .int .i64 k ∧ Has wr w.heap.size 24 (nums 0) ∧ Has wr (w.heap.size + 1) 24 (nums (upto y k)) ∧ Below w.heap.size w wr) (fun _ _ _ _ ct _ => 32 - (intOf ct).toNat)
  case atStart => exact ⟨0, by omega, rfl, h0, by rw [hu]; exact h1, hb⟩
  case round =>
    clear h0 h1 hb hu
    obtain ⟨k, hk, rfl, h0, h1, hb⟩ := hrel
    by_cases hlt : k < 32
    · have dk : (k : Int) < 32 := by omega
      have cb : wr.cell? ⟨b, o + k, none⟩ = some (.int .u8 ((byB y k : Nat) : Int)) := (World.cell?_of_block (hb.block b hlb)).trans (hc k hlt)
      have c1 := nums_at h1 (plW k) (plW_lt k)
      have f1 := h1.free (plW k)
      have dW : ((plW k : Nat) : Int) < 8 := by have := plW_lt k; omega
      have dS : ((plS k : Nat) : Int) < 32 := by have := plS_lt k; omega
      have hb256 : ((byB y k : Nat) : Int) < 256 := by have := byB_lt y k; omega
      have hrw := read_walk y k hlt
      go_wp2_with (go_at_call 23; refine (place_any _ _ hlt).mono ?_; rintro e w' ⟨rfl, rfl⟩)
      go_region
      all_goals
        go_wp2_with fail
        go_roundw
      all_goals first
        | (refine ⟨k + 1, by omega, by go_num, h0.drew.far (by simp <;> omega) _, ?_, (below_drewN hb 1).setCell (by simp <;> omega) _⟩
           rw [← read_set y k hlt]
           exact h1.drew.set (plW k) _)
        | (simp [intOf]; omega)
    · have e32 : k = 32 := by omega
      have h1' : Has wr (w.heap.size + 1) 24 (nums y) := by rw [e32, upto_end] at h1; exact h1
      have dk : ¬ (k : Int) < 32 := by omega
      clear e32 hk h1 hc
      go_wp2_with (first | refine wpList_load_row rfl 24 _ rfl (w.heap.size + 1) rfl 24 _ _ _ h1' Try.underlying24 rfl (infoNum _) ?_ | refine wpList_store_row rfl 24 _ _ rfl w.heap.size _ rfl rfl 24 _ h0 (infoNum _) (by rw [nums_size, nums_size]) (tab_oneCell _ _ fun _ => rfl) ?_)
      exact bodyPost_ret (results_row_tmp rfl _ _ w.heap.size 24 _ _ _ rfl rfl (h0.setRow _) Try.underlying24 rfl (infoNum _)) rfl ⟨rfl, below_setRow hb (Nat.le_refl _) _⟩
end Go.Proofs.Ytncjlglpocfeaaa
