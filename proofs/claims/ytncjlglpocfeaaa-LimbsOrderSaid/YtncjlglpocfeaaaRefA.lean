/-
The reference of layer 2: numbers as bits: what each function returns.
-/
import Derived.Test.YtncjlglpocfeaaaLimE
import Derived.Test.YtncjlglpocfeaaaFacts
import Derived.Deep.WholeRow
namespace Go.Proofs.Ytncjlglpocfeaaa
open Go.RowKit

/-- a number's bits -/
def bits2 (x : Nat) : Array Value := tab 256 fun j => .int .i64 ((bitN x j : Nat) : Int)
theorem bits2_size (x : Nat) : (bits2 x).size = 256 := tab_size _ _
theorem bits2_at {w : World} {g x : Nat} {t : TypeId} (h : Has w g t (bits2 x)) (j : Nat) (hj : j < 256) : w.cell? ⟨g, j, none⟩ = some (.int .i64 ((bitN x j : Nat) : Int)) := h.cellTab j hj
theorem bitN_lt (x j : Nat) : bitN x j < 2 := Nat.mod_lt _ (by decide)
theorem infoBz : (Try.prog.info? 27).map (fun i => (i.zero, i.size)) = some (some (.agg (bits2 0)), 256) := by kernel_rfl
theorem zeroBits (w : World) : (zeroValue 27).run Try.prog w = .ok (.agg (bits2 0)) w := (zero_of_info infoBz).1 w
theorem infoBits (x : Nat) : (Try.prog.info? 27).map (·.size) = some (bits2 x).size := by rw [bits2_size]; kernel_rfl
theorem bits2_set {x k : Nat} (h : k < 256) : (bits2 (x % 2 ^ k)).setIfInBounds k (.int .i64 ((bitN x k : Nat) : Int)) = bits2 (x % 2 ^ (k + 1)) := dgs_set (ik := .i64) (B := 2) (by decide) h
theorem bits2_end (x : Nat) : bits2 (x % 2 ^ 256) = bits2 x := dgs_mod (ik := .i64) (B := 2)
theorem bits2_start (x : Nat) : bits2 (x % 2 ^ 0) = bits2 0 := by rw [Nat.pow_zero, Nat.mod_one]
theorem bits2_ne (x : Nat) : ¬ bits2 x = #[] := fun h => by have := congrArg Array.size h; simp [bits2_size] at this
theorem i64_and_nat (a b : Nat) (ha : a < 9223372036854775808) (hb : b < 9223372036854775808) : bits .and .i64 (a : Int) (b : Int) = ((a &&& b : Nat) : Int) := by
  have hx : a &&& b < 2 ^ 63 := Nat.and_lt_two_pow _ (by omega)
  show IntKind.i64.wrap ((BitVec.ofInt 64 (a : Int) &&& BitVec.ofInt 64 (b : Int)).toNat : Int) = _
  rw [BitVec.toNat_and, ofInt_u64 a (by omega), ofInt_u64 b (by omega), IntWalk.i64_in _ (by omega)]
theorem bit_walk64 (x i : Nat) : bits BinOp.and IntKind.i64 (((wrd x (i / 32) : Nat) : Int) / 2 ^ (i % 32)) 1 = ((bitN x i : Nat) : Int) := by
  have h1 : ((wrd x (i / 32) : Nat) : Int) / 2 ^ (i % 32) = ((wrd x (i / 32) / 2 ^ (i % 32) : Nat) : Int) := by simp [Int.natCast_ediv, Int.natCast_pow]
  have hlt : wrd x (i / 32) / 2 ^ (i % 32) < 4294967296 := Nat.lt_of_le_of_lt (Nat.div_le_self _ _) (wrd_lt _ _)
  have h2 : (1 : Int) = ((1 : Nat) : Int) := rfl
  rw [h1, h2, i64_and_nat _ _ (by omega) (by decide), Nat.and_one_is_mod]
  have h := dg_dg (b := 2) (m := 32) (x := x) (q := i / 32) (r := i % 32) (by omega)
  have e : 32 * (i / 32) + i % 32 = i := by omega
  rw [e] at h
  unfold bitN
  unfold dg at h
  unfold wrd dg
  rw [← h]
theorem shr_lt (x i : Nat) : ((wrd x (i / 32) : Nat) : Int) / 2 ^ (i % 32) < 4294967296 ∧ 0 ≤ ((wrd x (i / 32) : Nat) : Int) / 2 ^ (i % 32) := by
  have h1 : ((wrd x (i / 32) : Nat) : Int) / 2 ^ (i % 32) = ((wrd x (i / 32) / 2 ^ (i % 32) : Nat) : Int) := by simp [Int.natCast_ediv, Int.natCast_pow]
  have hlt : wrd x (i / 32) / 2 ^ (i % 32) < 4294967296 := Nat.lt_of_le_of_lt (Nat.div_le_self _ _) (wrd_lt _ _)
  rw [h1]
  exact ⟨Int.ofNat_lt.2 hlt, Int.natCast_nonneg _⟩

attribute [local go_sem] zeroBits zeroNum
set_option maxRecDepth 100000 in
set_option maxHeartbeats 1000000 in
theorem of_any (x : Nat) (w : World) :
    Calls Try.prog 8 #[.agg (nums x)] w fun e w' => e = .returned (.agg (bits2 x)) ∧ Below w.heap.size w w' := by
  go_enter Try.func8, Try.ntmps8
  go_wp2_with fail
  go_loopw [4] (fun ct wr => ∃ k : Nat, k ≤ 256 ∧ ct = .int .i64 k ∧ Has wr w.heap.size 23 (nums x) ∧ Has wr (w.heap.size + 1) 27 (bits2 0) ∧
      Has wr (w.heap.size + 1 + 1) 27 (bits2 (x % 2 ^ k)) ∧ Below w.heap.size w wr) (fun ct _ => 256 - (intOf ct).toNat)
  case atStart =>
    exact ⟨0, by omega, rfl, ((Has.new w _ _).alloc _).alloc _, (Has.new' (by simp)).alloc _, by rw [bits2_start]; exact Has.new' (by simp),
      (((Below.refl _ _).alloc (Nat.le_refl _) _).alloc (by simp) _).alloc (by simp; omega) _⟩
  case round =>
    obtain ⟨k, hk, rfl, h0, h1, h2, hb⟩ := hrel
    by_cases hlt : k < 256
    · have c0 := nums_at h0 (k / 32) (by omega)
      have dk : (k : Int) < 256 := by omega
      have e1 : (k : Int).tdiv 32 = ((k / 32 : Nat) : Int) := by rw [Int.tdiv_eq_ediv_of_nonneg (by omega)]; omega
      have e2 : (k : Int).tmod 32 = ((k % 32 : Nat) : Int) := by rw [Int.tmod_eq_emod_of_nonneg (by omega)]; omega
      have hbw := bit_walk64 x k
      obtain ⟨hs1, hs2⟩ := shr_lt x k
      have c2 := h2.cellTab k hlt
      have f2 := h2.free k
      go_wp2_with fail
      go_roundw
      case rel => exact ⟨k + 1, by omega, by go_num, h0.far (by simp <;> omega) _, h1.far (by simp <;> omega) _, by rw [← bits2_set hlt]; exact h2.set k _, hb.setCell (by simp <;> omega) _⟩
      case measure => simp [intOf]; omega
    · have e256 : k = 256 := by omega
      have h2' : Has wr (w.heap.size + 1 + 1) 27 (bits2 x) := by rw [e256, bits2_end] at h2; exact h2
      have dk : ¬ (k : Int) < 256 := by omega
      clear e256 hk h0 h2
      go_wp2_with (first | refine wpList_load_row rfl 27 _ rfl (w.heap.size + 1 + 1) rfl 27 _ _ _ h2' Try.underlying27 rfl (infoBits _) ?_ | refine wpList_store_row rfl 27 _ _ rfl (w.heap.size + 1) _ rfl rfl 27 _ h1 (infoBits _) (by simp only [bits2_size]) (tab_oneCell _ _ fun _ => rfl) ?_)
      exact bodyPost_ret (v := .agg (bits2 x)) (results_cell_row rfl _ _ (w.heap.size + 1) 27 _ _ _ rfl (h1.setRow _) Try.underlying27 rfl (infoBits _)) rfl ⟨rfl, below_setRow hb (by omega) _⟩
end Go.Proofs.Ytncjlglpocfeaaa
