/-
The reference of layer 3: digits of 16 bits: in, back, the order, what is taken away.
-/
import Derived.Test.YtodialbopochdaaTriM
import Derived.Test.YtodialbopochdaaNum
import Derived.Test.YtodialbopochdaaGen
import Derived.Deep.WholeRow
import Derived.Deep.RegionWith
import Derived.Deep.MidRow
namespace Go.Proofs.Ytodialbopochdaa
open Go.RowKit

/-- digit j of 16 bits -/
def hxd (x j : Nat) : Nat := dg 65536 x j
theorem hxd_lt (x j : Nat) : hxd x j < 65536 := dg_lt (by decide) x j
def d16 (x : Nat) : Array Value := tab 16 (dgs .u64 65536 x)
def d17 (x : Nat) : Array Value := tab 17 (dgs .u64 65536 x)
theorem d16_size (x : Nat) : (d16 x).size = 16 := tab_size _ _
theorem d17_size (x : Nat) : (d17 x).size = 17 := tab_size _ _
theorem d16_at {w : World} {g x : Nat} {t : TypeId} (h : Has w g t (d16 x)) (j : Nat) (hj : j < 16) : w.cell? ⟨g, j, none⟩ = some (.int .u64 ((hxd x j : Nat) : Int)) := h.cellTab j hj
theorem d17_at {w : World} {g x : Nat} {t : TypeId} (h : Has w g t (d17 x)) (j : Nat) (hj : j < 17) : w.cell? ⟨g, j, none⟩ = some (.int .u64 ((hxd x j : Nat) : Int)) := h.cellTab j hj
theorem info16 (x : Nat) : (Try.prog.info? 34).map (·.size) = some (d16 x).size := by rw [d16_size]; kernel_rfl
theorem info17 (x : Nat) : (Try.prog.info? 57).map (·.size) = some (d17 x).size := by rw [d17_size]; kernel_rfl
theorem zero16 : (#[Value.int IntKind.u64 0, Value.int IntKind.u64 0, Value.int IntKind.u64 0, Value.int IntKind.u64 0, Value.int IntKind.u64 0, Value.int IntKind.u64 0, Value.int IntKind.u64 0, Value.int IntKind.u64 0, Value.int IntKind.u64 0, Value.int IntKind.u64 0, Value.int IntKind.u64 0, Value.int IntKind.u64 0, Value.int IntKind.u64 0, Value.int IntKind.u64 0, Value.int IntKind.u64 0, Value.int IntKind.u64 0] : Array Value) = d16 0 := by kernel_rfl
theorem zero17 : (#[Value.int IntKind.u64 0, Value.int IntKind.u64 0, Value.int IntKind.u64 0, Value.int IntKind.u64 0, Value.int IntKind.u64 0, Value.int IntKind.u64 0, Value.int IntKind.u64 0, Value.int IntKind.u64 0, Value.int IntKind.u64 0, Value.int IntKind.u64 0, Value.int IntKind.u64 0, Value.int IntKind.u64 0, Value.int IntKind.u64 0, Value.int IntKind.u64 0, Value.int IntKind.u64 0, Value.int IntKind.u64 0, Value.int IntKind.u64 0] : Array Value) = d17 0 := by kernel_rfl
theorem d16_set {x k : Nat} (h : k < 16) : (d16 (x % 65536 ^ k)).setIfInBounds k (.int .u64 ((hxd x k : Nat) : Int)) = d16 (x % 65536 ^ (k + 1)) := dgs_set (by decide) h
theorem d17_set {x k : Nat} (h : k < 17) : (d17 (x % 65536 ^ k)).setIfInBounds k (.int .u64 ((hxd x k : Nat) : Int)) = d17 (x % 65536 ^ (k + 1)) := dgs_set (by decide) h
theorem d16_end (x : Nat) : d16 (x % 65536 ^ 16) = d16 x := dgs_mod
theorem d17_end (x : Nat) : d17 (x % 65536 ^ 17) = d17 x := dgs_mod
theorem big_hex : big = 65536 ^ 16 := by decide +kernel
theorem word_hex (x k : Nat) : wrd x (k / 2) / 65536 ^ (k % 2) % 65536 = hxd x k := by
  have h := dg_dg (b := 65536) (m := 2) (x := x) (q := k / 2) (r := k % 2) (by omega)
  rw [Nat.div_add_mod] at h
  unfold hxd
  rw [← h]
  rfl
theorem hex_word (x k : Nat) : (wrd (x % 65536 ^ k) (k / 2) + hxd x k * 65536 ^ (k % 2) % 4294967296) % 4294967296 = wrd (x % 65536 ^ (k + 1)) (k / 2) := acc_here (b := 65536) (m := 2) (by decide) x k
theorem nums_hex (x k : Nat) : (nums (x % 65536 ^ k)).setIfInBounds (k / 2) (.int .u32 ((wrd (x % 65536 ^ (k + 1)) (k / 2) : Nat) : Int)) = nums (x % 65536 ^ (k + 1)) := by
  unfold nums
  rw [tab_set]
  apply tab_ext
  intro j _
  by_cases h : j = k / 2
  · rw [if_pos h, h]; rfl
  · rw [if_neg h]
    unfold dgs
    have : dg 4294967296 (x % 65536 ^ (k + 1)) j = dg 4294967296 (x % 65536 ^ k) j := acc_other (b := 65536) (m := 2) (by decide) (by decide) x k j h
    rw [this]

attribute [local go_sem] zeroNum zero16 zero17
set_option maxRecDepth 100000 in
set_option maxHeartbeats 1000000 in
theorem of3_any (x : Nat) (w : World) :
    Calls Try.prog 12 #[.agg (nums x)] w fun e w' => e = .returned (.agg (d16 x)) ∧ Below w.heap.size w w' := by
  go_enter Try.func12, Try.ntmps12
  go_wp2_with fail
  go_loopw [4] (fun ct wr => ∃ k : Nat, k ≤ 16 ∧ ct = .int .i64 k ∧ Has wr w.heap.size 23 (nums x) ∧ Has wr (w.heap.size + 1) 34 (d16 0) ∧
      Has wr (w.heap.size + 1 + 1) 34 (d16 (x % 65536 ^ k)) ∧ Below w.heap.size w wr) (fun ct _ => 16 - (intOf ct).toNat)
  case atStart =>
    exact ⟨0, by omega, rfl, ((Has.new w _ _).alloc _).alloc _, (Has.new' (by simp)).alloc _, by rw [Nat.pow_zero, Nat.mod_one]; exact Has.new' (by simp),
      (((Below.refl _ _).alloc (Nat.le_refl _) _).alloc (by simp) _).alloc (by simp <;> omega) _⟩
  case round =>
    obtain ⟨k, hk, rfl, h0, h1, h2, hb⟩ := hrel
    by_cases hlt : k < 16
    · have c0 := nums_at h0 (k / 2) (by omega)
      have dk : (k : Int) < 16 := by omega
      have e1 : (k : Int).tdiv 2 = ((k / 2 : Nat) : Int) := by rw [Int.tdiv_eq_ediv_of_nonneg (by omega)]; omega
      have hw := word_hex x k
      have hl : ((wrd x (k / 2) : Nat) : Int) < 4294967296 := by have := wrd_lt x (k / 2); omega
      have c2 := h2.cellTab k hlt
      have f2 := h2.free k
      rcases (show k % 2 = 0 ∨ k % 2 = 1 by omega) with hr | hr
      · have e2 : (k : Int).tmod 2 = 0 := by rw [Int.tmod_eq_emod_of_nonneg (by omega)]; omega
        rw [hr] at hw
        have hw2 : ((wrd x (k / 2) : Nat) : Int) % 65536 = ((hxd x k : Nat) : Int) := by rw [← hw]; omega
        go_wp2_with fail
        go_roundw
        case rel => exact ⟨k + 1, by omega, by go_num, h0.far (by simp <;> omega) _, h1.far (by simp <;> omega) _, by rw [← d16_set hlt]; exact h2.set k _, hb.setCell (by simp <;> omega) _⟩
        case measure => simp [intOf]; omega
      · have e2 : (k : Int).tmod 2 = 1 := by rw [Int.tmod_eq_emod_of_nonneg (by omega)]; omega
        rw [hr] at hw
        have hw2 : ((wrd x (k / 2) : Nat) : Int) / 65536 % 65536 = ((hxd x k : Nat) : Int) := by rw [← hw]; omega
        go_wp2_with fail
        go_roundw
        case rel => exact ⟨k + 1, by omega, by go_num, h0.far (by simp <;> omega) _, h1.far (by simp <;> omega) _, by rw [← d16_set hlt]; exact h2.set k _, hb.setCell (by simp <;> omega) _⟩
        case measure => simp [intOf]; omega
    · have e256 : k = 16 := by omega
      have h2' : Has wr (w.heap.size + 1 + 1) 34 (d16 x) := by rw [e256, d16_end] at h2; exact h2
      have dk : ¬ (k : Int) < 16 := by omega
      clear e256 hk h0 h2
      go_wp2_with (first | refine wpList_load_row rfl 34 _ rfl (w.heap.size + 1 + 1) rfl 34 _ _ _ h2' Try.underlying34 rfl (info16 _) ?_ | refine wpList_store_row rfl 34 _ _ rfl (w.heap.size + 1) _ rfl rfl 34 _ h1 (info16 _) (by simp only [d16_size]) (tab_oneCell _ _ fun _ => rfl) ?_)
      exact bodyPost_ret (v := .agg (d16 x)) (results_cell_row rfl _ _ (w.heap.size + 1) 34 _ _ _ rfl (h1.setRow _) Try.underlying34 rfl (info16 _)) rfl ⟨rfl, below_setRow hb (by omega) _⟩

set_option maxRecDepth 100000 in
set_option maxHeartbeats 1000000 in
theorem words3_any (x : Nat) (w : World) (hx : x < big) :
    Calls Try.prog 14 #[.agg (d16 x)] w fun e w' => e = .returned (.agg (nums x)) ∧ Below w.heap.size w w' := by
  have HX := Lib.hid hx
  clear hx
  go_enter Try.func14, Try.ntmps14
  go_wp2_with fail
  go_loopw [4] (fun ct wr => ∃ k : Nat, k ≤ 16 ∧ ct = .int .i64 k ∧ Has wr w.heap.size 34 (d16 x) ∧ Has wr (w.heap.size + 1) 23 (nums 0) ∧
      Has wr (w.heap.size + 1 + 1) 23 (nums (x % 65536 ^ k)) ∧ Below w.heap.size w wr) (fun ct _ => 16 - (intOf ct).toNat)
  case atStart =>
    exact ⟨0, by omega, rfl, ((Has.new w _ _).alloc _).alloc _, (Has.new' (by simp)).alloc _, by rw [Nat.pow_zero, Nat.mod_one]; exact Has.new' (by simp),
      (((Below.refl _ _).alloc (Nat.le_refl _) _).alloc (by simp) _).alloc (by simp <;> omega) _⟩
  case round =>
    obtain ⟨k, hk, rfl, h0, h1, h2, hb⟩ := hrel
    by_cases hlt : k < 16
    · have c0 := d16_at h0 k hlt
      have dk : (k : Int) < 16 := by omega
      have e1 : (k : Int).tdiv 2 = ((k / 2 : Nat) : Int) := by rw [Int.tdiv_eq_ediv_of_nonneg (by omega)]; omega
      have hw := hex_word x k
      have hl : ((hxd x k : Nat) : Int) < 65536 := by have := hxd_lt x k; omega
      have c2 := nums_at h2 (k / 2) (by omega)
      have f2 := h2.free (k / 2)
      rcases (show k % 2 = 0 ∨ k % 2 = 1 by omega) with hr | hr
      · have e2 : (k : Int).tmod 2 = 0 := by rw [Int.tmod_eq_emod_of_nonneg (by omega)]; omega
        rw [hr] at hw
        have hw2 : (((wrd (x % 65536 ^ k) (k / 2) : Nat) : Int) + ((hxd x k : Nat) : Int)) % 4294967296 = ((wrd (x % 65536 ^ (k + 1)) (k / 2) : Nat) : Int) := by rw [← hw]; omega
        go_wp2_with fail
        go_region
        all_goals
          go_wp2_with fail
          go_roundw
        all_goals first
          | (refine ⟨k + 1, by omega, by go_num, h0.drew.far (by simp <;> omega) _, h1.drew.far (by simp <;> omega) _, ?_, (below_drewN hb 1).setCell (by simp <;> omega) _⟩
             rw [← nums_hex]
             exact h2.drew.set (k / 2) _)
          | (simp [intOf]; omega)
      · have e2 : (k : Int).tmod 2 = 1 := by rw [Int.tmod_eq_emod_of_nonneg (by omega)]; omega
        rw [hr] at hw
        have hw2 : (((wrd (x % 65536 ^ k) (k / 2) : Nat) : Int) + ((hxd x k : Nat) : Int) * 65536) % 4294967296 = ((wrd (x % 65536 ^ (k + 1)) (k / 2) : Nat) : Int) := by rw [← hw]; omega
        go_wp2_with fail
        go_region
        all_goals
          go_wp2_with fail
          go_roundw
        all_goals first
          | (refine ⟨k + 1, by omega, by go_num, h0.drew.far (by simp <;> omega) _, h1.drew.far (by simp <;> omega) _, ?_, (below_drewN hb 1).setCell (by simp <;> omega) _⟩
             rw [← nums_hex]
             exact h2.drew.set (k / 2) _)
          | (simp [intOf]; omega)
    · have e256 : k = 16 := by omega
      have h2' : Has wr (w.heap.size + 1 + 1) 23 (nums x) := by rw [e256, ← big_hex, Nat.mod_eq_of_lt HX.out] at h2; exact h2
      have dk : ¬ (k : Int) < 16 := by omega
      have hz : (Try.prog.info? 23).map (·.size) = some (nums x).size := by rw [nums_size]; kernel_rfl
      clear e256 hk h0 h2
      go_wp2_with (first | refine wpList_load_row rfl 23 _ rfl (w.heap.size + 1 + 1) rfl 23 _ _ _ h2' Try.underlying23 rfl hz ?_ | refine wpList_store_row rfl 23 _ _ rfl (w.heap.size + 1) _ rfl rfl 23 _ h1 hz (by simp only [nums_size]) (tab_oneCell _ _ fun _ => rfl) ?_)
      exact bodyPost_ret (v := .agg (nums x)) (results_cell_row rfl _ _ (w.heap.size + 1) 23 _ _ _ rfl (h1.setRow _) Try.underlying23 rfl hz) rfl ⟨rfl, below_setRow hb (by omega) _⟩
end Go.Proofs.Ytodialbopochdaa
