import Derived.Test.YtopjdckfphhnnaaDoorWa
import Derived.Test.YtopjdckfphhnnaaDoorShaM
import Derived.Test.YtopjdckfphhnnaaDoorMem
import Derived.BigRegion
import Derived.Lib.Hide
import Derived.IntWalk
import Derived.Test.YtopjdckfphhnnaaDoorQTail
namespace Go.Proofs.YtopjdckfphhnnaaDoor
open Go.RowKit
attribute [local go_sem] u32_xor_w u32_and_w u32_add_w zeros64

def words1 (b : Nat → UInt8) (k : Nat) (j : Nat) : Value := if j < k then wd (W b j) else wd 0
theorem words1_at {b : Nat → UInt8} {k j : Nat} (h : j < k) : words1 b k j = .int .u32 ((W b j).toNat : Int) := by simp [words1, h, wd]
theorem words1_zero (b : Nat → UInt8) : tab 64 (words1 b 0) = tab 64 zeroW := tab_ext _ _ _ fun j _ => by simp [words1, zeroW, wd]
theorem words1_set (b : Nat → UInt8) (k : Nat) : (tab 64 (words1 b k)).setIfInBounds k (wd (W b k)) = tab 64 (words1 b (k + 1)) := by
  rw [tab_set]
  apply tab_ext
  intro j _
  by_cases h : j = k
  · subst h; simp [words1]
  · simp only [words1, if_neg h]
    by_cases h2 : j < k
    · rw [if_pos h2, if_pos (by omega)]
    · rw [if_neg h2, if_neg (by omega)]

set_option maxHeartbeats 1000000 in
theorem schedule_any (b : Nat → UInt8) (w : World) :
    Calls Tryd.prog 18 #[.agg (tab 64 fun j => by8 (b j))] w fun e w' => e = .returned (.agg (tab 64 fun j => wd (W b j))) ∧ Below w.heap.size w w' := by
  go_enter Tryd.func18, Tryd.ntmps18
  go_wp2_with fail
  go_loopw [4, 6] (fun _ c wr => ∃ k : Nat, k ≤ 16 ∧ c = .int .i64 k ∧ Has wr w.heap.size 42 (tab 64 fun j => by8 (b j)) ∧ Has wr (w.heap.size + 1) 49 (tab 64 zeroW) ∧
      Has wr (w.heap.size + 1 + 1) 49 (tab 64 (words1 b k)) ∧ Below w.heap.size w wr) (fun _ c _ => 16 - (intOf c).toNat)
  case atStart => exact ⟨0, by omega, rfl, (((Has.new w 42 _).alloc _).alloc _), ((Has.new' (by simp)).alloc _), (by rw [words1_zero]; exact Has.new' (by simp)), (((Below.refl _ _).alloc (Nat.le_refl _) _).alloc (by simp) _).alloc (by simp; omega) _⟩
  case round =>
    obtain ⟨k, hk, rfl, h0, h1, h2, hb⟩ := hrel
    by_cases hlt : k < 16
    · have c0 := h0.cellTab (4 * k) (by omega)
      have c1 := h0.cellTab (4 * k + 1) (by omega)
      have c2 := h0.cellTab (4 * k + 2) (by omega)
      have c3 := h0.cellTab (4 * k + 3) (by omega)
      have cw := h2.cellTab k (by omega)
      have fw := h2.free k
      unfold by8 at c0 c1 c2 c3
      have ww := word_walk (b (4 * k)) (b (4 * k + 1)) (b (4 * k + 2)) (b (4 * k + 3))
      go_wp2_with fail
      go_region
      go_wp2_with fail
      go_roundw
      case rel =>
        have e := words1_set b k
        rw [W_lo b k hlt] at e
        exact ⟨k + 1, by omega, by go_num, (h0.far (by simp; omega) _).drew, (h1.far (by simp) _).drew, by rw [← e]; exact (h2.set k _).drew, (hb.setCell (by simp; omega) _).drew⟩
      case measure => simp [intOf]; omega
    · have e16 : k = 16 := by omega
      have h2' : Has wr (w.heap.size + 1 + 1) 49 (tab 64 (words1 b 16)) := by rw [← e16]; exact h2
      have e16' : (k : Int) = 16 := by omega
      have E := Lib.hid e16'
      clear e16 e16' hk
      go_wp2_with fail
      go_loopw [5] (fun c wr => ∃ k : Nat, 16 ≤ k ∧ k ≤ 64 ∧ c = .int .i64 k ∧ Has wr w.heap.size 42 (tab 64 fun j => by8 (b j)) ∧ Has wr (w.heap.size + 1) 49 (tab 64 zeroW) ∧
          Has wr (w.heap.size + 1 + 1) 49 (tab 64 (words1 b k)) ∧ Below w.heap.size w wr) (fun c _ => 64 - (intOf c).toNat)
      case atStart => exact ⟨16, by omega, by omega, rfl, h0, h1, h2', hb⟩
      case round =>
        clear h0 h1 h2 h2' hb
        rename_i k0 _ _
        obtain ⟨k, hk0, hk, rfl, h0, h1, h2, hb⟩ := hrel
        by_cases hlt : k < 64
        · have c0 := (h2.cellTab (k - 16) (by omega)).trans (congrArg some (words1_at (b := b) (show k - 16 < k by omega)))
          have c1 := (h2.cellTab (k - 7) (by omega)).trans (congrArg some (words1_at (b := b) (show k - 7 < k by omega)))
          have c2 := (h2.cellTab (k - 15) (by omega)).trans (congrArg some (words1_at (b := b) (show k - 15 < k by omega)))
          have c3 := (h2.cellTab (k - 2) (by omega)).trans (congrArg some (words1_at (b := b) (show k - 2 < k by omega)))
          have cw := h2.cellTab k (by omega)
          have fw := h2.free k
          go_wp2_with fail
          have a16 : IntKind.i64.wrap ((k : Int) - 16) = (k : Int) - 16 := IntWalk.i64_in _ (by omega)
          have b16 : (16 : Int) ≤ (k : Int) := by omega
          have d16 : (k : Int) - 16 < 64 := by omega
          have t16 : ((k : Int) - 16).toNat = k - 16 := by omega
          have a7 : IntKind.i64.wrap ((k : Int) - 7) = (k : Int) - 7 := IntWalk.i64_in _ (by omega)
          have b7 : (7 : Int) ≤ (k : Int) := by omega
          have d7 : (k : Int) - 7 < 64 := by omega
          have t7 : ((k : Int) - 7).toNat = k - 7 := by omega
          have a15 : IntKind.i64.wrap ((k : Int) - 15) = (k : Int) - 15 := IntWalk.i64_in _ (by omega)
          have b15 : (15 : Int) ≤ (k : Int) := by omega
          have d15 : (k : Int) - 15 < 64 := by omega
          have t15 : ((k : Int) - 15).toNat = k - 15 := by omega
          have a2 : IntKind.i64.wrap ((k : Int) - 2) = (k : Int) - 2 := IntWalk.i64_in _ (by omega)
          have b2 : (2 : Int) ≤ (k : Int) := by omega
          have d2 : (k : Int) - 2 < 64 := by omega
          have t2 : ((k : Int) - 2).toNat = k - 2 := by omega
          have dk : (k : Int) < 64 := by omega
          refine region_quiet_tail (fun w' => ∃ n, w' = wr.drewN n) 23 (by kernel_rfl) (by kernel_rfl) ⟨1, rfl⟩ ?_
          simp only [List.take_succ_cons, List.take_zero, List.drop_succ_cons, List.drop_zero]
          repeat (quiet_step ((go_at_call 21; exact Calls.quiet_of ((mixS_int _ _ _ _ _ (by omega) (by omega) (by omega)).mono fun _ _ ⟨he, n, hw⟩ => ⟨he, n, hw⟩))))
          refine wpQuiet_nil ?_
          rintro w' ⟨n, rfl⟩
          clear a16 a7 a15 a2 t16 t7 t15 t2
          go_wp2_with fail
          go_roundw
          case rel =>
            have e := words1_set b k
            rw [W_hi b k hk0] at e
            exact ⟨k + 1, by omega, by omega, by go_num, (h0.drewN n).far (by simp; omega) _, (h1.drewN n).far (by simp) _, by rw [← e]; exact (h2.drewN n).set k _, (below_drewN hb n).setCell (by simp; omega) _⟩
          case measure => simp [intOf]; omega
        · have e64 : k = 64 := by omega
          have h3 : Has wr (w.heap.size + 1 + 1) 49 (tab 64 fun j => wd (W b j)) := by
            rw [tab_ext 64 _ (words1 b k) fun j hj => by rw [e64]; simp [words1, hj]]; exact h2
          clear e64 hk0 hk
          have hz : (Tryd.prog.info? 49).map (·.size) = some (tab 64 fun j => wd (W b j)).size := by rw [tab_size]; kernel_rfl
          go_wp2_with (first | refine wpList_load_row rfl 49 _ rfl (w.heap.size + 1 + 1) rfl 49 _ _ _ h3 Tryd.underlying49 rfl hz ?_ | refine wpList_store_row rfl 49 _ _ rfl (w.heap.size + 1) _ rfl rfl 49 _ h1 hz (by rw [tab_size, tab_size]) (tab_oneCell _ _ fun _ => rfl) ?_)
          exact bodyPost_ret (v := .agg (tab 64 fun j => wd (W b j))) (results_cell_row rfl _ _ (w.heap.size + 1) 49 _ _ _ rfl (h1.setRow _) Tryd.underlying49 rfl hz) rfl ⟨rfl, below_setRow hb (by omega) _⟩
end Go.Proofs.YtopjdckfphhnnaaDoor
