import Derived.Test.YtopjdckfphhnnaaDoorWc
namespace Go.Proofs.YtopjdckfphhnnaaDoor
open Go.RowKit

def zeroB : Nat → Value := fun _ => .int .u8 0
theorem zeros32b : (#[Value.int IntKind.u8 0, Value.int IntKind.u8 0, Value.int IntKind.u8 0, Value.int IntKind.u8 0, Value.int IntKind.u8 0, Value.int IntKind.u8 0, Value.int IntKind.u8 0, Value.int IntKind.u8 0, Value.int IntKind.u8 0, Value.int IntKind.u8 0, Value.int IntKind.u8 0, Value.int IntKind.u8 0, Value.int IntKind.u8 0, Value.int IntKind.u8 0, Value.int IntKind.u8 0, Value.int IntKind.u8 0, Value.int IntKind.u8 0, Value.int IntKind.u8 0, Value.int IntKind.u8 0, Value.int IntKind.u8 0, Value.int IntKind.u8 0, Value.int IntKind.u8 0, Value.int IntKind.u8 0, Value.int IntKind.u8 0, Value.int IntKind.u8 0, Value.int IntKind.u8 0, Value.int IntKind.u8 0, Value.int IntKind.u8 0, Value.int IntKind.u8 0, Value.int IntKind.u8 0, Value.int IntKind.u8 0, Value.int IntKind.u8 0] : Array Value) = tab 32 zeroB := by kernel_rfl
attribute [local go_sem] zeros32b
def partD (s : Nat → UInt32) (k j : Nat) : Value := if j < 4 * k then by8 (dig s j) else .int .u8 0
theorem partD_zero (s : Nat → UInt32) : tab 32 (partD s 0) = tab 32 zeroB := tab_ext _ _ _ fun j _ => by simp [partD, zeroB]
theorem partD_set (s : Nat → UInt32) (k : Nat) : ((((tab 32 (partD s k)).setIfInBounds (4 * k) (by8 (dig s (4 * k)))).setIfInBounds (4 * k + 1) (by8 (dig s (4 * k + 1)))).setIfInBounds (4 * k + 2) (by8 (dig s (4 * k + 2)))).setIfInBounds (4 * k + 3) (by8 (dig s (4 * k + 3))) = tab 32 (partD s (k + 1)) := by
  rw [tab_set, tab_set, tab_set, tab_set]
  apply tab_ext
  intro j _
  by_cases h3 : j = 4 * k + 3
  · subst h3; simp [partD, show 4 * k + 3 < 4 * (k + 1) by omega]
  by_cases h2 : j = 4 * k + 2
  · subst h2; simp [partD, show 4 * k + 2 < 4 * (k + 1) by omega]
  by_cases h1 : j = 4 * k + 1
  · subst h1; simp [partD, show 4 * k + 1 < 4 * (k + 1) by omega]
  by_cases h0 : j = 4 * k
  · subst h0; simp [partD, show 4 * k < 4 * (k + 1) by omega]
  simp only [if_neg h0, if_neg h1, if_neg h2, if_neg h3, partD]
  by_cases h : j < 4 * k
  · rw [if_pos h, if_pos (by omega)]
  · rw [if_neg h, if_neg (by omega)]

set_option maxHeartbeats 1000000 in
theorem digest_any (s : Nat → UInt32) (w : World) :
    Calls Tryd.prog 16 #[.agg (tab 8 fun j => wd (s j))] w fun e w' => e = .returned (.agg (tab 32 fun j => by8 (dig s j))) ∧ Below w.heap.size w w' := by
  obtain ⟨i40, hi40, _, hs40, _⟩ := info_parts info40
  have hz8 : (Tryd.prog.info? 41).map (·.size) = some (tab 8 fun j => wd (s j)).size := by rw [tab_size]; kernel_rfl
  have hz32 : (Tryd.prog.info? 24).map (·.size) = some (tab 32 fun j => by8 (dig s j)).size := by rw [tab_size]; kernel_rfl
  go_enter Tryd.func16, Tryd.ntmps16
  go_wp2_with (refine wpList_load_row rfl 41 _ rfl w.heap.size rfl 41 _ _ _ (((Has.new' rfl).alloc _).alloc _) Tryd.underlying41 rfl hz8 ?_)
  go_loopw [4, 5, 7] (fun _ _ ct wr => ∃ m : Nat, m ≤ 8 ∧ ct = .int .i64 m ∧ Has wr (w.heap.size + 1) 24 (tab 32 zeroB) ∧ Has wr (w.heap.size + 1 + 1) 24 (tab 32 (partD s m)) ∧ Below w.heap.size w wr)
    (fun _ _ ct _ => 8 - (intOf ct).toNat)
  case atStart => exact ⟨0, by omega, rfl, (Has.new' (by simp)).alloc _, by rw [partD_zero]; exact Has.new' (by simp), (((Below.refl _ _).alloc (Nat.le_refl _) _).alloc (by simp) _).alloc (by simp; omega) _⟩
  case round =>
    obtain ⟨m, hm, rfl, h1, h2, hb⟩ := hrel
    by_cases hlt : m < 8
    · have hix : ∀ W : World, (Instr.index 41 (.agg (tab 8 fun j => wd (s j))) (.int .i64 (m : Int))).run Tryd.prog W = .ok (.int .u32 ((s m).toNat : Int)) W := fun W => run_index_tab (P := Tryd.prog) 41 40 8 .u32 i40 (fun j => wd (s j)) Tryd.underlying41 Tryd.underlying40 hi40 hs40 .i64 m hlt W
      have c0 := h2.cellTab (4 * m) (by omega)
      have c1 := h2.cellTab (4 * m + 1) (by omega)
      have c2 := h2.cellTab (4 * m + 2) (by omega)
      have c3 := h2.cellTab (4 * m + 3) (by omega)
      have f0 := h2.free (4 * m)
      have f1 := h2.free (4 * m + 1)
      have f2 := h2.free (4 * m + 2)
      have f3 := h2.free (4 * m + 3)
      have dm : (m : Int) < 8 := by omega
      go_wp2_with fail
      go_roundw
      case rel =>
        have e := partD_set s m
        rw [dig0, dig1, dig2, dig3] at e
        exact ⟨m + 1, by omega, by go_num, (((h1.far (by simp) _).far (by simp) _).far (by simp) _).far (by simp) _, by rw [← e]; exact (((h2.set _ _).set _ _).set _ _).set _ _, (((hb.setCell (by simp; omega) _).setCell (by simp; omega) _).setCell (by simp; omega) _).setCell (by simp; omega) _⟩
      case measure => simp [intOf]; omega
    · have h3 : Has wr (w.heap.size + 1 + 1) 24 (tab 32 fun j => by8 (dig s j)) := by
        rw [tab_ext 32 _ (partD s m) fun j hj => by simp [partD, show j < 4 * m by omega]]; exact h2
      clear hm
      go_wp2_with (first | refine wpList_load_row rfl 24 _ rfl (w.heap.size + 1 + 1) rfl 24 _ _ _ h3 Tryd.underlying24 rfl hz32 ?_ | refine wpList_store_row rfl 24 _ _ rfl (w.heap.size + 1) _ rfl rfl 24 _ h1 hz32 (by rw [tab_size, tab_size]) (tab_oneCell _ _ fun _ => rfl) ?_)
      exact bodyPost_ret (v := .agg (tab 32 fun j => by8 (dig s j))) (results_cell_row rfl _ _ (w.heap.size + 1) 24 _ _ _ rfl (h1.setRow _) Tryd.underlying24 rfl hz32) rfl ⟨rfl, below_setRow hb (by omega) _⟩
end Go.Proofs.YtopjdckfphhnnaaDoor
