import Derived.Test.YtopjdckfphhnnaaDoorWe
import Derived.Deep.WholeRow
import Derived.Test.YtopjdckfphhnnaaDoorMem2
namespace Go.Proofs.YtopjdckfphhnnaaDoor
open Go.RowKit

/-- the cells of a hash: the state, the bytes behind the last full block, the length -/
def hc (s : Nat → UInt32) (r : Nat → UInt8) (L : Nat) (j : Nat) : Value := if j < 8 then wd (s j) else if j < 72 then by8 (r (j - 8)) else .int .u64 (L : Int)
def zeroH (j : Nat) : Value := if j < 8 then .int .u32 0 else if j < 72 then .int .u8 0 else .int .u64 0
theorem info44 : (Tryd.prog.info? 44).map (fun i => (i.zero, i.size)) = some (some (.agg (tab 73 zeroH)), 73) := by kernel_rfl

/-- block g of w is the hash of message m -/
def HashIs (w : World) (g : Nat) (m : List UInt8) : Prop :=
  ∃ r : Nat → UInt8, Has w g 44 (tab 73 (hc (foldSt m (m.length / 64)) r m.length)) ∧ ∀ j, j < m.length % 64 → r j = m.getD (64 * (m.length / 64) + j) 0
def newC (k j : Nat) : Value := if j < k then wd (IV j) else zeroH j
theorem newC_zero : tab 73 (newC 0) = tab 73 zeroH := tab_ext _ _ _ fun j _ => by simp [newC]
theorem newC_set (k : Nat) : (tab 73 (newC k)).setIfInBounds k (wd (IV k)) = tab 73 (newC (k + 1)) := by
  rw [tab_set]
  apply tab_ext
  intro j _
  by_cases h : j = k
  · subst h; simp [newC]
  · simp only [newC, if_neg h]
    by_cases h2 : j < k
    · rw [if_pos h2, if_pos (by omega)]
    · rw [if_neg h2, if_neg (by omega)]
theorem newC_end : tab 73 (newC 8) = tab 73 (hc (foldSt [] 0) (fun _ => 0) 0) := by
  apply tab_ext
  intro j _
  by_cases h : j < 8
  · simp [newC, hc, h, foldSt]
  · by_cases h2 : j < 72
    · simp [newC, hc, h, h2, zeroH, by8]
    · simp [newC, hc, h, h2, zeroH]

set_option maxHeartbeats 1000000 in
theorem new_any (w : World) (hT : Tabs w) :
    Calls Tryd.prog 9 #[] w fun e w' => e = .returned (.pointer (some ⟨w.heap.size, 0, none⟩)) ∧ HashIs w' w.heap.size [] ∧ Below w.heap.size w w' := by
  have HT := Lib.hid hT
  clear hT
  have hz44 := (zero_of_info info44).1
  go_enter Tryd.func9, Tryd.ntmps9
  go_wp2_with fail
  go_loopw [2, 3] (fun _ ct wr => ∃ m : Nat, m ≤ 8 ∧ ct = .int .i64 m ∧ Has wr w.heap.size 44 (tab 73 (newC m)) ∧ Below w.heap.size w wr)
    (fun _ ct _ => 8 - (intOf ct).toNat)
  case atStart => exact ⟨0, by omega, rfl, by rw [newC_zero]; exact Has.new' rfl, (Below.refl _ _).alloc (Nat.le_refl _) _⟩
  case round =>
    obtain ⟨m, hm, rfl, h1, hb⟩ := hrel
    by_cases hlt : m < 8
    · have c0 := h1.cellTab m (by omega)
      have f0 := h1.free m
      have ci : _ = some (Value.int .u32 ((IV m).toNat : Int)) := (HT.out.below hb).iv m hlt
      have dm : (m : Int) < 8 := by omega
      go_wp2_with fail
      go_roundw
      case rel => exact ⟨m + 1, by omega, by go_num, by rw [← newC_set]; exact h1.set _ _, hb.setCell (by simp) _⟩
      case measure => simp [intOf]; omega
    · have e8 : m = 8 := by omega
      have h3 : HashIs wr w.heap.size [] := by
        refine ⟨fun _ => 0, ?_, fun j hj => by simp at hj⟩
        show Has wr w.heap.size 44 (tab 73 (hc (foldSt [] 0) (fun _ => 0) 0))
        rw [← newC_end, ← e8]; exact h1
      clear hm e8
      go_wp2_with fail
      go_ret
      exact ⟨rfl, h3, hb⟩
end Go.Proofs.YtopjdckfphhnnaaDoor
