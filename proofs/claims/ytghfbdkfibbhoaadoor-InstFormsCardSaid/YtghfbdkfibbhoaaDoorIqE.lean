/-
Layer 11: package inst's among, hasRd, hasRs1, hasRs2.
-/
import Derived.Test.YtghfbdkfibbhoaaDoorIpA
import Derived.Great.BuildSlice
import Derived.Great.FillDense
namespace Go.Proofs.YtghfbdkfibbhoaaDoor
open Go Go.RowKit

def amN (a b c : Int) : Nat → Int
  | 0 => a
  | 1 => b
  | _ => c
def amV (a b c : Int) (j : Nat) : Value := .int .i64 (amN a b c j)
def amB (z a b c : Int) : Bool := z == a || z == b || z == c
set_option maxRecDepth 100000 in
set_option maxHeartbeats 1000000 in
theorem among_any (z a b c : Int) (g : Nat) (w : World) (hG : Has w g 3 (tab 3 (amV a b c))) :
    Calls Tryd.prog 43 #[.int .i64 z, .slice (some ⟨g, 0, none⟩) 3 3] w fun e w' => e = .returned (.bool (amB z a b c)) ∧ w = w' := by
  go_enter Tryd.func43, Tryd.ntmps43
  go_wp2_with fail
  go_loopw [9] (fun ct wr => ∃ i : Nat, i ≤ 3 ∧ ct = .int .i64 (i : Int) ∧ (∀ j, j < i → (z == amN a b c j) = false) ∧ w = wr) (fun ct _ => (3 - (intOf ct)).toNat)
  case atStart => exact ⟨0, by omega, rfl, fun j h => by omega, rfl⟩
  case round =>
    obtain ⟨i, hi, rfl, hn, rfl⟩ := hrel
    by_cases hlt : i < 3
    · have di : (i : Int) < 3 := by omega
      have hc : w.cell? ⟨g, i, none⟩ = some (.int .i64 (amN a b c i)) := hG.cellTab i hlt
      have HN := Lib.hid hn
      clear hn
      cases hb : (z == amN a b c i) with
      | true =>
        go_wp2_with fail
        go_ret
        refine ⟨?_, rfl⟩
        have e : amB z a b c = true := by
          unfold amB
          match i, hlt, hb with
          | 0, _, hb => rw [show (z == a) = true from hb]; rfl
          | 1, _, hb => rw [show (z == b) = true from hb]; simp
          | 2, _, hb => rw [show (z == c) = true from hb]; simp
        rw [e]; rfl
      | false =>
        go_wp2_with fail
        go_roundw
        case rel => exact ⟨i + 1, by omega, by go_num, fun j hj => if h : j = i then h ▸ hb else HN.out j (by omega), trivial⟩
        case measure => simp [intOf] <;> omega
    · obtain rfl : i = 3 := by omega
      go_wp2_with fail
      go_ret
      refine ⟨?_, rfl⟩
      have e : amB z a b c = false := by
        unfold amB
        rw [show (z == a) = false from hn 0 (by omega), show (z == b) = false from hn 1 (by omega), show (z == c) = false from hn 2 (by omega)]
        rfl
      rw [e]; rfl
set_option maxRecDepth 100000 in
set_option maxHeartbeats 1000000 in
theorem hasRd_any (z : Int) (w : World) :
    Calls Tryd.prog 38 #[.int .i64 z] w fun e w' => e = .returned (.bool (!amB z 3 4 7)) ∧ Below w.heap.size w w' := by
  have hK := among_any z 3 4 7 w.heap.size (w.alloc (.cells (tab 3 (amV 3 4 7)) 3)) (Has.new _ _ _)
  rw [show tab 3 (amV 3 4 7) = #[.int .i64 3, .int .i64 4, .int .i64 7] from rfl] at hK
  generalize amB z 3 4 7 = r at *
  go_enter Tryd.func38, Tryd.ntmps38
  go_wp2_with (go_at_call 43; with_reducible refine hK.mono ?_; rintro e w2 ⟨rfl, rfl⟩)
  go_ret
  exact ⟨rfl, (Below.refl _ _).alloc (Nat.le_refl _) _⟩
set_option maxRecDepth 100000 in
set_option maxHeartbeats 1000000 in
theorem hasRs1_any (z : Int) (w : World) :
    Calls Tryd.prog 39 #[.int .i64 z] w fun e w' => e = .returned (.bool (!amB z 0 1 7)) ∧ Below w.heap.size w w' := by
  have hK := among_any z 0 1 7 w.heap.size (w.alloc (.cells (tab 3 (amV 0 1 7)) 3)) (Has.new _ _ _)
  rw [show tab 3 (amV 0 1 7) = #[.int .i64 0, .int .i64 1, .int .i64 7] from rfl] at hK
  generalize amB z 0 1 7 = r at *
  go_enter Tryd.func39, Tryd.ntmps39
  go_wp2_with (go_at_call 43; with_reducible refine hK.mono ?_; rintro e w2 ⟨rfl, rfl⟩)
  go_ret
  exact ⟨rfl, (Below.refl _ _).alloc (Nat.le_refl _) _⟩
set_option maxRecDepth 100000 in
set_option maxHeartbeats 1000000 in
theorem hasRs2_any (z : Int) (w : World) :
    Calls Tryd.prog 40 #[.int .i64 z] w fun e w' => e = .returned (.bool (amB z 3 4 5)) ∧ Below w.heap.size w w' := by
  have hK := among_any z 3 4 5 w.heap.size (w.alloc (.cells (tab 3 (amV 3 4 5)) 3)) (Has.new _ _ _)
  rw [show tab 3 (amV 3 4 5) = #[.int .i64 3, .int .i64 4, .int .i64 5] from rfl] at hK
  generalize amB z 3 4 5 = r at *
  go_enter Tryd.func40, Tryd.ntmps40
  go_wp2_with (go_at_call 43; with_reducible refine hK.mono ?_; rintro e w2 ⟨rfl, rfl⟩)
  go_ret
  exact ⟨rfl, (Below.refl _ _).alloc (Nat.le_refl _) _⟩
end Go.Proofs.YtghfbdkfibbhoaaDoor
