/-
Layer 11: the reference's Encode: what it refuses.
-/
import Derived.Test.YtghfbdkfibbhoaaDoorInG
namespace Go.Proofs.YtghfbdkfibbhoaaDoor
open Go Go.RowKit

/-- the operation and the registers are ones that there are -/
def encOk (op a b c : Int) : Prop := 1 ≤ op ∧ op < 57 ∧ 0 ≤ a ∧ a ≤ 31 ∧ 0 ≤ b ∧ b ≤ 31 ∧ 0 ≤ c ∧ c ≤ 31
set_option maxRecDepth 100000 in
set_option maxHeartbeats 4000000 in
theorem encode_no (op a b c z : Int) (w : World) (hno : ¬encOk op a b c) :
    Calls Tryd.prog 13 #[.agg (tab 5 (insR op a b c z))] w fun e w' => e = .returned (.tuple #[.int .i64 0, .bool false]) ∧ Below w.heap.size w w' := by
  rw [show tab 5 (insR op a b c z) = #[.int .i64 op, .int .i64 a, .int .i64 b, .int .i64 c, .int .i64 z] from rfl]
  have hL := fun W => list_any W
  have HNO := Lib.hid hno
  clear hno
  go_enter Tryd.func13, Tryd.ntmps13
  go_upto_region 2 with (go_at_call 26; refine (hL _).mono ?_; rintro e w2 ⟨⟨g, rfl, hG, hg⟩, hb⟩)
  have hB : Has w2 w.heap.size 29 (tab 5 (insR op a b c z)) := (Has.new w 29 (tab 5 (insR op a b c z))).below hb (by rw [size_alloc1]; omega)
  have c0 : w2.cell? ⟨w.heap.size, 0, none⟩ = some (.int .i64 op) := hB.cellTab 0 (by omega)
  have c1 : w2.cell? ⟨w.heap.size, 1, none⟩ = some (.int .i64 a) := hB.cellTab 1 (by omega)
  have c2 : w2.cell? ⟨w.heap.size, 2, none⟩ = some (.int .i64 b) := hB.cellTab 2 (by omega)
  have c3 : w2.cell? ⟨w.heap.size, 3, none⟩ = some (.int .i64 c) := hB.cellTab 3 (by omega)
  have hb4 : Below w.heap.size w w2 := ((Below.refl _ _).alloc (Nat.le_refl _) _).trans (hb.mono (by rw [size_alloc1]; omega))
  have HB := Lib.hid hb4
  clear hL hB hb hG hb4
  by_cases h0 : op < 1
  · go_wp2_with fail
    go_ret2
    exact ⟨rfl, HB.out⟩
  · have k0 := h0
    by_cases h1 : 57 ≤ op
    · go_wp2_with fail
      go_ret2
      exact ⟨rfl, HB.out⟩
    · have k1 := h1
      by_cases h2 : a < 0
      · go_wp2_with fail
        go_ret2
        exact ⟨rfl, HB.out⟩
      · have k2 := h2
        by_cases h3 : 31 < a
        · go_wp2_with fail
          go_ret2
          exact ⟨rfl, HB.out⟩
        · have k3 := h3
          by_cases h4 : b < 0
          · go_wp2_with fail
            go_ret2
            exact ⟨rfl, HB.out⟩
          · have k4 := h4
            by_cases h5 : 31 < b
            · go_wp2_with fail
              go_ret2
              exact ⟨rfl, HB.out⟩
            · have k5 := h5
              by_cases h6 : c < 0
              · go_wp2_with fail
                go_ret2
                exact ⟨rfl, HB.out⟩
              · have k6 := h6
                by_cases h7 : 31 < c
                · go_wp2_with fail
                  go_ret2
                  exact ⟨rfl, HB.out⟩
                · have k7 := h7
                  exact absurd ⟨by omega, by omega, by omega, by omega, by omega, by omega, by omega, by omega⟩ HNO.out
end Go.Proofs.YtghfbdkfibbhoaaDoor
