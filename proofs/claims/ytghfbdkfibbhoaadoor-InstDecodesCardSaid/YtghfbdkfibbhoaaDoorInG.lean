/-
Layer 11: the law's like.
-/
import Derived.Test.YtghfbdkfibbhoaaDoorInF
namespace Go.Proofs.YtghfbdkfibbhoaaDoor
open Go Go.RowKit

/-- an instruction of the program -/
def insA (i a b c : Int) (n : Int) : Nat → Value
  | 0 => .int .i64 i
  | 1 => .int .i64 a
  | 2 => .int .i64 b
  | 3 => .int .i64 c
  | _ => .int .u32 n
/-- an instruction of the reference -/
def insR (i a b c : Int) (z : Int) : Nat → Value
  | 0 => .int .i64 i
  | 1 => .int .i64 a
  | 2 => .int .i64 b
  | 3 => .int .i64 c
  | _ => .int .i64 z
def likeB (i a b c n i' a' b' c' z : Int) : Bool := i == i' && a == a' && b == b' && c == c' && n == IntKind.u32.wrap z
set_option maxRecDepth 100000 in
set_option maxHeartbeats 4000000 in
theorem like_any (i a b c n i' a' b' c' z : Int) (w : World) :
    Calls Tryd.prog 9 #[.agg (tab 5 (insA i a b c n)), .agg (tab 5 (insR i' a' b' c' z))] w fun e w' => e = .returned (.bool (likeB i a b c n i' a' b' c' z)) ∧ Below w.heap.size w w' := by
  rw [show tab 5 (insA i a b c n) = #[.int .i64 i, .int .i64 a, .int .i64 b, .int .i64 c, .int .u32 n] from rfl, show tab 5 (insR i' a' b' c' z) = #[.int .i64 i', .int .i64 a', .int .i64 b', .int .i64 c', .int .i64 z] from rfl]
  obtain ⟨r, hr⟩ : ∃ r, r = likeB i a b c n i' a' b' c' z := ⟨_, rfl⟩
  rw [← hr]
  unfold likeB at hr
  have HR := Lib.hid hr
  clear hr
  generalize hz : IntKind.u32.wrap z = y at *
  go_enter Tryd.func9, Tryd.ntmps9
  cases h0 : (i == i') with
  | false =>
    rw [h0] at HR
    go_wp2_with fail
    go_ret
    refine ⟨by rw [HR.out]; rfl, ?_⟩
    repeat (first | exact Below.refl _ _ | with_reducible refine below_drewN ?_ _ | with_reducible refine Below.alloc ?_ (by first | exact Nat.le_refl _ | (simp only [size_alloc1]; omega)) _)
  | true =>
    cases h1 : (a == a') with
    | false =>
      rw [h0, h1] at HR
      go_wp2_with fail
      go_ret
      refine ⟨by rw [HR.out]; rfl, ?_⟩
      repeat (first | exact Below.refl _ _ | with_reducible refine below_drewN ?_ _ | with_reducible refine Below.alloc ?_ (by first | exact Nat.le_refl _ | (simp only [size_alloc1]; omega)) _)
    | true =>
      cases h2 : (b == b') with
      | false =>
        rw [h0, h1, h2] at HR
        go_wp2_with fail
        go_ret
        refine ⟨by rw [HR.out]; rfl, ?_⟩
        repeat (first | exact Below.refl _ _ | with_reducible refine below_drewN ?_ _ | with_reducible refine Below.alloc ?_ (by first | exact Nat.le_refl _ | (simp only [size_alloc1]; omega)) _)
      | true =>
        cases h3 : (c == c') with
        | false =>
          rw [h0, h1, h2, h3] at HR
          go_wp2_with fail
          go_ret
          refine ⟨by rw [HR.out]; rfl, ?_⟩
          repeat (first | exact Below.refl _ _ | with_reducible refine below_drewN ?_ _ | with_reducible refine Below.alloc ?_ (by first | exact Nat.le_refl _ | (simp only [size_alloc1]; omega)) _)
        | true =>
          cases h4 : (n == y) with
          | false =>
            rw [h0, h1, h2, h3, h4] at HR
            go_wp2_with fail
            go_ret
            refine ⟨by rw [HR.out]; rfl, ?_⟩
            repeat (first | exact Below.refl _ _ | with_reducible refine below_drewN ?_ _ | with_reducible refine Below.alloc ?_ (by first | exact Nat.le_refl _ | (simp only [size_alloc1]; omega)) _)
          | true =>
            rw [h0, h1, h2, h3, h4] at HR
            go_wp2_with fail
            go_ret
            refine ⟨by rw [HR.out]; rfl, ?_⟩
            repeat (first | exact Below.refl _ _ | with_reducible refine below_drewN ?_ _ | with_reducible refine Below.alloc ?_ (by first | exact Nat.le_refl _ | (simp only [size_alloc1]; omega)) _)
end Go.Proofs.YtghfbdkfibbhoaaDoor
