/-
Package bytes: its own calls' contracts.
-/
import Derived.Test.YtjlnenelhnpnnaaR6D
import Derived.ArgAppend
namespace Go.Proofs.Ytjlnenelhnpnnaa
open Go Go.RowKit

theorem ret_bool {a b : Bool} (h : a = b) : Ending.returned (.bool a) = Ending.returned (.bool b) := by rw [h]
/-- the cells of a cursor -/
def curB (A : Option Addr) (n c : Nat) (bad : Bool) : Array Value := #[.slice A n c, .bool bad]
set_option maxRecDepth 100000 in
set_option maxHeartbeats 1000000 in
theorem pbad_any (A : Option Addr) (n c : Nat) (bad : Bool) (g : Nat) (w : World) (hG : Has w g 47 (curB A n c bad)) :
    Calls Try.prog 15 #[curAt g] w fun e w' => e = .returned (.bool bad) ∧ w = w' := by
  have hc1 : w.cell? ⟨g, 1, none⟩ = some (.bool bad) := hG.cell 1
  go_enter Try.func15, Try.ntmps15
  go_wp2_with fail
  go_ret
  exact ⟨rfl, rfl⟩
set_option maxRecDepth 100000 in
set_option maxHeartbeats 1000000 in
theorem pbad_nil (w : World) :
    Calls Try.prog 15 #[.pointer none] w fun e w' => e = .returned (.bool true) ∧ w = w' := by
  go_enter Try.func15, Try.ntmps15
  go_wp2_with fail
  go_ret
  exact ⟨rfl, rfl⟩
set_option maxRecDepth 100000 in
set_option maxHeartbeats 1000000 in
theorem pend2_any (a n : Nat) (w : World) (ha : a < 4294967296) (hn : n < 4294967296) :
    Calls Try.prog 25 #[.int .u32 (a : Int), .int .u32 (n : Int)] w fun e w' => e = .returned (.int .u64 ((a : Int) + (n : Int))) ∧ w = w' := by
  go_enter Try.func25, Try.ntmps25
  go_wp2_with fail
  go_ret
  exact ⟨rfl, rfl⟩
set_option maxRecDepth 100000 in
set_option maxHeartbeats 1000000 in
theorem pwithin_any (a n b m : Nat) (w : World) (ha : a < 4294967296) (hn : n < 4294967296) (hb : b < 4294967296) (hm : m < 4294967296) :
    Calls Try.prog 22 #[.int .u32 (a : Int), .int .u32 (n : Int), .int .u32 (b : Int), .int .u32 (m : Int)] w fun e w' => e = .returned (.bool (inB a n b m)) ∧ w = w' := by
  by_cases h1 : (b : Int) ≤ (a : Int)
  · by_cases h2 : (a : Int) + (n : Int) ≤ (b : Int) + (m : Int)
    · have hr : inB a n b m = true := decide_eq_true (by omega)
      rw [hr]
      go_enter Try.func22, Try.ntmps22
      go_wp2_with (refine (pend2_any _ _ _ (by omega) (by omega)).mono ?_; rintro e w' ⟨rfl, rfl⟩)
      go_ret
      exact ⟨rfl, rfl⟩
    · have hr : inB a n b m = false := decide_eq_false (by omega)
      rw [hr]
      go_enter Try.func22, Try.ntmps22
      go_wp2_with (refine (pend2_any _ _ _ (by omega) (by omega)).mono ?_; rintro e w' ⟨rfl, rfl⟩)
      go_ret
      exact ⟨ret_bool (decide_eq_false (by omega)), rfl⟩
  · have hr : inB a n b m = false := decide_eq_false (by omega)
    rw [hr]
    go_enter Try.func22, Try.ntmps22
    go_wp2_with fail
    go_ret
    exact ⟨rfl, rfl⟩
set_option maxRecDepth 100000 in
set_option maxHeartbeats 1000000 in
theorem papart_any (a n b m : Nat) (w : World) (ha : a < 4294967296) (hn : n < 4294967296) (hb : b < 4294967296) (hm : m < 4294967296) :
    Calls Try.prog 23 #[.int .u32 (a : Int), .int .u32 (n : Int), .int .u32 (b : Int), .int .u32 (m : Int)] w fun e w' => e = .returned (.bool (apB a n b m)) ∧ w = w' := by
  by_cases h1 : (n : Int) = 0
  · have hr : apB a n b m = true := decide_eq_true (by omega)
    rw [hr]
    go_enter Try.func23, Try.ntmps23
    go_wp2_with fail
    go_ret
    exact ⟨rfl, rfl⟩
  · by_cases h2 : (m : Int) = 0
    · have hr : apB a n b m = true := decide_eq_true (by omega)
      rw [hr]
      go_enter Try.func23, Try.ntmps23
      go_wp2_with fail
      go_ret
      exact ⟨rfl, rfl⟩
    · by_cases h3 : (a : Int) + (n : Int) ≤ (b : Int)
      · have hr : apB a n b m = true := decide_eq_true (by omega)
        rw [hr]
        go_enter Try.func23, Try.ntmps23
        go_wp2_with (refine (pend2_any _ _ _ (by omega) (by omega)).mono ?_; rintro e w' ⟨rfl, rfl⟩)
        go_ret
        exact ⟨rfl, rfl⟩
      · go_enter Try.func23, Try.ntmps23
        go_wp2_with (refine (pend2_any _ _ _ (by omega) (by omega)).mono ?_; rintro e w' ⟨rfl, rfl⟩)
        go_ret
        exact ⟨ret_bool (by unfold apB; rw [Bool.eq_iff_iff]; simp <;> omega), rfl⟩
set_option maxRecDepth 100000 in
set_option maxHeartbeats 1000000 in
theorem pend_any (A : Option Addr) (n c : Nat) (bad : Bool) (g : Nat) (w : World) (hG : Has w g 47 (curB A n c bad)) :
    Calls Try.prog 16 #[curAt g] w fun e w' => e = .returned (.bool (!bad && decide (n = 0))) ∧ w = w' := by
  have hc0 : w.cell? ⟨g, 0, none⟩ = some (.slice A n c) := hG.cell 0
  have kB := pbad_any A n c bad g w hG
  cases bad with
  | true =>
    go_enter Try.func16, Try.ntmps16
    go_wp2_with (refine kB.mono ?_; rintro e w' ⟨rfl, rfl⟩)
    go_ret
    exact ⟨rfl, rfl⟩
  | false =>
    by_cases h0 : n = 0
    · subst h0
      go_enter Try.func16, Try.ntmps16
      go_wp2_with (refine kB.mono ?_; rintro e w' ⟨rfl, rfl⟩)
      go_ret
      exact ⟨rfl, rfl⟩
    · have hr : (!false && decide (n = 0)) = false := by simp [h0]
      have h1 : ((n : Int) == 0) = false := by simp; omega
      rw [hr]
      clear hr
      go_enter Try.func16, Try.ntmps16
      go_wp2_with (refine kB.mono ?_; rintro e w' ⟨rfl, rfl⟩)
      go_ret
      exact ⟨rfl, rfl⟩
set_option maxRecDepth 100000 in
set_option maxHeartbeats 1000000 in
theorem pend_nil (w : World) :
    Calls Try.prog 16 #[.pointer none] w fun e w' => e = .returned (.bool false) ∧ w = w' := by
  go_enter Try.func16, Try.ntmps16
  go_wp2_with (refine (pbad_nil _).mono ?_; rintro e w' ⟨rfl, rfl⟩)
  go_ret
  exact ⟨rfl, rfl⟩
end Go.Proofs.Ytjlnenelhnpnnaa
