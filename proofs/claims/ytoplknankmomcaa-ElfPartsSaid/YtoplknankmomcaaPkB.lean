/-
Package bytes: Take, the integers.
-/
import Derived.Test.YtoplknankmomcaaPkA
namespace Go.Proofs.Ytoplknankmomcaa
open Go Go.RowKit

theorem curB_bad (A : Option Addr) (n c : Nat) (bad : Bool) : (curB A n c bad).setIfInBounds 1 (.bool true) = curB A n c true := rfl
theorem curB_rest (A A' : Option Addr) (n c n' c' : Nat) (bad : Bool) : (curB A n c bad).setIfInBounds 0 (.slice A' n' c') = curB A' n' c' bad := rfl
set_option maxRecDepth 100000 in
set_option maxHeartbeats 1000000 in
theorem ptake_bad (A : Option Addr) (n c : Nat) (k : Int) (g : Nat) (w : World) (hG : Has w g 88 (curB A n c true)) :
    Calls Try.prog 30 #[curAt g, .int .i64 k] w fun e w' => e = .returned (.slice none 0 0) ∧ w = w' := by
  go_enter Try.func30, Try.ntmps30
  go_wp2_with (refine (pbad_any A n c true g _ hG).mono ?_; rintro e w' ⟨rfl, rfl⟩)
  go_ret
  exact ⟨rfl, rfl⟩
set_option maxRecDepth 100000 in
set_option maxHeartbeats 1000000 in
theorem ptake_nil (k : Int) (w : World) :
    Calls Try.prog 30 #[.pointer none, .int .i64 k] w fun e w' => e = .returned (.slice none 0 0) ∧ w = w' := by
  go_enter Try.func30, Try.ntmps30
  go_wp2_with (refine (pbad_nil _).mono ?_; rintro e w' ⟨rfl, rfl⟩)
  go_ret
  exact ⟨rfl, rfl⟩
set_option maxRecDepth 100000 in
set_option maxHeartbeats 1000000 in
theorem ptake_far (A : Option Addr) (n c : Nat) (k : Int) (g : Nat) (w : World) (hG : Has w g 88 (curB A n c false)) (hk : k < 0 ∨ (n : Int) < k) :
    Calls Try.prog 30 #[curAt g, .int .i64 k] w fun e w' => e = .returned (.slice none 0 0) ∧ Has w' g 88 (curB A n c true) ∧ w.grownBy w' (some g) ∧ w'.heap.size = w.heap.size := by
  have hc0 : w.cell? ⟨g, 0, none⟩ = some (.slice A n c) := hG.cell 0
  have hc1 : w.cell? ⟨g, 1, none⟩ = some (.bool false) := hG.cell 1
  have hf1 := hG.free 1
  have hG2 := hG.set 1 (.bool true)
  rw [curB_bad] at hG2
  have hg2 := only_setCell w g 1 (.bool true)
  have kB := pbad_any A n c false g w hG
  by_cases hk0 : k < 0
  · clear hk
    go_enter Try.func30, Try.ntmps30
    go_wp2_with (refine kB.mono ?_; rintro e w' ⟨rfl, rfl⟩)
    go_ret
    exact ⟨rfl, hG2, hg2, by simp [World.setCell]⟩
  · have hk1 : (n : Int) < k := by omega
    clear hk
    go_enter Try.func30, Try.ntmps30
    go_wp2_with (refine kB.mono ?_; rintro e w' ⟨rfl, rfl⟩)
    go_ret
    exact ⟨rfl, hG2, hg2, by simp [World.setCell]⟩
/-- what x[k:] has for an address -/
def offA (A : Option Addr) (c k : Nat) : Option Addr := if k = c then A else A.map (·.add k)
theorem run_front (A : Option Addr) (n c : Nat) (k : Nat) (hk : k ≤ c) (W : World) : (Instr.sliceAt 25 (.slice A n c) none (some (.int .i64 (k : Int))) (some (.int .i64 (k : Int)))).run Try.prog W = .ok (.slice A k k) W := by
  have h1 : (k : Int) ≤ (c : Int) := by omega
  cases A with
  | none => go_simp
  | some ad => go_simp
theorem run_tail (A : Option Addr) (n c : Nat) (k : Nat) (hk : k ≤ n) (W : World) : (Instr.sliceAt 25 (.slice A n c) (some (.int .i64 (k : Int))) none none).run Try.prog W = .ok (.slice (offA A c k) (n - k) (c - k)) W := by
  have h1 : (k : Int) ≤ (n : Int) := by omega
  unfold offA
  by_cases hkc : k = c
  · subst hkc
    cases A with
    | none => go_simp
    | some ad => go_simp
  · rw [if_neg hkc]
    cases A with
    | none => go_simp
    | some ad =>
      go_simp
      exact fun h => absurd h.symm hkc
set_option maxRecDepth 100000 in
set_option maxHeartbeats 1000000 in
theorem ptake_ok (A : Option Addr) (n c : Nat) (k : Nat) (g : Nat) (w : World) (hG : Has w g 88 (curB A n c false)) (hk : k ≤ n) (hn : n ≤ c) :
    Calls Try.prog 30 #[curAt g, .int .i64 (k : Int)] w fun e w' => e = .returned (.slice A k k) ∧ Has w' g 88 (curB (offA A c k) (n - k) (c - k) false) ∧ w.grownBy w' (some g) ∧ w'.heap.size = w.heap.size := by
  have hc0 : w.cell? ⟨g, 0, none⟩ = some (.slice A n c) := hG.cell 0
  have hf0 := hG.free 0
  have hG2 := hG.set 0 (.slice (offA A c k) (n - k) (c - k))
  rw [curB_rest] at hG2
  have hg2 := only_setCell w g 0 (.slice (offA A c k) (n - k) (c - k))
  have kB := pbad_any A n c false g w hG
  have r1 := fun W => run_front A n c k (by omega) W
  have r2 := fun W => run_tail A n c k hk W
  have hk1 : (k : Int) ≤ (n : Int) := by omega
  go_enter Try.func30, Try.ntmps30
  go_wp2_with (refine kB.mono ?_; rintro e w' ⟨rfl, rfl⟩)
  go_ret
  exact ⟨rfl, hG2, hg2, by simp [World.setCell]⟩
end Go.Proofs.Ytoplknankmomcaa
