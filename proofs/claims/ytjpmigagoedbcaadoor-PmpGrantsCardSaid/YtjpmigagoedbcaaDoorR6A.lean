/-
The reference of layer 6: Within and Apart.
-/
import Derived.Test.YtjpmigagoedbcaaDoorBs
import Derived.IntWalk
import Derived.WalkSpells
import Derived.WalkLawsBesides
import Derived.Outline
import Derived.Lib.Hide
namespace Go.Proofs.YtjpmigagoedbcaaDoor
open Go Go.RowKit

/-- the n addresses from a on lie within the m addresses from b on -/
def inB (a n b m : Nat) : Bool := decide (b ≤ a ∧ a + n ≤ b + m)
/-- no address in common -/
def apB (a n b m : Nat) : Bool := decide (min (a + n) (b + m) ≤ max a b)
set_option maxRecDepth 100000 in
theorem rwithin_any (a n b m : Nat) (w : World) (ha : a < 4294967296) (hn : n < 4294967296) (hb : b < 4294967296) (hm : m < 4294967296) :
    Calls Tryd.prog 12 #[.int .i64 (a : Int), .int .i64 (n : Int), .int .i64 (b : Int), .int .i64 (m : Int)] w fun e w' => e = .returned (.bool (inB a n b m)) ∧ Below w.heap.size w w' := by
  have hb0 := Below.refl w.heap.size w
  by_cases h1 : (b : Int) ≤ (a : Int)
  · by_cases h2 : (a : Int) + (n : Int) ≤ (b : Int) + (m : Int)
    · have hr : inB a n b m = true := decide_eq_true (by omega)
      rw [hr]
      go_enter Tryd.func12, Tryd.ntmps12
      go_wp2_with fail
      go_ret
      exact ⟨rfl, hb0⟩
    · have hr : inB a n b m = false := decide_eq_false (by omega)
      rw [hr]
      go_enter Tryd.func12, Tryd.ntmps12
      go_wp2_with fail
      go_ret
      exact ⟨rfl, hb0⟩
  · have hr : inB a n b m = false := decide_eq_false (by omega)
    rw [hr]
    go_enter Tryd.func12, Tryd.ntmps12
    go_wp2_with fail
    go_ret
    exact ⟨rfl, hb0⟩
set_option maxRecDepth 100000 in
theorem rapart_same (a n b m : Nat) (w : World) (ha : a < 4294967296) (hn : n < 4294967296) (hb : b < 4294967296) (hm : m < 4294967296) :
    Calls Tryd.prog 22 #[.int .i64 (a : Int), .int .i64 (n : Int), .int .i64 (b : Int), .int .i64 (m : Int)] w fun e w' => e = .returned (.bool (apB a n b m)) ∧ w = w' := by
  obtain ⟨z, hz⟩ : ∃ z, z = apB a n b m := ⟨_, rfl⟩
  rw [← hz]
  unfold apB at hz
  by_cases h1 : (a : Int) < (b : Int)
  · rw [Nat.max_eq_right (by omega)] at hz
    by_cases h2 : (b : Int) + (m : Int) < (a : Int) + (n : Int)
    · rw [Nat.min_eq_right (by omega)] at hz
      by_cases h3 : (b : Int) + (m : Int) ≤ (b : Int)
      · rw [decide_eq_true (by omega)] at hz
        subst hz
        go_enter Tryd.func22, Tryd.ntmps22
        go_wp2_with fail
        go_ret
        exact ⟨rfl, rfl⟩
      · rw [decide_eq_false (by omega)] at hz
        subst hz
        go_enter Tryd.func22, Tryd.ntmps22
        go_wp2_with fail
        go_ret
        exact ⟨rfl, rfl⟩
    · rw [Nat.min_eq_left (by omega)] at hz
      by_cases h3 : (a : Int) + (n : Int) ≤ (b : Int)
      · rw [decide_eq_true (by omega)] at hz
        subst hz
        go_enter Tryd.func22, Tryd.ntmps22
        go_wp2_with fail
        go_ret
        exact ⟨rfl, rfl⟩
      · rw [decide_eq_false (by omega)] at hz
        subst hz
        go_enter Tryd.func22, Tryd.ntmps22
        go_wp2_with fail
        go_ret
        exact ⟨rfl, rfl⟩
  · rw [Nat.max_eq_left (by omega)] at hz
    by_cases h2 : (b : Int) + (m : Int) < (a : Int) + (n : Int)
    · rw [Nat.min_eq_right (by omega)] at hz
      by_cases h3 : (b : Int) + (m : Int) ≤ (a : Int)
      · rw [decide_eq_true (by omega)] at hz
        subst hz
        go_enter Tryd.func22, Tryd.ntmps22
        go_wp2_with fail
        go_ret
        exact ⟨rfl, rfl⟩
      · rw [decide_eq_false (by omega)] at hz
        subst hz
        go_enter Tryd.func22, Tryd.ntmps22
        go_wp2_with fail
        go_ret
        exact ⟨rfl, rfl⟩
    · rw [Nat.min_eq_left (by omega)] at hz
      by_cases h3 : (a : Int) + (n : Int) ≤ (a : Int)
      · rw [decide_eq_true (by omega)] at hz
        subst hz
        go_enter Tryd.func22, Tryd.ntmps22
        go_wp2_with fail
        go_ret
        exact ⟨rfl, rfl⟩
      · rw [decide_eq_false (by omega)] at hz
        subst hz
        go_enter Tryd.func22, Tryd.ntmps22
        go_wp2_with fail
        go_ret
        exact ⟨rfl, rfl⟩
theorem rapart_any (a n b m : Nat) (w : World) (ha : a < 4294967296) (hn : n < 4294967296) (hb : b < 4294967296) (hm : m < 4294967296) :
    Calls Tryd.prog 22 #[.int .i64 (a : Int), .int .i64 (n : Int), .int .i64 (b : Int), .int .i64 (m : Int)] w fun e w' => e = .returned (.bool (apB a n b m)) ∧ Below w.heap.size w w' :=
  (rapart_same a n b m w ha hn hb hm).mono fun _ _ ⟨h1, h2⟩ => ⟨h1, by subst h2; exact Below.refl _ _⟩
end Go.Proofs.YtjpmigagoedbcaaDoor
