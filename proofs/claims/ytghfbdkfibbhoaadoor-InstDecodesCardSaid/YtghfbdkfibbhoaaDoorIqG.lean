/-
Layer 11: package inst's withFields.
-/
import Derived.Test.YtghfbdkfibbhoaaDoorIqF
import Derived.Test.YtghfbdkfibbhoaaDoorInG
namespace Go.Proofs.YtghfbdkfibbhoaaDoor
open Go Go.RowKit

/-- a word with a form's fields put, as far as they fit -/
def fldL (f : Fm) (w a b c n : Nat) : Nat :=
  let w1 := immF f w n
  let w2 := if rdB f then withN w1 11 7 a else w1
  let w3 := if r1B f then withN w2 19 15 b else w2
  if r2B f then withN w3 24 20 c else w3
theorem ite_lt {p : Prop} [Decidable p] {a b n : Nat} (ha : a < n) (hb : b < n) : (if p then a else b) < n := by split <;> assumption
theorem fldL_lt (f : Fm) (w a b c n : Nat) (hw : w < 4294967296) : fldL f w a b c n < 4294967296 := by
  unfold fldL
  have h1 := immF_lt f w n hw
  have h2 : (if rdB f then withN (immF f w n) 11 7 a else immF f w n) < 4294967296 := ite_lt (with_lt _ _ _ _ h1) h1
  dsimp only
  generalize (if rdB f = true then withN (immF f w n) 11 7 a else immF f w n) = w2 at *
  have h3 : (if r1B f then withN w2 19 15 b else w2) < 4294967296 := ite_lt (with_lt _ _ _ _ h2) h2
  generalize (if r1B f = true then withN w2 19 15 b else w2) = w3 at *
  exact ite_lt (with_lt _ _ _ _ h3) h3
/-- a register's number as a word of 32 bits -/
def u32N (a : Int) : Nat := (a % 4294967296).toNat
theorem u32N_lt (a : Int) : u32N a < 4294967296 := by unfold u32N; omega
theorem u32N_is (a : Int) : a % 4294967296 = (u32N a : Int) := by unfold u32N; omega
theorem insA_one (i a b c n : Int) : ∀ j, (insA i a b c n j).oneCell' = true
  | 0 => rfl
  | 1 => rfl
  | 2 => rfl
  | 3 => rfl
  | _ + 4 => rfl
theorem withRd_any (y z : Nat) (hz : z < 4294967296) (hy : y < 4294967296) (W : World) :
    Calls Tryd.prog 35 #[.int .u32 (y : Int), .int .u64 11, .int .u64 7, .int .u32 (z : Int)] W fun e w' => e = .returned (.int .u32 ((withN y 11 7 z : Nat) : Int)) ∧ W = w' :=
  with_any y 11 7 z W hy (by decide) (by decide) (by decide) hz
theorem withR1_any (y z : Nat) (hz : z < 4294967296) (hy : y < 4294967296) (W : World) :
    Calls Tryd.prog 35 #[.int .u32 (y : Int), .int .u64 19, .int .u64 15, .int .u32 (z : Int)] W fun e w' => e = .returned (.int .u32 ((withN y 19 15 z : Nat) : Int)) ∧ W = w' :=
  with_any y 19 15 z W hy (by decide) (by decide) (by decide) hz
theorem withR2_any (y z : Nat) (hz : z < 4294967296) (hy : y < 4294967296) (W : World) :
    Calls Tryd.prog 35 #[.int .u32 (y : Int), .int .u64 24, .int .u64 20, .int .u32 (z : Int)] W fun e w' => e = .returned (.int .u32 ((withN y 24 20 z : Nat) : Int)) ∧ W = w' :=
  with_any y 24 20 z W hy (by decide) (by decide) (by decide) hz
set_option maxRecDepth 100000 in
set_option maxHeartbeats 4000000 in
theorem withFields_any (f : Fm) (hf : f ≠ .O) (x n : Nat) (i a b c : Int) (w : World) (hx : x < 4294967296) (hn : n < 4294967296) :
    Calls Tryd.prog 32 #[.int .u32 (x : Int), .int .i64 ((fmN f : Nat) : Int), .agg (tab 5 (insA i a b c (n : Int)))] w fun e w' => e = .returned (.int .u32 ((fldL f x (u32N a) (u32N b) (u32N c) n : Nat) : Int)) ∧ Below w.heap.size w w' := by
  have kI := fun W => withImmediate_any f hf x n W hx hn
  have k1 := fun W => hasRd_any (fmN f : Nat) W
  have k2 := fun W => hasRs1_any (fmN f : Nat) W
  have k3 := fun W => hasRs2_any (fmN f : Nat) W
  rw [rd_is f hf] at k1
  rw [r1_is f hf] at k2
  rw [r2_is f hf] at k3
  have ea := u32N_is a
  have eb := u32N_is b
  have ec := u32N_is c
  have la := u32N_lt a
  have lb := u32N_lt b
  have lc := u32N_lt c
  have h1 := immF_lt f x n hx
  have h2 := with_lt (immF f x n) 11 7 (u32N a) h1
  obtain ⟨r, hr⟩ : ∃ r, r = fldL f x (u32N a) (u32N b) (u32N c) n := ⟨_, rfl⟩
  rw [← hr]
  unfold fldL at hr
  dsimp only at hr
  generalize u32N a = a' at *
  generalize u32N b = b' at *
  generalize u32N c = c' at *
  generalize immF f x n = v at *
  generalize (fmN f) = k at *
  have w1 := fun y hy => withRd_any y a' la hy
  have w2 := fun y hy => withR1_any y b' lb hy
  have w3 := fun y hy => withR2_any y c' lc hy
  have et : tab 5 (insA i a b c (n : Int)) = #[.int .i64 i, .int .i64 a, .int .i64 b, .int .i64 c, .int .u32 (n : Int)] := rfl
  rw [et]
  clear h2 et
  have hall : ∀ W', Below (w.heap.size + 1) (w.alloc (.cells #[.int .i64 i, .int .i64 a, .int .i64 b, .int .i64 c, .int .u32 (n : Int)] 26)) W' → (W'.cell? ⟨w.heap.size, 1, none⟩ = some (.int .i64 a) ∧ W'.cell? ⟨w.heap.size, 2, none⟩ = some (.int .i64 b) ∧ W'.cell? ⟨w.heap.size, 3, none⟩ = some (.int .i64 c)) ∧ Below w.heap.size w W' := fun W' hb => by
    have hB : Has W' w.heap.size 26 (tab 5 (insA i a b c (n : Int))) := (Has.new w 26 (tab 5 (insA i a b c (n : Int)))).below hb (by omega)
    exact ⟨⟨hB.cellTab 1 (by omega), hB.cellTab 2 (by omega), hB.cellTab 3 (by omega)⟩, ((Below.refl _ _).alloc (Nat.le_refl _) _).trans (hb.mono (by omega))⟩
  have hs := size_alloc1 w (.cells #[.int .i64 i, .int .i64 a, .int .i64 b, .int .i64 c, .int .u32 (n : Int)] 26)
  have HALL := Lib.hid hall
  have HS := Lib.hid hs
  clear hall hs
  generalize rdB f = d1 at *
  generalize r1B f = d2 at *
  generalize r2B f = d3 at *
  cases d1 <;> cases d2 <;> cases d3 <;> (
    simp only [Bool.false_eq_true, if_true, if_false] at hr
    subst hr
    go_enter Tryd.func32, Tryd.ntmps32
    go_wp2_with (go_at_call 41; with_reducible refine (kI _).mono ?_; rintro e w2 ⟨rfl, rfl⟩)
    refine (k1 _).mono ?_
    rintro e w5 ⟨rfl, hb5⟩
    rw [HS.out] at hb5
    obtain ⟨⟨c1, c2, c3⟩, hb⟩ := HALL.out _ hb5
    have HB5 := Lib.hid hb5
    clear hb5 c2 c3 hb
    go_wp2_with (go_at_call 35; with_reducible refine (w1 _ h1 _).mono ?_; rintro e w2 ⟨rfl, rfl⟩)
    refine (k2 _).mono ?_
    rintro e w6 ⟨rfl, hb6⟩
    replace hb6 := HB5.out.trans (hb6.mono (by rw [← HS.out]; exact HB5.out.size))
    obtain ⟨⟨_, c2, c3⟩, hb⟩ := HALL.out _ hb6
    have HB6 := Lib.hid hb6
    clear hb6 c1 c3 hb
    go_wp2_with (go_at_call 35; with_reducible refine (w2 _ (by first | exact h1 | exact with_lt _ _ _ _ h1) _).mono ?_; rintro e w2 ⟨rfl, rfl⟩)
    refine (k3 _).mono ?_
    rintro e w7 ⟨rfl, hb7⟩
    replace hb7 := HB6.out.trans (hb7.mono (by rw [← HS.out]; exact HB6.out.size))
    obtain ⟨⟨_, _, c3⟩, hb⟩ := HALL.out _ hb7
    have HB7 := Lib.hid hb
    clear hb7 hb
    go_wp2_with (go_at_call 35; with_reducible refine (w3 _ (by first | exact h1 | exact with_lt _ _ _ _ h1 | exact with_lt _ _ _ _ (with_lt _ _ _ _ h1)) _).mono ?_; rintro e w2 ⟨rfl, rfl⟩)
    go_ret
    exact ⟨rfl, HB7.out⟩)
end Go.Proofs.YtghfbdkfibbhoaaDoor
