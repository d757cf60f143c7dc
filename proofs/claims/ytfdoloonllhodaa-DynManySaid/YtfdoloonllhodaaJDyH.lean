/-
Layer 9, the law's file: what comes in; where it is too much.
Layer 9: DynTables, over what the law's file answers.
-/
import Derived.Test.YtfdoloonllhodaaJDyG
import Derived.Test.YtfdoloonllhodaaJDyT
import Derived.Test.YtfdoloonllhodaaJElJ
namespace Go.Proofs.Ytfdoloonllhodaa
open Go Go.RowKit

def tgV (p : Nat × Nat) : Nat → Value
  | 0 => .int .u32 (p.1 : Int)
  | _ => .int .u32 (p.2 : Int)
def r3V (p : Nat × Nat × Nat) : Nat → Value
  | 0 => .int .u32 (p.1 : Int)
  | 1 => .int .u32 (p.2.1 : Int)
  | _ => .int .u32 (p.2.2 : Int)
theorem tgV_one (p : Nat × Nat) (j : Nat) : (tgV p j).oneCell' = true := by unfold tgV; split <;> rfl
theorem r3V_one (p : Nat × Nat × Nat) (j : Nat) : (r3V p j).oneCell' = true := by unfold r3V; split <;> rfl
def P32 (p : Nat × Nat) : Prop := p.1 < 4294967296 ∧ p.2 < 4294967296
def T32 (p : Nat × Nat × Nat) : Prop := p.1 < 4294967296 ∧ p.2.1 < 4294967296 ∧ p.2.2 < 4294967296
/-- slices of pairs, of numbers in threes, in memory -/
def SlTg (w : World) (s : Sl) (l : List (Nat × Nat)) : Prop := l.length = s.n ∧ SlC w s 2 (fun j i => tgV (l.getD j (0, 0)) i) ∧ ∀ p ∈ l, P32 p
def SlT3 (w : World) (s : Sl) (l : List (Nat × Nat × Nat)) : Prop := l.length = s.n ∧ SlC w s 3 (fun j i => r3V (l.getD j (0, 0, 0)) i) ∧ ∀ p ∈ l, T32 p
theorem SlTg.below {w w' : World} {s : Sl} {l : List (Nat × Nat)} (h : SlTg w s l) (k : Below w.heap.size w w') : SlTg w' s l := ⟨h.1, h.2.1.below k, h.2.2⟩
theorem SlT3.below {w w' : World} {s : Sl} {l : List (Nat × Nat × Nat)} (h : SlT3 w s l) (k : Below w.heap.size w w') : SlT3 w' s l := ⟨h.1, h.2.1.below k, h.2.2⟩
/-- a Tabled's cells -/
def tbC (t y r : Sl) (m : Int) (pl : Bool) : Array Value := #[t.v, y.v, r.v, .int .i64 m, .bool pl]
theorem g9_ways (n g y r : Nat) :
    ((240 < (n : Int)) ∧ (¬ (n ≤ 240 ∧ n % 4 = 0 ∧ n ≠ 0 ∧ g ≤ 20 ∧ y ≤ 80 ∧ r ≤ 80))) ∨
    (((n : Int) ≤ 240) ∧ ((((n : Int) % 4 != 0) = true)) ∧ (¬ (n ≤ 240 ∧ n % 4 = 0 ∧ n ≠ 0 ∧ g ≤ 20 ∧ y ≤ 80 ∧ r ≤ 80))) ∨
    (((n : Int) ≤ 240) ∧ ((((n : Int) % 4 != 0) = false)) ∧ ((((n : Int) == 0) = true)) ∧ (¬ (n ≤ 240 ∧ n % 4 = 0 ∧ n ≠ 0 ∧ g ≤ 20 ∧ y ≤ 80 ∧ r ≤ 80))) ∨
    (((n : Int) ≤ 240) ∧ ((((n : Int) % 4 != 0) = false)) ∧ ((((n : Int) == 0) = false)) ∧ (20 < (g : Int)) ∧ (¬ (n ≤ 240 ∧ n % 4 = 0 ∧ n ≠ 0 ∧ g ≤ 20 ∧ y ≤ 80 ∧ r ≤ 80))) ∨
    (((n : Int) ≤ 240) ∧ ((((n : Int) % 4 != 0) = false)) ∧ ((((n : Int) == 0) = false)) ∧ ((g : Int) ≤ 20) ∧ (80 < (y : Int)) ∧ (¬ (n ≤ 240 ∧ n % 4 = 0 ∧ n ≠ 0 ∧ g ≤ 20 ∧ y ≤ 80 ∧ r ≤ 80))) ∨
    (((n : Int) ≤ 240) ∧ ((((n : Int) % 4 != 0) = false)) ∧ ((((n : Int) == 0) = false)) ∧ ((g : Int) ≤ 20) ∧ ((y : Int) ≤ 80) ∧ (80 < (r : Int)) ∧ (¬ (n ≤ 240 ∧ n % 4 = 0 ∧ n ≠ 0 ∧ g ≤ 20 ∧ y ≤ 80 ∧ r ≤ 80))) ∨
    (((n : Int) ≤ 240) ∧ ((((n : Int) % 4 != 0) = false)) ∧ ((((n : Int) == 0) = false)) ∧ ((g : Int) ≤ 20) ∧ ((y : Int) ≤ 80) ∧ ((r : Int) ≤ 80) ∧ (n ≤ 240 ∧ n % 4 = 0 ∧ n ≠ 0 ∧ g ≤ 20 ∧ y ≤ 80 ∧ r ≤ 80)) := by
  by_cases h0 : 240 < n
  · exact (.inl ⟨by omega, (by omega)⟩)
  by_cases h1 : ¬ n % 4 = 0
  · exact (.inr (.inl ⟨by omega, by simp only [bne_iff_ne, ne_eq]; omega, (by omega)⟩))
  by_cases h2 : n = 0
  · exact (.inr (.inr (.inl ⟨by omega, by simp only [bne_eq_false_iff_eq]; omega, by simp only [beq_iff_eq]; omega, (by omega)⟩)))
  by_cases h3 : 20 < g
  · exact (.inr (.inr (.inr (.inl ⟨by omega, by simp only [bne_eq_false_iff_eq]; omega, by simp only [beq_eq_false_iff_ne, ne_eq]; omega, by omega, (by omega)⟩))))
  by_cases h4 : 80 < y
  · exact (.inr (.inr (.inr (.inr (.inl ⟨by omega, by simp only [bne_eq_false_iff_eq]; omega, by simp only [beq_eq_false_iff_ne, ne_eq]; omega, by omega, by omega, (by omega)⟩)))))
  by_cases h5 : 80 < r
  · exact (.inr (.inr (.inr (.inr (.inr (.inl ⟨by omega, by simp only [bne_eq_false_iff_eq]; omega, by simp only [beq_eq_false_iff_ne, ne_eq]; omega, by omega, by omega, by omega, (by omega)⟩))))))
  exact (.inr (.inr (.inr (.inr (.inr (.inr ⟨by omega, by simp only [bne_eq_false_iff_eq]; omega, by simp only [beq_eq_false_iff_ne, ne_eq]; omega, by omega, by omega, by omega, (by omega)⟩))))))
set_option maxRecDepth 100000 in
set_option maxHeartbeats 1000000 in
/-- too much: no file -/
theorem file9_nil (A : Option Addr) (n c : Nat) (t y r : Sl) (m : Int) (pl : Bool) (w : World) (h : ¬ (n ≤ 240 ∧ n % 4 = 0 ∧ n ≠ 0 ∧ t.n ≤ 20 ∧ y.n ≤ 80 ∧ r.n ≤ 80)) :
    Calls Try.prog 8 #[.slice A n c, .agg (tbC t y r m pl)] w fun e w' => e = .returned (.slice none 0 0) ∧ Below w.heap.size w w' := by
  obtain ⟨At, g, ct, rfl⟩ := t.out
  obtain ⟨Ay, ny, cy, rfl⟩ := y.out
  obtain ⟨Ar, nr, cr, rfl⟩ := r.out
  rw [show tbC ⟨At, g, ct⟩ ⟨Ay, ny, cy⟩ ⟨Ar, nr, cr⟩ m pl = #[.slice At g ct, .slice Ay ny cy, .slice Ar nr cr, .int .i64 m, .bool pl] from rfl]
  have hb : Below w.heap.size w (w.alloc (.cells #[.slice At g ct, .slice Ay ny cy, .slice Ar nr cr, .int .i64 m, .bool pl] 27)) := (Below.refl _ _).alloc (Nat.le_refl _) _
  rcases g9_ways n g ny nr with ⟨f0, fg⟩ | ⟨f0, f1, fg⟩ | ⟨f0, f1, f2, fg⟩ | ⟨f0, f1, f2, f3, fg⟩ | ⟨f0, f1, f2, f3, f4, fg⟩ | ⟨f0, f1, f2, f3, f4, f5, fg⟩ | ⟨f0, f1, f2, f3, f4, f5, fg⟩
  · clear fg h
    go_enter Try.func8, Try.ntmps8
    go_wp2_with fail
    go_ret
    exact ⟨rfl, hb⟩
  · clear fg h
    go_enter Try.func8, Try.ntmps8
    go_wp2_with fail
    go_ret
    exact ⟨rfl, hb⟩
  · clear fg h
    go_enter Try.func8, Try.ntmps8
    go_wp2_with fail
    go_ret
    exact ⟨rfl, hb⟩
  · clear fg h
    go_enter Try.func8, Try.ntmps8
    go_wp2_with fail
    go_ret
    exact ⟨rfl, hb⟩
  · clear fg h
    go_enter Try.func8, Try.ntmps8
    go_wp2_with fail
    go_ret
    exact ⟨rfl, hb⟩
  · clear fg h
    go_enter Try.func8, Try.ntmps8
    go_wp2_with fail
    go_ret
    exact ⟨rfl, hb⟩
  · exact absurd fg h
end Go.Proofs.Ytfdoloonllhodaa
namespace Go.Proofs.Ytfdoloonllhodaa
open Go Go.RowKit

/-- the law makes a file of them -/
def fits9 (n g y r : Nat) : Bool := decide (n ≤ 240 ∧ n % 4 = 0 ∧ n ≠ 0 ∧ g ≤ 20 ∧ y ≤ 80 ∧ r ≤ 80)
def tags9 (tg : List (Nat × Nat)) (n m : Nat) (pl : Bool) : List (Nat × Nat) := if pl = true then tg ++ ownT n m else tg
def file9N (code : List UInt8) (tg : List (Nat × Nat)) (sy : List Nat) (rl : List (Nat × Nat × Nat)) (m : Int) (pl : Bool) : List UInt8 :=
  tabF code (natI (IntKind.i64.wrap ((sy.length : Int) + m))) sy rl (tags9 tg sy.length rl.length pl)
theorem tags9_len (tg : List (Nat × Nat)) (n m : Nat) (pl : Bool) : (tags9 tg n m pl).length ≤ tg.length + 7 := by
  unfold tags9
  split
  · rw [List.length_append]; exact Nat.le_refl _
  · omega
theorem tabF_len (code : List UInt8) (c : Nat) (sy : List Nat) (rl : List (Nat × Nat × Nat)) (tg : List (Nat × Nat)) : (tabF code c sy rl tg).length = 148 + code.length + (8 + 16 * sy.length + 12 * rl.length) + 16 * tg.length := by
  unfold tabF
  rw [fileN_len]
  simp only [List.flatten_cons, List.flatten_nil, List.length_append, List.append_nil, bodyN_len]
  unfold tabAt
  have hz : (zs (8 * tg.length)).length = 8 * tg.length := by simp [zs]
  rw [hz]
  show 52 + 32 * 3 + _ = _
  omega
/-- what the law's file answers -/
def File9R (code : List UInt8) (tg : List (Nat × Nat)) (sy : List Nat) (rl : List (Nat × Nat × Nat)) (m : Int) (pl : Bool) (A : Option Addr) (n c : Nat) (w : World) : Prop :=
  if fits9 code.length tg.length sy.length rl.length = true then RowB w (.slice A n c) (file9N code tg sy rl m pl) ∧ c < 9223372036854775808 else A = none ∧ n = 0 ∧ c = 0
structure Fl9OK : Prop where
  file_ok : ∀ (code : List UInt8) (A : Option Addr) (n c : Nat) (t y r : Sl) (tg : List (Nat × Nat)) (sy : List Nat) (rl : List (Nat × Nat × Nat)) (m : Int) (pl : Bool) (w : World),
    SlA w A n c code → (A = none → c = 0) → SlTg w t tg → SlU w y sy → (∀ v ∈ sy, v < 4294967296) → SlT3 w r rl → -9223372036854775808 ≤ m → m < 9223372036854775808 →
    Calls Try.prog 8 #[.slice A n c, .agg (tbC t y r m pl)] w fun e w' => (∃ A n c, e = .returned (.slice A n c) ∧ File9R code tg sy rl m pl A n c w') ∧ Below w.heap.size w w'
set_option maxRecDepth 100000 in
set_option maxHeartbeats 1000000 in
theorem tables9_ok (H : DynOK) (F : Fl9OK) (code : List UInt8) (A : Option Addr) (n c : Nat) (t y r : Sl) (tg : List (Nat × Nat)) (sy : List Nat) (rl : List (Nat × Nat × Nat)) (m : Int) (pl : Bool) (w : World)
    (hS : SlA w A n c code) (hA : A = none → c = 0) (ht : SlTg w t tg) (hy : SlU w y sy) (hyf : ∀ v ∈ sy, v < 4294967296) (hr : SlT3 w r rl) (hm1 : -9223372036854775808 ≤ m) (hm2 : m < 9223372036854775808) :
    Calls Try.prog 3 #[.slice A n c, .agg (tbC t y r m pl)] w fun e w' => e = .returned (.bool true) ∧ Below w.heap.size w w' := by
  have kF := fun w1 (hb : Below w.heap.size w w1) => F.file_ok code A n c t y r tg sy rl m pl w1 (hS.below hb) hA (ht.below hb) (hy.below hb) hyf (hr.below hb) hm1 hm2
  clear hS hA ht hy hyf hr hm1 hm2
  obtain ⟨At, g, ct, rfl⟩ := t.out
  obtain ⟨Ay, ny, cy, rfl⟩ := y.out
  obtain ⟨Ar, nr, cr, rfl⟩ := r.out
  rw [show tbC ⟨At, g, ct⟩ ⟨Ay, ny, cy⟩ ⟨Ar, nr, cr⟩ m pl = #[.slice At g ct, .slice Ay ny cy, .slice Ar nr cr, .int .i64 m, .bool pl] from rfl] at kF ⊢
  go_enter Try.func3, Try.ntmps3
  go_wp2_with fail
  have hb0 : Below w.heap.size w (w.alloc (.cells #[.slice At g ct, .slice Ay ny cy, .slice Ar nr cr, .int .i64 m, .bool pl] 27)) := (Below.refl _ _).alloc (Nat.le_refl _) _
  have hG : Has (w.alloc (.cells #[.slice At g ct, .slice Ay ny cy, .slice Ar nr cr, .int .i64 m, .bool pl] 27)) w.heap.size 27 #[.slice At g ct, .slice Ay ny cy, .slice Ar nr cr, .int .i64 m, .bool pl] := Has.new _ _ _
  generalize w.alloc (.cells #[.slice At g ct, .slice Ay ny cy, .slice Ar nr cr, .int .i64 m, .bool pl] 27) = w1 at *
  refine (fit9_any H w1).mono ?_
  rintro e u1 ⟨rfl, hb1⟩
  replace hG := hG.after hb1
  have hb := below_trans hb0 hb1
  have k1 := kF u1 hb
  have a0 := hG.cell 0
  have a1 := hG.cell 1
  have a2 := hG.cell 2
  have a3 := hG.cell 3
  have a4 := hG.cell 4
  clear hb0 hb1 kF
  go_wp2_with fail
  refine k1.mono ?_
  rintro e u2 ⟨⟨A2, n2, c2, rfl, hR⟩, hb2⟩
  replace hb := below_trans hb hb2
  clear k1 hb2 hG a0 a1 a2 a3 a4
  unfold File9R at hR
  by_cases hf : fits9 code.length tg.length sy.length rl.length = true
  · rw [if_pos hf] at hR
    obtain ⟨hR, hc2⟩ := hR
    have hft := of_decide_eq_true hf
    have htl := tags9_len tg sy.length rl.length pl
    have hln : (file9N code tg sy rl m pl).length = _ := tabF_len _ _ _ _ _
    obtain ⟨b, o, rfl⟩ := slA_some hR.slA.1 (by omega)
    have k := like_any H (file9N code tg sy rl m pl) (some ⟨b, o, none⟩) n2 c2 u2 hR.slA.1 hR.slA.2 hc2 (by omega)
    have heq := fun w => Lib.run_eql_slice_nil (P := Try.prog) w 22 5 (some ⟨b, o, none⟩) n2 c2 0 0 Try.underlying22
    simp only [Option.isNone_some] at heq
    clear hR hln hft htl hf
    go_wp2_with (refine k.mono ?_; rintro e u3 ⟨rfl, hb3⟩)
    go_ret
    exact ⟨rfl, below_trans hb hb3⟩
  · rw [if_neg hf] at hR
    obtain ⟨rfl, rfl, rfl⟩ := hR
    clear hf
    have heq := fun w => Lib.run_eql_slice_nil (P := Try.prog) w 22 5 none 0 0 0 0 Try.underlying22
    simp only [Option.isNone_none] at heq
    go_wp2_with fail
    go_ret
    exact ⟨rfl, hb⟩
end Go.Proofs.Ytfdoloonllhodaa
