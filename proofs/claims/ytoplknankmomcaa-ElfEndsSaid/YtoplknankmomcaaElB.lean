/-
Layer 8, the reference: Heads.
-/
import Derived.Test.YtoplknankmomcaaElA
namespace Go.Proofs.Ytoplknankmomcaa
open Go Go.RowKit

/-- the cursor is at q, or has failed -/
def CuAt (bs : List UInt8) (q : Nat) (s : Cu) : Prop := s.bad = decide (bs.length < q) ∧ (q ≤ bs.length → s.p = q)
theorem CuAt.okE {bs : List UInt8} {q k : Nat} {s : Cu} (h : CuAt bs q s) : okT bs.length s.p s.bad (k : Int) = decide (q ≤ bs.length ∧ q + k ≤ bs.length) := by
  obtain ⟨hb, hp⟩ := h
  unfold okT
  rw [hb, Bool.eq_iff_iff]
  simp only [Bool.and_eq_true, Bool.not_eq_true', decide_eq_false_iff_not, decide_eq_true_eq]
  constructor
  · rintro ⟨h1, _, h2⟩
    rw [hp (by omega)] at h2
    omega
  · rintro ⟨h1, h2⟩
    rw [hp h1]
    omega
theorem CuAt.num {bs : List UInt8} {q k : Nat} {s : Cu} (h : CuAt bs q s) : s.num bs k = nm bs k q := by
  unfold Cu.num tkN nm
  rw [h.okE]
  by_cases h2 : q + k ≤ bs.length
  · rw [if_pos h2, if_pos (decide_eq_true ⟨by omega, h2⟩), h.2 (by omega)]
  · rw [if_neg h2, if_neg (by rw [decide_eq_true_eq]; omega)]
theorem CuAt.nxt {bs : List UInt8} {q k : Nat} {s : Cu} (h : CuAt bs q s) : CuAt bs (q + k) (s.nxt bs k) := by
  unfold Cu.nxt CuAt
  dsimp only
  unfold tkP
  rw [h.okE]
  by_cases h2 : q + k ≤ bs.length
  · rw [if_pos (decide_eq_true ⟨by omega, h2⟩), decide_eq_true ⟨by omega, h2⟩, decide_eq_false (by omega), h.2 (by omega)]
    exact ⟨rfl, fun _ => by simp⟩
  · rw [if_neg (by rw [decide_eq_true_eq]; omega), decide_eq_false (by omega), decide_eq_true (by omega)]
    exact ⟨rfl, fun h3 => absurd h3 h2⟩
/-- the reference's cursor at gc is at q -/
def DcA (w0 : World) (bs : List UInt8) (A : Option Addr) (n c gc q : Nat) (w : World) : Prop := ∃ s, DcH w0 bs A n c gc s w ∧ CuAt bs q s
section
variable {w0 w w' : World} {bs : List UInt8} {A : Option Addr} {n c gc q : Nat}
theorem DcA.after (h : DcA w0 bs A n c gc q w) (k : Below w.heap.size w w') : DcA w0 bs A n c gc q w' := by
  obtain ⟨s, h1, h2⟩ := h
  exact ⟨s, h1.after k, h2⟩
theorem DcA.grown {g : Nat} (h : DcA w0 bs A n c gc q w) (k : w.grownBy w' (some g)) (hg : w0.heap.size ≤ g) (hne : gc ≠ g) : DcA w0 bs A n c gc q w' := by
  obtain ⟨s, h1, h2⟩ := h
  exact ⟨s, h1.grown k hg hne, h2⟩
theorem DcA.bel (h : DcA w0 bs A n c gc q w) : Below w0.heap.size w0 w := by obtain ⟨s, h1, _⟩ := h; exact h1.bel
theorem DcA.curE (h : DcA w0 bs A n c gc q w) : ∃ cs, Has w gc 72 cs := by obtain ⟨s, h1, _⟩ := h; exact ⟨_, h1.cur⟩
theorem DcA.gcB (h : DcA w0 bs A n c gc q w) : w0.heap.size ≤ gc := by obtain ⟨s, h1, _⟩ := h; exact h1.gcB
theorem DcA.bad (h : DcA w0 bs A n c gc q w) : w.cell? ⟨gc, 2, none⟩ = some (.bool (decide (bs.length < q))) := by
  obtain ⟨s, h1, h2⟩ := h
  rw [← h2.1]
  exact h1.cur.cellTab 2 (by omega)
theorem DcA.own {base size m : Nat} {t : TypeId} {v : Value} {xs : List Value} (h : DcA w0 bs A n c gc q w) (ho : w.ownsRow base t size v m xs) (hB : w0.heap.size ≤ base) (ht : 72 ≠ t) (k : w.grownBy w' v.ownBlock) : DcA w0 bs A n c gc q w' := by
  obtain ⟨s, h1, h2⟩ := h
  exact ⟨s, h1.own ho hB ht k, h2⟩
theorem DcA.num (h : DcA w0 bs A n c gc q w) (k : Nat) (hk : 0 < k) (hk4 : k ≤ 4) :
    Calls Try.prog 25 #[.pointer (some ⟨gc, 0, none⟩), .int .i64 (k : Int)] w fun e w' => e = .returned (.int .i64 ((nm bs k q : Nat) : Int)) ∧ DcA w0 bs A n c gc (q + k) w' ∧ w.grownBy w' (some gc) := by
  obtain ⟨s, h1, h2⟩ := h
  have := h1.num k hk hk4
  rw [h2.num] at this
  exact this.mono fun e w' ⟨h3, h4, h5⟩ => ⟨h3, ⟨_, h4, h2.nxt⟩, h5⟩
theorem DcA.num4 (h : DcA w0 bs A n c gc q w) :
    Calls Try.prog 25 #[.pointer (some ⟨gc, 0, none⟩), .int .i64 4] w fun e w' => e = .returned (.int .i64 ((nm bs 4 q : Nat) : Int)) ∧ DcA w0 bs A n c gc (q + 4) w' ∧ w.grownBy w' (some gc) := h.num 4 (by decide) (by decide)
theorem DcA.num2 (h : DcA w0 bs A n c gc q w) :
    Calls Try.prog 25 #[.pointer (some ⟨gc, 0, none⟩), .int .i64 2] w fun e w' => e = .returned (.int .i64 ((nm bs 2 q : Nat) : Int)) ∧ DcA w0 bs A n c gc (q + 2) w' ∧ w.grownBy w' (some gc) := h.num 2 (by decide) (by decide)
theorem DcA.take (h : DcA w0 bs A n c gc q w) (k : Nat) :
    Calls Try.prog 24 #[.pointer (some ⟨gc, 0, none⟩), .int .i64 (k : Int)] w fun e w' => (∃ A' n' c', e = .returned (.slice A' n' c') ∧ SlA w' A' n' c' (if q + k ≤ bs.length then (bs.drop q).take k else [])) ∧ DcA w0 bs A n c gc (q + k) w' ∧ w.grownBy w' (some gc) := by
  obtain ⟨s, h1, h2⟩ := h
  refine (h1.take k).mono fun e w' ⟨⟨A', n', c', h3, h4, _⟩, h5, h6⟩ => ⟨⟨A', n', c', h3, ?_⟩, ⟨_, h5, h2.nxt⟩, h6⟩
  unfold tkB at h4
  rw [h2.okE] at h4
  by_cases h7 : q + k ≤ bs.length
  · rw [if_pos h7]
    rwa [if_pos (decide_eq_true ⟨by omega, h7⟩), h2.2 (by omega)] at h4
  · rw [if_neg h7]
    rwa [if_neg (by rw [decide_eq_true_eq]; omega)] at h4
theorem DcA.take6 (h : DcA w0 bs A n c gc q w) :
    Calls Try.prog 24 #[.pointer (some ⟨gc, 0, none⟩), .int .i64 6] w fun e w' => (∃ A' n' c', e = .returned (.slice A' n' c') ∧ SlA w' A' n' c' (if q + 6 ≤ bs.length then (bs.drop q).take 6 else [])) ∧ DcA w0 bs A n c gc (q + 6) w' ∧ w.grownBy w' (some gc) := h.take 6
theorem DcA.take16 (h : DcA w0 bs A n c gc q w) :
    Calls Try.prog 24 #[.pointer (some ⟨gc, 0, none⟩), .int .i64 16] w fun e w' => (∃ A' n' c', e = .returned (.slice A' n' c') ∧ SlA w' A' n' c' (if q + 16 ≤ bs.length then (bs.drop q).take 16 else [])) ∧ DcA w0 bs A n c gc (q + 16) w' ∧ w.grownBy w' (some gc) := h.take 16
end
/-- a cursor is laid -/
theorem DcA.new {w0 w : World} {bs : List UInt8} {A : Option Addr} {n c q g : Nat} (hS : SlA w0 A n c bs) (hA : A = none → c = 0) (hc : c < 9223372036854775808) (hb : Below w0.heap.size w0 w) (hq : q ≤ bs.length) (hG : Has w g 72 (curC A n c q false)) (hg : w0.heap.size ≤ g) : DcA w0 bs A n c g q w :=
  ⟨⟨q, false⟩, ⟨hG, hS, hA, hc, hq, hb, hg⟩, by show false = _; rw [decide_eq_false (by omega)], fun _ => rfl⟩
/-- the string of the bytes is the file's beginning -/
theorem strB_id (l : List UInt8) : ((strB l).toList == [127, 69, 76, 70, 1, 1, 1, 0, 0, 0, 0, 0, 0, 0, 0, 0]) = decide (l = ident16) := by
  rw [strB_toList]
  by_cases h : l = ident16
  · rw [decide_eq_true h, beq_iff_eq]; exact h
  · rw [decide_eq_false h, beq_eq_false_iff_ne]; exact h
def mk16 (bs : List UInt8) : List UInt8 := if 0 + 16 ≤ bs.length then (bs.drop 0).take 16 else []
theorem mk16_id (bs : List UInt8) : decide (mk16 bs = ident16) = decide (bs.take 16 = ident16) := by
  unfold mk16
  by_cases h : 0 + 16 ≤ bs.length
  · rw [if_pos h, List.drop_zero]
  · rw [if_neg h, decide_eq_false (by decide), decide_eq_false]
    intro e
    have := congrArg List.length e
    rw [List.length_take] at this
    have e2 : ident16.length = 16 := rfl
    omega
/-- the first three numbers: how many bytes, what they must be, where -/
def szN : Nat → Nat
  | 0 => 2
  | 1 => 2
  | _ => 4
def wnN : Nat → Nat
  | 0 => 3
  | 1 => 243
  | _ => 1
def q3 : Nat → Nat
  | 0 => 16
  | 1 => 18
  | 2 => 20
  | _ => 24
theorem q3_next {i : Nat} (h : i < 3) : q3 i + szN i = q3 (i + 1) := by
  rcases (show i = 0 ∨ i = 1 ∨ i = 2 by omega) with rfl | rfl | rfl <;> rfl
def ok3 (bs : List UInt8) : Nat → Bool
  | 0 => decide (bs.take 16 = ident16)
  | i + 1 => ok3 bs i && decide (nm bs (szN i) (q3 i) = wnN i)
theorem fileB_eq (bs : List UInt8) : fileB bs = (ok3 bs 3 && !decide (bs.length < 52) && decide (nm bs 4 36 = 0 ∧ nm bs 2 40 = 52 ∧ nm bs 2 42 = 32 ∧ 1 ≤ hN bs ∧ hN bs ≤ 5 ∧ hAt bs + 32 * hN bs ≤ bs.length)) := by
  unfold fileB ok3 ok3 ok3 ok3
  show _ = (((decide (bs.take 16 = ident16) && decide (nm bs 2 16 = 3)) && decide (nm bs 2 18 = 243)) && decide (nm bs 4 20 = 1) && _ && _)
  rw [← decide_not, ← Bool.decide_and, ← Bool.decide_and, ← Bool.decide_and, ← Bool.decide_and, ← Bool.decide_and]
  apply decide_eq_decide.2
  constructor
  · rintro ⟨h1, h2, h3, h4, h5, h6⟩
    exact ⟨⟨⟨⟨⟨h2, h3⟩, h4⟩, h5⟩, by omega⟩, h6⟩
  · rintro ⟨⟨⟨⟨⟨h2, h3⟩, h4⟩, h5⟩, h1⟩, h6⟩
    exact ⟨by omega, h2, h3, h4, h5, h6⟩
theorem fileB_vals {bs : List UInt8} {ok bad : Bool} {fl sz ea nh p : Nat} (h1 : ok3 bs 3 = ok) (h2 : decide (bs.length < 52) = bad) (h3 : nm bs 4 36 = fl) (h4 : nm bs 2 40 = sz) (h5 : nm bs 2 42 = ea) (h6 : nm bs 2 44 = nh) (h7 : nm bs 4 28 = p) :
    fileB bs = (ok && !bad && decide (fl = 0 ∧ sz = 52 ∧ ea = 32 ∧ 1 ≤ nh ∧ nh ≤ 5 ∧ p + 32 * nh ≤ bs.length)) ∧ hN bs = nh ∧ hAt bs = p := by
  rw [fileB_eq, h1, h2, h3, h4, h5, show hN bs = nh from h6, show hAt bs = p from h7]
  exact ⟨rfl, rfl, rfl⟩
theorem h19_ways (fl sz ea nh p n : Nat) :
    (((((fl : Int) != 0) = true)) ∧ (¬ (fl = 0 ∧ sz = 52 ∧ ea = 32 ∧ 1 ≤ nh ∧ nh ≤ 5 ∧ p + 32 * nh ≤ n))) ∨
    (((((fl : Int) != 0) = false)) ∧ ((((sz : Int) != 52) = true)) ∧ (¬ (fl = 0 ∧ sz = 52 ∧ ea = 32 ∧ 1 ≤ nh ∧ nh ≤ 5 ∧ p + 32 * nh ≤ n))) ∨
    (((((fl : Int) != 0) = false)) ∧ ((((sz : Int) != 52) = false)) ∧ ((((ea : Int) != 32) = true)) ∧ (¬ (fl = 0 ∧ sz = 52 ∧ ea = 32 ∧ 1 ≤ nh ∧ nh ≤ 5 ∧ p + 32 * nh ≤ n))) ∨
    (((((fl : Int) != 0) = false)) ∧ ((((sz : Int) != 52) = false)) ∧ ((((ea : Int) != 32) = false)) ∧ ((nh : Int) < 1) ∧ (¬ (fl = 0 ∧ sz = 52 ∧ ea = 32 ∧ 1 ≤ nh ∧ nh ≤ 5 ∧ p + 32 * nh ≤ n))) ∨
    (((((fl : Int) != 0) = false)) ∧ ((((sz : Int) != 52) = false)) ∧ ((((ea : Int) != 32) = false)) ∧ (1 ≤ (nh : Int)) ∧ (5 < (nh : Int)) ∧ (¬ (fl = 0 ∧ sz = 52 ∧ ea = 32 ∧ 1 ≤ nh ∧ nh ≤ 5 ∧ p + 32 * nh ≤ n))) ∨
    (((((fl : Int) != 0) = false)) ∧ ((((sz : Int) != 52) = false)) ∧ ((((ea : Int) != 32) = false)) ∧ (1 ≤ (nh : Int)) ∧ ((nh : Int) ≤ 5) ∧ ((n : Int) < (p : Int) + 32 * (nh : Int)) ∧ (¬ (fl = 0 ∧ sz = 52 ∧ ea = 32 ∧ 1 ≤ nh ∧ nh ≤ 5 ∧ p + 32 * nh ≤ n))) ∨
    (((((fl : Int) != 0) = false)) ∧ ((((sz : Int) != 52) = false)) ∧ ((((ea : Int) != 32) = false)) ∧ (1 ≤ (nh : Int)) ∧ ((nh : Int) ≤ 5) ∧ ((p : Int) + 32 * (nh : Int) ≤ (n : Int)) ∧ (fl = 0 ∧ sz = 52 ∧ ea = 32 ∧ 1 ≤ nh ∧ nh ≤ 5 ∧ p + 32 * nh ≤ n)) := by
  by_cases h0 : ¬ fl = 0
  · exact (.inl ⟨by simp only [bne_iff_ne, ne_eq]; omega, (by omega)⟩)
  by_cases h1 : ¬ sz = 52
  · exact (.inr (.inl ⟨by simp only [bne_eq_false_iff_eq]; omega, by simp only [bne_iff_ne, ne_eq]; omega, (by omega)⟩))
  by_cases h2 : ¬ ea = 32
  · exact (.inr (.inr (.inl ⟨by simp only [bne_eq_false_iff_eq]; omega, by simp only [bne_eq_false_iff_eq]; omega, by simp only [bne_iff_ne, ne_eq]; omega, (by omega)⟩)))
  by_cases h3 : nh < 1
  · exact (.inr (.inr (.inr (.inl ⟨by simp only [bne_eq_false_iff_eq]; omega, by simp only [bne_eq_false_iff_eq]; omega, by simp only [bne_eq_false_iff_eq]; omega, by omega, (by omega)⟩))))
  by_cases h4 : 5 < nh
  · exact (.inr (.inr (.inr (.inr (.inl ⟨by simp only [bne_eq_false_iff_eq]; omega, by simp only [bne_eq_false_iff_eq]; omega, by simp only [bne_eq_false_iff_eq]; omega, by omega, by omega, (by omega)⟩)))))
  by_cases h5 : n < p + 32 * nh
  · exact (.inr (.inr (.inr (.inr (.inr (.inl ⟨by simp only [bne_eq_false_iff_eq]; omega, by simp only [bne_eq_false_iff_eq]; omega, by simp only [bne_eq_false_iff_eq]; omega, by omega, by omega, by omega, (by omega)⟩))))))
  exact (.inr (.inr (.inr (.inr (.inr (.inr ⟨by simp only [bne_eq_false_iff_eq]; omega, by simp only [bne_eq_false_iff_eq]; omega, by simp only [bne_eq_false_iff_eq]; omega, by omega, by omega, by omega, (by omega)⟩))))))
theorem headsN_bad {bs : List UInt8} (h : fileB bs = false) : headsN bs = (0, [], 8) := by unfold headsN; rw [h]; rfl
theorem slJ_nil (w : World) : SlJ w ⟨none, 0, 0⟩ [] := ⟨rfl, ⟨Nat.le_refl _, Nat.zero_le _⟩, fun h => absurd h (Nat.lt_irrefl _)⟩
theorem headsN_badH {bs : List UInt8} {i : Nat} (hi : i < hN bs) (h : hdX bs (hAt bs + 32 * i) = true) : headsN bs = (0, [], 8) := by
  unfold headsN
  have : hdsB bs = false := by
    unfold hdsB
    rw [List.all_eq_false]
    exact ⟨i, List.mem_range.2 hi, by rw [h]; simp⟩
  rw [this, Bool.and_false]; rfl
theorem headsN_ok {bs : List UInt8} (hf : fileB bs = true) (h : ∀ i, i < hN bs → hdX bs (hAt bs + 32 * i) = false) : headsN bs = (nm bs 4 24, hds bs (hN bs), 0) := by
  unfold headsN
  have : hdsB bs = true := by
    unfold hdsB
    rw [List.all_eq_true]
    intro i hi
    rw [h i (List.mem_range.1 hi)]; rfl
  rw [hf, this]; rfl
theorem hds_succ (bs : List UInt8) (n : Nat) : hds bs (n + 1) = hds bs n ++ [hdA bs (hAt bs + 32 * n)] := by
  unfold hds
  rw [List.range_succ, List.map_append]; rfl
theorem x31_ways1 (_k fl a f m n : Nat) :
    ((7 < (fl : Int)) ∧ (¬ (¬ (7 < fl ∨ n < a + f ∨ m < f)))) ∨
    (((fl : Int) ≤ 7) ∧ ((n : Int) < (a : Int) + (f : Int)) ∧ (¬ (¬ (7 < fl ∨ n < a + f ∨ m < f)))) ∨
    (((fl : Int) ≤ 7) ∧ ((a : Int) + (f : Int) ≤ (n : Int)) ∧ ((m : Int) < (f : Int)) ∧ (¬ (¬ (7 < fl ∨ n < a + f ∨ m < f)))) ∨
    (((fl : Int) ≤ 7) ∧ ((a : Int) + (f : Int) ≤ (n : Int)) ∧ ((f : Int) ≤ (m : Int)) ∧ (¬ (7 < fl ∨ n < a + f ∨ m < f))) := by
  by_cases h0 : 7 < fl
  · exact (.inl ⟨by omega, (by omega)⟩)
  by_cases h1 : n < a + f
  · exact (.inr (.inl ⟨by omega, by omega, (by omega)⟩))
  by_cases h2 : m < f
  · exact (.inr (.inr (.inl ⟨by omega, by omega, by omega, (by omega)⟩)))
  exact (.inr (.inr (.inr ⟨by omega, by omega, by omega, (by omega)⟩)))
end Go.Proofs.Ytoplknankmomcaa
