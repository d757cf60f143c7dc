/-
Layer 11, plain: a word's decoding and encoding agree.
-/
import Derived.Test.YtghfbdkfibbhoaaDoorIqK
import Derived.Test.YtghfbdkfibbhoaaDoorInI
namespace Go.Proofs.YtghfbdkfibbhoaaDoor
open Go Go.RowKit

theorem all57 {p : Nat → Bool} (h : (List.range 57).all p = true) {i : Nat} (hi : i < 57) : p i = true := List.all_eq_true.1 h i (List.mem_range.2 hi)
/-- an operation's word has no bit in its fields -/
theorem word_src (i j : Nat) (hi : i < 57) (hj : j < 32) (h : srcF (opP i).1 j ≠ .k) : (opP i).2.testBit j = false := by
  have h1 : (List.range 57).all (fun i => (List.range 32).all fun j => decide (srcF (opP i).1 j = .k) || !(opP i).2.testBit j) = true := by decide +kernel
  have h2 := List.all_eq_true.1 (all57 h1 hi) j (List.mem_range.2 hj)
  rcases Bool.or_eq_true_iff.1 h2 with h3 | h3
  · exact absurd (of_decide_eq_true h3) h
  · simpa using h3
theorem word_mask (i : Nat) (hi : i < 57) : (opP i).2 &&& maskN (opP i).1 = (opP i).2 := by
  have h1 : (List.range 57).all (fun i => decide ((opP i).2 &&& maskN (opP i).1 = (opP i).2)) = true := by decide +kernel
  exact of_decide_eq_true (all57 h1 hi)
/-- no word is of two operations -/
theorem mtch_one (w i j : Nat) (hi1 : 1 ≤ i) (hi : i < 57) (hj1 : 1 ≤ j) (hj : j < 57) (h1 : mtchB w i = true) (h2 : mtchB w j = true) : i = j := by
  have h3 : (List.range 57).all (fun i => (List.range 57).all fun j => decide (i = 0) || decide (j = 0) || decide (i = j) || decide ((opP i).2 &&& maskN (opP j).1 ≠ (opP j).2 &&& maskN (opP i).1)) = true := by decide +kernel
  have h4 := List.all_eq_true.1 (all57 h3 hi) j (List.mem_range.2 hj)
  rcases Bool.or_eq_true_iff.1 h4 with h5 | h5
  · rcases Bool.or_eq_true_iff.1 h5 with h6 | h6
    · rcases Bool.or_eq_true_iff.1 h6 with h7 | h7
      · have := of_decide_eq_true h7; omega
      · have := of_decide_eq_true h7; omega
    · exact of_decide_eq_true h6
  · exfalso
    refine of_decide_eq_true h5 ?_
    rw [← of_decide_eq_true h1, ← of_decide_eq_true h2, Nat.and_assoc, Nat.and_assoc, Nat.and_comm (maskN (opP i).1)]
theorem opOf_is (w i : Nat) (h1 : 1 ≤ i) (h2 : i < 57) (h : mtchB w i = true) : opOf w = i := by
  refine opOf_some h1 h2 h fun j hj1 hj => ?_
  cases hm : mtchB w j with
  | false => rfl
  | true => have := mtch_one w i j h1 h2 hj1 (by omega) h hm; omega
theorem opOf_cases (w : Nat) : opOf w = 0 ∨ (1 ≤ opOf w ∧ opOf w < 57 ∧ mtchB w (opOf w) = true) := by
  unfold opOf
  cases h : (List.range 57).find? (fun i => decide (1 ≤ i) && mtchB w i) with
  | none => exact Or.inl rfl
  | some i =>
    right
    obtain ⟨h1, h2, _⟩ := List.find?_range_eq_some.1 h
    obtain ⟨h3, h4⟩ := Bool.and_eq_true_iff.1 h1
    exact ⟨of_decide_eq_true h3, List.mem_range.1 h2, h4⟩
theorem fldL_F (w a b c n : Nat) : fldL .F w a b c n = w := rfl
theorem ne_F (i : Nat) (hi : i < 57) (h : (opP i).1 = .F) : i = 46 := by
  have h1 : (List.range 57).all (fun i => decide ((opP i).1 ≠ .F) || decide (i = 46)) = true := by decide +kernel
  rcases Bool.or_eq_true_iff.1 (all57 h1 hi) with h2 | h2
  · exact absurd h (of_decide_eq_true h2)
  · exact of_decide_eq_true h2
/-- a word with an operation's fields put is that operation's -/
theorem fld_mtch (i a b c n : Nat) (h1 : 1 ≤ i) (h2 : i < 57) : mtchB (fldL (opP i).1 (opP i).2 a b c n) i = true := by
  refine decide_eq_true ?_
  by_cases hF : (opP i).1 = .F
  · rw [hF, fldL_F, ← hF]; exact word_mask i h2
  · refine eq_bits (and_lt _ _ (fldL_lt _ _ _ _ _ _ (word_lt i))) (word_lt i) fun j hj => ?_
    rw [and_bit, fldL_bit _ _ _ _ _ _ j hj, mask_src _ (opP_ne i h1 h2) hF j hj]
    by_cases hk : srcF (opP i).1 j = .k
    · rw [hk]; simp [Src.bit]
    · rw [word_src i j h2 hj hk]; simp [hk]
/- where a bit of the reference's word comes from: all the places that are or-ed -/
def regS (f : Fm) (i : Nat) : List Src := [.k] ++ (bif rdB f && inB 11 7 i then [.a (i - 7)] else []) ++ (bif r1B f && inB 19 15 i then [.b (i - 15)] else []) ++ (bif r2B f && inB 24 20 i then [.c (i - 20)] else [])
def setS (o : Option Nat) (l : List Src) : List Src :=
  match o with
  | none => l
  | some k => [.n k]
def srcsR (f : Fm) (i : Nat) : List Src :=
  match f with
  | .T => regS .T i ++ (bif inB 24 20 i then [.n (i - 20)] else [])
  | .C => regS .C i ++ (bif inB 31 20 i then [.n (i - 20)] else [])
  | .Z => regS .Z i ++ (bif inB 31 20 i then [.n (i - 20)] else [])
  | .R => regS .R i
  | .N => regS .N i
  | .F => regS .F i
  | .O => regS .O i
  | .U => setS (bitK .U i) (regS .U i)
  | .J => setS (bitK .J i) (regS .J i)
  | .I => setS (bitK .I i) (regS .I i)
  | .B => setS (bitK .B i) (regS .B i)
  | .S => setS (bitK .S i) (regS .S i)
theorem mul_bit (a s k m i : Nat) (hm : m = 2 ^ s) (ha : a < 2 ^ k) : (a * m).testBit i = (decide (s ≤ i) && (decide (i - s < k) && a.testBit (i - s))) := by
  rw [hm, Nat.testBit_mul_two_pow]
  by_cases h : i - s < k
  · simp [h]
  · have : a.testBit (i - s) = false := Nat.testBit_lt_two_pow (Nat.lt_of_lt_of_le ha (Nat.pow_le_pow_right (by decide) (by omega)))
    simp [this]
theorem inB_is (a b i k : Nat) (hk : k = a - b + 1) (hab : b ≤ a) : (decide (b ≤ i) && decide (i - b < k)) = inB a b i := by
  unfold inB
  subst hk
  by_cases h : b ≤ i
  · have e : (i - b < a - b + 1) ↔ i ≤ a := by omega
    simp [h, e]
  · simp [h]
theorem fbit (a s k m t i : Nat) (hm : m = 2 ^ s) (ha : a < 2 ^ k) (hk : k = t - s + 1) (hts : s ≤ t) : (a * m).testBit i = (inB t s i && a.testBit (i - s)) := by
  rw [mul_bit a s k m i hm ha, ← Bool.and_assoc, inB_is t s i k hk hts]
theorem regR_bit (f : Fm) (W a b c n i : Nat) (ha : a ≤ 31) (hb : b ≤ 31) (hc : c ≤ 31) : (regR f W a b c).testBit i = (regS f i).any fun s => s.bit W a b c n i := by
  have ea := fbit a 7 5 128 11 i rfl (by omega) rfl (by decide)
  have eb := fbit b 15 5 32768 19 i rfl (by omega) rfl (by decide)
  have ec := fbit c 20 5 1048576 24 i rfl (by omega) rfl (by decide)
  unfold regR regS
  dsimp only
  cases rdB f <;> cases r1B f <;> cases r2B f <;> (
    simp only [Bool.false_eq_true, if_true, if_false, Nat.testBit_or, ea, eb, ec, Bool.true_and, Bool.false_and, cond_false, List.append_nil]
    cases inB 11 7 i <;> cases inB 19 15 i <;> cases inB 24 20 i <;> simp [Src.bit, Bool.or_assoc])
theorem setS_bit (f : Fm) (W a b c n i : Nat) (hi : i < 32) (ha : a ≤ 31) (hb : b ≤ 31) (hc : c ≤ 31) : (setN f (regR f W a b c) n 32).testBit i = (setS (bitK f i) (regS f i)).any fun s => s.bit W a b c n i := by
  rw [set_bit32 _ _ _ _ hi]
  cases bitK f i with
  | none => exact regR_bit f W a b c n i ha hb hc
  | some k => simp [setS, Src.bit]
theorem encR_bit (f : Fm) (W a b c n i : Nat) (hi : i < 32) (ha : a ≤ 31) (hb : b ≤ 31) (hc : c ≤ 31) : (encR f W a b c n).testBit i = (srcsR f i).any fun s => s.bit W a b c n i := by
  have e5 := fbit (n % 32) 20 5 1048576 24 i rfl (by omega) rfl (by decide)
  have e12 := fbit (n % 4096) 20 12 1048576 31 i rfl (by omega) rfl (by decide)
  have m5 : ∀ j, (n % 32).testBit j = (decide (j < 5) && n.testBit j) := fun j => Nat.testBit_mod_two_pow n 5 j
  have m12 : ∀ j, (n % 4096).testBit j = (decide (j < 12) && n.testBit j) := fun j => Nat.testBit_mod_two_pow n 12 j
  cases f
  case U => exact setS_bit _ W a b c n i hi ha hb hc
  case J => exact setS_bit _ W a b c n i hi ha hb hc
  case I => exact setS_bit _ W a b c n i hi ha hb hc
  case B => exact setS_bit _ W a b c n i hi ha hb hc
  case S => exact setS_bit _ W a b c n i hi ha hb hc
  case R => exact regR_bit .R W a b c n i ha hb hc
  case N => exact regR_bit .N W a b c n i ha hb hc
  case F => exact regR_bit .F W a b c n i ha hb hc
  case O => exact regR_bit .O W a b c n i ha hb hc
  case T =>
    show (regR .T W a b c ||| n % 32 * 1048576).testBit i = _
    unfold srcsR
    dsimp only
    rw [Nat.testBit_or, regR_bit .T W a b c n i ha hb hc, e5, List.any_append, m5]
    congr 1
    cases h : inB 24 20 i with
    | false => rfl
    | true =>
      unfold inB at h
      simp at h
      have : i - 20 < 5 := by omega
      simp [Src.bit, this]
  case C =>
    show (regR .C W a b c ||| n % 4096 * 1048576).testBit i = _
    unfold srcsR
    dsimp only
    rw [Nat.testBit_or, regR_bit .C W a b c n i ha hb hc, e12, List.any_append, m12]
    congr 1
    cases h : inB 31 20 i with
    | false => rfl
    | true =>
      unfold inB at h
      simp at h
      have : i - 20 < 12 := by omega
      simp [Src.bit, this]
  case Z =>
    show (regR .Z W a b c ||| n % 4096 * 1048576).testBit i = _
    unfold srcsR
    dsimp only
    rw [Nat.testBit_or, regR_bit .Z W a b c n i ha hb hc, e12, List.any_append, m12]
    congr 1
    cases h : inB 31 20 i with
    | false => rfl
    | true =>
      unfold inB at h
      simp at h
      have : i - 20 < 12 := by omega
      simp [Src.bit, this]
theorem srcs_is : ∀ f : Fm, f ≠ .O → ∀ i, i < 32 → (srcsR f i = [.k] ∧ srcF f i = .k) ∨ srcsR f i = [.k, srcF f i] ∨ srcsR f i = [srcF f i] := by
  intro f hf
  cases f <;> first | exact absurd rfl hf | decide +kernel
/-- the reference's word is the program's -/
theorem encR_is (i a b c n : Nat) (h1 : 1 ≤ i) (h2 : i < 57) (ha : a ≤ 31) (hb : b ≤ 31) (hc : c ≤ 31) : encR (opP i).1 (opP i).2 a b c n = fldL (opP i).1 (opP i).2 a b c n := by
  refine eq_bits (encR_lt _ _ _ _ _ _ (word_lt i) ha hb hc) (fldL_lt _ _ _ _ _ _ (word_lt i)) fun j hj => ?_
  rw [encR_bit _ _ _ _ _ _ j hj ha hb hc, fldL_bit _ _ _ _ _ _ j hj]
  have hf := opP_ne i h1 h2
  have hw := word_src i j h2 hj
  rcases srcs_is _ hf j hj with ⟨h3, h4⟩ | h3 | h3
  · rw [h3, h4]; simp
  · rw [h3]
    by_cases hk : srcF (opP i).1 j = .k
    · rw [hk]; simp
    · have := hw hk
      simp [Src.bit, this]
  · rw [h3]; simp
end Go.Proofs.YtghfbdkfibbhoaaDoor
