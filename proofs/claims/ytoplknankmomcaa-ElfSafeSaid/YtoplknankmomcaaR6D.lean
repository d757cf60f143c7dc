/-
The reference of layer 6: its cursor's Take and Num, whatever the state.
-/
import Derived.Test.YtoplknankmomcaaByA
namespace Go.Proofs.Ytoplknankmomcaa
open Go Go.RowKit

theorem tkB_no {bs : List UInt8} {p : Nat} {bad : Bool} {k : Int} (h : okT bs.length p bad k = false) : tkB bs p bad k = [] ∧ tkP bs.length p bad k = p := by
  unfold tkB tkP
  rw [h]
  exact ⟨rfl, rfl⟩
theorem midO_block (A : Addr) (c p : Nat) : (midO A c p).block = A.block := by
  unfold midO
  split
  · rfl
  · unfold Addr.add; split <;> rfl
theorem rtake_src (bs : List UInt8) (A : Option Addr) (n c p : Nat) (bad : Bool) (k : Int) (g : Nat) (w : World) (hG : Has w g 72 (curC A n c p bad)) (hS : SlA w A n c bs) (hA : A = none → c = 0) (hne : ∀ b o, A = some ⟨b, o, none⟩ → 0 < n → g ≠ b) (hp : p ≤ n) (hc : c < 9223372036854775808) :
    Calls Try.prog 24 #[.pointer (some ⟨g, 0, none⟩), .int .i64 k] w fun e w' => (∃ A' n' c', e = .returned (.slice A' n' c') ∧ SlA w' A' n' c' (tkB bs p bad k) ∧ (okT bs.length p bad k = false → A' = none ∧ c' = 0) ∧ ∀ b o, A' = some ⟨b, o, none⟩ → 0 < n' → 0 < n ∧ ∃ o2, A = some ⟨b, o2, none⟩) ∧ Has w' g 72 (curC A n c (tkP bs.length p bad k) (!okT bs.length p bad k)) ∧ w.grownBy w' (some g) := by
  have hl : bs.length = n := hS.1
  have hno : okT bs.length p bad k = false → (Calls Try.prog 24 #[.pointer (some ⟨g, 0, none⟩), .int .i64 k] w fun e w' => e = .returned (.slice none 0 0) ∧ Has w' g 72 (curC A n c p true) ∧ w.grownBy w' (some g)) →
      Calls Try.prog 24 #[.pointer (some ⟨g, 0, none⟩), .int .i64 k] w fun e w' => (∃ A' n' c', e = .returned (.slice A' n' c') ∧ SlA w' A' n' c' (tkB bs p bad k) ∧ (okT bs.length p bad k = false → A' = none ∧ c' = 0) ∧ ∀ b o, A' = some ⟨b, o, none⟩ → 0 < n' → 0 < n ∧ ∃ o2, A = some ⟨b, o2, none⟩) ∧ Has w' g 72 (curC A n c (tkP bs.length p bad k) (!okT bs.length p bad k)) ∧ w.grownBy w' (some g) := fun h hc => by
    obtain ⟨h1, h2⟩ := tkB_no h
    rw [h1, h2, h]
    refine hc.mono ?_
    rintro e w' ⟨rfl, hG', hg⟩
    exact ⟨⟨none, 0, 0, rfl, nil_slA _, fun _ => ⟨rfl, rfl⟩, fun _ _ h => by cases h⟩, hG', hg⟩
  cases bad with
  | true => exact hno rfl (rtake_bad A n c p k g w hG)
  | false =>
    by_cases h1 : k < 0
    · exact hno (by unfold okT; simp; omega) (rtake_neg A n c p k g w hG h1)
    · by_cases h2 : ((n - p : Nat) : Int) < k
      · exact hno (by unfold okT; simp; omega) (rtake_far A n c p k g w hG hp (by have := hS.2.1; omega) (by omega) h2)
      · obtain ⟨m, rfl⟩ : ∃ m : Nat, k = (m : Int) := ⟨k.toNat, by omega⟩
        have hok : okT bs.length p false (m : Int) = true := by unfold okT; simp; omega
        have e1 : tkB bs p false (m : Int) = (bs.drop p).take m := by unfold tkB; rw [if_pos hok]; rfl
        have e2 : tkP bs.length p false (m : Int) = p + m := by unfold tkP; rw [if_pos hok]; rfl
        rw [e1, e2, hok]
        cases A with
        | none =>
          obtain rfl : c = 0 := hA rfl
          obtain rfl : n = 0 := by have := hS.2.1; omega
          have hb : bs = [] := List.eq_nil_of_length_eq_zero hl
          subst hb
          refine (rtake_nil p m g w hG (by omega)).mono ?_
          rintro e w' ⟨rfl, hG', hg⟩
          exact ⟨⟨none, 0, 0, rfl, by simpa using nil_slA w', (fun h => by cases h), fun _ _ h => by cases h⟩, hG', hg⟩
        | some ad =>
          obtain ⟨b, o, s⟩ := ad
          have hs0 : n = 0 ∨ s = none := by
            rcases Nat.eq_zero_or_pos n with h | h
            · exact .inl h
            · obtain ⟨b', o', e, _⟩ := hS.2.2 h
              injection e with e
              injection e with e3 e4 e5
              exact .inr e5
          refine (rtake_some b o n c p m s g w hG (by omega) hS.2.1 hc).mono ?_
          rintro e w' ⟨rfl, hG', hg⟩
          refine ⟨⟨_, _, _, rfl, ?_, (fun h => by cases h), fun b' o' h hm0 => ?_⟩, hG', hg⟩
          · rcases hs0 with h0 | rfl
            · obtain rfl : m = 0 := by omega
              exact ⟨by simp, by omega, fun h => absurd h (Nat.lt_irrefl _)⟩
            · have hS' := hS.grown hg (fun b' o' h h0 he => hne b' o' h h0 (by injection he))
              rcases Nat.eq_zero_or_pos m with rfl | hm0
              · exact ⟨by simp, by omega, fun h => absurd h (Nat.lt_irrefl _)⟩
              · have := hS'.sub (i := p) (j := p + m) (by omega) (by omega)
                have hmid : midO ⟨b, o, none⟩ c p = ⟨b, o + p, none⟩ := by
                  have := hS.2.1
                  unfold midO; rw [if_neg (by omega), Addr.add_mid]
                rw [hmid]
                rwa [show p + m - p = m by omega] at this
          · rcases hs0 with h0 | rfl
            · omega
            · injection h with h
              have h2 := midO_block ⟨b, o, none⟩ c p
              rw [h] at h2
              exact ⟨by omega, o, by rw [show b' = b from h2]⟩
theorem rtake_any (bs : List UInt8) (A : Option Addr) (n c p : Nat) (bad : Bool) (k : Int) (g : Nat) (w : World) (hG : Has w g 72 (curC A n c p bad)) (hS : SlA w A n c bs) (hA : A = none → c = 0) (hne : ∀ b o, A = some ⟨b, o, none⟩ → 0 < n → g ≠ b) (hp : p ≤ n) (hc : c < 9223372036854775808) :
    Calls Try.prog 24 #[.pointer (some ⟨g, 0, none⟩), .int .i64 k] w fun e w' => (∃ A' n' c', e = .returned (.slice A' n' c') ∧ SlA w' A' n' c' (tkB bs p bad k) ∧ ∀ b o, A' = some ⟨b, o, none⟩ → 0 < n' → g ≠ b) ∧ Has w' g 72 (curC A n c (tkP bs.length p bad k) (!okT bs.length p bad k)) ∧ w.grownBy w' (some g) :=
  (rtake_src bs A n c p bad k g w hG hS hA hne hp hc).mono fun _ _ ⟨⟨A', n', c', e, h1, _, h3⟩, h4⟩ => ⟨⟨A', n', c', e, h1, fun b o hb hn => by obtain ⟨h5, o2, h6⟩ := h3 b o hb hn; exact hne b o2 h6 h5⟩, h4⟩
theorem leT_nil (bs : List UInt8) (k p : Nat) (h : k = 0) : leT (bsN bs) k p = 0 := by subst h; rfl
theorem rnum_any (bs : List UInt8) (A : Option Addr) (n c p k : Nat) (bad : Bool) (g : Nat) (w : World) (hG : Has w g 72 (curC A n c p bad)) (hS : SlA w A n c bs) (hA : A = none → c = 0) (hne : ∀ b o, A = some ⟨b, o, none⟩ → 0 < n → g ≠ b) (hp : p ≤ n) (hc : c < 9223372036854775808) (hk : 0 < k) (hk4 : k ≤ 4) :
    Calls Try.prog 25 #[.pointer (some ⟨g, 0, none⟩), .int .i64 (k : Int)] w fun e w' => e = .returned (.int .i64 ((tkN bs p bad k : Nat) : Int)) ∧ Has w' g 72 (curC A n c (tkP bs.length p bad k) (!okT bs.length p bad k)) ∧ w.grownBy w' (some g) := by
  have hl : bs.length = n := hS.1
  cases hok : okT bs.length p bad k with
  | false =>
    have e0 : tkN bs p bad k = 0 := by unfold tkN; rw [hok]; rfl
    rw [e0, (tkB_no hok).2]
    refine rnum_fail k A n c p g w ?_
    cases bad with
    | true => exact rtake_bad A n c p k g w hG
    | false =>
      refine rtake_far A n c p k g w hG hp (by have := hS.2.1; omega) (by omega) ?_
      unfold okT at hok
      simp only [Bool.not_false, Bool.true_and, decide_eq_false_iff_not] at hok
      omega
  | true =>
    have hb : bad = false := by
      cases bad with
      | false => rfl
      | true => exact absurd hok (by unfold okT; simp)
    subst hb
    have hok' := hok
    unfold okT at hok'
    simp only [Bool.not_false, Bool.true_and, decide_eq_true_eq] at hok'
    have hn0 : 0 < n := by omega
    obtain ⟨b, o, rfl, _⟩ := hS.2.2 hn0
    have e0 : tkN bs p false k = leT (bsN bs) k p := by unfold tkN; rw [if_pos hok]
    have e2 : tkP bs.length p false (k : Int) = p + k := by unfold tkP; rw [if_pos hok]; rfl
    rw [e0, e2]
    exact rnum_ok bs b o n c p k g w hG hS (hne b o rfl hn0).symm (by omega) hk hk4 hc
end Go.Proofs.Ytoplknankmomcaa
