/-
Layer 12: the reference's Range, whole; its Byte.
-/
import Derived.Test.YtjpmigagoedbcaaDoorPmC
namespace Go.Proofs.YtjpmigagoedbcaaDoor.Pm
open Go Go.RowKit

theorem rrange_any (es : List En) (s : Sl) (i : Nat) (w : World) (hS : SlE w s es) (hi : i < s.n) :
    Calls Tryd.prog 27 #[s.v, .int .i64 (i : Int)] w (retR (rangeI es i).1 (rangeI es i).2 w) := by
  obtain ⟨b, o, hA, hlt, hc⟩ := hS.2.1.2 (by omega)
  have hwf := hS.wf hi
  have hn := hS.2.1.1
  have hc0 : w.cell? ⟨b, o + i * 3, none⟩ = some (.int .i64 (es.getD i en0).w) := hc i 0 hi (by omega)
  have hc2 : w.cell? ⟨b, o + i * 3 + 2, none⟩ = some (.int .u32 ((es.getD i en0).a : Int)) := hc i 2 hi (by omega)
  have hp2 : 0 < i → w.cell? ⟨b, o + (i - 1) * 3 + 2, none⟩ = some (.int .u32 ((es.getD (i - 1) en0).a : Int)) := fun h => hc (i - 1) 2 (by omega) (by omega)
  have hpw : 0 < i → (es.getD (i - 1) en0).a < 4294967296 := fun h => (hS.wf (j := i - 1) (by omega)).a
  unfold rangeI
  generalize (es.getD (i - 1) en0).a = pa at *
  obtain ⟨A, n, c⟩ := s
  dsimp only at hA hi hn
  subst hA
  generalize es.getD i en0 = e at *
  have ha := hwf.a
  have hin : (i : Int) < (n : Int) := by omega
  show Calls Tryd.prog 27 #[.slice (some ⟨b, o, none⟩) n c, .int .i64 (i : Int)] w _
  by_cases h1 : e.w = 1
  · rw [h1] at hc0
    by_cases h0 : i = 0
    · rw [if_pos h0]
      by_cases hz : e.a = 0
      · rw [rng_w1a h1 (by omega)]
        rw [hz] at hc2
        exact rr_1a b o n c i e.a w hin hn.2 ha hc0 hc2 (by omega)
      · rw [rng_w1b h1 (by omega)]
        exact rr_1b b o n c i e.a w hin hn.2 ha hc0 hc2 (by omega) (by omega)
    · rw [if_neg h0]
      by_cases hz : 4 * e.a ≤ 4 * pa
      · rw [rng_w1a h1 hz]
        exact rr_1c b o n c i e.a (i - 1) pa w hin hn.2 ha hc0 hc2 (by omega) (by omega) (hpw (by omega)) (hp2 (by omega)) (by omega)
      · rw [rng_w1b h1 hz]
        exact rr_1d b o n c i e.a (i - 1) pa w hin hn.2 ha hc0 hc2 (by omega) (by omega) (hpw (by omega)) (hp2 (by omega)) (by omega)
  · by_cases h2 : e.w = 2
    · rw [rng_w2 h2]
      rw [h2] at hc0
      exact rr_2 b o n c i e.a w hin hn.2 ha hc0 hc2
    · by_cases h3 : e.w = 3
      · rw [rng_w3 h3]
        rw [h3] at hc0
        exact rr_3 b o n c i e.a w hin hn.2 ha hc0 hc2
      · rw [rng_w0 h1 h2 h3]
        exact rr_0 b o n c i e.a e.w w hin hn.2 ha hc0 hc2 (beq_eq_false_iff_ne.2 h1) (beq_eq_false_iff_ne.2 h2) (beq_eq_false_iff_ne.2 h3)
/-- the first entry from i on that has the byte -/
def byteF (es : List En) (x : Nat) : Nat → Nat → Int
  | 0, _ => 0
  | n + 1, i => if (rangeI es i).1 ≤ x ∧ x < (rangeI es i).2 then (es.getD i en0).r else byteF es x n (i + 1)
theorem tri_at (es : List En) : ∀ (p i : Nat) (_hi : i < es.length), (tri p es)[i]? = some ⟨(rangeP (if i = 0 then p else (es.getD (i - 1) en0).a) (es.getD i en0)).1, (rangeP (if i = 0 then p else (es.getD (i - 1) en0).a) (es.getD i en0)).2, (es.getD i en0).r⟩ := by
  induction es with
  | nil => intro p i hi; cases hi
  | cons e l ih =>
    intro p i hi
    cases i with
    | zero => rfl
    | succ i =>
      have h := ih e.a i (by simpa using hi)
      show (tri e.a l)[i]? = _
      rw [h]
      cases i with
      | zero => rfl
      | succ i => rfl
theorem tri_len (es : List En) : ∀ p, (tri p es).length = es.length := by
  induction es with
  | nil => intro p; rfl
  | cons e l ih => intro p; show (tri e.a l).length + 1 = _; rw [ih]; rfl
theorem byteF_drop (es : List En) (x : Nat) : ∀ (n i : Nat), i + n = es.length → byteF es x n i = byteT ((tri 0 es).drop i) x
  | 0, i, h => by
    rw [List.drop_eq_nil_of_le (by rw [tri_len]; omega)]; rfl
  | n + 1, i, h => by
    have hi : i < es.length := by omega
    have h2 := tri_at es 0 i hi
    have hlt : i < (tri 0 es).length := by rw [tri_len]; exact hi
    rw [List.getElem?_eq_getElem hlt] at h2
    have h3 := Option.some.inj h2
    rw [List.drop_eq_getElem_cons hlt, h3]
    have e : hasB ⟨(rangeI es i).1, (rangeI es i).2, (es.getD i en0).r⟩ x = decide ((rangeI es i).1 ≤ x ∧ x < (rangeI es i).2) := by
      unfold hasB; simp
    show (if (rangeI es i).1 ≤ x ∧ x < (rangeI es i).2 then (es.getD i en0).r else byteF es x n (i + 1)) = (if hasB ⟨(rangeI es i).1, (rangeI es i).2, (es.getD i en0).r⟩ x then (es.getD i en0).r else byteT ((tri 0 es).drop (i + 1)) x)
    rw [e, byteF_drop es x n (i + 1) (by omega)]
    by_cases hp : (rangeI es i).1 ≤ x ∧ x < (rangeI es i).2
    · rw [if_pos hp, if_pos (decide_eq_true hp)]
    · rw [if_neg hp, if_neg (by rw [decide_eq_false hp]; decide)]
theorem byteF_all (es : List En) (x : Nat) : byteF es x es.length 0 = byteT (tri 0 es) x := byteF_drop es x es.length 0 (by omega)
end Go.Proofs.YtjpmigagoedbcaaDoor.Pm
