/-
Layer 13: RelocMeans (plain): what one relocation leaves.
-/
import Derived.Test.YtegaiphhoinilaaRlF
namespace Go.Proofs.Ytegaiphhoinilaa.Rc
open Go Go.RowKit

theorem one_zero {ss : List Nat} {re : Re} {B : Nat} {l : List (Nat × Nat)} {M MA : Nat → UInt8} (hl : inRam l) (h : allP ss [re] B l M [re] = (0, MA)) :
    okT re.t ∧ stB (atP B re) 4 = true ∧ (re.t = 18 ∨ re.t = 19 → stB (atP B re + 4) 4 = true) ∧ ∃ v, v < 4294967296 ∧ valP ss [re] B re = goT re.t v ∧ MA = putV M (atP B re) re.t (goT re.t v) := by
  cases hm : mayP B l re with
  | false =>
    rw [all_bad (one_bad hm) (by decide)] at h
    injection h with h1 h2
    exact absurd h1 (by decide)
  | true =>
    have ht := may_ok hm
    have hr := may_ram hm hl
    have hk := kL_ge re.t
    have hst : stB (atP B re) 4 = true := stB_in hr.1 (by omega)
    have h1 := one_val (ss := ss) (rs := [re]) (m := M) hm hst
    rcases val_go ss [re] B re ht with ⟨e, he, hv⟩ | ⟨v, hvl, hv⟩
    · rw [hv] at h1
      have h2 : oneP ss [re] B l M re = (e, M) := h1
      rw [all_bad h2 (by omega)] at h
      injection h with h3 h4
      omega
    · rw [hv, err_go] at h1
      rw [all_go h1] at h
      injection h with h3 h4
      refine ⟨ht, hst, fun h18 => ?_, v, hvl, hv, h4.symm⟩
      have h8 : kL re.t = 8 := if_pos h18
      exact stB_in (by omega) (by omega)
theorem val_any (ss : List Nat) (rs rs' : List Re) (B : Nat) (r : Re) (ht : okT r.t) (h1 : r.t ≠ 24) (h2 : r.t ≠ 25) : valP ss rs B r = valP ss rs' B r := by
  obtain ⟨p, t, s, a⟩ := r
  rcases ht with h | h | h | h | h | h | h | h | h | h | h | h <;> (replace h : t = _ := h; subst h)
  · rw [val_1, val_1]
  · rw [val_3, val_3]
  · rw [val_16, val_16]
  · rw [val_17, val_17]
  · rw [val_u ss rs B p s a 18 (by decide), val_u ss rs' B p s a 18 (by decide)]
  · rw [val_u ss rs B p s a 19 (by decide), val_u ss rs' B p s a 19 (by decide)]
  · rw [val_u ss rs B p s a 23 (by decide), val_u ss rs' B p s a 23 (by decide)]
  · exact absurd rfl h1
  · exact absurd rfl h2
  · rw [val_26, val_26]
  · rw [val_27, val_27]
  · rw [val_28, val_28]
theorem way_16 {ss : List Nat} {rs : List Re} {B p : Nat} {s : Int} {a v : Nat} (h : valP ss rs B ⟨p, 16, s, a⟩ = goT 16 v) : wayB v 4096 = true := by
  rw [val_16] at h
  split at h
  · rename_i hw
    have : Go1.num .B (wayP ss B ⟨p, 16, s, a⟩) = Go1.num .B v := h
    injection this with _ h2
    rw [← h2]; exact hw
  · have : Go1.bad 14 = Go1.num .B v := h
    cases this
theorem way_17 {ss : List Nat} {rs : List Re} {B p : Nat} {s : Int} {a v : Nat} (h : valP ss rs B ⟨p, 17, s, a⟩ = goT 17 v) : wayB v 1048576 = true := by
  rw [val_17] at h
  split at h
  · rename_i hw
    have : Go1.num .J (wayP ss B ⟨p, 17, s, a⟩) = Go1.num .J v := h
    injection this with _ h2
    rw [← h2]; exact hw
  · have : Go1.bad 14 = Go1.num .J v := h
    cases this
/-- what a number means, by its kind: the letter, what is decoded of the words, what it is compared with -/
theorem mean_W (M : Nat → UInt8) (x v : Nat) (t : Int) (ht : t = 1 ∨ t = 3) (hs : stB x 4 = true) (hv : v < 4294967296) : ldV (putV M x t (goT t v)) x 4 = v := by
  rw [show goT t v = .word v from if_pos ht]
  exact ld_st M x v hs hv
theorem mean_N (f : Fm) (M : Nat → UInt8) (x v : Nat) (t : Int) (hg : putV M x t (goT t v) = stM M x 4 (setN f (ldV M x 4) v 32)) (hs : stB x 4 = true) : ldV (putV M x t (goT t v)) x 4 = setN f (ldV M x 4) v 32 := by
  rw [hg]
  exact ld_st M x _ hs (setN_lt f _ v (ldV_lt M x) 32 (by decide))
theorem mean_U (M : Nat → UInt8) (x v : Nat) (t : Int) (hg : putV M x t (goT t v) = stM M x 4 (ldV M x 4 % 4096 + upP v)) (hs : stB x 4 = true) (_hv : v < 4294967296) : ldV (putV M x t (goT t v)) x 4 = ldV M x 4 % 4096 + upP v := by
  rw [hg]
  have := upP_le v
  exact ld_st M x _ hs (by omega)
theorem mean_two (M : Nat → UInt8) (x v : Nat) (t : Int) (ht : t = 18 ∨ t = 19) (hs : stB x 4 = true) (hs2 : stB (x + 4) 4 = true) (_hv : v < 4294967296) :
    ldV (putV M x t (goT t v)) x 4 = ldV M x 4 % 4096 + upP v ∧ ∃ w, ldV (putV M x t (goT t v)) (x + 4) 4 = setN .I w v 32 ∧ w < 4294967296 := by
  rw [put_two M x v t ht]
  have hup := upP_le v
  refine ⟨?_, _, ld_st _ _ _ hs2 (setN_lt .I _ v (ldV_lt _ _) 32 (by decide)), ldV_lt _ _⟩
  rw [ld_far _ (x + 4) x _ hs2 hs (Or.inr (by omega)), ld_st M x _ hs (by omega)]
end Go.Proofs.Ytegaiphhoinilaa.Rc
