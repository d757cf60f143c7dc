/-
Layer 11, plain: what the five laws ask.
-/
import Derived.Test.YtghfbdkfibbhoaaDoorIpD
namespace Go.Proofs.YtghfbdkfibbhoaaDoor
open Go Go.RowKit

theorem u32N_nat (x : Nat) (h : x < 4294967296) : u32N (x : Int) = x := by unfold u32N; omega
theorem immL_Z (f : Fm) (w : Nat) (hw : w < 4294967296) : immZ f w % 4294967296 = ((immL f w : Nat) : Int) := by
  rw [← immU_is f w hw]
  unfold immU
  omega
theorem eqB_refl (i a b c n : Int) : eqB i a b c n i a b c n = true := by simp [eqB]
theorem ite_lt32 (p : Bool) (x : Nat) (h : x < 32) : (if p then x else 0 : Nat) < 32 := by split <;> omega
theorem rd_lt (p : Bool) (w : Nat) : (if p then bitsN w 11 7 else 0 : Nat) < 32 := ite_lt32 p _ (bitsN_lt w 11 7)
theorem r1_lt (p : Bool) (w : Nat) : (if p then bitsN w 19 15 else 0 : Nat) < 32 := ite_lt32 p _ (bitsN_lt w 19 15)
theorem r2_lt (p : Bool) (w : Nat) : (if p then bitsN w 24 20 else 0 : Nat) < 32 := ite_lt32 p _ (bitsN_lt w 24 20)
theorem inB_at {a b i : Nat} (h : inB a b i = true) : b ≤ i ∧ i ≤ a := by
  unfold inB at h
  simpa using h
/-- an operation's word with the fields of a word of that operation is this word -/
theorem fld_back (w i : Nat) (hw : w < 4294967296) (h1 : 1 ≤ i) (h2 : i < 57) (hF : (opP i).1 ≠ .F) (hm : mtchB w i = true) :
    fldL (opP i).1 (opP i).2 (if rdB (opP i).1 then bitsN w 11 7 else 0) (if r1B (opP i).1 then bitsN w 19 15 else 0) (if r2B (opP i).1 then bitsN w 24 20 else 0) (immL (opP i).1 w) = w := by
  refine eq_bits (fldL_lt _ _ _ _ _ _ (word_lt i)) hw fun j hj => ?_
  rw [fldL_bit _ _ _ _ _ _ j hj]
  have hO := opP_ne i h1 h2
  have hmask := mask_src (opP i).1 hO hF j hj
  have hW : (opP i).2 = w &&& maskN (opP i).1 := (of_decide_eq_true hm).symm
  rw [hW]
  generalize (opP i).1 = f at *
  unfold srcF at hmask ⊢
  cases hc : (r2B f && inB 24 20 j) with
  | true =>
    obtain ⟨p1, p2⟩ := Bool.and_eq_true_iff.1 hc
    obtain ⟨q1, q2⟩ := inB_at p2
    simp only [cond_true, Src.bit, p1, if_true]
    rw [bitsN_bit, show 20 + (j - 20) = j by omega, decide_eq_true (show j - 20 < 24 - 20 + 1 by omega)]
    rfl
  | false =>
    rw [hc] at hmask
    simp only [cond_false] at hmask ⊢
    cases hb : (r1B f && inB 19 15 j) with
    | true =>
      obtain ⟨p1, p2⟩ := Bool.and_eq_true_iff.1 hb
      obtain ⟨q1, q2⟩ := inB_at p2
      simp only [cond_true, Src.bit, p1, if_true]
      rw [bitsN_bit, show 15 + (j - 15) = j by omega, decide_eq_true (show j - 15 < 19 - 15 + 1 by omega)]
      rfl
    | false =>
      rw [hb] at hmask
      simp only [cond_false] at hmask ⊢
      cases ha : (rdB f && inB 11 7 j) with
      | true =>
        obtain ⟨p1, p2⟩ := Bool.and_eq_true_iff.1 ha
        obtain ⟨q1, q2⟩ := inB_at p2
        simp only [cond_true, Src.bit, p1, if_true]
        rw [bitsN_bit, show 7 + (j - 7) = j by omega, decide_eq_true (show j - 7 < 11 - 7 + 1 by omega)]
        rfl
      | false =>
        rw [ha] at hmask
        simp only [cond_false] at hmask ⊢
        cases hs : srcI f j with
        | k =>
          rw [hs] at hmask
          simp only [Src.bit]
          rw [and_bit, hmask]
          simp
        | n k => exact imm_back f hO w j k hj hs
        | a k => exact absurd hs (srcI_ne f j k).1
        | b k => exact absurd hs (srcI_ne f j k).2.1
        | c k => exact absurd hs (srcI_ne f j k).2.2
/-- the word that is made of a word's decoding -/
def bakW (w i : Nat) : Nat := if i = 46 then 15 else w
theorem enc_back (w i : Nat) (hw : w < 4294967296) (h1 : 1 ≤ i) (h2 : i < 57) (hm : mtchB w i = true) :
    encW i ((if rdB (opP i).1 then bitsN w 11 7 else 0 : Nat) : Int) ((if r1B (opP i).1 then bitsN w 19 15 else 0 : Nat) : Int) ((if r2B (opP i).1 then bitsN w 24 20 else 0 : Nat) : Int) (immL (opP i).1 w) = bakW w i := by
  unfold encW bakW
  have l1 := rd_lt (rdB (opP i).1) w
  have l2 := r1_lt (r1B (opP i).1) w
  have l3 := r2_lt (r2B (opP i).1) w
  rw [u32N_nat _ (by omega), u32N_nat _ (by omega), u32N_nat _ (by omega)]
  by_cases h46 : i = 46
  · subst h46
    rfl
  · rw [if_neg h46]
    exact fld_back w i hw h1 h2 (fun h => h46 (ne_F i h2 h)) hm
theorem insW_46 (w v : Nat) : insW w 46 = insW v 46 := rfl
theorem bak_ins (w i : Nat) : insW (bakW w i) i = insW w i := by
  unfold bakW
  by_cases h46 : i = 46
  · subst h46; exact insW_46 _ _
  · rw [if_neg h46]
theorem bak_op (w i : Nat) (h1 : 1 ≤ i) (h2 : i < 57) (hm : mtchB w i = true) : opOf (bakW w i) = i := by
  unfold bakW
  by_cases h46 : i = 46
  · subst h46
    exact opOf_is 15 46 (by decide) (by decide) (by decide +kernel)
  · rw [if_neg h46]; exact opOf_is w i h1 h2 hm
theorem bak_lt (w i : Nat) (hw : w < 4294967296) : bakW w i < 4294967296 := by unfold bakW; split <;> omega
theorem insA_inj {i a b c n i' a' b' c' n' : Int} (h : insA i a b c n = insA i' a' b' c' n') : a = a' ∧ b = b' ∧ c = c' ∧ n = n' := by
  have e1 := congrFun h 1
  have e2 := congrFun h 2
  have e3 := congrFun h 3
  have e4 := congrFun h 4
  simp only [insA] at e1 e2 e3 e4
  injection e1 with _ e1
  injection e2 with _ e2
  injection e3 with _ e3
  injection e4 with _ e4
  exact ⟨e1, e2, e3, e4⟩
theorem encB_back (w i : Nat) (hw : w < 4294967296) (h1 : 1 ≤ i) (h2 : i < 57) (hm : mtchB w i = true) :
    encB i ((if rdB (opP i).1 then bitsN w 11 7 else 0 : Nat) : Int) ((if r1B (opP i).1 then bitsN w 19 15 else 0 : Nat) : Int) ((if r2B (opP i).1 then bitsN w 24 20 else 0 : Nat) : Int) (immL (opP i).1 w) = true := by
  unfold encB
  rw [enc_back w i hw h1 h2 hm]
  obtain ⟨e1, e2, e3, e4⟩ := insA_inj (bak_ins w i)
  rw [e1, e2, e3, e4]
  exact eqB_refl _ _ _ _ _
/-- the reference's answer is the program's where the registers' numbers are ones -/
theorem enc_agree (i a b c n : Nat) (h1 : 1 ≤ i) (h2 : i < 57) (ha : a ≤ 31) (hb : b ≤ 31) (hc : c ≤ 31) :
    encE (opP i).1 (opP i).2 i a b c n = encB i a b c n ∧ encR (opP i).1 (opP i).2 a b c n = encW i a b c n := by
  have e1 := encR_is i a b c n h1 h2 ha hb hc
  have e2 : encW i a b c n = fldL (opP i).1 (opP i).2 a b c n := by
    unfold encW
    rw [u32N_nat a (by omega), u32N_nat b (by omega), u32N_nat c (by omega)]
  have e3 := opOf_is _ i h1 h2 (fld_mtch i a b c n h1 h2)
  have hl := fldL_lt (opP i).1 (opP i).2 a b c n (word_lt i)
  refine ⟨?_, by rw [e1, e2]⟩
  unfold encE encB
  rw [e1, e2]
  generalize fldL (opP i).1 (opP i).2 a b c n = V at *
  rw [e3, immL_Z _ _ hl]
  rfl
theorem eqB_ne1 {i a b c n i' a' b' c' n' : Int} (h : a ≠ a') : eqB i a b c n i' a' b' c' n' = false := by simp [eqB, h]
theorem eqB_ne2 {i a b c n i' a' b' c' n' : Int} (h : b ≠ b') : eqB i a b c n i' a' b' c' n' = false := by simp [eqB, h]
theorem eqB_ne3 {i a b c n i' a' b' c' n' : Int} (h : c ≠ c') : eqB i a b c n i' a' b' c' n' = false := by simp [eqB, h]
theorem encB_no (i n : Nat) (a b c : Int) (h : ¬(0 ≤ a ∧ a ≤ 31 ∧ 0 ≤ b ∧ b ≤ 31 ∧ 0 ≤ c ∧ c ≤ 31)) : encB i a b c n = false := by
  unfold encB
  have l1 := rd_lt (rdB (opP i).1) (encW i a b c n)
  have l2 := r1_lt (r1B (opP i).1) (encW i a b c n)
  have l3 := r2_lt (r2B (opP i).1) (encW i a b c n)
  by_cases h1 : 0 ≤ a ∧ a ≤ 31
  · by_cases h2 : 0 ≤ b ∧ b ≤ 31
    · exact eqB_ne3 (by omega)
    · exact eqB_ne2 (by omega)
  · exact eqB_ne1 (by omega)
theorem wrapZ (f : Fm) (w : Nat) (hw : w < 4294967296) : IntKind.u32.wrap (immZ f w) = ((immL f w : Nat) : Int) := by
  rw [IntKind.wrap_u32]; exact immL_Z f w hw
/-- what is decoded is alike -/
theorem like_dec (w i : Nat) (hw : w < 4294967296) (a b c : Int) : likeB i a b c ((immL (opP i).1 w : Nat) : Int) i a b c (immZ (opP i).1 w) = true := by
  unfold likeB
  rw [wrapZ _ w hw]
  simp
end Go.Proofs.YtghfbdkfibbhoaaDoor
