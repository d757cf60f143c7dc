/-
Layer 11, plain: where each bit of a word with its fields put comes from.
-/
import Derived.Test.YtghfbdkfibbhoaaDoorIqH
namespace Go.Proofs.YtghfbdkfibbhoaaDoor
open Go Go.RowKit

/-- where a bit comes from: the word itself, a register's number, the number -/
inductive Src where
  | k | a (j : Nat) | b (j : Nat) | c (j : Nat) | n (j : Nat)
deriving DecidableEq
def Src.bit (s : Src) (w a b c n i : Nat) : Bool :=
  match s with
  | .k => w.testBit i
  | .a j => a.testBit j
  | .b j => b.testBit j
  | .c j => c.testBit j
  | .n j => n.testBit j
def srcO (o : Option Nat) : Src :=
  match o with
  | none => .k
  | some j => .n j
def srcI (f : Fm) (i : Nat) : Src :=
  match f with
  | .U => srcO (bitK .U i)
  | .J => srcO (bitK .J i)
  | .I | .C | .Z => srcO (bitK .I i)
  | .B => srcO (bitK .B i)
  | .S => srcO (bitK .S i)
  | .T => bif inB 24 20 i then .n (i - 20) else .k
  | _ => .k
def srcF (f : Fm) (i : Nat) : Src := bif r2B f && inB 24 20 i then .c (i - 20) else bif r1B f && inB 19 15 i then .b (i - 15) else bif rdB f && inB 11 7 i then .a (i - 7) else srcI f i
theorem setL_src (f : Fm) (hf : f = .I ∨ f = .S ∨ f = .B ∨ f = .U ∨ f = .J) (w a b c n i : Nat) (hi : i < 32) : (setL f w n).testBit i = (srcO (bitK f i)).bit w a b c n i := by
  rw [setL_bit f hf w n i hi, srcL_is f hf i hi]
  cases bitK f i <;> rfl
theorem immF_bit (f : Fm) (w a b c n i : Nat) (hi : i < 32) : (immF f w n).testBit i = (srcI f i).bit w a b c n i := by
  cases f <;> (unfold immF srcI; dsimp only)
  case T =>
    rw [with_bitB _ _ _ _ _ (by decide) (by decide) hi]
    cases inB 24 20 i <;> rfl
  case U => exact setL_src _ (by simp) _ _ _ _ _ _ hi
  case J => exact setL_src _ (by simp) _ _ _ _ _ _ hi
  case I => exact setL_src _ (by simp) _ _ _ _ _ _ hi
  case C => exact setL_src _ (by simp) _ _ _ _ _ _ hi
  case Z => exact setL_src _ (by simp) _ _ _ _ _ _ hi
  case B => exact setL_src _ (by simp) _ _ _ _ _ _ hi
  case S => exact setL_src _ (by simp) _ _ _ _ _ _ hi
  all_goals rfl
theorem fldL_bit (f : Fm) (w a b c n i : Nat) (hi : i < 32) : (fldL f w a b c n).testBit i = (srcF f i).bit w a b c n i := by
  unfold fldL srcF
  dsimp only
  have h0 := immF_bit f w a b c n i hi
  generalize immF f w n = v at *
  generalize srcI f i = s at *
  have e1 : (if rdB f then withN v 11 7 a else v).testBit i = (bif rdB f && inB 11 7 i then Src.a (i - 7) else s).bit w a b c n i := by
    cases rdB f with
    | false => rw [if_neg (by decide), h0]; rfl
    | true =>
      rw [if_pos rfl, with_bitB _ _ _ _ _ (by decide) (by decide) hi, h0]
      cases inB 11 7 i <;> rfl
  generalize (if rdB f = true then withN v 11 7 a else v) = v2 at *
  generalize (bif rdB f && inB 11 7 i then Src.a (i - 7) else s) = s2 at *
  have e2 : (if r1B f then withN v2 19 15 b else v2).testBit i = (bif r1B f && inB 19 15 i then Src.b (i - 15) else s2).bit w a b c n i := by
    cases r1B f with
    | false => rw [if_neg (by decide), e1]; rfl
    | true =>
      rw [if_pos rfl, with_bitB _ _ _ _ _ (by decide) (by decide) hi, e1]
      cases inB 19 15 i <;> rfl
  generalize (if r1B f = true then withN v2 19 15 b else v2) = v3 at *
  generalize (bif r1B f && inB 19 15 i then Src.b (i - 15) else s2) = s3 at *
  cases r2B f with
  | false => rw [if_neg (by decide), e2]; rfl
  | true =>
    rw [if_pos rfl, with_bitB _ _ _ _ _ (by decide) (by decide) hi, e2]
    cases inB 24 20 i <;> rfl
theorem mask_src : ∀ f : Fm, f ≠ .O → f ≠ .F → ∀ i, i < 32 → (maskN f).testBit i = decide (srcF f i = .k) := by
  intro f h1 h2
  cases f <;> first | exact absurd rfl h1 | exact absurd rfl h2 | decide +kernel
theorem and_bit (x y i : Nat) : (x &&& y).testBit i = (x.testBit i && y.testBit i) := Nat.testBit_and x y i
theorem and_lt (x y : Nat) (hx : x < 4294967296) : x &&& y < 4294967296 := Nat.lt_of_le_of_lt Nat.and_le_left hx
/-- a word with its fields 0 -/
theorem clr_is (f : Fm) (h1 : f ≠ .O) (h2 : f ≠ .F) (w : Nat) (hw : w < 4294967296) : fldL f w 0 0 0 0 = w &&& maskN f := by
  refine eq_bits (fldL_lt f w 0 0 0 0 hw) (and_lt _ _ hw) fun i hi => ?_
  rw [fldL_bit f w 0 0 0 0 i hi, and_bit, mask_src f h1 h2 i hi]
  cases srcF f i <;> simp [Src.bit]
theorem mask_low : ∀ f : Fm, ∀ i, i < 7 → (maskN f).testBit i = true := by
  intro f
  cases f <;> decide +kernel
theorem low_of (f : Fm) (x W : Nat) (h : x &&& maskN f = W) : bitsN x 6 0 = bitsN W 6 0 := by
  refine Nat.eq_of_testBit_eq fun i => ?_
  rw [bitsN_bit, bitsN_bit, ← h, and_bit]
  by_cases hi : i < 7
  · rw [Nat.zero_add, mask_low f i hi, Bool.and_true]
  · have e : decide (i < 6 - 0 + 1) = false := decide_eq_false hi
    rw [e]; rfl
theorem word_lt (i : Nat) : (opP i).2 < 4294967296 := by
  by_cases h : i < 57
  · have h2 : (List.range 57).all (fun i => decide ((opP i).2 < 4294967296)) = true := by decide +kernel
    exact of_decide_eq_true (List.all_eq_true.1 h2 i (List.mem_range.2 h))
  · have e : opP i = (.O, 0) := by
      unfold opP
      rw [List.getD_eq_getElem?_getD, List.getElem?_eq_none (by rw [opsL_len]; omega)]
      rfl
    rw [e]; decide
/-- the form by which the program looks whether a word is an operation's -/
def fmE (i : Nat) : Fm := if i = 46 then .I else (opP i).1
theorem fmE_ne (i : Nat) (h1 : 1 ≤ i) (h2 : i < 57) : fmE i ≠ .O ∧ fmE i ≠ .F ∧ maskN (fmE i) = maskN (opP i).1 := by
  have h : (List.range 57).all (fun i => decide (i = 0) || (decide (fmE i ≠ .O) && decide (fmE i ≠ .F) && decide (maskN (fmE i) = maskN (opP i).1))) = true := by decide +kernel
  have h3 := List.all_eq_true.1 h i (List.mem_range.2 h2)
  rcases Bool.or_eq_true_iff.1 h3 with h4 | h4
  · have := of_decide_eq_true h4; omega
  · obtain ⟨h5, h6⟩ := Bool.and_eq_true_iff.1 h4
    obtain ⟨h7, h8⟩ := Bool.and_eq_true_iff.1 h5
    exact ⟨of_decide_eq_true h7, of_decide_eq_true h8, of_decide_eq_true h6⟩
theorem clrE (x i : Nat) (hx : x < 4294967296) (h1 : 1 ≤ i) (h2 : i < 57) : fldL (fmE i) x 0 0 0 0 = x &&& maskN (opP i).1 := by
  obtain ⟨e1, e2, e3⟩ := fmE_ne i h1 h2
  rw [clr_is _ e1 e2 x hx, e3]
theorem mtch_no (x i : Nat) (h : bitsN x 6 0 ≠ bitsN (opP i).2 6 0) : mtchB x i = false :=
  decide_eq_false fun e => h (low_of _ x _ e)
theorem mtch_is (x i : Nat) (hx : x < 4294967296) (h1 : 1 ≤ i) (h2 : i < 57) : mtchB x i = decide (fldL (fmE i) x 0 0 0 0 = (opP i).2) := by
  unfold mtchB
  rw [clrE x i hx h1 h2]
end Go.Proofs.YtghfbdkfibbhoaaDoor
