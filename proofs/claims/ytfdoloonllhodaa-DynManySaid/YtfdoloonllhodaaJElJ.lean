/-
Layer 8: the laws over package elf's contracts: ElfReads, ElfParts.
-/
import Derived.Test.YtfdoloonllhodaaJElG
import Derived.Test.YtfdoloonllhodaaJDzH
import Derived.Lib.SliceRun
namespace Go.Proofs.Ytfdoloonllhodaa
open Go Go.RowKit

theorem partsN_len {en : Nat} {ps : List Pt} (h : fitsB ps = true) : 52 ≤ (partsN en ps).length ∧ (partsN en ps).length ≤ 3000 := by
  unfold fitsB at h
  rw [decide_eq_true_eq] at h
  unfold partsN
  rw [fileN_len, List.length_map]
  refine ⟨by omega, ?_⟩
  rcases h with h | ⟨h1, h2⟩
  · rw [List.eq_nil_of_length_eq_zero h]
    decide
  · unfold wtN at h2
    rw [List.take_length] at h2
    omega
theorem slA_some {w : World} {A : Option Addr} {n c : Nat} {bs : List UInt8} (h : SlA w A n c bs) (h0 : 0 < bs.length) : ∃ b o, A = some ⟨b, o, none⟩ := by
  obtain ⟨b, o, e, _⟩ := h.2.2 (by have := h.1; omega)
  exact ⟨b, o, e⟩
end Go.Proofs.Ytfdoloonllhodaa
