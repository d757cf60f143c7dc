/-
Layer 8: the laws over package elf's contracts: ElfReads, ElfParts.
-/
import Derived.Test.YtoplknankmomcaaElH
import Derived.Test.YtoplknankmomcaaElI
import Derived.Lib.SliceRun
namespace Go.Proofs.Ytoplknankmomcaa
open Go Go.RowKit

theorem partsN_len {en : Nat} {ps : List Pt} (h : fitsB ps = true) : 52 ≤ (partsN en ps).length ∧ (partsN en ps).length ≤ 3000 := by
  unfold fitsB at h
  rw [decide_eq_true_eq] at h
  unfold partsN
  rw [fileN_len, List.length_map]
  refine ⟨by omega, ?_⟩
  rcases h with h | ⟨h1, h2⟩
  · rw [List.eq_nil_of_length_eq_zero h]
    decide
  · unfold wtN at h2
    rw [List.take_length] at h2
    omega
set_option maxRecDepth 100000 in
set_option maxHeartbeats 1000000 in
theorem reads8_ok (H : ElfOK) (bs : List UInt8) (A : Option Addr) (n c : Nat) (w : World) (hS : SlA w A n c bs) (hA : A = none → c = 0) (hc : c < 9223372036854775808) :
    Calls Try.prog 4 #[.slice A n c] w fun e w' => e = .returned (.bool true) ∧ Below w.heap.size w w' := by
  have hl : bs.length = n := hS.1
  go_enter Try.func4, Try.ntmps4
  go_wp2_with fail
  refine (fit8_any H w).mono ?_
  rintro e u1 ⟨rfl, hb⟩
  replace hS := hS.below hb
  by_cases hbig : (3000 : Int) < (n : Int)
  · have HL := Lib.hid hl
    clear hl
    go_wp2_with fail
    go_ret
    exact ⟨rfl, hb⟩
  · have hbig' : (n : Int) ≤ 3000 := by omega
    have k := same8_any H bs A n c u1 hS hA hc (by omega)
    have HL := Lib.hid hl
    clear hl hbig
    go_wp2_with (refine k.mono ?_; rintro e u2 ⟨rfl, hb2⟩)
    go_ret
    exact ⟨rfl, below_trans hb hb2⟩
theorem slA_some {w : World} {A : Option Addr} {n c : Nat} {bs : List UInt8} (h : SlA w A n c bs) (h0 : 0 < bs.length) : ∃ b o, A = some ⟨b, o, none⟩ := by
  obtain ⟨b, o, e, _⟩ := h.2.2 (by have := h.1; omega)
  exact ⟨b, o, e⟩
set_option maxRecDepth 100000 in
set_option maxHeartbeats 1000000 in
theorem parts8_ok (H : ElfOK) (en : Nat) (s : Sl) (ps : List Pt) (T : Nat → Sl) (w : World) (hQ : SlQ w s ps T) (hen : en < 4294967296) :
    Calls Try.prog 3 #[.int .u32 (en : Int), s.v] w fun e w' => e = .returned (.bool true) ∧ Below w.heap.size w w' := by
  obtain ⟨A1, m, c1, rfl⟩ := s.out
  rw [show Sl.v ⟨A1, m, c1⟩ = .slice A1 m c1 from rfl]
  have HQ := Lib.hid hQ
  clear hQ
  go_enter Try.func3, Try.ntmps3
  go_wp2_with fail
  refine (fit8_any H w).mono ?_
  rintro e u1 ⟨rfl, hb⟩
  have k1 := file_any en ⟨A1, m, c1⟩ ps T u1 (HQ.out.below hb) hen
  rw [show Sl.v ⟨A1, m, c1⟩ = .slice A1 m c1 from rfl] at k1
  go_wp2_with fail
  refine k1.mono ?_
  rintro e u2 ⟨⟨A2, n2, c2, rfl, hR⟩, hb2⟩
  replace hb := below_trans hb hb2
  clear k1 hb2
  unfold FileR at hR
  by_cases hf : fitsB ps = true
  · rw [if_pos hf] at hR
    obtain ⟨hR, hc2⟩ := hR
    have hln := partsN_len (en := en) hf
    obtain ⟨b, o, rfl⟩ := slA_some hR.slA.1 (by omega)
    have k := same8_any H (partsN en ps) (some ⟨b, o, none⟩) n2 c2 u2 hR.slA.1 hR.slA.2 hc2 (by omega)
    have heq := fun w => Lib.run_eql_slice_nil (P := Try.prog) w 25 5 (some ⟨b, o, none⟩) n2 c2 0 0 Try.underlying25
    simp only [Option.isNone_some] at heq
    clear hR hln
    go_wp2_with (refine k.mono ?_; rintro e u3 ⟨rfl, hb3⟩)
    go_ret
    exact ⟨rfl, below_trans hb hb3⟩
  · rw [if_neg hf] at hR
    obtain ⟨rfl, rfl, rfl⟩ := hR
    clear hf
    have heq := fun w => Lib.run_eql_slice_nil (P := Try.prog) w 25 5 none 0 0 0 0 Try.underlying25
    simp only [Option.isNone_none] at heq
    go_wp2_with fail
    go_ret
    exact ⟨rfl, hb⟩
end Go.Proofs.Ytoplknankmomcaa
