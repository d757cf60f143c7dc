/-
Layer 14: AluParts.
-/
import Derived.Test.YtdkdbphcliblcaaAaK
namespace Go.Proofs.Ytdkdbphcliblcaa.Al
open Go Go.RowKit
set_option maxRecDepth 100000 in
set_option maxHeartbeats 4000000 in
theorem pS_any (H : AluOK) (op : Int) (a b : Nat) (w : World) (ha : a < 4294967296) (hb : b < 4294967296) :
    Calls Try.prog 17 #[.int .i64 op, .int .u32 (a : Int), .int .u32 (b : Int)] w fun e w' => e = .returned (.int .u32 (((reckN op a b).1 : Nat) : Int)) ∧ Below w.heap.size w w' := by
  have k := H.reckon op a b w ha hb
  generalize reckN op a b = p at *
  obtain ⟨z, c⟩ := p
  dsimp only at k ⊢
  go_enter Try.func17, Try.ntmps17
  go_wp2_with (go_at_call 9; with_reducible refine k.mono ?_; rintro e w1 ⟨rfl, hb1⟩)
  go_ret
  exact ⟨rfl, hb1⟩
set_option maxRecDepth 100000 in
set_option maxHeartbeats 4000000 in
theorem parts14_ok (H : AluOK) (a b : Nat) (w : World) (ha : a < 4294967296) (hb : b < 4294967296) :
    Calls Try.prog 5 #[.int .u32 (a : Int), .int .u32 (b : Int)] w fun e w' => e = .returned (.bool true) ∧ Below w.heap.size w w' := by
  obtain ⟨q, r, p, l, L, Hh, G, hP⟩ := parts a b ha hb
  have kF := fit14_ok H w
  have c1 := fun W => pS_any H 43 a b W ha hb
  rw [hP.q0] at c1
  have c2 := fun W => pS_any H 45 a b W ha hb
  rw [hP.r0] at c2
  have c3 := fun W => pS_any H 42 a b W ha hb
  rw [hP.p0] at c3
  have c4 := fun W => pS_any H 44 a b W ha hb
  rw [hP.l0] at c4
  have c5 := fun W => pS_any H 38 a b W ha hb
  rw [hP.L0] at c5
  have c6 := fun W => pS_any H 41 a b W ha hb
  rw [hP.H0] at c6
  have c7 := fun W => pS_any H 39 a b W ha hb
  rw [hP.G0] at c7
  have hL1 := hP.L1
  have hH1 := hP.H1
  have hG1 := hP.G1
  have hsG := sgA_in G hG1
  have hu := or_u Hh L hH1 hL1
  have hs := or_i (sgA G) L hsG.1 hsG.2 hL1
  rw [hP.u] at hu
  rw [hP.s] at hs
  have e1 : IntKind.u64.wrap ((a : Int) * (b : Int)) = (a : Int) * b := w_u a b ha hb
  have e2 : IntKind.u64.wrap ((Hh : Int) * 4294967296) = (Hh : Int) * 4294967296 := by rw [IntKind.wrap_u64]; omega
  have hl1 := hP.l1
  have hsa := sgA_in a ha
  have hsb := sgA_in b hb
  have hsl := sgA_in l hl1
  have hAB := prod_in (sgA a) (sgA b) hsa.1 hsa.2 hsb.1 hsb.2
  have fG : wrap64 ((G : Int) * 4294967296) = sgA G * 4294967296 := w64_g G hG1
  have fA : wrap32 (a : Int) = sgA a := w32_a a ha
  have fB : wrap32 (b : Int) = sgA b := w32_a b hb
  have fl : wrap32 (l : Int) = sgA l := w32_a l hl1
  have hz := hP.z
  have hd := hP.d
  have hn := hP.n
  generalize sgA a = A at *
  generalize sgA b = B at *
  generalize sgA l = X at *
  generalize sgA G = g at *
  have gA : wrap64 A = A := w64_s A hsa
  have gB : wrap64 B = B := w64_s B hsb
  have gAB : wrap64 (A * B) = A * B := w64_p _ hAB
  obtain ⟨Y, hY⟩ : ∃ Y, Y = A * B := ⟨_, rfl⟩
  rw [← hY] at hs gAB hAB
  replace hY := hY.symm
  clear hP hAB hsG hsa hsb hsl
  by_cases hb0' : b = 0
  · obtain ⟨e3, e4, e5, e6⟩ := hz hb0'
    have e7 : ((b : Int) == 0) = true := by rw [hb0']; rfl
    clear hz hd hn hb0' fl
    subst e3 e4 e5 e6
    go_enter Try.func5, Try.ntmps5
    go_wp2_with (first
      | (go_at_call 8; with_reducible refine kF.mono ?_; rintro e w0 ⟨rfl, hb0⟩)
      | (go_at_call 17; with_reducible refine (c1 _).mono ?_; rintro e w1 ⟨rfl, hb1⟩)
      | (go_at_call 17; with_reducible refine (c2 _).mono ?_; rintro e w2 ⟨rfl, hb2⟩)
      | (go_at_call 17; with_reducible refine (c3 _).mono ?_; rintro e w3 ⟨rfl, hb3⟩)
      | (go_at_call 17; with_reducible refine (c4 _).mono ?_; rintro e w4 ⟨rfl, hb4⟩)
      | (go_at_call 17; with_reducible refine (c5 _).mono ?_; rintro e w5 ⟨rfl, hb5⟩)
      | (go_at_call 17; with_reducible refine (c6 _).mono ?_; rintro e w6 ⟨rfl, hb6⟩)
      | (go_at_call 17; with_reducible refine (c7 _).mono ?_; rintro e w7 ⟨rfl, hb7⟩))
    go_ret
    exact ⟨rfl, (((((((hb0.trans (hb1.mono hb0.size)).trans (hb2.mono (Nat.le_trans hb0.size hb1.size))).trans (hb3.mono (Nat.le_trans (Nat.le_trans hb0.size hb1.size) hb2.size))).trans (hb4.mono (Nat.le_trans (Nat.le_trans (Nat.le_trans hb0.size hb1.size) hb2.size) hb3.size))).trans (hb5.mono (Nat.le_trans (Nat.le_trans (Nat.le_trans (Nat.le_trans hb0.size hb1.size) hb2.size) hb3.size) hb4.size))).trans (hb6.mono (Nat.le_trans (Nat.le_trans (Nat.le_trans (Nat.le_trans (Nat.le_trans hb0.size hb1.size) hb2.size) hb3.size) hb4.size) hb5.size))).trans (hb7.mono (Nat.le_trans (Nat.le_trans (Nat.le_trans (Nat.le_trans (Nat.le_trans (Nat.le_trans hb0.size hb1.size) hb2.size) hb3.size) hb4.size) hb5.size) hb6.size)))⟩
  · obtain ⟨e3, e4, e5⟩ := hd hb0'
    have hn' := hn hb0'
    have e7 : ((b : Int) == 0) = false := ne_z b hb0'
    clear hz hd hn
    have e8 : ((l : Int) == 0 || decide (0 ≤ X) == decide (0 ≤ A)) = true := by
      by_cases hl0 : l = 0
      · rw [hl0]; rfl
      · have h := hn' hl0
        rw [ne_z l hl0, decide_eq_decide.2 h]
        cases decide (0 ≤ A) <;> rfl
    clear hn'
    go_enter Try.func5, Try.ntmps5
    go_wp2_with (first
      | (go_at_call 8; with_reducible refine kF.mono ?_; rintro e w0 ⟨rfl, hb0⟩)
      | (go_at_call 17; with_reducible refine (c1 _).mono ?_; rintro e w1 ⟨rfl, hb1⟩)
      | (go_at_call 17; with_reducible refine (c2 _).mono ?_; rintro e w2 ⟨rfl, hb2⟩)
      | (go_at_call 17; with_reducible refine (c3 _).mono ?_; rintro e w3 ⟨rfl, hb3⟩)
      | (go_at_call 17; with_reducible refine (c4 _).mono ?_; rintro e w4 ⟨rfl, hb4⟩)
      | (go_at_call 17; with_reducible refine (c5 _).mono ?_; rintro e w5 ⟨rfl, hb5⟩)
      | (go_at_call 17; with_reducible refine (c6 _).mono ?_; rintro e w6 ⟨rfl, hb6⟩)
      | (go_at_call 17; with_reducible refine (c7 _).mono ?_; rintro e w7 ⟨rfl, hb7⟩))
    all_goals
      go_ret
      exact ⟨rfl, (((((((hb0.trans (hb1.mono hb0.size)).trans (hb2.mono (Nat.le_trans hb0.size hb1.size))).trans (hb3.mono (Nat.le_trans (Nat.le_trans hb0.size hb1.size) hb2.size))).trans (hb4.mono (Nat.le_trans (Nat.le_trans (Nat.le_trans hb0.size hb1.size) hb2.size) hb3.size))).trans (hb5.mono (Nat.le_trans (Nat.le_trans (Nat.le_trans (Nat.le_trans hb0.size hb1.size) hb2.size) hb3.size) hb4.size))).trans (hb6.mono (Nat.le_trans (Nat.le_trans (Nat.le_trans (Nat.le_trans (Nat.le_trans hb0.size hb1.size) hb2.size) hb3.size) hb4.size) hb5.size))).trans (hb7.mono (Nat.le_trans (Nat.le_trans (Nat.le_trans (Nat.le_trans (Nat.le_trans (Nat.le_trans hb0.size hb1.size) hb2.size) hb3.size) hb4.size) hb5.size) hb6.size)))⟩
end Go.Proofs.Ytdkdbphcliblcaa.Al
