/-
Layer 14: AluOrders.
-/
import Derived.Test.YtdkdbphcliblcaaAaH
namespace Go.Proofs.Ytdkdbphcliblcaa.Al
open Go Go.RowKit

def ordL : List Int := [28, 38, 39, 41, 33, 36, 37]
def ordC : Array Value := (ordL.map (Value.int .i64)).toArray
theorem reck_comm (i a b : Nat) (hi : i < 7) : (reckN (ordL.getD i 0) b a).1 = (reckN (ordL.getD i 0) a b).1 := by
  rcases (show i = 0 ∨ i = 1 ∨ i = 2 ∨ i = 3 ∨ i = 4 ∨ i = 5 ∨ i = 6 by omega) with rfl | rfl | rfl | rfl | rfl | rfl | rfl
  · show lowA ((b : Int) + a) = lowA ((a : Int) + b); rw [Int.add_comm]
  · show lowA ((b : Int) * a) = lowA ((a : Int) * b); rw [Int.mul_comm]
  · show hiA (sgA b) (sgA a) = hiA (sgA a) (sgA b); unfold hiA; rw [Int.mul_comm]
  · show hiA b a = hiA a b; unfold hiA; rw [Int.mul_comm]
  · show b ^^^ a = a ^^^ b; rw [Nat.xor_comm]
  · show b ||| a = a ||| b; rw [Nat.or_comm]
  · show b &&& a = a &&& b; rw [Nat.and_comm]
theorem at_i (b n c j : Nat) (hj : (j : Int) < (n : Int)) (w : World) : (Instr.indexAt 39 (.slice (some ⟨b, 0, none⟩) n c) (.int .i64 (j : Int))).run Try.prog w = .ok (.pointer (some ⟨b, j, none⟩)) w := by
  have h2 := Addr.add_mid b 0 j
  rw [Nat.zero_add] at h2
  go_simp
theorem ordC_at (j : Nat) (h : j < 7) : ordC[j]? = some (.int .i64 (ordL.getD j 0)) := by
  rcases (show j = 0 ∨ j = 1 ∨ j = 2 ∨ j = 3 ∨ j = 4 ∨ j = 5 ∨ j = 6 by omega) with rfl | rfl | rfl | rfl | rfl | rfl | rfl <;> rfl
set_option maxRecDepth 100000 in
set_option maxHeartbeats 4000000 in
theorem orders14_ok (H : AluOK) (a b : Nat) (w : World) (ha : a < 4294967296) (hb : b < 4294967296) :
    Calls Try.prog 7 #[.int .u32 (a : Int), .int .u32 (b : Int)] w fun e w' => e = .returned (.bool true) ∧ Below w.heap.size w w' := by
  have kF := fit14_ok H w
  go_enter Try.func7, Try.ntmps7
  go_upto_region 3 with (go_at_call 8; with_reducible refine kF.mono ?_; rintro e w0 ⟨rfl, hb0⟩)
  clear kF
  obtain ⟨w1, hw1, hO, hb1, hz1⟩ := one_new w0 ordC 3
  have HO := Lib.hid hO
  have HB1 := Lib.hid (hb0.trans (hb1.mono hb0.size))
  clear hO hb1 hz1 hb0
  go_wp2_with fail
  change Code.wp _ _ _ _ (w0.alloc (.cells ordC 3))
  rw [← hw1]
  clear hw1
  obtain ⟨g, hg⟩ : ∃ g, g = w0.heap.size := ⟨_, rfl⟩
  rw [← hg] at HO ⊢
  clear hg
  go_loopw [27] (fun ct wr => ∃ i : Nat, i ≤ 7 ∧ ct = .int .i64 (i : Int) ∧ Below w1.heap.size w1 wr) (fun ct _ => (7 - (intOf ct)).toNat)
  case atStart => exact ⟨0, by decide, rfl, Below.refl _ _⟩
  case round =>
    obtain ⟨i, hi, rfl, hbr⟩ := hrel
    by_cases hlt : i < 7
    · have di : (i : Int) < 7 := by omega
      have hc : wr.cell? ⟨g, i, none⟩ = some (.int .i64 (ordL.getD i 0)) := ((has_after HO.out hbr).cell i).trans (ordC_at i hlt)
      have hcm := reck_comm i a b hlt
      have hx := fun W => at_i g 7 7 i (by omega) W
      generalize ordL.getD i 0 = op at *
      have k1 := fun W => H.reckon op a b W ha hb
      have k2 := fun W => H.reckon op b a W hb ha
      rw [hcm] at k2
      have HBR := Lib.hid hbr
      clear hbr hcm
      generalize (reckN op a b).1 = z at *
      generalize (reckN op a b).2 = c at *
      generalize (reckN op b a).2 = d at *
      go_wp2_with (first
        | (go_at_call 9; with_reducible refine (k1 _).mono ?_; rintro e w2 ⟨rfl, hb2⟩; clear hc)
        | (go_at_call 9; with_reducible refine (k2 _).mono ?_; rintro e w3 ⟨rfl, hb3⟩))
      go_roundw
      case rel => exact ⟨i + 1, hlt, by go_num, HBR.out.trans ((hb2.trans (hb3.mono hb2.size)).mono HBR.out.size)⟩
      case measure => simp [intOf] <;> omega
    · have di : ¬ (i : Int) < 7 := by omega
      have HBR := Lib.hid (HB1.out.trans (hbr.mono HB1.out.size))
      clear hbr
      have k1 := fun W => H.reckon 29 a a W ha ha
      rw [show reckN 29 a a = (0, true) by show (lowA ((a : Int) - a), true) = _; rw [Int.sub_self]; rfl] at k1
      have k2 := fun W => H.reckon 33 a a W ha ha
      rw [show reckN 33 a a = (0, true) by show (a ^^^ a, true) = _; rw [Nat.xor_self]] at k2
      have k3 := fun W => H.reckon 31 a b W ha hb
      rw [show reckN 31 a b = ((decide (sgA a < sgA b)).toNat, true) from rfl] at k3
      have k4 := fun W => H.goes 8 a b W ha hb
      rw [show goesN 8 a b = (decide (sgA b ≤ sgA a), true) from rfl] at k4
      have k5 := fun W => H.reckon 32 a b W ha hb
      rw [show reckN 32 a b = ((decide (a < b)).toNat, true) from rfl] at k5
      have k6 := fun W => H.goes 9 a b W ha hb
      rw [show goesN 9 a b = (decide (a < b), true) from rfl] at k6
      have hor : (decide (sgA a < sgA b) = true ∧ decide (sgA b ≤ sgA a) = false) ∨ (decide (sgA a < sgA b) = false ∧ decide (sgA b ≤ sgA a) = true) := by
        by_cases h : sgA a < sgA b
        · exact Or.inl ⟨decide_eq_true h, decide_eq_false (by omega)⟩
        · exact Or.inr ⟨decide_eq_false h, decide_eq_true (by omega)⟩
      have ho2 : decide (a < b) = true ∨ decide (a < b) = false := by cases decide (a < b) <;> simp
      generalize decide (sgA a < sgA b) = l at *
      generalize decide (sgA b ≤ sgA a) = m at *
      generalize decide (a < b) = n at *
      rcases hor with ⟨rfl, rfl⟩ | ⟨rfl, rfl⟩ <;> rcases ho2 with rfl | rfl
      all_goals
        dsimp only [Bool.toNat] at k1 k2 k3 k4 k5 k6
        simp only [Int.cast_ofNat_Int, Bool.cond_true, Bool.cond_false] at k1 k2 k3 k5
        go_wp2_with (first
          | (go_at_call 9; with_reducible refine (k1 _).mono ?_; rintro e w2 ⟨rfl, hb2⟩)
          | (go_at_call 9; with_reducible refine (k2 _).mono ?_; rintro e w3 ⟨rfl, hb3⟩)
          | (go_at_call 9; with_reducible refine (k3 _).mono ?_; rintro e w4 ⟨rfl, hb4⟩)
          | (go_at_call 11; with_reducible refine (k4 _).mono ?_; rintro e w5 ⟨rfl, hb5⟩)
          | (go_at_call 9; with_reducible refine (k5 _).mono ?_; rintro e w6 ⟨rfl, hb6⟩)
          | (go_at_call 11; with_reducible refine (k6 _).mono ?_; rintro e w7 ⟨rfl, hb7⟩))
        go_ret
        have h2 := HBR.out.trans (hb2.mono HBR.out.size)
        have h3 := h2.trans (hb3.mono h2.size)
        have h4 := h3.trans (hb4.mono h3.size)
        have h5 := h4.trans (hb5.mono h4.size)
        have h6 := h5.trans (hb6.mono h5.size)
        exact ⟨rfl, h6.trans (hb7.mono h6.size)⟩
end Go.Proofs.Ytdkdbphcliblcaa.Al
