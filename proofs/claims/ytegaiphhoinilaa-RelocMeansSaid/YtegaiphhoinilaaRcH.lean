/-
Layer 13: the law's like; its two memories are one.
-/
import Derived.Test.YtegaiphhoinilaaRcA
namespace Go.Proofs.Ytegaiphhoinilaa.Rc
open Go Go.RowKit

theorem cellsAfter' {w w' : World} {b o n : Nat} {f : Nat → Value} (h : ∀ j, j < n → w.cell? ⟨b, o + j, none⟩ = some (f j)) (hb : b < w.heap.size) (k : Below w.heap.size w w') : ∀ j, j < n → w'.cell? ⟨b, o + j, none⟩ = some (f j) := fun j hj =>
  (k.cell (p := ⟨b, o + j, none⟩) hb).trans (h j hj)
set_option maxRecDepth 100000 in
set_option maxHeartbeats 1000000 in
theorem like13_mem (m : Nat → UInt8) (g r mb c : Nat) (w : World) (hG : RamP w g m) (hR : RefP w r mb m c) :
    Calls Try.prog 13 #[mP g, mP r] w fun e w' => e = .returned (.bool true) ∧ Below w.heap.size w w' := by
  have kG := get_any m g 2147483648 65536 w hG (by decide) (by decide) (by decide)
  simp only [Int.cast_ofNat_Int] at kG
  go_enter Try.func13, Try.ntmps13
  go_wp2_with fail
  refine kG.mono ?_
  rintro e w1 ⟨⟨v, rfl, hown⟩, hb1⟩
  obtain ⟨A, cc, rfl⟩ := own_form hown
  obtain ⟨hS, _⟩ := own_slA hown
  obtain ⟨b, o, rfl, hbl, hcell⟩ := hS.2.2 (by decide)
  have hcell2 : ∀ j, j < 65536 → w1.cell? ⟨b, o + j, none⟩ = some (.int .u8 ((m j).toNat : Int)) := fun j hj => by
    rw [hcell j hj, cut_get hj, show 2147483648 - 2147483648 + j = j by omega]
    rfl
  have hR1 := hR.after hb1
  have HC := Lib.hid hcell2
  have HR := Lib.hid hR1
  have HB1 := Lib.hid hb1
  clear kG hown hS hcell hcell2 hR hG hR1 hb1
  dsimp only
  go_wp2_with fail
  go_loopw [16] (fun ct wr => ∃ i : Nat, i ≤ 65536 ∧ ct = .int .i64 (i : Int) ∧ Below w1.heap.size w1 wr) (fun ct _ => (65536 - (intOf ct)).toNat)
  case atStart => exact ⟨0, by decide, rfl, Below.refl _ _⟩
  case round =>
    obtain ⟨i, hi, rfl, hb⟩ := hrel
    by_cases hlt : i < 65536
    · have di : (i : Int) < 65536 := by omega
      have hR2 := HR.out.after hb
      have hc0 : wr.cell? ⟨r, 0, none⟩ = some (.map (some mb)) := hR2.1.cell 0
      have hlk := hR2.2.look (t := 2147483648 + i) ⟨by omega, by omega⟩
      rw [show (((2147483648 + i : Nat) : Int)) = (2147483648 : Int) + (i : Int) by omega, show 2147483648 + i - 2147483648 = i by omega] at hlk
      have hci := cellsAfter' HC.out hbl hb i hlt
      have HB := Lib.hid hb
      clear hb hR2
      generalize m i = y at *
      unfold by8 at hlk
      go_wp2_with fail
      go_roundw
      case rel => exact ⟨i + 1, hlt, by go_num, HB.out⟩
      case measure => simp [intOf] <;> omega
    · have di : ¬ (i : Int) < 65536 := by omega
      have HB := Lib.hid hb
      clear hb
      go_wp2_with fail
      first | go_ret | go_end0
      exact ⟨rfl, HB1.out.trans (HB.out.mono HB1.out.size)⟩
end Go.Proofs.Ytegaiphhoinilaa.Rc
