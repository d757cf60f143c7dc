/-
Layer 11: InstEncodes.
-/
import Derived.Test.YtghfbdkfibbhoaaDoorIlA
namespace Go.Proofs.YtghfbdkfibbhoaaDoor
open Go Go.RowKit

set_option maxRecDepth 100000 in
set_option maxHeartbeats 4000000 in
/-- the walk, by what the two calls answer -/
theorem encodes11_by (op a b c : Int) (n : Nat) (w : World) (hT : TabW w) (hn : n < 4294967296) (V : Nat) (v : Int) (r s : Bool) (hrs : r = s) (hVv : r = true → (V : Int) = v) (hV : V < 4294967296)
    (kA : ∀ W, TabW W → Calls Tryd.prog 12 #[.agg (tab 5 (insA op a b c (n : Int)))] W fun e w' => e = .returned (.tuple #[.int .u32 (V : Int), .bool r]) ∧ Below W.heap.size W w')
    (kR : ∀ W, Calls Tryd.prog 13 #[.agg (tab 5 (insR op a b c n))] W fun e w' => e = .returned (.tuple #[.int .i64 v, .bool s]) ∧ Below W.heap.size W w') :
    Calls Tryd.prog 5 #[.agg (tab 5 (insA op a b c (n : Int)))] w fun e w' => e = .returned (.bool true) ∧ Below w.heap.size w w' := by
  have eA : tab 5 (insA op a b c (n : Int)) = #[.int .i64 op, .int .i64 a, .int .i64 b, .int .i64 c, .int .u32 (n : Int)] := rfl
  have eR : tab 5 (insR op a b c n) = #[.int .i64 op, .int .i64 a, .int .i64 b, .int .i64 c, .int .i64 (n : Int)] := rfl
  rw [eA] at kA ⊢
  rw [eR] at kR
  clear eA eR
  have kf := fun W (hT : TabW W) => fit11_any W hT
  have KF := Lib.hid kf
  have KA := Lib.hid kA
  have HT := Lib.hid hT
  clear kf kA hT
  subst hrs
  go_enter Tryd.func5, Tryd.ntmps5
  go_wp2_with fail
  obtain ⟨wa, hwa, hX, hba, hsa⟩ := one_new w #[.int .i64 op, .int .i64 a, .int .i64 b, .int .i64 c, .int .u32 (n : Int)] 26
  rw [← hwa]
  clear hwa
  refine (KF.out _ (HT.out.below hba)).mono ?_
  rintro e w1 ⟨rfl, hb1⟩
  have hT1 := (HT.out.below hba).below hb1
  have hX1 := hX.below hb1 hX.lt
  have hbb := hba.trans (hb1.mono hba.size)
  clear hX hba hsa hb1
  have c0 : w1.cell? ⟨w.heap.size, 0, none⟩ = some (.int .i64 op) := hX1.cell 0
  have c1 : w1.cell? ⟨w.heap.size, 1, none⟩ = some (.int .i64 a) := hX1.cell 1
  have c2 : w1.cell? ⟨w.heap.size, 2, none⟩ = some (.int .i64 b) := hX1.cell 2
  have c3 : w1.cell? ⟨w.heap.size, 3, none⟩ = some (.int .i64 c) := hX1.cell 3
  have c4 : w1.cell? ⟨w.heap.size, 4, none⟩ = some (.int .u32 (n : Int)) := hX1.cell 4
  have HT1 := Lib.hid hT1
  have HX1 := Lib.hid hX1
  have HBB := Lib.hid hbb
  clear hT1 hX1 hbb
  go_wp2_with fail
  refine (KA.out _ HT1.out).mono ?_
  rintro e w2 ⟨rfl, hb2⟩
  have hX2 := HX1.out.below hb2 HX1.out.lt
  have hb2' := HBB.out.trans (hb2.mono HBB.out.size)
  clear c0 c1 c2 c3 c4 hb2
  have c0 : w2.cell? ⟨w.heap.size, 0, none⟩ = some (.int .i64 op) := hX2.cell 0
  have c1 : w2.cell? ⟨w.heap.size, 1, none⟩ = some (.int .i64 a) := hX2.cell 1
  have c2 : w2.cell? ⟨w.heap.size, 2, none⟩ = some (.int .i64 b) := hX2.cell 2
  have c3 : w2.cell? ⟨w.heap.size, 3, none⟩ = some (.int .i64 c) := hX2.cell 3
  have c4 : w2.cell? ⟨w.heap.size, 4, none⟩ = some (.int .u32 (n : Int)) := hX2.cell 4
  have HB2 := Lib.hid hb2'
  clear hX2 hb2'
  go_wp2_with fail
  refine (kR _).mono ?_
  rintro e w3 ⟨rfl, hb3⟩
  have hb3' := HB2.out.trans (hb3.mono HB2.out.size)
  have HB3 := Lib.hid hb3'
  clear hb3 hb3' c0 c1 c2 c3 c4
  cases r with
  | true =>
    have e := hVv rfl
    subst e
    clear hVv
    go_wp2_with fail
    go_ret
    exact ⟨rfl, HB3.out⟩
  | false =>
    clear hVv
    go_wp2_with fail
    go_ret
    exact ⟨rfl, HB3.out⟩
theorem encodes11_ok (op a b c : Int) (n : Nat) (w : World) (hT : TabW w) (hn : n < 4294967296) :
    Calls Tryd.prog 5 #[.agg (tab 5 (insA op a b c (n : Int)))] w fun e w' => e = .returned (.bool true) ∧ Below w.heap.size w w' := by
  by_cases hop : 1 ≤ op ∧ op < 57
  · obtain ⟨i, rfl⟩ : ∃ i : Nat, op = (i : Int) := ⟨op.toNat, by omega⟩
    have h1 : 1 ≤ i := by omega
    have h2 : i < 57 := by omega
    by_cases hr : 0 ≤ a ∧ a ≤ 31 ∧ 0 ≤ b ∧ b ≤ 31 ∧ 0 ≤ c ∧ c ≤ 31
    · obtain ⟨x, rfl⟩ : ∃ x : Nat, a = (x : Int) := ⟨a.toNat, by omega⟩
      obtain ⟨y, rfl⟩ : ∃ y : Nat, b = (y : Int) := ⟨b.toNat, by omega⟩
      obtain ⟨z, rfl⟩ : ∃ z : Nat, c = (z : Int) := ⟨c.toNat, by omega⟩
      refine encodes11_by i x y z n w hT hn (if encB i x y z n then encW i x y z n else 0) (encW i x y z n : Nat) (encB i x y z n) (encB i x y z n) rfl (fun h => by rw [if_pos h]) (by split; exact encW_lt _ _ _ _ _; decide) (fun W hT => aencode_any i x y z n W hT h1 h2 hn) (fun W => rencode_ok i x y z n W h1 h2 (by omega) (by omega) (by omega) hn)
    · have hno := encB_no i n a b c hr
      have hno2 : ¬encOk (i : Int) a b c := fun h => hr (by unfold encOk at h; omega)
      refine encodes11_by i a b c n w hT hn 0 0 false false rfl (fun h => by cases h) (by decide) (fun W hT => ?_) (fun W => encode_no i a b c n W hno2)
      have h := aencode_any i a b c n W hT h1 h2 hn
      rw [hno, if_neg (by decide)] at h
      exact h
  · have hno2 : ¬encOk op a b c := fun h => hop (by unfold encOk at h; omega)
    exact encodes11_by op a b c n w hT hn 0 0 false false rfl (fun h => by cases h) (by decide) (fun W _ => aencode_no op a b c n W hop) (fun W => encode_no op a b c n W hno2)
end Go.Proofs.YtghfbdkfibbhoaaDoor
