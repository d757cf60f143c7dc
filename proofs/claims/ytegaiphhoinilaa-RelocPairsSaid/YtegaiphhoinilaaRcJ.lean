/-
Layer 13: the example.
-/
import Derived.Test.YtegaiphhoinilaaRcI
namespace Go.Proofs.Ytegaiphhoinilaa.Rc
open Go Go.RowKit

theorem has_slC {w : World} {g n k : Nat} {t : TypeId} {cs : Array Value} {f : Nat → Nat → Value} (h : Has w g t cs) (hn : n ≤ 140737488355328) (hc : ∀ j i, j < n → i < k → cs[j * k + i]? = some (f j i)) : SlC w ⟨some ⟨g, 0, none⟩, n, n⟩ k f :=
  ⟨⟨Nat.le_refl _, hn⟩, fun _ => ⟨g, 0, rfl, h.lt, fun j i hj hi => by
    have e := h.cell (j * k + i)
    rw [hc j i hj hi] at e
    rw [Nat.zero_add]
    exact e⟩⟩
theorem four_new (w : World) (a b c d : Array Value) (ta tb tc td : TypeId) : ∃ u, u = (((w.alloc (.cells a ta)).alloc (.cells b tb)).alloc (.cells c tc)).alloc (.cells d td) ∧ Has u w.heap.size ta a ∧ Has u (w.heap.size + 1) tb b ∧ Has u (w.heap.size + 1 + 1 + 1) td d ∧ Below w.heap.size w u := by
  have s1 : (w.alloc (.cells a ta)).heap.size = w.heap.size + 1 := Array.size_push _
  have s2 : ((w.alloc (.cells a ta)).alloc (.cells b tb)).heap.size = w.heap.size + 1 + 1 := by rw [← s1]; exact Array.size_push _
  have s3 : (((w.alloc (.cells a ta)).alloc (.cells b tb)).alloc (.cells c tc)).heap.size = w.heap.size + 1 + 1 + 1 := by rw [← s2]; exact Array.size_push _
  have b1 : Below (w.alloc (.cells a ta)).heap.size (w.alloc (.cells a ta)) ((w.alloc (.cells a ta)).alloc (.cells b tb)) := (Below.refl _ _).alloc (Nat.le_refl _) _
  have b2 : Below ((w.alloc (.cells a ta)).alloc (.cells b tb)).heap.size ((w.alloc (.cells a ta)).alloc (.cells b tb)) (((w.alloc (.cells a ta)).alloc (.cells b tb)).alloc (.cells c tc)) := (Below.refl _ _).alloc (Nat.le_refl _) _
  have b3 : Below (((w.alloc (.cells a ta)).alloc (.cells b tb)).alloc (.cells c tc)).heap.size (((w.alloc (.cells a ta)).alloc (.cells b tb)).alloc (.cells c tc)) ((((w.alloc (.cells a ta)).alloc (.cells b tb)).alloc (.cells c tc)).alloc (.cells d td)) := (Below.refl _ _).alloc (Nat.le_refl _) _
  have b0 : Below w.heap.size w (w.alloc (.cells a ta)) := (Below.refl _ _).alloc (Nat.le_refl _) _
  have ha : Has (w.alloc (.cells a ta)) w.heap.size ta a := Has.new _ _ _
  have hb : Has ((w.alloc (.cells a ta)).alloc (.cells b tb)) (w.alloc (.cells a ta)).heap.size tb b := Has.new _ _ _
  have hd : Has ((((w.alloc (.cells a ta)).alloc (.cells b tb)).alloc (.cells c tc)).alloc (.cells d td)) (((w.alloc (.cells a ta)).alloc (.cells b tb)).alloc (.cells c tc)).heap.size td d := Has.new _ _ _
  rw [s1] at hb
  rw [s3] at hd
  exact ⟨_, rfl, ((ha.after b1).after b2).after b3, (hb.after b2).after b3, hd, ((b0.trans (b1.mono b0.size)).trans (b2.mono (b0.trans (b1.mono b0.size)).size)).trans (b3.mono ((b0.trans (b1.mono b0.size)).trans (b2.mono (b0.trans (b1.mono b0.size)).size)).size)⟩
def exR : List Re := [⟨0, 1, 1, 1⟩]
def exL : List (Nat × Nat) := [(2147487744, 16)]
set_option maxRecDepth 100000 in
set_option maxHeartbeats 2000000 in
theorem fit13_ok (H : RelocOK) : FitK := by
  intro w
  have kN := pnew_any w
  go_enter Try.func8, Try.ntmps8
  go_wp2_with fail
  refine kN.mono ?_
  rintro e w1 ⟨⟨g, rfl, hG, hgw⟩, hb1⟩
  dsimp only
  clear kN
  go_wp2_with fail
  obtain ⟨u, hu, hA, hB, hD, hb4⟩ := four_new w1 #[.int .u32 0, .int .u32 8] #[.int .u32 0, .int .i64 1, .int .i64 1, .int .u32 1] #[.int .u32 0, .slice none 0 0, .slice (some ⟨w1.heap.size + 1, 0, none⟩) 1 1, .slice (some ⟨w1.heap.size, 0, none⟩) 2 2] #[.int .u32 2147487744, .int .u32 16, .int .i64 0] 24 43 36 54
  rw [← hu]
  have hg1 : g < w1.heap.size := hG.lt
  have hGu := hG.after hb4
  obtain ⟨a, ha⟩ : ∃ a, a = w1.heap.size := ⟨_, rfl⟩
  rw [← ha] at hA hB hD ⊢
  have hK : KeepG u g [0, 8] exR exL ⟨some ⟨a, 0, none⟩, 2, 2⟩ ⟨some ⟨a + 1, 0, none⟩, 1, 1⟩ ⟨some ⟨a + 1 + 1 + 1, 0, none⟩, 1, 1⟩ := by
    intro w' hk
    refine ⟨⟨rfl, by decide, has_slC (has_by hA hk (by omega)) (by decide) ?_⟩, ⟨rfl, ?_, has_slC (has_by hB hk (by omega)) (by decide) ?_⟩, ⟨rfl, by decide, has_slC (has_by hD hk (by omega)) (by decide) ?_⟩⟩
    · intro j i hj hi
      obtain rfl : i = 0 := by omega
      rcases (show j = 0 ∨ j = 1 by omega) with rfl | rfl <;> rfl
    · intro x hx
      obtain rfl : x = ⟨0, 1, 1, 1⟩ := by simpa [exR] using hx
      exact ⟨by decide, by unfold i64ok; decide, by unfold i64ok; decide, by decide⟩
    · intro j i hj hi
      obtain rfl : j = 0 := by omega
      rcases (show i = 0 ∨ i = 1 ∨ i = 2 ∨ i = 3 by omega) with rfl | rfl | rfl | rfl <;> rfl
    · intro j i hj hi
      obtain rfl : j = 0 := by omega
      rcases (show i = 0 ∨ i = 1 ∨ i = 2 by omega) with rfl | rfl | rfl <;> rfl
  have kA := H.apply [0, 8] exR exL 2147487744 0 g mem0 nilS ⟨some ⟨a + 1, 0, none⟩, 1, 1⟩ ⟨some ⟨a, 0, none⟩, 2, 2⟩ ⟨some ⟨a + 1 + 1 + 1, 0, none⟩, 1, 1⟩ u hK (by unfold inRam; decide) (by decide) (by decide) hGu
  obtain ⟨M, hM⟩ : ∃ M, M = (allP [0, 8] exR 2147487744 exL mem0 exR).2 := ⟨_, rfl⟩
  have hL : ldV M 2147487744 4 = 2147487753 := by rw [hM]; decide +kernel
  rw [← hM, show (allP [0, 8] exR 2147487744 exL mem0 exR).1 = 0 by decide +kernel] at kA
  clear hM hK hA hB hD hu
  have HB := Lib.hid (hb1.trans (hb4.mono hb1.size))
  have hga : g < u.heap.size := hGu.lt
  refine kA.mono ?_
  rintro e w2 ⟨rfl, hG2, hg2⟩
  dsimp only
  clear kA hGu hb1 hb4 hG
  have kL := mload_any M g 2147487744 4 w2 hG2 (by decide)
  rw [hL, show stB 2147487744 4 = true by decide, show erI true = 0 from rfl] at kL
  have kU := fun W => H.upper 305422335 W (by decide)
  rw [show upP 305422335 = 305422336 by decide] at kU
  simp only [Int.cast_ofNat_Int] at kL kU
  clear hL
  go_wp2_with fail
  refine kL.mono ?_
  rintro e w3 ⟨rfl, hb3⟩
  dsimp only
  clear kL
  go_wp2_with fail
  refine (kU w3).mono ?_
  rintro e w4 ⟨rfl, hb5⟩
  dsimp only
  go_wp2_with fail
  go_ret
  refine ⟨rfl, ?_⟩
  have h2 := below_only HB.out hg2 hgw HB.out.size
  have h3 := h2.trans (hb3.mono h2.size)
  exact h3.trans (hb5.mono h3.size)
end Go.Proofs.Ytegaiphhoinilaa.Rc
