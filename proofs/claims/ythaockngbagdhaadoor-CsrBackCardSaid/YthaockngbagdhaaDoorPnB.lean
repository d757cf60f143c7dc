/-
Layer 12: package pmp's Range.
-/
import Derived.Test.YthaockngbagdhaaDoorPnA
import Derived.Test.YthaockngbagdhaaDoorPmD
namespace Go.Proofs.YthaockngbagdhaaDoor.Pm
open Go Go.RowKit

theorem fin2 {p q : Nat × Nat} {x y : Nat} (h : p = q) (h2 : p = (x, y)) : q.1 = x ∧ q.2 = y := by rw [← h, h2]; exact ⟨rfl, rfl⟩
set_option maxRecDepth 100000 in
set_option maxHeartbeats 4000000 in
theorem range_any (es : List En) (s : Sl) (i : Nat) (w : World) (hT : TabT w) (hS : SlE w s es) (hi : i < s.n) :
    Calls Tryd.prog 48 #[s.v, .int .i64 (i : Int)] w (retP (rangeI es i).1 (rangeI es i).2 w) := by
  obtain ⟨b, o, hA, hlt, hc⟩ := hS.2.1.2 (by omega)
  have hwf := hS.wf hi
  have hn := hS.2.1.1
  have hpw : 0 < i → (es.getD (i - 1) en0).a < 4294967296 := fun h => (hS.wf (j := i - 1) (by omega)).a
  have hp : ∀ k, k < 3 → 0 < i → w.cell? ⟨b, o + (i - 1) * 3 + k, none⟩ = some (enV (es.getD (i - 1) en0) k) := fun k hk h => hc (i - 1) k (by omega) hk
  replace hc : ∀ k, k < 3 → w.cell? ⟨b, o + i * 3 + k, none⟩ = some (enV (es.getD i en0) k) := fun k hk => hc i k hi hk
  unfold rangeI
  obtain ⟨A, n, c⟩ := s
  dsimp only at hA hi hn hc hp
  subst hA
  generalize es.getD (i - 1) en0 = pe at *
  generalize es.getD i en0 = e at *
  obtain ⟨pw, pr, pa⟩ := pe
  obtain ⟨ew, er, ea⟩ := e
  dsimp only at hpw
  have ha : ea < 4294967296 := hwf.a
  have hn2 := hn.2
  have hin : (i : Int) < (n : Int) := by omega
  have hat := fun W => at_entry b o n c i hin W
  have hi0 : ¬ (i : Int) < 0 := by omega
  have hni : ¬ (n : Int) ≤ (i : Int) := by omega
  have C0 : ∀ W, Below w.heap.size w W → W.cell? ⟨b, o + i * 3, none⟩ = some (.int .i64 ew) := fun W h => (h.cell (p := ⟨b, o + i * 3, none⟩) hlt).trans (hc 0 (by omega))
  have C1 : ∀ W, Below w.heap.size w W → W.cell? ⟨b, o + i * 3 + 1, none⟩ = some (.int .i64 er) := fun W h => (h.cell (p := ⟨b, o + i * 3 + 1, none⟩) hlt).trans (hc 1 (by omega))
  have C2 : ∀ W, Below w.heap.size w W → W.cell? ⟨b, o + i * 3 + 2, none⟩ = some (.int .u32 (ea : Int)) := fun W h => (h.cell (p := ⟨b, o + i * 3 + 2, none⟩) hlt).trans (hc 2 (by omega))
  have P0 : ∀ W, Below w.heap.size w W → 0 < i → W.cell? ⟨b, o + (i - 1) * 3, none⟩ = some (.int .i64 pw) := fun W h h0 => (h.cell (p := ⟨b, o + (i - 1) * 3, none⟩) hlt).trans (hp 0 (by omega) h0)
  have P1 : ∀ W, Below w.heap.size w W → 0 < i → W.cell? ⟨b, o + (i - 1) * 3 + 1, none⟩ = some (.int .i64 pr) := fun W h h0 => (h.cell (p := ⟨b, o + (i - 1) * 3 + 1, none⟩) hlt).trans (hp 1 (by omega) h0)
  have P2 : ∀ W, Below w.heap.size w W → 0 < i → W.cell? ⟨b, o + (i - 1) * 3 + 2, none⟩ = some (.int .u32 (pa : Int)) := fun W h h0 => (h.cell (p := ⟨b, o + (i - 1) * 3 + 2, none⟩) hlt).trans (hp 2 (by omega) h0)
  have c0 := C0 w (Below.refl _ w)
  have c1 := C1 w (Below.refl _ w)
  have c2 := C2 w (Below.refl _ w)
  have HT := Lib.hid hT
  have HC0 := Lib.hid C0
  have HC2 := Lib.hid C2
  have HP0 := Lib.hid P0
  have HP1 := Lib.hid P1
  have HP2 := Lib.hid P2
  have HPW := Lib.hid hpw
  clear hT C0 C1 C2 P0 P1 P2 hS hp hc hwf hn hpw
  show Calls Tryd.prog 48 #[.slice (some ⟨b, o, none⟩) n c, .int .i64 (i : Int)] w _
  have e4 : ((4 * ea : Nat) : Int) = 4 * (ea : Int) := by omega
  generalize hR : rangeP (if i = 0 then 0 else pa) ⟨ew, er, ea⟩ = R
  have HR := Lib.hid hR
  clear hR
  generalize hf : R.1 = f
  generalize ht : R.2 = t
  have HF := Lib.hid hf
  have HTT := Lib.hid ht
  clear hf ht
  unfold retP
  go_enter Tryd.func48, Tryd.ntmps48
  go_wp2_with fail
  refine (address_any ew er ea ha w).mono ?_
  rintro e w1 ⟨rfl, hb1⟩
  have d0 := HC0.out w1 hb1
  have d2 := HC2.out w1 hb1
  have HB1 := Lib.hid hb1
  clear c0 c1 c2 hb1
  have fin : ∀ x y : Nat, R = (x, y) → Value.int .u64 (x : Int) = .int .u64 (f : Int) ∧ Value.int .u64 (y : Int) = .int .u64 (t : Int) := fun x y h => by
    rw [← HF.out, ← HTT.out, h]; exact ⟨rfl, rfl⟩
  have FIN := Lib.hid fin
  clear fin
  by_cases h1 : ew = 1
  · subst h1
    by_cases h0 : i = 0
    · have HR0 := Lib.hid (show rangeP 0 ⟨1, er, ea⟩ = R by have := HR.out; rwa [if_pos h0] at this)
      have hip : ¬ 0 < (i : Int) := by omega
      clear h0
      by_cases hz : ea = 0
      · have hz' : ¬ (0 : Int) < 4 * (ea : Int) := by omega
        have HZ := Lib.hid hz
        clear hz
        go_wp2_with fail
        go_ret2
        obtain ⟨q1, q2⟩ := FIN.out _ _ (HR0.out.symm.trans (rng_w1a rfl (show 4 * ea ≤ 4 * 0 by have := HZ.out; omega)))
        rw [← q1, ← q2]
        exact ⟨rfl, HB1.out⟩
      · have hz' : (0 : Int) < 4 * (ea : Int) := by omega
        go_wp2_with fail
        go_ret2
        obtain ⟨q1, q2⟩ := FIN.out _ _ (HR0.out.symm.trans (rng_w1b rfl (show ¬ 4 * ea ≤ 4 * 0 by omega)))
        rw [← q1, ← q2]
        exact ⟨by go_num, HB1.out⟩
    · have HR0 := Lib.hid (show rangeP pa ⟨1, er, ea⟩ = R by have := HR.out; rwa [if_neg h0] at this)
      have hip : 0 < (i : Int) := by omega
      have hin2 : ((i - 1 : Nat) : Int) < (n : Int) := by omega
      have hat2 := fun W => at_entry b o n c (i - 1) hin2 W
      have p0 := HP0.out w1 HB1.out (by omega)
      have p1 := HP1.out w1 HB1.out (by omega)
      have p2 := HP2.out w1 HB1.out (by omega)
      have hpa := HPW.out (by omega)
      obtain ⟨j, hj⟩ : ∃ j, j = i - 1 := ⟨_, rfl⟩
      rw [← hj] at hin2 p0 p1 p2 hat2
      have ej : (i : Int) - 1 = (j : Int) := by omega
      clear hj h0
      go_wp2_with fail
      refine (address_any pw pr pa hpa w1).mono ?_
      rintro e w2 ⟨rfl, hb2⟩
      have HB2 := Lib.hid (HB1.out.trans (hb2.mono HB1.out.size))
      clear hb2 p0 p1 p2
      by_cases hz : 4 * ea ≤ 4 * pa
      · have hz' : ¬ 4 * (pa : Int) < 4 * (ea : Int) := by omega
        go_wp2_with fail
        go_ret2
        obtain ⟨q1, q2⟩ := FIN.out _ _ (HR0.out.symm.trans (rng_w1a rfl hz))
        rw [← q1, ← q2]
        exact ⟨by go_num, HB2.out⟩
      · have hz' : 4 * (pa : Int) < 4 * (ea : Int) := by omega
        go_wp2_with fail
        go_ret2
        obtain ⟨q1, q2⟩ := FIN.out _ _ (HR0.out.symm.trans (rng_w1b rfl hz))
        rw [← q1, ← q2]
        exact ⟨by go_num, HB2.out⟩
  · by_cases h2 : ew = 2
    · subst h2
      go_wp2_with fail
      go_ret2
      obtain ⟨q1, q2⟩ := FIN.out _ _ (HR.out.symm.trans (rng_w2 rfl))
      rw [← q1, ← q2]
      exact ⟨by go_num, HB1.out⟩
    · by_cases h3 : ew = 3
      · subst h3
        have kN := napot_range ea ha w1 (HT.out.below HB1.out)
        have HE := Lib.hid (HR.out.symm.trans (rng_w3 rfl))
        dsimp only at HE
        generalize 4 * ea / napS ea * napS ea = u at *
        generalize u + napS ea = v at *
        go_wp2_with fail
        refine kN.mono ?_
        rintro e w2 ⟨rfl, hb2⟩
        have HB2 := Lib.hid (HB1.out.trans (hb2.mono HB1.out.size))
        clear hb2
        go_wp2_with fail
        go_ret2
        obtain ⟨q1, q2⟩ := FIN.out _ _ HE.out
        rw [← q1, ← q2]
        exact ⟨rfl, HB2.out⟩
      · have HE := Lib.hid (HR.out.symm.trans (rng_w0 h1 h2 h3))
        have q1 : (ew == 1) = false := beq_eq_false_iff_ne.2 h1
        have q2 : (ew == 2) = false := beq_eq_false_iff_ne.2 h2
        have q3 : (ew == 3) = false := beq_eq_false_iff_ne.2 h3
        clear h1 h2 h3
        go_wp2_with fail
        go_ret2
        obtain ⟨q1, q2⟩ := FIN.out _ _ HE.out
        rw [← q1, ← q2]
        exact ⟨rfl, HB1.out⟩
end Go.Proofs.YthaockngbagdhaaDoor.Pm
