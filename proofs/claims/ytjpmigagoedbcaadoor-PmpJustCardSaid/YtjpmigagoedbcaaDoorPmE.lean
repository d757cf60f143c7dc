/-
Layer 12: the reference's Byte.
-/
import Derived.Test.YtjpmigagoedbcaaDoorPmD
namespace Go.Proofs.YtjpmigagoedbcaaDoor.Pm
open Go Go.RowKit

theorem rangeP_lt (p : Nat) (e : En) (hp : p < 4294967296) (he : e.a < 4294967296) : (rangeP p e).1 ≤ 17179869184 ∧ (rangeP p e).2 ≤ 68719476736 := by
  unfold rangeP
  split
  · split <;> (dsimp only; omega)
  · split
    · dsimp only; omega
    · split
      · have h1 : onesF 32 e.a ≤ 32 := onesF_le _ _
        have h2 := pow32 h1
        have h3 : napS e.a ≤ 34359738368 := by unfold napS; omega
        have h4 := Nat.div_mul_le_self (4 * e.a) (napS e.a)
        dsimp only
        omega
      · dsimp only; omega
theorem rangeI_lt (es : List En) (s : Sl) (i : Nat) (w : World) (hS : SlE w s es) (hi : i < s.n) : (rangeI es i).1 ≤ 17179869184 ∧ (rangeI es i).2 ≤ 68719476736 := by
  unfold rangeI
  refine rangeP_lt _ _ ?_ (hS.wf hi).a
  split
  · decide
  · exact (hS.wf (j := i - 1) (by omega)).a
theorem byteF_hit {es : List En} {x n i : Nat} (h : (rangeI es i).1 ≤ x ∧ x < (rangeI es i).2) : byteF es x (n + 1) i = (es.getD i en0).r := by
  show (if _ then _ else _) = _
  rw [if_pos h]
theorem byteF_miss {es : List En} {x n i : Nat} (h : ¬((rangeI es i).1 ≤ x ∧ x < (rangeI es i).2)) : byteF es x (n + 1) i = byteF es x n (i + 1) := by
  show (if _ then _ else _) = _
  rw [if_neg h]
set_option maxRecDepth 100000 in
set_option maxHeartbeats 2000000 in
theorem rbyte_any (es : List En) (s : Sl) (x : Nat) (w : World) (hS : SlE w s es) (_hx : x < 18446744073709551616) :
    Calls Tryd.prog 16 #[s.v, .int .i64 (x : Int)] w fun e w' => e = .returned (.int .i64 (byteT (tri 0 es) x)) ∧ w = w' := by
  have kR := fun i hi => rrange_any es s i w hS hi
  have kL := fun i hi => rangeI_lt es s i w hS hi
  have hlen := hS.1
  have hb : byteF es x (s.n - 0) 0 = byteT (tri 0 es) x := by rw [Nat.sub_zero, ← hlen]; exact byteF_all es x
  generalize byteT (tri 0 es) x = V at *
  have hcell : ∀ i, i < s.n → ∃ b o, s.A = some ⟨b, o, none⟩ ∧ w.cell? ⟨b, o + i * 3 + 1, none⟩ = some (.int .i64 (es.getD i en0).r) := fun i hi => by
    obtain ⟨b, o, hA, hlt, hc⟩ := hS.2.1.2 (by omega)
    exact ⟨b, o, hA, hc i 1 hi (by omega)⟩
  have hn := hS.2.1.1
  obtain ⟨A, n, c⟩ := s
  dsimp only at hb hcell hn hlen kR kL
  have KR := Lib.hid kR
  have KL := Lib.hid kL
  have HC := Lib.hid hcell
  have HB := Lib.hid hb
  clear kR kL hcell hb hS hlen
  show Calls Tryd.prog 16 #[.slice A n c, .int .i64 (x : Int)] w _
  go_enter Tryd.func16, Tryd.ntmps16
  go_wp2_with fail
  go_loopw [5] (fun ct wr => ∃ i : Nat, i ≤ n ∧ ct = .int .i64 (i : Int) ∧ byteF es x (n - i) i = V ∧ w = wr) (fun ct _ => (n - (intOf ct)).toNat)
  case atStart => exact ⟨0, Nat.zero_le _, rfl, HB.out, rfl⟩
  case round =>
    obtain ⟨i, hi, rfl, hv, rfl⟩ := hrel
    by_cases hlt : i < n
    · have hin : (i : Int) < (n : Int) := by omega
      obtain ⟨b, o, rfl, hc1⟩ := HC.out i hlt
      have hat := at_entry b o n c i hin
      have kR := KR.out i hlt
      obtain ⟨l1, l2⟩ := KL.out i hlt
      have e1 : n - i = (n - i - 1) + 1 := by omega
      rw [e1] at hv
      obtain ⟨f, hf⟩ : ∃ f, f = (rangeI es i).1 := ⟨_, rfl⟩
      obtain ⟨t, ht⟩ : ∃ t, t = (rangeI es i).2 := ⟨_, rfl⟩
      have hhit := byteF_hit (es := es) (x := x) (n := n - i - 1) (i := i)
      have hmiss := byteF_miss (es := es) (x := x) (n := n - i - 1) (i := i)
      rw [← hf, ← ht] at hhit hmiss kR
      rw [← hf] at l1
      rw [← ht] at l2
      have HV := Lib.hid hv
      have HH := Lib.hid hhit
      have HM := Lib.hid hmiss
      clear hf ht hv hhit hmiss e1
      replace kR : Calls Tryd.prog 27 #[.slice (some ⟨b, o, none⟩) n c, .int .i64 (i : Int)] w (retR f t w) := kR
      unfold retR at kR
      by_cases h1 : f ≤ x
      · have d1 : (f : Int) ≤ (x : Int) := by omega
        by_cases h2 : x < t
        · have d2 : (x : Int) < (t : Int) := by omega
          have e2 := HV.out
          rw [HH.out ⟨h1, h2⟩] at e2
          subst e2
          go_wp2_with (go_at_call 27; with_reducible refine kR.mono ?_; rintro e w2 ⟨rfl, rfl⟩)
          go_ret
          exact ⟨rfl, rfl⟩
        · have d2 : ¬ (x : Int) < (t : Int) := by omega
          have e2 := HM.out (fun h => h2 h.2)
          rw [HV.out] at e2
          have E2 := Lib.hid e2
          clear e2
          go_wp2_with (go_at_call 27; with_reducible refine kR.mono ?_; rintro e w2 ⟨rfl, rfl⟩)
          go_roundw
          case rel => exact ⟨i + 1, by omega, by go_num, by rw [show n - (i + 1) = n - i - 1 by omega]; exact E2.out.symm, trivial⟩
          case measure => simp [intOf] <;> omega
      · have d1 : ¬ (f : Int) ≤ (x : Int) := by omega
        have e2 := HM.out (fun h => h1 h.1)
        rw [HV.out] at e2
        have E2 := Lib.hid e2
        clear e2
        go_wp2_with (go_at_call 27; with_reducible refine kR.mono ?_; rintro e w2 ⟨rfl, rfl⟩)
        go_roundw
        case rel => exact ⟨i + 1, by omega, by go_num, by rw [show n - (i + 1) = n - i - 1 by omega]; exact E2.out.symm, trivial⟩
        case measure => simp [intOf] <;> omega
    · obtain rfl : i = n := by omega
      rw [Nat.sub_self] at hv
      have e2 : (0 : Int) = V := hv
      subst e2
      clear hv hlt
      go_wp2_with fail
      go_ret
      exact ⟨rfl, rfl⟩
end Go.Proofs.YtjpmigagoedbcaaDoor.Pm
