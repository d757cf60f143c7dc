/-
Sorting numbers of 64 bits: siftDownOrdered.
-/
import Derived.Test.YtjpmigagoedbcaaDoorPrB
namespace Go.Proofs.YtjpmigagoedbcaaDoor.Pm
open Go Go.RowKit
open Go.Sort (swp)

theorem sd_none (hi F root : Nat) (d : Array Nat) (h : hi ≤ 2 * root + 1) : Go.Sort.siftDown ltN hi F root d = d := by rw [Go.Sort.siftDown, dif_pos h]
/-- which child is asked: the greater, the left one where there is one alone -/
def kidN (hi F root : Nat) (d : Array Nat) : Nat := if 2 * root + 2 < hi ∧ ltN d[F + (2 * root + 1)]! d[F + (2 * root + 2)]! = true then 2 * root + 2 else 2 * root + 1
theorem sd_kid (hi F root : Nat) (d : Array Nat) (h : 2 * root + 1 < hi) : Go.Sort.siftDown ltN hi F root d = if ltN d[F + root]! d[F + kidN hi F root d]! = true then Go.Sort.siftDown ltN hi F (kidN hi F root d) (swp d (F + root) (F + kidN hi F root d)) else d := by
  rw [Go.Sort.siftDown, dif_neg (by omega)]
  unfold kidN
  have e : F + (2 * root + 1) + 1 = F + (2 * root + 2) := by omega
  rw [e]
  by_cases h1 : 2 * root + 2 < hi
  · have h1' : 2 * root + 1 + 1 < hi := by omega
    cases hl : ltN d[F + (2 * root + 1)]! d[F + (2 * root + 2)]! with
    | true => cases h3 : ltN d[F + root]! d[F + (2 * root + 2)]! <;> simp [h1, h3]
    | false => cases h3 : ltN d[F + root]! d[F + (2 * root + 1)]! <;> simp [h1, h3]
  · have h1' : ¬ 2 * root + 1 + 1 < hi := by omega
    cases h3 : ltN d[F + root]! d[F + (2 * root + 1)]! <;> simp [h1, h3]
set_option maxRecDepth 100000 in
set_option maxHeartbeats 4000000 in
theorem sift_any (b o n c lo hi F : Nat) (d : Array Nat) (w0 w : World) (h : RowU w0 b o d w) (hn : d.size = n) (hlo : lo ≤ hi) (hF : F + hi ≤ n) (hsz : n < 1000000) :
    Calls Tryd.prog 47 #[.slice (some ⟨b, o, none⟩) n c, .int .i64 (lo : Int), .int .i64 (hi : Int), .int .i64 (F : Int)] w fun en w' => en = .returned (.tuple #[]) ∧ RowU w0 b o (Go.Sort.siftDown ltN hi F lo d) w' := by
  have kl := less_any
  have HH := Lib.hid h
  clear h
  go_enter Tryd.func47, Tryd.ntmps47
  go_wp2_with fail
  go_loopw [8, 9] (fun v8 _ wr => ∃ (r : Nat) (dk : Array Nat), v8 = .int .i64 (r : Int) ∧ r ≤ hi ∧ dk.size = n ∧ RowU w0 b o dk wr ∧ Go.Sort.siftDown ltN hi F r dk = Go.Sort.siftDown ltN hi F lo d) (fun v8 _ _ => hi - (intOf v8).toNat)
  case atStart => exact ⟨lo, d, rfl, hlo, hn, HH.out, rfl⟩
  case round =>
    obtain ⟨r, dk, rfl, hr, hdk, hR, hO⟩ := hrel
    have HO := Lib.hid hO
    have HR := Lib.hid hR
    clear hO
    by_cases h0 : hi ≤ 2 * r + 1
    · have h0' : (hi : Int) ≤ 2 * (r : Int) + 1 := by omega
      clear hR
      go_wp2_with fail
      go_end0
      refine ⟨rfl, ?_⟩
      rw [← HO.out, sd_none hi F r dk h0]
      exact HR.out
    · obtain ⟨G, hG, hcw, hfw⟩ := hR.fam hdk
      have hkid := sd_kid hi F r dk (by omega)
      rw [HO.out] at hkid
      obtain ⟨k, hk⟩ : ∃ k, k = 2 * r + 1 := ⟨_, rfl⟩
      have hk' : 2 * (r : Int) + 1 = (k : Int) := by omega
      have h0' : ¬ (hi : Int) ≤ (k : Int) := by omega
      obtain ⟨p, hp⟩ : ∃ p, p = F + k := ⟨_, rfl⟩
      have hp' : (F : Int) + (k : Int) = (p : Int) := by omega
      obtain ⟨q, hq⟩ : ∃ q, q = F + r := ⟨_, rfl⟩
      have hq' : (F : Int) + (r : Int) = (q : Int) := by omega
      have hkd : kidN hi F r dk = if k + 1 < hi ∧ ltN dk[p]! dk[p + 1]! = true then k + 1 else k := by rw [hp, hk]; rfl
      rw [← hq, hkd, ← hG, ← hG] at hkid
      have l1 : p < n := by omega
      have l2 : q < n := by omega
      have l3 : k < hi := by omega
      have HG := Lib.hid hG
      have HKD := Lib.hid hkid
      have HK := Lib.hid hk
      have HP := Lib.hid hp
      have HQ := Lib.hid hq
      clear hG hR hkid hkd hk hp hq h0
      -- behind the choice of the child
      by_cases h1 : k + 1 < hi
      · have h1' : (k : Int) + 1 < (hi : Int) := by omega
        obtain ⟨p1, hp1⟩ : ∃ p1, p1 = p + 1 := ⟨_, rfl⟩
        have hp1' : (p : Int) + 1 = (p1 : Int) := by omega
        obtain ⟨k1, hk1⟩ : ∃ k1, k1 = k + 1 := ⟨_, rfl⟩
        have hk1' : (k : Int) + 1 = (k1 : Int) := by omega
        have hq1' : (F : Int) + (k1 : Int) = (p1 : Int) := by have := HP.out; omega
        have l4 : p1 < n := by have := HP.out; omega
        have h2' : (k1 : Int) < (hi : Int) := by omega
        have hkd2 := HKD.out
        rw [← hp1, ← hk1] at hkd2
        have HKD2 := Lib.hid hkd2
        have e1 : F + k = p := by omega
        have e2 : F + k1 = p1 := by have := HP.out; omega
        have HE1 := Lib.hid HP.out.symm
        have HE2 := Lib.hid e2
        have HP1 := Lib.hid hp1
        have HK1 := Lib.hid hk1
        have HL1 := Lib.hid (show k1 < hi by omega)
        clear hp1 hk1 h1' hkd2 e1 e2
        go_upto_region 3 with fail
        go_quiet (first | (go_at_call 42; refine Calls.quiet_of_same (kl _ _ _)))
        go_wp2_with fail
        · have hc : ltN (G p) (G p1) = true := by assumption
          have hR1 := HR.out.drewN nq
          replace hcw : ∀ t, t < n → (wr.drewN nq).cell? ⟨b, o + t, none⟩ = some (.int .u64 (G t : Int)) := hcw
          replace hfw : ∀ t, t < n → (wr.drewN nq).frozen? ⟨b, o + t, none⟩ = false := hfw
          have HR1 := Lib.hid hR1
          clear hR1
          generalize wr.drewN nq = w1 at *
          clear nq
          have hkk : Go.Sort.siftDown ltN hi F lo d = if ltN (G q) (G p1) = true then Go.Sort.siftDown ltN hi F k1 (swp dk q p1) else dk := by
            have h := HKD2.out
            rw [← HG.out p, ← HG.out p1, hc, if_pos (⟨HL1.out, rfl⟩ : k1 < hi ∧ true = true), HE2.out] at h
            exact h
          have HKK := Lib.hid hkk
          clear hkk
          go_quiet (first | (go_at_call 42; refine Calls.quiet_of_same (kl _ _ _)))
          cases hl : ltN (G q) (G p1) with
          | true =>
            go_wp2_with fail
            have hR2 := HR1.out.drewN nq
            replace hcw : ∀ t, t < n → (w1.drewN nq).cell? ⟨b, o + t, none⟩ = some (.int .u64 (G t : Int)) := hcw
            replace hfw : ∀ t, t < n → (w1.drewN nq).frozen? ⟨b, o + t, none⟩ = false := hfw
            have HR2 := Lib.hid hR2
            clear hR2
            generalize w1.drewN nq = w2 at *
            clear nq
            go_region
            all_goals go_wp2_with fail
            go_roundw
            case rel =>
              refine ⟨k1, swp dk q p1, rfl, by omega, by rw [size_swp']; exact hdk, ?_, by rw [HKK.out, hl, if_pos rfl]⟩
              have h := HR2.out.swap q p1 (by omega) (by omega) 1
              rw [← HG.out, ← HG.out] at h
              exact h
            case measure => simp [intOf] <;> (have := HK.out; have := HK1.out; omega)
          | false =>
            go_wp2_with fail
            refine bodyPost_ret (results_none rfl _ _ _) rfl ⟨rfl, ?_⟩
            rw [HKK.out, hl, if_neg (by decide)]
            exact HR1.out.drewN nq
        · have hc : ltN (G p) (G p1) = false := by assumption
          have hR1 := HR.out.drewN nq
          replace hcw : ∀ t, t < n → (wr.drewN nq).cell? ⟨b, o + t, none⟩ = some (.int .u64 (G t : Int)) := hcw
          replace hfw : ∀ t, t < n → (wr.drewN nq).frozen? ⟨b, o + t, none⟩ = false := hfw
          have HR1 := Lib.hid hR1
          clear hR1
          generalize wr.drewN nq = w1 at *
          clear nq
          have hkk : Go.Sort.siftDown ltN hi F lo d = if ltN (G q) (G p) = true then Go.Sort.siftDown ltN hi F k (swp dk q p) else dk := by
            have h := HKD2.out
            rw [← HG.out p, ← HG.out p1, hc, if_neg (fun h => (by cases h.2) : ¬(k1 < hi ∧ false = true)), HE1.out] at h
            exact h
          have HKK := Lib.hid hkk
          clear hkk
          go_quiet (first | (go_at_call 42; refine Calls.quiet_of_same (kl _ _ _)))
          cases hl : ltN (G q) (G p) with
          | true =>
            go_wp2_with fail
            have hR2 := HR1.out.drewN nq
            replace hcw : ∀ t, t < n → (w1.drewN nq).cell? ⟨b, o + t, none⟩ = some (.int .u64 (G t : Int)) := hcw
            replace hfw : ∀ t, t < n → (w1.drewN nq).frozen? ⟨b, o + t, none⟩ = false := hfw
            have HR2 := Lib.hid hR2
            clear hR2
            generalize w1.drewN nq = w2 at *
            clear nq
            go_region
            all_goals go_wp2_with fail
            go_roundw
            case rel =>
              refine ⟨k, swp dk q p, rfl, by omega, by rw [size_swp']; exact hdk, ?_, by rw [HKK.out, hl, if_pos rfl]⟩
              have h := HR2.out.swap q p (by omega) (by omega) 1
              rw [← HG.out, ← HG.out] at h
              exact h
            case measure => simp [intOf] <;> (have := HK.out; omega)
          | false =>
            go_wp2_with fail
            refine bodyPost_ret (results_none rfl _ _ _) rfl ⟨rfl, ?_⟩
            rw [HKK.out, hl, if_neg (by decide)]
            exact HR1.out.drewN nq
      · have h1' : ¬ (k : Int) + 1 < (hi : Int) := by omega
        have HE1 := Lib.hid HP.out.symm
        have HL1 := Lib.hid h1
        clear h1
        go_upto_region 3 with fail
        go_quiet (first | (go_at_call 42; refine Calls.quiet_of_same (kl _ _ _)))
        go_wp2_with fail
        have hR1 := HR.out.drewN nq
        replace hcw : ∀ t, t < n → (wr.drewN nq).cell? ⟨b, o + t, none⟩ = some (.int .u64 (G t : Int)) := hcw
        replace hfw : ∀ t, t < n → (wr.drewN nq).frozen? ⟨b, o + t, none⟩ = false := hfw
        have HR1 := Lib.hid hR1
        clear hR1
        generalize wr.drewN nq = w1 at *
        clear nq
        have hkk : Go.Sort.siftDown ltN hi F lo d = if ltN (G q) (G p) = true then Go.Sort.siftDown ltN hi F k (swp dk q p) else dk := by
          have h := HKD.out
          rw [show (if k + 1 < hi ∧ ltN dk[p]! dk[p + 1]! = true then k + 1 else k) = k from if_neg (fun h => HL1.out h.1), HE1.out] at h
          exact h
        have HKK := Lib.hid hkk
        clear hkk
        go_quiet (first | (go_at_call 42; refine Calls.quiet_of_same (kl _ _ _)))
        cases hl : ltN (G q) (G p) with
        | true =>
          go_wp2_with fail
          have hR2 := HR1.out.drewN nq
          replace hcw : ∀ t, t < n → (w1.drewN nq).cell? ⟨b, o + t, none⟩ = some (.int .u64 (G t : Int)) := hcw
          replace hfw : ∀ t, t < n → (w1.drewN nq).frozen? ⟨b, o + t, none⟩ = false := hfw
          have HR2 := Lib.hid hR2
          clear hR2
          generalize w1.drewN nq = w2 at *
          clear nq
          go_region
          all_goals go_wp2_with fail
          go_roundw
          case rel =>
            refine ⟨k, swp dk q p, rfl, by omega, by rw [size_swp']; exact hdk, ?_, by rw [HKK.out, hl, if_pos rfl]⟩
            have h := HR2.out.swap q p (by omega) (by omega) 1
            rw [← HG.out, ← HG.out] at h
            exact h
          case measure => simp [intOf] <;> (have := HK.out; omega)
        | false =>
          go_wp2_with fail
          refine bodyPost_ret (results_none rfl _ _ _) rfl ⟨rfl, ?_⟩
          rw [HKK.out, hl, if_neg (by decide)]
          exact HR1.out.drewN nq
end Go.Proofs.YtjpmigagoedbcaaDoor.Pm
