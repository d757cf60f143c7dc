/-
Sorting numbers of 64 bits: heapSortOrdered, reverseRangeOrdered.
-/
import Derived.Test.YtjpmigagoedbcaaDoorPrC
namespace Go.Proofs.YtjpmigagoedbcaaDoor.Pm
open Go Go.RowKit
open Go.Sort (swp)

theorem sift_size (hi F root : Nat) (d : Array Nat) : (Go.Sort.siftDown ltN hi F root d).size = d.size := by
  induction h : hi - root using Nat.strongRecOn generalizing root d with
  | _ n ih =>
    by_cases h0 : hi ≤ 2 * root + 1
    · rw [sd_none hi F root d h0]
    · rw [sd_kid hi F root d (by omega)]
      split
      · have hk : root < kidN hi F root d ∧ kidN hi F root d < hi := by unfold kidN; split <;> omega
        rw [ih (hi - kidN hi F root d) (by omega) _ _ rfl, size_swp']
      · rfl
set_option maxRecDepth 100000 in
set_option maxHeartbeats 4000000 in
theorem heap_any (b o n c a e : Nat) (d : Array Nat) (w0 w : World) (h : RowU w0 b o d w) (hn : d.size = n) (hae : a < e) (hen : e ≤ n) (hsz : n < 1000000) :
    Calls Tryd.prog 37 #[.slice (some ⟨b, o, none⟩) n c, .int .i64 (a : Int), .int .i64 (e : Int)] w fun en w' => en = .returned (.tuple #[]) ∧ RowU w0 b o (Go.Sort.heapSort ltN d a e) w' := by
  have HH := Lib.hid h
  clear h
  unfold Go.Sort.heapSort
  obtain ⟨hi, hhi⟩ : ∃ hi, hi = e - a := ⟨_, rfl⟩
  rw [← hhi]
  have e1 : (e : Int) - (a : Int) = (hi : Int) := by omega
  have hi1 : 1 ≤ hi := by omega
  have hil : a + hi ≤ n := by omega
  obtain ⟨h1, hh1⟩ : ∃ h1, h1 = hi - 1 := ⟨_, rfl⟩
  have e2 : (hi : Int) - 1 = (h1 : Int) := by omega
  obtain ⟨s, hs⟩ : ∃ s, s = (hi - 1) / 2 := ⟨_, rfl⟩
  have e3 : (h1 : Int).tdiv 2 = (s : Int) := by rw [Int.tdiv_eq_ediv_of_nonneg (by omega)]; omega
  have e3' : (h1 : Int) / 2 = (s : Int) := by omega
  rw [← hs]
  have hsl : s < hi := by omega
  have HH1 := Lib.hid hh1
  clear hhi hs hh1
  generalize hres : Go.Sort.heapPop ltN a hi (Go.Sort.heapBuild ltN hi a (s + 1) d) = res
  have HRES := Lib.hid hres
  clear hres
  go_enter Tryd.func37, Tryd.ntmps37
  go_wp2_with fail
  go_loopw [9] (fun v9 wr => ∃ (z : Int) (k : Nat) (dk : Array Nat), v9 = .int .i64 z ∧ Hid (z = (k : Int) - 1) ∧ k ≤ s + 1 ∧ dk.size = n ∧ RowU w0 b o dk wr ∧ Go.Sort.heapPop ltN a hi (Go.Sort.heapBuild ltN hi a k dk) = res) (fun v9 _ => ((intOf v9) + 1).toNat)
  case atStart => exact ⟨_, s + 1, d, rfl, Lib.hid (by omega), Nat.le_refl _, hn, HH.out, HRES.out⟩
  case round =>
    obtain ⟨z, k, dk, rfl, hz, hk, hdk, hR, hO⟩ := hrel
    have HO := Lib.hid hO
    have HR := Lib.hid hR
    clear hO hR
    by_cases h0 : k = 0
    · subst h0
      obtain rfl : z = -1 := by have := hz.out; omega
      clear hz
      have HO2 := Lib.hid (show Go.Sort.heapPop ltN a hi dk = res from HO.out)
      go_wp2_with fail
      go_loopw [10] (fun v10 wr => ∃ (z : Int) (k : Nat) (dk : Array Nat), v10 = .int .i64 z ∧ Hid (z = (k : Int) - 1) ∧ k ≤ hi ∧ dk.size = n ∧ RowU w0 b o dk wr ∧ Go.Sort.heapPop ltN a k dk = res) (fun v10 _ => ((intOf v10) + 1).toNat)
      case atStart => exact ⟨_, hi, dk, rfl, Lib.hid (by omega), Nat.le_refl _, hdk, HR.out, HO2.out⟩
      case round =>
        clear HO HO2 HR
        obtain ⟨z, k, dj, rfl, hz, hk, hdj, hR, hO⟩ := hrel
        have HO := Lib.hid hO
        have HR := Lib.hid hR
        clear hO
        cases k with
        | zero =>
          obtain rfl : z = -1 := by have := hz.out; omega
          clear hz hR
          go_wp2_with fail
          go_end0
          exact ⟨rfl, by have h := HR.out; rw [show dj = res from HO.out] at h; exact h⟩
        | succ k =>
          obtain rfl : z = (k : Int) := by have := hz.out; omega
          clear hz
          obtain ⟨G, hG, hcw, hfw⟩ := hR.fam hdj
          have HG := Lib.hid hG
          clear hG hR
          obtain ⟨p, hp⟩ : ∃ p, p = a + k := ⟨_, rfl⟩
          have ep : (a : Int) + (k : Int) = (p : Int) := by omega
          have l1 : p < n := by omega
          have l2 : a < n := by omega
          have HP := Lib.hid hp
          clear hp
          obtain ⟨v2, hv2⟩ := set_some hcw a p l2 l1 (.int .u64 (G p : Int))
          go_upto_region 10 with fail
          go_region
          all_goals go_wp2_with fail
          have hR2 := HR.out.swap a p (by omega) (by omega) 1
          rw [← HG.out, ← HG.out] at hR2
          have hs2 : (swp dj a p).size = n := by rw [size_swp']; exact hdj
          refine (show Calls Tryd.prog 47 #[.slice (some ⟨b, o, none⟩) n c, .int .i64 0, .int .i64 (k : Int), .int .i64 (a : Int)] _ _ from sift_any b o n c 0 k a _ w0 _ hR2 hs2 (Nat.zero_le _) (by omega) hsz).mono ?_
          rintro en w3 ⟨rfl, hR3⟩
          have HR3 := Lib.hid hR3
          clear hR2 hR3 hcw hfw
          go_wp2_with fail
          go_roundw
          case rel => exact ⟨_, k, _, rfl, Lib.hid (by omega), by omega, by rw [sift_size]; exact hs2, HR3.out, by rw [← HO.out, HP.out]; rfl⟩
          case measure => simp [intOf] <;> omega
    · obtain ⟨m, rfl⟩ : ∃ m, k = m + 1 := ⟨k - 1, by omega⟩
      obtain rfl : z = (m : Int) := by have := hz.out; omega
      clear hz h0
      go_wp2_with fail
      refine (sift_any b o n c m hi a dk w0 wr HR.out hdk (by omega) hil hsz).mono ?_
      rintro en w3 ⟨rfl, hR3⟩
      have HR3 := Lib.hid hR3
      clear hR3
      go_wp2_with fail
      go_roundw
      case rel => exact ⟨_, m, _, rfl, Lib.hid (by omega), by omega, by rw [sift_size]; exact hdk, HR3.out, HO.out⟩
      case measure => simp [intOf] <;> omega
set_option maxRecDepth 100000 in
set_option maxHeartbeats 4000000 in
theorem reverse_any (b o n c a e : Nat) (d : Array Nat) (w0 w : World) (h : RowU w0 b o d w) (hn : d.size = n) (hae : a < e) (hen : e ≤ n) (hsz : n < 1000000) :
    Calls Tryd.prog 40 #[.slice (some ⟨b, o, none⟩) n c, .int .i64 (a : Int), .int .i64 (e : Int)] w fun en w' => en = .returned (.tuple #[]) ∧ RowU w0 b o (Go.Sort.reverseRange d a e) w' := by
  have HH := Lib.hid h
  clear h
  unfold Go.Sort.reverseRange
  obtain ⟨e1, he1⟩ : ∃ e1, e1 = e - 1 := ⟨_, rfl⟩
  rw [← he1]
  have he : (e : Int) - 1 = (e1 : Int) := by omega
  have hel : e1 < n := by omega
  clear he1
  generalize hres : Go.Sort.reverseLoop a e1 d = res
  have HRES := Lib.hid hres
  clear hres
  go_enter Tryd.func40, Tryd.ntmps40
  go_wp2_with fail
  go_loopw [6, 7] (fun vi vj wr => ∃ (i j : Nat) (dk : Array Nat), vi = .int .i64 (i : Int) ∧ vj = .int .i64 (j : Int) ∧ j < n ∧ dk.size = n ∧ RowU w0 b o dk wr ∧ Go.Sort.reverseLoop i j dk = res) (fun vi vj _ => (intOf vj - intOf vi).toNat)
  case atStart => exact ⟨a, e1, d, rfl, rfl, hel, hn, HH.out, HRES.out⟩
  case round =>
    obtain ⟨i, j, dk, rfl, rfl, hj, hdk, hR, hO⟩ := hrel
    have HO := Lib.hid hO
    have HR := Lib.hid hR
    clear hO
    by_cases hij : i < j
    · have hij' : (i : Int) < (j : Int) := by omega
      obtain ⟨G, hG, hcw, hfw⟩ := hR.fam hdk
      have HG := Lib.hid hG
      clear hG hR
      obtain ⟨j1, hj1⟩ : ∃ j1, j = j1 + 1 := ⟨j - 1, by omega⟩
      have ej : (j : Int) - 1 = (j1 : Int) := by omega
      have l1 : i < n := by omega
      have HJ := Lib.hid hj1
      clear hj1
      go_upto_region 3 with fail
      go_region
      all_goals go_wp2_with fail
      have hR2 := HR.out.swap i j (by omega) (by omega) 1
      rw [← HG.out, ← HG.out] at hR2
      have HR2 := Lib.hid hR2
      clear hR2
      go_roundw
      case rel =>
        refine ⟨i + 1, j1, swp dk i j, by go_num, rfl, by have := HJ.out; omega, by rw [size_swp']; exact hdk, HR2.out, ?_⟩
        rw [← HO.out, Go.Sort.reverseLoop.eq_1 i j dk, if_pos hij, show j - 1 = j1 by have := HJ.out; omega]
      case measure => simp [intOf] <;> (have := HJ.out; omega)
    · have hij' : ¬ (i : Int) < (j : Int) := by omega
      clear hR
      go_wp2_with fail
      go_end0
      refine ⟨rfl, ?_⟩
      have h := HO.out
      rw [Go.Sort.reverseLoop.eq_1, if_neg hij] at h
      rw [← h]
      exact HR.out
end Go.Proofs.YtjpmigagoedbcaaDoor.Pm
