/-
Sorting numbers of 64 bits: insertionSortOrdered.
-/
import Derived.Test.YtjpmigagoedbcaaDoorPrA
namespace Go.Proofs.YtjpmigagoedbcaaDoor.Pm
open Go Go.RowKit
open Go.Sort (swp)

theorem ins_step (a j : Nat) (d : Array Nat) (hj : a < j + 1) (hl : ltN d[j + 1]! d[j]! = true) : Go.Sort.insInner ltN a (j + 1) d = Go.Sort.insInner ltN a j (swp d (j + 1) j) := by
  rw [Go.Sort.insInner, hl, decide_eq_true (show j + 1 > a from hj)]; rfl
theorem ins_halt (a j : Nat) (d : Array Nat) (hl : ltN d[j + 1]! d[j]! = false) : Go.Sort.insInner ltN a (j + 1) d = d := by
  rw [Go.Sort.insInner, hl, Bool.and_false]; rfl
theorem ins_low (a j : Nat) (d : Array Nat) (hj : j ≤ a) : Go.Sort.insInner ltN a j d = d := by
  cases j with
  | zero => rw [Go.Sort.insInner]
  | succ j => rw [Go.Sort.insInner, decide_eq_false (show ¬ j + 1 > a by omega), Bool.false_and]; rfl
theorem outer_step (a e i : Nat) (d : Array Nat) (h : i < e) : Go.Sort.insOuter ltN a e i d = Go.Sort.insOuter ltN a e (i + 1) (Go.Sort.insInner ltN a i d) := by rw [Go.Sort.insOuter, if_pos h]
theorem outer_end (a e i : Nat) (d : Array Nat) (h : ¬ i < e) : Go.Sort.insOuter ltN a e i d = d := by rw [Go.Sort.insOuter, if_neg h]
/-- the row, as the walk reads it -/
theorem RowU.fam {w0 w : World} {b o n : Nat} {d : Array Nat} (h : RowU w0 b o d w) (hn : d.size = n) : ∃ G : Nat → Nat, (∀ t, G t = d[t]!) ∧ (∀ t, t < n → w.cell? ⟨b, o + t, none⟩ = some (.int .u64 (G t : Int))) ∧ (∀ t, t < n → w.frozen? ⟨b, o + t, none⟩ = false) :=
  ⟨fun t => d[t]!, fun _ => rfl, fun t ht => h.c t (by omega), fun t ht => h.f t (by omega)⟩
/-- behind the first store the other cell still holds something -/
theorem set_some {w : World} {b o n : Nat} {G : Nat → Nat} (h : ∀ t, t < n → w.cell? ⟨b, o + t, none⟩ = some (.int .u64 (G t : Int))) (i j : Nat) (hi : i < n) (hj : j < n) (u : Value) : ∃ v, (w.setCell ⟨b, o + i, none⟩ u).cell? ⟨b, o + j, none⟩ = some v := by
  by_cases e : i = j
  · subst e; exact ⟨_, World.cell?_setCell_same _ _ _ (h i hi)⟩
  · exact ⟨_, (World.cell?_setCell_other _ _ _ _ (fun q => e (by injection q with _ q _; omega))).trans (h j hj)⟩
set_option maxRecDepth 100000 in
set_option maxHeartbeats 4000000 in
theorem insertion_any (b o n c a e : Nat) (d : Array Nat) (w0 w : World) (h : RowU w0 b o d w) (hn : d.size = n) (hae : a ≤ e) (hen : e ≤ n) (hsz : n < 1000000) :
    Calls Tryd.prog 36 #[.slice (some ⟨b, o, none⟩) n c, .int .i64 (a : Int), .int .i64 (e : Int)] w fun en w' => en = .returned (.tuple #[]) ∧ RowU w0 b o (Go.Sort.insertionSort ltN d a e) w' := by
  have kl := less_any
  have HH := Lib.hid h
  clear h
  go_enter Tryd.func36, Tryd.ntmps36
  go_wp2_with fail
  go_loopw [6] (fun vi wr => ∃ (i : Nat) (dk : Array Nat), vi = .int .i64 (i : Int) ∧ a < i ∧ i ≤ e + 1 ∧ dk.size = n ∧ RowU w0 b o dk wr ∧ Go.Sort.insOuter ltN a e i dk = Go.Sort.insertionSort ltN d a e) (fun vi _ => e + 1 - (intOf vi).toNat)
  case atStart => exact ⟨a + 1, d, by go_num, by omega, by omega, hn, HH.out, rfl⟩
  case round =>
    obtain ⟨i, dk, rfl, hai, hie, hdk, hR, hO⟩ := hrel
    have HO := Lib.hid hO
    have HR := Lib.hid hR
    clear hO hR
    by_cases hlt : i < e
    · have hlt' : (i : Int) < (e : Int) := by omega
      go_wp2_with fail
      obtain ⟨wo, hwo⟩ : ∃ wo : World, wo = wr := ⟨_, rfl⟩
      go_loopw [7] (fun vj wr => ∃ (j : Nat) (dj : Array Nat), vj = .int .i64 (j : Int) ∧ a ≤ j ∧ j ≤ i ∧ dj.size = n ∧ RowU w0 b o dj wr ∧ Go.Sort.insInner ltN a j dj = Go.Sort.insInner ltN a i dk) (fun vj _ => (intOf vj).toNat)
      case atStart => exact ⟨i, dk, rfl, by omega, Nat.le_refl _, hdk, HR.out, rfl⟩
      case round =>
        clear hwo HR
        obtain ⟨j, dj, rfl, haj, hji, hdj, hR, hI⟩ := hrel
        obtain ⟨G, hG, hcw, hfw⟩ := hR.fam hdj
        have HG := Lib.hid hG
        have HR := Lib.hid hR
        have HI := Lib.hid hI
        clear hG hR hI
        by_cases hja : a < j
        · have hja' : (a : Int) < (j : Int) := by omega
          obtain ⟨m, hm⟩ : ∃ m, j = m + 1 := ⟨j - 1, by omega⟩
          have hj1 : (j : Int) - 1 = (m : Int) := by omega
          have HM := Lib.hid hm
          have hml : m + 1 < n := by omega
          clear hm
          go_upto_region 4 with fail
          go_quiet (first | (go_at_call 42; refine Calls.quiet_of_same (kl _ _ _)))
          go_wp2_with fail
          · have hl : ltN (G j) (G m) = true := by assumption
            go_region
            all_goals go_wp2_with fail
            go_roundw
            case rel =>
              obtain rfl := HM.out
              refine ⟨m, swp dj (m + 1) m, by go_num, by omega, by omega, by rw [size_swp']; exact hdj, ?_, ?_⟩
              · have h := HR.out.swap (m + 1) m (by omega) (by omega) (nq + 1)
                rw [← HG.out, ← HG.out] at h
                exact h
              · rw [← HI.out]
                exact (ins_step a m dj (by omega) (by rw [← HG.out, ← HG.out]; exact hl)).symm
            case measure => simp [intOf] <;> omega
          · have hl : ltN (G j) (G m) = false := by assumption
            go_roundw
            case rel =>
              obtain rfl := HM.out
              refine ⟨i + 1, dj, by go_num, by omega, by omega, hdj, HR.out.drewN nq, ?_⟩
              rw [← HO.out, outer_step a e i dk hlt, ← HI.out, ins_halt a m dj (by rw [← HG.out, ← HG.out]; exact hl)]
            case measure => simp [intOf] <;> omega
        · have hja' : ¬ (a : Int) < (j : Int) := by omega
          go_upto_region 4 with fail
          go_quiet (first | (go_at_call 42; refine Calls.quiet_of_same (kl _ _ _)))
          go_wp2_with fail
          go_roundw
          case rel =>
            refine ⟨i + 1, dj, by go_num, by omega, by omega, hdj, HR.out.drewN nq, ?_⟩
            rw [← HO.out, outer_step a e i dk hlt, ← HI.out, ins_low a j dj (by omega)]
          case measure => simp [intOf] <;> omega
    · have hlt' : ¬ (i : Int) < (e : Int) := by omega
      go_wp2_with fail
      go_end0
      refine ⟨rfl, ?_⟩
      rw [← HO.out, outer_end a e i dk hlt]
      exact HR.out
end Go.Proofs.YtjpmigagoedbcaaDoor.Pm
