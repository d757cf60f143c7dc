/-
Layer 13: the reference's within, May.
-/
import Derived.Test.YtegaiphhoinilaaRcB
import Derived.Deep.QuietTactic
namespace Go.Proofs.Ytegaiphhoinilaa.Rc
open Go Go.RowKit

theorem at_p (b o n c j : Nat) (hj : (j : Int) < (n : Int)) (w : World) : (Instr.indexAt 31 (.slice (some ⟨b, o, none⟩) n c) (.int .i64 (j : Int))).run Try.prog w = .ok (.pointer (some ⟨b, o + j * 2, none⟩)) w := by
  have h2 := Addr.add_mid b o (j * 2)
  go_simp
theorem inSp_step (l : List (Nat × Nat)) (x n i : Nat) (hi : i < l.length) : inSp (l.drop i) x n = (decide ((l.getD i (0, 0)).1 ≤ x ∧ x + n ≤ (l.getD i (0, 0)).1 + (l.getD i (0, 0)).2) || inSp (l.drop (i + 1)) x n) := by
  rw [List.drop_eq_getElem_cons hi]
  rw [List.getD_eq_getElem?_getD, List.getElem?_eq_getElem hi]
  rfl
set_option maxRecDepth 100000 in
set_option maxHeartbeats 2000000 in
theorem within_any (l : List (Nat × Nat)) (s : Sl) (x n : Nat) (w : World) (hS : SlP w s l) (hx : x < 4294967296) (hn : n ≤ 8) :
    Calls Try.prog 47 #[s.v, .int .i64 (x : Int), .int .i64 (n : Int)] w fun e w' => e = .returned (.bool (inSp l x n)) ∧ Below w.heap.size w w' := by
  obtain ⟨A, m, c⟩ := s
  have hm : l.length = m := hS.1
  have h47 : m ≤ 140737488355328 := hS.2.2.1.2
  generalize hr : inSp l x n = res
  have HR0 : Hid (inSp (l.drop 0) x n = res) := Lib.hid (by rw [List.drop_zero]; exact hr)
  have HS := Lib.hid hS
  clear hr hS
  show Calls Try.prog 47 #[.slice A m c, .int .i64 (x : Int), .int .i64 (n : Int)] w _
  go_enter Try.func47, Try.ntmps47
  go_wp2_with fail
  go_loopw [7] (fun ct wr => ∃ i : Nat, i ≤ m ∧ ct = .int .i64 (i : Int) ∧ Hid (inSp (l.drop i) x n = res) ∧ Below w.heap.size w wr) (fun ct _ => (m - (intOf ct)).toNat)
  case atStart => exact ⟨0, Nat.zero_le _, rfl, HR0, Below.refl _ _⟩
  case round =>
    obtain ⟨i, hi, rfl, HR, hb⟩ := hrel
    by_cases hlt : i < m
    · have di : (i : Int) < (m : Int) := by omega
      have hst := inSp_step l x n i (by omega)
      have hwf := getD_all (P := fun x : Nat × Nat => x.1 < 4294967296 ∧ x.2 < 4294967296) (d := (0, 0)) (j := i) HS.out.2.1 (by omega)
      obtain ⟨b, o, hA, hbl, hc⟩ := (HS.out.below hb).2.2.2 (by show 0 < m; omega)
      replace hA : A = some ⟨b, o, none⟩ := hA
      subst hA
      have hc0 : wr.cell? ⟨b, o + i * 2, none⟩ = some (.int .i64 (((l.getD i (0, 0)).1 : Nat) : Int)) := hc i 0 hlt (by decide)
      have hc1 : wr.cell? ⟨b, o + i * 2 + 1, none⟩ = some (.int .i64 (((l.getD i (0, 0)).2 : Nat) : Int)) := hc i 1 hlt (by decide)
      generalize l.getD i (0, 0) = p at *
      obtain ⟨a, z⟩ := p
      dsimp only at hc0 hc1 hst hwf
      have ha := fun W => at_p b o m c i di W
      have HST := Lib.hid hst
      clear hc hst
      have HB := Lib.hid hb
      clear hb
      by_cases t1 : a ≤ x
      · have d1 : (a : Int) ≤ (x : Int) := by omega
        by_cases t2 : x + n ≤ a + z
        · have d2 : (x : Int) + (n : Int) ≤ (a : Int) + (z : Int) := by omega
          go_upto_region 4 with fail
          go_quiet (fail)
          go_wp2_with fail
          have e : res = true := by
            rw [← HR.out, HST.out, decide_eq_true (show a ≤ x ∧ x + n ≤ a + z from ⟨t1, t2⟩)]; rfl
          subst e
          go_ret
          exact ⟨rfl, below_drewN HB.out nq⟩
        · have d2 : ¬ (x : Int) + (n : Int) ≤ (a : Int) + (z : Int) := by omega
          go_upto_region 4 with fail
          go_quiet (fail)
          go_wp2_with fail
          have e : inSp (l.drop (i + 1)) x n = res := by
            rw [← HR.out, HST.out, decide_eq_false (show ¬(a ≤ x ∧ x + n ≤ a + z) from fun h => t2 h.2)]; rfl
          go_roundw
          case rel => exact ⟨i + 1, hlt, by go_num, Lib.hid e, below_drewN HB.out nq⟩
          case measure => simp [intOf] <;> omega
      · have d1 : ¬ (a : Int) ≤ (x : Int) := by omega
        go_upto_region 4 with fail
        go_quiet (fail)
        go_wp2_with fail
        have e : inSp (l.drop (i + 1)) x n = res := by
          rw [← HR.out, HST.out, decide_eq_false (show ¬(a ≤ x ∧ x + n ≤ a + z) from fun h => t1 h.1)]; rfl
        go_roundw
        case rel => exact ⟨i + 1, hlt, by go_num, Lib.hid e, below_drewN HB.out nq⟩
        case measure => simp [intOf] <;> omega
    · have him : i = m := by omega
      have di : ¬ (i : Int) < (m : Int) := by omega
      have e : res = false := by
        rw [← HR.out, List.drop_eq_nil_of_le (by omega)]; rfl
      subst e
      go_wp2_with fail
      first | go_ret | go_end0
      exact ⟨rfl, hb⟩
end Go.Proofs.Ytegaiphhoinilaa.Rc
