/-
Sorting numbers of 64 bits: partialInsertionSortOrdered.
-/
import Derived.Test.YtjpmigagoedbcaaDoorPrF
namespace Go.Proofs.YtjpmigagoedbcaaDoor.Pm
open Go Go.RowKit
open Go.Sort (swp)

theorem ss_go (d : Array Nat) (e i : Nat) (h : i < e) (hl : ltN d[i]! d[i - 1]! = false) : Go.Sort.scanSorted ltN d e i = Go.Sort.scanSorted ltN d e (i + 1) := by
  rw [Go.Sort.scanSorted.eq_1 ltN d e i, hl, decide_eq_true h]; rfl
theorem ss_halt (d : Array Nat) (e i : Nat) (h : e ≤ i ∨ ltN d[i]! d[i - 1]! = true) : Go.Sort.scanSorted ltN d e i = i := by
  rw [Go.Sort.scanSorted]
  rcases h with h | h
  · rw [decide_eq_false (show ¬ i < e by omega), Bool.false_and]; rfl
  · rw [h, Bool.not_true, Bool.and_false]; rfl
theorem shd_go (j : Nat) (d : Array Nat) (hl : ltN d[j + 1]! d[j]! = true) : Go.Sort.shiftDown ltN (j + 1) d = Go.Sort.shiftDown ltN j (swp d (j + 1) j) := by
  rw [Go.Sort.shiftDown, hl]; rfl
theorem shd_halt (j : Nat) (d : Array Nat) (hl : ltN d[j + 1]! d[j]! = false) : Go.Sort.shiftDown ltN (j + 1) d = d := by
  rw [Go.Sort.shiftDown, hl]; rfl
theorem shu_go (e j : Nat) (d : Array Nat) (h : j < e) (hl : ltN d[j]! d[j - 1]! = true) : Go.Sort.shiftUp ltN e j d = Go.Sort.shiftUp ltN e (j + 1) (swp d j (j - 1)) := by
  rw [Go.Sort.shiftUp.eq_1 ltN e j d, if_pos h, hl]; rfl
theorem shu_halt (e j : Nat) (d : Array Nat) (h : ¬ j < e ∨ ltN d[j]! d[j - 1]! = false) : Go.Sort.shiftUp ltN e j d = d := by
  rw [Go.Sort.shiftUp]
  rcases h with h | h
  · rw [if_neg h]
  · rw [h]; split <;> rfl
def shD (a i : Nat) (d : Array Nat) : Array Nat := if i - a ≥ 2 then Go.Sort.shiftDown ltN (i - 1) d else d
def shU (e i : Nat) (d : Array Nat) : Array Nat := if e - i ≥ 2 then Go.Sort.shiftUp ltN e (i + 1) d else d
theorem pi_step (a e s i : Nat) (d : Array Nat) : Go.Sort.partialIns ltN a e (s + 1) i d = (if Go.Sort.scanSorted ltN d e i = e then (d, true) else if e - a < 50 then (d, false) else
    Go.Sort.partialIns ltN a e s (Go.Sort.scanSorted ltN d e i) (shU e (Go.Sort.scanSorted ltN d e i) (shD a (Go.Sort.scanSorted ltN d e i) (swp d (Go.Sort.scanSorted ltN d e i) (Go.Sort.scanSorted ltN d e i - 1))))) := rfl
set_option maxRecDepth 100000 in
set_option maxHeartbeats 16000000 in
theorem partial_any (b o n c a e : Nat) (d : Array Nat) (w0 w : World) (h : RowU w0 b o d w) (hn : d.size = n) (hae : a < e) (hen : e ≤ n) (hsz : n < 1000000) :
    Calls Tryd.prog 41 #[.slice (some ⟨b, o, none⟩) n c, .int .i64 (a : Int), .int .i64 (e : Int)] w fun en w' => en = .returned (.bool (Go.Sort.partialInsertionSort ltN d a e).2) ∧ RowU w0 b o (Go.Sort.partialInsertionSort ltN d a e).1 w' := by
  have kl := less_any
  obtain ⟨a1, ha1⟩ : ∃ a1, a1 = a + 1 := ⟨_, rfl⟩
  have ha1' : (a : Int) + 1 = (a1 : Int) := by omega
  have h1a : 1 ≤ a1 := by omega
  have hae1 : a1 ≤ e := by omega
  obtain ⟨ln, hln⟩ : ∃ ln, ln = e - a := ⟨_, rfl⟩
  have hln' : (e : Int) - (a : Int) = (ln : Int) := by omega
  have HLN := Lib.hid hln
  have haa : a < a1 := by omega
  unfold Go.Sort.partialInsertionSort
  rw [← ha1]
  generalize hres : Go.Sort.partialIns ltN a e 5 a1 d = res
  have HRES := Lib.hid hres
  have HR0 := Lib.hid h
  clear hres ha1 h hln
  go_enter Tryd.func41, Tryd.ntmps41
  go_wp2_with fail
  go_loopw [7, 8, 9, 10] (fun v7 v8 _ _ wr => ∃ (i k : Nat) (dk : Array Nat), v7 = .int .i64 (i : Int) ∧ v8 = .int .i64 (k : Int) ∧ k ≤ 5 ∧ a < i ∧ i ≤ e ∧ dk.size = n ∧ RowU w0 b o dk wr ∧ Go.Sort.partialIns ltN a e (5 - k) i dk = res) (fun _ v8 _ _ _ => (5 - (intOf v8)).toNat)
  case atStart => exact ⟨a1, 0, d, rfl, rfl, by omega, haa, hae1, hn, HR0.out, HRES.out⟩
  case round =>
    clear HR0 HRES
    obtain ⟨i, k, dk, rfl, rfl, hk5, hai, hie, hdk, hR, hO⟩ := hrel
    have HR := Lib.hid hR
    clear hR
    by_cases hk : k = 5
    · subst hk
      have HO := Lib.hid (show (dk, false) = res from hO)
      clear hO
      go_wp2_with fail
      go_ret
      rw [← HO.out]
      exact ⟨rfl, HR.out⟩
    · obtain ⟨s, hs⟩ : ∃ s, 5 - k = s + 1 := ⟨4 - k, by omega⟩
      have hk' : (k : Int) < 5 := by omega
      rw [hs, pi_step a e s i dk] at hO
      have hs' : 5 - (k + 1) = s := by omega
      have HO := Lib.hid hO
      have HS5 := Lib.hid hs'
      clear hO hs hs' hk
      go_wp2_with fail
      obtain ⟨wo, hwo⟩ : ∃ wo : World, wo = wr := ⟨_, rfl⟩
      obtain ⟨sc, hsc⟩ : ∃ sc, sc = Go.Sort.scanSorted ltN dk e i := ⟨_, rfl⟩
      rw [← hsc] at HO
      have HSC := Lib.hid hsc
      clear hsc
      go_loopw [7] (fun vi wr => ∃ cc : Nat, vi = .int .i64 (cc : Int) ∧ (i ≤ cc ∧ cc ≤ e) ∧ RowU w0 b o dk wr ∧ Go.Sort.scanSorted ltN dk e cc = sc) (fun vi _ => (e - (intOf vi)).toNat)
      case atStart => exact ⟨i, rfl, by omega, HR.out, HSC.out.symm⟩
      case round =>
        clear hwo HR
        obtain ⟨cc, rfl, hcc, hR, hS⟩ := hrel
        have HS := Lib.hid hS
        clear hS
        obtain ⟨c1, hc1⟩ : ∃ c1, c1 = cc - 1 := ⟨_, rfl⟩
        have hc1' : (cc : Int) - 1 = (c1 : Int) := by omega
        have hc1n : c1 < n := by omega
        have HC1 := Lib.hid hc1
        clear hc1
        obtain ⟨G, hG, hcw, hfw⟩ := hR.fam hdk
        have HG := Lib.hid hG
        have HR := Lib.hid hR
        clear hG hR
        have hcl : cc < e → cc < n := by omega
        go_upto_region 5 with fail
        go_cut [32] (fun t wx => t = .bool (decide (cc < e) && (!ltN (G cc) (G c1))) ∧ ∃ m, wx = wr.drewN m)
        case first =>
          by_cases hle : cc < e
          · have hle' : (cc : Int) < (e : Int) := by omega
            have hcl2 := hcl hle
            have hd : decide (cc < e) = true := decide_eq_true hle
            clear hle
            go_quiet (first | (go_at_call 42; refine Calls.quiet_of_same (kl _ _ _)))
            go_wp2_with fail
            go_meet
            exact ⟨by rw [hd, Bool.true_and], nq, rfl⟩
          · have hle' : ¬ (cc : Int) < (e : Int) := by omega
            have hd : decide (cc < e) = false := decide_eq_false hle
            clear hle
            go_quiet (first | (go_at_call 42; refine Calls.quiet_of_same (kl _ _ _)))
            go_wp2_with fail
            go_meet
            exact ⟨by rw [hd, Bool.false_and], nq, rfl⟩
        case rest =>
          obtain ⟨rfl, m, rfl⟩ := hcut
          have hR1 := HR.out.drewN m
          have HR1 := Lib.hid hR1
          clear hR1 hcw hfw HR
          have hPG : ltN dk[cc]! dk[cc - 1]! = ltN (G cc) (G c1) := by rw [← HC1.out, ← HG.out, ← HG.out]
          have HPG := Lib.hid hPG
          clear hPG
          generalize wr.drewN m = wn at *
          cases hq : (decide (cc < e) && (!ltN (G cc) (G c1))) with
          | true =>
            obtain ⟨q1, q2⟩ := Bool.and_eq_true_iff.1 hq
            replace q1 := of_decide_eq_true q1
            have q3 : ltN (G cc) (G c1) = false := by cases h : ltN (G cc) (G c1) <;> simp [h] at q2 ⊢
            have HQ := Lib.hid q3
            clear hq q2 q3
            go_wp2_with fail
            go_roundw
            case rel => exact ⟨cc + 1, by go_num, by omega, HR1.out, by rw [← ss_go dk e cc q1 (HPG.out.trans HQ.out)]; exact HS.out⟩
            case measure => simp [intOf] <;> omega
          | false =>
            have hend : cc = sc := by
              rw [← HS.out]
              refine (ss_halt dk e cc ?_).symm
              rcases Bool.and_eq_false_iff.1 hq with h | h
              · exact Or.inl (by have := of_decide_eq_false h; omega)
              · exact Or.inr (HPG.out.trans (by cases h2 : ltN (G cc) (G c1) <;> simp [h2] at h ⊢))
            subst hend
            clear HSC HS hq HPG HG hcl
            have HR := Lib.hid HR1.out
            clear HR1
            generalize wn = wr at *
            by_cases he : cc = e
            · have he' : ((cc : Int) == (e : Int)) = true := beq_iff_eq.2 (by omega)
              have hz : (dk, true) = res := by have h := HO.out; rw [if_pos he] at h; exact h
              have HZ := Lib.hid hz
              clear hz he HO
              go_wp2_with fail
              go_ret
              rw [← HZ.out]
              exact ⟨rfl, HR.out⟩
            · have he' : ((cc : Int) == (e : Int)) = false := beq_eq_false_iff_ne.2 (by omega)
              by_cases h50 : ln < 50
              · have h50' : (ln : Int) < 50 := by omega
                have hz : (dk, false) = res := by have h := HO.out; rw [if_neg he, if_pos (by rw [← HLN.out]; exact h50)] at h; exact h
                have HZ := Lib.hid hz
                clear hz he HO h50
                go_wp2_with fail
                go_ret
                rw [← HZ.out]
                exact ⟨rfl, HR.out⟩
              · have h50' : ¬ (ln : Int) < 50 := by omega
                have hz : Go.Sort.partialIns ltN a e s cc (shU e cc (shD a cc (swp dk cc (cc - 1)))) = res := by have h := HO.out; rw [if_neg he, if_neg (by rw [← HLN.out]; exact h50)] at h; exact h
                rw [← HC1.out] at hz
                have HZ := Lib.hid hz
                have hce : cc < e := by omega
                clear hz he HO h50 hie
                obtain ⟨u1, hu1⟩ : ∃ u1, u1 = cc - a := ⟨_, rfl⟩
                have hu1' : (cc : Int) - (a : Int) = (u1 : Int) := by omega
                have HU1 := Lib.hid hu1
                clear hu1
                obtain ⟨u2, hu2⟩ : ∃ u2, u2 = e - cc := ⟨_, rfl⟩
                have hu2' : (e : Int) - (cc : Int) = (u2 : Int) := by omega
                have HU2 := Lib.hid hu2
                clear hu2
                by_cases h2d : 2 ≤ u1
                · have h2d' : (2 : Int) ≤ (u1 : Int) := by omega
                  obtain ⟨G, hG, hcw, hfw⟩ := HR.out.fam hdk
                  have HG := Lib.hid hG
                  clear hG
                  obtain ⟨v2, hv2⟩ := set_some hcw cc c1 (by omega) (by omega) (.int .u64 (G c1 : Int))
                  have lx : cc < n := by omega
                  go_upto_region 11 with fail
                  go_region
                  have hR := HR.out.swap cc c1 (by omega) (by omega) 1
                  rw [← HG.out, ← HG.out] at hR
                  have hd1s : (swp dk cc c1).size = n := by rw [size_swp']; exact hdk
                  have HR2 := Lib.hid hR
                  clear hR hcw hfw hv2 HG HR hdk
                  generalize swp dk cc c1 = d1 at *
                  have hz : Go.Sort.partialIns ltN a e s cc (shU e cc (Go.Sort.shiftDown ltN c1 d1)) = res := by have h := HZ.out; unfold shD at h; rw [if_pos (show cc - a ≥ 2 by rw [← HU1.out]; exact h2d), ← HC1.out] at h; exact h
                  obtain ⟨D1, hD1⟩ : ∃ D1, D1 = Go.Sort.shiftDown ltN c1 d1 := ⟨_, rfl⟩
                  rw [← hD1] at hz
                  clear HZ
                  have HZ := Lib.hid hz
                  have HD1 := Lib.hid hD1
                  clear hz hD1
                  go_wp2_with fail
                  go_loopw [9] (fun vj wr => ∃ (jj : Nat) (dj : Array Nat), vj = .int .i64 (jj : Int) ∧ jj < n ∧ dj.size = n ∧ RowU w0 b o dj wr ∧ Go.Sort.shiftDown ltN jj dj = D1) (fun vj _ => (intOf vj).toNat)
                  case atStart => exact ⟨c1, d1, rfl, hc1n, hd1s, HR2.out, HD1.out.symm⟩
                  case round =>
                    clear HD1 HR2 hd1s
                    obtain ⟨jj, dj, rfl, hjn, hdj, hR, hS⟩ := hrel
                    have HS := Lib.hid hS
                    clear hS
                    obtain ⟨G, hG, hcw, hfw⟩ := hR.fam hdj
                    have HG := Lib.hid hG
                    have HR := Lib.hid hR
                    clear hG hR
                    by_cases hj0 : jj = 0
                    · have hj0' : ¬ (1 : Int) ≤ (jj : Int) := by omega
                      have hz2 : dj = D1 := by rw [← HS.out, hj0]; rfl
                      subst hz2
                      clear HS hcw hfw HG hj0
                      by_cases h2u : 2 ≤ u2
                      · have h2u' : (2 : Int) ≤ (u2 : Int) := by omega
                        have hz : Go.Sort.partialIns ltN a e s cc (Go.Sort.shiftUp ltN e (cc + 1) dj) = res := by have h := HZ.out; unfold shU at h; rw [if_pos (show e - cc ≥ 2 by rw [← HU2.out]; exact h2u)] at h; exact h
                        obtain ⟨D2, hD2⟩ : ∃ D2, D2 = Go.Sort.shiftUp ltN e (cc + 1) dj := ⟨_, rfl⟩
                        rw [← hD2] at hz
                        clear HZ
                        have HZ := Lib.hid hz
                        have HD2 := Lib.hid hD2
                        clear hz hD2
                        go_wp2_with fail
                        go_loopw [10] (fun vj wr => ∃ (jj : Nat) (dj : Array Nat), vj = .int .i64 (jj : Int) ∧ 1 ≤ jj ∧ jj ≤ e ∧ dj.size = n ∧ RowU w0 b o dj wr ∧ Go.Sort.shiftUp ltN e jj dj = D2) (fun vj _ => (e - (intOf vj)).toNat)
                        case atStart => exact ⟨cc + 1, _, by go_num, by omega, by omega, hdj, HR.out, HD2.out.symm⟩
                        case round =>
                          clear HD2
                          obtain ⟨jj, dj, rfl, hj1, hje, hdj, hR, hS⟩ := hrel
                          have HS := Lib.hid hS
                          clear hS
                          obtain ⟨G, hG, hcw, hfw⟩ := hR.fam hdj
                          have HG := Lib.hid hG
                          have HR := Lib.hid hR
                          clear hG hR
                          obtain ⟨j1, hjj⟩ : ∃ j1, j1 = jj - 1 := ⟨_, rfl⟩
                          have hjj' : (jj : Int) - 1 = (j1 : Int) := by omega
                          have lj1 : j1 < n := by omega
                          have HJJ := Lib.hid hjj
                          clear hjj
                          by_cases hlt : jj < e
                          · have hlt' : (jj : Int) < (e : Int) := by omega
                            have ljj : jj < n := by omega
                            have hPG : ltN dj[jj]! dj[jj - 1]! = ltN (G jj) (G j1) := by rw [← HJJ.out, ← HG.out, ← HG.out]
                            have HPG := Lib.hid hPG
                            clear hPG
                            go_upto_region 22 with fail
                            go_quiet (first | (go_at_call 42; refine Calls.quiet_of_same (kl _ _ _)))
                            have hR1 := HR.out.drewN nq
                            replace hcw : ∀ t, t < n → (wr.drewN nq).cell? ⟨b, o + t, none⟩ = some (.int .u64 (G t : Int)) := hcw
                            replace hfw : ∀ t, t < n → (wr.drewN nq).frozen? ⟨b, o + t, none⟩ = false := hfw
                            have HR1 := Lib.hid hR1
                            clear hR1 HR
                            generalize wr.drewN nq = wn at *
                            clear nq
                            cases hl : ltN (G jj) (G j1) with
                            | true =>
                              go_wp2_with fail
                              obtain ⟨v2, hv2⟩ := set_some hcw jj j1 (by omega) (by omega) (.int .u64 (G j1 : Int))
                              go_region
                              all_goals go_wp2_with fail
                              have hR := HR1.out.swap jj j1 (by omega) (by omega) 1
                              rw [← HG.out, ← HG.out] at hR
                              have HR4 := Lib.hid hR
                              clear hR
                              go_roundw
                              case rel => exact ⟨jj + 1, _, by go_num, by omega, by omega, by rw [size_swp']; exact hdj, HR4.out, by rw [HJJ.out, ← shu_go e jj dj hlt (HPG.out.trans hl)]; exact HS.out⟩
                              case measure => simp [intOf] <;> omega
                            | false =>
                              have hz2 : dj = D2 := by rw [← HS.out]; exact (shu_halt e jj dj (Or.inr (HPG.out.trans hl))).symm
                              subst hz2
                              clear HS HPG hcw hfw HG
                              go_wp2_with fail
                              go_roundw
                              case rel => exact ⟨cc, k + 1, _, rfl, by go_num, by omega, by omega, by omega, hdj, HR1.out, by rw [HS5.out]; exact HZ.out⟩
                              case measure => simp [intOf] <;> omega
                          · have hlt' : ¬ (jj : Int) < (e : Int) := by omega
                            have hz2 : dj = D2 := by rw [← HS.out]; exact (shu_halt e jj dj (Or.inl hlt)).symm
                            subst hz2
                            clear HS hcw hfw HG
                            go_wp2_with fail
                            go_roundw
                            case rel => exact ⟨cc, k + 1, _, rfl, by go_num, by omega, by omega, by omega, hdj, HR.out, by rw [HS5.out]; exact HZ.out⟩
                            case measure => simp [intOf] <;> omega
                      · have h2u' : ¬ (2 : Int) ≤ (u2 : Int) := by omega
                        have hz : Go.Sort.partialIns ltN a e s cc dj = res := by have h := HZ.out; unfold shU at h; rw [if_neg (show ¬ e - cc ≥ 2 by rw [← HU2.out]; exact h2u)] at h; exact h
                        clear HZ
                        have HZ := Lib.hid hz
                        clear hz h2u
                        go_wp2_with fail
                        go_roundw
                        case rel => exact ⟨cc, k + 1, _, rfl, by go_num, by omega, by omega, by omega, hdj, HR.out, by rw [HS5.out]; exact HZ.out⟩
                        case measure => simp [intOf] <;> omega
                    · obtain ⟨j1, hjj⟩ : ∃ j1, jj = j1 + 1 := ⟨jj - 1, by omega⟩
                      have hj0' : (1 : Int) ≤ (jj : Int) := by omega
                      have hjj' : (jj : Int) - 1 = (j1 : Int) := by omega
                      have lj1 : j1 < n := by omega
                      have hPG : ltN dj[j1 + 1]! dj[j1]! = ltN (G jj) (G j1) := by rw [← hjj, ← HG.out, ← HG.out]
                      have HPG := Lib.hid hPG
                      have HJJ := Lib.hid hjj
                      clear hPG hjj hj0
                      go_upto_region 16 with fail
                      go_quiet (first | (go_at_call 42; refine Calls.quiet_of_same (kl _ _ _)))
                      have hR1 := HR.out.drewN nq
                      replace hcw : ∀ t, t < n → (wr.drewN nq).cell? ⟨b, o + t, none⟩ = some (.int .u64 (G t : Int)) := hcw
                      replace hfw : ∀ t, t < n → (wr.drewN nq).frozen? ⟨b, o + t, none⟩ = false := hfw
                      have HR1 := Lib.hid hR1
                      clear hR1 HR
                      generalize wr.drewN nq = wn at *
                      clear nq
                      cases hl : ltN (G jj) (G j1) with
                      | true =>
                        go_wp2_with fail
                        obtain ⟨v2, hv2⟩ := set_some hcw jj j1 (by omega) (by omega) (.int .u64 (G j1 : Int))
                        go_region
                        all_goals go_wp2_with fail
                        have hR := HR1.out.swap jj j1 (by omega) (by omega) 1
                        rw [← HG.out, ← HG.out] at hR
                        have HR4 := Lib.hid hR
                        clear hR
                        go_roundw
                        case rel => exact ⟨j1, _, rfl, lj1, by rw [size_swp']; exact hdj, HR4.out, by have h := HS.out; rw [HJJ.out, shd_go j1 dj (HPG.out.trans hl), ← HJJ.out] at h; exact h⟩
                        case measure => simp [intOf] <;> (have := HJJ.out; omega)
                      | false =>
                        have hz2 : dj = D1 := by rw [← HS.out, HJJ.out]; exact (shd_halt j1 dj (HPG.out.trans hl)).symm
                        subst hz2
                        clear HS HPG hcw hfw HG HJJ hj0' hjj' lj1 hjn
                        by_cases h2u : 2 ≤ u2
                        · have h2u' : (2 : Int) ≤ (u2 : Int) := by omega
                          have hz : Go.Sort.partialIns ltN a e s cc (Go.Sort.shiftUp ltN e (cc + 1) dj) = res := by have h := HZ.out; unfold shU at h; rw [if_pos (show e - cc ≥ 2 by rw [← HU2.out]; exact h2u)] at h; exact h
                          obtain ⟨D2, hD2⟩ : ∃ D2, D2 = Go.Sort.shiftUp ltN e (cc + 1) dj := ⟨_, rfl⟩
                          rw [← hD2] at hz
                          clear HZ
                          have HZ := Lib.hid hz
                          have HD2 := Lib.hid hD2
                          clear hz hD2
                          go_wp2_with fail
                          go_loopw [10] (fun vj wr => ∃ (jj : Nat) (dj : Array Nat), vj = .int .i64 (jj : Int) ∧ 1 ≤ jj ∧ jj ≤ e ∧ dj.size = n ∧ RowU w0 b o dj wr ∧ Go.Sort.shiftUp ltN e jj dj = D2) (fun vj _ => (e - (intOf vj)).toNat)
                          case atStart => exact ⟨cc + 1, _, by go_num, by omega, by omega, hdj, HR1.out, HD2.out.symm⟩
                          case round =>
                            clear HD2
                            obtain ⟨jj, dj, rfl, hj1, hje, hdj, hR, hS⟩ := hrel
                            have HS := Lib.hid hS
                            clear hS
                            obtain ⟨G, hG, hcw, hfw⟩ := hR.fam hdj
                            have HG := Lib.hid hG
                            have HR := Lib.hid hR
                            clear hG hR
                            obtain ⟨j1, hjj⟩ : ∃ j1, j1 = jj - 1 := ⟨_, rfl⟩
                            have hjj' : (jj : Int) - 1 = (j1 : Int) := by omega
                            have lj1 : j1 < n := by omega
                            have HJJ := Lib.hid hjj
                            clear hjj
                            by_cases hlt : jj < e
                            · have hlt' : (jj : Int) < (e : Int) := by omega
                              have ljj : jj < n := by omega
                              have hPG : ltN dj[jj]! dj[jj - 1]! = ltN (G jj) (G j1) := by rw [← HJJ.out, ← HG.out, ← HG.out]
                              have HPG := Lib.hid hPG
                              clear hPG
                              go_upto_region 22 with fail
                              go_quiet (first | (go_at_call 42; refine Calls.quiet_of_same (kl _ _ _)))
                              have hR1 := HR.out.drewN nq
                              replace hcw : ∀ t, t < n → (wr.drewN nq).cell? ⟨b, o + t, none⟩ = some (.int .u64 (G t : Int)) := hcw
                              replace hfw : ∀ t, t < n → (wr.drewN nq).frozen? ⟨b, o + t, none⟩ = false := hfw
                              have HR1 := Lib.hid hR1
                              clear hR1 HR
                              generalize wr.drewN nq = wn at *
                              clear nq
                              cases hl : ltN (G jj) (G j1) with
                              | true =>
                                go_wp2_with fail
                                obtain ⟨v2, hv2⟩ := set_some hcw jj j1 (by omega) (by omega) (.int .u64 (G j1 : Int))
                                go_region
                                all_goals go_wp2_with fail
                                have hR := HR1.out.swap jj j1 (by omega) (by omega) 1
                                rw [← HG.out, ← HG.out] at hR
                                have HR4 := Lib.hid hR
                                clear hR
                                go_roundw
                                case rel => exact ⟨jj + 1, _, by go_num, by omega, by omega, by rw [size_swp']; exact hdj, HR4.out, by rw [HJJ.out, ← shu_go e jj dj hlt (HPG.out.trans hl)]; exact HS.out⟩
                                case measure => simp [intOf] <;> omega
                              | false =>
                                have hz2 : dj = D2 := by rw [← HS.out]; exact (shu_halt e jj dj (Or.inr (HPG.out.trans hl))).symm
                                subst hz2
                                clear HS HPG hcw hfw HG
                                go_wp2_with fail
                                go_roundw
                                case rel => exact ⟨cc, k + 1, _, rfl, by go_num, by omega, by omega, by omega, hdj, HR1.out, by rw [HS5.out]; exact HZ.out⟩
                                case measure => simp [intOf] <;> omega
                            · have hlt' : ¬ (jj : Int) < (e : Int) := by omega
                              have hz2 : dj = D2 := by rw [← HS.out]; exact (shu_halt e jj dj (Or.inl hlt)).symm
                              subst hz2
                              clear HS hcw hfw HG
                              go_wp2_with fail
                              go_roundw
                              case rel => exact ⟨cc, k + 1, _, rfl, by go_num, by omega, by omega, by omega, hdj, HR.out, by rw [HS5.out]; exact HZ.out⟩
                              case measure => simp [intOf] <;> omega
                        · have h2u' : ¬ (2 : Int) ≤ (u2 : Int) := by omega
                          have hz : Go.Sort.partialIns ltN a e s cc dj = res := by have h := HZ.out; unfold shU at h; rw [if_neg (show ¬ e - cc ≥ 2 by rw [← HU2.out]; exact h2u)] at h; exact h
                          clear HZ
                          have HZ := Lib.hid hz
                          clear hz h2u
                          go_wp2_with fail
                          go_roundw
                          case rel => exact ⟨cc, k + 1, _, rfl, by go_num, by omega, by omega, by omega, hdj, HR1.out, by rw [HS5.out]; exact HZ.out⟩
                          case measure => simp [intOf] <;> omega
                · have h2d' : ¬ (2 : Int) ≤ (u1 : Int) := by omega
                  obtain ⟨G, hG, hcw, hfw⟩ := HR.out.fam hdk
                  have HG := Lib.hid hG
                  clear hG
                  obtain ⟨v2, hv2⟩ := set_some hcw cc c1 (by omega) (by omega) (.int .u64 (G c1 : Int))
                  have lx : cc < n := by omega
                  go_upto_region 11 with fail
                  go_region
                  have hR := HR.out.swap cc c1 (by omega) (by omega) 1
                  rw [← HG.out, ← HG.out] at hR
                  have hd1s : (swp dk cc c1).size = n := by rw [size_swp']; exact hdk
                  have HR2 := Lib.hid hR
                  clear hR hcw hfw hv2 HG HR hdk
                  generalize swp dk cc c1 = d1 at *
                  have hz : Go.Sort.partialIns ltN a e s cc (shU e cc d1) = res := by have h := HZ.out; unfold shD at h; rw [if_neg (show ¬ cc - a ≥ 2 by rw [← HU1.out]; exact h2d)] at h; exact h
                  clear HZ
                  have HZ := Lib.hid hz
                  clear hz h2d
                  by_cases h2u : 2 ≤ u2
                  · have h2u' : (2 : Int) ≤ (u2 : Int) := by omega
                    have hz : Go.Sort.partialIns ltN a e s cc (Go.Sort.shiftUp ltN e (cc + 1) d1) = res := by have h := HZ.out; unfold shU at h; rw [if_pos (show e - cc ≥ 2 by rw [← HU2.out]; exact h2u)] at h; exact h
                    obtain ⟨D2, hD2⟩ : ∃ D2, D2 = Go.Sort.shiftUp ltN e (cc + 1) d1 := ⟨_, rfl⟩
                    rw [← hD2] at hz
                    clear HZ
                    have HZ := Lib.hid hz
                    have HD2 := Lib.hid hD2
                    clear hz hD2
                    go_wp2_with fail
                    go_loopw [10] (fun vj wr => ∃ (jj : Nat) (dj : Array Nat), vj = .int .i64 (jj : Int) ∧ 1 ≤ jj ∧ jj ≤ e ∧ dj.size = n ∧ RowU w0 b o dj wr ∧ Go.Sort.shiftUp ltN e jj dj = D2) (fun vj _ => (e - (intOf vj)).toNat)
                    case atStart => exact ⟨cc + 1, _, by go_num, by omega, by omega, hd1s, HR2.out, HD2.out.symm⟩
                    case round =>
                      clear HD2
                      obtain ⟨jj, dj, rfl, hj1, hje, hdj, hR, hS⟩ := hrel
                      have HS := Lib.hid hS
                      clear hS
                      obtain ⟨G, hG, hcw, hfw⟩ := hR.fam hdj
                      have HG := Lib.hid hG
                      have HR := Lib.hid hR
                      clear hG hR
                      obtain ⟨j1, hjj⟩ : ∃ j1, j1 = jj - 1 := ⟨_, rfl⟩
                      have hjj' : (jj : Int) - 1 = (j1 : Int) := by omega
                      have lj1 : j1 < n := by omega
                      have HJJ := Lib.hid hjj
                      clear hjj
                      by_cases hlt : jj < e
                      · have hlt' : (jj : Int) < (e : Int) := by omega
                        have ljj : jj < n := by omega
                        have hPG : ltN dj[jj]! dj[jj - 1]! = ltN (G jj) (G j1) := by rw [← HJJ.out, ← HG.out, ← HG.out]
                        have HPG := Lib.hid hPG
                        clear hPG
                        go_upto_region 22 with fail
                        go_quiet (first | (go_at_call 42; refine Calls.quiet_of_same (kl _ _ _)))
                        have hR1 := HR.out.drewN nq
                        replace hcw : ∀ t, t < n → (wr.drewN nq).cell? ⟨b, o + t, none⟩ = some (.int .u64 (G t : Int)) := hcw
                        replace hfw : ∀ t, t < n → (wr.drewN nq).frozen? ⟨b, o + t, none⟩ = false := hfw
                        have HR1 := Lib.hid hR1
                        clear hR1 HR
                        generalize wr.drewN nq = wn at *
                        clear nq
                        cases hl : ltN (G jj) (G j1) with
                        | true =>
                          go_wp2_with fail
                          obtain ⟨v2, hv2⟩ := set_some hcw jj j1 (by omega) (by omega) (.int .u64 (G j1 : Int))
                          go_region
                          all_goals go_wp2_with fail
                          have hR := HR1.out.swap jj j1 (by omega) (by omega) 1
                          rw [← HG.out, ← HG.out] at hR
                          have HR4 := Lib.hid hR
                          clear hR
                          go_roundw
                          case rel => exact ⟨jj + 1, _, by go_num, by omega, by omega, by rw [size_swp']; exact hdj, HR4.out, by rw [HJJ.out, ← shu_go e jj dj hlt (HPG.out.trans hl)]; exact HS.out⟩
                          case measure => simp [intOf] <;> omega
                        | false =>
                          have hz2 : dj = D2 := by rw [← HS.out]; exact (shu_halt e jj dj (Or.inr (HPG.out.trans hl))).symm
                          subst hz2
                          clear HS HPG hcw hfw HG
                          go_wp2_with fail
                          go_roundw
                          case rel => exact ⟨cc, k + 1, _, rfl, by go_num, by omega, by omega, by omega, hdj, HR1.out, by rw [HS5.out]; exact HZ.out⟩
                          case measure => simp [intOf] <;> omega
                      · have hlt' : ¬ (jj : Int) < (e : Int) := by omega
                        have hz2 : dj = D2 := by rw [← HS.out]; exact (shu_halt e jj dj (Or.inl hlt)).symm
                        subst hz2
                        clear HS hcw hfw HG
                        go_wp2_with fail
                        go_roundw
                        case rel => exact ⟨cc, k + 1, _, rfl, by go_num, by omega, by omega, by omega, hdj, HR.out, by rw [HS5.out]; exact HZ.out⟩
                        case measure => simp [intOf] <;> omega
                  · have h2u' : ¬ (2 : Int) ≤ (u2 : Int) := by omega
                    have hz : Go.Sort.partialIns ltN a e s cc d1 = res := by have h := HZ.out; unfold shU at h; rw [if_neg (show ¬ e - cc ≥ 2 by rw [← HU2.out]; exact h2u)] at h; exact h
                    clear HZ
                    have HZ := Lib.hid hz
                    clear hz h2u
                    go_wp2_with fail
                    go_roundw
                    case rel => exact ⟨cc, k + 1, _, rfl, by go_num, by omega, by omega, by omega, hd1s, HR2.out, by rw [HS5.out]; exact HZ.out⟩
                    case measure => simp [intOf] <;> omega
end Go.Proofs.YtjpmigagoedbcaaDoor.Pm
