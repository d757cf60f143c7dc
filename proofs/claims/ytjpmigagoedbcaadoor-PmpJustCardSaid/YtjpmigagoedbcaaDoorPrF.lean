/-
Sorting numbers of 64 bits: partitionOrdered.
-/
import Derived.Test.YtjpmigagoedbcaaDoorPrE
namespace Go.Proofs.YtjpmigagoedbcaaDoor.Pm
open Go Go.RowKit
open Go.Sort (swp)

theorem part_first (d : Array Nat) (a e p ii jj : Nat) (dk : Array Nat) (hd : dk = swp d a p) (h1 : ii = Go.Sort.scanUp (fun x => ltN x dk[a]!) dk (e - 1) (a + 1)) (h2 : jj = Go.Sort.scanDown (fun x => !ltN x dk[a]!) dk ii (e - 1)) (h : jj < ii) :
    Go.Sort.partition ltN d a e p = (jj, true, swp dk jj a) := by
  subst hd
  unfold Go.Sort.partition
  simp only [← h1, ← h2]
  rw [if_pos h]
theorem part_more (d : Array Nat) (a e p ii jj : Nat) (dk : Array Nat) (hd : dk = swp d a p) (h1 : ii = Go.Sort.scanUp (fun x => ltN x dk[a]!) dk (e - 1) (a + 1)) (h2 : jj = Go.Sort.scanDown (fun x => !ltN x dk[a]!) dk ii (e - 1)) (h : ¬ jj < ii) (r : Nat × Array Nat)
    (hr : Go.Sort.partLoop ltN a (ii + 1) (jj - 1) (swp dk ii jj) = r) : Go.Sort.partition ltN d a e p = (r.1, false, swp r.2 r.1 a) := by
  subst hd hr
  unfold Go.Sort.partition
  simp only [← h1, ← h2]
  rw [if_neg h]
set_option maxRecDepth 100000 in
set_option maxHeartbeats 16000000 in
theorem part_any (b o n c a e p : Nat) (d : Array Nat) (w0 w : World) (h : RowU w0 b o d w) (hn : d.size = n) (hap : a ≤ p) (hpe : p < e) (hen : e ≤ n) (hsz : n < 1000000) :
    Calls Tryd.prog 44 #[.slice (some ⟨b, o, none⟩) n c, .int .i64 (a : Int), .int .i64 (e : Int), .int .i64 (p : Int)] w fun en w' => en = .returned (.tuple #[.int .i64 ((Go.Sort.partition ltN d a e p).1 : Int), .bool (Go.Sort.partition ltN d a e p).2.1]) ∧ RowU w0 b o (Go.Sort.partition ltN d a e p).2.2 w' := by
  have kl := less_any
  obtain ⟨e1, he1⟩ : ∃ e1, e1 = e - 1 := ⟨_, rfl⟩
  have he1' : (e : Int) - 1 = (e1 : Int) := by omega
  obtain ⟨a1, ha1⟩ : ∃ a1, a1 = a + 1 := ⟨_, rfl⟩
  have ha1' : (a : Int) + 1 = (a1 : Int) := by omega
  have hel : e1 < n := by omega
  have hae : a < e1 + 1 := by omega
  have h1a : 1 ≤ a1 := by omega
  have hae1 : a1 ≤ e1 + 1 := by omega
  have hfst := part_first d a e p
  have hmore := part_more d a e p
  rw [← he1, ← ha1] at hfst hmore
  generalize hres : Go.Sort.partition ltN d a e p = res at *
  have HF := Lib.hid hfst
  have HM := Lib.hid hmore
  have HR := Lib.hid h
  obtain ⟨G, hG, hcw, hfw⟩ := h.fam hn
  have HG := Lib.hid hG
  have la : a < n := by omega
  have lp : p < n := by omega
  obtain ⟨v2, hv2⟩ := set_some hcw a p la lp (.int .u64 (G p : Int))
  clear hres he1 ha1 hfst hmore h hG
  go_enter Tryd.func44, Tryd.ntmps44
  go_upto_region 1 with fail
  go_region
  all_goals go_wp2_with fail
  have hR := HR.out.swap a p (by omega) (by omega) 1
  rw [← HG.out, ← HG.out] at hR
  have HR0 := Lib.hid hR
  have hdk : (swp d a p).size = n := by rw [size_swp']; exact hn
  clear hR hcw hfw hv2 HG HR
  obtain ⟨dk, hdd⟩ : ∃ dk, dk = swp d a p := ⟨_, rfl⟩
  rw [← hdd] at HR0 hdk
  have HDD := Lib.hid hdd
  clear hdd
  have HR := Lib.hid HR0.out
  clear HR0
  obtain ⟨sc, hsc⟩ : ∃ sc, sc = Go.Sort.scanUp (fun x => ltN x dk[a]!) dk e1 a1 := ⟨_, rfl⟩
  have HSC := Lib.hid hsc
  clear hsc
  go_loopw [10] (fun vi wr => ∃ cc : Nat, vi = .int .i64 (cc : Int) ∧ (a1 ≤ cc ∧ cc ≤ max a1 (e1 + 1)) ∧ RowU w0 b o dk wr ∧ Go.Sort.scanUp (fun x => ltN x dk[a]!) dk e1 cc = sc) (fun vi _ => (e1 + 1 - (intOf vi)).toNat)
  case atStart => exact ⟨a1, rfl, by omega, HR.out, HSC.out.symm⟩
  case round =>
    clear HR
    obtain ⟨cc, rfl, hcc, hR, hS⟩ := hrel
    have HS := Lib.hid hS
    clear hS
    obtain ⟨G, hG, hcw, hfw⟩ := hR.fam hdk
    have HG := Lib.hid hG
    have HR := Lib.hid hR
    clear hG hR
    have hcl : cc ≤ e1 → cc < n := by omega
    go_upto_region 3 with fail
    go_cut [43] (fun t wx => t = .bool (decide (cc ≤ e1) && ltN (G cc) (G a)) ∧ ∃ m, wx = wr.drewN m)
    case first =>
      by_cases hle : cc ≤ e1
      · have hle' : (cc : Int) ≤ (e1 : Int) := by omega
        have hcl2 := hcl hle
        have hd : decide (cc ≤ e1) = true := decide_eq_true hle
        clear hle
        go_quiet (first | (go_at_call 42; refine Calls.quiet_of_same (kl _ _ _)))
        go_wp2_with fail
        go_meet
        exact ⟨by rw [hd, Bool.true_and], nq, rfl⟩
      · have hle' : ¬ (cc : Int) ≤ (e1 : Int) := by omega
        have hd : decide (cc ≤ e1) = false := decide_eq_false hle
        clear hle
        go_quiet (first | (go_at_call 42; refine Calls.quiet_of_same (kl _ _ _)))
        go_wp2_with fail
        go_meet
        exact ⟨by rw [hd, Bool.false_and], nq, rfl⟩
    case rest =>
      obtain ⟨rfl, m, rfl⟩ := hcut
      have hR1 := HR.out.drewN m
      have HR1 := Lib.hid hR1
      clear hR1 hcw hfw HR
      have hPG : (fun x => ltN x dk[a]!) dk[cc]! = ltN (G cc) (G a) := by show ltN dk[cc]! dk[a]! = _; rw [← HG.out, ← HG.out]
      have HPG := Lib.hid hPG
      clear hPG
      generalize wr.drewN m = wn at *
      cases hq : (decide (cc ≤ e1) && ltN (G cc) (G a)) with
      | true =>
        obtain ⟨q1, q2⟩ := Bool.and_eq_true_iff.1 hq
        replace q1 := of_decide_eq_true q1
        have HQ := Lib.hid q2
        clear hq q2
        go_wp2_with fail
        go_roundw
        case rel => exact ⟨cc + 1, by go_num, by omega, HR1.out, by rw [← su_go _ dk _ _ q1 (HPG.out.trans HQ.out)]; exact HS.out⟩
        case measure => simp [intOf] <;> omega
      | false =>
        have hend : cc = sc := by
          rw [← HS.out]
          refine (su_halt _ dk _ _ ?_).symm
          rcases Bool.and_eq_false_iff.1 hq with h | h
          · exact Or.inl (by have := of_decide_eq_false h; omega)
          · exact Or.inr (HPG.out.trans h)
        have HEND := Lib.hid (hend ▸ HSC.out : cc = Go.Sort.scanUp (fun x => ltN x dk[a]!) dk e1 a1)
        clear hend HSC HS hq HPG HG hcl
        obtain ⟨ii, hii⟩ : ∃ ii, ii = cc := ⟨_, rfl⟩
        have HUP := Lib.hid (hii.trans HEND.out)
        have hib : a1 ≤ ii := by omega
        have hib2 : ii ≤ max a1 (e1 + 1) := by omega
        obtain rfl := hii
        clear HEND hcc
        have HR := Lib.hid HR1.out
        clear HR1
        go_wp2_with fail
        generalize wn = wr at *
        obtain ⟨wo, hwo⟩ : ∃ wo : World, wo = wr := ⟨_, rfl⟩
        obtain ⟨sc, hsc⟩ : ∃ sc, sc = Go.Sort.scanDown (fun x => !ltN x dk[a]!) dk ii e1 := ⟨_, rfl⟩
        have HSC := Lib.hid hsc
        clear hsc
        go_loopw [11] (fun vi wr => ∃ cc : Nat, vi = .int .i64 (cc : Int) ∧ (cc ≤ e1) ∧ RowU w0 b o dk wr ∧ Go.Sort.scanDown (fun x => !ltN x dk[a]!) dk ii cc = sc) (fun vi _ => (intOf vi).toNat)
        case atStart => exact ⟨e1, rfl, by omega, HR.out, HSC.out.symm⟩
        case round =>
          clear hwo HR
          obtain ⟨cc, rfl, hcc, hR, hS⟩ := hrel
          have HS := Lib.hid hS
          clear hS
          obtain ⟨G, hG, hcw, hfw⟩ := hR.fam hdk
          have HG := Lib.hid hG
          have HR := Lib.hid hR
          clear hG hR
          have hcl : cc < n := by omega
          go_upto_region 5 with fail
          go_cut [60] (fun t wx => t = .bool (decide (ii ≤ cc) && (!ltN (G cc) (G a))) ∧ ∃ m, wx = wr.drewN m)
          case first =>
            by_cases hle : ii ≤ cc
            · have hle' : (ii : Int) ≤ (cc : Int) := by omega
              have hd : decide (ii ≤ cc) = true := decide_eq_true hle
              clear hle
              go_quiet (first | (go_at_call 42; refine Calls.quiet_of_same (kl _ _ _)))
              go_wp2_with fail
              go_meet
              exact ⟨by rw [hd, Bool.true_and], nq, rfl⟩
            · have hle' : ¬ (ii : Int) ≤ (cc : Int) := by omega
              have hd : decide (ii ≤ cc) = false := decide_eq_false hle
              clear hle
              go_quiet (first | (go_at_call 42; refine Calls.quiet_of_same (kl _ _ _)))
              go_wp2_with fail
              go_meet
              exact ⟨by rw [hd, Bool.false_and], nq, rfl⟩
          case rest =>
            obtain ⟨rfl, m, rfl⟩ := hcut
            have hR1 := HR.out.drewN m
            have HR1 := Lib.hid hR1
            clear hR1 hcw hfw HR
            have hPG : (fun x => !ltN x dk[a]!) dk[cc]! = (!ltN (G cc) (G a)) := by show (!ltN dk[cc]! dk[a]!) = _; rw [← HG.out, ← HG.out]
            have HPG := Lib.hid hPG
            clear hPG
            generalize wr.drewN m = wn at *
            cases hq : (decide (ii ≤ cc) && (!ltN (G cc) (G a))) with
            | true =>
              obtain ⟨q1, q2⟩ := Bool.and_eq_true_iff.1 hq
              replace q1 := of_decide_eq_true q1
              have HQ := Lib.hid q2
              clear hq q2
              have hc1 : 1 ≤ cc := by omega
              obtain ⟨c1, hc1'⟩ : ∃ c1, c1 = cc - 1 := ⟨_, rfl⟩
              have hci : (cc : Int) - 1 = (c1 : Int) := by omega
              have HC1 := Lib.hid hc1'
              clear hc1'
              go_wp2_with fail
              go_roundw
              case rel => exact ⟨c1, rfl, by have := HC1.out; omega, HR1.out, by rw [HC1.out, ← sd_go _ dk _ _ q1 hc1 (HPG.out.trans HQ.out)]; exact HS.out⟩
              case measure => simp [intOf] <;> (have := HC1.out; omega)
            | false =>
              have hend : cc = sc := by
                rw [← HS.out]
                refine (sd_halt _ dk _ _ ?_).symm
                rcases Bool.and_eq_false_iff.1 hq with h | h
                · exact Or.inl (by have := of_decide_eq_false h; omega)
                · exact Or.inr (HPG.out.trans h)
              have HEND := Lib.hid (hend ▸ HSC.out : cc = Go.Sort.scanDown (fun x => !ltN x dk[a]!) dk ii e1)
              clear hend HSC HS hq HPG HG hcl
              have HDN := Lib.hid HEND.out
              clear HEND
              by_cases hgt : cc < ii
              · have hgt' : (cc : Int) < (ii : Int) := by omega
                have hz := HF.out ii cc dk HDD.out HUP.out HDN.out hgt
                have HZ := Lib.hid hz
                clear hz hgt HF HM
                obtain ⟨G, hG, hcw, hfw⟩ := HR1.out.fam hdk
                have HG := Lib.hid hG
                clear hG
                obtain ⟨v2, hv2⟩ := set_some hcw cc a (by omega) (by omega) (.int .u64 (G a : Int))
                have lx : cc < n := by omega
                have ly : a < n := by omega
                go_upto_region 8 with fail
                go_region
                all_goals go_wp2_with fail
                have hR := HR1.out.swap cc a (by omega) (by omega) 1
                rw [← HG.out, ← HG.out] at hR
                have HR2 := Lib.hid hR
                clear hR
                go_ret2
                rw [HZ.out]
                exact ⟨rfl, HR2.out⟩
              · have hgt' : ¬ (cc : Int) < (ii : Int) := by omega
                obtain ⟨r, hr⟩ : ∃ r, Go.Sort.partLoop ltN a (ii + 1) (cc - 1) (swp dk ii cc) = r := ⟨_, rfl⟩
                have hz := HM.out ii cc dk HDD.out HUP.out HDN.out hgt r hr
                have HMR := Lib.hid hz
                have HRR := Lib.hid hr
                clear hz hr HF HM HDD HUP HDN
                obtain ⟨j1, hj1⟩ : ∃ j1, j1 = cc - 1 := ⟨_, rfl⟩
                have hj1' : (cc : Int) - 1 = (j1 : Int) := by omega
                have HJ1 := Lib.hid hj1
                clear hj1
                obtain ⟨G, hG, hcw, hfw⟩ := HR1.out.fam hdk
                have HG := Lib.hid hG
                clear hG
                obtain ⟨v2, hv2⟩ := set_some hcw ii cc (by omega) (by omega) (.int .u64 (G cc : Int))
                have lx : ii < n := by omega
                have ly : cc < n := by omega
                go_upto_region 10 with fail
                go_region
                all_goals go_wp2_with fail
                have hR := HR1.out.swap ii cc (by omega) (by omega) 1
                rw [← HG.out, ← HG.out] at hR
                have HR2 := Lib.hid hR
                clear hR
                obtain ⟨d1, hd1⟩ : ∃ d1, d1 = swp dk ii cc := ⟨_, rfl⟩
                have hs1 : d1.size = n := by rw [hd1, size_swp']; exact hdk
                rw [← hd1] at HR2 HRR
                clear hd1 hcw hfw hv2 HG HR1
                have hi1 : 1 ≤ ii + 1 := by omega
                have hij1 : ii + 1 ≤ j1 + 2 := by have := HJ1.out; omega
                have hjn1 : j1 < n := by have := HJ1.out; omega
                have HRR2 := Lib.hid (show Go.Sort.partLoop ltN a (ii + 1) j1 d1 = r by rw [HJ1.out]; exact HRR.out)
                clear HRR HJ1 hdk
                go_loopw [10, 11] (fun v9 v10 wr => ∃ (i j : Nat) (dk : Array Nat), v9 = .int .i64 (i : Int) ∧ v10 = .int .i64 (j : Int) ∧ 1 ≤ i ∧ i ≤ j + 2 ∧ j < n ∧ dk.size = n ∧ RowU w0 b o dk wr ∧ Go.Sort.partLoop ltN a i j dk = r) (fun v9 v10 _ => (intOf v10 - intOf v9 + 2).toNat)
                case atStart => exact ⟨ii + 1, j1, d1, by go_num, rfl, hi1, hij1, hjn1, hs1, HR2.out, HRR2.out⟩
                case round =>
                  clear HR2 HRR2
                  obtain ⟨i, j, dk, rfl, rfl, hi1, hij, hj, hdk, hR, hO⟩ := hrel
                  have HO := Lib.hid hO
                  have HR := Lib.hid hR
                  clear hO hR
                  go_wp2_with fail
                  obtain ⟨wo, hwo⟩ : ∃ wo : World, wo = wr := ⟨_, rfl⟩
                  obtain ⟨sc, hsc⟩ : ∃ sc, sc = Go.Sort.scanUp (fun x => ltN x dk[a]!) dk j i := ⟨_, rfl⟩
                  have HSC := Lib.hid hsc
                  clear hsc
                  go_loopw [10] (fun vi wr => ∃ cc : Nat, vi = .int .i64 (cc : Int) ∧ (i ≤ cc ∧ cc ≤ max i (j + 1)) ∧ RowU w0 b o dk wr ∧ Go.Sort.scanUp (fun x => ltN x dk[a]!) dk j cc = sc) (fun vi _ => (j + 1 - (intOf vi)).toNat)
                  case atStart => exact ⟨i, rfl, by omega, HR.out, HSC.out.symm⟩
                  case round =>
                    clear hwo HR
                    obtain ⟨cc, rfl, hcc, hR, hS⟩ := hrel
                    have HS := Lib.hid hS
                    clear hS
                    obtain ⟨G, hG, hcw, hfw⟩ := hR.fam hdk
                    have HG := Lib.hid hG
                    have HR := Lib.hid hR
                    clear hG hR
                    have hcl : cc ≤ j → cc < n := by omega
                    go_upto_region 13 with fail
                    go_cut [112] (fun t wx => t = .bool (decide (cc ≤ j) && ltN (G cc) (G a)) ∧ ∃ m, wx = wr.drewN m)
                    case first =>
                      by_cases hle : cc ≤ j
                      · have hle' : (cc : Int) ≤ (j : Int) := by omega
                        have hcl2 := hcl hle
                        have hd : decide (cc ≤ j) = true := decide_eq_true hle
                        clear hle
                        go_quiet (first | (go_at_call 42; refine Calls.quiet_of_same (kl _ _ _)))
                        go_wp2_with fail
                        go_meet
                        exact ⟨by rw [hd, Bool.true_and], nq, rfl⟩
                      · have hle' : ¬ (cc : Int) ≤ (j : Int) := by omega
                        have hd : decide (cc ≤ j) = false := decide_eq_false hle
                        clear hle
                        go_quiet (first | (go_at_call 42; refine Calls.quiet_of_same (kl _ _ _)))
                        go_wp2_with fail
                        go_meet
                        exact ⟨by rw [hd, Bool.false_and], nq, rfl⟩
                    case rest =>
                      obtain ⟨rfl, m, rfl⟩ := hcut
                      have hR1 := HR.out.drewN m
                      have HR1 := Lib.hid hR1
                      clear hR1 hcw hfw HR
                      have hPG : (fun x => ltN x dk[a]!) dk[cc]! = ltN (G cc) (G a) := by show ltN dk[cc]! dk[a]! = _; rw [← HG.out, ← HG.out]
                      have HPG := Lib.hid hPG
                      clear hPG
                      generalize wr.drewN m = wn at *
                      cases hq : (decide (cc ≤ j) && ltN (G cc) (G a)) with
                      | true =>
                        obtain ⟨q1, q2⟩ := Bool.and_eq_true_iff.1 hq
                        replace q1 := of_decide_eq_true q1
                        have HQ := Lib.hid q2
                        clear hq q2
                        go_wp2_with fail
                        go_roundw
                        case rel => exact ⟨cc + 1, by go_num, by omega, HR1.out, by rw [← su_go _ dk _ _ q1 (HPG.out.trans HQ.out)]; exact HS.out⟩
                        case measure => simp [intOf] <;> omega
                      | false =>
                        have hend : cc = sc := by
                          rw [← HS.out]
                          refine (su_halt _ dk _ _ ?_).symm
                          rcases Bool.and_eq_false_iff.1 hq with h | h
                          · exact Or.inl (by have := of_decide_eq_false h; omega)
                          · exact Or.inr (HPG.out.trans h)
                        have HEND := Lib.hid (hend ▸ HSC.out : cc = Go.Sort.scanUp (fun x => ltN x dk[a]!) dk j i)
                        clear hend HSC HS hq HPG HG hcl
                        obtain ⟨ii, hii⟩ : ∃ ii, ii = cc := ⟨_, rfl⟩
                        have HUP := Lib.hid (hii.trans HEND.out)
                        have hib : i ≤ ii := by omega
                        have hib2 : ii ≤ max i (j + 1) := by omega
                        obtain rfl := hii
                        clear HEND hcc
                        have HR := Lib.hid HR1.out
                        clear HR1
                        go_wp2_with fail
                        generalize wn = wr at *
                        obtain ⟨wo, hwo⟩ : ∃ wo : World, wo = wr := ⟨_, rfl⟩
                        obtain ⟨sc, hsc⟩ : ∃ sc, sc = Go.Sort.scanDown (fun x => !ltN x dk[a]!) dk ii j := ⟨_, rfl⟩
                        have HSC := Lib.hid hsc
                        clear hsc
                        go_loopw [11] (fun vi wr => ∃ cc : Nat, vi = .int .i64 (cc : Int) ∧ (cc ≤ j) ∧ RowU w0 b o dk wr ∧ Go.Sort.scanDown (fun x => !ltN x dk[a]!) dk ii cc = sc) (fun vi _ => (intOf vi).toNat)
                        case atStart => exact ⟨j, rfl, by omega, HR.out, HSC.out.symm⟩
                        case round =>
                          clear hwo HR
                          obtain ⟨cc, rfl, hcc, hR, hS⟩ := hrel
                          have HS := Lib.hid hS
                          clear hS
                          obtain ⟨G, hG, hcw, hfw⟩ := hR.fam hdk
                          have HG := Lib.hid hG
                          have HR := Lib.hid hR
                          clear hG hR
                          have hcl : cc < n := by omega
                          go_upto_region 15 with fail
                          go_cut [129] (fun t wx => t = .bool (decide (ii ≤ cc) && (!ltN (G cc) (G a))) ∧ ∃ m, wx = wr.drewN m)
                          case first =>
                            by_cases hle : ii ≤ cc
                            · have hle' : (ii : Int) ≤ (cc : Int) := by omega
                              have hd : decide (ii ≤ cc) = true := decide_eq_true hle
                              clear hle
                              go_quiet (first | (go_at_call 42; refine Calls.quiet_of_same (kl _ _ _)))
                              go_wp2_with fail
                              go_meet
                              exact ⟨by rw [hd, Bool.true_and], nq, rfl⟩
                            · have hle' : ¬ (ii : Int) ≤ (cc : Int) := by omega
                              have hd : decide (ii ≤ cc) = false := decide_eq_false hle
                              clear hle
                              go_quiet (first | (go_at_call 42; refine Calls.quiet_of_same (kl _ _ _)))
                              go_wp2_with fail
                              go_meet
                              exact ⟨by rw [hd, Bool.false_and], nq, rfl⟩
                          case rest =>
                            obtain ⟨rfl, m, rfl⟩ := hcut
                            have hR1 := HR.out.drewN m
                            have HR1 := Lib.hid hR1
                            clear hR1 hcw hfw HR
                            have hPG : (fun x => !ltN x dk[a]!) dk[cc]! = (!ltN (G cc) (G a)) := by show (!ltN dk[cc]! dk[a]!) = _; rw [← HG.out, ← HG.out]
                            have HPG := Lib.hid hPG
                            clear hPG
                            generalize wr.drewN m = wn at *
                            cases hq : (decide (ii ≤ cc) && (!ltN (G cc) (G a))) with
                            | true =>
                              obtain ⟨q1, q2⟩ := Bool.and_eq_true_iff.1 hq
                              replace q1 := of_decide_eq_true q1
                              have HQ := Lib.hid q2
                              clear hq q2
                              have hc1 : 1 ≤ cc := by omega
                              obtain ⟨c1, hc1'⟩ : ∃ c1, c1 = cc - 1 := ⟨_, rfl⟩
                              have hci : (cc : Int) - 1 = (c1 : Int) := by omega
                              have HC1 := Lib.hid hc1'
                              clear hc1'
                              go_wp2_with fail
                              go_roundw
                              case rel => exact ⟨c1, rfl, by have := HC1.out; omega, HR1.out, by rw [HC1.out, ← sd_go _ dk _ _ q1 hc1 (HPG.out.trans HQ.out)]; exact HS.out⟩
                              case measure => simp [intOf] <;> (have := HC1.out; omega)
                            | false =>
                              have hend : cc = sc := by
                                rw [← HS.out]
                                refine (sd_halt _ dk _ _ ?_).symm
                                rcases Bool.and_eq_false_iff.1 hq with h | h
                                · exact Or.inl (by have := of_decide_eq_false h; omega)
                                · exact Or.inr (HPG.out.trans h)
                              have HEND := Lib.hid (hend ▸ HSC.out : cc = Go.Sort.scanDown (fun x => !ltN x dk[a]!) dk ii j)
                              clear hend HSC HS hq HPG HG hcl
                              have HDN := Lib.hid HEND.out
                              clear HEND
                              by_cases hgt : cc < ii
                              · have hgt' : (cc : Int) < (ii : Int) := by omega
                                have hz : (cc, dk) = r := by rw [← HO.out, Go.Sort.partLoop_eq ltN a i j dk, ← HUP.out, ← HDN.out, if_pos hgt]
                                have HZ := Lib.hid hz
                                clear hz hgt
                                obtain ⟨G, hG, hcw, hfw⟩ := HR1.out.fam hdk
                                have HG := Lib.hid hG
                                clear hG
                                obtain ⟨v2, hv2⟩ := set_some hcw cc a (by omega) (by omega) (.int .u64 (G a : Int))
                                have lx : cc < n := by omega
                                have ly : a < n := by omega
                                go_upto_region 21 with fail
                                go_region
                                all_goals go_wp2_with fail
                                have hR := HR1.out.swap cc a (by omega) (by omega) 1
                                rw [← HG.out, ← HG.out] at hR
                                have HR2 := Lib.hid hR
                                clear hR
                                go_ret2
                                rw [HMR.out, ← HZ.out]
                                exact ⟨rfl, HR2.out⟩
                              · have hgt' : ¬ (cc : Int) < (ii : Int) := by omega
                                have hz : Go.Sort.partLoop ltN a (ii + 1) (cc - 1) (swp dk ii cc) = r := by rw [← HO.out, Go.Sort.partLoop_eq ltN a i j dk, ← HUP.out, ← HDN.out, if_neg hgt]
                                have HZ := Lib.hid hz
                                clear hz HDN HUP HO
                                obtain ⟨j1, hj1⟩ : ∃ j1, j1 = cc - 1 := ⟨_, rfl⟩
                                have hj1' : (cc : Int) - 1 = (j1 : Int) := by omega
                                have HJ1 := Lib.hid hj1
                                clear hj1
                                obtain ⟨G, hG, hcw, hfw⟩ := HR1.out.fam hdk
                                have HG := Lib.hid hG
                                clear hG
                                obtain ⟨v2, hv2⟩ := set_some hcw ii cc (by omega) (by omega) (.int .u64 (G cc : Int))
                                have lx : ii < n := by omega
                                have ly : cc < n := by omega
                                go_upto_region 18 with fail
                                go_region
                                all_goals go_wp2_with fail
                                have hR := HR1.out.swap ii cc (by omega) (by omega) 1
                                rw [← HG.out, ← HG.out] at hR
                                have HR2 := Lib.hid hR
                                clear hR
                                go_roundw
                                case rel => exact ⟨ii + 1, j1, _, by go_num, rfl, by omega, by have := HJ1.out; omega, by have := HJ1.out; omega, by rw [size_swp']; exact hdk, HR2.out, by rw [HJ1.out]; exact HZ.out⟩
                                case measure => simp [intOf] <;> (have := HJ1.out; omega)
end Go.Proofs.YtjpmigagoedbcaaDoor.Pm
