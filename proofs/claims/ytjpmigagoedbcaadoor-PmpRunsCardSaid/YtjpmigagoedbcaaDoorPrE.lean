/-
Sorting numbers of 64 bits: partitionEqualOrdered.
-/
import Derived.Test.YtjpmigagoedbcaaDoorPrD
namespace Go.Proofs.YtjpmigagoedbcaaDoor.Pm
open Go Go.RowKit
open Go.Sort (swp)

theorem su_go (p : Nat → Bool) (d : Array Nat) (j i : Nat) (h : i ≤ j) (hp : p d[i]! = true) : Go.Sort.scanUp p d j i = Go.Sort.scanUp p d j (i + 1) := by
  rw [Go.Sort.scanUp.eq_1 p d j i, hp, decide_eq_true h]; rfl
theorem su_halt (p : Nat → Bool) (d : Array Nat) (j i : Nat) (h : j < i ∨ p d[i]! = false) : Go.Sort.scanUp p d j i = i := by
  rw [Go.Sort.scanUp]
  rcases h with h | h
  · rw [decide_eq_false (show ¬ i ≤ j by omega), Bool.false_and]; rfl
  · rw [h, Bool.and_false]; rfl
theorem sd_go (p : Nat → Bool) (d : Array Nat) (i j : Nat) (h : i ≤ j) (h1 : 1 ≤ j) (hp : p d[j]! = true) : Go.Sort.scanDown p d i j = Go.Sort.scanDown p d i (j - 1) := by
  obtain ⟨k, rfl⟩ : ∃ k, j = k + 1 := ⟨j - 1, by omega⟩
  rw [Go.Sort.scanDown, hp, decide_eq_true h]; rfl
theorem sd_halt (p : Nat → Bool) (d : Array Nat) (i j : Nat) (h : j < i ∨ p d[j]! = false) : Go.Sort.scanDown p d i j = j := by
  cases j with
  | zero => rfl
  | succ k =>
    rw [Go.Sort.scanDown]
    rcases h with h | h
    · rw [decide_eq_false (show ¬ i ≤ k + 1 by omega), Bool.false_and]; rfl
    · rw [h, Bool.and_false]; rfl
set_option maxRecDepth 100000 in
set_option maxHeartbeats 8000000 in
theorem parteq_any (b o n c a e p : Nat) (d : Array Nat) (w0 w : World) (h : RowU w0 b o d w) (hn : d.size = n) (hap : a ≤ p) (hpe : p < e) (hen : e ≤ n) (hsz : n < 1000000) :
    Calls Tryd.prog 43 #[.slice (some ⟨b, o, none⟩) n c, .int .i64 (a : Int), .int .i64 (e : Int), .int .i64 (p : Int)] w fun en w' => en = .returned (.int .i64 ((Go.Sort.partitionEqual ltN d a e p).1 : Int)) ∧ RowU w0 b o (Go.Sort.partitionEqual ltN d a e p).2 w' := by
  have kl := less_any
  obtain ⟨e1, he1⟩ : ∃ e1, e1 = e - 1 := ⟨_, rfl⟩
  have he1' : (e : Int) - 1 = (e1 : Int) := by omega
  have hel : e1 < n := by omega
  have hae : a < e1 + 1 := by omega
  have hdef : Go.Sort.partitionEqual ltN d a e p = Go.Sort.partEqLoop ltN a (a + 1) e1 (swp d a p) := by rw [he1]; rfl
  rw [hdef]
  generalize hres : Go.Sort.partEqLoop ltN a (a + 1) e1 (swp d a p) = res
  have HRES := Lib.hid hres
  have HR := Lib.hid h
  obtain ⟨G, hG, hcw, hfw⟩ := h.fam hn
  have HG := Lib.hid hG
  have la : a < n := by omega
  have lp : p < n := by omega
  obtain ⟨v2, hv2⟩ := set_some hcw a p la lp (.int .u64 (G p : Int))
  clear hres he1 hdef h hG
  go_enter Tryd.func43, Tryd.ntmps43
  go_upto_region 1 with fail
  go_region
  all_goals go_wp2_with fail
  have hR := HR.out.swap a p (by omega) (by omega) 1
  rw [← HG.out, ← HG.out] at hR
  have HR0 := Lib.hid hR
  have hs : (swp d a p).size = n := by rw [size_swp']; exact hn
  clear hR hcw hfw hv2 HG HR
  generalize hdd : swp d a p = d1 at *
  clear hdd
  go_loopw [9, 10] (fun v9 v10 wr => ∃ (i j : Nat) (dk : Array Nat), v9 = .int .i64 (i : Int) ∧ v10 = .int .i64 (j : Int) ∧ 1 ≤ i ∧ i ≤ j + 2 ∧ j < n ∧ dk.size = n ∧ RowU w0 b o dk wr ∧ Go.Sort.partEqLoop ltN a i j dk = res) (fun v9 v10 _ => (intOf v10 - intOf v9 + 2).toNat)
  case atStart => exact ⟨a + 1, e1, d1, by go_num, rfl, by omega, by omega, hel, hs, HR0.out, HRES.out⟩
  case round =>
    clear HR0 HRES
    obtain ⟨i, j, dk, rfl, rfl, hi1, hij, hj, hdk, hR, hO⟩ := hrel
    have HO := Lib.hid hO
    have HR := Lib.hid hR
    clear hO hR
    go_wp2_with fail
    obtain ⟨wo, hwo⟩ : ∃ wo : World, wo = wr := ⟨_, rfl⟩
    obtain ⟨sc, hsc⟩ : ∃ sc, sc = Go.Sort.scanUp (fun x => !ltN dk[a]! x) dk j i := ⟨_, rfl⟩
    have HSC := Lib.hid hsc
    clear hsc
    go_loopw [9] (fun vi wr => ∃ cc : Nat, vi = .int .i64 (cc : Int) ∧ (i ≤ cc ∧ cc ≤ max i (j + 1)) ∧ RowU w0 b o dk wr ∧ Go.Sort.scanUp (fun x => !ltN dk[a]! x) dk j cc = sc) (fun vi _ => (j + 1 - (intOf vi)).toNat)
    case atStart => exact ⟨i, rfl, by omega, HR.out, HSC.out.symm⟩
    case round =>
      clear hwo HR
      obtain ⟨cc, rfl, hcc, hR, hS⟩ := hrel
      have HS := Lib.hid hS
      clear hS
      obtain ⟨G, hG, hcw, hfw⟩ := hR.fam hdk
      have HG := Lib.hid hG
      have HR := Lib.hid hR
      clear hG hR
      have hcl : cc ≤ j → cc < n := by omega
      go_upto_region 3 with fail
      go_cut [43] (fun t wx => t = .bool (decide (cc ≤ j) && (!ltN (G a) (G cc))) ∧ ∃ m, wx = wr.drewN m)
      case first =>
        by_cases hle : cc ≤ j
        · have hle' : (cc : Int) ≤ (j : Int) := by omega
          have hcl2 := hcl hle
          have hd : decide (cc ≤ j) = true := decide_eq_true hle
          clear hle
          go_quiet (first | (go_at_call 42; refine Calls.quiet_of_same (kl _ _ _)))
          go_wp2_with fail
          go_meet
          exact ⟨by rw [hd, Bool.true_and], nq, rfl⟩
        · have hle' : ¬ (cc : Int) ≤ (j : Int) := by omega
          have hd : decide (cc ≤ j) = false := decide_eq_false hle
          clear hle
          go_quiet (first | (go_at_call 42; refine Calls.quiet_of_same (kl _ _ _)))
          go_wp2_with fail
          go_meet
          exact ⟨by rw [hd, Bool.false_and], nq, rfl⟩
      case rest =>
        obtain ⟨rfl, m, rfl⟩ := hcut
        have hR1 := HR.out.drewN m
        have HR1 := Lib.hid hR1
        clear hR1 hcw hfw HR
        have hPG : (fun x => !ltN dk[a]! x) dk[cc]! = (!ltN (G a) (G cc)) := by show (!ltN dk[a]! dk[cc]!) = _; rw [← HG.out, ← HG.out]
        have HPG := Lib.hid hPG
        clear hPG
        generalize wr.drewN m = wn at *
        cases hq : (decide (cc ≤ j) && (!ltN (G a) (G cc))) with
        | true =>
          obtain ⟨q1, q2⟩ := Bool.and_eq_true_iff.1 hq
          replace q1 := of_decide_eq_true q1
          have HQ := Lib.hid q2
          clear hq q2
          go_wp2_with fail
          go_roundw
          case rel => exact ⟨cc + 1, by go_num, by omega, HR1.out, by rw [← su_go _ dk _ _ q1 (HPG.out.trans HQ.out)]; exact HS.out⟩
          case measure => simp [intOf] <;> omega
        | false =>
          have hend : cc = sc := by
            rw [← HS.out]
            refine (su_halt _ dk _ _ ?_).symm
            rcases Bool.and_eq_false_iff.1 hq with h | h
            · exact Or.inl (by have := of_decide_eq_false h; omega)
            · exact Or.inr (HPG.out.trans h)
          have HEND := Lib.hid (hend ▸ HSC.out : cc = Go.Sort.scanUp (fun x => !ltN dk[a]! x) dk j i)
          clear hend HSC HS hq HPG HG hcl
          obtain ⟨ii, hii⟩ : ∃ ii, ii = cc := ⟨_, rfl⟩
          have HUP := Lib.hid (hii.trans HEND.out)
          have hib : i ≤ ii := by omega
          have hib2 : ii ≤ max i (j + 1) := by omega
          obtain rfl := hii
          clear HEND hcc
          have HR := Lib.hid HR1.out
          clear HR1
          go_wp2_with fail
          generalize wn = wr at *
          obtain ⟨wo, hwo⟩ : ∃ wo : World, wo = wr := ⟨_, rfl⟩
          obtain ⟨sc, hsc⟩ : ∃ sc, sc = Go.Sort.scanDown (fun x => ltN dk[a]! x) dk ii j := ⟨_, rfl⟩
          have HSC := Lib.hid hsc
          clear hsc
          go_loopw [10] (fun vi wr => ∃ cc : Nat, vi = .int .i64 (cc : Int) ∧ (cc ≤ j) ∧ RowU w0 b o dk wr ∧ Go.Sort.scanDown (fun x => ltN dk[a]! x) dk ii cc = sc) (fun vi _ => (intOf vi).toNat)
          case atStart => exact ⟨j, rfl, by omega, HR.out, HSC.out.symm⟩
          case round =>
            clear hwo HR
            obtain ⟨cc, rfl, hcc, hR, hS⟩ := hrel
            have HS := Lib.hid hS
            clear hS
            obtain ⟨G, hG, hcw, hfw⟩ := hR.fam hdk
            have HG := Lib.hid hG
            have HR := Lib.hid hR
            clear hG hR
            have hcl : cc < n := by omega
            go_upto_region 5 with fail
            go_cut [59] (fun t wx => t = .bool (decide (ii ≤ cc) && ltN (G a) (G cc)) ∧ ∃ m, wx = wr.drewN m)
            case first =>
              by_cases hle : ii ≤ cc
              · have hle' : (ii : Int) ≤ (cc : Int) := by omega
                have hd : decide (ii ≤ cc) = true := decide_eq_true hle
                clear hle
                go_quiet (first | (go_at_call 42; refine Calls.quiet_of_same (kl _ _ _)))
                go_wp2_with fail
                go_meet
                exact ⟨by rw [hd, Bool.true_and], nq, rfl⟩
              · have hle' : ¬ (ii : Int) ≤ (cc : Int) := by omega
                have hd : decide (ii ≤ cc) = false := decide_eq_false hle
                clear hle
                go_quiet (first | (go_at_call 42; refine Calls.quiet_of_same (kl _ _ _)))
                go_wp2_with fail
                go_meet
                exact ⟨by rw [hd, Bool.false_and], nq, rfl⟩
            case rest =>
              obtain ⟨rfl, m, rfl⟩ := hcut
              have hR1 := HR.out.drewN m
              have HR1 := Lib.hid hR1
              clear hR1 hcw hfw HR
              have hPG : (fun x => ltN dk[a]! x) dk[cc]! = ltN (G a) (G cc) := by show ltN dk[a]! dk[cc]! = _; rw [← HG.out, ← HG.out]
              have HPG := Lib.hid hPG
              clear hPG
              generalize wr.drewN m = wn at *
              cases hq : (decide (ii ≤ cc) && ltN (G a) (G cc)) with
              | true =>
                obtain ⟨q1, q2⟩ := Bool.and_eq_true_iff.1 hq
                replace q1 := of_decide_eq_true q1
                have HQ := Lib.hid q2
                clear hq q2
                have hc1 : 1 ≤ cc := by omega
                obtain ⟨c1, hc1'⟩ : ∃ c1, c1 = cc - 1 := ⟨_, rfl⟩
                have hci : (cc : Int) - 1 = (c1 : Int) := by omega
                have HC1 := Lib.hid hc1'
                clear hc1'
                go_wp2_with fail
                go_roundw
                case rel => exact ⟨c1, rfl, by have := HC1.out; omega, HR1.out, by rw [HC1.out, ← sd_go _ dk _ _ q1 hc1 (HPG.out.trans HQ.out)]; exact HS.out⟩
                case measure => simp [intOf] <;> (have := HC1.out; omega)
              | false =>
                have hend : cc = sc := by
                  rw [← HS.out]
                  refine (sd_halt _ dk _ _ ?_).symm
                  rcases Bool.and_eq_false_iff.1 hq with h | h
                  · exact Or.inl (by have := of_decide_eq_false h; omega)
                  · exact Or.inr (HPG.out.trans h)
                have HEND := Lib.hid (hend ▸ HSC.out : cc = Go.Sort.scanDown (fun x => ltN dk[a]! x) dk ii j)
                clear hend HSC HS hq HPG HG hcl
                have HDN := Lib.hid HEND.out
                clear HEND
                by_cases hgt : cc < ii
                · have hgt' : (cc : Int) < (ii : Int) := by omega
                  have hz : (ii, dk) = res := by rw [← HO.out, Go.Sort.partEqLoop_eq ltN a i j dk, ← HUP.out, ← HDN.out, if_pos hgt]
                  have HZ := Lib.hid hz
                  clear hz hgt
                  go_wp2_with fail
                  go_ret
                  rw [← HZ.out]
                  exact ⟨rfl, HR1.out⟩
                · have hgt' : ¬ (cc : Int) < (ii : Int) := by omega
                  have hz : Go.Sort.partEqLoop ltN a (ii + 1) (cc - 1) (swp dk ii cc) = res := by rw [← HO.out, Go.Sort.partEqLoop_eq ltN a i j dk, ← HUP.out, ← HDN.out, if_neg hgt]
                  have HZ := Lib.hid hz
                  clear hz HDN HUP HO
                  have li : ii < n := by omega
                  have lj : cc < n := by omega
                  obtain ⟨j1, hj1⟩ : ∃ j1, j1 = cc - 1 := ⟨_, rfl⟩
                  have hj1' : (cc : Int) - 1 = (j1 : Int) := by omega
                  have HJ1 := Lib.hid hj1
                  obtain ⟨G, hG, hcw, hfw⟩ := HR1.out.fam hdk
                  have HG := Lib.hid hG
                  clear hG hj1
                  obtain ⟨v2, hv2⟩ := set_some hcw ii cc li lj (.int .u64 (G cc : Int))
                  go_upto_region 8 with fail
                  go_region
                  all_goals go_wp2_with fail
                  have hR := HR1.out.swap ii cc (by omega) (by omega) 1
                  rw [← HG.out, ← HG.out] at hR
                  have HR2 := Lib.hid hR
                  clear hR
                  go_roundw
                  case rel => exact ⟨ii + 1, j1, _, by go_num, rfl, by omega, by have := HJ1.out; omega, by have := HJ1.out; omega, by rw [size_swp']; exact hdk, HR2.out, by rw [HJ1.out]; exact HZ.out⟩
                  case measure => simp [intOf] <;> (have := HJ1.out; omega)
end Go.Proofs.YtjpmigagoedbcaaDoor.Pm
