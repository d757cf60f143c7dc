/-
Sorting numbers of 64 bits: pdqsortOrdered.
-/
import Derived.Test.YtjpmigagoedbcaaDoorPrI
namespace Go.Proofs.YtjpmigagoedbcaaDoor.Pm
open Go Go.RowKit
open Go.Sort (swp PermIn SortedIn)

def PdqR (a e : Nat) (w0 : World) (b o : Nat) (d : Array Nat) (en : Ending) (w' : World) : Prop := en = .returned (.tuple #[]) ∧ ∃ d', PermIn a e d d' ∧ SortedIn ltN a e d' ∧ RowU w0 b o d' w'
/-- the loop's state: what is left to do, and that it is enough -/
def PdqI (n a e K b o : Nat) (w0 : World) (d : Array Nat) (v1 v2 v3 v8 v9 : Value) (wr : World) : Prop :=
  ∃ (a' e' L : Nat) (wb wp : Bool) (dk : Array Nat), v1 = .int .i64 (a' : Int) ∧ v2 = .int .i64 (e' : Int) ∧ v3 = .int .i64 (L : Int) ∧ v8 = .bool wb ∧ v9 = .bool wp ∧ a' ≤ e' ∧ e' ≤ n ∧ e' - a' ≤ K ∧ L ≤ 64 ∧ dk.size = n ∧ Go.Sort.Below ltN a' e' dk ∧ RowU w0 b o dk wr ∧
    ∀ R, PermIn a' e' dk R → SortedIn ltN a' e' R → PermIn a e d R ∧ SortedIn ltN a e R
def CutA (n a e b o : Nat) (w0 : World) (dk : Array Nat) (v3 : Value) (wx : World) : Prop := ∃ (L : Nat) (d1 : Array Nat), v3 = .int .i64 (L : Int) ∧ L ≤ 64 ∧ d1.size = n ∧ PermIn a e dk d1 ∧ RowU w0 b o d1 wx
def CutB (n a e b o : Nat) (w0 : World) (dk : Array Nat) (v11 v12 : Value) (wx : World) : Prop := ∃ (p : Nat) (h : Int) (d2 : Array Nat), v11 = .int .i64 (p : Int) ∧ v12 = .int .i64 h ∧ (a ≤ p ∧ p < e) ∧ d2.size = n ∧ PermIn a e dk d2 ∧ RowU w0 b o d2 wx
def CutC (n a e b o : Nat) (w0 : World) (dk : Array Nat) (wx : World) : Prop := ∃ d3 : Array Nat, d3.size = n ∧ PermIn a e dk d3 ∧ RowU w0 b o d3 wx
def SomeB (v : Value) : Prop := ∃ q : Bool, v = .bool q
set_option maxRecDepth 100000 in
set_option maxHeartbeats 16000000 in
theorem pdq_any (b o n c : Nat) (hsz : n < 1000000) (K : Nat) : ∀ (a e L : Nat) (d : Array Nat) (w0 w : World), RowU w0 b o d w → d.size = n → b < w0.heap.size → a ≤ e → e ≤ n → e - a ≤ K → Go.Sort.Below ltN a e d → L ≤ 64 →
    Calls Tryd.prog 34 #[.slice (some ⟨b, o, none⟩) n c, .int .i64 (a : Int), .int .i64 (e : Int), .int .i64 (L : Int)] w (PdqR a e w0 b o d) := by
  induction K using Nat.strongRecOn with
  | _ K ih =>
  intro a e L d w0 w h hn hb0 hae hen hK hB hL
  have kl := less_any
  have IH := Lib.hid ih
  have HH := Lib.hid h
  have HB := Lib.hid hB
  clear ih h hB
  unfold PdqR
  go_enter Tryd.func34, Tryd.ntmps34
  go_wp2_with fail
  go_loopw [1, 2, 3, 8, 9, 10, 11, 12, 13, 14, 15, 16, 17, 18] (fun v1 v2 v3 v8 v9 _ _ _ _ _ _ _ _ _ wr => PdqI n a e K b o w0 d v1 v2 v3 v8 v9 wr) (fun v1 v2 _ _ _ _ _ _ _ _ _ _ _ _ _ => (intOf v2 - intOf v1).toNat)
  case atStart => exact ⟨a, e, L, true, true, d, rfl, rfl, rfl, rfl, rfl, hae, hen, hK, hL, hn, HB.out, HH.out, fun R h1 h2 => ⟨h1, h2⟩⟩
  case round =>
    clear HH HB
    obtain ⟨a', e', L', wb, wp, dk, rfl, rfl, rfl, rfl, rfl, hae', hen', hK', hL', hdk, hB, hR, hC⟩ := hrel
    obtain ⟨l, hl⟩ : ∃ l, l = e' - a' := ⟨_, rfl⟩
    have hl' : (e' : Int) - (a' : Int) = (l : Int) := by omega
    have HC := Lib.hid hC
    have HB := Lib.hid hB
    have HR := Lib.hid hR
    have HL := Lib.hid hl
    clear hC hB hR hl
    by_cases h12 : l ≤ 12
    · have h12' : (l : Int) ≤ 12 := by omega
      go_wp2_with fail
      refine (insertion_any b o n c a' e' dk w0 _ HR.out hdk hae' hen' hsz).mono ?_
      rintro en w1 ⟨rfl, hR1⟩
      have HR1 := Lib.hid hR1
      clear hR1
      go_wp2_with fail
      refine bodyPost_ret (results_none rfl _ _ _) rfl ⟨rfl, ?_⟩
      obtain ⟨p1, p2⟩ := Go.Sort.insertionSort_holds (lt := ltN) ltN_order dk a' e' hae' (by omega)
      obtain ⟨p3, p4⟩ := HC.out _ p1 p2
      exact ⟨_, p3, p4, HR1.out⟩
    · have h12' : ¬ (l : Int) ≤ 12 := by omega
      by_cases hL0 : L' = 0
      · have hL0' : ((L' : Int) == 0) = true := beq_iff_eq.2 (by omega)
        clear hL0
        go_wp2_with fail
        refine (heap_any b o n c a' e' dk w0 _ HR.out hdk (by have := HL.out; omega) hen' hsz).mono ?_
        rintro en w1 ⟨rfl, hR1⟩
        have HR1 := Lib.hid hR1
        clear hR1
        go_wp2_with fail
        refine bodyPost_ret (results_none rfl _ _ _) rfl ⟨rfl, ?_⟩
        obtain ⟨p1, p2⟩ := Go.Sort.heapSort_holds (lt := ltN) ltN_order dk a' e' hae' (by omega)
        obtain ⟨p3, p4⟩ := HC.out _ p1 p2
        exact ⟨_, p3, p4, HR1.out⟩
      · have hL0' : ((L' : Int) == 0) = false := beq_eq_false_iff_ne.2 (by omega)
        have hae13 : a' + 13 ≤ e' := by have := HL.out; omega
        have hL1 : 1 ≤ L' := by omega
        clear hL0 h12
        go_upto_if 35 with fail
        go_cut [3] (fun v3 wx => CutA n a' e' b o w0 dk v3 wx)
        case first =>
          cases wb with
          | true =>
            go_wp2_with fail
            go_meet
            exact ⟨L', dk, rfl, hL', hdk, Go.Sort.permIn_refl dk a' e', HR.out⟩
          | false =>
            go_wp2_with fail
            refine (break_any b o n c a' e' dk w0 _ HR.out hdk hb0 (by omega) hen' hsz).mono ?_
            rintro en w1 ⟨rfl, d1, hP1, hR1⟩
            have HR1 := Lib.hid hR1
            have HP1 := Lib.hid hP1
            obtain ⟨L1, hL1e⟩ : ∃ L1, L1 = L' - 1 := ⟨_, rfl⟩
            have hL1' : (L' : Int) - 1 = (L1 : Int) := by omega
            have hL1l : L1 ≤ 64 := by omega
            clear hR1 hP1 hL1e
            go_wp2_with fail
            go_meet
            exact ⟨L1, d1, rfl, hL1l, by rw [HP1.out.1]; exact hdk, HP1.out, HR1.out⟩
        case rest =>
          obtain ⟨L1, d1, rfl, hL1l, hd1, hP1, hR1⟩ := hcut
          have HP1 := Lib.hid hP1
          have HR1 := Lib.hid hR1
          clear hP1 hR1 HR hL1
          go_wp2_with fail
          refine (pivot_any b o n c a' e' d1 w0 _ HR1.out hd1 hb0 (by omega) hen' hsz).mono ?_
          rintro en w2 ⟨p, hh, rfl, hp, h3, hR2⟩
          have HR2 := Lib.hid hR2
          clear hR2 HR1
          go_upto_if 50 with fail
          go_cut [11, 12] (fun v11 v12 wx => CutB n a' e' b o w0 d1 v11 v12 wx)
          case first =>
            by_cases hh2 : hh = 2
            · have hh2' : (hh == 2) = true := beq_iff_eq.2 hh2
              clear hh2 h3
              go_wp2_with fail
              refine (reverse_any b o n c a' e' d1 w0 _ HR2.out hd1 (by omega) hen' hsz).mono ?_
              rintro en w3 ⟨rfl, hR3⟩
              have HR3 := Lib.hid hR3
              obtain ⟨e1, he1⟩ : ∃ e1, e1 = e' - 1 := ⟨_, rfl⟩
              have he1' : (e' : Int) - 1 = (e1 : Int) := by omega
              obtain ⟨p1, hp1⟩ : ∃ p1, p1 = p - a' := ⟨_, rfl⟩
              have hp1' : (p : Int) - (a' : Int) = (p1 : Int) := by omega
              obtain ⟨p2, hp2⟩ : ∃ p2, p2 = e1 - p1 := ⟨_, rfl⟩
              have hp2' : (e1 : Int) - (p1 : Int) = (p2 : Int) := by omega
              have hp2l : a' ≤ p2 ∧ p2 < e' := by omega
              have hP3 := Go.Sort.reverseRange_holds (α := Nat) d1 a' e' hae' (by omega)
              have HP2L := Lib.hid hp2l
              have HP3 := Lib.hid hP3
              clear hR3 he1 hp1 hp2 hp2l hP3
              go_wp2_with fail
              go_meet
              exact ⟨p2, 1, _, rfl, rfl, HP2L.out, by rw [HP3.out.1]; exact hd1, HP3.out, HR3.out⟩
            · have hh2' : (hh == 2) = false := beq_eq_false_iff_ne.2 hh2
              clear hh2 h3
              go_wp2_with fail
              go_meet
              exact ⟨p, hh, d1, rfl, rfl, hp, hd1, Go.Sort.permIn_refl d1 a' e', HR2.out⟩
          case rest =>
            obtain ⟨p, hh, d2, rfl, rfl, hp, hd2, hP2, hR3⟩ := hcut
            have HP2 := Lib.hid hP2
            have HR3 := Lib.hid hR3
            clear hP2 hR3 HR2 h3
            go_upto_region 15 with fail
            go_cut [68] (fun t wx => SomeB t ∧ RowU w0 b o d2 wx)
            case first =>
              by_cases h1 : hh = 1
              · have h1' : (hh == 1) = true := beq_iff_eq.2 h1
                clear h1
                cases wb <;> cases wp <;> (go_wp2_with fail; go_meet; exact ⟨⟨_, rfl⟩, HR3.out⟩)
              · have h1' : (hh == 1) = false := beq_eq_false_iff_ne.2 h1
                clear h1
                cases wb <;> cases wp <;> (go_wp2_with fail; go_meet; exact ⟨⟨_, rfl⟩, HR3.out⟩)
            case rest =>
              obtain ⟨⟨q, rfl⟩, hR3'⟩ := hcut
              clear HR3
              have HR3 := Lib.hid hR3'
              clear hR3'
              have hB2 : Go.Sort.Below ltN a' e' d2 := (HB.out.perm (by omega) HP1.out).perm (by omega) HP2.out
              have HB2 := Lib.hid hB2
              clear hB2
              go_upto_if 68 with fail
              go_cut [] (fun wx => CutC n a' e' b o w0 d2 wx)
              case first =>
                cases q with
                | false =>
                  go_wp2_with fail
                  go_meet
                  exact ⟨d2, hd2, Go.Sort.permIn_refl d2 a' e', HR3.out⟩
                | true =>
                  go_wp2_with fail
                  refine (partial_any b o n c a' e' d2 w0 _ HR3.out hd2 (by omega) hen' hsz).mono ?_
                  rintro en w4 ⟨rfl, hR4⟩
                  obtain ⟨q1, q2⟩ := Go.Sort.partialInsertionSort_holds (lt := ltN) ltN_order d2 a' e' (by omega) (by omega) HB2.out
                  generalize Go.Sort.partialInsertionSort ltN d2 a' e' = r at *
                  obtain ⟨r1, r2⟩ := r
                  dsimp only at q1 q2 hR4
                  have HR4 := Lib.hid hR4
                  have HQ1 := Lib.hid q1
                  have HQ2 := Lib.hid q2
                  clear hR4 q1 q2
                  cases r2 with
                  | true =>
                    go_wp2_with fail
                    refine bodyPost_ret (results_none rfl _ _ _) rfl ⟨rfl, ?_⟩
                    obtain ⟨p3, p4⟩ := HC.out _ (Go.Sort.permIn_trans _ _ _ a' e' HP1.out (Go.Sort.permIn_trans _ _ _ a' e' HP2.out HQ1.out)) (by have h := HQ2.out; simpa using h)
                    exact ⟨_, p3, p4, HR4.out⟩
                  | false =>
                    go_wp2_with fail
                    go_meet
                    exact ⟨r1, by rw [HQ1.out.1]; exact hd2, HQ1.out, HR4.out⟩
              case rest =>
                obtain ⟨d3, hd3, hP3, hR4⟩ := hcut
                have hP123 := Go.Sort.permIn_trans _ _ _ a' e' HP1.out (Go.Sort.permIn_trans _ _ _ a' e' HP2.out hP3)
                have hB3 : Go.Sort.Below ltN a' e' d3 := HB2.out.perm (by omega) hP3
                have HP := Lib.hid hP123
                have HB3 := Lib.hid hB3
                have HR4 := Lib.hid hR4
                clear hP3 hP123 hB3 hR4 HR3 HP1 HP2 HB HB2
                obtain ⟨G, hG, hcw, hfw⟩ := HR4.out.fam hd3
                have HG := Lib.hid hG
                have lp : p < n := by omega
                have la : a' < n := by omega
                clear hG
                go_upto_region 17 with fail
                go_cut [87] (fun t wx => t = .bool (decide (0 < a') && !ltN (G (a' - 1)) (G p)) ∧ ∃ m, wx = wc.drewN m)
                case first =>
                  by_cases h0 : 0 < a'
                  · have h0' : (0 : Int) < (a' : Int) := by omega
                    have hd0 : decide (0 < a') = true := decide_eq_true h0
                    obtain ⟨a1, ha1⟩ : ∃ a1, a1 = a' - 1 := ⟨_, rfl⟩
                    have ha1' : (a' : Int) - 1 = (a1 : Int) := by omega
                    have ha1l : a1 < n := by omega
                    have HA1 := Lib.hid ha1
                    clear ha1 h0
                    go_quiet (first | (go_at_call 42; refine Calls.quiet_of_same (kl _ _ _)))
                    go_wp2_with fail
                    go_meet
                    exact ⟨by rw [hd0, Bool.true_and, ← HA1.out], nq, rfl⟩
                  · have h0' : ¬ (0 : Int) < (a' : Int) := by omega
                    have hd0 : decide (0 < a') = false := decide_eq_false h0
                    clear h0
                    go_quiet (first | (go_at_call 42; refine Calls.quiet_of_same (kl _ _ _)))
                    go_wp2_with fail
                    go_meet
                    exact ⟨by rw [hd0, Bool.false_and], nq, rfl⟩
                case rest =>
                  obtain ⟨rfl, m, rfl⟩ := hcut
                  have hR5 := HR4.out.drewN m
                  have HR5 := Lib.hid hR5
                  clear hR5 hcw hfw HR4
                  rw [HG.out, HG.out]
                  clear HG
                  generalize wc.drewN m = w5 at *
                  cases hq : (decide (0 < a') && !ltN d3[a' - 1]! d3[p]!) with
                  | true =>
                    obtain ⟨z1, z2⟩ := Bool.and_eq_true_iff.1 hq
                    have z1 := of_decide_eq_true z1
                    have z3 : ltN d3[a' - 1]! d3[p]! = false := by cases h : ltN d3[a' - 1]! d3[p]! <;> simp [h] at z2 ⊢
                    have hx : Go.Sort.partitionEqual ltN d3 a' e' p = ((Go.Sort.partitionEqual ltN d3 a' e' p).1, (Go.Sort.partitionEqual ltN d3 a' e' p).2) := rfl
                    have hre := Go.Sort.round_eq (lt := ltN) ltN_order (Go.Sort.partitionEqual_holds ltN) z1 hp.1 hp.2 (by omega) HB3.out z3 hx
                    have HRE := Lib.hid hre
                    clear hq z1 z2 z3 hre hx
                    go_wp2_with fail
                    refine (parteq_any b o n c a' e' p d3 w0 _ HR5.out hd3 hp.1 hp.2 hen' hsz).mono ?_
                    rintro en w6 ⟨rfl, hR6⟩
                    have HR6 := Lib.hid hR6
                    clear hR6 HR5
                    generalize (Go.Sort.partitionEqual ltN d3 a' e' p).1 = mid at *
                    generalize (Go.Sort.partitionEqual ltN d3 a' e' p).2 = d4 at *
                    go_wp2_with fail
                    go_roundw
                    case rel =>
                      obtain ⟨t1, t2, t3, t4, t5⟩ := HRE.out
                      exact ⟨mid, e', L1, wb, wp, d4, rfl, rfl, rfl, rfl, rfl, t2, hen', by omega, hL1l, by rw [t3]; exact hd3, t4, HR6.out, fun R h1 h2 => by
                        obtain ⟨k1, k2⟩ := t5 R h1 h2
                        exact HC.out R (Go.Sort.permIn_trans _ _ _ a' e' HP.out k1) k2⟩
                    case measure =>
                      have := HRE.out.1
                      have := HRE.out.2.1
                      simp [intOf] <;> omega
                  | false =>
                    clear hq
                    have hx : Go.Sort.partition ltN d3 a' e' p = ((Go.Sort.partition ltN d3 a' e' p).1, (Go.Sort.partition ltN d3 a' e' p).2.1, (Go.Sort.partition ltN d3 a' e' p).2.2) := rfl
                    have hrp := Go.Sort.round_part (lt := ltN) ltN_order (Go.Sort.partition_holds ltN) hp.1 hp.2 (by omega) HB3.out hx
                    have RP := Lib.hid hrp
                    clear hrp hx
                    go_wp2_with fail
                    refine (part_any b o n c a' e' p d3 w0 _ HR5.out hd3 hp.1 hp.2 hen' hsz).mono ?_
                    rintro en w6 ⟨rfl, hR6⟩
                    have HR6 := Lib.hid hR6
                    clear hR6 HR5
                    generalize (Go.Sort.partition ltN d3 a' e' p).1 = mid at *
                    generalize (Go.Sort.partition ltN d3 a' e' p).2.1 = ap at *
                    generalize (Go.Sort.partition ltN d3 a' e' p).2.2 = d4 at *
                    have r1 := RP.out.1
                    have r2 := RP.out.2.1
                    have hd4 : d4.size = n := by rw [RP.out.2.2.1]; exact hd3
                    obtain ⟨l1, hl1⟩ : ∃ l1, l1 = mid - a' := ⟨_, rfl⟩
                    have hl1' : (mid : Int) - (a' : Int) = (l1 : Int) := by omega
                    obtain ⟨l2, hl2⟩ : ∃ l2, l2 = e' - mid := ⟨_, rfl⟩
                    have hl2' : (e' : Int) - (mid : Int) = (l2 : Int) := by omega
                    obtain ⟨l8, hl8⟩ : ∃ l8, l8 = l / 8 := ⟨_, rfl⟩
                    have hl8' : (l : Int).tdiv 8 = (l8 : Int) := by rw [Int.tdiv_eq_ediv_of_nonneg (by omega)]; omega
                    have hl8'' : (l : Int) / 8 = (l8 : Int) := by omega
                    clear hl1 hl2 hl8
                    by_cases hlr : l1 < l2
                    · skip
                      have hlr' : (l1 : Int) < (l2 : Int) := by omega
                      go_wp2_with fail
                      refine (IH.out (mid - a') (by omega) a' mid L1 d4 w0 _ HR6.out hd4 hb0 r1 (by omega) (Nat.le_refl _) RP.out.2.2.2.1 hL1l).mono ?_
                      rintro en w7 ⟨rfl, L, hPL, hSL, hR7⟩
                      obtain ⟨u1, u2⟩ := RP.out.2.2.2.2.2.1 L hPL hSL
                      have hLs : L.size = n := by rw [hPL.1]; exact hd4
                      have HR7 := Lib.hid hR7
                      have HU1 := Lib.hid u1
                      have HU2 := Lib.hid u2
                      clear hR7 hPL hSL u1 u2 HR6
                      go_wp2_with fail
                      go_roundw
                      case rel => exact ⟨mid + 1, e', L1, _, ap, L, by go_num, rfl, rfl, rfl, rfl, by omega, hen', by omega, hL1l, hLs, HU1.out, HR7.out, fun R h1 h2 => by
                        obtain ⟨k1, k2⟩ := HU2.out R h1 h2
                        exact HC.out R (Go.Sort.permIn_trans _ _ _ a' e' HP.out k1) k2⟩
                      case measure => simp [intOf] <;> omega
                    · skip
                      have hlr' : ¬ (l1 : Int) < (l2 : Int) := by omega
                      obtain ⟨m1, hm1⟩ : ∃ m1, m1 = mid + 1 := ⟨_, rfl⟩
                      have hm1' : (mid : Int) + 1 = (m1 : Int) := by omega
                      have k3 := IH.out (e' - (mid + 1)) (by omega) (mid + 1) e' L1 d4 w0
                      rw [← hm1] at k3
                      have HM1 := Lib.hid hm1
                      have hm1e : m1 ≤ e' := by omega
                      have hBm : Go.Sort.Below ltN m1 e' d4 := by rw [hm1]; exact RP.out.2.2.2.2.1
                      have HBM := Lib.hid hBm
                      clear hm1 hBm
                      go_wp2_with fail
                      refine (k3 _ HR6.out hd4 hb0 hm1e hen' (Nat.le_refl _) HBM.out hL1l).mono ?_
                      rintro en w7 ⟨rfl, L, hPL, hSL, hR7⟩
                      obtain ⟨u1, u2⟩ := RP.out.2.2.2.2.2.2 L (HM1.out ▸ hPL) (HM1.out ▸ hSL)
                      have hLs : L.size = n := by rw [hPL.1]; exact hd4
                      have HR7 := Lib.hid hR7
                      have HU1 := Lib.hid u1
                      have HU2 := Lib.hid u2
                      clear hR7 hPL hSL u1 u2 HR6 k3
                      go_wp2_with fail
                      go_roundw
                      case rel => exact ⟨a', mid, L1, _, ap, L, rfl, rfl, rfl, rfl, rfl, r1, by omega, by omega, hL1l, hLs, HU1.out, HR7.out, fun R h1 h2 => by
                        obtain ⟨k1, k2⟩ := HU2.out R h1 h2
                        exact HC.out R (Go.Sort.permIn_trans _ _ _ a' e' HP.out k1) k2⟩
                      case measure => simp [intOf] <;> omega
end Go.Proofs.YtjpmigagoedbcaaDoor.Pm
