/-
Layer 8, package elf: what Segments answers, as plain data.
Layer 8, package elf: ofKind, isLoadable, areLoadable, isEntry.
Layer 8, package elf: isLoadable.
Layer 8, package elf: areLoadable, isEntry.
Layer 8, package elf: segmentOf.
-/
import Derived.Test.YtoplknankmomcaaEnA
import Derived.Test.YtoplknankmomcaaElD
import Derived.BigQuiet
namespace Go.Proofs.Ytoplknankmomcaa
open Go Go.RowKit

/-- the segments' side -/
def loadsN (hs : List Hd) : List Hd := hs.filter fun h => decide (h.k = 1)
def dynsN (hs : List Hd) : List Hd := hs.filter fun h => decide (h.k = 2)
def ldB (h : Hd) : Bool := decide (h.d % 4 = 0 ∧ h.m % 4 = 0 ∧ h.m ≠ 0 ∧ h.d + h.m ≤ 4294967292 ∧ h.r ≠ 0 ∧ h.r < 6)
def ldGo : List Hd → Nat → Bool
  | [], _ => true
  | h :: hs, e => ldB h && decide (e ≤ h.d) && ldGo hs (h.d + h.m)
def sgOf (bs : List UInt8) (h : Hd) : Sg := ⟨h.d, h.m, h.r, (bs.drop h.a).take h.f⟩
theorem segX_ldB (h : Hd) (ns e : Nat) : segX h ns e = !(ldB h && decide (e ≤ h.d) && decide (ns ≠ 4)) := by
  unfold segX ldB
  rw [← Bool.decide_and, ← Bool.decide_and, ← decide_not, Bool.eq_iff_iff, decide_eq_true_iff, decide_eq_true_iff]
  omega
theorem segGo_eq (bs : List UInt8) (en : Nat) : ∀ (hs : List Hd) (ss : List Sg) (ds : List Hd) (e : Nat) (a : Bool), (∀ h ∈ hs, h.k = 1 ∨ h.k = 2) → ss.length ≤ 4 →
    segGo bs en hs ss ds e a = if (decide (ss.length + (loadsN hs).length ≤ 4) && ldGo (loadsN hs) e) = true then some (ss ++ (loadsN hs).map (sgOf bs), ds ++ dynsN hs, a || (loadsN hs).any (entB en)) else none
  | [], ss, ds, e, a, _, hl => by
    show some (ss, ds, a) = _
    rw [if_pos (by show (decide (ss.length + 0 ≤ 4) && true) = true; rw [decide_eq_true (by omega)]; rfl)]
    simp [loadsN, dynsN]
  | h :: hs, ss, ds, e, a, hk, hl => by
    have hk' : ∀ h ∈ hs, h.k = 1 ∨ h.k = 2 := fun x hx => hk x (List.mem_cons_of_mem _ hx)
    rcases hk h (List.mem_cons_self ..) with h1 | h2
    · have e1 : loadsN (h :: hs) = h :: loadsN hs := by simp [loadsN, h1]
      have e2 : dynsN (h :: hs) = dynsN hs := by simp [dynsN, h1]
      rw [e1, e2]
      have hx := segX_ldB h ss.length e
      by_cases hb : segX h ss.length e = true
      · rw [segGo_bad (by omega) hb, if_neg]
        rw [hb] at hx
        have h3 : (ldB h && decide (e ≤ h.d) && decide (ss.length ≠ 4)) = false := by
          cases hc : (ldB h && decide (e ≤ h.d) && decide (ss.length ≠ 4))
          · rfl
          · rw [hc] at hx; cases hx
        intro h4
        rw [Bool.and_eq_true] at h4
        obtain ⟨h5, h6⟩ := h4
        have h5 := of_decide_eq_true h5
        rw [List.length_cons] at h5
        rw [show ldGo (h :: loadsN hs) e = (ldB h && decide (e ≤ h.d) && ldGo (loadsN hs) (h.d + h.m)) from rfl, Bool.and_eq_true] at h6
        rw [h6.1, decide_eq_true (show ss.length ≠ 4 by omega)] at h3
        cases h3
      · have hb : segX h ss.length e = false := by cases hc : segX h ss.length e; rfl; exact absurd hc hb
        rw [hb] at hx
        have h3 : (ldB h && decide (e ≤ h.d) && decide (ss.length ≠ 4)) = true := by
          cases hc : (ldB h && decide (e ≤ h.d) && decide (ss.length ≠ 4))
          · rw [hc] at hx; cases hx
          · rfl
        rw [Bool.and_eq_true] at h3
        have h4 := of_decide_eq_true h3.2
        rw [segGo_seg (by omega) hb, segGo_eq bs en hs _ _ _ _ hk' (by rw [List.length_append]; show ss.length + 1 ≤ 4; omega)]
        rw [show ldGo (h :: loadsN hs) e = (ldB h && decide (e ≤ h.d) && ldGo (loadsN hs) (h.d + h.m)) from rfl, h3.1, Bool.true_and, List.length_append, List.length_cons, List.length_cons, List.length_nil, show ss.length + (0 + 1) + (loadsN hs).length = ss.length + ((loadsN hs).length + 1) by omega]
        simp [sgOf, Bool.or_assoc]
    · have e1 : loadsN (h :: hs) = loadsN hs := by simp [loadsN, h2]
      have e2 : dynsN (h :: hs) = h :: dynsN hs := by simp [dynsN, h2]
      rw [e1, e2, segGo_dyn h2, segGo_eq bs en hs _ _ _ _ hk' hl]
      simp
/-- the program can be loaded -/
def canB (en : Nat) (hs : List Hd) : Bool := decide ((loadsN hs).length ≤ 4) && ldGo (loadsN hs) 0 && (loadsN hs).any (entB en) && decide ((dynsN hs).length ≤ 1)
theorem segsN_eq {bs : List UInt8} (h0 : (headsN bs).2.2 = 0) : segsN bs = if canB (headsN bs).1 (headsN bs).2.1 = true then ((headsN bs).1, (loadsN (headsN bs).2.1).map (sgOf bs), dynsN (headsN bs).2.1, 0) else (0, [], [], 9) := by
  have hk : ∀ h ∈ (headsN bs).2.1, h.k = 1 ∨ h.k = 2 := fun h hh => (heads_in hh).1
  have e := segGo_eq bs (headsN bs).1 (headsN bs).2.1 [] [] 0 false hk (by decide)
  unfold segsN
  rw [if_pos h0, e]
  generalize (headsN bs).1 = en
  generalize (headsN bs).2.1 = hs
  unfold canB
  rw [show ([] : List Sg).length + (loadsN hs).length = (loadsN hs).length from Nat.zero_add _]
  cases hA : (decide ((loadsN hs).length ≤ 4) && ldGo (loadsN hs) 0) with
  | false => simp [segEnd]
  | true =>
    rw [if_pos rfl]
    unfold segEnd
    dsimp only
    rw [List.nil_append, List.nil_append, Bool.false_or, Bool.true_and]
    cases hB : (loadsN hs).any (entB en) with
    | false => simp
    | true =>
      by_cases hC : 1 < (dynsN hs).length
      · rw [if_pos (.inl hC), decide_eq_false (by omega)]; rfl
      · rw [if_neg (by simp; omega), decide_eq_true (by omega)]; rfl
end Go.Proofs.Ytoplknankmomcaa
namespace Go.Proofs.Ytoplknankmomcaa
open Go Go.RowKit

theorem atE' (b o n c j : Nat) (hj : (j : Int) < (n : Int)) (w : World) : (Instr.indexAt 30 (.slice (some ⟨b, o, none⟩) n c) (.int .i64 (j : Int))).run Try.prog w = .ok (.pointer (some ⟨b, o + j * 6, none⟩)) w := by
  have h2 := Addr.add_mid b o (j * 6)
  go_simp
theorem take_more {α : Type} (l : List α) (d : α) (i : Nat) (h : i < l.length) : l.take (i + 1) = l.take i ++ [l.getD i d] := by
  rw [List.take_add_one, List.getElem?_eq_getElem h]
  simp [List.getD_eq_getElem?_getD, h]
/-- the headers of kind k -/
def kdN (k : Nat) (hs : List Hd) : List Hd := hs.filter fun h => decide (h.k = k)
structure OfO (w0 : World) (k : Nat) (hs : List Hd) (v : Value) (i : Nat) (w : World) : Prop where
  own : w.ownsRow w0.heap.size 51 6 v (kdN k (hs.take i)).length (cellsL 6 hdE (kdN k (hs.take i)))
  bel : Below w0.heap.size w0 w
set_option maxRecDepth 100000 in
set_option maxHeartbeats 2000000 in
theorem eof_any (k : Nat) (_hk : k < 3) (hs : List Hd) (s : Sl) (w : World) (hH : SlH w s hs) (hm : hs.length ≤ 5) :
    Calls Try.prog 16 #[s.v, .int .i64 (k : Int)] w fun e w' => (∃ t, e = .returned (Sl.v t) ∧ SlH w' t (kdN k hs)) ∧ Below w.heap.size w w' := by
  obtain ⟨Ah, m, ch, rfl⟩ := s.out
  have hl : hs.length = m := hH.1
  have HL := Lib.hid hl
  have HM := Lib.hid hm
  have HH := Lib.hid hH.2
  have hm5 : m ≤ 5 := by omega
  clear hl hm hH
  rw [show Sl.v ⟨Ah, m, ch⟩ = .slice Ah m ch from rfl]
  go_enter Try.func16, Try.ntmps16
  go_wp2_with fail
  go_loopw [5, 10] (fun va ct wr => ∃ i : Nat, i ≤ m ∧ ct = .int .i64 (i : Int) ∧ OfO w k hs va i wr) (fun _ ct _ => (m - (intOf ct)).toNat)
  case atStart => exact ⟨0, Nat.zero_le _, rfl, ⟨World.ownsRow_nil _ _ _ _, Below.refl _ _⟩⟩
  case round =>
    obtain ⟨i, hi, rfl, hO⟩ := hrel
    by_cases hlt : i < m
    · have di : (i : Int) < (m : Int) := by omega
      have hJ := HH.out.below hO.bel
      obtain ⟨b, o, hA2, hbl, _⟩ := HH.out.2 (by show 0 < m; omega)
      replace hA2 : Ah = some ⟨b, o, none⟩ := hA2
      subst hA2
      have hr := hJ.range rfl (j := i) hlt
      have ha1 := fun w => atE' b o m ch i di w
      have htk := take_more hs hd0 i (by rw [HL.out]; exact hlt)
      change wr.rangeAt b (o + i * 6) ((List.range 6).map (hdE (hs.getD i hd0))) at hr
      generalize hs.getD i hd0 = hd at *
      have HTK := Lib.hid htk
      have HO := Lib.hid hO
      have hnl : (kdN k (hs.take i)).length ≤ 5 := by
        have h1 : (kdN k (hs.take i)).length ≤ (hs.take i).length := List.length_filter_le _ _
        rw [List.length_take] at h1
        have := HM.out
        omega
      have HNL := Lib.hid hnl
      clear htk hO hJ hbl hnl
      by_cases hk2 : hd.k = k
      · have hkb : ((hd.k : Int) == (k : Int)) = true := by simp [hk2]
        have hkd : kdN k (hs.take (i + 1)) = kdN k (hs.take i) ++ [hd] := by rw [HTK.out]; simp [kdN, hk2]
        have HKD := Lib.hid hkd
        clear hk2 hkd
        go_wp2_with (first
          | (refine wp_load_he rfl _ rfl b (o + i * 6) rfl _ hr ?_)
          | (refine wp_fresh 51 6 _ _ _ _ rfl rfl rfl rfl zeroHE infoHE6 (by omega) (hdE_one _) rfl rfl ?_
             intro w1 hG hb1 hz1
             have hc0 : w1.cell? ⟨_, 0, none⟩ = some (.int .i64 (hd.k : Int)) := hG.cellTab 0 (by omega)
             have hown1 := own_after HO.out.own hb1
             have hb01 := below_trans HO.out.bel (hb1.mono (Nat.le_refl _)))
          | (refine wpList_load_has 51 _ rfl _ rfl rfl 51 _ hG _ Try.underlying51 rfl (by rw [tab_size]; exact infoHE6) ?_)
          | (refine wp_build_el Try.underlying30 infoHE (by decide) (by decide) rfl _ rfl hd rfl ?_
             intro w6 hw6
             have hb6 : Below w1.heap.size w1 w6 := by subst hw6; exact (Below.refl _ _).alloc (Nat.le_refl _) _
             have hH6 : Has w6 w1.heap.size 51 (tab 6 (hdE hd)) := by subst hw6; exact Has.new _ _ _
             have hown6 := own_after hown1 hb6
             have hb16 := below_trans hb01 (hb6.mono (Nat.le_refl _))
             clear hw6)
          | (refine wp_append_el Try.underlying30 infoHE rfl (by decide) (by decide) hdE_one rfl _ _ rfl w.heap.size _ (kdN k (hs.take i)).length (kdN k (hs.take i)) rfl hown6 w1.heap.size rfl hd hH6 (by have := HNL.out; omega) hb16.size ?_
             intro v7 w7 hown7 hgr7))
        go_roundw
        case rel => exact ⟨i + 1, hlt, by go_num, ⟨by rw [HKD.out, List.length_append]; exact hown7, below_own hb16 hown6 (Nat.le_refl _) hb16.size hgr7⟩⟩
        case measure => simp [intOf] <;> omega
      · have hkb : ((hd.k : Int) == (k : Int)) = false := by simp; omega
        have hkd : kdN k (hs.take (i + 1)) = kdN k (hs.take i) := by rw [HTK.out]; simp [kdN, hk2]
        have HKD := Lib.hid hkd
        clear hk2 hkd
        go_wp2_with (first
          | (refine wp_load_he rfl _ rfl b (o + i * 6) rfl _ hr ?_)
          | (refine wp_fresh 51 6 _ _ _ _ rfl rfl rfl rfl zeroHE infoHE6 (by omega) (hdE_one _) rfl rfl ?_
             intro w1 hG hb1 hz1
             have hc0 : w1.cell? ⟨_, 0, none⟩ = some (.int .i64 (hd.k : Int)) := hG.cellTab 0 (by omega)
             have hown1 := own_after HO.out.own hb1
             have hb01 := below_trans HO.out.bel (hb1.mono (Nat.le_refl _))))
        go_roundw
        case rel => exact ⟨i + 1, hlt, by go_num, ⟨by rw [HKD.out]; exact hown1, hb01⟩⟩
        case measure => simp [intOf] <;> omega
    · obtain rfl : i = m := by omega
      have hown := hO.own
      rw [List.take_of_length_le (by rw [HL.out]; exact Nat.le_refl _)] at hown
      obtain ⟨Av, cv, rfl⟩ := own_form hown
      have hle : (kdN k hs).length ≤ hs.length := List.length_filter_le _ _
      have hs5 : (kdN k hs).length ≤ 5 := by have := HM.out; omega
      have HOW := Lib.hid hown
      have HBL := Lib.hid hO.bel
      clear hown hle hO
      generalize (kdN k hs).length = q at *
      go_wp2_with fail
      go_ret
      exact ⟨⟨⟨Av, q, cv⟩, rfl, own_slC HOW.out (by decide) (by omega) hd0⟩, HBL.out⟩
end Go.Proofs.Ytoplknankmomcaa
namespace Go.Proofs.Ytoplknankmomcaa
open Go Go.RowKit

theorem i64_and6 (r : Nat) (h : r ≤ 7) : bits .and .i64 (r : Int) 6 = ((r &&& 6 : Nat) : Int) := by
  have h8 : r = 0 ∨ r = 1 ∨ r = 2 ∨ r = 3 ∨ r = 4 ∨ r = 5 ∨ r = 6 ∨ r = 7 := by omega
  rcases h8 with rfl | rfl | rfl | rfl | rfl | rfl | rfl | rfl <;> decide
theorem i64_and4 (r : Nat) (h : r ≤ 7) : bits .and .i64 (r : Int) 4 = ((r &&& 4 : Nat) : Int) := by
  have h8 : r = 0 ∨ r = 1 ∨ r = 2 ∨ r = 3 ∨ r = 4 ∨ r = 5 ∨ r = 6 ∨ r = 7 := by omega
  rcases h8 with rfl | rfl | rfl | rfl | rfl | rfl | rfl | rfl <;> decide
theorem and6_eq (r : Nat) (h : r ≤ 7) : (r &&& 6 = 6) = (6 ≤ r) := by
  have h8 : r = 0 ∨ r = 1 ∨ r = 2 ∨ r = 3 ∨ r = 4 ∨ r = 5 ∨ r = 6 ∨ r = 7 := by omega
  rcases h8 with rfl | rfl | rfl | rfl | rfl | rfl | rfl | rfl <;> decide
theorem and4_eq (r : Nat) (h : r ≤ 7) : (r &&& 4 = 0) = (r < 4) := by
  have h8 : r = 0 ∨ r = 1 ∨ r = 2 ∨ r = 3 ∨ r = 4 ∨ r = 5 ∨ r = 6 ∨ r = 7 := by omega
  rcases h8 with rfl | rfl | rfl | rfl | rfl | rfl | rfl | rfl <;> decide
set_option maxRecDepth 100000 in
set_option maxHeartbeats 2000000 in
theorem eload_any (h : Hd) (hwf : h.Wf) (w : World) :
    Calls Try.prog 26 #[.agg (tab 6 (hdE h))] w fun e w' => e = .returned (.bool (ldB h)) ∧ Below w.heap.size w w' := by
  have hG : Has (w.alloc (.cells #[.int .i64 (h.k : Int), .int .u32 (h.a : Int), .int .u32 (h.d : Int), .int .u32 (h.f : Int), .int .u32 (h.m : Int), .int .i64 (h.r : Int)] 51)) w.heap.size 51 (tab 6 (hdE h)) := by
    rw [← hdE_lit]
    exact Has.new _ _ _
  have hb : Below w.heap.size w (w.alloc (.cells #[.int .i64 (h.k : Int), .int .u32 (h.a : Int), .int .u32 (h.d : Int), .int .u32 (h.f : Int), .int .u32 (h.m : Int), .int .i64 (h.r : Int)] 51)) := (Below.refl _ _).alloc (Nat.le_refl _) _
  rw [← hdE_lit]
  go_enter Try.func26, Try.ntmps26
  go_upto_region 1 with fail
  generalize w.alloc (.cells #[.int .i64 (h.k : Int), .int .u32 (h.a : Int), .int .u32 (h.d : Int), .int .u32 (h.f : Int), .int .u32 (h.m : Int), .int .i64 (h.r : Int)] 51) = u at *
  obtain ⟨gb, hgb⟩ : ∃ x, x = w.heap.size := ⟨_, rfl⟩
  rw [← hgb] at hG ⊢
  clear hgb
  have hc2 : u.cell? ⟨gb, 2, none⟩ = some (.int .u32 (h.d : Int)) := hG.cellTab 2 (by omega)
  have hc4 : u.cell? ⟨gb, 4, none⟩ = some (.int .u32 (h.m : Int)) := hG.cellTab 4 (by omega)
  have hc5 : u.cell? ⟨gb, 5, none⟩ = some (.int .i64 (h.r : Int)) := hG.cellTab 5 (by omega)
  have kW := pwithin_any h.d h.m 0 4294967292 u hwf.d hwf.m (by decide) (by decide)
  have hr7 := hwf.r
  have hr6 := i64_and6 h.r hr7
  have hq6 := and6_eq h.r hr7
  have hdl := hwf.d
  have hml := hwf.m
  obtain ⟨q, hq⟩ : ∃ x, x = h.r &&& 6 := ⟨_, rfl⟩
  obtain ⟨d4, hd4⟩ : ∃ x, x = h.d % 4 := ⟨_, rfl⟩
  obtain ⟨m4, hm4⟩ : ∃ x, x = h.m % 4 := ⟨_, rfl⟩
  have t1 : (h.d : Int).tmod 4 = (d4 : Int) := by rw [Int.tmod_eq_emod_of_nonneg (by omega)]; omega
  have t2 : (h.m : Int).tmod 4 = (m4 : Int) := by rw [Int.tmod_eq_emod_of_nonneg (by omega)]; omega
  have l1 : d4 < 4 := by omega
  have l2 : m4 < 4 := by omega
  have HL : Hid (ldB h = decide (d4 = 0 ∧ m4 = 0 ∧ h.m ≠ 0 ∧ h.d + h.m ≤ 4294967292 ∧ h.r ≠ 0 ∧ q ≠ 6)) := Lib.hid (by
    rw [hd4, hm4, hq]
    unfold ldB
    rw [Bool.eq_iff_iff, decide_eq_true_iff, decide_eq_true_iff, ne_eq (h.r &&& 6), hq6]
    omega)
  rw [← hq] at hr6
  clear hq hd4 hm4 hq6 hwf hG
  generalize h.d = d at *
  generalize h.m = m at *
  generalize h.r = r at *
  by_cases h0 : ¬ (d4 = 0)
  · have f0 : (((d4 : Int) == 0) = false) := by simp only [beq_eq_false_iff_ne, ne_eq]; omega
    have HF : Hid (¬ (d4 = 0 ∧ m4 = 0 ∧ m ≠ 0 ∧ d + m ≤ 4294967292 ∧ r ≠ 0 ∧ q ≠ 6)) := Lib.hid (fun g => h0 g.1)
    clear h0
    go_wp2_with fail
    go_ret
    exact ⟨by rw [HL.out, decide_eq_false HF.out]; rfl, hb⟩
  replace h0 : d4 = 0 := by omega
  have f0 : (((d4 : Int) == 0) = true) := by simp only [beq_iff_eq]; omega
  have H0 := Lib.hid h0
  clear h0
  by_cases h1 : ¬ (m4 = 0)
  · have f1 : (((m4 : Int) == 0) = false) := by simp only [beq_eq_false_iff_ne, ne_eq]; omega
    have HF : Hid (¬ (d4 = 0 ∧ m4 = 0 ∧ m ≠ 0 ∧ d + m ≤ 4294967292 ∧ r ≠ 0 ∧ q ≠ 6)) := Lib.hid (fun g => h1 g.2.1)
    clear h1
    go_wp2_with fail
    go_ret
    exact ⟨by rw [HL.out, decide_eq_false HF.out]; rfl, hb⟩
  replace h1 : m4 = 0 := by omega
  have f1 : (((m4 : Int) == 0) = true) := by simp only [beq_iff_eq]; omega
  have H1 := Lib.hid h1
  clear h1
  by_cases h2 : ¬ (m ≠ 0)
  · have f2 : (((m : Int) != 0) = false) := by simp only [bne_eq_false_iff_eq]; omega
    have HF : Hid (¬ (d4 = 0 ∧ m4 = 0 ∧ m ≠ 0 ∧ d + m ≤ 4294967292 ∧ r ≠ 0 ∧ q ≠ 6)) := Lib.hid (fun g => h2 g.2.2.1)
    clear h2
    go_wp2_with fail
    go_ret
    exact ⟨by rw [HL.out, decide_eq_false HF.out]; rfl, hb⟩
  replace h2 : m ≠ 0 := by omega
  have f2 : (((m : Int) != 0) = true) := by simp only [bne_iff_ne, ne_eq]; omega
  have H2 := Lib.hid h2
  clear h2
  by_cases h3 : ¬ (d + m ≤ 4294967292)
  · have f3 : inB d m 0 4294967292 = false := decide_eq_false (by omega)
    have HF : Hid (¬ (d4 = 0 ∧ m4 = 0 ∧ m ≠ 0 ∧ d + m ≤ 4294967292 ∧ r ≠ 0 ∧ q ≠ 6)) := Lib.hid (fun g => h3 g.2.2.2.1)
    rw [f3] at kW
    clear f3
    clear h3
    go_wp2_with (refine kW.mono ?_; rintro e w1 ⟨rfl, rfl⟩)
    go_ret
    exact ⟨by rw [HL.out, decide_eq_false HF.out]; rfl, hb⟩
  replace h3 : d + m ≤ 4294967292 := by omega
  have f3 : inB d m 0 4294967292 = true := decide_eq_true (by omega)
  rw [f3] at kW
  clear f3
  have H3 := Lib.hid h3
  clear h3
  by_cases h4 : ¬ (r ≠ 0)
  · have f4 : (((r : Int) != 0) = false) := by simp only [bne_eq_false_iff_eq]; omega
    have HF : Hid (¬ (d4 = 0 ∧ m4 = 0 ∧ m ≠ 0 ∧ d + m ≤ 4294967292 ∧ r ≠ 0 ∧ q ≠ 6)) := Lib.hid (fun g => h4 g.2.2.2.2.1)
    clear h4
    go_wp2_with (refine kW.mono ?_; rintro e w1 ⟨rfl, rfl⟩)
    go_ret
    exact ⟨by rw [HL.out, decide_eq_false HF.out]; rfl, hb⟩
  replace h4 : r ≠ 0 := by omega
  have f4 : (((r : Int) != 0) = true) := by simp only [bne_iff_ne, ne_eq]; omega
  have H4 := Lib.hid h4
  clear h4
  by_cases h5 : ¬ (q ≠ 6)
  · have f5 : (((q : Int) != 6) = false) := by simp only [bne_eq_false_iff_eq]; omega
    have HF : Hid (¬ (d4 = 0 ∧ m4 = 0 ∧ m ≠ 0 ∧ d + m ≤ 4294967292 ∧ r ≠ 0 ∧ q ≠ 6)) := Lib.hid (fun g => h5 g.2.2.2.2.2)
    clear h5
    go_wp2_with (refine kW.mono ?_; rintro e w1 ⟨rfl, rfl⟩)
    go_ret
    exact ⟨by rw [HL.out, decide_eq_false HF.out]; rfl, hb⟩
  replace h5 : q ≠ 6 := by omega
  have f5 : (((q : Int) != 6) = true) := by simp only [bne_iff_ne, ne_eq]; omega
  have H5 := Lib.hid h5
  clear h5
  go_wp2_with (refine kW.mono ?_; rintro e w1 ⟨rfl, rfl⟩)
  go_ret
  exact ⟨by rw [HL.out, decide_eq_true ⟨H0.out, H1.out, H2.out, H3.out, H4.out, H5.out⟩]; rfl, hb⟩
end Go.Proofs.Ytoplknankmomcaa
namespace Go.Proofs.Ytoplknankmomcaa
open Go Go.RowKit

set_option maxRecDepth 100000 in
set_option maxHeartbeats 2000000 in
theorem eare_any (hs : List Hd) (s : Sl) (w : World) (hH : SlH w s hs) (hm : hs.length ≤ 5) (hwf : ∀ h ∈ hs, h.Wf) :
    Calls Try.prog 17 #[s.v] w fun e w' => e = .returned (.bool (decide (hs.length ≤ 4) && ldGo hs 0)) ∧ Below w.heap.size w w' := by
  obtain ⟨Ah, m, ch, rfl⟩ := s.out
  have hl : hs.length = m := hH.1
  have HL := Lib.hid hl
  have HH := Lib.hid hH.2
  have HW := Lib.hid hwf
  have hm5 : m ≤ 5 := by omega
  rw [show Sl.v ⟨Ah, m, ch⟩ = .slice Ah m ch from rfl, hl]
  clear hl hm hH hwf
  by_cases h4 : 4 < m
  · have d4 : 4 < (m : Int) := by omega
    have H4 : Hid (decide (m ≤ 4) = false) := Lib.hid (decide_eq_false (by omega))
    clear h4
    go_enter Try.func17, Try.ntmps17
    go_wp2_with fail
    go_ret
    exact ⟨by rw [H4.out]; rfl, Below.refl _ _⟩
  have d4 : (m : Int) ≤ 4 := by omega
  have H4 : Hid (decide (m ≤ 4) = true) := Lib.hid (decide_eq_true (by omega))
  rw [H4.out, Bool.true_and]
  clear h4 H4
  go_enter Try.func17, Try.ntmps17
  go_wp2_with fail
  go_loopw [3, 11] (fun ve ct wr => ∃ i e : Nat, i ≤ m ∧ ve = .int .u32 (e : Int) ∧ ct = .int .i64 (i : Int) ∧ e < 4294967296 ∧ ldGo (hs.drop i) e = ldGo hs 0 ∧ Below w.heap.size w wr) (fun _ ct _ => (m - (intOf ct)).toNat)
  case atStart => exact ⟨0, 0, Nat.zero_le _, rfl, rfl, by decide, rfl, Below.refl _ _⟩
  case round =>
    obtain ⟨i, e, hi, rfl, rfl, he, hgo, hb⟩ := hrel
    by_cases hlt : i < m
    · have di : (i : Int) < (m : Int) := by omega
      have hJ := HH.out.below hb
      obtain ⟨b, o, hA2, hbl, _⟩ := HH.out.2 (by show 0 < m; omega)
      replace hA2 : Ah = some ⟨b, o, none⟩ := hA2
      subst hA2
      have hr := hJ.range rfl (j := i) hlt
      have ha1 := fun w => atE' b o m ch i di w
      have hdc := drop_cons hs hd0 i (by rw [HL.out]; exact hlt)
      have hmem : hs.getD i hd0 ∈ hs := by rw [List.getD_eq_getElem?_getD, List.getElem?_eq_getElem (by rw [HL.out]; exact hlt)]; exact List.getElem_mem _
      have hwf := HW.out _ hmem
      change wr.rangeAt b (o + i * 6) ((List.range 6).map (hdE (hs.getD i hd0))) at hr
      rw [hdc] at hgo
      generalize hs.getD i hd0 = hd at *
      have hgo2 : (ldB hd && decide (e ≤ hd.d) && ldGo (hs.drop (i + 1)) (hd.d + hd.m)) = ldGo hs 0 := hgo
      have HGO := Lib.hid hgo2
      have kL := fun w' => eload_any hd hwf w'
      have hdl := hwf.d
      have hml := hwf.m
      have HB := Lib.hid hb
      obtain ⟨lb, hlb⟩ : ∃ x, x = ldB hd := ⟨_, rfl⟩
      have HLB := Lib.hid hlb
      simp only [← hlb] at kL
      clear hdc hmem hwf hgo hgo2 hJ hbl hb hlb
      cases lb with
      | false =>
        have hret : Hid (ldGo hs 0 = false) := Lib.hid (by rw [← HGO.out, ← HLB.out]; rfl)
        go_wp2_with (first
          | (refine (kL _).mono ?_
             rintro e2 w2 ⟨rfl, hb2⟩
             have hb02 := below_trans hb01 (hb2.mono (Nat.le_refl _)))
          | (refine wp_load_he rfl _ rfl b (o + i * 6) rfl _ hr ?_)
          | (refine wp_fresh 51 6 _ _ _ _ rfl rfl rfl rfl zeroHE infoHE6 (by omega) (hdE_one _) rfl rfl ?_
             intro w1 hG hb1 hz1
             have hb01 := below_trans HB.out (hb1.mono (Nat.le_refl _)))
          | (refine wpList_load_has 51 _ rfl _ rfl rfl 51 _ hG _ Try.underlying51 rfl (by rw [tab_size]; exact infoHE6) ?_))
        go_ret
        exact ⟨by rw [hret.out]; rfl, hb02⟩
      | true =>
        have hsum : hd.d + hd.m ≤ 4294967292 := by
          have h1 := HLB.out
          unfold ldB at h1
          have := of_decide_eq_true h1.symm
          omega
        by_cases hed : hd.d < e
        · have ded : (hd.d : Int) < (e : Int) := by omega
          have hret : Hid (ldGo hs 0 = false) := Lib.hid (by rw [← HGO.out, decide_eq_false (by omega), Bool.and_false]; rfl)
          clear hed
          go_wp2_with (first
            | (refine (kL _).mono ?_
               rintro e2 w2 ⟨rfl, hb2⟩
               have hG2 := hG.after hb2
               have hc2 : w2.cell? ⟨_, 2, none⟩ = some (.int .u32 (hd.d : Int)) := hG2.cellTab 2 (by omega)
               have hb02 := below_trans hb01 (hb2.mono (Nat.le_refl _)))
            | (refine wp_load_he rfl _ rfl b (o + i * 6) rfl _ hr ?_)
            | (refine wp_fresh 51 6 _ _ _ _ rfl rfl rfl rfl zeroHE infoHE6 (by omega) (hdE_one _) rfl rfl ?_
               intro w1 hG hb1 hz1
               have hb01 := below_trans HB.out (hb1.mono (Nat.le_refl _)))
            | (refine wpList_load_has 51 _ rfl _ rfl rfl 51 _ hG _ Try.underlying51 rfl (by rw [tab_size]; exact infoHE6) ?_))
          go_ret
          exact ⟨by rw [hret.out]; rfl, hb02⟩
        · have ded : (e : Int) ≤ (hd.d : Int) := by omega
          have hret : Hid (ldGo (hs.drop (i + 1)) (hd.d + hd.m) = ldGo hs 0) := Lib.hid (by rw [← HGO.out, ← HLB.out, decide_eq_true (by omega)]; rfl)
          have hsi : (hd.d : Int) + (hd.m : Int) ≤ 4294967292 := by omega
          clear hed
          go_wp2_with (first
            | (refine (kL _).mono ?_
               rintro e2 w2 ⟨rfl, hb2⟩
               have hG2 := hG.after hb2
               have hc2 : w2.cell? ⟨_, 2, none⟩ = some (.int .u32 (hd.d : Int)) := hG2.cellTab 2 (by omega)
               have hc4 : w2.cell? ⟨_, 4, none⟩ = some (.int .u32 (hd.m : Int)) := hG2.cellTab 4 (by omega)
               have hb02 := below_trans hb01 (hb2.mono (Nat.le_refl _)))
            | (refine wp_load_he rfl _ rfl b (o + i * 6) rfl _ hr ?_)
            | (refine wp_fresh 51 6 _ _ _ _ rfl rfl rfl rfl zeroHE infoHE6 (by omega) (hdE_one _) rfl rfl ?_
               intro w1 hG hb1 hz1
               have hb01 := below_trans HB.out (hb1.mono (Nat.le_refl _)))
            | (refine wpList_load_has 51 _ rfl _ rfl rfl 51 _ hG _ Try.underlying51 rfl (by rw [tab_size]; exact infoHE6) ?_))
          go_roundw
          case rel => exact ⟨i + 1, hd.d + hd.m, hlt, congrArg (Value.int .u32) (by rw [Int.natCast_add]), by go_num, by omega, hret.out, hb02⟩
          case measure => simp [intOf] <;> omega
    · obtain rfl : i = m := by omega
      rw [List.drop_of_length_le (by rw [HL.out]; exact Nat.le_refl _)] at hgo
      have hret : Hid (ldGo hs 0 = true) := Lib.hid (by rw [← hgo]; rfl)
      clear hgo
      go_wp2_with fail
      go_ret
      exact ⟨by rw [hret.out]; rfl, hb⟩
theorem entB_eq (en : Nat) (h : Hd) : entB en h = (decide (4 ≤ h.r) && (decide (en % 4 = 0) && inB en 4 h.d h.m)) := by
  unfold entB inB
  rw [← Bool.decide_and, ← Bool.decide_and]
set_option maxRecDepth 100000 in
set_option maxHeartbeats 2000000 in
theorem eentry_any (en : Nat) (hen : en < 4294967296) (hs : List Hd) (s : Sl) (w : World) (hH : SlH w s hs) (hm : hs.length ≤ 5) (hwf : ∀ h ∈ hs, h.Wf) :
    Calls Try.prog 18 #[.int .u32 (en : Int), s.v] w fun e w' => e = .returned (.bool (hs.any (entB en))) ∧ Below w.heap.size w w' := by
  obtain ⟨Ah, m, ch, rfl⟩ := s.out
  have hl : hs.length = m := hH.1
  have HL := Lib.hid hl
  have HH := Lib.hid hH.2
  have HW := Lib.hid hwf
  have hm5 : m ≤ 5 := by omega
  rw [show Sl.v ⟨Ah, m, ch⟩ = .slice Ah m ch from rfl]
  clear hl hm hH hwf
  obtain ⟨e4, he4⟩ : ∃ x, x = en % 4 := ⟨_, rfl⟩
  have t1 : (en : Int).tmod 4 = (e4 : Int) := by rw [Int.tmod_eq_emod_of_nonneg (by omega)]; omega
  have l1 : e4 < 4 := by omega
  by_cases h4 : ¬ e4 = 0
  · have d4 : ((e4 : Int) != 0) = true := by simp only [bne_iff_ne, ne_eq]; omega
    have H4 : Hid (hs.any (entB en) = false) := Lib.hid (by
      rw [List.any_eq_false]
      intro x _
      rw [entB_eq, decide_eq_false (show ¬ en % 4 = 0 by omega)]
      simp)
    clear h4 he4
    go_enter Try.func18, Try.ntmps18
    go_wp2_with fail
    go_ret
    exact ⟨by rw [H4.out]; rfl, Below.refl _ _⟩
  have d4 : ((e4 : Int) != 0) = false := by simp only [bne_eq_false_iff_eq]; omega
  have HE : Hid (en % 4 = 0) := Lib.hid (by omega)
  clear h4 he4
  go_enter Try.func18, Try.ntmps18
  go_wp2_with fail
  go_loopw [12] (fun ct wr => ∃ i : Nat, i ≤ m ∧ ct = .int .i64 (i : Int) ∧ (hs.drop i).any (entB en) = hs.any (entB en) ∧ Below w.heap.size w wr) (fun ct _ => (m - (intOf ct)).toNat)
  case atStart => exact ⟨0, Nat.zero_le _, rfl, rfl, Below.refl _ _⟩
  case round =>
    obtain ⟨i, hi, rfl, hgo, hb⟩ := hrel
    by_cases hlt : i < m
    · have di : (i : Int) < (m : Int) := by omega
      have hJ := HH.out.below hb
      obtain ⟨b, o, hA2, hbl, _⟩ := HH.out.2 (by show 0 < m; omega)
      replace hA2 : Ah = some ⟨b, o, none⟩ := hA2
      subst hA2
      have hr := hJ.range rfl (j := i) hlt
      have ha1 := fun w => atE' b o m ch i di w
      have hdc := drop_cons hs hd0 i (by rw [HL.out]; exact hlt)
      have hmem : hs.getD i hd0 ∈ hs := by rw [List.getD_eq_getElem?_getD, List.getElem?_eq_getElem (by rw [HL.out]; exact hlt)]; exact List.getElem_mem _
      have hwf := HW.out _ hmem
      change wr.rangeAt b (o + i * 6) ((List.range 6).map (hdE (hs.getD i hd0))) at hr
      rw [hdc, List.any_cons, entB_eq, decide_eq_true HE.out, Bool.true_and] at hgo
      generalize hs.getD i hd0 = hd at *
      have HGO := Lib.hid hgo
      have kW := fun w' => pwithin_any en 4 hd.d hd.m w' hen (by decide) hwf.d hwf.m
      have hr7 := hwf.r
      have hr4 := i64_and4 hd.r hr7
      have hq4 := and4_eq hd.r hr7
      obtain ⟨q, hq⟩ : ∃ x, x = hd.r &&& 4 := ⟨_, rfl⟩
      rw [← hq] at hr4 hq4
      obtain ⟨ib, hib⟩ : ∃ x, x = inB en 4 hd.d hd.m := ⟨_, rfl⟩
      have HIB := Lib.hid hib
      simp only [← hib] at kW
      have HB := Lib.hid hb
      clear hdc hmem hwf hgo hJ hbl hb hib hq
      by_cases h4r : 4 ≤ hd.r
      · have dq : ((q : Int) != 0) = true := by
          have : ¬ q = 0 := by rw [hq4]; omega
          simp only [bne_iff_ne, ne_eq]; omega
        cases ib with
        | true =>
          have hret : Hid (hs.any (entB en) = true) := Lib.hid (by rw [← HGO.out, ← HIB.out, decide_eq_true h4r]; rfl)
          clear hq4 h4r
          go_wp2_with (first
            | (refine (kW _).mono ?_
               rintro e2 w2 ⟨rfl, rfl⟩)
            | (refine wp_load_he rfl _ rfl b (o + i * 6) rfl _ hr ?_)
            | (refine wp_fresh 51 6 _ _ _ _ rfl rfl rfl rfl zeroHE infoHE6 (by omega) (hdE_one _) rfl rfl ?_
               intro w1 hG hb1 hz1
               have hc2 : w1.cell? ⟨_, 2, none⟩ = some (.int .u32 (hd.d : Int)) := hG.cellTab 2 (by omega)
               have hc4 : w1.cell? ⟨_, 4, none⟩ = some (.int .u32 (hd.m : Int)) := hG.cellTab 4 (by omega)
               have hc5 : w1.cell? ⟨_, 5, none⟩ = some (.int .i64 (hd.r : Int)) := hG.cellTab 5 (by omega)
               have hb01 := below_trans HB.out (hb1.mono (Nat.le_refl _))))
          go_ret
          exact ⟨by rw [hret.out]; rfl, hb01⟩
        | false =>
          have hret : Hid ((hs.drop (i + 1)).any (entB en) = hs.any (entB en)) := Lib.hid (by rw [← HGO.out, ← HIB.out, Bool.and_false, Bool.false_or])
          clear hq4 h4r
          go_wp2_with (first
            | (refine (kW _).mono ?_
               rintro e2 w2 ⟨rfl, rfl⟩)
            | (refine wp_load_he rfl _ rfl b (o + i * 6) rfl _ hr ?_)
            | (refine wp_fresh 51 6 _ _ _ _ rfl rfl rfl rfl zeroHE infoHE6 (by omega) (hdE_one _) rfl rfl ?_
               intro w1 hG hb1 hz1
               have hc2 : w1.cell? ⟨_, 2, none⟩ = some (.int .u32 (hd.d : Int)) := hG.cellTab 2 (by omega)
               have hc4 : w1.cell? ⟨_, 4, none⟩ = some (.int .u32 (hd.m : Int)) := hG.cellTab 4 (by omega)
               have hc5 : w1.cell? ⟨_, 5, none⟩ = some (.int .i64 (hd.r : Int)) := hG.cellTab 5 (by omega)
               have hb01 := below_trans HB.out (hb1.mono (Nat.le_refl _))))
          go_roundw
          case rel => exact ⟨i + 1, hlt, by go_num, hret.out, hb01⟩
          case measure => simp [intOf] <;> omega
      · have dq : ((q : Int) != 0) = false := by
          have : q = 0 := by rw [hq4]; omega
          simp only [bne_eq_false_iff_eq]; omega
        have hret : Hid ((hs.drop (i + 1)).any (entB en) = hs.any (entB en)) := Lib.hid (by rw [← HGO.out, decide_eq_false h4r, Bool.false_and, Bool.false_or])
        clear hq4 h4r
        go_wp2_with (first
          | (refine wp_load_he rfl _ rfl b (o + i * 6) rfl _ hr ?_)
          | (refine wp_fresh 51 6 _ _ _ _ rfl rfl rfl rfl zeroHE infoHE6 (by omega) (hdE_one _) rfl rfl ?_
             intro w1 hG hb1 hz1
             have hc5 : w1.cell? ⟨_, 5, none⟩ = some (.int .i64 (hd.r : Int)) := hG.cellTab 5 (by omega)
             have hb01 := below_trans HB.out (hb1.mono (Nat.le_refl _))))
        go_roundw
        case rel => exact ⟨i + 1, hlt, by go_num, hret.out, hb01⟩
        case measure => simp [intOf] <;> omega
    · obtain rfl : i = m := by omega
      rw [List.drop_of_length_le (by rw [HL.out]; exact Nat.le_refl _)] at hgo
      have hret : Hid (hs.any (entB en) = false) := Lib.hid (by rw [← hgo]; rfl)
      clear hgo
      go_wp2_with fail
      go_ret
      exact ⟨by rw [hret.out]; rfl, hb⟩
end Go.Proofs.Ytoplknankmomcaa
namespace Go.Proofs.Ytoplknankmomcaa
open Go Go.RowKit

set_option maxRecDepth 100000 in
set_option maxHeartbeats 1000000 in
theorem epart_ok (bs : List UInt8) (A : Option Addr) (n c a f : Nat) (w : World) (hS : SlA w A n c bs) (hl : bs.length ≤ 100000) (ha : a < 4294967296) (hf : f < 4294967296) (h : a + f ≤ bs.length) :
    Calls Try.prog 28 #[.slice A n c, .int .u32 (a : Int), .int .u32 (f : Int)] w fun e w' => e = .returned (.tuple #[.slice (offA A c a) f f, .bool true]) ∧ w = w' := by
  have hn : bs.length = n := hS.1
  have hnc := hS.2.1
  rw [hn] at h
  have kW := pwithin_any a f 0 n w ha hf (by decide) (by omega)
  have hn32 : (n : Int) < 4294967296 := by omega
  have hr : inB a f 0 n = true := decide_eq_true (by omega)
  rw [hr] at kW
  have r1 := fun W => run_tail32 A n c a (by omega) W
  have r2 := fun W => run_front32 (offA A c a) (n - a) (c - a) f (by omega) W
  generalize offA A c a = A' at *
  generalize n - a = n' at *
  generalize c - a = c' at *
  clear h hr hS hl hn
  go_enter Try.func28, Try.ntmps28
  go_wp2_with (refine kW.mono ?_; rintro e w' ⟨rfl, rfl⟩)
  go_ret2
  exact ⟨rfl, rfl⟩
/-- append(v, x...), x a slice of bytes that is there and is not nil -/
theorem wp_append_bytesK {w : World} {op : Oper} {a : Act} {K : Act → World → Prop} {Q : Exit → Act → World → Prop} (s x : Operand)
    (ho : op.op = .call { callee := .builtin .append, args := #[s, x], argTypes := #[25, 25] }) (base : Nat) (v : Value) (n : Nat) (xs : List Value) (hs : a.eval s = v)
    (hown : w.ownsRow base 5 1 v n xs) (ad : Addr) (m c : Nat) (hx : a.eval x = .slice (some ad) m c) (bs : List UInt8) (hS : SlA w (some ad) m c bs) (h63 : n + m ≤ 1000000) (hbase : base ≤ w.heap.size)
    (h : ∀ v' w', w'.ownsRow base 5 1 v' (n + m) (xs ++ bs.map by8) → w.grownBy w' v.ownBlock → K (a.put op.dst v') w') : op.wp Try.prog a w K Q := by
  obtain ⟨i5, hi5, hz5, hs5, hb5⟩ := info_parts info5
  have hl : bs.length = m := hS.1
  refine wp_append_own _ s x 25 ho base 5 i5 (.int .u8 0) 1 1 Try.underlying25 hi5 hz5 hs5 hb5 rfl (by decide) v n xs hs hown ad m c (bs.map by8) hx (by simp [hl]) (fun j u hj => ?_) (fun u hu => ?_) (by simp only [maxLen]; omega) (by omega) hbase
    (fun v' w' h1 h2 _ => h v' w' h1 h2)
  · have hjm : j < m := by have := (List.getElem?_eq_some_iff.1 hj).1; simpa [hl] using this
    obtain ⟨b, o, e, _, hcell⟩ := hS.2.2 (by omega)
    obtain rfl : ad = ⟨b, o, none⟩ := Option.some.inj e
    rw [Addr.add_mid, hcell j hjm, ← hj]
    simp [List.getD_eq_getElem?_getD, show j < bs.length by omega]
  · obtain ⟨b, _, rfl⟩ := List.mem_map.1 hu
    rfl
theorem wp_store_csK {P : Program} {w : World} {op : Oper} {a : Act} {K : Act → World → Prop} {Q : Exit → Act → World → Prop} (ty : TypeId) (x y : Operand) (ho : op.op = .store ty x y) (g : Nat) (hx : a.eval x = .pointer (some ⟨g, 0, none⟩)) (ds : Array Value) (hy : a.eval y = .agg ds)
    (cs : Array Value) (hcs : cs.size = ds.size) (hi : (P.info? ty).map (·.size) = some ds.size) (h1 : ds.all (·.oneCell') = true) (hG : Has w g ty cs) (h : ∀ w', Has w' g ty ds → w.grownBy w' (some g) → K (a.put op.dst undef) w') : op.wp P a w K Q := by
  unfold Oper.wp execOp
  simp only [ho, hx, hy, Instr.storeAt, Instr.sureAddr, Sem.run_bind, Sem.run_pure, Result.andThen_ok, run_storeVar_row w g ty ty cs ds hG hi hcs h1]
  exact h _ (hG.setRow _) ⟨rfl, rfl, rfl, by simp, fun i _ hne => setRow_other w g i _ (fun e => hne (by rw [e]))⟩
theorem results_cell1 {P : Program} {fn : Func} {p : Tmp} {ty : TypeId} (h : fn.results = #[.cell p ty]) (tmps : Array Value) (w : World) (g : Nat) (t : TypeId) (cs : Array Value) (d : TypeDesc)
    (hp : tmps.getD p undef = .pointer (some ⟨g, 0, none⟩)) (hg : Has w g t cs)
    (hu : P.underlying ty = some d) (hd : (match d with | .struct _ | .array _ _ => true | _ => false) = true) (hi : (P.info? ty).map (·.size) = some cs.size) :
    (results fn tmps).run P w = .ok (.agg cs) w := by
  have hp' : tmps[p]?.getD undef = .pointer (some ⟨g, 0, none⟩) := by simpa using hp
  simp [results, h, hp', asAddr, run_loadVar_row w g t ty cs (0, 0) d hg hu hd hi]
theorem sgE_zero : (#[.int .u32 0, .slice none 0 0, .int .u32 0, .int .i64 0] : Array Value) = tab 4 (sgE sg0 ⟨none, 0, 0⟩) := by kernel_rfl
theorem sgE_lit (s : Sg) (B : Option Addr) (m k : Nat) : (#[.int .u32 (s.d : Int), .slice B m k, .int .u32 (s.z : Int), .int .i64 (s.r : Int)] : Array Value) = tab 4 (sgE s ⟨B, m, k⟩) := by kernel_rfl
/-- its bytes lie in a block of bytes -/
def TyB (w : World) (A : Option Addr) (n : Nat) : Prop := ∀ b o s, A = some ⟨b, o, s⟩ → 0 < n → ∃ cs fr, w.heap[b]? = some (Obj.cells cs 5 fr)
theorem own_ty {w : World} {base n c : Nat} {A : Option Addr} {xs : List Value} (h : w.ownsRow base 5 1 (.slice A n c) n xs) : TyB w A n := by
  intro b o s e h0
  rcases h.2 with ⟨hv, h1⟩ | ⟨g, cap, cur, hv, hb, hg, _⟩
  · omega
  · have e1 : A = some ⟨g, 0, none⟩ := by injection hv
    rw [e] at e1
    injection e1 with e1
    injection e1 with e1
    subst e1
    exact ⟨_, _, hg⟩
theorem TyB.below {w w' : World} {A : Option Addr} {n : Nat} (h : TyB w A n) (k : Below w.heap.size w w') : TyB w' A n := fun b o s e h0 => by
  obtain ⟨cs, fr, hb⟩ := h b o s e h0
  exact ⟨cs, fr, (k.block b (Array.getElem?_eq_some_iff.1 hb).1).trans hb⟩
theorem TyB.other {w w' : World} {A : Option Addr} {n : Nat} {r : Option Nat} (h : TyB w A n) (k : w.grownBy w' r) (hne : ∀ b o s, A = some ⟨b, o, s⟩ → 0 < n → r ≠ some b) : TyB w' A n := fun b o s e h0 => by
  obtain ⟨cs, fr, hb⟩ := h b o s e h0
  exact ⟨cs, fr, (k.block b (Array.getElem?_eq_some_iff.1 hb).1 (fun e2 => hne b o s e h0 e2.symm)).trans hb⟩
/-- a row of another type is another block -/
theorem TyB.row {w : World} {A : Option Addr} {n base size m : Nat} {t : TypeId} {v : Value} {xs : List Value} (h : TyB w A n) (ho : w.ownsRow base t size v m xs) (ht : t ≠ 5) : ∀ b o s, A = some ⟨b, o, s⟩ → 0 < n → v.ownBlock ≠ some b := fun b o s e h0 e2 => by
  obtain ⟨cs, fr, hb⟩ := h b o s e h0
  rcases ho.2 with ⟨rfl, _⟩ | ⟨g, cap, cur, rfl, _, hg, _⟩
  · cases e2
  · have e3 : g = b := by simpa [Value.ownBlock] using e2
    subst e3
    rw [hb] at hg
    injection hg with hg
    injection hg with _ e4 _
    exact ht e4.symm
/-- bytes of its own, beside block gs -/
structure SlF (gs : Nat) (cn : List UInt8) (B : Option Addr) (m k : Nat) (w : World) : Prop where
  sl : SlA w B m k cn
  ne : ∀ b o s, B = some ⟨b, o, s⟩ → 0 < m → b ≠ gs
  ty : TyB w B m
theorem SlF.below {gs m k : Nat} {cn : List UInt8} {B : Option Addr} {w w' : World} (h : SlF gs cn B m k w) (hb : Below w.heap.size w w') : SlF gs cn B m k w' := ⟨h.sl.below hb, h.ne, h.ty.below hb⟩
theorem SlF.grown {gs m k : Nat} {cn : List UInt8} {B : Option Addr} {w w' : World} (h : SlF gs cn B m k w) (hb : w.grownBy w' (some gs)) : SlF gs cn B m k w' :=
  ⟨h.sl.grown hb (fun b o e h0 e2 => h.ne b o none e h0 (by injection e2 with e2; exact e2.symm)), h.ne, h.ty.other hb (fun b o s e h0 e2 => h.ne b o s e h0 (by injection e2 with e2; exact e2.symm))⟩
theorem infoSEt (f : Nat → Value) : (Try.prog.info? 36).map (·.size) = some (tab 4 f).size := by rw [tab_size]; exact infoSE4
set_option maxRecDepth 100000 in
set_option maxHeartbeats 2000000 in
theorem esego_any (bs : List UInt8) (A : Option Addr) (n c : Nat) (h : Hd) (w0 : World) (hS : SlA w0 A n c bs) (hl : bs.length ≤ 100000) (h0 : 0 < bs.length) (hwf : h.Wf) (hin : h.a + h.f ≤ bs.length) :
    Calls Try.prog 19 #[.slice A n c, .agg (tab 6 (hdE h))] w0 fun e w' => (∃ x, e = .returned (.agg (tab 4 (sgE (sgOf bs h) x))) ∧ SlY w' x (sgOf bs h).b ∧ TyB w' x.A x.n) ∧ Below w0.heap.size w0 w' := by
  have hX : Has (w0.alloc (.cells #[.int .i64 (h.k : Int), .int .u32 (h.a : Int), .int .u32 (h.d : Int), .int .u32 (h.f : Int), .int .u32 (h.m : Int), .int .i64 (h.r : Int)] 51)) w0.heap.size 51 (tab 6 (hdE h)) := by
    rw [← hdE_lit]
    exact Has.new _ _ _
  have hb1 : Below w0.heap.size w0 (w0.alloc (.cells #[.int .i64 (h.k : Int), .int .u32 (h.a : Int), .int .u32 (h.d : Int), .int .u32 (h.f : Int), .int .u32 (h.m : Int), .int .i64 (h.r : Int)] 51)) := (Below.refl _ _).alloc (Nat.le_refl _) _
  rw [← hdE_lit]
  go_enter Try.func19, Try.ntmps19
  go_upto_region 1 with fail
  have hu1 : (w0.alloc (.cells #[.int .i64 (h.k : Int), .int .u32 (h.a : Int), .int .u32 (h.d : Int), .int .u32 (h.f : Int), .int .u32 (h.m : Int), .int .i64 (h.r : Int)] 51)).heap.size = w0.heap.size + 1 := by simp
  generalize w0.alloc (.cells #[.int .i64 (h.k : Int), .int .u32 (h.a : Int), .int .u32 (h.d : Int), .int .u32 (h.f : Int), .int .u32 (h.m : Int), .int .i64 (h.r : Int)] 51) = u at *
  have hSG : Has (u.alloc (.cells #[.int .u32 0, .slice none 0 0, .int .u32 0, .int .i64 0] 36)) u.heap.size 36 (tab 4 (sgE sg0 ⟨none, 0, 0⟩)) := by
    rw [← sgE_zero]
    exact Has.new _ _ _
  have hb2 : Below u.heap.size u (u.alloc (.cells #[.int .u32 0, .slice none 0 0, .int .u32 0, .int .i64 0] 36)) := (Below.refl _ _).alloc (Nat.le_refl _) _
  have hXl := hX.lt
  have hul := hb1.size
  replace hX := hX.after hb2
  have hB0 := hb1.trans (hb2.mono hul)
  generalize u.alloc (.cells #[.int .u32 0, .slice none 0 0, .int .u32 0, .int .i64 0] 36) = u1 at *
  obtain ⟨gx, hgx⟩ : ∃ x, x = w0.heap.size := ⟨_, rfl⟩
  rw [← hgx] at hX hu1 ⊢
  obtain ⟨gs, hgs⟩ : ∃ x, x = gx + 1 := ⟨_, rfl⟩
  rw [hu1, ← hgs] at hSG
  rw [← hgs] at hu1 ⊢
  have hgsw : w0.heap.size ≤ gs := by omega
  have hxs : gx ≠ gs := by omega
  have hc1 : u1.cell? ⟨gx, 1, none⟩ = some (.int .u32 (h.a : Int)) := hX.cellTab 1 (by omega)
  have hc3 : u1.cell? ⟨gx, 3, none⟩ = some (.int .u32 (h.f : Int)) := hX.cellTab 3 (by omega)
  have kP := epart_ok bs A n c h.a h.f u1 (hS.below hB0) hl hwf.a hwf.f hin
  obtain ⟨cn, hcn⟩ : ∃ x, x = (bs.drop h.a).take h.f := ⟨_, rfl⟩
  have hso := sub_off hS (a := h.a) (f := h.f) (by rw [← hS.1]; exact hin)
  rw [← hcn] at hso
  obtain ⟨sg, hsg⟩ : ∃ x, x = sgOf bs h := ⟨_, rfl⟩
  have HSG : Hid (sg = sgOf bs h ∧ sg.b = cn ∧ sg.d = h.d ∧ sg.z = h.m ∧ sg.r = h.r) := Lib.hid ⟨hsg, by rw [hsg, hcn]; rfl, by rw [hsg]; rfl, by rw [hsg]; rfl, by rw [hsg]; rfl⟩
  obtain ⟨ba, oa, hA, _, _⟩ := hS.2.2 (by rw [← hS.1]; exact h0)
  have hoff : ∃ bc oc, offA A c h.a = some ⟨bc, oc, none⟩ := by
    subst hA
    unfold offA
    split
    · exact ⟨_, _, rfl⟩
    · exact ⟨ba, oa + h.a, by rw [Option.map_some, Addr.add_mid]⟩
  obtain ⟨bc, oc, hoc⟩ := hoff
  rw [hoc] at kP hso
  have hf5 : h.f ≤ 100000 := by omega
  clear hgx hgs hu1 hb1 hb2 hcn hsg hoc hA hS hin hwf h0 hXl hul
  go_upto_region 2 with (refine kP.mono ?_; rintro e w1 ⟨rfl, rfl⟩)
  have HSC := Lib.hid hso
  clear kP hso hc1 hc3
  obtain ⟨f, hf⟩ : ∃ x, x = h.f := ⟨_, rfl⟩
  rw [← hf] at HSC hf5 ⊢
  clear hf
  refine region_simL [.pointer (some ⟨gx, 2, none⟩), .int .u32 (h.d : Int), .slice (some ⟨bc, oc, none⟩) f f, undef, .pointer (some ⟨gx, 4, none⟩), .int .u32 (h.m : Int), .pointer (some ⟨gx, 5, none⟩), .int .i64 (h.r : Int), undef, undef] [(3, fun x w' => ∃ B m k, x = .slice B m k ∧ SlF gs cn B m k w'), (8, fun x w' => ∃ B m k, x = .agg (tab 4 (sgE sg ⟨B, m, k⟩)) ∧ SlF gs cn B m k w'), (9, fun x w' => ∃ B m k, x = undef ∧ Has w' gs 36 (tab 4 (sgE sg ⟨B, m, k⟩)) ∧ SlF gs cn B m k w')] [(3, fun w' => gs < w'.heap.size), (9, fun w' => Has w' gs 36 (tab 4 (sgE sg0 ⟨none, 0, 0⟩)))] [(3, fun w' w'' => Below w'.heap.size w' w''), (9, fun w' w'' => w'.grownBy w'' (some gs))] (fun w' => Has w' gx 51 (tab 6 (hdE h)) ∧ Below w0.heap.size w0 w') 25 (by kernel_rfl) rfl (by kernel_rfl) ?_ ?_ ?_ ?_ ?_ (by decide) ?_
  · intro w' hb _
    refine ⟨⟨hX.after hb, hB0.trans (hb.mono hB0.size)⟩, ?_⟩
    simp only [List.forall_mem_cons, List.not_mem_nil, false_implies, implies_true, and_true]
    exact ⟨Nat.lt_of_lt_of_le hSG.lt hb.size, hSG.after hb⟩
  · simp only [List.forall_mem_cons, List.not_mem_nil, false_implies, implies_true, and_true]
    refine ⟨?_, ?_⟩
    · exact fun w' w'' h hy => ⟨h.1.after hy, h.2.trans (hy.mono h.2.size)⟩
    · exact fun w' w'' h hy => ⟨has_grown h.1 hy (fun l e => by injection e with e; omega), below_only h.2 hy hgsw h.2.size⟩
  · simp only [List.forall_mem_cons, List.not_mem_nil, false_implies, implies_true, and_true]
    refine ⟨⟨?_, ?_⟩, ⟨?_, ?_⟩, ⟨?_, ?_⟩⟩
    · exact fun h => absurd rfl h
    · exact fun _ _ x w' w'' _ ⟨B, m, k, e, hS⟩ hT => ⟨B, m, k, e, hS.grown hT⟩
    · exact fun _ _ x w' w'' _ ⟨B, m, k, e, hS⟩ hT => ⟨B, m, k, e, hS.below hT⟩
    · exact fun _ _ x w' w'' _ ⟨B, m, k, e, hS⟩ hT => ⟨B, m, k, e, hS.grown hT⟩
    · exact fun _ _ x w' w'' _ ⟨B, m, k, e, hH, hS⟩ hT => ⟨B, m, k, e, hH.after hT, hS.below hT⟩
    · exact fun h => absurd rfl h
  · simp only [List.forall_mem_cons, List.not_mem_nil, false_implies, implies_true, and_true]
    refine ⟨⟨?_, ?_⟩, ⟨?_, ?_⟩⟩
    · exact fun h => absurd rfl h
    · exact fun _ _ w' w'' _ h hT => Nat.lt_of_lt_of_le h hT.size
    · exact fun _ _ w' w'' _ h hT => h.after hT
    · exact fun h => absurd rfl h
  · refine ⟨⟨?_, ?_⟩, ⟨?_, ?_⟩, ⟨?_, ?_⟩, ⟨?_, ?_⟩, ⟨?_, ?_⟩, ⟨?_, ?_⟩, ⟨?_, ?_⟩, ⟨?_, ?_⟩, ⟨?_, ?_⟩, ⟨?_, ?_⟩, trivial⟩
    · intro v w' AA hAA hg hf hl hgd K hK
      exact pure_step (.pointer (some ⟨gx, 2, none⟩)) (fun ρ hρ => by
        have e3 : ρ (.tmp 3) = .pointer (some ⟨gx, 0, none⟩) := by rw [hρ]; exact hAA.2 3 (by simp)
        clear hρ hf hAA hl hK hg
        go_simp) (hK _ _ rfl ⟨rfl, hg.2⟩)
    · trivial
    · intro v w' AA hAA hg hf hl hgd K hK
      have hcell := (show w'.cell? ⟨gx, 2, none⟩ = some (.int .u32 (h.d : Int)) from hg.2.1.cellTab 2 (by omega))
      exact pure_step (.int .u32 (h.d : Int)) (fun ρ hρ => by
        have e16 : ρ (.tmp 16) = .pointer (some ⟨gx, 2, none⟩) := by rw [hρ]; exact (hAA.1 0 _ 16 rfl rfl).trans (hf ⟨0, .data⟩ (by simp) rfl).1
        clear hρ hf hAA hl hK hg
        go_simp) (hK _ _ rfl ⟨rfl, hg.2⟩)
    · trivial
    · intro v w' AA hAA hg hf hl hgd K hK
      exact pure_step (.slice (some ⟨bc, oc, none⟩) f f) (fun ρ hρ => by
        have e5 : ρ (.tmp 5) = .slice (some ⟨bc, oc, none⟩) f f := by rw [hρ]; exact hAA.2 5 (by simp)
        clear hρ hf hAA hl hK hg
        go_simp) (hK _ _ rfl ⟨rfl, hg.2⟩)
    · trivial
    · intro v w' AA hAA hg hf hl hgd K hK
      have hsz : w0.heap.size ≤ w'.heap.size := hg.2.2.size
      have es : AA.eval (.const (.slice none 0 0)) = .slice none 0 0 := rfl
      have ex : AA.eval (.tmp 18) = .slice (some ⟨bc, oc, none⟩) f f := (hAA.1 2 _ 18 rfl rfl).trans (hf ⟨2, .data⟩ (by simp) rfl).1
      have hSw := HSC.out.below hg.2.2
      refine wp_append_bytesK _ _ rfl w'.heap.size (.slice none 0 0) 0 [] es (World.ownsRow_nil _ _ _ _) _ f f ex cn hSw (by omega) (Nat.le_refl _) ?_
      intro v' w'' hown' hgr'
      have hbl : Below w'.heap.size w' w'' := below_own (Below.refl _ _) (World.ownsRow_nil w' w'.heap.size 5 1) (Nat.le_refl _) (Nat.le_refl _) hgr'
      obtain ⟨Av, cv, rfl⟩ := own_form hown'
      rw [Nat.zero_add] at hown'
      have hSl := own_slA hown'
      rw [Nat.zero_add]
      exact hK _ _ hbl ⟨⟨Av, f, cv, rfl, ⟨hSl.1, fun b o s e h0 => by have h1 := (own_blk hown' (l := b) (by subst e; rfl)).1; have h2 : gs < w'.heap.size := hg.1; omega, own_ty hown'⟩⟩, hg.2.1.after hbl, hg.2.2.trans (hbl.mono hsz)⟩
    · trivial
    · intro v w' AA hAA hg hf hl hgd K hK
      exact pure_step (.pointer (some ⟨gx, 4, none⟩)) (fun ρ hρ => by
        have e3 : ρ (.tmp 3) = .pointer (some ⟨gx, 0, none⟩) := by rw [hρ]; exact hAA.2 3 (by simp)
        clear hρ hf hAA hl hK hg
        go_simp) (hK _ _ rfl ⟨rfl, hg.2⟩)
    · trivial
    · intro v w' AA hAA hg hf hl hgd K hK
      have hcell := (show w'.cell? ⟨gx, 4, none⟩ = some (.int .u32 (h.m : Int)) from hg.2.1.cellTab 4 (by omega))
      exact pure_step (.int .u32 (h.m : Int)) (fun ρ hρ => by
        have e20 : ρ (.tmp 20) = .pointer (some ⟨gx, 4, none⟩) := by rw [hρ]; exact (hAA.1 4 _ 20 rfl rfl).trans (hf ⟨4, .data⟩ (by simp) rfl).1
        clear hρ hf hAA hl hK hg
        go_simp) (hK _ _ rfl ⟨rfl, hg.2⟩)
    · trivial
    · intro v w' AA hAA hg hf hl hgd K hK
      exact pure_step (.pointer (some ⟨gx, 5, none⟩)) (fun ρ hρ => by
        have e3 : ρ (.tmp 3) = .pointer (some ⟨gx, 0, none⟩) := by rw [hρ]; exact hAA.2 3 (by simp)
        clear hρ hf hAA hl hK hg
        go_simp) (hK _ _ rfl ⟨rfl, hg.2⟩)
    · trivial
    · intro v w' AA hAA hg hf hl hgd K hK
      have hcell := (show w'.cell? ⟨gx, 5, none⟩ = some (.int .i64 (h.r : Int)) from hg.2.1.cellTab 5 (by omega))
      exact pure_step (.int .i64 (h.r : Int)) (fun ρ hρ => by
        have e22 : ρ (.tmp 22) = .pointer (some ⟨gx, 5, none⟩) := by rw [hρ]; exact (hAA.1 6 _ 22 rfl rfl).trans (hf ⟨6, .data⟩ (by simp) rfl).1
        clear hρ hf hAA hl hK hg
        go_simp) (hK _ _ rfl ⟨rfl, hg.2⟩)
    · trivial
    · intro v w' AA hAA hg hf hl hgd K hK
      obtain ⟨⟨B3, m3, k3, hv3, hS3⟩, _⟩ := hf ⟨3, .data⟩ (by simp) rfl
      refine pure_step (.agg (tab 4 (sgE sg ⟨B3, m3, k3⟩))) (fun ρ hρ => by
        have e17 : ρ (.tmp 17) = .int .u32 (h.d : Int) := by rw [hρ]; exact (hAA.1 1 _ 17 rfl rfl).trans (hf ⟨1, .data⟩ (by simp) rfl).1
        have e19 : ρ (.tmp 19) = .slice B3 m3 k3 := by rw [hρ]; exact (hAA.1 3 _ 19 rfl rfl).trans hv3
        have e21 : ρ (.tmp 21) = .int .u32 (h.m : Int) := by rw [hρ]; exact (hAA.1 5 _ 21 rfl rfl).trans (hf ⟨5, .data⟩ (by simp) rfl).1
        have e23 : ρ (.tmp 23) = .int .i64 (h.r : Int) := by rw [hρ]; exact (hAA.1 7 _ 23 rfl rfl).trans (hf ⟨7, .data⟩ (by simp) rfl).1
        clear hρ hf hAA hl hK hg
        obtain ⟨_, _, q1, q2, q3⟩ := HSG.out
        rw [← sgE_lit, q1, q2, q3]
        go_simp) (hK _ _ rfl ⟨⟨B3, m3, k3, rfl, hS3⟩, hg.2⟩)
    · trivial
    · intro v w' AA hAA hg hf hl hgd K hK
      obtain ⟨⟨B8, m8, k8, hv8, hS8⟩, _⟩ := hf ⟨8, .data⟩ (by simp) rfl
      have ex : AA.eval (.tmp 4) = .pointer (some ⟨gs, 0, none⟩) := hAA.2 4 (by simp)
      have ey : AA.eval (.tmp 24) = .agg (tab 4 (sgE sg ⟨B8, m8, k8⟩)) := (hAA.1 8 _ 24 rfl rfl).trans hv8
      refine wp_store_csK 36 _ _ rfl gs ex (tab 4 (sgE sg ⟨B8, m8, k8⟩)) ey _ (by simp only [tab_size]) (by rw [tab_size]; exact infoSE4) (tab_oneCell _ _ (sgE_one _ _)) hg.1 ?_
      intro w'' hH hgr
      exact hK _ _ hgr ⟨⟨B8, m8, k8, rfl, hH, hS8.grown hgr⟩, has_grown hg.2.1 hgr (fun l e => by injection e with e; omega), below_only hg.2.2 hgr hgsw hg.2.2.size⟩
    · trivial
  intro v wE hIE hE
  have f0 : v 0 = .pointer (some ⟨gx, 2, none⟩) := (hE 0 (by decide)).1
  have f1 : v 1 = .int .u32 (h.d : Int) := (hE 1 (by decide)).1
  have f2 : v 2 = .slice (some ⟨bc, oc, none⟩) f f := (hE 2 (by decide)).1
  obtain ⟨⟨B3, m3, k3, hv3, hS3⟩, _⟩ := hE 3 (by decide)
  have f4 : v 4 = .pointer (some ⟨gx, 4, none⟩) := (hE 4 (by decide)).1
  have f5 : v 5 = .int .u32 (h.m : Int) := (hE 5 (by decide)).1
  have f6 : v 6 = .pointer (some ⟨gx, 5, none⟩) := (hE 6 (by decide)).1
  have f7 : v 7 = .int .i64 (h.r : Int) := (hE 7 (by decide)).1
  obtain ⟨⟨B8, m8, k8, hv8, hS8⟩, _⟩ := hE 8 (by decide)
  obtain ⟨⟨B9, m9, k9, hv9, hH9, hS9⟩, _⟩ := hE 9 (by decide)
  clear hE
  simp only [putAll, Act.put, List.setIfInBounds_toArray, List.set_cons_zero, List.set_cons_succ, Nat.zero_add, Nat.reduceAdd]
  rw [f0, f1, f2, hv3, f4, f5, f6, f7, hv8]
  clear f0 f1 f2 f4 f5 f6 f7
  go_wp2_with fail
  obtain ⟨-, hbE⟩ := hIE
  exact bodyPost_ret (v := .agg (tab 4 (sgE sg ⟨B9, m9, k9⟩))) (results_cell1 rfl _ _ gs 36 _ _ rfl hH9 Try.underlying36 rfl (infoSEt _)) rfl ⟨⟨⟨B9, m9, k9⟩, by rw [HSG.out.1], by rw [← HSG.out.1, HSG.out.2.1]; exact hS9.sl, hS9.ty⟩, hbE⟩
end Go.Proofs.Ytoplknankmomcaa
