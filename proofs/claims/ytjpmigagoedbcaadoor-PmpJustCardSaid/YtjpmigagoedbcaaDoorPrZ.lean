/-
Layer 12: package pmp's Runs.
-/
import Derived.Test.YtjpmigagoedbcaaDoorPrO
namespace Go.Proofs.YtjpmigagoedbcaaDoor.Pm
open Go Go.RowKit
open Go.Lib (compactUpTo keeps)
open Go.Sort (PermIn SortedIn)

/-- what the points hold -/
theorem pts_list (es : List En) (d : Array Nat) (hP : PermIn 0 d.size (pts es es.length).toArray d) (hS : SortedIn ltN 0 d.size d) :
    PtsL (fun x => x ∈ pts es es.length) (compactUpTo d d.size) ∧ (∀ x ∈ compactUpTo d d.size, 0 < x ∧ x ≤ 4294967296) ∧ 4294967296 ∈ compactUpTo d d.size := by
  have hm : ∀ x, x ∈ pts es es.length ↔ x ∈ compactUpTo d d.size := fun x => by
    rw [cmp_mem, perm_mem hP]
  refine ⟨⟨fun i j hi hj => List.pairwise_iff_getElem.1 (cmp_up d hS) i j (by omega) hj hi, hm⟩, fun x hx => ?_, ?_⟩
  · rcases (pts_mem es _ x).1 ((hm x).2 hx) with h | ⟨h, _⟩
    · omega
    · omega
  · exact (hm _).1 ((pts_mem es _ _).2 (Or.inl rfl))
theorem last_pt {S : Nat → Prop} {L : List Nat} (h : PtsL S L) (hle : ∀ x ∈ L, 0 < x ∧ x ≤ 4294967296) (hm : 4294967296 ∈ L) : prevL L L.length = 4294967296 := by
  obtain ⟨k, hk, e⟩ := List.getElem_of_mem hm
  have hl : 0 < L.length := by omega
  have e2 : prevL L L.length = L[L.length - 1]'(by omega) := by
    unfold prevL
    rw [if_neg (by omega), List.getD_eq_getElem?_getD, List.getElem?_eq_getElem (by omega)]; rfl
  rw [e2]
  have h1 := (hle _ (List.getElem_mem (show L.length - 1 < L.length by omega))).2
  rcases Nat.lt_or_ge k (L.length - 1) with h3 | h3
  · have := h.up k (L.length - 1) h3 (by omega); omega
  · have : k = L.length - 1 := by omega
    subst this; exact e
theorem span_pts (es : List En) (q : Sp) (hq : q ∈ tri 0 es) : (0 < q.f → q.f < 4294967296 → q.f ∈ pts es es.length) ∧ (0 < q.t → q.t < 4294967296 → q.t ∈ pts es es.length) := by
  obtain ⟨j, hj, rfl⟩ := List.getElem_of_mem hq
  have hj' : j < es.length := by rwa [tri_len] at hj
  have h2 := tri_at es 0 j hj'
  rw [List.getElem?_eq_getElem hj] at h2
  rw [Option.some.inj h2]
  exact ⟨fun h1 h3 => (pts_mem es _ _).2 (Or.inr ⟨⟨h1, h3⟩, j, hj', Or.inl rfl⟩), fun h1 h3 => (pts_mem es _ _).2 (Or.inr ⟨⟨h1, h3⟩, j, hj', Or.inr rfl⟩)⟩
set_option maxRecDepth 100000 in
set_option maxHeartbeats 8000000 in
theorem runs_any (es : List En) (s : Sl) (w : World) (hT : TabT w) (hS : SlE w s es) (hpl : plainL es) :
    Calls Tryd.prog 15 #[s.v] w fun e w' => RunR es e w' ∧ Below w.heap.size w w' := by
  have h40 := hpl.2
  obtain ⟨A, m, c⟩ := s
  have kE := ends_any es ⟨A, m, c⟩ w hT hS h40
  have HS := Lib.hid hS
  have HT := Lib.hid hT
  clear hS hT hpl
  show Calls Tryd.prog 15 #[.slice A m c] w _
  go_enter Tryd.func15, Tryd.ntmps15
  go_wp2_with fail
  refine (show Calls Tryd.prog 24 #[.slice A m c] w _ from kE).mono ?_
  rintro en w1 ⟨g, c1, d, rfl, hg, hlc, hcell, hP, hSo, hds, hb1⟩
  obtain ⟨hL, hle, hmem⟩ := pts_list es d hP hSo
  have hln : (compactUpTo d d.size).length ≤ 81 := by
    have h1 : (compactUpTo d d.size).length ≤ d.size := by
      unfold compactUpTo
      rw [List.length_map]
      exact Nat.le_trans (List.length_filter_le _ _) (by simp)
    have := pts_len es es.length
    omega
  generalize compactUpTo d d.size = L at *
  have hlast := last_pt hL hle hmem
  obtain ⟨n, hn⟩ : ∃ n, n = L.length := ⟨_, rfl⟩
  rw [← hn] at hlc hln hcell ⊢
  have hcst := fun i (hi : i < L.length) => const_span hL (tri 0 es) (fun q hq => span_pts es q hq) i hi (hle _ (List.getElem_mem hi)).2
  have HC := Lib.hid hcst
  have HL := Lib.hid hL
  have HLE := Lib.hid hle
  have HCELL := Lib.hid hcell
  have HB1 := Lib.hid hb1
  have HN := Lib.hid hn
  have HLA := Lib.hid hlast
  clear hcst hL hle hcell hb1 hP hSo hds hmem kE hn hlast hlc
  go_wp2_with fail
  go_loopw [3, 4, 11] (fun v3 v4 v11 wr => ∃ (i k : Nat) (rs : List Sp), v11 = .int .i64 (i : Int) ∧ i ≤ n ∧ v4 = .int .u64 ((prevL L i : Nat) : Int) ∧ k = rs.length ∧ k ≤ i ∧ wr.ownsRow w1.heap.size 45 3 v3 k (cellsL 3 ruV rs) ∧ RunsTo (byteT (tri 0 es)) rs (prevL L i) ∧ Below w1.heap.size w1 wr) (fun _ _ v11 _ => (n - (intOf v11)).toNat)
  case atStart => exact ⟨0, 0, [], rfl, Nat.zero_le _, rfl, rfl, Nat.le_refl _, ⟨rfl, Or.inl ⟨rfl, rfl⟩⟩, RunsTo.start _, Below.refl _ _⟩
  case round =>
    obtain ⟨i, k, rs, rfl, hi, rfl, hk, hki, hown, hrt, hb⟩ := hrel
    have HK := Lib.hid hk
    have HO := Lib.hid hown
    have HRT := Lib.hid hrt
    have HB := Lib.hid hb
    clear hk hown hrt hb
    by_cases hlt : i < n
    · have hlt' : (i : Int) < (n : Int) := by omega
      have hil : i < L.length := by rw [← HN.out]; exact hlt
      have hct : ∀ x, prevL L i ≤ x → x < L[i] → byteT (tri 0 es) x = byteT (tri 0 es) (prevL L i) := HC.out i hil
      have hpl : prevL L i < L[i] := by
        unfold prevL
        split
        · exact (HLE.out _ (List.getElem_mem hil)).1
        · rw [List.getD_eq_getElem?_getD, List.getElem?_eq_getElem (by omega)]
          exact HL.out.up (i - 1) i (by omega) hil
      have hle4 : L[i] ≤ 4294967296 := (HLE.out _ (List.getElem_mem hil)).2
      have hnext : prevL L (i + 1) = L[i] := by
        unfold prevL
        rw [if_neg (by omega), Nat.add_sub_cancel, List.getD_eq_getElem?_getD, List.getElem?_eq_getElem hil]; rfl
      have hc : wr.cell? ⟨g, 0 + i, none⟩ = some (.int .u64 ((L[i] : Nat) : Int)) := by
        rw [HB.out.cell (p := ⟨g, 0 + i, none⟩) hg, HCELL.out i hlt, List.getD_eq_getElem?_getD, List.getElem?_eq_getElem hil]; rfl
      rw [Nat.zero_add] at hc
      have hbw := HB1.out.trans (HB.out.mono HB1.out.size)
      have kR := rights_any es ⟨A, m, c⟩ (prevL L i) wr (HT.out.below hbw) (HS.out.below hbw) h40 (by omega)
      generalize hz : prevL L i = z at *
      generalize L[i] = t at *
      have HCT := Lib.hid hct
      have HPL := Lib.hid hpl
      have HNX := Lib.hid hnext
      clear hct hpl hnext hil hz hbw
      go_upto_region 6 with fail
      generalize hrr : byteT (tri 0 es) z = r at *
      have HRR := Lib.hid hrr
      clear hrr
      go_wp2_with fail
      refine (show Calls Tryd.prog 25 #[.slice A m c, .int .u64 (z : Int)] wr _ from kR).mono ?_
      rintro en w2 ⟨rfl, hb2⟩
      have hb3 := HB.out.trans (hb2.mono HB.out.size)
      have hown3 := own_after HO.out hb2
      have HB3 := Lib.hid hb3
      have HO3 := Lib.hid hown3
      clear hb2 hb3 hown3 kR HB HO hc
      by_cases hr0 : r = 0
      · have hr0' : (r != 0) = false := bne_eq_false_iff_eq.2 hr0
        have hrt : RunsTo (byteT (tri 0 es)) rs t := HRT.out.skip (Nat.le_of_lt HPL.out) (fun x h1 h2 => (HCT.out x h1 h2).trans hr0)
        have HRT2 := Lib.hid hrt
        clear hrt hr0
        go_wp2_with fail
        go_roundw
        case rel => exact ⟨i + 1, k, rs, by go_num, by omega, by rw [HNX.out], HK.out, by omega, HO3.out, by rw [HNX.out]; exact HRT2.out, HB3.out⟩
        case measure => simp [intOf] <;> omega
      · have hr0' : (r != 0) = true := bne_iff_ne.2 hr0
        have hrt : RunsTo (byteT (tri 0 es)) (extE rs ⟨z, t, r⟩) t := HRT.out.more HPL.out hr0 (fun x h1 h2 => HCT.out x h1 h2)
        have HRT2 := Lib.hid hrt
        clear hrt hr0
        go_wp2_with fail
        refine (extend_any rs z t r w1.heap.size k u3 w2 HO3.out HB3.out.size (by omega)).mono ?_
        rintro en w3 ⟨v', k', rfl, hk', hown4, hgr4⟩
        have hb4 := below_own HB3.out HO3.out (Nat.le_refl _) HB3.out.size hgr4
        have HK2 := Lib.hid hk'
        have HO4 := Lib.hid hown4
        have HB4 := Lib.hid hb4
        have hk2l : k' ≤ i + 1 := by
          have h1 := ext_len rs ⟨z, t, r⟩
          have h2 := HK.out
          omega
        clear hk' hown4 hgr4 hb4 HO3 HB3
        go_wp2_with fail
        go_roundw
        case rel => exact ⟨i + 1, k', _, by go_num, by omega, by rw [HNX.out], HK2.out, hk2l, HO4.out, by rw [HNX.out]; exact HRT2.out, HB4.out⟩
        case measure => simp [intOf] <;> omega
    · obtain rfl : i = n := by omega
      have hlt' : ¬ (i : Int) < (i : Int) := by omega
      obtain ⟨A3, c3, rfl⟩ := own_sl HO.out
      have hrt := HRT.out
      rw [HN.out, HLA.out] at hrt
      have HRT2 := Lib.hid hrt
      have hsl := own_slC HO.out (by decide) (by omega) sp0
      have HSL := Lib.hid hsl
      have hbw := HB1.out.trans (HB.out.mono HB1.out.size)
      have HBW := Lib.hid hbw
      clear hrt hsl hbw hlt
      go_wp2_with fail
      go_ret
      refine ⟨?_, HBW.out⟩
      exact ⟨A3, k, c3, rs, rfl, ⟨HSL.out.1, HSL.out.2⟩, HRT2.out.done⟩
/-- what Runs answers -/
theorem runs_ok : RunsOK where
  runs := runs_any
end Go.Proofs.YtjpmigagoedbcaaDoor.Pm
