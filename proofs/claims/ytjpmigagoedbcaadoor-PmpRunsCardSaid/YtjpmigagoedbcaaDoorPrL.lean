/-
Layer 12: package pmp's ends: the places where another entry may begin to decide.
-/
import Derived.Test.YtjpmigagoedbcaaDoorPrK
import Derived.Test.YtjpmigagoedbcaaDoorPnD
import Derived.Maps.RangeWalk
namespace Go.Proofs.YtjpmigagoedbcaaDoor.Pm
open Go Go.RowKit
open Go.Sort (swp PermIn SortedIn)

def uV (x : Nat) : Nat → Value := fun _ => .int .u64 (x : Int)
theorem uV_one (x j : Nat) : (uV x j).oneCell' = true := rfl
theorem infoU : (Tryd.prog.info? 43).map (fun i => (i.zero, i.size, i.bytes)) = some (some (.int .u64 0), 1, 8) := by kernel_rfl
def filt (x : Nat) : List Nat := if 0 < x ∧ x < 4294967296 then [x] else []
def pts (es : List En) : Nat → List Nat
  | 0 => [4294967296]
  | i + 1 => pts es i ++ filt (rangeI es i).1 ++ filt (rangeI es i).2
theorem filt_len (x : Nat) : (filt x).length ≤ 1 := by unfold filt; split <;> simp
def partJ (F T : Nat) : Nat → List Nat
  | 0 => []
  | 1 => filt F
  | _ => filt F ++ filt T
theorem pts_len (es : List En) : ∀ i, (pts es i).length ≤ 2 * i + 1
  | 0 => by simp [pts]
  | i + 1 => by
    have h1 := pts_len es i
    have h2 := filt_len (rangeI es i).1
    have h3 := filt_len (rangeI es i).2
    simp only [pts, List.length_append]
    omega
theorem pts_pos (es : List En) : ∀ i, 1 ≤ (pts es i).length
  | 0 => by simp [pts]
  | i + 1 => by
    have h1 := pts_pos es i
    simp only [pts, List.length_append]
    omega
/-- a row of one, made just now -/
theorem own_first {w : World} {t : TypeId} {k : Nat} {cs : Array Value} (base n : Nat) (hb : base ≤ w.heap.size) (hn : n ≤ 1000000) (hs : cs.size = n * k) : (w.alloc (.cells cs t)).ownsRow base t k (.slice (some ⟨w.heap.size, 0, none⟩) n n) n cs.toList :=
  ⟨by simp [hs], Or.inr ⟨w.heap.size, n, cs, rfl, hb, Has.new w t cs, Nat.le_refl _, by simp only [maxLen]; omega, hs, by rw [List.take_of_length_le]; simp [hs]⟩⟩
/-- a row of numbers that the call owns, as the sorting reads it -/
theorem own_rowU {w : World} {base n c : Nat} {A : Option Addr} {xs : List Nat} (h : w.ownsRow base 43 1 (.slice A n c) n (cellsL 1 uV xs)) (h1 : 1 ≤ n) : ∃ g, A = some ⟨g, 0, none⟩ ∧ base ≤ g ∧ g < w.heap.size ∧ n ≤ c ∧ xs.length = n ∧ RowU w g 0 xs.toArray w := by
  have hl : xs.length = n := by have h2 := h.1; rw [cellsL_len] at h2; omega
  rcases h.2 with ⟨hv, h0⟩ | ⟨g, cap, cur, hv, hb, hg, hnc, hcm, hcs, htk⟩
  · omega
  · have e1 : A = some ⟨g, 0, none⟩ := by injection hv
    have e2 : c = cap := by injection hv
    subst e1 e2
    refine ⟨g, rfl, hb, (Array.getElem?_eq_some_iff.1 hg).1, hnc, hl, ⟨fun t ht => ?_, fun t ht => ?_, grown_refl w _⟩⟩
    · have ht' : t < xs.length := by simpa using ht
      have hc := h.cells (g := g) rfl
      have h3 := hc t _ (by have := cellsL_get 1 uV 0 xs t 0 ht' (by decide); rw [Nat.mul_one, Nat.add_zero] at this; exact this)
      have e4 := Addr.add_mid g 0 t
      have e5 : xs.getD t 0 = xs.toArray[t]! := by simp [List.getD_eq_getElem?_getD, ht']
      rw [e4] at h3
      rw [h3, ← e5]; rfl
    · generalize hq : (⟨g, 0 + t, none⟩ : Addr) = q
      have hqb : q.block = g := by rw [← hq]
      simp [World.frozen?, hqb, hg]
def EndsR (es : List En) (w : World) (en : Ending) (w' : World) : Prop := ∃ (g c : Nat) (d : Array Nat), en = .returned (.slice (some ⟨g, 0, none⟩) (Go.Lib.compactUpTo d d.size).length c) ∧ g < w'.heap.size ∧ (Go.Lib.compactUpTo d d.size).length ≤ c ∧
  (∀ t, t < (Go.Lib.compactUpTo d d.size).length → w'.cell? ⟨g, 0 + t, none⟩ = some (.int .u64 (((Go.Lib.compactUpTo d d.size).getD t 0 : Nat) : Int))) ∧ PermIn 0 d.size (pts es es.length).toArray d ∧ SortedIn ltN 0 d.size d ∧ d.size = (pts es es.length).length ∧ Below w.heap.size w w'
set_option maxRecDepth 100000 in
set_option maxHeartbeats 8000000 in
theorem ends_any (es : List En) (s : Sl) (w : World) (hT : TabT w) (hS : SlE w s es) (h40 : es.length ≤ 40) :
    Calls Tryd.prog 24 #[s.v] w (EndsR es w) := by
  have hlen := hS.1
  obtain ⟨A, m, c⟩ := s
  dsimp only at hlen
  have HS := Lib.hid hS
  have HT := Lib.hid hT
  have HLEN := Lib.hid hlen
  have hm40 : m ≤ 40 := by omega
  have hwf := fun i => rangeI_le es i fun e he => (hS.2.2 e he).a
  have HWF := Lib.hid hwf
  clear hS hT hlen hwf
  show Calls Tryd.prog 24 #[.slice A m c] w _
  unfold EndsR
  go_enter Tryd.func24, Tryd.ntmps24
  go_wp2_with fail
  have hown0 := own_first (t := 43) (k := 1) (w := w) (cs := #[.int .u64 4294967296]) w.heap.size 1 (Nat.le_refl _) (by decide) rfl
  have hb0 : Below w.heap.size w (w.alloc (.cells #[.int .u64 4294967296] 43)) := (Below.refl _ w).alloc (Nat.le_refl _) _
  have HO0 := Lib.hid hown0
  have HB0 := Lib.hid hb0
  clear hown0 hb0
  go_loopw [3, 12] (fun v3 v12 wr => ∃ (i n : Nat), v12 = .int .i64 (i : Int) ∧ i ≤ m ∧ n = (pts es i).length ∧ wr.ownsRow w.heap.size 43 1 v3 n (cellsL 1 uV (pts es i)) ∧ Below w.heap.size w wr) (fun _ v12 _ => (m - (intOf v12)).toNat)
  case atStart => exact ⟨0, 1, rfl, Nat.zero_le _, rfl, HO0.out, HB0.out⟩
  case round =>
    clear HO0 HB0
    obtain ⟨i, n, rfl, hi, hn, hown, hb⟩ := hrel
    have HN := Lib.hid hn
    have HO := Lib.hid hown
    have HB := Lib.hid hb
    have hnl : n ≤ 81 := by have := pts_len es i; omega
    have hn1 : 1 ≤ n := by rw [hn]; exact pts_pos es i
    clear hn hown hb
    by_cases hlt : i < m
    · have hlt' : (i : Int) < (m : Int) := by omega
      have kR := range_any es ⟨A, m, c⟩ i wr (HT.out.below HB.out) (HS.out.below HB.out) hlt
      obtain ⟨l1, l2⟩ := HWF.out i
      have hsu : pts es (i + 1) = pts es i ++ filt (rangeI es i).1 ++ filt (rangeI es i).2 := rfl
      have HSU := Lib.hid hsu
      clear hsu
      generalize (rangeI es i).1 = F at *
      generalize (rangeI es i).2 = T at *
      generalize pts es i = xs at *
      go_wp2_with fail
      refine (show Calls Tryd.prog 23 #[.slice A m c, .int .i64 (i : Int)] wr _ from kR).mono ?_
      rintro en w2 ⟨rfl, hb2⟩
      have hb3 := HB.out.trans (hb2.mono HB.out.size)
      have hown3 := own_after HO.out hb2
      have HB3 := Lib.hid hb3
      have HO3 := Lib.hid hown3
      clear hb2 hb3 hown3 kR HO HB
      go_wp2_with fail
      obtain ⟨wa, hwa, hX, hba, hsa⟩ := one_new w2 #[.int .u64 (F : Int), .int .u64 (T : Int)] 43
      rw [← hwa]
      have hb4 := HB3.out.trans (hba.mono HB3.out.size)
      have hown4 := own_after HO3.out hba
      have hne : ∀ l, u3.ownBlock = some l → l ≠ w2.heap.size := fun l hl => by have := (own_blk HO3.out hl).2; omega
      have HNE := Lib.hid hne
      have HB4 := Lib.hid hb4
      have HO4 := Lib.hid hown4
      have HX := Lib.hid hX
      clear hwa hsa hba hb4 hown4 hX HB3 HO3 hne
      generalize w2.heap.size = g2 at *
      go_loopw [3, 25] (fun v3 v25 wr => ∃ (j k : Nat) (ys : List Nat), v25 = .int .i64 (j : Int) ∧ j ≤ 2 ∧ ys = xs ++ partJ F T j ∧ k = ys.length ∧ wr.ownsRow w.heap.size 43 1 v3 k (cellsL 1 uV ys) ∧ Below w.heap.size w wr ∧ (j ≤ 1 → Has wr g2 43 #[.int .u64 (F : Int), .int .u64 (T : Int)]) ∧ (j = 0 → ∀ l, v3.ownBlock = some l → l ≠ g2)) (fun _ v25 _ => (2 - (intOf v25)).toNat)
      case atStart => exact ⟨0, n, xs, rfl, by omega, (List.append_nil _).symm, HN.out, HO4.out, HB4.out, fun _ => HX.out, fun _ => HNE.out⟩
      case round =>
        clear HX HO4 HB4 HNE
        obtain ⟨j, k, ys, rfl, hj, hys, hk, hown, hb, hX, hne⟩ := hrel
        have hkl : k ≤ 83 := by
          have h1 := filt_len F
          have h2 := filt_len T
          have h3 : (partJ F T j).length ≤ 2 := by
            match j, hj with
            | 0, _ => simp [partJ]
            | 1, _ => simp only [partJ]; omega
            | 2, _ => simp only [partJ, List.length_append]; omega
          have h4 := HN.out
          rw [hk, hys, List.length_append]; omega
        have HYS := Lib.hid hys
        have HK := Lib.hid hk
        have HO := Lib.hid hown
        have HB := Lib.hid hb
        have HX := Lib.hid hX
        have HNE := Lib.hid hne
        clear hys hk hown hb hX hne
        by_cases hj2 : j < 2
        · skip
          have hX := HX.out (by omega)
          obtain ⟨X, hXe⟩ : ∃ X, X = if j = 0 then F else T := ⟨_, rfl⟩
          have hXl : X < 68719476736 := by rw [hXe]; split <;> omega
          have cX : wr.cell? ⟨g2, j, none⟩ = some (.int .u64 (X : Int)) := by
            rw [hXe]
            by_cases h : j = 0
            · rw [h]; exact hX.cell 0
            · obtain rfl : j = 1 := by omega
              exact hX.cell 1
          have hpj : partJ F T (j + 1) = partJ F T j ++ filt X := by
            rw [hXe]
            by_cases h : j = 0
            · rw [h]; exact (List.nil_append _).symm
            · obtain rfl : j = 1 := by omega
              rfl
          have HPJ := Lib.hid hpj
          have HXX := Lib.hid hX
          have hj2' : (j : Int) < 2 := by omega
          clear hX hpj hXe
          by_cases hx0 : 0 < X
          · have hx0' : (0 : Int) < (X : Int) := by omega
            by_cases hx1 : X < 4294967296
            · have hx1' : (X : Int) < 4294967296 := by omega
              have hfl : filt X = [X] := if_pos ⟨hx0, hx1⟩
              have HFL := Lib.hid hfl
              clear hfl
              go_upto_region 9 with fail
              go_upto_if 34 with fail
              go_wp2_with (refine wp_append_els (f := uV) Tryd.underlying56 infoU rfl (by decide) (by decide) uV_one rfl _ _ rfl w.heap.size _ k _ rfl (own_after HO.out ((Below.refl _ _).alloc (Nat.le_refl _) _)) _ 1 rfl [X] rfl (Has.new _ _ _) (by omega) (by rw [size_alloc1]; have h8 := HB.out.size; omega) ?_; intro v5 w5 hown5 hgr5; go_frame)
              go_roundw
              case rel =>
                have hb5 := below_app HB.out HO.out hgr5
                have hX5 : j = 0 → Has w5 g2 43 #[.int .u64 (F : Int), .int .u64 (T : Int)] := fun h => has_grown (HXX.out.below ((Below.refl _ _).alloc (Nat.le_refl _) _) HXX.out.lt) hgr5 (fun l hl => (fun e => HNE.out h l hl e.symm))
                exact ⟨j + 1, k + 1, _, by go_num, by omega, rfl, by rw [HPJ.out, HFL.out, ← List.append_assoc, ← HYS.out, List.length_append, ← HK.out]; rfl, by rw [HPJ.out, HFL.out, ← List.append_assoc, ← HYS.out]; exact hown5, hb5, fun h => hX5 (by omega), fun h => by omega⟩
              case measure => simp [intOf] <;> omega
            · have hx1' : ¬ (X : Int) < 4294967296 := by omega
              have hfl : filt X = [] := if_neg (by omega)
              have HFL := Lib.hid hfl
              clear hfl
              go_upto_region 9 with fail
              go_upto_if 34 with fail
              go_wp2_with fail
              go_roundw
              case rel => exact ⟨j + 1, k, _, by go_num, by omega, rfl, by rw [HPJ.out, HFL.out, List.append_nil, ← HYS.out]; exact HK.out, by rw [HPJ.out, HFL.out, List.append_nil, ← HYS.out]; exact HO.out, HB.out, fun _ => HXX.out, fun h => by omega⟩
              case measure => simp [intOf] <;> omega
          · have hx0' : ¬ (0 : Int) < (X : Int) := by omega
            have hfl : filt X = [] := if_neg (by omega)
            have HFL := Lib.hid hfl
            clear hfl
            go_upto_region 9 with fail
            go_upto_if 34 with fail
            go_wp2_with fail
            go_roundw
            case rel => exact ⟨j + 1, k, _, by go_num, by omega, rfl, by rw [HPJ.out, HFL.out, List.append_nil, ← HYS.out]; exact HK.out, by rw [HPJ.out, HFL.out, List.append_nil, ← HYS.out]; exact HO.out, HB.out, fun _ => HXX.out, fun h => by omega⟩
            case measure => simp [intOf] <;> omega
        · obtain rfl : j = 2 := by omega
          have hj2' : ¬ ((2 : Nat) : Int) < 2 := by omega
          go_wp2_with fail
          go_roundw
          case rel =>
            refine ⟨i + 1, k, by go_num, by omega, ?_, ?_, HB.out⟩
            · rw [HSU.out, HK.out, HYS.out]; simp [partJ]
            · rw [HSU.out]; have h := HO.out; rw [HYS.out] at h; simpa [partJ] using h
          case measure => simp [intOf] <;> omega
    · obtain rfl : i = m := by omega
      have hlt' : ¬ (i : Int) < (i : Int) := by omega
      obtain ⟨A3, c3, rfl⟩ := own_sl HO.out
      obtain ⟨g, rfl, hg1, hg2, hnc, hxl, hR⟩ := own_rowU HO.out hn1
      have HR := Lib.hid hR
      clear hR
      go_wp2_with fail
      refine (sort_any g 0 n c3 _ wr wr HR.out (by simpa using hxl) hg2 hn1 (by omega)).mono ?_
      rintro en w4 ⟨rfl, d, hP, hSd, hR4⟩
      have hds : d.size = n := by rw [hP.1]; simpa using hxl
      have HR4 := Lib.hid hR4
      have HP := Lib.hid hP
      have HSD := Lib.hid hSd
      clear hR4 hP hSd
      go_wp2_with fail
      refine (compact_any g 0 n c3 d wr w4 HR4.out hds hnc (by omega)).mono ?_
      rintro en w5 ⟨rfl, hcl, hgr⟩
      have hb5 := below_only HB.out hgr hg1 HB.out.size
      have HCL := Lib.hid hcl
      have HGR := Lib.hid hgr
      have HB5 := Lib.hid hb5
      clear hcl hgr hb5
      go_wp2_with fail
      go_ret
      refine ⟨g, c3, d, by rw [hds]; rfl, Nat.lt_of_lt_of_le hg2 HGR.out.size, ?_, ?_, ?_, ?_, ?_, HB5.out⟩
      · have h := HCL.out
        rw [hds]
        have h2 : (Go.Lib.compactUpTo d n).length ≤ n := by
          unfold Go.Lib.compactUpTo
          rw [List.length_map]
          exact Nat.le_trans (List.length_filter_le _ _) (by simp)
        omega
      · rw [hds]; exact HCL.out
      · rw [hds, HLEN.out]; exact HP.out
      · rw [hds]; exact HSD.out
      · rw [hds, HLEN.out]; exact HN.out
end Go.Proofs.YtjpmigagoedbcaaDoor.Pm
