/-
Layer 10: the laws' own example; a memory that is none.
Layer 10, PlaceRuns: memory and the reference's map hold the same bytes.
Layer 10, PlaceRuns: the law's like.
-/
import Derived.Test.YtdifapdppdcidaaJPd
namespace Go.Proofs.Ytdifapdppdcidaa
open Go Go.RowKit

set_option maxRecDepth 100000 in
set_option maxHeartbeats 1000000 in
theorem fit10_any (w : World) : Calls Try.prog 7 #[] w fun e w' => e = .returned (.bool true) ∧ Below w.heap.size w w' := by
  have kN := pnew_any w
  have kS := fun g W (h : RamP W g mem0) => store_any mem0 g 2147483648 16909060 4 W h (by decide) (by decide)
  have kL := fun g W (h : RamP W g (stM mem0 2147483648 4 16909060)) => mload_any (stM mem0 2147483648 4 16909060) g 2147483649 2 W h (by decide)
  rw [show stB 2147483648 4 = true by decide, show erI true = 0 from rfl] at kS
  rw [show stB 2147483649 2 = true by decide, show erI true = 0 from rfl, show ldV (stM mem0 2147483648 4 16909060) 2147483649 2 = 515 by decide +kernel] at kL
  have kAd := fun g W => has_any g 2147483647 1 W (by decide) (by decide)
  have kB := fun g W => has_any g 2147483648 65536 W (by decide) (by decide)
  rw [show inB 2147483647 1 2147483648 65536 = false by decide] at kAd
  rw [show inB 2147483648 65536 2147483648 65536 = true by decide] at kB
  simp only [Int.cast_ofNat_Int] at kS kL kAd kB
  have HM : Hid (∃ m1, m1 = stM mem0 2147483648 4 16909060) := Lib.hid ⟨_, rfl⟩
  obtain ⟨m1, hm1⟩ := HM.out
  rw [← hm1] at kS kL
  clear hm1 HM
  generalize mem0 = m0 at *
  go_enter Try.func7, Try.ntmps7
  go_wp2_with (first
    | (go_at_call 8; refine kN.mono ?_; rintro e w1 ⟨⟨g, rfl, hG, hgw⟩, hb1⟩)
    | (go_at_call 16; refine (kS _ _ hG).mono ?_; rintro e w2 ⟨rfl, hG2, hgr⟩)
    | (go_at_call 14; refine (kL _ _ hG2).mono ?_; rintro e w3 ⟨rfl, hb3⟩))
  go_wp2_with fail
  refine (kAd _ _).mono ?_
  rintro e w4 ⟨rfl, rfl⟩
  clear kAd
  go_wp2_with fail
  refine (kB _ _).mono ?_
  rintro e w4 ⟨rfl, rfl⟩
  clear kB
  go_wp2_with fail
  go_ret
  exact ⟨rfl, (below_only hb1 hgr hgw hb1.size).trans (hb3.mono (Nat.le_trans hb1.size hgr.size))⟩
set_option maxRecDepth 100000 in
set_option maxHeartbeats 1000000 in
theorem none10_ok (a n : Nat) (A : Option Addr) (m c : Nat) (w : World) (_ha : a < 4294967296) (hn : n < 4294967296) :
    Calls Try.prog 5 #[.int .u32 (a : Int), .int .u32 (n : Int), .slice A m c] w fun e w' => e = .returned (.bool true) ∧ Below w.heap.size w w' := by
  have kF := fit10_any w
  have k1 := fun W => get_nil a n W
  have k2 := fun W => load_nil a W
  have k3 := fun W => has_nil a n W
  have k4 := fun W => put_nil a A m c W
  have k5 := fun W => store_nil a n W hn
  have k6 := fun W => copy_nil W
  by_cases h6 : 100000 < (m : Int)
  · go_enter Try.func5, Try.ntmps5
    go_wp2_with (go_at_call 7; refine kF.mono ?_; rintro e w1 ⟨rfl, hb1⟩)
    go_ret
    exact ⟨rfl, hb1⟩
  · go_enter Try.func5, Try.ntmps5
    go_wp2_with (first
      | (go_at_call 7; refine kF.mono ?_; rintro e w1 ⟨rfl, hb1⟩)
      | (go_at_call 10; refine (k1 _).mono ?_; rintro e w2 ⟨rfl, rfl⟩)
      | (go_at_call 14; refine (k2 _).mono ?_; rintro e w2 ⟨rfl, rfl⟩)
      | (go_at_call 19; refine (k3 _).mono ?_; rintro e w2 ⟨rfl, rfl⟩)
      | (go_at_call 12; refine (k4 _).mono ?_; rintro e w2 ⟨rfl, rfl⟩)
      | (go_at_call 16; refine (k5 _).mono ?_; rintro e w3 ⟨rfl, hb3⟩)
      | (go_at_call 18; refine (k6 _).mono ?_; rintro e w4 ⟨rfl, rfl⟩))
    go_ret
    exact ⟨rfl, below_trans hb1 hb3⟩
end Go.Proofs.Ytdifapdppdcidaa
namespace Go.Proofs.Ytdifapdppdcidaa
open Go Go.RowKit

/-- how many bytes are not 0 among the first n, those that are still to come -/
def nzL (m : Nat → UInt8) (left : Lit → Bool) (n : Nat) : Nat := (List.range n).countP fun j => left (kAd (2147483648 + j)) && (m j != 0)
def nz (m : Nat → UInt8) (n : Nat) : Nat := (List.range n).countP fun j => m j != 0
theorem nz_snoc (m : Nat → UInt8) (n : Nat) : nz m (n + 1) = nz m n + (if m n != 0 then 1 else 0) := by
  unfold nz
  rw [List.range_succ, List.countP_append, List.countP_cons, List.countP_nil, Nat.zero_add]
theorem nz_le (m : Nat → UInt8) (n : Nat) : nz m n ≤ n := by
  unfold nz
  have := List.countP_le_length (p := fun j => m j != 0) (l := List.range n)
  rwa [List.length_range] at this
theorem nzL_le (m : Nat → UInt8) (left : Lit → Bool) (n : Nat) : nzL m left n ≤ n := by
  unfold nzL
  have := List.countP_le_length (p := fun j => left (kAd (2147483648 + j)) && (m j != 0)) (l := List.range n)
  rwa [List.length_range] at this
theorem countP_e {p q : Nat → Bool} (n : Nat) (h : ∀ j, j < n → p j = q j) : (List.range n).countP p = (List.range n).countP q :=
  List.countP_congr fun j hj => by rw [h j (List.mem_range.1 hj)]
theorem countP_1 {p q : Nat → Bool} (j0 : Nat) (hp : p j0 = true) (hq : q j0 = false) (h : ∀ j, j ≠ j0 → p j = q j) : ∀ n, j0 < n → (List.range n).countP p = (List.range n).countP q + 1
  | 0, hn => absurd hn (Nat.not_lt_zero _)
  | n + 1, hn => by
    rw [List.range_succ, List.countP_append, List.countP_append, List.countP_cons, List.countP_cons, List.countP_nil, List.countP_nil, Nat.zero_add]
    by_cases e : j0 = n
    · subst e
      rw [hp, hq, countP_e (q := q) j0 fun j hj => h j (by omega)]
      rfl
    · rw [countP_1 j0 hp hq h n (by omega), h n (fun e2 => e e2.symm)]
      omega
theorem nzL_all {D : DataW Unit} {m : Nat → UInt8} (h : MapD D m) : nzL m (Maps.has D) 65536 = nz m 65536 := by
  refine countP_e _ fun j hj => ?_
  cases hm : m j != 0 with
  | false => rw [Bool.and_false]
  | true =>
    rw [Bool.and_true]
    cases hh : Maps.has D (kAd (2147483648 + j)) with
    | true => rfl
    | false =>
      have h1 := h.vals (2147483648 + j) ⟨by omega, by omega⟩
      rw [Maps.atKey_of_not_has hh] at h1
      rw [show 2147483648 + j - 2147483648 = j by omega] at h1
      injection h1 with h1
      injection h1 with _ h1
      have h2 : m j = 0 := UInt8.toNat.inj (by have h3 : (0 : UInt8).toNat = (m j).toNat := Int.ofNat.inj h1; exact h3.symm)
      rw [h2] at hm
      exact absurd hm (by decide)
theorem nzL_none {m : Nat → UInt8} {left : Lit → Bool} (h : ∀ k, left k = false) (n : Nat) : nzL m left n = 0 := by
  unfold nzL
  rw [List.countP_eq_zero]
  intro j _
  rw [h, Bool.false_and]
  decide
theorem nzL_strike {m : Nat → UInt8} {left : Lit → Bool} {t : Nat} (ht : isA t) (hl : left (kAd t) = true) :
    nzL m left 65536 = nzL m (fun z => left z && !z.sameKey (kAd t)) 65536 + (if m (t - 2147483648) != 0 then 1 else 0) := by
  have ht' := ht
  obtain ⟨h1, h2⟩ := ht
  have hsame : (kAd t).sameKey (kAd t) = true := WideAt.sameKey_self trivial
  have hother : ∀ j, j ≠ t - 2147483648 → (kAd (2147483648 + j)).sameKey (kAd t) = false := fun j hj => Maps.sameKey_ne fun e => by
    injection e with _ e
    omega
  have hb : ∀ j, (fun z : Lit => left z && !z.sameKey (kAd t)) (kAd (2147483648 + j)) = (left (kAd (2147483648 + j)) && !(kAd (2147483648 + j)).sameKey (kAd t)) := fun _ => rfl
  obtain ⟨j0, hj0⟩ : ∃ j0, j0 = t - 2147483648 := ⟨_, rfl⟩
  rw [← hj0] at hother ⊢
  have e : 2147483648 + j0 = t := by omega
  have hj1 : j0 < 65536 := by omega
  rw [← e] at hl hsame hb hother ⊢
  clear h1 h2 ht' hj0 e
  unfold nzL
  cases hm : m j0 != 0 with
  | false =>
    rw [if_neg (by decide), Nat.add_zero]
    refine countP_e _ fun j hj => ?_
    by_cases hj : j = j0
    · have : (m j != 0) = false := by rw [hj]; exact hm
      rw [this, Bool.and_false, Bool.and_false]
    · have h3 := hb j
      rw [hother j hj, Bool.not_false, Bool.and_true] at h3
      rw [h3]
  | true =>
    rw [if_pos rfl]
    refine countP_1 j0 ?_ ?_ (fun j hj => ?_) 65536 hj1
    · rw [hl, hm]; rfl
    · have h3 := hb j0
      rw [hsame, Bool.not_true, Bool.and_false] at h3
      rw [h3]; rfl
    · have h3 := hb j
      rw [hother j hj, Bool.not_false, Bool.and_true] at h3
      rw [h3]
/-- what a range over the map brings -/
theorem MapD.at {D : DataW Unit} {m : Nat → UInt8} (h : MapD D m) {x c : Int} (hat : ∀ zd, D.atKey (.int .i64 x) zd = .lit (.int .u8 c)) : ∃ t : Nat, isA t ∧ x = (t : Int) ∧ c = ((m (t - 2147483648)).toNat : Int) := by
  obtain ⟨t, ht, e⟩ := h.keys _ (Maps.has_true_of_atKey hat)
  injection e with _ e
  subst e
  refine ⟨t, ht, rfl, ?_⟩
  have h1 := (hat (ylit 0)).symm.trans (h.vals t ht)
  injection h1 with h1
  injection h1
end Go.Proofs.Ytdifapdppdcidaa
namespace Go.Proofs.Ytdifapdppdcidaa
open Go Go.RowKit

theorem und_mi : Try.prog.underlying 73 = some (.map 3 5) := Try.underlying73
theorem cellsAfter {w w' : World} {b o n : Nat} {f : Nat → Value} (h : ∀ j, j < n → w.cell? ⟨b, o + j, none⟩ = some (f j)) (hb : b < w.heap.size) (k : Below w.heap.size w w') : ∀ j, j < n → w'.cell? ⟨b, o + j, none⟩ = some (f j) := fun j hj =>
  (k.cell (p := ⟨b, o + j, none⟩) hb).trans (h j hj)
set_option maxRecDepth 100000 in
set_option maxHeartbeats 1000000 in
theorem plike_any (m : Nat → UInt8) (g r mb c : Nat) (w : World) (hG : RamP w g m) (hR : RefP w r mb m c) :
    Calls Try.prog 21 #[mP g, mP r] w fun e w' => e = .returned (.bool true) ∧ Below w.heap.size w w' := by
  have kG := get_any m g 2147483648 65536 w hG (by decide) (by decide) (by decide)
  simp only [Int.cast_ofNat_Int] at kG
  go_enter Try.func21, Try.ntmps21
  go_wp2_with fail
  refine kG.mono ?_
  rintro e w1 ⟨⟨v, rfl, hown⟩, hb1⟩
  obtain ⟨A, cc, rfl⟩ := own_form hown
  obtain ⟨hS, _⟩ := own_slA hown
  obtain ⟨b, o, rfl, hbl, hcell⟩ := hS.2.2 (by decide)
  have hcell2 : ∀ j, j < 65536 → w1.cell? ⟨b, o + j, none⟩ = some (.int .u8 ((m j).toNat : Int)) := fun j hj => by
    rw [hcell j hj, cut_get hj, show 2147483648 - 2147483648 + j = j by omega]
    rfl
  have hR1 := hR.after hb1
  have hc0 : w1.cell? ⟨r, 0, none⟩ = some (.map (some mb)) := hR1.1.cell 0
  obtain ⟨n, D, hm1, hn, hD⟩ := hR1.2
  have HC := Lib.hid hcell2
  have HD := Lib.hid hD
  have HM := Lib.hid hm1
  have HN := Lib.hid hn
  clear kG hown hS hcell hcell2 hR hG hD hm1 hn hR1
  obtain ⟨gr, hgr⟩ : ∃ x, x = w1.heap.size := ⟨_, rfl⟩
  have HGR := Lib.hid hgr
  clear hgr
  go_wp2_with (at_range; refine wpList_range_own _ rfl _ 73 rfl 3 5 keyI und_mi _ mb n D rfl HM.out ?_; rw [← HGR.out]; intro w2 hrg0 hg0 hs0)
  go_frame
  go_loopw [7] (fun nt wr => ∃ (left : Lit → Bool) (cnt z : Nat), wr.ranges Try.prog 3 (plainElem Try.prog 5) mb gr n D left cnt ∧ nt = .int .i64 (z : Int) ∧ z + nzL m left 65536 = nz m 65536 ∧ Below w1.heap.size w1 wr) (fun _ wr => wr.rangeLeft mb gr)
  case atStart => exact ⟨_, _, 0, hrg0, rfl, by rw [Nat.zero_add]; exact nzL_all HD.out, grown_none hg0⟩
  case round =>
    obtain ⟨left, cnt, z, hrg, rfl, hz, hb⟩ := hrel
    have hz5 : z ≤ 65536 := by have := nz_le m 65536; omega
    have HZ := Lib.hid hz
    have HRG := Lib.hid hrg
    have HB := Lib.hid hb
    clear hz hrg hb hc0 hrg0 hg0 hs0
    go_wp2_with (at_next; refine wpList_next_ranges_ii _ rfl _ rfl 3 5 .i64 .u8 keyI Try.underlying3 Try.underlying5 mb gr n _ _ _ rfl HRG.out ?_ ?_)
    · intro hc0 hl0
      have hz0 : z = nz m 65536 := by have := HZ.out; rw [nzL_none hl0] at this; exact this
      have hT := nz_le m 65536
      have hb0 := HB.out
      clear hz5
      go_wp2_with fail
      go_loopw [7, 42] (fun nt ci wr => ∃ i : Nat, i ≤ 65536 ∧ ci = .int .i64 (i : Int) ∧ nt = .int .i64 ((z : Int) - ((nz m i : Nat) : Int)) ∧ Below w1.heap.size w1 wr) (fun _ ci _ => (65536 - (intOf ci)).toNat)
      case atStart => exact ⟨0, by decide, rfl, by rw [show nz m 0 = 0 from rfl]; simp, hb0⟩
      case round =>
        obtain ⟨i, hi, rfl, rfl, hb2⟩ := hrel
        by_cases hlt : i < 65536
        · have di : (i : Int) < 65536 := by omega
          have hci := cellsAfter HC.out hbl hb2 i hlt
          have hs := nz_snoc m i
          have hle := nz_le m i
          have hz6 : z ≤ 65536 := by omega
          generalize nz m i = q at *
          cases hm : m i != 0 with
          | true =>
            rw [hm, if_pos rfl] at hs
            have hne : (m i).toNat ≠ 0 := fun e => by
              have : m i = 0 := UInt8.toNat.inj e
              rw [this] at hm
              exact absurd hm (by decide)
            generalize (m i).toNat = y at *
            have dy : ((y : Int) != 0) = true := by simp; exact hne
            have HSN := Lib.hid hs
            clear hz0 hs hm hne hc0
            go_wp2_with fail
            go_roundw
            case rel => exact ⟨i + 1, by omega, by go_num, by rw [HSN.out]; go_num, hb2⟩
            case measure => simp [intOf] <;> omega
          | false =>
            rw [hm, if_neg (by decide), Nat.add_zero] at hs
            have hne : (m i).toNat = 0 := by
              have : m i = 0 := by simpa using hm
              rw [this]; rfl
            rw [hne] at hci
            have HSN := Lib.hid hs
            clear hz0 hs hm hne hc0
            go_wp2_with fail
            go_roundw
            case rel => exact ⟨i + 1, by omega, by go_num, by rw [HSN.out, Nat.add_zero], hb2⟩
            case measure => simp [intOf] <;> omega
        · obtain rfl : i = 65536 := by omega
          rw [← hz0]
          have HZ0 := Lib.hid hz0
          clear hz0 hc0 hT
          go_wp2_with fail
          go_ret
          exact ⟨rfl, hb1.trans (hb2.mono hb1.size)⟩
    · intro x y w3 cnt1 hwx hwc hlx hat hrg1 hlt hg1 hs1 hen
      obtain ⟨t, ht, rfl, rfl⟩ := HD.out.at hat
      have hst := nzL_strike (m := m) ht hlx
      have hgrl := HGR.out
      have hb3 : Below w1.heap.size w1 w3 := below_only HB.out hg1 (by omega) HB.out.size
      have hta := ht.1
      have htb := ht.2
      obtain ⟨j, hj⟩ : ∃ j, j = t - 2147483648 := ⟨_, rfl⟩
      rw [← hj] at hst ⊢
      rw [← hj] at hen
      have hcj := cellsAfter HC.out hbl hb3 j (by omega)
      have ej : (t : Int) - 2147483648 = (j : Int) := by omega
      have dj : (j : Int) < 65536 := by omega
      have ht4 : t < 4294967296 := by omega
      have HST := Lib.hid hst
      have hzz := HZ.out
      rw [hst] at hzz
      have HZZ := Lib.hid hzz
      have hz7 : z < 65537 := by omega
      have HLT := Lib.hid hlt
      have HRG1 := Lib.hid hrg1
      clear hj hta htb ht hst hat hlx hlt hg1 hs1 hwx hwc hrg1 hzz hgrl
      cases hm : m j != 0 with
      | true =>
        have hne : (m j).toNat ≠ 0 := fun e => by
          have : m j = 0 := UInt8.toNat.inj e
          rw [this] at hm
          exact absurd hm (by decide)
        have hzz := HZZ.out
        rw [hm, if_pos rfl] at hzz
        have HZ2 := Lib.hid hzz
        clear hzz hm
        generalize (m j).toNat = y at *
        have dy : ((y : Int) != 0) = true := by simp; exact hne
        clear hne
        go_wp2_with fail
        go_roundw
        case rel => exact ⟨_, cnt1, z + 1, HRG1.out, by go_num, by have h5 := HZ2.out; show (z + 1) + nzL m (fun z => left z && !z.sameKey (kAd t)) 65536 = nz m 65536; omega, hb3⟩
        case measure => rw [HRG1.out.left_eq, HRG.out.left_eq]; exact HLT.out
      | false =>
        have hne : (m j).toNat = 0 := by
          have : m j = 0 := by simpa using hm
          rw [this]; rfl
        have hzz := HZZ.out
        rw [hm, if_neg (by decide), Nat.add_zero] at hzz
        have HZ2 := Lib.hid hzz
        clear hzz hm
        rw [hne] at hcj hen ⊢
        clear hne
        go_wp2_with fail
        go_roundw
        case rel => exact ⟨_, cnt1, z, HRG1.out, rfl, HZ2.out, hb3⟩
        case measure => rw [HRG1.out.left_eq, HRG.out.left_eq]; exact HLT.out
end Go.Proofs.Ytdifapdppdcidaa
