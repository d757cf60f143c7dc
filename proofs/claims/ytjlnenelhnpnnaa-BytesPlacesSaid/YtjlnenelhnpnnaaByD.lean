/-
Layer 6: BytesBack.
-/
import Derived.Test.YtjlnenelhnpnnaaByC
namespace Go.Proofs.Ytjlnenelhnpnnaa
open Go Go.RowKit

/-- the slice value reads as the integers f 0, f 1 .. -/
def SlU (w : World) (A : Option Addr) (n c : Nat) (f : Nat → Nat) : Prop :=
  n ≤ c ∧ (0 < n → ∃ b o, A = some ⟨b, o, none⟩ ∧ b < w.heap.size ∧ ∀ j, j < n → w.cell? ⟨b, o + j, none⟩ = some (.int .u32 (f j : Int)))
theorem SlU.below {w w' : World} {A : Option Addr} {n c : Nat} {f : Nat → Nat} (h : SlU w A n c f) (hb : Below w.heap.size w w') : SlU w' A n c f := by
  refine ⟨h.1, fun hn => ?_⟩
  obtain ⟨b, o, rfl, hlt, hc⟩ := h.2 hn
  exact ⟨b, o, rfl, Nat.lt_of_lt_of_le hlt hb.size, fun j hj => (hb.cell (p := ⟨b, o + j, none⟩) hlt).trans (hc j hj)⟩
theorem leB_length (m x : Nat) : (leB m x).length = m := by simp [leB]
theorem leT_piece (pre post : List UInt8) (k x : Nat) (h : x < 256 ^ k) : ∀ t, t ≤ k → leT (bsN (pre ++ leB k x ++ post)) t (pre.length + (k - t)) = x / 256 ^ (k - t)
  | 0, _ => by
    rw [Nat.sub_zero, Nat.div_eq_of_lt h]
    rfl
  | t + 1, ht => by
    have h1 := leT_piece pre post k x h t (by omega)
    show bsN (pre ++ leB k x ++ post) (pre.length + (k - (t + 1))) + 256 * leT (bsN (pre ++ leB k x ++ post)) t (pre.length + (k - (t + 1)) + 1) = _
    rw [show pre.length + (k - (t + 1)) + 1 = pre.length + (k - t) by omega, h1]
    have h2 : bsN (pre ++ leB k x ++ post) (pre.length + (k - (t + 1))) = x / 256 ^ (k - (t + 1)) % 256 := by
      unfold bsN leB
      rw [List.append_assoc, List.getD_eq_getElem?_getD, List.getElem?_append_right (by omega), show pre.length + (k - (t + 1)) - pre.length = k - (t + 1) by omega, List.getElem?_append_left (by simp; omega)]
      simp [show k - (t + 1) < k by omega]
    rw [h2, show k - t = k - (t + 1) + 1 by omega, Nat.pow_succ, ← Nat.div_div_eq_div_mul]
    omega
theorem tk_piece (pre post : List UInt8) (k x : Nat) (h : x < 256 ^ k) : tkN (pre ++ leB k x ++ post) pre.length false k = x ∧ okT (pre ++ leB k x ++ post).length pre.length false (k : Int) = true ∧ tkP (pre ++ leB k x ++ post).length pre.length false (k : Int) = pre.length + k := by
  have hok : okT (pre ++ leB k x ++ post).length pre.length false (k : Int) = true := by
    unfold okT
    simp [leB_length]
    omega
  refine ⟨?_, hok, ?_⟩
  · have h1 := leT_piece pre post k x h k (Nat.le_refl _)
    rw [Nat.sub_self, Nat.add_zero, Nat.pow_zero, Nat.div_one] at h1
    unfold tkN
    rw [if_pos hok, h1]
  · unfold tkP
    rw [if_pos hok]
    rfl
def piece (f : Nat → Nat) (j : Nat) : List UInt8 := if j % 2 = 0 then leB 4 (f j) else leB 2 (f j % 65536)
def encT (f : Nat → Nat) : Nat → List UInt8
  | 0 => []
  | j + 1 => encT f j ++ piece f j
theorem encT_split (f : Nat → Nat) (i : Nat) : ∀ n, i < n → ∃ post, encT f n = encT f i ++ piece f i ++ post
  | 0, h => by omega
  | n + 1, h => by
    by_cases hi : i = n
    · subst hi
      exact ⟨[], by simp [encT]⟩
    · obtain ⟨post, e⟩ := encT_split f i n (by omega)
      exact ⟨post ++ piece f n, by simp [encT, e]⟩
theorem piece_length (f : Nat → Nat) (j : Nat) : (piece f j).length ≤ 4 := by
  unfold piece
  split <;> simp [leB_length]
theorem encT_length (f : Nat → Nat) : ∀ n, (encT f n).length ≤ 4 * n
  | 0 => by simp [encT]
  | n + 1 => by
    have := encT_length f n
    have := piece_length f n
    simp only [encT, List.length_append]
    omega
section
variable {Is : World → Nat → Nat → Nat → List UInt8 → Nat → Bool → Prop}
set_option maxRecDepth 100000 in
set_option maxHeartbeats 2000000 in
theorem back6_ok (H : BytesOK Is) (f : Nat → Nat) (hf : ∀ j, f j < 4294967296) (A : Option Addr) (n c : Nat) (k : Int) (w0 : World) (hS0 : SlU w0 A n c f) (_hc : c < 9223372036854775808) :
    Calls Try.prog 4 #[.slice A n c, .int .i64 k] w0 fun e w' => e = .returned (.bool true) ∧ Below w0.heap.size w0 w' := by
  have hb0 := Below.refl w0.heap.size w0
  have hnc := hS0.1
  by_cases h100 : 100 < n
  · have hd : decide ((100 : Int) < (n : Int)) = true := decide_eq_true (by omega)
    go_enter Try.func4, Try.ntmps4
    go_wp2_with fail
    refine (fit6_any H _).mono ?_
    rintro e u1 ⟨rfl, hy⟩
    replace hb0 := below_trans hb0 hy
    clear hy
    go_wp2_with fail
    go_ret
    exact ⟨rfl, hb0⟩
  have hd : decide ((100 : Int) < (n : Int)) = false := decide_eq_false (by omega)
  go_enter Try.func4, Try.ntmps4
  go_wp2_with fail
  refine (fit6_any H _).mono ?_
  rintro e u1 ⟨rfl, hy⟩
  replace hb0 := below_trans hb0 hy
  clear hy
  go_wp2_with fail
  clear hd
  go_loopw [5, 6, 7, 18] (fun b _ _ i wr => ∃ j : Nat, j ≤ n ∧ i = .int .i64 (j : Int) ∧ wr.ownsRow w0.heap.size 5 1 b (encT f j).length ((encT f j).map by8) ∧ Below w0.heap.size w0 wr) (fun _ _ _ i _ => n - (intOf i).toNat)
  case atStart => exact ⟨0, Nat.zero_le _, rfl, ⟨rfl, .inl ⟨rfl, rfl⟩⟩, hb0⟩
  case round =>
    clear hb0
    obtain ⟨j, hj, rfl, hO, hb0⟩ := hrel
    by_cases hlt : j < n
    · obtain ⟨kb, ko, rfl, hkb, hcell⟩ := (hS0.below hb0).2 (by omega)
      have hcj := hcell j hlt
      clear hcell
      have hx := hf j
      have hlj := encT_length f j
      obtain ⟨x, hxe⟩ : ∃ x, f j = x := ⟨_, rfl⟩
      rw [hxe] at hcj hx
      have hlt' : (j : Int) < (n : Int) := by omega
      have hpc : ∀ bs : List UInt8, encT f j ++ bs = encT f j ++ bs := fun _ => rfl
      by_cases hev : j % 2 = 0
      · have hm1 : (j : Int).tmod 2 = 0 := by rw [Int.tmod_eq_emod_of_nonneg (by omega)]; omega
        have hm2 : (j : Int) % 2 = 0 := by omega
        have hpe : encT f (j + 1) = encT f j ++ leB 4 x := by simp only [encT, piece]; rw [if_pos hev, hxe]
        have Hpe := Lib.hid hpe
        have Hxe := Lib.hid hxe
        clear hpe hxe hpc
        go_wp2_with fail
        refine (H.p32_ok (encT f j) x _ _ _ w0.heap.size hx hO hb0.size (by omega)).mono ?_
        rintro e u2 ⟨⟨v', rfl, hO2⟩, hy, hz⟩
        replace hb0 := hb0.trans hy
        clear hm1 hm2 hcj hlt'
        go_wp2_with fail
        go_roundw
        case rel => exact ⟨j + 1, by omega, by go_num, by rw [Hpe.out, List.length_append, leB_length]; exact hO2, hb0⟩
        case measure => simp [intOf]; omega
      · have hm1 : (j : Int).tmod 2 = 1 := by rw [Int.tmod_eq_emod_of_nonneg (by omega)]; omega
        have hm2 : (j : Int) % 2 = 1 := by omega
        have hpe : encT f (j + 1) = encT f j ++ leB 2 (((x : Int) % 65536).toNat) := by simp only [encT, piece]; rw [if_neg hev, hxe]; rfl
        have Hpe := Lib.hid hpe
        have Hxe := Lib.hid hxe
        clear hpe hxe hpc
        go_wp2_with fail
        refine (H.p16_ok (encT f j) (x : Int) _ _ _ w0.heap.size hO hb0.size (by omega)).mono ?_
        rintro e u2 ⟨⟨v', rfl, hO2⟩, hy, hz⟩
        replace hb0 := hb0.trans hy
        clear hm1 hm2 hcj hlt'
        go_wp2_with fail
        go_roundw
        case rel => exact ⟨j + 1, by omega, by go_num, by rw [Hpe.out, List.length_append, leB_length]; exact hO2, hb0⟩
        case measure => simp [intOf]; omega
    · obtain rfl : j = n := by omega
      have hlj := encT_length f j
      go_wp2_with fail
      refine (H.p16_ok (encT f j) k _ _ _ w0.heap.size hO hb0.size (by omega)).mono ?_
      rintro e u2 ⟨⟨v', rfl, hO2⟩, hy, hz⟩
      replace hb0 := hb0.trans hy
      clear hy hO
      obtain ⟨A2, c2, rfl⟩ := own_form hO2
      have hln : (encT f j).length + 2 = (encT f j ++ leB 2 (k % 65536).toNat).length := by rw [List.length_append, leB_length]
      rw [hln] at hO2
      obtain ⟨hS2, hA2⟩ := own_slA hO2
      have Hln := Lib.hid hln
      clear hln hO2
      go_wp2_with fail
      rw [Hln.out]
      refine (H.at_ok _ A2 _ c2 _ w0.heap.size hS2 hA2 hb0.size (by rw [← Hln.out]; omega)).mono ?_
      rintro e u3 ⟨⟨g, rfl, hI⟩, hy⟩
      replace hI := hI u3.heap.size (Nat.le_refl _)
      replace hb0 := below_trans hb0 hy
      clear hy hS2 hA2
      generalize u3.heap.size = m at *
      obtain ⟨bs, hbs⟩ : ∃ bs, encT f j ++ leB 2 (k % 65536).toNat = bs := ⟨_, rfl⟩
      rw [hbs] at hI ⊢
      have Hbs := Lib.hid hbs
      clear hbs Hln
      go_wp2_with fail
      go_loopw [9, 10, 40] (fun _ _ i wr => ∃ i' : Nat, i' ≤ j ∧ i = .int .i64 (i' : Int) ∧ Is wr w0.heap.size m g bs (encT f i').length false ∧ Below w0.heap.size w0 wr) (fun _ _ i _ => j - (intOf i).toNat)
      case atStart => exact ⟨0, Nat.zero_le _, rfl, hI, hb0⟩
      case round =>
        clear hI hb0
        obtain ⟨i, hi, rfl, hI, hb0⟩ := hrel
        by_cases hlt2 : i < j
        · obtain ⟨kb, ko, rfl, hkb, hcell⟩ := (hS0.below hb0).2 (by omega)
          have hcj := hcell i hlt2
          clear hcell
          have hx := hf i
          obtain ⟨x, hxe⟩ : ∃ x, f i = x := ⟨_, rfl⟩
          rw [hxe] at hcj hx
          have hlt' : (i : Int) < (j : Int) := by omega
          obtain ⟨post, hsp⟩ := encT_split f i j hlt2
          have hen : encT f (i + 1) = encT f i ++ piece f i := rfl
          obtain ⟨pre, hpre⟩ : ∃ pre, encT f i = pre := ⟨_, rfl⟩
          rw [hpre] at hsp hen hI
          obtain ⟨q, hqe⟩ : ∃ q, pre.length = q := ⟨_, rfl⟩
          by_cases hev : i % 2 = 0
          · have hpi : piece f i = leB 4 x := by unfold piece; rw [if_pos hev, hxe]
            have htk := tk_piece pre (post ++ leB 2 (k % 65536).toNat) 4 x (by omega)
            rw [← List.append_assoc, ← hpi, ← hsp, Hbs.out, hqe] at htk
            have hv := Lib.hid htk.1
            have hO : Hid (okT bs.length q false 4 = true) := Lib.hid htk.2.1
            have hP : Hid (tkP bs.length q false 4 = q + 4) := Lib.hid htk.2.2
            have hq : q ≤ bs.length := by rw [← Hbs.out, hsp, ← hqe]; simp
            have Hen : Hid ((encT f (i + 1)).length = q + 4) := Lib.hid (by rw [hen, List.length_append, hpi, leB_length, hqe])
            rw [hqe] at hI
            clear htk hpi hen hsp hpre hxe hqe
            have hm1 : (i : Int).tmod 2 = 0 := by rw [Int.tmod_eq_emod_of_nonneg (by omega)]; omega
            have hm2 : (i : Int) % 2 = 0 := by omega
            go_wp2_with fail
            refine (H.u32_ok bs q false wr w0.heap.size m g hI hq).mono ?_
            rw [hv.out, hP.out, hO.out]
            rintro e u4 ⟨rfl, hI2, hy⟩
            have hIE := hb0.trans hy.below
            clear hy hI hb0
            go_wp2_with fail
            go_roundw
            case rel => exact ⟨i + 1, by omega, by go_num, by rw [Hen.out]; exact hI2, hIE⟩
            case measure => simp [intOf]; omega
          · have hpi : piece f i = leB 2 (x % 65536) := by unfold piece; rw [if_neg hev, hxe]
            have htk := tk_piece pre (post ++ leB 2 (k % 65536).toNat) 2 (x % 65536) (by omega)
            rw [← List.append_assoc, ← hpi, ← hsp, Hbs.out, hqe] at htk
            have hv := Lib.hid htk.1
            have hO : Hid (okT bs.length q false 2 = true) := Lib.hid htk.2.1
            have hP : Hid (tkP bs.length q false 2 = q + 2) := Lib.hid htk.2.2
            have hq : q ≤ bs.length := by rw [← Hbs.out, hsp, ← hqe]; simp
            have Hen : Hid ((encT f (i + 1)).length = q + 2) := Lib.hid (by rw [hen, List.length_append, hpi, leB_length, hqe])
            rw [hqe] at hI
            clear htk hpi hen hsp hpre hxe hqe
            have hm1 : (i : Int).tmod 2 = 1 := by rw [Int.tmod_eq_emod_of_nonneg (by omega)]; omega
            have hm2 : (i : Int) % 2 = 1 := by omega
            have hand := u32_and16 x hx
            have hx16 : x % 65536 < 65536 := Nat.mod_lt _ (by decide)
            go_wp2_with fail
            refine (H.u16_ok bs q false wr w0.heap.size m g hI hq).mono ?_
            rw [hv.out, hP.out, hO.out]
            rintro e u4 ⟨rfl, hI2, hy⟩
            have hIE := hb0.trans hy.below
            clear hy hI hb0
            go_wp2_with fail
            go_roundw
            case rel => exact ⟨i + 1, by omega, by go_num, by rw [Hen.out]; exact hI2, hIE⟩
            case measure => simp [intOf]; omega
        · obtain rfl : i = j := by omega
          obtain ⟨nn, hnn⟩ : ∃ nn : Nat, k % 65536 = (nn : Int) := ⟨(k % 65536).toNat, by omega⟩
          have hb1 := Hbs.out
          rw [hnn, Int.toNat_natCast] at hb1
          have hn16 : nn < 256 ^ 2 := by omega
          have htk := tk_piece (encT f i) [] 2 nn hn16
          rw [List.append_nil, hb1] at htk
          have hv := Lib.hid htk.1
          have hO : Hid (okT bs.length (encT f i).length false 2 = true) := Lib.hid htk.2.1
          have hP : Hid (tkP bs.length (encT f i).length false 2 = (encT f i).length + 2) := Lib.hid htk.2.2
          have hbl : (encT f i).length + 2 = bs.length := by rw [← hb1, List.length_append, leB_length]
          have hq : (encT f i).length ≤ bs.length := by omega
          have Hbl := Lib.hid hbl
          have hand : bits .and .i64 k 65535 = (nn : Int) := by rw [i64_and16, hnn]
          clear htk hb1 hbl hnn
          generalize (encT f i).length = q at *
          go_wp2_with fail
          refine (H.u16_ok bs q false wr w0.heap.size m g hI hq).mono ?_
          rw [hv.out, hP.out, hO.out]
          rintro e u4 ⟨rfl, hI2, hy⟩
          replace hb0 := hb0.trans hy.below
          clear hy hI
          go_wp2_with fail
          refine (H.end_ok bs (q + 2) false u4 w0.heap.size m g hI2 (by rw [Hbl.out]; omega)).mono ?_
          rw [Hbl.out]
          rintro e u5 ⟨rfl, hy⟩
          replace hb0 := below_trans hb0 hy
          clear hy hI2
          go_wp2_with fail
          go_ret
          exact ⟨by simp, hb0⟩
end
end Go.Proofs.Ytjlnenelhnpnnaa
