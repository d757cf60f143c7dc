/-
Layer 8: a plain file cut anywhere is none; with a byte more it is one.
Layer 8: the law over package elf's contracts: ElfEnds.
-/
import Derived.Test.YtoplknankmomcaaElL
namespace Go.Proofs.Ytoplknankmomcaa
open Go Go.RowKit

/-- the plain file's first bytes -/
def pre68 : List UInt8 := [127, 69, 76, 70, 1, 1, 1, 0, 0, 0, 0, 0, 0, 0, 0, 0, 3, 0, 243, 0, 1, 0, 0, 0, 0, 0, 0, 0, 52, 0, 0, 0, 0, 0, 0, 0, 0, 0, 0, 0, 52, 0, 32, 0, 1, 0, 0, 0, 0, 0, 0, 0, 1, 0, 0, 0, 84, 0, 0, 0, 0, 0, 0, 0, 0, 0, 0, 0]
def p4N (n : Nat) : Nat := (n + 7) / 4 * 4
theorem plain_eq (b : List UInt8) : plainN b = pre68 ++ (leB 4 b.length ++ (leB 4 (p4N b.length) ++ (leB 4 5 ++ (leB 4 4 ++ b)))) := by
  have e : plainN b = (ident16 ++ leB 2 3 ++ leB 2 243 ++ leB 4 1 ++ leB 4 0 ++ leB 4 52 ++ leB 4 0 ++ leB 4 0 ++ leB 2 52 ++ leB 2 32 ++ leB 2 1 ++ zeros6 ++ leB 4 1 ++ leB 4 84 ++ leB 4 0 ++ leB 4 0) ++ (leB 4 b.length ++ (leB 4 (p4N b.length) ++ (leB 4 5 ++ (leB 4 4 ++ b)))) := by
    unfold plainN fileN fileL hdL phs plH p4N
    simp [phL, List.range_succ, xN, atN, flN]
  rw [e]
  congr 1
theorem nm_pre {X R : List UInt8} {m q : Nat} (h : q + m ≤ X.length) : nm (X ++ R) m q = nm X m q := by
  have h1 := nm_take (bs := X ++ R) (m := m) (q := q) (k := X.length) h (by rw [List.length_append]; omega)
  rw [List.take_left] at h1
  exact h1.symm
/-- what is read of it, whatever follows -/
theorem plain_nm (b R : List UInt8) (hb : b.length ≤ 1000) : nm (plainN b ++ R) 2 16 = 3 ∧ nm (plainN b ++ R) 2 18 = 243 ∧ nm (plainN b ++ R) 4 20 = 1 ∧ nm (plainN b ++ R) 4 24 = 0 ∧ nm (plainN b ++ R) 4 28 = 52 ∧ nm (plainN b ++ R) 4 36 = 0 ∧ nm (plainN b ++ R) 2 40 = 52 ∧ nm (plainN b ++ R) 2 42 = 32 ∧ nm (plainN b ++ R) 2 44 = 1 ∧
    nm (plainN b ++ R) 4 52 = 1 ∧ nm (plainN b ++ R) 4 56 = 84 ∧ nm (plainN b ++ R) 4 60 = 0 ∧ nm (plainN b ++ R) 4 68 = b.length ∧ nm (plainN b ++ R) 4 72 = p4N b.length ∧ nm (plainN b ++ R) 4 76 = 5 ∧ (plainN b ++ R).take 16 = ident16 := by
  have hl : pre68.length = 68 := rfl
  have e0 : plainN b ++ R = pre68 ++ ((leB 4 b.length ++ (leB 4 (p4N b.length) ++ (leB 4 5 ++ (leB 4 4 ++ b)))) ++ R) := by rw [plain_eq, List.append_assoc]
  have hp : ∀ m q, q + m ≤ 68 → nm (plainN b ++ R) m q = nm pre68 m q := fun m q h => by rw [e0]; exact nm_pre (by rw [hl]; exact h)
  have hp4 : p4N b.length < 2000 := by unfold p4N; omega
  refine ⟨(hp _ _ (by decide)).trans (by decide +kernel), (hp _ _ (by decide)).trans (by decide +kernel), (hp _ _ (by decide)).trans (by decide +kernel), (hp _ _ (by decide)).trans (by decide +kernel), (hp _ _ (by decide)).trans (by decide +kernel), (hp _ _ (by decide)).trans (by decide +kernel), (hp _ _ (by decide)).trans (by decide +kernel), (hp _ _ (by decide)).trans (by decide +kernel), (hp _ _ (by decide)).trans (by decide +kernel), (hp _ _ (by decide)).trans (by decide +kernel), (hp _ _ (by decide)).trans (by decide +kernel), (hp _ _ (by decide)).trans (by decide +kernel), ?_, ?_, ?_, ?_⟩
  · have e1 : plainN b ++ R = pre68 ++ (leB 4 b.length ++ ((leB 4 (p4N b.length) ++ (leB 4 5 ++ (leB 4 4 ++ b))) ++ R)) := by rw [e0]; simp [List.append_assoc]
    rw [e1, nm_at rfl hl]
    exact Nat.mod_eq_of_lt (by omega)
  · have e1 : plainN b ++ R = (pre68 ++ leB 4 b.length) ++ (leB 4 (p4N b.length) ++ ((leB 4 5 ++ (leB 4 4 ++ b)) ++ R)) := by rw [e0]; simp [List.append_assoc]
    rw [e1, nm_at rfl (by rw [List.length_append, leB_len, hl])]
    exact Nat.mod_eq_of_lt (by omega)
  · have e1 : plainN b ++ R = (pre68 ++ leB 4 b.length ++ leB 4 (p4N b.length)) ++ (leB 4 5 ++ ((leB 4 4 ++ b) ++ R)) := by rw [e0]; simp [List.append_assoc]
    rw [e1, nm_at rfl (by rw [List.length_append, List.length_append, leB_len, leB_len, hl])]
  · rw [e0, List.take_append_of_le_length (by rw [hl]; decide)]
    rfl
theorem heads_eight {bs : List UInt8} (h : (fileB bs && hdsB bs) = false) : headsN bs = (0, [], 8) ∧ segsN bs = (0, [], [], 8) := by
  have h1 : headsN bs = (0, [], 8) := by unfold headsN; rw [h]; rfl
  refine ⟨h1, ?_⟩
  unfold segsN
  rw [h1]
  rfl
/-- cut anywhere: none -/
theorem plain_cut {b : List UInt8} (hb : b.length ≤ 1000) {k : Nat} (hk : k < 84 + b.length) : headsN ((plainN b).take k) = (0, [], 8) ∧ segsN ((plainN b).take k) = (0, [], [], 8) := by
  apply heads_eight
  cases h : (fileB ((plainN b).take k) && hdsB ((plainN b).take k)) with
  | false => rfl
  | true =>
    exfalso
    rw [Bool.and_eq_true] at h
    have hfl := of_decide_eq_true h.1
    have hln : ((plainN b).take k).length = k := by rw [List.length_take, plainN_len]; omega
    have hkl : k ≤ (plainN b).length := by rw [plainN_len]; omega
    have hnm := plain_nm b [] hb
    rw [List.append_nil] at hnm
    obtain ⟨_, _, _, _, n28, _, _, _, n44, n52, n56, _, n68, n72, n76, _⟩ := hnm
    have h52 := hfl.1
    rw [hln] at h52
    have eN : hN ((plainN b).take k) = 1 := by unfold hN; rw [nm_take (by omega) hkl]; exact n44
    have eA : hAt ((plainN b).take k) = 52 := by unfold hAt; rw [nm_take (by omega) hkl]; exact n28
    have h84 := hfl.2.2.2.2.2.2.2.2.2.2
    rw [eN, eA, hln] at h84
    have h2 := h.2
    unfold hdsB at h2
    rw [eN, List.all_eq_true] at h2
    have h3 := h2 0 (by simp)
    rw [eA] at h3
    have h4 : hdX ((plainN b).take k) 52 = false := by simpa using h3
    have h5 := of_decide_eq_false h4
    rw [nm_take (by omega) hkl, nm_take (by omega) hkl, nm_take (by omega) hkl, nm_take (by omega) hkl, nm_take (by omega) hkl, n52, n56, n68, n72, n76, hln] at h5
    omega
/-- with whatever behind it: one -/
theorem plain_more {b R : List UInt8} (hb : b.length ≤ 1000) : (segsN (plainN b ++ R)).2.2.2 = 0 := by
  obtain ⟨n16, n18, n20, n24, n28, n36, n40, n42, n44, n52, n56, n60, n68, n72, n76, ht⟩ := plain_nm b R hb
  have hln : (plainN b ++ R).length = 84 + b.length + R.length := by rw [List.length_append, plainN_len]
  have hp4 : b.length ≤ p4N b.length ∧ 4 ≤ p4N b.length ∧ p4N b.length % 4 = 0 ∧ p4N b.length < 2000 := by unfold p4N; omega
  have eN : hN (plainN b ++ R) = 1 := n44
  have eA : hAt (plainN b ++ R) = 52 := n28
  have hf : fileB (plainN b ++ R) = true := by
    unfold fileB
    rw [decide_eq_true_eq, n16, n18, n20, n36, n40, n42, eN, eA, hln]
    exact ⟨by omega, ht, rfl, rfl, rfl, rfl, rfl, rfl, by decide, by decide, by omega⟩
  have hx : hdX (plainN b ++ R) 52 = false := by
    unfold hdX
    rw [decide_eq_false_iff_not, n52, n56, n68, n72, n76, hln]
    omega
  have hh : headsN (plainN b ++ R) = (0, [⟨1, 84, 0, b.length, p4N b.length, 5⟩], 0) := by
    rw [headsN_ok hf (fun i hi => by rw [eN] at hi; obtain rfl : i = 0 := (by omega); rw [eA]; exact hx), n24, eN]
    unfold hds
    rw [eA]
    show (0, [hdA (plainN b ++ R) 52], 0) = _
    unfold hdA
    rw [n52, n56, n60, n68, n72, n76]
    rfl
  unfold segsN
  rw [hh]
  have hsx : segX ⟨1, 84, 0, b.length, p4N b.length, 5⟩ 0 0 = false := by
    unfold segX
    rw [decide_eq_false_iff_not]
    dsimp only
    omega
  have heb : entB 0 ⟨1, 84, 0, b.length, p4N b.length, 5⟩ = true := by
    unfold entB
    rw [decide_eq_true_eq]
    dsimp only
    omega
  have hg : segGo (plainN b ++ R) 0 [⟨1, 84, 0, b.length, p4N b.length, 5⟩] [] [] 0 false = some ([⟨0, p4N b.length, 5, ((plainN b ++ R).drop 84).take b.length⟩], [], true) := by
    rw [segGo_seg (by show (1 : Nat) ≠ 2; decide) hsx, heb]
    rfl
  show (segEnd 0 (segGo (plainN b ++ R) 0 [⟨1, 84, 0, b.length, p4N b.length, 5⟩] [] [] 0 false)).2.2.2 = 0
  rw [hg]
  rfl
end Go.Proofs.Ytoplknankmomcaa
namespace Go.Proofs.Ytoplknankmomcaa
open Go Go.RowKit

theorem run_pre (b o n c k : Nat) (hk : k ≤ n) (hc : n ≤ c) (W : World) : (Instr.sliceAt 25 (.slice (some ⟨b, o, none⟩) n c) none (some (.int .i64 (k : Int))) none).run Try.prog W = .ok (.slice (some ⟨b, o, none⟩) k c) W := by
  have h1 : (k : Int) ≤ (c : Int) := by omega
  go_simp
theorem slA_pre {w : World} {A : Option Addr} {n c k : Nat} {bs : List UInt8} (h : SlA w A n c bs) (hk : k ≤ n) : SlA w A k c (bs.take k) := by
  refine ⟨by rw [List.length_take]; have := h.1; omega, by have := h.2.1; omega, fun h0 => ?_⟩
  obtain ⟨b, o, e, hlt, hc⟩ := h.2.2 (by omega)
  refine ⟨b, o, e, hlt, fun j hj => ?_⟩
  rw [hc j (by omega)]
  simp [List.getD_eq_getElem?_getD, hj]
set_option maxRecDepth 100000 in
set_option maxHeartbeats 4000000 in
theorem ends8_ok (H : ElfOK) (bs : List UInt8) (A : Option Addr) (n c : Nat) (cut : Int) (w : World) (hS : SlA w A n c bs) (hA : A = none → c = 0) (_hcut : -9223372036854775808 ≤ cut ∧ cut ≤ 9223372036854775807) :
    Calls Try.prog 6 #[.slice A n c, .int .i64 cut] w fun e w' => e = .returned (.bool true) ∧ Below w.heap.size w w' := by
  have hl : bs.length = n := hS.1
  go_enter Try.func6, Try.ntmps6
  go_wp2_with fail
  refine (fit8_any H w).mono ?_
  rintro e u1 ⟨rfl, hb⟩
  replace hS := hS.below hb
  by_cases hbig : (1000 : Int) < (n : Int)
  · have HL := Lib.hid hl
    clear hl
    go_wp2_with fail
    go_ret
    exact ⟨rfl, hb⟩
  · have hbig' : (n : Int) ≤ 1000 := by omega
    by_cases hn0 : n = 0
    · have hz : ((n : Int) == 0) = true := by simp [hn0]
      have HL := Lib.hid hl
      have HN := Lib.hid hn0
      clear hl hbig hn0
      go_wp2_with fail
      go_ret
      exact ⟨rfl, hb⟩
    · have hz : ((n : Int) == 0) = false := by simp; omega
      have k1 := plain_any bs A n c u1 hS hA (by omega)
      have HL := Lib.hid hl
      clear hl hbig
      go_wp2_with fail
      refine k1.mono ?_
      rintro e u2 ⟨⟨A2, L, c2, rfl, hR, hc2⟩, hb2⟩
      replace hb := below_trans hb hb2
      clear k1 hb2 hz
      have hLl : L = 84 + n := by have h1 := hR.slA.1.1; rw [plainN_len, HL.out] at h1; omega
      obtain ⟨b, o, rfl⟩ := slA_some hR.slA.1 (by rw [plainN_len]; omega)
      have hSp := hR.slA.1
      have hLc : L ≤ c2 := hSp.2.1
      obtain ⟨c1, hc1⟩ : ∃ x, x = cut.tmod (L : Int) := ⟨_, rfl⟩
      have hcl : -(L : Int) < c1 ∧ c1 < (L : Int) := by
        rw [hc1]
        exact ⟨Int.lt_tmod_of_pos _ (by omega), Int.tmod_lt_of_pos _ (by omega)⟩
      obtain ⟨hcl1, hcl2⟩ := hcl
      obtain ⟨k, hk⟩ : ∃ k : Nat, (k : Int) = (c1 + (L : Int)).tmod (L : Int) := ⟨((c1 + (L : Int)).tmod (L : Int)).toNat, by
        rw [Int.toNat_of_nonneg (Int.tmod_nonneg _ (by omega))]⟩
      have hkl : (k : Int) < (L : Int) := by rw [hk]; exact Int.tmod_lt_of_pos _ (by omega)
      have e1 : cut.tmod (L : Int) = c1 := hc1.symm
      have e2 : (c1 + (L : Int)).tmod (L : Int) = (k : Int) := hk.symm
      have e3 : ((L : Int) == 0) = false := by simp; omega
      have e4 : ¬ (L : Int) = 0 := by omega
      clear hc1 hk
      have hcutp := plain_cut (b := bs) (by rw [HL.out]; omega) (k := k) (by rw [HL.out]; omega)
      have hSk := slA_pre (k := k) hSp (by omega)
      have hpl : (plainN bs).length = L := hSp.1
      have kH : ∀ u : World, SlA u (some ⟨b, o, none⟩) k c2 ((plainN bs).take k) → Calls Try.prog 12 #[.slice (some ⟨b, o, none⟩) k c2] u fun e w' => (∃ A n c, e = .returned (.tuple #[.int .u32 0, .slice A n c, .int .i64 8])) ∧ Below u.heap.size u w' := fun u hu => by
        have h1 := H.heads_ok ((plainN bs).take k) (some ⟨b, o, none⟩) k c2 u hu (fun h => by cases h) hc2 (by rw [List.length_take]; omega)
        rw [hcutp.1] at h1
        refine h1.mono ?_
        rintro e w' ⟨⟨s, rfl, _⟩, hb⟩
        exact ⟨⟨s.A, s.n, s.c, rfl⟩, hb⟩
      have kS : ∀ u : World, SlA u (some ⟨b, o, none⟩) k c2 ((plainN bs).take k) → Calls Try.prog 10 #[.slice (some ⟨b, o, none⟩) k c2] u fun e w' => (∃ A n c A2 n2 c2, e = .returned (.tuple #[.int .u32 0, .slice A n c, .slice A2 n2 c2, .int .i64 8])) ∧ Below u.heap.size u w' := fun u hu => by
        have h1 := H.segs_ok ((plainN bs).take k) (some ⟨b, o, none⟩) k c2 u hu (fun h => by cases h) hc2 (by rw [List.length_take]; omega)
        rw [hcutp.2] at h1
        refine h1.mono ?_
        rintro e w' ⟨⟨s, t, rfl, _⟩, hb⟩
        exact ⟨⟨s.A, s.n, s.c, t.A, t.n, t.c, rfl⟩, hb⟩
      have kM : ∀ (u : World) (A : Option Addr) (m c : Nat), SlA u A m c (plainN bs ++ [9]) → (A = none → c = 0) → c < 9223372036854775808 → Calls Try.prog 10 #[.slice A m c] u fun e w' => (∃ x A n c A2 n2 c2, e = .returned (.tuple #[.int .u32 x, .slice A n c, .slice A2 n2 c2, .int .i64 0])) ∧ Below u.heap.size u w' := fun u A m c hu hA hc => by
        have h1 := H.segs_ok (plainN bs ++ [9]) A m c u hu hA hc (by rw [List.length_append, plainN_len, HL.out]; show 84 + n + 1 ≤ _; omega)
        rw [plain_more (b := bs) (R := [9]) (by rw [HL.out]; omega)] at h1
        refine h1.mono ?_
        rintro e w' ⟨⟨s, t, rfl, _⟩, hb⟩
        exact ⟨⟨_, s.A, s.n, s.c, t.A, t.n, t.c, rfl⟩, hb⟩
      have r1 := fun W => run_pre b o L c2 k (by omega) hLc W
      have r2 := fun W => run_front (some ⟨b, o, none⟩) L c2 L hLc W
      have HSp := Lib.hid hSp
      have HSk := Lib.hid hSk
      have HPL : Hid ((plainN bs).length = L) := Lib.hid hSp.1
      clear hcutp hSk hSp hR hn0 hS hA
      generalize plainN bs = pb at *
      have HKM := Lib.hid kM
      have HKS := Lib.hid kS
      have hL2 : L ≤ 2000 := by omega
      have hL84 : 84 ≤ L := by omega
      clear kM kS hLl
      go_wp2_with fail
      refine (kH _ HSk.out).mono ?_
      rintro e u3 ⟨⟨A3, n3, c3, rfl⟩, hb3⟩
      have HS3 := Lib.hid (SlA.below HSk.out hb3)
      have HB3 := Lib.hid (below_trans hb hb3)
      have HP3 := Lib.hid (SlA.below HSp.out hb3)
      clear hb3 kH hb HSk HSp
      go_wp2_with fail
      refine (HKS.out _ HS3.out).mono ?_
      rintro e u4 ⟨⟨A4, n4, c4, A5, n5, c5, rfl⟩, hb4⟩
      have HB4 := Lib.hid (below_trans HB3.out hb4)
      have HP4 := Lib.hid (SlA.below HP3.out hb4)
      clear hb4 HKS HS3 HB3 HP3
      go_wp2_with (
        refine wp_append_full rfl _ _ rfl (some ⟨b, o, none⟩) L pb rfl ((show SlA u4 (some ⟨b, o, none⟩) L L pb from ⟨HP4.out.1, Nat.le_refl _, HP4.out.2.2⟩).below ((Below.refl _ _).alloc (Nat.le_refl _) _)) (fun h => by cases h) (some ⟨u4.heap.size, 0, none⟩) 1 1 [9] rfl ⟨rfl, Nat.le_refl _, fun _ => ⟨u4.heap.size, 0, rfl, by simp, fun j hj => by obtain rfl : j = 0 := (by omega); exact (Has.new _ _ _).cell 0⟩⟩ (by decide) (by omega) ?_
        intro v' w1 hown hgr
        obtain ⟨A8, c8, rfl⟩ := own_form hown
        obtain ⟨hS8, hA8⟩ := own_slA hown
        have hc8 := own_cap hown
        have HB8 := Lib.hid (below_trans HB4.out (below_trans ((Below.refl u4.heap.size u4).alloc (Nat.le_refl _) (.cells #[.int .u8 9] 5)) (grown_none hgr)))
        have k9 := HKM.out w1 A8 (L + 1) c8 hS8 hA8 hc8
        clear hown hgr hS8 hA8)
      refine k9.mono ?_
      rintro e w2 ⟨⟨x9, A9, n9, c9, A10, n10, c10, rfl⟩, hb9⟩
      have hbw := below_trans HB8.out hb9
      clear k9 hb9
      go_wp2_with fail
      go_ret
      exact ⟨rfl, hbw⟩
end Go.Proofs.Ytoplknankmomcaa
