/-
Layer 8: what package elf's calls answer; Plain and the anchor over that.
-/
import Derived.Test.YtoplknankmomcaaElF
namespace Go.Proofs.Ytoplknankmomcaa
open Go Go.RowKit

/-- package elf's calls do what the document says -/
structure ElfOK : Prop where
  heads_ok : ∀ (bs : List UInt8) (A : Option Addr) (n c : Nat) (w : World), SlA w A n c bs → (A = none → c = 0) → c < 9223372036854775808 → bs.length ≤ 100000 →
    Calls Try.prog 12 #[.slice A n c] w fun e w' => (∃ s, e = .returned (.tuple #[.int .u32 (((headsN bs).1 : Nat) : Int), Sl.v s, .int .i64 (((headsN bs).2.2 : Nat) : Int)]) ∧ SlH w' s (headsN bs).2.1) ∧ Below w.heap.size w w'
  segs_ok : ∀ (bs : List UInt8) (A : Option Addr) (n c : Nat) (w : World), SlA w A n c bs → (A = none → c = 0) → c < 9223372036854775808 → bs.length ≤ 100000 →
    Calls Try.prog 10 #[.slice A n c] w fun e w' => (∃ s t, e = .returned (.tuple #[.int .u32 (((segsN bs).1 : Nat) : Int), Sl.v s, Sl.v t, .int .i64 (((segsN bs).2.2.2 : Nat) : Int)]) ∧ SlS w' s (segsN bs).2.1 ∧ SlH w' t (segsN bs).2.2.1) ∧ Below w.heap.size w w'
theorem and_m4 (m : Nat) (h : m < 2 ^ 62) : m &&& 18446744073709551612 = m / 4 * 4 := by
  have e1 : 18446744073709551612 = (2 ^ 62 - 1) <<< 2 := by decide
  have e2 : m / 4 * 4 = (m >>> 2) <<< 2 := by rw [Nat.shiftLeft_eq, Nat.shiftRight_eq_div_pow]
  rw [e1, e2]
  apply Nat.eq_of_testBit_eq
  intro i
  rw [Nat.testBit_and, Nat.testBit_shiftLeft, Nat.testBit_shiftLeft, Nat.testBit_two_pow_sub_one, Nat.testBit_shiftRight]
  by_cases h2 : 2 ≤ i
  · by_cases h3 : i - 2 < 62
    · simp [h2, h3]
    · have h4 : m.testBit i = false := Nat.testBit_lt_two_pow (Nat.lt_of_lt_of_le h (Nat.pow_le_pow_right (by decide) (by omega)))
      rw [show 2 + (i - 2) = i by omega, h4]
      simp
  · simp [h2]
theorem i64_andNot3 (m : Nat) (h : m < 2 ^ 62) : bits .andNot .i64 (m : Int) 3 = ((m / 4 * 4 : Nat) : Int) := by
  unfold bits
  have h1 : (BitVec.ofNat 64 m &&& ~~~ (BitVec.ofNat 64 3)).toNat = m / 4 * 4 := by
    rw [BitVec.toNat_and, BitVec.toNat_ofNat, Nat.mod_eq_of_lt (by omega), show (~~~ (BitVec.ofNat 64 3)).toNat = 18446744073709551612 by decide]
    exact and_m4 m h
  simp only [IntKind.bits]
  show IntKind.i64.wrap (((BitVec.ofInt 64 (m : Int) &&& ~~~ (BitVec.ofInt 64 3)).toNat : Nat) : Int) = _
  rw [show BitVec.ofInt 64 (m : Int) = BitVec.ofNat 64 m from BitVec.ofInt_natCast .., show BitVec.ofInt 64 3 = BitVec.ofNat 64 3 from rfl, h1]
  generalize hr : m / 4 * 4 = r
  have : r < 2 ^ 62 := by omega
  simp [IntKind.wrap, IntKind.bits, IntKind.signed]
  omega
theorem slJ_one {w : World} {g : Nat} {h : Hd} (hG : Has w g 46 (tab 6 (hdR h))) : SlJ w ⟨some ⟨g, 0, none⟩, 1, 1⟩ [h] :=
  ⟨rfl, ⟨Nat.le_refl _, by show (1 : Nat) ≤ _; decide⟩, fun _ => ⟨g, 0, rfl, hG.lt, fun j i hj hi => by
    have hj0 : j = 0 := by have : j < 1 := hj; omega
    subst hj0
    rw [Nat.zero_mul, Nat.add_zero, Nat.zero_add]
    exact hG.cellTab i hi⟩⟩
theorem slD_one {w : World} {g n c : Nat} {A : Option Addr} {b : List UInt8} (hG : Has w g 25 #[.slice A n c]) (hS : SlA w A n c b) (hA : A = none → c = 0) : SlD w ⟨some ⟨g, 0, none⟩, 1, 1⟩ [b] :=
  ⟨rfl, by show (1 : Nat) ≤ _; decide, fun _ => ⟨g, 0, rfl, hG.lt, fun j hj => by
    have hj0 : j = 0 := by have : j < 1 := hj; omega
    subst hj0
    exact ⟨A, n, c, hG.cell 0, hS, hA⟩⟩⟩
/-- the plain file's header -/
def plH (n : Nat) : Hd := ⟨1, 0, 0, 0, (n + 7) / 4 * 4, 5⟩
def plainN (b : List UInt8) : List UInt8 := fileN 0 [plH b.length] [b]
theorem plainN_len (b : List UInt8) : (plainN b).length = 84 + b.length := by unfold plainN; rw [fileN_len]; simp
set_option maxRecDepth 100000 in
set_option maxHeartbeats 1000000 in
theorem plain_any (bs : List UInt8) (A : Option Addr) (n c : Nat) (w : World) (hS : SlA w A n c bs) (hA : A = none → c = 0) (hn : n ≤ 1000) :
    Calls Try.prog 11 #[.slice A n c] w fun e w' => (∃ A n c, e = .returned (.slice A n c) ∧ RowB w' (.slice A n c) (plainN bs) ∧ c < 9223372036854775808) ∧ Below w.heap.size w w' := by
  have hl : bs.length = n := hS.1
  have hbn := i64_andNot3 (n + 7) (by omega)
  have hcn : ((n + 7 : Nat) : Int) = (n : Int) + 7 := by omega
  rw [hcn] at hbn
  obtain ⟨p4, hp4⟩ : ∃ x, x = (n + 7) / 4 * 4 := ⟨_, rfl⟩
  rw [← hp4] at hbn
  have HP4 := Lib.hid hp4
  have HL := Lib.hid hl
  have hp4l : p4 < 2000 := by omega
  clear hcn hp4 hl
  go_enter Try.func11, Try.ntmps11
  go_wp2_with fail
  have hG1 : Has ((w.alloc (.cells #[.int .i64 1, .int .i64 0, .int .i64 0, .int .i64 0, .int .i64 (p4 : Int), .int .i64 5] 46)).alloc (.cells #[.slice A n c] 25)) w.heap.size 46 (tab 6 (hdR ⟨1, 0, 0, 0, p4, 5⟩)) := by
    rw [← hdR_lit]
    exact (Has.new w 46 _).alloc _
  have hG2 : Has ((w.alloc (.cells #[.int .i64 1, .int .i64 0, .int .i64 0, .int .i64 0, .int .i64 (p4 : Int), .int .i64 5] 46)).alloc (.cells #[.slice A n c] 25)) (w.heap.size + 1) 25 #[.slice A n c] := Has.new' (by simp)
  have hb : Below w.heap.size w ((w.alloc (.cells #[.int .i64 1, .int .i64 0, .int .i64 0, .int .i64 0, .int .i64 (p4 : Int), .int .i64 5] 46)).alloc (.cells #[.slice A n c] 25)) := ((Below.refl w.heap.size w).alloc (Nat.le_refl _) _).alloc (by simp) _
  replace hS := hS.below hb
  generalize (w.alloc (.cells #[.int .i64 1, .int .i64 0, .int .i64 0, .int .i64 0, .int .i64 (p4 : Int), .int .i64 5] 46)).alloc (.cells #[.slice A n c] 25) = w1 at *
  have k := rfile_any 0 ⟨some ⟨w.heap.size, 0, none⟩, 1, 1⟩ ⟨some ⟨w.heap.size + 1, 0, none⟩, 1, 1⟩ [⟨1, 0, 0, 0, p4, 5⟩] [bs] w1 (slJ_one hG1) (slD_one hG2 hS hA) rfl (by show (1 : Nat) ≤ 9; decide) (fun h hh => by rw [List.mem_singleton.1 hh]; exact ⟨by show (1 : Nat) < 4; decide, by show 0 < 4294967296; decide, by show p4 < 8589934592; omega, by show (5 : Nat) ≤ 7; decide⟩) (by decide) (by simp; have := HL.out; omega)
  refine k.mono ?_
  rintro e w2 ⟨⟨A2, n2, c2, rfl, hR, hc2⟩, hb2⟩
  go_wp2_with fail
  go_ret
  exact ⟨⟨A2, n2, c2, rfl, by unfold plainN plH; rw [HL.out, ← HP4.out]; exact hR, hc2⟩, below_trans hb hb2⟩
theorem RowB.slA {w : World} {A : Option Addr} {n c : Nat} {bs : List UInt8} (h : RowB w (.slice A n c) bs) : SlA w A n c bs ∧ (A = none → c = 0) := by
  obtain ⟨A', n', c', e, h1, h2, _⟩ := h
  injection e with e1 e2 e3
  subst e1 e2 e3
  exact ⟨h1, h2⟩
theorem plain_segs : segsN (plainN [1, 2, 3, 4]) = (0, [⟨0, 8, 5, [1, 2, 3, 4]⟩], [], 0) := by decide +kernel
theorem strB_4 : ((strB [1, 2, 3, 4]).toList == [1, 2, 3, 4]) = true := by rw [strB_toList]; rfl
set_option maxRecDepth 100000 in
set_option maxHeartbeats 1000000 in
theorem fit8_any (H : ElfOK) (w : World) : Calls Try.prog 7 #[] w fun e w' => e = .returned (.bool true) ∧ Below w.heap.size w w' := by
  go_enter Try.func7, Try.ntmps7
  go_wp2_with fail
  have hG : Has (w.alloc (.cells #[.int .u8 1, .int .u8 2, .int .u8 3, .int .u8 4] 5)) w.heap.size 5 (([1, 2, 3, 4] : List UInt8).map by8).toArray := Has.new _ _ _
  have hb : Below w.heap.size w (w.alloc (.cells #[.int .u8 1, .int .u8 2, .int .u8 3, .int .u8 4] 5)) := (Below.refl _ _).alloc (Nat.le_refl _) _
  generalize w.alloc (.cells #[.int .u8 1, .int .u8 2, .int .u8 3, .int .u8 4] 5) = u1 at *
  have hR1 : RowB u1 (.slice (some ⟨w.heap.size, 0, none⟩) 4 4) [1, 2, 3, 4] := rowB_at (fr := (0, 0)) rfl hG
  refine (plain_any [1, 2, 3, 4] (some ⟨w.heap.size, 0, none⟩) 4 4 u1 hR1.slA.1 hR1.slA.2 (by decide)).mono ?_
  rintro e u2 ⟨⟨A2, n2, c2, rfl, hR2, hc2⟩, hb2⟩
  replace hb := below_trans hb hb2
  clear hG hR1 hb2
  go_wp2_with fail
  refine (H.segs_ok (plainN [1, 2, 3, 4]) A2 n2 c2 u2 hR2.slA.1 hR2.slA.2 hc2 (by rw [plainN_len]; decide)).mono ?_
  rw [plain_segs]
  rintro e u3 ⟨⟨s, t, rfl, ⟨hl, T, hC, hY⟩, hH⟩, hb3⟩
  replace hb := below_trans hb hb3
  obtain ⟨A3, n3, c3, rfl⟩ := s.out
  obtain ⟨A4, n4, c4, rfl⟩ := t.out
  have hn3 : n3 = 1 := hl.symm
  have hn4 : n4 = 0 := hH.1.symm
  subst hn3 hn4
  obtain ⟨b, o, hA, _, hcl⟩ := hC.2 (by show 0 < 1; decide)
  replace hA : A3 = some ⟨b, o, none⟩ := hA
  subst hA
  have hy := hY 0 (by show 0 < 1; decide)
  obtain ⟨Ab, nb, cb, hT⟩ := (T 0).out
  have hc1 := hcl 0 1 (by show 0 < 1; decide) (by decide)
  have hcz := hcl 0 2 (by show 0 < 1; decide) (by decide)
  rw [hT] at hy
  replace hy : SlA u3 Ab nb cb [1, 2, 3, 4] := hy
  have hcv := str_conv hy
  replace hc1 : u3.cell? ⟨b, o + 1, none⟩ = some (.slice Ab nb cb) := by
    rw [Nat.zero_mul, Nat.add_zero] at hc1
    rw [hc1]
    show some ((T 0).v) = _
    rw [hT]; rfl
  replace hcz : u3.cell? ⟨b, o + 2, none⟩ = some (.int .u32 8) := by
    rw [Nat.zero_mul, Nat.add_zero] at hcz
    exact hcz
  have hsm := strB_4
  rw [show Sl.v ⟨some ⟨b, o, none⟩, 1, c3⟩ = .slice (some ⟨b, o, none⟩) 1 c3 from rfl, show Sl.v ⟨A4, 0, c4⟩ = .slice A4 0 c4 from rfl]
  generalize strB [1, 2, 3, 4] = sb at *
  clear hR2 hc2 hb3 hl hC hY hH hcl hy hT
  go_wp2_with fail
  go_ret
  exact ⟨rfl, hb⟩
end Go.Proofs.Ytoplknankmomcaa
