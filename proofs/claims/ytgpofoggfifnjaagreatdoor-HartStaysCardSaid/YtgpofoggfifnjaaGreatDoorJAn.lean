/-
Layer 12: the library's TrailingZeros32; package pmp's address, napotRange, end, napot.
Layer 12: package pmp's Range.
Layer 12: package pmp's Of, Byte, Check.
-/
import Derived.Test.YtgpofoggfifnjaaGreatDoorJAm
import Derived.Test.YtgpofoggfifnjaaGreatDoorJAb
import Derived.Laws.BitsAllLaws
namespace Go.Proofs.YtgpofoggfifnjaaGreatDoor.Pm
open Go Go.RowKit

/-- how many ones a number ends in, by the zeros that its complement ends in -/
theorem ctzF_ones : ∀ (n a : Nat), a < 2 ^ n → a ≠ 2 ^ n - 1 → Go.Lib.ctzFrom n (2 ^ n - 1 - a) = onesF n a
  | 0, a, h, h1 => by omega
  | n + 1, a, h, h1 => by
    have hp := Nat.two_pow_pos n
    have e2 : (2 : Nat) ^ (n + 1) = 2 * 2 ^ n := by rw [Nat.pow_succ]; omega
    show (if (2 ^ (n + 1) - 1 - a) % 2 = 1 then 0 else 1 + Go.Lib.ctzFrom n ((2 ^ (n + 1) - 1 - a) / 2)) = (if a % 2 = 1 then onesF n (a / 2) + 1 else 0)
    rw [e2] at h h1 ⊢
    by_cases ha : a % 2 = 1
    · rw [if_neg (by omega), if_pos ha, show (2 * 2 ^ n - 1 - a) / 2 = 2 ^ n - 1 - a / 2 by omega, ctzF_ones n (a / 2) (by omega) (by omega), Nat.add_comm]
    · rw [if_pos (by omega), if_neg ha]
theorem onesF_full : ∀ n, onesF n (2 ^ n - 1) = n
  | 0 => rfl
  | n + 1 => by
    have hp := Nat.two_pow_pos n
    have e2 : (2 : Nat) ^ (n + 1) = 2 * 2 ^ n := by rw [Nat.pow_succ]; omega
    rw [onesF_step _ _ (by omega), show (2 ^ (n + 1) - 1) / 2 = 2 ^ n - 1 by omega, onesF_full n]
theorem ctz_ones (a : Nat) (h : a < 4294967296) : Go.Lib.ctz 32 (4294967295 - a) = onesF 32 a := by
  unfold Go.Lib.ctz
  by_cases h1 : a = 4294967295
  · rw [if_pos (by omega), h1]
    exact (onesF_full 32).symm
  · rw [if_neg (by omega)]
    exact ctzF_ones 32 a (by omega) (by omega)
/-- what a number is by its ones -/
theorem ones_form : ∀ (n a : Nat), a < 2 ^ n → a = 2 ^ n - 1 ∨ a = 2 ^ (onesF n a + 1) * (a / 2 ^ (onesF n a + 1)) + (2 ^ onesF n a - 1)
  | 0, a, h => by left; omega
  | n + 1, a, h => by
    have hp := Nat.two_pow_pos n
    have e2 : (2 : Nat) ^ (n + 1) = 2 * 2 ^ n := by rw [Nat.pow_succ]; omega
    by_cases ha : a % 2 = 1
    · rw [onesF_step n a ha]
      rcases ones_form n (a / 2) (by omega) with h1 | h1
      · left; omega
      · right
        generalize onesF n (a / 2) = q at *
        have e3 : (2 : Nat) ^ (q + 1 + 1) = 2 * 2 ^ (q + 1) := by rw [Nat.pow_succ]; omega
        have e4 : (2 : Nat) ^ (q + 1) = 2 * 2 ^ q := by rw [Nat.pow_succ]; omega
        have hq := Nat.two_pow_pos q
        have e5 : a / 2 ^ (q + 1 + 1) = a / 2 / 2 ^ (q + 1) := by rw [e3, Nat.div_div_eq_div_mul]
        rw [e5, e3, Nat.mul_assoc]
        rw [e4] at h1 ⊢
        generalize 2 * 2 ^ q * (a / 2 / (2 * 2 ^ q)) = c at *
        generalize (2 : Nat) ^ q = p at *
        omega
    · right
      rw [onesF_zero _ _ ha]
      simp only [Nat.zero_add, Nat.pow_one, Nat.pow_zero]
      omega
theorem and_succ (m q : Nat) : (2 ^ (q + 1) * m + (2 ^ q - 1)) &&& (2 ^ (q + 1) * m + 2 ^ q) = 2 ^ (q + 1) * m := by
  have hp := Nat.two_pow_pos q
  have e4 : (2 : Nat) ^ (q + 1) = 2 * 2 ^ q := by rw [Nat.pow_succ]; omega
  apply Nat.eq_of_testBit_eq
  intro j
  rw [Nat.testBit_and, Nat.testBit_two_pow_mul_add _ (by omega), Nat.testBit_two_pow_mul_add _ (by omega)]
  have e := Nat.testBit_two_pow_mul_add m (b := 0) (i := q + 1) (by omega) j
  rw [Nat.add_zero] at e
  rw [e]
  by_cases hj : j < q + 1
  · rw [if_pos hj, if_pos hj, if_pos hj, Nat.testBit_two_pow_sub_one, Nat.testBit_two_pow, Nat.zero_testBit]
    by_cases h1 : j < q
    · rw [decide_eq_false (show ¬ q = j by omega), Bool.and_false]
    · rw [decide_eq_false h1, Bool.false_and]
  · rw [if_neg hj, if_neg hj, if_neg hj, Bool.and_self]
/-- where a Napot entry begins, by the bits -/
theorem nap_start (a : Nat) (h : a < 4294967296) : 4 * (a &&& (a + 1) % 4294967296) = 4 * a / napS a * napS a := by
  unfold napS
  rcases ones_form 32 a h with h1 | h1
  · rw [h1, onesF_full]; decide
  · have hle := onesF_le 32 a
    generalize onesF 32 a = q at *
    have hp := Nat.two_pow_pos q
    have e4 : (2 : Nat) ^ (q + 1) = 2 * 2 ^ q := by rw [Nat.pow_succ]; omega
    by_cases h2 : a = 4294967295
    · subst h2
      have hm : (4294967295 : Nat) / 2 ^ (q + 1) < 4294967296 := Nat.lt_of_le_of_lt (Nat.div_le_self _ _) (by decide)
      have e0 : (4294967295 + 1) % 4294967296 = 0 := by decide
      rw [e0, Nat.and_zero]
      by_cases hq : q ≤ 31
      · exfalso
        have hd : 2 ^ (q + 1) ∣ 2 ^ 32 := Nat.pow_dvd_pow 2 (by omega)
        obtain ⟨k, hk⟩ := hd
        have e32 : (2 : Nat) ^ 32 = 4294967296 := by decide
        rw [e32] at hk
        have e6 : 4294967295 / 2 ^ (q + 1) = k - 1 := by
          have hk0 : 0 < k := Nat.pos_of_ne_zero fun h => by subst h; omega
          have e7 : 4294967295 = 2 ^ (q + 1) * (k - 1) + (2 ^ (q + 1) - 1) := by
            have : 2 ^ (q + 1) * k = 2 ^ (q + 1) * (k - 1) + 2 ^ (q + 1) := by
              obtain ⟨k', rfl⟩ : ∃ k', k = k' + 1 := ⟨k - 1, by omega⟩
              rw [Nat.mul_succ]; rfl
            omega
          rw [e7, Nat.mul_add_div (by omega), Nat.div_eq_of_lt (by omega)]; rfl
        rw [e6] at h1
        have : 2 ^ (q + 1) * k = 2 ^ (q + 1) * (k - 1) + 2 ^ (q + 1) := by
          have hk0 : 0 < k := Nat.pos_of_ne_zero fun h => by subst h; omega
          obtain ⟨k', rfl⟩ : ∃ k', k = k' + 1 := ⟨k - 1, by omega⟩
          rw [Nat.mul_succ]; rfl
        omega
      · obtain rfl : q = 32 := by omega
        decide
    · rw [Nat.mod_eq_of_lt (by omega)]
      have e5 := and_succ (a / 2 ^ (q + 1)) q
      have e6 : 2 ^ (q + 1) * (a / 2 ^ (q + 1)) + 2 ^ q = a + 1 := by omega
      rw [← h1, e6] at e5
      rw [e5]
      have e7 : 8 * 2 ^ q = 4 * 2 ^ (q + 1) := by omega
      rw [e7, Nat.mul_div_mul_left _ _ (by decide : 0 < 4), Nat.mul_comm (a / _), Nat.mul_assoc]
set_option maxRecDepth 100000 in
set_option maxHeartbeats 1000000 in
theorem tz32_any (x : Nat) (hx : x < 4294967296) (w : World) (hT : TabT w) :
    Calls Tryz.prog 104 #[.int .u32 (x : Int)] w fun e w' => e = .returned (.int .i64 ((Go.Lib.ctz 32 x : Nat) : Int)) ∧ w' = w := by
  by_cases h0 : x = 0
  · subst h0
    have e0 : Go.Lib.ctz 32 0 = 32 := rfl
    rw [e0]
    go_enter Tryz.func104, Tryz.ntmps104
    go_wp2_with fail
    go_ret
    exact ⟨rfl, rfl⟩
  · obtain ⟨hlow, hk⟩ := Go.Lib.lowest_bit 32 x h0 hx
    obtain ⟨hi, htab⟩ := Go.Lib.deBruijn32_at _ hk
    have hc := hT.c _ hi
    rw [htab] at hc
    generalize Go.Lib.ctz 32 x = k at *
    have hneg : -(x : Int) % 4294967296 = ((2 ^ 32 - x : Nat) : Int) := by
      have : (2 : Nat) ^ 32 = 4294967296 := by decide
      omega
    have hand : bits .and .u32 (x : Int) ((2 ^ 32 - x : Nat) : Int) = ((2 ^ k : Nat) : Int) := by
      rw [u32_and_nat x _ hx (by have : (2 : Nat) ^ 32 = 4294967296 := by decide
                                 omega), hlow]
    have hx0 : ((x : Int) == 0) = false := beq_eq_false_iff_ne.2 (by omega)
    obtain ⟨p, hp⟩ : ∃ p, p = 2 ^ k := ⟨_, rfl⟩
    rw [← hp] at hand hi hc
    obtain ⟨j, hj⟩ : ∃ j, j = p * 125613361 % 4294967296 / 134217728 := ⟨_, rfl⟩
    rw [← hj] at hi hc
    have hidx : (p : Int) * 125613361 % 4294967296 / 134217728 = (j : Int) := by rw [hj, Int.natCast_ediv, Int.natCast_emod, Int.natCast_mul]; rfl
    have hkey : bits .and .u32 (x : Int) (-(x : Int) % 4294967296) * 125613361 % 4294967296 / 134217728 = (j : Int) := by rw [hneg, hand, hidx]
    clear hp hj hneg hand hidx htab hlow
    go_enter Tryz.func104, Tryz.ntmps104
    go_wp2_with (simp only [hkey])
    go_ret
    exact ⟨rfl, rfl⟩
set_option maxRecDepth 100000 in
set_option maxHeartbeats 1000000 in
theorem address_any (x r : Int) (a : Nat) (ha : a < 4294967296) (w : World) :
    Calls Tryz.prog 84 #[.agg #[.int .i64 x, .int .i64 r, .int .u32 (a : Int)]] w fun e w' => e = .returned (.int .u64 ((4 * a : Nat) : Int)) ∧ Below w.heap.size w w' := by
  go_enter Tryz.func84, Tryz.ntmps84
  go_wp2_with fail
  go_ret
  refine ⟨by go_num, ?_⟩
  exact (Below.refl _ w).alloc (Nat.le_refl _) _
theorem below_drew (w : World) : Below w.heap.size w w.drew := below_drewN (Below.refl _ _) 1
/-- the call answers two addresses -/
def retP (f t : Nat) (w : World) (e : Ending) (w' : World) : Prop := e = .returned (.tuple #[.int .u64 (f : Int), .int .u64 (t : Int)]) ∧ Below w.heap.size w w'
theorem not32 (a : Nat) (ha : a < 4294967296) : bits .xor .u32 IntKind.u32.max (a : Int) = ((4294967295 - a : Nat) : Int) := by
  have h := u32_xor_nat 4294967295 a (by decide) ha
  have e : 4294967295 ^^^ a = 4294967295 - a := by
    apply Nat.eq_of_testBit_eq
    intro j
    have h1 := Nat.testBit_two_pow_sub_succ (n := 32) (x := a) (by omega) j
    have h2 := Nat.testBit_two_pow_sub_one 32 j
    have e1 : (2 : Nat) ^ 32 - 1 = 4294967295 := by decide
    rw [show (2 : Nat) ^ 32 - (a + 1) = 4294967295 - a by omega] at h1
    rw [e1] at h2
    rw [Nat.testBit_xor, h1, h2]
    by_cases hj : j < 32
    · rw [decide_eq_true hj, Bool.true_xor, Bool.true_and]
    · have : a < 2 ^ j := Nat.lt_of_lt_of_le (show a < 2 ^ 32 by omega) (Nat.pow_le_pow_right (by decide) (by omega))
      rw [decide_eq_false hj, Nat.testBit_lt_two_pow this]; rfl
  rw [e] at h
  exact h
set_option maxRecDepth 100000 in
set_option maxHeartbeats 1000000 in
theorem napot_range (a : Nat) (ha : a < 4294967296) (w : World) (hT : TabT w) :
    Calls Tryz.prog 85 #[.int .u32 (a : Int)] w (retP (4 * a / napS a * napS a) (4 * a / napS a * napS a + napS a) w) := by
  have kT := tz32_any (4294967295 - a) (by omega) w hT
  rw [ctz_ones a ha] at kT
  have hs := nap_start a ha
  have hand : bits .and .u32 (a : Int) (((a : Int) + 1) % 4294967296) = ((a &&& (a + 1) % 4294967296 : Nat) : Int) := by
    rw [show ((a : Int) + 1) % 4294967296 = (((a + 1) % 4294967296 : Nat) : Int) by omega]
    exact u32_and_nat a ((a + 1) % 4294967296) ha (by omega)
  have hle := onesF_le 32 a
  have hnp : napS a = 8 * 2 ^ onesF 32 a := rfl
  have hlt : a &&& (a + 1) % 4294967296 < 4294967296 := Nat.lt_of_le_of_lt Nat.and_le_left ha
  rw [← hs]
  have hxor := not32 a ha
  generalize (a &&& (a + 1) % 4294967296) = v at *
  generalize onesF 32 a = q at *
  generalize napS a = z at *
  have hz : z ≤ 34359738368 := by
    have hp := pow32 hle
    omega
  unfold retP
  have hsh : IntKind.u64.wrap ((8 : Int) * 2 ^ q) = (z : Int) := by
    rw [hnp, IntKind.wrap_u64]
    have hp := pow32 hle
    generalize hg : (2 : Nat) ^ q = p at *
    have : (2 : Int) ^ q = (p : Int) := by rw [← hg]; simp
    rw [this]; omega
  have hwr : IntKind.u64.wrap (4 * (v : Int) + (z : Int)) = ((4 * v + z : Nat) : Int) := by
    rw [IntKind.wrap_u64]; omega
  clear hnp hs
  go_enter Tryz.func85, Tryz.ntmps85
  go_wp2_with fail
  refine (show Calls Tryz.prog 104 #[.int .u32 ((4294967295 - a : Nat) : Int)] w _ from kT).mono ?_
  rintro e w2 ⟨rfl, hw2⟩
  subst hw2
  go_wp2_with fail
  go_region
  go_wp2_with fail
  go_ret2
  exact ⟨by go_num, below_drew w2⟩
end Go.Proofs.YtgpofoggfifnjaaGreatDoor.Pm
namespace Go.Proofs.YtgpofoggfifnjaaGreatDoor.Pm
open Go Go.RowKit

set_option maxRecDepth 100000 in
set_option maxHeartbeats 4000000 in
theorem range_any (es : List En) (s : Sl) (i : Nat) (w : World) (hT : TabT w) (hS : SlE w s es) (hi : i < s.n) :
    Calls Tryz.prog 58 #[s.v, .int .i64 (i : Int)] w (retP (rangeI es i).1 (rangeI es i).2 w) := by
  obtain ⟨b, o, hA, hlt, hc⟩ := hS.2.1.2 (by omega)
  have hwf := hS.wf hi
  have hn := hS.2.1.1
  have hpw : 0 < i → (es.getD (i - 1) en0).a < 4294967296 := fun h => (hS.wf (j := i - 1) (by omega)).a
  have hp : ∀ k, k < 3 → 0 < i → w.cell? ⟨b, o + (i - 1) * 3 + k, none⟩ = some (enV (es.getD (i - 1) en0) k) := fun k hk h => hc (i - 1) k (by omega) hk
  replace hc : ∀ k, k < 3 → w.cell? ⟨b, o + i * 3 + k, none⟩ = some (enV (es.getD i en0) k) := fun k hk => hc i k hi hk
  unfold rangeI
  obtain ⟨A, n, c⟩ := s
  dsimp only at hA hi hn hc hp
  subst hA
  generalize es.getD (i - 1) en0 = pe at *
  generalize es.getD i en0 = e at *
  obtain ⟨pw, pr, pa⟩ := pe
  obtain ⟨ew, er, ea⟩ := e
  dsimp only at hpw
  have ha : ea < 4294967296 := hwf.a
  have hn2 := hn.2
  have hin : (i : Int) < (n : Int) := by omega
  have hat := fun W => at_entry b o n c i hin W
  have hi0 : ¬ (i : Int) < 0 := by omega
  have hni : ¬ (n : Int) ≤ (i : Int) := by omega
  have C0 : ∀ W, Below w.heap.size w W → W.cell? ⟨b, o + i * 3, none⟩ = some (.int .i64 ew) := fun W h => (h.cell (p := ⟨b, o + i * 3, none⟩) hlt).trans (hc 0 (by omega))
  have C1 : ∀ W, Below w.heap.size w W → W.cell? ⟨b, o + i * 3 + 1, none⟩ = some (.int .i64 er) := fun W h => (h.cell (p := ⟨b, o + i * 3 + 1, none⟩) hlt).trans (hc 1 (by omega))
  have C2 : ∀ W, Below w.heap.size w W → W.cell? ⟨b, o + i * 3 + 2, none⟩ = some (.int .u32 (ea : Int)) := fun W h => (h.cell (p := ⟨b, o + i * 3 + 2, none⟩) hlt).trans (hc 2 (by omega))
  have P0 : ∀ W, Below w.heap.size w W → 0 < i → W.cell? ⟨b, o + (i - 1) * 3, none⟩ = some (.int .i64 pw) := fun W h h0 => (h.cell (p := ⟨b, o + (i - 1) * 3, none⟩) hlt).trans (hp 0 (by omega) h0)
  have P1 : ∀ W, Below w.heap.size w W → 0 < i → W.cell? ⟨b, o + (i - 1) * 3 + 1, none⟩ = some (.int .i64 pr) := fun W h h0 => (h.cell (p := ⟨b, o + (i - 1) * 3 + 1, none⟩) hlt).trans (hp 1 (by omega) h0)
  have P2 : ∀ W, Below w.heap.size w W → 0 < i → W.cell? ⟨b, o + (i - 1) * 3 + 2, none⟩ = some (.int .u32 (pa : Int)) := fun W h h0 => (h.cell (p := ⟨b, o + (i - 1) * 3 + 2, none⟩) hlt).trans (hp 2 (by omega) h0)
  have c0 := C0 w (Below.refl _ w)
  have c1 := C1 w (Below.refl _ w)
  have c2 := C2 w (Below.refl _ w)
  have HT := Lib.hid hT
  have HC0 := Lib.hid C0
  have HC2 := Lib.hid C2
  have HP0 := Lib.hid P0
  have HP1 := Lib.hid P1
  have HP2 := Lib.hid P2
  have HPW := Lib.hid hpw
  clear hT C0 C1 C2 P0 P1 P2 hS hp hc hwf hn hpw
  show Calls Tryz.prog 58 #[.slice (some ⟨b, o, none⟩) n c, .int .i64 (i : Int)] w _
  have e4 : ((4 * ea : Nat) : Int) = 4 * (ea : Int) := by omega
  generalize hR : rangeP (if i = 0 then 0 else pa) ⟨ew, er, ea⟩ = R
  have HR := Lib.hid hR
  clear hR
  generalize hf : R.1 = f
  generalize ht : R.2 = t
  have HF := Lib.hid hf
  have HTT := Lib.hid ht
  clear hf ht
  unfold retP
  go_enter Tryz.func58, Tryz.ntmps58
  go_wp2_with fail
  refine (address_any ew er ea ha w).mono ?_
  rintro e w1 ⟨rfl, hb1⟩
  have d0 := HC0.out w1 hb1
  have d2 := HC2.out w1 hb1
  have HB1 := Lib.hid hb1
  clear c0 c1 c2 hb1
  have fin : ∀ x y : Nat, R = (x, y) → Value.int .u64 (x : Int) = .int .u64 (f : Int) ∧ Value.int .u64 (y : Int) = .int .u64 (t : Int) := fun x y h => by
    rw [← HF.out, ← HTT.out, h]; exact ⟨rfl, rfl⟩
  have FIN := Lib.hid fin
  clear fin
  by_cases h1 : ew = 1
  · subst h1
    by_cases h0 : i = 0
    · have HR0 := Lib.hid (show rangeP 0 ⟨1, er, ea⟩ = R by have := HR.out; rwa [if_pos h0] at this)
      have hip : ¬ 0 < (i : Int) := by omega
      clear h0
      by_cases hz : ea = 0
      · have hz' : ¬ (0 : Int) < 4 * (ea : Int) := by omega
        have HZ := Lib.hid hz
        clear hz
        go_wp2_with fail
        go_ret2
        obtain ⟨q1, q2⟩ := FIN.out _ _ (HR0.out.symm.trans (rng_w1a rfl (show 4 * ea ≤ 4 * 0 by have := HZ.out; omega)))
        rw [← q1, ← q2]
        exact ⟨rfl, HB1.out⟩
      · have hz' : (0 : Int) < 4 * (ea : Int) := by omega
        go_wp2_with fail
        go_ret2
        obtain ⟨q1, q2⟩ := FIN.out _ _ (HR0.out.symm.trans (rng_w1b rfl (show ¬ 4 * ea ≤ 4 * 0 by omega)))
        rw [← q1, ← q2]
        exact ⟨by go_num, HB1.out⟩
    · have HR0 := Lib.hid (show rangeP pa ⟨1, er, ea⟩ = R by have := HR.out; rwa [if_neg h0] at this)
      have hip : 0 < (i : Int) := by omega
      have hin2 : ((i - 1 : Nat) : Int) < (n : Int) := by omega
      have hat2 := fun W => at_entry b o n c (i - 1) hin2 W
      have p0 := HP0.out w1 HB1.out (by omega)
      have p1 := HP1.out w1 HB1.out (by omega)
      have p2 := HP2.out w1 HB1.out (by omega)
      have hpa := HPW.out (by omega)
      obtain ⟨j, hj⟩ : ∃ j, j = i - 1 := ⟨_, rfl⟩
      rw [← hj] at hin2 p0 p1 p2 hat2
      have ej : (i : Int) - 1 = (j : Int) := by omega
      clear hj h0
      go_wp2_with fail
      refine (address_any pw pr pa hpa w1).mono ?_
      rintro e w2 ⟨rfl, hb2⟩
      have HB2 := Lib.hid (HB1.out.trans (hb2.mono HB1.out.size))
      clear hb2 p0 p1 p2
      by_cases hz : 4 * ea ≤ 4 * pa
      · have hz' : ¬ 4 * (pa : Int) < 4 * (ea : Int) := by omega
        go_wp2_with fail
        go_ret2
        obtain ⟨q1, q2⟩ := FIN.out _ _ (HR0.out.symm.trans (rng_w1a rfl hz))
        rw [← q1, ← q2]
        exact ⟨by go_num, HB2.out⟩
      · have hz' : 4 * (pa : Int) < 4 * (ea : Int) := by omega
        go_wp2_with fail
        go_ret2
        obtain ⟨q1, q2⟩ := FIN.out _ _ (HR0.out.symm.trans (rng_w1b rfl hz))
        rw [← q1, ← q2]
        exact ⟨by go_num, HB2.out⟩
  · by_cases h2 : ew = 2
    · subst h2
      go_wp2_with fail
      go_ret2
      obtain ⟨q1, q2⟩ := FIN.out _ _ (HR.out.symm.trans (rng_w2 rfl))
      rw [← q1, ← q2]
      exact ⟨by go_num, HB1.out⟩
    · by_cases h3 : ew = 3
      · subst h3
        have kN := napot_range ea ha w1 (HT.out.below HB1.out)
        have HE := Lib.hid (HR.out.symm.trans (rng_w3 rfl))
        dsimp only at HE
        generalize 4 * ea / napS ea * napS ea = u at *
        generalize u + napS ea = v at *
        go_wp2_with fail
        refine kN.mono ?_
        rintro e w2 ⟨rfl, hb2⟩
        have HB2 := Lib.hid (HB1.out.trans (hb2.mono HB1.out.size))
        clear hb2
        go_wp2_with fail
        go_ret2
        obtain ⟨q1, q2⟩ := FIN.out _ _ HE.out
        rw [← q1, ← q2]
        exact ⟨rfl, HB2.out⟩
      · have HE := Lib.hid (HR.out.symm.trans (rng_w0 h1 h2 h3))
        have q1 : (ew == 1) = false := beq_eq_false_iff_ne.2 h1
        have q2 : (ew == 2) = false := beq_eq_false_iff_ne.2 h2
        have q3 : (ew == 3) = false := beq_eq_false_iff_ne.2 h3
        clear h1 h2 h3
        go_wp2_with fail
        go_ret2
        obtain ⟨q1, q2⟩ := FIN.out _ _ HE.out
        rw [← q1, ← q2]
        exact ⟨rfl, HB1.out⟩
end Go.Proofs.YtgpofoggfifnjaaGreatDoor.Pm
namespace Go.Proofs.YtgpofoggfifnjaaGreatDoor.Pm
open Go Go.RowKit

theorem u8_and_nat' (a b : Nat) (ha : a < 256) (hb : b < 256) : bits .and .u8 (a : Int) (b : Int) = ((a &&& b : Nat) : Int) := by
  have hx : a &&& b < 256 := Nat.lt_of_le_of_lt Nat.and_le_left ha
  have h1 : (BitVec.ofInt 8 (a : Int)).toNat = a := by
    rw [BitVec.ofInt_natCast, BitVec.toNat_ofNat]; exact Nat.mod_eq_of_lt (by omega)
  have h2 : (BitVec.ofInt 8 (b : Int)).toNat = b := by
    rw [BitVec.ofInt_natCast, BitVec.toNat_ofNat]; exact Nat.mod_eq_of_lt (by omega)
  show IntKind.u8.wrap ((BitVec.ofInt 8 (a : Int) &&& BitVec.ofInt 8 (b : Int)).toNat : Int) = _
  rw [BitVec.toNat_and, h1, h2]
  simp [IntKind.wrap, IntKind.bits, IntKind.signed]
  omega
set_option maxRecDepth 100000 in
set_option maxHeartbeats 1000000 in
theorem of_any (b a : Nat) (w : World) (hb : b < 256) (_ha : a < 4294967296) : Calls Tryz.prog 44 #[.int .u8 (b : Int), .int .u32 (a : Int)] w fun e w' => e = .returned (.agg #[.int .i64 ((b / 8 % 4 : Nat) : Int), .int .i64 ((b % 8 : Nat) : Int), .int .u32 (a : Int)]) ∧ Below w.heap.size w w' := by
  have k1 : bits .and .u8 ((b : Int) / 8) 3 = ((b / 8 % 4 : Nat) : Int) := by
    have h := u8_and_nat' (b / 8) 3 (by omega) (by omega)
    rw [show b / 8 &&& 3 = b / 8 % 4 from Nat.and_two_pow_sub_one_eq_mod (b / 8) 2] at h
    rw [show (b : Int) / 8 = ((b / 8 : Nat) : Int) by omega]
    exact h
  have k2 : bits .and .u8 (b : Int) 7 = ((b % 8 : Nat) : Int) := by
    have h := u8_and_nat' b 7 hb (by omega)
    rw [show b &&& 7 = b % 8 from Nat.and_two_pow_sub_one_eq_mod b 3] at h
    exact h
  obtain ⟨x, hx⟩ : ∃ x, x = b / 8 % 4 := ⟨_, rfl⟩
  obtain ⟨y, hy⟩ : ∃ y, y = b % 8 := ⟨_, rfl⟩
  rw [← hx] at k1 ⊢
  rw [← hy] at k2 ⊢
  have l1 : x < 4 := by omega
  have l2 : y < 8 := by omega
  clear hx hy
  go_enter Tryz.func44, Tryz.ntmps44
  go_wp2_with fail
  have hG : Has (w.alloc (.cells #[.int .i64 (x : Int), .int .i64 (y : Int), .int .u32 (a : Int)] 38)) w.heap.size 38 #[.int .i64 (x : Int), .int .i64 (y : Int), .int .u32 (a : Int)] := Has.new _ _ _
  refine bodyPost_ret (results_cell_row rfl _ _ w.heap.size 38 _ _ _ rfl hG Tryz.underlying38 rfl infoE) rfl ⟨rfl, ?_⟩
  exact (Below.refl _ w).alloc (Nat.le_refl _) _
set_option maxRecDepth 100000 in
set_option maxHeartbeats 1000000 in
theorem byte_any (x r a : Nat) (w : World) (hx : x ≤ 3) (hr : r ≤ 7) (_ha : a < 4294967296) : Calls Tryz.prog 45 #[.agg #[.int .i64 (x : Int), .int .i64 (r : Int), .int .u32 (a : Int)]] w fun e w' => e = .returned (.int .u8 ((r + 8 * x : Nat) : Int)) ∧ Below w.heap.size w w' := by
  have k1 : bits .and .i64 (r : Int) 7 = (r : Int) := by
    have h := i64_and_mask (r : Int) 3 (by omega)
    rw [show ((2 ^ 3 - 1 : Nat) : Int) = 7 from rfl] at h
    rw [h]
    have : ((2 ^ 3 : Nat) : Int) = 8 := rfl
    omega
  have k2 : bits .and .i64 (x : Int) 3 = (x : Int) := by
    have h := i64_and_mask (x : Int) 2 (by omega)
    rw [show ((2 ^ 2 - 1 : Nat) : Int) = 3 from rfl] at h
    rw [h]
    have : ((2 ^ 2 : Nat) : Int) = 4 := rfl
    omega
  go_enter Tryz.func45, Tryz.ntmps45
  go_wp2_with fail
  go_ret
  refine ⟨?_, (Below.refl _ w).alloc (Nat.le_refl _) _⟩
  rw [show (r : Int) + (x : Int) * 8 = ((r + 8 * x : Nat) : Int) by omega]
  rfl
theorem i64_and_nat (a b : Nat) (ha : a < 4294967296) (hb : b < 4294967296) : bits .and .i64 (a : Int) (b : Int) = ((a &&& b : Nat) : Int) := by
  have hx : a &&& b ≤ a := Nat.and_le_left
  show IntKind.i64.wrap ((BitVec.ofInt 64 (a : Int) &&& BitVec.ofInt 64 (b : Int)).toNat : Int) = _
  rw [BitVec.toNat_and, ofInt_u64 a (by omega), ofInt_u64 b (by omega), IntWalk.i64_in _ (by omega)]
end Go.Proofs.YtgpofoggfifnjaaGreatDoor.Pm
