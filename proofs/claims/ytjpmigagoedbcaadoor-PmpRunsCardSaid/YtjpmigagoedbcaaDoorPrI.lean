/-
Sorting numbers of 64 bits: how many bits a number has; nextPowerOfTwo, xorshift, breakPatternsOrdered.
-/
import Derived.Test.YtjpmigagoedbcaaDoorPrH
import Derived.Lib.BitFns
import Derived.Laws.Bits64b
namespace Go.Proofs.YtjpmigagoedbcaaDoor.Pm
open Go Go.RowKit
open Go.Sort (swp)

/-- the library's table of lengths, as the program writes it -/
theorem fold8 : (ByteArray.mk (List.append (List.append [0, 1, 2, 2, 3, 3, 3, 3, 4, 4, 4, 4, 4, 4, 4, 4, 5, 5, 5, 5, 5, 5, 5, 5, 5, 5, 5, 5, 5, 5, 5, 5, 6, 6, 6, 6, 6, 6, 6, 6, 6, 6, 6, 6, 6, 6, 6, 6, 6, 6, 6, 6, 6, 6, 6, 6, 6, 6, 6, 6, 6, 6, 6, 6] [7, 7, 7, 7, 7, 7, 7, 7, 7, 7, 7, 7, 7, 7, 7, 7, 7, 7, 7, 7, 7, 7, 7, 7, 7, 7, 7, 7, 7, 7, 7, 7, 7, 7, 7, 7, 7, 7, 7, 7, 7, 7, 7, 7, 7, 7, 7, 7, 7, 7, 7, 7, 7, 7, 7, 7, 7, 7, 7, 7, 7, 7, 7, 7]) (List.append [8, 8, 8, 8, 8, 8, 8, 8, 8, 8, 8, 8, 8, 8, 8, 8, 8, 8, 8, 8, 8, 8, 8, 8, 8, 8, 8, 8, 8, 8, 8, 8, 8, 8, 8, 8, 8, 8, 8, 8, 8, 8, 8, 8, 8, 8, 8, 8, 8, 8, 8, 8, 8, 8, 8, 8, 8, 8, 8, 8, 8, 8, 8, 8] [8, 8, 8, 8, 8, 8, 8, 8, 8, 8, 8, 8, 8, 8, 8, 8, 8, 8, 8, 8, 8, 8, 8, 8, 8, 8, 8, 8, 8, 8, 8, 8, 8, 8, 8, 8, 8, 8, 8, 8, 8, 8, 8, 8, 8, 8, 8, 8, 8, 8, 8, 8, 8, 8, 8, 8, 8, 8, 8, 8, 8, 8, 8, 8])).toArray) = Go.Lib.len8tab := by kernel_rfl
def LenR (x : Nat) (w : World) (en : Ending) (w' : World) : Prop := ∃ k : Nat, en = .returned (.int .i64 (k : Int)) ∧ k ≤ 20 ∧ 2 ^ k ≤ 2 * x ∧ x < 2 ^ k ∧ w' = w
theorem len_spec : ∀ y : Nat, 1 ≤ y → y < 256 → 2 ^ Go.Lib.bitLen y ≤ 2 * y ∧ y < 2 ^ Go.Lib.bitLen y := by
  have h : ∀ y : Fin 256, 1 ≤ y.val → 2 ^ Go.Lib.bitLen y.val ≤ 2 * y.val ∧ y.val < 2 ^ Go.Lib.bitLen y.val := by decide +kernel
  exact fun y h1 h2 => h ⟨y, h2⟩ h1
theorem pow20 {k y : Nat} (h : 2 ^ k ≤ 2 * y) (hy : y < 16) : k ≤ 4 := by
  refine Nat.le_of_not_lt fun h4 => ?_
  have := Nat.pow_le_pow_right (show 0 < 2 by decide) (show 5 ≤ k from h4)
  have e : (2 : Nat) ^ 5 = 32 := rfl
  omega
set_option maxRecDepth 100000 in
set_option maxHeartbeats 4000000 in
theorem len64_any (x : Nat) (w : World) (h1 : 1 ≤ x) (h2 : x < 1000000) : Calls Tryd.prog 46 #[.int .u64 (x : Int)] w (LenR x w) := by
  unfold LenR
  go_enter Tryd.func46, Tryd.ntmps46
  rw [fold8]
  by_cases a1 : 65536 ≤ x
  · skip
    obtain ⟨y, hy⟩ : ∃ y, y = x / 65536 := ⟨_, rfl⟩
    have hy' : (x : Int) / 65536 = (y : Int) := by omega
    have a1' : (65536 : Int) ≤ (x : Int) := by omega
    have a2' : ¬ (256 : Int) ≤ (y : Int) := by omega
    have hy255 : (y : Int) ≤ 255 := by omega
    have hy0 : 0 ≤ (y : Int) := by omega
    have hym : (y : Int) % 256 = (y : Int) := by omega
    obtain ⟨k, hk⟩ : ∃ k, k = Go.Lib.bitLen y := ⟨_, rfl⟩
    have hl8 : Go.Lib.len8 (y : Int) = (k : Int) := by rw [hk, Go.Lib.len8_of _ hy0 hy255]; simp
    have hsp := len_spec y (by omega) (by omega)
    rw [← hk] at hsp
    have hk8 : k ≤ 8 := by have := Go.Lib.bitLen_le8' (y : Int) hy0 hy255; simpa [hk] using this
    have HY := Lib.hid hy
    clear hy
    have HSP := Lib.hid hsp
    clear hk hsp
    have a0' : ¬ (4294967296 : Int) ≤ (x : Int) := by omega
    go_upto_if 4 with fail
    go_upto_if 8 with fail
    go_upto_region 7 with fail
    go_upto_if 14 with fail
    go_upto_region 10 with fail
    go_wp2_with fail
    go_ret
    refine ⟨16 + k, by go_num, by have h := HSP.out; have := pow20 (y := y) h.1 (by omega); omega, ?_, ?_, rfl⟩
    · obtain ⟨p1, p2⟩ := HSP.out
      have := HY.out
      rw [Nat.pow_add, show (2 : Nat) ^ 16 = 65536 from rfl]
      generalize 2 ^ k = q at *
      omega
    · obtain ⟨p1, p2⟩ := HSP.out
      have := HY.out
      rw [Nat.pow_add, show (2 : Nat) ^ 16 = 65536 from rfl]
      generalize 2 ^ k = q at *
      omega
  · by_cases a2 : 256 ≤ x
    · skip
      obtain ⟨y, hy⟩ : ∃ y, y = x / 256 := ⟨_, rfl⟩
      have hy' : (x : Int) / 256 = (y : Int) := by omega
      have a1' : ¬ (65536 : Int) ≤ (x : Int) := by omega
      have a2' : (256 : Int) ≤ (x : Int) := by omega
      have hy255 : (y : Int) ≤ 255 := by omega
      have hy0 : 0 ≤ (y : Int) := by omega
      have hym : (y : Int) % 256 = (y : Int) := by omega
      obtain ⟨k, hk⟩ : ∃ k, k = Go.Lib.bitLen y := ⟨_, rfl⟩
      have hl8 : Go.Lib.len8 (y : Int) = (k : Int) := by rw [hk, Go.Lib.len8_of _ hy0 hy255]; simp
      have hsp := len_spec y (by omega) (by omega)
      rw [← hk] at hsp
      have hk8 : k ≤ 8 := by have := Go.Lib.bitLen_le8' (y : Int) hy0 hy255; simpa [hk] using this
      have HY := Lib.hid hy
      clear hy
      have HSP := Lib.hid hsp
      clear hk hsp
      have a0' : ¬ (4294967296 : Int) ≤ (x : Int) := by omega
      go_upto_if 4 with fail
      go_upto_if 8 with fail
      go_upto_region 7 with fail
      go_upto_if 14 with fail
      go_upto_region 9 with fail
      go_upto_region 10 with fail
      go_wp2_with fail
      go_ret
      refine ⟨8 + k, by go_num, by omega, ?_, ?_, rfl⟩
      · obtain ⟨p1, p2⟩ := HSP.out
        have := HY.out
        rw [Nat.pow_add, show (2 : Nat) ^ 8 = 256 from rfl]
        generalize 2 ^ k = q at *
        omega
      · obtain ⟨p1, p2⟩ := HSP.out
        have := HY.out
        rw [Nat.pow_add, show (2 : Nat) ^ 8 = 256 from rfl]
        generalize 2 ^ k = q at *
        omega
    · skip
      obtain ⟨y, hy⟩ : ∃ y, y = x := ⟨_, rfl⟩
      subst hy
      have a1' : ¬ (65536 : Int) ≤ (y : Int) := by omega
      have a2' : ¬ (256 : Int) ≤ (y : Int) := by omega
      have hy255 : (y : Int) ≤ 255 := by omega
      have hy0 : 0 ≤ (y : Int) := by omega
      have hym : (y : Int) % 256 = (y : Int) := by omega
      obtain ⟨k, hk⟩ : ∃ k, k = Go.Lib.bitLen y := ⟨_, rfl⟩
      have hl8 : Go.Lib.len8 (y : Int) = (k : Int) := by rw [hk, Go.Lib.len8_of _ hy0 hy255]; simp
      have hsp := len_spec y (by omega) (by omega)
      rw [← hk] at hsp
      have hk8 : k ≤ 8 := by have := Go.Lib.bitLen_le8' (y : Int) hy0 hy255; simpa [hk] using this
      have HSP := Lib.hid hsp
      clear hk hsp
      have a0' : ¬ (4294967296 : Int) ≤ (y : Int) := by omega
      go_upto_if 4 with fail
      go_upto_if 8 with fail
      go_upto_region 7 with fail
      go_upto_if 14 with fail
      go_upto_region 10 with fail
      go_wp2_with fail
      go_ret
      refine ⟨k, rfl, by omega, ?_, ?_, rfl⟩
      · exact HSP.out.1
      · exact HSP.out.2
set_option maxRecDepth 100000 in
set_option maxHeartbeats 4000000 in
theorem len_any (x : Nat) (w : World) (h1 : 1 ≤ x) (h2 : x < 1000000) : Calls Tryd.prog 35 #[.int .u64 (x : Int)] w (LenR x w) := by
  have kc := len64_any x w h1 h2
  unfold LenR at kc ⊢
  go_enter Tryd.func35, Tryd.ntmps35
  go_wp2_with fail
  refine kc.mono ?_
  rintro en w1 ⟨k, rfl, k1, k2, k3, hw⟩
  subst hw
  clear kc
  have H2 := Lib.hid k2
  have H3 := Lib.hid k3
  clear k2 k3
  go_wp2_with fail
  go_ret
  exact ⟨k, rfl, k1, H2.out, H3.out, rfl⟩
def NpR (x : Nat) (w : World) (en : Ending) (w' : World) : Prop := ∃ m : Nat, en = .returned (.int .u64 (m : Int)) ∧ 1 ≤ m ∧ m ≤ 2 * x ∧ w' = w
set_option maxRecDepth 100000 in
set_option maxHeartbeats 4000000 in
theorem nextpow_any (x : Nat) (w : World) (h1 : 1 ≤ x) (h2 : x < 1000000) : Calls Tryd.prog 48 #[.int .i64 (x : Int)] w (NpR x w) := by
  have kc := len_any x w h1 h2
  unfold LenR at kc
  unfold NpR
  go_enter Tryd.func48, Tryd.ntmps48
  go_wp2_with fail
  refine kc.mono ?_
  rintro en w1 ⟨k, rfl, k1, k2, k3, hw⟩
  subst hw
  clear kc
  have hp := Nat.two_pow_pos k
  obtain ⟨m, hm⟩ : ∃ m, m = 2 ^ k := ⟨_, rfl⟩
  have hw1 : IntKind.u64.wrap ((2 : Int) ^ k) = (m : Int) := by
    have e : (2 : Int) ^ k = ((2 ^ k : Nat) : Int) := by simp
    rw [e, ← hm, IntKind.wrap_u64]; omega
  rw [← hm] at k2 k3 hp
  have H2 := Lib.hid k2
  clear k2 k3 hm
  go_wp2_with fail
  go_ret
  exact ⟨m, rfl, hp, H2.out, rfl⟩
/-- a number of 64 bits of the call's own beside the row -/
structure RnP (w0 : World) (b o : Nat) (d : Array Nat) (g : Nat) (w : World) : Prop where
  row : RowU w0 b o d w
  cell : ∃ z : Nat, z < 18446744073709551616 ∧ w.cell? ⟨g, 0, none⟩ = some (.int .u64 (z : Int))
  fr : w.frozen? ⟨g, 0, none⟩ = false
  ne : g ≠ b
  new : w0.heap.size ≤ g
theorem RnP.drewN {w0 w : World} {b o g : Nat} {d : Array Nat} (h : RnP w0 b o d g w) (n : Nat) : RnP w0 b o d g (w.drewN n) := ⟨h.row.drewN n, h.cell, h.fr, h.ne, h.new⟩
theorem RnP.set {w0 w : World} {b o g : Nat} {d : Array Nat} (h : RnP w0 b o d g w) (z : Nat) (hz : z < 18446744073709551616) : RnP w0 b o d g (w.setCell ⟨g, 0, none⟩ (.int .u64 (z : Int))) := by
  obtain ⟨y, _, hy⟩ := h.cell
  exact ⟨h.row.other g 0 _ h.ne h.new, ⟨z, hz, World.cell?_setCell_same _ _ _ hy⟩, by rw [World.frozen?_setCell]; exact h.fr, h.ne, h.new⟩
theorem RnP.swapR {w0 w : World} {b o g : Nat} {d : Array Nat} (h : RnP w0 b o d g w) (i j : Nat) (hi : i < d.size) (hj : j < d.size) (n : Nat) : RnP w0 b o (swp d i j) g (((w.drewN n).setCell ⟨b, o + i, none⟩ (.int .u64 ((d[j]! : Nat) : Int))).setCell ⟨b, o + j, none⟩ (.int .u64 ((d[i]! : Nat) : Int))) := by
  obtain ⟨z, hz, hc⟩ := h.cell
  refine ⟨h.row.swap i j hi hj n, ⟨z, hz, ?_⟩, ?_, h.ne, h.new⟩
  · rw [World.cell?_setCell_other _ _ _ _ (fun e => h.ne (by injection e with e _ _; exact e.symm)), World.cell?_setCell_other _ _ _ _ (fun e => h.ne (by injection e with e _ _; exact e.symm))]
    exact hc
  · rw [World.frozen?_setCell, World.frozen?_setCell]
    exact h.fr
theorem xor64 (x y : Int) : ∃ v : Nat, bits .xor .u64 x y = (v : Int) ∧ v < 18446744073709551616 := by
  refine ⟨(bits .xor .u64 x y).toNat, ?_, ?_⟩
  · rw [Int.toNat_of_nonneg]
    show 0 ≤ IntKind.u64.wrap _
    rw [IntKind.wrap_u64]; omega
  · have h1 : bits .xor .u64 x y < 18446744073709551616 := by
      show IntKind.u64.wrap _ < _
      rw [IntKind.wrap_u64]; omega
    have h0 : 0 ≤ bits .xor .u64 x y := by
      show 0 ≤ IntKind.u64.wrap _
      rw [IntKind.wrap_u64]; omega
    omega
def NxR (w0 : World) (b o : Nat) (d : Array Nat) (g : Nat) (en : Ending) (w' : World) : Prop := ∃ r : Nat, en = .returned (.int .u64 (r : Int)) ∧ r < 18446744073709551616 ∧ RnP w0 b o d g w'
set_option maxRecDepth 100000 in
set_option maxHeartbeats 4000000 in
theorem next_any (b o g : Nat) (d : Array Nat) (w0 w : World) (h : RnP w0 b o d g w) :
    Calls Tryd.prog 49 #[.pointer (some ⟨g, 0, none⟩)] w (NxR w0 b o d g) := by
  obtain ⟨z, hz, hc⟩ := h.cell
  have hf := h.fr
  have HH := Lib.hid h
  unfold NxR
  clear h
  go_enter Tryd.func49, Tryd.ntmps49
  go_upto_region 1 with fail
  obtain ⟨v1, hv1, hl1⟩ := xor64 (z : Int) (IntKind.u64.wrap ((z : Int) * 8192))
  go_region
  have hR1 := (HH.out.set v1 hl1).drewN 1
  have HR1 := Lib.hid hR1
  clear hR1
  try rw [hv1]
  generalize hw1 : World.drew _ = w1
  replace HR1 : Hid (RnP w0 b o d g w1) := by rw [← hw1]; exact HR1
  obtain ⟨z1, hz1, hc1⟩ := HR1.out.cell
  have hf1 := HR1.out.fr
  clear hw1 hv1 hc hf hz HH
  go_upto_region 2 with fail
  obtain ⟨v2, hv2, hl2⟩ := xor64 (z1 : Int) ((z1 : Int) / 128)
  go_region
  have hR2 := (HR1.out.set v2 hl2).drewN 1
  have HR2 := Lib.hid hR2
  clear hR2
  try rw [hv2]
  generalize hw2 : World.drew _ = w2
  replace HR2 : Hid (RnP w0 b o d g w2) := by rw [← hw2]; exact HR2
  obtain ⟨z2, hz2, hc2⟩ := HR2.out.cell
  have hf2 := HR2.out.fr
  clear hw2 hv2 hc1 hf1 hz1 HR1
  go_upto_region 3 with fail
  obtain ⟨v3, hv3, hl3⟩ := xor64 (z2 : Int) (IntKind.u64.wrap ((z2 : Int) * 131072))
  go_region
  have hR3 := (HR2.out.set v3 hl3).drewN 1
  have HR3 := Lib.hid hR3
  clear hR3
  try rw [hv3]
  generalize hw3 : World.drew _ = w3
  replace HR3 : Hid (RnP w0 b o d g w3) := by rw [← hw3]; exact HR3
  obtain ⟨z3, hz3, hc3⟩ := HR3.out.cell
  have hf3 := HR3.out.fr
  clear hw3 hv3 hc2 hf2 hz2 HR2
  go_wp2_with fail
  go_ret
  exact ⟨z3, rfl, hz3, HR3.out⟩
def BrkR (a e : Nat) (w0 : World) (b o : Nat) (d : Array Nat) (en : Ending) (w' : World) : Prop := en = .returned (.tuple #[]) ∧ ∃ d', Go.Sort.PermIn a e d d' ∧ RowU w0 b o d' w'
set_option maxRecDepth 100000 in
set_option maxHeartbeats 8000000 in
theorem break_any (b o n c a e : Nat) (d : Array Nat) (w0 w : World) (h : RowU w0 b o d w) (hn : d.size = n) (_hb0 : b < w0.heap.size) (hae : a + 8 ≤ e) (hen : e ≤ n) (hsz : n < 1000000) :
    Calls Tryd.prog 38 #[.slice (some ⟨b, o, none⟩) n c, .int .i64 (a : Int), .int .i64 (e : Int)] w (BrkR a e w0 b o d) := by
  obtain ⟨l, hl⟩ : ∃ l, l = e - a := ⟨_, rfl⟩
  have hl' : (e : Int) - (a : Int) = (l : Int) := by omega
  obtain ⟨q, hq⟩ : ∃ q, q = l / 4 := ⟨_, rfl⟩
  have hq1 : (l : Int).tdiv 4 = (q : Int) := by rw [Int.tdiv_eq_ediv_of_nonneg (by omega)]; omega
  have hq2 : (l : Int) / 4 = (q : Int) := by omega
  obtain ⟨m, hm⟩ : ∃ m, m = a + q * 2 := ⟨_, rfl⟩
  have hm1 : (a : Int) + (q : Int) * 2 = (m : Int) := by omega
  obtain ⟨m0, hm0⟩ : ∃ m0, m0 = m - 1 := ⟨_, rfl⟩
  have hm2 : (m : Int) - 1 = (m0 : Int) := by omega
  have h8 : (8 : Int) ≤ (l : Int) := by omega
  have hg := h.lt (by omega)
  have hge : w0.heap.size ≤ w.heap.size := h.k.size
  have b1 : a ≤ m0 ∧ m0 + 1 = m ∧ m + 1 < e ∧ a + l = e ∧ 1 ≤ l ∧ l < 1000000 := by omega
  have hs0 : RnP w0 b o d w.heap.size (w.alloc (.cells #[.int .u64 (l : Int)] 82)) := ⟨h.alloc (by omega) _, ⟨l, by omega, cell_new w _ _⟩, frozen_new w _ _, by omega, hge⟩
  have HS0 := Lib.hid hs0
  have B1 := Lib.hid b1
  have kN := fun W => nextpow_any l W (by omega) (by omega)
  clear hs0 h hl hq hm hm0 b1
  unfold BrkR
  go_enter Tryd.func38, Tryd.ntmps38
  go_wp2_with fail
  refine (kN _).mono ?_
  rintro en w1 ⟨M, rfl, hM1, hM2, hw1⟩
  subst hw1
  have HM2 := Lib.hid hM2
  have hMl : M < 2000000 := by have := B1.out; omega
  clear hM2 kN
  go_wp2_with fail
  generalize hgg : w.heap.size = g at *
  clear hgg
  go_loopw [9, 10] (fun v9 _ wr => ∃ (idx : Nat) (dj : Array Nat), v9 = .int .i64 (idx : Int) ∧ m0 ≤ idx ∧ idx ≤ m + 2 ∧ dj.size = n ∧ Go.Sort.PermIn a e d dj ∧ RnP w0 b o dj g wr) (fun v9 _ _ => (m + 2 - (intOf v9)).toNat)
  case atStart => exact ⟨m0, d, rfl, Nat.le_refl _, by have := B1.out; omega, hn, Go.Sort.permIn_refl d a e, HS0.out⟩
  case round =>
    clear HS0
    obtain ⟨idx, dj, rfl, hi1, hi2, hdj, hP, hR⟩ := hrel
    have HP := Lib.hid hP
    have HR := Lib.hid hR
    clear hP hR
    by_cases hle : idx ≤ m + 1
    · have hle' : (idx : Int) ≤ (m : Int) + 1 := by omega
      go_wp2_with fail
      refine (next_any b o g dj w0 wr HR.out).mono ?_
      rintro en w2 ⟨r, rfl, hr, hR2⟩
      have HR2 := Lib.hid hR2
      clear hR2 HR
      obtain ⟨v, hv⟩ : ∃ v, v = r &&& (M - 1) := ⟨_, rfl⟩
      have hvl : v ≤ M - 1 := by rw [hv]; exact Nat.and_le_right
      have hand : bits .and .u64 (r : Int) ((M : Int) - 1) = (v : Int) := by
        rw [show (M : Int) - 1 = ((M - 1 : Nat) : Int) by omega, bits_and_u64_nat r (M - 1) hr (by omega), hv]
      have hv2l : v < 2 * l := by have := HM2.out; omega
      clear hv hr
      by_cases hlv : l ≤ v
      · have hlv' : (l : Int) ≤ (v : Int) := by omega
        obtain ⟨u, hu⟩ : ∃ u, u = v - l := ⟨_, rfl⟩
        have hu' : (v : Int) - (l : Int) = (u : Int) := by omega
        have hul : u < l := by omega
        clear hu
        obtain ⟨p, hp⟩ : ∃ p, p = a + u := ⟨_, rfl⟩
        have hp' : (a : Int) + (u : Int) = (p : Int) := by omega
        have hpn : p < n ∧ a ≤ p ∧ p < e := by have := B1.out; omega
        have hin : idx < n ∧ a ≤ idx ∧ idx < e := by have := B1.out; omega
        have HPN := Lib.hid hpn
        have HIN := Lib.hid hin
        have lp : p < n := hpn.1
        have li : idx < n := hin.1
        clear hp hpn hin
        obtain ⟨G, hG, hcw, hfw⟩ := HR2.out.row.fam hdj
        have HG := Lib.hid hG
        clear hG
        obtain ⟨v2, hv2⟩ := set_some hcw idx p li lp (.int .u64 (G p : Int))
        go_upto_region 10 with fail
        go_region
        all_goals go_wp2_with fail
        have hR := HR2.out.swapR idx p (by omega) (by omega) 1
        rw [← HG.out, ← HG.out] at hR
        have HR3 := Lib.hid hR
        clear hR
        go_roundw
        case rel => exact ⟨idx + 1, _, by go_num, by omega, by have := B1.out; omega, by rw [size_swp']; exact hdj, Go.Sort.permIn_trans _ _ _ a e HP.out (Go.Sort.swp_permIn _ a e idx p HIN.out.2.1 HIN.out.2.2 HPN.out.2.1 HPN.out.2.2 (by rw [hdj]; exact hen)), HR3.out⟩
        case measure => simp [intOf] <;> omega
      · have hlv' : ¬ (l : Int) ≤ (v : Int) := by omega
        obtain ⟨p, hp⟩ : ∃ p, p = a + v := ⟨_, rfl⟩
        have hp' : (a : Int) + (v : Int) = (p : Int) := by omega
        have hpn : p < n ∧ a ≤ p ∧ p < e := by have := B1.out; omega
        have hin : idx < n ∧ a ≤ idx ∧ idx < e := by have := B1.out; omega
        have HPN := Lib.hid hpn
        have HIN := Lib.hid hin
        have lp : p < n := hpn.1
        have li : idx < n := hin.1
        clear hp hpn hin
        obtain ⟨G, hG, hcw, hfw⟩ := HR2.out.row.fam hdj
        have HG := Lib.hid hG
        clear hG
        obtain ⟨v2, hv2⟩ := set_some hcw idx p li lp (.int .u64 (G p : Int))
        go_upto_region 10 with fail
        go_region
        all_goals go_wp2_with fail
        have hR := HR2.out.swapR idx p (by omega) (by omega) 1
        rw [← HG.out, ← HG.out] at hR
        have HR3 := Lib.hid hR
        clear hR
        go_roundw
        case rel => exact ⟨idx + 1, _, by go_num, by omega, by have := B1.out; omega, by rw [size_swp']; exact hdj, Go.Sort.permIn_trans _ _ _ a e HP.out (Go.Sort.swp_permIn _ a e idx p HIN.out.2.1 HIN.out.2.2 HPN.out.2.1 HPN.out.2.2 (by rw [hdj]; exact hen)), HR3.out⟩
        case measure => simp [intOf] <;> omega
    · have hle' : ¬ (idx : Int) ≤ (m : Int) + 1 := by omega
      go_wp2_with fail
      go_end0
      exact ⟨rfl, dj, HP.out, HR.out.row⟩
end Go.Proofs.YtjpmigagoedbcaaDoor.Pm
