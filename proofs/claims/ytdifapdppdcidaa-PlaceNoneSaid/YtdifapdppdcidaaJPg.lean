/-
Layer 10, PlaceWords: a stored number is loaded in parts.
Layer 10, PlaceWords: the law's walk.
-/
import Derived.Test.YtdifapdppdcidaaJPf
namespace Go.Proofs.Ytdifapdppdcidaa
open Go Go.RowKit

theorem leT_dig {f : Nat → Nat} (z : Nat) : ∀ (n j t : Nat), (∀ i, i < n → f (j + i) = z / 256 ^ (t + i) % 256) → leT f n j = z / 256 ^ t % 256 ^ n
  | 0, _, _, _ => by show 0 = _ % 1; omega
  | n + 1, j, t, h => by
    have h0 := h 0 (by omega)
    rw [Nat.add_zero, Nat.add_zero] at h0
    have ih := leT_dig z n (j + 1) (t + 1) fun i hi => by have := h (i + 1) (by omega); rwa [show j + 1 + i = j + (i + 1) by omega, show t + 1 + i = t + (i + 1) by omega]
    show f j + 256 * leT f n (j + 1) = _
    rw [h0, ih, Nat.pow_succ 256 t, ← Nat.div_div_eq_div_mul, Nat.pow_succ, Nat.mul_comm (256 ^ n) 256, Nat.mod_mul]
/-- the two numbers side by side -/
def wrd10 (x y : Nat) : Nat := x + y * 4294967296
def memW (k x y : Nat) : Nat → UInt8 := stM (stM mem0 (2147483648 + k) 4 x) (2147483648 + k + 4) 4 y
theorem inR_at (k n : Nat) (h : k + n ≤ 65536) : inR (2147483648 + k) n = true := decide_eq_true (by omega)
theorem stB_at (k n : Nat) (h : k + n ≤ 65536) (hn : n = 1 ∨ n = 2 ∨ n = 4) : stB (2147483648 + k) (n : Int) = true := by
  unfold stB
  rw [Int.toNat_natCast, inR_at k n h, show widB (n : Int) = true from decide_eq_true (by omega)]
  rfl
theorem stM_at (m : Nat → UInt8) (k n x : Nat) (h : k + n ≤ 65536) (hn : n = 1 ∨ n = 2 ∨ n = 4) (j : Nat) :
    stM m (2147483648 + k) (n : Int) x j = if k ≤ j ∧ j < k + n then UInt8.ofNat (x / 256 ^ (j - k)) else m j := by
  unfold stM
  rw [stB_at k n h hn, if_pos rfl]
  unfold putM
  rw [Int.toNat_natCast, leB_len, show 2147483648 + k - 2147483648 = k by omega]
  by_cases hj : k ≤ j ∧ j < k + n
  · rw [if_pos hj, if_pos hj]
    unfold leB
    simp [List.getD_eq_getElem?_getD, show j - k < n by omega]
  · rw [if_neg hj, if_neg hj]
theorem memW_at (k x y i : Nat) (hk : k < 65528) (hx : x < 4294967296) (hi : i < 8) : ((memW k x y (k + i)).toNat) = wrd10 x y / 256 ^ i % 256 := by
  unfold memW wrd10
  rw [show ((4 : Int)) = ((4 : Nat) : Int) from rfl, show 2147483648 + k + 4 = 2147483648 + (k + 4) by omega, stM_at _ (k + 4) 4 y (by omega) (by omega), stM_at _ k 4 x (by omega) (by omega)]
  have h : i = 0 ∨ i = 1 ∨ i = 2 ∨ i = 3 ∨ i = 4 ∨ i = 5 ∨ i = 6 ∨ i = 7 := by omega
  rcases h with rfl | rfl | rfl | rfl | rfl | rfl | rfl | rfl
  · rw [if_neg (by omega), if_pos (by omega), show k + 0 - k = 0 by omega, UInt8.toNat_ofNat']; omega
  · rw [if_neg (by omega), if_pos (by omega), show k + 1 - k = 1 by omega, UInt8.toNat_ofNat']; omega
  · rw [if_neg (by omega), if_pos (by omega), show k + 2 - k = 2 by omega, UInt8.toNat_ofNat']; omega
  · rw [if_neg (by omega), if_pos (by omega), show k + 3 - k = 3 by omega, UInt8.toNat_ofNat']; omega
  · rw [if_pos (by omega), show k + 4 - (k + 4) = 0 by omega, UInt8.toNat_ofNat']; omega
  · rw [if_pos (by omega), show k + 5 - (k + 4) = 1 by omega, UInt8.toNat_ofNat']; omega
  · rw [if_pos (by omega), show k + 6 - (k + 4) = 2 by omega, UInt8.toNat_ofNat']; omega
  · rw [if_pos (by omega), show k + 7 - (k + 4) = 3 by omega, UInt8.toNat_ofNat']; omega
/-- a part of the two numbers -/
theorem part_at (k x y i n : Nat) (hk : k < 65528) (hx : x < 4294967296) (hn : n = 1 ∨ n = 2 ∨ n = 4) (hi : i + n ≤ 8) :
    ldV (memW k x y) (2147483648 + k + i) (n : Int) = wrd10 x y / 256 ^ i % 256 ^ n ∧ stB (2147483648 + k + i) (n : Int) = true := by
  have h := stB_at (k + i) n (by omega) hn
  rw [show 2147483648 + (k + i) = 2147483648 + k + i by omega] at h
  refine ⟨?_, h⟩
  unfold ldV
  rw [h, if_pos rfl, Int.toNat_natCast, show 2147483648 + k + i - 2147483648 = k + i by omega]
  refine leT_dig (wrd10 x y) n (k + i) i fun j hj => ?_
  rw [show k + i + j = k + (i + j) by omega]
  exact memW_at k x y (i + j) hk hx (by omega)
/-- the last look: two bytes written across the border -/
def memW3 (k x y : Nat) : Nat → UInt8 := stM (memW k x y) (2147483648 + k + 3) 2 43981
theorem last_at (k x y : Nat) (hk : k < 65528) (hx : x < 4294967296) (_hy : y < 4294967296) :
    ldV (memW3 k x y) (2147483648 + k + 2) 4 = x / 65536 % 256 + 43981 * 256 + y / 256 % 256 * 16777216 := by
  have h := stB_at (k + 2) 4 (by omega) (by omega)
  rw [show 2147483648 + (k + 2) = 2147483648 + k + 2 by omega] at h
  have hb : ∀ i, i < 8 → ((memW3 k x y (k + i)).toNat) = if 3 ≤ i ∧ i < 5 then 43981 / 256 ^ (i - 3) % 256 else wrd10 x y / 256 ^ i % 256 := by
    intro i hi
    unfold memW3
    rw [show ((2 : Int)) = ((2 : Nat) : Int) from rfl, show 2147483648 + k + 3 = 2147483648 + (k + 3) by omega, stM_at _ (k + 3) 2 43981 (by omega) (by omega)]
    by_cases h3 : 3 ≤ i ∧ i < 5
    · rw [if_pos (by omega), if_pos h3, UInt8.toNat_ofNat', show k + i - (k + 3) = i - 3 by omega]
    · rw [if_neg (by omega), if_neg h3]
      exact memW_at k x y i hk hx hi
  have h2 := hb 2 (by omega)
  have h3 := hb 3 (by omega)
  have h4 := hb 4 (by omega)
  have h5 := hb 5 (by omega)
  rw [if_neg (by omega)] at h2 h5
  rw [if_pos (by omega)] at h3 h4
  unfold ldV
  rw [show ((4 : Int)) = ((4 : Nat) : Int) from rfl, h, if_pos rfl, Int.toNat_natCast, show 2147483648 + k + 2 - 2147483648 = k + 2 by omega]
  show (memW3 k x y (k + 2)).toNat + 256 * ((memW3 k x y (k + 3)).toNat + 256 * ((memW3 k x y (k + 4)).toNat + 256 * ((memW3 k x y (k + 5)).toNat + 256 * 0))) = _
  rw [h2, h3, h4, h5]
  unfold wrd10
  omega
end Go.Proofs.Ytdifapdppdcidaa
namespace Go.Proofs.Ytdifapdppdcidaa
open Go Go.RowKit

theorem w64_or (a b : Nat) (ha : a < 18446744073709551616) (hb : b < 18446744073709551616) : bits .or .u64 (a : Int) (b : Int) = ((a ||| b : Nat) : Int) := by
  have hx : a ||| b < 2 ^ 64 := Nat.or_lt_two_pow (by omega) (by omega)
  show IntKind.u64.wrap ((BitVec.ofInt 64 (a : Int) ||| BitVec.ofInt 64 (b : Int)).toNat : Int) = _
  rw [BitVec.toNat_or, ofInt_u64 a ha, ofInt_u64 b hb, IntKind.wrap_u64]
  omega
theorem w64_and (a b : Nat) (ha : a < 18446744073709551616) (hb : b < 18446744073709551616) : bits .and .u64 (a : Int) (b : Int) = ((a &&& b : Nat) : Int) := by
  have hx : a &&& b < 2 ^ 64 := Nat.and_lt_two_pow _ (by omega)
  show IntKind.u64.wrap ((BitVec.ofInt 64 (a : Int) &&& BitVec.ofInt 64 (b : Int)).toNat : Int) = _
  rw [BitVec.toNat_and, ofInt_u64 a ha, ofInt_u64 b hb, IntKind.wrap_u64]
  omega
theorem both_or (x y : Nat) (hx : x < 4294967296) (hy : y < 4294967296) : bits .or .u64 (x : Int) ((y : Int) * 4294967296) = ((wrd10 x y : Nat) : Int) := by
  have h := w64_or x (y * 4294967296) (by omega) (by omega)
  rw [Nat.or_comm, nat_join 32 _ _ (by omega) (by omega)] at h
  rw [show (y : Int) * 4294967296 = ((y * 4294967296 : Nat) : Int) by omega, h]
  unfold wrd10
  omega
theorem part_and (z i j : Nat) (hz : z < 18446744073709551616) (hj : j ≤ 32) : bits .and .u64 ((z : Int) / 2 ^ (8 * i)) ((2 ^ j - 1 : Nat) : Int) = ((z / 256 ^ i % 2 ^ j : Nat) : Int) := by
  have h256 : (256 : Nat) ^ i = 2 ^ (8 * i) := by rw [Nat.pow_mul]
  have hp : 2 ^ j ≤ 2 ^ 32 := Nat.pow_le_pow_right (by omega) hj
  have h1 : (z : Int) / 2 ^ (8 * i) = ((z / 256 ^ i : Nat) : Int) := by rw [h256]; push_cast; rfl
  have hlt : z / 256 ^ i < 18446744073709551616 := Nat.lt_of_le_of_lt (Nat.div_le_self _ _) hz
  rw [h1, w64_and _ _ hlt (by omega), Nat.and_two_pow_sub_one_eq_mod]
theorem wrd_lt10 (x y : Nat) (hx : x < 4294967296) (hy : y < 4294967296) : wrd10 x y < 18446744073709551616 := by unfold wrd10; omega
set_option maxRecDepth 100000 in
set_option maxHeartbeats 300000 in
theorem words10_ok (a x y : Nat) (w : World) (ha : a < 4294967296) (hx : x < 4294967296) (hy : y < 4294967296) :
    Calls Try.prog 6 #[.int .u32 (a : Int), .int .u32 (x : Int), .int .u32 (y : Int)] w fun e w' => e = .returned (.bool true) ∧ Below w.heap.size w w' := by
  have kF := fit10_any w
  have kN := fun W => pnew_any W
  obtain ⟨k, hk⟩ : ∃ k, k = a % 65528 := ⟨_, rfl⟩
  have hk2 : k < 65528 := by omega
  have e1 : (a : Int) % 65528 = (k : Int) := by omega
  have e1t : (a : Int).tmod 65528 = (k : Int) := by rw [Int.tmod_eq_emod_of_nonneg (by omega)]; exact e1
  obtain ⟨b0, hb0⟩ : ∃ b, b = 2147483648 + k := ⟨_, rfl⟩
  have e2 : 2147483648 + (k : Int) = (b0 : Int) := by omega
  obtain ⟨b4, hb4⟩ : ∃ b, b = b0 + 4 := ⟨_, rfl⟩
  have e3 : (b0 : Int) + 4 = (b4 : Int) := by omega
  have hB0 : b0 < 2147549176 := by omega
  have hB4 : b4 < 2147549180 := by omega
  have kS1 := fun g W (h : RamP W g mem0) => store_any mem0 g b0 x 4 W h (by omega) hx
  have kS2 := fun g W (h : RamP W g (stM mem0 b0 4 x)) => store_any (stM mem0 b0 4 x) g b4 y 4 W h (by omega) hy
  have s1 : stB b0 4 = true := by rw [hb0]; exact stB_at k 4 (by omega) (by omega)
  have s2 : stB b4 4 = true := by rw [hb4, hb0, show 2147483648 + k + 4 = 2147483648 + (k + 4) by omega]; exact stB_at (k + 4) 4 (by omega) (by omega)
  rw [s1, show erI true = 0 from rfl] at kS1
  have hm2 : stM (stM mem0 b0 4 x) b4 4 y = memW k x y := by rw [hb4, hb0]; rfl
  rw [s2, show erI true = 0 from rfl, hm2] at kS2
  clear s1 s2 hm2
  generalize stM mem0 b0 4 x = m1 at *
  generalize mem0 = m0 at *
  have HB0 := Lib.hid hb0
  have HB4 := Lib.hid hb4
  clear hk hb0 hb4
  go_enter Try.func6, Try.ntmps6
  go_upto_region 4 with (first
    | (go_at_call 7; refine kF.mono ?_; rintro e w1 ⟨rfl, hb1⟩)
    | (go_at_call 8; refine (kN _).mono ?_; rintro e w2 ⟨⟨g, rfl, hG, hgw⟩, hb2⟩))
  go_upto_region 5 with fail
  go_wp2_with fail
  refine (kS1 _ _ hG).mono ?_
  rintro e w3 ⟨rfl, hG3, hgr3⟩
  clear kS1
  go_wp2_with fail
  refine (kS2 _ _ hG3).mono ?_
  rintro e w4 ⟨rfl, hG4, hgr4⟩
  clear kS2
  have hor := both_or x y hx hy
  have hb5 : Below w.heap.size w w4 := below_only (below_only (below_trans hb1 hb2) hgr3 (Nat.le_trans hb1.size hgw) (Nat.le_trans hb1.size hb2.size)) hgr4 (Nat.le_trans hb1.size hgw) (Nat.le_trans (Nat.le_trans hb1.size hb2.size) hgr3.size)
  have hgw5 := Nat.le_trans hb1.size hgw
  have HZ : Hid (∀ i n : Nat, n = 1 ∨ n = 2 ∨ n = 4 → i + n ≤ 8 → ldV (memW k x y) (b0 + i) (n : Int) = wrd10 x y / 256 ^ i % 256 ^ n ∧ stB (b0 + i) (n : Int) = true) := Lib.hid fun i n h1 h2 => by rw [HB0.out]; exact part_at k x y i n hk2 hx h1 h2
  have hz := wrd_lt10 x y hx hy
  go_wp2_with fail
  generalize wrd10 x y = z at *
  have HM := Lib.hid (rfl : memW k x y = memW k x y)
  clear hG hG3 hgr3 hgr4 hb1 hb2 hor kF kN e1 e1t e2 e3
  go_loopw [37] (fun ct wr => ∃ i : Nat, i ≤ 8 ∧ ct = .int .u32 (i : Int) ∧ RamP wr g (memW k x y) ∧ Below w.heap.size w wr) (fun ct _ => (8 - (intOf ct)).toNat)
  case atStart => exact ⟨0, by decide, rfl, hG4, hb5⟩
  case round =>
    obtain ⟨i, hi, rfl, hGr, hb⟩ := hrel
    by_cases hlt : i < 8
    · have di : (i : Int) < 8 := by omega
      have hL := fun n W (h : RamP W g (memW k x y)) => mload_any (memW k x y) g (b0 + i) n W h (by omega)
      have e7 : (b0 : Int) + (i : Int) = ((b0 + i : Nat) : Int) := by omega
      obtain ⟨bi, hbi⟩ : ∃ b, b = b0 + i := ⟨_, rfl⟩
      rw [← hbi] at hL e7
      have hbi2 : bi < 4294967296 := by omega
      have HBI := Lib.hid hbi
      have hws := hb.size
      clear hbi hG4 hb5
      go_wp2_with fail
      have hT : Has (wr.alloc (.cells #[.int .i64 1, .int .i64 2, .int .i64 4] 3)) wr.heap.size 3 #[.int .i64 1, .int .i64 2, .int .i64 4] := Has.new _ _ _
      have hbu : Below w.heap.size w (wr.alloc (.cells #[.int .i64 1, .int .i64 2, .int .i64 4] 3)) := hb.alloc hws _
      have hG2 : RamP (wr.alloc (.cells #[.int .i64 1, .int .i64 2, .int .i64 4] 3)) g (memW k x y) := hGr.after ((Below.refl _ _).alloc (Nat.le_refl _) _)
      generalize wr.alloc (.cells #[.int .i64 1, .int .i64 2, .int .i64 4] 3) = u at *
      generalize wr.heap.size = gt at *
      have h8 : (8 * (i : Int)).toNat = 8 * i := by omega
      go_loopw [42] (fun cj wr => ∃ j : Nat, j ≤ 3 ∧ cj = .int .i64 (j : Int) ∧ Below u.heap.size u wr) (fun cj _ => (3 - (intOf cj)).toNat)
      case atStart => exact ⟨0, by decide, rfl, Below.refl _ _⟩
      case round =>
        obtain ⟨j, hj, rfl, hbs⟩ := hrel
        have hT2 := hT.after hbs
        rcases (show j = 0 ∨ j = 1 ∨ j = 2 ∨ j = 3 by omega) with rfl | rfl | rfl | rfl
        · have hci := hT2.cell 0
          replace hci : wr.cell? ⟨gt, 0, none⟩ = some (.int .i64 1) := hci
          have kL := hL 1 wr (hG2.after hbs)
          have hZn := HZ.out i 1 (by omega)
          rw [← HBI.out] at hZn
          have hpa := part_and z i 8 hz (by decide)
          simp only [Int.cast_ofNat_Int] at hZn
          by_cases hin : i + 1 ≤ 8
          · obtain ⟨z1, z2⟩ := hZn hin
            rw [z1, z2, show erI true = 0 from rfl] at kL
            have din : (i : Int) + 1 ≤ 8 := by omega
            have hlt3 : z / 256 ^ i % 256 ^ 1 < 256 ^ 1 := Nat.mod_lt _ (by decide)
            rw [show (2 : Nat) ^ 8 = 256 ^ 1 from rfl] at hpa
            have HPA := Lib.hid hpa
            generalize z / 256 ^ i % 256 ^ 1 = q at *
            replace hpa : bits .and .u64 ((z : Int) / 2 ^ (8 * i)) 255 = ((q : Nat) : Int) := HPA.out
            have hq : q < 256 := hlt3
            clear hZn z1 z2 hlt3 hin
            go_wp2_with fail
            refine kL.mono ?_
            rintro e w6 ⟨rfl, hb6⟩
            clear kL
            go_wp2_with fail
            go_roundw
            case rel => exact ⟨1, by decide, rfl, below_trans hbs (hb6.mono (Nat.le_refl _))⟩
            case measure => simp [intOf] <;> omega
          · have din : 8 < (i : Int) + 1 := by omega
            have dout : ¬ ((i : Int) + 1 ≤ 8) := by omega
            clear hZn hin hpa
            generalize ldV (memW k x y) bi 1 = v0 at *
            generalize erI (stB bi 1) = e0 at *
            go_wp2_with fail
            refine kL.mono ?_
            rintro e w6 ⟨rfl, hb6⟩
            clear kL
            go_wp2_with fail
            go_roundw
            case rel => exact ⟨1, by decide, rfl, below_trans hbs (hb6.mono (Nat.le_refl _))⟩
            case measure => simp [intOf] <;> omega
        · have hci := hT2.cell 1
          replace hci : wr.cell? ⟨gt, 1, none⟩ = some (.int .i64 2) := hci
          have kL := hL 2 wr (hG2.after hbs)
          have hZn := HZ.out i 2 (by omega)
          rw [← HBI.out] at hZn
          have hpa := part_and z i 16 hz (by decide)
          simp only [Int.cast_ofNat_Int] at hZn
          by_cases hin : i + 2 ≤ 8
          · obtain ⟨z1, z2⟩ := hZn hin
            rw [z1, z2, show erI true = 0 from rfl] at kL
            have din : (i : Int) + 2 ≤ 8 := by omega
            have hlt3 : z / 256 ^ i % 256 ^ 2 < 256 ^ 2 := Nat.mod_lt _ (by decide)
            rw [show (2 : Nat) ^ 16 = 256 ^ 2 from rfl] at hpa
            have HPA := Lib.hid hpa
            generalize z / 256 ^ i % 256 ^ 2 = q at *
            replace hpa : bits .and .u64 ((z : Int) / 2 ^ (8 * i)) 65535 = ((q : Nat) : Int) := HPA.out
            have hq : q < 65536 := hlt3
            clear hZn z1 z2 hlt3 hin
            go_wp2_with fail
            refine kL.mono ?_
            rintro e w6 ⟨rfl, hb6⟩
            clear kL
            go_wp2_with fail
            go_roundw
            case rel => exact ⟨2, by decide, rfl, below_trans hbs (hb6.mono (Nat.le_refl _))⟩
            case measure => simp [intOf] <;> omega
          · have din : 8 < (i : Int) + 2 := by omega
            have dout : ¬ ((i : Int) + 2 ≤ 8) := by omega
            clear hZn hin hpa
            generalize ldV (memW k x y) bi 2 = v0 at *
            generalize erI (stB bi 2) = e0 at *
            go_wp2_with fail
            refine kL.mono ?_
            rintro e w6 ⟨rfl, hb6⟩
            clear kL
            go_wp2_with fail
            go_roundw
            case rel => exact ⟨2, by decide, rfl, below_trans hbs (hb6.mono (Nat.le_refl _))⟩
            case measure => simp [intOf] <;> omega
        · have hci := hT2.cell 2
          replace hci : wr.cell? ⟨gt, 2, none⟩ = some (.int .i64 4) := hci
          have kL := hL 4 wr (hG2.after hbs)
          have hZn := HZ.out i 4 (by omega)
          rw [← HBI.out] at hZn
          have hpa := part_and z i 32 hz (by decide)
          simp only [Int.cast_ofNat_Int] at hZn
          by_cases hin : i + 4 ≤ 8
          · obtain ⟨z1, z2⟩ := hZn hin
            rw [z1, z2, show erI true = 0 from rfl] at kL
            have din : (i : Int) + 4 ≤ 8 := by omega
            have hlt3 : z / 256 ^ i % 256 ^ 4 < 256 ^ 4 := Nat.mod_lt _ (by decide)
            rw [show (2 : Nat) ^ 32 = 256 ^ 4 from rfl] at hpa
            have HPA := Lib.hid hpa
            generalize z / 256 ^ i % 256 ^ 4 = q at *
            replace hpa : bits .and .u64 ((z : Int) / 2 ^ (8 * i)) 4294967295 = ((q : Nat) : Int) := HPA.out
            have hq : q < 4294967296 := hlt3
            clear hZn z1 z2 hlt3 hin
            go_wp2_with fail
            refine kL.mono ?_
            rintro e w6 ⟨rfl, hb6⟩
            clear kL
            go_wp2_with fail
            go_roundw
            case rel => exact ⟨3, by decide, rfl, below_trans hbs (hb6.mono (Nat.le_refl _))⟩
            case measure => simp [intOf] <;> omega
          · have din : 8 < (i : Int) + 4 := by omega
            have dout : ¬ ((i : Int) + 4 ≤ 8) := by omega
            clear hZn hin hpa
            generalize ldV (memW k x y) bi 4 = v0 at *
            generalize erI (stB bi 4) = e0 at *
            go_wp2_with fail
            refine kL.mono ?_
            rintro e w6 ⟨rfl, hb6⟩
            clear kL
            go_wp2_with fail
            go_roundw
            case rel => exact ⟨3, by decide, rfl, below_trans hbs (hb6.mono (Nat.le_refl _))⟩
            case measure => simp [intOf] <;> omega
        · clear hL hz
          go_wp2_with fail
          go_roundw
          case rel => exact ⟨i + 1, by omega, by go_num, hG2.after hbs, hbu.trans (hbs.mono hbu.size)⟩
          case measure => simp [intOf] <;> omega
    · obtain rfl : i = 8 := by omega
      clear hlt hz hi
      have hv := last_at k x y hk2 hx hy
      have s3 : stB (b0 + 3) 2 = true := by rw [HB0.out, show 2147483648 + k + 3 = 2147483648 + (k + 3) by omega]; exact stB_at (k + 3) 2 (by omega) (by omega)
      have s4 : stB (b0 + 2) 4 = true := by rw [HB0.out, show 2147483648 + k + 2 = 2147483648 + (k + 2) by omega]; exact stB_at (k + 2) 4 (by omega) (by omega)
      have hm3 : stM (memW k x y) (b0 + 3) 2 43981 = memW3 k x y := by rw [HB0.out]; rfl
      have kS3 := store_any (memW k x y) g (b0 + 3) 43981 2 wr hGr (by omega) (by decide)
      have kL3 := fun W (h : RamP W g (memW3 k x y)) => mload_any (memW3 k x y) g (b0 + 2) 4 W h (by omega)
      rw [s3, hm3, show erI true = 0 from rfl] at kS3
      rw [s4, show erI true = 0 from rfl] at kL3
      rw [← HB0.out] at hv
      rw [hv] at kL3
      have e5 : (b0 : Int) + 3 = ((b0 + 3 : Nat) : Int) := by omega
      have e6 : (b0 : Int) + 2 = ((b0 + 2 : Nat) : Int) := by omega
      have hb3 : b0 + 3 < 4294967296 := by omega
      have hb2' : b0 + 2 < 4294967296 := by omega
      generalize b0 + 3 = b3 at *
      generalize b0 + 2 = b2 at *
      obtain ⟨p, hp⟩ : ∃ p, p = x / 65536 % 256 := ⟨_, rfl⟩
      obtain ⟨q, hq⟩ : ∃ q, q = y / 256 % 256 := ⟨_, rfl⟩
      obtain ⟨p1, hp1⟩ : ∃ p1, p1 = p + 11259136 := ⟨_, rfl⟩
      obtain ⟨v, hv2⟩ : ∃ v, v = p1 + q * 16777216 := ⟨_, rfl⟩
      have a1 : bits .and .u32 ((x : Int) / 65536) 255 = (p : Int) := by
        have h := u32_and_nat (x / 65536) 255 (by omega) (by decide)
        rw [show (255 : Nat) = 2 ^ 8 - 1 from rfl, Nat.and_two_pow_sub_one_eq_mod] at h
        rw [hp, show (x : Int) / 65536 = ((x / 65536 : Nat) : Int) by omega]
        exact h
      have a3 : bits .and .u32 ((y : Int) / 256) 255 = (q : Int) := by
        have h := u32_and_nat (y / 256) 255 (by omega) (by decide)
        rw [show (255 : Nat) = 2 ^ 8 - 1 from rfl, Nat.and_two_pow_sub_one_eq_mod] at h
        rw [hq, show (y : Int) / 256 = ((y / 256 : Nat) : Int) by omega]
        exact h
      have hp8 : p < 256 := by omega
      have hq8 : q < 256 := by omega
      have a2 : bits .or .u32 (p : Int) 11259136 = (p1 : Int) := by
        have h := u32_or_nat p 11259136 (by omega) (by decide)
        rw [Nat.or_comm, nat_join 8 _ _ (by decide) (by omega)] at h
        rw [show ((11259136 : Nat) : Int) = 11259136 from rfl] at h
        rw [h]
        omega
      have a4 : bits .or .u32 (p1 : Int) ((q : Int) * 16777216) = (v : Int) := by
        have h := u32_or_nat p1 (q * 16777216) (by omega) (by omega)
        rw [Nat.or_comm, nat_join 24 _ _ (by omega) (by omega)] at h
        rw [show (q : Int) * 16777216 = ((q * 16777216 : Nat) : Int) by omega, h]
        omega
      rw [← hp, ← hq, show p + 43981 * 256 + q * 16777216 = v by omega] at kL3
      have hv3 : v < 4294967296 := by omega
      have hp3 : p1 < 4294967296 := by omega
      clear hp hq hp1 hv2 hv s3 s4 hm3 hG4 hb5
      go_wp2_with fail
      refine kS3.mono ?_
      rintro e w6 ⟨rfl, hG6, hgr6⟩
      clear kS3
      go_wp2_with fail
      refine (kL3 _ hG6).mono ?_
      rintro e w7 ⟨rfl, hb7⟩
      clear kL3
      go_wp2_with fail
      go_ret
      exact ⟨rfl, (below_only hb hgr6 hgw5 hb.size).trans (hb7.mono (Nat.le_trans hb.size hgr6.size))⟩
end Go.Proofs.Ytdifapdppdcidaa
