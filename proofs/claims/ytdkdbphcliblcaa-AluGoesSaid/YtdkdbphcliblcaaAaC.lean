/-
Layer 14: the reference's bitwise.
-/
import Derived.Test.YtdkdbphcliblcaaAaB
namespace Go.Proofs.Ytdkdbphcliblcaa.Al
open Go Go.RowKit

/-- the sum of the first bits' answers -/
def bwN (t : Nat → Nat) (a b : Nat) : Nat → Nat
  | 0 => 0
  | i + 1 => bwN t a b i + t (a / 2 ^ i % 2 * 2 + b / 2 ^ i % 2) * 2 ^ i
theorem bwN_lt (t : Nat → Nat) (ht : ∀ j, j < 4 → t j ≤ 1) (a b : Nat) : ∀ i, bwN t a b i < 2 ^ i
  | 0 => by show 0 < 1; decide
  | i + 1 => by
    have h1 := bwN_lt t ht a b i
    have h2 := ht (a / 2 ^ i % 2 * 2 + b / 2 ^ i % 2) (by omega)
    show bwN t a b i + t (a / 2 ^ i % 2 * 2 + b / 2 ^ i % 2) * 2 ^ i < 2 ^ (i + 1)
    rw [Nat.pow_succ]
    have h3 := Nat.mul_le_mul_right (2 ^ i) h2
    omega
def tabT (t : Nat → Nat) : Array Value := #[.int .i64 (t 0 : Int), .int .i64 (t 1 : Int), .int .i64 (t 2 : Int), .int .i64 (t 3 : Int)]
theorem has_after {w w' : World} {g : Nat} {t : TypeId} {cs : Array Value} (h : Has w g t cs) (k : Below w.heap.size w w') : Has w' g t cs := h.below k h.lt
theorem one_new (w : World) (u : Array Value) (t : TypeId) : ∃ wa, wa = w.alloc (.cells u t) ∧ Has wa w.heap.size t u ∧ Below w.heap.size w wa ∧ wa.heap.size = w.heap.size + 1 :=
  ⟨_, rfl, Has.new _ _ _, (Below.refl _ _).alloc (Nat.le_refl _) _, Array.size_push _⟩
theorem at_t (b j : Nat) (hj : (j : Int) < 4) (w : World) : (Instr.indexAt 48 (.pointer (some ⟨b, 0, none⟩)) (.int .i64 (j : Int))).run Try.prog w = .ok (.pointer (some ⟨b, j, none⟩)) w := by
  have h2 := Addr.add_mid b 0 j
  rw [Nat.zero_add] at h2
  go_simp
set_option maxRecDepth 100000 in
set_option maxHeartbeats 4000000 in
theorem bitwise_any (t : Nat → Nat) (ht : ∀ j, j < 4 → t j ≤ 1) (a b : Nat) (w : World) (_ha : a < 4294967296) (_hb : b < 4294967296) :
    Calls Try.prog 33 #[.int .i64 (a : Int), .int .i64 (b : Int), .agg (tabT t)] w fun e w' => e = .returned (.int .i64 ((bwN t a b 32 : Nat) : Int)) ∧ Below w.heap.size w w' := by
  obtain ⟨u, hu, hT, hb0, hz⟩ := one_new w (tabT t) 48
  have HT := Lib.hid hT
  have HB := Lib.hid hb0
  have HTT := Lib.hid ht
  clear hT hb0 ht
  go_enter Try.func33, Try.ntmps33
  go_upto_region 1 with fail
  replace hu := hu.symm
  change _ = u at hu
  rw [hu]
  clear hu
  obtain ⟨g, hg⟩ : ∃ g, g = w.heap.size := ⟨_, rfl⟩
  rw [← hg] at HT ⊢
  clear hg hz
  go_wp2_with fail
  go_loopw [7, 8] (fun rt ct wr => ∃ i : Nat, i ≤ 32 ∧ ct = .int .i64 (i : Int) ∧ rt = .int .i64 ((bwN t a b i : Nat) : Int) ∧ Below u.heap.size u wr) (fun _ ct _ => (32 - (intOf ct)).toNat)
  case atStart => exact ⟨0, by decide, rfl, rfl, Below.refl _ _⟩
  case round =>
    obtain ⟨i, hi, rfl, rfl, hb⟩ := hrel
    by_cases hlt : i < 32
    · have di : (i : Int) < 32 := by omega
      have h32 : 2 ^ i < 4294967296 := Nat.lt_of_lt_of_le (Nat.pow_lt_pow_right (by decide) hlt) (by decide)
      have hpp := Nat.two_pow_pos i
      have hii : (i : Int).toNat = i := by omega
      have hpc : (2 : Int) ^ i = ((2 ^ i : Nat) : Int) := by rw [Int.natCast_pow]; rfl
      have e1 := div_pow a i
      have e2 := div_pow b i
      have hr2 : bwN t a b (i + 1) = bwN t a b i + t (a / 2 ^ i % 2 * 2 + b / 2 ^ i % 2) * 2 ^ i := rfl
      have hrl := bwN_lt t HTT.out a b i
      obtain ⟨r2', hr2'⟩ : ∃ r, r = bwN t a b (i + 1) := ⟨_, rfl⟩
      rw [← hr2'] at hr2
      generalize bwN t a b i = r at *
      obtain ⟨A, hA⟩ : ∃ A, A = a / 2 ^ i := ⟨_, rfl⟩
      obtain ⟨D, hD⟩ : ∃ D, D = b / 2 ^ i := ⟨_, rfl⟩
      rw [← hA] at e1 hr2
      rw [← hD] at e2 hr2
      obtain ⟨A2, hA2'⟩ : ∃ x, x = A % 2 := ⟨_, rfl⟩
      obtain ⟨D2, hD2'⟩ : ∃ x, x = D % 2 := ⟨_, rfl⟩
      rw [← hA2', ← hD2'] at hr2
      have hA2 : (A : Int).tmod 2 = (A2 : Int) := by rw [Int.tmod_eq_emod_of_nonneg (by omega)]; omega
      have hA3 : (A : Int) % 2 = (A2 : Int) := by omega
      have hD2 : (D : Int).tmod 2 = (D2 : Int) := by rw [Int.tmod_eq_emod_of_nonneg (by omega)]; omega
      have hD3 : (D : Int) % 2 = (D2 : Int) := by omega
      have hAl : A2 ≤ 1 := by omega
      have hDl : D2 ≤ 1 := by omega
      obtain ⟨j, hj'⟩ : ∃ j, j = A2 * 2 + D2 := ⟨_, rfl⟩
      rw [← hj'] at hr2
      have hj : (A2 : Int) * 2 + (D2 : Int) = (j : Int) := by omega
      have hj4 : (j : Int) < 4 := by omega
      have htl := HTT.out j (by omega)
      have hcj : wr.cell? ⟨g, j, none⟩ = some (.int .i64 ((t j : Nat) : Int)) := by
        refine ((has_after HT.out hb).cell j).trans ?_
        rcases (show j = 0 ∨ j = 1 ∨ j = 2 ∨ j = 3 by omega) with rfl | rfl | rfl | rfl <;> rfl
      have hgr : g < wr.heap.size := (has_after HT.out hb).lt
      generalize t j = tv at *
      obtain ⟨tp, htp'⟩ : ∃ x, x = tv * 2 ^ i := ⟨_, rfl⟩
      rw [← htp'] at hr2
      have htp : (tv : Int) * 2 ^ i = (tp : Int) := by rw [hpc, htp', Int.natCast_mul]
      have htpl : tp < 4294967296 := by
        have := Nat.mul_le_mul_right (2 ^ i) htl
        omega
      have htp2 : -9223372036854775808 ≤ (tv : Int) * 2 ^ i ∧ (tv : Int) * 2 ^ i ≤ 9223372036854775807 := by rw [htp]; omega
      have hrl2 : r < 4294967296 := by omega
      obtain ⟨r2, hr2x⟩ : ∃ x, x = r2' := ⟨_, rfl⟩
      rw [← hr2x] at hr2
      have hr2i : (r : Int) + (tp : Int) = (r2 : Int) := by omega
      have HB2 := Lib.hid hb
      have HR2 := Lib.hid (hr2x.trans hr2')
      replace hr2 := hr2i
      clear hpc hrl h32 hpp hr2x hr2' hr2i hA hD hA2' hD2' hj' htp' hb hi
      go_upto_region 5 with fail
      refine region_quiet_all (Below wr.heap.size wr) (by kernel_rfl) (by kernel_rfl) (below_drewN (Below.refl _ _) 1) ?_
      refine WQ.out ?_
      refine WQ.lift (wpQ_move _ rfl rfl (.int .i64 (r : Int)) rfl) ?_
      simp only [Act.put, List.setIfInBounds_toArray, List.set_cons_zero, List.set_cons_succ]
      refine WQ.lift (wpQ_move _ rfl rfl (.int .i64 (a : Int)) rfl) ?_
      simp only [Act.put, List.setIfInBounds_toArray, List.set_cons_zero, List.set_cons_succ]
      refine WQ.lift (wpQ_move _ rfl rfl (.int .i64 (i : Int)) rfl) ?_
      simp only [Act.put, List.setIfInBounds_toArray, List.set_cons_zero, List.set_cons_succ]
      refine WQ.lift (wpQ_val rfl (.int .i64 (A : Int)) (fun w' hC => by go_simp; first | done | exact e1)) ?_
      simp only [Act.put, List.setIfInBounds_toArray, List.set_cons_zero, List.set_cons_succ]
      refine WQ.lift (wpQ_val rfl (.int .i64 (A2 : Int)) (fun w' hC => by go_simp; first | done | exact hA2)) ?_
      simp only [Act.put, List.setIfInBounds_toArray, List.set_cons_zero, List.set_cons_succ]
      refine WQ.lift (wpQ_val rfl (.int .i64 ((A2 : Int) * 2)) (fun w' hC => by go_simp; exact IntWalk.i64_in _ (by omega))) ?_
      simp only [Act.put, List.setIfInBounds_toArray, List.set_cons_zero, List.set_cons_succ]
      refine WQ.lift (wpQ_move _ rfl rfl (.int .i64 (b : Int)) rfl) ?_
      simp only [Act.put, List.setIfInBounds_toArray, List.set_cons_zero, List.set_cons_succ]
      refine WQ.lift (wpQ_move _ rfl rfl (.int .i64 (i : Int)) rfl) ?_
      simp only [Act.put, List.setIfInBounds_toArray, List.set_cons_zero, List.set_cons_succ]
      refine WQ.lift (wpQ_val rfl (.int .i64 (D : Int)) (fun w' hC => by go_simp; first | done | exact e2)) ?_
      simp only [Act.put, List.setIfInBounds_toArray, List.set_cons_zero, List.set_cons_succ]
      refine WQ.lift (wpQ_val rfl (.int .i64 (D2 : Int)) (fun w' hC => by go_simp; first | done | exact hD2)) ?_
      simp only [Act.put, List.setIfInBounds_toArray, List.set_cons_zero, List.set_cons_succ]
      refine WQ.lift (wpQ_val rfl (.int .i64 (j : Int)) (fun w' hC => by go_simp; exact IntWalk.i64_in _ (by omega))) ?_
      simp only [Act.put, List.setIfInBounds_toArray, List.set_cons_zero, List.set_cons_succ]
      refine WQ.lift (wpQ_val rfl (.pointer (some ⟨g, j, none⟩)) (fun w' hC => by have hx := at_t g j hj4 w'; go_simp)) ?_
      simp only [Act.put, List.setIfInBounds_toArray, List.set_cons_zero, List.set_cons_succ]
      refine WQ.lift (wpQ_load 3 (.tmp 24) rfl rfl (.pointer (some ⟨g, j, none⟩)) rfl (.int .i64 (tv : Int)) (fun w' hC => by
          have hcell : w'.cell? ⟨g, j, none⟩ = some (.int .i64 (tv : Int)) := (hC.cell (p := ⟨g, j, none⟩) hgr).trans hcj
          go_simp)) ?_
      simp only [Act.put, List.setIfInBounds_toArray, List.set_cons_zero, List.set_cons_succ]
      refine WQ.lift (wpQ_move _ rfl rfl (.int .i64 (i : Int)) rfl) ?_
      simp only [Act.put, List.setIfInBounds_toArray, List.set_cons_zero, List.set_cons_succ]
      refine WQ.lift (wpQ_val rfl (.int .i64 (tp : Int)) (fun w' hC => by go_simp; first | done | exact IntWalk.i64_in _ (by omega))) ?_
      simp only [Act.put, List.setIfInBounds_toArray, List.set_cons_zero, List.set_cons_succ]
      refine WQ.lift (wpQ_val rfl (.int .i64 (r2 : Int)) (fun w' hC => by go_simp; exact IntWalk.i64_in _ (by omega))) ?_
      simp only [Act.put, List.setIfInBounds_toArray, List.set_cons_zero, List.set_cons_succ]
      refine WQ.lift (wpQ_assign _ rfl rfl (.int .i64 (r2 : Int)) rfl) ?_
      simp only [Act.put, List.setIfInBounds_toArray, List.set_cons_zero, List.set_cons_succ]
      refine WQ.mk (wpQuiet_nil ?_)
      intro u2 hC
      have HC := Lib.hid hC
      clear hC hcj e1 e2 hA2 hA3 hD2 hD3 htp htp2 hr2
      go_wp2_with fail
      go_roundw
      case rel => exact ⟨i + 1, hlt, by go_num, by rw [HR2.out], HB2.out.trans (HC.out.mono HB2.out.size)⟩
      case measure => simp [intOf] <;> omega
    · have him : i = 32 := by omega
      have di : ¬ (i : Int) < 32 := by omega
      rw [him]
      have HB2 := Lib.hid hb
      clear hb
      go_wp2_with fail
      first | go_ret | go_end0
      exact ⟨rfl, HB.out.trans (HB2.out.mono HB.out.size)⟩
/-- the bits of the sum -/
theorem bwN_is (t : Nat → Nat) (a b r : Nat) (h : ∀ i, i < 32 → t (a / 2 ^ i % 2 * 2 + b / 2 ^ i % 2) = (r.testBit i).toNat) : ∀ i, i ≤ 32 → bwN t a b i = r % 2 ^ i
  | 0, _ => by rw [Nat.pow_zero, Nat.mod_one]; rfl
  | i + 1, hi => by
    show bwN t a b i + t (a / 2 ^ i % 2 * 2 + b / 2 ^ i % 2) * 2 ^ i = _
    rw [bwN_is t a b r h i (by omega), h i (by omega), Nat.mod_pow_succ, Nat.mul_comm]
    congr 2
    rw [Nat.toNat_testBit]
theorem bit_of (a i : Nat) : a / 2 ^ i % 2 = (a.testBit i).toNat := (Nat.toNat_testBit a i).symm
def tX (j : Nat) : Nat := if j = 1 ∨ j = 2 then 1 else 0
def tO (j : Nat) : Nat := if j = 0 then 0 else 1
def tA (j : Nat) : Nat := if j = 3 then 1 else 0
theorem bw_xor (a b : Nat) (ha : a < 4294967296) (hb : b < 4294967296) : bwN tX a b 32 = a ^^^ b := by
  rw [bwN_is tX a b (a ^^^ b) (fun i _ => by rw [bit_of, bit_of, Nat.testBit_xor]; cases a.testBit i <;> cases b.testBit i <;> rfl) 32 (Nat.le_refl _)]
  exact Nat.mod_eq_of_lt (Nat.xor_lt_two_pow (n := 32) ha hb)
theorem bw_or (a b : Nat) (ha : a < 4294967296) (hb : b < 4294967296) : bwN tO a b 32 = a ||| b := by
  rw [bwN_is tO a b (a ||| b) (fun i _ => by rw [bit_of, bit_of, Nat.testBit_or]; cases a.testBit i <;> cases b.testBit i <;> rfl) 32 (Nat.le_refl _)]
  exact Nat.mod_eq_of_lt (Nat.or_lt_two_pow (n := 32) ha hb)
theorem bw_and (a b : Nat) (ha : a < 4294967296) : bwN tA a b 32 = a &&& b := by
  rw [bwN_is tA a b (a &&& b) (fun i _ => by rw [bit_of, bit_of, Nat.testBit_and]; cases a.testBit i <;> cases b.testBit i <;> rfl) 32 (Nat.le_refl _)]
  exact Nat.mod_eq_of_lt (Nat.lt_of_le_of_lt Nat.and_le_left ha)
end Go.Proofs.Ytdkdbphcliblcaa.Al
