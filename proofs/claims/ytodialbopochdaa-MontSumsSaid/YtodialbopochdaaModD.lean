/-
Package mont: sums, differences, products.
-/
import Derived.Test.YtodialbopochdaaModC
namespace Go.Proofs.Ytodialbopochdaa
open Go.RowKit

attribute [local go_sem] zeroNum
set_option maxRecDepth 100000 in
set_option maxHeartbeats 1000000 in
theorem addm_any (a b m ni o s g : Nat) (w : World) (hG : Has w g 52 (modC m ni o s)) (ha : a < m) (hb : b < m) (hm : m < big) :
    Calls Try.prog 10 #[.pointer (some ⟨g, 0, none⟩), .agg (nums a), .agg (nums b)] w fun e w' => e = .returned (.agg (nums ((a + b) % m))) ∧ Below w.heap.size w w' := by
  have cA := fun W => add_any a b W (by omega) (by omega)
  have cL := fun W (h : Has W g 52 (modC m ni o s)) => lowered_any (a + b) m ni o s g W h (by omega) hm
  have e : over a b = hiN (a + b) := rfl
  rw [e] at cA
  clear e ha hb hm
  generalize hiN (a + b) = h at *
  generalize hx : (a + b) % m = x at *
  clear hx
  generalize a + b = T at *
  have n0 := nums_ne 0
  have hA : Has (((w.alloc (.cells (nums a) 24)).alloc (.cells (nums b) 24)).alloc (.cells (nums 0) 24)) (w.heap.size) 24 (nums a) := ((Has.new w _ _).alloc _).alloc _
  have hB : Has (((w.alloc (.cells (nums a) 24)).alloc (.cells (nums b) 24)).alloc (.cells (nums 0) 24)) (w.heap.size + 1) 24 (nums b) := (Has.new' (by simp)).alloc _
  have hR : Has (((w.alloc (.cells (nums a) 24)).alloc (.cells (nums b) 24)).alloc (.cells (nums 0) 24)) (w.heap.size + 1 + 1) 24 (nums 0) := Has.new' (by simp)
  have hb0 : Below w.heap.size w (((w.alloc (.cells (nums a) 24)).alloc (.cells (nums b) 24)).alloc (.cells (nums 0) 24)) := (((Below.refl _ _).alloc (Nat.le_refl _) _).alloc (by simp <;> omega) _).alloc (by simp <;> omega) _
  replace hG := hG.after hb0
  go_enter Try.func10, Try.ntmps10
  go_wp2_with (first | refine wpList_load_has 24 _ rfl _ rfl rfl 24 _ hA _ Try.underlying24 rfl (infoNum _) ?_ | refine wpList_load_has 24 _ rfl _ rfl rfl 24 _ hB _ Try.underlying24 rfl (infoNum _) ?_)
  refine (cA _).mono ?_
  rintro e w1 ⟨rfl, hx⟩
  have hN := put_new w1 24 (nums 0) (nums T)
  replace hR := (hR.after hx).after hN.2
  replace hG := (hG.after hx).after hN.2
  replace hb0 := below_trans (below_trans hb0 hx) hN.2
  have hT := hN.1
  clear hx hN hA hB
  go_wp2_with (first | refine wpList_store_row rfl 24 _ _ rfl w1.heap.size _ rfl rfl 24 (nums 0) (Has.new' rfl) (infoNum _) (by simp only [nums_size]) (tab_oneCell _ _ fun _ => rfl) ?_ | refine wpList_load_has 24 _ rfl _ rfl rfl 24 _ hT _ Try.underlying24 rfl (infoNum _) ?_)
  refine (cL _ hG).mono ?_
  rintro e w2 ⟨rfl, hx⟩
  replace hR := hR.after hx
  replace hb0 := below_trans hb0 hx
  clear hx hT
  go_wp2_with (first | refine wpList_store_row rfl 24 _ _ rfl (w.heap.size + 1 + 1) _ rfl rfl 24 _ hR (infoNum _) (by simp only [nums_size]) (tab_oneCell _ _ fun _ => rfl) ?_)
  exact bodyPost_ret (v := .agg (nums x)) (results_cell_row rfl _ _ (w.heap.size + 1 + 1) 24 _ _ _ rfl (hR.setRow _) Try.underlying24 rfl (infoNum _)) rfl ⟨rfl, below_setRow hb0 (by omega) _⟩
theorem rr_big : RR = 4294967296 ^ 8 := by decide +kernel
theorem big_rr : big = RR := by decide +kernel
theorem prod_redc {a b m ni : Nat} (hodd : m % 2 = 1) (hinv : (m % BB * ni + 1) % BB = 0) (ha : a < big) (hab : a * b < big * m) : prodN BB a b m ni 8 < 2 * m ∧ prodN BB a b m ni 8 % m = redc m (a * b) := by
  obtain ⟨h1, h2⟩ := prodN_end (B := BB) (n := 8) (by decide) hinv a b (by omega) ha hab
  refine ⟨h1, redc_unique m _ _ hodd (Nat.mod_lt _ (by omega)) ?_⟩
  rw [← h2, Nat.mul_mod, Nat.mod_mod, ← Nat.mul_mod, rr_big]
theorem prod_high {a b m ni k : Nat} (hm0 : 0 < m) (hinv : (m % BB * ni + 1) % BB = 0) (hb : b < big) (hm : m < big) : prodN BB a b m ni k / big < 4294967296 := by
  have := prodN_lt (B := BB) (by decide) hinv a b k hm0
  rw [Nat.div_lt_iff_lt_mul big_pos]
  omega
set_option maxRecDepth 100000 in
set_option maxHeartbeats 1000000 in
theorem product_any (a b m ni o s g : Nat) (w : World) (hG : Has w g 52 (modC m ni o s)) (hn : ni < 4294967296) (hinv : (m % BB * ni + 1) % BB = 0) (hodd : m % 2 = 1) (hm : m < big) (ha : a < big) (hb : b < big) (hab : a * b < big * m) :
    Calls Try.prog 42 #[.pointer (some ⟨g, 0, none⟩), .agg (nums a), .agg (nums b)] w fun e w' => e = .returned (.agg (nums (redc m (a * b)))) ∧ Below w.heap.size w w' := by
  have hP := prod_redc hodd hinv ha hab
  have hH := fun k => prod_high (a := a) (k := k) (show 0 < m by omega) hinv hb hm
  have HS := Lib.hid (fun k β l W h1 h2 h3 hgl hbl => step_any (prodN BB a b m ni k) (wrd a k) b m ni o s g l β W h1 h2 h3 hgl hbl (wrd_lt a k) (hH k) hn hb hm)
  have HL := Lib.hid (fun W h => lowered_any (prodN BB a b m ni 8) m ni o s g W h hP.1 hm)
  have hres : prodN BB a b m ni 8 % m = redc m (a * b) := hP.2
  rw [hres] at HL
  clear hres hP hH hn hinv hodd hm ha hb hab
  generalize redc m (a * b) = x at *
  have e0 : prodN BB a b m ni 0 = 0 := rfl
  have es : ∀ k, stepN BB (prodN BB a b m ni k) (wrd a k) b m ni = prodN BB a b m ni (k + 1) := fun k => rfl
  simp only [es] at HS
  generalize prodN BB a b m ni = F at *
  have z0 : hiN 0 = 0 := by decide +kernel
  have E0 := Lib.hid (And.intro e0 z0)
  clear e0 es z0
  have n0 := nums_ne 0
  have hA : Has ((((w.alloc (.cells (nums a) 24)).alloc (.cells (nums b) 24)).alloc (.cells (nums 0) 24)).alloc (.cells (nums 0) 24)) (w.heap.size) 24 (nums a) := (((Has.new w _ _).alloc _).alloc _).alloc _
  have hB : Has ((((w.alloc (.cells (nums a) 24)).alloc (.cells (nums b) 24)).alloc (.cells (nums 0) 24)).alloc (.cells (nums 0) 24)) (w.heap.size + 1) 24 (nums b) := ((Has.new' (by simp)).alloc _).alloc _
  have hR : Has ((((w.alloc (.cells (nums a) 24)).alloc (.cells (nums b) 24)).alloc (.cells (nums 0) 24)).alloc (.cells (nums 0) 24)) (w.heap.size + 1 + 1) 24 (nums 0) := (Has.new' (by simp)).alloc _
  have hL : Has ((((w.alloc (.cells (nums a) 24)).alloc (.cells (nums b) 24)).alloc (.cells (nums 0) 24)).alloc (.cells (nums 0) 24)) (w.heap.size + 1 + 1 + 1) 24 (nums 0) := Has.new' (by simp)
  have hb0 : Below w.heap.size w ((((w.alloc (.cells (nums a) 24)).alloc (.cells (nums b) 24)).alloc (.cells (nums 0) 24)).alloc (.cells (nums 0) 24)) := ((((Below.refl _ _).alloc (Nat.le_refl _) _).alloc (by simp <;> omega) _).alloc (by simp <;> omega) _).alloc (by simp <;> omega) _
  have hgw := hG.lt
  replace hG := hG.after hb0
  go_enter Try.func42, Try.ntmps42
  go_wp2_with (first | refine wpList_load_has 24 _ rfl _ rfl rfl 24 _ hA _ Try.underlying24 rfl (infoNum _) ?_)
  have hi : ∀ k : Nat, k < 8 → ∀ W, (Instr.index 24 (.agg (nums a)) (.int .i64 (k : Int))).run Try.prog W = .ok (.int .u32 ((wrd a k : Nat) : Int)) W := fun k hk W => by
    obtain ⟨i, hi, _, hs, _⟩ := info_parts info32
    exact run_index_tab 24 22 8 .u32 i (dgs .u32 4294967296 a) Try.underlying24 Try.underlying22 hi hs .i64 k hk W
  have HI := Lib.hid hi
  clear hi hA
  go_loopw [8, 10, 12] (fun vh _ vi wr => ∃ k : Nat, k ≤ 8 ∧ vh = .int .u32 ((hiN (F k) : Nat) : Int) ∧ vi = .int .i64 (k : Int) ∧ Has wr g 52 (modC m ni o s) ∧ Has wr (w.heap.size + 1) 24 (nums b) ∧
      Has wr (w.heap.size + 1 + 1) 24 (nums 0) ∧ Has wr (w.heap.size + 1 + 1 + 1) 24 (nums (F k)) ∧ Below w.heap.size w wr) (fun _ _ vi _ => 8 - (intOf vi).toNat)
  case atStart => exact ⟨0, by omega, by rw [E0.out.1, E0.out.2]; rfl, rfl, hG, hB, hR, by rw [E0.out.1]; exact hL, hb0⟩
  case round =>
    obtain ⟨k, hk, rfl, rfl, h1, h2, h3, h4, hb⟩ := hrel
    clear hG hB hR hL hb0
    by_cases hlt : k < 8
    · have dk : (k : Int) < 8 := by omega
      have hi := HI.out k hlt
      go_wp2_with fail
      refine (HS.out k (w.heap.size + 1) (w.heap.size + 1 + 1 + 1) _ h1 h4 h2 (by omega) (by omega)).mono ?_
      rintro e w2 ⟨rfl, h4', hO⟩
      replace h1 := h1.grown hO (by omega)
      replace h2 := h2.grown hO (by omega)
      replace h3 := h3.grown hO (by omega)
      have hb' := hb.trans (below_of_only hO (B := w.heap.size) (by omega) hb.size)
      clear hO h4 hb
      go_wp2_with fail
      go_roundw
      case rel => exact ⟨k + 1, by omega, rfl, by go_num, h1, h2, h3, h4', hb'⟩
      case measure => simp [intOf]; omega
    · have hk8 : k = 8 := by omega
      have dk : ¬ (k : Int) < 8 := by omega
      rw [hk8] at h4
      have HLw := HL.out wr h1
      have hk2 : hiN (F k) = hiN (F 8) := by rw [hk8]
      have HK := Lib.hid hk2
      generalize hiN (F k) = y at *
      clear hlt hk hk8 hk2 HI HS
      go_wp2_with (first | refine wpList_load_has 24 _ rfl _ rfl rfl 24 _ h4 _ Try.underlying24 rfl (infoNum _) ?_)
      obtain rfl : y = hiN (F 8) := HK.out
      refine HLw.mono ?_
      rintro e w2 ⟨rfl, hx⟩
      replace h3 := h3.after hx
      replace hb := below_trans hb hx
      clear hx h4 h1 h2
      go_wp2_with (first | refine wpList_store_row rfl 24 _ _ rfl (w.heap.size + 1 + 1) _ rfl rfl 24 _ h3 (infoNum _) (by simp only [nums_size]) (tab_oneCell _ _ fun _ => rfl) ?_)
      exact bodyPost_ret (v := .agg (nums x)) (results_cell_row rfl _ _ (w.heap.size + 1 + 1) 24 _ _ _ rfl (h3.setRow _) Try.underlying24 rfl (infoNum _)) rfl ⟨rfl, below_setRow hb (by omega) _⟩
end Go.Proofs.Ytodialbopochdaa
