/-
The reference of layer 2: differences.
-/
import Derived.Test.YtncjlglpocfeaaaRefB
namespace Go.Proofs.Ytncjlglpocfeaaa
open Go.RowKit

theorem one256 : (bits2 0).setIfInBounds 0 (Value.int IntKind.i64 1) = bits2 1 := by kernel_rfl
theorem ref_sub1 (a b : Nat) (ha : a < big) (hb : b < big) : addN (addN a (notN b)) 1 = subN a b := by
  have hp := big_pos
  unfold subN addN notN
  generalize big = M at *
  rw [Nat.mod_add_mod]
  congr 1
  omega
theorem ref_sub2 (a b : Nat) (ha : a < big) (hb : b < big) : (1 : Int) - ((over a (notN b) : Nat) : Int) - ((over (addN a (notN b)) 1 : Nat) : Int) = ((under a b : Nat) : Int) := by
  have hp := big_pos
  unfold under over addN notN
  generalize big = M at *
  rcases Nat.lt_trichotomy a b with h | h | h
  · rw [if_pos h, Nat.div_eq_of_lt (show a + (M - (b + 1)) < M by omega), Nat.mod_eq_of_lt (show a + (M - (b + 1)) < M by omega), Nat.div_eq_of_lt (by omega)]
    rfl
  · subst h
    have e : a + (M - (a + 1)) = M - 1 := by omega
    rw [if_neg (by omega), e, Nat.div_eq_of_lt (show M - 1 < M by omega), Nat.mod_eq_of_lt (show M - 1 < M by omega), show M - 1 + 1 = M by omega, Nat.div_self hp]
    rfl
  · have e : a + (M - (b + 1)) = (a - b - 1) + M := by omega
    rw [if_neg (by omega), e, Nat.add_div_right _ hp, Nat.add_mod_right, Nat.div_eq_of_lt (show a - b - 1 < M by omega), Nat.mod_eq_of_lt (show a - b - 1 < M by omega), Nat.div_eq_of_lt (by omega)]
    rfl

theorem put_at (w : World) (t : TypeId) (cs cs' : Array Value) (g : Nat) (h : g = w.heap.size) : Has ((w.alloc (.cells cs t)).setRow g cs') g t cs' ∧ Below w.heap.size w ((w.alloc (.cells cs t)).setRow g cs') := by
  subst h; exact put_new w t cs cs'

attribute [local go_sem] zeroBits zeroNum one256
set_option maxRecDepth 100000 in
set_option maxHeartbeats 400000 in
theorem refsub_any (a b : Nat) (w : World) (ha : a < big) (hb : b < big) :
    Calls Try.prog 12 #[.agg (bits2 a), .agg (bits2 b)] w fun e w' => e = .returned (.tuple #[.agg (bits2 (subN a b)), .int .i64 ((under a b : Nat) : Int)]) ∧ Below w.heap.size w w' := by
  have h1 := ref_sub1 a b ha hb
  have h2 := ref_sub2 a b ha hb
  have o1 := over_le a (notN b) ha (notN_lt b)
  have o2 := over_le (addN a (notN b)) 1 (addN_lt _ _) (by decide +kernel)
  have cN := fun W => not_any b W hb
  have cA := fun W => refadd_any a (notN b) W ha (notN_lt b)
  have cB := fun W => refadd_any (addN a (notN b)) 1 W (addN_lt _ _) (by decide +kernel)
  rw [h1] at cB
  have hne := bits2_ne 0
  clear h1 ha hb
  generalize notN b = nb at *
  generalize subN a b = d at *
  generalize addN a nb = s at *
  generalize under a b = u at *
  generalize over a nb = c1 at *
  generalize over s 1 = c2 at *
  have H2 := Lib.hid h2
  clear h2
  have hP := put_at (((w.alloc (.cells (bits2 a) 27)).alloc (.cells (bits2 b) 27)).alloc (.cells (bits2 0) 27)) 27 (bits2 0) (bits2 1) (w.heap.size + 1 + 1 + 1) (by simp)
  have hA : Has (((w.alloc (.cells (bits2 a) 27)).alloc (.cells (bits2 b) 27)).alloc (.cells (bits2 0) 27)) w.heap.size 27 (bits2 a) := ((Has.new w _ _).alloc _).alloc _
  have hB : Has (((w.alloc (.cells (bits2 a) 27)).alloc (.cells (bits2 b) 27)).alloc (.cells (bits2 0) 27)) (w.heap.size + 1) 27 (bits2 b) := (Has.new' (by simp)).alloc _
  have hR : Has (((w.alloc (.cells (bits2 a) 27)).alloc (.cells (bits2 b) 27)).alloc (.cells (bits2 0) 27)) (w.heap.size + 1 + 1) 27 (bits2 0) := Has.new' (by simp)
  have hb0 : Below w.heap.size w (((w.alloc (.cells (bits2 a) 27)).alloc (.cells (bits2 b) 27)).alloc (.cells (bits2 0) 27)) := (((Below.refl _ _).alloc (Nat.le_refl _) _).alloc (by simp) _).alloc (by simp <;> omega) _
  replace hA := hA.after hP.2
  replace hB := hB.after hP.2
  replace hR := hR.after hP.2
  replace hb0 := below_trans hb0 hP.2
  have hO := hP.1
  clear hP
  go_enter Try.func12, Try.ntmps12
  go_wp2_with (refine wpList_store_row rfl 27 _ _ rfl (w.heap.size + 1 + 1 + 1) _ rfl rfl 27 (bits2 0) (Has.new' (by simp)) (infoBits _) (by simp only [bits2_size]) (tab_oneCell _ _ fun _ => rfl) ?_)
  generalize (((((w.alloc _).alloc _).alloc _).alloc _).setRow (w.heap.size + 1 + 1 + 1) _) = W at *
  refine region_facts 8 [6] [.val (.agg (bits2 a)), .val (.agg (bits2 b)), .val (.agg (bits2 nb)), .val (.tuple #[.agg (bits2 s), .int .i64 (c1 : Int)]), .val (.tuple #[.agg (bits2 s), .int .i64 (c1 : Int)]), .val (.agg (bits2 s)), .val (.int .i64 (c1 : Int)), .new 27 (bits2 0)]
    (by kernel_rfl) (by kernel_rfl) (fun _ _ _ _ _ h => h) ?_ ?_
  · simp only [List.take_succ_cons, List.take_zero, StepsOK]
    refine ⟨?_, ?_, ?_, ?_, ?_, ?_, ?_, ?_, trivial⟩
    · intro v w' hb hf K hK
      simp only [putAll, Act.put, List.setIfInBounds_toArray, List.set_cons_zero, List.set_cons_succ, Nat.zero_add, Nat.reduceAdd] at hK ⊢
      exact wp_load_row 27 _ rfl w.heap.size rfl 27 _ (0, 0) _ (hA.after hb) Try.underlying27 rfl (infoBits _) (hK _ (Below.refl _ _))
    · intro v w' hb hf K hK
      simp only [putAll, Act.put, List.setIfInBounds_toArray, List.set_cons_zero, List.set_cons_succ, Nat.zero_add, Nat.reduceAdd] at hK ⊢
      exact wp_load_row 27 _ rfl (w.heap.size + 1) rfl 27 _ (0, 0) _ (hB.after hb) Try.underlying27 rfl (infoBits _) (hK _ (Below.refl _ _))
    · intro v w' hb hf K hK
      have f1 : v 1 = _ := hf ⟨1, .data⟩ (by simp) rfl
      simp only [putAll, Act.put, List.setIfInBounds_toArray, List.set_cons_zero, List.set_cons_succ, Nat.zero_add, Nat.reduceAdd] at hK ⊢
      rw [f1] at hK ⊢
      go_simp
      refine (cN w').mono ?_
      rintro e w'' ⟨rfl, hb2⟩
      exact hK _ hb2
    · intro v w' hb hf K hK
      have f0 : v 0 = _ := hf ⟨0, .data⟩ (by simp) rfl
      have f2 : v 2 = _ := hf ⟨2, .data⟩ (by simp) rfl
      simp only [putAll, Act.put, List.setIfInBounds_toArray, List.set_cons_zero, List.set_cons_succ, Nat.zero_add, Nat.reduceAdd] at hK ⊢
      rw [f0, f2] at hK ⊢
      go_simp
      refine (cA w').mono ?_
      rintro e w'' ⟨rfl, hb2⟩
      exact hK _ hb2
    · intro v w' hb hf K hK
      have f3 : v 3 = _ := hf ⟨3, .data⟩ (by simp) rfl
      simp only [putAll, Act.put, List.setIfInBounds_toArray, List.set_cons_zero, List.set_cons_succ, Nat.zero_add, Nat.reduceAdd] at hK ⊢
      rw [f3] at hK ⊢
      go_simp
      exact hK _ (Below.refl _ _)
    · intro v w' hb hf K hK
      have f4 : v 4 = _ := hf ⟨4, .data⟩ (by simp) rfl
      simp only [putAll, Act.put, List.setIfInBounds_toArray, List.set_cons_zero, List.set_cons_succ, Nat.zero_add, Nat.reduceAdd] at hK ⊢
      rw [f4] at hK ⊢
      go_simp
      exact hK _ (Below.refl _ _)
    · intro v hf w'
      obtain ⟨_, f4⟩ := hf ⟨4, .data⟩ (by simp) rfl
      replace f4 : v 4 = _ := f4
      simp only [putAll, Act.put, List.setIfInBounds_toArray, List.set_cons_zero, List.set_cons_succ, Nat.zero_add, Nat.reduceAdd]
      rw [f4]
      go_simp
    · exact ⟨rfl, rfl, zeroBits⟩
  · intro v w' hb hF hD
    have f0 : v 0 = _ := hF 0 (by decide)
    have f1 : v 1 = _ := hF 1 (by decide)
    have f2 : v 2 = _ := hF 2 (by decide)
    have f3 : v 3 = _ := hF 3 (by decide)
    have f4 : v 4 = _ := hF 4 (by decide)
    have f5 : v 5 = _ := hF 5 (by decide)
    have f6 : v 6 = _ := hF 6 (by decide)
    obtain ⟨g, f7, hg1, hg2, hg3⟩ := hF 7 (by decide)
    replace hg3 : Has w' g 27 (bits2 0) := hg3
    simp only [List.take_succ_cons, List.take_zero, List.drop_succ_cons, List.drop_zero, putAll, Act.put, List.setIfInBounds_toArray, List.set_cons_zero, List.set_cons_succ, Nat.zero_add, Nat.reduceAdd]
    rw [f0, f1, f2, f3, f4, f5, f6, f7]
    clear hF hD f0 f1 f2 f3 f4 f5 f6 f7 cN cA hA hB
    have hOl := hO.lt
    have hRl := hR.lt
    replace hO := hO.after hb
    replace hR := hR.after hb
    have hszW := hb0.size
    replace hb0 := below_trans hb0 hb
    have hS := hg3.setRow (bits2 s)
    replace hO := hO.farRow (k := g) (by omega) (bits2 s)
    replace hR := hR.farRow (k := g) (by omega) (bits2 s)
    replace hb0 := below_setRow hb0 (g := g) (by omega) (bits2 s)
    go_wp2_with (first | refine wpList_store_row rfl 27 _ _ rfl g _ rfl rfl 27 (bits2 0) hg3 (infoBits _) (by simp only [bits2_size]) (tab_oneCell _ _ fun _ => rfl) ?_ | refine wpList_load_has 27 _ rfl _ rfl rfl 27 _ hS _ Try.underlying27 rfl (infoBits _) ?_ | refine wpList_load_has 27 _ rfl _ rfl rfl 27 _ hO _ Try.underlying27 rfl (infoBits _) ?_)
    refine (cB _).mono ?_
    rintro e w2 ⟨rfl, hx⟩
    have hN := put_new w2 27 (bits2 0) (bits2 d)
    replace hR := (hR.after hx).after hN.2
    replace hb0 := below_trans (below_trans hb0 hx) hN.2
    have hY := hN.1
    have o1' : (c1 : Int) ≤ 1 := by omega
    have o2' : (c2 : Int) ≤ 1 := by omega
    clear hx hN hg3 hS hO cB hg1 hg2 hszW hb hOl
    go_wp2_with (first | refine wpList_store_row rfl 27 _ _ rfl w2.heap.size _ rfl rfl 27 (bits2 0) (Has.new' rfl) (infoBits _) (by simp only [bits2_size]) (tab_oneCell _ _ fun _ => rfl) ?_ | refine wpList_load_has 27 _ rfl _ rfl rfl 27 _ hY _ Try.underlying27 rfl (infoBits _) ?_ | refine wpList_store_row rfl 27 _ _ rfl (w.heap.size + 1 + 1) _ rfl rfl 27 (bits2 0) hR (infoBits _) (by simp only [bits2_size]) (tab_oneCell _ _ fun _ => rfl) ?_)
    exact bodyPost_ret (results_row_tmp rfl _ _ (w.heap.size + 1 + 1) 27 _ _ _ rfl rfl (hR.setRow _) Try.underlying27 rfl (infoBits _)) rfl ⟨by rw [← H2.out]; rfl, below_setRow hb0 (by omega) _⟩
end Go.Proofs.Ytncjlglpocfeaaa
