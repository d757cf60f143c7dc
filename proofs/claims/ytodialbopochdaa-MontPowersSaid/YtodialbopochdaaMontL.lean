/-
MontLaws: products hang on no order, and go into sums; all that is answered is below the modulus: the walk, over what package mont's calls do.
-/
import Derived.Test.YtodialbopochdaaMontP
import Derived.Test.YtodialbopochdaaFactsA
import Derived.Great.BuildSlice
namespace Go.Proofs.Ytodialbopochdaa
open Go.RowKit

theorem infN : (Try.prog.info? 24).map (fun i => (i.zero, i.size)) = some (some (.agg (nums 0)), 8) := by kernel_rfl
theorem zeroVN (w : World) : (zeroValue 24).run Try.prog w = .ok (.agg (nums 0)) w := (zero_of_info infN).1 w
/-- eight numbers, one after the other -/
def slc (xs : List Nat) (j : Nat) : Value := dgs .u32 4294967296 (xs.getD (j / 8) 0) (j % 8)
theorem slc_part (xs : List Nat) (k : Nat) : (List.range 8).map (fun j => slc xs (k * 8 + j)) = (List.range 8).map (dgs .u32 4294967296 (xs.getD k 0)) := by
  apply List.map_congr_left
  intro j hj
  have : j < 8 := by simpa using hj
  unfold slc
  rw [show (k * 8 + j) / 8 = k by omega, show (k * 8 + j) % 8 = j by omega]
theorem info_two {P : Program} {t : TypeId} {v : Value} {n : Nat} (h : (P.info? t).map (fun i => (i.zero, i.size)) = some (some v, n)) : ∃ i, P.info? t = some i ∧ i.zero = some v ∧ i.size = n := by
  cases hq : P.info? t with
  | none => simp [hq] at h
  | some i => simp [hq] at h; exact ⟨i, rfl, h.1, h.2⟩
theorem infN8 : (Try.prog.info? 24).map (·.size) = some 8 := by kernel_rfl
theorem wpList_load_slc {P : Program} {ops : Array Oper} {rest : List Oper} {op : Oper} {a : Act} {w : World} {Q : Exit → Act → World → Prop} (hgd : op.guard = none) (ty : TypeId) (x : Operand) (ho : op.op = .load ty x)
    (g k : Nat) (hk : k < 8) (hx : a.eval x = .pointer (some ⟨g, k * 8, none⟩)) (t : TypeId) (xs : List Nat) (hg : Has w g t (tab 64 (slc xs))) (y : Nat) (hy : y = xs.getD k 0) (d : TypeDesc) (hu : P.underlying ty = some d) (hd : d.isRow = true) (hi : (P.info? ty).map (·.size) = some 8)
    (h : wpList P ops Q rest (a.put op.dst (.agg (nums y))) w) : wpList P ops Q (op :: rest) a w := by
  have hc := hg.range (k * 8) 8 (by omega)
  rw [slc_part, ← hy] at hc
  exact wpList_load_mid hgd ty x ho g (k * 8) hx _ d hc hu hd (by simpa using hi) h
theorem fill8 (x0 x1 x2 x3 x4 x5 x6 x7 : Nat) : Instr.fill (fun i => some (i * 8, 8)) ((Array.range (8 * 8)).map ((nums 0)[· % (nums 0).size]!))
    [(0, .agg (nums x0)), (1, .agg (nums x1)), (2, .agg (nums x2)), (3, .agg (nums x3)), (4, .agg (nums x4)), (5, .agg (nums x5)), (6, .agg (nums x6)), (7, .agg (nums x7))] = some (tab 64 (slc [x0, x1, x2, x3, x4, x5, x6, x7])) := by kernel_rfl

attribute [local go_sem] zeroNum
set_option maxRecDepth 100000 in
set_option maxHeartbeats 4000000 in
theorem laws_ok {Is : World → Nat → Nat → Prop} (H : MontOK Is)
    (hCmp : ∀ a b W, a < b → b < big → Calls Try.prog 32 #[.agg (nums a), .agg (nums b)] W fun e w' => e = .returned (.int .i64 (-1)) ∧ Below W.heap.size W w')
    (m a b : Nat) (w : World) (hm : m < big) (ha : a < big) (hbb : b < big) (hodd : m % 2 = 1) (h1 : 1 < m) :
    Calls Try.prog 7 #[.agg (nums m), .agg (nums a), .agg (nums b)] w fun x w' => x = .returned (.bool true) ∧ Below w.heap.size w w' := by
  have m0 : 0 < m := by omega
  have hlt := fun x => Nat.mod_lt x m0
  have n1 := nums_ne 0
  obtain ⟨p, hp⟩ : ∃ p, p = a * RR % m := ⟨_, rfl⟩
  obtain ⟨q, hq⟩ : ∃ q, q = b * RR % m := ⟨_, rfl⟩
  have lp : p < m := by rw [hp]; exact hlt _
  have lq : q < m := by rw [hq]; exact hlt _
  obtain ⟨s, hs⟩ : ∃ s, s = (p + q) % m := ⟨_, rfl⟩
  obtain ⟨d, hd⟩ : ∃ d, d = (p + (m - q)) % m := ⟨_, rfl⟩
  obtain ⟨t, ht⟩ : ∃ t, t = redc m (p * q) := ⟨_, rfl⟩
  obtain ⟨r, hr⟩ : ∃ r, r = RR % m := ⟨_, rfl⟩
  obtain ⟨ra, hra⟩ : ∃ ra, ra = a % m := ⟨_, rfl⟩
  obtain ⟨ab, hab⟩ : ∃ ab, ab = a * b % m := ⟨_, rfl⟩
  obtain ⟨u, hu⟩ : ∃ u, u = redc m (s * p) := ⟨_, rfl⟩
  obtain ⟨v2, hv⟩ : ∃ v2, v2 = redc m (p * p) := ⟨_, rfl⟩
  have ls : s < m := by rw [hs]; exact hlt _
  have ld : d < m := by rw [hd]; exact hlt _
  have lt' : t < m := by rw [ht]; exact redc_lt m _ m0
  have lr : r < m := by rw [hr]; exact hlt _
  have lra : ra < m := by rw [hra]; exact hlt _
  have lab : ab < m := by rw [hab]; exact hlt _
  have lv : v2 < m := by rw [hv]; exact redc_lt m _ m0
  have kINa := fun g W (h : Is W g m) => H.in_ok W g m a h ha
  rw [← hp] at kINa
  have kINb := fun g W (h : Is W g m) => H.in_ok W g m b h hbb
  rw [← hq] at kINb
  have kADD := fun g W (h : Is W g m) => H.add_ok W g m p q h lp lq
  rw [← hs] at kADD
  have kSUB := fun g W (h : Is W g m) => H.sub_ok W g m p q h lp lq
  rw [← hd] at kSUB
  have kT := fun g W (h : Is W g m) => H.times_ok W g m p q h lp lq
  rw [← ht] at kT
  have kT2 := fun g W (h : Is W g m) => H.times_ok W g m q p h lq lp
  have eT2 : redc m (q * p) = t := by rw [ht]; exact law_comm m q p
  rw [eT2] at kT2
  have kONE := fun g W (h : Is W g m) => H.one_ok W g m h
  rw [← hr] at kONE
  have kRA := fun g W (h : Is W g m) => H.reduce_ok W g m a h ha
  rw [← hra] at kRA
  have kMUL := fun g W (h : Is W g m) => H.mul_ok W g m a b h ha hbb
  rw [← hab] at kMUL
  have kU := fun g W (h : Is W g m) => H.times_ok W g m s p h ls lp
  rw [← hu] at kU
  have kV := fun g W (h : Is W g m) => H.times_ok W g m p p h lp lp
  rw [← hv] at kV
  have kVT := fun g W (h : Is W g m) => H.add_ok W g m v2 t h lv lt'
  have eVT : (v2 + t) % m = u := by rw [hv, hu, hs, ← eT2]; exact (law_dist m p q p hodd).symm
  rw [eVT] at kVT
  have kBK := fun g W (h : Is W g m) => H.sub_ok W g m s q h ls lq
  have eBK : (s + (m - q)) % m = p := by rw [hs]; exact law_back m p q lp lq
  rw [eBK] at kBK
  have kP1 := fun g W (h : Is W g m) => H.times_ok W g m p r h lp lr
  have eP1 : redc m (p * r) = p := by rw [hr]; exact law_one m p hodd lp
  rw [eP1] at kP1
  obtain ⟨xs, hxs⟩ : ∃ xs, xs = [p, q, s, d, t, r, ra, ab] := ⟨_, rfl⟩
  have hxl : ∀ k, k < 8 → xs.getD k 0 < m := fun k hk => by
    rw [hxs]
    rcases (show k = 0 ∨ k = 1 ∨ k = 2 ∨ k = 3 ∨ k = 4 ∨ k = 5 ∨ k = 6 ∨ k = 7 by omega) with rfl | rfl | rfl | rfl | rfl | rfl | rfl | rfl <;> assumption
  have hfill := fill8 p q s d t r ra ab
  rw [← hxs] at hfill
  have kC := fun k W (hk : k < 8) => hCmp (xs.getD k 0) m W (hxl k hk) hm
  have HF := Lib.hid hfill
  have rnew2 := fun W => H.new_ok m W hodd h1 hm
  clear m0 hlt hp hq lp lq hs hd ht hr hra hab hu hv ls ld lt' lr lra lab lv eT2 eVT eBK eP1 hxs hxl hfill
  have hM : Has (((w.alloc (.cells (nums m) 24)).alloc (.cells (nums a) 24)).alloc (.cells (nums b) 24)) w.heap.size 24 (nums m) := ((Has.new w _ _).alloc _).alloc _
  have hA : Has (((w.alloc (.cells (nums m) 24)).alloc (.cells (nums a) 24)).alloc (.cells (nums b) 24)) (w.heap.size + 1) 24 (nums a) := (Has.new' (by simp)).alloc _
  have hB : Has (((w.alloc (.cells (nums m) 24)).alloc (.cells (nums a) 24)).alloc (.cells (nums b) 24)) (w.heap.size + 1 + 1) 24 (nums b) := Has.new' (by simp)
  have hb0 : Below w.heap.size w (((w.alloc (.cells (nums m) 24)).alloc (.cells (nums a) 24)).alloc (.cells (nums b) 24)) := (((Below.refl _ _).alloc (Nat.le_refl _) _).alloc (by simp) _).alloc (by simp <;> omega) _
  go_enter Try.func7, Try.ntmps7
  go_wp2_with fail
  refine (fit3_any H _).mono ?_
  rintro x w1 ⟨rfl, hx⟩
  replace hM := hM.after hx
  replace hA := hA.after hx
  replace hB := hB.after hx
  replace hb0 := below_trans hb0 hx
  clear hx
  go_wp2_with (refine wpList_load_has 24 _ rfl _ rfl rfl 24 _ hM _ Try.underlying24 rfl (infoNum _) ?_)
  refine (rnew2 _).mono ?_
  rintro x w2 ⟨⟨g, rfl, hI⟩, hx⟩
  replace hM := hM.after hx
  replace hA := hA.after hx
  replace hB := hB.after hx
  replace hb0 := below_trans hb0 hx
  clear hx rnew2
  go_wp2_with fail

  refine region_facts 8 [] [.val (.pointer (some ⟨g, 0, none⟩)), .val (.agg (nums a)), .val (.agg (nums p)), .val (.pointer (some ⟨g, 0, none⟩)), .val (.agg (nums b)), .val (.agg (nums q)), .new 24 (nums 0), .new 24 (nums 0)]
    (by kernel_rfl) (by kernel_rfl) (fun _ _ _ _ _ h => h) ?_ ?_
  · simp only [List.take_succ_cons, List.take_zero, StepsOK]
    refine ⟨?_, ?_, ?_, ?_, ?_, ?_, ?_, ?_, trivial⟩
    · intro v w' hb hf K hKt
      simp only [putAll, Act.put, List.setIfInBounds_toArray, List.set_cons_zero, List.set_cons_succ, Nat.zero_add, Nat.reduceAdd] at hKt ⊢
      go_simp
      exact hKt _ (Below.refl _ _)
    · intro v w' hb hf K hKt
      simp only [putAll, Act.put, List.setIfInBounds_toArray, List.set_cons_zero, List.set_cons_succ, Nat.zero_add, Nat.reduceAdd] at hKt ⊢
      exact wp_load_row 24 _ rfl (w.heap.size + 1) rfl 24 _ (0, 0) _ (hA.after hb) Try.underlying24 rfl (infoNum _) (hKt _ (Below.refl _ _))
    · intro v w' hb hf K hKt
      have f0 : v 0 = _ := hf ⟨0, .data⟩ (by simp) rfl
      have f1 : v 1 = _ := hf ⟨1, .data⟩ (by simp) rfl
      simp only [putAll, Act.put, List.setIfInBounds_toArray, List.set_cons_zero, List.set_cons_succ, Nat.zero_add, Nat.reduceAdd] at hKt ⊢
      rw [f0, f1] at hKt ⊢
      go_simp
      refine (kINa g w' (H.keep hI hb)).mono ?_
      rintro e w'' ⟨rfl, hb2⟩
      exact hKt _ hb2
    · intro v w' hb hf K hKt
      simp only [putAll, Act.put, List.setIfInBounds_toArray, List.set_cons_zero, List.set_cons_succ, Nat.zero_add, Nat.reduceAdd] at hKt ⊢
      go_simp
      exact hKt _ (Below.refl _ _)
    · intro v w' hb hf K hKt
      simp only [putAll, Act.put, List.setIfInBounds_toArray, List.set_cons_zero, List.set_cons_succ, Nat.zero_add, Nat.reduceAdd] at hKt ⊢
      exact wp_load_row 24 _ rfl (w.heap.size + 1 + 1) rfl 24 _ (0, 0) _ (hB.after hb) Try.underlying24 rfl (infoNum _) (hKt _ (Below.refl _ _))
    · intro v w' hb hf K hKt
      have f3 : v 3 = _ := hf ⟨3, .data⟩ (by simp) rfl
      have f4 : v 4 = _ := hf ⟨4, .data⟩ (by simp) rfl
      simp only [putAll, Act.put, List.setIfInBounds_toArray, List.set_cons_zero, List.set_cons_succ, Nat.zero_add, Nat.reduceAdd] at hKt ⊢
      rw [f3, f4] at hKt ⊢
      go_simp
      refine (kINb g w' (H.keep hI hb)).mono ?_
      rintro e w'' ⟨rfl, hb2⟩
      exact hKt _ hb2
    · exact ⟨rfl, rfl, zeroVN⟩
    · exact ⟨rfl, rfl, zeroVN⟩
  intro v W3 hb hF hD
  have f0 : v 0 = _ := hF 0 (by decide)
  have f1 : v 1 = _ := hF 1 (by decide)
  have f2 : v 2 = _ := hF 2 (by decide)
  have f3 : v 3 = _ := hF 3 (by decide)
  have f4 : v 4 = _ := hF 4 (by decide)
  have f5 : v 5 = _ := hF 5 (by decide)
  obtain ⟨gp, f6, hg6, hl6, hz6⟩ := hF 6 (by decide)
  replace hz6 : Has W3 gp 24 (nums 0) := hz6
  obtain ⟨gq, f7, hg7, hl7, hz7⟩ := hF 7 (by decide)
  replace hz7 : Has W3 gq 24 (nums 0) := hz7
  have hne6_7 : gp ≠ gq := fun h => hD 6 7 (by decide) (by decide) (by decide) rfl rfl (by rw [f6, f7, h])
  simp only [List.take_succ_cons, List.take_zero, List.drop_succ_cons, List.drop_zero, putAll, Act.put, List.setIfInBounds_toArray, List.set_cons_zero, List.set_cons_succ, Nat.zero_add, Nat.reduceAdd]
  rw [f0, f1, f2, f3, f4, f5, f6, f7]
  clear hF hD f0 f1 f2 f3 f4 f5 f6 f7
  have hs6 := hz6
  have hs7 := (hz7).farRow (k := gp) (by omega) (nums p)
  have hBW := below_setRow (below_setRow (hb) (g := gp) hg6 (nums p)) (g := gq) hg7 (nums q)
  have hP := ((hz6).setRow (nums p)).farRow (k := gq) (by omega) (nums q)
  have hQ := ((hz7).farRow (k := gp) (by omega) (nums p)).setRow (nums q)
  replace hA := hA.after hBW
  replace hB := hB.after hBW
  replace hM := hM.after hBW
  replace hI := H.keep hI hBW
  replace hb0 := below_trans hb0 hBW
  go_wp2_with (first | refine wpList_store_row rfl 24 _ _ rfl gp _ rfl rfl 24 (nums 0) hs6 (infoNum _) rfl (tab_oneCell _ _ fun _ => rfl) ?_ | refine wpList_store_row rfl 24 _ _ rfl gq _ rfl rfl 24 (nums 0) hs7 (infoNum _) rfl (tab_oneCell _ _ fun _ => rfl) ?_ | refine wpList_load_has 24 _ rfl _ rfl rfl 24 _ hP _ Try.underlying24 rfl (infoNum _) ?_ | refine wpList_load_has 24 _ rfl _ rfl rfl 24 _ hQ _ Try.underlying24 rfl (infoNum _) ?_)
  clear hBW hb hs6 hz6 hg6 hl6 hs7 hz7 hg7 hl7

  refine (kADD g _ hI).mono ?_
  rintro x w4 ⟨rfl, hx⟩
  have hN := put_new w4 24 (nums 0) (nums s)
  replace hM := (hM.after hx).after hN.2
  replace hA := (hA.after hx).after hN.2
  replace hB := (hB.after hx).after hN.2
  replace hP := (hP.after hx).after hN.2
  replace hQ := (hQ.after hx).after hN.2
  replace hI := H.keep (H.keep hI hx) hN.2
  replace hb0 := below_trans (below_trans hb0 hx) hN.2
  have hS := hN.1
  clear hx hN kADD kINa kINb
  go_wp2_with (refine wpList_store_row rfl 24 _ _ rfl w4.heap.size _ rfl rfl 24 (nums 0) (Has.new' rfl) (infoNum _) (by simp only [nums_size]) (tab_oneCell _ _ fun _ => rfl) ?_)
  generalize hW : Go.World.setRow _ _ _ = W5 at *
  clear hW
  obtain ⟨ks, hks⟩ : ∃ ks : List YldA, ks = [.val (.agg (nums p)), .val (.agg (nums q)), .val (.agg (nums s)), .val (.pointer (some ⟨g, 0, none⟩)), .val (.agg (nums p)), .val (.agg (nums q)), .val (.agg (nums d)), .val (.pointer (some ⟨g, 0, none⟩)), .val (.agg (nums p)), .val (.agg (nums q)), .val (.agg (nums t)), .val (.pointer (some ⟨g, 0, none⟩)), .val (.agg (nums r)), .val (.pointer (some ⟨g, 0, none⟩)), .val (.agg (nums a)), .val (.agg (nums ra)), .val (.pointer (some ⟨g, 0, none⟩)), .val (.agg (nums a)), .val (.agg (nums b)), .val (.agg (nums ab)), .row 24 (tab 64 (slc xs)) 8, .val (.int .i64 8), .val (.int .i64 0)] := ⟨_, rfl⟩
  refine region_allF (yldA W5 [.val (.agg (nums p)), .val (.agg (nums q)), .val (.agg (nums s)), .val (.pointer (some ⟨g, 0, none⟩)), .val (.agg (nums p)), .val (.agg (nums q)), .val (.agg (nums d)), .val (.pointer (some ⟨g, 0, none⟩)), .val (.agg (nums p)), .val (.agg (nums q)), .val (.agg (nums t)), .val (.pointer (some ⟨g, 0, none⟩)), .val (.agg (nums r)), .val (.pointer (some ⟨g, 0, none⟩)), .val (.agg (nums a)), .val (.agg (nums ra)), .val (.pointer (some ⟨g, 0, none⟩)), .val (.agg (nums a)), .val (.agg (nums b)), .val (.agg (nums ab)), .row 24 (tab 64 (slc xs)) 8, .val (.int .i64 8), .val (.int .i64 0)]) (by kernel_rfl) (by kernel_rfl) (fun i x w' w'' h hb => yldA_keep i x w' w'' h hb) ?_ ?_
  · simp only [StepsF]
    refine ⟨?_, ?_, ?_, ?_, ?_, ?_, ?_, ?_, ?_, ?_, ?_, ?_, ?_, ?_, ?_, ?_, ?_, ?_, ?_, ?_, ?_, ?_, ?_, trivial⟩
    · intro v w' hb hf K hKt
      simp only [putAll, Act.put, List.setIfInBounds_toArray, List.set_cons_zero, List.set_cons_succ, Nat.zero_add, Nat.reduceAdd] at hKt ⊢
      exact wp_load_row 24 _ rfl (gp) rfl 24 _ (0, 0) _ (hP.after hb) Try.underlying24 rfl (infoNum _) (hKt _ _ (Below.refl _ _) rfl)
    · intro v w' hb hf K hKt
      simp only [putAll, Act.put, List.setIfInBounds_toArray, List.set_cons_zero, List.set_cons_succ, Nat.zero_add, Nat.reduceAdd] at hKt ⊢
      exact wp_load_row 24 _ rfl (gq) rfl 24 _ (0, 0) _ (hQ.after hb) Try.underlying24 rfl (infoNum _) (hKt _ _ (Below.refl _ _) rfl)
    · intro v w' hb hf K hKt
      simp only [putAll, Act.put, List.setIfInBounds_toArray, List.set_cons_zero, List.set_cons_succ, Nat.zero_add, Nat.reduceAdd] at hKt ⊢
      exact wp_load_row 24 _ rfl (w4.heap.size) rfl 24 _ (0, 0) _ (hS.after hb) Try.underlying24 rfl (infoNum _) (hKt _ _ (Below.refl _ _) rfl)
    · intro v w' hb hf K hKt
      simp only [putAll, Act.put, List.setIfInBounds_toArray, List.set_cons_zero, List.set_cons_succ, Nat.zero_add, Nat.reduceAdd] at hKt ⊢
      go_simp
      exact hKt _ _ (Below.refl _ _) rfl
    · intro v w' hb hf K hKt
      simp only [putAll, Act.put, List.setIfInBounds_toArray, List.set_cons_zero, List.set_cons_succ, Nat.zero_add, Nat.reduceAdd] at hKt ⊢
      exact wp_load_row 24 _ rfl (gp) rfl 24 _ (0, 0) _ (hP.after hb) Try.underlying24 rfl (infoNum _) (hKt _ _ (Below.refl _ _) rfl)
    · intro v w' hb hf K hKt
      simp only [putAll, Act.put, List.setIfInBounds_toArray, List.set_cons_zero, List.set_cons_succ, Nat.zero_add, Nat.reduceAdd] at hKt ⊢
      exact wp_load_row 24 _ rfl (gq) rfl 24 _ (0, 0) _ (hQ.after hb) Try.underlying24 rfl (infoNum _) (hKt _ _ (Below.refl _ _) rfl)
    · intro v w' hb hf K hKt
      have f3 : v 3 = _ := hf ⟨3, .data⟩ (by simp) rfl
      have f4 : v 4 = _ := hf ⟨4, .data⟩ (by simp) rfl
      have f5 : v 5 = _ := hf ⟨5, .data⟩ (by simp) rfl
      simp only [putAll, Act.put, List.setIfInBounds_toArray, List.set_cons_zero, List.set_cons_succ, Nat.zero_add, Nat.reduceAdd] at hKt ⊢
      rw [f3, f4, f5] at hKt ⊢
      go_simp
      refine (kSUB g w' (H.keep hI hb)).mono ?_
      rintro e w'' ⟨rfl, hb2⟩
      exact hKt _ _ hb2 rfl
    · intro v w' hb hf K hKt
      simp only [putAll, Act.put, List.setIfInBounds_toArray, List.set_cons_zero, List.set_cons_succ, Nat.zero_add, Nat.reduceAdd] at hKt ⊢
      go_simp
      exact hKt _ _ (Below.refl _ _) rfl
    · intro v w' hb hf K hKt
      simp only [putAll, Act.put, List.setIfInBounds_toArray, List.set_cons_zero, List.set_cons_succ, Nat.zero_add, Nat.reduceAdd] at hKt ⊢
      exact wp_load_row 24 _ rfl (gp) rfl 24 _ (0, 0) _ (hP.after hb) Try.underlying24 rfl (infoNum _) (hKt _ _ (Below.refl _ _) rfl)
    · intro v w' hb hf K hKt
      simp only [putAll, Act.put, List.setIfInBounds_toArray, List.set_cons_zero, List.set_cons_succ, Nat.zero_add, Nat.reduceAdd] at hKt ⊢
      exact wp_load_row 24 _ rfl (gq) rfl 24 _ (0, 0) _ (hQ.after hb) Try.underlying24 rfl (infoNum _) (hKt _ _ (Below.refl _ _) rfl)
    · intro v w' hb hf K hKt
      have f7 : v 7 = _ := hf ⟨7, .data⟩ (by simp) rfl
      have f8 : v 8 = _ := hf ⟨8, .data⟩ (by simp) rfl
      have f9 : v 9 = _ := hf ⟨9, .data⟩ (by simp) rfl
      simp only [putAll, Act.put, List.setIfInBounds_toArray, List.set_cons_zero, List.set_cons_succ, Nat.zero_add, Nat.reduceAdd] at hKt ⊢
      rw [f7, f8, f9] at hKt ⊢
      go_simp
      refine (kT g w' (H.keep hI hb)).mono ?_
      rintro e w'' ⟨rfl, hb2⟩
      exact hKt _ _ hb2 rfl
    · intro v w' hb hf K hKt
      simp only [putAll, Act.put, List.setIfInBounds_toArray, List.set_cons_zero, List.set_cons_succ, Nat.zero_add, Nat.reduceAdd] at hKt ⊢
      go_simp
      exact hKt _ _ (Below.refl _ _) rfl
    · intro v w' hb hf K hKt
      have f11 : v 11 = _ := hf ⟨11, .data⟩ (by simp) rfl
      simp only [putAll, Act.put, List.setIfInBounds_toArray, List.set_cons_zero, List.set_cons_succ, Nat.zero_add, Nat.reduceAdd] at hKt ⊢
      rw [f11] at hKt ⊢
      go_simp
      refine (kONE g w' (H.keep hI hb)).mono ?_
      rintro e w'' ⟨rfl, hb2⟩
      exact hKt _ _ hb2 rfl
    · intro v w' hb hf K hKt
      simp only [putAll, Act.put, List.setIfInBounds_toArray, List.set_cons_zero, List.set_cons_succ, Nat.zero_add, Nat.reduceAdd] at hKt ⊢
      go_simp
      exact hKt _ _ (Below.refl _ _) rfl
    · intro v w' hb hf K hKt
      simp only [putAll, Act.put, List.setIfInBounds_toArray, List.set_cons_zero, List.set_cons_succ, Nat.zero_add, Nat.reduceAdd] at hKt ⊢
      exact wp_load_row 24 _ rfl (w.heap.size + 1) rfl 24 _ (0, 0) _ (hA.after hb) Try.underlying24 rfl (infoNum _) (hKt _ _ (Below.refl _ _) rfl)
    · intro v w' hb hf K hKt
      have f13 : v 13 = _ := hf ⟨13, .data⟩ (by simp) rfl
      have f14 : v 14 = _ := hf ⟨14, .data⟩ (by simp) rfl
      simp only [putAll, Act.put, List.setIfInBounds_toArray, List.set_cons_zero, List.set_cons_succ, Nat.zero_add, Nat.reduceAdd] at hKt ⊢
      rw [f13, f14] at hKt ⊢
      go_simp
      refine (kRA g w' (H.keep hI hb)).mono ?_
      rintro e w'' ⟨rfl, hb2⟩
      exact hKt _ _ hb2 rfl
    · intro v w' hb hf K hKt
      simp only [putAll, Act.put, List.setIfInBounds_toArray, List.set_cons_zero, List.set_cons_succ, Nat.zero_add, Nat.reduceAdd] at hKt ⊢
      go_simp
      exact hKt _ _ (Below.refl _ _) rfl
    · intro v w' hb hf K hKt
      simp only [putAll, Act.put, List.setIfInBounds_toArray, List.set_cons_zero, List.set_cons_succ, Nat.zero_add, Nat.reduceAdd] at hKt ⊢
      exact wp_load_row 24 _ rfl (w.heap.size + 1) rfl 24 _ (0, 0) _ (hA.after hb) Try.underlying24 rfl (infoNum _) (hKt _ _ (Below.refl _ _) rfl)
    · intro v w' hb hf K hKt
      simp only [putAll, Act.put, List.setIfInBounds_toArray, List.set_cons_zero, List.set_cons_succ, Nat.zero_add, Nat.reduceAdd] at hKt ⊢
      exact wp_load_row 24 _ rfl (w.heap.size + 1 + 1) rfl 24 _ (0, 0) _ (hB.after hb) Try.underlying24 rfl (infoNum _) (hKt _ _ (Below.refl _ _) rfl)
    · intro v w' hb hf K hKt
      have f16 : v 16 = _ := hf ⟨16, .data⟩ (by simp) rfl
      have f17 : v 17 = _ := hf ⟨17, .data⟩ (by simp) rfl
      have f18 : v 18 = _ := hf ⟨18, .data⟩ (by simp) rfl
      simp only [putAll, Act.put, List.setIfInBounds_toArray, List.set_cons_zero, List.set_cons_succ, Nat.zero_add, Nat.reduceAdd] at hKt ⊢
      rw [f16, f17, f18] at hKt ⊢
      go_simp
      refine (kMUL g w' (H.keep hI hb)).mono ?_
      rintro e w'' ⟨rfl, hb2⟩
      exact hKt _ _ hb2 rfl
    · intro v w' hb hf K hKt
      have f0 : v 0 = _ := hf ⟨0, .data⟩ (by simp) rfl
      have f1 : v 1 = _ := hf ⟨1, .data⟩ (by simp) rfl
      have f2 : v 2 = _ := hf ⟨2, .data⟩ (by simp) rfl
      have f6 : v 6 = _ := hf ⟨6, .data⟩ (by simp) rfl
      have f10 : v 10 = _ := hf ⟨10, .data⟩ (by simp) rfl
      have f12 : v 12 = _ := hf ⟨12, .data⟩ (by simp) rfl
      have f15 : v 15 = _ := hf ⟨15, .data⟩ (by simp) rfl
      have f19 : v 19 = _ := hf ⟨19, .data⟩ (by simp) rfl
      simp only [putAll, Act.put, List.setIfInBounds_toArray, List.set_cons_zero, List.set_cons_succ, Nat.zero_add, Nat.reduceAdd] at hKt ⊢
      rw [f0, f1, f2, f6, f10, f12, f15, f19] at hKt ⊢
      obtain ⟨i8, hi8, hz8, hs8⟩ := info_two infN
      refine wp_buildSlice _ 24 8 _ rfl (tab 64 (slc xs)) i8 (.agg (nums 0)) Try.underlying47 hi8 hz8 (by rw [hs8]; decide) (by rw [hs8]; decide) (by rw [hs8, Array.toList_map]; exact HF.out) ?_
      exact hKt _ _ ((Below.refl _ _).alloc (Nat.le_refl _) _) ⟨w'.heap.size, rfl, hb.size, by simp, heap_alloc_new w' _⟩
    · intro v w' hb hf K hKt
      obtain ⟨gs, f20, _⟩ : ∃ g, v 20 = .slice (some ⟨g, 0, none⟩) 8 8 ∧ _ := hf ⟨20, .data⟩ (by simp) rfl
      simp only [putAll, Act.put, List.setIfInBounds_toArray, List.set_cons_zero, List.set_cons_succ, Nat.zero_add, Nat.reduceAdd] at hKt ⊢
      rw [f20] at hKt ⊢
      go_simp
      exact hKt _ _ (Below.refl _ _) rfl
    · intro v w' hb hf K hKt
      simp only [putAll, Act.put, List.setIfInBounds_toArray, List.set_cons_zero, List.set_cons_succ, Nat.zero_add, Nat.reduceAdd] at hKt ⊢
      go_simp
      exact hKt _ _ (Below.refl _ _) rfl
  intro v W6 hb hF
  clear hks ks
  have f0 : v 0 = _ := hF 0 (by simp)
  have f1 : v 1 = _ := hF 1 (by simp)
  have f2 : v 2 = _ := hF 2 (by simp)
  have f3 : v 3 = _ := hF 3 (by simp)
  have f4 : v 4 = _ := hF 4 (by simp)
  have f5 : v 5 = _ := hF 5 (by simp)
  have f6 : v 6 = _ := hF 6 (by simp)
  have f7 : v 7 = _ := hF 7 (by simp)
  have f8 : v 8 = _ := hF 8 (by simp)
  have f9 : v 9 = _ := hF 9 (by simp)
  have f10 : v 10 = _ := hF 10 (by simp)
  have f11 : v 11 = _ := hF 11 (by simp)
  have f12 : v 12 = _ := hF 12 (by simp)
  have f13 : v 13 = _ := hF 13 (by simp)
  have f14 : v 14 = _ := hF 14 (by simp)
  have f15 : v 15 = _ := hF 15 (by simp)
  have f16 : v 16 = _ := hF 16 (by simp)
  have f17 : v 17 = _ := hF 17 (by simp)
  have f18 : v 18 = _ := hF 18 (by simp)
  have f19 : v 19 = _ := hF 19 (by simp)
  have f21 : v 21 = _ := hF 21 (by simp)
  have f22 : v 22 = _ := hF 22 (by simp)
  obtain ⟨gs, f20, hgs, hls, hzs⟩ := hF 20 (by simp)
  replace hzs : Has W6 gs 24 (tab 64 (slc xs)) := hzs
  simp only [putAll, Act.put, List.setIfInBounds_toArray, List.set_cons_zero, List.set_cons_succ, Nat.zero_add, Nat.reduceAdd]
  rw [f0, f1, f2, f3, f4, f5, f6, f7, f8, f9, f10, f11, f12, f13, f14, f15, f16, f17, f18, f19, f20, f21, f22]
  clear hF f0 f1 f2 f3 f4 f5 f6 f7 f8 f9 f10 f11 f12 f13 f14 f15 f16 f17 f18 f19 f20 f21 f22
  replace hM := hM.after hb
  replace hA := hA.after hb
  replace hB := hB.after hb
  replace hP := hP.after hb
  replace hQ := hQ.after hb
  replace hS := hS.after hb
  replace hI := H.keep hI hb
  replace hb0 := below_trans hb0 hb
  clear hb HF kSUB kRA kMUL hgs hls hA hB
  go_wp2_with fail
  go_loopw [13, 55] (fun _ ct wr => ∃ k : Nat, k ≤ 8 ∧ ct = .int .i64 k ∧ Has wr w.heap.size 24 (nums m) ∧ Has wr gp 24 (nums p) ∧ Has wr gq 24 (nums q) ∧ Has wr w4.heap.size 24 (nums s) ∧ Has wr gs 24 (tab 64 (slc xs)) ∧ Is wr g m ∧ Below w.heap.size w wr) (fun _ ct _ => 8 - (intOf ct).toNat)
  case atStart => exact ⟨0, by omega, rfl, hM, hP, hQ, hS, hzs, hI, hb0⟩
  case round =>
    clear hM hP hQ hS hzs hI hb0
    obtain ⟨k, hk, rfl, hM, hP, hQ, hS, hT, hI, hb0⟩ := hrel
    by_cases hlt : k < 8
    · have dk : (k : Int) < 8 := by omega
      have cc := fun W => kC k W hlt
      have hT0 := hT
      obtain ⟨y, hyk⟩ : ∃ y, y = xs.getD k 0 := ⟨_, rfl⟩
      rw [← hyk] at cc
      have HY := Lib.hid hyk
      clear hyk
      have hN := put_new wr 24 (nums 0) (nums y)
      have hy := hN.1
      replace hM := hM.after hN.2
      replace hP := hP.after hN.2
      replace hQ := hQ.after hN.2
      replace hS := hS.after hN.2
      replace hT := hT.after hN.2
      replace hI := H.keep hI hN.2
      replace hb0 := below_trans hb0 hN.2
      clear hN
      go_wp2_with (first | refine wpList_load_slc rfl 24 _ rfl gs k hlt rfl 24 xs hT0 y HY.out _ Try.underlying24 rfl infN8 ?_ | refine wpList_store_row rfl 24 _ _ rfl wr.heap.size _ rfl rfl 24 (nums 0) (Has.new' rfl) (infoNum _) (by simp only [nums_size]) (tab_oneCell _ _ fun _ => rfl) ?_ | refine wpList_load_has 24 _ rfl _ rfl rfl 24 _ hy _ Try.underlying24 rfl (infoNum _) ?_ | refine wpList_load_has 24 _ rfl _ rfl rfl 24 _ hM _ Try.underlying24 rfl (infoNum _) ?_)
      refine (cc _).mono ?_
      rintro x w9 ⟨rfl, hx⟩
      replace hM := hM.after hx
      replace hP := hP.after hx
      replace hQ := hQ.after hx
      replace hS := hS.after hx
      replace hT := hT.after hx
      replace hI := H.keep hI hx
      replace hb0 := below_trans hb0 hx
      clear hx hy HY cc hT0
      go_wp2_with fail
      go_roundw
      case rel => exact ⟨k + 1, by omega, by go_num, hM, hP, hQ, hS, hT, hI, hb0⟩
      case measure => simp [intOf] <;> omega
    · have dk : ¬ (k : Int) < 8 := by omega
      clear hT kC
      go_wp2_with fail

      refine region_quiet_tail (Below wr.heap.size wr) 43 (by kernel_rfl) (by kernel_rfl) (below_drewN (Below.refl _ _) 1) ?_
      simp only [List.take_succ_cons, List.take_zero, List.drop_succ_cons, List.drop_zero]
      refine wpQ_move _ rfl rfl (.pointer (some ⟨g, 0, none⟩)) rfl ?_
      simp only [Act.put, List.setIfInBounds_toArray, List.set_cons_zero, List.set_cons_succ]
      refine wpQ_has 24 _ rfl _ rfl rfl 24 _ (fun w' hC => hP.after hC) _ Try.underlying24 rfl (infoNum _) ?_
      simp only [Act.put, List.setIfInBounds_toArray, List.set_cons_zero, List.set_cons_succ]
      refine wpQ_has 24 _ rfl _ rfl rfl 24 _ (fun w' hC => hQ.after hC) _ Try.underlying24 rfl (infoNum _) ?_
      simp only [Act.put, List.setIfInBounds_toArray, List.set_cons_zero, List.set_cons_succ]
      refine wpQ_fn 25 _ _ rfl rfl #[.pointer (some ⟨g, 0, none⟩), .agg (nums p), .agg (nums q)] rfl (fun _ => by go_simp) (.agg (nums t)) (fun w' hC => (kT g w' (H.keep hI hC)).mono fun e w'' ⟨he, hb⟩ => ⟨he, below_class hC hb⟩) ?_
      simp only [Act.put, List.setIfInBounds_toArray, List.set_cons_zero, List.set_cons_succ]
      refine wpQ_move _ rfl rfl (.pointer (some ⟨g, 0, none⟩)) rfl ?_
      simp only [Act.put, List.setIfInBounds_toArray, List.set_cons_zero, List.set_cons_succ]
      refine wpQ_has 24 _ rfl _ rfl rfl 24 _ (fun w' hC => hQ.after hC) _ Try.underlying24 rfl (infoNum _) ?_
      simp only [Act.put, List.setIfInBounds_toArray, List.set_cons_zero, List.set_cons_succ]
      refine wpQ_has 24 _ rfl _ rfl rfl 24 _ (fun w' hC => hP.after hC) _ Try.underlying24 rfl (infoNum _) ?_
      simp only [Act.put, List.setIfInBounds_toArray, List.set_cons_zero, List.set_cons_succ]
      refine wpQ_fn 25 _ _ rfl rfl #[.pointer (some ⟨g, 0, none⟩), .agg (nums q), .agg (nums p)] rfl (fun _ => by go_simp) (.agg (nums t)) (fun w' hC => (kT2 g w' (H.keep hI hC)).mono fun e w'' ⟨he, hb⟩ => ⟨he, below_class hC hb⟩) ?_
      simp only [Act.put, List.setIfInBounds_toArray, List.set_cons_zero, List.set_cons_succ]
      refine wpQ_bin _ _ _ _ _ rfl rfl (.agg (nums t)) (.agg (nums t)) rfl rfl (.bool true) (fun w' _ => numEq _ _ _ w') ?_
      simp only [Act.put, List.setIfInBounds_toArray, List.set_cons_zero, List.set_cons_succ]
      refine wpQ_move _ rfl rfl (.bool true) rfl ?_
      simp only [Act.put, List.setIfInBounds_toArray, List.set_cons_zero, List.set_cons_succ]
      refine wpQ_move _ rfl rfl (.pointer (some ⟨g, 0, none⟩)) rfl ?_
      simp only [Act.put, List.setIfInBounds_toArray, List.set_cons_zero, List.set_cons_succ]
      refine wpQ_has 24 _ rfl _ rfl rfl 24 _ (fun w' hC => hS.after hC) _ Try.underlying24 rfl (infoNum _) ?_
      simp only [Act.put, List.setIfInBounds_toArray, List.set_cons_zero, List.set_cons_succ]
      refine wpQ_has 24 _ rfl _ rfl rfl 24 _ (fun w' hC => hP.after hC) _ Try.underlying24 rfl (infoNum _) ?_
      simp only [Act.put, List.setIfInBounds_toArray, List.set_cons_zero, List.set_cons_succ]
      refine wpQ_fn 25 _ _ rfl rfl #[.pointer (some ⟨g, 0, none⟩), .agg (nums s), .agg (nums p)] rfl (fun _ => by go_simp) (.agg (nums u)) (fun w' hC => (kU g w' (H.keep hI hC)).mono fun e w'' ⟨he, hb⟩ => ⟨he, below_class hC hb⟩) ?_
      simp only [Act.put, List.setIfInBounds_toArray, List.set_cons_zero, List.set_cons_succ]
      refine wpQ_move _ rfl rfl (.pointer (some ⟨g, 0, none⟩)) rfl ?_
      simp only [Act.put, List.setIfInBounds_toArray, List.set_cons_zero, List.set_cons_succ]
      refine wpQ_move _ rfl rfl (.pointer (some ⟨g, 0, none⟩)) rfl ?_
      simp only [Act.put, List.setIfInBounds_toArray, List.set_cons_zero, List.set_cons_succ]
      refine wpQ_has 24 _ rfl _ rfl rfl 24 _ (fun w' hC => hP.after hC) _ Try.underlying24 rfl (infoNum _) ?_
      simp only [Act.put, List.setIfInBounds_toArray, List.set_cons_zero, List.set_cons_succ]
      refine wpQ_has 24 _ rfl _ rfl rfl 24 _ (fun w' hC => hP.after hC) _ Try.underlying24 rfl (infoNum _) ?_
      simp only [Act.put, List.setIfInBounds_toArray, List.set_cons_zero, List.set_cons_succ]
      refine wpQ_fn 25 _ _ rfl rfl #[.pointer (some ⟨g, 0, none⟩), .agg (nums p), .agg (nums p)] rfl (fun _ => by go_simp) (.agg (nums v2)) (fun w' hC => (kV g w' (H.keep hI hC)).mono fun e w'' ⟨he, hb⟩ => ⟨he, below_class hC hb⟩) ?_
      simp only [Act.put, List.setIfInBounds_toArray, List.set_cons_zero, List.set_cons_succ]
      refine wpQ_move _ rfl rfl (.pointer (some ⟨g, 0, none⟩)) rfl ?_
      simp only [Act.put, List.setIfInBounds_toArray, List.set_cons_zero, List.set_cons_succ]
      refine wpQ_has 24 _ rfl _ rfl rfl 24 _ (fun w' hC => hQ.after hC) _ Try.underlying24 rfl (infoNum _) ?_
      simp only [Act.put, List.setIfInBounds_toArray, List.set_cons_zero, List.set_cons_succ]
      refine wpQ_has 24 _ rfl _ rfl rfl 24 _ (fun w' hC => hP.after hC) _ Try.underlying24 rfl (infoNum _) ?_
      simp only [Act.put, List.setIfInBounds_toArray, List.set_cons_zero, List.set_cons_succ]
      refine wpQ_fn 25 _ _ rfl rfl #[.pointer (some ⟨g, 0, none⟩), .agg (nums q), .agg (nums p)] rfl (fun _ => by go_simp) (.agg (nums t)) (fun w' hC => (kT2 g w' (H.keep hI hC)).mono fun e w'' ⟨he, hb⟩ => ⟨he, below_class hC hb⟩) ?_
      simp only [Act.put, List.setIfInBounds_toArray, List.set_cons_zero, List.set_cons_succ]
      refine wpQ_fn 10 _ _ rfl rfl #[.pointer (some ⟨g, 0, none⟩), .agg (nums v2), .agg (nums t)] rfl (fun _ => by go_simp) (.agg (nums u)) (fun w' hC => (kVT g w' (H.keep hI hC)).mono fun e w'' ⟨he, hb⟩ => ⟨he, below_class hC hb⟩) ?_
      simp only [Act.put, List.setIfInBounds_toArray, List.set_cons_zero, List.set_cons_succ]
      refine wpQ_bin _ _ _ _ _ rfl rfl (.agg (nums u)) (.agg (nums u)) rfl rfl (.bool true) (fun w' _ => numEq _ _ _ w') ?_
      simp only [Act.put, List.setIfInBounds_toArray, List.set_cons_zero, List.set_cons_succ]
      refine wpQ_pick _ _ _ rfl rfl true rfl (.bool true) rfl ?_
      simp only [Act.put, List.setIfInBounds_toArray, List.set_cons_zero, List.set_cons_succ]
      refine wpQ_move _ rfl rfl (.bool true) rfl ?_
      simp only [Act.put, List.setIfInBounds_toArray, List.set_cons_zero, List.set_cons_succ]
      refine wpQ_move _ rfl rfl (.pointer (some ⟨g, 0, none⟩)) rfl ?_
      simp only [Act.put, List.setIfInBounds_toArray, List.set_cons_zero, List.set_cons_succ]
      refine wpQ_has 24 _ rfl _ rfl rfl 24 _ (fun w' hC => hS.after hC) _ Try.underlying24 rfl (infoNum _) ?_
      simp only [Act.put, List.setIfInBounds_toArray, List.set_cons_zero, List.set_cons_succ]
      refine wpQ_has 24 _ rfl _ rfl rfl 24 _ (fun w' hC => hQ.after hC) _ Try.underlying24 rfl (infoNum _) ?_
      simp only [Act.put, List.setIfInBounds_toArray, List.set_cons_zero, List.set_cons_succ]
      refine wpQ_fn 18 _ _ rfl rfl #[.pointer (some ⟨g, 0, none⟩), .agg (nums s), .agg (nums q)] rfl (fun _ => by go_simp) (.agg (nums p)) (fun w' hC => (kBK g w' (H.keep hI hC)).mono fun e w'' ⟨he, hb⟩ => ⟨he, below_class hC hb⟩) ?_
      simp only [Act.put, List.setIfInBounds_toArray, List.set_cons_zero, List.set_cons_succ]
      refine wpQ_has 24 _ rfl _ rfl rfl 24 _ (fun w' hC => hP.after hC) _ Try.underlying24 rfl (infoNum _) ?_
      simp only [Act.put, List.setIfInBounds_toArray, List.set_cons_zero, List.set_cons_succ]
      refine wpQ_bin _ _ _ _ _ rfl rfl (.agg (nums p)) (.agg (nums p)) rfl rfl (.bool true) (fun w' _ => numEq _ _ _ w') ?_
      simp only [Act.put, List.setIfInBounds_toArray, List.set_cons_zero, List.set_cons_succ]
      refine wpQ_pick _ _ _ rfl rfl true rfl (.bool true) rfl ?_
      simp only [Act.put, List.setIfInBounds_toArray, List.set_cons_zero, List.set_cons_succ]
      refine wpQ_move _ rfl rfl (.bool true) rfl ?_
      simp only [Act.put, List.setIfInBounds_toArray, List.set_cons_zero, List.set_cons_succ]
      refine wpQ_move _ rfl rfl (.pointer (some ⟨g, 0, none⟩)) rfl ?_
      simp only [Act.put, List.setIfInBounds_toArray, List.set_cons_zero, List.set_cons_succ]
      refine wpQ_has 24 _ rfl _ rfl rfl 24 _ (fun w' hC => hP.after hC) _ Try.underlying24 rfl (infoNum _) ?_
      simp only [Act.put, List.setIfInBounds_toArray, List.set_cons_zero, List.set_cons_succ]
      refine wpQ_move _ rfl rfl (.pointer (some ⟨g, 0, none⟩)) rfl ?_
      simp only [Act.put, List.setIfInBounds_toArray, List.set_cons_zero, List.set_cons_succ]
      refine wpQ_fn 26 _ _ rfl rfl #[.pointer (some ⟨g, 0, none⟩)] rfl (fun _ => by go_simp) (.agg (nums r)) (fun w' hC => (kONE g w' (H.keep hI hC)).mono fun e w'' ⟨he, hb⟩ => ⟨he, below_class hC hb⟩) ?_
      simp only [Act.put, List.setIfInBounds_toArray, List.set_cons_zero, List.set_cons_succ]
      refine wpQ_fn 25 _ _ rfl rfl #[.pointer (some ⟨g, 0, none⟩), .agg (nums p), .agg (nums r)] rfl (fun _ => by go_simp) (.agg (nums p)) (fun w' hC => (kP1 g w' (H.keep hI hC)).mono fun e w'' ⟨he, hb⟩ => ⟨he, below_class hC hb⟩) ?_
      simp only [Act.put, List.setIfInBounds_toArray, List.set_cons_zero, List.set_cons_succ]
      refine wpQ_has 24 _ rfl _ rfl rfl 24 _ (fun w' hC => hP.after hC) _ Try.underlying24 rfl (infoNum _) ?_
      simp only [Act.put, List.setIfInBounds_toArray, List.set_cons_zero, List.set_cons_succ]
      refine wpQ_bin _ _ _ _ _ rfl rfl (.agg (nums p)) (.agg (nums p)) rfl rfl (.bool true) (fun w' _ => numEq _ _ _ w') ?_
      simp only [Act.put, List.setIfInBounds_toArray, List.set_cons_zero, List.set_cons_succ]
      refine wpQ_pick _ _ _ rfl rfl true rfl (.bool true) rfl ?_
      simp only [Act.put, List.setIfInBounds_toArray, List.set_cons_zero, List.set_cons_succ]
      refine wpQuiet_nil ?_

      intro w10 hC
      have hfin := below_trans hb0 hC
      clear hC hM hP hQ hS hI kT kT2 kU kV kVT kBK kONE kP1
      go_wp2_with fail
      go_ret
      exact ⟨rfl, hfin⟩
end Go.Proofs.Ytodialbopochdaa
