/-
Layer 9: DynMany, over package dyn's call: the numbers and what is read (plain).
Layer 9: DynMany, over package dyn's call.
-/
import Derived.Test.YtfdoloonllhodaaJDyN
import Derived.Test.YtfdoloonllhodaaJaD
import Derived.Test.YtfdoloonllhodaaJDzI
namespace Go.Proofs.Ytfdoloonllhodaa
open Go Go.RowKit

/-- as many as the law makes of a number -/
def howN (n : Int) : Nat := ((n.tmod 6 + 6).tmod 6 + 61).toNat
theorem how_is (n : Int) : howN n ≤ 66 ∧ 61 ≤ howN n ∧ IntKind.i64.wrap (IntKind.i64.wrap ((IntKind.i64.wrap (n.tmod 6 + 6)).tmod 6 + 64) - 3) = (howN n : Int) := by
  have h1 := Int.tmod_lt_of_pos n (show (0 : Int) < 6 by decide)
  have h2 : -6 < n.tmod 6 := Int.lt_tmod_of_pos n (by decide)
  unfold howN
  generalize n.tmod 6 = r at *
  rw [i64_wrap (r + 6) (by omega) (by omega)]
  have h3 := Int.tmod_lt_of_pos (r + 6) (show (0 : Int) < 6 by decide)
  have h4 := Int.tmod_nonneg (6 : Int) (show 0 ≤ r + 6 by omega)
  generalize (r + 6).tmod 6 = q at *
  rw [i64_wrap (q + 64) (by omega) (by omega), i64_wrap (q + 64 - 3) (by omega) (by omega)]
  refine ⟨by omega, by omega, by omega⟩
theorem how_wrap (n : Int) : wrap64 (wrap64 ((wrap64 (n.tmod 6 + 6)).tmod 6 + 64) - 3) = (howN n : Int) := by
  have h := (how_is n).2.2
  simp only [IntKind.wrap_i64] at h
  unfold wrap64
  exact h
/-- so many symbols, so many relocations, all zeros -/
def manyF (N M : Nat) : List UInt8 := file9N [0, 0, 0, 0] [] (List.replicate N 0) (List.replicate M (0, 0, 0)) 0 true
theorem many_fits (N M : Nat) (hN : N ≤ 66) (hM : M ≤ 66) : fits9 ([0, 0, 0, 0] : List UInt8).length ([] : List (Nat × Nat)).length (List.replicate N 0).length (List.replicate M (0, 0, 0)).length = true := by
  rw [List.length_replicate, List.length_replicate]
  refine decide_eq_true ⟨by decide, by decide, by decide, by decide, by omega, by omega⟩
theorem many_read (N M : Nat) (hN : N ≤ 66) (hM : M ≤ 66) : ((N ≤ 64 ∧ M ≤ 64) ∧ ((readN (manyF N M)).er = 0 ∧ (readN (manyF N M)).sy.length = N ∧ (readN (manyF N M)).rl.length = M)) ∨ (¬ (N ≤ 64 ∧ M ≤ 64) ∧ readN (manyF N M) = rdE 12) := by
  have e : natI (IntKind.i64.wrap (((List.replicate N 0).length : Int) + 0)) = (List.replicate N (0 : Nat)).length := by
    rw [Int.add_zero, List.length_replicate, i64_wrap _ (by omega) (by omega), natI_nat _ (by omega)]
  have hl1 : (List.replicate N (0 : Nat)).length = N := List.length_replicate
  have hl2 : (List.replicate M ((0, 0, 0) : Nat × Nat × Nat)).length = M := List.length_replicate
  have hall : ((List.replicate M ((0, 0, 0) : Nat × Nat × Nat)).map rlOf).all (rlB (List.replicate N (0 : Nat)).length) = true := by
    rw [List.all_map]
    exact List.all_eq_true.2 fun r hr => by
      rw [List.eq_of_mem_replicate hr]
      exact decide_eq_true (p := (rlOf (0, 0, 0)).s = 0 ∨ (rlOf (0, 0, 0)).s < (List.replicate N (0 : Nat)).length) (Or.inl rfl)
  have k := tab_read (code := [0, 0, 0, 0]) (sy := List.replicate N 0) (rl := List.replicate M (0, 0, 0)) ⟨by decide, by decide, by decide, by omega, by omega, by show (7 : Nat) ≤ 30; decide⟩
      (fun v hv => by rw [List.eq_of_mem_replicate hv]; decide) (fun r hr => by rw [List.eq_of_mem_replicate hr]; decide)
  have eF : manyF N M = tabF [0, 0, 0, 0] (List.replicate N (0 : Nat)).length (List.replicate N 0) (List.replicate M (0, 0, 0)) (ownT (List.replicate N (0 : Nat)).length (List.replicate M ((0, 0, 0) : Nat × Nat × Nat)).length) := by
    unfold manyF file9N
    rw [e]
    rfl
  rw [← eF] at k
  by_cases h : N ≤ 64 ∧ M ≤ 64
  · rw [if_pos ⟨by omega, by omega, hall⟩] at k
    refine .inl ⟨h, ?_⟩
    rw [k]
    exact ⟨rfl, hl1, by rw [List.length_map]; exact hl2⟩
  · rw [if_neg (by rw [hl1, hl2]; exact fun h2 => h ⟨h2.1, h2.2.1⟩)] at k
    exact .inr ⟨h, k⟩
/-- three symbols that say they are sixty more -/
theorem more_read : readN (file9N [0, 0, 0, 0] [] (List.replicate 3 0) [] 60 true) = rdE 12 := tab_more
/-- the makes -/
theorem infoMU : (Try.prog.info? 32).map (fun i => (i.zero, i.size, i.bytes)) = some (some (.int .u32 0), 1, 4) := by kernel_rfl
theorem infoMT : (Try.prog.info? 33).map (fun i => (i.zero, i.size, i.bytes)) = some (some (.agg (tab 3 (r3V (0, 0, 0)))), 3, 12) := by kernel_rfl
def zrV (n : Nat) : Array Value := (List.replicate n (Value.int .u32 0)).toArray
theorem made_us (n : Nat) : madeCells (Value.int .u32 0).cells (n * 1) = zrV n := by
  unfold madeCells zrV
  apply Array.ext
  · simp
  · intro i h1 h2
    simp [Value.cells, Nat.mod_one]
theorem made_ts (n : Nat) : madeCells (Value.agg (tab 3 (r3V (0, 0, 0)))).cells (n * 3) = zrV (n * 3) := by
  have hc : (Value.agg (tab 3 (r3V (0, 0, 0)))).cells = #[.int .u32 0, .int .u32 0, .int .u32 0] := by kernel_rfl
  rw [hc]
  unfold madeCells zrV
  apply Array.ext
  · simp
  · intro i h1 h2
    have h3 : i % 3 = 0 ∨ i % 3 = 1 ∨ i % 3 = 2 := by omega
    rcases h3 with h3 | h3 | h3 <;> simp [h3]
theorem make_us (n : Nat) (hn : n ≤ 80) (W : World) : (Instr.makeSlice 24 (.int .i64 (n : Int)) (.int .i64 (n : Int))).run Try.prog W = .ok (.slice (some ⟨W.heap.size, 0, none⟩) n n) (W.alloc (.cells (zrV n) 32)) := by
  obtain ⟨i5, hi5, hz5, hs5, hb5⟩ := info_parts infoMU
  have h := run_makeSlice (P := Try.prog) (w := W) 24 32 i5 (.int .u32 0) Try.underlying24 hi5 hz5 .i64 .i64 (n : Int) (n : Int) (by omega) (by omega) (by rw [hs5]; omega) (by rw [hb5]; omega) (by omega)
  rw [hs5, Int.toNat_natCast, made_us] at h
  exact h
theorem make_ts (n : Nat) (hn : n ≤ 80) (W : World) : (Instr.makeSlice 25 (.int .i64 (n : Int)) (.int .i64 (n : Int))).run Try.prog W = .ok (.slice (some ⟨W.heap.size, 0, none⟩) n n) (W.alloc (.cells (zrV (n * 3)) 33)) := by
  obtain ⟨i5, hi5, hz5, hs5, hb5⟩ := info_parts infoMT
  have h := run_makeSlice (P := Try.prog) (w := W) 25 33 i5 (.agg (tab 3 (r3V (0, 0, 0)))) Try.underlying25 hi5 hz5 .i64 .i64 (n : Int) (n : Int) (by omega) (by omega) (by rw [hs5]; omega) (by rw [hb5]; omega) (by omega)
  rw [hs5, Int.toNat_natCast, made_ts] at h
  exact h
theorem zrV_get (n i : Nat) (h : i < n) : (zrV n)[i]? = some (.int .u32 0) := by
  unfold zrV
  rw [List.getElem?_toArray, List.getElem?_replicate, if_pos h]
theorem slU_zr {w : World} {g n : Nat} {t : TypeId} (h : Has w g t (zrV n)) (hn : n ≤ 80) : SlU w ⟨some ⟨g, 0, none⟩, n, n⟩ (List.replicate n 0) :=
  ⟨List.length_replicate, ⟨Nat.le_refl _, by show n ≤ _; omega⟩, fun _ => ⟨g, 0, rfl, h.lt, fun j i hj hi => by
    replace hj : j < n := hj
    have h4 := h.cell (0 + j * 1 + i)
    rw [zrV_get _ _ (by omega)] at h4
    rw [h4]
    dsimp only
    rw [List.getD_eq_getElem?_getD, List.getElem?_replicate, if_pos hj]
    rfl⟩⟩
theorem slT3_zr {w : World} {g n : Nat} {t : TypeId} (h : Has w g t (zrV (n * 3))) (hn : n ≤ 80) : SlT3 w ⟨some ⟨g, 0, none⟩, n, n⟩ (List.replicate n (0, 0, 0)) :=
  ⟨List.length_replicate, ⟨⟨Nat.le_refl _, by show n ≤ _; omega⟩, fun _ => ⟨g, 0, rfl, h.lt, fun j i hj hi => by
    replace hj : j < n := hj
    have h4 := h.cell (0 + j * 3 + i)
    rw [zrV_get _ _ (by omega)] at h4
    rw [h4]
    dsimp only
    rw [List.getD_eq_getElem?_getD, List.getElem?_replicate, if_pos hj]
    have h3 : i = 0 ∨ i = 1 ∨ i = 2 := by omega
    rcases h3 with rfl | rfl | rfl <;> rfl⟩⟩, fun p hp => by rw [List.eq_of_mem_replicate hp]; exact ⟨by decide, by decide, by decide⟩⟩
theorem infoFI9 (en : Nat) (s r z : Sl) : (Try.prog.info? 38).map (·.size) = some (fiC en s r z).size := by
  show _ = some 4
  kernel_rfl
theorem wp_store_fi {op : Oper} {a : Act} {w : World} {K : Act → World → Prop} {Q : Exit → Act → World → Prop} (x y : Operand) (ho : op.op = .store 38 x y) (g : Nat) (hx : a.eval x = .pointer (some ⟨g, 0, none⟩)) (en : Nat) (s r z : Sl) (hy : a.eval y = .agg (fiC en s r z))
    (en' : Nat) (s' r' z' : Sl) (hG : Has w g 38 (fiC en' s' r' z')) (h : ∀ w', Has w' g 38 (fiC en s r z) → w.grownBy w' (some g) → K (a.put op.dst undef) w') : op.wp Try.prog a w K Q := by
  unfold Oper.wp execOp
  simp only [ho, hx, hy, Instr.storeAt, Instr.sureAddr, Sem.run_bind, Sem.run_pure, Result.andThen_ok, run_storeVar_row w g 38 38 (fiC en' s' r' z') (fiC en s r z) hG (infoFI9 en s r z) rfl (by simp [fiC, Sl.v, Value.oneCell'])]
  exact h _ (hG.setRow _) ⟨rfl, rfl, rfl, by simp, fun i _ hne => setRow_other w g i _ (fun e => hne (by rw [e]))⟩
theorem slA_zr {w : World} {g : Nat} {t : TypeId} (h : Has w g t ((zs 4).map by8).toArray) : SlA w (some ⟨g, 0, none⟩) 4 4 [0, 0, 0, 0] :=
  ⟨rfl, Nat.le_refl _, fun _ => ⟨g, 0, rfl, h.lt, fun j hj => by
    have h4 := h.cell (0 + j)
    have h3 : j = 0 ∨ j = 1 ∨ j = 2 ∨ j = 3 := by omega
    rcases h3 with rfl | rfl | rfl | rfl <;> exact h4⟩⟩
theorem slTg_nil (w : World) : SlTg w ⟨none, 0, 0⟩ [] := ⟨rfl, slC_nil _ _ _, fun p h => by cases h⟩
theorem many_len (N M : Nat) (hN : N ≤ 66) (hM : M ≤ 66) : (manyF N M).length ≤ 100000 := by
  have h : (manyF N M).length = _ := tabF_len _ _ _ _ _
  rw [h, List.length_replicate, List.length_replicate]
  have h2 := tags9_len [] N M true
  have h3 : ([] : List (Nat × Nat)).length = 0 := rfl
  have h4 : ([0, 0, 0, 0] : List UInt8).length = 4 := rfl
  omega
def moreF : List UInt8 := file9N [0, 0, 0, 0] [] (List.replicate 3 0) [] 60 true
theorem more_fits : fits9 ([0, 0, 0, 0] : List UInt8).length ([] : List (Nat × Nat)).length (List.replicate 3 0).length ([] : List (Nat × Nat × Nat)).length = true := by decide
theorem more_len : moreF.length ≤ 100000 := by decide +kernel
theorem more_er : (((readN moreF).er : Nat) : Int) = 12 := by
  have h : readN moreF = rdE 12 := more_read
  rw [h]; rfl
/-- what an operation of the two reads does: operation k writes the file that operation p laid; all others leave what was there -/
def fiT (k p B : Nat) (Z : Sl → Sl → Prop) (j : Nat) (v : Nat → Value) (w w' : World) : Prop :=
  if j = k then ∃ g, v p = .pointer (some ⟨g, 0, none⟩) ∧ B ≤ g ∧ w.grownBy w' (some g) ∧ (∃ en s r y, Has w g 38 (fiC en s r y)) ∧ ∃ en s r y, Z r y ∧ Has w' g 38 (fiC en s r y) else Below w.heap.size w w'
section
variable {k p B j : Nat} {Z : Sl → Sl → Prop} {v : Nat → Value} {w w' wr : World}
theorem fiT_other (hj : j ≠ k) (h : Below w.heap.size w w') : fiT k p B Z j v w w' := by
  unfold fiT
  rw [if_neg hj]
  exact h
theorem fiT_below (h : Below wr.heap.size wr w) (hT : fiT k p wr.heap.size Z j v w w') : Below wr.heap.size wr w' := by
  unfold fiT at hT
  split at hT
  · obtain ⟨g, _, hB, hgr, _⟩ := hT
    exact below_only h hgr hB h.size
  · exact h.trans (hT.mono h.size)
theorem fiT_has {g : Nat} {t : TypeId} {cs : Array Value} (ht : t ≠ 38) (hG : Has w g t cs) (hT : fiT k p B Z j v w w') : Has w' g t cs := by
  unfold fiT at hT
  split at hT
  · obtain ⟨g', _, _, hgr, ⟨en, s, r, y, h1⟩, _⟩ := hT
    exact has_grown hG hgr (fun l hl => by injection hl with hl; rw [← hl]; exact has_ne hG h1 ht)
  · exact hG.after hT
theorem fiT_slA {A : Option Addr} {n c : Nat} {bs : List UInt8} (hS : SlA w A n c bs) (hT : fiT k p B Z j v w w') : SlA w' A n c bs := by
  unfold fiT at hT
  split at hT
  · obtain ⟨g', _, _, hgr, ⟨en, s, r, y, h1⟩, _⟩ := hT
    exact slA_fi h1 hS hgr
  · exact hS.below hT
/-- operation i has laid a file -/
def fiB (i B : Nat) (v : Nat → Value) (w : World) : Prop := ∃ g, v i = .pointer (some ⟨g, 0, none⟩) ∧ B ≤ g ∧ ∃ en s r y, Has w g 38 (fiC en s r y)
/-- .. and it holds what was read -/
def fiD (i B : Nat) (Z : Sl → Sl → Prop) (v : Nat → Value) (w : World) : Prop := ∃ g, v i = .pointer (some ⟨g, 0, none⟩) ∧ B ≤ g ∧ ∃ en s r y, Z r y ∧ Has w g 38 (fiC en s r y)
theorem fiB_keep {i : Nat} {v' : Nat → Value} (hv : v' i = v i) (h : fiB i B v w) (hT : fiT k p B Z j v' w w') : fiB i B v' w' := by
  obtain ⟨g, e, hB, en, s, r, y, hG⟩ := h
  refine ⟨g, hv.trans e, hB, ?_⟩
  unfold fiT at hT
  split at hT
  · obtain ⟨g', _, _, hgr, _, en2, s2, r2, y2, _, h2⟩ := hT
    by_cases he : g = g'
    · subst he
      exact ⟨_, _, _, _, h2⟩
    · exact ⟨_, _, _, _, has_grown hG hgr (fun l hl => by injection hl with hl; rw [← hl]; exact he)⟩
  · exact ⟨_, _, _, _, hG.after hT⟩
theorem fiD_keep {i : Nat} {v' : Nat → Value} (hj : j ≠ k) (hv : v' i = v i) (h : fiD i B Z v w) (hT : fiT k p B Z j v' w w') : fiD i B Z v' w' := by
  obtain ⟨g, e, hB, en, s, r, y, hZ, hG⟩ := h
  unfold fiT at hT
  rw [if_neg hj] at hT
  exact ⟨g, hv.trans e, hB, en, s, r, y, hZ, hG.after hT⟩
end
end Go.Proofs.Ytfdoloonllhodaa
namespace Go.Proofs.Ytfdoloonllhodaa
open Go Go.RowKit

set_option maxRecDepth 100000 in
set_option maxHeartbeats 1000000 in
theorem many9_ok (H : DynOK) (n m : Int) (w : World) :
    Calls Try.prog 6 #[.int .i64 n, .int .i64 m] w fun e w' => e = .returned (.bool true) ∧ Below w.heap.size w w' := by
  obtain ⟨hN, hN0, _⟩ := how_is n
  obtain ⟨hM, hM0, _⟩ := how_is m
  have en := how_wrap n
  have em := how_wrap m
  generalize howN n = N at *
  generalize howN m = M at *
  go_enter Try.func6, Try.ntmps6
  go_wp2_with fail
  refine (fit9_any H w).mono ?_
  rintro e u1 ⟨rfl, hb⟩
  go_upto_region 4 with fail
  rw [en, em]
  generalize u1 = wr at *
  refine region_simV (FL (fun w' => Below wr.heap.size wr w') [fun v w' => ∃ h, v 0 = .slice (some ⟨h, 0, none⟩) 4 4 ∧ Has w' h 5 ((zs 4).map by8).toArray, fun v _ => v 1 = .int .i64 (N : Int), fun v w' => ∃ h, v 2 = .slice (some ⟨h, 0, none⟩) N N ∧ Has w' h 32 (zrV N), fun v _ => v 3 = .int .i64 (M : Int), fun v w' => ∃ h, v 4 = .slice (some ⟨h, 0, none⟩) M M ∧ Has w' h 33 (zrV (M * 3)), fun v w' => ∃ h g, v 5 = .agg (tbC sl0 ⟨some ⟨h, 0, none⟩, N, N⟩ ⟨some ⟨g, 0, none⟩, M, M⟩ 0 true) ∧ Has w' h 32 (zrV N) ∧ Has w' g 33 (zrV (M * 3)), fun v w' => ∃ A n c, v 6 = .slice A n c ∧ SlA w' A n c (manyF N M) ∧ (A = none → c = 0) ∧ c < 9223372036854775808, fun v _ => ∃ en s r y, v 7 = .tuple #[.agg (fiC en s r y), .int .i64 (((readN (manyF N M)).er : Nat) : Int)] ∧ (fun r y : Sl => r.n = (readN (manyF N M)).rl.length ∧ y.n = (readN (manyF N M)).sy.length) r y, fun v _ => ∃ en s r y, v 8 = .tuple #[.agg (fiC en s r y), .int .i64 (((readN (manyF N M)).er : Nat) : Int)] ∧ (fun r y : Sl => r.n = (readN (manyF N M)).rl.length ∧ y.n = (readN (manyF N M)).sy.length) r y, fun v _ => ∃ en s r y, v 9 = .agg (fiC en s r y) ∧ (fun r y : Sl => r.n = (readN (manyF N M)).rl.length ∧ y.n = (readN (manyF N M)).sy.length) r y, fun v _ => v 10 = .int .i64 (((readN (manyF N M)).er : Nat) : Int), fiB 11 wr.heap.size, fiD 11 wr.heap.size (fun r y : Sl => r.n = (readN (manyF N M)).rl.length ∧ y.n = (readN (manyF N M)).sy.length), fun v _ => v 13 = .int .i64 (((readN (manyF N M)).er : Nat) : Int)]) (fun _ w' => Below wr.heap.size wr w') (fiT 12 11 wr.heap.size (fun r y : Sl => r.n = (readN (manyF N M)).rl.length ∧ y.n = (readN (manyF N M)).sy.length)) _ (by kernel_rfl) rfl (by kernel_rfl) (fun _ h _ _ _ => h) ?_ ?_ ?_ ?_
  · simp only [SimStepsV]
    refine ⟨⟨?_, trivial⟩, ⟨?_, trivial⟩, ⟨?_, trivial⟩, ⟨?_, trivial⟩, ⟨?_, trivial⟩, ⟨?_, trivial⟩, ⟨?_, trivial⟩, ⟨?_, trivial⟩, ⟨?_, trivial⟩, ⟨?_, trivial⟩, ⟨?_, trivial⟩, ⟨?_, trivial⟩, ⟨?_, trivial⟩, ⟨?_, trivial⟩, trivial⟩
    · intro v w' AA hAA hg hf hl hgd K hK
      refine new_step (w'' := w'.alloc (.cells ((zs 4).map by8).toArray 5)) (.slice (some ⟨w'.heap.size, 0, none⟩) 4 4) (fun ρ hρ => by
          have hcst : ∀ x, ρ (.const x) = x := fun x => by rw [hρ]; rfl
          have hm : (Instr.makeSlice 22 (.int .i64 4) (.int .i64 4)).run Try.prog w' = _ := make_zs 4 (by decide) w'
          clear hρ hf hAA hl hK hg hgd
          unfold execOp
          simp only [hcst, Sem.run_bind, hm, Result.andThen_ok]
          rfl) (hK _ _ (fiT_other (by decide) ((Below.refl _ _).alloc (Nat.le_refl _) _)) ⟨⟨_, setAt_self _ _ _, Has.new _ _ _⟩, hg.alloc hg.size _⟩)
    · intro v w' AA hAA hg hf hl hgd K hK
      exact pure_step (.int .i64 (N : Int)) (fun ρ hρ => by
          have e0 : ρ (.tmp 0) = .int .i64 (N : Int) := by rw [hρ]; exact hAA.2 0 (by simp)
          clear hρ hf hAA hl hK hg hgd
          go_simp) (hK _ _ (fiT_other (by decide) (Below.refl _ _)) ⟨setAt_self _ _ _, hg⟩)
    · intro v w' AA hAA hg hf hl hgd K hK
      refine new_step (w'' := w'.alloc (.cells (zrV N) 32)) (.slice (some ⟨w'.heap.size, 0, none⟩) N N) (fun ρ hρ => by
          have e26 : ρ (.tmp 26) = .int .i64 (N : Int) := by rw [hρ]; exact (hAA.1 1 _ 26 rfl rfl).trans (hf ⟨1, .data⟩ (by simp) rfl).1
          have hm : (Instr.makeSlice 24 (.int .i64 (N : Int)) (.int .i64 (N : Int))).run Try.prog w' = _ := make_us N (by omega) w'
          clear hρ hf hAA hl hK hg hgd
          unfold execOp
          simp only [e26, Sem.run_bind, hm, Result.andThen_ok]
          rfl) (hK _ _ (fiT_other (by decide) ((Below.refl _ _).alloc (Nat.le_refl _) _)) ⟨⟨_, setAt_self _ _ _, Has.new _ _ _⟩, hg.alloc hg.size _⟩)
    · intro v w' AA hAA hg hf hl hgd K hK
      exact pure_step (.int .i64 (M : Int)) (fun ρ hρ => by
          have e1 : ρ (.tmp 1) = .int .i64 (M : Int) := by rw [hρ]; exact hAA.2 1 (by simp)
          clear hρ hf hAA hl hK hg hgd
          go_simp) (hK _ _ (fiT_other (by decide) (Below.refl _ _)) ⟨setAt_self _ _ _, hg⟩)
    · intro v w' AA hAA hg hf hl hgd K hK
      refine new_step (w'' := w'.alloc (.cells (zrV (M * 3)) 33)) (.slice (some ⟨w'.heap.size, 0, none⟩) M M) (fun ρ hρ => by
          have e28 : ρ (.tmp 28) = .int .i64 (M : Int) := by rw [hρ]; exact (hAA.1 3 _ 28 rfl rfl).trans (hf ⟨3, .data⟩ (by simp) rfl).1
          have hm : (Instr.makeSlice 25 (.int .i64 (M : Int)) (.int .i64 (M : Int))).run Try.prog w' = _ := make_ts M (by omega) w'
          clear hρ hf hAA hl hK hg hgd
          unfold execOp
          simp only [e28, Sem.run_bind, hm, Result.andThen_ok]
          rfl) (hK _ _ (fiT_other (by decide) ((Below.refl _ _).alloc (Nat.le_refl _) _)) ⟨⟨_, setAt_self _ _ _, Has.new _ _ _⟩, hg.alloc hg.size _⟩)
    · intro v w' AA hAA hg hf hl hgd K hK
      obtain ⟨⟨h2, hv2, hG2⟩, _⟩ := hf ⟨2, .data⟩ (by simp) rfl
      obtain ⟨⟨h4, hv4, hG4⟩, _⟩ := hf ⟨4, .data⟩ (by simp) rfl
      exact pure_step (.agg #[.slice none 0 0, .slice (some ⟨h2, 0, none⟩) N N, .slice (some ⟨h4, 0, none⟩) M M, .int .i64 0, .bool true]) (fun ρ hρ => by
          have hcst : ∀ x, ρ (.const x) = x := fun x => by rw [hρ]; rfl
          have e27 : ρ (.tmp 27) = .slice (some ⟨h2, 0, none⟩) N N := by rw [hρ]; exact (hAA.1 2 _ 27 rfl rfl).trans hv2
          have e29 : ρ (.tmp 29) = .slice (some ⟨h4, 0, none⟩) M M := by rw [hρ]; exact (hAA.1 4 _ 29 rfl rfl).trans hv4
          clear hρ hf hAA hl hK hg hgd
          go_simp) (hK _ _ (fiT_other (by decide) (Below.refl _ _)) ⟨⟨h2, h4, setAt_self _ _ _, hG2, hG4⟩, hg⟩)
    · intro v w' AA hAA hg hf hl hgd K hK
      obtain ⟨⟨h0, hv0, hG0⟩, _⟩ := hf ⟨0, .data⟩ (by simp) rfl
      obtain ⟨⟨h2, h4, hv5, hG2, hG4⟩, _⟩ := hf ⟨5, .data⟩ (by simp) rfl
      refine call_step 8 #[.slice (some ⟨h0, 0, none⟩) 4 4, .agg #[.slice none 0 0, .slice (some ⟨h2, 0, none⟩) N N, .slice (some ⟨h4, 0, none⟩) M M, .int .i64 0, .bool true]] (fun ρ hρ => by
          have hfun : ∀ f, ρ (.func f) = .func (.func f) #[] #[] := fun f => by rw [hρ]; rfl
          have e25 : ρ (.tmp 25) = .slice (some ⟨h0, 0, none⟩) 4 4 := by rw [hρ]; exact (hAA.1 0 _ 25 rfl rfl).trans hv0
          have e30 : ρ (.tmp 30) = .agg #[.slice none 0 0, .slice (some ⟨h2, 0, none⟩) N N, .slice (some ⟨h4, 0, none⟩) M M, .int .i64 0, .bool true] := by rw [hρ]; exact (hAA.1 5 _ 30 rfl rfl).trans hv5
          clear hρ hf hAA hl hK hg hgd
          go_simp) ?_
      refine (fl9_ok.file_ok [0, 0, 0, 0] (some ⟨h0, 0, none⟩) 4 4 ⟨none, 0, 0⟩ ⟨some ⟨h2, 0, none⟩, N, N⟩ ⟨some ⟨h4, 0, none⟩, M, M⟩ [] (List.replicate N 0) (List.replicate M (0, 0, 0)) 0 true w' (slA_zr hG0) (fun e => by cases e) (slTg_nil _) (slU_zr hG2 (by omega)) (fun v hv => by rw [List.eq_of_mem_replicate hv]; decide) (slT3_zr hG4 (by omega)) (by decide) (by decide)).mono ?_
      rintro e w'' ⟨⟨A, n, c, rfl, hF⟩, hy⟩
      unfold File9R at hF
      rw [if_pos (many_fits N M hN hM)] at hF
      exact ⟨_, rfl, hK _ _ (fiT_other (by decide) hy) ⟨⟨A, n, c, setAt_self _ _ _, hF.1.slA.1, hF.1.slA.2, hF.2⟩, hg.trans (hy.mono hg.size)⟩⟩
    · intro v w' AA hAA hg hf hl hgd K hK
      obtain ⟨⟨A, n, c, hv6, hS, hA, hc⟩, _⟩ := hf ⟨6, .data⟩ (by simp) rfl
      refine call_step 10 #[.slice A n c] (fun ρ hρ => by
          have hfun : ∀ f, ρ (.func f) = .func (.func f) #[] #[] := fun f => by rw [hρ]; rfl
          have e31 : ρ (.tmp 31) = .slice A n c := by rw [hρ]; exact (hAA.1 6 _ 31 rfl rfl).trans hv6
          clear hρ hf hAA hl hK hg hgd
          go_simp) ?_
      refine (H.read_ok (manyF N M) A n c w' hS hA hc (many_len N M hN hM)).mono ?_
      rintro e w'' ⟨⟨s, r, y, rfl, hs, hr, hyy⟩, hy⟩
      exact ⟨_, rfl, hK _ _ (fiT_other (by decide) hy) ⟨⟨_, s, r, y, setAt_self _ _ _, hr.1.symm, hyy.1.symm⟩, hg.trans (hy.mono hg.size)⟩⟩
    · intro v w' AA hAA hg hf hl hgd K hK
      obtain ⟨⟨en, s, r, y, hv7, hz⟩, _⟩ := hf ⟨7, .data⟩ (by simp) rfl
      exact pure_step (.tuple #[.agg (fiC en s r y), .int .i64 (((readN (manyF N M)).er : Nat) : Int)]) (fun ρ hρ => by
          have e32 : ρ (.tmp 32) = .tuple #[.agg (fiC en s r y), .int .i64 (((readN (manyF N M)).er : Nat) : Int)] := by rw [hρ]; exact (hAA.1 7 _ 32 rfl rfl).trans hv7
          clear hρ hf hAA hl hK hg hgd
          go_simp) (hK _ _ (fiT_other (by decide) (Below.refl _ _)) ⟨⟨en, s, r, y, setAt_self _ _ _, hz⟩, hg⟩)
    · intro v w' AA hAA hg hf hl hgd K hK
      obtain ⟨⟨en, s, r, y, hv8, hz⟩, _⟩ := hf ⟨8, .data⟩ (by simp) rfl
      exact pure_step (.agg (fiC en s r y)) (fun ρ hρ => by
          have e24 : ρ (.tmp 24) = .tuple #[.agg (fiC en s r y), .int .i64 (((readN (manyF N M)).er : Nat) : Int)] := by rw [hρ]; exact (hAA.1 8 _ 24 rfl rfl).trans hv8
          clear hρ hf hAA hl hK hg hgd
          go_simp) (hK _ _ (fiT_other (by decide) (Below.refl _ _)) ⟨⟨en, s, r, y, setAt_self _ _ _, hz⟩, hg⟩)
    · intro v w' AA hAA hg hf hl hgd K hK
      obtain ⟨⟨en, s, r, y, hv8, hz⟩, _⟩ := hf ⟨8, .data⟩ (by simp) rfl
      exact pure_step (.int .i64 (((readN (manyF N M)).er : Nat) : Int)) (fun ρ hρ => by
          have e24 : ρ (.tmp 24) = .tuple #[.agg (fiC en s r y), .int .i64 (((readN (manyF N M)).er : Nat) : Int)] := by rw [hρ]; exact (hAA.1 8 _ 24 rfl rfl).trans hv8
          clear hρ hf hAA hl hK hg hgd
          go_simp) (hK _ _ (fiT_other (by decide) (Below.refl _ _)) ⟨setAt_self _ _ _, hg⟩)
    · intro v w' AA hAA hg hf hl hgd K hK
      refine new_step (w'' := w'.alloc (.cells #[.int .u32 0, .slice none 0 0, .slice none 0 0, .slice none 0 0] 38)) (.pointer (some ⟨w'.heap.size, 0, none⟩)) (fun ρ hρ => by
          clear hρ hf hAA hl hK hg hgd
          go_simp) (hK _ _ (fiT_other (by decide) ((Below.refl _ _).alloc (Nat.le_refl _) _)) ⟨⟨_, setAt_self _ _ _, hg.size, 0, ⟨none, 0, 0⟩, ⟨none, 0, 0⟩, ⟨none, 0, 0⟩, Has.new _ _ _⟩, hg.alloc hg.size _⟩)
    · intro v w' AA hAA hg hf hl hgd K hK
      obtain ⟨⟨g, hv11, hB, en', s', r', y', hG⟩, _⟩ := hf ⟨11, .data⟩ (by simp) rfl
      obtain ⟨⟨en, s, r, y, hv9, hz⟩, _⟩ := hf ⟨9, .data⟩ (by simp) rfl
      have ex : AA.eval (.tmp 5) = .pointer (some ⟨g, 0, none⟩) := (hAA.1 11 _ 5 rfl rfl).trans hv11
      have ez : AA.eval (.tmp 33) = .agg (fiC en s r y) := (hAA.1 9 _ 33 rfl rfl).trans hv9
      refine wp_store_fi _ _ rfl g ex en s r y ez en' s' r' y' hG ?_
      intro w'' hG2 hgr
      have hv2 : setAt v 12 undef 11 = .pointer (some ⟨g, 0, none⟩) := by rw [← hv11]; exact if_neg (by decide)
      exact hK _ _ ((if_pos rfl).mpr ⟨g, hv2, hB, hgr, ⟨_, _, _, _, hG⟩, en, s, r, y, hz, hG2⟩) ⟨⟨g, hv2, hB, en, s, r, y, hz, hG2⟩, below_only hg hgr hB hg.size⟩
    · intro v w' AA hAA hg hf hl hgd K hK
      exact pure_step (.int .i64 (((readN (manyF N M)).er : Nat) : Int)) (fun ρ hρ => by
          have e34 : ρ (.tmp 34) = .int .i64 (((readN (manyF N M)).er : Nat) : Int) := by rw [hρ]; exact (hAA.1 10 _ 34 rfl rfl).trans (hf ⟨10, .data⟩ (by simp) rfl).1
          clear hρ hf hAA hl hK hg hgd
          go_simp) (hK _ _ (fiT_other (by decide) (Below.refl _ _)) ⟨setAt_self _ _ _, hg⟩)
  · intro i' j' hi' hj' hne hw v x w' w'' hF hT
    have hI := fiT_below hF.2 hT
    rcases (show i' = 0 ∨ i' = 1 ∨ i' = 2 ∨ i' = 3 ∨ i' = 4 ∨ i' = 5 ∨ i' = 6 ∨ i' = 7 ∨ i' = 8 ∨ i' = 9 ∨ i' = 10 ∨ i' = 11 ∨ i' = 12 ∨ i' = 13 by have : i' < 14 := hi'; omega) with rfl | rfl | rfl | rfl | rfl | rfl | rfl | rfl | rfl | rfl | rfl | rfl | rfl | rfl
    · obtain ⟨⟨h, e, hG⟩, _⟩ := hF
      exact ⟨⟨h, (setAt_far v x hne).trans e, fiT_has (by decide) hG hT⟩, hI⟩
    · exact ⟨(setAt_far v x hne).trans hF.1, hI⟩
    · obtain ⟨⟨h, e, hG⟩, _⟩ := hF
      exact ⟨⟨h, (setAt_far v x hne).trans e, fiT_has (by decide) hG hT⟩, hI⟩
    · exact ⟨(setAt_far v x hne).trans hF.1, hI⟩
    · obtain ⟨⟨h, e, hG⟩, _⟩ := hF
      exact ⟨⟨h, (setAt_far v x hne).trans e, fiT_has (by decide) hG hT⟩, hI⟩
    · obtain ⟨⟨h, g, e, hG, hG2⟩, _⟩ := hF
      exact ⟨⟨h, g, (setAt_far v x hne).trans e, fiT_has (by decide) hG hT, fiT_has (by decide) hG2 hT⟩, hI⟩
    · obtain ⟨⟨A, n, c, e, hS, h1, h2⟩, _⟩ := hF
      exact ⟨⟨A, n, c, (setAt_far v x hne).trans e, fiT_slA hS hT, h1, h2⟩, hI⟩
    · obtain ⟨⟨en, s, r, y, e, hz⟩, _⟩ := hF
      exact ⟨⟨en, s, r, y, (setAt_far v x hne).trans e, hz⟩, hI⟩
    · obtain ⟨⟨en, s, r, y, e, hz⟩, _⟩ := hF
      exact ⟨⟨en, s, r, y, (setAt_far v x hne).trans e, hz⟩, hI⟩
    · obtain ⟨⟨en, s, r, y, e, hz⟩, _⟩ := hF
      exact ⟨⟨en, s, r, y, (setAt_far v x hne).trans e, hz⟩, hI⟩
    · exact ⟨(setAt_far v x hne).trans hF.1, hI⟩
    · exact ⟨fiB_keep (setAt_far v x hne) hF.1 hT, hI⟩
    · by_cases hj : j' = 11
      · subst hj; exact absurd hw (by decide +kernel)
      · exact ⟨fiD_keep (Ne.symm hne) (setAt_far v x (Ne.symm hj)) hF.1 hT, hI⟩
    · exact ⟨(setAt_far v x hne).trans hF.1, hI⟩
  · intro i' j' _ hj' _ _ v w' w'' h hT
    exact fiT_below h hT
  intro v wE hE
  have f13 := (hE 13 (by decide)).1
  obtain ⟨⟨g1, f11, hg1, en1, s1, r1, y1, hz1, hG1⟩, hb1⟩ := hE 12 (by decide)
  clear hE
  simp only [putAll, Act.put, List.setIfInBounds_toArray, List.set_cons_zero, List.set_cons_succ, Nat.zero_add, Nat.reduceAdd]
  have f13' : v 13 = .int .i64 (((readN (manyF N M)).er : Nat) : Int) := f13
  rw [f11, f13']
  clear f13 f11 f13'
  replace hb := below_trans hb hb1
  go_upto_region 5 with fail
  refine region_simV (FL (fun w' => Below wE.heap.size wE w') [fun v w' => ∃ h, v 0 = .slice (some ⟨h, 0, none⟩) 4 4 ∧ Has w' h 5 ((zs 4).map by8).toArray, fun v w' => ∃ h, v 1 = .slice (some ⟨h, 0, none⟩) 3 3 ∧ Has w' h 32 (zrV 3), fun v w' => ∃ h, v 2 = .agg #[.slice none 0 0, .slice (some ⟨h, 0, none⟩) 3 3, .slice none 0 0, .int .i64 60, .bool true] ∧ Has w' h 32 (zrV 3), fun v w' => ∃ A n c, v 3 = .slice A n c ∧ SlA w' A n c moreF ∧ (A = none → c = 0) ∧ c < 9223372036854775808, fun v _ => ∃ en s r y, v 4 = .tuple #[.agg (fiC en s r y), .int .i64 (((readN moreF).er : Nat) : Int)], fun v _ => ∃ en s r y, v 5 = .tuple #[.agg (fiC en s r y), .int .i64 (((readN moreF).er : Nat) : Int)], fun v _ => ∃ en s r y, v 6 = .agg (fiC en s r y), fun v _ => v 7 = .int .i64 (((readN moreF).er : Nat) : Int), fiB 8 wE.heap.size, fiD 8 wE.heap.size (fun _ _ : Sl => True), fun v _ => v 10 = .int .i64 (((readN moreF).er : Nat) : Int)]) (fun _ w' => Below wE.heap.size wE w') (fiT 9 8 wE.heap.size (fun _ _ : Sl => True)) _ (by kernel_rfl) rfl (by kernel_rfl) (fun _ h _ _ _ => h) ?_ ?_ ?_ ?_
  · simp only [SimStepsV]
    refine ⟨⟨?_, trivial⟩, ⟨?_, trivial⟩, ⟨?_, trivial⟩, ⟨?_, trivial⟩, ⟨?_, trivial⟩, ⟨?_, trivial⟩, ⟨?_, trivial⟩, ⟨?_, trivial⟩, ⟨?_, trivial⟩, ⟨?_, trivial⟩, ⟨?_, trivial⟩, trivial⟩
    · intro v w' AA hAA hg hf hl hgd K hK
      refine new_step (w'' := w'.alloc (.cells ((zs 4).map by8).toArray 5)) (.slice (some ⟨w'.heap.size, 0, none⟩) 4 4) (fun ρ hρ => by
          have hcst : ∀ x, ρ (.const x) = x := fun x => by rw [hρ]; rfl
          have hm : (Instr.makeSlice 22 (.int .i64 4) (.int .i64 4)).run Try.prog w' = _ := make_zs 4 (by decide) w'
          clear hρ hf hAA hl hK hg hgd
          unfold execOp
          simp only [hcst, Sem.run_bind, hm, Result.andThen_ok]
          rfl) (hK _ _ (fiT_other (by decide) ((Below.refl _ _).alloc (Nat.le_refl _) _)) ⟨⟨_, setAt_self _ _ _, Has.new _ _ _⟩, hg.alloc hg.size _⟩)
    · intro v w' AA hAA hg hf hl hgd K hK
      refine new_step (w'' := w'.alloc (.cells (zrV 3) 32)) (.slice (some ⟨w'.heap.size, 0, none⟩) 3 3) (fun ρ hρ => by
          have hcst : ∀ x, ρ (.const x) = x := fun x => by rw [hρ]; rfl
          have hm : (Instr.makeSlice 24 (.int .i64 3) (.int .i64 3)).run Try.prog w' = _ := make_us 3 (by decide) w'
          clear hρ hf hAA hl hK hg hgd
          unfold execOp
          simp only [hcst, Sem.run_bind, hm, Result.andThen_ok]
          rfl) (hK _ _ (fiT_other (by decide) ((Below.refl _ _).alloc (Nat.le_refl _) _)) ⟨⟨_, setAt_self _ _ _, Has.new _ _ _⟩, hg.alloc hg.size _⟩)
    · intro v w' AA hAA hg hf hl hgd K hK
      obtain ⟨⟨h2, hv1, hG2⟩, _⟩ := hf ⟨1, .data⟩ (by simp) rfl
      exact pure_step (.agg #[.slice none 0 0, .slice (some ⟨h2, 0, none⟩) 3 3, .slice none 0 0, .int .i64 60, .bool true]) (fun ρ hρ => by
          have hcst : ∀ x, ρ (.const x) = x := fun x => by rw [hρ]; rfl
          have e37 : ρ (.tmp 37) = .slice (some ⟨h2, 0, none⟩) 3 3 := by rw [hρ]; exact (hAA.1 1 _ 37 rfl rfl).trans hv1
          clear hρ hf hAA hl hK hg hgd
          go_simp) (hK _ _ (fiT_other (by decide) (Below.refl _ _)) ⟨⟨h2, setAt_self _ _ _, hG2⟩, hg⟩)
    · intro v w' AA hAA hg hf hl hgd K hK
      obtain ⟨⟨h0, hv0, hG0⟩, _⟩ := hf ⟨0, .data⟩ (by simp) rfl
      obtain ⟨⟨h2, hv2, hG2⟩, _⟩ := hf ⟨2, .data⟩ (by simp) rfl
      refine call_step 8 #[.slice (some ⟨h0, 0, none⟩) 4 4, .agg #[.slice none 0 0, .slice (some ⟨h2, 0, none⟩) 3 3, .slice none 0 0, .int .i64 60, .bool true]] (fun ρ hρ => by
          have hfun : ∀ f, ρ (.func f) = .func (.func f) #[] #[] := fun f => by rw [hρ]; rfl
          have e36 : ρ (.tmp 36) = .slice (some ⟨h0, 0, none⟩) 4 4 := by rw [hρ]; exact (hAA.1 0 _ 36 rfl rfl).trans hv0
          have e38 : ρ (.tmp 38) = .agg #[.slice none 0 0, .slice (some ⟨h2, 0, none⟩) 3 3, .slice none 0 0, .int .i64 60, .bool true] := by rw [hρ]; exact (hAA.1 2 _ 38 rfl rfl).trans hv2
          clear hρ hf hAA hl hK hg hgd
          go_simp) ?_
      refine (fl9_ok.file_ok [0, 0, 0, 0] (some ⟨h0, 0, none⟩) 4 4 ⟨none, 0, 0⟩ ⟨some ⟨h2, 0, none⟩, 3, 3⟩ ⟨none, 0, 0⟩ [] (List.replicate 3 0) [] 60 true w' (slA_zr hG0) (fun e => by cases e) (slTg_nil _) (slU_zr hG2 (by decide)) (fun v hv => by rw [List.eq_of_mem_replicate hv]; decide) ⟨rfl, slC_nil _ _ _, fun p h => by cases h⟩ (by decide) (by decide)).mono ?_
      rintro e w'' ⟨⟨A, n, c, rfl, hF⟩, hy⟩
      unfold File9R at hF
      rw [if_pos more_fits] at hF
      exact ⟨_, rfl, hK _ _ (fiT_other (by decide) hy) ⟨⟨A, n, c, setAt_self _ _ _, hF.1.slA.1, hF.1.slA.2, hF.2⟩, hg.trans (hy.mono hg.size)⟩⟩
    · intro v w' AA hAA hg hf hl hgd K hK
      obtain ⟨⟨A, n, c, hv3, hS, hA, hc⟩, _⟩ := hf ⟨3, .data⟩ (by simp) rfl
      refine call_step 10 #[.slice A n c] (fun ρ hρ => by
          have hfun : ∀ f, ρ (.func f) = .func (.func f) #[] #[] := fun f => by rw [hρ]; rfl
          have e39 : ρ (.tmp 39) = .slice A n c := by rw [hρ]; exact (hAA.1 3 _ 39 rfl rfl).trans hv3
          clear hρ hf hAA hl hK hg hgd
          go_simp) ?_
      refine (H.read_ok moreF A n c w' hS hA hc more_len).mono ?_
      rintro e w'' ⟨⟨s, r, y, rfl, hs, hr, hyy⟩, hy⟩
      exact ⟨_, rfl, hK _ _ (fiT_other (by decide) hy) ⟨⟨_, s, r, y, setAt_self _ _ _⟩, hg.trans (hy.mono hg.size)⟩⟩
    · intro v w' AA hAA hg hf hl hgd K hK
      obtain ⟨⟨en, s, r, y, hv4⟩, _⟩ := hf ⟨4, .data⟩ (by simp) rfl
      exact pure_step (.tuple #[.agg (fiC en s r y), .int .i64 (((readN moreF).er : Nat) : Int)]) (fun ρ hρ => by
          have e40 : ρ (.tmp 40) = .tuple #[.agg (fiC en s r y), .int .i64 (((readN moreF).er : Nat) : Int)] := by rw [hρ]; exact (hAA.1 4 _ 40 rfl rfl).trans hv4
          clear hρ hf hAA hl hK hg hgd
          go_simp) (hK _ _ (fiT_other (by decide) (Below.refl _ _)) ⟨⟨en, s, r, y, setAt_self _ _ _⟩, hg⟩)
    · intro v w' AA hAA hg hf hl hgd K hK
      obtain ⟨⟨en, s, r, y, hv5⟩, _⟩ := hf ⟨5, .data⟩ (by simp) rfl
      exact pure_step (.agg (fiC en s r y)) (fun ρ hρ => by
          have e35 : ρ (.tmp 35) = .tuple #[.agg (fiC en s r y), .int .i64 (((readN moreF).er : Nat) : Int)] := by rw [hρ]; exact (hAA.1 5 _ 35 rfl rfl).trans hv5
          clear hρ hf hAA hl hK hg hgd
          go_simp) (hK _ _ (fiT_other (by decide) (Below.refl _ _)) ⟨⟨en, s, r, y, setAt_self _ _ _⟩, hg⟩)
    · intro v w' AA hAA hg hf hl hgd K hK
      obtain ⟨⟨en, s, r, y, hv5⟩, _⟩ := hf ⟨5, .data⟩ (by simp) rfl
      exact pure_step (.int .i64 (((readN moreF).er : Nat) : Int)) (fun ρ hρ => by
          have e35 : ρ (.tmp 35) = .tuple #[.agg (fiC en s r y), .int .i64 (((readN moreF).er : Nat) : Int)] := by rw [hρ]; exact (hAA.1 5 _ 35 rfl rfl).trans hv5
          clear hρ hf hAA hl hK hg hgd
          go_simp) (hK _ _ (fiT_other (by decide) (Below.refl _ _)) ⟨setAt_self _ _ _, hg⟩)
    · intro v w' AA hAA hg hf hl hgd K hK
      refine new_step (w'' := w'.alloc (.cells #[.int .u32 0, .slice none 0 0, .slice none 0 0, .slice none 0 0] 38)) (.pointer (some ⟨w'.heap.size, 0, none⟩)) (fun ρ hρ => by
          clear hρ hf hAA hl hK hg hgd
          go_simp) (hK _ _ (fiT_other (by decide) ((Below.refl _ _).alloc (Nat.le_refl _) _)) ⟨⟨_, setAt_self _ _ _, hg.size, 0, ⟨none, 0, 0⟩, ⟨none, 0, 0⟩, ⟨none, 0, 0⟩, Has.new _ _ _⟩, hg.alloc hg.size _⟩)
    · intro v w' AA hAA hg hf hl hgd K hK
      obtain ⟨⟨g, hv8, hB, en', s', r', y', hG⟩, _⟩ := hf ⟨8, .data⟩ (by simp) rfl
      obtain ⟨⟨en, s, r, y, hv6⟩, _⟩ := hf ⟨6, .data⟩ (by simp) rfl
      have ex : AA.eval (.tmp 7) = .pointer (some ⟨g, 0, none⟩) := (hAA.1 8 _ 7 rfl rfl).trans hv8
      have ez : AA.eval (.tmp 41) = .agg (fiC en s r y) := (hAA.1 6 _ 41 rfl rfl).trans hv6
      refine wp_store_fi _ _ rfl g ex en s r y ez en' s' r' y' hG ?_
      intro w'' hG2 hgr
      have hv2 : setAt v 9 undef 8 = .pointer (some ⟨g, 0, none⟩) := by rw [← hv8]; exact if_neg (by decide)
      exact hK _ _ ((if_pos rfl).mpr ⟨g, hv2, hB, hgr, ⟨_, _, _, _, hG⟩, en, s, r, y, trivial, hG2⟩) ⟨⟨g, hv2, hB, en, s, r, y, trivial, hG2⟩, below_only hg hgr hB hg.size⟩
    · intro v w' AA hAA hg hf hl hgd K hK
      exact pure_step (.int .i64 (((readN moreF).er : Nat) : Int)) (fun ρ hρ => by
          have e42 : ρ (.tmp 42) = .int .i64 (((readN moreF).er : Nat) : Int) := by rw [hρ]; exact (hAA.1 7 _ 42 rfl rfl).trans (hf ⟨7, .data⟩ (by simp) rfl).1
          clear hρ hf hAA hl hK hg hgd
          go_simp) (hK _ _ (fiT_other (by decide) (Below.refl _ _)) ⟨setAt_self _ _ _, hg⟩)
  · intro i' j' hi' hj' hne hw v x w' w'' hF hT
    have hI := fiT_below hF.2 hT
    rcases (show i' = 0 ∨ i' = 1 ∨ i' = 2 ∨ i' = 3 ∨ i' = 4 ∨ i' = 5 ∨ i' = 6 ∨ i' = 7 ∨ i' = 8 ∨ i' = 9 ∨ i' = 10 by have : i' < 11 := hi'; omega) with rfl | rfl | rfl | rfl | rfl | rfl | rfl | rfl | rfl | rfl | rfl
    · obtain ⟨⟨h, e, hG⟩, _⟩ := hF
      exact ⟨⟨h, (setAt_far v x hne).trans e, fiT_has (by decide) hG hT⟩, hI⟩
    · obtain ⟨⟨h, e, hG⟩, _⟩ := hF
      exact ⟨⟨h, (setAt_far v x hne).trans e, fiT_has (by decide) hG hT⟩, hI⟩
    · obtain ⟨⟨h, e, hG⟩, _⟩ := hF
      exact ⟨⟨h, (setAt_far v x hne).trans e, fiT_has (by decide) hG hT⟩, hI⟩
    · obtain ⟨⟨A, n, c, e, hS, h1, h2⟩, _⟩ := hF
      exact ⟨⟨A, n, c, (setAt_far v x hne).trans e, fiT_slA hS hT, h1, h2⟩, hI⟩
    · obtain ⟨⟨en, s, r, y, e⟩, _⟩ := hF
      exact ⟨⟨en, s, r, y, (setAt_far v x hne).trans e⟩, hI⟩
    · obtain ⟨⟨en, s, r, y, e⟩, _⟩ := hF
      exact ⟨⟨en, s, r, y, (setAt_far v x hne).trans e⟩, hI⟩
    · obtain ⟨⟨en, s, r, y, e⟩, _⟩ := hF
      exact ⟨⟨en, s, r, y, (setAt_far v x hne).trans e⟩, hI⟩
    · exact ⟨(setAt_far v x hne).trans hF.1, hI⟩
    · exact ⟨fiB_keep (setAt_far v x hne) hF.1 hT, hI⟩
    · by_cases hj : j' = 8
      · subst hj; exact absurd hw (by decide +kernel)
      · exact ⟨fiD_keep (Ne.symm hne) (setAt_far v x (Ne.symm hj)) hF.1 hT, hI⟩
    · exact ⟨(setAt_far v x hne).trans hF.1, hI⟩
  · intro i' j' _ hj' _ _ v w' w'' h hT
    exact fiT_below h hT
  intro v2 wF hE
  have f10 : v2 10 = .int .i64 (((readN moreF).er : Nat) : Int) := (hE 10 (by decide)).1
  obtain ⟨⟨g2, f8, _⟩, hb2⟩ := hE 9 (by decide)
  clear hE
  simp only [putAll, Act.put, List.setIfInBounds_toArray, List.set_cons_zero, List.set_cons_succ, Nat.zero_add, Nat.reduceAdd]
  rw [f8, f10, more_er]
  clear f8 f10
  replace hb := below_trans hb hb2
  replace hG1 := hG1.after hb2
  have hk := many_read N M hN hM
  generalize readN (manyF N M) = R at *
  obtain ⟨hr1, hy1⟩ := hz1
  obtain ⟨As, ns, cs, rfl⟩ := s1.out
  obtain ⟨Ar, nr, cr, rfl⟩ := r1.out
  obtain ⟨Ay, ny, cy, rfl⟩ := y1.out
  replace hr1 : nr = R.rl.length := hr1
  replace hy1 : ny = R.sy.length := hy1
  have c2 : wF.cell? ⟨g1, 2, none⟩ = some (.slice Ar nr cr) := hG1.cell 2
  have c3 : wF.cell? ⟨g1, 3, none⟩ = some (.slice Ay ny cy) := hG1.cell 3
  clear hG1
  rcases hk with ⟨⟨h64, m64⟩, hR0, hRy, hRr⟩ | ⟨hno, hR⟩
  · rw [hRr] at hr1
    rw [hRy] at hy1
    subst hr1 hy1
    rw [hR0]
    clear hR0 hRy hRr
    have d1 : (nr : Int) ≤ 64 := by omega
    have d2 : (ny : Int) ≤ 64 := by omega
    clear hN hN0 hM hM0 en em h64 m64
    go_wp2_with fail
    go_ret
    exact ⟨rfl, hb⟩
  · subst hR
    clear hr1 hy1 c2 c3 en em
    rw [show (((rdE 12).er : Nat) : Int) = 12 from rfl]
    by_cases h64 : N ≤ 64
    · have d2 : (N : Int) ≤ 64 := by omega
      have d1 : ¬ (M : Int) ≤ 64 := by omega
      clear hN hN0 hM hM0 hno h64
      go_wp2_with fail
      go_ret
      exact ⟨rfl, hb⟩
    · have d2 : ¬ (N : Int) ≤ 64 := by omega
      clear hN hN0 hM hM0 hno h64
      go_wp2_with fail
      go_ret
      exact ⟨rfl, hb⟩
end Go.Proofs.Ytfdoloonllhodaa
