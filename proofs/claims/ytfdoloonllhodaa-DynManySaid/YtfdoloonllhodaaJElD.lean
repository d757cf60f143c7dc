/-
Layer 8, the reference: Segments.
-/
import Derived.Test.YtfdoloonllhodaaJElC
import Derived.BigQuiet
namespace Go.Proofs.Ytfdoloonllhodaa
open Go Go.RowKit

/-- what may happen beside: rows of type t are written; all else stays -/
structure Kt (t : TypeId) (B : Nat) (w w' : World) : Prop where
  bel : Below B w w'
  blk : ∀ (b : Nat) (cs : Array Value) (t' : TypeId) (fr : Nat × Nat), w.heap[b]? = some (Obj.cells cs t' fr) → t' ≠ t → w'.heap[b]? = some (Obj.cells cs t' fr)
section
variable {t : TypeId} {B : Nat} {w w' w'' : World}
theorem Kt.refl (t : TypeId) (B : Nat) (w : World) : Kt t B w w := ⟨Below.refl _ _, fun _ _ _ _ h _ => h⟩
theorem Kt.trans (h : Kt t B w w') (k : Kt t B w' w'') : Kt t B w w'' := ⟨h.bel.trans k.bel, fun b cs t' fr hb ht => k.blk b cs t' fr (h.blk b cs t' fr hb ht) ht⟩
theorem Kt.of (h : Below w.heap.size w w') (hB : B ≤ w.heap.size) : Kt t B w w' := ⟨h.mono hB, fun b _ _ _ hb _ => (h.block b (Array.getElem?_eq_some_iff.1 hb).1).trans hb⟩
theorem Kt.has {g : Nat} {t' : TypeId} {cs : Array Value} (h : Kt t B w w') (hG : Has w g t' cs) (ht : t' ≠ t) : Has w' g t' cs := h.blk g cs t' (0, 0) hG ht
theorem Kt.own {base size n : Nat} {t' : TypeId} {v : Value} {xs : List Value} (h : Kt t B w w') (ho : w.ownsRow base t' size v n xs) (ht : t' ≠ t) : w'.ownsRow base t' size v n xs := by
  refine ⟨ho.1, ?_⟩
  rcases ho.2 with h1 | ⟨g, cap, cur, h1, hb, hg, h3⟩
  · exact .inl h1
  · exact .inr ⟨g, cap, cur, h1, hb, h.blk g cur t' (0, 0) hg ht, h3⟩
end
theorem own_kt {w w' : World} {B base n k : Nat} {t : TypeId} {v : Value} {xs : List Value} (h : w.ownsRow base t k v n xs) (hB : B ≤ base) (hw : B ≤ w.heap.size) (kk : w.grownBy w' v.ownBlock) : Kt t B w w' := by
  refine ⟨below_own (Below.refl _ _) h hB hw kk, fun b cs t' fr hb ht => (kk.block b (Array.getElem?_eq_some_iff.1 hb).1 (fun e => ?_)).trans hb⟩
  rcases h.2 with ⟨rfl, _⟩ | ⟨g, cap, cur, rfl, hgb, hg, _⟩
  · cases e
  · have : b = g := by simpa [Value.ownBlock] using e
    subst this
    rw [hb] at hg
    injection hg with hg
    injection hg with _ e2 _
    exact ht e2
def sgP (q : Sg × Sl) : Nat → Value := sgR q.1 q.2
def sq0 : Sg × Sl := (sg0, ⟨none, 0, 0⟩)
theorem sgP_one (q : Sg × Sl) (j : Nat) : (sgP q j).oneCell' = true := sgR_one _ _ _
/-- what Segments keeps: the row of segments, that of Dynamic headers; the bytes lie in the file -/
structure SgO (w0 : World) (v9 v10 : Value) (ss : List (Sg × Sl)) (ds : List Hd) (w : World) : Prop where
  seg : w.ownsRow w0.heap.size 66 4 v9 ss.length (cellsL 4 sgP ss)
  dyn : w.ownsRow w0.heap.size 50 6 v10 ds.length (cellsL 6 hdR ds)
  bel : Below w0.heap.size w0 w
  by' : ∀ q ∈ ss, SlY w0 q.2 q.1.b ∧ (q.2.A = none → q.2.c = 0) ∧ q.2.c < 9223372036854775808
section
variable {w0 w w' : World} {v9 v10 v : Value} {ss : List (Sg × Sl)} {ds : List Hd}
theorem SgO.after (h : SgO w0 v9 v10 ss ds w) (k : Below w.heap.size w w') : SgO w0 v9 v10 ss ds w' := ⟨own_after h.seg k, own_after h.dyn k, h.bel.trans (k.mono h.bel.size), h.by'⟩
theorem SgO.kt {t : TypeId} (h : SgO w0 v9 v10 ss ds w) (k : Kt t w0.heap.size w w') (h1 : 66 ≠ t) (h2 : 50 ≠ t) : SgO w0 v9 v10 ss ds w' := ⟨k.own h.seg h1, k.own h.dyn h2, h.bel.trans k.bel, h.by'⟩
theorem SgO.pushD {hd : Hd} (h : SgO w0 v9 v10 ss ds w) (ho : w'.ownsRow w0.heap.size 50 6 v (ds.length + 1) (cellsL 6 hdR (ds ++ [hd]))) (k : w.grownBy w' v10.ownBlock) : SgO w0 v9 v ss (ds ++ [hd]) w' := by
  have kt := own_kt h.dyn (Nat.le_refl _) h.bel.size k
  exact ⟨kt.own h.seg (by decide), by rw [List.length_append]; exact ho, h.bel.trans kt.bel, h.by'⟩
theorem SgO.pushS {q : Sg × Sl} (h : SgO w0 v9 v10 ss ds w) (k : Kt 66 w0.heap.size w w') (ho : w'.ownsRow w0.heap.size 66 4 v (ss.length + 1) (cellsL 4 sgP (ss ++ [q]))) (hy : SlY w0 q.2 q.1.b ∧ (q.2.A = none → q.2.c = 0) ∧ q.2.c < 9223372036854775808) : SgO w0 v v10 (ss ++ [q]) ds w' := by
  refine ⟨by rw [List.length_append]; exact ho, k.own h.dyn (by decide), h.bel.trans k.bel, fun x hx => ?_⟩
  rcases List.mem_append.1 hx with hx | hx
  · exact h.by' x hx
  · rw [List.mem_singleton.1 hx]; exact hy
theorem SgO.slT {A : Option Addr} {n c : Nat} (h : SgO w0 (.slice A n c) v10 ss ds w) (hn : ss.length ≤ 10) : SlT w ⟨A, n, c⟩ (ss.map (·.1)) ∧ ss.length = n := by
  have e := own_n h.seg
  have h2 := h.seg
  rw [← e] at h2
  obtain ⟨h3, h4⟩ := own_slC h2 (by decide) (by omega) sq0
  have hg : ∀ j, j < n → (ss.map (·.1)).getD j sg0 = (ss.getD j sq0).1 := fun j hj => by
    simp [List.getD_eq_getElem?_getD, show j < ss.length by omega]
  refine ⟨⟨by rw [List.length_map]; exact h3, fun j => (ss.getD j sq0).2, h4.ext (fun j i hj _ => by rw [hg j hj]; rfl), fun j hj => ?_⟩, h3⟩
  replace hj : j < n := hj
  rw [hg j hj]
  have hm : ss.getD j sq0 ∈ ss := by rw [List.getD_eq_getElem?_getD, List.getElem?_eq_getElem (by omega)]; exact List.getElem_mem _
  exact ⟨SlA.below (h.by' _ hm).1 h.bel, (h.by' _ hm).2⟩
theorem SgO.slJ {A : Option Addr} {n c : Nat} (h : SgO w0 v9 (.slice A n c) ss ds w) (hn : ds.length ≤ 10) : SlJ w ⟨A, n, c⟩ ds := by
  have e := own_n h.dyn
  have h2 := h.dyn
  rw [← e] at h2
  exact own_slC h2 (by decide) (by omega) hd0
end
/-- a part of the file -/
theorem sub_mid {w : World} {b o n c a f : Nat} {bs : List UInt8} (h : SlA w (some ⟨b, o, none⟩) n c bs) (haf : a + f ≤ n) : SlA w (some (midO ⟨b, o, none⟩ c a)) f (c - a) ((bs.drop a).take f) := by
  have hl := h.1
  have hc := h.2.1
  rcases Nat.eq_zero_or_pos f with rfl | hf
  · exact ⟨by simp, by omega, fun h0 => absurd h0 (Nat.lt_irrefl _)⟩
  · have e : midO ⟨b, o, none⟩ c a = ⟨b, o + a, none⟩ := by unfold midO; rw [if_neg (by omega), Addr.add_mid]
    rw [e]
    have := h.sub (i := a) (j := a + f) (by omega) haf
    rwa [show a + f - a = f by omega] at this
theorem at_hr' (b o n c j : Nat) (hj : (j : Int) < (n : Int)) (w : World) : (Instr.indexAt 51 (.slice (some ⟨b, o, none⟩) n c) (.int .i64 (j : Int))).run Try.prog w = .ok (.pointer (some ⟨b, o + j * 6, none⟩)) w := by
  have h2 := Addr.add_mid b o (j * 6)
  go_simp
theorem at_sr' (b o n c j : Nat) (hj : (j : Int) < (n : Int)) (w : World) : (Instr.indexAt 54 (.slice (some ⟨b, o, none⟩) n c) (.int .i64 (j : Int))).run Try.prog w = .ok (.pointer (some ⟨b, o + j * 4, none⟩)) w := by
  have h2 := Addr.add_mid b o (j * 4)
  go_simp
theorem x13_ways (m m4 d4 d r ns : Nat) :
    (((((m : Int) == 0) = true)) ∧ (¬ (¬ (m = 0 ∨ m4 ≠ 0 ∨ d4 ≠ 0 ∨ 4294967292 < d + m ∨ r = 0 ∨ 6 ≤ r ∨ ns = 4)))) ∨
    (((((m : Int) == 0) = false)) ∧ ((((m4 : Int) != 0) = true)) ∧ (¬ (¬ (m = 0 ∨ m4 ≠ 0 ∨ d4 ≠ 0 ∨ 4294967292 < d + m ∨ r = 0 ∨ 6 ≤ r ∨ ns = 4)))) ∨
    (((((m : Int) == 0) = false)) ∧ ((((m4 : Int) != 0) = false)) ∧ ((((d4 : Int) != 0) = true)) ∧ (¬ (¬ (m = 0 ∨ m4 ≠ 0 ∨ d4 ≠ 0 ∨ 4294967292 < d + m ∨ r = 0 ∨ 6 ≤ r ∨ ns = 4)))) ∨
    (((((m : Int) == 0) = false)) ∧ ((((m4 : Int) != 0) = false)) ∧ ((((d4 : Int) != 0) = false)) ∧ (4294967292 < (d : Int) + (m : Int)) ∧ (¬ (¬ (m = 0 ∨ m4 ≠ 0 ∨ d4 ≠ 0 ∨ 4294967292 < d + m ∨ r = 0 ∨ 6 ≤ r ∨ ns = 4)))) ∨
    (((((m : Int) == 0) = false)) ∧ ((((m4 : Int) != 0) = false)) ∧ ((((d4 : Int) != 0) = false)) ∧ ((d : Int) + (m : Int) ≤ 4294967292) ∧ ((((r : Int) == 0) = true)) ∧ (¬ (¬ (m = 0 ∨ m4 ≠ 0 ∨ d4 ≠ 0 ∨ 4294967292 < d + m ∨ r = 0 ∨ 6 ≤ r ∨ ns = 4)))) ∨
    (((((m : Int) == 0) = false)) ∧ ((((m4 : Int) != 0) = false)) ∧ ((((d4 : Int) != 0) = false)) ∧ ((d : Int) + (m : Int) ≤ 4294967292) ∧ ((((r : Int) == 0) = false)) ∧ (6 ≤ (r : Int)) ∧ (¬ (¬ (m = 0 ∨ m4 ≠ 0 ∨ d4 ≠ 0 ∨ 4294967292 < d + m ∨ r = 0 ∨ 6 ≤ r ∨ ns = 4)))) ∨
    (((((m : Int) == 0) = false)) ∧ ((((m4 : Int) != 0) = false)) ∧ ((((d4 : Int) != 0) = false)) ∧ ((d : Int) + (m : Int) ≤ 4294967292) ∧ ((((r : Int) == 0) = false)) ∧ ((r : Int) < 6) ∧ ((((ns : Int) == 4) = true)) ∧ (¬ (¬ (m = 0 ∨ m4 ≠ 0 ∨ d4 ≠ 0 ∨ 4294967292 < d + m ∨ r = 0 ∨ 6 ≤ r ∨ ns = 4)))) ∨
    (((((m : Int) == 0) = false)) ∧ ((((m4 : Int) != 0) = false)) ∧ ((((d4 : Int) != 0) = false)) ∧ ((d : Int) + (m : Int) ≤ 4294967292) ∧ ((((r : Int) == 0) = false)) ∧ ((r : Int) < 6) ∧ ((((ns : Int) == 4) = false)) ∧ (¬ (m = 0 ∨ m4 ≠ 0 ∨ d4 ≠ 0 ∨ 4294967292 < d + m ∨ r = 0 ∨ 6 ≤ r ∨ ns = 4))) := by
  by_cases h0 : m = 0
  · exact (.inl ⟨by simp only [beq_iff_eq]; omega, (by omega)⟩)
  by_cases h1 : ¬ m4 = 0
  · exact (.inr (.inl ⟨by simp only [beq_eq_false_iff_ne, ne_eq]; omega, by simp only [bne_iff_ne, ne_eq]; omega, (by omega)⟩))
  by_cases h2 : ¬ d4 = 0
  · exact (.inr (.inr (.inl ⟨by simp only [beq_eq_false_iff_ne, ne_eq]; omega, by simp only [bne_eq_false_iff_eq]; omega, by simp only [bne_iff_ne, ne_eq]; omega, (by omega)⟩)))
  by_cases h3 : 4294967292 < d + m
  · exact (.inr (.inr (.inr (.inl ⟨by simp only [beq_eq_false_iff_ne, ne_eq]; omega, by simp only [bne_eq_false_iff_eq]; omega, by simp only [bne_eq_false_iff_eq]; omega, by omega, (by omega)⟩))))
  by_cases h4 : r = 0
  · exact (.inr (.inr (.inr (.inr (.inl ⟨by simp only [beq_eq_false_iff_ne, ne_eq]; omega, by simp only [bne_eq_false_iff_eq]; omega, by simp only [bne_eq_false_iff_eq]; omega, by omega, by simp only [beq_iff_eq]; omega, (by omega)⟩)))))
  by_cases h5 : 6 ≤ r
  · exact (.inr (.inr (.inr (.inr (.inr (.inl ⟨by simp only [beq_eq_false_iff_ne, ne_eq]; omega, by simp only [bne_eq_false_iff_eq]; omega, by simp only [bne_eq_false_iff_eq]; omega, by omega, by simp only [beq_eq_false_iff_ne, ne_eq]; omega, by omega, (by omega)⟩))))))
  by_cases h6 : ns = 4
  · exact (.inr (.inr (.inr (.inr (.inr (.inr (.inl ⟨by simp only [beq_eq_false_iff_ne, ne_eq]; omega, by simp only [bne_eq_false_iff_eq]; omega, by simp only [bne_eq_false_iff_eq]; omega, by omega, by simp only [beq_eq_false_iff_ne, ne_eq]; omega, by omega, by simp only [beq_iff_eq]; omega, (by omega)⟩)))))))
  exact (.inr (.inr (.inr (.inr (.inr (.inr (.inr ⟨by simp only [beq_eq_false_iff_ne, ne_eq]; omega, by simp only [bne_eq_false_iff_eq]; omega, by simp only [bne_eq_false_iff_eq]; omega, by omega, by simp only [beq_eq_false_iff_ne, ne_eq]; omega, by omega, by simp only [beq_eq_false_iff_ne, ne_eq]; omega, (by omega)⟩)))))))
theorem x18_ways (r e4 en d m : Nat) :
    (((r : Int) < 4) ∧ (¬ (4 ≤ r ∧ e4 = 0 ∧ d ≤ en ∧ en + 4 ≤ d + m))) ∨
    ((4 ≤ (r : Int)) ∧ ((((e4 : Int) == 0) = false)) ∧ (¬ (4 ≤ r ∧ e4 = 0 ∧ d ≤ en ∧ en + 4 ≤ d + m))) ∨
    ((4 ≤ (r : Int)) ∧ ((((e4 : Int) == 0) = true)) ∧ ((en : Int) < (d : Int)) ∧ (¬ (4 ≤ r ∧ e4 = 0 ∧ d ≤ en ∧ en + 4 ≤ d + m))) ∨
    ((4 ≤ (r : Int)) ∧ ((((e4 : Int) == 0) = true)) ∧ ((d : Int) ≤ (en : Int)) ∧ ((d : Int) + (m : Int) < (en : Int) + 4) ∧ (¬ (4 ≤ r ∧ e4 = 0 ∧ d ≤ en ∧ en + 4 ≤ d + m))) ∨
    ((4 ≤ (r : Int)) ∧ ((((e4 : Int) == 0) = true)) ∧ ((d : Int) ≤ (en : Int)) ∧ ((en : Int) + 4 ≤ (d : Int) + (m : Int)) ∧ (4 ≤ r ∧ e4 = 0 ∧ d ≤ en ∧ en + 4 ≤ d + m)) := by
  by_cases h0 : r < 4
  · exact (.inl ⟨by omega, (by omega)⟩)
  by_cases h1 : ¬ e4 = 0
  · exact (.inr (.inl ⟨by omega, by simp only [beq_eq_false_iff_ne, ne_eq]; omega, (by omega)⟩))
  by_cases h2 : en < d
  · exact (.inr (.inr (.inl ⟨by omega, by simp only [beq_iff_eq]; omega, by omega, (by omega)⟩)))
  by_cases h3 : d + m < en + 4
  · exact (.inr (.inr (.inr (.inl ⟨by omega, by simp only [beq_iff_eq]; omega, by omega, by omega, (by omega)⟩))))
  exact (.inr (.inr (.inr (.inr ⟨by omega, by simp only [beq_iff_eq]; omega, by omega, by omega, (by omega)⟩))))
theorem segX_ne {h : Hd} {ns e : Nat} (h2 : ¬ (h.m = 0 ∨ h.m % 4 ≠ 0 ∨ h.d % 4 ≠ 0 ∨ 4294967292 < h.d + h.m ∨ h.r = 0 ∨ 6 ≤ h.r ∨ ns = 4)) : segX h ns e = decide (h.d < e) := by
  unfold segX
  by_cases h3 : h.d < e
  · rw [decide_eq_true h3]; exact decide_eq_true (by omega)
  · rw [decide_eq_false h3]; exact decide_eq_false (by omega)
theorem segGo_dyn {bs : List UInt8} {en : Nat} {h : Hd} {hs : List Hd} {ss : List Sg} {ds : List Hd} {e : Nat} {a : Bool} (hk : h.k = 2) : segGo bs en (h :: hs) ss ds e a = segGo bs en hs ss (ds ++ [h]) e a := by
  show (if h.k = 2 then _ else _) = _
  rw [if_pos hk]
theorem segGo_bad {bs : List UInt8} {en : Nat} {h : Hd} {hs : List Hd} {ss : List Sg} {ds : List Hd} {e : Nat} {a : Bool} (hk : h.k ≠ 2) (hx : segX h ss.length e = true) : segGo bs en (h :: hs) ss ds e a = none := by
  show (if h.k = 2 then _ else if _ then _ else _) = _
  rw [if_neg hk, if_pos hx]
theorem segGo_seg {bs : List UInt8} {en : Nat} {h : Hd} {hs : List Hd} {ss : List Sg} {ds : List Hd} {e : Nat} {a : Bool} (hk : h.k ≠ 2) (hx : segX h ss.length e = false) :
    segGo bs en (h :: hs) ss ds e a = segGo bs en hs (ss ++ [⟨h.d, h.m, h.r, (bs.drop h.a).take h.f⟩]) ds (h.d + h.m) (a || entB en h) := by
  show (if h.k = 2 then _ else if _ then _ else _) = _
  rw [if_neg hk, if_neg (by rw [hx]; decide)]
theorem slT_nil (w : World) : SlT w ⟨none, 0, 0⟩ [] := ⟨rfl, fun _ => ⟨none, 0, 0⟩, ⟨⟨Nat.le_refl _, Nat.zero_le _⟩, fun h => absurd h (Nat.lt_irrefl _)⟩, fun _j h => absurd h (Nat.not_lt_zero _)⟩
theorem segs_bad_ret {bs : List UInt8} {e : Nat} (h : segsN bs = (0, [], [], e)) {w ww : World} {x : Int} (hx : x = (e : Int)) (hb : Below w.heap.size w ww) :
    (∃ s t, Ending.returned (.tuple #[.int .i64 0, .slice none 0 0, .slice none 0 0, .int .i64 x]) = .returned (.tuple #[.int .i64 (((segsN bs).1 : Nat) : Int), Sl.v s, Sl.v t, .int .i64 (((segsN bs).2.2.2 : Nat) : Int)]) ∧ SlT ww s (segsN bs).2.1 ∧ SlJ ww t (segsN bs).2.2.1) ∧ Below w.heap.size w ww := by
  rw [h, hx]; exact ⟨⟨⟨none, 0, 0⟩, ⟨none, 0, 0⟩, rfl, slT_nil _, slJ_nil _⟩, hb⟩
theorem results_tmp4 {fn : Func} {t u v x : Tmp} (h : fn.results = #[.tmp t, .tmp u, .tmp v, .tmp x]) (tmps : Array Value) (P : Program) (w : World) :
    (results fn tmps).run P w = .ok (.tuple #[tmps.getD t undef, tmps.getD u undef, tmps.getD v undef, tmps.getD x undef]) w := by
  simp [results, h]
/-- the loop's state -/
def SgL (bs : List UInt8) (en : Nat) (hs : List Hd) (i : Nat) (ss : List (Sg × Sl)) (ds : List Hd) (e : Nat) (a : Bool) : Prop :=
  segGo bs en (hs.drop i) (ss.map (·.1)) ds e a = segGo bs en hs [] [] 0 false ∧ ss.length ≤ i ∧ ds.length ≤ i ∧ (ss = [] → e = 0) ∧ ∀ ss' q, ss = ss' ++ [q] → e = q.1.d + q.1.z ∧ q.1.d < 4294967296 ∧ q.1.z < 4294967296
theorem segs_none {bs : List UInt8} (h0 : (headsN bs).2.2 = 0) (h : segGo bs (headsN bs).1 (headsN bs).2.1 [] [] 0 false = none) : segsN bs = (0, [], [], 9) := by
  unfold segsN; rw [if_pos h0, h]; rfl
theorem segs_end {bs : List UInt8} {ss : List Sg} {ds : List Hd} {a : Bool} (h0 : (headsN bs).2.2 = 0) (h : segGo bs (headsN bs).1 (headsN bs).2.1 [] [] 0 false = some (ss, ds, a)) : segsN bs = if 1 < ds.length ∨ a = false then (0, [], [], 9) else ((headsN bs).1, ss, ds, 0) := by
  unfold segsN; rw [if_pos h0, h]; rfl
set_option maxRecDepth 100000 in
set_option maxHeartbeats 4000000 in
theorem rsegs_any (bs : List UInt8) (A : Option Addr) (n c : Nat) (w : World) (hS : SlA w A n c bs) (hA : A = none → c = 0) (hc63 : c < 9223372036854775808) :
    Calls Try.prog 20 #[.slice A n c] w fun e w' => (∃ s t, e = .returned (.tuple #[.int .i64 (((segsN bs).1 : Nat) : Int), Sl.v s, Sl.v t, .int .i64 (((segsN bs).2.2.2 : Nat) : Int)]) ∧ SlT w' s (segsN bs).2.1 ∧ SlJ w' t (segsN bs).2.2.1) ∧ Below w.heap.size w w' := by
  have hl : bs.length = n := hS.1
  have k1 := rheads_any bs A n c w hS hA hc63
  have hwfH := fun h hh => heads_wf (bs := bs) (h := h) hh
  have hinH := fun h hh => heads_in (bs := bs) (h := h) hh
  have hlenH := heads_len bs
  obtain ⟨en, hen⟩ : ∃ x, x = (headsN bs).1 := ⟨_, rfl⟩
  obtain ⟨hs, hhs⟩ : ∃ x, x = (headsN bs).2.1 := ⟨_, rfl⟩
  obtain ⟨er, her⟩ : ∃ x, x = (headsN bs).2.2 := ⟨_, rfl⟩
  rw [← hen, ← hhs, ← her] at k1 hlenH
  rw [← hhs] at hwfH hinH
  have HWF := Lib.hid hwfH
  have HIN := Lib.hid hinH
  have HE : Hid (en = (headsN bs).1 ∧ hs = (headsN bs).2.1 ∧ er = (headsN bs).2.2) := Lib.hid ⟨hen, hhs, her⟩
  obtain ⟨hm5, hen32, her8⟩ := hlenH
  have HM5 := Lib.hid hm5
  clear hen hhs her hwfH hinH hm5
  go_enter Try.func20, Try.ntmps20
  go_wp2_with fail
  refine k1.mono ?_
  rintro e u ⟨⟨s, rfl, hJ⟩, hbu⟩
  obtain ⟨Ah, m, ch, rfl⟩ := s.out
  rw [show Sl.v ⟨Ah, m, ch⟩ = .slice Ah m ch from rfl]
  clear k1
  by_cases her0 : er = 0
  · have hz : ((er : Int) != 0) = false := by simp [her0]
    have HER : Hid ((headsN bs).2.2 = 0) := Lib.hid (by rw [← HE.out.2.2]; exact her0)
    have hSu : SlA u A n c bs := hS.below hbu
    have hJl : hs.length = m := hJ.1
    have HJ := Lib.hid hJ.2
    have HSU := Lib.hid hSu
    have HBU := Lib.hid hbu
    have HJL := Lib.hid hJl
    have hm5 : m ≤ 5 := by have := HM5.out; omega
    clear her0 hS hSu hJ hbu hJl
    go_wp2_with fail
    go_loopw [9, 10, 11, 12] (fun v9 v10 va ct wr => ∃ (i : Nat) (ss : List (Sg × Sl)) (ds : List Hd) (e : Nat) (a : Bool), i ≤ m ∧ ct = .int .i64 (i : Int) ∧ va = .bool a ∧ SgO u v9 v10 ss ds wr ∧ SgL bs en hs i ss ds e a) (fun _ _ _ ct _ => (m - (intOf ct)).toNat)
    case atStart => exact ⟨0, [], [], 0, false, Nat.zero_le _, rfl, rfl, ⟨World.ownsRow_nil _ _ _ _, World.ownsRow_nil _ _ _ _, Below.refl _ _, fun _ h => by cases h⟩, rfl, Nat.le_refl _, Nat.le_refl _, fun _ => rfl, fun ss' q h => by cases ss' <;> cases h⟩
    case round =>
      obtain ⟨i, ss, ds, e, a, hi, rfl, rfl, hO, hL⟩ := hrel
      by_cases hlt : i < m
      · have di : (i : Int) < (m : Int) := by omega
        have hJ := HJ.out.below hO.bel
        obtain ⟨b, o, hA2, hbl, _⟩ := HJ.out.2 (by show 0 < m; omega)
        replace hA2 : Ah = some ⟨b, o, none⟩ := hA2
        subst hA2
        have hr := hJ.range rfl (j := i) hlt
        have ha1 := fun w => at_hr' b o m ch i di w
        have hmem : hs.getD i hd0 ∈ hs := by rw [List.getD_eq_getElem?_getD, List.getElem?_eq_getElem (by rw [HJL.out]; exact hlt)]; exact List.getElem_mem _
        have hwf := HWF.out _ hmem
        have hin := HIN.out _ hmem
        have hdc := drop_cons hs hd0 i (by rw [HJL.out]; exact hlt)
        have hL1 := hL.1
        rw [hdc] at hL1
        change wr.rangeAt b (o + i * 6) ((List.range 6).map (hdR (hs.getD i hd0))) at hr
        generalize hs.getD i hd0 = hd at *
        have HL := Lib.hid hL
        have HL1 := Lib.hid hL1
        have HIN2 := Lib.hid hin
        have hk1 := hwf.k
        have ha4 := hwf.a
        have hd4 := hwf.d
        have hf4 := hwf.f
        have hm4 := hwf.m
        have hr7 := hwf.r
        have hss := hL.2.1
        have hO' := Lib.hid hO
        clear hL hL1 hin hwf hmem hdc hJ hbl hO
        by_cases hk2 : hd.k = 2
        · have hkb : ((hd.k : Int) == 2) = true := by simp [hk2]
          have HK := Lib.hid hk2
          clear hk2
          go_wp2_with (first
            | (refine wp_load_hr rfl _ rfl b (o + i * 6) rfl _ hr ?_)
            | (refine wp_fresh 50 6 _ _ _ _ rfl rfl rfl rfl zeroHR infoHR6 (by omega) (hdR_one _) rfl rfl ?_
               intro w1 hG hb1 hz1
               have hc0 : w1.cell? ⟨_, 0, none⟩ = some (.int .i64 (hd.k : Int)) := hG.cellTab 0 (by omega)
               have hO1 := hO'.out.after hb1
               have hd1 := hO1.dyn
               have hws1 := hO1.bel.size
               have HO1 := Lib.hid hO1
               clear hO1)
            | (refine wpList_load_has 50 _ rfl _ rfl rfl 50 _ hG _ Try.underlying50 rfl (by rw [tab_size]; exact infoHR6) ?_)
            | (refine wp_build_el Try.underlying51 infoHR (by decide) (by decide) rfl _ rfl hd rfl ?_
               intro w6 hw6
               have hb6 : Below w1.heap.size w1 w6 := by subst hw6; exact (Below.refl _ _).alloc (Nat.le_refl _) _
               have hH6 : Has w6 w1.heap.size 50 (tab 6 (hdR hd)) := by subst hw6; exact Has.new _ _ _
               have hown6 := own_after hd1 hb6
               have hws6 := Nat.le_trans hws1 hb6.size
               clear hw6)
            | (refine wp_append_el Try.underlying51 infoHR rfl (by decide) (by decide) hdR_one rfl _ _ rfl u.heap.size _ ds.length ds rfl hown6 w1.heap.size rfl hd hH6 (by have := HL.out.2.2.1; have := HM5.out; have := HJL.out; omega) hws6 ?_
               intro v7 w7 hown7 hgr7))
          go_roundw
          case rel =>
            have hL := HL.out
            exact ⟨i + 1, ss, ds ++ [hd], e, a, hlt, by go_num, rfl, (HO1.out.after hb6).pushD hown7 hgr7, by rw [← segGo_dyn HK.out]; exact HL1.out, by have := hL.2.1; omega, by rw [List.length_append]; have := hL.2.2.1; show ds.length + 1 ≤ _; omega, hL.2.2.2⟩
          case measure => simp [intOf] <;> omega
        · have hkb : ((hd.k : Int) == 2) = false := by simp; omega
          have HK := Lib.hid hk2
          clear hk2
          obtain ⟨m4, hm4'⟩ : ∃ x, x = hd.m % 4 := ⟨_, rfl⟩
          obtain ⟨d4, hd4'⟩ : ∃ x, x = hd.d % 4 := ⟨_, rfl⟩
          have t1 : (hd.m : Int).tmod 4 = (m4 : Int) := by rw [Int.tmod_eq_emod_of_nonneg (by omega)]; omega
          have t2 : (hd.d : Int).tmod 4 = (d4 : Int) := by rw [Int.tmod_eq_emod_of_nonneg (by omega)]; omega
          have HM4 : Hid (m4 = hd.m % 4 ∧ d4 = hd.d % 4) := Lib.hid ⟨hm4', hd4'⟩
          have l4 : m4 < 4 ∧ d4 < 4 := by omega
          obtain ⟨l4m, l4d⟩ := l4
          obtain ⟨A9, c9, rfl⟩ := own_form hO'.out.seg
          have hsn : ss.length ≤ 5 := by omega
          clear hm4' hd4'
          go_upto_region 13 with (first
            | (refine wp_load_hr rfl _ rfl b (o + i * 6) rfl _ hr ?_)
            | (refine wp_fresh 50 6 _ _ _ _ rfl rfl rfl rfl zeroHR infoHR6 (by omega) (hdR_one _) rfl rfl ?_
               intro w1 hG hb1 hz1
               have hc0 : w1.cell? ⟨_, 0, none⟩ = some (.int .i64 (hd.k : Int)) := hG.cellTab 0 (by omega)
               have hc1 : w1.cell? ⟨_, 1, none⟩ = some (.int .i64 (hd.a : Int)) := hG.cellTab 1 (by omega)
               have hc2 : w1.cell? ⟨_, 2, none⟩ = some (.int .i64 (hd.d : Int)) := hG.cellTab 2 (by omega)
               have hc3 : w1.cell? ⟨_, 3, none⟩ = some (.int .i64 (hd.f : Int)) := hG.cellTab 3 (by omega)
               have hc4 : w1.cell? ⟨_, 4, none⟩ = some (.int .i64 (hd.m : Int)) := hG.cellTab 4 (by omega)
               have hc5 : w1.cell? ⟨_, 5, none⟩ = some (.int .i64 (hd.r : Int)) := hG.cellTab 5 (by omega)
               have hO1 := hO'.out.after hb1
               have HO1 := Lib.hid hO1
               clear hO1))
          have HG := Lib.hid hG
          have hggB : u.heap.size ≤ wr.heap.size := hO'.out.bel.size
          clear hG hr ha1 hb1 hO' hc0 hz1
          generalize wr.heap.size = gg at *
          obtain ⟨ns, hns⟩ : ∃ x, x = ss.length := ⟨_, rfl⟩
          rw [← hns] at HO1 hsn hss ⊢
          have HNS := Lib.hid hns
          clear hns
          go_cut [77] (fun t wx => ∃ b1 : Bool, t = .bool b1 ∧ w1 = wx ∧ (b1 = true → segX hd ns e = true) ∧ (b1 = false → segX hd ns e = decide (hd.d < e)))
          case first =>
            rcases x13_ways hd.m m4 d4 hd.d hd.r ns with ⟨f0, fg⟩ | ⟨f0, f1, fg⟩ | ⟨f0, f1, f2, fg⟩ | ⟨f0, f1, f2, f3, fg⟩ | ⟨f0, f1, f2, f3, f4, fg⟩ | ⟨f0, f1, f2, f3, f4, f5, fg⟩ | ⟨f0, f1, f2, f3, f4, f5, f6, fg⟩ | ⟨f0, f1, f2, f3, f4, f5, f6, fg⟩
            · have FG := Lib.hid fg
              clear fg
              go_wp2_with fail
              go_meet
              exact ⟨true, rfl, rfl, fun _ => by have h1 := FG.out; have h2 := HM4.out; exact decide_eq_true (by omega), fun h => by cases h⟩
            · have FG := Lib.hid fg
              clear fg
              go_wp2_with fail
              go_meet
              exact ⟨true, rfl, rfl, fun _ => by have h1 := FG.out; have h2 := HM4.out; exact decide_eq_true (by omega), fun h => by cases h⟩
            · have FG := Lib.hid fg
              clear fg
              go_wp2_with fail
              go_meet
              exact ⟨true, rfl, rfl, fun _ => by have h1 := FG.out; have h2 := HM4.out; exact decide_eq_true (by omega), fun h => by cases h⟩
            · have FG := Lib.hid fg
              clear fg
              go_wp2_with fail
              go_meet
              exact ⟨true, rfl, rfl, fun _ => by have h1 := FG.out; have h2 := HM4.out; exact decide_eq_true (by omega), fun h => by cases h⟩
            · have FG := Lib.hid fg
              clear fg
              go_wp2_with fail
              go_meet
              exact ⟨true, rfl, rfl, fun _ => by have h1 := FG.out; have h2 := HM4.out; exact decide_eq_true (by omega), fun h => by cases h⟩
            · have FG := Lib.hid fg
              clear fg
              go_wp2_with fail
              go_meet
              exact ⟨true, rfl, rfl, fun _ => by have h1 := FG.out; have h2 := HM4.out; exact decide_eq_true (by omega), fun h => by cases h⟩
            · have FG := Lib.hid fg
              clear fg
              go_wp2_with fail
              go_meet
              exact ⟨true, rfl, rfl, fun _ => by have h1 := FG.out; have h2 := HM4.out; exact decide_eq_true (by omega), fun h => by cases h⟩
            · have FG := Lib.hid fg
              clear fg
              go_wp2_with fail
              go_meet
              exact ⟨_, rfl, rfl, (fun h => by have h1 := FG.out; simp only [Bool.or_eq_true, decide_eq_true_eq] at h; omega), fun _ => segX_ne (by have h1 := FG.out; have h2 := HM4.out; omega)⟩
          case rest =>
            obtain ⟨b1, rfl, rfl, hb1t, hb1f⟩ := hcut
            have HBAD : Hid (segX hd ns e = true → segsN bs = (0, [], [], 9)) := Lib.hid fun hx => segs_none HER.out (by
              rw [← HE.out.1, ← HE.out.2.1]
              exact HL1.out.symm.trans (segGo_bad HK.out (by rw [List.length_map, ← HNS.out]; exact hx)))
            clear t1 t2 l4m l4d HM4
            cases b1 with
            | true =>
              have HX := Lib.hid (hb1t rfl)
              clear hb1t hb1f
              go_wp2_with fail
              refine bodyPost_ret (results_tmp4 rfl _ _ _) rfl ?_
              exact segs_bad_ret (HBAD.out HX.out) rfl (HBU.out.trans (HO1.out.bel.mono HBU.out.size))
            | false =>
              have HX := Lib.hid (hb1f rfl)
              clear hb1t hb1f hc1 hc3 hc4 hc5
              go_wp2_with fail
              go_cut [100] (fun t wx => t = .bool (decide (hd.d < e)) ∧ SgO u (.slice A9 ns c9) u10 ss ds wx ∧ Has wx gg 50 (tab 6 (hdR hd)))
              case first =>
                rcases List.eq_nil_or_concat ss with h0 | ⟨ss', q, h0⟩
                · have hn0 : (ns : Int) ≤ 0 := by rw [HNS.out, h0]; simp
                  have hnn : ¬ 0 < ns := by omega
                  have hb80 : decide (0 < (ns : Int)) = false := decide_eq_false (by omega)
                  have hb81 : decide (0 < ns) = false := decide_eq_false (by omega)
                  have he0 : e = 0 := HL.out.2.2.2.1 h0
                  have HE0 := Lib.hid he0
                  clear h0 he0
                  go_big_quiet (fail)
                  go_wp2_with fail
                  go_meet
                  exact ⟨by rw [HE0.out]; rfl, HO1.out.after (below_drewN (Below.refl _ _) _), HG.out.drewN _⟩
                · obtain ⟨he, hqd, hqz⟩ := HL.out.2.2.2.2 ss' q (by rw [h0, List.concat_eq_append])
                  obtain ⟨k, hk⟩ : ∃ k, k = ss'.length := ⟨_, rfl⟩
                  have hnk : ns = k + 1 := by rw [HNS.out, h0, hk]; simp
                  have hseg := HO1.out.seg
                  have hgq : ss.getD k sq0 = q := by rw [h0, hk]; simp
                  have HE9 := Lib.hid he
                  rcases hseg.2 with ⟨_, hz0⟩ | ⟨g9, cap9, cur9, hv9, _⟩
                  · exact absurd hz0 (by rw [← HNS.out]; omega)
                  · have e9 : A9 = some ⟨g9, 0, none⟩ := by injection hv9
                    subst e9
                    have hsc := hseg.cells (g := g9) rfl
                    have hx0 := hsc (k * 4 + 0) _ (cellsL_get 4 sgP sq0 ss k 0 (by rw [← HNS.out]; omega) (by decide))
                    have hx1 := hsc (k * 4 + 1) _ (cellsL_get 4 sgP sq0 ss k 1 (by rw [← HNS.out]; omega) (by decide))
                    rw [hgq, Addr.add_mid] at hx0 hx1
                    replace hx0 : w1.cell? ⟨g9, k * 4, none⟩ = some (.int .i64 (q.1.d : Int)) := by rw [Nat.zero_add] at hx0; exact hx0
                    replace hx1 : w1.cell? ⟨g9, k * 4 + 1, none⟩ = some (.int .i64 (q.1.z : Int)) := by rw [Nat.zero_add] at hx1; exact hx1
                    have hx3 := fun w => at_sr' g9 0 ns c9 k (by omega) w
                    simp only [Nat.zero_add] at hx3
                    have hkk : (ns : Int) - 1 = (k : Int) := by omega
                    have hb80 : 0 < (ns : Int) := by omega
                    have hnp : 0 < ns := by omega
                    have hkw : (k : Int) < 9223372036854775807 := by omega
                    clear h0 hk hnk hseg hgq hsc hv9 he
                    generalize q.1.d = qd at *
                    generalize q.1.z = qz at *
                    go_big_quiet (fail)
                    go_wp2_with fail
                    go_meet
                    exact ⟨by rw [HE9.out]; go_num, HO1.out.after (below_drewN (Below.refl _ _) _), HG.out.drewN _⟩
              case rest =>
                obtain ⟨rfl, hO2, hG2⟩ := hcut
                by_cases hde : hd.d < e
                · have hdb : decide (hd.d < e) = true := decide_eq_true hde
                  have HDE := Lib.hid hde
                  clear hde hc2
                  rw [hdb]
                  clear hdb
                  go_wp2_with fail
                  refine bodyPost_ret (results_tmp4 rfl _ _ _) rfl ?_
                  exact segs_bad_ret (HBAD.out (HX.out.trans (decide_eq_true HDE.out))) rfl (HBU.out.trans (hO2.bel.mono HBU.out.size))
                · have hdb : decide (hd.d < e) = false := decide_eq_false hde
                  have HSX : Hid (segX hd ns e = false) := Lib.hid (HX.out.trans hdb)
                  clear hde hc2 HO1 HG
                  have hn0 : 0 < n := by
                    have h1 := HIN2.out
                    have h3 : (headsN bs).2.1 ≠ [] := fun h2 => by rw [← HE.out.2.1, List.eq_nil_iff_length_eq_zero, HJL.out] at h2; omega
                    have h4 : (fileB bs && hdsB bs) = true := by
                      cases h5 : (fileB bs && hdsB bs) with
                      | true => rfl
                      | false => exact absurd (by unfold headsN; rw [h5]; rfl) h3
                    rw [Bool.and_eq_true] at h4
                    have h6 := (of_decide_eq_true h4.1).1
                    omega
                  obtain ⟨bf, of, hAf, hbfl, _⟩ := HSU.out.2.2 hn0
                  subst hAf
                  have hin2 : hd.a + hd.f ≤ n := by have := HIN2.out.2.1; omega
                  have hcn : n ≤ c := HSU.out.2.1
                  have hwaf : IntKind.i64.wrap ((hd.a : Int) + (hd.f : Int)) = (hd.a : Int) + (hd.f : Int) := i64_in' _ (by omega)
                  have hown : wc.ownsRow u.heap.size 66 4 (.slice A9 ns c9) ns (cellsL 4 sgP ss) := by have := hO2.seg; rw [← HNS.out] at this; exact this
                  have hz1 := hO2.bel.size
                  obtain ⟨sg, hsg⟩ : ∃ x : Sg × Sl, x = (⟨hd.d, hd.m, hd.r, (bs.drop hd.a).take hd.f⟩, ⟨some (midO ⟨bf, of, none⟩ c hd.a), hd.f, c - hd.a⟩) := ⟨_, rfl⟩
                  have hlit : (#[.int .i64 (hd.d : Int), .int .i64 (hd.m : Int), .int .i64 (hd.r : Int), .slice (some (midO ⟨bf, of, none⟩ c hd.a)) hd.f (c - hd.a)] : Array Value) = tab 4 (sgP sg) := by rw [hsg]; exact sgR_lit ⟨hd.d, hd.m, hd.r, (bs.drop hd.a).take hd.f⟩ ⟨some (midO ⟨bf, of, none⟩ c hd.a), hd.f, c - hd.a⟩
                  have HSG := Lib.hid hsg
                  have HLIT := Lib.hid hlit
                  have hob : ∀ l, (Value.slice A9 ns c9).ownBlock = some l → l < wc.heap.size := fun l hl => (own_blk hown hl).2
                  clear hsg hlit
                  rw [hdb]
                  clear hdb
                  go_wp2_with fail
                  refine region_simL [.slice A9 ns c9, .pointer (some ⟨gg, 2, none⟩), .int .i64 (hd.d : Int), .pointer (some ⟨gg, 4, none⟩), .int .i64 (hd.m : Int), .pointer (some ⟨gg, 5, none⟩), .int .i64 (hd.r : Int), .slice (some ⟨bf, of, none⟩) n c, .pointer (some ⟨gg, 1, none⟩), .int .i64 (hd.a : Int), .pointer (some ⟨gg, 1, none⟩), .int .i64 (hd.a : Int), .pointer (some ⟨gg, 3, none⟩), .int .i64 (hd.f : Int), .int .i64 ((hd.a + hd.f : Nat) : Int), .slice (some (midO ⟨bf, of, none⟩ c hd.a)) hd.f (c - hd.a), .agg #[.int .i64 (hd.d : Int), .int .i64 (hd.m : Int), .int .i64 (hd.r : Int), .slice (some (midO ⟨bf, of, none⟩ c hd.a)) hd.f (c - hd.a)], undef, undef, undef] [(17, fun x w' => ∃ h, x = .slice (some ⟨h, 0, none⟩) 1 1 ∧ Has w' h 66 (tab 4 (sgP sg)) ∧ (Value.slice A9 ns c9).ownBlock ≠ some h), (18, fun x w' => ∃ v, x = v ∧ w'.ownsRow u.heap.size 66 4 v (ns + 1) (cellsL 4 sgP (ss ++ [sg]))), (19, fun x w' => ∃ v, x = v ∧ w'.ownsRow u.heap.size 66 4 v (ns + 1) (cellsL 4 sgP (ss ++ [sg])))] [(18, fun w' => w'.ownsRow u.heap.size 66 4 (.slice A9 ns c9) ns (cellsL 4 sgP ss))] [(17, fun w' w'' => Below w'.heap.size w' w''), (18, fun w' w'' => Kt 66 u.heap.size w' w'' ∧ w'.grownBy w'' (Value.slice A9 ns c9).ownBlock)] (fun w' => Kt 66 u.heap.size wc w') 157 (by kernel_rfl) rfl (by kernel_rfl) ?_ ?_ ?_ ?_ ?_ (by decide) ?_
                  · intro w' hb _
                    refine ⟨Kt.of hb hz1, ?_⟩
                    simp only [List.forall_mem_cons, List.not_mem_nil, false_implies, implies_true, and_true]
                    exact own_after hown hb
                  · simp only [List.forall_mem_cons, List.not_mem_nil, false_implies, implies_true, and_true]
                    refine ⟨?_, ?_⟩
                    · exact fun w' w'' h hy => h.trans (Kt.of hy (Nat.le_trans hz1 h.bel.size))
                    · exact fun w' w'' h hy => h.trans hy.1
                  · simp only [List.forall_mem_cons, List.not_mem_nil, false_implies, implies_true, and_true]
                    refine ⟨⟨?_, ?_⟩, ⟨?_, ?_⟩, ⟨?_, ?_⟩⟩
                    · exact fun h => absurd rfl h
                    · exact fun _ _ x w' w'' _ ⟨h, e, hH, hne⟩ hT => ⟨h, e, has_grown hH hT.2 (fun l el e2 => hne (by rw [el, e2])), hne⟩
                    · exact fun _ _ x w' w'' _ ⟨v, e, h⟩ hT => ⟨v, e, own_after h hT⟩
                    · exact fun h => absurd rfl h
                    · exact fun _ _ x w' w'' _ ⟨v, e, h⟩ hT => ⟨v, e, own_after h hT⟩
                    · exact fun _ h => absurd h (by decide +kernel)
                  · simp only [List.forall_mem_cons, List.not_mem_nil, false_implies, implies_true, and_true]
                    refine ⟨?_, ?_⟩
                    · exact fun _ _ w' w'' _ h hT => own_after h hT
                    · exact fun h => absurd rfl h
                  · refine ⟨⟨?_, ?_⟩, ⟨?_, ?_⟩, ⟨?_, ?_⟩, ⟨?_, ?_⟩, ⟨?_, ?_⟩, ⟨?_, ?_⟩, ⟨?_, ?_⟩, ⟨?_, ?_⟩, ⟨?_, ?_⟩, ⟨?_, ?_⟩, ⟨?_, ?_⟩, ⟨?_, ?_⟩, ⟨?_, ?_⟩, ⟨?_, ?_⟩, ⟨?_, ?_⟩, ⟨?_, ?_⟩, ⟨?_, ?_⟩, ⟨?_, ?_⟩, ⟨?_, ?_⟩, ⟨?_, ?_⟩, trivial⟩
                    · intro v w' AA hAA hg hf hl hgd K hK
                      exact pure_step (.slice A9 ns c9) (fun ρ hρ => by
                        have e9 : ρ (.tmp 9) = .slice A9 ns c9 := by rw [hρ]; exact (hAA.1 19 _ 9 rfl rfl).trans (hl 19 _ rfl ⟨⟨0, .phase⟩, by simp, rfl, rfl⟩)
                        clear hρ hf hAA hl hK hg
                        go_simp) (hK _ _ rfl ⟨rfl, hg.2⟩)
                    · trivial
                    · intro v w' AA hAA hg hf hl hgd K hK
                      exact pure_step (.pointer (some ⟨gg, 2, none⟩)) (fun ρ hρ => by
                        have e13 : ρ (.tmp 13) = .pointer (some ⟨gg, 0, none⟩) := by rw [hρ]; exact hAA.2 13 (by simp)
                        clear hρ hf hAA hl hK hg
                        go_simp) (hK _ _ rfl ⟨rfl, hg.2⟩)
                    · trivial
                    · intro v w' AA hAA hg hf hl hgd K hK
                      have hcell := (show w'.cell? ⟨gg, 2, none⟩ = some (.int .i64 (hd.d : Int)) from (hg.2.has hG2 (by decide)).cellTab 2 (by omega))
                      exact pure_step (.int .i64 (hd.d : Int)) (fun ρ hρ => by
                        have e102 : ρ (.tmp 102) = .pointer (some ⟨gg, 2, none⟩) := by rw [hρ]; exact (hAA.1 1 _ 102 rfl rfl).trans (hf ⟨1, .data⟩ (by simp) rfl).1
                        clear hρ hf hAA hl hK hg
                        go_simp) (hK _ _ rfl ⟨rfl, hg.2⟩)
                    · trivial
                    · intro v w' AA hAA hg hf hl hgd K hK
                      exact pure_step (.pointer (some ⟨gg, 4, none⟩)) (fun ρ hρ => by
                        have e13 : ρ (.tmp 13) = .pointer (some ⟨gg, 0, none⟩) := by rw [hρ]; exact hAA.2 13 (by simp)
                        clear hρ hf hAA hl hK hg
                        go_simp) (hK _ _ rfl ⟨rfl, hg.2⟩)
                    · trivial
                    · intro v w' AA hAA hg hf hl hgd K hK
                      have hcell := (show w'.cell? ⟨gg, 4, none⟩ = some (.int .i64 (hd.m : Int)) from (hg.2.has hG2 (by decide)).cellTab 4 (by omega))
                      exact pure_step (.int .i64 (hd.m : Int)) (fun ρ hρ => by
                        have e104 : ρ (.tmp 104) = .pointer (some ⟨gg, 4, none⟩) := by rw [hρ]; exact (hAA.1 3 _ 104 rfl rfl).trans (hf ⟨3, .data⟩ (by simp) rfl).1
                        clear hρ hf hAA hl hK hg
                        go_simp) (hK _ _ rfl ⟨rfl, hg.2⟩)
                    · trivial
                    · intro v w' AA hAA hg hf hl hgd K hK
                      exact pure_step (.pointer (some ⟨gg, 5, none⟩)) (fun ρ hρ => by
                        have e13 : ρ (.tmp 13) = .pointer (some ⟨gg, 0, none⟩) := by rw [hρ]; exact hAA.2 13 (by simp)
                        clear hρ hf hAA hl hK hg
                        go_simp) (hK _ _ rfl ⟨rfl, hg.2⟩)
                    · trivial
                    · intro v w' AA hAA hg hf hl hgd K hK
                      have hcell := (show w'.cell? ⟨gg, 5, none⟩ = some (.int .i64 (hd.r : Int)) from (hg.2.has hG2 (by decide)).cellTab 5 (by omega))
                      exact pure_step (.int .i64 (hd.r : Int)) (fun ρ hρ => by
                        have e106 : ρ (.tmp 106) = .pointer (some ⟨gg, 5, none⟩) := by rw [hρ]; exact (hAA.1 5 _ 106 rfl rfl).trans (hf ⟨5, .data⟩ (by simp) rfl).1
                        clear hρ hf hAA hl hK hg
                        go_simp) (hK _ _ rfl ⟨rfl, hg.2⟩)
                    · trivial
                    · intro v w' AA hAA hg hf hl hgd K hK
                      exact pure_step (.slice (some ⟨bf, of, none⟩) n c) (fun ρ hρ => by
                        have e0 : ρ (.tmp 0) = .slice (some ⟨bf, of, none⟩) n c := by rw [hρ]; exact hAA.2 0 (by simp)
                        clear hρ hf hAA hl hK hg
                        go_simp) (hK _ _ rfl ⟨rfl, hg.2⟩)
                    · trivial
                    · intro v w' AA hAA hg hf hl hgd K hK
                      exact pure_step (.pointer (some ⟨gg, 1, none⟩)) (fun ρ hρ => by
                        have e13 : ρ (.tmp 13) = .pointer (some ⟨gg, 0, none⟩) := by rw [hρ]; exact hAA.2 13 (by simp)
                        clear hρ hf hAA hl hK hg
                        go_simp) (hK _ _ rfl ⟨rfl, hg.2⟩)
                    · trivial
                    · intro v w' AA hAA hg hf hl hgd K hK
                      have hcell := (show w'.cell? ⟨gg, 1, none⟩ = some (.int .i64 (hd.a : Int)) from (hg.2.has hG2 (by decide)).cellTab 1 (by omega))
                      exact pure_step (.int .i64 (hd.a : Int)) (fun ρ hρ => by
                        have e109 : ρ (.tmp 109) = .pointer (some ⟨gg, 1, none⟩) := by rw [hρ]; exact (hAA.1 8 _ 109 rfl rfl).trans (hf ⟨8, .data⟩ (by simp) rfl).1
                        clear hρ hf hAA hl hK hg
                        go_simp) (hK _ _ rfl ⟨rfl, hg.2⟩)
                    · trivial
                    · intro v w' AA hAA hg hf hl hgd K hK
                      exact pure_step (.pointer (some ⟨gg, 1, none⟩)) (fun ρ hρ => by
                        have e13 : ρ (.tmp 13) = .pointer (some ⟨gg, 0, none⟩) := by rw [hρ]; exact hAA.2 13 (by simp)
                        clear hρ hf hAA hl hK hg
                        go_simp) (hK _ _ rfl ⟨rfl, hg.2⟩)
                    · trivial
                    · intro v w' AA hAA hg hf hl hgd K hK
                      have hcell := (show w'.cell? ⟨gg, 1, none⟩ = some (.int .i64 (hd.a : Int)) from (hg.2.has hG2 (by decide)).cellTab 1 (by omega))
                      exact pure_step (.int .i64 (hd.a : Int)) (fun ρ hρ => by
                        have e111 : ρ (.tmp 111) = .pointer (some ⟨gg, 1, none⟩) := by rw [hρ]; exact (hAA.1 10 _ 111 rfl rfl).trans (hf ⟨10, .data⟩ (by simp) rfl).1
                        clear hρ hf hAA hl hK hg
                        go_simp) (hK _ _ rfl ⟨rfl, hg.2⟩)
                    · trivial
                    · intro v w' AA hAA hg hf hl hgd K hK
                      exact pure_step (.pointer (some ⟨gg, 3, none⟩)) (fun ρ hρ => by
                        have e13 : ρ (.tmp 13) = .pointer (some ⟨gg, 0, none⟩) := by rw [hρ]; exact hAA.2 13 (by simp)
                        clear hρ hf hAA hl hK hg
                        go_simp) (hK _ _ rfl ⟨rfl, hg.2⟩)
                    · trivial
                    · intro v w' AA hAA hg hf hl hgd K hK
                      have hcell := (show w'.cell? ⟨gg, 3, none⟩ = some (.int .i64 (hd.f : Int)) from (hg.2.has hG2 (by decide)).cellTab 3 (by omega))
                      exact pure_step (.int .i64 (hd.f : Int)) (fun ρ hρ => by
                        have e113 : ρ (.tmp 113) = .pointer (some ⟨gg, 3, none⟩) := by rw [hρ]; exact (hAA.1 12 _ 113 rfl rfl).trans (hf ⟨12, .data⟩ (by simp) rfl).1
                        clear hρ hf hAA hl hK hg
                        go_simp) (hK _ _ rfl ⟨rfl, hg.2⟩)
                    · trivial
                    · intro v w' AA hAA hg hf hl hgd K hK
                      exact pure_step (.int .i64 ((hd.a + hd.f : Nat) : Int)) (fun ρ hρ => by
                        have e112 : ρ (.tmp 112) = .int .i64 (hd.a : Int) := by rw [hρ]; exact (hAA.1 11 _ 112 rfl rfl).trans (hf ⟨11, .data⟩ (by simp) rfl).1
                        have e114 : ρ (.tmp 114) = .int .i64 (hd.f : Int) := by rw [hρ]; exact (hAA.1 13 _ 114 rfl rfl).trans (hf ⟨13, .data⟩ (by simp) rfl).1
                        clear hρ hf hAA hl hK hg
                        rw [show (((hd.a + hd.f : Nat)) : Int) = (hd.a : Int) + (hd.f : Int) from by omega]
                        go_simp) (hK _ _ rfl ⟨rfl, hg.2⟩)
                    · trivial
                    · intro v w' AA hAA hg hf hl hgd K hK
                      exact pure_step (.slice (some (midO ⟨bf, of, none⟩ c hd.a)) hd.f (c - hd.a)) (fun ρ hρ => by
                        have e108 : ρ (.tmp 108) = .slice (some ⟨bf, of, none⟩) n c := by rw [hρ]; exact (hAA.1 7 _ 108 rfl rfl).trans (hf ⟨7, .data⟩ (by simp) rfl).1
                        have e110 : ρ (.tmp 110) = .int .i64 (hd.a : Int) := by rw [hρ]; exact (hAA.1 9 _ 110 rfl rfl).trans (hf ⟨9, .data⟩ (by simp) rfl).1
                        have e115 : ρ (.tmp 115) = .int .i64 ((hd.a + hd.f : Nat) : Int) := by rw [hρ]; exact (hAA.1 14 _ 115 rfl rfl).trans (hf ⟨14, .data⟩ (by simp) rfl).1
                        clear hρ hf hAA hl hK hg
                        have hsl := slice_mid bf of n c hd.a hd.f none hin2 hcn w'
                        simp only [execOp, e108, e110, e115, Option.map_some, Option.map_none]
                        rw [Sem.run_bind, hsl]
                        rfl) (hK _ _ rfl ⟨rfl, hg.2⟩)
                    · trivial
                    · intro v w' AA hAA hg hf hl hgd K hK
                      exact pure_step (.agg #[.int .i64 (hd.d : Int), .int .i64 (hd.m : Int), .int .i64 (hd.r : Int), .slice (some (midO ⟨bf, of, none⟩ c hd.a)) hd.f (c - hd.a)]) (fun ρ hρ => by
                        have e103 : ρ (.tmp 103) = .int .i64 (hd.d : Int) := by rw [hρ]; exact (hAA.1 2 _ 103 rfl rfl).trans (hf ⟨2, .data⟩ (by simp) rfl).1
                        have e105 : ρ (.tmp 105) = .int .i64 (hd.m : Int) := by rw [hρ]; exact (hAA.1 4 _ 105 rfl rfl).trans (hf ⟨4, .data⟩ (by simp) rfl).1
                        have e107 : ρ (.tmp 107) = .int .i64 (hd.r : Int) := by rw [hρ]; exact (hAA.1 6 _ 107 rfl rfl).trans (hf ⟨6, .data⟩ (by simp) rfl).1
                        have e116 : ρ (.tmp 116) = .slice (some (midO ⟨bf, of, none⟩ c hd.a)) hd.f (c - hd.a) := by rw [hρ]; exact (hAA.1 15 _ 116 rfl rfl).trans (hf ⟨15, .data⟩ (by simp) rfl).1
                        clear hρ hf hAA hl hK hg
                        go_simp) (hK _ _ rfl ⟨rfl, hg.2⟩)
                    · trivial
                    · intro v w' AA hAA hg hf hl hgd K hK
                      have hsz : u.heap.size ≤ w'.heap.size := Nat.le_trans hz1 hg.2.bel.size
                      refine new_step (w'' := w'.alloc (.cells #[.int .i64 (hd.d : Int), .int .i64 (hd.m : Int), .int .i64 (hd.r : Int), .slice (some (midO ⟨bf, of, none⟩ c hd.a)) hd.f (c - hd.a)] 66)) (.slice (some ⟨w'.heap.size, 0, none⟩) 1 1) (fun ρ hρ => by
                          have e117 : ρ (.tmp 117) = .agg #[.int .i64 (hd.d : Int), .int .i64 (hd.m : Int), .int .i64 (hd.r : Int), .slice (some (midO ⟨bf, of, none⟩ c hd.a)) hd.f (c - hd.a)] := by rw [hρ]; exact (hAA.1 16 _ 117 rfl rfl).trans (hf ⟨16, .data⟩ (by simp) rfl).1
                          clear hρ hf hAA hl hK hg
                          go_simp
                        ) (hK _ _ ((Below.refl _ _).alloc (Nat.le_refl _) _) ⟨⟨_, rfl, by rw [HLIT.out]; exact Has.new _ _ _, fun h => absurd (hob _ h) (by have := hg.2.bel.size; omega)⟩, hg.2.trans (Kt.of ((Below.refl _ _).alloc (Nat.le_refl _) _) hsz)⟩)
                    · trivial
                    · intro v w' AA hAA hg hf hl hgd K hK
                      have hsz : u.heap.size ≤ w'.heap.size := Nat.le_trans hz1 hg.2.bel.size
                      obtain ⟨⟨h17, hv17, hH17, hne17⟩, _⟩ := hf ⟨17, .data⟩ (by simp) rfl
                      have es : AA.eval (.tmp 101) = .slice A9 ns c9 := (hAA.1 0 _ 101 rfl rfl).trans (hf ⟨0, .data⟩ (by simp) rfl).1
                      have ex : AA.eval (.tmp 118) = .slice (some ⟨h17, 0, none⟩) 1 1 := (hAA.1 17 _ 118 rfl rfl).trans hv17
                      refine wp_append_elK Try.underlying54 infoSR rfl (by decide) (by decide) sgP_one _ _ rfl u.heap.size (.slice A9 ns c9) ns ss es hg.1 h17 ex sg hH17 (by omega) hsz ?_
                      intro v' w'' hown' hgr'
                      have hkb := own_kt hg.1 (Nat.le_refl _) hsz hgr'
                      exact hK _ _ ⟨hkb, hgr'⟩ ⟨⟨v', rfl, hown'⟩, hg.2.trans hkb⟩
                    · trivial
                    · intro v w' AA hAA hg hf hl hgd K hK
                      obtain ⟨⟨vv18, hv18, hO18⟩, _⟩ := hf ⟨18, .data⟩ (by simp) rfl
                      exact pure_step (vv18) (fun ρ hρ => by
                          have e119 : ρ (.tmp 119) = vv18 := by rw [hρ]; exact (hAA.1 18 _ 119 rfl rfl).trans hv18
                          clear hρ hf hAA hl hK hg
                          go_simp) (hK _ _ rfl ⟨⟨vv18, rfl, hO18⟩, hg.2⟩)
                    · trivial
                  intro v wE hIE hE
                  have f0 : v 0 = .slice A9 ns c9 := (hE 0 (by decide)).1
                  have f1 : v 1 = .pointer (some ⟨gg, 2, none⟩) := (hE 1 (by decide)).1
                  have f2 : v 2 = .int .i64 (hd.d : Int) := (hE 2 (by decide)).1
                  have f3 : v 3 = .pointer (some ⟨gg, 4, none⟩) := (hE 3 (by decide)).1
                  have f4 : v 4 = .int .i64 (hd.m : Int) := (hE 4 (by decide)).1
                  have f5 : v 5 = .pointer (some ⟨gg, 5, none⟩) := (hE 5 (by decide)).1
                  have f6 : v 6 = .int .i64 (hd.r : Int) := (hE 6 (by decide)).1
                  have f7 : v 7 = .slice (some ⟨bf, of, none⟩) n c := (hE 7 (by decide)).1
                  have f8 : v 8 = .pointer (some ⟨gg, 1, none⟩) := (hE 8 (by decide)).1
                  have f9 : v 9 = .int .i64 (hd.a : Int) := (hE 9 (by decide)).1
                  have f10 : v 10 = .pointer (some ⟨gg, 1, none⟩) := (hE 10 (by decide)).1
                  have f11 : v 11 = .int .i64 (hd.a : Int) := (hE 11 (by decide)).1
                  have f12 : v 12 = .pointer (some ⟨gg, 3, none⟩) := (hE 12 (by decide)).1
                  have f13 : v 13 = .int .i64 (hd.f : Int) := (hE 13 (by decide)).1
                  have f14 : v 14 = .int .i64 ((hd.a + hd.f : Nat) : Int) := (hE 14 (by decide)).1
                  have f15 : v 15 = .slice (some (midO ⟨bf, of, none⟩ c hd.a)) hd.f (c - hd.a) := (hE 15 (by decide)).1
                  have f16 : v 16 = .agg #[.int .i64 (hd.d : Int), .int .i64 (hd.m : Int), .int .i64 (hd.r : Int), .slice (some (midO ⟨bf, of, none⟩ c hd.a)) hd.f (c - hd.a)] := (hE 16 (by decide)).1
                  obtain ⟨⟨h17, hv17, hH17, hne17⟩, _⟩ := hE 17 (by decide)
                  obtain ⟨⟨vv18, hv18, hO18⟩, _⟩ := hE 18 (by decide)
                  obtain ⟨⟨vv19, hv19, hO19⟩, _⟩ := hE 19 (by decide)
                  clear hE
                  simp only [putAll, Act.put, List.setIfInBounds_toArray, List.set_cons_zero, List.set_cons_succ, Nat.zero_add, Nat.reduceAdd]
                  rw [f0, f1, f2, f3, f4, f5, f6, f7, f8, f9, f10, f11, f12, f13, f14, f15, f16, hv17, hv18, hv19]
                  clear f0 f1 f2 f3 f4 f5 f6 f7 f8 f9 f10 f11 f12 f13 f14 f15 f16
                  have hO3 : SgO u vv19 u10 (ss ++ [sg]) ds wE := hO2.pushS hIE (by rw [← HNS.out]; exact hO19) (by rw [HSG.out]; exact ⟨sub_mid HSU.out hin2, fun h => by (cases h), by show c - hd.a < 9223372036854775808; omega⟩)
                  have hG3 := hIE.has hG2 (by decide)
                  have hc2 : wE.cell? ⟨gg, 2, none⟩ = some (.int .i64 (hd.d : Int)) := hG3.cellTab 2 (by omega)
                  have hc4 : wE.cell? ⟨gg, 4, none⟩ = some (.int .i64 (hd.m : Int)) := hG3.cellTab 4 (by omega)
                  have hc5 : wE.cell? ⟨gg, 5, none⟩ = some (.int .i64 (hd.r : Int)) := hG3.cellTab 5 (by omega)
                  have HO3 := Lib.hid hO3
                  have HL2 : Hid (SgL bs en hs (i + 1) (ss ++ [sg]) ds (hd.d + hd.m) (a || entB en hd)) := Lib.hid (by
                    have h1 := HL1.out
                    rw [segGo_seg HK.out (by rw [List.length_map, ← HNS.out]; exact HSX.out)] at h1
                    have h2 := HL.out
                    refine ⟨?_, by rw [List.length_append]; have := h2.2.1; show ss.length + 1 ≤ _; omega, by have := h2.2.2.1; omega, fun h3 => by simp at h3, fun ss' q h3 => ?_⟩
                    · rw [List.map_append, show [sg].map (·.1) = [⟨hd.d, hd.m, hd.r, (bs.drop hd.a).take hd.f⟩] from by rw [HSG.out]; rfl]
                      exact h1
                    · obtain ⟨_, h4⟩ := List.append_inj' h3 rfl
                      injection h4 with h4 _
                      rw [← h4, HSG.out]
                      exact ⟨rfl, hd4, hm4⟩)
                  clear hIE hv17 hv18 hv19 hO18 hO19 hH17 hne17 hown hob hz1 hbfl hG3 hG2 hO2
                  clear v
                  cases a with
                  | true =>
                    go_wp2_with fail
                    go_roundw
                    case rel => exact ⟨i + 1, ss ++ [sg], ds, hd.d + hd.m, true || entB en hd, hlt, by go_num, rfl, HO3.out, HL2.out⟩
                    case measure => simp [intOf] <;> omega
                  | false =>
                    obtain ⟨e4, he4⟩ : ∃ x, x = en % 4 := ⟨_, rfl⟩
                    have t3 : (en : Int).tmod 4 = (e4 : Int) := by rw [Int.tmod_eq_emod_of_nonneg (by omega)]; omega
                    have HE4 := Lib.hid he4
                    have l4e : e4 < 4 := by omega
                    clear he4
                    rcases x18_ways hd.r e4 en hd.d hd.m with ⟨f0, fg⟩ | ⟨f0, f1, fg⟩ | ⟨f0, f1, f2, fg⟩ | ⟨f0, f1, f2, f3, fg⟩ | ⟨f0, f1, f2, f3, fg⟩
                    · have HB : Hid (entB en hd = false) := Lib.hid (decide_eq_false (by have h1 := HE4.out; omega))
                      clear fg
                      go_wp2_with fail
                      go_roundw
                      case rel => exact ⟨i + 1, ss ++ [sg], ds, hd.d + hd.m, false || entB en hd, hlt, by go_num, (by first | (rw [HB.out]; rfl) | exact congrArg Value.bool (by rw [HB.out]; simp; omega)), HO3.out, HL2.out⟩
                      case measure => simp [intOf] <;> omega
                    · have HB : Hid (entB en hd = false) := Lib.hid (decide_eq_false (by have h1 := HE4.out; omega))
                      clear fg
                      go_wp2_with fail
                      go_roundw
                      case rel => exact ⟨i + 1, ss ++ [sg], ds, hd.d + hd.m, false || entB en hd, hlt, by go_num, (by first | (rw [HB.out]; rfl) | exact congrArg Value.bool (by rw [HB.out]; simp; omega)), HO3.out, HL2.out⟩
                      case measure => simp [intOf] <;> omega
                    · have HB : Hid (entB en hd = false) := Lib.hid (decide_eq_false (by have h1 := HE4.out; omega))
                      clear fg
                      go_wp2_with fail
                      go_roundw
                      case rel => exact ⟨i + 1, ss ++ [sg], ds, hd.d + hd.m, false || entB en hd, hlt, by go_num, (by first | (rw [HB.out]; rfl) | exact congrArg Value.bool (by rw [HB.out]; simp; omega)), HO3.out, HL2.out⟩
                      case measure => simp [intOf] <;> omega
                    · have HB : Hid (entB en hd = false) := Lib.hid (decide_eq_false (by have h1 := HE4.out; omega))
                      clear fg
                      go_wp2_with fail
                      go_roundw
                      case rel => exact ⟨i + 1, ss ++ [sg], ds, hd.d + hd.m, false || entB en hd, hlt, by go_num, (by first | (rw [HB.out]; rfl) | exact congrArg Value.bool (by rw [HB.out]; simp; omega)), HO3.out, HL2.out⟩
                      case measure => simp [intOf] <;> omega
                    · have HB : Hid (entB en hd = true) := Lib.hid (decide_eq_true (by have h1 := HE4.out; omega))
                      clear fg
                      go_wp2_with fail
                      go_roundw
                      case rel => exact ⟨i + 1, ss ++ [sg], ds, hd.d + hd.m, false || entB en hd, hlt, by go_num, (by first | (rw [HB.out]; rfl) | exact congrArg Value.bool (by rw [HB.out]; simp; omega)), HO3.out, HL2.out⟩
                      case measure => simp [intOf] <;> omega
      · obtain rfl : i = m := by omega
        obtain ⟨A9, c9, rfl⟩ := own_form hO.seg
        obtain ⟨A10, c10, rfl⟩ := own_form hO.dyn
        have hend : segGo bs (headsN bs).1 (headsN bs).2.1 [] [] 0 false = some (ss.map (·.1), ds, a) := by
          rw [← HE.out.1, ← HE.out.2.1, ← hL.1, List.drop_eq_nil_of_le (by rw [HJL.out]; exact Nat.le_refl _)]
          rfl
        have HSE := Lib.hid (segs_end HER.out hend)
        have hsl := hL.2.1
        have hdl := hL.2.2.1
        have HO := Lib.hid hO
        obtain ⟨nd, hnd⟩ : ∃ x, x = ds.length := ⟨_, rfl⟩
        obtain ⟨ns, hns⟩ : ∃ x, x = ss.length := ⟨_, rfl⟩
        rw [← hnd] at hdl ⊢
        rw [← hns] at hsl ⊢
        have HND := Lib.hid hnd
        have HNS := Lib.hid hns
        clear hL hend hO hnd hns
        by_cases h1 : 1 < nd
        · have h1' : 1 < (nd : Int) := by omega
          have H1 := Lib.hid h1
          clear h1
          go_wp2_with fail
          refine bodyPost_ret (results_tmp4 rfl _ _ _) rfl ?_
          exact segs_bad_ret (HSE.out.trans (if_pos (.inl (by rw [← HND.out]; exact H1.out)))) rfl (HBU.out.trans (HO.out.bel.mono HBU.out.size))
        · have h1' : (nd : Int) ≤ 1 := by omega
          have H1 := Lib.hid h1
          clear h1
          cases a with
          | false =>
            go_wp2_with fail
            refine bodyPost_ret (results_tmp4 rfl _ _ _) rfl ?_
            exact segs_bad_ret (HSE.out.trans (if_pos (by first | exact .inr rfl | simp))) rfl (HBU.out.trans (HO.out.bel.mono HBU.out.size))
          | true =>
            go_wp2_with fail
            refine bodyPost_ret (results_tmp4 rfl _ _ _) rfl ?_
            have hSE := HSE.out.trans (if_neg (by intro h2; have h3 := H1.out; rw [HND.out] at h3; simp at h2; omega))
            rw [hSE]
            refine ⟨⟨⟨A9, ns, c9⟩, ⟨A10, nd, c10⟩, by rw [HE.out.1]; rfl, ?_, ?_⟩, HBU.out.trans (HO.out.bel.mono HBU.out.size)⟩
            · have := HO.out
              rw [← HNS.out] at this
              exact (this.slT (by rw [← HNS.out]; omega)).1
            · have := HO.out
              rw [← HND.out] at this
              exact this.slJ (by rw [← HND.out]; omega)
  · have hz : ((er : Int) != 0) = true := by simp; omega
    have HSE : Hid (segsN bs = (0, [], [], er)) := Lib.hid (by unfold segsN; rw [if_neg (by rw [← HE.out.2.2]; exact her0), ← HE.out.2.2])
    clear her0
    go_wp2_with fail
    refine bodyPost_ret (results_tmp4 rfl _ _ _) rfl ?_
    exact segs_bad_ret HSE.out rfl hbu
end Go.Proofs.Ytfdoloonllhodaa
