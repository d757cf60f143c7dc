/-
Layer 12: rows of structs in memory: slices that came in, rows of the call's own; for any element.
-/
import Derived.Test.YthaockngbagdhaaDoorPmA
import Derived.Test.YthaockngbagdhaaDoorBs
import Derived.Test.YthaockngbagdhaaDoorGen
import Derived.Deep.WholeRow
import Derived.OwnWalk
import Derived.Great.BuildSlice
import Derived.Great.FillDense
namespace Go.Proofs.YthaockngbagdhaaDoor.Pm
open Go Go.RowKit

/-- a slice's three parts -/
structure Sl where
  A : Option Addr
  n : Nat
  c : Nat
def Sl.v (s : Sl) : Value := .slice s.A s.n s.c
/-- n elements of k cells each lie where the slice says -/
def SlC (w : World) (s : Sl) (k : Nat) (cs : Nat → Nat → Value) : Prop :=
  (s.n ≤ s.c ∧ s.n ≤ 140737488355328) ∧ (0 < s.n → ∃ b o, s.A = some ⟨b, o, none⟩ ∧ b < w.heap.size ∧ ∀ j i, j < s.n → i < k → w.cell? ⟨b, o + j * k + i, none⟩ = some (cs j i))
theorem SlC.below {w w' : World} {s : Sl} {k : Nat} {cs : Nat → Nat → Value} (h : SlC w s k cs) (hb : Below w.heap.size w w') : SlC w' s k cs := by
  refine ⟨h.1, fun hn => ?_⟩
  obtain ⟨b, o, e, hlt, hc⟩ := h.2 hn
  exact ⟨b, o, e, Nat.lt_of_lt_of_le hlt hb.size, fun j i hj hi => (hb.cell (p := ⟨b, o + j * k + i, none⟩) hlt).trans (hc j i hj hi)⟩
theorem SlC.grown {w w' : World} {s : Sl} {k : Nat} {cs : Nat → Nat → Value} {r : Option Nat} (h : SlC w s k cs) (kk : w.grownBy w' r) (hne : ∀ b o, s.A = some ⟨b, o, none⟩ → 0 < s.n → r ≠ some b) : SlC w' s k cs := by
  refine ⟨h.1, fun hn => ?_⟩
  obtain ⟨b, o, e, hlt, hc⟩ := h.2 hn
  refine ⟨b, o, e, Nat.lt_of_lt_of_le hlt kk.size, fun j i hj hi => ?_⟩
  have hb := kk.block b hlt (fun e2 => hne b o e hn e2.symm)
  have hcell := hc j i hj hi
  unfold World.cell? at hcell ⊢
  dsimp only at hcell ⊢
  rw [hb]
  exact hcell
theorem SlC.ext {w : World} {s : Sl} {k : Nat} {cs ds : Nat → Nat → Value} (h : SlC w s k cs) (he : ∀ j i, j < s.n → i < k → cs j i = ds j i) : SlC w s k ds := by
  refine ⟨h.1, fun hn => ?_⟩
  obtain ⟨b, o, e, hlt, hc⟩ := h.2 hn
  exact ⟨b, o, e, hlt, fun j i hj hi => by rw [← he j i hj hi]; exact hc j i hj hi⟩
/-- a variable of a type of many cells, laid and filled -/
theorem wp_fresh {P : Program} {w : World} {ops : Array Oper} {rest : List Oper} {o1 o2 : Oper} {a : Act} {Q : Exit → Act → World → Prop} (ty : TypeId) (n : Nat) (v z : Nat → Value) (x y : Operand)
    (hg1 : o1.guard = none) (h1 : o1.op = .alloc ty) (hg2 : o2.guard = none) (h2 : o2.op = .store ty x y)
    (hz : ∀ w, (zeroValue ty).run P w = .ok (.agg (tab n z)) w) (hi : (P.info? ty).map (·.size) = some n) (_hn : 0 < n) (h1v : ∀ j, (v j).oneCell' = true)
    (hx : (a.put o1.dst (.pointer (some ⟨w.heap.size, 0, none⟩))).eval x = .pointer (some ⟨w.heap.size, 0, none⟩)) (hy : (a.put o1.dst (.pointer (some ⟨w.heap.size, 0, none⟩))).eval y = .agg (tab n v))
    (h : ∀ w', Has w' w.heap.size ty (tab n v) → Below w.heap.size w w' → w.heap.size < w'.heap.size → wpList P ops Q rest ((a.put o1.dst (.pointer (some ⟨w.heap.size, 0, none⟩))).put o2.dst undef) w') : wpList P ops Q (o1 :: o2 :: rest) a w := by
  refine wpList_plain hg1 fun K hK => ?_
  unfold Oper.wp execOp
  simp only [h1, Instr.alloc, Sem.run_bind, hz, Result.andThen_ok]
  have hnv : (newVar ty (.agg (tab n z))).run P w = .ok ⟨w.heap.size, 0, none⟩ (w.alloc (.cells (tab n z) ty)) := by
    go_simp
  simp only [hnv, Result.andThen_ok, Sem.run_pure]
  refine hK _ _ ?_
  refine wp_store_tab hg2 ty x y h2 w.heap.size 0 hx n v hy n z ty (Has.new _ _ _) hi (by omega) h1v ?_
  intro w' hh hg
  have e : (tab n fun j => if 0 ≤ j ∧ j < 0 + n then v (j - 0) else z j) = tab n v := tab_ext _ _ _ fun j hj => by rw [if_pos ⟨Nat.zero_le _, by omega⟩]; rfl
  rw [e] at hh
  have hb1 : Below w.heap.size w (w.alloc (.cells (tab n z) ty)) := (Below.refl _ _).alloc (Nat.le_refl _) _
  have hb2 := hb1.trans (below_of_only hg (Nat.le_refl _) (by simp))
  exact h w' hh hb2 hh.lt
/-- what the element lies as -/
theorem SlC.range {w : World} {s : Sl} {k : Nat} {cs : Nat → Nat → Value} (h : SlC w s k cs) {b o : Nat} (hA : s.A = some ⟨b, o, none⟩) {j : Nat} (hj : j < s.n) : w.rangeAt b (o + j * k) ((List.range k).map (cs j)) := fun i v hv => by
  have hi : i < k := by have := (List.getElem?_eq_some_iff.1 hv).1; simpa using this
  obtain ⟨b', o', e, _, hc⟩ := h.2 (by omega)
  obtain ⟨rfl, rfl⟩ : b' = b ∧ o' = o := by
    have := hA.symm.trans e
    injection this with this
    injection this with e1 e2
    exact ⟨e1.symm, e2.symm⟩
  rw [hc j i hj hi, ← hv]
  simp [hi]
theorem own_blk {w : World} {base size n : Nat} {e : TypeId} {v : Value} {xs : List Value} (h : w.ownsRow base e size v n xs) {l : Nat} (hl : v.ownBlock = some l) : base ≤ l ∧ l < w.heap.size := by
  rcases h.2 with ⟨rfl, _⟩ | ⟨g, cap, cur, rfl, hb, hg, _⟩
  · cases hl
  · have : g = l := by simpa [Value.ownBlock] using hl
    subst this
    exact ⟨hb, (Array.getElem?_eq_some_iff.1 hg).1⟩
theorem own_has {w : World} {base size n g : Nat} {e t : TypeId} {v : Value} {xs : List Value} {cs : Array Value} (h : w.ownsRow base e size v n xs) (hG : Has w g t cs) (hte : t ≠ e) : ∀ l, v.ownBlock = some l → g ≠ l := by
  intro l hl he
  subst he
  rcases h.2 with ⟨rfl, _⟩ | ⟨g', cap, cur, rfl, hb, hg, _⟩
  · cases hl
  · have : g' = g := by simpa [Value.ownBlock] using hl
    subst this
    have h2 : w.heap[g']? = some (.cells cs t (0, 0)) := hG
    rw [h2] at hg
    injection hg with hg
    injection hg with _ e2 _
    exact hte e2
theorem has_own {w w' : World} {base size n g : Nat} {e t : TypeId} {v : Value} {xs : List Value} {cs : Array Value} (h : w.ownsRow base e size v n xs) (hG : Has w g t cs) (hte : t ≠ e) (k : w.grownBy w' v.ownBlock) : Has w' g t cs :=
  has_grown hG k (own_has h hG hte)
theorem below_own {a w w' : World} {B base size n : Nat} {e : TypeId} {v : Value} {xs : List Value} (hb : Below B a w) (h : w.ownsRow base e size v n xs) (hB : B ≤ base) (hw : B ≤ w.heap.size) (k : w.grownBy w' v.ownBlock) : Below B a w' := by
  refine hb.trans ⟨k.os, k.tape, k.output, k.size, fun i hi => k.block i (by omega) (fun he => ?_)⟩
  have := own_blk h he.symm
  omega
theorem own_after {w w' : World} {base size n : Nat} {e : TypeId} {v : Value} {xs : List Value} (h : w.ownsRow base e size v n xs) (k : Below w.heap.size w w') : w'.ownsRow base e size v n xs := by
  refine ⟨h.1, ?_⟩
  rcases h.2 with h1 | ⟨g, cap, cur, h1, hb, hg, h3⟩
  · exact .inl h1
  · exact .inr ⟨g, cap, cur, h1, hb, (k.block g (Array.getElem?_eq_some_iff.1 hg).1).trans hg, h3⟩
/-- the cells of elements, one behind the other -/
def cellsL {α : Type} (k : Nat) (f : α → Nat → Value) (xs : List α) : List Value := xs.flatMap fun x => (List.range k).map (f x)
theorem cellsL_len {α : Type} (k : Nat) (f : α → Nat → Value) : ∀ xs : List α, (cellsL k f xs).length = xs.length * k
  | [] => by simp [cellsL]
  | q :: qs => by
    have := cellsL_len k f qs
    simp only [cellsL, List.flatMap_cons, List.length_append, List.length_map, List.length_range, List.length_cons] at this ⊢
    rw [this, Nat.succ_mul]; omega
theorem cellsL_app {α : Type} (k : Nat) (f : α → Nat → Value) (a b : List α) : cellsL k f (a ++ b) = cellsL k f a ++ cellsL k f b := by simp [cellsL]
theorem cellsL_get {α : Type} (k : Nat) (f : α → Nat → Value) (d : α) : ∀ (qs : List α) (j i : Nat), j < qs.length → i < k → (cellsL k f qs)[j * k + i]? = some (f (qs.getD j d) i)
  | [], j, i, h, _ => by simp at h
  | q :: qs, 0, i, _, hi => by
    show ((List.range k).map (f q) ++ cellsL k f qs)[0 * k + i]? = _
    rw [Nat.zero_mul, Nat.zero_add, List.getElem?_append_left (by simpa using hi)]
    simp [hi]
  | q :: qs, j + 1, i, h, hi => by
    have h2 := cellsL_get k f d qs j i (by simpa using h) hi
    show ((List.range k).map (f q) ++ cellsL k f qs)[(j + 1) * k + i]? = _
    rw [show (j + 1) * k + i = k + (j * k + i) by rw [Nat.succ_mul]; omega, List.getElem?_append_right (by simp)]
    simpa using h2
/-- a row of elements reads as elements -/
theorem own_slC {α : Type} {f : α → Nat → Value} {w : World} {base n c k : Nat} {e : TypeId} {A : Option Addr} {xs : List α} (h : w.ownsRow base e k (.slice A n c) n (cellsL k f xs)) (hk : 0 < k) (hn : n ≤ 140737488355328) (d : α) :
    xs.length = n ∧ SlC w ⟨A, n, c⟩ k fun j i => f (xs.getD j d) i := by
  have hl : xs.length = n := by
    have h1 := h.1
    rw [cellsL_len] at h1
    exact Nat.eq_of_mul_eq_mul_right hk h1
  refine ⟨hl, ⟨?_, hn⟩, fun h0 => ?_⟩
  · rcases h.2 with ⟨hv, h0⟩ | ⟨g, cap, cur, hv, hb, hg, hnc, _⟩
    · show n ≤ c
      omega
    · have e2 : c = cap := by injection hv
      show n ≤ c
      omega
  · replace h0 : 0 < n := h0
    rcases h.2 with ⟨hv, h1⟩ | ⟨g, cap, cur, hv, hb, hg, hnc, _⟩
    · omega
    · have e1 : A = some ⟨g, 0, none⟩ := by injection hv
      subst e1
      have hc := h.cells (g := g) rfl
      refine ⟨g, 0, rfl, (Array.getElem?_eq_some_iff.1 hg).1, fun j i hj hi => ?_⟩
      replace hj : j < n := hj
      have := hc (j * k + i) _ (cellsL_get k f d xs j i (by omega) hi)
      rw [Addr.add_mid] at this
      rw [Nat.add_assoc]
      exact this
/-- append(v, xs...), some elements -/
theorem wp_append_elsK {α : Type} {f : α → Nat → Value} {P : Program} {st e : TypeId} {k by' : Nat} {z : Value} (hu : P.underlying st = some (.slice e)) (hinfo : (P.info? e).map (fun i => (i.zero, i.size, i.bytes)) = some (some z, k, by')) (hzs : z.cells.size = k) (hk : 0 < k) (hby : by' ≤ 1000) (h1f : ∀ x j, (f x j).oneCell' = true)
    {w : World} {op : Oper} {a : Act} {K : Act → World → Prop} {Q : Exit → Act → World → Prop} (s x : Operand)
    (ho : op.op = .call { callee := .builtin .append, args := #[s, x], argTypes := #[st, st] }) (base : Nat) (v : Value) (n : Nat) (qs : List α) (hs : a.eval s = v)
    (hown : w.ownsRow base e k v n (cellsL k f qs)) (h m : Nat) (hx : a.eval x = .slice (some ⟨h, 0, none⟩) m m) (rs : List α) (hm : rs.length = m) (hH : Has w h e (cellsL k f rs).toArray) (h63 : n + m ≤ 1000000) (hbase : base ≤ w.heap.size)
    (hK : ∀ v' w', w'.ownsRow base e k v' (n + m) (cellsL k f (qs ++ rs)) → w.grownBy w' v.ownBlock → K (a.put op.dst v') w') : op.wp P a w K Q := by
  obtain ⟨i5, hi5, hz5, hs5, hb5⟩ := info_parts hinfo
  have hb2 : (n + m) * by' ≤ 1000000 * 1000 := Nat.mul_le_mul h63 hby
  refine wp_append_own _ s x st ho base e i5 z k by' hu hi5 hz5 hs5 hb5 hzs hk v n (cellsL k f qs) hs hown ⟨h, 0, none⟩ m m (cellsL k f rs) hx (by rw [cellsL_len, hm]) (fun j u hj => ?_) (fun u hu => ?_) (by simp only [maxLen]; omega) (by omega) hbase
    (fun v' w' h1 h2 _ => hK v' w' (by rw [cellsL_app]; exact h1) h2)
  · rw [Addr.add_mid, Nat.zero_add]
    exact (hH.cell j).trans ((List.getElem?_toArray (xs := cellsL k f rs)).trans hj)
  · obtain ⟨r, _, hr⟩ := List.mem_flatMap.1 hu
    obtain ⟨j, _, rfl⟩ := List.mem_map.1 hr
    exact h1f _ _
theorem wp_append_els {α : Type} {f : α → Nat → Value} {P : Program} {st e : TypeId} {k by' : Nat} {z : Value} (hu : P.underlying st = some (.slice e)) (hinfo : (P.info? e).map (fun i => (i.zero, i.size, i.bytes)) = some (some z, k, by')) (hzs : z.cells.size = k) (hk : 0 < k) (hby : by' ≤ 1000) (h1f : ∀ x j, (f x j).oneCell' = true)
    {w : World} {ops : Array Oper} {rest : List Oper} {op : Oper} {a : Act} {Q : Exit → Act → World → Prop} (hgd : op.guard = none) (s x : Operand)
    (ho : op.op = .call { callee := .builtin .append, args := #[s, x], argTypes := #[st, st] }) (base : Nat) (v : Value) (n : Nat) (qs : List α) (hs : a.eval s = v)
    (hown : w.ownsRow base e k v n (cellsL k f qs)) (h m : Nat) (hx : a.eval x = .slice (some ⟨h, 0, none⟩) m m) (rs : List α) (hm : rs.length = m) (hH : Has w h e (cellsL k f rs).toArray) (h63 : n + m ≤ 1000000) (hbase : base ≤ w.heap.size)
    (hK : ∀ v' w', w'.ownsRow base e k v' (n + m) (cellsL k f (qs ++ rs)) → w.grownBy w' v.ownBlock → wpList P ops Q rest (a.put op.dst v') w') : wpList P ops Q (op :: rest) a w :=
  wpList_plain hgd fun _ hK2 => wp_append_elsK hu hinfo hzs hk hby h1f s x ho base v n qs hs hown h m hx rs hm hH h63 hbase fun v' w' h1 h2 => hK2 _ _ (hK v' w' h1 h2)
/-- a grant's cells, an entry's, a run's -/
def grV (g : Gr) : Nat → Value
  | 0 => .int .u32 (g.s : Int)
  | 1 => .int .u32 (g.z : Int)
  | _ => .int .i64 g.r
def enV (e : En) : Nat → Value
  | 0 => .int .i64 e.w
  | 1 => .int .i64 e.r
  | _ => .int .u32 (e.a : Int)
def ruV (q : Sp) : Nat → Value
  | 0 => .int .u64 (q.f : Int)
  | 1 => .int .u64 (q.t : Int)
  | _ => .int .i64 q.r
def gr0 : Gr := ⟨0, 0, 0⟩
def en0 : En := ⟨0, 0, 0⟩
def sp0 : Sp := ⟨0, 0, 0⟩
def i64ok (z : Int) : Prop := -9223372036854775808 ≤ z ∧ z ≤ 9223372036854775807
structure Gr.Wf (g : Gr) : Prop where
  s : g.s < 4294967296
  z : g.z < 4294967296
  r : i64ok g.r
structure En.Wf (e : En) : Prop where
  w : i64ok e.w
  r : i64ok e.r
  a : e.a < 4294967296
/-- the slice reads as grants, as entries, as runs -/
def SlG (w : World) (s : Sl) (gs : List Gr) : Prop := gs.length = s.n ∧ SlC w s 3 (fun j i => grV (gs.getD j gr0) i) ∧ ∀ g ∈ gs, g.Wf
def SlE (w : World) (s : Sl) (es : List En) : Prop := es.length = s.n ∧ SlC w s 3 (fun j i => enV (es.getD j en0) i) ∧ ∀ e ∈ es, e.Wf
def SlR (w : World) (s : Sl) (rs : List Sp) : Prop := rs.length = s.n ∧ SlC w s 3 (fun j i => ruV (rs.getD j sp0) i)
section
variable {w w' : World} {s : Sl} {gs : List Gr} {es : List En} {rs : List Sp}
theorem SlG.below (h : SlG w s gs) (k : Below w.heap.size w w') : SlG w' s gs := ⟨h.1, h.2.1.below k, h.2.2⟩
theorem SlE.below (h : SlE w s es) (k : Below w.heap.size w w') : SlE w' s es := ⟨h.1, h.2.1.below k, h.2.2⟩
theorem SlR.below (h : SlR w s rs) (k : Below w.heap.size w w') : SlR w' s rs := ⟨h.1, h.2.below k⟩
theorem SlG.wf (h : SlG w s gs) {j : Nat} (hj : j < s.n) : (gs.getD j gr0).Wf := by
  have : j < gs.length := by rw [h.1]; exact hj
  rw [List.getD_eq_getElem?_getD, List.getElem?_eq_getElem this]
  exact h.2.2 _ (List.getElem_mem _)
theorem SlE.wf (h : SlE w s es) {j : Nat} (hj : j < s.n) : (es.getD j en0).Wf := by
  have : j < es.length := by rw [h.1]; exact hj
  rw [List.getD_eq_getElem?_getD, List.getElem?_eq_getElem this]
  exact h.2.2 _ (List.getElem_mem _)
end
theorem grV_one (g : Gr) (j : Nat) : (grV g j).oneCell' = true := by unfold grV; split <;> rfl
theorem enV_one (e : En) (j : Nat) : (enV e j).oneCell' = true := by unfold enV; split <;> rfl
theorem infoE : (Tryd.prog.info? 38).map (·.size) = some 3 := by kernel_rfl
theorem infoEb : (Tryd.prog.info? 38).map (fun i => (i.zero, i.size, i.bytes)) = some (some (.agg #[.int .i64 0, .int .i64 0, .int .u32 0]), 3, 24) := by kernel_rfl
theorem at_entry (b o n c j : Nat) (hj : (j : Int) < (n : Int)) (w : World) : (Instr.indexAt 31 (.slice (some ⟨b, o, none⟩) n c) (.int .i64 (j : Int))).run Tryd.prog w = .ok (.pointer (some ⟨b, o + j * 3, none⟩)) w := by
  have h2 := Addr.add_mid b o (j * 3)
  go_simp
end Go.Proofs.YthaockngbagdhaaDoor.Pm
