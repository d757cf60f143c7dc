/-
Layer 12, plain: grants, entries, what they match; a plan permits just its grants.
Layer 12: rows of structs in memory: slices that came in, rows of the call's own; for any element.
Layer 12: the library's table that Napot entries are read with (math/bits.deBruijn32tab), in the world.
Layer 12: the reference's Range.
Layer 12: the reference's Range, whole; its Byte.
Layer 12: the reference's Byte.
Layer 12: the reference's Plan.
Layer 12: the law's plain.
Layer 12: what package pmp's calls answer (contracts); the law's example.
Layer 14: package alu's Goes, Width, Widen, and what its calls answer.
-/
import Derived.Test.YtgpofoggfifnjaaGreatDoorJAa
import Derived.Test.YtgpofoggfifnjaaGreatDoorJAb
import Derived.Test.YtgpofoggfifnjaaGreatDoorJAl
import Derived.Deep.WholeRow
import Derived.OwnWalk
import Derived.Great.BuildSlice
import Derived.Great.FillDense
import Derived.Lib.TrailingZeros
import Derived.Lib.Hide
import Derived.BigQuiet
import Derived.Deep.DeepCutAuto
namespace Go.Proofs.YtgpofoggfifnjaaGreatDoor.Pm
/-- a grant: start, size, rights -/
structure Gr where
  s : Nat
  z : Nat
  r : Int
/-- an entry: way, rights, address -/
structure En where
  w : Int
  r : Int
  a : Nat
/-- how many ones a number ends in -/
def onesF : Nat → Nat → Nat
  | 0, _ => 0
  | n + 1, a => if a % 2 = 1 then onesF n (a / 2) + 1 else 0
def napS (a : Nat) : Nat := 8 * 2 ^ onesF 32 a
/-- the bytes of an entry, the one ahead of it at address p -/
def rangeP (p : Nat) (e : En) : Nat × Nat :=
  if e.w = 1 then (if 4 * e.a ≤ 4 * p then (4 * p, 4 * p) else (4 * p, 4 * e.a))
  else if e.w = 2 then (4 * e.a, 4 * e.a + 4)
  else if e.w = 3 then (4 * e.a / napS e.a * napS e.a, 4 * e.a / napS e.a * napS e.a + napS e.a)
  else (0, 0)
/-- a span of bytes with rights -/
structure Sp where
  f : Nat
  t : Nat
  r : Int
def tri (p : Nat) : List En → List Sp
  | [] => []
  | e :: l => ⟨(rangeP p e).1, (rangeP p e).2, e.r⟩ :: tri e.a l
def overB (q : Sp) (at' n : Nat) : Bool := decide (q.f < at' + n) && decide (at' < q.t) && decide (q.f < q.t)
def inB' (q : Sp) (at' n : Nat) : Bool := decide (q.f ≤ at') && decide (at' + n ≤ q.t)
def andR (r : Int) (right : Nat) : Nat := r.toNat &&& right
def checkT : List Sp → Nat → Nat → Nat → Bool
  | [], _, _, _ => false
  | q :: l, at', n, right => if overB q at' n then (inB' q at' n && decide (andR q.r right = right)) else checkT l at' n right
def withinG (g : Gr) (at' n : Nat) : Bool := decide (g.s ≤ at') && decide (at' + n ≤ g.s + g.z)
def mayB (l : List Gr) (at' n right : Nat) : Bool := l.any fun g => decide (andR g.r right = right) && withinG g at' n
/- runs -/
/- runs -/
/- how many bytes -/
end Go.Proofs.YtgpofoggfifnjaaGreatDoor.Pm
namespace Go.Proofs.YtgpofoggfifnjaaGreatDoor.Pm
open Go Go.RowKit

/-- a slice's three parts -/
structure Sl where
  A : Option Addr
  n : Nat
  c : Nat
def Sl.v (s : Sl) : Value := .slice s.A s.n s.c
/-- n elements of k cells each lie where the slice says -/
def SlC (w : World) (s : Sl) (k : Nat) (cs : Nat → Nat → Value) : Prop :=
  (s.n ≤ s.c ∧ s.n ≤ 140737488355328) ∧ (0 < s.n → ∃ b o, s.A = some ⟨b, o, none⟩ ∧ b < w.heap.size ∧ ∀ j i, j < s.n → i < k → w.cell? ⟨b, o + j * k + i, none⟩ = some (cs j i))
theorem SlC.below {w w' : World} {s : Sl} {k : Nat} {cs : Nat → Nat → Value} (h : SlC w s k cs) (hb : Below w.heap.size w w') : SlC w' s k cs := by
  refine ⟨h.1, fun hn => ?_⟩
  obtain ⟨b, o, e, hlt, hc⟩ := h.2 hn
  exact ⟨b, o, e, Nat.lt_of_lt_of_le hlt hb.size, fun j i hj hi => (hb.cell (p := ⟨b, o + j * k + i, none⟩) hlt).trans (hc j i hj hi)⟩
/-- a variable of a type of many cells, laid and filled -/
theorem wp_fresh {P : Program} {w : World} {ops : Array Oper} {rest : List Oper} {o1 o2 : Oper} {a : Act} {Q : Exit → Act → World → Prop} (ty : TypeId) (n : Nat) (v z : Nat → Value) (x y : Operand)
    (hg1 : o1.guard = none) (h1 : o1.op = .alloc ty) (hg2 : o2.guard = none) (h2 : o2.op = .store ty x y)
    (hz : ∀ w, (zeroValue ty).run P w = .ok (.agg (tab n z)) w) (hi : (P.info? ty).map (·.size) = some n) (_hn : 0 < n) (h1v : ∀ j, (v j).oneCell' = true)
    (hx : (a.put o1.dst (.pointer (some ⟨w.heap.size, 0, none⟩))).eval x = .pointer (some ⟨w.heap.size, 0, none⟩)) (hy : (a.put o1.dst (.pointer (some ⟨w.heap.size, 0, none⟩))).eval y = .agg (tab n v))
    (h : ∀ w', Has w' w.heap.size ty (tab n v) → Below w.heap.size w w' → w.heap.size < w'.heap.size → wpList P ops Q rest ((a.put o1.dst (.pointer (some ⟨w.heap.size, 0, none⟩))).put o2.dst undef) w') : wpList P ops Q (o1 :: o2 :: rest) a w := by
  refine wpList_plain hg1 fun K hK => ?_
  unfold Oper.wp execOp
  simp only [h1, Instr.alloc, Sem.run_bind, hz, Result.andThen_ok]
  have hnv : (newVar ty (.agg (tab n z))).run P w = .ok ⟨w.heap.size, 0, none⟩ (w.alloc (.cells (tab n z) ty)) := by
    go_simp
  simp only [hnv, Result.andThen_ok, Sem.run_pure]
  refine hK _ _ ?_
  refine wp_store_tab hg2 ty x y h2 w.heap.size 0 hx n v hy n z ty (Has.new _ _ _) hi (by omega) h1v ?_
  intro w' hh hg
  have e : (tab n fun j => if 0 ≤ j ∧ j < 0 + n then v (j - 0) else z j) = tab n v := tab_ext _ _ _ fun j hj => by rw [if_pos ⟨Nat.zero_le _, by omega⟩]; rfl
  rw [e] at hh
  have hb1 : Below w.heap.size w (w.alloc (.cells (tab n z) ty)) := (Below.refl _ _).alloc (Nat.le_refl _) _
  have hb2 := hb1.trans (below_of_only hg (Nat.le_refl _) (by simp))
  exact h w' hh hb2 hh.lt
/-- what the element lies as -/
theorem SlC.range {w : World} {s : Sl} {k : Nat} {cs : Nat → Nat → Value} (h : SlC w s k cs) {b o : Nat} (hA : s.A = some ⟨b, o, none⟩) {j : Nat} (hj : j < s.n) : w.rangeAt b (o + j * k) ((List.range k).map (cs j)) := fun i v hv => by
  have hi : i < k := by have := (List.getElem?_eq_some_iff.1 hv).1; simpa using this
  obtain ⟨b', o', e, _, hc⟩ := h.2 (by omega)
  obtain ⟨rfl, rfl⟩ : b' = b ∧ o' = o := by
    have := hA.symm.trans e
    injection this with this
    injection this with e1 e2
    exact ⟨e1.symm, e2.symm⟩
  rw [hc j i hj hi, ← hv]
  simp [hi]
theorem own_blk {w : World} {base size n : Nat} {e : TypeId} {v : Value} {xs : List Value} (h : w.ownsRow base e size v n xs) {l : Nat} (hl : v.ownBlock = some l) : base ≤ l ∧ l < w.heap.size := by
  rcases h.2 with ⟨rfl, _⟩ | ⟨g, cap, cur, rfl, hb, hg, _⟩
  · cases hl
  · have : g = l := by simpa [Value.ownBlock] using hl
    subst this
    exact ⟨hb, (Array.getElem?_eq_some_iff.1 hg).1⟩
theorem below_own {a w w' : World} {B base size n : Nat} {e : TypeId} {v : Value} {xs : List Value} (hb : Below B a w) (h : w.ownsRow base e size v n xs) (hB : B ≤ base) (hw : B ≤ w.heap.size) (k : w.grownBy w' v.ownBlock) : Below B a w' := by
  refine hb.trans ⟨k.os, k.tape, k.output, k.size, fun i hi => k.block i (by omega) (fun he => ?_)⟩
  have := own_blk h he.symm
  omega
theorem own_after {w w' : World} {base size n : Nat} {e : TypeId} {v : Value} {xs : List Value} (h : w.ownsRow base e size v n xs) (k : Below w.heap.size w w') : w'.ownsRow base e size v n xs := by
  refine ⟨h.1, ?_⟩
  rcases h.2 with h1 | ⟨g, cap, cur, h1, hb, hg, h3⟩
  · exact .inl h1
  · exact .inr ⟨g, cap, cur, h1, hb, (k.block g (Array.getElem?_eq_some_iff.1 hg).1).trans hg, h3⟩
/-- the cells of elements, one behind the other -/
def cellsL {α : Type} (k : Nat) (f : α → Nat → Value) (xs : List α) : List Value := xs.flatMap fun x => (List.range k).map (f x)
theorem cellsL_len {α : Type} (k : Nat) (f : α → Nat → Value) : ∀ xs : List α, (cellsL k f xs).length = xs.length * k
  | [] => by simp [cellsL]
  | q :: qs => by
    have := cellsL_len k f qs
    simp only [cellsL, List.flatMap_cons, List.length_append, List.length_map, List.length_range, List.length_cons] at this ⊢
    rw [this, Nat.succ_mul]; omega
theorem cellsL_get {α : Type} (k : Nat) (f : α → Nat → Value) (d : α) : ∀ (qs : List α) (j i : Nat), j < qs.length → i < k → (cellsL k f qs)[j * k + i]? = some (f (qs.getD j d) i)
  | [], j, i, h, _ => by simp at h
  | q :: qs, 0, i, _, hi => by
    show ((List.range k).map (f q) ++ cellsL k f qs)[0 * k + i]? = _
    rw [Nat.zero_mul, Nat.zero_add, List.getElem?_append_left (by simpa using hi)]
    simp [hi]
  | q :: qs, j + 1, i, h, hi => by
    have h2 := cellsL_get k f d qs j i (by simpa using h) hi
    show ((List.range k).map (f q) ++ cellsL k f qs)[(j + 1) * k + i]? = _
    rw [show (j + 1) * k + i = k + (j * k + i) by rw [Nat.succ_mul]; omega, List.getElem?_append_right (by simp)]
    simpa using h2
/-- a row of elements reads as elements -/
theorem own_slC {α : Type} {f : α → Nat → Value} {w : World} {base n c k : Nat} {e : TypeId} {A : Option Addr} {xs : List α} (h : w.ownsRow base e k (.slice A n c) n (cellsL k f xs)) (hk : 0 < k) (hn : n ≤ 140737488355328) (d : α) :
    xs.length = n ∧ SlC w ⟨A, n, c⟩ k fun j i => f (xs.getD j d) i := by
  have hl : xs.length = n := by
    have h1 := h.1
    rw [cellsL_len] at h1
    exact Nat.eq_of_mul_eq_mul_right hk h1
  refine ⟨hl, ⟨?_, hn⟩, fun h0 => ?_⟩
  · rcases h.2 with ⟨hv, h0⟩ | ⟨g, cap, cur, hv, hb, hg, hnc, _⟩
    · show n ≤ c
      omega
    · have e2 : c = cap := by injection hv
      show n ≤ c
      omega
  · replace h0 : 0 < n := h0
    rcases h.2 with ⟨hv, h1⟩ | ⟨g, cap, cur, hv, hb, hg, hnc, _⟩
    · omega
    · have e1 : A = some ⟨g, 0, none⟩ := by injection hv
      subst e1
      have hc := h.cells (g := g) rfl
      refine ⟨g, 0, rfl, (Array.getElem?_eq_some_iff.1 hg).1, fun j i hj hi => ?_⟩
      replace hj : j < n := hj
      have := hc (j * k + i) _ (cellsL_get k f d xs j i (by omega) hi)
      rw [Addr.add_mid] at this
      rw [Nat.add_assoc]
      exact this
/-- a grant's cells, an entry's, a run's -/
def grV (g : Gr) : Nat → Value
  | 0 => .int .u32 (g.s : Int)
  | 1 => .int .u32 (g.z : Int)
  | _ => .int .i64 g.r
def enV (e : En) : Nat → Value
  | 0 => .int .i64 e.w
  | 1 => .int .i64 e.r
  | _ => .int .u32 (e.a : Int)
def en0 : En := ⟨0, 0, 0⟩
def i64ok (z : Int) : Prop := -9223372036854775808 ≤ z ∧ z ≤ 9223372036854775807
structure En.Wf (e : En) : Prop where
  w : i64ok e.w
  r : i64ok e.r
  a : e.a < 4294967296
def SlE (w : World) (s : Sl) (es : List En) : Prop := es.length = s.n ∧ SlC w s 3 (fun j i => enV (es.getD j en0) i) ∧ ∀ e ∈ es, e.Wf
section
variable {w w' : World} {s : Sl} {gs : List Gr} {es : List En} {rs : List Sp}
theorem SlE.below (h : SlE w s es) (k : Below w.heap.size w w') : SlE w' s es := ⟨h.1, h.2.1.below k, h.2.2⟩
theorem SlE.wf (h : SlE w s es) {j : Nat} (hj : j < s.n) : (es.getD j en0).Wf := by
  have : j < es.length := by rw [h.1]; exact hj
  rw [List.getD_eq_getElem?_getD, List.getElem?_eq_getElem this]
  exact h.2.2 _ (List.getElem_mem _)
end
theorem enV_one (e : En) (j : Nat) : (enV e j).oneCell' = true := by unfold enV; split <;> rfl
theorem infoE : (Tryz.prog.info? 38).map (·.size) = some 3 := by kernel_rfl
theorem infoEb : (Tryz.prog.info? 38).map (fun i => (i.zero, i.size, i.bytes)) = some (some (.agg #[.int .i64 0, .int .i64 0, .int .u32 0]), 3, 24) := by kernel_rfl
theorem at_entry (b o n c j : Nat) (hj : (j : Int) < (n : Int)) (w : World) : (Instr.indexAt 24 (.slice (some ⟨b, o, none⟩) n c) (.int .i64 (j : Int))).run Tryz.prog w = .ok (.pointer (some ⟨b, o + j * 3, none⟩)) w := by
  have h2 := Addr.add_mid b o (j * 3)
  go_simp
end Go.Proofs.YtgpofoggfifnjaaGreatDoor.Pm
namespace Go.Proofs.YtgpofoggfifnjaaGreatDoor.Pm
open Go Go.RowKit

/-- the library's table, in the world -/
structure TabT (w : World) : Prop where
  c : ∀ i, i < 32 → w.cell? ⟨1, i, none⟩ = some (.int .u8 (Go.Lib.deBruijn32tab.getD i 0))
  size : 1 < w.heap.size
theorem TabT.below {w w' : World} (h : TabT w) (hb : Below w.heap.size w w') : TabT w' :=
  have hs := h.size
  ⟨fun i hi => (hb.cell (p := ⟨_, i, none⟩) (show _ < w.heap.size from hs)).trans (h.c i hi), Nat.lt_of_lt_of_le hs hb.size⟩
end Go.Proofs.YtgpofoggfifnjaaGreatDoor.Pm
namespace Go.Proofs.YtgpofoggfifnjaaGreatDoor.Pm
open Go Go.RowKit

/-- the bytes of entry i -/
def rangeI (es : List En) (i : Nat) : Nat × Nat := rangeP (if i = 0 then 0 else (es.getD (i - 1) en0).a) (es.getD i en0)
theorem onesF_le : ∀ n a, onesF n a ≤ n
  | 0, _ => Nat.le_refl _
  | n + 1, a => by
    unfold onesF
    split
    · have := onesF_le n (a / 2); omega
    · omega
theorem onesF_step (n a : Nat) (h : a % 2 = 1) : onesF (n + 1) a = onesF n (a / 2) + 1 := by
  show (if a % 2 = 1 then _ else _) = _
  rw [if_pos h]
theorem onesF_zero (n a : Nat) (h : a % 2 ≠ 1) : onesF n a = 0 := by
  cases n with
  | zero => rfl
  | succ n => show (if a % 2 = 1 then _ else _) = _; rw [if_neg h]
theorem rng_w1a {p : Nat} {e : En} (hw : e.w = 1) (h : 4 * e.a ≤ 4 * p) : rangeP p e = (4 * p, 4 * p) := by unfold rangeP; rw [if_pos hw, if_pos h]
theorem rng_w1b {p : Nat} {e : En} (hw : e.w = 1) (h : ¬4 * e.a ≤ 4 * p) : rangeP p e = (4 * p, 4 * e.a) := by unfold rangeP; rw [if_pos hw, if_neg h]
theorem rng_w2 {p : Nat} {e : En} (hw : e.w = 2) : rangeP p e = (4 * e.a, 4 * e.a + 4) := by unfold rangeP; rw [if_neg (by omega), if_pos hw]
theorem rng_w3 {p : Nat} {e : En} (hw : e.w = 3) : rangeP p e = (4 * e.a / napS e.a * napS e.a, 4 * e.a / napS e.a * napS e.a + napS e.a) := by unfold rangeP; rw [if_neg (by omega), if_neg (by omega), if_pos hw]
theorem rng_w0 {p : Nat} {e : En} (h1 : e.w ≠ 1) (h2 : e.w ≠ 2) (h3 : e.w ≠ 3) : rangeP p e = (0, 0) := by unfold rangeP; rw [if_neg h1, if_neg h2, if_neg h3]
theorem pow32 {k : Nat} (h : k ≤ 32) : 2 ^ k ≤ 4294967296 := Nat.le_trans (Nat.pow_le_pow_right (by decide) h) (by decide)
end Go.Proofs.YtgpofoggfifnjaaGreatDoor.Pm
namespace Go.Proofs.YtgpofoggfifnjaaGreatDoor.Pm
open Go Go.RowKit

theorem tri_at (es : List En) : ∀ (p i : Nat) (_hi : i < es.length), (tri p es)[i]? = some ⟨(rangeP (if i = 0 then p else (es.getD (i - 1) en0).a) (es.getD i en0)).1, (rangeP (if i = 0 then p else (es.getD (i - 1) en0).a) (es.getD i en0)).2, (es.getD i en0).r⟩ := by
  induction es with
  | nil => intro p i hi; cases hi
  | cons e l ih =>
    intro p i hi
    cases i with
    | zero => rfl
    | succ i =>
      have h := ih e.a i (by simpa using hi)
      show (tri e.a l)[i]? = _
      rw [h]
      cases i with
      | zero => rfl
      | succ i => rfl
theorem tri_len (es : List En) : ∀ p, (tri p es).length = es.length := by
  induction es with
  | nil => intro p; rfl
  | cons e l ih => intro p; show (tri e.a l).length + 1 = _; rw [ih]; rfl
end Go.Proofs.YtgpofoggfifnjaaGreatDoor.Pm
namespace Go.Proofs.YtgpofoggfifnjaaGreatDoor.Pm
open Go Go.RowKit

end Go.Proofs.YtgpofoggfifnjaaGreatDoor.Pm
namespace Go.Proofs.YtgpofoggfifnjaaGreatDoor.Pm
open Go Go.RowKit

/-- a row of two elements -/
theorem wp_build_el2 {α : Type} {f : α → Nat → Value} {P : Program} {st e : TypeId} {k by' : Nat} {z : Value} (hu : P.underlying st = some (.slice e)) (hinfo : (P.info? e).map (fun i => (i.zero, i.size, i.bytes)) = some (some z, k, by')) (hk : 0 < k) (hk2 : k ≤ 1000)
    {w : World} {ops : Array Oper} {rest : List Oper} {o : Oper} {a : Act} {Q : Exit → Act → World → Prop} (hg : o.guard = none) (x y : Operand) (ho : o.op = .buildSlice st 2 #[(0, x), (1, y)]) (q r : α) (hx : a.eval x = .agg (tab k (f q))) (hy : a.eval y = .agg (tab k (f r)))
    (h : ∀ w', w' = w.alloc (.cells (cellsL k f [q, r]).toArray e) → wpList P ops Q rest (a.put o.dst (.slice (some ⟨w.heap.size, 0, none⟩) 2 2)) w') : wpList P ops Q (o :: rest) a w := by
  obtain ⟨i5, hi5, hz5, hs5, hb5⟩ := info_parts hinfo
  refine wpList_buildSlice hg st e 2 #[(0, x), (1, y)] ho (cellsL k f [q, r]).toArray i5 _ hu hi5 hz5 (by rw [hs5]; omega) (by rw [hs5]; omega) ?_ (h _ rfl)
  rw [hs5]
  simp only [List.map_toArray, List.map_cons, List.map_nil, hx, hy]
  refine (Great.fill_whole (s := k) hk [.agg (tab k (f q)), .agg (tab k (f r))] _ (fun v hv => by
    rcases List.mem_cons.1 hv with rfl | hv
    · exact tab_size _ _
    · rw [List.mem_singleton.1 hv]; exact tab_size _ _) (by simp)).trans ?_
  simp [Value.cells, cellsL, tab]
theorem size_alloc1 (w : World) (o : Obj) : (w.alloc o).heap.size = w.heap.size + 1 := Array.size_push _
theorem one_new (w : World) (u : Array Value) (t : TypeId) : ∃ wa, wa = w.alloc (.cells u t) ∧ Has wa w.heap.size t u ∧ Below w.heap.size w wa ∧ wa.heap.size = w.heap.size + 1 :=
  ⟨_, rfl, Has.new w t u, (Below.refl _ _).alloc (Nat.le_refl _) _, size_alloc1 w _⟩
end Go.Proofs.YtgpofoggfifnjaaGreatDoor.Pm
namespace Go.Proofs.YtgpofoggfifnjaaGreatDoor.Pm
open Go Go.RowKit

/-- entries whose ways and rights are ones that there are -/
def plainL (es : List En) : Prop := (∀ e ∈ es, 0 ≤ e.w ∧ e.w ≤ 3 ∧ 0 ≤ e.r ∧ e.r ≤ 7) ∧ es.length ≤ 40
end Go.Proofs.YtgpofoggfifnjaaGreatDoor.Pm
namespace Go.Proofs.YtgpofoggfifnjaaGreatDoor.Pm
open Go Go.RowKit

/- the example -/
end Go.Proofs.YtgpofoggfifnjaaGreatDoor.Pm
namespace Go.Proofs.YtgpofoggfifnjaaGreatDoor.Al
open Go Go.RowKit

theorem w8_is (x : Int) : IntKind.i8.wrap x = if 128 ≤ x % 256 then x % 256 - 256 else x % 256 := by
  simp [IntKind.wrap, IntKind.signed, IntKind.bits]
theorem w16_is (x : Int) : IntKind.i16.wrap x = if 32768 ≤ x % 65536 then x % 65536 - 65536 else x % 65536 := by
  simp [IntKind.wrap, IntKind.signed, IntKind.bits]
theorem wu16_is (x : Int) : IntKind.u16.wrap x = x % 65536 := by
  simp [IntKind.wrap, IntKind.signed, IntKind.bits]
set_option maxRecDepth 100000 in
set_option maxHeartbeats 4000000 in
theorem gs_5 (a b : Nat) (w : World) (_ha : a < 4294967296) (_hb : b < 4294967296) : Calls Tryz.prog 89 #[.int .i64 5, .int .u32 (a : Int), .int .u32 (b : Int)] w fun e w' => e = .returned (.tuple #[.bool (decide (a = b)), .bool true]) ∧ w = w' := by
  have hd : ((a : Int) == (b : Int)) = decide (a = b) := by rw [Bool.eq_iff_iff]; simp; omega
  generalize decide (a = b) = d at *
  go_enter Tryz.func89, Tryz.ntmps89
  go_wp2_with fail
  go_ret2
  exact ⟨rfl, rfl⟩
set_option maxRecDepth 100000 in
set_option maxHeartbeats 4000000 in
theorem gs_6 (a b : Nat) (w : World) (_ha : a < 4294967296) (_hb : b < 4294967296) : Calls Tryz.prog 89 #[.int .i64 6, .int .u32 (a : Int), .int .u32 (b : Int)] w fun e w' => e = .returned (.tuple #[.bool (decide (a ≠ b)), .bool true]) ∧ w = w' := by
  have hd : ((a : Int) != (b : Int)) = decide (a ≠ b) := by rw [Bool.eq_iff_iff]; simp; omega
  generalize decide (a ≠ b) = d at *
  go_enter Tryz.func89, Tryz.ntmps89
  go_wp2_with fail
  go_ret2
  exact ⟨rfl, rfl⟩
set_option maxRecDepth 100000 in
set_option maxHeartbeats 4000000 in
theorem gs_7 (a b : Nat) (w : World) (ha : a < 4294967296) (hb : b < 4294967296) : Calls Tryz.prog 89 #[.int .i64 7, .int .u32 (a : Int), .int .u32 (b : Int)] w fun e w' => e = .returned (.tuple #[.bool (decide (sgA a < sgA b)), .bool true]) ∧ w = w' := by
  have kl := fun W => less_any a b W ha hb
  generalize decide (sgA a < sgA b) = d at *
  go_enter Tryz.func89, Tryz.ntmps89
  go_wp2_with (first
    | (go_at_call 106; with_reducible refine ((kl _)).mono ?_; rintro e w1 ⟨rfl, rfl⟩))
  go_ret2
  exact ⟨rfl, rfl⟩
set_option maxRecDepth 100000 in
set_option maxHeartbeats 4000000 in
theorem gs_8 (a b : Nat) (w : World) (ha : a < 4294967296) (hb : b < 4294967296) : Calls Tryz.prog 89 #[.int .i64 8, .int .u32 (a : Int), .int .u32 (b : Int)] w fun e w' => e = .returned (.tuple #[.bool (decide (sgA b ≤ sgA a)), .bool true]) ∧ w = w' := by
  have kl := fun W => less_any a b W ha hb
  have hd : (!decide (sgA a < sgA b)) = decide (sgA b ≤ sgA a) := by rw [Bool.eq_iff_iff]; simp
  generalize decide (sgA a < sgA b) = c at *
  generalize decide (sgA b ≤ sgA a) = d at *
  go_enter Tryz.func89, Tryz.ntmps89
  go_wp2_with (first
    | (go_at_call 106; with_reducible refine ((kl _)).mono ?_; rintro e w1 ⟨rfl, rfl⟩))
  go_ret2
  exact ⟨rfl, rfl⟩
set_option maxRecDepth 100000 in
set_option maxHeartbeats 4000000 in
theorem gs_9 (a b : Nat) (w : World) (_ha : a < 4294967296) (_hb : b < 4294967296) : Calls Tryz.prog 89 #[.int .i64 9, .int .u32 (a : Int), .int .u32 (b : Int)] w fun e w' => e = .returned (.tuple #[.bool (decide (a < b)), .bool true]) ∧ w = w' := by
  have hd : decide ((a : Int) < (b : Int)) = decide (a < b) := by simp
  generalize hd2 : decide (a < b) = d at *
  go_enter Tryz.func89, Tryz.ntmps89
  go_wp2_with fail
  go_ret2
  exact ⟨rfl, rfl⟩
set_option maxRecDepth 100000 in
set_option maxHeartbeats 4000000 in
theorem gs_10 (a b : Nat) (w : World) (_ha : a < 4294967296) (_hb : b < 4294967296) : Calls Tryz.prog 89 #[.int .i64 10, .int .u32 (a : Int), .int .u32 (b : Int)] w fun e w' => e = .returned (.tuple #[.bool (decide (b ≤ a)), .bool true]) ∧ w = w' := by
  have hd : decide ((b : Int) ≤ (a : Int)) = decide (b ≤ a) := by simp
  generalize hd2 : decide (b ≤ a) = d at *
  go_enter Tryz.func89, Tryz.ntmps89
  go_wp2_with fail
  go_ret2
  exact ⟨rfl, rfl⟩
set_option maxRecDepth 100000 in
set_option maxHeartbeats 4000000 in
theorem gs_no (op : Int) (a b : Nat) (w : World) (h : op < 5 ∨ 10 < op) : Calls Tryz.prog 89 #[.int .i64 op, .int .u32 (a : Int), .int .u32 (b : Int)] w fun e w' => e = .returned (.tuple #[.bool false, .bool false]) ∧ w = w' := by
  have d5 : (op == 5) = false := beq_eq_false_iff_ne.2 (by omega)
  have d6 : (op == 6) = false := beq_eq_false_iff_ne.2 (by omega)
  have d7 : (op == 7) = false := beq_eq_false_iff_ne.2 (by omega)
  have d8 : (op == 8) = false := beq_eq_false_iff_ne.2 (by omega)
  have d9 : (op == 9) = false := beq_eq_false_iff_ne.2 (by omega)
  have d10 : (op == 10) = false := beq_eq_false_iff_ne.2 (by omega)
  clear h
  go_enter Tryz.func89, Tryz.ntmps89
  go_wp2_with fail
  go_ret2
  exact ⟨rfl, rfl⟩
theorem goes_is (op : Int) (a b : Nat) (w : World) (ha : a < 4294967296) (hb : b < 4294967296) : Calls Tryz.prog 89 #[.int .i64 op, .int .u32 (a : Int), .int .u32 (b : Int)] w fun e w' => e = .returned (.tuple #[.bool (goesN op a b).1, .bool (goesN op a b).2]) ∧ w = w' := by
  by_cases h5 : op = 5
  · subst h5; exact gs_5 a b w ha hb
  by_cases h6 : op = 6
  · subst h6; exact gs_6 a b w ha hb
  by_cases h7 : op = 7
  · subst h7; exact gs_7 a b w ha hb
  by_cases h8 : op = 8
  · subst h8; exact gs_8 a b w ha hb
  by_cases h9 : op = 9
  · subst h9; exact gs_9 a b w ha hb
  by_cases h10 : op = 10
  · subst h10; exact gs_10 a b w ha hb
  rw [show goesN op a b = (false, false) by unfold goesN; simp only [h5, h6, h7, h8, h9, h10, if_false]]
  exact gs_no op a b w (by omega)
set_option maxRecDepth 100000 in
set_option maxHeartbeats 4000000 in
theorem width_is (op : Int) (w : World) : Calls Tryz.prog 91 #[.int .i64 op] w fun e w' => e = .returned (.int .i64 (widthN op)) ∧ w = w' := by
  by_cases h11 : op = 11
  · subst h11
    go_enter Tryz.func91, Tryz.ntmps91
    go_wp2_with fail
    go_ret
    exact ⟨rfl, rfl⟩
  by_cases h12 : op = 12
  · subst h12
    go_enter Tryz.func91, Tryz.ntmps91
    go_wp2_with fail
    go_ret
    exact ⟨rfl, rfl⟩
  by_cases h13 : op = 13
  · subst h13
    go_enter Tryz.func91, Tryz.ntmps91
    go_wp2_with fail
    go_ret
    exact ⟨rfl, rfl⟩
  by_cases h14 : op = 14
  · subst h14
    go_enter Tryz.func91, Tryz.ntmps91
    go_wp2_with fail
    go_ret
    exact ⟨rfl, rfl⟩
  by_cases h15 : op = 15
  · subst h15
    go_enter Tryz.func91, Tryz.ntmps91
    go_wp2_with fail
    go_ret
    exact ⟨rfl, rfl⟩
  by_cases h16 : op = 16
  · subst h16
    go_enter Tryz.func91, Tryz.ntmps91
    go_wp2_with fail
    go_ret
    exact ⟨rfl, rfl⟩
  by_cases h17 : op = 17
  · subst h17
    go_enter Tryz.func91, Tryz.ntmps91
    go_wp2_with fail
    go_ret
    exact ⟨rfl, rfl⟩
  by_cases h18 : op = 18
  · subst h18
    go_enter Tryz.func91, Tryz.ntmps91
    go_wp2_with fail
    go_ret
    exact ⟨rfl, rfl⟩
  rw [show widthN op = 0 by unfold widthN; simp only [h11, h12, h13, h14, h15, h16, h17, h18, or_self, if_false]]
  have d11 : (op == 11) = false := beq_eq_false_iff_ne.2 (by omega)
  have d12 : (op == 12) = false := beq_eq_false_iff_ne.2 (by omega)
  have d13 : (op == 13) = false := beq_eq_false_iff_ne.2 (by omega)
  have d14 : (op == 14) = false := beq_eq_false_iff_ne.2 (by omega)
  have d15 : (op == 15) = false := beq_eq_false_iff_ne.2 (by omega)
  have d16 : (op == 16) = false := beq_eq_false_iff_ne.2 (by omega)
  have d17 : (op == 17) = false := beq_eq_false_iff_ne.2 (by omega)
  have d18 : (op == 18) = false := beq_eq_false_iff_ne.2 (by omega)
  clear h11 h12 h13 h14 h15 h16 h17 h18
  go_enter Tryz.func91, Tryz.ntmps91
  go_wp2_with fail
  go_ret
  exact ⟨rfl, rfl⟩
set_option maxRecDepth 100000 in
set_option maxHeartbeats 4000000 in
theorem wd_11 (x : Nat) (w : World) (_hx : x < 4294967296) : Calls Tryz.prog 107 #[.int .i64 11, .int .u32 (x : Int)] w fun e w' => e = .returned (.int .u32 ((if 128 ≤ x % 256 then x % 256 + 4294967040 else x % 256 : Nat) : Int)) ∧ w = w' := by
  have hz : IntKind.i8.wrap (x : Int) % 4294967296 = ((if 128 ≤ x % 256 then x % 256 + 4294967040 else x % 256 : Nat) : Int) := by
    rw [w8_is]
    split <;> split <;> omega
  generalize (if 128 ≤ x % 256 then x % 256 + 4294967040 else x % 256) = z at *
  go_enter Tryz.func107, Tryz.ntmps107
  go_wp2_with fail
  go_ret
  exact ⟨congrArg (fun z => Ending.returned (Value.int .u32 z)) hz, rfl⟩
set_option maxRecDepth 100000 in
set_option maxHeartbeats 4000000 in
theorem wd_12 (x : Nat) (w : World) (_hx : x < 4294967296) : Calls Tryz.prog 107 #[.int .i64 12, .int .u32 (x : Int)] w fun e w' => e = .returned (.int .u32 ((if 32768 ≤ x % 65536 then x % 65536 + 4294901760 else x % 65536 : Nat) : Int)) ∧ w = w' := by
  have hz : IntKind.i16.wrap (x : Int) % 4294967296 = ((if 32768 ≤ x % 65536 then x % 65536 + 4294901760 else x % 65536 : Nat) : Int) := by
    rw [w16_is]
    split <;> split <;> omega
  generalize (if 32768 ≤ x % 65536 then x % 65536 + 4294901760 else x % 65536) = z at *
  go_enter Tryz.func107, Tryz.ntmps107
  go_wp2_with fail
  go_ret
  exact ⟨congrArg (fun z => Ending.returned (Value.int .u32 z)) hz, rfl⟩
set_option maxRecDepth 100000 in
set_option maxHeartbeats 4000000 in
theorem wd_14 (x : Nat) (w : World) (_hx : x < 4294967296) : Calls Tryz.prog 107 #[.int .i64 14, .int .u32 (x : Int)] w fun e w' => e = .returned (.int .u32 ((x % 256 : Nat) : Int)) ∧ w = w' := by
  have hz : (x : Int) % 256 = ((x % 256 : Nat) : Int) := by omega
  have hl : x % 256 < 256 := Nat.mod_lt _ (by decide)
  generalize (x % 256) = z at *
  go_enter Tryz.func107, Tryz.ntmps107
  go_wp2_with fail
  go_ret
  exact ⟨rfl, rfl⟩
set_option maxRecDepth 100000 in
set_option maxHeartbeats 4000000 in
theorem wd_15 (x : Nat) (w : World) (_hx : x < 4294967296) : Calls Tryz.prog 107 #[.int .i64 15, .int .u32 (x : Int)] w fun e w' => e = .returned (.int .u32 ((x % 65536 : Nat) : Int)) ∧ w = w' := by
  have hz : IntKind.u16.wrap (x : Int) % 4294967296 = ((x % 65536 : Nat) : Int) := by
    rw [wu16_is]
    omega
  generalize (x % 65536) = z at *
  go_enter Tryz.func107, Tryz.ntmps107
  go_wp2_with fail
  go_ret
  exact ⟨congrArg (fun z => Ending.returned (Value.int .u32 z)) hz, rfl⟩
set_option maxRecDepth 100000 in
set_option maxHeartbeats 4000000 in
theorem wid_no (op : Int) (x : Nat) (w : World) (h11 : ¬ op = 11) (h12 : ¬ op = 12) (h14 : ¬ op = 14) (h15 : ¬ op = 15) : Calls Tryz.prog 107 #[.int .i64 op, .int .u32 (x : Int)] w fun e w' => e = .returned (.int .u32 (x : Int)) ∧ w = w' := by
  have d11 : (op == 11) = false := beq_eq_false_iff_ne.2 (by omega)
  have d12 : (op == 12) = false := beq_eq_false_iff_ne.2 (by omega)
  have d14 : (op == 14) = false := beq_eq_false_iff_ne.2 (by omega)
  have d15 : (op == 15) = false := beq_eq_false_iff_ne.2 (by omega)
  clear h11 h12 h14 h15
  go_enter Tryz.func107, Tryz.ntmps107
  go_wp2_with fail
  go_ret
  exact ⟨rfl, rfl⟩
theorem widen_is (op : Int) (x : Nat) (w : World) (hx : x < 4294967296) : Calls Tryz.prog 107 #[.int .i64 op, .int .u32 (x : Int)] w fun e w' => e = .returned (.int .u32 ((widenN op x : Nat) : Int)) ∧ w = w' := by
  by_cases h11 : op = 11
  · subst h11; exact wd_11 x w hx
  by_cases h12 : op = 12
  · subst h12; exact wd_12 x w hx
  by_cases h14 : op = 14
  · subst h14; exact wd_14 x w hx
  by_cases h15 : op = 15
  · subst h15; exact wd_15 x w hx
  rw [show widenN op x = x by unfold widenN; simp only [h11, h12, h14, h15, if_false]]
  exact wid_no op x w h11 h12 h14 h15
/-- what package alu's calls answer -/
theorem alu_ok : AluOK where
  reckon op a b w ha hb := (reckon_is op a b w ha hb).mono fun _ _ h => ⟨h.1, same_bel h.2⟩
  goes op a b w ha hb := (goes_is op a b w ha hb).mono fun _ _ h => ⟨h.1, same_bel h.2⟩
  width op w := (width_is op w).mono fun _ _ h => ⟨h.1, same_bel h.2⟩
  widen op x w hx := (widen_is op x w hx).mono fun _ _ h => ⟨h.1, same_bel h.2⟩
end Go.Proofs.YtgpofoggfifnjaaGreatDoor.Al
