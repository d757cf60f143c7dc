/-
Layer 12, plain: grants, entries, what they match; a plan permits just its grants.
Layer 12: rows of structs in memory: slices that came in, rows of the call's own; for any element.
Layer 12: the library's table that Napot entries are read with (math/bits.deBruijn32tab), in the world.
Layer 12: the reference's Range.
Layer 12: the library's TrailingZeros32; package pmp's address, napotRange, end, napot.
Layer 12: the reference's Range, whole; its Byte.
Layer 12: package pmp's Range.
Layer 12: the reference's Byte.
Layer 12: the reference's Plan.
Layer 12: the law's plain.
Layer 12: what package pmp's calls answer (contracts); the law's example.
-/
import Derived.Test.YtgpofoggfifnjaaGreatDoorJAa
import Derived.Test.YtgpofoggfifnjaaGreatDoorJAb
import Derived.Deep.WholeRow
import Derived.OwnWalk
import Derived.Great.BuildSlice
import Derived.Great.FillDense
import Derived.Lib.TrailingZeros
import Derived.Lib.Hide
import Derived.BigQuiet
import Derived.Deep.DeepCutAuto
import Derived.Laws.BitsAllLaws
namespace Go.Proofs.YtgpofoggfifnjaaGreatDoor.Pm
/-- a grant: start, size, rights -/
structure Gr where
  s : Nat
  z : Nat
  r : Int
/-- an entry: way, rights, address -/
structure En where
  w : Int
  r : Int
  a : Nat
/-- how many ones a number ends in -/
def onesF : Nat → Nat → Nat
  | 0, _ => 0
  | n + 1, a => if a % 2 = 1 then onesF n (a / 2) + 1 else 0
def napS (a : Nat) : Nat := 8 * 2 ^ onesF 32 a
/-- the bytes of an entry, the one ahead of it at address p -/
def rangeP (p : Nat) (e : En) : Nat × Nat :=
  if e.w = 1 then (if 4 * e.a ≤ 4 * p then (4 * p, 4 * p) else (4 * p, 4 * e.a))
  else if e.w = 2 then (4 * e.a, 4 * e.a + 4)
  else if e.w = 3 then (4 * e.a / napS e.a * napS e.a, 4 * e.a / napS e.a * napS e.a + napS e.a)
  else (0, 0)
/-- a span of bytes with rights -/
structure Sp where
  f : Nat
  t : Nat
  r : Int
def tri (p : Nat) : List En → List Sp
  | [] => []
  | e :: l => ⟨(rangeP p e).1, (rangeP p e).2, e.r⟩ :: tri e.a l
def overB (q : Sp) (at' n : Nat) : Bool := decide (q.f < at' + n) && decide (at' < q.t) && decide (q.f < q.t)
def inB' (q : Sp) (at' n : Nat) : Bool := decide (q.f ≤ at') && decide (at' + n ≤ q.t)
def andR (r : Int) (right : Nat) : Nat := r.toNat &&& right
def checkT : List Sp → Nat → Nat → Nat → Bool
  | [], _, _, _ => false
  | q :: l, at', n, right => if overB q at' n then (inB' q at' n && decide (andR q.r right = right)) else checkT l at' n right
def withinG (g : Gr) (at' n : Nat) : Bool := decide (g.s ≤ at') && decide (at' + n ≤ g.s + g.z)
def mayB (l : List Gr) (at' n right : Nat) : Bool := l.any fun g => decide (andR g.r right = right) && withinG g at' n
/- runs -/
/- runs -/
/- how many bytes -/
end Go.Proofs.YtgpofoggfifnjaaGreatDoor.Pm
namespace Go.Proofs.YtgpofoggfifnjaaGreatDoor.Pm
open Go Go.RowKit

/-- a slice's three parts -/
structure Sl where
  A : Option Addr
  n : Nat
  c : Nat
def Sl.v (s : Sl) : Value := .slice s.A s.n s.c
/-- n elements of k cells each lie where the slice says -/
def SlC (w : World) (s : Sl) (k : Nat) (cs : Nat → Nat → Value) : Prop :=
  (s.n ≤ s.c ∧ s.n ≤ 140737488355328) ∧ (0 < s.n → ∃ b o, s.A = some ⟨b, o, none⟩ ∧ b < w.heap.size ∧ ∀ j i, j < s.n → i < k → w.cell? ⟨b, o + j * k + i, none⟩ = some (cs j i))
theorem SlC.below {w w' : World} {s : Sl} {k : Nat} {cs : Nat → Nat → Value} (h : SlC w s k cs) (hb : Below w.heap.size w w') : SlC w' s k cs := by
  refine ⟨h.1, fun hn => ?_⟩
  obtain ⟨b, o, e, hlt, hc⟩ := h.2 hn
  exact ⟨b, o, e, Nat.lt_of_lt_of_le hlt hb.size, fun j i hj hi => (hb.cell (p := ⟨b, o + j * k + i, none⟩) hlt).trans (hc j i hj hi)⟩
/-- a variable of a type of many cells, laid and filled -/
theorem wp_fresh {P : Program} {w : World} {ops : Array Oper} {rest : List Oper} {o1 o2 : Oper} {a : Act} {Q : Exit → Act → World → Prop} (ty : TypeId) (n : Nat) (v z : Nat → Value) (x y : Operand)
    (hg1 : o1.guard = none) (h1 : o1.op = .alloc ty) (hg2 : o2.guard = none) (h2 : o2.op = .store ty x y)
    (hz : ∀ w, (zeroValue ty).run P w = .ok (.agg (tab n z)) w) (hi : (P.info? ty).map (·.size) = some n) (_hn : 0 < n) (h1v : ∀ j, (v j).oneCell' = true)
    (hx : (a.put o1.dst (.pointer (some ⟨w.heap.size, 0, none⟩))).eval x = .pointer (some ⟨w.heap.size, 0, none⟩)) (hy : (a.put o1.dst (.pointer (some ⟨w.heap.size, 0, none⟩))).eval y = .agg (tab n v))
    (h : ∀ w', Has w' w.heap.size ty (tab n v) → Below w.heap.size w w' → w.heap.size < w'.heap.size → wpList P ops Q rest ((a.put o1.dst (.pointer (some ⟨w.heap.size, 0, none⟩))).put o2.dst undef) w') : wpList P ops Q (o1 :: o2 :: rest) a w := by
  refine wpList_plain hg1 fun K hK => ?_
  unfold Oper.wp execOp
  simp only [h1, Instr.alloc, Sem.run_bind, hz, Result.andThen_ok]
  have hnv : (newVar ty (.agg (tab n z))).run P w = .ok ⟨w.heap.size, 0, none⟩ (w.alloc (.cells (tab n z) ty)) := by
    go_simp
  simp only [hnv, Result.andThen_ok, Sem.run_pure]
  refine hK _ _ ?_
  refine wp_store_tab hg2 ty x y h2 w.heap.size 0 hx n v hy n z ty (Has.new _ _ _) hi (by omega) h1v ?_
  intro w' hh hg
  have e : (tab n fun j => if 0 ≤ j ∧ j < 0 + n then v (j - 0) else z j) = tab n v := tab_ext _ _ _ fun j hj => by rw [if_pos ⟨Nat.zero_le _, by omega⟩]; rfl
  rw [e] at hh
  have hb1 : Below w.heap.size w (w.alloc (.cells (tab n z) ty)) := (Below.refl _ _).alloc (Nat.le_refl _) _
  have hb2 := hb1.trans (below_of_only hg (Nat.le_refl _) (by simp))
  exact h w' hh hb2 hh.lt
/-- what the element lies as -/
theorem SlC.range {w : World} {s : Sl} {k : Nat} {cs : Nat → Nat → Value} (h : SlC w s k cs) {b o : Nat} (hA : s.A = some ⟨b, o, none⟩) {j : Nat} (hj : j < s.n) : w.rangeAt b (o + j * k) ((List.range k).map (cs j)) := fun i v hv => by
  have hi : i < k := by have := (List.getElem?_eq_some_iff.1 hv).1; simpa using this
  obtain ⟨b', o', e, _, hc⟩ := h.2 (by omega)
  obtain ⟨rfl, rfl⟩ : b' = b ∧ o' = o := by
    have := hA.symm.trans e
    injection this with this
    injection this with e1 e2
    exact ⟨e1.symm, e2.symm⟩
  rw [hc j i hj hi, ← hv]
  simp [hi]
theorem own_blk {w : World} {base size n : Nat} {e : TypeId} {v : Value} {xs : List Value} (h : w.ownsRow base e size v n xs) {l : Nat} (hl : v.ownBlock = some l) : base ≤ l ∧ l < w.heap.size := by
  rcases h.2 with ⟨rfl, _⟩ | ⟨g, cap, cur, rfl, hb, hg, _⟩
  · cases hl
  · have : g = l := by simpa [Value.ownBlock] using hl
    subst this
    exact ⟨hb, (Array.getElem?_eq_some_iff.1 hg).1⟩
theorem below_own {a w w' : World} {B base size n : Nat} {e : TypeId} {v : Value} {xs : List Value} (hb : Below B a w) (h : w.ownsRow base e size v n xs) (hB : B ≤ base) (hw : B ≤ w.heap.size) (k : w.grownBy w' v.ownBlock) : Below B a w' := by
  refine hb.trans ⟨k.os, k.tape, k.output, k.size, fun i hi => k.block i (by omega) (fun he => ?_)⟩
  have := own_blk h he.symm
  omega
theorem own_after {w w' : World} {base size n : Nat} {e : TypeId} {v : Value} {xs : List Value} (h : w.ownsRow base e size v n xs) (k : Below w.heap.size w w') : w'.ownsRow base e size v n xs := by
  refine ⟨h.1, ?_⟩
  rcases h.2 with h1 | ⟨g, cap, cur, h1, hb, hg, h3⟩
  · exact .inl h1
  · exact .inr ⟨g, cap, cur, h1, hb, (k.block g (Array.getElem?_eq_some_iff.1 hg).1).trans hg, h3⟩
/-- the cells of elements, one behind the other -/
def cellsL {α : Type} (k : Nat) (f : α → Nat → Value) (xs : List α) : List Value := xs.flatMap fun x => (List.range k).map (f x)
theorem cellsL_len {α : Type} (k : Nat) (f : α → Nat → Value) : ∀ xs : List α, (cellsL k f xs).length = xs.length * k
  | [] => by simp [cellsL]
  | q :: qs => by
    have := cellsL_len k f qs
    simp only [cellsL, List.flatMap_cons, List.length_append, List.length_map, List.length_range, List.length_cons] at this ⊢
    rw [this, Nat.succ_mul]; omega
theorem cellsL_get {α : Type} (k : Nat) (f : α → Nat → Value) (d : α) : ∀ (qs : List α) (j i : Nat), j < qs.length → i < k → (cellsL k f qs)[j * k + i]? = some (f (qs.getD j d) i)
  | [], j, i, h, _ => by simp at h
  | q :: qs, 0, i, _, hi => by
    show ((List.range k).map (f q) ++ cellsL k f qs)[0 * k + i]? = _
    rw [Nat.zero_mul, Nat.zero_add, List.getElem?_append_left (by simpa using hi)]
    simp [hi]
  | q :: qs, j + 1, i, h, hi => by
    have h2 := cellsL_get k f d qs j i (by simpa using h) hi
    show ((List.range k).map (f q) ++ cellsL k f qs)[(j + 1) * k + i]? = _
    rw [show (j + 1) * k + i = k + (j * k + i) by rw [Nat.succ_mul]; omega, List.getElem?_append_right (by simp)]
    simpa using h2
/-- a row of elements reads as elements -/
theorem own_slC {α : Type} {f : α → Nat → Value} {w : World} {base n c k : Nat} {e : TypeId} {A : Option Addr} {xs : List α} (h : w.ownsRow base e k (.slice A n c) n (cellsL k f xs)) (hk : 0 < k) (hn : n ≤ 140737488355328) (d : α) :
    xs.length = n ∧ SlC w ⟨A, n, c⟩ k fun j i => f (xs.getD j d) i := by
  have hl : xs.length = n := by
    have h1 := h.1
    rw [cellsL_len] at h1
    exact Nat.eq_of_mul_eq_mul_right hk h1
  refine ⟨hl, ⟨?_, hn⟩, fun h0 => ?_⟩
  · rcases h.2 with ⟨hv, h0⟩ | ⟨g, cap, cur, hv, hb, hg, hnc, _⟩
    · show n ≤ c
      omega
    · have e2 : c = cap := by injection hv
      show n ≤ c
      omega
  · replace h0 : 0 < n := h0
    rcases h.2 with ⟨hv, h1⟩ | ⟨g, cap, cur, hv, hb, hg, hnc, _⟩
    · omega
    · have e1 : A = some ⟨g, 0, none⟩ := by injection hv
      subst e1
      have hc := h.cells (g := g) rfl
      refine ⟨g, 0, rfl, (Array.getElem?_eq_some_iff.1 hg).1, fun j i hj hi => ?_⟩
      replace hj : j < n := hj
      have := hc (j * k + i) _ (cellsL_get k f d xs j i (by omega) hi)
      rw [Addr.add_mid] at this
      rw [Nat.add_assoc]
      exact this
/-- a grant's cells, an entry's, a run's -/
def grV (g : Gr) : Nat → Value
  | 0 => .int .u32 (g.s : Int)
  | 1 => .int .u32 (g.z : Int)
  | _ => .int .i64 g.r
def enV (e : En) : Nat → Value
  | 0 => .int .i64 e.w
  | 1 => .int .i64 e.r
  | _ => .int .u32 (e.a : Int)
def en0 : En := ⟨0, 0, 0⟩
def i64ok (z : Int) : Prop := -9223372036854775808 ≤ z ∧ z ≤ 9223372036854775807
structure En.Wf (e : En) : Prop where
  w : i64ok e.w
  r : i64ok e.r
  a : e.a < 4294967296
def SlE (w : World) (s : Sl) (es : List En) : Prop := es.length = s.n ∧ SlC w s 3 (fun j i => enV (es.getD j en0) i) ∧ ∀ e ∈ es, e.Wf
section
variable {w w' : World} {s : Sl} {gs : List Gr} {es : List En} {rs : List Sp}
theorem SlE.below (h : SlE w s es) (k : Below w.heap.size w w') : SlE w' s es := ⟨h.1, h.2.1.below k, h.2.2⟩
theorem SlE.wf (h : SlE w s es) {j : Nat} (hj : j < s.n) : (es.getD j en0).Wf := by
  have : j < es.length := by rw [h.1]; exact hj
  rw [List.getD_eq_getElem?_getD, List.getElem?_eq_getElem this]
  exact h.2.2 _ (List.getElem_mem _)
end
theorem enV_one (e : En) (j : Nat) : (enV e j).oneCell' = true := by unfold enV; split <;> rfl
theorem infoE : (Tryz.prog.info? 38).map (·.size) = some 3 := by kernel_rfl
theorem infoEb : (Tryz.prog.info? 38).map (fun i => (i.zero, i.size, i.bytes)) = some (some (.agg #[.int .i64 0, .int .i64 0, .int .u32 0]), 3, 24) := by kernel_rfl
theorem at_entry (b o n c j : Nat) (hj : (j : Int) < (n : Int)) (w : World) : (Instr.indexAt 24 (.slice (some ⟨b, o, none⟩) n c) (.int .i64 (j : Int))).run Tryz.prog w = .ok (.pointer (some ⟨b, o + j * 3, none⟩)) w := by
  have h2 := Addr.add_mid b o (j * 3)
  go_simp
end Go.Proofs.YtgpofoggfifnjaaGreatDoor.Pm
namespace Go.Proofs.YtgpofoggfifnjaaGreatDoor.Pm
open Go Go.RowKit

/-- the library's table, in the world -/
structure TabT (w : World) : Prop where
  c : ∀ i, i < 32 → w.cell? ⟨1, i, none⟩ = some (.int .u8 (Go.Lib.deBruijn32tab.getD i 0))
  size : 1 < w.heap.size
theorem TabT.below {w w' : World} (h : TabT w) (hb : Below w.heap.size w w') : TabT w' :=
  have hs := h.size
  ⟨fun i hi => (hb.cell (p := ⟨_, i, none⟩) (show _ < w.heap.size from hs)).trans (h.c i hi), Nat.lt_of_lt_of_le hs hb.size⟩
end Go.Proofs.YtgpofoggfifnjaaGreatDoor.Pm
namespace Go.Proofs.YtgpofoggfifnjaaGreatDoor.Pm
open Go Go.RowKit

/-- the bytes of entry i -/
def rangeI (es : List En) (i : Nat) : Nat × Nat := rangeP (if i = 0 then 0 else (es.getD (i - 1) en0).a) (es.getD i en0)
theorem onesF_le : ∀ n a, onesF n a ≤ n
  | 0, _ => Nat.le_refl _
  | n + 1, a => by
    unfold onesF
    split
    · have := onesF_le n (a / 2); omega
    · omega
theorem onesF_step (n a : Nat) (h : a % 2 = 1) : onesF (n + 1) a = onesF n (a / 2) + 1 := by
  show (if a % 2 = 1 then _ else _) = _
  rw [if_pos h]
theorem onesF_zero (n a : Nat) (h : a % 2 ≠ 1) : onesF n a = 0 := by
  cases n with
  | zero => rfl
  | succ n => show (if a % 2 = 1 then _ else _) = _; rw [if_neg h]
theorem rng_w1a {p : Nat} {e : En} (hw : e.w = 1) (h : 4 * e.a ≤ 4 * p) : rangeP p e = (4 * p, 4 * p) := by unfold rangeP; rw [if_pos hw, if_pos h]
theorem rng_w1b {p : Nat} {e : En} (hw : e.w = 1) (h : ¬4 * e.a ≤ 4 * p) : rangeP p e = (4 * p, 4 * e.a) := by unfold rangeP; rw [if_pos hw, if_neg h]
theorem rng_w2 {p : Nat} {e : En} (hw : e.w = 2) : rangeP p e = (4 * e.a, 4 * e.a + 4) := by unfold rangeP; rw [if_neg (by omega), if_pos hw]
theorem rng_w3 {p : Nat} {e : En} (hw : e.w = 3) : rangeP p e = (4 * e.a / napS e.a * napS e.a, 4 * e.a / napS e.a * napS e.a + napS e.a) := by unfold rangeP; rw [if_neg (by omega), if_neg (by omega), if_pos hw]
theorem rng_w0 {p : Nat} {e : En} (h1 : e.w ≠ 1) (h2 : e.w ≠ 2) (h3 : e.w ≠ 3) : rangeP p e = (0, 0) := by unfold rangeP; rw [if_neg h1, if_neg h2, if_neg h3]
theorem pow32 {k : Nat} (h : k ≤ 32) : 2 ^ k ≤ 4294967296 := Nat.le_trans (Nat.pow_le_pow_right (by decide) h) (by decide)
end Go.Proofs.YtgpofoggfifnjaaGreatDoor.Pm
namespace Go.Proofs.YtgpofoggfifnjaaGreatDoor.Pm
open Go Go.RowKit

/-- how many ones a number ends in, by the zeros that its complement ends in -/
theorem ctzF_ones : ∀ (n a : Nat), a < 2 ^ n → a ≠ 2 ^ n - 1 → Go.Lib.ctzFrom n (2 ^ n - 1 - a) = onesF n a
  | 0, a, h, h1 => by omega
  | n + 1, a, h, h1 => by
    have hp := Nat.two_pow_pos n
    have e2 : (2 : Nat) ^ (n + 1) = 2 * 2 ^ n := by rw [Nat.pow_succ]; omega
    show (if (2 ^ (n + 1) - 1 - a) % 2 = 1 then 0 else 1 + Go.Lib.ctzFrom n ((2 ^ (n + 1) - 1 - a) / 2)) = (if a % 2 = 1 then onesF n (a / 2) + 1 else 0)
    rw [e2] at h h1 ⊢
    by_cases ha : a % 2 = 1
    · rw [if_neg (by omega), if_pos ha, show (2 * 2 ^ n - 1 - a) / 2 = 2 ^ n - 1 - a / 2 by omega, ctzF_ones n (a / 2) (by omega) (by omega), Nat.add_comm]
    · rw [if_pos (by omega), if_neg ha]
theorem onesF_full : ∀ n, onesF n (2 ^ n - 1) = n
  | 0 => rfl
  | n + 1 => by
    have hp := Nat.two_pow_pos n
    have e2 : (2 : Nat) ^ (n + 1) = 2 * 2 ^ n := by rw [Nat.pow_succ]; omega
    rw [onesF_step _ _ (by omega), show (2 ^ (n + 1) - 1) / 2 = 2 ^ n - 1 by omega, onesF_full n]
theorem ctz_ones (a : Nat) (h : a < 4294967296) : Go.Lib.ctz 32 (4294967295 - a) = onesF 32 a := by
  unfold Go.Lib.ctz
  by_cases h1 : a = 4294967295
  · rw [if_pos (by omega), h1]
    exact (onesF_full 32).symm
  · rw [if_neg (by omega)]
    exact ctzF_ones 32 a (by omega) (by omega)
/-- what a number is by its ones -/
theorem ones_form : ∀ (n a : Nat), a < 2 ^ n → a = 2 ^ n - 1 ∨ a = 2 ^ (onesF n a + 1) * (a / 2 ^ (onesF n a + 1)) + (2 ^ onesF n a - 1)
  | 0, a, h => by left; omega
  | n + 1, a, h => by
    have hp := Nat.two_pow_pos n
    have e2 : (2 : Nat) ^ (n + 1) = 2 * 2 ^ n := by rw [Nat.pow_succ]; omega
    by_cases ha : a % 2 = 1
    · rw [onesF_step n a ha]
      rcases ones_form n (a / 2) (by omega) with h1 | h1
      · left; omega
      · right
        generalize onesF n (a / 2) = q at *
        have e3 : (2 : Nat) ^ (q + 1 + 1) = 2 * 2 ^ (q + 1) := by rw [Nat.pow_succ]; omega
        have e4 : (2 : Nat) ^ (q + 1) = 2 * 2 ^ q := by rw [Nat.pow_succ]; omega
        have hq := Nat.two_pow_pos q
        have e5 : a / 2 ^ (q + 1 + 1) = a / 2 / 2 ^ (q + 1) := by rw [e3, Nat.div_div_eq_div_mul]
        rw [e5, e3, Nat.mul_assoc]
        rw [e4] at h1 ⊢
        generalize 2 * 2 ^ q * (a / 2 / (2 * 2 ^ q)) = c at *
        generalize (2 : Nat) ^ q = p at *
        omega
    · right
      rw [onesF_zero _ _ ha]
      simp only [Nat.zero_add, Nat.pow_one, Nat.pow_zero]
      omega
theorem and_succ (m q : Nat) : (2 ^ (q + 1) * m + (2 ^ q - 1)) &&& (2 ^ (q + 1) * m + 2 ^ q) = 2 ^ (q + 1) * m := by
  have hp := Nat.two_pow_pos q
  have e4 : (2 : Nat) ^ (q + 1) = 2 * 2 ^ q := by rw [Nat.pow_succ]; omega
  apply Nat.eq_of_testBit_eq
  intro j
  rw [Nat.testBit_and, Nat.testBit_two_pow_mul_add _ (by omega), Nat.testBit_two_pow_mul_add _ (by omega)]
  have e := Nat.testBit_two_pow_mul_add m (b := 0) (i := q + 1) (by omega) j
  rw [Nat.add_zero] at e
  rw [e]
  by_cases hj : j < q + 1
  · rw [if_pos hj, if_pos hj, if_pos hj, Nat.testBit_two_pow_sub_one, Nat.testBit_two_pow, Nat.zero_testBit]
    by_cases h1 : j < q
    · rw [decide_eq_false (show ¬ q = j by omega), Bool.and_false]
    · rw [decide_eq_false h1, Bool.false_and]
  · rw [if_neg hj, if_neg hj, if_neg hj, Bool.and_self]
/-- where a Napot entry begins, by the bits -/
theorem nap_start (a : Nat) (h : a < 4294967296) : 4 * (a &&& (a + 1) % 4294967296) = 4 * a / napS a * napS a := by
  unfold napS
  rcases ones_form 32 a h with h1 | h1
  · rw [h1, onesF_full]; decide
  · have hle := onesF_le 32 a
    generalize onesF 32 a = q at *
    have hp := Nat.two_pow_pos q
    have e4 : (2 : Nat) ^ (q + 1) = 2 * 2 ^ q := by rw [Nat.pow_succ]; omega
    by_cases h2 : a = 4294967295
    · subst h2
      have hm : (4294967295 : Nat) / 2 ^ (q + 1) < 4294967296 := Nat.lt_of_le_of_lt (Nat.div_le_self _ _) (by decide)
      have e0 : (4294967295 + 1) % 4294967296 = 0 := by decide
      rw [e0, Nat.and_zero]
      by_cases hq : q ≤ 31
      · exfalso
        have hd : 2 ^ (q + 1) ∣ 2 ^ 32 := Nat.pow_dvd_pow 2 (by omega)
        obtain ⟨k, hk⟩ := hd
        have e32 : (2 : Nat) ^ 32 = 4294967296 := by decide
        rw [e32] at hk
        have e6 : 4294967295 / 2 ^ (q + 1) = k - 1 := by
          have hk0 : 0 < k := Nat.pos_of_ne_zero fun h => by subst h; omega
          have e7 : 4294967295 = 2 ^ (q + 1) * (k - 1) + (2 ^ (q + 1) - 1) := by
            have : 2 ^ (q + 1) * k = 2 ^ (q + 1) * (k - 1) + 2 ^ (q + 1) := by
              obtain ⟨k', rfl⟩ : ∃ k', k = k' + 1 := ⟨k - 1, by omega⟩
              rw [Nat.mul_succ]; rfl
            omega
          rw [e7, Nat.mul_add_div (by omega), Nat.div_eq_of_lt (by omega)]; rfl
        rw [e6] at h1
        have : 2 ^ (q + 1) * k = 2 ^ (q + 1) * (k - 1) + 2 ^ (q + 1) := by
          have hk0 : 0 < k := Nat.pos_of_ne_zero fun h => by subst h; omega
          obtain ⟨k', rfl⟩ : ∃ k', k = k' + 1 := ⟨k - 1, by omega⟩
          rw [Nat.mul_succ]; rfl
        omega
      · obtain rfl : q = 32 := by omega
        decide
    · rw [Nat.mod_eq_of_lt (by omega)]
      have e5 := and_succ (a / 2 ^ (q + 1)) q
      have e6 : 2 ^ (q + 1) * (a / 2 ^ (q + 1)) + 2 ^ q = a + 1 := by omega
      rw [← h1, e6] at e5
      rw [e5]
      have e7 : 8 * 2 ^ q = 4 * 2 ^ (q + 1) := by omega
      rw [e7, Nat.mul_div_mul_left _ _ (by decide : 0 < 4), Nat.mul_comm (a / _), Nat.mul_assoc]
set_option maxRecDepth 100000 in
set_option maxHeartbeats 1000000 in
theorem tz32_any (x : Nat) (hx : x < 4294967296) (w : World) (hT : TabT w) :
    Calls Tryz.prog 104 #[.int .u32 (x : Int)] w fun e w' => e = .returned (.int .i64 ((Go.Lib.ctz 32 x : Nat) : Int)) ∧ w' = w := by
  by_cases h0 : x = 0
  · subst h0
    have e0 : Go.Lib.ctz 32 0 = 32 := rfl
    rw [e0]
    go_enter Tryz.func104, Tryz.ntmps104
    go_wp2_with fail
    go_ret
    exact ⟨rfl, rfl⟩
  · obtain ⟨hlow, hk⟩ := Go.Lib.lowest_bit 32 x h0 hx
    obtain ⟨hi, htab⟩ := Go.Lib.deBruijn32_at _ hk
    have hc := hT.c _ hi
    rw [htab] at hc
    generalize Go.Lib.ctz 32 x = k at *
    have hneg : -(x : Int) % 4294967296 = ((2 ^ 32 - x : Nat) : Int) := by
      have : (2 : Nat) ^ 32 = 4294967296 := by decide
      omega
    have hand : bits .and .u32 (x : Int) ((2 ^ 32 - x : Nat) : Int) = ((2 ^ k : Nat) : Int) := by
      rw [u32_and_nat x _ hx (by have : (2 : Nat) ^ 32 = 4294967296 := by decide
                                 omega), hlow]
    have hx0 : ((x : Int) == 0) = false := beq_eq_false_iff_ne.2 (by omega)
    obtain ⟨p, hp⟩ : ∃ p, p = 2 ^ k := ⟨_, rfl⟩
    rw [← hp] at hand hi hc
    obtain ⟨j, hj⟩ : ∃ j, j = p * 125613361 % 4294967296 / 134217728 := ⟨_, rfl⟩
    rw [← hj] at hi hc
    have hidx : (p : Int) * 125613361 % 4294967296 / 134217728 = (j : Int) := by rw [hj, Int.natCast_ediv, Int.natCast_emod, Int.natCast_mul]; rfl
    have hkey : bits .and .u32 (x : Int) (-(x : Int) % 4294967296) * 125613361 % 4294967296 / 134217728 = (j : Int) := by rw [hneg, hand, hidx]
    clear hp hj hneg hand hidx htab hlow
    go_enter Tryz.func104, Tryz.ntmps104
    go_wp2_with (simp only [hkey])
    go_ret
    exact ⟨rfl, rfl⟩
set_option maxRecDepth 100000 in
set_option maxHeartbeats 1000000 in
theorem address_any (x r : Int) (a : Nat) (ha : a < 4294967296) (w : World) :
    Calls Tryz.prog 84 #[.agg #[.int .i64 x, .int .i64 r, .int .u32 (a : Int)]] w fun e w' => e = .returned (.int .u64 ((4 * a : Nat) : Int)) ∧ Below w.heap.size w w' := by
  go_enter Tryz.func84, Tryz.ntmps84
  go_wp2_with fail
  go_ret
  refine ⟨by go_num, ?_⟩
  exact (Below.refl _ w).alloc (Nat.le_refl _) _
theorem below_drew (w : World) : Below w.heap.size w w.drew := below_drewN (Below.refl _ _) 1
/-- the call answers two addresses -/
def retP (f t : Nat) (w : World) (e : Ending) (w' : World) : Prop := e = .returned (.tuple #[.int .u64 (f : Int), .int .u64 (t : Int)]) ∧ Below w.heap.size w w'
theorem not32 (a : Nat) (ha : a < 4294967296) : bits .xor .u32 IntKind.u32.max (a : Int) = ((4294967295 - a : Nat) : Int) := by
  have h := u32_xor_nat 4294967295 a (by decide) ha
  have e : 4294967295 ^^^ a = 4294967295 - a := by
    apply Nat.eq_of_testBit_eq
    intro j
    have h1 := Nat.testBit_two_pow_sub_succ (n := 32) (x := a) (by omega) j
    have h2 := Nat.testBit_two_pow_sub_one 32 j
    have e1 : (2 : Nat) ^ 32 - 1 = 4294967295 := by decide
    rw [show (2 : Nat) ^ 32 - (a + 1) = 4294967295 - a by omega] at h1
    rw [e1] at h2
    rw [Nat.testBit_xor, h1, h2]
    by_cases hj : j < 32
    · rw [decide_eq_true hj, Bool.true_xor, Bool.true_and]
    · have : a < 2 ^ j := Nat.lt_of_lt_of_le (show a < 2 ^ 32 by omega) (Nat.pow_le_pow_right (by decide) (by omega))
      rw [decide_eq_false hj, Nat.testBit_lt_two_pow this]; rfl
  rw [e] at h
  exact h
set_option maxRecDepth 100000 in
set_option maxHeartbeats 1000000 in
theorem napot_range (a : Nat) (ha : a < 4294967296) (w : World) (hT : TabT w) :
    Calls Tryz.prog 85 #[.int .u32 (a : Int)] w (retP (4 * a / napS a * napS a) (4 * a / napS a * napS a + napS a) w) := by
  have kT := tz32_any (4294967295 - a) (by omega) w hT
  rw [ctz_ones a ha] at kT
  have hs := nap_start a ha
  have hand : bits .and .u32 (a : Int) (((a : Int) + 1) % 4294967296) = ((a &&& (a + 1) % 4294967296 : Nat) : Int) := by
    rw [show ((a : Int) + 1) % 4294967296 = (((a + 1) % 4294967296 : Nat) : Int) by omega]
    exact u32_and_nat a ((a + 1) % 4294967296) ha (by omega)
  have hle := onesF_le 32 a
  have hnp : napS a = 8 * 2 ^ onesF 32 a := rfl
  have hlt : a &&& (a + 1) % 4294967296 < 4294967296 := Nat.lt_of_le_of_lt Nat.and_le_left ha
  rw [← hs]
  have hxor := not32 a ha
  generalize (a &&& (a + 1) % 4294967296) = v at *
  generalize onesF 32 a = q at *
  generalize napS a = z at *
  have hz : z ≤ 34359738368 := by
    have hp := pow32 hle
    omega
  unfold retP
  have hsh : IntKind.u64.wrap ((8 : Int) * 2 ^ q) = (z : Int) := by
    rw [hnp, IntKind.wrap_u64]
    have hp := pow32 hle
    generalize hg : (2 : Nat) ^ q = p at *
    have : (2 : Int) ^ q = (p : Int) := by rw [← hg]; simp
    rw [this]; omega
  have hwr : IntKind.u64.wrap (4 * (v : Int) + (z : Int)) = ((4 * v + z : Nat) : Int) := by
    rw [IntKind.wrap_u64]; omega
  clear hnp hs
  go_enter Tryz.func85, Tryz.ntmps85
  go_wp2_with fail
  refine (show Calls Tryz.prog 104 #[.int .u32 ((4294967295 - a : Nat) : Int)] w _ from kT).mono ?_
  rintro e w2 ⟨rfl, hw2⟩
  subst hw2
  go_wp2_with fail
  go_region
  go_wp2_with fail
  go_ret2
  exact ⟨by go_num, below_drew w2⟩
end Go.Proofs.YtgpofoggfifnjaaGreatDoor.Pm
namespace Go.Proofs.YtgpofoggfifnjaaGreatDoor.Pm
open Go Go.RowKit

theorem tri_at (es : List En) : ∀ (p i : Nat) (_hi : i < es.length), (tri p es)[i]? = some ⟨(rangeP (if i = 0 then p else (es.getD (i - 1) en0).a) (es.getD i en0)).1, (rangeP (if i = 0 then p else (es.getD (i - 1) en0).a) (es.getD i en0)).2, (es.getD i en0).r⟩ := by
  induction es with
  | nil => intro p i hi; cases hi
  | cons e l ih =>
    intro p i hi
    cases i with
    | zero => rfl
    | succ i =>
      have h := ih e.a i (by simpa using hi)
      show (tri e.a l)[i]? = _
      rw [h]
      cases i with
      | zero => rfl
      | succ i => rfl
theorem tri_len (es : List En) : ∀ p, (tri p es).length = es.length := by
  induction es with
  | nil => intro p; rfl
  | cons e l ih => intro p; show (tri e.a l).length + 1 = _; rw [ih]; rfl
end Go.Proofs.YtgpofoggfifnjaaGreatDoor.Pm
namespace Go.Proofs.YtgpofoggfifnjaaGreatDoor.Pm
open Go Go.RowKit

set_option maxRecDepth 100000 in
set_option maxHeartbeats 4000000 in
theorem range_any (es : List En) (s : Sl) (i : Nat) (w : World) (hT : TabT w) (hS : SlE w s es) (hi : i < s.n) :
    Calls Tryz.prog 58 #[s.v, .int .i64 (i : Int)] w (retP (rangeI es i).1 (rangeI es i).2 w) := by
  obtain ⟨b, o, hA, hlt, hc⟩ := hS.2.1.2 (by omega)
  have hwf := hS.wf hi
  have hn := hS.2.1.1
  have hpw : 0 < i → (es.getD (i - 1) en0).a < 4294967296 := fun h => (hS.wf (j := i - 1) (by omega)).a
  have hp : ∀ k, k < 3 → 0 < i → w.cell? ⟨b, o + (i - 1) * 3 + k, none⟩ = some (enV (es.getD (i - 1) en0) k) := fun k hk h => hc (i - 1) k (by omega) hk
  replace hc : ∀ k, k < 3 → w.cell? ⟨b, o + i * 3 + k, none⟩ = some (enV (es.getD i en0) k) := fun k hk => hc i k hi hk
  unfold rangeI
  obtain ⟨A, n, c⟩ := s
  dsimp only at hA hi hn hc hp
  subst hA
  generalize es.getD (i - 1) en0 = pe at *
  generalize es.getD i en0 = e at *
  obtain ⟨pw, pr, pa⟩ := pe
  obtain ⟨ew, er, ea⟩ := e
  dsimp only at hpw
  have ha : ea < 4294967296 := hwf.a
  have hn2 := hn.2
  have hin : (i : Int) < (n : Int) := by omega
  have hat := fun W => at_entry b o n c i hin W
  have hi0 : ¬ (i : Int) < 0 := by omega
  have hni : ¬ (n : Int) ≤ (i : Int) := by omega
  have C0 : ∀ W, Below w.heap.size w W → W.cell? ⟨b, o + i * 3, none⟩ = some (.int .i64 ew) := fun W h => (h.cell (p := ⟨b, o + i * 3, none⟩) hlt).trans (hc 0 (by omega))
  have C1 : ∀ W, Below w.heap.size w W → W.cell? ⟨b, o + i * 3 + 1, none⟩ = some (.int .i64 er) := fun W h => (h.cell (p := ⟨b, o + i * 3 + 1, none⟩) hlt).trans (hc 1 (by omega))
  have C2 : ∀ W, Below w.heap.size w W → W.cell? ⟨b, o + i * 3 + 2, none⟩ = some (.int .u32 (ea : Int)) := fun W h => (h.cell (p := ⟨b, o + i * 3 + 2, none⟩) hlt).trans (hc 2 (by omega))
  have P0 : ∀ W, Below w.heap.size w W → 0 < i → W.cell? ⟨b, o + (i - 1) * 3, none⟩ = some (.int .i64 pw) := fun W h h0 => (h.cell (p := ⟨b, o + (i - 1) * 3, none⟩) hlt).trans (hp 0 (by omega) h0)
  have P1 : ∀ W, Below w.heap.size w W → 0 < i → W.cell? ⟨b, o + (i - 1) * 3 + 1, none⟩ = some (.int .i64 pr) := fun W h h0 => (h.cell (p := ⟨b, o + (i - 1) * 3 + 1, none⟩) hlt).trans (hp 1 (by omega) h0)
  have P2 : ∀ W, Below w.heap.size w W → 0 < i → W.cell? ⟨b, o + (i - 1) * 3 + 2, none⟩ = some (.int .u32 (pa : Int)) := fun W h h0 => (h.cell (p := ⟨b, o + (i - 1) * 3 + 2, none⟩) hlt).trans (hp 2 (by omega) h0)
  have c0 := C0 w (Below.refl _ w)
  have c1 := C1 w (Below.refl _ w)
  have c2 := C2 w (Below.refl _ w)
  have HT := Lib.hid hT
  have HC0 := Lib.hid C0
  have HC2 := Lib.hid C2
  have HP0 := Lib.hid P0
  have HP1 := Lib.hid P1
  have HP2 := Lib.hid P2
  have HPW := Lib.hid hpw
  clear hT C0 C1 C2 P0 P1 P2 hS hp hc hwf hn hpw
  show Calls Tryz.prog 58 #[.slice (some ⟨b, o, none⟩) n c, .int .i64 (i : Int)] w _
  have e4 : ((4 * ea : Nat) : Int) = 4 * (ea : Int) := by omega
  generalize hR : rangeP (if i = 0 then 0 else pa) ⟨ew, er, ea⟩ = R
  have HR := Lib.hid hR
  clear hR
  generalize hf : R.1 = f
  generalize ht : R.2 = t
  have HF := Lib.hid hf
  have HTT := Lib.hid ht
  clear hf ht
  unfold retP
  go_enter Tryz.func58, Tryz.ntmps58
  go_wp2_with fail
  refine (address_any ew er ea ha w).mono ?_
  rintro e w1 ⟨rfl, hb1⟩
  have d0 := HC0.out w1 hb1
  have d2 := HC2.out w1 hb1
  have HB1 := Lib.hid hb1
  clear c0 c1 c2 hb1
  have fin : ∀ x y : Nat, R = (x, y) → Value.int .u64 (x : Int) = .int .u64 (f : Int) ∧ Value.int .u64 (y : Int) = .int .u64 (t : Int) := fun x y h => by
    rw [← HF.out, ← HTT.out, h]; exact ⟨rfl, rfl⟩
  have FIN := Lib.hid fin
  clear fin
  by_cases h1 : ew = 1
  · subst h1
    by_cases h0 : i = 0
    · have HR0 := Lib.hid (show rangeP 0 ⟨1, er, ea⟩ = R by have := HR.out; rwa [if_pos h0] at this)
      have hip : ¬ 0 < (i : Int) := by omega
      clear h0
      by_cases hz : ea = 0
      · have hz' : ¬ (0 : Int) < 4 * (ea : Int) := by omega
        have HZ := Lib.hid hz
        clear hz
        go_wp2_with fail
        go_ret2
        obtain ⟨q1, q2⟩ := FIN.out _ _ (HR0.out.symm.trans (rng_w1a rfl (show 4 * ea ≤ 4 * 0 by have := HZ.out; omega)))
        rw [← q1, ← q2]
        exact ⟨rfl, HB1.out⟩
      · have hz' : (0 : Int) < 4 * (ea : Int) := by omega
        go_wp2_with fail
        go_ret2
        obtain ⟨q1, q2⟩ := FIN.out _ _ (HR0.out.symm.trans (rng_w1b rfl (show ¬ 4 * ea ≤ 4 * 0 by omega)))
        rw [← q1, ← q2]
        exact ⟨by go_num, HB1.out⟩
    · have HR0 := Lib.hid (show rangeP pa ⟨1, er, ea⟩ = R by have := HR.out; rwa [if_neg h0] at this)
      have hip : 0 < (i : Int) := by omega
      have hin2 : ((i - 1 : Nat) : Int) < (n : Int) := by omega
      have hat2 := fun W => at_entry b o n c (i - 1) hin2 W
      have p0 := HP0.out w1 HB1.out (by omega)
      have p1 := HP1.out w1 HB1.out (by omega)
      have p2 := HP2.out w1 HB1.out (by omega)
      have hpa := HPW.out (by omega)
      obtain ⟨j, hj⟩ : ∃ j, j = i - 1 := ⟨_, rfl⟩
      rw [← hj] at hin2 p0 p1 p2 hat2
      have ej : (i : Int) - 1 = (j : Int) := by omega
      clear hj h0
      go_wp2_with fail
      refine (address_any pw pr pa hpa w1).mono ?_
      rintro e w2 ⟨rfl, hb2⟩
      have HB2 := Lib.hid (HB1.out.trans (hb2.mono HB1.out.size))
      clear hb2 p0 p1 p2
      by_cases hz : 4 * ea ≤ 4 * pa
      · have hz' : ¬ 4 * (pa : Int) < 4 * (ea : Int) := by omega
        go_wp2_with fail
        go_ret2
        obtain ⟨q1, q2⟩ := FIN.out _ _ (HR0.out.symm.trans (rng_w1a rfl hz))
        rw [← q1, ← q2]
        exact ⟨by go_num, HB2.out⟩
      · have hz' : 4 * (pa : Int) < 4 * (ea : Int) := by omega
        go_wp2_with fail
        go_ret2
        obtain ⟨q1, q2⟩ := FIN.out _ _ (HR0.out.symm.trans (rng_w1b rfl hz))
        rw [← q1, ← q2]
        exact ⟨by go_num, HB2.out⟩
  · by_cases h2 : ew = 2
    · subst h2
      go_wp2_with fail
      go_ret2
      obtain ⟨q1, q2⟩ := FIN.out _ _ (HR.out.symm.trans (rng_w2 rfl))
      rw [← q1, ← q2]
      exact ⟨by go_num, HB1.out⟩
    · by_cases h3 : ew = 3
      · subst h3
        have kN := napot_range ea ha w1 (HT.out.below HB1.out)
        have HE := Lib.hid (HR.out.symm.trans (rng_w3 rfl))
        dsimp only at HE
        generalize 4 * ea / napS ea * napS ea = u at *
        generalize u + napS ea = v at *
        go_wp2_with fail
        refine kN.mono ?_
        rintro e w2 ⟨rfl, hb2⟩
        have HB2 := Lib.hid (HB1.out.trans (hb2.mono HB1.out.size))
        clear hb2
        go_wp2_with fail
        go_ret2
        obtain ⟨q1, q2⟩ := FIN.out _ _ HE.out
        rw [← q1, ← q2]
        exact ⟨rfl, HB2.out⟩
      · have HE := Lib.hid (HR.out.symm.trans (rng_w0 h1 h2 h3))
        have q1 : (ew == 1) = false := beq_eq_false_iff_ne.2 h1
        have q2 : (ew == 2) = false := beq_eq_false_iff_ne.2 h2
        have q3 : (ew == 3) = false := beq_eq_false_iff_ne.2 h3
        clear h1 h2 h3
        go_wp2_with fail
        go_ret2
        obtain ⟨q1, q2⟩ := FIN.out _ _ HE.out
        rw [← q1, ← q2]
        exact ⟨rfl, HB1.out⟩
end Go.Proofs.YtgpofoggfifnjaaGreatDoor.Pm
namespace Go.Proofs.YtgpofoggfifnjaaGreatDoor.Pm
open Go Go.RowKit

end Go.Proofs.YtgpofoggfifnjaaGreatDoor.Pm
namespace Go.Proofs.YtgpofoggfifnjaaGreatDoor.Pm
open Go Go.RowKit

/-- a row of two elements -/
theorem wp_build_el2 {α : Type} {f : α → Nat → Value} {P : Program} {st e : TypeId} {k by' : Nat} {z : Value} (hu : P.underlying st = some (.slice e)) (hinfo : (P.info? e).map (fun i => (i.zero, i.size, i.bytes)) = some (some z, k, by')) (hk : 0 < k) (hk2 : k ≤ 1000)
    {w : World} {ops : Array Oper} {rest : List Oper} {o : Oper} {a : Act} {Q : Exit → Act → World → Prop} (hg : o.guard = none) (x y : Operand) (ho : o.op = .buildSlice st 2 #[(0, x), (1, y)]) (q r : α) (hx : a.eval x = .agg (tab k (f q))) (hy : a.eval y = .agg (tab k (f r)))
    (h : ∀ w', w' = w.alloc (.cells (cellsL k f [q, r]).toArray e) → wpList P ops Q rest (a.put o.dst (.slice (some ⟨w.heap.size, 0, none⟩) 2 2)) w') : wpList P ops Q (o :: rest) a w := by
  obtain ⟨i5, hi5, hz5, hs5, hb5⟩ := info_parts hinfo
  refine wpList_buildSlice hg st e 2 #[(0, x), (1, y)] ho (cellsL k f [q, r]).toArray i5 _ hu hi5 hz5 (by rw [hs5]; omega) (by rw [hs5]; omega) ?_ (h _ rfl)
  rw [hs5]
  simp only [List.map_toArray, List.map_cons, List.map_nil, hx, hy]
  refine (Great.fill_whole (s := k) hk [.agg (tab k (f q)), .agg (tab k (f r))] _ (fun v hv => by
    rcases List.mem_cons.1 hv with rfl | hv
    · exact tab_size _ _
    · rw [List.mem_singleton.1 hv]; exact tab_size _ _) (by simp)).trans ?_
  simp [Value.cells, cellsL, tab]
theorem size_alloc1 (w : World) (o : Obj) : (w.alloc o).heap.size = w.heap.size + 1 := Array.size_push _
theorem one_new (w : World) (u : Array Value) (t : TypeId) : ∃ wa, wa = w.alloc (.cells u t) ∧ Has wa w.heap.size t u ∧ Below w.heap.size w wa ∧ wa.heap.size = w.heap.size + 1 :=
  ⟨_, rfl, Has.new w t u, (Below.refl _ _).alloc (Nat.le_refl _) _, size_alloc1 w _⟩
end Go.Proofs.YtgpofoggfifnjaaGreatDoor.Pm
namespace Go.Proofs.YtgpofoggfifnjaaGreatDoor.Pm
open Go Go.RowKit

/-- entries whose ways and rights are ones that there are -/
def plainL (es : List En) : Prop := (∀ e ∈ es, 0 ≤ e.w ∧ e.w ≤ 3 ∧ 0 ≤ e.r ∧ e.r ≤ 7) ∧ es.length ≤ 40
end Go.Proofs.YtgpofoggfifnjaaGreatDoor.Pm
namespace Go.Proofs.YtgpofoggfifnjaaGreatDoor.Pm
open Go Go.RowKit

/- the example -/
end Go.Proofs.YtgpofoggfifnjaaGreatDoor.Pm
