/-
Layer 8: headers and segments as plain data; how they lie in memory; rows of the call's own, of any element.
-/
import Derived.Test.YtoplknankmomcaaMfN
namespace Go.Proofs.Ytoplknankmomcaa
open Go Go.RowKit

/-- a header -/
structure Hd where
  k : Nat
  a : Nat
  d : Nat
  f : Nat
  m : Nat
  r : Nat
deriving DecidableEq
def hd0 : Hd := ⟨0, 0, 0, 0, 0, 0⟩
/-- a segment -/
structure Sg where
  d : Nat
  z : Nat
  r : Nat
  b : List UInt8
deriving DecidableEq
def sg0 : Sg := ⟨0, 0, 0, []⟩
/-- the number of the k bytes from q on, 0 where they are not all there -/
def nm (bs : List UInt8) (k q : Nat) : Nat := if q + k ≤ bs.length then leT (bsN bs) k q else 0
theorem nm_lt (bs : List UInt8) (k q : Nat) : nm bs k q < 256 ^ k := by
  unfold nm
  split
  · exact leT_lt (bsN_lt bs) k q
  · exact Nat.pow_pos (by decide)
theorem nm4 (bs : List UInt8) (q : Nat) : nm bs 4 q < 4294967296 := nm_lt bs 4 q
theorem nm2 (bs : List UInt8) (q : Nat) : nm bs 2 q < 65536 := nm_lt bs 2 q
def ident16 : List UInt8 := [127, 69, 76, 70, 1, 1, 1, 0, 0, 0, 0, 0, 0, 0, 0, 0]
/-- how many program headers; where -/
def hN (bs : List UInt8) : Nat := nm bs 2 44
def hAt (bs : List UInt8) : Nat := nm bs 4 28
/-- a file header stands there -/
def fileB (bs : List UInt8) : Bool := decide (52 ≤ bs.length ∧ bs.take 16 = ident16 ∧ nm bs 2 16 = 3 ∧ nm bs 2 18 = 243 ∧ nm bs 4 20 = 1 ∧ nm bs 4 36 = 0 ∧ nm bs 2 40 = 52 ∧ nm bs 2 42 = 32 ∧ 1 ≤ hN bs ∧ hN bs ≤ 5 ∧ hAt bs + 32 * hN bs ≤ bs.length)
def rgt (x : Nat) : Nat := (if x % 2 = 1 then 4 else 0) + (if x / 2 % 2 = 1 then 2 else 0) + (if x / 4 = 1 then 1 else 0)
theorem rgt_le (x : Nat) : rgt x ≤ 7 := by
  unfold rgt
  split <;> split <;> split <;> omega
/-- the header that stands at p -/
def hdA (bs : List UInt8) (p : Nat) : Hd := ⟨nm bs 4 p, nm bs 4 (p + 4), nm bs 4 (p + 8), nm bs 4 (p + 16), nm bs 4 (p + 20), rgt (nm bs 4 (p + 24))⟩
/-- it is none that may be -/
def hdX (bs : List UInt8) (p : Nat) : Bool := decide ((nm bs 4 p ≠ 1 ∧ nm bs 4 p ≠ 2) ∨ 7 < nm bs 4 (p + 24) ∨ bs.length < nm bs 4 (p + 4) + nm bs 4 (p + 16) ∨ nm bs 4 (p + 20) < nm bs 4 (p + 16))
def hds (bs : List UInt8) (n : Nat) : List Hd := (List.range n).map fun i => hdA bs (hAt bs + 32 * i)
/-- every header may be -/
def hdsB (bs : List UInt8) : Bool := (List.range (hN bs)).all fun i => !hdX bs (hAt bs + 32 * i)
/-- what Heads answers: the entry, the headers, the error -/
def headsN (bs : List UInt8) : Nat × List Hd × Nat := if (fileB bs && hdsB bs) = true then (nm bs 4 24, hds bs (hN bs), 0) else (0, [], 8)
def segX (h : Hd) (ns e : Nat) : Bool := decide (h.m = 0 ∨ h.m % 4 ≠ 0 ∨ h.d % 4 ≠ 0 ∨ 4294967292 < h.d + h.m ∨ h.r = 0 ∨ 6 ≤ h.r ∨ ns = 4 ∨ h.d < e)
def entB (en : Nat) (h : Hd) : Bool := decide (4 ≤ h.r ∧ en % 4 = 0 ∧ h.d ≤ en ∧ en + 4 ≤ h.d + h.m)
def segGo (bs : List UInt8) (en : Nat) : List Hd → List Sg → List Hd → Nat → Bool → Option (List Sg × List Hd × Bool)
  | [], ss, ds, _, at' => some (ss, ds, at')
  | h :: hs, ss, ds, e, at' =>
    if h.k = 2 then segGo bs en hs ss (ds ++ [h]) e at'
    else if segX h ss.length e = true then none
    else segGo bs en hs (ss ++ [⟨h.d, h.m, h.r, (bs.drop h.a).take h.f⟩]) ds (h.d + h.m) (at' || entB en h)
def segEnd (en : Nat) : Option (List Sg × List Hd × Bool) → Nat × List Sg × List Hd × Nat
  | none => (0, [], [], 9)
  | some (ss, ds, at') => if 1 < ds.length ∨ at' = false then (0, [], [], 9) else (en, ss, ds, 0)
/-- what Segments answers: the entry, the segments, the Dynamic headers, the error -/
def segsN (bs : List UInt8) : Nat × List Sg × List Hd × Nat :=
  if (headsN bs).2.2 = 0 then segEnd (headsN bs).1 (segGo bs (headsN bs).1 (headsN bs).2.1 [] [] 0 false) else (0, [], [], (headsN bs).2.2)
structure Hd.Wf (h : Hd) : Prop where
  k : h.k < 4294967296
  a : h.a < 4294967296
  d : h.d < 4294967296
  f : h.f < 4294967296
  m : h.m < 4294967296
  r : h.r ≤ 7
theorem hdA_wf (bs : List UInt8) (p : Nat) : (hdA bs p).Wf := ⟨nm4 _ _, nm4 _ _, nm4 _ _, nm4 _ _, nm4 _ _, rgt_le _⟩
theorem hds_wf {bs : List UInt8} {n : Nat} {h : Hd} (hh : h ∈ hds bs n) : h.Wf := by
  obtain ⟨i, _, rfl⟩ := List.mem_map.1 hh
  exact hdA_wf _ _
theorem heads_wf {bs : List UInt8} {h : Hd} (hh : h ∈ (headsN bs).2.1) : h.Wf := by
  unfold headsN at hh
  split at hh
  · exact hds_wf hh
  · cases hh
theorem heads_len (bs : List UInt8) : (headsN bs).2.1.length ≤ 5 ∧ (headsN bs).1 < 4294967296 ∧ (headsN bs).2.2 ≤ 8 := by
  unfold headsN
  split
  · rename_i h
    rw [Bool.and_eq_true] at h
    have h1 := of_decide_eq_true h.1
    refine ⟨?_, nm4 _ _, Nat.zero_le _⟩
    unfold hds
    simp only [List.length_map, List.length_range]
    omega
  · exact ⟨by decide, by decide, by decide⟩
/-- a header's contents lie in the file -/
theorem heads_in {bs : List UInt8} {h : Hd} (hh : h ∈ (headsN bs).2.1) : (h.k = 1 ∨ h.k = 2) ∧ h.a + h.f ≤ bs.length ∧ h.f ≤ h.m := by
  unfold headsN at hh
  split at hh
  · rename_i hb
    rw [Bool.and_eq_true] at hb
    obtain ⟨i, hi, rfl⟩ := List.mem_map.1 hh
    have h2 := List.all_eq_true.1 hb.2 i hi
    have h3 : hdX bs (hAt bs + 32 * i) = false := by simpa using h2
    have h4 := of_decide_eq_false h3
    show (nm bs 4 _ = 1 ∨ nm bs 4 _ = 2) ∧ nm bs 4 _ + nm bs 4 _ ≤ _ ∧ nm bs 4 _ ≤ nm bs 4 _
    omega
  · cases hh
/-- a header's cells in package elf; in the reference; a segment's -/
def hdE (h : Hd) : Nat → Value
  | 0 => .int .i64 (h.k : Int)
  | 1 => .int .u32 (h.a : Int)
  | 2 => .int .u32 (h.d : Int)
  | 3 => .int .u32 (h.f : Int)
  | 4 => .int .u32 (h.m : Int)
  | _ => .int .i64 (h.r : Int)
def hdR (h : Hd) : Nat → Value
  | 0 => .int .i64 (h.k : Int)
  | 1 => .int .i64 (h.a : Int)
  | 2 => .int .i64 (h.d : Int)
  | 3 => .int .i64 (h.f : Int)
  | 4 => .int .i64 (h.m : Int)
  | _ => .int .i64 (h.r : Int)
def sgE (s : Sg) (x : Sl) : Nat → Value
  | 0 => .int .u32 (s.d : Int)
  | 1 => x.v
  | 2 => .int .u32 (s.z : Int)
  | _ => .int .i64 (s.r : Int)
def sgR (s : Sg) (x : Sl) : Nat → Value
  | 0 => .int .i64 (s.d : Int)
  | 1 => .int .i64 (s.z : Int)
  | 2 => .int .i64 (s.r : Int)
  | _ => x.v
theorem hdR_lit (h : Hd) : (#[.int .i64 (h.k : Int), .int .i64 (h.a : Int), .int .i64 (h.d : Int), .int .i64 (h.f : Int), .int .i64 (h.m : Int), .int .i64 (h.r : Int)] : Array Value) = tab 6 (hdR h) := by kernel_rfl
theorem sgR_lit (s : Sg) (x : Sl) : (#[.int .i64 (s.d : Int), .int .i64 (s.z : Int), .int .i64 (s.r : Int), x.v] : Array Value) = tab 4 (sgR s x) := by kernel_rfl
theorem hdE_one (h : Hd) (j : Nat) : (hdE h j).oneCell' = true := by unfold hdE; split <;> rfl
theorem hdR_one (h : Hd) (j : Nat) : (hdR h j).oneCell' = true := by unfold hdR; split <;> rfl
theorem sgE_one (s : Sg) (x : Sl) (j : Nat) : (sgE s x j).oneCell' = true := by unfold sgE; split <;> rfl
theorem sgR_one (s : Sg) (x : Sl) (j : Nat) : (sgR s x j).oneCell' = true := by unfold sgR; split <;> rfl
/-- the slice's bytes -/
def SlY (w : World) (x : Sl) (b : List UInt8) : Prop := SlA w x.A x.n x.c b
/-- headers of package elf; of the reference -/
def SlH (w : World) (s : Sl) (hs : List Hd) : Prop := hs.length = s.n ∧ SlC w s 6 fun j i => hdE (hs.getD j hd0) i
def SlJ (w : World) (s : Sl) (hs : List Hd) : Prop := hs.length = s.n ∧ SlC w s 6 fun j i => hdR (hs.getD j hd0) i
/-- segments of package elf; of the reference -/
def SlS (w : World) (s : Sl) (ss : List Sg) : Prop := ss.length = s.n ∧ ∃ T : Nat → Sl, SlC w s 4 (fun j i => sgE (ss.getD j sg0) (T j) i) ∧ ∀ j, j < s.n → SlY w (T j) (ss.getD j sg0).b
def SlT (w : World) (s : Sl) (ss : List Sg) : Prop := ss.length = s.n ∧ ∃ T : Nat → Sl, SlC w s 4 (fun j i => sgR (ss.getD j sg0) (T j) i) ∧ ∀ j, j < s.n → SlY w (T j) (ss.getD j sg0).b
section
variable {w w' : World} {s : Sl} {hs : List Hd} {ss : List Sg}
theorem SlH.below (h : SlH w s hs) (k : Below w.heap.size w w') : SlH w' s hs := ⟨h.1, h.2.below k⟩
theorem SlJ.below (h : SlJ w s hs) (k : Below w.heap.size w w') : SlJ w' s hs := ⟨h.1, h.2.below k⟩
theorem SlS.below (h : SlS w s ss) (k : Below w.heap.size w w') : SlS w' s ss := by
  obtain ⟨h1, T, h2, h3⟩ := h
  exact ⟨h1, T, h2.below k, fun j hj => SlA.below (h3 j hj) k⟩
theorem SlT.below (h : SlT w s ss) (k : Below w.heap.size w w') : SlT w' s ss := by
  obtain ⟨h1, T, h2, h3⟩ := h
  exact ⟨h1, T, h2.below k, fun j hj => SlA.below (h3 j hj) k⟩
end
/-- the cells of elements, one behind the other -/
def cellsL {α : Type} (k : Nat) (f : α → Nat → Value) (xs : List α) : List Value := xs.flatMap fun x => (List.range k).map (f x)
theorem cellsL_len {α : Type} (k : Nat) (f : α → Nat → Value) : ∀ xs : List α, (cellsL k f xs).length = xs.length * k
  | [] => by simp [cellsL]
  | q :: qs => by
    have := cellsL_len k f qs
    simp only [cellsL, List.flatMap_cons, List.length_append, List.length_map, List.length_range, List.length_cons] at this ⊢
    rw [this, Nat.succ_mul]; omega
theorem cellsL_app {α : Type} (k : Nat) (f : α → Nat → Value) (a b : List α) : cellsL k f (a ++ b) = cellsL k f a ++ cellsL k f b := by simp [cellsL]
theorem cellsL_get {α : Type} (k : Nat) (f : α → Nat → Value) (d : α) : ∀ (qs : List α) (j i : Nat), j < qs.length → i < k → (cellsL k f qs)[j * k + i]? = some (f (qs.getD j d) i)
  | [], j, i, h, _ => by simp at h
  | q :: qs, 0, i, _, hi => by
    show ((List.range k).map (f q) ++ cellsL k f qs)[0 * k + i]? = _
    rw [Nat.zero_mul, Nat.zero_add, List.getElem?_append_left (by simpa using hi)]
    simp [hi]
  | q :: qs, j + 1, i, h, hi => by
    have h2 := cellsL_get k f d qs j i (by simpa using h) hi
    show ((List.range k).map (f q) ++ cellsL k f qs)[(j + 1) * k + i]? = _
    rw [show (j + 1) * k + i = k + (j * k + i) by rw [Nat.succ_mul]; omega, List.getElem?_append_right (by simp)]
    simpa using h2
/-- a row of elements reads as elements -/
theorem own_slC {α : Type} {f : α → Nat → Value} {w : World} {base n c k : Nat} {e : TypeId} {A : Option Addr} {xs : List α} (h : w.ownsRow base e k (.slice A n c) n (cellsL k f xs)) (hk : 0 < k) (hn : n ≤ 140737488355328) (d : α) :
    xs.length = n ∧ SlC w ⟨A, n, c⟩ k fun j i => f (xs.getD j d) i := by
  have hl : xs.length = n := by
    have h1 := h.1
    rw [cellsL_len] at h1
    exact Nat.eq_of_mul_eq_mul_right hk h1
  refine ⟨hl, ⟨?_, hn⟩, fun h0 => ?_⟩
  · rcases h.2 with ⟨hv, h0⟩ | ⟨g, cap, cur, hv, hb, hg, hnc, _⟩
    · show n ≤ c
      omega
    · have e2 : c = cap := by injection hv
      show n ≤ c
      omega
  · replace h0 : 0 < n := h0
    rcases h.2 with ⟨hv, h1⟩ | ⟨g, cap, cur, hv, hb, hg, hnc, _⟩
    · omega
    · have e1 : A = some ⟨g, 0, none⟩ := by injection hv
      subst e1
      have hc := h.cells (g := g) rfl
      refine ⟨g, 0, rfl, (Array.getElem?_eq_some_iff.1 hg).1, fun j i hj hi => ?_⟩
      replace hj : j < n := hj
      have := hc (j * k + i) _ (cellsL_get k f d xs j i (by omega) hi)
      rw [Addr.add_mid] at this
      rw [Nat.add_assoc]
      exact this
/-- append(v, x), one element -/
theorem wp_append_elK {α : Type} {f : α → Nat → Value} {P : Program} {st e : TypeId} {k by' : Nat} {z : Value} (hu : P.underlying st = some (.slice e)) (hinfo : (P.info? e).map (fun i => (i.zero, i.size, i.bytes)) = some (some z, k, by')) (hzs : z.cells.size = k) (hk : 0 < k) (hby : by' ≤ 1000) (h1f : ∀ x j, (f x j).oneCell' = true)
    {w : World} {op : Oper} {a : Act} {K : Act → World → Prop} {Q : Exit → Act → World → Prop} (s x : Operand)
    (ho : op.op = .call { callee := .builtin .append, args := #[s, x], argTypes := #[st, st] }) (base : Nat) (v : Value) (n : Nat) (qs : List α) (hs : a.eval s = v)
    (hown : w.ownsRow base e k v n (cellsL k f qs)) (h : Nat) (hx : a.eval x = .slice (some ⟨h, 0, none⟩) 1 1) (q : α) (hH : Has w h e (tab k (f q))) (h63 : n + 1 ≤ 1000000) (hbase : base ≤ w.heap.size)
    (hK : ∀ v' w', w'.ownsRow base e k v' (n + 1) (cellsL k f (qs ++ [q])) → w.grownBy w' v.ownBlock → K (a.put op.dst v') w') : op.wp P a w K Q := by
  obtain ⟨i5, hi5, hz5, hs5, hb5⟩ := info_parts hinfo
  have e1 : cellsL k f [q] = (List.range k).map (f q) := by simp [cellsL]
  have hb2 : (n + 1) * by' ≤ 1000000 * 1000 := Nat.mul_le_mul h63 hby
  refine wp_append_own _ s x st ho base e i5 z k by' hu hi5 hz5 hs5 hb5 hzs hk v n (cellsL k f qs) hs hown ⟨h, 0, none⟩ 1 1 (cellsL k f [q]) hx (by rw [cellsL_len]; rfl) (fun j u hj => ?_) (fun u hu => ?_) (by simp only [maxLen]; omega) (by omega) hbase
    (fun v' w' h1 h2 _ => hK v' w' (by rw [cellsL_app]; exact h1) h2)
  · rw [e1] at hj
    have hj3 : j < k := by have := (List.getElem?_eq_some_iff.1 hj).1; simpa using this
    rw [Addr.add_mid, Nat.zero_add, hH.cellTab j hj3, ← hj]
    simp [hj3]
  · rw [e1] at hu
    obtain ⟨j, _, rfl⟩ := List.mem_map.1 hu
    exact h1f _ _
theorem wp_append_el {α : Type} {f : α → Nat → Value} {P : Program} {st e : TypeId} {k by' : Nat} {z : Value} (hu : P.underlying st = some (.slice e)) (hinfo : (P.info? e).map (fun i => (i.zero, i.size, i.bytes)) = some (some z, k, by')) (hzs : z.cells.size = k) (hk : 0 < k) (hby : by' ≤ 1000) (h1f : ∀ x j, (f x j).oneCell' = true)
    {w : World} {ops : Array Oper} {rest : List Oper} {op : Oper} {a : Act} {Q : Exit → Act → World → Prop} (hgd : op.guard = none) (s x : Operand)
    (ho : op.op = .call { callee := .builtin .append, args := #[s, x], argTypes := #[st, st] }) (base : Nat) (v : Value) (n : Nat) (qs : List α) (hs : a.eval s = v)
    (hown : w.ownsRow base e k v n (cellsL k f qs)) (h : Nat) (hx : a.eval x = .slice (some ⟨h, 0, none⟩) 1 1) (q : α) (hH : Has w h e (tab k (f q))) (h63 : n + 1 ≤ 1000000) (hbase : base ≤ w.heap.size)
    (hK : ∀ v' w', w'.ownsRow base e k v' (n + 1) (cellsL k f (qs ++ [q])) → w.grownBy w' v.ownBlock → wpList P ops Q rest (a.put op.dst v') w') : wpList P ops Q (op :: rest) a w :=
  wpList_plain hgd fun _ hK2 => wp_append_elK hu hinfo hzs hk hby h1f s x ho base v n qs hs hown h hx q hH h63 hbase fun v' w' h1 h2 => hK2 _ _ (hK v' w' h1 h2)
/-- a row of one element -/
theorem wp_build_el {α : Type} {f : α → Nat → Value} {P : Program} {st e : TypeId} {k by' : Nat} {z : Value} (hu : P.underlying st = some (.slice e)) (hinfo : (P.info? e).map (fun i => (i.zero, i.size, i.bytes)) = some (some z, k, by')) (hk : 0 < k) (hk2 : k ≤ 1000)
    {w : World} {ops : Array Oper} {rest : List Oper} {o : Oper} {a : Act} {Q : Exit → Act → World → Prop} (hg : o.guard = none) (x : Operand) (ho : o.op = .buildSlice st 1 #[(0, x)]) (q : α) (hx : a.eval x = .agg (tab k (f q)))
    (h : ∀ w', w' = w.alloc (.cells (tab k (f q)) e) → wpList P ops Q rest (a.put o.dst (.slice (some ⟨w.heap.size, 0, none⟩) 1 1)) w') : wpList P ops Q (o :: rest) a w := by
  obtain ⟨i5, hi5, hz5, hs5, hb5⟩ := info_parts hinfo
  refine wpList_buildSlice hg st e 1 #[(0, x)] ho (tab k (f q)) i5 _ hu hi5 hz5 (by rw [hs5]; omega) (by rw [hs5]; omega) ?_ (h _ rfl)
  rw [hs5]
  simp only [List.map_toArray, List.map_cons, List.map_nil, hx]
  refine (Great.fill_whole (s := k) hk [.agg (tab k (f q))] _ (fun v hv => by rw [List.mem_singleton.1 hv]; exact tab_size _ _) (by simp)).trans ?_
  simp [Value.cells]
theorem infoHR : (Try.prog.info? 46).map (fun i => (i.zero, i.size, i.bytes)) = some (some (.agg (tab 6 (hdR hd0))), 6, 48) := by kernel_rfl
theorem infoSR : (Try.prog.info? 56).map (fun i => (i.zero, i.size, i.bytes)) = some (some (.agg (tab 4 (sgR sg0 ⟨none, 0, 0⟩))), 4, 48) := by kernel_rfl
theorem infoHR6 : (Try.prog.info? 46).map (·.size) = some 6 := by kernel_rfl
theorem infoHE6 : (Try.prog.info? 51).map (·.size) = some 6 := by kernel_rfl
theorem infoSE4 : (Try.prog.info? 36).map (·.size) = some 4 := by kernel_rfl
theorem infoHEz : (Try.prog.info? 51).map (fun i => (i.zero, i.size)) = some (some (.agg (tab 6 (hdE hd0))), 6) := by kernel_rfl
theorem infoHRz : (Try.prog.info? 46).map (fun i => (i.zero, i.size)) = some (some (.agg (tab 6 (hdR hd0))), 6) := by kernel_rfl
theorem infoSEz : (Try.prog.info? 36).map (fun i => (i.zero, i.size)) = some (some (.agg (tab 4 (sgE sg0 ⟨none, 0, 0⟩))), 4) := by kernel_rfl
theorem zeroHE (w : World) : (zeroValue 51).run Try.prog w = .ok (.agg (tab 6 (hdE hd0))) w := (zero_of_info infoHEz).1 w
theorem zeroHR (w : World) : (zeroValue 46).run Try.prog w = .ok (.agg (tab 6 (hdR hd0))) w := (zero_of_info infoHRz).1 w
theorem zeroSE (w : World) : (zeroValue 36).run Try.prog w = .ok (.agg (tab 4 (sgE sg0 ⟨none, 0, 0⟩))) w := (zero_of_info infoSEz).1 w
/-- an element is loaded out of a slice -/
theorem wp_load_hr {w : World} {ops : Array Oper} {rest : List Oper} {op : Oper} {a : Act} {Q : Exit → Act → World → Prop} (hgd : op.guard = none) (x : Operand) (ho : op.op = .load 46 x)
    (b o : Nat) (hx : a.eval x = .pointer (some ⟨b, o, none⟩)) (f : Nat → Value) (hc : w.rangeAt b o ((List.range 6).map f)) (h : wpList Try.prog ops Q rest (a.put op.dst (.agg (tab 6 f))) w) : wpList Try.prog ops Q (op :: rest) a w :=
  wpList_load_mid hgd 46 x ho b o hx _ _ hc Try.underlying46 rfl (by simpa using infoHR6) h
theorem wp_load_he {w : World} {ops : Array Oper} {rest : List Oper} {op : Oper} {a : Act} {Q : Exit → Act → World → Prop} (hgd : op.guard = none) (x : Operand) (ho : op.op = .load 51 x)
    (b o : Nat) (hx : a.eval x = .pointer (some ⟨b, o, none⟩)) (f : Nat → Value) (hc : w.rangeAt b o ((List.range 6).map f)) (h : wpList Try.prog ops Q rest (a.put op.dst (.agg (tab 6 f))) w) : wpList Try.prog ops Q (op :: rest) a w :=
  wpList_load_mid hgd 51 x ho b o hx _ _ hc Try.underlying51 rfl (by simpa using infoHE6) h
theorem wp_load_se {w : World} {ops : Array Oper} {rest : List Oper} {op : Oper} {a : Act} {Q : Exit → Act → World → Prop} (hgd : op.guard = none) (x : Operand) (ho : op.op = .load 36 x)
    (b o : Nat) (hx : a.eval x = .pointer (some ⟨b, o, none⟩)) (f : Nat → Value) (hc : w.rangeAt b o ((List.range 4).map f)) (h : wpList Try.prog ops Q rest (a.put op.dst (.agg (tab 4 f))) w) : wpList Try.prog ops Q (op :: rest) a w :=
  wpList_load_mid hgd 36 x ho b o hx _ _ hc Try.underlying36 rfl (by simpa using infoSE4) h
end Go.Proofs.Ytoplknankmomcaa
