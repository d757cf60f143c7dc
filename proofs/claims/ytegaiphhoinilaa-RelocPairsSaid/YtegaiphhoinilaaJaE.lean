/-
Layer 8: headers and segments as plain data; how they lie in memory; rows of the call's own, of any element.
Layer 8, the reference: Heads.
Package bytes' cursor at a place: what its calls answer, and that only its own block changes.
-/
import Derived.Test.YtegaiphhoinilaaJaD
namespace Go.Proofs.Ytegaiphhoinilaa
open Go Go.RowKit

/-- a header -/
structure Hd where
  k : Nat
  a : Nat
  d : Nat
  f : Nat
  m : Nat
  r : Nat
deriving DecidableEq
def hd0 : Hd := ⟨0, 0, 0, 0, 0, 0⟩
/-- a segment -/
structure Sg where
  d : Nat
  z : Nat
  r : Nat
  b : List UInt8
deriving DecidableEq
def sg0 : Sg := ⟨0, 0, 0, []⟩
/-- the number of the k bytes from q on, 0 where they are not all there -/
def nm (bs : List UInt8) (k q : Nat) : Nat := if q + k ≤ bs.length then leT (bsN bs) k q else 0
theorem nm_lt (bs : List UInt8) (k q : Nat) : nm bs k q < 256 ^ k := by
  unfold nm
  split
  · exact leT_lt (bsN_lt bs) k q
  · exact Nat.pow_pos (by decide)
theorem nm4 (bs : List UInt8) (q : Nat) : nm bs 4 q < 4294967296 := nm_lt bs 4 q
theorem nm2 (bs : List UInt8) (q : Nat) : nm bs 2 q < 65536 := nm_lt bs 2 q
def ident16 : List UInt8 := [127, 69, 76, 70, 1, 1, 1, 0, 0, 0, 0, 0, 0, 0, 0, 0]
/-- how many program headers; where -/
def hN (bs : List UInt8) : Nat := nm bs 2 44
def hAt (bs : List UInt8) : Nat := nm bs 4 28
/-- a file header stands there -/
def fileB (bs : List UInt8) : Bool := decide (52 ≤ bs.length ∧ bs.take 16 = ident16 ∧ nm bs 2 16 = 3 ∧ nm bs 2 18 = 243 ∧ nm bs 4 20 = 1 ∧ nm bs 4 36 = 0 ∧ nm bs 2 40 = 52 ∧ nm bs 2 42 = 32 ∧ 1 ≤ hN bs ∧ hN bs ≤ 5 ∧ hAt bs + 32 * hN bs ≤ bs.length)
def rgt (x : Nat) : Nat := (if x % 2 = 1 then 4 else 0) + (if x / 2 % 2 = 1 then 2 else 0) + (if x / 4 = 1 then 1 else 0)
theorem rgt_le (x : Nat) : rgt x ≤ 7 := by
  unfold rgt
  split <;> split <;> split <;> omega
/-- the header that stands at p -/
def hdA (bs : List UInt8) (p : Nat) : Hd := ⟨nm bs 4 p, nm bs 4 (p + 4), nm bs 4 (p + 8), nm bs 4 (p + 16), nm bs 4 (p + 20), rgt (nm bs 4 (p + 24))⟩
/-- it is none that may be -/
def hdX (bs : List UInt8) (p : Nat) : Bool := decide ((nm bs 4 p ≠ 1 ∧ nm bs 4 p ≠ 2) ∨ 7 < nm bs 4 (p + 24) ∨ bs.length < nm bs 4 (p + 4) + nm bs 4 (p + 16) ∨ nm bs 4 (p + 20) < nm bs 4 (p + 16))
def hds (bs : List UInt8) (n : Nat) : List Hd := (List.range n).map fun i => hdA bs (hAt bs + 32 * i)
/-- every header may be -/
def hdsB (bs : List UInt8) : Bool := (List.range (hN bs)).all fun i => !hdX bs (hAt bs + 32 * i)
/-- what Heads answers: the entry, the headers, the error -/
def headsN (bs : List UInt8) : Nat × List Hd × Nat := if (fileB bs && hdsB bs) = true then (nm bs 4 24, hds bs (hN bs), 0) else (0, [], 8)
def segX (h : Hd) (ns e : Nat) : Bool := decide (h.m = 0 ∨ h.m % 4 ≠ 0 ∨ h.d % 4 ≠ 0 ∨ 4294967292 < h.d + h.m ∨ h.r = 0 ∨ 6 ≤ h.r ∨ ns = 4 ∨ h.d < e)
def entB (en : Nat) (h : Hd) : Bool := decide (4 ≤ h.r ∧ en % 4 = 0 ∧ h.d ≤ en ∧ en + 4 ≤ h.d + h.m)
def segGo (bs : List UInt8) (en : Nat) : List Hd → List Sg → List Hd → Nat → Bool → Option (List Sg × List Hd × Bool)
  | [], ss, ds, _, at' => some (ss, ds, at')
  | h :: hs, ss, ds, e, at' =>
    if h.k = 2 then segGo bs en hs ss (ds ++ [h]) e at'
    else if segX h ss.length e = true then none
    else segGo bs en hs (ss ++ [⟨h.d, h.m, h.r, (bs.drop h.a).take h.f⟩]) ds (h.d + h.m) (at' || entB en h)
def segEnd (en : Nat) : Option (List Sg × List Hd × Bool) → Nat × List Sg × List Hd × Nat
  | none => (0, [], [], 9)
  | some (ss, ds, at') => if 1 < ds.length ∨ at' = false then (0, [], [], 9) else (en, ss, ds, 0)
/-- what Segments answers: the entry, the segments, the Dynamic headers, the error -/
def segsN (bs : List UInt8) : Nat × List Sg × List Hd × Nat :=
  if (headsN bs).2.2 = 0 then segEnd (headsN bs).1 (segGo bs (headsN bs).1 (headsN bs).2.1 [] [] 0 false) else (0, [], [], (headsN bs).2.2)
structure Hd.Wf (h : Hd) : Prop where
  k : h.k < 4294967296
  a : h.a < 4294967296
  d : h.d < 4294967296
  f : h.f < 4294967296
  m : h.m < 4294967296
  r : h.r ≤ 7
theorem hdA_wf (bs : List UInt8) (p : Nat) : (hdA bs p).Wf := ⟨nm4 _ _, nm4 _ _, nm4 _ _, nm4 _ _, nm4 _ _, rgt_le _⟩
theorem hds_wf {bs : List UInt8} {n : Nat} {h : Hd} (hh : h ∈ hds bs n) : h.Wf := by
  obtain ⟨i, _, rfl⟩ := List.mem_map.1 hh
  exact hdA_wf _ _
theorem heads_wf {bs : List UInt8} {h : Hd} (hh : h ∈ (headsN bs).2.1) : h.Wf := by
  unfold headsN at hh
  split at hh
  · exact hds_wf hh
  · cases hh
theorem heads_len (bs : List UInt8) : (headsN bs).2.1.length ≤ 5 ∧ (headsN bs).1 < 4294967296 ∧ (headsN bs).2.2 ≤ 8 := by
  unfold headsN
  split
  · rename_i h
    rw [Bool.and_eq_true] at h
    have h1 := of_decide_eq_true h.1
    refine ⟨?_, nm4 _ _, Nat.zero_le _⟩
    unfold hds
    simp only [List.length_map, List.length_range]
    omega
  · exact ⟨by decide, by decide, by decide⟩
/-- a header's contents lie in the file -/
theorem heads_in {bs : List UInt8} {h : Hd} (hh : h ∈ (headsN bs).2.1) : (h.k = 1 ∨ h.k = 2) ∧ h.a + h.f ≤ bs.length ∧ h.f ≤ h.m := by
  unfold headsN at hh
  split at hh
  · rename_i hb
    rw [Bool.and_eq_true] at hb
    obtain ⟨i, hi, rfl⟩ := List.mem_map.1 hh
    have h2 := List.all_eq_true.1 hb.2 i hi
    have h3 : hdX bs (hAt bs + 32 * i) = false := by simpa using h2
    have h4 := of_decide_eq_false h3
    show (nm bs 4 _ = 1 ∨ nm bs 4 _ = 2) ∧ nm bs 4 _ + nm bs 4 _ ≤ _ ∧ nm bs 4 _ ≤ nm bs 4 _
    omega
  · cases hh
/-- a header's cells in package elf; in the reference; a segment's -/
def hdE (h : Hd) : Nat → Value
  | 0 => .int .i64 (h.k : Int)
  | 1 => .int .u32 (h.a : Int)
  | 2 => .int .u32 (h.d : Int)
  | 3 => .int .u32 (h.f : Int)
  | 4 => .int .u32 (h.m : Int)
  | _ => .int .i64 (h.r : Int)
def hdR (h : Hd) : Nat → Value
  | 0 => .int .i64 (h.k : Int)
  | 1 => .int .i64 (h.a : Int)
  | 2 => .int .i64 (h.d : Int)
  | 3 => .int .i64 (h.f : Int)
  | 4 => .int .i64 (h.m : Int)
  | _ => .int .i64 (h.r : Int)
def sgE (s : Sg) (x : Sl) : Nat → Value
  | 0 => .int .u32 (s.d : Int)
  | 1 => x.v
  | 2 => .int .u32 (s.z : Int)
  | _ => .int .i64 (s.r : Int)
def sgR (s : Sg) (x : Sl) : Nat → Value
  | 0 => .int .i64 (s.d : Int)
  | 1 => .int .i64 (s.z : Int)
  | 2 => .int .i64 (s.r : Int)
  | _ => x.v
theorem hdR_lit (h : Hd) : (#[.int .i64 (h.k : Int), .int .i64 (h.a : Int), .int .i64 (h.d : Int), .int .i64 (h.f : Int), .int .i64 (h.m : Int), .int .i64 (h.r : Int)] : Array Value) = tab 6 (hdR h) := by kernel_rfl
theorem sgR_lit (s : Sg) (x : Sl) : (#[.int .i64 (s.d : Int), .int .i64 (s.z : Int), .int .i64 (s.r : Int), x.v] : Array Value) = tab 4 (sgR s x) := by kernel_rfl
theorem hdE_one (h : Hd) (j : Nat) : (hdE h j).oneCell' = true := by unfold hdE; split <;> rfl
theorem hdR_one (h : Hd) (j : Nat) : (hdR h j).oneCell' = true := by unfold hdR; split <;> rfl
theorem sgE_one (s : Sg) (x : Sl) (j : Nat) : (sgE s x j).oneCell' = true := by unfold sgE; split <;> rfl
theorem sgR_one (s : Sg) (x : Sl) (j : Nat) : (sgR s x j).oneCell' = true := by unfold sgR; split <;> rfl
/-- the slice's bytes -/
def SlY (w : World) (x : Sl) (b : List UInt8) : Prop := SlA w x.A x.n x.c b
/-- headers of package elf; of the reference -/
def SlH (w : World) (s : Sl) (hs : List Hd) : Prop := hs.length = s.n ∧ SlC w s 6 fun j i => hdE (hs.getD j hd0) i
def SlJ (w : World) (s : Sl) (hs : List Hd) : Prop := hs.length = s.n ∧ SlC w s 6 fun j i => hdR (hs.getD j hd0) i
/-- segments of package elf; of the reference -/
def SlS (w : World) (s : Sl) (ss : List Sg) : Prop := ss.length = s.n ∧ ∃ T : Nat → Sl, SlC w s 4 (fun j i => sgE (ss.getD j sg0) (T j) i) ∧ ∀ j, j < s.n → SlY w (T j) (ss.getD j sg0).b ∧ ((T j).A = none → (T j).c = 0) ∧ (T j).c < 9223372036854775808
def SlT (w : World) (s : Sl) (ss : List Sg) : Prop := ss.length = s.n ∧ ∃ T : Nat → Sl, SlC w s 4 (fun j i => sgR (ss.getD j sg0) (T j) i) ∧ ∀ j, j < s.n → SlY w (T j) (ss.getD j sg0).b ∧ ((T j).A = none → (T j).c = 0) ∧ (T j).c < 9223372036854775808
section
variable {w w' : World} {s : Sl} {hs : List Hd} {ss : List Sg}
theorem SlH.below (h : SlH w s hs) (k : Below w.heap.size w w') : SlH w' s hs := ⟨h.1, h.2.below k⟩
theorem SlJ.below (h : SlJ w s hs) (k : Below w.heap.size w w') : SlJ w' s hs := ⟨h.1, h.2.below k⟩
theorem SlS.below (h : SlS w s ss) (k : Below w.heap.size w w') : SlS w' s ss := by
  obtain ⟨h1, T, h2, h3⟩ := h
  exact ⟨h1, T, h2.below k, fun j hj => ⟨SlA.below (h3 j hj).1 k, (h3 j hj).2⟩⟩
theorem SlT.below (h : SlT w s ss) (k : Below w.heap.size w w') : SlT w' s ss := by
  obtain ⟨h1, T, h2, h3⟩ := h
  exact ⟨h1, T, h2.below k, fun j hj => ⟨SlA.below (h3 j hj).1 k, (h3 j hj).2⟩⟩
end
/-- the cells of elements, one behind the other -/
def cellsL {α : Type} (k : Nat) (f : α → Nat → Value) (xs : List α) : List Value := xs.flatMap fun x => (List.range k).map (f x)
theorem cellsL_len {α : Type} (k : Nat) (f : α → Nat → Value) : ∀ xs : List α, (cellsL k f xs).length = xs.length * k
  | [] => by simp [cellsL]
  | q :: qs => by
    have := cellsL_len k f qs
    simp only [cellsL, List.flatMap_cons, List.length_append, List.length_map, List.length_range, List.length_cons] at this ⊢
    rw [this, Nat.succ_mul]; omega
theorem cellsL_app {α : Type} (k : Nat) (f : α → Nat → Value) (a b : List α) : cellsL k f (a ++ b) = cellsL k f a ++ cellsL k f b := by simp [cellsL]
theorem cellsL_get {α : Type} (k : Nat) (f : α → Nat → Value) (d : α) : ∀ (qs : List α) (j i : Nat), j < qs.length → i < k → (cellsL k f qs)[j * k + i]? = some (f (qs.getD j d) i)
  | [], j, i, h, _ => by simp at h
  | q :: qs, 0, i, _, hi => by
    show ((List.range k).map (f q) ++ cellsL k f qs)[0 * k + i]? = _
    rw [Nat.zero_mul, Nat.zero_add, List.getElem?_append_left (by simpa using hi)]
    simp [hi]
  | q :: qs, j + 1, i, h, hi => by
    have h2 := cellsL_get k f d qs j i (by simpa using h) hi
    show ((List.range k).map (f q) ++ cellsL k f qs)[(j + 1) * k + i]? = _
    rw [show (j + 1) * k + i = k + (j * k + i) by rw [Nat.succ_mul]; omega, List.getElem?_append_right (by simp)]
    simpa using h2
/-- a row of elements reads as elements -/
theorem own_slC {α : Type} {f : α → Nat → Value} {w : World} {base n c k : Nat} {e : TypeId} {A : Option Addr} {xs : List α} (h : w.ownsRow base e k (.slice A n c) n (cellsL k f xs)) (hk : 0 < k) (hn : n ≤ 140737488355328) (d : α) :
    xs.length = n ∧ SlC w ⟨A, n, c⟩ k fun j i => f (xs.getD j d) i := by
  have hl : xs.length = n := by
    have h1 := h.1
    rw [cellsL_len] at h1
    exact Nat.eq_of_mul_eq_mul_right hk h1
  refine ⟨hl, ⟨?_, hn⟩, fun h0 => ?_⟩
  · rcases h.2 with ⟨hv, h0⟩ | ⟨g, cap, cur, hv, hb, hg, hnc, _⟩
    · show n ≤ c
      omega
    · have e2 : c = cap := by injection hv
      show n ≤ c
      omega
  · replace h0 : 0 < n := h0
    rcases h.2 with ⟨hv, h1⟩ | ⟨g, cap, cur, hv, hb, hg, hnc, _⟩
    · omega
    · have e1 : A = some ⟨g, 0, none⟩ := by injection hv
      subst e1
      have hc := h.cells (g := g) rfl
      refine ⟨g, 0, rfl, (Array.getElem?_eq_some_iff.1 hg).1, fun j i hj hi => ?_⟩
      replace hj : j < n := hj
      have := hc (j * k + i) _ (cellsL_get k f d xs j i (by omega) hi)
      rw [Addr.add_mid] at this
      rw [Nat.add_assoc]
      exact this
/-- append(v, x), one element -/
theorem wp_append_elK {α : Type} {f : α → Nat → Value} {P : Program} {st e : TypeId} {k by' : Nat} {z : Value} (hu : P.underlying st = some (.slice e)) (hinfo : (P.info? e).map (fun i => (i.zero, i.size, i.bytes)) = some (some z, k, by')) (hzs : z.cells.size = k) (hk : 0 < k) (hby : by' ≤ 1000) (h1f : ∀ x j, (f x j).oneCell' = true)
    {w : World} {op : Oper} {a : Act} {K : Act → World → Prop} {Q : Exit → Act → World → Prop} (s x : Operand)
    (ho : op.op = .call { callee := .builtin .append, args := #[s, x], argTypes := #[st, st] }) (base : Nat) (v : Value) (n : Nat) (qs : List α) (hs : a.eval s = v)
    (hown : w.ownsRow base e k v n (cellsL k f qs)) (h : Nat) (hx : a.eval x = .slice (some ⟨h, 0, none⟩) 1 1) (q : α) (hH : Has w h e (tab k (f q))) (h63 : n + 1 ≤ 1000000) (hbase : base ≤ w.heap.size)
    (hK : ∀ v' w', w'.ownsRow base e k v' (n + 1) (cellsL k f (qs ++ [q])) → w.grownBy w' v.ownBlock → K (a.put op.dst v') w') : op.wp P a w K Q := by
  obtain ⟨i5, hi5, hz5, hs5, hb5⟩ := info_parts hinfo
  have e1 : cellsL k f [q] = (List.range k).map (f q) := by simp [cellsL]
  have hb2 : (n + 1) * by' ≤ 1000000 * 1000 := Nat.mul_le_mul h63 hby
  refine wp_append_own _ s x st ho base e i5 z k by' hu hi5 hz5 hs5 hb5 hzs hk v n (cellsL k f qs) hs hown ⟨h, 0, none⟩ 1 1 (cellsL k f [q]) hx (by rw [cellsL_len]; rfl) (fun j u hj => ?_) (fun u hu => ?_) (by simp only [maxLen]; omega) (by omega) hbase
    (fun v' w' h1 h2 _ => hK v' w' (by rw [cellsL_app]; exact h1) h2)
  · rw [e1] at hj
    have hj3 : j < k := by have := (List.getElem?_eq_some_iff.1 hj).1; simpa using this
    rw [Addr.add_mid, Nat.zero_add, hH.cellTab j hj3, ← hj]
    simp [hj3]
  · rw [e1] at hu
    obtain ⟨j, _, rfl⟩ := List.mem_map.1 hu
    exact h1f _ _
theorem wp_append_el {α : Type} {f : α → Nat → Value} {P : Program} {st e : TypeId} {k by' : Nat} {z : Value} (hu : P.underlying st = some (.slice e)) (hinfo : (P.info? e).map (fun i => (i.zero, i.size, i.bytes)) = some (some z, k, by')) (hzs : z.cells.size = k) (hk : 0 < k) (hby : by' ≤ 1000) (h1f : ∀ x j, (f x j).oneCell' = true)
    {w : World} {ops : Array Oper} {rest : List Oper} {op : Oper} {a : Act} {Q : Exit → Act → World → Prop} (hgd : op.guard = none) (s x : Operand)
    (ho : op.op = .call { callee := .builtin .append, args := #[s, x], argTypes := #[st, st] }) (base : Nat) (v : Value) (n : Nat) (qs : List α) (hs : a.eval s = v)
    (hown : w.ownsRow base e k v n (cellsL k f qs)) (h : Nat) (hx : a.eval x = .slice (some ⟨h, 0, none⟩) 1 1) (q : α) (hH : Has w h e (tab k (f q))) (h63 : n + 1 ≤ 1000000) (hbase : base ≤ w.heap.size)
    (hK : ∀ v' w', w'.ownsRow base e k v' (n + 1) (cellsL k f (qs ++ [q])) → w.grownBy w' v.ownBlock → wpList P ops Q rest (a.put op.dst v') w') : wpList P ops Q (op :: rest) a w :=
  wpList_plain hgd fun _ hK2 => wp_append_elK hu hinfo hzs hk hby h1f s x ho base v n qs hs hown h hx q hH h63 hbase fun v' w' h1 h2 => hK2 _ _ (hK v' w' h1 h2)
/-- a row of one element -/
theorem wp_build_el {α : Type} {f : α → Nat → Value} {P : Program} {st e : TypeId} {k by' : Nat} {z : Value} (hu : P.underlying st = some (.slice e)) (hinfo : (P.info? e).map (fun i => (i.zero, i.size, i.bytes)) = some (some z, k, by')) (hk : 0 < k) (hk2 : k ≤ 1000)
    {w : World} {ops : Array Oper} {rest : List Oper} {o : Oper} {a : Act} {Q : Exit → Act → World → Prop} (hg : o.guard = none) (x : Operand) (ho : o.op = .buildSlice st 1 #[(0, x)]) (q : α) (hx : a.eval x = .agg (tab k (f q)))
    (h : ∀ w', w' = w.alloc (.cells (tab k (f q)) e) → wpList P ops Q rest (a.put o.dst (.slice (some ⟨w.heap.size, 0, none⟩) 1 1)) w') : wpList P ops Q (o :: rest) a w := by
  obtain ⟨i5, hi5, hz5, hs5, hb5⟩ := info_parts hinfo
  refine wpList_buildSlice hg st e 1 #[(0, x)] ho (tab k (f q)) i5 _ hu hi5 hz5 (by rw [hs5]; omega) (by rw [hs5]; omega) ?_ (h _ rfl)
  rw [hs5]
  simp only [List.map_toArray, List.map_cons, List.map_nil, hx]
  refine (Great.fill_whole (s := k) hk [.agg (tab k (f q))] _ (fun v hv => by rw [List.mem_singleton.1 hv]; exact tab_size _ _) (by simp)).trans ?_
  simp [Value.cells]
theorem infoSE4 : (Try.prog.info? 129).map (·.size) = some 4 := by kernel_rfl
theorem infoSEz : (Try.prog.info? 129).map (fun i => (i.zero, i.size)) = some (some (.agg (tab 4 (sgE sg0 ⟨none, 0, 0⟩))), 4) := by kernel_rfl
theorem zeroSE (w : World) : (zeroValue 129).run Try.prog w = .ok (.agg (tab 4 (sgE sg0 ⟨none, 0, 0⟩))) w := (zero_of_info infoSEz).1 w
theorem wp_load_se {w : World} {ops : Array Oper} {rest : List Oper} {op : Oper} {a : Act} {Q : Exit → Act → World → Prop} (hgd : op.guard = none) (x : Operand) (ho : op.op = .load 129 x)
    (b o : Nat) (hx : a.eval x = .pointer (some ⟨b, o, none⟩)) (f : Nat → Value) (hc : w.rangeAt b o ((List.range 4).map f)) (h : wpList Try.prog ops Q rest (a.put op.dst (.agg (tab 4 f))) w) : wpList Try.prog ops Q (op :: rest) a w :=
  wpList_load_mid hgd 129 x ho b o hx _ _ hc Try.underlying129 rfl (by simpa using infoSE4) h
end Go.Proofs.Ytegaiphhoinilaa
namespace Go.Proofs.Ytegaiphhoinilaa
open Go Go.RowKit

/-- the cursor is at q, or has failed -/
def CuAt (bs : List UInt8) (q : Nat) (s : Cu) : Prop := s.bad = decide (bs.length < q) ∧ (q ≤ bs.length → s.p = q)
theorem CuAt.okE {bs : List UInt8} {q k : Nat} {s : Cu} (h : CuAt bs q s) : okT bs.length s.p s.bad (k : Int) = decide (q ≤ bs.length ∧ q + k ≤ bs.length) := by
  obtain ⟨hb, hp⟩ := h
  unfold okT
  rw [hb, Bool.eq_iff_iff]
  simp only [Bool.and_eq_true, Bool.not_eq_true', decide_eq_false_iff_not, decide_eq_true_eq]
  constructor
  · rintro ⟨h1, _, h2⟩
    rw [hp (by omega)] at h2
    omega
  · rintro ⟨h1, h2⟩
    rw [hp h1]
    omega
theorem CuAt.num {bs : List UInt8} {q k : Nat} {s : Cu} (h : CuAt bs q s) : s.num bs k = nm bs k q := by
  unfold Cu.num tkN nm
  rw [h.okE]
  by_cases h2 : q + k ≤ bs.length
  · rw [if_pos h2, if_pos (decide_eq_true ⟨by omega, h2⟩), h.2 (by omega)]
  · rw [if_neg h2, if_neg (by rw [decide_eq_true_eq]; omega)]
theorem CuAt.nxt {bs : List UInt8} {q k : Nat} {s : Cu} (h : CuAt bs q s) : CuAt bs (q + k) (s.nxt bs k) := by
  unfold Cu.nxt CuAt
  dsimp only
  unfold tkP
  rw [h.okE]
  by_cases h2 : q + k ≤ bs.length
  · rw [if_pos (decide_eq_true ⟨by omega, h2⟩), decide_eq_true ⟨by omega, h2⟩, decide_eq_false (by omega), h.2 (by omega)]
    exact ⟨rfl, fun _ => by simp⟩
  · rw [if_neg (by rw [decide_eq_true_eq]; omega), decide_eq_false (by omega), decide_eq_true (by omega)]
    exact ⟨rfl, fun h3 => absurd h3 h2⟩
section
variable {w0 w w' : World} {bs : List UInt8} {A : Option Addr} {n c gc q : Nat}
end
/-- the string of the bytes is the file's beginning -/
theorem strB_id (l : List UInt8) : ((strB l).toList == [127, 69, 76, 70, 1, 1, 1, 0, 0, 0, 0, 0, 0, 0, 0, 0]) = decide (l = ident16) := by
  rw [strB_toList]
  by_cases h : l = ident16
  · rw [decide_eq_true h, beq_iff_eq]; exact h
  · rw [decide_eq_false h, beq_eq_false_iff_ne]; exact h
def mk16 (bs : List UInt8) : List UInt8 := if 0 + 16 ≤ bs.length then (bs.drop 0).take 16 else []
theorem mk16_id (bs : List UInt8) : decide (mk16 bs = ident16) = decide (bs.take 16 = ident16) := by
  unfold mk16
  by_cases h : 0 + 16 ≤ bs.length
  · rw [if_pos h, List.drop_zero]
  · rw [if_neg h, decide_eq_false (by decide), decide_eq_false]
    intro e
    have := congrArg List.length e
    rw [List.length_take] at this
    have e2 : ident16.length = 16 := rfl
    omega
/-- the first three numbers: how many bytes, what they must be, where -/
def szN : Nat → Nat
  | 0 => 2
  | 1 => 2
  | _ => 4
def wnN : Nat → Nat
  | 0 => 3
  | 1 => 243
  | _ => 1
def q3 : Nat → Nat
  | 0 => 16
  | 1 => 18
  | 2 => 20
  | _ => 24
theorem q3_next {i : Nat} (h : i < 3) : q3 i + szN i = q3 (i + 1) := by
  rcases (show i = 0 ∨ i = 1 ∨ i = 2 by omega) with rfl | rfl | rfl <;> rfl
def ok3 (bs : List UInt8) : Nat → Bool
  | 0 => decide (bs.take 16 = ident16)
  | i + 1 => ok3 bs i && decide (nm bs (szN i) (q3 i) = wnN i)
theorem fileB_eq (bs : List UInt8) : fileB bs = (ok3 bs 3 && !decide (bs.length < 52) && decide (nm bs 4 36 = 0 ∧ nm bs 2 40 = 52 ∧ nm bs 2 42 = 32 ∧ 1 ≤ hN bs ∧ hN bs ≤ 5 ∧ hAt bs + 32 * hN bs ≤ bs.length)) := by
  unfold fileB ok3 ok3 ok3 ok3
  show _ = (((decide (bs.take 16 = ident16) && decide (nm bs 2 16 = 3)) && decide (nm bs 2 18 = 243)) && decide (nm bs 4 20 = 1) && _ && _)
  rw [← decide_not, ← Bool.decide_and, ← Bool.decide_and, ← Bool.decide_and, ← Bool.decide_and, ← Bool.decide_and]
  apply decide_eq_decide.2
  constructor
  · rintro ⟨h1, h2, h3, h4, h5, h6⟩
    exact ⟨⟨⟨⟨⟨h2, h3⟩, h4⟩, h5⟩, by omega⟩, h6⟩
  · rintro ⟨⟨⟨⟨⟨h2, h3⟩, h4⟩, h5⟩, h1⟩, h6⟩
    exact ⟨by omega, h2, h3, h4, h5, h6⟩
theorem fileB_vals {bs : List UInt8} {ok bad : Bool} {fl sz ea nh p : Nat} (h1 : ok3 bs 3 = ok) (h2 : decide (bs.length < 52) = bad) (h3 : nm bs 4 36 = fl) (h4 : nm bs 2 40 = sz) (h5 : nm bs 2 42 = ea) (h6 : nm bs 2 44 = nh) (h7 : nm bs 4 28 = p) :
    fileB bs = (ok && !bad && decide (fl = 0 ∧ sz = 52 ∧ ea = 32 ∧ 1 ≤ nh ∧ nh ≤ 5 ∧ p + 32 * nh ≤ bs.length)) ∧ hN bs = nh ∧ hAt bs = p := by
  rw [fileB_eq, h1, h2, h3, h4, h5, show hN bs = nh from h6, show hAt bs = p from h7]
  exact ⟨rfl, rfl, rfl⟩
theorem h19_ways (fl sz ea nh p n : Nat) :
    (((((fl : Int) != 0) = true)) ∧ (¬ (fl = 0 ∧ sz = 52 ∧ ea = 32 ∧ 1 ≤ nh ∧ nh ≤ 5 ∧ p + 32 * nh ≤ n))) ∨
    (((((fl : Int) != 0) = false)) ∧ ((((sz : Int) != 52) = true)) ∧ (¬ (fl = 0 ∧ sz = 52 ∧ ea = 32 ∧ 1 ≤ nh ∧ nh ≤ 5 ∧ p + 32 * nh ≤ n))) ∨
    (((((fl : Int) != 0) = false)) ∧ ((((sz : Int) != 52) = false)) ∧ ((((ea : Int) != 32) = true)) ∧ (¬ (fl = 0 ∧ sz = 52 ∧ ea = 32 ∧ 1 ≤ nh ∧ nh ≤ 5 ∧ p + 32 * nh ≤ n))) ∨
    (((((fl : Int) != 0) = false)) ∧ ((((sz : Int) != 52) = false)) ∧ ((((ea : Int) != 32) = false)) ∧ ((nh : Int) < 1) ∧ (¬ (fl = 0 ∧ sz = 52 ∧ ea = 32 ∧ 1 ≤ nh ∧ nh ≤ 5 ∧ p + 32 * nh ≤ n))) ∨
    (((((fl : Int) != 0) = false)) ∧ ((((sz : Int) != 52) = false)) ∧ ((((ea : Int) != 32) = false)) ∧ (1 ≤ (nh : Int)) ∧ (5 < (nh : Int)) ∧ (¬ (fl = 0 ∧ sz = 52 ∧ ea = 32 ∧ 1 ≤ nh ∧ nh ≤ 5 ∧ p + 32 * nh ≤ n))) ∨
    (((((fl : Int) != 0) = false)) ∧ ((((sz : Int) != 52) = false)) ∧ ((((ea : Int) != 32) = false)) ∧ (1 ≤ (nh : Int)) ∧ ((nh : Int) ≤ 5) ∧ ((n : Int) < (p : Int) + 32 * (nh : Int)) ∧ (¬ (fl = 0 ∧ sz = 52 ∧ ea = 32 ∧ 1 ≤ nh ∧ nh ≤ 5 ∧ p + 32 * nh ≤ n))) ∨
    (((((fl : Int) != 0) = false)) ∧ ((((sz : Int) != 52) = false)) ∧ ((((ea : Int) != 32) = false)) ∧ (1 ≤ (nh : Int)) ∧ ((nh : Int) ≤ 5) ∧ ((p : Int) + 32 * (nh : Int) ≤ (n : Int)) ∧ (fl = 0 ∧ sz = 52 ∧ ea = 32 ∧ 1 ≤ nh ∧ nh ≤ 5 ∧ p + 32 * nh ≤ n)) := by
  by_cases h0 : ¬ fl = 0
  · exact (.inl ⟨by simp only [bne_iff_ne, ne_eq]; omega, (by omega)⟩)
  by_cases h1 : ¬ sz = 52
  · exact (.inr (.inl ⟨by simp only [bne_eq_false_iff_eq]; omega, by simp only [bne_iff_ne, ne_eq]; omega, (by omega)⟩))
  by_cases h2 : ¬ ea = 32
  · exact (.inr (.inr (.inl ⟨by simp only [bne_eq_false_iff_eq]; omega, by simp only [bne_eq_false_iff_eq]; omega, by simp only [bne_iff_ne, ne_eq]; omega, (by omega)⟩)))
  by_cases h3 : nh < 1
  · exact (.inr (.inr (.inr (.inl ⟨by simp only [bne_eq_false_iff_eq]; omega, by simp only [bne_eq_false_iff_eq]; omega, by simp only [bne_eq_false_iff_eq]; omega, by omega, (by omega)⟩))))
  by_cases h4 : 5 < nh
  · exact (.inr (.inr (.inr (.inr (.inl ⟨by simp only [bne_eq_false_iff_eq]; omega, by simp only [bne_eq_false_iff_eq]; omega, by simp only [bne_eq_false_iff_eq]; omega, by omega, by omega, (by omega)⟩)))))
  by_cases h5 : n < p + 32 * nh
  · exact (.inr (.inr (.inr (.inr (.inr (.inl ⟨by simp only [bne_eq_false_iff_eq]; omega, by simp only [bne_eq_false_iff_eq]; omega, by simp only [bne_eq_false_iff_eq]; omega, by omega, by omega, by omega, (by omega)⟩))))))
  exact (.inr (.inr (.inr (.inr (.inr (.inr ⟨by simp only [bne_eq_false_iff_eq]; omega, by simp only [bne_eq_false_iff_eq]; omega, by simp only [bne_eq_false_iff_eq]; omega, by omega, by omega, by omega, (by omega)⟩))))))
theorem headsN_bad {bs : List UInt8} (h : fileB bs = false) : headsN bs = (0, [], 8) := by unfold headsN; rw [h]; rfl
theorem slJ_nil (w : World) : SlJ w ⟨none, 0, 0⟩ [] := ⟨rfl, ⟨Nat.le_refl _, Nat.zero_le _⟩, fun h => absurd h (Nat.lt_irrefl _)⟩
theorem headsN_badH {bs : List UInt8} {i : Nat} (hi : i < hN bs) (h : hdX bs (hAt bs + 32 * i) = true) : headsN bs = (0, [], 8) := by
  unfold headsN
  have : hdsB bs = false := by
    unfold hdsB
    rw [List.all_eq_false]
    exact ⟨i, List.mem_range.2 hi, by rw [h]; simp⟩
  rw [this, Bool.and_false]; rfl
theorem headsN_ok {bs : List UInt8} (hf : fileB bs = true) (h : ∀ i, i < hN bs → hdX bs (hAt bs + 32 * i) = false) : headsN bs = (nm bs 4 24, hds bs (hN bs), 0) := by
  unfold headsN
  have : hdsB bs = true := by
    unfold hdsB
    rw [List.all_eq_true]
    intro i hi
    rw [h i (List.mem_range.1 hi)]; rfl
  rw [hf, this]; rfl
theorem hds_succ (bs : List UInt8) (n : Nat) : hds bs (n + 1) = hds bs n ++ [hdA bs (hAt bs + 32 * n)] := by
  unfold hds
  rw [List.range_succ, List.map_append]; rfl
theorem x31_ways1 (_k fl a f m n : Nat) :
    ((7 < (fl : Int)) ∧ (¬ (¬ (7 < fl ∨ n < a + f ∨ m < f)))) ∨
    (((fl : Int) ≤ 7) ∧ ((n : Int) < (a : Int) + (f : Int)) ∧ (¬ (¬ (7 < fl ∨ n < a + f ∨ m < f)))) ∨
    (((fl : Int) ≤ 7) ∧ ((a : Int) + (f : Int) ≤ (n : Int)) ∧ ((m : Int) < (f : Int)) ∧ (¬ (¬ (7 < fl ∨ n < a + f ∨ m < f)))) ∨
    (((fl : Int) ≤ 7) ∧ ((a : Int) + (f : Int) ≤ (n : Int)) ∧ ((f : Int) ≤ (m : Int)) ∧ (¬ (7 < fl ∨ n < a + f ∨ m < f))) := by
  by_cases h0 : 7 < fl
  · exact (.inl ⟨by omega, (by omega)⟩)
  by_cases h1 : n < a + f
  · exact (.inr (.inl ⟨by omega, by omega, (by omega)⟩))
  by_cases h2 : m < f
  · exact (.inr (.inr (.inl ⟨by omega, by omega, by omega, (by omega)⟩)))
  exact (.inr (.inr (.inr ⟨by omega, by omega, by omega, (by omega)⟩)))
end Go.Proofs.Ytegaiphhoinilaa
namespace Go.Proofs.Ytegaiphhoinilaa
open Go Go.RowKit

/-- at g there is a cursor over bs, at q or failed; it and what is left lie in memory from B on, ahead of L -/
def CuP (B L g : Nat) (bs : List UInt8) (q : Nat) (w : World) : Prop :=
  ∃ A n c p bad, Has w g 104 (curB A n c bad) ∧ SlA w A n c (bs.drop p) ∧ (B ≤ g ∧ g < L) ∧ (∀ b o s, A = some ⟨b, o, s⟩ → 0 < n → b ≠ g ∧ B ≤ b ∧ b < L) ∧ CuAt bs q ⟨p, bad⟩ ∧ p ≤ bs.length
section
variable {B L g q : Nat} {bs : List UInt8} {w w' : World}
theorem CuP.hasE (h : CuP B L g bs q w) : ∃ cs, Has w g 104 cs := by obtain ⟨A, n, c, p, bad, h1, _⟩ := h; exact ⟨_, h1⟩
theorem CuP.lt (h : CuP B L g bs q w) : g < w.heap.size := by obtain ⟨cs, h1⟩ := h.hasE; exact h1.lt
theorem CuP.gB (h : CuP B L g bs q w) : B ≤ g ∧ g < L := by obtain ⟨A, n, c, p, bad, _, _, h1, _⟩ := h; exact h1
theorem CuP.after (h : CuP B L g bs q w) (k : Below w.heap.size w w') : CuP B L g bs q w' := by
  obtain ⟨A, n, c, p, bad, h1, h2, h3, h4, h5, h6⟩ := h
  exact ⟨A, n, c, p, bad, h1.after k, h2.below k, h3, h4, h5, h6⟩
theorem slA_lt {A : Option Addr} {n c b o : Nat} {s : Option Nat} (h : SlA w A n c bs) (e : A = some ⟨b, o, s⟩) (h0 : 0 < n) : b < w.heap.size := by
  obtain ⟨b', o', e', hlt, _⟩ := h.2.2 h0
  rw [e] at e'
  injection e' with e'
  injection e' with eb
  rw [eb]; exact hlt
/-- what is written lies elsewhere -/
theorem CuP.beside {r : Option Nat} (h : CuP B L g bs q w) (k : w.grownBy w' r) (hr : ∀ l, r = some l → L ≤ l) : CuP B L g bs q w' := by
  obtain ⟨A, n, c, p, bad, h1, h2, h3, h4, h5, h6⟩ := h
  exact ⟨A, n, c, p, bad, has_grown h1 k (fun l e => by have := hr l e; omega), h2.grown k (fun b o e h0 e2 => by have := hr b e2; have := (h4 b o none e h0).2.2; omega), h3, h4, h5, h6⟩
theorem cu_at (A : Option Addr) (n c : Nat) (hS : SlA w A n c bs) (hA : A = none → c = 0) (hl : bs.length ≤ 1000000) :
    Calls Try.prog 33 #[.slice A n c] w fun e w' => (∃ g, e = .returned (.pointer (some ⟨g, 0, none⟩)) ∧ CuP w.heap.size w'.heap.size g bs 0 w') ∧ Below w.heap.size w w' := by
  refine (pat_is bs A n c w w.heap.size hS hA (Nat.le_refl _) hl).mono ?_
  rintro e w' ⟨⟨g, rfl, h⟩, hb⟩
  obtain ⟨A', n', c', h1, h2, h3, _, h5⟩ := h w'.heap.size (Nat.le_refl _)
  exact ⟨⟨g, rfl, A', n', c', 0, false, h1, h2, ⟨h3, h1.lt⟩, fun b o s e h0 => ⟨(h5 b o s e h0).1, (h5 b o s e h0).2.2, slA_lt h2 e h0⟩, ⟨by show false = _; rw [decide_eq_false (by omega)], fun _ => rfl⟩, Nat.zero_le _⟩, hb⟩
theorem CuP.take (h : CuP B L g bs q w) (k : Nat) :
    Calls Try.prog 64 #[.pointer (some ⟨g, 0, none⟩), .int .i64 (k : Int)] w fun e w' => (∃ A n c, e = .returned (.slice A n c) ∧ SlA w' A n c (if q + k ≤ bs.length then (bs.drop q).take k else []) ∧ (A = none → c = 0) ∧ (q + k ≤ bs.length → n = k ∧ c = k) ∧ (¬ q + k ≤ bs.length → A = none ∧ n = 0 ∧ c = 0) ∧ ∀ b o s, A = some ⟨b, o, s⟩ → 0 < n → b ≠ g ∧ B ≤ b ∧ b < L) ∧ CuP B L g bs (q + k) w' ∧ w.grownBy w' (some g) := by
  obtain ⟨A, n, c, p, bad, hG, hS, hB, ha, hC, hp⟩ := h
  have hl : bs.length - p = n := by have := hS.1; simpa using this
  have hn := hC.nxt (k := k)
  have hok := hC.okE (k := k)
  dsimp only at hok
  have hCb := hC.1
  have hCp := hC.2
  dsimp only at hCb hCp
  by_cases hq : q + k ≤ bs.length
  · obtain rfl : p = q := hCp (by omega)
    obtain rfl : bad = false := by rw [hCb, decide_eq_false (by omega)]
    rw [if_pos hq]
    refine (ptake_ok A n c k g w hG (by omega) hS.2.1).mono ?_
    rintro e w' ⟨rfl, hG', hgr, hz⟩
    have hS' := hS.grown hgr (fun b o e h0 e2 => (ha b o none e h0).1 (by injection e2 with e2; exact e2.symm))
    have hnc := hS.2.1
    refine ⟨⟨A, k, k, rfl, ⟨by rw [List.length_take, List.length_drop]; omega, Nat.le_refl _, fun h0 => ?_⟩, fun hA => ?_, fun _ => ⟨rfl, rfl⟩, fun h => absurd hq h, fun b o s e h0 => ha b o s e (by omega)⟩, ⟨offA A c k, n - k, c - k, p + k, false, hG', ?_, hB, fun b o s e h0 => ?_, ⟨by show false = _; rw [decide_eq_false (by omega)], fun _ => rfl⟩, hq⟩, hgr⟩
    · obtain ⟨b, o, e, hlt, hcell⟩ := hS'.2.2 (by omega)
      refine ⟨b, o, e, hlt, fun j hj => ?_⟩
      rw [hcell j (by omega)]
      simp [List.getD_eq_getElem?_getD, hj]
    · rcases Nat.eq_zero_or_pos k with h0 | h0
      · exact h0
      · obtain ⟨b, o, e, _⟩ := hS.2.2 (by omega)
        rw [hA] at e
        cases e
    · refine ⟨by rw [List.length_drop]; omega, by omega, fun h0 => ?_⟩
      obtain ⟨b, o, e, hlt, hcell⟩ := hS'.2.2 (by omega)
      subst e
      refine ⟨b, o + k, ?_, hlt, fun j hj => ?_⟩
      · unfold offA
        rw [if_neg (by omega), Option.map_some, Addr.add_mid]
      · rw [Nat.add_assoc, hcell (k + j) (by omega)]
        congr 2
        simp [List.getD_eq_getElem?_getD, List.getElem?_drop, Nat.add_assoc]
    · obtain ⟨o', s', e'⟩ := offA_block e
      exact ha b o' s' e' (by omega)
  · rw [if_neg hq]
    have hbq : CuAt bs (q + k) ⟨p, true⟩ := ⟨by show true = _; rw [decide_eq_true (by omega)], fun h => absurd h hq⟩
    cases bad with
    | true =>
      refine (ptake_bad A n c k g w hG).mono ?_
      rintro e w' ⟨rfl, rfl⟩
      exact ⟨⟨none, 0, 0, rfl, nil_slA _, fun _ => rfl, fun h => absurd h hq, fun _ => ⟨rfl, rfl, rfl⟩, fun _ _ _ h => by cases h⟩, ⟨A, n, c, p, true, hG, hS, hB, ha, hbq, hp⟩, World.grownBy.refl _ _⟩
    | false =>
      have hqb : q ≤ bs.length := by
        have h2 := of_decide_eq_false hCb.symm
        omega
      obtain rfl : p = q := hCp hqb
      refine (ptake_far A n c k g w hG (by omega)).mono ?_
      rintro e w' ⟨rfl, hG', hgr, hz⟩
      exact ⟨⟨none, 0, 0, rfl, nil_slA _, fun _ => rfl, fun h => absurd h hq, fun _ => ⟨rfl, rfl, rfl⟩, fun _ _ _ h => by cases h⟩, ⟨A, n, c, p, true, hG', hS.grown hgr (fun b o e h0 e2 => (ha b o none e h0).1 (by injection e2 with e2; exact e2.symm)), hB, ha, hbq, hp⟩, hgr⟩
theorem CuP.int (h : CuP B L g bs q w) (k : Nat) (hk : 0 < k) (hk4 : k ≤ 4) :
    Calls Try.prog 50 #[.pointer (some ⟨g, 0, none⟩), .int .i64 (k : Int)] w fun e w' => e = .returned (.int .u32 ((nm bs k q : Nat) : Int)) ∧ CuP B L g bs (q + k) w' ∧ w.grownBy w' (some g) := by
  have kT := h.take k
  by_cases hq : q + k ≤ bs.length
  · rw [show nm bs k q = leT (bsN bs) k q from if_pos hq]
    refine pint_ok bs k q _ w _ hk4 (kT.mono ?_)
    rintro e w' ⟨⟨A, n, c, rfl, hS, _, hn, _⟩, h2, h3⟩
    rw [if_pos hq] at hS
    obtain ⟨rfl, rfl⟩ := hn hq
    obtain ⟨b, o, rfl, _, hc⟩ := hS.2.2 hk
    refine ⟨b, o, rfl, fun j hj => ?_, h2, h3⟩
    rw [hc j hj]
    simp [List.getD_eq_getElem?_getD, List.getElem?_drop, hj]
  · rw [show nm bs k q = 0 from if_neg hq]
    refine pint_no k _ w _ (kT.mono ?_)
    rintro e w' ⟨⟨A, n, c, rfl, _, _, _, hn, _⟩, h2, h3⟩
    obtain ⟨rfl, rfl, rfl⟩ := hn hq
    exact ⟨rfl, h2, h3⟩
theorem CuP.u32 (h : CuP B L g bs q w) :
    Calls Try.prog 36 #[.pointer (some ⟨g, 0, none⟩)] w fun e w' => e = .returned (.int .u32 ((nm bs 4 q : Nat) : Int)) ∧ CuP B L g bs (q + 4) w' ∧ w.grownBy w' (some g) := pu32_of _ _ _ _ (h.int 4 (by decide) (by decide))
theorem CuP.u16 (h : CuP B L g bs q w) :
    Calls Try.prog 35 #[.pointer (some ⟨g, 0, none⟩)] w fun e w' => e = .returned (.int .i64 ((nm bs 2 q : Nat) : Int)) ∧ CuP B L g bs (q + 2) w' ∧ w.grownBy w' (some g) := pu16_of _ (by have := nm2 bs q; omega) _ _ _ (h.int 2 (by decide) (by decide))
theorem CuP.u8 (h : CuP B L g bs q w) :
    Calls Try.prog 34 #[.pointer (some ⟨g, 0, none⟩)] w fun e w' => e = .returned (.int .i64 ((nm bs 1 q : Nat) : Int)) ∧ CuP B L g bs (q + 1) w' ∧ w.grownBy w' (some g) := pu8_of _ (by have := nm_lt bs 1 q; omega) _ _ _ (h.int 1 (by decide) (by decide))
theorem CuP.bad (h : CuP B L g bs q w) :
    Calls Try.prog 66 #[.pointer (some ⟨g, 0, none⟩)] w fun e w' => e = .returned (.bool (decide (bs.length < q))) ∧ w = w' := by
  obtain ⟨A, n, c, p, bad, hG, _, _, _, hC, _⟩ := h
  have := pbad_any A n c bad g w hG
  rw [show bad = decide (bs.length < q) from hC.1] at this
  exact this
end
end Go.Proofs.Ytegaiphhoinilaa
