/-
Layer 12: slices of grants and of entries that come in; an entry that comes in.
Layer 15: a map of numbers by numbers: what it holds, looking up, putting.
Layer 12: package pmp's Check.
-/
import Derived.Test.YtgpofoggfifnjaaGreatDoorJAm
import Derived.Test.YtgpofoggfifnjaaGreatDoorJAc
import Derived.Test.YtgpofoggfifnjaaGreatDoorJAa
import Derived.Test.YtgpofoggfifnjaaGreatDoorJAb
import Derived.Test.YtgpofoggfifnjaaGreatDoorJAn
import Derived.Deep.Strs
import Derived.Deep.Slices
import Derived.Deep.Fields
import Derived.Lib.SmallJoins
import Derived.SizedLaws
import Derived.Maps.OwnSet
import Derived.Maps.RangeWalk
namespace Go.Proofs.YtgpofoggfifnjaaGreatDoor.Pm
open Go.Joins Go.ChangeShapes Go.WideShapes Go.ChangeAt Go.RowKit Go.Deep

theorem pick {α : Type} (n : Nat) (Q : Nat → α → Prop) (z : α) (h : ∀ i, i < n → ∃ a, Q i a) : ∃ l : List α, l.length = n ∧ ∀ i, i < n → Q i (l.getD i z) := by
  induction n with
  | zero => exact ⟨[], rfl, fun i hi => by omega⟩
  | succ n ih =>
    obtain ⟨l, hl, hq⟩ := ih fun i hi => h i (by omega)
    obtain ⟨a, ha⟩ := h n (by omega)
    refine ⟨l ++ [a], by simp [hl], fun i hi => ?_⟩
    by_cases h1 : i < n
    · have e : (l ++ [a]).getD i z = l.getD i z := by
        simp only [List.getD_eq_getElem?_getD, List.getElem?_append_left (show i < l.length by omega)]
      rw [e]
      exact hq i h1
    · obtain rfl : i = n := by omega
      have e : (l ++ [a]).getD i z = a := by
        subst hl
        simp [List.getD_eq_getElem?_getD]
      rw [e]
      exact ha
theorem weights_all {H : Type} {P : Program} {e : TypeId} {d : DataW H} : ∀ {l : List (DataW H)}, d ∈ l → ∀ n ∈ d.weights P e, n ∈ DataW.weightsAll P e l
  | [], h, _, _ => by cases h
  | x :: l, h, n, hn => by
    simp only [DataW.weightsAll, List.mem_append]
    rcases List.mem_cons.1 h with rfl | h
    · exact .inl hn
    · exact .inr (weights_all h n hn)
/-- a slice of things of C cells each -/
theorem came_slice {H : Type} {enc : TypeId × Value → H} {P : Program} {W : World} {t e : TypeId} {fuel : Nat} {cs : List Value} {y : DataW H × List MemPlace} {α : Type} (z : α) (C B : Nat) (hC : P.cellsOf e = C) (h0C : 0 < C) (ht : P.underlying t = some (.slice e)) (hb : P.bytesOf e = B) (hB : 0 < B) (cv : α → Nat → Value) (G : α → Prop)
    (h : DataW.trod enc P W 0 (fun _ => true) true fuel t cs = some y) (hw : ∀ n ∈ y.1.weights P t, n ≤ reachBytes)
    (hel : ∀ n cs d p, DataW.trod enc P W 0 (fun _ => true) true n e cs = some (d, p) → (∀ n ∈ d.weights P e, n ≤ reachBytes) → ∃ a, G a ∧ ∀ k, k < C → cs[k]? = some (cv a k)) :
    ∃ (s : Sl) (l : List α), cs = [s.v] ∧ l.length = s.n ∧ SlC W s C (fun j i => cv (l.getD j z) i) ∧ ∀ j, j < s.n → G (l.getD j z) := by
  rcases open_slice ht h with ⟨rfl, rfl⟩ | ⟨a, len, cap, m, n, D, Pl, rfl, _, hl, _, hm, rfl, hi⟩
  · exact ⟨⟨none, 0, 0⟩, [], rfl, rfl, ⟨⟨Nat.le_refl _, Nat.zero_le _⟩, fun h => absurd h (Nat.lt_irrefl _)⟩, fun j hj => absurd hj (Nat.not_lt_zero _)⟩
  · simp only [if_true] at hm
    subst hm
    have hlen : len ≤ 140737488355328 := by
      have h1 := hw _ (by simp only [DataW.weights, ht]; exact List.mem_cons_self)
      simp only [List.length_map, List.length_range, hb, reachBytes] at h1
      have := Nat.le_mul_of_pos_right (len + (m - len)) hB
      omega
    have hall : ∀ i, i < len → ∃ x, G x ∧ ∀ k, k < C → W.cell? ((a.add (i * C)).add k) = some (cv x k) := fun i hil => by
      obtain ⟨cs', hcs, htr⟩ := hi i (by omega)
      rw [hC] at hcs
      obtain ⟨_, hcl, hat⟩ := World.cells?_some hcs
      obtain ⟨x, hG, hk⟩ := hel n cs' _ _ htr (fun k hk => hw k (by
        simp only [DataW.weights, ht, List.mem_cons, List.mem_append]
        exact .inr (.inl (weights_all (List.mem_map.2 ⟨i, List.mem_range.2 hil, rfl⟩) k hk))))
      exact ⟨x, hG, fun k hkc => (hat k hkc).trans (hk k hkc)⟩
    obtain ⟨l, hll, hq⟩ := pick len _ z hall
    refine ⟨⟨some a, len, m⟩, l, rfl, hll, ⟨⟨hl, hlen⟩, fun hn => ?_⟩, fun j hj => (hq j hj).1⟩
    obtain ⟨b, off, spot⟩ := a
    have hc0 := (hq 0 hn).2 0 h0C
    have hspot : spot = none := by simpa [Addr.add] using World.cell?_spot hc0
    subst hspot
    have hcell : ∀ j i, j < len → i < C → W.cell? ⟨b, off + j * C + i, none⟩ = some (cv (l.getD j z) i) := fun j i hj hi => by
      have := (hq j hj).2 i hi
      rwa [Addr.add_mid, Addr.add_mid] at this
    exact ⟨b, off, rfl, block_of_cell (hcell 0 0 hn h0C), hcell⟩
theorem c32 : Tryz.prog.cellsOf 25 = 1 := by kernel_rfl
theorem c64 : Tryz.prog.cellsOf 3 = 1 := by kernel_rfl
theorem cEn : Tryz.prog.cellsOf 38 = 3 := by kernel_rfl
theorem bEn : Tryz.prog.bytesOf 38 = 24 := by kernel_rfl
theorem at_one {cs : List Value} {o : Nat} {v : Value} (h : (cs.drop o).take 1 = [v]) : cs[o]? = some v := by
  have h2 := congrArg (·[0]?) h
  simpa [List.getElem?_take, List.getElem?_drop] using h2
theorem wf_64 {z : Int} (h : (Lit.int .i64 z).wf = true) : i64ok z := wf_i64 h
section
variable {H : Type} {enc : TypeId × Value → H} {W : World} {n : Nat} {cs : List Value} {d : DataW H} {p : List MemPlace}
theorem came_entry (h : DataW.trod enc Tryz.prog W 0 (fun _ => true) true n 38 cs = some (d, p)) : ∃ g : En, g.Wf ∧ ∀ k, k < 3 → cs[k]? = some (enV g k) := by
  obtain ⟨y0, y1, y2, m, _, hl, h0, h1, h2⟩ := trod_struct3 Tryz.underlying38 h
  dsimp only at h0 h1 h2
  rw [c64] at h0 h1
  rw [c32] at h2
  obtain ⟨z0, e0, _, w0⟩ := DataW.trod_int Tryz.underlying3 h0
  obtain ⟨z1, e1, _, w1⟩ := DataW.trod_int Tryz.underlying3 h1
  obtain ⟨z2, e2, _, w2⟩ := DataW.trod_int Tryz.underlying25 h2
  obtain ⟨s, rfl, hs⟩ := wf_u32 w2
  refine ⟨⟨z0, z1, s⟩, ⟨wf_64 w0, wf_64 w1, hs⟩, fun k hk => ?_⟩
  match k, hk with
  | 0, _ => exact at_one e0
  | 1, _ => exact at_one e1
  | 2, _ => exact at_one e2
theorem mem_getD {α : Type} {P : α → Prop} {l : List α} {n : Nat} {z : α} (hl : l.length = n) (h : ∀ j, j < n → P (l.getD j z)) : ∀ x ∈ l, P x := fun x hx => by
  obtain ⟨j, hj, rfl⟩ := List.getElem_of_mem hx
  have := h j (by omega)
  rwa [List.getD_eq_getElem?_getD, List.getElem?_eq_getElem hj] at this
end
end Go.Proofs.YtgpofoggfifnjaaGreatDoor.Pm
namespace Go.Proofs.YtgpofoggfifnjaaGreatDoor.Cs
open Go Go.RowKit
open Go.Maps (Keyed)

theorem keyI : Keyed Tryz.prog 3 := Maps.int_keyed Tryz.underlying3
theorem zeroI (w : World) : (zeroValue 3).run Tryz.prog w = .ok (.int .i64 0) w := by kernel_rfl
theorem wfI {t : Nat} (h : t < 4294967296) : (Lit.int .i64 (t : Int)).wf = true := by
  have h1 : IntKind.i64.min ≤ (t : Int) := by rw [show IntKind.i64.min = -9223372036854775808 from rfl]; omega
  have h2 : (t : Int) ≤ IntKind.i64.max := by rw [show IntKind.i64.max = 9223372036854775807 from rfl]; omega
  show (decide (IntKind.i64.min ≤ (t : Int)) && decide ((t : Int) ≤ IntKind.i64.max)) = true
  rw [decide_eq_true h1, decide_eq_true h2]
  rfl
theorem keyAtI {t : Nat} (h : t < 4294967296) : keyOf Tryz.prog 3 (.int .i64 (t : Int)) = some (.int .i64 (t : Int)) := Maps.keyOf_int_mk Tryz.underlying3 (wfI h)
abbrev kAd (x : Nat) : Lit := .int .i64 (x : Int)
abbrev ilit (v : Nat) : DataW Unit := .lit (.int .i64 (v : Int))
/-- a number's place is changed -/
def upd {α : Type} (f : Nat → α) (k : Nat) (v : α) (j : Nat) : α := if j = k then v else f j
theorem upd_same {α : Type} (f : Nat → α) (k : Nat) (v : α) : upd f k v k = v := if_pos rfl
theorem upd_other {α : Type} (f : Nat → α) {k j : Nat} (v : α) (h : j ≠ k) : upd f k v j = f j := if_neg h
/-- what the map says -/
structure MapR (D : DataW Unit) (R : Nat → Option Nat) : Prop where
  keys : ∀ k, Maps.has D k = true → ∃ x, x < 4294967296 ∧ k = kAd x
  has : ∀ x, x < 4294967296 → Maps.has D (kAd x) = (R x).isSome
  vals : ∀ x v, x < 4294967296 → R x = some v → v < 4294967296 ∧ D.atKey (kAd x) (ilit 0) = ilit v
/-- the map in block g holds R, with at most c entries -/
def MpR (w : World) (g : Nat) (R : Nat → Option Nat) (c : Nat) : Prop :=
  ∃ n, ∃ D : DataW Unit, w.ownsMap Tryz.prog 3 (plainElem Tryz.prog 3) g n D ∧ Maps.size D ≤ c ∧ MapR D R
theorem own_tight {w : World} {k : TypeId} {R : Value → Option (DataW Unit × List MemPlace)} {b n n' : Nat} {D : DataW Unit} (h : w.ownsMap Tryz.prog k R b n D) (hn : Maps.size D ≤ n') : w.ownsMap Tryz.prog k R b n' D := by
  obtain ⟨es, clock, hb, F, _, rfl⟩ := h
  exact ⟨es, clock, hb, F, by simpa [Maps.size, length_sorted] using hn, rfl⟩
section
variable {w w' : World} {g c : Nat} {R : Nat → Option Nat}
theorem MpR.lt (h : MpR w g R c) : g < w.heap.size := by obtain ⟨n, D, h1, _⟩ := h; exact h1.lt
theorem MpR.kept {r : Option Nat} (h : MpR w g R c) (k : w.grownBy w' r) (hne : some g ≠ r) : MpR w' g R c := by
  obtain ⟨n, D, h1, h2, h3⟩ := h
  exact ⟨n, D, h1.kept k hne, h2, h3⟩
theorem MpR.after (h : MpR w g R c) (k : Below w.heap.size w w') : MpR w' g R c := h.kept (only_below k none) (by simp)
theorem MpR.has_ne {t : TypeId} {cs : Array Value} {g' : Nat} (h : MpR w g R c) (hG : Has w g' t cs) : g ≠ g' := by
  rintro rfl
  obtain ⟨n, D, ⟨es, cl, hb, _⟩, _⟩ := h
  rw [show w.heap[g]? = _ from hG] at hb
  cases hb
theorem MpR.congr {R' : Nat → Option Nat} (h : MpR w g R c) (he : ∀ j, j < 4294967296 → R j = R' j) : MpR w g R' c := by
  obtain ⟨n, D, h1, h2, h3⟩ := h
  exact ⟨n, D, h1, h2, h3.keys, fun x hx => by rw [h3.has x hx, he x hx], fun x v hx hv => h3.vals x v hx (by rw [he x hx]; exact hv)⟩
theorem MpR.new (w : World) : MpR (w.alloc (.map #[] 0)) w.heap.size (fun _ => none) 0 :=
  ⟨0, .map [], World.ownsMap_made _ _ _ _, Nat.le_refl _, fun _ h => (by cases h), fun _ _ => rfl, fun _ _ _ h => (by cases h)⟩
theorem MpR.setCell {a : Addr} (h : MpR w g R c) (ha : g ≠ a.block) (u : Value) : MpR (w.setCell a u) g R c := by
  obtain ⟨n, D, h1, h2, h3⟩ := h
  exact ⟨n, D, h1.setCell ha u, h2, h3⟩
theorem MpR.drewN (h : MpR w g R c) (k : Nat) : MpR (w.drewN k) g R c := h.kept (only_drewN w k none) (by simp)
set_option maxRecDepth 100000 in
theorem MpR.look_ok (h : MpR w g R c) {t : Nat} (ht : t < 4294967296) : (Instr.lookup 80 (.map (some g)) (.int .i64 (t : Int)) true).run Tryz.prog w = .ok (.tuple #[.int .i64 (((R t).getD 0 : Nat) : Int), .bool (R t).isSome]) w := by
  obtain ⟨n, D, h1, h2, h3⟩ := h
  have hz0 : plainElem (H := Unit) Tryz.prog 3 (.int .i64 0) = some (ilit 0, []) := plainElem_int Tryz.underlying3 (wfI (t := 0) (by decide))
  obtain ⟨v, ps, hr, hv⟩ := h1.look_ok keyI Tryz.underlying80 (zeroI w) hz0 (keyAtI (t := t) ht)
  have h5 := h3.has t ht
  have h4 : D.atKey (kAd t) (ilit 0) = ilit ((R t).getD 0) := by
    cases hR : R t with
    | none => rw [hR] at h5; exact Maps.atKey_of_not_has h5 _
    | some v => exact (h3.vals t v ht hR).2
  rw [show kAd t = .int .i64 (t : Int) from rfl] at h4 h5
  rw [h4] at hv
  obtain ⟨cc, rfl, hc, _⟩ := plainElem_int_inv Tryz.underlying3 hv
  simp only [Prod.mk.injEq] at hc
  have hc1 := hc.1
  injection hc1 with hc1
  injection hc1 with _ hc1
  rw [hr, h5, ← hc1]
/-- a number is put into the map -/
theorem wp_mapput {ops : Array Oper} {rest : List Oper} {op : Oper} {a : Act} {Q : Exit → Act → World → Prop} (hgd : op.guard = none) (mo x v : Operand) (ho : op.op = .mapUpdate 80 mo x v)
    (hm : a.eval mo = .map (some g)) (h : MpR w g R c) (t y : Nat) (hx : a.eval x = .int .i64 (t : Int)) (hv : a.eval v = .int .i64 (y : Int)) (ht : t < 4294967296) (hy : y < 4294967296) (hl : c ≤ 1000000) (c' : Nat) (hc' : c + (if (R t).isSome then 0 else 1) ≤ c')
    (hK : ∀ w', MpR w' g (upd R t (some y)) c' → w.grownBy w' (some g) → wpList Tryz.prog ops Q rest (a.put op.dst undef) w') : wpList Tryz.prog ops Q (op :: rest) a w := by
  obtain ⟨n, D, h1, h2, h3⟩ := h
  have h1t := own_tight h1 h2
  refine wpList_mapUpdate_own _ hgd mo x v 80 ho 3 3 keyI Tryz.underlying80 (plainElem Tryz.prog 3) g c D hm h1t (by unfold maxLen; omega) _ _ (.int .i64 (t : Int)) hx hv (keyAtI ht) (ilit y) [] (plainElem_int Tryz.underlying3 (wfI hy)) ?_
  intro w' h1' hgr
  have hD := h1.isMap
  have hk := keyI.key (keyAtI ht)
  refine hK w' ⟨c + 1, _, h1', ?_, fun k hk => ?_, fun s hs => ?_, fun s u hs hu => ?_⟩ hgr
  · rw [Maps.size_put (h1.tidy keyI)]
    have h5 := h3.has t ht
    rw [show kAd t = .int .i64 (t : Int) from rfl] at h5
    rw [h5]
    split
    · rename_i hh; rw [if_pos hh] at hc'; omega
    · rename_i hh; rw [if_neg hh] at hc'; omega
  · by_cases hkt : k = kAd t
    · exact ⟨t, ht, hkt⟩
    · rw [Maps.has_put_other hkt] at hk
      exact h3.keys k hk
  · by_cases hst : s = t
    · subst hst
      rw [upd_same]
      exact Maps.has_put_same hD hk _
    · have hne : kAd s ≠ kAd t := fun e => by injection e with _ e; omega
      rw [upd_other _ _ hst, Maps.has_put_other hne]
      exact h3.has s hs
  · by_cases hst : s = t
    · subst hst
      rw [upd_same] at hu
      injection hu with hu
      subst hu
      exact ⟨hy, Maps.atKey_put_same hD hk _ _⟩
    · have hne : kAd s ≠ kAd t := fun e => by injection e with _ e; omega
      rw [upd_other _ _ hst] at hu
      have h6 := h3.vals s u hs hu
      exact ⟨h6.1, (Maps.atKey_put_other hne _ _).trans h6.2⟩
end
end Go.Proofs.YtgpofoggfifnjaaGreatDoor.Cs
namespace Go.Proofs.YtgpofoggfifnjaaGreatDoor.Pm
open Go Go.RowKit

theorem checkT_step (es : List En) (i at' n right : Nat) (hi : i < es.length) : checkT ((tri 0 es).drop i) at' n right = (if overB ⟨(rangeI es i).1, (rangeI es i).2, (es.getD i en0).r⟩ at' n then (inB' ⟨(rangeI es i).1, (rangeI es i).2, (es.getD i en0).r⟩ at' n && decide (andR (es.getD i en0).r right = right)) else checkT ((tri 0 es).drop (i + 1)) at' n right) := by
  have h2 := tri_at es 0 i hi
  have hlt : i < (tri 0 es).length := by rw [tri_len]; exact hi
  rw [List.getElem?_eq_getElem hlt] at h2
  rw [List.drop_eq_getElem_cons hlt, Option.some.inj h2]
  rfl
/-- how far a Range goes -/
theorem rangeI_le (es : List En) (i : Nat) (h : ∀ e ∈ es, e.a < 4294967296) : (rangeI es i).1 < 68719476736 ∧ (rangeI es i).2 < 68719476736 := by
  have h1 : ∀ j, (es.getD j en0).a < 4294967296 := fun j => by
    by_cases hj : j < es.length
    · rw [List.getD_eq_getElem?_getD, List.getElem?_eq_getElem hj]; exact h _ (List.getElem_mem _)
    · rw [List.getD_eq_getElem?_getD, List.getElem?_eq_none (by omega)]; exact (by decide : (0 : Nat) < 4294967296)
  have ha := h1 i
  have hp := h1 (i - 1)
  unfold rangeI rangeP
  generalize (es.getD (i - 1) en0).a = p at *
  generalize es.getD i en0 = e at *
  have hn : napS e.a ≤ 34359738368 := by
    unfold napS
    have := pow32 (onesF_le 32 e.a)
    omega
  have hm := Nat.div_mul_le_self (4 * e.a) (napS e.a)
  have hq : (if i = 0 then 0 else p) < 4294967296 := by split <;> omega
  generalize (if i = 0 then 0 else p) = q at *
  split
  · split <;> (dsimp only; omega)
  · split
    · dsimp only; omega
    · split <;> (dsimp only; omega)
set_option maxRecDepth 100000 in
set_option maxHeartbeats 8000000 in
theorem check_any (es : List En) (s : Sl) (at' n right : Nat) (w : World) (hT : TabT w) (hS : SlE w s es) (hpl : plainL es) (ha : at' < 4294967296) (hn1 : 1 ≤ n) (hn8 : n ≤ 8) (hr : right ≤ 7) :
    Calls Tryz.prog 31 #[s.v, .int .u32 (at' : Int), .int .i64 (n : Int), .int .i64 (right : Int)] w fun e w' => e = .returned (.bool (checkT (tri 0 es) at' n right)) ∧ Below w.heap.size w w' := by
  have hlen := hS.1
  obtain ⟨A, m, c⟩ := s
  dsimp only at hlen
  have HS := Lib.hid hS
  have HT := Lib.hid hT
  have HPL := Lib.hid hpl.1
  have hm40 : m ≤ 40 := by have := hpl.2; omega
  generalize hr' : checkT (tri 0 es) at' n right = res
  have HRES := Lib.hid hr'
  have HLEN := Lib.hid hlen
  clear hS hT hpl hr' hlen
  have hn0 : ¬ (n : Int) ≤ 0 := by omega
  show Calls Tryz.prog 31 #[.slice A m c, .int .u32 (at' : Int), .int .i64 (n : Int), .int .i64 (right : Int)] w _
  go_enter Tryz.func31, Tryz.ntmps31
  go_wp2_with fail
  go_loopw [25] (fun ct wr => ∃ i : Nat, i ≤ m ∧ ct = .int .i64 (i : Int) ∧ Hid (checkT ((tri 0 es).drop i) at' n right = res) ∧ Below w.heap.size w wr) (fun ct _ => (m - (intOf ct)).toNat)
  case atStart => exact ⟨0, Nat.zero_le _, rfl, HRES, Below.refl _ _⟩
  case round =>
    obtain ⟨i, hi, rfl, HR, hb⟩ := hrel
    by_cases hlt : i < m
    · have hin : (i : Int) < (m : Int) := by omega
      obtain ⟨b, o, hA, hlb, hcc⟩ := (HS.out.below hb).2.1.2 (show 0 < m by omega)
      dsimp only at hA
      subst hA
      have c0 := hcc i 0 hlt (by omega)
      have c1 := hcc i 1 hlt (by omega)
      have c2 := hcc i 2 hlt (by omega)
      have hpe := HPL.out (es.getD i en0) (by rw [List.getD_eq_getElem?_getD, List.getElem?_eq_getElem (show i < es.length by rw [HLEN.out]; exact hlt)]; exact List.getElem_mem _)
      have hst := checkT_step es i at' n right (by rw [HLEN.out]; exact hlt)
      rw [HR.out] at hst
      have hle := rangeI_le es i fun e he => (HS.out.2.2 e he).a
      have kR : ∀ W, Below w.heap.size w W → Calls Tryz.prog 58 #[.slice (some ⟨b, o, none⟩) m c, .int .i64 (i : Int)] W (retP (rangeI es i).1 (rangeI es i).2 W) := fun W hW => range_any es ⟨some ⟨b, o, none⟩, m, c⟩ i W (HT.out.below hW) (HS.out.below hW) hlt
      dsimp only at c0 c1 c2
      generalize (rangeI es i).1 = F at *
      generalize (rangeI es i).2 = T at *
      have hat := at_entry b o m c i hin
      generalize es.getD i en0 = e at *
      obtain ⟨ew, er, ea⟩ := e
      dsimp only at hpe hst
      obtain ⟨e0, e1, e2, e3⟩ := hpe
      obtain ⟨l1, l2⟩ := hle
      have HST := Lib.hid hst
      have HKR := Lib.hid kR
      have HB := Lib.hid hb
      replace c0 : wr.cell? ⟨b, o + i * 3, none⟩ = some (.int .i64 ew) := c0
      replace c1 : wr.cell? ⟨b, o + i * 3 + 1, none⟩ = some (.int .i64 er) := c1
      replace c2 : wr.cell? ⟨b, o + i * 3 + 2, none⟩ = some (.int .u32 (ea : Int)) := c2
      clear hst kR hcc hb
      go_upto_region 8 with fail
      obtain ⟨wa, hwa, hX, hba, hsa⟩ := one_new wr #[.int .i64 ew, .int .i64 er, .int .u32 (ea : Int)] 38
      rw [← hwa]
      have hg : wr.heap.size < wa.heap.size := by omega
      have hbwa := HB.out.trans (hba.mono HB.out.size)
      have kR := HKR.out wa hbwa
      clear hwa hsa c0 c1 c2 hba
      generalize wr.heap.size = g at *
      go_wp2_with fail
      refine kR.mono ?_
      rintro e w2 ⟨rfl, hb2⟩
      have hX2 := hX.below hb2 hg
      have hb3 := hbwa.trans (hb2.mono hbwa.size)
      clear kR hX hb2 hbwa hg hat
      have c1 : w2.cell? ⟨g, 1, none⟩ = some (.int .i64 er) := hX2.cell 1
      have HB3 := Lib.hid hb3
      clear hX2 hb3
      obtain ⟨r, rfl⟩ : ∃ r : Nat, er = (r : Int) := ⟨er.toNat, by omega⟩
      have hand := i64_and_nat r right (by omega) (by omega)
      have hv : r &&& right ≤ right := Nat.and_le_right
      have hst : res = (if overB ⟨F, T, (r : Int)⟩ at' n then (inB' ⟨F, T, (r : Int)⟩ at' n && decide (r &&& right = right)) else checkT ((tri 0 es).drop (i + 1)) at' n right) := HST.out
      have HST2 := Lib.hid hst
      clear hst
      generalize r &&& right = v at *
      obtain ⟨q, hq⟩ : ∃ q, q = decide (v = right) := ⟨_, rfl⟩
      have hqe : ((v : Int) == (right : Int)) = q := by
        rw [hq]
        by_cases h : v = right
        · rw [decide_eq_true h, h]; exact beq_self_eq_true _
        · rw [decide_eq_false h]; exact beq_eq_false_iff_ne.2 (by omega)
      rw [← hq] at HST2
      have HQ := Lib.hid hq
      clear hq
      have HN := Lib.hid hn1
      have over : F < at' + n → at' < T → F < T → res = (inB' ⟨F, T, (r : Int)⟩ at' n && q) := fun h1 h2 h3 => by
        rw [HST2.out, if_pos (show overB ⟨F, T, (r : Int)⟩ at' n = true by unfold overB; simp [h1, h2, h3])]
      have past : ¬(F < at' + n ∧ at' < T ∧ F < T) → checkT ((tri 0 es).drop (i + 1)) at' n right = res := fun h => by
        rw [HST2.out, if_neg (show ¬ overB ⟨F, T, (r : Int)⟩ at' n = true by unfold overB; simp; intro h1 h2; omega)]
      have OVER := Lib.hid over
      have PAST := Lib.hid past
      clear over past
      by_cases hf : (F : Int) < (at' : Int)
      · by_cases ht : (at' : Int) + (n : Int) < (T : Int)
        · skip
          by_cases ho : (at' : Int) < (at' : Int) + (n : Int)
          · have hres := OVER.out (by omega) (by omega) (by omega)
            have HRS := Lib.hid hres
            clear hres
            by_cases hp1 : F ≤ at'
            · have hp1' : (F : Int) ≤ (at' : Int) := by omega
              by_cases hp2 : at' + n ≤ T
              · have hp2' : (at' : Int) + (n : Int) ≤ (T : Int) := by omega
                have HI := Lib.hid (show inB' ⟨F, T, (r : Int)⟩ at' n = true by unfold inB'; simp [hp1, hp2])
                go_wp2_with fail
                all_goals (go_ret; exact ⟨by rw [HRS.out, HI.out, Bool.true_and]; rfl, HB3.out⟩)
              · have hp2' : ¬ (at' : Int) + (n : Int) ≤ (T : Int) := by omega
                have HI := Lib.hid (show inB' ⟨F, T, (r : Int)⟩ at' n = false by unfold inB'; simp [hp2])
                go_wp2_with fail
                all_goals (go_ret; exact ⟨by rw [HRS.out, HI.out]; rfl, HB3.out⟩)
            · have hp1' : ¬ (F : Int) ≤ (at' : Int) := by omega
              have HI := Lib.hid (show inB' ⟨F, T, (r : Int)⟩ at' n = false by unfold inB'; simp [hp1])
              go_wp2_with fail
              all_goals (go_ret; exact ⟨by rw [HRS.out, HI.out]; rfl, HB3.out⟩)
          · have hres := PAST.out (by omega)
            have HRS := Lib.hid hres
            clear hres
            go_wp2_with fail
            all_goals
              go_roundw
              case rel => exact ⟨i + 1, by omega, by go_num, HRS, HB3.out⟩
              case measure => simp [intOf] <;> omega
        · skip
          by_cases ho : (at' : Int) < (T : Int)
          · have hres := OVER.out (by omega) (by omega) (by omega)
            have HRS := Lib.hid hres
            clear hres
            by_cases hp1 : F ≤ at'
            · have hp1' : (F : Int) ≤ (at' : Int) := by omega
              by_cases hp2 : at' + n ≤ T
              · have hp2' : (at' : Int) + (n : Int) ≤ (T : Int) := by omega
                have HI := Lib.hid (show inB' ⟨F, T, (r : Int)⟩ at' n = true by unfold inB'; simp [hp1, hp2])
                go_wp2_with fail
                all_goals (go_ret; exact ⟨by rw [HRS.out, HI.out, Bool.true_and]; rfl, HB3.out⟩)
              · have hp2' : ¬ (at' : Int) + (n : Int) ≤ (T : Int) := by omega
                have HI := Lib.hid (show inB' ⟨F, T, (r : Int)⟩ at' n = false by unfold inB'; simp [hp2])
                go_wp2_with fail
                all_goals (go_ret; exact ⟨by rw [HRS.out, HI.out]; rfl, HB3.out⟩)
            · have hp1' : ¬ (F : Int) ≤ (at' : Int) := by omega
              have HI := Lib.hid (show inB' ⟨F, T, (r : Int)⟩ at' n = false by unfold inB'; simp [hp1])
              go_wp2_with fail
              all_goals (go_ret; exact ⟨by rw [HRS.out, HI.out]; rfl, HB3.out⟩)
          · have hres := PAST.out (by omega)
            have HRS := Lib.hid hres
            clear hres
            go_wp2_with fail
            all_goals
              go_roundw
              case rel => exact ⟨i + 1, by omega, by go_num, HRS, HB3.out⟩
              case measure => simp [intOf] <;> omega
      · by_cases ht : (at' : Int) + (n : Int) < (T : Int)
        · skip
          by_cases ho : (F : Int) < (at' : Int) + (n : Int)
          · have hres := OVER.out (by omega) (by omega) (by omega)
            have HRS := Lib.hid hres
            clear hres
            by_cases hp1 : F ≤ at'
            · have hp1' : (F : Int) ≤ (at' : Int) := by omega
              by_cases hp2 : at' + n ≤ T
              · have hp2' : (at' : Int) + (n : Int) ≤ (T : Int) := by omega
                have HI := Lib.hid (show inB' ⟨F, T, (r : Int)⟩ at' n = true by unfold inB'; simp [hp1, hp2])
                go_wp2_with fail
                all_goals (go_ret; exact ⟨by rw [HRS.out, HI.out, Bool.true_and]; rfl, HB3.out⟩)
              · have hp2' : ¬ (at' : Int) + (n : Int) ≤ (T : Int) := by omega
                have HI := Lib.hid (show inB' ⟨F, T, (r : Int)⟩ at' n = false by unfold inB'; simp [hp2])
                go_wp2_with fail
                all_goals (go_ret; exact ⟨by rw [HRS.out, HI.out]; rfl, HB3.out⟩)
            · have hp1' : ¬ (F : Int) ≤ (at' : Int) := by omega
              have HI := Lib.hid (show inB' ⟨F, T, (r : Int)⟩ at' n = false by unfold inB'; simp [hp1])
              go_wp2_with fail
              all_goals (go_ret; exact ⟨by rw [HRS.out, HI.out]; rfl, HB3.out⟩)
          · have hres := PAST.out (by omega)
            have HRS := Lib.hid hres
            clear hres
            go_wp2_with fail
            all_goals
              go_roundw
              case rel => exact ⟨i + 1, by omega, by go_num, HRS, HB3.out⟩
              case measure => simp [intOf] <;> omega
        · skip
          by_cases ho : (F : Int) < (T : Int)
          · have hres := OVER.out (by omega) (by omega) (by omega)
            have HRS := Lib.hid hres
            clear hres
            by_cases hp1 : F ≤ at'
            · have hp1' : (F : Int) ≤ (at' : Int) := by omega
              by_cases hp2 : at' + n ≤ T
              · have hp2' : (at' : Int) + (n : Int) ≤ (T : Int) := by omega
                have HI := Lib.hid (show inB' ⟨F, T, (r : Int)⟩ at' n = true by unfold inB'; simp [hp1, hp2])
                go_wp2_with fail
                all_goals (go_ret; exact ⟨by rw [HRS.out, HI.out, Bool.true_and]; rfl, HB3.out⟩)
              · have hp2' : ¬ (at' : Int) + (n : Int) ≤ (T : Int) := by omega
                have HI := Lib.hid (show inB' ⟨F, T, (r : Int)⟩ at' n = false by unfold inB'; simp [hp2])
                go_wp2_with fail
                all_goals (go_ret; exact ⟨by rw [HRS.out, HI.out]; rfl, HB3.out⟩)
            · have hp1' : ¬ (F : Int) ≤ (at' : Int) := by omega
              have HI := Lib.hid (show inB' ⟨F, T, (r : Int)⟩ at' n = false by unfold inB'; simp [hp1])
              go_wp2_with fail
              all_goals (go_ret; exact ⟨by rw [HRS.out, HI.out]; rfl, HB3.out⟩)
          · have hres := PAST.out (by omega)
            have HRS := Lib.hid hres
            clear hres
            go_wp2_with fail
            all_goals
              go_roundw
              case rel => exact ⟨i + 1, by omega, by go_num, HRS, HB3.out⟩
              case measure => simp [intOf] <;> omega
    · obtain rfl : i = m := by omega
      have hin : ¬ (i : Int) < (i : Int) := by omega
      have hz : res = false := by rw [← HR.out, List.drop_eq_nil_of_le (by rw [tri_len, HLEN.out]; exact Nat.le_refl _)]; rfl
      have HZ := Lib.hid hz
      have HBr := Lib.hid hb
      clear hz hb
      go_wp2_with fail
      go_ret
      exact ⟨by rw [HZ.out]; rfl, HBr.out⟩
end Go.Proofs.YtgpofoggfifnjaaGreatDoor.Pm
