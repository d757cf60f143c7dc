/-
A region that draws its order, whose operations up to a tail may read, call and make memory in any order, and leave what was there as it was: each gives a value of which a fact holds that lasts; then the tail, which comes in one order. Operations of no world ('floats') may come late.
A region that draws its order and ends in no common operation: each operation once, in whatever order; then the walk behind it.
A region that draws its order, each operation once, in whatever order: facts of what has come up, facts of what is still to come, and what each operation that writes does to the world.
Package bytes: Take, the integers.
Package bytes: the integers; what a cursor is; At.
Package bytes: what a cursor is; all its calls do what the document says.
Layer 7: rows of byte slices that the call owns; what a region that makes them keeps.
-/
import Derived.Test.YtegaiphhoinilaaJaB
import Derived.StillTail
import Derived.WalkKit
import Derived.Laws.Rows
import Derived.Below
import Derived.KernelRfl
import Derived.Deep.Upon
import Derived.Great.BuildSlice
namespace Go.Proofs.Ytegaiphhoinilaa
open Go Go.RowKit

section
variable {P : Program} {md : Region.Mode} {ops : Array Oper}

/-- the values v of the operations, put in their slots -/
def putAll : List Oper → (Nat → Value) → Nat → Act → Act
  | [], _, _, a => a
  | o :: r, v, k, a => putAll r v (k + 1) (a.put o.dst (v k))
def setAt (v : Nat → Value) (i : Nat) (x : Value) (j : Nat) : Value := if j = i then x else v j

theorem putAll_put (l : List Oper) : ∀ (v : Nat → Value) (k : Nat) (a : Act) (dst : Option Tmp) (x : Value), (∀ o ∈ l, ∀ d, dst = some d → o.dst ≠ some d) → (putAll l v k a).put dst x = putAll l v k (a.put dst x) := by
  induction l with
  | nil => intro v k a dst x _; rfl
  | cons o r ih =>
    intro v k a dst x h
    show (putAll r v (k + 1) (a.put o.dst (v k))).put dst x = putAll r v (k + 1) ((a.put dst x).put o.dst (v k))
    rw [ih _ _ _ _ _ fun o' ho' => h o' (List.mem_cons_of_mem _ ho')]
    rw [Act.put_comm a x (v k) (h o (List.mem_cons_self ..))]
theorem put_put (a : Act) (dst : Option Tmp) (x y : Value) : (a.put dst x).put dst y = a.put dst y := by
  cases dst with
  | none => rfl
  | some d => simp [Act.put]
theorem putAll_agree (l : List Oper) : ∀ (v u : Nat → Value) (k : Nat) (a : Act), (∀ j, k ≤ j → j < k + l.length → v j = u j) → putAll l v k a = putAll l u k a := by
  induction l with
  | nil => intro v u k a _; rfl
  | cons o r ih =>
    intro v u k a h
    show putAll r v (k + 1) (a.put o.dst (v k)) = putAll r u (k + 1) (a.put o.dst (u k))
    rw [h k (Nat.le_refl _) (by simp), ih v u _ _ fun j h1 h2 => h j (by omega) (by simp; omega)]
/-- the slots are different ones -/
def distinctB : List Oper → Bool
  | [] => true
  | o :: r => (match o.dst with | some d => r.all fun x => x.dst != some d | none => true) && distinctB r
theorem putAll_set (l : List Oper) : ∀ (v : Nat → Value) (k : Nat) (a : Act) (i : Nat) (o : Oper) (x : Value), distinctB l = true → l[i]? = some o → (putAll l v k a).put o.dst x = putAll l (setAt v (k + i) x) k a := by
  induction l with
  | nil => intro v k a i o x _ h; simp at h
  | cons o' r ih =>
    intro v k a i o x hd h
    simp only [distinctB, Bool.and_eq_true] at hd
    cases i with
    | zero =>
      obtain rfl : o' = o := by simpa using h
      have hne : ∀ o ∈ r, ∀ d, o'.dst = some d → o.dst ≠ some d := fun o ho d hdd => by
        have h1 := hd.1
        rw [hdd] at h1
        simp only [List.all_eq_true, bne_iff_ne] at h1
        exact h1 o ho
      show (putAll r v (k + 1) (a.put o'.dst (v k))).put o'.dst x = putAll r (setAt v (k + 0) x) (k + 1) (a.put o'.dst (setAt v (k + 0) x k))
      rw [putAll_put r v (k + 1) _ _ x hne, put_put]
      have e : setAt v (k + 0) x k = x := by simp [setAt]
      rw [e]
      exact putAll_agree r _ _ _ _ fun j h1 _ => by simp only [setAt]; rw [if_neg (by omega)]
    | succ i =>
      have h' : r[i]? = some o := by simpa using h
      show (putAll r v (k + 1) (a.put o'.dst (v k))).put o.dst x = putAll r (setAt v (k + (i + 1)) x) (k + 1) (a.put o'.dst (setAt v (k + (i + 1)) x k))
      rw [ih v (k + 1) _ i o x hd.2 h']
      have e : setAt v (k + (i + 1)) x k = v k := by simp only [setAt]; rw [if_neg (by omega)]
      have e2 : k + (i + 1) = k + 1 + i := by omega
      rw [e, e2]
/-- what lies in the slots -/
def slotsOf (l : List Oper) (a : Act) (j : Nat) : Value := match l[j]? with
  | some o => match o.dst with
    | some d => a.tmps.getD d undef
    | none => undef
  | none => undef
theorem put_same (a : Act) (d : Tmp) : a.put (some d) (a.tmps.getD d undef) = a := by
  have e : a.tmps.setIfInBounds d (a.tmps.getD d undef) = a.tmps := by
    apply Array.ext
    · simp
    · intro i h1 h2
      rw [Array.getElem_setIfInBounds (by simpa using h2)]
      by_cases h : d = i
      · subst h; simp [h2]
      · rw [if_neg h]
  show { a with tmps := a.tmps.setIfInBounds d (a.tmps.getD d undef) } = a
  rw [e]
theorem putAll_slots (l : List Oper) (a : Act) : ∀ (v : Nat → Value) (k : Nat), (∀ j o d, l[j]? = some o → o.dst = some d → v (k + j) = a.tmps.getD d undef) → putAll l v k a = a := by
  induction l with
  | nil => intro v k _; rfl
  | cons o r ih =>
    intro v k h
    show putAll r v (k + 1) (a.put o.dst (v k)) = a
    have e : a.put o.dst (v k) = a := by
      cases hd : o.dst with
      | none => rfl
      | some d =>
        have := h 0 o d rfl hd
        rw [Nat.add_zero] at this
        rw [this, put_same]
    rw [e]
    exact ih v (k + 1) fun j o' d ho hd => by rw [show k + 1 + j = k + (j + 1) by omega]; exact h (j + 1) o' d (by simpa using ho) hd

def headDone (n m : Nat) : Array Bool := ((List.range m).map fun j => decide (j < n)).toArray
/-- what is asked of the region's edges -/
def factsB (md : Region.Mode) (ops : Array Oper) (n : Nat) (fl : List Nat) : Bool :=
  Region.noSelect ops && decide (n < ops.size) && ((ops.toList.take n).all fun o => o.guard.isNone) && distinctB (ops.toList.take n) &&
  ((List.range n).all fun i => fl.contains i || (List.range (n + 1)).any fun j => decide (i < j) && !fl.contains j && Region.waitsFor md ops j i) && Region.chainB md ops n &&
  (fl.all fun i => decide (i < n) && (match ops[i]? with
    | some o => (o.after.toList.all fun e => !Region.binds md e || (decide (e.on < n) && !fl.contains e.on)) && (List.range ops.size).all fun j => j == i || Region.waitsFor md ops j i || Region.waitsFor md ops i j || (match ops[j]? with
      | some oj => o.apart ops oj
      | none => true)
    | none => false)) &&
  Region.seqB md ops (ops.size - n) n (headDone n ops.size) &&
  ((List.range n).all fun i => match ops[i]? with
    | some o => o.after.toList.all fun e => !Region.binds md e || decide (e.on < i)
    | none => true)

theorem tail_waits2 {n : Nat} {fl : List Nat} {listed : Array Bool}
    (hs : ∀ i, i < n → fl.contains i = false → ∃ j, i < j ∧ j ≤ n ∧ fl.contains j = false ∧ Region.waitsFor md ops j i = true) (hc : Region.chainB md ops n = true) (hn : n < ops.size) (inv : HeadInv md ops n listed) :
    ∀ (d i : Nat), n - i = d → i < n → fl.contains i = false → listed.getD i true = false → ∀ t, n ≤ t → t ∉ Region.ready md ops listed := by
  intro d
  induction d using Nat.strongRecOn with
  | _ d ih =>
    intro i hd hi hfl hun t ht hr
    obtain ⟨_, ot, hot, hall⟩ := mem_ready.1 hr
    have htlt : t < ops.size := (Array.getElem?_eq_some_iff.1 hot).1
    by_cases htn : t = n
    · subst htn
      obtain ⟨j, hij, hjle, hjf, hw⟩ := hs i hi hfl
      obtain ⟨oj, hoj, e, he, hb, hon⟩ := Region.waitsFor_spec hw
      by_cases hjt : j = t
      · subst hjt
        have : oj = ot := Option.some.inj (hoj.symm.trans hot)
        subst this
        have h2 := hall e he hb
        rw [hon, getD_both hun] at h2
        cases h2
      · cases hl : listed.getD j false with
        | true =>
          have h2 := inv.closed j oj hoj hl e he hb
          rw [hon, getD_both hun] at h2
          cases h2
        | false =>
          have hjs : j < listed.size := by rw [inv.size]; omega
          exact ih (t - j) (by omega) j rfl (by omega) hjf (getD_in hjs hl) t (Nat.le_refl _) hr
    · have h1 := List.all_eq_true.1 hc t (List.mem_range.2 htlt)
      simp only [Bool.or_eq_true, decide_eq_true_eq] at h1
      rcases h1 with h1 | h1
      · omega
      · obtain ⟨o', ho', e, he, hb, hon⟩ := Region.waitsFor_spec h1
        have : o' = ot := Option.some.inj (ho'.symm.trans hot)
        subst this
        have h2 := hall e he hb
        rw [hon, getD_both (inv.tail (t - 1) (by omega) (by omega))] at h2
        cases h2

theorem getD_of_true {listed : Array Bool} {i : Nat} (h : listed.getD i true = true) (hi : i < listed.size) : listed.getD i false = true := by
  simp [hi] at h ⊢; exact h
/-- while not all are done, one may be next -/
theorem ready_ne {n : Nat} {listed : Array Bool} (hb : ∀ i o, ops[i]? = some o → i < n → ∀ e ∈ o.after, Region.binds md e = true → e.on < i) (hn : n < ops.size) (inv : HeadInv md ops n listed) {i : Nat} (hi : i < n) (hun : listed.getD i true = false) :
    Region.ready md ops listed ≠ [] := by
  induction i using Nat.strongRecOn with
  | _ i ih =>
    obtain ⟨o, ho⟩ : ∃ o, ops[i]? = some o := ⟨ops[i]'(by omega), by simp⟩
    by_cases h : ∀ e ∈ o.after, Region.binds md e = true → listed.getD e.on false = true
    · exact fun hr => by
        have : i ∈ Region.ready md ops listed := mem_ready.2 ⟨hun, o, ho, h⟩
        rw [hr] at this
        cases this
    · have h3 : ∃ e ∈ o.after, Region.binds md e = true ∧ listed.getD e.on false ≠ true := Classical.byContradiction fun hc' => h fun e he hbd => by
        cases hq : listed.getD e.on false with
        | true => rfl
        | false => exact absurd ⟨e, he, hbd, by rw [hq]; simp⟩ hc'
      obtain ⟨e, he, hbd, hne⟩ := h3
      have hlt := hb i o ho hi e he hbd
      exact ih e.on hlt (by omega) (getD_in (by rw [inv.size]; omega) (by simpa using hne))

/-- how many of the first n are not yet done -/
def left (listed : Array Bool) (n : Nat) : Nat := (List.range n).countP fun i => !listed.getD i true
theorem countP_one {p q : Nat → Bool} {i : Nat} (hp : p i = true) (hq : q i = false) (hne : ∀ j, j ≠ i → q j = p j) : ∀ (L : List Nat), L.Nodup → i ∈ L → L.countP q + 1 = L.countP p
  | [], _, h => by simp at h
  | x :: L, hnd, h => by
    rw [List.nodup_cons] at hnd
    by_cases hx : x = i
    · subst hx
      have e : L.countP q = L.countP p := List.countP_congr fun j hj => by
        have : j ≠ x := fun e => hnd.1 (e ▸ hj)
        rw [hne j this]
      rw [List.countP_cons, List.countP_cons, hp, hq, e]
      simp
    · have hm : i ∈ L := by
        rcases List.mem_cons.1 h with h | h
        · exact absurd h.symm hx
        · exact h
      have := countP_one hp hq hne L hnd.2 hm
      rw [List.countP_cons, List.countP_cons, hne x hx]
      omega
theorem left_set {listed : Array Bool} {n i : Nat} (hi : i < n) (hun : listed.getD i true = false) : left (listed.setIfInBounds i true) n + 1 = left listed n := by
  unfold left
  refine countP_one (i := i) (by rw [hun]; rfl) ?_ (fun j hj => by rw [getD_set_ne true (Ne.symm hj)]) _ List.nodup_range (by simpa using hi)
  have hlt : i < listed.size := by
    rcases Nat.lt_or_ge i listed.size with h | h
    · exact h
    · simp [Array.getElem?_eq_none h] at hun
  simp [hlt]
theorem left_zero {listed : Array Bool} {n : Nat} (h : left listed n = 0) : ∀ i, i < n → listed.getD i true = true := fun i hi => by
  unfold left at h
  rw [List.countP_eq_zero] at h
  have := h i (by simpa using hi)
  simpa using this
end

section
variable {P : Program} {Q : Exit → Act → World → Prop}
theorem any_of_facts {l : List Oper} {n : Nat} {fl : List Nat} {a : Act} {w : World} (F : Nat → Value → World → Prop) (D : Nat → Nat → Value → Value → Prop) (hB : factsB .any l.toArray n fl = true)
    (hQ : ∀ c a (t : Tmp) x w, Q (.panic c) (a.put (some t) x) w → Q (.panic c) a w)
    (hst : ∀ i x w' w'', F i x w' → Below w'.heap.size w' w'' → F i x w'')
    (hstep : ∀ i o, l[i]? = some o → i < n → fl.contains i = false → ∀ (v : Nat → Value) w', Below w.heap.size w w' → (∀ e ∈ o.after, Region.binds .any e = true → F e.on (v e.on) w') →
      ∀ K : Act → World → Prop, (∀ x w'', Below w'.heap.size w' w'' → F i x w'' → (∀ j y, j ≠ i → F j y w' → D i j x y ∧ D j i y x) → K ((putAll (l.take n) v 0 a).put o.dst x) w'') → o.wp P (putAll (l.take n) v 0 a) w' K Q)
    (hfloat : ∀ i o, l[i]? = some o → i < n → fl.contains i = true → ∀ (v : Nat → Value), (∀ e ∈ o.after, Region.binds .any e = true → ∃ w', Below w.heap.size w w' ∧ F e.on (v e.on) w') →
      ∃ x, (∀ w', (execOp (putAll (l.take n) v 0 a).eval o).run P w' = .ok (.value x) w') ∧ (∀ w', F i x w') ∧ ∀ j y, D i j x y ∧ D j i y x)
    (htail : ∀ (v : Nat → Value) w', Below w.heap.size w w' → (∀ i, i < n → F i (v i) w') → (∀ i j, i < n → j < n → i ≠ j → D i j (v i) (v j)) → wpList P l.toArray Q (l.drop n) (putAll (l.take n) v 0 a) w') :
    ∀ (f : Nat) (listed : Array Bool) (v : Nat → Value) (w' : World), HeadInv .any l.toArray n listed → left listed n = f → Below w.heap.size w w' → (∀ i, i < n → listed.getD i false = true → F i (v i) w') → (∀ i j, i < n → j < n → listed.getD i false = true → listed.getD j false = true → i ≠ j → D i j (v i) (v j)) →
      wpAny P .any l.toArray Q (f + (l.length - n)) listed (putAll (l.take n) v 0 a) w' := by
  simp only [factsB, Bool.and_eq_true, decide_eq_true_eq] at hB
  obtain ⟨⟨⟨⟨⟨⟨⟨⟨hsel, hn⟩, hg⟩, hd⟩, hs⟩, hc⟩, hf⟩, hseq⟩, hback⟩ := hB
  have hn' : n < l.length := by simpa using hn
  have hd' : distinctB (l.take n) = true := by simpa using hd
  have hgn : ∀ i o, l[i]? = some o → i < n → o.guard = none := fun i o ho hi => by
    have h1 := List.all_eq_true.1 hg o (List.mem_iff_getElem?.2 ⟨i, by simpa [hi] using ho⟩)
    simpa using h1
  have hs' : ∀ i, i < n → fl.contains i = false → ∃ j, i < j ∧ j ≤ n ∧ fl.contains j = false ∧ Region.waitsFor .any l.toArray j i = true := fun i hi hfi => by
    have h1 := List.all_eq_true.1 hs i (List.mem_range.2 hi)
    rw [hfi, Bool.false_or] at h1
    obtain ⟨j, hj, hj2⟩ := List.any_eq_true.1 h1
    simp only [Bool.and_eq_true, decide_eq_true_eq, Bool.not_eq_true'] at hj2
    exact ⟨j, hj2.1.1, by have := List.mem_range.1 hj; omega, hj2.1.2, hj2.2⟩
  have hfl : ∀ i, fl.contains i = true → ∃ o, l[i]? = some o ∧ i < n ∧ (∀ e ∈ o.after, Region.binds .any e = true → e.on < n ∧ fl.contains e.on = false) ∧
      ∀ (j : Nat) oj, l[j]? = some oj → j ≠ i → (Region.waitsFor .any l.toArray j i = true ∨ Region.waitsFor .any l.toArray i j = true) ∨ o.apart l.toArray oj = true := fun i hi => by
    have h1 := List.all_eq_true.1 hf i (by simpa using hi)
    simp only [Bool.and_eq_true, decide_eq_true_eq] at h1
    obtain ⟨hin, h2⟩ := h1
    cases ho : l[i]? with
    | none => simp [ho] at h2
    | some o =>
      simp only [List.getElem?_toArray, ho, Bool.and_eq_true] at h2
      refine ⟨o, rfl, hin, fun e he hb => ?_, fun j oj hj hne => ?_⟩
      · have h3 := List.all_eq_true.1 h2.1 e (by simpa using he)
        rw [hb] at h3
        simpa using h3
      · have hjlt : j < l.length := (List.getElem?_eq_some_iff.1 hj).1
        have h3 := List.all_eq_true.1 h2.2 j (by simpa using hjlt)
        simp only [hj, Bool.or_eq_true, beq_iff_eq, hne, false_or] at h3
        exact h3
  have hback' : ∀ i o, l.toArray[i]? = some o → i < n → ∀ e ∈ o.after, Region.binds .any e = true → e.on < i := fun i o ho hi e he hbd => by
    have h1 := List.all_eq_true.1 hback i (List.mem_range.2 hi)
    rw [ho] at h1
    have h2 := List.all_eq_true.1 h1 e (by simpa using he)
    rw [hbd] at h2
    simpa using h2
  intro f
  induction f with
  | zero =>
    intro listed v w' inv hl hb hF hD
    have hall := left_zero hl
    have hlist : listed = headDone n l.toArray.size := by
      apply Array.ext_getElem?
      intro j
      unfold headDone
      by_cases hj : j < l.toArray.size
      · have hjs : j < listed.size := by rw [inv.size]; exact hj
        rw [Array.getElem?_eq_getElem hjs]
        have e : (((List.range l.toArray.size).map fun j => decide (j < n)).toArray)[j]? = some (decide (j < n)) := by rw [List.getElem?_toArray, List.getElem?_map, List.getElem?_range hj]; rfl
        rw [e]
        congr 1
        by_cases hjn : j < n
        · have h1 := hall j hjn
          rw [Array.getD_eq_getD_getElem?, Array.getElem?_eq_getElem hjs] at h1
          simpa [hjn] using h1
        · have h1 := inv.tail j (by omega) hj
          rw [Array.getD_eq_getD_getElem?, Array.getElem?_eq_getElem hjs] at h1
          simpa [hjn] using h1
      · rw [Array.getElem?_eq_none (by rw [inv.size]; omega), Array.getElem?_eq_none (by simpa using hj)]
    have hF' : ∀ i, i < n → F i (v i) w' := fun i hi => hF i hi (getD_of_true (hall i hi) (by rw [inv.size]; omega))
    have hD' : ∀ i j, i < n → j < n → i ≠ j → D i j (v i) (v j) := fun i j hi hj hne => hD i j hi hj (getD_of_true (hall i hi) (by rw [inv.size]; omega)) (getD_of_true (hall j hj) (by rw [inv.size]; omega)) hne
    have := wpAny_of_seq (md := .any) (Q' := Q) (ops := l.toArray) (l.drop n) n listed (putAll (l.take n) v 0 a) w' (fun j => by simp [List.getElem?_drop])
      (by rw [hlist]; simpa using hseq) (htail v w' hb hF' hD')
    simpa using this
  | succ f ih =>
    intro listed v w' inv hl hb hF hD
    rw [show f + 1 + (l.length - n) = (f + (l.length - n)) + 1 by omega]
    by_cases hA : ∃ i, fl.contains i = true ∧ i ∈ Region.ready .any l.toArray listed
    · obtain ⟨i, hfi, hr⟩ := hA
      obtain ⟨o, ho, hin, hedge, hap⟩ := hfl i hfi
      obtain ⟨hun, o', ho', hall⟩ := mem_ready.1 hr
      obtain rfl : o' = o := Option.some.inj ((by simpa using ho' : l[i]? = some o').symm.trans ho)
      obtain ⟨x, hx, hFx, hDx⟩ := hfloat i o' ho hin hfi v fun e he hbd => ⟨w', hb, hF e.on (hedge e he hbd).1 (hall e he hbd)⟩
      have hset := putAll_set (l.take n) v 0 a i o' x hd' (by simpa [hin] using ho)
      rw [Nat.zero_add] at hset
      refine wpAny_first (ops := l.toArray) (by simpa using ho) (Region.noSelect_spec hsel) (fun c a1 w1 h => by
        cases hdst : o'.dst with
        | none => rw [hdst] at h; exact h
        | some t => rw [hdst] at h; exact hQ c a1 t x w1 h) _ listed _ w' (fun j oj hj hne hunj hno => ?_) hr (.inl ⟨by simp [Region.wanted, hgn i o' ho hin], hx⟩) ?_
      · rcases hap j oj (by simpa using hj) hne with (h1 | h1) | h1
        · obtain ⟨oj', hoj', e, he, hbd, hon⟩ := Region.waitsFor_spec h1
          obtain rfl : oj' = oj := Option.some.inj (hoj'.symm.trans hj)
          exact absurd hon (hno e he hbd)
        · obtain ⟨oi', hoi', e, he, hbd, hon⟩ := Region.waitsFor_spec h1
          obtain rfl : oi' = o' := Option.some.inj (hoi'.symm.trans (by simpa using ho))
          have h2 := hall e he hbd
          rw [hon, getD_both hunj] at h2
          cases h2
        · exact h1
      · rw [hset]
        refine ih _ _ w' (inv.set hr hin) (by have := left_set hin hun; omega) hb (fun j hj hlj => ?_) fun j k hj hk hlj hlk hjk => ?_
        · unfold setAt
          by_cases hji : j = i
          · subst hji; rw [if_pos rfl]; exact hFx w'
          · rw [if_neg hji]
            rw [getD_set_ne false (Ne.symm hji)] at hlj
            exact hF j hj hlj
        · unfold setAt
          by_cases hji : j = i
          · rw [if_pos hji, if_neg (by omega), hji]; exact (hDx k (v k)).1
          · rw [if_neg hji]
            by_cases hki : k = i
            · rw [if_pos hki, hki]; exact (hDx j (v j)).2
            · rw [if_neg hki]
              rw [getD_set_ne false (Ne.symm hji)] at hlj
              rw [getD_set_ne false (Ne.symm hki)] at hlk
              exact hD j k hj hk hlj hlk hjk
    · have hex : ∃ i, i < n ∧ fl.contains i = false ∧ listed.getD i true = false := by
        have h1 : ¬ ∀ i, i < n → listed.getD i true = true := fun hall => by
          have : left listed n = 0 := by
            unfold left
            rw [List.countP_eq_zero]
            intro i hi
            have := hall i (by simpa using hi)
            simpa using this
          omega
        have h2 : ∃ i, i < n ∧ listed.getD i true = false := Classical.byContradiction fun hc' => h1 fun i hi => by
          cases hq : listed.getD i true with
          | true => rfl
          | false => exact absurd ⟨i, hi, hq⟩ hc'
        obtain ⟨i, hi, hun⟩ := h2
        cases hfi : fl.contains i with
        | false => exact ⟨i, hi, hfi, hun⟩
        | true =>
          obtain ⟨o, ho, _, hedge, _⟩ := hfl i hfi
          have hnr : i ∉ Region.ready .any l.toArray listed := fun h => hA ⟨i, hfi, h⟩
          have h3 : ∃ e ∈ o.after, Region.binds .any e = true ∧ listed.getD e.on false ≠ true := Classical.byContradiction fun hc' => hnr (mem_ready.2 ⟨hun, o, by simpa using ho, fun e he hbd => by
            cases hq : listed.getD e.on false with
            | true => rfl
            | false => exact absurd ⟨e, he, hbd, by rw [hq]; simp⟩ hc'⟩)
          obtain ⟨e, he, hbd, hne⟩ := h3
          obtain ⟨h4, h5⟩ := hedge e he hbd
          exact ⟨e.on, h4, h5, getD_in (by rw [inv.size]; simp; omega) (by simpa using hne)⟩
      obtain ⟨i0, hi0, hfi0, hun0⟩ := hex
      have hwait := tail_waits2 hs' hc hn inv _ i0 rfl hi0 hfi0 hun0
      refine ⟨fun hempty => ?_, fun i hr => ?_⟩
      · exact absurd hempty (ready_ne hback' hn inv hi0 hun0)
      · have hin : i < n := by
          rcases Nat.lt_or_ge i n with h | h
          · exact h
          · exact absurd hr (hwait i h)
        have hfi : fl.contains i = false := by
          cases hq : fl.contains i with
          | false => rfl
          | true => exact absurd ⟨i, hq, hr⟩ hA
        obtain ⟨hun, o, ho, hall⟩ := mem_ready.1 hr
        have ho' : l[i]? = some o := by simpa using ho
        have hset := fun x => putAll_set (l.take n) v 0 a i o x hd' (by simpa [hin] using ho')
        have hnot : ∀ e ∈ o.after, Region.binds .any e = true → e.on < n := fun e he hbd => by
          rcases Nat.lt_or_ge e.on n with h | h
          · exact h
          · have h1 := hall e he hbd
            by_cases h2 : e.on < l.toArray.size
            · rw [getD_both (inv.tail e.on h h2)] at h1; cases h1
            · rw [Array.getD_eq_getD_getElem?, Array.getElem?_eq_none (by rw [inv.size]; omega)] at h1; simp at h1
        unfold wpOp
        simp only [ho, Region.wanted, hgn i o ho' hin, if_true]
        refine .inl (hstep i o ho' hin hfi v w' hb (fun e he hbd => hF e.on (hnot e he hbd) (hall e he hbd)) _ fun x w'' hb2 hFx hDx => ?_)
        rw [hset x, Nat.zero_add]
        refine ih _ _ w'' (inv.set hr hin) (by have := left_set hin hun; omega) (hb.trans (hb2.mono hb.size)) (fun j hj hlj => ?_) fun j k hj hk hlj hlk hjk => ?_
        · unfold setAt
          by_cases hji : j = i
          · subst hji; rw [if_pos rfl]; exact hFx
          · rw [if_neg hji]
            rw [getD_set_ne false (Ne.symm hji)] at hlj
            exact hst j (v j) w' w'' (hF j hj hlj) hb2
        · unfold setAt
          by_cases hji : j = i
          · rw [getD_set_ne false (show i ≠ k by omega)] at hlk
            rw [if_pos hji, if_neg (by omega), hji]; exact (hDx k (v k) (by omega) (hF k hk hlk)).1
          · rw [if_neg hji]
            rw [getD_set_ne false (Ne.symm hji)] at hlj
            by_cases hki : k = i
            · rw [if_pos hki, hki]; exact (hDx j (v j) hji (hF j hj hlj)).2
            · rw [if_neg hki]
              rw [getD_set_ne false (Ne.symm hki)] at hlk
              exact hD j k hj hk hlj hlk hjk
/-- what an operation of such a region yields: this value, or a block of its own that holds these cells -/
inductive Yld where
  | val (v : Value)
  | new (t : TypeId) (cs : Array Value)
def Yld.fact (W : World) : Yld → Value → World → Prop
  | .val v, x, _ => x = v
  | .new t cs, x, w => ∃ g, x = .pointer (some ⟨g, 0, none⟩) ∧ W.heap.size ≤ g ∧ g < w.heap.size ∧ w.heap[g]? = some (.cells cs t (0, 0))
def yldAt (W : World) (ks : List Yld) (i : Nat) (x : Value) (w : World) : Prop := match ks[i]? with
  | some k => k.fact W x w
  | none => True
def isNew (ks : List Yld) (i : Nat) : Bool := match ks[i]? with
  | some (.new _ _) => true
  | _ => false
theorem yld_keep {W : World} (k : Yld) (x : Value) (w' w'' : World) (h : k.fact W x w') (hb : Below w'.heap.size w' w'') : k.fact W x w'' := by
  cases k with
  | val v => exact h
  | new t cs =>
    obtain ⟨g, e, h1, h2, h3⟩ := h
    exact ⟨g, e, h1, Nat.lt_of_lt_of_le h2 hb.size, (hb.block g h2).trans h3⟩
/-- an operation's step -/
def StepAt (P : Program) (Q : Exit → Act → World → Prop) (ks : List Yld) (fl : List Nat) (l : List Oper) (a : Act) (w : World) (i : Nat) (o : Oper) : Yld → Prop
  | .val x => if fl.contains i = true
    then ∀ (v : Nat → Value), (∀ e ∈ o.after, Region.binds .any e = true → ∃ w', yldAt w ks e.on (v e.on) w') → ∀ w', (execOp (putAll l v 0 a).eval o).run P w' = .ok (.value x) w'
    else ∀ (v : Nat → Value) w', Below w.heap.size w w' → (∀ e ∈ o.after, Region.binds .any e = true → yldAt w ks e.on (v e.on) w') →
      ∀ K : Act → World → Prop, (∀ w'', Below w'.heap.size w' w'' → K ((putAll l v 0 a).put o.dst x) w'') → o.wp P (putAll l v 0 a) w' K Q
  | .new t cs => fl.contains i = false ∧ o.op = .alloc t ∧ ∀ w, (zeroValue t).run P w = .ok (.agg cs) w
/-- each operation's step, one after the other -/
def StepsOK (P : Program) (Q : Exit → Act → World → Prop) (ks : List Yld) (fl : List Nat) (l : List Oper) (a : Act) (w : World) : List Oper → List Yld → Nat → Prop
  | [], [], _ => True
  | o :: r, k :: kr, i => StepAt P Q ks fl l a w i o k ∧ StepsOK P Q ks fl l a w r kr (i + 1)
  | _, _, _ => False
theorem stepsOK_at {ks : List Yld} {fl : List Nat} {l : List Oper} {a : Act} {w : World} : ∀ (r : List Oper) (kr : List Yld) (k : Nat), StepsOK P Q ks fl l a w r kr k → ∀ i o, r[i]? = some o →
    ∃ y, kr[i]? = some y ∧ StepAt P Q ks fl l a w (k + i) o y
  | [], _, _, _, i, o, h => by simp at h
  | _ :: _, [], _, hs, _, _, _ => by cases hs
  | o' :: r, y :: kr, k, hs, i, o, h => by
    cases i with
    | zero =>
      obtain rfl : o' = o := by simpa using h
      exact ⟨y, rfl, hs.1⟩
    | succ i =>
      obtain ⟨y', h1, h2⟩ := stepsOK_at r kr (k + 1) hs.2 i o (by simpa using h)
      rw [show k + 1 + i = k + (i + 1) by omega] at h2
      exact ⟨y', by simpa using h1, h2⟩
theorem wp_alloc_new {o : Oper} {a : Act} {w : World} {K : Act → World → Prop} (t : TypeId) (cs : Array Value) (ho : o.op = .alloc t) (hz : ∀ w, (zeroValue t).run P w = .ok (.agg cs) w)
    (h : K (a.put o.dst (.pointer (some ⟨w.heap.size, 0, none⟩))) (w.alloc (.cells cs t))) : o.wp P a w K Q := by
  unfold Oper.wp execOp
  simp only [ho]
  go_simp
  exact h
/-- the region's wp -/
theorem region_facts {id : Nat} {l : List Oper} {a : Act} {w : World} (n : Nat) (fl : List Nat) (ks : List Yld) (hm : P.follows .mixedOrders = true) (hB : factsB .any l.toArray n fl = true)
    (hQ : ∀ c a (t : Tmp) x w, Q (.panic c) (a.put (some t) x) w → Q (.panic c) a w)
    (hsteps : StepsOK P Q ks fl (l.take n) a w (l.take n) ks 0)
    (htail : ∀ (v : Nat → Value) w', Below w.heap.size w w' → (∀ i, i < n → yldAt w ks i (v i) w') → (∀ i j, i < n → j < n → i ≠ j → isNew ks i = true → isNew ks j = true → v i ≠ v j) →
      wpList P l.toArray Q (l.drop n) (putAll (l.take n) v 0 a) w') : (Code.region id l.toArray true).wp P Q a w := by
  have hn : n < l.length := by
    have h := hB
    simp only [factsB, Bool.and_eq_true, decide_eq_true_eq] at h
    simpa using h.1.1.1.1.1.1.1.2
  refine wp_region_any hm ?_
  have key := any_of_facts (yldAt w ks) (fun i j x y => isNew ks i = true → isNew ks j = true → x ≠ y) hB hQ
    (fun i x w' w'' h hb => by
      unfold yldAt at h ⊢
      split
      · rename_i k hk
        rw [hk] at h
        exact yld_keep k x w' w'' h hb
      · trivial)
    (fun i o ho hi hfi v w' hb hf K hK => by
      obtain ⟨y, hy, hs⟩ := stepsOK_at _ _ _ hsteps i o (by simpa [hi] using ho)
      rw [Nat.zero_add] at hs
      cases y with
      | val x =>
        simp only [StepAt] at hs
        rw [if_neg (by rw [hfi]; simp)] at hs
        refine hs v w' hb hf K fun w'' hb2 => hK x w'' hb2 (by unfold yldAt; rw [hy]; rfl) fun j y _ _ => ⟨fun h => ?_, fun _ h => ?_⟩
        · unfold isNew at h; rw [hy] at h; cases h
        · unfold isNew at h; rw [hy] at h; cases h
      | new t cs =>
        obtain ⟨_, hop, hz⟩ := hs
        refine wp_alloc_new t cs hop hz (hK _ _ ((Below.refl _ _).alloc (Nat.le_refl _) _) (by unfold yldAt; rw [hy]; exact ⟨w'.heap.size, rfl, hb.size, by simp, heap_alloc_new w' _⟩) fun j y _ hj => ?_)
        have hne : isNew ks j = true → Value.pointer (some ⟨w'.heap.size, 0, none⟩) ≠ y := fun hnw e => by
          unfold isNew at hnw
          unfold yldAt at hj
          split at hnw
          · rename_i t' cs' hk
            rw [hk] at hj
            obtain ⟨g, e1, _, h2, _⟩ := hj
            rw [← e] at e1
            injection e1 with e1
            injection e1 with e1
            injection e1 with e1
            omega
          · cases hnw
        exact ⟨fun _ h => hne h, fun h _ e => hne h e.symm⟩)
    (fun i o ho hi hfi v hf => by
      obtain ⟨y, hy, hs⟩ := stepsOK_at _ _ _ hsteps i o (by simpa [hi] using ho)
      rw [Nat.zero_add] at hs
      cases y with
      | val x =>
        simp only [StepAt] at hs
        rw [if_pos hfi] at hs
        refine ⟨x, hs v (fun e he hb => ?_), fun w' => by unfold yldAt; rw [hy]; rfl, fun j y => ⟨fun h => ?_, fun _ h => ?_⟩⟩
        · obtain ⟨w', _, h⟩ := hf e he hb
          exact ⟨w', h⟩
        · unfold isNew at h; rw [hy] at h; cases h
        · unfold isNew at h; rw [hy] at h; cases h
      | new t cs => rw [hs.1] at hfi; cases hfi) htail n (Array.replicate l.toArray.size false) (slotsOf (l.take n) a) { w with drawn := w.drawn + 1 }
    ⟨by simp, fun j oj _ hl => (by rw [getD_replicate_false] at hl; cases hl), fun t _ ht => getD_in (by simpa using ht) (getD_replicate_false _ _)⟩
    (by
      unfold left
      have : (List.range n).countP (fun i => !(Array.replicate l.toArray.size false).getD i true) = (List.range n).length := by
        rw [List.countP_eq_length]
        intro i hi
        have hin : i < n := by simpa using hi
        have h1 : (Array.replicate l.toArray.size false).getD i true = false := getD_in (by simp; omega) (getD_replicate_false _ _)
        rw [h1]; rfl
      rw [this]; simp)
    ⟨rfl, rfl, rfl, Nat.le_refl _, fun _ _ => rfl⟩ (fun i hi hl => by rw [getD_replicate_false] at hl; cases hl) (fun i j _ _ hl => by rw [getD_replicate_false] at hl; cases hl)
  rw [putAll_slots (l.take n) a (slotsOf (l.take n) a) 0 (fun j o d ho hd => by unfold slotsOf; rw [Nat.zero_add, ho]; simp only [hd])] at key
  rw [show n + (l.length - n) = l.toArray.size by simp; omega] at key
  exact key
/-- a call, by its contract -/
theorem wp_call_fn {o : Oper} {a : Act} {w : World} {K : Act → World → Prop} (fn : FuncId) (args : Array Value) (hrun : (execOp a.eval o).run P w = .ok (.enter fn args) w)
    (hc : Calls P fn args w fun e w'' => ∃ x, e = .returned x ∧ K (a.put o.dst x) w'') : o.wp P a w K Q := by
  unfold Oper.wp
  rw [hrun]
  simp only [Oper.upon]
  refine hc.mono ?_
  rintro e w'' ⟨x, rfl, h⟩
  exact h
end
end Go.Proofs.Ytegaiphhoinilaa
namespace Go.Proofs.Ytegaiphhoinilaa
open Go Go.RowKit

section
variable {P : Program} {Q : Exit → Act → World → Prop}
def allB (ops : Array Oper) : Bool :=
  (ops.toList.all fun o => o.guard.isNone) && distinctB ops.toList &&
  ((List.range ops.size).all fun i => match ops[i]? with
    | some o => o.after.toList.all fun e => !Region.binds .any e || decide (e.on < i)
    | none => true)
theorem ready_ne2 {ops : Array Oper} {listed : Array Bool} (hb : ∀ (i : Nat) o, ops[i]? = some o → ∀ e ∈ o.after, Region.binds .any e = true → e.on < i) (hsz : listed.size = ops.size) {i : Nat} (hi : i < ops.size) (hun : listed.getD i true = false) :
    Region.ready .any ops listed ≠ [] := by
  induction i using Nat.strongRecOn with
  | _ i ih =>
    obtain ⟨o, ho⟩ : ∃ o, ops[i]? = some o := ⟨ops[i]'(by omega), by simp⟩
    by_cases h : ∀ e ∈ o.after, Region.binds .any e = true → listed.getD e.on false = true
    · exact fun hr => by
        have : i ∈ Region.ready .any ops listed := mem_ready.2 ⟨hun, o, ho, h⟩
        rw [hr] at this
        cases this
    · have h3 : ∃ e ∈ o.after, Region.binds .any e = true ∧ listed.getD e.on false ≠ true := Classical.byContradiction fun hc' => h fun e he hbd => by
        cases hq : listed.getD e.on false with
        | true => rfl
        | false => exact absurd ⟨e, he, hbd, by rw [hq]; simp⟩ hc'
      obtain ⟨e, he, hbd, hne⟩ := h3
      have hlt := hb i o ho e he hbd
      exact ih e.on hlt (by omega) (getD_in (by rw [hsz]; omega) (by simpa using hne))
theorem any_of_all {l : List Oper} {a : Act} {w : World} (F : Nat → Value → World → Prop) (hB : allB l.toArray = true)
    (hst : ∀ i x w' w'', F i x w' → Below w'.heap.size w' w'' → F i x w'')
    (hstep : ∀ i o, l[i]? = some o → ∀ (v : Nat → Value) w', Below w.heap.size w w' → (∀ e ∈ o.after, Region.binds .any e = true → F e.on (v e.on) w') →
      ∀ K : Act → World → Prop, (∀ x w'', Below w'.heap.size w' w'' → F i x w'' → K ((putAll l v 0 a).put o.dst x) w'') → o.wp P (putAll l v 0 a) w' K Q)
    (hend : ∀ (v : Nat → Value) w', Below w.heap.size w w' → (∀ i, i < l.length → F i (v i) w') → Q .normal (putAll l v 0 a) w') :
    ∀ (f : Nat) (listed : Array Bool) (v : Nat → Value) (w' : World), listed.size = l.length → left listed l.length = f → Below w.heap.size w w' → (∀ i, i < l.length → listed.getD i false = true → F i (v i) w') →
      wpAny P .any l.toArray Q f listed (putAll l v 0 a) w' := by
  simp only [allB, Bool.and_eq_true] at hB
  obtain ⟨⟨hg, hd⟩, hback⟩ := hB
  have hgn : ∀ (i : Nat) o, l[i]? = some o → o.guard = none := fun i o ho => by
    have h1 := List.all_eq_true.1 hg o (List.mem_iff_getElem?.2 ⟨i, ho⟩)
    simpa using h1
  have hback' : ∀ (i : Nat) o, l.toArray[i]? = some o → ∀ e ∈ o.after, Region.binds .any e = true → e.on < i := fun i o ho e he hbd => by
    have hi : i < l.toArray.size := (Array.getElem?_eq_some_iff.1 ho).1
    have h1 := List.all_eq_true.1 hback i (List.mem_range.2 hi)
    rw [ho] at h1
    have h2 := List.all_eq_true.1 h1 e (by simpa using he)
    rw [hbd] at h2
    simpa using h2
  intro f
  induction f with
  | zero =>
    intro listed v w' hsz hl hb hF
    have hall := left_zero hl
    refine ⟨?_, hend v w' hb fun i hi => hF i hi (getD_of_true (hall i hi) (by omega))⟩
    cases hr : Region.ready .any l.toArray listed with
    | nil => rfl
    | cons i r =>
      have hi : i ∈ Region.ready .any l.toArray listed := by rw [hr]; exact List.mem_cons_self ..
      obtain ⟨hun, o, ho, _⟩ := mem_ready.1 hi
      have hil : i < l.length := by simpa using (Array.getElem?_eq_some_iff.1 ho).1
      rw [hall i hil] at hun
      cases hun
  | succ f ih =>
    intro listed v w' hsz hl hb hF
    have hex : ∃ i, i < l.length ∧ listed.getD i true = false := Classical.byContradiction fun hc' => by
      have : left listed l.length = 0 := by
        unfold left
        rw [List.countP_eq_zero]
        intro i hi
        cases hq : listed.getD i true with
        | true => simp
        | false => exact absurd ⟨i, by simpa using hi, hq⟩ hc'
      omega
    obtain ⟨i0, hi0, hun0⟩ := hex
    refine ⟨fun hempty => absurd hempty (ready_ne2 hback' (by simpa using hsz) (by simpa using hi0) hun0), fun i hr => ?_⟩
    obtain ⟨hun, o, ho, hall⟩ := mem_ready.1 hr
    have ho' : l[i]? = some o := by simpa using ho
    have hil : i < l.length := (List.getElem?_eq_some_iff.1 ho').1
    have hset := fun x => putAll_set l v 0 a i o x hd ho'
    unfold wpOp
    simp only [ho, Region.wanted, hgn i o ho', if_true]
    refine .inl (hstep i o ho' v w' hb (fun e he hbd => hF e.on (Nat.lt_trans (hback' i o ho e he hbd) hil) (hall e he hbd)) _ fun x w'' hb2 hFx => ?_)
    rw [hset x, Nat.zero_add]
    refine ih _ _ w'' (by simpa using hsz) (by have := left_set hil hun; omega) (hb.trans (hb2.mono hb.size)) fun j hj hlj => ?_
    unfold setAt
    by_cases hji : j = i
    · subst hji; rw [if_pos rfl]; exact hFx
    · rw [if_neg hji]
      rw [getD_set_ne false (Ne.symm hji)] at hlj
      exact hst j (v j) w' w'' (hF j hj hlj) hb2
def StepF (P : Program) (Q : Exit → Act → World → Prop) (F : Nat → Value → World → Prop) (l : List Oper) (a : Act) (w : World) (i : Nat) (o : Oper) : Prop :=
  ∀ (v : Nat → Value) w', Below w.heap.size w w' → (∀ e ∈ o.after, Region.binds .any e = true → F e.on (v e.on) w') →
    ∀ K : Act → World → Prop, (∀ x w'', Below w'.heap.size w' w'' → F i x w'' → K ((putAll l v 0 a).put o.dst x) w'') → o.wp P (putAll l v 0 a) w' K Q
def StepsF (P : Program) (Q : Exit → Act → World → Prop) (F : Nat → Value → World → Prop) (l : List Oper) (a : Act) (w : World) : List Oper → Nat → Prop
  | [], _ => True
  | o :: r, k => StepF P Q F l a w k o ∧ StepsF P Q F l a w r (k + 1)
theorem stepsF_at {F : Nat → Value → World → Prop} {l : List Oper} {a : Act} {w : World} : ∀ (r : List Oper) (k : Nat), StepsF P Q F l a w r k → ∀ i o, r[i]? = some o → StepF P Q F l a w (k + i) o
  | [], _, _, i, o, h => by simp at h
  | o' :: r, k, hs, i, o, h => by
    cases i with
    | zero =>
      obtain rfl : o' = o := by simpa using h
      exact hs.1
    | succ i =>
      have := stepsF_at r (k + 1) hs.2 i o (by simpa using h)
      rwa [show k + 1 + i = k + (i + 1) by omega] at this
theorem region_allF {id : Nat} {l : List Oper} {a : Act} {w : World} (F : Nat → Value → World → Prop) (hm : P.follows .mixedOrders = true) (hB : allB l.toArray = true)
    (hst : ∀ i x w' w'', F i x w' → Below w'.heap.size w' w'' → F i x w'') (hsteps : StepsF P Q F l a w l 0)
    (hend : ∀ (v : Nat → Value) w', Below w.heap.size w w' → (∀ i, i < l.length → F i (v i) w') → Q .normal (putAll l v 0 a) w') : (Code.region id l.toArray true).wp P Q a w := by
  refine wp_region_any hm ?_
  have key := any_of_all F hB hst (fun i o ho => by
      have := stepsF_at l 0 hsteps i o ho
      rw [Nat.zero_add] at this
      exact this) hend l.length (Array.replicate l.toArray.size false) (slotsOf l a) { w with drawn := w.drawn + 1 } (by simp)
    (by
      unfold left
      have : (List.range l.length).countP (fun i => !(Array.replicate l.toArray.size false).getD i true) = (List.range l.length).length := by
        rw [List.countP_eq_length]
        intro i hi
        have hin : i < l.length := by simpa using hi
        have h1 : (Array.replicate l.toArray.size false).getD i true = false := getD_in (by simpa using hin) (getD_replicate_false _ _)
        rw [h1]; rfl
      rw [this]; simp)
    ⟨rfl, rfl, rfl, Nat.le_refl _, fun _ _ => rfl⟩ (fun i hi hl => by rw [getD_replicate_false] at hl; cases hl)
  rw [putAll_slots l a (slotsOf l a) 0 (fun j o d ho hd => by unfold slotsOf; rw [Nat.zero_add, ho]; simp only [hd])] at key
  simpa using key
/-- what an operation of such a region yields: this value, or a slice over a row of its own -/
inductive YldA where
  | val (v : Value)
  | row (t : TypeId) (cs : Array Value) (len : Nat)
def YldA.fact (W : World) : YldA → Value → World → Prop
  | .val v, x, _ => x = v
  | .row t cs len, x, w => ∃ g, x = .slice (some ⟨g, 0, none⟩) len len ∧ W.heap.size ≤ g ∧ g < w.heap.size ∧ w.heap[g]? = some (.cells cs t (0, 0))
def yldA (W : World) (ks : List YldA) (i : Nat) (x : Value) (w : World) : Prop := match ks[i]? with
  | some k => k.fact W x w
  | none => True
theorem yldA_keep {W : World} {ks : List YldA} (i : Nat) (x : Value) (w' w'' : World) (h : yldA W ks i x w') (hb : Below w'.heap.size w' w'') : yldA W ks i x w'' := by
  unfold yldA at h ⊢
  split
  · rename_i k hk
    rw [hk] at h
    cases k with
    | val v => exact h
    | row t cs len =>
      obtain ⟨g, e, h1, h2, h3⟩ := h
      exact ⟨g, e, h1, Nat.lt_of_lt_of_le h2 hb.size, (hb.block g h2).trans h3⟩
  · trivial
end
end Go.Proofs.Ytegaiphhoinilaa
namespace Go.Proofs.Ytegaiphhoinilaa
open Go Go.RowKit

section
variable {P : Program} {Q : Exit → Act → World → Prop}
theorem putAll_far (l : List Oper) (d : Tmp) : ∀ (v : Nat → Value) (k : Nat) (a : Act), (∀ o ∈ l, o.dst ≠ some d) → (putAll l v k a).tmps[d]? = a.tmps[d]? := by
  induction l with
  | nil => intro v k a _; rfl
  | cons o r ih =>
    intro v k a h
    show (putAll r v (k + 1) (a.put o.dst (v k))).tmps[d]? = _
    rw [ih _ _ _ fun o' ho' => h o' (List.mem_cons_of_mem _ ho')]
    cases hd : o.dst with
    | none => rfl
    | some d' =>
      have hne : d' ≠ d := fun e => h o (List.mem_cons_self ..) (by rw [hd, e])
      show (a.tmps.setIfInBounds d' (v k))[d]? = _
      rw [Array.getElem?_setIfInBounds_ne hne]
theorem putAll_size (l : List Oper) : ∀ (v : Nat → Value) (k : Nat) (a : Act), (putAll l v k a).tmps.size = a.tmps.size := by
  induction l with
  | nil => intro v k a; rfl
  | cons o r ih =>
    intro v k a
    show (putAll r v (k + 1) (a.put o.dst (v k))).tmps.size = _
    rw [ih]
    cases o.dst with
    | none => rfl
    | some d => show (a.tmps.setIfInBounds d (v k)).size = _; simp
theorem putAll_at (l : List Oper) : ∀ (v : Nat → Value) (k : Nat) (a : Act) (i : Nat) (o : Oper) (d : Tmp), distinctB l = true → l[i]? = some o → o.dst = some d → d < a.tmps.size → (putAll l v k a).tmps[d]? = some (v (k + i)) := by
  induction l with
  | nil => intro v k a i o d _ h; simp at h
  | cons o' r ih =>
    intro v k a i o d hd h ho hsz
    simp only [distinctB, Bool.and_eq_true] at hd
    cases i with
    | zero =>
      obtain rfl : o' = o := by simpa using h
      show (putAll r v (k + 1) (a.put o'.dst (v k))).tmps[d]? = _
      rw [putAll_far r d _ _ _ (fun o2 h2 e => by
        have h1 := hd.1
        rw [ho] at h1
        simp only [List.all_eq_true, bne_iff_ne] at h1
        exact h1 o2 h2 e), ho]
      show (a.tmps.setIfInBounds d (v k))[d]? = _
      rw [Array.getElem?_setIfInBounds_self_of_lt hsz]
      rfl
    | succ i =>
      show (putAll r v (k + 1) (a.put o'.dst (v k))).tmps[d]? = _
      have h2 : (a.put o'.dst (v k)).tmps.size = a.tmps.size := by
        cases o'.dst with
        | none => rfl
        | some d => show (a.tmps.setIfInBounds d (v k)).size = _; simp
      rw [ih v (k + 1) _ i o d hd.2 (by simpa using h) ho (by rw [h2]; exact hsz), show k + 1 + i = k + (i + 1) by omega]
/-- a test's value -/
def isB (x : Value) : Option Bool := match x with
  | .bool b => some b
  | _ => none
/-- what is asked of the region: different slots, each in the frame (of n slots); edges lead back; a guard is among the edges -/
def simB (ops : Array Oper) (n : Nat) : Bool :=
  distinctB ops.toList && (ops.toList.all fun o => match o.dst with | some d => decide (d < n) | none => true) &&
  ((List.range ops.size).all fun i => match ops[i]? with
    | some o => (o.after.toList.all fun e => !Region.binds .any e || decide (e.on < i)) && (match o.guard with
      | some (k, _) => (o.after.toList.any fun e => Region.binds .any e && e.on == k) && (match ops[k]? with | some ok => ok.dst.isSome | none => false)
      | none => true)
    | none => true)
/-- the frame A is the frame a with the values v of the operations in their slots -/
def FrameOf (l : List Oper) (a : Act) (v : Nat → Value) (A : Act) : Prop :=
  (∀ (i : Nat) o d, l[i]? = some o → o.dst = some d → A.eval (.tmp d) = v i) ∧ ∀ t, (∀ o ∈ l, o.dst ≠ some t) → A.eval (.tmp t) = a.eval (.tmp t)
/-- what an operation owes: its run, where its guard wants it; else the slot is empty -/
def SimStep (P : Program) (Q : Exit → Act → World → Prop) (F : Nat → Value → World → Prop) (G : Nat → World → Prop) (T : Nat → World → World → Prop) (l : List Oper) (a : Act) (i : Nat) (o : Oper) : Prop :=
  ∀ (v : Nat → Value) w' (A : Act), FrameOf l a v A → G i w' → (∀ e ∈ o.after, Region.binds .any e = true → F e.on (v e.on) w') → (∀ j oj, l[j]? = some oj → (∃ e ∈ oj.after, Region.binds .any e = true ∧ e.on = i) → v j = slotsOf l a j) →
    (match o.guard with
      | none => True
      | some (k, b) => isB (v k) = some b) →
    ∀ K : Act → World → Prop, (∀ x w'', T i w' w'' → F i x w'' → K (A.put o.dst x) w'') → o.wp P A w' K Q
def SimSkip (F : Nat → Value → World → Prop) (T : Nat → World → World → Prop) (i : Nat) (o : Oper) : Prop :=
  match o.guard with
  | none => True
  | some (k, b) => ∀ (v : Nat → Value) w', F k (v k) w' → isB (v k) ≠ some b → F i undef w' ∧ T i w' w'
def SimSteps (P : Program) (Q : Exit → Act → World → Prop) (F : Nat → Value → World → Prop) (G : Nat → World → Prop) (T : Nat → World → World → Prop) (l : List Oper) (a : Act) : List Oper → Nat → Prop
  | [], _ => True
  | o :: r, k => (SimStep P Q F G T l a k o ∧ SimSkip F T k o) ∧ SimSteps P Q F G T l a r (k + 1)
theorem simSteps_at {F : Nat → Value → World → Prop} {G : Nat → World → Prop} {T : Nat → World → World → Prop} {l : List Oper} {a : Act} : ∀ (r : List Oper) (k : Nat), SimSteps P Q F G T l a r k → ∀ i o, r[i]? = some o → SimStep P Q F G T l a (k + i) o ∧ SimSkip F T (k + i) o
  | [], _, _, i, o, h => by simp at h
  | o' :: r, k, hs, i, o, h => by
    cases i with
    | zero =>
      obtain rfl : o' = o := by simpa using h
      exact hs.1
    | succ i =>
      have := simSteps_at r (k + 1) hs.2 i o (by simpa using h)
      rwa [show k + 1 + i = k + (i + 1) by omega] at this
theorem eval_tmp (A : Act) (d : Tmp) (x : Value) (h : A.tmps[d]? = some x) : A.eval (.tmp d) = x := by
  show A.tmps.getD d undef = x
  rw [Array.getD_eq_getD_getElem?, h]
  rfl
theorem frameOf_putAll {l : List Oper} {a : Act} {v : Nat → Value} (hd : distinctB l = true) (hin : ∀ (i : Nat) o d, l[i]? = some o → o.dst = some d → d < a.tmps.size) : FrameOf l a v (putAll l v 0 a) := by
  refine ⟨fun i o d ho hdst => ?_, fun t ht => ?_⟩
  · have := putAll_at l v 0 a i o d hd ho hdst (hin i o d ho hdst)
    rw [Nat.zero_add] at this
    exact eval_tmp _ _ _ this
  · show (putAll l v 0 a).tmps.getD t undef = a.tmps.getD t undef
    rw [Array.getD_eq_getD_getElem?, Array.getD_eq_getD_getElem?, putAll_far l t v 0 a ht]
theorem any_of_sim {l : List Oper} {a : Act} (F : Nat → Value → World → Prop) (G : Nat → World → Prop) (T : Nat → World → World → Prop) (n : Nat) (hn : a.tmps.size = n) (hB : simB l.toArray n = true)
    (hsteps : SimSteps P Q F G T l a l 0)
    (hF : ∀ i j, i < l.length → j < l.length → i ≠ j → Region.waitsFor .any l.toArray i j = false → ∀ x w' w'', F i x w' → T j w' w'' → F i x w'')
    (hG : ∀ i j, i < l.length → j < l.length → i ≠ j → Region.waitsFor .any l.toArray j i = false → ∀ w' w'', G i w' → T j w' w'' → G i w'')
    (hend : ∀ (v : Nat → Value) w', (∀ i, i < l.length → F i (v i) w') → Q .normal (putAll l v 0 a) w') :
    ∀ (f : Nat) (listed : Array Bool) (v : Nat → Value) (w' : World), listed.size = l.length → left listed l.length = f →
      (∀ i, i < l.length → listed.getD i false = true → F i (v i) w') → (∀ i, i < l.length → listed.getD i true = false → G i w' ∧ v i = slotsOf l a i) →
      (∀ i o, l[i]? = some o → listed.getD i false = true → ∀ e ∈ o.after, Region.binds .any e = true → listed.getD e.on false = true) →
      wpAny P .any l.toArray Q f listed (putAll l v 0 a) w' := by
  simp only [simB, Bool.and_eq_true] at hB
  obtain ⟨⟨hd, hdn⟩, hall0⟩ := hB
  have hd' : distinctB l = true := by simpa using hd
  have hin : ∀ (i : Nat) o d, l[i]? = some o → o.dst = some d → d < a.tmps.size := fun i o d ho hdst => by
    have h1 := List.all_eq_true.1 hdn o (List.mem_iff_getElem?.2 ⟨i, ho⟩)
    rw [hdst] at h1
    rw [hn]
    simpa using h1
  have hone : ∀ (i : Nat) o, l[i]? = some o → (∀ e ∈ o.after, Region.binds .any e = true → e.on < i) ∧ (∀ k b, o.guard = some (k, b) → (∃ e ∈ o.after, Region.binds .any e = true ∧ e.on = k) ∧ ∃ ok d, l[k]? = some ok ∧ ok.dst = some d) := fun i o ho => by
    have hi : i < l.length := (List.getElem?_eq_some_iff.1 ho).1
    have h1 := List.all_eq_true.1 hall0 i (List.mem_range.2 (by simpa using hi))
    rw [List.getElem?_toArray, ho] at h1
    simp only [Bool.and_eq_true] at h1
    refine ⟨fun e he hbd => ?_, fun k b hg => ?_⟩
    · have h2 := List.all_eq_true.1 h1.1 e (by simpa using he)
      rw [hbd] at h2
      simpa using h2
    · have h3 := h1.2
      rw [hg] at h3
      simp only [Bool.and_eq_true] at h3
      obtain ⟨e, he, h4⟩ := List.any_eq_true.1 h3.1
      simp only [Bool.and_eq_true, beq_iff_eq] at h4
      refine ⟨⟨e, by simpa using he, h4.1, h4.2⟩, ?_⟩
      have h5 := h3.2
      rw [List.getElem?_toArray] at h5
      cases hk : l[k]? with
      | none => rw [hk] at h5; cases h5
      | some ok =>
        rw [hk] at h5
        obtain ⟨d, hdd⟩ := Option.isSome_iff_exists.1 h5
        exact ⟨ok, d, rfl, hdd⟩
  have hback' : ∀ (i : Nat) o, l.toArray[i]? = some o → ∀ e ∈ o.after, Region.binds .any e = true → e.on < i := fun i o ho => (hone i o (by simpa using ho)).1
  intro f
  induction f with
  | zero =>
    intro listed v w' hsz hl hF' hG' hcl
    have hall := left_zero hl
    refine ⟨?_, hend v w' fun i hi => hF' i hi (getD_of_true (hall i hi) (by omega))⟩
    cases hr : Region.ready .any l.toArray listed with
    | nil => rfl
    | cons i r =>
      have hi : i ∈ Region.ready .any l.toArray listed := by rw [hr]; exact List.mem_cons_self ..
      obtain ⟨hun, o, ho, _⟩ := mem_ready.1 hi
      have hil : i < l.length := by simpa using (Array.getElem?_eq_some_iff.1 ho).1
      rw [hall i hil] at hun
      cases hun
  | succ f ih =>
    intro listed v w' hsz hl hF' hG' hcl
    have hex : ∃ i, i < l.length ∧ listed.getD i true = false := Classical.byContradiction fun hc' => by
      have : left listed l.length = 0 := by
        unfold left
        rw [List.countP_eq_zero]
        intro i hi
        cases hq : listed.getD i true with
        | true => simp
        | false => exact absurd ⟨i, by simpa using hi, hq⟩ hc'
      omega
    obtain ⟨i0, hi0, hun0⟩ := hex
    refine ⟨fun hempty => absurd hempty (ready_ne2 hback' (by simpa using hsz) (by simpa using hi0) hun0), fun i hr => ?_⟩
    obtain ⟨hun, o, ho, hall⟩ := mem_ready.1 hr
    have ho' : l[i]? = some o := by simpa using ho
    have hil : i < l.length := (List.getElem?_eq_some_iff.1 ho').1
    have hset := fun x => putAll_set l v 0 a i o x hd' ho'
    obtain ⟨hstep, hskip⟩ := simSteps_at l 0 hsteps i o ho'
    rw [Nat.zero_add] at hstep hskip
    have hafter : ∀ e ∈ o.after, Region.binds .any e = true → F e.on (v e.on) w' := fun e he hbd => hF' e.on (Nat.lt_trans (hback' i o ho e he hbd) hil) (hall e he hbd)
    have hlate : ∀ j oj, l[j]? = some oj → (∃ e ∈ oj.after, Region.binds .any e = true ∧ e.on = i) → v j = slotsOf l a j := fun j oj hj ⟨e, he, hbd, hon⟩ => by
      have hjl : j < l.length := (List.getElem?_eq_some_iff.1 hj).1
      refine (hG' j hjl ?_).2
      cases hq : listed.getD j true with
      | false => rfl
      | true =>
        have h1 := hcl j oj hj (getD_of_true hq (by omega)) e he hbd
        rw [hon, getD_both hun] at h1
        cases h1
    have hnext : ∀ x w'', T i w' w'' → F i x w'' → wpAny P .any l.toArray Q f (listed.setIfInBounds i true) ((putAll l v 0 a).put o.dst x) w'' := fun x w'' hT hFx => by
      rw [hset x, Nat.zero_add]
      have hw1 : ∀ j, j < l.length → j ≠ i → listed.getD j false = true → Region.waitsFor .any l.toArray j i = false := fun j hj hji hlj => by
        cases hq : Region.waitsFor .any l.toArray j i with
        | false => rfl
        | true =>
          obtain ⟨oj, hoj, e, he, hbd, hon⟩ := Region.waitsFor_spec hq
          have h1 := hcl j oj (by simpa using hoj) hlj e he hbd
          rw [hon, getD_both hun] at h1
          cases h1
      have hw2 : ∀ j, j < l.length → listed.getD j true = false → Region.waitsFor .any l.toArray i j = false := fun j hj hlj => by
        cases hq : Region.waitsFor .any l.toArray i j with
        | false => rfl
        | true =>
          obtain ⟨oi, hoi, e, he, hbd, hon⟩ := Region.waitsFor_spec hq
          obtain rfl : oi = o := Option.some.inj (hoi.symm.trans ho)
          have h1 := hall e he hbd
          rw [hon, getD_both hlj] at h1
          cases h1
      refine ih _ _ w'' (by simpa using hsz) (by have := left_set hil hun; omega) (fun j hj hlj => ?_) (fun j hj hlj => ?_) fun j oj hoj hlj e he hbd => ?_
      · unfold setAt
        by_cases hji : j = i
        · subst hji; rw [if_pos rfl]; exact hFx
        · rw [if_neg hji]
          rw [getD_set_ne false (Ne.symm hji)] at hlj
          exact hF j i hj hil hji (hw1 j hj hji hlj) (v j) w' w'' (hF' j hj hlj) hT
      · by_cases hji : j = i
        · subst hji
          have : (listed.setIfInBounds j true).getD j true = true := by
            have hlt : j < listed.size := by omega
            simp [hlt]
          rw [this] at hlj
          cases hlj
        · rw [getD_set_ne true (Ne.symm hji)] at hlj
          obtain ⟨h1, h2⟩ := hG' j hj hlj
          refine ⟨hG j i hj hil hji (hw2 j hj hlj) w' w'' h1 hT, ?_⟩
          unfold setAt
          rw [if_neg hji]
          exact h2
      · by_cases hei : e.on = i
        · have hlt : i < listed.size := by omega
          rw [hei]
          simp [hlt]
        · rw [getD_set_ne false (Ne.symm hei)]
          by_cases hji : j = i
          · subst hji
            obtain rfl : oj = o := Option.some.inj (hoj.symm.trans ho')
            exact hall e he hbd
          · rw [getD_set_ne false (Ne.symm hji)] at hlj
            exact hcl j oj hoj hlj e he hbd
    unfold wpOp
    simp only [ho]
    cases hgd : o.guard with
    | none =>
      simp only [Region.wanted, hgd, if_true]
      exact .inl (hstep v w' _ (frameOf_putAll hd' hin) (hG' i hil hun).1 hafter hlate (by rw [hgd]; trivial) _ hnext)
    | some kb =>
      obtain ⟨k, b⟩ := kb
      obtain ⟨⟨e, he, hbd, hon⟩, ok, d, hok, hkd⟩ := (hone i o ho').2 k b hgd
      have hFk := hafter e he hbd
      rw [hon] at hFk
      have hy : yielded l.toArray (putAll l v 0 a).tmps k = isB (v k) := by
        unfold yielded
        rw [List.getElem?_toArray, hok]
        show (match (ok.dst).bind ((putAll l v 0 a).tmps[·]?) with | some (.bool b) => some b | _ => none) = _
        rw [hkd]
        show (match (putAll l v 0 a).tmps[d]? with | some (.bool b) => some b | _ => none) = _
        rw [putAll_at l v 0 a k ok d hd' hok hkd (hin k ok d hok hkd), Nat.zero_add]
        cases v k <;> rfl
      simp only [Region.wanted, hgd, hy]
      by_cases hb : isB (v k) = some b
      · rw [if_pos (by rw [hb]; exact beq_self_eq_true _)]
        exact .inl (hstep v w' _ (frameOf_putAll hd' hin) (hG' i hil hun).1 hafter hlate (by rw [hgd]; exact hb) _ hnext)
      · rw [if_neg (by rw [beq_iff_eq]; exact hb)]
        unfold SimSkip at hskip
        rw [hgd] at hskip
        obtain ⟨h1, h2⟩ := hskip v w' hFk hb
        exact hnext _ _ h2 h1
theorem region_sim {id : Nat} {l : List Oper} {a : Act} {w : World} (F : Nat → Value → World → Prop) (G : Nat → World → Prop) (T : Nat → World → World → Prop) (n : Nat) (hm : P.follows .mixedOrders = true) (hn : a.tmps.size = n) (hB : simB l.toArray n = true)
    (h0 : ∀ w', Below w.heap.size w w' → w'.heap = w.heap → ∀ i, i < l.length → G i w')
    (hsteps : SimSteps P Q F G T l a l 0)
    (hF : ∀ i j, i < l.length → j < l.length → i ≠ j → Region.waitsFor .any l.toArray i j = false → ∀ x w' w'', F i x w' → T j w' w'' → F i x w'')
    (hG : ∀ i j, i < l.length → j < l.length → i ≠ j → Region.waitsFor .any l.toArray j i = false → ∀ w' w'', G i w' → T j w' w'' → G i w'')
    (hend : ∀ (v : Nat → Value) w', (∀ i, i < l.length → F i (v i) w') → Q .normal (putAll l v 0 a) w') : (Code.region id l.toArray true).wp P Q a w := by
  refine wp_region_any hm ?_
  have key := any_of_sim F G T n hn hB hsteps hF hG hend l.length (Array.replicate l.toArray.size false) (slotsOf l a) { w with drawn := w.drawn + 1 } (by simp)
    (by
      unfold left
      have : (List.range l.length).countP (fun i => !(Array.replicate l.toArray.size false).getD i true) = (List.range l.length).length := by
        rw [List.countP_eq_length]
        intro i hi
        have hin : i < l.length := by simpa using hi
        have h1 : (Array.replicate l.toArray.size false).getD i true = false := getD_in (by simpa using hin) (getD_replicate_false _ _)
        rw [h1]; rfl
      rw [this]; simp)
    (fun i hi hl => by rw [getD_replicate_false] at hl; cases hl)
    (fun i hi _ => ⟨h0 { w with drawn := w.drawn + 1 } ⟨rfl, rfl, rfl, Nat.le_refl _, fun _ _ => rfl⟩ rfl i hi, rfl⟩)
    (fun i o ho hl => by rw [getD_replicate_false] at hl; cases hl)
  rw [putAll_slots l a (slotsOf l a) 0 (fun j o d ho hd => by unfold slotsOf; rw [Nat.zero_add, ho]; simp only [hd])] at key
  simpa using key
/-- an operation that leaves the world as it is -/
theorem pure_step {o : Oper} {A : Act} {w' : World} {K : Act → World → Prop} (x : Value) (h : ∀ ρ : Operand → Value, ρ = A.eval → (execOp ρ o).run P w' = .ok (.value x) w') (hK : K (A.put o.dst x) w') : o.wp P A w' K Q := by
  unfold Oper.wp
  rw [h A.eval rfl]
  exact hK
theorem new_step {o : Oper} {A : Act} {w' w'' : World} {K : Act → World → Prop} (x : Value) (h : ∀ ρ : Operand → Value, ρ = A.eval → (execOp ρ o).run P w' = .ok (.value x) w'') (hK : K (A.put o.dst x) w'') : o.wp P A w' K Q := by
  unfold Oper.wp
  rw [h A.eval rfl]
  exact hK
theorem call_step {o : Oper} {A : Act} {w' : World} {K : Act → World → Prop} (fn : FuncId) (args : Array Value) (h : ∀ ρ : Operand → Value, ρ = A.eval → (execOp ρ o).run P w' = .ok (.enter fn args) w')
    (hc : Calls P fn args w' fun e w'' => ∃ x, e = .returned x ∧ K (A.put o.dst x) w'') : o.wp P A w' K Q := wp_call_fn fn args (h A.eval rfl) hc

def factL (vals : List Value) (fs : List (Nat × (Value → World → Prop))) (I : World → Prop) (i : Nat) (x : Value) (w : World) : Prop := (match fs.lookup i with
  | some p => p x w
  | none => x = vals.getD i undef) ∧ I w
def needL (gs : List (Nat × (World → Prop))) (I : World → Prop) (i : Nat) (w : World) : Prop := (match gs.lookup i with
  | some g => g w
  | none => True) ∧ I w
def doesL (es : List (Nat × (World → World → Prop))) (i : Nat) (w w' : World) : Prop := match es.lookup i with
  | some t => t w w'
  | none => w' = w
theorem lookup_mem {α : Type} {i : Nat} {p : α} : ∀ {l : List (Nat × α)}, l.lookup i = some p → (i, p) ∈ l
  | [], h => by simp at h
  | (j, q) :: l, h => by
    rw [List.lookup_cons] at h
    by_cases hj : (i == j) = true
    · rw [hj] at h
      have h1 : q = p := by simpa using h
      have h2 : i = j := by simpa using hj
      rw [h1, h2]
      exact List.mem_cons_self ..
    · have hj' : (i == j) = false := by simpa using hj
      rw [hj'] at h
      exact List.mem_cons_of_mem _ (lookup_mem h)
/-- the region, by lists: the values of the operations that have one; facts (fs) of the others; what operations need of the world (gs); what operations do to the world (es); I: what holds of the world all along -/
theorem region_simL {id : Nat} {l : List Oper} {a : Act} {w : World} (vals : List Value) (fs : List (Nat × (Value → World → Prop))) (gs : List (Nat × (World → Prop))) (es : List (Nat × (World → World → Prop))) (I : World → Prop) (n : Nat) (hm : P.follows .mixedOrders = true) (hn : a.tmps.size = n) (hB : simB l.toArray n = true)
    (h0 : ∀ w', Below w.heap.size w w' → w'.heap = w.heap → I w' ∧ ∀ y ∈ gs, y.2 w')
    (hI : ∀ z ∈ es, ∀ w' w'', I w' → z.2 w' w'' → I w'')
    (hF : ∀ y ∈ fs, ∀ z ∈ es, y.1 ≠ z.1 → Region.waitsFor .any l.toArray y.1 z.1 = false → ∀ x w' w'', I w' → y.2 x w' → z.2 w' w'' → y.2 x w'')
    (hG : ∀ y ∈ gs, ∀ z ∈ es, y.1 ≠ z.1 → Region.waitsFor .any l.toArray z.1 y.1 = false → ∀ w' w'', I w' → y.2 w' → z.2 w' w'' → y.2 w'')
    (hsteps : SimSteps P Q (factL vals fs I) (needL gs I) (doesL es) l a l 0)
    (hl : 0 < l.length)
    (hend : ∀ (v : Nat → Value) w', I w' → (∀ i, i < l.length → factL vals fs (fun _ => True) i (v i) w') → Q .normal (putAll l v 0 a) w') : (Code.region id l.toArray true).wp P Q a w := by
  refine region_sim (factL vals fs I) (needL gs I) (doesL es) n hm hn hB (fun w' hb he i hi => ?_) hsteps (fun i j hi hj hij hw x w' w'' h ht => ?_) (fun i j hi hj hij hw w' w'' h ht => ?_) fun v w' h => hend v w' (h 0 hl).2 fun i hi => ⟨(h i hi).1, trivial⟩
  · obtain ⟨h1, h2⟩ := h0 w' hb he
    refine ⟨?_, h1⟩
    split
    · rename_i g hg
      exact h2 _ (lookup_mem hg)
    · trivial
  · obtain ⟨h1, h2⟩ := h
    unfold doesL at ht
    split at ht
    · rename_i t ht'
      refine ⟨?_, hI _ (lookup_mem ht') w' w'' h2 ht⟩
      split
      · rename_i p hp
        rw [hp] at h1
        exact hF _ (lookup_mem hp) _ (lookup_mem ht') hij hw x w' w'' h2 h1 ht
      · rename_i hp
        rw [hp] at h1
        exact h1
    · subst ht
      exact ⟨h1, h2⟩
  · obtain ⟨h1, h2⟩ := h
    unfold doesL at ht
    split at ht
    · rename_i t ht'
      refine ⟨?_, hI _ (lookup_mem ht') w' w'' h2 ht⟩
      split
      · rename_i p hp
        rw [hp] at h1
        exact hG _ (lookup_mem hp) _ (lookup_mem ht') hij hw w' w'' h2 h1 ht
      · trivial
    · subst ht
      exact ⟨h1, h2⟩
end
end Go.Proofs.Ytegaiphhoinilaa
namespace Go.Proofs.Ytegaiphhoinilaa
open Go Go.RowKit

theorem curB_bad (A : Option Addr) (n c : Nat) (bad : Bool) : (curB A n c bad).setIfInBounds 1 (.bool true) = curB A n c true := rfl
theorem curB_rest (A A' : Option Addr) (n c n' c' : Nat) (bad : Bool) : (curB A n c bad).setIfInBounds 0 (.slice A' n' c') = curB A' n' c' bad := rfl
set_option maxRecDepth 100000 in
set_option maxHeartbeats 1000000 in
theorem ptake_bad (A : Option Addr) (n c : Nat) (k : Int) (g : Nat) (w : World) (hG : Has w g 104 (curB A n c true)) :
    Calls Try.prog 64 #[curAt g, .int .i64 k] w fun e w' => e = .returned (.slice none 0 0) ∧ w = w' := by
  go_enter Try.func64, Try.ntmps64
  go_wp2_with (refine (pbad_any A n c true g _ hG).mono ?_; rintro e w' ⟨rfl, rfl⟩)
  go_ret
  exact ⟨rfl, rfl⟩
set_option maxRecDepth 100000 in
set_option maxHeartbeats 1000000 in
theorem ptake_nil (k : Int) (w : World) :
    Calls Try.prog 64 #[.pointer none, .int .i64 k] w fun e w' => e = .returned (.slice none 0 0) ∧ w = w' := by
  go_enter Try.func64, Try.ntmps64
  go_wp2_with (refine (pbad_nil _).mono ?_; rintro e w' ⟨rfl, rfl⟩)
  go_ret
  exact ⟨rfl, rfl⟩
set_option maxRecDepth 100000 in
set_option maxHeartbeats 1000000 in
theorem ptake_far (A : Option Addr) (n c : Nat) (k : Int) (g : Nat) (w : World) (hG : Has w g 104 (curB A n c false)) (hk : k < 0 ∨ (n : Int) < k) :
    Calls Try.prog 64 #[curAt g, .int .i64 k] w fun e w' => e = .returned (.slice none 0 0) ∧ Has w' g 104 (curB A n c true) ∧ w.grownBy w' (some g) ∧ w'.heap.size = w.heap.size := by
  have hc0 : w.cell? ⟨g, 0, none⟩ = some (.slice A n c) := hG.cell 0
  have hc1 : w.cell? ⟨g, 1, none⟩ = some (.bool false) := hG.cell 1
  have hf1 := hG.free 1
  have hG2 := hG.set 1 (.bool true)
  rw [curB_bad] at hG2
  have hg2 := only_setCell w g 1 (.bool true)
  have kB := pbad_any A n c false g w hG
  by_cases hk0 : k < 0
  · clear hk
    go_enter Try.func64, Try.ntmps64
    go_wp2_with (refine kB.mono ?_; rintro e w' ⟨rfl, rfl⟩)
    go_ret
    exact ⟨rfl, hG2, hg2, by simp [World.setCell]⟩
  · have hk1 : (n : Int) < k := by omega
    clear hk
    go_enter Try.func64, Try.ntmps64
    go_wp2_with (refine kB.mono ?_; rintro e w' ⟨rfl, rfl⟩)
    go_ret
    exact ⟨rfl, hG2, hg2, by simp [World.setCell]⟩
/-- what x[k:] has for an address -/
def offA (A : Option Addr) (c k : Nat) : Option Addr := if k = c then A else A.map (·.add k)
theorem run_front (A : Option Addr) (n c : Nat) (k : Nat) (hk : k ≤ c) (W : World) : (Instr.sliceAt 70 (.slice A n c) none (some (.int .i64 (k : Int))) (some (.int .i64 (k : Int)))).run Try.prog W = .ok (.slice A k k) W := by
  have h1 : (k : Int) ≤ (c : Int) := by omega
  cases A with
  | none => go_simp
  | some ad => go_simp
theorem run_tail (A : Option Addr) (n c : Nat) (k : Nat) (hk : k ≤ n) (W : World) : (Instr.sliceAt 70 (.slice A n c) (some (.int .i64 (k : Int))) none none).run Try.prog W = .ok (.slice (offA A c k) (n - k) (c - k)) W := by
  have h1 : (k : Int) ≤ (n : Int) := by omega
  unfold offA
  by_cases hkc : k = c
  · subst hkc
    cases A with
    | none => go_simp
    | some ad => go_simp
  · rw [if_neg hkc]
    cases A with
    | none => go_simp
    | some ad =>
      go_simp
      exact fun h => absurd h.symm hkc
set_option maxRecDepth 100000 in
set_option maxHeartbeats 1000000 in
theorem ptake_ok (A : Option Addr) (n c : Nat) (k : Nat) (g : Nat) (w : World) (hG : Has w g 104 (curB A n c false)) (hk : k ≤ n) (hn : n ≤ c) :
    Calls Try.prog 64 #[curAt g, .int .i64 (k : Int)] w fun e w' => e = .returned (.slice A k k) ∧ Has w' g 104 (curB (offA A c k) (n - k) (c - k) false) ∧ w.grownBy w' (some g) ∧ w'.heap.size = w.heap.size := by
  have hc0 : w.cell? ⟨g, 0, none⟩ = some (.slice A n c) := hG.cell 0
  have hf0 := hG.free 0
  have hG2 := hG.set 0 (.slice (offA A c k) (n - k) (c - k))
  rw [curB_rest] at hG2
  have hg2 := only_setCell w g 0 (.slice (offA A c k) (n - k) (c - k))
  have kB := pbad_any A n c false g w hG
  have r1 := fun W => run_front A n c k (by omega) W
  have r2 := fun W => run_tail A n c k hk W
  have hk1 : (k : Int) ≤ (n : Int) := by omega
  go_enter Try.func64, Try.ntmps64
  go_wp2_with (refine kB.mono ?_; rintro e w' ⟨rfl, rfl⟩)
  go_ret
  exact ⟨rfl, hG2, hg2, by simp [World.setCell]⟩
end Go.Proofs.Ytegaiphhoinilaa
namespace Go.Proofs.Ytegaiphhoinilaa
open Go Go.RowKit

theorem leT_snoc (f : Nat → Nat) : ∀ m j, leT f (m + 1) j = leT f m j + f (j + m) * 256 ^ m
  | 0, j => by simp [leT]
  | m + 1, j => by
    show f j + 256 * leT f (m + 1) (j + 1) = f j + 256 * leT f m (j + 1) + f (j + (m + 1)) * 256 ^ (m + 1)
    rw [leT_snoc f m (j + 1), Nat.pow_succ, show j + 1 + m = j + (m + 1) by omega, Nat.mul_add]
    have : f (j + (m + 1)) * (256 ^ m * 256) = 256 * (f (j + (m + 1)) * 256 ^ m) := by rw [Nat.mul_comm (256 ^ m), Nat.mul_left_comm]
    omega
/-- a byte is put above the bytes that were read -/
theorem or_above (x d i : Nat) (hi : i < 4) (hx : x < 256 ^ i) (hd : d < 256) : bits .or .u32 (x : Int) (IntKind.u32.wrap ((d : Int) * 2 ^ (8 * i))) = ((x + d * 256 ^ i : Nat) : Int) := by
  have h256 : (256 : Nat) ^ i = 2 ^ (8 * i) := by rw [Nat.pow_mul]
  have hm : d * 256 ^ i < 4294967296 := by
    have : 256 ^ i ≤ 256 ^ 3 := Nat.pow_le_pow_right (by omega) (by omega)
    calc d * 256 ^ i ≤ 255 * 256 ^ 3 := Nat.mul_le_mul (by omega) this
      _ < 4294967296 := by decide
  have e : ((d : Int) * 2 ^ (8 * i)) = ((d * 256 ^ i : Nat) : Int) := by rw [h256]; push_cast; rfl
  have hx2 : x < 4294967296 := by
    have : 256 ^ i ≤ 256 ^ 3 := Nat.pow_le_pow_right (by omega) (by omega)
    omega
  rw [e, IntKind.wrap_u32', Int.emod_eq_of_lt (by omega) (by omega), u32_or_nat x _ hx2 hm, Nat.or_comm, nat_join (8 * i) _ _ (by rw [h256]; exact Nat.mul_mod_left _ _) (by rw [← h256]; exact hx), Nat.add_comm]
set_option maxRecDepth 100000 in
set_option maxHeartbeats 1000000 in
theorem pint_no (k : Nat) (g : Value) (w : World) (Q : World → Prop) (kT : Calls Try.prog 64 #[g, .int .i64 (k : Int)] w fun e w' => e = .returned (.slice none 0 0) ∧ Q w') :
    Calls Try.prog 50 #[g, .int .i64 (k : Int)] w fun e w' => e = .returned (.int .u32 0) ∧ Q w' := by
  go_enter Try.func50, Try.ntmps50
  go_wp2_with fail
  refine kT.mono ?_
  rintro e u ⟨rfl, hQ⟩
  clear kT
  go_wp2_with fail
  go_loopw [5, 12] (fun x ct wr => x = .int .u32 0 ∧ ct = .int .i64 0 ∧ wr = u) (fun _ _ _ => 0)
  case atStart => exact ⟨rfl, rfl, rfl⟩
  case round =>
    obtain ⟨rfl, rfl, rfl⟩ := hrel
    go_wp2_with fail
    go_ret
    exact ⟨rfl, hQ⟩
set_option maxRecDepth 100000 in
set_option maxHeartbeats 2000000 in
theorem pint_ok (bs : List UInt8) (k p : Nat) (g : Value) (w : World) (Q : World → Prop) (hk4 : k ≤ 4)
    (kT : Calls Try.prog 64 #[g, .int .i64 (k : Int)] w fun e w' => ∃ b o, e = .returned (.slice (some ⟨b, o, none⟩) k k) ∧ (∀ j, j < k → w'.cell? ⟨b, o + j, none⟩ = some (by8 (bs.getD (p + j) 0))) ∧ Q w') :
    Calls Try.prog 50 #[g, .int .i64 (k : Int)] w fun e w' => e = .returned (.int .u32 ((leT (bsN bs) k p : Nat) : Int)) ∧ Q w' := by
  have hx := fun m j => leT_lt (bsN_lt bs) m j
  go_enter Try.func50, Try.ntmps50
  go_wp2_with fail
  refine kT.mono ?_
  rintro e u ⟨b, o, rfl, hcu, hQ⟩
  have HC := Lib.hid hcu
  have HX := Lib.hid hx
  clear kT hcu hx
  go_wp2_with fail
  go_loopw [5, 12] (fun x ct wr => ∃ i : Nat, i ≤ k ∧ x = .int .u32 ((leT (bsN bs) i p : Nat) : Int) ∧ ct = .int .i64 (i : Int) ∧ wr = u) (fun _ ct _ => (k - (intOf ct)).toNat)
  case atStart => exact ⟨0, Nat.zero_le _, rfl, rfl, rfl⟩
  case round =>
    obtain ⟨i, hi, rfl, rfl, rfl⟩ := hrel
    by_cases hlt : i < k
    · have hc0 := HC.out i hlt
      have e1 := leT_snoc (bsN bs) i p
      have hx1 := HX.out i p
      have hb8 : by8 (bs.getD (p + i) 0) = .int .u8 ((bsN bs (p + i) : Nat) : Int) := rfl
      have hbl := bsN_lt bs (p + i)
      rw [hb8] at hc0
      generalize leT (bsN bs) i p = x0 at *
      generalize bsN bs (p + i) = d0 at *
      have hw := or_above x0 d0 i (by omega) hx1 hbl
      have h8 : (8 * (i : Int)).toNat = 8 * i := by omega
      have hm8 : min (8 * i) 32 = 8 * i := by omega
      have HR := Lib.hid e1
      have HW := Lib.hid hw
      have di : (i : Int) < (k : Int) := by omega
      clear e1 hx1 hb8 hw
      go_wp2_with fail
      go_roundw
      case rel =>
        refine ⟨i + 1, by omega, ?_, by go_num, trivial⟩
        rw [HR.out, ← HW.out, IntKind.wrap_u32']
      case measure => simp [intOf] <;> omega
    · obtain rfl : i = k := by omega
      go_wp2_with fail
      go_ret
      exact ⟨rfl, hQ⟩

set_option maxRecDepth 100000 in
set_option maxHeartbeats 1000000 in
theorem pu8_of (x : Nat) (hx : x < 4294967296) (g : Value) (w : World) (Q : World → Prop) (kI : Calls Try.prog 50 #[g, .int .i64 ((1 : Nat) : Int)] w fun e w' => e = .returned (.int .u32 (x : Int)) ∧ Q w') :
    Calls Try.prog 34 #[g] w fun e w' => e = .returned (.int .i64 (x : Int)) ∧ Q w' := by
  replace kI : Calls Try.prog 50 #[g, .int .i64 1] w fun e w' => e = .returned (.int .u32 (x : Int)) ∧ Q w' := kI
  go_enter Try.func34, Try.ntmps34
  go_wp2_with fail
  refine kI.mono ?_
  rintro e u ⟨rfl, hQ⟩
  clear kI
  go_wp2_with fail
  go_ret
  exact ⟨rfl, hQ⟩
set_option maxRecDepth 100000 in
set_option maxHeartbeats 1000000 in
theorem pu16_of (x : Nat) (hx : x < 4294967296) (g : Value) (w : World) (Q : World → Prop) (kI : Calls Try.prog 50 #[g, .int .i64 ((2 : Nat) : Int)] w fun e w' => e = .returned (.int .u32 (x : Int)) ∧ Q w') :
    Calls Try.prog 35 #[g] w fun e w' => e = .returned (.int .i64 (x : Int)) ∧ Q w' := by
  replace kI : Calls Try.prog 50 #[g, .int .i64 2] w fun e w' => e = .returned (.int .u32 (x : Int)) ∧ Q w' := kI
  go_enter Try.func35, Try.ntmps35
  go_wp2_with fail
  refine kI.mono ?_
  rintro e u ⟨rfl, hQ⟩
  clear kI
  go_wp2_with fail
  go_ret
  exact ⟨rfl, hQ⟩
set_option maxRecDepth 100000 in
set_option maxHeartbeats 1000000 in
theorem pu32_of (x : Nat) (g : Value) (w : World) (Q : World → Prop) (kI : Calls Try.prog 50 #[g, .int .i64 ((4 : Nat) : Int)] w fun e w' => e = .returned (.int .u32 (x : Int)) ∧ Q w') :
    Calls Try.prog 36 #[g] w fun e w' => e = .returned (.int .u32 (x : Int)) ∧ Q w' := by
  replace kI : Calls Try.prog 50 #[g, .int .i64 4] w fun e w' => e = .returned (.int .u32 (x : Int)) ∧ Q w' := kI
  go_enter Try.func36, Try.ntmps36
  go_wp2_with fail
  refine kI.mono ?_
  rintro e u ⟨rfl, hQ⟩
  clear kI
  go_wp2_with fail
  go_ret
  exact ⟨rfl, hQ⟩
/-- append(s, x...), s without spare room, x not empty: a row of the call's own -/
theorem wp_append_full {w : World} {ops : Array Oper} {rest : List Oper} {op : Oper} {a : Act} {Q : Exit → Act → World → Prop} (hgd : op.guard = none) (s x : Operand)
    (ho : op.op = .call { callee := .builtin .append, args := #[s, x], argTypes := #[70, 70] }) (A : Option Addr) (n : Nat) (bs : List UInt8) (hs : a.eval s = .slice A n n) (hS : SlA w A n n bs) (hA : A = none → n = 0)
    (X : Option Addr) (m c : Nat) (cs : List UInt8) (hx : a.eval x = .slice X m c) (hX : SlA w X m c cs) (hm : 0 < m) (h63 : n + m ≤ 2000000)
    (h : ∀ v' w', w'.ownsRow w.heap.size 5 1 v' (n + m) ((bs ++ cs).map by8) → w.grownBy w' none → wpList Try.prog ops Q rest (a.put op.dst v') w') : wpList Try.prog ops Q (op :: rest) a w := by
  obtain ⟨i5, hi5, hz5, hs5, hb5⟩ := info_parts info5
  obtain ⟨b, o, rfl, _, hcell⟩ := hX.2.2 hm
  have hlc : cs.length = m := hX.1
  have hlb : bs.length = n := hS.1
  refine wpList_append_grows w hgd s x 70 ho 5 i5 (.int .u8 0) 1 1 Try.underlying70 hi5 hz5 hs5 hb5 rfl (by decide) A n n (bs.map by8) hs (fun h => ⟨hA h, hA h⟩) (by simp [hlb]) (fun ad had j u hj => ?_) ⟨b, o, none⟩ m c (cs.map by8) hx (by simp [hlc]) (fun j u hj => ?_) (fun u hu => ?_) (by omega) (by simp only [maxLen]; omega) (by omega) ?_
  · have hjn : j < n := by have := (List.getElem?_eq_some_iff.1 hj).1; simpa [hlb] using this
    obtain ⟨b', o', e, _, hc'⟩ := hS.2.2 (by omega)
    obtain rfl : ad = ⟨b', o', none⟩ := Option.some.inj (had.symm.trans e)
    rw [Addr.add_mid, hc' j hjn, ← hj]
    simp [List.getD_eq_getElem?_getD, show j < bs.length by omega]
  · have hjm : j < m := by have := (List.getElem?_eq_some_iff.1 hj).1; simpa [hlc] using this
    rw [Addr.add_mid, hcell j hjm, ← hj]
    simp [List.getD_eq_getElem?_getD, show j < cs.length by omega]
  · obtain ⟨b, _, rfl⟩ := List.mem_map.1 hu
    rfl
  · intro v' w' h1 h2
    refine h v' w' ?_ h2
    rw [List.map_append]
    exact h1
theorem wp_append_none {w : World} {ops : Array Oper} {rest : List Oper} {op : Oper} {a : Act} {Q : Exit → Act → World → Prop} (hgd : op.guard = none) (s x : Operand)
    (ho : op.op = .call { callee := .builtin .append, args := #[s, x], argTypes := #[70, 70] }) (A : Option Addr) (n : Nat) (hs : a.eval s = .slice A n n)
    (X : Option Addr) (c : Nat) (hx : a.eval x = .slice X 0 c) (hXn : X = none → c = 0)
    (h : wpList Try.prog ops Q rest (a.put op.dst (.slice A n n)) w) : wpList Try.prog ops Q (op :: rest) a w := by
  obtain ⟨i5, hi5, hz5, hs5, hb5⟩ := info_parts info5
  refine wpList_plain hgd fun K hK => ?_
  have hsrc : Src Try.prog i5.size 70 (.slice X 0 c) 0 [] w := by
    cases X with
    | none => exact Src.ofNil w Try.underlying70 c
    | some ad => exact Src.ofSlice w Try.underlying70 ad 0 c [] (by simp) (by simp) (by simp)
  have hrun := run_append_nothing (P := Try.prog) w 70 70 op.type 5 i5 Try.underlying70 hi5 A n n (Nat.le_refl _) (.slice X 0 c) hsrc
  unfold Oper.wp
  simp [execOp, ho, resolve, invoke, builtin, hs, hx, hrun, Result.andThen]
  exact hK _ _ h
end Go.Proofs.Ytegaiphhoinilaa
namespace Go.Proofs.Ytegaiphhoinilaa
open Go Go.RowKit

/-- at g there is a cursor over bs, at place p, failed or not: what is left is a row that nobody else writes -/
def IsCur (w : World) (B m g : Nat) (bs : List UInt8) (p : Nat) (bad : Bool) : Prop :=
  ∃ A n c, Has w g 104 (curB A n c bad) ∧ SlA w A n c (bs.drop p) ∧ B ≤ g ∧ g ≠ m ∧ (∀ b o s, A = some ⟨b, o, s⟩ → 0 < n → b ≠ g ∧ b ≠ m ∧ B ≤ b)
theorem isCur_keep {w w' : World} {B m g : Nat} {bs : List UInt8} {p : Nat} {bad : Bool} (h : IsCur w B m g bs p bad) (k : w.grownBy w' (some m)) : IsCur w' B m g bs p bad := by
  obtain ⟨A, n, c, hG, hS, hB, hg, ha⟩ := h
  refine ⟨A, n, c, has_grown hG k (fun l e => by injection e with e; subst e; exact hg), hS.grown k (fun b o e h0 e2 => ?_), hB, hg, ha⟩
  injection e2 with e2
  exact (ha b o none e h0).2.1 e2.symm
theorem offA_block {A : Option Addr} {c k b o : Nat} {s : Option Nat} (h : offA A c k = some ⟨b, o, s⟩) : ∃ o' s', A = some ⟨b, o', s'⟩ := by
  unfold offA at h
  split at h
  · exact ⟨o, s, h⟩
  · cases A with
    | none => cases h
    | some ad =>
      obtain ⟨b', o', s'⟩ := ad
      refine ⟨o', s', ?_⟩
      simp only [Option.map_some, Option.some.injEq] at h
      have : b' = b := by
        have h2 := congrArg Addr.block h
        unfold Addr.add at h2
        split at h2 <;> exact h2
      rw [this]
theorem ptake_is (bs : List UInt8) (p : Nat) (bad : Bool) (k : Int) (w : World) (B m g : Nat) (hI : IsCur w B m g bs p bad) (hp : p ≤ bs.length) :
    Calls Try.prog 64 #[curAt g, .int .i64 k] w fun e w' => (∃ A n c, e = .returned (.slice A n c) ∧ n = (tkB bs p bad k).length ∧ (okT bs.length p bad k = false → A = none ∧ n = 0 ∧ c = 0) ∧ (okT bs.length p bad k = true → n = k.toNat ∧ c = n) ∧ SlA w' A n c (tkB bs p bad k) ∧ ∀ b o, A = some ⟨b, o, none⟩ → 0 < n → m ≠ b) ∧ IsCur w' B m g bs (tkP bs.length p bad k) (!okT bs.length p bad k) ∧ Kp B m w w' := by
  obtain ⟨A, n, c, hG, hS, hB, hg, ha⟩ := hI
  have hl : bs.length - p = n := by have := hS.1; simpa using this
  have hgl := hG.lt
  cases hok : okT bs.length p bad k with
  | false =>
    obtain ⟨h1, h2⟩ := tkB_no hok
    rw [h1, h2]
    cases bad with
    | true =>
      refine (ptake_bad A n c k g w hG).mono ?_
      rintro e w' ⟨rfl, rfl⟩
      exact ⟨⟨none, 0, 0, rfl, rfl, fun _ => ⟨rfl, rfl, rfl⟩, (fun h => by cases h), nil_slA _, fun _ _ h => by cases h⟩, ⟨A, n, c, hG, hS, hB, hg, ha⟩, Below.refl _ _, rfl, Nat.le_refl _⟩
    | false =>
      unfold okT at hok
      simp only [Bool.not_false, Bool.true_and, decide_eq_false_iff_not] at hok
      refine (ptake_far A n c k g w hG (by omega)).mono ?_
      rintro e w' ⟨rfl, hG', hgr, hz⟩
      refine ⟨⟨none, 0, 0, rfl, rfl, fun _ => ⟨rfl, rfl, rfl⟩, (fun h => by cases h), nil_slA _, fun _ _ h => by cases h⟩, ⟨A, n, c, hG', hS.grown hgr (fun b o e h0 e2 => ?_), hB, hg, ha⟩, below_of_only hgr hB (by omega), ?_, by omega⟩
      · injection e2 with e2
        exact (ha b o none e h0).1 e2.symm
      · by_cases hm : m < w.heap.size
        · exact hgr.block m hm (fun e => hg (by injection e with e; exact e.symm))
        · rw [Array.getElem?_eq_none (by omega), Array.getElem?_eq_none (by omega)]
  | true =>
    have hb : bad = false := by
      cases bad with
      | false => rfl
      | true => exact absurd hok (by unfold okT; simp)
    subst hb
    have hok' := hok
    unfold okT at hok'
    simp only [Bool.not_false, Bool.true_and, decide_eq_true_eq] at hok'
    obtain ⟨q, rfl⟩ : ∃ q : Nat, k = (q : Int) := ⟨k.toNat, by omega⟩
    have e1 : tkB bs p false (q : Int) = (bs.drop p).take q := by unfold tkB; rw [if_pos hok]; rfl
    have e2 : tkP bs.length p false (q : Int) = p + q := by unfold tkP; rw [if_pos hok]; rfl
    rw [e1, e2]
    have hqn : q ≤ n := by omega
    refine (ptake_ok A n c q g w hG hqn hS.2.1).mono ?_
    rintro e w' ⟨rfl, hG', hgr, hz⟩
    have hS' := hS.grown hgr (fun b o e h0 e2 => (ha b o none e h0).1 (by injection e2 with e2; exact e2.symm))
    refine ⟨⟨A, q, q, rfl, by rw [List.length_take, List.length_drop]; omega, (fun h => by cases h), fun _ => ⟨rfl, rfl⟩, ⟨by rw [List.length_take, List.length_drop]; omega, Nat.le_refl _, fun h0 => ?_⟩, fun b o e h0 => (ha b o none e (by omega)).2.1.symm⟩, ⟨offA A c q, n - q, c - q, hG', ?_, hB, hg, fun b o s e h0 => ?_⟩, below_of_only hgr hB (by omega), ?_, by omega⟩
    · obtain ⟨b, o, e, hlt, hcell⟩ := hS'.2.2 (by omega)
      refine ⟨b, o, e, hlt, fun j hj => ?_⟩
      rw [hcell j (by omega)]
      simp [List.getD_eq_getElem?_getD, hj]
    · refine ⟨by rw [List.length_drop]; omega, by have := hS.2.1; omega, fun h0 => ?_⟩
      obtain ⟨b, o, e, hlt, hcell⟩ := hS'.2.2 (by omega)
      subst e
      refine ⟨b, o + q, ?_, hlt, fun j hj => ?_⟩
      · unfold offA
        rw [if_neg (by have := hS.2.1; omega), Option.map_some, Addr.add_mid]
      · rw [Nat.add_assoc, hcell (q + j) (by omega)]
        congr 2
        simp [List.getD_eq_getElem?_getD, List.getElem?_drop, Nat.add_assoc]
    · obtain ⟨o', s', e'⟩ := offA_block e
      exact ha b o' s' e' (by omega)
    · by_cases hm : m < w.heap.size
      · exact hgr.block m hm (fun e => hg (by injection e with e; exact e.symm))
      · rw [Array.getElem?_eq_none (by omega), Array.getElem?_eq_none (by omega)]
theorem pint_is (bs : List UInt8) (p : Nat) (bad : Bool) (k : Nat) (hk : 0 < k) (hk4 : k ≤ 4) (w : World) (B m g : Nat) (hI : IsCur w B m g bs p bad) (hp : p ≤ bs.length) :
    Calls Try.prog 50 #[curAt g, .int .i64 (k : Int)] w fun e w' => e = .returned (.int .u32 ((tkN bs p bad k : Nat) : Int)) ∧ IsCur w' B m g bs (tkP bs.length p bad (k : Int)) (!okT bs.length p bad (k : Int)) ∧ Kp B m w w' := by
  have kT := ptake_is bs p bad (k : Int) w B m g hI hp
  cases hok : okT bs.length p bad (k : Int) with
  | false =>
    have e0 : tkN bs p bad k = 0 := by unfold tkN; rw [hok]; rfl
    rw [e0]
    refine pint_no k (curAt g) w _ (kT.mono ?_)
    rintro e w' ⟨⟨A, n, c, rfl, _, h1, _⟩, hI', hK⟩
    obtain ⟨rfl, rfl, rfl⟩ := h1 hok
    rw [hok] at hI'
    exact ⟨rfl, hI', hK⟩
  | true =>
    have hok' := hok
    unfold okT at hok'
    have e0 : tkN bs p bad k = leT (bsN bs) k p := by unfold tkN; rw [if_pos hok]
    have e1 : tkB bs p bad (k : Int) = (bs.drop p).take k := by unfold tkB; rw [if_pos hok]; rfl
    rw [e0]
    refine pint_ok bs k p (curAt g) w _ hk4 (kT.mono ?_)
    rintro e w' ⟨⟨A, n, c, rfl, _, _, h2, hS, _⟩, hI', hK⟩
    obtain ⟨rfl, rfl⟩ := h2 hok
    rw [hok] at hI'
    obtain ⟨b, o, rfl, _, hcell⟩ := hS.2.2 hk
    refine ⟨b, o, rfl, fun j hj => ?_, hI', hK⟩
    rw [hcell j hj, e1]
    congr 2
    simp [List.getD_eq_getElem?_getD, List.getElem?_drop, hj]
theorem tkN_lt (bs : List UInt8) (p : Nat) (bad : Bool) (k : Nat) (hk : k ≤ 4) : tkN bs p bad k < 4294967296 := by
  unfold tkN
  split
  · have h1 := leT_lt (bsN_lt bs) k p
    have h2 : 256 ^ k ≤ 256 ^ 4 := Nat.pow_le_pow_right (by omega) hk
    omega
  · decide
theorem same_below {w w' : World} (h : w = w') : Below w.heap.size w w' := by subst h; exact Below.refl _ _
theorem own_base {w : World} {base : Nat} {e : TypeId} {size n : Nat} {b o c : Nat} {s : Option Nat} {xs : List Value} (h : w.ownsRow base e size (.slice (some ⟨b, o, s⟩) n c) n xs) : base ≤ b ∧ b < w.heap.size := by
  rcases h.2 with ⟨hv, _⟩ | ⟨g, cap, cur, hv, hb, hg, _⟩
  · cases hv
  · have e1 : (some ⟨b, o, s⟩ : Option Addr) = some ⟨g, 0, none⟩ := by injection hv
    injection e1 with e1
    injection e1 with e1 _ _
    subst e1
    exact ⟨hb, (Array.getElem?_eq_some_iff.1 hg).1⟩
theorem run_zero (A : Option Addr) (n c : Nat) (W : World) : (Instr.sliceAt 70 (.slice A n c) none (some (.int .i64 0)) (some (.int .i64 0))).run Try.prog W = .ok (.slice A 0 0) W := run_front A n c 0 (Nat.zero_le _) W
set_option maxRecDepth 100000 in
set_option maxHeartbeats 1000000 in
theorem pat_is (bs : List UInt8) (A : Option Addr) (n c : Nat) (w : World) (B : Nat) (hS : SlA w A n c bs) (hA : A = none → c = 0) (hB : B ≤ w.heap.size) (hl : bs.length ≤ 1000000) :
    Calls Try.prog 33 #[.slice A n c] w fun e w' => (∃ g, e = .returned (curAt g) ∧ ∀ m, w'.heap.size ≤ m → IsCur w' B m g bs 0 false) ∧ Below w.heap.size w w' := by
  have r0 := run_zero A n c
  have hn : bs.length = n := hS.1
  by_cases h0 : n = 0
  · subst h0
    have hb : bs = [] := List.eq_nil_of_length_eq_zero hn
    subst hb
    clear hn hl
    cases A with
    | none =>
      obtain rfl := hA rfl
      go_enter Try.func33, Try.ntmps33
      go_wp2_with fail
      go_ret
      refine ⟨⟨w.heap.size, rfl, fun m hm => ⟨none, 0, 0, Has.new _ _ _, nil_slA _, hB, ?_, fun _ _ _ _ h => absurd h (Nat.lt_irrefl _)⟩⟩, (Below.refl _ _).alloc (Nat.le_refl _) _⟩
      have hm2 : w.heap.size + 1 ≤ m := by simpa using hm
      omega
    | some ad =>
      go_enter Try.func33, Try.ntmps33
      go_wp2_with fail
      go_ret
      refine ⟨⟨w.heap.size, rfl, fun m hm => ⟨some ad, 0, 0, Has.new _ _ _, ⟨rfl, Nat.le_refl _, fun h => absurd h (Nat.lt_irrefl _)⟩, hB, ?_, fun _ _ _ _ h => absurd h (Nat.lt_irrefl _)⟩⟩, (Below.refl _ _).alloc (Nat.le_refl _) _⟩
      have hm2 : w.heap.size + 1 ≤ m := by simpa using hm
      omega
  · obtain ⟨b, o, rfl, _⟩ := hS.2.2 (by omega)
    have hSn : SlA w (some ⟨b, o, none⟩) 0 0 [] := ⟨rfl, Nat.le_refl _, fun h => absurd h (Nat.lt_irrefl _)⟩
    go_enter Try.func33, Try.ntmps33
    go_wp2_with (
      refine wp_append_full rfl _ _ rfl (some ⟨b, o, none⟩) 0 [] rfl hSn (fun _ => rfl) _ n c bs rfl hS (by omega) (by omega) ?_
      intro v' w1 hown hgr
      rw [Nat.zero_add, List.nil_append] at hown
      obtain ⟨A', c', rfl⟩ := own_form hown
      have hz := hgr.size)
    go_ret
    have hbel : Below w.heap.size w w1 := ⟨hgr.os, hgr.tape, hgr.output, hgr.size, fun i hi => hgr.block i hi (by simp)⟩
    have hS1 := (own_slA hown).1
    refine ⟨⟨w1.heap.size, rfl, fun m hm => ⟨A', n, c', Has.new _ _ _, ?_, by omega, ?_, fun b o s e h => ?_⟩⟩, hbel.alloc hz _⟩
    · exact hS1.below ((Below.refl _ _).alloc (Nat.le_refl _) _)
    · have hm2 : w1.heap.size + 1 ≤ m := by simpa using hm
      omega
    · subst e
      have := own_base hown
      have hm2 : w1.heap.size + 1 ≤ m := by simpa using hm
      omega
theorem slA2 (w : World) (e1 e2 : Int) (b1 b2 : UInt8) (h1 : e1 = (b1.toNat : Int)) (h2 : e2 = (b2.toNat : Int)) : SlA (w.alloc (.cells #[.int .u8 e1, .int .u8 e2] 5)) (some ⟨w.heap.size, 0, none⟩) 2 2 [b1, b2] := by
  subst h1
  subst h2
  refine ⟨rfl, Nat.le_refl _, fun _ => ⟨w.heap.size, 0, rfl, by simp, fun j hj => ?_⟩⟩
  have h := fun i => (Has.new w 5 #[.int .u8 (b1.toNat : Int), .int .u8 (b2.toNat : Int)]).cell i
  rcases (show j = 0 ∨ j = 1 by omega) with rfl | rfl
  · exact (h 0).trans rfl
  · exact (h 1).trans rfl
theorem slA4 (w : World) (e1 e2 e3 e4 : Int) (b1 b2 b3 b4 : UInt8) (h1 : e1 = (b1.toNat : Int)) (h2 : e2 = (b2.toNat : Int)) (h3 : e3 = (b3.toNat : Int)) (h4 : e4 = (b4.toNat : Int)) : SlA (w.alloc (.cells #[.int .u8 e1, .int .u8 e2, .int .u8 e3, .int .u8 e4] 5)) (some ⟨w.heap.size, 0, none⟩) 4 4 [b1, b2, b3, b4] := by
  subst h1
  subst h2
  subst h3
  subst h4
  refine ⟨rfl, Nat.le_refl _, fun _ => ⟨w.heap.size, 0, rfl, by simp, fun j hj => ?_⟩⟩
  have h := fun i => (Has.new w 5 #[.int .u8 (b1.toNat : Int), .int .u8 (b2.toNat : Int), .int .u8 (b3.toNat : Int), .int .u8 (b4.toNat : Int)]).cell i
  rcases (show j = 0 ∨ j = 1 ∨ j = 2 ∨ j = 3 by omega) with rfl | rfl | rfl | rfl
  · exact (h 0).trans rfl
  · exact (h 1).trans rfl
  · exact (h 2).trans rfl
  · exact (h 3).trans rfl
theorem u8_eq (a b : Nat) (h : a % 256 = b % 256) : UInt8.ofNat a = UInt8.ofNat b := UInt8.toNat.inj (by simpa [UInt8.toNat_ofNat'] using h)
theorem leB2 (k : Int) : [UInt8.ofNat (k % 256).toNat, UInt8.ofNat (k / 256 % 256).toNat] = leB 2 (k % 65536).toNat := by
  show _ = [UInt8.ofNat ((k % 65536).toNat / 256 ^ 0), UInt8.ofNat ((k % 65536).toNat / 256 ^ 1)]
  rw [u8_eq (k % 256).toNat ((k % 65536).toNat / 256 ^ 0) (by omega), u8_eq (k / 256 % 256).toNat ((k % 65536).toNat / 256 ^ 1) (by omega)]
theorem leB4 (x : Nat) : [UInt8.ofNat x, UInt8.ofNat (x / 256), UInt8.ofNat (x / 65536), UInt8.ofNat (x / 16777216)] = leB 4 x := by
  show _ = [UInt8.ofNat (x / 256 ^ 0), UInt8.ofNat (x / 256 ^ 1), UInt8.ofNat (x / 256 ^ 2), UInt8.ofNat (x / 256 ^ 3)]
  rw [Nat.pow_zero, Nat.div_one]
theorem grown_none {w w' : World} (h : w.grownBy w' none) : Below w.heap.size w w' := ⟨h.os, h.tape, h.output, h.size, fun i hi => h.block i hi (by simp)⟩
set_option maxRecDepth 100000 in
set_option maxHeartbeats 1000000 in
theorem p32_any (bs : List UInt8) (x : Nat) (v : Value) (n : Nat) (w : World) (B : Nat) (hx : x < 4294967296) (hown : w.ownsRow B 5 1 v n (bs.map by8)) (hB : B ≤ w.heap.size) (hn : n ≤ 1000000) :
    Calls Try.prog 40 #[v, .int .u32 (x : Int)] w fun e w' => (∃ v', e = .returned v' ∧ w'.ownsRow B 5 1 v' (n + 4) ((bs ++ leB 4 x).map by8)) ∧ Below B w w' ∧ w.heap.size ≤ w'.heap.size := by
  obtain ⟨A, c, rfl⟩ := own_form hown
  obtain ⟨hS, hA⟩ := own_slA hown
  have hnc := hS.2.1
  have hA0 : A = none → n = 0 := fun h => by have := hA h; omega
  have hSn : SlA w A n n bs := ⟨hS.1, Nat.le_refl _, hS.2.2⟩
  have r0 := fun W => run_front A n c n hnc W
  clear hown hA hS
  go_enter Try.func40, Try.ntmps40
  go_wp2_with (
    refine wp_append_full rfl _ _ rfl A n bs rfl (hSn.below ((Below.refl _ _).alloc (Nat.le_refl _) _)) hA0 (some ⟨w.heap.size, 0, none⟩) 4 4 [UInt8.ofNat x, UInt8.ofNat (x / 256), UInt8.ofNat (x / 65536), UInt8.ofNat (x / 16777216)] rfl (slA4 w _ _ _ _ _ _ _ _ (by simp) (by simp) (by simp) (by simp; omega)) (by decide) (by omega) ?_
    intro v' w1 hown hgr)
  go_ret
  refine ⟨⟨v', rfl, ?_⟩, ?_, ?_⟩
  · rw [← leB4]
    exact own_mono hown (Nat.le_trans hB (by simp))
  · exact ((Below.refl B w).alloc hB _).trans ((grown_none hgr).mono (by simp; omega))
  · have := hgr.size
    have h2 : w.heap.size + 1 ≤ w1.heap.size := by simpa using this
    omega
end Go.Proofs.Ytegaiphhoinilaa
namespace Go.Proofs.Ytegaiphhoinilaa
open Go Go.RowKit

/-- what may happen beside: blocks of bytes may be marked; all else stays -/
structure Ka (B : Nat) (w w' : World) : Prop where
  bel : Below B w w'
  blk : ∀ (b : Nat) (cs : Array Value) (t : TypeId) (fr : Nat × Nat), w.heap[b]? = some (Obj.cells cs t fr) → ∃ fr', w'.heap[b]? = some (Obj.cells cs t fr') ∧ (t ≠ 5 → fr' = fr)
theorem Ka.kb {B : Nat} {w w' : World} (h : Ka B w w') : Kb B w w' := ⟨h.bel, fun b cs t fr hb _ => h.blk b cs t fr hb⟩
theorem Ka.of {B : Nat} {w w' : World} (h : Below w.heap.size w w') (hB : B ≤ w.heap.size) : Ka B w w' := ⟨h.mono hB, fun i _ _ fr hi => ⟨fr, (h.block i (Array.getElem?_eq_some_iff.1 hi).1).trans hi, fun _ => rfl⟩⟩
theorem Ka.alloc {B : Nat} (w : World) (o : Obj) (hB : B ≤ w.heap.size) : Ka B w (w.alloc o) := Ka.of ((Below.refl _ _).alloc (Nat.le_refl _) _) hB
theorem Ka.has {B g : Nat} {w w' : World} {t : TypeId} {cs : Array Value} (h : Ka B w w') (hG : Has w g t cs) (h2 : t ≠ 5) : Has w' g t cs := by
  obtain ⟨f, h3, e⟩ := h.blk g cs t (0, 0) hG
  rw [e h2] at h3
  exact h3
theorem Ka.own {B base n size : Nat} {w w' : World} {t : TypeId} {v : Value} {xs : List Value} (h : Ka B w w') (ho : w.ownsRow base t size v n xs) (h2 : t ≠ 5) : w'.ownsRow base t size v n xs := by
  refine ⟨ho.1, ?_⟩
  rcases ho.2 with h1 | ⟨g, cap, cur, h1, hb, hg, h3⟩
  · exact .inl h1
  · obtain ⟨f, h4, e⟩ := h.blk g cur t (0, 0) hg
    rw [e h2] at h4
    exact .inr ⟨g, cap, cur, h1, hb, h4, h3⟩
/-- the run-time's mark behind a row of bytes -/
theorem ka_freeze {B b n k : Nat} {w : World} {cs : Array Value} {fr : Nat × Nat} (hb : w.heap[b]? = some (Obj.cells cs 5 fr)) (hB : B ≤ b) : Ka B w (w.freeze ⟨b, n, none⟩ k) := by
  unfold World.freeze
  split
  · exact ⟨Below.refl _ _, fun _ _ _ fr h => ⟨fr, h, fun _ => rfl⟩⟩
  · refine ⟨⟨rfl, rfl, rfl, by simp, fun i hi => ?_⟩, fun i c t f hi => ?_⟩
    · dsimp only
      rw [Array.getElem?_modify]
      rw [if_neg (by omega)]
    · dsimp only
      rw [Array.getElem?_modify]
      by_cases hib : b = i
      · subst hib
        rw [hb] at hi
        injection hi with hi
        injection hi with e1 e2 e3
        subst e1 e2 e3
        rw [if_pos rfl, hb]
        exact ⟨_, rfl, fun h => absurd rfl h⟩
      · rw [if_neg hib]
        exact ⟨f, hi, fun _ => rfl⟩
/-- a conversion of a row of bytes to its own type marks it -/
theorem run_mark (w : World) (b n c : Nat) (cs : Array Value) (fr : Nat × Nat) (hb : w.heap[b]? = some (Obj.cells cs 5 fr)) :
    (convert 70 70 (.slice (some ⟨b, 0, none⟩) n c)).run Try.prog w = .ok (.slice (some ⟨b, 0, none⟩) n c) (w.freeze ⟨b, cs.size, none⟩ 1) := by
  have hsh : w.shape? b = some (5, cs.size) := by unfold World.shape?; rw [hb]
  simp [convert, run_underlying Try.underlying70, run_underlying Try.underlying5, markStringish, hsh]
theorem rowB_at {w : World} {b k : Nat} {bs : List UInt8} {fr : Nat × Nat} (hk : bs.length = k) (hb : w.heap[b]? = some (Obj.cells (bs.map by8).toArray 5 fr)) : RowB w (.slice (some ⟨b, 0, none⟩) k k) bs := by
  refine ⟨_, _, _, rfl, ⟨hk, Nat.le_refl _, fun _ => ⟨b, 0, rfl, (Array.getElem?_eq_some_iff.1 hb).1, fun j hj => ?_⟩⟩, (fun h => by cases h), fun b' o s e _ => ?_⟩
  · rw [cell_of_row w b (0 + j) _ _ fr hb, Nat.zero_add]
    simp [List.getD_eq_getElem?_getD, show j < bs.length by omega]
  · injection e with e
    injection e with e _ _
    subst e
    exact ⟨_, _, hb⟩
theorem infoBs : (Try.prog.info? 70).map (fun i => (i.zero, i.size, i.bytes)) = some (some (.slice none 0 0), 1, 24) := by kernel_rfl
/-- the row of slices that the call owns reads as these lists of bytes -/
def OutB (w : World) (base : Nat) (v : Value) (n : Nat) (bss : List (List UInt8)) : Prop :=
  ∃ vs : List Value, bss.length = n ∧ w.ownsRow base 70 1 v n vs ∧ ∀ j, j < n → ∃ x, vs[j]? = some x ∧ RowB w x (bss.getD j [])
theorem OutB.nil (w : World) (base : Nat) : OutB w base (.slice none 0 0) 0 [] := ⟨[], rfl, World.ownsRow_nil _ _ _ _, fun j h => by omega⟩
theorem rowB_one {w : World} {v : Value} {bs : List UInt8} (h : RowB w v bs) : v.oneCell' = true := by obtain ⟨A, n, c, rfl, _⟩ := h; rfl
theorem own_kb {w w' : World} {B base n : Nat} {v : Value} {vs : List Value} (h : w.ownsRow base 70 1 v n vs) (hB : B ≤ base) (hw : B ≤ w.heap.size) (k : w.grownBy w' v.ownBlock) : Kb B w w' := by
  refine ⟨below_own (Below.refl _ _) h hB hw k, fun b cs t fr hb ht => ⟨fr, (k.block b (Array.getElem?_eq_some_iff.1 hb).1 (fun e => ?_)).trans hb, fun _ => rfl⟩⟩
  rcases h.2 with ⟨rfl, _⟩ | ⟨g, cap, cur, rfl, hgb, hg, _⟩
  · cases e
  · have : b = g := by simpa [Value.ownBlock] using e
    subst this
    rw [hb] at hg
    injection hg with hg
    injection hg with _ e2 _
    exact ht e2
/-- what was appended is read behind what was there -/
theorem OutB.app {w : World} {base n m : Nat} {v : Value} {vs us : List Value} {bss css : List (List UInt8)} (hbl : bss.length = n) (hvs : ∀ j, j < n → ∃ x, vs[j]? = some x ∧ RowB w x (bss.getD j [])) (hvl : vs.length = n) (_hul : us.length = m) (hcl : css.length = m)
    (hus : ∀ j, j < m → ∃ x, us[j]? = some x ∧ RowB w x (css.getD j [])) (hown : w.ownsRow base 70 1 v (n + m) (vs ++ us)) : OutB w base v (n + m) (bss ++ css) := by
  refine ⟨vs ++ us, by rw [List.length_append, hbl, hcl], hown, fun j hj => ?_⟩
  by_cases hjn : j < n
  · obtain ⟨x, h1, h2⟩ := hvs j hjn
    refine ⟨x, by rw [List.getElem?_append_left (by omega)]; exact h1, ?_⟩
    rw [List.getD_eq_getElem?_getD, List.getElem?_append_left (by omega), ← List.getD_eq_getElem?_getD]
    exact h2
  · obtain ⟨x, h1, h2⟩ := hus (j - n) (by omega)
    refine ⟨x, by rw [List.getElem?_append_right (by omega), hvl]; exact h1, ?_⟩
    rw [List.getD_eq_getElem?_getD, List.getElem?_append_right (by omega), hbl, ← List.getD_eq_getElem?_getD]
    exact h2
end Go.Proofs.Ytegaiphhoinilaa
