/-
A region that draws its order, whose operations up to a tail may read, call and make memory in any order, and leave what was there as it was: each gives a value of which a fact holds that lasts; then the tail, which comes in one order. Operations of no world ('floats') may come late.
Package mont's memory: what a Mod's block holds; the product of two words with what is added to it.
Package mont: one word's step of a product.
Package mont: what is below twice the modulus, made less than it.
Package mont: sums, differences, products.
Package mont: differences, the plain calls.
Package mont: powers, and the calls that are made of products.
Package mont: a Mod's block as it is made; the inverse of an odd word; 2^256 times a number.
Package mont keeps what the laws' walks ask of it: New, Inv, and all its calls together.
The points of a curve y y = x x x + a x + b over the prime field of P-256: chords and tangents make a commutative group. Each identity is one linear combination of its hypotheses.
The prime field of P-256 is a field; multiples of points; points as X/Z, Y/Z.
The order of the base point, reckoned by the kernel: the order less 1, times the base, is the base's mirror.
-/
import Derived.Test.YtflkhlhpifmocaaDoorRows
import Derived.Test.YtflkhlhpifmocaaDoorMg00
import Derived.StillTail
import Derived.WalkKit
import Derived.Laws.Rows
import Derived.Below
import Derived.KernelRfl
import Derived.Deep.MidRow
namespace Go.Proofs.YtflkhlhpifmocaaDoor
open Go Go.RowKit

section
variable {P : Program} {md : Region.Mode} {ops : Array Oper}

/-- the values v of the operations, put in their slots -/
def putAll : List Oper → (Nat → Value) → Nat → Act → Act
  | [], _, _, a => a
  | o :: r, v, k, a => putAll r v (k + 1) (a.put o.dst (v k))
def setAt (v : Nat → Value) (i : Nat) (x : Value) (j : Nat) : Value := if j = i then x else v j

theorem putAll_put (l : List Oper) : ∀ (v : Nat → Value) (k : Nat) (a : Act) (dst : Option Tmp) (x : Value), (∀ o ∈ l, ∀ d, dst = some d → o.dst ≠ some d) → (putAll l v k a).put dst x = putAll l v k (a.put dst x) := by
  induction l with
  | nil => intro v k a dst x _; rfl
  | cons o r ih =>
    intro v k a dst x h
    show (putAll r v (k + 1) (a.put o.dst (v k))).put dst x = putAll r v (k + 1) ((a.put dst x).put o.dst (v k))
    rw [ih _ _ _ _ _ fun o' ho' => h o' (List.mem_cons_of_mem _ ho')]
    rw [Act.put_comm a x (v k) (h o (List.mem_cons_self ..))]
theorem put_put (a : Act) (dst : Option Tmp) (x y : Value) : (a.put dst x).put dst y = a.put dst y := by
  cases dst with
  | none => rfl
  | some d => simp [Act.put]
theorem putAll_agree (l : List Oper) : ∀ (v u : Nat → Value) (k : Nat) (a : Act), (∀ j, k ≤ j → j < k + l.length → v j = u j) → putAll l v k a = putAll l u k a := by
  induction l with
  | nil => intro v u k a _; rfl
  | cons o r ih =>
    intro v u k a h
    show putAll r v (k + 1) (a.put o.dst (v k)) = putAll r u (k + 1) (a.put o.dst (u k))
    rw [h k (Nat.le_refl _) (by simp), ih v u _ _ fun j h1 h2 => h j (by omega) (by simp; omega)]
/-- the slots are different ones -/
def distinctB : List Oper → Bool
  | [] => true
  | o :: r => (match o.dst with | some d => r.all fun x => x.dst != some d | none => true) && distinctB r
theorem putAll_set (l : List Oper) : ∀ (v : Nat → Value) (k : Nat) (a : Act) (i : Nat) (o : Oper) (x : Value), distinctB l = true → l[i]? = some o → (putAll l v k a).put o.dst x = putAll l (setAt v (k + i) x) k a := by
  induction l with
  | nil => intro v k a i o x _ h; simp at h
  | cons o' r ih =>
    intro v k a i o x hd h
    simp only [distinctB, Bool.and_eq_true] at hd
    cases i with
    | zero =>
      obtain rfl : o' = o := by simpa using h
      have hne : ∀ o ∈ r, ∀ d, o'.dst = some d → o.dst ≠ some d := fun o ho d hdd => by
        have h1 := hd.1
        rw [hdd] at h1
        simp only [List.all_eq_true, bne_iff_ne] at h1
        exact h1 o ho
      show (putAll r v (k + 1) (a.put o'.dst (v k))).put o'.dst x = putAll r (setAt v (k + 0) x) (k + 1) (a.put o'.dst (setAt v (k + 0) x k))
      rw [putAll_put r v (k + 1) _ _ x hne, put_put]
      have e : setAt v (k + 0) x k = x := by simp [setAt]
      rw [e]
      exact putAll_agree r _ _ _ _ fun j h1 _ => by simp only [setAt]; rw [if_neg (by omega)]
    | succ i =>
      have h' : r[i]? = some o := by simpa using h
      show (putAll r v (k + 1) (a.put o'.dst (v k))).put o.dst x = putAll r (setAt v (k + (i + 1)) x) (k + 1) (a.put o'.dst (setAt v (k + (i + 1)) x k))
      rw [ih v (k + 1) _ i o x hd.2 h']
      have e : setAt v (k + (i + 1)) x k = v k := by simp only [setAt]; rw [if_neg (by omega)]
      have e2 : k + (i + 1) = k + 1 + i := by omega
      rw [e, e2]
/-- what lies in the slots -/
def slotsOf (l : List Oper) (a : Act) (j : Nat) : Value := match l[j]? with
  | some o => match o.dst with
    | some d => a.tmps.getD d undef
    | none => undef
  | none => undef
theorem put_same (a : Act) (d : Tmp) : a.put (some d) (a.tmps.getD d undef) = a := by
  have e : a.tmps.setIfInBounds d (a.tmps.getD d undef) = a.tmps := by
    apply Array.ext
    · simp
    · intro i h1 h2
      rw [Array.getElem_setIfInBounds (by simpa using h2)]
      by_cases h : d = i
      · subst h; simp [h2]
      · rw [if_neg h]
  show { a with tmps := a.tmps.setIfInBounds d (a.tmps.getD d undef) } = a
  rw [e]
theorem putAll_slots (l : List Oper) (a : Act) : ∀ (v : Nat → Value) (k : Nat), (∀ j o d, l[j]? = some o → o.dst = some d → v (k + j) = a.tmps.getD d undef) → putAll l v k a = a := by
  induction l with
  | nil => intro v k _; rfl
  | cons o r ih =>
    intro v k h
    show putAll r v (k + 1) (a.put o.dst (v k)) = a
    have e : a.put o.dst (v k) = a := by
      cases hd : o.dst with
      | none => rfl
      | some d =>
        have := h 0 o d rfl hd
        rw [Nat.add_zero] at this
        rw [this, put_same]
    rw [e]
    exact ih v (k + 1) fun j o' d ho hd => by rw [show k + 1 + j = k + (j + 1) by omega]; exact h (j + 1) o' d (by simpa using ho) hd

def headDone (n m : Nat) : Array Bool := ((List.range m).map fun j => decide (j < n)).toArray
/-- what is asked of the region's edges -/
def factsB (md : Region.Mode) (ops : Array Oper) (n : Nat) (fl : List Nat) : Bool :=
  Region.noSelect ops && decide (n < ops.size) && ((ops.toList.take n).all fun o => o.guard.isNone) && distinctB (ops.toList.take n) &&
  ((List.range n).all fun i => fl.contains i || (List.range (n + 1)).any fun j => decide (i < j) && !fl.contains j && Region.waitsFor md ops j i) && Region.chainB md ops n &&
  (fl.all fun i => decide (i < n) && (match ops[i]? with
    | some o => (o.after.toList.all fun e => !Region.binds md e || (decide (e.on < n) && !fl.contains e.on)) && (List.range ops.size).all fun j => j == i || Region.waitsFor md ops j i || Region.waitsFor md ops i j || (match ops[j]? with
      | some oj => o.apart ops oj
      | none => true)
    | none => false)) &&
  Region.seqB md ops (ops.size - n) n (headDone n ops.size) &&
  ((List.range n).all fun i => match ops[i]? with
    | some o => o.after.toList.all fun e => !Region.binds md e || decide (e.on < i)
    | none => true)

theorem tail_waits2 {n : Nat} {fl : List Nat} {listed : Array Bool}
    (hs : ∀ i, i < n → fl.contains i = false → ∃ j, i < j ∧ j ≤ n ∧ fl.contains j = false ∧ Region.waitsFor md ops j i = true) (hc : Region.chainB md ops n = true) (hn : n < ops.size) (inv : HeadInv md ops n listed) :
    ∀ (d i : Nat), n - i = d → i < n → fl.contains i = false → listed.getD i true = false → ∀ t, n ≤ t → t ∉ Region.ready md ops listed := by
  intro d
  induction d using Nat.strongRecOn with
  | _ d ih =>
    intro i hd hi hfl hun t ht hr
    obtain ⟨_, ot, hot, hall⟩ := mem_ready.1 hr
    have htlt : t < ops.size := (Array.getElem?_eq_some_iff.1 hot).1
    by_cases htn : t = n
    · subst htn
      obtain ⟨j, hij, hjle, hjf, hw⟩ := hs i hi hfl
      obtain ⟨oj, hoj, e, he, hb, hon⟩ := Region.waitsFor_spec hw
      by_cases hjt : j = t
      · subst hjt
        have : oj = ot := Option.some.inj (hoj.symm.trans hot)
        subst this
        have h2 := hall e he hb
        rw [hon, getD_both hun] at h2
        cases h2
      · cases hl : listed.getD j false with
        | true =>
          have h2 := inv.closed j oj hoj hl e he hb
          rw [hon, getD_both hun] at h2
          cases h2
        | false =>
          have hjs : j < listed.size := by rw [inv.size]; omega
          exact ih (t - j) (by omega) j rfl (by omega) hjf (getD_in hjs hl) t (Nat.le_refl _) hr
    · have h1 := List.all_eq_true.1 hc t (List.mem_range.2 htlt)
      simp only [Bool.or_eq_true, decide_eq_true_eq] at h1
      rcases h1 with h1 | h1
      · omega
      · obtain ⟨o', ho', e, he, hb, hon⟩ := Region.waitsFor_spec h1
        have : o' = ot := Option.some.inj (ho'.symm.trans hot)
        subst this
        have h2 := hall e he hb
        rw [hon, getD_both (inv.tail (t - 1) (by omega) (by omega))] at h2
        cases h2

theorem getD_of_true {listed : Array Bool} {i : Nat} (h : listed.getD i true = true) (hi : i < listed.size) : listed.getD i false = true := by
  simp [hi] at h ⊢; exact h
/-- while not all are done, one may be next -/
theorem ready_ne {n : Nat} {listed : Array Bool} (hb : ∀ i o, ops[i]? = some o → i < n → ∀ e ∈ o.after, Region.binds md e = true → e.on < i) (hn : n < ops.size) (inv : HeadInv md ops n listed) {i : Nat} (hi : i < n) (hun : listed.getD i true = false) :
    Region.ready md ops listed ≠ [] := by
  induction i using Nat.strongRecOn with
  | _ i ih =>
    obtain ⟨o, ho⟩ : ∃ o, ops[i]? = some o := ⟨ops[i]'(by omega), by simp⟩
    by_cases h : ∀ e ∈ o.after, Region.binds md e = true → listed.getD e.on false = true
    · exact fun hr => by
        have : i ∈ Region.ready md ops listed := mem_ready.2 ⟨hun, o, ho, h⟩
        rw [hr] at this
        cases this
    · have h3 : ∃ e ∈ o.after, Region.binds md e = true ∧ listed.getD e.on false ≠ true := Classical.byContradiction fun hc' => h fun e he hbd => by
        cases hq : listed.getD e.on false with
        | true => rfl
        | false => exact absurd ⟨e, he, hbd, by rw [hq]; simp⟩ hc'
      obtain ⟨e, he, hbd, hne⟩ := h3
      have hlt := hb i o ho hi e he hbd
      exact ih e.on hlt (by omega) (getD_in (by rw [inv.size]; omega) (by simpa using hne))

/-- how many of the first n are not yet done -/
def left (listed : Array Bool) (n : Nat) : Nat := (List.range n).countP fun i => !listed.getD i true
theorem countP_one {p q : Nat → Bool} {i : Nat} (hp : p i = true) (hq : q i = false) (hne : ∀ j, j ≠ i → q j = p j) : ∀ (L : List Nat), L.Nodup → i ∈ L → L.countP q + 1 = L.countP p
  | [], _, h => by simp at h
  | x :: L, hnd, h => by
    rw [List.nodup_cons] at hnd
    by_cases hx : x = i
    · subst hx
      have e : L.countP q = L.countP p := List.countP_congr fun j hj => by
        have : j ≠ x := fun e => hnd.1 (e ▸ hj)
        rw [hne j this]
      rw [List.countP_cons, List.countP_cons, hp, hq, e]
      simp
    · have hm : i ∈ L := by
        rcases List.mem_cons.1 h with h | h
        · exact absurd h.symm hx
        · exact h
      have := countP_one hp hq hne L hnd.2 hm
      rw [List.countP_cons, List.countP_cons, hne x hx]
      omega
theorem left_set {listed : Array Bool} {n i : Nat} (hi : i < n) (hun : listed.getD i true = false) : left (listed.setIfInBounds i true) n + 1 = left listed n := by
  unfold left
  refine countP_one (i := i) (by rw [hun]; rfl) ?_ (fun j hj => by rw [getD_set_ne true (Ne.symm hj)]) _ List.nodup_range (by simpa using hi)
  have hlt : i < listed.size := by
    rcases Nat.lt_or_ge i listed.size with h | h
    · exact h
    · simp [Array.getElem?_eq_none h] at hun
  simp [hlt]
theorem left_zero {listed : Array Bool} {n : Nat} (h : left listed n = 0) : ∀ i, i < n → listed.getD i true = true := fun i hi => by
  unfold left at h
  rw [List.countP_eq_zero] at h
  have := h i (by simpa using hi)
  simpa using this
end

section
variable {P : Program} {Q : Exit → Act → World → Prop}
theorem any_of_facts {l : List Oper} {n : Nat} {fl : List Nat} {a : Act} {w : World} (F : Nat → Value → World → Prop) (D : Nat → Nat → Value → Value → Prop) (hB : factsB .any l.toArray n fl = true)
    (hQ : ∀ c a (t : Tmp) x w, Q (.panic c) (a.put (some t) x) w → Q (.panic c) a w)
    (hst : ∀ i x w' w'', F i x w' → Below w'.heap.size w' w'' → F i x w'')
    (hstep : ∀ i o, l[i]? = some o → i < n → fl.contains i = false → ∀ (v : Nat → Value) w', Below w.heap.size w w' → (∀ e ∈ o.after, Region.binds .any e = true → F e.on (v e.on) w') →
      ∀ K : Act → World → Prop, (∀ x w'', Below w'.heap.size w' w'' → F i x w'' → (∀ j y, j ≠ i → F j y w' → D i j x y ∧ D j i y x) → K ((putAll (l.take n) v 0 a).put o.dst x) w'') → o.wp P (putAll (l.take n) v 0 a) w' K Q)
    (hfloat : ∀ i o, l[i]? = some o → i < n → fl.contains i = true → ∀ (v : Nat → Value), (∀ e ∈ o.after, Region.binds .any e = true → ∃ w', Below w.heap.size w w' ∧ F e.on (v e.on) w') →
      ∃ x, (∀ w', (execOp (putAll (l.take n) v 0 a).eval o).run P w' = .ok (.value x) w') ∧ (∀ w', F i x w') ∧ ∀ j y, D i j x y ∧ D j i y x)
    (htail : ∀ (v : Nat → Value) w', Below w.heap.size w w' → (∀ i, i < n → F i (v i) w') → (∀ i j, i < n → j < n → i ≠ j → D i j (v i) (v j)) → wpList P l.toArray Q (l.drop n) (putAll (l.take n) v 0 a) w') :
    ∀ (f : Nat) (listed : Array Bool) (v : Nat → Value) (w' : World), HeadInv .any l.toArray n listed → left listed n = f → Below w.heap.size w w' → (∀ i, i < n → listed.getD i false = true → F i (v i) w') → (∀ i j, i < n → j < n → listed.getD i false = true → listed.getD j false = true → i ≠ j → D i j (v i) (v j)) →
      wpAny P .any l.toArray Q (f + (l.length - n)) listed (putAll (l.take n) v 0 a) w' := by
  simp only [factsB, Bool.and_eq_true, decide_eq_true_eq] at hB
  obtain ⟨⟨⟨⟨⟨⟨⟨⟨hsel, hn⟩, hg⟩, hd⟩, hs⟩, hc⟩, hf⟩, hseq⟩, hback⟩ := hB
  have hn' : n < l.length := by simpa using hn
  have hd' : distinctB (l.take n) = true := by simpa using hd
  have hgn : ∀ i o, l[i]? = some o → i < n → o.guard = none := fun i o ho hi => by
    have h1 := List.all_eq_true.1 hg o (List.mem_iff_getElem?.2 ⟨i, by simpa [hi] using ho⟩)
    simpa using h1
  have hs' : ∀ i, i < n → fl.contains i = false → ∃ j, i < j ∧ j ≤ n ∧ fl.contains j = false ∧ Region.waitsFor .any l.toArray j i = true := fun i hi hfi => by
    have h1 := List.all_eq_true.1 hs i (List.mem_range.2 hi)
    rw [hfi, Bool.false_or] at h1
    obtain ⟨j, hj, hj2⟩ := List.any_eq_true.1 h1
    simp only [Bool.and_eq_true, decide_eq_true_eq, Bool.not_eq_true'] at hj2
    exact ⟨j, hj2.1.1, by have := List.mem_range.1 hj; omega, hj2.1.2, hj2.2⟩
  have hfl : ∀ i, fl.contains i = true → ∃ o, l[i]? = some o ∧ i < n ∧ (∀ e ∈ o.after, Region.binds .any e = true → e.on < n ∧ fl.contains e.on = false) ∧
      ∀ (j : Nat) oj, l[j]? = some oj → j ≠ i → (Region.waitsFor .any l.toArray j i = true ∨ Region.waitsFor .any l.toArray i j = true) ∨ o.apart l.toArray oj = true := fun i hi => by
    have h1 := List.all_eq_true.1 hf i (by simpa using hi)
    simp only [Bool.and_eq_true, decide_eq_true_eq] at h1
    obtain ⟨hin, h2⟩ := h1
    cases ho : l[i]? with
    | none => simp [ho] at h2
    | some o =>
      simp only [List.getElem?_toArray, ho, Bool.and_eq_true] at h2
      refine ⟨o, rfl, hin, fun e he hb => ?_, fun j oj hj hne => ?_⟩
      · have h3 := List.all_eq_true.1 h2.1 e (by simpa using he)
        rw [hb] at h3
        simpa using h3
      · have hjlt : j < l.length := (List.getElem?_eq_some_iff.1 hj).1
        have h3 := List.all_eq_true.1 h2.2 j (by simpa using hjlt)
        simp only [hj, Bool.or_eq_true, beq_iff_eq, hne, false_or] at h3
        exact h3
  have hback' : ∀ i o, l.toArray[i]? = some o → i < n → ∀ e ∈ o.after, Region.binds .any e = true → e.on < i := fun i o ho hi e he hbd => by
    have h1 := List.all_eq_true.1 hback i (List.mem_range.2 hi)
    rw [ho] at h1
    have h2 := List.all_eq_true.1 h1 e (by simpa using he)
    rw [hbd] at h2
    simpa using h2
  intro f
  induction f with
  | zero =>
    intro listed v w' inv hl hb hF hD
    have hall := left_zero hl
    have hlist : listed = headDone n l.toArray.size := by
      apply Array.ext_getElem?
      intro j
      unfold headDone
      by_cases hj : j < l.toArray.size
      · have hjs : j < listed.size := by rw [inv.size]; exact hj
        rw [Array.getElem?_eq_getElem hjs]
        have e : (((List.range l.toArray.size).map fun j => decide (j < n)).toArray)[j]? = some (decide (j < n)) := by rw [List.getElem?_toArray, List.getElem?_map, List.getElem?_range hj]; rfl
        rw [e]
        congr 1
        by_cases hjn : j < n
        · have h1 := hall j hjn
          rw [Array.getD_eq_getD_getElem?, Array.getElem?_eq_getElem hjs] at h1
          simpa [hjn] using h1
        · have h1 := inv.tail j (by omega) hj
          rw [Array.getD_eq_getD_getElem?, Array.getElem?_eq_getElem hjs] at h1
          simpa [hjn] using h1
      · rw [Array.getElem?_eq_none (by rw [inv.size]; omega), Array.getElem?_eq_none (by simpa using hj)]
    have hF' : ∀ i, i < n → F i (v i) w' := fun i hi => hF i hi (getD_of_true (hall i hi) (by rw [inv.size]; omega))
    have hD' : ∀ i j, i < n → j < n → i ≠ j → D i j (v i) (v j) := fun i j hi hj hne => hD i j hi hj (getD_of_true (hall i hi) (by rw [inv.size]; omega)) (getD_of_true (hall j hj) (by rw [inv.size]; omega)) hne
    have := wpAny_of_seq (md := .any) (Q' := Q) (ops := l.toArray) (l.drop n) n listed (putAll (l.take n) v 0 a) w' (fun j => by simp [List.getElem?_drop])
      (by rw [hlist]; simpa using hseq) (htail v w' hb hF' hD')
    simpa using this
  | succ f ih =>
    intro listed v w' inv hl hb hF hD
    rw [show f + 1 + (l.length - n) = (f + (l.length - n)) + 1 by omega]
    by_cases hA : ∃ i, fl.contains i = true ∧ i ∈ Region.ready .any l.toArray listed
    · obtain ⟨i, hfi, hr⟩ := hA
      obtain ⟨o, ho, hin, hedge, hap⟩ := hfl i hfi
      obtain ⟨hun, o', ho', hall⟩ := mem_ready.1 hr
      obtain rfl : o' = o := Option.some.inj ((by simpa using ho' : l[i]? = some o').symm.trans ho)
      obtain ⟨x, hx, hFx, hDx⟩ := hfloat i o' ho hin hfi v fun e he hbd => ⟨w', hb, hF e.on (hedge e he hbd).1 (hall e he hbd)⟩
      have hset := putAll_set (l.take n) v 0 a i o' x hd' (by simpa [hin] using ho)
      rw [Nat.zero_add] at hset
      refine wpAny_first (ops := l.toArray) (by simpa using ho) (Region.noSelect_spec hsel) (fun c a1 w1 h => by
        cases hdst : o'.dst with
        | none => rw [hdst] at h; exact h
        | some t => rw [hdst] at h; exact hQ c a1 t x w1 h) _ listed _ w' (fun j oj hj hne hunj hno => ?_) hr (.inl ⟨by simp [Region.wanted, hgn i o' ho hin], hx⟩) ?_
      · rcases hap j oj (by simpa using hj) hne with (h1 | h1) | h1
        · obtain ⟨oj', hoj', e, he, hbd, hon⟩ := Region.waitsFor_spec h1
          obtain rfl : oj' = oj := Option.some.inj (hoj'.symm.trans hj)
          exact absurd hon (hno e he hbd)
        · obtain ⟨oi', hoi', e, he, hbd, hon⟩ := Region.waitsFor_spec h1
          obtain rfl : oi' = o' := Option.some.inj (hoi'.symm.trans (by simpa using ho))
          have h2 := hall e he hbd
          rw [hon, getD_both hunj] at h2
          cases h2
        · exact h1
      · rw [hset]
        refine ih _ _ w' (inv.set hr hin) (by have := left_set hin hun; omega) hb (fun j hj hlj => ?_) fun j k hj hk hlj hlk hjk => ?_
        · unfold setAt
          by_cases hji : j = i
          · subst hji; rw [if_pos rfl]; exact hFx w'
          · rw [if_neg hji]
            rw [getD_set_ne false (Ne.symm hji)] at hlj
            exact hF j hj hlj
        · unfold setAt
          by_cases hji : j = i
          · rw [if_pos hji, if_neg (by omega), hji]; exact (hDx k (v k)).1
          · rw [if_neg hji]
            by_cases hki : k = i
            · rw [if_pos hki, hki]; exact (hDx j (v j)).2
            · rw [if_neg hki]
              rw [getD_set_ne false (Ne.symm hji)] at hlj
              rw [getD_set_ne false (Ne.symm hki)] at hlk
              exact hD j k hj hk hlj hlk hjk
    · have hex : ∃ i, i < n ∧ fl.contains i = false ∧ listed.getD i true = false := by
        have h1 : ¬ ∀ i, i < n → listed.getD i true = true := fun hall => by
          have : left listed n = 0 := by
            unfold left
            rw [List.countP_eq_zero]
            intro i hi
            have := hall i (by simpa using hi)
            simpa using this
          omega
        have h2 : ∃ i, i < n ∧ listed.getD i true = false := Classical.byContradiction fun hc' => h1 fun i hi => by
          cases hq : listed.getD i true with
          | true => rfl
          | false => exact absurd ⟨i, hi, hq⟩ hc'
        obtain ⟨i, hi, hun⟩ := h2
        cases hfi : fl.contains i with
        | false => exact ⟨i, hi, hfi, hun⟩
        | true =>
          obtain ⟨o, ho, _, hedge, _⟩ := hfl i hfi
          have hnr : i ∉ Region.ready .any l.toArray listed := fun h => hA ⟨i, hfi, h⟩
          have h3 : ∃ e ∈ o.after, Region.binds .any e = true ∧ listed.getD e.on false ≠ true := Classical.byContradiction fun hc' => hnr (mem_ready.2 ⟨hun, o, by simpa using ho, fun e he hbd => by
            cases hq : listed.getD e.on false with
            | true => rfl
            | false => exact absurd ⟨e, he, hbd, by rw [hq]; simp⟩ hc'⟩)
          obtain ⟨e, he, hbd, hne⟩ := h3
          obtain ⟨h4, h5⟩ := hedge e he hbd
          exact ⟨e.on, h4, h5, getD_in (by rw [inv.size]; simp; omega) (by simpa using hne)⟩
      obtain ⟨i0, hi0, hfi0, hun0⟩ := hex
      have hwait := tail_waits2 hs' hc hn inv _ i0 rfl hi0 hfi0 hun0
      refine ⟨fun hempty => ?_, fun i hr => ?_⟩
      · exact absurd hempty (ready_ne hback' hn inv hi0 hun0)
      · have hin : i < n := by
          rcases Nat.lt_or_ge i n with h | h
          · exact h
          · exact absurd hr (hwait i h)
        have hfi : fl.contains i = false := by
          cases hq : fl.contains i with
          | false => rfl
          | true => exact absurd ⟨i, hq, hr⟩ hA
        obtain ⟨hun, o, ho, hall⟩ := mem_ready.1 hr
        have ho' : l[i]? = some o := by simpa using ho
        have hset := fun x => putAll_set (l.take n) v 0 a i o x hd' (by simpa [hin] using ho')
        have hnot : ∀ e ∈ o.after, Region.binds .any e = true → e.on < n := fun e he hbd => by
          rcases Nat.lt_or_ge e.on n with h | h
          · exact h
          · have h1 := hall e he hbd
            by_cases h2 : e.on < l.toArray.size
            · rw [getD_both (inv.tail e.on h h2)] at h1; cases h1
            · rw [Array.getD_eq_getD_getElem?, Array.getElem?_eq_none (by rw [inv.size]; omega)] at h1; simp at h1
        unfold wpOp
        simp only [ho, Region.wanted, hgn i o ho' hin, if_true]
        refine .inl (hstep i o ho' hin hfi v w' hb (fun e he hbd => hF e.on (hnot e he hbd) (hall e he hbd)) _ fun x w'' hb2 hFx hDx => ?_)
        rw [hset x, Nat.zero_add]
        refine ih _ _ w'' (inv.set hr hin) (by have := left_set hin hun; omega) (hb.trans (hb2.mono hb.size)) (fun j hj hlj => ?_) fun j k hj hk hlj hlk hjk => ?_
        · unfold setAt
          by_cases hji : j = i
          · subst hji; rw [if_pos rfl]; exact hFx
          · rw [if_neg hji]
            rw [getD_set_ne false (Ne.symm hji)] at hlj
            exact hst j (v j) w' w'' (hF j hj hlj) hb2
        · unfold setAt
          by_cases hji : j = i
          · rw [getD_set_ne false (show i ≠ k by omega)] at hlk
            rw [if_pos hji, if_neg (by omega), hji]; exact (hDx k (v k) (by omega) (hF k hk hlk)).1
          · rw [if_neg hji]
            rw [getD_set_ne false (Ne.symm hji)] at hlj
            by_cases hki : k = i
            · rw [if_pos hki, hki]; exact (hDx j (v j) hji (hF j hj hlj)).2
            · rw [if_neg hki]
              rw [getD_set_ne false (Ne.symm hki)] at hlk
              exact hD j k hj hk hlj hlk hjk
/-- what an operation of such a region yields: this value, or a block of its own that holds these cells -/
inductive Yld where
  | val (v : Value)
  | new (t : TypeId) (cs : Array Value)
def Yld.fact (W : World) : Yld → Value → World → Prop
  | .val v, x, _ => x = v
  | .new t cs, x, w => ∃ g, x = .pointer (some ⟨g, 0, none⟩) ∧ W.heap.size ≤ g ∧ g < w.heap.size ∧ w.heap[g]? = some (.cells cs t (0, 0))
def yldAt (W : World) (ks : List Yld) (i : Nat) (x : Value) (w : World) : Prop := match ks[i]? with
  | some k => k.fact W x w
  | none => True
def isNew (ks : List Yld) (i : Nat) : Bool := match ks[i]? with
  | some (.new _ _) => true
  | _ => false
theorem yld_keep {W : World} (k : Yld) (x : Value) (w' w'' : World) (h : k.fact W x w') (hb : Below w'.heap.size w' w'') : k.fact W x w'' := by
  cases k with
  | val v => exact h
  | new t cs =>
    obtain ⟨g, e, h1, h2, h3⟩ := h
    exact ⟨g, e, h1, Nat.lt_of_lt_of_le h2 hb.size, (hb.block g h2).trans h3⟩
/-- an operation's step -/
def StepAt (P : Program) (Q : Exit → Act → World → Prop) (ks : List Yld) (fl : List Nat) (l : List Oper) (a : Act) (w : World) (i : Nat) (o : Oper) : Yld → Prop
  | .val x => if fl.contains i = true
    then ∀ (v : Nat → Value), (∀ e ∈ o.after, Region.binds .any e = true → ∃ w', yldAt w ks e.on (v e.on) w') → ∀ w', (execOp (putAll l v 0 a).eval o).run P w' = .ok (.value x) w'
    else ∀ (v : Nat → Value) w', Below w.heap.size w w' → (∀ e ∈ o.after, Region.binds .any e = true → yldAt w ks e.on (v e.on) w') →
      ∀ K : Act → World → Prop, (∀ w'', Below w'.heap.size w' w'' → K ((putAll l v 0 a).put o.dst x) w'') → o.wp P (putAll l v 0 a) w' K Q
  | .new t cs => fl.contains i = false ∧ o.op = .alloc t ∧ ∀ w, (zeroValue t).run P w = .ok (.agg cs) w
/-- each operation's step, one after the other -/
def StepsOK (P : Program) (Q : Exit → Act → World → Prop) (ks : List Yld) (fl : List Nat) (l : List Oper) (a : Act) (w : World) : List Oper → List Yld → Nat → Prop
  | [], [], _ => True
  | o :: r, k :: kr, i => StepAt P Q ks fl l a w i o k ∧ StepsOK P Q ks fl l a w r kr (i + 1)
  | _, _, _ => False
theorem stepsOK_at {ks : List Yld} {fl : List Nat} {l : List Oper} {a : Act} {w : World} : ∀ (r : List Oper) (kr : List Yld) (k : Nat), StepsOK P Q ks fl l a w r kr k → ∀ i o, r[i]? = some o →
    ∃ y, kr[i]? = some y ∧ StepAt P Q ks fl l a w (k + i) o y
  | [], _, _, _, i, o, h => by simp at h
  | _ :: _, [], _, hs, _, _, _ => by cases hs
  | o' :: r, y :: kr, k, hs, i, o, h => by
    cases i with
    | zero =>
      obtain rfl : o' = o := by simpa using h
      exact ⟨y, rfl, hs.1⟩
    | succ i =>
      obtain ⟨y', h1, h2⟩ := stepsOK_at r kr (k + 1) hs.2 i o (by simpa using h)
      rw [show k + 1 + i = k + (i + 1) by omega] at h2
      exact ⟨y', by simpa using h1, h2⟩
theorem wp_alloc_new {o : Oper} {a : Act} {w : World} {K : Act → World → Prop} (t : TypeId) (cs : Array Value) (ho : o.op = .alloc t) (hz : ∀ w, (zeroValue t).run P w = .ok (.agg cs) w)
    (h : K (a.put o.dst (.pointer (some ⟨w.heap.size, 0, none⟩))) (w.alloc (.cells cs t))) : o.wp P a w K Q := by
  unfold Oper.wp execOp
  simp only [ho]
  go_simp
  exact h
/-- the region's wp -/
theorem region_facts {id : Nat} {l : List Oper} {a : Act} {w : World} (n : Nat) (fl : List Nat) (ks : List Yld) (hm : P.follows .mixedOrders = true) (hB : factsB .any l.toArray n fl = true)
    (hQ : ∀ c a (t : Tmp) x w, Q (.panic c) (a.put (some t) x) w → Q (.panic c) a w)
    (hsteps : StepsOK P Q ks fl (l.take n) a w (l.take n) ks 0)
    (htail : ∀ (v : Nat → Value) w', Below w.heap.size w w' → (∀ i, i < n → yldAt w ks i (v i) w') → (∀ i j, i < n → j < n → i ≠ j → isNew ks i = true → isNew ks j = true → v i ≠ v j) →
      wpList P l.toArray Q (l.drop n) (putAll (l.take n) v 0 a) w') : (Code.region id l.toArray true).wp P Q a w := by
  have hn : n < l.length := by
    have h := hB
    simp only [factsB, Bool.and_eq_true, decide_eq_true_eq] at h
    simpa using h.1.1.1.1.1.1.1.2
  refine wp_region_any hm ?_
  have key := any_of_facts (yldAt w ks) (fun i j x y => isNew ks i = true → isNew ks j = true → x ≠ y) hB hQ
    (fun i x w' w'' h hb => by
      unfold yldAt at h ⊢
      split
      · rename_i k hk
        rw [hk] at h
        exact yld_keep k x w' w'' h hb
      · trivial)
    (fun i o ho hi hfi v w' hb hf K hK => by
      obtain ⟨y, hy, hs⟩ := stepsOK_at _ _ _ hsteps i o (by simpa [hi] using ho)
      rw [Nat.zero_add] at hs
      cases y with
      | val x =>
        simp only [StepAt] at hs
        rw [if_neg (by rw [hfi]; simp)] at hs
        refine hs v w' hb hf K fun w'' hb2 => hK x w'' hb2 (by unfold yldAt; rw [hy]; rfl) fun j y _ _ => ⟨fun h => ?_, fun _ h => ?_⟩
        · unfold isNew at h; rw [hy] at h; cases h
        · unfold isNew at h; rw [hy] at h; cases h
      | new t cs =>
        obtain ⟨_, hop, hz⟩ := hs
        refine wp_alloc_new t cs hop hz (hK _ _ ((Below.refl _ _).alloc (Nat.le_refl _) _) (by unfold yldAt; rw [hy]; exact ⟨w'.heap.size, rfl, hb.size, by simp, heap_alloc_new w' _⟩) fun j y _ hj => ?_)
        have hne : isNew ks j = true → Value.pointer (some ⟨w'.heap.size, 0, none⟩) ≠ y := fun hnw e => by
          unfold isNew at hnw
          unfold yldAt at hj
          split at hnw
          · rename_i t' cs' hk
            rw [hk] at hj
            obtain ⟨g, e1, _, h2, _⟩ := hj
            rw [← e] at e1
            injection e1 with e1
            injection e1 with e1
            injection e1 with e1
            omega
          · cases hnw
        exact ⟨fun _ h => hne h, fun h _ e => hne h e.symm⟩)
    (fun i o ho hi hfi v hf => by
      obtain ⟨y, hy, hs⟩ := stepsOK_at _ _ _ hsteps i o (by simpa [hi] using ho)
      rw [Nat.zero_add] at hs
      cases y with
      | val x =>
        simp only [StepAt] at hs
        rw [if_pos hfi] at hs
        refine ⟨x, hs v (fun e he hb => ?_), fun w' => by unfold yldAt; rw [hy]; rfl, fun j y => ⟨fun h => ?_, fun _ h => ?_⟩⟩
        · obtain ⟨w', _, h⟩ := hf e he hb
          exact ⟨w', h⟩
        · unfold isNew at h; rw [hy] at h; cases h
        · unfold isNew at h; rw [hy] at h; cases h
      | new t cs => rw [hs.1] at hfi; cases hfi) htail n (Array.replicate l.toArray.size false) (slotsOf (l.take n) a) { w with drawn := w.drawn + 1 }
    ⟨by simp, fun j oj _ hl => (by rw [getD_replicate_false] at hl; cases hl), fun t _ ht => getD_in (by simpa using ht) (getD_replicate_false _ _)⟩
    (by
      unfold left
      have : (List.range n).countP (fun i => !(Array.replicate l.toArray.size false).getD i true) = (List.range n).length := by
        rw [List.countP_eq_length]
        intro i hi
        have hin : i < n := by simpa using hi
        have h1 : (Array.replicate l.toArray.size false).getD i true = false := getD_in (by simp; omega) (getD_replicate_false _ _)
        rw [h1]; rfl
      rw [this]; simp)
    ⟨rfl, rfl, rfl, Nat.le_refl _, fun _ _ => rfl⟩ (fun i hi hl => by rw [getD_replicate_false] at hl; cases hl) (fun i j _ _ hl => by rw [getD_replicate_false] at hl; cases hl)
  rw [putAll_slots (l.take n) a (slotsOf (l.take n) a) 0 (fun j o d ho hd => by unfold slotsOf; rw [Nat.zero_add, ho]; simp only [hd])] at key
  rw [show n + (l.length - n) = l.toArray.size by simp; omega] at key
  exact key
/-- a call, by its contract -/
theorem wp_call_fn {o : Oper} {a : Act} {w : World} {K : Act → World → Prop} (fn : FuncId) (args : Array Value) (hrun : (execOp a.eval o).run P w = .ok (.enter fn args) w)
    (hc : Calls P fn args w fun e w'' => ∃ x, e = .returned x ∧ K (a.put o.dst x) w'') : o.wp P a w K Q := by
  unfold Oper.wp
  rw [hrun]
  simp only [Oper.upon]
  refine hc.mono ?_
  rintro e w'' ⟨x, rfl, h⟩
  exact h
end
end Go.Proofs.YtflkhlhpifmocaaDoor
namespace Go.Proofs.YtflkhlhpifmocaaDoor
open Go.RowKit

/-- a Mod's cells: the modulus, what makes its lowest word -1, R, R R -/
def modF (m ni o s : Nat) (j : Nat) : Value := .int .u32 ((if j < 8 then wrd m j else if j = 8 then ni else if j < 17 then wrd o (j - 9) else wrd s (j - 17) : Nat) : Int)
def modC (m ni o s : Nat) : Array Value := tab 25 (modF m ni o s)
def wordsL (x : Nat) : List Value := (List.range 8).map (dgs .u32 4294967296 x)
theorem wordsL_arr (x : Nat) : (wordsL x).toArray = nums x := rfl
theorem wordsL_len (x : Nat) : (wordsL x).length = 8 := by simp [wordsL]
section
variable {w : World} {g m ni o s : Nat}
theorem mod_words (h : Has w g 101 (modC m ni o s)) : w.rangeAt g 0 (wordsL m) := by
  have := Has.range h 0 8 (by omega)
  have e : (List.range 8).map (fun j => modF m ni o s (0 + j)) = wordsL m := by
    unfold wordsL
    apply List.map_congr_left
    intro j hj
    have : j < 8 := by simpa using hj
    simp [modF, dgs, wrd, this]
  rw [e] at this
  exact this
theorem mod_one (h : Has w g 101 (modC m ni o s)) : w.rangeAt g 9 (wordsL o) := by
  have := Has.range h 9 8 (by omega)
  have e : (List.range 8).map (fun j => modF m ni o s (9 + j)) = wordsL o := by
    unfold wordsL
    apply List.map_congr_left
    intro j hj
    have h8 : j < 8 := by simpa using hj
    have h1 : ¬ 9 + j < 8 := by omega
    have h2 : ¬ 9 + j = 8 := by omega
    have h3 : 9 + j < 17 := by omega
    simp only [modF, dgs, wrd, if_neg h1, if_neg h2, if_pos h3, Nat.add_sub_cancel_left]
  rw [e] at this
  exact this
theorem mod_square (h : Has w g 101 (modC m ni o s)) : w.rangeAt g 17 (wordsL s) := by
  have := Has.range h 17 8 (by omega)
  have e : (List.range 8).map (fun j => modF m ni o s (17 + j)) = wordsL s := by
    unfold wordsL
    apply List.map_congr_left
    intro j hj
    have h8 : j < 8 := by simpa using hj
    have h1 : ¬ 17 + j < 8 := by omega
    have h2 : ¬ 17 + j = 8 := by omega
    have h3 : ¬ 17 + j < 17 := by omega
    simp only [modF, dgs, wrd, if_neg h1, if_neg h2, if_neg h3, Nat.add_sub_cancel_left]
  rw [e] at this
  exact this
theorem mod_neg (h : Has w g 101 (modC m ni o s)) : w.cell? ⟨g, 8, none⟩ = some (.int .u32 ((ni : Nat) : Int)) := h.cellTab 8 (by omega)
theorem mod_word (h : Has w g 101 (modC m ni o s)) (j : Nat) (hj : j < 8) : w.cell? ⟨g, j, none⟩ = some (.int .u32 ((wrd m j : Nat) : Int)) := by
  have := h.cellTab j (show j < 25 by omega)
  simp only [modF, if_pos hj] at this
  exact this
end
theorem infoL (x : Nat) : (Tryd.prog.info? 30).map (·.size) = some (wordsL x).length := by rw [wordsL_len]; kernel_rfl

/- a number that lies in the middle of a block: loaded in a list of operations, in a region that only reads, in any order -/
section
variable {w : World} {ops : Array Oper} {rest : List Oper} {op : Oper} {a : Act} {Q : Exit → Act → World → Prop}
theorem wp_load_num {K : Act → World → Prop} (p : Operand) (ho : op.op = .load 30 p) (b o : Nat) (hp : a.eval p = .pointer (some ⟨b, o, none⟩)) (x : Nat) (hc : w.rangeAt b o (wordsL x))
    (h : K (a.put op.dst (.agg (nums x))) w) : op.wp Tryd.prog a w K Q := by
  rw [← wordsL_arr] at h
  exact wp_load_mid 30 p ho b o hp (wordsL x) _ hc Tryd.underlying30 rfl (infoL x) h
theorem wpList_load_num (hgd : op.guard = none) (p : Operand) (ho : op.op = .load 30 p) (b o : Nat) (hp : a.eval p = .pointer (some ⟨b, o, none⟩)) (x : Nat) (hc : w.rangeAt b o (wordsL x))
    (h : wpList Tryd.prog ops Q rest (a.put op.dst (.agg (nums x))) w) : wpList Tryd.prog ops Q (op :: rest) a w :=
  wpList_plain hgd fun _ hK => wp_load_num p ho b o hp x hc (hK _ _ h)
theorem wpQ_load_num {C : World → Prop} {L : Act → Prop} (hw : Region.wanted op (yielded ops a.tmps) = true) (p : Operand) (ho : op.op = .load 30 p) (b o : Nat) (hp : a.eval p = .pointer (some ⟨b, o, none⟩)) (x : Nat) (hc : ∀ w', C w' → w'.rangeAt b o (wordsL x))
    (h : wpQuiet Tryd.prog ops C L rest (a.put op.dst (.agg (nums x)))) : wpQuiet Tryd.prog ops C L (op :: rest) a :=
  wpQ_load 30 p ho hw _ hp (.agg (nums x)) (fun w' hC => by rw [← wordsL_arr]; exact run_loadAt_mid w' b o 30 (wordsL x) _ (hc w' hC) Tryd.underlying30 rfl (infoL x)) h
end

/-- what is above the eight words -/
def hiN (T : Nat) : Nat := T / big
theorem Has.grown {w w' : World} {g l : Nat} {t : TypeId} {cs : Array Value} (h : Has w g t cs) (k : w.grownBy w' (some l)) (hne : g ≠ l) : Has w' g t cs :=
  (k.block g h.lt (by simp; omega)).trans h
/-- the two words of n + a b + c -/
def loP (n a b c : Nat) : Nat := (n + a * b + c) % 4294967296
def hiP (n a b c : Nat) : Nat := (n + a * b + c) / 4294967296
theorem hiP_lt {n a b c : Nat} (hn : n < 4294967296) (ha : a < 4294967296) (hb : b < 4294967296) (hc : c < 4294967296) : hiP n a b c < 4294967296 := by
  have := mul_le hn ha hb hc
  unfold hiP
  omega
set_option maxHeartbeats 400000 in
theorem addp_any (n a b c : Nat) (w : World) (hn : n < 4294967296) (ha : a < 4294967296) (hb : b < 4294967296) (hc : c < 4294967296) :
    Calls Tryd.prog 93 #[.int .u32 (n : Int), .int .u32 (a : Int), .int .u32 (b : Int), .int .u32 (c : Int)] w fun e w' => e = .returned (.tuple #[.int .u32 ((loP n a b c : Nat) : Int), .int .u32 ((hiP n a b c : Nat) : Int)]) ∧ w = w' := by
  have hle := mul_le hn ha hb hc
  obtain ⟨p, hp⟩ : ∃ p : Nat, p = a * b := ⟨_, rfl⟩
  have hpi : (a : Int) * (b : Int) = (p : Int) := by rw [hp]; simp
  have e1 : (a : Int) * (b : Int) % 18446744073709551616 = (p : Int) := by rw [hpi]; omega
  have e2 : ((n : Int) + (p : Int)) % 18446744073709551616 = ((n + p : Nat) : Int) := by omega
  have e3 : (((n + p : Nat) : Int) + (c : Int)) % 18446744073709551616 = ((n + p + c : Nat) : Int) := by omega
  have hlo : loP n a b c = (n + p + c) % 4294967296 := by rw [loP, hp]
  have hhi : hiP n a b c = (n + p + c) / 4294967296 := by rw [hiP, hp]
  rw [← hp] at hle
  rw [hlo, hhi]
  clear hlo hhi hp hpi
  obtain ⟨q, hq⟩ : ∃ q : Nat, q = n + p := ⟨_, rfl⟩
  obtain ⟨r, hr⟩ : ∃ r : Nat, r = q + c := ⟨_, rfl⟩
  rw [← hq] at e2 e3 hle ⊢
  rw [← hr] at e3 hle ⊢
  clear hq hr
  rw [← IntKind.wrap_u64] at e1 e2 e3
  go_enter Tryd.func93, Tryd.ntmps93
  go_wp2
  go_ret2
  refine ⟨?_, rfl⟩
  congr 3 <;> omega
end Go.Proofs.YtflkhlhpifmocaaDoor
namespace Go.Proofs.YtflkhlhpifmocaaDoor
open Go.RowKit

abbrev BB : Nat := 4294967296
/-- k words of the next number are written over the old ones -/
def lowF (T V k j : Nat) : Nat := if j < k then wrd V (j + 1) else wrd T j
def lowA (T V k : Nat) : Array Value := tab 8 fun j => .int .u32 ((lowF T V k j : Nat) : Int)
theorem lowA_start (T V : Nat) : lowA T V 0 = nums T := tab_ext _ _ _ fun j _ => by simp [lowF, dgs, wrd]
theorem lowA_set (T V k : Nat) : (lowA T V k).setIfInBounds k (.int .u32 ((wrd V (k + 1) : Nat) : Int)) = lowA T V (k + 1) := by
  unfold lowA
  rw [tab_set]
  refine tab_ext _ _ _ fun j _ => ?_
  unfold lowF
  by_cases h : j = k
  · subst h; simp
  · rw [if_neg h]
    by_cases h2 : j < k
    · rw [if_pos h2, if_pos (by omega)]
    · rw [if_neg h2, if_neg (by omega)]
theorem lowA_end (T w b m ni : Nat) : lowA T (sumN BB T w b m ni) 8 = nums (stepN BB T w b m ni) := tab_ext _ _ _ fun j hj => by
  unfold lowF dgs wrd
  rw [if_pos hj, stepN_dg]
theorem lowF_ge {T V k j : Nat} (h : k ≤ j) : lowF T V k j = wrd T j := by unfold lowF; rw [if_neg (by omega)]
def carB (T w b k : Nat) : Nat := mcar BB T w b k
def carM (T w b m ni k : Nat) : Nat := mcar BB (T + w * b) (facN BB T w b ni) m k
theorem carB_lt {w : Nat} (hw : w < 4294967296) (T b k : Nat) : carB T w b k < 4294967296 := mcar_lt (by decide) hw _ _ _
theorem carM_lt (T w b m ni k : Nat) : carM T w b m ni k < 4294967296 := mcar_lt (by decide) (facN_lt (by decide) _ _ _ _) _ _ _
theorem lo_b (T w b k : Nat) : loP (wrd T k) w (wrd b k) (carB T w b k) = wrd (T + w * b) k := mcar_dg (by decide) T w b k
theorem hi_b (T w b k : Nat) : hiP (wrd T k) w (wrd b k) (carB T w b k) = carB T w b (k + 1) := mcar_step (by decide) T w b k
theorem lo_m (T w b m ni k : Nat) : loP (wrd (T + w * b) k) (facN BB T w b ni) (wrd m k) (carM T w b m ni k) = wrd (sumN BB T w b m ni) k := mcar_dg (by decide) _ _ m k
theorem hi_m (T w b m ni k : Nat) : hiP (wrd (T + w * b) k) (facN BB T w b ni) (wrd m k) (carM T w b m ni k) = carM T w b m ni (k + 1) := mcar_step (by decide) _ _ m k
theorem fac_eq (T w b ni : Nat) : wrd (T + w * b) 0 * ni % 4294967296 = facN BB T w b ni := by simp [wrd, dg, facN]
theorem car_zeros (T w b m ni : Nat) : carB T w b 0 = 0 ∧ carM T w b m ni 0 = 0 := ⟨mcar_zero _ _ _ _, mcar_zero _ _ _ _⟩

set_option maxRecDepth 100000 in
set_option maxHeartbeats 1000000 in
theorem step_any (T x b m ni o s g l β : Nat) (w : World) (hG : Has w g 101 (modC m ni o s)) (hL : Has w l 30 (nums T)) (hB : Has w β 30 (nums b)) (hgl : g ≠ l) (hbl : β ≠ l)
    (hx : x < 4294967296) (hT : T / big < 4294967296) (_hn : ni < 4294967296) (hb : b < big) (hm : m < big) :
    Calls Tryd.prog 83 #[.pointer (some ⟨g, 0, none⟩), .pointer (some ⟨l, 0, none⟩), .int .u32 ((hiN T : Nat) : Int), .int .u32 (x : Int), .pointer (some ⟨β, 0, none⟩)] w fun e w' =>
      e = .returned (.int .u32 ((hiN (stepN BB T x b m ni) : Nat) : Int)) ∧ Has w' l 30 (nums (stepN BB T x b m ni)) ∧ w.grownBy w' (some l) := by
  unfold hiN
  have htop : T / big + carB T x b 8 + carM T x b m ni 8 = sumN BB T x b m ni / big := (sumN_top (n := 8) (by decide) hb hm).symm
  have hhigh : stepN BB T x b m ni / big = sumN BB T x b m ni / big / 4294967296 := stepN_high (n := 8)
  have HT := Lib.hid htop
  have HH := Lib.hid hhigh
  have LM := Lib.hid (fun k => And.intro (lo_m T x b m ni k) (hi_m T x b m ni k))
  have LB := Lib.hid (fun k => And.intro (lo_b T x b k) (hi_b T x b k))
  have HF := Lib.hid (fac_eq T x b ni)
  have HE := Lib.hid (lowA_end T x b m ni)
  have hfl : facN BB T x b ni < 4294967296 := facN_lt (by decide) _ _ _ _
  have h7 : wrd (sumN BB T x b m ni) 8 = sumN BB T x b m ni / big % 4294967296 := rfl
  have H7 := Lib.hid h7
  have hz := car_zeros T x b m ni
  have HZ := Lib.hid hz
  clear htop hhigh h7 hb hm hz
  obtain ⟨t, ht⟩ : ∃ t, t = T / big := ⟨_, rfl⟩
  have HTT := Lib.hid ht
  rw [← ht] at hT ⊢
  clear ht
  have LBF := fun k => carB_lt hx T b k
  have LMF := fun k => carM_lt T x b m ni k
  generalize hf : facN BB T x b ni = f at *
  generalize hS : sumN BB T x b m ni = S at *
  generalize hQ : stepN BB T x b m ni = Q at *
  generalize hU : T + x * b = U at *
  generalize hq1 : Q / big = z at *
  clear hq1
  generalize hcb : carB T x b = cB at *
  generalize hcm : carM T x b m ni = cM at *
  clear hf hS hQ hU hcb hcm
  have A1 : ∀ W, Calls Tryd.prog 93 #[.int .u32 ((wrd T 0 : Nat) : Int), .int .u32 (x : Int), .int .u32 ((wrd b 0 : Nat) : Int), .int .u32 0] W fun e w' => e = .returned (.tuple #[.int .u32 ((wrd U 0 : Nat) : Int), .int .u32 ((cB 1 : Nat) : Int)]) ∧ W = w' := fun W => by
    have h := addp_any (wrd T 0) x (wrd b 0) 0 W (wrd_lt _ _) hx (wrd_lt _ _) (by omega)
    have e := LB.out 0
    rw [HZ.out.1] at e
    rw [e.1, e.2] at h
    exact h
  have A2 : ∀ W, Calls Tryd.prog 93 #[.int .u32 ((wrd U 0 : Nat) : Int), .int .u32 (f : Int), .int .u32 ((wrd m 0 : Nat) : Int), .int .u32 0] W fun e w' => e = .returned (.tuple #[.int .u32 ((wrd S 0 : Nat) : Int), .int .u32 ((cM 1 : Nat) : Int)]) ∧ W = w' := fun W => by
    have h := addp_any (wrd U 0) f (wrd m 0) 0 W (wrd_lt _ _) hfl (wrd_lt _ _) (by omega)
    have e := LM.out 0
    rw [HZ.out.2] at e
    rw [e.1, e.2] at h
    exact h
  have A3 : ∀ k W, Calls Tryd.prog 93 #[.int .u32 ((wrd T k : Nat) : Int), .int .u32 (x : Int), .int .u32 ((wrd b k : Nat) : Int), .int .u32 ((cB k : Nat) : Int)] W fun e w' => e = .returned (.tuple #[.int .u32 ((wrd U k : Nat) : Int), .int .u32 ((cB (k + 1) : Nat) : Int)]) ∧ W = w' := fun k W => by
    have h := addp_any (wrd T k) x (wrd b k) (cB k) W (wrd_lt _ _) hx (wrd_lt _ _) (LBF k)
    rw [(LB.out k).1, (LB.out k).2] at h
    exact h
  have A4 : ∀ k W, Calls Tryd.prog 93 #[.int .u32 ((wrd U k : Nat) : Int), .int .u32 (f : Int), .int .u32 ((wrd m k : Nat) : Int), .int .u32 ((cM k : Nat) : Int)] W fun e w' => e = .returned (.tuple #[.int .u32 ((wrd S k : Nat) : Int), .int .u32 ((cM (k + 1) : Nat) : Int)]) ∧ W = w' := fun k W => by
    have h := addp_any (wrd U k) f (wrd m k) (cM k) W (wrd_lt _ _) hfl (wrd_lt _ _) (LMF k)
    rw [(LM.out k).1, (LM.out k).2] at h
    exact h
  have hmul : IntKind.u32.wrap (((wrd U 0 : Nat) : Int) * (ni : Int)) = (f : Int) := by
    rw [IntKind.wrap_u32, ← Int.natCast_mul, ← HF.out]
    omega
  have htl : t + cB 8 + cM 8 < 12884901888 := by have := LBF 8; have := LMF 8; omega
  have HTL := Lib.hid htl
  have HA := Lib.hid A1
  have HA2 := Lib.hid A2
  have HA3 := Lib.hid A3
  have HA4 := Lib.hid A4
  clear A1 A2 A3 A4 htl LBF LMF hx _hn hfl hT
  go_enter Tryd.func83, Tryd.ntmps83
  have c0 := nums_at hL 0 (by omega)
  have d0 := nums_at hB 0 (by omega)
  go_wp2_with fail
  go_quiet ((go_at_call 93; exact Calls.quiet_of_same ((HA.out _).mono fun _ _ ⟨he, hw⟩ => ⟨he, hw.symm⟩)))
  have hG' := hG.drewN nq
  have hL' := hL.drewN nq
  have hB' := hB.drewN nq
  have hO : w.grownBy (w.drewN nq) (some l) := only_drewN _ _ _
  clear c0 d0 hG hL hB
  generalize hq : Go.World.drewN _ nq = w1 at *
  clear hq
  have n8 := mod_neg hG'
  have m0 := mod_word hG' 0 (by omega)
  go_wp2_with (go_at_call 93; refine (HA2.out _).mono ?_; rintro e w' ⟨rfl, rfl⟩)
  clear n8 m0 hmul
  go_loopw [12, 15, 16, 17] (fun vb vm vi _ wr => ∃ k : Nat, k ≤ 7 ∧ vb = .int .u32 ((cB (k + 1) : Nat) : Int) ∧ vm = .int .u32 ((cM (k + 1) : Nat) : Int) ∧ vi = .int .i64 ((k : Int) + 1) ∧
      Has wr g 101 (modC m ni o s) ∧ Has wr l 30 (lowA T S k) ∧ Has wr β 30 (nums b) ∧ w.grownBy wr (some l)) (fun _ _ vi _ _ => 8 - (intOf vi).toNat)
  case atStart => exact ⟨0, by omega, rfl, rfl, rfl, hG', by rw [lowA_start]; exact hL', hB', hO⟩
  case round =>
    obtain ⟨k, hk, rfl, rfl, rfl, h1, h2, h3, hO2⟩ := hrel
    clear hG' hL' hB' hO
    by_cases hlt : k < 7
    · have dk : (k : Int) + 1 < 8 := by omega
      have c1 := h2.cellTab (k + 1) (by omega)
      rw [lowF_ge (by omega)] at c1
      have c2 := nums_at h3 (k + 1) (by omega)
      go_wp2_with fail
      go_quiet ((go_at_call 93; exact Calls.quiet_of_same ((HA3.out (k + 1) _).mono fun _ _ ⟨he, hw⟩ => ⟨he, hw.symm⟩)))
      replace h1 := h1.drewN nq
      replace h2 := h2.drewN nq
      replace h3 := h3.drewN nq
      replace hO2 := only_trans hO2 (only_drewN wr nq (some l))
      clear c1 c2
      generalize hq : Go.World.drewN _ nq = wq at *
      clear hq
      have c3 := mod_word h1 (k + 1) (by omega)
      have c4 := h2.cellTab k (by omega)
      have f4 := h2.free k
      go_wp2_with fail
      go_region_with (go_at_call 93; refine (HA4.out (k + 1) _).mono ?_; rintro e w' ⟨rfl, rfl⟩)
      all_goals
        go_wp2_with fail
        go_roundw
      all_goals first
        | (refine ⟨k + 1, by omega, by go_num, by go_num, by go_num, h1.drew.far (by simp [hgl]) _, ?_, h3.drew.far (by simp [hbl]) _, only_trans (only_trans hO2 (only_drewN _ 1 _)) (only_setCell _ _ _ _)⟩
           have h := h2.drew.set k (.int .u32 ((wrd S (k + 1) : Nat) : Int))
           rw [lowA_set] at h
           exact h)
        | (simp [intOf]; omega)
    · have hk7 : k = 7 := by omega
      have h2' : Has wr l 30 (lowA T S 7) := by rw [← hk7]; exact h2
      have hB8 : cB (k + 1) = cB 8 := by rw [hk7]
      have hM8 : cM (k + 1) = cM 8 := by rw [hk7]
      have c4 := h2'.cellTab 7 (by omega)
      have f4 := h2'.free 7
      have dk : ¬ (k : Int) + 1 < 8 := by omega
      have htl := HTL.out
      have e2 : IntKind.u64.wrap ((t : Int) + ((cB (k + 1) : Nat) : Int)) = ((t + cB 8 : Nat) : Int) := by rw [hB8, IntKind.wrap_u64]; omega
      have e3 : IntKind.u64.wrap (((t + cB 8 : Nat) : Int) + ((cM (k + 1) : Nat) : Int)) = ((S / big : Nat) : Int) := by rw [hM8, IntKind.wrap_u64, ← HT.out, ← HTT.out]; omega
      have w1' : IntKind.u64.wrap (t : Int) = (t : Int) := by rw [IntKind.wrap_u64]; omega
      have w2' : IntKind.u64.wrap ((cB (k + 1) : Nat) : Int) = ((cB (k + 1) : Nat) : Int) := by rw [hB8, IntKind.wrap_u64]; omega
      have w3' : IntKind.u64.wrap ((cM (k + 1) : Nat) : Int) = ((cM (k + 1) : Nat) : Int) := by rw [hM8, IntKind.wrap_u64]; omega
      have HSL : S / big < 12884901888 := by rw [← HT.out, ← HTT.out]; exact htl
      have hv1 : z = S / big / 4294967296 := HH.out
      have hw8 := H7.out
      have he := HE.out
      generalize hr : t + cB 8 = r at *
      generalize hv : S / big = v at *
      generalize hb1 : cB (k + 1) = y1 at *
      generalize hb2 : cM (k + 1) = y2 at *
      obtain ⟨y, hy⟩ : ∃ y, y = v % 4294967296 := ⟨_, rfl⟩
      have e4 : (v : Int) % 4294967296 = (y : Int) := by omega
      have e5 : (v : Int) / 4294967296 % 4294967296 = (z : Int) := by omega
      rw [← hy] at hw8
      have hS := h2'.set 7 (.int .u32 ((y : Nat) : Int))
      rw [← hw8, lowA_set, he] at hS
      have hO3 := only_trans hO2 (only_setCell wr l 7 (.int .u32 ((y : Nat) : Int)))
      rw [hw8] at hS
      have HS := Lib.hid (And.intro hS hO3)
      clear htl hlt hS hO3 hO2 h2 h2' h1 h3 hk hk7 hB8 hM8 hb1 hb2 hr hv HSL hv1 hw8 hy he HF LB LM HZ HA HA2 HA3 HA4 HTT HE H7 HH HT HTL
      go_wp2_with fail
      go_ret
      exact ⟨rfl, HS.out⟩
end Go.Proofs.YtflkhlhpifmocaaDoor
namespace Go.Proofs.YtflkhlhpifmocaaDoor
open Go.RowKit

theorem infVN : (Tryd.prog.info? 30).map (fun i => (i.zero, i.size)) = some (some (.agg (nums 0)), 8) := by kernel_rfl
theorem zeroVN (w : World) : (zeroValue 30).run Tryd.prog w = .ok (.agg (nums 0)) w := (zero_of_info infVN).1 w
theorem low_cmp {T m : Nat} (_hT : T < 2 * m) (hm : m < big) : T / big < under (T % big) m ↔ T < m := by
  unfold under
  have hb := big_pos
  by_cases h : T < big
  · rw [Nat.div_eq_of_lt h, Nat.mod_eq_of_lt h]
    by_cases h2 : T < m <;> simp [h2]
  · have h1 : 1 ≤ T / big := (Nat.le_div_iff_mul_le hb).2 (by omega)
    constructor
    · intro h2
      split at h2 <;> omega
    · intro h2; omega
theorem low_val {T m : Nat} (hT : T < 2 * m) (hm : m < big) (h : ¬ T < m) : nums (T % big + big - m) = nums (T % m) := by
  rw [← nums_mod (T % big + big - m), ← nums_mod (T % m)]
  have e : T % m = T - m := by rw [Nat.mod_eq_sub_mod (by omega), Nat.mod_eq_of_lt (by omega)]
  rw [e]
  congr 1
  by_cases h2 : T < big
  · rw [Nat.mod_eq_of_lt h2, show T + big - m = (T - m) + big by omega, Nat.add_mod_right]
  · have e2 : T % big = T - big := by rw [Nat.mod_eq_sub_mod (by omega), Nat.mod_eq_of_lt (by omega)]
    rw [e2]
    congr 1
    omega
attribute [local go_sem] zeroNum
set_option maxRecDepth 100000 in
set_option maxHeartbeats 1000000 in
theorem lowered_any (T m ni o s g : Nat) (w : World) (hG : Has w g 101 (modC m ni o s)) (hT : T < 2 * m) (hm : m < big) :
    Calls Tryd.prog 84 #[.pointer (some ⟨g, 0, none⟩), .agg (nums T), .int .u32 ((hiN T : Nat) : Int)] w fun e w' => e = .returned (.agg (nums (T % m))) ∧ Below w.heap.size w w' := by
  unfold hiN
  have cS := fun W => sub_any (T % big) m W (Nat.mod_lt _ big_pos) hm
  rw [nums_mod] at cS
  have hcmp := low_cmp hT hm
  have hval := low_val hT hm
  have hv2 : T < m → nums T = nums (T % m) := fun h => by rw [Nat.mod_eq_of_lt h]
  clear hT hm
  generalize hh : T / big = h at *
  clear hh
  generalize hu : under (T % big) m = u at *
  generalize hd : T % big + big - m = d at *
  generalize hx : T % m = x at *
  clear hu hd hx
  have hA : Has ((w.alloc (.cells (nums T) 30)).alloc (.cells (nums 0) 30)) w.heap.size 30 (nums T) := (Has.new w _ _).alloc _
  have hR : Has ((w.alloc (.cells (nums T) 30)).alloc (.cells (nums 0) 30)) (w.heap.size + 1) 30 (nums 0) := Has.new' (by simp)
  have hb0 : Below w.heap.size w ((w.alloc (.cells (nums T) 30)).alloc (.cells (nums 0) 30)) := ((Below.refl _ _).alloc (Nat.le_refl _) _).alloc (by simp) _
  replace hG := hG.after hb0
  have n0 := nums_ne 0
  go_enter Tryd.func84, Tryd.ntmps84
  go_wp2_with fail
  generalize (w.alloc _).alloc _ = W at *
  refine region_facts 10 [8] [.val (.agg (nums T)), .val (.pointer (some ⟨g, 0, none⟩)), .val (.pointer (some ⟨g, 0, none⟩)), .val (.pointer (some ⟨g, 0, none⟩)), .val (.agg (nums m)), .val (.tuple #[.agg (nums d), .int .u32 ((u : Nat) : Int)]), .val (.tuple #[.agg (nums d), .int .u32 ((u : Nat) : Int)]), .val (.agg (nums d)), .val (.int .u32 ((u : Nat) : Int)), .new 30 (nums 0)]
    (by kernel_rfl) (by kernel_rfl) (fun _ _ _ _ _ h => h) ?_ ?_
  · simp only [List.take_succ_cons, List.take_zero, StepsOK]
    refine ⟨?_, ?_, ?_, ?_, ?_, ?_, ?_, ?_, ?_, ?_, trivial⟩
    · intro v w' hb hf K hKt
      simp only [putAll, Act.put, List.setIfInBounds_toArray, List.set_cons_zero, List.set_cons_succ, Nat.zero_add, Nat.reduceAdd] at hKt ⊢
      exact wp_load_row 30 _ rfl (w.heap.size) rfl 30 _ (0, 0) _ (hA.after hb) Tryd.underlying30 rfl (infoNum _) (hKt _ (Below.refl _ _))
    · intro v w' hb hf K hKt
      simp only [putAll, Act.put, List.setIfInBounds_toArray, List.set_cons_zero, List.set_cons_succ, Nat.zero_add, Nat.reduceAdd] at hKt ⊢
      go_simp
      exact hKt _ (Below.refl _ _)
    · intro v w' hb hf K hKt
      have f1 : v 1 = _ := hf ⟨1, .data⟩ (by simp) rfl
      simp only [putAll, Act.put, List.setIfInBounds_toArray, List.set_cons_zero, List.set_cons_succ, Nat.zero_add, Nat.reduceAdd] at hKt ⊢
      rw [f1] at hKt ⊢
      go_simp
      exact hKt _ (Below.refl _ _)
    · intro v w' hb hf K hKt
      have f2 : v 2 = _ := hf ⟨2, .data⟩ (by simp) rfl
      simp only [putAll, Act.put, List.setIfInBounds_toArray, List.set_cons_zero, List.set_cons_succ, Nat.zero_add, Nat.reduceAdd] at hKt ⊢
      rw [f2] at hKt ⊢
      go_simp
      exact hKt _ (Below.refl _ _)
    · intro v w' hb hf K hKt
      have f3 : v 3 = _ := hf ⟨3, .data⟩ (by simp) rfl
      simp only [putAll, Act.put, List.setIfInBounds_toArray, List.set_cons_zero, List.set_cons_succ, Nat.zero_add, Nat.reduceAdd] at hKt ⊢
      rw [f3] at hKt ⊢
      exact wp_load_num _ rfl (g) 0 rfl m (mod_words (hG.after hb)) (hKt _ (Below.refl _ _))
    · intro v w' hb hf K hKt
      have f0 : v 0 = _ := hf ⟨0, .data⟩ (by simp) rfl
      have f4 : v 4 = _ := hf ⟨4, .data⟩ (by simp) rfl
      simp only [putAll, Act.put, List.setIfInBounds_toArray, List.set_cons_zero, List.set_cons_succ, Nat.zero_add, Nat.reduceAdd] at hKt ⊢
      rw [f0, f4] at hKt ⊢
      go_simp
      refine (cS w').mono ?_
      rintro e w'' ⟨rfl, hb2⟩
      exact hKt _ hb2
    · intro v w' hb hf K hKt
      have f5 : v 5 = _ := hf ⟨5, .data⟩ (by simp) rfl
      simp only [putAll, Act.put, List.setIfInBounds_toArray, List.set_cons_zero, List.set_cons_succ, Nat.zero_add, Nat.reduceAdd] at hKt ⊢
      rw [f5] at hKt ⊢
      go_simp
      exact hKt _ (Below.refl _ _)
    · intro v w' hb hf K hKt
      have f6 : v 6 = _ := hf ⟨6, .data⟩ (by simp) rfl
      simp only [putAll, Act.put, List.setIfInBounds_toArray, List.set_cons_zero, List.set_cons_succ, Nat.zero_add, Nat.reduceAdd] at hKt ⊢
      rw [f6] at hKt ⊢
      go_simp
      exact hKt _ (Below.refl _ _)
    · intro v hf w'
      obtain ⟨_, f6⟩ := hf ⟨6, .data⟩ (by simp) rfl
      replace f6 : v 6 = _ := f6
      simp only [putAll, Act.put, List.setIfInBounds_toArray, List.set_cons_zero, List.set_cons_succ, Nat.zero_add, Nat.reduceAdd]
      rw [f6]
      go_simp
    · exact ⟨rfl, rfl, zeroVN⟩
  intro v w1 hb hF hD
  have f0 : v 0 = _ := hF 0 (by decide)
  have f1 : v 1 = _ := hF 1 (by decide)
  have f2 : v 2 = _ := hF 2 (by decide)
  have f3 : v 3 = _ := hF 3 (by decide)
  have f4 : v 4 = _ := hF 4 (by decide)
  have f5 : v 5 = _ := hF 5 (by decide)
  have f6 : v 6 = _ := hF 6 (by decide)
  have f7 : v 7 = _ := hF 7 (by decide)
  have f8 : v 8 = _ := hF 8 (by decide)
  obtain ⟨gd, f9, hg9, hl9, hz9⟩ := hF 9 (by decide)
  replace hz9 : Has w1 gd 30 (nums 0) := hz9
  simp only [List.take_succ_cons, List.take_zero, List.drop_succ_cons, List.drop_zero, putAll, Act.put, List.setIfInBounds_toArray, List.set_cons_zero, List.set_cons_succ, Nat.zero_add, Nat.reduceAdd]
  rw [f0, f1, f2, f3, f4, f5, f6, f7, f8, f9]
  clear hF hD f0 f1 f2 f3 f4 f5 f6 f7 f8 f9
  have hs9 := hz9
  have hBW := below_setRow (hb) (g := gd) hg9 (nums d)
  have hD := (hz9).setRow (nums d)
  replace hA := hA.after hBW
  replace hG := hG.after hBW
  replace hR := hR.after hBW
  replace hb0 := below_trans hb0 hBW
  have HC := Lib.hid hcmp
  have HV := Lib.hid hv2
  have HW := Lib.hid hval
  clear cS hcmp hv2 hval
  go_wp2_with (first | refine wpList_store_row rfl 30 _ _ rfl gd _ rfl rfl 30 (nums 0) hs9 (infoNum _) (by simp only [nums_size]) (tab_oneCell _ _ fun _ => rfl) ?_ | refine wpList_load_has 30 _ rfl (w.heap.size) rfl rfl 30 _ hA _ Tryd.underlying30 rfl (infoNum _) ?_ | refine wpList_load_has 30 _ rfl (gd) rfl rfl 30 _ hD _ Tryd.underlying30 rfl (infoNum _) ?_ | refine wpList_store_row rfl 30 _ _ rfl (w.heap.size + 1) _ rfl rfl 30 _ hR (infoNum _) (by simp only [nums_size]) (tab_oneCell _ _ fun _ => rfl) ?_)
  clear hBW hb hs9 hz9 hg9 hl9
  · have e := HV.out (HC.out.1 (by assumption))
    exact bodyPost_ret (v := .agg (nums x)) (results_cell_row rfl _ _ (w.heap.size + 1) 30 _ _ _ rfl (by rw [← e]; exact hR.setRow _) Tryd.underlying30 rfl (infoNum _)) rfl ⟨rfl, below_setRow hb0 (by omega) _⟩
  · have e := HW.out (fun z => absurd (HC.out.2 z) (by assumption))
    exact bodyPost_ret (v := .agg (nums x)) (results_cell_row rfl _ _ (w.heap.size + 1) 30 _ _ _ rfl (by rw [← e]; exact hR.setRow _) Tryd.underlying30 rfl (infoNum _)) rfl ⟨rfl, below_setRow hb0 (by omega) _⟩
end Go.Proofs.YtflkhlhpifmocaaDoor
namespace Go.Proofs.YtflkhlhpifmocaaDoor
open Go.RowKit

attribute [local go_sem] zeroNum
set_option maxRecDepth 100000 in
set_option maxHeartbeats 1000000 in
theorem addm_any (a b m ni o s g : Nat) (w : World) (hG : Has w g 101 (modC m ni o s)) (ha : a < m) (hb : b < m) (hm : m < big) :
    Calls Tryd.prog 66 #[.pointer (some ⟨g, 0, none⟩), .agg (nums a), .agg (nums b)] w fun e w' => e = .returned (.agg (nums ((a + b) % m))) ∧ Below w.heap.size w w' := by
  have cA := fun W => add_any a b W (by omega) (by omega)
  have cL := fun W (h : Has W g 101 (modC m ni o s)) => lowered_any (a + b) m ni o s g W h (by omega) hm
  have e : over a b = hiN (a + b) := rfl
  rw [e] at cA
  clear e ha hb hm
  generalize hiN (a + b) = h at *
  generalize hx : (a + b) % m = x at *
  clear hx
  generalize a + b = T at *
  have n0 := nums_ne 0
  have hA : Has (((w.alloc (.cells (nums a) 30)).alloc (.cells (nums b) 30)).alloc (.cells (nums 0) 30)) (w.heap.size) 30 (nums a) := ((Has.new w _ _).alloc _).alloc _
  have hB : Has (((w.alloc (.cells (nums a) 30)).alloc (.cells (nums b) 30)).alloc (.cells (nums 0) 30)) (w.heap.size + 1) 30 (nums b) := (Has.new' (by simp)).alloc _
  have hR : Has (((w.alloc (.cells (nums a) 30)).alloc (.cells (nums b) 30)).alloc (.cells (nums 0) 30)) (w.heap.size + 1 + 1) 30 (nums 0) := Has.new' (by simp)
  have hb0 : Below w.heap.size w (((w.alloc (.cells (nums a) 30)).alloc (.cells (nums b) 30)).alloc (.cells (nums 0) 30)) := (((Below.refl _ _).alloc (Nat.le_refl _) _).alloc (by simp <;> omega) _).alloc (by simp <;> omega) _
  replace hG := hG.after hb0
  go_enter Tryd.func66, Tryd.ntmps66
  go_wp2_with (first | refine wpList_load_has 30 _ rfl _ rfl rfl 30 _ hA _ Tryd.underlying30 rfl (infoNum _) ?_ | refine wpList_load_has 30 _ rfl _ rfl rfl 30 _ hB _ Tryd.underlying30 rfl (infoNum _) ?_)
  refine (cA _).mono ?_
  rintro e w1 ⟨rfl, hx⟩
  have hN := put_new w1 30 (nums 0) (nums T)
  replace hR := (hR.after hx).after hN.2
  replace hG := (hG.after hx).after hN.2
  replace hb0 := below_trans (below_trans hb0 hx) hN.2
  have hT := hN.1
  clear hx hN hA hB
  go_wp2_with (first | refine wpList_store_row rfl 30 _ _ rfl w1.heap.size _ rfl rfl 30 (nums 0) (Has.new' rfl) (infoNum _) (by simp only [nums_size]) (tab_oneCell _ _ fun _ => rfl) ?_ | refine wpList_load_has 30 _ rfl _ rfl rfl 30 _ hT _ Tryd.underlying30 rfl (infoNum _) ?_)
  refine (cL _ hG).mono ?_
  rintro e w2 ⟨rfl, hx⟩
  replace hR := hR.after hx
  replace hb0 := below_trans hb0 hx
  clear hx hT
  go_wp2_with (first | refine wpList_store_row rfl 30 _ _ rfl (w.heap.size + 1 + 1) _ rfl rfl 30 _ hR (infoNum _) (by simp only [nums_size]) (tab_oneCell _ _ fun _ => rfl) ?_)
  exact bodyPost_ret (v := .agg (nums x)) (results_cell_row rfl _ _ (w.heap.size + 1 + 1) 30 _ _ _ rfl (hR.setRow _) Tryd.underlying30 rfl (infoNum _)) rfl ⟨rfl, below_setRow hb0 (by omega) _⟩
theorem rr_big : RR = 4294967296 ^ 8 := by decide +kernel
theorem big_rr : big = RR := by decide +kernel
theorem prod_redc {a b m ni : Nat} (hodd : m % 2 = 1) (hinv : (m % BB * ni + 1) % BB = 0) (ha : a < big) (hab : a * b < big * m) : prodN BB a b m ni 8 < 2 * m ∧ prodN BB a b m ni 8 % m = redc m (a * b) := by
  obtain ⟨h1, h2⟩ := prodN_end (B := BB) (n := 8) (by decide) hinv a b (by omega) ha hab
  refine ⟨h1, redc_unique m _ _ hodd (Nat.mod_lt _ (by omega)) ?_⟩
  rw [← h2, Nat.mul_mod, Nat.mod_mod, ← Nat.mul_mod, rr_big]
theorem prod_high {a b m ni k : Nat} (hm0 : 0 < m) (hinv : (m % BB * ni + 1) % BB = 0) (hb : b < big) (hm : m < big) : prodN BB a b m ni k / big < 4294967296 := by
  have := prodN_lt (B := BB) (by decide) hinv a b k hm0
  rw [Nat.div_lt_iff_lt_mul big_pos]
  omega
set_option maxRecDepth 100000 in
set_option maxHeartbeats 1000000 in
theorem product_any (a b m ni o s g : Nat) (w : World) (hG : Has w g 101 (modC m ni o s)) (hn : ni < 4294967296) (hinv : (m % BB * ni + 1) % BB = 0) (hodd : m % 2 = 1) (hm : m < big) (ha : a < big) (hb : b < big) (hab : a * b < big * m) :
    Calls Tryd.prog 63 #[.pointer (some ⟨g, 0, none⟩), .agg (nums a), .agg (nums b)] w fun e w' => e = .returned (.agg (nums (redc m (a * b)))) ∧ Below w.heap.size w w' := by
  have hP := prod_redc hodd hinv ha hab
  have hH := fun k => prod_high (a := a) (k := k) (show 0 < m by omega) hinv hb hm
  have HS := Lib.hid (fun k β l W h1 h2 h3 hgl hbl => step_any (prodN BB a b m ni k) (wrd a k) b m ni o s g l β W h1 h2 h3 hgl hbl (wrd_lt a k) (hH k) hn hb hm)
  have HL := Lib.hid (fun W h => lowered_any (prodN BB a b m ni 8) m ni o s g W h hP.1 hm)
  have hres : prodN BB a b m ni 8 % m = redc m (a * b) := hP.2
  rw [hres] at HL
  clear hres hP hH hn hinv hodd hm ha hb hab
  generalize redc m (a * b) = x at *
  have e0 : prodN BB a b m ni 0 = 0 := rfl
  have es : ∀ k, stepN BB (prodN BB a b m ni k) (wrd a k) b m ni = prodN BB a b m ni (k + 1) := fun k => rfl
  simp only [es] at HS
  generalize prodN BB a b m ni = F at *
  have z0 : hiN 0 = 0 := by decide +kernel
  have E0 := Lib.hid (And.intro e0 z0)
  clear e0 es z0
  have n0 := nums_ne 0
  have hA : Has ((((w.alloc (.cells (nums a) 30)).alloc (.cells (nums b) 30)).alloc (.cells (nums 0) 30)).alloc (.cells (nums 0) 30)) (w.heap.size) 30 (nums a) := (((Has.new w _ _).alloc _).alloc _).alloc _
  have hB : Has ((((w.alloc (.cells (nums a) 30)).alloc (.cells (nums b) 30)).alloc (.cells (nums 0) 30)).alloc (.cells (nums 0) 30)) (w.heap.size + 1) 30 (nums b) := ((Has.new' (by simp)).alloc _).alloc _
  have hR : Has ((((w.alloc (.cells (nums a) 30)).alloc (.cells (nums b) 30)).alloc (.cells (nums 0) 30)).alloc (.cells (nums 0) 30)) (w.heap.size + 1 + 1) 30 (nums 0) := (Has.new' (by simp)).alloc _
  have hL : Has ((((w.alloc (.cells (nums a) 30)).alloc (.cells (nums b) 30)).alloc (.cells (nums 0) 30)).alloc (.cells (nums 0) 30)) (w.heap.size + 1 + 1 + 1) 30 (nums 0) := Has.new' (by simp)
  have hb0 : Below w.heap.size w ((((w.alloc (.cells (nums a) 30)).alloc (.cells (nums b) 30)).alloc (.cells (nums 0) 30)).alloc (.cells (nums 0) 30)) := ((((Below.refl _ _).alloc (Nat.le_refl _) _).alloc (by simp <;> omega) _).alloc (by simp <;> omega) _).alloc (by simp <;> omega) _
  have hgw := hG.lt
  replace hG := hG.after hb0
  go_enter Tryd.func63, Tryd.ntmps63
  go_wp2_with (first | refine wpList_load_has 30 _ rfl _ rfl rfl 30 _ hA _ Tryd.underlying30 rfl (infoNum _) ?_)
  have hi : ∀ k : Nat, k < 8 → ∀ W, (Instr.index 30 (.agg (nums a)) (.int .i64 (k : Int))).run Tryd.prog W = .ok (.int .u32 ((wrd a k : Nat) : Int)) W := fun k hk W => by
    obtain ⟨i, hi, _, hs, _⟩ := info_parts info32
    exact run_index_tab 30 28 8 .u32 i (dgs .u32 4294967296 a) Tryd.underlying30 Tryd.underlying28 hi hs .i64 k hk W
  have HI := Lib.hid hi
  clear hi hA
  go_loopw [8, 10, 12] (fun vh _ vi wr => ∃ k : Nat, k ≤ 8 ∧ vh = .int .u32 ((hiN (F k) : Nat) : Int) ∧ vi = .int .i64 (k : Int) ∧ Has wr g 101 (modC m ni o s) ∧ Has wr (w.heap.size + 1) 30 (nums b) ∧
      Has wr (w.heap.size + 1 + 1) 30 (nums 0) ∧ Has wr (w.heap.size + 1 + 1 + 1) 30 (nums (F k)) ∧ Below w.heap.size w wr) (fun _ _ vi _ => 8 - (intOf vi).toNat)
  case atStart => exact ⟨0, by omega, by rw [E0.out.1, E0.out.2]; rfl, rfl, hG, hB, hR, by rw [E0.out.1]; exact hL, hb0⟩
  case round =>
    obtain ⟨k, hk, rfl, rfl, h1, h2, h3, h4, hb⟩ := hrel
    clear hG hB hR hL hb0
    by_cases hlt : k < 8
    · have dk : (k : Int) < 8 := by omega
      have hi := HI.out k hlt
      go_wp2_with fail
      refine (HS.out k (w.heap.size + 1) (w.heap.size + 1 + 1 + 1) _ h1 h4 h2 (by omega) (by omega)).mono ?_
      rintro e w2 ⟨rfl, h4', hO⟩
      replace h1 := h1.grown hO (by omega)
      replace h2 := h2.grown hO (by omega)
      replace h3 := h3.grown hO (by omega)
      have hb' := hb.trans (below_of_only hO (B := w.heap.size) (by omega) hb.size)
      clear hO h4 hb
      go_wp2_with fail
      go_roundw
      case rel => exact ⟨k + 1, by omega, rfl, by go_num, h1, h2, h3, h4', hb'⟩
      case measure => simp [intOf]; omega
    · have hk8 : k = 8 := by omega
      have dk : ¬ (k : Int) < 8 := by omega
      rw [hk8] at h4
      have HLw := HL.out wr h1
      have hk2 : hiN (F k) = hiN (F 8) := by rw [hk8]
      have HK := Lib.hid hk2
      generalize hiN (F k) = y at *
      clear hlt hk hk8 hk2 HI HS
      go_wp2_with (first | refine wpList_load_has 30 _ rfl _ rfl rfl 30 _ h4 _ Tryd.underlying30 rfl (infoNum _) ?_)
      obtain rfl : y = hiN (F 8) := HK.out
      refine HLw.mono ?_
      rintro e w2 ⟨rfl, hx⟩
      replace h3 := h3.after hx
      replace hb := below_trans hb hx
      clear hx h4 h1 h2
      go_wp2_with (first | refine wpList_store_row rfl 30 _ _ rfl (w.heap.size + 1 + 1) _ rfl rfl 30 _ h3 (infoNum _) (by simp only [nums_size]) (tab_oneCell _ _ fun _ => rfl) ?_)
      exact bodyPost_ret (v := .agg (nums x)) (results_cell_row rfl _ _ (w.heap.size + 1 + 1) 30 _ _ _ rfl (h3.setRow _) Tryd.underlying30 rfl (infoNum _)) rfl ⟨rfl, below_setRow hb (by omega) _⟩
end Go.Proofs.YtflkhlhpifmocaaDoor
namespace Go.Proofs.YtflkhlhpifmocaaDoor
open Go.RowKit

/-- block g holds the arithmetic modulo m -/
def IsMod (w : World) (g m : Nat) : Prop := ∃ ni, ni < 4294967296 ∧ (m % BB * ni + 1) % BB = 0 ∧ m % 2 = 1 ∧ 1 < m ∧ m < big ∧ Has w g 101 (modC m ni (RR % m) (RR * RR % m))
theorem IsMod.after {w w' : World} {g m : Nat} (h : IsMod w g m) (k : Below w.heap.size w w') : IsMod w' g m := by
  obtain ⟨ni, h1, h2, h3, h4, h5, h6⟩ := h
  exact ⟨ni, h1, h2, h3, h4, h5, h6.after k⟩
theorem mprod_any (a b m g : Nat) (w : World) (h : IsMod w g m) (ha : a < big) (hb : b < big) (hab : a * b < big * m) :
    Calls Tryd.prog 63 #[.pointer (some ⟨g, 0, none⟩), .agg (nums a), .agg (nums b)] w fun e w' => e = .returned (.agg (nums (redc m (a * b)))) ∧ Below w.heap.size w w' := by
  obtain ⟨ni, h1, h2, h3, h4, h5, h6⟩ := h
  exact product_any a b m ni _ _ g w h6 h1 h2 h3 h5 ha hb hab
theorem mul_bound {a b m : Nat} (ha : a < m) (hb : b < big) : a * b < big * m := by
  have h1 : a * b ≤ a * big := Nat.mul_le_mul_left _ (by omega)
  have h2 : a * big < m * big := Nat.mul_lt_mul_of_pos_right ha big_pos
  rw [Nat.mul_comm big m]; omega
theorem mul_bound2 {a b m : Nat} (ha : a < big) (hb : b < m) : a * b < big * m := by
  rw [Nat.mul_comm a b]; exact mul_bound hb ha
theorem sub_low {a b m : Nat} (ha : a < m) (hb : b < m) (h : ¬ a < b) : nums (a + big - b) = nums ((a + (m - b)) % m) := by
  rw [← nums_mod (a + big - b), show a + big - b = (a - b) + big by omega, Nat.add_mod_right, nums_mod, show a + (m - b) = (a - b) + m by omega, Nat.add_mod_right, Nat.mod_eq_of_lt (show a - b < m by omega)]
theorem sub_high {a b m : Nat} (_ha : a < m) (hb : b < m) (hm : m < big) (h : a < b) : nums (a + big - b + m) = nums ((a + (m - b)) % m) := by
  rw [← nums_mod (a + big - b + m), show a + big - b + m = (a + (m - b)) + big by omega, Nat.add_mod_right, nums_mod, Nat.mod_eq_of_lt (show a + (m - b) < m by omega)]
attribute [local go_sem] zeroNum
set_option maxRecDepth 100000 in
set_option maxHeartbeats 1000000 in
theorem subm_any (a b m ni o s g : Nat) (w : World) (hG : Has w g 101 (modC m ni o s)) (ha : a < m) (hb : b < m) (hm : m < big) :
    Calls Tryd.prog 67 #[.pointer (some ⟨g, 0, none⟩), .agg (nums a), .agg (nums b)] w fun e w' => e = .returned (.agg (nums ((a + (m - b)) % m))) ∧ Below w.heap.size w w' := by
  have cS := fun W => sub_any a b W (by omega) (by omega)
  have hl := sub_low ha hb
  have hh := sub_high ha hb hm
  have n0 := nums_ne 0
  have hA : Has (((w.alloc (.cells (nums a) 30)).alloc (.cells (nums b) 30)).alloc (.cells (nums 0) 30)) (w.heap.size) 30 (nums a) := ((Has.new w _ _).alloc _).alloc _
  have hB : Has (((w.alloc (.cells (nums a) 30)).alloc (.cells (nums b) 30)).alloc (.cells (nums 0) 30)) (w.heap.size + 1) 30 (nums b) := (Has.new' (by simp)).alloc _
  have hR : Has (((w.alloc (.cells (nums a) 30)).alloc (.cells (nums b) 30)).alloc (.cells (nums 0) 30)) (w.heap.size + 1 + 1) 30 (nums 0) := Has.new' (by simp)
  have hb0 : Below w.heap.size w (((w.alloc (.cells (nums a) 30)).alloc (.cells (nums b) 30)).alloc (.cells (nums 0) 30)) := (((Below.refl _ _).alloc (Nat.le_refl _) _).alloc (by simp <;> omega) _).alloc (by simp <;> omega) _
  have hgw := hG.lt
  replace hG := hG.after hb0
  have hd : a < b → a + big - b < big := fun h => by omega
  generalize hx : (a + (m - b)) % m = x at *
  generalize hdd : a + big - b = d at *
  by_cases hlt : a < b
  · have hu : under a b = 1 := if_pos hlt
    have cA := fun W => add_any d m W (hd hlt) hm
    have HE := Lib.hid (hh hlt)
    rw [hu] at cS
    clear hd hh hl hx hdd hlt ha hb hm hu
    generalize over d m = u2 at *
    generalize d + m = r at *
    go_enter Tryd.func67, Tryd.ntmps67
    go_wp2_with (first | refine wpList_load_has 30 _ rfl _ rfl rfl 30 _ hA _ Tryd.underlying30 rfl (infoNum _) ?_ | refine wpList_load_has 30 _ rfl _ rfl rfl 30 _ hB _ Tryd.underlying30 rfl (infoNum _) ?_)
    refine (cS _).mono ?_
    rintro e w1 ⟨rfl, hx⟩
    have hlR := (hR.after hx).lt
    have hN := put_new w1 30 (nums 0) (nums d)
    replace hR := (hR.after hx).after hN.2
    replace hG := (hG.after hx).after hN.2
    replace hb0 := below_trans (below_trans hb0 hx) hN.2
    have hD := hN.1
    clear hx hN hA hB cS
    go_wp2_with (first | refine wpList_store_row rfl 30 _ _ rfl w1.heap.size _ rfl rfl 30 (nums 0) (Has.new' rfl) (infoNum _) (by simp only [nums_size]) (tab_oneCell _ _ fun _ => rfl) ?_)
    generalize ((w1.alloc _).setRow _ _) = W at *
    refine region_facts 9 [8] [.val (.agg (nums d)), .val (.pointer (some ⟨g, 0, none⟩)), .val (.pointer (some ⟨g, 0, none⟩)), .val (.pointer (some ⟨g, 0, none⟩)), .val (.agg (nums m)), .val (.tuple #[.agg (nums r), .int .u32 ((u2 : Nat) : Int)]), .val (.tuple #[.agg (nums r), .int .u32 ((u2 : Nat) : Int)]), .val (.agg (nums r)), .val (.int .u32 ((u2 : Nat) : Int))]
      (by kernel_rfl) (by kernel_rfl) (fun _ _ _ _ _ h => h) ?_ ?_
    · simp only [List.take_succ_cons, List.take_zero, StepsOK]
      refine ⟨?_, ?_, ?_, ?_, ?_, ?_, ?_, ?_, ?_, trivial⟩
      · intro v w' hb hf K hKt
        simp only [putAll, Act.put, List.setIfInBounds_toArray, List.set_cons_zero, List.set_cons_succ, Nat.zero_add, Nat.reduceAdd] at hKt ⊢
        exact wp_load_row 30 _ rfl (w1.heap.size) rfl 30 _ (0, 0) _ (hD.after hb) Tryd.underlying30 rfl (infoNum _) (hKt _ (Below.refl _ _))
      · intro v w' hb hf K hKt
        simp only [putAll, Act.put, List.setIfInBounds_toArray, List.set_cons_zero, List.set_cons_succ, Nat.zero_add, Nat.reduceAdd] at hKt ⊢
        go_simp
        exact hKt _ (Below.refl _ _)
      · intro v w' hb hf K hKt
        have f1 : v 1 = _ := hf ⟨1, .data⟩ (by simp) rfl
        simp only [putAll, Act.put, List.setIfInBounds_toArray, List.set_cons_zero, List.set_cons_succ, Nat.zero_add, Nat.reduceAdd] at hKt ⊢
        rw [f1] at hKt ⊢
        go_simp
        exact hKt _ (Below.refl _ _)
      · intro v w' hb hf K hKt
        have f2 : v 2 = _ := hf ⟨2, .data⟩ (by simp) rfl
        simp only [putAll, Act.put, List.setIfInBounds_toArray, List.set_cons_zero, List.set_cons_succ, Nat.zero_add, Nat.reduceAdd] at hKt ⊢
        rw [f2] at hKt ⊢
        go_simp
        exact hKt _ (Below.refl _ _)
      · intro v w' hb hf K hKt
        have f3 : v 3 = _ := hf ⟨3, .data⟩ (by simp) rfl
        simp only [putAll, Act.put, List.setIfInBounds_toArray, List.set_cons_zero, List.set_cons_succ, Nat.zero_add, Nat.reduceAdd] at hKt ⊢
        rw [f3] at hKt ⊢
        exact wp_load_num _ rfl (g) 0 rfl m (mod_words (hG.after hb)) (hKt _ (Below.refl _ _))
      · intro v w' hb hf K hKt
        have f0 : v 0 = _ := hf ⟨0, .data⟩ (by simp) rfl
        have f4 : v 4 = _ := hf ⟨4, .data⟩ (by simp) rfl
        simp only [putAll, Act.put, List.setIfInBounds_toArray, List.set_cons_zero, List.set_cons_succ, Nat.zero_add, Nat.reduceAdd] at hKt ⊢
        rw [f0, f4] at hKt ⊢
        go_simp
        refine (cA w').mono ?_
        rintro e w'' ⟨rfl, hb2⟩
        exact hKt _ hb2
      · intro v w' hb hf K hKt
        have f5 : v 5 = _ := hf ⟨5, .data⟩ (by simp) rfl
        simp only [putAll, Act.put, List.setIfInBounds_toArray, List.set_cons_zero, List.set_cons_succ, Nat.zero_add, Nat.reduceAdd] at hKt ⊢
        rw [f5] at hKt ⊢
        go_simp
        exact hKt _ (Below.refl _ _)
      · intro v w' hb hf K hKt
        have f6 : v 6 = _ := hf ⟨6, .data⟩ (by simp) rfl
        simp only [putAll, Act.put, List.setIfInBounds_toArray, List.set_cons_zero, List.set_cons_succ, Nat.zero_add, Nat.reduceAdd] at hKt ⊢
        rw [f6] at hKt ⊢
        go_simp
        exact hKt _ (Below.refl _ _)
      · intro v hf w'
        obtain ⟨_, f6⟩ := hf ⟨6, .data⟩ (by simp) rfl
        replace f6 : v 6 = _ := f6
        simp only [putAll, Act.put, List.setIfInBounds_toArray, List.set_cons_zero, List.set_cons_succ, Nat.zero_add, Nat.reduceAdd]
        rw [f6]
        go_simp
    intro v w2 hb hF hD
    have f0 : v 0 = _ := hF 0 (by decide)
    have f1 : v 1 = _ := hF 1 (by decide)
    have f2 : v 2 = _ := hF 2 (by decide)
    have f3 : v 3 = _ := hF 3 (by decide)
    have f4 : v 4 = _ := hF 4 (by decide)
    have f5 : v 5 = _ := hF 5 (by decide)
    have f6 : v 6 = _ := hF 6 (by decide)
    have f7 : v 7 = _ := hF 7 (by decide)
    have f8 : v 8 = _ := hF 8 (by decide)
    simp only [List.take_succ_cons, List.take_zero, List.drop_succ_cons, List.drop_zero, putAll, Act.put, List.setIfInBounds_toArray, List.set_cons_zero, List.set_cons_succ, Nat.zero_add, Nat.reduceAdd]
    rw [f0, f1, f2, f3, f4, f5, f6, f7, f8]
    clear hF hD f0 f1 f2 f3 f4 f5 f6 f7 f8
    have hBW := hb
    replace hD := hD.after hBW
    replace hG := hG.after hBW
    replace hD2 := hD.setRow (nums r)
    replace hR := (hR.after hBW).farRow (k := w1.heap.size) (by omega) (nums r)
    replace hb0 := below_setRow (below_trans hb0 hBW) (g := w1.heap.size) (by omega) (nums r)
    go_wp2_with (first | refine wpList_store_row rfl 30 _ _ rfl (w1.heap.size) _ rfl rfl 30 _ hD (infoNum _) (by simp only [nums_size]) (tab_oneCell _ _ fun _ => rfl) ?_ | refine wpList_load_has 30 _ rfl _ rfl rfl 30 _ hD2 _ Tryd.underlying30 rfl (infoNum _) ?_ | refine wpList_store_row rfl 30 _ _ rfl (w.heap.size + 1 + 1) _ rfl rfl 30 _ hR (infoNum _) (by simp only [nums_size]) (tab_oneCell _ _ fun _ => rfl) ?_)
    clear hBW hb 
    exact bodyPost_ret (v := .agg (nums x)) (results_cell_row rfl _ _ (w.heap.size + 1 + 1) 30 _ _ _ rfl (by rw [← HE.out]; exact hR.setRow _) Tryd.underlying30 rfl (infoNum _)) rfl ⟨rfl, below_setRow hb0 (by omega) _⟩
  · have hu : under a b = 0 := if_neg hlt
    have HE := Lib.hid (hl hlt)
    rw [hu] at cS
    clear hd hh hl hx hdd hlt ha hb hm hu
    go_enter Tryd.func67, Tryd.ntmps67
    go_wp2_with (first | refine wpList_load_has 30 _ rfl _ rfl rfl 30 _ hA _ Tryd.underlying30 rfl (infoNum _) ?_ | refine wpList_load_has 30 _ rfl _ rfl rfl 30 _ hB _ Tryd.underlying30 rfl (infoNum _) ?_)
    refine (cS _).mono ?_
    rintro e w1 ⟨rfl, hx⟩
    have hN := put_new w1 30 (nums 0) (nums d)
    replace hR := (hR.after hx).after hN.2
    replace hb0 := below_trans (below_trans hb0 hx) hN.2
    have hD := hN.1
    clear hx hN hA hB cS hG
    go_wp2_with (first | refine wpList_store_row rfl 30 _ _ rfl w1.heap.size _ rfl rfl 30 (nums 0) (Has.new' rfl) (infoNum _) (by simp only [nums_size]) (tab_oneCell _ _ fun _ => rfl) ?_ | refine wpList_load_has 30 _ rfl _ rfl rfl 30 _ hD _ Tryd.underlying30 rfl (infoNum _) ?_ | refine wpList_store_row rfl 30 _ _ rfl (w.heap.size + 1 + 1) _ rfl rfl 30 _ hR (infoNum _) (by simp only [nums_size]) (tab_oneCell _ _ fun _ => rfl) ?_)
    exact bodyPost_ret (v := .agg (nums x)) (results_cell_row rfl _ _ (w.heap.size + 1 + 1) 30 _ _ _ rfl (by rw [← HE.out]; exact hR.setRow _) Tryd.underlying30 rfl (infoNum _)) rfl ⟨rfl, below_setRow hb0 (by omega) _⟩
attribute [local go_sem] zeroNum
attribute [local go_sem] zeroNum
set_option maxRecDepth 100000 in
set_option maxHeartbeats 1000000 in
theorem mone_any (m g : Nat) (w : World) (h : IsMod w g m) : Calls Tryd.prog 87 #[.pointer (some ⟨g, 0, none⟩)] w fun e w' => e = .returned (.agg (nums (RR % m))) ∧ Below w.heap.size w w' := by
  obtain ⟨ni, i1, i2, i3, i4, i5, hG⟩ := h
  have n0 := nums_ne 0
  have hR : Has (w.alloc (.cells (nums 0) 30)) (w.heap.size) 30 (nums 0) := Has.new w _ _
  have hb0 : Below w.heap.size w (w.alloc (.cells (nums 0) 30)) := (Below.refl _ _).alloc (Nat.le_refl _) _
  replace hG := hG.after hb0
  go_enter Tryd.func87, Tryd.ntmps87
  go_wp2_with (first | refine wpList_load_num rfl _ rfl _ 9 rfl _ (mod_one hG) ?_ | refine wpList_store_row rfl 30 _ _ rfl (w.heap.size) _ rfl rfl 30 _ hR (infoNum _) (by simp only [nums_size]) (tab_oneCell _ _ fun _ => rfl) ?_)
  exact bodyPost_ret (v := .agg (nums (RR % m))) (results_cell_row rfl _ _ (w.heap.size) 30 _ _ _ rfl (hR.setRow _) Tryd.underlying30 rfl (infoNum _)) rfl ⟨rfl, below_setRow hb0 (by omega) _⟩
attribute [local go_sem] zeroNum
attribute [local go_sem] zeroNum
set_option maxRecDepth 100000 in
set_option maxHeartbeats 1000000 in
theorem nadd_any (a b : Nat) (w : World) : Calls Tryd.prog 66 #[.pointer none, .agg (nums a), .agg (nums b)] w fun e w' => e = .returned (.agg (nums 0)) ∧ Below w.heap.size w w' := by
  have n0 := nums_ne 0
  have hA : Has (((w.alloc (.cells (nums a) 30)).alloc (.cells (nums b) 30)).alloc (.cells (nums 0) 30)) (w.heap.size) 30 (nums a) := ((Has.new w _ _).alloc _).alloc _
  have hB : Has (((w.alloc (.cells (nums a) 30)).alloc (.cells (nums b) 30)).alloc (.cells (nums 0) 30)) (w.heap.size + 1) 30 (nums b) := (Has.new' (by simp)).alloc _
  have hR : Has (((w.alloc (.cells (nums a) 30)).alloc (.cells (nums b) 30)).alloc (.cells (nums 0) 30)) (w.heap.size + 1 + 1) 30 (nums 0) := Has.new' (by simp)
  have hb0 : Below w.heap.size w (((w.alloc (.cells (nums a) 30)).alloc (.cells (nums b) 30)).alloc (.cells (nums 0) 30)) := (((Below.refl _ _).alloc (Nat.le_refl _) _).alloc (by simp <;> omega) _).alloc (by simp <;> omega) _
  go_enter Tryd.func66, Tryd.ntmps66
  go_wp2_with (first | refine wpList_store_row rfl 30 _ _ rfl (w.heap.size + 1 + 1) _ rfl rfl 30 _ hR (infoNum _) (by simp only [nums_size]) (tab_oneCell _ _ fun _ => rfl) ?_)
  exact bodyPost_ret (v := .agg (nums 0)) (results_cell_row rfl _ _ (w.heap.size + 1 + 1) 30 _ _ _ rfl (hR.setRow _) Tryd.underlying30 rfl (infoNum _)) rfl ⟨rfl, below_setRow hb0 (by omega) _⟩
attribute [local go_sem] zeroNum
set_option maxRecDepth 100000 in
set_option maxHeartbeats 1000000 in
theorem mtimes_any (a b m g : Nat) (w : World) (h : IsMod w g m) (ha : a < m) (hb : b < m) : Calls Tryd.prog 65 #[.pointer (some ⟨g, 0, none⟩), .agg (nums a), .agg (nums b)] w fun e w' => e = .returned (.agg (nums (redc m (a * b)))) ∧ Below w.heap.size w w' := by
  have hm : m < big := by obtain ⟨_, _, _, _, _, h, _⟩ := h; exact h
  have cP := fun W h => mprod_any a b m g W h (by omega) (by omega) (mul_bound ha (by omega))
  clear ha hb hm
  generalize redc m (a * b) = x at *
  have n0 := nums_ne 0
  have hA : Has (((w.alloc (.cells (nums a) 30)).alloc (.cells (nums b) 30)).alloc (.cells (nums 0) 30)) (w.heap.size) 30 (nums a) := ((Has.new w _ _).alloc _).alloc _
  have hB : Has (((w.alloc (.cells (nums a) 30)).alloc (.cells (nums b) 30)).alloc (.cells (nums 0) 30)) (w.heap.size + 1) 30 (nums b) := (Has.new' (by simp)).alloc _
  have hR : Has (((w.alloc (.cells (nums a) 30)).alloc (.cells (nums b) 30)).alloc (.cells (nums 0) 30)) (w.heap.size + 1 + 1) 30 (nums 0) := Has.new' (by simp)
  have hb0 : Below w.heap.size w (((w.alloc (.cells (nums a) 30)).alloc (.cells (nums b) 30)).alloc (.cells (nums 0) 30)) := (((Below.refl _ _).alloc (Nat.le_refl _) _).alloc (by simp <;> omega) _).alloc (by simp <;> omega) _
  replace h := h.after hb0
  go_enter Tryd.func65, Tryd.ntmps65
  go_wp2_with (first | refine wpList_load_has 30 _ rfl _ rfl rfl 30 _ hA _ Tryd.underlying30 rfl (infoNum _) ?_ | refine wpList_load_has 30 _ rfl _ rfl rfl 30 _ hB _ Tryd.underlying30 rfl (infoNum _) ?_)
  refine (cP _ h).mono ?_
  rintro e w1 ⟨rfl, hx⟩
  replace hR := hR.after hx
  replace hb0 := below_trans hb0 hx
  go_wp2_with (first | refine wpList_store_row rfl 30 _ _ rfl (w.heap.size + 1 + 1) _ rfl rfl 30 _ hR (infoNum _) (by simp only [nums_size]) (tab_oneCell _ _ fun _ => rfl) ?_)
  exact bodyPost_ret (v := .agg (nums x)) (results_cell_row rfl _ _ (w.heap.size + 1 + 1) 30 _ _ _ rfl (hR.setRow _) Tryd.underlying30 rfl (infoNum _)) rfl ⟨rfl, below_setRow hb0 (by omega) _⟩
attribute [local go_sem] zeroNum
set_option maxRecDepth 100000 in
set_option maxHeartbeats 1000000 in
theorem min_any (a m g : Nat) (w : World) (h : IsMod w g m) (ha : a < big) : Calls Tryd.prog 36 #[.pointer (some ⟨g, 0, none⟩), .agg (nums a)] w fun e w' => e = .returned (.agg (nums (a * RR % m))) ∧ Below w.heap.size w w' := by
  have hm : m < big := by obtain ⟨_, _, _, _, _, h, _⟩ := h; exact h
  have hm1 : 1 < m := by obtain ⟨_, _, _, _, h, _⟩ := h; exact h
  have hm2 : m % 2 = 1 := by obtain ⟨_, _, _, h, _⟩ := h; exact h
  have hs : RR * RR % m < m := Nat.mod_lt _ (by omega)
  have cP := fun W h => mprod_any a (RR * RR % m) m g W h ha (by omega) (mul_bound2 ha hs)
  have e : redc m (a * (RR * RR % m)) = a * RR % m := by
    rw [← redc_mod, Nat.mul_mod, Nat.mod_mod, ← Nat.mul_mod, redc_mod, ← Nat.mul_assoc, redc_R m _ hm2]
  rw [e] at cP
  have hG : ∃ ni, Has w g 101 (modC m ni (RR % m) (RR * RR % m)) := by obtain ⟨ni, _, _, _, _, _, h⟩ := h; exact ⟨ni, h⟩
  obtain ⟨ni, hG⟩ := hG
  clear e ha hm hm1 hm2 hs
  generalize a * RR % m = x at *
  generalize RR * RR % m = s at *
  have n0 := nums_ne 0
  have hA : Has ((w.alloc (.cells (nums a) 30)).alloc (.cells (nums 0) 30)) (w.heap.size) 30 (nums a) := (Has.new w _ _).alloc _
  have hR : Has ((w.alloc (.cells (nums a) 30)).alloc (.cells (nums 0) 30)) (w.heap.size + 1) 30 (nums 0) := Has.new' (by simp)
  have hb0 : Below w.heap.size w ((w.alloc (.cells (nums a) 30)).alloc (.cells (nums 0) 30)) := ((Below.refl _ _).alloc (Nat.le_refl _) _).alloc (by simp <;> omega) _
  replace h := h.after hb0
  replace hG := hG.after hb0
  go_enter Tryd.func36, Tryd.ntmps36
  go_wp2_with fail
  generalize ((w.alloc _).alloc _) = W at *
  refine region_quiet_tail (Below W.heap.size W) 7 (by kernel_rfl) (by kernel_rfl) (below_drewN (Below.refl _ _) 1) ?_
  simp only [List.take_succ_cons, List.take_zero, List.drop_succ_cons, List.drop_zero]
  refine wpQ_move _ rfl rfl (.pointer (some ⟨g, 0, none⟩)) rfl ?_
  simp only [Act.put, List.setIfInBounds_toArray, List.set_cons_zero, List.set_cons_succ]
  refine wpQ_has 30 _ rfl _ rfl rfl 30 _ (fun w' hC => hA.after hC) _ Tryd.underlying30 rfl (infoNum _) ?_
  simp only [Act.put, List.setIfInBounds_toArray, List.set_cons_zero, List.set_cons_succ]
  refine wpQ_move _ rfl rfl (.pointer (some ⟨g, 0, none⟩)) rfl ?_
  simp only [Act.put, List.setIfInBounds_toArray, List.set_cons_zero, List.set_cons_succ]
  refine wpQ_val rfl (.pointer (some ⟨g, 0, none⟩)) (fun w' _ => by go_simp) ?_
  simp only [Act.put, List.setIfInBounds_toArray, List.set_cons_zero, List.set_cons_succ]
  refine wpQ_val rfl (.pointer (some ⟨g, 17, none⟩)) (fun w' _ => by go_simp) ?_
  simp only [Act.put, List.setIfInBounds_toArray, List.set_cons_zero, List.set_cons_succ]
  refine wpQ_load_num rfl _ rfl g 17 rfl s (fun w' hC => mod_square (hG.after hC)) ?_
  simp only [Act.put, List.setIfInBounds_toArray, List.set_cons_zero, List.set_cons_succ]
  refine wpQ_fn 63 _ _ rfl rfl #[.pointer (some ⟨g, 0, none⟩), .agg (nums a), .agg (nums s)] rfl (fun _ => by go_simp) (.agg (nums x)) (fun w' hC => (cP w' (h.after hC)).mono fun e w'' ⟨he, hb⟩ => ⟨he, below_class hC hb⟩) ?_
  simp only [Act.put, List.setIfInBounds_toArray, List.set_cons_zero, List.set_cons_succ]
  refine wpQuiet_nil ?_
  intro w1 hC
  replace hR := hR.after hC
  replace hb0 := below_trans hb0 hC
  clear hC h hG cP hA
  go_wp2_with (first | refine wpList_store_row rfl 30 _ _ rfl (w.heap.size + 1) _ rfl rfl 30 _ hR (infoNum _) (by simp only [nums_size]) (tab_oneCell _ _ fun _ => rfl) ?_)
  exact bodyPost_ret (v := .agg (nums x)) (results_cell_row rfl _ _ (w.heap.size + 1) 30 _ _ _ rfl (hR.setRow _) Tryd.underlying30 rfl (infoNum _)) rfl ⟨rfl, below_setRow hb0 (by omega) _⟩
end Go.Proofs.YtflkhlhpifmocaaDoor
namespace Go.Proofs.YtflkhlhpifmocaaDoor
open Go.RowKit

theorem md1 : (nums 0).setIfInBounds 0 (Value.int IntKind.u32 1) = nums 1 := by kernel_rfl
theorem md2 : (nums 0).setIfInBounds 0 (Value.int IntKind.u32 2) = nums 2 := by kernel_rfl
theorem IsMod.lt {w : World} {g m : Nat} (h : IsMod w g m) : g < w.heap.size := by
  obtain ⟨_, _, _, _, _, _, h⟩ := h
  exact Has.lt h
theorem IsMod.farRow {w : World} {g m : Nat} (h : IsMod w g m) {k : Nat} (hk : g ≠ k) (cs : Array Value) : IsMod (w.setRow k cs) g m := by
  obtain ⟨ni, h1, h2, h3, h4, h5, h6⟩ := h
  exact ⟨ni, h1, h2, h3, h4, h5, h6.farRow hk cs⟩
theorem IsMod.facts {w : World} {g m : Nat} (h : IsMod w g m) : m < big ∧ 1 < m ∧ m % 2 = 1 := by
  obtain ⟨_, _, _, h1, h2, h3, _⟩ := h
  exact ⟨h3, h2, h1⟩
attribute [local go_sem] zeroNum md1 md2
set_option maxRecDepth 100000 in
set_option maxHeartbeats 1000000 in
theorem mout_any (a m g : Nat) (w : World) (h : IsMod w g m) (ha : a < m) : Calls Tryd.prog 42 #[.pointer (some ⟨g, 0, none⟩), .agg (nums a)] w fun e w' => e = .returned (.agg (nums (redc m a))) ∧ Below w.heap.size w w' := by
  obtain ⟨hm, h1, h2⟩ := h.facts
  have cP := fun W h => mprod_any a 1 m g W h (by omega) (by decide +kernel) (mul_bound ha (by decide +kernel))
  rw [Nat.mul_one] at cP
  clear ha hm h1 h2
  generalize redc m a = x at *
  have n0 := nums_ne 0
  have hA : Has ((w.alloc (.cells (nums a) 30)).alloc (.cells (nums 0) 30)) (w.heap.size) 30 (nums a) := (Has.new w _ _).alloc _
  have hR : Has ((w.alloc (.cells (nums a) 30)).alloc (.cells (nums 0) 30)) (w.heap.size + 1) 30 (nums 0) := Has.new' (by simp)
  have hb0 : Below w.heap.size w ((w.alloc (.cells (nums a) 30)).alloc (.cells (nums 0) 30)) := ((Below.refl _ _).alloc (Nat.le_refl _) _).alloc (by simp <;> omega) _
  replace h := h.after hb0
  go_enter Tryd.func42, Tryd.ntmps42
  go_wp2_with (first | refine wpList_load_has 30 _ rfl _ rfl rfl 30 _ hA _ Tryd.underlying30 rfl (infoNum _) ?_)
  refine (cP _ h).mono ?_
  rintro e w1 ⟨rfl, hx⟩
  replace hR := hR.after hx
  replace hb0 := below_trans hb0 hx
  go_wp2_with (first | refine wpList_store_row rfl 30 _ _ rfl (w.heap.size + 1) _ rfl rfl 30 _ hR (infoNum _) (by simp only [nums_size]) (tab_oneCell _ _ fun _ => rfl) ?_)
  exact bodyPost_ret (v := .agg (nums x)) (results_cell_row rfl _ _ (w.heap.size + 1) 30 _ _ _ rfl (hR.setRow _) Tryd.underlying30 rfl (infoNum _)) rfl ⟨rfl, below_setRow hb0 (by omega) _⟩
attribute [local go_sem] zeroNum md1 md2
set_option maxRecDepth 100000 in
set_option maxHeartbeats 1000000 in
theorem mreduce_any (a m g : Nat) (w : World) (h : IsMod w g m) (ha : a < big) : Calls Tryd.prog 47 #[.pointer (some ⟨g, 0, none⟩), .agg (nums a)] w fun e w' => e = .returned (.agg (nums (a % m))) ∧ Below w.heap.size w w' := by
  obtain ⟨hm, h1, h2⟩ := h.facts
  have cI := fun W h => min_any a m g W h ha
  have cO := fun W h => mout_any (a * RR % m) m g W h (Nat.mod_lt _ (by omega))
  rw [out_in m a h2] at cO
  clear ha hm h1 h2
  generalize a * RR % m = y at *
  generalize a % m = x at *
  have n0 := nums_ne 0
  have hA : Has ((w.alloc (.cells (nums a) 30)).alloc (.cells (nums 0) 30)) (w.heap.size) 30 (nums a) := (Has.new w _ _).alloc _
  have hR : Has ((w.alloc (.cells (nums a) 30)).alloc (.cells (nums 0) 30)) (w.heap.size + 1) 30 (nums 0) := Has.new' (by simp)
  have hb0 : Below w.heap.size w ((w.alloc (.cells (nums a) 30)).alloc (.cells (nums 0) 30)) := ((Below.refl _ _).alloc (Nat.le_refl _) _).alloc (by simp <;> omega) _
  replace h := h.after hb0
  go_enter Tryd.func47, Tryd.ntmps47
  go_wp2_with (first | refine wpList_load_has 30 _ rfl _ rfl rfl 30 _ hA _ Tryd.underlying30 rfl (infoNum _) ?_)
  refine (cI _ h).mono ?_
  rintro e w1 ⟨rfl, hx⟩
  replace hR := hR.after hx
  replace h := h.after hx
  replace hb0 := below_trans hb0 hx
  clear hx
  go_wp2_with fail
  refine (cO _ h).mono ?_
  rintro e w2 ⟨rfl, hx⟩
  replace hR := hR.after hx
  replace hb0 := below_trans hb0 hx
  go_wp2_with (first | refine wpList_store_row rfl 30 _ _ rfl (w.heap.size + 1) _ rfl rfl 30 _ hR (infoNum _) (by simp only [nums_size]) (tab_oneCell _ _ fun _ => rfl) ?_)
  exact bodyPost_ret (v := .agg (nums x)) (results_cell_row rfl _ _ (w.heap.size + 1) 30 _ _ _ rfl (hR.setRow _) Tryd.underlying30 rfl (infoNum _)) rfl ⟨rfl, below_setRow hb0 (by omega) _⟩
attribute [local go_sem] zeroNum md1 md2
set_option maxRecDepth 100000 in
set_option maxHeartbeats 1000000 in
theorem mmul_any (a b m g : Nat) (w : World) (h : IsMod w g m) (ha : a < big) (hb : b < big) : Calls Tryd.prog 45 #[.pointer (some ⟨g, 0, none⟩), .agg (nums a), .agg (nums b)] w fun e w' => e = .returned (.agg (nums (a * b % m))) ∧ Below w.heap.size w w' := by
  obtain ⟨hm, h1, h2⟩ := h.facts
  have hy : a * RR % m < m := Nat.mod_lt _ (by omega)
  have cI := fun W h => min_any a m g W h ha
  have cP := fun W h => mprod_any (a * RR % m) b m g W h (by omega) hb (mul_bound hy hb)
  have e : redc m (a * RR % m * b) = a * b % m := by
    rw [← times_in m a b h2, ← redc_mod m (a * RR % m * b), ← redc_mod m (a * RR % m * (b % m)), Nat.mul_mod (a * RR % m) b, Nat.mul_mod (a * RR % m) (b % m), Nat.mod_mod b]
  rw [e] at cP
  clear e ha hb hm h1 h2 hy
  generalize a * RR % m = y at *
  generalize a * b % m = x at *
  have n0 := nums_ne 0
  have hA : Has (((w.alloc (.cells (nums a) 30)).alloc (.cells (nums b) 30)).alloc (.cells (nums 0) 30)) (w.heap.size) 30 (nums a) := ((Has.new w _ _).alloc _).alloc _
  have hB : Has (((w.alloc (.cells (nums a) 30)).alloc (.cells (nums b) 30)).alloc (.cells (nums 0) 30)) (w.heap.size + 1) 30 (nums b) := (Has.new' (by simp)).alloc _
  have hR : Has (((w.alloc (.cells (nums a) 30)).alloc (.cells (nums b) 30)).alloc (.cells (nums 0) 30)) (w.heap.size + 1 + 1) 30 (nums 0) := Has.new' (by simp)
  have hb0 : Below w.heap.size w (((w.alloc (.cells (nums a) 30)).alloc (.cells (nums b) 30)).alloc (.cells (nums 0) 30)) := (((Below.refl _ _).alloc (Nat.le_refl _) _).alloc (by simp <;> omega) _).alloc (by simp <;> omega) _
  replace h := h.after hb0
  go_enter Tryd.func45, Tryd.ntmps45
  go_wp2_with fail
  generalize (((w.alloc _).alloc _).alloc _) = W at *
  refine region_quiet_tail (Below W.heap.size W) 6 (by kernel_rfl) (by kernel_rfl) (below_drewN (Below.refl _ _) 1) ?_
  simp only [List.take_succ_cons, List.take_zero, List.drop_succ_cons, List.drop_zero]
  refine wpQ_move _ rfl rfl (.pointer (some ⟨g, 0, none⟩)) rfl ?_
  simp only [Act.put, List.setIfInBounds_toArray, List.set_cons_zero, List.set_cons_succ]
  refine wpQ_move _ rfl rfl (.pointer (some ⟨g, 0, none⟩)) rfl ?_
  simp only [Act.put, List.setIfInBounds_toArray, List.set_cons_zero, List.set_cons_succ]
  refine wpQ_has 30 _ rfl _ rfl rfl 30 _ (fun w' hC => hA.after hC) _ Tryd.underlying30 rfl (infoNum _) ?_
  simp only [Act.put, List.setIfInBounds_toArray, List.set_cons_zero, List.set_cons_succ]
  refine wpQ_fn 36 _ _ rfl rfl #[.pointer (some ⟨g, 0, none⟩), .agg (nums a)] rfl (fun _ => by go_simp) (.agg (nums y)) (fun w' hC => (cI w' (h.after hC)).mono fun e w'' ⟨he, hb⟩ => ⟨he, below_class hC hb⟩) ?_
  simp only [Act.put, List.setIfInBounds_toArray, List.set_cons_zero, List.set_cons_succ]
  refine wpQ_has 30 _ rfl _ rfl rfl 30 _ (fun w' hC => hB.after hC) _ Tryd.underlying30 rfl (infoNum _) ?_
  simp only [Act.put, List.setIfInBounds_toArray, List.set_cons_zero, List.set_cons_succ]
  refine wpQ_fn 63 _ _ rfl rfl #[.pointer (some ⟨g, 0, none⟩), .agg (nums y), .agg (nums b)] rfl (fun _ => by go_simp) (.agg (nums x)) (fun w' hC => (cP w' (h.after hC)).mono fun e w'' ⟨he, hb⟩ => ⟨he, below_class hC hb⟩) ?_
  simp only [Act.put, List.setIfInBounds_toArray, List.set_cons_zero, List.set_cons_succ]
  refine wpQuiet_nil ?_
  intro w1 hC
  replace hR := hR.after hC
  replace hb0 := below_trans hb0 hC
  clear hC h cP cI hA hB
  go_wp2_with (first | refine wpList_store_row rfl 30 _ _ rfl (w.heap.size + 1 + 1) _ rfl rfl 30 _ hR (infoNum _) (by simp only [nums_size]) (tab_oneCell _ _ fun _ => rfl) ?_)
  exact bodyPost_ret (v := .agg (nums x)) (results_cell_row rfl _ _ (w.heap.size + 1 + 1) 30 _ _ _ rfl (hR.setRow _) Tryd.underlying30 rfl (infoNum _)) rfl ⟨rfl, below_setRow hb0 (by omega) _⟩
/-- k bits of the exponent are taken -/
def powK (m a e k : Nat) : Nat := redc m a ^ (e / 2 ^ (256 - k)) * RR % m
theorem powK_zero {m a e : Nat} (he : e < big) : powK m a e 0 = RR % m := by
  unfold powK
  rw [Nat.div_eq_of_lt (by have : big = 2 ^ (256 - 0) := by decide +kernel
                           omega), Nat.pow_zero, Nat.one_mul]
theorem powK_end (m a e : Nat) : powK m a e 256 = powN m a e := by
  unfold powK powN
  rw [Nat.sub_self, Nat.pow_zero, Nat.div_one]
theorem powK_lt {m : Nat} (a e k : Nat) (hm : 0 < m) : powK m a e k < m := Nat.mod_lt _ hm
theorem exp_bit (e k : Nat) (hk : k < 256) : e / 2 ^ (256 - (k + 1)) = 2 * (e / 2 ^ (256 - k)) + bitN e (255 - k) := by
  have h1 : 256 - k = (255 - k) + 1 := by omega
  have h2 : 256 - (k + 1) = 255 - k := by omega
  unfold bitN
  rw [h1, h2, Nat.pow_succ, ← Nat.div_div_eq_div_mul]
  omega
theorem powK_even {m a e k : Nat} (hm : m % 2 = 1) (hk : k < 256) (hb : bitN e (255 - k) = 0) : redc m (powK m a e k * powK m a e k) = powK m a e (k + 1) := by
  unfold powK
  rw [times_R m _ _ hm, exp_bit e k hk, hb, Nat.add_zero, Nat.two_mul, Nat.pow_add]
theorem powK_odd {m a e k : Nat} (hm : m % 2 = 1) (ha : a < m) (hk : k < 256) (hb : bitN e (255 - k) = 1) : redc m (redc m (powK m a e k * powK m a e k) * a) = powK m a e (k + 1) := by
  have ea : a = redc m a * RR % m := by rw [Nat.mul_comm, redc_eq m a hm, Nat.mod_eq_of_lt ha]
  unfold powK
  rw [times_R m _ _ hm]
  conv => lhs; rw [show ∀ z, redc m (z * a) = redc m (z * (redc m a * RR % m)) from fun z => by rw [← ea]]
  rw [times_R m _ _ hm, exp_bit e k hk, hb, Nat.two_mul, Nat.pow_succ, Nat.pow_add]
theorem bitN_01 (x i : Nat) : bitN x i = 0 ∨ bitN x i = 1 := by unfold bitN; omega
attribute [local go_sem] zeroNum md1 md2
set_option maxRecDepth 100000 in
set_option maxHeartbeats 1000000 in
theorem mpow_any (a e m g : Nat) (w : World) (h : IsMod w g m) (ha : a < m) (he : e < big) : Calls Tryd.prog 71 #[.pointer (some ⟨g, 0, none⟩), .agg (nums a), .agg (nums e)] w fun z w' => z = .returned (.agg (nums (powN m a e))) ∧ Below w.heap.size w w' := by
  obtain ⟨hm, h1, h2⟩ := h.facts
  have hk0 := powK_zero (m := m) (a := a) he
  have hkl := fun k => powK_lt (m := m) a e k (by omega)
  have HSQ := Lib.hid (fun k W h => mprod_any (powK m a e k) (powK m a e k) m g W h (Nat.lt_trans (hkl k) hm) (Nat.lt_trans (hkl k) hm) (mul_bound (hkl k) (Nat.lt_trans (hkl k) hm)))
  have HML := Lib.hid (fun k W h => mprod_any (redc m (powK m a e k * powK m a e k)) a m g W h (Nat.lt_trans (redc_lt m _ (by omega)) hm) (by omega) (mul_bound (redc_lt m _ (by omega)) (by omega)))
  have HEV := Lib.hid (fun k hk hb => powK_even (a := a) (e := e) (k := k) h2 hk hb)
  have HOD := Lib.hid (fun k hk hb => powK_odd (e := e) (k := k) h2 ha hk hb)
  have HB := Lib.hid (fun i W hi => bit_any e i W hi)
  have HK := Lib.hid (And.intro hk0 (powK_end m a e))
  clear hk0 hkl ha he hm h1 h2
  generalize powK m a e = F at *
  generalize powN m a e = x at *
  have n0 := nums_ne 0
  have hA : Has (((w.alloc (.cells (nums a) 30)).alloc (.cells (nums e) 30)).alloc (.cells (nums 0) 30)) (w.heap.size) 30 (nums a) := ((Has.new w _ _).alloc _).alloc _
  have hE : Has (((w.alloc (.cells (nums a) 30)).alloc (.cells (nums e) 30)).alloc (.cells (nums 0) 30)) (w.heap.size + 1) 30 (nums e) := (Has.new' (by simp)).alloc _
  have hR : Has (((w.alloc (.cells (nums a) 30)).alloc (.cells (nums e) 30)).alloc (.cells (nums 0) 30)) (w.heap.size + 1 + 1) 30 (nums 0) := Has.new' (by simp)
  have hb0 : Below w.heap.size w (((w.alloc (.cells (nums a) 30)).alloc (.cells (nums e) 30)).alloc (.cells (nums 0) 30)) := (((Below.refl _ _).alloc (Nat.le_refl _) _).alloc (by simp <;> omega) _).alloc (by simp <;> omega) _
  have hgw : g < w.heap.size := h.lt
  replace h := h.after hb0
  have hG : ∃ ni, Has (((w.alloc (.cells (nums a) 30)).alloc (.cells (nums e) 30)).alloc (.cells (nums 0) 30)) g 101 (modC m ni (RR % m) (RR * RR % m)) := by obtain ⟨ni, _, _, _, _, _, h⟩ := h; exact ⟨ni, h⟩
  obtain ⟨ni, hG⟩ := hG
  rw [← HK.out.1] at hG
  have hP := put_at (((w.alloc (.cells (nums a) 30)).alloc (.cells (nums e) 30)).alloc (.cells (nums 0) 30)) 30 (nums 0) (nums (F 0)) (w.heap.size + 1 + 1 + 1) (by simp)
  replace hA := hA.after hP.2
  replace hE := hE.after hP.2
  replace hR := hR.after hP.2
  replace h := h.after hP.2
  replace hb0 := below_trans hb0 hP.2
  have hX := hP.1
  clear hP
  go_enter Tryd.func71, Tryd.ntmps71
  go_wp2_with (first | refine wpList_load_num rfl _ rfl _ 9 rfl _ (mod_one hG) ?_ | refine wpList_store_row rfl 30 _ _ rfl (w.heap.size + 1 + 1 + 1) _ rfl rfl 30 _ (Has.new' (by simp)) (infoNum _) (by simp only [nums_size]) (tab_oneCell _ _ fun _ => rfl) ?_)
  generalize (((((w.alloc _).alloc _).alloc _).alloc _).setRow _ _) = W at *
  clear hG
  go_loopw [8, 16] (fun _ vi wr => ∃ k : Nat, k ≤ 256 ∧ vi = .int .i64 (k : Int) ∧ Has wr w.heap.size 30 (nums a) ∧ Has wr (w.heap.size + 1) 30 (nums e) ∧
      Has wr (w.heap.size + 1 + 1) 30 (nums 0) ∧ Has wr (w.heap.size + 1 + 1 + 1) 30 (nums (F k)) ∧ IsMod wr g m ∧ g < w.heap.size ∧ Below w.heap.size w wr) (fun _ vi _ => 256 - (intOf vi).toNat)
  case atStart => exact ⟨0, by omega, rfl, hA, hE, hR, hX, h, hgw, hb0⟩
  case round =>
    obtain ⟨k, hk, rfl, h1, h2, h3, h4, h5, hg, hb⟩ := hrel
    clear hA hE hR hX h hb0 hgw
    by_cases hlt : k < 256
    · have dk : (k : Int) < 256 := by omega
      obtain ⟨q, hq⟩ : ∃ q, q + k = 255 := ⟨255 - k, by omega⟩
      have hqi : (255 : Int) - (k : Int) = (q : Int) := by omega
      have hq2 : 255 - k = q := by omega
      have cE := HEV.out k hlt
      have cO := HOD.out k hlt
      rw [hq2] at cE cO
      have cB := fun W => HB.out q W (by omega)
      have hK := Lib.hid hk
      clear hq2 hk
      go_wp2_with (first | refine wpList_load_has 30 _ rfl _ rfl rfl 30 _ h4 _ Tryd.underlying30 rfl (infoNum _) ?_)
      refine (HSQ.out k _ h5).mono ?_
      rintro z w2 ⟨rfl, hx⟩
      generalize hsq : redc m (F k * F k) = y at *
      replace h1 := h1.after hx; replace h2 := h2.after hx; replace h3 := h3.after hx; replace h4 := h4.after hx; replace h5 := h5.after hx; replace hb := below_trans hb hx
      have h4' := h4.setRow (nums y)
      replace h1 := h1.farRow (k := w.heap.size + 1 + 1 + 1) (by omega) (nums y)
      replace h2 := h2.farRow (k := w.heap.size + 1 + 1 + 1) (by omega) (nums y)
      replace h3 := h3.farRow (k := w.heap.size + 1 + 1 + 1) (by omega) (nums y)
      replace h5 := h5.farRow (k := w.heap.size + 1 + 1 + 1) (by omega) (nums y)
      replace hb := below_setRow hb (g := w.heap.size + 1 + 1 + 1) (by omega) (nums y)
      clear hx
      rcases bitN_01 e q with hbt | hbt
      · rw [hbt] at cB
        have HF := Lib.hid (cE hbt)
        clear cE cO hbt hsq
        go_wp2_with (first | refine wpList_store_row rfl 30 _ _ rfl (w.heap.size + 1 + 1 + 1) _ rfl rfl 30 _ h4 (infoNum _) (by simp only [nums_size]) (tab_oneCell _ _ fun _ => rfl) ?_ | refine wpList_load_has 30 _ rfl _ rfl rfl 30 _ h2 _ Tryd.underlying30 rfl (infoNum _) ?_)
        refine (cB _).mono ?_
        rintro z w3 ⟨rfl, hx⟩
        replace h1 := h1.after hx; replace h2 := h2.after hx; replace h3 := h3.after hx; replace h4' := h4'.after hx; replace h5 := h5.after hx; replace hb := below_trans hb hx
        clear hx h4 cB
        go_wp2_with fail
        go_roundw
        case rel => exact ⟨k + 1, by omega, by go_num, h1, h2, h3, by rw [← HF.out]; exact h4', h5, hg, hb⟩
        case measure => simp [intOf]; omega
      · rw [hbt] at cB
        have HF := Lib.hid (cO hbt)
        have cM := fun W h => HML.out k W h
        rw [hsq] at cM
        clear cE cO hbt hsq
        generalize redc m (y * a) = y2 at *
        go_wp2_with (first | refine wpList_store_row rfl 30 _ _ rfl (w.heap.size + 1 + 1 + 1) _ rfl rfl 30 _ h4 (infoNum _) (by simp only [nums_size]) (tab_oneCell _ _ fun _ => rfl) ?_ | refine wpList_load_has 30 _ rfl _ rfl rfl 30 _ h2 _ Tryd.underlying30 rfl (infoNum _) ?_)
        refine (cB _).mono ?_
        rintro z w3 ⟨rfl, hx⟩
        replace h1 := h1.after hx; replace h2 := h2.after hx; replace h3 := h3.after hx; replace h4' := h4'.after hx; replace h5 := h5.after hx; replace hb := below_trans hb hx
        clear hx h4 cB
        go_wp2_with (first | refine wpList_load_has 30 _ rfl _ rfl rfl 30 _ h4' _ Tryd.underlying30 rfl (infoNum _) ?_ | refine wpList_load_has 30 _ rfl _ rfl rfl 30 _ h1 _ Tryd.underlying30 rfl (infoNum _) ?_)
        refine (cM _ h5).mono ?_
        rintro z w4 ⟨rfl, hx⟩
        replace h1 := h1.after hx; replace h2 := h2.after hx; replace h3 := h3.after hx; replace h4' := h4'.after hx; replace h5 := h5.after hx; replace hb := below_trans hb hx
        have h6 := h4'.setRow (nums y2)
        replace h1 := h1.farRow (k := w.heap.size + 1 + 1 + 1) (by omega) (nums y2)
        replace h2 := h2.farRow (k := w.heap.size + 1 + 1 + 1) (by omega) (nums y2)
        replace h3 := h3.farRow (k := w.heap.size + 1 + 1 + 1) (by omega) (nums y2)
        replace h5 := h5.farRow (k := w.heap.size + 1 + 1 + 1) (by omega) (nums y2)
        replace hb := below_setRow hb (g := w.heap.size + 1 + 1 + 1) (by omega) (nums y2)
        clear hx cM
        go_wp2_with (first | refine wpList_store_row rfl 30 _ _ rfl (w.heap.size + 1 + 1 + 1) _ rfl rfl 30 _ h4' (infoNum _) (by simp only [nums_size]) (tab_oneCell _ _ fun _ => rfl) ?_)
        go_roundw
        case rel => exact ⟨k + 1, by omega, by go_num, h1, h2, h3, by rw [← HF.out]; exact h6, h5, hg, hb⟩
        case measure => simp [intOf]; omega
    · have hk8 : k = 256 := by omega
      have dk : ¬ (k : Int) < 256 := by omega
      rw [hk8, HK.out.2] at h4
      clear hlt hk hk8 h1 h2
      go_wp2_with (first | refine wpList_load_has 30 _ rfl _ rfl rfl 30 _ h4 _ Tryd.underlying30 rfl (infoNum _) ?_ | refine wpList_store_row rfl 30 _ _ rfl (w.heap.size + 1 + 1) _ rfl rfl 30 _ h3 (infoNum _) (by simp only [nums_size]) (tab_oneCell _ _ fun _ => rfl) ?_)
      exact bodyPost_ret (v := .agg (nums x)) (results_cell_row rfl _ _ (w.heap.size + 1 + 1) 30 _ _ _ rfl (h3.setRow _) Tryd.underlying30 rfl (infoNum _)) rfl ⟨rfl, below_setRow hb (by omega) _⟩
end Go.Proofs.YtflkhlhpifmocaaDoor
namespace Go.Proofs.YtflkhlhpifmocaaDoor
open Go.RowKit

theorem foldM (m : Nat) : (Array.foldl (fun (cs : Array Value) (x : Value × Nat) => cs.setIfInBounds x.snd x.fst) (tab 25 fun _ => Value.int IntKind.u32 0) (nums m).zipIdx 0 8) = modC m 0 0 0 := by kernel_rfl
theorem zer25 : (#[Value.int IntKind.u32 0, Value.int IntKind.u32 0, Value.int IntKind.u32 0, Value.int IntKind.u32 0,
                    Value.int IntKind.u32 0, Value.int IntKind.u32 0, Value.int IntKind.u32 0, Value.int IntKind.u32 0,
                    Value.int IntKind.u32 0, Value.int IntKind.u32 0, Value.int IntKind.u32 0, Value.int IntKind.u32 0,
                    Value.int IntKind.u32 0, Value.int IntKind.u32 0, Value.int IntKind.u32 0, Value.int IntKind.u32 0,
                    Value.int IntKind.u32 0, Value.int IntKind.u32 0, Value.int IntKind.u32 0, Value.int IntKind.u32 0,
                    Value.int IntKind.u32 0, Value.int IntKind.u32 0, Value.int IntKind.u32 0, Value.int IntKind.u32 0,
                    Value.int IntKind.u32 0] : Array Value) = tab 25 fun _ => Value.int IntKind.u32 0 := by kernel_rfl
theorem setM (m ni : Nat) : (modC m 0 0 0).setIfInBounds 8 (Value.int IntKind.u32 (ni : Int)) = modC m ni 0 0 := by
  unfold modC
  rw [tab_set]
  refine tab_ext _ _ _ fun j _ => ?_
  unfold modF
  by_cases h : j = 8
  · subst h; rfl
  · simp only [if_neg h]
theorem modC_size (m ni o s : Nat) : (modC m ni o s).size = 25 := tab_size _ _
theorem buildM (m ni : Nat) (W : World) : (Instr.build 101 #[(0, .agg (nums m)), (1, .int .u32 (ni : Int))]).run Tryd.prog W = .ok (.agg (modC m ni 0 0)) W := by
  have n1 := nums_size m
  go_simp
  simp only [zer25, foldM, setM, modC_size]
  rfl
theorem oneM (m ni o s v : Nat) : (tab 25 fun j => if 9 ≤ j ∧ j < 9 + 8 then dgs .u32 4294967296 v (j - 9) else modF m ni o s j) = modC m ni v s := tab_ext _ _ _ fun j _ => by
  unfold modF dgs
  by_cases h : 9 ≤ j ∧ j < 9 + 8
  · rw [if_pos h, if_neg (by omega), if_neg (by omega), if_pos (by omega)]; rfl
  · rw [if_neg h]
    by_cases h8 : j < 8
    · simp only [if_pos h8]
    · by_cases h9 : j = 8
      · simp only [if_neg h8, if_pos h9]
      · have h17 : ¬ j < 17 := by omega
        simp only [if_neg h8, if_neg h9, if_neg h17]
theorem squareM (m ni o s v : Nat) : (tab 25 fun j => if 17 ≤ j ∧ j < 17 + 8 then dgs .u32 4294967296 v (j - 17) else modF m ni o s j) = modC m ni o v := tab_ext _ _ _ fun j hj => by
  unfold modF dgs
  by_cases h : 17 ≤ j ∧ j < 17 + 8
  · rw [if_pos h, if_neg (by omega), if_neg (by omega), if_neg (by omega)]; rfl
  · rw [if_neg h]
    by_cases h8 : j < 8
    · simp only [if_pos h8]
    · by_cases h9 : j = 8
      · simp only [if_neg h8, if_pos h9]
      · have h17 : j < 17 := by omega
        simp only [if_neg h8, if_neg h9, if_pos h17]
/-- a number goes into the middle of a block that is known whole: the world behind it, named -/
theorem wpList_store_sub {w : World} {ops : Array Oper} {rest : List Oper} {op : Oper} {a : Act} {Q : Exit → Act → World → Prop} (hgd : op.guard = none) (x y : Operand) (ho : op.op = .store 30 x y)
    (g off : Nat) (hx : a.eval x = .pointer (some ⟨g, off, none⟩)) (v : Nat) (hy : a.eval y = .agg (nums v))
    (N : Nat) (f : Nat → Value) (t : TypeId) (hg : Has w g t (tab N f)) (hfit : off + 8 ≤ N) (cs : Array Value) (hcs : (tab N fun j => if off ≤ j ∧ j < off + 8 then dgs .u32 4294967296 v (j - off) else f j) = cs)
    (h : wpList Tryd.prog ops Q rest (a.put op.dst undef) (w.setRow g cs)) : wpList Tryd.prog ops Q (op :: rest) a w := by
  refine wpList_plain hgd fun K hK => ?_
  have hl : (wordsL v).length = 8 := wordsL_len v
  have hrun := run_storeCells_at (P := Tryd.prog) g off t (wordsL v) 0 (tab N f) w hg (by rw [hl, tab_size]; omega) (fun u hu => by obtain ⟨j, _, rfl⟩ := List.mem_map.1 hu; rfl)
  have e := tab_splice N f (dgs .u32 4294967296 v) off 8 hfit
  rw [hl, Nat.add_zero, List.append_assoc, show wordsL v = (List.range 8).map (dgs .u32 4294967296 v) from rfl, e, hcs] at hrun
  have hi := infoNum v
  rw [nums_size] at hi
  have hs : (storeVar 30 ⟨g, off, none⟩ (.agg (nums v))).run Tryd.prog w = .ok () (w.setRow g cs) := by
    cases hq : Tryd.prog.info? 30 with
    | none => simp [hq] at hi
    | some i =>
      have hs : i.size = 8 := by simpa [hq] using hi
      have hv : (nums v).toList = (List.range 8).map (dgs .u32 4294967296 v) := tab_toList _ _
      simp [storeVar, sizeOf, typeInfo, hq, Value.cells, hs, nums_size, hv, hrun]
  unfold Oper.wp execOp
  simp only [ho, hx, hy, Instr.storeAt, Instr.sureAddr, Sem.run_bind, Sem.run_pure, Result.andThen_ok, hs]
  exact hK _ _ h

/-- the inverse, round by round -/
def invN (o : Nat) : Nat → Nat
  | 0 => 1
  | k + 1 => invN o k * ((4294967298 - o * invN o k % 4294967296) % 4294967296) % 4294967296
theorem invN_lt (o : Nat) : ∀ k, invN o k < 4294967296
  | 0 => by show 1 < 4294967296; decide
  | k + 1 => Nat.mod_lt _ (by decide)
theorem inv_step (o n : Nat) : (4294967296 : Int) ∣ ((n * ((4294967298 - o * n % 4294967296) % 4294967296) % 4294967296 : Nat) : Int) - (n : Int) * (2 - (o : Int) * (n : Int)) := by
  obtain ⟨y, hy⟩ : ∃ y, y = o * n := ⟨_, rfl⟩
  obtain ⟨q, hq⟩ : ∃ q, q = (4294967298 - o * n % 4294967296) % 4294967296 := ⟨_, rfl⟩
  obtain ⟨z, hz⟩ : ∃ z, z = n * q := ⟨_, rfl⟩
  rw [← hq, ← hz, ← Int.natCast_mul, ← hy]
  rw [← hy] at hq
  have h1 : (4294967296 : Int) ∣ ((z % 4294967296 : Nat) : Int) - (z : Int) := by omega
  have h2 : (4294967296 : Int) ∣ (q : Int) - (2 - (y : Int)) := by omega
  have e : ((z % 4294967296 : Nat) : Int) - (n : Int) * (2 - (y : Int)) = (((z % 4294967296 : Nat) : Int) - (z : Int)) + (n : Int) * ((q : Int) - (2 - (y : Int))) := by
    rw [hz, Int.natCast_mul, Int.mul_sub (n : Int) (q : Int)]
    omega
  rw [e]
  exact Int.dvd_add h1 (Int.dvd_mul_of_dvd_right h2)
theorem inv_pow (o : Nat) (ho : o % 2 = 1) : ∀ k, k ≤ 5 → ((2 ^ 2 ^ k : Nat) : Int) ∣ (o : Int) * (invN o k : Int) - 1
  | 0, _ => by
    show ((2 : Nat) : Int) ∣ (o : Int) * ((1 : Nat) : Int) - 1
    omega
  | k + 1, hk => by
    have h := inv_pow o ho k (by omega)
    have e : ((2 ^ 2 ^ (k + 1) : Nat) : Int) = ((2 ^ 2 ^ k : Nat) : Int) * ((2 ^ 2 ^ k : Nat) : Int) := by
      rw [← Int.natCast_mul, ← Nat.pow_add]; congr 2; omega
    have hj : ((2 ^ 2 ^ k : Nat) : Int) * ((2 ^ 2 ^ k : Nat) : Int) ∣ 4294967296 := by
      rcases (show k = 0 ∨ k = 1 ∨ k = 2 ∨ k = 3 ∨ k = 4 by omega) with rfl | rfl | rfl | rfl | rfl <;> decide
    rw [e]
    exact inv_round hj h (inv_step o (invN o k))
theorem inv_end (o : Nat) (ho : o % 2 = 1) : o * invN o 5 % 4294967296 = 1 := by
  have h := inv_pow o ho 5 (by omega)
  have e : ((2 ^ 2 ^ 5 : Nat) : Int) = 4294967296 := by decide
  rw [e, ← Int.natCast_mul] at h
  generalize o * invN o 5 = z at *
  omega
theorem neg_end {m n ni : Nat} (hn : n < 4294967296) (h : m * n % 4294967296 = 1) (hni : ni = 4294967296 - n) : (m * ni + 1) % 4294967296 = 0 := by
  have e : m * ni + m * n = m * 4294967296 := by rw [← Nat.mul_add]; congr 1; omega
  generalize m * ni = z at *
  generalize m * n = y at *
  omega
set_option maxRecDepth 100000 in
set_option maxHeartbeats 1000000 in
theorem inverse_any (o : Nat) (w : World) : Calls Tryd.prog 61 #[.int .u32 (o : Int)] w fun e w' => e = .returned (.int .u32 ((invN o 5 : Nat) : Int)) ∧ w = w' := by
  have hs : ∀ k, invN o (k + 1) = invN o k * ((4294967298 - o * invN o k % 4294967296) % 4294967296) % 4294967296 := fun k => rfl
  have h0 : invN o 0 = 1 := rfl
  have hlt := invN_lt o
  generalize invN o = F at *
  have HS := Lib.hid hs
  have H0 := Lib.hid h0
  have HLT := Lib.hid hlt
  clear hs h0 hlt
  go_enter Tryd.func61, Tryd.ntmps61
  go_wp2_with fail
  go_loopw [3, 4] (fun vn vi wr => ∃ k : Nat, k ≤ 5 ∧ vn = .int .u32 ((F k : Nat) : Int) ∧ vi = .int .i64 (k : Int) ∧ wr = w) (fun _ vi _ => 5 - (intOf vi).toNat)
  case atStart => exact ⟨0, by omega, by rw [H0.out]; rfl, rfl, rfl⟩
  case round =>
    obtain ⟨k, hk, rfl, rfl, rfl⟩ := hrel
    by_cases hlt : k < 5
    · have dk : (k : Int) < 5 := by omega
      obtain ⟨p, hp⟩ : ∃ p, p = o * F k % 4294967296 := ⟨_, rfl⟩
      obtain ⟨q, hq⟩ : ∃ q, q = (4294967298 - p) % 4294967296 := ⟨_, rfl⟩
      obtain ⟨r, hr⟩ : ∃ r, r = F k * q % 4294967296 := ⟨_, rfl⟩
      have e1 : IntKind.u32.wrap ((o : Int) * ((F k : Nat) : Int)) = (p : Int) := by rw [IntKind.wrap_u32, ← Int.natCast_mul, hp]; omega
      have e2 : IntKind.u32.wrap (2 - (p : Int)) = (q : Int) := by rw [IntKind.wrap_u32, hq]; omega
      have e3 : IntKind.u32.wrap (((F k : Nat) : Int) * (q : Int)) = (r : Int) := by rw [IntKind.wrap_u32, ← Int.natCast_mul, hr]; omega
      have hF : F (k + 1) = r := by rw [HS.out, hr, hq, hp]
      clear hp hq hr
      go_wp2_with fail
      go_roundw
      case rel => exact ⟨k + 1, by omega, by rw [hF], by go_num, trivial⟩
      case measure => simp [intOf]; omega
    · have hk5 : k = 5 := by omega
      have dk : ¬ (k : Int) < 5 := by omega
      have HK := Lib.hid (congrArg F hk5)
      generalize F k = y at *
      clear hk5 hlt hk
      go_wp2_with fail
      go_ret
      exact ⟨by rw [← HK.out]; rfl, rfl⟩
theorem dbl_step (a m k : Nat) : (2 ^ k * a % m + 2 ^ k * a % m) % m = 2 ^ (k + 1) * a % m := by
  rw [← Nat.add_mod, ← Nat.two_mul, ← Nat.mul_assoc, Nat.pow_succ, Nat.mul_comm 2]
set_option maxRecDepth 100000 in
set_option maxHeartbeats 1000000 in
theorem doubled_any (a m ni o s g : Nat) (w : World) (hG : Has w g 101 (modC m ni o s)) (ha : a < m) (hm : m < big) :
    Calls Tryd.prog 62 #[.pointer (some ⟨g, 0, none⟩), .agg (nums a)] w fun e w' => e = .returned (.agg (nums (RR * a % m))) ∧ Below w.heap.size w w' := by
  have hk0 : 2 ^ 0 * a % m = a := by rw [Nat.pow_zero, Nat.one_mul, Nat.mod_eq_of_lt ha]
  have hkl := fun k => Nat.mod_lt (2 ^ k * a) (show 0 < m by omega)
  have HSQ := Lib.hid (fun k W h => addm_any (2 ^ k * a % m) (2 ^ k * a % m) m ni o s g W h (hkl k) (hkl k) hm)
  simp only [dbl_step] at HSQ
  have hke : 2 ^ 256 * a % m = RR * a % m := rfl
  have HK := Lib.hid (And.intro hk0 hke)
  clear hk0 hkl hke ha hm
  obtain ⟨F, hF⟩ : ∃ F : Nat → Nat, F = fun k => 2 ^ k * a % m := ⟨_, rfl⟩
  have hf : ∀ k, 2 ^ k * a % m = F k := fun k => by rw [hF]
  rw [hf, hf] at HK
  simp only [hf] at HSQ
  generalize RR * a % m = x at *
  clear hf hF
  have n0 := nums_ne 0
  have hA : Has ((w.alloc (.cells (nums a) 30)).alloc (.cells (nums 0) 30)) (w.heap.size) 30 (nums a) := (Has.new w _ _).alloc _
  have hR : Has ((w.alloc (.cells (nums a) 30)).alloc (.cells (nums 0) 30)) (w.heap.size + 1) 30 (nums 0) := Has.new' (by simp)
  have hb0 : Below w.heap.size w ((w.alloc (.cells (nums a) 30)).alloc (.cells (nums 0) 30)) := ((Below.refl _ _).alloc (Nat.le_refl _) _).alloc (by simp <;> omega) _
  have hgw := hG.lt
  replace hG := hG.after hb0
  go_enter Tryd.func62, Tryd.ntmps62
  go_wp2_with fail
  go_loopw [5] (fun vi wr => ∃ k : Nat, k ≤ 256 ∧ vi = .int .i64 (k : Int) ∧ Has wr w.heap.size 30 (nums (F k)) ∧ Has wr (w.heap.size + 1) 30 (nums 0) ∧ Has wr g 101 (modC m ni o s) ∧ Below w.heap.size w wr) (fun vi _ => 256 - (intOf vi).toNat)
  case atStart => exact ⟨0, by omega, rfl, by rw [HK.out.1]; exact hA, hR, hG, hb0⟩
  case round =>
    obtain ⟨k, hk, rfl, h1, h2, h3, hb⟩ := hrel
    clear hA hR hG hb0
    by_cases hlt : k < 256
    · have dk : (k : Int) < 256 := by omega
      go_wp2_with (first | refine wpList_load_has 30 _ rfl _ rfl rfl 30 _ h1 _ Tryd.underlying30 rfl (infoNum _) ?_)
      refine (HSQ.out k _ h3).mono ?_
      rintro z w2 ⟨rfl, hx⟩
      replace h1 := h1.after hx
      replace h2 := h2.after hx
      replace h3 := h3.after hx
      replace hb := below_trans hb hx
      have h1' := h1.setRow (nums (F (k + 1)))
      replace h2 := h2.farRow (k := w.heap.size) (by omega) (nums (F (k + 1)))
      replace h3 := h3.farRow (k := w.heap.size) (by omega) (nums (F (k + 1)))
      replace hb := below_setRow hb (g := w.heap.size) (by omega) (nums (F (k + 1)))
      clear hx
      go_wp2_with (first | refine wpList_store_row rfl 30 _ _ rfl (w.heap.size) _ rfl rfl 30 _ h1 (infoNum _) (by simp only [nums_size]) (tab_oneCell _ _ fun _ => rfl) ?_)
      go_roundw
      case rel => exact ⟨k + 1, by omega, by go_num, h1', h2, h3, hb⟩
      case measure => simp [intOf]; omega
    · have hk8 : k = 256 := by omega
      have dk : ¬ (k : Int) < 256 := by omega
      rw [hk8, HK.out.2] at h1
      clear hlt hk hk8 h3
      go_wp2_with (first | refine wpList_load_has 30 _ rfl _ rfl rfl 30 _ h1 _ Tryd.underlying30 rfl (infoNum _) ?_ | refine wpList_store_row rfl 30 _ _ rfl (w.heap.size + 1) _ rfl rfl 30 _ h2 (infoNum _) (by simp only [nums_size]) (tab_oneCell _ _ fun _ => rfl) ?_)
      exact bodyPost_ret (v := .agg (nums x)) (results_cell_row rfl _ _ (w.heap.size + 1) 30 _ _ _ rfl (h2.setRow _) Tryd.underlying30 rfl (infoNum _)) rfl ⟨rfl, below_setRow hb (by omega) _⟩
end Go.Proofs.YtflkhlhpifmocaaDoor
namespace Go.Proofs.YtflkhlhpifmocaaDoor
open Go.RowKit

theorem wpQ_parts {P : Program} {ops : Array Oper} {rest : List Oper} {o : Oper} {a : Act} {C : World → Prop} {L : Act → Prop} (t : TypeId) (ps : Array (Nat × Operand)) (ho : o.op = .build t ps) (hw : Region.wanted o (yielded ops a.tmps) = true) (vs : Array (Nat × Value)) (hvs : (ps.map fun p => (p.1, a.eval p.2)) = vs) (v : Value)
    (hrun : ∀ w, C w → (Instr.build t vs).run P w = .ok v w) (h : wpQuiet P ops C L rest (a.put o.dst v)) : wpQuiet P ops C L (o :: rest) a :=
  wpQ_val hw v (fun w hC => by
    have e := hrun w hC
    rw [← hvs] at e
    simp only [execOp, ho]
    rw [Sem.run_bind, e]
    rfl) h
theorem addr8 (g j : Nat) (hj : j < 8) (w : World) : (Instr.indexAt 30 (.pointer (some ⟨g, 0, none⟩)) (.int .i64 (j : Int))).run Tryd.prog w = .ok (.pointer (some ⟨g, j, none⟩)) w := by
  have h1 : (j : Int) < 8 := by omega
  go_simp
theorem cell_u32 (g j : Nat) (v : Value) (w : World) (h : w.cell? ⟨g, j, none⟩ = some v) : (Instr.loadAt 28 (.pointer (some ⟨g, j, none⟩))).run Tryd.prog w = .ok v w := by
  go_simp
theorem negU (x y : Int) (h : IntKind.u32.wrap (-x) = y) (w : World) : (Op.unary .neg (.int .u32 x)).run Tryd.prog w = .ok (.int .u32 y) w := by
  subst h
  go_simp
attribute [local go_sem] zeroNum md1 md2
set_option maxRecDepth 100000 in
set_option maxHeartbeats 1000000 in
theorem minv_any (a m g : Nat) (w : World) (h : IsMod w g m) (ha : a < m) : Calls Tryd.prog 43 #[.pointer (some ⟨g, 0, none⟩), .agg (nums a)] w fun z w' => z = .returned (.agg (nums (powN m a (m - 2)))) ∧ Below w.heap.size w w' := by
  obtain ⟨hm, h1, h2⟩ := h.facts
  have cS := fun W => sub_any m 2 W hm (by decide +kernel)
  have e : nums (m + big - 2) = nums (m - 2) := by rw [← nums_mod (m + big - 2), show m + big - 2 = (m - 2) + big by omega, Nat.add_mod_right, nums_mod]
  rw [e] at cS
  have cP := fun W h => mpow_any a (m - 2) m g W h ha (by omega)
  clear e ha hm h1 h2
  generalize powN m a (m - 2) = x at *
  generalize m - 2 = d at *
  generalize under m 2 = u at *
  have n0 := nums_ne 0
  have hA : Has ((w.alloc (.cells (nums a) 30)).alloc (.cells (nums 0) 30)) (w.heap.size) 30 (nums a) := (Has.new w _ _).alloc _
  have hR : Has ((w.alloc (.cells (nums a) 30)).alloc (.cells (nums 0) 30)) (w.heap.size + 1) 30 (nums 0) := Has.new' (by simp)
  have hb0 : Below w.heap.size w ((w.alloc (.cells (nums a) 30)).alloc (.cells (nums 0) 30)) := ((Below.refl _ _).alloc (Nat.le_refl _) _).alloc (by simp <;> omega) _
  replace h := h.after hb0
  have hG : ∃ ni, Has ((w.alloc (.cells (nums a) 30)).alloc (.cells (nums 0) 30)) g 101 (modC m ni (RR % m) (RR * RR % m)) := by obtain ⟨ni, _, _, _, _, _, h⟩ := h; exact ⟨ni, h⟩
  obtain ⟨ni, hG⟩ := hG
  go_enter Tryd.func43, Tryd.ntmps43
  go_wp2_with (first | refine wpList_load_num rfl _ rfl _ 0 rfl _ (mod_words hG) ?_)
  refine (cS _).mono ?_
  rintro z w1 ⟨rfl, hx⟩
  have hN := put_new w1 30 (nums 0) (nums d)
  replace hA := (hA.after hx).after hN.2
  replace hR := (hR.after hx).after hN.2
  replace h := (h.after hx).after hN.2
  replace hb0 := below_trans (below_trans hb0 hx) hN.2
  have hD := hN.1
  clear hx hN hG cS
  go_wp2_with (first | refine wpList_store_row rfl 30 _ _ rfl w1.heap.size _ rfl rfl 30 (nums 0) (Has.new' rfl) (infoNum _) (by simp only [nums_size]) (tab_oneCell _ _ fun _ => rfl) ?_ | refine wpList_load_has 30 _ rfl _ rfl rfl 30 _ hA _ Tryd.underlying30 rfl (infoNum _) ?_ | refine wpList_load_has 30 _ rfl _ rfl rfl 30 _ hD _ Tryd.underlying30 rfl (infoNum _) ?_)
  refine (cP _ h).mono ?_
  rintro z w2 ⟨rfl, hx⟩
  replace hR := hR.after hx
  replace hb0 := below_trans hb0 hx
  go_wp2_with (first | refine wpList_store_row rfl 30 _ _ rfl (w.heap.size + 1) _ rfl rfl 30 _ hR (infoNum _) (by simp only [nums_size]) (tab_oneCell _ _ fun _ => rfl) ?_)
  exact bodyPost_ret (v := .agg (nums x)) (results_cell_row rfl _ _ (w.heap.size + 1) 30 _ _ _ rfl (hR.setRow _) Tryd.underlying30 rfl (infoNum _)) rfl ⟨rfl, below_setRow hb0 (by omega) _⟩
theorem bit0 (m b : Nat) (h : m % 2 = b) (W : World) : Calls Tryd.prog 60 #[.agg (nums m), .int .i64 0] W fun e w' => e = .returned (.int .u32 (b : Int)) ∧ Below W.heap.size W w' := by
  have e := bit_any m 0 W (by omega)
  have hb : bitN m 0 = b := by unfold bitN; rw [Nat.pow_zero, Nat.div_one]; exact h
  rw [hb] at e
  exact e
attribute [local go_sem] zeroNum md1 md2
set_option maxRecDepth 100000 in
set_option maxHeartbeats 1000000 in
theorem new_any (m : Nat) (w : World) (hodd : m % 2 = 1) (h1 : 1 < m) (hm : m < big) :
    Calls Tryd.prog 35 #[.agg (nums m)] w fun e w' => (∃ g, e = .returned (.tuple #[.pointer (some ⟨g, 0, none⟩), .int .i64 0]) ∧ IsMod w' g m) ∧ Below w.heap.size w w' := by
  have cB := fun W => bit0 m 1 hodd W
  have he := eql_nums hm (show 1 < big by decide +kernel)
  have hsm : sameN m 1 = false := decide_eq_false (by omega)
  rw [hsm] at he
  have ho : wrd m 0 % 2 = 1 := by have : wrd m 0 = m % 4294967296 := by (unfold wrd dg; rw [Nat.pow_zero, Nat.div_one])
                                  omega
  have hinv := inv_end (wrd m 0) ho
  have cV := fun W => (inverse_any (wrd m 0) W).mono (fun e w' (h : _ ∧ W = w') => (⟨h.1, by rw [← h.2]; exact Below.refl _ _⟩ : _ ∧ Below W.heap.size W w'))
  have hlt := invN_lt (wrd m 0) 5
  generalize invN (wrd m 0) 5 = n at *
  obtain ⟨ni, hni⟩ : ∃ ni, ni = 4294967296 - n := ⟨_, rfl⟩
  have hn0 : n ≠ 0 := fun h => by rw [h, Nat.mul_zero] at hinv; omega
  have hneg : IntKind.u32.wrap (-(n : Int)) = (ni : Int) := by rw [IntKind.wrap_u32]; omega
  have hnl : ni < 4294967296 := by omega
  have hw0 : wrd m 0 = m % BB := by unfold wrd dg; rw [Nat.pow_zero, Nat.div_one]
  have hend : (m % BB * ni + 1) % BB = 0 := by rw [← hw0]; exact neg_end hlt hinv hni
  have buildV := buildM m ni
  have cD1 := fun o s g W h => doubled_any 1 m ni o s g W h h1 hm
  have cD2 := fun o s g W h => doubled_any (RR % m) m ni o s g W h (Nat.mod_lt _ (by omega)) hm
  have e1 : RR * 1 % m = RR % m := by rw [Nat.mul_one]
  have e2 : RR * (RR % m) % m = RR * RR % m := by rw [Nat.mul_mod, Nat.mod_mod, ← Nat.mul_mod]
  simp only [e1] at cD1
  simp only [e2] at cD2
  have hI : ∀ (w' : World) (g : Nat), Has w' g 101 (modC m ni (RR % m) (RR * RR % m)) → IsMod w' g m := fun w' g h => ⟨ni, hnl, hend, hodd, h1, hm, h⟩
  have HI := Lib.hid hI
  have HD1 := Lib.hid cD1
  have HD2 := Lib.hid cD2
  clear hI e1 e2 cD1 cD2 hni hn0 hlt hinv ho hsm hodd h1 hm hnl hend hw0
  generalize RR % m = x at *
  generalize RR * RR % m = y at *
  have n0 := nums_ne 0
  have hA : Has (w.alloc (.cells (nums m) 30)) (w.heap.size) 30 (nums m) := Has.new w _ _
  have hb0 : Below w.heap.size w (w.alloc (.cells (nums m) 30)) := (Below.refl _ _).alloc (Nat.le_refl _) _
  go_enter Tryd.func35, Tryd.ntmps35
  go_wp2_with (first | refine wpList_load_has 30 _ rfl _ rfl rfl 30 _ hA _ Tryd.underlying30 rfl (infoNum _) ?_)
  refine (cB _).mono ?_
  rintro e w1 ⟨rfl, hx⟩
  replace hA := hA.after hx
  replace hb0 := below_trans hb0 hx
  clear hx cB
  go_wp2_with (first | refine wpList_load_has 30 _ rfl _ rfl rfl 30 _ hA _ Tryd.underlying30 rfl (infoNum _) ?_)
  refine region_quiet_tail (Below w1.heap.size w1) 6 (by kernel_rfl) (by kernel_rfl) (below_drewN (Below.refl _ _) 1) ?_
  simp only [List.take_succ_cons, List.take_zero, List.drop_succ_cons, List.drop_zero]
  refine wpQ_has 30 _ rfl _ rfl rfl 30 _ (fun w' hC => hA.after hC) _ Tryd.underlying30 rfl (infoNum _) ?_
  simp only [Act.put, List.setIfInBounds_toArray, List.set_cons_zero, List.set_cons_succ]
  refine wpQ_val rfl (.pointer (some ⟨w.heap.size, 0, none⟩)) (fun w' _ => by go_simp) ?_
  simp only [Act.put, List.setIfInBounds_toArray, List.set_cons_zero, List.set_cons_succ]
  refine wpQ_load 28 _ rfl rfl _ rfl (.int .u32 ((wrd m 0 : Nat) : Int)) (fun w' hC => cell_u32 _ _ _ w' (nums_at (hA.after hC) 0 (by omega))) ?_
  simp only [Act.put, List.setIfInBounds_toArray, List.set_cons_zero, List.set_cons_succ]
  refine wpQ_fn 61 _ _ rfl rfl #[.int .u32 ((wrd m 0 : Nat) : Int)] rfl (fun _ => by go_simp) (.int .u32 (n : Int)) (fun w' hC => (cV w').mono fun e w'' ⟨he, hb⟩ => ⟨he, below_class hC hb⟩) ?_
  simp only [Act.put, List.setIfInBounds_toArray, List.set_cons_zero, List.set_cons_succ]
  refine wpQ_un _ _ _ rfl rfl (.int .u32 (n : Int)) rfl (.int .u32 (ni : Int)) (fun w' _ => negU _ _ hneg w') ?_
  simp only [Act.put, List.setIfInBounds_toArray, List.set_cons_zero, List.set_cons_succ]
  refine wpQ_parts 101 _ rfl rfl #[(0, .agg (nums m)), (1, .int .u32 (ni : Int))] (by simp only [List.map_toArray, List.map_cons, List.map_nil]; rfl) (.agg (modC m ni 0 0)) (fun w' _ => buildV w') ?_
  simp only [Act.put, List.setIfInBounds_toArray, List.set_cons_zero, List.set_cons_succ]
  refine wpQuiet_nil ?_
  intro w2 hC
  replace hb0 := below_trans hb0 hC
  have hgw := hb0.size
  have hG : Has (w2.alloc (.cells (modC m ni 0 0) 101)) w2.heap.size 101 (modC m ni 0 0) := Has.new _ _ _
  replace hb0 := hb0.alloc hgw (.cells (modC m ni 0 0) 101)
  clear hC hA cV hneg buildV he
  go_wp2_with fail
  generalize hWW : w2.alloc _ = W at *
  clear hWW
  generalize w2.heap.size = g at *
  refine (HD1.out _ _ _ _ hG).mono ?_
  rintro z w3 ⟨rfl, hx⟩
  replace hG := hG.after hx
  replace hb0 := below_trans hb0 hx
  have hG2 := hG.setRow (modC m ni x 0)
  replace hb0 := below_setRow hb0 (g := g) hgw (modC m ni x 0)
  clear hx
  go_wp2_with (first | refine wpList_store_sub rfl _ _ rfl g 9 rfl x rfl 25 (modF m ni 0 0) 101 hG (by omega) (modC m ni x 0) (oneM m ni 0 0 x) ?_ | refine wpList_load_num rfl _ rfl _ 9 rfl _ (mod_one hG2) ?_)
  refine (HD2.out _ _ _ _ hG2).mono ?_
  rintro z w4 ⟨rfl, hx⟩
  replace hG2 := hG2.after hx
  replace hb0 := below_trans hb0 hx
  have hG3 := hG2.setRow (modC m ni x y)
  replace hb0 := below_setRow hb0 (g := g) hgw (modC m ni x y)
  clear hx hG
  go_wp2_with (first | refine wpList_store_sub rfl _ _ rfl g 17 rfl y rfl 25 (modF m ni x 0) 101 hG2 (by omega) (modC m ni x y) (squareM m ni x 0 y) ?_)
  go_ret2
  exact ⟨⟨g, rfl, HI.out _ _ hG3⟩, hb0⟩
attribute [local go_sem] zeroNum md1 md2
set_option maxRecDepth 100000 in
set_option maxHeartbeats 1000000 in
theorem new_bad_any (m : Nat) (w : World) (hm : m < big) (hbad : m % 2 = 0 ∨ m = 1) :
    Calls Tryd.prog 35 #[.agg (nums m)] w fun e w' => e = .returned (.tuple #[.pointer none, .int .i64 1]) ∧ Below w.heap.size w w' := by
  have he := eql_nums hm (show 1 < big by decide +kernel)
  have n0 := nums_ne 0
  have hA : Has (w.alloc (.cells (nums m) 30)) (w.heap.size) 30 (nums m) := Has.new w _ _
  have hb0 : Below w.heap.size w (w.alloc (.cells (nums m) 30)) := (Below.refl _ _).alloc (Nat.le_refl _) _
  by_cases hz : m % 2 = 0
  · have cB := fun W => bit0 m 0 hz W
    clear hbad he hz
    go_enter Tryd.func35, Tryd.ntmps35
    go_wp2_with (first | refine wpList_load_has 30 _ rfl _ rfl rfl 30 _ hA _ Tryd.underlying30 rfl (infoNum _) ?_)
    refine (cB _).mono ?_
    rintro e w1 ⟨rfl, hx⟩
    replace hb0 := below_trans hb0 hx
    clear hx cB hA
    go_wp2_with fail
    go_ret2
    exact ⟨rfl, hb0⟩
  · have h1 : m = 1 := by omega
    have cB := fun W => bit0 m 1 (by omega) W
    have hsm : sameN m 1 = true := decide_eq_true h1
    rw [hsm] at he
    clear hbad hz h1 hsm
    go_enter Tryd.func35, Tryd.ntmps35
    go_wp2_with (first | refine wpList_load_has 30 _ rfl _ rfl rfl 30 _ hA _ Tryd.underlying30 rfl (infoNum _) ?_)
    refine (cB _).mono ?_
    rintro e w1 ⟨rfl, hx⟩
    replace hA := hA.after hx
    replace hb0 := below_trans hb0 hx
    clear hx cB
    go_wp2_with (first | refine wpList_load_has 30 _ rfl _ rfl rfl 30 _ hA _ Tryd.underlying30 rfl (infoNum _) ?_)
    go_ret2
    exact ⟨rfl, hb0⟩
end Go.Proofs.YtflkhlhpifmocaaDoor
namespace Go.Proofs.YtflkhlhpifmocaaDoor.Ec

/-- the integers modulo the prime of P-256 -/
abbrev FP : Type := Fin 115792089210356248762697446949407573530086143415290314195533631308867097853951
/-- they are a field -/
structure Fld : Prop where
  nzd : ∀ a b : FP, a * b = 0 → a = 0 ∨ b = 0
  inv : ∀ a : FP, a ≠ 0 → ∃ b, a * b = 1
/-- the curve's numbers make a curve without a singular point -/
def Smooth (a b : FP) : Prop := 4 * (a * a * a) + 27 * (b * b) ≠ 0

theorem two_ne : (2 : FP) ≠ 0 := by decide
theorem Fld.cancel (F : Fld) {c a b : FP} (h : c * a = c * b) (hc : c ≠ 0) : a = b := by
  have h2 : c * (a - b) = 0 := by grobner
  rcases F.nzd _ _ h2 with h3 | h3
  · exact absurd h3 hc
  · grobner
theorem Fld.mul_ne (F : Fld) {a b : FP} (ha : a ≠ 0) (hb : b ≠ 0) : a * b ≠ 0 := fun h => (F.nzd a b h).elim ha hb
theorem Fld.dbl_ne (F : Fld) {a : FP} (ha : a ≠ 0) : 2 * a ≠ 0 := F.mul_ne two_ne ha
theorem sub_ne {a b : FP} (h : a ≠ b) : a - b ≠ 0 := fun e => h (by grobner)
noncomputable def finv (x : FP) : FP := Classical.epsilon fun y => x * y = 1
theorem Fld.finv_mul (F : Fld) {x : FP} (h : x ≠ 0) : x * finv x = 1 := Classical.epsilon_spec (F.inv x h)

abbrev Pnt := Option (FP × FP)
/-- on the curve -/
def On (a b : FP) : Pnt → Prop
  | none => True
  | some (x, y) => y * y = x * x * x + a * x + b
def neg : Pnt → Pnt
  | none => none
  | some (x, y) => some (x, 0 - y)
noncomputable def slope (a x1 y1 x2 y2 : FP) : FP := if x1 = x2 then (3 * (x1 * x1) + a) * finv (2 * y1) else (y2 - y1) * finv (x2 - x1)
def thirdX (l x1 x2 : FP) : FP := l * l - x1 - x2
def thirdY (l x1 y1 x2 : FP) : FP := l * (x1 - (l * l - x1 - x2)) - y1
noncomputable def add (a : FP) : Pnt → Pnt → Pnt
  | none, Q => Q
  | some P, none => some P
  | some (x1, y1), some (x2, y2) => if x1 = x2 ∧ y1 + y2 = 0 then none else some (thirdX (slope a x1 y1 x2 y2) x1 x2, thirdY (slope a x1 y1 x2 y2) x1 y1 x2)

/-- three points on a line of slope l, as often as the line meets the curve there -/
structure Col (a x1 y1 x2 y2 x3 y3 l : FP) : Prop where
  h2 : y2 = y1 + l * (x2 - x1)
  h3 : y3 = y1 + l * (x3 - x1)
  e1 : x1 + x2 + x3 = l * l
  e2 : x1 * x2 + x1 * x3 + x2 * x3 = a - 2 * l * (y1 - l * x1)

section
variable {a b x1 y1 x2 y2 x3 y3 l : FP}
theorem Col.swap (h : Col a x1 y1 x2 y2 x3 y3 l) : Col a x2 y2 x1 y1 x3 y3 l := by
  obtain ⟨h2, h3, e1, e2⟩ := h
  exact ⟨by grobner, by grobner, by grobner, by grobner⟩
theorem Col.rot (h : Col a x1 y1 x2 y2 x3 y3 l) : Col a x2 y2 x3 y3 x1 y1 l := by
  obtain ⟨h2, h3, e1, e2⟩ := h
  exact ⟨by grobner, by grobner, by grobner, by grobner⟩
theorem Col.neg (h : Col a x1 y1 x2 y2 x3 y3 l) : Col a x1 (0 - y1) x2 (0 - y2) x3 (0 - y3) (0 - l) := by
  obtain ⟨h2, h3, e1, e2⟩ := h
  exact ⟨by grobner, by grobner, by grobner, by grobner⟩
/-- the third point is on the curve -/
theorem Col.on (h : Col a x1 y1 x2 y2 x3 y3 l) (o1 : On a b (some (x1, y1))) : On a b (some (x3, y3)) := by
  obtain ⟨h2, h3, e1, e2⟩ := h
  simp only [On] at *
  grobner
theorem on_neg {P : Pnt} (h : On a b P) : On a b (Ec.neg P) := by
  match P with
  | none => trivial
  | some (x, y) => simp only [On, Ec.neg] at *; grobner
theorem neg_neg (P : Pnt) : Ec.neg (Ec.neg P) = P := by
  match P with
  | none => rfl
  | some (x, y) => simp only [Ec.neg]; congr 2; grobner
/-- a sum that is not at infinity lies on a line with the two -/
theorem add_col (F : Fld) (o1 : On a b (some (x1, y1))) (o2 : On a b (some (x2, y2))) (h : ¬ (x1 = x2 ∧ y1 + y2 = 0)) :
    ∃ x3 y3 l, add a (some (x1, y1)) (some (x2, y2)) = some (x3, 0 - y3) ∧ Col a x1 y1 x2 y2 x3 y3 l := by
  refine ⟨thirdX (slope a x1 y1 x2 y2) x1 x2, 0 - thirdY (slope a x1 y1 x2 y2) x1 y1 x2, slope a x1 y1 x2 y2, ?_, ?_⟩
  · simp only [add, if_neg h]; congr 2; grobner
  · simp only [On] at o1 o2
    by_cases hx : x1 = x2
    · subst hx
      have hs : slope a x1 y1 x1 y2 = (3 * (x1 * x1) + a) * finv (2 * y1) := by simp [slope]
      have hy : y1 + y2 ≠ 0 := fun e => h ⟨rfl, e⟩
      have hyy : y1 = y2 := by
        have h2 : (y1 + y2) * (y1 - y2) = 0 := by grobner
        rcases F.nzd _ _ h2 with h3 | h3
        · exact absurd h3 hy
        · grobner
      subst hyy
      have hi := F.finv_mul (x := 2 * y1) (fun e => hy (by grobner))
      generalize slope a x1 y1 x1 y1 = l at *
      generalize finv (2 * y1) = i at *
      unfold thirdX thirdY
      exact ⟨by grobner, by grobner, by grobner, by grobner⟩
    · have hs : slope a x1 y1 x2 y2 = (y2 - y1) * finv (x2 - x1) := by simp [slope, hx]
      have hd : x2 - x1 ≠ 0 := sub_ne (Ne.symm hx)
      have hi := F.finv_mul hd
      have hl : slope a x1 y1 x2 y2 * (x2 - x1) = y2 - y1 := by rw [hs]; grobner
      generalize slope a x1 y1 x2 y2 = l at *
      clear hs hi
      unfold thirdX thirdY
      refine ⟨by grobner, by grobner, by grobner, ?_⟩
      refine F.cancel ?_ hd
      grobner
/-- .. and it is the only one -/
theorem col_add (F : Fld) (S : Smooth a b) (o1 : On a b (some (x1, y1))) (o2 : On a b (some (x2, y2))) (h : Col a x1 y1 x2 y2 x3 y3 l) :
    add a (some (x1, y1)) (some (x2, y2)) = some (x3, 0 - y3) := by
  have hn : ¬ (x1 = x2 ∧ y1 + y2 = 0) := by
    rintro ⟨rfl, hy⟩
    obtain ⟨h2, h3, e1, e2⟩ := h
    simp only [On] at o1 o2
    have hy0 : y1 = 0 := by
      have : 2 * y1 = 2 * 0 := by grobner
      exact F.cancel this two_ne
    have ht : 3 * (x1 * x1) + a = 0 := by grobner
    subst hy0
    exact S (by grobner)
  obtain ⟨x4, y4, m, hadd, hc⟩ := add_col F o1 o2 hn
  rw [hadd]
  have hlm : l = m := by
    obtain ⟨h2, h3, e1, e2⟩ := h
    obtain ⟨g2, g3, f1, f2⟩ := hc
    by_cases hx : x1 = x2
    · subst hx
      have hy2 : y2 = y1 := by grobner
      have hy : 2 * y1 ≠ 0 := fun e => hn ⟨rfl, by grobner⟩
      refine F.cancel (c := 2 * y1) ?_ hy
      grobner
    · refine F.cancel (c := x2 - x1) ?_ (sub_ne (Ne.symm hx))
      clear h3 e1 e2 g3 f1 f2 o1 o2 hadd
      grobner
  subst hlm
  have hx3 : x3 = x4 := by have := h.e1; have := hc.e1; grobner
  have hy3 : y3 = y4 := by have := h.h3; have := hc.h3; rw [hx3] at *; grobner
  rw [hx3, hy3]
theorem add_none (a : FP) (P : Pnt) : add a P none = P := by
  match P with
  | none => rfl
  | some (x, y) => rfl
theorem none_add (a : FP) (P : Pnt) : add a none P = P := rfl
theorem add_neg (a : FP) (P : Pnt) : add a P (Ec.neg P) = none := by
  match P with
  | none => rfl
  | some (x, y) =>
    simp only [Ec.neg, add]
    rw [if_pos ⟨trivial, by grobner⟩]
theorem add_comm (F : Fld) (S : Smooth a b) {P Q : Pnt} (hP : On a b P) (hQ : On a b Q) : add a P Q = add a Q P := by
  match P, Q with
  | none, Q => rw [add_none, none_add]
  | some (x1, y1), none => rfl
  | some (x1, y1), some (x2, y2) =>
    by_cases h : x1 = x2 ∧ y1 + y2 = 0
    · have h2 : x2 = x1 ∧ y2 + y1 = 0 := ⟨h.1.symm, by have := h.2; grobner⟩
      simp only [add, if_pos h, if_pos h2]
    · obtain ⟨x3, y3, l, e, hc⟩ := add_col F hP hQ h
      rw [e, col_add F S hQ hP hc.swap]
theorem add_on (F : Fld) {P Q : Pnt} (hP : On a b P) (hQ : On a b Q) : On a b (add a P Q) := by
  match P, Q with
  | none, Q => exact hQ
  | some (x1, y1), none => exact hP
  | some (x1, y1), some (x2, y2) =>
    by_cases h : x1 = x2 ∧ y1 + y2 = 0
    · simp only [add, if_pos h, On]
    · obtain ⟨x3, y3, l, e, hc⟩ := add_col F hP hQ h
      rw [e]
      exact on_neg (P := some (x3, y3)) (hc.on hP)
/-- a sum, and one of the two taken away again -/
theorem neg_add_cancel (F : Fld) (S : Smooth a b) {P Q : Pnt} (hP : On a b P) (hQ : On a b Q) : add a (Ec.neg P) (add a P Q) = Q := by
  match P, Q with
  | none, Q => rfl
  | some (x1, y1), none =>
    rw [add_none]
    have := add_neg a (Ec.neg (some (x1, y1)))
    rw [neg_neg] at this
    exact this
  | some (x1, y1), some (x2, y2) =>
    by_cases h : x1 = x2 ∧ y1 + y2 = 0
    · have e : add a (some (x1, y1)) (some (x2, y2)) = none := by simp only [add, if_pos h]
      rw [e, add_none]
      obtain ⟨h1, h2⟩ := h
      simp only [Ec.neg]
      congr 2
      grobner
    · obtain ⟨x3, y3, l, e, hc⟩ := add_col F hP hQ h
      rw [e]
      have o1 := on_neg hP
      have o3 := on_neg (P := some (x3, y3)) (hc.on hP)
      have := col_add F S o1 o3 hc.neg.swap.rot
      simp only [Ec.neg] at *
      rw [this]
      congr 2
      grobner
theorem lin2 {A B P1 Q1 P2 Q2 : FP} (c1 c2 : FP) (h1 : P1 = Q1) (h2 : P2 = Q2) (e : A - B = c1 * (P1 - Q1) + c2 * (P2 - Q2)) : A = B := by
  subst h1 h2
  have z1 : P1 - P1 = 0 := by grobner
  have z2 : P2 - P2 = 0 := by grobner
  rw [z1, z2] at e
  grobner
section
variable {x4 y4 x5 y5 x6 y6 m n : FP}
theorem idy5 (k3 : x1 * x2 + x1 * (l * l - x1 - x2) + x2 * (l * l - x1 - x2) + 2 * l * (y1 - l * x1) = x2 * x3 + x2 * (m * m - x2 - x3) + x3 * (m * m - x2 - x3) + 2 * m * (y1 + l * (x2 - x1) - m * x2)) (hk : (l - m) * (n + l) = x1 - x3) :
    (l - m) * (0 - (y1 + l * (x2 - x1) + m * (m * m - x2 - x3 - x2))) = (l - m) * (y1 + (n + l - m) * (m * m - x2 - x3 - x1)) := by
  refine lin2 (0 - (m * m - x2 - x3 - x1)) (0 - 1) hk k3 ?_
  clear k3 hk
  grobner
theorem idx6 (hk : (l - m) * (n + l) = x1 - x3) : x1 + (m * m - x2 - x3) + (n * n - (l * l - x1 - x2) - x3) = (n + l - m) * (n + l - m) := by
  refine lin2 (0 - 2) 0 hk hk ?_
  clear hk
  grobner
theorem idy6 (hk : (l - m) * (n + l) = x1 - x3) : (y1 + l * (x2 - x1)) + m * (x3 - x2) + n * (n * n - (l * l - x1 - x2) - x3 - x3) = y1 + (n + l - m) * (n * n - (l * l - x1 - x2) - x3 - x1) := by
  refine lin2 (0 - (n - m) + (l - m)) 0 hk hk ?_
  clear hk
  grobner
theorem ide2 (k3 : x1 * x2 + x1 * (l * l - x1 - x2) + x2 * (l * l - x1 - x2) + 2 * l * (y1 - l * x1) = x2 * x3 + x2 * (m * m - x2 - x3) + x3 * (m * m - x2 - x3) + 2 * m * (y1 + l * (x2 - x1) - m * x2)) (hk : (l - m) * (n + l) = x1 - x3) :
    (l - m) * (x1 * (m * m - x2 - x3) + x1 * (n * n - (l * l - x1 - x2) - x3) + (m * m - x2 - x3) * (n * n - (l * l - x1 - x2) - x3)) = (l - m) * (x1 * x2 + x1 * (l * l - x1 - x2) + x2 * (l * l - x1 - x2) + 2 * l * (y1 - l * x1) - 2 * (n + l - m) * (y1 - (n + l - m) * x1)) := by
  refine lin2 (0 - l * m * m - 2 * l * x1 + l * x3 + m * m * n + 3 * m * x1 + m * x2 - n * x1 - n * x2 - n * x3) (n - m) hk k3 ?_
  clear k3 hk
  grobner
theorem idk (k3 : x1 * x2 + x1 * (l * l - x1 - x2) + x2 * (l * l - x1 - x2) + 2 * l * (y1 - l * x1) = x2 * x3 + x2 * (m * m - x2 - x3) + x3 * (m * m - x2 - x3) + 2 * m * (y1 + l * (x2 - x1) - m * x2))
    (e : (y1 + l * (x2 - x1) + m * (x3 - x2)) + (y1 + l * (l * l - x1 - x2 - x1)) = n * (x3 - (l * l - x1 - x2))) : (x3 - (l * l - x1 - x2)) * ((l - m) * (n + l)) = (x3 - (l * l - x1 - x2)) * (x1 - x3) := by
  refine lin2 1 (0 - (l - m)) k3 e ?_
  clear k3 e
  grobner
theorem idt (d : 0 - (y1 + l * (x3 - (l * l - x2 - x3))) = y1 + l * (x2 - (l * l - x2 - x3)) + m * (x3 - x2))
    (c : x3 * x3 + 2 * x3 * (n * n - 2 * x3) = (l * l - x2 - x3) * x2 + (l * l - x2 - x3) * x3 + x2 * x3 + 2 * l * (y1 - l * (l * l - x2 - x3)) - 2 * n * (0 - (y1 + l * (x3 - (l * l - x2 - x3))) - n * x3)) :
    (x3 - x2) * ((l - m) * (n + l)) = (x3 - x2) * (l * l - x2 - x3 - x3) := by
  refine lin2 (0 - 1) (l + n) c d ?_
  clear c d
  grobner
theorem e1_sub (h : x1 + x2 + x3 = l * l) : x3 = l * l - x1 - x2 := by grobner
theorem e1_sub1 (h : x1 + x2 + x3 = l * l) : x1 = l * l - x2 - x3 := by grobner
theorem k3_of (a5 : x1 * x2 + x1 * x4 + x2 * x4 = a - 2 * l * (y1 - l * x1)) (b5 : x2 * x3 + x2 * x5 + x3 * x5 = a - 2 * m * (y2 - m * x2)) :
    x1 * x2 + x1 * x4 + x2 * x4 + 2 * l * (y1 - l * x1) = x2 * x3 + x2 * x5 + x3 * x5 + 2 * m * (y2 - m * x2) := by grobner
theorem a_of (a5 : x1 * x2 + x1 * x4 + x2 * x4 = a - 2 * l * (y1 - l * x1)) : a = x1 * x2 + x1 * x4 + x2 * x4 + 2 * l * (y1 - l * x1) := by grobner
theorem y6_of (c2 : y3 = 0 - y4 + n * (x3 - x4)) (c3 : y6 = 0 - y4 + n * (x6 - x4)) : y6 = y3 + n * (x6 - x3) := by
  subst c2 c3
  grobner
theorem c_of (c2 : y3 = 0 - y4 + n * (x3 - x4)) : y3 + y4 = n * (x3 - x4) := by
  subst c2
  grobner
theorem x6_of (c4 : x3 + x3 + x6 = n * n) : x6 = n * n - 2 * x3 := by grobner
theorem cc_of (c5 : x3 * x3 + x3 * x6 + x3 * x6 = a - 2 * n * (y3 - n * x3)) : x3 * x3 + 2 * x3 * x6 = a - 2 * n * (y3 - n * x3) := by grobner
theorem nine (F : Fld) (h1 : Col a x1 y1 x2 y2 x4 y4 l) (h2 : Col a x2 y2 x3 y3 x5 y5 m) (h3 : Col a x4 (0 - y4) x3 y3 x6 y6 n)
    (hs : l - m ≠ 0) (hk : (l - m) * (n + l) = x1 - x3) : Col a x1 y1 x5 (0 - y5) x6 y6 (n + l - m) := by
  obtain ⟨a2, a3, a4, a5⟩ := h1
  obtain ⟨b2, b3, b4, b5⟩ := h2
  obtain ⟨c2, c3, c4, c5⟩ := h3
  have k3 := k3_of a5 b5
  have r4 := e1_sub a4
  have r5 := e1_sub b4
  have r6 := e1_sub c4
  have ra := a_of a5
  have cy := y6_of c2 c3
  clear a4 b4 c4 a5 b5 c5 c2 c3
  subst ra cy r6 r4 r5 b3 b2 a3 a2
  refine ⟨F.cancel (idy5 k3 hk) hs, idy6 hk, idx6 hk, F.cancel (ide2 k3 hk) hs⟩
/-- .. with the slopes' equation, where the points of the third line are not the same, and where they are -/
theorem slopes (F : Fld) (h1 : Col a x1 y1 x2 y2 x4 y4 l) (h2 : Col a x2 y2 x3 y3 x5 y5 m) (h3 : Col a x4 (0 - y4) x3 y3 x6 y6 n) (hne : x3 ≠ x4 ∨ (x3 = x4 ∧ y3 = 0 - y4 ∧ x3 ≠ x2)) : (l - m) * (n + l) = x1 - x3 := by
  obtain ⟨a2, a3, a4, a5⟩ := h1
  obtain ⟨b2, b3, b4, b5⟩ := h2
  obtain ⟨c2, c3, c4, c5⟩ := h3
  rcases hne with hx | ⟨hx, hy, hx2⟩
  · have k3 := k3_of a5 b5
    have r4 := e1_sub a4
    have r5 := e1_sub b4
    have c := c_of c2
    clear a4 b4 c4 a5 b5 c5 c2 c3
    subst r4 r5 b3 b2 a3 a2
    exact F.cancel (idk k3 c) (sub_ne hx)
  · have ra := a_of a5
    subst hx
    have r6 := x6_of c4
    have r1 := e1_sub1 a4
    have hyy : 0 - y4 = y3 := hy.symm
    rw [hyy] at c5
    have hc := cc_of c5
    clear a4 b4 c4 a5 b5 c5 c2 c3 b3 hyy
    subst ra r6 hy
    rw [a2, a3] at b2
    rw [a3] at hc
    subst r1
    exact F.cancel (idt b2 hc) (sub_ne hx2)
theorem same_line (h1 : Col a x1 y1 x2 y2 x4 y4 l) (h2 : Col a x2 y2 x3 y3 x5 y5 l) : (x1 - x3) * (x1 - x5) = 0 := by
  obtain ⟨a2, a3, a4, a5⟩ := h1
  obtain ⟨b2, b3, b4, b5⟩ := h2
  have k3 := k3_of a5 b5
  have r4 := e1_sub a4
  have r5 := e1_sub b4
  clear a4 b4 a5 b5
  subst r4 r5 b3 b2 a3 a2
  refine lin2 (0 - 1) 0 k3 k3 ?_
  clear k3
  grobner
theorem sq_eq (F : Fld) (h : y1 * y1 = y2 * y2) : y1 = y2 ∨ y1 = 0 - y2 := by
  have e : (y1 - y2) * (y1 + y2) = 0 := by grobner
  rcases F.nzd _ _ e with h | h
  · exact .inl (by grobner)
  · exact .inr (by grobner)
theorem neg_self_add (y : FP) : 0 - y + y = 0 := by grobner
theorem self_neg_add (y : FP) : y + (0 - y) = 0 := by grobner
theorem eq_neg_of (h : y1 + y2 = 0) : y1 = 0 - y2 := by grobner
theorem eq_of_neg (h : 0 - y1 + y2 = 0) : y2 = y1 := by grobner
theorem neg_neg_F (y : FP) : 0 - (0 - y) = y := by grobner
/-- sums hang on no order of brackets -/
theorem assoc (F : Fld) (S : Smooth a b) {A B C : Pnt} (oA : On a b A) (oB : On a b B) (oC : On a b C) : add a (add a A B) C = add a A (add a B C) := by
  match A, B, C with
  | none, B, C => rw [none_add, none_add]
  | some A, none, C => rfl
  | some A, some B, none => rw [add_none, add_none]
  | some (x1, y1), some (x2, y2), some (x3, y3) =>
    by_cases hAB : x1 = x2 ∧ y1 + y2 = 0
    · have e : add a (some (x1, y1)) (some (x2, y2)) = none := by simp only [add, if_pos hAB]
      rw [e, none_add]
      have hA : some (x1, y1) = Ec.neg (some (x2, y2)) := by
        simp only [Ec.neg]
        rw [hAB.1, eq_neg_of hAB.2]
      rw [hA, neg_add_cancel F S oB oC]
    by_cases hBC : x2 = x3 ∧ y2 + y3 = 0
    · have e : add a (some (x2, y2)) (some (x3, y3)) = none := by simp only [add, if_pos hBC]
      rw [e, add_none]
      have hB : some (x3, y3) = Ec.neg (some (x2, y2)) := by
        simp only [Ec.neg]
        rw [← hBC.1, eq_neg_of hBC.2, neg_neg_F]
      rw [hB, add_comm F S (add_on F oA oB) (on_neg oB), add_comm F S oA oB, neg_add_cancel F S oB oA]
    obtain ⟨x4, y4, l, eT, h1⟩ := add_col F oA oB hAB
    obtain ⟨x5, y5, m, eS, h2⟩ := add_col F oB oC hBC
    have oT := h1.on oA
    have oS := h2.on oB
    rw [eT, eS]
    by_cases hCT : x3 = x4 ∧ y3 = y4
    · obtain ⟨rfl, rfl⟩ := hCT
      have e1 := col_add F S oB oC h1.rot
      rw [eS] at e1
      rw [e1]
      simp only [add]
      rw [if_pos ⟨trivial, neg_self_add _⟩, if_pos ⟨trivial, self_neg_add _⟩]
    by_cases hSA : x5 = x1 ∧ y5 = y1
    · obtain ⟨rfl, rfl⟩ := hSA
      have e1 := col_add F S oA oB h2.rot.rot
      rw [eT] at e1
      rw [e1]
      simp only [add]
      rw [if_pos ⟨trivial, neg_self_add _⟩, if_pos ⟨trivial, self_neg_add _⟩]
    by_cases hlm : l = m
    · subst hlm
      rcases F.nzd _ _ (same_line h1 h2) with h | h
      · have hx : x1 = x3 := by grobner
        have hy : y1 = y3 := by
          have e1 := h1.h2
          have e2 := h2.h2
          rw [← hx] at e2
          clear h1 h2 oA oB oC oT oS h
          grobner
        subst hx hy
        rw [← eT, ← eS, add_comm F S oB oA]
        exact add_comm F S (add_on F oA oB) oA
      · have hx : x5 = x1 := by grobner
        have hy : y5 = y1 := by
          have e1 := h1.h2
          have e2 := h2.h3
          rw [hx] at e2
          clear h1 h2 oA oB oC oT oS h
          grobner
        exact absurd ⟨hx, hy⟩ hSA
    have hs : l - m ≠ 0 := sub_ne hlm
    have oT' := on_neg (P := some (x4, y4)) oT
    have oS' := on_neg (P := some (x5, y5)) oS
    obtain ⟨x6, y6, n, eU, h3⟩ := add_col F oT' oC (fun h => hCT ⟨h.1.symm, eq_of_neg h.2⟩)
    have hne : x3 ≠ x4 ∨ (x3 = x4 ∧ y3 = 0 - y4 ∧ x3 ≠ x2) := by
      by_cases hx : x3 = x4
      · right
        have hy : y3 = 0 - y4 := by
          have hh : y3 * y3 = y4 * y4 := by
            simp only [On] at oC oT
            rw [oC, oT, hx]
          rcases sq_eq F hh with h | h
          · exact absurd ⟨hx, h⟩ hCT
          · exact h
        refine ⟨hx, hy, fun hx2 => ?_⟩
        have e1 := h1.h2
        have e2 := h1.h3
        have h42 : y4 = y2 := by rw [e1, e2, ← hx, hx2]
        exact hBC ⟨hx2.symm, by rw [hy, h42]; exact self_neg_add _⟩
      · exact .inl hx
    have hk := slopes F h1 h2 h3 hne
    have h9 := nine F h1 h2 h3 hs hk
    rw [eU, col_add F S oA oS' h9]
end
end
end Go.Proofs.YtflkhlhpifmocaaDoor.Ec
namespace Go.Proofs.YtflkhlhpifmocaaDoor.Ec
open Go

theorem primeP_lit : primeP = 115792089210356248762697446949407573530086143415290314195533631308867097853951 := rfl
theorem fldP : Fld := by
  have hinv : ∀ a : FP, a ≠ 0 → ∃ b, a * b = 1 := fun a ha => by
    have h0 : a.val % primeP ≠ 0 := fun h => by
      have hlt : a.val < primeP := a.isLt
      rw [Nat.mod_eq_of_lt hlt] at h
      exact ha (Fin.ext h)
    have hf := fermatP a.val h0
    refine ⟨⟨a.val ^ (primeP - 2) % primeP, Nat.mod_lt _ (by decide +kernel)⟩, Fin.ext ?_⟩
    show a.val * (a.val ^ (primeP - 2) % primeP) % primeP = 1
    rw [Nat.mul_mod, Nat.mod_mod, ← Nat.mul_mod, Nat.mul_comm, ← Nat.pow_succ]
    exact hf
  refine ⟨fun a b h => ?_, hinv⟩
  by_cases ha : a = 0
  · exact .inl ha
  · obtain ⟨c, hc⟩ := hinv a ha
    right
    have e : b = c * (a * b) := by grobner
    rw [h] at e
    rw [e]
    grobner

def cA : FP := 0 - 3
def cB : FP := 0x5AC635D8AA3A93E7B3EBBD55769886BC651D06B0CC53B0F63BCE3C3E27D2604B
theorem smoothP : Smooth cA cB := by unfold Smooth cA cB; decide +kernel
def gX : Nat := 0x6B17D1F2E12C4247F8BCE6E563A440F277037D812DEB33A0F4A13945D898C296
def gY : Nat := 0x4FE342E2FE1A7F9B8EE7EB4A7C0F9E162BCE33576B315ECECBB6406837BF51F5
abbrev OnP (P : Pnt) : Prop := On cA cB P
noncomputable abbrev plus (P Q : Pnt) : Pnt := add cA P Q
def baseP : Pnt := some (Fin.ofNat _ gX, Fin.ofNat _ gY)
theorem base_on : OnP baseP := by unfold OnP baseP On cA cB; decide +kernel

theorem plus_comm {P Q : Pnt} (hP : OnP P) (hQ : OnP Q) : plus P Q = plus Q P := add_comm fldP smoothP hP hQ
theorem plus_assoc {P Q R : Pnt} (hP : OnP P) (hQ : OnP Q) (hR : OnP R) : plus (plus P Q) R = plus P (plus Q R) := assoc fldP smoothP hP hQ hR
theorem plus_on {P Q : Pnt} (hP : OnP P) (hQ : OnP Q) : OnP (plus P Q) := add_on fldP hP hQ
theorem none_on : OnP none := trivial
/-- so often by itself -/
noncomputable def smul : Nat → Pnt → Pnt
  | 0, _ => none
  | n + 1, P => plus (smul n P) P
theorem smul_on {P : Pnt} (hP : OnP P) : ∀ n, OnP (smul n P)
  | 0 => none_on
  | n + 1 => plus_on (smul_on hP n) hP
theorem smul_zero (P : Pnt) : smul 0 P = none := rfl
theorem smul_one (P : Pnt) : smul 1 P = P := rfl
theorem smul_add {P : Pnt} (hP : OnP P) (m : Nat) : ∀ n, smul (m + n) P = plus (smul m P) (smul n P)
  | 0 => by rw [Nat.add_zero, smul_zero]; exact (add_none _ _).symm
  | n + 1 => by
    show plus (smul (m + n) P) P = plus (smul m P) (plus (smul n P) P)
    rw [smul_add hP m n, plus_assoc (smul_on hP m) (smul_on hP n) hP]
theorem smul_two {P : Pnt} (hP : OnP P) (n : Nat) : smul (2 * n) P = plus (smul n P) (smul n P) := by rw [Nat.two_mul, smul_add hP]
theorem smul_none : ∀ n, smul n none = none
  | 0 => rfl
  | n + 1 => by show plus (smul n none) none = none; rw [smul_none n]; rfl
theorem smul_smul {P : Pnt} (hP : OnP P) (m : Nat) : ∀ n, smul n (smul m P) = smul (m * n) P
  | 0 => rfl
  | n + 1 => by
    show plus (smul n (smul m P)) (smul m P) = smul (m * (n + 1)) P
    rw [smul_smul hP m n, Nat.mul_succ, smul_add hP]
theorem smul_plus {P Q : Pnt} (hP : OnP P) (hQ : OnP Q) : ∀ n, smul n (plus P Q) = plus (smul n P) (smul n Q)
  | 0 => rfl
  | n + 1 => by
    show plus (smul n (plus P Q)) (plus P Q) = plus (plus (smul n P) P) (plus (smul n Q) Q)
    have h1 := smul_on hP n
    have h2 := smul_on hQ n
    rw [smul_plus hP hQ n, plus_assoc h1 h2 (plus_on hP hQ), plus_assoc h1 hP (plus_on h2 hQ), ← plus_assoc h2 hP hQ, plus_comm h2 hP, plus_assoc hP h2 hQ]

/-- a point as X/Z, Y/Z; Z 0: at infinity -/
def Rep (X Y Z : FP) : Pnt → Prop
  | none => Z = 0
  | some (x, y) => Z ≠ 0 ∧ X = x * Z ∧ Y = y * Z
theorem cA_eq (x : FP) : 3 * (x * x) + cA = 3 * (x * x - 1) := by unfold cA; grobner
theorem three_ne : (3 : FP) ≠ 0 := by decide
theorem dbl_none {y : FP} : y + y = 0 ↔ y = 0 := by
  constructor
  · intro h
    refine fldP.cancel (c := 2) ?_ two_ne
    grobner
  · rintro rfl; grobner
/-- twice a point, as the reference has it -/
theorem dbl_rep {X Y Z W s ys q h sss : FP} {P : Pnt} (hr : Rep X Y Z P) (hz : Z ≠ 0) (hW : W = 3 * (X * X - Z * Z)) (hs : s = Y * Z) (hys : ys = Y * s) (hq : q = X * ys) (hh : h = W * W - 8 * q) (hsss : sss = s * (s * s)) :
    Rep (2 * (h * s)) (W * (4 * q - h) - 8 * (ys * ys)) (8 * sss) (plus P P) := by
  match P with
  | none => exact absurd hr hz
  | some (x, y) =>
    obtain ⟨_, rfl, rfl⟩ := hr
    by_cases hy : y = 0
    · have e : plus (some (x, y)) (some (x, y)) = none := by
        simp only [plus, add]
        rw [if_pos ⟨trivial, dbl_none.2 hy⟩]
      rw [e]
      show 8 * sss = 0
      subst hsss hs hy
      grobner
    · have hc : ¬ (x = x ∧ y + y = 0) := fun h => hy (dbl_none.1 h.2)
      have e : plus (some (x, y)) (some (x, y)) = some (thirdX (slope cA x y x y) x x, thirdY (slope cA x y x y) x y x) := if_neg hc
      rw [e]
      have hsl : slope cA x y x y = (3 * (x * x) + cA) * finv (2 * y) := by simp [slope]
      have h2y : 2 * y ≠ 0 := fldP.dbl_ne hy
      have hi := fldP.finv_mul h2y
      rw [cA_eq] at hsl
      have hl : slope cA x y x y * (2 * y) = 3 * (x * x - 1) := by rw [hsl]; clear hW hs hys hq hh hsss; grobner
      generalize slope cA x y x y = l at *
      clear hsl hi e
      have hw : W = l * (2 * y) * (Z * Z) := by rw [hl, hW]; clear hW hs hys hq hh hsss hl; grobner
      clear hW hl
      subst hsss hh hq hys hs hw
      refine ⟨?_, ?_, ?_⟩
      · have : y * Z * Z ≠ 0 := fldP.mul_ne (fldP.mul_ne hy hz) hz
        exact fldP.mul_ne (by decide) (fldP.mul_ne this (fldP.mul_ne this this))
      · unfold thirdX; clear hc h2y hy hz; grobner
      · unfold thirdY; clear hc h2y hy hz; grobner
/-- a sum, as the reference has it: different x -/
theorem sum_rep {X1 Y1 Z1 X2 Y2 Z2 y1 x1 u v zz vv vvv r t : FP} {P Q : Pnt} (hP : Rep X1 Y1 Z1 P) (hQ : Rep X2 Y2 Z2 Q) (hz1 : Z1 ≠ 0) (hz2 : Z2 ≠ 0) (hy1 : y1 = Y1 * Z2) (hx1 : x1 = X1 * Z2) (hu : u = Y2 * Z1 - y1) (hv : v = X2 * Z1 - x1)
    (hv0 : v ≠ 0) (hzz : zz = Z1 * Z2) (hvv : vv = v * v) (hvvv : vvv = v * vv) (hr : r = vv * x1) (ht : t = u * u * zz - vvv - 2 * r) :
    Rep (v * t) (u * (r - t) - vvv * y1) (vvv * zz) (plus P Q) := by
  match P, Q with
  | none, _ => exact absurd hP hz1
  | some (x, y), none => exact absurd hQ hz2
  | some (x, y), some (x', y') =>
    obtain ⟨_, rfl, rfl⟩ := hP
    obtain ⟨_, rfl, rfl⟩ := hQ
    have hvx : v = (x' - x) * (Z1 * Z2) := by rw [hv, hx1]; clear hy1 hx1 hu hv hzz hvv hvvv hr ht; grobner
    have hux : u = (y' - y) * (Z1 * Z2) := by rw [hu, hy1]; clear hy1 hx1 hu hv hzz hvv hvvv hr ht hvx; grobner
    have hxx : ¬ x = x' := fun h => hv0 (by rw [hvx, h]; clear hy1 hx1 hu hv hzz hvv hvvv hr ht hvx hux; grobner)
    have hc : ¬ (x = x' ∧ y + y' = 0) := fun h => hxx h.1
    have e : plus (some (x, y)) (some (x', y')) = some (thirdX (slope cA x y x' y') x x', thirdY (slope cA x y x' y') x y x') := by
      simp only [plus, add, if_neg hc]
    rw [e]
    have hsl : slope cA x y x' y' = (y' - y) * finv (x' - x) := by simp [slope, hxx]
    have hi := fldP.finv_mul (sub_ne (Ne.symm hxx))
    have hl : slope cA x y x' y' * (x' - x) = y' - y := by rw [hsl]; clear hy1 hx1 hu hv hzz hvv hvvv hr ht hvx hux; grobner
    generalize slope cA x y x' y' = l at *
    clear hsl hi e hc hu hv
    rw [← hl] at hux
    clear hl
    have hzne : zz ≠ 0 := by rw [hzz]; exact fldP.mul_ne hz1 hz2
    have hvne : vvv * zz ≠ 0 := by rw [hvvv, hvv]; exact fldP.mul_ne (fldP.mul_ne hv0 (fldP.mul_ne hv0 hv0)) hzne
    refine ⟨hvne, ?_, ?_⟩
    · subst ht hr hvvv hvv hzz hvx hux hx1 hy1
      unfold thirdX
      clear hvne hzne hxx hv0 hz1 hz2
      grobner
    · subst ht hr hvvv hvv hzz hvx hux hx1 hy1
      unfold thirdY
      clear hvne hzne hxx hv0 hz1 hz2
      grobner
end Go.Proofs.YtflkhlhpifmocaaDoor.Ec
namespace Go.Proofs.YtflkhlhpifmocaaDoor.Ec
open Go

abbrev pp : Nat := 115792089210356248762697446949407573530086143415290314195533631308867097853951
def c (x : Nat) : FP := Fin.ofNat _ x
theorem c_mod (x : Nat) : c (x % pp) = c x := Fin.ext (Nat.mod_mod x pp)
theorem c_add (x y : Nat) : c (x + y) = c x + c y := Fin.ext (by show (x + y) % pp = (x % pp + y % pp) % pp; rw [Nat.add_mod])
theorem c_mul (x y : Nat) : c (x * y) = c x * c y := Fin.ext (by show (x * y) % pp = (x % pp * (y % pp)) % pp; rw [Nat.mul_mod])
theorem c_pp : c pp = 0 := Fin.ext (Nat.mod_self pp)
theorem c_sub (x y : Nat) (h : y ≤ pp) : c (x + (pp - y)) = c x - c y := by
  have e : c (pp - y) + c y = 0 := by rw [← c_add, Nat.sub_add_cancel h, c_pp]
  rw [c_add]
  grobner
theorem c_lit (x : Nat) : c x = (Fin.ofNat _ x : FP) := rfl
theorem c_zero {x : Nat} (h : x < pp) (h0 : x ≠ 0) : c x ≠ 0 := fun e => by
  have := congrArg Fin.val e
  have e2 : x % pp = 0 := this
  rw [Nat.mod_eq_of_lt h] at e2
  exact h0 e2
theorem c_ne {x : Nat} (h : x % pp ≠ 0) : c x ≠ 0 := by
  rw [← c_mod]
  exact c_zero (Nat.mod_lt _ (by decide)) h
theorem c_eq {x y : Nat} (h : x % pp = y % pp) : c x = c y := by rw [← c_mod x, h, c_mod]

/-- the number is reckoned before it goes on -/
def force (n : Nat) (k : Nat → Bool) : Bool := match n with
  | 0 => k 0
  | m + 1 => k (m + 1)
theorem force_eq (n : Nat) (k : Nat → Bool) : force n k = k n := by cases n <;> rfl
def dblK (X Y Z : Nat) (k : Nat → Nat → Nat → Bool) : Bool :=
  force (3 * (X * X + (pp - Z * Z % pp)) % pp) fun W => force (Y * Z % pp) fun s => force (Y * s % pp) fun ys => force (X * ys % pp) fun q =>
  force ((W * W + (pp - 8 * q % pp)) % pp) fun h => force (2 * (h * s) % pp) fun X' => force ((W * (4 * q + (pp - h)) + (pp - 8 * (ys * ys) % pp)) % pp) fun Y' =>
  force (8 * (s * (s * s)) % pp) fun Z' => k X' Y' Z'
/-- the base added -/
def addK (X Y Z : Nat) (k : Nat → Nat → Nat → Bool) : Bool :=
  force ((gY * Z + (pp - Y % pp)) % pp) fun u => force ((gX * Z + (pp - X % pp)) % pp) fun v => force (v * v % pp) fun vv => force (v * vv % pp) fun vvv => force (vv * X % pp) fun r =>
  force ((u * u * Z + (pp - (vvv + 2 * r) % pp)) % pp) fun t => force (v * t % pp) fun X' => force ((u * (r + (pp - t)) + (pp - vvv * Y % pp)) % pp) fun Y' =>
  force (vvv * Z % pp) fun Z' => v != 0 && k X' Y' Z'
def run : List Bool → Nat → Nat → Nat → Bool
  | [], X, Y, Z => X % pp == gX * Z % pp && (Y + gY * Z) % pp == 0 && Z % pp != 0
  | b :: bs, X, Y, Z => Z % pp != 0 && dblK X Y Z fun X' Y' Z' => if b then Z' != 0 && addK X' Y' Z' (run bs) else run bs X' Y' Z'
def valB : List Bool → Nat → Nat
  | [], n => n
  | b :: bs, n => valB bs (2 * n + if b then 1 else 0)
def bitsN : Nat → Nat → List Bool
  | 0, _ => []
  | k + 1, n => (n / 2 ^ k % 2 == 1) :: bitsN k n

theorem rep_z {X Y Z : FP} {x y : FP} (h : Rep X Y Z (some (x, y))) : Z ≠ 0 := h.1
theorem run_sound : ∀ (bs : List Bool) (n X Y Z : Nat), Rep (c X) (c Y) (c Z) (smul n baseP) → run bs X Y Z = true → smul (valB bs n) baseP = neg baseP
  | [], n, X, Y, Z, hr, h => by
    simp only [run, Bool.and_eq_true, beq_iff_eq, bne_iff_ne] at h
    obtain ⟨⟨h1, h2⟩, h3⟩ := h
    have hz := c_ne h3
    show smul n baseP = neg baseP
    cases hs : smul n baseP with
    | none => rw [hs] at hr; exact absurd hr hz
    | some P =>
      obtain ⟨x, y⟩ := P
      rw [hs] at hr
      obtain ⟨_, hx, hy⟩ := hr
      have e1 := c_eq h1
      have e2 : c (Y + gY * Z) = c 0 := c_eq (h2.trans rfl)
      rw [c_mul] at e1
      rw [c_add, c_mul] at e2
      have e0 : c 0 = 0 := rfl
      rw [e0] at e2
      show some (x, y) = some (c gX, 0 - c gY)
      have hx2 : x = c gX := by
        refine fldP.cancel (c := c Z) ?_ hz
        clear hy e2
        grobner
      have hy2 : y = 0 - c gY := by
        refine fldP.cancel (c := c Z) ?_ hz
        clear hx e1
        grobner
      rw [hx2, hy2]
  | b :: bs, n, X, Y, Z, hr, h => by
    simp only [run, Bool.and_eq_true, bne_iff_ne] at h
    obtain ⟨h0, h⟩ := h
    have hz := c_ne h0
    unfold dblK at h
    simp only [force_eq] at h
    have hp := smul_on base_on n
    have hlt : ∀ x, x % pp < pp := fun x => Nat.mod_lt _ (by decide)
    have hW : c (3 * (X * X + (pp - Z * Z % pp)) % pp) = 3 * (c X * c X - c Z * c Z) := by
      rw [c_mod, c_mul, c_sub _ _ (Nat.le_of_lt (hlt _)), c_mod, c_mul, c_mul]; rfl
    generalize 3 * (X * X + (pp - Z * Z % pp)) % pp = W at *
    have hs : c (Y * Z % pp) = c Y * c Z := by rw [c_mod, c_mul]
    generalize Y * Z % pp = s at *
    have hys : c (Y * s % pp) = c Y * c s := by rw [c_mod, c_mul]
    generalize Y * s % pp = ys at *
    have hq : c (X * ys % pp) = c X * c ys := by rw [c_mod, c_mul]
    generalize X * ys % pp = q at *
    have hh : c ((W * W + (pp - 8 * q % pp)) % pp) = c W * c W - 8 * c q := by
      rw [c_mod, c_sub _ _ (Nat.le_of_lt (hlt _)), c_mod, c_mul, c_mul]; rfl
    have hhl := hlt (W * W + (pp - 8 * q % pp))
    generalize (W * W + (pp - 8 * q % pp)) % pp = hN at *
    have hX : c (2 * (hN * s) % pp) = 2 * (c hN * c s) := by rw [c_mod, c_mul, c_mul]; rfl
    have hY : c ((W * (4 * q + (pp - hN)) + (pp - 8 * (ys * ys) % pp)) % pp) = c W * (4 * c q - c hN) - 8 * (c ys * c ys) := by
      rw [c_mod, c_sub _ _ (Nat.le_of_lt (hlt _)), c_mod, c_mul, c_sub _ _ (Nat.le_of_lt hhl), c_mul, c_mul, c_mul]; rfl
    have hZ : c (8 * (s * (s * s)) % pp) = 8 * (c s * (c s * c s)) := by rw [c_mod, c_mul, c_mul, c_mul]; rfl
    have hZl := hlt (8 * (s * (s * s)))
    generalize 2 * (hN * s) % pp = X' at *
    generalize (W * (4 * q + (pp - hN)) + (pp - 8 * (ys * ys) % pp)) % pp = Y' at *
    generalize 8 * (s * (s * s)) % pp = Z' at *
    have hr2 : Rep (c X') (c Y') (c Z') (smul (2 * n) baseP) := by
      rw [hX, hY, hZ, smul_two base_on]
      exact dbl_rep hr hz hW hs hys hq hh rfl
    clear hX hY hZ hW hs hys hq hh hr hhl
    cases b with
    | false => exact run_sound bs (2 * n) X' Y' Z' hr2 (by simpa using h)
    | true =>
      simp only [if_true, Bool.and_eq_true, bne_iff_ne] at h
      obtain ⟨h1, h⟩ := h
      have hz2 := c_zero hZl h1
      unfold addK at h
      simp only [force_eq, Bool.and_eq_true, bne_iff_ne] at h
      obtain ⟨hv0, h⟩ := h
      have hu : c ((gY * Z' + (pp - Y' % pp)) % pp) = c gY * c Z' - c Y' := by rw [c_mod, c_sub _ _ (Nat.le_of_lt (hlt _)), c_mod, c_mul]
      generalize (gY * Z' + (pp - Y' % pp)) % pp = u at *
      have hv : c ((gX * Z' + (pp - X' % pp)) % pp) = c gX * c Z' - c X' := by rw [c_mod, c_sub _ _ (Nat.le_of_lt (hlt _)), c_mod, c_mul]
      have hvl := hlt (gX * Z' + (pp - X' % pp))
      generalize (gX * Z' + (pp - X' % pp)) % pp = v at *
      have hv1 := c_zero hvl hv0
      have hvv : c (v * v % pp) = c v * c v := by rw [c_mod, c_mul]
      generalize v * v % pp = vv at *
      have hvvv : c (v * vv % pp) = c v * c vv := by rw [c_mod, c_mul]
      generalize v * vv % pp = vvv at *
      have hr3 : c (vv * X' % pp) = c vv * c X' := by rw [c_mod, c_mul]
      generalize vv * X' % pp = r at *
      have ht : c ((u * u * Z' + (pp - (vvv + 2 * r) % pp)) % pp) = c u * c u * c Z' - (c vvv + 2 * c r) := by
        rw [c_mod, c_sub _ _ (Nat.le_of_lt (hlt _)), c_mod, c_mul, c_mul, c_add, c_mul]; rfl
      have htl := hlt (u * u * Z' + (pp - (vvv + 2 * r) % pp))
      generalize (u * u * Z' + (pp - (vvv + 2 * r) % pp)) % pp = t at *
      have hX2 : c (v * t % pp) = c v * c t := by rw [c_mod, c_mul]
      have hY2 : c ((u * (r + (pp - t)) + (pp - vvv * Y' % pp)) % pp) = c u * (c r - c t) - c vvv * c Y' := by
        rw [c_mod, c_sub _ _ (Nat.le_of_lt (hlt _)), c_mod, c_mul, c_sub _ _ (Nat.le_of_lt htl), c_mul]
      have hZ2 : c (vvv * Z' % pp) = c vvv * c Z' := by rw [c_mod, c_mul]
      generalize v * t % pp = X2 at *
      generalize (u * (r + (pp - t)) + (pp - vvv * Y' % pp)) % pp = Y2 at *
      generalize vvv * Z' % pp = Z2 at *
      refine run_sound bs (2 * n + 1) X2 Y2 Z2 ?_ h
      show Rep (c X2) (c Y2) (c Z2) (plus (smul (2 * n) baseP) baseP)
      have hb : Rep (c gX) (c gY) 1 baseP := ⟨by decide, by show c gX = c gX * 1; grobner, by show c gY = c gY * 1; grobner⟩
      have key := sum_rep (y1 := c Y') (x1 := c X') (u := c u) (v := c v) (zz := c Z') (vv := c vv) (vvv := c vvv) (r := c r) (t := c t) hr2 hb hz2 (by decide)
        (by grobner) (by grobner) hu hv hv1 (by grobner) hvv hvvv hr3 (by rw [ht]; grobner)
      rw [hX2, hY2, hZ2]
      exact key

def ordN : Nat := 0xFFFFFFFF00000000FFFFFFFFFFFFFFFFBCE6FAADA7179E84F3B9CAC2FC632551
theorem smul_succ (n : Nat) (P : Pnt) : smul (n + 1) P = plus (smul n P) P := rfl
theorem run_order : run (bitsN 255 (ordN - 1)) gX gY 1 = true := by decide +kernel
theorem val_order : valB (bitsN 255 (ordN - 1)) 1 = ordN - 1 := by decide +kernel
/-- the order times the base is the point at infinity -/
theorem order_base : smul ordN baseP = none := by
  have hb : Rep (c gX) (c gY) (c 1) (smul 1 baseP) := ⟨by decide, by show c gX = c gX * 1; grobner, by show c gY = c gY * 1; grobner⟩
  have h := run_sound _ 1 gX gY 1 hb run_order
  rw [val_order] at h
  have e : (ordN - 1) + 1 = ordN := by decide +kernel
  have e2 : smul ((ordN - 1) + 1) baseP = plus (smul (ordN - 1) baseP) baseP := smul_succ _ _
  rw [e] at e2
  rw [e2, h, plus_comm (on_neg base_on) base_on]
  exact add_neg cA baseP
/-- .. and times each of its multiples, too -/
theorem order_mult (n : Nat) : smul ordN (smul n baseP) = none := by
  rw [smul_smul base_on, Nat.mul_comm, ← smul_smul base_on, order_base, smul_none]
end Go.Proofs.YtflkhlhpifmocaaDoor.Ec
