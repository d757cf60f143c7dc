/-
A region that draws its order, whose operations up to a tail may read, call and make memory in any order, and leave what was there as it was: each gives a value of which a fact holds that lasts; then the tail, which comes in one order. Operations of no world ('floats') may come late.
Package mont's memory: what a Mod's block holds; the product of two words with what is added to it.
Package mont: one word's step of a product.
Package mont: what is below twice the modulus, made less than it.
Package mont: sums, differences, products.
Package mont: differences, the plain calls.
Package mont: powers, and the calls that are made of products.
-/
import Derived.Test.YtmgmfifkldpbmaaDoorMg00
import Derived.Test.YtmgmfifkldpbmaaDoorMg01
import Derived.StillTail
import Derived.WalkKit
import Derived.Laws.Rows
import Derived.Below
import Derived.KernelRfl
import Derived.Deep.MidRow
namespace Go.Proofs.YtmgmfifkldpbmaaDoor
open Go Go.RowKit

section
variable {P : Program} {md : Region.Mode} {ops : Array Oper}

/-- the values v of the operations, put in their slots -/
def putAll : List Oper → (Nat → Value) → Nat → Act → Act
  | [], _, _, a => a
  | o :: r, v, k, a => putAll r v (k + 1) (a.put o.dst (v k))
def setAt (v : Nat → Value) (i : Nat) (x : Value) (j : Nat) : Value := if j = i then x else v j

theorem putAll_put (l : List Oper) : ∀ (v : Nat → Value) (k : Nat) (a : Act) (dst : Option Tmp) (x : Value), (∀ o ∈ l, ∀ d, dst = some d → o.dst ≠ some d) → (putAll l v k a).put dst x = putAll l v k (a.put dst x) := by
  induction l with
  | nil => intro v k a dst x _; rfl
  | cons o r ih =>
    intro v k a dst x h
    show (putAll r v (k + 1) (a.put o.dst (v k))).put dst x = putAll r v (k + 1) ((a.put dst x).put o.dst (v k))
    rw [ih _ _ _ _ _ fun o' ho' => h o' (List.mem_cons_of_mem _ ho')]
    rw [Act.put_comm a x (v k) (h o (List.mem_cons_self ..))]
theorem put_put (a : Act) (dst : Option Tmp) (x y : Value) : (a.put dst x).put dst y = a.put dst y := by
  cases dst with
  | none => rfl
  | some d => simp [Act.put]
theorem putAll_agree (l : List Oper) : ∀ (v u : Nat → Value) (k : Nat) (a : Act), (∀ j, k ≤ j → j < k + l.length → v j = u j) → putAll l v k a = putAll l u k a := by
  induction l with
  | nil => intro v u k a _; rfl
  | cons o r ih =>
    intro v u k a h
    show putAll r v (k + 1) (a.put o.dst (v k)) = putAll r u (k + 1) (a.put o.dst (u k))
    rw [h k (Nat.le_refl _) (by simp), ih v u _ _ fun j h1 h2 => h j (by omega) (by simp; omega)]
/-- the slots are different ones -/
def distinctB : List Oper → Bool
  | [] => true
  | o :: r => (match o.dst with | some d => r.all fun x => x.dst != some d | none => true) && distinctB r
theorem putAll_set (l : List Oper) : ∀ (v : Nat → Value) (k : Nat) (a : Act) (i : Nat) (o : Oper) (x : Value), distinctB l = true → l[i]? = some o → (putAll l v k a).put o.dst x = putAll l (setAt v (k + i) x) k a := by
  induction l with
  | nil => intro v k a i o x _ h; simp at h
  | cons o' r ih =>
    intro v k a i o x hd h
    simp only [distinctB, Bool.and_eq_true] at hd
    cases i with
    | zero =>
      obtain rfl : o' = o := by simpa using h
      have hne : ∀ o ∈ r, ∀ d, o'.dst = some d → o.dst ≠ some d := fun o ho d hdd => by
        have h1 := hd.1
        rw [hdd] at h1
        simp only [List.all_eq_true, bne_iff_ne] at h1
        exact h1 o ho
      show (putAll r v (k + 1) (a.put o'.dst (v k))).put o'.dst x = putAll r (setAt v (k + 0) x) (k + 1) (a.put o'.dst (setAt v (k + 0) x k))
      rw [putAll_put r v (k + 1) _ _ x hne, put_put]
      have e : setAt v (k + 0) x k = x := by simp [setAt]
      rw [e]
      exact putAll_agree r _ _ _ _ fun j h1 _ => by simp only [setAt]; rw [if_neg (by omega)]
    | succ i =>
      have h' : r[i]? = some o := by simpa using h
      show (putAll r v (k + 1) (a.put o'.dst (v k))).put o.dst x = putAll r (setAt v (k + (i + 1)) x) (k + 1) (a.put o'.dst (setAt v (k + (i + 1)) x k))
      rw [ih v (k + 1) _ i o x hd.2 h']
      have e : setAt v (k + (i + 1)) x k = v k := by simp only [setAt]; rw [if_neg (by omega)]
      have e2 : k + (i + 1) = k + 1 + i := by omega
      rw [e, e2]
/-- what lies in the slots -/
def slotsOf (l : List Oper) (a : Act) (j : Nat) : Value := match l[j]? with
  | some o => match o.dst with
    | some d => a.tmps.getD d undef
    | none => undef
  | none => undef
theorem put_same (a : Act) (d : Tmp) : a.put (some d) (a.tmps.getD d undef) = a := by
  have e : a.tmps.setIfInBounds d (a.tmps.getD d undef) = a.tmps := by
    apply Array.ext
    · simp
    · intro i h1 h2
      rw [Array.getElem_setIfInBounds (by simpa using h2)]
      by_cases h : d = i
      · subst h; simp [h2]
      · rw [if_neg h]
  show { a with tmps := a.tmps.setIfInBounds d (a.tmps.getD d undef) } = a
  rw [e]
theorem putAll_slots (l : List Oper) (a : Act) : ∀ (v : Nat → Value) (k : Nat), (∀ j o d, l[j]? = some o → o.dst = some d → v (k + j) = a.tmps.getD d undef) → putAll l v k a = a := by
  induction l with
  | nil => intro v k _; rfl
  | cons o r ih =>
    intro v k h
    show putAll r v (k + 1) (a.put o.dst (v k)) = a
    have e : a.put o.dst (v k) = a := by
      cases hd : o.dst with
      | none => rfl
      | some d =>
        have := h 0 o d rfl hd
        rw [Nat.add_zero] at this
        rw [this, put_same]
    rw [e]
    exact ih v (k + 1) fun j o' d ho hd => by rw [show k + 1 + j = k + (j + 1) by omega]; exact h (j + 1) o' d (by simpa using ho) hd

def headDone (n m : Nat) : Array Bool := ((List.range m).map fun j => decide (j < n)).toArray
/-- what is asked of the region's edges -/
def factsB (md : Region.Mode) (ops : Array Oper) (n : Nat) (fl : List Nat) : Bool :=
  Region.noSelect ops && decide (n < ops.size) && ((ops.toList.take n).all fun o => o.guard.isNone) && distinctB (ops.toList.take n) &&
  ((List.range n).all fun i => fl.contains i || (List.range (n + 1)).any fun j => decide (i < j) && !fl.contains j && Region.waitsFor md ops j i) && Region.chainB md ops n &&
  (fl.all fun i => decide (i < n) && (match ops[i]? with
    | some o => (o.after.toList.all fun e => !Region.binds md e || (decide (e.on < n) && !fl.contains e.on)) && (List.range ops.size).all fun j => j == i || Region.waitsFor md ops j i || Region.waitsFor md ops i j || (match ops[j]? with
      | some oj => o.apart ops oj
      | none => true)
    | none => false)) &&
  Region.seqB md ops (ops.size - n) n (headDone n ops.size) &&
  ((List.range n).all fun i => match ops[i]? with
    | some o => o.after.toList.all fun e => !Region.binds md e || decide (e.on < i)
    | none => true)

theorem tail_waits2 {n : Nat} {fl : List Nat} {listed : Array Bool}
    (hs : ∀ i, i < n → fl.contains i = false → ∃ j, i < j ∧ j ≤ n ∧ fl.contains j = false ∧ Region.waitsFor md ops j i = true) (hc : Region.chainB md ops n = true) (hn : n < ops.size) (inv : HeadInv md ops n listed) :
    ∀ (d i : Nat), n - i = d → i < n → fl.contains i = false → listed.getD i true = false → ∀ t, n ≤ t → t ∉ Region.ready md ops listed := by
  intro d
  induction d using Nat.strongRecOn with
  | _ d ih =>
    intro i hd hi hfl hun t ht hr
    obtain ⟨_, ot, hot, hall⟩ := mem_ready.1 hr
    have htlt : t < ops.size := (Array.getElem?_eq_some_iff.1 hot).1
    by_cases htn : t = n
    · subst htn
      obtain ⟨j, hij, hjle, hjf, hw⟩ := hs i hi hfl
      obtain ⟨oj, hoj, e, he, hb, hon⟩ := Region.waitsFor_spec hw
      by_cases hjt : j = t
      · subst hjt
        have : oj = ot := Option.some.inj (hoj.symm.trans hot)
        subst this
        have h2 := hall e he hb
        rw [hon, getD_both hun] at h2
        cases h2
      · cases hl : listed.getD j false with
        | true =>
          have h2 := inv.closed j oj hoj hl e he hb
          rw [hon, getD_both hun] at h2
          cases h2
        | false =>
          have hjs : j < listed.size := by rw [inv.size]; omega
          exact ih (t - j) (by omega) j rfl (by omega) hjf (getD_in hjs hl) t (Nat.le_refl _) hr
    · have h1 := List.all_eq_true.1 hc t (List.mem_range.2 htlt)
      simp only [Bool.or_eq_true, decide_eq_true_eq] at h1
      rcases h1 with h1 | h1
      · omega
      · obtain ⟨o', ho', e, he, hb, hon⟩ := Region.waitsFor_spec h1
        have : o' = ot := Option.some.inj (ho'.symm.trans hot)
        subst this
        have h2 := hall e he hb
        rw [hon, getD_both (inv.tail (t - 1) (by omega) (by omega))] at h2
        cases h2

theorem getD_of_true {listed : Array Bool} {i : Nat} (h : listed.getD i true = true) (hi : i < listed.size) : listed.getD i false = true := by
  simp [hi] at h ⊢; exact h
/-- while not all are done, one may be next -/
theorem ready_ne {n : Nat} {listed : Array Bool} (hb : ∀ i o, ops[i]? = some o → i < n → ∀ e ∈ o.after, Region.binds md e = true → e.on < i) (hn : n < ops.size) (inv : HeadInv md ops n listed) {i : Nat} (hi : i < n) (hun : listed.getD i true = false) :
    Region.ready md ops listed ≠ [] := by
  induction i using Nat.strongRecOn with
  | _ i ih =>
    obtain ⟨o, ho⟩ : ∃ o, ops[i]? = some o := ⟨ops[i]'(by omega), by simp⟩
    by_cases h : ∀ e ∈ o.after, Region.binds md e = true → listed.getD e.on false = true
    · exact fun hr => by
        have : i ∈ Region.ready md ops listed := mem_ready.2 ⟨hun, o, ho, h⟩
        rw [hr] at this
        cases this
    · have h3 : ∃ e ∈ o.after, Region.binds md e = true ∧ listed.getD e.on false ≠ true := Classical.byContradiction fun hc' => h fun e he hbd => by
        cases hq : listed.getD e.on false with
        | true => rfl
        | false => exact absurd ⟨e, he, hbd, by rw [hq]; simp⟩ hc'
      obtain ⟨e, he, hbd, hne⟩ := h3
      have hlt := hb i o ho hi e he hbd
      exact ih e.on hlt (by omega) (getD_in (by rw [inv.size]; omega) (by simpa using hne))

/-- how many of the first n are not yet done -/
def left (listed : Array Bool) (n : Nat) : Nat := (List.range n).countP fun i => !listed.getD i true
theorem countP_one {p q : Nat → Bool} {i : Nat} (hp : p i = true) (hq : q i = false) (hne : ∀ j, j ≠ i → q j = p j) : ∀ (L : List Nat), L.Nodup → i ∈ L → L.countP q + 1 = L.countP p
  | [], _, h => by simp at h
  | x :: L, hnd, h => by
    rw [List.nodup_cons] at hnd
    by_cases hx : x = i
    · subst hx
      have e : L.countP q = L.countP p := List.countP_congr fun j hj => by
        have : j ≠ x := fun e => hnd.1 (e ▸ hj)
        rw [hne j this]
      rw [List.countP_cons, List.countP_cons, hp, hq, e]
      simp
    · have hm : i ∈ L := by
        rcases List.mem_cons.1 h with h | h
        · exact absurd h.symm hx
        · exact h
      have := countP_one hp hq hne L hnd.2 hm
      rw [List.countP_cons, List.countP_cons, hne x hx]
      omega
theorem left_set {listed : Array Bool} {n i : Nat} (hi : i < n) (hun : listed.getD i true = false) : left (listed.setIfInBounds i true) n + 1 = left listed n := by
  unfold left
  refine countP_one (i := i) (by rw [hun]; rfl) ?_ (fun j hj => by rw [getD_set_ne true (Ne.symm hj)]) _ List.nodup_range (by simpa using hi)
  have hlt : i < listed.size := by
    rcases Nat.lt_or_ge i listed.size with h | h
    · exact h
    · simp [Array.getElem?_eq_none h] at hun
  simp [hlt]
theorem left_zero {listed : Array Bool} {n : Nat} (h : left listed n = 0) : ∀ i, i < n → listed.getD i true = true := fun i hi => by
  unfold left at h
  rw [List.countP_eq_zero] at h
  have := h i (by simpa using hi)
  simpa using this
end

section
variable {P : Program} {Q : Exit → Act → World → Prop}
theorem any_of_facts {l : List Oper} {n : Nat} {fl : List Nat} {a : Act} {w : World} (F : Nat → Value → World → Prop) (D : Nat → Nat → Value → Value → Prop) (hB : factsB .any l.toArray n fl = true)
    (hQ : ∀ c a (t : Tmp) x w, Q (.panic c) (a.put (some t) x) w → Q (.panic c) a w)
    (hst : ∀ i x w' w'', F i x w' → Below w'.heap.size w' w'' → F i x w'')
    (hstep : ∀ i o, l[i]? = some o → i < n → fl.contains i = false → ∀ (v : Nat → Value) w', Below w.heap.size w w' → (∀ e ∈ o.after, Region.binds .any e = true → F e.on (v e.on) w') →
      ∀ K : Act → World → Prop, (∀ x w'', Below w'.heap.size w' w'' → F i x w'' → (∀ j y, j ≠ i → F j y w' → D i j x y ∧ D j i y x) → K ((putAll (l.take n) v 0 a).put o.dst x) w'') → o.wp P (putAll (l.take n) v 0 a) w' K Q)
    (hfloat : ∀ i o, l[i]? = some o → i < n → fl.contains i = true → ∀ (v : Nat → Value), (∀ e ∈ o.after, Region.binds .any e = true → ∃ w', Below w.heap.size w w' ∧ F e.on (v e.on) w') →
      ∃ x, (∀ w', (execOp (putAll (l.take n) v 0 a).eval o).run P w' = .ok (.value x) w') ∧ (∀ w', F i x w') ∧ ∀ j y, D i j x y ∧ D j i y x)
    (htail : ∀ (v : Nat → Value) w', Below w.heap.size w w' → (∀ i, i < n → F i (v i) w') → (∀ i j, i < n → j < n → i ≠ j → D i j (v i) (v j)) → wpList P l.toArray Q (l.drop n) (putAll (l.take n) v 0 a) w') :
    ∀ (f : Nat) (listed : Array Bool) (v : Nat → Value) (w' : World), HeadInv .any l.toArray n listed → left listed n = f → Below w.heap.size w w' → (∀ i, i < n → listed.getD i false = true → F i (v i) w') → (∀ i j, i < n → j < n → listed.getD i false = true → listed.getD j false = true → i ≠ j → D i j (v i) (v j)) →
      wpAny P .any l.toArray Q (f + (l.length - n)) listed (putAll (l.take n) v 0 a) w' := by
  simp only [factsB, Bool.and_eq_true, decide_eq_true_eq] at hB
  obtain ⟨⟨⟨⟨⟨⟨⟨⟨hsel, hn⟩, hg⟩, hd⟩, hs⟩, hc⟩, hf⟩, hseq⟩, hback⟩ := hB
  have hn' : n < l.length := by simpa using hn
  have hd' : distinctB (l.take n) = true := by simpa using hd
  have hgn : ∀ i o, l[i]? = some o → i < n → o.guard = none := fun i o ho hi => by
    have h1 := List.all_eq_true.1 hg o (List.mem_iff_getElem?.2 ⟨i, by simpa [hi] using ho⟩)
    simpa using h1
  have hs' : ∀ i, i < n → fl.contains i = false → ∃ j, i < j ∧ j ≤ n ∧ fl.contains j = false ∧ Region.waitsFor .any l.toArray j i = true := fun i hi hfi => by
    have h1 := List.all_eq_true.1 hs i (List.mem_range.2 hi)
    rw [hfi, Bool.false_or] at h1
    obtain ⟨j, hj, hj2⟩ := List.any_eq_true.1 h1
    simp only [Bool.and_eq_true, decide_eq_true_eq, Bool.not_eq_true'] at hj2
    exact ⟨j, hj2.1.1, by have := List.mem_range.1 hj; omega, hj2.1.2, hj2.2⟩
  have hfl : ∀ i, fl.contains i = true → ∃ o, l[i]? = some o ∧ i < n ∧ (∀ e ∈ o.after, Region.binds .any e = true → e.on < n ∧ fl.contains e.on = false) ∧
      ∀ (j : Nat) oj, l[j]? = some oj → j ≠ i → (Region.waitsFor .any l.toArray j i = true ∨ Region.waitsFor .any l.toArray i j = true) ∨ o.apart l.toArray oj = true := fun i hi => by
    have h1 := List.all_eq_true.1 hf i (by simpa using hi)
    simp only [Bool.and_eq_true, decide_eq_true_eq] at h1
    obtain ⟨hin, h2⟩ := h1
    cases ho : l[i]? with
    | none => simp [ho] at h2
    | some o =>
      simp only [List.getElem?_toArray, ho, Bool.and_eq_true] at h2
      refine ⟨o, rfl, hin, fun e he hb => ?_, fun j oj hj hne => ?_⟩
      · have h3 := List.all_eq_true.1 h2.1 e (by simpa using he)
        rw [hb] at h3
        simpa using h3
      · have hjlt : j < l.length := (List.getElem?_eq_some_iff.1 hj).1
        have h3 := List.all_eq_true.1 h2.2 j (by simpa using hjlt)
        simp only [hj, Bool.or_eq_true, beq_iff_eq, hne, false_or] at h3
        exact h3
  have hback' : ∀ i o, l.toArray[i]? = some o → i < n → ∀ e ∈ o.after, Region.binds .any e = true → e.on < i := fun i o ho hi e he hbd => by
    have h1 := List.all_eq_true.1 hback i (List.mem_range.2 hi)
    rw [ho] at h1
    have h2 := List.all_eq_true.1 h1 e (by simpa using he)
    rw [hbd] at h2
    simpa using h2
  intro f
  induction f with
  | zero =>
    intro listed v w' inv hl hb hF hD
    have hall := left_zero hl
    have hlist : listed = headDone n l.toArray.size := by
      apply Array.ext_getElem?
      intro j
      unfold headDone
      by_cases hj : j < l.toArray.size
      · have hjs : j < listed.size := by rw [inv.size]; exact hj
        rw [Array.getElem?_eq_getElem hjs]
        have e : (((List.range l.toArray.size).map fun j => decide (j < n)).toArray)[j]? = some (decide (j < n)) := by rw [List.getElem?_toArray, List.getElem?_map, List.getElem?_range hj]; rfl
        rw [e]
        congr 1
        by_cases hjn : j < n
        · have h1 := hall j hjn
          rw [Array.getD_eq_getD_getElem?, Array.getElem?_eq_getElem hjs] at h1
          simpa [hjn] using h1
        · have h1 := inv.tail j (by omega) hj
          rw [Array.getD_eq_getD_getElem?, Array.getElem?_eq_getElem hjs] at h1
          simpa [hjn] using h1
      · rw [Array.getElem?_eq_none (by rw [inv.size]; omega), Array.getElem?_eq_none (by simpa using hj)]
    have hF' : ∀ i, i < n → F i (v i) w' := fun i hi => hF i hi (getD_of_true (hall i hi) (by rw [inv.size]; omega))
    have hD' : ∀ i j, i < n → j < n → i ≠ j → D i j (v i) (v j) := fun i j hi hj hne => hD i j hi hj (getD_of_true (hall i hi) (by rw [inv.size]; omega)) (getD_of_true (hall j hj) (by rw [inv.size]; omega)) hne
    have := wpAny_of_seq (md := .any) (Q' := Q) (ops := l.toArray) (l.drop n) n listed (putAll (l.take n) v 0 a) w' (fun j => by simp [List.getElem?_drop])
      (by rw [hlist]; simpa using hseq) (htail v w' hb hF' hD')
    simpa using this
  | succ f ih =>
    intro listed v w' inv hl hb hF hD
    rw [show f + 1 + (l.length - n) = (f + (l.length - n)) + 1 by omega]
    by_cases hA : ∃ i, fl.contains i = true ∧ i ∈ Region.ready .any l.toArray listed
    · obtain ⟨i, hfi, hr⟩ := hA
      obtain ⟨o, ho, hin, hedge, hap⟩ := hfl i hfi
      obtain ⟨hun, o', ho', hall⟩ := mem_ready.1 hr
      obtain rfl : o' = o := Option.some.inj ((by simpa using ho' : l[i]? = some o').symm.trans ho)
      obtain ⟨x, hx, hFx, hDx⟩ := hfloat i o' ho hin hfi v fun e he hbd => ⟨w', hb, hF e.on (hedge e he hbd).1 (hall e he hbd)⟩
      have hset := putAll_set (l.take n) v 0 a i o' x hd' (by simpa [hin] using ho)
      rw [Nat.zero_add] at hset
      refine wpAny_first (ops := l.toArray) (by simpa using ho) (Region.noSelect_spec hsel) (fun c a1 w1 h => by
        cases hdst : o'.dst with
        | none => rw [hdst] at h; exact h
        | some t => rw [hdst] at h; exact hQ c a1 t x w1 h) _ listed _ w' (fun j oj hj hne hunj hno => ?_) hr (.inl ⟨by simp [Region.wanted, hgn i o' ho hin], hx⟩) ?_
      · rcases hap j oj (by simpa using hj) hne with (h1 | h1) | h1
        · obtain ⟨oj', hoj', e, he, hbd, hon⟩ := Region.waitsFor_spec h1
          obtain rfl : oj' = oj := Option.some.inj (hoj'.symm.trans hj)
          exact absurd hon (hno e he hbd)
        · obtain ⟨oi', hoi', e, he, hbd, hon⟩ := Region.waitsFor_spec h1
          obtain rfl : oi' = o' := Option.some.inj (hoi'.symm.trans (by simpa using ho))
          have h2 := hall e he hbd
          rw [hon, getD_both hunj] at h2
          cases h2
        · exact h1
      · rw [hset]
        refine ih _ _ w' (inv.set hr hin) (by have := left_set hin hun; omega) hb (fun j hj hlj => ?_) fun j k hj hk hlj hlk hjk => ?_
        · unfold setAt
          by_cases hji : j = i
          · subst hji; rw [if_pos rfl]; exact hFx w'
          · rw [if_neg hji]
            rw [getD_set_ne false (Ne.symm hji)] at hlj
            exact hF j hj hlj
        · unfold setAt
          by_cases hji : j = i
          · rw [if_pos hji, if_neg (by omega), hji]; exact (hDx k (v k)).1
          · rw [if_neg hji]
            by_cases hki : k = i
            · rw [if_pos hki, hki]; exact (hDx j (v j)).2
            · rw [if_neg hki]
              rw [getD_set_ne false (Ne.symm hji)] at hlj
              rw [getD_set_ne false (Ne.symm hki)] at hlk
              exact hD j k hj hk hlj hlk hjk
    · have hex : ∃ i, i < n ∧ fl.contains i = false ∧ listed.getD i true = false := by
        have h1 : ¬ ∀ i, i < n → listed.getD i true = true := fun hall => by
          have : left listed n = 0 := by
            unfold left
            rw [List.countP_eq_zero]
            intro i hi
            have := hall i (by simpa using hi)
            simpa using this
          omega
        have h2 : ∃ i, i < n ∧ listed.getD i true = false := Classical.byContradiction fun hc' => h1 fun i hi => by
          cases hq : listed.getD i true with
          | true => rfl
          | false => exact absurd ⟨i, hi, hq⟩ hc'
        obtain ⟨i, hi, hun⟩ := h2
        cases hfi : fl.contains i with
        | false => exact ⟨i, hi, hfi, hun⟩
        | true =>
          obtain ⟨o, ho, _, hedge, _⟩ := hfl i hfi
          have hnr : i ∉ Region.ready .any l.toArray listed := fun h => hA ⟨i, hfi, h⟩
          have h3 : ∃ e ∈ o.after, Region.binds .any e = true ∧ listed.getD e.on false ≠ true := Classical.byContradiction fun hc' => hnr (mem_ready.2 ⟨hun, o, by simpa using ho, fun e he hbd => by
            cases hq : listed.getD e.on false with
            | true => rfl
            | false => exact absurd ⟨e, he, hbd, by rw [hq]; simp⟩ hc'⟩)
          obtain ⟨e, he, hbd, hne⟩ := h3
          obtain ⟨h4, h5⟩ := hedge e he hbd
          exact ⟨e.on, h4, h5, getD_in (by rw [inv.size]; simp; omega) (by simpa using hne)⟩
      obtain ⟨i0, hi0, hfi0, hun0⟩ := hex
      have hwait := tail_waits2 hs' hc hn inv _ i0 rfl hi0 hfi0 hun0
      refine ⟨fun hempty => ?_, fun i hr => ?_⟩
      · exact absurd hempty (ready_ne hback' hn inv hi0 hun0)
      · have hin : i < n := by
          rcases Nat.lt_or_ge i n with h | h
          · exact h
          · exact absurd hr (hwait i h)
        have hfi : fl.contains i = false := by
          cases hq : fl.contains i with
          | false => rfl
          | true => exact absurd ⟨i, hq, hr⟩ hA
        obtain ⟨hun, o, ho, hall⟩ := mem_ready.1 hr
        have ho' : l[i]? = some o := by simpa using ho
        have hset := fun x => putAll_set (l.take n) v 0 a i o x hd' (by simpa [hin] using ho')
        have hnot : ∀ e ∈ o.after, Region.binds .any e = true → e.on < n := fun e he hbd => by
          rcases Nat.lt_or_ge e.on n with h | h
          · exact h
          · have h1 := hall e he hbd
            by_cases h2 : e.on < l.toArray.size
            · rw [getD_both (inv.tail e.on h h2)] at h1; cases h1
            · rw [Array.getD_eq_getD_getElem?, Array.getElem?_eq_none (by rw [inv.size]; omega)] at h1; simp at h1
        unfold wpOp
        simp only [ho, Region.wanted, hgn i o ho' hin, if_true]
        refine .inl (hstep i o ho' hin hfi v w' hb (fun e he hbd => hF e.on (hnot e he hbd) (hall e he hbd)) _ fun x w'' hb2 hFx hDx => ?_)
        rw [hset x, Nat.zero_add]
        refine ih _ _ w'' (inv.set hr hin) (by have := left_set hin hun; omega) (hb.trans (hb2.mono hb.size)) (fun j hj hlj => ?_) fun j k hj hk hlj hlk hjk => ?_
        · unfold setAt
          by_cases hji : j = i
          · subst hji; rw [if_pos rfl]; exact hFx
          · rw [if_neg hji]
            rw [getD_set_ne false (Ne.symm hji)] at hlj
            exact hst j (v j) w' w'' (hF j hj hlj) hb2
        · unfold setAt
          by_cases hji : j = i
          · rw [getD_set_ne false (show i ≠ k by omega)] at hlk
            rw [if_pos hji, if_neg (by omega), hji]; exact (hDx k (v k) (by omega) (hF k hk hlk)).1
          · rw [if_neg hji]
            rw [getD_set_ne false (Ne.symm hji)] at hlj
            by_cases hki : k = i
            · rw [if_pos hki, hki]; exact (hDx j (v j) hji (hF j hj hlj)).2
            · rw [if_neg hki]
              rw [getD_set_ne false (Ne.symm hki)] at hlk
              exact hD j k hj hk hlj hlk hjk
/-- what an operation of such a region yields: this value, or a block of its own that holds these cells -/
inductive Yld where
  | val (v : Value)
  | new (t : TypeId) (cs : Array Value)
def Yld.fact (W : World) : Yld → Value → World → Prop
  | .val v, x, _ => x = v
  | .new t cs, x, w => ∃ g, x = .pointer (some ⟨g, 0, none⟩) ∧ W.heap.size ≤ g ∧ g < w.heap.size ∧ w.heap[g]? = some (.cells cs t (0, 0))
def yldAt (W : World) (ks : List Yld) (i : Nat) (x : Value) (w : World) : Prop := match ks[i]? with
  | some k => k.fact W x w
  | none => True
def isNew (ks : List Yld) (i : Nat) : Bool := match ks[i]? with
  | some (.new _ _) => true
  | _ => false
theorem yld_keep {W : World} (k : Yld) (x : Value) (w' w'' : World) (h : k.fact W x w') (hb : Below w'.heap.size w' w'') : k.fact W x w'' := by
  cases k with
  | val v => exact h
  | new t cs =>
    obtain ⟨g, e, h1, h2, h3⟩ := h
    exact ⟨g, e, h1, Nat.lt_of_lt_of_le h2 hb.size, (hb.block g h2).trans h3⟩
/-- an operation's step -/
def StepAt (P : Program) (Q : Exit → Act → World → Prop) (ks : List Yld) (fl : List Nat) (l : List Oper) (a : Act) (w : World) (i : Nat) (o : Oper) : Yld → Prop
  | .val x => if fl.contains i = true
    then ∀ (v : Nat → Value), (∀ e ∈ o.after, Region.binds .any e = true → ∃ w', yldAt w ks e.on (v e.on) w') → ∀ w', (execOp (putAll l v 0 a).eval o).run P w' = .ok (.value x) w'
    else ∀ (v : Nat → Value) w', Below w.heap.size w w' → (∀ e ∈ o.after, Region.binds .any e = true → yldAt w ks e.on (v e.on) w') →
      ∀ K : Act → World → Prop, (∀ w'', Below w'.heap.size w' w'' → K ((putAll l v 0 a).put o.dst x) w'') → o.wp P (putAll l v 0 a) w' K Q
  | .new t cs => fl.contains i = false ∧ o.op = .alloc t ∧ ∀ w, (zeroValue t).run P w = .ok (.agg cs) w
/-- each operation's step, one after the other -/
def StepsOK (P : Program) (Q : Exit → Act → World → Prop) (ks : List Yld) (fl : List Nat) (l : List Oper) (a : Act) (w : World) : List Oper → List Yld → Nat → Prop
  | [], [], _ => True
  | o :: r, k :: kr, i => StepAt P Q ks fl l a w i o k ∧ StepsOK P Q ks fl l a w r kr (i + 1)
  | _, _, _ => False
theorem stepsOK_at {ks : List Yld} {fl : List Nat} {l : List Oper} {a : Act} {w : World} : ∀ (r : List Oper) (kr : List Yld) (k : Nat), StepsOK P Q ks fl l a w r kr k → ∀ i o, r[i]? = some o →
    ∃ y, kr[i]? = some y ∧ StepAt P Q ks fl l a w (k + i) o y
  | [], _, _, _, i, o, h => by simp at h
  | _ :: _, [], _, hs, _, _, _ => by cases hs
  | o' :: r, y :: kr, k, hs, i, o, h => by
    cases i with
    | zero =>
      obtain rfl : o' = o := by simpa using h
      exact ⟨y, rfl, hs.1⟩
    | succ i =>
      obtain ⟨y', h1, h2⟩ := stepsOK_at r kr (k + 1) hs.2 i o (by simpa using h)
      rw [show k + 1 + i = k + (i + 1) by omega] at h2
      exact ⟨y', by simpa using h1, h2⟩
theorem wp_alloc_new {o : Oper} {a : Act} {w : World} {K : Act → World → Prop} (t : TypeId) (cs : Array Value) (ho : o.op = .alloc t) (hz : ∀ w, (zeroValue t).run P w = .ok (.agg cs) w)
    (h : K (a.put o.dst (.pointer (some ⟨w.heap.size, 0, none⟩))) (w.alloc (.cells cs t))) : o.wp P a w K Q := by
  unfold Oper.wp execOp
  simp only [ho]
  go_simp
  exact h
/-- the region's wp -/
theorem region_facts {id : Nat} {l : List Oper} {a : Act} {w : World} (n : Nat) (fl : List Nat) (ks : List Yld) (hm : P.follows .mixedOrders = true) (hB : factsB .any l.toArray n fl = true)
    (hQ : ∀ c a (t : Tmp) x w, Q (.panic c) (a.put (some t) x) w → Q (.panic c) a w)
    (hsteps : StepsOK P Q ks fl (l.take n) a w (l.take n) ks 0)
    (htail : ∀ (v : Nat → Value) w', Below w.heap.size w w' → (∀ i, i < n → yldAt w ks i (v i) w') → (∀ i j, i < n → j < n → i ≠ j → isNew ks i = true → isNew ks j = true → v i ≠ v j) →
      wpList P l.toArray Q (l.drop n) (putAll (l.take n) v 0 a) w') : (Code.region id l.toArray true).wp P Q a w := by
  have hn : n < l.length := by
    have h := hB
    simp only [factsB, Bool.and_eq_true, decide_eq_true_eq] at h
    simpa using h.1.1.1.1.1.1.1.2
  refine wp_region_any hm ?_
  have key := any_of_facts (yldAt w ks) (fun i j x y => isNew ks i = true → isNew ks j = true → x ≠ y) hB hQ
    (fun i x w' w'' h hb => by
      unfold yldAt at h ⊢
      split
      · rename_i k hk
        rw [hk] at h
        exact yld_keep k x w' w'' h hb
      · trivial)
    (fun i o ho hi hfi v w' hb hf K hK => by
      obtain ⟨y, hy, hs⟩ := stepsOK_at _ _ _ hsteps i o (by simpa [hi] using ho)
      rw [Nat.zero_add] at hs
      cases y with
      | val x =>
        simp only [StepAt] at hs
        rw [if_neg (by rw [hfi]; simp)] at hs
        refine hs v w' hb hf K fun w'' hb2 => hK x w'' hb2 (by unfold yldAt; rw [hy]; rfl) fun j y _ _ => ⟨fun h => ?_, fun _ h => ?_⟩
        · unfold isNew at h; rw [hy] at h; cases h
        · unfold isNew at h; rw [hy] at h; cases h
      | new t cs =>
        obtain ⟨_, hop, hz⟩ := hs
        refine wp_alloc_new t cs hop hz (hK _ _ ((Below.refl _ _).alloc (Nat.le_refl _) _) (by unfold yldAt; rw [hy]; exact ⟨w'.heap.size, rfl, hb.size, by simp, heap_alloc_new w' _⟩) fun j y _ hj => ?_)
        have hne : isNew ks j = true → Value.pointer (some ⟨w'.heap.size, 0, none⟩) ≠ y := fun hnw e => by
          unfold isNew at hnw
          unfold yldAt at hj
          split at hnw
          · rename_i t' cs' hk
            rw [hk] at hj
            obtain ⟨g, e1, _, h2, _⟩ := hj
            rw [← e] at e1
            injection e1 with e1
            injection e1 with e1
            injection e1 with e1
            omega
          · cases hnw
        exact ⟨fun _ h => hne h, fun h _ e => hne h e.symm⟩)
    (fun i o ho hi hfi v hf => by
      obtain ⟨y, hy, hs⟩ := stepsOK_at _ _ _ hsteps i o (by simpa [hi] using ho)
      rw [Nat.zero_add] at hs
      cases y with
      | val x =>
        simp only [StepAt] at hs
        rw [if_pos hfi] at hs
        refine ⟨x, hs v (fun e he hb => ?_), fun w' => by unfold yldAt; rw [hy]; rfl, fun j y => ⟨fun h => ?_, fun _ h => ?_⟩⟩
        · obtain ⟨w', _, h⟩ := hf e he hb
          exact ⟨w', h⟩
        · unfold isNew at h; rw [hy] at h; cases h
        · unfold isNew at h; rw [hy] at h; cases h
      | new t cs => rw [hs.1] at hfi; cases hfi) htail n (Array.replicate l.toArray.size false) (slotsOf (l.take n) a) { w with drawn := w.drawn + 1 }
    ⟨by simp, fun j oj _ hl => (by rw [getD_replicate_false] at hl; cases hl), fun t _ ht => getD_in (by simpa using ht) (getD_replicate_false _ _)⟩
    (by
      unfold left
      have : (List.range n).countP (fun i => !(Array.replicate l.toArray.size false).getD i true) = (List.range n).length := by
        rw [List.countP_eq_length]
        intro i hi
        have hin : i < n := by simpa using hi
        have h1 : (Array.replicate l.toArray.size false).getD i true = false := getD_in (by simp; omega) (getD_replicate_false _ _)
        rw [h1]; rfl
      rw [this]; simp)
    ⟨rfl, rfl, rfl, Nat.le_refl _, fun _ _ => rfl⟩ (fun i hi hl => by rw [getD_replicate_false] at hl; cases hl) (fun i j _ _ hl => by rw [getD_replicate_false] at hl; cases hl)
  rw [putAll_slots (l.take n) a (slotsOf (l.take n) a) 0 (fun j o d ho hd => by unfold slotsOf; rw [Nat.zero_add, ho]; simp only [hd])] at key
  rw [show n + (l.length - n) = l.toArray.size by simp; omega] at key
  exact key
/-- a call, by its contract -/
theorem wp_call_fn {o : Oper} {a : Act} {w : World} {K : Act → World → Prop} (fn : FuncId) (args : Array Value) (hrun : (execOp a.eval o).run P w = .ok (.enter fn args) w)
    (hc : Calls P fn args w fun e w'' => ∃ x, e = .returned x ∧ K (a.put o.dst x) w'') : o.wp P a w K Q := by
  unfold Oper.wp
  rw [hrun]
  simp only [Oper.upon]
  refine hc.mono ?_
  rintro e w'' ⟨x, rfl, h⟩
  exact h
end
end Go.Proofs.YtmgmfifkldpbmaaDoor
namespace Go.Proofs.YtmgmfifkldpbmaaDoor
open Go.RowKit

/-- a Mod's cells: the modulus, what makes its lowest word -1, R, R R -/
def modF (m ni o s : Nat) (j : Nat) : Value := .int .u32 ((if j < 8 then wrd m j else if j = 8 then ni else if j < 17 then wrd o (j - 9) else wrd s (j - 17) : Nat) : Int)
def modC (m ni o s : Nat) : Array Value := tab 25 (modF m ni o s)
def wordsL (x : Nat) : List Value := (List.range 8).map (dgs .u32 4294967296 x)
theorem wordsL_arr (x : Nat) : (wordsL x).toArray = nums x := rfl
theorem wordsL_len (x : Nat) : (wordsL x).length = 8 := by simp [wordsL]
section
variable {w : World} {g m ni o s : Nat}
theorem mod_words (h : Has w g 87 (modC m ni o s)) : w.rangeAt g 0 (wordsL m) := by
  have := Has.range h 0 8 (by omega)
  have e : (List.range 8).map (fun j => modF m ni o s (0 + j)) = wordsL m := by
    unfold wordsL
    apply List.map_congr_left
    intro j hj
    have : j < 8 := by simpa using hj
    simp [modF, dgs, wrd, this]
  rw [e] at this
  exact this
theorem mod_one (h : Has w g 87 (modC m ni o s)) : w.rangeAt g 9 (wordsL o) := by
  have := Has.range h 9 8 (by omega)
  have e : (List.range 8).map (fun j => modF m ni o s (9 + j)) = wordsL o := by
    unfold wordsL
    apply List.map_congr_left
    intro j hj
    have h8 : j < 8 := by simpa using hj
    have h1 : ¬ 9 + j < 8 := by omega
    have h2 : ¬ 9 + j = 8 := by omega
    have h3 : 9 + j < 17 := by omega
    simp only [modF, dgs, wrd, if_neg h1, if_neg h2, if_pos h3, Nat.add_sub_cancel_left]
  rw [e] at this
  exact this
theorem mod_square (h : Has w g 87 (modC m ni o s)) : w.rangeAt g 17 (wordsL s) := by
  have := Has.range h 17 8 (by omega)
  have e : (List.range 8).map (fun j => modF m ni o s (17 + j)) = wordsL s := by
    unfold wordsL
    apply List.map_congr_left
    intro j hj
    have h8 : j < 8 := by simpa using hj
    have h1 : ¬ 17 + j < 8 := by omega
    have h2 : ¬ 17 + j = 8 := by omega
    have h3 : ¬ 17 + j < 17 := by omega
    simp only [modF, dgs, wrd, if_neg h1, if_neg h2, if_neg h3, Nat.add_sub_cancel_left]
  rw [e] at this
  exact this
theorem mod_neg (h : Has w g 87 (modC m ni o s)) : w.cell? ⟨g, 8, none⟩ = some (.int .u32 ((ni : Nat) : Int)) := h.cellTab 8 (by omega)
theorem mod_word (h : Has w g 87 (modC m ni o s)) (j : Nat) (hj : j < 8) : w.cell? ⟨g, j, none⟩ = some (.int .u32 ((wrd m j : Nat) : Int)) := by
  have := h.cellTab j (show j < 25 by omega)
  simp only [modF, if_pos hj] at this
  exact this
end
theorem infoL (x : Nat) : (Tryd.prog.info? 24).map (·.size) = some (wordsL x).length := by rw [wordsL_len]; kernel_rfl

/- a number that lies in the middle of a block: loaded in a list of operations, in a region that only reads, in any order -/
section
variable {w : World} {ops : Array Oper} {rest : List Oper} {op : Oper} {a : Act} {Q : Exit → Act → World → Prop}
theorem wp_load_num {K : Act → World → Prop} (p : Operand) (ho : op.op = .load 24 p) (b o : Nat) (hp : a.eval p = .pointer (some ⟨b, o, none⟩)) (x : Nat) (hc : w.rangeAt b o (wordsL x))
    (h : K (a.put op.dst (.agg (nums x))) w) : op.wp Tryd.prog a w K Q := by
  rw [← wordsL_arr] at h
  exact wp_load_mid 24 p ho b o hp (wordsL x) _ hc Tryd.underlying24 rfl (infoL x) h
theorem wpList_load_num (hgd : op.guard = none) (p : Operand) (ho : op.op = .load 24 p) (b o : Nat) (hp : a.eval p = .pointer (some ⟨b, o, none⟩)) (x : Nat) (hc : w.rangeAt b o (wordsL x))
    (h : wpList Tryd.prog ops Q rest (a.put op.dst (.agg (nums x))) w) : wpList Tryd.prog ops Q (op :: rest) a w :=
  wpList_plain hgd fun _ hK => wp_load_num p ho b o hp x hc (hK _ _ h)
theorem wpQ_load_num {C : World → Prop} {L : Act → Prop} (hw : Region.wanted op (yielded ops a.tmps) = true) (p : Operand) (ho : op.op = .load 24 p) (b o : Nat) (hp : a.eval p = .pointer (some ⟨b, o, none⟩)) (x : Nat) (hc : ∀ w', C w' → w'.rangeAt b o (wordsL x))
    (h : wpQuiet Tryd.prog ops C L rest (a.put op.dst (.agg (nums x)))) : wpQuiet Tryd.prog ops C L (op :: rest) a :=
  wpQ_load 24 p ho hw _ hp (.agg (nums x)) (fun w' hC => by rw [← wordsL_arr]; exact run_loadAt_mid w' b o 24 (wordsL x) _ (hc w' hC) Tryd.underlying24 rfl (infoL x)) h
end

/-- what is above the eight words -/
def hiN (T : Nat) : Nat := T / big
theorem Has.grown {w w' : World} {g l : Nat} {t : TypeId} {cs : Array Value} (h : Has w g t cs) (k : w.grownBy w' (some l)) (hne : g ≠ l) : Has w' g t cs :=
  (k.block g h.lt (by simp; omega)).trans h
/-- the two words of n + a b + c -/
def loP (n a b c : Nat) : Nat := (n + a * b + c) % 4294967296
def hiP (n a b c : Nat) : Nat := (n + a * b + c) / 4294967296
theorem hiP_lt {n a b c : Nat} (hn : n < 4294967296) (ha : a < 4294967296) (hb : b < 4294967296) (hc : c < 4294967296) : hiP n a b c < 4294967296 := by
  have := mul_le hn ha hb hc
  unfold hiP
  omega
set_option maxHeartbeats 400000 in
theorem addp_any (n a b c : Nat) (w : World) (hn : n < 4294967296) (ha : a < 4294967296) (hb : b < 4294967296) (hc : c < 4294967296) :
    Calls Tryd.prog 69 #[.int .u32 (n : Int), .int .u32 (a : Int), .int .u32 (b : Int), .int .u32 (c : Int)] w fun e w' => e = .returned (.tuple #[.int .u32 ((loP n a b c : Nat) : Int), .int .u32 ((hiP n a b c : Nat) : Int)]) ∧ w = w' := by
  have hle := mul_le hn ha hb hc
  obtain ⟨p, hp⟩ : ∃ p : Nat, p = a * b := ⟨_, rfl⟩
  have hpi : (a : Int) * (b : Int) = (p : Int) := by rw [hp]; simp
  have e1 : (a : Int) * (b : Int) % 18446744073709551616 = (p : Int) := by rw [hpi]; omega
  have e2 : ((n : Int) + (p : Int)) % 18446744073709551616 = ((n + p : Nat) : Int) := by omega
  have e3 : (((n + p : Nat) : Int) + (c : Int)) % 18446744073709551616 = ((n + p + c : Nat) : Int) := by omega
  have hlo : loP n a b c = (n + p + c) % 4294967296 := by rw [loP, hp]
  have hhi : hiP n a b c = (n + p + c) / 4294967296 := by rw [hiP, hp]
  rw [← hp] at hle
  rw [hlo, hhi]
  clear hlo hhi hp hpi
  obtain ⟨q, hq⟩ : ∃ q : Nat, q = n + p := ⟨_, rfl⟩
  obtain ⟨r, hr⟩ : ∃ r : Nat, r = q + c := ⟨_, rfl⟩
  rw [← hq] at e2 e3 hle ⊢
  rw [← hr] at e3 hle ⊢
  clear hq hr
  rw [← IntKind.wrap_u64] at e1 e2 e3
  go_enter Tryd.func69, Tryd.ntmps69
  go_wp2
  go_ret2
  refine ⟨?_, rfl⟩
  congr 3 <;> omega
end Go.Proofs.YtmgmfifkldpbmaaDoor
namespace Go.Proofs.YtmgmfifkldpbmaaDoor
open Go.RowKit

abbrev BB : Nat := 4294967296
/-- k words of the next number are written over the old ones -/
def lowF (T V k j : Nat) : Nat := if j < k then wrd V (j + 1) else wrd T j
def lowA (T V k : Nat) : Array Value := tab 8 fun j => .int .u32 ((lowF T V k j : Nat) : Int)
theorem lowA_start (T V : Nat) : lowA T V 0 = nums T := tab_ext _ _ _ fun j _ => by simp [lowF, dgs, wrd]
theorem lowA_set (T V k : Nat) : (lowA T V k).setIfInBounds k (.int .u32 ((wrd V (k + 1) : Nat) : Int)) = lowA T V (k + 1) := by
  unfold lowA
  rw [tab_set]
  refine tab_ext _ _ _ fun j _ => ?_
  unfold lowF
  by_cases h : j = k
  · subst h; simp
  · rw [if_neg h]
    by_cases h2 : j < k
    · rw [if_pos h2, if_pos (by omega)]
    · rw [if_neg h2, if_neg (by omega)]
theorem lowA_end (T w b m ni : Nat) : lowA T (sumN BB T w b m ni) 8 = nums (stepN BB T w b m ni) := tab_ext _ _ _ fun j hj => by
  unfold lowF dgs wrd
  rw [if_pos hj, stepN_dg]
theorem lowF_ge {T V k j : Nat} (h : k ≤ j) : lowF T V k j = wrd T j := by unfold lowF; rw [if_neg (by omega)]
def carB (T w b k : Nat) : Nat := mcar BB T w b k
def carM (T w b m ni k : Nat) : Nat := mcar BB (T + w * b) (facN BB T w b ni) m k
theorem carB_lt {w : Nat} (hw : w < 4294967296) (T b k : Nat) : carB T w b k < 4294967296 := mcar_lt (by decide) hw _ _ _
theorem carM_lt (T w b m ni k : Nat) : carM T w b m ni k < 4294967296 := mcar_lt (by decide) (facN_lt (by decide) _ _ _ _) _ _ _
theorem lo_b (T w b k : Nat) : loP (wrd T k) w (wrd b k) (carB T w b k) = wrd (T + w * b) k := mcar_dg (by decide) T w b k
theorem hi_b (T w b k : Nat) : hiP (wrd T k) w (wrd b k) (carB T w b k) = carB T w b (k + 1) := mcar_step (by decide) T w b k
theorem lo_m (T w b m ni k : Nat) : loP (wrd (T + w * b) k) (facN BB T w b ni) (wrd m k) (carM T w b m ni k) = wrd (sumN BB T w b m ni) k := mcar_dg (by decide) _ _ m k
theorem hi_m (T w b m ni k : Nat) : hiP (wrd (T + w * b) k) (facN BB T w b ni) (wrd m k) (carM T w b m ni k) = carM T w b m ni (k + 1) := mcar_step (by decide) _ _ m k
theorem fac_eq (T w b ni : Nat) : wrd (T + w * b) 0 * ni % 4294967296 = facN BB T w b ni := by simp [wrd, dg, facN]
theorem car_zeros (T w b m ni : Nat) : carB T w b 0 = 0 ∧ carM T w b m ni 0 = 0 := ⟨mcar_zero _ _ _ _, mcar_zero _ _ _ _⟩

set_option maxRecDepth 100000 in
set_option maxHeartbeats 1000000 in
theorem step_any (T x b m ni o s g l β : Nat) (w : World) (hG : Has w g 87 (modC m ni o s)) (hL : Has w l 24 (nums T)) (hB : Has w β 24 (nums b)) (hgl : g ≠ l) (hbl : β ≠ l)
    (hx : x < 4294967296) (hT : T / big < 4294967296) (_hn : ni < 4294967296) (hb : b < big) (hm : m < big) :
    Calls Tryd.prog 67 #[.pointer (some ⟨g, 0, none⟩), .pointer (some ⟨l, 0, none⟩), .int .u32 ((hiN T : Nat) : Int), .int .u32 (x : Int), .pointer (some ⟨β, 0, none⟩)] w fun e w' =>
      e = .returned (.int .u32 ((hiN (stepN BB T x b m ni) : Nat) : Int)) ∧ Has w' l 24 (nums (stepN BB T x b m ni)) ∧ w.grownBy w' (some l) := by
  unfold hiN
  have htop : T / big + carB T x b 8 + carM T x b m ni 8 = sumN BB T x b m ni / big := (sumN_top (n := 8) (by decide) hb hm).symm
  have hhigh : stepN BB T x b m ni / big = sumN BB T x b m ni / big / 4294967296 := stepN_high (n := 8)
  have HT := Lib.hid htop
  have HH := Lib.hid hhigh
  have LM := Lib.hid (fun k => And.intro (lo_m T x b m ni k) (hi_m T x b m ni k))
  have LB := Lib.hid (fun k => And.intro (lo_b T x b k) (hi_b T x b k))
  have HF := Lib.hid (fac_eq T x b ni)
  have HE := Lib.hid (lowA_end T x b m ni)
  have hfl : facN BB T x b ni < 4294967296 := facN_lt (by decide) _ _ _ _
  have h7 : wrd (sumN BB T x b m ni) 8 = sumN BB T x b m ni / big % 4294967296 := rfl
  have H7 := Lib.hid h7
  have hz := car_zeros T x b m ni
  have HZ := Lib.hid hz
  clear htop hhigh h7 hb hm hz
  obtain ⟨t, ht⟩ : ∃ t, t = T / big := ⟨_, rfl⟩
  have HTT := Lib.hid ht
  rw [← ht] at hT ⊢
  clear ht
  have LBF := fun k => carB_lt hx T b k
  have LMF := fun k => carM_lt T x b m ni k
  generalize hf : facN BB T x b ni = f at *
  generalize hS : sumN BB T x b m ni = S at *
  generalize hQ : stepN BB T x b m ni = Q at *
  generalize hU : T + x * b = U at *
  generalize hq1 : Q / big = z at *
  clear hq1
  generalize hcb : carB T x b = cB at *
  generalize hcm : carM T x b m ni = cM at *
  clear hf hS hQ hU hcb hcm
  have A1 : ∀ W, Calls Tryd.prog 69 #[.int .u32 ((wrd T 0 : Nat) : Int), .int .u32 (x : Int), .int .u32 ((wrd b 0 : Nat) : Int), .int .u32 0] W fun e w' => e = .returned (.tuple #[.int .u32 ((wrd U 0 : Nat) : Int), .int .u32 ((cB 1 : Nat) : Int)]) ∧ W = w' := fun W => by
    have h := addp_any (wrd T 0) x (wrd b 0) 0 W (wrd_lt _ _) hx (wrd_lt _ _) (by omega)
    have e := LB.out 0
    rw [HZ.out.1] at e
    rw [e.1, e.2] at h
    exact h
  have A2 : ∀ W, Calls Tryd.prog 69 #[.int .u32 ((wrd U 0 : Nat) : Int), .int .u32 (f : Int), .int .u32 ((wrd m 0 : Nat) : Int), .int .u32 0] W fun e w' => e = .returned (.tuple #[.int .u32 ((wrd S 0 : Nat) : Int), .int .u32 ((cM 1 : Nat) : Int)]) ∧ W = w' := fun W => by
    have h := addp_any (wrd U 0) f (wrd m 0) 0 W (wrd_lt _ _) hfl (wrd_lt _ _) (by omega)
    have e := LM.out 0
    rw [HZ.out.2] at e
    rw [e.1, e.2] at h
    exact h
  have A3 : ∀ k W, Calls Tryd.prog 69 #[.int .u32 ((wrd T k : Nat) : Int), .int .u32 (x : Int), .int .u32 ((wrd b k : Nat) : Int), .int .u32 ((cB k : Nat) : Int)] W fun e w' => e = .returned (.tuple #[.int .u32 ((wrd U k : Nat) : Int), .int .u32 ((cB (k + 1) : Nat) : Int)]) ∧ W = w' := fun k W => by
    have h := addp_any (wrd T k) x (wrd b k) (cB k) W (wrd_lt _ _) hx (wrd_lt _ _) (LBF k)
    rw [(LB.out k).1, (LB.out k).2] at h
    exact h
  have A4 : ∀ k W, Calls Tryd.prog 69 #[.int .u32 ((wrd U k : Nat) : Int), .int .u32 (f : Int), .int .u32 ((wrd m k : Nat) : Int), .int .u32 ((cM k : Nat) : Int)] W fun e w' => e = .returned (.tuple #[.int .u32 ((wrd S k : Nat) : Int), .int .u32 ((cM (k + 1) : Nat) : Int)]) ∧ W = w' := fun k W => by
    have h := addp_any (wrd U k) f (wrd m k) (cM k) W (wrd_lt _ _) hfl (wrd_lt _ _) (LMF k)
    rw [(LM.out k).1, (LM.out k).2] at h
    exact h
  have hmul : IntKind.u32.wrap (((wrd U 0 : Nat) : Int) * (ni : Int)) = (f : Int) := by
    rw [IntKind.wrap_u32, ← Int.natCast_mul, ← HF.out]
    omega
  have htl : t + cB 8 + cM 8 < 12884901888 := by have := LBF 8; have := LMF 8; omega
  have HTL := Lib.hid htl
  have HA := Lib.hid A1
  have HA2 := Lib.hid A2
  have HA3 := Lib.hid A3
  have HA4 := Lib.hid A4
  clear A1 A2 A3 A4 htl LBF LMF hx _hn hfl hT
  go_enter Tryd.func67, Tryd.ntmps67
  have c0 := nums_at hL 0 (by omega)
  have d0 := nums_at hB 0 (by omega)
  go_wp2_with fail
  go_quiet ((go_at_call 69; exact Calls.quiet_of_same ((HA.out _).mono fun _ _ ⟨he, hw⟩ => ⟨he, hw.symm⟩)))
  have hG' := hG.drewN nq
  have hL' := hL.drewN nq
  have hB' := hB.drewN nq
  have hO : w.grownBy (w.drewN nq) (some l) := only_drewN _ _ _
  clear c0 d0 hG hL hB
  generalize hq : Go.World.drewN _ nq = w1 at *
  clear hq
  have n8 := mod_neg hG'
  have m0 := mod_word hG' 0 (by omega)
  go_wp2_with (go_at_call 69; refine (HA2.out _).mono ?_; rintro e w' ⟨rfl, rfl⟩)
  clear n8 m0 hmul
  go_loopw [12, 15, 16, 17] (fun vb vm vi _ wr => ∃ k : Nat, k ≤ 7 ∧ vb = .int .u32 ((cB (k + 1) : Nat) : Int) ∧ vm = .int .u32 ((cM (k + 1) : Nat) : Int) ∧ vi = .int .i64 ((k : Int) + 1) ∧
      Has wr g 87 (modC m ni o s) ∧ Has wr l 24 (lowA T S k) ∧ Has wr β 24 (nums b) ∧ w.grownBy wr (some l)) (fun _ _ vi _ _ => 8 - (intOf vi).toNat)
  case atStart => exact ⟨0, by omega, rfl, rfl, rfl, hG', by rw [lowA_start]; exact hL', hB', hO⟩
  case round =>
    obtain ⟨k, hk, rfl, rfl, rfl, h1, h2, h3, hO2⟩ := hrel
    clear hG' hL' hB' hO
    by_cases hlt : k < 7
    · have dk : (k : Int) + 1 < 8 := by omega
      have c1 := h2.cellTab (k + 1) (by omega)
      rw [lowF_ge (by omega)] at c1
      have c2 := nums_at h3 (k + 1) (by omega)
      go_wp2_with fail
      go_quiet ((go_at_call 69; exact Calls.quiet_of_same ((HA3.out (k + 1) _).mono fun _ _ ⟨he, hw⟩ => ⟨he, hw.symm⟩)))
      replace h1 := h1.drewN nq
      replace h2 := h2.drewN nq
      replace h3 := h3.drewN nq
      replace hO2 := only_trans hO2 (only_drewN wr nq (some l))
      clear c1 c2
      generalize hq : Go.World.drewN _ nq = wq at *
      clear hq
      have c3 := mod_word h1 (k + 1) (by omega)
      have c4 := h2.cellTab k (by omega)
      have f4 := h2.free k
      go_wp2_with fail
      go_region_with (go_at_call 69; refine (HA4.out (k + 1) _).mono ?_; rintro e w' ⟨rfl, rfl⟩)
      all_goals
        go_wp2_with fail
        go_roundw
      all_goals first
        | (refine ⟨k + 1, by omega, by go_num, by go_num, by go_num, h1.drew.far (by simp [hgl]) _, ?_, h3.drew.far (by simp [hbl]) _, only_trans (only_trans hO2 (only_drewN _ 1 _)) (only_setCell _ _ _ _)⟩
           have h := h2.drew.set k (.int .u32 ((wrd S (k + 1) : Nat) : Int))
           rw [lowA_set] at h
           exact h)
        | (simp [intOf]; omega)
    · have hk7 : k = 7 := by omega
      have h2' : Has wr l 24 (lowA T S 7) := by rw [← hk7]; exact h2
      have hB8 : cB (k + 1) = cB 8 := by rw [hk7]
      have hM8 : cM (k + 1) = cM 8 := by rw [hk7]
      have c4 := h2'.cellTab 7 (by omega)
      have f4 := h2'.free 7
      have dk : ¬ (k : Int) + 1 < 8 := by omega
      have htl := HTL.out
      have e2 : IntKind.u64.wrap ((t : Int) + ((cB (k + 1) : Nat) : Int)) = ((t + cB 8 : Nat) : Int) := by rw [hB8, IntKind.wrap_u64]; omega
      have e3 : IntKind.u64.wrap (((t + cB 8 : Nat) : Int) + ((cM (k + 1) : Nat) : Int)) = ((S / big : Nat) : Int) := by rw [hM8, IntKind.wrap_u64, ← HT.out, ← HTT.out]; omega
      have w1' : IntKind.u64.wrap (t : Int) = (t : Int) := by rw [IntKind.wrap_u64]; omega
      have w2' : IntKind.u64.wrap ((cB (k + 1) : Nat) : Int) = ((cB (k + 1) : Nat) : Int) := by rw [hB8, IntKind.wrap_u64]; omega
      have w3' : IntKind.u64.wrap ((cM (k + 1) : Nat) : Int) = ((cM (k + 1) : Nat) : Int) := by rw [hM8, IntKind.wrap_u64]; omega
      have HSL : S / big < 12884901888 := by rw [← HT.out, ← HTT.out]; exact htl
      have hv1 : z = S / big / 4294967296 := HH.out
      have hw8 := H7.out
      have he := HE.out
      generalize hr : t + cB 8 = r at *
      generalize hv : S / big = v at *
      generalize hb1 : cB (k + 1) = y1 at *
      generalize hb2 : cM (k + 1) = y2 at *
      obtain ⟨y, hy⟩ : ∃ y, y = v % 4294967296 := ⟨_, rfl⟩
      have e4 : (v : Int) % 4294967296 = (y : Int) := by omega
      have e5 : (v : Int) / 4294967296 % 4294967296 = (z : Int) := by omega
      rw [← hy] at hw8
      have hS := h2'.set 7 (.int .u32 ((y : Nat) : Int))
      rw [← hw8, lowA_set, he] at hS
      have hO3 := only_trans hO2 (only_setCell wr l 7 (.int .u32 ((y : Nat) : Int)))
      rw [hw8] at hS
      have HS := Lib.hid (And.intro hS hO3)
      clear htl hlt hS hO3 hO2 h2 h2' h1 h3 hk hk7 hB8 hM8 hb1 hb2 hr hv HSL hv1 hw8 hy he HF LB LM HZ HA HA2 HA3 HA4 HTT HE H7 HH HT HTL
      go_wp2_with fail
      go_ret
      exact ⟨rfl, HS.out⟩
end Go.Proofs.YtmgmfifkldpbmaaDoor
namespace Go.Proofs.YtmgmfifkldpbmaaDoor
open Go.RowKit

theorem infVN : (Tryd.prog.info? 24).map (fun i => (i.zero, i.size)) = some (some (.agg (nums 0)), 8) := by kernel_rfl
theorem zeroVN (w : World) : (zeroValue 24).run Tryd.prog w = .ok (.agg (nums 0)) w := (zero_of_info infVN).1 w
theorem low_cmp {T m : Nat} (_hT : T < 2 * m) (hm : m < big) : T / big < under (T % big) m ↔ T < m := by
  unfold under
  have hb := big_pos
  by_cases h : T < big
  · rw [Nat.div_eq_of_lt h, Nat.mod_eq_of_lt h]
    by_cases h2 : T < m <;> simp [h2]
  · have h1 : 1 ≤ T / big := (Nat.le_div_iff_mul_le hb).2 (by omega)
    constructor
    · intro h2
      split at h2 <;> omega
    · intro h2; omega
theorem low_val {T m : Nat} (hT : T < 2 * m) (hm : m < big) (h : ¬ T < m) : nums (T % big + big - m) = nums (T % m) := by
  rw [← nums_mod (T % big + big - m), ← nums_mod (T % m)]
  have e : T % m = T - m := by rw [Nat.mod_eq_sub_mod (by omega), Nat.mod_eq_of_lt (by omega)]
  rw [e]
  congr 1
  by_cases h2 : T < big
  · rw [Nat.mod_eq_of_lt h2, show T + big - m = (T - m) + big by omega, Nat.add_mod_right]
  · have e2 : T % big = T - big := by rw [Nat.mod_eq_sub_mod (by omega), Nat.mod_eq_of_lt (by omega)]
    rw [e2]
    congr 1
    omega
attribute [local go_sem] zeroNum
set_option maxRecDepth 100000 in
set_option maxHeartbeats 1000000 in
theorem lowered_any (T m ni o s g : Nat) (w : World) (hG : Has w g 87 (modC m ni o s)) (hT : T < 2 * m) (hm : m < big) :
    Calls Tryd.prog 58 #[.pointer (some ⟨g, 0, none⟩), .agg (nums T), .int .u32 ((hiN T : Nat) : Int)] w fun e w' => e = .returned (.agg (nums (T % m))) ∧ Below w.heap.size w w' := by
  unfold hiN
  have cS := fun W => sub_any (T % big) m W (Nat.mod_lt _ big_pos) hm
  rw [nums_mod] at cS
  have hcmp := low_cmp hT hm
  have hval := low_val hT hm
  have hv2 : T < m → nums T = nums (T % m) := fun h => by rw [Nat.mod_eq_of_lt h]
  clear hT hm
  generalize hh : T / big = h at *
  clear hh
  generalize hu : under (T % big) m = u at *
  generalize hd : T % big + big - m = d at *
  generalize hx : T % m = x at *
  clear hu hd hx
  have hA : Has ((w.alloc (.cells (nums T) 24)).alloc (.cells (nums 0) 24)) w.heap.size 24 (nums T) := (Has.new w _ _).alloc _
  have hR : Has ((w.alloc (.cells (nums T) 24)).alloc (.cells (nums 0) 24)) (w.heap.size + 1) 24 (nums 0) := Has.new' (by simp)
  have hb0 : Below w.heap.size w ((w.alloc (.cells (nums T) 24)).alloc (.cells (nums 0) 24)) := ((Below.refl _ _).alloc (Nat.le_refl _) _).alloc (by simp) _
  replace hG := hG.after hb0
  have n0 := nums_ne 0
  go_enter Tryd.func58, Tryd.ntmps58
  go_wp2_with fail
  generalize (w.alloc _).alloc _ = W at *
  refine region_facts 10 [8] [.val (.agg (nums T)), .val (.pointer (some ⟨g, 0, none⟩)), .val (.pointer (some ⟨g, 0, none⟩)), .val (.pointer (some ⟨g, 0, none⟩)), .val (.agg (nums m)), .val (.tuple #[.agg (nums d), .int .u32 ((u : Nat) : Int)]), .val (.tuple #[.agg (nums d), .int .u32 ((u : Nat) : Int)]), .val (.agg (nums d)), .val (.int .u32 ((u : Nat) : Int)), .new 24 (nums 0)]
    (by kernel_rfl) (by kernel_rfl) (fun _ _ _ _ _ h => h) ?_ ?_
  · simp only [List.take_succ_cons, List.take_zero, StepsOK]
    refine ⟨?_, ?_, ?_, ?_, ?_, ?_, ?_, ?_, ?_, ?_, trivial⟩
    · intro v w' hb hf K hKt
      simp only [putAll, Act.put, List.setIfInBounds_toArray, List.set_cons_zero, List.set_cons_succ, Nat.zero_add, Nat.reduceAdd] at hKt ⊢
      exact wp_load_row 24 _ rfl (w.heap.size) rfl 24 _ (0, 0) _ (hA.after hb) Tryd.underlying24 rfl (infoNum _) (hKt _ (Below.refl _ _))
    · intro v w' hb hf K hKt
      simp only [putAll, Act.put, List.setIfInBounds_toArray, List.set_cons_zero, List.set_cons_succ, Nat.zero_add, Nat.reduceAdd] at hKt ⊢
      go_simp
      exact hKt _ (Below.refl _ _)
    · intro v w' hb hf K hKt
      have f1 : v 1 = _ := hf ⟨1, .data⟩ (by simp) rfl
      simp only [putAll, Act.put, List.setIfInBounds_toArray, List.set_cons_zero, List.set_cons_succ, Nat.zero_add, Nat.reduceAdd] at hKt ⊢
      rw [f1] at hKt ⊢
      go_simp
      exact hKt _ (Below.refl _ _)
    · intro v w' hb hf K hKt
      have f2 : v 2 = _ := hf ⟨2, .data⟩ (by simp) rfl
      simp only [putAll, Act.put, List.setIfInBounds_toArray, List.set_cons_zero, List.set_cons_succ, Nat.zero_add, Nat.reduceAdd] at hKt ⊢
      rw [f2] at hKt ⊢
      go_simp
      exact hKt _ (Below.refl _ _)
    · intro v w' hb hf K hKt
      have f3 : v 3 = _ := hf ⟨3, .data⟩ (by simp) rfl
      simp only [putAll, Act.put, List.setIfInBounds_toArray, List.set_cons_zero, List.set_cons_succ, Nat.zero_add, Nat.reduceAdd] at hKt ⊢
      rw [f3] at hKt ⊢
      exact wp_load_num _ rfl (g) 0 rfl m (mod_words (hG.after hb)) (hKt _ (Below.refl _ _))
    · intro v w' hb hf K hKt
      have f0 : v 0 = _ := hf ⟨0, .data⟩ (by simp) rfl
      have f4 : v 4 = _ := hf ⟨4, .data⟩ (by simp) rfl
      simp only [putAll, Act.put, List.setIfInBounds_toArray, List.set_cons_zero, List.set_cons_succ, Nat.zero_add, Nat.reduceAdd] at hKt ⊢
      rw [f0, f4] at hKt ⊢
      go_simp
      refine (cS w').mono ?_
      rintro e w'' ⟨rfl, hb2⟩
      exact hKt _ hb2
    · intro v w' hb hf K hKt
      have f5 : v 5 = _ := hf ⟨5, .data⟩ (by simp) rfl
      simp only [putAll, Act.put, List.setIfInBounds_toArray, List.set_cons_zero, List.set_cons_succ, Nat.zero_add, Nat.reduceAdd] at hKt ⊢
      rw [f5] at hKt ⊢
      go_simp
      exact hKt _ (Below.refl _ _)
    · intro v w' hb hf K hKt
      have f6 : v 6 = _ := hf ⟨6, .data⟩ (by simp) rfl
      simp only [putAll, Act.put, List.setIfInBounds_toArray, List.set_cons_zero, List.set_cons_succ, Nat.zero_add, Nat.reduceAdd] at hKt ⊢
      rw [f6] at hKt ⊢
      go_simp
      exact hKt _ (Below.refl _ _)
    · intro v hf w'
      obtain ⟨_, f6⟩ := hf ⟨6, .data⟩ (by simp) rfl
      replace f6 : v 6 = _ := f6
      simp only [putAll, Act.put, List.setIfInBounds_toArray, List.set_cons_zero, List.set_cons_succ, Nat.zero_add, Nat.reduceAdd]
      rw [f6]
      go_simp
    · exact ⟨rfl, rfl, zeroVN⟩
  intro v w1 hb hF hD
  have f0 : v 0 = _ := hF 0 (by decide)
  have f1 : v 1 = _ := hF 1 (by decide)
  have f2 : v 2 = _ := hF 2 (by decide)
  have f3 : v 3 = _ := hF 3 (by decide)
  have f4 : v 4 = _ := hF 4 (by decide)
  have f5 : v 5 = _ := hF 5 (by decide)
  have f6 : v 6 = _ := hF 6 (by decide)
  have f7 : v 7 = _ := hF 7 (by decide)
  have f8 : v 8 = _ := hF 8 (by decide)
  obtain ⟨gd, f9, hg9, hl9, hz9⟩ := hF 9 (by decide)
  replace hz9 : Has w1 gd 24 (nums 0) := hz9
  simp only [List.take_succ_cons, List.take_zero, List.drop_succ_cons, List.drop_zero, putAll, Act.put, List.setIfInBounds_toArray, List.set_cons_zero, List.set_cons_succ, Nat.zero_add, Nat.reduceAdd]
  rw [f0, f1, f2, f3, f4, f5, f6, f7, f8, f9]
  clear hF hD f0 f1 f2 f3 f4 f5 f6 f7 f8 f9
  have hs9 := hz9
  have hBW := below_setRow (hb) (g := gd) hg9 (nums d)
  have hD := (hz9).setRow (nums d)
  replace hA := hA.after hBW
  replace hG := hG.after hBW
  replace hR := hR.after hBW
  replace hb0 := below_trans hb0 hBW
  have HC := Lib.hid hcmp
  have HV := Lib.hid hv2
  have HW := Lib.hid hval
  clear cS hcmp hv2 hval
  go_wp2_with (first | refine wpList_store_row rfl 24 _ _ rfl gd _ rfl rfl 24 (nums 0) hs9 (infoNum _) (by simp only [nums_size]) (tab_oneCell _ _ fun _ => rfl) ?_ | refine wpList_load_has 24 _ rfl (w.heap.size) rfl rfl 24 _ hA _ Tryd.underlying24 rfl (infoNum _) ?_ | refine wpList_load_has 24 _ rfl (gd) rfl rfl 24 _ hD _ Tryd.underlying24 rfl (infoNum _) ?_ | refine wpList_store_row rfl 24 _ _ rfl (w.heap.size + 1) _ rfl rfl 24 _ hR (infoNum _) (by simp only [nums_size]) (tab_oneCell _ _ fun _ => rfl) ?_)
  clear hBW hb hs9 hz9 hg9 hl9
  · have e := HV.out (HC.out.1 (by assumption))
    exact bodyPost_ret (v := .agg (nums x)) (results_cell_row rfl _ _ (w.heap.size + 1) 24 _ _ _ rfl (by rw [← e]; exact hR.setRow _) Tryd.underlying24 rfl (infoNum _)) rfl ⟨rfl, below_setRow hb0 (by omega) _⟩
  · have e := HW.out (fun z => absurd (HC.out.2 z) (by assumption))
    exact bodyPost_ret (v := .agg (nums x)) (results_cell_row rfl _ _ (w.heap.size + 1) 24 _ _ _ rfl (by rw [← e]; exact hR.setRow _) Tryd.underlying24 rfl (infoNum _)) rfl ⟨rfl, below_setRow hb0 (by omega) _⟩
end Go.Proofs.YtmgmfifkldpbmaaDoor
namespace Go.Proofs.YtmgmfifkldpbmaaDoor
open Go.RowKit

attribute [local go_sem] zeroNum
set_option maxRecDepth 100000 in
set_option maxHeartbeats 1000000 in
theorem addm_any (a b m ni o s g : Nat) (w : World) (hG : Has w g 87 (modC m ni o s)) (ha : a < m) (hb : b < m) (hm : m < big) :
    Calls Tryd.prog 36 #[.pointer (some ⟨g, 0, none⟩), .agg (nums a), .agg (nums b)] w fun e w' => e = .returned (.agg (nums ((a + b) % m))) ∧ Below w.heap.size w w' := by
  have cA := fun W => add_any a b W (by omega) (by omega)
  have cL := fun W (h : Has W g 87 (modC m ni o s)) => lowered_any (a + b) m ni o s g W h (by omega) hm
  have e : over a b = hiN (a + b) := rfl
  rw [e] at cA
  clear e ha hb hm
  generalize hiN (a + b) = h at *
  generalize hx : (a + b) % m = x at *
  clear hx
  generalize a + b = T at *
  have n0 := nums_ne 0
  have hA : Has (((w.alloc (.cells (nums a) 24)).alloc (.cells (nums b) 24)).alloc (.cells (nums 0) 24)) (w.heap.size) 24 (nums a) := ((Has.new w _ _).alloc _).alloc _
  have hB : Has (((w.alloc (.cells (nums a) 24)).alloc (.cells (nums b) 24)).alloc (.cells (nums 0) 24)) (w.heap.size + 1) 24 (nums b) := (Has.new' (by simp)).alloc _
  have hR : Has (((w.alloc (.cells (nums a) 24)).alloc (.cells (nums b) 24)).alloc (.cells (nums 0) 24)) (w.heap.size + 1 + 1) 24 (nums 0) := Has.new' (by simp)
  have hb0 : Below w.heap.size w (((w.alloc (.cells (nums a) 24)).alloc (.cells (nums b) 24)).alloc (.cells (nums 0) 24)) := (((Below.refl _ _).alloc (Nat.le_refl _) _).alloc (by simp <;> omega) _).alloc (by simp <;> omega) _
  replace hG := hG.after hb0
  go_enter Tryd.func36, Tryd.ntmps36
  go_wp2_with (first | refine wpList_load_has 24 _ rfl _ rfl rfl 24 _ hA _ Tryd.underlying24 rfl (infoNum _) ?_ | refine wpList_load_has 24 _ rfl _ rfl rfl 24 _ hB _ Tryd.underlying24 rfl (infoNum _) ?_)
  refine (cA _).mono ?_
  rintro e w1 ⟨rfl, hx⟩
  have hN := put_new w1 24 (nums 0) (nums T)
  replace hR := (hR.after hx).after hN.2
  replace hG := (hG.after hx).after hN.2
  replace hb0 := below_trans (below_trans hb0 hx) hN.2
  have hT := hN.1
  clear hx hN hA hB
  go_wp2_with (first | refine wpList_store_row rfl 24 _ _ rfl w1.heap.size _ rfl rfl 24 (nums 0) (Has.new' rfl) (infoNum _) (by simp only [nums_size]) (tab_oneCell _ _ fun _ => rfl) ?_ | refine wpList_load_has 24 _ rfl _ rfl rfl 24 _ hT _ Tryd.underlying24 rfl (infoNum _) ?_)
  refine (cL _ hG).mono ?_
  rintro e w2 ⟨rfl, hx⟩
  replace hR := hR.after hx
  replace hb0 := below_trans hb0 hx
  clear hx hT
  go_wp2_with (first | refine wpList_store_row rfl 24 _ _ rfl (w.heap.size + 1 + 1) _ rfl rfl 24 _ hR (infoNum _) (by simp only [nums_size]) (tab_oneCell _ _ fun _ => rfl) ?_)
  exact bodyPost_ret (v := .agg (nums x)) (results_cell_row rfl _ _ (w.heap.size + 1 + 1) 24 _ _ _ rfl (hR.setRow _) Tryd.underlying24 rfl (infoNum _)) rfl ⟨rfl, below_setRow hb0 (by omega) _⟩
theorem rr_big : RR = 4294967296 ^ 8 := by decide +kernel
theorem big_rr : big = RR := by decide +kernel
theorem prod_redc {a b m ni : Nat} (hodd : m % 2 = 1) (hinv : (m % BB * ni + 1) % BB = 0) (ha : a < big) (hab : a * b < big * m) : prodN BB a b m ni 8 < 2 * m ∧ prodN BB a b m ni 8 % m = redc m (a * b) := by
  obtain ⟨h1, h2⟩ := prodN_end (B := BB) (n := 8) (by decide) hinv a b (by omega) ha hab
  refine ⟨h1, redc_unique m _ _ hodd (Nat.mod_lt _ (by omega)) ?_⟩
  rw [← h2, Nat.mul_mod, Nat.mod_mod, ← Nat.mul_mod, rr_big]
theorem prod_high {a b m ni k : Nat} (hm0 : 0 < m) (hinv : (m % BB * ni + 1) % BB = 0) (hb : b < big) (hm : m < big) : prodN BB a b m ni k / big < 4294967296 := by
  have := prodN_lt (B := BB) (by decide) hinv a b k hm0
  rw [Nat.div_lt_iff_lt_mul big_pos]
  omega
set_option maxRecDepth 100000 in
set_option maxHeartbeats 1000000 in
theorem product_any (a b m ni o s g : Nat) (w : World) (hG : Has w g 87 (modC m ni o s)) (hn : ni < 4294967296) (hinv : (m % BB * ni + 1) % BB = 0) (hodd : m % 2 = 1) (hm : m < big) (ha : a < big) (hb : b < big) (hab : a * b < big * m) :
    Calls Tryd.prog 52 #[.pointer (some ⟨g, 0, none⟩), .agg (nums a), .agg (nums b)] w fun e w' => e = .returned (.agg (nums (redc m (a * b)))) ∧ Below w.heap.size w w' := by
  have hP := prod_redc hodd hinv ha hab
  have hH := fun k => prod_high (a := a) (k := k) (show 0 < m by omega) hinv hb hm
  have HS := Lib.hid (fun k β l W h1 h2 h3 hgl hbl => step_any (prodN BB a b m ni k) (wrd a k) b m ni o s g l β W h1 h2 h3 hgl hbl (wrd_lt a k) (hH k) hn hb hm)
  have HL := Lib.hid (fun W h => lowered_any (prodN BB a b m ni 8) m ni o s g W h hP.1 hm)
  have hres : prodN BB a b m ni 8 % m = redc m (a * b) := hP.2
  rw [hres] at HL
  clear hres hP hH hn hinv hodd hm ha hb hab
  generalize redc m (a * b) = x at *
  have e0 : prodN BB a b m ni 0 = 0 := rfl
  have es : ∀ k, stepN BB (prodN BB a b m ni k) (wrd a k) b m ni = prodN BB a b m ni (k + 1) := fun k => rfl
  simp only [es] at HS
  generalize prodN BB a b m ni = F at *
  have z0 : hiN 0 = 0 := by decide +kernel
  have E0 := Lib.hid (And.intro e0 z0)
  clear e0 es z0
  have n0 := nums_ne 0
  have hA : Has ((((w.alloc (.cells (nums a) 24)).alloc (.cells (nums b) 24)).alloc (.cells (nums 0) 24)).alloc (.cells (nums 0) 24)) (w.heap.size) 24 (nums a) := (((Has.new w _ _).alloc _).alloc _).alloc _
  have hB : Has ((((w.alloc (.cells (nums a) 24)).alloc (.cells (nums b) 24)).alloc (.cells (nums 0) 24)).alloc (.cells (nums 0) 24)) (w.heap.size + 1) 24 (nums b) := ((Has.new' (by simp)).alloc _).alloc _
  have hR : Has ((((w.alloc (.cells (nums a) 24)).alloc (.cells (nums b) 24)).alloc (.cells (nums 0) 24)).alloc (.cells (nums 0) 24)) (w.heap.size + 1 + 1) 24 (nums 0) := (Has.new' (by simp)).alloc _
  have hL : Has ((((w.alloc (.cells (nums a) 24)).alloc (.cells (nums b) 24)).alloc (.cells (nums 0) 24)).alloc (.cells (nums 0) 24)) (w.heap.size + 1 + 1 + 1) 24 (nums 0) := Has.new' (by simp)
  have hb0 : Below w.heap.size w ((((w.alloc (.cells (nums a) 24)).alloc (.cells (nums b) 24)).alloc (.cells (nums 0) 24)).alloc (.cells (nums 0) 24)) := ((((Below.refl _ _).alloc (Nat.le_refl _) _).alloc (by simp <;> omega) _).alloc (by simp <;> omega) _).alloc (by simp <;> omega) _
  have hgw := hG.lt
  replace hG := hG.after hb0
  go_enter Tryd.func52, Tryd.ntmps52
  go_wp2_with (first | refine wpList_load_has 24 _ rfl _ rfl rfl 24 _ hA _ Tryd.underlying24 rfl (infoNum _) ?_)
  have hi : ∀ k : Nat, k < 8 → ∀ W, (Instr.index 24 (.agg (nums a)) (.int .i64 (k : Int))).run Tryd.prog W = .ok (.int .u32 ((wrd a k : Nat) : Int)) W := fun k hk W => by
    obtain ⟨i, hi, _, hs, _⟩ := info_parts info32
    exact run_index_tab 24 22 8 .u32 i (dgs .u32 4294967296 a) Tryd.underlying24 Tryd.underlying22 hi hs .i64 k hk W
  have HI := Lib.hid hi
  clear hi hA
  go_loopw [8, 10, 12] (fun vh _ vi wr => ∃ k : Nat, k ≤ 8 ∧ vh = .int .u32 ((hiN (F k) : Nat) : Int) ∧ vi = .int .i64 (k : Int) ∧ Has wr g 87 (modC m ni o s) ∧ Has wr (w.heap.size + 1) 24 (nums b) ∧
      Has wr (w.heap.size + 1 + 1) 24 (nums 0) ∧ Has wr (w.heap.size + 1 + 1 + 1) 24 (nums (F k)) ∧ Below w.heap.size w wr) (fun _ _ vi _ => 8 - (intOf vi).toNat)
  case atStart => exact ⟨0, by omega, by rw [E0.out.1, E0.out.2]; rfl, rfl, hG, hB, hR, by rw [E0.out.1]; exact hL, hb0⟩
  case round =>
    obtain ⟨k, hk, rfl, rfl, h1, h2, h3, h4, hb⟩ := hrel
    clear hG hB hR hL hb0
    by_cases hlt : k < 8
    · have dk : (k : Int) < 8 := by omega
      have hi := HI.out k hlt
      go_wp2_with fail
      refine (HS.out k (w.heap.size + 1) (w.heap.size + 1 + 1 + 1) _ h1 h4 h2 (by omega) (by omega)).mono ?_
      rintro e w2 ⟨rfl, h4', hO⟩
      replace h1 := h1.grown hO (by omega)
      replace h2 := h2.grown hO (by omega)
      replace h3 := h3.grown hO (by omega)
      have hb' := hb.trans (below_of_only hO (B := w.heap.size) (by omega) hb.size)
      clear hO h4 hb
      go_wp2_with fail
      go_roundw
      case rel => exact ⟨k + 1, by omega, rfl, by go_num, h1, h2, h3, h4', hb'⟩
      case measure => simp [intOf]; omega
    · have hk8 : k = 8 := by omega
      have dk : ¬ (k : Int) < 8 := by omega
      rw [hk8] at h4
      have HLw := HL.out wr h1
      have hk2 : hiN (F k) = hiN (F 8) := by rw [hk8]
      have HK := Lib.hid hk2
      generalize hiN (F k) = y at *
      clear hlt hk hk8 hk2 HI HS
      go_wp2_with (first | refine wpList_load_has 24 _ rfl _ rfl rfl 24 _ h4 _ Tryd.underlying24 rfl (infoNum _) ?_)
      obtain rfl : y = hiN (F 8) := HK.out
      refine HLw.mono ?_
      rintro e w2 ⟨rfl, hx⟩
      replace h3 := h3.after hx
      replace hb := below_trans hb hx
      clear hx h4 h1 h2
      go_wp2_with (first | refine wpList_store_row rfl 24 _ _ rfl (w.heap.size + 1 + 1) _ rfl rfl 24 _ h3 (infoNum _) (by simp only [nums_size]) (tab_oneCell _ _ fun _ => rfl) ?_)
      exact bodyPost_ret (v := .agg (nums x)) (results_cell_row rfl _ _ (w.heap.size + 1 + 1) 24 _ _ _ rfl (h3.setRow _) Tryd.underlying24 rfl (infoNum _)) rfl ⟨rfl, below_setRow hb (by omega) _⟩
end Go.Proofs.YtmgmfifkldpbmaaDoor
namespace Go.Proofs.YtmgmfifkldpbmaaDoor
open Go.RowKit

/-- block g holds the arithmetic modulo m -/
def IsMod (w : World) (g m : Nat) : Prop := ∃ ni, ni < 4294967296 ∧ (m % BB * ni + 1) % BB = 0 ∧ m % 2 = 1 ∧ 1 < m ∧ m < big ∧ Has w g 87 (modC m ni (RR % m) (RR * RR % m))
theorem IsMod.after {w w' : World} {g m : Nat} (h : IsMod w g m) (k : Below w.heap.size w w') : IsMod w' g m := by
  obtain ⟨ni, h1, h2, h3, h4, h5, h6⟩ := h
  exact ⟨ni, h1, h2, h3, h4, h5, h6.after k⟩
theorem mprod_any (a b m g : Nat) (w : World) (h : IsMod w g m) (ha : a < big) (hb : b < big) (hab : a * b < big * m) :
    Calls Tryd.prog 52 #[.pointer (some ⟨g, 0, none⟩), .agg (nums a), .agg (nums b)] w fun e w' => e = .returned (.agg (nums (redc m (a * b)))) ∧ Below w.heap.size w w' := by
  obtain ⟨ni, h1, h2, h3, h4, h5, h6⟩ := h
  exact product_any a b m ni _ _ g w h6 h1 h2 h3 h5 ha hb hab
theorem mul_bound {a b m : Nat} (ha : a < m) (hb : b < big) : a * b < big * m := by
  have h1 : a * b ≤ a * big := Nat.mul_le_mul_left _ (by omega)
  have h2 : a * big < m * big := Nat.mul_lt_mul_of_pos_right ha big_pos
  rw [Nat.mul_comm big m]; omega
theorem mul_bound2 {a b m : Nat} (ha : a < big) (hb : b < m) : a * b < big * m := by
  rw [Nat.mul_comm a b]; exact mul_bound hb ha
theorem sub_low {a b m : Nat} (ha : a < m) (hb : b < m) (h : ¬ a < b) : nums (a + big - b) = nums ((a + (m - b)) % m) := by
  rw [← nums_mod (a + big - b), show a + big - b = (a - b) + big by omega, Nat.add_mod_right, nums_mod, show a + (m - b) = (a - b) + m by omega, Nat.add_mod_right, Nat.mod_eq_of_lt (show a - b < m by omega)]
theorem sub_high {a b m : Nat} (_ha : a < m) (hb : b < m) (hm : m < big) (h : a < b) : nums (a + big - b + m) = nums ((a + (m - b)) % m) := by
  rw [← nums_mod (a + big - b + m), show a + big - b + m = (a + (m - b)) + big by omega, Nat.add_mod_right, nums_mod, Nat.mod_eq_of_lt (show a + (m - b) < m by omega)]
attribute [local go_sem] zeroNum
set_option maxRecDepth 100000 in
set_option maxHeartbeats 1000000 in
theorem subm_any (a b m ni o s g : Nat) (w : World) (hG : Has w g 87 (modC m ni o s)) (ha : a < m) (hb : b < m) (hm : m < big) :
    Calls Tryd.prog 37 #[.pointer (some ⟨g, 0, none⟩), .agg (nums a), .agg (nums b)] w fun e w' => e = .returned (.agg (nums ((a + (m - b)) % m))) ∧ Below w.heap.size w w' := by
  have cS := fun W => sub_any a b W (by omega) (by omega)
  have hl := sub_low ha hb
  have hh := sub_high ha hb hm
  have n0 := nums_ne 0
  have hA : Has (((w.alloc (.cells (nums a) 24)).alloc (.cells (nums b) 24)).alloc (.cells (nums 0) 24)) (w.heap.size) 24 (nums a) := ((Has.new w _ _).alloc _).alloc _
  have hB : Has (((w.alloc (.cells (nums a) 24)).alloc (.cells (nums b) 24)).alloc (.cells (nums 0) 24)) (w.heap.size + 1) 24 (nums b) := (Has.new' (by simp)).alloc _
  have hR : Has (((w.alloc (.cells (nums a) 24)).alloc (.cells (nums b) 24)).alloc (.cells (nums 0) 24)) (w.heap.size + 1 + 1) 24 (nums 0) := Has.new' (by simp)
  have hb0 : Below w.heap.size w (((w.alloc (.cells (nums a) 24)).alloc (.cells (nums b) 24)).alloc (.cells (nums 0) 24)) := (((Below.refl _ _).alloc (Nat.le_refl _) _).alloc (by simp <;> omega) _).alloc (by simp <;> omega) _
  have hgw := hG.lt
  replace hG := hG.after hb0
  have hd : a < b → a + big - b < big := fun h => by omega
  generalize hx : (a + (m - b)) % m = x at *
  generalize hdd : a + big - b = d at *
  by_cases hlt : a < b
  · have hu : under a b = 1 := if_pos hlt
    have cA := fun W => add_any d m W (hd hlt) hm
    have HE := Lib.hid (hh hlt)
    rw [hu] at cS
    clear hd hh hl hx hdd hlt ha hb hm hu
    generalize over d m = u2 at *
    generalize d + m = r at *
    go_enter Tryd.func37, Tryd.ntmps37
    go_wp2_with (first | refine wpList_load_has 24 _ rfl _ rfl rfl 24 _ hA _ Tryd.underlying24 rfl (infoNum _) ?_ | refine wpList_load_has 24 _ rfl _ rfl rfl 24 _ hB _ Tryd.underlying24 rfl (infoNum _) ?_)
    refine (cS _).mono ?_
    rintro e w1 ⟨rfl, hx⟩
    have hlR := (hR.after hx).lt
    have hN := put_new w1 24 (nums 0) (nums d)
    replace hR := (hR.after hx).after hN.2
    replace hG := (hG.after hx).after hN.2
    replace hb0 := below_trans (below_trans hb0 hx) hN.2
    have hD := hN.1
    clear hx hN hA hB cS
    go_wp2_with (first | refine wpList_store_row rfl 24 _ _ rfl w1.heap.size _ rfl rfl 24 (nums 0) (Has.new' rfl) (infoNum _) (by simp only [nums_size]) (tab_oneCell _ _ fun _ => rfl) ?_)
    generalize ((w1.alloc _).setRow _ _) = W at *
    refine region_facts 9 [8] [.val (.agg (nums d)), .val (.pointer (some ⟨g, 0, none⟩)), .val (.pointer (some ⟨g, 0, none⟩)), .val (.pointer (some ⟨g, 0, none⟩)), .val (.agg (nums m)), .val (.tuple #[.agg (nums r), .int .u32 ((u2 : Nat) : Int)]), .val (.tuple #[.agg (nums r), .int .u32 ((u2 : Nat) : Int)]), .val (.agg (nums r)), .val (.int .u32 ((u2 : Nat) : Int))]
      (by kernel_rfl) (by kernel_rfl) (fun _ _ _ _ _ h => h) ?_ ?_
    · simp only [List.take_succ_cons, List.take_zero, StepsOK]
      refine ⟨?_, ?_, ?_, ?_, ?_, ?_, ?_, ?_, ?_, trivial⟩
      · intro v w' hb hf K hKt
        simp only [putAll, Act.put, List.setIfInBounds_toArray, List.set_cons_zero, List.set_cons_succ, Nat.zero_add, Nat.reduceAdd] at hKt ⊢
        exact wp_load_row 24 _ rfl (w1.heap.size) rfl 24 _ (0, 0) _ (hD.after hb) Tryd.underlying24 rfl (infoNum _) (hKt _ (Below.refl _ _))
      · intro v w' hb hf K hKt
        simp only [putAll, Act.put, List.setIfInBounds_toArray, List.set_cons_zero, List.set_cons_succ, Nat.zero_add, Nat.reduceAdd] at hKt ⊢
        go_simp
        exact hKt _ (Below.refl _ _)
      · intro v w' hb hf K hKt
        have f1 : v 1 = _ := hf ⟨1, .data⟩ (by simp) rfl
        simp only [putAll, Act.put, List.setIfInBounds_toArray, List.set_cons_zero, List.set_cons_succ, Nat.zero_add, Nat.reduceAdd] at hKt ⊢
        rw [f1] at hKt ⊢
        go_simp
        exact hKt _ (Below.refl _ _)
      · intro v w' hb hf K hKt
        have f2 : v 2 = _ := hf ⟨2, .data⟩ (by simp) rfl
        simp only [putAll, Act.put, List.setIfInBounds_toArray, List.set_cons_zero, List.set_cons_succ, Nat.zero_add, Nat.reduceAdd] at hKt ⊢
        rw [f2] at hKt ⊢
        go_simp
        exact hKt _ (Below.refl _ _)
      · intro v w' hb hf K hKt
        have f3 : v 3 = _ := hf ⟨3, .data⟩ (by simp) rfl
        simp only [putAll, Act.put, List.setIfInBounds_toArray, List.set_cons_zero, List.set_cons_succ, Nat.zero_add, Nat.reduceAdd] at hKt ⊢
        rw [f3] at hKt ⊢
        exact wp_load_num _ rfl (g) 0 rfl m (mod_words (hG.after hb)) (hKt _ (Below.refl _ _))
      · intro v w' hb hf K hKt
        have f0 : v 0 = _ := hf ⟨0, .data⟩ (by simp) rfl
        have f4 : v 4 = _ := hf ⟨4, .data⟩ (by simp) rfl
        simp only [putAll, Act.put, List.setIfInBounds_toArray, List.set_cons_zero, List.set_cons_succ, Nat.zero_add, Nat.reduceAdd] at hKt ⊢
        rw [f0, f4] at hKt ⊢
        go_simp
        refine (cA w').mono ?_
        rintro e w'' ⟨rfl, hb2⟩
        exact hKt _ hb2
      · intro v w' hb hf K hKt
        have f5 : v 5 = _ := hf ⟨5, .data⟩ (by simp) rfl
        simp only [putAll, Act.put, List.setIfInBounds_toArray, List.set_cons_zero, List.set_cons_succ, Nat.zero_add, Nat.reduceAdd] at hKt ⊢
        rw [f5] at hKt ⊢
        go_simp
        exact hKt _ (Below.refl _ _)
      · intro v w' hb hf K hKt
        have f6 : v 6 = _ := hf ⟨6, .data⟩ (by simp) rfl
        simp only [putAll, Act.put, List.setIfInBounds_toArray, List.set_cons_zero, List.set_cons_succ, Nat.zero_add, Nat.reduceAdd] at hKt ⊢
        rw [f6] at hKt ⊢
        go_simp
        exact hKt _ (Below.refl _ _)
      · intro v hf w'
        obtain ⟨_, f6⟩ := hf ⟨6, .data⟩ (by simp) rfl
        replace f6 : v 6 = _ := f6
        simp only [putAll, Act.put, List.setIfInBounds_toArray, List.set_cons_zero, List.set_cons_succ, Nat.zero_add, Nat.reduceAdd]
        rw [f6]
        go_simp
    intro v w2 hb hF hD
    have f0 : v 0 = _ := hF 0 (by decide)
    have f1 : v 1 = _ := hF 1 (by decide)
    have f2 : v 2 = _ := hF 2 (by decide)
    have f3 : v 3 = _ := hF 3 (by decide)
    have f4 : v 4 = _ := hF 4 (by decide)
    have f5 : v 5 = _ := hF 5 (by decide)
    have f6 : v 6 = _ := hF 6 (by decide)
    have f7 : v 7 = _ := hF 7 (by decide)
    have f8 : v 8 = _ := hF 8 (by decide)
    simp only [List.take_succ_cons, List.take_zero, List.drop_succ_cons, List.drop_zero, putAll, Act.put, List.setIfInBounds_toArray, List.set_cons_zero, List.set_cons_succ, Nat.zero_add, Nat.reduceAdd]
    rw [f0, f1, f2, f3, f4, f5, f6, f7, f8]
    clear hF hD f0 f1 f2 f3 f4 f5 f6 f7 f8
    have hBW := hb
    replace hD := hD.after hBW
    replace hG := hG.after hBW
    replace hD2 := hD.setRow (nums r)
    replace hR := (hR.after hBW).farRow (k := w1.heap.size) (by omega) (nums r)
    replace hb0 := below_setRow (below_trans hb0 hBW) (g := w1.heap.size) (by omega) (nums r)
    go_wp2_with (first | refine wpList_store_row rfl 24 _ _ rfl (w1.heap.size) _ rfl rfl 24 _ hD (infoNum _) (by simp only [nums_size]) (tab_oneCell _ _ fun _ => rfl) ?_ | refine wpList_load_has 24 _ rfl _ rfl rfl 24 _ hD2 _ Tryd.underlying24 rfl (infoNum _) ?_ | refine wpList_store_row rfl 24 _ _ rfl (w.heap.size + 1 + 1) _ rfl rfl 24 _ hR (infoNum _) (by simp only [nums_size]) (tab_oneCell _ _ fun _ => rfl) ?_)
    clear hBW hb 
    exact bodyPost_ret (v := .agg (nums x)) (results_cell_row rfl _ _ (w.heap.size + 1 + 1) 24 _ _ _ rfl (by rw [← HE.out]; exact hR.setRow _) Tryd.underlying24 rfl (infoNum _)) rfl ⟨rfl, below_setRow hb0 (by omega) _⟩
  · have hu : under a b = 0 := if_neg hlt
    have HE := Lib.hid (hl hlt)
    rw [hu] at cS
    clear hd hh hl hx hdd hlt ha hb hm hu
    go_enter Tryd.func37, Tryd.ntmps37
    go_wp2_with (first | refine wpList_load_has 24 _ rfl _ rfl rfl 24 _ hA _ Tryd.underlying24 rfl (infoNum _) ?_ | refine wpList_load_has 24 _ rfl _ rfl rfl 24 _ hB _ Tryd.underlying24 rfl (infoNum _) ?_)
    refine (cS _).mono ?_
    rintro e w1 ⟨rfl, hx⟩
    have hN := put_new w1 24 (nums 0) (nums d)
    replace hR := (hR.after hx).after hN.2
    replace hb0 := below_trans (below_trans hb0 hx) hN.2
    have hD := hN.1
    clear hx hN hA hB cS hG
    go_wp2_with (first | refine wpList_store_row rfl 24 _ _ rfl w1.heap.size _ rfl rfl 24 (nums 0) (Has.new' rfl) (infoNum _) (by simp only [nums_size]) (tab_oneCell _ _ fun _ => rfl) ?_ | refine wpList_load_has 24 _ rfl _ rfl rfl 24 _ hD _ Tryd.underlying24 rfl (infoNum _) ?_ | refine wpList_store_row rfl 24 _ _ rfl (w.heap.size + 1 + 1) _ rfl rfl 24 _ hR (infoNum _) (by simp only [nums_size]) (tab_oneCell _ _ fun _ => rfl) ?_)
    exact bodyPost_ret (v := .agg (nums x)) (results_cell_row rfl _ _ (w.heap.size + 1 + 1) 24 _ _ _ rfl (by rw [← HE.out]; exact hR.setRow _) Tryd.underlying24 rfl (infoNum _)) rfl ⟨rfl, below_setRow hb0 (by omega) _⟩
attribute [local go_sem] zeroNum
set_option maxRecDepth 100000 in
set_option maxHeartbeats 1000000 in
theorem mone_any (m g : Nat) (w : World) (h : IsMod w g m) : Calls Tryd.prog 59 #[.pointer (some ⟨g, 0, none⟩)] w fun e w' => e = .returned (.agg (nums (RR % m))) ∧ Below w.heap.size w w' := by
  obtain ⟨ni, i1, i2, i3, i4, i5, hG⟩ := h
  have n0 := nums_ne 0
  have hR : Has (w.alloc (.cells (nums 0) 24)) (w.heap.size) 24 (nums 0) := Has.new w _ _
  have hb0 : Below w.heap.size w (w.alloc (.cells (nums 0) 24)) := (Below.refl _ _).alloc (Nat.le_refl _) _
  replace hG := hG.after hb0
  go_enter Tryd.func59, Tryd.ntmps59
  go_wp2_with (first | refine wpList_load_num rfl _ rfl _ 9 rfl _ (mod_one hG) ?_ | refine wpList_store_row rfl 24 _ _ rfl (w.heap.size) _ rfl rfl 24 _ hR (infoNum _) (by simp only [nums_size]) (tab_oneCell _ _ fun _ => rfl) ?_)
  exact bodyPost_ret (v := .agg (nums (RR % m))) (results_cell_row rfl _ _ (w.heap.size) 24 _ _ _ rfl (hR.setRow _) Tryd.underlying24 rfl (infoNum _)) rfl ⟨rfl, below_setRow hb0 (by omega) _⟩
attribute [local go_sem] zeroNum
set_option maxRecDepth 100000 in
set_option maxHeartbeats 1000000 in
theorem mtimes_any (a b m g : Nat) (w : World) (h : IsMod w g m) (ha : a < m) (hb : b < m) : Calls Tryd.prog 35 #[.pointer (some ⟨g, 0, none⟩), .agg (nums a), .agg (nums b)] w fun e w' => e = .returned (.agg (nums (redc m (a * b)))) ∧ Below w.heap.size w w' := by
  have hm : m < big := by obtain ⟨_, _, _, _, _, h, _⟩ := h; exact h
  have cP := fun W h => mprod_any a b m g W h (by omega) (by omega) (mul_bound ha (by omega))
  clear ha hb hm
  generalize redc m (a * b) = x at *
  have n0 := nums_ne 0
  have hA : Has (((w.alloc (.cells (nums a) 24)).alloc (.cells (nums b) 24)).alloc (.cells (nums 0) 24)) (w.heap.size) 24 (nums a) := ((Has.new w _ _).alloc _).alloc _
  have hB : Has (((w.alloc (.cells (nums a) 24)).alloc (.cells (nums b) 24)).alloc (.cells (nums 0) 24)) (w.heap.size + 1) 24 (nums b) := (Has.new' (by simp)).alloc _
  have hR : Has (((w.alloc (.cells (nums a) 24)).alloc (.cells (nums b) 24)).alloc (.cells (nums 0) 24)) (w.heap.size + 1 + 1) 24 (nums 0) := Has.new' (by simp)
  have hb0 : Below w.heap.size w (((w.alloc (.cells (nums a) 24)).alloc (.cells (nums b) 24)).alloc (.cells (nums 0) 24)) := (((Below.refl _ _).alloc (Nat.le_refl _) _).alloc (by simp <;> omega) _).alloc (by simp <;> omega) _
  replace h := h.after hb0
  go_enter Tryd.func35, Tryd.ntmps35
  go_wp2_with (first | refine wpList_load_has 24 _ rfl _ rfl rfl 24 _ hA _ Tryd.underlying24 rfl (infoNum _) ?_ | refine wpList_load_has 24 _ rfl _ rfl rfl 24 _ hB _ Tryd.underlying24 rfl (infoNum _) ?_)
  refine (cP _ h).mono ?_
  rintro e w1 ⟨rfl, hx⟩
  replace hR := hR.after hx
  replace hb0 := below_trans hb0 hx
  go_wp2_with (first | refine wpList_store_row rfl 24 _ _ rfl (w.heap.size + 1 + 1) _ rfl rfl 24 _ hR (infoNum _) (by simp only [nums_size]) (tab_oneCell _ _ fun _ => rfl) ?_)
  exact bodyPost_ret (v := .agg (nums x)) (results_cell_row rfl _ _ (w.heap.size + 1 + 1) 24 _ _ _ rfl (hR.setRow _) Tryd.underlying24 rfl (infoNum _)) rfl ⟨rfl, below_setRow hb0 (by omega) _⟩
attribute [local go_sem] zeroNum
set_option maxRecDepth 100000 in
set_option maxHeartbeats 1000000 in
theorem min_any (a m g : Nat) (w : World) (h : IsMod w g m) (ha : a < big) : Calls Tryd.prog 29 #[.pointer (some ⟨g, 0, none⟩), .agg (nums a)] w fun e w' => e = .returned (.agg (nums (a * RR % m))) ∧ Below w.heap.size w w' := by
  have hm : m < big := by obtain ⟨_, _, _, _, _, h, _⟩ := h; exact h
  have hm1 : 1 < m := by obtain ⟨_, _, _, _, h, _⟩ := h; exact h
  have hm2 : m % 2 = 1 := by obtain ⟨_, _, _, h, _⟩ := h; exact h
  have hs : RR * RR % m < m := Nat.mod_lt _ (by omega)
  have cP := fun W h => mprod_any a (RR * RR % m) m g W h ha (by omega) (mul_bound2 ha hs)
  have e : redc m (a * (RR * RR % m)) = a * RR % m := by
    rw [← redc_mod, Nat.mul_mod, Nat.mod_mod, ← Nat.mul_mod, redc_mod, ← Nat.mul_assoc, redc_R m _ hm2]
  rw [e] at cP
  have hG : ∃ ni, Has w g 87 (modC m ni (RR % m) (RR * RR % m)) := by obtain ⟨ni, _, _, _, _, _, h⟩ := h; exact ⟨ni, h⟩
  obtain ⟨ni, hG⟩ := hG
  clear e ha hm hm1 hm2 hs
  generalize a * RR % m = x at *
  generalize RR * RR % m = s at *
  have n0 := nums_ne 0
  have hA : Has ((w.alloc (.cells (nums a) 24)).alloc (.cells (nums 0) 24)) (w.heap.size) 24 (nums a) := (Has.new w _ _).alloc _
  have hR : Has ((w.alloc (.cells (nums a) 24)).alloc (.cells (nums 0) 24)) (w.heap.size + 1) 24 (nums 0) := Has.new' (by simp)
  have hb0 : Below w.heap.size w ((w.alloc (.cells (nums a) 24)).alloc (.cells (nums 0) 24)) := ((Below.refl _ _).alloc (Nat.le_refl _) _).alloc (by simp <;> omega) _
  replace h := h.after hb0
  replace hG := hG.after hb0
  go_enter Tryd.func29, Tryd.ntmps29
  go_wp2_with fail
  generalize ((w.alloc _).alloc _) = W at *
  refine region_quiet_tail (Below W.heap.size W) 7 (by kernel_rfl) (by kernel_rfl) (below_drewN (Below.refl _ _) 1) ?_
  simp only [List.take_succ_cons, List.take_zero, List.drop_succ_cons, List.drop_zero]
  refine wpQ_move _ rfl rfl (.pointer (some ⟨g, 0, none⟩)) rfl ?_
  simp only [Act.put, List.setIfInBounds_toArray, List.set_cons_zero, List.set_cons_succ]
  refine wpQ_has 24 _ rfl _ rfl rfl 24 _ (fun w' hC => hA.after hC) _ Tryd.underlying24 rfl (infoNum _) ?_
  simp only [Act.put, List.setIfInBounds_toArray, List.set_cons_zero, List.set_cons_succ]
  refine wpQ_move _ rfl rfl (.pointer (some ⟨g, 0, none⟩)) rfl ?_
  simp only [Act.put, List.setIfInBounds_toArray, List.set_cons_zero, List.set_cons_succ]
  refine wpQ_val rfl (.pointer (some ⟨g, 0, none⟩)) (fun w' _ => by go_simp) ?_
  simp only [Act.put, List.setIfInBounds_toArray, List.set_cons_zero, List.set_cons_succ]
  refine wpQ_val rfl (.pointer (some ⟨g, 17, none⟩)) (fun w' _ => by go_simp) ?_
  simp only [Act.put, List.setIfInBounds_toArray, List.set_cons_zero, List.set_cons_succ]
  refine wpQ_load_num rfl _ rfl g 17 rfl s (fun w' hC => mod_square (hG.after hC)) ?_
  simp only [Act.put, List.setIfInBounds_toArray, List.set_cons_zero, List.set_cons_succ]
  refine wpQ_fn 52 _ _ rfl rfl #[.pointer (some ⟨g, 0, none⟩), .agg (nums a), .agg (nums s)] rfl (fun _ => by go_simp) (.agg (nums x)) (fun w' hC => (cP w' (h.after hC)).mono fun e w'' ⟨he, hb⟩ => ⟨he, below_class hC hb⟩) ?_
  simp only [Act.put, List.setIfInBounds_toArray, List.set_cons_zero, List.set_cons_succ]
  refine wpQuiet_nil ?_
  intro w1 hC
  replace hR := hR.after hC
  replace hb0 := below_trans hb0 hC
  clear hC h hG cP hA
  go_wp2_with (first | refine wpList_store_row rfl 24 _ _ rfl (w.heap.size + 1) _ rfl rfl 24 _ hR (infoNum _) (by simp only [nums_size]) (tab_oneCell _ _ fun _ => rfl) ?_)
  exact bodyPost_ret (v := .agg (nums x)) (results_cell_row rfl _ _ (w.heap.size + 1) 24 _ _ _ rfl (hR.setRow _) Tryd.underlying24 rfl (infoNum _)) rfl ⟨rfl, below_setRow hb0 (by omega) _⟩
end Go.Proofs.YtmgmfifkldpbmaaDoor
namespace Go.Proofs.YtmgmfifkldpbmaaDoor
open Go.RowKit

theorem md1 : (nums 0).setIfInBounds 0 (Value.int IntKind.u32 1) = nums 1 := by kernel_rfl
theorem md2 : (nums 0).setIfInBounds 0 (Value.int IntKind.u32 2) = nums 2 := by kernel_rfl
theorem IsMod.lt {w : World} {g m : Nat} (h : IsMod w g m) : g < w.heap.size := by
  obtain ⟨_, _, _, _, _, _, h⟩ := h
  exact Has.lt h
theorem IsMod.farRow {w : World} {g m : Nat} (h : IsMod w g m) {k : Nat} (hk : g ≠ k) (cs : Array Value) : IsMod (w.setRow k cs) g m := by
  obtain ⟨ni, h1, h2, h3, h4, h5, h6⟩ := h
  exact ⟨ni, h1, h2, h3, h4, h5, h6.farRow hk cs⟩
theorem IsMod.facts {w : World} {g m : Nat} (h : IsMod w g m) : m < big ∧ 1 < m ∧ m % 2 = 1 := by
  obtain ⟨_, _, _, h1, h2, h3, _⟩ := h
  exact ⟨h3, h2, h1⟩
attribute [local go_sem] zeroNum md1 md2
set_option maxRecDepth 100000 in
set_option maxHeartbeats 1000000 in
theorem mout_any (a m g : Nat) (w : World) (h : IsMod w g m) (ha : a < m) : Calls Tryd.prog 63 #[.pointer (some ⟨g, 0, none⟩), .agg (nums a)] w fun e w' => e = .returned (.agg (nums (redc m a))) ∧ Below w.heap.size w w' := by
  obtain ⟨hm, h1, h2⟩ := h.facts
  have cP := fun W h => mprod_any a 1 m g W h (by omega) (by decide +kernel) (mul_bound ha (by decide +kernel))
  rw [Nat.mul_one] at cP
  clear ha hm h1 h2
  generalize redc m a = x at *
  have n0 := nums_ne 0
  have hA : Has ((w.alloc (.cells (nums a) 24)).alloc (.cells (nums 0) 24)) (w.heap.size) 24 (nums a) := (Has.new w _ _).alloc _
  have hR : Has ((w.alloc (.cells (nums a) 24)).alloc (.cells (nums 0) 24)) (w.heap.size + 1) 24 (nums 0) := Has.new' (by simp)
  have hb0 : Below w.heap.size w ((w.alloc (.cells (nums a) 24)).alloc (.cells (nums 0) 24)) := ((Below.refl _ _).alloc (Nat.le_refl _) _).alloc (by simp <;> omega) _
  replace h := h.after hb0
  go_enter Tryd.func63, Tryd.ntmps63
  go_wp2_with (first | refine wpList_load_has 24 _ rfl _ rfl rfl 24 _ hA _ Tryd.underlying24 rfl (infoNum _) ?_)
  refine (cP _ h).mono ?_
  rintro e w1 ⟨rfl, hx⟩
  replace hR := hR.after hx
  replace hb0 := below_trans hb0 hx
  go_wp2_with (first | refine wpList_store_row rfl 24 _ _ rfl (w.heap.size + 1) _ rfl rfl 24 _ hR (infoNum _) (by simp only [nums_size]) (tab_oneCell _ _ fun _ => rfl) ?_)
  exact bodyPost_ret (v := .agg (nums x)) (results_cell_row rfl _ _ (w.heap.size + 1) 24 _ _ _ rfl (hR.setRow _) Tryd.underlying24 rfl (infoNum _)) rfl ⟨rfl, below_setRow hb0 (by omega) _⟩
/-- k bits of the exponent are taken -/
def powK (m a e k : Nat) : Nat := redc m a ^ (e / 2 ^ (256 - k)) * RR % m
theorem powK_zero {m a e : Nat} (he : e < big) : powK m a e 0 = RR % m := by
  unfold powK
  rw [Nat.div_eq_of_lt (by have : big = 2 ^ (256 - 0) := by decide +kernel
                           omega), Nat.pow_zero, Nat.one_mul]
theorem powK_end (m a e : Nat) : powK m a e 256 = powN m a e := by
  unfold powK powN
  rw [Nat.sub_self, Nat.pow_zero, Nat.div_one]
theorem powK_lt {m : Nat} (a e k : Nat) (hm : 0 < m) : powK m a e k < m := Nat.mod_lt _ hm
theorem exp_bit (e k : Nat) (hk : k < 256) : e / 2 ^ (256 - (k + 1)) = 2 * (e / 2 ^ (256 - k)) + bitN e (255 - k) := by
  have h1 : 256 - k = (255 - k) + 1 := by omega
  have h2 : 256 - (k + 1) = 255 - k := by omega
  unfold bitN
  rw [h1, h2, Nat.pow_succ, ← Nat.div_div_eq_div_mul]
  omega
theorem powK_even {m a e k : Nat} (hm : m % 2 = 1) (hk : k < 256) (hb : bitN e (255 - k) = 0) : redc m (powK m a e k * powK m a e k) = powK m a e (k + 1) := by
  unfold powK
  rw [times_R m _ _ hm, exp_bit e k hk, hb, Nat.add_zero, Nat.two_mul, Nat.pow_add]
theorem powK_odd {m a e k : Nat} (hm : m % 2 = 1) (ha : a < m) (hk : k < 256) (hb : bitN e (255 - k) = 1) : redc m (redc m (powK m a e k * powK m a e k) * a) = powK m a e (k + 1) := by
  have ea : a = redc m a * RR % m := by rw [Nat.mul_comm, redc_eq m a hm, Nat.mod_eq_of_lt ha]
  unfold powK
  rw [times_R m _ _ hm]
  conv => lhs; rw [show ∀ z, redc m (z * a) = redc m (z * (redc m a * RR % m)) from fun z => by rw [← ea]]
  rw [times_R m _ _ hm, exp_bit e k hk, hb, Nat.two_mul, Nat.pow_succ, Nat.pow_add]
theorem bitN_01 (x i : Nat) : bitN x i = 0 ∨ bitN x i = 1 := by unfold bitN; omega
attribute [local go_sem] zeroNum md1 md2
set_option maxRecDepth 100000 in
set_option maxHeartbeats 1000000 in
theorem mpow_any (a e m g : Nat) (w : World) (h : IsMod w g m) (ha : a < m) (he : e < big) : Calls Tryd.prog 68 #[.pointer (some ⟨g, 0, none⟩), .agg (nums a), .agg (nums e)] w fun z w' => z = .returned (.agg (nums (powN m a e))) ∧ Below w.heap.size w w' := by
  obtain ⟨hm, h1, h2⟩ := h.facts
  have hk0 := powK_zero (m := m) (a := a) he
  have hkl := fun k => powK_lt (m := m) a e k (by omega)
  have HSQ := Lib.hid (fun k W h => mprod_any (powK m a e k) (powK m a e k) m g W h (Nat.lt_trans (hkl k) hm) (Nat.lt_trans (hkl k) hm) (mul_bound (hkl k) (Nat.lt_trans (hkl k) hm)))
  have HML := Lib.hid (fun k W h => mprod_any (redc m (powK m a e k * powK m a e k)) a m g W h (Nat.lt_trans (redc_lt m _ (by omega)) hm) (by omega) (mul_bound (redc_lt m _ (by omega)) (by omega)))
  have HEV := Lib.hid (fun k hk hb => powK_even (a := a) (e := e) (k := k) h2 hk hb)
  have HOD := Lib.hid (fun k hk hb => powK_odd (e := e) (k := k) h2 ha hk hb)
  have HB := Lib.hid (fun i W hi => bit_any e i W hi)
  have HK := Lib.hid (And.intro hk0 (powK_end m a e))
  clear hk0 hkl ha he hm h1 h2
  generalize powK m a e = F at *
  generalize powN m a e = x at *
  have n0 := nums_ne 0
  have hA : Has (((w.alloc (.cells (nums a) 24)).alloc (.cells (nums e) 24)).alloc (.cells (nums 0) 24)) (w.heap.size) 24 (nums a) := ((Has.new w _ _).alloc _).alloc _
  have hE : Has (((w.alloc (.cells (nums a) 24)).alloc (.cells (nums e) 24)).alloc (.cells (nums 0) 24)) (w.heap.size + 1) 24 (nums e) := (Has.new' (by simp)).alloc _
  have hR : Has (((w.alloc (.cells (nums a) 24)).alloc (.cells (nums e) 24)).alloc (.cells (nums 0) 24)) (w.heap.size + 1 + 1) 24 (nums 0) := Has.new' (by simp)
  have hb0 : Below w.heap.size w (((w.alloc (.cells (nums a) 24)).alloc (.cells (nums e) 24)).alloc (.cells (nums 0) 24)) := (((Below.refl _ _).alloc (Nat.le_refl _) _).alloc (by simp <;> omega) _).alloc (by simp <;> omega) _
  have hgw : g < w.heap.size := h.lt
  replace h := h.after hb0
  have hG : ∃ ni, Has (((w.alloc (.cells (nums a) 24)).alloc (.cells (nums e) 24)).alloc (.cells (nums 0) 24)) g 87 (modC m ni (RR % m) (RR * RR % m)) := by obtain ⟨ni, _, _, _, _, _, h⟩ := h; exact ⟨ni, h⟩
  obtain ⟨ni, hG⟩ := hG
  rw [← HK.out.1] at hG
  have hP := put_at (((w.alloc (.cells (nums a) 24)).alloc (.cells (nums e) 24)).alloc (.cells (nums 0) 24)) 24 (nums 0) (nums (F 0)) (w.heap.size + 1 + 1 + 1) (by simp)
  replace hA := hA.after hP.2
  replace hE := hE.after hP.2
  replace hR := hR.after hP.2
  replace h := h.after hP.2
  replace hb0 := below_trans hb0 hP.2
  have hX := hP.1
  clear hP
  go_enter Tryd.func68, Tryd.ntmps68
  go_wp2_with (first | refine wpList_load_num rfl _ rfl _ 9 rfl _ (mod_one hG) ?_ | refine wpList_store_row rfl 24 _ _ rfl (w.heap.size + 1 + 1 + 1) _ rfl rfl 24 _ (Has.new' (by simp)) (infoNum _) (by simp only [nums_size]) (tab_oneCell _ _ fun _ => rfl) ?_)
  generalize (((((w.alloc _).alloc _).alloc _).alloc _).setRow _ _) = W at *
  clear hG
  go_loopw [8, 16] (fun _ vi wr => ∃ k : Nat, k ≤ 256 ∧ vi = .int .i64 (k : Int) ∧ Has wr w.heap.size 24 (nums a) ∧ Has wr (w.heap.size + 1) 24 (nums e) ∧
      Has wr (w.heap.size + 1 + 1) 24 (nums 0) ∧ Has wr (w.heap.size + 1 + 1 + 1) 24 (nums (F k)) ∧ IsMod wr g m ∧ g < w.heap.size ∧ Below w.heap.size w wr) (fun _ vi _ => 256 - (intOf vi).toNat)
  case atStart => exact ⟨0, by omega, rfl, hA, hE, hR, hX, h, hgw, hb0⟩
  case round =>
    obtain ⟨k, hk, rfl, h1, h2, h3, h4, h5, hg, hb⟩ := hrel
    clear hA hE hR hX h hb0 hgw
    by_cases hlt : k < 256
    · have dk : (k : Int) < 256 := by omega
      obtain ⟨q, hq⟩ : ∃ q, q + k = 255 := ⟨255 - k, by omega⟩
      have hqi : (255 : Int) - (k : Int) = (q : Int) := by omega
      have hq2 : 255 - k = q := by omega
      have cE := HEV.out k hlt
      have cO := HOD.out k hlt
      rw [hq2] at cE cO
      have cB := fun W => HB.out q W (by omega)
      have hK := Lib.hid hk
      clear hq2 hk
      go_wp2_with (first | refine wpList_load_has 24 _ rfl _ rfl rfl 24 _ h4 _ Tryd.underlying24 rfl (infoNum _) ?_)
      refine (HSQ.out k _ h5).mono ?_
      rintro z w2 ⟨rfl, hx⟩
      generalize hsq : redc m (F k * F k) = y at *
      replace h1 := h1.after hx; replace h2 := h2.after hx; replace h3 := h3.after hx; replace h4 := h4.after hx; replace h5 := h5.after hx; replace hb := below_trans hb hx
      have h4' := h4.setRow (nums y)
      replace h1 := h1.farRow (k := w.heap.size + 1 + 1 + 1) (by omega) (nums y)
      replace h2 := h2.farRow (k := w.heap.size + 1 + 1 + 1) (by omega) (nums y)
      replace h3 := h3.farRow (k := w.heap.size + 1 + 1 + 1) (by omega) (nums y)
      replace h5 := h5.farRow (k := w.heap.size + 1 + 1 + 1) (by omega) (nums y)
      replace hb := below_setRow hb (g := w.heap.size + 1 + 1 + 1) (by omega) (nums y)
      clear hx
      rcases bitN_01 e q with hbt | hbt
      · rw [hbt] at cB
        have HF := Lib.hid (cE hbt)
        clear cE cO hbt hsq
        go_wp2_with (first | refine wpList_store_row rfl 24 _ _ rfl (w.heap.size + 1 + 1 + 1) _ rfl rfl 24 _ h4 (infoNum _) (by simp only [nums_size]) (tab_oneCell _ _ fun _ => rfl) ?_ | refine wpList_load_has 24 _ rfl _ rfl rfl 24 _ h2 _ Tryd.underlying24 rfl (infoNum _) ?_)
        refine (cB _).mono ?_
        rintro z w3 ⟨rfl, hx⟩
        replace h1 := h1.after hx; replace h2 := h2.after hx; replace h3 := h3.after hx; replace h4' := h4'.after hx; replace h5 := h5.after hx; replace hb := below_trans hb hx
        clear hx h4 cB
        go_wp2_with fail
        go_roundw
        case rel => exact ⟨k + 1, by omega, by go_num, h1, h2, h3, by rw [← HF.out]; exact h4', h5, hg, hb⟩
        case measure => simp [intOf]; omega
      · rw [hbt] at cB
        have HF := Lib.hid (cO hbt)
        have cM := fun W h => HML.out k W h
        rw [hsq] at cM
        clear cE cO hbt hsq
        generalize redc m (y * a) = y2 at *
        go_wp2_with (first | refine wpList_store_row rfl 24 _ _ rfl (w.heap.size + 1 + 1 + 1) _ rfl rfl 24 _ h4 (infoNum _) (by simp only [nums_size]) (tab_oneCell _ _ fun _ => rfl) ?_ | refine wpList_load_has 24 _ rfl _ rfl rfl 24 _ h2 _ Tryd.underlying24 rfl (infoNum _) ?_)
        refine (cB _).mono ?_
        rintro z w3 ⟨rfl, hx⟩
        replace h1 := h1.after hx; replace h2 := h2.after hx; replace h3 := h3.after hx; replace h4' := h4'.after hx; replace h5 := h5.after hx; replace hb := below_trans hb hx
        clear hx h4 cB
        go_wp2_with (first | refine wpList_load_has 24 _ rfl _ rfl rfl 24 _ h4' _ Tryd.underlying24 rfl (infoNum _) ?_ | refine wpList_load_has 24 _ rfl _ rfl rfl 24 _ h1 _ Tryd.underlying24 rfl (infoNum _) ?_)
        refine (cM _ h5).mono ?_
        rintro z w4 ⟨rfl, hx⟩
        replace h1 := h1.after hx; replace h2 := h2.after hx; replace h3 := h3.after hx; replace h4' := h4'.after hx; replace h5 := h5.after hx; replace hb := below_trans hb hx
        have h6 := h4'.setRow (nums y2)
        replace h1 := h1.farRow (k := w.heap.size + 1 + 1 + 1) (by omega) (nums y2)
        replace h2 := h2.farRow (k := w.heap.size + 1 + 1 + 1) (by omega) (nums y2)
        replace h3 := h3.farRow (k := w.heap.size + 1 + 1 + 1) (by omega) (nums y2)
        replace h5 := h5.farRow (k := w.heap.size + 1 + 1 + 1) (by omega) (nums y2)
        replace hb := below_setRow hb (g := w.heap.size + 1 + 1 + 1) (by omega) (nums y2)
        clear hx cM
        go_wp2_with (first | refine wpList_store_row rfl 24 _ _ rfl (w.heap.size + 1 + 1 + 1) _ rfl rfl 24 _ h4' (infoNum _) (by simp only [nums_size]) (tab_oneCell _ _ fun _ => rfl) ?_)
        go_roundw
        case rel => exact ⟨k + 1, by omega, by go_num, h1, h2, h3, by rw [← HF.out]; exact h6, h5, hg, hb⟩
        case measure => simp [intOf]; omega
    · have hk8 : k = 256 := by omega
      have dk : ¬ (k : Int) < 256 := by omega
      rw [hk8, HK.out.2] at h4
      clear hlt hk hk8 h1 h2
      go_wp2_with (first | refine wpList_load_has 24 _ rfl _ rfl rfl 24 _ h4 _ Tryd.underlying24 rfl (infoNum _) ?_ | refine wpList_store_row rfl 24 _ _ rfl (w.heap.size + 1 + 1) _ rfl rfl 24 _ h3 (infoNum _) (by simp only [nums_size]) (tab_oneCell _ _ fun _ => rfl) ?_)
      exact bodyPost_ret (v := .agg (nums x)) (results_cell_row rfl _ _ (w.heap.size + 1 + 1) 24 _ _ _ rfl (h3.setRow _) Tryd.underlying24 rfl (infoNum _)) rfl ⟨rfl, below_setRow hb (by omega) _⟩
end Go.Proofs.YtmgmfifkldpbmaaDoor
