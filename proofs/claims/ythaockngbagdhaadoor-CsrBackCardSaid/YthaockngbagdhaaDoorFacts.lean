/-
A region that draws its order, whose operations up to a tail may read, call and make memory in any order, and leave what was there as it was: each gives a value of which a fact holds that lasts; then the tail, which comes in one order. Operations of no world ('floats') may come late.
-/
import Derived.StillTail
import Derived.WalkKit
import Derived.Laws.Rows
import Derived.Below
import Derived.KernelRfl
namespace Go.Proofs.YthaockngbagdhaaDoor
open Go Go.RowKit

section
variable {P : Program} {md : Region.Mode} {ops : Array Oper}

/-- the values v of the operations, put in their slots -/
def putAll : List Oper → (Nat → Value) → Nat → Act → Act
  | [], _, _, a => a
  | o :: r, v, k, a => putAll r v (k + 1) (a.put o.dst (v k))
def setAt (v : Nat → Value) (i : Nat) (x : Value) (j : Nat) : Value := if j = i then x else v j

theorem putAll_put (l : List Oper) : ∀ (v : Nat → Value) (k : Nat) (a : Act) (dst : Option Tmp) (x : Value), (∀ o ∈ l, ∀ d, dst = some d → o.dst ≠ some d) → (putAll l v k a).put dst x = putAll l v k (a.put dst x) := by
  induction l with
  | nil => intro v k a dst x _; rfl
  | cons o r ih =>
    intro v k a dst x h
    show (putAll r v (k + 1) (a.put o.dst (v k))).put dst x = putAll r v (k + 1) ((a.put dst x).put o.dst (v k))
    rw [ih _ _ _ _ _ fun o' ho' => h o' (List.mem_cons_of_mem _ ho')]
    rw [Act.put_comm a x (v k) (h o (List.mem_cons_self ..))]
theorem put_put (a : Act) (dst : Option Tmp) (x y : Value) : (a.put dst x).put dst y = a.put dst y := by
  cases dst with
  | none => rfl
  | some d => simp [Act.put]
theorem putAll_agree (l : List Oper) : ∀ (v u : Nat → Value) (k : Nat) (a : Act), (∀ j, k ≤ j → j < k + l.length → v j = u j) → putAll l v k a = putAll l u k a := by
  induction l with
  | nil => intro v u k a _; rfl
  | cons o r ih =>
    intro v u k a h
    show putAll r v (k + 1) (a.put o.dst (v k)) = putAll r u (k + 1) (a.put o.dst (u k))
    rw [h k (Nat.le_refl _) (by simp), ih v u _ _ fun j h1 h2 => h j (by omega) (by simp; omega)]
/-- the slots are different ones -/
def distinctB : List Oper → Bool
  | [] => true
  | o :: r => (match o.dst with | some d => r.all fun x => x.dst != some d | none => true) && distinctB r
theorem putAll_set (l : List Oper) : ∀ (v : Nat → Value) (k : Nat) (a : Act) (i : Nat) (o : Oper) (x : Value), distinctB l = true → l[i]? = some o → (putAll l v k a).put o.dst x = putAll l (setAt v (k + i) x) k a := by
  induction l with
  | nil => intro v k a i o x _ h; simp at h
  | cons o' r ih =>
    intro v k a i o x hd h
    simp only [distinctB, Bool.and_eq_true] at hd
    cases i with
    | zero =>
      obtain rfl : o' = o := by simpa using h
      have hne : ∀ o ∈ r, ∀ d, o'.dst = some d → o.dst ≠ some d := fun o ho d hdd => by
        have h1 := hd.1
        rw [hdd] at h1
        simp only [List.all_eq_true, bne_iff_ne] at h1
        exact h1 o ho
      show (putAll r v (k + 1) (a.put o'.dst (v k))).put o'.dst x = putAll r (setAt v (k + 0) x) (k + 1) (a.put o'.dst (setAt v (k + 0) x k))
      rw [putAll_put r v (k + 1) _ _ x hne, put_put]
      have e : setAt v (k + 0) x k = x := by simp [setAt]
      rw [e]
      exact putAll_agree r _ _ _ _ fun j h1 _ => by simp only [setAt]; rw [if_neg (by omega)]
    | succ i =>
      have h' : r[i]? = some o := by simpa using h
      show (putAll r v (k + 1) (a.put o'.dst (v k))).put o.dst x = putAll r (setAt v (k + (i + 1)) x) (k + 1) (a.put o'.dst (setAt v (k + (i + 1)) x k))
      rw [ih v (k + 1) _ i o x hd.2 h']
      have e : setAt v (k + (i + 1)) x k = v k := by simp only [setAt]; rw [if_neg (by omega)]
      have e2 : k + (i + 1) = k + 1 + i := by omega
      rw [e, e2]
/-- what lies in the slots -/
def slotsOf (l : List Oper) (a : Act) (j : Nat) : Value := match l[j]? with
  | some o => match o.dst with
    | some d => a.tmps.getD d undef
    | none => undef
  | none => undef
theorem put_same (a : Act) (d : Tmp) : a.put (some d) (a.tmps.getD d undef) = a := by
  have e : a.tmps.setIfInBounds d (a.tmps.getD d undef) = a.tmps := by
    apply Array.ext
    · simp
    · intro i h1 h2
      rw [Array.getElem_setIfInBounds (by simpa using h2)]
      by_cases h : d = i
      · subst h; simp [h2]
      · rw [if_neg h]
  show { a with tmps := a.tmps.setIfInBounds d (a.tmps.getD d undef) } = a
  rw [e]
theorem putAll_slots (l : List Oper) (a : Act) : ∀ (v : Nat → Value) (k : Nat), (∀ j o d, l[j]? = some o → o.dst = some d → v (k + j) = a.tmps.getD d undef) → putAll l v k a = a := by
  induction l with
  | nil => intro v k _; rfl
  | cons o r ih =>
    intro v k h
    show putAll r v (k + 1) (a.put o.dst (v k)) = a
    have e : a.put o.dst (v k) = a := by
      cases hd : o.dst with
      | none => rfl
      | some d =>
        have := h 0 o d rfl hd
        rw [Nat.add_zero] at this
        rw [this, put_same]
    rw [e]
    exact ih v (k + 1) fun j o' d ho hd => by rw [show k + 1 + j = k + (j + 1) by omega]; exact h (j + 1) o' d (by simpa using ho) hd

def headDone (n m : Nat) : Array Bool := ((List.range m).map fun j => decide (j < n)).toArray
/-- what is asked of the region's edges -/
def factsB (md : Region.Mode) (ops : Array Oper) (n : Nat) (fl : List Nat) : Bool :=
  Region.noSelect ops && decide (n < ops.size) && ((ops.toList.take n).all fun o => o.guard.isNone) && distinctB (ops.toList.take n) &&
  ((List.range n).all fun i => fl.contains i || (List.range (n + 1)).any fun j => decide (i < j) && !fl.contains j && Region.waitsFor md ops j i) && Region.chainB md ops n &&
  (fl.all fun i => decide (i < n) && (match ops[i]? with
    | some o => (o.after.toList.all fun e => !Region.binds md e || (decide (e.on < n) && !fl.contains e.on)) && (List.range ops.size).all fun j => j == i || Region.waitsFor md ops j i || Region.waitsFor md ops i j || (match ops[j]? with
      | some oj => o.apart ops oj
      | none => true)
    | none => false)) &&
  Region.seqB md ops (ops.size - n) n (headDone n ops.size) &&
  ((List.range n).all fun i => match ops[i]? with
    | some o => o.after.toList.all fun e => !Region.binds md e || decide (e.on < i)
    | none => true)

theorem tail_waits2 {n : Nat} {fl : List Nat} {listed : Array Bool}
    (hs : ∀ i, i < n → fl.contains i = false → ∃ j, i < j ∧ j ≤ n ∧ fl.contains j = false ∧ Region.waitsFor md ops j i = true) (hc : Region.chainB md ops n = true) (hn : n < ops.size) (inv : HeadInv md ops n listed) :
    ∀ (d i : Nat), n - i = d → i < n → fl.contains i = false → listed.getD i true = false → ∀ t, n ≤ t → t ∉ Region.ready md ops listed := by
  intro d
  induction d using Nat.strongRecOn with
  | _ d ih =>
    intro i hd hi hfl hun t ht hr
    obtain ⟨_, ot, hot, hall⟩ := mem_ready.1 hr
    have htlt : t < ops.size := (Array.getElem?_eq_some_iff.1 hot).1
    by_cases htn : t = n
    · subst htn
      obtain ⟨j, hij, hjle, hjf, hw⟩ := hs i hi hfl
      obtain ⟨oj, hoj, e, he, hb, hon⟩ := Region.waitsFor_spec hw
      by_cases hjt : j = t
      · subst hjt
        have : oj = ot := Option.some.inj (hoj.symm.trans hot)
        subst this
        have h2 := hall e he hb
        rw [hon, getD_both hun] at h2
        cases h2
      · cases hl : listed.getD j false with
        | true =>
          have h2 := inv.closed j oj hoj hl e he hb
          rw [hon, getD_both hun] at h2
          cases h2
        | false =>
          have hjs : j < listed.size := by rw [inv.size]; omega
          exact ih (t - j) (by omega) j rfl (by omega) hjf (getD_in hjs hl) t (Nat.le_refl _) hr
    · have h1 := List.all_eq_true.1 hc t (List.mem_range.2 htlt)
      simp only [Bool.or_eq_true, decide_eq_true_eq] at h1
      rcases h1 with h1 | h1
      · omega
      · obtain ⟨o', ho', e, he, hb, hon⟩ := Region.waitsFor_spec h1
        have : o' = ot := Option.some.inj (ho'.symm.trans hot)
        subst this
        have h2 := hall e he hb
        rw [hon, getD_both (inv.tail (t - 1) (by omega) (by omega))] at h2
        cases h2

theorem getD_of_true {listed : Array Bool} {i : Nat} (h : listed.getD i true = true) (hi : i < listed.size) : listed.getD i false = true := by
  simp [hi] at h ⊢; exact h
/-- while not all are done, one may be next -/
theorem ready_ne {n : Nat} {listed : Array Bool} (hb : ∀ i o, ops[i]? = some o → i < n → ∀ e ∈ o.after, Region.binds md e = true → e.on < i) (hn : n < ops.size) (inv : HeadInv md ops n listed) {i : Nat} (hi : i < n) (hun : listed.getD i true = false) :
    Region.ready md ops listed ≠ [] := by
  induction i using Nat.strongRecOn with
  | _ i ih =>
    obtain ⟨o, ho⟩ : ∃ o, ops[i]? = some o := ⟨ops[i]'(by omega), by simp⟩
    by_cases h : ∀ e ∈ o.after, Region.binds md e = true → listed.getD e.on false = true
    · exact fun hr => by
        have : i ∈ Region.ready md ops listed := mem_ready.2 ⟨hun, o, ho, h⟩
        rw [hr] at this
        cases this
    · have h3 : ∃ e ∈ o.after, Region.binds md e = true ∧ listed.getD e.on false ≠ true := Classical.byContradiction fun hc' => h fun e he hbd => by
        cases hq : listed.getD e.on false with
        | true => rfl
        | false => exact absurd ⟨e, he, hbd, by rw [hq]; simp⟩ hc'
      obtain ⟨e, he, hbd, hne⟩ := h3
      have hlt := hb i o ho hi e he hbd
      exact ih e.on hlt (by omega) (getD_in (by rw [inv.size]; omega) (by simpa using hne))

/-- how many of the first n are not yet done -/
def left (listed : Array Bool) (n : Nat) : Nat := (List.range n).countP fun i => !listed.getD i true
theorem countP_one {p q : Nat → Bool} {i : Nat} (hp : p i = true) (hq : q i = false) (hne : ∀ j, j ≠ i → q j = p j) : ∀ (L : List Nat), L.Nodup → i ∈ L → L.countP q + 1 = L.countP p
  | [], _, h => by simp at h
  | x :: L, hnd, h => by
    rw [List.nodup_cons] at hnd
    by_cases hx : x = i
    · subst hx
      have e : L.countP q = L.countP p := List.countP_congr fun j hj => by
        have : j ≠ x := fun e => hnd.1 (e ▸ hj)
        rw [hne j this]
      rw [List.countP_cons, List.countP_cons, hp, hq, e]
      simp
    · have hm : i ∈ L := by
        rcases List.mem_cons.1 h with h | h
        · exact absurd h.symm hx
        · exact h
      have := countP_one hp hq hne L hnd.2 hm
      rw [List.countP_cons, List.countP_cons, hne x hx]
      omega
theorem left_set {listed : Array Bool} {n i : Nat} (hi : i < n) (hun : listed.getD i true = false) : left (listed.setIfInBounds i true) n + 1 = left listed n := by
  unfold left
  refine countP_one (i := i) (by rw [hun]; rfl) ?_ (fun j hj => by rw [getD_set_ne true (Ne.symm hj)]) _ List.nodup_range (by simpa using hi)
  have hlt : i < listed.size := by
    rcases Nat.lt_or_ge i listed.size with h | h
    · exact h
    · simp [Array.getElem?_eq_none h] at hun
  simp [hlt]
theorem left_zero {listed : Array Bool} {n : Nat} (h : left listed n = 0) : ∀ i, i < n → listed.getD i true = true := fun i hi => by
  unfold left at h
  rw [List.countP_eq_zero] at h
  have := h i (by simpa using hi)
  simpa using this
end

section
variable {P : Program} {Q : Exit → Act → World → Prop}
theorem any_of_facts {l : List Oper} {n : Nat} {fl : List Nat} {a : Act} {w : World} (F : Nat → Value → World → Prop) (D : Nat → Nat → Value → Value → Prop) (hB : factsB .any l.toArray n fl = true)
    (hQ : ∀ c a (t : Tmp) x w, Q (.panic c) (a.put (some t) x) w → Q (.panic c) a w)
    (hst : ∀ i x w' w'', F i x w' → Below w'.heap.size w' w'' → F i x w'')
    (hstep : ∀ i o, l[i]? = some o → i < n → fl.contains i = false → ∀ (v : Nat → Value) w', Below w.heap.size w w' → (∀ e ∈ o.after, Region.binds .any e = true → F e.on (v e.on) w') →
      ∀ K : Act → World → Prop, (∀ x w'', Below w'.heap.size w' w'' → F i x w'' → (∀ j y, j ≠ i → F j y w' → D i j x y ∧ D j i y x) → K ((putAll (l.take n) v 0 a).put o.dst x) w'') → o.wp P (putAll (l.take n) v 0 a) w' K Q)
    (hfloat : ∀ i o, l[i]? = some o → i < n → fl.contains i = true → ∀ (v : Nat → Value), (∀ e ∈ o.after, Region.binds .any e = true → ∃ w', Below w.heap.size w w' ∧ F e.on (v e.on) w') →
      ∃ x, (∀ w', (execOp (putAll (l.take n) v 0 a).eval o).run P w' = .ok (.value x) w') ∧ (∀ w', F i x w') ∧ ∀ j y, D i j x y ∧ D j i y x)
    (htail : ∀ (v : Nat → Value) w', Below w.heap.size w w' → (∀ i, i < n → F i (v i) w') → (∀ i j, i < n → j < n → i ≠ j → D i j (v i) (v j)) → wpList P l.toArray Q (l.drop n) (putAll (l.take n) v 0 a) w') :
    ∀ (f : Nat) (listed : Array Bool) (v : Nat → Value) (w' : World), HeadInv .any l.toArray n listed → left listed n = f → Below w.heap.size w w' → (∀ i, i < n → listed.getD i false = true → F i (v i) w') → (∀ i j, i < n → j < n → listed.getD i false = true → listed.getD j false = true → i ≠ j → D i j (v i) (v j)) →
      wpAny P .any l.toArray Q (f + (l.length - n)) listed (putAll (l.take n) v 0 a) w' := by
  simp only [factsB, Bool.and_eq_true, decide_eq_true_eq] at hB
  obtain ⟨⟨⟨⟨⟨⟨⟨⟨hsel, hn⟩, hg⟩, hd⟩, hs⟩, hc⟩, hf⟩, hseq⟩, hback⟩ := hB
  have hn' : n < l.length := by simpa using hn
  have hd' : distinctB (l.take n) = true := by simpa using hd
  have hgn : ∀ i o, l[i]? = some o → i < n → o.guard = none := fun i o ho hi => by
    have h1 := List.all_eq_true.1 hg o (List.mem_iff_getElem?.2 ⟨i, by simpa [hi] using ho⟩)
    simpa using h1
  have hs' : ∀ i, i < n → fl.contains i = false → ∃ j, i < j ∧ j ≤ n ∧ fl.contains j = false ∧ Region.waitsFor .any l.toArray j i = true := fun i hi hfi => by
    have h1 := List.all_eq_true.1 hs i (List.mem_range.2 hi)
    rw [hfi, Bool.false_or] at h1
    obtain ⟨j, hj, hj2⟩ := List.any_eq_true.1 h1
    simp only [Bool.and_eq_true, decide_eq_true_eq, Bool.not_eq_true'] at hj2
    exact ⟨j, hj2.1.1, by have := List.mem_range.1 hj; omega, hj2.1.2, hj2.2⟩
  have hfl : ∀ i, fl.contains i = true → ∃ o, l[i]? = some o ∧ i < n ∧ (∀ e ∈ o.after, Region.binds .any e = true → e.on < n ∧ fl.contains e.on = false) ∧
      ∀ (j : Nat) oj, l[j]? = some oj → j ≠ i → (Region.waitsFor .any l.toArray j i = true ∨ Region.waitsFor .any l.toArray i j = true) ∨ o.apart l.toArray oj = true := fun i hi => by
    have h1 := List.all_eq_true.1 hf i (by simpa using hi)
    simp only [Bool.and_eq_true, decide_eq_true_eq] at h1
    obtain ⟨hin, h2⟩ := h1
    cases ho : l[i]? with
    | none => simp [ho] at h2
    | some o =>
      simp only [List.getElem?_toArray, ho, Bool.and_eq_true] at h2
      refine ⟨o, rfl, hin, fun e he hb => ?_, fun j oj hj hne => ?_⟩
      · have h3 := List.all_eq_true.1 h2.1 e (by simpa using he)
        rw [hb] at h3
        simpa using h3
      · have hjlt : j < l.length := (List.getElem?_eq_some_iff.1 hj).1
        have h3 := List.all_eq_true.1 h2.2 j (by simpa using hjlt)
        simp only [hj, Bool.or_eq_true, beq_iff_eq, hne, false_or] at h3
        exact h3
  have hback' : ∀ i o, l.toArray[i]? = some o → i < n → ∀ e ∈ o.after, Region.binds .any e = true → e.on < i := fun i o ho hi e he hbd => by
    have h1 := List.all_eq_true.1 hback i (List.mem_range.2 hi)
    rw [ho] at h1
    have h2 := List.all_eq_true.1 h1 e (by simpa using he)
    rw [hbd] at h2
    simpa using h2
  intro f
  induction f with
  | zero =>
    intro listed v w' inv hl hb hF hD
    have hall := left_zero hl
    have hlist : listed = headDone n l.toArray.size := by
      apply Array.ext_getElem?
      intro j
      unfold headDone
      by_cases hj : j < l.toArray.size
      · have hjs : j < listed.size := by rw [inv.size]; exact hj
        rw [Array.getElem?_eq_getElem hjs]
        have e : (((List.range l.toArray.size).map fun j => decide (j < n)).toArray)[j]? = some (decide (j < n)) := by rw [List.getElem?_toArray, List.getElem?_map, List.getElem?_range hj]; rfl
        rw [e]
        congr 1
        by_cases hjn : j < n
        · have h1 := hall j hjn
          rw [Array.getD_eq_getD_getElem?, Array.getElem?_eq_getElem hjs] at h1
          simpa [hjn] using h1
        · have h1 := inv.tail j (by omega) hj
          rw [Array.getD_eq_getD_getElem?, Array.getElem?_eq_getElem hjs] at h1
          simpa [hjn] using h1
      · rw [Array.getElem?_eq_none (by rw [inv.size]; omega), Array.getElem?_eq_none (by simpa using hj)]
    have hF' : ∀ i, i < n → F i (v i) w' := fun i hi => hF i hi (getD_of_true (hall i hi) (by rw [inv.size]; omega))
    have hD' : ∀ i j, i < n → j < n → i ≠ j → D i j (v i) (v j) := fun i j hi hj hne => hD i j hi hj (getD_of_true (hall i hi) (by rw [inv.size]; omega)) (getD_of_true (hall j hj) (by rw [inv.size]; omega)) hne
    have := wpAny_of_seq (md := .any) (Q' := Q) (ops := l.toArray) (l.drop n) n listed (putAll (l.take n) v 0 a) w' (fun j => by simp [List.getElem?_drop])
      (by rw [hlist]; simpa using hseq) (htail v w' hb hF' hD')
    simpa using this
  | succ f ih =>
    intro listed v w' inv hl hb hF hD
    rw [show f + 1 + (l.length - n) = (f + (l.length - n)) + 1 by omega]
    by_cases hA : ∃ i, fl.contains i = true ∧ i ∈ Region.ready .any l.toArray listed
    · obtain ⟨i, hfi, hr⟩ := hA
      obtain ⟨o, ho, hin, hedge, hap⟩ := hfl i hfi
      obtain ⟨hun, o', ho', hall⟩ := mem_ready.1 hr
      obtain rfl : o' = o := Option.some.inj ((by simpa using ho' : l[i]? = some o').symm.trans ho)
      obtain ⟨x, hx, hFx, hDx⟩ := hfloat i o' ho hin hfi v fun e he hbd => ⟨w', hb, hF e.on (hedge e he hbd).1 (hall e he hbd)⟩
      have hset := putAll_set (l.take n) v 0 a i o' x hd' (by simpa [hin] using ho)
      rw [Nat.zero_add] at hset
      refine wpAny_first (ops := l.toArray) (by simpa using ho) (Region.noSelect_spec hsel) (fun c a1 w1 h => by
        cases hdst : o'.dst with
        | none => rw [hdst] at h; exact h
        | some t => rw [hdst] at h; exact hQ c a1 t x w1 h) _ listed _ w' (fun j oj hj hne hunj hno => ?_) hr (.inl ⟨by simp [Region.wanted, hgn i o' ho hin], hx⟩) ?_
      · rcases hap j oj (by simpa using hj) hne with (h1 | h1) | h1
        · obtain ⟨oj', hoj', e, he, hbd, hon⟩ := Region.waitsFor_spec h1
          obtain rfl : oj' = oj := Option.some.inj (hoj'.symm.trans hj)
          exact absurd hon (hno e he hbd)
        · obtain ⟨oi', hoi', e, he, hbd, hon⟩ := Region.waitsFor_spec h1
          obtain rfl : oi' = o' := Option.some.inj (hoi'.symm.trans (by simpa using ho))
          have h2 := hall e he hbd
          rw [hon, getD_both hunj] at h2
          cases h2
        · exact h1
      · rw [hset]
        refine ih _ _ w' (inv.set hr hin) (by have := left_set hin hun; omega) hb (fun j hj hlj => ?_) fun j k hj hk hlj hlk hjk => ?_
        · unfold setAt
          by_cases hji : j = i
          · subst hji; rw [if_pos rfl]; exact hFx w'
          · rw [if_neg hji]
            rw [getD_set_ne false (Ne.symm hji)] at hlj
            exact hF j hj hlj
        · unfold setAt
          by_cases hji : j = i
          · rw [if_pos hji, if_neg (by omega), hji]; exact (hDx k (v k)).1
          · rw [if_neg hji]
            by_cases hki : k = i
            · rw [if_pos hki, hki]; exact (hDx j (v j)).2
            · rw [if_neg hki]
              rw [getD_set_ne false (Ne.symm hji)] at hlj
              rw [getD_set_ne false (Ne.symm hki)] at hlk
              exact hD j k hj hk hlj hlk hjk
    · have hex : ∃ i, i < n ∧ fl.contains i = false ∧ listed.getD i true = false := by
        have h1 : ¬ ∀ i, i < n → listed.getD i true = true := fun hall => by
          have : left listed n = 0 := by
            unfold left
            rw [List.countP_eq_zero]
            intro i hi
            have := hall i (by simpa using hi)
            simpa using this
          omega
        have h2 : ∃ i, i < n ∧ listed.getD i true = false := Classical.byContradiction fun hc' => h1 fun i hi => by
          cases hq : listed.getD i true with
          | true => rfl
          | false => exact absurd ⟨i, hi, hq⟩ hc'
        obtain ⟨i, hi, hun⟩ := h2
        cases hfi : fl.contains i with
        | false => exact ⟨i, hi, hfi, hun⟩
        | true =>
          obtain ⟨o, ho, _, hedge, _⟩ := hfl i hfi
          have hnr : i ∉ Region.ready .any l.toArray listed := fun h => hA ⟨i, hfi, h⟩
          have h3 : ∃ e ∈ o.after, Region.binds .any e = true ∧ listed.getD e.on false ≠ true := Classical.byContradiction fun hc' => hnr (mem_ready.2 ⟨hun, o, by simpa using ho, fun e he hbd => by
            cases hq : listed.getD e.on false with
            | true => rfl
            | false => exact absurd ⟨e, he, hbd, by rw [hq]; simp⟩ hc'⟩)
          obtain ⟨e, he, hbd, hne⟩ := h3
          obtain ⟨h4, h5⟩ := hedge e he hbd
          exact ⟨e.on, h4, h5, getD_in (by rw [inv.size]; simp; omega) (by simpa using hne)⟩
      obtain ⟨i0, hi0, hfi0, hun0⟩ := hex
      have hwait := tail_waits2 hs' hc hn inv _ i0 rfl hi0 hfi0 hun0
      refine ⟨fun hempty => ?_, fun i hr => ?_⟩
      · exact absurd hempty (ready_ne hback' hn inv hi0 hun0)
      · have hin : i < n := by
          rcases Nat.lt_or_ge i n with h | h
          · exact h
          · exact absurd hr (hwait i h)
        have hfi : fl.contains i = false := by
          cases hq : fl.contains i with
          | false => rfl
          | true => exact absurd ⟨i, hq, hr⟩ hA
        obtain ⟨hun, o, ho, hall⟩ := mem_ready.1 hr
        have ho' : l[i]? = some o := by simpa using ho
        have hset := fun x => putAll_set (l.take n) v 0 a i o x hd' (by simpa [hin] using ho')
        have hnot : ∀ e ∈ o.after, Region.binds .any e = true → e.on < n := fun e he hbd => by
          rcases Nat.lt_or_ge e.on n with h | h
          · exact h
          · have h1 := hall e he hbd
            by_cases h2 : e.on < l.toArray.size
            · rw [getD_both (inv.tail e.on h h2)] at h1; cases h1
            · rw [Array.getD_eq_getD_getElem?, Array.getElem?_eq_none (by rw [inv.size]; omega)] at h1; simp at h1
        unfold wpOp
        simp only [ho, Region.wanted, hgn i o ho' hin, if_true]
        refine .inl (hstep i o ho' hin hfi v w' hb (fun e he hbd => hF e.on (hnot e he hbd) (hall e he hbd)) _ fun x w'' hb2 hFx hDx => ?_)
        rw [hset x, Nat.zero_add]
        refine ih _ _ w'' (inv.set hr hin) (by have := left_set hin hun; omega) (hb.trans (hb2.mono hb.size)) (fun j hj hlj => ?_) fun j k hj hk hlj hlk hjk => ?_
        · unfold setAt
          by_cases hji : j = i
          · subst hji; rw [if_pos rfl]; exact hFx
          · rw [if_neg hji]
            rw [getD_set_ne false (Ne.symm hji)] at hlj
            exact hst j (v j) w' w'' (hF j hj hlj) hb2
        · unfold setAt
          by_cases hji : j = i
          · rw [getD_set_ne false (show i ≠ k by omega)] at hlk
            rw [if_pos hji, if_neg (by omega), hji]; exact (hDx k (v k) (by omega) (hF k hk hlk)).1
          · rw [if_neg hji]
            rw [getD_set_ne false (Ne.symm hji)] at hlj
            by_cases hki : k = i
            · rw [if_pos hki, hki]; exact (hDx j (v j) hji (hF j hj hlj)).2
            · rw [if_neg hki]
              rw [getD_set_ne false (Ne.symm hki)] at hlk
              exact hD j k hj hk hlj hlk hjk
/-- what an operation of such a region yields: this value, or a block of its own that holds these cells -/
inductive Yld where
  | val (v : Value)
  | new (t : TypeId) (cs : Array Value)
def Yld.fact (W : World) : Yld → Value → World → Prop
  | .val v, x, _ => x = v
  | .new t cs, x, w => ∃ g, x = .pointer (some ⟨g, 0, none⟩) ∧ W.heap.size ≤ g ∧ g < w.heap.size ∧ w.heap[g]? = some (.cells cs t (0, 0))
def yldAt (W : World) (ks : List Yld) (i : Nat) (x : Value) (w : World) : Prop := match ks[i]? with
  | some k => k.fact W x w
  | none => True
def isNew (ks : List Yld) (i : Nat) : Bool := match ks[i]? with
  | some (.new _ _) => true
  | _ => false
theorem yld_keep {W : World} (k : Yld) (x : Value) (w' w'' : World) (h : k.fact W x w') (hb : Below w'.heap.size w' w'') : k.fact W x w'' := by
  cases k with
  | val v => exact h
  | new t cs =>
    obtain ⟨g, e, h1, h2, h3⟩ := h
    exact ⟨g, e, h1, Nat.lt_of_lt_of_le h2 hb.size, (hb.block g h2).trans h3⟩
/-- an operation's step -/
def StepAt (P : Program) (Q : Exit → Act → World → Prop) (ks : List Yld) (fl : List Nat) (l : List Oper) (a : Act) (w : World) (i : Nat) (o : Oper) : Yld → Prop
  | .val x => if fl.contains i = true
    then ∀ (v : Nat → Value), (∀ e ∈ o.after, Region.binds .any e = true → ∃ w', yldAt w ks e.on (v e.on) w') → ∀ w', (execOp (putAll l v 0 a).eval o).run P w' = .ok (.value x) w'
    else ∀ (v : Nat → Value) w', Below w.heap.size w w' → (∀ e ∈ o.after, Region.binds .any e = true → yldAt w ks e.on (v e.on) w') →
      ∀ K : Act → World → Prop, (∀ w'', Below w'.heap.size w' w'' → K ((putAll l v 0 a).put o.dst x) w'') → o.wp P (putAll l v 0 a) w' K Q
  | .new t cs => fl.contains i = false ∧ o.op = .alloc t ∧ ∀ w, (zeroValue t).run P w = .ok (.agg cs) w
/-- each operation's step, one after the other -/
def StepsOK (P : Program) (Q : Exit → Act → World → Prop) (ks : List Yld) (fl : List Nat) (l : List Oper) (a : Act) (w : World) : List Oper → List Yld → Nat → Prop
  | [], [], _ => True
  | o :: r, k :: kr, i => StepAt P Q ks fl l a w i o k ∧ StepsOK P Q ks fl l a w r kr (i + 1)
  | _, _, _ => False
theorem stepsOK_at {ks : List Yld} {fl : List Nat} {l : List Oper} {a : Act} {w : World} : ∀ (r : List Oper) (kr : List Yld) (k : Nat), StepsOK P Q ks fl l a w r kr k → ∀ i o, r[i]? = some o →
    ∃ y, kr[i]? = some y ∧ StepAt P Q ks fl l a w (k + i) o y
  | [], _, _, _, i, o, h => by simp at h
  | _ :: _, [], _, hs, _, _, _ => by cases hs
  | o' :: r, y :: kr, k, hs, i, o, h => by
    cases i with
    | zero =>
      obtain rfl : o' = o := by simpa using h
      exact ⟨y, rfl, hs.1⟩
    | succ i =>
      obtain ⟨y', h1, h2⟩ := stepsOK_at r kr (k + 1) hs.2 i o (by simpa using h)
      rw [show k + 1 + i = k + (i + 1) by omega] at h2
      exact ⟨y', by simpa using h1, h2⟩
theorem wp_alloc_new {o : Oper} {a : Act} {w : World} {K : Act → World → Prop} (t : TypeId) (cs : Array Value) (ho : o.op = .alloc t) (hz : ∀ w, (zeroValue t).run P w = .ok (.agg cs) w)
    (h : K (a.put o.dst (.pointer (some ⟨w.heap.size, 0, none⟩))) (w.alloc (.cells cs t))) : o.wp P a w K Q := by
  unfold Oper.wp execOp
  simp only [ho]
  go_simp
  exact h
/-- the region's wp -/
theorem region_facts {id : Nat} {l : List Oper} {a : Act} {w : World} (n : Nat) (fl : List Nat) (ks : List Yld) (hm : P.follows .mixedOrders = true) (hB : factsB .any l.toArray n fl = true)
    (hQ : ∀ c a (t : Tmp) x w, Q (.panic c) (a.put (some t) x) w → Q (.panic c) a w)
    (hsteps : StepsOK P Q ks fl (l.take n) a w (l.take n) ks 0)
    (htail : ∀ (v : Nat → Value) w', Below w.heap.size w w' → (∀ i, i < n → yldAt w ks i (v i) w') → (∀ i j, i < n → j < n → i ≠ j → isNew ks i = true → isNew ks j = true → v i ≠ v j) →
      wpList P l.toArray Q (l.drop n) (putAll (l.take n) v 0 a) w') : (Code.region id l.toArray true).wp P Q a w := by
  have hn : n < l.length := by
    have h := hB
    simp only [factsB, Bool.and_eq_true, decide_eq_true_eq] at h
    simpa using h.1.1.1.1.1.1.1.2
  refine wp_region_any hm ?_
  have key := any_of_facts (yldAt w ks) (fun i j x y => isNew ks i = true → isNew ks j = true → x ≠ y) hB hQ
    (fun i x w' w'' h hb => by
      unfold yldAt at h ⊢
      split
      · rename_i k hk
        rw [hk] at h
        exact yld_keep k x w' w'' h hb
      · trivial)
    (fun i o ho hi hfi v w' hb hf K hK => by
      obtain ⟨y, hy, hs⟩ := stepsOK_at _ _ _ hsteps i o (by simpa [hi] using ho)
      rw [Nat.zero_add] at hs
      cases y with
      | val x =>
        simp only [StepAt] at hs
        rw [if_neg (by rw [hfi]; simp)] at hs
        refine hs v w' hb hf K fun w'' hb2 => hK x w'' hb2 (by unfold yldAt; rw [hy]; rfl) fun j y _ _ => ⟨fun h => ?_, fun _ h => ?_⟩
        · unfold isNew at h; rw [hy] at h; cases h
        · unfold isNew at h; rw [hy] at h; cases h
      | new t cs =>
        obtain ⟨_, hop, hz⟩ := hs
        refine wp_alloc_new t cs hop hz (hK _ _ ((Below.refl _ _).alloc (Nat.le_refl _) _) (by unfold yldAt; rw [hy]; exact ⟨w'.heap.size, rfl, hb.size, by simp, heap_alloc_new w' _⟩) fun j y _ hj => ?_)
        have hne : isNew ks j = true → Value.pointer (some ⟨w'.heap.size, 0, none⟩) ≠ y := fun hnw e => by
          unfold isNew at hnw
          unfold yldAt at hj
          split at hnw
          · rename_i t' cs' hk
            rw [hk] at hj
            obtain ⟨g, e1, _, h2, _⟩ := hj
            rw [← e] at e1
            injection e1 with e1
            injection e1 with e1
            injection e1 with e1
            omega
          · cases hnw
        exact ⟨fun _ h => hne h, fun h _ e => hne h e.symm⟩)
    (fun i o ho hi hfi v hf => by
      obtain ⟨y, hy, hs⟩ := stepsOK_at _ _ _ hsteps i o (by simpa [hi] using ho)
      rw [Nat.zero_add] at hs
      cases y with
      | val x =>
        simp only [StepAt] at hs
        rw [if_pos hfi] at hs
        refine ⟨x, hs v (fun e he hb => ?_), fun w' => by unfold yldAt; rw [hy]; rfl, fun j y => ⟨fun h => ?_, fun _ h => ?_⟩⟩
        · obtain ⟨w', _, h⟩ := hf e he hb
          exact ⟨w', h⟩
        · unfold isNew at h; rw [hy] at h; cases h
        · unfold isNew at h; rw [hy] at h; cases h
      | new t cs => rw [hs.1] at hfi; cases hfi) htail n (Array.replicate l.toArray.size false) (slotsOf (l.take n) a) { w with drawn := w.drawn + 1 }
    ⟨by simp, fun j oj _ hl => (by rw [getD_replicate_false] at hl; cases hl), fun t _ ht => getD_in (by simpa using ht) (getD_replicate_false _ _)⟩
    (by
      unfold left
      have : (List.range n).countP (fun i => !(Array.replicate l.toArray.size false).getD i true) = (List.range n).length := by
        rw [List.countP_eq_length]
        intro i hi
        have hin : i < n := by simpa using hi
        have h1 : (Array.replicate l.toArray.size false).getD i true = false := getD_in (by simp; omega) (getD_replicate_false _ _)
        rw [h1]; rfl
      rw [this]; simp)
    ⟨rfl, rfl, rfl, Nat.le_refl _, fun _ _ => rfl⟩ (fun i hi hl => by rw [getD_replicate_false] at hl; cases hl) (fun i j _ _ hl => by rw [getD_replicate_false] at hl; cases hl)
  rw [putAll_slots (l.take n) a (slotsOf (l.take n) a) 0 (fun j o d ho hd => by unfold slotsOf; rw [Nat.zero_add, ho]; simp only [hd])] at key
  rw [show n + (l.length - n) = l.toArray.size by simp; omega] at key
  exact key
/-- a call, by its contract -/
theorem wp_call_fn {o : Oper} {a : Act} {w : World} {K : Act → World → Prop} (fn : FuncId) (args : Array Value) (hrun : (execOp a.eval o).run P w = .ok (.enter fn args) w)
    (hc : Calls P fn args w fun e w'' => ∃ x, e = .returned x ∧ K (a.put o.dst x) w'') : o.wp P a w K Q := by
  unfold Oper.wp
  rw [hrun]
  simp only [Oper.upon]
  refine hc.mono ?_
  rintro e w'' ⟨x, rfl, h⟩
  exact h
end
end Go.Proofs.YthaockngbagdhaaDoor
