/-
A region that draws its order and ends in no common operation: each operation once, in whatever order; then the walk behind it.
-/
import Derived.Test.YthaockngbagdhaaDoorFacts
namespace Go.Proofs.YthaockngbagdhaaDoor
open Go Go.RowKit

section
variable {P : Program} {Q : Exit → Act → World → Prop}
def allB (ops : Array Oper) : Bool :=
  (ops.toList.all fun o => o.guard.isNone) && distinctB ops.toList &&
  ((List.range ops.size).all fun i => match ops[i]? with
    | some o => o.after.toList.all fun e => !Region.binds .any e || decide (e.on < i)
    | none => true)
theorem ready_ne2 {ops : Array Oper} {listed : Array Bool} (hb : ∀ (i : Nat) o, ops[i]? = some o → ∀ e ∈ o.after, Region.binds .any e = true → e.on < i) (hsz : listed.size = ops.size) {i : Nat} (hi : i < ops.size) (hun : listed.getD i true = false) :
    Region.ready .any ops listed ≠ [] := by
  induction i using Nat.strongRecOn with
  | _ i ih =>
    obtain ⟨o, ho⟩ : ∃ o, ops[i]? = some o := ⟨ops[i]'(by omega), by simp⟩
    by_cases h : ∀ e ∈ o.after, Region.binds .any e = true → listed.getD e.on false = true
    · exact fun hr => by
        have : i ∈ Region.ready .any ops listed := mem_ready.2 ⟨hun, o, ho, h⟩
        rw [hr] at this
        cases this
    · have h3 : ∃ e ∈ o.after, Region.binds .any e = true ∧ listed.getD e.on false ≠ true := Classical.byContradiction fun hc' => h fun e he hbd => by
        cases hq : listed.getD e.on false with
        | true => rfl
        | false => exact absurd ⟨e, he, hbd, by rw [hq]; simp⟩ hc'
      obtain ⟨e, he, hbd, hne⟩ := h3
      have hlt := hb i o ho e he hbd
      exact ih e.on hlt (by omega) (getD_in (by rw [hsz]; omega) (by simpa using hne))
theorem any_of_all {l : List Oper} {a : Act} {w : World} (F : Nat → Value → World → Prop) (hB : allB l.toArray = true)
    (hst : ∀ i x w' w'', F i x w' → Below w'.heap.size w' w'' → F i x w'')
    (hstep : ∀ i o, l[i]? = some o → ∀ (v : Nat → Value) w', Below w.heap.size w w' → (∀ e ∈ o.after, Region.binds .any e = true → F e.on (v e.on) w') →
      ∀ K : Act → World → Prop, (∀ x w'', Below w'.heap.size w' w'' → F i x w'' → K ((putAll l v 0 a).put o.dst x) w'') → o.wp P (putAll l v 0 a) w' K Q)
    (hend : ∀ (v : Nat → Value) w', Below w.heap.size w w' → (∀ i, i < l.length → F i (v i) w') → Q .normal (putAll l v 0 a) w') :
    ∀ (f : Nat) (listed : Array Bool) (v : Nat → Value) (w' : World), listed.size = l.length → left listed l.length = f → Below w.heap.size w w' → (∀ i, i < l.length → listed.getD i false = true → F i (v i) w') →
      wpAny P .any l.toArray Q f listed (putAll l v 0 a) w' := by
  simp only [allB, Bool.and_eq_true] at hB
  obtain ⟨⟨hg, hd⟩, hback⟩ := hB
  have hgn : ∀ (i : Nat) o, l[i]? = some o → o.guard = none := fun i o ho => by
    have h1 := List.all_eq_true.1 hg o (List.mem_iff_getElem?.2 ⟨i, ho⟩)
    simpa using h1
  have hback' : ∀ (i : Nat) o, l.toArray[i]? = some o → ∀ e ∈ o.after, Region.binds .any e = true → e.on < i := fun i o ho e he hbd => by
    have hi : i < l.toArray.size := (Array.getElem?_eq_some_iff.1 ho).1
    have h1 := List.all_eq_true.1 hback i (List.mem_range.2 hi)
    rw [ho] at h1
    have h2 := List.all_eq_true.1 h1 e (by simpa using he)
    rw [hbd] at h2
    simpa using h2
  intro f
  induction f with
  | zero =>
    intro listed v w' hsz hl hb hF
    have hall := left_zero hl
    refine ⟨?_, hend v w' hb fun i hi => hF i hi (getD_of_true (hall i hi) (by omega))⟩
    cases hr : Region.ready .any l.toArray listed with
    | nil => rfl
    | cons i r =>
      have hi : i ∈ Region.ready .any l.toArray listed := by rw [hr]; exact List.mem_cons_self ..
      obtain ⟨hun, o, ho, _⟩ := mem_ready.1 hi
      have hil : i < l.length := by simpa using (Array.getElem?_eq_some_iff.1 ho).1
      rw [hall i hil] at hun
      cases hun
  | succ f ih =>
    intro listed v w' hsz hl hb hF
    have hex : ∃ i, i < l.length ∧ listed.getD i true = false := Classical.byContradiction fun hc' => by
      have : left listed l.length = 0 := by
        unfold left
        rw [List.countP_eq_zero]
        intro i hi
        cases hq : listed.getD i true with
        | true => simp
        | false => exact absurd ⟨i, by simpa using hi, hq⟩ hc'
      omega
    obtain ⟨i0, hi0, hun0⟩ := hex
    refine ⟨fun hempty => absurd hempty (ready_ne2 hback' (by simpa using hsz) (by simpa using hi0) hun0), fun i hr => ?_⟩
    obtain ⟨hun, o, ho, hall⟩ := mem_ready.1 hr
    have ho' : l[i]? = some o := by simpa using ho
    have hil : i < l.length := (List.getElem?_eq_some_iff.1 ho').1
    have hset := fun x => putAll_set l v 0 a i o x hd ho'
    unfold wpOp
    simp only [ho, Region.wanted, hgn i o ho', if_true]
    refine .inl (hstep i o ho' v w' hb (fun e he hbd => hF e.on (Nat.lt_trans (hback' i o ho e he hbd) hil) (hall e he hbd)) _ fun x w'' hb2 hFx => ?_)
    rw [hset x, Nat.zero_add]
    refine ih _ _ w'' (by simpa using hsz) (by have := left_set hil hun; omega) (hb.trans (hb2.mono hb.size)) fun j hj hlj => ?_
    unfold setAt
    by_cases hji : j = i
    · subst hji; rw [if_pos rfl]; exact hFx
    · rw [if_neg hji]
      rw [getD_set_ne false (Ne.symm hji)] at hlj
      exact hst j (v j) w' w'' (hF j hj hlj) hb2
def StepF (P : Program) (Q : Exit → Act → World → Prop) (F : Nat → Value → World → Prop) (l : List Oper) (a : Act) (w : World) (i : Nat) (o : Oper) : Prop :=
  ∀ (v : Nat → Value) w', Below w.heap.size w w' → (∀ e ∈ o.after, Region.binds .any e = true → F e.on (v e.on) w') →
    ∀ K : Act → World → Prop, (∀ x w'', Below w'.heap.size w' w'' → F i x w'' → K ((putAll l v 0 a).put o.dst x) w'') → o.wp P (putAll l v 0 a) w' K Q
def StepsF (P : Program) (Q : Exit → Act → World → Prop) (F : Nat → Value → World → Prop) (l : List Oper) (a : Act) (w : World) : List Oper → Nat → Prop
  | [], _ => True
  | o :: r, k => StepF P Q F l a w k o ∧ StepsF P Q F l a w r (k + 1)
theorem stepsF_at {F : Nat → Value → World → Prop} {l : List Oper} {a : Act} {w : World} : ∀ (r : List Oper) (k : Nat), StepsF P Q F l a w r k → ∀ i o, r[i]? = some o → StepF P Q F l a w (k + i) o
  | [], _, _, i, o, h => by simp at h
  | o' :: r, k, hs, i, o, h => by
    cases i with
    | zero =>
      obtain rfl : o' = o := by simpa using h
      exact hs.1
    | succ i =>
      have := stepsF_at r (k + 1) hs.2 i o (by simpa using h)
      rwa [show k + 1 + i = k + (i + 1) by omega] at this
theorem region_allF {id : Nat} {l : List Oper} {a : Act} {w : World} (F : Nat → Value → World → Prop) (hm : P.follows .mixedOrders = true) (hB : allB l.toArray = true)
    (hst : ∀ i x w' w'', F i x w' → Below w'.heap.size w' w'' → F i x w'') (hsteps : StepsF P Q F l a w l 0)
    (hend : ∀ (v : Nat → Value) w', Below w.heap.size w w' → (∀ i, i < l.length → F i (v i) w') → Q .normal (putAll l v 0 a) w') : (Code.region id l.toArray true).wp P Q a w := by
  refine wp_region_any hm ?_
  have key := any_of_all F hB hst (fun i o ho => by
      have := stepsF_at l 0 hsteps i o ho
      rw [Nat.zero_add] at this
      exact this) hend l.length (Array.replicate l.toArray.size false) (slotsOf l a) { w with drawn := w.drawn + 1 } (by simp)
    (by
      unfold left
      have : (List.range l.length).countP (fun i => !(Array.replicate l.toArray.size false).getD i true) = (List.range l.length).length := by
        rw [List.countP_eq_length]
        intro i hi
        have hin : i < l.length := by simpa using hi
        have h1 : (Array.replicate l.toArray.size false).getD i true = false := getD_in (by simpa using hin) (getD_replicate_false _ _)
        rw [h1]; rfl
      rw [this]; simp)
    ⟨rfl, rfl, rfl, Nat.le_refl _, fun _ _ => rfl⟩ (fun i hi hl => by rw [getD_replicate_false] at hl; cases hl)
  rw [putAll_slots l a (slotsOf l a) 0 (fun j o d ho hd => by unfold slotsOf; rw [Nat.zero_add, ho]; simp only [hd])] at key
  simpa using key
/-- what an operation of such a region yields: this value, or a slice over a row of its own -/
inductive YldA where
  | val (v : Value)
  | row (t : TypeId) (cs : Array Value) (len : Nat)
def YldA.fact (W : World) : YldA → Value → World → Prop
  | .val v, x, _ => x = v
  | .row t cs len, x, w => ∃ g, x = .slice (some ⟨g, 0, none⟩) len len ∧ W.heap.size ≤ g ∧ g < w.heap.size ∧ w.heap[g]? = some (.cells cs t (0, 0))
def yldA (W : World) (ks : List YldA) (i : Nat) (x : Value) (w : World) : Prop := match ks[i]? with
  | some k => k.fact W x w
  | none => True
theorem yldA_keep {W : World} {ks : List YldA} (i : Nat) (x : Value) (w' w'' : World) (h : yldA W ks i x w') (hb : Below w'.heap.size w' w'') : yldA W ks i x w'' := by
  unfold yldA at h ⊢
  split
  · rename_i k hk
    rw [hk] at h
    cases k with
    | val v => exact h
    | row t cs len =>
      obtain ⟨g, e, h1, h2, h3⟩ := h
      exact ⟨g, e, h1, Nat.lt_of_lt_of_le h2 hb.size, (hb.block g h2).trans h3⟩
  · trivial
end
end Go.Proofs.YthaockngbagdhaaDoor
