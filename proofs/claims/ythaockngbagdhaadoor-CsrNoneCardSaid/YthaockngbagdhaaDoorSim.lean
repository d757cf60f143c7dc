/-
A region that draws its order, each operation once, in whatever order: facts of what has come up, facts of what is still to come, and what each operation that writes does to the world.
-/
import Derived.Test.YthaockngbagdhaaDoorFactsA
namespace Go.Proofs.YthaockngbagdhaaDoor
open Go Go.RowKit

section
variable {P : Program} {Q : Exit → Act → World → Prop}
theorem putAll_far (l : List Oper) (d : Tmp) : ∀ (v : Nat → Value) (k : Nat) (a : Act), (∀ o ∈ l, o.dst ≠ some d) → (putAll l v k a).tmps[d]? = a.tmps[d]? := by
  induction l with
  | nil => intro v k a _; rfl
  | cons o r ih =>
    intro v k a h
    show (putAll r v (k + 1) (a.put o.dst (v k))).tmps[d]? = _
    rw [ih _ _ _ fun o' ho' => h o' (List.mem_cons_of_mem _ ho')]
    cases hd : o.dst with
    | none => rfl
    | some d' =>
      have hne : d' ≠ d := fun e => h o (List.mem_cons_self ..) (by rw [hd, e])
      show (a.tmps.setIfInBounds d' (v k))[d]? = _
      rw [Array.getElem?_setIfInBounds_ne hne]
theorem putAll_size (l : List Oper) : ∀ (v : Nat → Value) (k : Nat) (a : Act), (putAll l v k a).tmps.size = a.tmps.size := by
  induction l with
  | nil => intro v k a; rfl
  | cons o r ih =>
    intro v k a
    show (putAll r v (k + 1) (a.put o.dst (v k))).tmps.size = _
    rw [ih]
    cases o.dst with
    | none => rfl
    | some d => show (a.tmps.setIfInBounds d (v k)).size = _; simp
theorem putAll_at (l : List Oper) : ∀ (v : Nat → Value) (k : Nat) (a : Act) (i : Nat) (o : Oper) (d : Tmp), distinctB l = true → l[i]? = some o → o.dst = some d → d < a.tmps.size → (putAll l v k a).tmps[d]? = some (v (k + i)) := by
  induction l with
  | nil => intro v k a i o d _ h; simp at h
  | cons o' r ih =>
    intro v k a i o d hd h ho hsz
    simp only [distinctB, Bool.and_eq_true] at hd
    cases i with
    | zero =>
      obtain rfl : o' = o := by simpa using h
      show (putAll r v (k + 1) (a.put o'.dst (v k))).tmps[d]? = _
      rw [putAll_far r d _ _ _ (fun o2 h2 e => by
        have h1 := hd.1
        rw [ho] at h1
        simp only [List.all_eq_true, bne_iff_ne] at h1
        exact h1 o2 h2 e), ho]
      show (a.tmps.setIfInBounds d (v k))[d]? = _
      rw [Array.getElem?_setIfInBounds_self_of_lt hsz]
      rfl
    | succ i =>
      show (putAll r v (k + 1) (a.put o'.dst (v k))).tmps[d]? = _
      have h2 : (a.put o'.dst (v k)).tmps.size = a.tmps.size := by
        cases o'.dst with
        | none => rfl
        | some d => show (a.tmps.setIfInBounds d (v k)).size = _; simp
      rw [ih v (k + 1) _ i o d hd.2 (by simpa using h) ho (by rw [h2]; exact hsz), show k + 1 + i = k + (i + 1) by omega]
/-- a test's value -/
def isB (x : Value) : Option Bool := match x with
  | .bool b => some b
  | _ => none
/-- what is asked of the region: different slots, each in the frame (of n slots); edges lead back; a guard is among the edges -/
def simB (ops : Array Oper) (n : Nat) : Bool :=
  distinctB ops.toList && (ops.toList.all fun o => match o.dst with | some d => decide (d < n) | none => true) &&
  ((List.range ops.size).all fun i => match ops[i]? with
    | some o => (o.after.toList.all fun e => !Region.binds .any e || decide (e.on < i)) && (match o.guard with
      | some (k, _) => (o.after.toList.any fun e => Region.binds .any e && e.on == k) && (match ops[k]? with | some ok => ok.dst.isSome | none => false)
      | none => true)
    | none => true)
/-- the frame A is the frame a with the values v of the operations in their slots -/
def FrameOf (l : List Oper) (a : Act) (v : Nat → Value) (A : Act) : Prop :=
  (∀ (i : Nat) o d, l[i]? = some o → o.dst = some d → A.eval (.tmp d) = v i) ∧ ∀ t, (∀ o ∈ l, o.dst ≠ some t) → A.eval (.tmp t) = a.eval (.tmp t)
/-- what an operation owes: its run, where its guard wants it; else the slot is empty -/
def SimStep (P : Program) (Q : Exit → Act → World → Prop) (F : Nat → Value → World → Prop) (G : Nat → World → Prop) (T : Nat → World → World → Prop) (l : List Oper) (a : Act) (i : Nat) (o : Oper) : Prop :=
  ∀ (v : Nat → Value) w' (A : Act), FrameOf l a v A → G i w' → (∀ e ∈ o.after, Region.binds .any e = true → F e.on (v e.on) w') → (∀ j oj, l[j]? = some oj → (∃ e ∈ oj.after, Region.binds .any e = true ∧ e.on = i) → v j = slotsOf l a j) →
    (match o.guard with
      | none => True
      | some (k, b) => isB (v k) = some b) →
    ∀ K : Act → World → Prop, (∀ x w'', T i w' w'' → F i x w'' → K (A.put o.dst x) w'') → o.wp P A w' K Q
def SimSkip (F : Nat → Value → World → Prop) (T : Nat → World → World → Prop) (i : Nat) (o : Oper) : Prop :=
  match o.guard with
  | none => True
  | some (k, b) => ∀ (v : Nat → Value) w', F k (v k) w' → isB (v k) ≠ some b → F i undef w' ∧ T i w' w'
def SimSteps (P : Program) (Q : Exit → Act → World → Prop) (F : Nat → Value → World → Prop) (G : Nat → World → Prop) (T : Nat → World → World → Prop) (l : List Oper) (a : Act) : List Oper → Nat → Prop
  | [], _ => True
  | o :: r, k => (SimStep P Q F G T l a k o ∧ SimSkip F T k o) ∧ SimSteps P Q F G T l a r (k + 1)
theorem simSteps_at {F : Nat → Value → World → Prop} {G : Nat → World → Prop} {T : Nat → World → World → Prop} {l : List Oper} {a : Act} : ∀ (r : List Oper) (k : Nat), SimSteps P Q F G T l a r k → ∀ i o, r[i]? = some o → SimStep P Q F G T l a (k + i) o ∧ SimSkip F T (k + i) o
  | [], _, _, i, o, h => by simp at h
  | o' :: r, k, hs, i, o, h => by
    cases i with
    | zero =>
      obtain rfl : o' = o := by simpa using h
      exact hs.1
    | succ i =>
      have := simSteps_at r (k + 1) hs.2 i o (by simpa using h)
      rwa [show k + 1 + i = k + (i + 1) by omega] at this
theorem eval_tmp (A : Act) (d : Tmp) (x : Value) (h : A.tmps[d]? = some x) : A.eval (.tmp d) = x := by
  show A.tmps.getD d undef = x
  rw [Array.getD_eq_getD_getElem?, h]
  rfl
theorem frameOf_putAll {l : List Oper} {a : Act} {v : Nat → Value} (hd : distinctB l = true) (hin : ∀ (i : Nat) o d, l[i]? = some o → o.dst = some d → d < a.tmps.size) : FrameOf l a v (putAll l v 0 a) := by
  refine ⟨fun i o d ho hdst => ?_, fun t ht => ?_⟩
  · have := putAll_at l v 0 a i o d hd ho hdst (hin i o d ho hdst)
    rw [Nat.zero_add] at this
    exact eval_tmp _ _ _ this
  · show (putAll l v 0 a).tmps.getD t undef = a.tmps.getD t undef
    rw [Array.getD_eq_getD_getElem?, Array.getD_eq_getD_getElem?, putAll_far l t v 0 a ht]
theorem any_of_sim {l : List Oper} {a : Act} (F : Nat → Value → World → Prop) (G : Nat → World → Prop) (T : Nat → World → World → Prop) (n : Nat) (hn : a.tmps.size = n) (hB : simB l.toArray n = true)
    (hsteps : SimSteps P Q F G T l a l 0)
    (hF : ∀ i j, i < l.length → j < l.length → i ≠ j → Region.waitsFor .any l.toArray i j = false → ∀ x w' w'', F i x w' → T j w' w'' → F i x w'')
    (hG : ∀ i j, i < l.length → j < l.length → i ≠ j → Region.waitsFor .any l.toArray j i = false → ∀ w' w'', G i w' → T j w' w'' → G i w'')
    (hend : ∀ (v : Nat → Value) w', (∀ i, i < l.length → F i (v i) w') → Q .normal (putAll l v 0 a) w') :
    ∀ (f : Nat) (listed : Array Bool) (v : Nat → Value) (w' : World), listed.size = l.length → left listed l.length = f →
      (∀ i, i < l.length → listed.getD i false = true → F i (v i) w') → (∀ i, i < l.length → listed.getD i true = false → G i w' ∧ v i = slotsOf l a i) →
      (∀ i o, l[i]? = some o → listed.getD i false = true → ∀ e ∈ o.after, Region.binds .any e = true → listed.getD e.on false = true) →
      wpAny P .any l.toArray Q f listed (putAll l v 0 a) w' := by
  simp only [simB, Bool.and_eq_true] at hB
  obtain ⟨⟨hd, hdn⟩, hall0⟩ := hB
  have hd' : distinctB l = true := by simpa using hd
  have hin : ∀ (i : Nat) o d, l[i]? = some o → o.dst = some d → d < a.tmps.size := fun i o d ho hdst => by
    have h1 := List.all_eq_true.1 hdn o (List.mem_iff_getElem?.2 ⟨i, ho⟩)
    rw [hdst] at h1
    rw [hn]
    simpa using h1
  have hone : ∀ (i : Nat) o, l[i]? = some o → (∀ e ∈ o.after, Region.binds .any e = true → e.on < i) ∧ (∀ k b, o.guard = some (k, b) → (∃ e ∈ o.after, Region.binds .any e = true ∧ e.on = k) ∧ ∃ ok d, l[k]? = some ok ∧ ok.dst = some d) := fun i o ho => by
    have hi : i < l.length := (List.getElem?_eq_some_iff.1 ho).1
    have h1 := List.all_eq_true.1 hall0 i (List.mem_range.2 (by simpa using hi))
    rw [List.getElem?_toArray, ho] at h1
    simp only [Bool.and_eq_true] at h1
    refine ⟨fun e he hbd => ?_, fun k b hg => ?_⟩
    · have h2 := List.all_eq_true.1 h1.1 e (by simpa using he)
      rw [hbd] at h2
      simpa using h2
    · have h3 := h1.2
      rw [hg] at h3
      simp only [Bool.and_eq_true] at h3
      obtain ⟨e, he, h4⟩ := List.any_eq_true.1 h3.1
      simp only [Bool.and_eq_true, beq_iff_eq] at h4
      refine ⟨⟨e, by simpa using he, h4.1, h4.2⟩, ?_⟩
      have h5 := h3.2
      rw [List.getElem?_toArray] at h5
      cases hk : l[k]? with
      | none => rw [hk] at h5; cases h5
      | some ok =>
        rw [hk] at h5
        obtain ⟨d, hdd⟩ := Option.isSome_iff_exists.1 h5
        exact ⟨ok, d, rfl, hdd⟩
  have hback' : ∀ (i : Nat) o, l.toArray[i]? = some o → ∀ e ∈ o.after, Region.binds .any e = true → e.on < i := fun i o ho => (hone i o (by simpa using ho)).1
  intro f
  induction f with
  | zero =>
    intro listed v w' hsz hl hF' hG' hcl
    have hall := left_zero hl
    refine ⟨?_, hend v w' fun i hi => hF' i hi (getD_of_true (hall i hi) (by omega))⟩
    cases hr : Region.ready .any l.toArray listed with
    | nil => rfl
    | cons i r =>
      have hi : i ∈ Region.ready .any l.toArray listed := by rw [hr]; exact List.mem_cons_self ..
      obtain ⟨hun, o, ho, _⟩ := mem_ready.1 hi
      have hil : i < l.length := by simpa using (Array.getElem?_eq_some_iff.1 ho).1
      rw [hall i hil] at hun
      cases hun
  | succ f ih =>
    intro listed v w' hsz hl hF' hG' hcl
    have hex : ∃ i, i < l.length ∧ listed.getD i true = false := Classical.byContradiction fun hc' => by
      have : left listed l.length = 0 := by
        unfold left
        rw [List.countP_eq_zero]
        intro i hi
        cases hq : listed.getD i true with
        | true => simp
        | false => exact absurd ⟨i, by simpa using hi, hq⟩ hc'
      omega
    obtain ⟨i0, hi0, hun0⟩ := hex
    refine ⟨fun hempty => absurd hempty (ready_ne2 hback' (by simpa using hsz) (by simpa using hi0) hun0), fun i hr => ?_⟩
    obtain ⟨hun, o, ho, hall⟩ := mem_ready.1 hr
    have ho' : l[i]? = some o := by simpa using ho
    have hil : i < l.length := (List.getElem?_eq_some_iff.1 ho').1
    have hset := fun x => putAll_set l v 0 a i o x hd' ho'
    obtain ⟨hstep, hskip⟩ := simSteps_at l 0 hsteps i o ho'
    rw [Nat.zero_add] at hstep hskip
    have hafter : ∀ e ∈ o.after, Region.binds .any e = true → F e.on (v e.on) w' := fun e he hbd => hF' e.on (Nat.lt_trans (hback' i o ho e he hbd) hil) (hall e he hbd)
    have hlate : ∀ j oj, l[j]? = some oj → (∃ e ∈ oj.after, Region.binds .any e = true ∧ e.on = i) → v j = slotsOf l a j := fun j oj hj ⟨e, he, hbd, hon⟩ => by
      have hjl : j < l.length := (List.getElem?_eq_some_iff.1 hj).1
      refine (hG' j hjl ?_).2
      cases hq : listed.getD j true with
      | false => rfl
      | true =>
        have h1 := hcl j oj hj (getD_of_true hq (by omega)) e he hbd
        rw [hon, getD_both hun] at h1
        cases h1
    have hnext : ∀ x w'', T i w' w'' → F i x w'' → wpAny P .any l.toArray Q f (listed.setIfInBounds i true) ((putAll l v 0 a).put o.dst x) w'' := fun x w'' hT hFx => by
      rw [hset x, Nat.zero_add]
      have hw1 : ∀ j, j < l.length → j ≠ i → listed.getD j false = true → Region.waitsFor .any l.toArray j i = false := fun j hj hji hlj => by
        cases hq : Region.waitsFor .any l.toArray j i with
        | false => rfl
        | true =>
          obtain ⟨oj, hoj, e, he, hbd, hon⟩ := Region.waitsFor_spec hq
          have h1 := hcl j oj (by simpa using hoj) hlj e he hbd
          rw [hon, getD_both hun] at h1
          cases h1
      have hw2 : ∀ j, j < l.length → listed.getD j true = false → Region.waitsFor .any l.toArray i j = false := fun j hj hlj => by
        cases hq : Region.waitsFor .any l.toArray i j with
        | false => rfl
        | true =>
          obtain ⟨oi, hoi, e, he, hbd, hon⟩ := Region.waitsFor_spec hq
          obtain rfl : oi = o := Option.some.inj (hoi.symm.trans ho)
          have h1 := hall e he hbd
          rw [hon, getD_both hlj] at h1
          cases h1
      refine ih _ _ w'' (by simpa using hsz) (by have := left_set hil hun; omega) (fun j hj hlj => ?_) (fun j hj hlj => ?_) fun j oj hoj hlj e he hbd => ?_
      · unfold setAt
        by_cases hji : j = i
        · subst hji; rw [if_pos rfl]; exact hFx
        · rw [if_neg hji]
          rw [getD_set_ne false (Ne.symm hji)] at hlj
          exact hF j i hj hil hji (hw1 j hj hji hlj) (v j) w' w'' (hF' j hj hlj) hT
      · by_cases hji : j = i
        · subst hji
          have : (listed.setIfInBounds j true).getD j true = true := by
            have hlt : j < listed.size := by omega
            simp [hlt]
          rw [this] at hlj
          cases hlj
        · rw [getD_set_ne true (Ne.symm hji)] at hlj
          obtain ⟨h1, h2⟩ := hG' j hj hlj
          refine ⟨hG j i hj hil hji (hw2 j hj hlj) w' w'' h1 hT, ?_⟩
          unfold setAt
          rw [if_neg hji]
          exact h2
      · by_cases hei : e.on = i
        · have hlt : i < listed.size := by omega
          rw [hei]
          simp [hlt]
        · rw [getD_set_ne false (Ne.symm hei)]
          by_cases hji : j = i
          · subst hji
            obtain rfl : oj = o := Option.some.inj (hoj.symm.trans ho')
            exact hall e he hbd
          · rw [getD_set_ne false (Ne.symm hji)] at hlj
            exact hcl j oj hoj hlj e he hbd
    unfold wpOp
    simp only [ho]
    cases hgd : o.guard with
    | none =>
      simp only [Region.wanted, hgd, if_true]
      exact .inl (hstep v w' _ (frameOf_putAll hd' hin) (hG' i hil hun).1 hafter hlate (by rw [hgd]; trivial) _ hnext)
    | some kb =>
      obtain ⟨k, b⟩ := kb
      obtain ⟨⟨e, he, hbd, hon⟩, ok, d, hok, hkd⟩ := (hone i o ho').2 k b hgd
      have hFk := hafter e he hbd
      rw [hon] at hFk
      have hy : yielded l.toArray (putAll l v 0 a).tmps k = isB (v k) := by
        unfold yielded
        rw [List.getElem?_toArray, hok]
        show (match (ok.dst).bind ((putAll l v 0 a).tmps[·]?) with | some (.bool b) => some b | _ => none) = _
        rw [hkd]
        show (match (putAll l v 0 a).tmps[d]? with | some (.bool b) => some b | _ => none) = _
        rw [putAll_at l v 0 a k ok d hd' hok hkd (hin k ok d hok hkd), Nat.zero_add]
        cases v k <;> rfl
      simp only [Region.wanted, hgd, hy]
      by_cases hb : isB (v k) = some b
      · rw [if_pos (by rw [hb]; exact beq_self_eq_true _)]
        exact .inl (hstep v w' _ (frameOf_putAll hd' hin) (hG' i hil hun).1 hafter hlate (by rw [hgd]; exact hb) _ hnext)
      · rw [if_neg (by rw [beq_iff_eq]; exact hb)]
        unfold SimSkip at hskip
        rw [hgd] at hskip
        obtain ⟨h1, h2⟩ := hskip v w' hFk hb
        exact hnext _ _ h2 h1
theorem region_sim {id : Nat} {l : List Oper} {a : Act} {w : World} (F : Nat → Value → World → Prop) (G : Nat → World → Prop) (T : Nat → World → World → Prop) (n : Nat) (hm : P.follows .mixedOrders = true) (hn : a.tmps.size = n) (hB : simB l.toArray n = true)
    (h0 : ∀ w', Below w.heap.size w w' → w'.heap = w.heap → ∀ i, i < l.length → G i w')
    (hsteps : SimSteps P Q F G T l a l 0)
    (hF : ∀ i j, i < l.length → j < l.length → i ≠ j → Region.waitsFor .any l.toArray i j = false → ∀ x w' w'', F i x w' → T j w' w'' → F i x w'')
    (hG : ∀ i j, i < l.length → j < l.length → i ≠ j → Region.waitsFor .any l.toArray j i = false → ∀ w' w'', G i w' → T j w' w'' → G i w'')
    (hend : ∀ (v : Nat → Value) w', (∀ i, i < l.length → F i (v i) w') → Q .normal (putAll l v 0 a) w') : (Code.region id l.toArray true).wp P Q a w := by
  refine wp_region_any hm ?_
  have key := any_of_sim F G T n hn hB hsteps hF hG hend l.length (Array.replicate l.toArray.size false) (slotsOf l a) { w with drawn := w.drawn + 1 } (by simp)
    (by
      unfold left
      have : (List.range l.length).countP (fun i => !(Array.replicate l.toArray.size false).getD i true) = (List.range l.length).length := by
        rw [List.countP_eq_length]
        intro i hi
        have hin : i < l.length := by simpa using hi
        have h1 : (Array.replicate l.toArray.size false).getD i true = false := getD_in (by simpa using hin) (getD_replicate_false _ _)
        rw [h1]; rfl
      rw [this]; simp)
    (fun i hi hl => by rw [getD_replicate_false] at hl; cases hl)
    (fun i hi _ => ⟨h0 { w with drawn := w.drawn + 1 } ⟨rfl, rfl, rfl, Nat.le_refl _, fun _ _ => rfl⟩ rfl i hi, rfl⟩)
    (fun i o ho hl => by rw [getD_replicate_false] at hl; cases hl)
  rw [putAll_slots l a (slotsOf l a) 0 (fun j o d ho hd => by unfold slotsOf; rw [Nat.zero_add, ho]; simp only [hd])] at key
  simpa using key
/-- an operation that leaves the world as it is -/
theorem pure_step {o : Oper} {A : Act} {w' : World} {K : Act → World → Prop} (x : Value) (h : ∀ ρ : Operand → Value, ρ = A.eval → (execOp ρ o).run P w' = .ok (.value x) w') (hK : K (A.put o.dst x) w') : o.wp P A w' K Q := by
  unfold Oper.wp
  rw [h A.eval rfl]
  exact hK
theorem new_step {o : Oper} {A : Act} {w' w'' : World} {K : Act → World → Prop} (x : Value) (h : ∀ ρ : Operand → Value, ρ = A.eval → (execOp ρ o).run P w' = .ok (.value x) w'') (hK : K (A.put o.dst x) w'') : o.wp P A w' K Q := by
  unfold Oper.wp
  rw [h A.eval rfl]
  exact hK
theorem call_step {o : Oper} {A : Act} {w' : World} {K : Act → World → Prop} (fn : FuncId) (args : Array Value) (h : ∀ ρ : Operand → Value, ρ = A.eval → (execOp ρ o).run P w' = .ok (.enter fn args) w')
    (hc : Calls P fn args w' fun e w'' => ∃ x, e = .returned x ∧ K (A.put o.dst x) w'') : o.wp P A w' K Q := wp_call_fn fn args (h A.eval rfl) hc

def factL (vals : List Value) (fs : List (Nat × (Value → World → Prop))) (I : World → Prop) (i : Nat) (x : Value) (w : World) : Prop := (match fs.lookup i with
  | some p => p x w
  | none => x = vals.getD i undef) ∧ I w
def needL (gs : List (Nat × (World → Prop))) (I : World → Prop) (i : Nat) (w : World) : Prop := (match gs.lookup i with
  | some g => g w
  | none => True) ∧ I w
def doesL (es : List (Nat × (World → World → Prop))) (i : Nat) (w w' : World) : Prop := match es.lookup i with
  | some t => t w w'
  | none => w' = w
theorem lookup_mem {α : Type} {i : Nat} {p : α} : ∀ {l : List (Nat × α)}, l.lookup i = some p → (i, p) ∈ l
  | [], h => by simp at h
  | (j, q) :: l, h => by
    rw [List.lookup_cons] at h
    by_cases hj : (i == j) = true
    · rw [hj] at h
      have h1 : q = p := by simpa using h
      have h2 : i = j := by simpa using hj
      rw [h1, h2]
      exact List.mem_cons_self ..
    · have hj' : (i == j) = false := by simpa using hj
      rw [hj'] at h
      exact List.mem_cons_of_mem _ (lookup_mem h)
/-- the region, by lists: the values of the operations that have one; facts (fs) of the others; what operations need of the world (gs); what operations do to the world (es); I: what holds of the world all along -/
theorem region_simL {id : Nat} {l : List Oper} {a : Act} {w : World} (vals : List Value) (fs : List (Nat × (Value → World → Prop))) (gs : List (Nat × (World → Prop))) (es : List (Nat × (World → World → Prop))) (I : World → Prop) (n : Nat) (hm : P.follows .mixedOrders = true) (hn : a.tmps.size = n) (hB : simB l.toArray n = true)
    (h0 : ∀ w', Below w.heap.size w w' → w'.heap = w.heap → I w' ∧ ∀ y ∈ gs, y.2 w')
    (hI : ∀ z ∈ es, ∀ w' w'', I w' → z.2 w' w'' → I w'')
    (hF : ∀ y ∈ fs, ∀ z ∈ es, y.1 ≠ z.1 → Region.waitsFor .any l.toArray y.1 z.1 = false → ∀ x w' w'', I w' → y.2 x w' → z.2 w' w'' → y.2 x w'')
    (hG : ∀ y ∈ gs, ∀ z ∈ es, y.1 ≠ z.1 → Region.waitsFor .any l.toArray z.1 y.1 = false → ∀ w' w'', I w' → y.2 w' → z.2 w' w'' → y.2 w'')
    (hsteps : SimSteps P Q (factL vals fs I) (needL gs I) (doesL es) l a l 0)
    (hl : 0 < l.length)
    (hend : ∀ (v : Nat → Value) w', I w' → (∀ i, i < l.length → factL vals fs (fun _ => True) i (v i) w') → Q .normal (putAll l v 0 a) w') : (Code.region id l.toArray true).wp P Q a w := by
  refine region_sim (factL vals fs I) (needL gs I) (doesL es) n hm hn hB (fun w' hb he i hi => ?_) hsteps (fun i j hi hj hij hw x w' w'' h ht => ?_) (fun i j hi hj hij hw w' w'' h ht => ?_) fun v w' h => hend v w' (h 0 hl).2 fun i hi => ⟨(h i hi).1, trivial⟩
  · obtain ⟨h1, h2⟩ := h0 w' hb he
    refine ⟨?_, h1⟩
    split
    · rename_i g hg
      exact h2 _ (lookup_mem hg)
    · trivial
  · obtain ⟨h1, h2⟩ := h
    unfold doesL at ht
    split at ht
    · rename_i t ht'
      refine ⟨?_, hI _ (lookup_mem ht') w' w'' h2 ht⟩
      split
      · rename_i p hp
        rw [hp] at h1
        exact hF _ (lookup_mem hp) _ (lookup_mem ht') hij hw x w' w'' h2 h1 ht
      · rename_i hp
        rw [hp] at h1
        exact h1
    · subst ht
      exact ⟨h1, h2⟩
  · obtain ⟨h1, h2⟩ := h
    unfold doesL at ht
    split at ht
    · rename_i t ht'
      refine ⟨?_, hI _ (lookup_mem ht') w' w'' h2 ht⟩
      split
      · rename_i p hp
        rw [hp] at h1
        exact hG _ (lookup_mem hp) _ (lookup_mem ht') hij hw w' w'' h2 h1 ht
      · trivial
    · subst ht
      exact ⟨h1, h2⟩
end
end Go.Proofs.YthaockngbagdhaaDoor
