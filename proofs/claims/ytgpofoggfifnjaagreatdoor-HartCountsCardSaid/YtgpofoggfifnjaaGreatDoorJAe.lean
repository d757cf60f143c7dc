/-
Layer 10, package place: a machine's memory in a block; New, Has, Copy.
A region that draws its order, some of whose operations come one behind the other (a chain: calls, appends, stores), while the others only read and may come anywhere: one walk along the chain.
-/
import Derived.Test.YtgpofoggfifnjaaGreatDoorJAd
import Derived.Test.YtgpofoggfifnjaaGreatDoorJAb
import Derived.BigQuiet
namespace Go.Proofs.YtgpofoggfifnjaaGreatDoor
open Go Go.RowKit

/-- the cells of a memory -/
def memV (m : Nat → UInt8) (j : Nat) : Value := by8 (m j)
theorem memV_one (m : Nat → UInt8) (j : Nat) : (memV m j).oneCell' = true := rfl
/-- at g lies a machine's memory with the bytes m -/
def RamP (w : World) (g : Nat) (m : Nat → UInt8) : Prop := ∃ N, N = 65536 ∧ Has w g 86 (tab N (memV m))
def mem0 : Nat → UInt8 := fun _ => 0
/-- a long row of zeros, told cell by cell: so the kernel goes no deeper than one cell -/
def isZ : Value → Bool
  | .int .u8 (.ofNat 0) => true
  | _ => false
theorem isZ_eq {v : Value} (h : isZ v = true) : v = .int .u8 0 := by
  unfold isZ at h
  split at h
  · rfl
  · cases h
noncomputable def okZ (l : List Value) : Nat → Bool :=
  List.rec (motive := fun _ => Nat → Bool) (fun n => Nat.beq n 0) (fun a _ ih n => cond (isZ a) (Nat.rec (motive := fun _ => Bool) false (fun k _ => ih k) n) false) l
theorem okZ_eq : ∀ (l : List Value) (n : Nat), okZ l n = true → l = List.replicate n (.int .u8 0)
  | [], n, h => by
    have h2 : n = 0 := Nat.eq_of_beq_eq_true h
    subst h2
    rfl
  | a :: l, n, h => by
    have h1 : (cond (isZ a) (Nat.rec (motive := fun _ => Bool) false (fun k _ => okZ l k) n) false) = true := h
    cases ha : isZ a with
    | false => rw [ha] at h1; cases h1
    | true =>
      rw [ha] at h1
      cases n with
      | zero => cases h1
      | succ k =>
        rw [isZ_eq ha, List.replicate_succ, ← okZ_eq l k h1]
noncomputable def okM (v : Option (Option Value × Nat)) : Bool :=
  match v with
  | some (some (.agg a), n) => and (okZ a.toList 65536) (Nat.beq n 65536)
  | _ => false
theorem okM_true : okM ((Tryz.prog.info? 86).map (fun i => (i.zero, i.size))) = true := by kernel_rfl
theorem okM_eq {v : Option (Option Value × Nat)} (h : okM v = true) : v = some (some (.agg (tab 65536 (fun _ => Value.int .u8 0))), 65536) := by
  unfold okM at h
  split at h
  · rename_i a n
    have h1 := Bool.and_eq_true_iff.1 h
    rw [Nat.eq_of_beq_eq_true h1.2]
    have h2 := okZ_eq a.toList 65536 h1.1
    have h3 : a = tab 65536 (fun _ => Value.int .u8 0) := by
      apply Array.toList_inj.1
      rw [h2, tab_toList, List.map_const', List.length_range]
    rw [h3]
  · cases h
theorem infoM0 : (Tryz.prog.info? 86).map (fun i => (i.zero, i.size)) = some (some (.agg (tab 65536 (fun _ => Value.int .u8 0))), 65536) := okM_eq okM_true
theorem infoM (N : Nat) (hN : N = 65536) : (Tryz.prog.info? 86).map (fun i => (i.zero, i.size)) = some (some (.agg (tab N (memV mem0))), N) := by
  subst hN
  rw [tab_ext 65536 (memV mem0) (fun _ => Value.int .u8 0) (fun _ _ => rfl)]
  exact infoM0
theorem zeroM (N : Nat) (hN : N = 65536) (W : World) : (zeroValue 86).run Tryz.prog W = .ok (.agg (tab N (memV mem0))) W := (zero_of_info (infoM N hN)).1 W
theorem sizeM (N : Nat) (hN : N = 65536) : (Tryz.prog.info? 86).map (·.size) = some N := by
  subst hN
  kernel_rfl
theorem RamP.lt {w : World} {g : Nat} {m : Nat → UInt8} (h : RamP w g m) : g < w.heap.size := by obtain ⟨N, _, h⟩ := h; exact h.lt
theorem RamP.after {w w' : World} {g : Nat} {m : Nat → UInt8} (h : RamP w g m) (k : Below w.heap.size w w') : RamP w' g m := by obtain ⟨N, hN, h⟩ := h; exact ⟨N, hN, h.after k⟩
abbrev mP (g : Nat) : Value := .pointer (some ⟨g, 0, none⟩)
set_option maxRecDepth 100000 in
set_option maxHeartbeats 1000000 in
theorem pnew_any (w : World) :
    Calls Tryz.prog 19 #[] w fun e w' => (∃ g, e = .returned (mP g) ∧ RamP w' g mem0 ∧ w.heap.size ≤ g) ∧ Below w.heap.size w w' := by
  obtain ⟨N, hN⟩ : ∃ N, N = 65536 := ⟨_, rfl⟩
  have hz := fun W => zeroM N hN W
  have HN := Lib.hid hN
  clear hN
  go_enter Tryz.func19, Tryz.ntmps19
  go_wp2_with fail
  go_ret
  exact ⟨⟨w.heap.size, rfl, ⟨N, HN.out, Has.new _ _ _⟩, Nat.le_refl _⟩, (Below.refl _ _).alloc (Nat.le_refl _) _⟩
set_option maxRecDepth 100000 in
set_option maxHeartbeats 1000000 in
theorem has_any (g a n : Nat) (w : World) (ha : a < 4294967296) (hn : n < 4294967296) :
    Calls Tryz.prog 14 #[mP g, .int .u32 (a : Int), .int .u32 (n : Int)] w fun e w' => e = .returned (.bool (inB a n 2147483648 65536)) ∧ w = w' := by
  have k := pwithin_any a n 2147483648 65536 w ha hn (by decide) (by decide)
  go_enter Tryz.func14, Tryz.ntmps14
  go_wp2_with (refine k.mono ?_; rintro e w' ⟨rfl, rfl⟩)
  go_ret
  exact ⟨rfl, rfl⟩
set_option maxRecDepth 100000 in
set_option maxHeartbeats 1000000 in
theorem has_nil (a n : Nat) (w : World) :
    Calls Tryz.prog 14 #[.pointer none, .int .u32 (a : Int), .int .u32 (n : Int)] w fun e w' => e = .returned (.bool false) ∧ w = w' := by
  go_enter Tryz.func14, Tryz.ntmps14
  go_wp2_with fail
  go_ret
  exact ⟨rfl, rfl⟩
/-- 'x := *p' of a block that is known whole -/
theorem wp_load_tabW {P : Program} {w : World} {ops : Array Oper} {rest : List Oper} {op : Oper} {a : Act} {Q : Exit → Act → World → Prop} (hgd : op.guard = none) (ty : TypeId) (x : Operand) (ho : op.op = .load ty x)
    (g : Nat) (hx : a.eval x = .pointer (some ⟨g, 0, none⟩)) (N : Nat) (f : Nat → Value) (t : TypeId) (hG : Has w g t (tab N f)) (d : TypeDesc) (hu : P.underlying ty = some d) (hd : d.isRow = true) (hi : (P.info? ty).map (·.size) = some N)
    (h : wpList P ops Q rest (a.put op.dst (.agg (tab N f))) w) : wpList P ops Q (op :: rest) a w := by
  have hr : w.rangeAt g 0 ((List.range N).map f) := by
    have := hG.range 0 N (by omega)
    simpa using this
  have hl := run_loadVar_mid (P := P) w g 0 ty _ d hr hu hd (by simpa using hi)
  refine wpList_plain hgd fun K hK => ?_
  unfold Oper.wp execOp
  simp only [ho, hx, Instr.loadAt, Instr.sureAddr, Sem.run_bind, Sem.run_pure, Result.andThen_ok, hl]
  exact hK _ _ h
theorem undM : ∃ d, Tryz.prog.underlying 86 = some d ∧ d.isRow = true := ⟨_, Tryz.underlying86, rfl⟩
end Go.Proofs.YtgpofoggfifnjaaGreatDoor
namespace Go.Proofs.YtgpofoggfifnjaaGreatDoor
open Go Go.RowKit

section
variable {P : Program} {Q : Exit → Act → World → Prop}
/-- the operation i has been done, too -/
def dnx (d : Nat → Bool) (i : Nat) : Nat → Bool := fun j => if j = i then true else d j
theorem any_of_J {l : List Oper} {a : Act} (J : (Nat → Bool) → (Nat → Value) → World → Prop) (n : Nat) (hn : a.tmps.size = n) (hB : simB l.toArray n = true) (hgd : ∀ o ∈ l, o.guard = none)
    (hJ : ∀ d d' v w, (∀ i, i < l.length → d i = d' i) → J d v w → J d' v w)
    (hstep : ∀ i o, l[i]? = some o → ∀ (d : Nat → Bool) v w' A, FrameOf l a v A → J d v w' → d i = false → (∀ e ∈ o.after, Region.binds .any e = true → d e.on = true) →
      (∀ j oj, l[j]? = some oj → d j = true → ∀ e ∈ oj.after, Region.binds .any e = true → d e.on = true) → (∀ j, j < l.length → d j = false → v j = slotsOf l a j) →
      ∀ K : Act → World → Prop, (∀ x w'', J (dnx d i) (setAt v i x) w'' → K (A.put o.dst x) w'') → o.wp P A w' K Q)
    (hend : ∀ d v w', (∀ i, i < l.length → d i = true) → J d v w' → Q .normal (putAll l v 0 a) w') :
    ∀ (f : Nat) (listed : Array Bool) (v : Nat → Value) (w' : World), listed.size = l.length → left listed l.length = f → J (fun i => listed.getD i true) v w' →
      (∀ i, i < l.length → listed.getD i true = false → v i = slotsOf l a i) →
      (∀ i o, l[i]? = some o → listed.getD i false = true → ∀ e ∈ o.after, Region.binds .any e = true → listed.getD e.on false = true) →
      wpAny P .any l.toArray Q f listed (putAll l v 0 a) w' := by
  simp only [simB, Bool.and_eq_true] at hB
  obtain ⟨⟨hd, hdn⟩, hall0⟩ := hB
  have hd' : distinctB l = true := by simpa using hd
  have hin : ∀ (i : Nat) o d, l[i]? = some o → o.dst = some d → d < a.tmps.size := fun i o d ho hdst => by
    have h1 := List.all_eq_true.1 hdn o (List.mem_iff_getElem?.2 ⟨i, ho⟩)
    rw [hdst] at h1
    rw [hn]
    simpa using h1
  have hback : ∀ (i : Nat) o, l[i]? = some o → ∀ e ∈ o.after, Region.binds .any e = true → e.on < i := fun i o ho => by
    have hi : i < l.length := (List.getElem?_eq_some_iff.1 ho).1
    have h1 := List.all_eq_true.1 hall0 i (List.mem_range.2 (by simpa using hi))
    rw [List.getElem?_toArray, ho] at h1
    simp only [Bool.and_eq_true] at h1
    intro e he hbd
    have h2 := List.all_eq_true.1 h1.1 e (by simpa using he)
    rw [hbd] at h2
    simpa using h2
  have hback' : ∀ (i : Nat) o, l.toArray[i]? = some o → ∀ e ∈ o.after, Region.binds .any e = true → e.on < i := fun i o ho => hback i o (by simpa using ho)
  intro f
  induction f with
  | zero =>
    intro listed v w' hsz hl hJ' hun' hcl
    have hall := left_zero hl
    refine ⟨?_, hend _ v w' hall hJ'⟩
    cases hr : Region.ready .any l.toArray listed with
    | nil => rfl
    | cons i r =>
      have hi : i ∈ Region.ready .any l.toArray listed := by rw [hr]; exact List.mem_cons_self ..
      obtain ⟨hun, o, ho, _⟩ := mem_ready.1 hi
      have hil : i < l.length := by simpa using (Array.getElem?_eq_some_iff.1 ho).1
      rw [hall i hil] at hun
      cases hun
  | succ f ih =>
    intro listed v w' hsz hl hJ' hun' hcl
    have hex : ∃ i, i < l.length ∧ listed.getD i true = false := Classical.byContradiction fun hc' => by
      have : left listed l.length = 0 := by
        unfold left
        rw [List.countP_eq_zero]
        intro i hi
        cases hq : listed.getD i true with
        | true => simp
        | false => exact absurd ⟨i, by simpa using hi, hq⟩ hc'
      omega
    obtain ⟨i0, hi0, hun0⟩ := hex
    refine ⟨fun hempty => absurd hempty (ready_ne2 hback' (by simpa using hsz) (by simpa using hi0) hun0), fun i hr => ?_⟩
    obtain ⟨hun, o, ho, hall⟩ := mem_ready.1 hr
    have ho' : l[i]? = some o := by simpa using ho
    have hil : i < l.length := (List.getElem?_eq_some_iff.1 ho').1
    have hset := fun x => putAll_set l v 0 a i o x hd' ho'
    have hgo : o.guard = none := hgd o (List.mem_iff_getElem?.2 ⟨i, ho'⟩)
    have both : ∀ j, j < l.length → listed.getD j true = true → listed.getD j false = true := fun j hj h => getD_of_true h (by omega)
    unfold wpOp
    simp only [ho]
    simp only [Region.wanted, hgo, if_true]
    refine .inl (hstep i o ho' _ v w' _ (frameOf_putAll hd' hin) hJ' hun (fun e he hbd => ?_) (fun j oj hoj hlj e he hbd => ?_) hun' _ fun x w'' hJ2 => ?_)
    · have h1 := hall e he hbd
      cases hq : listed.getD e.on true with
      | true => rfl
      | false => rw [getD_both hq] at h1; cases h1
    · have hjl : j < l.length := (List.getElem?_eq_some_iff.1 hoj).1
      have h1 := hcl j oj hoj (both j hjl hlj) e he hbd
      cases hq : listed.getD e.on true with
      | true => rfl
      | false => rw [getD_both hq] at h1; cases h1
    · rw [hset x, Nat.zero_add]
      refine ih _ _ w'' (by simpa using hsz) (by have := left_set hil hun; omega) (hJ _ _ _ _ (fun j hj => ?_) hJ2) (fun j hj hlj => ?_) fun j oj hoj hlj e he hbd => ?_
      · unfold dnx
        by_cases hji : j = i
        · subst hji
          have hlt : j < listed.size := by omega
          simp [hlt]
        · rw [if_neg hji, getD_set_ne true (Ne.symm hji)]
      · by_cases hji : j = i
        · subst hji
          have : (listed.setIfInBounds j true).getD j true = true := by
            have hlt : j < listed.size := by omega
            simp [hlt]
          rw [this] at hlj
          cases hlj
        · rw [getD_set_ne true (Ne.symm hji)] at hlj
          unfold setAt
          rw [if_neg hji]
          exact hun' j hj hlj
      · by_cases hei : e.on = i
        · have hlt : i < listed.size := by omega
          rw [hei]
          simp [hlt]
        · rw [getD_set_ne false (Ne.symm hei)]
          by_cases hji : j = i
          · subst hji
            obtain rfl : oj = o := Option.some.inj (hoj.symm.trans ho')
            exact hall e he hbd
          · rw [getD_set_ne false (Ne.symm hji)] at hlj
            exact hcl j oj hoj hlj e he hbd
/-- how far along the chain: the state behind its last operation that has been done -/
def stg (d : Nat → Bool) (v : Nat → Value) (w : World) : (World → Prop) → List Value → List (Nat × (List Value → World → Prop)) → Prop
  | cur, _, [] => cur w
  | cur, acc, (h, S) :: r => if d h = true then stg d v w (S (acc ++ [v h])) (acc ++ [v h]) r else cur w
/-- along the chain each waits for the one before -/
def chnB (ops : Array Oper) : Option Nat → List Nat → Bool
  | _, [] => true
  | p, h :: r => (match ops[h]? with
    | some o => match p with
      | none => true
      | some q => o.after.toList.any fun e => Region.binds .any e && e.on == q
    | none => false) && chnB ops (some h) r
/-- what the operations of the chain owe -/
def ChnSteps (P : Program) (Q : Exit → Act → World → Prop) (qv : List (Nat × Value)) (l : List Oper) (a : Act) : (World → Prop) → List (Nat × Value) → List (Nat × (List Value → World → Prop)) → Prop
  | _, _, [] => True
  | cur, acc, (h, S) :: r =>
    (∀ o, l[h]? = some o → ∀ (v : Nat → Value) w' (A : Act), FrameOf l a v A → cur w' → (∀ p ∈ acc, v p.1 = p.2) → (∀ p ∈ qv, (∃ e ∈ o.after, Region.binds .any e = true ∧ e.on = p.1) → v p.1 = p.2) →
      (∀ j, j < l.length → (∃ oj, l[j]? = some oj ∧ ∃ e ∈ oj.after, Region.binds .any e = true ∧ e.on = h) → v j = slotsOf l a j) →
      ∀ K : Act → World → Prop, (∀ x w'', S (acc.map (·.2) ++ [x]) w'' → K (A.put o.dst x) w'') → o.wp P A w' K Q) ∧
    ∀ x, ChnSteps P Q qv l a (S (acc.map (·.2) ++ [x])) (acc ++ [(h, x)]) r
/-- what an operation that only reads owes, in every state of the chain -/
def QuStep (P : Program) (Q : Exit → Act → World → Prop) (C : World → Prop) (qv : List (Nat × Value)) (l : List Oper) (a : Act) (p : Nat × Value) : Prop :=
  ∀ o, l[p.1]? = some o → ∀ (v : Nat → Value) w' (A : Act), FrameOf l a v A → C w' → (∀ q ∈ qv, (∃ e ∈ o.after, Region.binds .any e = true ∧ e.on = q.1) → v q.1 = q.2) →
    (∀ j, j < l.length → (∃ oj, l[j]? = some oj ∧ ∃ e ∈ oj.after, Region.binds .any e = true ∧ e.on = p.1) → v j = slotsOf l a j) →
    ∀ K : Act → World → Prop, K (A.put o.dst p.2) w' → o.wp P A w' K Q
/-- what the whole chain comes to -/
def ChnEnd (l : List Oper) (a : Act) (qv : List (Nat × Value)) (Q : Exit → Act → World → Prop) : (World → Prop) → List (Nat × Value) → List (Nat × (List Value → World → Prop)) → Prop
  | cur, acc, [] => ∀ v w', cur w' → (∀ p ∈ acc, v p.1 = p.2) → (∀ p ∈ qv, v p.1 = p.2) → Q .normal (putAll l v 0 a) w'
  | _, acc, (h, S) :: r => ∀ x, ChnEnd l a qv Q (S (acc.map (·.2) ++ [x])) (acc ++ [(h, x)]) r
theorem stg_kept {d : Nat → Bool} {v : Nat → Value} {w : World} {i : Nat} {x : Value} : ∀ (hs : List (Nat × (List Value → World → Prop))) (cur : World → Prop) (acc : List Value), (∀ p ∈ hs, p.1 ≠ i) → stg d v w cur acc hs → stg (dnx d i) (setAt v i x) w cur acc hs
  | [], _, _, _, h => h
  | (g, S) :: r, cur, acc, hne, h => by
    have hg : g ≠ i := hne _ (List.mem_cons_self ..)
    unfold stg at h ⊢
    have e1 : dnx d i g = d g := if_neg hg
    have e2 : setAt v i x g = v g := if_neg hg
    rw [e1, e2]
    split
    · rename_i hd
      rw [if_pos hd] at h
      exact stg_kept r _ _ (fun p hp => hne p (List.mem_cons_of_mem _ hp)) h
    · rename_i hd
      rw [if_neg hd] at h
      exact h
theorem stg_C {C : World → Prop} {d : Nat → Bool} {v : Nat → Value} {w : World} : ∀ (hs : List (Nat × (List Value → World → Prop))) (cur : World → Prop) (acc : List Value), (∀ w, cur w → C w) → (∀ p ∈ hs, ∀ xs w, p.2 xs w → C w) → stg d v w cur acc hs → C w
  | [], _, _, hc, _, h => hc _ h
  | (g, S) :: r, cur, acc, hc, hs, h => by
    unfold stg at h
    split at h
    · exact stg_C r _ _ (hs (g, S) (List.mem_cons_self ..) _) (fun p hp => hs p (List.mem_cons_of_mem _ hp)) h
    · exact hc _ h
/-- an operation of the chain -/
theorem chn_step {l : List Oper} {a : Act} {qv : List (Nat × Value)} {d : Nat → Bool} {v : Nat → Value} {w' : World} {A : Act} {i : Nat} {o : Oper} (ho : l[i]? = some o) (hA : FrameOf l a v A) (hdi : d i = false)
    (hw : ∀ e ∈ o.after, Region.binds .any e = true → d e.on = true) (hcl : ∀ j oj, l[j]? = some oj → d j = true → ∀ e ∈ oj.after, Region.binds .any e = true → d e.on = true) (hun : ∀ j, j < l.length → d j = false → v j = slotsOf l a j)
    (hqv : ∀ p ∈ qv, d p.1 = true → v p.1 = p.2) (K : Act → World → Prop) :
    ∀ (hs : List (Nat × (List Value → World → Prop))) (cur : World → Prop) (acc : List (Nat × Value)) (prev : Option Nat), chnB l.toArray prev (hs.map (·.1)) = true → (hs.map (·.1)).Nodup → (∃ p ∈ hs, p.1 = i) → (∀ q, prev = some q → d q = true) → (∀ p ∈ acc, v p.1 = p.2) →
      (∀ p ∈ acc, p.1 ≠ i) → ChnSteps P Q qv l a cur acc hs → stg d v w' cur (acc.map (·.2)) hs →
      (∀ x w'', stg (dnx d i) (setAt v i x) w'' cur (acc.map (·.2)) hs → K (A.put o.dst x) w'') → o.wp P A w' K Q
  | [], _, _, _, _, _, hex, _, _, _, _, _, _ => by obtain ⟨p, hp, _⟩ := hex; cases hp
  | (h, S) :: r, cur, acc, prev, hB, hnd, hex, hpr, hacc, hne, hst, hsg, hK => by
    simp only [List.map_cons, chnB, Bool.and_eq_true] at hB
    simp only [List.map_cons, List.nodup_cons] at hnd
    by_cases hi : h = i
    · subst hi
      unfold stg at hsg
      rw [hdi, if_neg (by decide)] at hsg
      refine hst.1 o ho v w' A hA hsg hacc (fun p hp ⟨e, he, hbd, hon⟩ => hqv p hp (by rw [← hon]; exact hw e he hbd)) (fun j hj ⟨oj, hoj, e, he, hbd, hon⟩ => hun j hj ?_) K fun x w'' hS => hK x w'' ?_
      · cases hq : d j with
        | false => rfl
        | true =>
          have h1 := hcl j oj hoj hq e he hbd
          rw [hon, hdi] at h1
          cases h1
      · unfold stg
        have e1 : dnx d h h = true := if_pos rfl
        have e2 : setAt v h x h = x := if_pos rfl
        rw [e1, e2, if_pos rfl]
        cases r with
        | nil => exact hS
        | cons p r =>
          obtain ⟨h2, S2⟩ := p
          unfold stg
          have hh : h2 ≠ h := fun e => hnd.1 (by rw [e]; simp)
          have h2f : d h2 = false := by
            cases hq : d h2 with
            | false => rfl
            | true =>
              have hB2 := hB.2
              simp only [List.map_cons, chnB, Bool.and_eq_true] at hB2
              have h3 := hB2.1
              rw [List.getElem?_toArray] at h3
              cases ho2 : l[h2]? with
              | none => rw [ho2] at h3; cases h3
              | some o2 =>
                rw [ho2] at h3
                obtain ⟨e, he, h4⟩ := List.any_eq_true.1 h3
                simp only [Bool.and_eq_true, beq_iff_eq] at h4
                have h5 := hcl h2 o2 ho2 hq e (by simpa using he) h4.1
                rw [h4.2, hdi] at h5
                cases h5
          have e3 : dnx d h h2 = false := (if_neg hh).trans h2f
          rw [e3, if_neg (by decide)]
          exact hS
    · have hdh : d h = true := by
        obtain ⟨p, hp, hpi⟩ := hex
        -- i stands further along, so h has been done
        have key : ∀ (r : List (Nat × (List Value → World → Prop))) (q : Nat), chnB l.toArray (some q) (r.map (·.1)) = true → (∃ p ∈ r, p.1 = i) → (∀ e ∈ o.after, Region.binds .any e = true → d e.on = true) → d q = true := by
          intro r
          induction r with
          | nil => intro q _ h; obtain ⟨p, hp, _⟩ := h; cases hp
          | cons p r ih =>
            intro q hb hex' hw'
            obtain ⟨h2, S2⟩ := p
            simp only [List.map_cons, chnB, Bool.and_eq_true] at hb
            have h3 := hb.1
            rw [List.getElem?_toArray] at h3
            cases ho2 : l[h2]? with
            | none => rw [ho2] at h3; cases h3
            | some o2 =>
              rw [ho2] at h3
              obtain ⟨e, he, h4⟩ := List.any_eq_true.1 h3
              simp only [Bool.and_eq_true, beq_iff_eq] at h4
              by_cases h2i : h2 = i
              · subst h2i
                obtain rfl : o2 = o := Option.some.inj (ho2.symm.trans ho)
                have := hw' e (by simpa using he) h4.1
                rwa [h4.2] at this
              · have hd2 : d h2 = true := ih h2 hb.2 (by
                  obtain ⟨p, hp, hpi⟩ := hex'
                  rcases List.mem_cons.1 hp with rfl | hp
                  · exact absurd hpi h2i
                  · exact ⟨p, hp, hpi⟩) hw'
                have := hcl h2 o2 ho2 hd2 e (by simpa using he) h4.1
                rwa [h4.2] at this
        exact key r h hB.2 (by
          rcases List.mem_cons.1 hp with rfl | hp
          · exact absurd hpi hi
          · exact ⟨p, hp, hpi⟩) hw
      unfold stg at hsg
      rw [hdh, if_pos rfl] at hsg
      have em : (acc ++ [(h, v h)]).map (·.2) = acc.map (·.2) ++ [v h] := by simp
      refine chn_step ho hA hdi hw hcl hun hqv K r _ (acc ++ [(h, v h)]) (some h) hB.2 hnd.2 ?_ (fun q e => by injection e with e; rw [← e]; exact hdh) (fun p hp => ?_) (fun p hp => ?_) (hst.2 (v h)) (by rw [em]; exact hsg) fun x w'' h3 => hK x w'' ?_
      · obtain ⟨p, hp, hpi⟩ := hex
        rcases List.mem_cons.1 hp with rfl | hp
        · exact absurd hpi hi
        · exact ⟨p, hp, hpi⟩
      · rcases List.mem_append.1 hp with hp | hp
        · exact hacc p hp
        · rw [List.mem_singleton.1 hp]
      · rcases List.mem_append.1 hp with hp | hp
        · exact hne p hp
        · rw [List.mem_singleton.1 hp]; exact hi
      · unfold stg
        have e1 : dnx d i h = true := (if_neg hi).trans hdh
        have e2 : setAt v i x h = v h := if_neg hi
        rw [e1, e2, if_pos rfl]
        rw [em] at h3
        exact h3
theorem chn_end {l : List Oper} {a : Act} {qv : List (Nat × Value)} {d : Nat → Bool} {v : Nat → Value} {w' : World} (hqv : ∀ p ∈ qv, v p.1 = p.2) :
    ∀ (hs : List (Nat × (List Value → World → Prop))) (cur : World → Prop) (acc : List (Nat × Value)), (∀ p ∈ hs, d p.1 = true) → (∀ p ∈ acc, v p.1 = p.2) → ChnEnd l a qv Q cur acc hs → stg d v w' cur (acc.map (·.2)) hs → Q .normal (putAll l v 0 a) w'
  | [], _, _, _, hacc, hE, hsg => hE v w' hsg hacc hqv
  | (h, S) :: r, cur, acc, hd, hacc, hE, hsg => by
    unfold stg at hsg
    rw [hd (h, S) (List.mem_cons_self ..), if_pos rfl] at hsg
    have em : (acc ++ [(h, v h)]).map (·.2) = acc.map (·.2) ++ [v h] := by simp
    refine chn_end hqv r _ (acc ++ [(h, v h)]) (fun p hp => hd p (List.mem_cons_of_mem _ hp)) (fun p hp => ?_) (hE (v h)) (by rw [em]; exact hsg)
    rcases List.mem_append.1 hp with hp | hp
    · exact hacc p hp
    · rw [List.mem_singleton.1 hp]
theorem nodup_fst {β : Type} : ∀ (l : List (Nat × β)), (l.map (·.1)).Nodup → ∀ p ∈ l, ∀ q ∈ l, q.1 = p.1 → q = p
  | [], _, _, hp, _, _, _ => by cases hp
  | x :: l, hn, p, hp, q, hq, e => by
    simp only [List.map_cons, List.nodup_cons] at hn
    rcases List.mem_cons.1 hp with e1 | hp'
    · rcases List.mem_cons.1 hq with e2 | hq'
      · rw [e1, e2]
      · exact absurd (show x.1 ∈ l.map (·.1) from List.mem_map.2 ⟨q, hq', by rw [e, e1]⟩) hn.1
    · rcases List.mem_cons.1 hq with e2 | hq'
      · exact absurd (show x.1 ∈ l.map (·.1) from List.mem_map.2 ⟨p, hp', by rw [← e, e2]⟩) hn.1
      · exact nodup_fst l hn.2 p hp' q hq' e
/-- what is asked of the chain: no guards; each operation reads or is of the chain -/
def chainOk (ops : Array Oper) (qs hs : List Nat) : Bool :=
  (ops.toList.all fun o => o.guard == none) && ((List.range ops.size).all fun i => (qs.contains i != hs.contains i)) && (qs.all fun i => decide (i < ops.size)) && (hs.all fun i => decide (i < ops.size)) && chnB ops none hs && decide hs.Nodup && decide qs.Nodup
theorem region_chain {id : Nat} {l : List Oper} {a : Act} {w : World} (C : World → Prop) (qv : List (Nat × Value)) (hs : List (Nat × (List Value → World → Prop))) (S0 : World → Prop) (n : Nat) (hm : P.follows .mixedOrders = true) (hn : a.tmps.size = n) (hB : simB l.toArray n = true)
    (hC : chainOk l.toArray (qv.map (·.1)) (hs.map (·.1)) = true)
    (h0 : ∀ w', Below w.heap.size w w' → w'.heap = w.heap → S0 w') (hC0 : ∀ w, S0 w → C w) (hCs : ∀ p ∈ hs, ∀ xs w, p.2 xs w → C w)
    (hq : ∀ p ∈ qv, QuStep P Q C qv l a p) (hh : ChnSteps P Q qv l a S0 [] hs) (hend : ChnEnd l a qv Q S0 [] hs) : (Code.region id l.toArray true).wp P Q a w := by
  simp only [chainOk, Bool.and_eq_true, decide_eq_true_eq] at hC
  obtain ⟨⟨⟨⟨⟨⟨hg, hcov⟩, hqb⟩, hhb⟩, hcn⟩, hnd⟩, hqn⟩ := hC
  have hgd : ∀ o ∈ l, o.guard = none := fun o ho => by
    have := List.all_eq_true.1 hg o (by simpa using ho)
    simpa using this
  have hcov' : ∀ i, i < l.length → ((qv.map (·.1)).contains i) ≠ ((hs.map (·.1)).contains i) := fun i hi => by
    have := List.all_eq_true.1 hcov i (List.mem_range.2 (by simpa using hi))
    simpa using this
  refine wp_region_any hm ?_
  have key := any_of_J (P := P) (Q := Q) (l := l) (a := a) (fun d v w' => (∀ p ∈ qv, d p.1 = true → v p.1 = p.2) ∧ stg d v w' S0 [] hs) n hn hB hgd
    (fun d d' v w' he ⟨h1, h2⟩ => by
      refine ⟨fun p hp hd => h1 p hp ?_, ?_⟩
      · have := List.all_eq_true.1 hqb p.1 (List.mem_map.2 ⟨p, hp, rfl⟩)
        rw [he p.1 (by simpa using this)]; exact hd
      · have : ∀ (hs : List (Nat × (List Value → World → Prop))) cur acc, (∀ p ∈ hs, d p.1 = d' p.1) → stg d v w' cur acc hs → stg d' v w' cur acc hs := by
          intro hs
          induction hs with
          | nil => intro cur acc _ h; exact h
          | cons p r ih =>
            obtain ⟨g, S⟩ := p
            intro cur acc hd h
            have e := hd (g, S) (List.mem_cons_self ..)
            change d g = d' g at e
            unfold stg at h ⊢
            rw [← e]
            split
            · rename_i h3
              rw [if_pos h3] at h
              exact ih _ _ (fun p hp => hd p (List.mem_cons_of_mem _ hp)) h
            · rename_i h3
              rw [if_neg h3] at h
              exact h
        refine this hs _ _ (fun p hp => he p.1 ?_) h2
        have := List.all_eq_true.1 hhb p.1 (List.mem_map.2 ⟨p, hp, rfl⟩)
        simpa using this)
    (fun i o ho d v w' A hA ⟨h1, h2⟩ hdi hw hcl hun K hK => by
      have hil : i < l.length := (List.getElem?_eq_some_iff.1 ho).1
      by_cases hiq : (qv.map (·.1)).contains i = true
      · obtain ⟨p, hp, hpi⟩ := List.mem_map.1 (List.contains_iff_mem.1 hiq)
        have hnh : ∀ p ∈ hs, p.1 ≠ i := fun p hp e => by
          have h3 : (hs.map (·.1)).contains i = true := by
            simp only [List.contains_iff_mem]
            exact List.mem_map.2 ⟨p, hp, e⟩
          exact hcov' i hil (by rw [hiq, h3])
        subst hpi
        refine hq p hp o ho v w' A hA (stg_C hs S0 [] hC0 hCs h2) (fun q hq' ⟨e, he, hbd, hon⟩ => h1 q hq' (by rw [← hon]; exact hw e he hbd)) (fun j hj ⟨oj, hoj, e, he, hbd, hon⟩ => hun j hj ?_) K (hK _ _ ⟨fun q hq' hd => ?_, stg_kept hs _ _ hnh h2⟩)
        · cases hqd : d j with
          | false => rfl
          | true =>
            have h3 := hcl j oj hoj hqd e he hbd
            rw [hon, hdi] at h3
            cases h3
        · unfold setAt
          unfold dnx at hd
          by_cases hqp : q.1 = p.1
          · rw [if_pos hqp]
            rw [nodup_fst qv hqn p hp q hq' hqp]
          · rw [if_neg hqp] at hd ⊢
            exact h1 q hq' hd
      · have hih : (hs.map (·.1)).contains i = true := by
          have h3 := hcov' i hil
          cases h4 : (hs.map (·.1)).contains i with
          | true => rfl
          | false =>
            cases h5 : (qv.map (·.1)).contains i with
            | true => exact absurd h5 hiq
            | false => rw [h4, h5] at h3; exact absurd rfl h3
        obtain ⟨p, hp, hpi⟩ := List.mem_map.1 (List.contains_iff_mem.1 hih)
        have hnq : ∀ q ∈ qv, q.1 ≠ i := fun q hq' e => hiq (by
          simp only [List.contains_iff_mem]
          exact List.mem_map.2 ⟨q, hq', e⟩)
        refine chn_step ho hA hdi hw hcl hun h1 K hs S0 [] none hcn hnd ⟨p, hp, hpi⟩ (fun q e => by cases e) (fun p hp => by cases hp) (fun p hp => by cases hp) hh h2 fun x w'' h3 => hK x w'' ⟨fun q hq' hd => ?_, h3⟩
        have hqi := hnq q hq'
        unfold dnx at hd
        rw [if_neg hqi] at hd
        unfold setAt
        rw [if_neg hqi]
        exact h1 q hq' hd)
    (fun d v w' hall ⟨h1, h2⟩ => by
      have hq1 : ∀ p ∈ qv, v p.1 = p.2 := fun p hp => h1 p hp (hall p.1 (by
        have := List.all_eq_true.1 hqb p.1 (List.mem_map.2 ⟨p, hp, rfl⟩)
        simpa using this))
      exact chn_end hq1 hs S0 [] (fun p hp => hall p.1 (by
        have := List.all_eq_true.1 hhb p.1 (List.mem_map.2 ⟨p, hp, rfl⟩)
        simpa using this)) (fun p hp => by cases hp) hend h2)
    l.length (Array.replicate l.toArray.size false) (slotsOf l a) { w with drawn := w.drawn + 1 } (by simp)
    (by
      unfold left
      have : (List.range l.length).countP (fun i => !(Array.replicate l.toArray.size false).getD i true) = (List.range l.length).length := by
        rw [List.countP_eq_length]
        intro i hi
        have hin : i < l.length := by simpa using hi
        have h1 : (Array.replicate l.toArray.size false).getD i true = false := getD_in (by simpa using hin) (getD_replicate_false _ _)
        rw [h1]; rfl
      rw [this]; simp)
    ⟨fun p hp hd => by
      change (Array.replicate l.toArray.size false).getD p.1 true = true at hd
      have h1 := List.all_eq_true.1 hqb p.1 (List.mem_map.2 ⟨p, hp, rfl⟩)
      have h2 : (Array.replicate l.toArray.size false).getD p.1 true = false := getD_in (by simpa using h1) (getD_replicate_false _ _)
      rw [h2] at hd
      exact absurd hd (by decide), by
      have hS := h0 { w with drawn := w.drawn + 1 } ⟨rfl, rfl, rfl, Nat.le_refl _, fun _ _ => rfl⟩ rfl
      cases hs with
      | nil => exact hS
      | cons p r =>
        obtain ⟨h, S⟩ := p
        unfold stg
        have h1 := List.all_eq_true.1 hhb h (by simp)
        show (if (Array.replicate l.toArray.size false).getD h true = true then _ else _)
        have h2 : (Array.replicate l.toArray.size false).getD h true = false := getD_in (by simpa using h1) (getD_replicate_false _ _)
        rw [h2, if_neg (by decide)]
        exact hS⟩
    (fun i hi _ => rfl)
    (fun i o ho hl => by rw [getD_replicate_false] at hl; cases hl)
  rw [putAll_slots l a (slotsOf l a) 0 (fun j o d ho hd => by unfold slotsOf; rw [Nat.zero_add, ho]; simp only [hd])] at key
  simpa using key
theorem qu_of {α : Type} {l : List α} {h : Nat} {o : α} {Bd : α → Prop} (ho : l[h]? = some o) (hb : Bd o) : ∀ o', l[h]? = some o' → Bd o' := fun o' h' => by
  obtain rfl := Option.some.inj (ho.symm.trans h')
  exact hb
end
end Go.Proofs.YtgpofoggfifnjaaGreatDoor
