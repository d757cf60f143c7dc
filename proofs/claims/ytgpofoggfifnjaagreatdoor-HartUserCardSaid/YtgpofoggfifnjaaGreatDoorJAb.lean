/-
Slices of bytes: what they read as; rows of the call's own; appends; what came in.
Integers of 64 bits under a mask, and turned right.
The steps of a quiet region behind a structure, which nothing unfolds: a skipped operation costs nothing then.
The reference of layer 6: Within and Apart.
The reference of layer 6: its cursor's End and Take.
The reference of layer 6: its cursor's Num.
Layer 6: what package bytes' calls answer; the laws' own example; a cursor that is none.
A region that draws its order and ends in no common operation: each operation once, in whatever order; then the walk behind it.
A region that draws its order, each operation once, in whatever order: facts of what has come up, facts of what is still to come, and what each operation that writes does to the world.
A region that draws its order, each operation once, in whatever order: facts that may speak of several operations' values.
-/
import Derived.Test.YtgpofoggfifnjaaGreatDoorJAa
import Derived.Test.YtgpofoggfifnjaaGreatDoorRows
import Derived.OwnWalk
import Derived.Laws.OwnMore
import Derived.Laws.AppendOwnNone
import Derived.ProofKit
import Derived.OpenShut
import Derived.Deep.DeepHandedRow
import Derived.Lib.SlBytesConst
import Derived.WalkKit
import Derived.Laws.BitsAllLaws
import Derived.BigQuiet
import Derived.IntWalk
import Derived.WalkSpells
import Derived.WalkLawsBesides
import Derived.Outline
import Derived.Lib.Hide
namespace Go.Proofs.YtgpofoggfifnjaaGreatDoor
open Go Go.RowKit Go.ChangeShapes Go.WideShapes Go.ChangeAt

def by8 (b : UInt8) : Value := .int .u8 (b.toNat : Int)
theorem info5 : (Tryz.prog.info? 5).map (fun i => (i.zero, i.size, i.bytes)) = some (some (.int .u8 0), 1, 1) := by kernel_rfl
/-- the slice value reads as the bytes bs, in a block that is there -/
def SlA (w : World) (A : Option Addr) (n c : Nat) (bs : List UInt8) : Prop :=
  bs.length = n ∧ n ≤ c ∧ (0 < n → ∃ b o, A = some ⟨b, o, none⟩ ∧ b < w.heap.size ∧ ∀ j, j < n → w.cell? ⟨b, o + j, none⟩ = some (by8 (bs.getD j 0)))
theorem SlA.below {w w' : World} {A : Option Addr} {n c : Nat} {bs : List UInt8} (h : SlA w A n c bs) (hb : Below w.heap.size w w') : SlA w' A n c bs := by
  refine ⟨h.1, h.2.1, fun hn => ?_⟩
  obtain ⟨b, o, rfl, hlt, hc⟩ := h.2.2 hn
  exact ⟨b, o, rfl, Nat.lt_of_lt_of_le hlt hb.size, fun j hj => (hb.cell (p := ⟨b, o + j, none⟩) hlt).trans (hc j hj)⟩
theorem below_only {a b c : World} {g B : Nat} (h : Below B a b) (k : b.grownBy c (some g)) (hg : B ≤ g) (hB : B ≤ b.heap.size) : Below B a c := h.trans (below_of_only k hg hB)

theorem SlA.grown {w w' : World} {A : Option Addr} {n c : Nat} {bs : List UInt8} {r : Option Nat} (h : SlA w A n c bs) (k : w.grownBy w' r) (hne : ∀ b o, A = some ⟨b, o, none⟩ → 0 < n → r ≠ some b) : SlA w' A n c bs := by
  refine ⟨h.1, h.2.1, fun hn => ?_⟩
  obtain ⟨b, o, rfl, hlt, hc⟩ := h.2.2 hn
  refine ⟨b, o, rfl, Nat.lt_of_lt_of_le hlt k.size, fun j hj => ?_⟩
  have hb := k.block b hlt (fun e => hne b o rfl hn e.symm)
  have hcell := hc j hj
  unfold World.cell? at hcell ⊢
  dsimp only at hcell ⊢
  rw [hb]
  exact hcell
theorem nil_slA (w : World) : SlA w none 0 0 [] := ⟨rfl, Nat.le_refl _, fun h => absurd h (Nat.lt_irrefl _)⟩
theorem own_form {w : World} {base : Nat} {e : TypeId} {size n : Nat} {v : Value} {xs : List Value} (h : w.ownsRow base e size v n xs) : ∃ A c, v = .slice A n c := by
  rcases h.2 with ⟨rfl, rfl⟩ | ⟨g, cap, cur, rfl, _⟩
  · exact ⟨none, 0, rfl⟩
  · exact ⟨_, _, rfl⟩

theorem own_slA {w : World} {base n c : Nat} {A : Option Addr} {bs : List UInt8} (h : w.ownsRow base 5 1 (.slice A n c) n (bs.map by8)) : SlA w A n c bs ∧ (A = none → c = 0) := by
  have hl : bs.length = n := by have := h.1; simpa using this
  rcases h.2 with ⟨hv, h0⟩ | ⟨g, cap, cur, hv, hb, hg, hnc, _⟩
  · have e1 : A = none := by injection hv
    have e2 : c = 0 := by injection hv
    exact ⟨⟨hl, by omega, fun h => absurd h (by omega)⟩, fun _ => e2⟩
  · have e1 : A = some ⟨g, 0, none⟩ := by injection hv
    have e2 : c = cap := by injection hv
    subst e1
    subst e2
    have hlt : g < w.heap.size := (Array.getElem?_eq_some_iff.1 hg).1
    refine ⟨⟨hl, hnc, fun _ => ⟨g, 0, rfl, hlt, fun j hj => ?_⟩⟩, fun h => by cases h⟩
    rw [Nat.zero_add, h.cellAt j (by omega)]
    simp [List.getD_eq_getElem?_getD, show j < bs.length by omega]
theorem own_mono {w : World} {base base' : Nat} {e : TypeId} {size : Nat} {v : Value} {n : Nat} {xs : List Value} (h : w.ownsRow base e size v n xs) (hb : base' ≤ base) : w.ownsRow base' e size v n xs :=
  ⟨h.1, h.2.elim .inl fun ⟨g, cap, cur, h1, h2, h3⟩ => .inr ⟨g, cap, cur, h1, Nat.le_trans hb h2, h3⟩⟩
theorem Has.after {w w' : World} {g : Nat} {t : TypeId} {cs : Array Value} (h : Has w g t cs) (k : Below w.heap.size w w') : Has w' g t cs := h.below k h.lt
theorem has_grown {w w' : World} {g : Nat} {t : TypeId} {cs : Array Value} {o : Option Nat} (h : Has w g t cs) (k : w.grownBy w' o) (hne : ∀ l, o = some l → g ≠ l) : Has w' g t cs :=
  (k.block g h.lt (fun e => hne g e.symm rfl)).trans h
/-- append(v, x...), x a slice of bytes that is there -/
theorem wp_append_bytes {w : World} {ops : Array Oper} {rest : List Oper} {op : Oper} {a : Act} {Q : Exit → Act → World → Prop} (hgd : op.guard = none) (s x : Operand)
    (ho : op.op = .call { callee := .builtin .append, args := #[s, x], argTypes := #[53, 53] }) (base : Nat) (v : Value) (n : Nat) (xs : List Value) (hs : a.eval s = v)
    (hown : w.ownsRow base 5 1 v n xs) (A : Option Addr) (m c : Nat) (hx : a.eval x = .slice A m c) (bs : List UInt8) (hS : SlA w A m c bs) (hnil : A = none → c = 0) (h63 : n + m ≤ 1000000) (hbase : base ≤ w.heap.size)
    (h : ∀ v' w', w'.ownsRow base 5 1 v' (n + m) (xs ++ bs.map by8) → w.grownBy w' v.ownBlock → wpList Tryz.prog ops Q rest (a.put op.dst v') w') : wpList Tryz.prog ops Q (op :: rest) a w := by
  obtain ⟨i5, hi5, hz5, hs5, hb5⟩ := info_parts info5
  have hl : bs.length = m := hS.1
  cases A with
  | none =>
    have hm : m = 0 := by
      rcases Nat.eq_zero_or_pos m with h0 | h0
      · exact h0
      · obtain ⟨b, o, e, _⟩ := hS.2.2 h0
        cases e
    have hc : c = 0 := hnil rfl
    subst hm
    subst hc
    have hbs : bs = [] := List.eq_nil_of_length_eq_zero hl
    subst hbs
    refine wpList_append_own_none hgd s x 53 ho base 5 i5 1 Tryz.underlying53 hi5 v n xs hs hown hx ?_
    exact h v w (by simpa using hown) (World.grownBy.refl w _)
  | some ad =>
    refine wpList_append_own _ hgd s x 53 ho base 5 i5 (.int .u8 0) 1 1 Tryz.underlying53 hi5 hz5 hs5 hb5 rfl (by decide) v n xs hs hown ad m c (bs.map by8) hx (by simp [hl]) (fun j u hj => ?_) (fun u hu => ?_) (by simp only [maxLen]; omega) (by omega) hbase
      (fun v' w' h1 h2 _ => h v' w' h1 h2)
    · have hjm : j < m := by have := (List.getElem?_eq_some_iff.1 hj).1; simpa [hl] using this
      obtain ⟨b, o, e, _, hcell⟩ := hS.2.2 (by omega)
      obtain rfl : ad = ⟨b, o, none⟩ := Option.some.inj e
      rw [Addr.add_mid, hcell j hjm, ← hj]
      simp [List.getD_eq_getElem?_getD, show j < bs.length by omega]
    · obtain ⟨b, _, rfl⟩ := List.mem_map.1 hu
      rfl

/-- append(v, x), one byte -/
theorem wp_append_byte {w : World} {ops : Array Oper} {rest : List Oper} {op : Oper} {a : Act} {Q : Exit → Act → World → Prop} (hgd : op.guard = none) (s x : Operand)
    (ho : op.op = .call { callee := .builtin .append, args := #[s, x], argTypes := #[53, 53] }) (base : Nat) (v : Value) (n : Nat) (xs : List Value) (hs : a.eval s = v)
    (hown : w.ownsRow base 5 1 v n xs) (g : Nat) (hx : a.eval x = .slice (some ⟨g, 0, none⟩) 1 1) (b : UInt8) (hc : w.cell? ⟨g, 0, none⟩ = some (by8 b)) (h63 : n + 1 ≤ 1000000) (hbase : base ≤ w.heap.size)
    (h : ∀ v' w', w'.ownsRow base 5 1 v' (n + 1) (xs ++ [by8 b]) → w.grownBy w' v.ownBlock → wpList Tryz.prog ops Q rest (a.put op.dst v') w') : wpList Tryz.prog ops Q (op :: rest) a w := by
  obtain ⟨i5, hi5, hz5, hs5, hb5⟩ := info_parts info5
  refine wpList_append_own _ hgd s x 53 ho base 5 i5 (.int .u8 0) 1 1 Tryz.underlying53 hi5 hz5 hs5 hb5 rfl (by decide) v n xs hs hown ⟨g, 0, none⟩ 1 1 [by8 b] hx rfl (fun j u hj => ?_) (fun u hu => ?_) (by simp only [maxLen]; omega) (by omega) hbase
    (fun v' w' h1 h2 _ => h v' w' h1 h2)
  · have hj0 : j = 0 := by have := (List.getElem?_eq_some_iff.1 hj).1; simp at this; omega
    subst hj0
    rw [Addr.add_mid, hc, ← hj]
    rfl
  · obtain rfl : u = by8 b := by simpa using hu
    rfl

end Go.Proofs.YtgpofoggfifnjaaGreatDoor
namespace Go.Proofs.YtgpofoggfifnjaaGreatDoor
open Go Go.RowKit

theorem i64_and_mask (k : Int) (j : Nat) (hj : j < 63) : bits .and .i64 k ((2 ^ j - 1 : Nat) : Int) = k % (2 ^ j : Nat) := by
  unfold bits
  have hp : 2 ^ j ≤ 2 ^ 62 := Nat.pow_le_pow_right (by omega) (by omega)
  have h1 : (BitVec.ofInt 64 k &&& BitVec.ofNat 64 (2 ^ j - 1)).toNat = (k % 2 ^ 64).toNat % 2 ^ j := by
    rw [BitVec.toNat_and, BitVec.toNat_ofNat, BitVec.toNat_ofInt, Nat.mod_eq_of_lt (a := 2 ^ j - 1) (by omega), Nat.and_two_pow_sub_one_eq_mod]
    rfl
  have h2 : (((k % 2 ^ 64).toNat % 2 ^ j : Nat) : Int) = k % ((2 ^ j : Nat) : Int) := by
    rw [Int.natCast_emod, Int.toNat_of_nonneg (by omega)]
    refine Int.emod_emod_of_dvd k ?_
    refine ⟨((2 ^ (64 - j) : Nat) : Int), ?_⟩
    rw [← Int.natCast_mul, ← Nat.pow_add, show j + (64 - j) = 64 by omega]
    rfl
  have h3 : 0 ≤ k % ((2 ^ j : Nat) : Int) := Int.emod_nonneg _ (by have := Nat.two_pow_pos j; omega)
  have h4 : k % ((2 ^ j : Nat) : Int) < ((2 ^ j : Nat) : Int) := Int.emod_lt_of_pos _ (by have := Nat.two_pow_pos j; omega)
  simp only [IntKind.bits]
  show IntKind.i64.wrap (((BitVec.ofInt 64 k &&& BitVec.ofInt 64 ((2 ^ j - 1 : Nat) : Int)).toNat : Nat) : Int) = _
  rw [show BitVec.ofInt 64 ((2 ^ j - 1 : Nat) : Int) = BitVec.ofNat 64 (2 ^ j - 1) from BitVec.ofInt_natCast .., h1, h2]
  generalize k % ((2 ^ j : Nat) : Int) = r at *
  simp [IntKind.wrap, IntKind.bits, IntKind.signed]
  omega
theorem i64_and3 (k : Int) : bits .and .i64 k 3 = k % 4 := i64_and_mask k 2 (by omega)
end Go.Proofs.YtgpofoggfifnjaaGreatDoor
namespace Go.Proofs.YtgpofoggfifnjaaGreatDoor
open Go Go.RowKit

structure WQ (P : Program) (ops : Array Oper) (C : World → Prop) (L : Act → Prop) (rest : List Oper) (a : Act) : Prop where
  out : wpQuiet P ops C L rest a
section
variable {P : Program} {ops : Array Oper} {C : World → Prop} {L : Act → Prop} {rest rest' : List Oper} {a a' : Act} {o : Oper}
theorem WQ.lift (h : wpQuiet P ops C L rest a → wpQuiet P ops C L rest' a') (k : WQ P ops C L rest a) : WQ P ops C L rest' a' := ⟨h k.out⟩
end
section
variable {P : Program} {ops : Array Oper} {C : World → Prop} {L : Act → Prop} {rest : List Oper} {a : Act} {o : Oper}
theorem region_quiet_all {id : Nat} {Q : Exit → Act → World → Prop} {a : Act} {w : World} {l : List Oper} (C : World → Prop) (hm : P.follows .mixedOrders = true) (hB : Region.lexB .any l.toArray = true)
    (hC : C { w with drawn := w.drawn + 1 }) (h : wpQuiet P l.toArray C (fun a' => ∀ w', C w' → Q .normal a' w') l a) : (Code.region id l.toArray true).wp P Q a w :=
  wp_region_quiet (C := C) hm hB hC (by simpa using h)
end
end Go.Proofs.YtgpofoggfifnjaaGreatDoor
namespace Go.Proofs.YtgpofoggfifnjaaGreatDoor
open Go Go.RowKit

/-- the n addresses from a on lie within the m addresses from b on -/
def inB (a n b m : Nat) : Bool := decide (b ≤ a ∧ a + n ≤ b + m)
end Go.Proofs.YtgpofoggfifnjaaGreatDoor
namespace Go.Proofs.YtgpofoggfifnjaaGreatDoor
open Go Go.RowKit

end Go.Proofs.YtgpofoggfifnjaaGreatDoor
namespace Go.Proofs.YtgpofoggfifnjaaGreatDoor
open Go Go.RowKit

/-- the number of the m bytes from place j on, the lowest first -/
def leT (f : Nat → Nat) : Nat → Nat → Nat
  | 0, _ => 0
  | m + 1, j => f j + 256 * leT f m (j + 1)
theorem leT_lt {f : Nat → Nat} (hf : ∀ j, f j < 256) : ∀ m j, leT f m j < 256 ^ m
  | 0, _ => by simp [leT]
  | m + 1, j => by
    have h1 := leT_lt hf m (j + 1)
    have h2 := hf j
    show f j + 256 * leT f m (j + 1) < 256 ^ (m + 1)
    rw [Nat.pow_succ]
    omega
def bsN (bs : List UInt8) (j : Nat) : Nat := (bs.getD j 0).toNat
theorem bsN_lt (bs : List UInt8) (j : Nat) : bsN bs j < 256 := (bs.getD j 0).toNat_lt
end Go.Proofs.YtgpofoggfifnjaaGreatDoor
namespace Go.Proofs.YtgpofoggfifnjaaGreatDoor
open Go Go.RowKit

/-- may k bytes be taken -/
def okT (n p : Nat) (bad : Bool) (k : Int) : Bool := !bad && decide (0 ≤ k ∧ k ≤ ((n - p : Nat) : Int))
def tkP (n p : Nat) (bad : Bool) (k : Int) : Nat := if okT n p bad k then p + k.toNat else p
def tkN (bs : List UInt8) (p : Nat) (bad : Bool) (k : Nat) : Nat := if okT bs.length p bad (k : Int) then leT (bsN bs) k p else 0
/-- the low bytes of a number, the lowest first -/
def leB (m : Nat) (x : Nat) : List UInt8 := (List.range m).map fun j => UInt8.ofNat (x / 256 ^ j)
abbrev curAt (g : Nat) : Value := .pointer (some ⟨g, 0, none⟩)
end Go.Proofs.YtgpofoggfifnjaaGreatDoor
namespace Go.Proofs.YtgpofoggfifnjaaGreatDoor
open Go Go.RowKit

section
variable {P : Program} {Q : Exit → Act → World → Prop}
theorem ready_ne2 {ops : Array Oper} {listed : Array Bool} (hb : ∀ (i : Nat) o, ops[i]? = some o → ∀ e ∈ o.after, Region.binds .any e = true → e.on < i) (hsz : listed.size = ops.size) {i : Nat} (hi : i < ops.size) (hun : listed.getD i true = false) :
    Region.ready .any ops listed ≠ [] := by
  induction i using Nat.strongRecOn with
  | _ i ih =>
    obtain ⟨o, ho⟩ : ∃ o, ops[i]? = some o := ⟨ops[i]'(by omega), by simp⟩
    by_cases h : ∀ e ∈ o.after, Region.binds .any e = true → listed.getD e.on false = true
    · exact fun hr => by
        have : i ∈ Region.ready .any ops listed := mem_ready.2 ⟨hun, o, ho, h⟩
        rw [hr] at this
        cases this
    · have h3 : ∃ e ∈ o.after, Region.binds .any e = true ∧ listed.getD e.on false ≠ true := Classical.byContradiction fun hc' => h fun e he hbd => by
        cases hq : listed.getD e.on false with
        | true => rfl
        | false => exact absurd ⟨e, he, hbd, by rw [hq]; simp⟩ hc'
      obtain ⟨e, he, hbd, hne⟩ := h3
      have hlt := hb i o ho e he hbd
      exact ih e.on hlt (by omega) (getD_in (by rw [hsz]; omega) (by simpa using hne))
end
end Go.Proofs.YtgpofoggfifnjaaGreatDoor
namespace Go.Proofs.YtgpofoggfifnjaaGreatDoor
open Go Go.RowKit

section
variable {P : Program} {Q : Exit → Act → World → Prop}
theorem putAll_far (l : List Oper) (d : Tmp) : ∀ (v : Nat → Value) (k : Nat) (a : Act), (∀ o ∈ l, o.dst ≠ some d) → (putAll l v k a).tmps[d]? = a.tmps[d]? := by
  induction l with
  | nil => intro v k a _; rfl
  | cons o r ih =>
    intro v k a h
    show (putAll r v (k + 1) (a.put o.dst (v k))).tmps[d]? = _
    rw [ih _ _ _ fun o' ho' => h o' (List.mem_cons_of_mem _ ho')]
    cases hd : o.dst with
    | none => rfl
    | some d' =>
      have hne : d' ≠ d := fun e => h o (List.mem_cons_self ..) (by rw [hd, e])
      show (a.tmps.setIfInBounds d' (v k))[d]? = _
      rw [Array.getElem?_setIfInBounds_ne hne]
theorem putAll_at (l : List Oper) : ∀ (v : Nat → Value) (k : Nat) (a : Act) (i : Nat) (o : Oper) (d : Tmp), distinctB l = true → l[i]? = some o → o.dst = some d → d < a.tmps.size → (putAll l v k a).tmps[d]? = some (v (k + i)) := by
  induction l with
  | nil => intro v k a i o d _ h; simp at h
  | cons o' r ih =>
    intro v k a i o d hd h ho hsz
    simp only [distinctB, Bool.and_eq_true] at hd
    cases i with
    | zero =>
      obtain rfl : o' = o := by simpa using h
      show (putAll r v (k + 1) (a.put o'.dst (v k))).tmps[d]? = _
      rw [putAll_far r d _ _ _ (fun o2 h2 e => by
        have h1 := hd.1
        rw [ho] at h1
        simp only [List.all_eq_true, bne_iff_ne] at h1
        exact h1 o2 h2 e), ho]
      show (a.tmps.setIfInBounds d (v k))[d]? = _
      rw [Array.getElem?_setIfInBounds_self_of_lt hsz]
      rfl
    | succ i =>
      show (putAll r v (k + 1) (a.put o'.dst (v k))).tmps[d]? = _
      have h2 : (a.put o'.dst (v k)).tmps.size = a.tmps.size := by
        cases o'.dst with
        | none => rfl
        | some d => show (a.tmps.setIfInBounds d (v k)).size = _; simp
      rw [ih v (k + 1) _ i o d hd.2 (by simpa using h) ho (by rw [h2]; exact hsz), show k + 1 + i = k + (i + 1) by omega]
/-- a test's value -/
def isB (x : Value) : Option Bool := match x with
  | .bool b => some b
  | _ => none
/-- what is asked of the region: different slots, each in the frame (of n slots); edges lead back; a guard is among the edges -/
def simB (ops : Array Oper) (n : Nat) : Bool :=
  distinctB ops.toList && (ops.toList.all fun o => match o.dst with | some d => decide (d < n) | none => true) &&
  ((List.range ops.size).all fun i => match ops[i]? with
    | some o => (o.after.toList.all fun e => !Region.binds .any e || decide (e.on < i)) && (match o.guard with
      | some (k, _) => (o.after.toList.any fun e => Region.binds .any e && e.on == k) && (match ops[k]? with | some ok => ok.dst.isSome | none => false)
      | none => true)
    | none => true)
/-- the frame A is the frame a with the values v of the operations in their slots -/
def FrameOf (l : List Oper) (a : Act) (v : Nat → Value) (A : Act) : Prop :=
  (∀ (i : Nat) o d, l[i]? = some o → o.dst = some d → A.eval (.tmp d) = v i) ∧ ∀ t, (∀ o ∈ l, o.dst ≠ some t) → A.eval (.tmp t) = a.eval (.tmp t)
/-- what an operation owes: its run, where its guard wants it; else the slot is empty -/
def SimStep (P : Program) (Q : Exit → Act → World → Prop) (F : Nat → Value → World → Prop) (G : Nat → World → Prop) (T : Nat → World → World → Prop) (l : List Oper) (a : Act) (i : Nat) (o : Oper) : Prop :=
  ∀ (v : Nat → Value) w' (A : Act), FrameOf l a v A → G i w' → (∀ e ∈ o.after, Region.binds .any e = true → F e.on (v e.on) w') → (∀ j oj, l[j]? = some oj → (∃ e ∈ oj.after, Region.binds .any e = true ∧ e.on = i) → v j = slotsOf l a j) →
    (match o.guard with
      | none => True
      | some (k, b) => isB (v k) = some b) →
    ∀ K : Act → World → Prop, (∀ x w'', T i w' w'' → F i x w'' → K (A.put o.dst x) w'') → o.wp P A w' K Q
def SimSkip (F : Nat → Value → World → Prop) (T : Nat → World → World → Prop) (i : Nat) (o : Oper) : Prop :=
  match o.guard with
  | none => True
  | some (k, b) => ∀ (v : Nat → Value) w', F k (v k) w' → isB (v k) ≠ some b → F i undef w' ∧ T i w' w'
def SimSteps (P : Program) (Q : Exit → Act → World → Prop) (F : Nat → Value → World → Prop) (G : Nat → World → Prop) (T : Nat → World → World → Prop) (l : List Oper) (a : Act) : List Oper → Nat → Prop
  | [], _ => True
  | o :: r, k => (SimStep P Q F G T l a k o ∧ SimSkip F T k o) ∧ SimSteps P Q F G T l a r (k + 1)
theorem simSteps_at {F : Nat → Value → World → Prop} {G : Nat → World → Prop} {T : Nat → World → World → Prop} {l : List Oper} {a : Act} : ∀ (r : List Oper) (k : Nat), SimSteps P Q F G T l a r k → ∀ i o, r[i]? = some o → SimStep P Q F G T l a (k + i) o ∧ SimSkip F T (k + i) o
  | [], _, _, i, o, h => by simp at h
  | o' :: r, k, hs, i, o, h => by
    cases i with
    | zero =>
      obtain rfl : o' = o := by simpa using h
      exact hs.1
    | succ i =>
      have := simSteps_at r (k + 1) hs.2 i o (by simpa using h)
      rwa [show k + 1 + i = k + (i + 1) by omega] at this
theorem eval_tmp (A : Act) (d : Tmp) (x : Value) (h : A.tmps[d]? = some x) : A.eval (.tmp d) = x := by
  show A.tmps.getD d undef = x
  rw [Array.getD_eq_getD_getElem?, h]
  rfl
theorem frameOf_putAll {l : List Oper} {a : Act} {v : Nat → Value} (hd : distinctB l = true) (hin : ∀ (i : Nat) o d, l[i]? = some o → o.dst = some d → d < a.tmps.size) : FrameOf l a v (putAll l v 0 a) := by
  refine ⟨fun i o d ho hdst => ?_, fun t ht => ?_⟩
  · have := putAll_at l v 0 a i o d hd ho hdst (hin i o d ho hdst)
    rw [Nat.zero_add] at this
    exact eval_tmp _ _ _ this
  · show (putAll l v 0 a).tmps.getD t undef = a.tmps.getD t undef
    rw [Array.getD_eq_getD_getElem?, Array.getD_eq_getD_getElem?, putAll_far l t v 0 a ht]
theorem any_of_sim {l : List Oper} {a : Act} (F : Nat → Value → World → Prop) (G : Nat → World → Prop) (T : Nat → World → World → Prop) (n : Nat) (hn : a.tmps.size = n) (hB : simB l.toArray n = true)
    (hsteps : SimSteps P Q F G T l a l 0)
    (hF : ∀ i j, i < l.length → j < l.length → i ≠ j → Region.waitsFor .any l.toArray i j = false → ∀ x w' w'', F i x w' → T j w' w'' → F i x w'')
    (hG : ∀ i j, i < l.length → j < l.length → i ≠ j → Region.waitsFor .any l.toArray j i = false → ∀ w' w'', G i w' → T j w' w'' → G i w'')
    (hend : ∀ (v : Nat → Value) w', (∀ i, i < l.length → F i (v i) w') → Q .normal (putAll l v 0 a) w') :
    ∀ (f : Nat) (listed : Array Bool) (v : Nat → Value) (w' : World), listed.size = l.length → left listed l.length = f →
      (∀ i, i < l.length → listed.getD i false = true → F i (v i) w') → (∀ i, i < l.length → listed.getD i true = false → G i w' ∧ v i = slotsOf l a i) →
      (∀ i o, l[i]? = some o → listed.getD i false = true → ∀ e ∈ o.after, Region.binds .any e = true → listed.getD e.on false = true) →
      wpAny P .any l.toArray Q f listed (putAll l v 0 a) w' := by
  simp only [simB, Bool.and_eq_true] at hB
  obtain ⟨⟨hd, hdn⟩, hall0⟩ := hB
  have hd' : distinctB l = true := by simpa using hd
  have hin : ∀ (i : Nat) o d, l[i]? = some o → o.dst = some d → d < a.tmps.size := fun i o d ho hdst => by
    have h1 := List.all_eq_true.1 hdn o (List.mem_iff_getElem?.2 ⟨i, ho⟩)
    rw [hdst] at h1
    rw [hn]
    simpa using h1
  have hone : ∀ (i : Nat) o, l[i]? = some o → (∀ e ∈ o.after, Region.binds .any e = true → e.on < i) ∧ (∀ k b, o.guard = some (k, b) → (∃ e ∈ o.after, Region.binds .any e = true ∧ e.on = k) ∧ ∃ ok d, l[k]? = some ok ∧ ok.dst = some d) := fun i o ho => by
    have hi : i < l.length := (List.getElem?_eq_some_iff.1 ho).1
    have h1 := List.all_eq_true.1 hall0 i (List.mem_range.2 (by simpa using hi))
    rw [List.getElem?_toArray, ho] at h1
    simp only [Bool.and_eq_true] at h1
    refine ⟨fun e he hbd => ?_, fun k b hg => ?_⟩
    · have h2 := List.all_eq_true.1 h1.1 e (by simpa using he)
      rw [hbd] at h2
      simpa using h2
    · have h3 := h1.2
      rw [hg] at h3
      simp only [Bool.and_eq_true] at h3
      obtain ⟨e, he, h4⟩ := List.any_eq_true.1 h3.1
      simp only [Bool.and_eq_true, beq_iff_eq] at h4
      refine ⟨⟨e, by simpa using he, h4.1, h4.2⟩, ?_⟩
      have h5 := h3.2
      rw [List.getElem?_toArray] at h5
      cases hk : l[k]? with
      | none => rw [hk] at h5; cases h5
      | some ok =>
        rw [hk] at h5
        obtain ⟨d, hdd⟩ := Option.isSome_iff_exists.1 h5
        exact ⟨ok, d, rfl, hdd⟩
  have hback' : ∀ (i : Nat) o, l.toArray[i]? = some o → ∀ e ∈ o.after, Region.binds .any e = true → e.on < i := fun i o ho => (hone i o (by simpa using ho)).1
  intro f
  induction f with
  | zero =>
    intro listed v w' hsz hl hF' hG' hcl
    have hall := left_zero hl
    refine ⟨?_, hend v w' fun i hi => hF' i hi (getD_of_true (hall i hi) (by omega))⟩
    cases hr : Region.ready .any l.toArray listed with
    | nil => rfl
    | cons i r =>
      have hi : i ∈ Region.ready .any l.toArray listed := by rw [hr]; exact List.mem_cons_self ..
      obtain ⟨hun, o, ho, _⟩ := mem_ready.1 hi
      have hil : i < l.length := by simpa using (Array.getElem?_eq_some_iff.1 ho).1
      rw [hall i hil] at hun
      cases hun
  | succ f ih =>
    intro listed v w' hsz hl hF' hG' hcl
    have hex : ∃ i, i < l.length ∧ listed.getD i true = false := Classical.byContradiction fun hc' => by
      have : left listed l.length = 0 := by
        unfold left
        rw [List.countP_eq_zero]
        intro i hi
        cases hq : listed.getD i true with
        | true => simp
        | false => exact absurd ⟨i, by simpa using hi, hq⟩ hc'
      omega
    obtain ⟨i0, hi0, hun0⟩ := hex
    refine ⟨fun hempty => absurd hempty (ready_ne2 hback' (by simpa using hsz) (by simpa using hi0) hun0), fun i hr => ?_⟩
    obtain ⟨hun, o, ho, hall⟩ := mem_ready.1 hr
    have ho' : l[i]? = some o := by simpa using ho
    have hil : i < l.length := (List.getElem?_eq_some_iff.1 ho').1
    have hset := fun x => putAll_set l v 0 a i o x hd' ho'
    obtain ⟨hstep, hskip⟩ := simSteps_at l 0 hsteps i o ho'
    rw [Nat.zero_add] at hstep hskip
    have hafter : ∀ e ∈ o.after, Region.binds .any e = true → F e.on (v e.on) w' := fun e he hbd => hF' e.on (Nat.lt_trans (hback' i o ho e he hbd) hil) (hall e he hbd)
    have hlate : ∀ j oj, l[j]? = some oj → (∃ e ∈ oj.after, Region.binds .any e = true ∧ e.on = i) → v j = slotsOf l a j := fun j oj hj ⟨e, he, hbd, hon⟩ => by
      have hjl : j < l.length := (List.getElem?_eq_some_iff.1 hj).1
      refine (hG' j hjl ?_).2
      cases hq : listed.getD j true with
      | false => rfl
      | true =>
        have h1 := hcl j oj hj (getD_of_true hq (by omega)) e he hbd
        rw [hon, getD_both hun] at h1
        cases h1
    have hnext : ∀ x w'', T i w' w'' → F i x w'' → wpAny P .any l.toArray Q f (listed.setIfInBounds i true) ((putAll l v 0 a).put o.dst x) w'' := fun x w'' hT hFx => by
      rw [hset x, Nat.zero_add]
      have hw1 : ∀ j, j < l.length → j ≠ i → listed.getD j false = true → Region.waitsFor .any l.toArray j i = false := fun j hj hji hlj => by
        cases hq : Region.waitsFor .any l.toArray j i with
        | false => rfl
        | true =>
          obtain ⟨oj, hoj, e, he, hbd, hon⟩ := Region.waitsFor_spec hq
          have h1 := hcl j oj (by simpa using hoj) hlj e he hbd
          rw [hon, getD_both hun] at h1
          cases h1
      have hw2 : ∀ j, j < l.length → listed.getD j true = false → Region.waitsFor .any l.toArray i j = false := fun j hj hlj => by
        cases hq : Region.waitsFor .any l.toArray i j with
        | false => rfl
        | true =>
          obtain ⟨oi, hoi, e, he, hbd, hon⟩ := Region.waitsFor_spec hq
          obtain rfl : oi = o := Option.some.inj (hoi.symm.trans ho)
          have h1 := hall e he hbd
          rw [hon, getD_both hlj] at h1
          cases h1
      refine ih _ _ w'' (by simpa using hsz) (by have := left_set hil hun; omega) (fun j hj hlj => ?_) (fun j hj hlj => ?_) fun j oj hoj hlj e he hbd => ?_
      · unfold setAt
        by_cases hji : j = i
        · subst hji; rw [if_pos rfl]; exact hFx
        · rw [if_neg hji]
          rw [getD_set_ne false (Ne.symm hji)] at hlj
          exact hF j i hj hil hji (hw1 j hj hji hlj) (v j) w' w'' (hF' j hj hlj) hT
      · by_cases hji : j = i
        · subst hji
          have : (listed.setIfInBounds j true).getD j true = true := by
            have hlt : j < listed.size := by omega
            simp [hlt]
          rw [this] at hlj
          cases hlj
        · rw [getD_set_ne true (Ne.symm hji)] at hlj
          obtain ⟨h1, h2⟩ := hG' j hj hlj
          refine ⟨hG j i hj hil hji (hw2 j hj hlj) w' w'' h1 hT, ?_⟩
          unfold setAt
          rw [if_neg hji]
          exact h2
      · by_cases hei : e.on = i
        · have hlt : i < listed.size := by omega
          rw [hei]
          simp [hlt]
        · rw [getD_set_ne false (Ne.symm hei)]
          by_cases hji : j = i
          · subst hji
            obtain rfl : oj = o := Option.some.inj (hoj.symm.trans ho')
            exact hall e he hbd
          · rw [getD_set_ne false (Ne.symm hji)] at hlj
            exact hcl j oj hoj hlj e he hbd
    unfold wpOp
    simp only [ho]
    cases hgd : o.guard with
    | none =>
      simp only [Region.wanted, hgd, if_true]
      exact .inl (hstep v w' _ (frameOf_putAll hd' hin) (hG' i hil hun).1 hafter hlate (by rw [hgd]; trivial) _ hnext)
    | some kb =>
      obtain ⟨k, b⟩ := kb
      obtain ⟨⟨e, he, hbd, hon⟩, ok, d, hok, hkd⟩ := (hone i o ho').2 k b hgd
      have hFk := hafter e he hbd
      rw [hon] at hFk
      have hy : yielded l.toArray (putAll l v 0 a).tmps k = isB (v k) := by
        unfold yielded
        rw [List.getElem?_toArray, hok]
        show (match (ok.dst).bind ((putAll l v 0 a).tmps[·]?) with | some (.bool b) => some b | _ => none) = _
        rw [hkd]
        show (match (putAll l v 0 a).tmps[d]? with | some (.bool b) => some b | _ => none) = _
        rw [putAll_at l v 0 a k ok d hd' hok hkd (hin k ok d hok hkd), Nat.zero_add]
        cases v k <;> rfl
      simp only [Region.wanted, hgd, hy]
      by_cases hb : isB (v k) = some b
      · rw [if_pos (by rw [hb]; exact beq_self_eq_true _)]
        exact .inl (hstep v w' _ (frameOf_putAll hd' hin) (hG' i hil hun).1 hafter hlate (by rw [hgd]; exact hb) _ hnext)
      · rw [if_neg (by rw [beq_iff_eq]; exact hb)]
        unfold SimSkip at hskip
        rw [hgd] at hskip
        obtain ⟨h1, h2⟩ := hskip v w' hFk hb
        exact hnext _ _ h2 h1
theorem region_sim {id : Nat} {l : List Oper} {a : Act} {w : World} (F : Nat → Value → World → Prop) (G : Nat → World → Prop) (T : Nat → World → World → Prop) (n : Nat) (hm : P.follows .mixedOrders = true) (hn : a.tmps.size = n) (hB : simB l.toArray n = true)
    (h0 : ∀ w', Below w.heap.size w w' → w'.heap = w.heap → ∀ i, i < l.length → G i w')
    (hsteps : SimSteps P Q F G T l a l 0)
    (hF : ∀ i j, i < l.length → j < l.length → i ≠ j → Region.waitsFor .any l.toArray i j = false → ∀ x w' w'', F i x w' → T j w' w'' → F i x w'')
    (hG : ∀ i j, i < l.length → j < l.length → i ≠ j → Region.waitsFor .any l.toArray j i = false → ∀ w' w'', G i w' → T j w' w'' → G i w'')
    (hend : ∀ (v : Nat → Value) w', (∀ i, i < l.length → F i (v i) w') → Q .normal (putAll l v 0 a) w') : (Code.region id l.toArray true).wp P Q a w := by
  refine wp_region_any hm ?_
  have key := any_of_sim F G T n hn hB hsteps hF hG hend l.length (Array.replicate l.toArray.size false) (slotsOf l a) { w with drawn := w.drawn + 1 } (by simp)
    (by
      unfold left
      have : (List.range l.length).countP (fun i => !(Array.replicate l.toArray.size false).getD i true) = (List.range l.length).length := by
        rw [List.countP_eq_length]
        intro i hi
        have hin : i < l.length := by simpa using hi
        have h1 : (Array.replicate l.toArray.size false).getD i true = false := getD_in (by simpa using hin) (getD_replicate_false _ _)
        rw [h1]; rfl
      rw [this]; simp)
    (fun i hi hl => by rw [getD_replicate_false] at hl; cases hl)
    (fun i hi _ => ⟨h0 { w with drawn := w.drawn + 1 } ⟨rfl, rfl, rfl, Nat.le_refl _, fun _ _ => rfl⟩ rfl i hi, rfl⟩)
    (fun i o ho hl => by rw [getD_replicate_false] at hl; cases hl)
  rw [putAll_slots l a (slotsOf l a) 0 (fun j o d ho hd => by unfold slotsOf; rw [Nat.zero_add, ho]; simp only [hd])] at key
  simpa using key
/-- an operation that leaves the world as it is -/
theorem pure_step {o : Oper} {A : Act} {w' : World} {K : Act → World → Prop} (x : Value) (h : ∀ ρ : Operand → Value, ρ = A.eval → (execOp ρ o).run P w' = .ok (.value x) w') (hK : K (A.put o.dst x) w') : o.wp P A w' K Q := by
  unfold Oper.wp
  rw [h A.eval rfl]
  exact hK
theorem new_step {o : Oper} {A : Act} {w' w'' : World} {K : Act → World → Prop} (x : Value) (h : ∀ ρ : Operand → Value, ρ = A.eval → (execOp ρ o).run P w' = .ok (.value x) w'') (hK : K (A.put o.dst x) w'') : o.wp P A w' K Q := by
  unfold Oper.wp
  rw [h A.eval rfl]
  exact hK
theorem call_step {o : Oper} {A : Act} {w' : World} {K : Act → World → Prop} (fn : FuncId) (args : Array Value) (h : ∀ ρ : Operand → Value, ρ = A.eval → (execOp ρ o).run P w' = .ok (.enter fn args) w')
    (hc : Calls P fn args w' fun e w'' => ∃ x, e = .returned x ∧ K (A.put o.dst x) w'') : o.wp P A w' K Q := wp_call_fn fn args (h A.eval rfl) hc

def factL (vals : List Value) (fs : List (Nat × (Value → World → Prop))) (I : World → Prop) (i : Nat) (x : Value) (w : World) : Prop := (match fs.lookup i with
  | some p => p x w
  | none => x = vals.getD i undef) ∧ I w
def needL (gs : List (Nat × (World → Prop))) (I : World → Prop) (i : Nat) (w : World) : Prop := (match gs.lookup i with
  | some g => g w
  | none => True) ∧ I w
def doesL (es : List (Nat × (World → World → Prop))) (i : Nat) (w w' : World) : Prop := match es.lookup i with
  | some t => t w w'
  | none => w' = w
theorem lookup_mem {α : Type} {i : Nat} {p : α} : ∀ {l : List (Nat × α)}, l.lookup i = some p → (i, p) ∈ l
  | [], h => by simp at h
  | (j, q) :: l, h => by
    rw [List.lookup_cons] at h
    by_cases hj : (i == j) = true
    · rw [hj] at h
      have h1 : q = p := by simpa using h
      have h2 : i = j := by simpa using hj
      rw [h1, h2]
      exact List.mem_cons_self ..
    · have hj' : (i == j) = false := by simpa using hj
      rw [hj'] at h
      exact List.mem_cons_of_mem _ (lookup_mem h)
/-- the region, by lists: the values of the operations that have one; facts (fs) of the others; what operations need of the world (gs); what operations do to the world (es); I: what holds of the world all along -/
theorem region_simL {id : Nat} {l : List Oper} {a : Act} {w : World} (vals : List Value) (fs : List (Nat × (Value → World → Prop))) (gs : List (Nat × (World → Prop))) (es : List (Nat × (World → World → Prop))) (I : World → Prop) (n : Nat) (hm : P.follows .mixedOrders = true) (hn : a.tmps.size = n) (hB : simB l.toArray n = true)
    (h0 : ∀ w', Below w.heap.size w w' → w'.heap = w.heap → I w' ∧ ∀ y ∈ gs, y.2 w')
    (hI : ∀ z ∈ es, ∀ w' w'', I w' → z.2 w' w'' → I w'')
    (hF : ∀ y ∈ fs, ∀ z ∈ es, y.1 ≠ z.1 → Region.waitsFor .any l.toArray y.1 z.1 = false → ∀ x w' w'', I w' → y.2 x w' → z.2 w' w'' → y.2 x w'')
    (hG : ∀ y ∈ gs, ∀ z ∈ es, y.1 ≠ z.1 → Region.waitsFor .any l.toArray z.1 y.1 = false → ∀ w' w'', I w' → y.2 w' → z.2 w' w'' → y.2 w'')
    (hsteps : SimSteps P Q (factL vals fs I) (needL gs I) (doesL es) l a l 0)
    (hl : 0 < l.length)
    (hend : ∀ (v : Nat → Value) w', I w' → (∀ i, i < l.length → factL vals fs (fun _ => True) i (v i) w') → Q .normal (putAll l v 0 a) w') : (Code.region id l.toArray true).wp P Q a w := by
  refine region_sim (factL vals fs I) (needL gs I) (doesL es) n hm hn hB (fun w' hb he i hi => ?_) hsteps (fun i j hi hj hij hw x w' w'' h ht => ?_) (fun i j hi hj hij hw w' w'' h ht => ?_) fun v w' h => hend v w' (h 0 hl).2 fun i hi => ⟨(h i hi).1, trivial⟩
  · obtain ⟨h1, h2⟩ := h0 w' hb he
    refine ⟨?_, h1⟩
    split
    · rename_i g hg
      exact h2 _ (lookup_mem hg)
    · trivial
  · obtain ⟨h1, h2⟩ := h
    unfold doesL at ht
    split at ht
    · rename_i t ht'
      refine ⟨?_, hI _ (lookup_mem ht') w' w'' h2 ht⟩
      split
      · rename_i p hp
        rw [hp] at h1
        exact hF _ (lookup_mem hp) _ (lookup_mem ht') hij hw x w' w'' h2 h1 ht
      · rename_i hp
        rw [hp] at h1
        exact h1
    · subst ht
      exact ⟨h1, h2⟩
  · obtain ⟨h1, h2⟩ := h
    unfold doesL at ht
    split at ht
    · rename_i t ht'
      refine ⟨?_, hI _ (lookup_mem ht') w' w'' h2 ht⟩
      split
      · rename_i p hp
        rw [hp] at h1
        exact hG _ (lookup_mem hp) _ (lookup_mem ht') hij hw w' w'' h2 h1 ht
      · trivial
    · subst ht
      exact ⟨h1, h2⟩
end
end Go.Proofs.YtgpofoggfifnjaaGreatDoor
namespace Go.Proofs.YtgpofoggfifnjaaGreatDoor
open Go Go.RowKit

end Go.Proofs.YtgpofoggfifnjaaGreatDoor
