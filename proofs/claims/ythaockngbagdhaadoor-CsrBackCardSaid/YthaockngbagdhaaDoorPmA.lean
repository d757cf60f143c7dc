/-
Layer 12, plain: grants, entries, what they match; a plan permits just its grants.
-/
import Derived.Test.YthaockngbagdhaaDoorMem2
namespace Go.Proofs.YthaockngbagdhaaDoor.Pm
/-- a grant: start, size, rights -/
structure Gr where
  s : Nat
  z : Nat
  r : Int
/-- an entry: way, rights, address -/
structure En where
  w : Int
  r : Int
  a : Nat
def okG (g : Gr) : Bool := decide (g.s % 4 = 0) && decide (g.z % 4 = 0) && decide (g.z ≠ 0) && decide (g.s + g.z ≤ 4294967296) && decide (1 ≤ g.r) && decide (g.r ≤ 7)
def powB (z : Nat) : Bool := (List.range 31).any fun k => decide (z = 4 * 2 ^ k)
def entG (g : Gr) : List En :=
  if g.z = 4 then [⟨2, g.r, g.s / 4⟩]
  else if powB g.z && decide (g.s % g.z = 0) then [⟨3, g.r, g.s / 4 + g.z / 8 - 1⟩]
  else [⟨0, 0, g.s / 4⟩, ⟨1, g.r, (g.s + g.z) / 4⟩]
def entsG : List Gr → List En
  | [] => []
  | g :: l => entG g ++ entsG l
def lastE : En := ⟨3, 0, 536870911⟩
def planE (l : List Gr) : List En := entsG l ++ [lastE]
/-- how many ones a number ends in -/
def onesF : Nat → Nat → Nat
  | 0, _ => 0
  | n + 1, a => if a % 2 = 1 then onesF n (a / 2) + 1 else 0
def napS (a : Nat) : Nat := 8 * 2 ^ onesF 32 a
/-- the bytes of an entry, the one ahead of it at address p -/
def rangeP (p : Nat) (e : En) : Nat × Nat :=
  if e.w = 1 then (if 4 * e.a ≤ 4 * p then (4 * p, 4 * p) else (4 * p, 4 * e.a))
  else if e.w = 2 then (4 * e.a, 4 * e.a + 4)
  else if e.w = 3 then (4 * e.a / napS e.a * napS e.a, 4 * e.a / napS e.a * napS e.a + napS e.a)
  else (0, 0)
/-- a span of bytes with rights -/
structure Sp where
  f : Nat
  t : Nat
  r : Int
def tri (p : Nat) : List En → List Sp
  | [] => []
  | e :: l => ⟨(rangeP p e).1, (rangeP p e).2, e.r⟩ :: tri e.a l
def hasB (q : Sp) (x : Nat) : Bool := decide (q.f ≤ x) && decide (x < q.t)
def byteT : List Sp → Nat → Int
  | [], _ => 0
  | q :: l, x => if hasB q x then q.r else byteT l x
def overB (q : Sp) (at' n : Nat) : Bool := decide (q.f < at' + n) && decide (at' < q.t) && decide (q.f < q.t)
def inB' (q : Sp) (at' n : Nat) : Bool := decide (q.f ≤ at') && decide (at' + n ≤ q.t)
def andR (r : Int) (right : Nat) : Nat := r.toNat &&& right
def checkT : List Sp → Nat → Nat → Nat → Bool
  | [], _, _, _ => false
  | q :: l, at', n, right => if overB q at' n then (inB' q at' n && decide (andR q.r right = right)) else checkT l at' n right
def g2t (g : Gr) : Sp := ⟨g.s, g.s + g.z, g.r⟩
def lastT : Sp := ⟨0, 4294967296, 0⟩
theorem onesF_pow (k : Nat) : ∀ n, k ≤ n → ∀ b, onesF n (b * 2 ^ (k + 1) + 2 ^ k - 1) = k := by
  induction k with
  | zero =>
    intro n hn b
    cases n with
    | zero => rfl
    | succ n =>
      unfold onesF
      rw [if_neg]
      simp only [Nat.pow_zero, Nat.zero_add, Nat.pow_one]
      omega
  | succ k ih =>
    intro n hn b
    cases n with
    | zero => omega
    | succ n =>
      unfold onesF
      have hp := Nat.two_pow_pos k
      have e1 : (2 : Nat) ^ (k + 1 + 1) = 2 * 2 ^ (k + 1) := by rw [Nat.pow_succ]; omega
      have e2 : (2 : Nat) ^ (k + 1) = 2 * 2 ^ k := by rw [Nat.pow_succ]; omega
      have e3 : b * 2 ^ (k + 1 + 1) = 2 * (b * 2 ^ (k + 1)) := by rw [e1, Nat.mul_left_comm]
      have h2 := ih n (by omega) b
      rw [e3]
      rw [e2] at h2 ⊢
      generalize b * (2 * 2 ^ k) = c at *
      generalize 2 ^ k = q at *
      rw [if_pos (by omega), show (2 * c + 2 * q - 1) / 2 = c + q - 1 by omega, h2]
theorem napS_pow (k b : Nat) (hk : k ≤ 32) : napS (b * 2 ^ (k + 1) + 2 ^ k - 1) = 8 * 2 ^ k := by
  unfold napS; rw [onesF_pow k 32 hk b]
theorem powB_some {z : Nat} (h : powB z = true) (h4 : z ≠ 4) : ∃ k, k ≤ 29 ∧ z = 8 * 2 ^ k := by
  unfold powB at h
  obtain ⟨k, hk, hz⟩ := List.any_eq_true.1 h
  have hk := List.mem_range.1 hk
  have hz := of_decide_eq_true hz
  cases k with
  | zero => exact absurd hz h4
  | succ k => exact ⟨k, by omega, by rw [hz, Nat.pow_succ]; omega⟩
theorem okG_parts {g : Gr} (h : okG g = true) : g.s % 4 = 0 ∧ g.z % 4 = 0 ∧ g.z ≠ 0 ∧ g.s + g.z ≤ 4294967296 ∧ 1 ≤ g.r ∧ g.r ≤ 7 := by
  unfold okG at h
  simpa [and_assoc] using h
theorem nap_range (g : Gr) (_h : okG g = true) (h4 : g.z ≠ 4) (hp : powB g.z = true) (hm : g.s % g.z = 0) (p : Nat) :
    rangeP p ⟨3, g.r, g.s / 4 + g.z / 8 - 1⟩ = (g.s, g.s + g.z) := by
  obtain ⟨k, hk, hz⟩ := powB_some hp h4
  have hpos := Nat.two_pow_pos k
  obtain ⟨b, hb⟩ : ∃ b, g.s = g.z * b := ⟨g.s / g.z, by have := Nat.div_add_mod g.s g.z; omega⟩
  have e2 : g.s = 4 * (b * 2 ^ (k + 1)) := by
    rw [hb, hz, Nat.pow_succ, Nat.mul_assoc 8, ← Nat.mul_assoc b, Nat.mul_comm b]
    omega
  have e1 : g.s / 4 + g.z / 8 - 1 = b * 2 ^ (k + 1) + 2 ^ k - 1 := by omega
  have hn := napS_pow k b (by omega)
  unfold rangeP
  simp only [show ¬ (3 : Int) = 1 by decide, show ¬ (3 : Int) = 2 by decide, if_false, if_true]
  rw [e1, hn, ← hz]
  have e4 : 4 * (b * 2 ^ (k + 1) + 2 ^ k - 1) = g.s + (g.z / 2 - 4) := by
    generalize b * 2 ^ (k + 1) = c at *
    omega
  rw [e4, hb]
  have hz8 : 8 ≤ g.z := by omega
  have e5 : (g.z * b + (g.z / 2 - 4)) / g.z = b := by
    rw [Nat.mul_add_div (by omega)]
    rw [Nat.div_eq_of_lt (by omega)]
    omega
  rw [e5, Nat.mul_comm b]
theorem tri_plan {α : Type} (l : List Gr) (hl : ∀ g ∈ l, okG g = true) (f : List Sp → α) (hf : ∀ (pre : List Sp) (q : Sp) (r : List Sp), q.t ≤ q.f → f (pre ++ q :: r) = f (pre ++ r)) (pre : List Sp) : ∀ p, f (pre ++ tri p (planE l)) = f (pre ++ (l.map g2t ++ [lastT])) := by
  induction l generalizing pre with
  | nil => intro p; rfl
  | cons g l ih =>
    intro p
    have hg := hl g (List.mem_cons_self ..)
    have ih := fun pre p => ih (fun g h => hl g (List.mem_cons_of_mem _ h)) pre p
    obtain ⟨k1, k2, k3, k4, k5, k6⟩ := okG_parts hg
    show f (pre ++ tri p ((entG g ++ entsG l) ++ [lastE])) = _
    rw [List.append_assoc]
    show f (pre ++ tri p (entG g ++ planE l)) = _
    unfold entG
    by_cases h4 : g.z = 4
    · rw [if_pos h4]
      have e : rangeP p ⟨2, g.r, g.s / 4⟩ = (g.s, g.s + g.z) := by
        unfold rangeP
        simp only [show ¬ (2 : Int) = 1 by decide, if_false, if_true]
        rw [h4, show 4 * (g.s / 4) = g.s by omega]
      show f (pre ++ (⟨(rangeP p ⟨2, g.r, g.s / 4⟩).1, (rangeP p ⟨2, g.r, g.s / 4⟩).2, g.r⟩ :: tri (g.s / 4) (planE l))) = _
      rw [e]
      have := ih (pre ++ [g2t g]) (g.s / 4)
      simpa [g2t] using this
    · rw [if_neg h4]
      by_cases hp : (powB g.z && decide (g.s % g.z = 0)) = true
      · rw [if_pos hp]
        obtain ⟨hp1, hp2⟩ := Bool.and_eq_true_iff.1 hp
        have e := nap_range g hg h4 hp1 (of_decide_eq_true hp2) p
        show f (pre ++ (⟨(rangeP p ⟨3, g.r, g.s / 4 + g.z / 8 - 1⟩).1, (rangeP p ⟨3, g.r, g.s / 4 + g.z / 8 - 1⟩).2, g.r⟩ :: tri (g.s / 4 + g.z / 8 - 1) (planE l))) = _
        rw [e]
        have := ih (pre ++ [g2t g]) (g.s / 4 + g.z / 8 - 1)
        simpa [g2t] using this
      · rw [if_neg hp]
        have e0 : rangeP p ⟨0, 0, g.s / 4⟩ = (0, 0) := rfl
        have e1 : rangeP (g.s / 4) ⟨1, g.r, (g.s + g.z) / 4⟩ = (g.s, g.s + g.z) := by
          unfold rangeP
          simp only [if_true]
          rw [if_neg (by omega), show 4 * (g.s / 4) = g.s by omega, show 4 * ((g.s + g.z) / 4) = g.s + g.z by omega]
        show f (pre ++ (⟨(rangeP p ⟨0, 0, g.s / 4⟩).1, (rangeP p ⟨0, 0, g.s / 4⟩).2, 0⟩ :: ⟨(rangeP (g.s / 4) ⟨1, g.r, (g.s + g.z) / 4⟩).1, (rangeP (g.s / 4) ⟨1, g.r, (g.s + g.z) / 4⟩).2, g.r⟩ :: tri ((g.s + g.z) / 4) (planE l))) = _
        rw [e0, e1, hf pre _ _ (Nat.le_refl _)]
        have := ih (pre ++ [g2t g]) ((g.s + g.z) / 4)
        simpa [g2t] using this
theorem checkT_skip (at' n right : Nat) (pre : List Sp) (q : Sp) (r : List Sp) (h : q.t ≤ q.f) : checkT (pre ++ q :: r) at' n right = checkT (pre ++ r) at' n right := by
  induction pre with
  | nil =>
    have e : overB q at' n = false := by unfold overB; simp; omega
    show (if overB q at' n then _ else checkT r at' n right) = _
    rw [e]; rfl
  | cons x pre ih =>
    show (if overB x at' n then _ else checkT (pre ++ q :: r) at' n right) = (if overB x at' n then _ else checkT (pre ++ r) at' n right)
    rw [ih]
theorem byteT_skip (x : Nat) (pre : List Sp) (q : Sp) (r : List Sp) (h : q.t ≤ q.f) : byteT (pre ++ q :: r) x = byteT (pre ++ r) x := by
  induction pre with
  | nil =>
    have e : hasB q x = false := by unfold hasB; simp; omega
    show (if hasB q x then _ else byteT r x) = _
    rw [e]; rfl
  | cons y pre ih =>
    show (if hasB y x then _ else byteT (pre ++ q :: r) x) = (if hasB y x then _ else byteT (pre ++ r) x)
    rw [ih]
/-- what a plan permits, by its grants -/
theorem plan_check (l : List Gr) (hl : ∀ g ∈ l, okG g = true) (at' n right : Nat) : checkT (tri 0 (planE l)) at' n right = checkT (l.map g2t ++ [lastT]) at' n right :=
  tri_plan l hl (fun ts => checkT ts at' n right) (fun pre q r h => checkT_skip at' n right pre q r h) [] 0
theorem plan_byte (l : List Gr) (hl : ∀ g ∈ l, okG g = true) (x : Nat) : byteT (tri 0 (planE l)) x = byteT (l.map g2t ++ [lastT]) x :=
  tri_plan l hl (fun ts => byteT ts x) (fun pre q r h => byteT_skip x pre q r h) [] 0
/-- two grants have no byte in common -/
def apartG (g o : Gr) : Bool := decide (g.s + g.z ≤ o.s) || decide (o.s + o.z ≤ g.s)
/-- all are apart -/
def allApart : List Gr → Prop
  | [] => True
  | g :: l => (∀ o ∈ l, apartG g o = true) ∧ allApart l
def withinG (g : Gr) (at' n : Nat) : Bool := decide (g.s ≤ at') && decide (at' + n ≤ g.s + g.z)
def mayB (l : List Gr) (at' n right : Nat) : Bool := l.any fun g => decide (andR g.r right = right) && withinG g at' n
theorem apart_parts {g o : Gr} (h : apartG g o = true) : g.s + g.z ≤ o.s ∨ o.s + o.z ≤ g.s := by
  unfold apartG at h
  simpa using h
/-- an access may be made just if it lies in a grant that has the right -/
theorem check_may (l : List Gr) (hl : ∀ g ∈ l, okG g = true) (ha : allApart l) (at' n right : Nat) (hn : 0 < n) (hr : 0 < right) : checkT (l.map g2t ++ [lastT]) at' n right = mayB l at' n right := by
  induction l with
  | nil =>
    show (if overB lastT at' n then (inB' lastT at' n && decide (andR 0 right = right)) else false) = false
    have e : decide (andR 0 right = right) = false := decide_eq_false (by unfold andR; simp; omega)
    rw [e]; simp
  | cons g l ih =>
    have hg := hl g (List.mem_cons_self ..)
    obtain ⟨k1, k2, k3, k4, k5, k6⟩ := okG_parts hg
    have ih := ih (fun g h => hl g (List.mem_cons_of_mem _ h)) ha.2
    show (if overB (g2t g) at' n then (inB' (g2t g) at' n && decide (andR g.r right = right)) else checkT (l.map g2t ++ [lastT]) at' n right) = ((decide (andR g.r right = right) && withinG g at' n) || mayB l at' n right)
    have ew : inB' (g2t g) at' n = withinG g at' n := rfl
    cases ho : overB (g2t g) at' n with
    | true =>
      rw [if_pos rfl, ew]
      unfold overB g2t at ho
      simp at ho
      have hno : mayB l at' n right = false ∨ withinG g at' n = true ∨ True := Or.inr (Or.inr trivial)
      clear hno
      have hml : mayB l at' n right = false := by
        unfold mayB
        rw [List.any_eq_false]
        intro o hm
        have hap := apart_parts (ha.1 o hm)
        have hwo : withinG o at' n = false := by
          unfold withinG
          rw [Bool.and_eq_false_iff]
          rcases hap with h | h
          · left; exact decide_eq_false (by omega)
          · right; exact decide_eq_false (by omega)
        rw [hwo]; simp
      rw [hml]
      cases withinG g at' n <;> cases decide (andR g.r right = right) <;> rfl
    | false =>
      rw [if_neg (by decide), ih]
      have hw : withinG g at' n = false := by
        unfold overB g2t at ho
        unfold withinG
        cases h1 : decide (g.s ≤ at') with
        | false => rfl
        | true =>
          have h1 := of_decide_eq_true h1
          rw [Bool.true_and]
          refine decide_eq_false fun h2 => ?_
          simp at ho
          omega
      rw [hw]; simp
/- runs -/
/-- runs: ascending, apart, as long as may be, and what they say of each byte -/
structure RunsOf (b : Nat → Int) (rs : List Sp) : Prop where
  one : ∀ q ∈ rs, q.f < q.t ∧ q.t ≤ 4294967296 ∧ q.r ≠ 0
  asc : ∀ i, ∀ (h : i + 1 < rs.length), (rs[i]'(by omega)).t < (rs[i + 1]).f ∨ ((rs[i]'(by omega)).t = (rs[i + 1]).f ∧ (rs[i]'(by omega)).r ≠ (rs[i + 1]).r)
  say : ∀ x, x < 4294967296 → b x = byteT rs x
/- runs -/
theorem asc_all {b : Nat → Int} {rs : List Sp} (h : RunsOf b rs) : ∀ (i j : Nat) (hij : i < j) (hj : j < rs.length), (rs[i]'(by omega)).t ≤ (rs[j]'hj).f := by
  intro i j hij hj
  induction j with
  | zero => omega
  | succ j ih =>
    have h1 := h.asc j hj
    by_cases e : i = j
    · subst e; rcases h1 with h1 | h1 <;> omega
    · have h2 := ih (by omega) (by omega)
      have h3 := (h.one (rs[j]'(by omega)) (List.getElem_mem _)).1
      rcases h1 with h1 | h1 <;> omega
theorem hasB_iff (q : Sp) (x : Nat) : hasB q x = true ↔ q.f ≤ x ∧ x < q.t := by unfold hasB; simp
theorem byteT_no {rs : List Sp} {x : Nat} (h : ∀ q ∈ rs, hasB q x = false) : byteT rs x = 0 := by
  induction rs with
  | nil => rfl
  | cons q l ih =>
    show (if hasB q x then _ else byteT l x) = 0
    rw [h q (List.mem_cons_self ..), if_neg (by decide)]
    exact ih fun o ho => h o (List.mem_cons_of_mem _ ho)
theorem byteT_cases (rs : List Sp) (x : Nat) : (byteT rs x = 0 ∧ ∀ q ∈ rs, hasB q x = false) ∨ ∃ (i : Nat) (hi : i < rs.length), hasB rs[i] x = true ∧ byteT rs x = rs[i].r := by
  induction rs with
  | nil => exact Or.inl ⟨rfl, fun q h => by cases h⟩
  | cons q l ih =>
    by_cases hq : hasB q x = true
    · exact Or.inr ⟨0, by simp, hq, by show (if hasB q x then _ else _) = _; rw [if_pos hq]; rfl⟩
    · have e : byteT (q :: l) x = byteT l x := by show (if hasB q x then _ else _) = _; rw [if_neg hq]
      rcases ih with ⟨h1, h2⟩ | ⟨i, hi, h1, h2⟩
      · exact Or.inl ⟨by rw [e, h1], fun o ho => by
          rcases List.mem_cons.1 ho with rfl | ho
          · simpa using hq
          · exact h2 o ho⟩
      · exact Or.inr ⟨i + 1, by simp; omega, by simpa using h1, by rw [e, h2]; simp⟩
theorem run_one {b : Nat → Int} {rs : List Sp} (h : RunsOf b rs) {i j x : Nat} (hi : i < rs.length) (hj : j < rs.length) (h1 : hasB rs[i] x = true) (h2 : hasB rs[j] x = true) : i = j := by
  have a1 := (hasB_iff _ _).1 h1
  have a2 := (hasB_iff _ _).1 h2
  rcases Nat.lt_trichotomy i j with h3 | h3 | h3
  · have := asc_all h i j h3 hj; omega
  · exact h3
  · have := asc_all h j i h3 hi; omega
theorem run_byte {b : Nat → Int} {rs : List Sp} (h : RunsOf b rs) {i x : Nat} (hi : i < rs.length) (h1 : hasB rs[i] x = true) : byteT rs x = rs[i].r := by
  rcases byteT_cases rs x with ⟨_, h2⟩ | ⟨j, hj, h2, h3⟩
  · rw [h2 _ (List.getElem_mem hi)] at h1; cases h1
  · have := run_one h hi hj h1 h2
    subst this; exact h3
theorem run_at {b : Nat → Int} {rs : List Sp} (h : RunsOf b rs) {i x : Nat} (hi : i < rs.length) (h1 : hasB rs[i] x = true) : b x = rs[i].r := by
  have h2 := (hasB_iff _ _).1 h1
  have h3 := (h.one _ (List.getElem_mem hi)).2.1
  rw [h.say x (by omega)]; exact run_byte h hi h1
/-- both ends of a run are as they should be, and what is behind them isn't -/
theorem run_ends {b : Nat → Int} {rs : List Sp} (h : RunsOf b rs) (i : Nat) (hi : i < rs.length) :
    b rs[i].f = rs[i].r ∧ b (rs[i].t - 1) = rs[i].r ∧ (0 < rs[i].f → b (rs[i].f - 1) ≠ rs[i].r) ∧ (rs[i].t < 4294967296 → b rs[i].t ≠ rs[i].r) := by
  obtain ⟨k1, k2, k3⟩ := h.one _ (List.getElem_mem hi)
  refine ⟨run_at h hi ((hasB_iff _ _).2 (by omega)), run_at h hi ((hasB_iff _ _).2 (by omega)), fun h0 => ?_, fun h0 => ?_⟩
  · rw [h.say _ (by omega)]
    rcases byteT_cases rs (rs[i].f - 1) with ⟨e, _⟩ | ⟨j, hj, h2, e⟩
    · rw [e]; exact fun e => k3 e.symm
    · rw [e]
      have a := (hasB_iff _ _).1 h2
      rcases Nat.lt_trichotomy j i with h3 | h3 | h3
      · by_cases h4 : j + 1 = i
        · subst h4
          rcases h.asc j hi with h5 | h5
          · omega
          · exact h5.2
        · have h5 := asc_all h j (i - 1) (by omega) (by omega)
          have h6 := asc_all h (i - 1) i (by omega) hi
          have h7 := (h.one (rs[i - 1]'(by omega)) (List.getElem_mem _)).1
          omega
      · subst h3; omega
      · have := asc_all h i j h3 hj; omega
  · rw [h.say _ h0]
    rcases byteT_cases rs rs[i].t with ⟨e, _⟩ | ⟨j, hj, h2, e⟩
    · rw [e]; exact fun e => k3 e.symm
    · rw [e]
      have a := (hasB_iff _ _).1 h2
      rcases Nat.lt_trichotomy j i with h3 | h3 | h3
      · have := asc_all h j i h3 hi; omega
      · subst h3; omega
      · by_cases h4 : i + 1 = j
        · subst h4
          rcases h.asc i hj with h5 | h5
          · omega
          · exact fun e => h5.2 e.symm
        · have h5 := asc_all h i (i + 1) (by omega) (by omega)
          have h6 := asc_all h (i + 1) j (by omega) hj
          have h7 := (h.one (rs[i + 1]'(by omega)) (List.getElem_mem _)).1
          omega
/- how many bytes -/
def cnt (p : Nat → Bool) : Nat → Nat
  | 0 => 0
  | n + 1 => cnt p n + (if p n then 1 else 0)
theorem cnt_ext {p q : Nat → Bool} : ∀ n, (∀ x, x < n → p x = q x) → cnt p n = cnt q n
  | 0, _ => rfl
  | n + 1, h => by
    show cnt p n + _ = cnt q n + _
    rw [cnt_ext n (fun x hx => h x (by omega)), h n (by omega)]
theorem cnt_or {p q : Nat → Bool} : ∀ n, (∀ x, x < n → (p x && q x) = false) → cnt (fun x => p x || q x) n = cnt p n + cnt q n
  | 0, _ => rfl
  | n + 1, h => by
    show cnt _ n + _ = (cnt p n + _) + (cnt q n + _)
    rw [cnt_or n (fun x hx => h x (by omega))]
    have := h n (by omega)
    cases hp : p n <;> cases hq : q n <;> simp_all <;> omega
theorem cnt_none : ∀ n, cnt (fun _ => false) n = 0
  | 0 => rfl
  | n + 1 => by show cnt _ n + _ = 0; rw [cnt_none n]; rfl
theorem cnt_span (q : Sp) (h : q.f ≤ q.t) : ∀ n, cnt (hasB q) n = min q.t n - min q.f n
  | 0 => by simp [cnt]
  | n + 1 => by
    show cnt (hasB q) n + _ = _
    rw [cnt_span q h n]
    by_cases h1 : hasB q n = true
    · have a := (hasB_iff _ _).1 h1
      rw [if_pos h1]; omega
    · have a : ¬(q.f ≤ n ∧ n < q.t) := fun h2 => h1 ((hasB_iff _ _).2 h2)
      rw [if_neg h1]; omega
def lens : List Sp → Nat
  | [] => 0
  | q :: l => (q.t - q.f) + lens l
def anyB (l : List Sp) (x : Nat) : Bool := l.any fun q => hasB q x
def disj : List Sp → Prop
  | [] => True
  | q :: l => (∀ o ∈ l, ∀ x, (hasB q x && hasB o x) = false) ∧ disj l
theorem cnt_lens : ∀ (l : List Sp), disj l → (∀ q ∈ l, q.f ≤ q.t ∧ q.t ≤ 4294967296) → cnt (anyB l) 4294967296 = lens l
  | [], _, _ => cnt_none _
  | q :: l, hd, hq => by
    obtain ⟨h1, h2⟩ := hq q (List.mem_cons_self ..)
    have ih := cnt_lens l hd.2 fun o ho => hq o (List.mem_cons_of_mem _ ho)
    have e : cnt (anyB (q :: l)) 4294967296 = cnt (fun x => hasB q x || anyB l x) 4294967296 := cnt_ext _ fun x _ => rfl
    rw [e, cnt_or, ih, cnt_span q h1]
    · show _ = (q.t - q.f) + lens l
      omega
    · intro x _
      cases ho : hasB q x with
      | false => rfl
      | true =>
        rw [Bool.true_and]
        unfold anyB
        rw [List.any_eq_false]
        intro o hm hb
        have := hd.1 o hm x
        rw [ho, hb] at this
        cases this
theorem asc_disj {b : Nat → Int} {rs : List Sp} (h : RunsOf b rs) : disj rs := by
  have hall : ∀ (l : List Sp) (k : Nat), (∀ i (hi : i < l.length), ∃ (hk : k + i < rs.length), l[i] = rs[k + i]) → disj l := by
    intro l
    induction l with
    | nil => intro _ _; trivial
    | cons q l ih =>
      intro k hk
      refine ⟨fun o ho x => ?_, ih (k + 1) fun i hi => ?_⟩
      · obtain ⟨i, hi, rfl⟩ := List.getElem_of_mem ho
        obtain ⟨k0, e0⟩ := hk 0 (by simp)
        obtain ⟨k1, e1⟩ := hk (i + 1) (by simp; omega)
        simp only [List.getElem_cons_zero, List.getElem_cons_succ] at e0 e1
        rw [e0, e1]
        cases h1 : hasB (rs[k + 0]) x with
        | false => rfl
        | true =>
          cases h2 : hasB (rs[k + (i + 1)]) x with
          | false => rfl
          | true => have := run_one h k0 k1 h1 h2; omega
      · obtain ⟨k1, e1⟩ := hk (i + 1) (by simp; omega)
        simp only [List.getElem_cons_succ] at e1
        exact ⟨by omega, by rw [e1]; congr 1; omega⟩
  exact hall rs 0 fun i hi => ⟨by omega, by congr 1; omega⟩
theorem apart_disj (l : List Gr) (ha : allApart l) : disj (l.map g2t) := by
  induction l with
  | nil => trivial
  | cons g l ih =>
    refine ⟨fun o ho x => ?_, ih ha.2⟩
    obtain ⟨o, hm, rfl⟩ := List.mem_map.1 ho
    have := apart_parts (ha.1 o hm)
    cases h1 : hasB (g2t g) x with
    | false => rfl
    | true =>
      cases h2 : hasB (g2t o) x with
      | false => rfl
      | true =>
        have a1 := (hasB_iff _ _).1 h1
        have a2 := (hasB_iff _ _).1 h2
        unfold g2t at a1 a2
        dsimp only at a1 a2
        omega
theorem any_byte (rs : List Sp) (h : ∀ q ∈ rs, q.r ≠ 0) (x : Nat) : anyB rs x = decide (byteT rs x ≠ 0) := by
  rcases byteT_cases rs x with ⟨e, h2⟩ | ⟨i, hi, h2, e⟩
  · rw [e]
    unfold anyB
    rw [List.any_eq_false.2 fun q hq => by rw [h2 q hq]; decide]
    rfl
  · rw [e, decide_eq_true (h _ (List.getElem_mem hi))]
    exact List.any_eq_true.2 ⟨_, List.getElem_mem hi, h2⟩
theorem byteT_last : ∀ (ts : List Sp) (x : Nat), byteT (ts ++ [lastT]) x = byteT ts x
  | [], x => by show (if hasB lastT x then (0 : Int) else 0) = 0; split <;> rfl
  | q :: l, x => by
    show (if hasB q x then _ else byteT (l ++ [lastT]) x) = (if hasB q x then _ else byteT l x)
    rw [byteT_last l x]
/-- the runs of a plan have as many bytes as its grants -/
theorem plan_total (l : List Gr) (hl : ∀ g ∈ l, okG g = true) (ha : allApart l) (rs : List Sp) (h : RunsOf (byteT (l.map g2t ++ [lastT])) rs) : lens rs = lens (l.map g2t) := by
  have hg : ∀ q ∈ l.map g2t, q.f ≤ q.t ∧ q.t ≤ 4294967296 := fun q hq => by
    obtain ⟨g, hm, rfl⟩ := List.mem_map.1 hq
    obtain ⟨k1, k2, k3, k4, k5, k6⟩ := okG_parts (hl g hm)
    exact ⟨Nat.le_add_right _ _, k4⟩
  have hgr : ∀ q ∈ l.map g2t, q.r ≠ 0 := fun q hq => by
    obtain ⟨g, hm, rfl⟩ := List.mem_map.1 hq
    obtain ⟨k1, k2, k3, k4, k5, k6⟩ := okG_parts (hl g hm)
    show g.r ≠ 0
    omega
  rw [← cnt_lens rs (asc_disj h) (fun q hq => by have := h.one q hq; omega), ← cnt_lens _ (apart_disj l ha) hg]
  refine cnt_ext _ fun x hx => ?_
  rw [any_byte rs (fun q hq => (h.one q hq).2.2) x, any_byte _ hgr x, ← h.say x hx, byteT_last]
theorem apart_byte (l : List Gr) (ha : allApart l) (g : Gr) (hm : g ∈ l) (x : Nat) (h1 : g.s ≤ x) (h2 : x < g.s + g.z) : byteT (l.map g2t) x = g.r := by
  induction l with
  | nil => cases hm
  | cons o l ih =>
    show (if hasB (g2t o) x then o.r else byteT (l.map g2t) x) = g.r
    rcases List.mem_cons.1 hm with rfl | hm
    · rw [if_pos ((hasB_iff _ _).2 ⟨h1, h2⟩)]
    · have := apart_parts (ha.1 g hm)
      rw [if_neg (fun h => by have a := (hasB_iff _ _).1 h; unfold g2t at a; dsimp only at a; omega)]
      exact ih ha.2 hm
/-- each grant lies in one run with its rights -/
theorem plan_found (l : List Gr) (hl : ∀ g ∈ l, okG g = true) (ha : allApart l) (rs : List Sp) (h : RunsOf (byteT (l.map g2t ++ [lastT])) rs) (g : Gr) (hm : g ∈ l) : ∃ q ∈ rs, q.f ≤ g.s ∧ g.s + g.z ≤ q.t ∧ q.r = g.r := by
  obtain ⟨k1, k2, k3, k4, k5, k6⟩ := okG_parts (hl g hm)
  have hb : ∀ x, g.s ≤ x → x < g.s + g.z → byteT rs x = g.r := fun x h1 h2 => by
    rw [← h.say x (by omega), byteT_last]; exact apart_byte l ha g hm x h1 h2
  have h0 := hb g.s (Nat.le_refl _) (by omega)
  rcases byteT_cases rs g.s with ⟨e, _⟩ | ⟨i, hi, h1, e⟩
  · omega
  · refine ⟨rs[i], List.getElem_mem hi, ((hasB_iff _ _).1 h1).1, ?_, by rw [← e, h0]⟩
    rcases Nat.lt_or_ge rs[i].t (g.s + g.z) with h2 | h2
    · exfalso
      have a1 := (hasB_iff _ _).1 h1
      have h3 := (run_ends h i hi).2.2.2 (by omega)
      apply h3
      rw [h.say _ (by omega), hb _ (by omega) h2, ← h0, e]
    · exact h2
end Go.Proofs.YthaockngbagdhaaDoor.Pm
