/-
Layer 12, plain: from point to point: what runs are when all spans begin and end at points.
-/
import Derived.Test.YtjpmigagoedbcaaDoorPrN
namespace Go.Proofs.YtjpmigagoedbcaaDoor.Pm
open Go.Lib (compactUpTo keeps)
open Go.Sort (PermIn SortedIn)

/-- runs that are right below z -/
structure RunsTo (b : Nat → Int) (rs : List Sp) (z : Nat) : Prop where
  one : ∀ q ∈ rs, q.f < q.t ∧ q.t ≤ z ∧ q.r ≠ 0
  asc : ∀ i, ∀ (h : i + 1 < rs.length), (rs[i]'(by omega)).t < (rs[i + 1]).f ∨ ((rs[i]'(by omega)).t = (rs[i + 1]).f ∧ (rs[i]'(by omega)).r ≠ (rs[i + 1]).r)
  say : ∀ x, x < z → b x = byteT rs x
theorem RunsTo.start (b : Nat → Int) : RunsTo b [] 0 := ⟨fun _ h => (by cases h), fun i h => absurd h (by simp), fun x h => absurd h (by omega)⟩
theorem RunsTo.done {b : Nat → Int} {rs : List Sp} (h : RunsTo b rs 4294967296) : RunsOf b rs := ⟨h.one, h.asc, h.say⟩
theorem byteT_apA (a c : List Sp) (x : Nat) (h : ∀ q ∈ a, hasB q x = false) : byteT (a ++ c) x = byteT c x := by
  induction a with
  | nil => rfl
  | cons q l ih =>
    show (if hasB q x then _ else byteT (l ++ c) x) = _
    rw [h q (List.mem_cons_self ..), if_neg (by decide)]
    exact ih fun o ho => h o (List.mem_cons_of_mem _ ho)
theorem byteT_appL (a c d : List Sp) (x : Nat) (h : byteT c x = byteT d x) : byteT (a ++ c) x = byteT (a ++ d) x := by
  induction a with
  | nil => exact h
  | cons q l ih =>
    show (if hasB q x then _ else byteT (l ++ c) x) = (if hasB q x then _ else byteT (l ++ d) x)
    rw [ih]
theorem no_has {q : Sp} {z x : Nat} (h : q.t ≤ z) (hx : z ≤ x) : hasB q x = false := by unfold hasB; simp; omega
theorem RunsTo.skip {b : Nat → Int} {rs : List Sp} {z z' : Nat} (h : RunsTo b rs z) (hz : z ≤ z') (hb : ∀ x, z ≤ x → x < z' → b x = 0) : RunsTo b rs z' := by
  refine ⟨fun q hq => ?_, h.asc, fun x hx => ?_⟩
  · have := h.one q hq; exact ⟨this.1, by omega, this.2.2⟩
  · by_cases hxz : x < z
    · exact h.say x hxz
    · rw [hb x (by omega) hx]
      exact (byteT_no fun q hq => no_has (h.one q hq).2.1 (by omega)).symm
theorem RunsTo.more {b : Nat → Int} {rs : List Sp} {z z' : Nat} {r : Int} (h : RunsTo b rs z) (hz : z < z') (hr : r ≠ 0) (hb : ∀ x, z ≤ x → x < z' → b x = r) : RunsTo b (extE rs ⟨z, z', r⟩) z' := by
  have happ : (∀ p, rs.getLast? = some p → ¬(p.t = z ∧ p.r = r)) → RunsTo b (rs ++ [⟨z, z', r⟩]) z' := fun hne => by
    refine ⟨fun q hq => ?_, fun i hi => ?_, fun x hx => ?_⟩
    · rcases List.mem_append.1 hq with hq | hq
      · have := h.one q hq; exact ⟨this.1, by omega, this.2.2⟩
      · rw [List.mem_singleton.1 hq]; exact ⟨hz, Nat.le_refl _, hr⟩
    · rw [List.length_append] at hi
      simp only [List.length_cons, List.length_nil] at hi
      by_cases hi2 : i + 1 < rs.length
      · rw [List.getElem_append_left (by omega), List.getElem_append_left (by omega)]
        exact h.asc i hi2
      · have hil : i + 1 = rs.length := by omega
        have e1 : (rs ++ [(⟨z, z', r⟩ : Sp)])[i + 1]'(by simp; omega) = ⟨z, z', r⟩ := by rw [List.getElem_append_right (by omega)]; simp [hil]
        rw [e1, List.getElem_append_left (by omega)]
        have hm := h.one (rs[i]'(by omega)) (List.getElem_mem _)
        have hl : rs.getLast? = some (rs[i]'(by omega)) := by
          rw [List.getLast?_eq_getElem?, show rs.length - 1 = i by omega, List.getElem?_eq_getElem (by omega)]
        have hn := hne _ hl
        dsimp only
        by_cases hlt : (rs[i]'(by omega)).t < z
        · exact Or.inl hlt
        · have : (rs[i]'(by omega)).t = z := by omega
          exact Or.inr ⟨this, fun e => hn ⟨this, e⟩⟩
    · by_cases hxz : x < z
      · rw [h.say x hxz]
        have e : byteT ([] : List Sp) x = byteT [(⟨z, z', r⟩ : Sp)] x := by
          show (0 : Int) = if hasB ⟨z, z', r⟩ x then r else 0
          rw [if_neg (by unfold hasB; simp; omega)]
        have := byteT_appL rs [] _ x e
        rw [List.append_nil] at this
        exact this
      · rw [hb x (by omega) hx, byteT_apA rs _ x fun q hq => no_has (h.one q hq).2.1 (by omega)]
        show r = if hasB ⟨z, z', r⟩ x then r else 0
        rw [if_pos (by unfold hasB; simp; omega)]
  rcases hl : rs.getLast? with _ | p
  · have e : extE rs ⟨z, z', r⟩ = rs ++ [⟨z, z', r⟩] := by unfold extE; rw [hl]
    rw [e]
    exact happ fun p hp => by rw [hl] at hp; cases hp
  · by_cases hj : p.t = z ∧ p.r = r
    · have hne : rs ≠ [] := fun e => by rw [e] at hl; cases hl
      have hrs : rs = rs.dropLast ++ [p] := by
        have h1 := (List.dropLast_concat_getLast hne).symm
        have h2 : rs.getLast hne = p := by rw [List.getLast?_eq_some_getLast hne] at hl; exact Option.some.inj hl
        rwa [h2] at h1
      have e : extE rs ⟨z, z', r⟩ = rs.dropLast ++ [⟨p.f, z', p.r⟩] := by unfold extE; rw [hl]; exact if_pos hj
      rw [e]
      generalize rs.dropLast = l at *
      subst hrs
      have hp := h.one p (List.mem_append_right _ (List.mem_singleton.2 rfl))
      refine ⟨fun q hq => ?_, fun i hi => ?_, fun x hx => ?_⟩
      · rcases List.mem_append.1 hq with hq | hq
        · have := h.one q (List.mem_append_left _ hq); exact ⟨this.1, by omega, this.2.2⟩
        · rw [List.mem_singleton.1 hq]; exact ⟨by show p.f < z'; omega, Nat.le_refl _, hp.2.2⟩
      · rw [List.length_append] at hi
        simp only [List.length_cons, List.length_nil] at hi
        have h9 := h.asc i (by simp; omega)
        rw [List.getElem_append_left (by omega)] at h9 ⊢
        by_cases hi2 : i + 1 < l.length
        · rw [List.getElem_append_left (by omega)] at h9 ⊢
          exact h9
        · have hil : i + 1 = l.length := by omega
          have e1 : (l ++ [p])[i + 1]'(by simp; omega) = p := by rw [List.getElem_append_right (by omega)]; simp [hil]
          have e2 : (l ++ [(⟨p.f, z', p.r⟩ : Sp)])[i + 1]'(by simp; omega) = ⟨p.f, z', p.r⟩ := by rw [List.getElem_append_right (by omega)]; simp [hil]
          rw [e1] at h9
          rw [e2]
          exact h9
      · by_cases hxz : x < z
        · rw [h.say x hxz]
          refine byteT_appL l _ _ x ?_
          show (if hasB p x then p.r else 0) = if hasB ⟨p.f, z', p.r⟩ x then p.r else 0
          have : hasB p x = hasB ⟨p.f, z', p.r⟩ x := by unfold hasB; rw [decide_eq_true (show x < p.t by omega), decide_eq_true (show x < z' from hx)]
          rw [this]
        · rw [hb x (by omega) hx, byteT_apA l _ x fun q hq => no_has (h.one q (List.mem_append_left _ hq)).2.1 (by omega)]
          show r = if hasB ⟨p.f, z', p.r⟩ x then p.r else 0
          rw [if_pos (by unfold hasB; simp; omega), hj.2]
    · have e : extE rs ⟨z, z', r⟩ = rs ++ [⟨z, z', r⟩] := by unfold extE; rw [hl]; exact if_neg hj
      rw [e]
      exact happ fun q hq => by rw [hl] at hq; cases hq; exact hj
theorem byteT_same (ts : List Sp) (x y : Nat) (h : ∀ q ∈ ts, hasB q x = hasB q y) : byteT ts x = byteT ts y := by
  induction ts with
  | nil => rfl
  | cons q l ih =>
    show (if hasB q x then q.r else byteT l x) = (if hasB q y then q.r else byteT l y)
    rw [h q (List.mem_cons_self ..), ih fun o ho => h o (List.mem_cons_of_mem _ ho)]
theorem ext_len (rs : List Sp) (q : Sp) : (extE rs q).length ≤ rs.length + 1 := by
  unfold extE
  split
  · split
    · simp
    · simp
  · simp
/-- points in their order, with none between two neighbours -/
structure PtsL (S : Nat → Prop) (L : List Nat) : Prop where
  up : ∀ i j (hi : i < j) (hj : j < L.length), L[i]'(by omega) < L[j]
  mem : ∀ x, S x ↔ x ∈ L
def prevL (L : List Nat) (i : Nat) : Nat := if i = 0 then 0 else L.getD (i - 1) 0
theorem between {S : Nat → Prop} {L : List Nat} (h : PtsL S L) (i : Nat) (hi : i < L.length) (y : Nat) (hS : S y) (h1 : prevL L i < y) (h2 : y < L[i]) : False := by
  obtain ⟨k, hk, rfl⟩ := List.getElem_of_mem ((h.mem y).1 hS)
  rcases Nat.lt_or_ge k i with hki | hki
  · have e : prevL L i = L[i - 1]'(by omega) := by
      unfold prevL
      rw [if_neg (by omega), List.getD_eq_getElem?_getD, List.getElem?_eq_getElem (by omega)]; rfl
    rw [e] at h1
    rcases Nat.lt_or_ge k (i - 1) with h3 | h3
    · have := h.up k (i - 1) h3 (by omega); omega
    · have : k = i - 1 := by omega
      subst this; omega
  · rcases Nat.lt_or_ge i k with h3 | h3
    · have := h.up i k h3 hk; omega
    · have : k = i := by omega
      subst this; omega
theorem const_span {S : Nat → Prop} {L : List Nat} (h : PtsL S L) (ts : List Sp) (hts : ∀ q ∈ ts, (0 < q.f → q.f < 4294967296 → S q.f) ∧ (0 < q.t → q.t < 4294967296 → S q.t)) (i : Nat) (hi : i < L.length) (hle : L[i] ≤ 4294967296) (x : Nat) (h1 : prevL L i ≤ x) (h2 : x < L[i]) : byteT ts x = byteT ts (prevL L i) := by
  refine byteT_same ts x _ fun q hq => ?_
  obtain ⟨hf, ht⟩ := hts q hq
  have a1 : (q.f ≤ x) = (q.f ≤ prevL L i) := propext ⟨fun h3 => Nat.le_of_not_lt fun h4 => between h i hi q.f (hf (by omega) (by omega)) h4 (by omega), fun h3 => by omega⟩
  have a2 : (x < q.t) = (prevL L i < q.t) := propext ⟨fun h3 => by omega, fun h3 => Nat.lt_of_not_le fun h4 => between h i hi q.t (ht (by omega) (by omega)) h3 (by omega)⟩
  unfold hasB
  simp only [a1, a2]
theorem cmp_mem (d : Array Nat) (x : Nat) : x ∈ compactUpTo d d.size ↔ x ∈ d.toList := by
  unfold compactUpTo
  rw [List.mem_map]
  constructor
  · rintro ⟨i, hi, rfl⟩
    have := List.mem_range.1 (List.mem_filter.1 hi).1
    rw [getElem!_pos d i this]
    exact Array.getElem_mem_toList this
  · intro hx
    obtain ⟨i, hi, rfl⟩ := List.getElem_of_mem hx
    have hi' : i < d.size := by simpa using hi
    have e : d.toList[i] = d[i]! := by simp [getElem!_pos, hi']
    rw [e]
    clear hx e hi
    induction i with
    | zero => exact ⟨0, List.mem_filter.2 ⟨List.mem_range.2 hi', by simp [keeps]⟩, rfl⟩
    | succ k ih =>
      by_cases hk : d[k + 1]! = d[k]!
      · rw [hk]; exact ih (by omega)
      · exact ⟨k + 1, List.mem_filter.2 ⟨List.mem_range.2 hi', Go.Lib.keeps_pos (by simpa using hk)⟩, rfl⟩
theorem cmp_up (d : Array Nat) (hS : SortedIn ltN 0 d.size d) : (compactUpTo d d.size).Pairwise (· < ·) := by
  unfold compactUpTo
  rw [List.pairwise_map]
  have h1 : ((List.range d.size).filter (keeps d)).Pairwise (· < ·) := List.Pairwise.filter _ List.pairwise_lt_range
  refine List.Pairwise.imp_of_mem (fun {i j} hi hj hij => ?_) h1
  have hj1 := List.mem_range.1 (List.mem_filter.1 hj).1
  have hj2 := (List.mem_filter.1 hj).2
  have le : ∀ i j, i < j → j < d.size → d[i]! ≤ d[j]! := fun i j h3 h4 => by
    have := hS i j (Nat.zero_le _) h3 h4
    have := of_decide_eq_false this
    omega
  have hne : d[j]! ≠ d[j - 1]! := by
    unfold keeps at hj2
    rcases of_decide_eq_true hj2 with h3 | h3
    · omega
    · exact h3
  have h5 := le (j - 1) j (by omega) hj1
  rcases Nat.lt_or_ge i (j - 1) with h6 | h6
  · have := le i (j - 1) h6 (by omega); omega
  · have : i = j - 1 := by omega
    subst this; omega
theorem perm_mem {p d : Array Nat} (h : PermIn 0 d.size p d) (x : Nat) : x ∈ d.toList ↔ x ∈ p.toList := by
  have h1 := h.2.2
  have e1 : d.extract 0 d.size = d := by simp
  have e2 : p.extract 0 d.size = p := by rw [h.1]; simp
  rw [e1, e2] at h1
  exact h1.mem_iff
theorem pts_mem (es : List En) : ∀ m x, x ∈ pts es m ↔ x = 4294967296 ∨ ((0 < x ∧ x < 4294967296) ∧ ∃ j, j < m ∧ ((rangeI es j).1 = x ∨ (rangeI es j).2 = x))
  | 0, x => by simp [pts]
  | m + 1, x => by
    have hf : ∀ y, x ∈ filt y ↔ (0 < x ∧ x < 4294967296) ∧ y = x := fun y => by
      unfold filt
      split
      · simp only [List.mem_singleton]
        constructor
        · rintro rfl; exact ⟨by assumption, rfl⟩
        · rintro ⟨_, rfl⟩; rfl
      · constructor
        · intro h; cases h
        · rintro ⟨h1, rfl⟩; contradiction
    simp only [pts, List.mem_append, pts_mem es m x, hf]
    constructor
    · rintro (((h | ⟨h1, j, hj, h2⟩) | ⟨h1, h2⟩) | ⟨h1, h2⟩)
      · exact Or.inl h
      · exact Or.inr ⟨h1, j, by omega, h2⟩
      · exact Or.inr ⟨h1, m, by omega, Or.inl h2⟩
      · exact Or.inr ⟨h1, m, by omega, Or.inr h2⟩
    · rintro (h | ⟨h1, j, hj, h2⟩)
      · exact Or.inl (Or.inl (Or.inl h))
      · by_cases hjm : j < m
        · exact Or.inl (Or.inl (Or.inr ⟨h1, j, hjm, h2⟩))
        · obtain rfl : j = m := by omega
          rcases h2 with h2 | h2
          · exact Or.inl (Or.inr ⟨h1, h2⟩)
          · exact Or.inr ⟨h1, h2⟩
end Go.Proofs.YtjpmigagoedbcaaDoor.Pm
