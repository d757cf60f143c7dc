/-
Layer 8: what is read of a file that was made; what is read is safe.
-/
import Derived.Test.YtfdoloonllhodaaJElJ
namespace Go.Proofs.Ytfdoloonllhodaa
open Go Go.RowKit

theorem nm_at {A l R : List UInt8} {m x q : Nat} (hm : l = leB m x) (hq : A.length = q) : nm (A ++ (l ++ R)) m q = x % 256 ^ m := by
  subst hm hq
  have hl : (leB m x).length = m := leB_len m x
  unfold nm
  rw [if_pos (by simp [hl])]
  have := leT_leV (A ++ (leB m x ++ R)) (leB m x) R A.length (by rw [List.drop_left])
  rw [hl] at this
  rw [this, leV_leB]
theorem nm_take {bs : List UInt8} {m q k : Nat} (h : q + m ≤ k) (hk : k ≤ bs.length) : nm (bs.take k) m q = nm bs m q := by
  unfold nm
  rw [if_pos (by rw [List.length_take]; omega), if_pos (by omega)]
  have e : ∀ (m q : Nat), q + m ≤ k → leT (bsN (bs.take k)) m q = leT (bsN bs) m q := by
    intro m
    induction m with
    | zero => intro q _; rfl
    | succ m ih =>
      intro q hq
      show bsN (bs.take k) q + 256 * leT _ m (q + 1) = bsN bs q + 256 * leT _ m (q + 1)
      rw [ih (q + 1) (by omega)]
      congr 1
      unfold bsN
      simp [List.getD_eq_getElem?_getD, show q < k by omega]
  exact e m q h
/-- the entry of a file that was made -/
theorem fileN_en (en : Nat) (hs : List Hd) (bss : List (List UInt8)) (h : en < 4294967296) : nm (fileN en hs bss) 4 24 = en := by
  have e : fileN en hs bss = (ident16 ++ leB 2 3 ++ leB 2 243 ++ leB 4 1) ++ (leB 4 en ++ ((leB 4 52 ++ leB 4 0 ++ leB 4 0 ++ leB 2 52 ++ leB 2 32 ++ leB 2 hs.length ++ zeros6) ++ (phs hs bss hs.length ++ bss.take bss.length).flatten)) := by
    unfold fileN fileL hdL
    simp [List.flatten_append]
  rw [e, nm_at rfl (by simp [leB_len, ident16])]
  exact Nat.mod_eq_of_lt h
theorem segs_zero {bs : List UInt8} (h : (segsN bs).2.2.2 ≠ 0) : (segsN bs).1 = 0 ∧ (segsN bs).2.1 = [] := by
  unfold segsN at h ⊢
  by_cases h0 : (headsN bs).2.2 = 0
  · rw [if_pos h0] at h ⊢
    cases hg : segGo bs (headsN bs).1 (headsN bs).2.1 [] [] 0 false with
    | none => exact ⟨rfl, rfl⟩
    | some r =>
      obtain ⟨ss, ds, a⟩ := r
      rw [hg] at h
      unfold segEnd at h ⊢
      dsimp only at h ⊢
      split
      · exact ⟨rfl, rfl⟩
      · rename_i h2
        rw [if_neg h2] at h
        exact absurd rfl h
  · rw [if_neg h0]
    exact ⟨rfl, rfl⟩
/-- where the j-th segment's place begins to be free -/
def endN (ss : List Sg) : Nat → Nat
  | 0 => 0
  | j + 1 => (ss.getD j sg0).d + (ss.getD j sg0).z
structure Sg.Ok (g : Sg) : Prop where
  d4 : g.d % 4 = 0
  z4 : g.z % 4 = 0
  z0 : g.z ≠ 0
  b : g.b.length ≤ g.z
  r0 : g.r ≠ 0
  r6 : g.r < 6
  d : g.d < 4294967296
  z : g.z < 4294967296
def entS (en : Nat) (g : Sg) : Bool := decide (4 ≤ g.r ∧ g.d ≤ en ∧ en + 4 ≤ g.d + g.z)
structure SgsOk (ss : List Sg) (e : Nat) : Prop where
  en : e = endN ss ss.length
  ok : ∀ j, j < ss.length → (ss.getD j sg0).Ok ∧ endN ss j ≤ (ss.getD j sg0).d ∧ endN ss (j + 1) ≤ 4294967292
  n : ss.length ≤ 4
theorem getD_app1 (ss : List Sg) (g : Sg) (j : Nat) (h : j < ss.length) : (ss ++ [g]).getD j sg0 = ss.getD j sg0 := by
  rw [List.getD_eq_getElem?_getD, List.getD_eq_getElem?_getD, List.getElem?_append_left h]
theorem getD_app2 (ss : List Sg) (g : Sg) : (ss ++ [g]).getD ss.length sg0 = g := by
  rw [List.getD_eq_getElem?_getD, List.getElem?_append_right (Nat.le_refl _)]
  simp
theorem endN_app (ss : List Sg) (g : Sg) : ∀ j, j ≤ ss.length → endN (ss ++ [g]) j = endN ss j
  | 0, _ => rfl
  | j + 1, h => by
    show ((ss ++ [g]).getD j sg0).d + ((ss ++ [g]).getD j sg0).z = _
    rw [getD_app1 ss g j (by omega)]
    rfl
theorem SgsOk.push {ss : List Sg} {e : Nat} {g : Sg} (h : SgsOk ss e) (hg : g.Ok) (he : e ≤ g.d) (h4 : g.d + g.z ≤ 4294967292) (hn : ss.length ≠ 4) : SgsOk (ss ++ [g]) (g.d + g.z) := by
  refine ⟨?_, fun j hj => ?_, ?_⟩
  · rw [List.length_append]
    show _ = ((ss ++ [g]).getD ss.length sg0).d + ((ss ++ [g]).getD ss.length sg0).z
    rw [getD_app2]
  · rw [List.length_append] at hj
    replace hj : j < ss.length + 1 := hj
    by_cases hjl : j < ss.length
    · obtain ⟨h1, h2, h3⟩ := h.ok j hjl
      rw [getD_app1 ss g j hjl, endN_app ss g j (by omega), endN_app ss g (j + 1) (by omega)]
      exact ⟨h1, h2, h3⟩
    · obtain rfl : j = ss.length := by omega
      rw [getD_app2, endN_app ss g _ (Nat.le_refl _), ← h.en]
      refine ⟨hg, he, ?_⟩
      show ((ss ++ [g]).getD ss.length sg0).d + ((ss ++ [g]).getD ss.length sg0).z ≤ _
      rw [getD_app2]
      exact h4
  · rw [List.length_append]
    have := h.n
    show ss.length + 1 ≤ 4
    omega
theorem segGo_ok (bs : List UInt8) (en : Nat) : ∀ (hs : List Hd) (ss : List Sg) (ds : List Hd) (e : Nat) (a : Bool) (r : List Sg × List Hd × Bool), (∀ h ∈ hs, h.Wf ∧ h.a + h.f ≤ bs.length ∧ h.f ≤ h.m) → SgsOk ss e → (a = true → en % 4 = 0 ∧ ∃ j, j < ss.length ∧ entS en (ss.getD j sg0) = true) → segGo bs en hs ss ds e a = some r →
    (∃ e', SgsOk r.1 e') ∧ (r.2.2 = true → en % 4 = 0 ∧ ∃ j, j < r.1.length ∧ entS en (r.1.getD j sg0) = true)
  | [], ss, ds, e, a, r, _, h2, h3, h => by
    obtain rfl : (ss, ds, a) = r := by injection h
    exact ⟨⟨e, h2⟩, h3⟩
  | hd :: hs, ss, ds, e, a, r, h1, h2, h3, h => by
    by_cases hk : hd.k = 2
    · rw [segGo_dyn hk] at h
      exact segGo_ok bs en hs ss _ e a r (fun x hx => h1 x (List.mem_cons_of_mem _ hx)) h2 h3 h
    · cases hx : segX hd ss.length e with
      | true => rw [segGo_bad hk hx] at h; cases h
      | false =>
        rw [segGo_seg hk hx] at h
        obtain ⟨hw, hin, hfm⟩ := h1 hd (List.mem_cons_self ..)
        have hx' := of_decide_eq_false hx
        have hbl : ((bs.drop hd.a).take hd.f).length ≤ hd.f := by rw [List.length_take]; omega
        have hok : Sg.Ok ⟨hd.d, hd.m, hd.r, (bs.drop hd.a).take hd.f⟩ := ⟨by show hd.d % 4 = 0; omega, by show hd.m % 4 = 0; omega, by show hd.m ≠ 0; omega, by show _ ≤ hd.m; exact Nat.le_trans hbl hfm, by show hd.r ≠ 0; omega, by show hd.r < 6; omega, hw.d, hw.m⟩
        refine segGo_ok bs en hs _ ds _ _ r (fun x hx => h1 x (List.mem_cons_of_mem _ hx)) (h2.push hok (by show e ≤ hd.d; omega) (by show hd.d + hd.m ≤ _; omega) (by omega)) (fun ha => ?_) h
        rw [Bool.or_eq_true] at ha
        rcases ha with ha | ha
        · obtain ⟨h4, j, hj, h5⟩ := h3 ha
          refine ⟨h4, j, by rw [List.length_append]; omega, ?_⟩
          rw [getD_app1 _ _ j hj]
          exact h5
        · have h4 := of_decide_eq_true ha
          refine ⟨h4.2.1, ss.length, by rw [List.length_append]; show ss.length < ss.length + 1; omega, ?_⟩
          rw [getD_app2]
          exact decide_eq_true ⟨h4.1, h4.2.2.1, h4.2.2.2⟩
/-- what is read is safe -/
theorem segs_safe {bs : List UInt8} (h : (segsN bs).2.2.2 = 0) : (∃ e, SgsOk (segsN bs).2.1 e) ∧ (segsN bs).1 = nm bs 4 24 ∧ nm bs 4 24 % 4 = 0 ∧ ∃ j, j < (segsN bs).2.1.length ∧ entS (nm bs 4 24) ((segsN bs).2.1.getD j sg0) = true := by
  have hok : (headsN bs).2.2 = 0 := by
    by_cases h0 : (headsN bs).2.2 = 0
    · exact h0
    · unfold segsN at h
      rw [if_neg h0] at h
      exact absurd h h0
  have hen : (headsN bs).1 = nm bs 4 24 := by
    unfold headsN at hok ⊢
    split
    · rfl
    · rename_i h2
      rw [if_neg h2] at hok
      exact absurd hok (by show ¬ 8 = 0; decide)
  unfold segsN at h ⊢
  rw [if_pos hok] at h ⊢
  cases hg : segGo bs (headsN bs).1 (headsN bs).2.1 [] [] 0 false with
  | none => rw [hg] at h; exact absurd h (by show ¬ 9 = 0; decide)
  | some r =>
    obtain ⟨ss, ds, a⟩ := r
    rw [hg] at h
    unfold segEnd at h ⊢
    dsimp only at h ⊢
    split
    · rename_i h2
      rw [if_pos h2] at h
      exact absurd h (by show ¬ 9 = 0; decide)
    · rename_i h2
      have ha : a = true := by cases a with | true => rfl | false => exact absurd (.inr rfl) h2
      have h3 := segGo_ok bs (headsN bs).1 (headsN bs).2.1 [] [] 0 false (ss, ds, a) (fun x hx => ⟨heads_wf hx, (heads_in hx).2⟩) ⟨rfl, fun j hj => absurd hj (Nat.not_lt_zero _), Nat.zero_le _⟩ (fun h => by cases h) hg
      obtain ⟨h4, h5⟩ := h3.2 ha
      rw [hen] at h4 h5
      exact ⟨h3.1, hen, h4, h5⟩
end Go.Proofs.Ytfdoloonllhodaa
