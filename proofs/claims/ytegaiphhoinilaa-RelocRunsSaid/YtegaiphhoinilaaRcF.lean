/-
Layer 13: the reference's May, whole; what its Apply does, as plain data.
-/
import Derived.Test.YtegaiphhoinilaaRcE
namespace Go.Proofs.Ytegaiphhoinilaa.Rc
open Go Go.RowKit

set_option maxRecDepth 100000 in
set_option maxHeartbeats 8000000 in
theorem may_no (p : Nat) (t s' : Int) (a B : Nat) (l : List (Nat × Nat)) (s : Sl) (w : World) (hp : p < 4294967296) (hB : B < 4294967296) (ht : ¬ okT t) :
    Calls Try.prog 24 #[.agg (reC ⟨p, t, s', a⟩), .int .i64 (B : Int), s.v] w fun e w' => e = .returned (.bool (mayP B l ⟨p, t, s', a⟩)) ∧ Below w.heap.size w w' := by
  have hm : mayP B l ⟨p, t, s', a⟩ = false := by
    unfold mayP
    rw [show kindB t = false from decide_eq_false ht]
    rfl
  rw [hm]
  have hbu : Below w.heap.size w (w.alloc (.cells (reC ⟨p, t, s', a⟩) 43)) := (Below.refl _ _).alloc (Nat.le_refl _) _
  have hF : Has (w.alloc (.cells (reC ⟨p, t, s', a⟩) 43)) w.heap.size 43 (reC ⟨p, t, s', a⟩) := Has.new _ _ _
  have HC0 : Hid ((w.alloc (.cells (reC ⟨p, t, s', a⟩) 43)).cell? ⟨w.heap.size, 0, none⟩ = some (.int .u32 (p : Int))) := Lib.hid (hF.cell 0)
  have HC1 : Hid ((w.alloc (.cells (reC ⟨p, t, s', a⟩) 43)).cell? ⟨w.heap.size, 1, none⟩ = some (.int .i64 t)) := Lib.hid (hF.cell 1)
  have HBU := Lib.hid hbu
  have hl := low_any ((B : Int) + (p : Int))
  obtain ⟨A, m, c⟩ := s
  clear hF hbu hm
  have f : ∀ k : Int, (k = 1 ∨ k = 3 ∨ k = 16 ∨ k = 17 ∨ k = 18 ∨ k = 19 ∨ k = 23 ∨ k = 24 ∨ k = 25 ∨ k = 26 ∨ k = 27 ∨ k = 28) → (t == k) = false := fun k hk => beq_eq_false_iff_ne.2 (fun h => ht (by subst h; exact hk))
  have f1 := f 1 (by decide)
  have f3 := f 3 (by decide)
  have f16 := f 16 (by decide)
  have f17 := f 17 (by decide)
  have f18 := f 18 (by decide)
  have f19 := f 19 (by decide)
  have f23 := f 23 (by decide)
  have f24 := f 24 (by decide)
  have f25 := f 25 (by decide)
  have f26 := f 26 (by decide)
  have f27 := f 27 (by decide)
  have f28 := f 28 (by decide)
  clear f ht
  go_enter Try.func24, Try.ntmps24
  go_upto_region 1 with fail
  have hc0 := HC0.out
  have hc1 := HC1.out
  generalize w.alloc (.cells (reC ⟨p, _, s', a⟩) 43) = u at *
  go_wp2_with fail
  refine (hl _ (by omega) (by omega)).mono ?_
  rintro e u0 ⟨rfl, rfl⟩
  dsimp only
  go_wp2_with fail
  go_ret
  exact ⟨rfl, HBU.out⟩
theorem may_any (r : Re) (B : Nat) (l : List (Nat × Nat)) (s : Sl) (w : World) (hS : SlP w s l) (hp : r.p < 4294967296) (hB : B < 4294967296) :
    Calls Try.prog 24 #[.agg (reC r), .int .i64 (B : Int), s.v] w fun e w' => e = .returned (.bool (mayP B l r)) ∧ Below w.heap.size w w' := by
  obtain ⟨p, t, s', a⟩ := r
  by_cases ht : okT t
  · exact may_yes p t s' a B l s w hS hp hB ht
  · exact may_no p t s' a B l s w hp hB ht
theorem may_ok {B : Nat} {l : List (Nat × Nat)} {r : Re} (h : mayP B l r = true) : okT r.t := by
  unfold mayP at h
  simp only [Bool.and_eq_true] at h
  have h2 := h.1.1.1
  unfold kindB at h2
  unfold okT
  exact of_decide_eq_true h2
/-- what one relocation leaves in memory, with its value -/
def putV (m : Nat → UInt8) (x : Nat) (t : Int) : Go1 → Nat → UInt8
  | .word v => stM m x 4 v
  | .num .U v => if t = 18 ∨ t = 19 then stM (stM m x 4 (ldV m x 4 % 4096 + upP v)) (x + 4) 4 (setN .I (ldV (stM m x 4 (ldV m x 4 % 4096 + upP v)) (x + 4) 4) v 32) else stM m x 4 (ldV m x 4 % 4096 + upP v)
  | .num f v => stM m x 4 (setN f (ldV m x 4) v 32)
  | .bad _ => m
def errV : Go1 → Int
  | .bad e => e
  | _ => 0
/-- one relocation: its error, the memory behind it -/
def oneP (ss : List Nat) (rs : List Re) (B : Nat) (l : List (Nat × Nat)) (m : Nat → UInt8) (r : Re) : Int × (Nat → UInt8) :=
  if mayP B l r = true then (if stB (atP B r) 4 = true then (errV (valP ss rs B r), putV m (atP B r) r.t (valP ss rs B r)) else (18, m)) else (13, m)
/-- all, in order: the first error ends it -/
def allP (ss : List Nat) (rs : List Re) (B : Nat) (l : List (Nat × Nat)) : (Nat → UInt8) → List Re → Int × (Nat → UInt8)
  | m, [] => (0, m)
  | m, r :: q => if (oneP ss rs B l m r).1 = 0 then allP ss rs B l (oneP ss rs B l m r).2 q else oneP ss rs B l m r
theorem all_bad {ss : List Nat} {rs : List Re} {B : Nat} {l : List (Nat × Nat)} {m : Nat → UInt8} {r : Re} {q : List Re} {e : Int} {m' : Nat → UInt8} (h : oneP ss rs B l m r = (e, m')) (he : e ≠ 0) : allP ss rs B l m (r :: q) = (e, m') := by
  show (if (oneP ss rs B l m r).1 = 0 then _ else _) = _
  rw [h, if_neg he]
theorem all_go {ss : List Nat} {rs : List Re} {B : Nat} {l : List (Nat × Nat)} {m : Nat → UInt8} {r : Re} {q : List Re} {m' : Nat → UInt8} (h : oneP ss rs B l m r = (0, m')) : allP ss rs B l m (r :: q) = allP ss rs B l m' q := by
  show (if (oneP ss rs B l m r).1 = 0 then _ else _) = _
  rw [h, if_pos rfl]
theorem upP_le (v : Nat) : upP v < 4294967296 ∧ upP v % 4096 = 0 := by unfold upP; omega
theorem hi_lt (ss : List Nat) (B x : Nat) : ∀ (l : List Re) (v : Nat), hiP ss B x l = some v → v < 4294967296
  | [], v, h => by cases h
  | r :: l, v, h => by
    unfold hiP at h
    split at h
    · injection h with h; rw [← h]; exact Nat.mod_lt _ (by decide)
    · exact hi_lt ss B x l v h
/-- a value's bound, the forms, the errors -/
def okV : Go1 → Prop
  | .word v => v < 4294967296
  | .num f v => v < 4294967296 ∧ (f = .U ∨ f = .I ∨ f = .S ∨ f = .B ∨ f = .J)
  | .bad e => e = 14 ∨ e = 13
theorem val_ok (ss : List Nat) (rs : List Re) (B : Nat) (r : Re) : okV (valP ss rs B r) := by
  have h1 : saP ss B r < 4294967296 := Nat.mod_lt _ (by decide)
  have h2 : wayP ss B r < 4294967296 := Nat.mod_lt _ (by decide)
  have h3 : ∀ v, hiP ss B (saP ss B r) rs = some v → v < 4294967296 := fun v => hi_lt _ _ _ _ _
  unfold valP
  split
  · exact h1
  · split
    · exact Nat.mod_lt _ (by decide)
    · split
      · split
        · exact ⟨h2, by simp⟩
        · exact Or.inl rfl
      · split
        · split
          · exact ⟨h2, by simp⟩
          · exact Or.inl rfl
        · split
          · exact ⟨h2, by simp⟩
          · split
            · exact ⟨h1, by simp⟩
            · split
              · exact ⟨h1, by simp⟩
              · split
                · exact ⟨h1, by simp⟩
                · split
                  · cases h : hiP ss B (saP ss B r) rs with
                    | some v => exact ⟨h3 v h, by split <;> simp⟩
                    | none => exact Or.inr rfl
                  · exact Or.inr rfl
end Go.Proofs.Ytegaiphhoinilaa.Rc
