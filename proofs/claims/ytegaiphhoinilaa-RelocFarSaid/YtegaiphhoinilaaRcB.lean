/-
Layer 13: the reference's sym, within.
-/
import Derived.Test.YtegaiphhoinilaaRcA
namespace Go.Proofs.Ytegaiphhoinilaa.Rc
open Go Go.RowKit

/-- numbers of 32 bits lie in a slice -/
def SlN (w : World) (s : Sl) (xs : List Nat) : Prop := xs.length = s.n ∧ (∀ x ∈ xs, x < 4294967296) ∧ SlC w s 1 fun j _ => .int .u32 ((xs.getD j 0 : Nat) : Int)
theorem SlN.below {w w' : World} {s : Sl} {xs : List Nat} (h : SlN w s xs) (k : Below w.heap.size w w') : SlN w' s xs := ⟨h.1, h.2.1, h.2.2.below k⟩
/-- relocations -/
def SlR (w : World) (s : Sl) (rs : List Re) : Prop := rs.length = s.n ∧ (∀ r ∈ rs, r.Wf) ∧ SlC w s 4 fun j i => reE (rs.getD j re0) i
theorem SlR.below {w w' : World} {s : Sl} {rs : List Re} (h : SlR w s rs) (k : Below w.heap.size w w') : SlR w' s rs := ⟨h.1, h.2.1, h.2.2.below k⟩
/-- the reference's spans -/
def spE (s : Nat × Nat) : Nat → Value
  | 0 => .int .i64 (s.1 : Int)
  | _ => .int .i64 (s.2 : Int)
def SlP (w : World) (s : Sl) (l : List (Nat × Nat)) : Prop := l.length = s.n ∧ (∀ x ∈ l, x.1 < 4294967296 ∧ x.2 < 4294967296) ∧ SlC w s 2 fun j i => spE (l.getD j (0, 0)) i
theorem SlP.below {w w' : World} {s : Sl} {l : List (Nat × Nat)} (h : SlP w s l) (k : Below w.heap.size w w') : SlP w' s l := ⟨h.1, h.2.1, h.2.2.below k⟩
theorem getD_all {α : Type} {P : α → Prop} {d : α} {l : List α} (h : ∀ x ∈ l, P x) {j : Nat} (hj : j < l.length) : P (l.getD j d) := by
  rw [List.getD_eq_getElem?_getD, List.getElem?_eq_getElem hj]
  exact h _ (List.getElem_mem _)
/-- a file: its entry, segments, relocations, symbols -/
def fC (en : Nat) (sg rl sy : Sl) : Array Value := #[.int .u32 (en : Int), sg.v, rl.v, sy.v]
theorem at_u (b o n c j : Nat) (hj : (j : Int) < (n : Int)) (w : World) : (Instr.indexAt 22 (.slice (some ⟨b, o, none⟩) n c) (.int .i64 (j : Int))).run Try.prog w = .ok (.pointer (some ⟨b, o + j, none⟩)) w := by
  have h2 := Addr.add_mid b o j
  go_simp
set_option maxRecDepth 100000 in
set_option maxHeartbeats 2000000 in
theorem sym_any (ss : List Nat) (B en : Nat) (n : Int) (sg rl sy : Sl) (w : World) (hS : SlN w sy ss) (hB : B < 4294967296) :
    Calls Try.prog 29 #[.agg (fC en sg rl sy), .int .i64 (B : Int), .int .i64 n] w fun e w' => e = .returned (.int .i64 ((symP ss B n : Nat) : Int)) ∧ Below w.heap.size w w' := by
  have kL := low_any
  obtain ⟨A1, n1, c1⟩ := sg
  obtain ⟨A2, n2, c2⟩ := rl
  obtain ⟨A, m, c⟩ := sy
  have hF : Has (w.alloc (.cells (fC en ⟨A1, n1, c1⟩ ⟨A2, n2, c2⟩ ⟨A, m, c⟩) 36)) w.heap.size 36 (fC en ⟨A1, n1, c1⟩ ⟨A2, n2, c2⟩ ⟨A, m, c⟩) := Has.new _ _ _
  have hbu : Below w.heap.size w (w.alloc (.cells (fC en ⟨A1, n1, c1⟩ ⟨A2, n2, c2⟩ ⟨A, m, c⟩) 36)) := (Below.refl _ _).alloc (Nat.le_refl _) _
  have hc3 : (w.alloc (.cells (fC en ⟨A1, n1, c1⟩ ⟨A2, n2, c2⟩ ⟨A, m, c⟩) 36)).cell? ⟨w.heap.size, 3, none⟩ = some (.slice A m c) := hF.cell 3
  have hS2 := hS.below hbu
  have hm : ss.length = m := hS.1
  clear hF hS
  by_cases h0 : n ≤ 0
  · have e0 : symP ss B n = 0 := if_pos (Or.inl h0)
    rw [e0]
    go_enter Try.func29, Try.ntmps29
    go_upto_region 1 with fail
    clear hS2
    change Below _ w (w.alloc (.cells (fC en ⟨A1, n1, c1⟩ ⟨A2, n2, c2⟩ ⟨A, m, c⟩) 36)) at hbu
    generalize w.alloc (.cells (fC en ⟨A1, n1, c1⟩ ⟨A2, n2, c2⟩ ⟨A, m, c⟩) 36) = u at *
    go_wp2_with fail
    go_ret
    exact ⟨rfl, hbu⟩
  · by_cases h1 : (m : Int) ≤ n
    · have e0 : symP ss B n = 0 := if_pos (Or.inr (by rw [hm]; exact h1))
      rw [e0]
      go_enter Try.func29, Try.ntmps29
      go_upto_region 1 with fail
      clear hS2
      generalize w.alloc (.cells (fC en ⟨A1, n1, c1⟩ ⟨A2, n2, c2⟩ ⟨A, m, c⟩) 36) = u at *
      go_wp2_with fail
      go_ret
      exact ⟨rfl, hbu⟩
    · obtain ⟨j, rfl⟩ : ∃ j : Nat, n = (j : Int) := ⟨n.toNat, by omega⟩
      have hj : j < m := by omega
      have e0 : symP ss B (j : Int) = (B + ss.getD j 0) % 4294967296 := by
        show (if _ then _ else _) = _
        rw [if_neg (by rw [hm]; omega)]
        rfl
      rw [e0]
      have hx : ss.getD j 0 < 4294967296 := getD_all (P := fun x => x < 4294967296) hS2.2.1 (by omega)
      obtain ⟨b, o, hA, hlt, hc⟩ := hS2.2.2.2 (by show 0 < m; omega)
      replace hA : A = some ⟨b, o, none⟩ := hA
      subst hA
      have hcj := hc j 0 hj (by decide)
      rw [show o + j * 1 + 0 = o + j by omega] at hcj
      replace hcj : World.cell? _ ⟨b, o + j, none⟩ = some (.int .u32 ((ss.getD j 0 : Nat) : Int)) := hcj
      generalize ss.getD j 0 = x at *
      have ha := fun W => at_u b o m c j (by omega) W
      have hl := kL ((B : Int) + (x : Int))
      rw [low_at] at hl
      clear hc hS2
      go_enter Try.func29, Try.ntmps29
      go_upto_region 1 with fail
      generalize w.alloc (.cells (fC en ⟨A1, n1, c1⟩ ⟨A2, n2, c2⟩ ⟨some ⟨b, o, none⟩, m, c⟩) 36) = u at *
      go_wp2_with fail
      refine (hl _ (by omega) (by omega)).mono ?_
      rintro e u0 ⟨rfl, rfl⟩
      dsimp only
      go_wp2_with fail
      go_ret
      exact ⟨rfl, hbu⟩
end Go.Proofs.Ytegaiphhoinilaa.Rc
