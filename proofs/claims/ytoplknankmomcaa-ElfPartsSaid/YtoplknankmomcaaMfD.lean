/-
Layer 7: rows of grants that the call owns; when a manifest is valid.
-/
import Derived.Test.YtoplknankmomcaaEnE
import Derived.OwnWalk
namespace Go.Proofs.Ytoplknankmomcaa
open Go Go.RowKit

def gcells (gs : List Gr) : List Value := gs.flatMap fun g => [grV g 0, grV g 1, grV g 2]
theorem gcells_len : ∀ gs, (gcells gs).length = gs.length * 3
  | [] => rfl
  | g :: gs => by
    have := gcells_len gs
    simp only [gcells, List.flatMap_cons, List.length_append, List.length_cons, List.length_nil] at this ⊢
    omega
theorem gcells_app (a b : List Gr) : gcells (a ++ b) = gcells a ++ gcells b := by simp [gcells]
theorem gcells_one (g : Gr) : gcells [g] = [grV g 0, grV g 1, grV g 2] := rfl
theorem gcells_get : ∀ (gs : List Gr) (j i : Nat), j < gs.length → i < 3 → (gcells gs)[j * 3 + i]? = some (grV (gs.getD j gr0) i)
  | [], j, i, h, _ => by simp at h
  | g :: gs, 0, i, _, hi => by
    rcases (show i = 0 ∨ i = 1 ∨ i = 2 by omega) with rfl | rfl | rfl <;> rfl
  | g :: gs, j + 1, i, h, hi => by
    have e : (j + 1) * 3 + i = j * 3 + i + 3 := by omega
    have h2 := gcells_get gs j i (by simpa using h) hi
    show ([grV g 0, grV g 1, grV g 2] ++ gcells gs)[(j + 1) * 3 + i]? = _
    rw [e, List.getElem?_append_right (by simp)]
    simpa using h2
theorem own_blk {w : World} {base size n : Nat} {e : TypeId} {v : Value} {xs : List Value} (h : w.ownsRow base e size v n xs) {l : Nat} (hl : v.ownBlock = some l) : base ≤ l ∧ l < w.heap.size := by
  rcases h.2 with ⟨rfl, _⟩ | ⟨g, cap, cur, rfl, hb, hg, _⟩
  · cases hl
  · have : g = l := by simpa [Value.ownBlock] using hl
    subst this
    exact ⟨hb, (Array.getElem?_eq_some_iff.1 hg).1⟩
theorem own_has {w : World} {base size n g : Nat} {e t : TypeId} {v : Value} {xs : List Value} {cs : Array Value} (h : w.ownsRow base e size v n xs) (hG : Has w g t cs) (hte : t ≠ e) : ∀ l, v.ownBlock = some l → g ≠ l := by
  intro l hl he
  subst he
  rcases h.2 with ⟨rfl, _⟩ | ⟨g', cap, cur, rfl, hb, hg, _⟩
  · cases hl
  · have : g' = g := by simpa [Value.ownBlock] using hl
    subst this
    have h2 : w.heap[g']? = some (.cells cs t (0, 0)) := hG
    rw [h2] at hg
    injection hg with hg
    injection hg with _ e2 _
    exact hte e2
theorem has_own {w w' : World} {base size n g : Nat} {e t : TypeId} {v : Value} {xs : List Value} {cs : Array Value} (h : w.ownsRow base e size v n xs) (hG : Has w g t cs) (hte : t ≠ e) (k : w.grownBy w' v.ownBlock) : Has w' g t cs :=
  has_grown hG k (own_has h hG hte)
theorem below_own {a w w' : World} {B base size n : Nat} {e : TypeId} {v : Value} {xs : List Value} (hb : Below B a w) (h : w.ownsRow base e size v n xs) (hB : B ≤ base) (hw : B ≤ w.heap.size) (k : w.grownBy w' v.ownBlock) : Below B a w' := by
  refine hb.trans ⟨k.os, k.tape, k.output, k.size, fun i hi => k.block i (by omega) (fun he => ?_)⟩
  have := own_blk h he.symm
  omega
theorem own_after {w w' : World} {base size n : Nat} {e : TypeId} {v : Value} {xs : List Value} (h : w.ownsRow base e size v n xs) (k : Below w.heap.size w w') : w'.ownsRow base e size v n xs := by
  refine ⟨h.1, ?_⟩
  rcases h.2 with h1 | ⟨g, cap, cur, h1, hb, hg, h3⟩
  · exact .inl h1
  · exact .inr ⟨g, cap, cur, h1, hb, (k.block g (Array.getElem?_eq_some_iff.1 hg).1).trans hg, h3⟩
/-- have two grants a byte in common -/
def ovl (g h : Gr) : Bool := !apB g.s g.z h.s h.z
def pvBad : Option Gr → Gr → Bool
  | none, _ => false
  | some h, g => decide (g.s ≤ h.s)
def errG (all : List Gr) (pv : Option Gr) : List Gr → Nat
  | [] => 0
  | g :: gs => if (!fineB g || pvBad pv g) = true then 10 else if all.any (ovl g) = true then 11 else errG (all ++ [g]) (some g) gs
def badP (p : Pay) : Bool := decide (p.gs.length = 0 ∨ 4 < p.gs.length ∨ p.c < 0 ∨ 255 < p.c ∨ 32768 < p.z ∨ p.b % 4 ≠ 0)
def errP (all : List Gr) : List Pay → Nat
  | [] => 0
  | p :: ps => if badP p = true then 3 else if errG all none p.gs = 0 then errP (all ++ p.gs) ps else errG all none p.gs
def badM (m : Man) : Bool := decide (m.k < 0 ∨ 255 < m.k ∨ m.ps.length = 0 ∨ 4 < m.ps.length)
/-- the first check that fails -/
def rightM (m : Man) : Nat := if badM m = true then 3 else errP [] m.ps
end Go.Proofs.Ytoplknankmomcaa
