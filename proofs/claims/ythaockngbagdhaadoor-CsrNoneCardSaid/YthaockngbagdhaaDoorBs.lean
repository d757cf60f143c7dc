/-
Slices of bytes: what they read as; rows of the call's own; appends; what came in.
-/
import Derived.Test.YthaockngbagdhaaDoorMem2
import Derived.OwnWalk
import Derived.Laws.OwnMore
import Derived.Laws.AppendOwnNone
import Derived.ProofKit
import Derived.OpenShut
import Derived.Deep.DeepHandedRow
import Derived.Lib.SlBytesConst
namespace Go.Proofs.YthaockngbagdhaaDoor
open Go Go.RowKit Go.ChangeShapes Go.WideShapes Go.ChangeAt

def by8 (b : UInt8) : Value := .int .u8 (b.toNat : Int)
theorem info5 : (Tryd.prog.info? 5).map (fun i => (i.zero, i.size, i.bytes)) = some (some (.int .u8 0), 1, 1) := by kernel_rfl
/-- the slice value reads as the bytes bs, in a block that is there -/
def SlA (w : World) (A : Option Addr) (n c : Nat) (bs : List UInt8) : Prop :=
  bs.length = n ∧ n ≤ c ∧ (0 < n → ∃ b o, A = some ⟨b, o, none⟩ ∧ b < w.heap.size ∧ ∀ j, j < n → w.cell? ⟨b, o + j, none⟩ = some (by8 (bs.getD j 0)))
theorem SlA.below {w w' : World} {A : Option Addr} {n c : Nat} {bs : List UInt8} (h : SlA w A n c bs) (hb : Below w.heap.size w w') : SlA w' A n c bs := by
  refine ⟨h.1, h.2.1, fun hn => ?_⟩
  obtain ⟨b, o, rfl, hlt, hc⟩ := h.2.2 hn
  exact ⟨b, o, rfl, Nat.lt_of_lt_of_le hlt hb.size, fun j hj => (hb.cell (p := ⟨b, o + j, none⟩) hlt).trans (hc j hj)⟩
theorem below_only {a b c : World} {g B : Nat} (h : Below B a b) (k : b.grownBy c (some g)) (hg : B ≤ g) (hB : B ≤ b.heap.size) : Below B a c := h.trans (below_of_only k hg hB)

theorem SlA.grown {w w' : World} {A : Option Addr} {n c : Nat} {bs : List UInt8} {r : Option Nat} (h : SlA w A n c bs) (k : w.grownBy w' r) (hne : ∀ b o, A = some ⟨b, o, none⟩ → 0 < n → r ≠ some b) : SlA w' A n c bs := by
  refine ⟨h.1, h.2.1, fun hn => ?_⟩
  obtain ⟨b, o, rfl, hlt, hc⟩ := h.2.2 hn
  refine ⟨b, o, rfl, Nat.lt_of_lt_of_le hlt k.size, fun j hj => ?_⟩
  have hb := k.block b hlt (fun e => hne b o rfl hn e.symm)
  have hcell := hc j hj
  unfold World.cell? at hcell ⊢
  dsimp only at hcell ⊢
  rw [hb]
  exact hcell
theorem nil_slA (w : World) : SlA w none 0 0 [] := ⟨rfl, Nat.le_refl _, fun h => absurd h (Nat.lt_irrefl _)⟩
theorem SlA.sub {w : World} {b o n c : Nat} {bs : List UInt8} (h : SlA w (some ⟨b, o, none⟩) n c bs) {i j : Nat} (hij : i ≤ j) (hj : j ≤ n) : SlA w (some ⟨b, o + i, none⟩) (j - i) (c - i) ((bs.drop i).take (j - i)) := by
  obtain ⟨hl, hc, h1⟩ := h
  refine ⟨by rw [List.length_take, List.length_drop]; omega, by omega, fun hn => ?_⟩
  obtain ⟨b', o', e, hlt, hcell⟩ := h1 (by omega)
  obtain ⟨rfl, rfl⟩ : b' = b ∧ o' = o := by injection e with e; injection e with e1 e2; exact ⟨e1.symm, e2.symm⟩
  refine ⟨b', o' + i, rfl, hlt, fun k hk => ?_⟩
  rw [Nat.add_assoc, hcell (i + k) (by omega)]
  simp [List.getD_eq_getElem?_getD, hk]
theorem own_form {w : World} {base : Nat} {e : TypeId} {size n : Nat} {v : Value} {xs : List Value} (h : w.ownsRow base e size v n xs) : ∃ A c, v = .slice A n c := by
  rcases h.2 with ⟨rfl, rfl⟩ | ⟨g, cap, cur, rfl, _⟩
  · exact ⟨none, 0, rfl⟩
  · exact ⟨_, _, rfl⟩

theorem own_slA {w : World} {base n c : Nat} {A : Option Addr} {bs : List UInt8} (h : w.ownsRow base 5 1 (.slice A n c) n (bs.map by8)) : SlA w A n c bs ∧ (A = none → c = 0) := by
  have hl : bs.length = n := by have := h.1; simpa using this
  rcases h.2 with ⟨hv, h0⟩ | ⟨g, cap, cur, hv, hb, hg, hnc, _⟩
  · have e1 : A = none := by injection hv
    have e2 : c = 0 := by injection hv
    exact ⟨⟨hl, by omega, fun h => absurd h (by omega)⟩, fun _ => e2⟩
  · have e1 : A = some ⟨g, 0, none⟩ := by injection hv
    have e2 : c = cap := by injection hv
    subst e1
    subst e2
    have hlt : g < w.heap.size := (Array.getElem?_eq_some_iff.1 hg).1
    refine ⟨⟨hl, hnc, fun _ => ⟨g, 0, rfl, hlt, fun j hj => ?_⟩⟩, fun h => by cases h⟩
    rw [Nat.zero_add, h.cellAt j (by omega)]
    simp [List.getD_eq_getElem?_getD, show j < bs.length by omega]
theorem own_mono {w : World} {base base' : Nat} {e : TypeId} {size : Nat} {v : Value} {n : Nat} {xs : List Value} (h : w.ownsRow base e size v n xs) (hb : base' ≤ base) : w.ownsRow base' e size v n xs :=
  ⟨h.1, h.2.elim .inl fun ⟨g, cap, cur, h1, h2, h3⟩ => .inr ⟨g, cap, cur, h1, Nat.le_trans hb h2, h3⟩⟩
theorem Has.after {w w' : World} {g : Nat} {t : TypeId} {cs : Array Value} (h : Has w g t cs) (k : Below w.heap.size w w') : Has w' g t cs := h.below k h.lt
theorem below_trans {a b c : World} (h : Below a.heap.size a b) (k : Below b.heap.size b c) : Below a.heap.size a c := h.trans (k.mono h.size)
theorem has_grown {w w' : World} {g : Nat} {t : TypeId} {cs : Array Value} {o : Option Nat} (h : Has w g t cs) (k : w.grownBy w' o) (hne : ∀ l, o = some l → g ≠ l) : Has w' g t cs :=
  (k.block g h.lt (fun e => hne g e.symm rfl)).trans h
/-- the slice value reads as bytes -/
theorem isRow_bytes {W : World} {b off : Nat} {len cap : Nat} {zs : List Int} (hl : len ≤ cap) (hz : zs.length = cap) (hcell : ∀ i, i < zs.length → W.cell? ⟨b, off + i, none⟩ = some (.int .u8 (zs.getD i 0))) (hwz : ∀ n ∈ zs, (Lit.int .u8 n).wf = true) :
    ∀ j, j < len → W.cell? ⟨b, off + j, none⟩ = some (by8 (((zs.take len).map fun z => UInt8.ofNat z.toNat).getD j 0)) := by
  intro j hj
  rw [hcell j (by omega)]
  have hm : zs[j]'(by omega) ∈ zs := List.getElem_mem _
  have hw := hwz _ hm
  have hb : 0 ≤ zs[j]'(by omega) ∧ zs[j]'(by omega) ≤ 255 := by simpa [Lit.wf, IntKind.min, IntKind.max, IntKind.signed, IntKind.bits] using hw
  unfold by8
  simp only [List.getD_eq_getElem?_getD, List.getElem?_map, List.getElem?_take, if_pos hj]
  rw [List.getElem?_eq_getElem (by omega)]
  simp only [Option.getD_some, Option.map_some, UInt8.toNat_ofNat']
  congr 2
  omega
end Go.Proofs.YthaockngbagdhaaDoor
