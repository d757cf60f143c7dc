/-
Layer 7: manifests as plain data; how they lie in memory.
-/
import Derived.Test.YtoplknankmomcaaBs
import Derived.Test.YtoplknankmomcaaR6A
import Derived.Test.YtoplknankmomcaaGen
import Derived.Deep.WholeRow
namespace Go.Proofs.Ytoplknankmomcaa
open Go Go.RowKit

/-- a grant -/
structure Gr where
  s : Nat
  z : Nat
  r : Int
deriving DecidableEq
/-- a payload -/
structure Pay where
  d : List UInt8
  z : Nat
  b : Nat
  gs : List Gr
  c : Int
deriving DecidableEq
/-- a manifest -/
structure Man where
  c : Nat
  k : Int
  ps : List Pay
deriving DecidableEq
def gr0 : Gr := ⟨0, 0, 0⟩
def pay0 : Pay := ⟨List.replicate 32 0, 0, 0, [], 0⟩
def man0 : Man := ⟨0, 0, []⟩
def i64ok (z : Int) : Prop := -9223372036854775808 ≤ z ∧ z ≤ 9223372036854775807
structure Gr.Wf (g : Gr) : Prop where
  s : g.s < 4294967296
  z : g.z < 4294967296
  r : i64ok g.r
structure Pay.Wf (p : Pay) : Prop where
  d : p.d.length = 32
  z : p.z < 4294967296
  b : p.b < 4294967296
  gs : ∀ g ∈ p.gs, g.Wf
  c : i64ok p.c
structure Man.Wf (m : Man) : Prop where
  c : m.c < 4294967296
  k : i64ok m.k
  ps : ∀ p ∈ m.ps, p.Wf
/-- a slice's three parts -/
structure Sl where
  A : Option Addr
  n : Nat
  c : Nat
def Sl.v (s : Sl) : Value := .slice s.A s.n s.c
/-- a grant's cells -/
def grV (g : Gr) : Nat → Value
  | 0 => .int .u32 (g.s : Int)
  | 1 => .int .u32 (g.z : Int)
  | _ => .int .i64 g.r
/-- a payload's cells, with the slice of its grants -/
def payV (p : Pay) (s : Sl) (i : Nat) : Value :=
  if i < 32 then by8 (p.d.getD i 0) else if i = 32 then .int .u32 (p.z : Int) else if i = 33 then .int .u32 (p.b : Int) else if i = 34 then s.v else .int .i64 p.c
theorem payV_z (p : Pay) (s : Sl) : payV p s 32 = .int .u32 (p.z : Int) := rfl
theorem payV_b (p : Pay) (s : Sl) : payV p s 33 = .int .u32 (p.b : Int) := rfl
theorem payV_g' (p : Pay) (A : Option Addr) (n c : Nat) : payV p ⟨A, n, c⟩ 34 = .slice A n c := rfl
theorem payV_g (p : Pay) (s : Sl) : payV p s 34 = s.v := rfl
theorem payV_c (p : Pay) (s : Sl) : payV p s 35 = .int .i64 p.c := rfl
/-- n elements of k cells each lie where the slice says -/
def SlC (w : World) (s : Sl) (k : Nat) (cs : Nat → Nat → Value) : Prop :=
  (s.n ≤ s.c ∧ s.n ≤ 140737488355328) ∧ (0 < s.n → ∃ b o, s.A = some ⟨b, o, none⟩ ∧ b < w.heap.size ∧ ∀ j i, j < s.n → i < k → w.cell? ⟨b, o + j * k + i, none⟩ = some (cs j i))
theorem SlC.below {w w' : World} {s : Sl} {k : Nat} {cs : Nat → Nat → Value} (h : SlC w s k cs) (hb : Below w.heap.size w w') : SlC w' s k cs := by
  refine ⟨h.1, fun hn => ?_⟩
  obtain ⟨b, o, e, hlt, hc⟩ := h.2 hn
  exact ⟨b, o, e, Nat.lt_of_lt_of_le hlt hb.size, fun j i hj hi => (hb.cell (p := ⟨b, o + j * k + i, none⟩) hlt).trans (hc j i hj hi)⟩
theorem SlC.grown {w w' : World} {s : Sl} {k : Nat} {cs : Nat → Nat → Value} {r : Option Nat} (h : SlC w s k cs) (kk : w.grownBy w' r) (hne : ∀ b o, s.A = some ⟨b, o, none⟩ → 0 < s.n → r ≠ some b) : SlC w' s k cs := by
  refine ⟨h.1, fun hn => ?_⟩
  obtain ⟨b, o, e, hlt, hc⟩ := h.2 hn
  refine ⟨b, o, e, Nat.lt_of_lt_of_le hlt kk.size, fun j i hj hi => ?_⟩
  have hb := kk.block b hlt (fun e2 => hne b o e hn e2.symm)
  have hcell := hc j i hj hi
  unfold World.cell? at hcell ⊢
  dsimp only at hcell ⊢
  rw [hb]
  exact hcell
theorem SlC.ext {w : World} {s : Sl} {k : Nat} {cs ds : Nat → Nat → Value} (h : SlC w s k cs) (he : ∀ j i, j < s.n → i < k → cs j i = ds j i) : SlC w s k ds := by
  refine ⟨h.1, fun hn => ?_⟩
  obtain ⟨b, o, e, hlt, hc⟩ := h.2 hn
  exact ⟨b, o, e, hlt, fun j i hj hi => by rw [← he j i hj hi]; exact hc j i hj hi⟩
/-- the slice reads as these grants -/
def SlG (w : World) (s : Sl) (gs : List Gr) : Prop := gs.length = s.n ∧ SlC w s 3 (fun j i => grV (gs.getD j gr0) i) ∧ ∀ g ∈ gs, g.Wf
/-- the slice reads as these payloads -/
def SlP (w : World) (s : Sl) (ps : List Pay) : Prop :=
  ps.length = s.n ∧ ∃ S : Nat → Sl, SlC w s 36 (fun j i => payV (ps.getD j pay0) (S j) i) ∧ ∀ j, j < s.n → SlG w (S j) (ps.getD j pay0).gs ∧ (ps.getD j pay0).Wf
def manC (m : Man) (s : Sl) : Array Value := #[.int .u32 (m.c : Int), .int .i64 m.k, s.v]
theorem manC_mk (m : Man) (A : Option Addr) (n c : Nat) : manC m ⟨A, n, c⟩ = #[.int .u32 (m.c : Int), .int .i64 m.k, .slice A n c] := rfl
theorem Sl.out (s : Sl) : ∃ A n c, s = ⟨A, n, c⟩ := ⟨_, _, _, rfl⟩
/-- the value reads as the manifest -/
def ManV (w : World) (v : Value) (m : Man) : Prop := ∃ s, v = .agg (manC m s) ∧ SlP w s m.ps ∧ m.c < 4294967296 ∧ i64ok m.k
theorem SlG.below {w w' : World} {s : Sl} {gs : List Gr} (h : SlG w s gs) (hb : Below w.heap.size w w') : SlG w' s gs := ⟨h.1, h.2.1.below hb, h.2.2⟩
theorem SlP.below {w w' : World} {s : Sl} {ps : List Pay} (h : SlP w s ps) (hb : Below w.heap.size w w') : SlP w' s ps := by
  obtain ⟨hl, S, hc, hg⟩ := h
  exact ⟨hl, S, hc.below hb, fun j hj => ⟨(hg j hj).1.below hb, (hg j hj).2⟩⟩
theorem ManV.below {w w' : World} {v : Value} {m : Man} (h : ManV w v m) (hb : Below w.heap.size w w') : ManV w' v m := by
  obtain ⟨s, e, hp, h2⟩ := h
  exact ⟨s, e, hp.below hb, h2⟩
theorem ManV.wf {w : World} {v : Value} {m : Man} (h : ManV w v m) : m.Wf := by
  obtain ⟨s, _, ⟨hl, S, _, hg⟩, hc, hk⟩ := h
  refine ⟨hc, hk, fun p hp => ?_⟩
  obtain ⟨j, hj, rfl⟩ := List.getElem_of_mem hp
  have := (hg j (by omega)).2
  simpa [List.getD_eq_getElem?_getD, hj] using this
/-- a variable of a type of many cells, laid and filled -/
theorem wp_fresh {P : Program} {w : World} {ops : Array Oper} {rest : List Oper} {o1 o2 : Oper} {a : Act} {Q : Exit → Act → World → Prop} (ty : TypeId) (n : Nat) (v z : Nat → Value) (x y : Operand)
    (hg1 : o1.guard = none) (h1 : o1.op = .alloc ty) (hg2 : o2.guard = none) (h2 : o2.op = .store ty x y)
    (hz : ∀ w, (zeroValue ty).run P w = .ok (.agg (tab n z)) w) (hi : (P.info? ty).map (·.size) = some n) (_hn : 0 < n) (h1v : ∀ j, (v j).oneCell' = true)
    (hx : (a.put o1.dst (.pointer (some ⟨w.heap.size, 0, none⟩))).eval x = .pointer (some ⟨w.heap.size, 0, none⟩)) (hy : (a.put o1.dst (.pointer (some ⟨w.heap.size, 0, none⟩))).eval y = .agg (tab n v))
    (h : ∀ w', Has w' w.heap.size ty (tab n v) → Below w.heap.size w w' → w.heap.size < w'.heap.size → wpList P ops Q rest ((a.put o1.dst (.pointer (some ⟨w.heap.size, 0, none⟩))).put o2.dst undef) w') : wpList P ops Q (o1 :: o2 :: rest) a w := by
  refine wpList_plain hg1 fun K hK => ?_
  unfold Oper.wp execOp
  simp only [h1, Instr.alloc, Sem.run_bind, hz, Result.andThen_ok]
  have hnv : (newVar ty (.agg (tab n z))).run P w = .ok ⟨w.heap.size, 0, none⟩ (w.alloc (.cells (tab n z) ty)) := by
    go_simp
  simp only [hnv, Result.andThen_ok, Sem.run_pure]
  refine hK _ _ ?_
  refine wp_store_tab hg2 ty x y h2 w.heap.size 0 hx n v hy n z ty (Has.new _ _ _) hi (by omega) h1v ?_
  intro w' hh hg
  have e : (tab n fun j => if 0 ≤ j ∧ j < 0 + n then v (j - 0) else z j) = tab n v := tab_ext _ _ _ fun j hj => by rw [if_pos ⟨Nat.zero_le _, by omega⟩]; rfl
  rw [e] at hh
  have hb1 : Below w.heap.size w (w.alloc (.cells (tab n z) ty)) := (Below.refl _ _).alloc (Nat.le_refl _) _
  have hb2 := hb1.trans (below_of_only hg (Nat.le_refl _) (by simp))
  exact h w' hh hb2 hh.lt
theorem grV_one (g : Gr) (j : Nat) : (grV g j).oneCell' = true := by unfold grV; split <;> rfl
theorem payV_one (p : Pay) (s : Sl) (j : Nat) : (payV p s j).oneCell' = true := by
  unfold payV
  split
  · rfl
  · split
    · rfl
    · split
      · rfl
      · split <;> rfl
/-- what the element lies as -/
theorem SlC.range {w : World} {s : Sl} {k : Nat} {cs : Nat → Nat → Value} (h : SlC w s k cs) {b o : Nat} (hA : s.A = some ⟨b, o, none⟩) {j : Nat} (hj : j < s.n) : w.rangeAt b (o + j * k) ((List.range k).map (cs j)) := fun i v hv => by
  have hi : i < k := by have := (List.getElem?_eq_some_iff.1 hv).1; simpa using this
  obtain ⟨b', o', e, _, hc⟩ := h.2 (by omega)
  obtain ⟨rfl, rfl⟩ : b' = b ∧ o' = o := by
    have := hA.symm.trans e
    injection this with this
    injection this with e1 e2
    exact ⟨e1.symm, e2.symm⟩
  rw [hc j i hj hi, ← hv]
  simp [hi]
end Go.Proofs.Ytoplknankmomcaa
