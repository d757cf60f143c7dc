/-
Layer 10, PlaceRuns: the law's calls as plain data; that come in.
-/
import Derived.Test.YtdifapdppdcidaaJPf
import Derived.Test.YtdifapdppdcidaaJMf
namespace Go.Proofs.Ytdifapdppdcidaa
open Go.Joins Go.ChangeShapes Go.WideShapes Go.ChangeAt Go.RowKit Go.Deep

/-- a call -/
structure Cl where
  k : Int
  a : Nat
  n : Int
  x : Nat
  d : List UInt8
def cl0 : Cl := ⟨0, 0, 0, 0, []⟩
structure Cl.Wf (p : Cl) : Prop where
  a : p.a < 4294967296
  x : p.x < 4294967296
  l : p.d.length ≤ 140737488355328
def clV (p : Cl) (t : Sl) : Nat → Value
  | 0 => .int .i64 p.k
  | 1 => .int .u32 (p.a : Int)
  | 2 => .int .i64 p.n
  | 3 => .int .u32 (p.x : Int)
  | _ => t.v
theorem clV_one (p : Cl) (t : Sl) (j : Nat) : (clV p t j).oneCell' = true := by unfold clV; split <;> rfl
/-- the slice reads as these calls -/
def SlCl (w : World) (s : Sl) (cs : List Cl) (T : Nat → Sl) : Prop :=
  cs.length = s.n ∧ SlC w s 5 (fun j i => clV (cs.getD j cl0) (T j) i) ∧ ∀ j, j < s.n → SlY w (T j) (cs.getD j cl0).d ∧ ((T j).A = none → (T j).c = 0) ∧ (cs.getD j cl0).Wf
theorem SlCl.below {w w' : World} {s : Sl} {cs : List Cl} {T : Nat → Sl} (h : SlCl w s cs T) (k : Below w.heap.size w w') : SlCl w' s cs T := ⟨h.1, h.2.1.below k, fun j hj => ⟨SlA.below (h.2.2 j hj).1 k, (h.2.2 j hj).2⟩⟩
/-- how long the first i calls are -/
def wC (cs : List Cl) : Nat → Nat
  | 0 => 0
  | i + 1 => wC cs i + (1 + (cs.getD i cl0).d.length)
theorem wC_mono (cs : List Cl) : ∀ {i j : Nat}, i ≤ j → wC cs i ≤ wC cs j
  | i, 0, h => by rw [show i = 0 by omega]; exact Nat.le_refl _
  | i, j + 1, h => by
    by_cases e : i = j + 1
    · rw [e]; exact Nat.le_refl _
    · have := wC_mono cs (show i ≤ j by omega)
      show wC cs i ≤ wC cs j + _
      omega
theorem infoCl5 : (Try.prog.info? 27).map (·.size) = some 5 := by kernel_rfl
theorem infoClz : (Try.prog.info? 27).map (fun i => (i.zero, i.size)) = some (some (.agg (tab 5 (clV cl0 ⟨none, 0, 0⟩))), 5) := by kernel_rfl
theorem zeroCl (w : World) : (zeroValue 27).run Try.prog w = .ok (.agg (tab 5 (clV cl0 ⟨none, 0, 0⟩))) w := (zero_of_info infoClz).1 w
theorem wp_load_cl {w : World} {ops : Array Oper} {rest : List Oper} {op : Oper} {a : Act} {Q : Exit → Act → World → Prop} (hgd : op.guard = none) (x : Operand) (ho : op.op = .load 27 x)
    (b o : Nat) (hx : a.eval x = .pointer (some ⟨b, o, none⟩)) (f : Nat → Value) (hc : w.rangeAt b o ((List.range 5).map f)) (h : wpList Try.prog ops Q rest (a.put op.dst (.agg (tab 5 f))) w) : wpList Try.prog ops Q (op :: rest) a w :=
  wpList_load_mid hgd 27 x ho b o hx _ _ hc Try.underlying27 rfl (by simpa using infoCl5) h
theorem at_cl' (b o n c j : Nat) (hj : (j : Int) < (n : Int)) (w : World) : (Instr.indexAt 22 (.slice (some ⟨b, o, none⟩) n c) (.int .i64 (j : Int))).run Try.prog w = .ok (.pointer (some ⟨b, o + j * 5, none⟩)) w := by
  have h2 := Addr.add_mid b o (j * 5)
  go_simp
theorem cBs10 : Try.prog.cellsOf 25 = 1 := by kernel_rfl
theorem cCl : Try.prog.cellsOf 27 = 5 := by kernel_rfl
theorem bCl : Try.prog.bytesOf 27 = 56 := by kernel_rfl
theorem b8x : Try.prog.bytesOf 5 = 1 := by kernel_rfl
section
variable {H : Type} {enc : TypeId × Value → H} {W : World} {n : Nat} {cs : List Value} {d : DataW H} {p : List MemPlace}
/-- a slice of bytes inside something -/
theorem came_row10 (h : DataW.trod enc Try.prog W 0 (fun _ => true) true n 25 cs = some (d, p)) (hw : ∀ n ∈ d.weights Try.prog 25, n ≤ reachBytes) : ∃ (s : Sl) (b : List UInt8), cs = [s.v] ∧ SlY W s b ∧ (s.A = none → s.c = 0) ∧ b.length ≤ 140737488355328 := by
  obtain ⟨s, l, rfl, hl, hC, _⟩ := came_slice (0 : UInt8) 1 1 c8 (by decide) Try.underlying25 b8x (by decide) (fun u _ => by8 u) (fun _ => True) h hw (fun n cs d p ht _ => by
    obtain ⟨q, e, _, w⟩ := DataW.trod_int Try.underlying5 ht
    have hq : 0 ≤ q ∧ q ≤ 255 := by simpa [Lit.wf, IntKind.min, IntKind.max, IntKind.signed, IntKind.bits] using w
    refine ⟨UInt8.ofNat q.toNat, trivial, fun k hk => ?_⟩
    obtain rfl : k = 0 := by omega
    rw [e]
    unfold by8
    simp
    omega)
  obtain ⟨A, m, c, rfl⟩ := s.out
  obtain ⟨⟨bs, hS⟩, hnil⟩ := came (W := W) (enc := enc) (a := A) (len := m) (cap := c) (d := d) (p := p) ⟨n, h⟩
  exact ⟨⟨A, m, c⟩, bs, rfl, hS, hnil, by rw [hS.1]; exact hC.1.2⟩
theorem came_call (h : DataW.trod enc Try.prog W 0 (fun _ => true) true n 27 cs = some (d, p)) (hw : ∀ n ∈ d.weights Try.prog 27, n ≤ reachBytes) :
    ∃ a : Cl × Sl, (SlY W a.2 a.1.d ∧ (a.2.A = none → a.2.c = 0) ∧ a.1.Wf) ∧ ∀ k, k < 5 → cs[k]? = some (clV a.1 a.2 k) := by
  obtain ⟨xs, m, _, hx, hl, hlen, hf⟩ := DataW.trod_struct Try.underlying27 h
  match xs, hlen with
  | [y0, y1, y2, y3, y4], _ =>
    have h0 : DataW.trod enc Try.prog W 0 (fun _ => true) true m 3 ((cs.drop 0).take (Try.prog.cellsOf 3)) = some y0 := hf 0 _ rfl
    have h1 : DataW.trod enc Try.prog W 0 (fun _ => true) true m 24 ((cs.drop 1).take (Try.prog.cellsOf 24)) = some y1 := hf 1 _ rfl
    have h2 : DataW.trod enc Try.prog W 0 (fun _ => true) true m 3 ((cs.drop 2).take (Try.prog.cellsOf 3)) = some y2 := hf 2 _ rfl
    have h3 : DataW.trod enc Try.prog W 0 (fun _ => true) true m 24 ((cs.drop 3).take (Try.prog.cellsOf 24)) = some y3 := hf 3 _ rfl
    have h4 : DataW.trod enc Try.prog W 0 (fun _ => true) true m 25 ((cs.drop 4).take (Try.prog.cellsOf 25)) = some y4 := hf 4 _ rfl
    rw [c64] at h0 h2
    rw [c32] at h1 h3
    rw [cBs10] at h4
    obtain ⟨z0, e0, _, w0⟩ := DataW.trod_int Try.underlying3 h0
    obtain ⟨z1, e1, _, w1⟩ := DataW.trod_int Try.underlying24 h1
    obtain ⟨z2, e2, _, w2⟩ := DataW.trod_int Try.underlying3 h2
    obtain ⟨z3, e3, _, w3⟩ := DataW.trod_int Try.underlying24 h3
    obtain ⟨u, rfl, hu⟩ := wf_u32 w1
    obtain ⟨v, rfl, hv⟩ := wf_u32 w3
    have hd : d = .agg [y0.1, y1.1, y2.1, y3.1, y4.1] := congrArg Prod.fst hx
    subst hd
    obtain ⟨s, b, e4, hS, hnil, hbl⟩ := came_row10 (d := y4.1) (p := y4.2) h4 (fun k hk => hw k (by
      simp only [DataW.weights, Try.underlying27]
      exact DataW.weights_mem_each (j := 4) rfl rfl k hk))
    refine ⟨(⟨z0, u, z2, v, b⟩, s), ⟨hS, hnil, ⟨hu, hv, hbl⟩⟩, fun k hk => ?_⟩
    match k, hk with
    | 0, _ => exact at_one e0
    | 1, _ => exact at_one e1
    | 2, _ => exact at_one e2
    | 3, _ => exact at_one e3
    | 4, _ => exact at_one e4
/-- calls that came in -/
theorem came_calls {a : Option Addr} {len cap : Nat} (h : DataW.Trod enc Try.prog W 0 (fun _ => true) true 22 (.slice a len cap) d p) (hw : ∀ n ∈ d.weights Try.prog 22, n ≤ reachBytes) : ∃ ps T, SlCl W ⟨a, len, cap⟩ ps T := by
  obtain ⟨fuel, hf⟩ := h
  obtain ⟨s, l, e, hl, hC, hG⟩ := came_slice (cl0, (⟨none, 0, 0⟩ : Sl)) 5 56 cCl (by decide) Try.underlying22 bCl (by decide) (fun a => clV a.1 a.2) (fun a => SlY W a.2 a.1.d ∧ (a.2.A = none → a.2.c = 0) ∧ a.1.Wf) hf hw (fun _ _ _ _ ht hw => came_call ht hw)
  obtain ⟨A, m, c, rfl⟩ := s.out
  simp [Value.cells, Sl.v] at e
  obtain ⟨rfl, rfl, rfl⟩ := e
  have hmap : ∀ j, j < len → (l.map Prod.fst).getD j cl0 = (l.getD j (cl0, ⟨none, 0, 0⟩)).1 := fun j hj => by
    have hj : j < l.length := by rw [hl]; exact hj
    simp [List.getD_eq_getElem?_getD, hj]
  refine ⟨l.map Prod.fst, fun j => (l.getD j (cl0, ⟨none, 0, 0⟩)).2, by simpa using hl, hC.ext fun j i hj hi => ?_, fun j hj => ?_⟩
  · dsimp only
    rw [hmap j hj]
  · dsimp only
    rw [hmap j hj]
    exact hG j hj
end
end Go.Proofs.Ytdifapdppdcidaa
