/-
Layer 9, the reference's Read: what it keeps.
-/
import Derived.Test.YtfdoloonllhodaaJDyC
import Derived.Test.YtfdoloonllhodaaJElG
import Derived.Test.YtfdoloonllhodaaJDzH
import Derived.Test.YtfdoloonllhodaaJElZ
import Derived.Test.YtfdoloonllhodaaJEmD
import Derived.BigQuiet
namespace Go.Proofs.Ytfdoloonllhodaa
open Go Go.RowKit

/-- a file's cells in the reference -/
def flC (en : Nat) (s y r : Sl) : Array Value := #[.int .i64 (en : Int), s.v, y.v, r.v]
def sl0 : Sl := ⟨none, 0, 0⟩
theorem flC_zero : (#[.int .i64 0, .slice none 0 0, .slice none 0 0, .slice none 0 0] : Array Value) = flC 0 sl0 sl0 sl0 := by kernel_rfl
theorem flC_new (en : Nat) (A : Option Addr) (n c : Nat) : (#[.int .i64 (en : Int), .slice A n c, .slice none 0 0, .slice none 0 0] : Array Value) = flC en ⟨A, n, c⟩ sl0 sl0 := rfl
theorem flC_sy (en : Nat) (s y y' r : Sl) : (flC en s y r).setIfInBounds 2 y'.v = flC en s y' r := rfl
theorem flC_rl (en : Nat) (s y r r' : Sl) : (flC en s y r).setIfInBounds 3 r'.v = flC en s y r' := rfl
theorem flC_one (en : Nat) (s y r : Sl) : (flC en s y r).all (·.oneCell') = true := by simp [flC, Sl.v, Value.oneCell']
theorem infoFL (en : Nat) (s y r : Sl) : (Try.prog.info? 58).map (·.size) = some (flC en s y r).size := by kernel_rfl
/-- what Read answers -/
def RdR (w : World) (bs : List UInt8) (e : Ending) (w' : World) : Prop :=
  (∃ s y r, e = .returned (.tuple #[.agg (flC (readN bs).en s y r), .int .i64 (((readN bs).er : Nat) : Int)]) ∧ SlT w' s (readN bs).ss ∧ SlZ w' y (readN bs).sy ∧ SlM w' r (readN bs).rl) ∧ Below w.heap.size w w'
theorem slT_nil2 (w : World) : SlT w sl0 [] := ⟨rfl, fun _ => sl0, slC_nil _ _ _, fun _j h => absurd h (Nat.not_lt_zero _)⟩
theorem rdR_bad {w w' : World} {bs : List UInt8} {e : Nat} (h : readN bs = rdE e) (hb : Below w.heap.size w w') : RdR w bs (.returned (.tuple #[.agg (flC 0 sl0 sl0 sl0), .int .i64 (e : Int)])) w' := by
  unfold RdR
  rw [h]
  exact ⟨⟨sl0, sl0, sl0, rfl, slT_nil2 _, slZ_nil _, slM_nil _⟩, hb⟩
theorem rdR_ok {w w' : World} {bs : List UInt8} {en : Nat} {ss : List Sg} {sy : List Nat} {rl : List Rl} {s y r : Sl} (h : readN bs = ⟨en, ss, sy, rl, 0⟩) (hs : SlT w' s ss) (hy : SlZ w' y sy) (hr : SlM w' r rl) (hb : Below w.heap.size w w') : RdR w bs (.returned (.tuple #[.agg (flC en s y r), .int .i64 0])) w' := by
  unfold RdR
  rw [h]
  exact ⟨⟨s, y, r, rfl, hs, hy, hr⟩, hb⟩
theorem cellF {w : World} {g : Nat} {en : Nat} {s y r : Sl} (h : Has w g 58 (flC en s y r)) (o : Nat) (v : Value) (hv : w.cell? ⟨g, o, none⟩ = some v) : (o = 0 ∧ v = .int .i64 (en : Int)) ∨ ∃ x : Sl, v = x.v := by
  have h1 := h.cell o
  rw [hv] at h1
  match o, h1 with
  | 0, h1 => exact .inl ⟨rfl, by simpa [flC] using h1⟩
  | 1, h1 => exact .inr ⟨s, by simpa [flC] using h1⟩
  | 2, h1 => exact .inr ⟨y, by simpa [flC] using h1⟩
  | 3, h1 => exact .inr ⟨r, by simpa [flC] using h1⟩
  | k + 4, h1 => simp [flC] at h1
/-- bytes do not lie in a file's cells -/
theorem slA_file {w w' : World} {g : Nat} {en : Nat} {s y r : Sl} {A : Option Addr} {n c : Nat} {bs : List UInt8} (h : Has w g 58 (flC en s y r)) (hs : SlA w A n c bs) (k : w.grownBy w' (some g)) : SlA w' A n c bs := by
  refine hs.grown k fun b o e h0 e2 => ?_
  injection e2 with e2
  subst e2
  obtain ⟨b', o', e', _, hc⟩ := hs.2.2 h0
  rw [e] at e'
  injection e' with e'
  injection e' with e3 e4
  subst e3 e4
  rcases cellF h _ _ (hc 0 h0) with ⟨_, h2⟩ | ⟨x, h2⟩
  · cases h2
  · cases h2
/-- two numbers side by side do not lie in a file's cells -/
theorem slC_file {w w' : World} {g : Nat} {en : Nat} {s y r : Sl} {x : Sl} {k : Nat} {cs : Nat → Nat → Value} (h : Has w g 58 (flC en s y r)) (hs : SlC w x k cs) (hk : 2 ≤ k) (_h0' : ∀ j, ∃ z : Int, cs j 0 = .int .i64 z) (h1' : ∀ j, ∃ z : Int, cs j 1 = .int .i64 z) (kk : w.grownBy w' (some g)) : SlC w' x k cs := by
  refine hs.grown kk fun b o e h0 e2 => ?_
  injection e2 with e2
  subst e2
  obtain ⟨b', o', e', _, hc⟩ := hs.2 h0
  rw [e] at e'
  injection e' with e'
  injection e' with e3 e4
  subst e3 e4
  obtain ⟨z1, hz1⟩ := h1' 0
  have h2 := hc 0 1 h0 (by omega)
  rw [hz1, Nat.zero_mul, Nat.add_zero] at h2
  rcases cellF h _ _ h2 with ⟨h3, _⟩ | ⟨x, h3⟩
  · omega
  · cases h3
theorem slT_file {w w' : World} {g : Nat} {en : Nat} {s y r : Sl} {x : Sl} {ss : List Sg} (h : Has w g 58 (flC en s y r)) (hs : SlT w x ss) (k : w.grownBy w' (some g)) : SlT w' x ss := by
  obtain ⟨h1, T, h2, h3⟩ := hs
  exact ⟨h1, T, slC_file h h2 (by decide) (fun j => ⟨_, rfl⟩) (fun j => ⟨_, rfl⟩) k, fun j hj => ⟨slA_file h (h3 j hj).1 k, (h3 j hj).2⟩⟩
theorem slP2_file {w w' : World} {g : Nat} {en : Nat} {s y r : Sl} {x : Sl} {l : List (Nat × Nat)} (h : Has w g 58 (flC en s y r)) (hs : SlP2 w x l) (k : w.grownBy w' (some g)) : SlP2 w' x l :=
  ⟨hs.1, slC_file h hs.2 (Nat.le_refl _) (fun _ => ⟨_, rfl⟩) (fun _ => ⟨_, rfl⟩) k⟩
theorem grown_opt {u w w' : World} {g : Nat} {r : Option Nat} (h : u.grownBy w (some g)) (k : w.grownBy w' r) (hr : ∀ l, r = some l → u.heap.size ≤ l) : u.grownBy w' (some g) :=
  ⟨k.os.trans h.os, k.tape.trans h.tape, k.output.trans h.output, Nat.le_trans h.size k.size, fun i hi hne => (k.block i (Nat.lt_of_lt_of_le hi h.size) (fun e => by have := hr i e.symm; omega)).trans (h.block i hi hne)⟩
theorem segs_dwf {bs : List UInt8} : (segsN bs).2.2.2 = 0 → ∀ d ∈ (segsN bs).2.2.1, d.Wf := by
  intro h0 d hd
  by_cases he : (headsN bs).2.2 = 0
  · have hE := segsN_eq he
    rw [hE] at hd
    split at hd
    · exact heads_wf (List.mem_filter.1 hd).1
    · cases hd
  · unfold segsN at hd
    rw [if_neg he] at hd
    cases hd
theorem segs_bl {bs : List UInt8} : ∀ g ∈ (segsN bs).2.1, g.b.length ≤ bs.length := by
  intro g hg
  by_cases he : (headsN bs).2.2 = 0
  · have hE := segsN_eq he
    rw [hE] at hg
    split at hg
    · obtain ⟨h, _, rfl⟩ := List.mem_map.1 hg
      show ((bs.drop h.a).take h.f).length ≤ _
      rw [List.length_take, List.length_drop]
      omega
    · cases hg
  · unfold segsN at hg
    rw [if_neg he] at hg
    cases hg
theorem at_hr0 (b o n c : Nat) (hn : 0 < (n : Int)) (w : World) : (Instr.indexAt 51 (.slice (some ⟨b, o, none⟩) n c) (.int .i64 0)).run Try.prog w = .ok (.pointer (some ⟨b, o, none⟩)) w := by
  have h := at_hr' b o n c 0 hn w
  rw [Nat.zero_mul, Nat.add_zero] at h
  exact h
/-- what a file's further walk keeps -/
structure RdO (w u : World) (gr go en : Nat) (s y r : Sl) (w1 : World) : Prop where
  res : Has w1 gr 58 (flC 0 sl0 sl0 sl0)
  out : Has w1 go 58 (flC en s y r)
  bel : Below u.heap.size u w1
  wu : Below w.heap.size w u
  goB : u.heap.size ≤ go
  grB : w.heap.size ≤ gr
  grl : gr < u.heap.size
section
variable {w u w1 w2 : World} {gr go en : Nat} {s y r : Sl}
theorem RdO.after (h : RdO w u gr go en s y r w1) (k : Below w1.heap.size w1 w2) : RdO w u gr go en s y r w2 := ⟨h.res.after k, h.out.after k, h.bel.trans (k.mono h.bel.size), h.wu, h.goB, h.grB, h.grl⟩
theorem RdO.tot (h : RdO w u gr go en s y r w1) : Below w.heap.size w w1 := h.wu.trans (h.bel.mono h.wu.size)
theorem RdO.fin (h : RdO w u gr go en s y r w1) (k : w1.grownBy w2 (some gr)) : Below w.heap.size w w2 := below_only h.tot k h.grB h.tot.size
theorem RdO.set {y' r' : Sl} (h : RdO w u gr go en s y r w1) (k : w1.grownBy w2 (some go)) (hG : Has w2 go 58 (flC en s y' r')) : RdO w u gr go en s y' r' w2 :=
  ⟨has_grown h.res k (fun l e => by injection e with e; have := h.goB; have := h.grl; omega), hG, below_only h.bel k h.goB h.bel.size, h.wu, h.goB, h.grB, h.grl⟩
theorem RdO.far {g : Nat} (h : RdO w u gr go en s y r w1) (k : w1.grownBy w2 (some g)) (hg : u.heap.size ≤ g) (hne : go ≠ g) : RdO w u gr go en s y r w2 :=
  ⟨has_grown h.res k (fun l e => by injection e with e; have := h.grl; omega), has_grown h.out k (fun l e => by injection e with e; rw [← e]; exact hne), below_only h.bel k hg h.bel.size, h.wu, h.goB, h.grB, h.grl⟩
end
theorem infoI1 : (Try.prog.info? 3).map (fun i => (i.zero, i.size, i.bytes)) = some (some (.int .i64 0), 1, 8) := by kernel_rfl
theorem infoRL : (Try.prog.info? 62).map (fun i => (i.zero, i.size, i.bytes)) = some (some (.agg (tab 4 (rlR rl0))), 4, 32) := by kernel_rfl
theorem has_ne {w : World} {g h : Nat} {t t' : TypeId} {cs cs' : Array Value} (h1 : Has w g t cs) (h2 : Has w h t' cs') (ht : t ≠ t') : g ≠ h := fun e => by
  subst e
  have e2 : some (Obj.cells cs t (0, 0)) = some (Obj.cells cs' t' (0, 0)) := h1.symm.trans h2
  injection e2 with e2
  injection e2 with _ e3 _
  exact ht e3
theorem flC_inj {w : World} {g en : Nat} {s r : Sl} {A A' : Option Addr} {n c n' c' : Nat} (h1 : Has w g 58 (flC en s ⟨A, n, c⟩ r)) (h2 : Has w g 58 (flC en s ⟨A', n', c'⟩ r)) : n = n' := by
  have e1 := h1.cell 2
  rw [h2.cell 2] at e1
  have e2 : (some (.slice A' n' c') : Option Value) = some (.slice A n c) := e1
  injection e2 with e2
  injection e2 with _ e3 _
  exact e3.symm
theorem flC_injR {w : World} {g en : Nat} {s y : Sl} {A A' : Option Addr} {n c n' c' : Nat} (h1 : Has w g 58 (flC en s y ⟨A, n, c⟩)) (h2 : Has w g 58 (flC en s y ⟨A', n', c'⟩)) : n = n' := by
  have e1 := h1.cell 3
  rw [h2.cell 3] at e1
  have e2 : (some (.slice A' n' c') : Option Value) = some (.slice A n c) := e1
  injection e2 with e2
  injection e2 with _ e3 _
  exact e3.symm
theorem curLit (A : Option Addr) (n c q : Nat) : (#[.slice A n c, .int .i64 ((q : Nat) : Int), .bool false] : Array Value) = curC A n c q false := rfl
theorem cur_fresh {w : World} {h : Nat} {ds cs cc : Array Value} {t : TypeId} (e : ds = cc) (hh : w.heap.size ≤ h) (hH : Has (w.alloc (.cells ds t)) h t cs) : cs = cc := by
  have hlt := hH.lt
  have : h = w.heap.size := by
    have h2 : (w.alloc (.cells ds t)).heap.size = w.heap.size + 1 := by simp
    omega
  subst this
  have h3 : Has (w.alloc (.cells ds t)) w.heap.size t ds := Has.new _ _ _
  have e2 : some (Obj.cells cs t (0, 0)) = some (Obj.cells ds t (0, 0)) := hH.symm.trans h3
  injection e2 with e2
  injection e2 with e3 _ _
  rw [e3, e]
theorem new_stepS {P : Program} {o : Oper} {A : Act} {w' w'' : World} {K : Act → World → Prop} {Q : Exit → Act → World → Prop} (h : ∀ ρ : Operand → Value, ρ = A.eval → (execOp ρ o).run P w' = .ok .skip w'') (hK : K (A.put o.dst undef) w'') : o.wp P A w' K Q := by
  unfold Oper.wp
  rw [h A.eval rfl]
  exact hK
/-- what the walk behind the tags keeps -/
structure StO (w u : World) (gr go en : Nat) (s y r : Sl) (tv : Value) (l : List (Nat × Nat)) (sy : List Nat) (rl : List Rl) (w1 : World) : Prop where
  rd : RdO w u gr go en s y r w1
  tg : w1.ownsRow u.heap.size 110 2 tv l.length (cellsL 2 prR l)
  sy : w1.ownsRow u.heap.size 3 1 y.v sy.length (cellsL 1 i8 sy)
  rl : w1.ownsRow u.heap.size 62 4 r.v rl.length (cellsL 4 rlR rl)
section
variable {w u w1 w2 : World} {gr go en : Nat} {s y r : Sl} {tv : Value} {l : List (Nat × Nat)} {sy : List Nat} {rl : List Rl}
theorem StO.after (h : StO w u gr go en s y r tv l sy rl w1) (k : Below w1.heap.size w1 w2) : StO w u gr go en s y r tv l sy rl w2 := ⟨h.rd.after k, own_after h.tg k, own_after h.sy k, own_after h.rl k⟩
/-- a block of another type is written -/
theorem StO.far {g : Nat} {t : TypeId} {cs : Array Value} (h : StO w u gr go en s y r tv l sy rl w1) (hG : Has w1 g t cs) (h1 : t ≠ 110) (h2 : t ≠ 3) (h3 : t ≠ 62) (k : w1.grownBy w2 (some g)) (hg : u.heap.size ≤ g) (hne : go ≠ g) : StO w u gr go en s y r tv l sy rl w2 :=
  ⟨h.rd.far k hg hne, own_other h.tg hG h1 k, own_other h.sy hG h2 k, own_other h.rl hG h3 k⟩
theorem StO.far2 {g : Nat} {t : TypeId} {cs : Array Value} (h : StO w u gr go en s y r tv l sy rl w1) (hG : Has w1 g t cs) (h1 : t ≠ 110) (h2 : t ≠ 3) (h3 : ∀ l, r.v.ownBlock = some l → l ≠ g) (k : w1.grownBy w2 (some g)) (hg : u.heap.size ≤ g) (hne : go ≠ g) : StO w u gr go en s y r tv l sy rl w2 :=
  ⟨h.rd.far k hg hne, own_other h.tg hG h1 k, own_other h.sy hG h2 k, own_ne h.rl h3 k⟩
/-- a symbol was appended, and the row put into the file -/
theorem StO.sym {v : Nat} {A : Option Addr} {n c : Nat} (h : StO w u gr go en s y r tv l sy rl w1) (w3 : World) (ho : w2.ownsRow u.heap.size 3 1 (.slice A n c) (sy.length + 1) (cellsL 1 i8 (sy ++ [v]))) (k : w1.grownBy w2 y.v.ownBlock) (k2 : w2.grownBy w3 (some go)) (hG : Has w3 go 58 (flC en s ⟨A, n, c⟩ r)) :
    StO w u gr go en s ⟨A, n, c⟩ r tv l (sy ++ [v]) rl w3 := by
  have hres := has_own h.sy h.rd.res (by decide) k
  have hout := has_own h.sy h.rd.out (by decide) k
  have hbel := below_own h.rd.bel h.sy (Nat.le_refl _) h.rd.bel.size k
  have rd : RdO w u gr go en s y r w2 := ⟨hres, hout, hbel, h.rd.wu, h.rd.goB, h.rd.grB, h.rd.grl⟩
  exact ⟨rd.set k2 hG, own_other (own_other2 h.tg h.sy (by decide) k) hout (by decide) k2, by rw [List.length_append]; exact own_other ho hout (by decide) k2, own_other (own_other2 h.rl h.sy (by decide) k) hout (by decide) k2⟩
/-- a relocation was -/
theorem StO.rel {v : Rl} {A : Option Addr} {n c : Nat} (h : StO w u gr go en s y r tv l sy rl w1) (w3 : World) (ho : w2.ownsRow u.heap.size 62 4 (.slice A n c) (rl.length + 1) (cellsL 4 rlR (rl ++ [v]))) (k : w1.grownBy w2 r.v.ownBlock) (k2 : w2.grownBy w3 (some go)) (hG : Has w3 go 58 (flC en s y ⟨A, n, c⟩)) :
    StO w u gr go en s y ⟨A, n, c⟩ tv l sy (rl ++ [v]) w3 := by
  have hres := has_own h.rl h.rd.res (by decide) k
  have hout := has_own h.rl h.rd.out (by decide) k
  have hbel := below_own h.rd.bel h.rl (Nat.le_refl _) h.rd.bel.size k
  have rd : RdO w u gr go en s y r w2 := ⟨hres, hout, hbel, h.rd.wu, h.rd.goB, h.rd.grB, h.rd.grl⟩
  exact ⟨rd.set k2 hG, own_other (own_other2 h.tg h.rl (by decide) k) hout (by decide) k2, own_other (own_other2 h.sy h.rl (by decide) k) hout (by decide) k2, by rw [List.length_append]; exact own_other ho hout (by decide) k2⟩
/-- the finished file -/
theorem StO.end {ss : List Sg} (h : StO w u gr go en s y r tv l sy rl w1) (hT : SlT u ⟨s.A, s.n, s.c⟩ ss) (hy : sy.length ≤ 1000) (hr : rl.length ≤ 1000) (k : w1.grownBy w2 (some gr)) {bs : List UInt8} (hN : readN bs = ⟨en, ss, sy, rl, 0⟩) :
    RdR w bs (.returned (.tuple #[.agg (flC en s y r), .int .i64 0])) w2 := by
  obtain ⟨Ay, ny, cy⟩ := y
  obtain ⟨Ar, nr, cr⟩ := r
  have hsy := own_other h.sy h.rd.res (by decide) k
  have hrl := own_other h.rl h.rd.res (by decide) k
  have e1 := own_n hsy
  have e2 := own_n hrl
  subst e1 e2
  exact rdR_ok hN (slT_file h.rd.res (hT.below h.rd.bel) k) (own_slC hsy (by decide) (by show sy.length ≤ _; omega) 0) (own_slC hrl (by decide) (by show rl.length ≤ _; omega) rl0) (h.rd.fin k)
end
theorem infoRL4 : (Try.prog.info? 62).map (·.size) = some 4 := by kernel_rfl
theorem rlR_lit (r : Rl) : (#[.int .i64 (r.a : Int), .int .i64 (r.t : Int), .int .i64 (r.s : Int), .int .i64 (r.x : Int)] : Array Value) = tab 4 (rlR r) := by kernel_rfl
theorem rlR_s1 (a t : Nat) : (tab 4 (rlR ⟨a, 0, 0, 0⟩)).setIfInBounds 1 (.int .i64 (t : Int)) = tab 4 (rlR ⟨a, t, 0, 0⟩) := rfl
theorem rlR_s2 (a t s : Nat) : (tab 4 (rlR ⟨a, t, 0, 0⟩)).setIfInBounds 2 (.int .i64 (s : Int)) = tab 4 (rlR ⟨a, t, s, 0⟩) := rfl
theorem rlR_s3 (a t s x : Nat) : (tab 4 (rlR ⟨a, t, s, 0⟩)).setIfInBounds 3 (.int .i64 (x : Int)) = tab 4 (rlR ⟨a, t, s, x⟩) := rfl
end Go.Proofs.Ytfdoloonllhodaa
