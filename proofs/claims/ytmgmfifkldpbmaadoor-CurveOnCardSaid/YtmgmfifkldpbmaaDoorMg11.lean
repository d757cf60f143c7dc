/-
What came in, opened: arrays of integers by value; numbers.
What the rows list of the program's variables, as the walks ask it; a world that holds them.
CurveOn: the walk, over what package curve's calls do.
-/
import Derived.Test.YtmgmfifkldpbmaaDoorCards
import Derived.Test.YtmgmfifkldpbmaaDoorTie
import Derived.Test.YtmgmfifkldpbmaaDoorMg00
import Derived.Test.YtmgmfifkldpbmaaDoorMg08
import Derived.Test.YtmgmfifkldpbmaaDoorMg10
import Derived.ProofKit
import Derived.OpenShut
import Derived.Deep.DeepHandedRow
import Derived.Lib.LaidTab
import Derived.LaidSub
namespace Go.Proofs.YtmgmfifkldpbmaaDoor
open Go.ChangeShapes Go.WideShapes Go.ChangeAt Go.RowKit

theorem own : ownKnob Tryd.prog.godebug = none := by kernel_rfl
theorem laidOut : laidOutB Tryd.prog = true := by kernel_rfl
/-- an array of integers, by value -/
theorem came_array {H : Type} {enc : TypeId × Value → H} {P : Program} {W : World} {base : Nat} {t e : TypeId} {n : Nat} {k : IntKind} {v : Value} {d : DataW H} {p : List MemPlace}
    (ht : P.underlying t = some (.array n e)) (he : P.underlying e = some (.int k)) (hce : P.cellsOf e = 1) (hct : P.cellsOf t = n) (hv : Value.okWide P W .any base t v)
    (h : DataW.Trod enc P W 0 (fun _ => true) true t v d p) : ∃ f : Nat → Int, v = .agg (tab n fun j => .int k (f j)) ∧ ∀ j, j < n → (Lit.int k (f j)).wf = true := by
  obtain ⟨cs, rfl, hsz, _⟩ : ∃ cs, v = .agg cs ∧ cs.size = P.cellsOf t ∧ Row.okWide P W .any base t cs := by simpa [Value.okWide, ht] using hv
  rw [hct] at hsz
  obtain ⟨fuel, hf⟩ := h
  obtain ⟨xs, m, rfl, hx, hl, hn, hel⟩ := DataW.trod_array ht hf
  have hi : ∀ j, j < n → ∃ z, cs[j]? = some (.int k z) ∧ (Lit.int k z).wf = true := fun j hj => by
    have h1 := hel j hj
    have hjx : j < xs.length := by omega
    rw [List.getElem?_eq_getElem hjx] at h1
    obtain ⟨z, hc, _, hw⟩ := DataW.trod_int he h1
    refine ⟨z, ?_, hw⟩
    have h2 := congrArg (·[0]?) hc
    simpa [List.getElem?_take, List.getElem?_drop, hce, Value.cells] using h2
  refine ⟨fun j => if h : j < n then Classical.choose (hi j h) else 0, ?_, fun j hj => ?_⟩
  · congr 1
    apply Array.ext_getElem?
    intro j
    by_cases hj : j < n
    · rw [(Classical.choose_spec (hi j hj)).1, tab_get n _ j hj]
      dsimp only
      rw [dif_pos hj]
    · rw [Array.getElem?_eq_none (by omega), Array.getElem?_eq_none (by rw [tab_size]; omega)]
  · simp only [dif_pos hj]
    exact (Classical.choose_spec (hi j hj)).2
theorem cellsNum : Tryd.prog.cellsOf 24 = 8 := by kernel_rfl
theorem cells32 : Tryd.prog.cellsOf 22 = 1 := by kernel_rfl
/-- a number -/
theorem came_num {H : Type} {enc : TypeId × Value → H} {W : World} {base : Nat} {v : Value} {d : DataW H} {p : List MemPlace} (hv : Value.okWide Tryd.prog W .any base 24 v)
    (h : DataW.Trod enc Tryd.prog W 0 (fun _ => true) true 24 v d p) : ∃ x, x < big ∧ v = .agg (nums x) := by
  obtain ⟨f, rfl, hw⟩ := came_array Tryd.underlying24 Tryd.underlying22 cells32 cellsNum hv h
  have hb : ∀ j, j < 8 → 0 ≤ f j ∧ f j < 4294967296 := fun j hj => by
    have := hw j hj
    have h2 : 0 ≤ f j ∧ f j ≤ 4294967295 := by simpa [Lit.wf, IntKind.min, IntKind.max, IntKind.signed, IntKind.bits] using this
    omega
  obtain ⟨x, hx, hd⟩ := digits_of (B := 4294967296) (by decide) (fun j => (f j).toNat) 8 (fun j hj => by have := hb j hj; omega)
  refine ⟨x, hx, ?_⟩
  congr 1
  unfold nums
  apply tab_ext
  intro j hj
  unfold dgs
  rw [hd j hj]
  have := hb j hj
  rw [Int.toNat_of_nonneg this.1]
/-- a world for the witnesses -/
noncomputable def plainWorld (os : Os) : World := World.holding Tryd.prog os ⟨#[], #[], []⟩
/-- 0, as it comes in -/
def zeroIn : Value := .agg #[.int .u32 0, .int .u32 0, .int .u32 0, .int .u32 0, .int .u32 0, .int .u32 0, .int .u32 0, .int .u32 0]
end Go.Proofs.YtmgmfifkldpbmaaDoor
namespace Go.Proofs.YtmgmfifkldpbmaaDoor
open Go.ChangeShapes Go.WideShapes Go.ChangeAt Go.RowKit

theorem came_word4 {H : Type} {enc : TypeId × Value → H} {P : Program} {W : World} {base : Nat} {t : TypeId} {v : Value} {d : DataW H} {p : List MemPlace} (ht : P.underlying t = some (.int .u32)) (hv : Value.okWide P W .any base t v)
    (h : DataW.Trod enc P W 0 (fun _ => true) true t v d p) : ∃ x : Nat, x < 4294967296 ∧ v = .int .u32 (x : Int) := by
  obtain ⟨z, rfl, _, _, hw⟩ := open_int ht hv h
  have h2 : 0 ≤ z ∧ z ≤ 4294967295 := by simpa [Lit.wf, IntKind.min, IntKind.max, IntKind.signed, IntKind.bits] using hw
  exact ⟨z.toNat, by omega, by rw [Int.toNat_of_nonneg h2.1]⟩
def laidList : List (String × DataW Unit) := [("portico/curve.prime", Rows.laid_portico_curve_prime), ("portico/curve.coefficient", Rows.laid_portico_curve_coefficient), ("portico/curve.baseX", Rows.laid_portico_curve_baseX), ("portico/curve.baseY", Rows.laid_portico_curve_baseY), ("portico/curve.order", Rows.laid_portico_curve_order)]
def intsW (x : Nat) : List Int := (List.range 8).map fun j => ((wrd x j : Nat) : Int)
theorem cells8w : Tryd.prog.cellsOf 24 = 8 := by kernel_rfl
theorem cells1w : Tryd.prog.cellsOf 22 = 1 := by kernel_rfl
theorem g_prime : Tryd.prog.globalNamed "portico/curve.prime" = some 0 := by kernel_rfl
theorem gt_prime : (Tryd.prog.globals[0]?).map (·.type) = some 24 := by kernel_rfl
theorem list_prime : (Rows.laid_portico_curve_prime : DataW Unit) = Lib.tabData .u32 (intsW (Ec.pp)) := by kernel_rfl
theorem g_coefficient : Tryd.prog.globalNamed "portico/curve.coefficient" = some 1 := by kernel_rfl
theorem gt_coefficient : (Tryd.prog.globals[1]?).map (·.type) = some 24 := by kernel_rfl
theorem list_coefficient : (Rows.laid_portico_curve_coefficient : DataW Unit) = Lib.tabData .u32 (intsW (bN)) := by kernel_rfl
theorem g_baseX : Tryd.prog.globalNamed "portico/curve.baseX" = some 2 := by kernel_rfl
theorem gt_baseX : (Tryd.prog.globals[2]?).map (·.type) = some 24 := by kernel_rfl
theorem list_baseX : (Rows.laid_portico_curve_baseX : DataW Unit) = Lib.tabData .u32 (intsW (Ec.gX)) := by kernel_rfl
theorem g_baseY : Tryd.prog.globalNamed "portico/curve.baseY" = some 3 := by kernel_rfl
theorem gt_baseY : (Tryd.prog.globals[3]?).map (·.type) = some 24 := by kernel_rfl
theorem list_baseY : (Rows.laid_portico_curve_baseY : DataW Unit) = Lib.tabData .u32 (intsW (Ec.gY)) := by kernel_rfl
theorem g_order : Tryd.prog.globalNamed "portico/curve.order" = some 4 := by kernel_rfl
theorem gt_order : (Tryd.prog.globals[4]?).map (·.type) = some 24 := by kernel_rfl
theorem list_order : (Rows.laid_portico_curve_order : DataW Unit) = Lib.tabData .u32 (intsW (Ec.ordN)) := by kernel_rfl
theorem range_of {W : World} {g x : Nat} (h : ∀ i, i < 8 → W.cell? ⟨g, i, none⟩ = some (.int .u32 ((intsW x).getD i 0))) : W.rangeAt g 0 (wordsL x) := fun j v hv => by
  have hj : j < 8 := by
    have := (List.getElem?_eq_some_iff.1 hv).1
    rwa [wordsL_len] at this
  rw [Nat.zero_add, h j hj]
  have e1 : (wordsL x)[j]? = some (dgs .u32 4294967296 x j) := by simp [wordsL, hj]
  rw [e1] at hv
  have e2 : (intsW x).getD j 0 = ((wrd x j : Nat) : Int) := by simp [intsW, List.getD_eq_getElem?_getD, hj]
  rw [e2, ← hv]
  rfl
/-- what the rows' list gives -/
theorem laid_of {W : World} (h : laidMetH Tryd.prog laidList W) : Laid W := by
  have h0 : laidMet Tryd.prog laidList W := h
  unfold laidList at h0
  rw [list_prime, list_coefficient, list_baseX, list_baseY, list_order] at h0
  have m_prime : laidMet Tryd.prog [("portico/curve.prime", Lib.tabData .u32 (intsW (Ec.pp)))] W := h0.filter (fun x => x.1 == "portico/curve.prime")
  have t_prime : Lib.TabIs Tryd.prog W "portico/curve.prime" .u32 (intsW (Ec.pp)) := Lib.tabIs_of_head (rest := []) g_prime gt_prime Tryd.underlying24 Tryd.underlying22 cells1w cells8w m_prime
  have c_prime : ∀ i, i < 8 → W.cell? ⟨0, i, none⟩ = some (.int .u32 ((intsW (Ec.pp)).getD i 0)) := fun i hi => t_prime.cell g_prime i (by simpa [intsW] using hi)
  have k_prime := block_lt_of_cell (c_prime 0 (by omega))
  dsimp only at k_prime
  have m_coefficient : laidMet Tryd.prog [("portico/curve.coefficient", Lib.tabData .u32 (intsW (bN)))] W := h0.filter (fun x => x.1 == "portico/curve.coefficient")
  have t_coefficient : Lib.TabIs Tryd.prog W "portico/curve.coefficient" .u32 (intsW (bN)) := Lib.tabIs_of_head (rest := []) g_coefficient gt_coefficient Tryd.underlying24 Tryd.underlying22 cells1w cells8w m_coefficient
  have c_coefficient : ∀ i, i < 8 → W.cell? ⟨1, i, none⟩ = some (.int .u32 ((intsW (bN)).getD i 0)) := fun i hi => t_coefficient.cell g_coefficient i (by simpa [intsW] using hi)
  have k_coefficient := block_lt_of_cell (c_coefficient 0 (by omega))
  dsimp only at k_coefficient
  have m_baseX : laidMet Tryd.prog [("portico/curve.baseX", Lib.tabData .u32 (intsW (Ec.gX)))] W := h0.filter (fun x => x.1 == "portico/curve.baseX")
  have t_baseX : Lib.TabIs Tryd.prog W "portico/curve.baseX" .u32 (intsW (Ec.gX)) := Lib.tabIs_of_head (rest := []) g_baseX gt_baseX Tryd.underlying24 Tryd.underlying22 cells1w cells8w m_baseX
  have c_baseX : ∀ i, i < 8 → W.cell? ⟨2, i, none⟩ = some (.int .u32 ((intsW (Ec.gX)).getD i 0)) := fun i hi => t_baseX.cell g_baseX i (by simpa [intsW] using hi)
  have k_baseX := block_lt_of_cell (c_baseX 0 (by omega))
  dsimp only at k_baseX
  have m_baseY : laidMet Tryd.prog [("portico/curve.baseY", Lib.tabData .u32 (intsW (Ec.gY)))] W := h0.filter (fun x => x.1 == "portico/curve.baseY")
  have t_baseY : Lib.TabIs Tryd.prog W "portico/curve.baseY" .u32 (intsW (Ec.gY)) := Lib.tabIs_of_head (rest := []) g_baseY gt_baseY Tryd.underlying24 Tryd.underlying22 cells1w cells8w m_baseY
  have c_baseY : ∀ i, i < 8 → W.cell? ⟨3, i, none⟩ = some (.int .u32 ((intsW (Ec.gY)).getD i 0)) := fun i hi => t_baseY.cell g_baseY i (by simpa [intsW] using hi)
  have k_baseY := block_lt_of_cell (c_baseY 0 (by omega))
  dsimp only at k_baseY
  have m_order : laidMet Tryd.prog [("portico/curve.order", Lib.tabData .u32 (intsW (Ec.ordN)))] W := h0.filter (fun x => x.1 == "portico/curve.order")
  have t_order : Lib.TabIs Tryd.prog W "portico/curve.order" .u32 (intsW (Ec.ordN)) := Lib.tabIs_of_head (rest := []) g_order gt_order Tryd.underlying24 Tryd.underlying22 cells1w cells8w m_order
  have c_order : ∀ i, i < 8 → W.cell? ⟨4, i, none⟩ = some (.int .u32 ((intsW (Ec.ordN)).getD i 0)) := fun i hi => t_order.cell g_order i (by simpa [intsW] using hi)
  have k_order := block_lt_of_cell (c_order 0 (by omega))
  dsimp only at k_order
  exact ⟨range_of c_prime, range_of c_coefficient, range_of c_baseX, range_of c_baseY, range_of c_order, by omega⟩
/-- a world for the witnesses: the settled one, the variables holding what their initialisers lay -/
noncomputable def laidWorld (os : Os) : World :=
  { World.holding Tryd.prog os ⟨#[], #[], []⟩ with heap := ((((((World.holding Tryd.prog os ⟨#[], #[], []⟩).heap.modify 0 fun
      | .cells _ t frozen => .cells #[.int .u32 4294967295, .int .u32 4294967295, .int .u32 4294967295, .int .u32 0, .int .u32 0, .int .u32 0, .int .u32 1, .int .u32 4294967295] t frozen
      | o => o).modify 1 fun
      | .cells _ t frozen => .cells #[.int .u32 668098635, .int .u32 1003371582, .int .u32 3428036854, .int .u32 1696401072, .int .u32 1989707452, .int .u32 3018571093, .int .u32 2855965671, .int .u32 1522939352] t frozen
      | o => o).modify 2 fun
      | .cells _ t frozen => .cells #[.int .u32 3633889942, .int .u32 4104206661, .int .u32 770388896, .int .u32 1996717441, .int .u32 1671708914, .int .u32 4173129445, .int .u32 3777774151, .int .u32 1796723186] t frozen
      | o => o).modify 3 fun
      | .cells _ t frozen => .cells #[.int .u32 935285237, .int .u32 3417718888, .int .u32 1798397646, .int .u32 734933847, .int .u32 2081398294, .int .u32 2397563722, .int .u32 4263149467, .int .u32 1340293858] t frozen
      | o => o).modify 4 fun
      | .cells _ t frozen => .cells #[.int .u32 4234356049, .int .u32 4089039554, .int .u32 2803342980, .int .u32 3169254061, .int .u32 4294967295, .int .u32 4294967295, .int .u32 0, .int .u32 4294967295] t frozen
      | o => o) }
end Go.Proofs.YtmgmfifkldpbmaaDoor
namespace Go.Proofs.YtmgmfifkldpbmaaDoor
open Go.RowKit

theorem info23 (x : Nat) : (Tryd.prog.info? 23).map (·.size) = some (nums x).size := by rw [nums_size]; kernel_rfl
theorem buildC (x y : Nat) (W : World) : (Instr.build 35 #[(0, .agg (nums x)), (1, .agg (nums y))]).run Tryd.prog W = .ok (.agg (cpC x y false)) W := by kernel_rfl
theorem ltB4 (o1 o2 : Operand) (a : Int) (b : Bool) (h : (decide (a < 0)) = b) (W : World) : (do eqGuard .lss 3 o1 o2 (.int .i64 a) (.int .i64 0); binOp .lss 3 (.int .i64 a) (.int .i64 0) : Sem Value).run Tryd.prog W = .ok (.bool b) W := by
  subst h
  go_simp
theorem neqB (o1 o2 : Operand) (b : Bool) (w : World) : (do eqGuard .neq 4 o1 o2 (.bool b) (.bool b); binOp .neq 4 (.bool b) (.bool b) : Sem Value).run Tryd.prog w = .ok (.bool false) w := by
  cases b <;> go_simp
theorem zero8w : (#[.int .u32 0, .int .u32 0, .int .u32 0, .int .u32 0, .int .u32 0, .int .u32 0, .int .u32 0, .int .u32 0] : Array Value) = nums 0 := by kernel_rfl
section
variable {w : World} {ops : Array Oper} {rest : List Oper} {op : Oper} {a : Act} {Q : Exit → Act → World → Prop}
theorem wpList_load_w8G (hw : Region.wanted op (yielded ops a.tmps) = true) (p : Operand) (ho : op.op = .load 24 p) (b o : Nat) (hp : a.eval p = .pointer (some ⟨b, o, none⟩)) (x : Nat) (hc : w.rangeAt b o (w8L x))
    (h : wpList Tryd.prog ops Q rest (a.put op.dst (.agg (nums x))) w) : wpList Tryd.prog ops Q (op :: rest) a w := by
  rw [← w8L_arr] at h
  exact wpList_wanted hw fun _ hK => wp_load_mid 24 p ho b o hp (w8L x) _ hc Tryd.underlying24 rfl (infoW8 x) (hK _ _ h)
theorem wpList_partsG {P : Program} (hw : Region.wanted op (yielded ops a.tmps) = true) (t : TypeId) (ps : Array (Nat × Operand)) (ho : op.op = .build t ps) (vs : Array (Nat × Value)) (hvs : (ps.map fun p => (p.1, a.eval p.2)) = vs) (v : Value)
    (hrun : ∀ w, (Instr.build t vs).run P w = .ok v w) (h : wpList P ops Q rest (a.put op.dst v) w) : wpList P ops Q (op :: rest) a w :=
  wpList_wanted hw fun K hK => by
    have e := hrun w
    rw [← hvs] at e
    unfold Oper.wp execOp
    simp only [ho]
    rw [Sem.run_bind, e]
    exact hK _ _ h
theorem wpList_binG {P : Program} (hw : Region.wanted op (yielded ops a.tmps) = true) (b : BinOp) (t : TypeId) (x y : Operand) (t2 : TypeId) (ho : op.op = .binOp b t x y t2) (X Y : Value) (hx : a.eval x = X) (hy : a.eval y = Y) (v : Value)
    (hrun : ∀ w, (do eqGuard b t x y X Y; binOp b t X Y : Sem Value).run P w = .ok v w) (h : wpList P ops Q rest (a.put op.dst v) w) : wpList P ops Q (op :: rest) a w :=
  wpList_wanted hw fun K hK => by
    have e := hrun w
    unfold Oper.wp execOp
    simp only [ho, hx, hy]
    rw [Sem.run_bind, e]
    exact hK _ _ h
end
theorem numEqW (o1 o2 : Operand) (x y : Nat) (hx : x < big) (hy : y < big) (w : World) : (do eqGuard .eql 24 o1 o2 (.agg (nums x)) (.agg (nums y)); binOp .eql 24 (.agg (nums x)) (.agg (nums y)) : Sem Value).run Tryd.prog w = .ok (.bool (sameN x y)) w := by
  have es := eql_nums hx hy
  go_simp
attribute [local go_sem] zero8w zero16 zero48 one16 zero17c
set_option maxRecDepth 100000 in
set_option maxHeartbeats 2000000 in
theorem on_low {G : World → Prop} {Is : World → Nat → Prop} (H : CurveOK G Is) (n x y : Nat) (w : World) (hn : n < big) (lx : x < big) (ly : y < big) (hx : x < Ec.pp) (hy : y < Ec.pp) (hG : G w) :
    Calls Tryd.prog 5 #[.agg (nums n), .agg (nums x), .agg (nums y)] w fun e w' => e = .returned (.bool true) ∧ Below w.heap.size w w' := by
  have kFit := fun W => @fit_any4 G Is H W
  have kB := H.base_ok
  have kNew := H.new_ok
  have keep := fun w w' g => @CurveOK.keep G Is H w w' g
  have HK := Lib.hid keep
  have gkeep := fun w w' => @CurveOK.gkeep G Is H w w'
  have HG := Lib.hid gkeep
  clear gkeep
  have kP0 := refP_any
  have kF := fun W => newField_any refP W (by decide +kernel) (by decide +kernel)
  have kWd := fun W => words3_any refP W (by decide +kernel)
  have kCx := fun W => compare_any x refP W lx (by decide +kernel)
  have kCy := fun W => compare_any y refP W ly (by decide +kernel)
  have kOx := of3_any x
  have kOy := of3_any y
  obtain ⟨r, hr, kOn⟩ := H.on_ok x y false lx ly
  have hcx :  cmpI x refP < 0 := (cmp_lt _ _).2 hx
  have hcy :  cmpI y refP < 0 := (cmp_lt _ _).2 hy
  obtain ⟨b, hb, kE⟩ := on_ex x y refP fldOK_P refP_eq hx hy
  have hrb := on_same hr hx hy hb
  subst hrb
  clear hr hb
  generalize cmpI x refP = cx at *
  generalize cmpI y refP = cy at *
  have kM := fun g W h => H.mult_ok W g n Ec.baseP h hn Ec.base_on
  clear keep hn lx ly
  have hyn := @y_ne n
  have hS := Ec.smul_on Ec.base_on n
  generalize Ec.smul n Ec.baseP = A at *
  generalize Ec.baseP = B at *
  have hpp : refP = Ec.pp := rfl
  generalize refP = p at *
  have HPP := Lib.hid hpp
  clear hpp
  have hN : Has (((w.alloc (.cells (nums n) 24)).alloc (.cells (nums x) 24)).alloc (.cells (nums y) 24)) w.heap.size 24 (nums n) := ((Has.new w _ _).alloc _).alloc _
  have hX : Has (((w.alloc (.cells (nums n) 24)).alloc (.cells (nums x) 24)).alloc (.cells (nums y) 24)) (w.heap.size + 1) 24 (nums x) := (Has.new' (by simp)).alloc _
  have hY : Has (((w.alloc (.cells (nums n) 24)).alloc (.cells (nums x) 24)).alloc (.cells (nums y) 24)) (w.heap.size + 1 + 1) 24 (nums y) := Has.new' (by simp)
  have hb0 : Below w.heap.size w (((w.alloc (.cells (nums n) 24)).alloc (.cells (nums x) 24)).alloc (.cells (nums y) 24)) := (((Below.refl _ _).alloc (Nat.le_refl _) _).alloc (by simp) _).alloc (by simp; omega) _
  go_enter Tryd.func5, Tryd.ntmps5
  go_wp2_with fail
  refine (kFit _ (HG.out _ _ hG hb0)).mono ?_
  rintro e w1 ⟨rfl, hx0⟩
  replace hN := hN.after hx0; replace hX := hX.after hx0; replace hY := hY.after hx0; replace hb0 := below_trans hb0 hx0
  clear hx0 kFit
  go_wp2_with fail
  refine (kNew _ (HG.out _ _ hG hb0)).mono ?_
  rintro e w2 ⟨⟨g, rfl, hI⟩, hx0⟩
  replace hN := hN.after hx0; replace hX := hX.after hx0; replace hY := hY.after hx0; replace hb0 := below_trans hb0 hx0
  clear hx0 kNew
  go_wp2_with fail
  refine (kP0 _).mono ?_
  rintro e w3 ⟨rfl, hx0⟩
  replace hN := hN.after hx0; replace hX := hX.after hx0; replace hY := hY.after hx0; replace hI := HK.out _ _ _ hI hx0; replace hb0 := below_trans hb0 hx0
  clear hx0
  go_wp2_with fail
  refine (kF _).mono ?_
  rintro e w4 ⟨⟨f, rfl, hF⟩, hx0⟩
  replace hN := hN.after hx0; replace hX := hX.after hx0; replace hY := hY.after hx0; replace hI := HK.out _ _ _ hI hx0; replace hb0 := below_trans hb0 hx0
  clear hx0 kF
  go_wp2_with fail
  refine (kP0 _).mono ?_
  rintro e w5 ⟨rfl, hx0⟩
  replace hN := hN.after hx0; replace hX := hX.after hx0; replace hY := hY.after hx0; replace hI := HK.out _ _ _ hI hx0; replace hb0 := below_trans hb0 hx0; replace hF := hF.after hx0
  clear hx0 kP0
  go_wp2_with fail
  refine (kWd _).mono ?_
  rintro e w6 ⟨rfl, hx0⟩
  replace hN := hN.after hx0; replace hX := hX.after hx0; replace hY := hY.after hx0; replace hI := HK.out _ _ _ hI hx0; replace hb0 := below_trans hb0 hx0; replace hF := hF.after hx0
  clear hx0 kWd
  have hz := put_new w6 23 (nums 0) (nums p)
  replace hN := hN.after hz.2; replace hX := hX.after hz.2; replace hY := hY.after hz.2; replace hF := hF.after hz.2; replace hI := HK.out _ _ _ hI hz.2; replace hb0 := below_trans hb0 hz.2
  have hP := hz.1
  clear hz
  go_wp2_with (first | (refine wpList_store_row rfl 23 _ _ rfl w6.heap.size _ rfl rfl 23 (nums 0) (Has.new' rfl) (info23 _) (by simp only [nums_size]) (tab_oneCell _ _ fun _ => rfl) ?_; generalize hWW : World.setRow _ _ _ = U6 at *; clear hWW) | refine wpList_load_has 24 _ rfl _ rfl rfl 24 _ hX _ Tryd.underlying24 rfl (infoNum _) ?_ | refine wpList_load_has 23 _ rfl _ rfl rfl 23 _ hP _ Tryd.underlying23 rfl (info23 _) ?_)
  refine (kCx _).mono ?_
  rintro e w7 ⟨rfl, hC⟩
  replace hN := hN.after hC; replace hX := hX.after hC; replace hY := hY.after hC; replace hP := hP.after hC; replace hF := hF.after hC; replace hI := HK.out _ _ _ hI hC; replace hb0 := below_trans hb0 hC
  clear hC kCx
  go_wp2_with (first | refine wpList_load_has 24 _ rfl _ rfl rfl 24 _ hY _ Tryd.underlying24 rfl (infoNum _) ?_ | refine wpList_load_has 23 _ rfl _ rfl rfl 23 _ hP _ Tryd.underlying23 rfl (info23 _) ?_)
  refine (kCy _).mono ?_
  rintro e w7 ⟨rfl, hC⟩
  replace hN := hN.after hC; replace hX := hX.after hC; replace hY := hY.after hC; replace hP := hP.after hC; replace hF := hF.after hC; replace hI := HK.out _ _ _ hI hC; replace hb0 := below_trans hb0 hC
  clear hC kCy
  go_wp2_with fail
  refine region_quiet_tail (Below w7.heap.size w7) 14 (by kernel_rfl) (by kernel_rfl) (below_drewN (Below.refl _ _) 1) ?_
  simp only [List.take_succ_cons, List.take_zero, List.drop_succ_cons, List.drop_zero]
  refine wpQ_move _ rfl rfl (.pointer (some ⟨g, 0, none⟩)) rfl ?_
  simp only [Act.put, List.setIfInBounds_toArray, List.set_cons_zero, List.set_cons_succ]
  refine wpQ_has 24 _ rfl _ rfl rfl 24 _ (fun w' hC => hX.after hC) _ Tryd.underlying24 rfl (infoNum _) ?_
  simp only [Act.put, List.setIfInBounds_toArray, List.set_cons_zero, List.set_cons_succ]
  refine wpQ_has 24 _ rfl _ rfl rfl 24 _ (fun w' hC => hY.after hC) _ Tryd.underlying24 rfl (infoNum _) ?_
  simp only [Act.put, List.setIfInBounds_toArray, List.set_cons_zero, List.set_cons_succ]
  refine wpQ_parts4 35 _ rfl rfl #[(0, .agg (nums x)), (1, .agg (nums y))] (by simp only [List.map_toArray, List.map_cons, List.map_nil]; rfl) (.agg (cpC x y false)) (fun w' _ => buildC x y w') ?_
  simp only [Act.put, List.setIfInBounds_toArray, List.set_cons_zero, List.set_cons_succ]
  refine wpQ_fn 17 _ _ rfl rfl #[.pointer (some ⟨g, 0, none⟩), .agg (cpC x y false)] rfl (fun _ => by go_simp) (.bool r) (fun w' hC => (kOn w' _ (HK.out _ _ _ hI hC)).mono fun e w'' ⟨he, hb⟩ => ⟨he, below_class hC hb⟩) ?_
  simp only [Act.put, List.setIfInBounds_toArray, List.set_cons_zero, List.set_cons_succ]
  refine wpQ_move _ rfl rfl (.bool true) rfl ?_
  simp only [Act.put, List.setIfInBounds_toArray, List.set_cons_zero, List.set_cons_succ]
  refine wpQ_move _ rfl rfl (.bool true) rfl ?_
  simp only [Act.put, List.setIfInBounds_toArray, List.set_cons_zero, List.set_cons_succ]
  refine wpQ_move _ rfl rfl (.pointer (some ⟨f, 0, none⟩)) rfl ?_
  simp only [Act.put, List.setIfInBounds_toArray, List.set_cons_zero, List.set_cons_succ]
  refine wpQ_has 24 _ rfl _ rfl rfl 24 _ (fun w' hC => hX.after hC) _ Tryd.underlying24 rfl (infoNum _) ?_
  simp only [Act.put, List.setIfInBounds_toArray, List.set_cons_zero, List.set_cons_succ]
  refine wpQ_fn 14 _ _ rfl rfl #[.agg (nums x)] rfl (fun _ => by go_simp) (.agg (d16 x)) (fun w' hC => (kOx w').mono fun e w'' ⟨he, hb⟩ => ⟨he, below_class hC hb⟩) ?_
  simp only [Act.put, List.setIfInBounds_toArray, List.set_cons_zero, List.set_cons_succ]
  refine wpQ_has 24 _ rfl _ rfl rfl 24 _ (fun w' hC => hY.after hC) _ Tryd.underlying24 rfl (infoNum _) ?_
  simp only [Act.put, List.setIfInBounds_toArray, List.set_cons_zero, List.set_cons_succ]
  refine wpQ_fn 14 _ _ rfl rfl #[.agg (nums y)] rfl (fun _ => by go_simp) (.agg (d16 y)) (fun w' hC => (kOy w').mono fun e w'' ⟨he, hb⟩ => ⟨he, below_class hC hb⟩) ?_
  simp only [Act.put, List.setIfInBounds_toArray, List.set_cons_zero, List.set_cons_succ]
  refine wpQ_fn 24 _ _ rfl rfl #[.pointer (some ⟨f, 0, none⟩), .agg (d16 x), .agg (d16 y)] rfl (fun _ => by go_simp) (.bool r) (fun w' hC => (kE _ w' (hF.after hC)).mono fun e w'' ⟨he, hb⟩ => ⟨he, below_class hC hb⟩) ?_
  simp only [Act.put, List.setIfInBounds_toArray, List.set_cons_zero, List.set_cons_succ]
  refine wpQ_pick _ _ _ rfl rfl true rfl (.bool r) rfl ?_
  simp only [Act.put, List.setIfInBounds_toArray, List.set_cons_zero, List.set_cons_succ]
  refine wpQuiet_nil ?_
  intro w8 hC
  replace hN := hN.after hC; replace hX := hX.after hC; replace hY := hY.after hC; replace hP := hP.after hC; replace hF := hF.after hC; replace hI := HK.out _ _ _ hI hC; replace hb0 := below_trans hb0 hC
  clear hC kOn
  go_wp2_with fail
  rcases A with _ | ⟨ax, ay⟩
  · have kPt : ∀ g W, Is W g → Calls Tryd.prog 17 #[.pointer (some ⟨g, 0, none⟩), cpV none] W fun e w' => e = .returned (.bool false) ∧ Below W.heap.size W w' := fun g W h => on_pt H none hS g W h
    clear hS hyn
    refine region_facts 5 [] [.val (.pointer (some ⟨g, 0, none⟩)), .val (.agg (nums n)), .val (.agg (cpC (cpX B) (cpY B) (cpN B))), .val (.agg (cpC (cpX none) (cpY none) (cpN none))), .new 35 (cpC 0 0 false)]
      (by kernel_rfl) (by kernel_rfl) (fun _ _ _ _ _ h => h) ?_ ?_
    · simp only [List.take_succ_cons, List.take_zero, StepsOK]
      refine ⟨?_, ?_, ?_, ?_, ?_, trivial⟩
      · intro v w' hb hf K hKt
        simp only [putAll, Act.put, List.setIfInBounds_toArray, List.set_cons_zero, List.set_cons_succ, Nat.zero_add, Nat.reduceAdd] at hKt ⊢
        go_simp
        exact hKt _ (Below.refl _ _)
      · intro v w' hb hf K hKt
        simp only [putAll, Act.put, List.setIfInBounds_toArray, List.set_cons_zero, List.set_cons_succ, Nat.zero_add, Nat.reduceAdd] at hKt ⊢
        exact wp_load_row 24 _ rfl (w.heap.size) rfl 24 _ (0, 0) _ (hN.after hb) Tryd.underlying24 rfl (infoNum _) (hKt _ (Below.refl _ _))
      · intro v w' hb hf K hKt
        simp only [putAll, Act.put, List.setIfInBounds_toArray, List.set_cons_zero, List.set_cons_succ, Nat.zero_add, Nat.reduceAdd] at hKt ⊢
        go_simp
        refine (kB w' _ (HK.out _ _ _ hI hb)).mono ?_
        rintro e w'' ⟨rfl, hb2⟩
        exact hKt _ hb2
      · intro v w' hb hf K hKt
        have f0 : v 0 = _ := hf ⟨0, .data⟩ (by simp) rfl
        have f1 : v 1 = _ := hf ⟨1, .data⟩ (by simp) rfl
        have f2 : v 2 = _ := hf ⟨2, .data⟩ (by simp) rfl
        simp only [putAll, Act.put, List.setIfInBounds_toArray, List.set_cons_zero, List.set_cons_succ, Nat.zero_add, Nat.reduceAdd] at hKt ⊢
        rw [f0, f1, f2] at hKt ⊢
        go_simp
        refine (kM _ w' (HK.out _ _ _ hI hb)).mono ?_
        rintro e w'' ⟨rfl, hb2⟩
        exact hKt _ hb2
      · exact ⟨rfl, rfl, zeroVC⟩
    intro v w9 hb hF hD
    have f0 : v 0 = _ := hF 0 (by decide)
    have f1 : v 1 = _ := hF 1 (by decide)
    have f2 : v 2 = _ := hF 2 (by decide)
    have f3 : v 3 = _ := hF 3 (by decide)
    obtain ⟨ga, f4, hg4, hl4, hz4⟩ := hF 4 (by decide)
    replace hz4 : Has w9 ga 35 (cpC 0 0 false) := hz4
    simp only [List.take_succ_cons, List.take_zero, List.drop_succ_cons, List.drop_zero, putAll, Act.put, List.setIfInBounds_toArray, List.set_cons_zero, List.set_cons_succ, Nat.zero_add, Nat.reduceAdd]
    rw [f0, f1, f2, f3, f4]
    clear hF hD f0 f1 f2 f3 f4
    have hs4 := hz4
    have hBW := below_setRow (hb) (g := ga) hg4 (cpC (cpX none) (cpY none) (cpN none))
    have hA := (hz4).setRow (cpC (cpX none) (cpY none) (cpN none))
    replace hN := hN.after hBW
    replace hP := hP.after hBW
    replace hX := hX.after hBW
    replace hY := hY.after hBW
    replace hI := HK.out _ _ _ hI hBW
    replace hF := hF.after hBW
    replace hb0 := below_trans hb0 hBW
    have hAn : World.cell? _ ⟨ga, 16, none⟩ = some (.bool true) := cp_n hA
    go_wp2_with (first | (refine wpList_store_row rfl 35 _ _ rfl ga _ rfl rfl 35 (cpC 0 0 false) hs4 (infoCp _ _ _) (by simp only [cpC_size]) (cpC_one _ _ _) ?_; generalize hWW : World.setRow _ ga _ = U8 at *; clear hWW) | refine wpList_load_has 35 _ rfl _ rfl rfl 35 _ hA _ Tryd.underlying35 rfl (infoCp _ _ _) ?_)
    refine (kPt _ _ hI).mono ?_
    rintro e w9 ⟨rfl, hC⟩
    replace hb0 := below_trans hb0 hC
    clear hC
    go_wp2_with fail
    go_ret
    exact ⟨rfl, hb0⟩
  · have hpp := HPP.out
    have hy0 : ay ≠ 0 := hyn rfl
    have lX := ax.isLt
    have lY := ay.isLt
    have bX : ax.val < big := Nat.lt_trans lX pp_lt
    have bY : ay.val < big := Nat.lt_trans lY pp_lt
    have kPt : ∀ g W, Is W g → Calls Tryd.prog 17 #[.pointer (some ⟨g, 0, none⟩), .agg (cpC ax.val ay.val false)] W fun e w' => e = .returned (.bool true) ∧ Below W.heap.size W w' := fun g W h => on_pt H (some (ax, ay)) hS g W h
    have hM := mir_on hS
    have hmv : cpV (some (ax, 0 - ay)) = .agg (cpC ax.val (p - ay.val) false) := by rw [hpp]; exact mir_v hy0
    have kPm : ∀ g W, Is W g → Calls Tryd.prog 17 #[.pointer (some ⟨g, 0, none⟩), .agg (cpC ax.val (p - ay.val) false)] W fun e w' => e = .returned (.bool true) ∧ Below W.heap.size W w' := fun g W h => by
      have k := on_pt H (some (ax, 0 - ay)) hM g W h
      rw [hmv] at k
      exact k
    have kAd : ∀ g W, Is W g → Calls Tryd.prog 20 #[.pointer (some ⟨g, 0, none⟩), .agg (cpC ax.val ay.val false), .agg (cpC ax.val (p - ay.val) false)] W fun e w' => e = .returned (.agg (cpC 0 0 true)) ∧ Below W.heap.size W w' := fun g W h => by
      have k := H.add_ok W g (some (ax, ay)) (some (ax, 0 - ay)) h hS hM
      rw [mir_plus, hmv] at k
      exact k
    have kSub : ∀ W, Calls Tryd.prog 25 #[.agg (nums p), .agg (nums ay.val)] W fun e w' => e = .returned (.tuple #[.agg (nums (p - ay.val)), .int .u32 ((under p ay.val : Nat) : Int)]) ∧ Below W.heap.size W w' := fun W => by
      have k := sub_any p ay.val W (by rw [hpp]; exact pp_lt) bY
      rw [sub_mir (by rw [hpp]; exact Nat.le_of_lt lY)] at k
      exact k
    have kAdd : ∀ W, Calls Tryd.prog 26 #[.agg (nums ax.val), .agg (nums p)] W fun e w' => e = .returned (.tuple #[.agg (nums ((ax.val + p) % big)), .int .u32 ((over ax.val p : Nat) : Int)]) ∧ Below W.heap.size W w' := fun W => by
      have k := add_any ax.val p W bX (by rw [hpp]; exact pp_lt)
      rw [← nums_mod (ax.val + p)] at k
      exact k
    have hXl : (ax.val + p) % big < big := Nat.mod_lt _ (by decide +kernel)
    obtain ⟨r2, hr2, kHi⟩ := H.on_ok ((ax.val + p) % big) ay.val false hXl bY
    have kCp := fun W => compare_any ((ax.val + p) % big) p W hXl (by rw [hpp]; exact pp_lt)
    have hfin : (!r2 || decide (cmpI ((ax.val + p) % big) p < 0)) = true := by rw [hpp]; rw [hpp] at hr2; exact up_val hr2
    have hEq := fun o1 o2 W => numEqW o1 o2 ((ax.val + p) % big) ax.val hXl bX W
    have hne : sameN ((ax.val + p) % big) ax.val = false := decide_eq_false (by rw [hpp]; exact up_ne lX)
    rw [hne] at hEq
    clear hne hr2 hXl hmv hM hS hyn hpp lX lY bX bY hy0 H
    generalize cmpI ((ax.val + p) % big) p = cc at *
    generalize (ax.val + p) % big = X at *
    generalize under p ay.val = un at *
    generalize over ax.val p = ov at *
    have HEQ := Lib.hid hEq
    clear hEq
    refine region_facts 5 [] [.val (.pointer (some ⟨g, 0, none⟩)), .val (.agg (nums n)), .val (.agg (cpC (cpX B) (cpY B) (cpN B))), .val (.agg (cpC (cpX (some (ax, ay))) (cpY (some (ax, ay))) (cpN (some (ax, ay))))), .new 35 (cpC 0 0 false)]
      (by kernel_rfl) (by kernel_rfl) (fun _ _ _ _ _ h => h) ?_ ?_
    · simp only [List.take_succ_cons, List.take_zero, StepsOK]
      refine ⟨?_, ?_, ?_, ?_, ?_, trivial⟩
      · intro v w' hb hf K hKt
        simp only [putAll, Act.put, List.setIfInBounds_toArray, List.set_cons_zero, List.set_cons_succ, Nat.zero_add, Nat.reduceAdd] at hKt ⊢
        go_simp
        exact hKt _ (Below.refl _ _)
      · intro v w' hb hf K hKt
        simp only [putAll, Act.put, List.setIfInBounds_toArray, List.set_cons_zero, List.set_cons_succ, Nat.zero_add, Nat.reduceAdd] at hKt ⊢
        exact wp_load_row 24 _ rfl (w.heap.size) rfl 24 _ (0, 0) _ (hN.after hb) Tryd.underlying24 rfl (infoNum _) (hKt _ (Below.refl _ _))
      · intro v w' hb hf K hKt
        simp only [putAll, Act.put, List.setIfInBounds_toArray, List.set_cons_zero, List.set_cons_succ, Nat.zero_add, Nat.reduceAdd] at hKt ⊢
        go_simp
        refine (kB w' _ (HK.out _ _ _ hI hb)).mono ?_
        rintro e w'' ⟨rfl, hb2⟩
        exact hKt _ hb2
      · intro v w' hb hf K hKt
        have f0 : v 0 = _ := hf ⟨0, .data⟩ (by simp) rfl
        have f1 : v 1 = _ := hf ⟨1, .data⟩ (by simp) rfl
        have f2 : v 2 = _ := hf ⟨2, .data⟩ (by simp) rfl
        simp only [putAll, Act.put, List.setIfInBounds_toArray, List.set_cons_zero, List.set_cons_succ, Nat.zero_add, Nat.reduceAdd] at hKt ⊢
        rw [f0, f1, f2] at hKt ⊢
        go_simp
        refine (kM _ w' (HK.out _ _ _ hI hb)).mono ?_
        rintro e w'' ⟨rfl, hb2⟩
        exact hKt _ hb2
      · exact ⟨rfl, rfl, zeroVC⟩
    intro v w9 hb hF hD
    have f0 : v 0 = _ := hF 0 (by decide)
    have f1 : v 1 = _ := hF 1 (by decide)
    have f2 : v 2 = _ := hF 2 (by decide)
    have f3 : v 3 = _ := hF 3 (by decide)
    obtain ⟨ga, f4, hg4, hl4, hz4⟩ := hF 4 (by decide)
    replace hz4 : Has w9 ga 35 (cpC 0 0 false) := hz4
    simp only [List.take_succ_cons, List.take_zero, List.drop_succ_cons, List.drop_zero, putAll, Act.put, List.setIfInBounds_toArray, List.set_cons_zero, List.set_cons_succ, Nat.zero_add, Nat.reduceAdd]
    rw [f0, f1, f2, f3, f4]
    clear hF hD f0 f1 f2 f3 f4
    have hs4 := hz4
    have hBW := below_setRow (hb) (g := ga) hg4 (cpC (cpX (some (ax, ay))) (cpY (some (ax, ay))) (cpN (some (ax, ay))))
    have hA := (hz4).setRow (cpC (cpX (some (ax, ay))) (cpY (some (ax, ay))) (cpN (some (ax, ay))))
    replace hN := hN.after hBW
    replace hP := hP.after hBW
    replace hX := hX.after hBW
    replace hY := hY.after hBW
    replace hI := HK.out _ _ _ hI hBW
    replace hF := hF.after hBW
    replace hb0 := below_trans hb0 hBW
    obtain ⟨U8, hU⟩ : ∃ U, U = World.setRow w9 ga (cpC (cpX (some (ax, ay))) (cpY (some (ax, ay))) (cpN (some (ax, ay)))) := ⟨_, rfl⟩
    rw [← hU] at hA hP hI hF hb0
    have HU := Lib.hid hU
    clear hU
    replace hA : Has U8 ga 35 (cpC ax.val ay.val false) := hA
    have oA := hA.lt
    have oP := hP.lt
    have hA8 := hA
    have hP8 := hP
    have cell8 : World.cell? U8 ⟨ga, 16, none⟩ = some (.bool false) := cp_n hA8
    have hz := put_new U8 35 (cpC 0 0 false) (cpC ax.val ay.val false)
    replace hA := hA8.after hz.2
    replace hP := hP8.after hz.2
    have b8 := hz.2
    have hB := hz.1
    clear hz hN hX hY hF
    generalize ax.val = xa at *
    generalize ay.val = ya at *
    go_wp2_with (first | (refine wpList_store_row rfl 35 _ _ rfl ga _ rfl rfl 35 (cpC 0 0 false) hs4 (infoCp _ _ _) (by simp only [cpC_size]) (cpC_one _ _ _) ?_; rw [← HU.out]) | refine wpList_load_has 35 _ rfl _ rfl rfl 35 _ hA8 _ Tryd.underlying35 rfl (infoCp _ _ _) ?_ | (refine wpList_store_row rfl 35 _ _ rfl (U8.heap.size) _ rfl rfl 35 (cpC 0 0 false) (Has.new' rfl) (infoCp _ _ _) (by simp only [cpC_size]) (cpC_one _ _ _) ?_; generalize hWW : World.setRow _ (U8.heap.size) _ = U9 at *; clear hWW) | refine wpList_load_has 23 _ rfl _ rfl rfl 23 _ hP _ Tryd.underlying23 rfl (info23 _) ?_ | refine wpList_load_w8G rfl _ rfl (ga) 8 rfl ya (cp_y hA) ?_)
    clear cell8
    refine (kSub _).mono ?_
    rintro e w10 ⟨rfl, hx⟩
    replace hA := hA.after hx
    replace hP := hP.after hx
    replace hB := hB.after hx
    replace b8 := below_trans b8 hx
    clear hx kSub
    have hB1 := hB.setRow (cpC xa (p - ya) false)
    replace hA := hA.farRow (k := U8.heap.size) (by omega) (cpC xa (p - ya) false)
    replace hP := hP.farRow (k := U8.heap.size) (by omega) (cpC xa (p - ya) false)
    replace b8 := below_setRow b8 (g := U8.heap.size) (Nat.le_refl _) (cpC xa (p - ya) false)
    obtain ⟨U10, hU10⟩ : ∃ U, U = World.setRow w10 U8.heap.size (cpC xa (p - ya) false) := ⟨_, rfl⟩
    rw [← hU10] at hA hP hB1 b8
    have HU10 := Lib.hid hU10
    clear hU10
    have hA10 := hA
    have oB := hB1.lt
    have hz := put_new U10 35 (cpC 0 0 false) (cpC xa ya false)
    replace hA := hA.after hz.2
    replace hP := hP.after hz.2
    replace hB1 := hB1.after hz.2
    replace b8 := below_trans b8 hz.2
    have hH := hz.1
    clear hz
    go_wp2_with (first | (refine wpList_store_w8 rfl _ _ rfl (U8.heap.size) 8 rfl (p - ya) rfl 17 (cpF xa ya false) 35 hB (by omega) (cpC xa (p - ya) false) (cp_setY _ _ _ _) ?_; rw [← HU10.out]) | refine wpList_load_has 35 _ rfl _ rfl rfl 35 _ hA10 _ Tryd.underlying35 rfl (infoCp _ _ _) ?_ | (refine wpList_store_row rfl 35 _ _ rfl (U10.heap.size) _ rfl rfl 35 (cpC 0 0 false) (Has.new' rfl) (infoCp _ _ _) (by simp only [cpC_size]) (cpC_one _ _ _) ?_; generalize hWW : World.setRow _ (U10.heap.size) _ = U11 at *; clear hWW) | refine wpList_load_has 23 _ rfl _ rfl rfl 23 _ hP _ Tryd.underlying23 rfl (info23 _) ?_ | refine wpList_load_w8G rfl _ rfl (ga) 0 rfl xa (cp_x hA) ?_)
    refine (kAdd _).mono ?_
    rintro e w12 ⟨rfl, hx⟩
    replace hA := hA.after hx
    replace hP := hP.after hx
    replace hB1 := hB1.after hx
    replace hH := hH.after hx
    replace b8 := below_trans b8 hx
    clear hx kAdd hA10 hB HU10
    have hH1 := hH.setRow (cpC X ya false)
    replace hA := hA.farRow (k := U10.heap.size) (by omega) (cpC X ya false)
    replace hP := hP.farRow (k := U10.heap.size) (by omega) (cpC X ya false)
    replace hB1 := hB1.farRow (k := U10.heap.size) (by omega) (cpC X ya false)
    replace b8 := below_setRow b8 (g := U10.heap.size) (by omega) (cpC X ya false)
    go_wp2_with (first | (refine wpList_store_w8 rfl _ _ rfl (U10.heap.size) 0 rfl (X) rfl 17 (cpF xa ya false) 35 hH (by omega) (cpC X ya false) (cp_setX _ _ _ _) ?_; generalize hWW : World.setRow _ U10.heap.size _ = U12 at *; clear hWW) | refine wpList_load_has 35 _ rfl _ rfl rfl 35 _ hA _ Tryd.underlying35 rfl (infoCp _ _ _) ?_)
    refine (kPt _ _ (HK.out _ _ _ hI b8)).mono ?_
    rintro e w13 ⟨rfl, hx⟩
    replace hA := hA.after hx; replace hP := hP.after hx; replace hB1 := hB1.after hx; replace hH1 := hH1.after hx; replace b8 := below_trans b8 hx
    clear hx kPt hH
    go_wp2_with (first | refine wpList_load_has 35 _ rfl _ rfl rfl 35 _ hB1 _ Tryd.underlying35 rfl (infoCp _ _ _) ?_)
    refine (kPm _ _ (HK.out _ _ _ hI b8)).mono ?_
    rintro e w14 ⟨rfl, hx⟩
    replace hA := hA.after hx; replace hP := hP.after hx; replace hB1 := hB1.after hx; replace hH1 := hH1.after hx; replace b8 := below_trans b8 hx
    clear hx kPm
    go_wp2_with (first | refine wpList_load_has 35 _ rfl _ rfl rfl 35 _ hA _ Tryd.underlying35 rfl (infoCp _ _ _) ?_ | refine wpList_load_has 35 _ rfl _ rfl rfl 35 _ hB1 _ Tryd.underlying35 rfl (infoCp _ _ _) ?_)
    refine (kAd _ _ (HK.out _ _ _ hI b8)).mono ?_
    rintro e w15 ⟨rfl, hx⟩
    replace hA := hA.after hx; replace hP := hP.after hx; replace hB1 := hB1.after hx; replace hH1 := hH1.after hx; replace b8 := below_trans b8 hx
    clear hx kAd
    go_wp2_with (first | refine wpList_partsG rfl 35 _ rfl #[(2, .bool true)] (by simp only [List.map_toArray, List.map_cons, List.map_nil]; rfl) (.agg (cpC 0 0 true)) buildNone ?_ | refine wpList_binG rfl .eql 35 _ _ 35 rfl (.agg (cpC 0 0 true)) (.agg (cpC 0 0 true)) rfl rfl (.bool true) (fun w => cpEq _ _ 0 0 true w) ?_ | refine wpList_binG rfl .eql 24 _ _ 24 rfl (.agg (nums X)) (.agg (nums xa)) rfl rfl (.bool false) (fun w => HEQ.out _ _ w) ?_ | refine wpList_load_w8G rfl _ rfl (U10.heap.size) 0 rfl X (cp_x hH1) ?_ | refine wpList_load_w8G rfl _ rfl (ga) 0 rfl xa (cp_x hA) ?_ | refine wpList_load_has 35 _ rfl _ rfl rfl 35 _ hH1 _ Tryd.underlying35 rfl (infoCp _ _ _) ?_)
    refine (kHi _ _ (HK.out _ _ _ hI b8)).mono ?_
    rintro e w16 ⟨rfl, hx⟩
    replace hA := hA.after hx; replace hP := hP.after hx; replace hB1 := hB1.after hx; replace hH1 := hH1.after hx; replace b8 := below_trans b8 hx
    clear hx kHi
    replace hb0 := below_trans hb0 b8
    cases r2 with
    | false =>
      go_wp2_with fail
      go_ret
      exact ⟨rfl, hb0⟩
    | true =>
      have hcc : cc < 0 := by simpa using hfin
      go_wp2_with (first | refine wpList_load_w8G rfl _ rfl (U10.heap.size) 0 rfl X (cp_x hH1) ?_ | refine wpList_load_has 23 _ rfl _ rfl rfl 23 _ hP _ Tryd.underlying23 rfl (info23 _) ?_)
      refine (kCp _).mono ?_
      rintro e w17 ⟨rfl, hx⟩
      replace hb0 := below_trans hb0 hx
      clear hx kCp
      go_wp2_with fail
      go_ret
      exact ⟨rfl, hb0⟩

set_option maxRecDepth 100000 in
set_option maxHeartbeats 2000000 in
theorem on_mid {G : World → Prop} {Is : World → Nat → Prop} (H : CurveOK G Is) (n x y : Nat) (w : World) (hn : n < big) (lx : x < big) (ly : y < big) (hx : x < Ec.pp) (hy : ¬ y < Ec.pp) (hG : G w) :
    Calls Tryd.prog 5 #[.agg (nums n), .agg (nums x), .agg (nums y)] w fun e w' => e = .returned (.bool true) ∧ Below w.heap.size w w' := by
  have kFit := fun W => @fit_any4 G Is H W
  have kB := H.base_ok
  have kNew := H.new_ok
  have keep := fun w w' g => @CurveOK.keep G Is H w w' g
  have HK := Lib.hid keep
  have gkeep := fun w w' => @CurveOK.gkeep G Is H w w'
  have HG := Lib.hid gkeep
  clear gkeep
  have kP0 := refP_any
  have kF := fun W => newField_any refP W (by decide +kernel) (by decide +kernel)
  have kWd := fun W => words3_any refP W (by decide +kernel)
  have kCx := fun W => compare_any x refP W lx (by decide +kernel)
  have kCy := fun W => compare_any y refP W ly (by decide +kernel)
  have kOx := of3_any x
  have kOy := of3_any y
  obtain ⟨r, hr, kOn⟩ := H.on_ok x y false lx ly
  have hcx :  cmpI x refP < 0 := (cmp_lt _ _).2 hx
  have hcy : ¬ cmpI y refP < 0 := fun h => hy ((cmp_lt _ _).1 h)
  have hrb := on_above hr (fun h => hy h.2)
  subst hrb
  clear hr
  generalize cmpI x refP = cx at *
  generalize cmpI y refP = cy at *
  have kM := fun g W h => H.mult_ok W g n Ec.baseP h hn Ec.base_on
  clear keep hn lx ly
  have hyn := @y_ne n
  have hS := Ec.smul_on Ec.base_on n
  generalize Ec.smul n Ec.baseP = A at *
  generalize Ec.baseP = B at *
  have hpp : refP = Ec.pp := rfl
  generalize refP = p at *
  have HPP := Lib.hid hpp
  clear hpp
  have hN : Has (((w.alloc (.cells (nums n) 24)).alloc (.cells (nums x) 24)).alloc (.cells (nums y) 24)) w.heap.size 24 (nums n) := ((Has.new w _ _).alloc _).alloc _
  have hX : Has (((w.alloc (.cells (nums n) 24)).alloc (.cells (nums x) 24)).alloc (.cells (nums y) 24)) (w.heap.size + 1) 24 (nums x) := (Has.new' (by simp)).alloc _
  have hY : Has (((w.alloc (.cells (nums n) 24)).alloc (.cells (nums x) 24)).alloc (.cells (nums y) 24)) (w.heap.size + 1 + 1) 24 (nums y) := Has.new' (by simp)
  have hb0 : Below w.heap.size w (((w.alloc (.cells (nums n) 24)).alloc (.cells (nums x) 24)).alloc (.cells (nums y) 24)) := (((Below.refl _ _).alloc (Nat.le_refl _) _).alloc (by simp) _).alloc (by simp; omega) _
  go_enter Tryd.func5, Tryd.ntmps5
  go_wp2_with fail
  refine (kFit _ (HG.out _ _ hG hb0)).mono ?_
  rintro e w1 ⟨rfl, hx0⟩
  replace hN := hN.after hx0; replace hX := hX.after hx0; replace hY := hY.after hx0; replace hb0 := below_trans hb0 hx0
  clear hx0 kFit
  go_wp2_with fail
  refine (kNew _ (HG.out _ _ hG hb0)).mono ?_
  rintro e w2 ⟨⟨g, rfl, hI⟩, hx0⟩
  replace hN := hN.after hx0; replace hX := hX.after hx0; replace hY := hY.after hx0; replace hb0 := below_trans hb0 hx0
  clear hx0 kNew
  go_wp2_with fail
  refine (kP0 _).mono ?_
  rintro e w3 ⟨rfl, hx0⟩
  replace hN := hN.after hx0; replace hX := hX.after hx0; replace hY := hY.after hx0; replace hI := HK.out _ _ _ hI hx0; replace hb0 := below_trans hb0 hx0
  clear hx0
  go_wp2_with fail
  refine (kF _).mono ?_
  rintro e w4 ⟨⟨f, rfl, hF⟩, hx0⟩
  replace hN := hN.after hx0; replace hX := hX.after hx0; replace hY := hY.after hx0; replace hI := HK.out _ _ _ hI hx0; replace hb0 := below_trans hb0 hx0
  clear hx0 kF
  go_wp2_with fail
  refine (kP0 _).mono ?_
  rintro e w5 ⟨rfl, hx0⟩
  replace hN := hN.after hx0; replace hX := hX.after hx0; replace hY := hY.after hx0; replace hI := HK.out _ _ _ hI hx0; replace hb0 := below_trans hb0 hx0; replace hF := hF.after hx0
  clear hx0 kP0
  go_wp2_with fail
  refine (kWd _).mono ?_
  rintro e w6 ⟨rfl, hx0⟩
  replace hN := hN.after hx0; replace hX := hX.after hx0; replace hY := hY.after hx0; replace hI := HK.out _ _ _ hI hx0; replace hb0 := below_trans hb0 hx0; replace hF := hF.after hx0
  clear hx0 kWd
  have hz := put_new w6 23 (nums 0) (nums p)
  replace hN := hN.after hz.2; replace hX := hX.after hz.2; replace hY := hY.after hz.2; replace hF := hF.after hz.2; replace hI := HK.out _ _ _ hI hz.2; replace hb0 := below_trans hb0 hz.2
  have hP := hz.1
  clear hz
  go_wp2_with (first | (refine wpList_store_row rfl 23 _ _ rfl w6.heap.size _ rfl rfl 23 (nums 0) (Has.new' rfl) (info23 _) (by simp only [nums_size]) (tab_oneCell _ _ fun _ => rfl) ?_; generalize hWW : World.setRow _ _ _ = U6 at *; clear hWW) | refine wpList_load_has 24 _ rfl _ rfl rfl 24 _ hX _ Tryd.underlying24 rfl (infoNum _) ?_ | refine wpList_load_has 23 _ rfl _ rfl rfl 23 _ hP _ Tryd.underlying23 rfl (info23 _) ?_)
  refine (kCx _).mono ?_
  rintro e w7 ⟨rfl, hC⟩
  replace hN := hN.after hC; replace hX := hX.after hC; replace hY := hY.after hC; replace hP := hP.after hC; replace hF := hF.after hC; replace hI := HK.out _ _ _ hI hC; replace hb0 := below_trans hb0 hC
  clear hC kCx
  go_wp2_with (first | refine wpList_load_has 24 _ rfl _ rfl rfl 24 _ hY _ Tryd.underlying24 rfl (infoNum _) ?_ | refine wpList_load_has 23 _ rfl _ rfl rfl 23 _ hP _ Tryd.underlying23 rfl (info23 _) ?_)
  refine (kCy _).mono ?_
  rintro e w7 ⟨rfl, hC⟩
  replace hN := hN.after hC; replace hX := hX.after hC; replace hY := hY.after hC; replace hP := hP.after hC; replace hF := hF.after hC; replace hI := HK.out _ _ _ hI hC; replace hb0 := below_trans hb0 hC
  clear hC kCy
  go_wp2_with fail
  rw [decide_eq_false (Int.not_lt.2 hcy)]
  refine region_quiet_tail (Below w7.heap.size w7) 14 (by kernel_rfl) (by kernel_rfl) (below_drewN (Below.refl _ _) 1) ?_
  simp only [List.take_succ_cons, List.take_zero, List.drop_succ_cons, List.drop_zero]
  refine wpQ_move _ rfl rfl (.pointer (some ⟨g, 0, none⟩)) rfl ?_
  simp only [Act.put, List.setIfInBounds_toArray, List.set_cons_zero, List.set_cons_succ]
  refine wpQ_has 24 _ rfl _ rfl rfl 24 _ (fun w' hC => hX.after hC) _ Tryd.underlying24 rfl (infoNum _) ?_
  simp only [Act.put, List.setIfInBounds_toArray, List.set_cons_zero, List.set_cons_succ]
  refine wpQ_has 24 _ rfl _ rfl rfl 24 _ (fun w' hC => hY.after hC) _ Tryd.underlying24 rfl (infoNum _) ?_
  simp only [Act.put, List.setIfInBounds_toArray, List.set_cons_zero, List.set_cons_succ]
  refine wpQ_parts4 35 _ rfl rfl #[(0, .agg (nums x)), (1, .agg (nums y))] (by simp only [List.map_toArray, List.map_cons, List.map_nil]; rfl) (.agg (cpC x y false)) (fun w' _ => buildC x y w') ?_
  simp only [Act.put, List.setIfInBounds_toArray, List.set_cons_zero, List.set_cons_succ]
  refine wpQ_fn 17 _ _ rfl rfl #[.pointer (some ⟨g, 0, none⟩), .agg (cpC x y false)] rfl (fun _ => by go_simp) (.bool false) (fun w' hC => (kOn w' _ (HK.out _ _ _ hI hC)).mono fun e w'' ⟨he, hb⟩ => ⟨he, below_class hC hb⟩) ?_
  simp only [Act.put, List.setIfInBounds_toArray, List.set_cons_zero, List.set_cons_succ]
  refine wpQ_move _ rfl rfl (.bool false) rfl ?_
  simp only [Act.put, List.setIfInBounds_toArray, List.set_cons_zero, List.set_cons_succ]
  refine wpQ_move _ rfl rfl (.bool false) rfl ?_
  simp only [Act.put, List.setIfInBounds_toArray, List.set_cons_zero, List.set_cons_succ]
  refine BigFrame.wpQuiet_skip rfl ?_
  simp only [Act.put, List.setIfInBounds_toArray, List.set_cons_zero, List.set_cons_succ]
  refine BigFrame.wpQuiet_skip rfl ?_
  simp only [Act.put, List.setIfInBounds_toArray, List.set_cons_zero, List.set_cons_succ]
  refine BigFrame.wpQuiet_skip rfl ?_
  simp only [Act.put, List.setIfInBounds_toArray, List.set_cons_zero, List.set_cons_succ]
  refine BigFrame.wpQuiet_skip rfl ?_
  simp only [Act.put, List.setIfInBounds_toArray, List.set_cons_zero, List.set_cons_succ]
  refine BigFrame.wpQuiet_skip rfl ?_
  simp only [Act.put, List.setIfInBounds_toArray, List.set_cons_zero, List.set_cons_succ]
  refine BigFrame.wpQuiet_skip rfl ?_
  simp only [Act.put, List.setIfInBounds_toArray, List.set_cons_zero, List.set_cons_succ]
  refine wpQ_pick _ _ _ rfl rfl false rfl (.bool false) rfl ?_
  simp only [Act.put, List.setIfInBounds_toArray, List.set_cons_zero, List.set_cons_succ]
  refine wpQuiet_nil ?_
  intro w8 hC
  replace hN := hN.after hC; replace hX := hX.after hC; replace hY := hY.after hC; replace hP := hP.after hC; replace hF := hF.after hC; replace hI := HK.out _ _ _ hI hC; replace hb0 := below_trans hb0 hC
  clear hC kOn
  go_wp2_with fail
  rcases A with _ | ⟨ax, ay⟩
  · have kPt : ∀ g W, Is W g → Calls Tryd.prog 17 #[.pointer (some ⟨g, 0, none⟩), cpV none] W fun e w' => e = .returned (.bool false) ∧ Below W.heap.size W w' := fun g W h => on_pt H none hS g W h
    clear hS hyn
    refine region_facts 5 [] [.val (.pointer (some ⟨g, 0, none⟩)), .val (.agg (nums n)), .val (.agg (cpC (cpX B) (cpY B) (cpN B))), .val (.agg (cpC (cpX none) (cpY none) (cpN none))), .new 35 (cpC 0 0 false)]
      (by kernel_rfl) (by kernel_rfl) (fun _ _ _ _ _ h => h) ?_ ?_
    · simp only [List.take_succ_cons, List.take_zero, StepsOK]
      refine ⟨?_, ?_, ?_, ?_, ?_, trivial⟩
      · intro v w' hb hf K hKt
        simp only [putAll, Act.put, List.setIfInBounds_toArray, List.set_cons_zero, List.set_cons_succ, Nat.zero_add, Nat.reduceAdd] at hKt ⊢
        go_simp
        exact hKt _ (Below.refl _ _)
      · intro v w' hb hf K hKt
        simp only [putAll, Act.put, List.setIfInBounds_toArray, List.set_cons_zero, List.set_cons_succ, Nat.zero_add, Nat.reduceAdd] at hKt ⊢
        exact wp_load_row 24 _ rfl (w.heap.size) rfl 24 _ (0, 0) _ (hN.after hb) Tryd.underlying24 rfl (infoNum _) (hKt _ (Below.refl _ _))
      · intro v w' hb hf K hKt
        simp only [putAll, Act.put, List.setIfInBounds_toArray, List.set_cons_zero, List.set_cons_succ, Nat.zero_add, Nat.reduceAdd] at hKt ⊢
        go_simp
        refine (kB w' _ (HK.out _ _ _ hI hb)).mono ?_
        rintro e w'' ⟨rfl, hb2⟩
        exact hKt _ hb2
      · intro v w' hb hf K hKt
        have f0 : v 0 = _ := hf ⟨0, .data⟩ (by simp) rfl
        have f1 : v 1 = _ := hf ⟨1, .data⟩ (by simp) rfl
        have f2 : v 2 = _ := hf ⟨2, .data⟩ (by simp) rfl
        simp only [putAll, Act.put, List.setIfInBounds_toArray, List.set_cons_zero, List.set_cons_succ, Nat.zero_add, Nat.reduceAdd] at hKt ⊢
        rw [f0, f1, f2] at hKt ⊢
        go_simp
        refine (kM _ w' (HK.out _ _ _ hI hb)).mono ?_
        rintro e w'' ⟨rfl, hb2⟩
        exact hKt _ hb2
      · exact ⟨rfl, rfl, zeroVC⟩
    intro v w9 hb hF hD
    have f0 : v 0 = _ := hF 0 (by decide)
    have f1 : v 1 = _ := hF 1 (by decide)
    have f2 : v 2 = _ := hF 2 (by decide)
    have f3 : v 3 = _ := hF 3 (by decide)
    obtain ⟨ga, f4, hg4, hl4, hz4⟩ := hF 4 (by decide)
    replace hz4 : Has w9 ga 35 (cpC 0 0 false) := hz4
    simp only [List.take_succ_cons, List.take_zero, List.drop_succ_cons, List.drop_zero, putAll, Act.put, List.setIfInBounds_toArray, List.set_cons_zero, List.set_cons_succ, Nat.zero_add, Nat.reduceAdd]
    rw [f0, f1, f2, f3, f4]
    clear hF hD f0 f1 f2 f3 f4
    have hs4 := hz4
    have hBW := below_setRow (hb) (g := ga) hg4 (cpC (cpX none) (cpY none) (cpN none))
    have hA := (hz4).setRow (cpC (cpX none) (cpY none) (cpN none))
    replace hN := hN.after hBW
    replace hP := hP.after hBW
    replace hX := hX.after hBW
    replace hY := hY.after hBW
    replace hI := HK.out _ _ _ hI hBW
    replace hF := hF.after hBW
    replace hb0 := below_trans hb0 hBW
    have hAn : World.cell? _ ⟨ga, 16, none⟩ = some (.bool true) := cp_n hA
    go_wp2_with (first | (refine wpList_store_row rfl 35 _ _ rfl ga _ rfl rfl 35 (cpC 0 0 false) hs4 (infoCp _ _ _) (by simp only [cpC_size]) (cpC_one _ _ _) ?_; generalize hWW : World.setRow _ ga _ = U8 at *; clear hWW) | refine wpList_load_has 35 _ rfl _ rfl rfl 35 _ hA _ Tryd.underlying35 rfl (infoCp _ _ _) ?_)
    refine (kPt _ _ hI).mono ?_
    rintro e w9 ⟨rfl, hC⟩
    replace hb0 := below_trans hb0 hC
    clear hC
    go_wp2_with fail
    go_ret
    exact ⟨rfl, hb0⟩
  · have hpp := HPP.out
    have hy0 : ay ≠ 0 := hyn rfl
    have lX := ax.isLt
    have lY := ay.isLt
    have bX : ax.val < big := Nat.lt_trans lX pp_lt
    have bY : ay.val < big := Nat.lt_trans lY pp_lt
    have kPt : ∀ g W, Is W g → Calls Tryd.prog 17 #[.pointer (some ⟨g, 0, none⟩), .agg (cpC ax.val ay.val false)] W fun e w' => e = .returned (.bool true) ∧ Below W.heap.size W w' := fun g W h => on_pt H (some (ax, ay)) hS g W h
    have hM := mir_on hS
    have hmv : cpV (some (ax, 0 - ay)) = .agg (cpC ax.val (p - ay.val) false) := by rw [hpp]; exact mir_v hy0
    have kPm : ∀ g W, Is W g → Calls Tryd.prog 17 #[.pointer (some ⟨g, 0, none⟩), .agg (cpC ax.val (p - ay.val) false)] W fun e w' => e = .returned (.bool true) ∧ Below W.heap.size W w' := fun g W h => by
      have k := on_pt H (some (ax, 0 - ay)) hM g W h
      rw [hmv] at k
      exact k
    have kAd : ∀ g W, Is W g → Calls Tryd.prog 20 #[.pointer (some ⟨g, 0, none⟩), .agg (cpC ax.val ay.val false), .agg (cpC ax.val (p - ay.val) false)] W fun e w' => e = .returned (.agg (cpC 0 0 true)) ∧ Below W.heap.size W w' := fun g W h => by
      have k := H.add_ok W g (some (ax, ay)) (some (ax, 0 - ay)) h hS hM
      rw [mir_plus, hmv] at k
      exact k
    have kSub : ∀ W, Calls Tryd.prog 25 #[.agg (nums p), .agg (nums ay.val)] W fun e w' => e = .returned (.tuple #[.agg (nums (p - ay.val)), .int .u32 ((under p ay.val : Nat) : Int)]) ∧ Below W.heap.size W w' := fun W => by
      have k := sub_any p ay.val W (by rw [hpp]; exact pp_lt) bY
      rw [sub_mir (by rw [hpp]; exact Nat.le_of_lt lY)] at k
      exact k
    have kAdd : ∀ W, Calls Tryd.prog 26 #[.agg (nums ax.val), .agg (nums p)] W fun e w' => e = .returned (.tuple #[.agg (nums ((ax.val + p) % big)), .int .u32 ((over ax.val p : Nat) : Int)]) ∧ Below W.heap.size W w' := fun W => by
      have k := add_any ax.val p W bX (by rw [hpp]; exact pp_lt)
      rw [← nums_mod (ax.val + p)] at k
      exact k
    have hXl : (ax.val + p) % big < big := Nat.mod_lt _ (by decide +kernel)
    obtain ⟨r2, hr2, kHi⟩ := H.on_ok ((ax.val + p) % big) ay.val false hXl bY
    have kCp := fun W => compare_any ((ax.val + p) % big) p W hXl (by rw [hpp]; exact pp_lt)
    have hfin : (!r2 || decide (cmpI ((ax.val + p) % big) p < 0)) = true := by rw [hpp]; rw [hpp] at hr2; exact up_val hr2
    have hEq := fun o1 o2 W => numEqW o1 o2 ((ax.val + p) % big) ax.val hXl bX W
    have hne : sameN ((ax.val + p) % big) ax.val = false := decide_eq_false (by rw [hpp]; exact up_ne lX)
    rw [hne] at hEq
    clear hne hr2 hXl hmv hM hS hyn hpp lX lY bX bY hy0 H
    generalize cmpI ((ax.val + p) % big) p = cc at *
    generalize (ax.val + p) % big = X at *
    generalize under p ay.val = un at *
    generalize over ax.val p = ov at *
    have HEQ := Lib.hid hEq
    clear hEq
    refine region_facts 5 [] [.val (.pointer (some ⟨g, 0, none⟩)), .val (.agg (nums n)), .val (.agg (cpC (cpX B) (cpY B) (cpN B))), .val (.agg (cpC (cpX (some (ax, ay))) (cpY (some (ax, ay))) (cpN (some (ax, ay))))), .new 35 (cpC 0 0 false)]
      (by kernel_rfl) (by kernel_rfl) (fun _ _ _ _ _ h => h) ?_ ?_
    · simp only [List.take_succ_cons, List.take_zero, StepsOK]
      refine ⟨?_, ?_, ?_, ?_, ?_, trivial⟩
      · intro v w' hb hf K hKt
        simp only [putAll, Act.put, List.setIfInBounds_toArray, List.set_cons_zero, List.set_cons_succ, Nat.zero_add, Nat.reduceAdd] at hKt ⊢
        go_simp
        exact hKt _ (Below.refl _ _)
      · intro v w' hb hf K hKt
        simp only [putAll, Act.put, List.setIfInBounds_toArray, List.set_cons_zero, List.set_cons_succ, Nat.zero_add, Nat.reduceAdd] at hKt ⊢
        exact wp_load_row 24 _ rfl (w.heap.size) rfl 24 _ (0, 0) _ (hN.after hb) Tryd.underlying24 rfl (infoNum _) (hKt _ (Below.refl _ _))
      · intro v w' hb hf K hKt
        simp only [putAll, Act.put, List.setIfInBounds_toArray, List.set_cons_zero, List.set_cons_succ, Nat.zero_add, Nat.reduceAdd] at hKt ⊢
        go_simp
        refine (kB w' _ (HK.out _ _ _ hI hb)).mono ?_
        rintro e w'' ⟨rfl, hb2⟩
        exact hKt _ hb2
      · intro v w' hb hf K hKt
        have f0 : v 0 = _ := hf ⟨0, .data⟩ (by simp) rfl
        have f1 : v 1 = _ := hf ⟨1, .data⟩ (by simp) rfl
        have f2 : v 2 = _ := hf ⟨2, .data⟩ (by simp) rfl
        simp only [putAll, Act.put, List.setIfInBounds_toArray, List.set_cons_zero, List.set_cons_succ, Nat.zero_add, Nat.reduceAdd] at hKt ⊢
        rw [f0, f1, f2] at hKt ⊢
        go_simp
        refine (kM _ w' (HK.out _ _ _ hI hb)).mono ?_
        rintro e w'' ⟨rfl, hb2⟩
        exact hKt _ hb2
      · exact ⟨rfl, rfl, zeroVC⟩
    intro v w9 hb hF hD
    have f0 : v 0 = _ := hF 0 (by decide)
    have f1 : v 1 = _ := hF 1 (by decide)
    have f2 : v 2 = _ := hF 2 (by decide)
    have f3 : v 3 = _ := hF 3 (by decide)
    obtain ⟨ga, f4, hg4, hl4, hz4⟩ := hF 4 (by decide)
    replace hz4 : Has w9 ga 35 (cpC 0 0 false) := hz4
    simp only [List.take_succ_cons, List.take_zero, List.drop_succ_cons, List.drop_zero, putAll, Act.put, List.setIfInBounds_toArray, List.set_cons_zero, List.set_cons_succ, Nat.zero_add, Nat.reduceAdd]
    rw [f0, f1, f2, f3, f4]
    clear hF hD f0 f1 f2 f3 f4
    have hs4 := hz4
    have hBW := below_setRow (hb) (g := ga) hg4 (cpC (cpX (some (ax, ay))) (cpY (some (ax, ay))) (cpN (some (ax, ay))))
    have hA := (hz4).setRow (cpC (cpX (some (ax, ay))) (cpY (some (ax, ay))) (cpN (some (ax, ay))))
    replace hN := hN.after hBW
    replace hP := hP.after hBW
    replace hX := hX.after hBW
    replace hY := hY.after hBW
    replace hI := HK.out _ _ _ hI hBW
    replace hF := hF.after hBW
    replace hb0 := below_trans hb0 hBW
    obtain ⟨U8, hU⟩ : ∃ U, U = World.setRow w9 ga (cpC (cpX (some (ax, ay))) (cpY (some (ax, ay))) (cpN (some (ax, ay)))) := ⟨_, rfl⟩
    rw [← hU] at hA hP hI hF hb0
    have HU := Lib.hid hU
    clear hU
    replace hA : Has U8 ga 35 (cpC ax.val ay.val false) := hA
    have oA := hA.lt
    have oP := hP.lt
    have hA8 := hA
    have hP8 := hP
    have cell8 : World.cell? U8 ⟨ga, 16, none⟩ = some (.bool false) := cp_n hA8
    have hz := put_new U8 35 (cpC 0 0 false) (cpC ax.val ay.val false)
    replace hA := hA8.after hz.2
    replace hP := hP8.after hz.2
    have b8 := hz.2
    have hB := hz.1
    clear hz hN hX hY hF
    generalize ax.val = xa at *
    generalize ay.val = ya at *
    go_wp2_with (first | (refine wpList_store_row rfl 35 _ _ rfl ga _ rfl rfl 35 (cpC 0 0 false) hs4 (infoCp _ _ _) (by simp only [cpC_size]) (cpC_one _ _ _) ?_; rw [← HU.out]) | refine wpList_load_has 35 _ rfl _ rfl rfl 35 _ hA8 _ Tryd.underlying35 rfl (infoCp _ _ _) ?_ | (refine wpList_store_row rfl 35 _ _ rfl (U8.heap.size) _ rfl rfl 35 (cpC 0 0 false) (Has.new' rfl) (infoCp _ _ _) (by simp only [cpC_size]) (cpC_one _ _ _) ?_; generalize hWW : World.setRow _ (U8.heap.size) _ = U9 at *; clear hWW) | refine wpList_load_has 23 _ rfl _ rfl rfl 23 _ hP _ Tryd.underlying23 rfl (info23 _) ?_ | refine wpList_load_w8G rfl _ rfl (ga) 8 rfl ya (cp_y hA) ?_)
    clear cell8
    refine (kSub _).mono ?_
    rintro e w10 ⟨rfl, hx⟩
    replace hA := hA.after hx
    replace hP := hP.after hx
    replace hB := hB.after hx
    replace b8 := below_trans b8 hx
    clear hx kSub
    have hB1 := hB.setRow (cpC xa (p - ya) false)
    replace hA := hA.farRow (k := U8.heap.size) (by omega) (cpC xa (p - ya) false)
    replace hP := hP.farRow (k := U8.heap.size) (by omega) (cpC xa (p - ya) false)
    replace b8 := below_setRow b8 (g := U8.heap.size) (Nat.le_refl _) (cpC xa (p - ya) false)
    obtain ⟨U10, hU10⟩ : ∃ U, U = World.setRow w10 U8.heap.size (cpC xa (p - ya) false) := ⟨_, rfl⟩
    rw [← hU10] at hA hP hB1 b8
    have HU10 := Lib.hid hU10
    clear hU10
    have hA10 := hA
    have oB := hB1.lt
    have hz := put_new U10 35 (cpC 0 0 false) (cpC xa ya false)
    replace hA := hA.after hz.2
    replace hP := hP.after hz.2
    replace hB1 := hB1.after hz.2
    replace b8 := below_trans b8 hz.2
    have hH := hz.1
    clear hz
    go_wp2_with (first | (refine wpList_store_w8 rfl _ _ rfl (U8.heap.size) 8 rfl (p - ya) rfl 17 (cpF xa ya false) 35 hB (by omega) (cpC xa (p - ya) false) (cp_setY _ _ _ _) ?_; rw [← HU10.out]) | refine wpList_load_has 35 _ rfl _ rfl rfl 35 _ hA10 _ Tryd.underlying35 rfl (infoCp _ _ _) ?_ | (refine wpList_store_row rfl 35 _ _ rfl (U10.heap.size) _ rfl rfl 35 (cpC 0 0 false) (Has.new' rfl) (infoCp _ _ _) (by simp only [cpC_size]) (cpC_one _ _ _) ?_; generalize hWW : World.setRow _ (U10.heap.size) _ = U11 at *; clear hWW) | refine wpList_load_has 23 _ rfl _ rfl rfl 23 _ hP _ Tryd.underlying23 rfl (info23 _) ?_ | refine wpList_load_w8G rfl _ rfl (ga) 0 rfl xa (cp_x hA) ?_)
    refine (kAdd _).mono ?_
    rintro e w12 ⟨rfl, hx⟩
    replace hA := hA.after hx
    replace hP := hP.after hx
    replace hB1 := hB1.after hx
    replace hH := hH.after hx
    replace b8 := below_trans b8 hx
    clear hx kAdd hA10 hB HU10
    have hH1 := hH.setRow (cpC X ya false)
    replace hA := hA.farRow (k := U10.heap.size) (by omega) (cpC X ya false)
    replace hP := hP.farRow (k := U10.heap.size) (by omega) (cpC X ya false)
    replace hB1 := hB1.farRow (k := U10.heap.size) (by omega) (cpC X ya false)
    replace b8 := below_setRow b8 (g := U10.heap.size) (by omega) (cpC X ya false)
    go_wp2_with (first | (refine wpList_store_w8 rfl _ _ rfl (U10.heap.size) 0 rfl (X) rfl 17 (cpF xa ya false) 35 hH (by omega) (cpC X ya false) (cp_setX _ _ _ _) ?_; generalize hWW : World.setRow _ U10.heap.size _ = U12 at *; clear hWW) | refine wpList_load_has 35 _ rfl _ rfl rfl 35 _ hA _ Tryd.underlying35 rfl (infoCp _ _ _) ?_)
    refine (kPt _ _ (HK.out _ _ _ hI b8)).mono ?_
    rintro e w13 ⟨rfl, hx⟩
    replace hA := hA.after hx; replace hP := hP.after hx; replace hB1 := hB1.after hx; replace hH1 := hH1.after hx; replace b8 := below_trans b8 hx
    clear hx kPt hH
    go_wp2_with (first | refine wpList_load_has 35 _ rfl _ rfl rfl 35 _ hB1 _ Tryd.underlying35 rfl (infoCp _ _ _) ?_)
    refine (kPm _ _ (HK.out _ _ _ hI b8)).mono ?_
    rintro e w14 ⟨rfl, hx⟩
    replace hA := hA.after hx; replace hP := hP.after hx; replace hB1 := hB1.after hx; replace hH1 := hH1.after hx; replace b8 := below_trans b8 hx
    clear hx kPm
    go_wp2_with (first | refine wpList_load_has 35 _ rfl _ rfl rfl 35 _ hA _ Tryd.underlying35 rfl (infoCp _ _ _) ?_ | refine wpList_load_has 35 _ rfl _ rfl rfl 35 _ hB1 _ Tryd.underlying35 rfl (infoCp _ _ _) ?_)
    refine (kAd _ _ (HK.out _ _ _ hI b8)).mono ?_
    rintro e w15 ⟨rfl, hx⟩
    replace hA := hA.after hx; replace hP := hP.after hx; replace hB1 := hB1.after hx; replace hH1 := hH1.after hx; replace b8 := below_trans b8 hx
    clear hx kAd
    go_wp2_with (first | refine wpList_partsG rfl 35 _ rfl #[(2, .bool true)] (by simp only [List.map_toArray, List.map_cons, List.map_nil]; rfl) (.agg (cpC 0 0 true)) buildNone ?_ | refine wpList_binG rfl .eql 35 _ _ 35 rfl (.agg (cpC 0 0 true)) (.agg (cpC 0 0 true)) rfl rfl (.bool true) (fun w => cpEq _ _ 0 0 true w) ?_ | refine wpList_binG rfl .eql 24 _ _ 24 rfl (.agg (nums X)) (.agg (nums xa)) rfl rfl (.bool false) (fun w => HEQ.out _ _ w) ?_ | refine wpList_load_w8G rfl _ rfl (U10.heap.size) 0 rfl X (cp_x hH1) ?_ | refine wpList_load_w8G rfl _ rfl (ga) 0 rfl xa (cp_x hA) ?_ | refine wpList_load_has 35 _ rfl _ rfl rfl 35 _ hH1 _ Tryd.underlying35 rfl (infoCp _ _ _) ?_)
    refine (kHi _ _ (HK.out _ _ _ hI b8)).mono ?_
    rintro e w16 ⟨rfl, hx⟩
    replace hA := hA.after hx; replace hP := hP.after hx; replace hB1 := hB1.after hx; replace hH1 := hH1.after hx; replace b8 := below_trans b8 hx
    clear hx kHi
    replace hb0 := below_trans hb0 b8
    cases r2 with
    | false =>
      go_wp2_with fail
      go_ret
      exact ⟨rfl, hb0⟩
    | true =>
      have hcc : cc < 0 := by simpa using hfin
      go_wp2_with (first | refine wpList_load_w8G rfl _ rfl (U10.heap.size) 0 rfl X (cp_x hH1) ?_ | refine wpList_load_has 23 _ rfl _ rfl rfl 23 _ hP _ Tryd.underlying23 rfl (info23 _) ?_)
      refine (kCp _).mono ?_
      rintro e w17 ⟨rfl, hx⟩
      replace hb0 := below_trans hb0 hx
      clear hx kCp
      go_wp2_with fail
      go_ret
      exact ⟨rfl, hb0⟩

set_option maxRecDepth 100000 in
set_option maxHeartbeats 2000000 in
theorem on_hi {G : World → Prop} {Is : World → Nat → Prop} (H : CurveOK G Is) (n x y : Nat) (w : World) (hn : n < big) (lx : x < big) (ly : y < big) (hx : ¬ x < Ec.pp) (hG : G w) :
    Calls Tryd.prog 5 #[.agg (nums n), .agg (nums x), .agg (nums y)] w fun e w' => e = .returned (.bool true) ∧ Below w.heap.size w w' := by
  have kFit := fun W => @fit_any4 G Is H W
  have kB := H.base_ok
  have kNew := H.new_ok
  have keep := fun w w' g => @CurveOK.keep G Is H w w' g
  have HK := Lib.hid keep
  have gkeep := fun w w' => @CurveOK.gkeep G Is H w w'
  have HG := Lib.hid gkeep
  clear gkeep
  have kP0 := refP_any
  have kF := fun W => newField_any refP W (by decide +kernel) (by decide +kernel)
  have kWd := fun W => words3_any refP W (by decide +kernel)
  have kCx := fun W => compare_any x refP W lx (by decide +kernel)
  have kCy := fun W => compare_any y refP W ly (by decide +kernel)
  have kOx := of3_any x
  have kOy := of3_any y
  obtain ⟨r, hr, kOn⟩ := H.on_ok x y false lx ly
  have hcx : ¬ cmpI x refP < 0 := fun h => hx ((cmp_lt _ _).1 h)
  have hrb := on_above hr (fun h => hx h.1)
  subst hrb
  clear hr
  generalize cmpI x refP = cx at *
  generalize cmpI y refP = cy at *
  have kM := fun g W h => H.mult_ok W g n Ec.baseP h hn Ec.base_on
  clear keep hn lx ly
  have hyn := @y_ne n
  have hS := Ec.smul_on Ec.base_on n
  generalize Ec.smul n Ec.baseP = A at *
  generalize Ec.baseP = B at *
  have hpp : refP = Ec.pp := rfl
  generalize refP = p at *
  have HPP := Lib.hid hpp
  clear hpp
  have hN : Has (((w.alloc (.cells (nums n) 24)).alloc (.cells (nums x) 24)).alloc (.cells (nums y) 24)) w.heap.size 24 (nums n) := ((Has.new w _ _).alloc _).alloc _
  have hX : Has (((w.alloc (.cells (nums n) 24)).alloc (.cells (nums x) 24)).alloc (.cells (nums y) 24)) (w.heap.size + 1) 24 (nums x) := (Has.new' (by simp)).alloc _
  have hY : Has (((w.alloc (.cells (nums n) 24)).alloc (.cells (nums x) 24)).alloc (.cells (nums y) 24)) (w.heap.size + 1 + 1) 24 (nums y) := Has.new' (by simp)
  have hb0 : Below w.heap.size w (((w.alloc (.cells (nums n) 24)).alloc (.cells (nums x) 24)).alloc (.cells (nums y) 24)) := (((Below.refl _ _).alloc (Nat.le_refl _) _).alloc (by simp) _).alloc (by simp; omega) _
  go_enter Tryd.func5, Tryd.ntmps5
  go_wp2_with fail
  refine (kFit _ (HG.out _ _ hG hb0)).mono ?_
  rintro e w1 ⟨rfl, hx0⟩
  replace hN := hN.after hx0; replace hX := hX.after hx0; replace hY := hY.after hx0; replace hb0 := below_trans hb0 hx0
  clear hx0 kFit
  go_wp2_with fail
  refine (kNew _ (HG.out _ _ hG hb0)).mono ?_
  rintro e w2 ⟨⟨g, rfl, hI⟩, hx0⟩
  replace hN := hN.after hx0; replace hX := hX.after hx0; replace hY := hY.after hx0; replace hb0 := below_trans hb0 hx0
  clear hx0 kNew
  go_wp2_with fail
  refine (kP0 _).mono ?_
  rintro e w3 ⟨rfl, hx0⟩
  replace hN := hN.after hx0; replace hX := hX.after hx0; replace hY := hY.after hx0; replace hI := HK.out _ _ _ hI hx0; replace hb0 := below_trans hb0 hx0
  clear hx0
  go_wp2_with fail
  refine (kF _).mono ?_
  rintro e w4 ⟨⟨f, rfl, hF⟩, hx0⟩
  replace hN := hN.after hx0; replace hX := hX.after hx0; replace hY := hY.after hx0; replace hI := HK.out _ _ _ hI hx0; replace hb0 := below_trans hb0 hx0
  clear hx0 kF
  go_wp2_with fail
  refine (kP0 _).mono ?_
  rintro e w5 ⟨rfl, hx0⟩
  replace hN := hN.after hx0; replace hX := hX.after hx0; replace hY := hY.after hx0; replace hI := HK.out _ _ _ hI hx0; replace hb0 := below_trans hb0 hx0; replace hF := hF.after hx0
  clear hx0 kP0
  go_wp2_with fail
  refine (kWd _).mono ?_
  rintro e w6 ⟨rfl, hx0⟩
  replace hN := hN.after hx0; replace hX := hX.after hx0; replace hY := hY.after hx0; replace hI := HK.out _ _ _ hI hx0; replace hb0 := below_trans hb0 hx0; replace hF := hF.after hx0
  clear hx0 kWd
  have hz := put_new w6 23 (nums 0) (nums p)
  replace hN := hN.after hz.2; replace hX := hX.after hz.2; replace hY := hY.after hz.2; replace hF := hF.after hz.2; replace hI := HK.out _ _ _ hI hz.2; replace hb0 := below_trans hb0 hz.2
  have hP := hz.1
  clear hz
  go_wp2_with (first | (refine wpList_store_row rfl 23 _ _ rfl w6.heap.size _ rfl rfl 23 (nums 0) (Has.new' rfl) (info23 _) (by simp only [nums_size]) (tab_oneCell _ _ fun _ => rfl) ?_; generalize hWW : World.setRow _ _ _ = U6 at *; clear hWW) | refine wpList_load_has 24 _ rfl _ rfl rfl 24 _ hX _ Tryd.underlying24 rfl (infoNum _) ?_ | refine wpList_load_has 23 _ rfl _ rfl rfl 23 _ hP _ Tryd.underlying23 rfl (info23 _) ?_)
  refine (kCx _).mono ?_
  rintro e w7 ⟨rfl, hC⟩
  replace hN := hN.after hC; replace hX := hX.after hC; replace hY := hY.after hC; replace hP := hP.after hC; replace hF := hF.after hC; replace hI := HK.out _ _ _ hI hC; replace hb0 := below_trans hb0 hC
  clear hC kCx
  go_wp2_with (first | refine wpList_load_has 24 _ rfl _ rfl rfl 24 _ hY _ Tryd.underlying24 rfl (infoNum _) ?_ | refine wpList_load_has 23 _ rfl _ rfl rfl 23 _ hP _ Tryd.underlying23 rfl (info23 _) ?_)
  refine region_quiet_tail (Below w7.heap.size w7) 14 (by kernel_rfl) (by kernel_rfl) (below_drewN (Below.refl _ _) 1) ?_
  simp only [List.take_succ_cons, List.take_zero, List.drop_succ_cons, List.drop_zero]
  refine wpQ_move _ rfl rfl (.pointer (some ⟨g, 0, none⟩)) rfl ?_
  simp only [Act.put, List.setIfInBounds_toArray, List.set_cons_zero, List.set_cons_succ]
  refine wpQ_has 24 _ rfl _ rfl rfl 24 _ (fun w' hC => hX.after hC) _ Tryd.underlying24 rfl (infoNum _) ?_
  simp only [Act.put, List.setIfInBounds_toArray, List.set_cons_zero, List.set_cons_succ]
  refine wpQ_has 24 _ rfl _ rfl rfl 24 _ (fun w' hC => hY.after hC) _ Tryd.underlying24 rfl (infoNum _) ?_
  simp only [Act.put, List.setIfInBounds_toArray, List.set_cons_zero, List.set_cons_succ]
  refine wpQ_parts4 35 _ rfl rfl #[(0, .agg (nums x)), (1, .agg (nums y))] (by simp only [List.map_toArray, List.map_cons, List.map_nil]; rfl) (.agg (cpC x y false)) (fun w' _ => buildC x y w') ?_
  simp only [Act.put, List.setIfInBounds_toArray, List.set_cons_zero, List.set_cons_succ]
  refine wpQ_fn 17 _ _ rfl rfl #[.pointer (some ⟨g, 0, none⟩), .agg (cpC x y false)] rfl (fun _ => by go_simp) (.bool false) (fun w' hC => (kOn w' _ (HK.out _ _ _ hI hC)).mono fun e w'' ⟨he, hb⟩ => ⟨he, below_class hC hb⟩) ?_
  simp only [Act.put, List.setIfInBounds_toArray, List.set_cons_zero, List.set_cons_succ]
  refine wpQ_move _ rfl rfl (.bool false) rfl ?_
  simp only [Act.put, List.setIfInBounds_toArray, List.set_cons_zero, List.set_cons_succ]
  refine wpQ_move _ rfl rfl (.bool false) rfl ?_
  simp only [Act.put, List.setIfInBounds_toArray, List.set_cons_zero, List.set_cons_succ]
  refine BigFrame.wpQuiet_skip rfl ?_
  simp only [Act.put, List.setIfInBounds_toArray, List.set_cons_zero, List.set_cons_succ]
  refine BigFrame.wpQuiet_skip rfl ?_
  simp only [Act.put, List.setIfInBounds_toArray, List.set_cons_zero, List.set_cons_succ]
  refine BigFrame.wpQuiet_skip rfl ?_
  simp only [Act.put, List.setIfInBounds_toArray, List.set_cons_zero, List.set_cons_succ]
  refine BigFrame.wpQuiet_skip rfl ?_
  simp only [Act.put, List.setIfInBounds_toArray, List.set_cons_zero, List.set_cons_succ]
  refine BigFrame.wpQuiet_skip rfl ?_
  simp only [Act.put, List.setIfInBounds_toArray, List.set_cons_zero, List.set_cons_succ]
  refine BigFrame.wpQuiet_skip rfl ?_
  simp only [Act.put, List.setIfInBounds_toArray, List.set_cons_zero, List.set_cons_succ]
  refine wpQ_pick _ _ _ rfl rfl false rfl (.bool false) rfl ?_
  simp only [Act.put, List.setIfInBounds_toArray, List.set_cons_zero, List.set_cons_succ]
  refine wpQuiet_nil ?_
  intro w8 hC
  replace hN := hN.after hC; replace hX := hX.after hC; replace hY := hY.after hC; replace hP := hP.after hC; replace hF := hF.after hC; replace hI := HK.out _ _ _ hI hC; replace hb0 := below_trans hb0 hC
  clear hC kOn
  go_wp2_with fail
  rcases A with _ | ⟨ax, ay⟩
  · have kPt : ∀ g W, Is W g → Calls Tryd.prog 17 #[.pointer (some ⟨g, 0, none⟩), cpV none] W fun e w' => e = .returned (.bool false) ∧ Below W.heap.size W w' := fun g W h => on_pt H none hS g W h
    clear hS hyn
    refine region_facts 5 [] [.val (.pointer (some ⟨g, 0, none⟩)), .val (.agg (nums n)), .val (.agg (cpC (cpX B) (cpY B) (cpN B))), .val (.agg (cpC (cpX none) (cpY none) (cpN none))), .new 35 (cpC 0 0 false)]
      (by kernel_rfl) (by kernel_rfl) (fun _ _ _ _ _ h => h) ?_ ?_
    · simp only [List.take_succ_cons, List.take_zero, StepsOK]
      refine ⟨?_, ?_, ?_, ?_, ?_, trivial⟩
      · intro v w' hb hf K hKt
        simp only [putAll, Act.put, List.setIfInBounds_toArray, List.set_cons_zero, List.set_cons_succ, Nat.zero_add, Nat.reduceAdd] at hKt ⊢
        go_simp
        exact hKt _ (Below.refl _ _)
      · intro v w' hb hf K hKt
        simp only [putAll, Act.put, List.setIfInBounds_toArray, List.set_cons_zero, List.set_cons_succ, Nat.zero_add, Nat.reduceAdd] at hKt ⊢
        exact wp_load_row 24 _ rfl (w.heap.size) rfl 24 _ (0, 0) _ (hN.after hb) Tryd.underlying24 rfl (infoNum _) (hKt _ (Below.refl _ _))
      · intro v w' hb hf K hKt
        simp only [putAll, Act.put, List.setIfInBounds_toArray, List.set_cons_zero, List.set_cons_succ, Nat.zero_add, Nat.reduceAdd] at hKt ⊢
        go_simp
        refine (kB w' _ (HK.out _ _ _ hI hb)).mono ?_
        rintro e w'' ⟨rfl, hb2⟩
        exact hKt _ hb2
      · intro v w' hb hf K hKt
        have f0 : v 0 = _ := hf ⟨0, .data⟩ (by simp) rfl
        have f1 : v 1 = _ := hf ⟨1, .data⟩ (by simp) rfl
        have f2 : v 2 = _ := hf ⟨2, .data⟩ (by simp) rfl
        simp only [putAll, Act.put, List.setIfInBounds_toArray, List.set_cons_zero, List.set_cons_succ, Nat.zero_add, Nat.reduceAdd] at hKt ⊢
        rw [f0, f1, f2] at hKt ⊢
        go_simp
        refine (kM _ w' (HK.out _ _ _ hI hb)).mono ?_
        rintro e w'' ⟨rfl, hb2⟩
        exact hKt _ hb2
      · exact ⟨rfl, rfl, zeroVC⟩
    intro v w9 hb hF hD
    have f0 : v 0 = _ := hF 0 (by decide)
    have f1 : v 1 = _ := hF 1 (by decide)
    have f2 : v 2 = _ := hF 2 (by decide)
    have f3 : v 3 = _ := hF 3 (by decide)
    obtain ⟨ga, f4, hg4, hl4, hz4⟩ := hF 4 (by decide)
    replace hz4 : Has w9 ga 35 (cpC 0 0 false) := hz4
    simp only [List.take_succ_cons, List.take_zero, List.drop_succ_cons, List.drop_zero, putAll, Act.put, List.setIfInBounds_toArray, List.set_cons_zero, List.set_cons_succ, Nat.zero_add, Nat.reduceAdd]
    rw [f0, f1, f2, f3, f4]
    clear hF hD f0 f1 f2 f3 f4
    have hs4 := hz4
    have hBW := below_setRow (hb) (g := ga) hg4 (cpC (cpX none) (cpY none) (cpN none))
    have hA := (hz4).setRow (cpC (cpX none) (cpY none) (cpN none))
    replace hN := hN.after hBW
    replace hP := hP.after hBW
    replace hX := hX.after hBW
    replace hY := hY.after hBW
    replace hI := HK.out _ _ _ hI hBW
    replace hF := hF.after hBW
    replace hb0 := below_trans hb0 hBW
    have hAn : World.cell? _ ⟨ga, 16, none⟩ = some (.bool true) := cp_n hA
    go_wp2_with (first | (refine wpList_store_row rfl 35 _ _ rfl ga _ rfl rfl 35 (cpC 0 0 false) hs4 (infoCp _ _ _) (by simp only [cpC_size]) (cpC_one _ _ _) ?_; generalize hWW : World.setRow _ ga _ = U8 at *; clear hWW) | refine wpList_load_has 35 _ rfl _ rfl rfl 35 _ hA _ Tryd.underlying35 rfl (infoCp _ _ _) ?_)
    refine (kPt _ _ hI).mono ?_
    rintro e w9 ⟨rfl, hC⟩
    replace hb0 := below_trans hb0 hC
    clear hC
    go_wp2_with fail
    go_ret
    exact ⟨rfl, hb0⟩
  · have hpp := HPP.out
    have hy0 : ay ≠ 0 := hyn rfl
    have lX := ax.isLt
    have lY := ay.isLt
    have bX : ax.val < big := Nat.lt_trans lX pp_lt
    have bY : ay.val < big := Nat.lt_trans lY pp_lt
    have kPt : ∀ g W, Is W g → Calls Tryd.prog 17 #[.pointer (some ⟨g, 0, none⟩), .agg (cpC ax.val ay.val false)] W fun e w' => e = .returned (.bool true) ∧ Below W.heap.size W w' := fun g W h => on_pt H (some (ax, ay)) hS g W h
    have hM := mir_on hS
    have hmv : cpV (some (ax, 0 - ay)) = .agg (cpC ax.val (p - ay.val) false) := by rw [hpp]; exact mir_v hy0
    have kPm : ∀ g W, Is W g → Calls Tryd.prog 17 #[.pointer (some ⟨g, 0, none⟩), .agg (cpC ax.val (p - ay.val) false)] W fun e w' => e = .returned (.bool true) ∧ Below W.heap.size W w' := fun g W h => by
      have k := on_pt H (some (ax, 0 - ay)) hM g W h
      rw [hmv] at k
      exact k
    have kAd : ∀ g W, Is W g → Calls Tryd.prog 20 #[.pointer (some ⟨g, 0, none⟩), .agg (cpC ax.val ay.val false), .agg (cpC ax.val (p - ay.val) false)] W fun e w' => e = .returned (.agg (cpC 0 0 true)) ∧ Below W.heap.size W w' := fun g W h => by
      have k := H.add_ok W g (some (ax, ay)) (some (ax, 0 - ay)) h hS hM
      rw [mir_plus, hmv] at k
      exact k
    have kSub : ∀ W, Calls Tryd.prog 25 #[.agg (nums p), .agg (nums ay.val)] W fun e w' => e = .returned (.tuple #[.agg (nums (p - ay.val)), .int .u32 ((under p ay.val : Nat) : Int)]) ∧ Below W.heap.size W w' := fun W => by
      have k := sub_any p ay.val W (by rw [hpp]; exact pp_lt) bY
      rw [sub_mir (by rw [hpp]; exact Nat.le_of_lt lY)] at k
      exact k
    have kAdd : ∀ W, Calls Tryd.prog 26 #[.agg (nums ax.val), .agg (nums p)] W fun e w' => e = .returned (.tuple #[.agg (nums ((ax.val + p) % big)), .int .u32 ((over ax.val p : Nat) : Int)]) ∧ Below W.heap.size W w' := fun W => by
      have k := add_any ax.val p W bX (by rw [hpp]; exact pp_lt)
      rw [← nums_mod (ax.val + p)] at k
      exact k
    have hXl : (ax.val + p) % big < big := Nat.mod_lt _ (by decide +kernel)
    obtain ⟨r2, hr2, kHi⟩ := H.on_ok ((ax.val + p) % big) ay.val false hXl bY
    have kCp := fun W => compare_any ((ax.val + p) % big) p W hXl (by rw [hpp]; exact pp_lt)
    have hfin : (!r2 || decide (cmpI ((ax.val + p) % big) p < 0)) = true := by rw [hpp]; rw [hpp] at hr2; exact up_val hr2
    have hEq := fun o1 o2 W => numEqW o1 o2 ((ax.val + p) % big) ax.val hXl bX W
    have hne : sameN ((ax.val + p) % big) ax.val = false := decide_eq_false (by rw [hpp]; exact up_ne lX)
    rw [hne] at hEq
    clear hne hr2 hXl hmv hM hS hyn hpp lX lY bX bY hy0 H
    generalize cmpI ((ax.val + p) % big) p = cc at *
    generalize (ax.val + p) % big = X at *
    generalize under p ay.val = un at *
    generalize over ax.val p = ov at *
    have HEQ := Lib.hid hEq
    clear hEq
    refine region_facts 5 [] [.val (.pointer (some ⟨g, 0, none⟩)), .val (.agg (nums n)), .val (.agg (cpC (cpX B) (cpY B) (cpN B))), .val (.agg (cpC (cpX (some (ax, ay))) (cpY (some (ax, ay))) (cpN (some (ax, ay))))), .new 35 (cpC 0 0 false)]
      (by kernel_rfl) (by kernel_rfl) (fun _ _ _ _ _ h => h) ?_ ?_
    · simp only [List.take_succ_cons, List.take_zero, StepsOK]
      refine ⟨?_, ?_, ?_, ?_, ?_, trivial⟩
      · intro v w' hb hf K hKt
        simp only [putAll, Act.put, List.setIfInBounds_toArray, List.set_cons_zero, List.set_cons_succ, Nat.zero_add, Nat.reduceAdd] at hKt ⊢
        go_simp
        exact hKt _ (Below.refl _ _)
      · intro v w' hb hf K hKt
        simp only [putAll, Act.put, List.setIfInBounds_toArray, List.set_cons_zero, List.set_cons_succ, Nat.zero_add, Nat.reduceAdd] at hKt ⊢
        exact wp_load_row 24 _ rfl (w.heap.size) rfl 24 _ (0, 0) _ (hN.after hb) Tryd.underlying24 rfl (infoNum _) (hKt _ (Below.refl _ _))
      · intro v w' hb hf K hKt
        simp only [putAll, Act.put, List.setIfInBounds_toArray, List.set_cons_zero, List.set_cons_succ, Nat.zero_add, Nat.reduceAdd] at hKt ⊢
        go_simp
        refine (kB w' _ (HK.out _ _ _ hI hb)).mono ?_
        rintro e w'' ⟨rfl, hb2⟩
        exact hKt _ hb2
      · intro v w' hb hf K hKt
        have f0 : v 0 = _ := hf ⟨0, .data⟩ (by simp) rfl
        have f1 : v 1 = _ := hf ⟨1, .data⟩ (by simp) rfl
        have f2 : v 2 = _ := hf ⟨2, .data⟩ (by simp) rfl
        simp only [putAll, Act.put, List.setIfInBounds_toArray, List.set_cons_zero, List.set_cons_succ, Nat.zero_add, Nat.reduceAdd] at hKt ⊢
        rw [f0, f1, f2] at hKt ⊢
        go_simp
        refine (kM _ w' (HK.out _ _ _ hI hb)).mono ?_
        rintro e w'' ⟨rfl, hb2⟩
        exact hKt _ hb2
      · exact ⟨rfl, rfl, zeroVC⟩
    intro v w9 hb hF hD
    have f0 : v 0 = _ := hF 0 (by decide)
    have f1 : v 1 = _ := hF 1 (by decide)
    have f2 : v 2 = _ := hF 2 (by decide)
    have f3 : v 3 = _ := hF 3 (by decide)
    obtain ⟨ga, f4, hg4, hl4, hz4⟩ := hF 4 (by decide)
    replace hz4 : Has w9 ga 35 (cpC 0 0 false) := hz4
    simp only [List.take_succ_cons, List.take_zero, List.drop_succ_cons, List.drop_zero, putAll, Act.put, List.setIfInBounds_toArray, List.set_cons_zero, List.set_cons_succ, Nat.zero_add, Nat.reduceAdd]
    rw [f0, f1, f2, f3, f4]
    clear hF hD f0 f1 f2 f3 f4
    have hs4 := hz4
    have hBW := below_setRow (hb) (g := ga) hg4 (cpC (cpX (some (ax, ay))) (cpY (some (ax, ay))) (cpN (some (ax, ay))))
    have hA := (hz4).setRow (cpC (cpX (some (ax, ay))) (cpY (some (ax, ay))) (cpN (some (ax, ay))))
    replace hN := hN.after hBW
    replace hP := hP.after hBW
    replace hX := hX.after hBW
    replace hY := hY.after hBW
    replace hI := HK.out _ _ _ hI hBW
    replace hF := hF.after hBW
    replace hb0 := below_trans hb0 hBW
    obtain ⟨U8, hU⟩ : ∃ U, U = World.setRow w9 ga (cpC (cpX (some (ax, ay))) (cpY (some (ax, ay))) (cpN (some (ax, ay)))) := ⟨_, rfl⟩
    rw [← hU] at hA hP hI hF hb0
    have HU := Lib.hid hU
    clear hU
    replace hA : Has U8 ga 35 (cpC ax.val ay.val false) := hA
    have oA := hA.lt
    have oP := hP.lt
    have hA8 := hA
    have hP8 := hP
    have cell8 : World.cell? U8 ⟨ga, 16, none⟩ = some (.bool false) := cp_n hA8
    have hz := put_new U8 35 (cpC 0 0 false) (cpC ax.val ay.val false)
    replace hA := hA8.after hz.2
    replace hP := hP8.after hz.2
    have b8 := hz.2
    have hB := hz.1
    clear hz hN hX hY hF
    generalize ax.val = xa at *
    generalize ay.val = ya at *
    go_wp2_with (first | (refine wpList_store_row rfl 35 _ _ rfl ga _ rfl rfl 35 (cpC 0 0 false) hs4 (infoCp _ _ _) (by simp only [cpC_size]) (cpC_one _ _ _) ?_; rw [← HU.out]) | refine wpList_load_has 35 _ rfl _ rfl rfl 35 _ hA8 _ Tryd.underlying35 rfl (infoCp _ _ _) ?_ | (refine wpList_store_row rfl 35 _ _ rfl (U8.heap.size) _ rfl rfl 35 (cpC 0 0 false) (Has.new' rfl) (infoCp _ _ _) (by simp only [cpC_size]) (cpC_one _ _ _) ?_; generalize hWW : World.setRow _ (U8.heap.size) _ = U9 at *; clear hWW) | refine wpList_load_has 23 _ rfl _ rfl rfl 23 _ hP _ Tryd.underlying23 rfl (info23 _) ?_ | refine wpList_load_w8G rfl _ rfl (ga) 8 rfl ya (cp_y hA) ?_)
    clear cell8
    refine (kSub _).mono ?_
    rintro e w10 ⟨rfl, hx⟩
    replace hA := hA.after hx
    replace hP := hP.after hx
    replace hB := hB.after hx
    replace b8 := below_trans b8 hx
    clear hx kSub
    have hB1 := hB.setRow (cpC xa (p - ya) false)
    replace hA := hA.farRow (k := U8.heap.size) (by omega) (cpC xa (p - ya) false)
    replace hP := hP.farRow (k := U8.heap.size) (by omega) (cpC xa (p - ya) false)
    replace b8 := below_setRow b8 (g := U8.heap.size) (Nat.le_refl _) (cpC xa (p - ya) false)
    obtain ⟨U10, hU10⟩ : ∃ U, U = World.setRow w10 U8.heap.size (cpC xa (p - ya) false) := ⟨_, rfl⟩
    rw [← hU10] at hA hP hB1 b8
    have HU10 := Lib.hid hU10
    clear hU10
    have hA10 := hA
    have oB := hB1.lt
    have hz := put_new U10 35 (cpC 0 0 false) (cpC xa ya false)
    replace hA := hA.after hz.2
    replace hP := hP.after hz.2
    replace hB1 := hB1.after hz.2
    replace b8 := below_trans b8 hz.2
    have hH := hz.1
    clear hz
    go_wp2_with (first | (refine wpList_store_w8 rfl _ _ rfl (U8.heap.size) 8 rfl (p - ya) rfl 17 (cpF xa ya false) 35 hB (by omega) (cpC xa (p - ya) false) (cp_setY _ _ _ _) ?_; rw [← HU10.out]) | refine wpList_load_has 35 _ rfl _ rfl rfl 35 _ hA10 _ Tryd.underlying35 rfl (infoCp _ _ _) ?_ | (refine wpList_store_row rfl 35 _ _ rfl (U10.heap.size) _ rfl rfl 35 (cpC 0 0 false) (Has.new' rfl) (infoCp _ _ _) (by simp only [cpC_size]) (cpC_one _ _ _) ?_; generalize hWW : World.setRow _ (U10.heap.size) _ = U11 at *; clear hWW) | refine wpList_load_has 23 _ rfl _ rfl rfl 23 _ hP _ Tryd.underlying23 rfl (info23 _) ?_ | refine wpList_load_w8G rfl _ rfl (ga) 0 rfl xa (cp_x hA) ?_)
    refine (kAdd _).mono ?_
    rintro e w12 ⟨rfl, hx⟩
    replace hA := hA.after hx
    replace hP := hP.after hx
    replace hB1 := hB1.after hx
    replace hH := hH.after hx
    replace b8 := below_trans b8 hx
    clear hx kAdd hA10 hB HU10
    have hH1 := hH.setRow (cpC X ya false)
    replace hA := hA.farRow (k := U10.heap.size) (by omega) (cpC X ya false)
    replace hP := hP.farRow (k := U10.heap.size) (by omega) (cpC X ya false)
    replace hB1 := hB1.farRow (k := U10.heap.size) (by omega) (cpC X ya false)
    replace b8 := below_setRow b8 (g := U10.heap.size) (by omega) (cpC X ya false)
    go_wp2_with (first | (refine wpList_store_w8 rfl _ _ rfl (U10.heap.size) 0 rfl (X) rfl 17 (cpF xa ya false) 35 hH (by omega) (cpC X ya false) (cp_setX _ _ _ _) ?_; generalize hWW : World.setRow _ U10.heap.size _ = U12 at *; clear hWW) | refine wpList_load_has 35 _ rfl _ rfl rfl 35 _ hA _ Tryd.underlying35 rfl (infoCp _ _ _) ?_)
    refine (kPt _ _ (HK.out _ _ _ hI b8)).mono ?_
    rintro e w13 ⟨rfl, hx⟩
    replace hA := hA.after hx; replace hP := hP.after hx; replace hB1 := hB1.after hx; replace hH1 := hH1.after hx; replace b8 := below_trans b8 hx
    clear hx kPt hH
    go_wp2_with (first | refine wpList_load_has 35 _ rfl _ rfl rfl 35 _ hB1 _ Tryd.underlying35 rfl (infoCp _ _ _) ?_)
    refine (kPm _ _ (HK.out _ _ _ hI b8)).mono ?_
    rintro e w14 ⟨rfl, hx⟩
    replace hA := hA.after hx; replace hP := hP.after hx; replace hB1 := hB1.after hx; replace hH1 := hH1.after hx; replace b8 := below_trans b8 hx
    clear hx kPm
    go_wp2_with (first | refine wpList_load_has 35 _ rfl _ rfl rfl 35 _ hA _ Tryd.underlying35 rfl (infoCp _ _ _) ?_ | refine wpList_load_has 35 _ rfl _ rfl rfl 35 _ hB1 _ Tryd.underlying35 rfl (infoCp _ _ _) ?_)
    refine (kAd _ _ (HK.out _ _ _ hI b8)).mono ?_
    rintro e w15 ⟨rfl, hx⟩
    replace hA := hA.after hx; replace hP := hP.after hx; replace hB1 := hB1.after hx; replace hH1 := hH1.after hx; replace b8 := below_trans b8 hx
    clear hx kAd
    go_wp2_with (first | refine wpList_partsG rfl 35 _ rfl #[(2, .bool true)] (by simp only [List.map_toArray, List.map_cons, List.map_nil]; rfl) (.agg (cpC 0 0 true)) buildNone ?_ | refine wpList_binG rfl .eql 35 _ _ 35 rfl (.agg (cpC 0 0 true)) (.agg (cpC 0 0 true)) rfl rfl (.bool true) (fun w => cpEq _ _ 0 0 true w) ?_ | refine wpList_binG rfl .eql 24 _ _ 24 rfl (.agg (nums X)) (.agg (nums xa)) rfl rfl (.bool false) (fun w => HEQ.out _ _ w) ?_ | refine wpList_load_w8G rfl _ rfl (U10.heap.size) 0 rfl X (cp_x hH1) ?_ | refine wpList_load_w8G rfl _ rfl (ga) 0 rfl xa (cp_x hA) ?_ | refine wpList_load_has 35 _ rfl _ rfl rfl 35 _ hH1 _ Tryd.underlying35 rfl (infoCp _ _ _) ?_)
    refine (kHi _ _ (HK.out _ _ _ hI b8)).mono ?_
    rintro e w16 ⟨rfl, hx⟩
    replace hA := hA.after hx; replace hP := hP.after hx; replace hB1 := hB1.after hx; replace hH1 := hH1.after hx; replace b8 := below_trans b8 hx
    clear hx kHi
    replace hb0 := below_trans hb0 b8
    cases r2 with
    | false =>
      go_wp2_with fail
      go_ret
      exact ⟨rfl, hb0⟩
    | true =>
      have hcc : cc < 0 := by simpa using hfin
      go_wp2_with (first | refine wpList_load_w8G rfl _ rfl (U10.heap.size) 0 rfl X (cp_x hH1) ?_ | refine wpList_load_has 23 _ rfl _ rfl rfl 23 _ hP _ Tryd.underlying23 rfl (info23 _) ?_)
      refine (kCp _).mono ?_
      rintro e w17 ⟨rfl, hx⟩
      replace hb0 := below_trans hb0 hx
      clear hx kCp
      go_wp2_with fail
      go_ret
      exact ⟨rfl, hb0⟩

theorem on_ok4 {G : World → Prop} {Is : World → Nat → Prop} (H : CurveOK G Is) (n x y : Nat) (w : World) (hn : n < big) (lx : x < big) (ly : y < big) (hG : G w) :
    Calls Tryd.prog 5 #[.agg (nums n), .agg (nums x), .agg (nums y)] w fun e w' => e = .returned (.bool true) ∧ Below w.heap.size w w' := by
  by_cases hx : x < Ec.pp
  · by_cases hy : y < Ec.pp
    · exact on_low H n x y w hn lx ly hx hy hG
    · exact on_mid H n x y w hn lx ly hx hy hG
  · exact on_hi H n x y w hn lx ly hx hG
end Go.Proofs.YtmgmfifkldpbmaaDoor
