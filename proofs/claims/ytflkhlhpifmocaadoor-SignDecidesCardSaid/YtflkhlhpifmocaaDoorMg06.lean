/-
Package curve: New, Order, Base, On.
Package curve: Two; Mult and Add; what they answer on a nil Curve.
Package curve: multiples and sums of points; what a nil Curve answers; all its calls together.
The digest of abc, by the kernel.

A multiple of the base, reckoned by the kernel and held against a point that is told.
limbs.Bytes and limbs.Read.
Layer 5 in numbers: bytes as numbers; what a verification answers; the reference's example.
The reference of layer 5: 32 bytes as a number; one number below another.
The reference of layer 5: keys.
The steps of a quiet region behind a structure, which nothing unfolds: a skipped operation costs nothing then.
-/
import Derived.Test.YtflkhlhpifmocaaDoorMg00
import Derived.Test.YtflkhlhpifmocaaDoorMg02
import Derived.Test.YtflkhlhpifmocaaDoorMg04
import Derived.Test.YtflkhlhpifmocaaDoorMg05
import Derived.Lib.SlBytesConst
import Derived.BigQuiet
namespace Go.Proofs.YtflkhlhpifmocaaDoor
open Go.RowKit

/-- the curve's b in Montgomery's form -/
def bM : Nat := bN * RR % Ec.pp
theorem bM_lt : bM < Ec.pp := Nat.mod_lt _ pp_odd.2.2
theorem bM_mo : mo bM = Ec.cB := (mo_in bN).trans cB_eq
abbrev IsCurve : World → Nat → Prop := IsCrv Ec.pp bM
theorem foldCrv (f x : Nat) (W : World) : (Instr.build 77 #[(0, .pointer (some ⟨f, 0, none⟩)), (1, .agg (nums x))]).run Tryd.prog W = .ok (.agg (crvC f x)) W := by kernel_rfl
attribute [local go_sem] zeroNum zero24 zero17c
set_option maxRecDepth 100000 in
set_option maxHeartbeats 1000000 in
theorem cnew_any (m b : Nat) (w : World) (hodd : m % 2 = 1) (h1 : 1 < m) (hm : m < big) (hb : b < big) (hL : Laid w) (hp : ∀ W, Below w.heap.size w W → W.rangeAt 0 0 (wordsL m)) (hbb : ∀ W, Below w.heap.size w W → W.rangeAt 1 0 (wordsL b)) :
    Calls Tryd.prog 13 #[] w fun e w' => (∃ g, e = .returned (.pointer (some ⟨g, 0, none⟩)) ∧ IsCrv m (b * RR % m) w' g) ∧ Below w.heap.size w w' := by
  have kN := fun W => new_any m W hodd h1 hm
  have kIn := fun f W (h : IsMod W f m) => min_any b m f W h hb
  have HI : ∀ (W : World) (g f : Nat), Has W g 77 (crvC f (b * RR % m)) → IsMod W f m → Below w.heap.size w W → IsCrv m (b * RR % m) W g := fun W g f a1 a2 a3 => ⟨f, a1, a2, hL.after a3⟩
  have HII := Lib.hid HI
  clear hodd h1 hm hb hL HI
  generalize b * RR % m = x at *
  have hb0 := Below.refl w.heap.size w
  have hp0 := hp w hb0
  go_enter Tryd.func13, Tryd.ntmps13
  go_wp2_with (first | refine wpList_load_num rfl _ rfl 0 0 rfl _ hp0 ?_)
  refine (kN _).mono ?_
  rintro e w1 ⟨⟨f, rfl, hM⟩, hx⟩
  have hb1 := hbb w1 hx
  clear kN hp hp0 hb0
  go_wp2_with (first | refine wpList_load_num rfl _ rfl 1 0 rfl _ hb1 ?_)
  refine (kIn _ _ hM).mono ?_
  rintro e w2 ⟨rfl, hx2⟩
  replace hM := hM.after hx2
  replace hx := below_trans hx hx2
  clear hx2 kIn hb1 hbb
  have hG : Has (w2.alloc (.cells (crvC f x) 77)) w2.heap.size 77 (crvC f x) := Has.new _ _ _
  have hbw : Below w2.heap.size w2 (w2.alloc (.cells (crvC f x) 77)) := (Below.refl _ _).alloc (Nat.le_refl _) _
  go_wp2_with (first | refine wpList_parts rfl 77 _ rfl #[(0, .pointer (some ⟨f, 0, none⟩)), (1, .agg (nums x))] (by simp only [List.map_toArray, List.map_cons, List.map_nil]; rfl) (.agg (crvC f x)) (foldCrv f x) ?_)
  go_ret
  exact ⟨⟨w2.heap.size, rfl, HII.out _ _ _ hG (hM.after hbw) (below_trans hx hbw)⟩, below_trans hx hbw⟩
set_option maxRecDepth 100000 in
set_option maxHeartbeats 1000000 in
theorem order_any (o : Nat) (w : World) (ho : ∀ W, Below w.heap.size w W → W.rangeAt 2 0 (wordsL o)) : Calls Tryd.prog 41 #[] w fun e w' => e = .returned (.agg (nums o)) ∧ Below w.heap.size w w' := by
  have n0 := nums_ne 0
  have hR : Has (w.alloc (.cells (nums 0) 30)) w.heap.size 30 (nums 0) := Has.new w _ _
  have hb0 : Below w.heap.size w (w.alloc (.cells (nums 0) 30)) := (Below.refl _ _).alloc (Nat.le_refl _) _
  have h1 := ho _ hb0
  clear ho
  go_enter Tryd.func41, Tryd.ntmps41
  go_wp2_with (first | refine wpList_load_num rfl _ rfl 2 0 rfl _ h1 ?_ | refine wpList_store_row rfl 30 _ _ rfl (w.heap.size) _ rfl rfl 30 _ hR (infoNum _) (by simp only [nums_size]) (tab_oneCell _ _ fun _ => rfl) ?_)
  exact bodyPost_ret (v := .agg (nums o)) (results_cell_row rfl _ _ (w.heap.size) 30 _ _ _ rfl (hR.setRow _) Tryd.underlying30 rfl (infoNum _)) rfl ⟨rfl, below_setRow hb0 (by omega) _⟩
set_option maxRecDepth 100000 in
set_option maxHeartbeats 1000000 in
theorem base_any (x y : Nat) (w : World) (hx : ∀ W, Below w.heap.size w W → W.rangeAt 3 0 (wordsL x)) (hy : ∀ W, Below w.heap.size w W → W.rangeAt 4 0 (wordsL y)) : Calls Tryd.prog 46 #[] w fun e w' => e = .returned (.agg (cpC x y false)) ∧ Below w.heap.size w w' := by
  have hR : Has (w.alloc (.cells (cpC 0 0 false) 32 )) w.heap.size 32 (cpC 0 0 false) := Has.new w _ _
  have hb0 : Below w.heap.size w (w.alloc (.cells (cpC 0 0 false) 32 )) := (Below.refl _ _).alloc (Nat.le_refl _) _
  have h1 := hx _ hb0
  have h2 := hy _ hb0
  clear hx hy
  go_enter Tryd.func46, Tryd.ntmps46
  go_wp2_with (first | refine wpList_load_num rfl _ rfl 3 0 rfl _ h1 ?_ | refine wpList_load_num rfl _ rfl 4 0 rfl _ h2 ?_ | refine wpList_parts rfl 32 _ rfl #[(0, .agg (nums x)), (1, .agg (nums y))] (by simp only [List.map_toArray, List.map_cons, List.map_nil]; rfl) (.agg (cpC x y false)) (buildC4 x y) ?_ | refine wpList_store_row rfl 32 _ _ rfl (w.heap.size) _ rfl rfl 32 _ hR (infoCp _ _ _) (by simp only [cpC_size]) (cpC_one _ _ _) ?_)
  exact bodyPost_ret (v := .agg (cpC x y false)) (results_cell_row rfl _ _ (w.heap.size) 32 _ _ _ rfl (hR.setRow _) Tryd.underlying32 rfl (infoCp _ _ _)) rfl ⟨rfl, below_setRow hb0 (by omega) _⟩
/-- is a number below the prime? -/
theorem isRed_any (x p : Nat) (w : World) (hx : x < big) (hp : p < big) (hr : ∀ W, Below w.heap.size w W → W.rangeAt 0 0 (wordsL p)) : Calls Tryd.prog 64 #[.agg (nums x)] w fun e w' => e = .returned (.bool (decide (x < p))) ∧ Below w.heap.size w w' := by
  have kC := fun W => compare_any x p W hx hp
  have hd : decide (x < p) = decide (cmpI x p < 0) := by
    by_cases h : x < p
    · rw [decide_eq_true h, decide_eq_true ((cmp_lt _ _).2 h)]
    · rw [decide_eq_false h, decide_eq_false fun h2 => h ((cmp_lt _ _).1 h2)]
  rw [hd]
  clear hd hx hp
  generalize cmpI x p = c at *
  have hA : Has (w.alloc (.cells (nums x) 30)) w.heap.size 30 (nums x) := Has.new w _ _
  have hb0 : Below w.heap.size w (w.alloc (.cells (nums x) 30)) := (Below.refl _ _).alloc (Nat.le_refl _) _
  have h1 := hr _ hb0
  clear hr
  go_enter Tryd.func64, Tryd.ntmps64
  go_wp2_with (first | refine wpList_load_has 30 _ rfl _ rfl rfl 30 _ hA _ Tryd.underlying30 rfl (infoNum _) ?_ | refine wpList_load_num rfl _ rfl 0 0 rfl _ h1 ?_)
  refine (kC _).mono ?_
  rintro e w1 ⟨rfl, hx⟩
  replace hb0 := below_trans hb0 hx
  clear hx kC hA h1
  go_wp2_with fail
  go_ret
  exact ⟨rfl, hb0⟩
section
variable {w : World} {ops : Array Oper} {rest : List Oper} {op : Oper} {a : Act} {Q : Exit → Act → World → Prop}
/-- a field loaded under a guard -/
theorem wpList_load_numG (hw : Region.wanted op (yielded ops a.tmps) = true) (p : Operand) (ho : op.op = .load 30 p) (b o : Nat) (hp : a.eval p = .pointer (some ⟨b, o, none⟩)) (x : Nat) (hc : w.rangeAt b o (wordsL x))
    (h : wpList Tryd.prog ops Q rest (a.put op.dst (.agg (nums x))) w) : wpList Tryd.prog ops Q (op :: rest) a w :=
  wpList_wanted hw fun _ hK => wp_load_num p ho b o hp x hc (hK _ _ h)
end
theorem cube_eq (a b : Ec.FP) : a * a * a - 3 * a + b = a * a * a + Ec.cA * a + b := by unfold Ec.cA; grobner
theorem numEqG (o1 o2 : Operand) (x y : Nat) (hx : x < big) (hy : y < big) (w : World) : (do eqGuard .eql 30 o1 o2 (.agg (nums x)) (.agg (nums y)); binOp .eql 30 (.agg (nums x)) (.agg (nums y)) : Sem Value).run Tryd.prog w = .ok (.bool (sameN x y)) w := by
  have es := eql_nums hx hy
  go_simp
theorem IsCrv.laid {m bm : Nat} {w : World} {g : Nat} (h : IsCrv m bm w g) : Laid w := by
  obtain ⟨f, h1, h2, h3⟩ := h
  exact h3
set_option maxRecDepth 100000 in
set_option maxHeartbeats 4000000 in
theorem on_none (X Y m bm g : Nat) (w : World) (_hI : IsCrv m bm w g) (_bX : X < big) (_bY : Y < big) : Calls Tryd.prog 37 #[.pointer (some ⟨g, 0, none⟩), .agg (cpC X Y true)] w fun e w' => e = .returned (.bool false) ∧ Below w.heap.size w w' := by
  have hA : Has (w.alloc (.cells (cpC X Y true) 32 )) w.heap.size 32 (cpC X Y true) := Has.new w _ _
  have hb0 : Below w.heap.size w (w.alloc (.cells (cpC X Y true) 32 )) := (Below.refl _ _).alloc (Nat.le_refl _) _
  have cell0 := cp_n hA
  clear _hI _bX _bY
  go_enter Tryd.func37, Tryd.ntmps37
  go_wp2_with fail
  go_ret
  exact ⟨rfl, hb0⟩
set_option maxRecDepth 100000 in
set_option maxHeartbeats 4000000 in
theorem on_badX (X Y m bm g : Nat) (w : World) (hI : IsCrv m bm w g) (bX : X < big) (bY : Y < big) (hX : ¬ X < Ec.pp) : Calls Tryd.prog 37 #[.pointer (some ⟨g, 0, none⟩), .agg (cpC X Y false)] w fun e w' => e = .returned (.bool false) ∧ Below w.heap.size w w' := by
  have kX := fun W (h : Below w.heap.size w W) => isRed_any X Ec.pp W bX (by decide +kernel) (fun W' h' => ((hI.after h).laid.after h').p)
  have kY := fun W (h : Below w.heap.size w W) => isRed_any Y Ec.pp W bY (by decide +kernel) (fun W' h' => ((hI.after h).laid.after h').p)
  rw [decide_eq_false hX] at kX
  clear kY hI bX bY hX
  have hA : Has (w.alloc (.cells (cpC X Y false) 32 )) w.heap.size 32 (cpC X Y false) := Has.new w _ _
  have hb0 : Below w.heap.size w (w.alloc (.cells (cpC X Y false) 32 )) := (Below.refl _ _).alloc (Nat.le_refl _) _
  have cell0 := cp_n hA
  go_enter Tryd.func37, Tryd.ntmps37
  go_wp2_with (first | refine wpList_load_numG rfl _ rfl w.heap.size 0 rfl X (cp_x hA) ?_)
  refine (kX _ hb0).mono ?_
  rintro e w1 ⟨rfl, hx⟩
  replace hA := hA.after hx
  replace hb0 := below_trans hb0 hx
  replace cell0 := cp_n hA
  clear hx kX
  go_wp2_with fail
  go_ret
  exact ⟨rfl, hb0⟩
set_option maxRecDepth 100000 in
set_option maxHeartbeats 4000000 in
theorem on_badY (X Y m bm g : Nat) (w : World) (hI : IsCrv m bm w g) (bX : X < big) (bY : Y < big) (hX : X < Ec.pp) (hY : ¬ Y < Ec.pp) : Calls Tryd.prog 37 #[.pointer (some ⟨g, 0, none⟩), .agg (cpC X Y false)] w fun e w' => e = .returned (.bool false) ∧ Below w.heap.size w w' := by
  have kX := fun W (h : Below w.heap.size w W) => isRed_any X Ec.pp W bX (by decide +kernel) (fun W' h' => ((hI.after h).laid.after h').p)
  have kY := fun W (h : Below w.heap.size w W) => isRed_any Y Ec.pp W bY (by decide +kernel) (fun W' h' => ((hI.after h).laid.after h').p)
  rw [decide_eq_true hX] at kX
  rw [decide_eq_false hY] at kY
  clear hI bX bY hX hY
  have hA : Has (w.alloc (.cells (cpC X Y false) 32 )) w.heap.size 32 (cpC X Y false) := Has.new w _ _
  have hb0 : Below w.heap.size w (w.alloc (.cells (cpC X Y false) 32 )) := (Below.refl _ _).alloc (Nat.le_refl _) _
  have cell0 := cp_n hA
  go_enter Tryd.func37, Tryd.ntmps37
  go_wp2_with (first | refine wpList_load_numG rfl _ rfl w.heap.size 0 rfl X (cp_x hA) ?_)
  refine (kX _ hb0).mono ?_
  rintro e w1 ⟨rfl, hx⟩
  replace hA := hA.after hx
  replace hb0 := below_trans hb0 hx
  replace cell0 := cp_n hA
  clear hx kX
  go_wp2_with (first | refine wpList_load_numG rfl _ rfl w.heap.size 8 rfl Y (cp_y hA) ?_)
  refine (kY _ hb0).mono ?_
  rintro e w2 ⟨rfl, hx⟩
  replace hA := hA.after hx
  replace hb0 := below_trans hb0 hx
  replace cell0 := cp_n hA
  clear hx kY
  go_wp2_with fail
  go_ret
  exact ⟨rfl, hb0⟩
set_option maxRecDepth 100000 in
set_option maxHeartbeats 4000000 in
theorem on_good (X Y m bm : Nat) (lX : X < m) (lY : Y < m) (bm' : m < big) (lbm : bm < m) (hmp : m = Ec.pp) (hbm : mo bm = Ec.cB) :
    ∃ r : Bool, (r = true ↔ Ec.OnP (some (Ec.c X, Ec.c Y))) ∧ ∀ w g, IsCrv m bm w g → Calls Tryd.prog 37 #[.pointer (some ⟨g, 0, none⟩), .agg (cpC X Y false)] w fun e w' => e = .returned (.bool r) ∧ Below w.heap.size w w' := by
  have m0 : 0 < m := Nat.lt_of_le_of_lt (Nat.zero_le _) lX
  have bX := Nat.lt_trans lX bm'
  have bY := Nat.lt_trans lY bm'
  obtain ⟨v1, ev1⟩ : ∃ v, v = X * RR % m := ⟨_, rfl⟩
  have lv1 : v1 < m := by rw [ev1]; exact Nat.mod_lt _ m0
  obtain ⟨v2, ev2⟩ : ∃ v, v = Y * RR % m := ⟨_, rfl⟩
  have lv2 : v2 < m := by rw [ev2]; exact Nat.mod_lt _ m0
  obtain ⟨v3, ev3⟩ : ∃ v, v = redc m (v1 * v1) := ⟨_, rfl⟩
  have lv3 : v3 < m := by rw [ev3]; exact redc_lt m _ m0
  obtain ⟨v4, ev4⟩ : ∃ v, v = redc m (v3 * v1) := ⟨_, rfl⟩
  have lv4 : v4 < m := by rw [ev4]; exact redc_lt m _ m0
  obtain ⟨v5, ev5⟩ : ∃ v, v = redc m (v2 * v2) := ⟨_, rfl⟩
  have lv5 : v5 < m := by rw [ev5]; exact redc_lt m _ m0
  obtain ⟨v6, ev6⟩ : ∃ v, v = triN m v1 := ⟨_, rfl⟩
  have lv6 : v6 < m := by rw [ev6]; exact triN_lt _ m0
  obtain ⟨v7, ev7⟩ : ∃ v, v = (v4 + (m - v6)) % m := ⟨_, rfl⟩
  have lv7 : v7 < m := by rw [ev7]; exact Nat.mod_lt _ m0
  obtain ⟨v8, ev8⟩ : ∃ v, v = (v7 + bm) % m := ⟨_, rfl⟩
  have lv8 : v8 < m := by rw [ev8]; exact Nat.mod_lt _ m0
  refine ⟨sameN v5 v8, ?_, fun w g hI => ?_⟩
  · have cv1 : mo v1 = Ec.c X := by rw [ev1, hmp]; exact mo_in X
    have cv2 : mo v2 = Ec.c Y := by rw [ev2, hmp]; exact mo_in Y
    have cv3 : mo v3 = mo v1 * mo v1 := by rw [ev3]; exact mT hmp v1 v1
    have cv4 : mo v4 = mo v3 * mo v1 := by rw [ev4]; exact mT hmp v3 v1
    have cv5 : mo v5 = mo v2 * mo v2 := by rw [ev5]; exact mT hmp v2 v2
    have cv6 : mo v6 = 3 * mo v1 := by rw [ev6]; exact mTri hmp v1
    have cv7 : mo v7 = mo v4 - mo v6 := by rw [ev7]; exact mS hmp v4 v6 (Nat.le_of_lt lv6)
    have cv8 : mo v8 = mo v7 + mo bm := by rw [ev8]; exact mA hmp v7 bm
    have h5 : mo v5 = Ec.c Y * Ec.c Y := by rw [cv5, cv2]
    have h8 : mo v8 = Ec.c X * Ec.c X * Ec.c X - 3 * Ec.c X + Ec.cB := by rw [cv8, cv7, cv4, cv3, cv6, cv1, hbm]
    rw [hmp] at lv5 lv8
    constructor
    · intro h
      have h1 : v5 = v8 := of_decide_eq_true h
      have h2 := congrArg mo h1
      rw [h5, h8] at h2
      show Ec.c Y * Ec.c Y = Ec.c X * Ec.c X * Ec.c X + Ec.cA * Ec.c X + Ec.cB
      rw [h2]
      exact cube_eq _ _
    · intro h
      have h1 : Ec.c Y * Ec.c Y = Ec.c X * Ec.c X * Ec.c X + Ec.cA * Ec.c X + Ec.cB := h
      refine decide_eq_true (mo_inj lv5 lv8 ?_)
      rw [h5, h8, h1]
      exact (cube_eq _ _).symm
  obtain ⟨f, hG, hM, hL⟩ := hI
  have kM := fun W (h : Below w.heap.size w W) => hM.after h
  have kI := fun W (h : Below w.heap.size w W) => (⟨f, hG.after h, hM.after h, hL.after h⟩ : IsCrv m bm W g)
  have kX := fun W (h : Below w.heap.size w W) => isRed_any X m W bX bm' (fun W' h' => by rw [hmp]; exact ((hL.after h).after h').p)
  have kY := fun W (h : Below w.heap.size w W) => isRed_any Y m W bY bm' (fun W' h' => by rw [hmp]; exact ((hL.after h).after h').p)
  rw [decide_eq_true lX] at kX
  rw [decide_eq_true lY] at kY
  have kv1 := fun W (h : Below w.heap.size w W) => min_any X m f W (kM W h) bX
  rw [← ev1] at kv1
  have kv2 := fun W (h : Below w.heap.size w W) => min_any Y m f W (kM W h) bY
  rw [← ev2] at kv2
  have kv3 := fun W (h : Below w.heap.size w W) => mtimes_any v1 v1 m f W (kM W h) lv1 lv1
  rw [← ev3] at kv3
  have kv4 := fun W (h : Below w.heap.size w W) => mtimes_any v3 v1 m f W (kM W h) lv3 lv1
  rw [← ev4] at kv4
  have kv5 := fun W (h : Below w.heap.size w W) => mtimes_any v2 v2 m f W (kM W h) lv2 lv2
  rw [← ev5] at kv5
  have kv6 := fun W (h : Below w.heap.size w W) => triple_any v1 m bm g W (kI W h) lv1
  rw [← ev6] at kv6
  have kv7 := fun W (h : Below w.heap.size w W) => msub_any v4 v6 m f W (kM W h) lv4 lv6
  rw [← ev7] at kv7
  have kv8 := fun W (h : Below w.heap.size w W) => madd_any v7 bm m f W (kM W h) lv7 lbm
  rw [← ev8] at kv8
  have hEQ := fun o1 o2 W => numEqG o1 o2 v5 v8 (Nat.lt_trans lv5 bm') (Nat.lt_trans lv8 bm') W
  generalize sameN v5 v8 = r at *
  clear m0 kI kM hM hL hmp hbm lX lY bX bY bm' lbm ev1 lv1 ev2 lv2 ev3 lv3 ev4 lv4 ev5 lv5 ev6 lv6 ev7 lv7 ev8 lv8
  have n0 := nums_ne 0
  have hA : Has (w.alloc (.cells (cpC X Y false) 32 )) w.heap.size 32 (cpC X Y false) := Has.new w _ _
  have hb0 : Below w.heap.size w (w.alloc (.cells (cpC X Y false) 32 )) := (Below.refl _ _).alloc (Nat.le_refl _) _
  have cell0 := cp_n hA
  replace hG := hG.after hb0
  go_enter Tryd.func37, Tryd.ntmps37
  go_wp2_with (first | refine wpList_load_numG rfl _ rfl w.heap.size 0 rfl X (cp_x hA) ?_)
  refine (kX _ hb0).mono ?_
  rintro e w1 ⟨rfl, hx⟩
  replace hA := hA.after hx
  replace hG := hG.after hx
  replace hb0 := below_trans hb0 hx
  replace cell0 := cp_n hA
  clear hx kX
  go_wp2_with (first | refine wpList_load_numG rfl _ rfl w.heap.size 8 rfl Y (cp_y hA) ?_)
  refine (kY _ hb0).mono ?_
  rintro e w2 ⟨rfl, hx⟩
  replace hA := hA.after hx
  replace hG := hG.after hx
  replace hb0 := below_trans hb0 hx
  replace cell0 := cp_n hA
  clear hx kY
  clear cell0
  have cell1 := crv_f hG
  go_wp2_with fail
  clear cell1
  have ohA_1 := hA.lt
  have ohG_1 := hG.lt
  refine region_facts 10 [] [.val (.pointer (some ⟨f, 0, none⟩)), .val (.pointer (some ⟨w.heap.size, 0, none⟩)), .val (.agg (nums (X))), .val (.agg (nums (v1))), .val (.pointer (some ⟨f, 0, none⟩)), .val (.pointer (some ⟨w.heap.size, 8, none⟩)), .val (.agg (nums (Y))), .val (.agg (nums (v2))), .new 30 (nums 0), .new 30 (nums 0)]
    (by kernel_rfl) (by kernel_rfl) (fun _ _ _ _ _ h => h) ?_ ?_
  · simp only [List.take_succ_cons, List.take_zero, StepsOK]
    refine ⟨?_, ?_, ?_, ?_, ?_, ?_, ?_, ?_, ?_, ?_, trivial⟩
    · intro v w' hb hf K hKt
      simp only [putAll, Act.put, List.setIfInBounds_toArray, List.set_cons_zero, List.set_cons_succ, Nat.zero_add, Nat.reduceAdd] at hKt ⊢
      go_simp
      exact hKt _ (Below.refl _ _)
    · intro v w' hb hf K hKt
      simp only [putAll, Act.put, List.setIfInBounds_toArray, List.set_cons_zero, List.set_cons_succ, Nat.zero_add, Nat.reduceAdd] at hKt ⊢
      go_simp
      exact hKt _ (Below.refl _ _)
    · intro v w' hb hf K hKt
      have f1 : v 1 = _ := hf ⟨1, .data⟩ (by simp) rfl
      simp only [putAll, Act.put, List.setIfInBounds_toArray, List.set_cons_zero, List.set_cons_succ, Nat.zero_add, Nat.reduceAdd] at hKt ⊢
      rw [f1] at hKt ⊢
      exact wp_load_num _ rfl (w.heap.size) 0 rfl X (cp_x ((hA.after hb))) (hKt _ (Below.refl _ _))
    · intro v w' hb hf K hKt
      have f0 : v 0 = _ := hf ⟨0, .data⟩ (by simp) rfl
      have f2 : v 2 = _ := hf ⟨2, .data⟩ (by simp) rfl
      simp only [putAll, Act.put, List.setIfInBounds_toArray, List.set_cons_zero, List.set_cons_succ, Nat.zero_add, Nat.reduceAdd] at hKt ⊢
      rw [f0, f2] at hKt ⊢
      go_simp
      refine (kv1 w' (below_trans hb0 hb)).mono ?_
      rintro e w'' ⟨rfl, hb2⟩
      exact hKt _ hb2
    · intro v w' hb hf K hKt
      simp only [putAll, Act.put, List.setIfInBounds_toArray, List.set_cons_zero, List.set_cons_succ, Nat.zero_add, Nat.reduceAdd] at hKt ⊢
      go_simp
      exact hKt _ (Below.refl _ _)
    · intro v w' hb hf K hKt
      simp only [putAll, Act.put, List.setIfInBounds_toArray, List.set_cons_zero, List.set_cons_succ, Nat.zero_add, Nat.reduceAdd] at hKt ⊢
      go_simp
      exact hKt _ (Below.refl _ _)
    · intro v w' hb hf K hKt
      have f5 : v 5 = _ := hf ⟨5, .data⟩ (by simp) rfl
      simp only [putAll, Act.put, List.setIfInBounds_toArray, List.set_cons_zero, List.set_cons_succ, Nat.zero_add, Nat.reduceAdd] at hKt ⊢
      rw [f5] at hKt ⊢
      exact wp_load_num _ rfl (w.heap.size) 8 rfl Y (cp_y ((hA.after hb))) (hKt _ (Below.refl _ _))
    · intro v w' hb hf K hKt
      have f4 : v 4 = _ := hf ⟨4, .data⟩ (by simp) rfl
      have f6 : v 6 = _ := hf ⟨6, .data⟩ (by simp) rfl
      simp only [putAll, Act.put, List.setIfInBounds_toArray, List.set_cons_zero, List.set_cons_succ, Nat.zero_add, Nat.reduceAdd] at hKt ⊢
      rw [f4, f6] at hKt ⊢
      go_simp
      refine (kv2 w' (below_trans hb0 hb)).mono ?_
      rintro e w'' ⟨rfl, hb2⟩
      exact hKt _ hb2
    · exact ⟨rfl, rfl, zeroVN⟩
    · exact ⟨rfl, rfl, zeroVN⟩
  intro v u1 hb hF hD
  have f0 : v 0 = _ := hF 0 (by decide)
  have f1 : v 1 = _ := hF 1 (by decide)
  have f2 : v 2 = _ := hF 2 (by decide)
  have f3 : v 3 = _ := hF 3 (by decide)
  have f4 : v 4 = _ := hF 4 (by decide)
  have f5 : v 5 = _ := hF 5 (by decide)
  have f6 : v 6 = _ := hF 6 (by decide)
  have f7 : v 7 = _ := hF 7 (by decide)
  obtain ⟨g1_8, f8, hg8, hl8, hz8⟩ := hF 8 (by decide)
  replace hz8 : Has u1 g1_8 30 (nums 0) := hz8
  obtain ⟨g1_9, f9, hg9, hl9, hz9⟩ := hF 9 (by decide)
  replace hz9 : Has u1 g1_9 30 (nums 0) := hz9
  have hne8_9 : g1_8 ≠ g1_9 := fun h => hD 8 9 (by decide) (by decide) (by decide) rfl rfl (by rw [f8, f9, h])
  simp only [List.take_succ_cons, List.take_zero, List.drop_succ_cons, List.drop_zero, putAll, Act.put, List.setIfInBounds_toArray, List.set_cons_zero, List.set_cons_succ, Nat.zero_add, Nat.reduceAdd]
  rw [f0, f1, f2, f3, f4, f5, f6, f7, f8, f9]
  clear hF hD f0 f1 f2 f3 f4 f5 f6 f7 f8 f9
  have hs8 := hz8
  have hs9 := (hz9).farRow (k := g1_8) (by omega) (nums (v1))
  have hBW := below_setRow (below_setRow (hb) (g := g1_8) hg8 (nums (v1))) (g := g1_9) hg9 (nums (v2))
  have hv_v1 := ((hz8).setRow (nums (v1))).farRow (k := g1_9) (by omega) (nums (v2))
  have hv_v2 := ((hz9).farRow (k := g1_8) (by omega) (nums (v1))).setRow (nums (v2))
  replace hA := hA.after hBW
  replace hG := hG.after hBW
  replace hb0 := below_trans hb0 hBW
  go_wp2_with (first | refine wpList_store_row rfl 30 _ _ rfl g1_8 _ rfl rfl 30 (nums 0) hs8 (infoNum _) (by simp only [nums_size]) (tab_oneCell _ _ fun _ => rfl) ?_ | (refine wpList_store_row rfl 30 _ _ rfl g1_9 _ rfl rfl 30 (nums 0) hs9 (infoNum _) (by simp only [nums_size]) (tab_oneCell _ _ fun _ => rfl) ?_; generalize hWW : World.setRow _ g1_9 _ = U1 at *; clear hWW))
  clear hBW hb hs8 hz8 hl8 hs9 hz9 hl9
  have ohv_v1_2 := hv_v1.lt
  have ohv_v2_2 := hv_v2.lt
  have ohA_2 := hA.lt
  have ohG_2 := hG.lt
  refine region_facts 8 [] [.val (.pointer (some ⟨f, 0, none⟩)), .val (.pointer (some ⟨f, 0, none⟩)), .val (.agg (nums (v1))), .val (.agg (nums (v1))), .val (.agg (nums (v3))), .val (.agg (nums (v1))), .val (.agg (nums (v4))), .new 30 (nums 0)]
    (by kernel_rfl) (by kernel_rfl) (fun _ _ _ _ _ h => h) ?_ ?_
  · simp only [List.take_succ_cons, List.take_zero, StepsOK]
    refine ⟨?_, ?_, ?_, ?_, ?_, ?_, ?_, ?_, trivial⟩
    · intro v w' hb hf K hKt
      simp only [putAll, Act.put, List.setIfInBounds_toArray, List.set_cons_zero, List.set_cons_succ, Nat.zero_add, Nat.reduceAdd] at hKt ⊢
      go_simp
      exact hKt _ (Below.refl _ _)
    · intro v w' hb hf K hKt
      simp only [putAll, Act.put, List.setIfInBounds_toArray, List.set_cons_zero, List.set_cons_succ, Nat.zero_add, Nat.reduceAdd] at hKt ⊢
      go_simp
      exact hKt _ (Below.refl _ _)
    · intro v w' hb hf K hKt
      simp only [putAll, Act.put, List.setIfInBounds_toArray, List.set_cons_zero, List.set_cons_succ, Nat.zero_add, Nat.reduceAdd] at hKt ⊢
      exact wp_load_row 30 _ rfl (g1_8) rfl 30 _ (0, 0) _ (hv_v1.after hb) Tryd.underlying30 rfl (infoNum _) (hKt _ (Below.refl _ _))
    · intro v w' hb hf K hKt
      simp only [putAll, Act.put, List.setIfInBounds_toArray, List.set_cons_zero, List.set_cons_succ, Nat.zero_add, Nat.reduceAdd] at hKt ⊢
      exact wp_load_row 30 _ rfl (g1_8) rfl 30 _ (0, 0) _ (hv_v1.after hb) Tryd.underlying30 rfl (infoNum _) (hKt _ (Below.refl _ _))
    · intro v w' hb hf K hKt
      have f1 : v 1 = _ := hf ⟨1, .data⟩ (by simp) rfl
      have f2 : v 2 = _ := hf ⟨2, .data⟩ (by simp) rfl
      have f3 : v 3 = _ := hf ⟨3, .data⟩ (by simp) rfl
      simp only [putAll, Act.put, List.setIfInBounds_toArray, List.set_cons_zero, List.set_cons_succ, Nat.zero_add, Nat.reduceAdd] at hKt ⊢
      rw [f1, f2, f3] at hKt ⊢
      go_simp
      refine (kv3 w' (below_trans hb0 hb)).mono ?_
      rintro e w'' ⟨rfl, hb2⟩
      exact hKt _ hb2
    · intro v w' hb hf K hKt
      simp only [putAll, Act.put, List.setIfInBounds_toArray, List.set_cons_zero, List.set_cons_succ, Nat.zero_add, Nat.reduceAdd] at hKt ⊢
      exact wp_load_row 30 _ rfl (g1_8) rfl 30 _ (0, 0) _ (hv_v1.after hb) Tryd.underlying30 rfl (infoNum _) (hKt _ (Below.refl _ _))
    · intro v w' hb hf K hKt
      have f0 : v 0 = _ := hf ⟨0, .data⟩ (by simp) rfl
      have f4 : v 4 = _ := hf ⟨4, .data⟩ (by simp) rfl
      have f5 : v 5 = _ := hf ⟨5, .data⟩ (by simp) rfl
      simp only [putAll, Act.put, List.setIfInBounds_toArray, List.set_cons_zero, List.set_cons_succ, Nat.zero_add, Nat.reduceAdd] at hKt ⊢
      rw [f0, f4, f5] at hKt ⊢
      go_simp
      refine (kv4 w' (below_trans hb0 hb)).mono ?_
      rintro e w'' ⟨rfl, hb2⟩
      exact hKt _ hb2
    · exact ⟨rfl, rfl, zeroVN⟩
  intro v u2 hb hF hD
  have f0 : v 0 = _ := hF 0 (by decide)
  have f1 : v 1 = _ := hF 1 (by decide)
  have f2 : v 2 = _ := hF 2 (by decide)
  have f3 : v 3 = _ := hF 3 (by decide)
  have f4 : v 4 = _ := hF 4 (by decide)
  have f5 : v 5 = _ := hF 5 (by decide)
  have f6 : v 6 = _ := hF 6 (by decide)
  obtain ⟨g2_7, f7, hg7, hl7, hz7⟩ := hF 7 (by decide)
  replace hz7 : Has u2 g2_7 30 (nums 0) := hz7
  simp only [List.take_succ_cons, List.take_zero, List.drop_succ_cons, List.drop_zero, putAll, Act.put, List.setIfInBounds_toArray, List.set_cons_zero, List.set_cons_succ, Nat.zero_add, Nat.reduceAdd]
  rw [f0, f1, f2, f3, f4, f5, f6, f7]
  clear hF hD f0 f1 f2 f3 f4 f5 f6 f7
  have hs7 := hz7
  have hBW := below_setRow (hb) (g := g2_7) hg7 (nums (v4))
  have hv_v4 := (hz7).setRow (nums (v4))
  replace hv_v1 := hv_v1.after hBW
  replace hv_v2 := hv_v2.after hBW
  replace hA := hA.after hBW
  replace hG := hG.after hBW
  replace hb0 := below_trans hb0 hBW
  go_wp2_with (first | (refine wpList_store_row rfl 30 _ _ rfl g2_7 _ rfl rfl 30 (nums 0) hs7 (infoNum _) (by simp only [nums_size]) (tab_oneCell _ _ fun _ => rfl) ?_; generalize hWW : World.setRow _ g2_7 _ = U2 at *; clear hWW))
  clear hBW hb hs7 hz7 hl7
  refine region_quiet_tail (Below U2.heap.size U2) 17 (by kernel_rfl) (by kernel_rfl) (below_drewN (Below.refl _ _) 1) ?_
  simp only [List.take_succ_cons, List.take_zero, List.drop_succ_cons, List.drop_zero]
  refine wpQ_move _ rfl rfl (.pointer (some ⟨f, 0, none⟩)) rfl ?_
  simp only [Act.put, List.setIfInBounds_toArray, List.set_cons_zero, List.set_cons_succ]
  refine wpQ_has 30 _ rfl _ rfl rfl 30 _ (fun w' hC => hv_v2.after hC) _ Tryd.underlying30 rfl (infoNum _) ?_
  simp only [Act.put, List.setIfInBounds_toArray, List.set_cons_zero, List.set_cons_succ]
  refine wpQ_has 30 _ rfl _ rfl rfl 30 _ (fun w' hC => hv_v2.after hC) _ Tryd.underlying30 rfl (infoNum _) ?_
  simp only [Act.put, List.setIfInBounds_toArray, List.set_cons_zero, List.set_cons_succ]
  refine wpQ_fn 65 _ _ rfl rfl #[.pointer (some ⟨f, 0, none⟩), .agg (nums (v2)), .agg (nums (v2))] rfl (fun _ => by go_simp) (.agg (nums (v5))) (fun w' hC => (kv5 w' (below_trans hb0 hC)).mono fun e w'' ⟨he, hb⟩ => ⟨he, below_class hC hb⟩) ?_
  simp only [Act.put, List.setIfInBounds_toArray, List.set_cons_zero, List.set_cons_succ]
  refine wpQ_move _ rfl rfl (.pointer (some ⟨f, 0, none⟩)) rfl ?_
  simp only [Act.put, List.setIfInBounds_toArray, List.set_cons_zero, List.set_cons_succ]
  refine wpQ_move _ rfl rfl (.pointer (some ⟨f, 0, none⟩)) rfl ?_
  simp only [Act.put, List.setIfInBounds_toArray, List.set_cons_zero, List.set_cons_succ]
  refine wpQ_has 30 _ rfl _ rfl rfl 30 _ (fun w' hC => hv_v4.after hC) _ Tryd.underlying30 rfl (infoNum _) ?_
  simp only [Act.put, List.setIfInBounds_toArray, List.set_cons_zero, List.set_cons_succ]
  refine wpQ_move _ rfl rfl (.pointer (some ⟨g, 0, none⟩)) rfl ?_
  simp only [Act.put, List.setIfInBounds_toArray, List.set_cons_zero, List.set_cons_succ]
  refine wpQ_has 30 _ rfl _ rfl rfl 30 _ (fun w' hC => hv_v1.after hC) _ Tryd.underlying30 rfl (infoNum _) ?_
  simp only [Act.put, List.setIfInBounds_toArray, List.set_cons_zero, List.set_cons_succ]
  refine wpQ_fn 68 _ _ rfl rfl #[.pointer (some ⟨g, 0, none⟩), .agg (nums (v1))] rfl (fun _ => by go_simp) (.agg (nums (v6))) (fun w' hC => (kv6 w' (below_trans hb0 hC)).mono fun e w'' ⟨he, hb⟩ => ⟨he, below_class hC hb⟩) ?_
  simp only [Act.put, List.setIfInBounds_toArray, List.set_cons_zero, List.set_cons_succ]
  refine wpQ_fn 67 _ _ rfl rfl #[.pointer (some ⟨f, 0, none⟩), .agg (nums (v4)), .agg (nums (v6))] rfl (fun _ => by go_simp) (.agg (nums (v7))) (fun w' hC => (kv7 w' (below_trans hb0 hC)).mono fun e w'' ⟨he, hb⟩ => ⟨he, below_class hC hb⟩) ?_
  simp only [Act.put, List.setIfInBounds_toArray, List.set_cons_zero, List.set_cons_succ]
  refine wpQ_move _ rfl rfl (.pointer (some ⟨g, 0, none⟩)) rfl ?_
  simp only [Act.put, List.setIfInBounds_toArray, List.set_cons_zero, List.set_cons_succ]
  refine wpQ_val rfl (.pointer (some ⟨g, 0, none⟩)) (fun w' _ => by go_simp) ?_
  simp only [Act.put, List.setIfInBounds_toArray, List.set_cons_zero, List.set_cons_succ]
  refine wpQ_val rfl (.pointer (some ⟨g, 1, none⟩)) (fun w' _ => by go_simp) ?_
  simp only [Act.put, List.setIfInBounds_toArray, List.set_cons_zero, List.set_cons_succ]
  refine wpQ_load_num rfl _ rfl (g) 1 rfl bm (fun w' hC => crv_b ((hG.after hC))) ?_
  simp only [Act.put, List.setIfInBounds_toArray, List.set_cons_zero, List.set_cons_succ]
  refine wpQ_fn 66 _ _ rfl rfl #[.pointer (some ⟨f, 0, none⟩), .agg (nums (v7)), .agg (nums (bm))] rfl (fun _ => by go_simp) (.agg (nums (v8))) (fun w' hC => (kv8 w' (below_trans hb0 hC)).mono fun e w'' ⟨he, hb⟩ => ⟨he, below_class hC hb⟩) ?_
  simp only [Act.put, List.setIfInBounds_toArray, List.set_cons_zero, List.set_cons_succ]
  refine wpQ_bin _ _ _ _ _ rfl rfl (.agg (nums (v5))) (.agg (nums (v8))) rfl rfl (.bool r) (fun w' _ => hEQ _ _ w') ?_
  simp only [Act.put, List.setIfInBounds_toArray, List.set_cons_zero, List.set_cons_succ]
  refine wpQuiet_nil ?_
  intro w9 hC
  replace hb0 := below_trans hb0 hC
  clear hC
  go_wp2_with fail
  go_ret
  exact ⟨rfl, hb0⟩
end Go.Proofs.YtflkhlhpifmocaaDoor
namespace Go.Proofs.YtflkhlhpifmocaaDoor
open Go.RowKit

theorem mul2 (o1 o2 : Operand) (b : Nat) (hb : b = 0 ∨ b = 1) (w : World) : (do eqGuard .mul 28 o1 o2 (.int .u32 2) (.int .u32 (b : Int)); binOp .mul 28 (.int .u32 2) (.int .u32 (b : Int)) : Sem Value).run Tryd.prog w = .ok (.int .u32 ((2 * b : Nat) : Int)) w := by
  rcases hb with rfl | rfl <;> (go_simp; rfl)
attribute [local go_sem] zeroNum zero24 zero17c
set_option maxRecDepth 100000 in
set_option maxHeartbeats 8000000 in
theorem two_walk (n n' g x1 y1 x2 y2 x3 y3 : Nat) (c1 c2 c3 : Bool) (s t b : T3) (F D E1 E2 E3 : Nat → T3) (w : World) (_hgw : g < w.heap.size)
    (kA : ∀ W, Below w.heap.size w W → Calls Tryd.prog 72 #[.pointer (some ⟨g, 0, none⟩), .agg (cpC x1 y1 c1)] W fun e w' => e = .returned (.agg (pjC s.x s.y s.z)) ∧ Below W.heap.size W w')
    (kB : ∀ W, Below w.heap.size w W → Calls Tryd.prog 72 #[.pointer (some ⟨g, 0, none⟩), .agg (cpC x2 y2 c2)] W fun e w' => e = .returned (.agg (pjC t.x t.y t.z)) ∧ Below W.heap.size W w')
    (kAB : ∀ W, Below w.heap.size w W → Calls Tryd.prog 73 #[.pointer (some ⟨g, 0, none⟩), .agg (pjC s.x s.y s.z), .agg (pjC t.x t.y t.z)] W fun e w' => e = .returned (.agg (pjC b.x b.y b.z)) ∧ Below W.heap.size W w')
    (kI : ∀ W, Below w.heap.size w W → Calls Tryd.prog 74 #[.pointer (some ⟨g, 0, none⟩)] W fun e w' => e = .returned (.agg (pjC (F 0).x (F 0).y (F 0).z)) ∧ Below W.heap.size W w')
    (kD : ∀ k W, Below w.heap.size w W → Calls Tryd.prog 73 #[.pointer (some ⟨g, 0, none⟩), .agg (pjC (F k).x (F k).y (F k).z), .agg (pjC (F k).x (F k).y (F k).z)] W fun e w' => e = .returned (.agg (pjC (D k).x (D k).y (D k).z)) ∧ Below W.heap.size W w')
    (k1 : ∀ k W, Below w.heap.size w W → Calls Tryd.prog 73 #[.pointer (some ⟨g, 0, none⟩), .agg (pjC (D k).x (D k).y (D k).z), .agg (pjC s.x s.y s.z)] W fun e w' => e = .returned (.agg (pjC (E1 k).x (E1 k).y (E1 k).z)) ∧ Below W.heap.size W w')
    (k2 : ∀ k W, Below w.heap.size w W → Calls Tryd.prog 73 #[.pointer (some ⟨g, 0, none⟩), .agg (pjC (D k).x (D k).y (D k).z), .agg (pjC t.x t.y t.z)] W fun e w' => e = .returned (.agg (pjC (E2 k).x (E2 k).y (E2 k).z)) ∧ Below W.heap.size W w')
    (k3 : ∀ k W, Below w.heap.size w W → Calls Tryd.prog 73 #[.pointer (some ⟨g, 0, none⟩), .agg (pjC (D k).x (D k).y (D k).z), .agg (pjC b.x b.y b.z)] W fun e w' => e = .returned (.agg (pjC (E3 k).x (E3 k).y (E3 k).z)) ∧ Below W.heap.size W w')
    (hF : ∀ k q, k < 256 → q + k = 255 → (bitN n q = 0 → bitN n' q = 0 → F (k + 1) = D k) ∧ (bitN n q = 1 → bitN n' q = 0 → F (k + 1) = E1 k) ∧ (bitN n q = 0 → bitN n' q = 1 → F (k + 1) = E2 k) ∧ (bitN n q = 1 → bitN n' q = 1 → F (k + 1) = E3 k))
    (kZ : ∀ W, Below w.heap.size w W → Calls Tryd.prog 75 #[.pointer (some ⟨g, 0, none⟩), .agg (pjC (F 256).x (F 256).y (F 256).z)] W fun e w' => e = .returned (.agg (cpC x3 y3 c3)) ∧ Below W.heap.size W w') :
    Calls Tryd.prog 44 #[.pointer (some ⟨g, 0, none⟩), .agg (nums n), .agg (cpC x1 y1 c1), .agg (nums n'), .agg (cpC x2 y2 c2)] w fun e w' => e = .returned (.agg (cpC x3 y3 c3)) ∧ Below w.heap.size w w' := by
  have HBN := Lib.hid (fun q W hq => bit_any n q W hq)
  have HBM := Lib.hid (fun q W hq => bit_any n' q W hq)
  have HF := Lib.hid hF
  clear hF
  have hN : Has (((((w.alloc (.cells (nums n) 30)).alloc (.cells (cpC x1 y1 c1) 32)).alloc (.cells (nums n') 30)).alloc (.cells (cpC x2 y2 c2) 32)).alloc (.cells (cpC 0 0 false) 32)) (w.heap.size) 30 (nums n) := (((((Has.new w _ _).alloc _).alloc _).alloc _).alloc _)
  have hA : Has (((((w.alloc (.cells (nums n) 30)).alloc (.cells (cpC x1 y1 c1) 32)).alloc (.cells (nums n') 30)).alloc (.cells (cpC x2 y2 c2) 32)).alloc (.cells (cpC 0 0 false) 32)) (w.heap.size + 1) 32 (cpC x1 y1 c1) := ((((Has.new' (by simp)).alloc _).alloc _).alloc _)
  have hM : Has (((((w.alloc (.cells (nums n) 30)).alloc (.cells (cpC x1 y1 c1) 32)).alloc (.cells (nums n') 30)).alloc (.cells (cpC x2 y2 c2) 32)).alloc (.cells (cpC 0 0 false) 32)) (w.heap.size + 1 + 1) 30 (nums n') := (((Has.new' (by simp)).alloc _).alloc _)
  have hB : Has (((((w.alloc (.cells (nums n) 30)).alloc (.cells (cpC x1 y1 c1) 32)).alloc (.cells (nums n') 30)).alloc (.cells (cpC x2 y2 c2) 32)).alloc (.cells (cpC 0 0 false) 32)) (w.heap.size + 1 + 1 + 1) 32 (cpC x2 y2 c2) := ((Has.new' (by simp)).alloc _)
  have hR : Has (((((w.alloc (.cells (nums n) 30)).alloc (.cells (cpC x1 y1 c1) 32)).alloc (.cells (nums n') 30)).alloc (.cells (cpC x2 y2 c2) 32)).alloc (.cells (cpC 0 0 false) 32)) (w.heap.size + 1 + 1 + 1 + 1) 32 (cpC 0 0 false) := (Has.new' (by simp))
  have hb0 : Below w.heap.size w (((((w.alloc (.cells (nums n) 30)).alloc (.cells (cpC x1 y1 c1) 32)).alloc (.cells (nums n') 30)).alloc (.cells (cpC x2 y2 c2) 32)).alloc (.cells (cpC 0 0 false) 32)) := ((((((Below.refl _ _).alloc (Nat.le_refl _) _).alloc (by simp <;> omega) _).alloc (by simp <;> omega) _).alloc (by simp <;> omega) _).alloc (by simp <;> omega) _)
  go_enter Tryd.func44, Tryd.ntmps44
  go_wp2_with fail
  generalize (World.alloc (World.alloc (World.alloc (World.alloc (World.alloc w _) _) _) _) _) = U0 at *
  have ohN := hN.lt
  have ohA := hA.lt
  have ohM := hM.lt
  have ohB := hB.lt
  have ohR := hR.lt
  refine region_facts 8 [] [.val (.pointer (some ⟨g, 0, none⟩)), .val (.agg (cpC x1 y1 c1)), .val (.agg (pjC s.x s.y s.z)), .val (.pointer (some ⟨g, 0, none⟩)), .val (.agg (cpC x2 y2 c2)), .val (.agg (pjC t.x t.y t.z)), .new 107 (pjC 0 0 0), .new 107 (pjC 0 0 0)]
    (by kernel_rfl) (by kernel_rfl) (fun _ _ _ _ _ h => h) ?_ ?_
  · simp only [List.take_succ_cons, List.take_zero, StepsOK]
    refine ⟨?_, ?_, ?_, ?_, ?_, ?_, ?_, ?_, trivial⟩
    · intro v w' hb hf K hKt
      simp only [putAll, Act.put, List.setIfInBounds_toArray, List.set_cons_zero, List.set_cons_succ, Nat.zero_add, Nat.reduceAdd] at hKt ⊢
      go_simp
      exact hKt _ (Below.refl _ _)
    · intro v w' hb hf K hKt
      simp only [putAll, Act.put, List.setIfInBounds_toArray, List.set_cons_zero, List.set_cons_succ, Nat.zero_add, Nat.reduceAdd] at hKt ⊢
      exact wp_load_row 32 _ rfl (w.heap.size + 1) rfl 32 _ (0, 0) _ (hA.after hb) Tryd.underlying32 rfl (infoCp _ _ _) (hKt _ (Below.refl _ _))
    · intro v w' hb hf K hKt
      have f0 : v 0 = _ := hf ⟨0, .data⟩ (by simp) rfl
      have f1 : v 1 = _ := hf ⟨1, .data⟩ (by simp) rfl
      simp only [putAll, Act.put, List.setIfInBounds_toArray, List.set_cons_zero, List.set_cons_succ, Nat.zero_add, Nat.reduceAdd] at hKt ⊢
      rw [f0, f1] at hKt ⊢
      go_simp
      refine (kA w' (below_trans hb0 hb)).mono ?_
      rintro e w'' ⟨rfl, hb2⟩
      exact hKt _ hb2
    · intro v w' hb hf K hKt
      simp only [putAll, Act.put, List.setIfInBounds_toArray, List.set_cons_zero, List.set_cons_succ, Nat.zero_add, Nat.reduceAdd] at hKt ⊢
      go_simp
      exact hKt _ (Below.refl _ _)
    · intro v w' hb hf K hKt
      simp only [putAll, Act.put, List.setIfInBounds_toArray, List.set_cons_zero, List.set_cons_succ, Nat.zero_add, Nat.reduceAdd] at hKt ⊢
      exact wp_load_row 32 _ rfl (w.heap.size + 1 + 1 + 1) rfl 32 _ (0, 0) _ (hB.after hb) Tryd.underlying32 rfl (infoCp _ _ _) (hKt _ (Below.refl _ _))
    · intro v w' hb hf K hKt
      have f3 : v 3 = _ := hf ⟨3, .data⟩ (by simp) rfl
      have f4 : v 4 = _ := hf ⟨4, .data⟩ (by simp) rfl
      simp only [putAll, Act.put, List.setIfInBounds_toArray, List.set_cons_zero, List.set_cons_succ, Nat.zero_add, Nat.reduceAdd] at hKt ⊢
      rw [f3, f4] at hKt ⊢
      go_simp
      refine (kB w' (below_trans hb0 hb)).mono ?_
      rintro e w'' ⟨rfl, hb2⟩
      exact hKt _ hb2
    · exact ⟨rfl, rfl, zeroVP⟩
    · exact ⟨rfl, rfl, zeroVP⟩
  intro v u1 hb hF hD
  have f0 : v 0 = _ := hF 0 (by decide)
  have f1 : v 1 = _ := hF 1 (by decide)
  have f2 : v 2 = _ := hF 2 (by decide)
  have f3 : v 3 = _ := hF 3 (by decide)
  have f4 : v 4 = _ := hF 4 (by decide)
  have f5 : v 5 = _ := hF 5 (by decide)
  obtain ⟨ga, f6, hg6, hl6, hz6⟩ := hF 6 (by decide)
  replace hz6 : Has u1 ga 107 (pjC 0 0 0) := hz6
  obtain ⟨gb, f7, hg7, hl7, hz7⟩ := hF 7 (by decide)
  replace hz7 : Has u1 gb 107 (pjC 0 0 0) := hz7
  have hne6_7 : ga ≠ gb := fun h => hD 6 7 (by decide) (by decide) (by decide) rfl rfl (by rw [f6, f7, h])
  simp only [List.take_succ_cons, List.take_zero, List.drop_succ_cons, List.drop_zero, putAll, Act.put, List.setIfInBounds_toArray, List.set_cons_zero, List.set_cons_succ, Nat.zero_add, Nat.reduceAdd]
  rw [f0, f1, f2, f3, f4, f5, f6, f7]
  clear hF hD f0 f1 f2 f3 f4 f5 f6 f7
  have hs6 := hz6
  have hs7 := (hz7).farRow (k := ga) (by omega) (pjC s.x s.y s.z)
  have hBW := below_setRow (below_setRow (hb) (g := ga) hg6 (pjC s.x s.y s.z)) (g := gb) hg7 (pjC t.x t.y t.z)
  have hS := ((hz6).setRow (pjC s.x s.y s.z)).farRow (k := gb) (by omega) (pjC t.x t.y t.z)
  have hT := ((hz7).farRow (k := ga) (by omega) (pjC s.x s.y s.z)).setRow (pjC t.x t.y t.z)
  replace hA := hA.after hBW
  replace hB := hB.after hBW
  replace hN := hN.after hBW
  replace hM := hM.after hBW
  replace hR := hR.after hBW
  replace hb0 := below_trans hb0 hBW
  go_wp2_with (first | refine wpList_store_row rfl 107 _ _ rfl ga _ rfl rfl 107 (pjC 0 0 0) hs6 (infoPj _ _ _) (by simp only [pjC_size]) (tab_oneCell _ _ fun _ => rfl) ?_ | (refine wpList_store_row rfl 107 _ _ rfl gb _ rfl rfl 107 (pjC 0 0 0) hs7 (infoPj _ _ _) (by simp only [pjC_size]) (tab_oneCell _ _ fun _ => rfl) ?_; generalize hWW : World.setRow _ gb _ = U1 at *; clear hWW) | refine wpList_load_has 107 _ rfl _ rfl rfl 107 _ hS _ Tryd.underlying107 rfl (infoPj _ _ _) ?_ | refine wpList_load_has 107 _ rfl _ rfl rfl 107 _ hT _ Tryd.underlying107 rfl (infoPj _ _ _) ?_)
  clear hBW hb hs6 hz6   hs7 hz7  
  refine (kAB _ hb0).mono ?_
  rintro e w2 ⟨rfl, hx⟩
  have hz := put_new w2 107 (pjC 0 0 0) (pjC b.x b.y b.z)
  have oS := (hS.after hx).lt
  have oT := (hT.after hx).lt
  have oR := (hR.after hx).lt
  replace hN := (hN.after hx).after hz.2; replace hM := (hM.after hx).after hz.2; replace hR := (hR.after hx).after hz.2; replace hS := (hS.after hx).after hz.2; replace hT := (hT.after hx).after hz.2
  replace hb0 := below_trans (below_trans hb0 hx) hz.2
  have hBt := hz.1
  clear hx hz kA kB kAB hA hB ohA ohB
  go_wp2_with (first | (refine wpList_store_row rfl 107 _ _ rfl (w2.heap.size) _ rfl rfl 107 (pjC 0 0 0) (Has.new' rfl) (infoPj _ _ _) (by simp only [pjC_size]) (tab_oneCell _ _ fun _ => rfl) ?_; generalize hWW : World.setRow _ w2.heap.size _ = U2 at *; clear hWW))
  refine (kI _ hb0).mono ?_
  rintro e w3 ⟨rfl, hx⟩
  have hz := put_new w3 107 (pjC 0 0 0) (pjC (F 0).x (F 0).y (F 0).z)
  replace oS := (hS.after hx).lt
  replace oT := (hT.after hx).lt
  replace oR := (hR.after hx).lt
  have oB := (hBt.after hx).lt
  have oM := (hM.after hx).lt
  have oN := (hN.after hx).lt
  replace hN := (hN.after hx).after hz.2; replace hM := (hM.after hx).after hz.2; replace hR := (hR.after hx).after hz.2; replace hS := (hS.after hx).after hz.2; replace hT := (hT.after hx).after hz.2; replace hBt := (hBt.after hx).after hz.2
  replace hb0 := below_trans (below_trans hb0 hx) hz.2
  have hX := hz.1
  clear hx hz kI
  go_wp2_with (first | (refine wpList_store_row rfl 107 _ _ rfl (w3.heap.size) _ rfl rfl 107 (pjC 0 0 0) (Has.new' rfl) (infoPj _ _ _) (by simp only [pjC_size]) (tab_oneCell _ _ fun _ => rfl) ?_; generalize hWW : World.setRow _ w3.heap.size _ = U3 at *; clear hWW))
  generalize w2.heap.size = gt at *
  generalize w3.heap.size = gx at *
  clear ohN ohM ohR
  go_loopw [15, 16, 32] (fun _ _ vi wr => ∃ k : Nat, k ≤ 256 ∧ vi = .int .i64 (k : Int) ∧ Has wr w.heap.size 30 (nums n) ∧ Has wr (w.heap.size + 1 + 1) 30 (nums n') ∧ Has wr (w.heap.size + 1 + 1 + 1 + 1) 32 (cpC 0 0 false) ∧
      Has wr ga 107 (pjC s.x s.y s.z) ∧ Has wr gb 107 (pjC t.x t.y t.z) ∧ Has wr gt 107 (pjC b.x b.y b.z) ∧ Has wr gx 107 (pjC (F k).x (F k).y (F k).z) ∧ Below w.heap.size w wr) (fun _ _ vi _ => 256 - (intOf vi).toNat)
  case atStart => exact ⟨0, by omega, rfl, hN, hM, hR, hS, hT, hBt, hX, hb0⟩
  case round =>
    obtain ⟨k, hk, rfl, h1, h2, h3, h4, h5, h6, h7, hb⟩ := hrel
    clear hN hM hR hS hT hBt hX hb0
    by_cases hlt : k < 256
    · have dk : (k : Int) < 256 := by omega
      obtain ⟨q, hq⟩ : ∃ q, q + k = 255 := ⟨255 - k, by omega⟩
      have hqi : (255 : Int) - (k : Int) = (q : Int) := by omega
      have HQ := HF.out k q hlt hq
      have cN := fun W => HBN.out q W (by omega)
      have cM := fun W => HBM.out q W (by omega)
      have b01 := bitN_01 n q
      have b02 := bitN_01 n' q
      have hK := Lib.hid hk
      clear hk
      generalize bitN n q = d1 at *
      generalize bitN n' q = d2 at *
      have HQH := Lib.hid HQ
      clear HQ
      go_wp2_with (first | refine wpList_load_has 107 _ rfl _ rfl rfl 107 _ h7 _ Tryd.underlying107 rfl (infoPj _ _ _) ?_)
      refine (kD k _ hb).mono ?_
      rintro z w4 ⟨rfl, hx⟩
      replace h1 := h1.after hx; replace h2 := h2.after hx; replace h3 := h3.after hx; replace h4 := h4.after hx; replace h5 := h5.after hx; replace h6 := h6.after hx; replace h7 := h7.after hx; replace hb := below_trans hb hx
      clear hx
      have h7' := h7.setRow (pjC (D k).x (D k).y (D k).z)
      replace h1 := h1.farRow (k := gx) (by omega) (pjC (D k).x (D k).y (D k).z)
      replace h2 := h2.farRow (k := gx) (by omega) (pjC (D k).x (D k).y (D k).z)
      replace h3 := h3.farRow (k := gx) (by omega) (pjC (D k).x (D k).y (D k).z)
      replace h4 := h4.farRow (k := gx) (by omega) (pjC (D k).x (D k).y (D k).z)
      replace h5 := h5.farRow (k := gx) (by omega) (pjC (D k).x (D k).y (D k).z)
      replace h6 := h6.farRow (k := gx) (by omega) (pjC (D k).x (D k).y (D k).z)
      replace hb := below_setRow hb (g := gx) (by omega) (pjC (D k).x (D k).y (D k).z)
      go_wp2_with (first | (refine wpList_store_row rfl 107 _ _ rfl (gx) _ rfl rfl 107 _ h7 (infoPj _ _ _) (by simp only [pjC_size]) (tab_oneCell _ _ fun _ => rfl) ?_; generalize hWW : World.setRow _ gx _ = U7 at *; clear hWW))
      refine region_quiet_tail (Below U7.heap.size U7) 7 (by kernel_rfl) (by kernel_rfl) (below_drewN (Below.refl _ _) 1) ?_
      simp only [List.take_succ_cons, List.take_zero, List.drop_succ_cons, List.drop_zero]
      refine wpQ_has 30 _ rfl _ rfl rfl 30 _ (fun w' hC => h1.after hC) _ Tryd.underlying30 rfl (infoNum _) ?_
      simp only [Act.put, List.setIfInBounds_toArray, List.set_cons_zero, List.set_cons_succ]
      refine wpQ_move _ rfl rfl (.int .i64 (q : Int)) rfl ?_
      simp only [Act.put, List.setIfInBounds_toArray, List.set_cons_zero, List.set_cons_succ]
      refine wpQ_fn 60 _ _ rfl rfl #[.agg (nums n), .int .i64 (q : Int)] rfl (fun _ => by go_simp) (.int .u32 (d1 : Int)) (fun w' hC => (cN w').mono fun e w'' ⟨he, hb⟩ => ⟨he, below_class hC hb⟩) ?_
      simp only [Act.put, List.setIfInBounds_toArray, List.set_cons_zero, List.set_cons_succ]
      refine wpQ_has 30 _ rfl _ rfl rfl 30 _ (fun w' hC => h2.after hC) _ Tryd.underlying30 rfl (infoNum _) ?_
      simp only [Act.put, List.setIfInBounds_toArray, List.set_cons_zero, List.set_cons_succ]
      refine wpQ_move _ rfl rfl (.int .i64 (q : Int)) rfl ?_
      simp only [Act.put, List.setIfInBounds_toArray, List.set_cons_zero, List.set_cons_succ]
      refine wpQ_fn 60 _ _ rfl rfl #[.agg (nums n'), .int .i64 (q : Int)] rfl (fun _ => by go_simp) (.int .u32 (d2 : Int)) (fun w' hC => (cM w').mono fun e w'' ⟨he, hb⟩ => ⟨he, below_class hC hb⟩) ?_
      simp only [Act.put, List.setIfInBounds_toArray, List.set_cons_zero, List.set_cons_succ]
      refine wpQ_bin _ _ _ _ _ rfl rfl (.int .u32 2) (.int .u32 (d2 : Int)) rfl rfl (.int .u32 ((2 * d2 : Nat) : Int)) (fun w' _ => mul2 _ _ d2 b02 w') ?_
      simp only [Act.put, List.setIfInBounds_toArray, List.set_cons_zero, List.set_cons_succ]
      refine wpQuiet_nil ?_
      intro w5 hC
      replace h1 := h1.after hC; replace h2 := h2.after hC; replace h3 := h3.after hC; replace h4 := h4.after hC; replace h5 := h5.after hC; replace h6 := h6.after hC; replace h7' := h7'.after hC; replace hb := below_trans hb hC
      clear hC cN cM h7
      rcases b01 with rfl | rfl <;> rcases b02 with rfl | rfl
      · have e := HQH.out.1 rfl rfl
        clear HQH
        go_wp2_with fail
        go_roundw
        case rel => exact ⟨k + 1, by omega, by go_num, h1, h2, h3, h4, h5, h6, by rw [e]; exact h7', hb⟩
        case measure => simp [intOf]; omega
      · have e := HQH.out.2.2.1 rfl rfl
        clear HQH
        go_wp2_with (first | refine wpList_load_has 107 _ rfl _ rfl rfl 107 _ h7' _ Tryd.underlying107 rfl (infoPj _ _ _) ?_ | refine wpList_load_has 107 _ rfl _ rfl rfl 107 _ h5 _ Tryd.underlying107 rfl (infoPj _ _ _) ?_)
        refine (k2 k _ hb).mono ?_
        rintro z w6 ⟨rfl, hx⟩
        replace h1 := h1.after hx; replace h2 := h2.after hx; replace h3 := h3.after hx; replace h4 := h4.after hx; replace h5 := h5.after hx; replace h6 := h6.after hx; replace h7' := h7'.after hx; replace hb := below_trans hb hx
        clear hx
        have h8 := h7'.setRow (pjC (E2 k).x (E2 k).y (E2 k).z)
        replace h1 := h1.farRow (k := gx) (by omega) (pjC (E2 k).x (E2 k).y (E2 k).z)
        replace h2 := h2.farRow (k := gx) (by omega) (pjC (E2 k).x (E2 k).y (E2 k).z)
        replace h3 := h3.farRow (k := gx) (by omega) (pjC (E2 k).x (E2 k).y (E2 k).z)
        replace h4 := h4.farRow (k := gx) (by omega) (pjC (E2 k).x (E2 k).y (E2 k).z)
        replace h5 := h5.farRow (k := gx) (by omega) (pjC (E2 k).x (E2 k).y (E2 k).z)
        replace h6 := h6.farRow (k := gx) (by omega) (pjC (E2 k).x (E2 k).y (E2 k).z)
        replace hb := below_setRow hb (g := gx) (by omega) (pjC (E2 k).x (E2 k).y (E2 k).z)
        go_wp2_with (first | refine wpList_store_row rfl 107 _ _ rfl (gx) _ rfl rfl 107 _ h7' (infoPj _ _ _) (by simp only [pjC_size]) (tab_oneCell _ _ fun _ => rfl) ?_)
        go_roundw
        case rel => exact ⟨k + 1, by omega, by go_num, h1, h2, h3, h4, h5, h6, by rw [e]; exact h8, hb⟩
        case measure => simp [intOf]; omega
      · have e := HQH.out.2.1 rfl rfl
        clear HQH
        go_wp2_with (first | refine wpList_load_has 107 _ rfl _ rfl rfl 107 _ h7' _ Tryd.underlying107 rfl (infoPj _ _ _) ?_ | refine wpList_load_has 107 _ rfl _ rfl rfl 107 _ h4 _ Tryd.underlying107 rfl (infoPj _ _ _) ?_)
        refine (k1 k _ hb).mono ?_
        rintro z w6 ⟨rfl, hx⟩
        replace h1 := h1.after hx; replace h2 := h2.after hx; replace h3 := h3.after hx; replace h4 := h4.after hx; replace h5 := h5.after hx; replace h6 := h6.after hx; replace h7' := h7'.after hx; replace hb := below_trans hb hx
        clear hx
        have h8 := h7'.setRow (pjC (E1 k).x (E1 k).y (E1 k).z)
        replace h1 := h1.farRow (k := gx) (by omega) (pjC (E1 k).x (E1 k).y (E1 k).z)
        replace h2 := h2.farRow (k := gx) (by omega) (pjC (E1 k).x (E1 k).y (E1 k).z)
        replace h3 := h3.farRow (k := gx) (by omega) (pjC (E1 k).x (E1 k).y (E1 k).z)
        replace h4 := h4.farRow (k := gx) (by omega) (pjC (E1 k).x (E1 k).y (E1 k).z)
        replace h5 := h5.farRow (k := gx) (by omega) (pjC (E1 k).x (E1 k).y (E1 k).z)
        replace h6 := h6.farRow (k := gx) (by omega) (pjC (E1 k).x (E1 k).y (E1 k).z)
        replace hb := below_setRow hb (g := gx) (by omega) (pjC (E1 k).x (E1 k).y (E1 k).z)
        go_wp2_with (first | refine wpList_store_row rfl 107 _ _ rfl (gx) _ rfl rfl 107 _ h7' (infoPj _ _ _) (by simp only [pjC_size]) (tab_oneCell _ _ fun _ => rfl) ?_)
        go_roundw
        case rel => exact ⟨k + 1, by omega, by go_num, h1, h2, h3, h4, h5, h6, by rw [e]; exact h8, hb⟩
        case measure => simp [intOf]; omega
      · have e := HQH.out.2.2.2 rfl rfl
        clear HQH
        go_wp2_with (first | refine wpList_load_has 107 _ rfl _ rfl rfl 107 _ h7' _ Tryd.underlying107 rfl (infoPj _ _ _) ?_ | refine wpList_load_has 107 _ rfl _ rfl rfl 107 _ h6 _ Tryd.underlying107 rfl (infoPj _ _ _) ?_)
        refine (k3 k _ hb).mono ?_
        rintro z w6 ⟨rfl, hx⟩
        replace h1 := h1.after hx; replace h2 := h2.after hx; replace h3 := h3.after hx; replace h4 := h4.after hx; replace h5 := h5.after hx; replace h6 := h6.after hx; replace h7' := h7'.after hx; replace hb := below_trans hb hx
        clear hx
        have h8 := h7'.setRow (pjC (E3 k).x (E3 k).y (E3 k).z)
        replace h1 := h1.farRow (k := gx) (by omega) (pjC (E3 k).x (E3 k).y (E3 k).z)
        replace h2 := h2.farRow (k := gx) (by omega) (pjC (E3 k).x (E3 k).y (E3 k).z)
        replace h3 := h3.farRow (k := gx) (by omega) (pjC (E3 k).x (E3 k).y (E3 k).z)
        replace h4 := h4.farRow (k := gx) (by omega) (pjC (E3 k).x (E3 k).y (E3 k).z)
        replace h5 := h5.farRow (k := gx) (by omega) (pjC (E3 k).x (E3 k).y (E3 k).z)
        replace h6 := h6.farRow (k := gx) (by omega) (pjC (E3 k).x (E3 k).y (E3 k).z)
        replace hb := below_setRow hb (g := gx) (by omega) (pjC (E3 k).x (E3 k).y (E3 k).z)
        go_wp2_with (first | refine wpList_store_row rfl 107 _ _ rfl (gx) _ rfl rfl 107 _ h7' (infoPj _ _ _) (by simp only [pjC_size]) (tab_oneCell _ _ fun _ => rfl) ?_)
        go_roundw
        case rel => exact ⟨k + 1, by omega, by go_num, h1, h2, h3, h4, h5, h6, by rw [e]; exact h8, hb⟩
        case measure => simp [intOf]; omega
    · have hk8 : k = 256 := by omega
      have dk : ¬ (k : Int) < 256 := by omega
      rw [hk8] at h7
      clear hlt hk hk8 h1 h2
      go_wp2_with (first | refine wpList_load_has 107 _ rfl _ rfl rfl 107 _ h7 _ Tryd.underlying107 rfl (infoPj _ _ _) ?_)
      refine (kZ _ hb).mono ?_
      rintro z w4 ⟨rfl, hx⟩
      replace h3 := h3.after hx
      replace hb := below_trans hb hx
      clear hx
      go_wp2_with (first | refine wpList_store_row rfl 32 _ _ rfl (w.heap.size + 1 + 1 + 1 + 1) _ rfl rfl 32 _ h3 (infoCp _ _ _) (by simp only [cpC_size]) (cpC_one _ _ _) ?_)
      exact bodyPost_ret (v := .agg (cpC x3 y3 c3)) (results_cell_row rfl _ _ (w.heap.size + 1 + 1 + 1 + 1) 32 _ _ _ rfl (h3.setRow _) Tryd.underlying32 rfl (infoCp _ _ _)) rfl ⟨rfl, below_setRow hb (by omega) _⟩
end Go.Proofs.YtflkhlhpifmocaaDoor
namespace Go.Proofs.YtflkhlhpifmocaaDoor
open Go.RowKit

theorem Ec.mid4 {A B C D : Ec.Pnt} (hA : Ec.OnP A) (hB : Ec.OnP B) (hC : Ec.OnP C) (hD : Ec.OnP D) : Ec.plus (Ec.plus A B) (Ec.plus C D) = Ec.plus (Ec.plus A C) (Ec.plus B D) := by
  rw [Ec.plus_assoc hA hB (Ec.plus_on hC hD), ← Ec.plus_assoc hB hC hD, Ec.plus_comm hB hC, Ec.plus_assoc hC hB hD, ← Ec.plus_assoc hA hC (Ec.plus_on hB hD)]
theorem Ec.step2 {P Q : Ec.Pnt} (hP : Ec.OnP P) (hQ : Ec.OnP Q) (a b d e : Nat) :
    Ec.plus (Ec.plus (Ec.plus (Ec.smul a P) (Ec.smul b Q)) (Ec.plus (Ec.smul a P) (Ec.smul b Q))) (Ec.plus (Ec.smul d P) (Ec.smul e Q)) = Ec.plus (Ec.smul (2 * a + d) P) (Ec.smul (2 * b + e) Q) := by
  have h1 := Ec.smul_on hP a
  have h2 := Ec.smul_on hQ b
  rw [Ec.mid4 h1 h2 h1 h2, ← Ec.smul_two hP, ← Ec.smul_two hQ, Ec.mid4 (Ec.smul_on hP _) (Ec.smul_on hQ _) (Ec.smul_on hP _) (Ec.smul_on hQ _), ← Ec.smul_add hP, ← Ec.smul_add hQ]
noncomputable def twoF (m bm n n' : Nat) (s t b : T3) : Nat → T3
  | 0 => ⟨0, RR % m, 0⟩
  | k + 1 => if bitN n (255 - k) = 1 then (if bitN n' (255 - k) = 1 then sumC m bm (sumC m bm (twoF m bm n n' s t b k) (twoF m bm n n' s t b k)) b else sumC m bm (sumC m bm (twoF m bm n n' s t b k) (twoF m bm n n' s t b k)) s)
      else (if bitN n' (255 - k) = 1 then sumC m bm (sumC m bm (twoF m bm n n' s t b k) (twoF m bm n n' s t b k)) t else sumC m bm (twoF m bm n n' s t b k) (twoF m bm n n' s t b k))
section
variable {m bm n n' : Nat} {s t b : T3} (hmp : m = Ec.pp) (lbm : bm < m) (hbm : mo bm = Ec.cB) (hs : s.ok m) (ht : t.ok m) (hb : b.ok m)
include hmp lbm hbm hs ht hb
theorem twoF_ok : ∀ k, (twoF m bm n n' s t b k).ok m
  | 0 => prjT_ok (by rw [hmp]; decide) none
  | k + 1 => by
    have h0 := twoF_ok k
    have h1 := (sumC_is hmp lbm hbm h0 h0).1
    unfold twoF
    by_cases c1 : bitN n (255 - k) = 1 <;> by_cases c2 : bitN n' (255 - k) = 1
    · rw [if_pos c1, if_pos c2]; exact (sumC_is hmp lbm hbm h1 hb).1
    · rw [if_pos c1, if_neg c2]; exact (sumC_is hmp lbm hbm h1 hs).1
    · rw [if_neg c1, if_pos c2]; exact (sumC_is hmp lbm hbm h1 ht).1
    · rw [if_neg c1, if_neg c2]; exact h1
theorem twoF_rep {P Q : Ec.Pnt} (oP : Ec.OnP P) (oQ : Ec.OnP Q) (rs : s.rep P) (rt : t.rep Q) (rb : b.rep (Ec.plus P Q)) (hn : n < big) (hn' : n' < big) :
    ∀ k, k ≤ 256 → (twoF m bm n n' s t b k).rep (Ec.plus (Ec.smul (n / 2 ^ (256 - k)) P) (Ec.smul (n' / 2 ^ (256 - k)) Q))
  | 0, _ => by
    rw [big_2] at hn hn'
    rw [Nat.sub_zero, Nat.div_eq_of_lt hn, Nat.div_eq_of_lt hn']
    exact prjT_rep hmp none
  | k + 1, hk => by
    have h0 := twoF_ok (n := n) (n' := n') hmp lbm hbm hs ht hb k
    have r0 := twoF_rep oP oQ rs rt rb hn hn' k (by omega)
    have s1 := sumC_is hmp lbm hbm h0 h0
    have h1 := s1.1
    have o0 := Ec.plus_on (Ec.smul_on oP (n / 2 ^ (256 - k))) (Ec.smul_on oQ (n' / 2 ^ (256 - k)))
    have r1 := s1.2.1 _ _ o0 o0 r0 r0
    have o1 := Ec.plus_on o0 o0
    have st := Ec.step2 oP oQ (n / 2 ^ (256 - k)) (n' / 2 ^ (256 - k)) (bitN n (255 - k)) (bitN n' (255 - k))
    rw [exp_bit n k (by omega), exp_bit n' k (by omega), ← st]
    unfold twoF
    rcases bitN_01 n (255 - k) with c1 | c1 <;> rcases bitN_01 n' (255 - k) with c2 | c2
    · rw [c1, c2, if_neg (by decide), if_neg (by decide)]
      exact (show Ec.plus _ (Ec.plus none none) = _ from Ec.add_none _ _).symm ▸ r1
    · rw [c1, c2, if_neg (by decide), if_pos rfl]
      exact (sumC_is hmp lbm hbm h1 ht).2.1 _ _ o1 oQ r1 rt
    · rw [c1, c2, if_pos rfl, if_neg (by decide)]
      have e : Ec.plus (Ec.smul 1 P) (Ec.smul 0 Q) = P := Ec.add_none _ _
      rw [e]
      exact (sumC_is hmp lbm hbm h1 hs).2.1 _ _ o1 oP r1 rs
    · rw [c1, c2, if_pos rfl, if_pos rfl]
      exact (sumC_is hmp lbm hbm h1 hb).2.1 _ _ o1 (Ec.plus_on oP oQ) r1 rb
end
theorem IsCrv.lt {m bm : Nat} {w : World} {g : Nat} (h : IsCrv m bm w g) : g < w.heap.size := by
  obtain ⟨f, h1, h2, h3⟩ := h
  exact h1.lt
theorem ctwo_any (n n' m bm g : Nat) (P Q : Ec.Pnt) (w : World) (hI : IsCrv m bm w g) (hmp : m = Ec.pp) (lbm : bm < m) (hbm : mo bm = Ec.cB) (hn : n < big) (hn' : n' < big) (oP : Ec.OnP P) (oQ : Ec.OnP Q) :
    Calls Tryd.prog 44 #[.pointer (some ⟨g, 0, none⟩), .agg (nums n), cpV P, .agg (nums n'), cpV Q] w fun e w' => e = .returned (cpV (Ec.plus (Ec.smul n P) (Ec.smul n' Q))) ∧ Below w.heap.size w w' := by
  have m0 : 0 < m := by rw [hmp]; decide
  have os := prjT_ok m0 P
  have ot := prjT_ok m0 Q
  have sb := sumC_is hmp lbm hbm os ot
  have rb := sb.2.1 P Q oP oQ (prjT_rep hmp P) (prjT_rep hmp Q)
  have hok := fun k => twoF_ok (n := n) (n' := n') hmp lbm hbm os ot sb.1 k
  have hD := fun k => sumC_is hmp lbm hbm (hok k) (hok k)
  have hrep := twoF_rep hmp lbm hbm os ot sb.1 oP oQ (prjT_rep hmp P) (prjT_rep hmp Q) rb hn hn' 256 (Nat.le_refl _)
  rw [Nat.sub_self, Nat.pow_zero, Nat.div_one, Nat.div_one] at hrep
  refine two_walk n n' g _ _ _ _ _ _ _ _ _ (prjT m P) (prjT m Q) (sumC m bm (prjT m P) (prjT m Q)) (twoF m bm n n' (prjT m P) (prjT m Q) (sumC m bm (prjT m P) (prjT m Q)))
    (fun k => sumC m bm (twoF m bm n n' (prjT m P) (prjT m Q) (sumC m bm (prjT m P) (prjT m Q)) k) (twoF m bm n n' (prjT m P) (prjT m Q) (sumC m bm (prjT m P) (prjT m Q)) k))
    (fun k => sumC m bm (sumC m bm (twoF m bm n n' (prjT m P) (prjT m Q) (sumC m bm (prjT m P) (prjT m Q)) k) (twoF m bm n n' (prjT m P) (prjT m Q) (sumC m bm (prjT m P) (prjT m Q)) k)) (prjT m P))
    (fun k => sumC m bm (sumC m bm (twoF m bm n n' (prjT m P) (prjT m Q) (sumC m bm (prjT m P) (prjT m Q)) k) (twoF m bm n n' (prjT m P) (prjT m Q) (sumC m bm (prjT m P) (prjT m Q)) k)) (prjT m Q))
    (fun k => sumC m bm (sumC m bm (twoF m bm n n' (prjT m P) (prjT m Q) (sumC m bm (prjT m P) (prjT m Q)) k) (twoF m bm n n' (prjT m P) (prjT m Q) (sumC m bm (prjT m P) (prjT m Q)) k)) (sumC m bm (prjT m P) (prjT m Q)))
    w hI.lt (fun W h => toProj_any P m bm g W (hI.after h)) (fun W h => toProj_any Q m bm g W (hI.after h)) (fun W h => sb.2.2 g W (hI.after h)) (fun W h => infinity_any m bm g W (hI.after h))
    (fun k W h => (hD k).2.2 g W (hI.after h)) (fun k W h => (sumC_is hmp lbm hbm (hD k).1 os).2.2 g W (hI.after h)) (fun k W h => (sumC_is hmp lbm hbm (hD k).1 ot).2.2 g W (hI.after h)) (fun k W h => (sumC_is hmp lbm hbm (hD k).1 sb.1).2.2 g W (hI.after h)) ?_
    (fun W h => toAff_any _ _ m bm g W (hI.after h) hmp (hok 256) hrep)
  intro k q hk hq
  have e : 255 - k = q := by omega
  refine ⟨fun c1 c2 => ?_, fun c1 c2 => ?_, fun c1 c2 => ?_, fun c1 c2 => ?_⟩
  · show twoF m bm n n' _ _ _ (k + 1) = _
    rw [twoF, e, c1, c2, if_neg (by decide), if_neg (by decide)]
  · show twoF m bm n n' _ _ _ (k + 1) = _
    rw [twoF, e, c1, c2, if_pos rfl, if_neg (by decide)]
  · show twoF m bm n n' _ _ _ (k + 1) = _
    rw [twoF, e, c1, c2, if_neg (by decide), if_pos rfl]
  · show twoF m bm n n' _ _ _ (k + 1) = _
    rw [twoF, e, c1, c2, if_pos rfl, if_pos rfl]
attribute [local go_sem] zeroNum zero24 zero17c
set_option maxRecDepth 100000 in
set_option maxHeartbeats 4000000 in
theorem two_nil_any (n n' x1 y1 x2 y2 : Nat) (c1 c2 : Bool) (w : World) : Calls Tryd.prog 44 #[.pointer none, .agg (nums n), .agg (cpC x1 y1 c1), .agg (nums n'), .agg (cpC x2 y2 c2)] w fun e w' => e = .returned (.agg (cpC 0 0 true)) ∧ Below w.heap.size w w' := by
  have hN : Has (((((w.alloc (.cells (nums n) 30)).alloc (.cells (cpC x1 y1 c1) 32)).alloc (.cells (nums n') 30)).alloc (.cells (cpC x2 y2 c2) 32)).alloc (.cells (cpC 0 0 false) 32)) (w.heap.size) 30 (nums n) := (((((Has.new w _ _).alloc _).alloc _).alloc _).alloc _)
  have hA : Has (((((w.alloc (.cells (nums n) 30)).alloc (.cells (cpC x1 y1 c1) 32)).alloc (.cells (nums n') 30)).alloc (.cells (cpC x2 y2 c2) 32)).alloc (.cells (cpC 0 0 false) 32)) (w.heap.size + 1) 32 (cpC x1 y1 c1) := ((((Has.new' (by simp)).alloc _).alloc _).alloc _)
  have hM : Has (((((w.alloc (.cells (nums n) 30)).alloc (.cells (cpC x1 y1 c1) 32)).alloc (.cells (nums n') 30)).alloc (.cells (cpC x2 y2 c2) 32)).alloc (.cells (cpC 0 0 false) 32)) (w.heap.size + 1 + 1) 30 (nums n') := (((Has.new' (by simp)).alloc _).alloc _)
  have hB : Has (((((w.alloc (.cells (nums n) 30)).alloc (.cells (cpC x1 y1 c1) 32)).alloc (.cells (nums n') 30)).alloc (.cells (cpC x2 y2 c2) 32)).alloc (.cells (cpC 0 0 false) 32)) (w.heap.size + 1 + 1 + 1) 32 (cpC x2 y2 c2) := ((Has.new' (by simp)).alloc _)
  have hR : Has (((((w.alloc (.cells (nums n) 30)).alloc (.cells (cpC x1 y1 c1) 32)).alloc (.cells (nums n') 30)).alloc (.cells (cpC x2 y2 c2) 32)).alloc (.cells (cpC 0 0 false) 32)) (w.heap.size + 1 + 1 + 1 + 1) 32 (cpC 0 0 false) := (Has.new' (by simp))
  have hb0 : Below w.heap.size w (((((w.alloc (.cells (nums n) 30)).alloc (.cells (cpC x1 y1 c1) 32)).alloc (.cells (nums n') 30)).alloc (.cells (cpC x2 y2 c2) 32)).alloc (.cells (cpC 0 0 false) 32)) := ((((((Below.refl _ _).alloc (Nat.le_refl _) _).alloc (by simp <;> omega) _).alloc (by simp <;> omega) _).alloc (by simp <;> omega) _).alloc (by simp <;> omega) _)
  go_enter Tryd.func44, Tryd.ntmps44
  go_wp2_with (first | refine wpList_parts rfl 32 _ rfl #[(2, .bool true)] (by simp only [List.map_toArray, List.map_cons, List.map_nil]; rfl) (.agg (cpC 0 0 true)) buildCN ?_ | refine wpList_store_row rfl 32 _ _ rfl (w.heap.size + 1 + 1 + 1 + 1) _ rfl rfl 32 _ hR (infoCp _ _ _) (by simp only [cpC_size]) (cpC_one _ _ _) ?_)
  exact bodyPost_ret (v := .agg (cpC 0 0 true)) (results_cell_row rfl _ _ (w.heap.size + 1 + 1 + 1 + 1) 32 _ _ _ rfl (hR.setRow _) Tryd.underlying32 rfl (infoCp _ _ _)) rfl ⟨rfl, below_setRow hb0 (by omega) _⟩
set_option maxRecDepth 100000 in
set_option maxHeartbeats 4000000 in
theorem on_nil_any (x y : Nat) (c : Bool) (w : World) : Calls Tryd.prog 37 #[.pointer none, .agg (cpC x y c)] w fun e w' => e = .returned (.bool false) ∧ Below w.heap.size w w' := by
  have hb0 : Below w.heap.size w (w.alloc (.cells (cpC x y c) 32)) := (Below.refl _ _).alloc (Nat.le_refl _) _
  go_enter Tryd.func37, Tryd.ntmps37
  go_wp2_with fail
  go_ret
  exact ⟨rfl, hb0⟩
theorem base_v : cpV Ec.baseP = .agg (cpC Ec.gX Ec.gY false) := by
  have e1 : cpX Ec.baseP = Ec.gX := by decide +kernel
  have e2 : cpY Ec.baseP = Ec.gY := by decide +kernel
  show Value.agg (cpC (cpX Ec.baseP) (cpY Ec.baseP) false) = _
  rw [e1, e2]
theorem on_all (x y : Nat) (b : Bool) (hx : x < big) (hy : y < big) : ∃ r : Bool, (r = true ↔ (b = false ∧ x < Ec.pp ∧ y < Ec.pp ∧ Ec.OnP (some (Ec.c x, Ec.c y)))) ∧
    ∀ w g, IsCurve w g → Calls Tryd.prog 37 #[.pointer (some ⟨g, 0, none⟩), .agg (cpC x y b)] w fun e w' => e = .returned (.bool r) ∧ Below w.heap.size w w' := by
  cases b with
  | true => exact ⟨false, ⟨fun h => Bool.noConfusion h, fun h => Bool.noConfusion h.1⟩, fun w g h => on_none x y _ _ g w h hx hy⟩
  | false =>
    by_cases hX : x < Ec.pp
    · by_cases hY : y < Ec.pp
      · obtain ⟨r, h1, h2⟩ := on_good x y Ec.pp bM hX hY pp_lt bM_lt rfl bM_mo
        exact ⟨r, h1.trans ⟨fun h => ⟨rfl, hX, hY, h⟩, fun h => h.2.2.2⟩, h2⟩
      · exact ⟨false, ⟨fun h => Bool.noConfusion h, fun h => absurd h.2.2.1 hY⟩, fun w g h => on_badY x y _ _ g w h hx hy hX hY⟩
    · exact ⟨false, ⟨fun h => Bool.noConfusion h, fun h => absurd h.2.1 hX⟩, fun w g h => on_badX x y _ _ g w h hx hy hX⟩
end Go.Proofs.YtflkhlhpifmocaaDoor
namespace Go.Proofs.YtflkhlhpifmocaaDoor
open Go
theorem abc : (shaOf [97, 98, 99] 0, shaOf [97, 98, 99] 1, shaOf [97, 98, 99] 31) = (186, 120, 173) := by decide +kernel
end Go.Proofs.YtflkhlhpifmocaaDoor
namespace Go.Proofs.YtflkhlhpifmocaaDoor
open Go.RowKit
attribute [local go_sem] zeros32b

set_option maxRecDepth 100000 in
set_option maxHeartbeats 1000000 in
theorem wp_build_zero {w : World} {ops : Array Oper} {rest : List Oper} {op : Oper} {a : Act} {Q : Exit → Act → World → Prop} (hg : op.guard = none) (ho : op.op = .build 62 #[])
    (h : wpList Tryd.prog ops Q rest (a.put op.dst (.agg (tab 32 zeroB))) w) : wpList Tryd.prog ops Q (op :: rest) a w := by
  have e : (Tryd.prog.built 62 []) = some (tab 32 zeroB) := by kernel_rfl
  refine wpList_build hg 62 #[] ho (by simp [e]) ?_
  simpa [e] using h
set_option maxRecDepth 100000 in
set_option maxHeartbeats 1000000 in
theorem sum_none (w : World) :
    Calls Tryd.prog 78 #[.pointer none] w fun e w' => e = .returned (.agg (tab 32 zeroB)) ∧ Below w.heap.size w w' := by
  have hz32 : (Tryd.prog.info? 62).map (·.size) = some (tab 32 zeroB).size := by rw [tab_size]; kernel_rfl
  go_enter Tryd.func78, Tryd.ntmps78
  go_wp2_with (first | refine wp_build_zero rfl rfl ?_ | refine wpList_store_row rfl 62 (.tmp 2) (.tmp 6) rfl w.heap.size (tab 32 zeroB) rfl rfl 62 _ (Has.new' rfl) hz32 rfl (tab_oneCell _ _ fun _ => rfl) ?_)
  exact bodyPost_ret (v := .agg (tab 32 zeroB)) (results_cell_row rfl _ _ w.heap.size 62 _ _ _ rfl ((Has.new' (w := w) (cs := tab 32 zeroB) rfl).setRow _) Tryd.underlying62 rfl hz32) rfl ⟨rfl, below_setRow ((Below.refl _ _).alloc (Nat.le_refl _) _) (Nat.le_refl _) _⟩

set_option maxRecDepth 100000 in
set_option maxHeartbeats 1000000 in
theorem of_any (bs : List UInt8) (A : Option Addr) (n c : Nat) (w : World) (hT : Tabs w) (hS : SlA w A n c bs) (hlen : bs.length ≤ 1000000) :
    Calls Tryd.prog 48 #[.slice A n c] w fun e w' => e = .returned (.agg (tab 32 fun j => by8 (shaOf bs j))) ∧ Below w.heap.size w w' := by
  have hz32 : (Tryd.prog.info? 62).map (·.size) = some (tab 32 fun j => by8 (shaOf bs j)).size := by rw [tab_size]; kernel_rfl
  have h0 : Has (w.alloc (.cells (tab 32 zeroB) 62)) w.heap.size 62 (tab 32 zeroB) := Has.new' rfl
  have hb0 := (Below.refl w.heap.size w).alloc (Nat.le_refl _) (.cells (tab 32 zeroB) 62)
  have hz : (w.alloc (.cells (tab 32 zeroB) 62)).heap.size = w.heap.size + 1 := by simp
  have HT := Lib.hid hT
  clear hT
  go_enter Tryd.func48, Tryd.ntmps48
  go_wp2_with fail
  obtain ⟨w0, hw0⟩ : ∃ w0, w0 = w.alloc (.cells (tab 32 zeroB) 62) := ⟨_, rfl⟩
  rw [← hw0] at h0 hb0 hz ⊢
  clear hw0
  refine (shaNew_any w0 (HT.out.below hb0)).mono ?_
  rintro e w1 ⟨rfl, h1, hb1⟩
  have h01 := h0.below hb1 h0.lt
  have hb01 := hb0.trans (hb1.mono (by omega))
  have hsl := hS.apart hb01 w0.heap.size (by omega)
  have hs1 := hb1.size
  have Hz := Lib.hid hz
  clear hz h0 hb0 hb1
  go_wp2_with fail
  have hz := Hz.out
  refine (write_any w0.heap.size [] bs _ _ _ w1 (HT.out.below hb01) (by have := HT.out.size; omega) h1 hsl (by simp; omega)).mono ?_
  rintro e w2 ⟨rfl, h2, hg2⟩
  have h02 : Has w2 w.heap.size 62 (tab 32 zeroB) := (hg2.block w.heap.size h01.lt (by simp; omega)).trans h01
  have hb02 := below_only hb01 hg2 (by omega) (by omega)
  have hs2 := hg2.size
  rw [List.nil_append] at h2
  have hlt2 : w0.heap.size < w2.heap.size := by
    obtain ⟨r, hh, _⟩ := h2
    exact hh.lt
  clear h01 hb01 hsl h1 hg2 hz
  go_wp2_with (first | (go_at_call 78; refine (sum_any w0.heap.size bs _ (HT.out.below hb02) hlt2 h2 (by omega)).mono ?_; rintro e w3 ⟨rfl, hb3⟩; have h03 := h02.below hb3 h02.lt) | refine wpList_store_row rfl 62 (.tmp 2) (.tmp 9) rfl w.heap.size (tab 32 fun j => by8 (shaOf bs j)) rfl rfl 62 _ h03 hz32 (by rw [tab_size, tab_size]) (tab_oneCell _ _ fun _ => rfl) ?_)
  exact bodyPost_ret (v := .agg (tab 32 fun j => by8 (shaOf bs j))) (results_cell_row rfl _ _ w.heap.size 62 _ _ _ rfl (h03.setRow _) Tryd.underlying62 rfl hz32) rfl ⟨rfl, below_setRow (hb02.trans (hb3.mono (by have := Hz.out; omega))) (Nat.le_refl _) _⟩

end Go.Proofs.YtflkhlhpifmocaaDoor
namespace Go.Proofs.YtflkhlhpifmocaaDoor.Ec
open Go

def runT (tx ty : Nat) : List Bool → Nat → Nat → Nat → Bool
  | [], X, Y, Z => X % pp == tx * Z % pp && Y % pp == ty * Z % pp && Z % pp != 0
  | b :: bs, X, Y, Z => Z % pp != 0 && dblK X Y Z fun X' Y' Z' => if b then Z' != 0 && addK X' Y' Z' (runT tx ty bs) else runT tx ty bs X' Y' Z'
theorem runT_sound {tx ty : Nat} : ∀ (bs : List Bool) (n X Y Z : Nat), Rep (c X) (c Y) (c Z) (smul n baseP) → runT tx ty bs X Y Z = true → smul (valB bs n) baseP = some (c tx, c ty)
  | [], n, X, Y, Z, hr, h => by
    simp only [runT, Bool.and_eq_true, beq_iff_eq, bne_iff_ne] at h
    obtain ⟨⟨h1, h2⟩, h3⟩ := h
    have hz := c_ne h3
    show smul n baseP = some (c tx, c ty)
    cases hs : smul n baseP with
    | none => rw [hs] at hr; exact absurd hr hz
    | some P =>
      obtain ⟨x, y⟩ := P
      rw [hs] at hr
      obtain ⟨_, hx, hy⟩ := hr
      have e1 := c_eq h1
      have e2 := c_eq h2
      rw [c_mul] at e1 e2
      have hx2 : x = c tx := by
        refine fldP.cancel (c := c Z) ?_ hz
        clear hy e2
        grobner
      have hy2 : y = c ty := by
        refine fldP.cancel (c := c Z) ?_ hz
        clear hx e1
        grobner
      rw [hx2, hy2]
  | b :: bs, n, X, Y, Z, hr, h => by
    simp only [runT, Bool.and_eq_true, bne_iff_ne] at h
    obtain ⟨h0, h⟩ := h
    have hz := c_ne h0
    unfold dblK at h
    simp only [force_eq] at h
    have hp := smul_on base_on n
    have hlt : ∀ x, x % pp < pp := fun x => Nat.mod_lt _ (by decide)
    have hW : c (3 * (X * X + (pp - Z * Z % pp)) % pp) = 3 * (c X * c X - c Z * c Z) := by
      rw [c_mod, c_mul, c_sub _ _ (Nat.le_of_lt (hlt _)), c_mod, c_mul, c_mul]; rfl
    generalize 3 * (X * X + (pp - Z * Z % pp)) % pp = W at *
    have hs : c (Y * Z % pp) = c Y * c Z := by rw [c_mod, c_mul]
    generalize Y * Z % pp = s at *
    have hys : c (Y * s % pp) = c Y * c s := by rw [c_mod, c_mul]
    generalize Y * s % pp = ys at *
    have hq : c (X * ys % pp) = c X * c ys := by rw [c_mod, c_mul]
    generalize X * ys % pp = q at *
    have hh : c ((W * W + (pp - 8 * q % pp)) % pp) = c W * c W - 8 * c q := by
      rw [c_mod, c_sub _ _ (Nat.le_of_lt (hlt _)), c_mod, c_mul, c_mul]; rfl
    have hhl := hlt (W * W + (pp - 8 * q % pp))
    generalize (W * W + (pp - 8 * q % pp)) % pp = hN at *
    have hX : c (2 * (hN * s) % pp) = 2 * (c hN * c s) := by rw [c_mod, c_mul, c_mul]; rfl
    have hY : c ((W * (4 * q + (pp - hN)) + (pp - 8 * (ys * ys) % pp)) % pp) = c W * (4 * c q - c hN) - 8 * (c ys * c ys) := by
      rw [c_mod, c_sub _ _ (Nat.le_of_lt (hlt _)), c_mod, c_mul, c_sub _ _ (Nat.le_of_lt hhl), c_mul, c_mul, c_mul]; rfl
    have hZ : c (8 * (s * (s * s)) % pp) = 8 * (c s * (c s * c s)) := by rw [c_mod, c_mul, c_mul, c_mul]; rfl
    have hZl := hlt (8 * (s * (s * s)))
    generalize 2 * (hN * s) % pp = X' at *
    generalize (W * (4 * q + (pp - hN)) + (pp - 8 * (ys * ys) % pp)) % pp = Y' at *
    generalize 8 * (s * (s * s)) % pp = Z' at *
    have hr2 : Rep (c X') (c Y') (c Z') (smul (2 * n) baseP) := by
      rw [hX, hY, hZ, smul_two base_on]
      exact dbl_rep hr hz hW hs hys hq hh rfl
    clear hX hY hZ hW hs hys hq hh hr hhl
    cases b with
    | false => exact runT_sound bs (2 * n) X' Y' Z' hr2 (by simpa using h)
    | true =>
      simp only [if_true, Bool.and_eq_true, bne_iff_ne] at h
      obtain ⟨h1, h⟩ := h
      have hz2 := c_zero hZl h1
      unfold addK at h
      simp only [force_eq, Bool.and_eq_true, bne_iff_ne] at h
      obtain ⟨hv0, h⟩ := h
      have hu : c ((gY * Z' + (pp - Y' % pp)) % pp) = c gY * c Z' - c Y' := by rw [c_mod, c_sub _ _ (Nat.le_of_lt (hlt _)), c_mod, c_mul]
      generalize (gY * Z' + (pp - Y' % pp)) % pp = u at *
      have hv : c ((gX * Z' + (pp - X' % pp)) % pp) = c gX * c Z' - c X' := by rw [c_mod, c_sub _ _ (Nat.le_of_lt (hlt _)), c_mod, c_mul]
      have hvl := hlt (gX * Z' + (pp - X' % pp))
      generalize (gX * Z' + (pp - X' % pp)) % pp = v at *
      have hv1 := c_zero hvl hv0
      have hvv : c (v * v % pp) = c v * c v := by rw [c_mod, c_mul]
      generalize v * v % pp = vv at *
      have hvvv : c (v * vv % pp) = c v * c vv := by rw [c_mod, c_mul]
      generalize v * vv % pp = vvv at *
      have hr3 : c (vv * X' % pp) = c vv * c X' := by rw [c_mod, c_mul]
      generalize vv * X' % pp = r at *
      have ht : c ((u * u * Z' + (pp - (vvv + 2 * r) % pp)) % pp) = c u * c u * c Z' - (c vvv + 2 * c r) := by
        rw [c_mod, c_sub _ _ (Nat.le_of_lt (hlt _)), c_mod, c_mul, c_mul, c_add, c_mul]; rfl
      have htl := hlt (u * u * Z' + (pp - (vvv + 2 * r) % pp))
      generalize (u * u * Z' + (pp - (vvv + 2 * r) % pp)) % pp = t at *
      have hX2 : c (v * t % pp) = c v * c t := by rw [c_mod, c_mul]
      have hY2 : c ((u * (r + (pp - t)) + (pp - vvv * Y' % pp)) % pp) = c u * (c r - c t) - c vvv * c Y' := by
        rw [c_mod, c_sub _ _ (Nat.le_of_lt (hlt _)), c_mod, c_mul, c_sub _ _ (Nat.le_of_lt htl), c_mul]
      have hZ2 : c (vvv * Z' % pp) = c vvv * c Z' := by rw [c_mod, c_mul]
      generalize v * t % pp = X2 at *
      generalize (u * (r + (pp - t)) + (pp - vvv * Y' % pp)) % pp = Y2 at *
      generalize vvv * Z' % pp = Z2 at *
      refine runT_sound bs (2 * n + 1) X2 Y2 Z2 ?_ h
      show Rep (c X2) (c Y2) (c Z2) (plus (smul (2 * n) baseP) baseP)
      have hb : Rep (c gX) (c gY) 1 baseP := ⟨by decide, by show c gX = c gX * 1; grobner, by show c gY = c gY * 1; grobner⟩
      have key := sum_rep (y1 := c Y') (x1 := c X') (u := c u) (v := c v) (zz := c Z') (vv := c vv) (vvv := c vvv) (r := c r) (t := c t) hr2 hb hz2 (by decide)
        (by grobner) (by grobner) hu hv hv1 (by grobner) hvv hvvv hr3 (by rw [ht]; grobner)
      rw [hX2, hY2, hZ2]
      exact key

/-- k times the base is (tx, ty): asked of the kernel -/
theorem mult_is {k len tx ty : Nat} (hk : valB (bitsN len k) 1 = k) (h : runT tx ty (bitsN len k) gX gY 1 = true) : smul k baseP = some (c tx, c ty) := by
  have hb : Rep (c gX) (c gY) (c 1) (smul 1 baseP) := ⟨by decide, by show c gX = c gX * 1; grobner, by show c gY = c gY * 1; grobner⟩
  have h2 := runT_sound _ 1 gX gY 1 hb h
  rw [hk] at h2
  exact h2
/- the reference's example: the secret 1, the number 7, the messages x and y -/
def x7 : Nat := 64375483017717711348634889601793836329966447963510648681625681211348943876771
def y7 : Nat := 52431391916983504423217627849020916729601969409053901192561322805962577543348
theorem mult7 : smul 7 baseP = some (c x7, c y7) := mult_is (len := 2) (by decide +kernel) (by decide +kernel)
def exN : Nat := 20553885541631119247001227156676802314981306735372789521402284493774173915265
def eyN : Nat := 73269189142166684209325577062514786983019191154169834309660168458666001346810
def r7 : Nat := x7 % ordN
def s7 : Nat := 12132766937049832942233730965495805520706822099840491171861137957874731113148
def w7 : Nat := 101446979702834318721317629395735199103044903140376435397213980544604834450508
def xy : Nat := 35413348218935359455564373886331566668792283332854540377080566769556670235662
def yy : Nat := 113392742512466194176692484310808049470164660632038296491181858194671191546148
theorem mult_x : smul (exN * w7 % ordN + r7 * w7 % ordN) baseP = some (c x7, c y7) := mult_is (len := 255) (by decide +kernel) (by decide +kernel)
theorem mult_y : smul (eyN * w7 % ordN + r7 * w7 % ordN) baseP = some (c xy, c yy) := mult_is (len := 256) (by decide +kernel) (by decide +kernel)
theorem other_y : xy % ordN ≠ r7 := by decide +kernel
end Go.Proofs.YtflkhlhpifmocaaDoor.Ec
namespace Go.Proofs.YtflkhlhpifmocaaDoor
open Go.RowKit

/-- byte j of x, the highest first -/
def byB (x j : Nat) : Nat := dg 256 x (31 - j)
theorem byB_lt (x j : Nat) : byB x j < 256 := dg_lt (by decide) _ _
def bytV (x j : Nat) : Value := .int .u8 ((byB x j : Nat) : Int)
theorem zero32 : (#[Value.int IntKind.u8 0, Value.int IntKind.u8 0, Value.int IntKind.u8 0, Value.int IntKind.u8 0, Value.int IntKind.u8 0, Value.int IntKind.u8 0, Value.int IntKind.u8 0, Value.int IntKind.u8 0, Value.int IntKind.u8 0, Value.int IntKind.u8 0, Value.int IntKind.u8 0, Value.int IntKind.u8 0, Value.int IntKind.u8 0, Value.int IntKind.u8 0, Value.int IntKind.u8 0, Value.int IntKind.u8 0, Value.int IntKind.u8 0, Value.int IntKind.u8 0, Value.int IntKind.u8 0, Value.int IntKind.u8 0, Value.int IntKind.u8 0, Value.int IntKind.u8 0, Value.int IntKind.u8 0, Value.int IntKind.u8 0, Value.int IntKind.u8 0, Value.int IntKind.u8 0, Value.int IntKind.u8 0, Value.int IntKind.u8 0, Value.int IntKind.u8 0, Value.int IntKind.u8 0, Value.int IntKind.u8 0, Value.int IntKind.u8 0] : Array Value) = tab 32 fun _ => .int .u8 0 := by kernel_rfl
def partB (x k j : Nat) : Value := if j < k then bytV x j else .int .u8 0
theorem partB_zero (x : Nat) : tab 32 (partB x 0) = tab 32 fun _ => .int .u8 0 := tab_ext _ _ _ fun j _ => by simp [partB]
theorem partB_end (x : Nat) : tab 32 (partB x 32) = tab 32 (bytV x) := tab_ext _ _ _ fun j hj => by simp [partB, hj]
theorem partB_set (x k : Nat) : (tab 32 (partB x k)).setIfInBounds k (.int .u8 ((byB x k : Nat) : Int)) = tab 32 (partB x (k + 1)) := by
  rw [tab_set]
  apply tab_ext
  intro j _
  by_cases h : j = k
  · subst h; simp [partB, bytV]
  · simp only [partB, if_neg h]
    by_cases h2 : j < k
    · rw [if_pos h2, if_pos (by omega)]
    · rw [if_neg h2, if_neg (by omega)]
theorem byte_nat (x k : Nat) (_hk : k < 32) : wrd x ((31 - k) / 4) / 2 ^ ((31 - k) % 4 * 8) % 256 = byB x k := by
  have h := dg_dg (b := 256) (m := 4) (x := x) (q := (31 - k) / 4) (r := (31 - k) % 4) (by omega)
  have e : 4 * ((31 - k) / 4) + (31 - k) % 4 = 31 - k := by omega
  rw [e] at h
  unfold byB
  have e2 : 2 ^ ((31 - k) % 4 * 8) = 256 ^ ((31 - k) % 4) := by rw [Nat.mul_comm, Nat.pow_mul]
  rw [← h, e2]
  rfl
theorem byte_walk (x k : Nat) (hk : k < 32) : ((wrd x ((31 - k) / 4) : Nat) : Int) / 2 ^ ((31 - k) % 4 * 8) % 256 = ((byB x k : Nat) : Int) := by
  rw [← byte_nat x k hk]
  simp [Int.natCast_ediv, Int.natCast_pow, Int.natCast_emod]
def plW (k : Nat) : Nat := (31 - k) / 4
def plS (k : Nat) : Nat := (31 - k) % 4 * 8
set_option maxHeartbeats 400000 in
theorem place_any (k : Nat) (w : World) (hk : k < 32) :
    Calls Tryd.prog 69 #[.int .i64 (k : Int)] w fun e w' => e = .returned (.tuple #[.int .i64 ((plW k : Nat) : Int), .int .i64 ((plS k : Nat) : Int)]) ∧ w = w' := by
  have hk' : (k : Int) < 32 := by omega
  go_enter Tryd.func69, Tryd.ntmps69
  go_wp2
  go_ret2
  refine ⟨?_, rfl⟩
  congr 3 <;> simp [plW, plS] <;> omega
theorem plW_lt (k : Nat) : plW k < 8 := by unfold plW; omega
theorem plS_lt (k : Nat) : plS k < 32 := by unfold plS; omega

attribute [local go_sem] zeroNum zero32
/-- n bytes, or none -/
def SlN (w : World) (A : Option Addr) (n : Nat) (f : Nat → Nat) : Prop := 0 < n → ∃ b o, A = some ⟨b, o, none⟩ ∧ b < w.heap.size ∧ ∀ j, j < n → w.cell? ⟨b, o + j, none⟩ = some (.int .u8 ((f j : Nat) : Int))
theorem SlN.below {w w' : World} {A : Option Addr} {n : Nat} {f : Nat → Nat} (h : SlN w A n f) (k : Below w.heap.size w w') : SlN w' A n f := fun hn => by
  obtain ⟨b, o, rfl, hlt, hc⟩ := h hn
  exact ⟨b, o, rfl, Nat.lt_of_lt_of_le hlt k.size, fun j hj => (World.cell?_of_block (k.block b hlt)).trans (hc j hj)⟩

/-- what has been read after k bytes -/
def upto (y k : Nat) : Nat := y / 256 ^ (32 - k) * 256 ^ (32 - k)
theorem upto_zero {y : Nat} (h : y < big) : upto y 0 = 0 := by
  unfold upto
  rw [Nat.div_eq_of_lt (by exact h), Nat.zero_mul]
theorem upto_end (y : Nat) : upto y 32 = y := by simp [upto]
theorem upto_step (y k : Nat) (hk : k < 32) : upto y (k + 1) = upto y k + byB y k * 256 ^ (31 - k) := by
  unfold upto byB
  have e1 : 32 - (k + 1) = 31 - k := by omega
  have e2 : 32 - k = 31 - k + 1 := by omega
  rw [e1, e2, cut_step]
theorem read_other (y k j : Nat) (hk : k < 32) (hj : j ≠ plW k) : wrd (upto y (k + 1)) j = wrd (upto y k) j := by
  refine digits_inj (B := 256) (n := 4) (wrd_lt _ _) (wrd_lt _ _) fun r hr => ?_
  show dg 256 (dg (256 ^ 4) _ _) _ = dg 256 (dg (256 ^ 4) _ _) _
  rw [dg_dg hr, dg_dg hr]
  unfold upto
  rw [dg_cut (by decide), dg_cut (by decide)]
  have hne : 4 * j + r ≠ 31 - k := fun e => hj (by unfold plW; omega)
  by_cases h : 32 - k ≤ 4 * j + r
  · rw [if_pos h, if_pos (by omega)]
  · rw [if_neg h, if_neg (by omega)]
theorem read_here (y k : Nat) (hk : k < 32) : wrd (upto y k) (plW k) ||| byB y k * 2 ^ plS k = wrd (upto y (k + 1)) (plW k) ∧ byB y k * 2 ^ plS k < 4294967296 := by
  obtain ⟨q, hq⟩ : ∃ q, q = (31 - k) / 4 := ⟨_, rfl⟩
  obtain ⟨r, hr⟩ : ∃ r, r = (31 - k) % 4 := ⟨_, rfl⟩
  have hr4 : r < 4 := by omega
  have e31 : 31 - k = 4 * q + r := by omega
  have e32 : 32 - k = 4 * q + r + 1 := by omega
  have hd := byB_lt y k
  have eS : 2 ^ plS k = 256 ^ r := by unfold plS; rw [← hr, Nat.mul_comm, Nat.pow_mul]
  have eW : plW k = q := by unfold plW; rw [hq]
  rw [eS, eW]
  have hpr : 0 < 256 ^ r := Nat.pow_pos (by decide)
  have hlt : byB y k * 256 ^ r < 256 ^ (r + 1) := by rw [Nat.pow_succ, Nat.mul_comm (256 ^ r)]; exact Nat.mul_lt_mul_of_pos_right hd hpr
  have h4 : (4294967296 : Nat) = 256 ^ (r + 1) * 256 ^ (3 - r) := by rw [← Nat.pow_add, show r + 1 + (3 - r) = 4 by omega]
  -- the word so far is a multiple of 256 ^ (r + 1)
  obtain ⟨m, hm⟩ : ∃ m, wrd (upto y k) q = 256 ^ (r + 1) * m := by
    unfold upto wrd dg
    rw [e32, h4]
    have e : y / 256 ^ (4 * q + r + 1) * 256 ^ (4 * q + r + 1) = (y / 256 ^ (4 * q + r + 1) * 256 ^ (r + 1)) * 256 ^ (4 * q) := by rw [Nat.mul_assoc, ← Nat.pow_add]; congr 2; omega
    have eq : (256 ^ (r + 1) * 256 ^ (3 - r)) ^ q = 256 ^ (4 * q) := by rw [← h4, show (4294967296 : Nat) = 256 ^ 4 from rfl, ← Nat.pow_mul]
    rw [eq, e, Nat.mul_div_cancel _ (Nat.pow_pos (by decide)), Nat.mul_comm, Nat.mul_mod_mul_left]
    exact ⟨_, rfl⟩
  have hw := wrd_lt (upto y k) q
  rw [hm] at hw ⊢
  have hp1 : 0 < 256 ^ (r + 1) := Nat.pow_pos (by decide)
  have hm2 : m < 256 ^ (3 - r) := by rw [h4] at hw; exact Nat.lt_of_mul_lt_mul_left hw
  have hsum : 256 ^ (r + 1) * m + byB y k * 256 ^ r < 4294967296 := by
    have : 256 ^ (r + 1) * (m + 1) ≤ 256 ^ (r + 1) * 256 ^ (3 - r) := Nat.mul_le_mul_left _ hm2
    rw [← h4, Nat.mul_add] at this
    omega
  have hor : 256 ^ (r + 1) * m ||| byB y k * 256 ^ r = 256 ^ (r + 1) * m + byB y k * 256 ^ r := by
    have e2 : 256 ^ (r + 1) = 2 ^ (8 * (r + 1)) := by rw [Nat.pow_mul]
    rw [e2] at hlt ⊢
    exact (Nat.two_pow_add_eq_or_of_lt hlt m).symm
  refine ⟨?_, by omega⟩
  rw [hor, upto_step y k hk, e31]
  have hW : (4294967296 : Nat) ^ q = 256 ^ (4 * q) := by rw [show (4294967296 : Nat) = 256 ^ 4 from rfl, ← Nat.pow_mul]
  unfold wrd dg at hm ⊢
  rw [hW] at hm ⊢
  have e3 : byB y k * 256 ^ (4 * q + r) = byB y k * 256 ^ r * 256 ^ (4 * q) := by rw [Nat.pow_add, Nat.mul_assoc, Nat.mul_comm (256 ^ r)]
  rw [e3, Nat.add_mul_div_right _ _ (Nat.pow_pos (by decide)), Nat.add_mod, hm, Nat.mod_eq_of_lt (show byB y k * 256 ^ r < 4294967296 by omega), Nat.mod_eq_of_lt hsum]
theorem read_set (y k : Nat) (hk : k < 32) : (nums (upto y k)).setIfInBounds (plW k) (.int .u32 ((wrd (upto y (k + 1)) (plW k) : Nat) : Int)) = nums (upto y (k + 1)) := by
  unfold nums
  rw [tab_set]
  apply tab_ext
  intro j hj
  by_cases h : j = plW k
  · rw [if_pos h, h]; rfl
  · rw [if_neg h]
    unfold dgs
    have := read_other y k j hk h
    unfold wrd at this
    rw [this]
theorem read_walk (y k : Nat) (hk : k < 32) : bits BinOp.or IntKind.u32 ((wrd (upto y k) (plW k) : Nat) : Int) (((byB y k : Nat) : Int) * 2 ^ plS k % 4294967296) = ((wrd (upto y (k + 1)) (plW k) : Nat) : Int) := by
  obtain ⟨h1, h2⟩ := read_here y k hk
  have e : ((byB y k : Nat) : Int) * 2 ^ plS k % 4294967296 = ((byB y k * 2 ^ plS k : Nat) : Int) := by
    have e1 : ((byB y k : Nat) : Int) * 2 ^ plS k = ((byB y k * 2 ^ plS k : Nat) : Int) := by simp [Int.natCast_mul, Int.natCast_pow]
    rw [e1]; omega
  rw [e, u32_or_nat _ _ (wrd_lt _ _) h2, h1]

set_option maxRecDepth 100000 in
set_option maxHeartbeats 1000000 in
theorem read_short (A : Option Addr) (n c : Nat) (w : World) (hn : n ≠ 32) :
    Calls Tryd.prog 38 #[.slice A n c] w fun e w' => e = .returned (.tuple #[.agg (nums 0), .int .i64 2]) ∧ Below w.heap.size w w' := by
  have hd : ((n : Int) == 32) = false := beq_eq_false_iff_ne.2 (by omega)
  have h0 : Has ((w.alloc (.cells (nums 0) 30)).alloc (.cells (nums 0) 30)) w.heap.size 30 (nums 0) := (Has.new w _ _).alloc _
  have h1 : Has ((w.alloc (.cells (nums 0) 30)).alloc (.cells (nums 0) 30)) (w.heap.size + 1) 30 (nums 0) := Has.new' (by simp)
  have hb : Below w.heap.size w ((w.alloc (.cells (nums 0) 30)).alloc (.cells (nums 0) 30)) := ((Below.refl _ _).alloc (Nat.le_refl _) _).alloc (by simp) _
  clear hn
  go_enter Tryd.func38, Tryd.ntmps38
  go_wp2_with (first | refine wpList_load_row rfl 30 _ rfl (w.heap.size + 1) rfl 30 _ _ _ h1 Tryd.underlying30 rfl (infoNum _) ?_ | refine wpList_store_row rfl 30 _ _ rfl w.heap.size _ rfl rfl 30 _ h0 (infoNum _) (by rw [nums_size]) (tab_oneCell _ _ fun _ => rfl) ?_)
  exact bodyPost_ret (results_row_tmp rfl _ _ w.heap.size 30 _ _ _ rfl rfl (h0.setRow _) Tryd.underlying30 rfl (infoNum _)) rfl ⟨rfl, below_setRow hb (Nat.le_refl _) _⟩
set_option maxRecDepth 100000 in
set_option maxHeartbeats 1000000 in
theorem read_any (y : Nat) (b o c : Nat) (w : World) (hy : y < big) (hlb : b < w.heap.size) (hc : ∀ j, j < 32 → w.cell? ⟨b, o + j, none⟩ = some (.int .u8 ((byB y j : Nat) : Int))) :
    Calls Tryd.prog 38 #[.slice (some ⟨b, o, none⟩) 32 c] w fun e w' => e = .returned (.tuple #[.agg (nums y), .int .i64 0]) ∧ Below w.heap.size w w' := by
  have h0 : Has ((w.alloc (.cells (nums 0) 30)).alloc (.cells (nums 0) 30)) w.heap.size 30 (nums 0) := (Has.new w _ _).alloc _
  have h1 : Has ((w.alloc (.cells (nums 0) 30)).alloc (.cells (nums 0) 30)) (w.heap.size + 1) 30 (nums 0) := Has.new' (by simp)
  have hb : Below w.heap.size w ((w.alloc (.cells (nums 0) 30)).alloc (.cells (nums 0) 30)) := ((Below.refl _ _).alloc (Nat.le_refl _) _).alloc (by simp) _
  have hu := upto_zero hy
  clear hy
  go_enter Tryd.func38, Tryd.ntmps38
  go_wp2_with fail
  go_loopw [5, 6, 7, 8, 15] (fun _ _ _ _ ct wr => ∃ k : Nat, k ≤ 32 ∧ ct = .int .i64 k ∧ Has wr w.heap.size 30 (nums 0) ∧ Has wr (w.heap.size + 1) 30 (nums (upto y k)) ∧ Below w.heap.size w wr) (fun _ _ _ _ ct _ => 32 - (intOf ct).toNat)
  case atStart => exact ⟨0, by omega, rfl, h0, by rw [hu]; exact h1, hb⟩
  case round =>
    clear h0 h1 hb hu
    obtain ⟨k, hk, rfl, h0, h1, hb⟩ := hrel
    by_cases hlt : k < 32
    · have dk : (k : Int) < 32 := by omega
      have cb : wr.cell? ⟨b, o + k, none⟩ = some (.int .u8 ((byB y k : Nat) : Int)) := (World.cell?_of_block (hb.block b hlb)).trans (hc k hlt)
      have c1 := nums_at h1 (plW k) (plW_lt k)
      have f1 := h1.free (plW k)
      have dW : ((plW k : Nat) : Int) < 8 := by have := plW_lt k; omega
      have dS : ((plS k : Nat) : Int) < 32 := by have := plS_lt k; omega
      have hb256 : ((byB y k : Nat) : Int) < 256 := by have := byB_lt y k; omega
      have hrw := read_walk y k hlt
      go_wp2_with (go_at_call 69; refine (place_any _ _ hlt).mono ?_; rintro e w' ⟨rfl, rfl⟩)
      go_region
      all_goals
        go_wp2_with fail
        go_roundw
      all_goals first
        | (refine ⟨k + 1, by omega, by go_num, h0.drew.far (by simp <;> omega) _, ?_, (below_drewN hb 1).setCell (by simp <;> omega) _⟩
           rw [← read_set y k hlt]
           exact h1.drew.set (plW k) _)
        | (simp [intOf]; omega)
    · have e32 : k = 32 := by omega
      have h1' : Has wr (w.heap.size + 1) 30 (nums y) := by rw [e32, upto_end] at h1; exact h1
      have dk : ¬ (k : Int) < 32 := by omega
      clear e32 hk h1 hc
      go_wp2_with (first | refine wpList_load_row rfl 30 _ rfl (w.heap.size + 1) rfl 30 _ _ _ h1' Tryd.underlying30 rfl (infoNum _) ?_ | refine wpList_store_row rfl 30 _ _ rfl w.heap.size _ rfl rfl 30 _ h0 (infoNum _) (by rw [nums_size, nums_size]) (tab_oneCell _ _ fun _ => rfl) ?_)
      exact bodyPost_ret (results_row_tmp rfl _ _ w.heap.size 30 _ _ _ rfl rfl (h0.setRow _) Tryd.underlying30 rfl (infoNum _)) rfl ⟨rfl, below_setRow hb (Nat.le_refl _) _⟩
end Go.Proofs.YtflkhlhpifmocaaDoor
namespace Go.Proofs.YtflkhlhpifmocaaDoor
open Go

/-- the number of the bytes f 0, f 1, .., the highest first -/
def nBk (f : Nat → Nat) : Nat → Nat
  | 0 => 0
  | k + 1 => 256 * nBk f k + f k
theorem nBk_lt {f : Nat → Nat} : ∀ k, (∀ j, j < k → f j < 256) → nBk f k < 256 ^ k
  | 0, _ => by simp [nBk]
  | k + 1, h => by
    have h1 := nBk_lt k fun j hj => h j (by omega)
    have h2 := h k (by omega)
    show 256 * nBk f k + f k < 256 ^ (k + 1)
    rw [Nat.pow_succ]
    omega
theorem nBk_dg {f : Nat → Nat} : ∀ k j, (∀ j, j < k → f j < 256) → j < k → dg 256 (nBk f k) (k - 1 - j) = f j
  | 0, j, _, h => absurd h (by omega)
  | k + 1, j, h, hj => by
    have h2 := h k (by omega)
    show dg 256 (256 * nBk f k + f k) (k + 1 - 1 - j) = f j
    by_cases e : j = k
    · subst e
      rw [show j + 1 - 1 - j = 0 by omega]
      unfold dg
      rw [Nat.pow_zero, Nat.div_one, Nat.mul_add_mod, Nat.mod_eq_of_lt h2]
    · have h1 := nBk_dg k j (fun j hj => h j (by omega)) (by omega)
      rw [← h1, show k + 1 - 1 - j = (k - 1 - j) + 1 by omega]
      unfold dg
      rw [Nat.pow_succ', ← Nat.div_div_eq_div_mul, Nat.mul_add_div (by omega), Nat.div_eq_of_lt h2, Nat.add_zero]
theorem big_256 : big = 256 ^ 32 := by decide +kernel
theorem nB_lt {f : Nat → Nat} (h : ∀ j, j < 32 → f j < 256) : nBk f 32 < big := by rw [big_256]; exact nBk_lt 32 h
theorem nB_byte {f : Nat → Nat} (h : ∀ j, j < 32 → f j < 256) (j : Nat) (hj : j < 32) : byB (nBk f 32) j = f j := nBk_dg 32 j h hj
def atB (bs : List UInt8) (o j : Nat) : Nat := (bs.getD (o + j) 0).toNat
theorem atB_lt (bs : List UInt8) (o j : Nat) : atB bs o j < 256 := (bs.getD (o + j) 0).toNat_lt
def numAt (bs : List UInt8) (o : Nat) : Nat := nBk (atB bs o) 32
theorem numAt_lt (bs : List UInt8) (o : Nat) : numAt bs o < big := nB_lt fun j _ => atB_lt bs o j
theorem numAt_byte (bs : List UInt8) (o j : Nat) (hj : j < 32) : byB (numAt bs o) j = (bs.getD (o + j) 0).toNat := nB_byte (fun j _ => atB_lt bs o j) j hj
def dgst (mb : List UInt8) : Nat := nBk (fun j => (shaOf mb j).toNat) 32
theorem dgst_lt (mb : List UInt8) : dgst mb < big := nB_lt fun j _ => (shaOf mb j).toNat_lt
theorem dgst_byte (mb : List UInt8) (j : Nat) (hj : j < 32) : byB (dgst mb) j = (shaOf mb j).toNat := nB_byte (fun j _ => (shaOf mb j).toNat_lt) j hj

/-- the bytes are a key's -/
def KeyB (kb : List UInt8) : Prop := kb.length = 64 ∧ numAt kb 0 < Ec.pp ∧ numAt kb 32 < Ec.pp ∧ Ec.OnP (some (Ec.c (numAt kb 0), Ec.c (numAt kb 32)))
abbrev keyP (kb : List UInt8) : Ec.Pnt := some (Ec.c (numAt kb 0), Ec.c (numAt kb 32))
/-- the bytes are two numbers from 1 to the order less 1 -/
def SigB (sb : List UInt8) : Prop := sb.length = 64 ∧ numAt sb 0 ≠ 0 ∧ numAt sb 0 < Ec.ordN ∧ numAt sb 32 ≠ 0 ∧ numAt sb 32 < Ec.ordN
def wN (s : Nat) : Nat := s ^ (Ec.ordN - 2) % Ec.ordN
def u1N (e s : Nat) : Nat := e % Ec.ordN * wN s % Ec.ordN
def u2N (r s : Nat) : Nat := r * wN s % Ec.ordN
/-- the point that decides -/
noncomputable def decP (kb mb sb : List UInt8) : Ec.Pnt := Ec.plus (Ec.smul (u1N (dgst mb) (numAt sb 32)) Ec.baseP) (Ec.smul (u2N (numAt sb 0) (numAt sb 32)) (keyP kb))
def decB (P : Ec.Pnt) (r : Nat) : Bool := match P with
  | none => false
  | some (x, _) => decide (x.val % Ec.ordN = r)
open Classical in
noncomputable def verN (kb mb sb : List UInt8) : Nat := if KeyB kb then (if SigB sb then (if decB (decP kb mb sb) (numAt sb 0) then 0 else 4) else 4) else 5
theorem ver_key {kb : List UInt8} (mb sb : List UInt8) (h : ¬ KeyB kb) : verN kb mb sb = 5 := if_neg h
theorem ver_sig {kb sb : List UInt8} (mb : List UInt8) (h : KeyB kb) (h2 : ¬ SigB sb) : verN kb mb sb = 4 := by unfold verN; rw [if_pos h, if_neg h2]
theorem ver_dec {kb sb : List UInt8} (mb : List UInt8) (h : KeyB kb) (h2 : SigB sb) : verN kb mb sb = if decB (decP kb mb sb) (numAt sb 0) then 0 else 4 := by unfold verN; rw [if_pos h, if_pos h2]

/- the inverse modulo the order -/
theorem ordN_eq : primeN = Ec.ordN := by decide +kernel
theorem ordN_pos : 1 < Ec.ordN := by decide +kernel
theorem inv_uniq {s w : Nat} (h : s * w % Ec.ordN = 1) : wN s = w % Ec.ordN := by
  have h0 : s % primeN ≠ 0 := fun e => by
    rw [ordN_eq] at e
    rw [Nat.mul_mod, e, Nat.zero_mul, Nat.zero_mod] at h
    exact absurd h (by decide)
  have hf := fermatN s h0
  rw [ordN_eq] at hf
  have e1 : s ^ (Ec.ordN - 1) = s * s ^ (Ec.ordN - 2) := by rw [← Nat.pow_succ', show (Ec.ordN - 2).succ = Ec.ordN - 1 by have := ordN_pos; omega]
  rw [e1] at hf
  unfold wN
  generalize s ^ (Ec.ordN - 2) = v at *
  have h2 : v * (s * w) % Ec.ordN = v % Ec.ordN := by rw [Nat.mul_mod, h, Nat.mul_one, Nat.mod_mod]
  rw [← h2, show v * (s * w) = (s * v) * w by rw [← Nat.mul_assoc, Nat.mul_comm v s], Nat.mul_mod, hf, Nat.one_mul, Nat.mod_mod]

/- the reference's example -/
def bytesOf (x : Nat) : List UInt8 := (List.range 32).map fun j => UInt8.ofNat (byB x j)
def keyG : List UInt8 := bytesOf Ec.gX ++ bytesOf Ec.gY
def sigG : List UInt8 := bytesOf Ec.r7 ++ bytesOf Ec.s7
theorem keyG_x : numAt keyG 0 = Ec.gX := by decide +kernel
theorem keyG_y : numAt keyG 32 = Ec.gY := by decide +kernel
theorem sigG_r : numAt sigG 0 = Ec.r7 := by decide +kernel
theorem sigG_s : numAt sigG 32 = Ec.s7 := by decide +kernel
theorem keyG_ok : KeyB keyG := ⟨by decide +kernel, by rw [keyG_x]; decide +kernel, by rw [keyG_y]; decide +kernel, by rw [keyG_x, keyG_y]; exact Ec.base_on⟩
theorem sigG_ok : SigB sigG := ⟨by decide +kernel, by rw [sigG_r]; decide +kernel, by rw [sigG_r]; decide +kernel, by rw [sigG_s]; decide +kernel, by rw [sigG_s]; decide +kernel⟩
theorem keyG_p : keyP keyG = Ec.baseP := by
  show some (Ec.c (numAt keyG 0), Ec.c (numAt keyG 32)) = _
  rw [keyG_x, keyG_y]
  rfl
set_option maxRecDepth 100000 in
theorem dig_x : dgst [120] % Ec.ordN = Ec.exN := by decide +kernel
set_option maxRecDepth 100000 in
theorem dig_y : dgst [121] % Ec.ordN = Ec.eyN := by decide +kernel
theorem w7_eq : wN Ec.s7 = Ec.w7 := (inv_uniq (w := Ec.w7) (by decide +kernel)).trans (Nat.mod_eq_of_lt (by decide +kernel))
theorem ver_of {kb mb sb : List UInt8} {r s e w : Nat} {P : Ec.Pnt} (hk : KeyB kb) (hs : SigB sb) (hr : numAt sb 0 = r) (hs' : numAt sb 32 = s) (he : dgst mb % Ec.ordN = e) (hw : wN s = w) (hkp : keyP kb = Ec.baseP)
    (hP : Ec.smul (e * w % Ec.ordN + r * w % Ec.ordN) Ec.baseP = P) : verN kb mb sb = if decB P r then 0 else 4 := by
  rw [ver_dec mb hk hs]
  unfold decP u1N u2N
  rw [hkp, hr, hs', he, hw, ← Ec.smul_add Ec.base_on, hP]
theorem dec_x : decB (some (Ec.c Ec.x7, Ec.c Ec.y7)) Ec.r7 = true := by decide +kernel
theorem dec_y : decB (some (Ec.c Ec.xy, Ec.c Ec.yy)) Ec.r7 = false := by decide +kernel
theorem ver_x : verN keyG [120] sigG = 0 := (ver_of keyG_ok sigG_ok sigG_r sigG_s dig_x w7_eq keyG_p Ec.mult_x).trans (if_pos dec_x)
theorem ver_y : verN keyG [121] sigG = 4 := (ver_of keyG_ok sigG_ok sigG_r sigG_s dig_y w7_eq keyG_p Ec.mult_y).trans (if_neg (by rw [dec_y]; decide))
theorem ver_short : verN keyG.tail [] sigG = 5 := ver_key _ _ fun h => absurd h.1 (by decide +kernel)
end Go.Proofs.YtflkhlhpifmocaaDoor
namespace Go.Proofs.YtflkhlhpifmocaaDoor
open Go.RowKit

theorem hex_other (y k j : Nat) (hk : k < 32) (hj : j ≠ (31 - k) / 2) : hxd (upto y (k + 1)) j = hxd (upto y k) j := by
  refine digits_inj (B := 256) (n := 2) (hxd_lt _ _) (hxd_lt _ _) fun r hr => ?_
  show dg 256 (dg (256 ^ 2) _ _) _ = dg 256 (dg (256 ^ 2) _ _) _
  rw [dg_dg hr, dg_dg hr]
  unfold upto
  rw [dg_cut (by decide), dg_cut (by decide)]
  have hne : 2 * j + r ≠ 31 - k := fun e => hj (by omega)
  by_cases h : 32 - k ≤ 2 * j + r
  · rw [if_pos h, if_pos (by omega)]
  · rw [if_neg h, if_neg (by omega)]
theorem hex_two (z t : Nat) : hxd z t = dg 256 z (2 * t) + 256 * dg 256 z (2 * t + 1) := by
  have h0 : dg 256 (hxd z t) 0 = dg 256 z (2 * t) := dg_dg (b := 256) (m := 2) (q := t) (r := 0) (by decide)
  have h1 : dg 256 (hxd z t) 1 = dg 256 z (2 * t + 1) := dg_dg (b := 256) (m := 2) (q := t) (r := 1) (by decide)
  have hl := hxd_lt z t
  rw [← h0, ← h1]
  unfold dg
  rw [Nat.pow_zero, Nat.div_one, Nat.pow_one]
  omega
theorem hex_here0 (y k t : Nat) (hk : k < 32) (h : 31 - k = 2 * t) : hxd (upto y k) t + byB y k = hxd (upto y (k + 1)) t := by
  rw [hex_two, hex_two]
  unfold upto byB
  rw [dg_cut (by decide), dg_cut (by decide), dg_cut (by decide), dg_cut (by decide), if_neg (by omega), if_pos (by omega), if_pos (by omega), if_pos (by omega), h]
  omega
theorem hex_here1 (y k t : Nat) (hk : k < 32) (h : 31 - k = 2 * t + 1) : hxd (upto y k) t + byB y k * 256 = hxd (upto y (k + 1)) t := by
  rw [hex_two, hex_two]
  unfold upto byB
  rw [dg_cut (by decide), dg_cut (by decide), dg_cut (by decide), dg_cut (by decide), if_neg (by omega), if_neg (by omega), if_neg (by omega), if_pos (by omega), h]
  omega
theorem hex_set (y k t : Nat) (hk : k < 32) (h : t = (31 - k) / 2) : (d16 (upto y k)).setIfInBounds t (.int .u64 ((hxd (upto y (k + 1)) t : Nat) : Int)) = d16 (upto y (k + 1)) := by
  unfold d16
  rw [tab_set]
  apply tab_ext
  intro j hj
  by_cases e : j = t
  · rw [if_pos e, e]; rfl
  · rw [if_neg e]
    have := hex_other y k j hk (by omega)
    show Value.int .u64 ((hxd (upto y k) j : Nat) : Int) = .int .u64 ((hxd (upto y (k + 1)) j : Nat) : Int)
    rw [this]
theorem quo2 (o1 o2 : Operand) (a b : Int) (h : a.tdiv 2 = b) (h0 : 0 ≤ b ∧ b < 1000) (w : World) : (do eqGuard .quo 3 o1 o2 (.int .i64 a) (.int .i64 2); binOp .quo 3 (.int .i64 a) (.int .i64 2) : Sem Value).run Tryd.prog w = .ok (.int .i64 b) w := by
  subst h
  have e : IntKind.i64.wrap (a.tdiv 2) = a.tdiv 2 := by
    obtain ⟨h1, h2⟩ := h0
    generalize a.tdiv 2 = z at *
    simp only [IntKind.wrap, IntKind.bits, IntKind.signed]
    have hz : z % 2 ^ 64 = z := by omega
    simp; omega
  go_simp
theorem rem25 (o1 o2 : Operand) (a b : Int) (h : a.tmod 2 = b) (w : World) : (do eqGuard .rem 3 o1 o2 (.int .i64 a) (.int .i64 2); binOp .rem 3 (.int .i64 a) (.int .i64 2) : Sem Value).run Tryd.prog w = .ok (.int .i64 b) w := by
  subst h
  go_simp
theorem mul80 (o1 o2 : Operand) (w : World) : (do eqGuard .mul 3 o1 o2 (.int .i64 8) (.int .i64 0); binOp .mul 3 (.int .i64 8) (.int .i64 0) : Sem Value).run Tryd.prog w = .ok (.int .i64 0) w := by kernel_rfl
theorem mul81 (o1 o2 : Operand) (w : World) : (do eqGuard .mul 3 o1 o2 (.int .i64 8) (.int .i64 1); binOp .mul 3 (.int .i64 8) (.int .i64 1) : Sem Value).run Tryd.prog w = .ok (.int .i64 8) w := by kernel_rfl
theorem shl0 (o1 o2 : Operand) (x : Nat) (hx : x < 256) (w : World) : (do eqGuard .shl 35 o1 o2 (.int .u64 (x : Int)) (.int .i64 0); binOp .shl 35 (.int .u64 (x : Int)) (.int .i64 0) : Sem Value).run Tryd.prog w = .ok (.int .u64 (x : Int)) w := by
  have e : IntKind.u64.wrap (x : Int) = (x : Int) := by rw [IntKind.wrap_u64]; omega
  go_simp
theorem shl1 (o1 o2 : Operand) (x : Nat) (hx : x < 256) (w : World) : (do eqGuard .shl 35 o1 o2 (.int .u64 (x : Int)) (.int .i64 8); binOp .shl 35 (.int .u64 (x : Int)) (.int .i64 8) : Sem Value).run Tryd.prog w = .ok (.int .u64 ((x * 256 : Nat) : Int)) w := by
  have e : IntKind.u64.wrap ((x : Int) * 256) = (x : Int) * 256 := by rw [IntKind.wrap_u64]; omega
  go_simp
theorem addU (o1 o2 : Operand) (x y z : Nat) (h : x + y = z) (hz : z < 65536) (w : World) : (do eqGuard .add 35 o1 o2 (.int .u64 (x : Int)) (.int .u64 (y : Int)); binOp .add 35 (.int .u64 (x : Int)) (.int .u64 (y : Int)) : Sem Value).run Tryd.prog w = .ok (.int .u64 (z : Int)) w := by
  subst h
  have e : IntKind.u64.wrap ((x : Int) + (y : Int)) = (x : Int) + (y : Int) := by rw [IntKind.wrap_u64]; omega
  go_simp
theorem addrD16 (g j : Nat) (hj : j < 16) (w : World) : (Instr.indexAt 37 (.pointer (some ⟨g, 0, none⟩)) (.int .i64 (j : Int))).run Tryd.prog w = .ok (.pointer (some ⟨g, j, none⟩)) w := by
  have h1 : (j : Int) < 16 := by omega
  go_simp
theorem addrSl (b o n c j : Nat) (hj : j < n) (w : World) : (Instr.indexAt 22 (.slice (some ⟨b, o, none⟩) n c) (.int .i64 (j : Int))).run Tryd.prog w = .ok (.pointer (some ⟨b, o + j, none⟩)) w := by
  have h1 : (j : Int) < (n : Int) := by omega
  go_simp
theorem cell_u8 (g j : Nat) (v : Value) (w : World) (h : w.cell? ⟨g, j, none⟩ = some v) : (Instr.loadAt 5 (.pointer (some ⟨g, j, none⟩))).run Tryd.prog w = .ok v w := by
  go_simp
theorem conv864 (x : Nat) (hx : x < 256) (w : World) : (convert 5 35 (.int .u8 (x : Int))).run Tryd.prog w = .ok (.int .u64 (x : Int)) w := by
  have e : IntKind.u64.wrap (x : Int) = (x : Int) := by rw [IntKind.wrap_u64]; omega
  go_simp
attribute [local go_sem] zero16
set_option maxRecDepth 100000 in
set_option maxHeartbeats 1000000 in
theorem num5_any (y b o c : Nat) (w : World) (hy : y < big) (hlb : b < w.heap.size) (hc : ∀ j, j < 32 → w.cell? ⟨b, o + j, none⟩ = some (.int .u8 ((byB y j : Nat) : Int))) :
    Calls Tryd.prog 19 #[.slice (some ⟨b, o, none⟩) 32 c] w fun e w' => e = .returned (.agg (d16 y)) ∧ Below w.heap.size w w' := by
  have u0 := upto_zero hy
  go_enter Tryd.func19, Tryd.ntmps19
  go_wp2_with fail
  go_loopw [4, 5] (fun ct _ wr => ∃ k : Nat, k ≤ 32 ∧ ct = .int .i64 k ∧ Has wr w.heap.size 37 (d16 0) ∧ Has wr (w.heap.size + 1) 37 (d16 (upto y k)) ∧ Below w.heap.size w wr) (fun ct _ _ => 32 - (intOf ct).toNat)
  case atStart => exact ⟨0, by omega, rfl, (Has.new w _ _).alloc _, by rw [u0]; exact Has.new' (by simp), ((Below.refl _ _).alloc (Nat.le_refl _) _).alloc (by simp) _⟩
  case round =>
    obtain ⟨k, hk, rfl, h0, h1, hb⟩ := hrel
    clear u0
    by_cases hlt : k < 32
    · have dk : (k : Int) < 32 := by omega
      have cB : wr.cell? ⟨b, o + k, none⟩ = some (.int .u8 ((byB y k : Nat) : Int)) := (hb.cell (p := ⟨b, o + k, none⟩) hlb).trans (hc k hlt)
      have lb2 : b < wr.heap.size := Nat.lt_of_lt_of_le hlb hb.size
      have lB := byB_lt y k
      rcases (show (31 - k) % 2 = 0 ∨ (31 - k) % 2 = 1 by omega) with hr | hr
      · obtain ⟨t, ht⟩ : ∃ t, 31 - k = 2 * t := ⟨(31 - k) / 2, by omega⟩
        have hqi : (31 : Int) - (k : Int) = ((2 * t : Nat) : Int) := by omega
        have e1 : (((2 * t : Nat) : Int)).tdiv 2 = (t : Int) := by rw [Int.tdiv_eq_ediv_of_nonneg (by omega)]; omega
        have e2 : (((2 * t : Nat) : Int)).tmod 2 = 0 := by rw [Int.tmod_eq_emod_of_nonneg (by omega)]; omega
        have hh := hex_here0 y k t hlt ht
        have HS := Lib.hid (hex_set y k t hlt (by omega))
        have lH2 := hxd_lt (upto y (k + 1)) t
        have lt16 : t < 16 := by omega
        generalize 2 * t = q at *
        have hK := Lib.hid hk
        clear hr ht hk
        go_wp2_with fail
        refine region_quiet_tail (Below wr.heap.size wr) 15 (by kernel_rfl) (by kernel_rfl) (below_drewN (Below.refl _ _) 1) ?_
        simp only [List.take_succ_cons, List.take_zero, List.drop_succ_cons, List.drop_zero]
        refine wpQ_move _ rfl rfl (.int .i64 (q : Int)) rfl ?_
        simp only [Act.put, List.setIfInBounds_toArray, List.set_cons_zero, List.set_cons_succ]
        refine wpQ_bin _ _ _ _ _ rfl rfl (.int .i64 (q : Int)) (.int .i64 2) rfl rfl (.int .i64 (t : Int)) (fun w' _ => quo2 _ _ _ _ e1 ⟨by omega, by omega⟩ w') ?_
        simp only [Act.put, List.setIfInBounds_toArray, List.set_cons_zero, List.set_cons_succ]
        refine wpQ_indexAddr _ _ _ rfl rfl (.pointer (some ⟨w.heap.size + 1, 0, none⟩)) (.int .i64 (t : Int)) rfl rfl (.pointer (some ⟨w.heap.size + 1, t, none⟩)) (fun w' _ => addrD16 _ _ lt16 w') ?_
        simp only [Act.put, List.setIfInBounds_toArray, List.set_cons_zero, List.set_cons_succ]
        refine wpQ_load _ _ rfl rfl (.pointer (some ⟨w.heap.size + 1, t, none⟩)) rfl (.int .u64 ((hxd (upto y k) t : Nat) : Int)) (fun w' hC => cell_u64 _ _ _ w' ((h1.after hC).cellTab t lt16)) ?_
        simp only [Act.put, List.setIfInBounds_toArray, List.set_cons_zero, List.set_cons_succ]
        refine wpQ_move _ rfl rfl (.slice (some ⟨b, o, none⟩) 32 c) rfl ?_
        simp only [Act.put, List.setIfInBounds_toArray, List.set_cons_zero, List.set_cons_succ]
        refine wpQ_move _ rfl rfl (.int .i64 (k : Int)) rfl ?_
        simp only [Act.put, List.setIfInBounds_toArray, List.set_cons_zero, List.set_cons_succ]
        refine wpQ_indexAddr _ _ _ rfl rfl (.slice (some ⟨b, o, none⟩) 32 c) (.int .i64 (k : Int)) rfl rfl (.pointer (some ⟨b, o + k, none⟩)) (fun w' _ => addrSl _ _ _ _ _ hlt w') ?_
        simp only [Act.put, List.setIfInBounds_toArray, List.set_cons_zero, List.set_cons_succ]
        refine wpQ_load _ _ rfl rfl (.pointer (some ⟨b, o + k, none⟩)) rfl (.int .u8 ((byB y k : Nat) : Int)) (fun w' hC => cell_u8 _ _ _ w' ((hC.cell (p := ⟨b, o + k, none⟩) lb2).trans cB)) ?_
        simp only [Act.put, List.setIfInBounds_toArray, List.set_cons_zero, List.set_cons_succ]
        refine wpQ_conv _ _ _ rfl rfl (.int .u8 ((byB y k : Nat) : Int)) rfl (.int .u64 ((byB y k : Nat) : Int)) (fun w' _ => conv864 _ lB w') ?_
        simp only [Act.put, List.setIfInBounds_toArray, List.set_cons_zero, List.set_cons_succ]
        refine wpQ_move _ rfl rfl (.int .i64 (q : Int)) rfl ?_
        simp only [Act.put, List.setIfInBounds_toArray, List.set_cons_zero, List.set_cons_succ]
        refine wpQ_bin _ _ _ _ _ rfl rfl (.int .i64 (q : Int)) (.int .i64 2) rfl rfl (.int .i64 0) (fun w' _ => rem25 _ _ _ _ e2 w') ?_
        simp only [Act.put, List.setIfInBounds_toArray, List.set_cons_zero, List.set_cons_succ]
        refine wpQ_bin _ _ _ _ _ rfl rfl (.int .i64 8) (.int .i64 0) rfl rfl (.int .i64 0) (fun w' _ => mul80 _ _ w') ?_
        simp only [Act.put, List.setIfInBounds_toArray, List.set_cons_zero, List.set_cons_succ]
        refine wpQ_bin _ _ _ _ _ rfl rfl (.int .u64 ((byB y k : Nat) : Int)) (.int .i64 0) rfl rfl (.int .u64 ((byB y k : Nat) : Int)) (fun w' _ => shl0 _ _ _ lB w') ?_
        simp only [Act.put, List.setIfInBounds_toArray, List.set_cons_zero, List.set_cons_succ]
        refine wpQ_bin _ _ _ _ _ rfl rfl (.int .u64 ((hxd (upto y k) t : Nat) : Int)) (.int .u64 ((byB y k : Nat) : Int)) rfl rfl (.int .u64 ((hxd (upto y (k + 1)) t : Nat) : Int)) (fun w' _ => addU _ _ _ _ _ hh lH2 w') ?_
        simp only [Act.put, List.setIfInBounds_toArray, List.set_cons_zero, List.set_cons_succ]
        refine wpQ_indexAddr _ _ _ rfl rfl (.pointer (some ⟨w.heap.size + 1, 0, none⟩)) (.int .i64 (t : Int)) rfl rfl (.pointer (some ⟨w.heap.size + 1, t, none⟩)) (fun w' _ => addrD16 _ _ lt16 w') ?_
        simp only [Act.put, List.setIfInBounds_toArray, List.set_cons_zero, List.set_cons_succ]
        refine wpQuiet_nil ?_
        intro w5 hC
        replace h0 := h0.after hC
        replace h1 := h1.after hC
        replace hb := below_trans hb hC
        clear hC cB lB e1 e2 hh lH2
        generalize hxd (upto y (k + 1)) t = z at *
        have f2 := h1.free t
        have c2 := h1.cellTab t lt16
        go_wp2_with fail
        go_roundw
        case rel => exact ⟨k + 1, by omega, by go_num, h0.far (by simp <;> omega) _, by rw [← HS.out]; exact h1.set t _, hb.setCell (by simp <;> omega) _⟩
        case measure => simp [intOf]; omega
      · obtain ⟨t, ht⟩ : ∃ t, 31 - k = 2 * t + 1 := ⟨(31 - k) / 2, by omega⟩
        have hqi : (31 : Int) - (k : Int) = ((2 * t + 1 : Nat) : Int) := by omega
        have e1 : (((2 * t + 1 : Nat) : Int)).tdiv 2 = (t : Int) := by rw [Int.tdiv_eq_ediv_of_nonneg (by omega)]; omega
        have e2 : (((2 * t + 1 : Nat) : Int)).tmod 2 = 1 := by rw [Int.tmod_eq_emod_of_nonneg (by omega)]; omega
        have hh := hex_here1 y k t hlt ht
        have HS := Lib.hid (hex_set y k t hlt (by omega))
        have lH2 := hxd_lt (upto y (k + 1)) t
        have lt16 : t < 16 := by omega
        generalize 2 * t + 1 = q at *
        have hK := Lib.hid hk
        clear hr ht hk
        go_wp2_with fail
        refine region_quiet_tail (Below wr.heap.size wr) 15 (by kernel_rfl) (by kernel_rfl) (below_drewN (Below.refl _ _) 1) ?_
        simp only [List.take_succ_cons, List.take_zero, List.drop_succ_cons, List.drop_zero]
        refine wpQ_move _ rfl rfl (.int .i64 (q : Int)) rfl ?_
        simp only [Act.put, List.setIfInBounds_toArray, List.set_cons_zero, List.set_cons_succ]
        refine wpQ_bin _ _ _ _ _ rfl rfl (.int .i64 (q : Int)) (.int .i64 2) rfl rfl (.int .i64 (t : Int)) (fun w' _ => quo2 _ _ _ _ e1 ⟨by omega, by omega⟩ w') ?_
        simp only [Act.put, List.setIfInBounds_toArray, List.set_cons_zero, List.set_cons_succ]
        refine wpQ_indexAddr _ _ _ rfl rfl (.pointer (some ⟨w.heap.size + 1, 0, none⟩)) (.int .i64 (t : Int)) rfl rfl (.pointer (some ⟨w.heap.size + 1, t, none⟩)) (fun w' _ => addrD16 _ _ lt16 w') ?_
        simp only [Act.put, List.setIfInBounds_toArray, List.set_cons_zero, List.set_cons_succ]
        refine wpQ_load _ _ rfl rfl (.pointer (some ⟨w.heap.size + 1, t, none⟩)) rfl (.int .u64 ((hxd (upto y k) t : Nat) : Int)) (fun w' hC => cell_u64 _ _ _ w' ((h1.after hC).cellTab t lt16)) ?_
        simp only [Act.put, List.setIfInBounds_toArray, List.set_cons_zero, List.set_cons_succ]
        refine wpQ_move _ rfl rfl (.slice (some ⟨b, o, none⟩) 32 c) rfl ?_
        simp only [Act.put, List.setIfInBounds_toArray, List.set_cons_zero, List.set_cons_succ]
        refine wpQ_move _ rfl rfl (.int .i64 (k : Int)) rfl ?_
        simp only [Act.put, List.setIfInBounds_toArray, List.set_cons_zero, List.set_cons_succ]
        refine wpQ_indexAddr _ _ _ rfl rfl (.slice (some ⟨b, o, none⟩) 32 c) (.int .i64 (k : Int)) rfl rfl (.pointer (some ⟨b, o + k, none⟩)) (fun w' _ => addrSl _ _ _ _ _ hlt w') ?_
        simp only [Act.put, List.setIfInBounds_toArray, List.set_cons_zero, List.set_cons_succ]
        refine wpQ_load _ _ rfl rfl (.pointer (some ⟨b, o + k, none⟩)) rfl (.int .u8 ((byB y k : Nat) : Int)) (fun w' hC => cell_u8 _ _ _ w' ((hC.cell (p := ⟨b, o + k, none⟩) lb2).trans cB)) ?_
        simp only [Act.put, List.setIfInBounds_toArray, List.set_cons_zero, List.set_cons_succ]
        refine wpQ_conv _ _ _ rfl rfl (.int .u8 ((byB y k : Nat) : Int)) rfl (.int .u64 ((byB y k : Nat) : Int)) (fun w' _ => conv864 _ lB w') ?_
        simp only [Act.put, List.setIfInBounds_toArray, List.set_cons_zero, List.set_cons_succ]
        refine wpQ_move _ rfl rfl (.int .i64 (q : Int)) rfl ?_
        simp only [Act.put, List.setIfInBounds_toArray, List.set_cons_zero, List.set_cons_succ]
        refine wpQ_bin _ _ _ _ _ rfl rfl (.int .i64 (q : Int)) (.int .i64 2) rfl rfl (.int .i64 1) (fun w' _ => rem25 _ _ _ _ e2 w') ?_
        simp only [Act.put, List.setIfInBounds_toArray, List.set_cons_zero, List.set_cons_succ]
        refine wpQ_bin _ _ _ _ _ rfl rfl (.int .i64 8) (.int .i64 1) rfl rfl (.int .i64 8) (fun w' _ => mul81 _ _ w') ?_
        simp only [Act.put, List.setIfInBounds_toArray, List.set_cons_zero, List.set_cons_succ]
        refine wpQ_bin _ _ _ _ _ rfl rfl (.int .u64 ((byB y k : Nat) : Int)) (.int .i64 8) rfl rfl (.int .u64 ((byB y k * 256 : Nat) : Int)) (fun w' _ => shl1 _ _ _ lB w') ?_
        simp only [Act.put, List.setIfInBounds_toArray, List.set_cons_zero, List.set_cons_succ]
        refine wpQ_bin _ _ _ _ _ rfl rfl (.int .u64 ((hxd (upto y k) t : Nat) : Int)) (.int .u64 ((byB y k * 256 : Nat) : Int)) rfl rfl (.int .u64 ((hxd (upto y (k + 1)) t : Nat) : Int)) (fun w' _ => addU _ _ _ _ _ hh lH2 w') ?_
        simp only [Act.put, List.setIfInBounds_toArray, List.set_cons_zero, List.set_cons_succ]
        refine wpQ_indexAddr _ _ _ rfl rfl (.pointer (some ⟨w.heap.size + 1, 0, none⟩)) (.int .i64 (t : Int)) rfl rfl (.pointer (some ⟨w.heap.size + 1, t, none⟩)) (fun w' _ => addrD16 _ _ lt16 w') ?_
        simp only [Act.put, List.setIfInBounds_toArray, List.set_cons_zero, List.set_cons_succ]
        refine wpQuiet_nil ?_
        intro w5 hC
        replace h0 := h0.after hC
        replace h1 := h1.after hC
        replace hb := below_trans hb hC
        clear hC cB lB e1 e2 hh lH2
        generalize hxd (upto y (k + 1)) t = z at *
        have f2 := h1.free t
        have c2 := h1.cellTab t lt16
        go_wp2_with fail
        go_roundw
        case rel => exact ⟨k + 1, by omega, by go_num, h0.far (by simp <;> omega) _, by rw [← HS.out]; exact h1.set t _, hb.setCell (by simp <;> omega) _⟩
        case measure => simp [intOf]; omega
    · have ek : k = 32 := by omega
      have dk : ¬ (k : Int) < 32 := by omega
      rw [ek, upto_end] at h1
      clear ek hk hlt
      go_wp2_with (first | refine wpList_load_has 37 _ rfl _ rfl rfl 37 _ h1 _ Tryd.underlying37 rfl (info16 _) ?_ | refine wpList_store_row rfl 37 _ _ rfl w.heap.size _ rfl rfl 37 _ h0 (info16 _) (by simp only [d16_size]) (tab_oneCell _ _ fun _ => rfl) ?_)
      exact bodyPost_ret (v := .agg (d16 y)) (results_cell_row rfl _ _ w.heap.size 37 _ _ _ rfl (h0.setRow _) Tryd.underlying37 rfl (info16 _)) rfl ⟨rfl, below_setRow hb (Nat.le_refl _) _⟩
set_option maxRecDepth 100000 in
set_option maxHeartbeats 1000000 in
theorem below5_any (x y : Nat) (w : World) (hx : x < 65536 ^ 16) (hy : y < 65536 ^ 16) :
    Calls Tryd.prog 22 #[.agg (d16 x), .agg (d16 y)] w fun e w' => e = .returned (.bool (ltB x y)) ∧ Below w.heap.size w w' := by
  have h0 : Has ((w.alloc (.cells (d16 x) 37)).alloc (.cells (d16 y) 37)) w.heap.size 37 (d16 x) := (Has.new w _ _).alloc _
  have h1 : Has ((w.alloc (.cells (d16 x) 37)).alloc (.cells (d16 y) 37)) (w.heap.size + 1) 37 (d16 y) := Has.new' (by simp)
  have hb0 : Below w.heap.size w ((w.alloc (.cells (d16 x) 37)).alloc (.cells (d16 y) 37)) := ((Below.refl _ _).alloc (Nat.le_refl _) _).alloc (by simp) _
  have H : Hid (x / 65536 ^ 16 = y / 65536 ^ 16) := Lib.hid (by rw [Nat.div_eq_of_lt hx, Nat.div_eq_of_lt hy])
  clear hx hy
  go_enter Tryd.func22, Tryd.ntmps22
  go_wp2_with fail
  go_loopw [5] (fun ct wr => ∃ k : Nat, k ≤ 16 ∧ ct = .int .i64 ((k : Int) - 1) ∧ Hid (x / 65536 ^ k = y / 65536 ^ k) ∧ Has wr w.heap.size 37 (d16 x) ∧ Has wr (w.heap.size + 1) 37 (d16 y) ∧ Below w.heap.size w wr) (fun ct _ => (intOf ct + 1).toNat)
  case atStart => exact ⟨16, by omega, rfl, H, h0, h1, hb0⟩
  case round =>
    clear h0 h1 hb0
    obtain ⟨k, hk, rfl, HK, h0, h1, hb⟩ := hrel
    clear H
    by_cases hlt : 0 < k
    · obtain ⟨k, rfl⟩ : ∃ j, k = j + 1 := ⟨k - 1, by omega⟩
      have ek : ((k + 1 : Nat) : Int) - 1 = (k : Int) := by omega
      rw [ek]
      clear ek
      have c0 := d16_at h0 k (by omega)
      have c1 := d16_at h1 k (by omega)
      have dk : (k : Int) < 16 := by omega
      by_cases he : hxd x k = hxd y k
      · have hd : (((hxd x k : Nat) : Int) == ((hxd y k : Nat) : Int)) = true := beq_iff_eq.2 (by omega)
        have HK' : Hid (x / 65536 ^ k = y / 65536 ^ k) := Lib.hid (by
          have e1 := div_stepB 65536 x k
          have e2 := div_stepB 65536 y k
          unfold hxd at he
          rw [e1, e2, HK.out, he])
        clear he HK
        go_wp2_with fail
        go_quiet (fail)
        go_wp2_with fail
        go_roundw
        case rel => exact ⟨k, by omega, by go_num, HK', h0.drewN _, h1.drewN _, below_drewN hb _⟩
        case measure => simp [intOf] <;> omega
      · have hd : (((hxd x k : Nat) : Int) == ((hxd y k : Nat) : Int)) = false := beq_eq_false_iff_ne.2 (by omega)
        have hl := ltB_dg x y k HK.out he
        have HL := Lib.hid hl
        clear he HK hl
        go_wp2_with fail
        go_quiet (fail)
        replace h0 := h0.drewN nq
        replace h1 := h1.drewN nq
        replace hb := below_drewN hb nq
        clear c0 c1
        generalize hq : Go.World.drewN _ nq = wr at *
        clear hq
        have c0 := d16_at h0 k (by omega)
        have c1 := d16_at h1 k (by omega)
        go_wp2_with fail
        go_quiet (fail)
        go_wp2_with fail
        go_ret
        exact ⟨by rw [HL.out]; rfl, below_drewN hb _⟩
    · have e0 : k = 0 := by omega
      subst e0
      have hf : ltB x y = false := by
        have := HK.out
        rw [Nat.pow_zero, Nat.div_one, Nat.div_one] at this
        simp [ltB, this]
      have HF := Lib.hid hf
      clear HK hf
      go_wp2_with fail
      go_ret
      exact ⟨by rw [HF.out]; rfl, hb⟩
end Go.Proofs.YtflkhlhpifmocaaDoor
namespace Go.Proofs.YtflkhlhpifmocaaDoor
open Go.RowKit

theorem zeroPt : (Tryd.prog.info? 39).map (fun i => (i.zero, i.size)) = some (some (.agg (ptC 0 0 0)), 48) := by kernel_rfl
theorem buildPt0 (W : World) : (Instr.build 39 #[]).run Tryd.prog W = .ok (.agg (ptC 0 0 0)) W := by kernel_rfl
theorem buildOne (W : World) : (Instr.build 37 #[(0, .int .u64 1)]).run Tryd.prog W = .ok (.agg (d16 1)) W := by kernel_rfl
/-- the halves of 64 bytes -/
theorem sliceLo (b o c : Nat) (hc : 64 ≤ c) (W : World) : (Instr.sliceAt 22 (.slice (some ⟨b, o, none⟩) 64 c) none (some (.int .i64 32)) none).run Tryd.prog W = .ok (.slice (some ⟨b, o, none⟩) 32 c) W := by
  have h1 : (64 : Int) ≤ (c : Int) := by omega
  have h3 : ¬ (c : Int) < 32 := by omega
  have h4 : ¬ c = 0 := by omega
  go_simp
theorem sliceHi (b o c : Nat) (hc : 64 ≤ c) (W : World) : (Instr.sliceAt 22 (.slice (some ⟨b, o, none⟩) 64 c) (some (.int .i64 32)) none none).run Tryd.prog W = .ok (.slice (some ⟨b, o + 32, none⟩) 32 (c - 32)) W := by
  have h1 : (64 : Int) ≤ (c : Int) := by omega
  have h2 : (c : Int) - 32 = ((c - 32 : Nat) : Int) := by omega
  have h4 : ¬ c = 32 := by omega
  go_simp
attribute [local go_sem] zero16 zero48 one16
set_option maxRecDepth 100000 in
set_option maxHeartbeats 2000000 in
theorem key5_len (A : Option Addr) (n c : Nat) (hn : n ≠ 64) (w : World) : Calls Tryd.prog 9 #[.slice A n c] w fun e w' => e = .returned (.tuple #[.agg (ptC 0 0 0), .bool false]) ∧ Below w.heap.size w w' := by
  have hd : ((n : Int) == 64) = false := beq_eq_false_iff_ne.2 (by omega)
  have hR : Has (w.alloc (.cells (ptC 0 0 0) 39)) w.heap.size 39 (ptC 0 0 0) := Has.new w _ _
  have hb0 : Below w.heap.size w (w.alloc (.cells (ptC 0 0 0) 39)) := (Below.refl _ _).alloc (Nat.le_refl _) _
  go_enter Tryd.func9, Tryd.ntmps9
  go_wp2_with (first | refine wpList_parts rfl 39 _ rfl #[] rfl (.agg (ptC 0 0 0)) buildPt0 ?_ | refine wpList_store_row rfl 39 _ _ rfl w.heap.size _ rfl rfl 39 _ hR (infoPt _ _ _) (by simp only [ptC_size]) (tab_oneCell _ _ fun _ => rfl) ?_)
  exact bodyPost_ret (v := .tuple #[.agg (ptC 0 0 0), .bool false]) (results_row_tmp rfl _ _ w.heap.size 39 _ _ _ rfl rfl (hR.setRow _) Tryd.underlying39 rfl (infoPt _ _ _)) rfl ⟨rfl, below_setRow hb0 (Nat.le_refl _) _⟩
set_option maxRecDepth 100000 in
set_option maxHeartbeats 2000000 in
theorem key5_badX (x y b o c m : Nat) (w : World) (hx : x < big) (hy : y < big) (hm : m < 65536 ^ 16) (hlb : b < w.heap.size) (hc : 64 ≤ c) (h1 : ∀ j, j < 32 → w.cell? ⟨b, o + j, none⟩ = some (.int .u8 ((byB x j : Nat) : Int))) (h2 : ∀ j, j < 32 → w.cell? ⟨b, o + 32 + j, none⟩ = some (.int .u8 ((byB y j : Nat) : Int)))
    (hP : ∀ W, Calls Tryd.prog 26 #[] W fun e w' => e = .returned (.agg (d16 m)) ∧ Below W.heap.size W w') (hm0 : 0 < m) (h3 : ltB x m = false) :
    Calls Tryd.prog 9 #[.slice (some ⟨b, o, none⟩) 64 c] w fun e w' => e = .returned (.tuple #[.agg (ptC 0 0 0), .bool false]) ∧ Below w.heap.size w w' := by
  have kN1 := fun W (h : Below w.heap.size w W) => num5_any x b o c W hx (Nat.lt_of_lt_of_le hlb h.size) (fun j hj => (h.cell (p := ⟨b, o + j, none⟩) hlb).trans (h1 j hj))
  have kN2 := fun W (h : Below w.heap.size w W) => num5_any y b (o + 32) (c - 32) W hy (Nat.lt_of_lt_of_le hlb h.size) (fun j hj => (h.cell (p := ⟨b, o + 32 + j, none⟩) hlb).trans (h2 j hj))
  have kX := fun W => below5_any x m W (by rw [← big_hex]; exact hx) hm
  have kY := fun W => below5_any y m W (by rw [← big_hex]; exact hy) hm
  rw [h3] at kX
  clear kY
  have kF := fun W => newField_any m W hm0 hm
  have hsA := sliceLo b o c hc
  have hsB := sliceHi b o c hc
  clear h1 h2 h3  hx hy hm hm0 hc hlb
  have n0 := d16_ne 0
  have hR : Has (w.alloc (.cells (ptC 0 0 0) 39)) w.heap.size 39 (ptC 0 0 0) := Has.new w _ _
  have hb0 : Below w.heap.size w (w.alloc (.cells (ptC 0 0 0) 39)) := (Below.refl _ _).alloc (Nat.le_refl _) _
  go_enter Tryd.func9, Tryd.ntmps9
  go_wp2_with fail
  generalize World.alloc w _ = U0 at *
  have oR := hR.lt
  refine region_facts 8 [] [.val (.slice (some ⟨b, o, none⟩) 64 c), .val (.slice (some ⟨b, o, none⟩) 32 c), .val (.agg (d16 x)), .val (.slice (some ⟨b, o, none⟩) 64 c), .val (.slice (some ⟨b, o + 32, none⟩) 32 (c - 32)), .val (.agg (d16 y)), .new 37 (d16 0), .new 37 (d16 0)]
    (by kernel_rfl) (by kernel_rfl) (fun _ _ _ _ _ h => h) ?_ ?_
  · simp only [List.take_succ_cons, List.take_zero, StepsOK]
    refine ⟨?_, ?_, ?_, ?_, ?_, ?_, ?_, ?_, trivial⟩
    · intro v w' hb hf K hKt
      simp only [putAll, Act.put, List.setIfInBounds_toArray, List.set_cons_zero, List.set_cons_succ, Nat.zero_add, Nat.reduceAdd] at hKt ⊢
      go_simp
      exact hKt _ (Below.refl _ _)
    · intro v w' hb hf K hKt
      have f0 : v 0 = _ := hf ⟨0, .data⟩ (by simp) rfl
      simp only [putAll, Act.put, List.setIfInBounds_toArray, List.set_cons_zero, List.set_cons_succ, Nat.zero_add, Nat.reduceAdd] at hKt ⊢
      rw [f0] at hKt ⊢
      go_simp
      exact hKt _ (Below.refl _ _)
    · intro v w' hb hf K hKt
      have f1 : v 1 = _ := hf ⟨1, .data⟩ (by simp) rfl
      simp only [putAll, Act.put, List.setIfInBounds_toArray, List.set_cons_zero, List.set_cons_succ, Nat.zero_add, Nat.reduceAdd] at hKt ⊢
      rw [f1] at hKt ⊢
      go_simp
      refine (kN1 w' (below_trans hb0 hb)).mono ?_
      rintro e w'' ⟨rfl, hb2⟩
      exact hKt _ hb2
    · intro v w' hb hf K hKt
      simp only [putAll, Act.put, List.setIfInBounds_toArray, List.set_cons_zero, List.set_cons_succ, Nat.zero_add, Nat.reduceAdd] at hKt ⊢
      go_simp
      exact hKt _ (Below.refl _ _)
    · intro v w' hb hf K hKt
      have f3 : v 3 = _ := hf ⟨3, .data⟩ (by simp) rfl
      simp only [putAll, Act.put, List.setIfInBounds_toArray, List.set_cons_zero, List.set_cons_succ, Nat.zero_add, Nat.reduceAdd] at hKt ⊢
      rw [f3] at hKt ⊢
      go_simp
      exact hKt _ (Below.refl _ _)
    · intro v w' hb hf K hKt
      have f4 : v 4 = _ := hf ⟨4, .data⟩ (by simp) rfl
      simp only [putAll, Act.put, List.setIfInBounds_toArray, List.set_cons_zero, List.set_cons_succ, Nat.zero_add, Nat.reduceAdd] at hKt ⊢
      rw [f4] at hKt ⊢
      go_simp
      refine (kN2 w' (below_trans hb0 hb)).mono ?_
      rintro e w'' ⟨rfl, hb2⟩
      exact hKt _ hb2
    · exact ⟨rfl, rfl, zeroV16⟩
    · exact ⟨rfl, rfl, zeroV16⟩
  intro v u1 hb hF hD
  have f0 : v 0 = _ := hF 0 (by decide)
  have f1 : v 1 = _ := hF 1 (by decide)
  have f2 : v 2 = _ := hF 2 (by decide)
  have f3 : v 3 = _ := hF 3 (by decide)
  have f4 : v 4 = _ := hF 4 (by decide)
  have f5 : v 5 = _ := hF 5 (by decide)
  obtain ⟨gx, f6, hg6, hl6, hz6⟩ := hF 6 (by decide)
  replace hz6 : Has u1 gx 37 (d16 0) := hz6
  obtain ⟨gy, f7, hg7, hl7, hz7⟩ := hF 7 (by decide)
  replace hz7 : Has u1 gy 37 (d16 0) := hz7
  have hne6_7 : gx ≠ gy := fun h => hD 6 7 (by decide) (by decide) (by decide) rfl rfl (by rw [f6, f7, h])
  simp only [List.take_succ_cons, List.take_zero, List.drop_succ_cons, List.drop_zero, putAll, Act.put, List.setIfInBounds_toArray, List.set_cons_zero, List.set_cons_succ, Nat.zero_add, Nat.reduceAdd]
  rw [f0, f1, f2, f3, f4, f5, f6, f7]
  clear hF hD f0 f1 f2 f3 f4 f5 f6 f7
  have hs6 := hz6
  have hs7 := (hz7).farRow (k := gx) (by omega) (d16 x)
  have hBW := below_setRow (below_setRow (hb) (g := gx) hg6 (d16 x)) (g := gy) hg7 (d16 y)
  have hX := ((hz6).setRow (d16 x)).farRow (k := gy) (by omega) (d16 y)
  have hY := ((hz7).farRow (k := gx) (by omega) (d16 x)).setRow (d16 y)
  replace hR := hR.after hBW
  replace hb0 := below_trans hb0 hBW
  go_wp2_with (first | refine wpList_store_row rfl 37 _ _ rfl gx _ rfl rfl 37 (d16 0) hs6 (info16 _) (by simp only [d16_size]) (tab_oneCell _ _ fun _ => rfl) ?_ | (refine wpList_store_row rfl 37 _ _ rfl gy _ rfl rfl 37 (d16 0) hs7 (info16 _) (by simp only [d16_size]) (tab_oneCell _ _ fun _ => rfl) ?_; generalize hWW : World.setRow _ gy _ = U1 at *; clear hWW))
  clear hBW hb hs6 hz6   hs7 hz7  
  clear kN1 kN2 hsA hsB
  refine (hP _).mono ?_
  rintro e u2 ⟨rfl, hx⟩
  replace hX := hX.after hx; replace hY := hY.after hx; replace hR := hR.after hx; replace hb0 := below_trans hb0 hx
  clear hx hP
  go_wp2_with fail
  refine (kF _).mono ?_
  rintro e u3 ⟨⟨f, rfl, hF⟩, hx⟩
  replace hX := hX.after hx; replace hY := hY.after hx; replace hR := hR.after hx; replace hb0 := below_trans hb0 hx
  clear hx kF
  go_wp2_with fail
  refine region_quiet_tail (Below u3.heap.size u3) 22 (by kernel_rfl) (by kernel_rfl) (below_drewN (Below.refl _ _) 1) ?_
  simp only [List.take_succ_cons, List.take_zero, List.drop_succ_cons, List.drop_zero]
  refine wpQ_has 37 _ rfl _ rfl rfl 37 _ (fun w' hC => hX.after hC) _ Tryd.underlying37 rfl (info16 _) ?_
  simp only [Act.put, List.setIfInBounds_toArray, List.set_cons_zero, List.set_cons_succ]
  refine wpQ_move _ rfl rfl (.pointer (some ⟨f, 0, none⟩)) rfl ?_
  simp only [Act.put, List.setIfInBounds_toArray, List.set_cons_zero, List.set_cons_succ]
  refine wpQ_val rfl (.pointer (some ⟨f, 0, none⟩)) (fun w' _ => by go_simp) ?_
  simp only [Act.put, List.setIfInBounds_toArray, List.set_cons_zero, List.set_cons_succ]
  refine wpQ_val rfl (.pointer (some ⟨f, 0, none⟩)) (fun w' _ => by go_simp) ?_
  simp only [Act.put, List.setIfInBounds_toArray, List.set_cons_zero, List.set_cons_succ]
  refine wpQ_load_hex rfl _ rfl f 0 rfl m (fun w' hC => fld_mod (show Has w' f 61 (fldC m 16) from hF.after hC)) ?_
  simp only [Act.put, List.setIfInBounds_toArray, List.set_cons_zero, List.set_cons_succ]
  refine wpQ_fn 22 _ _ rfl rfl #[.agg (d16 x), .agg (d16 m)] rfl (fun _ => by go_simp) (.bool false) (fun w' hC => (kX w').mono fun e w'' ⟨he, hb⟩ => ⟨he, below_class hC hb⟩) ?_
  simp only [Act.put, List.setIfInBounds_toArray, List.set_cons_zero, List.set_cons_succ]
  refine wpQ_un _ _ _ rfl rfl (.bool false) rfl (.bool true) (fun w' _ => notB false w') ?_
  simp only [Act.put, List.setIfInBounds_toArray, List.set_cons_zero, List.set_cons_succ]
  refine wpQ_move _ rfl rfl (.bool true) rfl ?_
  simp only [Act.put, List.setIfInBounds_toArray, List.set_cons_zero, List.set_cons_succ]
  refine BigFrame.wpQuiet_skip rfl ?_
  simp only [Act.put, List.setIfInBounds_toArray, List.set_cons_zero, List.set_cons_succ]
  refine BigFrame.wpQuiet_skip rfl ?_
  simp only [Act.put, List.setIfInBounds_toArray, List.set_cons_zero, List.set_cons_succ]
  refine BigFrame.wpQuiet_skip rfl ?_
  simp only [Act.put, List.setIfInBounds_toArray, List.set_cons_zero, List.set_cons_succ]
  refine BigFrame.wpQuiet_skip rfl ?_
  simp only [Act.put, List.setIfInBounds_toArray, List.set_cons_zero, List.set_cons_succ]
  refine BigFrame.wpQuiet_skip rfl ?_
  simp only [Act.put, List.setIfInBounds_toArray, List.set_cons_zero, List.set_cons_succ]
  refine BigFrame.wpQuiet_skip rfl ?_
  simp only [Act.put, List.setIfInBounds_toArray, List.set_cons_zero, List.set_cons_succ]
  refine BigFrame.wpQuiet_skip rfl ?_
  simp only [Act.put, List.setIfInBounds_toArray, List.set_cons_zero, List.set_cons_succ]
  refine wpQ_pick _ _ _ rfl rfl true rfl (.bool true) rfl ?_
  simp only [Act.put, List.setIfInBounds_toArray, List.set_cons_zero, List.set_cons_succ]
  refine wpQ_move _ rfl rfl (.bool true) rfl ?_
  simp only [Act.put, List.setIfInBounds_toArray, List.set_cons_zero, List.set_cons_succ]
  refine BigFrame.wpQuiet_skip rfl ?_
  simp only [Act.put, List.setIfInBounds_toArray, List.set_cons_zero, List.set_cons_succ]
  refine BigFrame.wpQuiet_skip rfl ?_
  simp only [Act.put, List.setIfInBounds_toArray, List.set_cons_zero, List.set_cons_succ]
  refine BigFrame.wpQuiet_skip rfl ?_
  simp only [Act.put, List.setIfInBounds_toArray, List.set_cons_zero, List.set_cons_succ]
  refine BigFrame.wpQuiet_skip rfl ?_
  simp only [Act.put, List.setIfInBounds_toArray, List.set_cons_zero, List.set_cons_succ]
  refine BigFrame.wpQuiet_skip rfl ?_
  simp only [Act.put, List.setIfInBounds_toArray, List.set_cons_zero, List.set_cons_succ]
  refine wpQuiet_nil ?_
  intro u4 hC
  replace hX := hX.after hC; replace hY := hY.after hC; replace hR := hR.after hC; replace hb0 := below_trans hb0 hC
  clear hC hF
  go_wp2_with (first | refine wpList_parts rfl 39 _ rfl #[] rfl (.agg (ptC 0 0 0)) buildPt0 ?_ | refine wpList_store_row rfl 39 _ _ rfl w.heap.size _ rfl rfl 39 _ hR (infoPt _ _ _) (by simp only [ptC_size]) (tab_oneCell _ _ fun _ => rfl) ?_)
  exact bodyPost_ret (v := .tuple #[.agg (ptC 0 0 0), .bool false]) (results_row_tmp rfl _ _ w.heap.size 39 _ _ _ rfl rfl (hR.setRow _) Tryd.underlying39 rfl (infoPt _ _ _)) rfl ⟨rfl, below_setRow hb0 (Nat.le_refl _) _⟩
set_option maxRecDepth 100000 in
set_option maxHeartbeats 2000000 in
theorem key5_badY (x y b o c m : Nat) (w : World) (hx : x < big) (hy : y < big) (hm : m < 65536 ^ 16) (hlb : b < w.heap.size) (hc : 64 ≤ c) (h1 : ∀ j, j < 32 → w.cell? ⟨b, o + j, none⟩ = some (.int .u8 ((byB x j : Nat) : Int))) (h2 : ∀ j, j < 32 → w.cell? ⟨b, o + 32 + j, none⟩ = some (.int .u8 ((byB y j : Nat) : Int)))
    (hP : ∀ W, Calls Tryd.prog 26 #[] W fun e w' => e = .returned (.agg (d16 m)) ∧ Below W.heap.size W w') (hm0 : 0 < m) (h3 : ltB x m = true) (h4 : ltB y m = false) :
    Calls Tryd.prog 9 #[.slice (some ⟨b, o, none⟩) 64 c] w fun e w' => e = .returned (.tuple #[.agg (ptC 0 0 0), .bool false]) ∧ Below w.heap.size w w' := by
  have kN1 := fun W (h : Below w.heap.size w W) => num5_any x b o c W hx (Nat.lt_of_lt_of_le hlb h.size) (fun j hj => (h.cell (p := ⟨b, o + j, none⟩) hlb).trans (h1 j hj))
  have kN2 := fun W (h : Below w.heap.size w W) => num5_any y b (o + 32) (c - 32) W hy (Nat.lt_of_lt_of_le hlb h.size) (fun j hj => (h.cell (p := ⟨b, o + 32 + j, none⟩) hlb).trans (h2 j hj))
  have kX := fun W => below5_any x m W (by rw [← big_hex]; exact hx) hm
  have kY := fun W => below5_any y m W (by rw [← big_hex]; exact hy) hm
  rw [h3] at kX
  rw [h4] at kY
  have kF := fun W => newField_any m W hm0 hm
  have hsA := sliceLo b o c hc
  have hsB := sliceHi b o c hc
  clear h1 h2 h3 h4 hx hy hm hm0 hc hlb
  have n0 := d16_ne 0
  have hR : Has (w.alloc (.cells (ptC 0 0 0) 39)) w.heap.size 39 (ptC 0 0 0) := Has.new w _ _
  have hb0 : Below w.heap.size w (w.alloc (.cells (ptC 0 0 0) 39)) := (Below.refl _ _).alloc (Nat.le_refl _) _
  go_enter Tryd.func9, Tryd.ntmps9
  go_wp2_with fail
  generalize World.alloc w _ = U0 at *
  have oR := hR.lt
  refine region_facts 8 [] [.val (.slice (some ⟨b, o, none⟩) 64 c), .val (.slice (some ⟨b, o, none⟩) 32 c), .val (.agg (d16 x)), .val (.slice (some ⟨b, o, none⟩) 64 c), .val (.slice (some ⟨b, o + 32, none⟩) 32 (c - 32)), .val (.agg (d16 y)), .new 37 (d16 0), .new 37 (d16 0)]
    (by kernel_rfl) (by kernel_rfl) (fun _ _ _ _ _ h => h) ?_ ?_
  · simp only [List.take_succ_cons, List.take_zero, StepsOK]
    refine ⟨?_, ?_, ?_, ?_, ?_, ?_, ?_, ?_, trivial⟩
    · intro v w' hb hf K hKt
      simp only [putAll, Act.put, List.setIfInBounds_toArray, List.set_cons_zero, List.set_cons_succ, Nat.zero_add, Nat.reduceAdd] at hKt ⊢
      go_simp
      exact hKt _ (Below.refl _ _)
    · intro v w' hb hf K hKt
      have f0 : v 0 = _ := hf ⟨0, .data⟩ (by simp) rfl
      simp only [putAll, Act.put, List.setIfInBounds_toArray, List.set_cons_zero, List.set_cons_succ, Nat.zero_add, Nat.reduceAdd] at hKt ⊢
      rw [f0] at hKt ⊢
      go_simp
      exact hKt _ (Below.refl _ _)
    · intro v w' hb hf K hKt
      have f1 : v 1 = _ := hf ⟨1, .data⟩ (by simp) rfl
      simp only [putAll, Act.put, List.setIfInBounds_toArray, List.set_cons_zero, List.set_cons_succ, Nat.zero_add, Nat.reduceAdd] at hKt ⊢
      rw [f1] at hKt ⊢
      go_simp
      refine (kN1 w' (below_trans hb0 hb)).mono ?_
      rintro e w'' ⟨rfl, hb2⟩
      exact hKt _ hb2
    · intro v w' hb hf K hKt
      simp only [putAll, Act.put, List.setIfInBounds_toArray, List.set_cons_zero, List.set_cons_succ, Nat.zero_add, Nat.reduceAdd] at hKt ⊢
      go_simp
      exact hKt _ (Below.refl _ _)
    · intro v w' hb hf K hKt
      have f3 : v 3 = _ := hf ⟨3, .data⟩ (by simp) rfl
      simp only [putAll, Act.put, List.setIfInBounds_toArray, List.set_cons_zero, List.set_cons_succ, Nat.zero_add, Nat.reduceAdd] at hKt ⊢
      rw [f3] at hKt ⊢
      go_simp
      exact hKt _ (Below.refl _ _)
    · intro v w' hb hf K hKt
      have f4 : v 4 = _ := hf ⟨4, .data⟩ (by simp) rfl
      simp only [putAll, Act.put, List.setIfInBounds_toArray, List.set_cons_zero, List.set_cons_succ, Nat.zero_add, Nat.reduceAdd] at hKt ⊢
      rw [f4] at hKt ⊢
      go_simp
      refine (kN2 w' (below_trans hb0 hb)).mono ?_
      rintro e w'' ⟨rfl, hb2⟩
      exact hKt _ hb2
    · exact ⟨rfl, rfl, zeroV16⟩
    · exact ⟨rfl, rfl, zeroV16⟩
  intro v u1 hb hF hD
  have f0 : v 0 = _ := hF 0 (by decide)
  have f1 : v 1 = _ := hF 1 (by decide)
  have f2 : v 2 = _ := hF 2 (by decide)
  have f3 : v 3 = _ := hF 3 (by decide)
  have f4 : v 4 = _ := hF 4 (by decide)
  have f5 : v 5 = _ := hF 5 (by decide)
  obtain ⟨gx, f6, hg6, hl6, hz6⟩ := hF 6 (by decide)
  replace hz6 : Has u1 gx 37 (d16 0) := hz6
  obtain ⟨gy, f7, hg7, hl7, hz7⟩ := hF 7 (by decide)
  replace hz7 : Has u1 gy 37 (d16 0) := hz7
  have hne6_7 : gx ≠ gy := fun h => hD 6 7 (by decide) (by decide) (by decide) rfl rfl (by rw [f6, f7, h])
  simp only [List.take_succ_cons, List.take_zero, List.drop_succ_cons, List.drop_zero, putAll, Act.put, List.setIfInBounds_toArray, List.set_cons_zero, List.set_cons_succ, Nat.zero_add, Nat.reduceAdd]
  rw [f0, f1, f2, f3, f4, f5, f6, f7]
  clear hF hD f0 f1 f2 f3 f4 f5 f6 f7
  have hs6 := hz6
  have hs7 := (hz7).farRow (k := gx) (by omega) (d16 x)
  have hBW := below_setRow (below_setRow (hb) (g := gx) hg6 (d16 x)) (g := gy) hg7 (d16 y)
  have hX := ((hz6).setRow (d16 x)).farRow (k := gy) (by omega) (d16 y)
  have hY := ((hz7).farRow (k := gx) (by omega) (d16 x)).setRow (d16 y)
  replace hR := hR.after hBW
  replace hb0 := below_trans hb0 hBW
  go_wp2_with (first | refine wpList_store_row rfl 37 _ _ rfl gx _ rfl rfl 37 (d16 0) hs6 (info16 _) (by simp only [d16_size]) (tab_oneCell _ _ fun _ => rfl) ?_ | (refine wpList_store_row rfl 37 _ _ rfl gy _ rfl rfl 37 (d16 0) hs7 (info16 _) (by simp only [d16_size]) (tab_oneCell _ _ fun _ => rfl) ?_; generalize hWW : World.setRow _ gy _ = U1 at *; clear hWW))
  clear hBW hb hs6 hz6   hs7 hz7  
  clear kN1 kN2 hsA hsB
  refine (hP _).mono ?_
  rintro e u2 ⟨rfl, hx⟩
  replace hX := hX.after hx; replace hY := hY.after hx; replace hR := hR.after hx; replace hb0 := below_trans hb0 hx
  clear hx hP
  go_wp2_with fail
  refine (kF _).mono ?_
  rintro e u3 ⟨⟨f, rfl, hF⟩, hx⟩
  replace hX := hX.after hx; replace hY := hY.after hx; replace hR := hR.after hx; replace hb0 := below_trans hb0 hx
  clear hx kF
  go_wp2_with fail
  refine region_quiet_tail (Below u3.heap.size u3) 22 (by kernel_rfl) (by kernel_rfl) (below_drewN (Below.refl _ _) 1) ?_
  simp only [List.take_succ_cons, List.take_zero, List.drop_succ_cons, List.drop_zero]
  refine wpQ_has 37 _ rfl _ rfl rfl 37 _ (fun w' hC => hX.after hC) _ Tryd.underlying37 rfl (info16 _) ?_
  simp only [Act.put, List.setIfInBounds_toArray, List.set_cons_zero, List.set_cons_succ]
  refine wpQ_move _ rfl rfl (.pointer (some ⟨f, 0, none⟩)) rfl ?_
  simp only [Act.put, List.setIfInBounds_toArray, List.set_cons_zero, List.set_cons_succ]
  refine wpQ_val rfl (.pointer (some ⟨f, 0, none⟩)) (fun w' _ => by go_simp) ?_
  simp only [Act.put, List.setIfInBounds_toArray, List.set_cons_zero, List.set_cons_succ]
  refine wpQ_val rfl (.pointer (some ⟨f, 0, none⟩)) (fun w' _ => by go_simp) ?_
  simp only [Act.put, List.setIfInBounds_toArray, List.set_cons_zero, List.set_cons_succ]
  refine wpQ_load_hex rfl _ rfl f 0 rfl m (fun w' hC => fld_mod (show Has w' f 61 (fldC m 16) from hF.after hC)) ?_
  simp only [Act.put, List.setIfInBounds_toArray, List.set_cons_zero, List.set_cons_succ]
  refine wpQ_fn 22 _ _ rfl rfl #[.agg (d16 x), .agg (d16 m)] rfl (fun _ => by go_simp) (.bool true) (fun w' hC => (kX w').mono fun e w'' ⟨he, hb⟩ => ⟨he, below_class hC hb⟩) ?_
  simp only [Act.put, List.setIfInBounds_toArray, List.set_cons_zero, List.set_cons_succ]
  refine wpQ_un _ _ _ rfl rfl (.bool true) rfl (.bool false) (fun w' _ => notB true w') ?_
  simp only [Act.put, List.setIfInBounds_toArray, List.set_cons_zero, List.set_cons_succ]
  refine wpQ_move _ rfl rfl (.bool false) rfl ?_
  simp only [Act.put, List.setIfInBounds_toArray, List.set_cons_zero, List.set_cons_succ]
  refine wpQ_has 37 _ rfl _ rfl rfl 37 _ (fun w' hC => hY.after hC) _ Tryd.underlying37 rfl (info16 _) ?_
  simp only [Act.put, List.setIfInBounds_toArray, List.set_cons_zero, List.set_cons_succ]
  refine wpQ_move _ rfl rfl (.pointer (some ⟨f, 0, none⟩)) rfl ?_
  simp only [Act.put, List.setIfInBounds_toArray, List.set_cons_zero, List.set_cons_succ]
  refine wpQ_val rfl (.pointer (some ⟨f, 0, none⟩)) (fun w' _ => by go_simp) ?_
  simp only [Act.put, List.setIfInBounds_toArray, List.set_cons_zero, List.set_cons_succ]
  refine wpQ_val rfl (.pointer (some ⟨f, 0, none⟩)) (fun w' _ => by go_simp) ?_
  simp only [Act.put, List.setIfInBounds_toArray, List.set_cons_zero, List.set_cons_succ]
  refine wpQ_load_hex rfl _ rfl f 0 rfl m (fun w' hC => fld_mod (show Has w' f 61 (fldC m 16) from hF.after hC)) ?_
  simp only [Act.put, List.setIfInBounds_toArray, List.set_cons_zero, List.set_cons_succ]
  refine wpQ_fn 22 _ _ rfl rfl #[.agg (d16 y), .agg (d16 m)] rfl (fun _ => by go_simp) (.bool false) (fun w' hC => (kY w').mono fun e w'' ⟨he, hb⟩ => ⟨he, below_class hC hb⟩) ?_
  simp only [Act.put, List.setIfInBounds_toArray, List.set_cons_zero, List.set_cons_succ]
  refine wpQ_un _ _ _ rfl rfl (.bool false) rfl (.bool true) (fun w' _ => notB false w') ?_
  simp only [Act.put, List.setIfInBounds_toArray, List.set_cons_zero, List.set_cons_succ]
  refine wpQ_pick _ _ _ rfl rfl false rfl (.bool true) rfl ?_
  simp only [Act.put, List.setIfInBounds_toArray, List.set_cons_zero, List.set_cons_succ]
  refine wpQ_move _ rfl rfl (.bool true) rfl ?_
  simp only [Act.put, List.setIfInBounds_toArray, List.set_cons_zero, List.set_cons_succ]
  refine BigFrame.wpQuiet_skip rfl ?_
  simp only [Act.put, List.setIfInBounds_toArray, List.set_cons_zero, List.set_cons_succ]
  refine BigFrame.wpQuiet_skip rfl ?_
  simp only [Act.put, List.setIfInBounds_toArray, List.set_cons_zero, List.set_cons_succ]
  refine BigFrame.wpQuiet_skip rfl ?_
  simp only [Act.put, List.setIfInBounds_toArray, List.set_cons_zero, List.set_cons_succ]
  refine BigFrame.wpQuiet_skip rfl ?_
  simp only [Act.put, List.setIfInBounds_toArray, List.set_cons_zero, List.set_cons_succ]
  refine BigFrame.wpQuiet_skip rfl ?_
  simp only [Act.put, List.setIfInBounds_toArray, List.set_cons_zero, List.set_cons_succ]
  refine wpQuiet_nil ?_
  intro u4 hC
  replace hX := hX.after hC; replace hY := hY.after hC; replace hR := hR.after hC; replace hb0 := below_trans hb0 hC
  clear hC hF
  go_wp2_with (first | refine wpList_parts rfl 39 _ rfl #[] rfl (.agg (ptC 0 0 0)) buildPt0 ?_ | refine wpList_store_row rfl 39 _ _ rfl w.heap.size _ rfl rfl 39 _ hR (infoPt _ _ _) (by simp only [ptC_size]) (tab_oneCell _ _ fun _ => rfl) ?_)
  exact bodyPost_ret (v := .tuple #[.agg (ptC 0 0 0), .bool false]) (results_row_tmp rfl _ _ w.heap.size 39 _ _ _ rfl rfl (hR.setRow _) Tryd.underlying39 rfl (infoPt _ _ _)) rfl ⟨rfl, below_setRow hb0 (Nat.le_refl _) _⟩
set_option maxRecDepth 100000 in
set_option maxHeartbeats 2000000 in
theorem key5_both (x y b o c m : Nat) (w : World) (hx : x < big) (hy : y < big) (hm : m < 65536 ^ 16) (hlb : b < w.heap.size) (hc : 64 ≤ c) (h1 : ∀ j, j < 32 → w.cell? ⟨b, o + j, none⟩ = some (.int .u8 ((byB x j : Nat) : Int))) (h2 : ∀ j, j < 32 → w.cell? ⟨b, o + 32 + j, none⟩ = some (.int .u8 ((byB y j : Nat) : Int)))
    (hP : ∀ W, Calls Tryd.prog 26 #[] W fun e w' => e = .returned (.agg (d16 m)) ∧ Below W.heap.size W w') (hm0 : 0 < m) (h3 : ltB x m = true) (h4 : ltB y m = true) (r : Bool) (kO : ∀ g W, IsField W g m → Calls Tryd.prog 32 #[.pointer (some ⟨g, 0, none⟩), .agg (d16 x), .agg (d16 y)] W fun e w' => e = .returned (.bool r) ∧ Below W.heap.size W w') :
    Calls Tryd.prog 9 #[.slice (some ⟨b, o, none⟩) 64 c] w fun e w' => e = .returned (.tuple #[.agg (if r then ptC x y 1 else ptC 0 0 0), .bool r]) ∧ Below w.heap.size w w' := by
  have kN1 := fun W (h : Below w.heap.size w W) => num5_any x b o c W hx (Nat.lt_of_lt_of_le hlb h.size) (fun j hj => (h.cell (p := ⟨b, o + j, none⟩) hlb).trans (h1 j hj))
  have kN2 := fun W (h : Below w.heap.size w W) => num5_any y b (o + 32) (c - 32) W hy (Nat.lt_of_lt_of_le hlb h.size) (fun j hj => (h.cell (p := ⟨b, o + 32 + j, none⟩) hlb).trans (h2 j hj))
  have kX := fun W => below5_any x m W (by rw [← big_hex]; exact hx) hm
  have kY := fun W => below5_any y m W (by rw [← big_hex]; exact hy) hm
  rw [h3] at kX
  rw [h4] at kY
  have kF := fun W => newField_any m W hm0 hm
  have hsA := sliceLo b o c hc
  have hsB := sliceHi b o c hc
  clear h1 h2 h3 h4 hx hy hm hm0 hc hlb
  have n0 := d16_ne 0
  have hR : Has (w.alloc (.cells (ptC 0 0 0) 39)) w.heap.size 39 (ptC 0 0 0) := Has.new w _ _
  have hb0 : Below w.heap.size w (w.alloc (.cells (ptC 0 0 0) 39)) := (Below.refl _ _).alloc (Nat.le_refl _) _
  go_enter Tryd.func9, Tryd.ntmps9
  go_wp2_with fail
  generalize World.alloc w _ = U0 at *
  have oR := hR.lt
  refine region_facts 8 [] [.val (.slice (some ⟨b, o, none⟩) 64 c), .val (.slice (some ⟨b, o, none⟩) 32 c), .val (.agg (d16 x)), .val (.slice (some ⟨b, o, none⟩) 64 c), .val (.slice (some ⟨b, o + 32, none⟩) 32 (c - 32)), .val (.agg (d16 y)), .new 37 (d16 0), .new 37 (d16 0)]
    (by kernel_rfl) (by kernel_rfl) (fun _ _ _ _ _ h => h) ?_ ?_
  · simp only [List.take_succ_cons, List.take_zero, StepsOK]
    refine ⟨?_, ?_, ?_, ?_, ?_, ?_, ?_, ?_, trivial⟩
    · intro v w' hb hf K hKt
      simp only [putAll, Act.put, List.setIfInBounds_toArray, List.set_cons_zero, List.set_cons_succ, Nat.zero_add, Nat.reduceAdd] at hKt ⊢
      go_simp
      exact hKt _ (Below.refl _ _)
    · intro v w' hb hf K hKt
      have f0 : v 0 = _ := hf ⟨0, .data⟩ (by simp) rfl
      simp only [putAll, Act.put, List.setIfInBounds_toArray, List.set_cons_zero, List.set_cons_succ, Nat.zero_add, Nat.reduceAdd] at hKt ⊢
      rw [f0] at hKt ⊢
      go_simp
      exact hKt _ (Below.refl _ _)
    · intro v w' hb hf K hKt
      have f1 : v 1 = _ := hf ⟨1, .data⟩ (by simp) rfl
      simp only [putAll, Act.put, List.setIfInBounds_toArray, List.set_cons_zero, List.set_cons_succ, Nat.zero_add, Nat.reduceAdd] at hKt ⊢
      rw [f1] at hKt ⊢
      go_simp
      refine (kN1 w' (below_trans hb0 hb)).mono ?_
      rintro e w'' ⟨rfl, hb2⟩
      exact hKt _ hb2
    · intro v w' hb hf K hKt
      simp only [putAll, Act.put, List.setIfInBounds_toArray, List.set_cons_zero, List.set_cons_succ, Nat.zero_add, Nat.reduceAdd] at hKt ⊢
      go_simp
      exact hKt _ (Below.refl _ _)
    · intro v w' hb hf K hKt
      have f3 : v 3 = _ := hf ⟨3, .data⟩ (by simp) rfl
      simp only [putAll, Act.put, List.setIfInBounds_toArray, List.set_cons_zero, List.set_cons_succ, Nat.zero_add, Nat.reduceAdd] at hKt ⊢
      rw [f3] at hKt ⊢
      go_simp
      exact hKt _ (Below.refl _ _)
    · intro v w' hb hf K hKt
      have f4 : v 4 = _ := hf ⟨4, .data⟩ (by simp) rfl
      simp only [putAll, Act.put, List.setIfInBounds_toArray, List.set_cons_zero, List.set_cons_succ, Nat.zero_add, Nat.reduceAdd] at hKt ⊢
      rw [f4] at hKt ⊢
      go_simp
      refine (kN2 w' (below_trans hb0 hb)).mono ?_
      rintro e w'' ⟨rfl, hb2⟩
      exact hKt _ hb2
    · exact ⟨rfl, rfl, zeroV16⟩
    · exact ⟨rfl, rfl, zeroV16⟩
  intro v u1 hb hF hD
  have f0 : v 0 = _ := hF 0 (by decide)
  have f1 : v 1 = _ := hF 1 (by decide)
  have f2 : v 2 = _ := hF 2 (by decide)
  have f3 : v 3 = _ := hF 3 (by decide)
  have f4 : v 4 = _ := hF 4 (by decide)
  have f5 : v 5 = _ := hF 5 (by decide)
  obtain ⟨gx, f6, hg6, hl6, hz6⟩ := hF 6 (by decide)
  replace hz6 : Has u1 gx 37 (d16 0) := hz6
  obtain ⟨gy, f7, hg7, hl7, hz7⟩ := hF 7 (by decide)
  replace hz7 : Has u1 gy 37 (d16 0) := hz7
  have hne6_7 : gx ≠ gy := fun h => hD 6 7 (by decide) (by decide) (by decide) rfl rfl (by rw [f6, f7, h])
  simp only [List.take_succ_cons, List.take_zero, List.drop_succ_cons, List.drop_zero, putAll, Act.put, List.setIfInBounds_toArray, List.set_cons_zero, List.set_cons_succ, Nat.zero_add, Nat.reduceAdd]
  rw [f0, f1, f2, f3, f4, f5, f6, f7]
  clear hF hD f0 f1 f2 f3 f4 f5 f6 f7
  have hs6 := hz6
  have hs7 := (hz7).farRow (k := gx) (by omega) (d16 x)
  have hBW := below_setRow (below_setRow (hb) (g := gx) hg6 (d16 x)) (g := gy) hg7 (d16 y)
  have hX := ((hz6).setRow (d16 x)).farRow (k := gy) (by omega) (d16 y)
  have hY := ((hz7).farRow (k := gx) (by omega) (d16 x)).setRow (d16 y)
  replace hR := hR.after hBW
  replace hb0 := below_trans hb0 hBW
  go_wp2_with (first | refine wpList_store_row rfl 37 _ _ rfl gx _ rfl rfl 37 (d16 0) hs6 (info16 _) (by simp only [d16_size]) (tab_oneCell _ _ fun _ => rfl) ?_ | (refine wpList_store_row rfl 37 _ _ rfl gy _ rfl rfl 37 (d16 0) hs7 (info16 _) (by simp only [d16_size]) (tab_oneCell _ _ fun _ => rfl) ?_; generalize hWW : World.setRow _ gy _ = U1 at *; clear hWW))
  clear hBW hb hs6 hz6   hs7 hz7  
  clear kN1 kN2 hsA hsB
  refine (hP _).mono ?_
  rintro e u2 ⟨rfl, hx⟩
  replace hX := hX.after hx; replace hY := hY.after hx; replace hR := hR.after hx; replace hb0 := below_trans hb0 hx
  clear hx hP
  go_wp2_with fail
  refine (kF _).mono ?_
  rintro e u3 ⟨⟨f, rfl, hF⟩, hx⟩
  replace hX := hX.after hx; replace hY := hY.after hx; replace hR := hR.after hx; replace hb0 := below_trans hb0 hx
  clear hx kF
  go_wp2_with fail
  refine region_quiet_tail (Below u3.heap.size u3) 22 (by kernel_rfl) (by kernel_rfl) (below_drewN (Below.refl _ _) 1) ?_
  simp only [List.take_succ_cons, List.take_zero, List.drop_succ_cons, List.drop_zero]
  refine wpQ_has 37 _ rfl _ rfl rfl 37 _ (fun w' hC => hX.after hC) _ Tryd.underlying37 rfl (info16 _) ?_
  simp only [Act.put, List.setIfInBounds_toArray, List.set_cons_zero, List.set_cons_succ]
  refine wpQ_move _ rfl rfl (.pointer (some ⟨f, 0, none⟩)) rfl ?_
  simp only [Act.put, List.setIfInBounds_toArray, List.set_cons_zero, List.set_cons_succ]
  refine wpQ_val rfl (.pointer (some ⟨f, 0, none⟩)) (fun w' _ => by go_simp) ?_
  simp only [Act.put, List.setIfInBounds_toArray, List.set_cons_zero, List.set_cons_succ]
  refine wpQ_val rfl (.pointer (some ⟨f, 0, none⟩)) (fun w' _ => by go_simp) ?_
  simp only [Act.put, List.setIfInBounds_toArray, List.set_cons_zero, List.set_cons_succ]
  refine wpQ_load_hex rfl _ rfl f 0 rfl m (fun w' hC => fld_mod (show Has w' f 61 (fldC m 16) from hF.after hC)) ?_
  simp only [Act.put, List.setIfInBounds_toArray, List.set_cons_zero, List.set_cons_succ]
  refine wpQ_fn 22 _ _ rfl rfl #[.agg (d16 x), .agg (d16 m)] rfl (fun _ => by go_simp) (.bool true) (fun w' hC => (kX w').mono fun e w'' ⟨he, hb⟩ => ⟨he, below_class hC hb⟩) ?_
  simp only [Act.put, List.setIfInBounds_toArray, List.set_cons_zero, List.set_cons_succ]
  refine wpQ_un _ _ _ rfl rfl (.bool true) rfl (.bool false) (fun w' _ => notB true w') ?_
  simp only [Act.put, List.setIfInBounds_toArray, List.set_cons_zero, List.set_cons_succ]
  refine wpQ_move _ rfl rfl (.bool false) rfl ?_
  simp only [Act.put, List.setIfInBounds_toArray, List.set_cons_zero, List.set_cons_succ]
  refine wpQ_has 37 _ rfl _ rfl rfl 37 _ (fun w' hC => hY.after hC) _ Tryd.underlying37 rfl (info16 _) ?_
  simp only [Act.put, List.setIfInBounds_toArray, List.set_cons_zero, List.set_cons_succ]
  refine wpQ_move _ rfl rfl (.pointer (some ⟨f, 0, none⟩)) rfl ?_
  simp only [Act.put, List.setIfInBounds_toArray, List.set_cons_zero, List.set_cons_succ]
  refine wpQ_val rfl (.pointer (some ⟨f, 0, none⟩)) (fun w' _ => by go_simp) ?_
  simp only [Act.put, List.setIfInBounds_toArray, List.set_cons_zero, List.set_cons_succ]
  refine wpQ_val rfl (.pointer (some ⟨f, 0, none⟩)) (fun w' _ => by go_simp) ?_
  simp only [Act.put, List.setIfInBounds_toArray, List.set_cons_zero, List.set_cons_succ]
  refine wpQ_load_hex rfl _ rfl f 0 rfl m (fun w' hC => fld_mod (show Has w' f 61 (fldC m 16) from hF.after hC)) ?_
  simp only [Act.put, List.setIfInBounds_toArray, List.set_cons_zero, List.set_cons_succ]
  refine wpQ_fn 22 _ _ rfl rfl #[.agg (d16 y), .agg (d16 m)] rfl (fun _ => by go_simp) (.bool true) (fun w' hC => (kY w').mono fun e w'' ⟨he, hb⟩ => ⟨he, below_class hC hb⟩) ?_
  simp only [Act.put, List.setIfInBounds_toArray, List.set_cons_zero, List.set_cons_succ]
  refine wpQ_un _ _ _ rfl rfl (.bool true) rfl (.bool false) (fun w' _ => notB true w') ?_
  simp only [Act.put, List.setIfInBounds_toArray, List.set_cons_zero, List.set_cons_succ]
  refine wpQ_pick _ _ _ rfl rfl false rfl (.bool false) rfl ?_
  simp only [Act.put, List.setIfInBounds_toArray, List.set_cons_zero, List.set_cons_succ]
  refine wpQ_move _ rfl rfl (.bool false) rfl ?_
  simp only [Act.put, List.setIfInBounds_toArray, List.set_cons_zero, List.set_cons_succ]
  refine wpQ_move _ rfl rfl (.pointer (some ⟨f, 0, none⟩)) rfl ?_
  simp only [Act.put, List.setIfInBounds_toArray, List.set_cons_zero, List.set_cons_succ]
  refine wpQ_has 37 _ rfl _ rfl rfl 37 _ (fun w' hC => hX.after hC) _ Tryd.underlying37 rfl (info16 _) ?_
  simp only [Act.put, List.setIfInBounds_toArray, List.set_cons_zero, List.set_cons_succ]
  refine wpQ_has 37 _ rfl _ rfl rfl 37 _ (fun w' hC => hY.after hC) _ Tryd.underlying37 rfl (info16 _) ?_
  simp only [Act.put, List.setIfInBounds_toArray, List.set_cons_zero, List.set_cons_succ]
  refine wpQ_fn 32 _ _ rfl rfl #[.pointer (some ⟨f, 0, none⟩), .agg (d16 x), .agg (d16 y)] rfl (fun _ => by go_simp) (.bool r) (fun w' hC => (kO _ w' (hF.after hC)).mono fun e w'' ⟨he, hb⟩ => ⟨he, below_class hC hb⟩) ?_
  simp only [Act.put, List.setIfInBounds_toArray, List.set_cons_zero, List.set_cons_succ]
  refine wpQ_un _ _ _ rfl rfl (.bool r) rfl (.bool (!r)) (fun w' _ => notB r w') ?_
  simp only [Act.put, List.setIfInBounds_toArray, List.set_cons_zero, List.set_cons_succ]
  refine wpQuiet_nil ?_
  intro u4 hC
  replace hX := hX.after hC; replace hY := hY.after hC; replace hR := hR.after hC; replace hb0 := below_trans hb0 hC
  clear hC hF
  cases r with
  | false =>
    go_wp2_with (first | refine wpList_parts rfl 39 _ rfl #[] rfl (.agg (ptC 0 0 0)) buildPt0 ?_ | refine wpList_store_row rfl 39 _ _ rfl w.heap.size _ rfl rfl 39 _ hR (infoPt _ _ _) (by simp only [ptC_size]) (tab_oneCell _ _ fun _ => rfl) ?_)
    exact bodyPost_ret (v := .tuple #[.agg (ptC 0 0 0), .bool false]) (results_row_tmp rfl _ _ w.heap.size 39 _ _ _ rfl rfl (hR.setRow _) Tryd.underlying39 rfl (infoPt _ _ _)) rfl ⟨rfl, below_setRow hb0 (Nat.le_refl _) _⟩
  | true =>
    go_wp2_with (first | refine wpList_load_has 37 _ rfl _ rfl rfl 37 _ hX _ Tryd.underlying37 rfl (info16 _) ?_ | refine wpList_load_has 37 _ rfl _ rfl rfl 37 _ hY _ Tryd.underlying37 rfl (info16 _) ?_ | refine wpList_parts rfl 37 _ rfl #[(0, .int .u64 1)] (by simp only [List.map_toArray, List.map_cons, List.map_nil]; rfl) (.agg (d16 1)) buildOne ?_ | refine wpList_parts rfl 39 _ rfl #[(0, .agg (d16 x)), (1, .agg (d16 y)), (2, .agg (d16 1))] (by simp only [List.map_toArray, List.map_cons, List.map_nil]; rfl) (.agg (ptC x y 1)) (buildPt x y 1) ?_ | refine wpList_store_row rfl 39 _ _ rfl w.heap.size _ rfl rfl 39 _ hR (infoPt _ _ _) (by simp only [ptC_size]) (tab_oneCell _ _ fun _ => rfl) ?_)
    exact bodyPost_ret (v := .tuple #[.agg (ptC x y 1), .bool true]) (results_row_tmp rfl _ _ w.heap.size 39 _ _ _ rfl rfl (hR.setRow _) Tryd.underlying39 rfl (infoPt _ _ _)) rfl ⟨rfl, below_setRow hb0 (Nat.le_refl _) _⟩
end Go.Proofs.YtflkhlhpifmocaaDoor
namespace Go.Proofs.YtflkhlhpifmocaaDoor
open Go Go.RowKit

structure WQ (P : Program) (ops : Array Oper) (C : World → Prop) (L : Act → Prop) (rest : List Oper) (a : Act) : Prop where
  out : wpQuiet P ops C L rest a
section
variable {P : Program} {ops : Array Oper} {C : World → Prop} {L : Act → Prop} {rest rest' : List Oper} {a a' : Act} {o : Oper}
theorem WQ.lift (h : wpQuiet P ops C L rest a → wpQuiet P ops C L rest' a') (k : WQ P ops C L rest a) : WQ P ops C L rest' a' := ⟨h k.out⟩
theorem WQ.skip (hw : Region.wanted o (yielded ops a.tmps) = false) (k : WQ P ops C L rest (a.put o.dst undef)) : WQ P ops C L (o :: rest) a := ⟨BigFrame.wpQuiet_skip hw k.out⟩
end
theorem setRow_same {w : World} {g : Nat} {t : TypeId} {cs : Array Value} (h : Has w g t cs) : w.setRow g cs = w := by
  have hl : g < w.heap.size := h.lt
  have hg : w.heap[g]? = some (.cells cs t (0, 0)) := h
  have e : (w.setRow g cs).heap = w.heap := by
    unfold World.setRow
    apply Array.ext (by simp)
    intro i h1 h2
    dsimp only
    rw [Array.getElem_modify]
    by_cases hi : g = i
    · subst hi
      have h3 : w.heap[g] = .cells cs t (0, 0) := by
        rw [Array.getElem?_eq_getElem h2] at hg
        exact Option.some.inj hg
      rw [if_pos rfl, h3]
    · rw [if_neg hi]
  show { w with heap := (w.setRow g cs).heap } = w
  rw [e]
section
variable {P : Program} {ops : Array Oper} {C : World → Prop} {L : Act → Prop} {rest : List Oper} {a : Act} {o : Oper}
/-- a store of what lies there already -/
theorem wpQ_same (ty : TypeId) (x y : Operand) (ho : o.op = .store ty x y) (hw : Region.wanted o (yielded ops a.tmps) = true) (g : Nat) (hx : a.eval x = .pointer (some ⟨g, 0, none⟩)) (cells : Array Value) (hy : a.eval y = .agg cells)
    (t : TypeId) (hg : ∀ w', C w' → Has w' g t cells) (hi : (P.info? ty).map (·.size) = some cells.size) (h1 : cells.all (·.oneCell') = true)
    (h : wpQuiet P ops C L rest (a.put o.dst undef)) : wpQuiet P ops C L (o :: rest) a :=
  wpQuiet_step fun K hK => by
    rw [if_pos hw]
    refine ⟨undef, fun w hC => ?_, hK _ h⟩
    have hr : (execOp a.eval o).run P w = .ok .skip w := by
      unfold execOp
      simp only [ho, hx, hy, Instr.storeAt, Instr.sureAddr, Sem.run_bind, Sem.run_pure, Result.andThen_ok, run_storeVar_row w g t ty cells cells (hg w hC) hi rfl h1]
      rw [setRow_same (hg w hC)]
    unfold Oper.quietAt
    rw [hr]
    exact ⟨rfl, rfl⟩
theorem region_quiet_all {id : Nat} {Q : Exit → Act → World → Prop} {a : Act} {w : World} {l : List Oper} (C : World → Prop) (hm : P.follows .mixedOrders = true) (hB : Region.lexB .any l.toArray = true)
    (hC : C { w with drawn := w.drawn + 1 }) (h : wpQuiet P l.toArray C (fun a' => ∀ w', C w' → Q .normal a' w') l a) : (Code.region id l.toArray true).wp P Q a w :=
  wp_region_quiet (C := C) hm hB hC (by simpa using h)
end
theorem zero32b : (#[Value.int IntKind.u8 0, Value.int IntKind.u8 0, Value.int IntKind.u8 0, Value.int IntKind.u8 0, Value.int IntKind.u8 0, Value.int IntKind.u8 0, Value.int IntKind.u8 0, Value.int IntKind.u8 0, Value.int IntKind.u8 0, Value.int IntKind.u8 0, Value.int IntKind.u8 0, Value.int IntKind.u8 0, Value.int IntKind.u8 0, Value.int IntKind.u8 0, Value.int IntKind.u8 0, Value.int IntKind.u8 0, Value.int IntKind.u8 0, Value.int IntKind.u8 0, Value.int IntKind.u8 0, Value.int IntKind.u8 0, Value.int IntKind.u8 0, Value.int IntKind.u8 0, Value.int IntKind.u8 0, Value.int IntKind.u8 0, Value.int IntKind.u8 0, Value.int IntKind.u8 0, Value.int IntKind.u8 0, Value.int IntKind.u8 0, Value.int IntKind.u8 0, Value.int IntKind.u8 0, Value.int IntKind.u8 0, Value.int IntKind.u8 0] : Array Value) = tab 32 fun _ => .int .u8 0 := by kernel_rfl
theorem infA32 (f : Nat → Value) : (Tryd.prog.info? 62).map (·.size) = some (tab 32 f).size := by rw [tab_size]; kernel_rfl
theorem zeroA32 : (Tryd.prog.info? 62).map (fun i => (i.zero, i.size)) = some (some (.agg (tab 32 fun _ => .int .u8 0)), 32) := by kernel_rfl
theorem sliceAll (d : Nat) (W : World) : (Instr.sliceAt 62 (.pointer (some ⟨d, 0, none⟩)) none none none).run Tryd.prog W = .ok (.slice (some ⟨d, 0, none⟩) 32 32) W := by
  go_simp
end Go.Proofs.YtflkhlhpifmocaaDoor
