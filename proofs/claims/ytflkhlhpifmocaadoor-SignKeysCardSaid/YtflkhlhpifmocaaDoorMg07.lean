/-
Package sign: two numbers out of 64 bytes; a key; is a number from 1 to the order less 1; the digest as a number.
Package sign: the equation; Verify.
Package sign: Verify.
Package sign: what Verify and Key answer, in numbers.
The reference of layer 5: Verify, over what its calls answer.
The reference of layer 5: Verify, a further case.
-/
import Derived.Test.YtflkhlhpifmocaaDoorMg01
import Derived.Test.YtflkhlhpifmocaaDoorMg04
import Derived.Test.YtflkhlhpifmocaaDoorMg06
namespace Go.Proofs.YtflkhlhpifmocaaDoor
open Go.RowKit

theorem buildN0 (W : World) : (Instr.build 30 #[]).run Tryd.prog W = .ok (.agg (nums 0)) W := by kernel_rfl
theorem buildP0 (W : World) : (Instr.build 32 #[]).run Tryd.prog W = .ok (.agg (cpC 0 0 false)) W := by kernel_rfl
theorem ltE (o1 o2 : Operand) (c : Int) (w : World) : (do eqGuard .lss 3 o1 o2 (.int .i64 c) (.int .i64 0); binOp .lss 3 (.int .i64 c) (.int .i64 0) : Sem Value).run Tryd.prog w = .ok (.bool (decide (c < 0))) w := by
  go_simp
theorem neqE (o1 o2 : Operand) (c : Int) (w : World) : (do eqGuard .neq 24 o1 o2 (.int .i64 c) (.int .i64 0); binOp .neq 24 (.int .i64 c) (.int .i64 0) : Sem Value).run Tryd.prog w = .ok (.bool (c != 0)) w := by
  go_simp
theorem cpC_ne (X Y : Nat) (b : Bool) : ¬ cpC X Y b = #[] := fun h => by have := congrArg Array.size h; simp [cpC_size] at this
attribute [local go_sem] zeroNum zero17c zero32b
set_option maxRecDepth 100000 in
set_option maxHeartbeats 2000000 in
theorem pair_len (A : Option Addr) (n c : Nat) (hn : n ≠ 64) (w : World) : Calls Tryd.prog 15 #[.slice A n c] w fun e w' => e = .returned (.tuple #[.agg (nums 0), .agg (nums 0), .int .i64 2]) ∧ Below w.heap.size w w' := by
  have hd : ((n : Int) != 64) = true := by simp; omega
  have n0 := nums_ne 0
  have hA : Has ((w.alloc (.cells (nums 0) 30)).alloc (.cells (nums 0) 30)) w.heap.size 30 (nums 0) := (Has.new w _ _).alloc _
  have hB : Has ((w.alloc (.cells (nums 0) 30)).alloc (.cells (nums 0) 30)) (w.heap.size + 1) 30 (nums 0) := Has.new' (by simp)
  have hb0 : Below w.heap.size w ((w.alloc (.cells (nums 0) 30)).alloc (.cells (nums 0) 30)) := ((Below.refl _ _).alloc (Nat.le_refl _) _).alloc (by simp) _
  go_enter Tryd.func15, Tryd.ntmps15
  have hA2 := hA.setRow (nums (0))
  have hB2 := hB.farRow (k := w.heap.size) (by omega) (nums (0))
  have hb2 := below_setRow hb0 (g := w.heap.size) (by omega) (nums (0))
  go_wp2_with (first | refine wpList_parts rfl 30 _ rfl #[] rfl (.agg (nums 0)) buildN0 ?_ | refine wpList_store_row rfl 30 _ _ rfl (w.heap.size) _ rfl rfl 30 _ hA (infoNum _) (by simp only [nums_size]) (tab_oneCell _ _ fun _ => rfl) ?_ | refine wpList_store_row rfl 30 _ _ rfl (w.heap.size + 1) _ rfl rfl 30 _ hB2 (infoNum _) (by simp only [nums_size]) (tab_oneCell _ _ fun _ => rfl) ?_)
  exact bodyPost_ret (v := .tuple #[.agg (nums (0)), .agg (nums (0)), .int .i64 2]) (results_row_row_tmp rfl _ _ (w.heap.size) (w.heap.size + 1) 30 30 _ _ _ _ rfl rfl rfl (hA2.farRow (by omega) _) (hB2.setRow _) Tryd.underlying30 rfl (infoNum _) (infoNum _)) rfl ⟨rfl, below_setRow hb2 (by omega) _⟩
set_option maxRecDepth 100000 in
set_option maxHeartbeats 2000000 in
theorem pair_any (x y b o c : Nat) (w : World) (hx : x < big) (hy : y < big) (hlb : b < w.heap.size) (hc : 64 ≤ c) (h1 : ∀ j, j < 32 → w.cell? ⟨b, o + j, none⟩ = some (.int .u8 ((byB x j : Nat) : Int))) (h2 : ∀ j, j < 32 → w.cell? ⟨b, o + 32 + j, none⟩ = some (.int .u8 ((byB y j : Nat) : Int))) : Calls Tryd.prog 15 #[.slice (some ⟨b, o, none⟩) 64 c] w fun e w' => e = .returned (.tuple #[.agg (nums x), .agg (nums y), .int .i64 0]) ∧ Below w.heap.size w w' := by
  have k1 := fun W (h : Below w.heap.size w W) => read_any x b o c W hx (Nat.lt_of_lt_of_le hlb h.size) (fun j hj => (h.cell (p := ⟨b, o + j, none⟩) hlb).trans (h1 j hj))
  have k2 := fun W (h : Below w.heap.size w W) => read_any y b (o + 32) (c - 32) W hy (Nat.lt_of_lt_of_le hlb h.size) (fun j hj => (h.cell (p := ⟨b, o + 32 + j, none⟩) hlb).trans (h2 j hj))
  have hsA := sliceLo b o c hc
  have hsB := sliceHi b o c hc
  clear h1 h2 hx hy hc hlb
  have n0 := nums_ne 0
  have hA : Has ((w.alloc (.cells (nums 0) 30)).alloc (.cells (nums 0) 30)) w.heap.size 30 (nums 0) := (Has.new w _ _).alloc _
  have hB : Has ((w.alloc (.cells (nums 0) 30)).alloc (.cells (nums 0) 30)) (w.heap.size + 1) 30 (nums 0) := Has.new' (by simp)
  have hb0 : Below w.heap.size w ((w.alloc (.cells (nums 0) 30)).alloc (.cells (nums 0) 30)) := ((Below.refl _ _).alloc (Nat.le_refl _) _).alloc (by simp) _
  go_enter Tryd.func15, Tryd.ntmps15
  go_wp2_with fail
  refine (k1 _ hb0).mono ?_
  rintro e u1 ⟨rfl, hx⟩
  have hs := hA.after hx
  replace hA := hs.setRow (nums x)
  replace hB := (hB.after hx).farRow (k := w.heap.size) (by omega) (nums x)
  replace hb0 := below_setRow (below_trans hb0 hx) (g := w.heap.size) (by omega) (nums x)
  clear hx k1
  go_wp2_with (first | (refine wpList_store_row rfl 30 _ _ rfl (w.heap.size) _ rfl rfl 30 _ hs (infoNum _) (by simp only [nums_size]) (tab_oneCell _ _ fun _ => rfl) ?_; generalize hWW : World.setRow _ (w.heap.size) _ = U1 at *; clear hWW))
  clear hs
  refine (k2 _ hb0).mono ?_
  rintro e u2 ⟨rfl, hx⟩
  have hs := hB.after hx
  replace hB := hs.setRow (nums y)
  replace hA := (hA.after hx).farRow (k := w.heap.size + 1) (by omega) (nums y)
  replace hb0 := below_setRow (below_trans hb0 hx) (g := w.heap.size + 1) (by omega) (nums y)
  clear hx k2
  go_wp2_with (first | (refine wpList_store_row rfl 30 _ _ rfl (w.heap.size + 1) _ rfl rfl 30 _ hs (infoNum _) (by simp only [nums_size]) (tab_oneCell _ _ fun _ => rfl) ?_; generalize hWW : World.setRow _ (w.heap.size + 1) _ = U2 at *; clear hWW))
  clear hs
  refine region_quiet_all (fun W => Has W w.heap.size 30 (nums x) ∧ Has W (w.heap.size + 1) 30 (nums y) ∧ Below w.heap.size w W) (by kernel_rfl) (by kernel_rfl) ⟨hA.drewN 1, hB.drewN 1, below_drewN hb0 1⟩ ?_
  refine WQ.out ?_
  refine WQ.lift (wpQ_has 30 _ rfl _ rfl rfl 30 _ (fun w' hC => hC.1) _ Tryd.underlying30 rfl (infoNum _)) ?_
  simp only [Act.put, List.setIfInBounds_toArray, List.set_cons_zero, List.set_cons_succ]
  refine WQ.lift (wpQ_has 30 _ rfl _ rfl rfl 30 _ (fun w' hC => hC.2.1) _ Tryd.underlying30 rfl (infoNum _)) ?_
  simp only [Act.put, List.setIfInBounds_toArray, List.set_cons_zero, List.set_cons_succ]
  refine WQ.lift (wpQ_same 30 _ _ rfl rfl (w.heap.size) rfl (nums x) rfl 30 (fun w' hC => hC.1) (infoNum _) (tab_oneCell _ _ fun _ => rfl)) ?_
  simp only [Act.put]
  refine WQ.lift (wpQ_same 30 _ _ rfl rfl (w.heap.size + 1) rfl (nums y) rfl 30 (fun w' hC => hC.2.1) (infoNum _) (tab_oneCell _ _ fun _ => rfl)) ?_
  simp only [Act.put]
  refine WQ.lift (wpQ_assign _ rfl rfl (.int .i64 0) rfl) ?_
  simp only [Act.put, List.setIfInBounds_toArray, List.set_cons_zero, List.set_cons_succ]
  refine WQ.mk (wpQuiet_nil ?_)
  intro u3 hC
  obtain ⟨hA, hB, hb0⟩ := hC
  go_wp2_with fail
  exact bodyPost_ret (v := .tuple #[.agg (nums x), .agg (nums y), .int .i64 0]) (results_row_row_tmp rfl _ _ (w.heap.size) (w.heap.size + 1) 30 30 _ _ _ _ rfl rfl rfl hA hB Tryd.underlying30 rfl (infoNum _) (infoNum _)) rfl ⟨rfl, hb0⟩
set_option maxRecDepth 100000 in
set_option maxHeartbeats 2000000 in
theorem rk_len (A : Option Addr) (n c g x y : Nat) (w : World) (kP : ∀ W, Below w.heap.size w W → Calls Tryd.prog 15 #[.slice A n c] W fun e w' => e = .returned (.tuple #[.agg (nums x), .agg (nums y), .int .i64 2]) ∧ Below W.heap.size W w') : Calls Tryd.prog 14 #[.pointer (some ⟨g, 0, none⟩), .slice A n c] w fun e w' => e = .returned (.tuple #[.agg (cpC 0 0 false), .int .i64 2]) ∧ Below w.heap.size w w' := by
  have c0 := cpC_ne 0 0 false
  have n0 := nums_ne 0
  have hR : Has (w.alloc (.cells (cpC 0 0 false) 32)) w.heap.size 32 (cpC 0 0 false) := Has.new w _ _
  have hb0 : Below w.heap.size w (w.alloc (.cells (cpC 0 0 false) 32)) := (Below.refl _ _).alloc (Nat.le_refl _) _
  go_enter Tryd.func14, Tryd.ntmps14
  go_wp2_with fail
  refine (kP _ hb0).mono ?_
  rintro e u1 ⟨rfl, hx⟩
  replace hR := hR.after hx
  replace hb0 := below_trans hb0 hx
  have hsz := hR.lt
  have hX := Has.new u1 30 (nums 0)
  have hs1 : Has ((u1.alloc (.cells (nums 0) 30)).alloc (.cells (nums 0) 30)) u1.heap.size 30 (nums 0) := hX.alloc _
  have hs2 : Has ((u1.alloc (.cells (nums 0) 30)).alloc (.cells (nums 0) 30)) (u1.heap.size + 1) 30 (nums 0) := Has.new' (by simp)
  replace hR := (hR.alloc (.cells (nums 0) 30)).alloc (.cells (nums 0) 30)
  replace hb0 := (hb0.alloc hb0.size (.cells (nums 0) 30)).alloc (by have := hb0.size; simp; omega) (.cells (nums 0) 30)
  have hA := hs1.setRow (nums x)
  replace hs2 := hs2.farRow (k := u1.heap.size) (by omega) (nums x)
  have hB := hs2.setRow (nums y)
  replace hA := hA.farRow (k := u1.heap.size + 1) (by omega) (nums y)
  replace hR := (hR.farRow (k := u1.heap.size) (by omega) (nums x)).farRow (k := u1.heap.size + 1) (by omega) (nums y)
  replace hb0 := below_setRow (below_setRow hb0 (g := u1.heap.size) (by omega) (nums x)) (g := u1.heap.size + 1) (by omega) (nums y)
  clear hx kP hX
  go_wp2_with (first | refine wpList_store_row rfl 30 _ _ rfl (u1.heap.size) _ rfl rfl 30 _ hs1 (infoNum _) (by simp only [nums_size]) (tab_oneCell _ _ fun _ => rfl) ?_ | (refine wpList_store_row rfl 30 _ _ rfl (u1.heap.size + 1) _ rfl rfl 30 _ hs2 (infoNum _) (by simp only [nums_size]) (tab_oneCell _ _ fun _ => rfl) ?_; generalize hWW : World.setRow _ (u1.heap.size + 1) _ = U1 at *; clear hWW) | refine wpList_parts rfl 32 _ rfl #[] rfl (.agg (cpC 0 0 false)) buildP0 ?_ | refine wpList_store_row rfl 32 _ _ rfl (w.heap.size) _ rfl rfl 32 _ hR (infoCp _ _ _) (by simp only [cpC_size]) (cpC_one _ _ _) ?_)
  exact bodyPost_ret (v := .tuple #[.agg (cpC 0 0 false), .int .i64 2]) (results_row_tmp rfl _ _ w.heap.size 32 _ _ _ rfl rfl (hR.setRow _) Tryd.underlying32 rfl (infoCp _ _ _)) rfl ⟨rfl, below_setRow hb0 (by omega) _⟩
set_option maxRecDepth 100000 in
set_option maxHeartbeats 2000000 in
theorem rk_no (A : Option Addr) (n c g x y : Nat) (w : World) (kP : ∀ W, Below w.heap.size w W → Calls Tryd.prog 15 #[.slice A n c] W fun e w' => e = .returned (.tuple #[.agg (nums x), .agg (nums y), .int .i64 0]) ∧ Below W.heap.size W w')
    (kO : ∀ W, Below w.heap.size w W → Calls Tryd.prog 37 #[.pointer (some ⟨g, 0, none⟩), .agg (cpC x y false)] W fun e w' => e = .returned (.bool false) ∧ Below W.heap.size W w') :
    Calls Tryd.prog 14 #[.pointer (some ⟨g, 0, none⟩), .slice A n c] w fun e w' => e = .returned (.tuple #[.agg (cpC 0 0 false), .int .i64 3]) ∧ Below w.heap.size w w' := by
  have c0 := cpC_ne 0 0 false
  have n0 := nums_ne 0
  have hR : Has (w.alloc (.cells (cpC 0 0 false) 32)) w.heap.size 32 (cpC 0 0 false) := Has.new w _ _
  have hb0 : Below w.heap.size w (w.alloc (.cells (cpC 0 0 false) 32)) := (Below.refl _ _).alloc (Nat.le_refl _) _
  go_enter Tryd.func14, Tryd.ntmps14
  go_wp2_with fail
  refine (kP _ hb0).mono ?_
  rintro e u1 ⟨rfl, hx⟩
  replace hR := hR.after hx
  replace hb0 := below_trans hb0 hx
  have hsz := hR.lt
  have hX := Has.new u1 30 (nums 0)
  have hs1 : Has ((u1.alloc (.cells (nums 0) 30)).alloc (.cells (nums 0) 30)) u1.heap.size 30 (nums 0) := hX.alloc _
  have hs2 : Has ((u1.alloc (.cells (nums 0) 30)).alloc (.cells (nums 0) 30)) (u1.heap.size + 1) 30 (nums 0) := Has.new' (by simp)
  replace hR := (hR.alloc (.cells (nums 0) 30)).alloc (.cells (nums 0) 30)
  replace hb0 := (hb0.alloc hb0.size (.cells (nums 0) 30)).alloc (by have := hb0.size; simp; omega) (.cells (nums 0) 30)
  have hA := hs1.setRow (nums x)
  replace hs2 := hs2.farRow (k := u1.heap.size) (by omega) (nums x)
  have hB := hs2.setRow (nums y)
  replace hA := hA.farRow (k := u1.heap.size + 1) (by omega) (nums y)
  replace hR := (hR.farRow (k := u1.heap.size) (by omega) (nums x)).farRow (k := u1.heap.size + 1) (by omega) (nums y)
  replace hb0 := below_setRow (below_setRow hb0 (g := u1.heap.size) (by omega) (nums x)) (g := u1.heap.size + 1) (by omega) (nums y)
  clear hx kP hX
  go_wp2_with (first | refine wpList_store_row rfl 30 _ _ rfl (u1.heap.size) _ rfl rfl 30 _ hs1 (infoNum _) (by simp only [nums_size]) (tab_oneCell _ _ fun _ => rfl) ?_ | (refine wpList_store_row rfl 30 _ _ rfl (u1.heap.size + 1) _ rfl rfl 30 _ hs2 (infoNum _) (by simp only [nums_size]) (tab_oneCell _ _ fun _ => rfl) ?_; generalize hWW : World.setRow _ (u1.heap.size + 1) _ = U1 at *; clear hWW) | refine wpList_load_has 30 _ rfl _ rfl rfl 30 _ hA _ Tryd.underlying30 rfl (infoNum _) ?_ | refine wpList_load_has 30 _ rfl _ rfl rfl 30 _ hB _ Tryd.underlying30 rfl (infoNum _) ?_ | refine wpList_parts rfl 32 _ rfl #[(0, .agg (nums x)), (1, .agg (nums y))] (by simp only [List.map_toArray, List.map_cons, List.map_nil]; rfl) (.agg (cpC x y false)) (buildC4 x y) ?_ | (refine wpList_store_row rfl 32 _ _ rfl U1.heap.size _ rfl rfl 32 (cpC 0 0 false) (Has.new' rfl) (infoCp _ _ _) (by simp only [cpC_size]) (cpC_one _ _ _) ?_; have hz := put_new U1 32 (cpC 0 0 false) (cpC x y false); replace hR := hR.after hz.2; replace hb0 := below_trans hb0 hz.2; have hQ := hz.1; clear hz; generalize hWW : World.setRow _ U1.heap.size _ = U2 at *; clear hWW) | refine wpList_load_has 32 _ rfl _ rfl rfl 32 _ hQ _ Tryd.underlying32 rfl (infoCp _ _ _) ?_)
  refine (kO _ hb0).mono ?_
  rintro e u3 ⟨rfl, hx⟩
  replace hR := hR.after hx
  replace hQ := hQ.after hx
  replace hb0 := below_trans hb0 hx
  clear hx kO hA hB hs1 hs2
  go_wp2_with (first | refine wpList_parts rfl 32 _ rfl #[] rfl (.agg (cpC 0 0 false)) buildP0 ?_ | refine wpList_store_row rfl 32 _ _ rfl (w.heap.size) _ rfl rfl 32 _ hR (infoCp _ _ _) (by simp only [cpC_size]) (cpC_one _ _ _) ?_)
  exact bodyPost_ret (v := .tuple #[.agg (cpC 0 0 false), .int .i64 3]) (results_row_tmp rfl _ _ w.heap.size 32 _ _ _ rfl rfl (hR.setRow _) Tryd.underlying32 rfl (infoCp _ _ _)) rfl ⟨rfl, below_setRow hb0 (by omega) _⟩
set_option maxRecDepth 100000 in
set_option maxHeartbeats 2000000 in
theorem rk_yes (A : Option Addr) (n c g x y : Nat) (w : World) (kP : ∀ W, Below w.heap.size w W → Calls Tryd.prog 15 #[.slice A n c] W fun e w' => e = .returned (.tuple #[.agg (nums x), .agg (nums y), .int .i64 0]) ∧ Below W.heap.size W w')
    (kO : ∀ W, Below w.heap.size w W → Calls Tryd.prog 37 #[.pointer (some ⟨g, 0, none⟩), .agg (cpC x y false)] W fun e w' => e = .returned (.bool true) ∧ Below W.heap.size W w') :
    Calls Tryd.prog 14 #[.pointer (some ⟨g, 0, none⟩), .slice A n c] w fun e w' => e = .returned (.tuple #[.agg (cpC x y false), .int .i64 0]) ∧ Below w.heap.size w w' := by
  have c0 := cpC_ne 0 0 false
  have n0 := nums_ne 0
  have hR : Has (w.alloc (.cells (cpC 0 0 false) 32)) w.heap.size 32 (cpC 0 0 false) := Has.new w _ _
  have hb0 : Below w.heap.size w (w.alloc (.cells (cpC 0 0 false) 32)) := (Below.refl _ _).alloc (Nat.le_refl _) _
  go_enter Tryd.func14, Tryd.ntmps14
  go_wp2_with fail
  refine (kP _ hb0).mono ?_
  rintro e u1 ⟨rfl, hx⟩
  replace hR := hR.after hx
  replace hb0 := below_trans hb0 hx
  have hsz := hR.lt
  have hX := Has.new u1 30 (nums 0)
  have hs1 : Has ((u1.alloc (.cells (nums 0) 30)).alloc (.cells (nums 0) 30)) u1.heap.size 30 (nums 0) := hX.alloc _
  have hs2 : Has ((u1.alloc (.cells (nums 0) 30)).alloc (.cells (nums 0) 30)) (u1.heap.size + 1) 30 (nums 0) := Has.new' (by simp)
  replace hR := (hR.alloc (.cells (nums 0) 30)).alloc (.cells (nums 0) 30)
  replace hb0 := (hb0.alloc hb0.size (.cells (nums 0) 30)).alloc (by have := hb0.size; simp; omega) (.cells (nums 0) 30)
  have hA := hs1.setRow (nums x)
  replace hs2 := hs2.farRow (k := u1.heap.size) (by omega) (nums x)
  have hB := hs2.setRow (nums y)
  replace hA := hA.farRow (k := u1.heap.size + 1) (by omega) (nums y)
  replace hR := (hR.farRow (k := u1.heap.size) (by omega) (nums x)).farRow (k := u1.heap.size + 1) (by omega) (nums y)
  replace hb0 := below_setRow (below_setRow hb0 (g := u1.heap.size) (by omega) (nums x)) (g := u1.heap.size + 1) (by omega) (nums y)
  clear hx kP hX
  go_wp2_with (first | refine wpList_store_row rfl 30 _ _ rfl (u1.heap.size) _ rfl rfl 30 _ hs1 (infoNum _) (by simp only [nums_size]) (tab_oneCell _ _ fun _ => rfl) ?_ | (refine wpList_store_row rfl 30 _ _ rfl (u1.heap.size + 1) _ rfl rfl 30 _ hs2 (infoNum _) (by simp only [nums_size]) (tab_oneCell _ _ fun _ => rfl) ?_; generalize hWW : World.setRow _ (u1.heap.size + 1) _ = U1 at *; clear hWW) | refine wpList_load_has 30 _ rfl _ rfl rfl 30 _ hA _ Tryd.underlying30 rfl (infoNum _) ?_ | refine wpList_load_has 30 _ rfl _ rfl rfl 30 _ hB _ Tryd.underlying30 rfl (infoNum _) ?_ | refine wpList_parts rfl 32 _ rfl #[(0, .agg (nums x)), (1, .agg (nums y))] (by simp only [List.map_toArray, List.map_cons, List.map_nil]; rfl) (.agg (cpC x y false)) (buildC4 x y) ?_ | (refine wpList_store_row rfl 32 _ _ rfl U1.heap.size _ rfl rfl 32 (cpC 0 0 false) (Has.new' rfl) (infoCp _ _ _) (by simp only [cpC_size]) (cpC_one _ _ _) ?_; have hz := put_new U1 32 (cpC 0 0 false) (cpC x y false); replace hR := hR.after hz.2; replace hb0 := below_trans hb0 hz.2; have hQ := hz.1; clear hz; generalize hWW : World.setRow _ U1.heap.size _ = U2 at *; clear hWW) | refine wpList_load_has 32 _ rfl _ rfl rfl 32 _ hQ _ Tryd.underlying32 rfl (infoCp _ _ _) ?_)
  refine (kO _ hb0).mono ?_
  rintro e u3 ⟨rfl, hx⟩
  replace hR := hR.after hx
  replace hQ := hQ.after hx
  replace hb0 := below_trans hb0 hx
  clear hx kO hA hB hs1 hs2
  go_wp2_with (first | refine wpList_load_has 32 _ rfl _ rfl rfl 32 _ hQ _ Tryd.underlying32 rfl (infoCp _ _ _) ?_ | refine wpList_store_row rfl 32 _ _ rfl (w.heap.size) _ rfl rfl 32 _ hR (infoCp _ _ _) (by simp only [cpC_size]) (cpC_one _ _ _) ?_)
  exact bodyPost_ret (v := .tuple #[.agg (cpC x y false), .int .i64 0]) (results_row_tmp rfl _ _ w.heap.size 32 _ _ _ rfl rfl (hR.setRow _) Tryd.underlying32 rfl (infoCp _ _ _)) rfl ⟨rfl, below_setRow hb0 (by omega) _⟩
set_option maxRecDepth 100000 in
set_option maxHeartbeats 2000000 in
theorem skey_any (A : Option Addr) (n c X Y : Nat) (b : Bool) (z : Int) (w : World) (kN : ∀ W, Below w.heap.size w W → Calls Tryd.prog 13 #[] W fun e w' => (∃ g, e = .returned (.pointer (some ⟨g, 0, none⟩)) ∧ IsCurve w' g) ∧ Below W.heap.size W w')
    (kR : ∀ g W, IsCurve W g → Below w.heap.size w W → Calls Tryd.prog 14 #[.pointer (some ⟨g, 0, none⟩), .slice A n c] W fun e w' => e = .returned (.tuple #[.agg (cpC X Y b), .int .i64 z]) ∧ Below W.heap.size W w') :
    Calls Tryd.prog 8 #[.slice A n c] w fun e w' => e = .returned (.tuple #[.agg (cpC X Y b), .int .i64 z]) ∧ Below w.heap.size w w' := by
  have c0 := cpC_ne 0 0 false
  have n0 := nums_ne 0
  have hR : Has (w.alloc (.cells (cpC 0 0 false) 32)) w.heap.size 32 (cpC 0 0 false) := Has.new w _ _
  have hb0 : Below w.heap.size w (w.alloc (.cells (cpC 0 0 false) 32)) := (Below.refl _ _).alloc (Nat.le_refl _) _
  go_enter Tryd.func8, Tryd.ntmps8
  go_wp2_with fail
  refine (kN _ hb0).mono ?_
  rintro e u1 ⟨⟨g, rfl, hI⟩, hx⟩
  replace hR := hR.after hx
  replace hb0 := below_trans hb0 hx
  clear hx kN
  go_wp2_with fail
  refine (kR _ _ hI hb0).mono ?_
  rintro e u2 ⟨rfl, hx⟩
  replace hR := hR.after hx
  replace hb0 := below_trans hb0 hx
  clear hx kR hI
  go_wp2_with (first | refine wpList_store_row rfl 32 _ _ rfl (w.heap.size) _ rfl rfl 32 _ hR (infoCp _ _ _) (by simp only [cpC_size]) (cpC_one _ _ _) ?_)
  exact bodyPost_ret (v := .tuple #[.agg (cpC X Y b), .int .i64 z]) (results_row_tmp rfl _ _ w.heap.size 32 _ _ _ rfl rfl (hR.setRow _) Tryd.underlying32 rfl (infoCp _ _ _)) rfl ⟨rfl, below_setRow hb0 (by omega) _⟩
set_option maxRecDepth 100000 in
set_option maxHeartbeats 2000000 in
theorem fac_zero (x : Nat) (w : World) (hx : x < big) (h0 : x = 0) (_kO : ∀ W, Below w.heap.size w W → Calls Tryd.prog 41 #[] W fun e w' => e = .returned (.agg (nums Ec.ordN)) ∧ Below W.heap.size W w') : Calls Tryd.prog 16 #[.agg (nums x)] w fun e w' => e = .returned (.bool false) ∧ Below w.heap.size w w' := by
  have kZ := fun W => zero_any x W hx
  rw [show sameN x 0 = true from decide_eq_true h0] at kZ
  have hA : Has (w.alloc (.cells (nums x) 30)) w.heap.size 30 (nums x) := Has.new w _ _
  have hb0 : Below w.heap.size w (w.alloc (.cells (nums x) 30)) := (Below.refl _ _).alloc (Nat.le_refl _) _
  clear _kO
  clear hx h0
  go_enter Tryd.func16, Tryd.ntmps16
  go_wp2_with fail
  generalize hW : w.alloc (.cells (nums x) 30) = W0 at *
  clear hW
  refine region_quiet_tail (Below W0.heap.size W0) 9 (by kernel_rfl) (by kernel_rfl) (below_drewN (Below.refl _ _) 1) ?_
  simp only [List.take_succ_cons, List.take_zero, List.drop_succ_cons, List.drop_zero]
  refine WQ.out ?_
  refine WQ.lift (wpQ_has 30 _ rfl _ rfl rfl 30 _ (fun w' hC => hA.after hC) _ Tryd.underlying30 rfl (infoNum _)) ?_
  simp only [Act.put, List.setIfInBounds_toArray, List.set_cons_zero, List.set_cons_succ]
  refine WQ.lift (wpQ_fn 39 _ _ rfl rfl #[.agg (nums x)] rfl (fun _ => by go_simp) (.bool true) (fun w' hC => (kZ w').mono fun e w'' ⟨he, hb⟩ => ⟨he, below_class hC hb⟩)) ?_
  simp only [Act.put, List.setIfInBounds_toArray, List.set_cons_zero, List.set_cons_succ]
  refine WQ.lift (wpQ_un _ _ _ rfl rfl (.bool true) rfl (.bool false) (fun w' _ => notB true w')) ?_
  simp only [Act.put, List.setIfInBounds_toArray, List.set_cons_zero, List.set_cons_succ]
  refine WQ.lift (wpQ_move _ rfl rfl (.bool false) rfl) ?_
  simp only [Act.put, List.setIfInBounds_toArray, List.set_cons_zero, List.set_cons_succ]
  refine WQ.skip rfl ?_
  simp only [Act.put, List.setIfInBounds_toArray, List.set_cons_zero, List.set_cons_succ]
  refine WQ.skip rfl ?_
  simp only [Act.put, List.setIfInBounds_toArray, List.set_cons_zero, List.set_cons_succ]
  refine WQ.skip rfl ?_
  simp only [Act.put, List.setIfInBounds_toArray, List.set_cons_zero, List.set_cons_succ]
  refine WQ.skip rfl ?_
  simp only [Act.put, List.setIfInBounds_toArray, List.set_cons_zero, List.set_cons_succ]
  refine WQ.lift (wpQ_pick _ _ _ rfl rfl false rfl (.bool false) rfl) ?_
  simp only [Act.put, List.setIfInBounds_toArray, List.set_cons_zero, List.set_cons_succ]
  refine WQ.mk (wpQuiet_nil ?_)
  intro u hC
  replace hb0 := below_trans hb0 hC
  clear hC
  go_wp2_with fail
  go_ret
  exact ⟨rfl, hb0⟩
set_option maxRecDepth 100000 in
set_option maxHeartbeats 2000000 in
theorem fac_any (x : Nat) (w : World) (hx : x < big) (h0 : x ≠ 0) (kO : ∀ W, Below w.heap.size w W → Calls Tryd.prog 41 #[] W fun e w' => e = .returned (.agg (nums Ec.ordN)) ∧ Below W.heap.size W w') : Calls Tryd.prog 16 #[.agg (nums x)] w fun e w' => e = .returned (.bool (decide (x < Ec.ordN))) ∧ Below w.heap.size w w' := by
  have kZ := fun W => zero_any x W hx
  rw [show sameN x 0 = false from decide_eq_false h0] at kZ
  have hA : Has (w.alloc (.cells (nums x) 30)) w.heap.size 30 (nums x) := Has.new w _ _
  have hb0 : Below w.heap.size w (w.alloc (.cells (nums x) 30)) := (Below.refl _ _).alloc (Nat.le_refl _) _
  have kC := fun W => compare_any x Ec.ordN W hx (by decide +kernel)
  have hd : decide (x < Ec.ordN) = decide (cmpI x Ec.ordN < 0) := by
    by_cases h : x < Ec.ordN
    · rw [decide_eq_true h, decide_eq_true ((cmp_lt _ _).2 h)]
    · rw [decide_eq_false h, decide_eq_false fun h2 => h ((cmp_lt _ _).1 h2)]
  rw [hd]
  clear hd
  generalize cmpI x Ec.ordN = c at *
  clear hx h0
  go_enter Tryd.func16, Tryd.ntmps16
  go_wp2_with fail
  generalize hW : w.alloc (.cells (nums x) 30) = W0 at *
  clear hW
  refine region_quiet_tail (Below W0.heap.size W0) 9 (by kernel_rfl) (by kernel_rfl) (below_drewN (Below.refl _ _) 1) ?_
  simp only [List.take_succ_cons, List.take_zero, List.drop_succ_cons, List.drop_zero]
  refine WQ.out ?_
  refine WQ.lift (wpQ_has 30 _ rfl _ rfl rfl 30 _ (fun w' hC => hA.after hC) _ Tryd.underlying30 rfl (infoNum _)) ?_
  simp only [Act.put, List.setIfInBounds_toArray, List.set_cons_zero, List.set_cons_succ]
  refine WQ.lift (wpQ_fn 39 _ _ rfl rfl #[.agg (nums x)] rfl (fun _ => by go_simp) (.bool false) (fun w' hC => (kZ w').mono fun e w'' ⟨he, hb⟩ => ⟨he, below_class hC hb⟩)) ?_
  simp only [Act.put, List.setIfInBounds_toArray, List.set_cons_zero, List.set_cons_succ]
  refine WQ.lift (wpQ_un _ _ _ rfl rfl (.bool false) rfl (.bool true) (fun w' _ => notB false w')) ?_
  simp only [Act.put, List.setIfInBounds_toArray, List.set_cons_zero, List.set_cons_succ]
  refine WQ.lift (wpQ_move _ rfl rfl (.bool true) rfl) ?_
  simp only [Act.put, List.setIfInBounds_toArray, List.set_cons_zero, List.set_cons_succ]
  refine WQ.lift (wpQ_has 30 _ rfl _ rfl rfl 30 _ (fun w' hC => hA.after hC) _ Tryd.underlying30 rfl (infoNum _)) ?_
  simp only [Act.put, List.setIfInBounds_toArray, List.set_cons_zero, List.set_cons_succ]
  refine WQ.lift (wpQ_fn 41 _ _ rfl rfl #[] rfl (fun _ => by go_simp) (.agg (nums Ec.ordN)) (fun w' hC => (kO w' (below_trans hb0 hC)).mono fun e w'' ⟨he, hb⟩ => ⟨he, below_class hC hb⟩)) ?_
  simp only [Act.put, List.setIfInBounds_toArray, List.set_cons_zero, List.set_cons_succ]
  refine WQ.lift (wpQ_fn 40 _ _ rfl rfl #[.agg (nums x), .agg (nums Ec.ordN)] rfl (fun _ => by go_simp) (.int .i64 c) (fun w' hC => (kC w').mono fun e w'' ⟨he, hb⟩ => ⟨he, below_class hC hb⟩)) ?_
  simp only [Act.put, List.setIfInBounds_toArray, List.set_cons_zero, List.set_cons_succ]
  refine WQ.lift (wpQ_bin _ _ _ _ _ rfl rfl (.int .i64 c) (.int .i64 0) rfl rfl (.bool (decide (c < 0))) (fun w' _ => ltE _ _ _ w')) ?_
  simp only [Act.put, List.setIfInBounds_toArray, List.set_cons_zero, List.set_cons_succ]
  refine WQ.lift (wpQ_pick _ _ _ rfl rfl true rfl (.bool (decide (c < 0))) rfl) ?_
  simp only [Act.put, List.setIfInBounds_toArray, List.set_cons_zero, List.set_cons_succ]
  refine WQ.mk (wpQuiet_nil ?_)
  intro u hC
  replace hb0 := below_trans hb0 hC
  clear hC
  go_wp2_with fail
  go_ret
  exact ⟨rfl, hb0⟩
set_option maxRecDepth 100000 in
set_option maxHeartbeats 2000000 in
theorem dig_any (ev : Nat) (A : Option Addr) (n c : Nat) (w : World) (hev : ev < big) (kO : ∀ W, Below w.heap.size w W → Calls Tryd.prog 48 #[.slice A n c] W fun e w' => e = .returned (.agg (tab 32 fun j => .int .u8 ((byB ev j : Nat) : Int))) ∧ Below W.heap.size W w') :
    Calls Tryd.prog 18 #[.slice A n c] w fun e w' => e = .returned (.agg (nums ev)) ∧ Below w.heap.size w w' := by
  have n0 := nums_ne 0
  have hR : Has (w.alloc (.cells (nums 0) 30)) w.heap.size 30 (nums 0) := Has.new w _ _
  have hb0 : Below w.heap.size w (w.alloc (.cells (nums 0) 30)) := (Below.refl _ _).alloc (Nat.le_refl _) _
  have kRd := fun d c W (h : d < W.heap.size) (hh : ∀ j, j < 32 → W.cell? ⟨d, 0 + j, none⟩ = some (.int .u8 ((byB ev j : Nat) : Int))) => read_any ev d 0 c W hev h hh
  clear hev
  go_enter Tryd.func18, Tryd.ntmps18
  go_wp2_with fail
  refine (kO _ hb0).mono ?_
  rintro e u1 ⟨rfl, hx⟩
  have hz := put_new u1 62 (tab 32 fun _ => .int .u8 0) (tab 32 fun j => .int .u8 ((byB ev j : Nat) : Int))
  replace hR := (hR.after hx).after hz.2
  replace hb0 := below_trans (below_trans hb0 hx) hz.2
  have hD := hz.1
  have hsC := sliceAll u1.heap.size
  clear hx hz kO
  go_wp2_with (first | (refine wpList_store_row rfl 62 _ _ rfl u1.heap.size _ rfl rfl 62 (tab 32 fun _ => .int .u8 0) (Has.new' (by simp)) (infA32 _) (by simp only [tab_size]) (tab_oneCell _ _ fun _ => rfl) ?_; generalize hWW : World.setRow _ u1.heap.size _ = U1 at *; clear hWW))
  refine (kRd _ _ _ hD.lt (fun j hj => by rw [Nat.zero_add]; exact hD.cellTab j hj)).mono ?_
  rintro e u2 ⟨rfl, hx⟩
  have hz := put_new u2 30 (nums 0) (nums ev)
  have hsz := (hR.after hx).lt
  replace hR := (hR.after hx).after hz.2
  replace hb0 := below_trans (below_trans hb0 hx) hz.2
  have hN := hz.1
  clear hx hz kRd hD hsC
  go_wp2_with (first | (refine wpList_store_row rfl 30 _ _ rfl u2.heap.size _ rfl rfl 30 (nums 0) (Has.new' (by simp)) (infoNum _) (by simp only [nums_size]) (tab_oneCell _ _ fun _ => rfl) ?_; generalize hWW : World.setRow _ u2.heap.size _ = U2 at *; clear hWW) | refine wpList_load_has 30 _ rfl _ rfl rfl 30 _ hN _ Tryd.underlying30 rfl (infoNum _) ?_ | refine wpList_store_row rfl 30 _ _ rfl (w.heap.size) _ rfl rfl 30 _ hR (infoNum _) (by simp only [nums_size]) (tab_oneCell _ _ fun _ => rfl) ?_)
  exact bodyPost_ret (v := .agg (nums ev)) (results_cell_row rfl _ _ w.heap.size 30 _ _ _ rfl (hR.setRow _) Tryd.underlying30 rfl (infoNum _)) rfl ⟨rfl, below_setRow hb0 (by omega) _⟩
end Go.Proofs.YtflkhlhpifmocaaDoor
namespace Go.Proofs.YtflkhlhpifmocaaDoor
open Go.RowKit

attribute [local go_sem] zeroNum zero17c
set_option maxRecDepth 100000 in
set_option maxHeartbeats 2000000 in
theorem holds_none (X Y ev r s n a1 a2 wv n1 n2 gx gy Sx Sy xr : Nat) (Sn : Bool) (g : Nat) (w : World) (hSn : Sn = true)
    (kO : ∀ W, Below w.heap.size w W → Calls Tryd.prog 41 #[] W fun e w' => e = .returned (.agg (nums n)) ∧ Below W.heap.size W w')
    (kN : ∀ W, Calls Tryd.prog 35 #[.agg (nums n)] W fun e w' => (∃ f, e = .returned (.tuple #[.pointer (some ⟨f, 0, none⟩), .int .i64 0]) ∧ IsMod w' f n) ∧ Below W.heap.size W w')
    (kI : ∀ f W, IsMod W f n → Calls Tryd.prog 36 #[.pointer (some ⟨f, 0, none⟩), .agg (nums s)] W fun e w' => e = .returned (.agg (nums a1)) ∧ Below W.heap.size W w')
    (kV : ∀ f W, IsMod W f n → Calls Tryd.prog 43 #[.pointer (some ⟨f, 0, none⟩), .agg (nums a1)] W fun e w' => e = .returned (.agg (nums a2)) ∧ Below W.heap.size W w')
    (kU : ∀ f W, IsMod W f n → Calls Tryd.prog 42 #[.pointer (some ⟨f, 0, none⟩), .agg (nums a2)] W fun e w' => e = .returned (.agg (nums wv)) ∧ Below W.heap.size W w')
    (kM1 : ∀ f W, IsMod W f n → Calls Tryd.prog 45 #[.pointer (some ⟨f, 0, none⟩), .agg (nums ev), .agg (nums wv)] W fun e w' => e = .returned (.agg (nums n1)) ∧ Below W.heap.size W w')
    (kBa : ∀ W, Below w.heap.size w W → Calls Tryd.prog 46 #[] W fun e w' => e = .returned (.agg (cpC gx gy false)) ∧ Below W.heap.size W w')
    (kM2 : ∀ f W, IsMod W f n → Calls Tryd.prog 45 #[.pointer (some ⟨f, 0, none⟩), .agg (nums r), .agg (nums wv)] W fun e w' => e = .returned (.agg (nums n2)) ∧ Below W.heap.size W w')
    (kT : ∀ W, Below w.heap.size w W → Calls Tryd.prog 44 #[.pointer (some ⟨g, 0, none⟩), .agg (nums n1), .agg (cpC gx gy false), .agg (nums n2), .agg (cpC X Y false)] W fun e w' => e = .returned (.agg (cpC Sx Sy Sn)) ∧ Below W.heap.size W w')
    (_kR : ∀ f W, IsMod W f n → Calls Tryd.prog 47 #[.pointer (some ⟨f, 0, none⟩), .agg (nums Sx)] W fun e w' => e = .returned (.agg (nums xr)) ∧ Below W.heap.size W w') (hxr : xr < big) (hr : r < big) : Calls Tryd.prog 17 #[.pointer (some ⟨g, 0, none⟩), .agg (cpC X Y false), .agg (nums ev), .agg (nums r), .agg (nums s)] w fun e w' => e = .returned (.bool false) ∧ Below w.heap.size w w' := by
  subst hSn
  have hEQ := fun o1 o2 W => numEqG o1 o2 xr r hxr hr W
  generalize sameN xr r = rr at *
  have HEQ := Lib.hid hEQ
  clear hxr hr hEQ
  have n0 := nums_ne 0
  have c0 := cpC_ne 0 0 false
  have hQ : Has ((((w.alloc (.cells (cpC X Y false) 32)).alloc (.cells (nums ev) 30)).alloc (.cells (nums r) 30)).alloc (.cells (nums s) 30)) w.heap.size 32 (cpC X Y false) := (((Has.new w _ _).alloc _).alloc _).alloc _
  have hE : Has ((((w.alloc (.cells (cpC X Y false) 32)).alloc (.cells (nums ev) 30)).alloc (.cells (nums r) 30)).alloc (.cells (nums s) 30)) (w.heap.size + 1) 30 (nums ev) := ((Has.new' (by simp)).alloc _).alloc _
  have hR : Has ((((w.alloc (.cells (cpC X Y false) 32)).alloc (.cells (nums ev) 30)).alloc (.cells (nums r) 30)).alloc (.cells (nums s) 30)) (w.heap.size + 1 + 1) 30 (nums r) := (Has.new' (by simp)).alloc _
  have hS : Has ((((w.alloc (.cells (cpC X Y false) 32)).alloc (.cells (nums ev) 30)).alloc (.cells (nums r) 30)).alloc (.cells (nums s) 30)) (w.heap.size + 1 + 1 + 1) 30 (nums s) := Has.new' (by simp)
  have hb0 : Below w.heap.size w ((((w.alloc (.cells (cpC X Y false) 32)).alloc (.cells (nums ev) 30)).alloc (.cells (nums r) 30)).alloc (.cells (nums s) 30)) := ((((Below.refl _ _).alloc (Nat.le_refl _) _).alloc (by simp) _).alloc (by simp <;> omega) _).alloc (by simp <;> omega) _
  go_enter Tryd.func17, Tryd.ntmps17
  go_wp2_with fail
  refine (kO _ hb0).mono ?_
  rintro e u1 ⟨rfl, hx⟩
  replace hQ := hQ.after hx; replace hE := hE.after hx; replace hR := hR.after hx; replace hS := hS.after hx; replace hb0 := below_trans hb0 hx
  clear hx kO
  go_wp2_with fail
  refine (kN _).mono ?_
  rintro e u2 ⟨⟨f, rfl, hM⟩, hx⟩
  replace hQ := hQ.after hx; replace hE := hE.after hx; replace hR := hR.after hx; replace hS := hS.after hx; replace hb0 := below_trans hb0 hx
  clear hx kN
  go_wp2_with (first | refine wpList_load_has 30 _ rfl _ rfl rfl 30 _ hS _ Tryd.underlying30 rfl (infoNum _) ?_)
  refine (kI _ _ hM).mono ?_
  rintro e u3 ⟨rfl, hx⟩
  replace hQ := hQ.after hx; replace hE := hE.after hx; replace hR := hR.after hx; replace hS := hS.after hx; replace hM := hM.after hx; replace hb0 := below_trans hb0 hx
  clear hx kI hS
  go_wp2_with fail
  refine (kV _ _ hM).mono ?_
  rintro e u4 ⟨rfl, hx⟩
  replace hQ := hQ.after hx; replace hE := hE.after hx; replace hR := hR.after hx; replace hM := hM.after hx; replace hb0 := below_trans hb0 hx
  clear hx kV
  go_wp2_with fail
  refine (kU _ _ hM).mono ?_
  rintro e u5 ⟨rfl, hx⟩
  have hz := put_new u5 30 (nums 0) (nums wv)
  replace hQ := (hQ.after hx).after hz.2; replace hE := (hE.after hx).after hz.2; replace hR := (hR.after hx).after hz.2; replace hM := (hM.after hx).after hz.2; replace hb0 := below_trans (below_trans hb0 hx) hz.2
  have hV := hz.1
  clear hx hz kU
  go_wp2_with (first | (refine wpList_store_row rfl 30 _ _ rfl u5.heap.size _ rfl rfl 30 (nums 0) (Has.new' rfl) (infoNum _) (by simp only [nums_size]) (tab_oneCell _ _ fun _ => rfl) ?_; generalize hWW : World.setRow _ u5.heap.size _ = U5 at *; clear hWW))
  refine region_facts 13 [] [.val (.pointer (some ⟨g, 0, none⟩)), .val (.pointer (some ⟨f, 0, none⟩)), .val (.agg (nums ev)), .val (.agg (nums wv)), .val (.agg (nums n1)), .val (.agg (cpC gx gy false)), .val (.pointer (some ⟨f, 0, none⟩)), .val (.agg (nums r)), .val (.agg (nums wv)), .val (.agg (nums n2)), .val (.agg (cpC X Y false)), .val (.agg (cpC Sx Sy true)), .new 32 (cpC 0 0 false)]
    (by kernel_rfl) (by kernel_rfl) (fun _ _ _ _ _ h => h) ?_ ?_
  · simp only [List.take_succ_cons, List.take_zero, StepsOK]
    refine ⟨?_, ?_, ?_, ?_, ?_, ?_, ?_, ?_, ?_, ?_, ?_, ?_, ?_, trivial⟩
    · intro v w' hb hf K hKt
      simp only [putAll, Act.put, List.setIfInBounds_toArray, List.set_cons_zero, List.set_cons_succ, Nat.zero_add, Nat.reduceAdd] at hKt ⊢
      go_simp
      exact hKt _ (Below.refl _ _)
    · intro v w' hb hf K hKt
      simp only [putAll, Act.put, List.setIfInBounds_toArray, List.set_cons_zero, List.set_cons_succ, Nat.zero_add, Nat.reduceAdd] at hKt ⊢
      go_simp
      exact hKt _ (Below.refl _ _)
    · intro v w' hb hf K hKt
      simp only [putAll, Act.put, List.setIfInBounds_toArray, List.set_cons_zero, List.set_cons_succ, Nat.zero_add, Nat.reduceAdd] at hKt ⊢
      exact wp_load_row 30 _ rfl (w.heap.size + 1) rfl 30 _ (0, 0) _ (hE.after hb) Tryd.underlying30 rfl (infoNum _) (hKt _ (Below.refl _ _))
    · intro v w' hb hf K hKt
      simp only [putAll, Act.put, List.setIfInBounds_toArray, List.set_cons_zero, List.set_cons_succ, Nat.zero_add, Nat.reduceAdd] at hKt ⊢
      exact wp_load_row 30 _ rfl (u5.heap.size) rfl 30 _ (0, 0) _ (hV.after hb) Tryd.underlying30 rfl (infoNum _) (hKt _ (Below.refl _ _))
    · intro v w' hb hf K hKt
      have f1 : v 1 = _ := hf ⟨1, .data⟩ (by simp) rfl
      have f2 : v 2 = _ := hf ⟨2, .data⟩ (by simp) rfl
      have f3 : v 3 = _ := hf ⟨3, .data⟩ (by simp) rfl
      simp only [putAll, Act.put, List.setIfInBounds_toArray, List.set_cons_zero, List.set_cons_succ, Nat.zero_add, Nat.reduceAdd] at hKt ⊢
      rw [f1, f2, f3] at hKt ⊢
      go_simp
      refine (kM1 _ w' (hM.after hb)).mono ?_
      rintro e w'' ⟨rfl, hb2⟩
      exact hKt _ hb2
    · intro v w' hb hf K hKt
      simp only [putAll, Act.put, List.setIfInBounds_toArray, List.set_cons_zero, List.set_cons_succ, Nat.zero_add, Nat.reduceAdd] at hKt ⊢
      go_simp
      refine (kBa w' (below_trans hb0 hb)).mono ?_
      rintro e w'' ⟨rfl, hb2⟩
      exact hKt _ hb2
    · intro v w' hb hf K hKt
      simp only [putAll, Act.put, List.setIfInBounds_toArray, List.set_cons_zero, List.set_cons_succ, Nat.zero_add, Nat.reduceAdd] at hKt ⊢
      go_simp
      exact hKt _ (Below.refl _ _)
    · intro v w' hb hf K hKt
      simp only [putAll, Act.put, List.setIfInBounds_toArray, List.set_cons_zero, List.set_cons_succ, Nat.zero_add, Nat.reduceAdd] at hKt ⊢
      exact wp_load_row 30 _ rfl (w.heap.size + 1 + 1) rfl 30 _ (0, 0) _ (hR.after hb) Tryd.underlying30 rfl (infoNum _) (hKt _ (Below.refl _ _))
    · intro v w' hb hf K hKt
      simp only [putAll, Act.put, List.setIfInBounds_toArray, List.set_cons_zero, List.set_cons_succ, Nat.zero_add, Nat.reduceAdd] at hKt ⊢
      exact wp_load_row 30 _ rfl (u5.heap.size) rfl 30 _ (0, 0) _ (hV.after hb) Tryd.underlying30 rfl (infoNum _) (hKt _ (Below.refl _ _))
    · intro v w' hb hf K hKt
      have f6 : v 6 = _ := hf ⟨6, .data⟩ (by simp) rfl
      have f7 : v 7 = _ := hf ⟨7, .data⟩ (by simp) rfl
      have f8 : v 8 = _ := hf ⟨8, .data⟩ (by simp) rfl
      simp only [putAll, Act.put, List.setIfInBounds_toArray, List.set_cons_zero, List.set_cons_succ, Nat.zero_add, Nat.reduceAdd] at hKt ⊢
      rw [f6, f7, f8] at hKt ⊢
      go_simp
      refine (kM2 _ w' (hM.after hb)).mono ?_
      rintro e w'' ⟨rfl, hb2⟩
      exact hKt _ hb2
    · intro v w' hb hf K hKt
      simp only [putAll, Act.put, List.setIfInBounds_toArray, List.set_cons_zero, List.set_cons_succ, Nat.zero_add, Nat.reduceAdd] at hKt ⊢
      exact wp_load_row 32 _ rfl (w.heap.size) rfl 32 _ (0, 0) _ (hQ.after hb) Tryd.underlying32 rfl (infoCp _ _ _) (hKt _ (Below.refl _ _))
    · intro v w' hb hf K hKt
      have f0 : v 0 = _ := hf ⟨0, .data⟩ (by simp) rfl
      have f4 : v 4 = _ := hf ⟨4, .data⟩ (by simp) rfl
      have f5 : v 5 = _ := hf ⟨5, .data⟩ (by simp) rfl
      have f9 : v 9 = _ := hf ⟨9, .data⟩ (by simp) rfl
      have f10 : v 10 = _ := hf ⟨10, .data⟩ (by simp) rfl
      simp only [putAll, Act.put, List.setIfInBounds_toArray, List.set_cons_zero, List.set_cons_succ, Nat.zero_add, Nat.reduceAdd] at hKt ⊢
      rw [f0, f4, f5, f9, f10] at hKt ⊢
      go_simp
      refine (kT w' (below_trans hb0 hb)).mono ?_
      rintro e w'' ⟨rfl, hb2⟩
      exact hKt _ hb2
    · exact ⟨rfl, rfl, zeroVC⟩
  intro v u6 hb hF hD
  have f0 : v 0 = _ := hF 0 (by decide)
  have f1 : v 1 = _ := hF 1 (by decide)
  have f2 : v 2 = _ := hF 2 (by decide)
  have f3 : v 3 = _ := hF 3 (by decide)
  have f4 : v 4 = _ := hF 4 (by decide)
  have f5 : v 5 = _ := hF 5 (by decide)
  have f6 : v 6 = _ := hF 6 (by decide)
  have f7 : v 7 = _ := hF 7 (by decide)
  have f8 : v 8 = _ := hF 8 (by decide)
  have f9 : v 9 = _ := hF 9 (by decide)
  have f10 : v 10 = _ := hF 10 (by decide)
  have f11 : v 11 = _ := hF 11 (by decide)
  obtain ⟨gs, f12, hg12, hl12, hz12⟩ := hF 12 (by decide)
  replace hz12 : Has u6 gs 32 (cpC 0 0 false) := hz12
  simp only [List.take_succ_cons, List.take_zero, List.drop_succ_cons, List.drop_zero, putAll, Act.put, List.setIfInBounds_toArray, List.set_cons_zero, List.set_cons_succ, Nat.zero_add, Nat.reduceAdd]
  rw [f0, f1, f2, f3, f4, f5, f6, f7, f8, f9, f10, f11, f12]
  clear hF hD f0 f1 f2 f3 f4 f5 f6 f7 f8 f9 f10 f11 f12
  have hs12 := hz12
  have hBW := below_setRow (hb) (g := gs) hg12 (cpC Sx Sy true)
  have hSm := (hz12).setRow (cpC Sx Sy true)
  replace hE := hE.after hBW
  replace hQ := hQ.after hBW
  replace hR := hR.after hBW
  replace hV := hV.after hBW
  replace hM := hM.after hBW
  replace hb0 := below_trans hb0 hBW
  go_wp2_with (first | (refine wpList_store_row rfl 32 _ _ rfl gs _ rfl rfl 32 (cpC 0 0 false) hs12 (infoCp _ _ _) (by simp only [cpC_size]) (cpC_one _ _ _) ?_; generalize hWW : World.setRow _ gs _ = U6 at *; clear hWW))
  clear hBW hb hs12 hz12  
  clear kM1 kBa kM2 kT hQ hE hV
  refine region_quiet_tail (Below U6.heap.size U6) 11 (by kernel_rfl) (by kernel_rfl) (below_drewN (Below.refl _ _) 1) ?_
  simp only [List.take_succ_cons, List.take_zero, List.drop_succ_cons, List.drop_zero]
  refine WQ.out ?_
  refine WQ.lift (wpQ_val rfl (.pointer (some ⟨gs, 16, none⟩)) (fun w' _ => by go_simp)) ?_
  simp only [Act.put, List.setIfInBounds_toArray, List.set_cons_zero, List.set_cons_succ]
  refine WQ.lift (wpQ_load 4 _ rfl rfl (.pointer (some ⟨gs, 16, none⟩)) rfl (.bool true) (fun w' hC => cell_bool _ _ _ w' (cp_n (hSm.after hC)))) ?_
  simp only [Act.put, List.setIfInBounds_toArray, List.set_cons_zero, List.set_cons_succ]
  refine WQ.lift (wpQ_un _ _ _ rfl rfl (.bool true) rfl (.bool false) (fun w' _ => notB true w')) ?_
  simp only [Act.put, List.setIfInBounds_toArray, List.set_cons_zero, List.set_cons_succ]
  refine WQ.lift (wpQ_move _ rfl rfl (.bool false) rfl) ?_
  simp only [Act.put, List.setIfInBounds_toArray, List.set_cons_zero, List.set_cons_succ]
  refine WQ.skip rfl ?_
  simp only [Act.put, List.setIfInBounds_toArray, List.set_cons_zero, List.set_cons_succ]
  refine WQ.skip rfl ?_
  simp only [Act.put, List.setIfInBounds_toArray, List.set_cons_zero, List.set_cons_succ]
  refine WQ.skip rfl ?_
  simp only [Act.put, List.setIfInBounds_toArray, List.set_cons_zero, List.set_cons_succ]
  refine WQ.skip rfl ?_
  simp only [Act.put, List.setIfInBounds_toArray, List.set_cons_zero, List.set_cons_succ]
  refine WQ.skip rfl ?_
  simp only [Act.put, List.setIfInBounds_toArray, List.set_cons_zero, List.set_cons_succ]
  refine WQ.skip rfl ?_
  simp only [Act.put, List.setIfInBounds_toArray, List.set_cons_zero, List.set_cons_succ]
  refine WQ.lift (wpQ_pick _ _ _ rfl rfl false rfl (.bool false) rfl) ?_
  simp only [Act.put, List.setIfInBounds_toArray, List.set_cons_zero, List.set_cons_succ]
  refine WQ.mk (wpQuiet_nil ?_)
  intro u7 hC
  replace hb0 := below_trans hb0 hC
  clear hC
  go_wp2_with fail
  go_ret
  exact ⟨rfl, hb0⟩
set_option maxRecDepth 100000 in
set_option maxHeartbeats 2000000 in
theorem holds_some (X Y ev r s n a1 a2 wv n1 n2 gx gy Sx Sy xr : Nat) (Sn : Bool) (g : Nat) (w : World) (hSn : Sn = false)
    (kO : ∀ W, Below w.heap.size w W → Calls Tryd.prog 41 #[] W fun e w' => e = .returned (.agg (nums n)) ∧ Below W.heap.size W w')
    (kN : ∀ W, Calls Tryd.prog 35 #[.agg (nums n)] W fun e w' => (∃ f, e = .returned (.tuple #[.pointer (some ⟨f, 0, none⟩), .int .i64 0]) ∧ IsMod w' f n) ∧ Below W.heap.size W w')
    (kI : ∀ f W, IsMod W f n → Calls Tryd.prog 36 #[.pointer (some ⟨f, 0, none⟩), .agg (nums s)] W fun e w' => e = .returned (.agg (nums a1)) ∧ Below W.heap.size W w')
    (kV : ∀ f W, IsMod W f n → Calls Tryd.prog 43 #[.pointer (some ⟨f, 0, none⟩), .agg (nums a1)] W fun e w' => e = .returned (.agg (nums a2)) ∧ Below W.heap.size W w')
    (kU : ∀ f W, IsMod W f n → Calls Tryd.prog 42 #[.pointer (some ⟨f, 0, none⟩), .agg (nums a2)] W fun e w' => e = .returned (.agg (nums wv)) ∧ Below W.heap.size W w')
    (kM1 : ∀ f W, IsMod W f n → Calls Tryd.prog 45 #[.pointer (some ⟨f, 0, none⟩), .agg (nums ev), .agg (nums wv)] W fun e w' => e = .returned (.agg (nums n1)) ∧ Below W.heap.size W w')
    (kBa : ∀ W, Below w.heap.size w W → Calls Tryd.prog 46 #[] W fun e w' => e = .returned (.agg (cpC gx gy false)) ∧ Below W.heap.size W w')
    (kM2 : ∀ f W, IsMod W f n → Calls Tryd.prog 45 #[.pointer (some ⟨f, 0, none⟩), .agg (nums r), .agg (nums wv)] W fun e w' => e = .returned (.agg (nums n2)) ∧ Below W.heap.size W w')
    (kT : ∀ W, Below w.heap.size w W → Calls Tryd.prog 44 #[.pointer (some ⟨g, 0, none⟩), .agg (nums n1), .agg (cpC gx gy false), .agg (nums n2), .agg (cpC X Y false)] W fun e w' => e = .returned (.agg (cpC Sx Sy Sn)) ∧ Below W.heap.size W w')
    (kR : ∀ f W, IsMod W f n → Calls Tryd.prog 47 #[.pointer (some ⟨f, 0, none⟩), .agg (nums Sx)] W fun e w' => e = .returned (.agg (nums xr)) ∧ Below W.heap.size W w') (hxr : xr < big) (hr : r < big) : Calls Tryd.prog 17 #[.pointer (some ⟨g, 0, none⟩), .agg (cpC X Y false), .agg (nums ev), .agg (nums r), .agg (nums s)] w fun e w' => e = .returned (.bool (sameN xr r)) ∧ Below w.heap.size w w' := by
  subst hSn
  have hEQ := fun o1 o2 W => numEqG o1 o2 xr r hxr hr W
  generalize sameN xr r = rr at *
  have HEQ := Lib.hid hEQ
  clear hxr hr hEQ
  have n0 := nums_ne 0
  have c0 := cpC_ne 0 0 false
  have hQ : Has ((((w.alloc (.cells (cpC X Y false) 32)).alloc (.cells (nums ev) 30)).alloc (.cells (nums r) 30)).alloc (.cells (nums s) 30)) w.heap.size 32 (cpC X Y false) := (((Has.new w _ _).alloc _).alloc _).alloc _
  have hE : Has ((((w.alloc (.cells (cpC X Y false) 32)).alloc (.cells (nums ev) 30)).alloc (.cells (nums r) 30)).alloc (.cells (nums s) 30)) (w.heap.size + 1) 30 (nums ev) := ((Has.new' (by simp)).alloc _).alloc _
  have hR : Has ((((w.alloc (.cells (cpC X Y false) 32)).alloc (.cells (nums ev) 30)).alloc (.cells (nums r) 30)).alloc (.cells (nums s) 30)) (w.heap.size + 1 + 1) 30 (nums r) := (Has.new' (by simp)).alloc _
  have hS : Has ((((w.alloc (.cells (cpC X Y false) 32)).alloc (.cells (nums ev) 30)).alloc (.cells (nums r) 30)).alloc (.cells (nums s) 30)) (w.heap.size + 1 + 1 + 1) 30 (nums s) := Has.new' (by simp)
  have hb0 : Below w.heap.size w ((((w.alloc (.cells (cpC X Y false) 32)).alloc (.cells (nums ev) 30)).alloc (.cells (nums r) 30)).alloc (.cells (nums s) 30)) := ((((Below.refl _ _).alloc (Nat.le_refl _) _).alloc (by simp) _).alloc (by simp <;> omega) _).alloc (by simp <;> omega) _
  go_enter Tryd.func17, Tryd.ntmps17
  go_wp2_with fail
  refine (kO _ hb0).mono ?_
  rintro e u1 ⟨rfl, hx⟩
  replace hQ := hQ.after hx; replace hE := hE.after hx; replace hR := hR.after hx; replace hS := hS.after hx; replace hb0 := below_trans hb0 hx
  clear hx kO
  go_wp2_with fail
  refine (kN _).mono ?_
  rintro e u2 ⟨⟨f, rfl, hM⟩, hx⟩
  replace hQ := hQ.after hx; replace hE := hE.after hx; replace hR := hR.after hx; replace hS := hS.after hx; replace hb0 := below_trans hb0 hx
  clear hx kN
  go_wp2_with (first | refine wpList_load_has 30 _ rfl _ rfl rfl 30 _ hS _ Tryd.underlying30 rfl (infoNum _) ?_)
  refine (kI _ _ hM).mono ?_
  rintro e u3 ⟨rfl, hx⟩
  replace hQ := hQ.after hx; replace hE := hE.after hx; replace hR := hR.after hx; replace hS := hS.after hx; replace hM := hM.after hx; replace hb0 := below_trans hb0 hx
  clear hx kI hS
  go_wp2_with fail
  refine (kV _ _ hM).mono ?_
  rintro e u4 ⟨rfl, hx⟩
  replace hQ := hQ.after hx; replace hE := hE.after hx; replace hR := hR.after hx; replace hM := hM.after hx; replace hb0 := below_trans hb0 hx
  clear hx kV
  go_wp2_with fail
  refine (kU _ _ hM).mono ?_
  rintro e u5 ⟨rfl, hx⟩
  have hz := put_new u5 30 (nums 0) (nums wv)
  replace hQ := (hQ.after hx).after hz.2; replace hE := (hE.after hx).after hz.2; replace hR := (hR.after hx).after hz.2; replace hM := (hM.after hx).after hz.2; replace hb0 := below_trans (below_trans hb0 hx) hz.2
  have hV := hz.1
  clear hx hz kU
  go_wp2_with (first | (refine wpList_store_row rfl 30 _ _ rfl u5.heap.size _ rfl rfl 30 (nums 0) (Has.new' rfl) (infoNum _) (by simp only [nums_size]) (tab_oneCell _ _ fun _ => rfl) ?_; generalize hWW : World.setRow _ u5.heap.size _ = U5 at *; clear hWW))
  refine region_facts 13 [] [.val (.pointer (some ⟨g, 0, none⟩)), .val (.pointer (some ⟨f, 0, none⟩)), .val (.agg (nums ev)), .val (.agg (nums wv)), .val (.agg (nums n1)), .val (.agg (cpC gx gy false)), .val (.pointer (some ⟨f, 0, none⟩)), .val (.agg (nums r)), .val (.agg (nums wv)), .val (.agg (nums n2)), .val (.agg (cpC X Y false)), .val (.agg (cpC Sx Sy false)), .new 32 (cpC 0 0 false)]
    (by kernel_rfl) (by kernel_rfl) (fun _ _ _ _ _ h => h) ?_ ?_
  · simp only [List.take_succ_cons, List.take_zero, StepsOK]
    refine ⟨?_, ?_, ?_, ?_, ?_, ?_, ?_, ?_, ?_, ?_, ?_, ?_, ?_, trivial⟩
    · intro v w' hb hf K hKt
      simp only [putAll, Act.put, List.setIfInBounds_toArray, List.set_cons_zero, List.set_cons_succ, Nat.zero_add, Nat.reduceAdd] at hKt ⊢
      go_simp
      exact hKt _ (Below.refl _ _)
    · intro v w' hb hf K hKt
      simp only [putAll, Act.put, List.setIfInBounds_toArray, List.set_cons_zero, List.set_cons_succ, Nat.zero_add, Nat.reduceAdd] at hKt ⊢
      go_simp
      exact hKt _ (Below.refl _ _)
    · intro v w' hb hf K hKt
      simp only [putAll, Act.put, List.setIfInBounds_toArray, List.set_cons_zero, List.set_cons_succ, Nat.zero_add, Nat.reduceAdd] at hKt ⊢
      exact wp_load_row 30 _ rfl (w.heap.size + 1) rfl 30 _ (0, 0) _ (hE.after hb) Tryd.underlying30 rfl (infoNum _) (hKt _ (Below.refl _ _))
    · intro v w' hb hf K hKt
      simp only [putAll, Act.put, List.setIfInBounds_toArray, List.set_cons_zero, List.set_cons_succ, Nat.zero_add, Nat.reduceAdd] at hKt ⊢
      exact wp_load_row 30 _ rfl (u5.heap.size) rfl 30 _ (0, 0) _ (hV.after hb) Tryd.underlying30 rfl (infoNum _) (hKt _ (Below.refl _ _))
    · intro v w' hb hf K hKt
      have f1 : v 1 = _ := hf ⟨1, .data⟩ (by simp) rfl
      have f2 : v 2 = _ := hf ⟨2, .data⟩ (by simp) rfl
      have f3 : v 3 = _ := hf ⟨3, .data⟩ (by simp) rfl
      simp only [putAll, Act.put, List.setIfInBounds_toArray, List.set_cons_zero, List.set_cons_succ, Nat.zero_add, Nat.reduceAdd] at hKt ⊢
      rw [f1, f2, f3] at hKt ⊢
      go_simp
      refine (kM1 _ w' (hM.after hb)).mono ?_
      rintro e w'' ⟨rfl, hb2⟩
      exact hKt _ hb2
    · intro v w' hb hf K hKt
      simp only [putAll, Act.put, List.setIfInBounds_toArray, List.set_cons_zero, List.set_cons_succ, Nat.zero_add, Nat.reduceAdd] at hKt ⊢
      go_simp
      refine (kBa w' (below_trans hb0 hb)).mono ?_
      rintro e w'' ⟨rfl, hb2⟩
      exact hKt _ hb2
    · intro v w' hb hf K hKt
      simp only [putAll, Act.put, List.setIfInBounds_toArray, List.set_cons_zero, List.set_cons_succ, Nat.zero_add, Nat.reduceAdd] at hKt ⊢
      go_simp
      exact hKt _ (Below.refl _ _)
    · intro v w' hb hf K hKt
      simp only [putAll, Act.put, List.setIfInBounds_toArray, List.set_cons_zero, List.set_cons_succ, Nat.zero_add, Nat.reduceAdd] at hKt ⊢
      exact wp_load_row 30 _ rfl (w.heap.size + 1 + 1) rfl 30 _ (0, 0) _ (hR.after hb) Tryd.underlying30 rfl (infoNum _) (hKt _ (Below.refl _ _))
    · intro v w' hb hf K hKt
      simp only [putAll, Act.put, List.setIfInBounds_toArray, List.set_cons_zero, List.set_cons_succ, Nat.zero_add, Nat.reduceAdd] at hKt ⊢
      exact wp_load_row 30 _ rfl (u5.heap.size) rfl 30 _ (0, 0) _ (hV.after hb) Tryd.underlying30 rfl (infoNum _) (hKt _ (Below.refl _ _))
    · intro v w' hb hf K hKt
      have f6 : v 6 = _ := hf ⟨6, .data⟩ (by simp) rfl
      have f7 : v 7 = _ := hf ⟨7, .data⟩ (by simp) rfl
      have f8 : v 8 = _ := hf ⟨8, .data⟩ (by simp) rfl
      simp only [putAll, Act.put, List.setIfInBounds_toArray, List.set_cons_zero, List.set_cons_succ, Nat.zero_add, Nat.reduceAdd] at hKt ⊢
      rw [f6, f7, f8] at hKt ⊢
      go_simp
      refine (kM2 _ w' (hM.after hb)).mono ?_
      rintro e w'' ⟨rfl, hb2⟩
      exact hKt _ hb2
    · intro v w' hb hf K hKt
      simp only [putAll, Act.put, List.setIfInBounds_toArray, List.set_cons_zero, List.set_cons_succ, Nat.zero_add, Nat.reduceAdd] at hKt ⊢
      exact wp_load_row 32 _ rfl (w.heap.size) rfl 32 _ (0, 0) _ (hQ.after hb) Tryd.underlying32 rfl (infoCp _ _ _) (hKt _ (Below.refl _ _))
    · intro v w' hb hf K hKt
      have f0 : v 0 = _ := hf ⟨0, .data⟩ (by simp) rfl
      have f4 : v 4 = _ := hf ⟨4, .data⟩ (by simp) rfl
      have f5 : v 5 = _ := hf ⟨5, .data⟩ (by simp) rfl
      have f9 : v 9 = _ := hf ⟨9, .data⟩ (by simp) rfl
      have f10 : v 10 = _ := hf ⟨10, .data⟩ (by simp) rfl
      simp only [putAll, Act.put, List.setIfInBounds_toArray, List.set_cons_zero, List.set_cons_succ, Nat.zero_add, Nat.reduceAdd] at hKt ⊢
      rw [f0, f4, f5, f9, f10] at hKt ⊢
      go_simp
      refine (kT w' (below_trans hb0 hb)).mono ?_
      rintro e w'' ⟨rfl, hb2⟩
      exact hKt _ hb2
    · exact ⟨rfl, rfl, zeroVC⟩
  intro v u6 hb hF hD
  have f0 : v 0 = _ := hF 0 (by decide)
  have f1 : v 1 = _ := hF 1 (by decide)
  have f2 : v 2 = _ := hF 2 (by decide)
  have f3 : v 3 = _ := hF 3 (by decide)
  have f4 : v 4 = _ := hF 4 (by decide)
  have f5 : v 5 = _ := hF 5 (by decide)
  have f6 : v 6 = _ := hF 6 (by decide)
  have f7 : v 7 = _ := hF 7 (by decide)
  have f8 : v 8 = _ := hF 8 (by decide)
  have f9 : v 9 = _ := hF 9 (by decide)
  have f10 : v 10 = _ := hF 10 (by decide)
  have f11 : v 11 = _ := hF 11 (by decide)
  obtain ⟨gs, f12, hg12, hl12, hz12⟩ := hF 12 (by decide)
  replace hz12 : Has u6 gs 32 (cpC 0 0 false) := hz12
  simp only [List.take_succ_cons, List.take_zero, List.drop_succ_cons, List.drop_zero, putAll, Act.put, List.setIfInBounds_toArray, List.set_cons_zero, List.set_cons_succ, Nat.zero_add, Nat.reduceAdd]
  rw [f0, f1, f2, f3, f4, f5, f6, f7, f8, f9, f10, f11, f12]
  clear hF hD f0 f1 f2 f3 f4 f5 f6 f7 f8 f9 f10 f11 f12
  have hs12 := hz12
  have hBW := below_setRow (hb) (g := gs) hg12 (cpC Sx Sy false)
  have hSm := (hz12).setRow (cpC Sx Sy false)
  replace hE := hE.after hBW
  replace hQ := hQ.after hBW
  replace hR := hR.after hBW
  replace hV := hV.after hBW
  replace hM := hM.after hBW
  replace hb0 := below_trans hb0 hBW
  go_wp2_with (first | (refine wpList_store_row rfl 32 _ _ rfl gs _ rfl rfl 32 (cpC 0 0 false) hs12 (infoCp _ _ _) (by simp only [cpC_size]) (cpC_one _ _ _) ?_; generalize hWW : World.setRow _ gs _ = U6 at *; clear hWW))
  clear hBW hb hs12 hz12  
  clear kM1 kBa kM2 kT hQ hE hV
  refine region_quiet_tail (Below U6.heap.size U6) 11 (by kernel_rfl) (by kernel_rfl) (below_drewN (Below.refl _ _) 1) ?_
  simp only [List.take_succ_cons, List.take_zero, List.drop_succ_cons, List.drop_zero]
  refine WQ.out ?_
  refine WQ.lift (wpQ_val rfl (.pointer (some ⟨gs, 16, none⟩)) (fun w' _ => by go_simp)) ?_
  simp only [Act.put, List.setIfInBounds_toArray, List.set_cons_zero, List.set_cons_succ]
  refine WQ.lift (wpQ_load 4 _ rfl rfl (.pointer (some ⟨gs, 16, none⟩)) rfl (.bool false) (fun w' hC => cell_bool _ _ _ w' (cp_n (hSm.after hC)))) ?_
  simp only [Act.put, List.setIfInBounds_toArray, List.set_cons_zero, List.set_cons_succ]
  refine WQ.lift (wpQ_un _ _ _ rfl rfl (.bool false) rfl (.bool true) (fun w' _ => notB false w')) ?_
  simp only [Act.put, List.setIfInBounds_toArray, List.set_cons_zero, List.set_cons_succ]
  refine WQ.lift (wpQ_move _ rfl rfl (.bool true) rfl) ?_
  simp only [Act.put, List.setIfInBounds_toArray, List.set_cons_zero, List.set_cons_succ]
  refine WQ.lift (wpQ_move _ rfl rfl (.pointer (some ⟨f, 0, none⟩)) rfl) ?_
  simp only [Act.put, List.setIfInBounds_toArray, List.set_cons_zero, List.set_cons_succ]
  refine WQ.lift (wpQ_val rfl (.pointer (some ⟨gs, 0, none⟩)) (fun w' _ => by go_simp)) ?_
  simp only [Act.put, List.setIfInBounds_toArray, List.set_cons_zero, List.set_cons_succ]
  refine WQ.lift (wpQ_load_num rfl _ rfl gs 0 rfl Sx (fun w' hC => cp_x (hSm.after hC))) ?_
  simp only [Act.put, List.setIfInBounds_toArray, List.set_cons_zero, List.set_cons_succ]
  refine WQ.lift (wpQ_fn 47 _ _ rfl rfl #[.pointer (some ⟨f, 0, none⟩), .agg (nums Sx)] rfl (fun _ => by go_simp) (.agg (nums xr)) (fun w' hC => (kR _ w' (hM.after hC)).mono fun e w'' ⟨he, hb⟩ => ⟨he, below_class hC hb⟩)) ?_
  simp only [Act.put, List.setIfInBounds_toArray, List.set_cons_zero, List.set_cons_succ]
  refine WQ.lift (wpQ_has 30 _ rfl _ rfl rfl 30 _ (fun w' hC => hR.after hC) _ Tryd.underlying30 rfl (infoNum _)) ?_
  simp only [Act.put, List.setIfInBounds_toArray, List.set_cons_zero, List.set_cons_succ]
  refine WQ.lift (wpQ_bin _ _ _ _ _ rfl rfl (.agg (nums xr)) (.agg (nums r)) rfl rfl (.bool rr) (fun w' _ => HEQ.out _ _ w')) ?_
  simp only [Act.put, List.setIfInBounds_toArray, List.set_cons_zero, List.set_cons_succ]
  refine WQ.lift (wpQ_pick _ _ _ rfl rfl true rfl (.bool rr) rfl) ?_
  simp only [Act.put, List.setIfInBounds_toArray, List.set_cons_zero, List.set_cons_succ]
  refine WQ.mk (wpQuiet_nil ?_)
  intro u7 hC
  replace hb0 := below_trans hb0 hC
  clear hC
  go_wp2_with fail
  go_ret
  exact ⟨rfl, hb0⟩
end Go.Proofs.YtflkhlhpifmocaaDoor
namespace Go.Proofs.YtflkhlhpifmocaaDoor
open Go.RowKit

theorem put_two (w : World) (t : TypeId) (cs a b : Array Value) : Has ((((w.alloc (.cells cs t)).alloc (.cells cs t)).setRow w.heap.size a).setRow (w.heap.size + 1) b) w.heap.size t a ∧ Has ((((w.alloc (.cells cs t)).alloc (.cells cs t)).setRow w.heap.size a).setRow (w.heap.size + 1) b) (w.heap.size + 1) t b ∧
    Below w.heap.size w ((((w.alloc (.cells cs t)).alloc (.cells cs t)).setRow w.heap.size a).setRow (w.heap.size + 1) b) := by
  have h1 : Has ((w.alloc (.cells cs t)).alloc (.cells cs t)) w.heap.size t cs := (Has.new w t cs).alloc _
  have h2 : Has ((w.alloc (.cells cs t)).alloc (.cells cs t)) (w.heap.size + 1) t cs := Has.new' (by simp)
  have hb : Below w.heap.size w ((w.alloc (.cells cs t)).alloc (.cells cs t)) := ((Below.refl _ _).alloc (Nat.le_refl _) _).alloc (by simp) _
  exact ⟨(h1.setRow a).farRow (k := w.heap.size + 1) (by omega) b, (h2.farRow (k := w.heap.size) (by omega) a).setRow b, below_setRow (below_setRow hb (Nat.le_refl _) a) (by omega) b⟩
attribute [local go_sem] zeroNum zero17c
set_option maxRecDepth 100000 in
set_option maxHeartbeats 2000000 in
theorem sver_key (Ak Am As : Option Addr) (nk ck nm cm ns cs X Y : Nat) (b : Bool) (z : Int) (hz0 : z ≠ 0) (w : World)
    (kN : ∀ W, Below w.heap.size w W → Calls Tryd.prog 13 #[] W fun e w' => (∃ g, e = .returned (.pointer (some ⟨g, 0, none⟩)) ∧ IsCurve w' g) ∧ Below W.heap.size W w')
    (kK : ∀ g W, IsCurve W g → Below w.heap.size w W → Calls Tryd.prog 14 #[.pointer (some ⟨g, 0, none⟩), .slice Ak nk ck] W fun e w' => e = .returned (.tuple #[.agg (cpC X Y b), .int .i64 z]) ∧ Below W.heap.size W w') :
    Calls Tryd.prog 6 #[.slice Ak nk ck, .slice Am nm cm, .slice As ns cs] w fun e w' => e = .returned (.int .i64 5) ∧ Below w.heap.size w w' := by
  have hd : (z != 0) = true := bne_iff_ne.2 hz0
  clear hz0
  have hb0 := Below.refl w.heap.size w
  have n0 := nums_ne 0
  have c0 := cpC_ne 0 0 false
  go_enter Tryd.func6, Tryd.ntmps6
  go_wp2_with fail
  refine (kN _ hb0).mono ?_
  rintro e u1 ⟨⟨g, rfl, hI⟩, hx⟩
  replace hb0 := below_trans hb0 hx
  clear hx kN
  go_wp2_with fail
  refine (kK _ _ hI hb0).mono ?_
  rintro e u2 ⟨rfl, hx⟩
  have hz := put_new u2 32 (cpC 0 0 false) (cpC X Y b)
  replace hb0 := below_trans (below_trans hb0 hx) hz.2
  replace hI := (hI.after hx).after hz.2
  have hQ := hz.1
  clear hx hz kK
  go_wp2_with (first | (refine wpList_store_row rfl 32 _ _ rfl u2.heap.size _ rfl rfl 32 (cpC 0 0 false) (Has.new' rfl) (infoCp _ _ _) (by simp only [cpC_size]) (cpC_one _ _ _) ?_; generalize hWW : World.setRow _ u2.heap.size _ = U2 at *; clear hWW))
  go_ret
  exact ⟨rfl, hb0⟩
set_option maxRecDepth 100000 in
set_option maxHeartbeats 2000000 in
theorem sver_len (Ak Am As : Option Addr) (nk ck nm cm ns cs X Y : Nat) (b : Bool) (r s : Nat) (w : World)
    (kN : ∀ W, Below w.heap.size w W → Calls Tryd.prog 13 #[] W fun e w' => (∃ g, e = .returned (.pointer (some ⟨g, 0, none⟩)) ∧ IsCurve w' g) ∧ Below W.heap.size W w')
    (kK : ∀ g W, IsCurve W g → Below w.heap.size w W → Calls Tryd.prog 14 #[.pointer (some ⟨g, 0, none⟩), .slice Ak nk ck] W fun e w' => e = .returned (.tuple #[.agg (cpC X Y b), .int .i64 0]) ∧ Below W.heap.size W w')
    (kP : ∀ W, Below w.heap.size w W → Calls Tryd.prog 15 #[.slice As ns cs] W fun e w' => e = .returned (.tuple #[.agg (nums r), .agg (nums s), .int .i64 2]) ∧ Below W.heap.size W w') :
    Calls Tryd.prog 6 #[.slice Ak nk ck, .slice Am nm cm, .slice As ns cs] w fun e w' => e = .returned (.int .i64 4) ∧ Below w.heap.size w w' := by
  have hb0 := Below.refl w.heap.size w
  have n0 := nums_ne 0
  have c0 := cpC_ne 0 0 false
  go_enter Tryd.func6, Tryd.ntmps6
  go_wp2_with fail
  refine (kN _ hb0).mono ?_
  rintro e u1 ⟨⟨g, rfl, hI⟩, hx⟩
  replace hb0 := below_trans hb0 hx
  clear hx kN
  go_wp2_with fail
  refine (kK _ _ hI hb0).mono ?_
  rintro e u2 ⟨rfl, hx⟩
  have hz := put_new u2 32 (cpC 0 0 false) (cpC X Y b)
  replace hb0 := below_trans (below_trans hb0 hx) hz.2
  replace hI := (hI.after hx).after hz.2
  have hQ := hz.1
  clear hx hz kK
  go_wp2_with (first | (refine wpList_store_row rfl 32 _ _ rfl u2.heap.size _ rfl rfl 32 (cpC 0 0 false) (Has.new' rfl) (infoCp _ _ _) (by simp only [cpC_size]) (cpC_one _ _ _) ?_; generalize hWW : World.setRow _ u2.heap.size _ = U2 at *; clear hWW))
  refine (kP _ hb0).mono ?_
  rintro e u3 ⟨rfl, hx⟩
  obtain ⟨hA, hB, hz⟩ := put_two u3 30 (nums 0) (nums r) (nums s)
  have hs1 : Has ((u3.alloc (.cells (nums 0) 30)).alloc (.cells (nums 0) 30)) u3.heap.size 30 (nums 0) := (Has.new _ _ _).alloc _
  have hs2 : Has (((u3.alloc (.cells (nums 0) 30)).alloc (.cells (nums 0) 30)).setRow u3.heap.size (nums r)) (u3.heap.size + 1) 30 (nums 0) := (Has.new' (by simp)).farRow (by omega) _
  replace hQ := (hQ.after hx).after hz
  replace hI := (hI.after hx).after hz
  replace hb0 := below_trans (below_trans hb0 hx) hz
  clear hx hz kP
  go_wp2_with (first | refine wpList_store_row rfl 30 _ _ rfl (u3.heap.size) _ rfl rfl 30 _ hs1 (infoNum _) (by simp only [nums_size]) (tab_oneCell _ _ fun _ => rfl) ?_ | (refine wpList_store_row rfl 30 _ _ rfl (u3.heap.size + 1) _ rfl rfl 30 _ hs2 (infoNum _) (by simp only [nums_size]) (tab_oneCell _ _ fun _ => rfl) ?_; generalize hWW : World.setRow _ (u3.heap.size + 1) _ = U3 at *; clear hWW))
  clear hs1 hs2
  refine region_quiet_tail (Below U3.heap.size U3) 21 (by kernel_rfl) (by kernel_rfl) (below_drewN (Below.refl _ _) 1) ?_
  simp only [List.take_succ_cons, List.take_zero, List.drop_succ_cons, List.drop_zero]
  refine WQ.out ?_
  refine WQ.lift (wpQ_move _ rfl rfl (.int .i64 2) rfl) ?_
  simp only [Act.put, List.setIfInBounds_toArray, List.set_cons_zero, List.set_cons_succ]
  refine WQ.lift (wpQ_bin _ _ _ _ _ rfl rfl (.int .i64 2) (.int .i64 0) rfl rfl (.bool true) (fun w' _ => neqE _ _ 2 w')) ?_
  simp only [Act.put, List.setIfInBounds_toArray, List.set_cons_zero, List.set_cons_succ]
  refine WQ.lift (wpQ_move _ rfl rfl (.bool true) rfl) ?_
  simp only [Act.put, List.setIfInBounds_toArray, List.set_cons_zero, List.set_cons_succ]
  refine WQ.skip rfl ?_
  simp only [Act.put, List.setIfInBounds_toArray, List.set_cons_zero, List.set_cons_succ]
  refine WQ.skip rfl ?_
  simp only [Act.put, List.setIfInBounds_toArray, List.set_cons_zero, List.set_cons_succ]
  refine WQ.skip rfl ?_
  simp only [Act.put, List.setIfInBounds_toArray, List.set_cons_zero, List.set_cons_succ]
  refine WQ.lift (wpQ_pick _ _ _ rfl rfl true rfl (.bool true) rfl) ?_
  simp only [Act.put, List.setIfInBounds_toArray, List.set_cons_zero, List.set_cons_succ]
  refine WQ.lift (wpQ_move _ rfl rfl (.bool true) rfl) ?_
  simp only [Act.put, List.setIfInBounds_toArray, List.set_cons_zero, List.set_cons_succ]
  refine WQ.skip rfl ?_
  simp only [Act.put, List.setIfInBounds_toArray, List.set_cons_zero, List.set_cons_succ]
  refine WQ.skip rfl ?_
  simp only [Act.put, List.setIfInBounds_toArray, List.set_cons_zero, List.set_cons_succ]
  refine WQ.skip rfl ?_
  simp only [Act.put, List.setIfInBounds_toArray, List.set_cons_zero, List.set_cons_succ]
  refine WQ.lift (wpQ_pick _ _ _ rfl rfl true rfl (.bool true) rfl) ?_
  simp only [Act.put, List.setIfInBounds_toArray, List.set_cons_zero, List.set_cons_succ]
  refine WQ.lift (wpQ_move _ rfl rfl (.bool true) rfl) ?_
  simp only [Act.put, List.setIfInBounds_toArray, List.set_cons_zero, List.set_cons_succ]
  refine WQ.skip rfl ?_
  simp only [Act.put, List.setIfInBounds_toArray, List.set_cons_zero, List.set_cons_succ]
  refine WQ.skip rfl ?_
  simp only [Act.put, List.setIfInBounds_toArray, List.set_cons_zero, List.set_cons_succ]
  refine WQ.skip rfl ?_
  simp only [Act.put, List.setIfInBounds_toArray, List.set_cons_zero, List.set_cons_succ]
  refine WQ.skip rfl ?_
  simp only [Act.put, List.setIfInBounds_toArray, List.set_cons_zero, List.set_cons_succ]
  refine WQ.skip rfl ?_
  simp only [Act.put, List.setIfInBounds_toArray, List.set_cons_zero, List.set_cons_succ]
  refine WQ.skip rfl ?_
  simp only [Act.put, List.setIfInBounds_toArray, List.set_cons_zero, List.set_cons_succ]
  refine WQ.skip rfl ?_
  simp only [Act.put, List.setIfInBounds_toArray, List.set_cons_zero, List.set_cons_succ]
  refine WQ.skip rfl ?_
  simp only [Act.put, List.setIfInBounds_toArray, List.set_cons_zero, List.set_cons_succ]
  refine WQ.mk (wpQuiet_nil ?_)
  intro u4 hC
  replace hb0 := below_trans hb0 hC
  clear hC
  go_wp2_with fail
  go_ret
  exact ⟨rfl, hb0⟩
set_option maxRecDepth 100000 in
set_option maxHeartbeats 2000000 in
theorem sver_r (Ak Am As : Option Addr) (nk ck nm cm ns cs X Y : Nat) (b : Bool) (r s : Nat) (w : World)
    (kN : ∀ W, Below w.heap.size w W → Calls Tryd.prog 13 #[] W fun e w' => (∃ g, e = .returned (.pointer (some ⟨g, 0, none⟩)) ∧ IsCurve w' g) ∧ Below W.heap.size W w')
    (kK : ∀ g W, IsCurve W g → Below w.heap.size w W → Calls Tryd.prog 14 #[.pointer (some ⟨g, 0, none⟩), .slice Ak nk ck] W fun e w' => e = .returned (.tuple #[.agg (cpC X Y b), .int .i64 0]) ∧ Below W.heap.size W w')
    (kP : ∀ W, Below w.heap.size w W → Calls Tryd.prog 15 #[.slice As ns cs] W fun e w' => e = .returned (.tuple #[.agg (nums r), .agg (nums s), .int .i64 0]) ∧ Below W.heap.size W w')
    (kR : ∀ W, Below w.heap.size w W → Calls Tryd.prog 16 #[.agg (nums r)] W fun e w' => e = .returned (.bool false) ∧ Below W.heap.size W w') :
    Calls Tryd.prog 6 #[.slice Ak nk ck, .slice Am nm cm, .slice As ns cs] w fun e w' => e = .returned (.int .i64 4) ∧ Below w.heap.size w w' := by
  have hb0 := Below.refl w.heap.size w
  have n0 := nums_ne 0
  have c0 := cpC_ne 0 0 false
  go_enter Tryd.func6, Tryd.ntmps6
  go_wp2_with fail
  refine (kN _ hb0).mono ?_
  rintro e u1 ⟨⟨g, rfl, hI⟩, hx⟩
  replace hb0 := below_trans hb0 hx
  clear hx kN
  go_wp2_with fail
  refine (kK _ _ hI hb0).mono ?_
  rintro e u2 ⟨rfl, hx⟩
  have hz := put_new u2 32 (cpC 0 0 false) (cpC X Y b)
  replace hb0 := below_trans (below_trans hb0 hx) hz.2
  replace hI := (hI.after hx).after hz.2
  have hQ := hz.1
  clear hx hz kK
  go_wp2_with (first | (refine wpList_store_row rfl 32 _ _ rfl u2.heap.size _ rfl rfl 32 (cpC 0 0 false) (Has.new' rfl) (infoCp _ _ _) (by simp only [cpC_size]) (cpC_one _ _ _) ?_; generalize hWW : World.setRow _ u2.heap.size _ = U2 at *; clear hWW))
  refine (kP _ hb0).mono ?_
  rintro e u3 ⟨rfl, hx⟩
  obtain ⟨hA, hB, hz⟩ := put_two u3 30 (nums 0) (nums r) (nums s)
  have hs1 : Has ((u3.alloc (.cells (nums 0) 30)).alloc (.cells (nums 0) 30)) u3.heap.size 30 (nums 0) := (Has.new _ _ _).alloc _
  have hs2 : Has (((u3.alloc (.cells (nums 0) 30)).alloc (.cells (nums 0) 30)).setRow u3.heap.size (nums r)) (u3.heap.size + 1) 30 (nums 0) := (Has.new' (by simp)).farRow (by omega) _
  replace hQ := (hQ.after hx).after hz
  replace hI := (hI.after hx).after hz
  replace hb0 := below_trans (below_trans hb0 hx) hz
  clear hx hz kP
  go_wp2_with (first | refine wpList_store_row rfl 30 _ _ rfl (u3.heap.size) _ rfl rfl 30 _ hs1 (infoNum _) (by simp only [nums_size]) (tab_oneCell _ _ fun _ => rfl) ?_ | (refine wpList_store_row rfl 30 _ _ rfl (u3.heap.size + 1) _ rfl rfl 30 _ hs2 (infoNum _) (by simp only [nums_size]) (tab_oneCell _ _ fun _ => rfl) ?_; generalize hWW : World.setRow _ (u3.heap.size + 1) _ = U3 at *; clear hWW))
  clear hs1 hs2
  refine region_quiet_tail (Below U3.heap.size U3) 21 (by kernel_rfl) (by kernel_rfl) (below_drewN (Below.refl _ _) 1) ?_
  simp only [List.take_succ_cons, List.take_zero, List.drop_succ_cons, List.drop_zero]
  refine WQ.out ?_
  refine WQ.lift (wpQ_move _ rfl rfl (.int .i64 0) rfl) ?_
  simp only [Act.put, List.setIfInBounds_toArray, List.set_cons_zero, List.set_cons_succ]
  refine WQ.lift (wpQ_bin _ _ _ _ _ rfl rfl (.int .i64 0) (.int .i64 0) rfl rfl (.bool false) (fun w' _ => neqE _ _ 0 w')) ?_
  simp only [Act.put, List.setIfInBounds_toArray, List.set_cons_zero, List.set_cons_succ]
  refine WQ.lift (wpQ_move _ rfl rfl (.bool false) rfl) ?_
  simp only [Act.put, List.setIfInBounds_toArray, List.set_cons_zero, List.set_cons_succ]
  refine WQ.lift (wpQ_has 30 _ rfl _ rfl rfl 30 _ (fun w' hC => hA.after hC) _ Tryd.underlying30 rfl (infoNum _)) ?_
  simp only [Act.put, List.setIfInBounds_toArray, List.set_cons_zero, List.set_cons_succ]
  refine WQ.lift (wpQ_fn 16 _ _ rfl rfl #[.agg (nums r)] rfl (fun _ => by go_simp) (.bool false) (fun w' hC => (kR w' (below_trans hb0 hC)).mono fun e w'' ⟨he, hb⟩ => ⟨he, below_class hC hb⟩)) ?_
  simp only [Act.put, List.setIfInBounds_toArray, List.set_cons_zero, List.set_cons_succ]
  refine WQ.lift (wpQ_un _ _ _ rfl rfl (.bool false) rfl (.bool true) (fun w' _ => notB false w')) ?_
  simp only [Act.put, List.setIfInBounds_toArray, List.set_cons_zero, List.set_cons_succ]
  refine WQ.lift (wpQ_pick _ _ _ rfl rfl false rfl (.bool true) rfl) ?_
  simp only [Act.put, List.setIfInBounds_toArray, List.set_cons_zero, List.set_cons_succ]
  refine WQ.lift (wpQ_move _ rfl rfl (.bool true) rfl) ?_
  simp only [Act.put, List.setIfInBounds_toArray, List.set_cons_zero, List.set_cons_succ]
  refine WQ.skip rfl ?_
  simp only [Act.put, List.setIfInBounds_toArray, List.set_cons_zero, List.set_cons_succ]
  refine WQ.skip rfl ?_
  simp only [Act.put, List.setIfInBounds_toArray, List.set_cons_zero, List.set_cons_succ]
  refine WQ.skip rfl ?_
  simp only [Act.put, List.setIfInBounds_toArray, List.set_cons_zero, List.set_cons_succ]
  refine WQ.lift (wpQ_pick _ _ _ rfl rfl true rfl (.bool true) rfl) ?_
  simp only [Act.put, List.setIfInBounds_toArray, List.set_cons_zero, List.set_cons_succ]
  refine WQ.lift (wpQ_move _ rfl rfl (.bool true) rfl) ?_
  simp only [Act.put, List.setIfInBounds_toArray, List.set_cons_zero, List.set_cons_succ]
  refine WQ.skip rfl ?_
  simp only [Act.put, List.setIfInBounds_toArray, List.set_cons_zero, List.set_cons_succ]
  refine WQ.skip rfl ?_
  simp only [Act.put, List.setIfInBounds_toArray, List.set_cons_zero, List.set_cons_succ]
  refine WQ.skip rfl ?_
  simp only [Act.put, List.setIfInBounds_toArray, List.set_cons_zero, List.set_cons_succ]
  refine WQ.skip rfl ?_
  simp only [Act.put, List.setIfInBounds_toArray, List.set_cons_zero, List.set_cons_succ]
  refine WQ.skip rfl ?_
  simp only [Act.put, List.setIfInBounds_toArray, List.set_cons_zero, List.set_cons_succ]
  refine WQ.skip rfl ?_
  simp only [Act.put, List.setIfInBounds_toArray, List.set_cons_zero, List.set_cons_succ]
  refine WQ.skip rfl ?_
  simp only [Act.put, List.setIfInBounds_toArray, List.set_cons_zero, List.set_cons_succ]
  refine WQ.skip rfl ?_
  simp only [Act.put, List.setIfInBounds_toArray, List.set_cons_zero, List.set_cons_succ]
  refine WQ.mk (wpQuiet_nil ?_)
  intro u4 hC
  replace hb0 := below_trans hb0 hC
  clear hC
  go_wp2_with fail
  go_ret
  exact ⟨rfl, hb0⟩
set_option maxRecDepth 100000 in
set_option maxHeartbeats 2000000 in
theorem sver_s (Ak Am As : Option Addr) (nk ck nm cm ns cs X Y : Nat) (b : Bool) (r s : Nat) (w : World)
    (kN : ∀ W, Below w.heap.size w W → Calls Tryd.prog 13 #[] W fun e w' => (∃ g, e = .returned (.pointer (some ⟨g, 0, none⟩)) ∧ IsCurve w' g) ∧ Below W.heap.size W w')
    (kK : ∀ g W, IsCurve W g → Below w.heap.size w W → Calls Tryd.prog 14 #[.pointer (some ⟨g, 0, none⟩), .slice Ak nk ck] W fun e w' => e = .returned (.tuple #[.agg (cpC X Y b), .int .i64 0]) ∧ Below W.heap.size W w')
    (kP : ∀ W, Below w.heap.size w W → Calls Tryd.prog 15 #[.slice As ns cs] W fun e w' => e = .returned (.tuple #[.agg (nums r), .agg (nums s), .int .i64 0]) ∧ Below W.heap.size W w')
    (kR : ∀ W, Below w.heap.size w W → Calls Tryd.prog 16 #[.agg (nums r)] W fun e w' => e = .returned (.bool true) ∧ Below W.heap.size W w')
    (kS : ∀ W, Below w.heap.size w W → Calls Tryd.prog 16 #[.agg (nums s)] W fun e w' => e = .returned (.bool false) ∧ Below W.heap.size W w') :
    Calls Tryd.prog 6 #[.slice Ak nk ck, .slice Am nm cm, .slice As ns cs] w fun e w' => e = .returned (.int .i64 4) ∧ Below w.heap.size w w' := by
  have hb0 := Below.refl w.heap.size w
  have n0 := nums_ne 0
  have c0 := cpC_ne 0 0 false
  go_enter Tryd.func6, Tryd.ntmps6
  go_wp2_with fail
  refine (kN _ hb0).mono ?_
  rintro e u1 ⟨⟨g, rfl, hI⟩, hx⟩
  replace hb0 := below_trans hb0 hx
  clear hx kN
  go_wp2_with fail
  refine (kK _ _ hI hb0).mono ?_
  rintro e u2 ⟨rfl, hx⟩
  have hz := put_new u2 32 (cpC 0 0 false) (cpC X Y b)
  replace hb0 := below_trans (below_trans hb0 hx) hz.2
  replace hI := (hI.after hx).after hz.2
  have hQ := hz.1
  clear hx hz kK
  go_wp2_with (first | (refine wpList_store_row rfl 32 _ _ rfl u2.heap.size _ rfl rfl 32 (cpC 0 0 false) (Has.new' rfl) (infoCp _ _ _) (by simp only [cpC_size]) (cpC_one _ _ _) ?_; generalize hWW : World.setRow _ u2.heap.size _ = U2 at *; clear hWW))
  refine (kP _ hb0).mono ?_
  rintro e u3 ⟨rfl, hx⟩
  obtain ⟨hA, hB, hz⟩ := put_two u3 30 (nums 0) (nums r) (nums s)
  have hs1 : Has ((u3.alloc (.cells (nums 0) 30)).alloc (.cells (nums 0) 30)) u3.heap.size 30 (nums 0) := (Has.new _ _ _).alloc _
  have hs2 : Has (((u3.alloc (.cells (nums 0) 30)).alloc (.cells (nums 0) 30)).setRow u3.heap.size (nums r)) (u3.heap.size + 1) 30 (nums 0) := (Has.new' (by simp)).farRow (by omega) _
  replace hQ := (hQ.after hx).after hz
  replace hI := (hI.after hx).after hz
  replace hb0 := below_trans (below_trans hb0 hx) hz
  clear hx hz kP
  go_wp2_with (first | refine wpList_store_row rfl 30 _ _ rfl (u3.heap.size) _ rfl rfl 30 _ hs1 (infoNum _) (by simp only [nums_size]) (tab_oneCell _ _ fun _ => rfl) ?_ | (refine wpList_store_row rfl 30 _ _ rfl (u3.heap.size + 1) _ rfl rfl 30 _ hs2 (infoNum _) (by simp only [nums_size]) (tab_oneCell _ _ fun _ => rfl) ?_; generalize hWW : World.setRow _ (u3.heap.size + 1) _ = U3 at *; clear hWW))
  clear hs1 hs2
  refine region_quiet_tail (Below U3.heap.size U3) 21 (by kernel_rfl) (by kernel_rfl) (below_drewN (Below.refl _ _) 1) ?_
  simp only [List.take_succ_cons, List.take_zero, List.drop_succ_cons, List.drop_zero]
  refine WQ.out ?_
  refine WQ.lift (wpQ_move _ rfl rfl (.int .i64 0) rfl) ?_
  simp only [Act.put, List.setIfInBounds_toArray, List.set_cons_zero, List.set_cons_succ]
  refine WQ.lift (wpQ_bin _ _ _ _ _ rfl rfl (.int .i64 0) (.int .i64 0) rfl rfl (.bool false) (fun w' _ => neqE _ _ 0 w')) ?_
  simp only [Act.put, List.setIfInBounds_toArray, List.set_cons_zero, List.set_cons_succ]
  refine WQ.lift (wpQ_move _ rfl rfl (.bool false) rfl) ?_
  simp only [Act.put, List.setIfInBounds_toArray, List.set_cons_zero, List.set_cons_succ]
  refine WQ.lift (wpQ_has 30 _ rfl _ rfl rfl 30 _ (fun w' hC => hA.after hC) _ Tryd.underlying30 rfl (infoNum _)) ?_
  simp only [Act.put, List.setIfInBounds_toArray, List.set_cons_zero, List.set_cons_succ]
  refine WQ.lift (wpQ_fn 16 _ _ rfl rfl #[.agg (nums r)] rfl (fun _ => by go_simp) (.bool true) (fun w' hC => (kR w' (below_trans hb0 hC)).mono fun e w'' ⟨he, hb⟩ => ⟨he, below_class hC hb⟩)) ?_
  simp only [Act.put, List.setIfInBounds_toArray, List.set_cons_zero, List.set_cons_succ]
  refine WQ.lift (wpQ_un _ _ _ rfl rfl (.bool true) rfl (.bool false) (fun w' _ => notB true w')) ?_
  simp only [Act.put, List.setIfInBounds_toArray, List.set_cons_zero, List.set_cons_succ]
  refine WQ.lift (wpQ_pick _ _ _ rfl rfl false rfl (.bool false) rfl) ?_
  simp only [Act.put, List.setIfInBounds_toArray, List.set_cons_zero, List.set_cons_succ]
  refine WQ.lift (wpQ_move _ rfl rfl (.bool false) rfl) ?_
  simp only [Act.put, List.setIfInBounds_toArray, List.set_cons_zero, List.set_cons_succ]
  refine WQ.lift (wpQ_has 30 _ rfl _ rfl rfl 30 _ (fun w' hC => hB.after hC) _ Tryd.underlying30 rfl (infoNum _)) ?_
  simp only [Act.put, List.setIfInBounds_toArray, List.set_cons_zero, List.set_cons_succ]
  refine WQ.lift (wpQ_fn 16 _ _ rfl rfl #[.agg (nums s)] rfl (fun _ => by go_simp) (.bool false) (fun w' hC => (kS w' (below_trans hb0 hC)).mono fun e w'' ⟨he, hb⟩ => ⟨he, below_class hC hb⟩)) ?_
  simp only [Act.put, List.setIfInBounds_toArray, List.set_cons_zero, List.set_cons_succ]
  refine WQ.lift (wpQ_un _ _ _ rfl rfl (.bool false) rfl (.bool true) (fun w' _ => notB false w')) ?_
  simp only [Act.put, List.setIfInBounds_toArray, List.set_cons_zero, List.set_cons_succ]
  refine WQ.lift (wpQ_pick _ _ _ rfl rfl false rfl (.bool true) rfl) ?_
  simp only [Act.put, List.setIfInBounds_toArray, List.set_cons_zero, List.set_cons_succ]
  refine WQ.lift (wpQ_move _ rfl rfl (.bool true) rfl) ?_
  simp only [Act.put, List.setIfInBounds_toArray, List.set_cons_zero, List.set_cons_succ]
  refine WQ.skip rfl ?_
  simp only [Act.put, List.setIfInBounds_toArray, List.set_cons_zero, List.set_cons_succ]
  refine WQ.skip rfl ?_
  simp only [Act.put, List.setIfInBounds_toArray, List.set_cons_zero, List.set_cons_succ]
  refine WQ.skip rfl ?_
  simp only [Act.put, List.setIfInBounds_toArray, List.set_cons_zero, List.set_cons_succ]
  refine WQ.skip rfl ?_
  simp only [Act.put, List.setIfInBounds_toArray, List.set_cons_zero, List.set_cons_succ]
  refine WQ.skip rfl ?_
  simp only [Act.put, List.setIfInBounds_toArray, List.set_cons_zero, List.set_cons_succ]
  refine WQ.skip rfl ?_
  simp only [Act.put, List.setIfInBounds_toArray, List.set_cons_zero, List.set_cons_succ]
  refine WQ.skip rfl ?_
  simp only [Act.put, List.setIfInBounds_toArray, List.set_cons_zero, List.set_cons_succ]
  refine WQ.skip rfl ?_
  simp only [Act.put, List.setIfInBounds_toArray, List.set_cons_zero, List.set_cons_succ]
  refine WQ.mk (wpQuiet_nil ?_)
  intro u4 hC
  replace hb0 := below_trans hb0 hC
  clear hC
  go_wp2_with fail
  go_ret
  exact ⟨rfl, hb0⟩
set_option maxRecDepth 100000 in
set_option maxHeartbeats 2000000 in
theorem sver_ok (Ak Am As : Option Addr) (nk ck nm cm ns cs X Y : Nat) (b : Bool) (r s ev : Nat) (hh : Bool) (w : World)
    (kN : ∀ W, Below w.heap.size w W → Calls Tryd.prog 13 #[] W fun e w' => (∃ g, e = .returned (.pointer (some ⟨g, 0, none⟩)) ∧ IsCurve w' g) ∧ Below W.heap.size W w')
    (kK : ∀ g W, IsCurve W g → Below w.heap.size w W → Calls Tryd.prog 14 #[.pointer (some ⟨g, 0, none⟩), .slice Ak nk ck] W fun e w' => e = .returned (.tuple #[.agg (cpC X Y b), .int .i64 0]) ∧ Below W.heap.size W w')
    (kP : ∀ W, Below w.heap.size w W → Calls Tryd.prog 15 #[.slice As ns cs] W fun e w' => e = .returned (.tuple #[.agg (nums r), .agg (nums s), .int .i64 0]) ∧ Below W.heap.size W w')
    (kR : ∀ W, Below w.heap.size w W → Calls Tryd.prog 16 #[.agg (nums r)] W fun e w' => e = .returned (.bool true) ∧ Below W.heap.size W w')
    (kS : ∀ W, Below w.heap.size w W → Calls Tryd.prog 16 #[.agg (nums s)] W fun e w' => e = .returned (.bool true) ∧ Below W.heap.size W w')
    (kD : ∀ W, Below w.heap.size w W → Calls Tryd.prog 18 #[.slice Am nm cm] W fun e w' => e = .returned (.agg (nums ev)) ∧ Below W.heap.size W w')
    (kH : ∀ g W, IsCurve W g → Below w.heap.size w W → Calls Tryd.prog 17 #[.pointer (some ⟨g, 0, none⟩), .agg (cpC X Y b), .agg (nums ev), .agg (nums r), .agg (nums s)] W fun e w' => e = .returned (.bool hh) ∧ Below W.heap.size W w') :
    Calls Tryd.prog 6 #[.slice Ak nk ck, .slice Am nm cm, .slice As ns cs] w fun e w' => e = .returned (.int .i64 (if hh then 0 else 4)) ∧ Below w.heap.size w w' := by
  have hb0 := Below.refl w.heap.size w
  have n0 := nums_ne 0
  have c0 := cpC_ne 0 0 false
  go_enter Tryd.func6, Tryd.ntmps6
  go_wp2_with fail
  refine (kN _ hb0).mono ?_
  rintro e u1 ⟨⟨g, rfl, hI⟩, hx⟩
  replace hb0 := below_trans hb0 hx
  clear hx kN
  go_wp2_with fail
  refine (kK _ _ hI hb0).mono ?_
  rintro e u2 ⟨rfl, hx⟩
  have hz := put_new u2 32 (cpC 0 0 false) (cpC X Y b)
  replace hb0 := below_trans (below_trans hb0 hx) hz.2
  replace hI := (hI.after hx).after hz.2
  have hQ := hz.1
  clear hx hz kK
  go_wp2_with (first | (refine wpList_store_row rfl 32 _ _ rfl u2.heap.size _ rfl rfl 32 (cpC 0 0 false) (Has.new' rfl) (infoCp _ _ _) (by simp only [cpC_size]) (cpC_one _ _ _) ?_; generalize hWW : World.setRow _ u2.heap.size _ = U2 at *; clear hWW))
  refine (kP _ hb0).mono ?_
  rintro e u3 ⟨rfl, hx⟩
  obtain ⟨hA, hB, hz⟩ := put_two u3 30 (nums 0) (nums r) (nums s)
  have hs1 : Has ((u3.alloc (.cells (nums 0) 30)).alloc (.cells (nums 0) 30)) u3.heap.size 30 (nums 0) := (Has.new _ _ _).alloc _
  have hs2 : Has (((u3.alloc (.cells (nums 0) 30)).alloc (.cells (nums 0) 30)).setRow u3.heap.size (nums r)) (u3.heap.size + 1) 30 (nums 0) := (Has.new' (by simp)).farRow (by omega) _
  replace hQ := (hQ.after hx).after hz
  replace hI := (hI.after hx).after hz
  replace hb0 := below_trans (below_trans hb0 hx) hz
  clear hx hz kP
  go_wp2_with (first | refine wpList_store_row rfl 30 _ _ rfl (u3.heap.size) _ rfl rfl 30 _ hs1 (infoNum _) (by simp only [nums_size]) (tab_oneCell _ _ fun _ => rfl) ?_ | (refine wpList_store_row rfl 30 _ _ rfl (u3.heap.size + 1) _ rfl rfl 30 _ hs2 (infoNum _) (by simp only [nums_size]) (tab_oneCell _ _ fun _ => rfl) ?_; generalize hWW : World.setRow _ (u3.heap.size + 1) _ = U3 at *; clear hWW))
  clear hs1 hs2
  refine region_quiet_tail (Below U3.heap.size U3) 21 (by kernel_rfl) (by kernel_rfl) (below_drewN (Below.refl _ _) 1) ?_
  simp only [List.take_succ_cons, List.take_zero, List.drop_succ_cons, List.drop_zero]
  refine WQ.out ?_
  refine WQ.lift (wpQ_move _ rfl rfl (.int .i64 0) rfl) ?_
  simp only [Act.put, List.setIfInBounds_toArray, List.set_cons_zero, List.set_cons_succ]
  refine WQ.lift (wpQ_bin _ _ _ _ _ rfl rfl (.int .i64 0) (.int .i64 0) rfl rfl (.bool false) (fun w' _ => neqE _ _ 0 w')) ?_
  simp only [Act.put, List.setIfInBounds_toArray, List.set_cons_zero, List.set_cons_succ]
  refine WQ.lift (wpQ_move _ rfl rfl (.bool false) rfl) ?_
  simp only [Act.put, List.setIfInBounds_toArray, List.set_cons_zero, List.set_cons_succ]
  refine WQ.lift (wpQ_has 30 _ rfl _ rfl rfl 30 _ (fun w' hC => hA.after hC) _ Tryd.underlying30 rfl (infoNum _)) ?_
  simp only [Act.put, List.setIfInBounds_toArray, List.set_cons_zero, List.set_cons_succ]
  refine WQ.lift (wpQ_fn 16 _ _ rfl rfl #[.agg (nums r)] rfl (fun _ => by go_simp) (.bool true) (fun w' hC => (kR w' (below_trans hb0 hC)).mono fun e w'' ⟨he, hb⟩ => ⟨he, below_class hC hb⟩)) ?_
  simp only [Act.put, List.setIfInBounds_toArray, List.set_cons_zero, List.set_cons_succ]
  refine WQ.lift (wpQ_un _ _ _ rfl rfl (.bool true) rfl (.bool false) (fun w' _ => notB true w')) ?_
  simp only [Act.put, List.setIfInBounds_toArray, List.set_cons_zero, List.set_cons_succ]
  refine WQ.lift (wpQ_pick _ _ _ rfl rfl false rfl (.bool false) rfl) ?_
  simp only [Act.put, List.setIfInBounds_toArray, List.set_cons_zero, List.set_cons_succ]
  refine WQ.lift (wpQ_move _ rfl rfl (.bool false) rfl) ?_
  simp only [Act.put, List.setIfInBounds_toArray, List.set_cons_zero, List.set_cons_succ]
  refine WQ.lift (wpQ_has 30 _ rfl _ rfl rfl 30 _ (fun w' hC => hB.after hC) _ Tryd.underlying30 rfl (infoNum _)) ?_
  simp only [Act.put, List.setIfInBounds_toArray, List.set_cons_zero, List.set_cons_succ]
  refine WQ.lift (wpQ_fn 16 _ _ rfl rfl #[.agg (nums s)] rfl (fun _ => by go_simp) (.bool true) (fun w' hC => (kS w' (below_trans hb0 hC)).mono fun e w'' ⟨he, hb⟩ => ⟨he, below_class hC hb⟩)) ?_
  simp only [Act.put, List.setIfInBounds_toArray, List.set_cons_zero, List.set_cons_succ]
  refine WQ.lift (wpQ_un _ _ _ rfl rfl (.bool true) rfl (.bool false) (fun w' _ => notB true w')) ?_
  simp only [Act.put, List.setIfInBounds_toArray, List.set_cons_zero, List.set_cons_succ]
  refine WQ.lift (wpQ_pick _ _ _ rfl rfl false rfl (.bool false) rfl) ?_
  simp only [Act.put, List.setIfInBounds_toArray, List.set_cons_zero, List.set_cons_succ]
  refine WQ.lift (wpQ_move _ rfl rfl (.bool false) rfl) ?_
  simp only [Act.put, List.setIfInBounds_toArray, List.set_cons_zero, List.set_cons_succ]
  refine WQ.lift (wpQ_move _ rfl rfl (.pointer (some ⟨g, 0, none⟩)) rfl) ?_
  simp only [Act.put, List.setIfInBounds_toArray, List.set_cons_zero, List.set_cons_succ]
  refine WQ.lift (wpQ_has 32 _ rfl _ rfl rfl 32 _ (fun w' hC => hQ.after hC) _ Tryd.underlying32 rfl (infoCp _ _ _)) ?_
  simp only [Act.put, List.setIfInBounds_toArray, List.set_cons_zero, List.set_cons_succ]
  refine WQ.lift (wpQ_move _ rfl rfl (.slice Am nm cm) rfl) ?_
  simp only [Act.put, List.setIfInBounds_toArray, List.set_cons_zero, List.set_cons_succ]
  refine WQ.lift (wpQ_fn 18 _ _ rfl rfl #[.slice Am nm cm] rfl (fun _ => by go_simp) (.agg (nums ev)) (fun w' hC => (kD w' (below_trans hb0 hC)).mono fun e w'' ⟨he, hb⟩ => ⟨he, below_class hC hb⟩)) ?_
  simp only [Act.put, List.setIfInBounds_toArray, List.set_cons_zero, List.set_cons_succ]
  refine WQ.lift (wpQ_has 30 _ rfl _ rfl rfl 30 _ (fun w' hC => hA.after hC) _ Tryd.underlying30 rfl (infoNum _)) ?_
  simp only [Act.put, List.setIfInBounds_toArray, List.set_cons_zero, List.set_cons_succ]
  refine WQ.lift (wpQ_has 30 _ rfl _ rfl rfl 30 _ (fun w' hC => hB.after hC) _ Tryd.underlying30 rfl (infoNum _)) ?_
  simp only [Act.put, List.setIfInBounds_toArray, List.set_cons_zero, List.set_cons_succ]
  refine WQ.lift (wpQ_fn 17 _ _ rfl rfl #[.pointer (some ⟨g, 0, none⟩), .agg (cpC X Y b), .agg (nums ev), .agg (nums r), .agg (nums s)] rfl (fun _ => by go_simp) (.bool hh) (fun w' hC => (kH _ w' (hI.after hC) (below_trans hb0 hC)).mono fun e w'' ⟨he, hb⟩ => ⟨he, below_class hC hb⟩)) ?_
  simp only [Act.put, List.setIfInBounds_toArray, List.set_cons_zero, List.set_cons_succ]
  refine WQ.lift (wpQ_un _ _ _ rfl rfl (.bool hh) rfl (.bool (!hh)) (fun w' _ => notB hh w')) ?_
  simp only [Act.put, List.setIfInBounds_toArray, List.set_cons_zero, List.set_cons_succ]
  refine WQ.mk (wpQuiet_nil ?_)
  intro u4 hC
  replace hb0 := below_trans hb0 hC
  clear hC
  cases hh
  · go_wp2_with fail
    go_ret
    exact ⟨rfl, hb0⟩
  · go_wp2_with fail
    go_ret
    exact ⟨rfl, hb0⟩
end Go.Proofs.YtflkhlhpifmocaaDoor
namespace Go.Proofs.YtflkhlhpifmocaaDoor
open Go.RowKit

theorem ordN_odd : Ec.ordN % 2 = 1 := by decide +kernel
theorem ordN_big : Ec.ordN < big := by decide +kernel
theorem snew_is (w : World) (hL : Laid w) : Calls Tryd.prog 13 #[] w fun e w' => (∃ g, e = .returned (.pointer (some ⟨g, 0, none⟩)) ∧ IsCurve w' g) ∧ Below w.heap.size w w' :=
  cnew_any Ec.pp bN w pp_odd.1 pp_odd.2.1 pp_lt (by decide +kernel) hL (fun W k => (hL.after k).p) (fun W k => (hL.after k).b)
theorem pair_of (sb : List UInt8) (A : Option Addr) (c : Nat) (w : World) (h : SlA w A 64 c sb) : Calls Tryd.prog 15 #[.slice A 64 c] w fun e w' => e = .returned (.tuple #[.agg (nums (numAt sb 0)), .agg (nums (numAt sb 32)), .int .i64 0]) ∧ Below w.heap.size w w' := by
  obtain ⟨hl, hc, h1⟩ := h
  obtain ⟨b, o, rfl, hlt, hcell⟩ := h1 (by omega)
  refine pair_any (numAt sb 0) (numAt sb 32) b o c w (numAt_lt _ _) (numAt_lt _ _) hlt hc (fun j hj => ?_) (fun j hj => ?_)
  · rw [hcell j (by omega), numAt_byte _ _ _ hj, Nat.zero_add]
    rfl
  · rw [Nat.add_assoc, hcell (32 + j) (by omega), numAt_byte _ _ _ hj]
    rfl
theorem rk_good (kb : List UInt8) (A : Option Addr) (n c g : Nat) (w : World) (h : SlA w A n c kb) (hk : KeyB kb) (hI : IsCurve w g) : Calls Tryd.prog 14 #[.pointer (some ⟨g, 0, none⟩), .slice A n c] w fun e w' => e = .returned (.tuple #[.agg (cpC (numAt kb 0) (numAt kb 32) false), .int .i64 0]) ∧ Below w.heap.size w w' := by
  obtain rfl : n = 64 := by rw [← h.1]; exact hk.1
  refine rk_yes A 64 c g _ _ w (fun W hb => pair_of kb A c W (h.below hb)) (fun W hb => ?_)
  obtain ⟨r, h1, h2⟩ := on_all (numAt kb 0) (numAt kb 32) false (numAt_lt _ _) (numAt_lt _ _)
  have hr : r = true := h1.2 ⟨rfl, hk.2.1, hk.2.2.1, hk.2.2.2⟩
  rw [hr] at h2
  exact h2 W g (hI.after hb)
theorem rk_form (kb : List UInt8) (A : Option Addr) (n c g : Nat) (w : World) (h : SlA w A n c kb) (hn : n = 64) (hk : ¬ KeyB kb) (hI : IsCurve w g) : Calls Tryd.prog 14 #[.pointer (some ⟨g, 0, none⟩), .slice A n c] w fun e w' => e = .returned (.tuple #[.agg (cpC 0 0 false), .int .i64 3]) ∧ Below w.heap.size w w' := by
  have hl := h.1
  subst hn
  refine rk_no A 64 c g _ _ w (fun W hb => pair_of kb A c W (h.below hb)) (fun W hb => ?_)
  obtain ⟨r, h1, h2⟩ := on_all (numAt kb 0) (numAt kb 32) false (numAt_lt _ _) (numAt_lt _ _)
  have hr : r = false := by
    cases r with
    | false => rfl
    | true =>
      have h3 := h1.1 rfl
      exact absurd ⟨hl, h3.2.1, h3.2.2.1, h3.2.2.2⟩ hk
  rw [hr] at h2
  exact h2 W g (hI.after hb)
theorem rk_short (A : Option Addr) (n c g : Nat) (w : World) (hn : n ≠ 64) : Calls Tryd.prog 14 #[.pointer (some ⟨g, 0, none⟩), .slice A n c] w fun e w' => e = .returned (.tuple #[.agg (cpC 0 0 false), .int .i64 2]) ∧ Below w.heap.size w w' :=
  rk_len A n c g 0 0 w (fun W _ => pair_len A n c hn W)
theorem wN_out (s : Nat) : redc Ec.ordN (powN Ec.ordN (s * RR % Ec.ordN) (Ec.ordN - 2)) = wN s := by
  unfold wN
  exact pow_in _ _ _ ordN_odd
theorem wN_lt (s : Nat) : wN s < Ec.ordN := by
  unfold wN
  exact Nat.mod_lt _ (Nat.lt_trans Nat.zero_lt_one ordN_pos)
theorem key_v {kb : List UInt8} (hk : KeyB kb) : cpV (keyP kb) = .agg (cpC (numAt kb 0) (numAt kb 32) false) := by
  have e1 : cpX (keyP kb) = numAt kb 0 := Nat.mod_eq_of_lt hk.2.1
  have e2 : cpY (keyP kb) = numAt kb 32 := Nat.mod_eq_of_lt hk.2.2.1
  show Value.agg (cpC (cpX (keyP kb)) (cpY (keyP kb)) false) = _
  rw [e1, e2]
theorem cpX_lt (P : Ec.Pnt) : cpX P < big := by
  cases P with
  | none => exact big_pos
  | some p => exact Nat.lt_trans p.1.isLt pp_lt
theorem dec_sum (P : Ec.Pnt) (r : Nat) : decB P r = (!cpN P && sameN (cpX P % Ec.ordN) r) := by
  cases P with
  | none => rfl
  | some p => obtain ⟨x, y⟩ := p; exact (Bool.true_and _).symm
theorem holds_abs (X Y ev r s a1 a2 wv u1 u2 n : Nat) (S Q : Ec.Pnt) (g : Nat) (w : World) (hI : IsCurve w g) (hn : n = Ec.ordN) (hn1 : n % 2 = 1) (hn2 : 1 < n) (hn3 : n < big) (ea1 : s * RR % n = a1) (ea2 : powN n a1 (n - 2) = a2) (ewv : redc n a2 = wv)
    (eu1 : ev * wv % n = u1) (eu2 : r * wv % n = u2) (hS : Ec.plus (Ec.smul u1 Ec.baseP) (Ec.smul u2 Q) = S) (hQ : cpV Q = .agg (cpC X Y false)) (hQo : Ec.OnP Q) (hev : ev < big) (hr : r < big) (hs : s < big) :
    Calls Tryd.prog 17 #[.pointer (some ⟨g, 0, none⟩), .agg (cpC X Y false), .agg (nums ev), .agg (nums r), .agg (nums s)] w fun e w' => e = .returned (.bool (decB S r)) ∧ Below w.heap.size w w' := by
  have h0 : 0 < n := by omega
  have kI := fun f W (h : IsMod W f n) => min_any s n f W h hs
  rw [ea1] at kI
  have la1 : a1 < n := by rw [← ea1]; exact Nat.mod_lt _ h0
  have kV := fun f W (h : IsMod W f n) => minv_any a1 n f W h la1
  rw [ea2] at kV
  have la2 : a2 < n := by rw [← ea2]; exact powN_lt _ _ _ h0
  have kU := fun f W (h : IsMod W f n) => mout_any a2 n f W h la2
  rw [ewv] at kU
  have lw : wv < big := by rw [← ewv]; exact Nat.lt_trans (redc_lt _ _ h0) hn3
  have kM1 := fun f W (h : IsMod W f n) => mmul_any ev wv n f W h hev lw
  rw [eu1] at kM1
  have kM2 := fun f W (h : IsMod W f n) => mmul_any r wv n f W h hr lw
  rw [eu2] at kM2
  have l1 : u1 < big := by rw [← eu1]; exact Nat.lt_trans (Nat.mod_lt _ h0) hn3
  have l2 : u2 < big := by rw [← eu2]; exact Nat.lt_trans (Nat.mod_lt _ h0) hn3
  clear ea1 ea2 ewv eu1 eu2 la1 la2
  have kT := fun W (hb : Below w.heap.size w W) => ctwo_any u1 u2 Ec.pp bM g Ec.baseP Q W (hI.after hb) rfl bM_lt bM_mo l1 l2 Ec.base_on hQo
  rw [base_v, hQ, hS] at kT
  have hD := dec_sum S r
  rw [← hn] at hD
  have hXb := cpX_lt S
  have hSv : cpV S = .agg (cpC (cpX S) (cpY S) (cpN S)) := rfl
  rw [hSv] at kT
  have kO := fun W (hb : Below w.heap.size w W) => order_any n W fun W' k => by rw [hn]; exact ((hI.laid.after hb).after k).o
  have kN := fun W => new_any n W hn1 hn2 hn3
  have kBa := fun W (hb : Below w.heap.size w W) => base_any Ec.gX Ec.gY W (fun W' k => ((hI.laid.after hb).after k).x) (fun W' k => ((hI.laid.after hb).after k).y)
  have kR := fun f W (h : IsMod W f n) => mreduce_any (cpX S) n f W h hXb
  have hxr : cpX S % n < big := Nat.lt_trans (Nat.mod_lt _ h0) hn3
  rw [hD]
  clear hD hS hQ hQo hn hn1 hn2 hn3 hSv
  generalize cpX S = Sx at *
  generalize cpY S = Sy at *
  generalize Sx % n = xr at *
  cases hN : cpN S with
  | true =>
    rw [hN] at kT
    exact holds_none X Y ev r s n a1 a2 wv u1 u2 Ec.gX Ec.gY Sx Sy xr true g w rfl kO kN kI kV kU kM1 kBa kM2 kT kR hxr hr
  | false =>
    rw [hN] at kT
    exact holds_some X Y ev r s n a1 a2 wv u1 u2 Ec.gX Ec.gY Sx Sy xr false g w rfl kO kN kI kV kU kM1 kBa kM2 kT kR hxr hr
theorem u1N_eq (e s : Nat) : e * wN s % Ec.ordN = u1N e s := by
  unfold u1N
  rw [Nat.mod_mul_mod]
theorem u2N_eq (r s : Nat) : r * wN s % Ec.ordN = u2N r s := by
  unfold u2N
  exact Eq.refl _
theorem decP_eq (kb mb sb : List UInt8) : Ec.plus (Ec.smul (u1N (dgst mb) (numAt sb 32)) Ec.baseP) (Ec.smul (u2N (numAt sb 0) (numAt sb 32)) (keyP kb)) = decP kb mb sb := by
  unfold decP
  exact Eq.refl _
theorem holds_is (kb mb sb : List UInt8) (g : Nat) (w : World) (hk : KeyB kb) (hI : IsCurve w g) : Calls Tryd.prog 17 #[.pointer (some ⟨g, 0, none⟩), .agg (cpC (numAt kb 0) (numAt kb 32) false), .agg (nums (dgst mb)), .agg (nums (numAt sb 0)), .agg (nums (numAt sb 32))] w fun e w' => e = .returned (.bool (decB (decP kb mb sb) (numAt sb 0))) ∧ Below w.heap.size w w' :=
  holds_abs (numAt kb 0) (numAt kb 32) (dgst mb) (numAt sb 0) (numAt sb 32) (numAt sb 32 * RR % Ec.ordN) (powN Ec.ordN (numAt sb 32 * RR % Ec.ordN) (Ec.ordN - 2)) (wN (numAt sb 32)) (u1N (dgst mb) (numAt sb 32)) (u2N (numAt sb 0) (numAt sb 32)) Ec.ordN (decP kb mb sb) (keyP kb) g w hI
    (Eq.refl _) ordN_odd ordN_pos ordN_big (Eq.refl _) (Eq.refl _) (wN_out _) (u1N_eq _ _) (u2N_eq _ _) (decP_eq kb mb sb) (key_v hk) hk.2.2.2 (dgst_lt _) (numAt_lt _ _) (numAt_lt _ _)
theorem fac_is (x : Nat) (w : World) (hx : x < big) (hL : Laid w) : Calls Tryd.prog 16 #[.agg (nums x)] w fun e w' => e = .returned (.bool (decide (x ≠ 0 ∧ x < Ec.ordN))) ∧ Below w.heap.size w w' := by
  have kO := fun W (hb : Below w.heap.size w W) => order_any Ec.ordN W fun W' k => ((hL.after hb).after k).o
  by_cases h0 : x = 0
  · rw [decide_eq_false fun h => h.1 h0]
    exact fac_zero x w hx h0 kO
  · rw [show decide (x ≠ 0 ∧ x < Ec.ordN) = decide (x < Ec.ordN) from decide_eq_decide.2 ⟨fun h => h.2, fun h => ⟨h0, h⟩⟩]
    exact fac_any x w hx h0 kO
theorem dig_is (mb : List UInt8) (A : Option Addr) (n c : Nat) (w : World) (h : SlA w A n c mb) (hT : Tabs w) (hl : mb.length ≤ 1000000) : Calls Tryd.prog 18 #[.slice A n c] w fun e w' => e = .returned (.agg (nums (dgst mb))) ∧ Below w.heap.size w w' := by
  refine dig_any (dgst mb) A n c w (dgst_lt _) fun W hb => ?_
  have k := of_any mb A n c W (hT.below hb) (h.below hb) hl
  rw [show (tab 32 fun j => by8 (shaOf mb j)) = (tab 32 fun j => .int .u8 ((byB (dgst mb) j : Nat) : Int)) from tab_ext _ _ _ fun j hj => by rw [dgst_byte mb j hj]; rfl] at k
  exact k
theorem skey_good (kb : List UInt8) (A : Option Addr) (n c : Nat) (w : World) (hL : Laid w) (h : SlA w A n c kb) (hk : KeyB kb) : Calls Tryd.prog 8 #[.slice A n c] w fun e w' => e = .returned (.tuple #[.agg (cpC (numAt kb 0) (numAt kb 32) false), .int .i64 0]) ∧ Below w.heap.size w w' :=
  skey_any A n c _ _ _ _ w (fun W hb => snew_is W (hL.after hb)) fun g W hI hb => rk_good kb A n c g W (h.below hb) hk hI
theorem skey_form (kb : List UInt8) (A : Option Addr) (n c : Nat) (w : World) (hL : Laid w) (h : SlA w A n c kb) (hn : n = 64) (hk : ¬ KeyB kb) : Calls Tryd.prog 8 #[.slice A n c] w fun e w' => e = .returned (.tuple #[.agg (cpC 0 0 false), .int .i64 3]) ∧ Below w.heap.size w w' :=
  skey_any A n c _ _ _ _ w (fun W hb => snew_is W (hL.after hb)) fun g W hI hb => rk_form kb A n c g W (h.below hb) hn hk hI
theorem skey_short (A : Option Addr) (n c : Nat) (w : World) (hL : Laid w) (hn : n ≠ 64) : Calls Tryd.prog 8 #[.slice A n c] w fun e w' => e = .returned (.tuple #[.agg (cpC 0 0 false), .int .i64 2]) ∧ Below w.heap.size w w' :=
  skey_any A n c _ _ _ _ w (fun W hb => snew_is W (hL.after hb)) fun g W _ _ => rk_short A n c g W hn
theorem sverify_is (kb mb sb : List UInt8) (Ak Am As : Option Addr) (nk ck nm cm ns cs : Nat) (w : World) (hL : Laid w) (hT : Tabs w) (hk : SlA w Ak nk ck kb) (hm : SlA w Am nm cm mb) (hs : SlA w As ns cs sb) (hl : mb.length ≤ 1000000) :
    Calls Tryd.prog 6 #[.slice Ak nk ck, .slice Am nm cm, .slice As ns cs] w fun e w' => e = .returned (.int .i64 ((verN kb mb sb : Nat) : Int)) ∧ Below w.heap.size w w' := by
  have kN := fun W (hb : Below w.heap.size w W) => snew_is W (hL.after hb)
  by_cases hK : KeyB kb
  · have kK := fun g W (hI : IsCurve W g) (hb : Below w.heap.size w W) => rk_good kb Ak nk ck g W (hk.below hb) hK hI
    by_cases hn : ns = 64
    · subst hn
      have hl64 := hs.1
      have kP := fun W (hb : Below w.heap.size w W) => pair_of sb As cs W (hs.below hb)
      have kR := fun W (hb : Below w.heap.size w W) => fac_is (numAt sb 0) W (numAt_lt _ _) (hL.after hb)
      have kS := fun W (hb : Below w.heap.size w W) => fac_is (numAt sb 32) W (numAt_lt _ _) (hL.after hb)
      by_cases hr : numAt sb 0 ≠ 0 ∧ numAt sb 0 < Ec.ordN
      · rw [decide_eq_true hr] at kR
        by_cases hr2 : numAt sb 32 ≠ 0 ∧ numAt sb 32 < Ec.ordN
        · rw [decide_eq_true hr2] at kS
          have hSig : SigB sb := ⟨hl64, hr.1, hr.2, hr2.1, hr2.2⟩
          rw [ver_dec mb hK hSig]
          have k := sver_ok Ak Am As nk ck nm cm 64 cs _ _ _ _ _ _ _ w kN kK kP kR kS (fun W hb => dig_is mb Am nm cm W (hm.below hb) (hT.below hb) hl) (fun g W hI hb => holds_is kb mb sb g W hK hI)
          generalize decB (decP kb mb sb) (numAt sb 0) = bb at *
          cases bb <;> exact k
        · rw [decide_eq_false hr2] at kS
          rw [ver_sig mb hK fun h => hr2 h.2.2.2]
          exact sver_s Ak Am As nk ck nm cm 64 cs _ _ _ _ _ w kN kK kP kR kS
      · rw [decide_eq_false hr] at kR
        rw [ver_sig mb hK fun h => hr ⟨h.2.1, h.2.2.1⟩]
        exact sver_r Ak Am As nk ck nm cm 64 cs _ _ _ _ _ w kN kK kP kR
    · rw [ver_sig mb hK fun h => hn (by rw [← hs.1]; exact h.1)]
      exact sver_len Ak Am As nk ck nm cm ns cs _ _ _ 0 0 w kN kK fun W _ => pair_len As ns cs hn W
  · rw [ver_key mb sb hK]
    by_cases hn : nk = 64
    · exact sver_key Ak Am As nk ck nm cm ns cs _ _ _ 3 (by decide) w kN fun g W hI hb => rk_form kb Ak nk ck g W (hk.below hb) hn hK hI
    · exact sver_key Ak Am As nk ck nm cm ns cs _ _ _ 2 (by decide) w kN fun g W _ _ => rk_short Ak nk ck g W hn
end Go.Proofs.YtflkhlhpifmocaaDoor
namespace Go.Proofs.YtflkhlhpifmocaaDoor
open Go.RowKit

theorem hexEq5 (o1 o2 : Operand) (x y : Nat) (hx : x < 65536 ^ 16) (hy : y < 65536 ^ 16) (w : World) : (do eqGuard .eql 37 o1 o2 (.agg (d16 x)) (.agg (d16 y)); binOp .eql 37 (.agg (d16 x)) (.agg (d16 y)) : Sem Value).run Tryd.prog w = .ok (.bool (decide (x = y))) w := by
  have es := fun W => hexEql x y hx hy W
  go_simp
theorem hexIn5 (x y : Nat) (hx : x < 65536 ^ 16) (hy : y < 65536 ^ 16) (w : World) : (Op.equalIn 10000 37 (.agg (d16 x)) (.agg (d16 y))).run Tryd.prog w = .ok (decide (x = y)) w := by
  obtain ⟨i, hi, _, hs, _⟩ := info_parts infoD
  have h := run_equalIn_tab (P := Tryd.prog) w 9999 37 35 16 .u64 .u64 i (fun j => ((dg 65536 x j : Nat) : Int)) (fun j => ((dg 65536 y j : Nat) : Int)) Tryd.underlying37 Tryd.underlying35 hi hs (fun a b W => run_equalIn_int (P := Tryd.prog) (w := W) 9998 35 .u64 .u64 a b Tryd.underlying35)
  have e : sameTo (fun j => ((dg 65536 x j : Nat) : Int)) (fun j => ((dg 65536 y j : Nat) : Int)) 16 = decide (x = y) := by
    by_cases h : x = y
    · subst h; simp [sameTo_refl]
    · rw [decide_eq_false h, ← Bool.not_eq_true, sameTo_iff]
      exact fun hc => h (digits_inj hx hy fun j hj => by have := hc j hj; omega)
  rw [e] at h
  exact h
theorem hexNe5 (o1 o2 : Operand) (x y : Nat) (hx : x < 65536 ^ 16) (hy : y < 65536 ^ 16) (w : World) : (do eqGuard .neq 37 o1 o2 (.agg (d16 x)) (.agg (d16 y)); binOp .neq 37 (.agg (d16 x)) (.agg (d16 y)) : Sem Value).run Tryd.prog w = .ok (.bool (!decide (x = y))) w := by
  have es := fun W => hexIn5 x y hx hy W
  go_simp
theorem buildZ (W : World) : (Instr.build 37 #[]).run Tryd.prog W = .ok (.agg (d16 0)) W := by kernel_rfl
attribute [local go_sem] zero16 zero48 one16
set_option maxRecDepth 100000 in
set_option maxHeartbeats 2000000 in
theorem ver5_key (Ak Am As : Option Addr) (nk ck nm cm ns cs X Y Z : Nat) (w : World) (kK : ∀ W, Below w.heap.size w W → Calls Tryd.prog 9 #[.slice Ak nk ck] W fun e w' => e = .returned (.tuple #[.agg (ptC X Y Z), .bool false]) ∧ Below W.heap.size W w') :
    Calls Tryd.prog 7 #[.slice Ak nk ck, .slice Am nm cm, .slice As ns cs] w fun e w' => e = .returned (.int .i64 5) ∧ Below w.heap.size w w' := by
  have hb0 := Below.refl w.heap.size w
  go_enter Tryd.func7, Tryd.ntmps7
  go_wp2_with fail
  refine (kK _ hb0).mono ?_
  rintro e u1 ⟨rfl, hx⟩
  have hz := put_new u1 39 (ptC 0 0 0) (ptC X Y Z)
  replace hb0 := below_trans (below_trans hb0 hx) hz.2
  have hQ := hz.1
  clear hx hz kK
  go_wp2_with (first | (refine wpList_store_row rfl 39 _ _ rfl u1.heap.size _ rfl rfl 39 (ptC 0 0 0) (Has.new' rfl) (infoPt _ _ _) (by simp only [ptC_size]) (tab_oneCell _ _ fun _ => rfl) ?_; generalize hWW : World.setRow _ u1.heap.size _ = U1 at *; clear hWW))
  go_ret
  exact ⟨rfl, hb0⟩
set_option maxRecDepth 100000 in
set_option maxHeartbeats 2000000 in
theorem ver5_len (Ak Am As : Option Addr) (nk ck nm cm ns cs X Y Z : Nat) (w : World) (hn : ns ≠ 64) (kK : ∀ W, Below w.heap.size w W → Calls Tryd.prog 9 #[.slice Ak nk ck] W fun e w' => e = .returned (.tuple #[.agg (ptC X Y Z), .bool true]) ∧ Below W.heap.size W w') :
    Calls Tryd.prog 7 #[.slice Ak nk ck, .slice Am nm cm, .slice As ns cs] w fun e w' => e = .returned (.int .i64 4) ∧ Below w.heap.size w w' := by
  have hd : ((ns : Int) == 64) = false := beq_eq_false_iff_ne.2 (by omega)
  have hb0 := Below.refl w.heap.size w
  go_enter Tryd.func7, Tryd.ntmps7
  go_wp2_with fail
  refine (kK _ hb0).mono ?_
  rintro e u1 ⟨rfl, hx⟩
  have hz := put_new u1 39 (ptC 0 0 0) (ptC X Y Z)
  replace hb0 := below_trans (below_trans hb0 hx) hz.2
  have hQ := hz.1
  clear hx hz kK
  go_wp2_with (first | (refine wpList_store_row rfl 39 _ _ rfl u1.heap.size _ rfl rfl 39 (ptC 0 0 0) (Has.new' rfl) (infoPt _ _ _) (by simp only [ptC_size]) (tab_oneCell _ _ fun _ => rfl) ?_; generalize hWW : World.setRow _ u1.heap.size _ = U1 at *; clear hWW))
  go_ret
  exact ⟨rfl, hb0⟩
set_option maxRecDepth 100000 in
set_option maxHeartbeats 2000000 in
theorem ver5_r0 (Ak Am : Option Addr) (nk ck nm cm X Y b o c r s m : Nat) (w : World) (hr : r < big) (hs : s < big) (hm0 : 0 < m) (hm : m < 65536 ^ 16) (hlb : b < w.heap.size) (hc : 64 ≤ c)
    (h1 : ∀ j, j < 32 → w.cell? ⟨b, o + j, none⟩ = some (.int .u8 ((byB r j : Nat) : Int))) (h2 : ∀ j, j < 32 → w.cell? ⟨b, o + 32 + j, none⟩ = some (.int .u8 ((byB s j : Nat) : Int)))
    (kK : ∀ W, Below w.heap.size w W → Calls Tryd.prog 9 #[.slice Ak nk ck] W fun e w' => e = .returned (.tuple #[.agg (ptC X Y 1), .bool true]) ∧ Below W.heap.size W w')
    (kPN : ∀ W, Calls Tryd.prog 21 #[] W fun e w' => e = .returned (.agg (d16 m)) ∧ Below W.heap.size W w') (hr0 : r = 0) :
    Calls Tryd.prog 7 #[.slice Ak nk ck, .slice Am nm cm, .slice (some ⟨b, o, none⟩) 64 c] w fun e w' => e = .returned (.int .i64 4) ∧ Below w.heap.size w w' := by
  have r16 : r < 65536 ^ 16 := by rw [← big_hex]; exact hr
  have s16 : s < 65536 ^ 16 := by rw [← big_hex]; exact hs
  have kN1 := fun W (h : Below w.heap.size w W) => num5_any r b o c W hr (Nat.lt_of_lt_of_le hlb h.size) (fun j hj => (h.cell (p := ⟨b, o + j, none⟩) hlb).trans (h1 j hj))
  have kN2 := fun W (h : Below w.heap.size w W) => num5_any s b (o + 32) (c - 32) W hs (Nat.lt_of_lt_of_le hlb h.size) (fun j hj => (h.cell (p := ⟨b, o + 32 + j, none⟩) hlb).trans (h2 j hj))
  have kR := fun W => below5_any r m W r16 hm
  have kSb := fun W => below5_any s m W s16 hm
  have eR := fun o1 o2 W => hexEq5 o1 o2 r 0 r16 (by decide) W
  have eS := fun o1 o2 W => hexEq5 o1 o2 s 0 s16 (by decide) W
  rw [decide_eq_true hr0] at eR
  clear eS
  clear kR
  clear kSb
  have HER := Lib.hid eR
  clear eR
  have kF := fun W => newField_any m W hm0 hm
  have hsA := sliceLo b o c hc
  have hsB := sliceHi b o c hc
  clear h1 h2 hr hs hm hm0 hc hlb r16 s16 hr0
  have n0 := d16_ne 0
  have hb0 := Below.refl w.heap.size w
  go_enter Tryd.func7, Tryd.ntmps7
  go_wp2_with fail
  refine (kK _ hb0).mono ?_
  rintro e u1 ⟨rfl, hx⟩
  have hz := put_new u1 39 (ptC 0 0 0) (ptC X Y 1)
  replace hb0 := below_trans (below_trans hb0 hx) hz.2
  have hQ := hz.1
  clear hx hz kK
  go_wp2_with (first | (refine wpList_store_row rfl 39 _ _ rfl u1.heap.size _ rfl rfl 39 (ptC 0 0 0) (Has.new' rfl) (infoPt _ _ _) (by simp only [ptC_size]) (tab_oneCell _ _ fun _ => rfl) ?_; generalize hWW : World.setRow _ u1.heap.size _ = U1 at *; clear hWW))
  refine region_facts 8 [] [.val (.slice (some ⟨b, o, none⟩) 64 c), .val (.slice (some ⟨b, o, none⟩) 32 c), .val (.agg (d16 r)), .val (.slice (some ⟨b, o, none⟩) 64 c), .val (.slice (some ⟨b, o + 32, none⟩) 32 (c - 32)), .val (.agg (d16 s)), .new 37 (d16 0), .new 37 (d16 0)]
    (by kernel_rfl) (by kernel_rfl) (fun _ _ _ _ _ h => h) ?_ ?_
  · simp only [List.take_succ_cons, List.take_zero, StepsOK]
    refine ⟨?_, ?_, ?_, ?_, ?_, ?_, ?_, ?_, trivial⟩
    · intro v w' hb hf K hKt
      simp only [putAll, Act.put, List.setIfInBounds_toArray, List.set_cons_zero, List.set_cons_succ, Nat.zero_add, Nat.reduceAdd] at hKt ⊢
      go_simp
      exact hKt _ (Below.refl _ _)
    · intro v w' hb hf K hKt
      have f0 : v 0 = _ := hf ⟨0, .data⟩ (by simp) rfl
      simp only [putAll, Act.put, List.setIfInBounds_toArray, List.set_cons_zero, List.set_cons_succ, Nat.zero_add, Nat.reduceAdd] at hKt ⊢
      rw [f0] at hKt ⊢
      go_simp
      exact hKt _ (Below.refl _ _)
    · intro v w' hb hf K hKt
      have f1 : v 1 = _ := hf ⟨1, .data⟩ (by simp) rfl
      simp only [putAll, Act.put, List.setIfInBounds_toArray, List.set_cons_zero, List.set_cons_succ, Nat.zero_add, Nat.reduceAdd] at hKt ⊢
      rw [f1] at hKt ⊢
      go_simp
      refine (kN1 w' (below_trans hb0 hb)).mono ?_
      rintro e w'' ⟨rfl, hb2⟩
      exact hKt _ hb2
    · intro v w' hb hf K hKt
      simp only [putAll, Act.put, List.setIfInBounds_toArray, List.set_cons_zero, List.set_cons_succ, Nat.zero_add, Nat.reduceAdd] at hKt ⊢
      go_simp
      exact hKt _ (Below.refl _ _)
    · intro v w' hb hf K hKt
      have f3 : v 3 = _ := hf ⟨3, .data⟩ (by simp) rfl
      simp only [putAll, Act.put, List.setIfInBounds_toArray, List.set_cons_zero, List.set_cons_succ, Nat.zero_add, Nat.reduceAdd] at hKt ⊢
      rw [f3] at hKt ⊢
      go_simp
      exact hKt _ (Below.refl _ _)
    · intro v w' hb hf K hKt
      have f4 : v 4 = _ := hf ⟨4, .data⟩ (by simp) rfl
      simp only [putAll, Act.put, List.setIfInBounds_toArray, List.set_cons_zero, List.set_cons_succ, Nat.zero_add, Nat.reduceAdd] at hKt ⊢
      rw [f4] at hKt ⊢
      go_simp
      refine (kN2 w' (below_trans hb0 hb)).mono ?_
      rintro e w'' ⟨rfl, hb2⟩
      exact hKt _ hb2
    · exact ⟨rfl, rfl, zeroV16⟩
    · exact ⟨rfl, rfl, zeroV16⟩
  intro v u2 hb hF hD
  have f0 : v 0 = _ := hF 0 (by decide)
  have f1 : v 1 = _ := hF 1 (by decide)
  have f2 : v 2 = _ := hF 2 (by decide)
  have f3 : v 3 = _ := hF 3 (by decide)
  have f4 : v 4 = _ := hF 4 (by decide)
  have f5 : v 5 = _ := hF 5 (by decide)
  obtain ⟨gr, f6, hg6, hl6, hz6⟩ := hF 6 (by decide)
  replace hz6 : Has u2 gr 37 (d16 0) := hz6
  obtain ⟨gs, f7, hg7, hl7, hz7⟩ := hF 7 (by decide)
  replace hz7 : Has u2 gs 37 (d16 0) := hz7
  have hne6_7 : gr ≠ gs := fun h => hD 6 7 (by decide) (by decide) (by decide) rfl rfl (by rw [f6, f7, h])
  simp only [List.take_succ_cons, List.take_zero, List.drop_succ_cons, List.drop_zero, putAll, Act.put, List.setIfInBounds_toArray, List.set_cons_zero, List.set_cons_succ, Nat.zero_add, Nat.reduceAdd]
  rw [f0, f1, f2, f3, f4, f5, f6, f7]
  clear hF hD f0 f1 f2 f3 f4 f5 f6 f7
  have hs6 := hz6
  have hs7 := (hz7).farRow (k := gr) (by omega) (d16 r)
  have hBW := below_setRow (below_setRow (hb) (g := gr) hg6 (d16 r)) (g := gs) hg7 (d16 s)
  have hRr := ((hz6).setRow (d16 r)).farRow (k := gs) (by omega) (d16 s)
  have hSs := ((hz7).farRow (k := gr) (by omega) (d16 r)).setRow (d16 s)
  replace hQ := hQ.after hBW
  replace hb0 := below_trans hb0 hBW
  go_wp2_with (first | refine wpList_store_row rfl 37 _ _ rfl gr _ rfl rfl 37 (d16 0) hs6 (info16 _) (by simp only [d16_size]) (tab_oneCell _ _ fun _ => rfl) ?_ | (refine wpList_store_row rfl 37 _ _ rfl gs _ rfl rfl 37 (d16 0) hs7 (info16 _) (by simp only [d16_size]) (tab_oneCell _ _ fun _ => rfl) ?_; generalize hWW : World.setRow _ gs _ = U2 at *; clear hWW))
  clear hBW hb hs6 hz6   hs7 hz7  
  clear kN1 kN2 hsA hsB
  refine (kPN _).mono ?_
  rintro e u3 ⟨rfl, hx⟩
  replace hQ := hQ.after hx; replace hRr := hRr.after hx; replace hSs := hSs.after hx; replace hb0 := below_trans hb0 hx
  clear hx kPN
  go_wp2_with fail
  refine (kF _).mono ?_
  rintro e u4 ⟨⟨fn, rfl, hF⟩, hx⟩
  replace hQ := hQ.after hx; replace hRr := hRr.after hx; replace hSs := hSs.after hx; replace hb0 := below_trans hb0 hx
  clear hx kF
  go_wp2_with fail
  refine region_quiet_tail (Below u4.heap.size u4) 25 (by kernel_rfl) (by kernel_rfl) (below_drewN (Below.refl _ _) 1) ?_
  simp only [List.take_succ_cons, List.take_zero, List.drop_succ_cons, List.drop_zero]
  refine WQ.out ?_
  refine WQ.lift (wpQ_has 37 _ rfl _ rfl rfl 37 _ (fun w' hC => hRr.after hC) _ Tryd.underlying37 rfl (info16 _)) ?_
  simp only [Act.put, List.setIfInBounds_toArray, List.set_cons_zero, List.set_cons_succ]
  refine WQ.lift (wpQ_build 37 rfl rfl (.agg (d16 0)) (fun w' _ => buildZ w')) ?_
  simp only [Act.put, List.setIfInBounds_toArray, List.set_cons_zero, List.set_cons_succ]
  refine WQ.lift (wpQ_bin _ _ _ _ _ rfl rfl (.agg (d16 r)) (.agg (d16 0)) rfl rfl (.bool true) (fun w' _ => HER.out _ _ w')) ?_
  simp only [Act.put, List.setIfInBounds_toArray, List.set_cons_zero, List.set_cons_succ]
  refine WQ.lift (wpQ_move _ rfl rfl (.bool true) rfl) ?_
  simp only [Act.put, List.setIfInBounds_toArray, List.set_cons_zero, List.set_cons_succ]
  refine WQ.skip rfl ?_
  simp only [Act.put, List.setIfInBounds_toArray, List.set_cons_zero, List.set_cons_succ]
  refine WQ.skip rfl ?_
  simp only [Act.put, List.setIfInBounds_toArray, List.set_cons_zero, List.set_cons_succ]
  refine WQ.skip rfl ?_
  simp only [Act.put, List.setIfInBounds_toArray, List.set_cons_zero, List.set_cons_succ]
  refine WQ.lift (wpQ_pick _ _ _ rfl rfl true rfl (.bool true) rfl) ?_
  simp only [Act.put, List.setIfInBounds_toArray, List.set_cons_zero, List.set_cons_succ]
  refine WQ.lift (wpQ_move _ rfl rfl (.bool true) rfl) ?_
  simp only [Act.put, List.setIfInBounds_toArray, List.set_cons_zero, List.set_cons_succ]
  refine WQ.skip rfl ?_
  simp only [Act.put, List.setIfInBounds_toArray, List.set_cons_zero, List.set_cons_succ]
  refine WQ.skip rfl ?_
  simp only [Act.put, List.setIfInBounds_toArray, List.set_cons_zero, List.set_cons_succ]
  refine WQ.skip rfl ?_
  simp only [Act.put, List.setIfInBounds_toArray, List.set_cons_zero, List.set_cons_succ]
  refine WQ.skip rfl ?_
  simp only [Act.put, List.setIfInBounds_toArray, List.set_cons_zero, List.set_cons_succ]
  refine WQ.skip rfl ?_
  simp only [Act.put, List.setIfInBounds_toArray, List.set_cons_zero, List.set_cons_succ]
  refine WQ.skip rfl ?_
  simp only [Act.put, List.setIfInBounds_toArray, List.set_cons_zero, List.set_cons_succ]
  refine WQ.skip rfl ?_
  simp only [Act.put, List.setIfInBounds_toArray, List.set_cons_zero, List.set_cons_succ]
  refine WQ.lift (wpQ_pick _ _ _ rfl rfl true rfl (.bool true) rfl) ?_
  simp only [Act.put, List.setIfInBounds_toArray, List.set_cons_zero, List.set_cons_succ]
  refine WQ.lift (wpQ_move _ rfl rfl (.bool true) rfl) ?_
  simp only [Act.put, List.setIfInBounds_toArray, List.set_cons_zero, List.set_cons_succ]
  refine WQ.skip rfl ?_
  simp only [Act.put, List.setIfInBounds_toArray, List.set_cons_zero, List.set_cons_succ]
  refine WQ.skip rfl ?_
  simp only [Act.put, List.setIfInBounds_toArray, List.set_cons_zero, List.set_cons_succ]
  refine WQ.skip rfl ?_
  simp only [Act.put, List.setIfInBounds_toArray, List.set_cons_zero, List.set_cons_succ]
  refine WQ.skip rfl ?_
  simp only [Act.put, List.setIfInBounds_toArray, List.set_cons_zero, List.set_cons_succ]
  refine WQ.skip rfl ?_
  simp only [Act.put, List.setIfInBounds_toArray, List.set_cons_zero, List.set_cons_succ]
  refine WQ.skip rfl ?_
  simp only [Act.put, List.setIfInBounds_toArray, List.set_cons_zero, List.set_cons_succ]
  refine WQ.skip rfl ?_
  simp only [Act.put, List.setIfInBounds_toArray, List.set_cons_zero, List.set_cons_succ]
  refine WQ.mk (wpQuiet_nil ?_)
  intro u5 hC
  replace hQ := hQ.after hC; replace hRr := hRr.after hC; replace hSs := hSs.after hC; replace hb0 := below_trans hb0 hC; replace hF := hF.after hC
  clear hC
  go_wp2_with fail
  go_ret
  exact ⟨rfl, hb0⟩
set_option maxRecDepth 100000 in
set_option maxHeartbeats 2000000 in
theorem ver5_s0 (Ak Am : Option Addr) (nk ck nm cm X Y b o c r s m : Nat) (w : World) (hr : r < big) (hs : s < big) (hm0 : 0 < m) (hm : m < 65536 ^ 16) (hlb : b < w.heap.size) (hc : 64 ≤ c)
    (h1 : ∀ j, j < 32 → w.cell? ⟨b, o + j, none⟩ = some (.int .u8 ((byB r j : Nat) : Int))) (h2 : ∀ j, j < 32 → w.cell? ⟨b, o + 32 + j, none⟩ = some (.int .u8 ((byB s j : Nat) : Int)))
    (kK : ∀ W, Below w.heap.size w W → Calls Tryd.prog 9 #[.slice Ak nk ck] W fun e w' => e = .returned (.tuple #[.agg (ptC X Y 1), .bool true]) ∧ Below W.heap.size W w')
    (kPN : ∀ W, Calls Tryd.prog 21 #[] W fun e w' => e = .returned (.agg (d16 m)) ∧ Below W.heap.size W w') (hr0 : r ≠ 0) (hs0 : s = 0) :
    Calls Tryd.prog 7 #[.slice Ak nk ck, .slice Am nm cm, .slice (some ⟨b, o, none⟩) 64 c] w fun e w' => e = .returned (.int .i64 4) ∧ Below w.heap.size w w' := by
  have r16 : r < 65536 ^ 16 := by rw [← big_hex]; exact hr
  have s16 : s < 65536 ^ 16 := by rw [← big_hex]; exact hs
  have kN1 := fun W (h : Below w.heap.size w W) => num5_any r b o c W hr (Nat.lt_of_lt_of_le hlb h.size) (fun j hj => (h.cell (p := ⟨b, o + j, none⟩) hlb).trans (h1 j hj))
  have kN2 := fun W (h : Below w.heap.size w W) => num5_any s b (o + 32) (c - 32) W hs (Nat.lt_of_lt_of_le hlb h.size) (fun j hj => (h.cell (p := ⟨b, o + 32 + j, none⟩) hlb).trans (h2 j hj))
  have kR := fun W => below5_any r m W r16 hm
  have kSb := fun W => below5_any s m W s16 hm
  have eR := fun o1 o2 W => hexEq5 o1 o2 r 0 r16 (by decide) W
  have eS := fun o1 o2 W => hexEq5 o1 o2 s 0 s16 (by decide) W
  rw [decide_eq_false hr0] at eR
  rw [decide_eq_true hs0] at eS
  clear kR
  clear kSb
  have HER := Lib.hid eR
  clear eR
  have HES := Lib.hid eS
  clear eS
  have kF := fun W => newField_any m W hm0 hm
  have hsA := sliceLo b o c hc
  have hsB := sliceHi b o c hc
  clear h1 h2 hr hs hm hm0 hc hlb r16 s16 hr0 hs0
  have n0 := d16_ne 0
  have hb0 := Below.refl w.heap.size w
  go_enter Tryd.func7, Tryd.ntmps7
  go_wp2_with fail
  refine (kK _ hb0).mono ?_
  rintro e u1 ⟨rfl, hx⟩
  have hz := put_new u1 39 (ptC 0 0 0) (ptC X Y 1)
  replace hb0 := below_trans (below_trans hb0 hx) hz.2
  have hQ := hz.1
  clear hx hz kK
  go_wp2_with (first | (refine wpList_store_row rfl 39 _ _ rfl u1.heap.size _ rfl rfl 39 (ptC 0 0 0) (Has.new' rfl) (infoPt _ _ _) (by simp only [ptC_size]) (tab_oneCell _ _ fun _ => rfl) ?_; generalize hWW : World.setRow _ u1.heap.size _ = U1 at *; clear hWW))
  refine region_facts 8 [] [.val (.slice (some ⟨b, o, none⟩) 64 c), .val (.slice (some ⟨b, o, none⟩) 32 c), .val (.agg (d16 r)), .val (.slice (some ⟨b, o, none⟩) 64 c), .val (.slice (some ⟨b, o + 32, none⟩) 32 (c - 32)), .val (.agg (d16 s)), .new 37 (d16 0), .new 37 (d16 0)]
    (by kernel_rfl) (by kernel_rfl) (fun _ _ _ _ _ h => h) ?_ ?_
  · simp only [List.take_succ_cons, List.take_zero, StepsOK]
    refine ⟨?_, ?_, ?_, ?_, ?_, ?_, ?_, ?_, trivial⟩
    · intro v w' hb hf K hKt
      simp only [putAll, Act.put, List.setIfInBounds_toArray, List.set_cons_zero, List.set_cons_succ, Nat.zero_add, Nat.reduceAdd] at hKt ⊢
      go_simp
      exact hKt _ (Below.refl _ _)
    · intro v w' hb hf K hKt
      have f0 : v 0 = _ := hf ⟨0, .data⟩ (by simp) rfl
      simp only [putAll, Act.put, List.setIfInBounds_toArray, List.set_cons_zero, List.set_cons_succ, Nat.zero_add, Nat.reduceAdd] at hKt ⊢
      rw [f0] at hKt ⊢
      go_simp
      exact hKt _ (Below.refl _ _)
    · intro v w' hb hf K hKt
      have f1 : v 1 = _ := hf ⟨1, .data⟩ (by simp) rfl
      simp only [putAll, Act.put, List.setIfInBounds_toArray, List.set_cons_zero, List.set_cons_succ, Nat.zero_add, Nat.reduceAdd] at hKt ⊢
      rw [f1] at hKt ⊢
      go_simp
      refine (kN1 w' (below_trans hb0 hb)).mono ?_
      rintro e w'' ⟨rfl, hb2⟩
      exact hKt _ hb2
    · intro v w' hb hf K hKt
      simp only [putAll, Act.put, List.setIfInBounds_toArray, List.set_cons_zero, List.set_cons_succ, Nat.zero_add, Nat.reduceAdd] at hKt ⊢
      go_simp
      exact hKt _ (Below.refl _ _)
    · intro v w' hb hf K hKt
      have f3 : v 3 = _ := hf ⟨3, .data⟩ (by simp) rfl
      simp only [putAll, Act.put, List.setIfInBounds_toArray, List.set_cons_zero, List.set_cons_succ, Nat.zero_add, Nat.reduceAdd] at hKt ⊢
      rw [f3] at hKt ⊢
      go_simp
      exact hKt _ (Below.refl _ _)
    · intro v w' hb hf K hKt
      have f4 : v 4 = _ := hf ⟨4, .data⟩ (by simp) rfl
      simp only [putAll, Act.put, List.setIfInBounds_toArray, List.set_cons_zero, List.set_cons_succ, Nat.zero_add, Nat.reduceAdd] at hKt ⊢
      rw [f4] at hKt ⊢
      go_simp
      refine (kN2 w' (below_trans hb0 hb)).mono ?_
      rintro e w'' ⟨rfl, hb2⟩
      exact hKt _ hb2
    · exact ⟨rfl, rfl, zeroV16⟩
    · exact ⟨rfl, rfl, zeroV16⟩
  intro v u2 hb hF hD
  have f0 : v 0 = _ := hF 0 (by decide)
  have f1 : v 1 = _ := hF 1 (by decide)
  have f2 : v 2 = _ := hF 2 (by decide)
  have f3 : v 3 = _ := hF 3 (by decide)
  have f4 : v 4 = _ := hF 4 (by decide)
  have f5 : v 5 = _ := hF 5 (by decide)
  obtain ⟨gr, f6, hg6, hl6, hz6⟩ := hF 6 (by decide)
  replace hz6 : Has u2 gr 37 (d16 0) := hz6
  obtain ⟨gs, f7, hg7, hl7, hz7⟩ := hF 7 (by decide)
  replace hz7 : Has u2 gs 37 (d16 0) := hz7
  have hne6_7 : gr ≠ gs := fun h => hD 6 7 (by decide) (by decide) (by decide) rfl rfl (by rw [f6, f7, h])
  simp only [List.take_succ_cons, List.take_zero, List.drop_succ_cons, List.drop_zero, putAll, Act.put, List.setIfInBounds_toArray, List.set_cons_zero, List.set_cons_succ, Nat.zero_add, Nat.reduceAdd]
  rw [f0, f1, f2, f3, f4, f5, f6, f7]
  clear hF hD f0 f1 f2 f3 f4 f5 f6 f7
  have hs6 := hz6
  have hs7 := (hz7).farRow (k := gr) (by omega) (d16 r)
  have hBW := below_setRow (below_setRow (hb) (g := gr) hg6 (d16 r)) (g := gs) hg7 (d16 s)
  have hRr := ((hz6).setRow (d16 r)).farRow (k := gs) (by omega) (d16 s)
  have hSs := ((hz7).farRow (k := gr) (by omega) (d16 r)).setRow (d16 s)
  replace hQ := hQ.after hBW
  replace hb0 := below_trans hb0 hBW
  go_wp2_with (first | refine wpList_store_row rfl 37 _ _ rfl gr _ rfl rfl 37 (d16 0) hs6 (info16 _) (by simp only [d16_size]) (tab_oneCell _ _ fun _ => rfl) ?_ | (refine wpList_store_row rfl 37 _ _ rfl gs _ rfl rfl 37 (d16 0) hs7 (info16 _) (by simp only [d16_size]) (tab_oneCell _ _ fun _ => rfl) ?_; generalize hWW : World.setRow _ gs _ = U2 at *; clear hWW))
  clear hBW hb hs6 hz6   hs7 hz7  
  clear kN1 kN2 hsA hsB
  refine (kPN _).mono ?_
  rintro e u3 ⟨rfl, hx⟩
  replace hQ := hQ.after hx; replace hRr := hRr.after hx; replace hSs := hSs.after hx; replace hb0 := below_trans hb0 hx
  clear hx kPN
  go_wp2_with fail
  refine (kF _).mono ?_
  rintro e u4 ⟨⟨fn, rfl, hF⟩, hx⟩
  replace hQ := hQ.after hx; replace hRr := hRr.after hx; replace hSs := hSs.after hx; replace hb0 := below_trans hb0 hx
  clear hx kF
  go_wp2_with fail
  refine region_quiet_tail (Below u4.heap.size u4) 25 (by kernel_rfl) (by kernel_rfl) (below_drewN (Below.refl _ _) 1) ?_
  simp only [List.take_succ_cons, List.take_zero, List.drop_succ_cons, List.drop_zero]
  refine WQ.out ?_
  refine WQ.lift (wpQ_has 37 _ rfl _ rfl rfl 37 _ (fun w' hC => hRr.after hC) _ Tryd.underlying37 rfl (info16 _)) ?_
  simp only [Act.put, List.setIfInBounds_toArray, List.set_cons_zero, List.set_cons_succ]
  refine WQ.lift (wpQ_build 37 rfl rfl (.agg (d16 0)) (fun w' _ => buildZ w')) ?_
  simp only [Act.put, List.setIfInBounds_toArray, List.set_cons_zero, List.set_cons_succ]
  refine WQ.lift (wpQ_bin _ _ _ _ _ rfl rfl (.agg (d16 r)) (.agg (d16 0)) rfl rfl (.bool false) (fun w' _ => HER.out _ _ w')) ?_
  simp only [Act.put, List.setIfInBounds_toArray, List.set_cons_zero, List.set_cons_succ]
  refine WQ.lift (wpQ_move _ rfl rfl (.bool false) rfl) ?_
  simp only [Act.put, List.setIfInBounds_toArray, List.set_cons_zero, List.set_cons_succ]
  refine WQ.lift (wpQ_has 37 _ rfl _ rfl rfl 37 _ (fun w' hC => hSs.after hC) _ Tryd.underlying37 rfl (info16 _)) ?_
  simp only [Act.put, List.setIfInBounds_toArray, List.set_cons_zero, List.set_cons_succ]
  refine WQ.lift (wpQ_build 37 rfl rfl (.agg (d16 0)) (fun w' _ => buildZ w')) ?_
  simp only [Act.put, List.setIfInBounds_toArray, List.set_cons_zero, List.set_cons_succ]
  refine WQ.lift (wpQ_bin _ _ _ _ _ rfl rfl (.agg (d16 s)) (.agg (d16 0)) rfl rfl (.bool true) (fun w' _ => HES.out _ _ w')) ?_
  simp only [Act.put, List.setIfInBounds_toArray, List.set_cons_zero, List.set_cons_succ]
  refine WQ.lift (wpQ_pick _ _ _ rfl rfl false rfl (.bool true) rfl) ?_
  simp only [Act.put, List.setIfInBounds_toArray, List.set_cons_zero, List.set_cons_succ]
  refine WQ.lift (wpQ_move _ rfl rfl (.bool true) rfl) ?_
  simp only [Act.put, List.setIfInBounds_toArray, List.set_cons_zero, List.set_cons_succ]
  refine WQ.skip rfl ?_
  simp only [Act.put, List.setIfInBounds_toArray, List.set_cons_zero, List.set_cons_succ]
  refine WQ.skip rfl ?_
  simp only [Act.put, List.setIfInBounds_toArray, List.set_cons_zero, List.set_cons_succ]
  refine WQ.skip rfl ?_
  simp only [Act.put, List.setIfInBounds_toArray, List.set_cons_zero, List.set_cons_succ]
  refine WQ.skip rfl ?_
  simp only [Act.put, List.setIfInBounds_toArray, List.set_cons_zero, List.set_cons_succ]
  refine WQ.skip rfl ?_
  simp only [Act.put, List.setIfInBounds_toArray, List.set_cons_zero, List.set_cons_succ]
  refine WQ.skip rfl ?_
  simp only [Act.put, List.setIfInBounds_toArray, List.set_cons_zero, List.set_cons_succ]
  refine WQ.skip rfl ?_
  simp only [Act.put, List.setIfInBounds_toArray, List.set_cons_zero, List.set_cons_succ]
  refine WQ.lift (wpQ_pick _ _ _ rfl rfl true rfl (.bool true) rfl) ?_
  simp only [Act.put, List.setIfInBounds_toArray, List.set_cons_zero, List.set_cons_succ]
  refine WQ.lift (wpQ_move _ rfl rfl (.bool true) rfl) ?_
  simp only [Act.put, List.setIfInBounds_toArray, List.set_cons_zero, List.set_cons_succ]
  refine WQ.skip rfl ?_
  simp only [Act.put, List.setIfInBounds_toArray, List.set_cons_zero, List.set_cons_succ]
  refine WQ.skip rfl ?_
  simp only [Act.put, List.setIfInBounds_toArray, List.set_cons_zero, List.set_cons_succ]
  refine WQ.skip rfl ?_
  simp only [Act.put, List.setIfInBounds_toArray, List.set_cons_zero, List.set_cons_succ]
  refine WQ.skip rfl ?_
  simp only [Act.put, List.setIfInBounds_toArray, List.set_cons_zero, List.set_cons_succ]
  refine WQ.skip rfl ?_
  simp only [Act.put, List.setIfInBounds_toArray, List.set_cons_zero, List.set_cons_succ]
  refine WQ.skip rfl ?_
  simp only [Act.put, List.setIfInBounds_toArray, List.set_cons_zero, List.set_cons_succ]
  refine WQ.skip rfl ?_
  simp only [Act.put, List.setIfInBounds_toArray, List.set_cons_zero, List.set_cons_succ]
  refine WQ.mk (wpQuiet_nil ?_)
  intro u5 hC
  replace hQ := hQ.after hC; replace hRr := hRr.after hC; replace hSs := hSs.after hC; replace hb0 := below_trans hb0 hC; replace hF := hF.after hC
  clear hC
  go_wp2_with fail
  go_ret
  exact ⟨rfl, hb0⟩
end Go.Proofs.YtflkhlhpifmocaaDoor
namespace Go.Proofs.YtflkhlhpifmocaaDoor
open Go.RowKit

attribute [local go_sem] zero16 zero48 one16
set_option maxRecDepth 100000 in
set_option maxHeartbeats 2000000 in
theorem ver5_rb (Ak Am : Option Addr) (nk ck nm cm X Y b o c r s m : Nat) (w : World) (hr : r < big) (hs : s < big) (hm0 : 0 < m) (hm : m < 65536 ^ 16) (hlb : b < w.heap.size) (hc : 64 ≤ c)
    (h1 : ∀ j, j < 32 → w.cell? ⟨b, o + j, none⟩ = some (.int .u8 ((byB r j : Nat) : Int))) (h2 : ∀ j, j < 32 → w.cell? ⟨b, o + 32 + j, none⟩ = some (.int .u8 ((byB s j : Nat) : Int)))
    (kK : ∀ W, Below w.heap.size w W → Calls Tryd.prog 9 #[.slice Ak nk ck] W fun e w' => e = .returned (.tuple #[.agg (ptC X Y 1), .bool true]) ∧ Below W.heap.size W w')
    (kPN : ∀ W, Calls Tryd.prog 21 #[] W fun e w' => e = .returned (.agg (d16 m)) ∧ Below W.heap.size W w') (hr0 : r ≠ 0) (hs0 : s ≠ 0) (hrb : ltB r m = false) :
    Calls Tryd.prog 7 #[.slice Ak nk ck, .slice Am nm cm, .slice (some ⟨b, o, none⟩) 64 c] w fun e w' => e = .returned (.int .i64 4) ∧ Below w.heap.size w w' := by
  have r16 : r < 65536 ^ 16 := by rw [← big_hex]; exact hr
  have s16 : s < 65536 ^ 16 := by rw [← big_hex]; exact hs
  have kN1 := fun W (h : Below w.heap.size w W) => num5_any r b o c W hr (Nat.lt_of_lt_of_le hlb h.size) (fun j hj => (h.cell (p := ⟨b, o + j, none⟩) hlb).trans (h1 j hj))
  have kN2 := fun W (h : Below w.heap.size w W) => num5_any s b (o + 32) (c - 32) W hs (Nat.lt_of_lt_of_le hlb h.size) (fun j hj => (h.cell (p := ⟨b, o + 32 + j, none⟩) hlb).trans (h2 j hj))
  have kR := fun W => below5_any r m W r16 hm
  have kSb := fun W => below5_any s m W s16 hm
  have eR := fun o1 o2 W => hexEq5 o1 o2 r 0 r16 (by decide) W
  have eS := fun o1 o2 W => hexEq5 o1 o2 s 0 s16 (by decide) W
  rw [decide_eq_false hr0] at eR
  rw [decide_eq_false hs0] at eS
  rw [hrb] at kR
  clear kSb
  have HER := Lib.hid eR
  clear eR
  have HES := Lib.hid eS
  clear eS
  have kF := fun W => newField_any m W hm0 hm
  have hsA := sliceLo b o c hc
  have hsB := sliceHi b o c hc
  clear h1 h2 hr hs hm hm0 hc hlb r16 s16 hr0 hs0 hrb
  have n0 := d16_ne 0
  have hb0 := Below.refl w.heap.size w
  go_enter Tryd.func7, Tryd.ntmps7
  go_wp2_with fail
  refine (kK _ hb0).mono ?_
  rintro e u1 ⟨rfl, hx⟩
  have hz := put_new u1 39 (ptC 0 0 0) (ptC X Y 1)
  replace hb0 := below_trans (below_trans hb0 hx) hz.2
  have hQ := hz.1
  clear hx hz kK
  go_wp2_with (first | (refine wpList_store_row rfl 39 _ _ rfl u1.heap.size _ rfl rfl 39 (ptC 0 0 0) (Has.new' rfl) (infoPt _ _ _) (by simp only [ptC_size]) (tab_oneCell _ _ fun _ => rfl) ?_; generalize hWW : World.setRow _ u1.heap.size _ = U1 at *; clear hWW))
  refine region_facts 8 [] [.val (.slice (some ⟨b, o, none⟩) 64 c), .val (.slice (some ⟨b, o, none⟩) 32 c), .val (.agg (d16 r)), .val (.slice (some ⟨b, o, none⟩) 64 c), .val (.slice (some ⟨b, o + 32, none⟩) 32 (c - 32)), .val (.agg (d16 s)), .new 37 (d16 0), .new 37 (d16 0)]
    (by kernel_rfl) (by kernel_rfl) (fun _ _ _ _ _ h => h) ?_ ?_
  · simp only [List.take_succ_cons, List.take_zero, StepsOK]
    refine ⟨?_, ?_, ?_, ?_, ?_, ?_, ?_, ?_, trivial⟩
    · intro v w' hb hf K hKt
      simp only [putAll, Act.put, List.setIfInBounds_toArray, List.set_cons_zero, List.set_cons_succ, Nat.zero_add, Nat.reduceAdd] at hKt ⊢
      go_simp
      exact hKt _ (Below.refl _ _)
    · intro v w' hb hf K hKt
      have f0 : v 0 = _ := hf ⟨0, .data⟩ (by simp) rfl
      simp only [putAll, Act.put, List.setIfInBounds_toArray, List.set_cons_zero, List.set_cons_succ, Nat.zero_add, Nat.reduceAdd] at hKt ⊢
      rw [f0] at hKt ⊢
      go_simp
      exact hKt _ (Below.refl _ _)
    · intro v w' hb hf K hKt
      have f1 : v 1 = _ := hf ⟨1, .data⟩ (by simp) rfl
      simp only [putAll, Act.put, List.setIfInBounds_toArray, List.set_cons_zero, List.set_cons_succ, Nat.zero_add, Nat.reduceAdd] at hKt ⊢
      rw [f1] at hKt ⊢
      go_simp
      refine (kN1 w' (below_trans hb0 hb)).mono ?_
      rintro e w'' ⟨rfl, hb2⟩
      exact hKt _ hb2
    · intro v w' hb hf K hKt
      simp only [putAll, Act.put, List.setIfInBounds_toArray, List.set_cons_zero, List.set_cons_succ, Nat.zero_add, Nat.reduceAdd] at hKt ⊢
      go_simp
      exact hKt _ (Below.refl _ _)
    · intro v w' hb hf K hKt
      have f3 : v 3 = _ := hf ⟨3, .data⟩ (by simp) rfl
      simp only [putAll, Act.put, List.setIfInBounds_toArray, List.set_cons_zero, List.set_cons_succ, Nat.zero_add, Nat.reduceAdd] at hKt ⊢
      rw [f3] at hKt ⊢
      go_simp
      exact hKt _ (Below.refl _ _)
    · intro v w' hb hf K hKt
      have f4 : v 4 = _ := hf ⟨4, .data⟩ (by simp) rfl
      simp only [putAll, Act.put, List.setIfInBounds_toArray, List.set_cons_zero, List.set_cons_succ, Nat.zero_add, Nat.reduceAdd] at hKt ⊢
      rw [f4] at hKt ⊢
      go_simp
      refine (kN2 w' (below_trans hb0 hb)).mono ?_
      rintro e w'' ⟨rfl, hb2⟩
      exact hKt _ hb2
    · exact ⟨rfl, rfl, zeroV16⟩
    · exact ⟨rfl, rfl, zeroV16⟩
  intro v u2 hb hF hD
  have f0 : v 0 = _ := hF 0 (by decide)
  have f1 : v 1 = _ := hF 1 (by decide)
  have f2 : v 2 = _ := hF 2 (by decide)
  have f3 : v 3 = _ := hF 3 (by decide)
  have f4 : v 4 = _ := hF 4 (by decide)
  have f5 : v 5 = _ := hF 5 (by decide)
  obtain ⟨gr, f6, hg6, hl6, hz6⟩ := hF 6 (by decide)
  replace hz6 : Has u2 gr 37 (d16 0) := hz6
  obtain ⟨gs, f7, hg7, hl7, hz7⟩ := hF 7 (by decide)
  replace hz7 : Has u2 gs 37 (d16 0) := hz7
  have hne6_7 : gr ≠ gs := fun h => hD 6 7 (by decide) (by decide) (by decide) rfl rfl (by rw [f6, f7, h])
  simp only [List.take_succ_cons, List.take_zero, List.drop_succ_cons, List.drop_zero, putAll, Act.put, List.setIfInBounds_toArray, List.set_cons_zero, List.set_cons_succ, Nat.zero_add, Nat.reduceAdd]
  rw [f0, f1, f2, f3, f4, f5, f6, f7]
  clear hF hD f0 f1 f2 f3 f4 f5 f6 f7
  have hs6 := hz6
  have hs7 := (hz7).farRow (k := gr) (by omega) (d16 r)
  have hBW := below_setRow (below_setRow (hb) (g := gr) hg6 (d16 r)) (g := gs) hg7 (d16 s)
  have hRr := ((hz6).setRow (d16 r)).farRow (k := gs) (by omega) (d16 s)
  have hSs := ((hz7).farRow (k := gr) (by omega) (d16 r)).setRow (d16 s)
  replace hQ := hQ.after hBW
  replace hb0 := below_trans hb0 hBW
  go_wp2_with (first | refine wpList_store_row rfl 37 _ _ rfl gr _ rfl rfl 37 (d16 0) hs6 (info16 _) (by simp only [d16_size]) (tab_oneCell _ _ fun _ => rfl) ?_ | (refine wpList_store_row rfl 37 _ _ rfl gs _ rfl rfl 37 (d16 0) hs7 (info16 _) (by simp only [d16_size]) (tab_oneCell _ _ fun _ => rfl) ?_; generalize hWW : World.setRow _ gs _ = U2 at *; clear hWW))
  clear hBW hb hs6 hz6   hs7 hz7  
  clear kN1 kN2 hsA hsB
  refine (kPN _).mono ?_
  rintro e u3 ⟨rfl, hx⟩
  replace hQ := hQ.after hx; replace hRr := hRr.after hx; replace hSs := hSs.after hx; replace hb0 := below_trans hb0 hx
  clear hx kPN
  go_wp2_with fail
  refine (kF _).mono ?_
  rintro e u4 ⟨⟨fn, rfl, hF⟩, hx⟩
  replace hQ := hQ.after hx; replace hRr := hRr.after hx; replace hSs := hSs.after hx; replace hb0 := below_trans hb0 hx
  clear hx kF
  go_wp2_with fail
  refine region_quiet_tail (Below u4.heap.size u4) 25 (by kernel_rfl) (by kernel_rfl) (below_drewN (Below.refl _ _) 1) ?_
  simp only [List.take_succ_cons, List.take_zero, List.drop_succ_cons, List.drop_zero]
  refine WQ.out ?_
  refine WQ.lift (wpQ_has 37 _ rfl _ rfl rfl 37 _ (fun w' hC => hRr.after hC) _ Tryd.underlying37 rfl (info16 _)) ?_
  simp only [Act.put, List.setIfInBounds_toArray, List.set_cons_zero, List.set_cons_succ]
  refine WQ.lift (wpQ_build 37 rfl rfl (.agg (d16 0)) (fun w' _ => buildZ w')) ?_
  simp only [Act.put, List.setIfInBounds_toArray, List.set_cons_zero, List.set_cons_succ]
  refine WQ.lift (wpQ_bin _ _ _ _ _ rfl rfl (.agg (d16 r)) (.agg (d16 0)) rfl rfl (.bool false) (fun w' _ => HER.out _ _ w')) ?_
  simp only [Act.put, List.setIfInBounds_toArray, List.set_cons_zero, List.set_cons_succ]
  refine WQ.lift (wpQ_move _ rfl rfl (.bool false) rfl) ?_
  simp only [Act.put, List.setIfInBounds_toArray, List.set_cons_zero, List.set_cons_succ]
  refine WQ.lift (wpQ_has 37 _ rfl _ rfl rfl 37 _ (fun w' hC => hSs.after hC) _ Tryd.underlying37 rfl (info16 _)) ?_
  simp only [Act.put, List.setIfInBounds_toArray, List.set_cons_zero, List.set_cons_succ]
  refine WQ.lift (wpQ_build 37 rfl rfl (.agg (d16 0)) (fun w' _ => buildZ w')) ?_
  simp only [Act.put, List.setIfInBounds_toArray, List.set_cons_zero, List.set_cons_succ]
  refine WQ.lift (wpQ_bin _ _ _ _ _ rfl rfl (.agg (d16 s)) (.agg (d16 0)) rfl rfl (.bool false) (fun w' _ => HES.out _ _ w')) ?_
  simp only [Act.put, List.setIfInBounds_toArray, List.set_cons_zero, List.set_cons_succ]
  refine WQ.lift (wpQ_pick _ _ _ rfl rfl false rfl (.bool false) rfl) ?_
  simp only [Act.put, List.setIfInBounds_toArray, List.set_cons_zero, List.set_cons_succ]
  refine WQ.lift (wpQ_move _ rfl rfl (.bool false) rfl) ?_
  simp only [Act.put, List.setIfInBounds_toArray, List.set_cons_zero, List.set_cons_succ]
  refine WQ.lift (wpQ_has 37 _ rfl _ rfl rfl 37 _ (fun w' hC => hRr.after hC) _ Tryd.underlying37 rfl (info16 _)) ?_
  simp only [Act.put, List.setIfInBounds_toArray, List.set_cons_zero, List.set_cons_succ]
  refine WQ.lift (wpQ_move _ rfl rfl (.pointer (some ⟨fn, 0, none⟩)) rfl) ?_
  simp only [Act.put, List.setIfInBounds_toArray, List.set_cons_zero, List.set_cons_succ]
  refine WQ.lift (wpQ_val rfl (.pointer (some ⟨fn, 0, none⟩)) (fun w' _ => by go_simp)) ?_
  simp only [Act.put, List.setIfInBounds_toArray, List.set_cons_zero, List.set_cons_succ]
  refine WQ.lift (wpQ_val rfl (.pointer (some ⟨fn, 0, none⟩)) (fun w' _ => by go_simp)) ?_
  simp only [Act.put, List.setIfInBounds_toArray, List.set_cons_zero, List.set_cons_succ]
  refine WQ.lift (wpQ_load_hex rfl _ rfl fn 0 rfl m (fun w' hC => fld_mod (show Has w' fn 61 (fldC m 16) from hF.after hC))) ?_
  simp only [Act.put, List.setIfInBounds_toArray, List.set_cons_zero, List.set_cons_succ]
  refine WQ.lift (wpQ_fn 22 _ _ rfl rfl #[.agg (d16 r), .agg (d16 m)] rfl (fun _ => by go_simp) (.bool false) (fun w' hC => (kR w').mono fun e w'' ⟨he, hb⟩ => ⟨he, below_class hC hb⟩)) ?_
  simp only [Act.put, List.setIfInBounds_toArray, List.set_cons_zero, List.set_cons_succ]
  refine WQ.lift (wpQ_un _ _ _ rfl rfl (.bool false) rfl (.bool true) (fun w' _ => notB false w')) ?_
  simp only [Act.put, List.setIfInBounds_toArray, List.set_cons_zero, List.set_cons_succ]
  refine WQ.lift (wpQ_pick _ _ _ rfl rfl false rfl (.bool true) rfl) ?_
  simp only [Act.put, List.setIfInBounds_toArray, List.set_cons_zero, List.set_cons_succ]
  refine WQ.lift (wpQ_move _ rfl rfl (.bool true) rfl) ?_
  simp only [Act.put, List.setIfInBounds_toArray, List.set_cons_zero, List.set_cons_succ]
  refine WQ.skip rfl ?_
  simp only [Act.put, List.setIfInBounds_toArray, List.set_cons_zero, List.set_cons_succ]
  refine WQ.skip rfl ?_
  simp only [Act.put, List.setIfInBounds_toArray, List.set_cons_zero, List.set_cons_succ]
  refine WQ.skip rfl ?_
  simp only [Act.put, List.setIfInBounds_toArray, List.set_cons_zero, List.set_cons_succ]
  refine WQ.skip rfl ?_
  simp only [Act.put, List.setIfInBounds_toArray, List.set_cons_zero, List.set_cons_succ]
  refine WQ.skip rfl ?_
  simp only [Act.put, List.setIfInBounds_toArray, List.set_cons_zero, List.set_cons_succ]
  refine WQ.skip rfl ?_
  simp only [Act.put, List.setIfInBounds_toArray, List.set_cons_zero, List.set_cons_succ]
  refine WQ.skip rfl ?_
  simp only [Act.put, List.setIfInBounds_toArray, List.set_cons_zero, List.set_cons_succ]
  refine WQ.mk (wpQuiet_nil ?_)
  intro u5 hC
  replace hQ := hQ.after hC; replace hRr := hRr.after hC; replace hSs := hSs.after hC; replace hb0 := below_trans hb0 hC; replace hF := hF.after hC
  clear hC
  go_wp2_with fail
  go_ret
  exact ⟨rfl, hb0⟩
set_option maxRecDepth 100000 in
set_option maxHeartbeats 2000000 in
theorem ver5_sb (Ak Am : Option Addr) (nk ck nm cm X Y b o c r s m : Nat) (w : World) (hr : r < big) (hs : s < big) (hm0 : 0 < m) (hm : m < 65536 ^ 16) (hlb : b < w.heap.size) (hc : 64 ≤ c)
    (h1 : ∀ j, j < 32 → w.cell? ⟨b, o + j, none⟩ = some (.int .u8 ((byB r j : Nat) : Int))) (h2 : ∀ j, j < 32 → w.cell? ⟨b, o + 32 + j, none⟩ = some (.int .u8 ((byB s j : Nat) : Int)))
    (kK : ∀ W, Below w.heap.size w W → Calls Tryd.prog 9 #[.slice Ak nk ck] W fun e w' => e = .returned (.tuple #[.agg (ptC X Y 1), .bool true]) ∧ Below W.heap.size W w')
    (kPN : ∀ W, Calls Tryd.prog 21 #[] W fun e w' => e = .returned (.agg (d16 m)) ∧ Below W.heap.size W w') (hr0 : r ≠ 0) (hs0 : s ≠ 0) (hrb : ltB r m = true) (hsb : ltB s m = false) :
    Calls Tryd.prog 7 #[.slice Ak nk ck, .slice Am nm cm, .slice (some ⟨b, o, none⟩) 64 c] w fun e w' => e = .returned (.int .i64 4) ∧ Below w.heap.size w w' := by
  have r16 : r < 65536 ^ 16 := by rw [← big_hex]; exact hr
  have s16 : s < 65536 ^ 16 := by rw [← big_hex]; exact hs
  have kN1 := fun W (h : Below w.heap.size w W) => num5_any r b o c W hr (Nat.lt_of_lt_of_le hlb h.size) (fun j hj => (h.cell (p := ⟨b, o + j, none⟩) hlb).trans (h1 j hj))
  have kN2 := fun W (h : Below w.heap.size w W) => num5_any s b (o + 32) (c - 32) W hs (Nat.lt_of_lt_of_le hlb h.size) (fun j hj => (h.cell (p := ⟨b, o + 32 + j, none⟩) hlb).trans (h2 j hj))
  have kR := fun W => below5_any r m W r16 hm
  have kSb := fun W => below5_any s m W s16 hm
  have eR := fun o1 o2 W => hexEq5 o1 o2 r 0 r16 (by decide) W
  have eS := fun o1 o2 W => hexEq5 o1 o2 s 0 s16 (by decide) W
  rw [decide_eq_false hr0] at eR
  rw [decide_eq_false hs0] at eS
  rw [hrb] at kR
  rw [hsb] at kSb
  have HER := Lib.hid eR
  clear eR
  have HES := Lib.hid eS
  clear eS
  have kF := fun W => newField_any m W hm0 hm
  have hsA := sliceLo b o c hc
  have hsB := sliceHi b o c hc
  clear h1 h2 hr hs hm hm0 hc hlb r16 s16 hr0 hs0 hrb hsb
  have n0 := d16_ne 0
  have hb0 := Below.refl w.heap.size w
  go_enter Tryd.func7, Tryd.ntmps7
  go_wp2_with fail
  refine (kK _ hb0).mono ?_
  rintro e u1 ⟨rfl, hx⟩
  have hz := put_new u1 39 (ptC 0 0 0) (ptC X Y 1)
  replace hb0 := below_trans (below_trans hb0 hx) hz.2
  have hQ := hz.1
  clear hx hz kK
  go_wp2_with (first | (refine wpList_store_row rfl 39 _ _ rfl u1.heap.size _ rfl rfl 39 (ptC 0 0 0) (Has.new' rfl) (infoPt _ _ _) (by simp only [ptC_size]) (tab_oneCell _ _ fun _ => rfl) ?_; generalize hWW : World.setRow _ u1.heap.size _ = U1 at *; clear hWW))
  refine region_facts 8 [] [.val (.slice (some ⟨b, o, none⟩) 64 c), .val (.slice (some ⟨b, o, none⟩) 32 c), .val (.agg (d16 r)), .val (.slice (some ⟨b, o, none⟩) 64 c), .val (.slice (some ⟨b, o + 32, none⟩) 32 (c - 32)), .val (.agg (d16 s)), .new 37 (d16 0), .new 37 (d16 0)]
    (by kernel_rfl) (by kernel_rfl) (fun _ _ _ _ _ h => h) ?_ ?_
  · simp only [List.take_succ_cons, List.take_zero, StepsOK]
    refine ⟨?_, ?_, ?_, ?_, ?_, ?_, ?_, ?_, trivial⟩
    · intro v w' hb hf K hKt
      simp only [putAll, Act.put, List.setIfInBounds_toArray, List.set_cons_zero, List.set_cons_succ, Nat.zero_add, Nat.reduceAdd] at hKt ⊢
      go_simp
      exact hKt _ (Below.refl _ _)
    · intro v w' hb hf K hKt
      have f0 : v 0 = _ := hf ⟨0, .data⟩ (by simp) rfl
      simp only [putAll, Act.put, List.setIfInBounds_toArray, List.set_cons_zero, List.set_cons_succ, Nat.zero_add, Nat.reduceAdd] at hKt ⊢
      rw [f0] at hKt ⊢
      go_simp
      exact hKt _ (Below.refl _ _)
    · intro v w' hb hf K hKt
      have f1 : v 1 = _ := hf ⟨1, .data⟩ (by simp) rfl
      simp only [putAll, Act.put, List.setIfInBounds_toArray, List.set_cons_zero, List.set_cons_succ, Nat.zero_add, Nat.reduceAdd] at hKt ⊢
      rw [f1] at hKt ⊢
      go_simp
      refine (kN1 w' (below_trans hb0 hb)).mono ?_
      rintro e w'' ⟨rfl, hb2⟩
      exact hKt _ hb2
    · intro v w' hb hf K hKt
      simp only [putAll, Act.put, List.setIfInBounds_toArray, List.set_cons_zero, List.set_cons_succ, Nat.zero_add, Nat.reduceAdd] at hKt ⊢
      go_simp
      exact hKt _ (Below.refl _ _)
    · intro v w' hb hf K hKt
      have f3 : v 3 = _ := hf ⟨3, .data⟩ (by simp) rfl
      simp only [putAll, Act.put, List.setIfInBounds_toArray, List.set_cons_zero, List.set_cons_succ, Nat.zero_add, Nat.reduceAdd] at hKt ⊢
      rw [f3] at hKt ⊢
      go_simp
      exact hKt _ (Below.refl _ _)
    · intro v w' hb hf K hKt
      have f4 : v 4 = _ := hf ⟨4, .data⟩ (by simp) rfl
      simp only [putAll, Act.put, List.setIfInBounds_toArray, List.set_cons_zero, List.set_cons_succ, Nat.zero_add, Nat.reduceAdd] at hKt ⊢
      rw [f4] at hKt ⊢
      go_simp
      refine (kN2 w' (below_trans hb0 hb)).mono ?_
      rintro e w'' ⟨rfl, hb2⟩
      exact hKt _ hb2
    · exact ⟨rfl, rfl, zeroV16⟩
    · exact ⟨rfl, rfl, zeroV16⟩
  intro v u2 hb hF hD
  have f0 : v 0 = _ := hF 0 (by decide)
  have f1 : v 1 = _ := hF 1 (by decide)
  have f2 : v 2 = _ := hF 2 (by decide)
  have f3 : v 3 = _ := hF 3 (by decide)
  have f4 : v 4 = _ := hF 4 (by decide)
  have f5 : v 5 = _ := hF 5 (by decide)
  obtain ⟨gr, f6, hg6, hl6, hz6⟩ := hF 6 (by decide)
  replace hz6 : Has u2 gr 37 (d16 0) := hz6
  obtain ⟨gs, f7, hg7, hl7, hz7⟩ := hF 7 (by decide)
  replace hz7 : Has u2 gs 37 (d16 0) := hz7
  have hne6_7 : gr ≠ gs := fun h => hD 6 7 (by decide) (by decide) (by decide) rfl rfl (by rw [f6, f7, h])
  simp only [List.take_succ_cons, List.take_zero, List.drop_succ_cons, List.drop_zero, putAll, Act.put, List.setIfInBounds_toArray, List.set_cons_zero, List.set_cons_succ, Nat.zero_add, Nat.reduceAdd]
  rw [f0, f1, f2, f3, f4, f5, f6, f7]
  clear hF hD f0 f1 f2 f3 f4 f5 f6 f7
  have hs6 := hz6
  have hs7 := (hz7).farRow (k := gr) (by omega) (d16 r)
  have hBW := below_setRow (below_setRow (hb) (g := gr) hg6 (d16 r)) (g := gs) hg7 (d16 s)
  have hRr := ((hz6).setRow (d16 r)).farRow (k := gs) (by omega) (d16 s)
  have hSs := ((hz7).farRow (k := gr) (by omega) (d16 r)).setRow (d16 s)
  replace hQ := hQ.after hBW
  replace hb0 := below_trans hb0 hBW
  go_wp2_with (first | refine wpList_store_row rfl 37 _ _ rfl gr _ rfl rfl 37 (d16 0) hs6 (info16 _) (by simp only [d16_size]) (tab_oneCell _ _ fun _ => rfl) ?_ | (refine wpList_store_row rfl 37 _ _ rfl gs _ rfl rfl 37 (d16 0) hs7 (info16 _) (by simp only [d16_size]) (tab_oneCell _ _ fun _ => rfl) ?_; generalize hWW : World.setRow _ gs _ = U2 at *; clear hWW))
  clear hBW hb hs6 hz6   hs7 hz7  
  clear kN1 kN2 hsA hsB
  refine (kPN _).mono ?_
  rintro e u3 ⟨rfl, hx⟩
  replace hQ := hQ.after hx; replace hRr := hRr.after hx; replace hSs := hSs.after hx; replace hb0 := below_trans hb0 hx
  clear hx kPN
  go_wp2_with fail
  refine (kF _).mono ?_
  rintro e u4 ⟨⟨fn, rfl, hF⟩, hx⟩
  replace hQ := hQ.after hx; replace hRr := hRr.after hx; replace hSs := hSs.after hx; replace hb0 := below_trans hb0 hx
  clear hx kF
  go_wp2_with fail
  refine region_quiet_tail (Below u4.heap.size u4) 25 (by kernel_rfl) (by kernel_rfl) (below_drewN (Below.refl _ _) 1) ?_
  simp only [List.take_succ_cons, List.take_zero, List.drop_succ_cons, List.drop_zero]
  refine WQ.out ?_
  refine WQ.lift (wpQ_has 37 _ rfl _ rfl rfl 37 _ (fun w' hC => hRr.after hC) _ Tryd.underlying37 rfl (info16 _)) ?_
  simp only [Act.put, List.setIfInBounds_toArray, List.set_cons_zero, List.set_cons_succ]
  refine WQ.lift (wpQ_build 37 rfl rfl (.agg (d16 0)) (fun w' _ => buildZ w')) ?_
  simp only [Act.put, List.setIfInBounds_toArray, List.set_cons_zero, List.set_cons_succ]
  refine WQ.lift (wpQ_bin _ _ _ _ _ rfl rfl (.agg (d16 r)) (.agg (d16 0)) rfl rfl (.bool false) (fun w' _ => HER.out _ _ w')) ?_
  simp only [Act.put, List.setIfInBounds_toArray, List.set_cons_zero, List.set_cons_succ]
  refine WQ.lift (wpQ_move _ rfl rfl (.bool false) rfl) ?_
  simp only [Act.put, List.setIfInBounds_toArray, List.set_cons_zero, List.set_cons_succ]
  refine WQ.lift (wpQ_has 37 _ rfl _ rfl rfl 37 _ (fun w' hC => hSs.after hC) _ Tryd.underlying37 rfl (info16 _)) ?_
  simp only [Act.put, List.setIfInBounds_toArray, List.set_cons_zero, List.set_cons_succ]
  refine WQ.lift (wpQ_build 37 rfl rfl (.agg (d16 0)) (fun w' _ => buildZ w')) ?_
  simp only [Act.put, List.setIfInBounds_toArray, List.set_cons_zero, List.set_cons_succ]
  refine WQ.lift (wpQ_bin _ _ _ _ _ rfl rfl (.agg (d16 s)) (.agg (d16 0)) rfl rfl (.bool false) (fun w' _ => HES.out _ _ w')) ?_
  simp only [Act.put, List.setIfInBounds_toArray, List.set_cons_zero, List.set_cons_succ]
  refine WQ.lift (wpQ_pick _ _ _ rfl rfl false rfl (.bool false) rfl) ?_
  simp only [Act.put, List.setIfInBounds_toArray, List.set_cons_zero, List.set_cons_succ]
  refine WQ.lift (wpQ_move _ rfl rfl (.bool false) rfl) ?_
  simp only [Act.put, List.setIfInBounds_toArray, List.set_cons_zero, List.set_cons_succ]
  refine WQ.lift (wpQ_has 37 _ rfl _ rfl rfl 37 _ (fun w' hC => hRr.after hC) _ Tryd.underlying37 rfl (info16 _)) ?_
  simp only [Act.put, List.setIfInBounds_toArray, List.set_cons_zero, List.set_cons_succ]
  refine WQ.lift (wpQ_move _ rfl rfl (.pointer (some ⟨fn, 0, none⟩)) rfl) ?_
  simp only [Act.put, List.setIfInBounds_toArray, List.set_cons_zero, List.set_cons_succ]
  refine WQ.lift (wpQ_val rfl (.pointer (some ⟨fn, 0, none⟩)) (fun w' _ => by go_simp)) ?_
  simp only [Act.put, List.setIfInBounds_toArray, List.set_cons_zero, List.set_cons_succ]
  refine WQ.lift (wpQ_val rfl (.pointer (some ⟨fn, 0, none⟩)) (fun w' _ => by go_simp)) ?_
  simp only [Act.put, List.setIfInBounds_toArray, List.set_cons_zero, List.set_cons_succ]
  refine WQ.lift (wpQ_load_hex rfl _ rfl fn 0 rfl m (fun w' hC => fld_mod (show Has w' fn 61 (fldC m 16) from hF.after hC))) ?_
  simp only [Act.put, List.setIfInBounds_toArray, List.set_cons_zero, List.set_cons_succ]
  refine WQ.lift (wpQ_fn 22 _ _ rfl rfl #[.agg (d16 r), .agg (d16 m)] rfl (fun _ => by go_simp) (.bool true) (fun w' hC => (kR w').mono fun e w'' ⟨he, hb⟩ => ⟨he, below_class hC hb⟩)) ?_
  simp only [Act.put, List.setIfInBounds_toArray, List.set_cons_zero, List.set_cons_succ]
  refine WQ.lift (wpQ_un _ _ _ rfl rfl (.bool true) rfl (.bool false) (fun w' _ => notB true w')) ?_
  simp only [Act.put, List.setIfInBounds_toArray, List.set_cons_zero, List.set_cons_succ]
  refine WQ.lift (wpQ_pick _ _ _ rfl rfl false rfl (.bool false) rfl) ?_
  simp only [Act.put, List.setIfInBounds_toArray, List.set_cons_zero, List.set_cons_succ]
  refine WQ.lift (wpQ_move _ rfl rfl (.bool false) rfl) ?_
  simp only [Act.put, List.setIfInBounds_toArray, List.set_cons_zero, List.set_cons_succ]
  refine WQ.lift (wpQ_has 37 _ rfl _ rfl rfl 37 _ (fun w' hC => hSs.after hC) _ Tryd.underlying37 rfl (info16 _)) ?_
  simp only [Act.put, List.setIfInBounds_toArray, List.set_cons_zero, List.set_cons_succ]
  refine WQ.lift (wpQ_move _ rfl rfl (.pointer (some ⟨fn, 0, none⟩)) rfl) ?_
  simp only [Act.put, List.setIfInBounds_toArray, List.set_cons_zero, List.set_cons_succ]
  refine WQ.lift (wpQ_val rfl (.pointer (some ⟨fn, 0, none⟩)) (fun w' _ => by go_simp)) ?_
  simp only [Act.put, List.setIfInBounds_toArray, List.set_cons_zero, List.set_cons_succ]
  refine WQ.lift (wpQ_val rfl (.pointer (some ⟨fn, 0, none⟩)) (fun w' _ => by go_simp)) ?_
  simp only [Act.put, List.setIfInBounds_toArray, List.set_cons_zero, List.set_cons_succ]
  refine WQ.lift (wpQ_load_hex rfl _ rfl fn 0 rfl m (fun w' hC => fld_mod (show Has w' fn 61 (fldC m 16) from hF.after hC))) ?_
  simp only [Act.put, List.setIfInBounds_toArray, List.set_cons_zero, List.set_cons_succ]
  refine WQ.lift (wpQ_fn 22 _ _ rfl rfl #[.agg (d16 s), .agg (d16 m)] rfl (fun _ => by go_simp) (.bool false) (fun w' hC => (kSb w').mono fun e w'' ⟨he, hb⟩ => ⟨he, below_class hC hb⟩)) ?_
  simp only [Act.put, List.setIfInBounds_toArray, List.set_cons_zero, List.set_cons_succ]
  refine WQ.lift (wpQ_un _ _ _ rfl rfl (.bool false) rfl (.bool true) (fun w' _ => notB false w')) ?_
  simp only [Act.put, List.setIfInBounds_toArray, List.set_cons_zero, List.set_cons_succ]
  refine WQ.mk (wpQuiet_nil ?_)
  intro u5 hC
  replace hQ := hQ.after hC; replace hRr := hRr.after hC; replace hSs := hSs.after hC; replace hb0 := below_trans hb0 hC; replace hF := hF.after hC
  clear hC
  go_wp2_with fail
  go_ret
  exact ⟨rfl, hb0⟩
end Go.Proofs.YtflkhlhpifmocaaDoor
