/-
Package reloc: set.
-/
import Derived.Test.YtegaiphhoinilaaRkD
namespace Go.Proofs.Ytegaiphhoinilaa.Rc
open Go Go.RowKit

section
variable {P : Program} {ops : Array Oper} {rest : List Oper} {o : Oper} {a : Act} {C : World → Prop} {L : Act → Prop}
/-- a call of a function's value -/
theorem wpQ_fv (x : Operand) (fn : FuncId) (cs : Array Operand) (ts : Array TypeId) (ho : o.op = .call { callee := .value x, args := cs, argTypes := ts }) (hw : Region.wanted o (yielded ops a.tmps) = true) (args : Array Value) (hx : a.eval x = .func (.func fn) #[] #[]) (hargs0 : cs.toList.map a.eval = args.toList) (hfn : ∀ w, (callFunc fn args).run P w = .ok (.enter fn args) w) (v : Value)
    (hc : ∀ w', C w' → Calls P fn args w' fun e w'' => e = .returned v ∧ C w'') (h : wpQuiet P ops C L rest (a.put o.dst v)) : wpQuiet P ops C L (o :: rest) a :=
  have hargs : cs.map a.eval = args := by
    apply Array.toList_inj.1
    rw [Array.toList_map]
    exact hargs0
  wpQ_call fn args hw (fun w => by
    unfold execOp
    simp only [ho]
    subst hargs
    have hf := hfn w
    simp only [resolve, hx, Deferred.ofValue]
    go_simp) v hc h
end
set_option maxRecDepth 100000 in
set_option maxHeartbeats 4000000 in
theorem setB_ok (m : Nat → UInt8) (g x v : Nat) (w : World) (hG : RamP w g m) (hx : x < 4294967296) (hv : v < 4294967296) (hst : stB x 4 = true) :
    Calls Try.prog 57 #[.iface 28 (mP g), .int .u32 (x : Int), .func (.func 58) #[] #[], .int .u32 (v : Int)] w fun e w' => e = .returned (.int .i64 0) ∧ RamP w' g (stM m x 4 (setN .B (ldV m x 4) v 32)) ∧ w.grownBy w' (some g) := by
  have hm1 : ∀ w, (method 231 28 (mP g) "Load").run Try.prog w = .ok (15, mP g) w := fun _ => by kernel_rfl
  have hm2 : ∀ w, (method 231 28 (mP g) "Store").run Try.prog w = .ok (19, mP g) w := fun _ => by kernel_rfl
  have hna : ∀ w, (nilAhead 231 28 (mP g) "Store").run Try.prog w = .ok (some false) w := fun _ => by kernel_rfl
  have kL := mload_any m g x 4 w hG hx
  rw [hst, show erI true = 0 from rfl] at kL
  have hW0l := ldV_lt m x
  obtain ⟨W0, hW0⟩ : ∃ W0, W0 = ldV m x 4 := ⟨_, rfl⟩
  rw [← hW0] at kL hW0l ⊢
  have hzl := setN_lt .B W0 v hW0l 32 (by decide)
  have hset := fun W => setB_any W0 v W hW0l hv
  rw [setL_is .B (by decide) W0 v hW0l] at hset
  generalize setN .B W0 v 32 = z at *
  have KW := Lib.hid hset
  have HG := Lib.hid hG
  clear hset hG hW0
  go_enter Try.func57, Try.ntmps57
  go_upto_region 2 with (go_at_call 15; with_reducible refine kL.mono ?_; rintro e u ⟨rfl, hb⟩)
  clear kL
  have HG1 := Lib.hid (HG.out.after hb)
  have HB := Lib.hid hb
  clear hb
  go_upto_region 4 with fail
  refine region_quiet_tail (Below u.heap.size u) 9 (by kernel_rfl) (by kernel_rfl) (below_drewN (Below.refl _ _) 1) ?_
  simp only [List.take_succ_cons, List.take_zero, List.drop_succ_cons, List.drop_zero]
  refine WQ.out ?_
  refine WQ.lift (wpQ_move _ rfl rfl (.iface 28 (mP g)) rfl) ?_
  simp only [Act.put, List.setIfInBounds_toArray, List.set_cons_zero, List.set_cons_succ]
  refine WQ.lift (wpQ_move _ rfl rfl (.int .u32 (x : Int)) rfl) ?_
  simp only [Act.put, List.setIfInBounds_toArray, List.set_cons_zero, List.set_cons_succ]
  refine WQ.lift (wpQ_move _ rfl rfl (.func (.func 58) #[] #[]) rfl) ?_
  simp only [Act.put, List.setIfInBounds_toArray, List.set_cons_zero, List.set_cons_succ]
  refine WQ.lift (wpQ_move _ rfl rfl (.int .u32 (W0 : Int)) rfl) ?_
  simp only [Act.put, List.setIfInBounds_toArray, List.set_cons_zero, List.set_cons_succ]
  refine WQ.lift (wpQ_move _ rfl rfl (.int .u32 (v : Int)) rfl) ?_
  simp only [Act.put, List.setIfInBounds_toArray, List.set_cons_zero, List.set_cons_succ]
  refine WQ.lift (wpQ_fv (.tmp 22) 58 _ _ rfl rfl #[.int .u32 (W0 : Int), .int .u32 (v : Int)] rfl rfl (fun _ => by go_simp) (.int .u32 (z : Int)) (fun w' hC => (KW.out w').mono fun e w'' ⟨he, hb⟩ => ⟨he, hb ▸ hC⟩)) ?_
  simp only [Act.put, List.setIfInBounds_toArray, List.set_cons_zero, List.set_cons_succ]
  refine WQ.lift (wpQ_val rfl (.func (.method "Store") #[.iface 28 (mP g)] #[]) (fun w' hC => by go_simp)) ?_
  simp only [Act.put, List.setIfInBounds_toArray, List.set_cons_zero, List.set_cons_succ]
  refine WQ.lift (wpQ_val rfl (.func (.method "Store") #[.iface 28 (mP g)] #[]) (fun w' hC => by go_simp)) ?_
  simp only [Act.put, List.setIfInBounds_toArray, List.set_cons_zero, List.set_cons_succ]
  refine WQ.lift (wpQ_move _ rfl rfl (.iface 28 (mP g)) rfl) ?_
  simp only [Act.put, List.setIfInBounds_toArray, List.set_cons_zero, List.set_cons_succ]
  refine WQ.mk (wpQuiet_nil ?_)
  intro u2 hC
  have kS := store_any m g x z 4 u2 (HG1.out.after hC) hx hzl
  rw [hst, show erI true = 0 from rfl] at kS
  have HC := Lib.hid hC
  clear hC
  go_wp2_with (go_at_call 19; with_reducible refine kS.mono ?_; rintro e w3 ⟨rfl, hG3, hb3⟩)
  go_ret
  exact ⟨rfl, hG3, only_trans (only_below (HB.out.trans (HC.out.mono HB.out.size)) _) hb3⟩
set_option maxRecDepth 100000 in
set_option maxHeartbeats 4000000 in
theorem setJ_ok (m : Nat → UInt8) (g x v : Nat) (w : World) (hG : RamP w g m) (hx : x < 4294967296) (hv : v < 4294967296) (hst : stB x 4 = true) :
    Calls Try.prog 57 #[.iface 28 (mP g), .int .u32 (x : Int), .func (.func 59) #[] #[], .int .u32 (v : Int)] w fun e w' => e = .returned (.int .i64 0) ∧ RamP w' g (stM m x 4 (setN .J (ldV m x 4) v 32)) ∧ w.grownBy w' (some g) := by
  have hm1 : ∀ w, (method 231 28 (mP g) "Load").run Try.prog w = .ok (15, mP g) w := fun _ => by kernel_rfl
  have hm2 : ∀ w, (method 231 28 (mP g) "Store").run Try.prog w = .ok (19, mP g) w := fun _ => by kernel_rfl
  have hna : ∀ w, (nilAhead 231 28 (mP g) "Store").run Try.prog w = .ok (some false) w := fun _ => by kernel_rfl
  have kL := mload_any m g x 4 w hG hx
  rw [hst, show erI true = 0 from rfl] at kL
  have hW0l := ldV_lt m x
  obtain ⟨W0, hW0⟩ : ∃ W0, W0 = ldV m x 4 := ⟨_, rfl⟩
  rw [← hW0] at kL hW0l ⊢
  have hzl := setN_lt .J W0 v hW0l 32 (by decide)
  have hset := fun W => setJ_any W0 v W hW0l hv
  rw [setL_is .J (by decide) W0 v hW0l] at hset
  generalize setN .J W0 v 32 = z at *
  have KW := Lib.hid hset
  have HG := Lib.hid hG
  clear hset hG hW0
  go_enter Try.func57, Try.ntmps57
  go_upto_region 2 with (go_at_call 15; with_reducible refine kL.mono ?_; rintro e u ⟨rfl, hb⟩)
  clear kL
  have HG1 := Lib.hid (HG.out.after hb)
  have HB := Lib.hid hb
  clear hb
  go_upto_region 4 with fail
  refine region_quiet_tail (Below u.heap.size u) 9 (by kernel_rfl) (by kernel_rfl) (below_drewN (Below.refl _ _) 1) ?_
  simp only [List.take_succ_cons, List.take_zero, List.drop_succ_cons, List.drop_zero]
  refine WQ.out ?_
  refine WQ.lift (wpQ_move _ rfl rfl (.iface 28 (mP g)) rfl) ?_
  simp only [Act.put, List.setIfInBounds_toArray, List.set_cons_zero, List.set_cons_succ]
  refine WQ.lift (wpQ_move _ rfl rfl (.int .u32 (x : Int)) rfl) ?_
  simp only [Act.put, List.setIfInBounds_toArray, List.set_cons_zero, List.set_cons_succ]
  refine WQ.lift (wpQ_move _ rfl rfl (.func (.func 59) #[] #[]) rfl) ?_
  simp only [Act.put, List.setIfInBounds_toArray, List.set_cons_zero, List.set_cons_succ]
  refine WQ.lift (wpQ_move _ rfl rfl (.int .u32 (W0 : Int)) rfl) ?_
  simp only [Act.put, List.setIfInBounds_toArray, List.set_cons_zero, List.set_cons_succ]
  refine WQ.lift (wpQ_move _ rfl rfl (.int .u32 (v : Int)) rfl) ?_
  simp only [Act.put, List.setIfInBounds_toArray, List.set_cons_zero, List.set_cons_succ]
  refine WQ.lift (wpQ_fv (.tmp 22) 59 _ _ rfl rfl #[.int .u32 (W0 : Int), .int .u32 (v : Int)] rfl rfl (fun _ => by go_simp) (.int .u32 (z : Int)) (fun w' hC => (KW.out w').mono fun e w'' ⟨he, hb⟩ => ⟨he, hb ▸ hC⟩)) ?_
  simp only [Act.put, List.setIfInBounds_toArray, List.set_cons_zero, List.set_cons_succ]
  refine WQ.lift (wpQ_val rfl (.func (.method "Store") #[.iface 28 (mP g)] #[]) (fun w' hC => by go_simp)) ?_
  simp only [Act.put, List.setIfInBounds_toArray, List.set_cons_zero, List.set_cons_succ]
  refine WQ.lift (wpQ_val rfl (.func (.method "Store") #[.iface 28 (mP g)] #[]) (fun w' hC => by go_simp)) ?_
  simp only [Act.put, List.setIfInBounds_toArray, List.set_cons_zero, List.set_cons_succ]
  refine WQ.lift (wpQ_move _ rfl rfl (.iface 28 (mP g)) rfl) ?_
  simp only [Act.put, List.setIfInBounds_toArray, List.set_cons_zero, List.set_cons_succ]
  refine WQ.mk (wpQuiet_nil ?_)
  intro u2 hC
  have kS := store_any m g x z 4 u2 (HG1.out.after hC) hx hzl
  rw [hst, show erI true = 0 from rfl] at kS
  have HC := Lib.hid hC
  clear hC
  go_wp2_with (go_at_call 19; with_reducible refine kS.mono ?_; rintro e w3 ⟨rfl, hG3, hb3⟩)
  go_ret
  exact ⟨rfl, hG3, only_trans (only_below (HB.out.trans (HC.out.mono HB.out.size)) _) hb3⟩
set_option maxRecDepth 100000 in
set_option maxHeartbeats 4000000 in
theorem setU_ok (m : Nat → UInt8) (g x v : Nat) (w : World) (hG : RamP w g m) (hx : x < 4294967296) (hv : v < 4294967296) (hst : stB x 4 = true) :
    Calls Try.prog 57 #[.iface 28 (mP g), .int .u32 (x : Int), .func (.func 60) #[] #[], .int .u32 (v : Int)] w fun e w' => e = .returned (.int .i64 0) ∧ RamP w' g (stM m x 4 (setN .U (ldV m x 4) v 32)) ∧ w.grownBy w' (some g) := by
  have hm1 : ∀ w, (method 231 28 (mP g) "Load").run Try.prog w = .ok (15, mP g) w := fun _ => by kernel_rfl
  have hm2 : ∀ w, (method 231 28 (mP g) "Store").run Try.prog w = .ok (19, mP g) w := fun _ => by kernel_rfl
  have hna : ∀ w, (nilAhead 231 28 (mP g) "Store").run Try.prog w = .ok (some false) w := fun _ => by kernel_rfl
  have kL := mload_any m g x 4 w hG hx
  rw [hst, show erI true = 0 from rfl] at kL
  have hW0l := ldV_lt m x
  obtain ⟨W0, hW0⟩ : ∃ W0, W0 = ldV m x 4 := ⟨_, rfl⟩
  rw [← hW0] at kL hW0l ⊢
  have hzl := setN_lt .U W0 v hW0l 32 (by decide)
  have hset := fun W => setU_any W0 v W hW0l hv
  rw [setL_is .U (by decide) W0 v hW0l] at hset
  generalize setN .U W0 v 32 = z at *
  have KW := Lib.hid hset
  have HG := Lib.hid hG
  clear hset hG hW0
  go_enter Try.func57, Try.ntmps57
  go_upto_region 2 with (go_at_call 15; with_reducible refine kL.mono ?_; rintro e u ⟨rfl, hb⟩)
  clear kL
  have HG1 := Lib.hid (HG.out.after hb)
  have HB := Lib.hid hb
  clear hb
  go_upto_region 4 with fail
  refine region_quiet_tail (Below u.heap.size u) 9 (by kernel_rfl) (by kernel_rfl) (below_drewN (Below.refl _ _) 1) ?_
  simp only [List.take_succ_cons, List.take_zero, List.drop_succ_cons, List.drop_zero]
  refine WQ.out ?_
  refine WQ.lift (wpQ_move _ rfl rfl (.iface 28 (mP g)) rfl) ?_
  simp only [Act.put, List.setIfInBounds_toArray, List.set_cons_zero, List.set_cons_succ]
  refine WQ.lift (wpQ_move _ rfl rfl (.int .u32 (x : Int)) rfl) ?_
  simp only [Act.put, List.setIfInBounds_toArray, List.set_cons_zero, List.set_cons_succ]
  refine WQ.lift (wpQ_move _ rfl rfl (.func (.func 60) #[] #[]) rfl) ?_
  simp only [Act.put, List.setIfInBounds_toArray, List.set_cons_zero, List.set_cons_succ]
  refine WQ.lift (wpQ_move _ rfl rfl (.int .u32 (W0 : Int)) rfl) ?_
  simp only [Act.put, List.setIfInBounds_toArray, List.set_cons_zero, List.set_cons_succ]
  refine WQ.lift (wpQ_move _ rfl rfl (.int .u32 (v : Int)) rfl) ?_
  simp only [Act.put, List.setIfInBounds_toArray, List.set_cons_zero, List.set_cons_succ]
  refine WQ.lift (wpQ_fv (.tmp 22) 60 _ _ rfl rfl #[.int .u32 (W0 : Int), .int .u32 (v : Int)] rfl rfl (fun _ => by go_simp) (.int .u32 (z : Int)) (fun w' hC => (KW.out w').mono fun e w'' ⟨he, hb⟩ => ⟨he, hb ▸ hC⟩)) ?_
  simp only [Act.put, List.setIfInBounds_toArray, List.set_cons_zero, List.set_cons_succ]
  refine WQ.lift (wpQ_val rfl (.func (.method "Store") #[.iface 28 (mP g)] #[]) (fun w' hC => by go_simp)) ?_
  simp only [Act.put, List.setIfInBounds_toArray, List.set_cons_zero, List.set_cons_succ]
  refine WQ.lift (wpQ_val rfl (.func (.method "Store") #[.iface 28 (mP g)] #[]) (fun w' hC => by go_simp)) ?_
  simp only [Act.put, List.setIfInBounds_toArray, List.set_cons_zero, List.set_cons_succ]
  refine WQ.lift (wpQ_move _ rfl rfl (.iface 28 (mP g)) rfl) ?_
  simp only [Act.put, List.setIfInBounds_toArray, List.set_cons_zero, List.set_cons_succ]
  refine WQ.mk (wpQuiet_nil ?_)
  intro u2 hC
  have kS := store_any m g x z 4 u2 (HG1.out.after hC) hx hzl
  rw [hst, show erI true = 0 from rfl] at kS
  have HC := Lib.hid hC
  clear hC
  go_wp2_with (go_at_call 19; with_reducible refine kS.mono ?_; rintro e w3 ⟨rfl, hG3, hb3⟩)
  go_ret
  exact ⟨rfl, hG3, only_trans (only_below (HB.out.trans (HC.out.mono HB.out.size)) _) hb3⟩
set_option maxRecDepth 100000 in
set_option maxHeartbeats 4000000 in
theorem setI_ok (m : Nat → UInt8) (g x v : Nat) (w : World) (hG : RamP w g m) (hx : x < 4294967296) (hv : v < 4294967296) (hst : stB x 4 = true) :
    Calls Try.prog 57 #[.iface 28 (mP g), .int .u32 (x : Int), .func (.func 61) #[] #[], .int .u32 (v : Int)] w fun e w' => e = .returned (.int .i64 0) ∧ RamP w' g (stM m x 4 (setN .I (ldV m x 4) v 32)) ∧ w.grownBy w' (some g) := by
  have hm1 : ∀ w, (method 231 28 (mP g) "Load").run Try.prog w = .ok (15, mP g) w := fun _ => by kernel_rfl
  have hm2 : ∀ w, (method 231 28 (mP g) "Store").run Try.prog w = .ok (19, mP g) w := fun _ => by kernel_rfl
  have hna : ∀ w, (nilAhead 231 28 (mP g) "Store").run Try.prog w = .ok (some false) w := fun _ => by kernel_rfl
  have kL := mload_any m g x 4 w hG hx
  rw [hst, show erI true = 0 from rfl] at kL
  have hW0l := ldV_lt m x
  obtain ⟨W0, hW0⟩ : ∃ W0, W0 = ldV m x 4 := ⟨_, rfl⟩
  rw [← hW0] at kL hW0l ⊢
  have hzl := setN_lt .I W0 v hW0l 32 (by decide)
  have hset := fun W => setI_any W0 v W hW0l hv
  rw [setL_is .I (by decide) W0 v hW0l] at hset
  generalize setN .I W0 v 32 = z at *
  have KW := Lib.hid hset
  have HG := Lib.hid hG
  clear hset hG hW0
  go_enter Try.func57, Try.ntmps57
  go_upto_region 2 with (go_at_call 15; with_reducible refine kL.mono ?_; rintro e u ⟨rfl, hb⟩)
  clear kL
  have HG1 := Lib.hid (HG.out.after hb)
  have HB := Lib.hid hb
  clear hb
  go_upto_region 4 with fail
  refine region_quiet_tail (Below u.heap.size u) 9 (by kernel_rfl) (by kernel_rfl) (below_drewN (Below.refl _ _) 1) ?_
  simp only [List.take_succ_cons, List.take_zero, List.drop_succ_cons, List.drop_zero]
  refine WQ.out ?_
  refine WQ.lift (wpQ_move _ rfl rfl (.iface 28 (mP g)) rfl) ?_
  simp only [Act.put, List.setIfInBounds_toArray, List.set_cons_zero, List.set_cons_succ]
  refine WQ.lift (wpQ_move _ rfl rfl (.int .u32 (x : Int)) rfl) ?_
  simp only [Act.put, List.setIfInBounds_toArray, List.set_cons_zero, List.set_cons_succ]
  refine WQ.lift (wpQ_move _ rfl rfl (.func (.func 61) #[] #[]) rfl) ?_
  simp only [Act.put, List.setIfInBounds_toArray, List.set_cons_zero, List.set_cons_succ]
  refine WQ.lift (wpQ_move _ rfl rfl (.int .u32 (W0 : Int)) rfl) ?_
  simp only [Act.put, List.setIfInBounds_toArray, List.set_cons_zero, List.set_cons_succ]
  refine WQ.lift (wpQ_move _ rfl rfl (.int .u32 (v : Int)) rfl) ?_
  simp only [Act.put, List.setIfInBounds_toArray, List.set_cons_zero, List.set_cons_succ]
  refine WQ.lift (wpQ_fv (.tmp 22) 61 _ _ rfl rfl #[.int .u32 (W0 : Int), .int .u32 (v : Int)] rfl rfl (fun _ => by go_simp) (.int .u32 (z : Int)) (fun w' hC => (KW.out w').mono fun e w'' ⟨he, hb⟩ => ⟨he, hb ▸ hC⟩)) ?_
  simp only [Act.put, List.setIfInBounds_toArray, List.set_cons_zero, List.set_cons_succ]
  refine WQ.lift (wpQ_val rfl (.func (.method "Store") #[.iface 28 (mP g)] #[]) (fun w' hC => by go_simp)) ?_
  simp only [Act.put, List.setIfInBounds_toArray, List.set_cons_zero, List.set_cons_succ]
  refine WQ.lift (wpQ_val rfl (.func (.method "Store") #[.iface 28 (mP g)] #[]) (fun w' hC => by go_simp)) ?_
  simp only [Act.put, List.setIfInBounds_toArray, List.set_cons_zero, List.set_cons_succ]
  refine WQ.lift (wpQ_move _ rfl rfl (.iface 28 (mP g)) rfl) ?_
  simp only [Act.put, List.setIfInBounds_toArray, List.set_cons_zero, List.set_cons_succ]
  refine WQ.mk (wpQuiet_nil ?_)
  intro u2 hC
  have kS := store_any m g x z 4 u2 (HG1.out.after hC) hx hzl
  rw [hst, show erI true = 0 from rfl] at kS
  have HC := Lib.hid hC
  clear hC
  go_wp2_with (go_at_call 19; with_reducible refine kS.mono ?_; rintro e w3 ⟨rfl, hG3, hb3⟩)
  go_ret
  exact ⟨rfl, hG3, only_trans (only_below (HB.out.trans (HC.out.mono HB.out.size)) _) hb3⟩
set_option maxRecDepth 100000 in
set_option maxHeartbeats 4000000 in
theorem setS_ok (m : Nat → UInt8) (g x v : Nat) (w : World) (hG : RamP w g m) (hx : x < 4294967296) (hv : v < 4294967296) (hst : stB x 4 = true) :
    Calls Try.prog 57 #[.iface 28 (mP g), .int .u32 (x : Int), .func (.func 62) #[] #[], .int .u32 (v : Int)] w fun e w' => e = .returned (.int .i64 0) ∧ RamP w' g (stM m x 4 (setN .S (ldV m x 4) v 32)) ∧ w.grownBy w' (some g) := by
  have hm1 : ∀ w, (method 231 28 (mP g) "Load").run Try.prog w = .ok (15, mP g) w := fun _ => by kernel_rfl
  have hm2 : ∀ w, (method 231 28 (mP g) "Store").run Try.prog w = .ok (19, mP g) w := fun _ => by kernel_rfl
  have hna : ∀ w, (nilAhead 231 28 (mP g) "Store").run Try.prog w = .ok (some false) w := fun _ => by kernel_rfl
  have kL := mload_any m g x 4 w hG hx
  rw [hst, show erI true = 0 from rfl] at kL
  have hW0l := ldV_lt m x
  obtain ⟨W0, hW0⟩ : ∃ W0, W0 = ldV m x 4 := ⟨_, rfl⟩
  rw [← hW0] at kL hW0l ⊢
  have hzl := setN_lt .S W0 v hW0l 32 (by decide)
  have hset := fun W => setS_any W0 v W hW0l hv
  rw [setL_is .S (by decide) W0 v hW0l] at hset
  generalize setN .S W0 v 32 = z at *
  have KW := Lib.hid hset
  have HG := Lib.hid hG
  clear hset hG hW0
  go_enter Try.func57, Try.ntmps57
  go_upto_region 2 with (go_at_call 15; with_reducible refine kL.mono ?_; rintro e u ⟨rfl, hb⟩)
  clear kL
  have HG1 := Lib.hid (HG.out.after hb)
  have HB := Lib.hid hb
  clear hb
  go_upto_region 4 with fail
  refine region_quiet_tail (Below u.heap.size u) 9 (by kernel_rfl) (by kernel_rfl) (below_drewN (Below.refl _ _) 1) ?_
  simp only [List.take_succ_cons, List.take_zero, List.drop_succ_cons, List.drop_zero]
  refine WQ.out ?_
  refine WQ.lift (wpQ_move _ rfl rfl (.iface 28 (mP g)) rfl) ?_
  simp only [Act.put, List.setIfInBounds_toArray, List.set_cons_zero, List.set_cons_succ]
  refine WQ.lift (wpQ_move _ rfl rfl (.int .u32 (x : Int)) rfl) ?_
  simp only [Act.put, List.setIfInBounds_toArray, List.set_cons_zero, List.set_cons_succ]
  refine WQ.lift (wpQ_move _ rfl rfl (.func (.func 62) #[] #[]) rfl) ?_
  simp only [Act.put, List.setIfInBounds_toArray, List.set_cons_zero, List.set_cons_succ]
  refine WQ.lift (wpQ_move _ rfl rfl (.int .u32 (W0 : Int)) rfl) ?_
  simp only [Act.put, List.setIfInBounds_toArray, List.set_cons_zero, List.set_cons_succ]
  refine WQ.lift (wpQ_move _ rfl rfl (.int .u32 (v : Int)) rfl) ?_
  simp only [Act.put, List.setIfInBounds_toArray, List.set_cons_zero, List.set_cons_succ]
  refine WQ.lift (wpQ_fv (.tmp 22) 62 _ _ rfl rfl #[.int .u32 (W0 : Int), .int .u32 (v : Int)] rfl rfl (fun _ => by go_simp) (.int .u32 (z : Int)) (fun w' hC => (KW.out w').mono fun e w'' ⟨he, hb⟩ => ⟨he, hb ▸ hC⟩)) ?_
  simp only [Act.put, List.setIfInBounds_toArray, List.set_cons_zero, List.set_cons_succ]
  refine WQ.lift (wpQ_val rfl (.func (.method "Store") #[.iface 28 (mP g)] #[]) (fun w' hC => by go_simp)) ?_
  simp only [Act.put, List.setIfInBounds_toArray, List.set_cons_zero, List.set_cons_succ]
  refine WQ.lift (wpQ_val rfl (.func (.method "Store") #[.iface 28 (mP g)] #[]) (fun w' hC => by go_simp)) ?_
  simp only [Act.put, List.setIfInBounds_toArray, List.set_cons_zero, List.set_cons_succ]
  refine WQ.lift (wpQ_move _ rfl rfl (.iface 28 (mP g)) rfl) ?_
  simp only [Act.put, List.setIfInBounds_toArray, List.set_cons_zero, List.set_cons_succ]
  refine WQ.mk (wpQuiet_nil ?_)
  intro u2 hC
  have kS := store_any m g x z 4 u2 (HG1.out.after hC) hx hzl
  rw [hst, show erI true = 0 from rfl] at kS
  have HC := Lib.hid hC
  clear hC
  go_wp2_with (go_at_call 19; with_reducible refine kS.mono ?_; rintro e w3 ⟨rfl, hG3, hb3⟩)
  go_ret
  exact ⟨rfl, hG3, only_trans (only_below (HB.out.trans (HC.out.mono HB.out.size)) _) hb3⟩
end Go.Proofs.Ytegaiphhoinilaa.Rc
