/-
CurveSums: sums are the document's: the walk, over what package curve's calls do.
CurveTwo: two multiples together: the walk, over what package curve's calls do.
CurveOn: what it needs of the numbers: no multiple of the base lies on the axis; a point's mirror; a number moved up by the prime.
A number stored into a field of a point.
Package curve: numbers in Montgomery's form as elements of the field; what its blocks hold.
-/
import Derived.Test.YtmgmfifkldpbmaaDoorMg01
import Derived.Test.YtmgmfifkldpbmaaDoorMg03
import Derived.Test.YtmgmfifkldpbmaaDoorMg07
namespace Go.Proofs.YtmgmfifkldpbmaaDoor
open Go.RowKit

theorem part0 (X Y : Nat) (b : Bool) (W : World) : (part 24 (cpC X Y b) 0).run Tryd.prog W = .ok (.agg (nums X)) W := by kernel_rfl
theorem part8 (X Y : Nat) (b : Bool) (W : World) : (part 24 (cpC X Y b) 8).run Tryd.prog W = .ok (.agg (nums Y)) W := by kernel_rfl
theorem part16 (X Y : Nat) (b : Bool) (W : World) : (part 4 (cpC X Y b) 16).run Tryd.prog W = .ok (.bool b) W := by kernel_rfl
theorem eqIn8 (d x : Nat) (W : World) : (Op.equalIn (d + 2) 24 (.agg (nums x)) (.agg (nums x))).run Tryd.prog W = .ok true W := by
  obtain ⟨i, hi, _, hs, _⟩ := info_parts info32'
  have h := run_equalIn_tab (P := Tryd.prog) W (d + 1) 24 22 8 .u32 .u32 i (fun j => ((dg 4294967296 x j : Nat) : Int)) (fun j => ((dg 4294967296 x j : Nat) : Int)) Tryd.underlying24 Tryd.underlying22 hi hs (fun a b W => run_equalIn_int (P := Tryd.prog) (w := W) d 22 .u32 .u32 a b Tryd.underlying22)
  rw [sameTo_refl] at h
  exact h
theorem eqFields1 (d : Nat) (X Y : Nat) (b : Bool) (W : World) : (Op.eqFields (d + 2) (cpC X Y b) (cpC X Y b) (Tryd.prog.fieldsOf 35).toList).run Tryd.prog W = .ok true W := by
  cases hf : (Tryd.prog.fieldsOf 35).toList with
  | nil => exact absurd hf (by intro h; have := congrArg List.length h; revert this; decide +kernel)
  | cons f0 l =>
    have h0 : (Tryd.prog.fieldsOf 35).toList.head? = some f0 := by rw [hf]; rfl
    have h1 : (Tryd.prog.fieldsOf 35).toList.tail = l := by rw [hf]; rfl
    have e0 : ((Tryd.prog.fieldsOf 35).toList.head?).map (fun f => (f.name, f.type, f.offset)) = some ("X", 24, 0) := by kernel_rfl
    have e1 : (Tryd.prog.fieldsOf 35).toList.tail.map (fun f => (f.name, f.type, f.offset)) = [("Y", 24, 8), ("None", 4, 16)] := by kernel_rfl
    rw [h0] at e0
    rw [h1] at e1
    clear hf h0 h1
    obtain ⟨n0, t0, o0⟩ : f0.name = "X" ∧ f0.type = 24 ∧ f0.offset = 0 := by simpa using e0
    rcases l with _ | ⟨f1, _ | ⟨f2, _ | ⟨f3, l⟩⟩⟩
    · simp at e1
    · simp at e1
    · obtain ⟨⟨n1, t1, o1⟩, n2, t2, o2⟩ : (f1.name = "Y" ∧ f1.type = 24 ∧ f1.offset = 8) ∧ f2.name = "None" ∧ f2.type = 4 ∧ f2.offset = 16 := by simpa using e1
      have m0 : f0.name ≠ "_" := by rw [n0]; decide
      have m1 : f1.name ≠ "_" := by rw [n1]; decide
      have m2 : f2.name ≠ "_" := by rw [n2]; decide
      have hb := fun W => run_equalIn_bool (P := Tryd.prog) W (d + 1) 4 b b (by kernel_rfl)
      simp only [Op.eqFields, if_pos m0, if_pos m1, if_pos m2, t0, o0, t1, o1, t2, o2, Sem.run_bind, part0, part8, part16, Result.andThen_ok, eqIn8, Bool.not_true, Bool.false_eq_true, if_false, Sem.run_pure, hb, beq_self_eq_true]
    · simp at e1
theorem cpEql (X Y : Nat) (b : Bool) (W : World) : (binOp .eql 35 (.agg (cpC X Y b)) (.agg (cpC X Y b))).run Tryd.prog W = .ok (.bool true) W := by
  rw [run_eql_struct, run_equalIn_struct W 9999 35 _ _ (by kernel_rfl) (by kernel_rfl), eqFields1 9997]
  rfl
theorem cpEq (o1 o2 : Operand) (X Y : Nat) (b : Bool) (w : World) : (do eqGuard .eql 35 o1 o2 (.agg (cpC X Y b)) (.agg (cpC X Y b)); binOp .eql 35 (.agg (cpC X Y b)) (.agg (cpC X Y b)) : Sem Value).run Tryd.prog w = .ok (.bool true) w := by
  have es := fun W => cpEql X Y b W
  rw [Sem.run_bind, run_eqGuard_agg (P := Tryd.prog) w .eql 35 o1 o2 _ _ (by kernel_rfl), Result.andThen_ok]
  exact es w
theorem buildNone (W : World) : (Instr.build 35 #[(2, .bool true)]).run Tryd.prog W = .ok (.agg (cpC 0 0 true)) W := by kernel_rfl
theorem buildTwo (W : World) : (Instr.build 24 #[(0, .int .u32 2)]).run Tryd.prog W = .ok (.agg (nums 2)) W := by kernel_rfl
theorem two_lt : 2 < big := by decide +kernel
attribute [local go_sem] zero16 zero48 one16 zero17c
set_option maxRecDepth 100000 in
set_option maxHeartbeats 2000000 in
theorem sums_ok4 {G : World → Prop} {Is : World → Nat → Prop} (H : CurveOK G Is) (n m : Nat) (w : World) (hn : n < big) (hm : m < big) (hG : G w) :
    Calls Tryd.prog 4 #[.agg (nums n), .agg (nums m)] w fun e w' => e = .returned (.bool true) ∧ Below w.heap.size w w' := by
  have kFit := fun W => @fit_any4 G Is H W
  have kB := H.base_ok
  have kNew := H.new_ok
  have keep := fun w w' g => @CurveOK.keep G Is H w w' g
  have HK := Lib.hid keep
  have gkeep := fun w w' => @CurveOK.gkeep G Is H w w'
  have HG := Lib.hid gkeep
  clear gkeep
  have oA := Ec.smul_on Ec.base_on n
  have oC := Ec.smul_on Ec.base_on m
  have kMn := fun g W h => H.mult_ok W g n Ec.baseP h hn Ec.base_on
  have kMm := fun g W h => H.mult_ok W g m Ec.baseP h hm Ec.base_on
  have kP0 := refP_any
  have kF := fun W => newField_any refP W (by decide +kernel) (by decide +kernel)
  clear keep hn hm
  generalize Ec.smul n Ec.baseP = A at *
  generalize Ec.smul m Ec.baseP = C at *
  have kAB := fun g W h => H.add_ok W g A C h oA oC
  have kBA := fun g W h => H.add_ok W g C A h oC oA
  rw [Ec.plus_comm oC oA] at kBA
  have kAA := fun g W h => H.add_ok W g A A h oA oA
  have kM2 := fun g W h => H.mult_ok W g 2 A h two_lt oA
  have e2 : Ec.smul 2 A = Ec.plus A A := rfl
  rw [e2] at kM2
  have kA0 := fun g W h => H.add_ok W g A none h oA trivial
  have k0C := fun g W h => H.add_ok W g none C h trivial oC
  have e3 : Ec.plus A none = A := Ec.add_none _ _
  have e4 : Ec.plus none C = C := rfl
  rw [e3] at kA0
  rw [e4] at k0C
  have kPa := pt_any4 A
  have kPc := pt_any4 C
  have iA := ptT_is A
  have iC := ptT_is C
  have okA := ptT_ok fldOK_P refP_eq A
  have okC := ptT_ok fldOK_P refP_eq C
  obtain ⟨sok, sis, kPl⟩ := sumT_is fldOK_P refP_eq okA okC
  have sis2 := sis _ _ oA oC iA iC
  have kL := fun f W h => like_any4 _ _ refP f W fldOK_P refP_eq sok sis2 h
  clear e2 e3 e4 iA iC okA okC sok sis sis2 oA oC H
  generalize sumT refP (ptT A) (ptT C) = s at *
  generalize ptT A = ta at *
  generalize ptT C = tc at *
  generalize Ec.plus A C = V at *
  generalize Ec.plus A A = D at *
  generalize Ec.baseP = B at *
  generalize refP = p at *
  have hN : Has ((w.alloc (.cells (nums n) 24)).alloc (.cells (nums m) 24)) w.heap.size 24 (nums n) := (Has.new w _ _).alloc _
  have hM : Has ((w.alloc (.cells (nums n) 24)).alloc (.cells (nums m) 24)) (w.heap.size + 1) 24 (nums m) := Has.new' (by simp)
  have hb0 : Below w.heap.size w ((w.alloc (.cells (nums n) 24)).alloc (.cells (nums m) 24)) := ((Below.refl _ _).alloc (Nat.le_refl _) _).alloc (by simp) _
  go_enter Tryd.func4, Tryd.ntmps4
  go_wp2_with fail
  refine (kFit _ (HG.out _ _ hG hb0)).mono ?_
  rintro e w1 ⟨rfl, hx⟩
  replace hN := hN.after hx
  replace hM := hM.after hx
  replace hb0 := below_trans hb0 hx
  clear hx kFit
  go_wp2_with fail
  refine (kNew _ (HG.out _ _ hG hb0)).mono ?_
  rintro e w2 ⟨⟨g, rfl, hI⟩, hx⟩
  replace hN := hN.after hx
  replace hM := hM.after hx
  replace hb0 := below_trans hb0 hx
  clear hx kNew
  go_wp2_with fail
  refine (kP0 _).mono ?_
  rintro e w3 ⟨rfl, hx⟩
  replace hN := hN.after hx
  replace hM := hM.after hx
  replace hI := HK.out _ _ _ hI hx
  replace hb0 := below_trans hb0 hx
  clear hx kP0
  go_wp2_with fail
  refine (kF _).mono ?_
  rintro e w4 ⟨⟨f, rfl, hF⟩, hx⟩
  replace hN := hN.after hx
  replace hM := hM.after hx
  replace hI := HK.out _ _ _ hI hx
  replace hb0 := below_trans hb0 hx
  clear hx kF
  go_wp2_with fail
  refine region_facts 10 [] [.val (.pointer (some ⟨g, 0, none⟩)), .val (.agg (nums n)), .val (.agg (cpC (cpX B) (cpY B) (cpN B))), .val (.agg (cpC (cpX A) (cpY A) (cpN A))), .val (.pointer (some ⟨g, 0, none⟩)), .val (.agg (nums m)), .val (.agg (cpC (cpX B) (cpY B) (cpN B))), .val (.agg (cpC (cpX C) (cpY C) (cpN C))), .new 35 (cpC 0 0 false), .new 35 (cpC 0 0 false)]
    (by kernel_rfl) (by kernel_rfl) (fun _ _ _ _ _ h => h) ?_ ?_
  · simp only [List.take_succ_cons, List.take_zero, StepsOK]
    refine ⟨?_, ?_, ?_, ?_, ?_, ?_, ?_, ?_, ?_, ?_, trivial⟩
    · intro v w' hb hf K hKt
      simp only [putAll, Act.put, List.setIfInBounds_toArray, List.set_cons_zero, List.set_cons_succ, Nat.zero_add, Nat.reduceAdd] at hKt ⊢
      go_simp
      exact hKt _ (Below.refl _ _)
    · intro v w' hb hf K hKt
      simp only [putAll, Act.put, List.setIfInBounds_toArray, List.set_cons_zero, List.set_cons_succ, Nat.zero_add, Nat.reduceAdd] at hKt ⊢
      exact wp_load_row 24 _ rfl (w.heap.size) rfl 24 _ (0, 0) _ (hN.after hb) Tryd.underlying24 rfl (infoNum _) (hKt _ (Below.refl _ _))
    · intro v w' hb hf K hKt
      simp only [putAll, Act.put, List.setIfInBounds_toArray, List.set_cons_zero, List.set_cons_succ, Nat.zero_add, Nat.reduceAdd] at hKt ⊢
      go_simp
      refine (kB w' _ (HK.out _ _ _ hI hb)).mono ?_
      rintro e w'' ⟨rfl, hb2⟩
      exact hKt _ hb2
    · intro v w' hb hf K hKt
      have f0 : v 0 = _ := hf ⟨0, .data⟩ (by simp) rfl
      have f1 : v 1 = _ := hf ⟨1, .data⟩ (by simp) rfl
      have f2 : v 2 = _ := hf ⟨2, .data⟩ (by simp) rfl
      simp only [putAll, Act.put, List.setIfInBounds_toArray, List.set_cons_zero, List.set_cons_succ, Nat.zero_add, Nat.reduceAdd] at hKt ⊢
      rw [f0, f1, f2] at hKt ⊢
      go_simp
      refine (kMn _ w' (HK.out _ _ _ hI hb)).mono ?_
      rintro e w'' ⟨rfl, hb2⟩
      exact hKt _ hb2
    · intro v w' hb hf K hKt
      simp only [putAll, Act.put, List.setIfInBounds_toArray, List.set_cons_zero, List.set_cons_succ, Nat.zero_add, Nat.reduceAdd] at hKt ⊢
      go_simp
      exact hKt _ (Below.refl _ _)
    · intro v w' hb hf K hKt
      simp only [putAll, Act.put, List.setIfInBounds_toArray, List.set_cons_zero, List.set_cons_succ, Nat.zero_add, Nat.reduceAdd] at hKt ⊢
      exact wp_load_row 24 _ rfl (w.heap.size + 1) rfl 24 _ (0, 0) _ (hM.after hb) Tryd.underlying24 rfl (infoNum _) (hKt _ (Below.refl _ _))
    · intro v w' hb hf K hKt
      simp only [putAll, Act.put, List.setIfInBounds_toArray, List.set_cons_zero, List.set_cons_succ, Nat.zero_add, Nat.reduceAdd] at hKt ⊢
      go_simp
      refine (kB w' _ (HK.out _ _ _ hI hb)).mono ?_
      rintro e w'' ⟨rfl, hb2⟩
      exact hKt _ hb2
    · intro v w' hb hf K hKt
      have f4 : v 4 = _ := hf ⟨4, .data⟩ (by simp) rfl
      have f5 : v 5 = _ := hf ⟨5, .data⟩ (by simp) rfl
      have f6 : v 6 = _ := hf ⟨6, .data⟩ (by simp) rfl
      simp only [putAll, Act.put, List.setIfInBounds_toArray, List.set_cons_zero, List.set_cons_succ, Nat.zero_add, Nat.reduceAdd] at hKt ⊢
      rw [f4, f5, f6] at hKt ⊢
      go_simp
      refine (kMm _ w' (HK.out _ _ _ hI hb)).mono ?_
      rintro e w'' ⟨rfl, hb2⟩
      exact hKt _ hb2
    · exact ⟨rfl, rfl, zeroVC⟩
    · exact ⟨rfl, rfl, zeroVC⟩
  intro v w5 hb hF hD
  have f0 : v 0 = _ := hF 0 (by decide)
  have f1 : v 1 = _ := hF 1 (by decide)
  have f2 : v 2 = _ := hF 2 (by decide)
  have f3 : v 3 = _ := hF 3 (by decide)
  have f4 : v 4 = _ := hF 4 (by decide)
  have f5 : v 5 = _ := hF 5 (by decide)
  have f6 : v 6 = _ := hF 6 (by decide)
  have f7 : v 7 = _ := hF 7 (by decide)
  obtain ⟨ga, f8, hg8, hl8, hz8⟩ := hF 8 (by decide)
  replace hz8 : Has w5 ga 35 (cpC 0 0 false) := hz8
  obtain ⟨gb, f9, hg9, hl9, hz9⟩ := hF 9 (by decide)
  replace hz9 : Has w5 gb 35 (cpC 0 0 false) := hz9
  have hne8_9 : ga ≠ gb := fun h => hD 8 9 (by decide) (by decide) (by decide) rfl rfl (by rw [f8, f9, h])
  simp only [List.take_succ_cons, List.take_zero, List.drop_succ_cons, List.drop_zero, putAll, Act.put, List.setIfInBounds_toArray, List.set_cons_zero, List.set_cons_succ, Nat.zero_add, Nat.reduceAdd]
  rw [f0, f1, f2, f3, f4, f5, f6, f7, f8, f9]
  clear hF hD f0 f1 f2 f3 f4 f5 f6 f7 f8 f9
  have hs8 := hz8
  have hs9 := (hz9).farRow (k := ga) (by omega) (cpC (cpX A) (cpY A) (cpN A))
  have hBW := below_setRow (below_setRow (hb) (g := ga) hg8 (cpC (cpX A) (cpY A) (cpN A))) (g := gb) hg9 (cpC (cpX C) (cpY C) (cpN C))
  have hA := ((hz8).setRow (cpC (cpX A) (cpY A) (cpN A))).farRow (k := gb) (by omega) (cpC (cpX C) (cpY C) (cpN C))
  have hC0 := ((hz9).farRow (k := ga) (by omega) (cpC (cpX A) (cpY A) (cpN A))).setRow (cpC (cpX C) (cpY C) (cpN C))
  replace hM := hM.after hBW
  replace hN := hN.after hBW
  replace hI := HK.out _ _ _ hI hBW
  replace hF := hF.after hBW
  replace hb0 := below_trans hb0 hBW
  go_wp2_with (first | refine wpList_store_row rfl 35 _ _ rfl ga _ rfl rfl 35 (cpC 0 0 false) hs8 (infoCp _ _ _) (by simp only [cpC_size]) (cpC_one _ _ _) ?_ | (refine wpList_store_row rfl 35 _ _ rfl gb _ rfl rfl 35 (cpC 0 0 false) hs9 (infoCp _ _ _) (by simp only [cpC_size]) (cpC_one _ _ _) ?_; generalize hWW : World.setRow _ gb _ = U5 at *; clear hWW) | refine wpList_parts rfl 35 _ rfl #[(2, .bool true)] (by simp only [List.map_toArray, List.map_cons, List.map_nil]; rfl) (.agg (cpC 0 0 true)) buildNone ?_ | (have hz := put_new U5 35 (cpC 0 0 false) (cpC 0 0 true); replace hA := hA.after hz.2; replace hC0 := hC0.after hz.2; replace hN := hN.after hz.2; replace hM := hM.after hz.2; replace hF := hF.after hz.2; replace hI := HK.out _ _ _ hI hz.2; replace hb0 := below_trans hb0 hz.2; have hO := hz.1; clear hz; refine wpList_store_row rfl 35 _ _ rfl U5.heap.size _ rfl rfl 35 (cpC 0 0 false) (Has.new' rfl) (infoCp _ _ _) (by simp only [cpC_size]) (cpC_one _ _ _) ?_; generalize hWW2 : World.setRow _ U5.heap.size _ = U6 at *; clear hWW2))
  clear hBW hb hs8 hz8 hg8 hl8 hs9 hz9 hg9 hl9
  replace kL := kL f
  replace kPl := kPl f
  refine region_quiet_tail (Below U6.heap.size U6) 50 (by kernel_rfl) (by kernel_rfl) (below_drewN (Below.refl _ _) 1) ?_
  simp only [List.take_succ_cons, List.take_zero, List.drop_succ_cons, List.drop_zero]
  refine wpQ_move _ rfl rfl (.pointer (some ⟨f, 0, none⟩)) rfl ?_
  simp only [Act.put, List.setIfInBounds_toArray, List.set_cons_zero, List.set_cons_succ]
  refine wpQ_move _ rfl rfl (.pointer (some ⟨g, 0, none⟩)) rfl ?_
  simp only [Act.put, List.setIfInBounds_toArray, List.set_cons_zero, List.set_cons_succ]
  refine wpQ_has 35 _ rfl _ rfl rfl 35 _ (fun w' hC => hA.after hC) _ Tryd.underlying35 rfl (infoCp _ _ _) ?_
  simp only [Act.put, List.setIfInBounds_toArray, List.set_cons_zero, List.set_cons_succ]
  refine wpQ_has 35 _ rfl _ rfl rfl 35 _ (fun w' hC => hC0.after hC) _ Tryd.underlying35 rfl (infoCp _ _ _) ?_
  simp only [Act.put, List.setIfInBounds_toArray, List.set_cons_zero, List.set_cons_succ]
  refine wpQ_fn 20 _ _ rfl rfl #[.pointer (some ⟨g, 0, none⟩), .agg (cpC (cpX A) (cpY A) (cpN A)), .agg (cpC (cpX C) (cpY C) (cpN C))] rfl (fun _ => by go_simp) (.agg (cpC (cpX V) (cpY V) (cpN V))) (fun w' hC => (kAB _ w' (HK.out _ _ _ hI hC)).mono fun e w'' ⟨he, hb⟩ => ⟨he, below_class hC hb⟩) ?_
  simp only [Act.put, List.setIfInBounds_toArray, List.set_cons_zero, List.set_cons_succ]
  refine wpQ_move _ rfl rfl (.pointer (some ⟨f, 0, none⟩)) rfl ?_
  simp only [Act.put, List.setIfInBounds_toArray, List.set_cons_zero, List.set_cons_succ]
  refine wpQ_has 35 _ rfl _ rfl rfl 35 _ (fun w' hC => hA.after hC) _ Tryd.underlying35 rfl (infoCp _ _ _) ?_
  simp only [Act.put, List.setIfInBounds_toArray, List.set_cons_zero, List.set_cons_succ]
  refine wpQ_fn 21 _ _ rfl rfl #[.agg (cpC (cpX A) (cpY A) (cpN A))] rfl (fun _ => by go_simp) (.agg (ptC ta.x ta.y ta.z)) (fun w' hC => (kPa w').mono fun e w'' ⟨he, hb⟩ => ⟨he, below_class hC hb⟩) ?_
  simp only [Act.put, List.setIfInBounds_toArray, List.set_cons_zero, List.set_cons_succ]
  refine wpQ_has 35 _ rfl _ rfl rfl 35 _ (fun w' hC => hC0.after hC) _ Tryd.underlying35 rfl (infoCp _ _ _) ?_
  simp only [Act.put, List.setIfInBounds_toArray, List.set_cons_zero, List.set_cons_succ]
  refine wpQ_fn 21 _ _ rfl rfl #[.agg (cpC (cpX C) (cpY C) (cpN C))] rfl (fun _ => by go_simp) (.agg (ptC tc.x tc.y tc.z)) (fun w' hC => (kPc w').mono fun e w'' ⟨he, hb⟩ => ⟨he, below_class hC hb⟩) ?_
  simp only [Act.put, List.setIfInBounds_toArray, List.set_cons_zero, List.set_cons_succ]
  refine wpQ_fn 19 _ _ rfl rfl #[.pointer (some ⟨f, 0, none⟩), .agg (ptC ta.x ta.y ta.z), .agg (ptC tc.x tc.y tc.z)] rfl (fun _ => by go_simp) (.agg (ptC s.x s.y s.z)) (fun w' hC => (kPl w' (hF.after hC)).mono fun e w'' ⟨he, hb⟩ => ⟨he, below_class hC hb⟩) ?_
  simp only [Act.put, List.setIfInBounds_toArray, List.set_cons_zero, List.set_cons_succ]
  refine wpQ_fn 16 _ _ rfl rfl #[.pointer (some ⟨f, 0, none⟩), .agg (cpC (cpX V) (cpY V) (cpN V)), .agg (ptC s.x s.y s.z)] rfl (fun _ => by go_simp) (.bool true) (fun w' hC => (kL w' (hF.after hC)).mono fun e w'' ⟨he, hb⟩ => ⟨he, below_class hC hb⟩) ?_
  simp only [Act.put, List.setIfInBounds_toArray, List.set_cons_zero, List.set_cons_succ]
  refine wpQ_move _ rfl rfl (.bool true) rfl ?_
  simp only [Act.put, List.setIfInBounds_toArray, List.set_cons_zero, List.set_cons_succ]
  refine wpQ_move _ rfl rfl (.pointer (some ⟨g, 0, none⟩)) rfl ?_
  simp only [Act.put, List.setIfInBounds_toArray, List.set_cons_zero, List.set_cons_succ]
  refine wpQ_has 35 _ rfl _ rfl rfl 35 _ (fun w' hC => hA.after hC) _ Tryd.underlying35 rfl (infoCp _ _ _) ?_
  simp only [Act.put, List.setIfInBounds_toArray, List.set_cons_zero, List.set_cons_succ]
  refine wpQ_has 35 _ rfl _ rfl rfl 35 _ (fun w' hC => hA.after hC) _ Tryd.underlying35 rfl (infoCp _ _ _) ?_
  simp only [Act.put, List.setIfInBounds_toArray, List.set_cons_zero, List.set_cons_succ]
  refine wpQ_fn 20 _ _ rfl rfl #[.pointer (some ⟨g, 0, none⟩), .agg (cpC (cpX A) (cpY A) (cpN A)), .agg (cpC (cpX A) (cpY A) (cpN A))] rfl (fun _ => by go_simp) (.agg (cpC (cpX D) (cpY D) (cpN D))) (fun w' hC => (kAA _ w' (HK.out _ _ _ hI hC)).mono fun e w'' ⟨he, hb⟩ => ⟨he, below_class hC hb⟩) ?_
  simp only [Act.put, List.setIfInBounds_toArray, List.set_cons_zero, List.set_cons_succ]
  refine wpQ_move _ rfl rfl (.pointer (some ⟨g, 0, none⟩)) rfl ?_
  simp only [Act.put, List.setIfInBounds_toArray, List.set_cons_zero, List.set_cons_succ]
  refine wpQ_parts4 24 _ rfl rfl #[(0, .int .u32 2)] (by simp only [List.map_toArray, List.map_cons, List.map_nil]; rfl) (.agg (nums 2)) (fun w' _ => buildTwo w') ?_
  simp only [Act.put, List.setIfInBounds_toArray, List.set_cons_zero, List.set_cons_succ]
  refine wpQ_has 35 _ rfl _ rfl rfl 35 _ (fun w' hC => hA.after hC) _ Tryd.underlying35 rfl (infoCp _ _ _) ?_
  simp only [Act.put, List.setIfInBounds_toArray, List.set_cons_zero, List.set_cons_succ]
  refine wpQ_fn 11 _ _ rfl rfl #[.pointer (some ⟨g, 0, none⟩), .agg (nums 2), .agg (cpC (cpX A) (cpY A) (cpN A))] rfl (fun _ => by go_simp) (.agg (cpC (cpX D) (cpY D) (cpN D))) (fun w' hC => (kM2 _ w' (HK.out _ _ _ hI hC)).mono fun e w'' ⟨he, hb⟩ => ⟨he, below_class hC hb⟩) ?_
  simp only [Act.put, List.setIfInBounds_toArray, List.set_cons_zero, List.set_cons_succ]
  refine wpQ_bin _ _ _ _ _ rfl rfl (.agg (cpC (cpX D) (cpY D) (cpN D))) (.agg (cpC (cpX D) (cpY D) (cpN D))) rfl rfl (.bool true) (fun w' _ => cpEq _ _ _ _ _ w') ?_
  simp only [Act.put, List.setIfInBounds_toArray, List.set_cons_zero, List.set_cons_succ]
  refine wpQ_pick _ _ _ rfl rfl true rfl (.bool true) rfl ?_
  simp only [Act.put, List.setIfInBounds_toArray, List.set_cons_zero, List.set_cons_succ]
  refine wpQ_move _ rfl rfl (.bool true) rfl ?_
  simp only [Act.put, List.setIfInBounds_toArray, List.set_cons_zero, List.set_cons_succ]
  refine wpQ_move _ rfl rfl (.pointer (some ⟨g, 0, none⟩)) rfl ?_
  simp only [Act.put, List.setIfInBounds_toArray, List.set_cons_zero, List.set_cons_succ]
  refine wpQ_has 35 _ rfl _ rfl rfl 35 _ (fun w' hC => hA.after hC) _ Tryd.underlying35 rfl (infoCp _ _ _) ?_
  simp only [Act.put, List.setIfInBounds_toArray, List.set_cons_zero, List.set_cons_succ]
  refine wpQ_has 35 _ rfl _ rfl rfl 35 _ (fun w' hC => hO.after hC) _ Tryd.underlying35 rfl (infoCp _ _ _) ?_
  simp only [Act.put, List.setIfInBounds_toArray, List.set_cons_zero, List.set_cons_succ]
  refine wpQ_fn 20 _ _ rfl rfl #[.pointer (some ⟨g, 0, none⟩), .agg (cpC (cpX A) (cpY A) (cpN A)), .agg (cpC 0 0 true)] rfl (fun _ => by go_simp) (.agg (cpC (cpX A) (cpY A) (cpN A))) (fun w' hC => (kA0 _ w' (HK.out _ _ _ hI hC)).mono fun e w'' ⟨he, hb⟩ => ⟨he, below_class hC hb⟩) ?_
  simp only [Act.put, List.setIfInBounds_toArray, List.set_cons_zero, List.set_cons_succ]
  refine wpQ_has 35 _ rfl _ rfl rfl 35 _ (fun w' hC => hA.after hC) _ Tryd.underlying35 rfl (infoCp _ _ _) ?_
  simp only [Act.put, List.setIfInBounds_toArray, List.set_cons_zero, List.set_cons_succ]
  refine wpQ_bin _ _ _ _ _ rfl rfl (.agg (cpC (cpX A) (cpY A) (cpN A))) (.agg (cpC (cpX A) (cpY A) (cpN A))) rfl rfl (.bool true) (fun w' _ => cpEq _ _ _ _ _ w') ?_
  simp only [Act.put, List.setIfInBounds_toArray, List.set_cons_zero, List.set_cons_succ]
  refine wpQ_pick _ _ _ rfl rfl true rfl (.bool true) rfl ?_
  simp only [Act.put, List.setIfInBounds_toArray, List.set_cons_zero, List.set_cons_succ]
  refine wpQ_move _ rfl rfl (.bool true) rfl ?_
  simp only [Act.put, List.setIfInBounds_toArray, List.set_cons_zero, List.set_cons_succ]
  refine wpQ_move _ rfl rfl (.pointer (some ⟨g, 0, none⟩)) rfl ?_
  simp only [Act.put, List.setIfInBounds_toArray, List.set_cons_zero, List.set_cons_succ]
  refine wpQ_has 35 _ rfl _ rfl rfl 35 _ (fun w' hC => hO.after hC) _ Tryd.underlying35 rfl (infoCp _ _ _) ?_
  simp only [Act.put, List.setIfInBounds_toArray, List.set_cons_zero, List.set_cons_succ]
  refine wpQ_has 35 _ rfl _ rfl rfl 35 _ (fun w' hC => hC0.after hC) _ Tryd.underlying35 rfl (infoCp _ _ _) ?_
  simp only [Act.put, List.setIfInBounds_toArray, List.set_cons_zero, List.set_cons_succ]
  refine wpQ_fn 20 _ _ rfl rfl #[.pointer (some ⟨g, 0, none⟩), .agg (cpC 0 0 true), .agg (cpC (cpX C) (cpY C) (cpN C))] rfl (fun _ => by go_simp) (.agg (cpC (cpX C) (cpY C) (cpN C))) (fun w' hC => (k0C _ w' (HK.out _ _ _ hI hC)).mono fun e w'' ⟨he, hb⟩ => ⟨he, below_class hC hb⟩) ?_
  simp only [Act.put, List.setIfInBounds_toArray, List.set_cons_zero, List.set_cons_succ]
  refine wpQ_has 35 _ rfl _ rfl rfl 35 _ (fun w' hC => hC0.after hC) _ Tryd.underlying35 rfl (infoCp _ _ _) ?_
  simp only [Act.put, List.setIfInBounds_toArray, List.set_cons_zero, List.set_cons_succ]
  refine wpQ_bin _ _ _ _ _ rfl rfl (.agg (cpC (cpX C) (cpY C) (cpN C))) (.agg (cpC (cpX C) (cpY C) (cpN C))) rfl rfl (.bool true) (fun w' _ => cpEq _ _ _ _ _ w') ?_
  simp only [Act.put, List.setIfInBounds_toArray, List.set_cons_zero, List.set_cons_succ]
  refine wpQ_pick _ _ _ rfl rfl true rfl (.bool true) rfl ?_
  simp only [Act.put, List.setIfInBounds_toArray, List.set_cons_zero, List.set_cons_succ]
  refine wpQ_move _ rfl rfl (.bool true) rfl ?_
  simp only [Act.put, List.setIfInBounds_toArray, List.set_cons_zero, List.set_cons_succ]
  refine wpQ_move _ rfl rfl (.pointer (some ⟨g, 0, none⟩)) rfl ?_
  simp only [Act.put, List.setIfInBounds_toArray, List.set_cons_zero, List.set_cons_succ]
  refine wpQ_has 35 _ rfl _ rfl rfl 35 _ (fun w' hC => hA.after hC) _ Tryd.underlying35 rfl (infoCp _ _ _) ?_
  simp only [Act.put, List.setIfInBounds_toArray, List.set_cons_zero, List.set_cons_succ]
  refine wpQ_has 35 _ rfl _ rfl rfl 35 _ (fun w' hC => hC0.after hC) _ Tryd.underlying35 rfl (infoCp _ _ _) ?_
  simp only [Act.put, List.setIfInBounds_toArray, List.set_cons_zero, List.set_cons_succ]
  refine wpQ_fn 20 _ _ rfl rfl #[.pointer (some ⟨g, 0, none⟩), .agg (cpC (cpX A) (cpY A) (cpN A)), .agg (cpC (cpX C) (cpY C) (cpN C))] rfl (fun _ => by go_simp) (.agg (cpC (cpX V) (cpY V) (cpN V))) (fun w' hC => (kAB _ w' (HK.out _ _ _ hI hC)).mono fun e w'' ⟨he, hb⟩ => ⟨he, below_class hC hb⟩) ?_
  simp only [Act.put, List.setIfInBounds_toArray, List.set_cons_zero, List.set_cons_succ]
  refine wpQ_move _ rfl rfl (.pointer (some ⟨g, 0, none⟩)) rfl ?_
  simp only [Act.put, List.setIfInBounds_toArray, List.set_cons_zero, List.set_cons_succ]
  refine wpQ_has 35 _ rfl _ rfl rfl 35 _ (fun w' hC => hC0.after hC) _ Tryd.underlying35 rfl (infoCp _ _ _) ?_
  simp only [Act.put, List.setIfInBounds_toArray, List.set_cons_zero, List.set_cons_succ]
  refine wpQ_has 35 _ rfl _ rfl rfl 35 _ (fun w' hC => hA.after hC) _ Tryd.underlying35 rfl (infoCp _ _ _) ?_
  simp only [Act.put, List.setIfInBounds_toArray, List.set_cons_zero, List.set_cons_succ]
  refine wpQ_fn 20 _ _ rfl rfl #[.pointer (some ⟨g, 0, none⟩), .agg (cpC (cpX C) (cpY C) (cpN C)), .agg (cpC (cpX A) (cpY A) (cpN A))] rfl (fun _ => by go_simp) (.agg (cpC (cpX V) (cpY V) (cpN V))) (fun w' hC => (kBA _ w' (HK.out _ _ _ hI hC)).mono fun e w'' ⟨he, hb⟩ => ⟨he, below_class hC hb⟩) ?_
  simp only [Act.put, List.setIfInBounds_toArray, List.set_cons_zero, List.set_cons_succ]
  refine wpQ_bin _ _ _ _ _ rfl rfl (.agg (cpC (cpX V) (cpY V) (cpN V))) (.agg (cpC (cpX V) (cpY V) (cpN V))) rfl rfl (.bool true) (fun w' _ => cpEq _ _ _ _ _ w') ?_
  simp only [Act.put, List.setIfInBounds_toArray, List.set_cons_zero, List.set_cons_succ]
  refine wpQ_pick _ _ _ rfl rfl true rfl (.bool true) rfl ?_
  simp only [Act.put, List.setIfInBounds_toArray, List.set_cons_zero, List.set_cons_succ]
  refine wpQuiet_nil ?_
  intro w9 hC
  replace hb0 := below_trans hb0 hC
  clear hC
  go_wp2_with fail
  go_ret
  exact ⟨rfl, hb0⟩
end Go.Proofs.YtmgmfifkldpbmaaDoor
namespace Go.Proofs.YtmgmfifkldpbmaaDoor
open Go.RowKit

theorem wpQ_field {P : Program} {ops : Array Oper} {rest : List Oper} {o : Oper} {a : Act} {C : World → Prop} {L : Act → Prop} (t : TypeId) (x : Operand) (i : Nat) (ho : o.op = .field t x i) (hw : Region.wanted o (yielded ops a.tmps) = true) (X : Value) (hx : a.eval x = X) (v : Value)
    (hrun : ∀ w, C w → (Instr.field t X i).run P w = .ok v w) (h : wpQuiet P ops C L rest (a.put o.dst v)) : wpQuiet P ops C L (o :: rest) a :=
  wpQ_val hw v (fun w hC => by
    have e := hrun w hC
    simp only [execOp, ho, hx]
    rw [Sem.run_bind, e]
    rfl) h
def kA (k : Nat) : Array Value := tab 8 fun j => .int .u32 ((if j = 0 then k else if j = 1 then 1 else 0 : Nat) : Int)
theorem buildK (k : Nat) (W : World) : (Instr.build 24 #[(0, .int .u32 (k : Int)), (1, .int .u32 1)]).run Tryd.prog W = .ok (.agg (kA k)) W := by kernel_rfl
theorem kA_eq {k : Nat} (hk : k < 4294967296) : kA k = nums (k + 4294967296) := tab_ext _ _ _ fun j hj => by
  unfold dgs dg
  congr 2
  rcases (show j = 0 ∨ j = 1 ∨ 2 ≤ j by omega) with rfl | rfl | h
  · simp; omega
  · simp; omega
  · rw [if_neg (by omega), if_neg (by omega)]
    have : (k + 4294967296) / 4294967296 ^ j = 0 := by
      refine Nat.div_eq_of_lt (Nat.lt_of_lt_of_le (show k + 4294967296 < 4294967296 ^ 2 by omega) (Nat.pow_le_pow_right (by decide) h))
    rw [this]
theorem k_lt {k : Nat} (hk : k < 4294967296) : k + 4294967296 < big := Nat.lt_of_lt_of_le (show k + 4294967296 < 4294967296 ^ 2 by omega) (Nat.pow_le_pow_right (by decide) (by decide))
attribute [local go_sem] zero17c
set_option maxRecDepth 100000 in
set_option maxHeartbeats 2000000 in
theorem two_ok4 {G : World → Prop} {Is : World → Nat → Prop} (H : CurveOK G Is) (n m k : Nat) (w : World) (hn : n < big) (hm : m < big) (hk : k < 4294967296) (hG : G w) :
    Calls Tryd.prog 6 #[.agg (nums n), .agg (nums m), .int .u32 (k : Int)] w fun e w' => e = .returned (.bool true) ∧ Below w.heap.size w w' := by
  have kFit := fun W => @fit_any4 G Is H W
  have kB := H.base_ok
  have kO := H.order_ok
  have kNew := H.new_ok
  have keep := fun w w' g => @CurveOK.keep G Is H w w' g
  have HK := Lib.hid keep
  have gkeep := fun w w' => @CurveOK.gkeep G Is H w w'
  have HG := Lib.hid gkeep
  clear gkeep
  have hbk := buildK k
  rw [kA_eq hk] at hbk
  have hkl := k_lt hk
  generalize k + 4294967296 = kk at *
  have oA : Ec.OnP (Ec.smul kk Ec.baseP) := Ec.smul_on Ec.base_on kk
  have kMk := fun g W h => H.mult_ok W g kk Ec.baseP h hkl Ec.base_on
  have hOa := Ec.order_mult kk
  generalize Ec.smul kk Ec.baseP = A at *
  have kT := fun g W h => H.two_ok W g n m Ec.baseP A h hn hm Ec.base_on oA
  have kT2 := fun g W h => H.two_ok W g m n A Ec.baseP h hm hn oA Ec.base_on
  have kMn := fun g W h => H.mult_ok W g n Ec.baseP h hn Ec.base_on
  have kMa := fun g W h => H.mult_ok W g m A h hm oA
  have kOa := fun g W h => H.mult_ok W g Ec.ordN A h ordN_lt oA
  rw [hOa] at kOa
  have oR := Ec.smul_on Ec.base_on n
  have oQ := Ec.smul_on oA m
  rw [Ec.plus_comm oQ oR] at kT2
  generalize Ec.smul n Ec.baseP = R at *
  generalize Ec.smul m A = Q at *
  have kAdd := fun g W h => H.add_ok W g R Q h oR oQ
  have kn1 := fun W => H.mult_nil W n A hn
  have kn2 := fun W => H.on_nil W A
  have kn3 := fun W => H.add_nil W A A
  clear keep hn hm hk hkl oA oR oQ hOa H
  generalize Ec.plus R Q = V at *
  generalize Ec.baseP = B at *
  generalize Ec.ordN = od at *
  have hN : Has ((w.alloc (.cells (nums n) 24)).alloc (.cells (nums m) 24)) w.heap.size 24 (nums n) := (Has.new w _ _).alloc _
  have hM : Has ((w.alloc (.cells (nums n) 24)).alloc (.cells (nums m) 24)) (w.heap.size + 1) 24 (nums m) := Has.new' (by simp)
  have hb0 : Below w.heap.size w ((w.alloc (.cells (nums n) 24)).alloc (.cells (nums m) 24)) := ((Below.refl _ _).alloc (Nat.le_refl _) _).alloc (by simp) _
  go_enter Tryd.func6, Tryd.ntmps6
  go_wp2_with fail
  refine (kFit _ (HG.out _ _ hG hb0)).mono ?_
  rintro e w1 ⟨rfl, hx⟩
  replace hN := hN.after hx
  replace hM := hM.after hx
  replace hb0 := below_trans hb0 hx
  clear hx kFit
  go_wp2_with fail
  refine (kNew _ (HG.out _ _ hG hb0)).mono ?_
  rintro e w2 ⟨⟨g, rfl, hI⟩, hx⟩
  replace hN := hN.after hx
  replace hM := hM.after hx
  replace hb0 := below_trans hb0 hx
  clear hx kNew
  go_wp2_with (first | refine wpList_parts rfl 24 _ rfl #[(0, .int .u32 (k : Int)), (1, .int .u32 1)] (by simp only [List.map_toArray, List.map_cons, List.map_nil]; rfl) (.agg (nums kk)) hbk ?_)
  refine (kB _ _ hI).mono ?_
  rintro e w3 ⟨rfl, hx⟩
  replace hN := hN.after hx
  replace hM := hM.after hx
  replace hI := HK.out _ _ _ hI hx
  replace hb0 := below_trans hb0 hx
  clear hx hbk
  go_wp2_with fail
  refine (kMk _ _ hI).mono ?_
  rintro e w4 ⟨rfl, hx⟩
  have hz := put_new w4 35 (cpC 0 0 false) (cpC (cpX A) (cpY A) (cpN A))
  replace hN := (hN.after hx).after hz.2
  replace hM := (hM.after hx).after hz.2
  replace hI := HK.out _ _ _ (HK.out _ _ _ hI hx) hz.2
  replace hb0 := below_trans (below_trans hb0 hx) hz.2
  have hA := hz.1
  clear hx hz kMk
  go_wp2_with (first | (refine wpList_store_row rfl 35 _ _ rfl w4.heap.size _ rfl rfl 35 (cpC 0 0 false) (Has.new' rfl) (infoCp _ _ _) (by simp only [cpC_size]) (cpC_one _ _ _) ?_; generalize hWW : World.setRow _ _ _ = U4 at *; clear hWW))
  refine region_facts 7 [] [.val (.pointer (some ⟨g, 0, none⟩)), .val (.agg (nums n)), .val (.agg (cpC (cpX B) (cpY B) (cpN B))), .val (.agg (nums m)), .val (.agg (cpC (cpX A) (cpY A) (cpN A))), .val (.agg (cpC (cpX V) (cpY V) (cpN V))), .new 35 (cpC 0 0 false)]
    (by kernel_rfl) (by kernel_rfl) (fun _ _ _ _ _ h => h) ?_ ?_
  · simp only [List.take_succ_cons, List.take_zero, StepsOK]
    refine ⟨?_, ?_, ?_, ?_, ?_, ?_, ?_, trivial⟩
    · intro v w' hb hf K hKt
      simp only [putAll, Act.put, List.setIfInBounds_toArray, List.set_cons_zero, List.set_cons_succ, Nat.zero_add, Nat.reduceAdd] at hKt ⊢
      go_simp
      exact hKt _ (Below.refl _ _)
    · intro v w' hb hf K hKt
      simp only [putAll, Act.put, List.setIfInBounds_toArray, List.set_cons_zero, List.set_cons_succ, Nat.zero_add, Nat.reduceAdd] at hKt ⊢
      exact wp_load_row 24 _ rfl (w.heap.size) rfl 24 _ (0, 0) _ (hN.after hb) Tryd.underlying24 rfl (infoNum _) (hKt _ (Below.refl _ _))
    · intro v w' hb hf K hKt
      simp only [putAll, Act.put, List.setIfInBounds_toArray, List.set_cons_zero, List.set_cons_succ, Nat.zero_add, Nat.reduceAdd] at hKt ⊢
      go_simp
      refine (kB w' _ (HK.out _ _ _ hI hb)).mono ?_
      rintro e w'' ⟨rfl, hb2⟩
      exact hKt _ hb2
    · intro v w' hb hf K hKt
      simp only [putAll, Act.put, List.setIfInBounds_toArray, List.set_cons_zero, List.set_cons_succ, Nat.zero_add, Nat.reduceAdd] at hKt ⊢
      exact wp_load_row 24 _ rfl (w.heap.size + 1) rfl 24 _ (0, 0) _ (hM.after hb) Tryd.underlying24 rfl (infoNum _) (hKt _ (Below.refl _ _))
    · intro v w' hb hf K hKt
      simp only [putAll, Act.put, List.setIfInBounds_toArray, List.set_cons_zero, List.set_cons_succ, Nat.zero_add, Nat.reduceAdd] at hKt ⊢
      exact wp_load_row 35 _ rfl (w4.heap.size) rfl 35 _ (0, 0) _ (hA.after hb) Tryd.underlying35 rfl (infoCp _ _ _) (hKt _ (Below.refl _ _))
    · intro v w' hb hf K hKt
      have f0 : v 0 = _ := hf ⟨0, .data⟩ (by simp) rfl
      have f1 : v 1 = _ := hf ⟨1, .data⟩ (by simp) rfl
      have f2 : v 2 = _ := hf ⟨2, .data⟩ (by simp) rfl
      have f3 : v 3 = _ := hf ⟨3, .data⟩ (by simp) rfl
      have f4 : v 4 = _ := hf ⟨4, .data⟩ (by simp) rfl
      simp only [putAll, Act.put, List.setIfInBounds_toArray, List.set_cons_zero, List.set_cons_succ, Nat.zero_add, Nat.reduceAdd] at hKt ⊢
      rw [f0, f1, f2, f3, f4] at hKt ⊢
      go_simp
      refine (kT _ w' (HK.out _ _ _ hI hb)).mono ?_
      rintro e w'' ⟨rfl, hb2⟩
      exact hKt _ hb2
    · exact ⟨rfl, rfl, zeroVC⟩
  intro v w5 hb hF hD
  have f0 : v 0 = _ := hF 0 (by decide)
  have f1 : v 1 = _ := hF 1 (by decide)
  have f2 : v 2 = _ := hF 2 (by decide)
  have f3 : v 3 = _ := hF 3 (by decide)
  have f4 : v 4 = _ := hF 4 (by decide)
  have f5 : v 5 = _ := hF 5 (by decide)
  obtain ⟨gs, f6, hg6, hl6, hz6⟩ := hF 6 (by decide)
  replace hz6 : Has w5 gs 35 (cpC 0 0 false) := hz6
  simp only [List.take_succ_cons, List.take_zero, List.drop_succ_cons, List.drop_zero, putAll, Act.put, List.setIfInBounds_toArray, List.set_cons_zero, List.set_cons_succ, Nat.zero_add, Nat.reduceAdd]
  rw [f0, f1, f2, f3, f4, f5, f6]
  clear hF hD f0 f1 f2 f3 f4 f5 f6
  have hs6 := hz6
  have hBW := below_setRow (hb) (g := gs) hg6 (cpC (cpX V) (cpY V) (cpN V))
  have hS := (hz6).setRow (cpC (cpX V) (cpY V) (cpN V))
  replace hA := hA.after hBW
  replace hM := hM.after hBW
  replace hN := hN.after hBW
  replace hI := HK.out _ _ _ hI hBW
  replace hb0 := below_trans hb0 hBW
  go_wp2_with (first | (refine wpList_store_row rfl 35 _ _ rfl gs _ rfl rfl 35 (cpC 0 0 false) hs6 (infoCp _ _ _) (by simp only [cpC_size]) (cpC_one _ _ _) ?_; generalize hWW : World.setRow _ gs _ = U5 at *; clear hWW))
  clear hBW hb hs6 hz6 hg6 hl6
  refine region_quiet_tail (Below U5.heap.size U5) 49 (by kernel_rfl) (by kernel_rfl) (below_drewN (Below.refl _ _) 1) ?_
  simp only [List.take_succ_cons, List.take_zero, List.drop_succ_cons, List.drop_zero]
  refine wpQ_has 35 _ rfl _ rfl rfl 35 _ (fun w' hC => hS.after hC) _ Tryd.underlying35 rfl (infoCp _ _ _) ?_
  simp only [Act.put, List.setIfInBounds_toArray, List.set_cons_zero, List.set_cons_succ]
  refine wpQ_move _ rfl rfl (.pointer (some ⟨g, 0, none⟩)) rfl ?_
  simp only [Act.put, List.setIfInBounds_toArray, List.set_cons_zero, List.set_cons_succ]
  refine wpQ_move _ rfl rfl (.pointer (some ⟨g, 0, none⟩)) rfl ?_
  simp only [Act.put, List.setIfInBounds_toArray, List.set_cons_zero, List.set_cons_succ]
  refine wpQ_has 24 _ rfl _ rfl rfl 24 _ (fun w' hC => hN.after hC) _ Tryd.underlying24 rfl (infoNum _) ?_
  simp only [Act.put, List.setIfInBounds_toArray, List.set_cons_zero, List.set_cons_succ]
  refine wpQ_fn 12 _ _ rfl rfl #[] rfl (fun _ => by go_simp) (.agg (cpC (cpX B) (cpY B) (cpN B))) (fun w' hC => (kB w' _ (HK.out _ _ _ hI hC)).mono fun e w'' ⟨he, hb⟩ => ⟨he, below_class hC hb⟩) ?_
  simp only [Act.put, List.setIfInBounds_toArray, List.set_cons_zero, List.set_cons_succ]
  refine wpQ_fn 11 _ _ rfl rfl #[.pointer (some ⟨g, 0, none⟩), .agg (nums n), .agg (cpC (cpX B) (cpY B) (cpN B))] rfl (fun _ => by go_simp) (.agg (cpC (cpX R) (cpY R) (cpN R))) (fun w' hC => (kMn _ w' (HK.out _ _ _ hI hC)).mono fun e w'' ⟨he, hb⟩ => ⟨he, below_class hC hb⟩) ?_
  simp only [Act.put, List.setIfInBounds_toArray, List.set_cons_zero, List.set_cons_succ]
  refine wpQ_move _ rfl rfl (.pointer (some ⟨g, 0, none⟩)) rfl ?_
  simp only [Act.put, List.setIfInBounds_toArray, List.set_cons_zero, List.set_cons_succ]
  refine wpQ_has 24 _ rfl _ rfl rfl 24 _ (fun w' hC => hM.after hC) _ Tryd.underlying24 rfl (infoNum _) ?_
  simp only [Act.put, List.setIfInBounds_toArray, List.set_cons_zero, List.set_cons_succ]
  refine wpQ_has 35 _ rfl _ rfl rfl 35 _ (fun w' hC => hA.after hC) _ Tryd.underlying35 rfl (infoCp _ _ _) ?_
  simp only [Act.put, List.setIfInBounds_toArray, List.set_cons_zero, List.set_cons_succ]
  refine wpQ_fn 11 _ _ rfl rfl #[.pointer (some ⟨g, 0, none⟩), .agg (nums m), .agg (cpC (cpX A) (cpY A) (cpN A))] rfl (fun _ => by go_simp) (.agg (cpC (cpX Q) (cpY Q) (cpN Q))) (fun w' hC => (kMa _ w' (HK.out _ _ _ hI hC)).mono fun e w'' ⟨he, hb⟩ => ⟨he, below_class hC hb⟩) ?_
  simp only [Act.put, List.setIfInBounds_toArray, List.set_cons_zero, List.set_cons_succ]
  refine wpQ_fn 20 _ _ rfl rfl #[.pointer (some ⟨g, 0, none⟩), .agg (cpC (cpX R) (cpY R) (cpN R)), .agg (cpC (cpX Q) (cpY Q) (cpN Q))] rfl (fun _ => by go_simp) (.agg (cpC (cpX V) (cpY V) (cpN V))) (fun w' hC => (kAdd _ w' (HK.out _ _ _ hI hC)).mono fun e w'' ⟨he, hb⟩ => ⟨he, below_class hC hb⟩) ?_
  simp only [Act.put, List.setIfInBounds_toArray, List.set_cons_zero, List.set_cons_succ]
  refine wpQ_bin _ _ _ _ _ rfl rfl (.agg (cpC (cpX V) (cpY V) (cpN V))) (.agg (cpC (cpX V) (cpY V) (cpN V))) rfl rfl (.bool true) (fun w' _ => cpEq _ _ _ _ _ w') ?_
  simp only [Act.put, List.setIfInBounds_toArray, List.set_cons_zero, List.set_cons_succ]
  refine wpQ_move _ rfl rfl (.bool true) rfl ?_
  simp only [Act.put, List.setIfInBounds_toArray, List.set_cons_zero, List.set_cons_succ]
  refine wpQ_has 35 _ rfl _ rfl rfl 35 _ (fun w' hC => hS.after hC) _ Tryd.underlying35 rfl (infoCp _ _ _) ?_
  simp only [Act.put, List.setIfInBounds_toArray, List.set_cons_zero, List.set_cons_succ]
  refine wpQ_move _ rfl rfl (.pointer (some ⟨g, 0, none⟩)) rfl ?_
  simp only [Act.put, List.setIfInBounds_toArray, List.set_cons_zero, List.set_cons_succ]
  refine wpQ_has 24 _ rfl _ rfl rfl 24 _ (fun w' hC => hM.after hC) _ Tryd.underlying24 rfl (infoNum _) ?_
  simp only [Act.put, List.setIfInBounds_toArray, List.set_cons_zero, List.set_cons_succ]
  refine wpQ_has 35 _ rfl _ rfl rfl 35 _ (fun w' hC => hA.after hC) _ Tryd.underlying35 rfl (infoCp _ _ _) ?_
  simp only [Act.put, List.setIfInBounds_toArray, List.set_cons_zero, List.set_cons_succ]
  refine wpQ_has 24 _ rfl _ rfl rfl 24 _ (fun w' hC => hN.after hC) _ Tryd.underlying24 rfl (infoNum _) ?_
  simp only [Act.put, List.setIfInBounds_toArray, List.set_cons_zero, List.set_cons_succ]
  refine wpQ_fn 12 _ _ rfl rfl #[] rfl (fun _ => by go_simp) (.agg (cpC (cpX B) (cpY B) (cpN B))) (fun w' hC => (kB w' _ (HK.out _ _ _ hI hC)).mono fun e w'' ⟨he, hb⟩ => ⟨he, below_class hC hb⟩) ?_
  simp only [Act.put, List.setIfInBounds_toArray, List.set_cons_zero, List.set_cons_succ]
  refine wpQ_fn 18 _ _ rfl rfl #[.pointer (some ⟨g, 0, none⟩), .agg (nums m), .agg (cpC (cpX A) (cpY A) (cpN A)), .agg (nums n), .agg (cpC (cpX B) (cpY B) (cpN B))] rfl (fun _ => by go_simp) (.agg (cpC (cpX V) (cpY V) (cpN V))) (fun w' hC => (kT2 _ w' (HK.out _ _ _ hI hC)).mono fun e w'' ⟨he, hb⟩ => ⟨he, below_class hC hb⟩) ?_
  simp only [Act.put, List.setIfInBounds_toArray, List.set_cons_zero, List.set_cons_succ]
  refine wpQ_bin _ _ _ _ _ rfl rfl (.agg (cpC (cpX V) (cpY V) (cpN V))) (.agg (cpC (cpX V) (cpY V) (cpN V))) rfl rfl (.bool true) (fun w' _ => cpEq _ _ _ _ _ w') ?_
  simp only [Act.put, List.setIfInBounds_toArray, List.set_cons_zero, List.set_cons_succ]
  refine wpQ_pick _ _ _ rfl rfl true rfl (.bool true) rfl ?_
  simp only [Act.put, List.setIfInBounds_toArray, List.set_cons_zero, List.set_cons_succ]
  refine wpQ_move _ rfl rfl (.bool true) rfl ?_
  simp only [Act.put, List.setIfInBounds_toArray, List.set_cons_zero, List.set_cons_succ]
  refine wpQ_move _ rfl rfl (.pointer (some ⟨g, 0, none⟩)) rfl ?_
  simp only [Act.put, List.setIfInBounds_toArray, List.set_cons_zero, List.set_cons_succ]
  refine wpQ_fn 27 _ _ rfl rfl #[] rfl (fun _ => by go_simp) (.agg (nums od)) (fun w' hC => (kO w' _ (HK.out _ _ _ hI hC)).mono fun e w'' ⟨he, hb⟩ => ⟨he, below_class hC hb⟩) ?_
  simp only [Act.put, List.setIfInBounds_toArray, List.set_cons_zero, List.set_cons_succ]
  refine wpQ_has 35 _ rfl _ rfl rfl 35 _ (fun w' hC => hA.after hC) _ Tryd.underlying35 rfl (infoCp _ _ _) ?_
  simp only [Act.put, List.setIfInBounds_toArray, List.set_cons_zero, List.set_cons_succ]
  refine wpQ_fn 11 _ _ rfl rfl #[.pointer (some ⟨g, 0, none⟩), .agg (nums od), .agg (cpC (cpX A) (cpY A) (cpN A))] rfl (fun _ => by go_simp) (.agg (cpC 0 0 true)) (fun w' hC => (kOa _ w' (HK.out _ _ _ hI hC)).mono fun e w'' ⟨he, hb⟩ => ⟨he, below_class hC hb⟩) ?_
  simp only [Act.put, List.setIfInBounds_toArray, List.set_cons_zero, List.set_cons_succ]
  refine wpQ_field 35 _ _ rfl rfl (.agg (cpC 0 0 true)) rfl (.bool true) (fun w' _ => fieldN 0 0 true w') ?_
  simp only [Act.put, List.setIfInBounds_toArray, List.set_cons_zero, List.set_cons_succ]
  refine wpQ_pick _ _ _ rfl rfl true rfl (.bool true) rfl ?_
  simp only [Act.put, List.setIfInBounds_toArray, List.set_cons_zero, List.set_cons_succ]
  refine wpQ_move _ rfl rfl (.bool true) rfl ?_
  simp only [Act.put, List.setIfInBounds_toArray, List.set_cons_zero, List.set_cons_succ]
  refine wpQ_move _ rfl rfl (.pointer none) rfl ?_
  simp only [Act.put, List.setIfInBounds_toArray, List.set_cons_zero, List.set_cons_succ]
  refine wpQ_has 24 _ rfl _ rfl rfl 24 _ (fun w' hC => hN.after hC) _ Tryd.underlying24 rfl (infoNum _) ?_
  simp only [Act.put, List.setIfInBounds_toArray, List.set_cons_zero, List.set_cons_succ]
  refine wpQ_has 35 _ rfl _ rfl rfl 35 _ (fun w' hC => hA.after hC) _ Tryd.underlying35 rfl (infoCp _ _ _) ?_
  simp only [Act.put, List.setIfInBounds_toArray, List.set_cons_zero, List.set_cons_succ]
  refine wpQ_fn 11 _ _ rfl rfl #[.pointer none, .agg (nums n), .agg (cpC (cpX A) (cpY A) (cpN A))] rfl (fun _ => by go_simp) (.agg (cpC 0 0 true)) (fun w' hC => (kn1 w').mono fun e w'' ⟨he, hb⟩ => ⟨he, below_class hC hb⟩) ?_
  simp only [Act.put, List.setIfInBounds_toArray, List.set_cons_zero, List.set_cons_succ]
  refine wpQ_field 35 _ _ rfl rfl (.agg (cpC 0 0 true)) rfl (.bool true) (fun w' _ => fieldN 0 0 true w') ?_
  simp only [Act.put, List.setIfInBounds_toArray, List.set_cons_zero, List.set_cons_succ]
  refine wpQ_pick _ _ _ rfl rfl true rfl (.bool true) rfl ?_
  simp only [Act.put, List.setIfInBounds_toArray, List.set_cons_zero, List.set_cons_succ]
  refine wpQ_move _ rfl rfl (.bool true) rfl ?_
  simp only [Act.put, List.setIfInBounds_toArray, List.set_cons_zero, List.set_cons_succ]
  refine wpQ_move _ rfl rfl (.pointer none) rfl ?_
  simp only [Act.put, List.setIfInBounds_toArray, List.set_cons_zero, List.set_cons_succ]
  refine wpQ_has 35 _ rfl _ rfl rfl 35 _ (fun w' hC => hA.after hC) _ Tryd.underlying35 rfl (infoCp _ _ _) ?_
  simp only [Act.put, List.setIfInBounds_toArray, List.set_cons_zero, List.set_cons_succ]
  refine wpQ_fn 17 _ _ rfl rfl #[.pointer none, .agg (cpC (cpX A) (cpY A) (cpN A))] rfl (fun _ => by go_simp) (.bool false) (fun w' hC => (kn2 w').mono fun e w'' ⟨he, hb⟩ => ⟨he, below_class hC hb⟩) ?_
  simp only [Act.put, List.setIfInBounds_toArray, List.set_cons_zero, List.set_cons_succ]
  refine wpQ_un _ _ _ rfl rfl (.bool false) rfl (.bool true) (fun w' _ => notB false w') ?_
  simp only [Act.put, List.setIfInBounds_toArray, List.set_cons_zero, List.set_cons_succ]
  refine wpQ_pick _ _ _ rfl rfl true rfl (.bool true) rfl ?_
  simp only [Act.put, List.setIfInBounds_toArray, List.set_cons_zero, List.set_cons_succ]
  refine wpQ_move _ rfl rfl (.bool true) rfl ?_
  simp only [Act.put, List.setIfInBounds_toArray, List.set_cons_zero, List.set_cons_succ]
  refine wpQ_move _ rfl rfl (.pointer none) rfl ?_
  simp only [Act.put, List.setIfInBounds_toArray, List.set_cons_zero, List.set_cons_succ]
  refine wpQ_has 35 _ rfl _ rfl rfl 35 _ (fun w' hC => hA.after hC) _ Tryd.underlying35 rfl (infoCp _ _ _) ?_
  simp only [Act.put, List.setIfInBounds_toArray, List.set_cons_zero, List.set_cons_succ]
  refine wpQ_has 35 _ rfl _ rfl rfl 35 _ (fun w' hC => hA.after hC) _ Tryd.underlying35 rfl (infoCp _ _ _) ?_
  simp only [Act.put, List.setIfInBounds_toArray, List.set_cons_zero, List.set_cons_succ]
  refine wpQ_fn 20 _ _ rfl rfl #[.pointer none, .agg (cpC (cpX A) (cpY A) (cpN A)), .agg (cpC (cpX A) (cpY A) (cpN A))] rfl (fun _ => by go_simp) (.agg (cpC 0 0 true)) (fun w' hC => (kn3 w').mono fun e w'' ⟨he, hb⟩ => ⟨he, below_class hC hb⟩) ?_
  simp only [Act.put, List.setIfInBounds_toArray, List.set_cons_zero, List.set_cons_succ]
  refine wpQ_field 35 _ _ rfl rfl (.agg (cpC 0 0 true)) rfl (.bool true) (fun w' _ => fieldN 0 0 true w') ?_
  simp only [Act.put, List.setIfInBounds_toArray, List.set_cons_zero, List.set_cons_succ]
  refine wpQ_pick _ _ _ rfl rfl true rfl (.bool true) rfl ?_
  simp only [Act.put, List.setIfInBounds_toArray, List.set_cons_zero, List.set_cons_succ]
  refine wpQuiet_nil ?_
  intro w9 hC
  replace hb0 := below_trans hb0 hC
  clear hC
  go_wp2_with fail
  go_ret
  exact ⟨rfl, hb0⟩
end Go.Proofs.YtmgmfifkldpbmaaDoor
namespace Go.Proofs.YtmgmfifkldpbmaaDoor
open Go.RowKit

theorem order_odd : Ec.ordN = 2 * (Ec.ordN / 2) + 1 := by decide +kernel
theorem self_neg {x y : Ec.FP} (hy : y = 0) : Ec.neg (some (x, y)) = some (x, y) := by
  subst hy
  rfl
theorem order_self {P : Ec.Pnt} (hP : Ec.OnP P) (h2 : Ec.plus P P = none) (k : Nat) : Ec.smul (2 * k + 1) P = P := by
  have e : Ec.smul (2 * k) P = none := by
    rw [← Ec.smul_smul hP 2 k]
    have e2 : Ec.smul 2 P = none := by
      show Ec.plus (Ec.plus none P) P = none
      rw [show Ec.plus none P = P from rfl]
      exact h2
    rw [e2]
    exact Ec.smul_none k
  rw [Ec.smul_succ, e]
  rfl
/-- no multiple of the base is its own mirror -/
theorem y_ne {n : Nat} {x y : Ec.FP} (h : Ec.smul n Ec.baseP = some (x, y)) : y ≠ 0 := by
  intro hy
  have hon := Ec.smul_on Ec.base_on n
  have ho := Ec.order_mult n
  rw [h] at hon ho
  have h2 : Ec.plus (some (x, y)) (some (x, y)) = none := by
    have e := Ec.add_neg Ec.cA (some (x, y))
    rw [self_neg hy] at e
    exact e
  have e := order_self hon h2 (Ec.ordN / 2)
  rw [← order_odd, ho] at e
  exact absurd e (by simp)
theorem mir_val {y : Ec.FP} (hy : y ≠ 0) : (0 - y : Ec.FP).val = Ec.pp - y.val := by
  have hl := y.isLt
  have h0 : y.val ≠ 0 := fun e => hy (Fin.ext e)
  have e : (0 - y : Ec.FP) = Ec.c (Ec.pp - y.val) := by
    have e2 := Ec.c_sub 0 y.val (Nat.le_of_lt hl)
    rw [Nat.zero_add, c_val] at e2
    exact e2.symm
  rw [e]
  exact Nat.mod_eq_of_lt (Nat.sub_lt (by decide) (Nat.pos_of_ne_zero h0))
theorem mir_v {x y : Ec.FP} (hy : y ≠ 0) : cpV (some (x, 0 - y)) = .agg (cpC x.val (Ec.pp - y.val) false) := by
  show Value.agg (cpC x.val (0 - y : Ec.FP).val false) = _
  rw [mir_val hy]
theorem mir_on {x y : Ec.FP} (h : Ec.OnP (some (x, y))) : Ec.OnP (some (x, 0 - y)) := Ec.on_neg h
theorem mir_plus (x y : Ec.FP) : Ec.plus (some (x, y)) (some (x, 0 - y)) = none := Ec.add_neg Ec.cA (some (x, y))
theorem pp_lt : Ec.pp < big := by decide +kernel
theorem sub_mir {p y : Nat} (h : y ≤ p) : nums (p + big - y) = nums (p - y) := by
  rw [← nums_mod (p + big - y), show p + big - y = (p - y) + big by omega, Nat.add_mod_right, nums_mod]
/-- a number moved up by the prime is another -/
theorem up_ne {x : Nat} (hx : x < Ec.pp) : (x + Ec.pp) % big ≠ x := by
  intro h
  have hp := pp_lt
  have p0 : 0 < Ec.pp := by decide
  have hxb : x < big := by omega
  generalize Ec.pp = p at *
  rcases Nat.lt_or_ge (x + p) big with hl | hl
  · rw [Nat.mod_eq_of_lt hl] at h
    omega
  · rw [Nat.mod_eq_sub_mod hl, Nat.mod_eq_of_lt (by omega)] at h
    omega
theorem up_nums (x : Nat) : nums (x + Ec.pp) = nums ((x + Ec.pp) % big) := (nums_mod _).symm
/-- what lies on the curve is below the prime -/
theorem up_val {X y : Nat} {r : Bool} (hr : r = true ↔ ((false : Bool) = false ∧ X < Ec.pp ∧ y < Ec.pp ∧ Ec.OnP (some (Ec.c X, Ec.c y)))) : (!r || decide (cmpI X Ec.pp < 0)) = true := by
  cases r with
  | false => rfl
  | true =>
    have h := (hr.1 rfl).2.1
    have e : cmpI X Ec.pp < 0 := by
      unfold cmpI
      rw [if_neg (by omega), if_pos h]
      decide
    rw [decide_eq_true e]
    rfl
theorem cmp_lt (a b : Nat) : (cmpI a b < 0) ↔ a < b := by
  unfold cmpI
  constructor
  · intro h
    by_cases h1 : a = b
    · rw [if_pos h1] at h; exact absurd h (by decide)
    · by_cases h2 : a < b
      · exact h2
      · rw [if_neg h1, if_neg h2] at h; exact absurd h (by decide)
  · intro h
    rw [if_neg (by omega), if_pos h]
    decide
/-- the program's curve and the reference's agree on any two numbers -/
theorem on_same {x y : Nat} {r b : Bool} (hr : r = true ↔ ((false : Bool) = false ∧ x < Ec.pp ∧ y < Ec.pp ∧ Ec.OnP (some (Ec.c x, Ec.c y))))
    (hx : x < Ec.pp) (hy : y < Ec.pp) (hb : b = true ↔ Ec.OnP (some (Ec.c x, Ec.c y))) : r = b := by
  cases r with
  | true => exact ((hb.2 (hr.1 rfl).2.2.2).symm)
  | false =>
    cases b with
    | false => rfl
    | true => exact absurd (hr.2 ⟨rfl, hx, hy, hb.1 rfl⟩) (by decide)
theorem on_above {x y : Nat} {r : Bool} (hr : r = true ↔ ((false : Bool) = false ∧ x < Ec.pp ∧ y < Ec.pp ∧ Ec.OnP (some (Ec.c x, Ec.c y))))
    (h : ¬ (x < Ec.pp ∧ y < Ec.pp)) : r = false := by
  cases r with
  | false => rfl
  | true => exact absurd ⟨(hr.1 rfl).2.1, (hr.1 rfl).2.2.1⟩ h
end Go.Proofs.YtmgmfifkldpbmaaDoor
namespace Go.Proofs.YtmgmfifkldpbmaaDoor
open Go.RowKit

theorem cp_setX (X Y v : Nat) (b : Bool) : (tab 17 fun j => if 0 ≤ j ∧ j < 0 + 8 then dgs .u32 4294967296 v (j - 0) else cpF X Y b j) = cpC v Y b := tab_ext _ _ _ fun j hj => by
  unfold cpF dgs
  by_cases h : j < 8
  · rw [if_pos (by omega), if_pos h]; rfl
  · rw [if_neg (by omega), if_neg h, if_neg h]
theorem cp_setY (X Y v : Nat) (b : Bool) : (tab 17 fun j => if 8 ≤ j ∧ j < 8 + 8 then dgs .u32 4294967296 v (j - 8) else cpF X Y b j) = cpC X v b := tab_ext _ _ _ fun j hj => by
  unfold cpF dgs
  by_cases h : 8 ≤ j ∧ j < 8 + 8
  · rw [if_pos h, if_neg (by omega), if_pos (by omega)]; rfl
  · rw [if_neg h]
    by_cases h8 : j < 8
    · simp only [if_pos h8]
    · have h16 : ¬ j < 16 := by omega
      simp only [if_neg h8, if_neg h16]
theorem wpList_store_w8 {w : World} {ops : Array Oper} {rest : List Oper} {op : Oper} {a : Act} {Q : Exit → Act → World → Prop} (hgd : op.guard = none) (x y : Operand) (ho : op.op = .store 24 x y)
    (g off : Nat) (hx : a.eval x = .pointer (some ⟨g, off, none⟩)) (v : Nat) (hy : a.eval y = .agg (nums v))
    (N : Nat) (f : Nat → Value) (t : TypeId) (hg : Has w g t (tab N f)) (hfit : off + 8 ≤ N) (cs : Array Value) (hcs : (tab N fun j => if off ≤ j ∧ j < off + 8 then dgs .u32 4294967296 v (j - off) else f j) = cs)
    (h : wpList Tryd.prog ops Q rest (a.put op.dst undef) (w.setRow g cs)) : wpList Tryd.prog ops Q (op :: rest) a w := by
  refine wpList_plain hgd fun K hK => ?_
  have hl : (w8L v).length = 8 := w8L_len v
  have hrun := run_storeCells_at (P := Tryd.prog) g off t (w8L v) 0 (tab N f) w hg (by rw [hl, tab_size]; omega) (fun u hu => by obtain ⟨j, _, rfl⟩ := List.mem_map.1 hu; rfl)
  have e := tab_splice N f (dgs .u32 4294967296 v) off 8 hfit
  rw [hl, Nat.add_zero, List.append_assoc, show w8L v = (List.range 8).map (dgs .u32 4294967296 v) from rfl, e, hcs] at hrun
  have hi := infoNum v
  rw [nums_size] at hi
  have hs : (storeVar 24 ⟨g, off, none⟩ (.agg (nums v))).run Tryd.prog w = .ok () (w.setRow g cs) := by
    cases hq : Tryd.prog.info? 24 with
    | none => simp [hq] at hi
    | some i =>
      have hs : i.size = 8 := by simpa [hq] using hi
      have hv : (nums v).toList = (List.range 8).map (dgs .u32 4294967296 v) := tab_toList _ _
      simp [storeVar, sizeOf, typeInfo, hq, Value.cells, hs, nums_size, hv, hrun]
  unfold Oper.wp execOp
  simp only [ho, hx, hy, Instr.storeAt, Instr.sureAddr, Sem.run_bind, Sem.run_pure, Result.andThen_ok, hs]
  exact hK _ _ h
/-- a field of a point, loaded where the steps have an order -/
theorem wpList_load_w8 {w : World} {ops : Array Oper} {rest : List Oper} {op : Oper} {a : Act} {Q : Exit → Act → World → Prop} (hgd : op.guard = none) (p : Operand) (ho : op.op = .load 24 p) (b o : Nat) (hp : a.eval p = .pointer (some ⟨b, o, none⟩)) (x : Nat) (hc : w.rangeAt b o (w8L x))
    (h : wpList Tryd.prog ops Q rest (a.put op.dst (.agg (nums x))) w) : wpList Tryd.prog ops Q (op :: rest) a w := by
  rw [← w8L_arr] at h
  exact wpList_load_mid hgd 24 p ho b o hp (w8L x) _ hc Tryd.underlying24 rfl (infoW8 x) h
end Go.Proofs.YtmgmfifkldpbmaaDoor
namespace Go.Proofs.YtmgmfifkldpbmaaDoor
open Go.RowKit

/-- what a number in Montgomery's form stands for -/
def mo (a : Nat) : Ec.FP := Ec.c (redc Ec.pp a)
theorem pp_odd : Ec.pp % 2 = 1 ∧ 1 < Ec.pp ∧ 0 < Ec.pp := by decide +kernel
theorem cR_ne : Ec.c RR ≠ 0 := by unfold RR; decide +kernel
theorem mo_R (a : Nat) : Ec.c RR * mo a = Ec.c a := by
  unfold mo
  rw [← Ec.c_mul]
  exact Ec.c_eq (redc_eq Ec.pp a pp_odd.1)
theorem mo_of {a : Nat} {x : Ec.FP} (h : Ec.c RR * x = Ec.c a) : mo a = x := Ec.fldP.cancel ((mo_R a).trans h.symm) cR_ne
theorem mo_add (a b : Nat) : mo ((a + b) % Ec.pp) = mo a + mo b := mo_of (by
  rw [Ec.c_mod, Ec.c_add, ← mo_R a, ← mo_R b]
  generalize Ec.c RR = r
  grobner)
theorem mo_sub (a b : Nat) (hb : b ≤ Ec.pp) : mo ((a + (Ec.pp - b)) % Ec.pp) = mo a - mo b := mo_of (by
  rw [Ec.c_mod, Ec.c_sub _ _ hb, ← mo_R a, ← mo_R b]
  generalize Ec.c RR = r
  grobner)
theorem mo_mul (a b : Nat) : mo (redc Ec.pp (a * b)) = mo a * mo b := mo_of (Ec.fldP.cancel (c := Ec.c RR) (by
  have h1 : Ec.c RR * Ec.c (redc Ec.pp (a * b)) = Ec.c (a * b) := mo_R (a * b)
  rw [h1, Ec.c_mul, ← mo_R a, ← mo_R b]
  clear h1
  generalize Ec.c RR = r
  grobner) cR_ne)
theorem mo_in (a : Nat) : mo (a * RR % Ec.pp) = Ec.c a := by
  unfold mo
  rw [out_in Ec.pp a pp_odd.1, Ec.c_mod]
theorem c_one : Ec.c 1 = 1 := rfl
theorem mo_one : mo (RR % Ec.pp) = 1 := by
  have h := mo_in 1
  rw [Nat.one_mul] at h
  exact h.trans c_one
theorem mo_zero : mo 0 = 0 := mo_of (by rw [show Ec.c 0 = 0 from rfl]; grobner)
theorem mo_eq0 {a : Nat} (ha : a < Ec.pp) (h : mo a = 0) : a = 0 := by
  have h1 := mo_R a
  rw [h] at h1
  apply Classical.byContradiction
  intro h0
  refine Ec.c_zero ha h0 ?_
  rw [← h1]
  clear h h1
  generalize Ec.c RR = r
  grobner
theorem mo_inj {a b : Nat} (ha : a < Ec.pp) (hb : b < Ec.pp) (h : mo a = mo b) : a = b := by
  refine c_inj ha hb ?_
  rw [← mo_R a, ← mo_R b, h]
theorem mo_val (a : Nat) : (mo a).val = redc Ec.pp a := Nat.mod_eq_of_lt (redc_lt Ec.pp a pp_odd.2.2)
theorem mo_inv {a : Nat} (ha : mo a ≠ 0) : mo a * mo (powN Ec.pp a (Ec.pp - 2)) = 1 := by
  have h1 : mo (powN Ec.pp a (Ec.pp - 2)) = Ec.c (redc Ec.pp a ^ (Ec.pp - 2) % Ec.pp) := by
    unfold powN
    rw [mo_in, Ec.c_mod]
  rw [h1]
  exact c_invN ha
theorem mo_big {a : Nat} (ha : a < Ec.pp) : a < big := Nat.lt_trans ha (by decide +kernel)

/- the same over a variable -/
section
variable {m : Nat} (h : m = Ec.pp)
include h
theorem mA (a b : Nat) : mo ((a + b) % m) = mo a + mo b := by subst h; exact mo_add a b
theorem mS (a b : Nat) (hb : b ≤ m) : mo ((a + (m - b)) % m) = mo a - mo b := by subst h; exact mo_sub a b hb
theorem mT (a b : Nat) : mo (redc m (a * b)) = mo a * mo b := by subst h; exact mo_mul a b
end
/-- three times a number; a1 b2 + b1 a2 -/
def triN (m a : Nat) : Nat := ((a + a) % m + a) % m
def crsN (m a1 b1 a2 b2 s : Nat) : Nat := (redc m (((a1 + b1) % m) * ((a2 + b2) % m)) + (m - s)) % m
theorem triN_lt {m : Nat} (a : Nat) (h : 0 < m) : triN m a < m := Nat.mod_lt _ h
theorem crsN_lt {m : Nat} (a1 b1 a2 b2 s : Nat) (h : 0 < m) : crsN m a1 b1 a2 b2 s < m := Nat.mod_lt _ h
theorem mTri {m : Nat} (h : m = Ec.pp) (a : Nat) : mo (triN m a) = 3 * mo a := by
  unfold triN
  rw [mA h, mA h]
  grobner
theorem mCrs {m : Nat} (h : m = Ec.pp) (a1 b1 a2 b2 s : Nat) (hs : s ≤ m) : mo (crsN m a1 b1 a2 b2 s) = (mo a1 + mo b1) * (mo a2 + mo b2) - mo s := by
  unfold crsN
  rw [mS h _ _ hs, mT h, mA h, mA h]
theorem madd_any (a b m g : Nat) (w : World) (h : IsMod w g m) (ha : a < m) (hb : b < m) : Calls Tryd.prog 36 #[.pointer (some ⟨g, 0, none⟩), .agg (nums a), .agg (nums b)] w fun e w' => e = .returned (.agg (nums ((a + b) % m))) ∧ Below w.heap.size w w' := by
  obtain ⟨ni, i1, i2, i3, i4, i5, i6⟩ := h
  exact addm_any a b m ni _ _ g w i6 ha hb i5
theorem msub_any (a b m g : Nat) (w : World) (h : IsMod w g m) (ha : a < m) (hb : b < m) : Calls Tryd.prog 37 #[.pointer (some ⟨g, 0, none⟩), .agg (nums a), .agg (nums b)] w fun e w' => e = .returned (.agg (nums ((a + (m - b)) % m))) ∧ Below w.heap.size w w' := by
  obtain ⟨ni, i1, i2, i3, i4, i5, i6⟩ := h
  exact subm_any a b m ni _ _ g w i6 ha hb i5

/- the package's variables -/
theorem range_after {w w' : World} {g o : Nat} {L : List Value} (h : w.rangeAt g o L) (hl : g < w.heap.size) (k : Below w.heap.size w w') : w'.rangeAt g o L := fun j v hv => by
  exact (k.cell (p := ⟨g, o + j, none⟩) hl).trans (h j v hv)
structure Laid (w : World) : Prop where
  p : w.rangeAt 0 0 (wordsL Ec.pp)
  b : w.rangeAt 1 0 (wordsL bN)
  x : w.rangeAt 2 0 (wordsL Ec.gX)
  y : w.rangeAt 3 0 (wordsL Ec.gY)
  o : w.rangeAt 4 0 (wordsL Ec.ordN)
  size : 5 ≤ w.heap.size
theorem Laid.after {w w' : World} (h : Laid w) (k : Below w.heap.size w w') : Laid w' :=
  have hs := h.size
  ⟨range_after h.p (Nat.lt_of_lt_of_le (by decide) hs) k, range_after h.b (Nat.lt_of_lt_of_le (by decide) hs) k, range_after h.x (Nat.lt_of_lt_of_le (by decide) hs) k, range_after h.y (Nat.lt_of_lt_of_le (by decide) hs) k,
    range_after h.o (Nat.lt_of_lt_of_le (by decide) hs) k, Nat.le_trans hs k.size⟩

/-- a Curve's cells: the field, b -/
def crvF (f bm : Nat) (j : Nat) : Value := if j = 0 then .pointer (some ⟨f, 0, none⟩) else .int .u32 ((wrd bm (j - 1) : Nat) : Int)
def crvC (f bm : Nat) : Array Value := tab 9 (crvF f bm)
theorem crvC_size (f bm : Nat) : (crvC f bm).size = 9 := tab_size _ _
theorem infoCrv (f bm : Nat) : (Tryd.prog.info? 64).map (·.size) = some (crvC f bm).size := by rw [crvC_size]; kernel_rfl
section
variable {w : World} {g f bm : Nat}
theorem crv_f (h : Has w g 64 (crvC f bm)) : w.cell? ⟨g, 0, none⟩ = some (.pointer (some ⟨f, 0, none⟩)) := h.cellTab 0 (by omega)
theorem crv_b (h : Has w g 64 (crvC f bm)) : w.rangeAt g 1 (wordsL bm) := by
  have := Has.range h 1 8 (by omega)
  have e : (List.range 8).map (fun j => crvF f bm (1 + j)) = wordsL bm := by
    unfold wordsL
    apply List.map_congr_left
    intro j hj
    have h1 : ¬ 1 + j = 0 := by omega
    simp only [crvF, dgs, wrd, if_neg h1, Nat.add_sub_cancel_left]
  rw [e] at this
  exact this
end
theorem cell_ptr (g j : Nat) (v : Value) (w : World) (h : w.cell? ⟨g, j, none⟩ = some v) : (Instr.loadAt 58 (.pointer (some ⟨g, j, none⟩))).run Tryd.prog w = .ok v w := by
  go_simp
/-- block g is a Curve over the modulus m, its b in Montgomery's form bm -/
def IsCrv (m bm : Nat) (w : World) (g : Nat) : Prop := ∃ f, Has w g 64 (crvC f bm) ∧ IsMod w f m ∧ Laid w
theorem IsCrv.after {m bm : Nat} {w w' : World} {g : Nat} (h : IsCrv m bm w g) (k : Below w.heap.size w w') : IsCrv m bm w' g := by
  obtain ⟨f, h1, h2, h3⟩ := h
  exact ⟨f, h1.after k, h2.after k, h3.after k⟩

/-- projective coordinates: the cells -/
def pjF (X Y Z j : Nat) : Value := .int .u32 ((if j < 8 then wrd X j else if j < 16 then wrd Y (j - 8) else wrd Z (j - 16) : Nat) : Int)
def pjC (X Y Z : Nat) : Array Value := tab 24 (pjF X Y Z)
theorem pjC_size (X Y Z : Nat) : (pjC X Y Z).size = 24 := tab_size _ _
theorem infoPj (X Y Z : Nat) : (Tryd.prog.info? 76).map (·.size) = some (pjC X Y Z).size := by rw [pjC_size]; kernel_rfl
set_option maxRecDepth 100000 in
theorem buildPj (X Y Z : Nat) (W : World) : (Instr.build 76 #[(0, .agg (nums X)), (1, .agg (nums Y)), (2, .agg (nums Z))]).run Tryd.prog W = .ok (.agg (pjC X Y Z)) W := by kernel_rfl
theorem buildPj1 (Y : Nat) (W : World) : (Instr.build 76 #[(1, .agg (nums Y))]).run Tryd.prog W = .ok (.agg (pjC 0 Y 0)) W := by kernel_rfl
theorem zero24 : (#[Value.int IntKind.u32 0, Value.int IntKind.u32 0, Value.int IntKind.u32 0, Value.int IntKind.u32 0, Value.int IntKind.u32 0, Value.int IntKind.u32 0, Value.int IntKind.u32 0, Value.int IntKind.u32 0, Value.int IntKind.u32 0, Value.int IntKind.u32 0, Value.int IntKind.u32 0, Value.int IntKind.u32 0, Value.int IntKind.u32 0, Value.int IntKind.u32 0, Value.int IntKind.u32 0, Value.int IntKind.u32 0, Value.int IntKind.u32 0, Value.int IntKind.u32 0, Value.int IntKind.u32 0, Value.int IntKind.u32 0, Value.int IntKind.u32 0, Value.int IntKind.u32 0, Value.int IntKind.u32 0, Value.int IntKind.u32 0] : Array Value) = pjC 0 0 0 := by kernel_rfl
theorem infVP : (Tryd.prog.info? 76).map (fun i => (i.zero, i.size)) = some (some (.agg (pjC 0 0 0)), 24) := by kernel_rfl
theorem zeroVP (w : World) : (zeroValue 76).run Tryd.prog w = .ok (.agg (pjC 0 0 0)) w := (zero_of_info infVP).1 w
section
variable {w : World} {g X Y Z : Nat}
theorem pj_x (h : Has w g 76 (pjC X Y Z)) : w.rangeAt g 0 (wordsL X) := by
  have := Has.range h 0 8 (by omega)
  have e : (List.range 8).map (fun j => pjF X Y Z (0 + j)) = wordsL X := by
    unfold wordsL
    apply List.map_congr_left
    intro j hj
    have : j < 8 := by simpa using hj
    simp [pjF, dgs, wrd, this]
  rw [e] at this
  exact this
theorem pj_y (h : Has w g 76 (pjC X Y Z)) : w.rangeAt g 8 (wordsL Y) := by
  have := Has.range h 8 8 (by omega)
  have e : (List.range 8).map (fun j => pjF X Y Z (8 + j)) = wordsL Y := by
    unfold wordsL
    apply List.map_congr_left
    intro j hj
    have h8 : j < 8 := by simpa using hj
    have h1 : ¬ 8 + j < 8 := by omega
    have h2 : 8 + j < 16 := by omega
    simp only [pjF, dgs, wrd, if_neg h1, if_pos h2, Nat.add_sub_cancel_left]
  rw [e] at this
  exact this
theorem pj_z (h : Has w g 76 (pjC X Y Z)) : w.rangeAt g 16 (wordsL Z) := by
  have := Has.range h 16 8 (by omega)
  have e : (List.range 8).map (fun j => pjF X Y Z (16 + j)) = wordsL Z := by
    unfold wordsL
    apply List.map_congr_left
    intro j hj
    have h8 : j < 8 := by simpa using hj
    have h1 : ¬ 16 + j < 8 := by omega
    have h2 : ¬ 16 + j < 16 := by omega
    simp only [pjF, dgs, wrd, if_neg h1, if_neg h2, Nat.add_sub_cancel_left]
  rw [e] at this
  exact this
end
theorem w8L_words (x : Nat) : w8L x = wordsL x := rfl
end Go.Proofs.YtmgmfifkldpbmaaDoor
