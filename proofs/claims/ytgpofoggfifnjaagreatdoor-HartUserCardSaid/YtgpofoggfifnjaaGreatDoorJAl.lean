/-
Layer 11: package inst's encodes.
Layer 11: package inst's Decode.
-/
import Derived.Test.YtgpofoggfifnjaaGreatDoorJAk
import Derived.Test.YtgpofoggfifnjaaGreatDoorJAa
namespace Go.Proofs.YtgpofoggfifnjaaGreatDoor
open Go Go.RowKit

/-- the program's table of words, in the world -/
structure TabW (w : World) : Prop where
  c : ∀ i, i < 57 → w.cell? ⟨0, i, none⟩ = some (.int .u32 (((opP i).2 : Nat) : Int))
  size : 0 < w.heap.size
theorem TabW.below {w w' : World} (h : TabW w) (hb : Below w.heap.size w w') : TabW w' :=
  have hs := h.size
  ⟨fun i hi => (hb.cell (p := ⟨_, i, none⟩) (show _ < w.heap.size from hs)).trans (h.c i hi), Nat.lt_of_lt_of_le hs hb.size⟩
theorem TabW.drewN {w : World} (h : TabW w) (n : Nat) : TabW (w.drewN n) := h.below (below_drawn w n)
theorem zero_inst (W : World) : (Instr.build 115 #[]).run Tryz.prog W = .ok (.agg #[.int .i64 0, .int .i64 0, .int .i64 0, .int .i64 0, .int .u32 0]) W := by kernel_rfl
theorem part6_any (x : Nat) (hx : x < 4294967296) (W : World) : Calls Tryz.prog 98 #[.int .u32 (x : Int), .int .u64 6, .int .u64 0] W fun e w' => e = .returned (.int .u32 ((bitsN x 6 0 : Nat) : Int)) ∧ W = w' := part_any x 6 0 W hx (by decide) (by decide) (by decide)
set_option maxRecDepth 100000 in
set_option maxHeartbeats 4000000 in
theorem encodes_any (x i : Nat) (w : World) (hT : TabW w) (hx : x < 4294967296) (h1 : 1 ≤ i) (h2 : i < 57) :
    Calls Tryz.prog 82 #[.int .u32 (x : Int), .int .i64 (i : Int)] w fun e w' => e = .returned (.bool (mtchB x i)) ∧ Below w.heap.size w w' := by
  have kF := fun W => form_at i W h1 h2
  have kA := fun W => part6_any x hx W
  have kB := fun W => part6_any (opP i).2 (word_lt i) W
  obtain ⟨e1, e2, e3⟩ := fmE_ne i h1 h2
  have hno := mtch_no x i
  have his := mtch_is x i hx h1 h2
  have kW := fun W => withFields_any (fmE i) e1 x 0 0 0 0 0 W hx (by decide)
  rw [show u32N 0 = 0 from rfl, show tab 5 (insA 0 0 0 0 ((0 : Nat) : Int)) = #[.int .i64 0, .int .i64 0, .int .i64 0, .int .i64 0, .int .u32 0] from rfl] at kW
  have hWl := fldL_lt (fmE i) x 0 0 0 0 hx
  have hk : (i = 46 → fmN (fmE i) = 2) ∧ (i ≠ 46 → fmN (fmE i) = fmN (opP i).1) := ⟨fun h => by rw [h]; rfl, fun h => by unfold fmE; rw [if_neg h]⟩
  have hc := hT.c i h2
  have hi57 : (i : Int) < 57 := by omega
  have HT := Lib.hid hT
  have HNO := Lib.hid hno
  have HIS := Lib.hid his
  have HK := Lib.hid hk
  clear hT hno his hk e1 e2 e3
  generalize (opP i).2 = m at *
  generalize fldL (fmE i) x 0 0 0 0 = v at *
  generalize fmN (opP i).1 = k at *
  generalize fmN (fmE i) = kE at *
  generalize mtchB x i = r at *
  generalize bitsN x 6 0 = qx at *
  generalize bitsN m 6 0 = qm at *
  go_enter Tryz.func82, Tryz.ntmps82
  go_upto_region 1 with fail
  go_quiet (first
    | (go_at_call 98; with_reducible exact Calls.quiet_of_same ((kA _).mono fun _ _ ⟨he, hw⟩ => ⟨he, hw.symm⟩))
    | (go_at_call 98; with_reducible exact Calls.quiet_of_same ((kB _).mono fun _ _ ⟨he, hw⟩ => ⟨he, hw.symm⟩)))
  by_cases hq : qx = qm
  · have dq : ((qx : Int) != (qm : Int)) = false := by rw [hq]; exact bne_self_eq_false _
    clear hq
    have hT := HT.out.drewN nq
    have hb := below_drawn w nq
    have hc1 : (w.drewN nq).cell? ⟨0, i, none⟩ = some (.int .u32 (m : Int)) := hc
    generalize w.drewN nq = w1 at *
    have HC1 := Lib.hid hc1
    clear hc1
    have HB := Lib.hid hb
    have HT1 := Lib.hid hT
    clear hb hT hc
    have fin : ∀ (kk : Nat), kk = kE → True := fun _ _ => trivial
    clear fin
    have hre : r = ((v : Int) == (m : Int)) := by
      rw [HIS.out]
      by_cases hv : v = m
      · rw [hv, decide_eq_true rfl]; exact (beq_self_eq_true _).symm
      · rw [decide_eq_false hv]; exact (beq_eq_false_iff_ne.2 fun e => hv (Int.ofNat.inj e)).symm
    have HRE := Lib.hid hre
    clear hre
    by_cases h46 : i = 46
    · have d46 : ((i : Int) == 46) = true := by rw [h46]; rfl
      obtain rfl : kE = 2 := HK.out.1 h46
      clear h46
      go_upto_region 6 with (go_at_call 72; with_reducible refine (kF _).mono ?_; rintro e w2 ⟨rfl, rfl⟩)
      refine region_quiet_tail (Below w1.heap.size w1) 8 (by kernel_rfl) (by kernel_rfl) (below_drewN (Below.refl _ _) 1) ?_
      simp only [List.take_succ_cons, List.take_zero, List.drop_succ_cons, List.drop_zero]
      refine wpQ_move _ rfl rfl (.int .u32 (x : Int)) rfl ?_
      simp only [Act.put, List.setIfInBounds_toArray, List.set_cons_zero, List.set_cons_succ]
      refine wpQ_move _ rfl rfl (.int .i64 2) rfl ?_
      simp only [Act.put, List.setIfInBounds_toArray, List.set_cons_zero, List.set_cons_succ]
      refine wpQ_build 115 rfl rfl (.agg #[.int .i64 0, .int .i64 0, .int .i64 0, .int .i64 0, .int .u32 0]) (fun W _ => zero_inst W) ?_
      simp only [Act.put, List.setIfInBounds_toArray, List.set_cons_zero, List.set_cons_succ]
      refine wpQ_fn 99 _ _ rfl rfl #[.int .u32 (x : Int), .int .i64 2, .agg #[.int .i64 0, .int .i64 0, .int .i64 0, .int .i64 0, .int .u32 0]] rfl (fun _ => by go_simp) (.int .u32 (v : Int)) (fun w' hC => (kW w').mono fun e w'' ⟨he, hb⟩ => ⟨he, below_class hC hb⟩) ?_
      simp only [Act.put, List.setIfInBounds_toArray, List.set_cons_zero, List.set_cons_succ]
      refine wpQ_move _ rfl rfl (.int .i64 (i : Int)) rfl ?_
      simp only [Act.put, List.setIfInBounds_toArray, List.set_cons_zero, List.set_cons_succ]
      refine wpQ_val rfl (.pointer (some ⟨0, i, none⟩)) (fun w' _ => by go_simp) ?_
      simp only [Act.put, List.setIfInBounds_toArray, List.set_cons_zero, List.set_cons_succ]
      refine wpQ_val rfl (.int .u32 (m : Int)) (fun w' hC => by
        have hcell : w'.cell? ⟨0, i, none⟩ = some (.int .u32 (m : Int)) := (hC.cell (p := ⟨0, i, none⟩) HT1.out.size).trans HC1.out
        go_simp) ?_
      simp only [Act.put, List.setIfInBounds_toArray, List.set_cons_zero, List.set_cons_succ]
      refine wpQ_val rfl (.bool ((v : Int) == (m : Int))) (fun w' _ => by go_simp) ?_
      simp only [Act.put, List.setIfInBounds_toArray, List.set_cons_zero, List.set_cons_succ]
      refine wpQuiet_nil ?_
      intro w' hC
      go_wp2_with fail
      go_ret
      exact ⟨by rw [HRE.out]; rfl, HB.out.trans (hC.mono HB.out.size)⟩
    · have d46 : ((i : Int) == 46) = false := beq_eq_false_iff_ne.2 (by omega)
      obtain rfl : kE = k := HK.out.2 h46
      clear h46
      go_upto_region 6 with (go_at_call 72; with_reducible refine (kF _).mono ?_; rintro e w2 ⟨rfl, rfl⟩)
      refine region_quiet_tail (Below w1.heap.size w1) 8 (by kernel_rfl) (by kernel_rfl) (below_drewN (Below.refl _ _) 1) ?_
      simp only [List.take_succ_cons, List.take_zero, List.drop_succ_cons, List.drop_zero]
      refine wpQ_move _ rfl rfl (.int .u32 (x : Int)) rfl ?_
      simp only [Act.put, List.setIfInBounds_toArray, List.set_cons_zero, List.set_cons_succ]
      refine wpQ_move _ rfl rfl (.int .i64 (kE : Int)) rfl ?_
      simp only [Act.put, List.setIfInBounds_toArray, List.set_cons_zero, List.set_cons_succ]
      refine wpQ_build 115 rfl rfl (.agg #[.int .i64 0, .int .i64 0, .int .i64 0, .int .i64 0, .int .u32 0]) (fun W _ => zero_inst W) ?_
      simp only [Act.put, List.setIfInBounds_toArray, List.set_cons_zero, List.set_cons_succ]
      refine wpQ_fn 99 _ _ rfl rfl #[.int .u32 (x : Int), .int .i64 (kE : Int), .agg #[.int .i64 0, .int .i64 0, .int .i64 0, .int .i64 0, .int .u32 0]] rfl (fun _ => by go_simp) (.int .u32 (v : Int)) (fun w' hC => (kW w').mono fun e w'' ⟨he, hb⟩ => ⟨he, below_class hC hb⟩) ?_
      simp only [Act.put, List.setIfInBounds_toArray, List.set_cons_zero, List.set_cons_succ]
      refine wpQ_move _ rfl rfl (.int .i64 (i : Int)) rfl ?_
      simp only [Act.put, List.setIfInBounds_toArray, List.set_cons_zero, List.set_cons_succ]
      refine wpQ_val rfl (.pointer (some ⟨0, i, none⟩)) (fun w' _ => by go_simp) ?_
      simp only [Act.put, List.setIfInBounds_toArray, List.set_cons_zero, List.set_cons_succ]
      refine wpQ_val rfl (.int .u32 (m : Int)) (fun w' hC => by
        have hcell : w'.cell? ⟨0, i, none⟩ = some (.int .u32 (m : Int)) := (hC.cell (p := ⟨0, i, none⟩) HT1.out.size).trans HC1.out
        go_simp) ?_
      simp only [Act.put, List.setIfInBounds_toArray, List.set_cons_zero, List.set_cons_succ]
      refine wpQ_val rfl (.bool ((v : Int) == (m : Int))) (fun w' _ => by go_simp) ?_
      simp only [Act.put, List.setIfInBounds_toArray, List.set_cons_zero, List.set_cons_succ]
      refine wpQuiet_nil ?_
      intro w' hC
      go_wp2_with fail
      go_ret
      exact ⟨by rw [HRE.out]; rfl, HB.out.trans (hC.mono HB.out.size)⟩
  · have dq : ((qx : Int) != (qm : Int)) = true := by
      rw [bne_iff_ne]
      intro e
      exact hq (Int.ofNat.inj e)
    go_wp2_with fail
    go_ret
    exact ⟨by rw [HNO.out hq]; rfl, below_drawn w nq⟩
end Go.Proofs.YtgpofoggfifnjaaGreatDoor
namespace Go.Proofs.YtgpofoggfifnjaaGreatDoor
open Go Go.RowKit

theorem insW_zero (x : Nat) : tab 5 (insW x 0) = tab 5 (insA 0 0 0 0 0) := rfl
set_option maxRecDepth 100000 in
set_option maxHeartbeats 4000000 in
theorem adecode_any (x : Nat) (w : World) (hT : TabW w) (hx : x < 4294967296) :
    Calls Tryz.prog 55 #[.int .u32 (x : Int)] w fun e w' => e = .returned (.agg (tab 5 (insW x (opOf x)))) ∧ Below w.heap.size w w' := by
  have kE := fun (i : Nat) (h1 : 1 ≤ i) (h2 : i < 57) (W : World) (hT : TabW W) => encodes_any x i W hT hx h1 h2
  have kF := fun (i : Nat) (h1 : 1 ≤ i) (h2 : i < 57) (W : World) => fieldsOf_any x i W hx h1 h2
  have KE := Lib.hid kE
  have KF := Lib.hid kF
  have HT := Lib.hid hT
  clear kE kF hT
  go_enter Tryz.func55, Tryz.ntmps55
  go_wp2_with fail
  go_loopw [3] (fun ct wr => ∃ i : Nat, 1 ≤ i ∧ i ≤ 57 ∧ ct = .int .i64 (i : Int) ∧ (∀ j, 1 ≤ j → j < i → mtchB x j = false) ∧ TabW wr ∧ Has wr w.heap.size 115 (tab 5 (insA 0 0 0 0 0)) ∧ Below w.heap.size w wr) (fun ct _ => (57 - (intOf ct)).toNat)
  case atStart => exact ⟨1, by omega, by omega, rfl, fun j h1 h2 => by omega, HT.out.below ((Below.refl _ _).alloc (Nat.le_refl _) _), Has.new w 115 (tab 5 (insA 0 0 0 0 0)), (Below.refl _ _).alloc (Nat.le_refl _) _⟩
  case round =>
    obtain ⟨i, h1, hi, rfl, hn, hT, hR, hb⟩ := hrel
    by_cases hlt : i < 57
    · have di : (i : Int) < 57 := by omega
      have kE := KE.out i h1 hlt wr hT
      have kF := KF.out i h1 hlt
      have HN := Lib.hid hn
      have HR := Lib.hid hR
      have HB := Lib.hid hb
      have HTr := Lib.hid hT
      clear hn hR hb hT
      cases hm : mtchB x i with
      | true =>
        rw [hm] at kE
        have hop := opOf_some h1 hlt hm HN.out
        have HOP := Lib.hid hop
        clear hm hop
        go_wp2_with (go_at_call 82; with_reducible refine kE.mono ?_; rintro e w2 ⟨rfl, hb2⟩)
        refine (kF _).mono ?_
        rintro e w3 ⟨rfl, hb3⟩
        have hR3 := (HR.out.below hb2 HR.out.lt).below hb3 (HR.out.below hb2 HR.out.lt).lt
        have hbb := (HB.out.trans (hb2.mono HB.out.size)).trans (hb3.mono (Nat.le_trans HB.out.size hb2.size))
        have HR3 := Lib.hid hR3
        have HBB := Lib.hid hbb
        clear hR3 hbb hb2 hb3
        go_wp2_with (refine wp_store_tab rfl 115 _ _ rfl w.heap.size 0 rfl 5 (insW x i) rfl 5 (insA 0 0 0 0 0) 115 HR3.out infoIa5 (by omega) (insA_one _ _ _ _ _) ?_; intro w9 hG9 hg9)
        rw [tab5_all] at hG9
        exact bodyPost_ret (results_cell_row rfl _ _ w.heap.size 115 _ _ _ rfl hG9 Tryz.underlying115 rfl infoIa5) rfl ⟨by rw [HOP.out], below_fin hg9 HBB.out (Nat.le_refl _)⟩
      | false =>
        rw [hm] at kE
        have HM := Lib.hid hm
        clear hm
        go_wp2_with (go_at_call 82; with_reducible refine kE.mono ?_; rintro e w2 ⟨rfl, hb2⟩)
        go_roundw
        case rel => exact ⟨i + 1, by omega, by omega, by go_num, fun j hj1 hj => if h : j = i then h ▸ HM.out else HN.out j hj1 (by omega), HTr.out.below hb2, HR.out.below hb2 HR.out.lt, HB.out.trans (hb2.mono HB.out.size)⟩
        case measure => simp [intOf] <;> omega
    · obtain rfl : i = 57 := by omega
      go_wp2_with (refine wp_store_tab rfl 115 _ _ rfl w.heap.size 0 rfl 5 (insA 0 0 0 0 0) rfl 5 (insA 0 0 0 0 0) 115 hR infoIa5 (by omega) (insA_one _ _ _ _ _) ?_; intro w9 hG9 hg9)
      rw [tab5_all] at hG9
      exact bodyPost_ret (results_cell_row rfl _ _ w.heap.size 115 _ _ _ rfl hG9 Tryz.underlying115 rfl infoIa5) rfl ⟨by rw [opOf_none hn, insW_zero], below_fin hg9 hb (Nat.le_refl _)⟩
end Go.Proofs.YtgpofoggfifnjaaGreatDoor
