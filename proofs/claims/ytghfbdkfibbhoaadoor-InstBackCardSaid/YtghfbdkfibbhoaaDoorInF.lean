/-
Layer 11: the reference's Decode.
-/
import Derived.Test.YtghfbdkfibbhoaaDoorInC
import Derived.Test.YtghfbdkfibbhoaaDoorInE
import Derived.Deep.DeepCutAuto
namespace Go.Proofs.YtghfbdkfibbhoaaDoor
open Go Go.RowKit

/-- the word is of operation i -/
def mtchB (w i : Nat) : Bool := decide (w &&& maskN (opP i).1 = (opP i).2)
/-- the word's operation: the first that it is of, or 0 -/
def opOf (w : Nat) : Nat := ((List.range 57).find? (fun i => decide (1 ≤ i) && mtchB w i)).getD 0
theorem opOf_some {w i : Nat} (h1 : 1 ≤ i) (hi : i < 57) (hm : mtchB w i = true) (hn : ∀ j, 1 ≤ j → j < i → mtchB w j = false) : opOf w = i := by
  unfold opOf
  have h : (List.range 57).find? (fun i => decide (1 ≤ i) && mtchB w i) = some i := by
    rw [List.find?_range_eq_some]
    refine ⟨by simp [h1, hm], List.mem_range.2 hi, fun j hj => ?_⟩
    by_cases hj1 : 1 ≤ j
    · simp [hn j hj1 hj]
    · simp [hj1]
  rw [h]; rfl
theorem opOf_none {w : Nat} (hn : ∀ j, 1 ≤ j → j < 57 → mtchB w j = false) : opOf w = 0 := by
  unfold opOf
  have h : (List.range 57).find? (fun i => decide (1 ≤ i) && mtchB w i) = none := by
    rw [List.find?_eq_none]
    intro j hj
    by_cases hj1 : 1 ≤ j
    · simp [hn j hj1 (List.mem_range.1 hj)]
    · simp [hj1]
  rw [h]; rfl
def rdB : Fm → Bool
  | .U | .J | .I | .R | .T | .C | .Z => true
  | _ => false
def r1B : Fm → Bool
  | .I | .B | .S | .R | .T | .C | .Z => true
  | _ => false
def r2B : Fm → Bool
  | .B | .S | .R => true
  | _ => false
/-- the fields of a word of operation i and form f -/
def decF (w i : Nat) (f : Fm) : Nat → Value
  | 0 => .int .i64 (i : Int)
  | 1 => .int .i64 ((if rdB f then bitsN w 11 7 else 0 : Nat) : Int)
  | 2 => .int .i64 ((if r1B f then bitsN w 19 15 else 0 : Nat) : Int)
  | 3 => .int .i64 ((if r2B f then bitsN w 24 20 else 0 : Nat) : Int)
  | _ => .int .i64 (immZ f w)
def decV (w i : Nat) : Nat → Value := decF w i (opP i).1
theorem decV_zero (w : Nat) : tab 5 (decV w 0) = tab 5 (fun _ => .int .i64 0) := tab_ext _ _ _ fun j hj => by
  match j, hj with
  | 0, _ => rfl
  | 1, _ => rfl
  | 2, _ => rfl
  | 3, _ => rfl
  | 4, _ => rfl
theorem decF_one (x i : Nat) (f : Fm) : ∀ j, (decF x i f j).oneCell' = true
  | 0 => rfl
  | 1 => rfl
  | 2 => rfl
  | 3 => rfl
  | _ + 4 => rfl
/-- the same with the number apart -/
def decG (w i : Nat) (f : Fm) (z : Int) : Nat → Value
  | 0 => .int .i64 (i : Int)
  | 1 => .int .i64 ((if rdB f then bitsN w 11 7 else 0 : Nat) : Int)
  | 2 => .int .i64 ((if r1B f then bitsN w 19 15 else 0 : Nat) : Int)
  | 3 => .int .i64 ((if r2B f then bitsN w 24 20 else 0 : Nat) : Int)
  | _ => .int .i64 z
theorem decG_imm (w i : Nat) (f : Fm) : decG w i f (immZ f w) = decF w i f := funext fun j => by
  match j with
  | 0 => rfl
  | 1 => rfl
  | 2 => rfl
  | 3 => rfl
  | _ + 4 => rfl
theorem decG_one (x i : Nat) (f : Fm) (z : Int) : ∀ j, (decG x i f z j).oneCell' = true
  | 0 => rfl
  | 1 => rfl
  | 2 => rfl
  | 3 => rfl
  | _ + 4 => rfl
/-- what stands in the instruction at first -/
def st0 (i : Nat) (z : Int) : Nat → Value
  | 0 => .int .i64 (i : Int)
  | 4 => .int .i64 z
  | _ => .int .i64 0
theorem st0_one (i : Nat) (z : Int) : ∀ j, (st0 i z j).oneCell' = true := fun j => by
  unfold st0; split <;> rfl
theorem has_to {W : World} {g : Nat} {t : TypeId} {cs cs' : Array Value} (h : Has W g t cs) (e : cs = cs') : Has W g t cs' := e ▸ h
theorem i64_and_nat (a b : Nat) (ha : a < 4294967296) (hb : b < 4294967296) : bits .and .i64 (a : Int) (b : Int) = ((a &&& b : Nat) : Int) := by
  have hx : a &&& b ≤ a := Nat.and_le_left
  show IntKind.i64.wrap ((BitVec.ofInt 64 (a : Int) &&& BitVec.ofInt 64 (b : Int)).toNat : Int) = _
  rw [BitVec.toNat_and, ofInt_u64 a (by omega), ofInt_u64 b (by omega), IntWalk.i64_in _ (by omega)]
theorem size_alloc1 (w : World) (o : Obj) : (w.alloc o).heap.size = w.heap.size + 1 := Array.size_push _
theorem below_fin {a b c : World} {g : Nat} (k : b.grownBy c (some g)) (h : Below a.heap.size a b) (hg : a.heap.size ≤ g) : Below a.heap.size a c := below_only h k hg h.size
theorem infoIn5 : (Tryd.prog.info? 29).map (·.size) = some 5 := by kernel_rfl
theorem tab5_all {u v : Nat → Value} : tab 5 (fun j => if 0 ≤ j ∧ j < 0 + 5 then v (j - 0) else u j) = tab 5 v := tab_ext _ _ _ fun j hj => by rw [if_pos ⟨Nat.zero_le _, by omega⟩, Nat.sub_zero]
theorem wp_load_tabI {P : Program} {w : World} {ops : Array Oper} {rest : List Oper} {op : Oper} {a : Act} {Q : Exit → Act → World → Prop} (hgd : op.guard = none) (ty : TypeId) (x : Operand) (ho : op.op = .load ty x)
    (g : Nat) (hx : a.eval x = .pointer (some ⟨g, 0, none⟩)) (N : Nat) (f : Nat → Value) (t : TypeId) (hG : Has w g t (tab N f)) (d : TypeDesc) (hu : P.underlying ty = some d) (hd : d.isRow = true) (hi : (P.info? ty).map (·.size) = some N)
    (h : wpList P ops Q rest (a.put op.dst (.agg (tab N f))) w) : wpList P ops Q (op :: rest) a w := by
  have hr : w.rangeAt g 0 ((List.range N).map f) := by
    have := hG.range 0 N (by omega)
    simpa using this
  have hl := run_loadVar_mid (P := P) w g 0 ty _ d hr hu hd (by simpa using hi)
  refine wpList_plain hgd fun K hK => ?_
  unfold Oper.wp execOp
  simp only [ho, hx, Instr.loadAt, Instr.sureAddr, Sem.run_bind, Sem.run_pure, Result.andThen_ok, hl]
  exact hK _ _ h
theorem maskN_lt (f : Fm) : maskN f < 4294967296 := by cases f <;> decide
set_option maxRecDepth 100000 in
set_option maxHeartbeats 8000000 in
theorem decode_any (x : Nat) (w : World) (hx : x < 4294967296) :
    Calls Tryd.prog 11 #[.int .i64 (x : Int)] w fun e w' => e = .returned (.agg (tab 5 (decV x (opOf x)))) ∧ Below w.heap.size w w' := by
  have hL := fun W => list_any W
  have hM := fun W f => mask_any f W
  go_enter Tryd.func11, Tryd.ntmps11
  go_wp2_with (go_at_call 26; refine (hL _).mono ?_; rintro e w2 ⟨⟨g, rfl, hG, hg⟩, hb⟩)
  go_loopw [4] (fun ct wr => ∃ i : Nat, 1 ≤ i ∧ i ≤ 57 ∧ ct = .int .i64 (i : Int) ∧ (∀ j, 1 ≤ j → j < i → mtchB x j = false) ∧ LstP wr g ∧ Has wr w.heap.size 29 (tab 5 (fun _ => .int .i64 0)) ∧ Below w.heap.size w wr) (fun ct _ => (57 - (intOf ct)).toNat)
  case atStart => exact ⟨1, by omega, by omega, rfl, fun j h1 h2 => by omega, hG, (Has.new w 29 (tab 5 (fun _ => .int .i64 0))).below hb (by rw [size_alloc1]; omega), ((Below.refl _ _).alloc (Nat.le_refl _) _).trans (hb.mono (by rw [size_alloc1]; omega))⟩
  case round =>
    obtain ⟨i, h1, hi, rfl, hn, hG, hR, hb⟩ := hrel
    by_cases hlt : i < 57
    · have di : (i : Int) < 57 := by omega
      obtain ⟨hc0, hc1⟩ := opCells_get i hlt
      replace hc0 := (hG.cell (2 * i)).trans ((List.getElem?_toArray (xs := opCells)).trans hc0)
      replace hc1 := (hG.cell (2 * i + 1)).trans ((List.getElem?_toArray (xs := opCells)).trans hc1)
      have hf := maskN_lt (opP i).1
      have hm := i64_and_nat x (maskN (opP i).1) hx hf
      rw [Nat.mul_comm 2 i] at hc0 hc1
      obtain ⟨f, hfe⟩ : ∃ f, f = (opP i).1 := ⟨_, rfl⟩
      obtain ⟨m, hme⟩ : ∃ m, m = (opP i).2 := ⟨_, rfl⟩
      have hM := hM
      rw [← hfe] at hc0 hf hm
      rw [← hme] at hc1
      have HF := Lib.hid hfe
      have HM := Lib.hid hme
      clear hfe hme
      go_upto_region 6 with fail
      go_quiet (first | (go_at_call 30; exact Calls.quiet_of_same ((hM _ _).mono fun _ _ ⟨he, hw⟩ => ⟨he, hw.symm⟩)))
      by_cases hmt : mtchB x i = true
      · have dm : (((x &&& maskN f : Nat) : Int) != (m : Int)) = false := by
          have := of_decide_eq_true hmt
          rw [HF.out, HM.out, this]
          exact bne_self_eq_false _
        have hop := opOf_some h1 hlt hmt hn
        have HOP := Lib.hid hop
        clear hmt hn hop
        have hI := fun W => imm_any f x W hx
        obtain ⟨z, hz⟩ : ∃ z, z = immZ f x := ⟨_, rfl⟩
        rw [← hz] at hI
        have HZ := Lib.hid hz
        clear hz
        go_upto_region 8 with (first
          | (go_at_call 24; refine (hI _).mono ?_; rintro e w3 ⟨rfl, n1, rfl⟩)
          | (refine wp_store_tab rfl 29 _ _ rfl _ 0 rfl 5 (st0 i z) rfl 5 _ 29 (Has.new _ _ (tab 5 fun _ => .int .i64 0)) infoIn5 (by omega) (st0_one _ _) ?_; intro w4 hG6 hg6))
        rw [tab5_all] at hG6
        have hlt6 := hR.lt
        have hR4 : Has w4 w.heap.size 29 (tab 5 fun _ => .int .i64 0) := (hg6.block _ (Has.alloc (hR.drewN _) _).lt (fun e => by injection e with e; omega)).trans (Has.alloc (hR.drewN _) _)
        have hb4 : Below w.heap.size w w4 := below_only (Below.alloc (below_drewN hb _) hb.size _) hg6 (by omega) (by rw [size_alloc1]; have := hb.size; show _ ≤ wr.heap.size + 1; omega)
        have hne : w.heap.size ≠ wr.heap.size := by omega
        have c0 : w4.cell? ⟨wr.heap.size, 0, none⟩ = some (.int .i64 (i : Int)) := hG6.cellTab 0 (by omega)
        have c4 : w4.cell? ⟨wr.heap.size, 4, none⟩ = some (.int .i64 z) := hG6.cellTab 4 (by omega)
        have c1 : w4.cell? ⟨wr.heap.size, 1, none⟩ = some (.int .i64 0) := hG6.cellTab 1 (by omega)
        have c2 : w4.cell? ⟨wr.heap.size, 2, none⟩ = some (.int .i64 0) := hG6.cellTab 2 (by omega)
        have c3 : w4.cell? ⟨wr.heap.size, 3, none⟩ = some (.int .i64 0) := hG6.cellTab 3 (by omega)
        have f1 := hG6.free 1
        have f2 := hG6.free 2
        have f3 := hG6.free 3
        have hgl : w.heap.size ≤ wr.heap.size := hb.size
        have hB1 : ∀ W, Calls Tryd.prog 31 #[.int .i64 (x : Int), .int .i64 11, .int .i64 7] W fun e w' => e = .returned (.int .i64 ((bitsN x 11 7 : Nat) : Int)) ∧ ∃ n, w' = W.drewN n := fun W => bits_any x 11 7 W hx (by decide) (by decide)
        have hB2 : ∀ W, Calls Tryd.prog 31 #[.int .i64 (x : Int), .int .i64 19, .int .i64 15] W fun e w' => e = .returned (.int .i64 ((bitsN x 19 15 : Nat) : Int)) ∧ ∃ n, w' = W.drewN n := fun W => bits_any x 19 15 W hx (by decide) (by decide)
        have hB3 : ∀ W, Calls Tryd.prog 31 #[.int .i64 (x : Int), .int .i64 24, .int .i64 20] W fun e w' => e = .returned (.int .i64 ((bitsN x 24 20 : Nat) : Int)) ∧ ∃ n, w' = W.drewN n := fun W => bits_any x 24 20 W hx (by decide) (by decide)
        clear hL hM hI hG hR hb hg6 hc0 hc1 hg hf hm dm
        have HR4 := Lib.hid hR4
        have HB4 := Lib.hid hb4
        have HG6 := Lib.hid hG6
        clear hR4 hb4 hG6
        generalize wr.heap.size = g6 at *
        cases f <;> (unfold fmS)
        case O =>
          go_wp2_with (first
            | (go_at_call 31; with_reducible refine (hB1 _).mono ?_; rintro e w5 ⟨rfl, n5, rfl⟩)
            | (go_at_call 31; with_reducible refine (hB2 _).mono ?_; rintro e w5 ⟨rfl, n6, rfl⟩)
            | (go_at_call 31; with_reducible refine (hB3 _).mono ?_; rintro e w5 ⟨rfl, n7, rfl⟩)
            | (refine wp_store_tab rfl 29 _ _ rfl w.heap.size 0 rfl 5 (decG x i .O z) rfl 5 (fun _ => .int .i64 0) 29 (by repeat (first | exact HR4.out | with_reducible refine Has.far ?_ hne _ | with_reducible refine Has.drewN ?_ _)) infoIn5 (by omega) (decG_one _ _ _ _) ?_
               intro w9 hG9 hg9))
          rw [tab5_all] at hG9
          refine bodyPost_ret (results_cell_row rfl _ _ w.heap.size 29 _ _ _ rfl hG9 Tryd.underlying29 rfl infoIn5) rfl ⟨?_, ?_⟩
          · rw [HOP.out]; unfold decV; rw [← HF.out, ← decG_imm, ← HZ.out]
          · refine below_fin hg9 ?_ (Nat.le_refl _)
            repeat (first | exact HB4.out | with_reducible refine Below.setCell ?_ hgl _ | with_reducible refine below_drewN ?_ _)
        case U =>
          go_wp2_with (first
            | (go_at_call 31; with_reducible refine (hB1 _).mono ?_; rintro e w5 ⟨rfl, n5, rfl⟩)
            | (go_at_call 31; with_reducible refine (hB2 _).mono ?_; rintro e w5 ⟨rfl, n6, rfl⟩)
            | (go_at_call 31; with_reducible refine (hB3 _).mono ?_; rintro e w5 ⟨rfl, n7, rfl⟩)
            | (refine wp_store_tab rfl 29 _ _ rfl w.heap.size 0 rfl 5 (decG x i .U z) rfl 5 (fun _ => .int .i64 0) 29 (by repeat (first | exact HR4.out | with_reducible refine Has.far ?_ hne _ | with_reducible refine Has.drewN ?_ _)) infoIn5 (by omega) (decG_one _ _ _ _) ?_
               intro w9 hG9 hg9))
          rw [tab5_all] at hG9
          refine bodyPost_ret (results_cell_row rfl _ _ w.heap.size 29 _ _ _ rfl hG9 Tryd.underlying29 rfl infoIn5) rfl ⟨?_, ?_⟩
          · rw [HOP.out]; unfold decV; rw [← HF.out, ← decG_imm, ← HZ.out]
          · refine below_fin hg9 ?_ (Nat.le_refl _)
            repeat (first | exact HB4.out | with_reducible refine Below.setCell ?_ hgl _ | with_reducible refine below_drewN ?_ _)
        case J =>
          go_wp2_with (first
            | (go_at_call 31; with_reducible refine (hB1 _).mono ?_; rintro e w5 ⟨rfl, n5, rfl⟩)
            | (go_at_call 31; with_reducible refine (hB2 _).mono ?_; rintro e w5 ⟨rfl, n6, rfl⟩)
            | (go_at_call 31; with_reducible refine (hB3 _).mono ?_; rintro e w5 ⟨rfl, n7, rfl⟩)
            | (refine wp_store_tab rfl 29 _ _ rfl w.heap.size 0 rfl 5 (decG x i .J z) rfl 5 (fun _ => .int .i64 0) 29 (by repeat (first | exact HR4.out | with_reducible refine Has.far ?_ hne _ | with_reducible refine Has.drewN ?_ _)) infoIn5 (by omega) (decG_one _ _ _ _) ?_
               intro w9 hG9 hg9))
          rw [tab5_all] at hG9
          refine bodyPost_ret (results_cell_row rfl _ _ w.heap.size 29 _ _ _ rfl hG9 Tryd.underlying29 rfl infoIn5) rfl ⟨?_, ?_⟩
          · rw [HOP.out]; unfold decV; rw [← HF.out, ← decG_imm, ← HZ.out]
          · refine below_fin hg9 ?_ (Nat.le_refl _)
            repeat (first | exact HB4.out | with_reducible refine Below.setCell ?_ hgl _ | with_reducible refine below_drewN ?_ _)
        case I =>
          go_wp2_with (first
            | (go_at_call 31; with_reducible refine (hB1 _).mono ?_; rintro e w5 ⟨rfl, n5, rfl⟩)
            | (go_at_call 31; with_reducible refine (hB2 _).mono ?_; rintro e w5 ⟨rfl, n6, rfl⟩)
            | (go_at_call 31; with_reducible refine (hB3 _).mono ?_; rintro e w5 ⟨rfl, n7, rfl⟩)
            | (refine wp_store_tab rfl 29 _ _ rfl w.heap.size 0 rfl 5 (decG x i .I z) rfl 5 (fun _ => .int .i64 0) 29 (by repeat (first | exact HR4.out | with_reducible refine Has.far ?_ hne _ | with_reducible refine Has.drewN ?_ _)) infoIn5 (by omega) (decG_one _ _ _ _) ?_
               intro w9 hG9 hg9))
          rw [tab5_all] at hG9
          refine bodyPost_ret (results_cell_row rfl _ _ w.heap.size 29 _ _ _ rfl hG9 Tryd.underlying29 rfl infoIn5) rfl ⟨?_, ?_⟩
          · rw [HOP.out]; unfold decV; rw [← HF.out, ← decG_imm, ← HZ.out]
          · refine below_fin hg9 ?_ (Nat.le_refl _)
            repeat (first | exact HB4.out | with_reducible refine Below.setCell ?_ hgl _ | with_reducible refine below_drewN ?_ _)
        case B =>
          go_wp2_with (first
            | (go_at_call 31; with_reducible refine (hB1 _).mono ?_; rintro e w5 ⟨rfl, n5, rfl⟩)
            | (go_at_call 31; with_reducible refine (hB2 _).mono ?_; rintro e w5 ⟨rfl, n6, rfl⟩)
            | (go_at_call 31; with_reducible refine (hB3 _).mono ?_; rintro e w5 ⟨rfl, n7, rfl⟩)
            | (refine wp_store_tab rfl 29 _ _ rfl w.heap.size 0 rfl 5 (decG x i .B z) rfl 5 (fun _ => .int .i64 0) 29 (by repeat (first | exact HR4.out | with_reducible refine Has.far ?_ hne _ | with_reducible refine Has.drewN ?_ _)) infoIn5 (by omega) (decG_one _ _ _ _) ?_
               intro w9 hG9 hg9))
          rw [tab5_all] at hG9
          refine bodyPost_ret (results_cell_row rfl _ _ w.heap.size 29 _ _ _ rfl hG9 Tryd.underlying29 rfl infoIn5) rfl ⟨?_, ?_⟩
          · rw [HOP.out]; unfold decV; rw [← HF.out, ← decG_imm, ← HZ.out]
          · refine below_fin hg9 ?_ (Nat.le_refl _)
            repeat (first | exact HB4.out | with_reducible refine Below.setCell ?_ hgl _ | with_reducible refine below_drewN ?_ _)
        case S =>
          go_wp2_with (first
            | (go_at_call 31; with_reducible refine (hB1 _).mono ?_; rintro e w5 ⟨rfl, n5, rfl⟩)
            | (go_at_call 31; with_reducible refine (hB2 _).mono ?_; rintro e w5 ⟨rfl, n6, rfl⟩)
            | (go_at_call 31; with_reducible refine (hB3 _).mono ?_; rintro e w5 ⟨rfl, n7, rfl⟩)
            | (refine wp_store_tab rfl 29 _ _ rfl w.heap.size 0 rfl 5 (decG x i .S z) rfl 5 (fun _ => .int .i64 0) 29 (by repeat (first | exact HR4.out | with_reducible refine Has.far ?_ hne _ | with_reducible refine Has.drewN ?_ _)) infoIn5 (by omega) (decG_one _ _ _ _) ?_
               intro w9 hG9 hg9))
          rw [tab5_all] at hG9
          refine bodyPost_ret (results_cell_row rfl _ _ w.heap.size 29 _ _ _ rfl hG9 Tryd.underlying29 rfl infoIn5) rfl ⟨?_, ?_⟩
          · rw [HOP.out]; unfold decV; rw [← HF.out, ← decG_imm, ← HZ.out]
          · refine below_fin hg9 ?_ (Nat.le_refl _)
            repeat (first | exact HB4.out | with_reducible refine Below.setCell ?_ hgl _ | with_reducible refine below_drewN ?_ _)
        case T =>
          go_wp2_with (first
            | (go_at_call 31; with_reducible refine (hB1 _).mono ?_; rintro e w5 ⟨rfl, n5, rfl⟩)
            | (go_at_call 31; with_reducible refine (hB2 _).mono ?_; rintro e w5 ⟨rfl, n6, rfl⟩)
            | (go_at_call 31; with_reducible refine (hB3 _).mono ?_; rintro e w5 ⟨rfl, n7, rfl⟩)
            | (refine wp_store_tab rfl 29 _ _ rfl w.heap.size 0 rfl 5 (decG x i .T z) rfl 5 (fun _ => .int .i64 0) 29 (by repeat (first | exact HR4.out | with_reducible refine Has.far ?_ hne _ | with_reducible refine Has.drewN ?_ _)) infoIn5 (by omega) (decG_one _ _ _ _) ?_
               intro w9 hG9 hg9))
          rw [tab5_all] at hG9
          refine bodyPost_ret (results_cell_row rfl _ _ w.heap.size 29 _ _ _ rfl hG9 Tryd.underlying29 rfl infoIn5) rfl ⟨?_, ?_⟩
          · rw [HOP.out]; unfold decV; rw [← HF.out, ← decG_imm, ← HZ.out]
          · refine below_fin hg9 ?_ (Nat.le_refl _)
            repeat (first | exact HB4.out | with_reducible refine Below.setCell ?_ hgl _ | with_reducible refine below_drewN ?_ _)
        case R =>
          go_wp2_with (first
            | (go_at_call 31; with_reducible refine (hB1 _).mono ?_; rintro e w5 ⟨rfl, n5, rfl⟩)
            | (go_at_call 31; with_reducible refine (hB2 _).mono ?_; rintro e w5 ⟨rfl, n6, rfl⟩)
            | (go_at_call 31; with_reducible refine (hB3 _).mono ?_; rintro e w5 ⟨rfl, n7, rfl⟩)
            | (refine wp_store_tab rfl 29 _ _ rfl w.heap.size 0 rfl 5 (decG x i .R z) rfl 5 (fun _ => .int .i64 0) 29 (by repeat (first | exact HR4.out | with_reducible refine Has.far ?_ hne _ | with_reducible refine Has.drewN ?_ _)) infoIn5 (by omega) (decG_one _ _ _ _) ?_
               intro w9 hG9 hg9))
          rw [tab5_all] at hG9
          refine bodyPost_ret (results_cell_row rfl _ _ w.heap.size 29 _ _ _ rfl hG9 Tryd.underlying29 rfl infoIn5) rfl ⟨?_, ?_⟩
          · rw [HOP.out]; unfold decV; rw [← HF.out, ← decG_imm, ← HZ.out]
          · refine below_fin hg9 ?_ (Nat.le_refl _)
            repeat (first | exact HB4.out | with_reducible refine Below.setCell ?_ hgl _ | with_reducible refine below_drewN ?_ _)
        case F =>
          go_wp2_with (first
            | (go_at_call 31; with_reducible refine (hB1 _).mono ?_; rintro e w5 ⟨rfl, n5, rfl⟩)
            | (go_at_call 31; with_reducible refine (hB2 _).mono ?_; rintro e w5 ⟨rfl, n6, rfl⟩)
            | (go_at_call 31; with_reducible refine (hB3 _).mono ?_; rintro e w5 ⟨rfl, n7, rfl⟩)
            | (refine wp_store_tab rfl 29 _ _ rfl w.heap.size 0 rfl 5 (decG x i .F z) rfl 5 (fun _ => .int .i64 0) 29 (by repeat (first | exact HR4.out | with_reducible refine Has.far ?_ hne _ | with_reducible refine Has.drewN ?_ _)) infoIn5 (by omega) (decG_one _ _ _ _) ?_
               intro w9 hG9 hg9))
          rw [tab5_all] at hG9
          refine bodyPost_ret (results_cell_row rfl _ _ w.heap.size 29 _ _ _ rfl hG9 Tryd.underlying29 rfl infoIn5) rfl ⟨?_, ?_⟩
          · rw [HOP.out]; unfold decV; rw [← HF.out, ← decG_imm, ← HZ.out]
          · refine below_fin hg9 ?_ (Nat.le_refl _)
            repeat (first | exact HB4.out | with_reducible refine Below.setCell ?_ hgl _ | with_reducible refine below_drewN ?_ _)
        case N =>
          go_wp2_with (first
            | (go_at_call 31; with_reducible refine (hB1 _).mono ?_; rintro e w5 ⟨rfl, n5, rfl⟩)
            | (go_at_call 31; with_reducible refine (hB2 _).mono ?_; rintro e w5 ⟨rfl, n6, rfl⟩)
            | (go_at_call 31; with_reducible refine (hB3 _).mono ?_; rintro e w5 ⟨rfl, n7, rfl⟩)
            | (refine wp_store_tab rfl 29 _ _ rfl w.heap.size 0 rfl 5 (decG x i .N z) rfl 5 (fun _ => .int .i64 0) 29 (by repeat (first | exact HR4.out | with_reducible refine Has.far ?_ hne _ | with_reducible refine Has.drewN ?_ _)) infoIn5 (by omega) (decG_one _ _ _ _) ?_
               intro w9 hG9 hg9))
          rw [tab5_all] at hG9
          refine bodyPost_ret (results_cell_row rfl _ _ w.heap.size 29 _ _ _ rfl hG9 Tryd.underlying29 rfl infoIn5) rfl ⟨?_, ?_⟩
          · rw [HOP.out]; unfold decV; rw [← HF.out, ← decG_imm, ← HZ.out]
          · refine below_fin hg9 ?_ (Nat.le_refl _)
            repeat (first | exact HB4.out | with_reducible refine Below.setCell ?_ hgl _ | with_reducible refine below_drewN ?_ _)
        case C =>
          go_wp2_with (first
            | (go_at_call 31; with_reducible refine (hB1 _).mono ?_; rintro e w5 ⟨rfl, n5, rfl⟩)
            | (go_at_call 31; with_reducible refine (hB2 _).mono ?_; rintro e w5 ⟨rfl, n6, rfl⟩)
            | (go_at_call 31; with_reducible refine (hB3 _).mono ?_; rintro e w5 ⟨rfl, n7, rfl⟩)
            | (refine wp_store_tab rfl 29 _ _ rfl w.heap.size 0 rfl 5 (decG x i .C z) rfl 5 (fun _ => .int .i64 0) 29 (by repeat (first | exact HR4.out | with_reducible refine Has.far ?_ hne _ | with_reducible refine Has.drewN ?_ _)) infoIn5 (by omega) (decG_one _ _ _ _) ?_
               intro w9 hG9 hg9))
          rw [tab5_all] at hG9
          refine bodyPost_ret (results_cell_row rfl _ _ w.heap.size 29 _ _ _ rfl hG9 Tryd.underlying29 rfl infoIn5) rfl ⟨?_, ?_⟩
          · rw [HOP.out]; unfold decV; rw [← HF.out, ← decG_imm, ← HZ.out]
          · refine below_fin hg9 ?_ (Nat.le_refl _)
            repeat (first | exact HB4.out | with_reducible refine Below.setCell ?_ hgl _ | with_reducible refine below_drewN ?_ _)
        case Z =>
          go_wp2_with (first
            | (go_at_call 31; with_reducible refine (hB1 _).mono ?_; rintro e w5 ⟨rfl, n5, rfl⟩)
            | (go_at_call 31; with_reducible refine (hB2 _).mono ?_; rintro e w5 ⟨rfl, n6, rfl⟩)
            | (go_at_call 31; with_reducible refine (hB3 _).mono ?_; rintro e w5 ⟨rfl, n7, rfl⟩)
            | (refine wp_store_tab rfl 29 _ _ rfl w.heap.size 0 rfl 5 (decG x i .Z z) rfl 5 (fun _ => .int .i64 0) 29 (by repeat (first | exact HR4.out | with_reducible refine Has.far ?_ hne _ | with_reducible refine Has.drewN ?_ _)) infoIn5 (by omega) (decG_one _ _ _ _) ?_
               intro w9 hG9 hg9))
          rw [tab5_all] at hG9
          refine bodyPost_ret (results_cell_row rfl _ _ w.heap.size 29 _ _ _ rfl hG9 Tryd.underlying29 rfl infoIn5) rfl ⟨?_, ?_⟩
          · rw [HOP.out]; unfold decV; rw [← HF.out, ← decG_imm, ← HZ.out]
          · refine below_fin hg9 ?_ (Nat.le_refl _)
            repeat (first | exact HB4.out | with_reducible refine Below.setCell ?_ hgl _ | with_reducible refine below_drewN ?_ _)
      · have dm : (((x &&& maskN f : Nat) : Int) != (m : Int)) = true := by
          rw [bne_iff_ne]
          intro e
          refine hmt (decide_eq_true ?_)
          rw [← HF.out, ← HM.out]
          exact Int.ofNat.inj e
        go_wp2_with fail
        go_roundw
        case rel => exact ⟨i + 1, by omega, by omega, by go_num, fun j hj1 hj => if h : j = i then h ▸ (Bool.eq_false_iff.2 hmt) else hn j hj1 (by omega), hG.drewN _, hR.drewN _, below_drewN hb _⟩
        case measure => simp [intOf] <;> omega
    · obtain rfl : i = 57 := by omega
      go_wp2_with (refine wp_store_tab rfl 29 _ _ rfl _ 0 rfl 5 (fun _ => .int .i64 0) rfl 5 _ 29 hR infoIn5 (by omega) (fun _ => rfl) ?_; intro w2 hG1 hg1)
      simp only [ite_self] at hG1
      exact bodyPost_ret (results_cell_row rfl _ _ w.heap.size 29 _ _ _ rfl hG1 Tryd.underlying29 rfl infoIn5) rfl ⟨by rw [opOf_none hn, decV_zero], below_only hb hg1 (Nat.le_refl _) hb.size⟩
end Go.Proofs.YtghfbdkfibbhoaaDoor
