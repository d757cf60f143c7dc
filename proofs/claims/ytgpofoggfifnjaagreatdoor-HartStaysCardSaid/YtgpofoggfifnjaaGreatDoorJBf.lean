/-
Layer 16: HartCounts over what the packages' calls answer.
-/
import Derived.Test.YtgpofoggfifnjaaGreatDoorJBe
import Derived.Test.YtgpofoggfifnjaaGreatDoorJAp
import Derived.Test.YtgpofoggfifnjaaGreatDoorJAh
import Derived.Test.YtgpofoggfifnjaaGreatDoorJAa
namespace Go.Proofs.YtgpofoggfifnjaaGreatDoor.Ha
open Go Go.RowKit
open Go.Proofs.YtgpofoggfifnjaaGreatDoor (opOf inR stM ldV stB RamP mP)
open Go.Proofs.YtgpofoggfifnjaaGreatDoor.Cs (St st0_ok upd upd_same upd_other dueC trapC tickC timC readC rM rM_in isK CsrOK Only S1 hP one_new new_stepS cell_heap cell_far)
open Go.Proofs.YtgpofoggfifnjaaGreatDoor.Pm (En SlC SlE enV en0 wp_fresh cellsL wp_build_el2)

theorem infoPr3 : (Tryz.prog.info? 65).map (fun i => (i.zero, i.size, i.bytes)) = some (some (.agg (tab 2 (prV (0, 0)))), 2, 8) := by kernel_rfl
theorem sta_cs (w : World) (b : Nat) (a : Sta) (t : Sls) (q : Pm.Sl) (l : List (Nat × Nat)) (H : Has w b 27 (staA a t)) : Has (w.setCell ⟨b, 4, none⟩ q.v) b 27 (staA { a with cs := l } { t with c := q }) := H.set 4 q.v
theorem cnt_sl (w : World) (ty : TypeId) : SlX (w.alloc (.cells (cellsL 2 prV [(772, 128), (773, 2147487744)]).toArray ty)) ⟨some ⟨w.heap.size, 0, none⟩, 2, 2⟩ cntL := by
  have H := Has.new w ty (cellsL 2 prV [(772, 128), (773, 2147487744)]).toArray
  refine ⟨rfl, ⟨⟨Nat.le_refl 2, (by decide : 2 ≤ 140737488355328)⟩, fun _ => ⟨w.heap.size, 0, rfl, H.lt, fun j i hj hi => ?_⟩⟩, ?_⟩
  · have hj : j < 2 := hj
    rcases (show j = 0 ∨ j = 1 by omega) with rfl | rfl <;> rcases (show i = 0 ∨ i = 1 by omega) with rfl | rfl
    · exact H.cell 0
    · exact H.cell 1
    · exact H.cell 2
    · exact H.cell 3
  · intro q hq
    simp only [cntL, List.mem_cons, List.not_mem_nil, or_false] at hq
    rcases hq with rfl | rfl <;> decide
theorem SlX.only {S : Nat → Prop} {w w' : World} {q : Pm.Sl} {l : List (Nat × Nat)} (h : SlX w q l) (k : Only S w w') (hn : ∀ b o, q.A = some ⟨b, o, none⟩ → ¬ S b) : SlX w' q l := by
  refine ⟨h.1, ⟨h.2.1.1, fun h0 => ?_⟩, h.2.2⟩
  obtain ⟨b, o, e, hl, hc⟩ := h.2.1.2 h0
  exact ⟨b, o, e, Nat.lt_of_lt_of_le hl k.size, fun j i hj hi => cell_only k (hc j i hj hi) (hn b o e)⟩
theorem hart_range {w : World} {p pc g : Nat} {x : Nat → Nat} {M : Option Nat} (H : Has w p 48 (tab 35 (hV x pc g M))) : w.rangeAt p 0 ((List.range 32).map fun j => (.int .u32 (x j : Int) : Value)) := fun i v hv => by
  have hi : i < 32 := by have := (List.getElem?_eq_some_iff.1 hv).1; simpa using this
  rw [Nat.zero_add, H.cellTab i (by omega), hV_x _ _ _ _ _ hi, ← hv]
  simp [hi]
def xV (x : Nat → Nat) (j : Nat) : Value := .int .u32 (x j : Int)
def xA (x : Nat → Nat) : Value := .agg (tab 32 (xV x))
theorem infoX : (Tryz.prog.info? 44).map (·.size) = some 32 := by kernel_rfl
theorem infoXz : (Tryz.prog.info? 44).map (fun i => (i.zero, i.size)) = some (some (xA fun _ => 0), 32) := by kernel_rfl
theorem zeroX (w : World) : (zeroValue 44).run Tryz.prog w = .ok (.agg (tab 32 (xV fun _ => 0))) w := (zero_of_info infoXz).1 w
theorem load_x {w : World} {p pc g : Nat} {x : Nat → Nat} {M : Option Nat} (H : Has w p 48 (tab 35 (hV x pc g M))) : (loadVar 44 ⟨p, 0, none⟩).run Tryz.prog w = .ok (xA x) w :=
  run_loadVar_mid w p 0 _ _ _ (hart_range H) Tryz.underlying44 rfl (by simpa using infoX)
theorem x_range {w : World} {b : Nat} {x : Nat → Nat} (H : Has w b 44 (tab 32 (xV x))) : w.rangeAt b 0 ((List.range 32).map (xV x)) := fun i v hv => by
  have hi : i < 32 := by have := (List.getElem?_eq_some_iff.1 hv).1; simpa using this
  rw [Nat.zero_add, H.cellTab i hi, ← hv]
  simp [hi]
theorem load_xb {w : World} {b : Nat} {x : Nat → Nat} (H : Has w b 44 (tab 32 (xV x))) : (loadVar 44 ⟨b, 0, none⟩).run Tryz.prog w = .ok (xA x) w :=
  run_loadVar_mid w b 0 _ _ _ (x_range H) Tryz.underlying44 rfl (by simpa using infoX)
theorem tr_range {w : World} {b : Nat} {d : Did} (H : Has w b 51 (tab 7 (trC d))) : w.rangeAt b 0 ((List.range 7).map (trC d)) := fun i v hv => by
  have hi : i < 7 := by have := (List.getElem?_eq_some_iff.1 hv).1; simpa using this
  rw [Nat.zero_add, H.cellTab i hi, ← hv]
  simp [hi]
theorem load_tr {w : World} {b : Nat} {d : Did} (H : Has w b 51 (tab 7 (trC d))) : (loadVar 51 ⟨b, 0, none⟩).run Tryz.prog w = .ok (trV d) w :=
  run_loadVar_mid w b 0 _ _ _ (tr_range H) Tryz.underlying51 rfl (by simpa using infoTr)
theorem and_not3 (v : Nat) (h : v < 4294967296) : bits .andNot .u32 (v : Int) 3 = ((v - v % 4 : Nat) : Int) := by
  rw [show (3 : Int) = ((3 : Nat) : Int) from rfl, u32_andNot_nat _ _ h (by decide)]
  refine congrArg (fun n : Nat => (n : Int)) ?_
  refine eq_bits (Nat.lt_of_le_of_lt Nat.and_le_left h) (by omega) fun i hi => ?_
  rw [show v - v % 4 = v / 2 ^ 2 * 2 ^ 2 by omega, Nat.testBit_and, Nat.testBit_mul_two_pow, Nat.testBit_div_two_pow]
  rw [show (4294967295 - 3 : Nat) = 2 ^ 32 - (3 + 1) by decide, Nat.testBit_two_pow_sub_succ (by decide), show (3 : Nat) = 2 ^ 2 - 1 by decide, Nat.testBit_two_pow_sub_one]
  by_cases h2 : 2 ≤ i
  · rw [show i - 2 + 2 = i by omega]
    simp [h2, hi, Nat.not_lt.2 h2]
  · simp [h2, Nat.lt_of_not_le h2]
/-- what the timer's trap tells -/
def trT : Array Value := #[.int .u32 0, .bool true, .int .u32 2147483655, .int .u32 0, .int .u32 0, .int .i64 0, .bool false]
theorem zeroTrC (w : World) : (zeroValue 51).run Tryz.prog w = .ok (.agg #[.int .u32 0, .bool false, .int .u32 0, .int .u32 0, .int .u32 0, .int .i64 0, .bool false]) w := zeroTr w
set_option maxRecDepth 100000 in
theorem eq_tr (W : World) (t u : Operand) : (do eqGuard .eql 51 t u (.agg trT) (.agg trT); binOp .eql 51 (.agg trT) (.agg trT)).run Tryz.prog W = .ok (.bool true) W := by
  unfold trT
  go_simp
theorem infoU : (Tryz.prog.info? 25).map (·.size) = some 1 := by kernel_rfl
set_option maxRecDepth 100000 in
theorem eq_x (x : Nat → Nat) (W : World) (t u : Operand) : (do eqGuard .eql 44 t u (xA x) (xA x); binOp .eql 44 (xA x) (xA x)).run Tryz.prog W = .ok (.bool true) W := by
  obtain ⟨i, hi, hs⟩ : ∃ i, Tryz.prog.info? 25 = some i ∧ i.size = 1 := by
    have h := infoU
    cases hq : Tryz.prog.info? 25 with
    | none => rw [hq] at h; cases h
    | some i => exact ⟨i, rfl, by simpa [hq] using h⟩
  have h := run_eql_tab (P := Tryz.prog) W 44 25 32 .u32 .u32 i (fun j => (x j : Int)) (fun j => (x j : Int)) Tryz.underlying44 Tryz.underlying25 hi hs
  rw [sameTo_refl] at h
  have hg : (eqGuard .eql 44 t u (xA x) (xA x)).run Tryz.prog W = .ok () W := by
    unfold xA
    go_simp
  rw [Sem.run_bind, hg]
  exact h
/-- a row is stored whole, in a drawn region -/
theorem store_tabS {P : Program} {w : World} {op : Oper} {a : Act} {K : Act → World → Prop} {Q : Exit → Act → World → Prop} (ty : TypeId) (x y : Operand) (ho : op.op = .store ty x y)
    (g off : Nat) (hx : a.eval x = .pointer (some ⟨g, off, none⟩)) (n : Nat) (v : Nat → Value) (hy : a.eval y = .agg (tab n v))
    (N : Nat) (f : Nat → Value) (t : TypeId) (hg : Has w g t (tab N f)) (hi : (P.info? ty).map (·.size) = some n) (hfit : off + n ≤ N) (h1 : ∀ j, (v j).oneCell' = true)
    (h : ∀ w', Has w' g t (tab N fun j => if off ≤ j ∧ j < off + n then v (j - off) else f j) → w.grownBy w' (some g) → K (a.put op.dst undef) w') : op.wp P a w K Q := by
  have hl : ((List.range n).map v).length = n := by simp
  have hrun := run_storeCells_at (P := P) g off t ((List.range n).map v) 0 (tab N f) w hg (by rw [hl, tab_size]; omega) (fun u hu => by obtain ⟨j, _, rfl⟩ := List.mem_map.1 hu; exact h1 j)
  have e := tab_splice N f v off n hfit
  rw [hl, Nat.add_zero, List.append_assoc, e] at hrun
  have hs : (storeVar ty ⟨g, off, none⟩ (.agg (tab n v))).run P w = .ok () (w.setRow g (tab N fun j => if off ≤ j ∧ j < off + n then v (j - off) else f j)) := by
    cases hq : P.info? ty with
    | none => simp [hq] at hi
    | some i =>
      have hs : i.size = n := by simpa [hq] using hi
      simp [storeVar, sizeOf, typeInfo, hq, Value.cells, hs, tab_size, tab_toList, hrun]
  unfold Oper.wp execOp
  simp only [ho, hx, hy, Instr.storeAt, Instr.sureAddr, Sem.run_bind, Sem.run_pure, Result.andThen_ok, hs]
  exact h _ (hg.setRow _) ⟨rfl, rfl, rfl, by simp, fun i _ hne => setRow_other w g i _ (fun e => hne (by rw [e]))⟩
set_option maxRecDepth 100000 in
set_option maxHeartbeats 8000000 in
theorem counts16_ok {Is : World → Nat → St → Prop} {W0 : World} (O : CsrOK Is) (K : HartOK Is W0) (a : Sta) (t : Sls) (n : Int) (tm : Bool) (w : World) (hW : Below W0.heap.size W0 w) (hS : StaOk w a t) (hn : -9223372036854775808 ≤ n ∧ n ≤ 9223372036854775807) :
    Calls Tryz.prog 6 #[.agg (staA a t), .int .i64 n, .bool tm] w fun e w' => e = .returned (.bool true) ∧ Below w.heap.size w w' := by
  obtain ⟨u, hu, hJ, hb0, hz0⟩ := one_new w (staA a t) 27
  replace hu := hu.symm
  obtain ⟨bs, hbs⟩ : ∃ b, b = w.heap.size := ⟨_, rfl⟩
  rw [← hbs] at hJ
  have hws := hW.size
  have hF := fit16_ok O K u (hW.trans (hb0.mono hws))
  have hSm := small16_any a t
  have HW := Lib.hid hW
  have HS0 := Lib.hid (hS.after hb0)
  have HSw := Lib.hid hS
  have HB0 := Lib.hid hb0
  have HJ := Lib.hid hJ
  have hbw := Lib.hid (show w.heap.size ≤ bs ∧ bs < u.heap.size by omega)
  clear hW hS hJ hb0 hz0
  go_enter Tryz.func6, Tryz.ntmps6
  have hu2 : w.alloc (.cells (staA a t) 27) = u := hu
  go_upto_region 1 with fail
  first | rw [hu2] | skip
  first | rw [← hbs] | skip
  clear hu hu2 hbs
  go_upto_region 3 with (go_at_call 7; refine hF.mono ?_; rintro e w1 ⟨rfl, hb1⟩)
  have hJ1 := HJ.out.after hb1
  have hS1 := HS0.out.after hb1
  have hB1 := HB0.out.trans (hb1.mono HB0.out.size)
  have hSm1 := hSm w1
  have HB1 := Lib.hid hB1
  have HS1 := Lib.hid hS1
  have h1s := hb1.size
  clear hF hb1 hB1 hS1 hSm
  by_cases hsm : smB t = true
  case neg =>
    rw [Bool.eq_false_iff.2 hsm] at hSm1
    clear hsm
    go_wp2_with (first
      | (refine wpList_load_has 27 _ rfl _ rfl rfl 27 _ hJ1 _ Tryz.underlying27 rfl (infoSt a t) ?_)
      | (go_at_call 8; refine hSm1.mono ?_; rintro e w2 ⟨rfl, hb2⟩))
    go_ret
    exact ⟨rfl, HB1.out.trans (hb2.mono HB1.out.size)⟩
  case pos =>
  rw [hsm] at hSm1
  go_upto_region 5 with (first
    | (refine wpList_load_has 27 _ rfl _ rfl rfl 27 _ hJ1 _ Tryz.underlying27 rfl (infoSt a t) ?_)
    | (go_at_call 8; refine hSm1.mono ?_; rintro e w2 ⟨rfl, hb2⟩))
  have hJ2 := hJ1.after hb2
  have hl2 := hJ2.lt
  obtain ⟨w3, hw3⟩ : ∃ W, W = w2.alloc (.cells (cellsL 2 prV [(772, 128), (773, 2147487744)]).toArray 65) := ⟨_, rfl⟩
  have hX3 : SlX w3 ⟨some ⟨w2.heap.size, 0, none⟩, 2, 2⟩ cntL := by rw [hw3]; exact cnt_sl w2 _
  have hb3 : Below w2.heap.size w2 w3 := by rw [hw3]; exact (Below.refl _ _).alloc (Nat.le_refl _) _
  have hJ3 := hJ2.after hb3
  have f4 : w3.frozen? ⟨bs, 4, none⟩ = false := hJ3.free 4
  have c4 : w3.cell? ⟨bs, 4, none⟩ = some t.c.v := hJ3.cell 4
  have hB3 : Below w.heap.size w w3 := (HB1.out.trans (hb2.mono HB1.out.size)).trans (hb3.mono (HB1.out.trans (hb2.mono HB1.out.size)).size)
  generalize hq : w2.heap.size = sl at *
  have hsl : bs ≠ sl := by omega
  have HB3 := Lib.hid hB3
  have HX3 := Lib.hid hX3
  have HJ3 := Lib.hid hJ3
  clear hSm1 hJ1 hJ2 hb2 hb3 hB3 hX3 hJ3 hl2
  go_upto_region 6 with (first
    | (refine wp_build_el2 (f := prV) (k := 2) Tryz.underlying23 infoPr3 (by decide) (by decide) rfl _ _ rfl (772, 128) (773, 2147487744) rfl rfl ?_
       intro w3' hw3'
       rw [show w3' = w3 from hw3'.trans hw3.symm, hq]
       clear hw3' hw3
       clear w3'))
  obtain ⟨w4, hw4⟩ : ∃ W, W = w3.setCell ⟨bs, 4, none⟩ (.slice (some ⟨sl, 0, none⟩) 2 2) := ⟨_, rfl⟩
  have hJ4 : Has w4 bs 27 (staA { a with cs := cntL } { t with c := ⟨some ⟨sl, 0, none⟩, 2, 2⟩ }) := by rw [hw4]; exact sta_cs w3 bs a t ⟨some ⟨sl, 0, none⟩, 2, 2⟩ cntL HJ3.out
  have hO4 : Only (S1 bs) w3 w4 := by rw [hw4]; exact Only.setCell (S := S1 bs) _ (show S1 bs bs from rfl) _
  have hX4 := HX3.out.only hO4 (fun b o e h => by injection e with e; injection e with e; exact hsl (by rw [e]; exact h.symm))
  rw [← hw4]
  clear hw4
  have f3 : w4.frozen? ⟨bs, 3, none⟩ = false := hJ4.free 3
  have c3 : w4.cell? ⟨bs, 3, none⟩ = some (.bool a.user) := hJ4.cell 3
  have hB4 : Below w.heap.size w w4 := HB3.out.trans (hO4.below (fun i e => by have e : i = bs := e; have := hbw.out.1; omega) HB3.out.size)
  obtain ⟨w5, hw5⟩ : ∃ W, W = w4.setCell ⟨bs, 3, none⟩ (.bool true) := ⟨_, rfl⟩
  have hJ5 : Has w5 bs 27 (staA { a with cs := cntL, user := true } { t with c := ⟨some ⟨sl, 0, none⟩, 2, 2⟩ }) := by rw [hw5]; exact sta_user w4 bs _ _ hJ4
  have hO5 : Only (S1 bs) w4 w5 := by rw [hw5]; exact Only.setCell (S := S1 bs) _ (show S1 bs bs from rfl) _
  have hB5 : Below w.heap.size w w5 := hB4.trans (hO5.below (fun i e => by have e : i = bs := e; have := hbw.out.1; omega) hB4.size)
  have hX5 := hX4.only hO5 (fun b o e h => by injection e with e; injection e with e; exact hsl (by rw [e]; exact h.symm))
  have hS5 : StaOk w5 { a with cs := cntL, user := true } { t with c := ⟨some ⟨sl, 0, none⟩, 2, 2⟩ } := by
    have h := HSw.out.after hB5
    exact ⟨h.w, h.x, h.l, hX5, h.pc⟩
  have hsm5 : smB { t with c := ⟨some ⟨sl, 0, none⟩, 2, 2⟩ } = true := by
    unfold smB at hsm ⊢
    simp only [Bool.and_eq_true, decide_eq_true_eq] at hsm ⊢
    exact ⟨hsm.1, by decide⟩
  have hbg := begin_any O K { a with cs := cntL, user := true } { t with c := ⟨some ⟨sl, 0, none⟩, 2, 2⟩ } _ (HW.out.trans (hB5.mono hws)) hS5 hsm5
  have hC0 := cnt0 a
  unfold BegO at hbg
  generalize begS { a with cs := cntL, user := true } = s0 at *
  have HB5 := Lib.hid hB5
  have HW5 := Lib.hid hw5
  clear hw5 c4 f4 hJ4 hO4 hX4 hB4 hO5 hB5 hX5 hS5 hsm hsm5
  go_upto_region 7 with fail
  rw [← HW5.out]
  clear f3 c3 HW5
  go_upto_region 8 with (first
    | (refine wpList_load_has 27 _ rfl _ rfl rfl 27 _ hJ5 _ Tryz.underlying27 rfl (infoSt _ _) ?_)
    | (go_at_call 9; refine hbg.mono ?_; rintro e w6 ⟨pp, p, q, g, gm, x, m, rfl, hP6, hH6, hI6, hM6, hx0, hxl, hne, hlo, hb6⟩))
  clear hJ5 hbg
  have hB6 := HB5.out.trans (hb6.mono HB5.out.size)
  have h5w := HB5.out.size
  have hlo2 : w.heap.size ≤ pp ∧ w.heap.size ≤ p ∧ w.heap.size ≤ g ∧ w.heap.size ≤ gm := by omega
  have HNE := Lib.hid hne
  have HLO := Lib.hid hlo2
  obtain ⟨nt, N, k1, k2, k3, k4⟩ := steps_n n hn
  have k2a := k2.1
  have k2b := k2.2
  have HP6 := Lib.hid hP6
  have HB6 := Lib.hid hB6
  have hz := zeroTr
  have hpc0 : (2147487744 + a.pc) % L32 < L32 := Nat.mod_lt _ (by decide)
  generalize (2147487744 + a.pc) % L32 = pc at *
  clear hne hlo hlo2 hb6 h5w hP6 hB6 k2 hn
  go_upto_region 11 with fail
  go_loopw [8, 36] (fun dt ct wv => ∃ i d : Nat, i ≤ N ∧ d ≤ i ∧ ct = .int .i64 (i : Int) ∧ dt = .int .i64 (d : Int) ∧ (∃ (x : Nat → Nat) (pc : Nat) (s : St) (m : Nat → UInt8), Has wv p 48 (tab 35 (hV x pc g (some gm))) ∧ Is wv g s ∧ RamP wv gm m ∧ XOk x ∧ pc < L32 ∧ Cnt s i d) ∧ Only (SH p g gm) w6 wv) (fun _ ct _ => (N - (intOf ct)).toNat)
  case atStart => exact ⟨0, 0, Nat.zero_le _, Nat.le_refl _, rfl, rfl, ⟨x, pc, s0, m, hH6, hI6, hM6, ⟨hxl, hx0⟩, hpc0, hC0⟩, Only.refl _ _⟩
  case round =>
    obtain ⟨i, d, hi, hdi, rfl, rfl, ⟨x, pc, s, m, hH1, hI1, hM1, hxl, hpc, hC⟩, hO1⟩ := hrel
    have hPr := hO1.has HP6.out (fun e => by have h := HNE.out; rcases e with e | e | e <;> omega)
    have pc0 : wr.cell? ⟨pp, 0, none⟩ = some (.pointer (some ⟨p, 0, none⟩)) := hPr.cell 0
    have pg : wr.cell? ⟨p, 33, none⟩ = some (.pointer (some ⟨g, 0, none⟩)) := hH1.cellTab 33 (by decide)
    have hBr := HB6.out.trans (hO1.below (sh_ge HLO.out.2) HB6.out.size)
    by_cases hlt : i < N
    · have di : (i : Int) < (N : Int) := by omega
      have hst := K.step wr p g gm pc x s m (HW.out.trans (hBr.mono hws)) hH1 hI1 hM1 HNE.out.1 HNE.out.2.1 HNE.out.2.2.1 (by have := HLO.out; omega) (by have := HLO.out; omega) (by have := HLO.out; omega) hxl hpc (Or.inl hC.mode)
      have hway : Way x pc s m (stepR x pc s m) := step_way hpc hxl.lt
      have hok := O.ok hI1
      generalize stepR x pc s m = R at *
      have hCR := hC.step hway (by omega) (by omega)
      have hxR := hway.x_ok hxl
      have hpR := hway.pc_lt hok
      have HCR := Lib.hid (And.intro hCR (And.intro hxR hpR))
      clear hway hok hC hCR hxR hpR hH1 hI1 hM1 hxl hpc
      obtain ⟨d', hd'⟩ : ∃ k, k = if R.d.trap = true then d else d + 1 := ⟨_, rfl⟩
      rw [← hd'] at HCR
      go_upto_region 13 with (first
        | (go_at_call 11; refine hst.mono ?_; rintro e u5 ⟨rfl, ⟨hH5', hI5', hM5'⟩, hO5'⟩)
        | (refine wp_fresh 51 7 (trC R.d) _ _ _ rfl rfl rfl rfl hz infoTr (by decide) (trC_one _) rfl rfl ?_
           intro u6 hT6 hb6 hlt6
           go_frame))
      have hPs := (hO5'.has hPr (fun e => by have h := HNE.out; rcases e with e | e | e <;> omega)).after hb6
      have hHs := hH5'.after hb6
      have hIs := O.below hI5' hb6
      have hMs := ram_only hM5' (Only.of_below (S := fun _ => False) hb6) (fun h => h)
      have hOs : Only (SH p g gm) w6 u6 := (hO1.trans hO5').trans (Only.of_below hb6)
      clear pc0 pg hst hb6 hlt6 hH5' hI5' hM5' hO5' hPr hBr hO1
      generalize u5.heap.size = tb at *
      have te : u6.cell? ⟨tb, 1, none⟩ = some (.bool R.d.trap) := hT6.cellTab 1 (by decide)
      have pc0 : u6.cell? ⟨pp, 0, none⟩ = some (.pointer (some ⟨p, 0, none⟩)) := hPs.cell 0
      have pg : u6.cell? ⟨p, 33, none⟩ = some (.pointer (some ⟨g, 0, none⟩)) := hHs.cellTab 33 (by decide)
      have g0 := (O.mode hIs).1
      have g1 := (O.mode hIs).2
      have HI7 := Lib.hid (O.setMode 0 hIs (Or.inl rfl))
      have HH7 := Lib.hid ((Only.setCell (S := S1 g) (a := ⟨g, 0, none⟩) u6 (show S1 g g from rfl) (.int .i64 ((0 : Nat) : Int))).has hHs (fun e => HNE.out.1 e))
      have HM7 := Lib.hid (ram_only hMs (Only.setCell (S := S1 g) (a := ⟨g, 0, none⟩) u6 (show S1 g g from rfl) (.int .i64 ((0 : Nat) : Int))) (fun e => HNE.out.2.2.1 (Eq.symm e)))
      have HO7 := Lib.hid (hOs.trans (Only.setCell (S := SH p g gm) (a := ⟨g, 0, none⟩) u6 (Or.inr (Or.inl rfl)) (.int .i64 ((0 : Nat) : Int))))
      clear hPs hHs hIs hMs hOs hT6
      by_cases htr : R.d.trap = true
      · rw [htr] at te
        rw [if_pos htr] at hd'
        subst hd'
        clear htr
        go_wp2_with fail
        go_roundw
        case rel => exact ⟨i + 1, d', hlt, by omega, by go_num, by go_num, ⟨R.x, R.pc, { R.s with mode := 0 }, R.m, HH7.out, HI7.out, HM7.out, HCR.out.2.1, HCR.out.2.2, HCR.out.1⟩, HO7.out⟩
        case measure => simp [intOf] <;> omega
      · rw [if_neg htr] at hd'
        rw [Bool.eq_false_iff.2 htr] at te
        have hdI : (d : Int) < 60 := by omega
        clear htr
        go_wp2_with fail
        go_roundw
        case rel => exact ⟨i + 1, d', hlt, by omega, by go_num, by go_num, ⟨R.x, R.pc, { R.s with mode := 0 }, R.m, HH7.out, HI7.out, HM7.out, HCR.out.2.1, HCR.out.2.2, HCR.out.1⟩, HO7.out⟩
        case measure => simp [intOf] <;> omega
    · obtain rfl : i = N := by omega
      obtain ⟨q1, q2⟩ := hC.reads (by omega) (by omega)
      have r1 := O.read wr g s 2816 hI1 (by decide)
      rw [q1] at r1
      dsimp only [Option.getD_some, Option.isSome_some] at r1
      generalize hu1 : wr = u1 at *
      clear hu1
      go_upto_region 18 with (go_at_call 16; refine r1.mono ?_; rintro e u2 ⟨rfl, hb2⟩)
      have hI2 := O.below hI1 hb2
      have hP2 := hPr.after hb2
      have hH2 := hH1.after hb2
      have hM2 := ram_only hM1 (Only.of_below (S := fun _ => False) hb2) (fun h => h)
      have hB2 := hBr.trans (hb2.mono hBr.size)
      clear pc0 pg r1 hb2 hI1 hPr hH1 hM1 hBr hO1
      have pc0 : u2.cell? ⟨pp, 0, none⟩ = some (.pointer (some ⟨p, 0, none⟩)) := hP2.cell 0
      have pg : u2.cell? ⟨p, 33, none⟩ = some (.pointer (some ⟨g, 0, none⟩)) := hH2.cellTab 33 (by decide)
      have r2 := O.read u2 g s 2818 hI2 (by decide)
      rw [q2] at r2
      dsimp only [Option.getD_some, Option.isSome_some] at r2
      go_upto_region 19 with (go_at_call 16; refine r2.mono ?_; rintro e u3 ⟨rfl, hb3⟩)
      have hI3 := O.below hI2 hb3
      have hP3 := hP2.after hb3
      have hH3 := hH2.after hb3
      have hM3 := ram_only hM2 (Only.of_below (S := fun _ => False) hb3) (fun h => h)
      have hB3 := hB2.trans (hb3.mono hB2.size)
      clear pc0 pg r2 hb3 hI2 hP2 hH2 hM2 hB2 q1 q2
      have pc0 : u3.cell? ⟨pp, 0, none⟩ = some (.pointer (some ⟨p, 0, none⟩)) := hP3.cell 0
      have pg : u3.cell? ⟨p, 33, none⟩ = some (.pointer (some ⟨g, 0, none⟩)) := hH3.cellTab 33 (by decide)
      have hwN : IntKind.i64.wrap (i : Int) = (i : Int) := IntWalk.i64_in _ (by omega)
      have hwd : IntKind.i64.wrap (d : Int) = (d : Int) := IntWalk.i64_in _ (by omega)
      have r3 := O.timer u3 g s tm hI3
      go_upto_region 22 with (go_at_call 18; refine r3.mono ?_; rintro e u4 ⟨rfl, hI4, hO4⟩)
      have hP4 := hO4.has hP3 (fun e => HNE.out.2.2.2.2.1 e)
      have hH4 := hO4.has hH3 (fun e => HNE.out.1 e)
      have hM4 := ram_only hM3 hO4 (fun e => HNE.out.2.2.1 (Eq.symm e))
      have hB4 := hB3.trans (hO4.below (fun i e => by have e : i = g := e; have := HLO.out; omega) hB3.size)
      have hmode : (timC s tm).mode = 0 := hC.mode
      have hst := fun v (hbv : Below u4.heap.size u4 v) => K.step v p g gm pc x (timC s tm) m (HW.out.trans ((hB4.trans (hbv.mono hB4.size)).mono hws)) (hH4.after hbv) (O.below hI4 hbv) (ram_only hM4 (Only.of_below (S := fun _ => False) hbv) (fun h => h)) HNE.out.1 HNE.out.2.1 HNE.out.2.2.1 (by have := HLO.out; omega) (by have := HLO.out; omega) (by have := HLO.out; omega) hxl hpc (Or.inl hmode)
      have hway : Way x pc (timC s tm) m (stepR x pc (timC s tm) m) := step_way hpc hxl.lt
      have hdue : dueC (timC s tm) = tm := hC.timer tm
      have hvec : (timC s tm).r 773 = 2147487744 := hC.vec_t tm
      generalize timC s tm = s1 at *
      clear hC hmode r3 pc0 pg hI3 hP3 hH3 hM3 hB3 hO4 hwN hwd
      have HH4 := Lib.hid hH4
      have pc4 : u4.cell? ⟨pp, 0, none⟩ = some (.pointer (some ⟨p, 0, none⟩)) := hP4.cell 0
      have hzx := zeroX
      refine region_chain (fun w' => (w'.cell? ⟨pp, 0, none⟩ = some (.pointer (some ⟨p, 0, none⟩)) ∧ Has w' p 48 (tab 35 (hV x pc g (some gm))))) [(0, .pointer (some ⟨pp, 0, none⟩)), (1, .pointer (some ⟨pp, 0, none⟩)), (2, .pointer (some ⟨pp, 0, none⟩)), (3, .pointer (some ⟨p, 0, none⟩)), (4, .pointer (some ⟨p, 0, none⟩)), (5, .pointer (some ⟨p, 0, none⟩)), (6, xA x), (7, .pointer (some ⟨pp, 0, none⟩)), (8, .pointer (some ⟨pp, 0, none⟩)), (9, .pointer (some ⟨pp, 0, none⟩)), (10, .pointer (some ⟨p, 0, none⟩)), (11, .pointer (some ⟨p, 0, none⟩)), (12, .pointer (some ⟨p, 32, none⟩)), (13, .int .u32 (pc : Int)), (16, .int .u32 (pc : Int))] [(14, fun xs w' => (∃ ba, (xs.getD 0 undef) = .pointer (some ⟨ba, 0, none⟩) ∧ u4.heap.size ≤ ba ∧ Has w' ba 44 (tab 32 (xV fun _ => 0))) ∧ (w'.cell? ⟨pp, 0, none⟩ = some (.pointer (some ⟨p, 0, none⟩)) ∧ Has w' p 48 (tab 35 (hV x pc g (some gm)))) ∧ Below u4.heap.size u4 w'), (15, fun xs w' => (∃ ba, (xs.getD 0 undef) = .pointer (some ⟨ba, 0, none⟩) ∧ u4.heap.size ≤ ba ∧ Has w' ba 44 (tab 32 (xV x))) ∧ (xs.getD 1 undef) = undef ∧ (w'.cell? ⟨pp, 0, none⟩ = some (.pointer (some ⟨p, 0, none⟩)) ∧ Has w' p 48 (tab 35 (hV x pc g (some gm)))) ∧ Below u4.heap.size u4 w')] (fun w' => (w'.cell? ⟨pp, 0, none⟩ = some (.pointer (some ⟨p, 0, none⟩)) ∧ Has w' p 48 (tab 35 (hV x pc g (some gm)))) ∧ Below u4.heap.size u4 w') 164 (by kernel_rfl) rfl (by kernel_rfl) (by kernel_rfl) ?_ ?_ ?_ ?_ ?_ ?_
      · intro w' hb he
        exact ⟨⟨(cell_heap he _).trans pc4, HH4.out.after hb⟩, hb⟩
      · exact fun w' h => h.1
      · simp only [List.forall_mem_cons, List.not_mem_nil, false_implies, implies_true, and_true]
        refine ⟨?_, ?_⟩
        · exact fun xs w' h => h.2.1
        · exact fun xs w' h => h.2.2.1
      · simp only [List.forall_mem_cons, List.not_mem_nil, false_implies, implies_true, and_true]
        refine ⟨?_, ?_, ?_, ?_, ?_, ?_, ?_, ?_, ?_, ?_, ?_, ?_, ?_, ?_, ?_⟩
        · refine qu_of rfl ?_
          intro v w' A hA hC hd hl K hK
          exact pure_step (.pointer (some ⟨pp, 0, none⟩)) (fun ρ hρ => by
              have e7 : ρ (.tmp 7) = .pointer (some ⟨pp, 0, none⟩) := by rw [hρ]; exact hA.2 7 (by simp)
              clear hρ hA hl hK hd hC
              go_simp) hK
        · refine qu_of rfl ?_
          intro v w' A hA hC hd hl K hK
          exact pure_step (.pointer (some ⟨pp, 0, none⟩)) (fun ρ hρ => by
              have e99 : ρ (.tmp 99) = .pointer (some ⟨pp, 0, none⟩) := by rw [hρ]; exact (hA.1 0 _ 99 rfl rfl).trans (hd (0, .pointer (some ⟨pp, 0, none⟩)) (.head _) ⟨⟨0, .data⟩, by simp, rfl, rfl⟩)
              clear hρ hA hl hK hd hC
              go_simp) hK
        · refine qu_of rfl ?_
          intro v w' A hA hC hd hl K hK
          exact pure_step (.pointer (some ⟨pp, 0, none⟩)) (fun ρ hρ => by
              have e100 : ρ (.tmp 100) = .pointer (some ⟨pp, 0, none⟩) := by rw [hρ]; exact (hA.1 1 _ 100 rfl rfl).trans (hd (1, .pointer (some ⟨pp, 0, none⟩)) (.tail _ (.head _)) ⟨⟨1, .data⟩, by simp, rfl, rfl⟩)
              clear hρ hA hl hK hd hC
              go_simp) hK
        · refine qu_of rfl ?_
          intro v w' A hA hC hd hl K hK
          have hcell := hC.1
          exact pure_step (.pointer (some ⟨p, 0, none⟩)) (fun ρ hρ => by
              have e101 : ρ (.tmp 101) = .pointer (some ⟨pp, 0, none⟩) := by rw [hρ]; exact (hA.1 2 _ 101 rfl rfl).trans (hd (2, .pointer (some ⟨pp, 0, none⟩)) (.tail _ (.tail _ (.head _))) ⟨⟨2, .data⟩, by simp, rfl, rfl⟩)
              clear hρ hA hl hK hd hC
              go_simp) hK
        · refine qu_of rfl ?_
          intro v w' A hA hC hd hl K hK
          exact pure_step (.pointer (some ⟨p, 0, none⟩)) (fun ρ hρ => by
              have e102 : ρ (.tmp 102) = .pointer (some ⟨p, 0, none⟩) := by rw [hρ]; exact (hA.1 3 _ 102 rfl rfl).trans (hd (3, .pointer (some ⟨p, 0, none⟩)) (.tail _ (.tail _ (.tail _ (.head _)))) ⟨⟨3, .data⟩, by simp, rfl, rfl⟩)
              clear hρ hA hl hK hd hC
              go_simp) hK
        · refine qu_of rfl ?_
          intro v w' A hA hC hd hl K hK
          exact pure_step (.pointer (some ⟨p, 0, none⟩)) (fun ρ hρ => by
              have e103 : ρ (.tmp 103) = .pointer (some ⟨p, 0, none⟩) := by rw [hρ]; exact (hA.1 4 _ 103 rfl rfl).trans (hd (4, .pointer (some ⟨p, 0, none⟩)) (.tail _ (.tail _ (.tail _ (.tail _ (.head _))))) ⟨⟨4, .data⟩, by simp, rfl, rfl⟩)
              clear hρ hA hl hK hd hC
              go_simp) hK
        · refine qu_of rfl ?_
          intro v w' A hA hC hd hl K hK
          have hmid := load_x hC.2
          exact pure_step (xA x) (fun ρ hρ => by
              have e104 : ρ (.tmp 104) = .pointer (some ⟨p, 0, none⟩) := by rw [hρ]; exact (hA.1 5 _ 104 rfl rfl).trans (hd (5, .pointer (some ⟨p, 0, none⟩)) (.tail _ (.tail _ (.tail _ (.tail _ (.tail _ (.head _)))))) ⟨⟨5, .data⟩, by simp, rfl, rfl⟩)
              clear hρ hA hl hK hd hC
              unfold execOp
              simp only [e104, Instr.loadAt, Instr.sureAddr, Sem.run_bind, Sem.run_pure, Result.andThen_ok, hmid]) hK
        · refine qu_of rfl ?_
          intro v w' A hA hC hd hl K hK
          exact pure_step (.pointer (some ⟨pp, 0, none⟩)) (fun ρ hρ => by
              have e7 : ρ (.tmp 7) = .pointer (some ⟨pp, 0, none⟩) := by rw [hρ]; exact hA.2 7 (by simp)
              clear hρ hA hl hK hd hC
              go_simp) hK
        · refine qu_of rfl ?_
          intro v w' A hA hC hd hl K hK
          exact pure_step (.pointer (some ⟨pp, 0, none⟩)) (fun ρ hρ => by
              have e106 : ρ (.tmp 106) = .pointer (some ⟨pp, 0, none⟩) := by rw [hρ]; exact (hA.1 7 _ 106 rfl rfl).trans (hd (7, .pointer (some ⟨pp, 0, none⟩)) (.tail _ (.tail _ (.tail _ (.tail _ (.tail _ (.tail _ (.tail _ (.head _)))))))) ⟨⟨7, .data⟩, by simp, rfl, rfl⟩)
              clear hρ hA hl hK hd hC
              go_simp) hK
        · refine qu_of rfl ?_
          intro v w' A hA hC hd hl K hK
          exact pure_step (.pointer (some ⟨pp, 0, none⟩)) (fun ρ hρ => by
              have e107 : ρ (.tmp 107) = .pointer (some ⟨pp, 0, none⟩) := by rw [hρ]; exact (hA.1 8 _ 107 rfl rfl).trans (hd (8, .pointer (some ⟨pp, 0, none⟩)) (.tail _ (.tail _ (.tail _ (.tail _ (.tail _ (.tail _ (.tail _ (.tail _ (.head _))))))))) ⟨⟨8, .data⟩, by simp, rfl, rfl⟩)
              clear hρ hA hl hK hd hC
              go_simp) hK
        · refine qu_of rfl ?_
          intro v w' A hA hC hd hl K hK
          have hcell := hC.1
          exact pure_step (.pointer (some ⟨p, 0, none⟩)) (fun ρ hρ => by
              have e108 : ρ (.tmp 108) = .pointer (some ⟨pp, 0, none⟩) := by rw [hρ]; exact (hA.1 9 _ 108 rfl rfl).trans (hd (9, .pointer (some ⟨pp, 0, none⟩)) (.tail _ (.tail _ (.tail _ (.tail _ (.tail _ (.tail _ (.tail _ (.tail _ (.tail _ (.head _)))))))))) ⟨⟨9, .data⟩, by simp, rfl, rfl⟩)
              clear hρ hA hl hK hd hC
              go_simp) hK
        · refine qu_of rfl ?_
          intro v w' A hA hC hd hl K hK
          exact pure_step (.pointer (some ⟨p, 0, none⟩)) (fun ρ hρ => by
              have e109 : ρ (.tmp 109) = .pointer (some ⟨p, 0, none⟩) := by rw [hρ]; exact (hA.1 10 _ 109 rfl rfl).trans (hd (10, .pointer (some ⟨p, 0, none⟩)) (.tail _ (.tail _ (.tail _ (.tail _ (.tail _ (.tail _ (.tail _ (.tail _ (.tail _ (.tail _ (.head _))))))))))) ⟨⟨10, .data⟩, by simp, rfl, rfl⟩)
              clear hρ hA hl hK hd hC
              go_simp) hK
        · refine qu_of rfl ?_
          intro v w' A hA hC hd hl K hK
          exact pure_step (.pointer (some ⟨p, 32, none⟩)) (fun ρ hρ => by
              have e110 : ρ (.tmp 110) = .pointer (some ⟨p, 0, none⟩) := by rw [hρ]; exact (hA.1 11 _ 110 rfl rfl).trans (hd (11, .pointer (some ⟨p, 0, none⟩)) (.tail _ (.tail _ (.tail _ (.tail _ (.tail _ (.tail _ (.tail _ (.tail _ (.tail _ (.tail _ (.tail _ (.head _)))))))))))) ⟨⟨11, .data⟩, by simp, rfl, rfl⟩)
              clear hρ hA hl hK hd hC
              go_simp) hK
        · refine qu_of rfl ?_
          intro v w' A hA hC hd hl K hK
          have hcell := (show w'.cell? ⟨p, 32, none⟩ = some (.int .u32 (pc : Int)) from hC.2.cellTab 32 (by decide))
          exact pure_step (.int .u32 (pc : Int)) (fun ρ hρ => by
              have e111 : ρ (.tmp 111) = .pointer (some ⟨p, 32, none⟩) := by rw [hρ]; exact (hA.1 12 _ 111 rfl rfl).trans (hd (12, .pointer (some ⟨p, 32, none⟩)) (.tail _ (.tail _ (.tail _ (.tail _ (.tail _ (.tail _ (.tail _ (.tail _ (.tail _ (.tail _ (.tail _ (.tail _ (.head _))))))))))))) ⟨⟨12, .data⟩, by simp, rfl, rfl⟩)
              clear hρ hA hl hK hd hC
              go_simp) hK
        · refine qu_of rfl ?_
          intro v w' A hA hC hd hl K hK
          exact pure_step (.int .u32 (pc : Int)) (fun ρ hρ => by
              have e112 : ρ (.tmp 112) = .int .u32 (pc : Int) := by rw [hρ]; exact (hA.1 13 _ 112 rfl rfl).trans (hd (13, .int .u32 (pc : Int)) (.tail _ (.tail _ (.tail _ (.tail _ (.tail _ (.tail _ (.tail _ (.tail _ (.tail _ (.tail _ (.tail _ (.tail _ (.tail _ (.head _)))))))))))))) ⟨⟨13, .data⟩, by simp, rfl, rfl⟩)
              clear hρ hA hl hK hd hC
              go_simp) hK
      · refine ⟨qu_of rfl ?_, fun x14 => ⟨qu_of rfl ?_, fun x15 => trivial⟩⟩
        · intro v w' A hA hS hacc hd hl K hK
          replace hS : (w'.cell? ⟨pp, 0, none⟩ = some (.pointer (some ⟨p, 0, none⟩)) ∧ Has w' p 48 (tab 35 (hV x pc g (some gm)))) ∧ Below u4.heap.size u4 w' := hS
          refine new_step (w'' := w'.alloc (.cells (tab 32 (xV fun _ => 0)) 44)) (.pointer (some ⟨w'.heap.size, 0, none⟩)) (fun ρ hρ => by
              have hzz := hzx w'
              clear hρ hA hl hK hd hS hacc
              go_simp
              ) ?_
          have hbA : Below w'.heap.size w' (w'.alloc (.cells (tab 32 (xV fun _ => 0)) 44)) := (Below.refl _ _).alloc (Nat.le_refl _) _
          exact hK _ _ ⟨⟨_, rfl, hS.2.size, Has.new _ _ _⟩, ⟨(hbA.cell (block_lt_of_cell hS.1.1)).trans hS.1.1, hS.1.2.after hbA⟩, hS.2.trans (hbA.mono hS.2.size)⟩
        · intro v w' A hA hS hacc hd hl K hK
          replace hS : (∃ ba, x14 = .pointer (some ⟨ba, 0, none⟩) ∧ u4.heap.size ≤ ba ∧ Has w' ba 44 (tab 32 (xV fun _ => 0))) ∧ (w'.cell? ⟨pp, 0, none⟩ = some (.pointer (some ⟨p, 0, none⟩)) ∧ Has w' p 48 (tab 35 (hV x pc g (some gm)))) ∧ Below u4.heap.size u4 w' := hS
          obtain ⟨⟨ba, hx14, hba, hXA⟩, hC, hBw⟩ := hS
          obtain ⟨ρ, hρ⟩ : ∃ ρ, ρ = A.eval := ⟨_, rfl⟩
          have e14 : ρ (.tmp 14) = x14 := by rw [hρ]; exact (hA.1 14 _ 14 rfl rfl).trans (hacc (14, x14) (by simp))
          have e105 : ρ (.tmp 105) = xA x := by rw [hρ]; exact (hA.1 6 _ 105 rfl rfl).trans (hd (6, xA x) (.tail _ (.tail _ (.tail _ (.tail _ (.tail _ (.tail _ (.head _))))))) ⟨⟨6, .data⟩, by simp, rfl, rfl⟩)
          rw [hρ] at e14 e105
          rw [hx14] at e14
          refine store_tabS 44 _ _ rfl ba 0 e14 32 (xV x) e105 32 (xV fun _ => 0) 44 hXA infoX (by decide) (fun _ => rfl) ?_
          intro w'' hX2 hg2
          rw [tab_ext _ _ (xV x) fun j hj => by rw [if_pos ⟨Nat.zero_le _, by omega⟩]; rfl] at hX2
          have hOb : Only (fun b => b = ba) w' w'' := Only.of_grown hg2 (fun l e => by injection e with e; exact e.symm)
          have hpl := hC.2.lt
          have hpp := block_lt_of_cell pc4
          have hpz := HH4.out.lt
          exact hK _ _ ⟨⟨ba, hx14, hba, hX2⟩, rfl, ⟨cell_only hOb hC.1 (fun e => by have e : pp = ba := e; have hpp : pp < u4.heap.size := hpp; omega), hOb.has hC.2 (fun e => by have e : p = ba := e; omega)⟩, hBw.trans (hOb.below (fun i e => by have e : i = ba := e; omega) hBw.size)⟩
      intro x14 x15 v wE hSE hacc hqv
      replace hSE : (∃ ba, x14 = .pointer (some ⟨ba, 0, none⟩) ∧ u4.heap.size ≤ ba ∧ Has wE ba 44 (tab 32 (xV x))) ∧ x15 = undef ∧ (wE.cell? ⟨pp, 0, none⟩ = some (.pointer (some ⟨p, 0, none⟩)) ∧ Has wE p 48 (tab 35 (hV x pc g (some gm)))) ∧ Below u4.heap.size u4 wE := hSE
      have f0 : v 0 = .pointer (some ⟨pp, 0, none⟩) := hqv (0, .pointer (some ⟨pp, 0, none⟩)) (.head _)
      have f1 : v 1 = .pointer (some ⟨pp, 0, none⟩) := hqv (1, .pointer (some ⟨pp, 0, none⟩)) (.tail _ (.head _))
      have f2 : v 2 = .pointer (some ⟨pp, 0, none⟩) := hqv (2, .pointer (some ⟨pp, 0, none⟩)) (.tail _ (.tail _ (.head _)))
      have f3 : v 3 = .pointer (some ⟨p, 0, none⟩) := hqv (3, .pointer (some ⟨p, 0, none⟩)) (.tail _ (.tail _ (.tail _ (.head _))))
      have f4 : v 4 = .pointer (some ⟨p, 0, none⟩) := hqv (4, .pointer (some ⟨p, 0, none⟩)) (.tail _ (.tail _ (.tail _ (.tail _ (.head _)))))
      have f5 : v 5 = .pointer (some ⟨p, 0, none⟩) := hqv (5, .pointer (some ⟨p, 0, none⟩)) (.tail _ (.tail _ (.tail _ (.tail _ (.tail _ (.head _))))))
      have f6 : v 6 = xA x := hqv (6, xA x) (.tail _ (.tail _ (.tail _ (.tail _ (.tail _ (.tail _ (.head _)))))))
      have f7 : v 7 = .pointer (some ⟨pp, 0, none⟩) := hqv (7, .pointer (some ⟨pp, 0, none⟩)) (.tail _ (.tail _ (.tail _ (.tail _ (.tail _ (.tail _ (.tail _ (.head _))))))))
      have f8 : v 8 = .pointer (some ⟨pp, 0, none⟩) := hqv (8, .pointer (some ⟨pp, 0, none⟩)) (.tail _ (.tail _ (.tail _ (.tail _ (.tail _ (.tail _ (.tail _ (.tail _ (.head _)))))))))
      have f9 : v 9 = .pointer (some ⟨pp, 0, none⟩) := hqv (9, .pointer (some ⟨pp, 0, none⟩)) (.tail _ (.tail _ (.tail _ (.tail _ (.tail _ (.tail _ (.tail _ (.tail _ (.tail _ (.head _))))))))))
      have f10 : v 10 = .pointer (some ⟨p, 0, none⟩) := hqv (10, .pointer (some ⟨p, 0, none⟩)) (.tail _ (.tail _ (.tail _ (.tail _ (.tail _ (.tail _ (.tail _ (.tail _ (.tail _ (.tail _ (.head _)))))))))))
      have f11 : v 11 = .pointer (some ⟨p, 0, none⟩) := hqv (11, .pointer (some ⟨p, 0, none⟩)) (.tail _ (.tail _ (.tail _ (.tail _ (.tail _ (.tail _ (.tail _ (.tail _ (.tail _ (.tail _ (.tail _ (.head _))))))))))))
      have f12 : v 12 = .pointer (some ⟨p, 32, none⟩) := hqv (12, .pointer (some ⟨p, 32, none⟩)) (.tail _ (.tail _ (.tail _ (.tail _ (.tail _ (.tail _ (.tail _ (.tail _ (.tail _ (.tail _ (.tail _ (.tail _ (.head _)))))))))))))
      have f13 : v 13 = .int .u32 (pc : Int) := hqv (13, .int .u32 (pc : Int)) (.tail _ (.tail _ (.tail _ (.tail _ (.tail _ (.tail _ (.tail _ (.tail _ (.tail _ (.tail _ (.tail _ (.tail _ (.tail _ (.head _))))))))))))))
      have f14 : v 14 = x14 := hacc (14, x14) (by simp)
      have f15 : v 15 = x15 := hacc (15, x15) (by simp)
      have f16 : v 16 = .int .u32 (pc : Int) := hqv (16, .int .u32 (pc : Int)) (.tail _ (.tail _ (.tail _ (.tail _ (.tail _ (.tail _ (.tail _ (.tail _ (.tail _ (.tail _ (.tail _ (.tail _ (.tail _ (.tail _ (.head _)))))))))))))))
      clear hacc hqv
      simp only [putAll, Act.put, List.setIfInBounds_toArray, List.set_cons_zero, List.set_cons_succ, Nat.zero_add, Nat.reduceAdd]
      rw [f0, f1, f2, f3, f4, f5, f6, f7, f8, f9, f10, f11, f12, f13, f14, f16]
      clear f0 f1 f2 f3 f4 f5 f6 f7 f8 f9 f10 f11 f12 f13 f14 f15 f16
      obtain ⟨⟨ba, rfl, hba, hXA⟩, -, hCE, hBE⟩ := hSE
      have hP5 := hP4.after hBE
      have hH5 := hH4.after hBE
      have pg : wE.cell? ⟨p, 33, none⟩ = some (.pointer (some ⟨g, 0, none⟩)) := hH5.cellTab 33 (by decide)
      have pc0 : wE.cell? ⟨pp, 0, none⟩ = some (.pointer (some ⟨p, 0, none⟩)) := hP5.cell 0
      have hs5 := hst wE hBE
      have hI5 := O.below hI4 hBE
      have hneb : ba ≠ p ∧ ba ≠ g ∧ ba ≠ gm := by
        have h1 := hH4.lt
        have h2 := O.lt hI4
        have h3 : gm < u4.heap.size := by obtain ⟨NN, _, hG⟩ := hM4; exact hG.lt
        exact ⟨by omega, by omega, by omega⟩
      have hXl := hXA.lt
      have hB5 := hB4.trans (hBE.mono hB4.size)
      clear hst hH4 hI4 hM4 hP4 hB4 HH4 pc4 hzx hCE hBE
      generalize hR : stepR x pc s1 m = R at *
      go_upto_region 24 with (first
        | (go_at_call 11; refine hs5.mono ?_; rintro e v5 ⟨rfl, ⟨hH6', hI6', hM6'⟩, hO6'⟩)
        | (refine wp_fresh 51 7 (trC R.d) _ _ _ rfl rfl rfl rfl hz infoTr (by decide) (trC_one _) rfl rfl ?_
           intro v6 hT6 hb6 hlt6
           go_frame))
      have hO6 : Only (SH p g gm) wE v6 := hO6'.trans (Only.of_below hb6)
      have hP6 := hO6.has hP5 (fun e => by have h := HNE.out; rcases e with e | e | e <;> omega)
      have hH6 := hH6'.after hb6
      have hI6 := O.below hI6' hb6
      have hX6 := hO6.has hXA (fun e => by rcases e with e | e | e <;> omega)
      have hB6 := hB5.trans (hO6.below (sh_ge HLO.out.2) hB5.size)
      clear pc0 pg hs5 hb6 hlt6 hH6' hI6' hM6' hO6' hP5 hH5 hI5 hO6 hB5 hXA
      generalize v5.heap.size = tb at *
      cases tm
      case false =>
        have hnt := hway.no_timer hdue
        have te : v6.cell? ⟨tb, 2, none⟩ = some (.int .u32 (R.d.cause : Int)) := hT6.cellTab 2 (by decide)
        clear hR
        generalize R.d.cause = ca at *
        have hnI : ((ca : Int) != 2147483655) = true := bne_iff_ne.2 (by omega)
        go_wp2_with fail
        go_ret
        exact ⟨rfl, hB6⟩
      case true =>
        rw [step_due hdue] at hR
        subst hR
        have pc0 : v6.cell? ⟨pp, 0, none⟩ = some (.pointer (some ⟨p, 0, none⟩)) := hP6.cell 0
        have pg : v6.cell? ⟨p, 33, none⟩ = some (.pointer (some ⟨g, 0, none⟩)) := hH6.cellTab 33 (by decide)
        have r6 := O.read v6 g _ 833 hI6 (by decide)
        rw [read_in' _ 833 rfl (by decide)] at r6
        rw [show (trapR did0 x pc s1 m 2147483655 0).s.r 833 = pc - pc % 4 from Cs.tr_833 s1 pc 2147483655 0] at r6
        dsimp only [Option.getD_some, Option.isSome_some] at r6
        go_upto_region 27 with (go_at_call 16; refine r6.mono ?_; rintro e v7 ⟨rfl, hb7⟩)
        have hP7 := hP6.after hb7
        have hH7 := hH6.after hb7
        have hX7 := hX6.after hb7
        have hT7 := hT6.after hb7
        have hB7 := hB6.trans (hb7.mono hB6.size)
        have hY7 : Has v7 p 48 (tab 35 (hV x (s1.r 773) g (some gm))) := hH7
        rw [hvec] at hY7
        have pc1 : ∀ k, (v7.drewN k).cell? ⟨p, 32, none⟩ = some (.int .u32 2147487744) := fun k => hY7.cellTab 32 (by decide)
        have qT : ∀ W, (∃ k, W = v7.drewN k) → (Instr.loadAt 51 (.pointer (some ⟨tb, 0, none⟩))).run Tryz.prog W = .ok (.agg trT) W := by
          rintro W ⟨k, rfl⟩
          simp only [Instr.loadAt, Instr.sureAddr, Sem.run_bind, Sem.run_pure, Result.andThen_ok]
          exact load_tr (hT7.after (below_drewN (Below.refl _ _) k))
        have qX : ∀ W, (∃ k, W = v7.drewN k) → (Instr.loadAt 44 (.pointer (some ⟨ba, 0, none⟩))).run Tryz.prog W = .ok (xA x) W := by
          rintro W ⟨k, rfl⟩
          simp only [Instr.loadAt, Instr.sureAddr, Sem.run_bind, Sem.run_pure, Result.andThen_ok]
          exact load_xb (hX7.after (below_drewN (Below.refl _ _) k))
        have qP : ∀ W, (∃ k, W = v7.drewN k) → (Instr.loadAt 44 (.pointer (some ⟨p, 0, none⟩))).run Tryz.prog W = .ok (xA x) W := by
          rintro W ⟨k, rfl⟩
          simp only [Instr.loadAt, Instr.sureAddr, Sem.run_bind, Sem.run_pure, Result.andThen_ok]
          exact load_x (hH7.after (below_drewN (Below.refl _ _) k))
        have pcv : v7.cell? ⟨p, 32, none⟩ = some (.int .u32 2147487744) := hY7.cellTab 32 (by decide)
        have pc7 : v7.cell? ⟨pp, 0, none⟩ = some (.pointer (some ⟨p, 0, none⟩)) := hP7.cell 0
        have hbn := and_not3 pc hpc
        clear pc0 pg r6 hP6 hH6 hX6 hT6 hI6 hB6 hb7 hH7 hY7 hX7 hT7 hP7 pc1
        have hzC := zeroTrC
        clear hz
        refine region_quiet_all (fun w' => ∃ n, w' = v7.drewN n) (by kernel_rfl) (by kernel_rfl) ⟨1, rfl⟩ ?_
        refine wpQ_load _ _ rfl rfl _ rfl (.agg trT) qT ?_
        quiet_step (fail)
        refine wpQ_bin _ _ _ _ _ rfl rfl (.agg trT) (.agg trT) rfl rfl (.bool true) (fun W _ => eq_tr W _ _) ?_
        repeat (quiet_step (fail))
        refine wpQ_load _ _ rfl rfl _ rfl (xA x) qP ?_
        refine wpQ_load _ _ rfl rfl _ rfl (xA x) qX ?_
        refine wpQ_bin _ _ _ _ _ rfl rfl (xA x) (xA x) rfl rfl (.bool true) (fun W _ => eq_x x W _ _) ?_
        repeat (quiet_step (fail))
        refine wpQuiet_nil ?_
        rintro w' ⟨nq, rfl⟩
        go_wp2_with fail
        go_ret
        exact ⟨rfl, below_drewN hB7 nq⟩
end Go.Proofs.YtgpofoggfifnjaaGreatDoor.Ha
