/-
The reference of layer 4: points; twice a point.
The reference of layer 4: the sum of two points.
-/
import Derived.Test.YtflkhlhpifmocaaDoorMg00
import Derived.Test.YtflkhlhpifmocaaDoorMg01
import Derived.Test.YtflkhlhpifmocaaDoorMg02
namespace Go.Proofs.YtflkhlhpifmocaaDoor
open Go.RowKit

/-- a point's cells -/
def ptF (X Y Z j : Nat) : Nat := if j < 16 then hxd X j else if j < 32 then hxd Y (j - 16) else hxd Z (j - 32)
def ptC (X Y Z : Nat) : Array Value := tab 48 fun j => .int .u64 ((ptF X Y Z j : Nat) : Int)
theorem ptC_size (X Y Z : Nat) : (ptC X Y Z).size = 48 := tab_size _ _
set_option maxRecDepth 100000 in
theorem buildPt (X Y Z : Nat) (W : World) : (Instr.build 39 #[(0, .agg (d16 X)), (1, .agg (d16 Y)), (2, .agg (d16 Z))]).run Tryd.prog W = .ok (.agg (ptC X Y Z)) W := by kernel_rfl
theorem infoPt (X Y Z : Nat) : (Tryd.prog.info? 39).map (·.size) = some (ptC X Y Z).size := by rw [ptC_size]; kernel_rfl
theorem zero48 : (#[Value.int IntKind.u64 0, Value.int IntKind.u64 0, Value.int IntKind.u64 0, Value.int IntKind.u64 0, Value.int IntKind.u64 0, Value.int IntKind.u64 0, Value.int IntKind.u64 0, Value.int IntKind.u64 0, Value.int IntKind.u64 0, Value.int IntKind.u64 0, Value.int IntKind.u64 0, Value.int IntKind.u64 0, Value.int IntKind.u64 0, Value.int IntKind.u64 0, Value.int IntKind.u64 0, Value.int IntKind.u64 0, Value.int IntKind.u64 0, Value.int IntKind.u64 0, Value.int IntKind.u64 0, Value.int IntKind.u64 0, Value.int IntKind.u64 0, Value.int IntKind.u64 0, Value.int IntKind.u64 0, Value.int IntKind.u64 0, Value.int IntKind.u64 0, Value.int IntKind.u64 0, Value.int IntKind.u64 0, Value.int IntKind.u64 0, Value.int IntKind.u64 0, Value.int IntKind.u64 0, Value.int IntKind.u64 0, Value.int IntKind.u64 0, Value.int IntKind.u64 0, Value.int IntKind.u64 0, Value.int IntKind.u64 0, Value.int IntKind.u64 0, Value.int IntKind.u64 0, Value.int IntKind.u64 0, Value.int IntKind.u64 0, Value.int IntKind.u64 0, Value.int IntKind.u64 0, Value.int IntKind.u64 0, Value.int IntKind.u64 0, Value.int IntKind.u64 0, Value.int IntKind.u64 0, Value.int IntKind.u64 0, Value.int IntKind.u64 0, Value.int IntKind.u64 0] : Array Value) = ptC 0 0 0 := by kernel_rfl
theorem inf16 : (Tryd.prog.info? 37).map (fun i => (i.zero, i.size)) = some (some (.agg (d16 0)), 16) := by kernel_rfl
theorem zeroV16 (w : World) : (zeroValue 37).run Tryd.prog w = .ok (.agg (d16 0)) w := (zero_of_info inf16).1 w
section
variable {w : World} {g X Y Z : Nat}
theorem pt_x (h : Has w g 39 (ptC X Y Z)) : w.rangeAt g 0 (hexL X) := by
  have := Has.range h 0 16 (by omega)
  have e : (List.range 16).map (fun j => Value.int .u64 ((ptF X Y Z (0 + j) : Nat) : Int)) = hexL X := by
    unfold hexL
    apply List.map_congr_left
    intro j hj
    have : j < 16 := by simpa using hj
    simp [ptF, dgs, hxd, this]
  rw [e] at this
  exact this
theorem pt_y (h : Has w g 39 (ptC X Y Z)) : w.rangeAt g 16 (hexL Y) := by
  have := Has.range h 16 16 (by omega)
  have e : (List.range 16).map (fun j => Value.int .u64 ((ptF X Y Z (16 + j) : Nat) : Int)) = hexL Y := by
    unfold hexL
    apply List.map_congr_left
    intro j hj
    have h8 : j < 16 := by simpa using hj
    have h1 : ¬ 16 + j < 16 := by omega
    have h2 : 16 + j < 32 := by omega
    simp only [ptF, dgs, hxd, if_neg h1, if_pos h2, Nat.add_sub_cancel_left]
  rw [e] at this
  exact this
theorem pt_z (h : Has w g 39 (ptC X Y Z)) : w.rangeAt g 32 (hexL Z) := by
  have := Has.range h 32 16 (by omega)
  have e : (List.range 16).map (fun j => Value.int .u64 ((ptF X Y Z (32 + j) : Nat) : Int)) = hexL Z := by
    unfold hexL
    apply List.map_congr_left
    intro j hj
    have h8 : j < 16 := by simpa using hj
    have h1 : ¬ 32 + j < 16 := by omega
    have h2 : ¬ 32 + j < 32 := by omega
    simp only [ptF, dgs, hxd, if_neg h1, if_neg h2, Nat.add_sub_cancel_left]
  rw [e] at this
  exact this
end
theorem IsField.farRow {w : World} {g m k : Nat} (h : IsField w g m) (hk : g ≠ k) (cs : Array Value) : IsField (w.setRow k cs) g m := Has.farRow h hk cs
theorem wpQ_parts4 {P : Program} {ops : Array Oper} {rest : List Oper} {o : Oper} {a : Act} {C : World → Prop} {L : Act → Prop} (t : TypeId) (ps : Array (Nat × Operand)) (ho : o.op = .build t ps) (hw : Region.wanted o (yielded ops a.tmps) = true) (vs : Array (Nat × Value)) (hvs : (ps.map fun p => (p.1, a.eval p.2)) = vs) (v : Value)
    (hrun : ∀ w, C w → (Instr.build t vs).run P w = .ok v w) (h : wpQuiet P ops C L rest (a.put o.dst v)) : wpQuiet P ops C L (o :: rest) a :=
  wpQ_val hw v (fun w hC => by
    have e := hrun w hC
    rw [← hvs] at e
    simp only [execOp, ho]
    rw [Sem.run_bind, e]
    rfl) h
/-- '==' of two of the reference's numbers -/
theorem infoD : (Tryd.prog.info? 35).map (fun i => (i.zero, i.size, i.bytes)) = some (some (.int .u64 0), 1, 8) := by kernel_rfl
theorem hexEql (x y : Nat) (hx : x < 65536 ^ 16) (hy : y < 65536 ^ 16) (W : World) : (binOp .eql 37 (.agg (d16 x)) (.agg (d16 y))).run Tryd.prog W = .ok (.bool (decide (x = y))) W := by
  obtain ⟨i, hi, _, hs, _⟩ := info_parts infoD
  have h := run_eql_tab (P := Tryd.prog) W 37 35 16 .u64 .u64 i (fun j => ((dg 65536 x j : Nat) : Int)) (fun j => ((dg 65536 y j : Nat) : Int)) Tryd.underlying37 Tryd.underlying35 hi hs
  have e : sameTo (fun j => ((dg 65536 x j : Nat) : Int)) (fun j => ((dg 65536 y j : Nat) : Int)) 16 = decide (x = y) := by
    by_cases h : x = y
    · subst h; simp [sameTo_refl]
    · rw [decide_eq_false h, ← Bool.not_eq_true, sameTo_iff]
      exact fun hc => h (digits_inj hx hy fun j hj => by have := hc j hj; omega)
  rw [e] at h
  exact h
theorem cm {m : Nat} (h : m = Ec.pp) (a b : Nat) : Ec.c (a * b % m) = Ec.c a * Ec.c b := by rw [h, Ec.c_mod, Ec.c_mul]
theorem ca {m : Nat} (h : m = Ec.pp) (a b : Nat) : Ec.c ((a + b) % m) = Ec.c a + Ec.c b := by rw [h, Ec.c_mod, Ec.c_add]
theorem cs {m : Nat} (h : m = Ec.pp) (a b : Nat) (hb : b ≤ m) : Ec.c ((a + (m - b)) % m) = Ec.c a - Ec.c b := by subst h; rw [Ec.c_mod, Ec.c_sub _ _ hb]
attribute [local go_sem] zero16 zero48
set_option maxRecDepth 100000 in
set_option maxHeartbeats 4000000 in
theorem double_nz (X Y Z m : Nat) (hm : FldOK m) (hmp : m = Ec.pp) (lX : X < m) (lY : Y < m) (lZ : Z < m) (hz : Z ≠ 0) :
    ∃ X' Y' Z' : Nat, X' < m ∧ Y' < m ∧ Z' < m ∧ (∀ P, Ec.Rep (Ec.c X) (Ec.c Y) (Ec.c Z) P → Ec.Rep (Ec.c X') (Ec.c Y') (Ec.c Z') (Ec.plus P P)) ∧
      ∀ g w, IsField w g m → Calls Tryd.prog 56 #[.pointer (some ⟨g, 0, none⟩), .agg (ptC X Y Z)] w fun e w' => e = .returned (.agg (ptC X' Y' Z')) ∧ Below w.heap.size w w' := by
  have m0 := hm.1
  obtain ⟨v1, ev1⟩ : ∃ v, v = X * X % m := ⟨_, rfl⟩
  have lv1 : v1 < m := by rw [ev1]; exact Nat.mod_lt _ m0
  have kv1 := fun g W (h : IsField W g m) => fmul_c X X m g W h hm lX lX
  rw [← ev1] at kv1
  have cv1 : Ec.c v1 = Ec.c X * Ec.c X := by rw [ev1]; exact cm hmp X X
  obtain ⟨v2, ev2⟩ : ∃ v, v = Z * Z % m := ⟨_, rfl⟩
  have lv2 : v2 < m := by rw [ev2]; exact Nat.mod_lt _ m0
  have kv2 := fun g W (h : IsField W g m) => fmul_c Z Z m g W h hm lZ lZ
  rw [← ev2] at kv2
  have cv2 : Ec.c v2 = Ec.c Z * Ec.c Z := by rw [ev2]; exact cm hmp Z Z
  obtain ⟨v3, ev3⟩ : ∃ v, v = (v1 + (m - v2)) % m := ⟨_, rfl⟩
  have lv3 : v3 < m := by rw [ev3]; exact Nat.mod_lt _ m0
  have kv3 := fun g W (h : IsField W g m) => fsub_c v1 v2 m g W h hm lv1 lv2
  rw [← ev3] at kv3
  have cv3 : Ec.c v3 = Ec.c v1 - Ec.c v2 := by rw [ev3]; exact cs hmp v1 v2 (Nat.le_of_lt lv2)
  obtain ⟨v4, ev4⟩ : ∃ v, v = (v3 + v3) % m := ⟨_, rfl⟩
  have lv4 : v4 < m := by rw [ev4]; exact Nat.mod_lt _ m0
  have kv4 := fun g W (h : IsField W g m) => fadd_c v3 v3 m g W h hm lv3 lv3
  rw [← ev4] at kv4
  have cv4 : Ec.c v4 = Ec.c v3 + Ec.c v3 := by rw [ev4]; exact ca hmp v3 v3
  obtain ⟨v5, ev5⟩ : ∃ v, v = (v4 + v3) % m := ⟨_, rfl⟩
  have lv5 : v5 < m := by rw [ev5]; exact Nat.mod_lt _ m0
  have kv5 := fun g W (h : IsField W g m) => fadd_c v4 v3 m g W h hm lv4 lv3
  rw [← ev5] at kv5
  have cv5 : Ec.c v5 = Ec.c v4 + Ec.c v3 := by rw [ev5]; exact ca hmp v4 v3
  obtain ⟨v6, ev6⟩ : ∃ v, v = Y * Z % m := ⟨_, rfl⟩
  have lv6 : v6 < m := by rw [ev6]; exact Nat.mod_lt _ m0
  have kv6 := fun g W (h : IsField W g m) => fmul_c Y Z m g W h hm lY lZ
  rw [← ev6] at kv6
  have cv6 : Ec.c v6 = Ec.c Y * Ec.c Z := by rw [ev6]; exact cm hmp Y Z
  obtain ⟨v7, ev7⟩ : ∃ v, v = Y * v6 % m := ⟨_, rfl⟩
  have lv7 : v7 < m := by rw [ev7]; exact Nat.mod_lt _ m0
  have kv7 := fun g W (h : IsField W g m) => fmul_c Y v6 m g W h hm lY lv6
  rw [← ev7] at kv7
  have cv7 : Ec.c v7 = Ec.c Y * Ec.c v6 := by rw [ev7]; exact cm hmp Y v6
  obtain ⟨v8, ev8⟩ : ∃ v, v = X * v7 % m := ⟨_, rfl⟩
  have lv8 : v8 < m := by rw [ev8]; exact Nat.mod_lt _ m0
  have kv8 := fun g W (h : IsField W g m) => fmul_c X v7 m g W h hm lX lv7
  rw [← ev8] at kv8
  have cv8 : Ec.c v8 = Ec.c X * Ec.c v7 := by rw [ev8]; exact cm hmp X v7
  obtain ⟨v9, ev9⟩ : ∃ v, v = (v8 + v8) % m := ⟨_, rfl⟩
  have lv9 : v9 < m := by rw [ev9]; exact Nat.mod_lt _ m0
  have kv9 := fun g W (h : IsField W g m) => fadd_c v8 v8 m g W h hm lv8 lv8
  rw [← ev9] at kv9
  have cv9 : Ec.c v9 = Ec.c v8 + Ec.c v8 := by rw [ev9]; exact ca hmp v8 v8
  obtain ⟨v10, ev10⟩ : ∃ v, v = (v8 + v8) % m := ⟨_, rfl⟩
  have lv10 : v10 < m := by rw [ev10]; exact Nat.mod_lt _ m0
  have kv10 := fun g W (h : IsField W g m) => fadd_c v8 v8 m g W h hm lv8 lv8
  rw [← ev10] at kv10
  have cv10 : Ec.c v10 = Ec.c v8 + Ec.c v8 := by rw [ev10]; exact ca hmp v8 v8
  obtain ⟨v11, ev11⟩ : ∃ v, v = (v9 + v10) % m := ⟨_, rfl⟩
  have lv11 : v11 < m := by rw [ev11]; exact Nat.mod_lt _ m0
  have kv11 := fun g W (h : IsField W g m) => fadd_c v9 v10 m g W h hm lv9 lv10
  rw [← ev11] at kv11
  have cv11 : Ec.c v11 = Ec.c v9 + Ec.c v10 := by rw [ev11]; exact ca hmp v9 v10
  obtain ⟨v12, ev12⟩ : ∃ v, v = v5 * v5 % m := ⟨_, rfl⟩
  have lv12 : v12 < m := by rw [ev12]; exact Nat.mod_lt _ m0
  have kv12 := fun g W (h : IsField W g m) => fmul_c v5 v5 m g W h hm lv5 lv5
  rw [← ev12] at kv12
  have cv12 : Ec.c v12 = Ec.c v5 * Ec.c v5 := by rw [ev12]; exact cm hmp v5 v5
  obtain ⟨v13, ev13⟩ : ∃ v, v = (v11 + v11) % m := ⟨_, rfl⟩
  have lv13 : v13 < m := by rw [ev13]; exact Nat.mod_lt _ m0
  have kv13 := fun g W (h : IsField W g m) => fadd_c v11 v11 m g W h hm lv11 lv11
  rw [← ev13] at kv13
  have cv13 : Ec.c v13 = Ec.c v11 + Ec.c v11 := by rw [ev13]; exact ca hmp v11 v11
  obtain ⟨v14, ev14⟩ : ∃ v, v = (v12 + (m - v13)) % m := ⟨_, rfl⟩
  have lv14 : v14 < m := by rw [ev14]; exact Nat.mod_lt _ m0
  have kv14 := fun g W (h : IsField W g m) => fsub_c v12 v13 m g W h hm lv12 lv13
  rw [← ev14] at kv14
  have cv14 : Ec.c v14 = Ec.c v12 - Ec.c v13 := by rw [ev14]; exact cs hmp v12 v13 (Nat.le_of_lt lv13)
  obtain ⟨v15, ev15⟩ : ∃ v, v = v14 * v6 % m := ⟨_, rfl⟩
  have lv15 : v15 < m := by rw [ev15]; exact Nat.mod_lt _ m0
  have kv15 := fun g W (h : IsField W g m) => fmul_c v14 v6 m g W h hm lv14 lv6
  rw [← ev15] at kv15
  have cv15 : Ec.c v15 = Ec.c v14 * Ec.c v6 := by rw [ev15]; exact cm hmp v14 v6
  obtain ⟨v16, ev16⟩ : ∃ v, v = v7 * v7 % m := ⟨_, rfl⟩
  have lv16 : v16 < m := by rw [ev16]; exact Nat.mod_lt _ m0
  have kv16 := fun g W (h : IsField W g m) => fmul_c v7 v7 m g W h hm lv7 lv7
  rw [← ev16] at kv16
  have cv16 : Ec.c v16 = Ec.c v7 * Ec.c v7 := by rw [ev16]; exact cm hmp v7 v7
  obtain ⟨v17, ev17⟩ : ∃ v, v = (v16 + v16) % m := ⟨_, rfl⟩
  have lv17 : v17 < m := by rw [ev17]; exact Nat.mod_lt _ m0
  have kv17 := fun g W (h : IsField W g m) => fadd_c v16 v16 m g W h hm lv16 lv16
  rw [← ev17] at kv17
  have cv17 : Ec.c v17 = Ec.c v16 + Ec.c v16 := by rw [ev17]; exact ca hmp v16 v16
  obtain ⟨v18, ev18⟩ : ∃ v, v = (v16 + v16) % m := ⟨_, rfl⟩
  have lv18 : v18 < m := by rw [ev18]; exact Nat.mod_lt _ m0
  have kv18 := fun g W (h : IsField W g m) => fadd_c v16 v16 m g W h hm lv16 lv16
  rw [← ev18] at kv18
  have cv18 : Ec.c v18 = Ec.c v16 + Ec.c v16 := by rw [ev18]; exact ca hmp v16 v16
  obtain ⟨v19, ev19⟩ : ∃ v, v = (v17 + v18) % m := ⟨_, rfl⟩
  have lv19 : v19 < m := by rw [ev19]; exact Nat.mod_lt _ m0
  have kv19 := fun g W (h : IsField W g m) => fadd_c v17 v18 m g W h hm lv17 lv18
  rw [← ev19] at kv19
  have cv19 : Ec.c v19 = Ec.c v17 + Ec.c v18 := by rw [ev19]; exact ca hmp v17 v18
  obtain ⟨v20, ev20⟩ : ∃ v, v = (v16 + v16) % m := ⟨_, rfl⟩
  have lv20 : v20 < m := by rw [ev20]; exact Nat.mod_lt _ m0
  have kv20 := fun g W (h : IsField W g m) => fadd_c v16 v16 m g W h hm lv16 lv16
  rw [← ev20] at kv20
  have cv20 : Ec.c v20 = Ec.c v16 + Ec.c v16 := by rw [ev20]; exact ca hmp v16 v16
  obtain ⟨v21, ev21⟩ : ∃ v, v = (v16 + v16) % m := ⟨_, rfl⟩
  have lv21 : v21 < m := by rw [ev21]; exact Nat.mod_lt _ m0
  have kv21 := fun g W (h : IsField W g m) => fadd_c v16 v16 m g W h hm lv16 lv16
  rw [← ev21] at kv21
  have cv21 : Ec.c v21 = Ec.c v16 + Ec.c v16 := by rw [ev21]; exact ca hmp v16 v16
  obtain ⟨v22, ev22⟩ : ∃ v, v = (v20 + v21) % m := ⟨_, rfl⟩
  have lv22 : v22 < m := by rw [ev22]; exact Nat.mod_lt _ m0
  have kv22 := fun g W (h : IsField W g m) => fadd_c v20 v21 m g W h hm lv20 lv21
  rw [← ev22] at kv22
  have cv22 : Ec.c v22 = Ec.c v20 + Ec.c v21 := by rw [ev22]; exact ca hmp v20 v21
  obtain ⟨v23, ev23⟩ : ∃ v, v = (v19 + v22) % m := ⟨_, rfl⟩
  have lv23 : v23 < m := by rw [ev23]; exact Nat.mod_lt _ m0
  have kv23 := fun g W (h : IsField W g m) => fadd_c v19 v22 m g W h hm lv19 lv22
  rw [← ev23] at kv23
  have cv23 : Ec.c v23 = Ec.c v19 + Ec.c v22 := by rw [ev23]; exact ca hmp v19 v22
  obtain ⟨v24, ev24⟩ : ∃ v, v = v6 * v6 % m := ⟨_, rfl⟩
  have lv24 : v24 < m := by rw [ev24]; exact Nat.mod_lt _ m0
  have kv24 := fun g W (h : IsField W g m) => fmul_c v6 v6 m g W h hm lv6 lv6
  rw [← ev24] at kv24
  have cv24 : Ec.c v24 = Ec.c v6 * Ec.c v6 := by rw [ev24]; exact cm hmp v6 v6
  obtain ⟨v25, ev25⟩ : ∃ v, v = v6 * v24 % m := ⟨_, rfl⟩
  have lv25 : v25 < m := by rw [ev25]; exact Nat.mod_lt _ m0
  have kv25 := fun g W (h : IsField W g m) => fmul_c v6 v24 m g W h hm lv6 lv24
  rw [← ev25] at kv25
  have cv25 : Ec.c v25 = Ec.c v6 * Ec.c v24 := by rw [ev25]; exact cm hmp v6 v24
  obtain ⟨v26, ev26⟩ : ∃ v, v = (v25 + v25) % m := ⟨_, rfl⟩
  have lv26 : v26 < m := by rw [ev26]; exact Nat.mod_lt _ m0
  have kv26 := fun g W (h : IsField W g m) => fadd_c v25 v25 m g W h hm lv25 lv25
  rw [← ev26] at kv26
  have cv26 : Ec.c v26 = Ec.c v25 + Ec.c v25 := by rw [ev26]; exact ca hmp v25 v25
  obtain ⟨v27, ev27⟩ : ∃ v, v = (v25 + v25) % m := ⟨_, rfl⟩
  have lv27 : v27 < m := by rw [ev27]; exact Nat.mod_lt _ m0
  have kv27 := fun g W (h : IsField W g m) => fadd_c v25 v25 m g W h hm lv25 lv25
  rw [← ev27] at kv27
  have cv27 : Ec.c v27 = Ec.c v25 + Ec.c v25 := by rw [ev27]; exact ca hmp v25 v25
  obtain ⟨v28, ev28⟩ : ∃ v, v = (v26 + v27) % m := ⟨_, rfl⟩
  have lv28 : v28 < m := by rw [ev28]; exact Nat.mod_lt _ m0
  have kv28 := fun g W (h : IsField W g m) => fadd_c v26 v27 m g W h hm lv26 lv27
  rw [← ev28] at kv28
  have cv28 : Ec.c v28 = Ec.c v26 + Ec.c v27 := by rw [ev28]; exact ca hmp v26 v27
  obtain ⟨v29, ev29⟩ : ∃ v, v = (v15 + v15) % m := ⟨_, rfl⟩
  have lv29 : v29 < m := by rw [ev29]; exact Nat.mod_lt _ m0
  have kv29 := fun g W (h : IsField W g m) => fadd_c v15 v15 m g W h hm lv15 lv15
  rw [← ev29] at kv29
  have cv29 : Ec.c v29 = Ec.c v15 + Ec.c v15 := by rw [ev29]; exact ca hmp v15 v15
  obtain ⟨v30, ev30⟩ : ∃ v, v = (v11 + (m - v14)) % m := ⟨_, rfl⟩
  have lv30 : v30 < m := by rw [ev30]; exact Nat.mod_lt _ m0
  have kv30 := fun g W (h : IsField W g m) => fsub_c v11 v14 m g W h hm lv11 lv14
  rw [← ev30] at kv30
  have cv30 : Ec.c v30 = Ec.c v11 - Ec.c v14 := by rw [ev30]; exact cs hmp v11 v14 (Nat.le_of_lt lv14)
  obtain ⟨v31, ev31⟩ : ∃ v, v = v5 * v30 % m := ⟨_, rfl⟩
  have lv31 : v31 < m := by rw [ev31]; exact Nat.mod_lt _ m0
  have kv31 := fun g W (h : IsField W g m) => fmul_c v5 v30 m g W h hm lv5 lv30
  rw [← ev31] at kv31
  have cv31 : Ec.c v31 = Ec.c v5 * Ec.c v30 := by rw [ev31]; exact cm hmp v5 v30
  obtain ⟨v32, ev32⟩ : ∃ v, v = (v31 + (m - v23)) % m := ⟨_, rfl⟩
  have lv32 : v32 < m := by rw [ev32]; exact Nat.mod_lt _ m0
  have kv32 := fun g W (h : IsField W g m) => fsub_c v31 v23 m g W h hm lv31 lv23
  rw [← ev32] at kv32
  have cv32 : Ec.c v32 = Ec.c v31 - Ec.c v23 := by rw [ev32]; exact cs hmp v31 v23 (Nat.le_of_lt lv23)
  obtain ⟨v33, ev33⟩ : ∃ v, v = (v28 + v28) % m := ⟨_, rfl⟩
  have lv33 : v33 < m := by rw [ev33]; exact Nat.mod_lt _ m0
  have kv33 := fun g W (h : IsField W g m) => fadd_c v28 v28 m g W h hm lv28 lv28
  rw [← ev33] at kv33
  have cv33 : Ec.c v33 = Ec.c v28 + Ec.c v28 := by rw [ev33]; exact ca hmp v28 v28
  refine ⟨v29, v32, v33, lv29, lv32, lv33, fun P hP => ?_, fun g w hF => ?_⟩
  · have hzc : Ec.c Z ≠ 0 := Ec.c_zero (by rw [← hmp]; exact lZ) hz
    have hW : Ec.c v5 = 3 * (Ec.c X * Ec.c X - Ec.c Z * Ec.c Z) := by rw [cv5, cv4, cv3, cv1, cv2]; clear cv1 cv2 cv3 cv4 cv5 cv6 cv7 cv8 cv9 cv10 cv11 cv12 cv13 cv14 cv15 cv16 cv17 cv18 cv19 cv20 cv21 cv22 cv23 cv24 cv25 cv26 cv27 cv28 cv29 cv30 cv31 cv32 cv33; grobner
    have hq4 : Ec.c v11 = 4 * Ec.c v8 := by rw [cv11, cv9, cv10]; clear cv1 cv2 cv3 cv4 cv5 cv6 cv7 cv8 cv9 cv10 cv11 cv12 cv13 cv14 cv15 cv16 cv17 cv18 cv19 cv20 cv21 cv22 cv23 cv24 cv25 cv26 cv27 cv28 cv29 cv30 cv31 cv32 cv33; grobner
    have hh : Ec.c v14 = Ec.c v5 * Ec.c v5 - 8 * Ec.c v8 := by rw [cv14, cv12, cv13, hq4]; clear cv1 cv2 cv3 cv4 cv5 cv6 cv7 cv8 cv9 cv10 cv11 cv12 cv13 cv14 cv15 cv16 cv17 cv18 cv19 cv20 cv21 cv22 cv23 cv24 cv25 cv26 cv27 cv28 cv29 cv30 cv31 cv32 cv33; grobner
    have hsss : Ec.c v25 = Ec.c v6 * (Ec.c v6 * Ec.c v6) := by rw [cv25, cv24]
    have key := Ec.dbl_rep hP hzc hW cv6 cv7 cv8 hh hsss
    have eX : Ec.c v29 = 2 * (Ec.c v14 * Ec.c v6) := by rw [cv29, cv15]; clear cv1 cv2 cv3 cv4 cv5 cv6 cv7 cv8 cv9 cv10 cv11 cv12 cv13 cv14 cv15 cv16 cv17 cv18 cv19 cv20 cv21 cv22 cv23 cv24 cv25 cv26 cv27 cv28 cv29 cv30 cv31 cv32 cv33; grobner
    have eY : Ec.c v32 = Ec.c v5 * (4 * Ec.c v8 - Ec.c v14) - 8 * (Ec.c v7 * Ec.c v7) := by rw [cv32, cv31, cv30, hq4, cv23, cv19, cv22, cv17, cv18, cv20, cv21, cv16]; clear cv1 cv2 cv3 cv4 cv5 cv6 cv7 cv8 cv9 cv10 cv11 cv12 cv13 cv14 cv15 cv16 cv17 cv18 cv19 cv20 cv21 cv22 cv23 cv24 cv25 cv26 cv27 cv28 cv29 cv30 cv31 cv32 cv33; grobner
    have eZ : Ec.c v33 = 8 * Ec.c v25 := by rw [cv33, cv28, cv26, cv27]; clear cv1 cv2 cv3 cv4 cv5 cv6 cv7 cv8 cv9 cv10 cv11 cv12 cv13 cv14 cv15 cv16 cv17 cv18 cv19 cv20 cv21 cv22 cv23 cv24 cv25 cv26 cv27 cv28 cv29 cv30 cv31 cv32 cv33; grobner
    rw [eX, eY, eZ]
    exact key
  have hzd : decide (Z = 0) = false := decide_eq_false hz
  have hne := fun W => hexEql Z 0 (by have := hm.2.1; omega) (by decide) W
  rw [hzd] at hne
  clear ev1 cv1 lv1 ev2 cv2 lv2 ev3 cv3 lv3 ev4 cv4 lv4 ev5 cv5 lv5 ev6 cv6 lv6 ev7 cv7 lv7 ev8 cv8 lv8 ev9 cv9 lv9 ev10 cv10 lv10 ev11 cv11 lv11 ev12 cv12 lv12 ev13 cv13 lv13 ev14 cv14 lv14 ev15 cv15 lv15 ev16 cv16 lv16 ev17 cv17 lv17 ev18 cv18 lv18 ev19 cv19 lv19 ev20 cv20 lv20 ev21 cv21 lv21 ev22 cv22 lv22 ev23 cv23 lv23 ev24 cv24 lv24 ev25 cv25 lv25 ev26 cv26 lv26 ev27 cv27 lv27 ev28 cv28 lv28 ev29 cv29 lv29 ev30 cv30 lv30 ev31 cv31 lv31 ev32 cv32 lv32 ev33 cv33 lv33 hm hmp lX lY lZ m0 hz hzd
  have n0 := d16_ne 0
  have hP : Has ((w.alloc (.cells (ptC X Y Z) 39)).alloc (.cells (ptC 0 0 0) 39)) w.heap.size 39 (ptC X Y Z) := (Has.new w _ _).alloc _
  have hR : Has ((w.alloc (.cells (ptC X Y Z) 39)).alloc (.cells (ptC 0 0 0) 39)) (w.heap.size + 1) 39 (ptC 0 0 0) := Has.new' (by simp)
  have hb0 : Below w.heap.size w ((w.alloc (.cells (ptC X Y Z) 39)).alloc (.cells (ptC 0 0 0) 39)) := ((Below.refl _ _).alloc (Nat.le_refl _) _).alloc (by simp) _
  replace hF := hF.after hb0
  go_enter Tryd.func56, Tryd.ntmps56
  go_wp2_with (first | refine wpList_load_hex rfl _ rfl (w.heap.size) 32 rfl Z (pt_z hP) ?_)
  generalize (w.alloc _).alloc _ = U0 at *
  clear hne
  go_wp2_with fail
  have ohR_1 := hR.lt
  have ohF_1 := hF.lt
  have ohP_1 := hP.lt
  refine region_facts 15 [] [.val (.pointer (some ⟨g, 0, none⟩)), .val (.pointer (some ⟨g, 0, none⟩)), .val (.pointer (some ⟨w.heap.size, 0, none⟩)), .val (.agg (d16 (X))), .val (.pointer (some ⟨w.heap.size, 0, none⟩)), .val (.agg (d16 (X))), .val (.agg (d16 (v1))), .val (.pointer (some ⟨g, 0, none⟩)), .val (.pointer (some ⟨w.heap.size, 32, none⟩)), .val (.agg (d16 (Z))), .val (.pointer (some ⟨w.heap.size, 32, none⟩)), .val (.agg (d16 (Z))), .val (.agg (d16 (v2))), .val (.agg (d16 (v3))), .new 37 (d16 0)]
    (by kernel_rfl) (by kernel_rfl) (fun _ _ _ _ _ h => h) ?_ ?_
  · simp only [List.take_succ_cons, List.take_zero, StepsOK]
    refine ⟨?_, ?_, ?_, ?_, ?_, ?_, ?_, ?_, ?_, ?_, ?_, ?_, ?_, ?_, ?_, trivial⟩
    · intro v w' hb hf K hKt
      simp only [putAll, Act.put, List.setIfInBounds_toArray, List.set_cons_zero, List.set_cons_succ, Nat.zero_add, Nat.reduceAdd] at hKt ⊢
      go_simp
      exact hKt _ (Below.refl _ _)
    · intro v w' hb hf K hKt
      simp only [putAll, Act.put, List.setIfInBounds_toArray, List.set_cons_zero, List.set_cons_succ, Nat.zero_add, Nat.reduceAdd] at hKt ⊢
      go_simp
      exact hKt _ (Below.refl _ _)
    · intro v w' hb hf K hKt
      simp only [putAll, Act.put, List.setIfInBounds_toArray, List.set_cons_zero, List.set_cons_succ, Nat.zero_add, Nat.reduceAdd] at hKt ⊢
      go_simp
      exact hKt _ (Below.refl _ _)
    · intro v w' hb hf K hKt
      have f2 : v 2 = _ := hf ⟨2, .data⟩ (by simp) rfl
      simp only [putAll, Act.put, List.setIfInBounds_toArray, List.set_cons_zero, List.set_cons_succ, Nat.zero_add, Nat.reduceAdd] at hKt ⊢
      rw [f2] at hKt ⊢
      exact wp_load_hex _ rfl (w.heap.size) 0 rfl X (pt_x ((hP.after hb))) (hKt _ (Below.refl _ _))
    · intro v w' hb hf K hKt
      simp only [putAll, Act.put, List.setIfInBounds_toArray, List.set_cons_zero, List.set_cons_succ, Nat.zero_add, Nat.reduceAdd] at hKt ⊢
      go_simp
      exact hKt _ (Below.refl _ _)
    · intro v w' hb hf K hKt
      have f4 : v 4 = _ := hf ⟨4, .data⟩ (by simp) rfl
      simp only [putAll, Act.put, List.setIfInBounds_toArray, List.set_cons_zero, List.set_cons_succ, Nat.zero_add, Nat.reduceAdd] at hKt ⊢
      rw [f4] at hKt ⊢
      exact wp_load_hex _ rfl (w.heap.size) 0 rfl X (pt_x ((hP.after hb))) (hKt _ (Below.refl _ _))
    · intro v w' hb hf K hKt
      have f1 : v 1 = _ := hf ⟨1, .data⟩ (by simp) rfl
      have f3 : v 3 = _ := hf ⟨3, .data⟩ (by simp) rfl
      have f5 : v 5 = _ := hf ⟨5, .data⟩ (by simp) rfl
      simp only [putAll, Act.put, List.setIfInBounds_toArray, List.set_cons_zero, List.set_cons_succ, Nat.zero_add, Nat.reduceAdd] at hKt ⊢
      rw [f1, f3, f5] at hKt ⊢
      go_simp
      refine (kv1 _ w' (hF.after hb)).mono ?_
      rintro e w'' ⟨rfl, hb2⟩
      exact hKt _ hb2
    · intro v w' hb hf K hKt
      simp only [putAll, Act.put, List.setIfInBounds_toArray, List.set_cons_zero, List.set_cons_succ, Nat.zero_add, Nat.reduceAdd] at hKt ⊢
      go_simp
      exact hKt _ (Below.refl _ _)
    · intro v w' hb hf K hKt
      simp only [putAll, Act.put, List.setIfInBounds_toArray, List.set_cons_zero, List.set_cons_succ, Nat.zero_add, Nat.reduceAdd] at hKt ⊢
      go_simp
      exact hKt _ (Below.refl _ _)
    · intro v w' hb hf K hKt
      have f8 : v 8 = _ := hf ⟨8, .data⟩ (by simp) rfl
      simp only [putAll, Act.put, List.setIfInBounds_toArray, List.set_cons_zero, List.set_cons_succ, Nat.zero_add, Nat.reduceAdd] at hKt ⊢
      rw [f8] at hKt ⊢
      exact wp_load_hex _ rfl (w.heap.size) 32 rfl Z (pt_z ((hP.after hb))) (hKt _ (Below.refl _ _))
    · intro v w' hb hf K hKt
      simp only [putAll, Act.put, List.setIfInBounds_toArray, List.set_cons_zero, List.set_cons_succ, Nat.zero_add, Nat.reduceAdd] at hKt ⊢
      go_simp
      exact hKt _ (Below.refl _ _)
    · intro v w' hb hf K hKt
      have f10 : v 10 = _ := hf ⟨10, .data⟩ (by simp) rfl
      simp only [putAll, Act.put, List.setIfInBounds_toArray, List.set_cons_zero, List.set_cons_succ, Nat.zero_add, Nat.reduceAdd] at hKt ⊢
      rw [f10] at hKt ⊢
      exact wp_load_hex _ rfl (w.heap.size) 32 rfl Z (pt_z ((hP.after hb))) (hKt _ (Below.refl _ _))
    · intro v w' hb hf K hKt
      have f7 : v 7 = _ := hf ⟨7, .data⟩ (by simp) rfl
      have f9 : v 9 = _ := hf ⟨9, .data⟩ (by simp) rfl
      have f11 : v 11 = _ := hf ⟨11, .data⟩ (by simp) rfl
      simp only [putAll, Act.put, List.setIfInBounds_toArray, List.set_cons_zero, List.set_cons_succ, Nat.zero_add, Nat.reduceAdd] at hKt ⊢
      rw [f7, f9, f11] at hKt ⊢
      go_simp
      refine (kv2 _ w' (hF.after hb)).mono ?_
      rintro e w'' ⟨rfl, hb2⟩
      exact hKt _ hb2
    · intro v w' hb hf K hKt
      have f0 : v 0 = _ := hf ⟨0, .data⟩ (by simp) rfl
      have f6 : v 6 = _ := hf ⟨6, .data⟩ (by simp) rfl
      have f12 : v 12 = _ := hf ⟨12, .data⟩ (by simp) rfl
      simp only [putAll, Act.put, List.setIfInBounds_toArray, List.set_cons_zero, List.set_cons_succ, Nat.zero_add, Nat.reduceAdd] at hKt ⊢
      rw [f0, f6, f12] at hKt ⊢
      go_simp
      refine (kv3 _ w' (hF.after hb)).mono ?_
      rintro e w'' ⟨rfl, hb2⟩
      exact hKt _ hb2
    · exact ⟨rfl, rfl, zeroV16⟩
  intro v u1 hb hF hD
  have f0 : v 0 = _ := hF 0 (by decide)
  have f1 : v 1 = _ := hF 1 (by decide)
  have f2 : v 2 = _ := hF 2 (by decide)
  have f3 : v 3 = _ := hF 3 (by decide)
  have f4 : v 4 = _ := hF 4 (by decide)
  have f5 : v 5 = _ := hF 5 (by decide)
  have f6 : v 6 = _ := hF 6 (by decide)
  have f7 : v 7 = _ := hF 7 (by decide)
  have f8 : v 8 = _ := hF 8 (by decide)
  have f9 : v 9 = _ := hF 9 (by decide)
  have f10 : v 10 = _ := hF 10 (by decide)
  have f11 : v 11 = _ := hF 11 (by decide)
  have f12 : v 12 = _ := hF 12 (by decide)
  have f13 : v 13 = _ := hF 13 (by decide)
  obtain ⟨g1_14, f14, hg14, hl14, hz14⟩ := hF 14 (by decide)
  replace hz14 : Has u1 g1_14 37 (d16 0) := hz14
  simp only [List.take_succ_cons, List.take_zero, List.drop_succ_cons, List.drop_zero, putAll, Act.put, List.setIfInBounds_toArray, List.set_cons_zero, List.set_cons_succ, Nat.zero_add, Nat.reduceAdd]
  rw [f0, f1, f2, f3, f4, f5, f6, f7, f8, f9, f10, f11, f12, f13, f14]
  clear hF hD f0 f1 f2 f3 f4 f5 f6 f7 f8 f9 f10 f11 f12 f13 f14
  have hs14 := hz14
  have hBW := below_setRow (hb) (g := g1_14) hg14 (d16 (v3))
  have hv_v3 := (hz14).setRow (d16 (v3))
  replace hR := hR.after hBW
  replace hF := hF.after hBW
  replace hP := hP.after hBW
  replace hb0 := below_trans hb0 hBW
  go_wp2_with (first | (refine wpList_store_row rfl 37 _ _ rfl g1_14 _ rfl rfl 37 (d16 0) hs14 (info16 _) (by simp only [d16_size]) (tab_oneCell _ _ fun _ => rfl) ?_; generalize hWW : World.setRow _ _ _ = U1 at *; clear hWW))
  clear hBW hb hs14 hz14 hl14
  refine region_quiet_tail (Below U1.heap.size U1) 7 (by kernel_rfl) (by kernel_rfl) (below_drewN (Below.refl _ _) 1) ?_
  simp only [List.take_succ_cons, List.take_zero, List.drop_succ_cons, List.drop_zero]
  refine wpQ_move _ rfl rfl (.pointer (some ⟨g, 0, none⟩)) rfl ?_
  simp only [Act.put, List.setIfInBounds_toArray, List.set_cons_zero, List.set_cons_succ]
  refine wpQ_move _ rfl rfl (.pointer (some ⟨g, 0, none⟩)) rfl ?_
  simp only [Act.put, List.setIfInBounds_toArray, List.set_cons_zero, List.set_cons_succ]
  refine wpQ_has 37 _ rfl _ rfl rfl 37 _ (fun w' hC => hv_v3.after hC) _ Tryd.underlying37 rfl (info16 _) ?_
  simp only [Act.put, List.setIfInBounds_toArray, List.set_cons_zero, List.set_cons_succ]
  refine wpQ_has 37 _ rfl _ rfl rfl 37 _ (fun w' hC => hv_v3.after hC) _ Tryd.underlying37 rfl (info16 _) ?_
  simp only [Act.put, List.setIfInBounds_toArray, List.set_cons_zero, List.set_cons_succ]
  refine wpQ_fn 34 _ _ rfl rfl #[.pointer (some ⟨g, 0, none⟩), .agg (d16 (v3)), .agg (d16 (v3))] rfl (fun _ => by go_simp) (.agg (d16 (v4))) (fun w' hC => (kv4 _ w' (hF.after hC)).mono fun e w'' ⟨he, hb⟩ => ⟨he, below_class hC hb⟩) ?_
  simp only [Act.put, List.setIfInBounds_toArray, List.set_cons_zero, List.set_cons_succ]
  refine wpQ_has 37 _ rfl _ rfl rfl 37 _ (fun w' hC => hv_v3.after hC) _ Tryd.underlying37 rfl (info16 _) ?_
  simp only [Act.put, List.setIfInBounds_toArray, List.set_cons_zero, List.set_cons_succ]
  refine wpQ_fn 34 _ _ rfl rfl #[.pointer (some ⟨g, 0, none⟩), .agg (d16 (v4)), .agg (d16 (v3))] rfl (fun _ => by go_simp) (.agg (d16 (v5))) (fun w' hC => (kv5 _ w' (hF.after hC)).mono fun e w'' ⟨he, hb⟩ => ⟨he, below_class hC hb⟩) ?_
  simp only [Act.put, List.setIfInBounds_toArray, List.set_cons_zero, List.set_cons_succ]
  refine wpQuiet_nil ?_
  intro u2 hC
  replace hv_v3 := hv_v3.after hC
  replace hR := hR.after hC
  replace hF := hF.after hC
  replace hP := hP.after hC
  replace hb0 := below_trans hb0 hC
  clear hC
  have hold := hv_v3
  replace hv_v3 := hv_v3.setRow (d16 (v5))
  replace hR := hR.farRow (k := g1_14) (by omega) (d16 (v5))
  replace hF := hF.farRow (k := g1_14) (by omega) (d16 (v5))
  replace hP := hP.farRow (k := g1_14) (by omega) (d16 (v5))
  replace hb0 := below_setRow hb0 (g := g1_14) (by omega) (d16 (v5))
  go_wp2_with (first | (refine wpList_store_row rfl 37 _ _ rfl (g1_14) _ rfl rfl 37 _ hold (info16 _) (by simp only [d16_size]) (tab_oneCell _ _ fun _ => rfl) ?_; generalize hWW : World.setRow _ _ _ = U2 at *; clear hWW) | refine wpList_load_hex rfl _ rfl w.heap.size 16 rfl Y (pt_y (hP)) ?_ | refine wpList_load_hex rfl _ rfl w.heap.size 32 rfl Z (pt_z (hP)) ?_)
  clear hold
  refine (kv6 _ _ hF).mono ?_
  rintro e u3 ⟨rfl, hx⟩
  have ohv_v3_3 := (hv_v3.after hx).lt
  have hN := put_new u3 37 (d16 0) (d16 v6)
  replace hv_v3 := (hv_v3.after hx).after hN.2
  replace hR := (hR.after hx).after hN.2
  replace hF := (hF.after hx).after hN.2
  replace hP := (hP.after hx).after hN.2
  replace hb0 := below_trans (below_trans hb0 hx) hN.2
  have hv_v6 := hN.1
  clear hx hN
  go_wp2_with (first | (refine wpList_store_row rfl 37 _ _ rfl u3.heap.size _ rfl rfl 37 (d16 0) (Has.new' rfl) (info16 _) (by simp only [d16_size]) (tab_oneCell _ _ fun _ => rfl) ?_; generalize hWW : World.setRow _ u3.heap.size _ = U3 at *; clear hWW) | refine wpList_load_hex rfl _ rfl w.heap.size 16 rfl Y (pt_y (hP)) ?_ | refine wpList_load_has 37 _ rfl _ rfl rfl 37 _ hv_v6 _ Tryd.underlying37 rfl (info16 _) ?_)
  refine (kv7 _ _ hF).mono ?_
  rintro e u4 ⟨rfl, hx⟩
  have ohv_v3_4 := (hv_v3.after hx).lt
  have ohv_v6_4 := (hv_v6.after hx).lt
  have hN := put_new u4 37 (d16 0) (d16 v7)
  replace hv_v3 := (hv_v3.after hx).after hN.2
  replace hv_v6 := (hv_v6.after hx).after hN.2
  replace hR := (hR.after hx).after hN.2
  replace hF := (hF.after hx).after hN.2
  replace hP := (hP.after hx).after hN.2
  replace hb0 := below_trans (below_trans hb0 hx) hN.2
  have hv_v7 := hN.1
  clear hx hN
  go_wp2_with (first | (refine wpList_store_row rfl 37 _ _ rfl u4.heap.size _ rfl rfl 37 (d16 0) (Has.new' rfl) (info16 _) (by simp only [d16_size]) (tab_oneCell _ _ fun _ => rfl) ?_; generalize hWW : World.setRow _ u4.heap.size _ = U4 at *; clear hWW) | refine wpList_load_hex rfl _ rfl w.heap.size 0 rfl X (pt_x (hP)) ?_ | refine wpList_load_has 37 _ rfl _ rfl rfl 37 _ hv_v7 _ Tryd.underlying37 rfl (info16 _) ?_)
  refine (kv8 _ _ hF).mono ?_
  rintro e u5 ⟨rfl, hx⟩
  have ohv_v3_5 := (hv_v3.after hx).lt
  have ohv_v6_5 := (hv_v6.after hx).lt
  have ohv_v7_5 := (hv_v7.after hx).lt
  have hN := put_new u5 37 (d16 0) (d16 v8)
  replace hv_v3 := (hv_v3.after hx).after hN.2
  replace hv_v6 := (hv_v6.after hx).after hN.2
  replace hv_v7 := (hv_v7.after hx).after hN.2
  replace hR := (hR.after hx).after hN.2
  replace hF := (hF.after hx).after hN.2
  replace hP := (hP.after hx).after hN.2
  replace hb0 := below_trans (below_trans hb0 hx) hN.2
  have hv_v8 := hN.1
  clear hx hN
  go_wp2_with (first | (refine wpList_store_row rfl 37 _ _ rfl u5.heap.size _ rfl rfl 37 (d16 0) (Has.new' rfl) (info16 _) (by simp only [d16_size]) (tab_oneCell _ _ fun _ => rfl) ?_; generalize hWW : World.setRow _ u5.heap.size _ = U5 at *; clear hWW))
  have ohv_v3_6 := hv_v3.lt
  have ohv_v6_6 := hv_v6.lt
  have ohv_v7_6 := hv_v7.lt
  have ohv_v8_6 := hv_v8.lt
  have ohR_6 := hR.lt
  have ohF_6 := hF.lt
  have ohP_6 := hP.lt
  refine region_facts 11 [] [.val (.pointer (some ⟨g, 0, none⟩)), .val (.pointer (some ⟨g, 0, none⟩)), .val (.agg (d16 (v8))), .val (.agg (d16 (v8))), .val (.agg (d16 (v9))), .val (.pointer (some ⟨g, 0, none⟩)), .val (.agg (d16 (v8))), .val (.agg (d16 (v8))), .val (.agg (d16 (v10))), .val (.agg (d16 (v11))), .new 37 (d16 0)]
    (by kernel_rfl) (by kernel_rfl) (fun _ _ _ _ _ h => h) ?_ ?_
  · simp only [List.take_succ_cons, List.take_zero, StepsOK]
    refine ⟨?_, ?_, ?_, ?_, ?_, ?_, ?_, ?_, ?_, ?_, ?_, trivial⟩
    · intro v w' hb hf K hKt
      simp only [putAll, Act.put, List.setIfInBounds_toArray, List.set_cons_zero, List.set_cons_succ, Nat.zero_add, Nat.reduceAdd] at hKt ⊢
      go_simp
      exact hKt _ (Below.refl _ _)
    · intro v w' hb hf K hKt
      simp only [putAll, Act.put, List.setIfInBounds_toArray, List.set_cons_zero, List.set_cons_succ, Nat.zero_add, Nat.reduceAdd] at hKt ⊢
      go_simp
      exact hKt _ (Below.refl _ _)
    · intro v w' hb hf K hKt
      simp only [putAll, Act.put, List.setIfInBounds_toArray, List.set_cons_zero, List.set_cons_succ, Nat.zero_add, Nat.reduceAdd] at hKt ⊢
      exact wp_load_row 37 _ rfl (u5.heap.size) rfl 37 _ (0, 0) _ (hv_v8.after hb) Tryd.underlying37 rfl (info16 _) (hKt _ (Below.refl _ _))
    · intro v w' hb hf K hKt
      simp only [putAll, Act.put, List.setIfInBounds_toArray, List.set_cons_zero, List.set_cons_succ, Nat.zero_add, Nat.reduceAdd] at hKt ⊢
      exact wp_load_row 37 _ rfl (u5.heap.size) rfl 37 _ (0, 0) _ (hv_v8.after hb) Tryd.underlying37 rfl (info16 _) (hKt _ (Below.refl _ _))
    · intro v w' hb hf K hKt
      have f1 : v 1 = _ := hf ⟨1, .data⟩ (by simp) rfl
      have f2 : v 2 = _ := hf ⟨2, .data⟩ (by simp) rfl
      have f3 : v 3 = _ := hf ⟨3, .data⟩ (by simp) rfl
      simp only [putAll, Act.put, List.setIfInBounds_toArray, List.set_cons_zero, List.set_cons_succ, Nat.zero_add, Nat.reduceAdd] at hKt ⊢
      rw [f1, f2, f3] at hKt ⊢
      go_simp
      refine (kv9 _ w' (hF.after hb)).mono ?_
      rintro e w'' ⟨rfl, hb2⟩
      exact hKt _ hb2
    · intro v w' hb hf K hKt
      simp only [putAll, Act.put, List.setIfInBounds_toArray, List.set_cons_zero, List.set_cons_succ, Nat.zero_add, Nat.reduceAdd] at hKt ⊢
      go_simp
      exact hKt _ (Below.refl _ _)
    · intro v w' hb hf K hKt
      simp only [putAll, Act.put, List.setIfInBounds_toArray, List.set_cons_zero, List.set_cons_succ, Nat.zero_add, Nat.reduceAdd] at hKt ⊢
      exact wp_load_row 37 _ rfl (u5.heap.size) rfl 37 _ (0, 0) _ (hv_v8.after hb) Tryd.underlying37 rfl (info16 _) (hKt _ (Below.refl _ _))
    · intro v w' hb hf K hKt
      simp only [putAll, Act.put, List.setIfInBounds_toArray, List.set_cons_zero, List.set_cons_succ, Nat.zero_add, Nat.reduceAdd] at hKt ⊢
      exact wp_load_row 37 _ rfl (u5.heap.size) rfl 37 _ (0, 0) _ (hv_v8.after hb) Tryd.underlying37 rfl (info16 _) (hKt _ (Below.refl _ _))
    · intro v w' hb hf K hKt
      have f5 : v 5 = _ := hf ⟨5, .data⟩ (by simp) rfl
      have f6 : v 6 = _ := hf ⟨6, .data⟩ (by simp) rfl
      have f7 : v 7 = _ := hf ⟨7, .data⟩ (by simp) rfl
      simp only [putAll, Act.put, List.setIfInBounds_toArray, List.set_cons_zero, List.set_cons_succ, Nat.zero_add, Nat.reduceAdd] at hKt ⊢
      rw [f5, f6, f7] at hKt ⊢
      go_simp
      refine (kv10 _ w' (hF.after hb)).mono ?_
      rintro e w'' ⟨rfl, hb2⟩
      exact hKt _ hb2
    · intro v w' hb hf K hKt
      have f0 : v 0 = _ := hf ⟨0, .data⟩ (by simp) rfl
      have f4 : v 4 = _ := hf ⟨4, .data⟩ (by simp) rfl
      have f8 : v 8 = _ := hf ⟨8, .data⟩ (by simp) rfl
      simp only [putAll, Act.put, List.setIfInBounds_toArray, List.set_cons_zero, List.set_cons_succ, Nat.zero_add, Nat.reduceAdd] at hKt ⊢
      rw [f0, f4, f8] at hKt ⊢
      go_simp
      refine (kv11 _ w' (hF.after hb)).mono ?_
      rintro e w'' ⟨rfl, hb2⟩
      exact hKt _ hb2
    · exact ⟨rfl, rfl, zeroV16⟩
  intro v u6 hb hF hD
  have f0 : v 0 = _ := hF 0 (by decide)
  have f1 : v 1 = _ := hF 1 (by decide)
  have f2 : v 2 = _ := hF 2 (by decide)
  have f3 : v 3 = _ := hF 3 (by decide)
  have f4 : v 4 = _ := hF 4 (by decide)
  have f5 : v 5 = _ := hF 5 (by decide)
  have f6 : v 6 = _ := hF 6 (by decide)
  have f7 : v 7 = _ := hF 7 (by decide)
  have f8 : v 8 = _ := hF 8 (by decide)
  have f9 : v 9 = _ := hF 9 (by decide)
  obtain ⟨g6_10, f10, hg10, hl10, hz10⟩ := hF 10 (by decide)
  replace hz10 : Has u6 g6_10 37 (d16 0) := hz10
  simp only [List.take_succ_cons, List.take_zero, List.drop_succ_cons, List.drop_zero, putAll, Act.put, List.setIfInBounds_toArray, List.set_cons_zero, List.set_cons_succ, Nat.zero_add, Nat.reduceAdd]
  rw [f0, f1, f2, f3, f4, f5, f6, f7, f8, f9, f10]
  clear hF hD f0 f1 f2 f3 f4 f5 f6 f7 f8 f9 f10
  have hs10 := hz10
  have hBW := below_setRow (hb) (g := g6_10) hg10 (d16 (v11))
  have hv_v11 := (hz10).setRow (d16 (v11))
  replace hv_v3 := hv_v3.after hBW
  replace hv_v6 := hv_v6.after hBW
  replace hv_v7 := hv_v7.after hBW
  replace hv_v8 := hv_v8.after hBW
  replace hR := hR.after hBW
  replace hF := hF.after hBW
  replace hP := hP.after hBW
  replace hb0 := below_trans hb0 hBW
  go_wp2_with (first | (refine wpList_store_row rfl 37 _ _ rfl g6_10 _ rfl rfl 37 (d16 0) hs10 (info16 _) (by simp only [d16_size]) (tab_oneCell _ _ fun _ => rfl) ?_; generalize hWW : World.setRow _ _ _ = U6 at *; clear hWW))
  clear hBW hb hs10 hz10 hl10
  have ohv_v3_7 := hv_v3.lt
  have ohv_v6_7 := hv_v6.lt
  have ohv_v7_7 := hv_v7.lt
  have ohv_v8_7 := hv_v8.lt
  have ohv_v11_7 := hv_v11.lt
  have ohR_7 := hR.lt
  have ohF_7 := hF.lt
  have ohP_7 := hP.lt
  refine region_facts 11 [] [.val (.pointer (some ⟨g, 0, none⟩)), .val (.pointer (some ⟨g, 0, none⟩)), .val (.agg (d16 (v5))), .val (.agg (d16 (v5))), .val (.agg (d16 (v12))), .val (.pointer (some ⟨g, 0, none⟩)), .val (.agg (d16 (v11))), .val (.agg (d16 (v11))), .val (.agg (d16 (v13))), .val (.agg (d16 (v14))), .new 37 (d16 0)]
    (by kernel_rfl) (by kernel_rfl) (fun _ _ _ _ _ h => h) ?_ ?_
  · simp only [List.take_succ_cons, List.take_zero, StepsOK]
    refine ⟨?_, ?_, ?_, ?_, ?_, ?_, ?_, ?_, ?_, ?_, ?_, trivial⟩
    · intro v w' hb hf K hKt
      simp only [putAll, Act.put, List.setIfInBounds_toArray, List.set_cons_zero, List.set_cons_succ, Nat.zero_add, Nat.reduceAdd] at hKt ⊢
      go_simp
      exact hKt _ (Below.refl _ _)
    · intro v w' hb hf K hKt
      simp only [putAll, Act.put, List.setIfInBounds_toArray, List.set_cons_zero, List.set_cons_succ, Nat.zero_add, Nat.reduceAdd] at hKt ⊢
      go_simp
      exact hKt _ (Below.refl _ _)
    · intro v w' hb hf K hKt
      simp only [putAll, Act.put, List.setIfInBounds_toArray, List.set_cons_zero, List.set_cons_succ, Nat.zero_add, Nat.reduceAdd] at hKt ⊢
      exact wp_load_row 37 _ rfl (g1_14) rfl 37 _ (0, 0) _ (hv_v3.after hb) Tryd.underlying37 rfl (info16 _) (hKt _ (Below.refl _ _))
    · intro v w' hb hf K hKt
      simp only [putAll, Act.put, List.setIfInBounds_toArray, List.set_cons_zero, List.set_cons_succ, Nat.zero_add, Nat.reduceAdd] at hKt ⊢
      exact wp_load_row 37 _ rfl (g1_14) rfl 37 _ (0, 0) _ (hv_v3.after hb) Tryd.underlying37 rfl (info16 _) (hKt _ (Below.refl _ _))
    · intro v w' hb hf K hKt
      have f1 : v 1 = _ := hf ⟨1, .data⟩ (by simp) rfl
      have f2 : v 2 = _ := hf ⟨2, .data⟩ (by simp) rfl
      have f3 : v 3 = _ := hf ⟨3, .data⟩ (by simp) rfl
      simp only [putAll, Act.put, List.setIfInBounds_toArray, List.set_cons_zero, List.set_cons_succ, Nat.zero_add, Nat.reduceAdd] at hKt ⊢
      rw [f1, f2, f3] at hKt ⊢
      go_simp
      refine (kv12 _ w' (hF.after hb)).mono ?_
      rintro e w'' ⟨rfl, hb2⟩
      exact hKt _ hb2
    · intro v w' hb hf K hKt
      simp only [putAll, Act.put, List.setIfInBounds_toArray, List.set_cons_zero, List.set_cons_succ, Nat.zero_add, Nat.reduceAdd] at hKt ⊢
      go_simp
      exact hKt _ (Below.refl _ _)
    · intro v w' hb hf K hKt
      simp only [putAll, Act.put, List.setIfInBounds_toArray, List.set_cons_zero, List.set_cons_succ, Nat.zero_add, Nat.reduceAdd] at hKt ⊢
      exact wp_load_row 37 _ rfl (g6_10) rfl 37 _ (0, 0) _ (hv_v11.after hb) Tryd.underlying37 rfl (info16 _) (hKt _ (Below.refl _ _))
    · intro v w' hb hf K hKt
      simp only [putAll, Act.put, List.setIfInBounds_toArray, List.set_cons_zero, List.set_cons_succ, Nat.zero_add, Nat.reduceAdd] at hKt ⊢
      exact wp_load_row 37 _ rfl (g6_10) rfl 37 _ (0, 0) _ (hv_v11.after hb) Tryd.underlying37 rfl (info16 _) (hKt _ (Below.refl _ _))
    · intro v w' hb hf K hKt
      have f5 : v 5 = _ := hf ⟨5, .data⟩ (by simp) rfl
      have f6 : v 6 = _ := hf ⟨6, .data⟩ (by simp) rfl
      have f7 : v 7 = _ := hf ⟨7, .data⟩ (by simp) rfl
      simp only [putAll, Act.put, List.setIfInBounds_toArray, List.set_cons_zero, List.set_cons_succ, Nat.zero_add, Nat.reduceAdd] at hKt ⊢
      rw [f5, f6, f7] at hKt ⊢
      go_simp
      refine (kv13 _ w' (hF.after hb)).mono ?_
      rintro e w'' ⟨rfl, hb2⟩
      exact hKt _ hb2
    · intro v w' hb hf K hKt
      have f0 : v 0 = _ := hf ⟨0, .data⟩ (by simp) rfl
      have f4 : v 4 = _ := hf ⟨4, .data⟩ (by simp) rfl
      have f8 : v 8 = _ := hf ⟨8, .data⟩ (by simp) rfl
      simp only [putAll, Act.put, List.setIfInBounds_toArray, List.set_cons_zero, List.set_cons_succ, Nat.zero_add, Nat.reduceAdd] at hKt ⊢
      rw [f0, f4, f8] at hKt ⊢
      go_simp
      refine (kv14 _ w' (hF.after hb)).mono ?_
      rintro e w'' ⟨rfl, hb2⟩
      exact hKt _ hb2
    · exact ⟨rfl, rfl, zeroV16⟩
  intro v u7 hb hF hD
  have f0 : v 0 = _ := hF 0 (by decide)
  have f1 : v 1 = _ := hF 1 (by decide)
  have f2 : v 2 = _ := hF 2 (by decide)
  have f3 : v 3 = _ := hF 3 (by decide)
  have f4 : v 4 = _ := hF 4 (by decide)
  have f5 : v 5 = _ := hF 5 (by decide)
  have f6 : v 6 = _ := hF 6 (by decide)
  have f7 : v 7 = _ := hF 7 (by decide)
  have f8 : v 8 = _ := hF 8 (by decide)
  have f9 : v 9 = _ := hF 9 (by decide)
  obtain ⟨g7_10, f10, hg10, hl10, hz10⟩ := hF 10 (by decide)
  replace hz10 : Has u7 g7_10 37 (d16 0) := hz10
  simp only [List.take_succ_cons, List.take_zero, List.drop_succ_cons, List.drop_zero, putAll, Act.put, List.setIfInBounds_toArray, List.set_cons_zero, List.set_cons_succ, Nat.zero_add, Nat.reduceAdd]
  rw [f0, f1, f2, f3, f4, f5, f6, f7, f8, f9, f10]
  clear hF hD f0 f1 f2 f3 f4 f5 f6 f7 f8 f9 f10
  have hs10 := hz10
  have hBW := below_setRow (hb) (g := g7_10) hg10 (d16 (v14))
  have hv_v14 := (hz10).setRow (d16 (v14))
  replace hv_v11 := hv_v11.after hBW
  replace hv_v3 := hv_v3.after hBW
  replace hv_v6 := hv_v6.after hBW
  replace hv_v7 := hv_v7.after hBW
  replace hv_v8 := hv_v8.after hBW
  replace hR := hR.after hBW
  replace hF := hF.after hBW
  replace hP := hP.after hBW
  replace hb0 := below_trans hb0 hBW
  go_wp2_with (first | (refine wpList_store_row rfl 37 _ _ rfl g7_10 _ rfl rfl 37 (d16 0) hs10 (info16 _) (by simp only [d16_size]) (tab_oneCell _ _ fun _ => rfl) ?_; generalize hWW : World.setRow _ _ _ = U7 at *; clear hWW) | refine wpList_load_has 37 _ rfl _ rfl rfl 37 _ hv_v14 _ Tryd.underlying37 rfl (info16 _) ?_ | refine wpList_load_has 37 _ rfl _ rfl rfl 37 _ hv_v6 _ Tryd.underlying37 rfl (info16 _) ?_)
  clear hBW hb hs10 hz10 hl10
  refine (kv15 _ _ hF).mono ?_
  rintro e u8 ⟨rfl, hx⟩
  have ohv_v3_8 := (hv_v3.after hx).lt
  have ohv_v6_8 := (hv_v6.after hx).lt
  have ohv_v7_8 := (hv_v7.after hx).lt
  have ohv_v8_8 := (hv_v8.after hx).lt
  have ohv_v11_8 := (hv_v11.after hx).lt
  have ohv_v14_8 := (hv_v14.after hx).lt
  have hN := put_new u8 37 (d16 0) (d16 v15)
  replace hv_v3 := (hv_v3.after hx).after hN.2
  replace hv_v6 := (hv_v6.after hx).after hN.2
  replace hv_v7 := (hv_v7.after hx).after hN.2
  replace hv_v8 := (hv_v8.after hx).after hN.2
  replace hv_v11 := (hv_v11.after hx).after hN.2
  replace hv_v14 := (hv_v14.after hx).after hN.2
  replace hR := (hR.after hx).after hN.2
  replace hF := (hF.after hx).after hN.2
  replace hP := (hP.after hx).after hN.2
  replace hb0 := below_trans (below_trans hb0 hx) hN.2
  have hv_v15 := hN.1
  clear hx hN
  go_wp2_with (first | (refine wpList_store_row rfl 37 _ _ rfl u8.heap.size _ rfl rfl 37 (d16 0) (Has.new' rfl) (info16 _) (by simp only [d16_size]) (tab_oneCell _ _ fun _ => rfl) ?_; generalize hWW : World.setRow _ u8.heap.size _ = U8 at *; clear hWW) | refine wpList_load_has 37 _ rfl _ rfl rfl 37 _ hv_v7 _ Tryd.underlying37 rfl (info16 _) ?_)
  refine (kv16 _ _ hF).mono ?_
  rintro e u9 ⟨rfl, hx⟩
  have ohv_v3_9 := (hv_v3.after hx).lt
  have ohv_v6_9 := (hv_v6.after hx).lt
  have ohv_v7_9 := (hv_v7.after hx).lt
  have ohv_v8_9 := (hv_v8.after hx).lt
  have ohv_v11_9 := (hv_v11.after hx).lt
  have ohv_v14_9 := (hv_v14.after hx).lt
  have ohv_v15_9 := (hv_v15.after hx).lt
  have hN := put_new u9 37 (d16 0) (d16 v16)
  replace hv_v3 := (hv_v3.after hx).after hN.2
  replace hv_v6 := (hv_v6.after hx).after hN.2
  replace hv_v7 := (hv_v7.after hx).after hN.2
  replace hv_v8 := (hv_v8.after hx).after hN.2
  replace hv_v11 := (hv_v11.after hx).after hN.2
  replace hv_v14 := (hv_v14.after hx).after hN.2
  replace hv_v15 := (hv_v15.after hx).after hN.2
  replace hR := (hR.after hx).after hN.2
  replace hF := (hF.after hx).after hN.2
  replace hP := (hP.after hx).after hN.2
  replace hb0 := below_trans (below_trans hb0 hx) hN.2
  have hv_v16 := hN.1
  clear hx hN
  go_wp2_with (first | (refine wpList_store_row rfl 37 _ _ rfl u9.heap.size _ rfl rfl 37 (d16 0) (Has.new' rfl) (info16 _) (by simp only [d16_size]) (tab_oneCell _ _ fun _ => rfl) ?_; generalize hWW : World.setRow _ u9.heap.size _ = U9 at *; clear hWW))
  have ohv_v3_10 := hv_v3.lt
  have ohv_v6_10 := hv_v6.lt
  have ohv_v7_10 := hv_v7.lt
  have ohv_v8_10 := hv_v8.lt
  have ohv_v11_10 := hv_v11.lt
  have ohv_v14_10 := hv_v14.lt
  have ohv_v15_10 := hv_v15.lt
  have ohv_v16_10 := hv_v16.lt
  have ohR_10 := hR.lt
  have ohF_10 := hF.lt
  have ohP_10 := hP.lt
  refine region_facts 23 [] [.val (.pointer (some ⟨g, 0, none⟩)), .val (.pointer (some ⟨g, 0, none⟩)), .val (.pointer (some ⟨g, 0, none⟩)), .val (.agg (d16 (v16))), .val (.agg (d16 (v16))), .val (.agg (d16 (v17))), .val (.pointer (some ⟨g, 0, none⟩)), .val (.agg (d16 (v16))), .val (.agg (d16 (v16))), .val (.agg (d16 (v18))), .val (.agg (d16 (v19))), .val (.pointer (some ⟨g, 0, none⟩)), .val (.pointer (some ⟨g, 0, none⟩)), .val (.agg (d16 (v16))), .val (.agg (d16 (v16))), .val (.agg (d16 (v20))), .val (.pointer (some ⟨g, 0, none⟩)), .val (.agg (d16 (v16))), .val (.agg (d16 (v16))), .val (.agg (d16 (v21))), .val (.agg (d16 (v22))), .val (.agg (d16 (v23))), .new 37 (d16 0)]
    (by kernel_rfl) (by kernel_rfl) (fun _ _ _ _ _ h => h) ?_ ?_
  · simp only [List.take_succ_cons, List.take_zero, StepsOK]
    refine ⟨?_, ?_, ?_, ?_, ?_, ?_, ?_, ?_, ?_, ?_, ?_, ?_, ?_, ?_, ?_, ?_, ?_, ?_, ?_, ?_, ?_, ?_, ?_, trivial⟩
    · intro v w' hb hf K hKt
      simp only [putAll, Act.put, List.setIfInBounds_toArray, List.set_cons_zero, List.set_cons_succ, Nat.zero_add, Nat.reduceAdd] at hKt ⊢
      go_simp
      exact hKt _ (Below.refl _ _)
    · intro v w' hb hf K hKt
      simp only [putAll, Act.put, List.setIfInBounds_toArray, List.set_cons_zero, List.set_cons_succ, Nat.zero_add, Nat.reduceAdd] at hKt ⊢
      go_simp
      exact hKt _ (Below.refl _ _)
    · intro v w' hb hf K hKt
      simp only [putAll, Act.put, List.setIfInBounds_toArray, List.set_cons_zero, List.set_cons_succ, Nat.zero_add, Nat.reduceAdd] at hKt ⊢
      go_simp
      exact hKt _ (Below.refl _ _)
    · intro v w' hb hf K hKt
      simp only [putAll, Act.put, List.setIfInBounds_toArray, List.set_cons_zero, List.set_cons_succ, Nat.zero_add, Nat.reduceAdd] at hKt ⊢
      exact wp_load_row 37 _ rfl (u9.heap.size) rfl 37 _ (0, 0) _ (hv_v16.after hb) Tryd.underlying37 rfl (info16 _) (hKt _ (Below.refl _ _))
    · intro v w' hb hf K hKt
      simp only [putAll, Act.put, List.setIfInBounds_toArray, List.set_cons_zero, List.set_cons_succ, Nat.zero_add, Nat.reduceAdd] at hKt ⊢
      exact wp_load_row 37 _ rfl (u9.heap.size) rfl 37 _ (0, 0) _ (hv_v16.after hb) Tryd.underlying37 rfl (info16 _) (hKt _ (Below.refl _ _))
    · intro v w' hb hf K hKt
      have f2 : v 2 = _ := hf ⟨2, .data⟩ (by simp) rfl
      have f3 : v 3 = _ := hf ⟨3, .data⟩ (by simp) rfl
      have f4 : v 4 = _ := hf ⟨4, .data⟩ (by simp) rfl
      simp only [putAll, Act.put, List.setIfInBounds_toArray, List.set_cons_zero, List.set_cons_succ, Nat.zero_add, Nat.reduceAdd] at hKt ⊢
      rw [f2, f3, f4] at hKt ⊢
      go_simp
      refine (kv17 _ w' (hF.after hb)).mono ?_
      rintro e w'' ⟨rfl, hb2⟩
      exact hKt _ hb2
    · intro v w' hb hf K hKt
      simp only [putAll, Act.put, List.setIfInBounds_toArray, List.set_cons_zero, List.set_cons_succ, Nat.zero_add, Nat.reduceAdd] at hKt ⊢
      go_simp
      exact hKt _ (Below.refl _ _)
    · intro v w' hb hf K hKt
      simp only [putAll, Act.put, List.setIfInBounds_toArray, List.set_cons_zero, List.set_cons_succ, Nat.zero_add, Nat.reduceAdd] at hKt ⊢
      exact wp_load_row 37 _ rfl (u9.heap.size) rfl 37 _ (0, 0) _ (hv_v16.after hb) Tryd.underlying37 rfl (info16 _) (hKt _ (Below.refl _ _))
    · intro v w' hb hf K hKt
      simp only [putAll, Act.put, List.setIfInBounds_toArray, List.set_cons_zero, List.set_cons_succ, Nat.zero_add, Nat.reduceAdd] at hKt ⊢
      exact wp_load_row 37 _ rfl (u9.heap.size) rfl 37 _ (0, 0) _ (hv_v16.after hb) Tryd.underlying37 rfl (info16 _) (hKt _ (Below.refl _ _))
    · intro v w' hb hf K hKt
      have f6 : v 6 = _ := hf ⟨6, .data⟩ (by simp) rfl
      have f7 : v 7 = _ := hf ⟨7, .data⟩ (by simp) rfl
      have f8 : v 8 = _ := hf ⟨8, .data⟩ (by simp) rfl
      simp only [putAll, Act.put, List.setIfInBounds_toArray, List.set_cons_zero, List.set_cons_succ, Nat.zero_add, Nat.reduceAdd] at hKt ⊢
      rw [f6, f7, f8] at hKt ⊢
      go_simp
      refine (kv18 _ w' (hF.after hb)).mono ?_
      rintro e w'' ⟨rfl, hb2⟩
      exact hKt _ hb2
    · intro v w' hb hf K hKt
      have f1 : v 1 = _ := hf ⟨1, .data⟩ (by simp) rfl
      have f5 : v 5 = _ := hf ⟨5, .data⟩ (by simp) rfl
      have f9 : v 9 = _ := hf ⟨9, .data⟩ (by simp) rfl
      simp only [putAll, Act.put, List.setIfInBounds_toArray, List.set_cons_zero, List.set_cons_succ, Nat.zero_add, Nat.reduceAdd] at hKt ⊢
      rw [f1, f5, f9] at hKt ⊢
      go_simp
      refine (kv19 _ w' (hF.after hb)).mono ?_
      rintro e w'' ⟨rfl, hb2⟩
      exact hKt _ hb2
    · intro v w' hb hf K hKt
      simp only [putAll, Act.put, List.setIfInBounds_toArray, List.set_cons_zero, List.set_cons_succ, Nat.zero_add, Nat.reduceAdd] at hKt ⊢
      go_simp
      exact hKt _ (Below.refl _ _)
    · intro v w' hb hf K hKt
      simp only [putAll, Act.put, List.setIfInBounds_toArray, List.set_cons_zero, List.set_cons_succ, Nat.zero_add, Nat.reduceAdd] at hKt ⊢
      go_simp
      exact hKt _ (Below.refl _ _)
    · intro v w' hb hf K hKt
      simp only [putAll, Act.put, List.setIfInBounds_toArray, List.set_cons_zero, List.set_cons_succ, Nat.zero_add, Nat.reduceAdd] at hKt ⊢
      exact wp_load_row 37 _ rfl (u9.heap.size) rfl 37 _ (0, 0) _ (hv_v16.after hb) Tryd.underlying37 rfl (info16 _) (hKt _ (Below.refl _ _))
    · intro v w' hb hf K hKt
      simp only [putAll, Act.put, List.setIfInBounds_toArray, List.set_cons_zero, List.set_cons_succ, Nat.zero_add, Nat.reduceAdd] at hKt ⊢
      exact wp_load_row 37 _ rfl (u9.heap.size) rfl 37 _ (0, 0) _ (hv_v16.after hb) Tryd.underlying37 rfl (info16 _) (hKt _ (Below.refl _ _))
    · intro v w' hb hf K hKt
      have f12 : v 12 = _ := hf ⟨12, .data⟩ (by simp) rfl
      have f13 : v 13 = _ := hf ⟨13, .data⟩ (by simp) rfl
      have f14 : v 14 = _ := hf ⟨14, .data⟩ (by simp) rfl
      simp only [putAll, Act.put, List.setIfInBounds_toArray, List.set_cons_zero, List.set_cons_succ, Nat.zero_add, Nat.reduceAdd] at hKt ⊢
      rw [f12, f13, f14] at hKt ⊢
      go_simp
      refine (kv20 _ w' (hF.after hb)).mono ?_
      rintro e w'' ⟨rfl, hb2⟩
      exact hKt _ hb2
    · intro v w' hb hf K hKt
      simp only [putAll, Act.put, List.setIfInBounds_toArray, List.set_cons_zero, List.set_cons_succ, Nat.zero_add, Nat.reduceAdd] at hKt ⊢
      go_simp
      exact hKt _ (Below.refl _ _)
    · intro v w' hb hf K hKt
      simp only [putAll, Act.put, List.setIfInBounds_toArray, List.set_cons_zero, List.set_cons_succ, Nat.zero_add, Nat.reduceAdd] at hKt ⊢
      exact wp_load_row 37 _ rfl (u9.heap.size) rfl 37 _ (0, 0) _ (hv_v16.after hb) Tryd.underlying37 rfl (info16 _) (hKt _ (Below.refl _ _))
    · intro v w' hb hf K hKt
      simp only [putAll, Act.put, List.setIfInBounds_toArray, List.set_cons_zero, List.set_cons_succ, Nat.zero_add, Nat.reduceAdd] at hKt ⊢
      exact wp_load_row 37 _ rfl (u9.heap.size) rfl 37 _ (0, 0) _ (hv_v16.after hb) Tryd.underlying37 rfl (info16 _) (hKt _ (Below.refl _ _))
    · intro v w' hb hf K hKt
      have f16 : v 16 = _ := hf ⟨16, .data⟩ (by simp) rfl
      have f17 : v 17 = _ := hf ⟨17, .data⟩ (by simp) rfl
      have f18 : v 18 = _ := hf ⟨18, .data⟩ (by simp) rfl
      simp only [putAll, Act.put, List.setIfInBounds_toArray, List.set_cons_zero, List.set_cons_succ, Nat.zero_add, Nat.reduceAdd] at hKt ⊢
      rw [f16, f17, f18] at hKt ⊢
      go_simp
      refine (kv21 _ w' (hF.after hb)).mono ?_
      rintro e w'' ⟨rfl, hb2⟩
      exact hKt _ hb2
    · intro v w' hb hf K hKt
      have f11 : v 11 = _ := hf ⟨11, .data⟩ (by simp) rfl
      have f15 : v 15 = _ := hf ⟨15, .data⟩ (by simp) rfl
      have f19 : v 19 = _ := hf ⟨19, .data⟩ (by simp) rfl
      simp only [putAll, Act.put, List.setIfInBounds_toArray, List.set_cons_zero, List.set_cons_succ, Nat.zero_add, Nat.reduceAdd] at hKt ⊢
      rw [f11, f15, f19] at hKt ⊢
      go_simp
      refine (kv22 _ w' (hF.after hb)).mono ?_
      rintro e w'' ⟨rfl, hb2⟩
      exact hKt _ hb2
    · intro v w' hb hf K hKt
      have f0 : v 0 = _ := hf ⟨0, .data⟩ (by simp) rfl
      have f10 : v 10 = _ := hf ⟨10, .data⟩ (by simp) rfl
      have f20 : v 20 = _ := hf ⟨20, .data⟩ (by simp) rfl
      simp only [putAll, Act.put, List.setIfInBounds_toArray, List.set_cons_zero, List.set_cons_succ, Nat.zero_add, Nat.reduceAdd] at hKt ⊢
      rw [f0, f10, f20] at hKt ⊢
      go_simp
      refine (kv23 _ w' (hF.after hb)).mono ?_
      rintro e w'' ⟨rfl, hb2⟩
      exact hKt _ hb2
    · exact ⟨rfl, rfl, zeroV16⟩
  intro v u10 hb hF hD
  have f0 : v 0 = _ := hF 0 (by decide)
  have f1 : v 1 = _ := hF 1 (by decide)
  have f2 : v 2 = _ := hF 2 (by decide)
  have f3 : v 3 = _ := hF 3 (by decide)
  have f4 : v 4 = _ := hF 4 (by decide)
  have f5 : v 5 = _ := hF 5 (by decide)
  have f6 : v 6 = _ := hF 6 (by decide)
  have f7 : v 7 = _ := hF 7 (by decide)
  have f8 : v 8 = _ := hF 8 (by decide)
  have f9 : v 9 = _ := hF 9 (by decide)
  have f10 : v 10 = _ := hF 10 (by decide)
  have f11 : v 11 = _ := hF 11 (by decide)
  have f12 : v 12 = _ := hF 12 (by decide)
  have f13 : v 13 = _ := hF 13 (by decide)
  have f14 : v 14 = _ := hF 14 (by decide)
  have f15 : v 15 = _ := hF 15 (by decide)
  have f16 : v 16 = _ := hF 16 (by decide)
  have f17 : v 17 = _ := hF 17 (by decide)
  have f18 : v 18 = _ := hF 18 (by decide)
  have f19 : v 19 = _ := hF 19 (by decide)
  have f20 : v 20 = _ := hF 20 (by decide)
  have f21 : v 21 = _ := hF 21 (by decide)
  obtain ⟨g10_22, f22, hg22, hl22, hz22⟩ := hF 22 (by decide)
  replace hz22 : Has u10 g10_22 37 (d16 0) := hz22
  simp only [List.take_succ_cons, List.take_zero, List.drop_succ_cons, List.drop_zero, putAll, Act.put, List.setIfInBounds_toArray, List.set_cons_zero, List.set_cons_succ, Nat.zero_add, Nat.reduceAdd]
  rw [f0, f1, f2, f3, f4, f5, f6, f7, f8, f9, f10, f11, f12, f13, f14, f15, f16, f17, f18, f19, f20, f21, f22]
  clear hF hD f0 f1 f2 f3 f4 f5 f6 f7 f8 f9 f10 f11 f12 f13 f14 f15 f16 f17 f18 f19 f20 f21 f22
  have hs22 := hz22
  have hBW := below_setRow (hb) (g := g10_22) hg22 (d16 (v23))
  have hv_v23 := (hz22).setRow (d16 (v23))
  replace hv_v11 := hv_v11.after hBW
  replace hv_v14 := hv_v14.after hBW
  replace hv_v15 := hv_v15.after hBW
  replace hv_v16 := hv_v16.after hBW
  replace hv_v3 := hv_v3.after hBW
  replace hv_v6 := hv_v6.after hBW
  replace hv_v7 := hv_v7.after hBW
  replace hv_v8 := hv_v8.after hBW
  replace hR := hR.after hBW
  replace hF := hF.after hBW
  replace hP := hP.after hBW
  replace hb0 := below_trans hb0 hBW
  go_wp2_with (first | (refine wpList_store_row rfl 37 _ _ rfl g10_22 _ rfl rfl 37 (d16 0) hs22 (info16 _) (by simp only [d16_size]) (tab_oneCell _ _ fun _ => rfl) ?_; generalize hWW : World.setRow _ _ _ = U10 at *; clear hWW))
  clear hBW hb hs22 hz22 hl22
  have ohv_v3_11 := hv_v3.lt
  have ohv_v6_11 := hv_v6.lt
  have ohv_v7_11 := hv_v7.lt
  have ohv_v8_11 := hv_v8.lt
  have ohv_v11_11 := hv_v11.lt
  have ohv_v14_11 := hv_v14.lt
  have ohv_v15_11 := hv_v15.lt
  have ohv_v16_11 := hv_v16.lt
  have ohv_v23_11 := hv_v23.lt
  have ohR_11 := hR.lt
  have ohF_11 := hF.lt
  have ohP_11 := hP.lt
  refine region_facts 8 [] [.val (.pointer (some ⟨g, 0, none⟩)), .val (.agg (d16 (v6))), .val (.pointer (some ⟨g, 0, none⟩)), .val (.agg (d16 (v6))), .val (.agg (d16 (v6))), .val (.agg (d16 (v24))), .val (.agg (d16 (v25))), .new 37 (d16 0)]
    (by kernel_rfl) (by kernel_rfl) (fun _ _ _ _ _ h => h) ?_ ?_
  · simp only [List.take_succ_cons, List.take_zero, StepsOK]
    refine ⟨?_, ?_, ?_, ?_, ?_, ?_, ?_, ?_, trivial⟩
    · intro v w' hb hf K hKt
      simp only [putAll, Act.put, List.setIfInBounds_toArray, List.set_cons_zero, List.set_cons_succ, Nat.zero_add, Nat.reduceAdd] at hKt ⊢
      go_simp
      exact hKt _ (Below.refl _ _)
    · intro v w' hb hf K hKt
      simp only [putAll, Act.put, List.setIfInBounds_toArray, List.set_cons_zero, List.set_cons_succ, Nat.zero_add, Nat.reduceAdd] at hKt ⊢
      exact wp_load_row 37 _ rfl (u3.heap.size) rfl 37 _ (0, 0) _ (hv_v6.after hb) Tryd.underlying37 rfl (info16 _) (hKt _ (Below.refl _ _))
    · intro v w' hb hf K hKt
      simp only [putAll, Act.put, List.setIfInBounds_toArray, List.set_cons_zero, List.set_cons_succ, Nat.zero_add, Nat.reduceAdd] at hKt ⊢
      go_simp
      exact hKt _ (Below.refl _ _)
    · intro v w' hb hf K hKt
      simp only [putAll, Act.put, List.setIfInBounds_toArray, List.set_cons_zero, List.set_cons_succ, Nat.zero_add, Nat.reduceAdd] at hKt ⊢
      exact wp_load_row 37 _ rfl (u3.heap.size) rfl 37 _ (0, 0) _ (hv_v6.after hb) Tryd.underlying37 rfl (info16 _) (hKt _ (Below.refl _ _))
    · intro v w' hb hf K hKt
      simp only [putAll, Act.put, List.setIfInBounds_toArray, List.set_cons_zero, List.set_cons_succ, Nat.zero_add, Nat.reduceAdd] at hKt ⊢
      exact wp_load_row 37 _ rfl (u3.heap.size) rfl 37 _ (0, 0) _ (hv_v6.after hb) Tryd.underlying37 rfl (info16 _) (hKt _ (Below.refl _ _))
    · intro v w' hb hf K hKt
      have f2 : v 2 = _ := hf ⟨2, .data⟩ (by simp) rfl
      have f3 : v 3 = _ := hf ⟨3, .data⟩ (by simp) rfl
      have f4 : v 4 = _ := hf ⟨4, .data⟩ (by simp) rfl
      simp only [putAll, Act.put, List.setIfInBounds_toArray, List.set_cons_zero, List.set_cons_succ, Nat.zero_add, Nat.reduceAdd] at hKt ⊢
      rw [f2, f3, f4] at hKt ⊢
      go_simp
      refine (kv24 _ w' (hF.after hb)).mono ?_
      rintro e w'' ⟨rfl, hb2⟩
      exact hKt _ hb2
    · intro v w' hb hf K hKt
      have f0 : v 0 = _ := hf ⟨0, .data⟩ (by simp) rfl
      have f1 : v 1 = _ := hf ⟨1, .data⟩ (by simp) rfl
      have f5 : v 5 = _ := hf ⟨5, .data⟩ (by simp) rfl
      simp only [putAll, Act.put, List.setIfInBounds_toArray, List.set_cons_zero, List.set_cons_succ, Nat.zero_add, Nat.reduceAdd] at hKt ⊢
      rw [f0, f1, f5] at hKt ⊢
      go_simp
      refine (kv25 _ w' (hF.after hb)).mono ?_
      rintro e w'' ⟨rfl, hb2⟩
      exact hKt _ hb2
    · exact ⟨rfl, rfl, zeroV16⟩
  intro v u11 hb hF hD
  have f0 : v 0 = _ := hF 0 (by decide)
  have f1 : v 1 = _ := hF 1 (by decide)
  have f2 : v 2 = _ := hF 2 (by decide)
  have f3 : v 3 = _ := hF 3 (by decide)
  have f4 : v 4 = _ := hF 4 (by decide)
  have f5 : v 5 = _ := hF 5 (by decide)
  have f6 : v 6 = _ := hF 6 (by decide)
  obtain ⟨g11_7, f7, hg7, hl7, hz7⟩ := hF 7 (by decide)
  replace hz7 : Has u11 g11_7 37 (d16 0) := hz7
  simp only [List.take_succ_cons, List.take_zero, List.drop_succ_cons, List.drop_zero, putAll, Act.put, List.setIfInBounds_toArray, List.set_cons_zero, List.set_cons_succ, Nat.zero_add, Nat.reduceAdd]
  rw [f0, f1, f2, f3, f4, f5, f6, f7]
  clear hF hD f0 f1 f2 f3 f4 f5 f6 f7
  have hs7 := hz7
  have hBW := below_setRow (hb) (g := g11_7) hg7 (d16 (v25))
  have hv_v25 := (hz7).setRow (d16 (v25))
  replace hv_v11 := hv_v11.after hBW
  replace hv_v14 := hv_v14.after hBW
  replace hv_v15 := hv_v15.after hBW
  replace hv_v16 := hv_v16.after hBW
  replace hv_v23 := hv_v23.after hBW
  replace hv_v3 := hv_v3.after hBW
  replace hv_v6 := hv_v6.after hBW
  replace hv_v7 := hv_v7.after hBW
  replace hv_v8 := hv_v8.after hBW
  replace hR := hR.after hBW
  replace hF := hF.after hBW
  replace hP := hP.after hBW
  replace hb0 := below_trans hb0 hBW
  go_wp2_with (first | (refine wpList_store_row rfl 37 _ _ rfl g11_7 _ rfl rfl 37 (d16 0) hs7 (info16 _) (by simp only [d16_size]) (tab_oneCell _ _ fun _ => rfl) ?_; generalize hWW : World.setRow _ _ _ = U11 at *; clear hWW))
  clear hBW hb hs7 hz7 hl7
  have ohv_v3_12 := hv_v3.lt
  have ohv_v6_12 := hv_v6.lt
  have ohv_v7_12 := hv_v7.lt
  have ohv_v8_12 := hv_v8.lt
  have ohv_v11_12 := hv_v11.lt
  have ohv_v14_12 := hv_v14.lt
  have ohv_v15_12 := hv_v15.lt
  have ohv_v16_12 := hv_v16.lt
  have ohv_v23_12 := hv_v23.lt
  have ohv_v25_12 := hv_v25.lt
  have ohR_12 := hR.lt
  have ohF_12 := hF.lt
  have ohP_12 := hP.lt
  refine region_facts 11 [] [.val (.pointer (some ⟨g, 0, none⟩)), .val (.pointer (some ⟨g, 0, none⟩)), .val (.agg (d16 (v25))), .val (.agg (d16 (v25))), .val (.agg (d16 (v26))), .val (.pointer (some ⟨g, 0, none⟩)), .val (.agg (d16 (v25))), .val (.agg (d16 (v25))), .val (.agg (d16 (v27))), .val (.agg (d16 (v28))), .new 37 (d16 0)]
    (by kernel_rfl) (by kernel_rfl) (fun _ _ _ _ _ h => h) ?_ ?_
  · simp only [List.take_succ_cons, List.take_zero, StepsOK]
    refine ⟨?_, ?_, ?_, ?_, ?_, ?_, ?_, ?_, ?_, ?_, ?_, trivial⟩
    · intro v w' hb hf K hKt
      simp only [putAll, Act.put, List.setIfInBounds_toArray, List.set_cons_zero, List.set_cons_succ, Nat.zero_add, Nat.reduceAdd] at hKt ⊢
      go_simp
      exact hKt _ (Below.refl _ _)
    · intro v w' hb hf K hKt
      simp only [putAll, Act.put, List.setIfInBounds_toArray, List.set_cons_zero, List.set_cons_succ, Nat.zero_add, Nat.reduceAdd] at hKt ⊢
      go_simp
      exact hKt _ (Below.refl _ _)
    · intro v w' hb hf K hKt
      simp only [putAll, Act.put, List.setIfInBounds_toArray, List.set_cons_zero, List.set_cons_succ, Nat.zero_add, Nat.reduceAdd] at hKt ⊢
      exact wp_load_row 37 _ rfl (g11_7) rfl 37 _ (0, 0) _ (hv_v25.after hb) Tryd.underlying37 rfl (info16 _) (hKt _ (Below.refl _ _))
    · intro v w' hb hf K hKt
      simp only [putAll, Act.put, List.setIfInBounds_toArray, List.set_cons_zero, List.set_cons_succ, Nat.zero_add, Nat.reduceAdd] at hKt ⊢
      exact wp_load_row 37 _ rfl (g11_7) rfl 37 _ (0, 0) _ (hv_v25.after hb) Tryd.underlying37 rfl (info16 _) (hKt _ (Below.refl _ _))
    · intro v w' hb hf K hKt
      have f1 : v 1 = _ := hf ⟨1, .data⟩ (by simp) rfl
      have f2 : v 2 = _ := hf ⟨2, .data⟩ (by simp) rfl
      have f3 : v 3 = _ := hf ⟨3, .data⟩ (by simp) rfl
      simp only [putAll, Act.put, List.setIfInBounds_toArray, List.set_cons_zero, List.set_cons_succ, Nat.zero_add, Nat.reduceAdd] at hKt ⊢
      rw [f1, f2, f3] at hKt ⊢
      go_simp
      refine (kv26 _ w' (hF.after hb)).mono ?_
      rintro e w'' ⟨rfl, hb2⟩
      exact hKt _ hb2
    · intro v w' hb hf K hKt
      simp only [putAll, Act.put, List.setIfInBounds_toArray, List.set_cons_zero, List.set_cons_succ, Nat.zero_add, Nat.reduceAdd] at hKt ⊢
      go_simp
      exact hKt _ (Below.refl _ _)
    · intro v w' hb hf K hKt
      simp only [putAll, Act.put, List.setIfInBounds_toArray, List.set_cons_zero, List.set_cons_succ, Nat.zero_add, Nat.reduceAdd] at hKt ⊢
      exact wp_load_row 37 _ rfl (g11_7) rfl 37 _ (0, 0) _ (hv_v25.after hb) Tryd.underlying37 rfl (info16 _) (hKt _ (Below.refl _ _))
    · intro v w' hb hf K hKt
      simp only [putAll, Act.put, List.setIfInBounds_toArray, List.set_cons_zero, List.set_cons_succ, Nat.zero_add, Nat.reduceAdd] at hKt ⊢
      exact wp_load_row 37 _ rfl (g11_7) rfl 37 _ (0, 0) _ (hv_v25.after hb) Tryd.underlying37 rfl (info16 _) (hKt _ (Below.refl _ _))
    · intro v w' hb hf K hKt
      have f5 : v 5 = _ := hf ⟨5, .data⟩ (by simp) rfl
      have f6 : v 6 = _ := hf ⟨6, .data⟩ (by simp) rfl
      have f7 : v 7 = _ := hf ⟨7, .data⟩ (by simp) rfl
      simp only [putAll, Act.put, List.setIfInBounds_toArray, List.set_cons_zero, List.set_cons_succ, Nat.zero_add, Nat.reduceAdd] at hKt ⊢
      rw [f5, f6, f7] at hKt ⊢
      go_simp
      refine (kv27 _ w' (hF.after hb)).mono ?_
      rintro e w'' ⟨rfl, hb2⟩
      exact hKt _ hb2
    · intro v w' hb hf K hKt
      have f0 : v 0 = _ := hf ⟨0, .data⟩ (by simp) rfl
      have f4 : v 4 = _ := hf ⟨4, .data⟩ (by simp) rfl
      have f8 : v 8 = _ := hf ⟨8, .data⟩ (by simp) rfl
      simp only [putAll, Act.put, List.setIfInBounds_toArray, List.set_cons_zero, List.set_cons_succ, Nat.zero_add, Nat.reduceAdd] at hKt ⊢
      rw [f0, f4, f8] at hKt ⊢
      go_simp
      refine (kv28 _ w' (hF.after hb)).mono ?_
      rintro e w'' ⟨rfl, hb2⟩
      exact hKt _ hb2
    · exact ⟨rfl, rfl, zeroV16⟩
  intro v u12 hb hF hD
  have f0 : v 0 = _ := hF 0 (by decide)
  have f1 : v 1 = _ := hF 1 (by decide)
  have f2 : v 2 = _ := hF 2 (by decide)
  have f3 : v 3 = _ := hF 3 (by decide)
  have f4 : v 4 = _ := hF 4 (by decide)
  have f5 : v 5 = _ := hF 5 (by decide)
  have f6 : v 6 = _ := hF 6 (by decide)
  have f7 : v 7 = _ := hF 7 (by decide)
  have f8 : v 8 = _ := hF 8 (by decide)
  have f9 : v 9 = _ := hF 9 (by decide)
  obtain ⟨g12_10, f10, hg10, hl10, hz10⟩ := hF 10 (by decide)
  replace hz10 : Has u12 g12_10 37 (d16 0) := hz10
  simp only [List.take_succ_cons, List.take_zero, List.drop_succ_cons, List.drop_zero, putAll, Act.put, List.setIfInBounds_toArray, List.set_cons_zero, List.set_cons_succ, Nat.zero_add, Nat.reduceAdd]
  rw [f0, f1, f2, f3, f4, f5, f6, f7, f8, f9, f10]
  clear hF hD f0 f1 f2 f3 f4 f5 f6 f7 f8 f9 f10
  have hs10 := hz10
  have hBW := below_setRow (hb) (g := g12_10) hg10 (d16 (v28))
  have hv_v28 := (hz10).setRow (d16 (v28))
  replace hv_v11 := hv_v11.after hBW
  replace hv_v14 := hv_v14.after hBW
  replace hv_v15 := hv_v15.after hBW
  replace hv_v16 := hv_v16.after hBW
  replace hv_v23 := hv_v23.after hBW
  replace hv_v25 := hv_v25.after hBW
  replace hv_v3 := hv_v3.after hBW
  replace hv_v6 := hv_v6.after hBW
  replace hv_v7 := hv_v7.after hBW
  replace hv_v8 := hv_v8.after hBW
  replace hR := hR.after hBW
  replace hF := hF.after hBW
  replace hP := hP.after hBW
  replace hb0 := below_trans hb0 hBW
  go_wp2_with (first | (refine wpList_store_row rfl 37 _ _ rfl g12_10 _ rfl rfl 37 (d16 0) hs10 (info16 _) (by simp only [d16_size]) (tab_oneCell _ _ fun _ => rfl) ?_; generalize hWW : World.setRow _ _ _ = U12 at *; clear hWW))
  clear hBW hb hs10 hz10 hl10
  refine region_quiet_tail (Below U12.heap.size U12) 19 (by kernel_rfl) (by kernel_rfl) (below_drewN (Below.refl _ _) 1) ?_
  simp only [List.take_succ_cons, List.take_zero, List.drop_succ_cons, List.drop_zero]
  refine wpQ_move _ rfl rfl (.pointer (some ⟨g, 0, none⟩)) rfl ?_
  simp only [Act.put, List.setIfInBounds_toArray, List.set_cons_zero, List.set_cons_succ]
  refine wpQ_has 37 _ rfl _ rfl rfl 37 _ (fun w' hC => hv_v15.after hC) _ Tryd.underlying37 rfl (info16 _) ?_
  simp only [Act.put, List.setIfInBounds_toArray, List.set_cons_zero, List.set_cons_succ]
  refine wpQ_has 37 _ rfl _ rfl rfl 37 _ (fun w' hC => hv_v15.after hC) _ Tryd.underlying37 rfl (info16 _) ?_
  simp only [Act.put, List.setIfInBounds_toArray, List.set_cons_zero, List.set_cons_succ]
  refine wpQ_fn 34 _ _ rfl rfl #[.pointer (some ⟨g, 0, none⟩), .agg (d16 (v15)), .agg (d16 (v15))] rfl (fun _ => by go_simp) (.agg (d16 (v29))) (fun w' hC => (kv29 _ w' (hF.after hC)).mono fun e w'' ⟨he, hb⟩ => ⟨he, below_class hC hb⟩) ?_
  simp only [Act.put, List.setIfInBounds_toArray, List.set_cons_zero, List.set_cons_succ]
  refine wpQ_move _ rfl rfl (.pointer (some ⟨g, 0, none⟩)) rfl ?_
  simp only [Act.put, List.setIfInBounds_toArray, List.set_cons_zero, List.set_cons_succ]
  refine wpQ_move _ rfl rfl (.pointer (some ⟨g, 0, none⟩)) rfl ?_
  simp only [Act.put, List.setIfInBounds_toArray, List.set_cons_zero, List.set_cons_succ]
  refine wpQ_has 37 _ rfl _ rfl rfl 37 _ (fun w' hC => hv_v3.after hC) _ Tryd.underlying37 rfl (info16 _) ?_
  simp only [Act.put, List.setIfInBounds_toArray, List.set_cons_zero, List.set_cons_succ]
  refine wpQ_move _ rfl rfl (.pointer (some ⟨g, 0, none⟩)) rfl ?_
  simp only [Act.put, List.setIfInBounds_toArray, List.set_cons_zero, List.set_cons_succ]
  refine wpQ_has 37 _ rfl _ rfl rfl 37 _ (fun w' hC => hv_v11.after hC) _ Tryd.underlying37 rfl (info16 _) ?_
  simp only [Act.put, List.setIfInBounds_toArray, List.set_cons_zero, List.set_cons_succ]
  refine wpQ_has 37 _ rfl _ rfl rfl 37 _ (fun w' hC => hv_v14.after hC) _ Tryd.underlying37 rfl (info16 _) ?_
  simp only [Act.put, List.setIfInBounds_toArray, List.set_cons_zero, List.set_cons_succ]
  refine wpQ_fn 55 _ _ rfl rfl #[.pointer (some ⟨g, 0, none⟩), .agg (d16 (v11)), .agg (d16 (v14))] rfl (fun _ => by go_simp) (.agg (d16 (v30))) (fun w' hC => (kv30 _ w' (hF.after hC)).mono fun e w'' ⟨he, hb⟩ => ⟨he, below_class hC hb⟩) ?_
  simp only [Act.put, List.setIfInBounds_toArray, List.set_cons_zero, List.set_cons_succ]
  refine wpQ_fn 30 _ _ rfl rfl #[.pointer (some ⟨g, 0, none⟩), .agg (d16 (v5)), .agg (d16 (v30))] rfl (fun _ => by go_simp) (.agg (d16 (v31))) (fun w' hC => (kv31 _ w' (hF.after hC)).mono fun e w'' ⟨he, hb⟩ => ⟨he, below_class hC hb⟩) ?_
  simp only [Act.put, List.setIfInBounds_toArray, List.set_cons_zero, List.set_cons_succ]
  refine wpQ_has 37 _ rfl _ rfl rfl 37 _ (fun w' hC => hv_v23.after hC) _ Tryd.underlying37 rfl (info16 _) ?_
  simp only [Act.put, List.setIfInBounds_toArray, List.set_cons_zero, List.set_cons_succ]
  refine wpQ_fn 55 _ _ rfl rfl #[.pointer (some ⟨g, 0, none⟩), .agg (d16 (v31)), .agg (d16 (v23))] rfl (fun _ => by go_simp) (.agg (d16 (v32))) (fun w' hC => (kv32 _ w' (hF.after hC)).mono fun e w'' ⟨he, hb⟩ => ⟨he, below_class hC hb⟩) ?_
  simp only [Act.put, List.setIfInBounds_toArray, List.set_cons_zero, List.set_cons_succ]
  refine wpQ_move _ rfl rfl (.pointer (some ⟨g, 0, none⟩)) rfl ?_
  simp only [Act.put, List.setIfInBounds_toArray, List.set_cons_zero, List.set_cons_succ]
  refine wpQ_has 37 _ rfl _ rfl rfl 37 _ (fun w' hC => hv_v28.after hC) _ Tryd.underlying37 rfl (info16 _) ?_
  simp only [Act.put, List.setIfInBounds_toArray, List.set_cons_zero, List.set_cons_succ]
  refine wpQ_has 37 _ rfl _ rfl rfl 37 _ (fun w' hC => hv_v28.after hC) _ Tryd.underlying37 rfl (info16 _) ?_
  simp only [Act.put, List.setIfInBounds_toArray, List.set_cons_zero, List.set_cons_succ]
  refine wpQ_fn 34 _ _ rfl rfl #[.pointer (some ⟨g, 0, none⟩), .agg (d16 (v28)), .agg (d16 (v28))] rfl (fun _ => by go_simp) (.agg (d16 (v33))) (fun w' hC => (kv33 _ w' (hF.after hC)).mono fun e w'' ⟨he, hb⟩ => ⟨he, below_class hC hb⟩) ?_
  simp only [Act.put, List.setIfInBounds_toArray, List.set_cons_zero, List.set_cons_succ]
  refine wpQ_parts4 39 _ rfl rfl #[(0, .agg (d16 (v29))), (1, .agg (d16 (v32))), (2, .agg (d16 (v33)))] (by simp only [List.map_toArray, List.map_cons, List.map_nil]; rfl) (.agg (ptC (v29) (v32) (v33))) (fun w' _ => buildPt _ _ _ w') ?_
  simp only [Act.put, List.setIfInBounds_toArray, List.set_cons_zero, List.set_cons_succ]
  refine wpQuiet_nil ?_
  intro u13 hC
  replace hv_v3 := hv_v3.after hC
  replace hv_v6 := hv_v6.after hC
  replace hv_v7 := hv_v7.after hC
  replace hv_v8 := hv_v8.after hC
  replace hv_v11 := hv_v11.after hC
  replace hv_v14 := hv_v14.after hC
  replace hv_v15 := hv_v15.after hC
  replace hv_v16 := hv_v16.after hC
  replace hv_v23 := hv_v23.after hC
  replace hv_v25 := hv_v25.after hC
  replace hv_v28 := hv_v28.after hC
  replace hR := hR.after hC
  replace hF := hF.after hC
  replace hP := hP.after hC
  replace hb0 := below_trans hb0 hC
  clear hC
  go_wp2_with (first | refine wpList_store_row rfl 39 _ _ rfl (w.heap.size + 1) _ rfl rfl 39 _ hR (infoPt _ _ _) (by simp only [ptC_size]) (tab_oneCell _ _ fun _ => rfl) ?_)
  exact bodyPost_ret (v := .agg (ptC v29 v32 v33)) (results_cell_row rfl _ _ (w.heap.size + 1) 39 _ _ _ rfl (hR.setRow _) Tryd.underlying39 rfl (infoPt _ _ _)) rfl ⟨rfl, below_setRow hb0 (by omega) _⟩
end Go.Proofs.YtflkhlhpifmocaaDoor
namespace Go.Proofs.YtflkhlhpifmocaaDoor
open Go.RowKit

theorem Ec.rep_same {X1 Y1 Z1 X2 Y2 Z2 : Ec.FP} {P Q : Ec.Pnt} (hP : Ec.Rep X1 Y1 Z1 P) (hQ : Ec.Rep X2 Y2 Z2 Q) (hz1 : Z1 ≠ 0) (hz2 : Z2 ≠ 0) (hx : X2 * Z1 - X1 * Z2 = 0) (hy : Y2 * Z1 - Y1 * Z2 = 0) : P = Q := by
  match P, Q with
  | none, _ => exact absurd hP hz1
  | some (x, y), none => exact absurd hQ hz2
  | some (x, y), some (x', y') =>
    obtain ⟨_, rfl, rfl⟩ := hP
    obtain ⟨_, rfl, rfl⟩ := hQ
    have hz : Z1 * Z2 ≠ 0 := Ec.fldP.mul_ne hz1 hz2
    have e1 : x = x' := Ec.fldP.cancel (c := Z1 * Z2) (by clear hy; grobner) hz
    have e2 : y = y' := Ec.fldP.cancel (c := Z1 * Z2) (by clear hx e1; grobner) hz
    rw [e1, e2]
theorem Ec.rep_opp {X1 Y1 Z1 X2 Y2 Z2 : Ec.FP} {P Q : Ec.Pnt} (hP : Ec.Rep X1 Y1 Z1 P) (hQ : Ec.Rep X2 Y2 Z2 Q) (hz1 : Z1 ≠ 0) (hz2 : Z2 ≠ 0) (hx : X2 * Z1 - X1 * Z2 = 0) (hy : Y2 * Z1 - Y1 * Z2 ≠ 0) (oP : Ec.OnP P) (oQ : Ec.OnP Q) : Ec.plus P Q = none := by
  match P, Q with
  | none, _ => exact absurd hP hz1
  | some (x, y), none => exact absurd hQ hz2
  | some (x, y), some (x', y') =>
    obtain ⟨_, rfl, rfl⟩ := hP
    obtain ⟨_, rfl, rfl⟩ := hQ
    have hz : Z1 * Z2 ≠ 0 := Ec.fldP.mul_ne hz1 hz2
    have e1 : x = x' := Ec.fldP.cancel (c := Z1 * Z2) (by clear hy oP oQ; grobner) hz
    subst e1
    have hsq : y * y = y' * y' := by
      simp only [Ec.OnP, Ec.On] at oP oQ
      rw [oP, oQ]
    rcases Ec.sq_eq Ec.fldP hsq with h | h
    · exact absurd (by rw [h]; clear hx hy hsq h oP oQ; grobner) hy
    · show Ec.add Ec.cA _ _ = none
      simp only [Ec.add]
      rw [if_pos ⟨trivial, by rw [h]; exact Ec.neg_self_add _⟩]
attribute [local go_sem] zero16 zero48 one16
theorem hexNe (Z m : Nat) (hm : FldOK m) (hZ : Z < m) (hz : Z ≠ 0) (W : World) : (binOp .eql 37 (.agg (d16 Z)) (.agg (d16 0))).run Tryd.prog W = .ok (.bool false) W := by
  rw [hexEql Z 0 (by have := hm.2.1; omega) (by decide) W, decide_eq_false hz]
theorem hexZ (W : World) : (binOp .eql 37 (.agg (d16 0)) (.agg (d16 0))).run Tryd.prog W = .ok (.bool true) W := by
  rw [hexEql 0 0 (by decide) (by decide) W]
  rfl
set_option maxRecDepth 100000 in
set_option maxHeartbeats 4000000 in
theorem plus_z1 (X1 Y1 X2 Y2 Z2 g m : Nat) (w : World) (hF : IsField w g m) : Calls Tryd.prog 28 #[.pointer (some ⟨g, 0, none⟩), .agg (ptC X1 Y1 0), .agg (ptC X2 Y2 Z2)] w fun e w' => e = .returned (.agg (ptC X2 Y2 Z2)) ∧ Below w.heap.size w w' := by
  have hz := hexZ
  obtain ⟨Z1, hZ1⟩ : ∃ Z1 : Nat, Z1 = 0 := ⟨_, rfl⟩
  rw [← hZ1]
  have hz1 : ∀ W, (binOp .eql 37 (.agg (d16 Z1)) (.agg (d16 0))).run Tryd.prog W = .ok (.bool true) W := fun W => by rw [hZ1]; exact hz W
  clear hZ1 hz
  have n0 := d16_ne 0
  have hP : Has (((w.alloc (.cells (ptC X1 Y1 Z1) 39)).alloc (.cells (ptC X2 Y2 Z2) 39)).alloc (.cells (ptC 0 0 0) 39)) w.heap.size 39 (ptC X1 Y1 Z1) := ((Has.new w _ _).alloc _).alloc _
  have hQ : Has (((w.alloc (.cells (ptC X1 Y1 Z1) 39)).alloc (.cells (ptC X2 Y2 Z2) 39)).alloc (.cells (ptC 0 0 0) 39)) (w.heap.size + 1) 39 (ptC X2 Y2 Z2) := (Has.new' (by simp)).alloc _
  have hR : Has (((w.alloc (.cells (ptC X1 Y1 Z1) 39)).alloc (.cells (ptC X2 Y2 Z2) 39)).alloc (.cells (ptC 0 0 0) 39)) (w.heap.size + 1 + 1) 39 (ptC 0 0 0) := Has.new' (by simp)
  have hb0 : Below w.heap.size w (((w.alloc (.cells (ptC X1 Y1 Z1) 39)).alloc (.cells (ptC X2 Y2 Z2) 39)).alloc (.cells (ptC 0 0 0) 39)) := (((Below.refl _ _).alloc (Nat.le_refl _) _).alloc (by simp) _).alloc (by simp <;> omega) _
  replace hF := hF.after hb0
  go_enter Tryd.func28, Tryd.ntmps28
  go_wp2_with (first | refine wpList_load_hex rfl _ rfl (w.heap.size) 32 rfl Z1 (pt_z hP) ?_ | refine wpList_load_has 39 _ rfl _ rfl rfl 39 _ hQ _ Tryd.underlying39 rfl (infoPt _ _ _) ?_ | refine wpList_store_row rfl 39 _ _ rfl (w.heap.size + 1 + 1) _ rfl rfl 39 _ hR (infoPt _ _ _) (by simp only [ptC_size]) (tab_oneCell _ _ fun _ => rfl) ?_)
  exact bodyPost_ret (v := .agg (ptC X2 Y2 Z2)) (results_cell_row rfl _ _ (w.heap.size + 1 + 1) 39 _ _ _ rfl (hR.setRow _) Tryd.underlying39 rfl (infoPt _ _ _)) rfl ⟨rfl, below_setRow hb0 (by omega) _⟩
set_option maxRecDepth 100000 in
set_option maxHeartbeats 4000000 in
theorem plus_z2 (X1 Y1 Z1 X2 Y2 g m : Nat) (w : World) (hF : IsField w g m) (hm : FldOK m) (lZ1 : Z1 < m) (hz1 : Z1 ≠ 0) : Calls Tryd.prog 28 #[.pointer (some ⟨g, 0, none⟩), .agg (ptC X1 Y1 Z1), .agg (ptC X2 Y2 0)] w fun e w' => e = .returned (.agg (ptC X1 Y1 Z1)) ∧ Below w.heap.size w w' := by
  have hn1 := hexNe Z1 m hm lZ1 hz1
  obtain ⟨Z2, hZ2⟩ : ∃ Z2 : Nat, Z2 = 0 := ⟨_, rfl⟩
  rw [← hZ2]
  have hn2 : ∀ W, (binOp .eql 37 (.agg (d16 Z2)) (.agg (d16 0))).run Tryd.prog W = .ok (.bool true) W := fun W => by rw [hZ2]; exact hexZ W
  clear hZ2 hm lZ1 hz1
  have n0 := d16_ne 0
  have hP : Has (((w.alloc (.cells (ptC X1 Y1 Z1) 39)).alloc (.cells (ptC X2 Y2 Z2) 39)).alloc (.cells (ptC 0 0 0) 39)) w.heap.size 39 (ptC X1 Y1 Z1) := ((Has.new w _ _).alloc _).alloc _
  have hQ : Has (((w.alloc (.cells (ptC X1 Y1 Z1) 39)).alloc (.cells (ptC X2 Y2 Z2) 39)).alloc (.cells (ptC 0 0 0) 39)) (w.heap.size + 1) 39 (ptC X2 Y2 Z2) := (Has.new' (by simp)).alloc _
  have hR : Has (((w.alloc (.cells (ptC X1 Y1 Z1) 39)).alloc (.cells (ptC X2 Y2 Z2) 39)).alloc (.cells (ptC 0 0 0) 39)) (w.heap.size + 1 + 1) 39 (ptC 0 0 0) := Has.new' (by simp)
  have hb0 : Below w.heap.size w (((w.alloc (.cells (ptC X1 Y1 Z1) 39)).alloc (.cells (ptC X2 Y2 Z2) 39)).alloc (.cells (ptC 0 0 0) 39)) := (((Below.refl _ _).alloc (Nat.le_refl _) _).alloc (by simp) _).alloc (by simp <;> omega) _
  replace hF := hF.after hb0
  go_enter Tryd.func28, Tryd.ntmps28
  go_wp2_with (first | refine wpList_load_hex rfl _ rfl (w.heap.size) 32 rfl Z1 (pt_z hP) ?_ | refine wpList_load_hex rfl _ rfl (w.heap.size + 1) 32 rfl Z2 (pt_z hQ) ?_ | refine wpList_load_has 39 _ rfl _ rfl rfl 39 _ hP _ Tryd.underlying39 rfl (infoPt _ _ _) ?_ | refine wpList_store_row rfl 39 _ _ rfl (w.heap.size + 1 + 1) _ rfl rfl 39 _ hR (infoPt _ _ _) (by simp only [ptC_size]) (tab_oneCell _ _ fun _ => rfl) ?_)
  exact bodyPost_ret (v := .agg (ptC X1 Y1 Z1)) (results_cell_row rfl _ _ (w.heap.size + 1 + 1) 39 _ _ _ rfl (hR.setRow _) Tryd.underlying39 rfl (infoPt _ _ _)) rfl ⟨rfl, below_setRow hb0 (by omega) _⟩
set_option maxRecDepth 100000 in
set_option maxHeartbeats 4000000 in
theorem plus_ne (X1 Y1 Z1 X2 Y2 Z2 m : Nat) (hm : FldOK m) (hmp : m = Ec.pp) (lX1 : X1 < m) (lY1 : Y1 < m) (lZ1 : Z1 < m) (lX2 : X2 < m) (lY2 : Y2 < m) (lZ2 : Z2 < m) (hz1 : Z1 ≠ 0) (hz2 : Z2 ≠ 0) (hv : (X2 * Z1 % m + (m - X1 * Z2 % m)) % m ≠ 0) :
    ∃ X' Y' Z' : Nat, X' < m ∧ Y' < m ∧ Z' < m ∧ (∀ P Q, Ec.Rep (Ec.c X1) (Ec.c Y1) (Ec.c Z1) P → Ec.Rep (Ec.c X2) (Ec.c Y2) (Ec.c Z2) Q → Ec.Rep (Ec.c X') (Ec.c Y') (Ec.c Z') (Ec.plus P Q)) ∧
      ∀ g w, IsField w g m → Calls Tryd.prog 28 #[.pointer (some ⟨g, 0, none⟩), .agg (ptC X1 Y1 Z1), .agg (ptC X2 Y2 Z2)] w fun e w' => e = .returned (.agg (ptC X' Y' Z')) ∧ Below w.heap.size w w' := by
  have m0 := hm.1
  obtain ⟨v1, ev1⟩ : ∃ v, v = Y1 * Z2 % m := ⟨_, rfl⟩
  have lv1 : v1 < m := by rw [ev1]; exact Nat.mod_lt _ m0
  have kv1 := fun g W (h : IsField W g m) => fmul_c Y1 Z2 m g W h hm lY1 lZ2
  rw [← ev1] at kv1
  have cv1 : Ec.c v1 = Ec.c Y1 * Ec.c Z2 := by rw [ev1]; exact cm hmp Y1 Z2
  obtain ⟨v2, ev2⟩ : ∃ v, v = X1 * Z2 % m := ⟨_, rfl⟩
  have lv2 : v2 < m := by rw [ev2]; exact Nat.mod_lt _ m0
  have kv2 := fun g W (h : IsField W g m) => fmul_c X1 Z2 m g W h hm lX1 lZ2
  rw [← ev2] at kv2
  have cv2 : Ec.c v2 = Ec.c X1 * Ec.c Z2 := by rw [ev2]; exact cm hmp X1 Z2
  obtain ⟨v3, ev3⟩ : ∃ v, v = Y2 * Z1 % m := ⟨_, rfl⟩
  have lv3 : v3 < m := by rw [ev3]; exact Nat.mod_lt _ m0
  have kv3 := fun g W (h : IsField W g m) => fmul_c Y2 Z1 m g W h hm lY2 lZ1
  rw [← ev3] at kv3
  have cv3 : Ec.c v3 = Ec.c Y2 * Ec.c Z1 := by rw [ev3]; exact cm hmp Y2 Z1
  obtain ⟨v4, ev4⟩ : ∃ v, v = (v3 + (m - v1)) % m := ⟨_, rfl⟩
  have lv4 : v4 < m := by rw [ev4]; exact Nat.mod_lt _ m0
  have kv4 := fun g W (h : IsField W g m) => fsub_c v3 v1 m g W h hm lv3 lv1
  rw [← ev4] at kv4
  have cv4 : Ec.c v4 = Ec.c v3 - Ec.c v1 := by rw [ev4]; exact cs hmp v3 v1 (Nat.le_of_lt lv1)
  obtain ⟨v5, ev5⟩ : ∃ v, v = X2 * Z1 % m := ⟨_, rfl⟩
  have lv5 : v5 < m := by rw [ev5]; exact Nat.mod_lt _ m0
  have kv5 := fun g W (h : IsField W g m) => fmul_c X2 Z1 m g W h hm lX2 lZ1
  rw [← ev5] at kv5
  have cv5 : Ec.c v5 = Ec.c X2 * Ec.c Z1 := by rw [ev5]; exact cm hmp X2 Z1
  obtain ⟨v6, ev6⟩ : ∃ v, v = (v5 + (m - v2)) % m := ⟨_, rfl⟩
  have lv6 : v6 < m := by rw [ev6]; exact Nat.mod_lt _ m0
  have kv6 := fun g W (h : IsField W g m) => fsub_c v5 v2 m g W h hm lv5 lv2
  rw [← ev6] at kv6
  have cv6 : Ec.c v6 = Ec.c v5 - Ec.c v2 := by rw [ev6]; exact cs hmp v5 v2 (Nat.le_of_lt lv2)
  obtain ⟨v7, ev7⟩ : ∃ v, v = Z1 * Z2 % m := ⟨_, rfl⟩
  have lv7 : v7 < m := by rw [ev7]; exact Nat.mod_lt _ m0
  have kv7 := fun g W (h : IsField W g m) => fmul_c Z1 Z2 m g W h hm lZ1 lZ2
  rw [← ev7] at kv7
  have cv7 : Ec.c v7 = Ec.c Z1 * Ec.c Z2 := by rw [ev7]; exact cm hmp Z1 Z2
  obtain ⟨v8, ev8⟩ : ∃ v, v = v6 * v6 % m := ⟨_, rfl⟩
  have lv8 : v8 < m := by rw [ev8]; exact Nat.mod_lt _ m0
  have kv8 := fun g W (h : IsField W g m) => fmul_c v6 v6 m g W h hm lv6 lv6
  rw [← ev8] at kv8
  have cv8 : Ec.c v8 = Ec.c v6 * Ec.c v6 := by rw [ev8]; exact cm hmp v6 v6
  obtain ⟨v9, ev9⟩ : ∃ v, v = v6 * v8 % m := ⟨_, rfl⟩
  have lv9 : v9 < m := by rw [ev9]; exact Nat.mod_lt _ m0
  have kv9 := fun g W (h : IsField W g m) => fmul_c v6 v8 m g W h hm lv6 lv8
  rw [← ev9] at kv9
  have cv9 : Ec.c v9 = Ec.c v6 * Ec.c v8 := by rw [ev9]; exact cm hmp v6 v8
  obtain ⟨v10, ev10⟩ : ∃ v, v = v8 * v2 % m := ⟨_, rfl⟩
  have lv10 : v10 < m := by rw [ev10]; exact Nat.mod_lt _ m0
  have kv10 := fun g W (h : IsField W g m) => fmul_c v8 v2 m g W h hm lv8 lv2
  rw [← ev10] at kv10
  have cv10 : Ec.c v10 = Ec.c v8 * Ec.c v2 := by rw [ev10]; exact cm hmp v8 v2
  obtain ⟨v11, ev11⟩ : ∃ v, v = v4 * v4 % m := ⟨_, rfl⟩
  have lv11 : v11 < m := by rw [ev11]; exact Nat.mod_lt _ m0
  have kv11 := fun g W (h : IsField W g m) => fmul_c v4 v4 m g W h hm lv4 lv4
  rw [← ev11] at kv11
  have cv11 : Ec.c v11 = Ec.c v4 * Ec.c v4 := by rw [ev11]; exact cm hmp v4 v4
  obtain ⟨v12, ev12⟩ : ∃ v, v = v11 * v7 % m := ⟨_, rfl⟩
  have lv12 : v12 < m := by rw [ev12]; exact Nat.mod_lt _ m0
  have kv12 := fun g W (h : IsField W g m) => fmul_c v11 v7 m g W h hm lv11 lv7
  rw [← ev12] at kv12
  have cv12 : Ec.c v12 = Ec.c v11 * Ec.c v7 := by rw [ev12]; exact cm hmp v11 v7
  obtain ⟨v13, ev13⟩ : ∃ v, v = (v12 + (m - v9)) % m := ⟨_, rfl⟩
  have lv13 : v13 < m := by rw [ev13]; exact Nat.mod_lt _ m0
  have kv13 := fun g W (h : IsField W g m) => fsub_c v12 v9 m g W h hm lv12 lv9
  rw [← ev13] at kv13
  have cv13 : Ec.c v13 = Ec.c v12 - Ec.c v9 := by rw [ev13]; exact cs hmp v12 v9 (Nat.le_of_lt lv9)
  obtain ⟨v14, ev14⟩ : ∃ v, v = (v10 + v10) % m := ⟨_, rfl⟩
  have lv14 : v14 < m := by rw [ev14]; exact Nat.mod_lt _ m0
  have kv14 := fun g W (h : IsField W g m) => fadd_c v10 v10 m g W h hm lv10 lv10
  rw [← ev14] at kv14
  have cv14 : Ec.c v14 = Ec.c v10 + Ec.c v10 := by rw [ev14]; exact ca hmp v10 v10
  obtain ⟨v15, ev15⟩ : ∃ v, v = (v13 + (m - v14)) % m := ⟨_, rfl⟩
  have lv15 : v15 < m := by rw [ev15]; exact Nat.mod_lt _ m0
  have kv15 := fun g W (h : IsField W g m) => fsub_c v13 v14 m g W h hm lv13 lv14
  rw [← ev15] at kv15
  have cv15 : Ec.c v15 = Ec.c v13 - Ec.c v14 := by rw [ev15]; exact cs hmp v13 v14 (Nat.le_of_lt lv14)
  obtain ⟨v16, ev16⟩ : ∃ v, v = v6 * v15 % m := ⟨_, rfl⟩
  have lv16 : v16 < m := by rw [ev16]; exact Nat.mod_lt _ m0
  have kv16 := fun g W (h : IsField W g m) => fmul_c v6 v15 m g W h hm lv6 lv15
  rw [← ev16] at kv16
  have cv16 : Ec.c v16 = Ec.c v6 * Ec.c v15 := by rw [ev16]; exact cm hmp v6 v15
  obtain ⟨v17, ev17⟩ : ∃ v, v = (v10 + (m - v15)) % m := ⟨_, rfl⟩
  have lv17 : v17 < m := by rw [ev17]; exact Nat.mod_lt _ m0
  have kv17 := fun g W (h : IsField W g m) => fsub_c v10 v15 m g W h hm lv10 lv15
  rw [← ev17] at kv17
  have cv17 : Ec.c v17 = Ec.c v10 - Ec.c v15 := by rw [ev17]; exact cs hmp v10 v15 (Nat.le_of_lt lv15)
  obtain ⟨v18, ev18⟩ : ∃ v, v = v4 * v17 % m := ⟨_, rfl⟩
  have lv18 : v18 < m := by rw [ev18]; exact Nat.mod_lt _ m0
  have kv18 := fun g W (h : IsField W g m) => fmul_c v4 v17 m g W h hm lv4 lv17
  rw [← ev18] at kv18
  have cv18 : Ec.c v18 = Ec.c v4 * Ec.c v17 := by rw [ev18]; exact cm hmp v4 v17
  obtain ⟨v19, ev19⟩ : ∃ v, v = v9 * v1 % m := ⟨_, rfl⟩
  have lv19 : v19 < m := by rw [ev19]; exact Nat.mod_lt _ m0
  have kv19 := fun g W (h : IsField W g m) => fmul_c v9 v1 m g W h hm lv9 lv1
  rw [← ev19] at kv19
  have cv19 : Ec.c v19 = Ec.c v9 * Ec.c v1 := by rw [ev19]; exact cm hmp v9 v1
  obtain ⟨v20, ev20⟩ : ∃ v, v = (v18 + (m - v19)) % m := ⟨_, rfl⟩
  have lv20 : v20 < m := by rw [ev20]; exact Nat.mod_lt _ m0
  have kv20 := fun g W (h : IsField W g m) => fsub_c v18 v19 m g W h hm lv18 lv19
  rw [← ev20] at kv20
  have cv20 : Ec.c v20 = Ec.c v18 - Ec.c v19 := by rw [ev20]; exact cs hmp v18 v19 (Nat.le_of_lt lv19)
  obtain ⟨v21, ev21⟩ : ∃ v, v = v9 * v7 % m := ⟨_, rfl⟩
  have lv21 : v21 < m := by rw [ev21]; exact Nat.mod_lt _ m0
  have kv21 := fun g W (h : IsField W g m) => fmul_c v9 v7 m g W h hm lv9 lv7
  rw [← ev21] at kv21
  have cv21 : Ec.c v21 = Ec.c v9 * Ec.c v7 := by rw [ev21]; exact cm hmp v9 v7
  rw [← ev5, ← ev2, ← ev6] at hv
  refine ⟨v16, v20, v21, lv16, lv20, lv21, fun P Q hP hQ => ?_, fun g w hF => ?_⟩
  · have hz1c : Ec.c Z1 ≠ 0 := Ec.c_zero (by rw [← hmp]; exact lZ1) hz1
    have hz2c : Ec.c Z2 ≠ 0 := Ec.c_zero (by rw [← hmp]; exact lZ2) hz2
    have hv0 : Ec.c v6 ≠ 0 := Ec.c_zero (by rw [← hmp]; exact lv6) hv
    have hu : Ec.c v4 = Ec.c Y2 * Ec.c Z1 - Ec.c v1 := by rw [cv4, cv3]
    have hvv : Ec.c v6 = Ec.c X2 * Ec.c Z1 - Ec.c v2 := by rw [cv6, cv5]
    have ht : Ec.c v15 = Ec.c v4 * Ec.c v4 * Ec.c v7 - Ec.c v9 - 2 * Ec.c v10 := by rw [cv15, cv13, cv12, cv11, cv14]; clear cv1 cv2 cv3 cv4 cv5 cv6 cv7 cv8 cv9 cv10 cv11 cv12 cv13 cv14 cv15 cv16 cv17 cv18 cv19 cv20 cv21; grobner
    have key := Ec.sum_rep hP hQ hz1c hz2c cv1 cv2 hu hvv hv0 cv7 cv8 cv9 cv10 ht
    have eY : Ec.c v20 = Ec.c v4 * (Ec.c v10 - Ec.c v15) - Ec.c v9 * Ec.c v1 := by rw [cv20, cv18, cv17, cv19]
    rw [cv16, eY, cv21]
    exact key
  have hn1 := hexNe Z1 m hm lZ1 hz1
  have hn2 := hexNe Z2 m hm lZ2 hz2
  have hn3 := hexNe v6 m hm lv6 hv
  clear ev1 cv1 lv1 ev2 cv2 lv2 ev3 cv3 lv3 ev4 cv4 lv4 ev5 cv5 lv5 ev6 cv6 lv6 ev7 cv7 lv7 ev8 cv8 lv8 ev9 cv9 lv9 ev10 cv10 lv10 ev11 cv11 lv11 ev12 cv12 lv12 ev13 cv13 lv13 ev14 cv14 lv14 ev15 cv15 lv15 ev16 cv16 lv16 ev17 cv17 lv17 ev18 cv18 lv18 ev19 cv19 lv19 ev20 cv20 lv20 ev21 cv21 lv21 hm hmp lX1 lY1 lZ1 lX2 lY2 lZ2 m0 hz1 hz2 hv
  have n0 := d16_ne 0
  have hP : Has (((w.alloc (.cells (ptC X1 Y1 Z1) 39)).alloc (.cells (ptC X2 Y2 Z2) 39)).alloc (.cells (ptC 0 0 0) 39)) w.heap.size 39 (ptC X1 Y1 Z1) := ((Has.new w _ _).alloc _).alloc _
  have hQ : Has (((w.alloc (.cells (ptC X1 Y1 Z1) 39)).alloc (.cells (ptC X2 Y2 Z2) 39)).alloc (.cells (ptC 0 0 0) 39)) (w.heap.size + 1) 39 (ptC X2 Y2 Z2) := (Has.new' (by simp)).alloc _
  have hR : Has (((w.alloc (.cells (ptC X1 Y1 Z1) 39)).alloc (.cells (ptC X2 Y2 Z2) 39)).alloc (.cells (ptC 0 0 0) 39)) (w.heap.size + 1 + 1) 39 (ptC 0 0 0) := Has.new' (by simp)
  have hb0 : Below w.heap.size w (((w.alloc (.cells (ptC X1 Y1 Z1) 39)).alloc (.cells (ptC X2 Y2 Z2) 39)).alloc (.cells (ptC 0 0 0) 39)) := (((Below.refl _ _).alloc (Nat.le_refl _) _).alloc (by simp) _).alloc (by simp <;> omega) _
  replace hF := hF.after hb0
  go_enter Tryd.func28, Tryd.ntmps28
  go_wp2_with (first | refine wpList_load_hex rfl _ rfl (w.heap.size) 32 rfl Z1 (pt_z hP) ?_ | refine wpList_load_hex rfl _ rfl (w.heap.size + 1) 32 rfl Z2 (pt_z hQ) ?_)
  generalize ((w.alloc _).alloc _).alloc _ = U0 at *
  clear hn1 hn2
  go_wp2_with fail
  have ohR_1 := hR.lt
  have ohF_1 := hF.lt
  have ohP_1 := hP.lt
  have ohQ_1 := hQ.lt
  refine region_facts 14 [] [.val (.pointer (some ⟨g, 0, none⟩)), .val (.pointer (some ⟨w.heap.size, 16, none⟩)), .val (.agg (d16 (Y1))), .val (.pointer (some ⟨w.heap.size + 1, 32, none⟩)), .val (.agg (d16 (Z2))), .val (.agg (d16 (v1))), .val (.pointer (some ⟨g, 0, none⟩)), .val (.pointer (some ⟨w.heap.size, 0, none⟩)), .val (.agg (d16 (X1))), .val (.pointer (some ⟨w.heap.size + 1, 32, none⟩)), .val (.agg (d16 (Z2))), .val (.agg (d16 (v2))), .new 37 (d16 0), .new 37 (d16 0)]
    (by kernel_rfl) (by kernel_rfl) (fun _ _ _ _ _ h => h) ?_ ?_
  · simp only [List.take_succ_cons, List.take_zero, StepsOK]
    refine ⟨?_, ?_, ?_, ?_, ?_, ?_, ?_, ?_, ?_, ?_, ?_, ?_, ?_, ?_, trivial⟩
    · intro v w' hb hf K hKt
      simp only [putAll, Act.put, List.setIfInBounds_toArray, List.set_cons_zero, List.set_cons_succ, Nat.zero_add, Nat.reduceAdd] at hKt ⊢
      go_simp
      exact hKt _ (Below.refl _ _)
    · intro v w' hb hf K hKt
      simp only [putAll, Act.put, List.setIfInBounds_toArray, List.set_cons_zero, List.set_cons_succ, Nat.zero_add, Nat.reduceAdd] at hKt ⊢
      go_simp
      exact hKt _ (Below.refl _ _)
    · intro v w' hb hf K hKt
      have f1 : v 1 = _ := hf ⟨1, .data⟩ (by simp) rfl
      simp only [putAll, Act.put, List.setIfInBounds_toArray, List.set_cons_zero, List.set_cons_succ, Nat.zero_add, Nat.reduceAdd] at hKt ⊢
      rw [f1] at hKt ⊢
      exact wp_load_hex _ rfl (w.heap.size) 16 rfl Y1 (pt_y ((hP.after hb))) (hKt _ (Below.refl _ _))
    · intro v w' hb hf K hKt
      simp only [putAll, Act.put, List.setIfInBounds_toArray, List.set_cons_zero, List.set_cons_succ, Nat.zero_add, Nat.reduceAdd] at hKt ⊢
      go_simp
      exact hKt _ (Below.refl _ _)
    · intro v w' hb hf K hKt
      have f3 : v 3 = _ := hf ⟨3, .data⟩ (by simp) rfl
      simp only [putAll, Act.put, List.setIfInBounds_toArray, List.set_cons_zero, List.set_cons_succ, Nat.zero_add, Nat.reduceAdd] at hKt ⊢
      rw [f3] at hKt ⊢
      exact wp_load_hex _ rfl (w.heap.size + 1) 32 rfl Z2 (pt_z ((hQ.after hb))) (hKt _ (Below.refl _ _))
    · intro v w' hb hf K hKt
      have f0 : v 0 = _ := hf ⟨0, .data⟩ (by simp) rfl
      have f2 : v 2 = _ := hf ⟨2, .data⟩ (by simp) rfl
      have f4 : v 4 = _ := hf ⟨4, .data⟩ (by simp) rfl
      simp only [putAll, Act.put, List.setIfInBounds_toArray, List.set_cons_zero, List.set_cons_succ, Nat.zero_add, Nat.reduceAdd] at hKt ⊢
      rw [f0, f2, f4] at hKt ⊢
      go_simp
      refine (kv1 _ w' (hF.after hb)).mono ?_
      rintro e w'' ⟨rfl, hb2⟩
      exact hKt _ hb2
    · intro v w' hb hf K hKt
      simp only [putAll, Act.put, List.setIfInBounds_toArray, List.set_cons_zero, List.set_cons_succ, Nat.zero_add, Nat.reduceAdd] at hKt ⊢
      go_simp
      exact hKt _ (Below.refl _ _)
    · intro v w' hb hf K hKt
      simp only [putAll, Act.put, List.setIfInBounds_toArray, List.set_cons_zero, List.set_cons_succ, Nat.zero_add, Nat.reduceAdd] at hKt ⊢
      go_simp
      exact hKt _ (Below.refl _ _)
    · intro v w' hb hf K hKt
      have f7 : v 7 = _ := hf ⟨7, .data⟩ (by simp) rfl
      simp only [putAll, Act.put, List.setIfInBounds_toArray, List.set_cons_zero, List.set_cons_succ, Nat.zero_add, Nat.reduceAdd] at hKt ⊢
      rw [f7] at hKt ⊢
      exact wp_load_hex _ rfl (w.heap.size) 0 rfl X1 (pt_x ((hP.after hb))) (hKt _ (Below.refl _ _))
    · intro v w' hb hf K hKt
      simp only [putAll, Act.put, List.setIfInBounds_toArray, List.set_cons_zero, List.set_cons_succ, Nat.zero_add, Nat.reduceAdd] at hKt ⊢
      go_simp
      exact hKt _ (Below.refl _ _)
    · intro v w' hb hf K hKt
      have f9 : v 9 = _ := hf ⟨9, .data⟩ (by simp) rfl
      simp only [putAll, Act.put, List.setIfInBounds_toArray, List.set_cons_zero, List.set_cons_succ, Nat.zero_add, Nat.reduceAdd] at hKt ⊢
      rw [f9] at hKt ⊢
      exact wp_load_hex _ rfl (w.heap.size + 1) 32 rfl Z2 (pt_z ((hQ.after hb))) (hKt _ (Below.refl _ _))
    · intro v w' hb hf K hKt
      have f6 : v 6 = _ := hf ⟨6, .data⟩ (by simp) rfl
      have f8 : v 8 = _ := hf ⟨8, .data⟩ (by simp) rfl
      have f10 : v 10 = _ := hf ⟨10, .data⟩ (by simp) rfl
      simp only [putAll, Act.put, List.setIfInBounds_toArray, List.set_cons_zero, List.set_cons_succ, Nat.zero_add, Nat.reduceAdd] at hKt ⊢
      rw [f6, f8, f10] at hKt ⊢
      go_simp
      refine (kv2 _ w' (hF.after hb)).mono ?_
      rintro e w'' ⟨rfl, hb2⟩
      exact hKt _ hb2
    · exact ⟨rfl, rfl, zeroV16⟩
    · exact ⟨rfl, rfl, zeroV16⟩
  intro v u1 hb hF hD
  have f0 : v 0 = _ := hF 0 (by decide)
  have f1 : v 1 = _ := hF 1 (by decide)
  have f2 : v 2 = _ := hF 2 (by decide)
  have f3 : v 3 = _ := hF 3 (by decide)
  have f4 : v 4 = _ := hF 4 (by decide)
  have f5 : v 5 = _ := hF 5 (by decide)
  have f6 : v 6 = _ := hF 6 (by decide)
  have f7 : v 7 = _ := hF 7 (by decide)
  have f8 : v 8 = _ := hF 8 (by decide)
  have f9 : v 9 = _ := hF 9 (by decide)
  have f10 : v 10 = _ := hF 10 (by decide)
  have f11 : v 11 = _ := hF 11 (by decide)
  obtain ⟨g1_12, f12, hg12, hl12, hz12⟩ := hF 12 (by decide)
  replace hz12 : Has u1 g1_12 37 (d16 0) := hz12
  obtain ⟨g1_13, f13, hg13, hl13, hz13⟩ := hF 13 (by decide)
  replace hz13 : Has u1 g1_13 37 (d16 0) := hz13
  have hne12_13 : g1_12 ≠ g1_13 := fun h => hD 12 13 (by decide) (by decide) (by decide) rfl rfl (by rw [f12, f13, h])
  simp only [List.take_succ_cons, List.take_zero, List.drop_succ_cons, List.drop_zero, putAll, Act.put, List.setIfInBounds_toArray, List.set_cons_zero, List.set_cons_succ, Nat.zero_add, Nat.reduceAdd]
  rw [f0, f1, f2, f3, f4, f5, f6, f7, f8, f9, f10, f11, f12, f13]
  clear hF hD f0 f1 f2 f3 f4 f5 f6 f7 f8 f9 f10 f11 f12 f13
  have hs12 := hz12
  have hs13 := (hz13).farRow (k := g1_12) (by omega) (d16 (v1))
  have hBW := below_setRow (below_setRow (hb) (g := g1_12) hg12 (d16 (v1))) (g := g1_13) hg13 (d16 (v2))
  have hv_v1 := ((hz12).setRow (d16 (v1))).farRow (k := g1_13) (by omega) (d16 (v2))
  have hv_v2 := ((hz13).farRow (k := g1_12) (by omega) (d16 (v1))).setRow (d16 (v2))
  replace hR := hR.after hBW
  replace hF := hF.after hBW
  replace hP := hP.after hBW
  replace hQ := hQ.after hBW
  replace hb0 := below_trans hb0 hBW
  go_wp2_with (first | refine wpList_store_row rfl 37 _ _ rfl g1_12 _ rfl rfl 37 (d16 0) hs12 (info16 _) (by simp only [d16_size]) (tab_oneCell _ _ fun _ => rfl) ?_ | (refine wpList_store_row rfl 37 _ _ rfl g1_13 _ rfl rfl 37 (d16 0) hs13 (info16 _) (by simp only [d16_size]) (tab_oneCell _ _ fun _ => rfl) ?_; generalize hWW : World.setRow _ _ _ = U1 at *; clear hWW))
  clear hBW hb hs12 hz12 hl12 hs13 hz13 hl13
  have ohv_v1_2 := hv_v1.lt
  have ohv_v2_2 := hv_v2.lt
  have ohR_2 := hR.lt
  have ohF_2 := hF.lt
  have ohP_2 := hP.lt
  have ohQ_2 := hQ.lt
  refine region_facts 20 [] [.val (.pointer (some ⟨g, 0, none⟩)), .val (.pointer (some ⟨g, 0, none⟩)), .val (.pointer (some ⟨w.heap.size + 1, 16, none⟩)), .val (.agg (d16 (Y2))), .val (.pointer (some ⟨w.heap.size, 32, none⟩)), .val (.agg (d16 (Z1))), .val (.agg (d16 (v3))), .val (.agg (d16 (v1))), .val (.agg (d16 (v4))), .val (.pointer (some ⟨g, 0, none⟩)), .val (.pointer (some ⟨g, 0, none⟩)), .val (.pointer (some ⟨w.heap.size + 1, 0, none⟩)), .val (.agg (d16 (X2))), .val (.pointer (some ⟨w.heap.size, 32, none⟩)), .val (.agg (d16 (Z1))), .val (.agg (d16 (v5))), .val (.agg (d16 (v2))), .val (.agg (d16 (v6))), .new 37 (d16 0), .new 37 (d16 0)]
    (by kernel_rfl) (by kernel_rfl) (fun _ _ _ _ _ h => h) ?_ ?_
  · simp only [List.take_succ_cons, List.take_zero, StepsOK]
    refine ⟨?_, ?_, ?_, ?_, ?_, ?_, ?_, ?_, ?_, ?_, ?_, ?_, ?_, ?_, ?_, ?_, ?_, ?_, ?_, ?_, trivial⟩
    · intro v w' hb hf K hKt
      simp only [putAll, Act.put, List.setIfInBounds_toArray, List.set_cons_zero, List.set_cons_succ, Nat.zero_add, Nat.reduceAdd] at hKt ⊢
      go_simp
      exact hKt _ (Below.refl _ _)
    · intro v w' hb hf K hKt
      simp only [putAll, Act.put, List.setIfInBounds_toArray, List.set_cons_zero, List.set_cons_succ, Nat.zero_add, Nat.reduceAdd] at hKt ⊢
      go_simp
      exact hKt _ (Below.refl _ _)
    · intro v w' hb hf K hKt
      simp only [putAll, Act.put, List.setIfInBounds_toArray, List.set_cons_zero, List.set_cons_succ, Nat.zero_add, Nat.reduceAdd] at hKt ⊢
      go_simp
      exact hKt _ (Below.refl _ _)
    · intro v w' hb hf K hKt
      have f2 : v 2 = _ := hf ⟨2, .data⟩ (by simp) rfl
      simp only [putAll, Act.put, List.setIfInBounds_toArray, List.set_cons_zero, List.set_cons_succ, Nat.zero_add, Nat.reduceAdd] at hKt ⊢
      rw [f2] at hKt ⊢
      exact wp_load_hex _ rfl (w.heap.size + 1) 16 rfl Y2 (pt_y ((hQ.after hb))) (hKt _ (Below.refl _ _))
    · intro v w' hb hf K hKt
      simp only [putAll, Act.put, List.setIfInBounds_toArray, List.set_cons_zero, List.set_cons_succ, Nat.zero_add, Nat.reduceAdd] at hKt ⊢
      go_simp
      exact hKt _ (Below.refl _ _)
    · intro v w' hb hf K hKt
      have f4 : v 4 = _ := hf ⟨4, .data⟩ (by simp) rfl
      simp only [putAll, Act.put, List.setIfInBounds_toArray, List.set_cons_zero, List.set_cons_succ, Nat.zero_add, Nat.reduceAdd] at hKt ⊢
      rw [f4] at hKt ⊢
      exact wp_load_hex _ rfl (w.heap.size) 32 rfl Z1 (pt_z ((hP.after hb))) (hKt _ (Below.refl _ _))
    · intro v w' hb hf K hKt
      have f1 : v 1 = _ := hf ⟨1, .data⟩ (by simp) rfl
      have f3 : v 3 = _ := hf ⟨3, .data⟩ (by simp) rfl
      have f5 : v 5 = _ := hf ⟨5, .data⟩ (by simp) rfl
      simp only [putAll, Act.put, List.setIfInBounds_toArray, List.set_cons_zero, List.set_cons_succ, Nat.zero_add, Nat.reduceAdd] at hKt ⊢
      rw [f1, f3, f5] at hKt ⊢
      go_simp
      refine (kv3 _ w' (hF.after hb)).mono ?_
      rintro e w'' ⟨rfl, hb2⟩
      exact hKt _ hb2
    · intro v w' hb hf K hKt
      simp only [putAll, Act.put, List.setIfInBounds_toArray, List.set_cons_zero, List.set_cons_succ, Nat.zero_add, Nat.reduceAdd] at hKt ⊢
      exact wp_load_row 37 _ rfl (g1_12) rfl 37 _ (0, 0) _ (hv_v1.after hb) Tryd.underlying37 rfl (info16 _) (hKt _ (Below.refl _ _))
    · intro v w' hb hf K hKt
      have f0 : v 0 = _ := hf ⟨0, .data⟩ (by simp) rfl
      have f6 : v 6 = _ := hf ⟨6, .data⟩ (by simp) rfl
      have f7 : v 7 = _ := hf ⟨7, .data⟩ (by simp) rfl
      simp only [putAll, Act.put, List.setIfInBounds_toArray, List.set_cons_zero, List.set_cons_succ, Nat.zero_add, Nat.reduceAdd] at hKt ⊢
      rw [f0, f6, f7] at hKt ⊢
      go_simp
      refine (kv4 _ w' (hF.after hb)).mono ?_
      rintro e w'' ⟨rfl, hb2⟩
      exact hKt _ hb2
    · intro v w' hb hf K hKt
      simp only [putAll, Act.put, List.setIfInBounds_toArray, List.set_cons_zero, List.set_cons_succ, Nat.zero_add, Nat.reduceAdd] at hKt ⊢
      go_simp
      exact hKt _ (Below.refl _ _)
    · intro v w' hb hf K hKt
      simp only [putAll, Act.put, List.setIfInBounds_toArray, List.set_cons_zero, List.set_cons_succ, Nat.zero_add, Nat.reduceAdd] at hKt ⊢
      go_simp
      exact hKt _ (Below.refl _ _)
    · intro v w' hb hf K hKt
      simp only [putAll, Act.put, List.setIfInBounds_toArray, List.set_cons_zero, List.set_cons_succ, Nat.zero_add, Nat.reduceAdd] at hKt ⊢
      go_simp
      exact hKt _ (Below.refl _ _)
    · intro v w' hb hf K hKt
      have f11 : v 11 = _ := hf ⟨11, .data⟩ (by simp) rfl
      simp only [putAll, Act.put, List.setIfInBounds_toArray, List.set_cons_zero, List.set_cons_succ, Nat.zero_add, Nat.reduceAdd] at hKt ⊢
      rw [f11] at hKt ⊢
      exact wp_load_hex _ rfl (w.heap.size + 1) 0 rfl X2 (pt_x ((hQ.after hb))) (hKt _ (Below.refl _ _))
    · intro v w' hb hf K hKt
      simp only [putAll, Act.put, List.setIfInBounds_toArray, List.set_cons_zero, List.set_cons_succ, Nat.zero_add, Nat.reduceAdd] at hKt ⊢
      go_simp
      exact hKt _ (Below.refl _ _)
    · intro v w' hb hf K hKt
      have f13 : v 13 = _ := hf ⟨13, .data⟩ (by simp) rfl
      simp only [putAll, Act.put, List.setIfInBounds_toArray, List.set_cons_zero, List.set_cons_succ, Nat.zero_add, Nat.reduceAdd] at hKt ⊢
      rw [f13] at hKt ⊢
      exact wp_load_hex _ rfl (w.heap.size) 32 rfl Z1 (pt_z ((hP.after hb))) (hKt _ (Below.refl _ _))
    · intro v w' hb hf K hKt
      have f10 : v 10 = _ := hf ⟨10, .data⟩ (by simp) rfl
      have f12 : v 12 = _ := hf ⟨12, .data⟩ (by simp) rfl
      have f14 : v 14 = _ := hf ⟨14, .data⟩ (by simp) rfl
      simp only [putAll, Act.put, List.setIfInBounds_toArray, List.set_cons_zero, List.set_cons_succ, Nat.zero_add, Nat.reduceAdd] at hKt ⊢
      rw [f10, f12, f14] at hKt ⊢
      go_simp
      refine (kv5 _ w' (hF.after hb)).mono ?_
      rintro e w'' ⟨rfl, hb2⟩
      exact hKt _ hb2
    · intro v w' hb hf K hKt
      simp only [putAll, Act.put, List.setIfInBounds_toArray, List.set_cons_zero, List.set_cons_succ, Nat.zero_add, Nat.reduceAdd] at hKt ⊢
      exact wp_load_row 37 _ rfl (g1_13) rfl 37 _ (0, 0) _ (hv_v2.after hb) Tryd.underlying37 rfl (info16 _) (hKt _ (Below.refl _ _))
    · intro v w' hb hf K hKt
      have f9 : v 9 = _ := hf ⟨9, .data⟩ (by simp) rfl
      have f15 : v 15 = _ := hf ⟨15, .data⟩ (by simp) rfl
      have f16 : v 16 = _ := hf ⟨16, .data⟩ (by simp) rfl
      simp only [putAll, Act.put, List.setIfInBounds_toArray, List.set_cons_zero, List.set_cons_succ, Nat.zero_add, Nat.reduceAdd] at hKt ⊢
      rw [f9, f15, f16] at hKt ⊢
      go_simp
      refine (kv6 _ w' (hF.after hb)).mono ?_
      rintro e w'' ⟨rfl, hb2⟩
      exact hKt _ hb2
    · exact ⟨rfl, rfl, zeroV16⟩
    · exact ⟨rfl, rfl, zeroV16⟩
  intro v u2 hb hF hD
  have f0 : v 0 = _ := hF 0 (by decide)
  have f1 : v 1 = _ := hF 1 (by decide)
  have f2 : v 2 = _ := hF 2 (by decide)
  have f3 : v 3 = _ := hF 3 (by decide)
  have f4 : v 4 = _ := hF 4 (by decide)
  have f5 : v 5 = _ := hF 5 (by decide)
  have f6 : v 6 = _ := hF 6 (by decide)
  have f7 : v 7 = _ := hF 7 (by decide)
  have f8 : v 8 = _ := hF 8 (by decide)
  have f9 : v 9 = _ := hF 9 (by decide)
  have f10 : v 10 = _ := hF 10 (by decide)
  have f11 : v 11 = _ := hF 11 (by decide)
  have f12 : v 12 = _ := hF 12 (by decide)
  have f13 : v 13 = _ := hF 13 (by decide)
  have f14 : v 14 = _ := hF 14 (by decide)
  have f15 : v 15 = _ := hF 15 (by decide)
  have f16 : v 16 = _ := hF 16 (by decide)
  have f17 : v 17 = _ := hF 17 (by decide)
  obtain ⟨g2_18, f18, hg18, hl18, hz18⟩ := hF 18 (by decide)
  replace hz18 : Has u2 g2_18 37 (d16 0) := hz18
  obtain ⟨g2_19, f19, hg19, hl19, hz19⟩ := hF 19 (by decide)
  replace hz19 : Has u2 g2_19 37 (d16 0) := hz19
  have hne18_19 : g2_18 ≠ g2_19 := fun h => hD 18 19 (by decide) (by decide) (by decide) rfl rfl (by rw [f18, f19, h])
  simp only [List.take_succ_cons, List.take_zero, List.drop_succ_cons, List.drop_zero, putAll, Act.put, List.setIfInBounds_toArray, List.set_cons_zero, List.set_cons_succ, Nat.zero_add, Nat.reduceAdd]
  rw [f0, f1, f2, f3, f4, f5, f6, f7, f8, f9, f10, f11, f12, f13, f14, f15, f16, f17, f18, f19]
  clear hF hD f0 f1 f2 f3 f4 f5 f6 f7 f8 f9 f10 f11 f12 f13 f14 f15 f16 f17 f18 f19
  have hs18 := hz18
  have hs19 := (hz19).farRow (k := g2_18) (by omega) (d16 (v4))
  have hBW := below_setRow (below_setRow (hb) (g := g2_18) hg18 (d16 (v4))) (g := g2_19) hg19 (d16 (v6))
  have hv_v4 := ((hz18).setRow (d16 (v4))).farRow (k := g2_19) (by omega) (d16 (v6))
  have hv_v6 := ((hz19).farRow (k := g2_18) (by omega) (d16 (v4))).setRow (d16 (v6))
  replace hv_v1 := hv_v1.after hBW
  replace hv_v2 := hv_v2.after hBW
  replace hR := hR.after hBW
  replace hF := hF.after hBW
  replace hP := hP.after hBW
  replace hQ := hQ.after hBW
  replace hb0 := below_trans hb0 hBW
  go_wp2_with (first | refine wpList_store_row rfl 37 _ _ rfl g2_18 _ rfl rfl 37 (d16 0) hs18 (info16 _) (by simp only [d16_size]) (tab_oneCell _ _ fun _ => rfl) ?_ | (refine wpList_store_row rfl 37 _ _ rfl g2_19 _ rfl rfl 37 (d16 0) hs19 (info16 _) (by simp only [d16_size]) (tab_oneCell _ _ fun _ => rfl) ?_; generalize hWW : World.setRow _ _ _ = U2 at *; clear hWW) | refine wpList_load_has 37 _ rfl _ rfl rfl 37 _ hv_v6 _ Tryd.underlying37 rfl (info16 _) ?_ | refine wpList_load_hex rfl _ rfl w.heap.size 32 rfl Z1 (pt_z (hP)) ?_ | refine wpList_load_hex rfl _ rfl (w.heap.size + 1) 32 rfl Z2 (pt_z (hQ)) ?_)
  clear hBW hb hs18 hz18 hl18 hs19 hz19 hl19
  refine (kv7 _ _ hF).mono ?_
  rintro e u3 ⟨rfl, hx⟩
  have ohv_v1_3 := (hv_v1.after hx).lt
  have ohv_v2_3 := (hv_v2.after hx).lt
  have ohv_v4_3 := (hv_v4.after hx).lt
  have ohv_v6_3 := (hv_v6.after hx).lt
  have hN := put_new u3 37 (d16 0) (d16 v7)
  replace hv_v1 := (hv_v1.after hx).after hN.2
  replace hv_v2 := (hv_v2.after hx).after hN.2
  replace hv_v4 := (hv_v4.after hx).after hN.2
  replace hv_v6 := (hv_v6.after hx).after hN.2
  replace hR := (hR.after hx).after hN.2
  replace hF := (hF.after hx).after hN.2
  replace hP := (hP.after hx).after hN.2
  replace hQ := (hQ.after hx).after hN.2
  replace hb0 := below_trans (below_trans hb0 hx) hN.2
  have hv_v7 := hN.1
  clear hx hN
  go_wp2_with (first | (refine wpList_store_row rfl 37 _ _ rfl u3.heap.size _ rfl rfl 37 (d16 0) (Has.new' rfl) (info16 _) (by simp only [d16_size]) (tab_oneCell _ _ fun _ => rfl) ?_; generalize hWW : World.setRow _ u3.heap.size _ = U3 at *; clear hWW) | refine wpList_load_has 37 _ rfl _ rfl rfl 37 _ hv_v6 _ Tryd.underlying37 rfl (info16 _) ?_)
  refine (kv8 _ _ hF).mono ?_
  rintro e u4 ⟨rfl, hx⟩
  have ohv_v1_4 := (hv_v1.after hx).lt
  have ohv_v2_4 := (hv_v2.after hx).lt
  have ohv_v4_4 := (hv_v4.after hx).lt
  have ohv_v6_4 := (hv_v6.after hx).lt
  have ohv_v7_4 := (hv_v7.after hx).lt
  have hN := put_new u4 37 (d16 0) (d16 v8)
  replace hv_v1 := (hv_v1.after hx).after hN.2
  replace hv_v2 := (hv_v2.after hx).after hN.2
  replace hv_v4 := (hv_v4.after hx).after hN.2
  replace hv_v6 := (hv_v6.after hx).after hN.2
  replace hv_v7 := (hv_v7.after hx).after hN.2
  replace hR := (hR.after hx).after hN.2
  replace hF := (hF.after hx).after hN.2
  replace hP := (hP.after hx).after hN.2
  replace hQ := (hQ.after hx).after hN.2
  replace hb0 := below_trans (below_trans hb0 hx) hN.2
  have hv_v8 := hN.1
  clear hx hN
  go_wp2_with (first | (refine wpList_store_row rfl 37 _ _ rfl u4.heap.size _ rfl rfl 37 (d16 0) (Has.new' rfl) (info16 _) (by simp only [d16_size]) (tab_oneCell _ _ fun _ => rfl) ?_; generalize hWW : World.setRow _ u4.heap.size _ = U4 at *; clear hWW) | refine wpList_load_has 37 _ rfl _ rfl rfl 37 _ hv_v6 _ Tryd.underlying37 rfl (info16 _) ?_ | refine wpList_load_has 37 _ rfl _ rfl rfl 37 _ hv_v8 _ Tryd.underlying37 rfl (info16 _) ?_)
  refine (kv9 _ _ hF).mono ?_
  rintro e u5 ⟨rfl, hx⟩
  have ohv_v1_5 := (hv_v1.after hx).lt
  have ohv_v2_5 := (hv_v2.after hx).lt
  have ohv_v4_5 := (hv_v4.after hx).lt
  have ohv_v6_5 := (hv_v6.after hx).lt
  have ohv_v7_5 := (hv_v7.after hx).lt
  have ohv_v8_5 := (hv_v8.after hx).lt
  have hN := put_new u5 37 (d16 0) (d16 v9)
  replace hv_v1 := (hv_v1.after hx).after hN.2
  replace hv_v2 := (hv_v2.after hx).after hN.2
  replace hv_v4 := (hv_v4.after hx).after hN.2
  replace hv_v6 := (hv_v6.after hx).after hN.2
  replace hv_v7 := (hv_v7.after hx).after hN.2
  replace hv_v8 := (hv_v8.after hx).after hN.2
  replace hR := (hR.after hx).after hN.2
  replace hF := (hF.after hx).after hN.2
  replace hP := (hP.after hx).after hN.2
  replace hQ := (hQ.after hx).after hN.2
  replace hb0 := below_trans (below_trans hb0 hx) hN.2
  have hv_v9 := hN.1
  clear hx hN
  go_wp2_with (first | (refine wpList_store_row rfl 37 _ _ rfl u5.heap.size _ rfl rfl 37 (d16 0) (Has.new' rfl) (info16 _) (by simp only [d16_size]) (tab_oneCell _ _ fun _ => rfl) ?_; generalize hWW : World.setRow _ u5.heap.size _ = U5 at *; clear hWW) | refine wpList_load_has 37 _ rfl _ rfl rfl 37 _ hv_v8 _ Tryd.underlying37 rfl (info16 _) ?_ | refine wpList_load_has 37 _ rfl _ rfl rfl 37 _ hv_v2 _ Tryd.underlying37 rfl (info16 _) ?_)
  refine (kv10 _ _ hF).mono ?_
  rintro e u6 ⟨rfl, hx⟩
  have ohv_v1_6 := (hv_v1.after hx).lt
  have ohv_v2_6 := (hv_v2.after hx).lt
  have ohv_v4_6 := (hv_v4.after hx).lt
  have ohv_v6_6 := (hv_v6.after hx).lt
  have ohv_v7_6 := (hv_v7.after hx).lt
  have ohv_v8_6 := (hv_v8.after hx).lt
  have ohv_v9_6 := (hv_v9.after hx).lt
  have hN := put_new u6 37 (d16 0) (d16 v10)
  replace hv_v1 := (hv_v1.after hx).after hN.2
  replace hv_v2 := (hv_v2.after hx).after hN.2
  replace hv_v4 := (hv_v4.after hx).after hN.2
  replace hv_v6 := (hv_v6.after hx).after hN.2
  replace hv_v7 := (hv_v7.after hx).after hN.2
  replace hv_v8 := (hv_v8.after hx).after hN.2
  replace hv_v9 := (hv_v9.after hx).after hN.2
  replace hR := (hR.after hx).after hN.2
  replace hF := (hF.after hx).after hN.2
  replace hP := (hP.after hx).after hN.2
  replace hQ := (hQ.after hx).after hN.2
  replace hb0 := below_trans (below_trans hb0 hx) hN.2
  have hv_v10 := hN.1
  clear hx hN
  go_wp2_with (first | (refine wpList_store_row rfl 37 _ _ rfl u6.heap.size _ rfl rfl 37 (d16 0) (Has.new' rfl) (info16 _) (by simp only [d16_size]) (tab_oneCell _ _ fun _ => rfl) ?_; generalize hWW : World.setRow _ u6.heap.size _ = U6 at *; clear hWW))
  have ohv_v1_7 := hv_v1.lt
  have ohv_v2_7 := hv_v2.lt
  have ohv_v4_7 := hv_v4.lt
  have ohv_v6_7 := hv_v6.lt
  have ohv_v7_7 := hv_v7.lt
  have ohv_v8_7 := hv_v8.lt
  have ohv_v9_7 := hv_v9.lt
  have ohv_v10_7 := hv_v10.lt
  have ohR_7 := hR.lt
  have ohF_7 := hF.lt
  have ohP_7 := hP.lt
  have ohQ_7 := hQ.lt
  refine region_facts 17 [] [.val (.pointer (some ⟨g, 0, none⟩)), .val (.pointer (some ⟨g, 0, none⟩)), .val (.pointer (some ⟨g, 0, none⟩)), .val (.pointer (some ⟨g, 0, none⟩)), .val (.agg (d16 (v4))), .val (.agg (d16 (v4))), .val (.agg (d16 (v11))), .val (.agg (d16 (v7))), .val (.agg (d16 (v12))), .val (.agg (d16 (v9))), .val (.agg (d16 (v13))), .val (.pointer (some ⟨g, 0, none⟩)), .val (.agg (d16 (v10))), .val (.agg (d16 (v10))), .val (.agg (d16 (v14))), .val (.agg (d16 (v15))), .new 37 (d16 0)]
    (by kernel_rfl) (by kernel_rfl) (fun _ _ _ _ _ h => h) ?_ ?_
  · simp only [List.take_succ_cons, List.take_zero, StepsOK]
    refine ⟨?_, ?_, ?_, ?_, ?_, ?_, ?_, ?_, ?_, ?_, ?_, ?_, ?_, ?_, ?_, ?_, ?_, trivial⟩
    · intro v w' hb hf K hKt
      simp only [putAll, Act.put, List.setIfInBounds_toArray, List.set_cons_zero, List.set_cons_succ, Nat.zero_add, Nat.reduceAdd] at hKt ⊢
      go_simp
      exact hKt _ (Below.refl _ _)
    · intro v w' hb hf K hKt
      simp only [putAll, Act.put, List.setIfInBounds_toArray, List.set_cons_zero, List.set_cons_succ, Nat.zero_add, Nat.reduceAdd] at hKt ⊢
      go_simp
      exact hKt _ (Below.refl _ _)
    · intro v w' hb hf K hKt
      simp only [putAll, Act.put, List.setIfInBounds_toArray, List.set_cons_zero, List.set_cons_succ, Nat.zero_add, Nat.reduceAdd] at hKt ⊢
      go_simp
      exact hKt _ (Below.refl _ _)
    · intro v w' hb hf K hKt
      simp only [putAll, Act.put, List.setIfInBounds_toArray, List.set_cons_zero, List.set_cons_succ, Nat.zero_add, Nat.reduceAdd] at hKt ⊢
      go_simp
      exact hKt _ (Below.refl _ _)
    · intro v w' hb hf K hKt
      simp only [putAll, Act.put, List.setIfInBounds_toArray, List.set_cons_zero, List.set_cons_succ, Nat.zero_add, Nat.reduceAdd] at hKt ⊢
      exact wp_load_row 37 _ rfl (g2_18) rfl 37 _ (0, 0) _ (hv_v4.after hb) Tryd.underlying37 rfl (info16 _) (hKt _ (Below.refl _ _))
    · intro v w' hb hf K hKt
      simp only [putAll, Act.put, List.setIfInBounds_toArray, List.set_cons_zero, List.set_cons_succ, Nat.zero_add, Nat.reduceAdd] at hKt ⊢
      exact wp_load_row 37 _ rfl (g2_18) rfl 37 _ (0, 0) _ (hv_v4.after hb) Tryd.underlying37 rfl (info16 _) (hKt _ (Below.refl _ _))
    · intro v w' hb hf K hKt
      have f3 : v 3 = _ := hf ⟨3, .data⟩ (by simp) rfl
      have f4 : v 4 = _ := hf ⟨4, .data⟩ (by simp) rfl
      have f5 : v 5 = _ := hf ⟨5, .data⟩ (by simp) rfl
      simp only [putAll, Act.put, List.setIfInBounds_toArray, List.set_cons_zero, List.set_cons_succ, Nat.zero_add, Nat.reduceAdd] at hKt ⊢
      rw [f3, f4, f5] at hKt ⊢
      go_simp
      refine (kv11 _ w' (hF.after hb)).mono ?_
      rintro e w'' ⟨rfl, hb2⟩
      exact hKt _ hb2
    · intro v w' hb hf K hKt
      simp only [putAll, Act.put, List.setIfInBounds_toArray, List.set_cons_zero, List.set_cons_succ, Nat.zero_add, Nat.reduceAdd] at hKt ⊢
      exact wp_load_row 37 _ rfl (u3.heap.size) rfl 37 _ (0, 0) _ (hv_v7.after hb) Tryd.underlying37 rfl (info16 _) (hKt _ (Below.refl _ _))
    · intro v w' hb hf K hKt
      have f2 : v 2 = _ := hf ⟨2, .data⟩ (by simp) rfl
      have f6 : v 6 = _ := hf ⟨6, .data⟩ (by simp) rfl
      have f7 : v 7 = _ := hf ⟨7, .data⟩ (by simp) rfl
      simp only [putAll, Act.put, List.setIfInBounds_toArray, List.set_cons_zero, List.set_cons_succ, Nat.zero_add, Nat.reduceAdd] at hKt ⊢
      rw [f2, f6, f7] at hKt ⊢
      go_simp
      refine (kv12 _ w' (hF.after hb)).mono ?_
      rintro e w'' ⟨rfl, hb2⟩
      exact hKt _ hb2
    · intro v w' hb hf K hKt
      simp only [putAll, Act.put, List.setIfInBounds_toArray, List.set_cons_zero, List.set_cons_succ, Nat.zero_add, Nat.reduceAdd] at hKt ⊢
      exact wp_load_row 37 _ rfl (u5.heap.size) rfl 37 _ (0, 0) _ (hv_v9.after hb) Tryd.underlying37 rfl (info16 _) (hKt _ (Below.refl _ _))
    · intro v w' hb hf K hKt
      have f1 : v 1 = _ := hf ⟨1, .data⟩ (by simp) rfl
      have f8 : v 8 = _ := hf ⟨8, .data⟩ (by simp) rfl
      have f9 : v 9 = _ := hf ⟨9, .data⟩ (by simp) rfl
      simp only [putAll, Act.put, List.setIfInBounds_toArray, List.set_cons_zero, List.set_cons_succ, Nat.zero_add, Nat.reduceAdd] at hKt ⊢
      rw [f1, f8, f9] at hKt ⊢
      go_simp
      refine (kv13 _ w' (hF.after hb)).mono ?_
      rintro e w'' ⟨rfl, hb2⟩
      exact hKt _ hb2
    · intro v w' hb hf K hKt
      simp only [putAll, Act.put, List.setIfInBounds_toArray, List.set_cons_zero, List.set_cons_succ, Nat.zero_add, Nat.reduceAdd] at hKt ⊢
      go_simp
      exact hKt _ (Below.refl _ _)
    · intro v w' hb hf K hKt
      simp only [putAll, Act.put, List.setIfInBounds_toArray, List.set_cons_zero, List.set_cons_succ, Nat.zero_add, Nat.reduceAdd] at hKt ⊢
      exact wp_load_row 37 _ rfl (u6.heap.size) rfl 37 _ (0, 0) _ (hv_v10.after hb) Tryd.underlying37 rfl (info16 _) (hKt _ (Below.refl _ _))
    · intro v w' hb hf K hKt
      simp only [putAll, Act.put, List.setIfInBounds_toArray, List.set_cons_zero, List.set_cons_succ, Nat.zero_add, Nat.reduceAdd] at hKt ⊢
      exact wp_load_row 37 _ rfl (u6.heap.size) rfl 37 _ (0, 0) _ (hv_v10.after hb) Tryd.underlying37 rfl (info16 _) (hKt _ (Below.refl _ _))
    · intro v w' hb hf K hKt
      have f11 : v 11 = _ := hf ⟨11, .data⟩ (by simp) rfl
      have f12 : v 12 = _ := hf ⟨12, .data⟩ (by simp) rfl
      have f13 : v 13 = _ := hf ⟨13, .data⟩ (by simp) rfl
      simp only [putAll, Act.put, List.setIfInBounds_toArray, List.set_cons_zero, List.set_cons_succ, Nat.zero_add, Nat.reduceAdd] at hKt ⊢
      rw [f11, f12, f13] at hKt ⊢
      go_simp
      refine (kv14 _ w' (hF.after hb)).mono ?_
      rintro e w'' ⟨rfl, hb2⟩
      exact hKt _ hb2
    · intro v w' hb hf K hKt
      have f0 : v 0 = _ := hf ⟨0, .data⟩ (by simp) rfl
      have f10 : v 10 = _ := hf ⟨10, .data⟩ (by simp) rfl
      have f14 : v 14 = _ := hf ⟨14, .data⟩ (by simp) rfl
      simp only [putAll, Act.put, List.setIfInBounds_toArray, List.set_cons_zero, List.set_cons_succ, Nat.zero_add, Nat.reduceAdd] at hKt ⊢
      rw [f0, f10, f14] at hKt ⊢
      go_simp
      refine (kv15 _ w' (hF.after hb)).mono ?_
      rintro e w'' ⟨rfl, hb2⟩
      exact hKt _ hb2
    · exact ⟨rfl, rfl, zeroV16⟩
  intro v u7 hb hF hD
  have f0 : v 0 = _ := hF 0 (by decide)
  have f1 : v 1 = _ := hF 1 (by decide)
  have f2 : v 2 = _ := hF 2 (by decide)
  have f3 : v 3 = _ := hF 3 (by decide)
  have f4 : v 4 = _ := hF 4 (by decide)
  have f5 : v 5 = _ := hF 5 (by decide)
  have f6 : v 6 = _ := hF 6 (by decide)
  have f7 : v 7 = _ := hF 7 (by decide)
  have f8 : v 8 = _ := hF 8 (by decide)
  have f9 : v 9 = _ := hF 9 (by decide)
  have f10 : v 10 = _ := hF 10 (by decide)
  have f11 : v 11 = _ := hF 11 (by decide)
  have f12 : v 12 = _ := hF 12 (by decide)
  have f13 : v 13 = _ := hF 13 (by decide)
  have f14 : v 14 = _ := hF 14 (by decide)
  have f15 : v 15 = _ := hF 15 (by decide)
  obtain ⟨g7_16, f16, hg16, hl16, hz16⟩ := hF 16 (by decide)
  replace hz16 : Has u7 g7_16 37 (d16 0) := hz16
  simp only [List.take_succ_cons, List.take_zero, List.drop_succ_cons, List.drop_zero, putAll, Act.put, List.setIfInBounds_toArray, List.set_cons_zero, List.set_cons_succ, Nat.zero_add, Nat.reduceAdd]
  rw [f0, f1, f2, f3, f4, f5, f6, f7, f8, f9, f10, f11, f12, f13, f14, f15, f16]
  clear hF hD f0 f1 f2 f3 f4 f5 f6 f7 f8 f9 f10 f11 f12 f13 f14 f15 f16
  have hs16 := hz16
  have hBW := below_setRow (hb) (g := g7_16) hg16 (d16 (v15))
  have hv_v15 := (hz16).setRow (d16 (v15))
  replace hv_v1 := hv_v1.after hBW
  replace hv_v10 := hv_v10.after hBW
  replace hv_v2 := hv_v2.after hBW
  replace hv_v4 := hv_v4.after hBW
  replace hv_v6 := hv_v6.after hBW
  replace hv_v7 := hv_v7.after hBW
  replace hv_v8 := hv_v8.after hBW
  replace hv_v9 := hv_v9.after hBW
  replace hR := hR.after hBW
  replace hF := hF.after hBW
  replace hP := hP.after hBW
  replace hQ := hQ.after hBW
  replace hb0 := below_trans hb0 hBW
  go_wp2_with (first | (refine wpList_store_row rfl 37 _ _ rfl g7_16 _ rfl rfl 37 (d16 0) hs16 (info16 _) (by simp only [d16_size]) (tab_oneCell _ _ fun _ => rfl) ?_; generalize hWW : World.setRow _ _ _ = U7 at *; clear hWW))
  clear hBW hb hs16 hz16 hl16
  refine region_quiet_tail (Below U7.heap.size U7) 22 (by kernel_rfl) (by kernel_rfl) (below_drewN (Below.refl _ _) 1) ?_
  simp only [List.take_succ_cons, List.take_zero, List.drop_succ_cons, List.drop_zero]
  refine wpQ_move _ rfl rfl (.pointer (some ⟨g, 0, none⟩)) rfl ?_
  simp only [Act.put, List.setIfInBounds_toArray, List.set_cons_zero, List.set_cons_succ]
  refine wpQ_has 37 _ rfl _ rfl rfl 37 _ (fun w' hC => hv_v6.after hC) _ Tryd.underlying37 rfl (info16 _) ?_
  simp only [Act.put, List.setIfInBounds_toArray, List.set_cons_zero, List.set_cons_succ]
  refine wpQ_has 37 _ rfl _ rfl rfl 37 _ (fun w' hC => hv_v15.after hC) _ Tryd.underlying37 rfl (info16 _) ?_
  simp only [Act.put, List.setIfInBounds_toArray, List.set_cons_zero, List.set_cons_succ]
  refine wpQ_fn 30 _ _ rfl rfl #[.pointer (some ⟨g, 0, none⟩), .agg (d16 (v6)), .agg (d16 (v15))] rfl (fun _ => by go_simp) (.agg (d16 (v16))) (fun w' hC => (kv16 _ w' (hF.after hC)).mono fun e w'' ⟨he, hb⟩ => ⟨he, below_class hC hb⟩) ?_
  simp only [Act.put, List.setIfInBounds_toArray, List.set_cons_zero, List.set_cons_succ]
  refine wpQ_move _ rfl rfl (.pointer (some ⟨g, 0, none⟩)) rfl ?_
  simp only [Act.put, List.setIfInBounds_toArray, List.set_cons_zero, List.set_cons_succ]
  refine wpQ_move _ rfl rfl (.pointer (some ⟨g, 0, none⟩)) rfl ?_
  simp only [Act.put, List.setIfInBounds_toArray, List.set_cons_zero, List.set_cons_succ]
  refine wpQ_has 37 _ rfl _ rfl rfl 37 _ (fun w' hC => hv_v4.after hC) _ Tryd.underlying37 rfl (info16 _) ?_
  simp only [Act.put, List.setIfInBounds_toArray, List.set_cons_zero, List.set_cons_succ]
  refine wpQ_move _ rfl rfl (.pointer (some ⟨g, 0, none⟩)) rfl ?_
  simp only [Act.put, List.setIfInBounds_toArray, List.set_cons_zero, List.set_cons_succ]
  refine wpQ_has 37 _ rfl _ rfl rfl 37 _ (fun w' hC => hv_v10.after hC) _ Tryd.underlying37 rfl (info16 _) ?_
  simp only [Act.put, List.setIfInBounds_toArray, List.set_cons_zero, List.set_cons_succ]
  refine wpQ_has 37 _ rfl _ rfl rfl 37 _ (fun w' hC => hv_v15.after hC) _ Tryd.underlying37 rfl (info16 _) ?_
  simp only [Act.put, List.setIfInBounds_toArray, List.set_cons_zero, List.set_cons_succ]
  refine wpQ_fn 55 _ _ rfl rfl #[.pointer (some ⟨g, 0, none⟩), .agg (d16 (v10)), .agg (d16 (v15))] rfl (fun _ => by go_simp) (.agg (d16 (v17))) (fun w' hC => (kv17 _ w' (hF.after hC)).mono fun e w'' ⟨he, hb⟩ => ⟨he, below_class hC hb⟩) ?_
  simp only [Act.put, List.setIfInBounds_toArray, List.set_cons_zero, List.set_cons_succ]
  refine wpQ_fn 30 _ _ rfl rfl #[.pointer (some ⟨g, 0, none⟩), .agg (d16 (v4)), .agg (d16 (v17))] rfl (fun _ => by go_simp) (.agg (d16 (v18))) (fun w' hC => (kv18 _ w' (hF.after hC)).mono fun e w'' ⟨he, hb⟩ => ⟨he, below_class hC hb⟩) ?_
  simp only [Act.put, List.setIfInBounds_toArray, List.set_cons_zero, List.set_cons_succ]
  refine wpQ_move _ rfl rfl (.pointer (some ⟨g, 0, none⟩)) rfl ?_
  simp only [Act.put, List.setIfInBounds_toArray, List.set_cons_zero, List.set_cons_succ]
  refine wpQ_has 37 _ rfl _ rfl rfl 37 _ (fun w' hC => hv_v9.after hC) _ Tryd.underlying37 rfl (info16 _) ?_
  simp only [Act.put, List.setIfInBounds_toArray, List.set_cons_zero, List.set_cons_succ]
  refine wpQ_has 37 _ rfl _ rfl rfl 37 _ (fun w' hC => hv_v1.after hC) _ Tryd.underlying37 rfl (info16 _) ?_
  simp only [Act.put, List.setIfInBounds_toArray, List.set_cons_zero, List.set_cons_succ]
  refine wpQ_fn 30 _ _ rfl rfl #[.pointer (some ⟨g, 0, none⟩), .agg (d16 (v9)), .agg (d16 (v1))] rfl (fun _ => by go_simp) (.agg (d16 (v19))) (fun w' hC => (kv19 _ w' (hF.after hC)).mono fun e w'' ⟨he, hb⟩ => ⟨he, below_class hC hb⟩) ?_
  simp only [Act.put, List.setIfInBounds_toArray, List.set_cons_zero, List.set_cons_succ]
  refine wpQ_fn 55 _ _ rfl rfl #[.pointer (some ⟨g, 0, none⟩), .agg (d16 (v18)), .agg (d16 (v19))] rfl (fun _ => by go_simp) (.agg (d16 (v20))) (fun w' hC => (kv20 _ w' (hF.after hC)).mono fun e w'' ⟨he, hb⟩ => ⟨he, below_class hC hb⟩) ?_
  simp only [Act.put, List.setIfInBounds_toArray, List.set_cons_zero, List.set_cons_succ]
  refine wpQ_move _ rfl rfl (.pointer (some ⟨g, 0, none⟩)) rfl ?_
  simp only [Act.put, List.setIfInBounds_toArray, List.set_cons_zero, List.set_cons_succ]
  refine wpQ_has 37 _ rfl _ rfl rfl 37 _ (fun w' hC => hv_v9.after hC) _ Tryd.underlying37 rfl (info16 _) ?_
  simp only [Act.put, List.setIfInBounds_toArray, List.set_cons_zero, List.set_cons_succ]
  refine wpQ_has 37 _ rfl _ rfl rfl 37 _ (fun w' hC => hv_v7.after hC) _ Tryd.underlying37 rfl (info16 _) ?_
  simp only [Act.put, List.setIfInBounds_toArray, List.set_cons_zero, List.set_cons_succ]
  refine wpQ_fn 30 _ _ rfl rfl #[.pointer (some ⟨g, 0, none⟩), .agg (d16 (v9)), .agg (d16 (v7))] rfl (fun _ => by go_simp) (.agg (d16 (v21))) (fun w' hC => (kv21 _ w' (hF.after hC)).mono fun e w'' ⟨he, hb⟩ => ⟨he, below_class hC hb⟩) ?_
  simp only [Act.put, List.setIfInBounds_toArray, List.set_cons_zero, List.set_cons_succ]
  refine wpQ_parts4 39 _ rfl rfl #[(0, .agg (d16 (v16))), (1, .agg (d16 (v20))), (2, .agg (d16 (v21)))] (by simp only [List.map_toArray, List.map_cons, List.map_nil]; rfl) (.agg (ptC (v16) (v20) (v21))) (fun w' _ => buildPt _ _ _ w') ?_
  simp only [Act.put, List.setIfInBounds_toArray, List.set_cons_zero, List.set_cons_succ]
  refine wpQuiet_nil ?_
  intro u8 hC
  replace hv_v1 := hv_v1.after hC
  replace hv_v2 := hv_v2.after hC
  replace hv_v4 := hv_v4.after hC
  replace hv_v6 := hv_v6.after hC
  replace hv_v7 := hv_v7.after hC
  replace hv_v8 := hv_v8.after hC
  replace hv_v9 := hv_v9.after hC
  replace hv_v10 := hv_v10.after hC
  replace hv_v15 := hv_v15.after hC
  replace hR := hR.after hC
  replace hF := hF.after hC
  replace hP := hP.after hC
  replace hQ := hQ.after hC
  replace hb0 := below_trans hb0 hC
  clear hC
  go_wp2_with (first | refine wpList_store_row rfl 39 _ _ rfl (w.heap.size + 1 + 1) _ rfl rfl 39 _ hR (infoPt _ _ _) (by simp only [ptC_size]) (tab_oneCell _ _ fun _ => rfl) ?_)
  exact bodyPost_ret (v := .agg (ptC v16 v20 v21)) (results_cell_row rfl _ _ (w.heap.size + 1 + 1) 39 _ _ _ rfl (hR.setRow _) Tryd.underlying39 rfl (infoPt _ _ _)) rfl ⟨rfl, below_setRow hb0 (by omega) _⟩
end Go.Proofs.YtflkhlhpifmocaaDoor
