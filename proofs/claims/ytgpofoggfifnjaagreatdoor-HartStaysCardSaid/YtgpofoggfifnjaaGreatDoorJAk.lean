/-
Layer 11: package inst's encodes.
Layer 14: the reference's names; sign, low, truth, floor, high.
Layer 14: the reference's high, bitwise.
Layer 14: the reference's bitwise.
Layer 14: what each call answers, as plain data; names that are others.
Layer 14: the reference's Width, Widen, Goes.
Layer 14: the reference's quotients.
Layer 14: the reference's Reckon.
Layer 14: what package alu's calls answer; the example; AluReckons, AluGoes.
Layer 14: package alu's small functions: shift, one, less, upper, signed, quotients and remainders.
Layer 11: package inst's Decode.
-/
import Derived.Test.YtgpofoggfifnjaaGreatDoorJAj
import Derived.Test.YtgpofoggfifnjaaGreatDoorJAa
import Derived.Test.YtgpofoggfifnjaaGreatDoorJAg
import Derived.Test.YtgpofoggfifnjaaGreatDoorJAb
import Derived.Laws.BitsAllLaws
import Derived.Deep.QuietTactic
import Derived.Deep.DeepCutAuto
namespace Go.Proofs.YtgpofoggfifnjaaGreatDoor
open Go Go.RowKit

/-- the program's table of words, in the world -/
structure TabW (w : World) : Prop where
  c : ∀ i, i < 57 → w.cell? ⟨0, i, none⟩ = some (.int .u32 (((opP i).2 : Nat) : Int))
  size : 0 < w.heap.size
theorem TabW.below {w w' : World} (h : TabW w) (hb : Below w.heap.size w w') : TabW w' :=
  have hs := h.size
  ⟨fun i hi => (hb.cell (p := ⟨_, i, none⟩) (show _ < w.heap.size from hs)).trans (h.c i hi), Nat.lt_of_lt_of_le hs hb.size⟩
theorem TabW.drewN {w : World} (h : TabW w) (n : Nat) : TabW (w.drewN n) := h.below (below_drawn w n)
theorem zero_inst (W : World) : (Instr.build 115 #[]).run Tryz.prog W = .ok (.agg #[.int .i64 0, .int .i64 0, .int .i64 0, .int .i64 0, .int .u32 0]) W := by kernel_rfl
theorem part6_any (x : Nat) (hx : x < 4294967296) (W : World) : Calls Tryz.prog 98 #[.int .u32 (x : Int), .int .u64 6, .int .u64 0] W fun e w' => e = .returned (.int .u32 ((bitsN x 6 0 : Nat) : Int)) ∧ W = w' := part_any x 6 0 W hx (by decide) (by decide) (by decide)
set_option maxRecDepth 100000 in
set_option maxHeartbeats 4000000 in
theorem encodes_any (x i : Nat) (w : World) (hT : TabW w) (hx : x < 4294967296) (h1 : 1 ≤ i) (h2 : i < 57) :
    Calls Tryz.prog 82 #[.int .u32 (x : Int), .int .i64 (i : Int)] w fun e w' => e = .returned (.bool (mtchB x i)) ∧ Below w.heap.size w w' := by
  have kF := fun W => form_at i W h1 h2
  have kA := fun W => part6_any x hx W
  have kB := fun W => part6_any (opP i).2 (word_lt i) W
  obtain ⟨e1, e2, e3⟩ := fmE_ne i h1 h2
  have hno := mtch_no x i
  have his := mtch_is x i hx h1 h2
  have kW := fun W => withFields_any (fmE i) e1 x 0 0 0 0 0 W hx (by decide)
  rw [show u32N 0 = 0 from rfl, show tab 5 (insA 0 0 0 0 ((0 : Nat) : Int)) = #[.int .i64 0, .int .i64 0, .int .i64 0, .int .i64 0, .int .u32 0] from rfl] at kW
  have hWl := fldL_lt (fmE i) x 0 0 0 0 hx
  have hk : (i = 46 → fmN (fmE i) = 2) ∧ (i ≠ 46 → fmN (fmE i) = fmN (opP i).1) := ⟨fun h => by rw [h]; rfl, fun h => by unfold fmE; rw [if_neg h]⟩
  have hc := hT.c i h2
  have hi57 : (i : Int) < 57 := by omega
  have HT := Lib.hid hT
  have HNO := Lib.hid hno
  have HIS := Lib.hid his
  have HK := Lib.hid hk
  clear hT hno his hk e1 e2 e3
  generalize (opP i).2 = m at *
  generalize fldL (fmE i) x 0 0 0 0 = v at *
  generalize fmN (opP i).1 = k at *
  generalize fmN (fmE i) = kE at *
  generalize mtchB x i = r at *
  generalize bitsN x 6 0 = qx at *
  generalize bitsN m 6 0 = qm at *
  go_enter Tryz.func82, Tryz.ntmps82
  go_upto_region 1 with fail
  go_quiet (first
    | (go_at_call 98; with_reducible exact Calls.quiet_of_same ((kA _).mono fun _ _ ⟨he, hw⟩ => ⟨he, hw.symm⟩))
    | (go_at_call 98; with_reducible exact Calls.quiet_of_same ((kB _).mono fun _ _ ⟨he, hw⟩ => ⟨he, hw.symm⟩)))
  by_cases hq : qx = qm
  · have dq : ((qx : Int) != (qm : Int)) = false := by rw [hq]; exact bne_self_eq_false _
    clear hq
    have hT := HT.out.drewN nq
    have hb := below_drawn w nq
    have hc1 : (w.drewN nq).cell? ⟨0, i, none⟩ = some (.int .u32 (m : Int)) := hc
    generalize w.drewN nq = w1 at *
    have HC1 := Lib.hid hc1
    clear hc1
    have HB := Lib.hid hb
    have HT1 := Lib.hid hT
    clear hb hT hc
    have fin : ∀ (kk : Nat), kk = kE → True := fun _ _ => trivial
    clear fin
    have hre : r = ((v : Int) == (m : Int)) := by
      rw [HIS.out]
      by_cases hv : v = m
      · rw [hv, decide_eq_true rfl]; exact (beq_self_eq_true _).symm
      · rw [decide_eq_false hv]; exact (beq_eq_false_iff_ne.2 fun e => hv (Int.ofNat.inj e)).symm
    have HRE := Lib.hid hre
    clear hre
    by_cases h46 : i = 46
    · have d46 : ((i : Int) == 46) = true := by rw [h46]; rfl
      obtain rfl : kE = 2 := HK.out.1 h46
      clear h46
      go_upto_region 6 with (go_at_call 72; with_reducible refine (kF _).mono ?_; rintro e w2 ⟨rfl, rfl⟩)
      refine region_quiet_tail (Below w1.heap.size w1) 8 (by kernel_rfl) (by kernel_rfl) (below_drewN (Below.refl _ _) 1) ?_
      simp only [List.take_succ_cons, List.take_zero, List.drop_succ_cons, List.drop_zero]
      refine wpQ_move _ rfl rfl (.int .u32 (x : Int)) rfl ?_
      simp only [Act.put, List.setIfInBounds_toArray, List.set_cons_zero, List.set_cons_succ]
      refine wpQ_move _ rfl rfl (.int .i64 2) rfl ?_
      simp only [Act.put, List.setIfInBounds_toArray, List.set_cons_zero, List.set_cons_succ]
      refine wpQ_build 115 rfl rfl (.agg #[.int .i64 0, .int .i64 0, .int .i64 0, .int .i64 0, .int .u32 0]) (fun W _ => zero_inst W) ?_
      simp only [Act.put, List.setIfInBounds_toArray, List.set_cons_zero, List.set_cons_succ]
      refine wpQ_fn 99 _ _ rfl rfl #[.int .u32 (x : Int), .int .i64 2, .agg #[.int .i64 0, .int .i64 0, .int .i64 0, .int .i64 0, .int .u32 0]] rfl (fun _ => by go_simp) (.int .u32 (v : Int)) (fun w' hC => (kW w').mono fun e w'' ⟨he, hb⟩ => ⟨he, below_class hC hb⟩) ?_
      simp only [Act.put, List.setIfInBounds_toArray, List.set_cons_zero, List.set_cons_succ]
      refine wpQ_move _ rfl rfl (.int .i64 (i : Int)) rfl ?_
      simp only [Act.put, List.setIfInBounds_toArray, List.set_cons_zero, List.set_cons_succ]
      refine wpQ_val rfl (.pointer (some ⟨0, i, none⟩)) (fun w' _ => by go_simp) ?_
      simp only [Act.put, List.setIfInBounds_toArray, List.set_cons_zero, List.set_cons_succ]
      refine wpQ_val rfl (.int .u32 (m : Int)) (fun w' hC => by
        have hcell : w'.cell? ⟨0, i, none⟩ = some (.int .u32 (m : Int)) := (hC.cell (p := ⟨0, i, none⟩) HT1.out.size).trans HC1.out
        go_simp) ?_
      simp only [Act.put, List.setIfInBounds_toArray, List.set_cons_zero, List.set_cons_succ]
      refine wpQ_val rfl (.bool ((v : Int) == (m : Int))) (fun w' _ => by go_simp) ?_
      simp only [Act.put, List.setIfInBounds_toArray, List.set_cons_zero, List.set_cons_succ]
      refine wpQuiet_nil ?_
      intro w' hC
      go_wp2_with fail
      go_ret
      exact ⟨by rw [HRE.out]; rfl, HB.out.trans (hC.mono HB.out.size)⟩
    · have d46 : ((i : Int) == 46) = false := beq_eq_false_iff_ne.2 (by omega)
      obtain rfl : kE = k := HK.out.2 h46
      clear h46
      go_upto_region 6 with (go_at_call 72; with_reducible refine (kF _).mono ?_; rintro e w2 ⟨rfl, rfl⟩)
      refine region_quiet_tail (Below w1.heap.size w1) 8 (by kernel_rfl) (by kernel_rfl) (below_drewN (Below.refl _ _) 1) ?_
      simp only [List.take_succ_cons, List.take_zero, List.drop_succ_cons, List.drop_zero]
      refine wpQ_move _ rfl rfl (.int .u32 (x : Int)) rfl ?_
      simp only [Act.put, List.setIfInBounds_toArray, List.set_cons_zero, List.set_cons_succ]
      refine wpQ_move _ rfl rfl (.int .i64 (kE : Int)) rfl ?_
      simp only [Act.put, List.setIfInBounds_toArray, List.set_cons_zero, List.set_cons_succ]
      refine wpQ_build 115 rfl rfl (.agg #[.int .i64 0, .int .i64 0, .int .i64 0, .int .i64 0, .int .u32 0]) (fun W _ => zero_inst W) ?_
      simp only [Act.put, List.setIfInBounds_toArray, List.set_cons_zero, List.set_cons_succ]
      refine wpQ_fn 99 _ _ rfl rfl #[.int .u32 (x : Int), .int .i64 (kE : Int), .agg #[.int .i64 0, .int .i64 0, .int .i64 0, .int .i64 0, .int .u32 0]] rfl (fun _ => by go_simp) (.int .u32 (v : Int)) (fun w' hC => (kW w').mono fun e w'' ⟨he, hb⟩ => ⟨he, below_class hC hb⟩) ?_
      simp only [Act.put, List.setIfInBounds_toArray, List.set_cons_zero, List.set_cons_succ]
      refine wpQ_move _ rfl rfl (.int .i64 (i : Int)) rfl ?_
      simp only [Act.put, List.setIfInBounds_toArray, List.set_cons_zero, List.set_cons_succ]
      refine wpQ_val rfl (.pointer (some ⟨0, i, none⟩)) (fun w' _ => by go_simp) ?_
      simp only [Act.put, List.setIfInBounds_toArray, List.set_cons_zero, List.set_cons_succ]
      refine wpQ_val rfl (.int .u32 (m : Int)) (fun w' hC => by
        have hcell : w'.cell? ⟨0, i, none⟩ = some (.int .u32 (m : Int)) := (hC.cell (p := ⟨0, i, none⟩) HT1.out.size).trans HC1.out
        go_simp) ?_
      simp only [Act.put, List.setIfInBounds_toArray, List.set_cons_zero, List.set_cons_succ]
      refine wpQ_val rfl (.bool ((v : Int) == (m : Int))) (fun w' _ => by go_simp) ?_
      simp only [Act.put, List.setIfInBounds_toArray, List.set_cons_zero, List.set_cons_succ]
      refine wpQuiet_nil ?_
      intro w' hC
      go_wp2_with fail
      go_ret
      exact ⟨by rw [HRE.out]; rfl, HB.out.trans (hC.mono HB.out.size)⟩
  · have dq : ((qx : Int) != (qm : Int)) = true := by
      rw [bne_iff_ne]
      intro e
      exact hq (Int.ofNat.inj e)
    go_wp2_with fail
    go_ret
    exact ⟨by rw [HNO.out hq]; rfl, below_drawn w nq⟩
end Go.Proofs.YtgpofoggfifnjaaGreatDoor
namespace Go.Proofs.YtgpofoggfifnjaaGreatDoor.Al
open Go Go.RowKit

theorem same_bel {w w' : World} (h : w = w') : Below w.heap.size w w' := by subst h; exact Below.refl _ _
def sgA (x : Nat) : Int := if 2147483648 ≤ x then (x : Int) - 4294967296 else x
def lowA (z : Int) : Nat := (z % 4294967296).toNat
theorem lowA_is (z : Int) : ((lowA z : Nat) : Int) = z % 4294967296 := by unfold lowA; omega
theorem lowA_lt (z : Int) : lowA z < 4294967296 := by unfold lowA; omega
theorem sgA_in (x : Nat) (h : x < 4294967296) : -2147483648 ≤ sgA x ∧ sgA x < 2147483648 := by unfold sgA; split <;> omega
end Go.Proofs.YtgpofoggfifnjaaGreatDoor.Al
namespace Go.Proofs.YtgpofoggfifnjaaGreatDoor.Al
open Go Go.RowKit

theorem mul_in (a b : Int) (A B : Nat) (h1 : a.natAbs ≤ A) (h2 : b.natAbs ≤ B) : (a * b).natAbs ≤ A * B := by
  rw [Int.natAbs_mul]
  exact Nat.mul_le_mul h1 h2
/-- a product's upper half -/
def hiA (a b : Int) : Nat := lowA (a * b / 4294967296)
end Go.Proofs.YtgpofoggfifnjaaGreatDoor.Al
namespace Go.Proofs.YtgpofoggfifnjaaGreatDoor.Al
open Go Go.RowKit

theorem one_new (w : World) (u : Array Value) (t : TypeId) : ∃ wa, wa = w.alloc (.cells u t) ∧ Has wa w.heap.size t u ∧ Below w.heap.size w wa ∧ wa.heap.size = w.heap.size + 1 :=
  ⟨_, rfl, Has.new _ _ _, (Below.refl _ _).alloc (Nat.le_refl _) _, Array.size_push _⟩
end Go.Proofs.YtgpofoggfifnjaaGreatDoor.Al
namespace Go.Proofs.YtgpofoggfifnjaaGreatDoor.Al
open Go Go.RowKit

def widthN (op : Int) : Int := if op = 11 ∨ op = 14 ∨ op = 16 then 1 else if op = 12 ∨ op = 15 ∨ op = 17 then 2 else if op = 13 ∨ op = 18 then 4 else 0
def widenN (op : Int) (x : Nat) : Nat :=
  if op = 11 then (if 128 ≤ x % 256 then x % 256 + 4294967040 else x % 256)
  else if op = 14 then x % 256
  else if op = 12 then (if 32768 ≤ x % 65536 then x % 65536 + 4294901760 else x % 65536)
  else if op = 15 then x % 65536
  else x
def goesN (op : Int) (a b : Nat) : Bool × Bool :=
  if op = 5 then (decide (a = b), true)
  else if op = 6 then (decide (a ≠ b), true)
  else if op = 7 then (decide (sgA a < sgA b), true)
  else if op = 8 then (decide (sgA b ≤ sgA a), true)
  else if op = 9 then (decide (a < b), true)
  else if op = 10 then (decide (b ≤ a), true)
  else (false, false)
/-- what an operation of two numbers answers -/
def reckN (op : Int) (a b : Nat) : Nat × Bool :=
  if op = 19 ∨ op = 28 then (lowA ((a : Int) + b), true)
  else if op = 29 then (lowA ((a : Int) - b), true)
  else if op = 25 ∨ op = 30 then (a % (4294967296 / 2 ^ (b % 32)) * 2 ^ (b % 32), true)
  else if op = 26 ∨ op = 34 then (a / 2 ^ (b % 32), true)
  else if op = 27 ∨ op = 35 then (lowA (sgA a / 2 ^ (b % 32)), true)
  else if op = 20 ∨ op = 31 then ((decide (sgA a < sgA b)).toNat, true)
  else if op = 21 ∨ op = 32 then ((decide (a < b)).toNat, true)
  else if op = 22 ∨ op = 33 then (a ^^^ b, true)
  else if op = 23 ∨ op = 36 then (a ||| b, true)
  else if op = 24 ∨ op = 37 then (a &&& b, true)
  else if op = 38 then (lowA ((a : Int) * b), true)
  else if op = 39 then (hiA (sgA a) (sgA b), true)
  else if op = 40 then (hiA (sgA a) b, true)
  else if op = 41 then (hiA a b, true)
  else if op = 42 then ((if b = 0 then 4294967295 else lowA ((sgA a).tdiv (sgA b))), true)
  else if op = 43 then ((if b = 0 then 4294967295 else a / b), true)
  else if op = 44 then ((if b = 0 then a else lowA ((sgA a).tmod (sgA b))), true)
  else if op = 45 then ((if b = 0 then a else a % b), true)
  else (0, false)
end Go.Proofs.YtgpofoggfifnjaaGreatDoor.Al
namespace Go.Proofs.YtgpofoggfifnjaaGreatDoor.Al
open Go Go.RowKit

end Go.Proofs.YtgpofoggfifnjaaGreatDoor.Al
namespace Go.Proofs.YtgpofoggfifnjaaGreatDoor.Al
open Go Go.RowKit

theorem sgA_ne {b : Nat} (h : b ≠ 0) (hb : b < 4294967296) : sgA b ≠ 0 := by unfold sgA; split <;> omega
theorem tdiv_in (x y : Int) : (x.tdiv y).natAbs ≤ x.natAbs := by
  rw [Int.natAbs_tdiv]
  exact Nat.div_le_self _ _
theorem tmod_in (x y : Int) : (x.tmod y).natAbs ≤ x.natAbs := by
  rw [Int.natAbs_tmod]
  exact Nat.mod_le _ _
end Go.Proofs.YtgpofoggfifnjaaGreatDoor.Al
namespace Go.Proofs.YtgpofoggfifnjaaGreatDoor.Al
open Go Go.RowKit

/-- what a shift goes by -/
structure Shf (b k P : Nat) : Prop where
  t : (b : Int).tmod 32 = (k : Int)
  m : (b : Int) % 32 = (k : Int)
  n : (k : Int).toNat = k
  p : (2 : Int) ^ k = (P : Int)
  k0 : k < 32
  P0 : 0 < P
  P1 : P ≤ 2147483648
theorem shf (b : Nat) : Shf b (b % 32) (2 ^ (b % 32)) where
  t := by rw [Int.tmod_eq_emod_of_nonneg (by omega)]; omega
  m := by omega
  n := by omega
  p := by rw [Int.natCast_pow]; rfl
  k0 := by omega
  P0 := Nat.two_pow_pos _
  P1 := Nat.le_trans (Nat.pow_le_pow_right (by decide) (show b % 32 ≤ 31 by omega)) (by decide)
theorem sll_in (a P : Nat) (hP : 0 < P) (hP1 : P ≤ 2147483648) : a % (4294967296 / P) * P < 4294967296 := by
  have hD : 0 < 4294967296 / P := Nat.div_pos (by omega) hP
  have h1 := Nat.mod_lt a hD
  have h2 := Nat.mul_le_mul_right P (show a % (4294967296 / P) + 1 ≤ 4294967296 / P from h1)
  have h3 := Nat.div_mul_le_self 4294967296 P
  rw [Nat.add_mul] at h2
  omega
end Go.Proofs.YtgpofoggfifnjaaGreatDoor.Al
namespace Go.Proofs.YtgpofoggfifnjaaGreatDoor.Al
open Go Go.RowKit

structure AluOK : Prop where
  reckon : ∀ (op : Int) (a b : Nat) (w : World), a < 4294967296 → b < 4294967296 → Calls Tryz.prog 93 #[.int .i64 op, .int .u32 (a : Int), .int .u32 (b : Int)] w fun e w' => e = .returned (.tuple #[.int .u32 (((reckN op a b).1 : Nat) : Int), .bool (reckN op a b).2]) ∧ Below w.heap.size w w'
  goes : ∀ (op : Int) (a b : Nat) (w : World), a < 4294967296 → b < 4294967296 → Calls Tryz.prog 89 #[.int .i64 op, .int .u32 (a : Int), .int .u32 (b : Int)] w fun e w' => e = .returned (.tuple #[.bool (goesN op a b).1, .bool (goesN op a b).2]) ∧ Below w.heap.size w w'
  width : ∀ (op : Int) (w : World), Calls Tryz.prog 91 #[.int .i64 op] w fun e w' => e = .returned (.int .i64 (widthN op)) ∧ Below w.heap.size w w'
  widen : ∀ (op : Int) (x : Nat) (w : World), x < 4294967296 → Calls Tryz.prog 107 #[.int .i64 op, .int .u32 (x : Int)] w fun e w' => e = .returned (.int .u32 ((widenN op x : Nat) : Int)) ∧ Below w.heap.size w w'
theorem toNat_le (b : Bool) : b.toNat ≤ 1 := by cases b <;> decide
theorem ite_lt {c : Prop} [Decidable c] {x y : Nat × Bool} (hx : x.1 < 4294967296) (hy : y.1 < 4294967296) : (if c then x else y).1 < 4294967296 := by
  by_cases h : c
  · rw [if_pos h]; exact hx
  · rw [if_neg h]; exact hy
theorem reckN_lt (op : Int) (a b : Nat) (ha : a < 4294967296) (hb : b < 4294967296) : (reckN op a b).1 < 4294967296 := by
  have h1 : ∀ z, lowA z < 4294967296 := lowA_lt
  have h2 : a % (4294967296 / 2 ^ (b % 32)) * 2 ^ (b % 32) < 4294967296 := sll_in a _ (shf b).P0 (shf b).P1
  have h3 : a / 2 ^ (b % 32) ≤ a := Nat.div_le_self _ _
  have h4 : a / b ≤ a := Nat.div_le_self _ _
  have h5 : a % b ≤ a := Nat.mod_le _ _
  have h6 := Nat.xor_lt_two_pow (n := 32) ha hb
  have h7 := Nat.or_lt_two_pow (n := 32) ha hb
  have h8 : a &&& b < 4294967296 := Nat.lt_of_le_of_lt Nat.and_le_left ha
  have h9 := fun c : Bool => toNat_le c
  have hd1 := h9 (decide (sgA a < sgA b))
  have hd2 := h9 (decide (a < b))
  have hq1 : (if b = 0 then 4294967295 else lowA ((sgA a).tdiv (sgA b))) < 4294967296 := by split; decide; exact h1 _
  have hq2 : (if b = 0 then 4294967295 else a / b) < 4294967296 := by split; decide; omega
  have hq3 : (if b = 0 then a else lowA ((sgA a).tmod (sgA b))) < 4294967296 := by split; exact ha; exact h1 _
  have hq4 : (if b = 0 then a else a % b) < 4294967296 := by split; exact ha; omega
  unfold reckN hiA
  repeat' (refine ite_lt ?_ ?_)
  · exact h1 ((a : Int) + b)
  · exact h1 ((a : Int) - b)
  · exact h2
  · exact Nat.lt_of_le_of_lt h3 ha
  · exact h1 (sgA a / 2 ^ (b % 32))
  · exact Nat.lt_of_le_of_lt hd1 (by decide)
  · exact Nat.lt_of_le_of_lt hd2 (by decide)
  · exact h6
  · exact h7
  · exact h8
  · exact h1 ((a : Int) * b)
  · exact h1 (sgA a * sgA b / 4294967296)
  · exact h1 (sgA a * (b : Int) / 4294967296)
  · exact h1 ((a : Int) * (b : Int) / 4294967296)
  · exact hq1
  · exact hq2
  · exact hq3
  · exact hq4
  · exact (by decide : 0 < 4294967296)
theorem widenN_lt (op : Int) (x : Nat) (hx : x < 4294967296) : widenN op x < 4294967296 := by
  unfold widenN
  repeat' split
  all_goals omega
end Go.Proofs.YtgpofoggfifnjaaGreatDoor.Al
namespace Go.Proofs.YtgpofoggfifnjaaGreatDoor.Al
open Go Go.RowKit

theorem w32_sg (a : Nat) (h : a < 4294967296) : wrap32 (a : Int) = sgA a := by
  unfold sgA
  simp only [wrap32]
  split <;> omega
set_option maxRecDepth 100000 in
set_option maxHeartbeats 1000000 in
theorem shift_any (b : Nat) (w : World) (hb : b < 4294967296) : Calls Tryz.prog 108 #[.int .u32 (b : Int)] w fun e w' => e = .returned (.int .u32 ((b % 32 : Nat) : Int)) ∧ w = w' := by
  have h1 : bits .and .u32 (b : Int) 31 = ((b % 32 : Nat) : Int) := by
    rw [show (31 : Int) = ((2 ^ 5 - 1 : Nat) : Int) by decide, u32_and_nat _ _ hb (by decide), Nat.and_two_pow_sub_one_eq_mod]
  obtain ⟨k, hk⟩ : ∃ k, k = b % 32 := ⟨_, rfl⟩
  rw [← hk] at h1 ⊢
  have HK := Lib.hid hk
  clear hk
  go_enter Tryz.func108, Tryz.ntmps108
  go_wp2_with fail
  go_ret
  exact ⟨rfl, rfl⟩
set_option maxRecDepth 100000 in
set_option maxHeartbeats 1000000 in
theorem kone_any (b : Bool) (w : World) : Calls Tryz.prog 109 #[.bool b] w fun e w' => e = .returned (.int .u32 ((b.toNat : Nat) : Int)) ∧ w = w' := by
  cases b
  · go_enter Tryz.func109, Tryz.ntmps109
    go_wp2_with fail
    go_ret
    exact ⟨rfl, rfl⟩
  · go_enter Tryz.func109, Tryz.ntmps109
    go_wp2_with fail
    go_ret
    exact ⟨rfl, rfl⟩
set_option maxRecDepth 100000 in
set_option maxHeartbeats 1000000 in
theorem less_any (a b : Nat) (w : World) (ha : a < 4294967296) (hb : b < 4294967296) : Calls Tryz.prog 106 #[.int .u32 (a : Int), .int .u32 (b : Int)] w fun e w' => e = .returned (.bool (decide (sgA a < sgA b))) ∧ w = w' := by
  have h1 := w32_sg a ha
  have h2 := w32_sg b hb
  generalize sgA a = x at *
  generalize sgA b = y at *
  go_enter Tryz.func106, Tryz.ntmps106
  go_wp2_with fail
  go_ret
  exact ⟨rfl, rfl⟩
set_option maxRecDepth 100000 in
set_option maxHeartbeats 1000000 in
theorem signed_any (a : Nat) (w : World) (ha : a < 4294967296) : Calls Tryz.prog 111 #[.int .u32 (a : Int)] w fun e w' => e = .returned (.int .i64 (sgA a)) ∧ w = w' := by
  have h1 := w32_sg a ha
  have h2 := sgA_in a ha
  generalize sgA a = x at *
  have h3 := h2.1
  have h4 := h2.2
  go_enter Tryz.func111, Tryz.ntmps111
  go_wp2_with fail
  go_ret
  exact ⟨rfl, rfl⟩
set_option maxRecDepth 100000 in
set_option maxHeartbeats 1000000 in
theorem upper_any (z : Int) (w : World) (_h1 : -9223372036854775808 ≤ z) (_h2 : z ≤ 9223372036854775807) : Calls Tryz.prog 110 #[.int .i64 z] w fun e w' => e = .returned (.int .u32 ((lowA (z / 4294967296) : Nat) : Int)) ∧ w = w' := by
  rw [lowA_is]
  go_enter Tryz.func110, Tryz.ntmps110
  go_wp2_with fail
  go_ret
  exact ⟨rfl, rfl⟩
set_option maxRecDepth 100000 in
set_option maxHeartbeats 1000000 in
theorem unq_any (a b : Nat) (w : World) (ha : a < 4294967296) (hb : b < 4294967296) : Calls Tryz.prog 114 #[.int .u32 (a : Int), .int .u32 (b : Int)] w fun e w' => e = .returned (.int .u32 (((if b = 0 then 4294967295 else a / b : Nat) : Nat) : Int)) ∧ w = w' := by
  by_cases h0 : b = 0
  · subst h0
    go_enter Tryz.func114, Tryz.ntmps114
    go_wp2_with fail
    go_ret
    exact ⟨rfl, rfl⟩
  · rw [if_neg h0]
    have hbI : ¬ (b : Int) = 0 := by omega
    have d0 : ((b : Int) == 0) = false := by simp only [beq_eq_false_iff_ne, ne_eq]; omega
    have hz : a / b ≤ a := Nat.div_le_self _ _
    obtain ⟨Z, hZ⟩ : ∃ Z, Z = a / b := ⟨_, rfl⟩
    have e1 : (a : Int).tdiv (b : Int) = (Z : Int) := by rw [hZ, Int.natCast_ediv, Int.tdiv_eq_ediv_of_nonneg (by omega)]
    rw [← hZ] at hz ⊢
    have hzI : (Z : Int) < 4294967296 := by omega
    clear hZ h0
    go_enter Tryz.func114, Tryz.ntmps114
    go_wp2_with fail
    go_ret
    exact ⟨rfl, rfl⟩
set_option maxRecDepth 100000 in
set_option maxHeartbeats 1000000 in
theorem unr_any (a b : Nat) (w : World) (ha : a < 4294967296) (hb : b < 4294967296) : Calls Tryz.prog 115 #[.int .u32 (a : Int), .int .u32 (b : Int)] w fun e w' => e = .returned (.int .u32 (((if b = 0 then a else a % b : Nat) : Nat) : Int)) ∧ w = w' := by
  by_cases h0 : b = 0
  · subst h0
    go_enter Tryz.func115, Tryz.ntmps115
    go_wp2_with fail
    go_ret
    exact ⟨rfl, rfl⟩
  · rw [if_neg h0]
    have hbI : ¬ (b : Int) = 0 := by omega
    have d0 : ((b : Int) == 0) = false := by simp only [beq_eq_false_iff_ne, ne_eq]; omega
    have hz : a % b ≤ a := Nat.mod_le _ _
    obtain ⟨Z, hZ⟩ : ∃ Z, Z = a % b := ⟨_, rfl⟩
    have e1 : (a : Int).tmod (b : Int) = (Z : Int) := by rw [hZ, Int.natCast_emod, Int.tmod_eq_emod_of_nonneg (by omega)]
    rw [← hZ] at hz ⊢
    have hzI : (Z : Int) < 4294967296 := by omega
    clear hZ h0
    go_enter Tryz.func115, Tryz.ntmps115
    go_wp2_with fail
    go_ret
    exact ⟨rfl, rfl⟩
set_option maxRecDepth 100000 in
set_option maxHeartbeats 1000000 in
theorem quo_any (a b : Nat) (w : World) (ha : a < 4294967296) (hb : b < 4294967296) : Calls Tryz.prog 112 #[.int .u32 (a : Int), .int .u32 (b : Int)] w fun e w' => e = .returned (.int .u32 (((if b = 0 then 4294967295 else lowA ((sgA a).tdiv (sgA b)) : Nat) : Nat) : Int)) ∧ w = w' := by
  by_cases h0 : b = 0
  · subst h0
    go_enter Tryz.func112, Tryz.ntmps112
    go_wp2_with fail
    go_ret
    exact ⟨rfl, rfl⟩
  · rw [if_neg h0]
    have hbI : ¬ (b : Int) = 0 := by omega
    have d0 : ((b : Int) == 0) = false := by simp only [beq_eq_false_iff_ne, ne_eq]; omega
    have ka := fun W => signed_any a W ha
    have kb := fun W => signed_any b W hb
    have hy0 := sgA_ne h0 hb
    have hx := sgA_in a ha
    have hq : -2147483648 ≤ (sgA a).tdiv (sgA b) ∧ (sgA a).tdiv (sgA b) ≤ 2147483648 := by have := tdiv_in (sgA a) (sgA b); omega
    have hl := lowA_is ((sgA a).tdiv (sgA b))
    have hyy := sgA_in b hb
    generalize sgA a = x at *
    generalize sgA b = y at *
    obtain ⟨q, hqe⟩ : ∃ q, x.tdiv y = q := ⟨_, rfl⟩
    rw [hqe] at hq hl ⊢
    obtain ⟨z, hz⟩ : ∃ z, lowA q = z := ⟨_, rfl⟩
    rw [hz] at hl ⊢
    have hl2 : q % 4294967296 = (z : Int) := hl.symm
    have x1 := hx.1
    have x2 := hx.2
    have y1 := hyy.1
    have y2 := hyy.2
    have q1 := hq.1
    have q2 := hq.2
    clear hl hz h0 hx hq hyy
    go_enter Tryz.func112, Tryz.ntmps112
    go_wp2_with (first
      | (go_at_call 111; with_reducible refine (ka _).mono ?_; rintro e w1 ⟨rfl, rfl⟩)
      | (go_at_call 111; with_reducible refine (kb _).mono ?_; rintro e w1 ⟨rfl, rfl⟩))
    go_ret
    exact ⟨congrArg (fun z => Ending.returned (Value.int .u32 z)) hl2, rfl⟩
set_option maxRecDepth 100000 in
set_option maxHeartbeats 1000000 in
theorem rem_any (a b : Nat) (w : World) (ha : a < 4294967296) (hb : b < 4294967296) : Calls Tryz.prog 113 #[.int .u32 (a : Int), .int .u32 (b : Int)] w fun e w' => e = .returned (.int .u32 (((if b = 0 then a else lowA ((sgA a).tmod (sgA b)) : Nat) : Nat) : Int)) ∧ w = w' := by
  by_cases h0 : b = 0
  · subst h0
    go_enter Tryz.func113, Tryz.ntmps113
    go_wp2_with fail
    go_ret
    exact ⟨rfl, rfl⟩
  · rw [if_neg h0]
    have hbI : ¬ (b : Int) = 0 := by omega
    have d0 : ((b : Int) == 0) = false := by simp only [beq_eq_false_iff_ne, ne_eq]; omega
    have ka := fun W => signed_any a W ha
    have kb := fun W => signed_any b W hb
    have hy0 := sgA_ne h0 hb
    have hx := sgA_in a ha
    have hq : -2147483648 ≤ (sgA a).tmod (sgA b) ∧ (sgA a).tmod (sgA b) ≤ 2147483648 := by have := tmod_in (sgA a) (sgA b); omega
    have hl := lowA_is ((sgA a).tmod (sgA b))
    have hyy := sgA_in b hb
    generalize sgA a = x at *
    generalize sgA b = y at *
    obtain ⟨q, hqe⟩ : ∃ q, x.tmod y = q := ⟨_, rfl⟩
    rw [hqe] at hq hl ⊢
    obtain ⟨z, hz⟩ : ∃ z, lowA q = z := ⟨_, rfl⟩
    rw [hz] at hl ⊢
    have hl2 : q % 4294967296 = (z : Int) := hl.symm
    have x1 := hx.1
    have x2 := hx.2
    have y1 := hyy.1
    have y2 := hyy.2
    have q1 := hq.1
    have q2 := hq.2
    clear hl hz h0 hx hq hyy
    go_enter Tryz.func113, Tryz.ntmps113
    go_wp2_with (first
      | (go_at_call 111; with_reducible refine (ka _).mono ?_; rintro e w1 ⟨rfl, rfl⟩)
      | (go_at_call 111; with_reducible refine (kb _).mono ?_; rintro e w1 ⟨rfl, rfl⟩))
    go_ret
    exact ⟨congrArg (fun z => Ending.returned (Value.int .u32 z)) hl2, rfl⟩
end Go.Proofs.YtgpofoggfifnjaaGreatDoor.Al
namespace Go.Proofs.YtgpofoggfifnjaaGreatDoor
open Go Go.RowKit

theorem insW_zero (x : Nat) : tab 5 (insW x 0) = tab 5 (insA 0 0 0 0 0) := rfl
set_option maxRecDepth 100000 in
set_option maxHeartbeats 4000000 in
theorem adecode_any (x : Nat) (w : World) (hT : TabW w) (hx : x < 4294967296) :
    Calls Tryz.prog 55 #[.int .u32 (x : Int)] w fun e w' => e = .returned (.agg (tab 5 (insW x (opOf x)))) ∧ Below w.heap.size w w' := by
  have kE := fun (i : Nat) (h1 : 1 ≤ i) (h2 : i < 57) (W : World) (hT : TabW W) => encodes_any x i W hT hx h1 h2
  have kF := fun (i : Nat) (h1 : 1 ≤ i) (h2 : i < 57) (W : World) => fieldsOf_any x i W hx h1 h2
  have KE := Lib.hid kE
  have KF := Lib.hid kF
  have HT := Lib.hid hT
  clear kE kF hT
  go_enter Tryz.func55, Tryz.ntmps55
  go_wp2_with fail
  go_loopw [3] (fun ct wr => ∃ i : Nat, 1 ≤ i ∧ i ≤ 57 ∧ ct = .int .i64 (i : Int) ∧ (∀ j, 1 ≤ j → j < i → mtchB x j = false) ∧ TabW wr ∧ Has wr w.heap.size 115 (tab 5 (insA 0 0 0 0 0)) ∧ Below w.heap.size w wr) (fun ct _ => (57 - (intOf ct)).toNat)
  case atStart => exact ⟨1, by omega, by omega, rfl, fun j h1 h2 => by omega, HT.out.below ((Below.refl _ _).alloc (Nat.le_refl _) _), Has.new w 115 (tab 5 (insA 0 0 0 0 0)), (Below.refl _ _).alloc (Nat.le_refl _) _⟩
  case round =>
    obtain ⟨i, h1, hi, rfl, hn, hT, hR, hb⟩ := hrel
    by_cases hlt : i < 57
    · have di : (i : Int) < 57 := by omega
      have kE := KE.out i h1 hlt wr hT
      have kF := KF.out i h1 hlt
      have HN := Lib.hid hn
      have HR := Lib.hid hR
      have HB := Lib.hid hb
      have HTr := Lib.hid hT
      clear hn hR hb hT
      cases hm : mtchB x i with
      | true =>
        rw [hm] at kE
        have hop := opOf_some h1 hlt hm HN.out
        have HOP := Lib.hid hop
        clear hm hop
        go_wp2_with (go_at_call 82; with_reducible refine kE.mono ?_; rintro e w2 ⟨rfl, hb2⟩)
        refine (kF _).mono ?_
        rintro e w3 ⟨rfl, hb3⟩
        have hR3 := (HR.out.below hb2 HR.out.lt).below hb3 (HR.out.below hb2 HR.out.lt).lt
        have hbb := (HB.out.trans (hb2.mono HB.out.size)).trans (hb3.mono (Nat.le_trans HB.out.size hb2.size))
        have HR3 := Lib.hid hR3
        have HBB := Lib.hid hbb
        clear hR3 hbb hb2 hb3
        go_wp2_with (refine wp_store_tab rfl 115 _ _ rfl w.heap.size 0 rfl 5 (insW x i) rfl 5 (insA 0 0 0 0 0) 115 HR3.out infoIa5 (by omega) (insA_one _ _ _ _ _) ?_; intro w9 hG9 hg9)
        rw [tab5_all] at hG9
        exact bodyPost_ret (results_cell_row rfl _ _ w.heap.size 115 _ _ _ rfl hG9 Tryz.underlying115 rfl infoIa5) rfl ⟨by rw [HOP.out], below_fin hg9 HBB.out (Nat.le_refl _)⟩
      | false =>
        rw [hm] at kE
        have HM := Lib.hid hm
        clear hm
        go_wp2_with (go_at_call 82; with_reducible refine kE.mono ?_; rintro e w2 ⟨rfl, hb2⟩)
        go_roundw
        case rel => exact ⟨i + 1, by omega, by omega, by go_num, fun j hj1 hj => if h : j = i then h ▸ HM.out else HN.out j hj1 (by omega), HTr.out.below hb2, HR.out.below hb2 HR.out.lt, HB.out.trans (hb2.mono HB.out.size)⟩
        case measure => simp [intOf] <;> omega
    · obtain rfl : i = 57 := by omega
      go_wp2_with (refine wp_store_tab rfl 115 _ _ rfl w.heap.size 0 rfl 5 (insA 0 0 0 0 0) rfl 5 (insA 0 0 0 0 0) 115 hR infoIa5 (by omega) (insA_one _ _ _ _ _) ?_; intro w9 hG9 hg9)
      rw [tab5_all] at hG9
      exact bodyPost_ret (results_cell_row rfl _ _ w.heap.size 115 _ _ _ rfl hG9 Tryz.underlying115 rfl infoIa5) rfl ⟨by rw [opOf_none hn, insW_zero], below_fin hg9 hb (Nat.le_refl _)⟩
end Go.Proofs.YtgpofoggfifnjaaGreatDoor
