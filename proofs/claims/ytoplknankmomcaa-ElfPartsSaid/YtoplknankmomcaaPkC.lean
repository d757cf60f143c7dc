/-
Package bytes: the integers; what a cursor is; At.
-/
import Derived.Test.YtoplknankmomcaaPkB
import Derived.Deep.Upon
namespace Go.Proofs.Ytoplknankmomcaa
open Go Go.RowKit

theorem leT_snoc (f : Nat → Nat) : ∀ m j, leT f (m + 1) j = leT f m j + f (j + m) * 256 ^ m
  | 0, j => by simp [leT]
  | m + 1, j => by
    show f j + 256 * leT f (m + 1) (j + 1) = f j + 256 * leT f m (j + 1) + f (j + (m + 1)) * 256 ^ (m + 1)
    rw [leT_snoc f m (j + 1), Nat.pow_succ, show j + 1 + m = j + (m + 1) by omega, Nat.mul_add]
    have : f (j + (m + 1)) * (256 ^ m * 256) = 256 * (f (j + (m + 1)) * 256 ^ m) := by rw [Nat.mul_comm (256 ^ m), Nat.mul_left_comm]
    omega
/-- a byte is put above the bytes that were read -/
theorem or_above (x d i : Nat) (hi : i < 4) (hx : x < 256 ^ i) (hd : d < 256) : bits .or .u32 (x : Int) (IntKind.u32.wrap ((d : Int) * 2 ^ (8 * i))) = ((x + d * 256 ^ i : Nat) : Int) := by
  have h256 : (256 : Nat) ^ i = 2 ^ (8 * i) := by rw [Nat.pow_mul]
  have hm : d * 256 ^ i < 4294967296 := by
    have : 256 ^ i ≤ 256 ^ 3 := Nat.pow_le_pow_right (by omega) (by omega)
    calc d * 256 ^ i ≤ 255 * 256 ^ 3 := Nat.mul_le_mul (by omega) this
      _ < 4294967296 := by decide
  have e : ((d : Int) * 2 ^ (8 * i)) = ((d * 256 ^ i : Nat) : Int) := by rw [h256]; push_cast; rfl
  have hx2 : x < 4294967296 := by
    have : 256 ^ i ≤ 256 ^ 3 := Nat.pow_le_pow_right (by omega) (by omega)
    omega
  rw [e, IntKind.wrap_u32', Int.emod_eq_of_lt (by omega) (by omega), u32_or_nat x _ hx2 hm, Nat.or_comm, nat_join (8 * i) _ _ (by rw [h256]; exact Nat.mul_mod_left _ _) (by rw [← h256]; exact hx), Nat.add_comm]
set_option maxRecDepth 100000 in
set_option maxHeartbeats 1000000 in
theorem pint_no (k : Nat) (g : Value) (w : World) (Q : World → Prop) (kT : Calls Try.prog 30 #[g, .int .i64 (k : Int)] w fun e w' => e = .returned (.slice none 0 0) ∧ Q w') :
    Calls Try.prog 36 #[g, .int .i64 (k : Int)] w fun e w' => e = .returned (.int .u32 0) ∧ Q w' := by
  go_enter Try.func36, Try.ntmps36
  go_wp2_with fail
  refine kT.mono ?_
  rintro e u ⟨rfl, hQ⟩
  clear kT
  go_wp2_with fail
  go_loopw [5, 12] (fun x ct wr => x = .int .u32 0 ∧ ct = .int .i64 0 ∧ wr = u) (fun _ _ _ => 0)
  case atStart => exact ⟨rfl, rfl, rfl⟩
  case round =>
    obtain ⟨rfl, rfl, rfl⟩ := hrel
    go_wp2_with fail
    go_ret
    exact ⟨rfl, hQ⟩
set_option maxRecDepth 100000 in
set_option maxHeartbeats 2000000 in
theorem pint_ok (bs : List UInt8) (k p : Nat) (g : Value) (w : World) (Q : World → Prop) (hk4 : k ≤ 4)
    (kT : Calls Try.prog 30 #[g, .int .i64 (k : Int)] w fun e w' => ∃ b o, e = .returned (.slice (some ⟨b, o, none⟩) k k) ∧ (∀ j, j < k → w'.cell? ⟨b, o + j, none⟩ = some (by8 (bs.getD (p + j) 0))) ∧ Q w') :
    Calls Try.prog 36 #[g, .int .i64 (k : Int)] w fun e w' => e = .returned (.int .u32 ((leT (bsN bs) k p : Nat) : Int)) ∧ Q w' := by
  have hx := fun m j => leT_lt (bsN_lt bs) m j
  go_enter Try.func36, Try.ntmps36
  go_wp2_with fail
  refine kT.mono ?_
  rintro e u ⟨b, o, rfl, hcu, hQ⟩
  have HC := Lib.hid hcu
  have HX := Lib.hid hx
  clear kT hcu hx
  go_wp2_with fail
  go_loopw [5, 12] (fun x ct wr => ∃ i : Nat, i ≤ k ∧ x = .int .u32 ((leT (bsN bs) i p : Nat) : Int) ∧ ct = .int .i64 (i : Int) ∧ wr = u) (fun _ ct _ => (k - (intOf ct)).toNat)
  case atStart => exact ⟨0, Nat.zero_le _, rfl, rfl, rfl⟩
  case round =>
    obtain ⟨i, hi, rfl, rfl, rfl⟩ := hrel
    by_cases hlt : i < k
    · have hc0 := HC.out i hlt
      have e1 := leT_snoc (bsN bs) i p
      have hx1 := HX.out i p
      have hb8 : by8 (bs.getD (p + i) 0) = .int .u8 ((bsN bs (p + i) : Nat) : Int) := rfl
      have hbl := bsN_lt bs (p + i)
      rw [hb8] at hc0
      generalize leT (bsN bs) i p = x0 at *
      generalize bsN bs (p + i) = d0 at *
      have hw := or_above x0 d0 i (by omega) hx1 hbl
      have h8 : (8 * (i : Int)).toNat = 8 * i := by omega
      have hm8 : min (8 * i) 32 = 8 * i := by omega
      have HR := Lib.hid e1
      have HW := Lib.hid hw
      have di : (i : Int) < (k : Int) := by omega
      clear e1 hx1 hb8 hw
      go_wp2_with fail
      go_roundw
      case rel =>
        refine ⟨i + 1, by omega, ?_, by go_num, trivial⟩
        rw [HR.out, ← HW.out, IntKind.wrap_u32']
      case measure => simp [intOf] <;> omega
    · obtain rfl : i = k := by omega
      go_wp2_with fail
      go_ret
      exact ⟨rfl, hQ⟩

set_option maxRecDepth 100000 in
set_option maxHeartbeats 1000000 in
theorem pu16_of (x : Nat) (hx : x < 4294967296) (g : Value) (w : World) (Q : World → Prop) (kI : Calls Try.prog 36 #[g, .int .i64 ((2 : Nat) : Int)] w fun e w' => e = .returned (.int .u32 (x : Int)) ∧ Q w') :
    Calls Try.prog 31 #[g] w fun e w' => e = .returned (.int .i64 (x : Int)) ∧ Q w' := by
  replace kI : Calls Try.prog 36 #[g, .int .i64 2] w fun e w' => e = .returned (.int .u32 (x : Int)) ∧ Q w' := kI
  go_enter Try.func31, Try.ntmps31
  go_wp2_with fail
  refine kI.mono ?_
  rintro e u ⟨rfl, hQ⟩
  clear kI
  go_wp2_with fail
  go_ret
  exact ⟨rfl, hQ⟩
set_option maxRecDepth 100000 in
set_option maxHeartbeats 1000000 in
theorem pu32_of (x : Nat) (g : Value) (w : World) (Q : World → Prop) (kI : Calls Try.prog 36 #[g, .int .i64 ((4 : Nat) : Int)] w fun e w' => e = .returned (.int .u32 (x : Int)) ∧ Q w') :
    Calls Try.prog 32 #[g] w fun e w' => e = .returned (.int .u32 (x : Int)) ∧ Q w' := by
  replace kI : Calls Try.prog 36 #[g, .int .i64 4] w fun e w' => e = .returned (.int .u32 (x : Int)) ∧ Q w' := kI
  go_enter Try.func32, Try.ntmps32
  go_wp2_with fail
  refine kI.mono ?_
  rintro e u ⟨rfl, hQ⟩
  clear kI
  go_wp2_with fail
  go_ret
  exact ⟨rfl, hQ⟩
/-- append(s, x...), s without spare room, x not empty: a row of the call's own -/
theorem wp_append_full {w : World} {ops : Array Oper} {rest : List Oper} {op : Oper} {a : Act} {Q : Exit → Act → World → Prop} (hgd : op.guard = none) (s x : Operand)
    (ho : op.op = .call { callee := .builtin .append, args := #[s, x], argTypes := #[25, 25] }) (A : Option Addr) (n : Nat) (bs : List UInt8) (hs : a.eval s = .slice A n n) (hS : SlA w A n n bs) (hA : A = none → n = 0)
    (X : Option Addr) (m c : Nat) (cs : List UInt8) (hx : a.eval x = .slice X m c) (hX : SlA w X m c cs) (hm : 0 < m) (h63 : n + m ≤ 2000000)
    (h : ∀ v' w', w'.ownsRow w.heap.size 5 1 v' (n + m) ((bs ++ cs).map by8) → w.grownBy w' none → wpList Try.prog ops Q rest (a.put op.dst v') w') : wpList Try.prog ops Q (op :: rest) a w := by
  obtain ⟨i5, hi5, hz5, hs5, hb5⟩ := info_parts info5
  obtain ⟨b, o, rfl, _, hcell⟩ := hX.2.2 hm
  have hlc : cs.length = m := hX.1
  have hlb : bs.length = n := hS.1
  refine wpList_append_grows w hgd s x 25 ho 5 i5 (.int .u8 0) 1 1 Try.underlying25 hi5 hz5 hs5 hb5 rfl (by decide) A n n (bs.map by8) hs (fun h => ⟨hA h, hA h⟩) (by simp [hlb]) (fun ad had j u hj => ?_) ⟨b, o, none⟩ m c (cs.map by8) hx (by simp [hlc]) (fun j u hj => ?_) (fun u hu => ?_) (by omega) (by simp only [maxLen]; omega) (by omega) ?_
  · have hjn : j < n := by have := (List.getElem?_eq_some_iff.1 hj).1; simpa [hlb] using this
    obtain ⟨b', o', e, _, hc'⟩ := hS.2.2 (by omega)
    obtain rfl : ad = ⟨b', o', none⟩ := Option.some.inj (had.symm.trans e)
    rw [Addr.add_mid, hc' j hjn, ← hj]
    simp [List.getD_eq_getElem?_getD, show j < bs.length by omega]
  · have hjm : j < m := by have := (List.getElem?_eq_some_iff.1 hj).1; simpa [hlc] using this
    rw [Addr.add_mid, hcell j hjm, ← hj]
    simp [List.getD_eq_getElem?_getD, show j < cs.length by omega]
  · obtain ⟨b, _, rfl⟩ := List.mem_map.1 hu
    rfl
  · intro v' w' h1 h2
    refine h v' w' ?_ h2
    rw [List.map_append]
    exact h1
theorem wp_append_none {w : World} {ops : Array Oper} {rest : List Oper} {op : Oper} {a : Act} {Q : Exit → Act → World → Prop} (hgd : op.guard = none) (s x : Operand)
    (ho : op.op = .call { callee := .builtin .append, args := #[s, x], argTypes := #[25, 25] }) (A : Option Addr) (n : Nat) (hs : a.eval s = .slice A n n)
    (X : Option Addr) (c : Nat) (hx : a.eval x = .slice X 0 c) (hXn : X = none → c = 0)
    (h : wpList Try.prog ops Q rest (a.put op.dst (.slice A n n)) w) : wpList Try.prog ops Q (op :: rest) a w := by
  obtain ⟨i5, hi5, hz5, hs5, hb5⟩ := info_parts info5
  refine wpList_plain hgd fun K hK => ?_
  have hsrc : Src Try.prog i5.size 25 (.slice X 0 c) 0 [] w := by
    cases X with
    | none => exact Src.ofNil w Try.underlying25 c
    | some ad => exact Src.ofSlice w Try.underlying25 ad 0 c [] (by simp) (by simp) (by simp)
  have hrun := run_append_nothing (P := Try.prog) w 25 25 op.type 5 i5 Try.underlying25 hi5 A n n (Nat.le_refl _) (.slice X 0 c) hsrc
  unfold Oper.wp
  simp [execOp, ho, resolve, invoke, builtin, hs, hx, hrun, Result.andThen]
  exact hK _ _ h
end Go.Proofs.Ytoplknankmomcaa
