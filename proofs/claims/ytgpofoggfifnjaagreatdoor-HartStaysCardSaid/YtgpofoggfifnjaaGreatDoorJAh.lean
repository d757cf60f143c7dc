/-
Layer 11: operations, numbers in a word, as plain data; the reference's bits, sign, mask, Imm.
Layer 11: the reference's Imm.
Layer 11: the reference's list of operations.
Layer 11: the reference's Set, in bits.
Layer 11: the reference's Set.
Layer 11: the reference's Decode.
Layer 11, plain: a word's bits: parts taken and put, numbers found and put.
Layer 11: package inst's ones, part, with, signed.
Layer 11: the law's like.
-/
import Derived.Test.YtgpofoggfifnjaaGreatDoorJAa
import Derived.Test.YtgpofoggfifnjaaGreatDoorJAb
import Derived.BigQuiet
import Derived.Lib.Hide
import Derived.Great.BuildSlice
import Derived.Great.FillDense
import Derived.KernelRfl
import Derived.Lib.Zigzag
import Derived.Deep.DeepCutAuto
namespace Go.Proofs.YtgpofoggfifnjaaGreatDoor
open Go Go.RowKit

/-- a form -/
inductive Fm where
  | O | U | J | I | B | S | T | R | F | N | C | Z
deriving DecidableEq
/-- the operations: form and word -/
def opsL : List (Fm × Nat) :=
  [(.O, 0), (.U, 55), (.U, 23), (.J, 111), (.I, 103), (.B, 99), (.B, 4195), (.B, 16483), (.B, 20579), (.B, 24675), (.B, 28771),
   (.I, 3), (.I, 4099), (.I, 8195), (.I, 16387), (.I, 20483), (.S, 35), (.S, 4131), (.S, 8227),
   (.I, 19), (.I, 8211), (.I, 12307), (.I, 16403), (.I, 24595), (.I, 28691), (.T, 4115), (.T, 20499), (.T, 1073762323),
   (.R, 51), (.R, 1073741875), (.R, 4147), (.R, 8243), (.R, 12339), (.R, 16435), (.R, 20531), (.R, 1073762355), (.R, 24627), (.R, 28723),
   (.R, 33554483), (.R, 33558579), (.R, 33562675), (.R, 33566771), (.R, 33570867), (.R, 33574963), (.R, 33579059), (.R, 33583155),
   (.F, 15), (.N, 115), (.N, 1048691), (.N, 807403635), (.N, 273678451), (.C, 4211), (.C, 8307), (.C, 12403), (.Z, 20595), (.Z, 24691), (.Z, 28787)]
def opP (i : Nat) : Fm × Nat := opsL.getD i (.O, 0)
/-- w[a:b] -/
def bitsN (w a b : Nat) : Nat := w / 2 ^ b % 2 ^ (a - b + 1)
theorem bitsN_lt (w a b : Nat) : bitsN w a b < 2 ^ (a - b + 1) := Nat.mod_lt _ (Nat.two_pow_pos _)
/-- a number of n bits, with its sign -/
def sgnZ (x n : Nat) : Int := if x / 2 ^ (n - 1) = 1 then (x : Int) - 2 ^ n else x
def maskN : Fm → Nat
  | .U | .J => 127
  | .I | .S | .B | .C | .Z => 28799
  | .R | .T => 4261441663
  | .F => 28799
  | _ => 4294967295
/-- a form's number in a word -/
def immZ (f : Fm) (w : Nat) : Int :=
  match f with
  | .I => sgnZ (bitsN w 31 20) 12
  | .S => sgnZ (bitsN w 31 25 * 32 + bitsN w 11 7) 12
  | .B => sgnZ (bitsN w 31 31 * 4096 + bitsN w 7 7 * 2048 + bitsN w 30 25 * 32 + bitsN w 11 8 * 2) 13
  | .J => sgnZ (bitsN w 31 31 * 1048576 + bitsN w 19 12 * 4096 + bitsN w 20 20 * 2048 + bitsN w 30 21 * 2) 21
  | .U => sgnZ (w - w % 4096) 32
  | .T => (bitsN w 24 20 : Nat)
  | .C | .Z => (bitsN w 31 20 : Nat)
  | _ => 0
theorem div_pow (x b : Nat) : (x : Int) / 2 ^ b = ((x / 2 ^ b : Nat) : Int) := by
  rw [Int.natCast_ediv, Int.natCast_pow]; rfl
end Go.Proofs.YtgpofoggfifnjaaGreatDoor
namespace Go.Proofs.YtgpofoggfifnjaaGreatDoor
open Go Go.RowKit

end Go.Proofs.YtgpofoggfifnjaaGreatDoor
namespace Go.Proofs.YtgpofoggfifnjaaGreatDoor
open Go Go.RowKit

theorem opsL_len : opsL.length = 57 := rfl
end Go.Proofs.YtgpofoggfifnjaaGreatDoor
namespace Go.Proofs.YtgpofoggfifnjaaGreatDoor
open Go Go.RowKit

/-- the lowest bit of a number that bit i of a word is; none: it is of no number -/
def lowK (z : Int) : Nat → Option Nat
  | 0 => none
  | k + 1 => match lowK z k with
    | some j => some j
    | none => if z / 2 ^ k % 2 = 1 then some k else none
/-- the number's bit that bit i of the word is -/
def bitK (f : Fm) (i : Nat) : Option Nat := lowK (immZ f (2 ^ i)) 32
/-- one bit of the number put into the word -/
def setStep (o : Option Nat) (W x i : Nat) : Nat :=
  match o with
  | none => W
  | some k => (W &&& (4294967295 ^^^ 2 ^ i)) ||| (x / 2 ^ k % 2 * 2 ^ i)
/-- the word with the number's bits -/
def setN (f : Fm) (w x : Nat) : Nat → Nat
  | 0 => w
  | i + 1 => setStep (bitK f i) (setN f w x i) x i
theorem setN_succ (f : Fm) (w x i : Nat) : setN f w x (i + 1) = setStep (bitK f i) (setN f w x i) x i := rfl
theorem setN_none {f : Fm} {w x i : Nat} (h : bitK f i = none) : setN f w x (i + 1) = setN f w x i := by
  rw [setN_succ, h]; rfl
theorem setN_some {f : Fm} {w x i k : Nat} (h : bitK f i = some k) : setN f w x (i + 1) = (setN f w x i &&& (4294967295 ^^^ 2 ^ i)) ||| (x / 2 ^ k % 2 * 2 ^ i) := by
  rw [setN_succ, h]; rfl
end Go.Proofs.YtgpofoggfifnjaaGreatDoor
namespace Go.Proofs.YtgpofoggfifnjaaGreatDoor
open Go Go.RowKit

theorem below_drawn (w : World) (n : Nat) : Below w.heap.size w (w.drewN n) := below_drewN (Below.refl _ _) n
end Go.Proofs.YtgpofoggfifnjaaGreatDoor
namespace Go.Proofs.YtgpofoggfifnjaaGreatDoor
open Go Go.RowKit

/-- the word is of operation i -/
def mtchB (w i : Nat) : Bool := decide (w &&& maskN (opP i).1 = (opP i).2)
/-- the word's operation: the first that it is of, or 0 -/
def opOf (w : Nat) : Nat := ((List.range 57).find? (fun i => decide (1 ≤ i) && mtchB w i)).getD 0
theorem opOf_some {w i : Nat} (h1 : 1 ≤ i) (hi : i < 57) (hm : mtchB w i = true) (hn : ∀ j, 1 ≤ j → j < i → mtchB w j = false) : opOf w = i := by
  unfold opOf
  have h : (List.range 57).find? (fun i => decide (1 ≤ i) && mtchB w i) = some i := by
    rw [List.find?_range_eq_some]
    refine ⟨by simp [h1, hm], List.mem_range.2 hi, fun j hj => ?_⟩
    by_cases hj1 : 1 ≤ j
    · simp [hn j hj1 hj]
    · simp [hj1]
  rw [h]; rfl
theorem opOf_none {w : Nat} (hn : ∀ j, 1 ≤ j → j < 57 → mtchB w j = false) : opOf w = 0 := by
  unfold opOf
  have h : (List.range 57).find? (fun i => decide (1 ≤ i) && mtchB w i) = none := by
    rw [List.find?_eq_none]
    intro j hj
    by_cases hj1 : 1 ≤ j
    · simp [hn j hj1 (List.mem_range.1 hj)]
    · simp [hj1]
  rw [h]; rfl
def rdB : Fm → Bool
  | .U | .J | .I | .R | .T | .C | .Z => true
  | _ => false
def r1B : Fm → Bool
  | .I | .B | .S | .R | .T | .C | .Z => true
  | _ => false
def r2B : Fm → Bool
  | .B | .S | .R => true
  | _ => false
/-- what stands in the instruction at first -/
def st0 (i : Nat) (z : Int) : Nat → Value
  | 0 => .int .i64 (i : Int)
  | 4 => .int .i64 z
  | _ => .int .i64 0
theorem has_to {W : World} {g : Nat} {t : TypeId} {cs cs' : Array Value} (h : Has W g t cs) (e : cs = cs') : Has W g t cs' := e ▸ h
theorem i64_and_nat (a b : Nat) (ha : a < 4294967296) (hb : b < 4294967296) : bits .and .i64 (a : Int) (b : Int) = ((a &&& b : Nat) : Int) := by
  have hx : a &&& b ≤ a := Nat.and_le_left
  show IntKind.i64.wrap ((BitVec.ofInt 64 (a : Int) &&& BitVec.ofInt 64 (b : Int)).toNat : Int) = _
  rw [BitVec.toNat_and, ofInt_u64 a (by omega), ofInt_u64 b (by omega), IntWalk.i64_in _ (by omega)]
theorem size_alloc1 (w : World) (o : Obj) : (w.alloc o).heap.size = w.heap.size + 1 := Array.size_push _
theorem below_fin {a b c : World} {g : Nat} (k : b.grownBy c (some g)) (h : Below a.heap.size a b) (hg : a.heap.size ≤ g) : Below a.heap.size a c := below_only h k hg h.size
theorem tab5_all {u v : Nat → Value} : tab 5 (fun j => if 0 ≤ j ∧ j < 0 + 5 then v (j - 0) else u j) = tab 5 v := tab_ext _ _ _ fun j hj => by rw [if_pos ⟨Nat.zero_le _, by omega⟩, Nat.sub_zero]
theorem wp_load_tabI {P : Program} {w : World} {ops : Array Oper} {rest : List Oper} {op : Oper} {a : Act} {Q : Exit → Act → World → Prop} (hgd : op.guard = none) (ty : TypeId) (x : Operand) (ho : op.op = .load ty x)
    (g : Nat) (hx : a.eval x = .pointer (some ⟨g, 0, none⟩)) (N : Nat) (f : Nat → Value) (t : TypeId) (hG : Has w g t (tab N f)) (d : TypeDesc) (hu : P.underlying ty = some d) (hd : d.isRow = true) (hi : (P.info? ty).map (·.size) = some N)
    (h : wpList P ops Q rest (a.put op.dst (.agg (tab N f))) w) : wpList P ops Q (op :: rest) a w := by
  have hr : w.rangeAt g 0 ((List.range N).map f) := by
    have := hG.range 0 N (by omega)
    simpa using this
  have hl := run_loadVar_mid (P := P) w g 0 ty _ d hr hu hd (by simpa using hi)
  refine wpList_plain hgd fun K hK => ?_
  unfold Oper.wp execOp
  simp only [ho, hx, Instr.loadAt, Instr.sureAddr, Sem.run_bind, Sem.run_pure, Result.andThen_ok, hl]
  exact hK _ _ h
end Go.Proofs.YtgpofoggfifnjaaGreatDoor
namespace Go.Proofs.YtgpofoggfifnjaaGreatDoor
open Go Go.RowKit

theorem bitsN_bit (w a b j : Nat) : (bitsN w a b).testBit j = (decide (j < a - b + 1) && w.testBit (b + j)) := by
  unfold bitsN
  rw [Nat.testBit_mod_two_pow, Nat.testBit_div_two_pow, Nat.add_comm j b]
/-- w with the bits a to b replaced by the lowest of x -/
def withN (w a b x : Nat) : Nat := (w &&& (4294967295 ^^^ (2 ^ (a - b + 1) - 1) * 2 ^ b)) ||| ((x * 2 ^ b % 4294967296) &&& (2 ^ (a - b + 1) - 1) * 2 ^ b)
theorem mask_bit (s b i : Nat) : ((2 ^ s - 1) * 2 ^ b).testBit i = (decide (b ≤ i) && decide (i - b < s)) := by
  rw [Nat.testBit_mul_two_pow, Nat.testBit_two_pow_sub_one]
theorem ones_bit (i : Nat) : (4294967295 : Nat).testBit i = decide (i < 32) := by
  rw [show (4294967295 : Nat) = 2 ^ 32 - 1 from rfl, Nat.testBit_two_pow_sub_one]
theorem bit_high {w : Nat} (hw : w < 4294967296) {i : Nat} (hi : 32 ≤ i) : w.testBit i = false :=
  Nat.testBit_lt_two_pow (Nat.lt_of_lt_of_le (show w < 2 ^ 32 from hw) (Nat.pow_le_pow_right (by decide) hi))
theorem with_bit (w a b x i : Nat) (hb : b ≤ a) (_ha : a ≤ 31) (hi : i < 32) : (withN w a b x).testBit i = if b ≤ i ∧ i ≤ a then x.testBit (i - b) else w.testBit i := by
  unfold withN
  rw [Nat.testBit_or, Nat.testBit_and, Nat.testBit_xor, Nat.testBit_and, mask_bit, ones_bit, show (4294967296 : Nat) = 2 ^ 32 from rfl, Nat.testBit_mod_two_pow, Nat.testBit_mul_two_pow]
  by_cases h : b ≤ i ∧ i ≤ a
  · rw [if_pos h]
    have h1 : i - b < a - b + 1 := by omega
    simp [h.1, h1, hi]
  · rw [if_neg h]
    have h1 : (decide (b ≤ i) && decide (i - b < a - b + 1)) = false := by
      by_cases hb2 : b ≤ i
      · have : ¬ i - b < a - b + 1 := by omega
        simp [this]
      · simp [hb2]
    rw [h1]
    simp [hi]
theorem with_lt (w a b x : Nat) (hw : w < 4294967296) : withN w a b x < 4294967296 := by
  unfold withN
  have h1 : x * 2 ^ b % 4294967296 < 4294967296 := Nat.mod_lt _ (by decide)
  exact Nat.or_lt_two_pow (n := 32) (Nat.lt_of_le_of_lt Nat.and_le_left hw) (Nat.lt_of_le_of_lt Nat.and_le_left h1)
theorem bit_div (x c i : Nat) : (x / 2 ^ c).testBit i = x.testBit (c + i) := by
  rw [Nat.testBit_div_two_pow, Nat.add_comm]
theorem one_bit (x k i j : Nat) : (x / 2 ^ k % 2 * 2 ^ i).testBit j = (decide (j = i) && x.testBit k) := by
  rw [Nat.testBit_mul_two_pow]
  by_cases h : j = i
  · subst h
    simp only [Nat.le_refl, decide_true, Bool.true_and, Nat.sub_self]
    rw [show x / 2 ^ k % 2 = x / 2 ^ k % 2 ^ 1 from rfl, Nat.testBit_mod_two_pow, bit_div]
    simp
  · have e : decide (j = i) = false := decide_eq_false h
    rw [e, show x / 2 ^ k % 2 = x / 2 ^ k % 2 ^ 1 from rfl, Nat.testBit_mod_two_pow]
    by_cases h2 : i ≤ j
    · have : ¬ j - i < 1 := by omega
      simp [this]
    · simp [h2]
/-- the bit that bit i of a word with a number put is -/
theorem setN_bit (f : Fm) (w x : Nat) (i : Nat) (hi : i < 32) : ∀ n, n ≤ 32 → (setN f w x n).testBit i = if i < n then (match bitK f i with | none => w.testBit i | some k => x.testBit k) else w.testBit i
  | 0, _ => by simp [setN]
  | n + 1, hn => by
    have ih := setN_bit f w x i hi n (by omega)
    cases hb : bitK f n with
    | none =>
      rw [setN_none hb, ih]
      by_cases h1 : i < n
      · rw [if_pos h1, if_pos (by omega)]
      · rw [if_neg h1]
        by_cases h2 : i = n
        · subst h2; rw [if_pos (by omega), hb]
        · rw [if_neg (by omega)]
    | some k =>
      rw [setN_some hb, Nat.testBit_or, Nat.testBit_and, Nat.testBit_xor, ones_bit, one_bit, Nat.testBit_two_pow, ih]
      by_cases h2 : i = n
      · subst h2
        rw [if_neg (by omega), if_pos (by omega), hb]
        simp [hi]
      · have e1 : decide (i = n) = false := decide_eq_false h2
        have e2 : decide (n = i) = false := decide_eq_false (fun e => h2 e.symm)
        rw [e1, e2]
        by_cases h1 : i < n
        · rw [if_pos h1, if_pos (by omega)]; simp [hi]
        · rw [if_neg h1, if_neg (by omega)]; simp [hi]
theorem eq_bits {x y : Nat} (hx : x < 4294967296) (hy : y < 4294967296) (h : ∀ i, i < 32 → x.testBit i = y.testBit i) : x = y := by
  refine Nat.eq_of_testBit_eq fun i => ?_
  by_cases hi : i < 32
  · exact h i hi
  · rw [bit_high hx (by omega), bit_high hy (by omega)]
/-- the program's Set of each form -/
def setL (f : Fm) (w x : Nat) : Nat :=
  match f with
  | .I => withN w 31 20 x
  | .S => withN (withN w 31 25 (x / 2 ^ 5)) 11 7 x
  | .B => withN (withN (withN (withN w 31 31 (x / 2 ^ 12)) 7 7 (x / 2 ^ 11)) 30 25 (x / 2 ^ 5)) 11 8 (x / 2 ^ 1)
  | .U => withN w 31 12 (x / 2 ^ 12)
  | .J => withN (withN (withN (withN w 31 31 (x / 2 ^ 20)) 19 12 (x / 2 ^ 12)) 20 20 (x / 2 ^ 11)) 30 21 (x / 2 ^ 1)
  | _ => w
def inBt (a b i : Nat) : Bool := decide (b ≤ i) && decide (i ≤ a)
def srcL (f : Fm) (i : Nat) : Option Nat :=
  match f with
  | .I => bif inBt 31 20 i then some (i - 20) else none
  | .S => bif inBt 11 7 i then some (i - 7) else bif inBt 31 25 i then some (5 + (i - 25)) else none
  | .B => bif inBt 11 8 i then some (1 + (i - 8)) else bif inBt 30 25 i then some (5 + (i - 25)) else bif inBt 7 7 i then some (11 + (i - 7)) else bif inBt 31 31 i then some (12 + (i - 31)) else none
  | .U => bif inBt 31 12 i then some (12 + (i - 12)) else none
  | .J => bif inBt 30 21 i then some (1 + (i - 21)) else bif inBt 20 20 i then some (11 + (i - 20)) else bif inBt 19 12 i then some (12 + (i - 12)) else bif inBt 31 31 i then some (20 + (i - 31)) else none
  | _ => none
theorem with_bitB (w a b x i : Nat) (hb : b ≤ a) (ha : a ≤ 31) (hi : i < 32) : (withN w a b x).testBit i = bif inBt a b i then x.testBit (i - b) else w.testBit i := by
  rw [with_bit w a b x i hb ha hi]
  unfold inBt
  by_cases h : b ≤ i ∧ i ≤ a
  · rw [if_pos h]; simp [h.1, h.2]
  · rw [if_neg h]
    by_cases h1 : b ≤ i
    · have h2 : ¬ i ≤ a := fun h2 => h ⟨h1, h2⟩
      simp [h2]
    · simp [h1]
theorem srcL_is : ∀ f : Fm, f = .I ∨ f = .S ∨ f = .B ∨ f = .U ∨ f = .J → ∀ i, i < 32 → srcL f i = bitK f i := by
  intro f hf
  rcases hf with rfl | rfl | rfl | rfl | rfl <;> decide +kernel
theorem setL_bit (f : Fm) (hf : f = .I ∨ f = .S ∨ f = .B ∨ f = .U ∨ f = .J) (w x i : Nat) (hi : i < 32) : (setL f w x).testBit i = (match srcL f i with | none => w.testBit i | some k => x.testBit k) := by
  rcases hf with rfl | rfl | rfl | rfl | rfl <;> (
    unfold setL srcL
    dsimp only
    repeat rw [with_bitB _ _ _ _ _ (by decide) (by decide) hi]
    try simp only [bit_div]
    repeat (first
      | rfl
      | (generalize inBt _ _ i = q; cases q)
      ))
theorem setL_lt (f : Fm) (w x : Nat) (hw : w < 4294967296) : setL f w x < 4294967296 := by
  cases f <;> (unfold setL; dsimp only; repeat (first | exact hw | refine with_lt _ _ _ _ ?_))
/-- a form's number in a word, as a word -/
def immU (f : Fm) (w : Nat) : Nat := (immZ f w % 4294967296).toNat
/-- a number of n bits, with its sign, as a word -/
def sgnU (x n : Nat) : Nat := if x / 2 ^ (n - 1) = 1 then 4294967296 + x - 2 ^ n else x
theorem sgnU_is (x n : Nat) (_hn : 1 ≤ n) (hn2 : n ≤ 32) (hx : x < 2 ^ n) : (sgnZ x n % 4294967296).toNat = sgnU x n := by
  unfold sgnZ sgnU
  have h2 : (2 : Nat) ^ n ≤ 2 ^ 32 := Nat.pow_le_pow_right (by decide) hn2
  have e : (2 : Int) ^ n = ((2 ^ n : Nat) : Int) := by rw [Int.natCast_pow]; rfl
  have e3 : (2 : Nat) ^ 32 = 4294967296 := by decide
  by_cases h : x / 2 ^ (n - 1) = 1
  · rw [if_pos h, if_pos h, e]
    have hp := Nat.two_pow_pos (n - 1)
    have hx0 : 0 < x := by
      rcases Nat.eq_zero_or_pos x with h0 | h0
      · rw [h0, Nat.zero_div] at h; cases h
      · exact h0
    generalize (2 : Nat) ^ n = q at *
    omega
  · rw [if_neg h, if_neg h]
    generalize (2 : Nat) ^ n = q at *
    omega
end Go.Proofs.YtgpofoggfifnjaaGreatDoor
namespace Go.Proofs.YtgpofoggfifnjaaGreatDoor
open Go Go.RowKit

theorem pow_le31 {n : Nat} (h : n ≤ 31) : (2 : Int) ^ n ≤ 2147483648 ∧ 0 < (2 : Int) ^ n := by
  have h1 : (2 : Nat) ^ n ≤ 2 ^ 31 := Nat.pow_le_pow_right (by decide) h
  have h2 := Nat.two_pow_pos n
  have e : (2 : Int) ^ n = ((2 ^ n : Nat) : Int) := by rw [Int.natCast_pow]; rfl
  rw [e]
  generalize (2 : Nat) ^ n = q at *
  have h3 : (2 : Nat) ^ 31 = 2147483648 := by decide
  omega
theorem pow_sub (n : Nat) : ((2 ^ n - 1 : Nat) : Int) = (2 : Int) ^ n - 1 := by
  have h2 := Nat.two_pow_pos n
  have e : (2 : Int) ^ n = ((2 ^ n : Nat) : Int) := by rw [Int.natCast_pow]; rfl
  rw [e]
  generalize (2 : Nat) ^ n = q at *
  omega
set_option maxRecDepth 100000 in
set_option maxHeartbeats 1000000 in
theorem ones_any (n : Nat) (w : World) (hn : n ≤ 31) :
    Calls Tryz.prog 116 #[.int .u64 (n : Int)] w fun e w' => e = .returned (.int .u32 ((2 ^ n - 1 : Nat) : Int)) ∧ w = w' := by
  rw [pow_sub]
  obtain ⟨hp2, hp0⟩ := pow_le31 hn
  have hnn : (n : Int).toNat = n := by omega
  have hmin : min n 32 = n := by omega
  go_enter Tryz.func116, Tryz.ntmps116
  go_wp2_with fail
  go_ret
  exact ⟨rfl, rfl⟩
set_option maxRecDepth 100000 in
set_option maxHeartbeats 1000000 in
theorem part_any (x a b : Nat) (w : World) (hx : x < 4294967296) (hab : b ≤ a) (ha : a ≤ 31) (hs : a - b + 1 ≤ 31) :
    Calls Tryz.prog 98 #[.int .u32 (x : Int), .int .u64 (a : Int), .int .u64 (b : Int)] w fun e w' => e = .returned (.int .u32 ((bitsN x a b : Nat) : Int)) ∧ w = w' := by
  obtain ⟨s, hse⟩ : ∃ s, s = a - b + 1 := ⟨_, rfl⟩
  rw [← hse] at hs
  have e1 : (a : Int) - (b : Int) + 1 = (s : Int) := by omega
  have hxb := div_pow x b
  have hxl : x / 2 ^ b < 4294967296 := Nat.lt_of_le_of_lt (Nat.div_le_self _ _) hx
  have hbb : (b : Int).toNat = b := by omega
  have hpl : 2 ^ s - 1 < 4294967296 := by
    have := Nat.pow_le_pow_right (show 0 < 2 by decide) hs
    have e : (2 : Nat) ^ 31 = 2147483648 := by decide
    omega
  obtain ⟨m, hm⟩ : ∃ m, m = 2 ^ s - 1 := ⟨_, rfl⟩
  have hand : bits .and .u32 ((x / 2 ^ b : Nat) : Int) (m : Int) = ((bitsN x a b : Nat) : Int) := by
    rw [hm, u32_and_nat _ _ hxl hpl, Nat.and_two_pow_sub_one_eq_mod]
    unfold bitsN
    rw [← hse]
  have hO := fun W => ones_any s W hs
  rw [← hm] at hO
  rw [← hxb] at hand
  have HS := Lib.hid hse
  clear hse hm hxb hxl hpl
  go_enter Tryz.func98, Tryz.ntmps98
  go_wp2_with (go_at_call 116; refine (hO _).mono ?_; rintro e w2 ⟨rfl, rfl⟩)
  go_ret
  exact ⟨rfl, rfl⟩
theorem sub_xor (b : Nat) (hb : b < 4294967296) : 4294967295 - b = 4294967295 ^^^ b := by
  refine eq_bits (by omega) (Nat.xor_lt_two_pow (n := 32) (by decide) hb) fun i hi => ?_
  rw [show 4294967295 - b = 2 ^ 32 - (b + 1) by omega, Nat.testBit_two_pow_sub_succ hb, Nat.testBit_xor, ones_bit]
  simp [hi]
set_option maxRecDepth 100000 in
set_option maxHeartbeats 1000000 in
theorem with_any (x a b y : Nat) (w : World) (hx : x < 4294967296) (hab : b ≤ a) (ha : a ≤ 31) (hs : a - b + 1 ≤ 31) (_hy : y < 4294967296) :
    Calls Tryz.prog 118 #[.int .u32 (x : Int), .int .u64 (a : Int), .int .u64 (b : Int), .int .u32 (y : Int)] w fun e w' => e = .returned (.int .u32 ((withN x a b y : Nat) : Int)) ∧ w = w' := by
  obtain ⟨s, hse⟩ : ∃ s, s = a - b + 1 := ⟨_, rfl⟩
  rw [← hse] at hs
  have e1 : (a : Int) - (b : Int) + 1 = (s : Int) := by omega
  have hbb : (b : Int).toNat = b := by omega
  have hO := fun W => ones_any s W hs
  obtain ⟨v, hv⟩ : ∃ v, v = withN x a b y := ⟨_, rfl⟩
  rw [← hv]
  have hand : bits .or .u32 (bits .andNot .u32 (x : Int) (((2 ^ s - 1 : Nat) : Int) * 2 ^ b % 4294967296)) (bits .and .u32 ((y : Int) * 2 ^ b % 4294967296) (((2 ^ s - 1 : Nat) : Int) * 2 ^ b % 4294967296)) = (v : Int) := by
    have hm : (2 ^ s - 1) * 2 ^ b < 4294967296 := by
      have h1 : 2 ^ s * 2 ^ b ≤ 2 ^ 32 := by rw [← Nat.pow_add]; exact Nat.pow_le_pow_right (by decide) (by omega)
      have h2 := Nat.two_pow_pos b
      have h3 := Nat.two_pow_pos s
      rw [Nat.mul_comm, Nat.mul_sub, Nat.mul_one, Nat.mul_comm]
      have e : (2 : Nat) ^ 32 = 4294967296 := by decide
      omega
    have em : ((2 ^ s - 1 : Nat) : Int) * 2 ^ b % 4294967296 = (((2 ^ s - 1) * 2 ^ b : Nat) : Int) := by
      have e : ((2 ^ s - 1 : Nat) : Int) * 2 ^ b = (((2 ^ s - 1) * 2 ^ b : Nat) : Int) := by rw [Int.natCast_mul, Int.natCast_pow]; rfl
      rw [e]; omega
    have ey : (y : Int) * 2 ^ b % 4294967296 = ((y * 2 ^ b % 4294967296 : Nat) : Int) := by rw [Int.natCast_emod, Int.natCast_mul, Int.natCast_pow]; rfl
    have hyl : y * 2 ^ b % 4294967296 < 4294967296 := Nat.mod_lt _ (by decide)
    rw [em, ey, u32_andNot_nat _ _ hx hm, u32_and_nat _ _ hyl hm, u32_or_nat _ _ (Nat.lt_of_le_of_lt Nat.and_le_left hx) (Nat.lt_of_le_of_lt Nat.and_le_left hyl), sub_xor _ hm, hv, hse]
    rfl
  have HS := Lib.hid hse
  have HV := Lib.hid hv
  clear hse hv
  go_enter Tryz.func118, Tryz.ntmps118
  go_wp2_with (go_at_call 116; refine (hO _).mono ?_; rintro e w2 ⟨rfl, rfl⟩)
  go_ret
  exact ⟨rfl, rfl⟩
set_option maxRecDepth 100000 in
set_option maxHeartbeats 1000000 in
theorem signed12 (x : Nat) (w : World) (hx : x < 4096) :
    Calls Tryz.prog 131 #[.int .u32 (x : Int), .int .u64 12] w fun e w' => e = .returned (.int .u32 ((sgnU x 12 : Nat) : Int)) ∧ w = w' := by
  obtain ⟨v, hv⟩ : ∃ v, v = sgnU x 12 := ⟨_, rfl⟩
  rw [← hv]
  have h1 : wrap32 ((x : Int) * 1048576) / 1048576 % 4294967296 = (v : Int) := by
    rw [hv]
    unfold sgnU
    have e1 : (2 : Nat) ^ (12 - 1) = 2048 := by decide
    have e2 : (2 : Nat) ^ 12 = 4096 := by decide
    rw [e1, e2]
    by_cases h : x / 2048 = 1
    · rw [if_pos h]
      have e3 : wrap32 ((x : Int) * 1048576) = (x : Int) * 1048576 - 4294967296 := by
        simp only [wrap32]
        omega
      rw [e3]
      omega
    · rw [if_neg h]
      have e3 : wrap32 ((x : Int) * 1048576) = (x : Int) * 1048576 := by
        simp only [wrap32]
        omega
      rw [e3]
      omega
  have HV := Lib.hid hv
  clear hv
  go_enter Tryz.func131, Tryz.ntmps131
  go_wp2_with fail
  go_ret
  exact ⟨congrArg (fun z => Ending.returned (Value.int .u32 z)) h1, rfl⟩
set_option maxRecDepth 100000 in
set_option maxHeartbeats 1000000 in
theorem signed13 (x : Nat) (w : World) (hx : x < 8192) :
    Calls Tryz.prog 131 #[.int .u32 (x : Int), .int .u64 13] w fun e w' => e = .returned (.int .u32 ((sgnU x 13 : Nat) : Int)) ∧ w = w' := by
  obtain ⟨v, hv⟩ : ∃ v, v = sgnU x 13 := ⟨_, rfl⟩
  rw [← hv]
  have h1 : wrap32 ((x : Int) * 524288) / 524288 % 4294967296 = (v : Int) := by
    rw [hv]
    unfold sgnU
    have e1 : (2 : Nat) ^ (13 - 1) = 4096 := by decide
    have e2 : (2 : Nat) ^ 13 = 8192 := by decide
    rw [e1, e2]
    by_cases h : x / 4096 = 1
    · rw [if_pos h]
      have e3 : wrap32 ((x : Int) * 524288) = (x : Int) * 524288 - 4294967296 := by
        simp only [wrap32]
        omega
      rw [e3]
      omega
    · rw [if_neg h]
      have e3 : wrap32 ((x : Int) * 524288) = (x : Int) * 524288 := by
        simp only [wrap32]
        omega
      rw [e3]
      omega
  have HV := Lib.hid hv
  clear hv
  go_enter Tryz.func131, Tryz.ntmps131
  go_wp2_with fail
  go_ret
  exact ⟨congrArg (fun z => Ending.returned (Value.int .u32 z)) h1, rfl⟩
set_option maxRecDepth 100000 in
set_option maxHeartbeats 1000000 in
theorem signed21 (x : Nat) (w : World) (hx : x < 2097152) :
    Calls Tryz.prog 131 #[.int .u32 (x : Int), .int .u64 21] w fun e w' => e = .returned (.int .u32 ((sgnU x 21 : Nat) : Int)) ∧ w = w' := by
  obtain ⟨v, hv⟩ : ∃ v, v = sgnU x 21 := ⟨_, rfl⟩
  rw [← hv]
  have h1 : wrap32 ((x : Int) * 2048) / 2048 % 4294967296 = (v : Int) := by
    rw [hv]
    unfold sgnU
    have e1 : (2 : Nat) ^ (21 - 1) = 1048576 := by decide
    have e2 : (2 : Nat) ^ 21 = 2097152 := by decide
    rw [e1, e2]
    by_cases h : x / 1048576 = 1
    · rw [if_pos h]
      have e3 : wrap32 ((x : Int) * 2048) = (x : Int) * 2048 - 4294967296 := by
        simp only [wrap32]
        omega
      rw [e3]
      omega
    · rw [if_neg h]
      have e3 : wrap32 ((x : Int) * 2048) = (x : Int) * 2048 := by
        simp only [wrap32]
        omega
      rw [e3]
      omega
  have HV := Lib.hid hv
  clear hv
  go_enter Tryz.func131, Tryz.ntmps131
  go_wp2_with fail
  go_ret
  exact ⟨congrArg (fun z => Ending.returned (Value.int .u32 z)) h1, rfl⟩
end Go.Proofs.YtgpofoggfifnjaaGreatDoor
namespace Go.Proofs.YtgpofoggfifnjaaGreatDoor
open Go Go.RowKit

/-- an instruction of the program -/
def insA (i a b c : Int) (n : Int) : Nat → Value
  | 0 => .int .i64 i
  | 1 => .int .i64 a
  | 2 => .int .i64 b
  | 3 => .int .i64 c
  | _ => .int .u32 n
end Go.Proofs.YtgpofoggfifnjaaGreatDoor
