/-
Layer 11: operations, numbers in a word, as plain data; the reference's bits, sign, mask, Imm.
Layer 11: the reference's Imm.
Layer 11: the reference's list of operations.
Layer 11: the reference's Set, in bits.
Layer 11: the reference's Set.
Layer 11: the reference's Decode.
Layer 11, plain: a word's bits: parts taken and put, numbers found and put.
Layer 11: the law's like.
Layer 10: the reference's memory: Put, Load, Store.
-/
import Derived.Test.YtgpofoggfifnjaaGreatDoorJAa
import Derived.Test.YtgpofoggfifnjaaGreatDoorJAb
import Derived.Test.YtgpofoggfifnjaaGreatDoorJAf
import Derived.BigQuiet
import Derived.Lib.Hide
import Derived.Great.BuildSlice
import Derived.Great.FillDense
import Derived.KernelRfl
import Derived.Lib.Zigzag
import Derived.Deep.DeepCutAuto
namespace Go.Proofs.YtgpofoggfifnjaaGreatDoor
open Go Go.RowKit

/-- a form -/
inductive Fm where
  | O | U | J | I | B | S | T | R | F | N | C | Z
deriving DecidableEq
/-- the operations: form and word -/
def opsL : List (Fm × Nat) :=
  [(.O, 0), (.U, 55), (.U, 23), (.J, 111), (.I, 103), (.B, 99), (.B, 4195), (.B, 16483), (.B, 20579), (.B, 24675), (.B, 28771),
   (.I, 3), (.I, 4099), (.I, 8195), (.I, 16387), (.I, 20483), (.S, 35), (.S, 4131), (.S, 8227),
   (.I, 19), (.I, 8211), (.I, 12307), (.I, 16403), (.I, 24595), (.I, 28691), (.T, 4115), (.T, 20499), (.T, 1073762323),
   (.R, 51), (.R, 1073741875), (.R, 4147), (.R, 8243), (.R, 12339), (.R, 16435), (.R, 20531), (.R, 1073762355), (.R, 24627), (.R, 28723),
   (.R, 33554483), (.R, 33558579), (.R, 33562675), (.R, 33566771), (.R, 33570867), (.R, 33574963), (.R, 33579059), (.R, 33583155),
   (.F, 15), (.N, 115), (.N, 1048691), (.N, 807403635), (.N, 273678451), (.C, 4211), (.C, 8307), (.C, 12403), (.Z, 20595), (.Z, 24691), (.Z, 28787)]
def opP (i : Nat) : Fm × Nat := opsL.getD i (.O, 0)
/-- w[a:b] -/
def bitsN (w a b : Nat) : Nat := w / 2 ^ b % 2 ^ (a - b + 1)
theorem bitsN_lt (w a b : Nat) : bitsN w a b < 2 ^ (a - b + 1) := Nat.mod_lt _ (Nat.two_pow_pos _)
/-- a number of n bits, with its sign -/
def sgnZ (x n : Nat) : Int := if x / 2 ^ (n - 1) = 1 then (x : Int) - 2 ^ n else x
def maskN : Fm → Nat
  | .U | .J => 127
  | .I | .S | .B | .C | .Z => 28799
  | .R | .T => 4261441663
  | .F => 28799
  | _ => 4294967295
/-- a form's number in a word -/
def immZ (f : Fm) (w : Nat) : Int :=
  match f with
  | .I => sgnZ (bitsN w 31 20) 12
  | .S => sgnZ (bitsN w 31 25 * 32 + bitsN w 11 7) 12
  | .B => sgnZ (bitsN w 31 31 * 4096 + bitsN w 7 7 * 2048 + bitsN w 30 25 * 32 + bitsN w 11 8 * 2) 13
  | .J => sgnZ (bitsN w 31 31 * 1048576 + bitsN w 19 12 * 4096 + bitsN w 20 20 * 2048 + bitsN w 30 21 * 2) 21
  | .U => sgnZ (w - w % 4096) 32
  | .T => (bitsN w 24 20 : Nat)
  | .C | .Z => (bitsN w 31 20 : Nat)
  | _ => 0
theorem div_pow (x b : Nat) : (x : Int) / 2 ^ b = ((x / 2 ^ b : Nat) : Int) := by
  rw [Int.natCast_ediv, Int.natCast_pow]; rfl
end Go.Proofs.YtgpofoggfifnjaaGreatDoor
namespace Go.Proofs.YtgpofoggfifnjaaGreatDoor
open Go Go.RowKit

end Go.Proofs.YtgpofoggfifnjaaGreatDoor
namespace Go.Proofs.YtgpofoggfifnjaaGreatDoor
open Go Go.RowKit

theorem opsL_len : opsL.length = 57 := rfl
end Go.Proofs.YtgpofoggfifnjaaGreatDoor
namespace Go.Proofs.YtgpofoggfifnjaaGreatDoor
open Go Go.RowKit

/-- the lowest bit of a number that bit i of a word is; none: it is of no number -/
def lowK (z : Int) : Nat → Option Nat
  | 0 => none
  | k + 1 => match lowK z k with
    | some j => some j
    | none => if z / 2 ^ k % 2 = 1 then some k else none
/-- the number's bit that bit i of the word is -/
def bitK (f : Fm) (i : Nat) : Option Nat := lowK (immZ f (2 ^ i)) 32
/-- one bit of the number put into the word -/
def setStep (o : Option Nat) (W x i : Nat) : Nat :=
  match o with
  | none => W
  | some k => (W &&& (4294967295 ^^^ 2 ^ i)) ||| (x / 2 ^ k % 2 * 2 ^ i)
/-- the word with the number's bits -/
def setN (f : Fm) (w x : Nat) : Nat → Nat
  | 0 => w
  | i + 1 => setStep (bitK f i) (setN f w x i) x i
theorem setN_succ (f : Fm) (w x i : Nat) : setN f w x (i + 1) = setStep (bitK f i) (setN f w x i) x i := rfl
theorem setN_none {f : Fm} {w x i : Nat} (h : bitK f i = none) : setN f w x (i + 1) = setN f w x i := by
  rw [setN_succ, h]; rfl
theorem setN_some {f : Fm} {w x i k : Nat} (h : bitK f i = some k) : setN f w x (i + 1) = (setN f w x i &&& (4294967295 ^^^ 2 ^ i)) ||| (x / 2 ^ k % 2 * 2 ^ i) := by
  rw [setN_succ, h]; rfl
end Go.Proofs.YtgpofoggfifnjaaGreatDoor
namespace Go.Proofs.YtgpofoggfifnjaaGreatDoor
open Go Go.RowKit

theorem below_drawn (w : World) (n : Nat) : Below w.heap.size w (w.drewN n) := below_drewN (Below.refl _ _) n
end Go.Proofs.YtgpofoggfifnjaaGreatDoor
namespace Go.Proofs.YtgpofoggfifnjaaGreatDoor
open Go Go.RowKit

/-- the word is of operation i -/
def mtchB (w i : Nat) : Bool := decide (w &&& maskN (opP i).1 = (opP i).2)
/-- the word's operation: the first that it is of, or 0 -/
def opOf (w : Nat) : Nat := ((List.range 57).find? (fun i => decide (1 ≤ i) && mtchB w i)).getD 0
theorem opOf_some {w i : Nat} (h1 : 1 ≤ i) (hi : i < 57) (hm : mtchB w i = true) (hn : ∀ j, 1 ≤ j → j < i → mtchB w j = false) : opOf w = i := by
  unfold opOf
  have h : (List.range 57).find? (fun i => decide (1 ≤ i) && mtchB w i) = some i := by
    rw [List.find?_range_eq_some]
    refine ⟨by simp [h1, hm], List.mem_range.2 hi, fun j hj => ?_⟩
    by_cases hj1 : 1 ≤ j
    · simp [hn j hj1 hj]
    · simp [hj1]
  rw [h]; rfl
theorem opOf_none {w : Nat} (hn : ∀ j, 1 ≤ j → j < 57 → mtchB w j = false) : opOf w = 0 := by
  unfold opOf
  have h : (List.range 57).find? (fun i => decide (1 ≤ i) && mtchB w i) = none := by
    rw [List.find?_eq_none]
    intro j hj
    by_cases hj1 : 1 ≤ j
    · simp [hn j hj1 (List.mem_range.1 hj)]
    · simp [hj1]
  rw [h]; rfl
def rdB : Fm → Bool
  | .U | .J | .I | .R | .T | .C | .Z => true
  | _ => false
def r1B : Fm → Bool
  | .I | .B | .S | .R | .T | .C | .Z => true
  | _ => false
def r2B : Fm → Bool
  | .B | .S | .R => true
  | _ => false
/-- what stands in the instruction at first -/
def st0 (i : Nat) (z : Int) : Nat → Value
  | 0 => .int .i64 (i : Int)
  | 4 => .int .i64 z
  | _ => .int .i64 0
theorem has_to {W : World} {g : Nat} {t : TypeId} {cs cs' : Array Value} (h : Has W g t cs) (e : cs = cs') : Has W g t cs' := e ▸ h
theorem i64_and_nat (a b : Nat) (ha : a < 4294967296) (hb : b < 4294967296) : bits .and .i64 (a : Int) (b : Int) = ((a &&& b : Nat) : Int) := by
  have hx : a &&& b ≤ a := Nat.and_le_left
  show IntKind.i64.wrap ((BitVec.ofInt 64 (a : Int) &&& BitVec.ofInt 64 (b : Int)).toNat : Int) = _
  rw [BitVec.toNat_and, ofInt_u64 a (by omega), ofInt_u64 b (by omega), IntWalk.i64_in _ (by omega)]
theorem size_alloc1 (w : World) (o : Obj) : (w.alloc o).heap.size = w.heap.size + 1 := Array.size_push _
theorem below_fin {a b c : World} {g : Nat} (k : b.grownBy c (some g)) (h : Below a.heap.size a b) (hg : a.heap.size ≤ g) : Below a.heap.size a c := below_only h k hg h.size
theorem tab5_all {u v : Nat → Value} : tab 5 (fun j => if 0 ≤ j ∧ j < 0 + 5 then v (j - 0) else u j) = tab 5 v := tab_ext _ _ _ fun j hj => by rw [if_pos ⟨Nat.zero_le _, by omega⟩, Nat.sub_zero]
theorem wp_load_tabI {P : Program} {w : World} {ops : Array Oper} {rest : List Oper} {op : Oper} {a : Act} {Q : Exit → Act → World → Prop} (hgd : op.guard = none) (ty : TypeId) (x : Operand) (ho : op.op = .load ty x)
    (g : Nat) (hx : a.eval x = .pointer (some ⟨g, 0, none⟩)) (N : Nat) (f : Nat → Value) (t : TypeId) (hG : Has w g t (tab N f)) (d : TypeDesc) (hu : P.underlying ty = some d) (hd : d.isRow = true) (hi : (P.info? ty).map (·.size) = some N)
    (h : wpList P ops Q rest (a.put op.dst (.agg (tab N f))) w) : wpList P ops Q (op :: rest) a w := by
  have hr : w.rangeAt g 0 ((List.range N).map f) := by
    have := hG.range 0 N (by omega)
    simpa using this
  have hl := run_loadVar_mid (P := P) w g 0 ty _ d hr hu hd (by simpa using hi)
  refine wpList_plain hgd fun K hK => ?_
  unfold Oper.wp execOp
  simp only [ho, hx, Instr.loadAt, Instr.sureAddr, Sem.run_bind, Sem.run_pure, Result.andThen_ok, hl]
  exact hK _ _ h
end Go.Proofs.YtgpofoggfifnjaaGreatDoor
namespace Go.Proofs.YtgpofoggfifnjaaGreatDoor
open Go Go.RowKit

theorem bitsN_bit (w a b j : Nat) : (bitsN w a b).testBit j = (decide (j < a - b + 1) && w.testBit (b + j)) := by
  unfold bitsN
  rw [Nat.testBit_mod_two_pow, Nat.testBit_div_two_pow, Nat.add_comm j b]
/-- w with the bits a to b replaced by the lowest of x -/
def withN (w a b x : Nat) : Nat := (w &&& (4294967295 ^^^ (2 ^ (a - b + 1) - 1) * 2 ^ b)) ||| ((x * 2 ^ b % 4294967296) &&& (2 ^ (a - b + 1) - 1) * 2 ^ b)
theorem mask_bit (s b i : Nat) : ((2 ^ s - 1) * 2 ^ b).testBit i = (decide (b ≤ i) && decide (i - b < s)) := by
  rw [Nat.testBit_mul_two_pow, Nat.testBit_two_pow_sub_one]
theorem ones_bit (i : Nat) : (4294967295 : Nat).testBit i = decide (i < 32) := by
  rw [show (4294967295 : Nat) = 2 ^ 32 - 1 from rfl, Nat.testBit_two_pow_sub_one]
theorem bit_high {w : Nat} (hw : w < 4294967296) {i : Nat} (hi : 32 ≤ i) : w.testBit i = false :=
  Nat.testBit_lt_two_pow (Nat.lt_of_lt_of_le (show w < 2 ^ 32 from hw) (Nat.pow_le_pow_right (by decide) hi))
theorem with_bit (w a b x i : Nat) (hb : b ≤ a) (_ha : a ≤ 31) (hi : i < 32) : (withN w a b x).testBit i = if b ≤ i ∧ i ≤ a then x.testBit (i - b) else w.testBit i := by
  unfold withN
  rw [Nat.testBit_or, Nat.testBit_and, Nat.testBit_xor, Nat.testBit_and, mask_bit, ones_bit, show (4294967296 : Nat) = 2 ^ 32 from rfl, Nat.testBit_mod_two_pow, Nat.testBit_mul_two_pow]
  by_cases h : b ≤ i ∧ i ≤ a
  · rw [if_pos h]
    have h1 : i - b < a - b + 1 := by omega
    simp [h.1, h1, hi]
  · rw [if_neg h]
    have h1 : (decide (b ≤ i) && decide (i - b < a - b + 1)) = false := by
      by_cases hb2 : b ≤ i
      · have : ¬ i - b < a - b + 1 := by omega
        simp [this]
      · simp [hb2]
    rw [h1]
    simp [hi]
theorem with_lt (w a b x : Nat) (hw : w < 4294967296) : withN w a b x < 4294967296 := by
  unfold withN
  have h1 : x * 2 ^ b % 4294967296 < 4294967296 := Nat.mod_lt _ (by decide)
  exact Nat.or_lt_two_pow (n := 32) (Nat.lt_of_le_of_lt Nat.and_le_left hw) (Nat.lt_of_le_of_lt Nat.and_le_left h1)
theorem bit_div (x c i : Nat) : (x / 2 ^ c).testBit i = x.testBit (c + i) := by
  rw [Nat.testBit_div_two_pow, Nat.add_comm]
theorem one_bit (x k i j : Nat) : (x / 2 ^ k % 2 * 2 ^ i).testBit j = (decide (j = i) && x.testBit k) := by
  rw [Nat.testBit_mul_two_pow]
  by_cases h : j = i
  · subst h
    simp only [Nat.le_refl, decide_true, Bool.true_and, Nat.sub_self]
    rw [show x / 2 ^ k % 2 = x / 2 ^ k % 2 ^ 1 from rfl, Nat.testBit_mod_two_pow, bit_div]
    simp
  · have e : decide (j = i) = false := decide_eq_false h
    rw [e, show x / 2 ^ k % 2 = x / 2 ^ k % 2 ^ 1 from rfl, Nat.testBit_mod_two_pow]
    by_cases h2 : i ≤ j
    · have : ¬ j - i < 1 := by omega
      simp [this]
    · simp [h2]
/-- the bit that bit i of a word with a number put is -/
theorem setN_bit (f : Fm) (w x : Nat) (i : Nat) (hi : i < 32) : ∀ n, n ≤ 32 → (setN f w x n).testBit i = if i < n then (match bitK f i with | none => w.testBit i | some k => x.testBit k) else w.testBit i
  | 0, _ => by simp [setN]
  | n + 1, hn => by
    have ih := setN_bit f w x i hi n (by omega)
    cases hb : bitK f n with
    | none =>
      rw [setN_none hb, ih]
      by_cases h1 : i < n
      · rw [if_pos h1, if_pos (by omega)]
      · rw [if_neg h1]
        by_cases h2 : i = n
        · subst h2; rw [if_pos (by omega), hb]
        · rw [if_neg (by omega)]
    | some k =>
      rw [setN_some hb, Nat.testBit_or, Nat.testBit_and, Nat.testBit_xor, ones_bit, one_bit, Nat.testBit_two_pow, ih]
      by_cases h2 : i = n
      · subst h2
        rw [if_neg (by omega), if_pos (by omega), hb]
        simp [hi]
      · have e1 : decide (i = n) = false := decide_eq_false h2
        have e2 : decide (n = i) = false := decide_eq_false (fun e => h2 e.symm)
        rw [e1, e2]
        by_cases h1 : i < n
        · rw [if_pos h1, if_pos (by omega)]; simp [hi]
        · rw [if_neg h1, if_neg (by omega)]; simp [hi]
theorem eq_bits {x y : Nat} (hx : x < 4294967296) (hy : y < 4294967296) (h : ∀ i, i < 32 → x.testBit i = y.testBit i) : x = y := by
  refine Nat.eq_of_testBit_eq fun i => ?_
  by_cases hi : i < 32
  · exact h i hi
  · rw [bit_high hx (by omega), bit_high hy (by omega)]
/-- the program's Set of each form -/
def setL (f : Fm) (w x : Nat) : Nat :=
  match f with
  | .I => withN w 31 20 x
  | .S => withN (withN w 31 25 (x / 2 ^ 5)) 11 7 x
  | .B => withN (withN (withN (withN w 31 31 (x / 2 ^ 12)) 7 7 (x / 2 ^ 11)) 30 25 (x / 2 ^ 5)) 11 8 (x / 2 ^ 1)
  | .U => withN w 31 12 (x / 2 ^ 12)
  | .J => withN (withN (withN (withN w 31 31 (x / 2 ^ 20)) 19 12 (x / 2 ^ 12)) 20 20 (x / 2 ^ 11)) 30 21 (x / 2 ^ 1)
  | _ => w
def inBt (a b i : Nat) : Bool := decide (b ≤ i) && decide (i ≤ a)
def srcL (f : Fm) (i : Nat) : Option Nat :=
  match f with
  | .I => bif inBt 31 20 i then some (i - 20) else none
  | .S => bif inBt 11 7 i then some (i - 7) else bif inBt 31 25 i then some (5 + (i - 25)) else none
  | .B => bif inBt 11 8 i then some (1 + (i - 8)) else bif inBt 30 25 i then some (5 + (i - 25)) else bif inBt 7 7 i then some (11 + (i - 7)) else bif inBt 31 31 i then some (12 + (i - 31)) else none
  | .U => bif inBt 31 12 i then some (12 + (i - 12)) else none
  | .J => bif inBt 30 21 i then some (1 + (i - 21)) else bif inBt 20 20 i then some (11 + (i - 20)) else bif inBt 19 12 i then some (12 + (i - 12)) else bif inBt 31 31 i then some (20 + (i - 31)) else none
  | _ => none
theorem with_bitB (w a b x i : Nat) (hb : b ≤ a) (ha : a ≤ 31) (hi : i < 32) : (withN w a b x).testBit i = bif inBt a b i then x.testBit (i - b) else w.testBit i := by
  rw [with_bit w a b x i hb ha hi]
  unfold inBt
  by_cases h : b ≤ i ∧ i ≤ a
  · rw [if_pos h]; simp [h.1, h.2]
  · rw [if_neg h]
    by_cases h1 : b ≤ i
    · have h2 : ¬ i ≤ a := fun h2 => h ⟨h1, h2⟩
      simp [h2]
    · simp [h1]
theorem srcL_is : ∀ f : Fm, f = .I ∨ f = .S ∨ f = .B ∨ f = .U ∨ f = .J → ∀ i, i < 32 → srcL f i = bitK f i := by
  intro f hf
  rcases hf with rfl | rfl | rfl | rfl | rfl <;> decide +kernel
theorem setL_bit (f : Fm) (hf : f = .I ∨ f = .S ∨ f = .B ∨ f = .U ∨ f = .J) (w x i : Nat) (hi : i < 32) : (setL f w x).testBit i = (match srcL f i with | none => w.testBit i | some k => x.testBit k) := by
  rcases hf with rfl | rfl | rfl | rfl | rfl <;> (
    unfold setL srcL
    dsimp only
    repeat rw [with_bitB _ _ _ _ _ (by decide) (by decide) hi]
    try simp only [bit_div]
    repeat (first
      | rfl
      | (generalize inBt _ _ i = q; cases q)
      ))
theorem setL_lt (f : Fm) (w x : Nat) (hw : w < 4294967296) : setL f w x < 4294967296 := by
  cases f <;> (unfold setL; dsimp only; repeat (first | exact hw | refine with_lt _ _ _ _ ?_))
/-- a form's number in a word, as a word -/
def immU (f : Fm) (w : Nat) : Nat := (immZ f w % 4294967296).toNat
/-- a number of n bits, with its sign, as a word -/
def sgnU (x n : Nat) : Nat := if x / 2 ^ (n - 1) = 1 then 4294967296 + x - 2 ^ n else x
theorem sgnU_is (x n : Nat) (_hn : 1 ≤ n) (hn2 : n ≤ 32) (hx : x < 2 ^ n) : (sgnZ x n % 4294967296).toNat = sgnU x n := by
  unfold sgnZ sgnU
  have h2 : (2 : Nat) ^ n ≤ 2 ^ 32 := Nat.pow_le_pow_right (by decide) hn2
  have e : (2 : Int) ^ n = ((2 ^ n : Nat) : Int) := by rw [Int.natCast_pow]; rfl
  have e3 : (2 : Nat) ^ 32 = 4294967296 := by decide
  by_cases h : x / 2 ^ (n - 1) = 1
  · rw [if_pos h, if_pos h, e]
    have hp := Nat.two_pow_pos (n - 1)
    have hx0 : 0 < x := by
      rcases Nat.eq_zero_or_pos x with h0 | h0
      · rw [h0, Nat.zero_div] at h; cases h
      · exact h0
    generalize (2 : Nat) ^ n = q at *
    omega
  · rw [if_neg h, if_neg h]
    generalize (2 : Nat) ^ n = q at *
    omega
end Go.Proofs.YtgpofoggfifnjaaGreatDoor
namespace Go.Proofs.YtgpofoggfifnjaaGreatDoor
open Go Go.RowKit

/-- an instruction of the program -/
def insA (i a b c : Int) (n : Int) : Nat → Value
  | 0 => .int .i64 i
  | 1 => .int .i64 a
  | 2 => .int .i64 b
  | 3 => .int .i64 c
  | _ => .int .u32 n
end Go.Proofs.YtgpofoggfifnjaaGreatDoor
namespace Go.Proofs.YtgpofoggfifnjaaGreatDoor
open Go Go.RowKit

theorem putM_nil (m : Nat → UInt8) (k : Nat) : putM m k [] = m := by
  funext j
  unfold putM
  rw [if_neg (by rw [List.length_nil]; omega)]
theorem putM_snoc (m : Nat → UInt8) (k i : Nat) (bs : List UInt8) (h : i < bs.length) : putM m k (bs.take (i + 1)) = setY (putM m k (bs.take i)) (k + i) (bs.getD i 0) := by
  funext j
  unfold setY putM
  have h1 : (bs.take (i + 1)).length = i + 1 := by rw [List.length_take]; omega
  have h2 : (bs.take i).length = i := by rw [List.length_take]; omega
  rw [h1, h2]
  by_cases hj : j = k + i
  · subst hj
    rw [if_pos (by omega), if_pos rfl, show k + i - k = i by omega]
    simp [List.getD_eq_getElem?_getD]
  · rw [if_neg hj]
    by_cases hj2 : k ≤ j ∧ j < k + i
    · rw [if_pos (by omega), if_pos hj2]
      simp [List.getD_eq_getElem?_getD, show j - k < i by omega, show j - k < i + 1 by omega]
    · rw [if_neg (by omega), if_neg hj2]
set_option maxRecDepth 100000 in
set_option maxHeartbeats 1000000 in
theorem rput_any' (m : Nat → UInt8) (r mb c a : Nat) (A : Option Addr) (n cap : Nat) (bs : List UInt8) (w : World) (hR : RefP w r mb m c) (ha : a < 4294967296) (hS : SlA w A n cap bs) (hin : inR a n = true) (hc : c ≤ 900000)
    (hne : ∀ b o s, A = some ⟨b, o, s⟩ → 0 < n → b ≠ mb) :
    Calls Tryz.prog 43 #[mP r, .int .i64 (a : Int), .slice A n cap] w fun e w' => e = .returned (.bool true) ∧ RefP w' r mb (putM m (a - 2147483648) bs) (c + n) ∧ w.grownBy w' (some mb) := by
  have h1 := of_decide_eq_true hin
  have kH := fun w => rhas_any a n w ha (by omega)
  have HI : Hid (2147483648 ≤ a ∧ a + n ≤ 2147549184) := Lib.hid (by omega)
  have hl := hS.1
  have hrne := hR.2.has_ne hR.1
  simp only [hin] at kH
  have HNE := Lib.hid hne
  clear h1 hin hne
  go_enter Tryz.func43, Tryz.ntmps43
  go_wp2_with (refine (kH _).mono ?_; rintro e w' ⟨rfl, rfl⟩)
  go_loopw [7] (fun ct wr => ∃ i : Nat, i ≤ n ∧ ct = .int .i64 (i : Int) ∧ RefP wr r mb (putM m (a - 2147483648) (bs.take i)) (c + i) ∧ SlA wr A n cap bs ∧ w.grownBy wr (some mb)) (fun ct _ => (n - (intOf ct)).toNat)
  case atStart => exact ⟨0, Nat.zero_le _, rfl, by rw [List.take_zero, putM_nil]; exact hR, hS, World.grownBy.refl _ _⟩
  case round =>
    obtain ⟨i, hi, rfl, hR1, hS1, hgr⟩ := hrel
    by_cases hlt : i < n
    · have di : (i : Int) < (n : Int) := by omega
      have hc0 : wr.cell? ⟨r, 0, none⟩ = some (.map (some mb)) := hR1.1.cell 0
      have hi2 := HI.out
      obtain ⟨b, o, rfl, hbl, hcell⟩ := hS1.2.2 (by omega)
      have hci := hcell i hlt
      have hbm := HNE.out b o none rfl (by omega)
      have hai : (a : Int) + (i : Int) < 4294967296 := by omega
      have hps := putM_snoc m (a - 2147483648) i bs (by omega)
      rw [show a - 2147483648 + i = a + i - 2147483648 by omega] at hps
      have HP := Lib.hid hps
      have HR := Lib.hid hR1
      have HS := Lib.hid hS1
      have HG := Lib.hid hgr
      have HA : Hid (isA (a + i)) := Lib.hid ⟨by omega, by omega⟩
      have hcc : c + i ≤ 1000000 := by omega
      have hwr : IntKind.i64.wrap ((a : Int) + (i : Int)) = (a : Int) + (i : Int) := IntWalk.i64_in _ (by omega)
      generalize bs.getD i 0 = y at *
      unfold by8 at hci
      clear hS1 hcell hgr hi2 hps hR1
      go_upto_region 6 with fail
      refine region_quiet_tail (fun w' => ∃ n, w' = wr.drewN n) 11 (by kernel_rfl) (by kernel_rfl) ⟨1, rfl⟩ ?_
      simp only [List.take_succ_cons, List.take_zero, List.drop_succ_cons, List.drop_zero]
      repeat (quiet_step (fail))
      refine wpQuiet_nil ?_
      rintro w' ⟨nq, rfl⟩
      have hM : MpM (wr.drewN nq) mb (putM m (a - 2147483648) (bs.take i)) (c + i) := HR.out.2.kept (only_drewN _ _ none) (by simp)
      go_wp2_with (
        refine wp_mapset rfl _ _ _ rfl rfl hM (a + i) y rfl rfl HA.out hcc ?_
        intro w2 hM2 hgr2
        go_frame)
      go_roundw
      case rel =>
        have hg3 : wr.grownBy w2 (some mb) := only_trans (only_drewN wr nq _) hgr2
        refine ⟨i + 1, hlt, by go_num, ⟨has_grown HR.out.1 hg3 (fun l e => by injection e with e; omega), ?_⟩, HS.out.grown hg3 (fun b' o' e _ e2 => ?_), only_trans HG.out hg3⟩
        · rw [HP.out]
          exact hM2
        · injection e with e; injection e with e _ _
          injection e2 with e2
          omega
      case measure => simp [intOf] <;> omega
    · obtain rfl : i = n := by omega
      rw [List.take_of_length_le (by omega)] at hR1
      go_wp2_with fail
      go_ret
      exact ⟨rfl, hR1, hgr⟩
set_option maxRecDepth 100000 in
set_option maxHeartbeats 1000000 in
theorem rput_far (v : Value) (a : Nat) (A : Option Addr) (n cap : Nat) (w : World) (ha : a < 4294967296) (hn : n < 4611686018427387904) (hin : inR a n = false) :
    Calls Tryz.prog 43 #[v, .int .i64 (a : Int), .slice A n cap] w fun e w' => e = .returned (.bool false) ∧ w = w' := by
  have kH := fun w => rhas_any a n w ha hn
  simp only [hin] at kH
  go_enter Tryz.func43, Tryz.ntmps43
  go_wp2_with (refine (kH _).mono ?_; rintro e w' ⟨rfl, rfl⟩)
  go_ret
  exact ⟨rfl, rfl⟩
set_option maxRecDepth 100000 in
set_option maxHeartbeats 1000000 in
theorem rstore_wid (v : Value) (a x : Int) (n : Int) (w : World) (hn : widB n = false) :
    Calls Tryz.prog 22 #[v, .int .i64 a, .int .i64 n, .int .i64 x] w fun e w' => e = .returned (.bool false) ∧ w = w' := by
  have h1 := of_decide_eq_false hn
  have d1 : (n != 1) = true := by simp; omega
  have d2 : (n != 2) = true := by simp; omega
  have d4 : (n != 4) = true := by simp; omega
  clear h1 hn
  go_enter Tryz.func22, Tryz.ntmps22
  go_wp2_with fail
  go_ret
  exact ⟨rfl, rfl⟩
set_option maxRecDepth 100000 in
set_option maxHeartbeats 1000000 in
/-- Store by what Put answers -/
theorem rstore_by (v : Value) (a x : Nat) (n : Nat) (b : Bool) (w : World) (hn : n = 1 ∨ n = 2 ∨ n = 4) (_hx : x < 4294967296) (Q : World → World → Prop)
    (kP : ∀ (A : Option Addr) (c : Nat) (w1 : World), Below w.heap.size w w1 → SlA w1 A n c (leB n x) → (∀ b o s, A = some ⟨b, o, s⟩ → 0 < n → w.heap.size ≤ b) → Calls Tryz.prog 43 #[v, .int .i64 (a : Int), .slice A n c] w1 fun e w' => e = .returned (.bool b) ∧ Q w1 w') :
    Calls Tryz.prog 22 #[v, .int .i64 (a : Int), .int .i64 (n : Int), .int .i64 (x : Int)] w fun e w' => e = .returned (.bool b) ∧ ∃ w1, Below w.heap.size w w1 ∧ Q w1 w' := by
  rcases hn with rfl | rfl | rfl
  · show Calls Tryz.prog _ #[v, .int .i64 (a : Int), .int .i64 1, .int .i64 (x : Int)] w _
    go_enter Tryz.func22, Tryz.ntmps22
    go_wp2_with fail
    go_loopw [9, 10] (fun va ct wr => ∃ i : Nat, i ≤ 1 ∧ ct = .int .i64 (i : Int) ∧ wr.ownsRow w.heap.size 5 1 va i ((leB i x).map by8) ∧ Below w.heap.size w wr) (fun _ ct _ => (1 - (intOf ct)).toNat)
    case atStart => exact ⟨0, Nat.zero_le _, rfl, World.ownsRow_nil _ _ _ _, Below.refl _ _⟩
    case round =>
      obtain ⟨i, hi, rfl, hown, hb⟩ := hrel
      by_cases hlt : i < 1
      · have di : (i : Int) < 1 := by omega
        have hws := hb.size
        have HB := Lib.hid hb
        have HOWN := Lib.hid hown
        have HBT := Lib.hid (byte_at x i)
        clear hown hb
        go_wp2_with (
          refine wp_append_byte rfl _ _ rfl w.heap.size _ i _ rfl (own_after HOWN.out ((Below.refl _ _).alloc (Nat.le_refl _) _)) wr.heap.size rfl (UInt8.ofNat (x / 256 ^ i)) (((Has.new _ _ _).cell 0).trans (congrArg some HBT.out)) (by omega) (by simp; omega) ?_
          intro v' w' hown' hgr')
        go_roundw
        case rel =>
          refine ⟨i + 1, hlt, by go_num, ?_, ?_⟩
          · rw [leB_snoc, List.map_append]
            exact hown'
          · have hb1 : Below w.heap.size w (wr.alloc (.cells #[.int .u8 ((x : Int) / 2 ^ (8 * i) % 256)] 5)) := HB.out.alloc hws _
            exact below_own hb1 (own_after HOWN.out ((Below.refl _ _).alloc (Nat.le_refl _) _)) (Nat.le_refl _) hb1.size hgr'
        case measure => simp [intOf] <;> omega
      · obtain rfl : i = 1 := by omega
        obtain ⟨A, c, rfl⟩ := own_form hown
        have hS := (own_slA hown).1
        have kP1 := kP A c wr hb hS (fun b o s e _ => by subst e; exact (own_base hown).1)
        have HB := Lib.hid hb
        clear hown hS hb kP
        go_wp2_with (refine kP1.mono ?_; rintro e w2 ⟨rfl, hQ⟩)
        go_ret
        exact ⟨rfl, wr, HB.out, hQ⟩
  · show Calls Tryz.prog _ #[v, .int .i64 (a : Int), .int .i64 2, .int .i64 (x : Int)] w _
    go_enter Tryz.func22, Tryz.ntmps22
    go_wp2_with fail
    go_loopw [9, 10] (fun va ct wr => ∃ i : Nat, i ≤ 2 ∧ ct = .int .i64 (i : Int) ∧ wr.ownsRow w.heap.size 5 1 va i ((leB i x).map by8) ∧ Below w.heap.size w wr) (fun _ ct _ => (2 - (intOf ct)).toNat)
    case atStart => exact ⟨0, Nat.zero_le _, rfl, World.ownsRow_nil _ _ _ _, Below.refl _ _⟩
    case round =>
      obtain ⟨i, hi, rfl, hown, hb⟩ := hrel
      by_cases hlt : i < 2
      · have di : (i : Int) < 2 := by omega
        have hws := hb.size
        have HB := Lib.hid hb
        have HOWN := Lib.hid hown
        have HBT := Lib.hid (byte_at x i)
        clear hown hb
        go_wp2_with (
          refine wp_append_byte rfl _ _ rfl w.heap.size _ i _ rfl (own_after HOWN.out ((Below.refl _ _).alloc (Nat.le_refl _) _)) wr.heap.size rfl (UInt8.ofNat (x / 256 ^ i)) (((Has.new _ _ _).cell 0).trans (congrArg some HBT.out)) (by omega) (by simp; omega) ?_
          intro v' w' hown' hgr')
        go_roundw
        case rel =>
          refine ⟨i + 1, hlt, by go_num, ?_, ?_⟩
          · rw [leB_snoc, List.map_append]
            exact hown'
          · have hb1 : Below w.heap.size w (wr.alloc (.cells #[.int .u8 ((x : Int) / 2 ^ (8 * i) % 256)] 5)) := HB.out.alloc hws _
            exact below_own hb1 (own_after HOWN.out ((Below.refl _ _).alloc (Nat.le_refl _) _)) (Nat.le_refl _) hb1.size hgr'
        case measure => simp [intOf] <;> omega
      · obtain rfl : i = 2 := by omega
        obtain ⟨A, c, rfl⟩ := own_form hown
        have hS := (own_slA hown).1
        have kP1 := kP A c wr hb hS (fun b o s e _ => by subst e; exact (own_base hown).1)
        have HB := Lib.hid hb
        clear hown hS hb kP
        go_wp2_with (refine kP1.mono ?_; rintro e w2 ⟨rfl, hQ⟩)
        go_ret
        exact ⟨rfl, wr, HB.out, hQ⟩
  · show Calls Tryz.prog _ #[v, .int .i64 (a : Int), .int .i64 4, .int .i64 (x : Int)] w _
    go_enter Tryz.func22, Tryz.ntmps22
    go_wp2_with fail
    go_loopw [9, 10] (fun va ct wr => ∃ i : Nat, i ≤ 4 ∧ ct = .int .i64 (i : Int) ∧ wr.ownsRow w.heap.size 5 1 va i ((leB i x).map by8) ∧ Below w.heap.size w wr) (fun _ ct _ => (4 - (intOf ct)).toNat)
    case atStart => exact ⟨0, Nat.zero_le _, rfl, World.ownsRow_nil _ _ _ _, Below.refl _ _⟩
    case round =>
      obtain ⟨i, hi, rfl, hown, hb⟩ := hrel
      by_cases hlt : i < 4
      · have di : (i : Int) < 4 := by omega
        have hws := hb.size
        have HB := Lib.hid hb
        have HOWN := Lib.hid hown
        have HBT := Lib.hid (byte_at x i)
        clear hown hb
        go_wp2_with (
          refine wp_append_byte rfl _ _ rfl w.heap.size _ i _ rfl (own_after HOWN.out ((Below.refl _ _).alloc (Nat.le_refl _) _)) wr.heap.size rfl (UInt8.ofNat (x / 256 ^ i)) (((Has.new _ _ _).cell 0).trans (congrArg some HBT.out)) (by omega) (by simp; omega) ?_
          intro v' w' hown' hgr')
        go_roundw
        case rel =>
          refine ⟨i + 1, hlt, by go_num, ?_, ?_⟩
          · rw [leB_snoc, List.map_append]
            exact hown'
          · have hb1 : Below w.heap.size w (wr.alloc (.cells #[.int .u8 ((x : Int) / 2 ^ (8 * i) % 256)] 5)) := HB.out.alloc hws _
            exact below_own hb1 (own_after HOWN.out ((Below.refl _ _).alloc (Nat.le_refl _) _)) (Nat.le_refl _) hb1.size hgr'
        case measure => simp [intOf] <;> omega
      · obtain rfl : i = 4 := by omega
        obtain ⟨A, c, rfl⟩ := own_form hown
        have hS := (own_slA hown).1
        have kP1 := kP A c wr hb hS (fun b o s e _ => by subst e; exact (own_base hown).1)
        have HB := Lib.hid hb
        clear hown hS hb kP
        go_wp2_with (refine kP1.mono ?_; rintro e w2 ⟨rfl, hQ⟩)
        go_ret
        exact ⟨rfl, wr, HB.out, hQ⟩
theorem rstore_any (m : Nat → UInt8) (r mb c a x : Nat) (n : Int) (w : World) (hR : RefP w r mb m c) (ha : a < 4294967296) (hx : x < 4294967296) (hc : c ≤ 900000) :
    Calls Tryz.prog 22 #[mP r, .int .i64 (a : Int), .int .i64 n, .int .i64 (x : Int)] w fun e w' => e = .returned (.bool (stB a n)) ∧ RefP w' r mb (stM m a n x) (c + 4) ∧ w.grownBy w' (some mb) := by
  unfold stM
  cases hw : widB n with
  | false =>
    rw [show stB a n = false by unfold stB; rw [hw]; rfl]
    refine (rstore_wid _ _ _ n w hw).mono ?_
    rintro e w' ⟨rfl, rfl⟩
    exact ⟨rfl, ⟨hR.1, hR.2.more (Nat.le_add_right _ _)⟩, World.grownBy.refl _ _⟩
  | true =>
    obtain ⟨k, rfl, hk⟩ := wid_nat hw
    have hmb := hR.2.lt
    cases hi : inR a k with
    | false =>
      rw [show stB a (k : Int) = false by unfold stB; rw [hw, Int.toNat_natCast, hi]; rfl]
      refine (rstore_by (mP r) a x k false w hk hx (fun w1 w' => w1 = w') fun A c w1 hb hS _ => rput_far _ a A k c w1 ha (by omega) hi).mono ?_
      rintro e w' ⟨rfl, w1, hb, rfl⟩
      exact ⟨rfl, ⟨hR.1.after hb, (hR.2.after hb).more (Nat.le_add_right _ _)⟩, only_below hb _⟩
    | true =>
      rw [show stB a (k : Int) = true by unfold stB; rw [hw, Int.toNat_natCast, hi]; rfl, if_pos rfl, Int.toNat_natCast]
      refine (rstore_by (mP r) a x k true w hk hx (fun w1 w' => RefP w' r mb (putM m (a - 2147483648) (leB k x)) (c + k) ∧ w1.grownBy w' (some mb)) fun A cc w1 hb hS hA => rput_any' m r mb c a A k cc (leB k x) w1 (hR.after hb) ha hS hi hc (fun b o s e h0 => by have := hA b o s e h0; omega)).mono ?_
      rintro e w' ⟨rfl, w1, hb, hR2, hgr⟩
      exact ⟨rfl, ⟨hR2.1, hR2.2.more (by omega)⟩, only_trans (only_below hb _) hgr⟩
end Go.Proofs.YtgpofoggfifnjaaGreatDoor
