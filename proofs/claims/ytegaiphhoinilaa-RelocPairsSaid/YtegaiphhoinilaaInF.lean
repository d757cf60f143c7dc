/-
Layer 11: the reference's Decode.
-/
import Derived.Test.YtegaiphhoinilaaJIn
import Derived.Test.YtegaiphhoinilaaInE
import Derived.Deep.DeepCutAuto
namespace Go.Proofs.Ytegaiphhoinilaa
open Go Go.RowKit

/-- the word is of operation i -/
def mtchB (w i : Nat) : Bool := decide (w &&& maskN (opP i).1 = (opP i).2)
/-- the word's operation: the first that it is of, or 0 -/
def opOf (w : Nat) : Nat := ((List.range 57).find? (fun i => decide (1 ≤ i) && mtchB w i)).getD 0
theorem opOf_some {w i : Nat} (h1 : 1 ≤ i) (hi : i < 57) (hm : mtchB w i = true) (hn : ∀ j, 1 ≤ j → j < i → mtchB w j = false) : opOf w = i := by
  unfold opOf
  have h : (List.range 57).find? (fun i => decide (1 ≤ i) && mtchB w i) = some i := by
    rw [List.find?_range_eq_some]
    refine ⟨by simp [h1, hm], List.mem_range.2 hi, fun j hj => ?_⟩
    by_cases hj1 : 1 ≤ j
    · simp [hn j hj1 hj]
    · simp [hj1]
  rw [h]; rfl
theorem opOf_none {w : Nat} (hn : ∀ j, 1 ≤ j → j < 57 → mtchB w j = false) : opOf w = 0 := by
  unfold opOf
  have h : (List.range 57).find? (fun i => decide (1 ≤ i) && mtchB w i) = none := by
    rw [List.find?_eq_none]
    intro j hj
    by_cases hj1 : 1 ≤ j
    · simp [hn j hj1 (List.mem_range.1 hj)]
    · simp [hj1]
  rw [h]; rfl
def rdB : Fm → Bool
  | .U | .J | .I | .R | .T | .C | .Z => true
  | _ => false
def r1B : Fm → Bool
  | .I | .B | .S | .R | .T | .C | .Z => true
  | _ => false
def r2B : Fm → Bool
  | .B | .S | .R => true
  | _ => false
/-- the fields of a word of operation i and form f -/
def decF (w i : Nat) (f : Fm) : Nat → Value
  | 0 => .int .i64 (i : Int)
  | 1 => .int .i64 ((if rdB f then bitsN w 11 7 else 0 : Nat) : Int)
  | 2 => .int .i64 ((if r1B f then bitsN w 19 15 else 0 : Nat) : Int)
  | 3 => .int .i64 ((if r2B f then bitsN w 24 20 else 0 : Nat) : Int)
  | _ => .int .i64 (immZ f w)
def decV (w i : Nat) : Nat → Value := decF w i (opP i).1
theorem decV_zero (w : Nat) : tab 5 (decV w 0) = tab 5 (fun _ => .int .i64 0) := tab_ext _ _ _ fun j hj => by
  match j, hj with
  | 0, _ => rfl
  | 1, _ => rfl
  | 2, _ => rfl
  | 3, _ => rfl
  | 4, _ => rfl
theorem decF_one (x i : Nat) (f : Fm) : ∀ j, (decF x i f j).oneCell' = true
  | 0 => rfl
  | 1 => rfl
  | 2 => rfl
  | 3 => rfl
  | _ + 4 => rfl
/-- the same with the number apart -/
def decGi (w i : Nat) (f : Fm) (z : Int) : Nat → Value
  | 0 => .int .i64 (i : Int)
  | 1 => .int .i64 ((if rdB f then bitsN w 11 7 else 0 : Nat) : Int)
  | 2 => .int .i64 ((if r1B f then bitsN w 19 15 else 0 : Nat) : Int)
  | 3 => .int .i64 ((if r2B f then bitsN w 24 20 else 0 : Nat) : Int)
  | _ => .int .i64 z
theorem decG_imm (w i : Nat) (f : Fm) : decGi w i f (immZ f w) = decF w i f := funext fun j => by
  match j with
  | 0 => rfl
  | 1 => rfl
  | 2 => rfl
  | 3 => rfl
  | _ + 4 => rfl
theorem decG_one (x i : Nat) (f : Fm) (z : Int) : ∀ j, (decGi x i f z j).oneCell' = true
  | 0 => rfl
  | 1 => rfl
  | 2 => rfl
  | 3 => rfl
  | _ + 4 => rfl
/-- what stands in the instruction at first -/
def st0 (i : Nat) (z : Int) : Nat → Value
  | 0 => .int .i64 (i : Int)
  | 4 => .int .i64 z
  | _ => .int .i64 0
theorem st0_one (i : Nat) (z : Int) : ∀ j, (st0 i z j).oneCell' = true := fun j => by
  unfold st0; split <;> rfl
theorem has_to {W : World} {g : Nat} {t : TypeId} {cs cs' : Array Value} (h : Has W g t cs) (e : cs = cs') : Has W g t cs' := e ▸ h
theorem i64_and_nat (a b : Nat) (ha : a < 4294967296) (hb : b < 4294967296) : bits .and .i64 (a : Int) (b : Int) = ((a &&& b : Nat) : Int) := by
  have hx : a &&& b ≤ a := Nat.and_le_left
  show IntKind.i64.wrap ((BitVec.ofInt 64 (a : Int) &&& BitVec.ofInt 64 (b : Int)).toNat : Int) = _
  rw [BitVec.toNat_and, ofInt_u64 a (by omega), ofInt_u64 b (by omega), IntWalk.i64_in _ (by omega)]
theorem size_alloc1 (w : World) (o : Obj) : (w.alloc o).heap.size = w.heap.size + 1 := Array.size_push _
theorem below_fin {a b c : World} {g : Nat} (k : b.grownBy c (some g)) (h : Below a.heap.size a b) (hg : a.heap.size ≤ g) : Below a.heap.size a c := below_only h k hg h.size
theorem tab5_all {u v : Nat → Value} : tab 5 (fun j => if 0 ≤ j ∧ j < 0 + 5 then v (j - 0) else u j) = tab 5 v := tab_ext _ _ _ fun j hj => by rw [if_pos ⟨Nat.zero_le _, by omega⟩, Nat.sub_zero]
theorem wp_load_tabI {P : Program} {w : World} {ops : Array Oper} {rest : List Oper} {op : Oper} {a : Act} {Q : Exit → Act → World → Prop} (hgd : op.guard = none) (ty : TypeId) (x : Operand) (ho : op.op = .load ty x)
    (g : Nat) (hx : a.eval x = .pointer (some ⟨g, 0, none⟩)) (N : Nat) (f : Nat → Value) (t : TypeId) (hG : Has w g t (tab N f)) (d : TypeDesc) (hu : P.underlying ty = some d) (hd : d.isRow = true) (hi : (P.info? ty).map (·.size) = some N)
    (h : wpList P ops Q rest (a.put op.dst (.agg (tab N f))) w) : wpList P ops Q (op :: rest) a w := by
  have hr : w.rangeAt g 0 ((List.range N).map f) := by
    have := hG.range 0 N (by omega)
    simpa using this
  have hl := run_loadVar_mid (P := P) w g 0 ty _ d hr hu hd (by simpa using hi)
  refine wpList_plain hgd fun K hK => ?_
  unfold Oper.wp execOp
  simp only [ho, hx, Instr.loadAt, Instr.sureAddr, Sem.run_bind, Sem.run_pure, Result.andThen_ok, hl]
  exact hK _ _ h
theorem maskN_lt (f : Fm) : maskN f < 4294967296 := by cases f <;> decide
end Go.Proofs.Ytegaiphhoinilaa
