/-
Layer 11: the reference's Encode, plain: the word that it makes.
-/
import Derived.Test.YtghfbdkfibbhoaaDoorInH
namespace Go.Proofs.YtghfbdkfibbhoaaDoor
open Go Go.RowKit

/-- the word with its registers' numbers -/
def regR (f : Fm) (W a b c : Nat) : Nat :=
  let w1 := if rdB f then W ||| a * 128 else W
  let w2 := if r1B f then w1 ||| b * 32768 else w1
  if r2B f then w2 ||| c * 1048576 else w2
/-- the word that the reference makes -/
def encR (f : Fm) (W a b c n : Nat) : Nat :=
  match f with
  | .T => regR f W a b c ||| n % 32 * 1048576
  | .C | .Z => regR f W a b c ||| n % 4096 * 1048576
  | .R | .N | .F | .O => regR f W a b c
  | _ => setN f (regR f W a b c) n 32
theorem or_lt32 (x y : Nat) (hx : x < 4294967296) (hy : y < 4294967296) : x ||| y < 4294967296 := Nat.or_lt_two_pow (n := 32) hx hy
theorem ite_lt' {p : Prop} [Decidable p] {a b n : Nat} (ha : a < n) (hb : b < n) : (if p then a else b) < n := by split <;> assumption
theorem regR_lt (f : Fm) (W a b c : Nat) (hW : W < 4294967296) (ha : a ≤ 31) (hb : b ≤ 31) (hc : c ≤ 31) : regR f W a b c < 4294967296 := by
  unfold regR
  dsimp only
  have h2 : (if rdB f then W ||| a * 128 else W) < 4294967296 := ite_lt' (or_lt32 _ _ hW (by omega)) hW
  generalize (if rdB f = true then W ||| a * 128 else W) = w2 at *
  have h3 : (if r1B f then w2 ||| b * 32768 else w2) < 4294967296 := ite_lt' (or_lt32 _ _ h2 (by omega)) h2
  generalize (if r1B f = true then w2 ||| b * 32768 else w2) = w3 at *
  exact ite_lt' (or_lt32 _ _ h3 (by omega)) h3
theorem encR_lt (f : Fm) (W a b c n : Nat) (hW : W < 4294967296) (ha : a ≤ 31) (hb : b ≤ 31) (hc : c ≤ 31) : encR f W a b c n < 4294967296 := by
  have h := regR_lt f W a b c hW ha hb hc
  cases f <;> (unfold encR; dsimp only) <;> first | exact h | exact setN_lt _ _ _ h 32 (Nat.le_refl _) | exact or_lt32 _ _ h (by omega)
theorem and31 (n : Nat) : bits .and .i64 (n : Int) 31 = ((n % 32 : Nat) : Int) := by
  have h := i64_and_mask (n : Int) 5 (by decide)
  have e : (n : Int) % ((2 ^ 5 : Nat) : Int) = ((n % 32 : Nat) : Int) := by rw [Int.natCast_emod]
  rw [← e]; exact h
theorem and4095 (n : Nat) : bits .and .i64 (n : Int) 4095 = ((n % 4096 : Nat) : Int) := by
  have h := i64_and_mask (n : Int) 12 (by decide)
  have e : (n : Int) % ((2 ^ 12 : Nat) : Int) = ((n % 4096 : Nat) : Int) := by rw [Int.natCast_emod]
  rw [← e]; exact h
theorem and32 (z : Int) : bits .and .i64 z 4294967295 = z % 4294967296 := i64_and_mask z 32 (by decide)
theorem or_reg (W a m : Nat) (hW : W < 4294967296) (ha : a * m < 4294967296) : bits .or .i64 (W : Int) ((a : Int) * (m : Int)) = ((W ||| a * m : Nat) : Int) := by
  rw [← Int.natCast_mul]
  exact i64_or_nat _ _ hW ha
/-- the same instruction, of the reference's? -/
def eqR (i a b c n i' a' b' c' n' : Int) : Bool := i == i' && a == a' && b == b' && c == c' && n == n'
theorem run_eql_ref (i a b c n i' a' b' c' n' : Int) (W : World) (t u : Operand) :
  (do eqGuard .eql 29 t u (.agg #[.int .i64 i, .int .i64 a, .int .i64 b, .int .i64 c, .int .i64 n]) (.agg #[.int .i64 i', .int .i64 a', .int .i64 b', .int .i64 c', .int .i64 n']); binOp .eql 29 (.agg #[.int .i64 i, .int .i64 a, .int .i64 b, .int .i64 c, .int .i64 n]) (.agg #[.int .i64 i', .int .i64 a', .int .i64 b', .int .i64 c', .int .i64 n']) : Sem Value).run Tryd.prog W = .ok (.bool (eqR i a b c n i' a' b' c' n')) W := by
  go_simp
  unfold eqR
  by_cases h0 : i = i' <;> by_cases h1 : a = a' <;> by_cases h2 : b = b' <;> by_cases h3 : c = c' <;> by_cases h4 : n = n' <;> simp [h0, h1, h2, h3, h4]
theorem insR_set4 (i a b c n m : Int) : (tab 5 (insR i a b c n)).setIfInBounds 4 (.int .i64 m) = tab 5 (insR i a b c m) := rfl
theorem one_newR (w : World) (u : Array Value) (t : TypeId) : ∃ wa, wa = w.alloc (.cells u t) ∧ Has wa w.heap.size t u ∧ Below w.heap.size w wa ∧ wa.heap.size = w.heap.size + 1 :=
  ⟨_, rfl, Has.new w t u, (Below.refl _ _).alloc (Nat.le_refl _) _, size_alloc1 w _⟩
/-- is the word's decoding the instruction? -/
def encE (f : Fm) (W i a b c n : Nat) : Bool :=
  eqR (opOf (encR f W a b c n) : Nat) ((if rdB (opP (opOf (encR f W a b c n))).1 then bitsN (encR f W a b c n) 11 7 else 0 : Nat) : Int) ((if r1B (opP (opOf (encR f W a b c n))).1 then bitsN (encR f W a b c n) 19 15 else 0 : Nat) : Int) ((if r2B (opP (opOf (encR f W a b c n))).1 then bitsN (encR f W a b c n) 24 20 else 0 : Nat) : Int) (immZ (opP (opOf (encR f W a b c n))).1 (encR f W a b c n) % 4294967296) i a b c n
end Go.Proofs.YtghfbdkfibbhoaaDoor
