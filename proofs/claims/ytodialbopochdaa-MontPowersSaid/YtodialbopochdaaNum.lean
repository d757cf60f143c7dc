/-
Numbers of eight words: a number as the model's value.
-/
import Derived.Test.YtodialbopochdaaLimM
import Derived.Test.YtodialbopochdaaMem2
import Derived.WalkSpells
import Derived.WalkLawsBesides
import Derived.Outline
import Derived.Deep.QuietTactic
import Derived.BigQuiet
import Derived.BigRegion
import Derived.Lib.Hide
import Derived.IntWalk
import Derived.Laws.ResultCell
namespace Go.Proofs.Ytodialbopochdaa
open Go.RowKit

/-- one above the greatest number -/
def big : Nat := 4294967296 ^ 8
/-- a number's words -/
def nums (x : Nat) : Array Value := tab 8 (dgs .u32 4294967296 x)
/-- a number as the model's value -/
def numV (x : Nat) : Value := .agg (nums x)
def wrd (x j : Nat) : Nat := dg 4294967296 x j
theorem wrd_lt (x j : Nat) : wrd x j < 4294967296 := dg_lt (by decide) x j
theorem zeroNum : (#[Value.int IntKind.u32 0, Value.int IntKind.u32 0, Value.int IntKind.u32 0, Value.int IntKind.u32 0, Value.int IntKind.u32 0, Value.int IntKind.u32 0, Value.int IntKind.u32 0, Value.int IntKind.u32 0] : Array Value) = nums 0 := by kernel_rfl
theorem nums_at {w : World} {g x : Nat} {t : TypeId} (h : Has w g t (nums x)) (j : Nat) (hj : j < 8) : w.cell? ⟨g, j, none⟩ = some (.int .u32 ((wrd x j : Nat) : Int)) := h.cellTab j hj
theorem nums_size (x : Nat) : (nums x).size = 8 := tab_size _ _
theorem nums_set {x k : Nat} (h : k < 8) : (nums (x % 4294967296 ^ k)).setIfInBounds k (.int .u32 ((wrd x k : Nat) : Int)) = nums (x % 4294967296 ^ (k + 1)) := dgs_set (by decide) h
theorem nums_end (x : Nat) : nums (x % 4294967296 ^ 8) = nums x := dgs_mod
theorem nums_start (x : Nat) : nums (x % 4294967296 ^ 0) = nums 0 := by rw [Nat.pow_zero, Nat.mod_one]
/-- a result that lies in a block that is known whole, and one in a slot -/
theorem results_row_tmp {P : Program} {fn : Func} {p u : Tmp} {ty : TypeId} (h : fn.results = #[.cell p ty, .tmp u]) (tmps : Array Value) (w : World) (g : Nat) (t : TypeId) (cs : Array Value) (v : Value) (d : TypeDesc)
    (hp : tmps.getD p undef = .pointer (some ⟨g, 0, none⟩)) (hv : tmps.getD u undef = v) (hg : Has w g t cs)
    (hu : P.underlying ty = some d) (hd : (match d with | .struct _ | .array _ _ => true | _ => false) = true) (hi : (P.info? ty).map (·.size) = some cs.size) :
    (results fn tmps).run P w = .ok (.tuple #[.agg cs, v]) w := by
  rw [results_cell_tmp h, hp, hv]
  simp [asAddr, run_loadVar_row w g t ty cs (0, 0) d hg hu hd hi, Result.andThen]
theorem infoNum (x : Nat) : (Try.prog.info? 24).map (·.size) = some (nums x).size := by rw [nums_size]; kernel_rfl

theorem big_pos : 0 < big := by decide +kernel
theorem nums_ne (x : Nat) : ¬ nums x = #[] := fun h => by have := congrArg Array.size h; simp [nums_size] at this
theorem nums_mod (x : Nat) : nums (x % big) = nums x := nums_end x
/-- a new block, stored whole -/
theorem put_new (w : World) (t : TypeId) (cs cs' : Array Value) : Has ((w.alloc (.cells cs t)).setRow w.heap.size cs') w.heap.size t cs' ∧ Below w.heap.size w ((w.alloc (.cells cs t)).setRow w.heap.size cs') :=
  ⟨(Has.new w t cs).setRow cs', below_setRow ((Below.refl _ _).alloc (Nat.le_refl _) _) (Nat.le_refl _) _⟩
theorem Has.after {w w' : World} {g : Nat} {t : TypeId} {cs : Array Value} (h : Has w g t cs) (k : Below w.heap.size w w') : Has w' g t cs := h.below k h.lt
theorem below_trans {a b c : World} (h : Below a.heap.size a b) (k : Below b.heap.size b c) : Below a.heap.size a c := h.trans (k.mono h.size)

theorem put_at (w : World) (t : TypeId) (cs cs' : Array Value) (g : Nat) (h : g = w.heap.size) : Has ((w.alloc (.cells cs t)).setRow g cs') g t cs' ∧ Below w.heap.size w ((w.alloc (.cells cs t)).setRow g cs') := by
  subst h; exact put_new w t cs cs'

end Go.Proofs.Ytodialbopochdaa
