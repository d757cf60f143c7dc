/-
What came in, opened: arrays of integers by value; numbers.
-/
import Derived.Test.YtncjlglpocfeaaaLimE
import Derived.ProofKit
import Derived.OpenShut
import Derived.Deep.DeepHandedRow
import Derived.Lib.LaidTab
import Derived.LaidSub
namespace Go.Proofs.Ytncjlglpocfeaaa
open Go.ChangeShapes Go.WideShapes Go.ChangeAt Go.RowKit

theorem own : ownKnob Try.prog.godebug = none := by kernel_rfl
theorem laidOut : laidOutB Try.prog = true := by kernel_rfl
/-- an array of integers, by value -/
theorem came_array {H : Type} {enc : TypeId × Value → H} {P : Program} {W : World} {base : Nat} {t e : TypeId} {n : Nat} {k : IntKind} {v : Value} {d : DataW H} {p : List MemPlace}
    (ht : P.underlying t = some (.array n e)) (he : P.underlying e = some (.int k)) (hce : P.cellsOf e = 1) (hct : P.cellsOf t = n) (hv : Value.okWide P W .any base t v)
    (h : DataW.Trod enc P W 0 (fun _ => true) true t v d p) : ∃ f : Nat → Int, v = .agg (tab n fun j => .int k (f j)) ∧ ∀ j, j < n → (Lit.int k (f j)).wf = true := by
  obtain ⟨cs, rfl, hsz, _⟩ : ∃ cs, v = .agg cs ∧ cs.size = P.cellsOf t ∧ Row.okWide P W .any base t cs := by simpa [Value.okWide, ht] using hv
  rw [hct] at hsz
  obtain ⟨fuel, hf⟩ := h
  obtain ⟨xs, m, rfl, hx, hl, hn, hel⟩ := DataW.trod_array ht hf
  have hi : ∀ j, j < n → ∃ z, cs[j]? = some (.int k z) ∧ (Lit.int k z).wf = true := fun j hj => by
    have h1 := hel j hj
    have hjx : j < xs.length := by omega
    rw [List.getElem?_eq_getElem hjx] at h1
    obtain ⟨z, hc, _, hw⟩ := DataW.trod_int he h1
    refine ⟨z, ?_, hw⟩
    have h2 := congrArg (·[0]?) hc
    simpa [List.getElem?_take, List.getElem?_drop, hce, Value.cells] using h2
  refine ⟨fun j => if h : j < n then Classical.choose (hi j h) else 0, ?_, fun j hj => ?_⟩
  · congr 1
    apply Array.ext_getElem?
    intro j
    by_cases hj : j < n
    · rw [(Classical.choose_spec (hi j hj)).1, tab_get n _ j hj]
      dsimp only
      rw [dif_pos hj]
    · rw [Array.getElem?_eq_none (by omega), Array.getElem?_eq_none (by rw [tab_size]; omega)]
  · simp only [dif_pos hj]
    exact (Classical.choose_spec (hi j hj)).2
theorem cellsNum : Try.prog.cellsOf 24 = 8 := by kernel_rfl
theorem cells32 : Try.prog.cellsOf 22 = 1 := by kernel_rfl
/-- a number -/
theorem came_num {H : Type} {enc : TypeId × Value → H} {W : World} {base : Nat} {v : Value} {d : DataW H} {p : List MemPlace} (hv : Value.okWide Try.prog W .any base 24 v)
    (h : DataW.Trod enc Try.prog W 0 (fun _ => true) true 24 v d p) : ∃ x, x < big ∧ v = .agg (nums x) := by
  obtain ⟨f, rfl, hw⟩ := came_array Try.underlying24 Try.underlying22 cells32 cellsNum hv h
  have hb : ∀ j, j < 8 → 0 ≤ f j ∧ f j < 4294967296 := fun j hj => by
    have := hw j hj
    have h2 : 0 ≤ f j ∧ f j ≤ 4294967295 := by simpa [Lit.wf, IntKind.min, IntKind.max, IntKind.signed, IntKind.bits] using this
    omega
  obtain ⟨x, hx, hd⟩ := digits_of (B := 4294967296) (by decide) (fun j => (f j).toNat) 8 (fun j hj => by have := hb j hj; omega)
  refine ⟨x, hx, ?_⟩
  congr 1
  unfold nums
  apply tab_ext
  intro j hj
  unfold dgs
  rw [hd j hj]
  have := hb j hj
  rw [Int.toNat_of_nonneg this.1]
/-- a slice of bytes that came in -/
theorem came_bytes {H : Type} {enc : TypeId × Value → H} {W : World} {a : Option Addr} {len cap : Nat} {d : DataW H} {p : List MemPlace} (h : DataW.Trod enc Try.prog W 0 (fun _ => true) true 38 (.slice a len cap) d p) :
    ∃ f : Nat → Nat, (∀ j, j < len → f j < 256) ∧ SlN W a len f := by
  obtain ⟨fuel, hf⟩ := h
  rcases open_ints Try.underlying38 Try.underlying5 (by kernel_rfl) hf with ⟨hcs, _⟩ | ⟨x, l, c, zs, hcs, _, hl, _, hz, _, hcell, hwz⟩
  · simp [Value.cells] at hcs
    obtain ⟨rfl, rfl, rfl⟩ := hcs
    exact ⟨fun _ => 0, fun _ _ => Nat.zero_lt_succ _, fun h => absurd h (by omega)⟩
  · simp [Value.cells] at hcs
    obtain ⟨rfl, rfl, rfl⟩ := hcs
    have hz' : zs.length = cap := by simpa using hz
    have hb : ∀ j, j < len → 0 ≤ zs.getD j 0 ∧ zs.getD j 0 ≤ 255 := fun j hj => by
      have hm : zs[j]'(by omega) ∈ zs := List.getElem_mem _
      have hw := hwz _ hm
      have : 0 ≤ zs[j]'(by omega) ∧ zs[j]'(by omega) ≤ 255 := by simpa [Lit.wf, IntKind.min, IntKind.max, IntKind.signed, IntKind.bits] using hw
      rw [List.getD_eq_getElem?_getD, List.getElem?_eq_getElem (by omega)]
      exact this
    refine ⟨fun j => (zs.getD j 0).toNat, fun j hj => by have := hb j hj; show (zs.getD j 0).toNat < 256; omega, fun hn => ?_⟩
    obtain ⟨b, off, spot⟩ := x
    have hc := hcell 0 (by omega)
    have hspot : spot = none := by simpa [Addr.add] using World.cell?_spot hc
    subst hspot
    have hcell' : ∀ i, i < zs.length → W.cell? ⟨b, off + i, none⟩ = some (.int .u8 (zs.getD i 0)) := fun i hi => by
      have := hcell i hi
      rwa [Addr.add_mid] at this
    refine ⟨b, off, rfl, block_lt_of_cell (hcell' 0 (by omega)), fun j hj => ?_⟩
    rw [hcell' j (by omega), Int.toNat_of_nonneg (hb j hj).1]
/-- 32 bytes are a number's -/
theorem bytes_num (f : Nat → Nat) (hf : ∀ j, j < 32 → f j < 256) : ∃ y, y < big ∧ ∀ j, j < 32 → byB y j = f j := by
  obtain ⟨y, hy, hd⟩ := digits_of (B := 256) (by decide) (fun j => f (31 - j)) 32 (fun j hj => hf _ (by omega))
  refine ⟨y, hy, fun j hj => ?_⟩
  unfold byB
  rw [hd (31 - j) (by omega), show 31 - (31 - j) = j by omega]
/-- a world for the witnesses -/
noncomputable def plainWorld (os : Os) : World := World.holding Try.prog os ⟨#[], #[], []⟩
/-- 0, as it comes in -/
def zeroIn : Value := .agg #[.int .u32 0, .int .u32 0, .int .u32 0, .int .u32 0, .int .u32 0, .int .u32 0, .int .u32 0, .int .u32 0]
end Go.Proofs.Ytncjlglpocfeaaa
