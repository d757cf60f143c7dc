/-
What came in, opened: slices of integers, arrays of integers; a world for witnesses.
Layer 7: manifests as plain data; how they lie in memory.
The reference of layer 6: its cursor's Take and Num, whatever the state.
Package bytes: its own calls' contracts.
Layer 7: has a manifest few parts; may a grant be.
Layer 7: may a grant be.
Layer 7: rows of grants that the call owns; when a manifest is valid.
Layer 7, the reference: when a manifest is valid.
Layer 6's reference: Put and Join; lists of bytes, lists of such lists.
Package bytes: Take, the integers.
Package bytes: the integers; what a cursor is; At.
Package bytes: what a cursor is; all its calls do what the document says.
Layer 7: rows of byte slices that the call owns; what a region that makes them keeps.
Layer 7, the reference: the encoding of a manifest.
Layer 7, plain: reading manifests from bytes; what is decoded is what was encoded, and back.
Layer 7, the reference's Decode: its cursor, its row of payloads.
Layer 7: the law's own manifest of one payload.
Layer 7, the reference: Same, of two values that read as one manifest.
Layer 7, the reference: Decode.
-/
import Derived.Test.YtgpofoggfifnjaaGreatDoorJAa
import Derived.Test.YtgpofoggfifnjaaGreatDoorJAb
import Derived.ProofKit
import Derived.OpenShut
import Derived.Deep.DeepHandedRow
import Derived.Lib.LaidTab
import Derived.LaidSub
import Derived.Deep.WholeRow
import Derived.ArgAppend
import Derived.OwnWalk
import Derived.Great.BuildSlice
import Derived.Deep.Upon
import Derived.Deep.CutBlock
import Derived.Deep.DeepCutAuto
import Derived.Laws.BytesArg
namespace Go.Proofs.YtgpofoggfifnjaaGreatDoor
open Go.ChangeShapes Go.WideShapes Go.ChangeAt Go.RowKit

theorem ownK : ownKnob Tryz.prog.godebug = none := by kernel_rfl
theorem laidOutK : laidOutB Tryz.prog = true := by kernel_rfl
theorem block_of_cell {W : World} {b o : Nat} {v : Value} (h : W.cell? ⟨b, o, none⟩ = some v) : b < W.heap.size := by
  unfold World.cell? at h
  dsimp only at h
  rcases Nat.lt_or_ge b W.heap.size with h' | h'
  · exact h'
  · rw [Array.getElem?_eq_none h'] at h
    cases h
theorem wf_u32 {z : Int} (h : (Lit.int .u32 z).wf = true) : ∃ n : Nat, z = (n : Int) ∧ n < 4294967296 := by
  have : 0 ≤ z ∧ z ≤ 4294967295 := by simpa [Lit.wf, IntKind.min, IntKind.max, IntKind.signed, IntKind.bits] using h
  exact ⟨z.toNat, by omega, by omega⟩
theorem wf_i64 {z : Int} (h : (Lit.int .i64 z).wf = true) : -9223372036854775808 ≤ z ∧ z ≤ 9223372036854775807 := by
  simpa [Lit.wf, IntKind.min, IntKind.max, IntKind.signed, IntKind.bits] using h
end Go.Proofs.YtgpofoggfifnjaaGreatDoor
namespace Go.Proofs.YtgpofoggfifnjaaGreatDoor
open Go Go.RowKit

/-- a grant -/
structure MGr where
  s : Nat
  z : Nat
  r : Int
deriving DecidableEq
/-- a payload -/
structure Pay where
  d : List UInt8
  z : Nat
  b : Nat
  gs : List MGr
  c : Int
deriving DecidableEq
def pay0 : Pay := ⟨List.replicate 32 0, 0, 0, [], 0⟩
def mi64ok (z : Int) : Prop := -9223372036854775808 ≤ z ∧ z ≤ 9223372036854775807
/-- a slice's three parts -/
structure MSl where
  A : Option Addr
  n : Nat
  c : Nat
def MSl.v (s : MSl) : Value := .slice s.A s.n s.c
/-- a grant's cells -/
def mgrV (g : MGr) : Nat → Value
  | 0 => .int .u32 (g.s : Int)
  | 1 => .int .u32 (g.z : Int)
  | _ => .int .i64 g.r
/-- n elements of k cells each lie where the slice says -/
def MSlC (w : World) (s : MSl) (k : Nat) (cs : Nat → Nat → Value) : Prop :=
  (s.n ≤ s.c ∧ s.n ≤ 140737488355328) ∧ (0 < s.n → ∃ b o, s.A = some ⟨b, o, none⟩ ∧ b < w.heap.size ∧ ∀ j i, j < s.n → i < k → w.cell? ⟨b, o + j * k + i, none⟩ = some (cs j i))
theorem MSlC.below {w w' : World} {s : MSl} {k : Nat} {cs : Nat → Nat → Value} (h : MSlC w s k cs) (hb : Below w.heap.size w w') : MSlC w' s k cs := by
  refine ⟨h.1, fun hn => ?_⟩
  obtain ⟨b, o, e, hlt, hc⟩ := h.2 hn
  exact ⟨b, o, e, Nat.lt_of_lt_of_le hlt hb.size, fun j i hj hi => (hb.cell (p := ⟨b, o + j * k + i, none⟩) hlt).trans (hc j i hj hi)⟩
/-- a variable of a type of many cells, laid and filled -/
theorem mwp_fresh {P : Program} {w : World} {ops : Array Oper} {rest : List Oper} {o1 o2 : Oper} {a : Act} {Q : Exit → Act → World → Prop} (ty : TypeId) (n : Nat) (v z : Nat → Value) (x y : Operand)
    (hg1 : o1.guard = none) (h1 : o1.op = .alloc ty) (hg2 : o2.guard = none) (h2 : o2.op = .store ty x y)
    (hz : ∀ w, (zeroValue ty).run P w = .ok (.agg (tab n z)) w) (hi : (P.info? ty).map (·.size) = some n) (_hn : 0 < n) (h1v : ∀ j, (v j).oneCell' = true)
    (hx : (a.put o1.dst (.pointer (some ⟨w.heap.size, 0, none⟩))).eval x = .pointer (some ⟨w.heap.size, 0, none⟩)) (hy : (a.put o1.dst (.pointer (some ⟨w.heap.size, 0, none⟩))).eval y = .agg (tab n v))
    (h : ∀ w', Has w' w.heap.size ty (tab n v) → Below w.heap.size w w' → w.heap.size < w'.heap.size → wpList P ops Q rest ((a.put o1.dst (.pointer (some ⟨w.heap.size, 0, none⟩))).put o2.dst undef) w') : wpList P ops Q (o1 :: o2 :: rest) a w := by
  refine wpList_plain hg1 fun K hK => ?_
  unfold Oper.wp execOp
  simp only [h1, Instr.alloc, Sem.run_bind, hz, Result.andThen_ok]
  have hnv : (newVar ty (.agg (tab n z))).run P w = .ok ⟨w.heap.size, 0, none⟩ (w.alloc (.cells (tab n z) ty)) := by
    go_simp
  simp only [hnv, Result.andThen_ok, Sem.run_pure]
  refine hK _ _ ?_
  refine wp_store_tab hg2 ty x y h2 w.heap.size 0 hx n v hy n z ty (Has.new _ _ _) hi (by omega) h1v ?_
  intro w' hh hg
  have e : (tab n fun j => if 0 ≤ j ∧ j < 0 + n then v (j - 0) else z j) = tab n v := tab_ext _ _ _ fun j hj => by rw [if_pos ⟨Nat.zero_le _, by omega⟩]; rfl
  rw [e] at hh
  have hb1 : Below w.heap.size w (w.alloc (.cells (tab n z) ty)) := (Below.refl _ _).alloc (Nat.le_refl _) _
  have hb2 := hb1.trans (below_of_only hg (Nat.le_refl _) (by simp))
  exact h w' hh hb2 hh.lt
/-- what the element lies as -/
theorem MSlC.range {w : World} {s : MSl} {k : Nat} {cs : Nat → Nat → Value} (h : MSlC w s k cs) {b o : Nat} (hA : s.A = some ⟨b, o, none⟩) {j : Nat} (hj : j < s.n) : w.rangeAt b (o + j * k) ((List.range k).map (cs j)) := fun i v hv => by
  have hi : i < k := by have := (List.getElem?_eq_some_iff.1 hv).1; simpa using this
  obtain ⟨b', o', e, _, hc⟩ := h.2 (by omega)
  obtain ⟨rfl, rfl⟩ : b' = b ∧ o' = o := by
    have := hA.symm.trans e
    injection this with this
    injection this with e1 e2
    exact ⟨e1.symm, e2.symm⟩
  rw [hc j i hj hi, ← hv]
  simp [hi]
end Go.Proofs.YtgpofoggfifnjaaGreatDoor
namespace Go.Proofs.YtgpofoggfifnjaaGreatDoor
open Go Go.RowKit

end Go.Proofs.YtgpofoggfifnjaaGreatDoor
namespace Go.Proofs.YtgpofoggfifnjaaGreatDoor
open Go Go.RowKit

theorem ret_bool {a b : Bool} (h : a = b) : Ending.returned (.bool a) = Ending.returned (.bool b) := by rw [h]
/-- the cells of a cursor -/
def curB (A : Option Addr) (n c : Nat) (bad : Bool) : Array Value := #[.slice A n c, .bool bad]
set_option maxRecDepth 100000 in
set_option maxHeartbeats 1000000 in
theorem pbad_any (A : Option Addr) (n c : Nat) (bad : Bool) (g : Nat) (w : World) (hG : Has w g 135 (curB A n c bad)) :
    Calls Tryz.prog 125 #[curAt g] w fun e w' => e = .returned (.bool bad) ∧ w = w' := by
  have hc1 : w.cell? ⟨g, 1, none⟩ = some (.bool bad) := hG.cell 1
  go_enter Tryz.func125, Tryz.ntmps125
  go_wp2_with fail
  go_ret
  exact ⟨rfl, rfl⟩
set_option maxRecDepth 100000 in
set_option maxHeartbeats 1000000 in
theorem pend2_any (a n : Nat) (w : World) (ha : a < 4294967296) (hn : n < 4294967296) :
    Calls Tryz.prog 59 #[.int .u32 (a : Int), .int .u32 (n : Int)] w fun e w' => e = .returned (.int .u64 ((a : Int) + (n : Int))) ∧ w = w' := by
  go_enter Tryz.func59, Tryz.ntmps59
  go_wp2_with fail
  go_ret
  exact ⟨rfl, rfl⟩
set_option maxRecDepth 100000 in
set_option maxHeartbeats 1000000 in
theorem pwithin_any (a n b m : Nat) (w : World) (ha : a < 4294967296) (hn : n < 4294967296) (hb : b < 4294967296) (hm : m < 4294967296) :
    Calls Tryz.prog 33 #[.int .u32 (a : Int), .int .u32 (n : Int), .int .u32 (b : Int), .int .u32 (m : Int)] w fun e w' => e = .returned (.bool (inB a n b m)) ∧ w = w' := by
  by_cases h1 : (b : Int) ≤ (a : Int)
  · by_cases h2 : (a : Int) + (n : Int) ≤ (b : Int) + (m : Int)
    · have hr : inB a n b m = true := decide_eq_true (by omega)
      rw [hr]
      go_enter Tryz.func33, Tryz.ntmps33
      go_wp2_with (refine (pend2_any _ _ _ (by omega) (by omega)).mono ?_; rintro e w' ⟨rfl, rfl⟩)
      go_ret
      exact ⟨rfl, rfl⟩
    · have hr : inB a n b m = false := decide_eq_false (by omega)
      rw [hr]
      go_enter Tryz.func33, Tryz.ntmps33
      go_wp2_with (refine (pend2_any _ _ _ (by omega) (by omega)).mono ?_; rintro e w' ⟨rfl, rfl⟩)
      go_ret
      exact ⟨ret_bool (decide_eq_false (by omega)), rfl⟩
  · have hr : inB a n b m = false := decide_eq_false (by omega)
    rw [hr]
    go_enter Tryz.func33, Tryz.ntmps33
    go_wp2_with fail
    go_ret
    exact ⟨rfl, rfl⟩
end Go.Proofs.YtgpofoggfifnjaaGreatDoor
namespace Go.Proofs.YtgpofoggfifnjaaGreatDoor
open Go Go.RowKit

end Go.Proofs.YtgpofoggfifnjaaGreatDoor
namespace Go.Proofs.YtgpofoggfifnjaaGreatDoor
open Go Go.RowKit

end Go.Proofs.YtgpofoggfifnjaaGreatDoor
namespace Go.Proofs.YtgpofoggfifnjaaGreatDoor
open Go Go.RowKit

theorem mown_blk {w : World} {base size n : Nat} {e : TypeId} {v : Value} {xs : List Value} (h : w.ownsRow base e size v n xs) {l : Nat} (hl : v.ownBlock = some l) : base ≤ l ∧ l < w.heap.size := by
  rcases h.2 with ⟨rfl, _⟩ | ⟨g, cap, cur, rfl, hb, hg, _⟩
  · cases hl
  · have : g = l := by simpa [Value.ownBlock] using hl
    subst this
    exact ⟨hb, (Array.getElem?_eq_some_iff.1 hg).1⟩
theorem mbelow_own {a w w' : World} {B base size n : Nat} {e : TypeId} {v : Value} {xs : List Value} (hb : Below B a w) (h : w.ownsRow base e size v n xs) (hB : B ≤ base) (hw : B ≤ w.heap.size) (k : w.grownBy w' v.ownBlock) : Below B a w' := by
  refine hb.trans ⟨k.os, k.tape, k.output, k.size, fun i hi => k.block i (by omega) (fun he => ?_)⟩
  have := mown_blk h he.symm
  omega
theorem mown_after {w w' : World} {base size n : Nat} {e : TypeId} {v : Value} {xs : List Value} (h : w.ownsRow base e size v n xs) (k : Below w.heap.size w w') : w'.ownsRow base e size v n xs := by
  refine ⟨h.1, ?_⟩
  rcases h.2 with h1 | ⟨g, cap, cur, h1, hb, hg, h3⟩
  · exact .inl h1
  · exact .inr ⟨g, cap, cur, h1, hb, (k.block g (Array.getElem?_eq_some_iff.1 hg).1).trans hg, h3⟩
end Go.Proofs.YtgpofoggfifnjaaGreatDoor
namespace Go.Proofs.YtgpofoggfifnjaaGreatDoor
open Go Go.RowKit

end Go.Proofs.YtgpofoggfifnjaaGreatDoor
namespace Go.Proofs.YtgpofoggfifnjaaGreatDoor
open Go Go.RowKit

theorem leB_snoc (m x : Nat) : leB (m + 1) x = leB m x ++ [UInt8.ofNat (x / 256 ^ m)] := by
  unfold leB
  rw [List.range_succ, List.map_append]
  rfl
theorem leB_len (m x : Nat) : (leB m x).length = m := by simp [leB]
theorem byte_at (x i : Nat) : Value.int .u8 ((x : Int) / 2 ^ (8 * i) % 256) = by8 (UInt8.ofNat (x / 256 ^ i)) := by
  have h256 : (256 : Nat) ^ i = 2 ^ (8 * i) := by rw [Nat.pow_mul]
  unfold by8
  rw [UInt8.toNat_ofNat', h256]
  congr 1
end Go.Proofs.YtgpofoggfifnjaaGreatDoor
namespace Go.Proofs.YtgpofoggfifnjaaGreatDoor
open Go Go.RowKit

theorem curB_bad (A : Option Addr) (n c : Nat) (bad : Bool) : (curB A n c bad).setIfInBounds 1 (.bool true) = curB A n c true := rfl
theorem curB_rest (A A' : Option Addr) (n c n' c' : Nat) (bad : Bool) : (curB A n c bad).setIfInBounds 0 (.slice A' n' c') = curB A' n' c' bad := rfl
set_option maxRecDepth 100000 in
set_option maxHeartbeats 1000000 in
theorem ptake_bad (A : Option Addr) (n c : Nat) (k : Int) (g : Nat) (w : World) (hG : Has w g 135 (curB A n c true)) :
    Calls Tryz.prog 105 #[curAt g, .int .i64 k] w fun e w' => e = .returned (.slice none 0 0) ∧ w = w' := by
  go_enter Tryz.func105, Tryz.ntmps105
  go_wp2_with (refine (pbad_any A n c true g _ hG).mono ?_; rintro e w' ⟨rfl, rfl⟩)
  go_ret
  exact ⟨rfl, rfl⟩
set_option maxRecDepth 100000 in
set_option maxHeartbeats 1000000 in
theorem ptake_far (A : Option Addr) (n c : Nat) (k : Int) (g : Nat) (w : World) (hG : Has w g 135 (curB A n c false)) (hk : k < 0 ∨ (n : Int) < k) :
    Calls Tryz.prog 105 #[curAt g, .int .i64 k] w fun e w' => e = .returned (.slice none 0 0) ∧ Has w' g 135 (curB A n c true) ∧ w.grownBy w' (some g) ∧ w'.heap.size = w.heap.size := by
  have hc0 : w.cell? ⟨g, 0, none⟩ = some (.slice A n c) := hG.cell 0
  have hc1 : w.cell? ⟨g, 1, none⟩ = some (.bool false) := hG.cell 1
  have hf1 := hG.free 1
  have hG2 := hG.set 1 (.bool true)
  rw [curB_bad] at hG2
  have hg2 := only_setCell w g 1 (.bool true)
  have kB := pbad_any A n c false g w hG
  by_cases hk0 : k < 0
  · clear hk
    go_enter Tryz.func105, Tryz.ntmps105
    go_wp2_with (refine kB.mono ?_; rintro e w' ⟨rfl, rfl⟩)
    go_ret
    exact ⟨rfl, hG2, hg2, by simp [World.setCell]⟩
  · have hk1 : (n : Int) < k := by omega
    clear hk
    go_enter Tryz.func105, Tryz.ntmps105
    go_wp2_with (refine kB.mono ?_; rintro e w' ⟨rfl, rfl⟩)
    go_ret
    exact ⟨rfl, hG2, hg2, by simp [World.setCell]⟩
/-- what x[k:] has for an address -/
def offA (A : Option Addr) (c k : Nat) : Option Addr := if k = c then A else A.map (·.add k)
theorem run_front (A : Option Addr) (n c : Nat) (k : Nat) (hk : k ≤ c) (W : World) : (Instr.sliceAt 53 (.slice A n c) none (some (.int .i64 (k : Int))) (some (.int .i64 (k : Int)))).run Tryz.prog W = .ok (.slice A k k) W := by
  have h1 : (k : Int) ≤ (c : Int) := by omega
  cases A with
  | none => go_simp
  | some ad => go_simp
theorem run_tail (A : Option Addr) (n c : Nat) (k : Nat) (hk : k ≤ n) (W : World) : (Instr.sliceAt 53 (.slice A n c) (some (.int .i64 (k : Int))) none none).run Tryz.prog W = .ok (.slice (offA A c k) (n - k) (c - k)) W := by
  have h1 : (k : Int) ≤ (n : Int) := by omega
  unfold offA
  by_cases hkc : k = c
  · subst hkc
    cases A with
    | none => go_simp
    | some ad => go_simp
  · rw [if_neg hkc]
    cases A with
    | none => go_simp
    | some ad =>
      go_simp
      exact fun h => absurd h.symm hkc
set_option maxRecDepth 100000 in
set_option maxHeartbeats 1000000 in
theorem ptake_ok (A : Option Addr) (n c : Nat) (k : Nat) (g : Nat) (w : World) (hG : Has w g 135 (curB A n c false)) (hk : k ≤ n) (hn : n ≤ c) :
    Calls Tryz.prog 105 #[curAt g, .int .i64 (k : Int)] w fun e w' => e = .returned (.slice A k k) ∧ Has w' g 135 (curB (offA A c k) (n - k) (c - k) false) ∧ w.grownBy w' (some g) ∧ w'.heap.size = w.heap.size := by
  have hc0 : w.cell? ⟨g, 0, none⟩ = some (.slice A n c) := hG.cell 0
  have hf0 := hG.free 0
  have hG2 := hG.set 0 (.slice (offA A c k) (n - k) (c - k))
  rw [curB_rest] at hG2
  have hg2 := only_setCell w g 0 (.slice (offA A c k) (n - k) (c - k))
  have kB := pbad_any A n c false g w hG
  have r1 := fun W => run_front A n c k (by omega) W
  have r2 := fun W => run_tail A n c k hk W
  have hk1 : (k : Int) ≤ (n : Int) := by omega
  go_enter Tryz.func105, Tryz.ntmps105
  go_wp2_with (refine kB.mono ?_; rintro e w' ⟨rfl, rfl⟩)
  go_ret
  exact ⟨rfl, hG2, hg2, by simp [World.setCell]⟩
end Go.Proofs.YtgpofoggfifnjaaGreatDoor
namespace Go.Proofs.YtgpofoggfifnjaaGreatDoor
open Go Go.RowKit

theorem leT_snoc (f : Nat → Nat) : ∀ m j, leT f (m + 1) j = leT f m j + f (j + m) * 256 ^ m
  | 0, j => by simp [leT]
  | m + 1, j => by
    show f j + 256 * leT f (m + 1) (j + 1) = f j + 256 * leT f m (j + 1) + f (j + (m + 1)) * 256 ^ (m + 1)
    rw [leT_snoc f m (j + 1), Nat.pow_succ, show j + 1 + m = j + (m + 1) by omega, Nat.mul_add]
    have : f (j + (m + 1)) * (256 ^ m * 256) = 256 * (f (j + (m + 1)) * 256 ^ m) := by rw [Nat.mul_comm (256 ^ m), Nat.mul_left_comm]
    omega
/-- a byte is put above the bytes that were read -/
theorem or_above (x d i : Nat) (hi : i < 4) (hx : x < 256 ^ i) (hd : d < 256) : bits .or .u32 (x : Int) (IntKind.u32.wrap ((d : Int) * 2 ^ (8 * i))) = ((x + d * 256 ^ i : Nat) : Int) := by
  have h256 : (256 : Nat) ^ i = 2 ^ (8 * i) := by rw [Nat.pow_mul]
  have hm : d * 256 ^ i < 4294967296 := by
    have : 256 ^ i ≤ 256 ^ 3 := Nat.pow_le_pow_right (by omega) (by omega)
    calc d * 256 ^ i ≤ 255 * 256 ^ 3 := Nat.mul_le_mul (by omega) this
      _ < 4294967296 := by decide
  have e : ((d : Int) * 2 ^ (8 * i)) = ((d * 256 ^ i : Nat) : Int) := by rw [h256]; push_cast; rfl
  have hx2 : x < 4294967296 := by
    have : 256 ^ i ≤ 256 ^ 3 := Nat.pow_le_pow_right (by omega) (by omega)
    omega
  rw [e, IntKind.wrap_u32', Int.emod_eq_of_lt (by omega) (by omega), u32_or_nat x _ hx2 hm, Nat.or_comm, nat_join (8 * i) _ _ (by rw [h256]; exact Nat.mul_mod_left _ _) (by rw [← h256]; exact hx), Nat.add_comm]
set_option maxRecDepth 100000 in
set_option maxHeartbeats 1000000 in
theorem pint_no (k : Nat) (g : Value) (w : World) (Q : World → Prop) (kT : Calls Tryz.prog 105 #[g, .int .i64 (k : Int)] w fun e w' => e = .returned (.slice none 0 0) ∧ Q w') :
    Calls Tryz.prog 86 #[g, .int .i64 (k : Int)] w fun e w' => e = .returned (.int .u32 0) ∧ Q w' := by
  go_enter Tryz.func86, Tryz.ntmps86
  go_wp2_with fail
  refine kT.mono ?_
  rintro e u ⟨rfl, hQ⟩
  clear kT
  go_wp2_with fail
  go_loopw [5, 12] (fun x ct wr => x = .int .u32 0 ∧ ct = .int .i64 0 ∧ wr = u) (fun _ _ _ => 0)
  case atStart => exact ⟨rfl, rfl, rfl⟩
  case round =>
    obtain ⟨rfl, rfl, rfl⟩ := hrel
    go_wp2_with fail
    go_ret
    exact ⟨rfl, hQ⟩
set_option maxRecDepth 100000 in
set_option maxHeartbeats 2000000 in
theorem pint_ok (bs : List UInt8) (k p : Nat) (g : Value) (w : World) (Q : World → Prop) (hk4 : k ≤ 4)
    (kT : Calls Tryz.prog 105 #[g, .int .i64 (k : Int)] w fun e w' => ∃ b o, e = .returned (.slice (some ⟨b, o, none⟩) k k) ∧ (∀ j, j < k → w'.cell? ⟨b, o + j, none⟩ = some (by8 (bs.getD (p + j) 0))) ∧ Q w') :
    Calls Tryz.prog 86 #[g, .int .i64 (k : Int)] w fun e w' => e = .returned (.int .u32 ((leT (bsN bs) k p : Nat) : Int)) ∧ Q w' := by
  have hx := fun m j => leT_lt (bsN_lt bs) m j
  go_enter Tryz.func86, Tryz.ntmps86
  go_wp2_with fail
  refine kT.mono ?_
  rintro e u ⟨b, o, rfl, hcu, hQ⟩
  have HC := Lib.hid hcu
  have HX := Lib.hid hx
  clear kT hcu hx
  go_wp2_with fail
  go_loopw [5, 12] (fun x ct wr => ∃ i : Nat, i ≤ k ∧ x = .int .u32 ((leT (bsN bs) i p : Nat) : Int) ∧ ct = .int .i64 (i : Int) ∧ wr = u) (fun _ ct _ => (k - (intOf ct)).toNat)
  case atStart => exact ⟨0, Nat.zero_le _, rfl, rfl, rfl⟩
  case round =>
    obtain ⟨i, hi, rfl, rfl, rfl⟩ := hrel
    by_cases hlt : i < k
    · have hc0 := HC.out i hlt
      have e1 := leT_snoc (bsN bs) i p
      have hx1 := HX.out i p
      have hb8 : by8 (bs.getD (p + i) 0) = .int .u8 ((bsN bs (p + i) : Nat) : Int) := rfl
      have hbl := bsN_lt bs (p + i)
      rw [hb8] at hc0
      generalize leT (bsN bs) i p = x0 at *
      generalize bsN bs (p + i) = d0 at *
      have hw := or_above x0 d0 i (by omega) hx1 hbl
      have h8 : (8 * (i : Int)).toNat = 8 * i := by omega
      have hm8 : min (8 * i) 32 = 8 * i := by omega
      have HR := Lib.hid e1
      have HW := Lib.hid hw
      have di : (i : Int) < (k : Int) := by omega
      clear e1 hx1 hb8 hw
      go_wp2_with fail
      go_roundw
      case rel =>
        refine ⟨i + 1, by omega, ?_, by go_num, trivial⟩
        rw [HR.out, ← HW.out, IntKind.wrap_u32']
      case measure => simp [intOf] <;> omega
    · obtain rfl : i = k := by omega
      go_wp2_with fail
      go_ret
      exact ⟨rfl, hQ⟩

set_option maxRecDepth 100000 in
set_option maxHeartbeats 1000000 in
theorem pu8_of (x : Nat) (hx : x < 4294967296) (g : Value) (w : World) (Q : World → Prop) (kI : Calls Tryz.prog 86 #[g, .int .i64 ((1 : Nat) : Int)] w fun e w' => e = .returned (.int .u32 (x : Int)) ∧ Q w') :
    Calls Tryz.prog 69 #[g] w fun e w' => e = .returned (.int .i64 (x : Int)) ∧ Q w' := by
  replace kI : Calls Tryz.prog 86 #[g, .int .i64 1] w fun e w' => e = .returned (.int .u32 (x : Int)) ∧ Q w' := kI
  go_enter Tryz.func69, Tryz.ntmps69
  go_wp2_with fail
  refine kI.mono ?_
  rintro e u ⟨rfl, hQ⟩
  clear kI
  go_wp2_with fail
  go_ret
  exact ⟨rfl, hQ⟩
set_option maxRecDepth 100000 in
set_option maxHeartbeats 1000000 in
theorem pu16_of (x : Nat) (hx : x < 4294967296) (g : Value) (w : World) (Q : World → Prop) (kI : Calls Tryz.prog 86 #[g, .int .i64 ((2 : Nat) : Int)] w fun e w' => e = .returned (.int .u32 (x : Int)) ∧ Q w') :
    Calls Tryz.prog 70 #[g] w fun e w' => e = .returned (.int .i64 (x : Int)) ∧ Q w' := by
  replace kI : Calls Tryz.prog 86 #[g, .int .i64 2] w fun e w' => e = .returned (.int .u32 (x : Int)) ∧ Q w' := kI
  go_enter Tryz.func70, Tryz.ntmps70
  go_wp2_with fail
  refine kI.mono ?_
  rintro e u ⟨rfl, hQ⟩
  clear kI
  go_wp2_with fail
  go_ret
  exact ⟨rfl, hQ⟩
set_option maxRecDepth 100000 in
set_option maxHeartbeats 1000000 in
theorem pu32_of (x : Nat) (g : Value) (w : World) (Q : World → Prop) (kI : Calls Tryz.prog 86 #[g, .int .i64 ((4 : Nat) : Int)] w fun e w' => e = .returned (.int .u32 (x : Int)) ∧ Q w') :
    Calls Tryz.prog 71 #[g] w fun e w' => e = .returned (.int .u32 (x : Int)) ∧ Q w' := by
  replace kI : Calls Tryz.prog 86 #[g, .int .i64 4] w fun e w' => e = .returned (.int .u32 (x : Int)) ∧ Q w' := kI
  go_enter Tryz.func71, Tryz.ntmps71
  go_wp2_with fail
  refine kI.mono ?_
  rintro e u ⟨rfl, hQ⟩
  clear kI
  go_wp2_with fail
  go_ret
  exact ⟨rfl, hQ⟩
/-- append(s, x...), s without spare room, x not empty: a row of the call's own -/
theorem wp_append_full {w : World} {ops : Array Oper} {rest : List Oper} {op : Oper} {a : Act} {Q : Exit → Act → World → Prop} (hgd : op.guard = none) (s x : Operand)
    (ho : op.op = .call { callee := .builtin .append, args := #[s, x], argTypes := #[53, 53] }) (A : Option Addr) (n : Nat) (bs : List UInt8) (hs : a.eval s = .slice A n n) (hS : SlA w A n n bs) (hA : A = none → n = 0)
    (X : Option Addr) (m c : Nat) (cs : List UInt8) (hx : a.eval x = .slice X m c) (hX : SlA w X m c cs) (hm : 0 < m) (h63 : n + m ≤ 2000000)
    (h : ∀ v' w', w'.ownsRow w.heap.size 5 1 v' (n + m) ((bs ++ cs).map by8) → w.grownBy w' none → wpList Tryz.prog ops Q rest (a.put op.dst v') w') : wpList Tryz.prog ops Q (op :: rest) a w := by
  obtain ⟨i5, hi5, hz5, hs5, hb5⟩ := info_parts info5
  obtain ⟨b, o, rfl, _, hcell⟩ := hX.2.2 hm
  have hlc : cs.length = m := hX.1
  have hlb : bs.length = n := hS.1
  refine wpList_append_grows w hgd s x 53 ho 5 i5 (.int .u8 0) 1 1 Tryz.underlying53 hi5 hz5 hs5 hb5 rfl (by decide) A n n (bs.map by8) hs (fun h => ⟨hA h, hA h⟩) (by simp [hlb]) (fun ad had j u hj => ?_) ⟨b, o, none⟩ m c (cs.map by8) hx (by simp [hlc]) (fun j u hj => ?_) (fun u hu => ?_) (by omega) (by simp only [maxLen]; omega) (by omega) ?_
  · have hjn : j < n := by have := (List.getElem?_eq_some_iff.1 hj).1; simpa [hlb] using this
    obtain ⟨b', o', e, _, hc'⟩ := hS.2.2 (by omega)
    obtain rfl : ad = ⟨b', o', none⟩ := Option.some.inj (had.symm.trans e)
    rw [Addr.add_mid, hc' j hjn, ← hj]
    simp [List.getD_eq_getElem?_getD, show j < bs.length by omega]
  · have hjm : j < m := by have := (List.getElem?_eq_some_iff.1 hj).1; simpa [hlc] using this
    rw [Addr.add_mid, hcell j hjm, ← hj]
    simp [List.getD_eq_getElem?_getD, show j < cs.length by omega]
  · obtain ⟨b, _, rfl⟩ := List.mem_map.1 hu
    rfl
  · intro v' w' h1 h2
    refine h v' w' ?_ h2
    rw [List.map_append]
    exact h1
end Go.Proofs.YtgpofoggfifnjaaGreatDoor
namespace Go.Proofs.YtgpofoggfifnjaaGreatDoor
open Go Go.RowKit

/-- at g there is a cursor over bs, at place p, failed or not: what is left is a row that nobody else writes -/
def IsCur (w : World) (B m g : Nat) (bs : List UInt8) (p : Nat) (bad : Bool) : Prop :=
  ∃ A n c, Has w g 135 (curB A n c bad) ∧ SlA w A n c (bs.drop p) ∧ B ≤ g ∧ g ≠ m ∧ (∀ b o s, A = some ⟨b, o, s⟩ → 0 < n → b ≠ g ∧ b ≠ m ∧ B ≤ b)
theorem offA_block {A : Option Addr} {c k b o : Nat} {s : Option Nat} (h : offA A c k = some ⟨b, o, s⟩) : ∃ o' s', A = some ⟨b, o', s'⟩ := by
  unfold offA at h
  split at h
  · exact ⟨o, s, h⟩
  · cases A with
    | none => cases h
    | some ad =>
      obtain ⟨b', o', s'⟩ := ad
      refine ⟨o', s', ?_⟩
      simp only [Option.map_some, Option.some.injEq] at h
      have : b' = b := by
        have h2 := congrArg Addr.block h
        unfold Addr.add at h2
        split at h2 <;> exact h2
      rw [this]
theorem own_base {w : World} {base : Nat} {e : TypeId} {size n : Nat} {b o c : Nat} {s : Option Nat} {xs : List Value} (h : w.ownsRow base e size (.slice (some ⟨b, o, s⟩) n c) n xs) : base ≤ b ∧ b < w.heap.size := by
  rcases h.2 with ⟨hv, _⟩ | ⟨g, cap, cur, hv, hb, hg, _⟩
  · cases hv
  · have e1 : (some ⟨b, o, s⟩ : Option Addr) = some ⟨g, 0, none⟩ := by injection hv
    injection e1 with e1
    injection e1 with e1 _ _
    subst e1
    exact ⟨hb, (Array.getElem?_eq_some_iff.1 hg).1⟩
theorem run_zero (A : Option Addr) (n c : Nat) (W : World) : (Instr.sliceAt 53 (.slice A n c) none (some (.int .i64 0)) (some (.int .i64 0))).run Tryz.prog W = .ok (.slice A 0 0) W := run_front A n c 0 (Nat.zero_le _) W
set_option maxRecDepth 100000 in
set_option maxHeartbeats 1000000 in
theorem pat_is (bs : List UInt8) (A : Option Addr) (n c : Nat) (w : World) (B : Nat) (hS : SlA w A n c bs) (hA : A = none → c = 0) (hB : B ≤ w.heap.size) (hl : bs.length ≤ 1000000) :
    Calls Tryz.prog 68 #[.slice A n c] w fun e w' => (∃ g, e = .returned (curAt g) ∧ ∀ m, w'.heap.size ≤ m → IsCur w' B m g bs 0 false) ∧ Below w.heap.size w w' := by
  have r0 := run_zero A n c
  have hn : bs.length = n := hS.1
  by_cases h0 : n = 0
  · subst h0
    have hb : bs = [] := List.eq_nil_of_length_eq_zero hn
    subst hb
    clear hn hl
    cases A with
    | none =>
      obtain rfl := hA rfl
      go_enter Tryz.func68, Tryz.ntmps68
      go_wp2_with fail
      go_ret
      refine ⟨⟨w.heap.size, rfl, fun m hm => ⟨none, 0, 0, Has.new _ _ _, nil_slA _, hB, ?_, fun _ _ _ _ h => absurd h (Nat.lt_irrefl _)⟩⟩, (Below.refl _ _).alloc (Nat.le_refl _) _⟩
      have hm2 : w.heap.size + 1 ≤ m := by simpa using hm
      omega
    | some ad =>
      go_enter Tryz.func68, Tryz.ntmps68
      go_wp2_with fail
      go_ret
      refine ⟨⟨w.heap.size, rfl, fun m hm => ⟨some ad, 0, 0, Has.new _ _ _, ⟨rfl, Nat.le_refl _, fun h => absurd h (Nat.lt_irrefl _)⟩, hB, ?_, fun _ _ _ _ h => absurd h (Nat.lt_irrefl _)⟩⟩, (Below.refl _ _).alloc (Nat.le_refl _) _⟩
      have hm2 : w.heap.size + 1 ≤ m := by simpa using hm
      omega
  · obtain ⟨b, o, rfl, _⟩ := hS.2.2 (by omega)
    have hSn : SlA w (some ⟨b, o, none⟩) 0 0 [] := ⟨rfl, Nat.le_refl _, fun h => absurd h (Nat.lt_irrefl _)⟩
    go_enter Tryz.func68, Tryz.ntmps68
    go_wp2_with (
      refine wp_append_full rfl _ _ rfl (some ⟨b, o, none⟩) 0 [] rfl hSn (fun _ => rfl) _ n c bs rfl hS (by omega) (by omega) ?_
      intro v' w1 hown hgr
      rw [Nat.zero_add, List.nil_append] at hown
      obtain ⟨A', c', rfl⟩ := own_form hown
      have hz := hgr.size)
    go_ret
    have hbel : Below w.heap.size w w1 := ⟨hgr.os, hgr.tape, hgr.output, hgr.size, fun i hi => hgr.block i hi (by simp)⟩
    have hS1 := (own_slA hown).1
    refine ⟨⟨w1.heap.size, rfl, fun m hm => ⟨A', n, c', Has.new _ _ _, ?_, by omega, ?_, fun b o s e h => ?_⟩⟩, hbel.alloc hz _⟩
    · exact hS1.below ((Below.refl _ _).alloc (Nat.le_refl _) _)
    · have hm2 : w1.heap.size + 1 ≤ m := by simpa using hm
      omega
    · subst e
      have := own_base hown
      have hm2 : w1.heap.size + 1 ≤ m := by simpa using hm
      omega
theorem slA4 (w : World) (e1 e2 e3 e4 : Int) (b1 b2 b3 b4 : UInt8) (h1 : e1 = (b1.toNat : Int)) (h2 : e2 = (b2.toNat : Int)) (h3 : e3 = (b3.toNat : Int)) (h4 : e4 = (b4.toNat : Int)) : SlA (w.alloc (.cells #[.int .u8 e1, .int .u8 e2, .int .u8 e3, .int .u8 e4] 5)) (some ⟨w.heap.size, 0, none⟩) 4 4 [b1, b2, b3, b4] := by
  subst h1
  subst h2
  subst h3
  subst h4
  refine ⟨rfl, Nat.le_refl _, fun _ => ⟨w.heap.size, 0, rfl, by simp, fun j hj => ?_⟩⟩
  have h := fun i => (Has.new w 5 #[.int .u8 (b1.toNat : Int), .int .u8 (b2.toNat : Int), .int .u8 (b3.toNat : Int), .int .u8 (b4.toNat : Int)]).cell i
  rcases (show j = 0 ∨ j = 1 ∨ j = 2 ∨ j = 3 by omega) with rfl | rfl | rfl | rfl
  · exact (h 0).trans rfl
  · exact (h 1).trans rfl
  · exact (h 2).trans rfl
  · exact (h 3).trans rfl
theorem leB4 (x : Nat) : [UInt8.ofNat x, UInt8.ofNat (x / 256), UInt8.ofNat (x / 65536), UInt8.ofNat (x / 16777216)] = leB 4 x := by
  show _ = [UInt8.ofNat (x / 256 ^ 0), UInt8.ofNat (x / 256 ^ 1), UInt8.ofNat (x / 256 ^ 2), UInt8.ofNat (x / 256 ^ 3)]
  rw [Nat.pow_zero, Nat.div_one]
theorem grown_none {w w' : World} (h : w.grownBy w' none) : Below w.heap.size w w' := ⟨h.os, h.tape, h.output, h.size, fun i hi => h.block i hi (by simp)⟩
set_option maxRecDepth 100000 in
set_option maxHeartbeats 1000000 in
theorem p32_any (bs : List UInt8) (x : Nat) (v : Value) (n : Nat) (w : World) (B : Nat) (hx : x < 4294967296) (hown : w.ownsRow B 5 1 v n (bs.map by8)) (hB : B ≤ w.heap.size) (hn : n ≤ 1000000) :
    Calls Tryz.prog 42 #[v, .int .u32 (x : Int)] w fun e w' => (∃ v', e = .returned v' ∧ w'.ownsRow B 5 1 v' (n + 4) ((bs ++ leB 4 x).map by8)) ∧ Below B w w' ∧ w.heap.size ≤ w'.heap.size := by
  obtain ⟨A, c, rfl⟩ := own_form hown
  obtain ⟨hS, hA⟩ := own_slA hown
  have hnc := hS.2.1
  have hA0 : A = none → n = 0 := fun h => by have := hA h; omega
  have hSn : SlA w A n n bs := ⟨hS.1, Nat.le_refl _, hS.2.2⟩
  have r0 := fun W => run_front A n c n hnc W
  clear hown hA hS
  go_enter Tryz.func42, Tryz.ntmps42
  go_wp2_with (
    refine wp_append_full rfl _ _ rfl A n bs rfl (hSn.below ((Below.refl _ _).alloc (Nat.le_refl _) _)) hA0 (some ⟨w.heap.size, 0, none⟩) 4 4 [UInt8.ofNat x, UInt8.ofNat (x / 256), UInt8.ofNat (x / 65536), UInt8.ofNat (x / 16777216)] rfl (slA4 w _ _ _ _ _ _ _ _ (by simp) (by simp) (by simp) (by simp; omega)) (by decide) (by omega) ?_
    intro v' w1 hown hgr)
  go_ret
  refine ⟨⟨v', rfl, ?_⟩, ?_, ?_⟩
  · rw [← leB4]
    exact own_mono hown (Nat.le_trans hB (by simp))
  · exact ((Below.refl B w).alloc hB _).trans ((grown_none hgr).mono (by simp; omega))
  · have := hgr.size
    have h2 : w.heap.size + 1 ≤ w1.heap.size := by simpa using this
    omega
end Go.Proofs.YtgpofoggfifnjaaGreatDoor
namespace Go.Proofs.YtgpofoggfifnjaaGreatDoor
open Go Go.RowKit

end Go.Proofs.YtgpofoggfifnjaaGreatDoor
namespace Go.Proofs.YtgpofoggfifnjaaGreatDoor
open Go Go.RowKit

def u8 (x : Int) : UInt8 := UInt8.ofNat (x % 256).toNat
end Go.Proofs.YtgpofoggfifnjaaGreatDoor
namespace Go.Proofs.YtgpofoggfifnjaaGreatDoor

/-- a cursor's state -/
structure Cu where
  p : Nat
  bad : Bool
def Cu.num (bs : List UInt8) (k : Nat) (s : Cu) : Nat := tkN bs s.p s.bad k
def Cu.nxt (bs : List UInt8) (k : Nat) (s : Cu) : Cu := ⟨tkP bs.length s.p s.bad (k : Int), !okT bs.length s.p s.bad (k : Int)⟩
def c0 : Cu := ⟨0, false⟩
def c5 (bs : List UInt8) : Cu := ((((c0.nxt bs 8).nxt bs 4).nxt bs 1).nxt bs 1).nxt bs 2
end Go.Proofs.YtgpofoggfifnjaaGreatDoor
namespace Go.Proofs.YtgpofoggfifnjaaGreatDoor
open Go Go.RowKit

def q0 : Pay × MSl := (pay0, ⟨none, 0, 0⟩)
end Go.Proofs.YtgpofoggfifnjaaGreatDoor
namespace Go.Proofs.YtgpofoggfifnjaaGreatDoor
open Go Go.RowKit

end Go.Proofs.YtgpofoggfifnjaaGreatDoor
namespace Go.Proofs.YtgpofoggfifnjaaGreatDoor
open Go Go.RowKit

end Go.Proofs.YtgpofoggfifnjaaGreatDoor
namespace Go.Proofs.YtgpofoggfifnjaaGreatDoor
open Go Go.RowKit

end Go.Proofs.YtgpofoggfifnjaaGreatDoor
