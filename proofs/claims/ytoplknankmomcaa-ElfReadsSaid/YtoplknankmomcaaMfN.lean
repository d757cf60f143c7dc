/-
Layer 7, the reference: Decode.
-/
import Derived.Test.YtoplknankmomcaaMfM
import Derived.Test.YtoplknankmomcaaMfL
import Derived.Test.YtoplknankmomcaaMfK
import Derived.Test.YtoplknankmomcaaSim
import Derived.Deep.CutBlock
import Derived.Deep.DeepCutAuto
import Derived.Laws.BytesArg
namespace Go.Proofs.Ytoplknankmomcaa
open Go Go.RowKit

/-- the string of the bytes -/
def strB (bs : List UInt8) : ByteArray := strOfNums (bs.map fun b => (b.toNat : Int))
theorem str_conv {w : World} {A : Option Addr} {n c : Nat} {bs : List UInt8} (h : SlA w A n c bs) : (convert 25 9 (.slice A n c)).run Try.prog w = .ok (.string (strB bs)) w := by
  obtain ⟨hl, _, h2⟩ := h
  rcases Nat.eq_zero_or_pos n with h0 | h0
  · subst h0
    obtain rfl : bs = [] := List.eq_nil_of_length_eq_zero hl
    rw [run_convert_bytes_string w 25 9 5 A 0 c Try.underlying25 Try.underlying5 Try.underlying9]
    cases A <;> simp [Conv.bytesToString, loadCells]
    all_goals rfl
  · obtain ⟨b, o, rfl, _, hc⟩ := h2 h0
    refine run_convert_bytes_arg w 25 5 Try.underlying25 Try.underlying5 b o n c _ (by simp [hl]) (fun i hi => ?_) 9 Try.underlying9
    rw [hc i hi]
    simp [by8, List.getD_eq_getElem?_getD, show i < bs.length by omega]
theorem results_cell_tmp {P : Program} {fn : Func} {p q : Tmp} {ty : TypeId} (h : fn.results = #[.cell p ty, .tmp q]) (tmps : Array Value) (w : World) (g : Nat) (t : TypeId) (cs : Array Value) (y : Value) (d : TypeDesc)
    (hp : tmps.getD p undef = .pointer (some ⟨g, 0, none⟩)) (hy : tmps.getD q undef = y) (hg : Has w g t cs)
    (hu : P.underlying ty = some d) (hd : (match d with | .struct _ | .array _ _ => true | _ => false) = true) (hi : (P.info? ty).map (·.size) = some cs.size) :
    (results fn tmps).run P w = .ok (.tuple #[.agg cs, y]) w := by
  have hp' : tmps[p]?.getD undef = .pointer (some ⟨g, 0, none⟩) := by simpa using hp
  have hy' : tmps[q]?.getD undef = y := by simpa using hy
  simp [results, h, hp', hy', asAddr, run_loadVar_row w g t ty cs (0, 0) d hg hu hd hi]
theorem num_lt (bs : List UInt8) (k : Nat) (s : Cu) : s.num bs k < 256 ^ k := by
  unfold Cu.num tkN
  split
  · exact leT_lt (bsN_lt bs) k s.p
  · exact Nat.pow_pos (by decide)
theorem strB_mark : strB mark8 = ⟨#[80, 79, 82, 84, 73, 67, 79, 49]⟩ := by decide +kernel
theorem strB_toList (l : List UInt8) : (strB l).toList = l := by
  rw [ByteArray.toList_eq]
  unfold strB
  rw [strOfNums_data, List.map_map]
  have : ((fun n : Int => UInt8.ofNat n.toNat) ∘ fun b : UInt8 => (b.toNat : Int)) = id := by
    funext b
    simp
  rw [this, List.map_id]
theorem strB_ne {l : List UInt8} (h : l ≠ mark8) : ((strB l).toList == [80, 79, 82, 84, 73, 67, 79, 49]) = false := by
  rw [strB_toList, beq_eq_false_iff_ne]
  exact h
theorem strB_eq {l : List UInt8} (h : l = mark8) : ((strB l).toList == [80, 79, 82, 84, 73, 67, 79, 49]) = true := by
  rw [strB_toList, beq_iff_eq]
  exact h
/-- the manifest is not: nothing, and the error 3 -/
theorem decM_bad {bs : List UInt8} (h : hdOK bs = false) : decM bs = (man0, 3) := by
  unfold decM
  rw [h]
  rfl
section
variable {w0 w w' : World} {bs : List UInt8} {A : Option Addr} {n c gc gr gm mc : Nat} {mk : Int} {sl : Sl} {qs : List (Pay × Sl)} {s s' : Cu}
end
/-- a payload's cells, one of them set -/
theorem payV_set32 (p : Pay) (s : Sl) (z : Nat) : (tab 36 (payV p s)).setIfInBounds 32 (.int .u32 (z : Int)) = tab 36 (payV { p with z := z } s) := by
  rw [tab_set]
  refine tab_ext _ _ _ fun j hj => ?_
  by_cases h : j = 32
  · subst h; rfl
  · rw [if_neg h]; unfold payV; simp only [if_neg h]
theorem payV_set33 (p : Pay) (s : Sl) (z : Nat) : (tab 36 (payV p s)).setIfInBounds 33 (.int .u32 (z : Int)) = tab 36 (payV { p with b := z } s) := by
  rw [tab_set]
  refine tab_ext _ _ _ fun j hj => ?_
  by_cases h : j = 33
  · subst h; rfl
  · rw [if_neg h]; unfold payV; simp only [if_neg h]
theorem payV_set34 (p : Pay) (s s' : Sl) : (tab 36 (payV p s)).setIfInBounds 34 s'.v = tab 36 (payV p s') := by
  rw [tab_set]
  refine tab_ext _ _ _ fun j hj => ?_
  by_cases h : j = 34
  · subst h; rfl
  · rw [if_neg h]; unfold payV; simp only [if_neg h]
theorem payV_set35 (p : Pay) (s : Sl) (z : Int) : (tab 36 (payV p s)).setIfInBounds 35 (.int .i64 z) = tab 36 (payV { p with c := z } s) := by
  rw [tab_set]
  refine tab_ext _ _ _ fun j hj => ?_
  by_cases h : j = 35
  · subst h; rfl
  · rw [if_neg h]
    unfold payV
    by_cases h1 : j < 32
    · simp only [if_pos h1]
    · by_cases h2 : j = 32
      · subst h2; rfl
      · by_cases h3 : j = 33
        · subst h3; rfl
        · have h4 : j = 34 := by omega
          subst h4; rfl
theorem payV_gs (p : Pay) (s : Sl) (gs : List Gr) : tab 36 (payV p s) = tab 36 (payV { p with gs := gs } s) := rfl
theorem man0_v (w : World) : ManV w (.agg (manC man0 ⟨none, 0, 0⟩)) man0 := ⟨_, rfl, ⟨rfl, fun _ => ⟨none, 0, 0⟩, ⟨⟨Nat.le_refl _, Nat.zero_le _⟩, fun h => absurd h (Nat.lt_irrefl _)⟩, fun j h => absurd h (Nat.not_lt_zero _)⟩, by decide, by decide, by decide⟩
/-- since u, of what was there only block g has changed; behind it a new block is written -/
theorem grown_far {u w w' : World} {g p : Nat} (h : u.grownBy w (some g)) (k : w.grownBy w' (some p)) (hp : u.heap.size ≤ p) : u.grownBy w' (some g) :=
  ⟨k.os.trans h.os, k.tape.trans h.tape, k.output.trans h.output, Nat.le_trans h.size k.size, fun i hi hne => (k.block i (Nat.lt_of_lt_of_le hi h.size) (by simp; omega)).trans (h.block i hi hne)⟩
theorem grown_after {u w w' : World} {g : Nat} (h : u.grownBy w (some g)) (k : Below w.heap.size w w') : u.grownBy w' (some g) := only_trans h (only_below k _)
theorem payC_slice (mc : Nat) (mk : Int) (s s' : Sl) : (manC ⟨mc, mk, []⟩ s).setIfInBounds 2 s'.v = manC ⟨mc, mk, []⟩ s' := rfl
theorem digB_len (bs : List UInt8) (s : Cu) : (digB bs s).length = 32 := by
  unfold digB
  split
  · rename_i h
    unfold okT at h
    simp only [Bool.and_eq_true, Bool.not_eq_true', decide_eq_true_eq] at h
    rw [List.length_take, List.length_drop]
    omega
  · simp
/-- payloads that read badly are no manifest -/
theorem decM_badP {bs : List UInt8} (hh : hdOK bs = true) (h : (decP bs (hdN bs) (c5 bs) []).1 = false) : decM bs = (man0, 3) := by
  unfold decM
  have : decOK bs (decP bs (hdN bs) (c5 bs) []) = false := by unfold decOK; rw [h]; rfl
  rw [hh, if_pos rfl, this]
  rfl
theorem own_n {w : World} {base size n n' c : Nat} {t : TypeId} {A : Option Addr} {xs : List Value} (h : w.ownsRow base t size (.slice A n' c) n xs) : n' = n := by
  rcases h.2 with ⟨hv, h0⟩ | ⟨g, cap, cur, hv, _⟩
  · have : n' = 0 := by injection hv
    omega
  · injection hv
theorem own_ne {w w' : World} {base size n g : Nat} {t : TypeId} {v : Value} {xs : List Value} (h : w.ownsRow base t size v n xs) (hne : ∀ l, v.ownBlock = some l → l ≠ g) (k : w.grownBy w' (some g)) : w'.ownsRow base t size v n xs := by
  refine ⟨h.1, ?_⟩
  rcases h.2 with h1 | ⟨g', cap, cur, h1, hb, hg, h3⟩
  · exact .inl h1
  · refine .inr ⟨g', cap, cur, h1, hb, (k.block g' (Array.getElem?_eq_some_iff.1 hg).1 (fun e => ?_)).trans hg, h3⟩
    injection e with e
    exact hne g' (by rw [h1]; rfl) e
theorem own_other {w w' : World} {base size n g : Nat} {t t' : TypeId} {v : Value} {xs : List Value} {cs : Array Value} (h : w.ownsRow base t size v n xs) (hG : Has w g t' cs) (ht : t' ≠ t) (k : w.grownBy w' (some g)) : w'.ownsRow base t size v n xs :=
  own_ne h (fun l hl e => own_has h hG ht l hl e.symm) k
theorem DcH.own {w0 w w' : World} {bs : List UInt8} {A : Option Addr} {n c gc : Nat} {s : Cu} {base size m : Nat} {t : TypeId} {v : Value} {xs : List Value} (h : DcH w0 bs A n c gc s w) (ho : w.ownsRow base t size v m xs) (hB : w0.heap.size ≤ base) (ht : 72 ≠ t) (k : w.grownBy w' v.ownBlock) : DcH w0 bs A n c gc s w' :=
  ⟨has_own ho h.cur ht k, h.src, h.nil, h.cap, h.le, below_own h.bel ho hB h.bel.size k, h.gcB⟩
theorem grown_own {u w w' : World} {g base size m : Nat} {t : TypeId} {v : Value} {xs : List Value} (h : u.grownBy w (some g)) (ho : w.ownsRow base t size v m xs) (hB : u.heap.size ≤ base) (k : w.grownBy w' v.ownBlock) : u.grownBy w' (some g) :=
  ⟨k.os.trans h.os, k.tape.trans h.tape, k.output.trans h.output, Nat.le_trans h.size k.size, fun i hi hne => (k.block i (Nat.lt_of_lt_of_le hi h.size) (fun e => by have := own_blk ho e.symm; omega)).trans (h.block i hi hne)⟩
theorem grV_set1 (a b : Nat) : (tab 3 (grV ⟨a, 0, 0⟩)).setIfInBounds 1 (.int .u32 (b : Int)) = tab 3 (grV ⟨a, b, 0⟩) := rfl
theorem grV_set2 (a b : Nat) (r : Int) : (tab 3 (grV ⟨a, b, 0⟩)).setIfInBounds 2 (.int .i64 r) = tab 3 (grV ⟨a, b, r⟩) := rfl
end Go.Proofs.Ytoplknankmomcaa
