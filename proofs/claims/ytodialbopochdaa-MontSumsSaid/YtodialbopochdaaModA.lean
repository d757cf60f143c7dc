/-
Package mont's memory: what a Mod's block holds; the product of two words with what is added to it.
-/
import Derived.Test.YtodialbopochdaaMulM
import Derived.Test.YtodialbopochdaaLimC
import Derived.Test.YtodialbopochdaaGenB
import Derived.Test.YtodialbopochdaaFacts
import Derived.Deep.MidRow
namespace Go.Proofs.Ytodialbopochdaa
open Go.RowKit

/-- a Mod's cells: the modulus, what makes its lowest word -1, R, R R -/
def modF (m ni o s : Nat) (j : Nat) : Value := .int .u32 ((if j < 8 then wrd m j else if j = 8 then ni else if j < 17 then wrd o (j - 9) else wrd s (j - 17) : Nat) : Int)
def modC (m ni o s : Nat) : Array Value := tab 25 (modF m ni o s)
def wordsL (x : Nat) : List Value := (List.range 8).map (dgs .u32 4294967296 x)
theorem wordsL_arr (x : Nat) : (wordsL x).toArray = nums x := rfl
theorem wordsL_len (x : Nat) : (wordsL x).length = 8 := by simp [wordsL]
section
variable {w : World} {g m ni o s : Nat}
theorem mod_words (h : Has w g 52 (modC m ni o s)) : w.rangeAt g 0 (wordsL m) := by
  have := Has.range h 0 8 (by omega)
  have e : (List.range 8).map (fun j => modF m ni o s (0 + j)) = wordsL m := by
    unfold wordsL
    apply List.map_congr_left
    intro j hj
    have : j < 8 := by simpa using hj
    simp [modF, dgs, wrd, this]
  rw [e] at this
  exact this
theorem mod_one (h : Has w g 52 (modC m ni o s)) : w.rangeAt g 9 (wordsL o) := by
  have := Has.range h 9 8 (by omega)
  have e : (List.range 8).map (fun j => modF m ni o s (9 + j)) = wordsL o := by
    unfold wordsL
    apply List.map_congr_left
    intro j hj
    have h8 : j < 8 := by simpa using hj
    have h1 : ¬ 9 + j < 8 := by omega
    have h2 : ¬ 9 + j = 8 := by omega
    have h3 : 9 + j < 17 := by omega
    simp only [modF, dgs, wrd, if_neg h1, if_neg h2, if_pos h3, Nat.add_sub_cancel_left]
  rw [e] at this
  exact this
theorem mod_square (h : Has w g 52 (modC m ni o s)) : w.rangeAt g 17 (wordsL s) := by
  have := Has.range h 17 8 (by omega)
  have e : (List.range 8).map (fun j => modF m ni o s (17 + j)) = wordsL s := by
    unfold wordsL
    apply List.map_congr_left
    intro j hj
    have h8 : j < 8 := by simpa using hj
    have h1 : ¬ 17 + j < 8 := by omega
    have h2 : ¬ 17 + j = 8 := by omega
    have h3 : ¬ 17 + j < 17 := by omega
    simp only [modF, dgs, wrd, if_neg h1, if_neg h2, if_neg h3, Nat.add_sub_cancel_left]
  rw [e] at this
  exact this
theorem mod_neg (h : Has w g 52 (modC m ni o s)) : w.cell? ⟨g, 8, none⟩ = some (.int .u32 ((ni : Nat) : Int)) := h.cellTab 8 (by omega)
theorem mod_word (h : Has w g 52 (modC m ni o s)) (j : Nat) (hj : j < 8) : w.cell? ⟨g, j, none⟩ = some (.int .u32 ((wrd m j : Nat) : Int)) := by
  have := h.cellTab j (show j < 25 by omega)
  simp only [modF, if_pos hj] at this
  exact this
end
theorem infoL (x : Nat) : (Try.prog.info? 24).map (·.size) = some (wordsL x).length := by rw [wordsL_len]; kernel_rfl

/- a number that lies in the middle of a block: loaded in a list of operations, in a region that only reads, in any order -/
section
variable {w : World} {ops : Array Oper} {rest : List Oper} {op : Oper} {a : Act} {Q : Exit → Act → World → Prop}
theorem wp_load_num {K : Act → World → Prop} (p : Operand) (ho : op.op = .load 24 p) (b o : Nat) (hp : a.eval p = .pointer (some ⟨b, o, none⟩)) (x : Nat) (hc : w.rangeAt b o (wordsL x))
    (h : K (a.put op.dst (.agg (nums x))) w) : op.wp Try.prog a w K Q := by
  rw [← wordsL_arr] at h
  exact wp_load_mid 24 p ho b o hp (wordsL x) _ hc Try.underlying24 rfl (infoL x) h
theorem wpList_load_num (hgd : op.guard = none) (p : Operand) (ho : op.op = .load 24 p) (b o : Nat) (hp : a.eval p = .pointer (some ⟨b, o, none⟩)) (x : Nat) (hc : w.rangeAt b o (wordsL x))
    (h : wpList Try.prog ops Q rest (a.put op.dst (.agg (nums x))) w) : wpList Try.prog ops Q (op :: rest) a w :=
  wpList_plain hgd fun _ hK => wp_load_num p ho b o hp x hc (hK _ _ h)
theorem wpQ_load_num {C : World → Prop} {L : Act → Prop} (hw : Region.wanted op (yielded ops a.tmps) = true) (p : Operand) (ho : op.op = .load 24 p) (b o : Nat) (hp : a.eval p = .pointer (some ⟨b, o, none⟩)) (x : Nat) (hc : ∀ w', C w' → w'.rangeAt b o (wordsL x))
    (h : wpQuiet Try.prog ops C L rest (a.put op.dst (.agg (nums x)))) : wpQuiet Try.prog ops C L (op :: rest) a :=
  wpQ_load 24 p ho hw _ hp (.agg (nums x)) (fun w' hC => by rw [← wordsL_arr]; exact run_loadAt_mid w' b o 24 (wordsL x) _ (hc w' hC) Try.underlying24 rfl (infoL x)) h
end

/-- what is above the eight words -/
def hiN (T : Nat) : Nat := T / big
theorem Has.grown {w w' : World} {g l : Nat} {t : TypeId} {cs : Array Value} (h : Has w g t cs) (k : w.grownBy w' (some l)) (hne : g ≠ l) : Has w' g t cs :=
  (k.block g h.lt (by simp; omega)).trans h
/-- the two words of n + a b + c -/
def loP (n a b c : Nat) : Nat := (n + a * b + c) % 4294967296
def hiP (n a b c : Nat) : Nat := (n + a * b + c) / 4294967296
theorem hiP_lt {n a b c : Nat} (hn : n < 4294967296) (ha : a < 4294967296) (hb : b < 4294967296) (hc : c < 4294967296) : hiP n a b c < 4294967296 := by
  have := mul_le hn ha hb hc
  unfold hiP
  omega
set_option maxHeartbeats 400000 in
theorem addp_any (n a b c : Nat) (w : World) (hn : n < 4294967296) (ha : a < 4294967296) (hb : b < 4294967296) (hc : c < 4294967296) :
    Calls Try.prog 47 #[.int .u32 (n : Int), .int .u32 (a : Int), .int .u32 (b : Int), .int .u32 (c : Int)] w fun e w' => e = .returned (.tuple #[.int .u32 ((loP n a b c : Nat) : Int), .int .u32 ((hiP n a b c : Nat) : Int)]) ∧ w = w' := by
  have hle := mul_le hn ha hb hc
  obtain ⟨p, hp⟩ : ∃ p : Nat, p = a * b := ⟨_, rfl⟩
  have hpi : (a : Int) * (b : Int) = (p : Int) := by rw [hp]; simp
  have e1 : (a : Int) * (b : Int) % 18446744073709551616 = (p : Int) := by rw [hpi]; omega
  have e2 : ((n : Int) + (p : Int)) % 18446744073709551616 = ((n + p : Nat) : Int) := by omega
  have e3 : (((n + p : Nat) : Int) + (c : Int)) % 18446744073709551616 = ((n + p + c : Nat) : Int) := by omega
  have hlo : loP n a b c = (n + p + c) % 4294967296 := by rw [loP, hp]
  have hhi : hiP n a b c = (n + p + c) / 4294967296 := by rw [hiP, hp]
  rw [← hp] at hle
  rw [hlo, hhi]
  clear hlo hhi hp hpi
  obtain ⟨q, hq⟩ : ∃ q : Nat, q = n + p := ⟨_, rfl⟩
  obtain ⟨r, hr⟩ : ∃ r : Nat, r = q + c := ⟨_, rfl⟩
  rw [← hq] at e2 e3 hle ⊢
  rw [← hr] at e3 hle ⊢
  clear hq hr
  rw [← IntKind.wrap_u64] at e1 e2 e3
  go_enter Try.func47, Try.ntmps47
  go_wp2
  go_ret2
  refine ⟨?_, rfl⟩
  congr 3 <;> omega
end Go.Proofs.Ytodialbopochdaa
