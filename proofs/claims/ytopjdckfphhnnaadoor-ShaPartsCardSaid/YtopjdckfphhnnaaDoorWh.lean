import Derived.Test.YtopjdckfphhnnaaDoorWg
import Derived.Deep.DeepCutAuto
namespace Go.Proofs.YtopjdckfphhnnaaDoor
open Go.RowKit

/-- the slice value reads as the bytes bs, in a block that is there -/
def SlA (w : World) (A : Option Addr) (n c : Nat) (bs : List UInt8) : Prop :=
  bs.length = n ∧ n ≤ c ∧ (0 < n → ∃ b o, A = some ⟨b, o, none⟩ ∧ b < w.heap.size ∧ ∀ j, j < n → w.cell? ⟨b, o + j, none⟩ = some (by8 (bs.getD j 0)))
theorem SlA.apart {w w' : World} {A : Option Addr} {n c : Nat} {bs : List UInt8} (h : SlA w A n c bs) (hb : Below w.heap.size w w') (g : Nat) (hg : w.heap.size ≤ g) : SlB w' g A n c bs := by
  refine ⟨h.1, h.2.1, fun hn => ?_⟩
  obtain ⟨b, o, rfl, hlt, hc⟩ := h.2.2 hn
  exact ⟨b, o, rfl, by omega, Nat.lt_of_lt_of_le hlt hb.size, fun j hj => (hb.cell (p := ⟨b, o + j, none⟩) hlt).trans (hc j hj)⟩
theorem SlA.below {w w' : World} {A : Option Addr} {n c : Nat} {bs : List UInt8} (h : SlA w A n c bs) (hb : Below w.heap.size w w') : SlA w' A n c bs := by
  refine ⟨h.1, h.2.1, fun hn => ?_⟩
  obtain ⟨b, o, rfl, hlt, hc⟩ := h.2.2 hn
  exact ⟨b, o, rfl, Nat.lt_of_lt_of_le hlt hb.size, fun j hj => (hb.cell (p := ⟨b, o + j, none⟩) hlt).trans (hc j hj)⟩
theorem below_only {a b c : World} {g B : Nat} (h : Below B a b) (k : b.grownBy c (some g)) (hg : B ≤ g) (hB : B ≤ b.heap.size) : Below B a c := h.trans (below_of_only k hg hB)

/-- an array by value out of the middle of a block -/
theorem wp_load_tab {P : Program} {w : World} {ops : Array Oper} {rest : List Oper} {op : Oper} {a : Act} {Q : Exit → Act → World → Prop} (hgd : op.guard = none) (ty : TypeId) (x : Operand) (ho : op.op = .load ty x)
    (b off : Nat) (hx : a.eval x = .pointer (some ⟨b, off, none⟩)) (n : Nat) (f : Nat → Value) (d : TypeDesc) (hc : w.rangeAt b off ((List.range n).map f))
    (hu : P.underlying ty = some d) (hd : d.isRow = true) (hi : (P.info? ty).map (·.size) = some n)
    (h : wpList P ops Q rest (a.put op.dst (.agg (tab n f))) w) : wpList P ops Q (op :: rest) a w :=
  wpList_load_mid hgd ty x ho b off hx _ d hc hu hd (by simpa using hi) h

theorem write_none (A : Option Addr) (n c : Nat) (w : World) :
    Calls Tryd.prog 10 #[.pointer none, .slice A n c] w fun e w' => e = .returned (.tuple #[]) ∧ w = w' := by
  go_enter Tryd.func10, Tryd.ntmps10
  go_wp2_with fail
  exact bodyPost_ret (results_none rfl _ _ _) rfl ⟨rfl, rfl⟩

theorem hc_one (s : Nat → UInt32) (r : Nat → UInt8) (L j : Nat) : (hc s r L j).oneCell' = true := by
  unfold hc
  by_cases h : j < 8
  · rw [if_pos h]; rfl
  · rw [if_neg h]
    by_cases h2 : j < 72
    · rw [if_pos h2]; rfl
    · rw [if_neg h2]; rfl
theorem info24 : (Tryd.prog.info? 24).map (fun i => (i.zero, i.size)) = some (some (.agg (tab 32 zeroB)), 32) := by kernel_rfl
attribute [local go_sem] zeros32b

set_option maxRecDepth 100000 in
set_option maxHeartbeats 1000000 in
theorem sum_any (g : Nat) (m : List UInt8) (w : World) (hT : Tabs w) (hg : g < w.heap.size) (hH : HashIs w g m) (hlen : m.length ≤ 1000000) :
    Calls Tryd.prog 11 #[.pointer (some ⟨g, 0, none⟩)] w fun e w' => e = .returned (.agg (tab 32 fun j => by8 (shaOf m j))) ∧ Below w.heap.size w w' := by
  have HT := Lib.hid hT
  clear hT
  obtain ⟨st, hst⟩ : ∃ st, foldSt (m ++ padOf m) ((m ++ padOf m).length / 64) = st := ⟨_, rfl⟩
  have hsha : (fun j => by8 (shaOf m j)) = fun j => by8 (dig st j) := by rw [← hst]; rfl
  rw [hsha]
  have Hst := Lib.hid hst
  clear hst hsha
  obtain ⟨r, hh, hr⟩ := hH
  have hz44 := (zero_of_info info44).1
  have hz73 : (Tryd.prog.info? 44).map (·.size) = some (tab 73 (hc (foldSt m (m.length / 64)) r m.length)).size := by rw [tab_size]; kernel_rfl
  go_enter Tryd.func11, Tryd.ntmps11
  go_upto_region 4 with (first | refine wpList_load_row rfl 44 (.tmp 8) rfl g rfl 44 _ _ _ (hh.alloc _) Tryd.underlying44 rfl hz73 ?_ | refine wpList_store_row rfl 44 (.tmp 3) (.tmp 9) rfl (w.heap.size + 1) _ rfl rfl 44 _ (Has.new' (by simp)) hz73 (by rw [tab_size, tab_size]) (tab_oneCell _ _ (hc_one _ _ _)) ?_)
  have hcL := (Has.farRow (k := w.heap.size + 1) ((hh.alloc (.cells (tab 32 zeroB) 24)).alloc (.cells (tab 73 zeroH) 44)) (by omega) (tab 73 (hc (foldSt m (m.length / 64)) r m.length))).cellTab 72 (by omega)
  have h2 : Has (((w.alloc (.cells (tab 32 zeroB) 24)).alloc (.cells (tab 73 zeroH) 44)).setRow (w.heap.size + 1) (tab 73 (hc (foldSt m (m.length / 64)) r m.length))) (w.heap.size) 24 (tab 32 zeroB) := ((Has.new' rfl).alloc _).farRow (by omega) _
  have h3 : HashIs (((w.alloc (.cells (tab 32 zeroB) 24)).alloc (.cells (tab 73 zeroH) 44)).setRow (w.heap.size + 1) (tab 73 (hc (foldSt m (m.length / 64)) r m.length))) (w.heap.size + 1) m :=
    ⟨r, (Has.new' (cs := tab 73 zeroH) (t := 44) (by simp)).setRow _, hr⟩
  have hb := below_setRow (((Below.refl w.heap.size w).alloc (Nat.le_refl _) (.cells (tab 32 zeroB) 24)).alloc (by simp) (.cells (tab 73 zeroH) 44)) (g := w.heap.size + 1) (by omega) (tab 73 (hc (foldSt m (m.length / 64)) r m.length))
  have hsz : (((w.alloc (.cells (tab 32 zeroB) 24)).alloc (.cells (tab 73 zeroH) 44)).setRow (w.heap.size + 1) (tab 73 (hc (foldSt m (m.length / 64)) r m.length))).heap.size = w.heap.size + 2 := by simp
  have hL : hc (foldSt m (m.length / 64)) r m.length 72 = .int .u64 (m.length : Int) := by simp [hc]
  rw [hL] at hcL
  generalize ((w.alloc (.cells (tab 32 zeroB) 24)).alloc (.cells (tab 73 zeroH) 44)).setRow (w.heap.size + 1) (tab 73 (hc (foldSt m (m.length / 64)) r m.length)) = w1 at *
  have Hsz := Lib.hid hsz
  clear hsz hL hz44 hz73 hh hr
  have hpl := padLen_le m.length
  go_wp2_with (first | (go_at_call 15; refine (padding_any m.length _ (by omega)).mono ?_; rintro e w2 ⟨rfl, hpad, hb2⟩))
  have h1s := Hsz.out
  have hb12 := hb.trans (hb2.mono (by omega))
  have hsl : SlB w2 (w.heap.size + 1) (some ⟨w1.heap.size, 0, none⟩) (padLen m.length) (padLen m.length) (padOf m) := by
    refine ⟨padOf_length m, Nat.le_refl _, fun _ => ⟨_, _, rfl, by omega, hpad.lt, fun j hj => ?_⟩⟩
    rw [Nat.zero_add, hpad.cellTab j hj, padOf_get m j hj]
  have h3' : HashIs w2 (w.heap.size + 1) m := by
    obtain ⟨r, hh, hr⟩ := h3
    exact ⟨r, hh.below hb2 hh.lt, hr⟩
  have h2' := h2.below hb2 h2.lt
  have hT2 : Tabs w2 := HT.out.below hb12
  have hs2 : w1.heap.size ≤ w2.heap.size := hb2.size
  have hgt := hT2.size
  refine (write_any (w.heap.size + 1) m (padOf m) _ _ _ w2 hT2 (by have := HT.out.size; omega) h3' hsl (by rw [padOf_length]; omega)).mono ?_
  rintro e w3 ⟨rfl, h3w, hg3⟩
  have hb13 := below_only hb12 hg3 (by omega) (by omega)
  have h2w : Has w3 w.heap.size 24 (tab 32 zeroB) := (hg3.block w.heap.size h2'.lt (by simp)).trans h2'
  obtain ⟨r3, hh3, _⟩ := h3w
  clear h2 h2' h3 h3' hpad hsl hT2 hb hb2 hb12 hcL hgt
  have hr8 := hh3.range 0 8 (by omega)
  rw [hc_lo] at hr8
  have hz32 : (Tryd.prog.info? 24).map (·.size) = some (tab 32 fun j => by8 (dig st j)).size := by rw [tab_size]; kernel_rfl
  rw [Hst.out] at hr8
  clear hh3
  have hsz3 : w1.heap.size ≤ w3.heap.size := Nat.le_trans hs2 hg3.size
  go_wp2_with (first | (refine wp_load_tab rfl 41 (.tmp 16) rfl (w.heap.size + 1) 0 rfl 8 _ _ hr8 Tryd.underlying41 rfl (by kernel_rfl) ?_) | (go_at_call 16; refine (digest_any st _).mono ?_; rintro e w4 ⟨rfl, hb4⟩; have h2z := h2w.below hb4 h2w.lt) | refine wpList_store_row rfl 24 (.tmp 2) (.tmp 18) rfl w.heap.size (tab 32 fun j => by8 (dig st j)) rfl rfl 24 _ h2z hz32 (by rw [tab_size, tab_size]) (tab_oneCell _ _ fun _ => rfl) ?_)
  exact bodyPost_ret (v := .agg (tab 32 fun j => by8 (dig st j))) (results_cell_row rfl _ _ w.heap.size 24 _ _ _ rfl (h2z.setRow _) Tryd.underlying24 rfl hz32) rfl ⟨rfl, below_setRow (hb13.trans (hb4.mono (by omega))) (Nat.le_refl _) _⟩
end Go.Proofs.YtopjdckfphhnnaaDoor
