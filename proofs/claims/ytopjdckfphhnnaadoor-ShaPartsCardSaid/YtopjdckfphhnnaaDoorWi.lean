import Derived.Test.YtopjdckfphhnnaaDoorWh
import Derived.Test.YtopjdckfphhnnaaDoorShaK
import Derived.Lib.SlBytesConst
namespace Go.Proofs.YtopjdckfphhnnaaDoor
open Go.RowKit
attribute [local go_sem] zeros32b

set_option maxRecDepth 100000 in
set_option maxHeartbeats 1000000 in
theorem wp_build_zero {w : World} {ops : Array Oper} {rest : List Oper} {op : Oper} {a : Act} {Q : Exit → Act → World → Prop} (hg : op.guard = none) (ho : op.op = .build 24 #[])
    (h : wpList Tryd.prog ops Q rest (a.put op.dst (.agg (tab 32 zeroB))) w) : wpList Tryd.prog ops Q (op :: rest) a w := by
  have e : (Tryd.prog.built 24 []) = some (tab 32 zeroB) := by kernel_rfl
  refine wpList_build hg 24 #[] ho (by simp [e]) ?_
  simpa [e] using h
set_option maxRecDepth 100000 in
set_option maxHeartbeats 1000000 in
theorem sum_none (w : World) :
    Calls Tryd.prog 11 #[.pointer none] w fun e w' => e = .returned (.agg (tab 32 zeroB)) ∧ Below w.heap.size w w' := by
  have hz32 : (Tryd.prog.info? 24).map (·.size) = some (tab 32 zeroB).size := by rw [tab_size]; kernel_rfl
  go_enter Tryd.func11, Tryd.ntmps11
  go_wp2_with (first | refine wp_build_zero rfl rfl ?_ | refine wpList_store_row rfl 24 (.tmp 2) (.tmp 6) rfl w.heap.size (tab 32 zeroB) rfl rfl 24 _ (Has.new' rfl) hz32 rfl (tab_oneCell _ _ fun _ => rfl) ?_)
  exact bodyPost_ret (v := .agg (tab 32 zeroB)) (results_cell_row rfl _ _ w.heap.size 24 _ _ _ rfl ((Has.new' (w := w) (cs := tab 32 zeroB) rfl).setRow _) Tryd.underlying24 rfl hz32) rfl ⟨rfl, below_setRow ((Below.refl _ _).alloc (Nat.le_refl _) _) (Nat.le_refl _) _⟩

set_option maxRecDepth 100000 in
set_option maxHeartbeats 1000000 in
theorem of_any (bs : List UInt8) (A : Option Addr) (n c : Nat) (w : World) (hT : Tabs w) (hS : SlA w A n c bs) (hlen : bs.length ≤ 1000000) :
    Calls Tryd.prog 7 #[.slice A n c] w fun e w' => e = .returned (.agg (tab 32 fun j => by8 (shaOf bs j))) ∧ Below w.heap.size w w' := by
  have hz32 : (Tryd.prog.info? 24).map (·.size) = some (tab 32 fun j => by8 (shaOf bs j)).size := by rw [tab_size]; kernel_rfl
  have h0 : Has (w.alloc (.cells (tab 32 zeroB) 24)) w.heap.size 24 (tab 32 zeroB) := Has.new' rfl
  have hb0 := (Below.refl w.heap.size w).alloc (Nat.le_refl _) (.cells (tab 32 zeroB) 24)
  have hz : (w.alloc (.cells (tab 32 zeroB) 24)).heap.size = w.heap.size + 1 := by simp
  have HT := Lib.hid hT
  clear hT
  go_enter Tryd.func7, Tryd.ntmps7
  go_wp2_with fail
  obtain ⟨w0, hw0⟩ : ∃ w0, w0 = w.alloc (.cells (tab 32 zeroB) 24) := ⟨_, rfl⟩
  rw [← hw0] at h0 hb0 hz ⊢
  clear hw0
  refine (new_any w0 (HT.out.below hb0)).mono ?_
  rintro e w1 ⟨rfl, h1, hb1⟩
  have h01 := h0.below hb1 h0.lt
  have hb01 := hb0.trans (hb1.mono (by omega))
  have hsl := hS.apart hb01 w0.heap.size (by omega)
  have hs1 := hb1.size
  have Hz := Lib.hid hz
  clear hz h0 hb0 hb1
  go_wp2_with fail
  have hz := Hz.out
  refine (write_any w0.heap.size [] bs _ _ _ w1 (HT.out.below hb01) (by have := HT.out.size; omega) h1 hsl (by simp; omega)).mono ?_
  rintro e w2 ⟨rfl, h2, hg2⟩
  have h02 : Has w2 w.heap.size 24 (tab 32 zeroB) := (hg2.block w.heap.size h01.lt (by simp; omega)).trans h01
  have hb02 := below_only hb01 hg2 (by omega) (by omega)
  have hs2 := hg2.size
  rw [List.nil_append] at h2
  have hlt2 : w0.heap.size < w2.heap.size := by
    obtain ⟨r, hh, _⟩ := h2
    exact hh.lt
  clear h01 hb01 hsl h1 hg2 hz
  go_wp2_with (first | (go_at_call 11; refine (sum_any w0.heap.size bs _ (HT.out.below hb02) hlt2 h2 (by omega)).mono ?_; rintro e w3 ⟨rfl, hb3⟩; have h03 := h02.below hb3 h02.lt) | refine wpList_store_row rfl 24 (.tmp 2) (.tmp 9) rfl w.heap.size (tab 32 fun j => by8 (shaOf bs j)) rfl rfl 24 _ h03 hz32 (by rw [tab_size, tab_size]) (tab_oneCell _ _ fun _ => rfl) ?_)
  exact bodyPost_ret (v := .agg (tab 32 fun j => by8 (shaOf bs j))) (results_cell_row rfl _ _ w.heap.size 24 _ _ _ rfl (h03.setRow _) Tryd.underlying24 rfl hz32) rfl ⟨rfl, below_setRow (hb02.trans (hb3.mono (by have := Hz.out; omega))) (Nat.le_refl _) _⟩

set_option maxRecDepth 100000 in
set_option maxHeartbeats 1000000 in
theorem fit_any (w : World) (hT : Tabs w) :
    Calls Tryd.prog 6 #[] w fun e w' => e = .returned (.bool true) ∧ Below w.heap.size w w' := by
  have HT := Lib.hid hT
  clear hT
  go_enter Tryd.func6, Tryd.ntmps6
  have hconv := fun (w : World) (C : Array Value) (n c : Nat) => Lib.run_convert_bytes_const (P := Tryd.prog) w 22 5 C n c Tryd.underlying22 Tryd.underlying5
  have hz32 : (Tryd.prog.info? 24).map (·.size) = some (tab 32 fun j => by8 (shaOf [97, 98, 99] j)).size := by rw [tab_size]; kernel_rfl
  have hb0 := (Below.refl w.heap.size w).alloc (Nat.le_refl _) (.cells #[Value.int IntKind.u8 97, Value.int IntKind.u8 98, Value.int IntKind.u8 99] 5 (3, 4))
  have hsl : SlA (w.alloc (.cells #[Value.int IntKind.u8 97, Value.int IntKind.u8 98, Value.int IntKind.u8 99] 5 (3, 4))) (some ⟨w.heap.size, 0, none⟩) 3 3 [97, 98, 99] := by
    refine ⟨rfl, Nat.le_refl _, fun _ => ⟨_, _, rfl, by simp, fun j hj => ?_⟩⟩
    rw [Nat.zero_add, World.cell?_alloc_mark]
    match j, hj with
    | 0, _ => rfl
    | 1, _ => rfl
    | 2, _ => rfl
  go_wp2_with fail
  refine (of_any [97, 98, 99] _ _ _ _ (HT.out.below hb0) hsl (by simp)).mono ?_
  rintro e w1 ⟨rfl, hb1⟩
  have hb01 := hb0.trans (hb1.mono (by simp))
  clear hsl hb0 hb1
  go_upto_region 2 with (refine wpList_store_row rfl 24 (.tmp 1) (.tmp 4) rfl w1.heap.size (tab 32 fun j => by8 (shaOf [97, 98, 99] j)) rfl rfl 24 _ (Has.new' rfl) hz32 (by rw [tab_size, tab_size]) (tab_oneCell _ _ fun _ => rfl) ?_)
  have h1 : Has ((w1.alloc (.cells (tab 32 zeroB) 24)).setRow w1.heap.size (tab 32 fun j => by8 (shaOf [97, 98, 99] j))) w1.heap.size 24 (tab 32 fun j => by8 (shaOf [97, 98, 99] j)) := (Has.new' rfl).setRow _
  have hb2 := below_setRow (hb01.alloc hb01.size (.cells (tab 32 zeroB) 24)) (g := w1.heap.size) hb01.size (tab 32 fun j => by8 (shaOf [97, 98, 99] j))
  generalize (w1.alloc (.cells (tab 32 zeroB) 24)).setRow w1.heap.size (tab 32 fun j => by8 (shaOf [97, 98, 99] j)) = w2 at *
  have hk := abc
  simp only [Prod.mk.injEq] at hk
  have c0 : w2.cell? ⟨w1.heap.size, 0, none⟩ = some (.int .u8 186) := (h1.cellTab 0 (by omega)).trans (by rw [hk.1]; rfl)
  have c1 : w2.cell? ⟨w1.heap.size, 1, none⟩ = some (.int .u8 120) := (h1.cellTab 1 (by omega)).trans (by rw [hk.2.1]; rfl)
  have c31 : w2.cell? ⟨w1.heap.size, 31, none⟩ = some (.int .u8 173) := (h1.cellTab 31 (by omega)).trans (by rw [hk.2.2]; rfl)
  clear hk h1 hz32 hconv
  go_wp2_with fail
  go_ret
  exact ⟨rfl, hb2⟩
end Go.Proofs.YtopjdckfphhnnaaDoor
