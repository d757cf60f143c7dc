/-
Layer 6: BytesPlaces.
-/
import Derived.Test.YtjlnenelhnpnnaaByA
namespace Go.Proofs.Ytjlnenelhnpnnaa
open Go Go.RowKit

theorem apB_comm (a n b m : Nat) : apB b m a n = apB a n b m := by
  unfold apB
  rw [Nat.min_comm, Nat.max_comm]
theorem in_apart {a n b m : Nat} (h1 : inB a n b m = true) (h2 : apB a n b m = true) : n = 0 ∨ m = 0 := by
  unfold inB at h1
  unfold apB at h2
  have h1 := of_decide_eq_true h1
  have h2 := of_decide_eq_true h2
  by_cases h3 : n = 0
  · exact .inl h3
  · by_cases h4 : m = 0
    · exact .inr h4
    · rw [Nat.min_eq_left h1.2, Nat.max_eq_left h1.1] at h2
      omega
theorem load_u32 (g j : Nat) (v : Value) (w : World) (h : w.cell? ⟨g, j, none⟩ = some v) : (Instr.loadAt 32 (.pointer (some ⟨g, j, none⟩))).run Try.prog w = .ok v w := by
  go_simp
section
variable {Is : World → Nat → Nat → Nat → List UInt8 → Nat → Bool → Prop}
set_option maxRecDepth 100000 in
set_option maxHeartbeats 2000000 in
theorem places6_ok (H : BytesOK Is) (a n b m : Nat) (w : World) (ha : a < 4294967296) (hn : n < 4294967296) (hb : b < 4294967296) (hm : m < 4294967296) :
    Calls Try.prog 5 #[.int .u32 (a : Int), .int .u32 (n : Int), .agg #[.int .u32 (b : Int), .int .u32 (m : Int)]] w fun e w' => e = .returned (.bool true) ∧ Below w.heap.size w w' := by
  have hG : Has (w.alloc (.cells #[.int .u32 (b : Int), .int .u32 (m : Int)] 41)) w.heap.size 41 #[.int .u32 (b : Int), .int .u32 (m : Int)] := Has.new w _ _
  have hb0 : Below w.heap.size w (w.alloc (.cells #[.int .u32 (b : Int), .int .u32 (m : Int)] 41)) := (Below.refl _ _).alloc (Nat.le_refl _) _
  have kW := fun W => rwithin_any a n b m W ha hn hb hm
  have kA := fun W => rapart_any a n b m W ha hn hb hm
  have kW2 := fun W => H.within_ok a n b m W ha hn hb hm
  have kA2 := fun W => H.apart_ok a n b m W ha hn hb hm
  have kA3 := fun W => H.apart_ok b m a n W hb hm ha hn
  have hia := @in_apart a n b m
  rw [apB_comm] at kA3
  generalize inB a n b m = r1 at *
  generalize apB a n b m = r2 at *
  have HIA := Lib.hid hia
  clear hia
  go_enter Try.func5, Try.ntmps5
  go_wp2_with fail
  refine (fit6_any H _).mono ?_
  rintro e u1 ⟨rfl, hy⟩
  replace hb0 := below_trans hb0 hy
  replace hG := hG.after hy
  clear hy
  go_wp2_with fail
  refine region_quiet_tail (Below u1.heap.size u1) 5 (by kernel_rfl) (by kernel_rfl) (below_drewN (Below.refl _ _) 1) ?_
  simp only [List.take_succ_cons, List.take_zero, List.drop_succ_cons, List.drop_zero]
  refine wpQ_val rfl (.pointer (some ⟨w.heap.size, 0, none⟩)) (fun w' _ => by go_simp) ?_
  simp only [Act.put, List.setIfInBounds_toArray, List.set_cons_zero, List.set_cons_succ]
  refine wpQ_load 32 (.tmp 13) rfl rfl (.pointer (some ⟨w.heap.size, 0, none⟩)) rfl (.int .u32 (b : Int)) (fun w' hC => load_u32 _ _ _ w' (((hG.after hC).cell 0).trans rfl)) ?_
  simp only [Act.put, List.setIfInBounds_toArray, List.set_cons_zero, List.set_cons_succ]
  refine wpQ_val rfl (.pointer (some ⟨w.heap.size, 1, none⟩)) (fun w' _ => by go_simp) ?_
  simp only [Act.put, List.setIfInBounds_toArray, List.set_cons_zero, List.set_cons_succ]
  refine wpQ_load 32 (.tmp 15) rfl rfl (.pointer (some ⟨w.heap.size, 1, none⟩)) rfl (.int .u32 (m : Int)) (fun w' hC => load_u32 _ _ _ w' (((hG.after hC).cell 1).trans rfl)) ?_
  simp only [Act.put, List.setIfInBounds_toArray, List.set_cons_zero, List.set_cons_succ]
  refine wpQ_assign _ rfl rfl (.int .u32 (b : Int)) rfl ?_
  simp only [Act.put, List.setIfInBounds_toArray, List.set_cons_zero, List.set_cons_succ]
  refine wpQuiet_nil ?_
  intro u2 hC
  replace hb0 := below_trans hb0 hC
  clear hC hG
  go_wp2_with fail
  refine (kW _).mono ?_
  rintro e u3 ⟨rfl, hy⟩
  replace hb0 := below_trans hb0 hy
  clear hy
  go_wp2_with fail
  refine (kA _).mono ?_
  rintro e u4 ⟨rfl, hy⟩
  replace hb0 := below_trans hb0 hy
  clear hy
  go_wp2_with fail
  refine (kW2 _).mono ?_
  rintro e u5 ⟨rfl, hy⟩
  replace hb0 := below_trans hb0 hy
  clear hy
  go_wp2_with fail
  refine (kA2 _).mono ?_
  rintro e u6 ⟨rfl, hy⟩
  replace hb0 := below_trans hb0 hy
  clear hy
  go_wp2_with fail
  refine (kA3 _).mono ?_
  rintro e u7 ⟨rfl, hy⟩
  replace hb0 := below_trans hb0 hy
  clear hy
  clear kW kA kW2 kA2 kA3
  cases r1 with
  | false =>
    go_wp2_with fail
    go_ret
    exact ⟨rfl, hb0⟩
  | true =>
    cases r2 with
    | false =>
      go_wp2_with fail
      go_ret
      exact ⟨rfl, hb0⟩
    | true =>
      have hia := HIA.out rfl rfl
      clear HIA
      by_cases h0 : n = 0
      · subst h0
        go_wp2_with fail
        go_ret
        exact ⟨rfl, hb0⟩
      · obtain rfl : m = 0 := by omega
        have hd : ((n : Int) == 0) = false := beq_eq_false_iff_ne.2 (by omega)
        go_wp2_with fail
        go_ret
        exact ⟨rfl, hb0⟩
end
end Go.Proofs.Ytjlnenelhnpnnaa
