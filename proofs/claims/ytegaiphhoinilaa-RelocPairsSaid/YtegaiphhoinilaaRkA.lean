/-
Package reloc: Upper, address, changed, reaches.
-/
import Derived.Test.YtegaiphhoinilaaRcJ
import Derived.Test.YtegaiphhoinilaaIqB
namespace Go.Proofs.Ytegaiphhoinilaa.Rc
open Go Go.RowKit

/-- a program's cells -/
def prC (en B : Nat) (sg rl sy sp : Sl) : Array Value := #[.int .u32 (en : Int), sg.v, rl.v, sy.v, .int .u32 (B : Int), sp.v]
theorem up_and (v : Nat) (_h : v < 4294967296) : bits .andNot .u32 (((v : Int) + 2048) % 4294967296) 4095 = ((upP v : Nat) : Int) := by
  have e : ((v : Int) + 2048) % 4294967296 = (((v + 2048) % 4294967296 : Nat) : Int) := by omega
  have hl : (v + 2048) % 4294967296 < 4294967296 := by omega
  rw [e, show (4095 : Int) = ((4095 : Nat) : Int) from rfl, u32_andNot_nat _ _ hl (by decide)]
  refine congrArg (fun n : Nat => (n : Int)) ?_
  unfold upP
  generalize (v + 2048) % 4294967296 = x at *
  refine eq_bits (Nat.lt_of_le_of_lt Nat.and_le_left hl) (by omega) fun i hi => ?_
  rw [show x - x % 4096 = x / 2 ^ 12 * 2 ^ 12 by omega, Nat.testBit_and, Nat.testBit_mul_two_pow, Nat.testBit_div_two_pow]
  rw [show (4294967295 - 4095 : Nat) = 2 ^ 32 - (4095 + 1) by decide, Nat.testBit_two_pow_sub_succ (by decide), show (4095 : Nat) = 2 ^ 12 - 1 by decide, Nat.testBit_two_pow_sub_one]
  by_cases h12 : 12 ≤ i
  · rw [show i - 12 + 12 = i by omega]
    simp [h12, hi, Nat.not_lt.2 h12]
  · simp [h12, Nat.lt_of_not_le h12]
set_option maxRecDepth 100000 in
set_option maxHeartbeats 1000000 in
theorem kupper_any (v : Nat) (w : World) (hv : v < 4294967296) :
    Calls Try.prog 20 #[.int .u32 (v : Int)] w fun e w' => e = .returned (.int .u32 ((upP v : Nat) : Int)) ∧ w = w' := by
  have hand := up_and v hv
  generalize upP v = u at *
  go_enter Try.func20, Try.ntmps20
  go_wp2_with fail
  go_ret
  exact ⟨rfl, rfl⟩
/-- a program and a relocation in memory of one's own -/
theorem two_new (w : World) (en B : Nat) (sg rl sy sp : Sl) (r : Re) : ∃ u, u = (w.alloc (.cells (prC en B sg rl sy sp) 64)).alloc (.cells (reC r) 43) ∧ Has u w.heap.size 64 (prC en B sg rl sy sp) ∧ Has u (w.heap.size + 1) 43 (reC r) ∧ Below w.heap.size w u ∧ u.heap.size = w.heap.size + 2 := by
  have s1 : (w.alloc (.cells (prC en B sg rl sy sp) 64)).heap.size = w.heap.size + 1 := Array.size_push _
  have h1 : Has (w.alloc (.cells (prC en B sg rl sy sp) 64)) w.heap.size 64 (prC en B sg rl sy sp) := Has.new _ _ _
  have b1 : Below w.heap.size w (w.alloc (.cells (prC en B sg rl sy sp) 64)) := (Below.refl _ _).alloc (Nat.le_refl _) _
  have h2 : Has ((w.alloc (.cells (prC en B sg rl sy sp) 64)).alloc (.cells (reC r) 43)) (w.alloc (.cells (prC en B sg rl sy sp) 64)).heap.size 43 (reC r) := Has.new _ _ _
  rw [s1] at h2
  exact ⟨_, rfl, h1.after ((Below.refl _ _).alloc (Nat.le_refl _) _), h2, b1.alloc b1.size _, size_two _ _ _⟩
set_option maxRecDepth 100000 in
set_option maxHeartbeats 1000000 in
theorem address_any (en B : Nat) (sg rl sy sp : Sl) (r : Re) (w : World) (_hB : B < 4294967296) (_hp : r.p < 4294967296) :
    Calls Try.prog 43 #[.agg (prC en B sg rl sy sp), .agg (reC r)] w fun e w' => e = .returned (.int .u32 ((atP B r : Nat) : Int)) ∧ Below w.heap.size w w' := by
  obtain ⟨u, hu, hP, hR, hb, hz⟩ := two_new w en B sg rl sy sp r
  have c4 : u.cell? ⟨w.heap.size, 4, none⟩ = some (.int .u32 (B : Int)) := hP.cell 4
  have r0 : u.cell? ⟨w.heap.size + 1, 0, none⟩ = some (.int .u32 (r.p : Int)) := hR.cell 0
  have hs : ((B : Int) + (r.p : Int)) % 4294967296 = ((atP B r : Nat) : Int) := by unfold atP; omega
  generalize atP B r = x at *
  clear hP hR hz
  go_enter Try.func43, Try.ntmps43
  go_upto_region 1 with fail
  rw [← hu]
  clear hu
  generalize r.p = p at *
  go_wp2_with fail
  go_ret
  exact ⟨congrArg (fun z => Ending.returned (Value.int .u32 z)) hs, hb⟩
/-- how many bytes a type changes -/
def chP (t : Int) : Nat := if kindB t = true then lenP t else 0
set_option maxRecDepth 100000 in
set_option maxHeartbeats 4000000 in
theorem changed_any (t : Int) (w : World) :
    Calls Try.prog 44 #[.int .i64 t] w fun e w' => e = .returned (.int .u32 ((chP t : Nat) : Int)) ∧ w = w' := by
  by_cases ht : okT t
  · rcases ht with rfl | rfl | rfl | rfl | rfl | rfl | rfl | rfl | rfl | rfl | rfl | rfl
    all_goals
      go_enter Try.func44, Try.ntmps44
      go_wp2_with fail
      go_ret
      exact ⟨rfl, rfl⟩
  · have f : ∀ k : Int, (k = 1 ∨ k = 3 ∨ k = 16 ∨ k = 17 ∨ k = 18 ∨ k = 19 ∨ k = 23 ∨ k = 24 ∨ k = 25 ∨ k = 26 ∨ k = 27 ∨ k = 28) → (t == k) = false := fun k hk => beq_eq_false_iff_ne.2 (fun h => ht (by subst h; exact hk))
    have f1 := f 1 (by decide)
    have f3 := f 3 (by decide)
    have f16 := f 16 (by decide)
    have f17 := f 17 (by decide)
    have f18 := f 18 (by decide)
    have f19 := f 19 (by decide)
    have f23 := f 23 (by decide)
    have f24 := f 24 (by decide)
    have f25 := f 25 (by decide)
    have f26 := f 26 (by decide)
    have f27 := f 27 (by decide)
    have f28 := f 28 (by decide)
    have hc : chP t = 0 := by
      unfold chP
      rw [show kindB t = false from decide_eq_false ht]
      rfl
    rw [hc]
    clear f ht hc
    go_enter Try.func44, Try.ntmps44
    go_wp2_with fail
    go_ret
    exact ⟨rfl, rfl⟩
theorem wrap_sg (v : Nat) (h : v < 4294967296) : wrap32 (v : Int) = sgP v := by unfold wrap32 sgP; split <;> omega
set_option maxRecDepth 100000 in
set_option maxHeartbeats 4000000 in
theorem reaches_any (v most : Nat) (w : World) (hv : v < 4294967296) (h1 : 0 < most) (hm : most ≤ 1048576) :
    Calls Try.prog 56 #[.int .u32 (v : Int), .int .i32 (most : Int)] w fun e w' => e = .returned (.bool (wayB v most)) ∧ w = w' := by
  have hw := wayB_iff v most hv (by omega)
  have hz := sgP_in v hv
  have hs := wrap_sg v hv
  generalize sgP v = z at *
  obtain ⟨z1, z2⟩ := hz
  have hn : wrap32 (-(most : Int)) = -(most : Int) := by unfold wrap32; omega
  by_cases t1 : z % 2 = 0
  · have d1 : (z.tmod 2 == 0) = true := by
      simp only [beq_iff_eq]; rw [Int.tmod_eq_emod]; split <;> omega
    have d2 : (z % 2 == 0) = true := by simp only [beq_iff_eq]; exact t1
    by_cases t2 : -(most : Int) ≤ z
    · by_cases t3 : z < (most : Int)
      · rw [hw.2 ⟨t1, t2, t3⟩]
        clear hw t1
        go_enter Try.func56, Try.ntmps56
        go_wp2_with fail
        go_ret
        exact ⟨rfl, rfl⟩
      · rw [Bool.eq_false_iff.2 (fun h => t3 (hw.1 h).2.2)]
        clear hw t1
        go_enter Try.func56, Try.ntmps56
        go_wp2_with fail
        go_ret
        exact ⟨rfl, rfl⟩
    · rw [Bool.eq_false_iff.2 (fun h => t2 (hw.1 h).2.1)]
      clear hw t1
      go_enter Try.func56, Try.ntmps56
      go_wp2_with fail
      go_ret
      exact ⟨rfl, rfl⟩
  · have d1 : (z.tmod 2 == 0) = false := by
      simp only [beq_eq_false_iff_ne, ne_eq]; rw [Int.tmod_eq_emod]; split <;> omega
    have d2 : (z % 2 == 0) = false := by simp only [beq_eq_false_iff_ne, ne_eq]; exact t1
    rw [Bool.eq_false_iff.2 (fun h => t1 (hw.1 h).1)]
    clear hw t1
    go_enter Try.func56, Try.ntmps56
    go_wp2_with fail
    go_ret
    exact ⟨rfl, rfl⟩
end Go.Proofs.Ytegaiphhoinilaa.Rc
