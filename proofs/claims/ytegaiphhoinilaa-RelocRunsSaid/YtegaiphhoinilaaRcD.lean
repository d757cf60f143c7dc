/-
Layer 13: the reference's May.
-/
import Derived.Test.YtegaiphhoinilaaRcC
namespace Go.Proofs.Ytegaiphhoinilaa.Rc
open Go Go.RowKit

/-- a relocation as a value -/
def reC (r : Re) : Array Value := #[.int .u32 (r.p : Int), .int .i64 r.t, .int .i64 r.s, .int .u32 (r.a : Int)]
def okT (t : Int) : Prop := t = 1 ∨ t = 3 ∨ t = 16 ∨ t = 17 ∨ t = 18 ∨ t = 19 ∨ t = 23 ∨ t = 24 ∨ t = 25 ∨ t = 26 ∨ t = 27 ∨ t = 28
def kL (t : Int) : Nat := if t = 18 ∨ t = 19 then 8 else 4
theorem kL_le (t : Int) : kL t ≤ 8 := by unfold kL; split <;> omega
theorem mayP_eq (B : Nat) (l : List (Nat × Nat)) (p : Nat) (t s : Int) (a : Nat) (ht : okT t) : mayP B l ⟨p, t, s, a⟩ = (inSp l ((B + p) % 4294967296) (kL t) && !(decide (3 < t) && decide ((B + p) % 4294967296 % 4 ≠ 0)) && !(decide (t = 3) && decide (s ≠ 0))) := by
  unfold mayP
  rw [show kindB t = true from decide_eq_true ht]
  rfl
set_option maxRecDepth 100000 in
set_option maxHeartbeats 8000000 in
theorem may_yes (p : Nat) (t s' : Int) (a B : Nat) (l : List (Nat × Nat)) (s : Sl) (w : World) (hS : SlP w s l) (hp : p < 4294967296) (hB : B < 4294967296) (ht : okT t) :
    Calls Try.prog 24 #[.agg (reC ⟨p, t, s', a⟩), .int .i64 (B : Int), s.v] w fun e w' => e = .returned (.bool (mayP B l ⟨p, t, s', a⟩)) ∧ Below w.heap.size w w' := by
  rw [mayP_eq B l p t s' a ht]
  obtain ⟨A, m, c⟩ := s
  have hF : Has (w.alloc (.cells (reC ⟨p, t, s', a⟩) 43)) w.heap.size 43 (reC ⟨p, t, s', a⟩) := Has.new _ _ _
  have hbu : Below w.heap.size w (w.alloc (.cells (reC ⟨p, t, s', a⟩) 43)) := (Below.refl _ _).alloc (Nat.le_refl _) _
  have hS2 := hS.below hbu
  have hl := low_any ((B : Int) + (p : Int))
  rw [low_at] at hl
  have hx : (B + p) % 4294967296 < 4294967296 := by omega
  generalize (B + p) % 4294967296 = x at *
  have kW : ∀ W, Below (w.alloc (.cells (reC ⟨p, t, s', a⟩) 43)).heap.size (w.alloc (.cells (reC ⟨p, t, s', a⟩) 43)) W → Calls Try.prog 47 #[.slice A m c, .int .i64 (x : Int), .int .i64 ((kL t : Nat) : Int)] W fun e w' => e = .returned (.bool (inSp l x (kL t))) ∧ Below W.heap.size W w' := fun W hW => within_any l ⟨A, m, c⟩ x (kL t) W (hS2.below hW) hx (kL_le t)
  generalize inSp l x (kL t) = q at *
  have KW := Lib.hid kW
  have HBU := Lib.hid hbu
  have HF := Lib.hid hF
  clear hS hS2 kW hbu hF
  have hlt : w.heap.size < (w.alloc (.cells (reC ⟨p, t, s', a⟩) 43)).heap.size := HF.out.lt
  have HLT := Lib.hid hlt
  clear hlt
  obtain ⟨y, hy⟩ : ∃ y : Bool, y = decide (x % 4 ≠ 0) := ⟨_, rfl⟩
  obtain ⟨z, hz⟩ : ∃ z : Bool, z = decide (s' ≠ 0) := ⟨_, rfl⟩
  have hy1 : ((x : Int).tmod 4 != 0) = y := by
    rw [hy, Int.tmod_eq_emod, if_pos (Or.inl (by omega))]
    by_cases h : x % 4 = 0
    · rw [decide_eq_false (by simpa using h), show (x : Int) % 4 = 0 by omega]; rfl
    · rw [decide_eq_true (by simpa using h)]; exact bne_iff_ne.2 (by omega)
  have hy2 : ((x : Int) % 4 != 0) = y := by
    rw [hy]
    by_cases h : x % 4 = 0
    · rw [decide_eq_false (by simpa using h), show (x : Int) % 4 = 0 by omega]; rfl
    · rw [decide_eq_true (by simpa using h)]; exact bne_iff_ne.2 (by omega)
  have hz1 : (s' != 0) = z := by
    rw [hz]
    by_cases h : s' = 0
    · rw [decide_eq_false (by simpa using h), h]; rfl
    · rw [decide_eq_true (by simpa using h)]; exact bne_iff_ne.2 h
  rw [← hy, ← hz]
  clear hy hz
  have HC0 : Hid ((w.alloc (.cells (reC ⟨p, t, s', a⟩) 43)).cell? ⟨w.heap.size, 0, none⟩ = some (.int .u32 (p : Int))) := Lib.hid (HF.out.cell 0)
  have HC1 : Hid ((w.alloc (.cells (reC ⟨p, t, s', a⟩) 43)).cell? ⟨w.heap.size, 1, none⟩ = some (.int .i64 t)) := Lib.hid (HF.out.cell 1)
  have HC2 : Hid ((w.alloc (.cells (reC ⟨p, t, s', a⟩) 43)).cell? ⟨w.heap.size, 2, none⟩ = some (.int .i64 s')) := Lib.hid (HF.out.cell 2)
  clear HF
  rcases ht with rfl | rfl | rfl | rfl | rfl | rfl | rfl | rfl | rfl | rfl | rfl | rfl
  all_goals
    cases q <;> cases y <;> cases z
  all_goals
    go_enter Try.func24, Try.ntmps24
    go_upto_region 1 with fail
    have hc0 := HC0.out
    have hc1 := HC1.out
    have hc2 := HC2.out
    generalize w.alloc (.cells (reC ⟨p, _, s', a⟩) 43) = u at *
    go_wp2_with fail
    refine (hl _ (by omega) (by omega)).mono ?_
    rintro e u0 ⟨rfl, rfl⟩
    dsimp only
    go_wp2_with fail
    refine (KW.out _ (Below.refl _ _)).mono ?_
    rintro e u3 ⟨rfl, hb3⟩
    have c1 := (hb3.cell (p := ⟨w.heap.size, 1, none⟩) HLT.out).trans hc1
    have c2 := (hb3.cell (p := ⟨w.heap.size, 2, none⟩) HLT.out).trans hc2
    have HB3 := Lib.hid hb3
    clear hc0 hc1 hc2 hb3
    dsimp only
    go_wp2_with fail
    go_ret
    exact ⟨rfl, HBU.out.trans (HB3.out.mono HBU.out.size)⟩
end Go.Proofs.Ytegaiphhoinilaa.Rc
