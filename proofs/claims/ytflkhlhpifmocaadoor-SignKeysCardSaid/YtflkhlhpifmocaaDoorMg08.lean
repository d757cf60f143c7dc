/-
The reference of layer 5: Verify, a further case.
The reference's roots as plain functions on words of 64 bits, in the order of its own text.

The reference's roots are the program's tables: by the kernel.
The primes that the reference finds by trying.

Appends of bytes onto a row of the call's own; cells that lie in a block, known one by one.
The padded message, byte by byte.
The reference counts words of 32 bits on 64 bits: sums there, cut back to 32 bits.
-/
import Derived.Test.YtflkhlhpifmocaaDoorMg00
import Derived.Test.YtflkhlhpifmocaaDoorMg04
import Derived.Test.YtflkhlhpifmocaaDoorMg05
import Derived.Test.YtflkhlhpifmocaaDoorMg07
import Derived.WalkSpells
import Derived.WalkLawsBesides
import Derived.Outline
import Derived.Deep.QuietTactic
import Derived.BigQuiet
import Derived.BigRegion
import Derived.Lib.Hide
import Derived.IntWalk
import Derived.OwnWalk
import Derived.Laws.OwnMore
import Derived.Laws.AppendOwnNone
namespace Go.Proofs.YtflkhlhpifmocaaDoor
open Go.RowKit

attribute [local go_sem] zero16 zero48 one16 zero32b
set_option maxRecDepth 100000 in
set_option maxHeartbeats 2000000 in
theorem ver5_ok (Ak Am : Option Addr) (nk ck nm cm X Y b o c r s m : Nat) (w : World) (hr : r < big) (hs : s < big) (hm0 : 0 < m) (hm : m < 65536 ^ 16) (hlb : b < w.heap.size) (hc : 64 ≤ c)
    (h1 : ∀ j, j < 32 → w.cell? ⟨b, o + j, none⟩ = some (.int .u8 ((byB r j : Nat) : Int))) (h2 : ∀ j, j < 32 → w.cell? ⟨b, o + 32 + j, none⟩ = some (.int .u8 ((byB s j : Nat) : Int)))
    (kK : ∀ W, Below w.heap.size w W → Calls Tryd.prog 9 #[.slice Ak nk ck] W fun e w' => e = .returned (.tuple #[.agg (ptC X Y 1), .bool true]) ∧ Below W.heap.size W w')
    (kPN : ∀ W, Calls Tryd.prog 21 #[] W fun e w' => e = .returned (.agg (d16 m)) ∧ Below W.heap.size W w') (hr0 : r ≠ 0) (hs0 : s ≠ 0) (hrb : ltB r m = true) (hsb : ltB s m = true)
    (e1 iv u1N u2N gx gy p xx yy xr q1x q1y q1z q2x q2y q2z q3x q3y q3z ev : Nat) (sm : Bool) (hev : ev < big) (hxr : xr < 65536 ^ 16)
    (kS : ∀ W, Below w.heap.size w W → Calls Tryd.prog 23 #[.slice Am nm cm] W fun e w' => e = .returned (.agg (tab 32 fun j => .int .u8 ((byB ev j : Nat) : Int))) ∧ Below W.heap.size W w')
    (kRe : ∀ W, Calls Tryd.prog 24 #[.agg (d16 ev), .agg (d16 m)] W fun e w' => e = .returned (.agg (d16 e1)) ∧ Below W.heap.size W w')
    (kI : ∀ f W, IsField W f m → Calls Tryd.prog 25 #[.pointer (some ⟨f, 0, none⟩), .agg (d16 s)] W fun e w' => e = .returned (.agg (d16 iv)) ∧ Below W.heap.size W w')
    (kPP : ∀ W, Calls Tryd.prog 26 #[] W fun e w' => e = .returned (.agg (d16 p)) ∧ Below W.heap.size W w')
    (kM1 : ∀ f W, IsField W f m → Calls Tryd.prog 30 #[.pointer (some ⟨f, 0, none⟩), .agg (d16 e1), .agg (d16 iv)] W fun e w' => e = .returned (.agg (d16 u1N)) ∧ Below W.heap.size W w')
    (kM2 : ∀ f W, IsField W f m → Calls Tryd.prog 30 #[.pointer (some ⟨f, 0, none⟩), .agg (d16 r), .agg (d16 iv)] W fun e w' => e = .returned (.agg (d16 u2N)) ∧ Below W.heap.size W w')
    (kBa : ∀ W, Calls Tryd.prog 31 #[] W fun e w' => e = .returned (.agg (ptC gx gy 1)) ∧ Below W.heap.size W w')
    (kT1 : ∀ f W, IsField W f p → Calls Tryd.prog 29 #[.pointer (some ⟨f, 0, none⟩), .agg (d16 u1N), .agg (ptC gx gy 1)] W fun e w' => e = .returned (.agg (ptC q1x q1y q1z)) ∧ Below W.heap.size W w')
    (kT2 : ∀ f W, IsField W f p → Calls Tryd.prog 29 #[.pointer (some ⟨f, 0, none⟩), .agg (d16 u2N), .agg (ptC X Y 1)] W fun e w' => e = .returned (.agg (ptC q2x q2y q2z)) ∧ Below W.heap.size W w')
    (kPl : ∀ f W, IsField W f p → Calls Tryd.prog 28 #[.pointer (some ⟨f, 0, none⟩), .agg (ptC q1x q1y q1z), .agg (ptC q2x q2y q2z)] W fun e w' => e = .returned (.agg (ptC q3x q3y q3z)) ∧ Below W.heap.size W w')
    (kPn : ∀ f W, IsField W f p → Calls Tryd.prog 27 #[.pointer (some ⟨f, 0, none⟩), .agg (ptC q3x q3y q3z)] W fun e w' => e = .returned (.tuple #[.agg (d16 xx), .agg (d16 yy), .bool sm]) ∧ Below W.heap.size W w')
    (kRx : ∀ W, Calls Tryd.prog 24 #[.agg (d16 xx), .agg (d16 m)] W fun e w' => e = .returned (.agg (d16 xr)) ∧ Below W.heap.size W w')
    (hp0 : 0 < p) (hp : p < 65536 ^ 16) :
    Calls Tryd.prog 7 #[.slice Ak nk ck, .slice Am nm cm, .slice (some ⟨b, o, none⟩) 64 c] w fun e w' => e = .returned (.int .i64 (if sm && decide (xr = r) then 0 else 4)) ∧ Below w.heap.size w w' := by
  obtain ⟨z, hz⟩ : ∃ z : Int, z = (if sm && decide (xr = r) then 0 else 4) := ⟨_, rfl⟩
  rw [← hz]
  have HZ := Lib.hid hz
  clear hz
  have r16 : r < 65536 ^ 16 := by rw [← big_hex]; exact hr
  have s16 : s < 65536 ^ 16 := by rw [← big_hex]; exact hs
  have kN1 := fun W (h : Below w.heap.size w W) => num5_any r b o c W hr (Nat.lt_of_lt_of_le hlb h.size) (fun j hj => (h.cell (p := ⟨b, o + j, none⟩) hlb).trans (h1 j hj))
  have kN2 := fun W (h : Below w.heap.size w W) => num5_any s b (o + 32) (c - 32) W hs (Nat.lt_of_lt_of_le hlb h.size) (fun j hj => (h.cell (p := ⟨b, o + 32 + j, none⟩) hlb).trans (h2 j hj))
  have kR := fun W => below5_any r m W r16 hm
  have kSb := fun W => below5_any s m W s16 hm
  have eR := fun o1 o2 W => hexEq5 o1 o2 r 0 r16 (by decide) W
  have eS := fun o1 o2 W => hexEq5 o1 o2 s 0 s16 (by decide) W
  rw [decide_eq_false hr0] at eR
  rw [decide_eq_false hs0] at eS
  rw [hrb] at kR
  rw [hsb] at kSb
  have eX := fun o1 o2 W => hexNe5 o1 o2 xr r hxr r16 W
  have kNe := fun d c W (h : d < W.heap.size) (hh : ∀ j, j < 32 → W.cell? ⟨d, 0 + j, none⟩ = some (.int .u8 ((byB ev j : Nat) : Int))) => num5_any ev d 0 c W hev h hh
  have kFp := fun W => newField_any p W hp0 hp
  clear hxr hev hp0 hp
  have HER := Lib.hid eR
  clear eR
  have HES := Lib.hid eS
  clear eS
  have HEX := Lib.hid eX
  clear eX
  have kF := fun W => newField_any m W hm0 hm
  have hsA := sliceLo b o c hc
  have hsB := sliceHi b o c hc
  clear h1 h2 hr hs hm hm0 hc hlb r16 s16 hr0 hs0 hrb hsb
  have n0 := d16_ne 0
  have hb0 := Below.refl w.heap.size w
  go_enter Tryd.func7, Tryd.ntmps7
  go_wp2_with fail
  refine (kK _ hb0).mono ?_
  rintro e u1 ⟨rfl, hx⟩
  have hz := put_new u1 39 (ptC 0 0 0) (ptC X Y 1)
  replace hb0 := below_trans (below_trans hb0 hx) hz.2
  have hQ := hz.1
  clear hx hz kK
  go_wp2_with (first | (refine wpList_store_row rfl 39 _ _ rfl u1.heap.size _ rfl rfl 39 (ptC 0 0 0) (Has.new' rfl) (infoPt _ _ _) (by simp only [ptC_size]) (tab_oneCell _ _ fun _ => rfl) ?_; generalize hWW : World.setRow _ u1.heap.size _ = U1 at *; clear hWW))
  refine region_facts 8 [] [.val (.slice (some ⟨b, o, none⟩) 64 c), .val (.slice (some ⟨b, o, none⟩) 32 c), .val (.agg (d16 r)), .val (.slice (some ⟨b, o, none⟩) 64 c), .val (.slice (some ⟨b, o + 32, none⟩) 32 (c - 32)), .val (.agg (d16 s)), .new 37 (d16 0), .new 37 (d16 0)]
    (by kernel_rfl) (by kernel_rfl) (fun _ _ _ _ _ h => h) ?_ ?_
  · simp only [List.take_succ_cons, List.take_zero, StepsOK]
    refine ⟨?_, ?_, ?_, ?_, ?_, ?_, ?_, ?_, trivial⟩
    · intro v w' hb hf K hKt
      simp only [putAll, Act.put, List.setIfInBounds_toArray, List.set_cons_zero, List.set_cons_succ, Nat.zero_add, Nat.reduceAdd] at hKt ⊢
      go_simp
      exact hKt _ (Below.refl _ _)
    · intro v w' hb hf K hKt
      have f0 : v 0 = _ := hf ⟨0, .data⟩ (by simp) rfl
      simp only [putAll, Act.put, List.setIfInBounds_toArray, List.set_cons_zero, List.set_cons_succ, Nat.zero_add, Nat.reduceAdd] at hKt ⊢
      rw [f0] at hKt ⊢
      go_simp
      exact hKt _ (Below.refl _ _)
    · intro v w' hb hf K hKt
      have f1 : v 1 = _ := hf ⟨1, .data⟩ (by simp) rfl
      simp only [putAll, Act.put, List.setIfInBounds_toArray, List.set_cons_zero, List.set_cons_succ, Nat.zero_add, Nat.reduceAdd] at hKt ⊢
      rw [f1] at hKt ⊢
      go_simp
      refine (kN1 w' (below_trans hb0 hb)).mono ?_
      rintro e w'' ⟨rfl, hb2⟩
      exact hKt _ hb2
    · intro v w' hb hf K hKt
      simp only [putAll, Act.put, List.setIfInBounds_toArray, List.set_cons_zero, List.set_cons_succ, Nat.zero_add, Nat.reduceAdd] at hKt ⊢
      go_simp
      exact hKt _ (Below.refl _ _)
    · intro v w' hb hf K hKt
      have f3 : v 3 = _ := hf ⟨3, .data⟩ (by simp) rfl
      simp only [putAll, Act.put, List.setIfInBounds_toArray, List.set_cons_zero, List.set_cons_succ, Nat.zero_add, Nat.reduceAdd] at hKt ⊢
      rw [f3] at hKt ⊢
      go_simp
      exact hKt _ (Below.refl _ _)
    · intro v w' hb hf K hKt
      have f4 : v 4 = _ := hf ⟨4, .data⟩ (by simp) rfl
      simp only [putAll, Act.put, List.setIfInBounds_toArray, List.set_cons_zero, List.set_cons_succ, Nat.zero_add, Nat.reduceAdd] at hKt ⊢
      rw [f4] at hKt ⊢
      go_simp
      refine (kN2 w' (below_trans hb0 hb)).mono ?_
      rintro e w'' ⟨rfl, hb2⟩
      exact hKt _ hb2
    · exact ⟨rfl, rfl, zeroV16⟩
    · exact ⟨rfl, rfl, zeroV16⟩
  intro v u2 hb hF hD
  have f0 : v 0 = _ := hF 0 (by decide)
  have f1 : v 1 = _ := hF 1 (by decide)
  have f2 : v 2 = _ := hF 2 (by decide)
  have f3 : v 3 = _ := hF 3 (by decide)
  have f4 : v 4 = _ := hF 4 (by decide)
  have f5 : v 5 = _ := hF 5 (by decide)
  obtain ⟨gr, f6, hg6, hl6, hz6⟩ := hF 6 (by decide)
  replace hz6 : Has u2 gr 37 (d16 0) := hz6
  obtain ⟨gs, f7, hg7, hl7, hz7⟩ := hF 7 (by decide)
  replace hz7 : Has u2 gs 37 (d16 0) := hz7
  have hne6_7 : gr ≠ gs := fun h => hD 6 7 (by decide) (by decide) (by decide) rfl rfl (by rw [f6, f7, h])
  simp only [List.take_succ_cons, List.take_zero, List.drop_succ_cons, List.drop_zero, putAll, Act.put, List.setIfInBounds_toArray, List.set_cons_zero, List.set_cons_succ, Nat.zero_add, Nat.reduceAdd]
  rw [f0, f1, f2, f3, f4, f5, f6, f7]
  clear hF hD f0 f1 f2 f3 f4 f5 f6 f7
  have hs6 := hz6
  have hs7 := (hz7).farRow (k := gr) (by omega) (d16 r)
  have hBW := below_setRow (below_setRow (hb) (g := gr) hg6 (d16 r)) (g := gs) hg7 (d16 s)
  have hRr := ((hz6).setRow (d16 r)).farRow (k := gs) (by omega) (d16 s)
  have hSs := ((hz7).farRow (k := gr) (by omega) (d16 r)).setRow (d16 s)
  replace hQ := hQ.after hBW
  replace hb0 := below_trans hb0 hBW
  go_wp2_with (first | refine wpList_store_row rfl 37 _ _ rfl gr _ rfl rfl 37 (d16 0) hs6 (info16 _) (by simp only [d16_size]) (tab_oneCell _ _ fun _ => rfl) ?_ | (refine wpList_store_row rfl 37 _ _ rfl gs _ rfl rfl 37 (d16 0) hs7 (info16 _) (by simp only [d16_size]) (tab_oneCell _ _ fun _ => rfl) ?_; generalize hWW : World.setRow _ gs _ = U2 at *; clear hWW))
  clear hBW hb hs6 hz6   hs7 hz7  
  clear kN1 kN2 hsA hsB
  refine (kPN _).mono ?_
  rintro e u3 ⟨rfl, hx⟩
  replace hQ := hQ.after hx; replace hRr := hRr.after hx; replace hSs := hSs.after hx; replace hb0 := below_trans hb0 hx
  clear hx kPN
  go_wp2_with fail
  refine (kF _).mono ?_
  rintro e u4 ⟨⟨fn, rfl, hF⟩, hx⟩
  replace hQ := hQ.after hx; replace hRr := hRr.after hx; replace hSs := hSs.after hx; replace hb0 := below_trans hb0 hx
  clear hx kF
  go_wp2_with fail
  refine region_quiet_tail (Below u4.heap.size u4) 25 (by kernel_rfl) (by kernel_rfl) (below_drewN (Below.refl _ _) 1) ?_
  simp only [List.take_succ_cons, List.take_zero, List.drop_succ_cons, List.drop_zero]
  refine WQ.out ?_
  refine WQ.lift (wpQ_has 37 _ rfl _ rfl rfl 37 _ (fun w' hC => hRr.after hC) _ Tryd.underlying37 rfl (info16 _)) ?_
  simp only [Act.put, List.setIfInBounds_toArray, List.set_cons_zero, List.set_cons_succ]
  refine WQ.lift (wpQ_build 37 rfl rfl (.agg (d16 0)) (fun w' _ => buildZ w')) ?_
  simp only [Act.put, List.setIfInBounds_toArray, List.set_cons_zero, List.set_cons_succ]
  refine WQ.lift (wpQ_bin _ _ _ _ _ rfl rfl (.agg (d16 r)) (.agg (d16 0)) rfl rfl (.bool false) (fun w' _ => HER.out _ _ w')) ?_
  simp only [Act.put, List.setIfInBounds_toArray, List.set_cons_zero, List.set_cons_succ]
  refine WQ.lift (wpQ_move _ rfl rfl (.bool false) rfl) ?_
  simp only [Act.put, List.setIfInBounds_toArray, List.set_cons_zero, List.set_cons_succ]
  refine WQ.lift (wpQ_has 37 _ rfl _ rfl rfl 37 _ (fun w' hC => hSs.after hC) _ Tryd.underlying37 rfl (info16 _)) ?_
  simp only [Act.put, List.setIfInBounds_toArray, List.set_cons_zero, List.set_cons_succ]
  refine WQ.lift (wpQ_build 37 rfl rfl (.agg (d16 0)) (fun w' _ => buildZ w')) ?_
  simp only [Act.put, List.setIfInBounds_toArray, List.set_cons_zero, List.set_cons_succ]
  refine WQ.lift (wpQ_bin _ _ _ _ _ rfl rfl (.agg (d16 s)) (.agg (d16 0)) rfl rfl (.bool false) (fun w' _ => HES.out _ _ w')) ?_
  simp only [Act.put, List.setIfInBounds_toArray, List.set_cons_zero, List.set_cons_succ]
  refine WQ.lift (wpQ_pick _ _ _ rfl rfl false rfl (.bool false) rfl) ?_
  simp only [Act.put, List.setIfInBounds_toArray, List.set_cons_zero, List.set_cons_succ]
  refine WQ.lift (wpQ_move _ rfl rfl (.bool false) rfl) ?_
  simp only [Act.put, List.setIfInBounds_toArray, List.set_cons_zero, List.set_cons_succ]
  refine WQ.lift (wpQ_has 37 _ rfl _ rfl rfl 37 _ (fun w' hC => hRr.after hC) _ Tryd.underlying37 rfl (info16 _)) ?_
  simp only [Act.put, List.setIfInBounds_toArray, List.set_cons_zero, List.set_cons_succ]
  refine WQ.lift (wpQ_move _ rfl rfl (.pointer (some ⟨fn, 0, none⟩)) rfl) ?_
  simp only [Act.put, List.setIfInBounds_toArray, List.set_cons_zero, List.set_cons_succ]
  refine WQ.lift (wpQ_val rfl (.pointer (some ⟨fn, 0, none⟩)) (fun w' _ => by go_simp)) ?_
  simp only [Act.put, List.setIfInBounds_toArray, List.set_cons_zero, List.set_cons_succ]
  refine WQ.lift (wpQ_val rfl (.pointer (some ⟨fn, 0, none⟩)) (fun w' _ => by go_simp)) ?_
  simp only [Act.put, List.setIfInBounds_toArray, List.set_cons_zero, List.set_cons_succ]
  refine WQ.lift (wpQ_load_hex rfl _ rfl fn 0 rfl m (fun w' hC => fld_mod (show Has w' fn 61 (fldC m 16) from hF.after hC))) ?_
  simp only [Act.put, List.setIfInBounds_toArray, List.set_cons_zero, List.set_cons_succ]
  refine WQ.lift (wpQ_fn 22 _ _ rfl rfl #[.agg (d16 r), .agg (d16 m)] rfl (fun _ => by go_simp) (.bool true) (fun w' hC => (kR w').mono fun e w'' ⟨he, hb⟩ => ⟨he, below_class hC hb⟩)) ?_
  simp only [Act.put, List.setIfInBounds_toArray, List.set_cons_zero, List.set_cons_succ]
  refine WQ.lift (wpQ_un _ _ _ rfl rfl (.bool true) rfl (.bool false) (fun w' _ => notB true w')) ?_
  simp only [Act.put, List.setIfInBounds_toArray, List.set_cons_zero, List.set_cons_succ]
  refine WQ.lift (wpQ_pick _ _ _ rfl rfl false rfl (.bool false) rfl) ?_
  simp only [Act.put, List.setIfInBounds_toArray, List.set_cons_zero, List.set_cons_succ]
  refine WQ.lift (wpQ_move _ rfl rfl (.bool false) rfl) ?_
  simp only [Act.put, List.setIfInBounds_toArray, List.set_cons_zero, List.set_cons_succ]
  refine WQ.lift (wpQ_has 37 _ rfl _ rfl rfl 37 _ (fun w' hC => hSs.after hC) _ Tryd.underlying37 rfl (info16 _)) ?_
  simp only [Act.put, List.setIfInBounds_toArray, List.set_cons_zero, List.set_cons_succ]
  refine WQ.lift (wpQ_move _ rfl rfl (.pointer (some ⟨fn, 0, none⟩)) rfl) ?_
  simp only [Act.put, List.setIfInBounds_toArray, List.set_cons_zero, List.set_cons_succ]
  refine WQ.lift (wpQ_val rfl (.pointer (some ⟨fn, 0, none⟩)) (fun w' _ => by go_simp)) ?_
  simp only [Act.put, List.setIfInBounds_toArray, List.set_cons_zero, List.set_cons_succ]
  refine WQ.lift (wpQ_val rfl (.pointer (some ⟨fn, 0, none⟩)) (fun w' _ => by go_simp)) ?_
  simp only [Act.put, List.setIfInBounds_toArray, List.set_cons_zero, List.set_cons_succ]
  refine WQ.lift (wpQ_load_hex rfl _ rfl fn 0 rfl m (fun w' hC => fld_mod (show Has w' fn 61 (fldC m 16) from hF.after hC))) ?_
  simp only [Act.put, List.setIfInBounds_toArray, List.set_cons_zero, List.set_cons_succ]
  refine WQ.lift (wpQ_fn 22 _ _ rfl rfl #[.agg (d16 s), .agg (d16 m)] rfl (fun _ => by go_simp) (.bool true) (fun w' hC => (kSb w').mono fun e w'' ⟨he, hb⟩ => ⟨he, below_class hC hb⟩)) ?_
  simp only [Act.put, List.setIfInBounds_toArray, List.set_cons_zero, List.set_cons_succ]
  refine WQ.lift (wpQ_un _ _ _ rfl rfl (.bool true) rfl (.bool false) (fun w' _ => notB true w')) ?_
  simp only [Act.put, List.setIfInBounds_toArray, List.set_cons_zero, List.set_cons_succ]
  refine WQ.mk (wpQuiet_nil ?_)
  intro u5 hC
  replace hQ := hQ.after hC; replace hRr := hRr.after hC; replace hSs := hSs.after hC; replace hb0 := below_trans hb0 hC; replace hF := hF.after hC
  clear hC
  clear HER HES kR kSb
  go_wp2_with fail
  refine (kS _ hb0).mono ?_
  rintro e u6 ⟨rfl, hx⟩
  have hz := put_new u6 62 (tab 32 fun _ => .int .u8 0) (tab 32 fun j => .int .u8 ((byB ev j : Nat) : Int))
  replace hQ := (hQ.after hx).after hz.2; replace hRr := (hRr.after hx).after hz.2; replace hSs := (hSs.after hx).after hz.2; replace hF := (hF.after hx).after hz.2; replace hb0 := below_trans (below_trans hb0 hx) hz.2
  have hD := hz.1
  have hsC := sliceAll u6.heap.size
  clear hx hz kS
  go_wp2_with (first | (refine wpList_store_row rfl 62 _ _ rfl u6.heap.size _ rfl rfl 62 (tab 32 fun _ => .int .u8 0) (Has.new' (by simp)) (infA32 _) (by simp only [tab_size]) (tab_oneCell _ _ fun _ => rfl) ?_; generalize hWW : World.setRow _ u6.heap.size _ = U6 at *; clear hWW))
  refine region_facts 8 [] [.val (.slice (some ⟨u6.heap.size, 0, none⟩) 32 32), .val (.agg (d16 ev)), .val (.pointer (some ⟨fn, 0, none⟩)), .val (.pointer (some ⟨fn, 0, none⟩)), .val (.pointer (some ⟨fn, 0, none⟩)), .val (.agg (d16 m)), .val (.agg (d16 e1)), .new 37 (d16 0)]
    (by kernel_rfl) (by kernel_rfl) (fun _ _ _ _ _ h => h) ?_ ?_
  · simp only [List.take_succ_cons, List.take_zero, StepsOK]
    refine ⟨?_, ?_, ?_, ?_, ?_, ?_, ?_, ?_, trivial⟩
    · intro v w' hb hf K hKt
      simp only [putAll, Act.put, List.setIfInBounds_toArray, List.set_cons_zero, List.set_cons_succ, Nat.zero_add, Nat.reduceAdd] at hKt ⊢
      go_simp
      exact hKt _ (Below.refl _ _)
    · intro v w' hb hf K hKt
      have f0 : v 0 = _ := hf ⟨0, .data⟩ (by simp) rfl
      simp only [putAll, Act.put, List.setIfInBounds_toArray, List.set_cons_zero, List.set_cons_succ, Nat.zero_add, Nat.reduceAdd] at hKt ⊢
      rw [f0] at hKt ⊢
      go_simp
      refine (kNe _ _ w' (hD.after hb).lt (fun j hj => by rw [Nat.zero_add]; exact (hD.after hb).cellTab j hj)).mono ?_
      rintro e w'' ⟨rfl, hb2⟩
      exact hKt _ hb2
    · intro v w' hb hf K hKt
      simp only [putAll, Act.put, List.setIfInBounds_toArray, List.set_cons_zero, List.set_cons_succ, Nat.zero_add, Nat.reduceAdd] at hKt ⊢
      go_simp
      exact hKt _ (Below.refl _ _)
    · intro v w' hb hf K hKt
      have f2 : v 2 = _ := hf ⟨2, .data⟩ (by simp) rfl
      simp only [putAll, Act.put, List.setIfInBounds_toArray, List.set_cons_zero, List.set_cons_succ, Nat.zero_add, Nat.reduceAdd] at hKt ⊢
      rw [f2] at hKt ⊢
      go_simp
      exact hKt _ (Below.refl _ _)
    · intro v w' hb hf K hKt
      have f3 : v 3 = _ := hf ⟨3, .data⟩ (by simp) rfl
      simp only [putAll, Act.put, List.setIfInBounds_toArray, List.set_cons_zero, List.set_cons_succ, Nat.zero_add, Nat.reduceAdd] at hKt ⊢
      rw [f3] at hKt ⊢
      go_simp
      exact hKt _ (Below.refl _ _)
    · intro v w' hb hf K hKt
      have f4 : v 4 = _ := hf ⟨4, .data⟩ (by simp) rfl
      simp only [putAll, Act.put, List.setIfInBounds_toArray, List.set_cons_zero, List.set_cons_succ, Nat.zero_add, Nat.reduceAdd] at hKt ⊢
      rw [f4] at hKt ⊢
      exact wp_load_hex _ rfl (fn) 0 rfl m (fld_mod (show Has w' fn 61 (fldC m 16) from hF.after hb)) (hKt _ (Below.refl _ _))
    · intro v w' hb hf K hKt
      have f1 : v 1 = _ := hf ⟨1, .data⟩ (by simp) rfl
      have f5 : v 5 = _ := hf ⟨5, .data⟩ (by simp) rfl
      simp only [putAll, Act.put, List.setIfInBounds_toArray, List.set_cons_zero, List.set_cons_succ, Nat.zero_add, Nat.reduceAdd] at hKt ⊢
      rw [f1, f5] at hKt ⊢
      go_simp
      refine (kRe w').mono ?_
      rintro e w'' ⟨rfl, hb2⟩
      exact hKt _ hb2
    · exact ⟨rfl, rfl, zeroV16⟩
  intro v u7 hb hF hD
  have f0 : v 0 = _ := hF 0 (by decide)
  have f1 : v 1 = _ := hF 1 (by decide)
  have f2 : v 2 = _ := hF 2 (by decide)
  have f3 : v 3 = _ := hF 3 (by decide)
  have f4 : v 4 = _ := hF 4 (by decide)
  have f5 : v 5 = _ := hF 5 (by decide)
  have f6 : v 6 = _ := hF 6 (by decide)
  obtain ⟨ge, f7, hg7, hl7, hz7⟩ := hF 7 (by decide)
  replace hz7 : Has u7 ge 37 (d16 0) := hz7
  simp only [List.take_succ_cons, List.take_zero, List.drop_succ_cons, List.drop_zero, putAll, Act.put, List.setIfInBounds_toArray, List.set_cons_zero, List.set_cons_succ, Nat.zero_add, Nat.reduceAdd]
  rw [f0, f1, f2, f3, f4, f5, f6, f7]
  clear hF hD f0 f1 f2 f3 f4 f5 f6 f7
  have hs7 := hz7
  have hBW := below_setRow (hb) (g := ge) hg7 (d16 e1)
  have hE := (hz7).setRow (d16 e1)
  replace hQ := hQ.after hBW
  replace hRr := hRr.after hBW
  replace hSs := hSs.after hBW
  replace hF := hF.after hBW
  replace hb0 := below_trans hb0 hBW
  go_wp2_with (first | (refine wpList_store_row rfl 37 _ _ rfl ge _ rfl rfl 37 (d16 0) hs7 (info16 _) (by simp only [d16_size]) (tab_oneCell _ _ fun _ => rfl) ?_; generalize hWW : World.setRow _ ge _ = U7 at *; clear hWW) | refine wpList_load_has 37 _ rfl _ rfl rfl 37 _ hSs _ Tryd.underlying37 rfl (info16 _) ?_)
  clear hBW hb hs7 hz7  
  clear hsC kNe kRe hD
  refine (kI _ _ hF).mono ?_
  rintro e u8 ⟨rfl, hx⟩
  have hz := put_new u8 37 (d16 0) (d16 iv)
  replace hQ := (hQ.after hx).after hz.2; replace hRr := (hRr.after hx).after hz.2; replace hSs := (hSs.after hx).after hz.2; replace hF := (hF.after hx).after hz.2; replace hE := (hE.after hx).after hz.2; replace hb0 := below_trans (below_trans hb0 hx) hz.2
  have hV := hz.1
  clear hx hz kI
  go_wp2_with (first | (refine wpList_store_row rfl 37 _ _ rfl u8.heap.size _ rfl rfl 37 (d16 0) (Has.new' (by simp)) (info16 _) (by simp only [d16_size]) (tab_oneCell _ _ fun _ => rfl) ?_; generalize hWW : World.setRow _ u8.heap.size _ = U8 at *; clear hWW))
  refine (kPP _).mono ?_
  rintro e u9 ⟨rfl, hx⟩
  replace hQ := hQ.after hx; replace hRr := hRr.after hx; replace hSs := hSs.after hx; replace hF := hF.after hx; replace hE := hE.after hx; replace hV := hV.after hx; replace hb0 := below_trans hb0 hx
  clear hx kPP
  go_wp2_with fail
  refine (kFp _).mono ?_
  rintro e u10 ⟨⟨fp, rfl, hFp⟩, hx⟩
  replace hQ := hQ.after hx; replace hRr := hRr.after hx; replace hSs := hSs.after hx; replace hF := hF.after hx; replace hE := hE.after hx; replace hV := hV.after hx; replace hb0 := below_trans hb0 hx
  clear hx kFp
  go_wp2_with fail
  refine region_facts 24 [20, 21] [.val (.pointer (some ⟨fp, 0, none⟩)), .val (.pointer (some ⟨fp, 0, none⟩)), .val (.pointer (some ⟨fp, 0, none⟩)), .val (.pointer (some ⟨fn, 0, none⟩)), .val (.agg (d16 e1)), .val (.agg (d16 iv)), .val (.agg (d16 u1N)), .val (.agg (ptC gx gy 1)), .val (.agg (ptC q1x q1y q1z)), .val (.pointer (some ⟨fp, 0, none⟩)), .val (.pointer (some ⟨fn, 0, none⟩)), .val (.agg (d16 r)), .val (.agg (d16 iv)), .val (.agg (d16 u2N)), .val (.agg (ptC X Y 1)), .val (.agg (ptC q2x q2y q2z)), .val (.agg (ptC q3x q3y q3z)), .val (.tuple #[.agg (d16 xx), .agg (d16 yy), .bool sm]), .val (.tuple #[.agg (d16 xx), .agg (d16 yy), .bool sm]), .val (.agg (d16 xx)), .val (.agg (d16 yy)), .val (.bool sm), .new 37 (d16 0), .new 37 (d16 0)]
    (by kernel_rfl) (by kernel_rfl) (fun _ _ _ _ _ h => h) ?_ ?_
  · simp only [List.take_succ_cons, List.take_zero, StepsOK]
    refine ⟨?_, ?_, ?_, ?_, ?_, ?_, ?_, ?_, ?_, ?_, ?_, ?_, ?_, ?_, ?_, ?_, ?_, ?_, ?_, ?_, ?_, ?_, ?_, ?_, trivial⟩
    · intro v w' hb hf K hKt
      simp only [putAll, Act.put, List.setIfInBounds_toArray, List.set_cons_zero, List.set_cons_succ, Nat.zero_add, Nat.reduceAdd] at hKt ⊢
      go_simp
      exact hKt _ (Below.refl _ _)
    · intro v w' hb hf K hKt
      simp only [putAll, Act.put, List.setIfInBounds_toArray, List.set_cons_zero, List.set_cons_succ, Nat.zero_add, Nat.reduceAdd] at hKt ⊢
      go_simp
      exact hKt _ (Below.refl _ _)
    · intro v w' hb hf K hKt
      simp only [putAll, Act.put, List.setIfInBounds_toArray, List.set_cons_zero, List.set_cons_succ, Nat.zero_add, Nat.reduceAdd] at hKt ⊢
      go_simp
      exact hKt _ (Below.refl _ _)
    · intro v w' hb hf K hKt
      simp only [putAll, Act.put, List.setIfInBounds_toArray, List.set_cons_zero, List.set_cons_succ, Nat.zero_add, Nat.reduceAdd] at hKt ⊢
      go_simp
      exact hKt _ (Below.refl _ _)
    · intro v w' hb hf K hKt
      simp only [putAll, Act.put, List.setIfInBounds_toArray, List.set_cons_zero, List.set_cons_succ, Nat.zero_add, Nat.reduceAdd] at hKt ⊢
      exact wp_load_row 37 _ rfl (ge) rfl 37 _ (0, 0) _ (hE.after hb) Tryd.underlying37 rfl (info16 _) (hKt _ (Below.refl _ _))
    · intro v w' hb hf K hKt
      simp only [putAll, Act.put, List.setIfInBounds_toArray, List.set_cons_zero, List.set_cons_succ, Nat.zero_add, Nat.reduceAdd] at hKt ⊢
      exact wp_load_row 37 _ rfl (u8.heap.size) rfl 37 _ (0, 0) _ (hV.after hb) Tryd.underlying37 rfl (info16 _) (hKt _ (Below.refl _ _))
    · intro v w' hb hf K hKt
      have f3 : v 3 = _ := hf ⟨3, .data⟩ (by simp) rfl
      have f4 : v 4 = _ := hf ⟨4, .data⟩ (by simp) rfl
      have f5 : v 5 = _ := hf ⟨5, .data⟩ (by simp) rfl
      simp only [putAll, Act.put, List.setIfInBounds_toArray, List.set_cons_zero, List.set_cons_succ, Nat.zero_add, Nat.reduceAdd] at hKt ⊢
      rw [f3, f4, f5] at hKt ⊢
      go_simp
      refine (kM1 _ w' (hF.after hb)).mono ?_
      rintro e w'' ⟨rfl, hb2⟩
      exact hKt _ hb2
    · intro v w' hb hf K hKt
      simp only [putAll, Act.put, List.setIfInBounds_toArray, List.set_cons_zero, List.set_cons_succ, Nat.zero_add, Nat.reduceAdd] at hKt ⊢
      go_simp
      refine (kBa w').mono ?_
      rintro e w'' ⟨rfl, hb2⟩
      exact hKt _ hb2
    · intro v w' hb hf K hKt
      have f2 : v 2 = _ := hf ⟨2, .data⟩ (by simp) rfl
      have f6 : v 6 = _ := hf ⟨6, .data⟩ (by simp) rfl
      have f7 : v 7 = _ := hf ⟨7, .data⟩ (by simp) rfl
      simp only [putAll, Act.put, List.setIfInBounds_toArray, List.set_cons_zero, List.set_cons_succ, Nat.zero_add, Nat.reduceAdd] at hKt ⊢
      rw [f2, f6, f7] at hKt ⊢
      go_simp
      refine (kT1 _ w' (hFp.after hb)).mono ?_
      rintro e w'' ⟨rfl, hb2⟩
      exact hKt _ hb2
    · intro v w' hb hf K hKt
      simp only [putAll, Act.put, List.setIfInBounds_toArray, List.set_cons_zero, List.set_cons_succ, Nat.zero_add, Nat.reduceAdd] at hKt ⊢
      go_simp
      exact hKt _ (Below.refl _ _)
    · intro v w' hb hf K hKt
      simp only [putAll, Act.put, List.setIfInBounds_toArray, List.set_cons_zero, List.set_cons_succ, Nat.zero_add, Nat.reduceAdd] at hKt ⊢
      go_simp
      exact hKt _ (Below.refl _ _)
    · intro v w' hb hf K hKt
      simp only [putAll, Act.put, List.setIfInBounds_toArray, List.set_cons_zero, List.set_cons_succ, Nat.zero_add, Nat.reduceAdd] at hKt ⊢
      exact wp_load_row 37 _ rfl (gr) rfl 37 _ (0, 0) _ (hRr.after hb) Tryd.underlying37 rfl (info16 _) (hKt _ (Below.refl _ _))
    · intro v w' hb hf K hKt
      simp only [putAll, Act.put, List.setIfInBounds_toArray, List.set_cons_zero, List.set_cons_succ, Nat.zero_add, Nat.reduceAdd] at hKt ⊢
      exact wp_load_row 37 _ rfl (u8.heap.size) rfl 37 _ (0, 0) _ (hV.after hb) Tryd.underlying37 rfl (info16 _) (hKt _ (Below.refl _ _))
    · intro v w' hb hf K hKt
      have f10 : v 10 = _ := hf ⟨10, .data⟩ (by simp) rfl
      have f11 : v 11 = _ := hf ⟨11, .data⟩ (by simp) rfl
      have f12 : v 12 = _ := hf ⟨12, .data⟩ (by simp) rfl
      simp only [putAll, Act.put, List.setIfInBounds_toArray, List.set_cons_zero, List.set_cons_succ, Nat.zero_add, Nat.reduceAdd] at hKt ⊢
      rw [f10, f11, f12] at hKt ⊢
      go_simp
      refine (kM2 _ w' (hF.after hb)).mono ?_
      rintro e w'' ⟨rfl, hb2⟩
      exact hKt _ hb2
    · intro v w' hb hf K hKt
      simp only [putAll, Act.put, List.setIfInBounds_toArray, List.set_cons_zero, List.set_cons_succ, Nat.zero_add, Nat.reduceAdd] at hKt ⊢
      exact wp_load_row 39 _ rfl (u1.heap.size) rfl 39 _ (0, 0) _ (hQ.after hb) Tryd.underlying39 rfl (infoPt _ _ _) (hKt _ (Below.refl _ _))
    · intro v w' hb hf K hKt
      have f9 : v 9 = _ := hf ⟨9, .data⟩ (by simp) rfl
      have f13 : v 13 = _ := hf ⟨13, .data⟩ (by simp) rfl
      have f14 : v 14 = _ := hf ⟨14, .data⟩ (by simp) rfl
      simp only [putAll, Act.put, List.setIfInBounds_toArray, List.set_cons_zero, List.set_cons_succ, Nat.zero_add, Nat.reduceAdd] at hKt ⊢
      rw [f9, f13, f14] at hKt ⊢
      go_simp
      refine (kT2 _ w' (hFp.after hb)).mono ?_
      rintro e w'' ⟨rfl, hb2⟩
      exact hKt _ hb2
    · intro v w' hb hf K hKt
      have f1 : v 1 = _ := hf ⟨1, .data⟩ (by simp) rfl
      have f8 : v 8 = _ := hf ⟨8, .data⟩ (by simp) rfl
      have f15 : v 15 = _ := hf ⟨15, .data⟩ (by simp) rfl
      simp only [putAll, Act.put, List.setIfInBounds_toArray, List.set_cons_zero, List.set_cons_succ, Nat.zero_add, Nat.reduceAdd] at hKt ⊢
      rw [f1, f8, f15] at hKt ⊢
      go_simp
      refine (kPl _ w' (hFp.after hb)).mono ?_
      rintro e w'' ⟨rfl, hb2⟩
      exact hKt _ hb2
    · intro v w' hb hf K hKt
      have f0 : v 0 = _ := hf ⟨0, .data⟩ (by simp) rfl
      have f16 : v 16 = _ := hf ⟨16, .data⟩ (by simp) rfl
      simp only [putAll, Act.put, List.setIfInBounds_toArray, List.set_cons_zero, List.set_cons_succ, Nat.zero_add, Nat.reduceAdd] at hKt ⊢
      rw [f0, f16] at hKt ⊢
      go_simp
      refine (kPn _ w' (hFp.after hb)).mono ?_
      rintro e w'' ⟨rfl, hb2⟩
      exact hKt _ hb2
    · intro v w' hb hf K hKt
      have f17 : v 17 = _ := hf ⟨17, .data⟩ (by simp) rfl
      simp only [putAll, Act.put, List.setIfInBounds_toArray, List.set_cons_zero, List.set_cons_succ, Nat.zero_add, Nat.reduceAdd] at hKt ⊢
      rw [f17] at hKt ⊢
      go_simp
      exact hKt _ (Below.refl _ _)
    · intro v w' hb hf K hKt
      have f18 : v 18 = _ := hf ⟨18, .data⟩ (by simp) rfl
      simp only [putAll, Act.put, List.setIfInBounds_toArray, List.set_cons_zero, List.set_cons_succ, Nat.zero_add, Nat.reduceAdd] at hKt ⊢
      rw [f18] at hKt ⊢
      go_simp
      exact hKt _ (Below.refl _ _)
    · intro v hf w'
      obtain ⟨_, f18⟩ := hf ⟨18, .data⟩ (by simp) rfl
      replace f18 : v 18 = _ := f18
      simp only [putAll, Act.put, List.setIfInBounds_toArray, List.set_cons_zero, List.set_cons_succ, Nat.zero_add, Nat.reduceAdd]
      rw [f18]
      go_simp
    · intro v hf w'
      obtain ⟨_, f18⟩ := hf ⟨18, .data⟩ (by simp) rfl
      replace f18 : v 18 = _ := f18
      simp only [putAll, Act.put, List.setIfInBounds_toArray, List.set_cons_zero, List.set_cons_succ, Nat.zero_add, Nat.reduceAdd]
      rw [f18]
      go_simp
    · exact ⟨rfl, rfl, zeroV16⟩
    · exact ⟨rfl, rfl, zeroV16⟩
  intro v u11 hb hF hD
  have f0 : v 0 = _ := hF 0 (by decide)
  have f1 : v 1 = _ := hF 1 (by decide)
  have f2 : v 2 = _ := hF 2 (by decide)
  have f3 : v 3 = _ := hF 3 (by decide)
  have f4 : v 4 = _ := hF 4 (by decide)
  have f5 : v 5 = _ := hF 5 (by decide)
  have f6 : v 6 = _ := hF 6 (by decide)
  have f7 : v 7 = _ := hF 7 (by decide)
  have f8 : v 8 = _ := hF 8 (by decide)
  have f9 : v 9 = _ := hF 9 (by decide)
  have f10 : v 10 = _ := hF 10 (by decide)
  have f11 : v 11 = _ := hF 11 (by decide)
  have f12 : v 12 = _ := hF 12 (by decide)
  have f13 : v 13 = _ := hF 13 (by decide)
  have f14 : v 14 = _ := hF 14 (by decide)
  have f15 : v 15 = _ := hF 15 (by decide)
  have f16 : v 16 = _ := hF 16 (by decide)
  have f17 : v 17 = _ := hF 17 (by decide)
  have f18 : v 18 = _ := hF 18 (by decide)
  have f19 : v 19 = _ := hF 19 (by decide)
  have f20 : v 20 = _ := hF 20 (by decide)
  have f21 : v 21 = _ := hF 21 (by decide)
  obtain ⟨gX, f22, hg22, hl22, hz22⟩ := hF 22 (by decide)
  replace hz22 : Has u11 gX 37 (d16 0) := hz22
  obtain ⟨gY, f23, hg23, hl23, hz23⟩ := hF 23 (by decide)
  replace hz23 : Has u11 gY 37 (d16 0) := hz23
  have hne22_23 : gX ≠ gY := fun h => hD 22 23 (by decide) (by decide) (by decide) rfl rfl (by rw [f22, f23, h])
  simp only [List.take_succ_cons, List.take_zero, List.drop_succ_cons, List.drop_zero, putAll, Act.put, List.setIfInBounds_toArray, List.set_cons_zero, List.set_cons_succ, Nat.zero_add, Nat.reduceAdd]
  rw [f0, f1, f2, f3, f4, f5, f6, f7, f8, f9, f10, f11, f12, f13, f14, f15, f16, f17, f18, f19, f20, f21, f22, f23]
  clear hF hD f0 f1 f2 f3 f4 f5 f6 f7 f8 f9 f10 f11 f12 f13 f14 f15 f16 f17 f18 f19 f20 f21 f22 f23
  have hs22 := hz22
  have hs23 := (hz23).farRow (k := gX) (by omega) (d16 xx)
  have hBW := below_setRow (below_setRow (hb) (g := gX) hg22 (d16 xx)) (g := gY) hg23 (d16 yy)
  have hXx := ((hz22).setRow (d16 xx)).farRow (k := gY) (by omega) (d16 yy)
  have hYy := ((hz23).farRow (k := gX) (by omega) (d16 xx)).setRow (d16 yy)
  replace hE := hE.after hBW
  replace hQ := hQ.after hBW
  replace hRr := hRr.after hBW
  replace hV := hV.after hBW
  replace hF := hF.after hBW
  replace hb0 := below_trans hb0 hBW
  go_wp2_with (first | refine wpList_store_row rfl 37 _ _ rfl gX _ rfl rfl 37 (d16 0) hs22 (info16 _) (by simp only [d16_size]) (tab_oneCell _ _ fun _ => rfl) ?_ | (refine wpList_store_row rfl 37 _ _ rfl gY _ rfl rfl 37 (d16 0) hs23 (info16 _) (by simp only [d16_size]) (tab_oneCell _ _ fun _ => rfl) ?_; generalize hWW : World.setRow _ gY _ = U11 at *; clear hWW))
  clear hBW hb hs22 hz22   hs23 hz23  
  clear kM1 kM2 kBa kT1 kT2 kPl kPn hQ hE hV hFp hSs
  cases sm with
  | false =>
    refine region_quiet_tail (Below U11.heap.size U11) 11 (by kernel_rfl) (by kernel_rfl) (below_drewN (Below.refl _ _) 1) ?_
    simp only [List.take_succ_cons, List.take_zero, List.drop_succ_cons, List.drop_zero]
    refine WQ.out ?_
    refine WQ.lift (wpQ_move _ rfl rfl (.bool false) rfl) ?_
    simp only [Act.put, List.setIfInBounds_toArray, List.set_cons_zero, List.set_cons_succ]
    refine WQ.lift (wpQ_un _ _ _ rfl rfl (.bool false) rfl (.bool true) (fun w' _ => notB false w')) ?_
    simp only [Act.put, List.setIfInBounds_toArray, List.set_cons_zero, List.set_cons_succ]
    refine WQ.lift (wpQ_move _ rfl rfl (.bool true) rfl) ?_
    simp only [Act.put, List.setIfInBounds_toArray, List.set_cons_zero, List.set_cons_succ]
    refine WQ.skip rfl ?_
    simp only [Act.put, List.setIfInBounds_toArray, List.set_cons_zero, List.set_cons_succ]
    refine WQ.skip rfl ?_
    simp only [Act.put, List.setIfInBounds_toArray, List.set_cons_zero, List.set_cons_succ]
    refine WQ.skip rfl ?_
    simp only [Act.put, List.setIfInBounds_toArray, List.set_cons_zero, List.set_cons_succ]
    refine WQ.skip rfl ?_
    simp only [Act.put, List.setIfInBounds_toArray, List.set_cons_zero, List.set_cons_succ]
    refine WQ.skip rfl ?_
    simp only [Act.put, List.setIfInBounds_toArray, List.set_cons_zero, List.set_cons_succ]
    refine WQ.skip rfl ?_
    simp only [Act.put, List.setIfInBounds_toArray, List.set_cons_zero, List.set_cons_succ]
    refine WQ.skip rfl ?_
    simp only [Act.put, List.setIfInBounds_toArray, List.set_cons_zero, List.set_cons_succ]
    refine WQ.skip rfl ?_
    simp only [Act.put, List.setIfInBounds_toArray, List.set_cons_zero, List.set_cons_succ]
    refine WQ.mk (wpQuiet_nil ?_)
    intro u12 hC
    replace hb0 := below_trans hb0 hC
    clear hC
    have hz : z = 4 := by rw [HZ.out]; rfl
    clear HZ
    subst hz
    go_wp2_with fail
    go_ret
    exact ⟨rfl, hb0⟩
  | true =>
    refine region_quiet_tail (Below U11.heap.size U11) 11 (by kernel_rfl) (by kernel_rfl) (below_drewN (Below.refl _ _) 1) ?_
    simp only [List.take_succ_cons, List.take_zero, List.drop_succ_cons, List.drop_zero]
    refine WQ.out ?_
    refine WQ.lift (wpQ_move _ rfl rfl (.bool true) rfl) ?_
    simp only [Act.put, List.setIfInBounds_toArray, List.set_cons_zero, List.set_cons_succ]
    refine WQ.lift (wpQ_un _ _ _ rfl rfl (.bool true) rfl (.bool false) (fun w' _ => notB true w')) ?_
    simp only [Act.put, List.setIfInBounds_toArray, List.set_cons_zero, List.set_cons_succ]
    refine WQ.lift (wpQ_move _ rfl rfl (.bool false) rfl) ?_
    simp only [Act.put, List.setIfInBounds_toArray, List.set_cons_zero, List.set_cons_succ]
    refine WQ.lift (wpQ_has 37 _ rfl _ rfl rfl 37 _ (fun w' hC => hXx.after hC) _ Tryd.underlying37 rfl (info16 _)) ?_
    simp only [Act.put, List.setIfInBounds_toArray, List.set_cons_zero, List.set_cons_succ]
    refine WQ.lift (wpQ_move _ rfl rfl (.pointer (some ⟨fn, 0, none⟩)) rfl) ?_
    simp only [Act.put, List.setIfInBounds_toArray, List.set_cons_zero, List.set_cons_succ]
    refine WQ.lift (wpQ_val rfl (.pointer (some ⟨fn, 0, none⟩)) (fun w' _ => by go_simp)) ?_
    simp only [Act.put, List.setIfInBounds_toArray, List.set_cons_zero, List.set_cons_succ]
    refine WQ.lift (wpQ_val rfl (.pointer (some ⟨fn, 0, none⟩)) (fun w' _ => by go_simp)) ?_
    simp only [Act.put, List.setIfInBounds_toArray, List.set_cons_zero, List.set_cons_succ]
    refine WQ.lift (wpQ_load_hex rfl _ rfl fn 0 rfl m (fun w' hC => fld_mod (show Has w' fn 61 (fldC m 16) from hF.after hC))) ?_
    simp only [Act.put, List.setIfInBounds_toArray, List.set_cons_zero, List.set_cons_succ]
    refine WQ.lift (wpQ_fn 24 _ _ rfl rfl #[.agg (d16 xx), .agg (d16 m)] rfl (fun _ => by go_simp) (.agg (d16 xr)) (fun w' hC => (kRx w').mono fun e w'' ⟨he, hb⟩ => ⟨he, below_class hC hb⟩)) ?_
    simp only [Act.put, List.setIfInBounds_toArray, List.set_cons_zero, List.set_cons_succ]
    refine WQ.lift (wpQ_has 37 _ rfl _ rfl rfl 37 _ (fun w' hC => hRr.after hC) _ Tryd.underlying37 rfl (info16 _)) ?_
    simp only [Act.put, List.setIfInBounds_toArray, List.set_cons_zero, List.set_cons_succ]
    refine WQ.lift (wpQ_bin _ _ _ _ _ rfl rfl (.agg (d16 xr)) (.agg (d16 r)) rfl rfl (.bool (!decide (xr = r))) (fun w' _ => HEX.out _ _ w')) ?_
    simp only [Act.put, List.setIfInBounds_toArray, List.set_cons_zero, List.set_cons_succ]
    refine WQ.mk (wpQuiet_nil ?_)
    intro u12 hC
    replace hb0 := below_trans hb0 hC
    clear hC
    by_cases hd : xr = r
    · have hz : z = 0 := by rw [HZ.out, hd]; simp
      clear HZ
      subst hz
      rw [decide_eq_true hd]
      clear hd
      go_wp2_with fail
      go_ret
      exact ⟨rfl, hb0⟩
    · have hz : z = 4 := by rw [HZ.out, decide_eq_false hd]; rfl
      clear HZ
      subst hz
      rw [decide_eq_false hd]
      clear hd
      go_wp2_with fail
      go_ret
      exact ⟨rfl, hb0⟩
end Go.Proofs.YtflkhlhpifmocaaDoor
namespace Go.Proofs.YtflkhlhpifmocaaDoor
open Go

def qadd (x y : UInt64) : UInt64 := x + y
def qmul (x y : UInt64) : UInt64 := x * y
def qmod (x : UInt64) : UInt64 := x % 4294967296
def qdiv (x : UInt64) : UInt64 := x / 4294967296
theorem u64_add_w (x y : UInt64) : IntKind.u64.wrap ((x.toNat : Int) + (y.toNat : Int)) = ((qadd x y).toNat : Int) := by
  rw [qadd, UInt64.toNat_add]; simp [IntKind.wrap, IntKind.bits, IntKind.signed]
theorem u64_wrap_w (x : UInt64) : IntKind.u64.wrap (x.toNat : Int) = (x.toNat : Int) := by
  have := x.toNat_lt
  simp [IntKind.wrap, IntKind.bits, IntKind.signed]; omega
theorem u64_mul_w (x y : UInt64) : IntKind.u64.wrap ((x.toNat : Int) * (y.toNat : Int)) = ((qmul x y).toNat : Int) := by
  rw [qmul, UInt64.toNat_mul]; simp [IntKind.wrap, IntKind.bits, IntKind.signed]
theorem u64_mod_w (x : UInt64) : (x.toNat : Int) % 4294967296 = ((qmod x).toNat : Int) := by
  rw [qmod, UInt64.toNat_mod]; simp
theorem u64_tmod_w (x : UInt64) : (x.toNat : Int).tmod 4294967296 = ((qmod x).toNat : Int) := by
  rw [Int.tmod_eq_emod_of_nonneg (by omega), u64_mod_w]
theorem u64_div_w (x : UInt64) : (x.toNat : Int) / 4294967296 = ((qdiv x).toNat : Int) := by
  rw [qdiv, UInt64.toNat_div]; simp
theorem u64_tdiv_w (x : UInt64) : (x.toNat : Int).tdiv 4294967296 = ((qdiv x).toNat : Int) := by
  rw [Int.tdiv_eq_ediv_of_nonneg (by omega), u64_div_w]

def updR (t : Nat → UInt64) (i : Nat) (v : UInt64) (j : Nat) : UInt64 := if j = i then v else t j
/-- the inner loop's state, after l rounds: the digits and the carry -/
def inner (r a : Nat → UInt64) (j : Nat) (t : Nat → UInt64) : Nat → (Nat → UInt64) × UInt64
  | 0 => (t, 0)
  | l + 1 =>
    let s := inner r a j t l
    let c := qadd s.2 (qadd (s.1 (j + l)) (qmul (r j) (a l)))
    (updR s.1 (j + l) (qmod c), qdiv c)
def row (r a : Nat → UInt64) (j : Nat) (t : Nat → UInt64) : Nat → UInt64 :=
  let s := inner r a j t 2
  updR s.1 (j + 2) (qadd (s.1 (j + 2)) s.2)
def rowsTo (r a : Nat → UInt64) : Nat → Nat → UInt64
  | 0 => fun _ => 0
  | j + 1 => row r a j (rowsTo r a j)
def digA (y : UInt64) (j : Nat) : UInt64 := if j = 0 then qmod y else if j = 1 then qdiv y else 0
def digR (y : UInt64) : Nat → Nat → UInt64
  | 0 => fun j => if j = 0 then 1 else 0
  | i + 1 => rowsTo (digR y i) (digA y) 5
/-- is one of the digits from j down to k + 1 above 0? -/
def someHi (r : Nat → UInt64) (k : Nat) : Nat → Bool
  | 0 => false
  | j + 1 => if k < j + 1 then (if 0 < (r (j + 1)).toNat then true else someHi r k j) else false
/-- is one of the n digits from i on above 0? -/
def someLo (r : Nat → UInt64) : Nat → Nat → Bool
  | 0, _ => false
  | n + 1, i => if 0 < (r i).toNat then true else someLo r n (i + 1)
def aboveM (y p : UInt64) (k : Nat) : Bool :=
  if someHi (digR y k) k 5 then true
  else if (digR y k k).toNat = p.toNat then someLo (digR y k) k 0 else decide (p.toNat < (digR y k k).toNat)
/-- the root's bits, after the bits 35 down to n have been tried -/
def rootTo (p : UInt64) (k : Nat) : Nat → UInt64
  | 0 => 0
  | i + 1 =>
    let x := rootTo p k i
    let y := qadd x (UInt64.ofNat (2 ^ (35 - i)))
    if aboveM y p k then x else y
def rootM (p : UInt64) (k : Nat) : UInt64 := qmod (rootTo p k 36)
example : rootM 2 2 = 0x6A09E667 := by decide +kernel
end Go.Proofs.YtflkhlhpifmocaaDoor
namespace Go.Proofs.YtflkhlhpifmocaaDoor
open Go.RowKit
attribute [local go_sem] u64_add_w u64_mul_w u64_mod_w u64_tmod_w u64_div_w u64_tdiv_w u64_wrap_w

def qd (x : UInt64) : Value := .int .u64 (x.toNat : Int)
def zeroQ : Nat → Value := fun _ => .int .u64 0
theorem zeros8q : (#[Value.int IntKind.u64 0, Value.int IntKind.u64 0, Value.int IntKind.u64 0, Value.int IntKind.u64 0, Value.int IntKind.u64 0, Value.int IntKind.u64 0, Value.int IntKind.u64 0, Value.int IntKind.u64 0] : Array Value) = tab 8 zeroQ := by kernel_rfl
attribute [local go_sem] zeros8q

def tq (n : Nat) (f : Nat → UInt64) : Array Value := tab n fun j => qd (f j)
theorem tq_at {w : World} {g n : Nat} {t : TypeId} {f : Nat → UInt64} (h : Has w g t (tq n f)) (i : Nat) (hi : i < n) : w.cell? ⟨g, i, none⟩ = some (.int .u64 ((f i).toNat : Int)) := h.cellTab i hi
theorem tq_set (n : Nat) (f : Nat → UInt64) (i : Nat) (v : UInt64) : (tq n f).setIfInBounds i (qd v) = tq n (updR f i v) := by
  unfold tq
  rw [tab_set]
  apply tab_ext
  intro j _
  unfold updR
  by_cases h : j = i <;> simp [h]
/-- the first m digits are t's, the others r's -/
def mixD (t r : Nat → UInt64) (m j : Nat) : UInt64 := if j < m then t j else r j
theorem mixD_set (t r : Nat → UInt64) (m : Nat) : tq 6 (updR (mixD t r m) m (t m)) = tq 6 (mixD t r (m + 1)) := by
  unfold tq
  apply tab_ext
  intro j _
  unfold updR mixD
  by_cases h : j = m
  · subst h; simp
  · rw [if_neg h]
    by_cases h2 : j < m
    · rw [if_pos h2, if_pos (by omega)]
    · rw [if_neg h2, if_neg (by omega)]
theorem mixD_zero (t r : Nat → UInt64) : tq 6 (mixD t r 0) = tq 6 r := by
  unfold tq; apply tab_ext; intro j _; simp [mixD]
theorem mixD_six (t r : Nat → UInt64) : tq 6 (mixD t r 6) = tq 6 t := by
  unfold tq; apply tab_ext; intro j hj; simp [mixD, hj]

set_option maxRecDepth 100000 in
set_option maxHeartbeats 2000000 in
theorem above_any (y p : UInt64) (k : Nat) (w : World) (hk : k ≤ 3) :
    Calls Tryd.prog 92 #[.int .u64 y.toNat, .int .u64 p.toNat, .int .i64 k] w fun e w' => e = .returned (.bool (aboveM y p k)) ∧ Below w.heap.size w w' := by
  go_enter Tryd.func92, Tryd.ntmps92
  go_wp2_with fail
  go_loopw [9, 10, 11, 12, 13, 14] (fun ci _ _ _ _ _ wr => ∃ i : Nat, i ≤ k ∧ ci = .int .i64 i ∧ Has wr w.heap.size 35 (tq 6 (digA y)) ∧ Has wr (w.heap.size + 1) 35 (tq 6 (digR y i)) ∧ Below w.heap.size w wr)
    (fun ci _ _ _ _ _ _ => k - (intOf ci).toNat)
  case atStart => exact ⟨0, by omega, rfl, (Has.new' rfl).alloc _, Has.new' (by simp), ((Below.refl _ _).alloc (Nat.le_refl _) _).alloc (by simp) _⟩
  case round =>
    obtain ⟨i, hi, rfl, hA, hR, hb⟩ := hrel
    by_cases hlt : i < k
    · have hsz := hR.lt
      obtain ⟨R, hRd⟩ : ∃ R, R = digR y i := ⟨_, rfl⟩
      rw [← hRd] at hR
      have HRd := Lib.hid hRd
      clear hRd
      go_wp2_with fail
      have hA1 := hA.alloc (.cells (tab 8 zeroQ) 137)
      have hR1 := hR.alloc (.cells (tab 8 zeroQ) 137)
      have hT1 : Has (wr.alloc (.cells (tab 8 zeroQ) 137)) wr.heap.size 137 (tq 8 (rowsTo R (digA y) 0)) := Has.new' rfl
      have hb1 := hb.alloc (by omega) (.cells (tab 8 zeroQ) 137)
      obtain ⟨gt, hgt⟩ : ∃ gt, gt = wr.heap.size := ⟨_, rfl⟩
      rw [← hgt] at hT1 hsz ⊢
      have hsz2 : w.heap.size + 2 ≤ gt := by omega
      clear hsz
      generalize wr.alloc (.cells (tab 8 zeroQ) 137) = w1 at *
      clear hA hR hb hgt
      go_loopw [11, 12, 13] (fun cj _ _ wr => ∃ j : Nat, j ≤ 5 ∧ cj = .int .i64 j ∧ Has wr w.heap.size 35 (tq 6 (digA y)) ∧ Has wr (w.heap.size + 1) 35 (tq 6 R) ∧ Has wr gt 137 (tq 8 (rowsTo R (digA y) j)) ∧ Below w.heap.size w wr)
        (fun cj _ _ _ => 5 - (intOf cj).toNat)
      case atStart => exact ⟨0, by omega, rfl, hA1, hR1, hT1, hb1⟩
      case round =>
        clear hA1 hR1 hT1 hb1
        obtain ⟨j, hj, rfl, hA, hR, hT, hb⟩ := hrel
        by_cases hlt2 : j < 5
        · have dj : (j : Int) < 5 := by omega
          go_wp2_with fail
          obtain ⟨T, hTd⟩ : ∃ T, T = rowsTo R (digA y) j := ⟨_, rfl⟩
          rw [← hTd] at hT
          have HTd := Lib.hid hTd
          clear hTd
          go_loopw [12, 13] (fun cc cl wr => ∃ l : Nat, l ≤ 2 ∧ cl = .int .i64 l ∧ cc = .int .u64 ((inner R (digA y) j T l).2.toNat : Int) ∧ Has wr w.heap.size 35 (tq 6 (digA y)) ∧ Has wr (w.heap.size + 1) 35 (tq 6 R) ∧
              Has wr gt 137 (tq 8 (inner R (digA y) j T l).1) ∧ Below w.heap.size w wr)
            (fun _ cl _ => 2 - (intOf cl).toNat)
          case atStart => exact ⟨0, by omega, rfl, rfl, hA, hR, hT, hb⟩
          case round =>
            clear hA hR hT hb
            obtain ⟨l, hl, rfl, rfl, hA, hR, hT, hb⟩ := hrel
            by_cases hlt3 : l < 2
            · have dl : (l : Int) < 2 := by omega
              have c1 := tq_at hT (j + l) (by omega)
              have c2 := tq_at hR j (by omega)
              have c3 := tq_at hA l (by omega)
              have dj6 : (j : Int) < 6 := by omega
              have dl6 : (l : Int) < 6 := by omega
              have s1 : IntKind.i64.wrap ((j : Int) + (l : Int)) = (j : Int) + (l : Int) := IntWalk.i64_in _ (by omega)
              have s2 : 0 ≤ (j : Int) + (l : Int) := by omega
              have s3 : (j : Int) + (l : Int) < 8 := by omega
              have s4 : ((j : Int) + (l : Int)).toNat = j + l := by omega
              go_wp2_with fail
              go_quiet (fail)
              replace hA := hA.drewN nq
              replace hR := hR.drewN nq
              replace hT := hT.drewN nq
              replace hb := below_drewN hb nq
              clear c1 c2 c3 s1 s2 s3 s4
              generalize hq : Go.World.drewN _ nq = wr at *
              clear hq
              have c1 := tq_at hT (j + l) (by omega)
              have f1 := hT.free (j + l)
              go_wp2_with fail
              go_roundw
              case rel =>
                refine ⟨l + 1, by omega, by go_num, rfl, hA.far (by simp; omega) _, hR.far (by simp; omega) _, ?_, hb.setCell (by simp; omega) _⟩
                have h := hT.set (j + l) (qd (qmod (qadd (inner R (digA y) j T l).2 (qadd ((inner R (digA y) j T l).1 (j + l)) (qmul (R j) (digA y l))))))
                rw [tq_set] at h
                exact h
              case measure => simp [intOf]; omega
            · have e2 : l = 2 := by omega
              have el : inner R (digA y) j T l = inner R (digA y) j T 2 := by rw [e2]
              have EL := Lib.hid el
              have hT2 : Has wr gt 137 (tq 8 (inner R (digA y) j T 2).1) := by rw [← el]; exact hT
              have c1 := tq_at hT (j + 2) (by omega)
              have f1 := hT.free (j + 2)
              have dl : ¬ (l : Int) < 2 := by omega
              clear e2 el hl
              go_wp2_with fail
              go_roundw
              case rel =>
                refine ⟨j + 1, by omega, by go_num, hA.far (by simp; omega) _, hR.far (by simp; omega) _, ?_, hb.setCell (by simp; omega) _⟩
                have h := hT2.set (j + 2) (qd (qadd ((inner R (digA y) j T 2).1 (j + 2)) (inner R (digA y) j T 2).2))
                rw [tq_set] at h
                have e : rowsTo R (digA y) (j + 1) = row R (digA y) j T := by rw [HTd.out]; rfl
                rw [e, EL.out]
                exact h
              case measure => simp [intOf]; omega
        · have e5 : j = 5 := by omega
          have hT5 : Has wr gt 137 (tq 8 (rowsTo R (digA y) 5)) := by rw [← e5]; exact hT
          have dj : ¬ (j : Int) < 5 := by omega
          clear e5 hj hT
          go_wp2_with fail
          obtain ⟨T, hTd⟩ : ∃ T, T = rowsTo R (digA y) 5 := ⟨_, rfl⟩
          rw [← hTd] at hT5
          have HTd := Lib.hid hTd
          clear hTd
          go_loopw [14] (fun cm wr => ∃ m : Nat, m ≤ 6 ∧ cm = .int .i64 m ∧ Has wr w.heap.size 35 (tq 6 (digA y)) ∧ Has wr (w.heap.size + 1) 35 (tq 6 (mixD T R m)) ∧ Has wr gt 137 (tq 8 T) ∧ Below w.heap.size w wr)
            (fun cm _ => 6 - (intOf cm).toNat)
          case atStart => exact ⟨0, by omega, rfl, hA, by rw [mixD_zero]; exact hR, hT5, hb⟩
          case round =>
            clear hA hR hT5 hb
            obtain ⟨m, hm, rfl, hA, hR, hT, hb⟩ := hrel
            by_cases hlt4 : m < 6
            · have dm : (m : Int) < 6 := by omega
              have dm8 : (m : Int) < 8 := by omega
              have c1 := tq_at hT m (by omega)
              have c2 := tq_at hR m (by omega)
              have f2 := hR.free m
              go_wp2_with fail
              go_roundw
              case rel =>
                refine ⟨m + 1, by omega, by go_num, hA.far (by simp) _, ?_, hT.far (by simp; omega) _, hb.setCell (by simp) _⟩
                have h := hR.set m (qd (T m))
                rw [tq_set, mixD_set] at h
                exact h
              case measure => simp [intOf]; omega
            · have hR6 : Has wr (w.heap.size + 1) 35 (tq 6 (digR y (i + 1))) := by
                have e6 : m = 6 := by omega
                rw [e6, mixD_six, HTd.out, HRd.out] at hR
                exact hR
              have dm : ¬ (m : Int) < 6 := by omega
              clear hm hR hT
              go_wp2_with fail
              go_roundw
              case rel => exact ⟨i + 1, by omega, by go_num, hA, hR6, hb⟩
              case measure => simp [intOf]; omega
    · obtain ⟨r, hr⟩ : ∃ r, r = digR y k := ⟨_, rfl⟩
      have hRk : Has wr (w.heap.size + 1) 35 (tq 6 r) := by rw [hr, show k = i by omega]; exact hR
      have hav : aboveM y p k = if someHi r k 5 then true else if (r k).toNat = p.toNat then someLo r k 0 else decide (p.toNat < (r k).toNat) := by rw [hr]; rfl
      have Hav := Lib.hid hav
      have di : ¬ (i : Int) < (k : Int) := by omega
      clear hr hav hR hA hi hlt
      go_wp2_with fail
      have hk5 : (k : Int) ≤ 5 := by omega
      go_loop [15] (fun cj => ∃ j : Nat, k ≤ j ∧ j ≤ 5 ∧ cj = .int .i64 j ∧ Hid (someHi r k 5 = someHi r k j)) (fun cj => (intOf cj).toNat)
      case atStart => exact ⟨5, by omega, by omega, rfl, Lib.hid rfl⟩
      case round =>
        obtain ⟨j, hkj, hj5, rfl, HS⟩ := hrel
        by_cases hlt5 : k < j
        · obtain ⟨j, rfl⟩ : ∃ i, j = i + 1 := ⟨j - 1, by omega⟩
          have c1 := tq_at hRk (j + 1) (by omega)
          have hs : someHi r k (j + 1) = if 0 < (r (j + 1)).toNat then true else someHi r k j := by
            show (if k < j + 1 then _ else false) = _
            rw [if_pos hlt5]
          by_cases h0 : 0 < (r (j + 1)).toNat
          · have hfin : aboveM y p k = true := by rw [Hav.out, HS.out, hs, if_pos h0, if_pos rfl]
            have Hfin := Lib.hid hfin
            have d0 : (0 : Int) < ((r (j + 1)).toNat : Int) := by omega
            have d1 : (k : Int) < ((j + 1 : Nat) : Int) := by omega
            clear hs hfin
            go_wp2_with fail
            go_ret
            exact ⟨by rw [Hfin.out]; rfl, hb⟩
          · have HS2 : Hid (someHi r k 5 = someHi r k j) := Lib.hid (by rw [HS.out, hs, if_neg h0])
            have d0 : ¬ (0 : Int) < ((r (j + 1)).toNat : Int) := by omega
            have d1 : (k : Int) < ((j + 1 : Nat) : Int) := by omega
            clear hs
            go_wp2_with fail
            go_round
            case rel => exact ⟨j, by omega, by omega, by first | rfl | go_num, HS2⟩
            case measure => first | (simp [intOf]; omega) | (simp [intOf])
        · have hs : someHi r k j = false := by
            cases j with
            | zero => rfl
            | succ j => show (if k < j + 1 then _ else false) = _; rw [if_neg hlt5]
          have hav2 : aboveM y p k = if (r k).toNat = p.toNat then someLo r k 0 else decide (p.toNat < (r k).toNat) := by rw [Hav.out, HS.out, hs]; rfl
          have Hav2 := Lib.hid hav2
          have d1 : ¬ (k : Int) < (j : Int) := by omega
          have c1 := tq_at hRk k (by omega)
          have dk6 : (k : Int) < 6 := by omega
          clear hs hav2
          by_cases heq : (r k).toNat = p.toNat
          · have d2 : (((r k).toNat : Int) != (p.toNat : Int)) = false := by simp [heq]
            have hav3 : aboveM y p k = someLo r k 0 := by rw [Hav2.out, if_pos heq]
            have Hav3 := Lib.hid hav3
            clear heq hav3
            go_wp2_with fail
            go_loop [16] (fun cn => ∃ n : Nat, n ≤ k ∧ cn = .int .i64 n ∧ Hid (someLo r k 0 = someLo r (k - n) n)) (fun cn => k - (intOf cn).toNat)
            case atStart => exact ⟨0, by omega, rfl, Lib.hid rfl⟩
            case round =>
              obtain ⟨n, hn, rfl, HL⟩ := hrel
              by_cases hltn : n < k
              · have c2 := tq_at hRk n (by omega)
                obtain ⟨f, hf⟩ : ∃ f, k - n = f + 1 := ⟨k - n - 1, by omega⟩
                have hs : someLo r (k - n) n = if 0 < (r n).toNat then true else someLo r f (n + 1) := by rw [hf]; rfl
                have ef : f = k - (n + 1) := by omega
                have e1 : (n : Int) < (k : Int) := by omega
                have e6 : (n : Int) < 6 := by omega
                by_cases h0 : 0 < (r n).toNat
                · have hfin : aboveM y p k = true := by rw [Hav3.out, HL.out, hs, if_pos h0]
                  have Hfin := Lib.hid hfin
                  have d0 : (0 : Int) < ((r n).toNat : Int) := by omega
                  clear hs hfin hf ef
                  go_wp2_with fail
                  go_ret
                  exact ⟨by rw [Hfin.out]; rfl, hb⟩
                · have HL2 : Hid (someLo r k 0 = someLo r (k - (n + 1)) (n + 1)) := Lib.hid (by rw [HL.out, hs, if_neg h0, ef])
                  have d0 : ¬ (0 : Int) < ((r n).toNat : Int) := by omega
                  clear hs hf ef
                  go_wp2_with fail
                  go_round
                  case rel => exact ⟨n + 1, by omega, by go_num, HL2⟩
                  case measure => simp [intOf]; omega
              · have hfin : aboveM y p k = false := by rw [Hav3.out, HL.out, show k - n = 0 by omega]; rfl
                have Hfin := Lib.hid hfin
                have e1 : ¬ (n : Int) < (k : Int) := by omega
                clear hfin
                go_wp2_with fail
                go_ret
                exact ⟨by rw [Hfin.out]; rfl, hb⟩
          · have d2 : (((r k).toNat : Int) != (p.toNat : Int)) = true := by simp; omega
            have hav3 : aboveM y p k = decide (p.toNat < (r k).toNat) := by rw [Hav2.out, if_neg heq]
            have Hav3 := Lib.hid hav3
            clear heq hav3
            go_wp2_with fail
            go_ret
            exact ⟨by rw [Hav3.out]; rfl, hb⟩

set_option maxRecDepth 100000 in
set_option maxHeartbeats 1000000 in
theorem root_any (p : UInt64) (k : Nat) (w : World) (hk : k ≤ 3) :
    Calls Tryd.prog 81 #[.int .u64 p.toNat, .int .i64 k] w fun e w' => e = .returned (.int .u64 ((rootM p k).toNat : Int)) ∧ Below w.heap.size w w' := by
  go_enter Tryd.func81, Tryd.ntmps81
  go_wp2_with fail
  go_loopw [5, 6, 7] (fun cx cb _ wr => ∃ i : Nat, i ≤ 36 ∧ cb = .int .i64 (35 - (i : Int)) ∧ cx = .int .u64 ((rootTo p k i).toNat : Int) ∧ Below w.heap.size w wr)
    (fun _ cb _ _ => (intOf cb + 1).toNat)
  case atStart => exact ⟨0, by omega, rfl, rfl, Below.refl _ _⟩
  case round =>
    obtain ⟨i, hi, rfl, rfl, hb⟩ := hrel
    by_cases hlt : i < 36
    · obtain ⟨x, hx⟩ : ∃ x, x = rootTo p k i := ⟨_, rfl⟩
      obtain ⟨b, hbd⟩ : ∃ b, b = UInt64.ofNat (2 ^ (35 - i)) := ⟨_, rfl⟩
      have hs : rootTo p k (i + 1) = if aboveM (qadd x b) p k then x else qadd x b := by rw [hx, hbd]; rfl
      have hw : IntKind.u64.wrap ((2 : Int) ^ (35 - i)) = (b.toNat : Int) := by
        have hlt : 2 ^ (35 - i) < 18446744073709551616 := Nat.lt_of_le_of_lt (Nat.pow_le_pow_right (by decide) (show 35 - i ≤ 35 by omega)) (by decide)
        have e : (2 : Int) ^ (35 - i) = ((2 ^ (35 - i) : Nat) : Int) := by simp
        rw [e, hbd, UInt64.toNat_ofNat', Nat.mod_eq_of_lt hlt]
        generalize 2 ^ (35 - i) = v at *
        simp only [IntKind.wrap, IntKind.bits, IntKind.signed]
        simp
        omega
      rw [← hx]
      have Hs := Lib.hid hs
      clear hs hx hbd
      have d0 : (0 : Int) ≤ 35 - (i : Int) := by omega
      have d1 : (i : Int) ≤ 35 := by omega
      go_wp2_with fail
      refine (above_any (qadd x b) p k wr hk).mono ?_
      rintro e w1 ⟨rfl, hb1⟩
      have hb2 := hb.trans (hb1.mono hb.size)
      by_cases ha : aboveM (qadd x b) p k = true
      · have hx2 : rootTo p k (i + 1) = x := by rw [Hs.out, if_pos ha]
        have Hx2 := Lib.hid hx2
        clear hx2
        go_wp2_with fail
        go_roundw
        case rel => exact ⟨i + 1, by omega, by go_num, by rw [Hx2.out], hb2⟩
        case measure => simp [intOf]; omega
      · have ha' : aboveM (qadd x b) p k = false := by simpa using ha
        have hx2 : rootTo p k (i + 1) = qadd x b := by rw [Hs.out, if_neg ha]
        have Hx2 := Lib.hid hx2
        clear hx2 ha
        go_wp2_with fail
        go_roundw
        case rel => exact ⟨i + 1, by omega, by go_num, by rw [Hx2.out], hb2⟩
        case measure => simp [intOf]; omega
    · have e36 : i = 36 := by omega
      have er : rootTo p k i = rootTo p k 36 := by rw [e36]
      have ER := Lib.hid er
      have d0 : ¬ (0 : Int) ≤ 35 - (i : Int) := by omega
      clear e36 er hi
      go_wp2_with fail
      go_ret
      exact ⟨by rw [rootM, ← ER.out]; rfl, hb⟩
theorem right_bits (x : UInt32) (n : Nat) (h2 : n ≤ 31) : (x.toNat / 2 ^ n + x.toNat * 2 ^ (32 - n)) % 4294967296 = (rotr n x).toNat := by
  have hx := x.toNat_lt
  have hp : 2 ^ (32 - n) * 2 ^ n = 4294967296 := by rw [← Nat.pow_add, show 32 - n + n = 32 by omega]
  have hd : x.toNat / 2 ^ n < 2 ^ (32 - n) := by
    rw [Nat.div_lt_iff_lt_mul (Nat.two_pow_pos n), hp]; exact hx
  have hm : x.toNat % 2 ^ n < 2 ^ n := Nat.mod_lt _ (Nat.two_pow_pos n)
  have hq : x.toNat * 2 ^ (32 - n) = 4294967296 * (x.toNat / 2 ^ n) + 2 ^ (32 - n) * (x.toNat % 2 ^ n) := by
    rw [← hp, Nat.mul_assoc, ← Nat.mul_add, Nat.div_add_mod, Nat.mul_comm]
  have hb : 2 ^ (32 - n) * (x.toNat % 2 ^ n) + 2 ^ (32 - n) ≤ 4294967296 := by
    rw [← hp, ← Nat.mul_succ]; exact Nat.mul_le_mul_left _ hm
  have e : x.toNat * 2 ^ (32 - n) % 4294967296 = 2 ^ (32 - n) * (x.toNat % 2 ^ n) := by
    rw [hq, Nat.mul_add_mod]; exact Nat.mod_eq_of_lt (by have := Nat.two_pow_pos (32 - n); omega)
  rw [rotr_toNat, e, ← Nat.two_pow_add_eq_or_of_lt hd, hq]
  generalize x.toNat / 2 ^ n = A at *
  generalize 2 ^ (32 - n) * (x.toNat % 2 ^ n) = B at *
  generalize 2 ^ (32 - n) = C at *
  omega
end Go.Proofs.YtflkhlhpifmocaaDoor
namespace Go.Proofs.YtflkhlhpifmocaaDoor
open Go
/-- is p a prime, by trying? -/
def noDiv (p : UInt64) : Nat → UInt64 → Bool
  | 0, _ => true
  | f + 1, d => if d * d ≤ p then (if p % d = 0 then false else noDiv p f (d + 1)) else true
def primes64 : List UInt64 := [2, 3, 5, 7, 11, 13, 17, 19, 23, 29, 31, 37, 41, 43, 47, 53, 59, 61, 67, 71, 73, 79, 83, 89, 97, 101, 103, 107, 109, 113, 127, 131, 137, 139, 149, 151, 157, 163, 167, 173, 179, 181, 191, 193, 197, 199, 211, 223, 227, 229, 233, 239, 241, 251, 257, 263, 269, 271, 277, 281, 283, 293, 307, 311]
theorem roots8 : (primes64.take 8).map (fun p => (rootM p 2).toNat) = inits.map (·.toNat) := by decide +kernel
theorem roots64 : primes64.map (fun p => (rootM p 3).toNat) = consts.map (·.toNat) := by decide +kernel
end Go.Proofs.YtflkhlhpifmocaaDoor
namespace Go.Proofs.YtflkhlhpifmocaaDoor
open Go
/-- what the inner loop makes of 'prime', from d on -/
def prTo (p : Nat) : Nat → Nat → Bool → Bool
  | 0, _, acc => acc
  | f + 1, d, acc => if d * d ≤ p then prTo p f (d + 1) (acc && decide (0 < p % d)) else acc
def isPr (p : Nat) : Bool := prTo p 18 2 true
/-- the primes below p -/
def prs : Nat → List Nat
  | 0 => []
  | p + 1 => if p < 2 then [] else if isPr p then prs p ++ [p] else prs p
theorem prs_two : prs 2 = [] := rfl
theorem prs_succ (p : Nat) (h : 2 ≤ p) : prs (p + 1) = if isPr p then prs p ++ [p] else prs p := by
  show (if p < 2 then _ else _) = _
  rw [if_neg (by omega)]
theorem prs64 : (prs 312) = primes64.map (·.toNat) := by decide +kernel
theorem prs8 : (prs 20) = (primes64.take 8).map (·.toNat) := by decide +kernel
theorem cnt64 : ∀ p, p < 312 → (prs p).length < 64 := by decide +kernel
theorem cnt8 : ∀ p, p < 20 → (prs p).length < 8 := by decide +kernel
/-- the roots of the primes below p -/
def rts (k p : Nat) : List Value := (prs p).map fun q => .int .u64 ((rootM (UInt64.ofNat q) k).toNat : Int)
theorem rts_len (k p : Nat) : (rts k p).length = (prs p).length := by simp [rts]
theorem rts64 : rts 3 312 = consts.map fun x => Value.int .u64 (x.toNat : Int) := by
  have h := roots64
  have e : consts.map (fun x => Value.int .u64 (x.toNat : Int)) = (consts.map (·.toNat)).map fun n : Nat => Value.int .u64 (n : Int) := by rw [List.map_map]; rfl
  unfold rts
  rw [prs64, e, ← h, List.map_map, List.map_map]
  apply List.map_congr_left
  intro x _
  simp
theorem rts8 : rts 2 20 = inits.map fun x => Value.int .u64 (x.toNat : Int) := by
  have h := roots8
  have e : inits.map (fun x => Value.int .u64 (x.toNat : Int)) = (inits.map (·.toNat)).map fun n : Nat => Value.int .u64 (n : Int) := by rw [List.map_map]; rfl
  unfold rts
  rw [prs8, e, ← h, List.map_map, List.map_map]
  apply List.map_congr_left
  intro x _
  simp
end Go.Proofs.YtflkhlhpifmocaaDoor
namespace Go.Proofs.YtflkhlhpifmocaaDoor
open Go.RowKit

theorem infoQ : (Tryd.prog.info? 35).map (fun i => (i.zero, i.size, i.bytes)) = some (some (.int .u64 0), 1, 8) := by kernel_rfl

theorem right_walk (x : UInt32) (n : Nat) (h1 : 1 ≤ n) (h2 : n ≤ 31) :
    (IntKind.u64.wrap ((x.toNat : Int) / 2 ^ n + IntKind.u64.wrap ((x.toNat : Int) * 2 ^ (32 - n)))).tmod 4294967296 = ((rotr n x).toNat : Int) := by
  have hx := x.toNat_lt
  have e1 : (x.toNat : Int) / 2 ^ n = ((x.toNat / 2 ^ n : Nat) : Int) := by simp [Int.natCast_ediv, Int.natCast_pow]
  have e2 : (x.toNat : Int) * 2 ^ (32 - n) = ((x.toNat * 2 ^ (32 - n) : Nat) : Int) := by simp [Int.natCast_mul, Int.natCast_pow]
  have b1 : x.toNat / 2 ^ n ≤ x.toNat := Nat.div_le_self _ _
  have b2 : x.toNat * 2 ^ (32 - n) ≤ 4294967296 * 2147483648 := Nat.mul_le_mul (by omega) (Nat.le_trans (Nat.pow_le_pow_right (by decide) (show 32 - n ≤ 31 by omega)) (by decide))
  have hr := right_bits x n h2
  rw [e1, e2, ← hr]
  generalize x.toNat / 2 ^ n = A at *
  generalize x.toNat * 2 ^ (32 - n) = B at *
  have w1 : IntKind.u64.wrap ((B : Nat) : Int) = (B : Int) := by simp [IntKind.wrap, IntKind.bits, IntKind.signed]; omega
  rw [w1]
  have w2 : IntKind.u64.wrap ((A : Int) + (B : Int)) = (A : Int) + (B : Int) := by simp [IntKind.wrap, IntKind.bits, IntKind.signed]; omega
  rw [w2, Int.tmod_eq_emod_of_nonneg (by omega)]
  omega
theorem own_form {w : World} {base : Nat} {e : TypeId} {size n : Nat} {v : Value} {xs : List Value} (h : w.ownsRow base e size v n xs) : ∃ A c, v = .slice A n c := by
  rcases h.2 with ⟨rfl, rfl⟩ | ⟨g, cap, cur, rfl, _⟩
  · exact ⟨none, 0, rfl⟩
  · exact ⟨_, _, rfl⟩

set_option maxHeartbeats 400000 in
set_option maxRecDepth 100000 in
/-- a word turned to the right, on 64 bits -/
theorem right_any (x : UInt32) (n : Nat) (w : World) (h1 : 1 ≤ n) (h2 : n ≤ 31) :
    Calls Tryd.prog 53 #[.int .u64 x.toNat, .int .u64 n] w fun e w' => e = .returned (.int .u64 ((rotr n x).toNat : Int)) ∧ w = w' := by
  go_enter Tryd.func53, Tryd.ntmps53
  go_wp2
  go_ret
  exact ⟨by rw [← right_walk x n h1 h2]; rfl, rfl⟩

set_option maxRecDepth 100000 in
set_option maxHeartbeats 1000000 in
theorem roots_any (n k P : Nat) (w : World) (hk : k ≤ 3) (hn : n ≤ 64) (hP : P ≤ 312) (h2 : 2 ≤ P) (hcnt : (prs P).length = n) (hlow : ∀ p, p < P → (prs p).length < n) :
    Calls Tryd.prog 52 #[.int .i64 n, .int .i64 k] w fun e w' => ∃ v, e = .returned v ∧ w'.ownsRow w.heap.size 35 1 v n (rts k P) ∧ Below w.heap.size w w' := by
  obtain ⟨iq, hiq, hzq, hsq, hbq⟩ := info_parts infoQ
  have Hcnt := Lib.hid hcnt
  have Hlow := Lib.hid hlow
  clear hcnt hlow
  go_enter Tryd.func52, Tryd.ntmps52
  go_wp2_with fail
  go_loopw [5, 6, 7, 8] (fun v cp _ _ wr => ∃ p : Nat, 2 ≤ p ∧ p ≤ P ∧ cp = .int .u64 p ∧ wr.ownsRow w.heap.size 35 1 v (prs p).length (rts k p) ∧ Below w.heap.size w wr)
    (fun _ cp _ _ _ => P - (intOf cp).toNat)
  case atStart => exact ⟨2, by omega, h2, rfl, World.ownsRow_nil _ _ _ _, Below.refl _ _⟩
  case round =>
    obtain ⟨p, hp2, hpP, rfl, hown, hb⟩ := hrel
    obtain ⟨A, c, rfl⟩ := own_form hown
    by_cases hlt : (prs p).length < n
    · have hpP' : p < P := by
        rcases Nat.lt_or_ge p P with h | h
        · exact h
        · have e : p = P := by omega
          rw [e, Hcnt.out] at hlt
          omega
      have hlt' : ((prs p).length : Int) < (n : Int) := by omega
      have hps := prs_succ p hp2
      have Hps := Lib.hid hps
      clear hps
      go_wp2_with fail
      go_loop [7, 8] (fun ca cd => ∃ (f d : Nat) (acc : Bool), ca = .bool acc ∧ cd = .int .u64 d ∧ 2 ≤ d ∧ d + f = 20 ∧ Hid (prTo p f d acc = isPr p)) (fun _ cd => 20 - (intOf cd).toNat)
      case atStart => exact ⟨18, 2, true, rfl, rfl, by omega, by omega, Lib.hid rfl⟩
      case round =>
        obtain ⟨f, d, acc, rfl, rfl, hd2, hdf, HP⟩ := hrel
        obtain ⟨dd, hdd⟩ : ∃ dd, dd = d * d := ⟨_, rfl⟩
        have hw : IntKind.u64.wrap ((d : Int) * (d : Int)) = (dd : Int) := by
          have hle : d * d ≤ 20 * 20 := Nat.mul_le_mul (by omega) (by omega)
          have e : (d : Int) * (d : Int) = ((d * d : Nat) : Int) := by simp
          rw [e, ← hdd]
          have : dd ≤ 400 := by rw [hdd]; omega
          simp [IntKind.wrap, IntKind.bits, IntKind.signed]; omega
        have hd0 : (2 : Int) ≤ (d : Int) := by omega
        by_cases hle : dd ≤ p
        · have hd17 : d ≤ 17 := by
            rcases Nat.lt_or_ge d 18 with h | h
            · omega
            · have : 18 * 18 ≤ d * d := Nat.mul_le_mul h h
              omega
          obtain ⟨f', rfl⟩ : ∃ f', f = f' + 1 := ⟨f - 1, by omega⟩
          have hs : prTo p (f' + 1) d acc = prTo p f' (d + 1) (acc && decide (0 < p % d)) := by
            show (if d * d ≤ p then _ else _) = _
            rw [if_pos (by omega)]
          have HP2 : Hid (prTo p f' (d + 1) (acc && decide (0 < p % d)) = isPr p) := Lib.hid (by rw [← hs, HP.out])
          have hle' : (dd : Int) ≤ (p : Int) := by omega
          clear hs hdd
          have hd1 : ((d : Int) == 0) = false := beq_eq_false_iff_ne.2 (by omega)
          cases acc with
          | false =>
            have HP3 : Hid (prTo p f' (d + 1) false = isPr p) := Lib.hid (by rw [← HP2.out, Bool.false_and])
            clear HP2
            go_wp2_with fail
            go_round
            case rel => exact ⟨f', d + 1, false, rfl, by go_num, by omega, by omega, HP3⟩
            case measure => simp [intOf]; omega
          | true =>
            by_cases hm : 0 < p % d
            · have HP3 : Hid (prTo p f' (d + 1) true = isPr p) := Lib.hid (by rw [← HP2.out, decide_eq_true hm]; rfl)
              have hm1 : (0 : Int) < (p : Int) % (d : Int) := by omega
              have hm2 : decide ((0 : Int) < (p : Int) % (d : Int)) = true := decide_eq_true hm1
              clear HP2
              go_wp2_with fail
              go_round
              case rel => exact ⟨f', d + 1, true, rfl, by go_num, by omega, by omega, HP3⟩
              case measure => simp [intOf]; omega
            · have HP3 : Hid (prTo p f' (d + 1) false = isPr p) := Lib.hid (by rw [← HP2.out, decide_eq_false hm]; rfl)
              have hm1 : ¬ (0 : Int) < (p : Int) % (d : Int) := by omega
              have hm2 : decide ((0 : Int) < (p : Int) % (d : Int)) = false := decide_eq_false hm1
              clear HP2
              go_wp2_with fail
              go_round
              case rel => exact ⟨f', d + 1, false, rfl, by go_num, by omega, by omega, HP3⟩
              case measure => simp [intOf]; omega
        · have hs : prTo p f d acc = acc := by
            cases f with
            | zero => rfl
            | succ f =>
              show (if d * d ≤ p then _ else _) = _
              rw [if_neg (by omega)]
          have HA : Hid (isPr p = acc) := Lib.hid (by rw [← HP.out, hs])
          have hle' : ¬ (dd : Int) ≤ (p : Int) := by omega
          clear hs hdd HP
          cases acc with
          | false =>
            have e : prs (p + 1) = prs p := by rw [Hps.out, HA.out]; rfl
            have E := Lib.hid e
            clear e
            go_wp2_with fail
            go_roundw
            case rel => exact ⟨p + 1, by omega, by omega, by go_num, by rw [rts, E.out]; exact hown, hb⟩
            case measure => simp [intOf]; omega
          | true =>
            have e : prs (p + 1) = prs p ++ [p] := by rw [Hps.out, HA.out]; rfl
            have E := Lib.hid e
            clear e
            go_wp2_with fail
            have hp64 : (UInt64.ofNat p).toNat = p := by rw [UInt64.toNat_ofNat']; exact Nat.mod_eq_of_lt (by omega)
            have hroot := root_any (UInt64.ofNat p) k wr hk
            rw [hp64] at hroot
            refine hroot.mono ?_
            rintro e w1 ⟨rfl, hb1⟩
            have hb2 := hb.trans (hb1.mono hb.size)
            have hown1 : w1.ownsRow w.heap.size 35 1 (.slice A (prs p).length c) (prs p).length (rts k p) := hown.kept (only_below hb1 none) (by
              cases A with
              | none => exact .inl rfl
              | some a => exact .inr (by simp [Value.ownBlock]))
            clear hroot hp64 hown hb hb1
            go_wp2_with (at_builtin; refine wpList_append_own _ rfl (.tmp 30) (.tmp 34) 88 rfl w.heap.size 35 iq (.int .u64 0) 1 8 Tryd.underlying88 hiq hzq hsq hbq rfl (by decide) (.slice A (prs p).length c) (prs p).length (rts k p) rfl (hown1.alloc _) ⟨w1.heap.size, 0, none⟩ 1 1 [.int .u64 ((rootM (UInt64.ofNat p) k).toNat : Int)] rfl rfl (cell_one_new _ _ _) (by simp [Value.oneCell']) ?c3 ?c4 ?c5 ?_)
            case c3 => simp only [maxLen]; omega
            case c4 => omega
            case c5 => have := hb2.size; simp; omega
            intro v' w2 hown2 hg2 _
            have hb3 : Below w.heap.size w w2 := (hb2.alloc hb2.size _).grown hg2 (by have := hb2.size; simp; omega) (fun k hk => (hown1.lt k hk).1)
            have hr : rts k (p + 1) = rts k p ++ [.int .u64 ((rootM (UInt64.ofNat p) k).toNat : Int)] := by
              unfold rts
              rw [E.out, List.map_append]
              rfl
            have hl : (prs (p + 1)).length = (prs p).length + 1 := by rw [E.out]; simp
            have Hl := Lib.hid hl
            have Hr := Lib.hid hr
            clear hl hr hg2 hown1 hb2
            go_wp2_with fail
            go_roundw
            case rel => exact ⟨p + 1, by omega, by omega, by go_num, by rw [Hl.out, Hr.out]; exact hown2, hb3⟩
            case measure => simp [intOf]; omega
    · have hpP' : p = P := by
        rcases Nat.lt_or_ge p P with h | h
        · exact absurd (Hlow.out p h) hlt
        · omega
      have e1 : (prs p).length = n := by rw [hpP']; exact Hcnt.out
      have hown2 : wr.ownsRow w.heap.size 35 1 (.slice A (prs p).length c) n (rts k P) := by rw [← hpP', ← e1]; exact hown
      have E1 := Lib.hid e1
      have hlt' : ¬ ((prs p).length : Int) < (n : Int) := by omega
      clear e1 hpP' hown hlt
      go_wp2_with fail
      go_ret
      exact ⟨_, rfl, hown2, hb⟩
end Go.Proofs.YtflkhlhpifmocaaDoor
namespace Go.Proofs.YtflkhlhpifmocaaDoor
open Go Go.RowKit

theorem info5' : (Tryd.prog.info? 5).map (fun i => (i.zero, i.size, i.bytes)) = some (some (.int .u8 0), 1, 1) := info5

/-- append(v, x...), x a slice of bytes that is there -/
theorem wp_append_bytes {w : World} {ops : Array Oper} {rest : List Oper} {op : Oper} {a : Act} {Q : Exit → Act → World → Prop} (hgd : op.guard = none) (s x : Operand)
    (ho : op.op = .call { callee := .builtin .append, args := #[s, x], argTypes := #[22, 22] }) (base : Nat) (v : Value) (n : Nat) (xs : List Value) (hs : a.eval s = v)
    (hown : w.ownsRow base 5 1 v n xs) (A : Option Addr) (m c : Nat) (hx : a.eval x = .slice A m c) (bs : List UInt8) (hS : SlA w A m c bs) (hnil : A = none → c = 0) (h63 : n + m ≤ 1000000) (hbase : base ≤ w.heap.size)
    (h : ∀ v' w', w'.ownsRow base 5 1 v' (n + m) (xs ++ bs.map by8) → w.grownBy w' v.ownBlock → wpList Tryd.prog ops Q rest (a.put op.dst v') w') : wpList Tryd.prog ops Q (op :: rest) a w := by
  obtain ⟨i5, hi5, hz5, hs5, hb5⟩ := info_parts info5
  have hl : bs.length = m := hS.1
  cases A with
  | none =>
    have hm : m = 0 := by
      rcases Nat.eq_zero_or_pos m with h0 | h0
      · exact h0
      · obtain ⟨b, o, e, _⟩ := hS.2.2 h0
        cases e
    have hc : c = 0 := hnil rfl
    subst hm
    subst hc
    have hbs : bs = [] := List.eq_nil_of_length_eq_zero hl
    subst hbs
    refine wpList_append_own_none hgd s x 22 ho base 5 i5 1 Tryd.underlying22 hi5 v n xs hs hown hx ?_
    exact h v w (by simpa using hown) (World.grownBy.refl w _)
  | some ad =>
    refine wpList_append_own _ hgd s x 22 ho base 5 i5 (.int .u8 0) 1 1 Tryd.underlying22 hi5 hz5 hs5 hb5 rfl (by decide) v n xs hs hown ad m c (bs.map by8) hx (by simp [hl]) (fun j u hj => ?_) (fun u hu => ?_) (by simp only [maxLen]; omega) (by omega) hbase
      (fun v' w' h1 h2 _ => h v' w' h1 h2)
    · have hjm : j < m := by have := (List.getElem?_eq_some_iff.1 hj).1; simpa [hl] using this
      obtain ⟨b, o, e, _, hcell⟩ := hS.2.2 (by omega)
      obtain rfl : ad = ⟨b, o, none⟩ := Option.some.inj e
      rw [Addr.add_mid, hcell j hjm, ← hj]
      simp [List.getD_eq_getElem?_getD, show j < bs.length by omega]
    · obtain ⟨b, _, rfl⟩ := List.mem_map.1 hu
      rfl

/-- append(v, x), one byte -/
theorem wp_append_byte {w : World} {ops : Array Oper} {rest : List Oper} {op : Oper} {a : Act} {Q : Exit → Act → World → Prop} (hgd : op.guard = none) (s x : Operand)
    (ho : op.op = .call { callee := .builtin .append, args := #[s, x], argTypes := #[22, 22] }) (base : Nat) (v : Value) (n : Nat) (xs : List Value) (hs : a.eval s = v)
    (hown : w.ownsRow base 5 1 v n xs) (g : Nat) (hx : a.eval x = .slice (some ⟨g, 0, none⟩) 1 1) (b : UInt8) (hc : w.cell? ⟨g, 0, none⟩ = some (by8 b)) (h63 : n + 1 ≤ 1000000) (hbase : base ≤ w.heap.size)
    (h : ∀ v' w', w'.ownsRow base 5 1 v' (n + 1) (xs ++ [by8 b]) → w.grownBy w' v.ownBlock → wpList Tryd.prog ops Q rest (a.put op.dst v') w') : wpList Tryd.prog ops Q (op :: rest) a w := by
  obtain ⟨i5, hi5, hz5, hs5, hb5⟩ := info_parts info5
  refine wpList_append_own _ hgd s x 22 ho base 5 i5 (.int .u8 0) 1 1 Tryd.underlying22 hi5 hz5 hs5 hb5 rfl (by decide) v n xs hs hown ⟨g, 0, none⟩ 1 1 [by8 b] hx rfl (fun j u hj => ?_) (fun u hu => ?_) (by simp only [maxLen]; omega) (by omega) hbase
    (fun v' w' h1 h2 _ => h v' w' h1 h2)
  · have hj0 : j = 0 := by have := (List.getElem?_eq_some_iff.1 hj).1; simp at this; omega
    subst hj0
    rw [Addr.add_mid, hc, ← hj]
    rfl
  · obtain rfl : u = by8 b := by simpa using hu
    rfl

/-- n cells lie at the head of block g, and may be written -/
def Lie (w : World) (g n : Nat) (f : Nat → Value) : Prop := g < w.heap.size ∧ ∀ j, j < n → w.cell? ⟨g, j, none⟩ = some (f j) ∧ w.frozen? ⟨g, j, none⟩ = false
section
variable {w w' : World} {g n : Nat} {f : Nat → Value}
theorem Lie.keep (h : Lie w g n f) (hs : w.heap.size ≤ w'.heap.size) (hb : w'.heap[g]? = w.heap[g]?) : Lie w' g n f :=
  ⟨Nat.lt_of_lt_of_le h.1 hs, fun j hj => ⟨(World.cell?_of_block (a := ⟨g, j, none⟩) hb).trans (h.2 j hj).1, (World.frozen?_of_block (a := ⟨g, j, none⟩) hb).trans (h.2 j hj).2⟩⟩
theorem Lie.below {B : Nat} (h : Lie w g n f) (hb : Below B w w') (hg : g < B) : Lie w' g n f := h.keep hb.size (hb.block g hg)
theorem Lie.alloc (h : Lie w g n f) (o : Obj) : Lie (w.alloc o) g n f := h.keep (by simp) (Below.heap_alloc w o g h.1)
theorem Lie.drewN (h : Lie w g n f) (k : Nat) : Lie (w.drewN k) g n f := h
theorem Lie.far (h : Lie w g n f) {p : Addr} (hp : g ≠ p.block) (u : Value) : Lie (w.setCell p u) g n f := h.keep (by simp [World.setCell]) (Below.heap_setCell w p u g hp)
theorem Lie.set (h : Lie w g n f) (i : Nat) (hi : i < n) (u : Value) : Lie (w.setCell ⟨g, i, none⟩ u) g n (fun j => if j = i then u else f j) := by
  refine ⟨by simpa [World.setCell] using h.1, fun j hj => ⟨?_, ?_⟩⟩
  · by_cases e : j = i
    · subst e
      rw [World.cell?_setCell_same w ⟨g, j, none⟩ u (h.2 j hj).1]
      simp
    · rw [World.cell?_setCell_other w ⟨g, i, none⟩ ⟨g, j, none⟩ u (fun e' => e (by injection e' with _ h2; exact h2.symm))]
      dsimp only
      rw [if_neg e]
      exact (h.2 j hj).1
  · rw [World.frozen?_setCell]
    exact (h.2 j hj).2
theorem Lie.congr {f' : Nat → Value} (h : Lie w g n f) (he : ∀ j, j < n → f j = f' j) : Lie w g n f' := ⟨h.1, fun j hj => ⟨by rw [← he j hj]; exact (h.2 j hj).1, (h.2 j hj).2⟩⟩
theorem Lie.of_has {t : TypeId} {cs : Array Value} (h : Has w g t cs) (he : ∀ j, j < n → cs[j]? = some (f j)) : Lie w g n f :=
  ⟨h.lt, fun j hj => ⟨(h.cell j).trans (he j hj), h.free j⟩⟩
theorem Lie.of_own {base : Nat} {e : TypeId} {A : Option Addr} {c : Nat} {xs : List Value} (h : w.ownsRow base e 1 (.slice A n c) n xs) (hn : 0 < n) (he : ∀ j, j < n → xs[j]? = some (f j)) :
    ∃ g, A = some ⟨g, 0, none⟩ ∧ base ≤ g ∧ Lie w g n f := by
  obtain ⟨g, cap, hv, hb, hlt⟩ := h.form hn
  have hA : A = some ⟨g, 0, none⟩ := by injection hv
  have hc : c = cap := by injection hv
  subst hA
  exact ⟨g, rfl, hb, hlt, fun j hj => ⟨(h.cellAt j (by omega)).trans (he j hj), h.frozenAt j⟩⟩
end
end Go.Proofs.YtflkhlhpifmocaaDoor
namespace Go.Proofs.YtflkhlhpifmocaaDoor
open Go
/-- how many zeros -/
def zer (L : Nat) : Nat := (119 - L % 64) % 64
theorem padLen_zer (L : Nat) : padLen L = 9 + zer L := rfl
theorem zer_end (L : Nat) : (L + 1 + zer L) % 64 = 56 := by unfold zer; omega
theorem zer_not (L z : Nat) (h : z < zer L) : (L + 1 + z) % 64 ≠ 56 := by unfold zer at h; omega
theorem zer_lt (L : Nat) : zer L < 64 := by unfold zer; omega
theorem pad_take (m : List UInt8) (k : Nat) (h : k < padLen m.length) : (padOf m).take (k + 1) = (padOf m).take k ++ [padB m.length k] := by
  have hl : k < (padOf m).length := by rw [padOf_length]; exact h
  rw [List.take_succ_eq_append_getElem hl]
  congr 2
  simp [padOf]
theorem padB_zero (L : Nat) : padB L 0 = 128 := by simp [padB]
theorem padB_mid (L z : Nat) (h : z < zer L) : padB L (1 + z) = 0 := by
  unfold padB
  rw [if_neg (by omega), if_neg (by rw [padLen_zer]; omega)]
theorem padB_len (L t : Nat) (h : t < 8) : padB L (1 + zer L + t) = UInt8.ofNat (L * 8 / 2 ^ (8 * (7 - t))) := by
  unfold padB
  rw [if_neg (by omega), if_pos (by rw [padLen_zer]; omega), padLen_zer]
  congr 4
  omega
end Go.Proofs.YtflkhlhpifmocaaDoor
namespace Go.Proofs.YtflkhlhpifmocaaDoor
open Go
def q2 (x y : UInt32) : UInt64 := UInt64.ofNat (x.toNat + y.toNat)
def qaw (X : UInt64) (y : UInt32) : UInt64 := UInt64.ofNat (X.toNat + y.toNat)
def low (X : UInt64) : UInt32 := UInt32.ofNat X.toNat
theorem low_q2 (x y : UInt32) : low (q2 x y) = wadd x y := by
  apply UInt32.toNat_inj.1
  have := x.toNat_lt
  have := y.toNat_lt
  rw [low, UInt32.toNat_ofNat', q2, UInt64.toNat_ofNat', wadd, UInt32.toNat_add]
  omega
theorem low_qaw (X : UInt64) (y : UInt32) : low (qaw X y) = wadd (low X) y := by
  apply UInt32.toNat_inj.1
  rw [low, UInt32.toNat_ofNat', qaw, UInt64.toNat_ofNat', wadd, UInt32.toNat_add, low, UInt32.toNat_ofNat']
  omega
theorem q_add2 (x y : UInt32) : IntKind.u64.wrap ((x.toNat : Int) + (y.toNat : Int)) = ((q2 x y).toNat : Int) := by
  rw [q2, UInt64.toNat_ofNat']; simp [IntKind.wrap, IntKind.bits, IntKind.signed]
theorem q_addw (X : UInt64) (y : UInt32) : IntKind.u64.wrap ((X.toNat : Int) + (y.toNat : Int)) = ((qaw X y).toNat : Int) := by
  rw [qaw, UInt64.toNat_ofNat']; simp [IntKind.wrap, IntKind.bits, IntKind.signed]
theorem q_low (X : UInt64) : (X.toNat : Int).tmod 4294967296 = ((low X).toNat : Int) := by
  rw [Int.tmod_eq_emod_of_nonneg (by omega), low, UInt32.toNat_ofNat']; simp
theorem q_low' (X : UInt64) : (X.toNat : Int) % 4294967296 = ((low X).toNat : Int) := by
  rw [low, UInt32.toNat_ofNat']; simp
theorem q_wrap (x : UInt32) : IntKind.u64.wrap (x.toNat : Int) = (x.toNat : Int) := by
  have := x.toNat_lt
  simp [IntKind.wrap, IntKind.bits, IntKind.signed]; omega
theorem q_xor (x y : UInt32) : bits .xor .u64 (x.toNat : Int) (y.toNat : Int) = ((wxor x y).toNat : Int) := by
  have := x.toNat_lt
  have := y.toNat_lt
  rw [u64_xor_nat _ _ (by omega) (by omega), wxor, UInt32.toNat_xor]
theorem q_and (x y : UInt32) : bits .and .u64 (x.toNat : Int) (y.toNat : Int) = ((wand x y).toNat : Int) := by
  have := x.toNat_lt
  have := y.toNat_lt
  rw [u64_and_nat _ _ (by omega) (by omega), wand, UInt32.toNat_and]
theorem wnot_toNat (x : UInt32) : (wnot x).toNat = 4294967295 - x.toNat := by
  have := x.toNat_lt
  rw [wnot, UInt32.toNat_not]
  show 2 ^ 32 - 1 - x.toNat = _
  omega
theorem q_not (x : UInt32) : IntKind.u64.wrap (4294967295 - (x.toNat : Int)) = ((wnot x).toNat : Int) := by
  have := x.toNat_lt
  rw [wnot_toNat]
  simp [IntKind.wrap, IntKind.bits, IntKind.signed]; omega
theorem q_shr3 (x : UInt32) : (x.toNat : Int) / 8 = ((shr 3 x).toNat : Int) := shr_w 3 x
theorem q_shr10 (x : UInt32) : (x.toNat : Int) / 1024 = ((shr 10 x).toNat : Int) := shr_w 10 x
theorem q_next (x16 x7 x15 x2 : UInt32) : low (qaw (qaw (q2 x16 x7) (wxor (wxor (rotr 7 x15) (rotr 18 x15)) (shr 3 x15))) (wxor (wxor (rotr 17 x2) (rotr 19 x2)) (shr 10 x2))) = nextW x16 x7 x15 x2 := by
  rw [low_qaw, low_qaw, low_q2]; rfl
/-- one round's t and u -/
theorem q_t (s : St) (k w : UInt32) : low (qaw (qaw (qaw (q2 s.h (wxor (wxor (rotr 6 s.e) (rotr 11 s.e)) (rotr 25 s.e))) (wxor (wand s.e s.f) (wand (wnot s.e) s.g))) k) w) = tOf s k w := by
  rw [low_qaw, low_qaw, low_qaw, low_q2]; rfl
theorem q_u (s : St) : low (q2 (wxor (wxor (rotr 2 s.a) (rotr 13 s.a)) (rotr 22 s.a)) (wxor (wxor (wand s.a s.b) (wand s.a s.c)) (wand s.b s.c))) = uOf s := by
  rw [low_q2]; rfl
end Go.Proofs.YtflkhlhpifmocaaDoor
