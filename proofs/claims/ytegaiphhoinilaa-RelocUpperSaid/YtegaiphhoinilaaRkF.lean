/-
Package reloc: change.
-/
import Derived.Test.YtegaiphhoinilaaRkE
namespace Go.Proofs.Ytegaiphhoinilaa.Rc
open Go Go.RowKit

/-- a value, in the form of its kind -/
def goT (t : Int) (v : Nat) : Go1 :=
  if t = 1 ∨ t = 3 then .word v
  else if t = 16 then .num .B v
  else if t = 17 then .num .J v
  else if t = 24 ∨ t = 27 then .num .I v
  else if t = 25 ∨ t = 28 then .num .S v
  else .num .U v
theorem bitK_U : ∀ i, i < 32 → bitK .U i = if i < 12 then none else some i := by decide +kernel
theorem put_two (m : Nat → UInt8) (x v : Nat) (t : Int) (ht : t = 18 ∨ t = 19) : putV m x t (goT t v) = stM (stM m x 4 (ldV m x 4 % 4096 + upP v)) (x + 4) 4 (setN .I (ldV (stM m x 4 (ldV m x 4 % 4096 + upP v)) (x + 4) 4) v 32) := by
  have e : goT t v = .num .U v := by
    unfold goT
    rw [if_neg (by omega), if_neg (by omega), if_neg (by omega), if_neg (by omega), if_neg (by omega)]
  rw [e]
  exact if_pos ht
theorem setU_mod (w u : Nat) (hw : w < 4294967296) (hu : u < 4294967296) (h0 : u % 4096 = 0) : setN .U w u 32 = w % 4096 + u := by
  have hl := setN_lt .U w u hw 32 (by decide)
  refine eq_bits hl (by omega) fun i hi => ?_
  rw [set_bit32 .U w u i hi, show w % 4096 + u = 2 ^ 12 * (u / 4096) + w % 4096 by omega, Nat.testBit_two_pow_mul_add _ (by omega), show (4096 : Nat) = 2 ^ 12 by decide, Nat.testBit_mod_two_pow, Nat.testBit_div_two_pow]
  by_cases h : i < 12
  · rw [if_pos h, bitK_U i hi, if_pos h]
    simp [h]
  · rw [if_neg h, bitK_U i hi, if_neg h, show i - 12 + 12 = i by omega]
set_option maxRecDepth 100000 in
set_option maxHeartbeats 4000000 in
theorem change_1 (m : Nat → UInt8) (g x v : Nat) (w : World) (hG : RamP w g m) (hx : x < 4294967296) (hv : v < 4294967296) (hst : stB x 4 = true) :
    Calls Try.prog 46 #[.iface 28 (mP g), .int .i64 1, .int .u32 (x : Int), .int .u32 (v : Int)] w fun e w' => e = .returned (.int .i64 0) ∧ RamP w' g (putV m x 1 (goT 1 v)) ∧ w.grownBy w' (some g) := by
  have hm2 : ∀ w, (method 231 28 (mP g) "Store").run Try.prog w = .ok (19, mP g) w := fun _ => by kernel_rfl
  have kS := store_any m g x v 4 w hG hx hv
  rw [hst, show erI true = 0 from rfl] at kS
  change Calls _ _ _ _ fun e w' => e = .returned (.int .i64 0) ∧ RamP w' g (stM m x 4 v) ∧ w.grownBy w' (some g)
  go_enter Try.func46, Try.ntmps46
  go_wp2_with (go_at_call 19; with_reducible refine kS.mono ?_; rintro e w3 ⟨rfl, hGE, hbE⟩)
  go_ret
  exact ⟨rfl, hGE, hbE⟩
set_option maxRecDepth 100000 in
set_option maxHeartbeats 4000000 in
theorem change_3 (m : Nat → UInt8) (g x v : Nat) (w : World) (hG : RamP w g m) (hx : x < 4294967296) (hv : v < 4294967296) (hst : stB x 4 = true) :
    Calls Try.prog 46 #[.iface 28 (mP g), .int .i64 3, .int .u32 (x : Int), .int .u32 (v : Int)] w fun e w' => e = .returned (.int .i64 0) ∧ RamP w' g (putV m x 3 (goT 3 v)) ∧ w.grownBy w' (some g) := by
  have hm2 : ∀ w, (method 231 28 (mP g) "Store").run Try.prog w = .ok (19, mP g) w := fun _ => by kernel_rfl
  have kS := store_any m g x v 4 w hG hx hv
  rw [hst, show erI true = 0 from rfl] at kS
  change Calls _ _ _ _ fun e w' => e = .returned (.int .i64 0) ∧ RamP w' g (stM m x 4 v) ∧ w.grownBy w' (some g)
  go_enter Try.func46, Try.ntmps46
  go_wp2_with (go_at_call 19; with_reducible refine kS.mono ?_; rintro e w3 ⟨rfl, hGE, hbE⟩)
  go_ret
  exact ⟨rfl, hGE, hbE⟩
set_option maxRecDepth 100000 in
set_option maxHeartbeats 4000000 in
theorem change_16 (m : Nat → UInt8) (g x v : Nat) (w : World) (hG : RamP w g m) (hx : x < 4294967296) (hv : v < 4294967296) (hst : stB x 4 = true) :
    Calls Try.prog 46 #[.iface 28 (mP g), .int .i64 16, .int .u32 (x : Int), .int .u32 (v : Int)] w fun e w' => e = .returned (.int .i64 0) ∧ RamP w' g (putV m x 16 (goT 16 v)) ∧ w.grownBy w' (some g) := by
  have kS := setB_ok m g x v w hG hx hv hst
  change Calls _ _ _ _ fun e w' => e = .returned (.int .i64 0) ∧ RamP w' g (stM m x 4 (setN .B (ldV m x 4) v 32)) ∧ w.grownBy w' (some g)
  go_enter Try.func46, Try.ntmps46
  go_wp2_with (go_at_call 57; with_reducible refine kS.mono ?_; rintro e w3 ⟨rfl, hGE, hbE⟩)
  go_ret
  exact ⟨rfl, hGE, hbE⟩
set_option maxRecDepth 100000 in
set_option maxHeartbeats 4000000 in
theorem change_17 (m : Nat → UInt8) (g x v : Nat) (w : World) (hG : RamP w g m) (hx : x < 4294967296) (hv : v < 4294967296) (hst : stB x 4 = true) :
    Calls Try.prog 46 #[.iface 28 (mP g), .int .i64 17, .int .u32 (x : Int), .int .u32 (v : Int)] w fun e w' => e = .returned (.int .i64 0) ∧ RamP w' g (putV m x 17 (goT 17 v)) ∧ w.grownBy w' (some g) := by
  have kS := setJ_ok m g x v w hG hx hv hst
  change Calls _ _ _ _ fun e w' => e = .returned (.int .i64 0) ∧ RamP w' g (stM m x 4 (setN .J (ldV m x 4) v 32)) ∧ w.grownBy w' (some g)
  go_enter Try.func46, Try.ntmps46
  go_wp2_with (go_at_call 57; with_reducible refine kS.mono ?_; rintro e w3 ⟨rfl, hGE, hbE⟩)
  go_ret
  exact ⟨rfl, hGE, hbE⟩
set_option maxRecDepth 100000 in
set_option maxHeartbeats 4000000 in
theorem change_18 (m : Nat → UInt8) (g x v : Nat) (w : World) (hG : RamP w g m) (hx : x < 4294967296) (hv : v < 4294967296) (hst : stB x 4 = true) (hst2 : stB (x + 4) 4 = true) (hl4 : x + 4 < 4294967296) :
    Calls Try.prog 46 #[.iface 28 (mP g), .int .i64 18, .int .u32 (x : Int), .int .u32 (v : Int)] w fun e w' => e = .returned (.int .i64 0) ∧ RamP w' g (putV m x 18 (goT 18 v)) ∧ w.grownBy w' (some g) := by
  have kU := fun W => kupper_any v W hv
  have hul := upP_le v
  have kS := setU_ok m g x (upP v) w hG hx hul.1 hst
  rw [setU_mod _ _ (ldV_lt m x) hul.1 hul.2] at kS
  rw [put_two m x v _ (by decide)]
  generalize upP v = u at *
  generalize stM m x 4 (ldV m x 4 % 4096 + u) = m1 at *
  have hx4 : ((x : Int) + 4) % 4294967296 = ((x + 4 : Nat) : Int) := by omega
  obtain ⟨y, hy⟩ : ∃ y, y = x + 4 := ⟨_, rfl⟩
  rw [← hy] at hx4 hst2 hl4 ⊢
  have HY := Lib.hid hy
  clear hy hul
  go_enter Try.func46, Try.ntmps46
  go_upto_region 10 with (first | (go_at_call 20; with_reducible refine (kU _).mono ?_; rintro e w2 ⟨rfl, rfl⟩) | (go_at_call 57; with_reducible refine kS.mono ?_; rintro e w3 ⟨rfl, hG1, hb1⟩))
  have kS2 := setI_ok m1 g y v w3 hG1 hl4 hv hst2
  clear kS kU hG1
  have HB1 := Lib.hid hb1
  clear hb1
  go_wp2_with (go_at_call 57; with_reducible refine kS2.mono ?_; rintro e w4 ⟨rfl, hGE, hb2⟩)
  have hbE := only_trans HB1.out hb2
  go_ret
  exact ⟨rfl, hGE, hbE⟩
set_option maxRecDepth 100000 in
set_option maxHeartbeats 4000000 in
theorem change_19 (m : Nat → UInt8) (g x v : Nat) (w : World) (hG : RamP w g m) (hx : x < 4294967296) (hv : v < 4294967296) (hst : stB x 4 = true) (hst2 : stB (x + 4) 4 = true) (hl4 : x + 4 < 4294967296) :
    Calls Try.prog 46 #[.iface 28 (mP g), .int .i64 19, .int .u32 (x : Int), .int .u32 (v : Int)] w fun e w' => e = .returned (.int .i64 0) ∧ RamP w' g (putV m x 19 (goT 19 v)) ∧ w.grownBy w' (some g) := by
  have kU := fun W => kupper_any v W hv
  have hul := upP_le v
  have kS := setU_ok m g x (upP v) w hG hx hul.1 hst
  rw [setU_mod _ _ (ldV_lt m x) hul.1 hul.2] at kS
  rw [put_two m x v _ (by decide)]
  generalize upP v = u at *
  generalize stM m x 4 (ldV m x 4 % 4096 + u) = m1 at *
  have hx4 : ((x : Int) + 4) % 4294967296 = ((x + 4 : Nat) : Int) := by omega
  obtain ⟨y, hy⟩ : ∃ y, y = x + 4 := ⟨_, rfl⟩
  rw [← hy] at hx4 hst2 hl4 ⊢
  have HY := Lib.hid hy
  clear hy hul
  go_enter Try.func46, Try.ntmps46
  go_upto_region 10 with (first | (go_at_call 20; with_reducible refine (kU _).mono ?_; rintro e w2 ⟨rfl, rfl⟩) | (go_at_call 57; with_reducible refine kS.mono ?_; rintro e w3 ⟨rfl, hG1, hb1⟩))
  have kS2 := setI_ok m1 g y v w3 hG1 hl4 hv hst2
  clear kS kU hG1
  have HB1 := Lib.hid hb1
  clear hb1
  go_wp2_with (go_at_call 57; with_reducible refine kS2.mono ?_; rintro e w4 ⟨rfl, hGE, hb2⟩)
  have hbE := only_trans HB1.out hb2
  go_ret
  exact ⟨rfl, hGE, hbE⟩
set_option maxRecDepth 100000 in
set_option maxHeartbeats 4000000 in
theorem change_23 (m : Nat → UInt8) (g x v : Nat) (w : World) (hG : RamP w g m) (hx : x < 4294967296) (hv : v < 4294967296) (hst : stB x 4 = true) :
    Calls Try.prog 46 #[.iface 28 (mP g), .int .i64 23, .int .u32 (x : Int), .int .u32 (v : Int)] w fun e w' => e = .returned (.int .i64 0) ∧ RamP w' g (putV m x 23 (goT 23 v)) ∧ w.grownBy w' (some g) := by
  have kU := fun W => kupper_any v W hv
  have hul := upP_le v
  have kS := setU_ok m g x (upP v) w hG hx hul.1 hst
  rw [setU_mod _ _ (ldV_lt m x) hul.1 hul.2] at kS
  change Calls _ _ _ _ fun e w' => e = .returned (.int .i64 0) ∧ RamP w' g (stM m x 4 (ldV m x 4 % 4096 + upP v)) ∧ w.grownBy w' (some g)
  generalize upP v = u at *
  generalize ldV m x 4 % 4096 + u = z at *
  go_enter Try.func46, Try.ntmps46
  go_wp2_with (first | (go_at_call 20; with_reducible refine (kU _).mono ?_; rintro e w2 ⟨rfl, rfl⟩) | (go_at_call 57; with_reducible refine kS.mono ?_; rintro e w3 ⟨rfl, hGE, hbE⟩))
  go_ret
  exact ⟨rfl, hGE, hbE⟩
set_option maxRecDepth 100000 in
set_option maxHeartbeats 4000000 in
theorem change_24 (m : Nat → UInt8) (g x v : Nat) (w : World) (hG : RamP w g m) (hx : x < 4294967296) (hv : v < 4294967296) (hst : stB x 4 = true) :
    Calls Try.prog 46 #[.iface 28 (mP g), .int .i64 24, .int .u32 (x : Int), .int .u32 (v : Int)] w fun e w' => e = .returned (.int .i64 0) ∧ RamP w' g (putV m x 24 (goT 24 v)) ∧ w.grownBy w' (some g) := by
  have kS := setI_ok m g x v w hG hx hv hst
  change Calls _ _ _ _ fun e w' => e = .returned (.int .i64 0) ∧ RamP w' g (stM m x 4 (setN .I (ldV m x 4) v 32)) ∧ w.grownBy w' (some g)
  go_enter Try.func46, Try.ntmps46
  go_wp2_with (go_at_call 57; with_reducible refine kS.mono ?_; rintro e w3 ⟨rfl, hGE, hbE⟩)
  go_ret
  exact ⟨rfl, hGE, hbE⟩
set_option maxRecDepth 100000 in
set_option maxHeartbeats 4000000 in
theorem change_25 (m : Nat → UInt8) (g x v : Nat) (w : World) (hG : RamP w g m) (hx : x < 4294967296) (hv : v < 4294967296) (hst : stB x 4 = true) :
    Calls Try.prog 46 #[.iface 28 (mP g), .int .i64 25, .int .u32 (x : Int), .int .u32 (v : Int)] w fun e w' => e = .returned (.int .i64 0) ∧ RamP w' g (putV m x 25 (goT 25 v)) ∧ w.grownBy w' (some g) := by
  have kS := setS_ok m g x v w hG hx hv hst
  change Calls _ _ _ _ fun e w' => e = .returned (.int .i64 0) ∧ RamP w' g (stM m x 4 (setN .S (ldV m x 4) v 32)) ∧ w.grownBy w' (some g)
  go_enter Try.func46, Try.ntmps46
  go_wp2_with (go_at_call 57; with_reducible refine kS.mono ?_; rintro e w3 ⟨rfl, hGE, hbE⟩)
  go_ret
  exact ⟨rfl, hGE, hbE⟩
set_option maxRecDepth 100000 in
set_option maxHeartbeats 4000000 in
theorem change_26 (m : Nat → UInt8) (g x v : Nat) (w : World) (hG : RamP w g m) (hx : x < 4294967296) (hv : v < 4294967296) (hst : stB x 4 = true) :
    Calls Try.prog 46 #[.iface 28 (mP g), .int .i64 26, .int .u32 (x : Int), .int .u32 (v : Int)] w fun e w' => e = .returned (.int .i64 0) ∧ RamP w' g (putV m x 26 (goT 26 v)) ∧ w.grownBy w' (some g) := by
  have kU := fun W => kupper_any v W hv
  have hul := upP_le v
  have kS := setU_ok m g x (upP v) w hG hx hul.1 hst
  rw [setU_mod _ _ (ldV_lt m x) hul.1 hul.2] at kS
  change Calls _ _ _ _ fun e w' => e = .returned (.int .i64 0) ∧ RamP w' g (stM m x 4 (ldV m x 4 % 4096 + upP v)) ∧ w.grownBy w' (some g)
  generalize upP v = u at *
  generalize ldV m x 4 % 4096 + u = z at *
  go_enter Try.func46, Try.ntmps46
  go_wp2_with (first | (go_at_call 20; with_reducible refine (kU _).mono ?_; rintro e w2 ⟨rfl, rfl⟩) | (go_at_call 57; with_reducible refine kS.mono ?_; rintro e w3 ⟨rfl, hGE, hbE⟩))
  go_ret
  exact ⟨rfl, hGE, hbE⟩
set_option maxRecDepth 100000 in
set_option maxHeartbeats 4000000 in
theorem change_27 (m : Nat → UInt8) (g x v : Nat) (w : World) (hG : RamP w g m) (hx : x < 4294967296) (hv : v < 4294967296) (hst : stB x 4 = true) :
    Calls Try.prog 46 #[.iface 28 (mP g), .int .i64 27, .int .u32 (x : Int), .int .u32 (v : Int)] w fun e w' => e = .returned (.int .i64 0) ∧ RamP w' g (putV m x 27 (goT 27 v)) ∧ w.grownBy w' (some g) := by
  have kS := setI_ok m g x v w hG hx hv hst
  change Calls _ _ _ _ fun e w' => e = .returned (.int .i64 0) ∧ RamP w' g (stM m x 4 (setN .I (ldV m x 4) v 32)) ∧ w.grownBy w' (some g)
  go_enter Try.func46, Try.ntmps46
  go_wp2_with (go_at_call 57; with_reducible refine kS.mono ?_; rintro e w3 ⟨rfl, hGE, hbE⟩)
  go_ret
  exact ⟨rfl, hGE, hbE⟩
set_option maxRecDepth 100000 in
set_option maxHeartbeats 4000000 in
theorem change_28 (m : Nat → UInt8) (g x v : Nat) (w : World) (hG : RamP w g m) (hx : x < 4294967296) (hv : v < 4294967296) (hst : stB x 4 = true) :
    Calls Try.prog 46 #[.iface 28 (mP g), .int .i64 28, .int .u32 (x : Int), .int .u32 (v : Int)] w fun e w' => e = .returned (.int .i64 0) ∧ RamP w' g (putV m x 28 (goT 28 v)) ∧ w.grownBy w' (some g) := by
  have kS := setS_ok m g x v w hG hx hv hst
  change Calls _ _ _ _ fun e w' => e = .returned (.int .i64 0) ∧ RamP w' g (stM m x 4 (setN .S (ldV m x 4) v 32)) ∧ w.grownBy w' (some g)
  go_enter Try.func46, Try.ntmps46
  go_wp2_with (go_at_call 57; with_reducible refine kS.mono ?_; rintro e w3 ⟨rfl, hGE, hbE⟩)
  go_ret
  exact ⟨rfl, hGE, hbE⟩
theorem change_any (t : Int) (m : Nat → UInt8) (g x v : Nat) (w : World) (hG : RamP w g m) (hx : x < 4294967296) (hv : v < 4294967296) (hst : stB x 4 = true) (ht : okT t) (h2 : t = 18 ∨ t = 19 → stB (x + 4) 4 = true ∧ x + 4 < 4294967296) :
    Calls Try.prog 46 #[.iface 28 (mP g), .int .i64 t, .int .u32 (x : Int), .int .u32 (v : Int)] w fun e w' => e = .returned (.int .i64 0) ∧ RamP w' g (putV m x t (goT t v)) ∧ w.grownBy w' (some g) := by
  rcases ht with h | h | h | h | h | h | h | h | h | h | h | h <;> subst h
  · exact change_1 m g x v w hG hx hv hst
  · exact change_3 m g x v w hG hx hv hst
  · exact change_16 m g x v w hG hx hv hst
  · exact change_17 m g x v w hG hx hv hst
  · exact change_18 m g x v w hG hx hv hst (h2 (by decide)).1 (h2 (by decide)).2
  · exact change_19 m g x v w hG hx hv hst (h2 (by decide)).1 (h2 (by decide)).2
  · exact change_23 m g x v w hG hx hv hst
  · exact change_24 m g x v w hG hx hv hst
  · exact change_25 m g x v w hG hx hv hst
  · exact change_26 m g x v w hG hx hv hst
  · exact change_27 m g x v w hG hx hv hst
  · exact change_28 m g x v w hG hx hv hst
/-- a value's form is its kind's -/
theorem val_go (ss : List Nat) (rs : List Re) (B : Nat) (r : Re) (ht : okT r.t) : (∃ e, (e = 13 ∨ e = 14) ∧ valP ss rs B r = .bad e) ∨ ∃ v, v < 4294967296 ∧ valP ss rs B r = goT r.t v := by
  obtain ⟨p, t, s, a⟩ := r
  have h1 : saP ss B ⟨p, t, s, a⟩ < 4294967296 := Nat.mod_lt _ (by decide)
  have h2 : wayP ss B ⟨p, t, s, a⟩ < 4294967296 := Nat.mod_lt _ (by decide)
  have hok := val_ok ss rs B ⟨p, t, s, a⟩
  rcases ht with h | h | h | h | h | h | h | h | h | h | h | h <;> (replace h : t = _ := h; subst h)
  · exact Or.inr ⟨_, h1, val_1 ss rs B p s a⟩
  · exact Or.inr ⟨_, Nat.mod_lt _ (by decide), val_3 ss rs B p s a⟩
  · rw [val_16]
    split
    · exact Or.inr ⟨_, h2, rfl⟩
    · exact Or.inl ⟨14, by decide, rfl⟩
  · rw [val_17]
    split
    · exact Or.inr ⟨_, h2, rfl⟩
    · exact Or.inl ⟨14, by decide, rfl⟩
  · exact Or.inr ⟨_, h2, val_u ss rs B p s a 18 (by decide)⟩
  · exact Or.inr ⟨_, h2, val_u ss rs B p s a 19 (by decide)⟩
  · exact Or.inr ⟨_, h2, val_u ss rs B p s a 23 (by decide)⟩
  · rw [val_lo ss rs B p s a 24 (by decide)] at hok ⊢
    unfold loP at hok ⊢
    split
    · rename_i h0
      rw [if_pos h0] at hok
      cases hh : hiP ss B ((symP ss B s + a) % 4294967296) rs with
      | none => exact Or.inl ⟨13, by decide, rfl⟩
      | some v =>
        rw [hh] at hok
        exact Or.inr ⟨v, hok.1, rfl⟩
    · exact Or.inl ⟨13, by decide, rfl⟩
  · rw [val_lo ss rs B p s a 25 (by decide)] at hok ⊢
    unfold loP at hok ⊢
    split
    · rename_i h0
      rw [if_pos h0] at hok
      cases hh : hiP ss B ((symP ss B s + a) % 4294967296) rs with
      | none => exact Or.inl ⟨13, by decide, rfl⟩
      | some v =>
        rw [hh] at hok
        exact Or.inr ⟨v, hok.1, rfl⟩
    · exact Or.inl ⟨13, by decide, rfl⟩
  · exact Or.inr ⟨_, h1, val_26 ss rs B p s a⟩
  · exact Or.inr ⟨_, h1, val_27 ss rs B p s a⟩
  · exact Or.inr ⟨_, h1, val_28 ss rs B p s a⟩
theorem out_go (t : Int) (v : Nat) : outU (goT t v) = .tuple #[.int .u32 (v : Int), .int .i64 0] := by
  unfold goT
  split
  · rfl
  · split
    · rfl
    · split
      · rfl
      · split
        · rfl
        · split <;> rfl
theorem err_go (t : Int) (v : Nat) : errV (goT t v) = 0 := by
  unfold goT
  split
  · rfl
  · split
    · rfl
    · split
      · rfl
      · split
        · rfl
        · split <;> rfl
end Go.Proofs.Ytegaiphhoinilaa.Rc
