/-
Layer 15: play, a call of both.
-/
import Derived.Test.YthaockngbagdhaaDoorCsJ
namespace Go.Proofs.YthaockngbagdhaaDoor.Cs
open Go Go.RowKit
open Go.Proofs.YthaockngbagdhaaDoor.Pm (En Sl SlC SlE enV en0 TabT wp_fresh)

theorem one_new (w : World) (u : Array Value) (t : TypeId) : ∃ wa, wa = w.alloc (.cells u t) ∧ Has wa w.heap.size t u ∧ Below w.heap.size w wa ∧ wa.heap.size = w.heap.size + 1 :=
  ⟨_, rfl, Has.new _ _ _, (Below.refl _ _).alloc (Nat.le_refl _) _, Array.size_push _⟩
/-- the blocks of both -/
def S3 (g h mb : Nat) (i : Nat) : Prop := i = g ∨ i = h ∨ i = mb
theorem Ref.only {S : Nat → Prop} {w w' : World} {h mb : Nat} {s : St} (H : Ref w h mb s) (k : Only S w w') (h1 : ¬ S h) (h2 : ¬ S mb) : Ref w' h mb s := by
  refine ⟨k.has H.blk h1, ?_, H.ok⟩
  obtain ⟨n, D, ⟨es, cl, hb, F, hs, e⟩, h4, h5⟩ := H.map
  exact ⟨n, D, ⟨es, cl, (k.block mb H.map.lt h2).trans hb, F, hs, e⟩, h4, h5⟩
def PlayO (Is : World → Nat → St → Prop) (g h mb : Nat) (w : World) (e : Ending) (w' : World) : Prop := e = .returned (.bool true) ∧ (∃ s', Is w' g s' ∧ Ref w' h mb s') ∧ Only (S3 g h mb) w w'
theorem slE_only {S : Nat → Prop} {w w' : World} {q : Sl} {l : List En} (h : SlE w q l) (k : Only S w w') (hne : ∀ b o, q.A = some ⟨b, o, none⟩ → 0 < q.n → ¬ S b) : SlE w' q l := by
  refine ⟨h.1, ⟨h.2.1.1, fun hn => ?_⟩, h.2.2⟩
  obtain ⟨b, o, e, hlt, hc⟩ := h.2.1.2 hn
  refine ⟨b, o, e, Nat.lt_of_lt_of_le hlt k.size, fun j i hj hi => ?_⟩
  have hb := k.block b hlt (hne b o e hn)
  have h0 := hc j i hj hi
  unfold World.cell? at h0 ⊢
  dsimp only at h0 ⊢
  rw [hb]
  exact h0
set_option maxRecDepth 100000 in
set_option maxHeartbeats 4000000 in
theorem play_0 {Is : World → Nat → St → Prop} (O : CsrOK Is) (p : Ca) (t : Sl) (g h mb : Nat) (s : St) (w : World) (hI : Is w g s) (hR : Ref w h mb s) (hS : SlE w t p.l) (hp : p.Wf) (hk : p.k = 0) (hgh : g ≠ h) (hgm : g ≠ mb)
    (hne : ∀ b o, t.A = some ⟨b, o, none⟩ → 0 < t.n → ¬ S3 g h mb b) : Calls Tryd.prog 9 #[hP g, hP h, .agg (tab 5 (caV p t))] w (PlayO Is g h mb w) := by
  obtain ⟨u, hu, hJ, hb0, hz0⟩ := one_new w (tab 5 (caV p t)) 33
  obtain ⟨bx, hbx⟩ : ∃ b, b = w.heap.size := ⟨_, rfl⟩
  have hI1 := O.below hI hb0
  have hR1 := hR.after hb0
  have hS1 := hS.below hb0
  have hO1 : Only (S3 g h mb) w u := Only.of_below hb0
  have hbg : bx ≠ g := by have := O.lt hI; omega
  have hbh : bx ≠ h := by have := hR.blk.lt; omega
  have hbm : bx ≠ mb := by have := hR.map.lt; omega
  rw [← hbx] at hJ
  have hn := hp.n
  have hx := hp.x
  have hy := hp.y
  obtain ⟨k, n, x, y, l⟩ := p
  obtain ⟨A, tn, tc⟩ := t
  dsimp only at hk hn hx hy hS1 hne
  subst hk
  have HJ := Lib.hid hJ
  have HI := Lib.hid hI1
  have HR := Lib.hid hR1
  have HS := Lib.hid hS1
  have HO := Lib.hid hO1
  have HNE := Lib.hid hne
  have hnI : (n : Int) < 4294967296 := by omega
  have hxI : (x : Int) < 4294967296 := by omega
  have hyI : (y : Int) < 4294967296 := by omega
  have q0 : u.cell? ⟨bx, 0, none⟩ = some (.int .i64 0) := hJ.cell 0
  have q1 : u.cell? ⟨bx, 1, none⟩ = some (.int .u32 (n : Int)) := hJ.cell 1
  have q2 : u.cell? ⟨bx, 2, none⟩ = some (.int .u32 (x : Int)) := hJ.cell 2
  have q3 : u.cell? ⟨bx, 3, none⟩ = some (.int .u32 (y : Int)) := hJ.cell 3
  have q4 : u.cell? ⟨bx, 4, none⟩ = some (.slice A tn tc) := hJ.cell 4
  have v1 := IntWalk.i64_in (n : Int) (by omega)
  have v2 := IntWalk.i64_in (x : Int) (by omega)
  clear hJ hI1 hR1 hS1 hO1 hne hI hR hS hb0 hz0 hp
  show Calls _ _ #[hP g, hP h, .agg #[.int .i64 0, .int .u32 (n : Int), .int .u32 (x : Int), .int .u32 (y : Int), .slice A tn tc]] _ _
  replace hu : w.alloc (.cells #[.int .i64 0, .int .u32 (n : Int), .int .u32 (x : Int), .int .u32 (y : Int), .slice A tn tc] 33) = u := hu.symm
  go_enter Tryd.func9, Tryd.ntmps9
  go_upto_region 1 with fail
  first | rw [hu] | skip
  first | rw [← hbx] | skip
  clear hu hbx
  refine region_quiet_all (fun w' => ∃ n, w' = u.drewN n) (by kernel_rfl) (by kernel_rfl) ⟨1, rfl⟩ ?_
  repeat (quiet_step (fail))
  refine wpQuiet_nil ?_
  rintro w' ⟨nq, rfl⟩
  have hJ := HJ.out.drewN nq
  have hI := O.keep (S := fun _ => False) HI.out (Only.drewN u nq) (fun h => h)
  have hR := HR.out.only (Only.drewN (S := fun _ => False) u nq) (fun h => h) (fun h => h)
  have hS := slE_only HS.out (Only.drewN (S := fun _ => False) u nq) (fun _ _ _ _ h => h)
  have hO := HO.out.trans (Only.drewN u nq)
  replace q0 : (u.drewN nq).cell? ⟨bx, 0, none⟩ = some (.int .i64 0) := q0
  replace q1 : (u.drewN nq).cell? ⟨bx, 1, none⟩ = some (.int .u32 (n : Int)) := q1
  replace q2 : (u.drewN nq).cell? ⟨bx, 2, none⟩ = some (.int .u32 (x : Int)) := q2
  replace q3 : (u.drewN nq).cell? ⟨bx, 3, none⟩ = some (.int .u32 (y : Int)) := q3
  replace q4 : (u.drewN nq).cell? ⟨bx, 4, none⟩ = some (.slice A tn tc) := q4
  clear HJ HI HR HS HO
  generalize u.drewN nq = u1 at *
  have hw := O.write u1 g s n x hI hn hx
  have hrw := fun W (hW : Ref W h mb s) => rwrite_any s n x h mb W hW hn hx
  have kR : ∀ W, Only (S1 g) u1 W → Ref W h mb s := fun W k => hR.only k (fun e => hgh e.symm) (fun e => hgm e.symm)
  have kJ : ∀ W, Only (S1 g) u1 W → Has W bx 33 _ := fun W k => k.has hJ hbg
  generalize (writeC s n x).isSome = b at *
  generalize (writeC s n x).getD s = s2 at *
  have hbb : (b == b) = true := by cases b <;> rfl
  go_upto_region 4 with fail
  go_wp2_with (first
    | (go_at_call 16; with_reducible refine hw.mono ?_; rintro e w2 ⟨rfl, hI2, hO2⟩)
    | (go_at_call 21; with_reducible refine (hrw _ (kR _ hO2)).mono ?_; rintro e w3 ⟨rfl, hR3, hO3⟩))
  go_ret
  refine ⟨rfl, ⟨_, O.keep hI2 hO3 (fun e => e.elim (fun e => hgh e) (fun e => hgm e)), hR3⟩, ?_⟩
  exact (hO.trans (hO2.mono fun i hi => Or.inl hi)).trans (hO3.mono fun i hi => Or.inr hi)
set_option maxRecDepth 100000 in
set_option maxHeartbeats 4000000 in
theorem play_1 {Is : World → Nat → St → Prop} (O : CsrOK Is) (p : Ca) (t : Sl) (g h mb : Nat) (s : St) (w : World) (hI : Is w g s) (hR : Ref w h mb s) (hS : SlE w t p.l) (hp : p.Wf) (hk : p.k = 1) (hgh : g ≠ h) (hgm : g ≠ mb)
    (hne : ∀ b o, t.A = some ⟨b, o, none⟩ → 0 < t.n → ¬ S3 g h mb b) : Calls Tryd.prog 9 #[hP g, hP h, .agg (tab 5 (caV p t))] w (PlayO Is g h mb w) := by
  obtain ⟨u, hu, hJ, hb0, hz0⟩ := one_new w (tab 5 (caV p t)) 33
  obtain ⟨bx, hbx⟩ : ∃ b, b = w.heap.size := ⟨_, rfl⟩
  have hI1 := O.below hI hb0
  have hR1 := hR.after hb0
  have hS1 := hS.below hb0
  have hO1 : Only (S3 g h mb) w u := Only.of_below hb0
  have hbg : bx ≠ g := by have := O.lt hI; omega
  have hbh : bx ≠ h := by have := hR.blk.lt; omega
  have hbm : bx ≠ mb := by have := hR.map.lt; omega
  rw [← hbx] at hJ
  have hn := hp.n
  have hx := hp.x
  have hy := hp.y
  obtain ⟨k, n, x, y, l⟩ := p
  obtain ⟨A, tn, tc⟩ := t
  dsimp only at hk hn hx hy hS1 hne
  subst hk
  have HJ := Lib.hid hJ
  have HI := Lib.hid hI1
  have HR := Lib.hid hR1
  have HS := Lib.hid hS1
  have HO := Lib.hid hO1
  have HNE := Lib.hid hne
  have hnI : (n : Int) < 4294967296 := by omega
  have hxI : (x : Int) < 4294967296 := by omega
  have hyI : (y : Int) < 4294967296 := by omega
  have q0 : u.cell? ⟨bx, 0, none⟩ = some (.int .i64 1) := hJ.cell 0
  have q1 : u.cell? ⟨bx, 1, none⟩ = some (.int .u32 (n : Int)) := hJ.cell 1
  have q2 : u.cell? ⟨bx, 2, none⟩ = some (.int .u32 (x : Int)) := hJ.cell 2
  have q3 : u.cell? ⟨bx, 3, none⟩ = some (.int .u32 (y : Int)) := hJ.cell 3
  have q4 : u.cell? ⟨bx, 4, none⟩ = some (.slice A tn tc) := hJ.cell 4
  have v1 := IntWalk.i64_in (n : Int) (by omega)
  have v2 := IntWalk.i64_in (x : Int) (by omega)
  clear hJ hI1 hR1 hS1 hO1 hne hI hR hS hb0 hz0 hp
  show Calls _ _ #[hP g, hP h, .agg #[.int .i64 1, .int .u32 (n : Int), .int .u32 (x : Int), .int .u32 (y : Int), .slice A tn tc]] _ _
  replace hu : w.alloc (.cells #[.int .i64 1, .int .u32 (n : Int), .int .u32 (x : Int), .int .u32 (y : Int), .slice A tn tc] 33) = u := hu.symm
  go_enter Tryd.func9, Tryd.ntmps9
  go_upto_region 1 with fail
  first | rw [hu] | skip
  first | rw [← hbx] | skip
  clear hu hbx
  refine region_quiet_all (fun w' => ∃ n, w' = u.drewN n) (by kernel_rfl) (by kernel_rfl) ⟨1, rfl⟩ ?_
  repeat (quiet_step (fail))
  refine wpQuiet_nil ?_
  rintro w' ⟨nq, rfl⟩
  have hJ := HJ.out.drewN nq
  have hI := O.keep (S := fun _ => False) HI.out (Only.drewN u nq) (fun h => h)
  have hR := HR.out.only (Only.drewN (S := fun _ => False) u nq) (fun h => h) (fun h => h)
  have hS := slE_only HS.out (Only.drewN (S := fun _ => False) u nq) (fun _ _ _ _ h => h)
  have hO := HO.out.trans (Only.drewN u nq)
  replace q0 : (u.drewN nq).cell? ⟨bx, 0, none⟩ = some (.int .i64 1) := q0
  replace q1 : (u.drewN nq).cell? ⟨bx, 1, none⟩ = some (.int .u32 (n : Int)) := q1
  replace q2 : (u.drewN nq).cell? ⟨bx, 2, none⟩ = some (.int .u32 (x : Int)) := q2
  replace q3 : (u.drewN nq).cell? ⟨bx, 3, none⟩ = some (.int .u32 (y : Int)) := q3
  replace q4 : (u.drewN nq).cell? ⟨bx, 4, none⟩ = some (.slice A tn tc) := q4
  clear HJ HI HR HS HO
  generalize u.drewN nq = u1 at *
  have hand : bits .and .u32 (x : Int) 1 = ((x % 2 : Nat) : Int) := by
    rw [show (1 : Int) = ((2 ^ 1 - 1 : Nat) : Int) by decide, u32_and_nat _ _ hx (by decide), Nat.and_two_pow_sub_one_eq_mod]
  obtain ⟨b, hb⟩ : ∃ b : Bool, (((x % 2 : Nat) : Int) == 1) = b := ⟨_, rfl⟩
  generalize x % 2 = xo at *
  have HBb := Lib.hid hb
  have ht := O.timer u1 g s b hI
  have hrt := fun W (hW : Ref W h mb s) => rtimer_any s b h mb W hW
  have kR : ∀ W, Only (S1 g) u1 W → Ref W h mb s := fun W k => hR.only k (fun e => hgh e.symm) (fun e => hgm e.symm)
  have kJ : ∀ W, Only (S1 g) u1 W → Has W bx 33 _ := fun W k => k.has hJ hbg
  have kq : ∀ W, Only (S1 g) u1 W → W.cell? ⟨bx, 2, none⟩ = some (.int .u32 (x : Int)) := fun W k => (kJ W k).cell 2
  go_wp2_with (first
    | (go_at_call 14; with_reducible refine ht.mono ?_; rintro e w2 ⟨rfl, hI2, hO2⟩; have q2' := kq _ hO2)
    | (go_at_call 22; with_reducible refine (hrt _ (kR _ hO2)).mono ?_; rintro e w3 ⟨rfl, hR3, hO3⟩))
  go_ret
  refine ⟨rfl, ⟨_, O.keep hI2 hO3 (fun e => e.elim (fun e => hgh e) (fun e => hgm e)), hR3⟩, ?_⟩
  exact (hO.trans (hO2.mono fun i hi => Or.inl hi)).trans (hO3.mono fun i hi => Or.inr hi)
set_option maxRecDepth 100000 in
set_option maxHeartbeats 4000000 in
theorem play_5 {Is : World → Nat → St → Prop} (O : CsrOK Is) (p : Ca) (t : Sl) (g h mb : Nat) (s : St) (w : World) (hI : Is w g s) (hR : Ref w h mb s) (hS : SlE w t p.l) (hp : p.Wf) (hk : p.k = 5) (hgh : g ≠ h) (hgm : g ≠ mb)
    (hne : ∀ b o, t.A = some ⟨b, o, none⟩ → 0 < t.n → ¬ S3 g h mb b) : Calls Tryd.prog 9 #[hP g, hP h, .agg (tab 5 (caV p t))] w (PlayO Is g h mb w) := by
  obtain ⟨u, hu, hJ, hb0, hz0⟩ := one_new w (tab 5 (caV p t)) 33
  obtain ⟨bx, hbx⟩ : ∃ b, b = w.heap.size := ⟨_, rfl⟩
  have hI1 := O.below hI hb0
  have hR1 := hR.after hb0
  have hS1 := hS.below hb0
  have hO1 : Only (S3 g h mb) w u := Only.of_below hb0
  have hbg : bx ≠ g := by have := O.lt hI; omega
  have hbh : bx ≠ h := by have := hR.blk.lt; omega
  have hbm : bx ≠ mb := by have := hR.map.lt; omega
  rw [← hbx] at hJ
  have hn := hp.n
  have hx := hp.x
  have hy := hp.y
  obtain ⟨k, n, x, y, l⟩ := p
  obtain ⟨A, tn, tc⟩ := t
  dsimp only at hk hn hx hy hS1 hne
  subst hk
  have HJ := Lib.hid hJ
  have HI := Lib.hid hI1
  have HR := Lib.hid hR1
  have HS := Lib.hid hS1
  have HO := Lib.hid hO1
  have HNE := Lib.hid hne
  have hnI : (n : Int) < 4294967296 := by omega
  have hxI : (x : Int) < 4294967296 := by omega
  have hyI : (y : Int) < 4294967296 := by omega
  have q0 : u.cell? ⟨bx, 0, none⟩ = some (.int .i64 5) := hJ.cell 0
  have q1 : u.cell? ⟨bx, 1, none⟩ = some (.int .u32 (n : Int)) := hJ.cell 1
  have q2 : u.cell? ⟨bx, 2, none⟩ = some (.int .u32 (x : Int)) := hJ.cell 2
  have q3 : u.cell? ⟨bx, 3, none⟩ = some (.int .u32 (y : Int)) := hJ.cell 3
  have q4 : u.cell? ⟨bx, 4, none⟩ = some (.slice A tn tc) := hJ.cell 4
  have v1 := IntWalk.i64_in (n : Int) (by omega)
  have v2 := IntWalk.i64_in (x : Int) (by omega)
  clear hJ hI1 hR1 hS1 hO1 hne hI hR hS hb0 hz0 hp
  show Calls _ _ #[hP g, hP h, .agg #[.int .i64 5, .int .u32 (n : Int), .int .u32 (x : Int), .int .u32 (y : Int), .slice A tn tc]] _ _
  replace hu : w.alloc (.cells #[.int .i64 5, .int .u32 (n : Int), .int .u32 (x : Int), .int .u32 (y : Int), .slice A tn tc] 33) = u := hu.symm
  go_enter Tryd.func9, Tryd.ntmps9
  go_upto_region 1 with fail
  first | rw [hu] | skip
  first | rw [← hbx] | skip
  clear hu hbx
  refine region_quiet_all (fun w' => ∃ n, w' = u.drewN n) (by kernel_rfl) (by kernel_rfl) ⟨1, rfl⟩ ?_
  repeat (quiet_step (fail))
  refine wpQuiet_nil ?_
  rintro w' ⟨nq, rfl⟩
  have hJ := HJ.out.drewN nq
  have hI := O.keep (S := fun _ => False) HI.out (Only.drewN u nq) (fun h => h)
  have hR := HR.out.only (Only.drewN (S := fun _ => False) u nq) (fun h => h) (fun h => h)
  have hS := slE_only HS.out (Only.drewN (S := fun _ => False) u nq) (fun _ _ _ _ h => h)
  have hO := HO.out.trans (Only.drewN u nq)
  replace q0 : (u.drewN nq).cell? ⟨bx, 0, none⟩ = some (.int .i64 5) := q0
  replace q1 : (u.drewN nq).cell? ⟨bx, 1, none⟩ = some (.int .u32 (n : Int)) := q1
  replace q2 : (u.drewN nq).cell? ⟨bx, 2, none⟩ = some (.int .u32 (x : Int)) := q2
  replace q3 : (u.drewN nq).cell? ⟨bx, 3, none⟩ = some (.int .u32 (y : Int)) := q3
  replace q4 : (u.drewN nq).cell? ⟨bx, 4, none⟩ = some (.slice A tn tc) := q4
  clear HJ HI HR HS HO
  generalize u.drewN nq = u1 at *
  have hand : bits .and .u32 (x : Int) 1 = ((x % 2 : Nat) : Int) := by
    rw [show (1 : Int) = ((2 ^ 1 - 1 : Nat) : Int) by decide, u32_and_nat _ _ hx (by decide), Nat.and_two_pow_sub_one_eq_mod]
  obtain ⟨b, hb⟩ : ∃ b : Bool, (((x % 2 : Nat) : Int) == 1) = b := ⟨_, rfl⟩
  generalize x % 2 = xo at *
  have HBb := Lib.hid hb
  have ht := O.tick u1 g s b hI
  have hrt := fun W (hW : Ref W h mb s) => rtick_any s b h mb W hW
  have kR : ∀ W, Only (S1 g) u1 W → Ref W h mb s := fun W k => hR.only k (fun e => hgh e.symm) (fun e => hgm e.symm)
  have kJ : ∀ W, Only (S1 g) u1 W → Has W bx 33 _ := fun W k => k.has hJ hbg
  have kq : ∀ W, Only (S1 g) u1 W → W.cell? ⟨bx, 2, none⟩ = some (.int .u32 (x : Int)) := fun W k => (kJ W k).cell 2
  go_wp2_with (first
    | (go_at_call 15; with_reducible refine ht.mono ?_; rintro e w2 ⟨rfl, hI2, hO2⟩; have q2' := kq _ hO2)
    | (go_at_call 26; with_reducible refine (hrt _ (kR _ hO2)).mono ?_; rintro e w3 ⟨rfl, hR3, hO3⟩))
  go_ret
  refine ⟨rfl, ⟨_, O.keep hI2 hO3 (fun e => e.elim (fun e => hgh e) (fun e => hgm e)), hR3⟩, ?_⟩
  exact (hO.trans (hO2.mono fun i hi => Or.inl hi)).trans (hO3.mono fun i hi => Or.inr hi)
set_option maxRecDepth 100000 in
set_option maxHeartbeats 4000000 in
theorem play_4 {Is : World → Nat → St → Prop} (O : CsrOK Is) (p : Ca) (t : Sl) (g h mb : Nat) (s : St) (w : World) (hI : Is w g s) (hR : Ref w h mb s) (hS : SlE w t p.l) (hp : p.Wf) (hk : p.k = 4) (hgh : g ≠ h) (hgm : g ≠ mb)
    (hne : ∀ b o, t.A = some ⟨b, o, none⟩ → 0 < t.n → ¬ S3 g h mb b) : Calls Tryd.prog 9 #[hP g, hP h, .agg (tab 5 (caV p t))] w (PlayO Is g h mb w) := by
  obtain ⟨u, hu, hJ, hb0, hz0⟩ := one_new w (tab 5 (caV p t)) 33
  obtain ⟨bx, hbx⟩ : ∃ b, b = w.heap.size := ⟨_, rfl⟩
  have hI1 := O.below hI hb0
  have hR1 := hR.after hb0
  have hS1 := hS.below hb0
  have hO1 : Only (S3 g h mb) w u := Only.of_below hb0
  have hbg : bx ≠ g := by have := O.lt hI; omega
  have hbh : bx ≠ h := by have := hR.blk.lt; omega
  have hbm : bx ≠ mb := by have := hR.map.lt; omega
  rw [← hbx] at hJ
  have hn := hp.n
  have hx := hp.x
  have hy := hp.y
  obtain ⟨k, n, x, y, l⟩ := p
  obtain ⟨A, tn, tc⟩ := t
  dsimp only at hk hn hx hy hS1 hne
  subst hk
  have HJ := Lib.hid hJ
  have HI := Lib.hid hI1
  have HR := Lib.hid hR1
  have HS := Lib.hid hS1
  have HO := Lib.hid hO1
  have HNE := Lib.hid hne
  have hnI : (n : Int) < 4294967296 := by omega
  have hxI : (x : Int) < 4294967296 := by omega
  have hyI : (y : Int) < 4294967296 := by omega
  have q0 : u.cell? ⟨bx, 0, none⟩ = some (.int .i64 4) := hJ.cell 0
  have q1 : u.cell? ⟨bx, 1, none⟩ = some (.int .u32 (n : Int)) := hJ.cell 1
  have q2 : u.cell? ⟨bx, 2, none⟩ = some (.int .u32 (x : Int)) := hJ.cell 2
  have q3 : u.cell? ⟨bx, 3, none⟩ = some (.int .u32 (y : Int)) := hJ.cell 3
  have q4 : u.cell? ⟨bx, 4, none⟩ = some (.slice A tn tc) := hJ.cell 4
  have v1 := IntWalk.i64_in (n : Int) (by omega)
  have v2 := IntWalk.i64_in (x : Int) (by omega)
  clear hJ hI1 hR1 hS1 hO1 hne hI hR hS hb0 hz0 hp
  show Calls _ _ #[hP g, hP h, .agg #[.int .i64 4, .int .u32 (n : Int), .int .u32 (x : Int), .int .u32 (y : Int), .slice A tn tc]] _ _
  replace hu : w.alloc (.cells #[.int .i64 4, .int .u32 (n : Int), .int .u32 (x : Int), .int .u32 (y : Int), .slice A tn tc] 33) = u := hu.symm
  go_enter Tryd.func9, Tryd.ntmps9
  go_upto_region 1 with fail
  first | rw [hu] | skip
  first | rw [← hbx] | skip
  clear hu hbx
  refine region_quiet_all (fun w' => ∃ n, w' = u.drewN n) (by kernel_rfl) (by kernel_rfl) ⟨1, rfl⟩ ?_
  repeat (quiet_step (fail))
  refine wpQuiet_nil ?_
  rintro w' ⟨nq, rfl⟩
  have hJ := HJ.out.drewN nq
  have hI := O.keep (S := fun _ => False) HI.out (Only.drewN u nq) (fun h => h)
  have hR := HR.out.only (Only.drewN (S := fun _ => False) u nq) (fun h => h) (fun h => h)
  have hS := slE_only HS.out (Only.drewN (S := fun _ => False) u nq) (fun _ _ _ _ h => h)
  have hO := HO.out.trans (Only.drewN u nq)
  replace q0 : (u.drewN nq).cell? ⟨bx, 0, none⟩ = some (.int .i64 4) := q0
  replace q1 : (u.drewN nq).cell? ⟨bx, 1, none⟩ = some (.int .u32 (n : Int)) := q1
  replace q2 : (u.drewN nq).cell? ⟨bx, 2, none⟩ = some (.int .u32 (x : Int)) := q2
  replace q3 : (u.drewN nq).cell? ⟨bx, 3, none⟩ = some (.int .u32 (y : Int)) := q3
  replace q4 : (u.drewN nq).cell? ⟨bx, 4, none⟩ = some (.slice A tn tc) := q4
  clear HJ HI HR HS HO
  generalize u.drewN nq = u1 at *
  have hw := O.protect u1 g s l ⟨A, tn, tc⟩ hI hS (fun b o e h0 => fun e2 => HNE.out b o e h0 (Or.inl e2))
  have hSk : ∀ W, Only (S1 g) u1 W → SlE W ⟨A, tn, tc⟩ l := fun W k => slE_only hS k (fun b o e h0 e2 => HNE.out b o e h0 (Or.inl e2))
  have kR : ∀ W, Only (S1 g) u1 W → Ref W h mb s := fun W k => hR.only k (fun e => hgh e.symm) (fun e => hgm e.symm)
  have kJ : ∀ W, Only (S1 g) u1 W → Has W bx 33 _ := fun W k => k.has hJ hbg
  have kq : ∀ W, Only (S1 g) u1 W → W.cell? ⟨bx, 4, none⟩ = some (.slice A tn tc) := fun W k => (kJ W k).cell 4
  have htn : tn ≤ 140737488355328 := hS.2.1.1.2
  unfold Sl.v at hw
  dsimp only at hw
  by_cases h16 : 16 < tn
  · rw [if_pos h16, if_pos h16] at hw
    have h16I : (16 : Int) < (tn : Int) := by omega
    go_wp2_with (go_at_call 19; with_reducible refine hw.mono ?_; rintro e w2 ⟨rfl, hI2, hO2⟩; have q4' := kq _ hO2)
    go_ret
    exact ⟨rfl, ⟨s, hI2, kR _ hO2⟩, hO.trans (hO2.mono fun i hi => Or.inl hi)⟩
  · rw [if_neg h16, if_neg h16] at hw
    have h16A : decide ((16 : Int) < (tn : Int)) = false := decide_eq_false (by omega)
    have h16B : ((16 : Int) < (tn : Int)) = False := eq_false (by omega)
    have h16C : decide (16 < tn) = false := decide_eq_false h16
    have hrp := fun W (hW : Ref W h mb s) (hQ : SlE W ⟨A, tn, tc⟩ l) => rprot_any s l ⟨A, tn, tc⟩ h mb W hW hQ (by show tn ≤ 16; omega) (fun b o e h0 => ⟨fun e2 => HNE.out b o e h0 (Or.inr (Or.inl e2)), fun e2 => HNE.out b o e h0 (Or.inr (Or.inr e2))⟩)
    unfold Sl.v at hrp
    dsimp only at hrp
    clear h16
    go_wp2_with (first
      | (go_at_call 19; with_reducible refine hw.mono ?_; rintro e w2 ⟨rfl, hI2, hO2⟩; have q4' := kq _ hO2)
      | (go_at_call 25; with_reducible refine (hrp _ (kR _ hO2) (hSk _ hO2)).mono ?_; rintro e w3 ⟨rfl, hR3, hO3⟩))
    go_ret
    refine ⟨rfl, ⟨_, O.keep hI2 hO3 (fun e => e.elim (fun e => hgh e) (fun e => hgm e)), hR3⟩, ?_⟩
    exact (hO.trans (hO2.mono fun i hi => Or.inl hi)).trans (hO3.mono fun i hi => Or.inr hi)
set_option maxRecDepth 100000 in
set_option maxHeartbeats 4000000 in
theorem play_6 {Is : World → Nat → St → Prop} (O : CsrOK Is) (p : Ca) (t : Sl) (g h mb : Nat) (s : St) (w : World) (hI : Is w g s) (hR : Ref w h mb s) (hS : SlE w t p.l) (hp : p.Wf) (hk : p.k = 6) (hgh : g ≠ h) (hgm : g ≠ mb)
    (hne : ∀ b o, t.A = some ⟨b, o, none⟩ → 0 < t.n → ¬ S3 g h mb b) : Calls Tryd.prog 9 #[hP g, hP h, .agg (tab 5 (caV p t))] w (PlayO Is g h mb w) := by
  obtain ⟨u, hu, hJ, hb0, hz0⟩ := one_new w (tab 5 (caV p t)) 33
  obtain ⟨bx, hbx⟩ : ∃ b, b = w.heap.size := ⟨_, rfl⟩
  have hI1 := O.below hI hb0
  have hR1 := hR.after hb0
  have hS1 := hS.below hb0
  have hO1 : Only (S3 g h mb) w u := Only.of_below hb0
  have hbg : bx ≠ g := by have := O.lt hI; omega
  have hbh : bx ≠ h := by have := hR.blk.lt; omega
  have hbm : bx ≠ mb := by have := hR.map.lt; omega
  rw [← hbx] at hJ
  have hn := hp.n
  have hx := hp.x
  have hy := hp.y
  obtain ⟨k, n, x, y, l⟩ := p
  obtain ⟨A, tn, tc⟩ := t
  dsimp only at hk hn hx hy hS1 hne
  subst hk
  have HJ := Lib.hid hJ
  have HI := Lib.hid hI1
  have HR := Lib.hid hR1
  have HS := Lib.hid hS1
  have HO := Lib.hid hO1
  have HNE := Lib.hid hne
  have hnI : (n : Int) < 4294967296 := by omega
  have hxI : (x : Int) < 4294967296 := by omega
  have hyI : (y : Int) < 4294967296 := by omega
  have q0 : u.cell? ⟨bx, 0, none⟩ = some (.int .i64 6) := hJ.cell 0
  have q1 : u.cell? ⟨bx, 1, none⟩ = some (.int .u32 (n : Int)) := hJ.cell 1
  have q2 : u.cell? ⟨bx, 2, none⟩ = some (.int .u32 (x : Int)) := hJ.cell 2
  have q3 : u.cell? ⟨bx, 3, none⟩ = some (.int .u32 (y : Int)) := hJ.cell 3
  have q4 : u.cell? ⟨bx, 4, none⟩ = some (.slice A tn tc) := hJ.cell 4
  have v1 := IntWalk.i64_in (n : Int) (by omega)
  have v2 := IntWalk.i64_in (x : Int) (by omega)
  clear hJ hI1 hR1 hS1 hO1 hne hI hR hS hb0 hz0 hp
  show Calls _ _ #[hP g, hP h, .agg #[.int .i64 6, .int .u32 (n : Int), .int .u32 (x : Int), .int .u32 (y : Int), .slice A tn tc]] _ _
  replace hu : w.alloc (.cells #[.int .i64 6, .int .u32 (n : Int), .int .u32 (x : Int), .int .u32 (y : Int), .slice A tn tc] 33) = u := hu.symm
  go_enter Tryd.func9, Tryd.ntmps9
  go_upto_region 1 with fail
  first | rw [hu] | skip
  first | rw [← hbx] | skip
  clear hu hbx
  refine region_quiet_all (fun w' => ∃ n, w' = u.drewN n) (by kernel_rfl) (by kernel_rfl) ⟨1, rfl⟩ ?_
  repeat (quiet_step (fail))
  refine wpQuiet_nil ?_
  rintro w' ⟨nq, rfl⟩
  have hJ := HJ.out.drewN nq
  have hI := O.keep (S := fun _ => False) HI.out (Only.drewN u nq) (fun h => h)
  have hR := HR.out.only (Only.drewN (S := fun _ => False) u nq) (fun h => h) (fun h => h)
  have hS := slE_only HS.out (Only.drewN (S := fun _ => False) u nq) (fun _ _ _ _ h => h)
  have hO := HO.out.trans (Only.drewN u nq)
  replace q0 : (u.drewN nq).cell? ⟨bx, 0, none⟩ = some (.int .i64 6) := q0
  replace q1 : (u.drewN nq).cell? ⟨bx, 1, none⟩ = some (.int .u32 (n : Int)) := q1
  replace q2 : (u.drewN nq).cell? ⟨bx, 2, none⟩ = some (.int .u32 (x : Int)) := q2
  replace q3 : (u.drewN nq).cell? ⟨bx, 3, none⟩ = some (.int .u32 (y : Int)) := q3
  replace q4 : (u.drewN nq).cell? ⟨bx, 4, none⟩ = some (.slice A tn tc) := q4
  clear HJ HI HR HS HO
  generalize u.drewN nq = u1 at *
  have hm := O.mode hI
  have c1 := hm.1
  have f1 := hm.2
  have hI2 : Is (u1.setCell ⟨g, 0, none⟩ (.int .i64 0)) g { s with mode := 0 } := O.setMode 0 hI (by decide)
  have hO2 : Only (S1 g) u1 (u1.setCell ⟨g, 0, none⟩ (.int .i64 0)) := Only.setCell (S := S1 g) _ (show S1 g g from rfl) _
  have hR2 := hR.only hO2 (fun e => hgh e.symm) (fun e => hgm e.symm)
  have c2 : (u1.setCell ⟨g, 0, none⟩ (.int .i64 0)).cell? ⟨h, 0, none⟩ = some (.int .i64 (s.mode : Int)) := hR2.blk.cellTab 0 (by decide)
  have f2 : (u1.setCell ⟨g, 0, none⟩ (.int .i64 0)).frozen? ⟨h, 0, none⟩ = false := hR2.blk.free 0
  have f3 : u1.frozen? ⟨h, 0, none⟩ = false := hR.blk.free 0
  have c3 : u1.cell? ⟨h, 0, none⟩ = some (.int .i64 (s.mode : Int)) := hR.blk.cellTab 0 (by decide)
  have hR3 : Ref ((u1.setCell ⟨g, 0, none⟩ (.int .i64 0)).setCell ⟨h, 0, none⟩ (.int .i64 0)) h mb { s with mode := 0 } := hR2.mode 0 (by decide)
  have hO3 : Only (SR h mb) (u1.setCell ⟨g, 0, none⟩ (.int .i64 0)) ((u1.setCell ⟨g, 0, none⟩ (.int .i64 0)).setCell ⟨h, 0, none⟩ (.int .i64 0)) := Only.setCell _ (Or.inl rfl) _
  have HH := Lib.hid (And.intro hI2 (And.intro hO2 (And.intro hR3 (And.intro hO3 hO))))
  clear hm hI2 hO2 hR3 hO3 hR2 hI hR hO
  go_wp2_with fail
  go_ret
  obtain ⟨hI2, hO2, hR3, hO3, hO⟩ := HH.out
  refine ⟨rfl, ⟨_, O.keep hI2 hO3 (fun e => e.elim (fun e => hgh e) (fun e => hgm e)), hR3⟩, ?_⟩
  exact (hO.trans (hO2.mono fun i hi => Or.inl hi)).trans (hO3.mono fun i hi => Or.inr hi)
set_option maxRecDepth 100000 in
set_option maxHeartbeats 4000000 in
theorem play_7 {Is : World → Nat → St → Prop} (O : CsrOK Is) (p : Ca) (t : Sl) (g h mb : Nat) (s : St) (w : World) (hI : Is w g s) (hR : Ref w h mb s) (hS : SlE w t p.l) (hp : p.Wf) (hk : p.k = 7) (hgh : g ≠ h) (hgm : g ≠ mb)
    (hne : ∀ b o, t.A = some ⟨b, o, none⟩ → 0 < t.n → ¬ S3 g h mb b) : Calls Tryd.prog 9 #[hP g, hP h, .agg (tab 5 (caV p t))] w (PlayO Is g h mb w) := by
  obtain ⟨u, hu, hJ, hb0, hz0⟩ := one_new w (tab 5 (caV p t)) 33
  obtain ⟨bx, hbx⟩ : ∃ b, b = w.heap.size := ⟨_, rfl⟩
  have hI1 := O.below hI hb0
  have hR1 := hR.after hb0
  have hS1 := hS.below hb0
  have hO1 : Only (S3 g h mb) w u := Only.of_below hb0
  have hbg : bx ≠ g := by have := O.lt hI; omega
  have hbh : bx ≠ h := by have := hR.blk.lt; omega
  have hbm : bx ≠ mb := by have := hR.map.lt; omega
  rw [← hbx] at hJ
  have hn := hp.n
  have hx := hp.x
  have hy := hp.y
  obtain ⟨k, n, x, y, l⟩ := p
  obtain ⟨A, tn, tc⟩ := t
  dsimp only at hk hn hx hy hS1 hne
  subst hk
  have HJ := Lib.hid hJ
  have HI := Lib.hid hI1
  have HR := Lib.hid hR1
  have HS := Lib.hid hS1
  have HO := Lib.hid hO1
  have HNE := Lib.hid hne
  have hnI : (n : Int) < 4294967296 := by omega
  have hxI : (x : Int) < 4294967296 := by omega
  have hyI : (y : Int) < 4294967296 := by omega
  have q0 : u.cell? ⟨bx, 0, none⟩ = some (.int .i64 7) := hJ.cell 0
  have q1 : u.cell? ⟨bx, 1, none⟩ = some (.int .u32 (n : Int)) := hJ.cell 1
  have q2 : u.cell? ⟨bx, 2, none⟩ = some (.int .u32 (x : Int)) := hJ.cell 2
  have q3 : u.cell? ⟨bx, 3, none⟩ = some (.int .u32 (y : Int)) := hJ.cell 3
  have q4 : u.cell? ⟨bx, 4, none⟩ = some (.slice A tn tc) := hJ.cell 4
  have v1 := IntWalk.i64_in (n : Int) (by omega)
  have v2 := IntWalk.i64_in (x : Int) (by omega)
  clear hJ hI1 hR1 hS1 hO1 hne hI hR hS hb0 hz0 hp
  show Calls _ _ #[hP g, hP h, .agg #[.int .i64 7, .int .u32 (n : Int), .int .u32 (x : Int), .int .u32 (y : Int), .slice A tn tc]] _ _
  replace hu : w.alloc (.cells #[.int .i64 7, .int .u32 (n : Int), .int .u32 (x : Int), .int .u32 (y : Int), .slice A tn tc] 33) = u := hu.symm
  go_enter Tryd.func9, Tryd.ntmps9
  go_upto_region 1 with fail
  first | rw [hu] | skip
  first | rw [← hbx] | skip
  clear hu hbx
  refine region_quiet_all (fun w' => ∃ n, w' = u.drewN n) (by kernel_rfl) (by kernel_rfl) ⟨1, rfl⟩ ?_
  repeat (quiet_step (fail))
  refine wpQuiet_nil ?_
  rintro w' ⟨nq, rfl⟩
  have hJ := HJ.out.drewN nq
  have hI := O.keep (S := fun _ => False) HI.out (Only.drewN u nq) (fun h => h)
  have hR := HR.out.only (Only.drewN (S := fun _ => False) u nq) (fun h => h) (fun h => h)
  have hS := slE_only HS.out (Only.drewN (S := fun _ => False) u nq) (fun _ _ _ _ h => h)
  have hO := HO.out.trans (Only.drewN u nq)
  replace q0 : (u.drewN nq).cell? ⟨bx, 0, none⟩ = some (.int .i64 7) := q0
  replace q1 : (u.drewN nq).cell? ⟨bx, 1, none⟩ = some (.int .u32 (n : Int)) := q1
  replace q2 : (u.drewN nq).cell? ⟨bx, 2, none⟩ = some (.int .u32 (x : Int)) := q2
  replace q3 : (u.drewN nq).cell? ⟨bx, 3, none⟩ = some (.int .u32 (y : Int)) := q3
  replace q4 : (u.drewN nq).cell? ⟨bx, 4, none⟩ = some (.slice A tn tc) := q4
  clear HJ HI HR HS HO
  generalize u.drewN nq = u1 at *
  have hm := O.mode hI
  have c1 := hm.1
  have f1 := hm.2
  have hI2 : Is (u1.setCell ⟨g, 0, none⟩ (.int .i64 3)) g { s with mode := 3 } := O.setMode 3 hI (by decide)
  have hO2 : Only (S1 g) u1 (u1.setCell ⟨g, 0, none⟩ (.int .i64 3)) := Only.setCell (S := S1 g) _ (show S1 g g from rfl) _
  have hR2 := hR.only hO2 (fun e => hgh e.symm) (fun e => hgm e.symm)
  have c2 : (u1.setCell ⟨g, 0, none⟩ (.int .i64 3)).cell? ⟨h, 0, none⟩ = some (.int .i64 (s.mode : Int)) := hR2.blk.cellTab 0 (by decide)
  have f2 : (u1.setCell ⟨g, 0, none⟩ (.int .i64 3)).frozen? ⟨h, 0, none⟩ = false := hR2.blk.free 0
  have f3 : u1.frozen? ⟨h, 0, none⟩ = false := hR.blk.free 0
  have c3 : u1.cell? ⟨h, 0, none⟩ = some (.int .i64 (s.mode : Int)) := hR.blk.cellTab 0 (by decide)
  have hR3 : Ref ((u1.setCell ⟨g, 0, none⟩ (.int .i64 3)).setCell ⟨h, 0, none⟩ (.int .i64 3)) h mb { s with mode := 3 } := hR2.mode 3 (by decide)
  have hO3 : Only (SR h mb) (u1.setCell ⟨g, 0, none⟩ (.int .i64 3)) ((u1.setCell ⟨g, 0, none⟩ (.int .i64 3)).setCell ⟨h, 0, none⟩ (.int .i64 3)) := Only.setCell _ (Or.inl rfl) _
  have HH := Lib.hid (And.intro hI2 (And.intro hO2 (And.intro hR3 (And.intro hO3 hO))))
  clear hm hI2 hO2 hR3 hO3 hR2 hI hR hO
  go_wp2_with fail
  go_ret
  obtain ⟨hI2, hO2, hR3, hO3, hO⟩ := HH.out
  refine ⟨rfl, ⟨_, O.keep hI2 hO3 (fun e => e.elim (fun e => hgh e) (fun e => hgm e)), hR3⟩, ?_⟩
  exact (hO.trans (hO2.mono fun i hi => Or.inl hi)).trans (hO3.mono fun i hi => Or.inr hi)
set_option maxRecDepth 100000 in
set_option maxHeartbeats 4000000 in
theorem play_no {Is : World → Nat → St → Prop} (O : CsrOK Is) (p : Ca) (t : Sl) (g h mb : Nat) (s : St) (w : World) (hI : Is w g s) (hR : Ref w h mb s) (hS : SlE w t p.l) (hp : p.Wf) (hk : p.k ≠ 0 ∧ p.k ≠ 1 ∧ p.k ≠ 2 ∧ p.k ≠ 3 ∧ p.k ≠ 4 ∧ p.k ≠ 5 ∧ p.k ≠ 6 ∧ p.k ≠ 7) (_hgh : g ≠ h) (_hgm : g ≠ mb)
    (hne : ∀ b o, t.A = some ⟨b, o, none⟩ → 0 < t.n → ¬ S3 g h mb b) : Calls Tryd.prog 9 #[hP g, hP h, .agg (tab 5 (caV p t))] w (PlayO Is g h mb w) := by
  obtain ⟨u, hu, hJ, hb0, hz0⟩ := one_new w (tab 5 (caV p t)) 33
  obtain ⟨bx, hbx⟩ : ∃ b, b = w.heap.size := ⟨_, rfl⟩
  have hI1 := O.below hI hb0
  have hR1 := hR.after hb0
  have hS1 := hS.below hb0
  have hO1 : Only (S3 g h mb) w u := Only.of_below hb0
  have hbg : bx ≠ g := by have := O.lt hI; omega
  have hbh : bx ≠ h := by have := hR.blk.lt; omega
  have hbm : bx ≠ mb := by have := hR.map.lt; omega
  rw [← hbx] at hJ
  have hn := hp.n
  have hx := hp.x
  have hy := hp.y
  obtain ⟨k, n, x, y, l⟩ := p
  obtain ⟨A, tn, tc⟩ := t
  dsimp only at hk hn hx hy hS1 hne
  have HJ := Lib.hid hJ
  have HI := Lib.hid hI1
  have HR := Lib.hid hR1
  have HS := Lib.hid hS1
  have HO := Lib.hid hO1
  have HNE := Lib.hid hne
  have hnI : (n : Int) < 4294967296 := by omega
  have hxI : (x : Int) < 4294967296 := by omega
  have hyI : (y : Int) < 4294967296 := by omega
  have q0 : u.cell? ⟨bx, 0, none⟩ = some (.int .i64 k) := hJ.cell 0
  have q1 : u.cell? ⟨bx, 1, none⟩ = some (.int .u32 (n : Int)) := hJ.cell 1
  have q2 : u.cell? ⟨bx, 2, none⟩ = some (.int .u32 (x : Int)) := hJ.cell 2
  have q3 : u.cell? ⟨bx, 3, none⟩ = some (.int .u32 (y : Int)) := hJ.cell 3
  have q4 : u.cell? ⟨bx, 4, none⟩ = some (.slice A tn tc) := hJ.cell 4
  have v1 := IntWalk.i64_in (n : Int) (by omega)
  have v2 := IntWalk.i64_in (x : Int) (by omega)
  clear hJ hI1 hR1 hS1 hO1 hne hI hR hS hb0 hz0 hp
  show Calls _ _ #[hP g, hP h, .agg #[.int .i64 k, .int .u32 (n : Int), .int .u32 (x : Int), .int .u32 (y : Int), .slice A tn tc]] _ _
  replace hu : w.alloc (.cells #[.int .i64 k, .int .u32 (n : Int), .int .u32 (x : Int), .int .u32 (y : Int), .slice A tn tc] 33) = u := hu.symm
  go_enter Tryd.func9, Tryd.ntmps9
  go_upto_region 1 with fail
  first | rw [hu] | skip
  first | rw [← hbx] | skip
  clear hu hbx
  refine region_quiet_all (fun w' => ∃ n, w' = u.drewN n) (by kernel_rfl) (by kernel_rfl) ⟨1, rfl⟩ ?_
  repeat (quiet_step (fail))
  refine wpQuiet_nil ?_
  rintro w' ⟨nq, rfl⟩
  have hJ := HJ.out.drewN nq
  have hI := O.keep (S := fun _ => False) HI.out (Only.drewN u nq) (fun h => h)
  have hR := HR.out.only (Only.drewN (S := fun _ => False) u nq) (fun h => h) (fun h => h)
  have hS := slE_only HS.out (Only.drewN (S := fun _ => False) u nq) (fun _ _ _ _ h => h)
  have hO := HO.out.trans (Only.drewN u nq)
  replace q0 : (u.drewN nq).cell? ⟨bx, 0, none⟩ = some (.int .i64 k) := q0
  replace q1 : (u.drewN nq).cell? ⟨bx, 1, none⟩ = some (.int .u32 (n : Int)) := q1
  replace q2 : (u.drewN nq).cell? ⟨bx, 2, none⟩ = some (.int .u32 (x : Int)) := q2
  replace q3 : (u.drewN nq).cell? ⟨bx, 3, none⟩ = some (.int .u32 (y : Int)) := q3
  replace q4 : (u.drewN nq).cell? ⟨bx, 4, none⟩ = some (.slice A tn tc) := q4
  clear HJ HI HR HS HO
  generalize u.drewN nq = u1 at *
  have d0 : (k == 0) = false := beq_eq_false_iff_ne.2 (by omega)
  have d1 : (k == 1) = false := beq_eq_false_iff_ne.2 (by omega)
  have d2 : (k == 2) = false := beq_eq_false_iff_ne.2 (by omega)
  have d3 : (k == 3) = false := beq_eq_false_iff_ne.2 (by omega)
  have d4 : (k == 4) = false := beq_eq_false_iff_ne.2 (by omega)
  have d5 : (k == 5) = false := beq_eq_false_iff_ne.2 (by omega)
  have d6 : (k == 6) = false := beq_eq_false_iff_ne.2 (by omega)
  have d7 : (k == 7) = false := beq_eq_false_iff_ne.2 (by omega)
  clear hk
  go_wp2_with fail
  go_ret
  exact ⟨rfl, ⟨s, hI, hR⟩, hO⟩
set_option maxRecDepth 100000 in
set_option maxHeartbeats 4000000 in
theorem play_2 {Is : World → Nat → St → Prop} (O : CsrOK Is) (p : Ca) (t : Sl) (g h mb : Nat) (s : St) (w : World) (hI : Is w g s) (hR : Ref w h mb s) (hS : SlE w t p.l) (hp : p.Wf) (hk : p.k = 2) (hgh : g ≠ h) (hgm : g ≠ mb)
    (hne : ∀ b o, t.A = some ⟨b, o, none⟩ → 0 < t.n → ¬ S3 g h mb b) : Calls Tryd.prog 9 #[hP g, hP h, .agg (tab 5 (caV p t))] w (PlayO Is g h mb w) := by
  obtain ⟨u, hu, hJ, hb0, hz0⟩ := one_new w (tab 5 (caV p t)) 33
  obtain ⟨bx, hbx⟩ : ∃ b, b = w.heap.size := ⟨_, rfl⟩
  have hI1 := O.below hI hb0
  have hR1 := hR.after hb0
  have hS1 := hS.below hb0
  have hO1 : Only (S3 g h mb) w u := Only.of_below hb0
  have hbg : bx ≠ g := by have := O.lt hI; omega
  have hbh : bx ≠ h := by have := hR.blk.lt; omega
  have hbm : bx ≠ mb := by have := hR.map.lt; omega
  rw [← hbx] at hJ
  have hn := hp.n
  have hx := hp.x
  have hy := hp.y
  obtain ⟨k, n, x, y, l⟩ := p
  obtain ⟨A, tn, tc⟩ := t
  dsimp only at hk hn hx hy hS1 hne
  subst hk
  have HJ := Lib.hid hJ
  have HI := Lib.hid hI1
  have HR := Lib.hid hR1
  have HS := Lib.hid hS1
  have HO := Lib.hid hO1
  have HNE := Lib.hid hne
  have hnI : (n : Int) < 4294967296 := by omega
  have hxI : (x : Int) < 4294967296 := by omega
  have hyI : (y : Int) < 4294967296 := by omega
  have q0 : u.cell? ⟨bx, 0, none⟩ = some (.int .i64 2) := hJ.cell 0
  have q1 : u.cell? ⟨bx, 1, none⟩ = some (.int .u32 (n : Int)) := hJ.cell 1
  have q2 : u.cell? ⟨bx, 2, none⟩ = some (.int .u32 (x : Int)) := hJ.cell 2
  have q3 : u.cell? ⟨bx, 3, none⟩ = some (.int .u32 (y : Int)) := hJ.cell 3
  have q4 : u.cell? ⟨bx, 4, none⟩ = some (.slice A tn tc) := hJ.cell 4
  have v1 := IntWalk.i64_in (n : Int) (by omega)
  have v2 := IntWalk.i64_in (x : Int) (by omega)
  clear hJ hI1 hR1 hS1 hO1 hne hI hR hS hb0 hz0 hp
  show Calls _ _ #[hP g, hP h, .agg #[.int .i64 2, .int .u32 (n : Int), .int .u32 (x : Int), .int .u32 (y : Int), .slice A tn tc]] _ _
  replace hu : w.alloc (.cells #[.int .i64 2, .int .u32 (n : Int), .int .u32 (x : Int), .int .u32 (y : Int), .slice A tn tc] 33) = u := hu.symm
  go_enter Tryd.func9, Tryd.ntmps9
  go_upto_region 1 with fail
  first | rw [hu] | skip
  first | rw [← hbx] | skip
  clear hu hbx
  refine region_quiet_all (fun w' => ∃ n, w' = u.drewN n) (by kernel_rfl) (by kernel_rfl) ⟨1, rfl⟩ ?_
  repeat (quiet_step (fail))
  refine wpQuiet_nil ?_
  rintro w' ⟨nq, rfl⟩
  have hJ := HJ.out.drewN nq
  have hI := O.keep (S := fun _ => False) HI.out (Only.drewN u nq) (fun h => h)
  have hR := HR.out.only (Only.drewN (S := fun _ => False) u nq) (fun h => h) (fun h => h)
  have hS := slE_only HS.out (Only.drewN (S := fun _ => False) u nq) (fun _ _ _ _ h => h)
  have hO := HO.out.trans (Only.drewN u nq)
  replace q0 : (u.drewN nq).cell? ⟨bx, 0, none⟩ = some (.int .i64 2) := q0
  replace q1 : (u.drewN nq).cell? ⟨bx, 1, none⟩ = some (.int .u32 (n : Int)) := q1
  replace q2 : (u.drewN nq).cell? ⟨bx, 2, none⟩ = some (.int .u32 (x : Int)) := q2
  replace q3 : (u.drewN nq).cell? ⟨bx, 3, none⟩ = some (.int .u32 (y : Int)) := q3
  replace q4 : (u.drewN nq).cell? ⟨bx, 4, none⟩ = some (.slice A tn tc) := q4
  clear HJ HI HR HS HO
  generalize u.drewN nq = u1 at *
  have HOK := Lib.hid (O.ok hI)
  go_upto_region 9 with fail
  refine region_simL [hP g, .pointer (some ⟨bx, 1, none⟩), .int .u32 (n : Int), .pointer (some ⟨bx, 2, none⟩), .int .u32 (x : Int), .pointer (some ⟨bx, 3, none⟩), .int .u32 (y : Int), undef, .int .i64 (s.r 773 : Int), hP h, .int .i64 (n : Int), .int .i64 (x : Int), .pointer (some ⟨bx, 3, none⟩), .int .u32 (y : Int), .int .i64 (y : Int), undef, .bool true, .bool true] [(7, fun e w' => e = .int .u32 (s.r 773 : Int) ∧ Is w' g (trapC s n x y)), (15, fun e w' => e = .int .i64 (s.r 773 : Int) ∧ Ref w' h mb (trapC s n x y))] [(7, fun w' => Is w' g s), (15, fun w' => Ref w' h mb s)] [(7, fun w' w'' => Only (S1 g) w' w''), (15, fun w' w'' => Only (SR h mb) w' w'')] (fun w' => Has w' bx 33 (tab 5 (caV ⟨2, n, x, y, l⟩ ⟨A, tn, tc⟩)) ∧ Only (S3 g h mb) w w') 120 (by kernel_rfl) rfl (by kernel_rfl) ?_ ?_ ?_ ?_ ?_ (by decide) ?_
  · intro w' hb he
    refine ⟨⟨hJ.after hb, hO.trans (Only.of_below hb)⟩, ?_⟩
    simp only [List.forall_mem_cons, List.not_mem_nil, false_implies, implies_true, and_true]
    exact ⟨O.below hI hb, hR.after hb⟩
  · simp only [List.forall_mem_cons, List.not_mem_nil, false_implies, implies_true, and_true]
    exact ⟨fun w' w'' h hy => ⟨hy.has h.1 hbg, h.2.trans (hy.mono fun i hi => Or.inl hi)⟩, fun w' w'' h hy => ⟨hy.has h.1 (fun e => e.elim hbh hbm), h.2.trans (hy.mono fun i hi => Or.inr hi)⟩⟩
  · simp only [List.forall_mem_cons, List.not_mem_nil, false_implies, implies_true, and_true]
    exact ⟨⟨fun h => absurd rfl h, fun _ _ e w' w'' hb ⟨e1, h1⟩ hy => ⟨e1, O.keep h1 hy (fun e => e.elim hgh hgm)⟩⟩, ⟨fun _ h => absurd h (by decide +kernel), fun h => absurd rfl h⟩⟩
  · simp only [List.forall_mem_cons, List.not_mem_nil, false_implies, implies_true, and_true]
    exact ⟨⟨fun h => absurd rfl h, fun _ h => absurd h (by decide +kernel)⟩, ⟨fun _ _ w' w'' hb h hy => h.only hy (fun e => hgh e.symm) (fun e => hgm e.symm), fun h => absurd rfl h⟩⟩
  · refine ⟨⟨?_, ?_⟩, ⟨?_, ?_⟩, ⟨?_, ?_⟩, ⟨?_, ?_⟩, ⟨?_, ?_⟩, ⟨?_, ?_⟩, ⟨?_, ?_⟩, ⟨?_, ?_⟩, ⟨?_, ?_⟩, ⟨?_, ?_⟩, ⟨?_, ?_⟩, ⟨?_, ?_⟩, ⟨?_, ?_⟩, ⟨?_, ?_⟩, ⟨?_, ?_⟩, ⟨?_, ?_⟩, ⟨?_, ?_⟩, ⟨?_, ?_⟩, trivial⟩
    · intro v w' AA hAA hg hf hl hgd K hK
      exact pure_step (hP g) (fun ρ hρ => by
        have e0 : ρ (.tmp 0) = hP g := by rw [hρ]; exact hAA.2 0 (by simp)
        clear hρ hf hAA hl hK hg
        go_simp) (hK _ _ rfl ⟨rfl, hg.2⟩)
    · trivial
    · intro v w' AA hAA hg hf hl hgd K hK
      exact pure_step (.pointer (some ⟨bx, 1, none⟩)) (fun ρ hρ => by
        have e5 : ρ (.tmp 5) = .pointer (some ⟨bx, 0, none⟩) := by rw [hρ]; exact hAA.2 5 (by simp)
        clear hρ hf hAA hl hK hg
        go_simp) (hK _ _ rfl ⟨rfl, hg.2⟩)
    · trivial
    · intro v w' AA hAA hg hf hl hgd K hK
      have hcell := (show w'.cell? ⟨bx, 1, none⟩ = some (.int .u32 (n : Int)) from hg.2.1.cell 1)
      exact pure_step (.int .u32 (n : Int)) (fun ρ hρ => by
        have e48 : ρ (.tmp 48) = .pointer (some ⟨bx, 1, none⟩) := by rw [hρ]; exact (hAA.1 1 _ 48 rfl rfl).trans (hf ⟨1, .data⟩ (by simp) rfl).1
        clear hρ hf hAA hl hK hg
        go_simp) (hK _ _ rfl ⟨rfl, hg.2⟩)
    · trivial
    · intro v w' AA hAA hg hf hl hgd K hK
      exact pure_step (.pointer (some ⟨bx, 2, none⟩)) (fun ρ hρ => by
        have e5 : ρ (.tmp 5) = .pointer (some ⟨bx, 0, none⟩) := by rw [hρ]; exact hAA.2 5 (by simp)
        clear hρ hf hAA hl hK hg
        go_simp) (hK _ _ rfl ⟨rfl, hg.2⟩)
    · trivial
    · intro v w' AA hAA hg hf hl hgd K hK
      have hcell := (show w'.cell? ⟨bx, 2, none⟩ = some (.int .u32 (x : Int)) from hg.2.1.cell 2)
      exact pure_step (.int .u32 (x : Int)) (fun ρ hρ => by
        have e50 : ρ (.tmp 50) = .pointer (some ⟨bx, 2, none⟩) := by rw [hρ]; exact (hAA.1 3 _ 50 rfl rfl).trans (hf ⟨3, .data⟩ (by simp) rfl).1
        clear hρ hf hAA hl hK hg
        go_simp) (hK _ _ rfl ⟨rfl, hg.2⟩)
    · trivial
    · intro v w' AA hAA hg hf hl hgd K hK
      exact pure_step (.pointer (some ⟨bx, 3, none⟩)) (fun ρ hρ => by
        have e5 : ρ (.tmp 5) = .pointer (some ⟨bx, 0, none⟩) := by rw [hρ]; exact hAA.2 5 (by simp)
        clear hρ hf hAA hl hK hg
        go_simp) (hK _ _ rfl ⟨rfl, hg.2⟩)
    · trivial
    · intro v w' AA hAA hg hf hl hgd K hK
      have hcell := (show w'.cell? ⟨bx, 3, none⟩ = some (.int .u32 (y : Int)) from hg.2.1.cell 3)
      exact pure_step (.int .u32 (y : Int)) (fun ρ hρ => by
        have e52 : ρ (.tmp 52) = .pointer (some ⟨bx, 3, none⟩) := by rw [hρ]; exact (hAA.1 5 _ 52 rfl rfl).trans (hf ⟨5, .data⟩ (by simp) rfl).1
        clear hρ hf hAA hl hK hg
        go_simp) (hK _ _ rfl ⟨rfl, hg.2⟩)
    · trivial
    · intro v w' AA hAA hg hf hl hgd K hK
      refine call_step 12 #[hP g, .int .u32 (n : Int), .int .u32 (x : Int), .int .u32 (y : Int)] (fun ρ hρ => by
        have hfun : ∀ f, ρ (.func f) = .func (.func f) #[] #[] := fun f => by rw [hρ]; rfl
        have e47 : ρ (.tmp 47) = hP g := by rw [hρ]; exact (hAA.1 0 _ 47 rfl rfl).trans (hf ⟨0, .data⟩ (by simp) rfl).1
        have e49 : ρ (.tmp 49) = .int .u32 (n : Int) := by rw [hρ]; exact (hAA.1 2 _ 49 rfl rfl).trans (hf ⟨2, .data⟩ (by simp) rfl).1
        have e51 : ρ (.tmp 51) = .int .u32 (x : Int) := by rw [hρ]; exact (hAA.1 4 _ 51 rfl rfl).trans (hf ⟨4, .data⟩ (by simp) rfl).1
        have e53 : ρ (.tmp 53) = .int .u32 (y : Int) := by rw [hρ]; exact (hAA.1 6 _ 53 rfl rfl).trans (hf ⟨6, .data⟩ (by simp) rfl).1
        clear hρ hf hAA hl hK hg
        go_simp) ?_
      refine (O.trap w' g s n x y hg.1 hn hx hy).mono ?_
      rintro e w'' ⟨rfl, hI7, hO7⟩
      exact ⟨_, rfl, hK _ _ hO7 ⟨⟨rfl, hI7⟩, hO7.has hg.2.1 hbg, hg.2.2.trans (hO7.mono fun i hi => Or.inl hi)⟩⟩
    · trivial
    · intro v w' AA hAA hg hf hl hgd K hK
      exact pure_step (.int .i64 (s.r 773 : Int)) (fun ρ hρ => by
        obtain ⟨⟨hv7, hI7⟩, _⟩ := hf ⟨7, .data⟩ (by simp) rfl
        have e54 : ρ (.tmp 54) = .int .u32 (s.r 773 : Int) := by rw [hρ]; exact (hAA.1 7 _ 54 rfl rfl).trans hv7
        clear hρ hf hAA hl hK hg
        have hwr : IntKind.i64.wrap (s.r 773 : Int) = (s.r 773 : Int) := IntWalk.i64_in _ (by have := HOK.out.r 773; omega)
        go_simp) (hK _ _ rfl ⟨rfl, hg.2⟩)
    · trivial
    · intro v w' AA hAA hg hf hl hgd K hK
      exact pure_step (hP h) (fun ρ hρ => by
        have e1 : ρ (.tmp 1) = hP h := by rw [hρ]; exact hAA.2 1 (by simp)
        clear hρ hf hAA hl hK hg
        go_simp) (hK _ _ rfl ⟨rfl, hg.2⟩)
    · trivial
    · intro v w' AA hAA hg hf hl hgd K hK
      exact pure_step (.int .i64 (n : Int)) (fun ρ hρ => by
        have e7 : ρ (.tmp 7) = .int .i64 (n : Int) := by rw [hρ]; exact hAA.2 7 (by simp)
        clear hρ hf hAA hl hK hg
        go_simp) (hK _ _ rfl ⟨rfl, hg.2⟩)
    · trivial
    · intro v w' AA hAA hg hf hl hgd K hK
      exact pure_step (.int .i64 (x : Int)) (fun ρ hρ => by
        have e8 : ρ (.tmp 8) = .int .i64 (x : Int) := by rw [hρ]; exact hAA.2 8 (by simp)
        clear hρ hf hAA hl hK hg
        go_simp) (hK _ _ rfl ⟨rfl, hg.2⟩)
    · trivial
    · intro v w' AA hAA hg hf hl hgd K hK
      exact pure_step (.pointer (some ⟨bx, 3, none⟩)) (fun ρ hρ => by
        have e5 : ρ (.tmp 5) = .pointer (some ⟨bx, 0, none⟩) := by rw [hρ]; exact hAA.2 5 (by simp)
        clear hρ hf hAA hl hK hg
        go_simp) (hK _ _ rfl ⟨rfl, hg.2⟩)
    · trivial
    · intro v w' AA hAA hg hf hl hgd K hK
      have hcell := (show w'.cell? ⟨bx, 3, none⟩ = some (.int .u32 (y : Int)) from hg.2.1.cell 3)
      exact pure_step (.int .u32 (y : Int)) (fun ρ hρ => by
        have e59 : ρ (.tmp 59) = .pointer (some ⟨bx, 3, none⟩) := by rw [hρ]; exact (hAA.1 12 _ 59 rfl rfl).trans (hf ⟨12, .data⟩ (by simp) rfl).1
        clear hρ hf hAA hl hK hg
        go_simp) (hK _ _ rfl ⟨rfl, hg.2⟩)
    · trivial
    · intro v w' AA hAA hg hf hl hgd K hK
      exact pure_step (.int .i64 (y : Int)) (fun ρ hρ => by
        have e60 : ρ (.tmp 60) = .int .u32 (y : Int) := by rw [hρ]; exact (hAA.1 13 _ 60 rfl rfl).trans (hf ⟨13, .data⟩ (by simp) rfl).1
        clear hρ hf hAA hl hK hg
        have hwr : IntKind.i64.wrap (y : Int) = (y : Int) := IntWalk.i64_in _ (by omega)
        go_simp) (hK _ _ rfl ⟨rfl, hg.2⟩)
    · trivial
    · intro v w' AA hAA hg hf hl hgd K hK
      refine call_step 23 #[hP h, .int .i64 (n : Int), .int .i64 (x : Int), .int .i64 (y : Int)] (fun ρ hρ => by
        have hfun : ∀ f, ρ (.func f) = .func (.func f) #[] #[] := fun f => by rw [hρ]; rfl
        have e56 : ρ (.tmp 56) = hP h := by rw [hρ]; exact (hAA.1 9 _ 56 rfl rfl).trans (hf ⟨9, .data⟩ (by simp) rfl).1
        have e57 : ρ (.tmp 57) = .int .i64 (n : Int) := by rw [hρ]; exact (hAA.1 10 _ 57 rfl rfl).trans (hf ⟨10, .data⟩ (by simp) rfl).1
        have e58 : ρ (.tmp 58) = .int .i64 (x : Int) := by rw [hρ]; exact (hAA.1 11 _ 58 rfl rfl).trans (hf ⟨11, .data⟩ (by simp) rfl).1
        have e61 : ρ (.tmp 61) = .int .i64 (y : Int) := by rw [hρ]; exact (hAA.1 14 _ 61 rfl rfl).trans (hf ⟨14, .data⟩ (by simp) rfl).1
        clear hρ hf hAA hl hK hg
        go_simp) ?_
      refine (rtrap_any s n x y h mb w' hg.1 hn hx hy).mono ?_
      rintro e w'' ⟨rfl, hR15, hO15⟩
      exact ⟨_, rfl, hK _ _ hO15 ⟨⟨rfl, hR15⟩, hO15.has hg.2.1 (fun e => e.elim hbh hbm), hg.2.2.trans (hO15.mono fun i hi => Or.inr hi)⟩⟩
    · trivial
    · intro v w' AA hAA hg hf hl hgd K hK
      exact pure_step (.bool true) (fun ρ hρ => by
        have e55 : ρ (.tmp 55) = .int .i64 (s.r 773 : Int) := by rw [hρ]; exact (hAA.1 8 _ 55 rfl rfl).trans (hf ⟨8, .data⟩ (by simp) rfl).1
        obtain ⟨⟨hv15, hR15⟩, _⟩ := hf ⟨15, .data⟩ (by simp) rfl
        have e62 : ρ (.tmp 62) = .int .i64 (s.r 773 : Int) := by rw [hρ]; exact (hAA.1 15 _ 62 rfl rfl).trans hv15
        clear hρ hf hAA hl hK hg
        go_simp) (hK _ _ rfl ⟨rfl, hg.2⟩)
    · trivial
    · intro v w' AA hAA hg hf hl hgd K hK
      exact pure_step (.bool true) (fun ρ hρ => by
        have e63 : ρ (.tmp 63) = .bool true := by rw [hρ]; exact (hAA.1 16 _ 63 rfl rfl).trans (hf ⟨16, .data⟩ (by simp) rfl).1
        clear hρ hf hAA hl hK hg
        go_simp) (hK _ _ rfl ⟨rfl, hg.2⟩)
    · trivial
  intro v wE hIE hE
  have f0 : v 0 = hP g := (hE 0 (by decide)).1
  have f1 : v 1 = .pointer (some ⟨bx, 1, none⟩) := (hE 1 (by decide)).1
  have f2 : v 2 = .int .u32 (n : Int) := (hE 2 (by decide)).1
  have f3 : v 3 = .pointer (some ⟨bx, 2, none⟩) := (hE 3 (by decide)).1
  have f4 : v 4 = .int .u32 (x : Int) := (hE 4 (by decide)).1
  have f5 : v 5 = .pointer (some ⟨bx, 3, none⟩) := (hE 5 (by decide)).1
  have f6 : v 6 = .int .u32 (y : Int) := (hE 6 (by decide)).1
  obtain ⟨⟨hv7, hI7⟩, _⟩ := hE 7 (by decide)
  have f8 : v 8 = .int .i64 (s.r 773 : Int) := (hE 8 (by decide)).1
  have f9 : v 9 = hP h := (hE 9 (by decide)).1
  have f10 : v 10 = .int .i64 (n : Int) := (hE 10 (by decide)).1
  have f11 : v 11 = .int .i64 (x : Int) := (hE 11 (by decide)).1
  have f12 : v 12 = .pointer (some ⟨bx, 3, none⟩) := (hE 12 (by decide)).1
  have f13 : v 13 = .int .u32 (y : Int) := (hE 13 (by decide)).1
  have f14 : v 14 = .int .i64 (y : Int) := (hE 14 (by decide)).1
  obtain ⟨⟨hv15, hR15⟩, _⟩ := hE 15 (by decide)
  have f16 : v 16 = .bool true := (hE 16 (by decide)).1
  have f17 : v 17 = .bool true := (hE 17 (by decide)).1
  clear hE
  simp only [putAll, Act.put, List.setIfInBounds_toArray, List.set_cons_zero, List.set_cons_succ, Nat.zero_add, Nat.reduceAdd]
  rw [f0, f1, f2, f3, f4, f5, f6, hv7, f8, f9, f10, f11, f12, f13, f14, hv15, f16, f17]
  clear f0 f1 f2 f3 f4 f5 f6 f8 f9 f10 f11 f12 f13 f14 f16 f17
  go_wp2_with fail
  go_ret
  exact ⟨rfl, ⟨_, hI7, hR15⟩, hIE.2⟩
theorem play_any {Is : World → Nat → St → Prop} (O : CsrOK Is) (p : Ca) (t : Sl) (g h mb : Nat) (s : St) (w : World) (hI : Is w g s) (hR : Ref w h mb s) (hS : SlE w t p.l) (hp : p.Wf) (hk : p.k ≠ 3) (hgh : g ≠ h) (hgm : g ≠ mb)
    (hne : ∀ b o, t.A = some ⟨b, o, none⟩ → 0 < t.n → ¬ S3 g h mb b) : Calls Tryd.prog 9 #[hP g, hP h, .agg (tab 5 (caV p t))] w (PlayO Is g h mb w) := by
  by_cases k0 : p.k = 0
  · exact play_0 O p t g h mb s w hI hR hS hp k0 hgh hgm hne
  by_cases k1 : p.k = 1
  · exact play_1 O p t g h mb s w hI hR hS hp k1 hgh hgm hne
  by_cases k2 : p.k = 2
  · exact play_2 O p t g h mb s w hI hR hS hp k2 hgh hgm hne
  by_cases k4 : p.k = 4
  · exact play_4 O p t g h mb s w hI hR hS hp k4 hgh hgm hne
  by_cases k5 : p.k = 5
  · exact play_5 O p t g h mb s w hI hR hS hp k5 hgh hgm hne
  by_cases k6 : p.k = 6
  · exact play_6 O p t g h mb s w hI hR hS hp k6 hgh hgm hne
  by_cases k7 : p.k = 7
  · exact play_7 O p t g h mb s w hI hR hS hp k7 hgh hgm hne
  exact play_no O p t g h mb s w hI hR hS hp ⟨k0, k1, k2, hk, k4, k5, k6, k7⟩ hgh hgm hne
end Go.Proofs.YthaockngbagdhaaDoor.Cs
