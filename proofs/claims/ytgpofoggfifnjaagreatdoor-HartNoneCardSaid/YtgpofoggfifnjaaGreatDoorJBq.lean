/-
Layer 16: the landed hart's Step.
-/
import Derived.Test.YtgpofoggfifnjaaGreatDoorJBp
import Derived.Test.YtgpofoggfifnjaaGreatDoorJBd
namespace Go.Proofs.YtgpofoggfifnjaaGreatDoor.Ha
open Go Go.RowKit
open Go.Proofs.YtgpofoggfifnjaaGreatDoor (RamP stM ldV stB inR mP erI two_new has_to wp_load_tabI below_fin insA infoIa5 opOf opP bitsN immU rdB r1B r2B Fm fmN TabW has_any has_nil mload_any store_any adecode_any form_at form_no)
open Go.Proofs.YtgpofoggfifnjaaGreatDoor.Cs (St IsF Only S1 hP upd upd_other dueC trapC tickC readC cdue_any ctrap_any ctick_any cread_any cnew_any mayM_any)
open Go.Proofs.YtgpofoggfifnjaaGreatDoor.Pm (TabT)
open Go.Proofs.YtgpofoggfifnjaaGreatDoor.Al (widthN widenN goesN reckN reckon_is goes_is width_is widen_is reckN_lt)

open Go.Proofs.YtgpofoggfifnjaaGreatDoor.Cs (new_stepS)
theorem upd_zero (x : Nat → Nat) (h : x 0 = 0) : upd x 0 0 = x := by
  funext i
  unfold upd
  split
  · rename_i e; rw [e, h]
  · rfl
/-- the blocks of a hart and of its file -/
def PH (p g : Nat) (b : Nat) : Prop := b = p ∨ b = g
/-- and all behind n -/
def PG (p g n : Nat) (b : Nat) : Prop := b = p ∨ b = g ∨ n ≤ b
theorem only_pg {w w1 w2 : World} {p g gm : Nat} (h : Only (SH p g gm) w w1) (k : Only (PG p g w.heap.size) w1 w2) : Only (SH p g gm) w w2 :=
  ⟨k.os.trans h.os, k.tape.trans h.tape, k.output.trans h.output, Nat.le_trans h.size k.size, fun i hi hn => (k.block i (Nat.lt_of_lt_of_le hi h.size) (fun e => by
    rcases e with e | e | e
    · exact hn (Or.inl e)
    · exact hn (Or.inr (Or.inl e))
    · omega)).trans (h.block i hi hn)⟩
/-- what a step's try answers -/
def Try (p g gm pc : Nat) (x : Nat → Nat) (s : St) (M : Option Nat) (R : Res) (Q Q' : World → Prop) (w : World) (e : Ending) (w' : World) : Prop :=
  e = .returned (trV R.d) ∧ Only (SH p g gm) w w' ∧ ((R.d.trap = true ∧ Has w' p 48 (tab 35 (hV x pc g M)) ∧ IsF w' g s ∧ R.d.cause < L32 ∧ R.d.tval < L32 ∧ Q w') ∨ (R.d.trap = false ∧ Has w' p 48 (tab 35 (hV R.x R.pc g M)) ∧ IsF w' g s ∧ Q' w'))
theorem Try.ret {p g gm pc : Nat} {x : Nat → Nat} {s : St} {M : Option Nat} {R : Res} {Q Q' : World → Prop} {w w' : World} {e : Ending} (h : Try p g gm pc x s M R Q Q' w e w') : e = .returned (trV R.d) := h.1
set_option maxRecDepth 100000 in
set_option maxHeartbeats 2000000 in
theorem step_gen (p g gm pc : Nat) (x : Nat → Nat) (s : St) (M : Option Nat) (R : Res) (Q Q' : World → Prop) 
    (w : World) (hQ : ∀ W W', Q W → Only (PG p g w.heap.size) W W' → Q W') (hQ' : ∀ W W', Q' W → Only (PG p g w.heap.size) W W' → Q' W') (hH : Has w p 48 (tab 35 (hV x pc g M))) (hI : IsF w g s) (hpg : p ≠ g) (hgm : gm < w.heap.size) (hx0 : x 0 = 0) (hpc : pc < L32)
    (kA : ∀ W, Has W p 48 (tab 35 (hV x pc g M)) → IsF W g s → Only (S1 p) w W → Calls Tryz.prog 28 #[hP p] W (Try p g gm pc x s M R Q Q' W)) :
    Calls Tryz.prog 11 #[hP p] w fun e w' => e = .returned (trV R.d) ∧ Only (SH p g gm) w w' ∧ ((R.d.trap = true ∧ Has w' p 48 (tab 35 (hV x (s.r 773) g M)) ∧ IsF w' g (tickC (trapC s pc R.d.cause R.d.tval) false) ∧ Q w') ∨ (R.d.trap = false ∧ Has w' p 48 (tab 35 (hV R.x R.pc g M)) ∧ IsF w' g (tickC s true) ∧ Q' w')) := by
  have HL := Lib.hid (And.intro hH.lt (And.intro hI.lt (And.intro hgm (And.intro hpg hpc))))
  have HX := Lib.hid hx0
  have HQ := Lib.hid (And.intro hQ hQ')
  have HOK := Lib.hid hI.inv.ok
  clear hQ hQ' hpg hgm hpc hx0
  go_enter Tryz.func11, Tryz.ntmps11
  go_upto_region 1 with fail
  obtain ⟨wa, hwa, hF, hb0⟩ := one_tr w
  rw [← hwa]
  clear hwa
  have hHa := hH.after hb0
  have c0 : wa.cell? ⟨p, 0, none⟩ = some (.int .u32 (x 0 : Int)) := (hHa.cellTab 0 (by decide)).trans (by rw [hV_x _ _ _ _ _ (by decide)])
  have f0 : wa.frozen? ⟨p, 0, none⟩ = false := hHa.free 0
  have h1 := hart_x hHa 0 0 (by decide)
  rw [upd_zero x HX.out] at h1
  have hO1 : Only (S1 p) wa (wa.setCell ⟨p, 0, none⟩ (.int .u32 ((0 : Nat) : Int))) := Only.setCell wa (a := ⟨p, 0, none⟩) (show S1 p p from rfl) _
  have hI1 : IsF (wa.setCell ⟨p, 0, none⟩ (.int .u32 ((0 : Nat) : Int))) g s := ⟨hO1.has (hI.after hb0).blk (fun e => HL.out.2.2.2.1 e.symm), hI.inv⟩
  have hF1 := hO1.has hF (fun e => by have e : w.heap.size = p := e; have := HL.out.1; omega)
  have hW1 : Only (S1 p) w (wa.setCell ⟨p, 0, none⟩ (.int .u32 ((0 : Nat) : Int))) := (Only.of_below hb0).trans hO1
  replace h1 : Has (wa.setCell ⟨p, 0, none⟩ (.int .u32 0)) p 48 (tab 35 (hV x pc g M)) := h1
  replace hI1 : IsF (wa.setCell ⟨p, 0, none⟩ (.int .u32 0)) g s := hI1
  replace hF1 : Has (wa.setCell ⟨p, 0, none⟩ (.int .u32 0)) w.heap.size 51 (tab 7 (trC did0)) := hF1
  replace hW1 : Only (S1 p) w (wa.setCell ⟨p, 0, none⟩ (.int .u32 0)) := hW1
  have k1 := kA _ h1 hI1 hW1
  clear hO1
  generalize hgn : w.heap.size = bR at *
  have HN := Lib.hid hgn
  have HF1 := Lib.hid (And.intro hF1 hW1)
  clear hH hI hHa hb0 hF hgn kA h1 hI1 hF1 hW1
  go_upto_region 4 with fail
  clear c0 f0
  generalize wa.setCell ⟨p, 0, none⟩ (.int .u32 0) = w1 at *
  go_upto_region 5 with (first
    | (go_at_call 28; with_reducible refine k1.mono ?_; intro e w4 hA; obtain rfl := hA.ret)
    | (refine wp_store_tab rfl 51 _ _ rfl w4.heap.size 0 rfl 7 (trC R.d) rfl 7 (trC did0) 51 (Has.new w4 51 (tab 7 (trC did0))) infoTr (by omega) (trC_one _) ?_; intro w5 hG5 hg5; go_frame))
  rw [tab7_all] at hG5
  obtain ⟨-, hO4, hways⟩ := hA
  have hb45 : Below w4.heap.size w4 w5 := below_only ((Below.refl _ _).alloc (Nat.le_refl _) _) hg5 (Nat.le_refl _) (by rw [size_alloc1]; omega)
  have hlo := HL.out
  have hsh : ¬ SH p g gm bR := sh_out ⟨hlo.1, hlo.2.1, hlo.2.2.1⟩ (Nat.le_refl _)
  have hR4 := hO4.has HF1.out.1 hsh
  have O5 : Only (SH p g gm) w w5 := ((sh_p HF1.out.2).trans hO4).trans (sh_b hb45)
  have hlt4 := hR4.lt
  have hR5 := hR4.after hb45
  rcases hways with ⟨ht, h4, i4, hca, htv, q4⟩ | ⟨ht, h4, i4, q4⟩
  · have hN3 : w4.heap.size ≠ p ∧ w4.heap.size ≠ g ∧ p ≠ g := ⟨by have := h4.lt; omega, by have := i4.lt; omega, hlo.2.2.2.1⟩
    have h5 := h4.after hb45
    have i5 := i4.after hb45
    have q5 := HQ.out.1 _ _ q4 (Only.of_below hb45)
    have c1 : w5.cell? ⟨w4.heap.size, 1, none⟩ = some (.bool true) := (hG5.cellTab 1 (by decide)).trans (by show some (Value.bool R.d.trap) = _; rw [ht])
    have hne : w4.heap.size ≠ bR := by omega
    have HO := Lib.hid (And.intro O5 (And.intro q5 ht))
    clear hb45 hR4 h4 i4 q4 hg5 hO4 O5 q5 hsh hlo hlt4 HF1
    generalize w4.heap.size = b3 at *
    have HC := Lib.hid (And.intro HL.out.2.2.2.2 (And.intro hca htv))
    clear hca htv
    have HN3 := Lib.hid (And.intro hN3 hne)
    have H5 := Lib.hid (And.intro hG5 (And.intro h5 (And.intro i5 hR5)))
    clear hN3 hne hG5 h5 i5 hR5 ht
    go_upto_region 6 with fail
    clear c1
    refine region_chain (fun w' => (Has w' b3 51 (tab 7 (trC R.d)) ∧ w'.cell? ⟨p, 33, none⟩ = some (.pointer (some ⟨g, 0, none⟩)))) [(0, .pointer (some ⟨p, 0, none⟩)), (1, .pointer (some ⟨p, 0, none⟩)), (2, .pointer (some ⟨p, 0, none⟩)), (3, .pointer (some ⟨p, 33, none⟩)), (4, .pointer (some ⟨g, 0, none⟩)), (5, .pointer (some ⟨p, 0, none⟩)), (6, .pointer (some ⟨p, 0, none⟩)), (7, .pointer (some ⟨p, 32, none⟩)), (9, .pointer (some ⟨b3, 2, none⟩)), (10, .int .u32 (R.d.cause : Int)), (11, .pointer (some ⟨b3, 3, none⟩)), (12, .int .u32 (R.d.tval : Int)), (14, .pointer (some ⟨p, 0, none⟩)), (15, .pointer (some ⟨p, 32, none⟩))] [(8, fun xs w' => (xs.getD 0 undef) = .int .u32 (pc : Int) ∧ (Has w' b3 51 (tab 7 (trC R.d)) ∧ w'.cell? ⟨p, 33, none⟩ = some (.pointer (some ⟨g, 0, none⟩))) ∧ Has w' p 48 (tab 35 (hV x pc g M)) ∧ IsF w' g s ∧ Only (PH p g) w5 w'), (13, fun xs w' => (xs.getD 1 undef) = .int .u32 (s.r 773 : Int) ∧ (Has w' b3 51 (tab 7 (trC R.d)) ∧ w'.cell? ⟨p, 33, none⟩ = some (.pointer (some ⟨g, 0, none⟩))) ∧ Has w' p 48 (tab 35 (hV x pc g M)) ∧ IsF w' g (trapC s pc R.d.cause R.d.tval) ∧ Only (PH p g) w5 w'), (16, fun xs w' => (xs.getD 2 undef) = undef ∧ (Has w' b3 51 (tab 7 (trC R.d)) ∧ w'.cell? ⟨p, 33, none⟩ = some (.pointer (some ⟨g, 0, none⟩))) ∧ Has w' p 48 (tab 35 (hV x (s.r 773) g M)) ∧ IsF w' g (trapC s pc R.d.cause R.d.tval) ∧ Only (PH p g) w5 w')] (fun w' => (Has w' b3 51 (tab 7 (trC R.d)) ∧ w'.cell? ⟨p, 33, none⟩ = some (.pointer (some ⟨g, 0, none⟩))) ∧ Has w' p 48 (tab 35 (hV x pc g M)) ∧ IsF w' g s ∧ Only (PH p g) w5 w') 40 (by kernel_rfl) rfl (by kernel_rfl) (by kernel_rfl) ?_ ?_ ?_ ?_ ?_ ?_
    · intro w' hb he
      exact ⟨⟨H5.out.1.after hb, (H5.out.2.1.after hb).cellTab 33 (by decide)⟩, H5.out.2.1.after hb, H5.out.2.2.1.after hb, Only.of_below hb⟩
    · exact fun w' h => h.1
    · simp only [List.forall_mem_cons, List.not_mem_nil, false_implies, implies_true, and_true]
      refine ⟨?_, ?_, ?_⟩
      · exact fun xs w' h => h.2.1
      · exact fun xs w' h => h.2.1
      · exact fun xs w' h => h.2.1
    · simp only [List.forall_mem_cons, List.not_mem_nil, false_implies, implies_true, and_true]
      refine ⟨?_, ?_, ?_, ?_, ?_, ?_, ?_, ?_, ?_, ?_, ?_, ?_, ?_, ?_⟩
      · refine qu_of rfl ?_
        intro v w' A hA hC hd hl K hK
        exact pure_step (.pointer (some ⟨p, 0, none⟩)) (fun ρ hρ => by
            have e0 : ρ (.tmp 0) = .pointer (some ⟨p, 0, none⟩) := by rw [hρ]; exact hA.2 0 (by simp)
            clear hρ hA hl hK hd hC
            go_simp) hK
      · refine qu_of rfl ?_
        intro v w' A hA hC hd hl K hK
        exact pure_step (.pointer (some ⟨p, 0, none⟩)) (fun ρ hρ => by
            have e0 : ρ (.tmp 0) = .pointer (some ⟨p, 0, none⟩) := by rw [hρ]; exact hA.2 0 (by simp)
            clear hρ hA hl hK hd hC
            go_simp) hK
      · refine qu_of rfl ?_
        intro v w' A hA hC hd hl K hK
        exact pure_step (.pointer (some ⟨p, 0, none⟩)) (fun ρ hρ => by
            have e16 : ρ (.tmp 16) = .pointer (some ⟨p, 0, none⟩) := by rw [hρ]; exact (hA.1 1 _ 16 rfl rfl).trans (hd (1, .pointer (some ⟨p, 0, none⟩)) (.tail _ (.head _)) ⟨⟨1, .data⟩, by simp, rfl, rfl⟩)
            clear hρ hA hl hK hd hC
            go_simp) hK
      · refine qu_of rfl ?_
        intro v w' A hA hC hd hl K hK
        exact pure_step (.pointer (some ⟨p, 33, none⟩)) (fun ρ hρ => by
            have e17 : ρ (.tmp 17) = .pointer (some ⟨p, 0, none⟩) := by rw [hρ]; exact (hA.1 2 _ 17 rfl rfl).trans (hd (2, .pointer (some ⟨p, 0, none⟩)) (.tail _ (.tail _ (.head _))) ⟨⟨2, .data⟩, by simp, rfl, rfl⟩)
            clear hρ hA hl hK hd hC
            go_simp) hK
      · refine qu_of rfl ?_
        intro v w' A hA hC hd hl K hK
        have hcell := hC.2
        exact pure_step (.pointer (some ⟨g, 0, none⟩)) (fun ρ hρ => by
            have e18 : ρ (.tmp 18) = .pointer (some ⟨p, 33, none⟩) := by rw [hρ]; exact (hA.1 3 _ 18 rfl rfl).trans (hd (3, .pointer (some ⟨p, 33, none⟩)) (.tail _ (.tail _ (.tail _ (.head _)))) ⟨⟨3, .data⟩, by simp, rfl, rfl⟩)
            clear hρ hA hl hK hd hC
            go_simp) hK
      · refine qu_of rfl ?_
        intro v w' A hA hC hd hl K hK
        exact pure_step (.pointer (some ⟨p, 0, none⟩)) (fun ρ hρ => by
            have e0 : ρ (.tmp 0) = .pointer (some ⟨p, 0, none⟩) := by rw [hρ]; exact hA.2 0 (by simp)
            clear hρ hA hl hK hd hC
            go_simp) hK
      · refine qu_of rfl ?_
        intro v w' A hA hC hd hl K hK
        exact pure_step (.pointer (some ⟨p, 0, none⟩)) (fun ρ hρ => by
            have e20 : ρ (.tmp 20) = .pointer (some ⟨p, 0, none⟩) := by rw [hρ]; exact (hA.1 5 _ 20 rfl rfl).trans (hd (5, .pointer (some ⟨p, 0, none⟩)) (.tail _ (.tail _ (.tail _ (.tail _ (.tail _ (.head _)))))) ⟨⟨5, .data⟩, by simp, rfl, rfl⟩)
            clear hρ hA hl hK hd hC
            go_simp) hK
      · refine qu_of rfl ?_
        intro v w' A hA hC hd hl K hK
        exact pure_step (.pointer (some ⟨p, 32, none⟩)) (fun ρ hρ => by
            have e21 : ρ (.tmp 21) = .pointer (some ⟨p, 0, none⟩) := by rw [hρ]; exact (hA.1 6 _ 21 rfl rfl).trans (hd (6, .pointer (some ⟨p, 0, none⟩)) (.tail _ (.tail _ (.tail _ (.tail _ (.tail _ (.tail _ (.head _))))))) ⟨⟨6, .data⟩, by simp, rfl, rfl⟩)
            clear hρ hA hl hK hd hC
            go_simp) hK
      · refine qu_of rfl ?_
        intro v w' A hA hC hd hl K hK
        exact pure_step (.pointer (some ⟨b3, 2, none⟩)) (fun ρ hρ => by
            have e3 : ρ (.tmp 3) = .pointer (some ⟨b3, 0, none⟩) := by rw [hρ]; exact hA.2 3 (by simp)
            clear hρ hA hl hK hd hC
            go_simp) hK
      · refine qu_of rfl ?_
        intro v w' A hA hC hd hl K hK
        have hcell := (show w'.cell? ⟨b3, 2, none⟩ = some (.int .u32 (R.d.cause : Int)) from hC.1.cellTab 2 (by decide))
        exact pure_step (.int .u32 (R.d.cause : Int)) (fun ρ hρ => by
            have e24 : ρ (.tmp 24) = .pointer (some ⟨b3, 2, none⟩) := by rw [hρ]; exact (hA.1 9 _ 24 rfl rfl).trans (hd (9, .pointer (some ⟨b3, 2, none⟩)) (.tail _ (.tail _ (.tail _ (.tail _ (.tail _ (.tail _ (.tail _ (.tail _ (.head _))))))))) ⟨⟨9, .data⟩, by simp, rfl, rfl⟩)
            clear hρ hA hl hK hd hC
            go_simp) hK
      · refine qu_of rfl ?_
        intro v w' A hA hC hd hl K hK
        exact pure_step (.pointer (some ⟨b3, 3, none⟩)) (fun ρ hρ => by
            have e3 : ρ (.tmp 3) = .pointer (some ⟨b3, 0, none⟩) := by rw [hρ]; exact hA.2 3 (by simp)
            clear hρ hA hl hK hd hC
            go_simp) hK
      · refine qu_of rfl ?_
        intro v w' A hA hC hd hl K hK
        have hcell := (show w'.cell? ⟨b3, 3, none⟩ = some (.int .u32 (R.d.tval : Int)) from hC.1.cellTab 3 (by decide))
        exact pure_step (.int .u32 (R.d.tval : Int)) (fun ρ hρ => by
            have e26 : ρ (.tmp 26) = .pointer (some ⟨b3, 3, none⟩) := by rw [hρ]; exact (hA.1 11 _ 26 rfl rfl).trans (hd (11, .pointer (some ⟨b3, 3, none⟩)) (.tail _ (.tail _ (.tail _ (.tail _ (.tail _ (.tail _ (.tail _ (.tail _ (.tail _ (.tail _ (.head _))))))))))) ⟨⟨11, .data⟩, by simp, rfl, rfl⟩)
            clear hρ hA hl hK hd hC
            go_simp) hK
      · refine qu_of rfl ?_
        intro v w' A hA hC hd hl K hK
        exact pure_step (.pointer (some ⟨p, 0, none⟩)) (fun ρ hρ => by
            have e15 : ρ (.tmp 15) = .pointer (some ⟨p, 0, none⟩) := by rw [hρ]; exact (hA.1 0 _ 15 rfl rfl).trans (hd (0, .pointer (some ⟨p, 0, none⟩)) (.head _) ⟨⟨0, .data⟩, by simp, rfl, rfl⟩)
            clear hρ hA hl hK hd hC
            go_simp) hK
      · refine qu_of rfl ?_
        intro v w' A hA hC hd hl K hK
        exact pure_step (.pointer (some ⟨p, 32, none⟩)) (fun ρ hρ => by
            have e29 : ρ (.tmp 29) = .pointer (some ⟨p, 0, none⟩) := by rw [hρ]; exact (hA.1 14 _ 29 rfl rfl).trans (hd (14, .pointer (some ⟨p, 0, none⟩)) (.tail _ (.tail _ (.tail _ (.tail _ (.tail _ (.tail _ (.tail _ (.tail _ (.tail _ (.tail _ (.tail _ (.tail _ (.head _))))))))))))) ⟨⟨14, .data⟩, by simp, rfl, rfl⟩)
            clear hρ hA hl hK hd hC
            go_simp) hK
    · refine ⟨qu_of rfl ?_, fun x8 => ⟨qu_of rfl ?_, fun x13 => ⟨qu_of rfl ?_, fun x16 => trivial⟩⟩⟩
      · intro v w' A hA hS hacc hd hl K hK
        replace hS : (Has w' b3 51 (tab 7 (trC R.d)) ∧ w'.cell? ⟨p, 33, none⟩ = some (.pointer (some ⟨g, 0, none⟩))) ∧ Has w' p 48 (tab 35 (hV x pc g M)) ∧ IsF w' g s ∧ Only (PH p g) w5 w' := hS
        have hcell : w'.cell? ⟨p, 32, none⟩ = some (.int .u32 (pc : Int)) := hS.2.1.cellTab 32 (by decide)
        refine new_step (w'' := w') (.int .u32 (pc : Int)) (fun ρ hρ => by
            have e22 : ρ (.tmp 22) = .pointer (some ⟨p, 32, none⟩) := by rw [hρ]; exact (hA.1 7 _ 22 rfl rfl).trans (hd (7, .pointer (some ⟨p, 32, none⟩)) (.tail _ (.tail _ (.tail _ (.tail _ (.tail _ (.tail _ (.tail _ (.head _)))))))) ⟨⟨7, .data⟩, by simp, rfl, rfl⟩)
            clear hρ hA hl hK hd hS hacc
            go_simp
            ) ?_
        exact hK _ _ ⟨rfl, hS⟩
      · intro v w' A hA hS hacc hd hl K hK
        replace hS : x8 = .int .u32 (pc : Int) ∧ (Has w' b3 51 (tab 7 (trC R.d)) ∧ w'.cell? ⟨p, 33, none⟩ = some (.pointer (some ⟨g, 0, none⟩))) ∧ Has w' p 48 (tab 35 (hV x pc g M)) ∧ IsF w' g s ∧ Only (PH p g) w5 w' := hS
        refine call_step 29 #[hP g, .int .u32 (pc : Int), .int .u32 (R.d.cause : Int), .int .u32 (R.d.tval : Int)] (fun ρ hρ => by
            have hfun : ∀ f, ρ (.func f) = .func (.func f) #[] #[] := fun f => by rw [hρ]; rfl
            have e19 : ρ (.tmp 19) = .pointer (some ⟨g, 0, none⟩) := by rw [hρ]; exact (hA.1 4 _ 19 rfl rfl).trans (hd (4, .pointer (some ⟨g, 0, none⟩)) (.tail _ (.tail _ (.tail _ (.tail _ (.head _))))) ⟨⟨4, .data⟩, by simp, rfl, rfl⟩)
            have e23 : ρ (.tmp 23) = x8 := by rw [hρ]; exact (hA.1 8 _ 23 rfl rfl).trans (hacc (8, x8) (by simp))
            have e25 : ρ (.tmp 25) = .int .u32 (R.d.cause : Int) := by rw [hρ]; exact (hA.1 10 _ 25 rfl rfl).trans (hd (10, .int .u32 (R.d.cause : Int)) (.tail _ (.tail _ (.tail _ (.tail _ (.tail _ (.tail _ (.tail _ (.tail _ (.tail _ (.head _)))))))))) ⟨⟨10, .data⟩, by simp, rfl, rfl⟩)
            have e27 : ρ (.tmp 27) = .int .u32 (R.d.tval : Int) := by rw [hρ]; exact (hA.1 12 _ 27 rfl rfl).trans (hd (12, .int .u32 (R.d.tval : Int)) (.tail _ (.tail _ (.tail _ (.tail _ (.tail _ (.tail _ (.tail _ (.tail _ (.tail _ (.tail _ (.tail _ (.head _)))))))))))) ⟨⟨12, .data⟩, by simp, rfl, rfl⟩)
            have hx8 := hS.1
            rw [hx8] at e23
            clear hρ hA hl hK hd hS hacc
            go_simp
            ) ?_
        refine (ctrap_any w' g s pc R.d.cause R.d.tval hS.2.2.2.1 HC.out.1 HC.out.2.1 HC.out.2.2).mono ?_
        rintro e w'' ⟨rfl, hI9, hO9⟩
        exact ⟨_, rfl, hK _ _ ⟨rfl, ⟨hO9.has hS.2.1.1 HN3.out.1.2.1, cell_only hO9 hS.2.1.2 HN3.out.1.2.2⟩, hO9.has hS.2.2.1 HN3.out.1.2.2, hI9, hS.2.2.2.2.trans (hO9.mono fun _ e => Or.inr e)⟩⟩
      · intro v w' A hA hS hacc hd hl K hK
        replace hS : x13 = .int .u32 (s.r 773 : Int) ∧ (Has w' b3 51 (tab 7 (trC R.d)) ∧ w'.cell? ⟨p, 33, none⟩ = some (.pointer (some ⟨g, 0, none⟩))) ∧ Has w' p 48 (tab 35 (hV x pc g M)) ∧ IsF w' g (trapC s pc R.d.cause R.d.tval) ∧ Only (PH p g) w5 w' := hS
        have hfz : w'.frozen? ⟨p, 32, none⟩ = false := hS.2.2.1.free 32
        have hcz : w'.cell? ⟨p, 32, none⟩ = some (.int .u32 (pc : Int)) := hS.2.2.1.cellTab 32 (by decide)
        refine new_stepS (w'' := w'.setCell ⟨p, 32, none⟩ (.int .u32 (s.r 773 : Int))) (fun ρ hρ => by
            have e30 : ρ (.tmp 30) = .pointer (some ⟨p, 32, none⟩) := by rw [hρ]; exact (hA.1 15 _ 30 rfl rfl).trans (hd (15, .pointer (some ⟨p, 32, none⟩)) (.tail _ (.tail _ (.tail _ (.tail _ (.tail _ (.tail _ (.tail _ (.tail _ (.tail _ (.tail _ (.tail _ (.tail _ (.tail _ (.head _)))))))))))))) ⟨⟨15, .data⟩, by simp, rfl, rfl⟩)
            have e28 : ρ (.tmp 28) = x13 := by rw [hρ]; exact (hA.1 13 _ 28 rfl rfl).trans (hacc (13, x13) (by simp))
            have hx13 := hS.1
            rw [hx13] at e28
            clear hρ hA hl hK hd hS hacc
            go_simp
            ) ?_
        have hO : Only (S1 p) w' (w'.setCell ⟨p, 32, none⟩ (.int .u32 (s.r 773 : Int))) := Only.setCell w' (a := ⟨p, 32, none⟩) (show S1 p p from rfl) _
        exact hK _ _ ⟨rfl, ⟨hO.has hS.2.1.1 HN3.out.1.1, (hart_pc hS.2.2.1 (s.r 773)).cellTab 33 (by decide)⟩, hart_pc hS.2.2.1 _, ⟨hO.has hS.2.2.2.1.blk (fun e => HN3.out.1.2.2 e.symm), hS.2.2.2.1.inv⟩, hS.2.2.2.2.trans (hO.mono fun _ e => Or.inl e)⟩
    intro x8 x13 x16 v wE hSE hacc hqv
    replace hSE : x16 = undef ∧ (Has wE b3 51 (tab 7 (trC R.d)) ∧ wE.cell? ⟨p, 33, none⟩ = some (.pointer (some ⟨g, 0, none⟩))) ∧ Has wE p 48 (tab 35 (hV x (s.r 773) g M)) ∧ IsF wE g (trapC s pc R.d.cause R.d.tval) ∧ Only (PH p g) w5 wE := hSE
    have f0 : v 0 = .pointer (some ⟨p, 0, none⟩) := hqv (0, .pointer (some ⟨p, 0, none⟩)) (.head _)
    have f1 : v 1 = .pointer (some ⟨p, 0, none⟩) := hqv (1, .pointer (some ⟨p, 0, none⟩)) (.tail _ (.head _))
    have f2 : v 2 = .pointer (some ⟨p, 0, none⟩) := hqv (2, .pointer (some ⟨p, 0, none⟩)) (.tail _ (.tail _ (.head _)))
    have f3 : v 3 = .pointer (some ⟨p, 33, none⟩) := hqv (3, .pointer (some ⟨p, 33, none⟩)) (.tail _ (.tail _ (.tail _ (.head _))))
    have f4 : v 4 = .pointer (some ⟨g, 0, none⟩) := hqv (4, .pointer (some ⟨g, 0, none⟩)) (.tail _ (.tail _ (.tail _ (.tail _ (.head _)))))
    have f5 : v 5 = .pointer (some ⟨p, 0, none⟩) := hqv (5, .pointer (some ⟨p, 0, none⟩)) (.tail _ (.tail _ (.tail _ (.tail _ (.tail _ (.head _))))))
    have f6 : v 6 = .pointer (some ⟨p, 0, none⟩) := hqv (6, .pointer (some ⟨p, 0, none⟩)) (.tail _ (.tail _ (.tail _ (.tail _ (.tail _ (.tail _ (.head _)))))))
    have f7 : v 7 = .pointer (some ⟨p, 32, none⟩) := hqv (7, .pointer (some ⟨p, 32, none⟩)) (.tail _ (.tail _ (.tail _ (.tail _ (.tail _ (.tail _ (.tail _ (.head _))))))))
    have f8 : v 8 = x8 := hacc (8, x8) (by simp)
    have f9 : v 9 = .pointer (some ⟨b3, 2, none⟩) := hqv (9, .pointer (some ⟨b3, 2, none⟩)) (.tail _ (.tail _ (.tail _ (.tail _ (.tail _ (.tail _ (.tail _ (.tail _ (.head _)))))))))
    have f10 : v 10 = .int .u32 (R.d.cause : Int) := hqv (10, .int .u32 (R.d.cause : Int)) (.tail _ (.tail _ (.tail _ (.tail _ (.tail _ (.tail _ (.tail _ (.tail _ (.tail _ (.head _))))))))))
    have f11 : v 11 = .pointer (some ⟨b3, 3, none⟩) := hqv (11, .pointer (some ⟨b3, 3, none⟩)) (.tail _ (.tail _ (.tail _ (.tail _ (.tail _ (.tail _ (.tail _ (.tail _ (.tail _ (.tail _ (.head _)))))))))))
    have f12 : v 12 = .int .u32 (R.d.tval : Int) := hqv (12, .int .u32 (R.d.tval : Int)) (.tail _ (.tail _ (.tail _ (.tail _ (.tail _ (.tail _ (.tail _ (.tail _ (.tail _ (.tail _ (.tail _ (.head _))))))))))))
    have f13 : v 13 = x13 := hacc (13, x13) (by simp)
    have f14 : v 14 = .pointer (some ⟨p, 0, none⟩) := hqv (14, .pointer (some ⟨p, 0, none⟩)) (.tail _ (.tail _ (.tail _ (.tail _ (.tail _ (.tail _ (.tail _ (.tail _ (.tail _ (.tail _ (.tail _ (.tail _ (.head _)))))))))))))
    have f15 : v 15 = .pointer (some ⟨p, 32, none⟩) := hqv (15, .pointer (some ⟨p, 32, none⟩)) (.tail _ (.tail _ (.tail _ (.tail _ (.tail _ (.tail _ (.tail _ (.tail _ (.tail _ (.tail _ (.tail _ (.tail _ (.tail _ (.head _))))))))))))))
    have f16 : v 16 = x16 := hacc (16, x16) (by simp)
    clear hacc hqv
    simp only [putAll, Act.put, List.setIfInBounds_toArray, List.set_cons_zero, List.set_cons_succ, Nat.zero_add, Nat.reduceAdd]
    rw [f0, f1, f2, f3, f4, f5, f6, f7, f8, f9, f10, f11, f12, f13, f14, f15]
    clear f0 f1 f2 f3 f4 f5 f6 f7 f8 f9 f10 f11 f12 f13 f14 f15 f16
    obtain ⟨-, ⟨hT6, cg6⟩, h6, i6, o6⟩ := hSE
    have hR6 := o6.has H5.out.2.2.2 (fun e => by rcases e with e | e; (have := HL.out.1; omega); (have := HL.out.2.1; omega))
    replace o6 : Only (PG p g bR) w5 wE := o6.mono (fun _ e => e.elim Or.inl (fun e => Or.inr (Or.inl e)))
    go_upto_region 7 with fail
    have H6 := Lib.hid (And.intro hT6 (And.intro h6 (And.intro i6 hR6)))
    have O6 := Lib.hid o6
    clear hT6 h6 i6 hR6 o6
    clear cg6
    refine region_quiet_tail (Below wE.heap.size wE) 7 (by kernel_rfl) (by kernel_rfl) (below_drewN (Below.refl _ _) 1) ?_
    simp only [List.take_succ_cons, List.take_zero, List.drop_succ_cons, List.drop_zero]
    refine WQ.out ?_
    refine WQ.lift (wpQ_move _ rfl rfl (.pointer (some ⟨p, 0, none⟩)) rfl) ?_
    simp only [Act.put, List.setIfInBounds_toArray, List.set_cons_zero, List.set_cons_succ]
    refine WQ.lift (wpQ_val rfl (.pointer (some ⟨p, 0, none⟩)) (fun w' _ => by go_simp)) ?_
    simp only [Act.put, List.setIfInBounds_toArray, List.set_cons_zero, List.set_cons_succ]
    refine WQ.lift (wpQ_val rfl (.pointer (some ⟨p, 33, none⟩)) (fun w' _ => by go_simp)) ?_
    simp only [Act.put, List.setIfInBounds_toArray, List.set_cons_zero, List.set_cons_succ]
    refine WQ.lift (wpQ_load 45 (.tmp 33) rfl rfl (.pointer (some ⟨p, 33, none⟩)) rfl (.pointer (some ⟨g, 0, none⟩)) (fun w' hC => by
        have hcell : w'.cell? ⟨p, 33, none⟩ = some (.pointer (some ⟨g, 0, none⟩)) := (H6.out.2.1.after hC).cellTab 33 (by decide)
        go_simp)) ?_
    simp only [Act.put, List.setIfInBounds_toArray, List.set_cons_zero, List.set_cons_succ]
    refine WQ.lift (wpQ_val rfl (.pointer (some ⟨b3, 1, none⟩)) (fun w' _ => by go_simp)) ?_
    simp only [Act.put, List.setIfInBounds_toArray, List.set_cons_zero, List.set_cons_succ]
    refine WQ.lift (wpQ_load 4 (.tmp 35) rfl rfl (.pointer (some ⟨b3, 1, none⟩)) rfl (.bool true) (fun w' hC => by
        have hcell : w'.cell? ⟨b3, 1, none⟩ = some (.bool true) := ((H6.out.1.after hC).cellTab 1 (by decide)).trans (by show some (Value.bool R.d.trap) = _; rw [HO.out.2.2])
        go_simp)) ?_
    simp only [Act.put, List.setIfInBounds_toArray, List.set_cons_zero, List.set_cons_succ]
    refine WQ.lift (wpQ_val rfl (.bool false) (fun w' _ => by go_simp)) ?_
    simp only [Act.put, List.setIfInBounds_toArray, List.set_cons_zero, List.set_cons_succ]
    refine WQ.mk (wpQuiet_nil ?_)
    rintro w7 hb7
    have i7 := H6.out.2.2.1.after hb7
    have kTk := ctick_any w7 g _ false i7
    replace kTk : Calls Tryz.prog 30 #[.pointer (some ⟨g, 0, none⟩), .bool false] w7 fun e w' => e = .returned (.tuple #[]) ∧ IsF w' g (tickC (trapC s pc R.d.cause R.d.tval) false) ∧ Only (S1 g) w7 w' := kTk
    go_upto_region 8 with (go_at_call 30; with_reducible refine kTk.mono ?_; rintro e w8 ⟨rfl, i8, o8⟩)
    have hT8 := o8.has (H6.out.1.after hb7) HN3.out.1.2.1
    have h8 := o8.has (H6.out.2.1.after hb7) HN3.out.1.2.2
    have hR8 := o8.has (H6.out.2.2.2.after hb7) (fun e => by have e : bR = g := e; have := HL.out.2.1; omega)
    have O8 : Only (PG p g bR) w5 w8 := (O6.out.trans (Only.of_below hb7)).trans (o8.mono fun _ e => Or.inr (Or.inl e))
    clear kTk i7 o8 hb7
    have HH8 := Lib.hid (And.intro h8 (And.intro i8 O8))
    clear h8 i8 O8
    go_wp2_with (first
      | (refine wp_load_tabI rfl 51 _ rfl b3 rfl 7 (trC R.d) 51 hT8 _ Tryz.underlying51 rfl infoTr ?_; simp only [Act.put, List.setIfInBounds_toArray, List.set_cons_zero, List.set_cons_succ])
      | (refine wp_store_tab rfl 51 _ _ rfl bR 0 rfl 7 (trC R.d) rfl 7 (trC did0) 51 hR8 infoTr (by omega) (trC_one _) ?_; intro w9 hG9 hg9))
    rw [tab7_all] at hG9
    have O9 : Only (PG p g bR) w5 w9 := HH8.out.2.2.trans (Only.of_grown hg9 fun l e => by injection e with e; exact Or.inr (Or.inr (Nat.le_of_eq e)))
    have o89 : Only (S1 bR) w8 w9 := Only.of_grown hg9 fun l e => by injection e with e; exact e.symm
    have hq := HQ.out.1 w5 w9
    have hlo := HL.out
    obtain rfl := HN.out
    exact bodyPost_ret (results_cell_row rfl _ _ _ 51 _ _ _ rfl hG9 Tryz.underlying51 rfl infoTr) rfl ⟨rfl, only_pg HO.out.1 O9, Or.inl ⟨HO.out.2.2, o89.has HH8.out.1 (fun e => by have e : p = w.heap.size := e; omega), ⟨o89.has HH8.out.2.1.blk (fun e => by have e : g = w.heap.size := e; omega), HH8.out.2.1.inv⟩, hq HO.out.2.1 O9⟩⟩
  · have hN3 : w4.heap.size ≠ p ∧ w4.heap.size ≠ g ∧ p ≠ g := ⟨by have := h4.lt; omega, by have := i4.lt; omega, hlo.2.2.2.1⟩
    have h5 := h4.after hb45
    have i5 := i4.after hb45
    have q5 := HQ.out.2 _ _ q4 (Only.of_below hb45)
    have c1 : w5.cell? ⟨w4.heap.size, 1, none⟩ = some (.bool false) := (hG5.cellTab 1 (by decide)).trans (by show some (Value.bool R.d.trap) = _; rw [ht])
    have hne : w4.heap.size ≠ bR := by omega
    have HO := Lib.hid (And.intro O5 (And.intro q5 ht))
    clear hb45 hR4 h4 i4 q4 hg5 hO4 O5 q5 hsh hlo hlt4 HF1
    generalize w4.heap.size = b3 at *
    have HN3 := Lib.hid (And.intro hN3 hne)
    have H5 := Lib.hid (And.intro hG5 (And.intro h5 (And.intro i5 hR5)))
    clear hN3 hne hG5 h5 i5 hR5 ht
    go_upto_region 7 with fail
    clear c1
    obtain ⟨hT6, h6, i6, hR6⟩ := H5.out
    have o6 : Only (PG p g bR) w5 w5 := Only.refl _ _
    have H6 := Lib.hid (And.intro hT6 (And.intro h6 (And.intro i6 hR6)))
    have O6 := Lib.hid o6
    clear hT6 h6 i6 hR6 o6
    refine region_quiet_tail (Below w5.heap.size w5) 7 (by kernel_rfl) (by kernel_rfl) (below_drewN (Below.refl _ _) 1) ?_
    simp only [List.take_succ_cons, List.take_zero, List.drop_succ_cons, List.drop_zero]
    refine WQ.out ?_
    refine WQ.lift (wpQ_move _ rfl rfl (.pointer (some ⟨p, 0, none⟩)) rfl) ?_
    simp only [Act.put, List.setIfInBounds_toArray, List.set_cons_zero, List.set_cons_succ]
    refine WQ.lift (wpQ_val rfl (.pointer (some ⟨p, 0, none⟩)) (fun w' _ => by go_simp)) ?_
    simp only [Act.put, List.setIfInBounds_toArray, List.set_cons_zero, List.set_cons_succ]
    refine WQ.lift (wpQ_val rfl (.pointer (some ⟨p, 33, none⟩)) (fun w' _ => by go_simp)) ?_
    simp only [Act.put, List.setIfInBounds_toArray, List.set_cons_zero, List.set_cons_succ]
    refine WQ.lift (wpQ_load 45 (.tmp 33) rfl rfl (.pointer (some ⟨p, 33, none⟩)) rfl (.pointer (some ⟨g, 0, none⟩)) (fun w' hC => by
        have hcell : w'.cell? ⟨p, 33, none⟩ = some (.pointer (some ⟨g, 0, none⟩)) := (H6.out.2.1.after hC).cellTab 33 (by decide)
        go_simp)) ?_
    simp only [Act.put, List.setIfInBounds_toArray, List.set_cons_zero, List.set_cons_succ]
    refine WQ.lift (wpQ_val rfl (.pointer (some ⟨b3, 1, none⟩)) (fun w' _ => by go_simp)) ?_
    simp only [Act.put, List.setIfInBounds_toArray, List.set_cons_zero, List.set_cons_succ]
    refine WQ.lift (wpQ_load 4 (.tmp 35) rfl rfl (.pointer (some ⟨b3, 1, none⟩)) rfl (.bool false) (fun w' hC => by
        have hcell : w'.cell? ⟨b3, 1, none⟩ = some (.bool false) := ((H6.out.1.after hC).cellTab 1 (by decide)).trans (by show some (Value.bool R.d.trap) = _; rw [HO.out.2.2])
        go_simp)) ?_
    simp only [Act.put, List.setIfInBounds_toArray, List.set_cons_zero, List.set_cons_succ]
    refine WQ.lift (wpQ_val rfl (.bool true) (fun w' _ => by go_simp)) ?_
    simp only [Act.put, List.setIfInBounds_toArray, List.set_cons_zero, List.set_cons_succ]
    refine WQ.mk (wpQuiet_nil ?_)
    rintro w7 hb7
    have i7 := H6.out.2.2.1.after hb7
    have kTk := ctick_any w7 g _ true i7
    replace kTk : Calls Tryz.prog 30 #[.pointer (some ⟨g, 0, none⟩), .bool true] w7 fun e w' => e = .returned (.tuple #[]) ∧ IsF w' g (tickC s true) ∧ Only (S1 g) w7 w' := kTk
    go_upto_region 8 with (go_at_call 30; with_reducible refine kTk.mono ?_; rintro e w8 ⟨rfl, i8, o8⟩)
    have hT8 := o8.has (H6.out.1.after hb7) HN3.out.1.2.1
    have h8 := o8.has (H6.out.2.1.after hb7) HN3.out.1.2.2
    have hR8 := o8.has (H6.out.2.2.2.after hb7) (fun e => by have e : bR = g := e; have := HL.out.2.1; omega)
    have O8 : Only (PG p g bR) w5 w8 := (O6.out.trans (Only.of_below hb7)).trans (o8.mono fun _ e => Or.inr (Or.inl e))
    clear kTk i7 o8 hb7
    have HH8 := Lib.hid (And.intro h8 (And.intro i8 O8))
    clear h8 i8 O8
    go_wp2_with (first
      | (refine wp_load_tabI rfl 51 _ rfl b3 rfl 7 (trC R.d) 51 hT8 _ Tryz.underlying51 rfl infoTr ?_; simp only [Act.put, List.setIfInBounds_toArray, List.set_cons_zero, List.set_cons_succ])
      | (refine wp_store_tab rfl 51 _ _ rfl bR 0 rfl 7 (trC R.d) rfl 7 (trC did0) 51 hR8 infoTr (by omega) (trC_one _) ?_; intro w9 hG9 hg9))
    rw [tab7_all] at hG9
    have O9 : Only (PG p g bR) w5 w9 := HH8.out.2.2.trans (Only.of_grown hg9 fun l e => by injection e with e; exact Or.inr (Or.inr (Nat.le_of_eq e)))
    have o89 : Only (S1 bR) w8 w9 := Only.of_grown hg9 fun l e => by injection e with e; exact e.symm
    have hq := HQ.out.2 w5 w9
    have hlo := HL.out
    obtain rfl := HN.out
    exact bodyPost_ret (results_cell_row rfl _ _ _ 51 _ _ _ rfl hG9 Tryz.underlying51 rfl infoTr) rfl ⟨rfl, only_pg HO.out.1 O9, Or.inr ⟨HO.out.2.2, o89.has HH8.out.1 (fun e => by have e : p = w.heap.size := e; omega), ⟨o89.has HH8.out.2.1.blk (fun e => by have e : g = w.heap.size := e; omega), HH8.out.2.1.inv⟩, hq HO.out.2.1 O9⟩⟩
end Go.Proofs.YtgpofoggfifnjaaGreatDoor.Ha
