/-
Layer 9, package dyn: a relocation and a symbol of a table.
-/
import Derived.Test.YtfdoloonllhodaaJDzC
import Derived.Test.YtfdoloonllhodaaJElG
import Derived.Test.YtfdoloonllhodaaJaB
namespace Go.Proofs.Ytfdoloonllhodaa
open Go Go.RowKit

/-- the relocation at q -/
def rlO (o : Option (List UInt8)) (q : Nat) : Rl := ⟨nmO o q, nmO o (q + 4) % 256, nmO o (q + 4) / 256, nmO o (q + 8)⟩
theorem infoRE : (Try.prog.info? 43).map (fun i => (i.zero, i.size, i.bytes)) = some (some (.agg (tab 4 (rlE rl0))), 4, 32) := by kernel_rfl
theorem infoRE4 : (Try.prog.info? 43).map (·.size) = some 4 := by kernel_rfl
theorem infoREt (f : Nat → Value) : (Try.prog.info? 43).map (·.size) = some (tab 4 f).size := by rw [tab_size]; exact infoRE4
theorem infoREz : (Try.prog.info? 43).map (fun i => (i.zero, i.size)) = some (some (.agg (tab 4 (rlE rl0))), 4) := by kernel_rfl
theorem zeroRE (w : World) : (zeroValue 43).run Try.prog w = .ok (.agg (tab 4 (rlE rl0))) w := (zero_of_info infoREz).1 w
theorem rlE_all (r : Rl) : (tab 4 (rlE r)).all (·.oneCell') = true := tab_oneCell _ _ (rlE_one r)
theorem rlE_lit (r : Rl) : (#[.int .u32 (r.a : Int), .int .i64 (r.t : Int), .int .i64 (r.s : Int), .int .u32 (r.x : Int)] : Array Value) = tab 4 (rlE r) := by kernel_rfl
theorem rlE_zero : (#[.int .u32 0, .int .i64 0, .int .i64 0, .int .u32 0] : Array Value) = tab 4 (rlE rl0) := by kernel_rfl
theorem u32_and8 (x : Nat) (h : x < 4294967296) : bits .and .u32 (x : Int) 255 = ((x % 256 : Nat) : Int) := by
  have e := u32_and_nat x 255 h (by omega)
  have e2 : x &&& 255 = x % 2 ^ 8 := Nat.and_two_pow_sub_one_eq_mod x 8
  rw [e2] at e
  exact e
set_option maxRecDepth 100000 in
set_option maxHeartbeats 2000000 in
theorem dsymbol_any {B L q : Nat} {p : Option Nat} {o : Option (List UInt8)} {w : World} (h : TbP B L p o q w) (hL : L ≤ w.heap.size) :
    Calls Try.prog 33 #[.agg #[pV p]] w fun e w' => e = .returned (.int .u32 ((nmO o (q + 4) : Nat) : Int)) ∧ TbP B L p o (q + 16) w' ∧ w.grownBy w' p := by
  go_enter Try.func33, Try.ntmps33
  go_upto_region 1 with fail
  have hGt : Has (w.alloc (.cells #[pV p] 101)) w.heap.size 101 #[pV p] := Has.new _ _ _
  have hb0 : Below w.heap.size w (w.alloc (.cells #[pV p] 101)) := (Below.refl _ _).alloc (Nat.le_refl _) _
  generalize w.alloc (.cells #[pV p] 101) = u at *
  obtain ⟨gt, hge⟩ : ∃ x, x = w.heap.size := ⟨_, rfl⟩
  rw [← hge] at hGt ⊢
  have hgtp : ∀ l, p = some l → gt ≠ l := fun l e => by have := (h.gB l e).2.1; omega
  have hT := h.after hb0
  have hgr := only_below hb0 p
  clear hge hb0 h hL
  have hct := hGt.cell 0
  go_wp2_with fail
  refine hT.u32.mono ?_
  rintro e u1 ⟨rfl, hT1, hg1⟩
  have hGt1 := has_grown hGt hg1 hgtp
  have hct := hGt1.cell 0
  have hgr1 := only_trans hgr hg1
  clear hGt hT hg1 hgr
  go_wp2_with fail
  refine hT1.u32.mono ?_
  rintro e u2 ⟨rfl, hT2, hg2⟩
  have hGt2 := has_grown hGt1 hg2 hgtp
  have hct := hGt2.cell 0
  have hgr2 := only_trans hgr1 hg2
  clear hGt1 hT1 hg2 hgr1
  obtain ⟨x, hx⟩ : ∃ x, x = nmO o (q + 4) := ⟨_, rfl⟩
  rw [← hx]
  have HX := Lib.hid hx
  clear hx
  go_wp2_with fail
  refine hT2.u32.mono ?_
  rintro e u3 ⟨rfl, hT3, hg3⟩
  have hGt3 := has_grown hGt2 hg3 hgtp
  have hct := hGt3.cell 0
  have hgr3 := only_trans hgr2 hg3
  clear hGt2 hT2 hg3 hgr2
  go_wp2_with fail
  refine hT3.u32.mono ?_
  rintro e u4 ⟨rfl, hT4, hg4⟩
  have hgr4 := only_trans hgr3 hg4
  clear hGt3 hT3 hg4 hgr3
  go_wp2_with fail
  go_ret
  exact ⟨by rw [← HX.out]; rfl, hT4, hgr4⟩
set_option maxRecDepth 100000 in
set_option maxHeartbeats 4000000 in
theorem drela_any {B L q : Nat} {p : Option Nat} {o : Option (List UInt8)} {w : World} (h : TbP B L p o q w) (hL : L ≤ w.heap.size) :
    Calls Try.prog 35 #[.agg #[pV p]] w fun e w' => e = .returned (.agg (tab 4 (rlE (rlO o q)))) ∧ TbP B L p o (q + 12) w' ∧ w.grownBy w' p := by
  go_enter Try.func35, Try.ntmps35
  go_wp2_with fail
  have hGt0 : Has (w.alloc (.cells #[pV p] 101)) w.heap.size 101 #[pV p] := Has.new _ _ _
  have hR : Has ((w.alloc (.cells #[pV p] 101)).alloc (.cells #[.int .u32 0, .int .i64 0, .int .i64 0, .int .u32 0] 43)) (w.alloc (.cells #[pV p] 101)).heap.size 43 (tab 4 (rlE rl0)) := by
    rw [← rlE_zero]
    exact Has.new _ _ _
  have hb0 : Below w.heap.size w (w.alloc (.cells #[pV p] 101)) := (Below.refl _ _).alloc (Nat.le_refl _) _
  have hb1 : Below (w.alloc (.cells #[pV p] 101)).heap.size (w.alloc (.cells #[pV p] 101)) ((w.alloc (.cells #[pV p] 101)).alloc (.cells #[.int .u32 0, .int .i64 0, .int .i64 0, .int .u32 0] 43)) := (Below.refl _ _).alloc (Nat.le_refl _) _
  have hGt := hGt0.after hb1
  have hb01 := below_trans hb0 (hb1.mono (Nat.le_refl _))
  have hs : (w.alloc (.cells #[pV p] 101)).heap.size = w.heap.size + 1 := by simp
  rw [hs] at hR
  clear hGt0 hb0 hb1 hs
  generalize (w.alloc (.cells #[pV p] 101)).alloc (.cells #[.int .u32 0, .int .i64 0, .int .i64 0, .int .u32 0] 43) = u at *
  obtain ⟨gr, hgre⟩ : ∃ x, x = w.heap.size + 1 := ⟨_, rfl⟩
  rw [← hgre] at hR ⊢
  obtain ⟨gt, hge⟩ : ∃ x, x = w.heap.size := ⟨_, rfl⟩
  rw [← hge] at hGt ⊢
  have hgtp : ∀ l, p = some l → gt ≠ l := fun l e => by have := (h.gB l e).2.1; omega
  have hgp : ∀ l, p = some l → gr ≠ l := fun l e => by have := (h.gB l e).2.1; omega
  have hT := h.after hb01
  have hgw : L ≤ gr := by omega
  have hgw2 : w.heap.size ≤ gr := by omega
  have hgr0 := only_below hb01 p
  have hW := Lib.hid hgr0
  obtain ⟨w0, hw0⟩ : ∃ x, x = w := ⟨_, rfl⟩
  rw [← hw0] at hgr0
  have hC : CurI B L p o q (q + 12) gt w0 u := CurI.new hT hGt hgtp (by omega) hgr0
  clear hge hgre hb01 hgr0 hGt h
  refine region_simL [.pointer (some ⟨gt, 0, none⟩), pV p, undef, .pointer (some ⟨gt, 0, none⟩), pV p, undef, .pointer (some ⟨gt, 0, none⟩), pV p, undef, .int .u32 ((nmO o (q) : Nat) : Int), .int .u32 ((nmO o (q + 4) : Nat) : Int), .int .u32 ((nmO o (q + 8) : Nat) : Int)] [(2, fun x w' => x = .int .u32 ((nmO o (q) : Nat) : Int) ∧ LvG B L p o (mO o (q + 4)) w'), (5, fun x w' => x = .int .u32 ((nmO o (q + 4) : Nat) : Int) ∧ LvG B L p o (mO o (q + 8)) w'), (8, fun x w' => x = .int .u32 ((nmO o (q + 8) : Nat) : Int) ∧ LvG B L p o (mO o (q + 12)) w')] [(2, fun w' => LvL B L p o (mO o (q)) w'), (5, fun w' => LvL B L p o (mO o (q + 4)) w'), (8, fun w' => LvL B L p o (mO o (q + 8)) w')] [(2, fun w' w'' => LvE B L p o (mO o (q)) (mO o (q + 4)) w' w''), (5, fun w' w'' => LvE B L p o (mO o (q + 4)) (mO o (q + 8)) w' w''), (8, fun w' w'' => LvE B L p o (mO o (q + 8)) (mO o (q + 12)) w' w'')] (fun w' => CurI B L p o (q) (q + 12) gt w0 w' ∧ Has w' gr 43 (tab 4 (rlE rl0))) 24 (by kernel_rfl) rfl (by kernel_rfl) ?_ ?_ ?_ ?_ ?_ (by decide) ?_
  · intro w' hb he
    have hTs := hT.after hb
    refine ⟨⟨hC.after hb, hR.after hb⟩, ?_⟩
    simp only [List.forall_mem_cons, List.not_mem_nil, false_implies, implies_true, and_true]
    exact ⟨hTs.low (by omega), hTs.low (by omega), hTs.low (by omega)⟩
  · simp only [List.forall_mem_cons, List.not_mem_nil, false_implies, implies_true, and_true]
    refine ⟨?_, ?_, ?_⟩
    · exact fun w' w'' hg hE => ⟨hg.1.keep hE (by omega) (by omega), has_grown hg.2 hE.1 hgp⟩
    · exact fun w' w'' hg hE => ⟨hg.1.keep hE (by omega) (by omega), has_grown hg.2 hE.1 hgp⟩
    · exact fun w' w'' hg hE => ⟨hg.1.keep hE (by omega) (by omega), has_grown hg.2 hE.1 hgp⟩
  · simp only [List.forall_mem_cons, List.not_mem_nil, false_implies, implies_true, and_true]
    exact ⟨⟨(fun h => absurd rfl h), (fun _ _ x w' w'' _ ⟨e, h1⟩ hE => ⟨e, hE.great (mO_le (by omega)) h1⟩), (fun _ _ x w' w'' _ ⟨e, h1⟩ hE => ⟨e, hE.great (mO_le (by omega)) h1⟩)⟩, ⟨(fun _ h => absurd h (by decide +kernel)), (fun h => absurd rfl h), (fun _ _ x w' w'' _ ⟨e, h1⟩ hE => ⟨e, hE.great (mO_le (by omega)) h1⟩)⟩, ⟨(fun _ _ x w' w'' _ ⟨e, h1⟩ hE => ⟨e, hE.great (mO_le (by omega)) h1⟩), (fun _ h => absurd h (by decide +kernel)), (fun h => absurd rfl h)⟩⟩
  · simp only [List.forall_mem_cons, List.not_mem_nil, false_implies, implies_true, and_true]
    exact ⟨⟨(fun h => absurd rfl h), (fun _ h => absurd h (by decide +kernel)), (fun _ _ w' w'' _ h hE => LvE.low hE h (by omega))⟩, ⟨(fun _ _ w' w'' _ h hE => LvE.low hE h (by omega)), (fun h => absurd rfl h), (fun _ h => absurd h (by decide +kernel))⟩, ⟨(fun _ _ w' w'' _ h hE => LvE.low hE h (by omega)), (fun _ _ w' w'' _ h hE => LvE.low hE h (by omega)), (fun h => absurd rfl h)⟩⟩
  · refine ⟨⟨?_, ?_⟩, ⟨?_, ?_⟩, ⟨?_, ?_⟩, ⟨?_, ?_⟩, ⟨?_, ?_⟩, ⟨?_, ?_⟩, ⟨?_, ?_⟩, ⟨?_, ?_⟩, ⟨?_, ?_⟩, ⟨?_, ?_⟩, ⟨?_, ?_⟩, ⟨?_, ?_⟩, trivial⟩
    · intro v w' AA hAA hg hf hl hgd K hK
      exact pure_step (.pointer (some ⟨gt, 0, none⟩)) (fun ρ hρ => by
        have e1 : ρ (.tmp 1) = .pointer (some ⟨gt, 0, none⟩) := by rw [hρ]; exact hAA.2 1 (by simp)
        clear hρ hf hAA hl hK hg
        go_simp) (hK _ _ rfl ⟨rfl, hg.2⟩)
    · trivial
    · intro v w' AA hAA hg hf hl hgd K hK
      have hcell := (show w'.cell? ⟨gt, 0, none⟩ = some (pV p) from hg.2.1.tb.cell 0)
      exact pure_step (pV p) (fun ρ hρ => by
        have e6 : ρ (.tmp 6) = .pointer (some ⟨gt, 0, none⟩) := by rw [hρ]; exact (hAA.1 0 _ 6 rfl rfl).trans (hf ⟨0, .data⟩ (by simp) rfl).1
        clear hρ hf hAA hl hK hg
        go_simp) (hK _ _ rfl ⟨rfl, hg.2⟩)
    · trivial
    · intro v w' AA hAA hg hf hl hgd K hK
      have hT0 := tb_at hg.1 hg.2.1.first hg.2.1.ex
      refine call_step 44 #[pV p] (fun ρ hρ => by
        have hfun : ∀ f, ρ (.func f) = .func (.func f) #[] #[] := fun f => by rw [hρ]; rfl
        have e7 : ρ (.tmp 7) = pV p := by rw [hρ]; exact (hAA.1 1 _ 7 rfl rfl).trans (hf ⟨1, .data⟩ (by simp) rfl).1
        clear hρ hf hAA hl hK hg
        go_simp) ?_
      refine (hT0.u32).mono ?_
      rintro e w'' ⟨rfl, hT1, hy⟩
      have hE : LvE B L p o (mO o (q)) (mO o (q + 4)) w' w'' := ⟨hy, hT0.lv, hT1.lv⟩
      exact ⟨_, rfl, hK _ _ hE ⟨⟨rfl, hT1.great⟩, hg.2.1.keep hE (by omega) (by omega), has_grown hg.2.2 hy hgp⟩⟩
    · trivial
    · intro v w' AA hAA hg hf hl hgd K hK
      exact pure_step (.pointer (some ⟨gt, 0, none⟩)) (fun ρ hρ => by
        have e1 : ρ (.tmp 1) = .pointer (some ⟨gt, 0, none⟩) := by rw [hρ]; exact hAA.2 1 (by simp)
        clear hρ hf hAA hl hK hg
        go_simp) (hK _ _ rfl ⟨rfl, hg.2⟩)
    · trivial
    · intro v w' AA hAA hg hf hl hgd K hK
      have hcell := (show w'.cell? ⟨gt, 0, none⟩ = some (pV p) from hg.2.1.tb.cell 0)
      exact pure_step (pV p) (fun ρ hρ => by
        have e9 : ρ (.tmp 9) = .pointer (some ⟨gt, 0, none⟩) := by rw [hρ]; exact (hAA.1 3 _ 9 rfl rfl).trans (hf ⟨3, .data⟩ (by simp) rfl).1
        clear hρ hf hAA hl hK hg
        go_simp) (hK _ _ rfl ⟨rfl, hg.2⟩)
    · trivial
    · intro v w' AA hAA hg hf hl hgd K hK
      obtain ⟨⟨-, hlp⟩, _⟩ := hf ⟨2, .chain⟩ (by simp) rfl
      have hT0 := tb_at hg.1 hlp hg.2.1.ex
      refine call_step 44 #[pV p] (fun ρ hρ => by
        have hfun : ∀ f, ρ (.func f) = .func (.func f) #[] #[] := fun f => by rw [hρ]; rfl
        have e10 : ρ (.tmp 10) = pV p := by rw [hρ]; exact (hAA.1 4 _ 10 rfl rfl).trans (hf ⟨4, .data⟩ (by simp) rfl).1
        clear hρ hf hAA hl hK hg
        go_simp) ?_
      refine (hT0.u32).mono ?_
      rintro e w'' ⟨rfl, hT1, hy⟩
      have hE : LvE B L p o (mO o (q + 4)) (mO o (q + 8)) w' w'' := ⟨hy, hT0.lv, hT1.lv⟩
      exact ⟨_, rfl, hK _ _ hE ⟨⟨rfl, hT1.great⟩, hg.2.1.keep hE (by omega) (by omega), has_grown hg.2.2 hy hgp⟩⟩
    · trivial
    · intro v w' AA hAA hg hf hl hgd K hK
      exact pure_step (.pointer (some ⟨gt, 0, none⟩)) (fun ρ hρ => by
        have e1 : ρ (.tmp 1) = .pointer (some ⟨gt, 0, none⟩) := by rw [hρ]; exact hAA.2 1 (by simp)
        clear hρ hf hAA hl hK hg
        go_simp) (hK _ _ rfl ⟨rfl, hg.2⟩)
    · trivial
    · intro v w' AA hAA hg hf hl hgd K hK
      have hcell := (show w'.cell? ⟨gt, 0, none⟩ = some (pV p) from hg.2.1.tb.cell 0)
      exact pure_step (pV p) (fun ρ hρ => by
        have e12 : ρ (.tmp 12) = .pointer (some ⟨gt, 0, none⟩) := by rw [hρ]; exact (hAA.1 6 _ 12 rfl rfl).trans (hf ⟨6, .data⟩ (by simp) rfl).1
        clear hρ hf hAA hl hK hg
        go_simp) (hK _ _ rfl ⟨rfl, hg.2⟩)
    · trivial
    · intro v w' AA hAA hg hf hl hgd K hK
      obtain ⟨⟨-, hlp⟩, _⟩ := hf ⟨5, .chain⟩ (by simp) rfl
      have hT0 := tb_at hg.1 hlp hg.2.1.ex
      refine call_step 44 #[pV p] (fun ρ hρ => by
        have hfun : ∀ f, ρ (.func f) = .func (.func f) #[] #[] := fun f => by rw [hρ]; rfl
        have e13 : ρ (.tmp 13) = pV p := by rw [hρ]; exact (hAA.1 7 _ 13 rfl rfl).trans (hf ⟨7, .data⟩ (by simp) rfl).1
        clear hρ hf hAA hl hK hg
        go_simp) ?_
      refine (hT0.u32).mono ?_
      rintro e w'' ⟨rfl, hT1, hy⟩
      have hE : LvE B L p o (mO o (q + 8)) (mO o (q + 12)) w' w'' := ⟨hy, hT0.lv, hT1.lv⟩
      exact ⟨_, rfl, hK _ _ hE ⟨⟨rfl, hT1.great⟩, hg.2.1.keep hE (by omega) (by omega), has_grown hg.2.2 hy hgp⟩⟩
    · trivial
    · intro v w' AA hAA hg hf hl hgd K hK
      exact pure_step (.int .u32 ((nmO o (q) : Nat) : Int)) (fun ρ hρ => by
        obtain ⟨⟨hv2, hl2⟩, _⟩ := hf ⟨2, .data⟩ (by simp) rfl
        have e8 : ρ (.tmp 8) = .int .u32 ((nmO o (q) : Nat) : Int) := by rw [hρ]; exact (hAA.1 2 _ 8 rfl rfl).trans hv2
        clear hρ hf hAA hl hK hg
        go_simp) (hK _ _ rfl ⟨rfl, hg.2⟩)
    · trivial
    · intro v w' AA hAA hg hf hl hgd K hK
      exact pure_step (.int .u32 ((nmO o (q + 4) : Nat) : Int)) (fun ρ hρ => by
        obtain ⟨⟨hv5, hl5⟩, _⟩ := hf ⟨5, .data⟩ (by simp) rfl
        have e11 : ρ (.tmp 11) = .int .u32 ((nmO o (q + 4) : Nat) : Int) := by rw [hρ]; exact (hAA.1 5 _ 11 rfl rfl).trans hv5
        clear hρ hf hAA hl hK hg
        go_simp) (hK _ _ rfl ⟨rfl, hg.2⟩)
    · trivial
    · intro v w' AA hAA hg hf hl hgd K hK
      exact pure_step (.int .u32 ((nmO o (q + 8) : Nat) : Int)) (fun ρ hρ => by
        obtain ⟨⟨hv8, hl8⟩, _⟩ := hf ⟨8, .data⟩ (by simp) rfl
        have e14 : ρ (.tmp 14) = .int .u32 ((nmO o (q + 8) : Nat) : Int) := by rw [hρ]; exact (hAA.1 8 _ 14 rfl rfl).trans hv8
        clear hρ hf hAA hl hK hg
        go_simp) (hK _ _ rfl ⟨rfl, hg.2⟩)
    · trivial
  intro v wE hIE hE
  have f0 : v 0 = .pointer (some ⟨gt, 0, none⟩) := (hE 0 (by decide)).1
  have f1 : v 1 = pV p := (hE 1 (by decide)).1
  obtain ⟨⟨hv2, hl2⟩, _⟩ := hE 2 (by decide)
  have f3 : v 3 = .pointer (some ⟨gt, 0, none⟩) := (hE 3 (by decide)).1
  have f4 : v 4 = pV p := (hE 4 (by decide)).1
  obtain ⟨⟨hv5, hl5⟩, _⟩ := hE 5 (by decide)
  have f6 : v 6 = .pointer (some ⟨gt, 0, none⟩) := (hE 6 (by decide)).1
  have f7 : v 7 = pV p := (hE 7 (by decide)).1
  obtain ⟨⟨hv8, hl8⟩, _⟩ := hE 8 (by decide)
  have f9 : v 9 = .int .u32 ((nmO o (q) : Nat) : Int) := (hE 9 (by decide)).1
  have f10 : v 10 = .int .u32 ((nmO o (q + 4) : Nat) : Int) := (hE 10 (by decide)).1
  have f11 : v 11 = .int .u32 ((nmO o (q + 8) : Nat) : Int) := (hE 11 (by decide)).1
  clear hE
  simp only [putAll, Act.put, List.setIfInBounds_toArray, List.set_cons_zero, List.set_cons_succ, Nat.zero_add, Nat.reduceAdd]
  rw [f0, f1, hv2, f3, f4, hv5, f6, f7, hv8, f9, f10, f11]
  clear f0 f1 f3 f4 f6 f7 f9 f10 f11
  obtain ⟨hCE, hRE⟩ := hIE
  have hTE := tb_at (q := q + 12) hCE.last hl8 hCE.ex
  have hgE := hCE.gro
  rw [hw0] at hgE
  obtain ⟨x, hx⟩ : ∃ x, x = nmO o q := ⟨_, rfl⟩
  obtain ⟨y, hy⟩ : ∃ y, y = nmO o (q + 4) := ⟨_, rfl⟩
  obtain ⟨z, hz⟩ : ∃ z, z = nmO o (q + 8) := ⟨_, rfl⟩
  have hx32 := nmO_lt o q
  have hy32 := nmO_lt o (q + 4)
  have hz32 := nmO_lt o (q + 8)
  have HR : Hid (rlO o q = ⟨x, y % 256, y / 256, z⟩) := Lib.hid (by rw [hx, hy, hz]; rfl)
  rw [← hx] at hx32 ⊢
  rw [← hy] at hy32 ⊢
  rw [← hz] at hz32 ⊢
  have hand := u32_and8 y hy32
  obtain ⟨t, ht⟩ : ∃ t, t = y % 256 := ⟨_, rfl⟩
  obtain ⟨s, hs⟩ : ∃ s, s = y / 256 := ⟨_, rfl⟩
  have ht8 : t < 256 := by omega
  have hs24 : s < 16777216 := by omega
  have hshr : (y : Int) / 256 = (s : Int) := by omega
  rw [← ht] at hand HR
  rw [← hs] at HR
  clear hx hy hz hw0 hC hT hR hv2 hv5 hv8 hl2 hl5 hl8 ht hs hW
  go_wp2_with (refine wp_store_cs rfl 43 _ _ rfl gr rfl (tab 4 (rlE ⟨x, t, s, z⟩)) (congrArg Value.agg (rlE_lit ⟨x, t, s, z⟩)) _ (by simp only [tab_size]) (infoREt _) (rlE_all _) hRE ?_; intro wz hz hgz)
  refine bodyPost_ret (v := .agg (tab 4 (rlE ⟨x, t, s, z⟩))) (results_cellO rfl _ _ gr 43 _ _ rfl hz Try.underlying43 rfl (infoREt _)) rfl ⟨by rw [HR.out], hTE.aside hgz (fun l e => .inr (by injection e with e; omega)), ?_⟩
  refine ⟨hgz.os.trans hgE.os, hgz.tape.trans hgE.tape, hgz.output.trans hgE.output, Nat.le_trans hgE.size hgz.size, fun i hi hne => (hgz.block i (Nat.lt_of_lt_of_le hi hgE.size) (fun e => ?_)).trans (hgE.block i hi hne)⟩
  injection e with e
  omega
end Go.Proofs.Ytfdoloonllhodaa
