/-
Layer 8, the reference: File.
-/
import Derived.Test.YtfdoloonllhodaaJElE
import Derived.Test.YtfdoloonllhodaaJElD
namespace Go.Proofs.Ytfdoloonllhodaa
open Go Go.RowKit

theorem put2 (x : Nat) (w : World) (hx : x < 9223372036854775808) :
    Calls Try.prog 12 #[.int .i64 2, .int .i64 (x : Int)] w fun e w' => (∃ v, e = .returned v ∧ RowB w' v (leB 2 x)) ∧ Below w.heap.size w w' := put_any 2 x w (by decide) hx
theorem ident_cells : (ident16.map by8).toArray = #[.int .u8 127, .int .u8 69, .int .u8 76, .int .u8 70, .int .u8 1, .int .u8 1, .int .u8 1, .int .u8 0, .int .u8 0, .int .u8 0, .int .u8 0, .int .u8 0, .int .u8 0, .int .u8 0, .int .u8 0, .int .u8 0] := by kernel_rfl
theorem zeros_cells : (zeros6.map by8).toArray = #[.int .u8 0, .int .u8 0, .int .u8 0, .int .u8 0, .int .u8 0, .int .u8 0] := by kernel_rfl
theorem rowB_zeros (w : World) : RowB (w.alloc (.cells #[.int .u8 0, .int .u8 0, .int .u8 0, .int .u8 0, .int .u8 0, .int .u8 0] 5)) (.slice (some ⟨w.heap.size, 0, none⟩) 6 6) zeros6 := by
  refine rowB_at (fr := (0, 0)) rfl ?_
  rw [zeros_cells]
  exact heap_alloc_new _ _
theorem forall12 {w : World} {v0 v1 v2 v3 v4 v5 v6 v7 v8 v9 v10 v11 : Value} {x0 x1 x2 x3 x4 x5 x6 x7 x8 x9 x10 x11 : List UInt8} (h0 : RowB w v0 x0) (h1 : RowB w v1 x1) (h2 : RowB w v2 x2) (h3 : RowB w v3 x3) (h4 : RowB w v4 x4) (h5 : RowB w v5 x5) (h6 : RowB w v6 x6) (h7 : RowB w v7 x7) (h8 : RowB w v8 x8) (h9 : RowB w v9 x9) (h10 : RowB w v10 x10) (h11 : RowB w v11 x11) : ∀ j, j < 12 → ∃ v, [v0, v1, v2, v3, v4, v5, v6, v7, v8, v9, v10, v11][j]? = some v ∧ RowB w v ([x0, x1, x2, x3, x4, x5, x6, x7, x8, x9, x10, x11].getD j []) := fun j hj => by
  rcases (show j = 0 ∨ j = 1 ∨ j = 2 ∨ j = 3 ∨ j = 4 ∨ j = 5 ∨ j = 6 ∨ j = 7 ∨ j = 8 ∨ j = 9 ∨ j = 10 ∨ j = 11 by omega) with rfl | rfl | rfl | rfl | rfl | rfl | rfl | rfl | rfl | rfl | rfl | rfl
  · exact ⟨v0, rfl, h0⟩
  · exact ⟨v1, rfl, h1⟩
  · exact ⟨v2, rfl, h2⟩
  · exact ⟨v3, rfl, h3⟩
  · exact ⟨v4, rfl, h4⟩
  · exact ⟨v5, rfl, h5⟩
  · exact ⟨v6, rfl, h6⟩
  · exact ⟨v7, rfl, h7⟩
  · exact ⟨v8, rfl, h8⟩
  · exact ⟨v9, rfl, h9⟩
  · exact ⟨v10, rfl, h10⟩
  · exact ⟨v11, rfl, h11⟩
theorem make6 (w : World) : (Instr.makeSlice 22 (.int .i64 6) (.int .i64 6)).run Try.prog w = .ok (.slice (some ⟨w.heap.size, 0, none⟩) 6 6) (w.alloc (.cells #[.int .u8 0, .int .u8 0, .int .u8 0, .int .u8 0, .int .u8 0, .int .u8 0] 5)) := by
  obtain ⟨i5, hi5, hz5, hs5, hb5⟩ := info_parts info5
  have h := run_makeSlice (P := Try.prog) (w := w) 22 5 i5 (.int .u8 0) Try.underlying22 hi5 hz5 .i64 .i64 6 6 (by decide) (by decide) (by rw [hs5]; decide) (by rw [hb5]; decide) (by decide)
  rw [hs5, show madeCells (Value.int .u8 0).cells (Int.toNat 6 * 1) = #[.int .u8 0, .int .u8 0, .int .u8 0, .int .u8 0, .int .u8 0, .int .u8 0] from by kernel_rfl] at h
  exact h
/-- what File keeps -/
structure FiO (w0 : World) (bss : List (List UInt8)) (vo : Value) (n : Nat) (wr : World) : Prop where
  bel : Below w0.heap.size w0 wr
  out : OutX wr w0.heap.size vo n bss
theorem FiO.after {w0 wr w' : World} {bss : List (List UInt8)} {vo : Value} {n : Nat} (h : FiO w0 bss vo n wr) (k : Below wr.heap.size wr w') : FiO w0 bss vo n w' := ⟨h.bel.trans (k.mono h.bel.size), h.out.after h.bel.size k⟩
theorem FiO.push {w0 wr w' : World} {bss css : List (List UInt8)} {vo v7 : Value} {n m : Nat} (h : FiO w0 bss vo n wr) (ho : OutX w' w0.heap.size v7 m css) (k : Kb w0.heap.size wr w') : FiO w0 css v7 m w' := ⟨h.bel.trans k.bel, ho⟩
theorem at_row' (b o n c j : Nat) (hj : (j : Int) < (n : Int)) (w : World) : (Instr.indexAt 53 (.slice (some ⟨b, o, none⟩) n c) (.int .i64 (j : Int))).run Try.prog w = .ok (.pointer (some ⟨b, o + j, none⟩)) w := by
  have h2 := Addr.add_mid b o j
  go_simp
theorem at_int8 (g j : Nat) (hj : (j : Int) < 8) (w : World) : (Instr.indexAt 55 (.slice (some ⟨g, 0, none⟩) 8 8) (.int .i64 (j : Int))).run Try.prog w = .ok (.pointer (some ⟨g, j, none⟩)) w := by
  have h2 := Addr.add_mid g 0 j
  go_simp
theorem x8_lit (h : Hd) (a l : Nat) (f : Nat) (hf : f = flN h.r) : (#[.int .i64 (h.k : Int), .int .i64 (a : Int), .int .i64 (h.d : Int), .int .i64 (h.d : Int), .int .i64 (l : Int), .int .i64 (h.m : Int), .int .i64 (f : Int), .int .i64 4] : Array Value) = tab 8 (intsV (xN h a l)) := by subst hf; kernel_rfl
/-- what may be a part of a file -/
structure Hd.Fit (h : Hd) : Prop where
  k : h.k < 4
  d : h.d < 4294967296
  m : h.m < 8589934592
  r : h.r ≤ 7
theorem xN_lt {h : Hd} (hf : h.Fit) {a l : Nat} (ha : a < 8589934592) (hl : l < 8589934592) (k : Nat) : xN h a l k < 9223372036854775808 := by
  obtain ⟨h1, h2, h3, h4⟩ := hf
  unfold xN flN
  split <;> omega
set_option maxRecDepth 100000 in
set_option maxHeartbeats 4000000 in
theorem rfile_any (en : Nat) (s t : Sl) (hs : List Hd) (bss : List (List UInt8)) (w : World) (hJ : SlJ w s hs) (hD : SlD w t bss) (hlen : hs.length = bss.length) (h9 : hs.length ≤ 9) (hfit : ∀ h ∈ hs, h.Fit) (hen : en < 4294967296) (hsz : bss.flatten.length ≤ 100000) :
    Calls Try.prog 13 #[.int .i64 (en : Int), s.v, t.v] w fun e w' => (∃ A n c, e = .returned (.slice A n c) ∧ RowB w' (.slice A n c) (fileN en hs bss) ∧ c < 9223372036854775808) ∧ Below w.heap.size w w' := by
  obtain ⟨Ah, n, ch, rfl⟩ := s.out
  obtain ⟨Ad, nn, cd, rfl⟩ := t.out
  have hnl : hs.length = n := hJ.1
  have hn2 : nn = n := by have := hD.1; have h2 : bss.length = nn := this; omega
  subst hn2
  have hbl : bss.length = nn := hD.1
  have h9' : nn ≤ 9 := by omega
  rw [show Sl.v ⟨Ah, nn, ch⟩ = .slice Ah nn ch from rfl, show Sl.v ⟨Ad, nn, cd⟩ = .slice Ad nn cd from rfl]
  have HJ := Lib.hid hJ
  have HD := Lib.hid hD
  have HFIT := Lib.hid hfit
  have HNL := Lib.hid hnl
  have HBL := Lib.hid hbl
  have HSZ := Lib.hid hsz
  clear hJ hD hfit hnl hbl hlen h9 hsz
  go_enter Try.func13, Try.ntmps13
  go_wp2_with fail
  have hz1 := Nat.le_refl w.heap.size
  refine region_simL [undef, undef, undef, undef, undef, .int .i64 (en : Int), undef, undef, undef, undef, undef, undef, .slice Ah nn ch, .int .i64 (nn : Int), undef, undef, undef, undef] [(0, fun x w' => ∃ b fr, x = .slice (some ⟨b, 0, none⟩) 16 16 ∧ w.heap.size ≤ b ∧ w'.heap[b]? = some (Obj.cells (ident16.map by8).toArray 5 fr)), (1, fun x w' => ∃ A_ n_ c_, x = .slice A_ n_ c_ ∧ RowB w' (.slice A_ n_ c_) (ident16)), (2, fun x w' => ∃ A_ n_ c_, x = .slice A_ n_ c_ ∧ RowB w' (.slice A_ n_ c_) (leB 2 3)), (3, fun x w' => ∃ A_ n_ c_, x = .slice A_ n_ c_ ∧ RowB w' (.slice A_ n_ c_) (leB 2 243)), (4, fun x w' => ∃ A_ n_ c_, x = .slice A_ n_ c_ ∧ RowB w' (.slice A_ n_ c_) (leB 4 1)), (6, fun x w' => ∃ A_ n_ c_, x = .slice A_ n_ c_ ∧ RowB w' (.slice A_ n_ c_) (leB 4 en)), (7, fun x w' => ∃ A_ n_ c_, x = .slice A_ n_ c_ ∧ RowB w' (.slice A_ n_ c_) (leB 4 52)), (8, fun x w' => ∃ A_ n_ c_, x = .slice A_ n_ c_ ∧ RowB w' (.slice A_ n_ c_) (leB 4 0)), (9, fun x w' => ∃ A_ n_ c_, x = .slice A_ n_ c_ ∧ RowB w' (.slice A_ n_ c_) (leB 4 0)), (10, fun x w' => ∃ A_ n_ c_, x = .slice A_ n_ c_ ∧ RowB w' (.slice A_ n_ c_) (leB 2 52)), (11, fun x w' => ∃ A_ n_ c_, x = .slice A_ n_ c_ ∧ RowB w' (.slice A_ n_ c_) (leB 2 32)), (14, fun x w' => ∃ A_ n_ c_, x = .slice A_ n_ c_ ∧ RowB w' (.slice A_ n_ c_) (leB 2 nn)), (15, fun x w' => ∃ A_ n_ c_, x = .slice A_ n_ c_ ∧ RowB w' (.slice A_ n_ c_) (zeros6)), (16, RowsF none w.heap.size 12 (hdL en nn)), (17, RowsF none w.heap.size 12 (hdL en nn))] [] [(0, fun w' w'' => Ka w.heap.size w' w''), (1, fun w' w'' => Ka w.heap.size w' w''), (2, fun w' w'' => Ka w.heap.size w' w''), (3, fun w' w'' => Ka w.heap.size w' w''), (4, fun w' w'' => Ka w.heap.size w' w''), (6, fun w' w'' => Ka w.heap.size w' w''), (7, fun w' w'' => Ka w.heap.size w' w''), (8, fun w' w'' => Ka w.heap.size w' w''), (9, fun w' w'' => Ka w.heap.size w' w''), (10, fun w' w'' => Ka w.heap.size w' w''), (11, fun w' w'' => Ka w.heap.size w' w''), (14, fun w' w'' => Ka w.heap.size w' w''), (15, fun w' w'' => Ka w.heap.size w' w''), (16, fun w' w'' => Ka w.heap.size w' w'')] (fun w' => Kb w.heap.size w w') 110 (by kernel_rfl) rfl (by kernel_rfl) ?_ ?_ ?_ ?_ ?_ (by decide) ?_
  · intro w' hb _
    exact ⟨Kb.of hb hz1, fun y h => by cases h⟩
  · simp only [List.forall_mem_cons, List.not_mem_nil, false_implies, implies_true, and_true]
    refine ⟨?_, ?_, ?_, ?_, ?_, ?_, ?_, ?_, ?_, ?_, ?_, ?_, ?_, ?_⟩ <;> exact fun w' w'' h hy => h.trans (Ka.kb hy)
  · intro y hy z hz _ _ x w' w'' _ h hT
    replace hT : Ka w.heap.size w' w'' := by
      simp only [List.mem_cons, List.not_mem_nil, or_false] at hz
      rcases hz with rfl | rfl | rfl | rfl | rfl | rfl | rfl | rfl | rfl | rfl | rfl | rfl | rfl | rfl <;> exact hT
    simp only [List.mem_cons, List.not_mem_nil, or_false] at hy
    rcases hy with rfl | rfl | rfl | rfl | rfl | rfl | rfl | rfl | rfl | rfl | rfl | rfl | rfl | rfl | rfl
    all_goals dsimp only at h ⊢
    · obtain ⟨b, fr, e, hB, hb⟩ := h
      obtain ⟨f2, h2, _⟩ := hT.blk b _ _ fr hb
      exact ⟨b, f2, e, hB, h2⟩
    · exact row_kept h hT.kb
    · exact row_kept h hT.kb
    · exact row_kept h hT.kb
    · exact row_kept h hT.kb
    · exact row_kept h hT.kb
    · exact row_kept h hT.kb
    · exact row_kept h hT.kb
    · exact row_kept h hT.kb
    · exact row_kept h hT.kb
    · exact row_kept h hT.kb
    · exact row_kept h hT.kb
    · exact row_kept h hT.kb
    · exact rowsF_kept h hT
    · exact rowsF_kept h hT
  · exact fun y h => by cases h
  · refine ⟨⟨?_, ?_⟩, ⟨?_, ?_⟩, ⟨?_, ?_⟩, ⟨?_, ?_⟩, ⟨?_, ?_⟩, ⟨?_, ?_⟩, ⟨?_, ?_⟩, ⟨?_, ?_⟩, ⟨?_, ?_⟩, ⟨?_, ?_⟩, ⟨?_, ?_⟩, ⟨?_, ?_⟩, ⟨?_, ?_⟩, ⟨?_, ?_⟩, ⟨?_, ?_⟩, ⟨?_, ?_⟩, ⟨?_, ?_⟩, ⟨?_, ?_⟩, trivial⟩
    · intro v w' AA hAA hg hf hl hgd K hK
      have hsz : w.heap.size ≤ w'.heap.size := Nat.le_trans hz1 hg.2.bel.size
      refine new_step (w'' := w'.alloc (.cells (ident16.map by8).toArray 5)) (.slice (some ⟨w'.heap.size, 0, none⟩) 16 16) (fun ρ hρ => by
          have hcst : ∀ x, ρ (.const x) = x := fun x => by rw [hρ]; rfl
          clear hρ hf hAA hl hK hg
          rw [ident_cells]
          go_simp
        ) (hK _ _ (Ka.alloc _ _ hsz) ⟨⟨_, _, rfl, hsz, heap_alloc_new _ _⟩, hg.2.trans (Ka.kb (Ka.alloc _ _ hsz))⟩)
    · trivial
    · intro v w' AA hAA hg hf hl hgd K hK
      obtain ⟨⟨b0, fr0, hv0, hB0, hh0⟩, _⟩ := hf ⟨0, .data⟩ (by simp) rfl
      have hsz : w.heap.size ≤ w'.heap.size := Nat.le_trans hz1 hg.2.bel.size
      refine new_step (w'' := w'.freeze ⟨b0, 16, none⟩ 1) (.slice (some ⟨b0, 0, none⟩) 16 16) (fun ρ hρ => by
          have e15 : ρ (.tmp 15) = .slice (some ⟨b0, 0, none⟩) 16 16 := by rw [hρ]; exact (hAA.1 0 _ 15 rfl rfl).trans hv0
          clear hρ hf hAA hl hK hg
          have hm : (convert 22 22 (.slice (some ⟨b0, 0, none⟩) 16 16)).run Try.prog w' = .ok (.slice (some ⟨b0, 0, none⟩) 16 16) (w'.freeze ⟨b0, 16, none⟩ 1) := run_mark w' b0 16 16 _ fr0 hh0
          go_simp
        ) (hK _ _ (ka_freeze hh0 hB0) ⟨⟨_, _, _, rfl, row_frozen rfl hh0 hB0⟩, hg.2.trans (Ka.kb (ka_freeze hh0 hB0))⟩)
    · trivial
    · intro v w' AA hAA hg hf hl hgd K hK
      have hsz : w.heap.size ≤ w'.heap.size := Nat.le_trans hz1 hg.2.bel.size
      refine call_step 12 #[.int .i64 2, .int .i64 3] (fun ρ hρ => by
        have hcst : ∀ x, ρ (.const x) = x := fun x => by rw [hρ]; rfl
        have hfun : ∀ f, ρ (.func f) = .func (.func f) #[] #[] := fun f => by rw [hρ]; rfl
        clear hρ hf hAA hl hK hg
        go_simp) ?_
      refine (put2 3 w' (by decide)).mono ?_
      rintro e w'' ⟨⟨x, rfl, hR⟩, hy⟩
      obtain ⟨A, n, c, rfl, hR2⟩ := hR.out
      exact ⟨_, rfl, hK _ _ (Ka.of hy hsz) ⟨⟨A, n, c, rfl, hR2⟩, hg.2.trans (Ka.of hy hsz).kb⟩⟩
    · trivial
    · intro v w' AA hAA hg hf hl hgd K hK
      have hsz : w.heap.size ≤ w'.heap.size := Nat.le_trans hz1 hg.2.bel.size
      refine call_step 12 #[.int .i64 2, .int .i64 243] (fun ρ hρ => by
        have hcst : ∀ x, ρ (.const x) = x := fun x => by rw [hρ]; rfl
        have hfun : ∀ f, ρ (.func f) = .func (.func f) #[] #[] := fun f => by rw [hρ]; rfl
        clear hρ hf hAA hl hK hg
        go_simp) ?_
      refine (put2 243 w' (by decide)).mono ?_
      rintro e w'' ⟨⟨x, rfl, hR⟩, hy⟩
      obtain ⟨A, n, c, rfl, hR2⟩ := hR.out
      exact ⟨_, rfl, hK _ _ (Ka.of hy hsz) ⟨⟨A, n, c, rfl, hR2⟩, hg.2.trans (Ka.of hy hsz).kb⟩⟩
    · trivial
    · intro v w' AA hAA hg hf hl hgd K hK
      have hsz : w.heap.size ≤ w'.heap.size := Nat.le_trans hz1 hg.2.bel.size
      refine call_step 12 #[.int .i64 4, .int .i64 1] (fun ρ hρ => by
        have hcst : ∀ x, ρ (.const x) = x := fun x => by rw [hρ]; rfl
        have hfun : ∀ f, ρ (.func f) = .func (.func f) #[] #[] := fun f => by rw [hρ]; rfl
        clear hρ hf hAA hl hK hg
        go_simp) ?_
      refine (put4 1 w' (by decide)).mono ?_
      rintro e w'' ⟨⟨x, rfl, hR⟩, hy⟩
      obtain ⟨A, n, c, rfl, hR2⟩ := hR.out
      exact ⟨_, rfl, hK _ _ (Ka.of hy hsz) ⟨⟨A, n, c, rfl, hR2⟩, hg.2.trans (Ka.of hy hsz).kb⟩⟩
    · trivial
    · intro v w' AA hAA hg hf hl hgd K hK
      exact pure_step (.int .i64 (en : Int)) (fun ρ hρ => by
        have e0 : ρ (.tmp 0) = .int .i64 (en : Int) := by rw [hρ]; exact hAA.2 0 (by simp)
        clear hρ hf hAA hl hK hg
        go_simp) (hK _ _ rfl ⟨rfl, hg.2⟩)
    · trivial
    · intro v w' AA hAA hg hf hl hgd K hK
      have hsz : w.heap.size ≤ w'.heap.size := Nat.le_trans hz1 hg.2.bel.size
      refine call_step 12 #[.int .i64 4, .int .i64 (en : Int)] (fun ρ hρ => by
        have hcst : ∀ x, ρ (.const x) = x := fun x => by rw [hρ]; rfl
        have hfun : ∀ f, ρ (.func f) = .func (.func f) #[] #[] := fun f => by rw [hρ]; rfl
        have e20 : ρ (.tmp 20) = .int .i64 (en : Int) := by rw [hρ]; exact (hAA.1 5 _ 20 rfl rfl).trans (hf ⟨5, .data⟩ (by simp) rfl).1
        clear hρ hf hAA hl hK hg
        go_simp) ?_
      refine (put4 en w' (by omega)).mono ?_
      rintro e w'' ⟨⟨x, rfl, hR⟩, hy⟩
      obtain ⟨A, n, c, rfl, hR2⟩ := hR.out
      exact ⟨_, rfl, hK _ _ (Ka.of hy hsz) ⟨⟨A, n, c, rfl, hR2⟩, hg.2.trans (Ka.of hy hsz).kb⟩⟩
    · trivial
    · intro v w' AA hAA hg hf hl hgd K hK
      have hsz : w.heap.size ≤ w'.heap.size := Nat.le_trans hz1 hg.2.bel.size
      refine call_step 12 #[.int .i64 4, .int .i64 52] (fun ρ hρ => by
        have hcst : ∀ x, ρ (.const x) = x := fun x => by rw [hρ]; rfl
        have hfun : ∀ f, ρ (.func f) = .func (.func f) #[] #[] := fun f => by rw [hρ]; rfl
        clear hρ hf hAA hl hK hg
        go_simp) ?_
      refine (put4 52 w' (by decide)).mono ?_
      rintro e w'' ⟨⟨x, rfl, hR⟩, hy⟩
      obtain ⟨A, n, c, rfl, hR2⟩ := hR.out
      exact ⟨_, rfl, hK _ _ (Ka.of hy hsz) ⟨⟨A, n, c, rfl, hR2⟩, hg.2.trans (Ka.of hy hsz).kb⟩⟩
    · trivial
    · intro v w' AA hAA hg hf hl hgd K hK
      have hsz : w.heap.size ≤ w'.heap.size := Nat.le_trans hz1 hg.2.bel.size
      refine call_step 12 #[.int .i64 4, .int .i64 0] (fun ρ hρ => by
        have hcst : ∀ x, ρ (.const x) = x := fun x => by rw [hρ]; rfl
        have hfun : ∀ f, ρ (.func f) = .func (.func f) #[] #[] := fun f => by rw [hρ]; rfl
        clear hρ hf hAA hl hK hg
        go_simp) ?_
      refine (put4 0 w' (by decide)).mono ?_
      rintro e w'' ⟨⟨x, rfl, hR⟩, hy⟩
      obtain ⟨A, n, c, rfl, hR2⟩ := hR.out
      exact ⟨_, rfl, hK _ _ (Ka.of hy hsz) ⟨⟨A, n, c, rfl, hR2⟩, hg.2.trans (Ka.of hy hsz).kb⟩⟩
    · trivial
    · intro v w' AA hAA hg hf hl hgd K hK
      have hsz : w.heap.size ≤ w'.heap.size := Nat.le_trans hz1 hg.2.bel.size
      refine call_step 12 #[.int .i64 4, .int .i64 0] (fun ρ hρ => by
        have hcst : ∀ x, ρ (.const x) = x := fun x => by rw [hρ]; rfl
        have hfun : ∀ f, ρ (.func f) = .func (.func f) #[] #[] := fun f => by rw [hρ]; rfl
        clear hρ hf hAA hl hK hg
        go_simp) ?_
      refine (put4 0 w' (by decide)).mono ?_
      rintro e w'' ⟨⟨x, rfl, hR⟩, hy⟩
      obtain ⟨A, n, c, rfl, hR2⟩ := hR.out
      exact ⟨_, rfl, hK _ _ (Ka.of hy hsz) ⟨⟨A, n, c, rfl, hR2⟩, hg.2.trans (Ka.of hy hsz).kb⟩⟩
    · trivial
    · intro v w' AA hAA hg hf hl hgd K hK
      have hsz : w.heap.size ≤ w'.heap.size := Nat.le_trans hz1 hg.2.bel.size
      refine call_step 12 #[.int .i64 2, .int .i64 52] (fun ρ hρ => by
        have hcst : ∀ x, ρ (.const x) = x := fun x => by rw [hρ]; rfl
        have hfun : ∀ f, ρ (.func f) = .func (.func f) #[] #[] := fun f => by rw [hρ]; rfl
        clear hρ hf hAA hl hK hg
        go_simp) ?_
      refine (put2 52 w' (by decide)).mono ?_
      rintro e w'' ⟨⟨x, rfl, hR⟩, hy⟩
      obtain ⟨A, n, c, rfl, hR2⟩ := hR.out
      exact ⟨_, rfl, hK _ _ (Ka.of hy hsz) ⟨⟨A, n, c, rfl, hR2⟩, hg.2.trans (Ka.of hy hsz).kb⟩⟩
    · trivial
    · intro v w' AA hAA hg hf hl hgd K hK
      have hsz : w.heap.size ≤ w'.heap.size := Nat.le_trans hz1 hg.2.bel.size
      refine call_step 12 #[.int .i64 2, .int .i64 32] (fun ρ hρ => by
        have hcst : ∀ x, ρ (.const x) = x := fun x => by rw [hρ]; rfl
        have hfun : ∀ f, ρ (.func f) = .func (.func f) #[] #[] := fun f => by rw [hρ]; rfl
        clear hρ hf hAA hl hK hg
        go_simp) ?_
      refine (put2 32 w' (by decide)).mono ?_
      rintro e w'' ⟨⟨x, rfl, hR⟩, hy⟩
      obtain ⟨A, n, c, rfl, hR2⟩ := hR.out
      exact ⟨_, rfl, hK _ _ (Ka.of hy hsz) ⟨⟨A, n, c, rfl, hR2⟩, hg.2.trans (Ka.of hy hsz).kb⟩⟩
    · trivial
    · intro v w' AA hAA hg hf hl hgd K hK
      exact pure_step (.slice Ah nn ch) (fun ρ hρ => by
        have e1 : ρ (.tmp 1) = .slice Ah nn ch := by rw [hρ]; exact hAA.2 1 (by simp)
        clear hρ hf hAA hl hK hg
        go_simp) (hK _ _ rfl ⟨rfl, hg.2⟩)
    · trivial
    · intro v w' AA hAA hg hf hl hgd K hK
      exact pure_step (.int .i64 (nn : Int)) (fun ρ hρ => by
        have e27 : ρ (.tmp 27) = .slice Ah nn ch := by rw [hρ]; exact (hAA.1 12 _ 27 rfl rfl).trans (hf ⟨12, .data⟩ (by simp) rfl).1
        clear hρ hf hAA hl hK hg
        go_simp) (hK _ _ rfl ⟨rfl, hg.2⟩)
    · trivial
    · intro v w' AA hAA hg hf hl hgd K hK
      have hsz : w.heap.size ≤ w'.heap.size := Nat.le_trans hz1 hg.2.bel.size
      refine call_step 12 #[.int .i64 2, .int .i64 (nn : Int)] (fun ρ hρ => by
        have hcst : ∀ x, ρ (.const x) = x := fun x => by rw [hρ]; rfl
        have hfun : ∀ f, ρ (.func f) = .func (.func f) #[] #[] := fun f => by rw [hρ]; rfl
        have e28 : ρ (.tmp 28) = .int .i64 (nn : Int) := by rw [hρ]; exact (hAA.1 13 _ 28 rfl rfl).trans (hf ⟨13, .data⟩ (by simp) rfl).1
        clear hρ hf hAA hl hK hg
        go_simp) ?_
      refine (put2 nn w' (by omega)).mono ?_
      rintro e w'' ⟨⟨x, rfl, hR⟩, hy⟩
      obtain ⟨A, n, c, rfl, hR2⟩ := hR.out
      exact ⟨_, rfl, hK _ _ (Ka.of hy hsz) ⟨⟨A, n, c, rfl, hR2⟩, hg.2.trans (Ka.of hy hsz).kb⟩⟩
    · trivial
    · intro v w' AA hAA hg hf hl hgd K hK
      have hsz : w.heap.size ≤ w'.heap.size := Nat.le_trans hz1 hg.2.bel.size
      refine new_step (w'' := w'.alloc (.cells #[.int .u8 0, .int .u8 0, .int .u8 0, .int .u8 0, .int .u8 0, .int .u8 0] 5)) (.slice (some ⟨w'.heap.size, 0, none⟩) 6 6) (fun ρ hρ => by
          have hcst : ∀ x, ρ (.const x) = x := fun x => by rw [hρ]; rfl
          clear hρ hf hAA hl hK hg
          have hm6 := make6 w'
          go_simp
        ) (hK _ _ (Ka.alloc _ _ hsz) ⟨⟨_, _, _, rfl, rowB_zeros _⟩, hg.2.trans (Ka.kb (Ka.alloc _ _ hsz))⟩)
    · trivial
    · intro v w' AA hAA hg hf hl hgd K hK
      obtain ⟨⟨A1, n1, c1, hv1, hR1⟩, _⟩ := hf ⟨1, .data⟩ (by simp) rfl
      obtain ⟨⟨A2, n2, c2, hv2, hR2⟩, _⟩ := hf ⟨2, .data⟩ (by simp) rfl
      obtain ⟨⟨A3, n3, c3, hv3, hR3⟩, _⟩ := hf ⟨3, .data⟩ (by simp) rfl
      obtain ⟨⟨A4, n4, c4, hv4, hR4⟩, _⟩ := hf ⟨4, .data⟩ (by simp) rfl
      obtain ⟨⟨A6, n6, c6, hv6, hR6⟩, _⟩ := hf ⟨6, .data⟩ (by simp) rfl
      obtain ⟨⟨A7, n7, c7, hv7, hR7⟩, _⟩ := hf ⟨7, .data⟩ (by simp) rfl
      obtain ⟨⟨A8, n8, c8, hv8, hR8⟩, _⟩ := hf ⟨8, .data⟩ (by simp) rfl
      obtain ⟨⟨A9, n9, c9, hv9, hR9⟩, _⟩ := hf ⟨9, .data⟩ (by simp) rfl
      obtain ⟨⟨A10, n10, c10, hv10, hR10⟩, _⟩ := hf ⟨10, .data⟩ (by simp) rfl
      obtain ⟨⟨A11, n11, c11, hv11, hR11⟩, _⟩ := hf ⟨11, .data⟩ (by simp) rfl
      obtain ⟨⟨A14, n14, c14, hv14, hR14⟩, _⟩ := hf ⟨14, .data⟩ (by simp) rfl
      obtain ⟨⟨A15, n15, c15, hv15, hR15⟩, _⟩ := hf ⟨15, .data⟩ (by simp) rfl
      have hsz : w.heap.size ≤ w'.heap.size := Nat.le_trans hz1 hg.2.bel.size
      refine new_step (w'' := w'.alloc (.cells #[.slice A1 n1 c1, .slice A2 n2 c2, .slice A3 n3 c3, .slice A4 n4 c4, .slice A6 n6 c6, .slice A7 n7 c7, .slice A8 n8 c8, .slice A9 n9 c9, .slice A10 n10 c10, .slice A11 n11 c11, .slice A14 n14 c14, .slice A15 n15 c15] 22)) (.slice (some ⟨w'.heap.size, 0, none⟩) 12 12) (fun ρ hρ => by
          have e16 : ρ (.tmp 16) = .slice A1 n1 c1 := by rw [hρ]; exact (hAA.1 1 _ 16 rfl rfl).trans hv1
          have e17 : ρ (.tmp 17) = .slice A2 n2 c2 := by rw [hρ]; exact (hAA.1 2 _ 17 rfl rfl).trans hv2
          have e18 : ρ (.tmp 18) = .slice A3 n3 c3 := by rw [hρ]; exact (hAA.1 3 _ 18 rfl rfl).trans hv3
          have e19 : ρ (.tmp 19) = .slice A4 n4 c4 := by rw [hρ]; exact (hAA.1 4 _ 19 rfl rfl).trans hv4
          have e21 : ρ (.tmp 21) = .slice A6 n6 c6 := by rw [hρ]; exact (hAA.1 6 _ 21 rfl rfl).trans hv6
          have e22 : ρ (.tmp 22) = .slice A7 n7 c7 := by rw [hρ]; exact (hAA.1 7 _ 22 rfl rfl).trans hv7
          have e23 : ρ (.tmp 23) = .slice A8 n8 c8 := by rw [hρ]; exact (hAA.1 8 _ 23 rfl rfl).trans hv8
          have e24 : ρ (.tmp 24) = .slice A9 n9 c9 := by rw [hρ]; exact (hAA.1 9 _ 24 rfl rfl).trans hv9
          have e25 : ρ (.tmp 25) = .slice A10 n10 c10 := by rw [hρ]; exact (hAA.1 10 _ 25 rfl rfl).trans hv10
          have e26 : ρ (.tmp 26) = .slice A11 n11 c11 := by rw [hρ]; exact (hAA.1 11 _ 26 rfl rfl).trans hv11
          have e29 : ρ (.tmp 29) = .slice A14 n14 c14 := by rw [hρ]; exact (hAA.1 14 _ 29 rfl rfl).trans hv14
          have e30 : ρ (.tmp 30) = .slice A15 n15 c15 := by rw [hρ]; exact (hAA.1 15 _ 30 rfl rfl).trans hv15
          clear hρ hf hAA hl hK hg
          go_simp
        ) (hK _ _ (Ka.alloc _ _ hsz) ⟨rowsF_new [.slice A1 n1 c1, .slice A2 n2 c2, .slice A3 n3 c3, .slice A4 n4 c4, .slice A6 n6 c6, .slice A7 n7 c7, .slice A8 n8 c8, .slice A9 n9 c9, .slice A10 n10 c10, .slice A11 n11 c11, .slice A14 n14 c14, .slice A15 n15 c15] rfl rfl hsz (forall12 hR1 hR2 hR3 hR4 hR6 hR7 hR8 hR9 hR10 hR11 hR14 hR15) (fun _ h => by cases h), hg.2.trans (Ka.kb (Ka.alloc _ _ hsz))⟩)
    · trivial
    · intro v w' AA hAA hg hf hl hgd K hK
      obtain ⟨⟨h16, us16, hv16, hF16⟩, _⟩ := hf ⟨16, .data⟩ (by simp) rfl
      exact pure_step (.slice (some ⟨h16, 0, none⟩) 12 12) (fun ρ hρ => by
          have e31 : ρ (.tmp 31) = .slice (some ⟨h16, 0, none⟩) 12 12 := by rw [hρ]; exact (hAA.1 16 _ 31 rfl rfl).trans hv16
          clear hρ hf hAA hl hK hg
          go_simp) (hK _ _ rfl ⟨⟨h16, us16, rfl, hF16⟩, hg.2⟩)
    · trivial
  intro v wE hIE hE
  obtain ⟨⟨b0, fr0, hv0, hB0, hh0⟩, _⟩ := hE 0 (by decide)
  obtain ⟨⟨A1, n1, c1, hv1, hR1⟩, _⟩ := hE 1 (by decide)
  obtain ⟨⟨A2, n2, c2, hv2, hR2⟩, _⟩ := hE 2 (by decide)
  obtain ⟨⟨A3, n3, c3, hv3, hR3⟩, _⟩ := hE 3 (by decide)
  obtain ⟨⟨A4, n4, c4, hv4, hR4⟩, _⟩ := hE 4 (by decide)
  have f5 : v 5 = .int .i64 (en : Int) := (hE 5 (by decide)).1
  obtain ⟨⟨A6, n6, c6, hv6, hR6⟩, _⟩ := hE 6 (by decide)
  obtain ⟨⟨A7, n7, c7, hv7, hR7⟩, _⟩ := hE 7 (by decide)
  obtain ⟨⟨A8, n8, c8, hv8, hR8⟩, _⟩ := hE 8 (by decide)
  obtain ⟨⟨A9, n9, c9, hv9, hR9⟩, _⟩ := hE 9 (by decide)
  obtain ⟨⟨A10, n10, c10, hv10, hR10⟩, _⟩ := hE 10 (by decide)
  obtain ⟨⟨A11, n11, c11, hv11, hR11⟩, _⟩ := hE 11 (by decide)
  have f12 : v 12 = .slice Ah nn ch := (hE 12 (by decide)).1
  have f13 : v 13 = .int .i64 (nn : Int) := (hE 13 (by decide)).1
  obtain ⟨⟨A14, n14, c14, hv14, hR14⟩, _⟩ := hE 14 (by decide)
  obtain ⟨⟨A15, n15, c15, hv15, hR15⟩, _⟩ := hE 15 (by decide)
  obtain ⟨⟨h16, us16, hv16, hF16⟩, _⟩ := hE 16 (by decide)
  obtain ⟨⟨h17, us17, hv17, hF17⟩, _⟩ := hE 17 (by decide)
  clear hE
  simp only [putAll, Act.put, List.setIfInBounds_toArray, List.set_cons_zero, List.set_cons_succ, Nat.zero_add, Nat.reduceAdd]
  rw [hv0, hv1, hv2, hv3, hv4, f5, hv6, hv7, hv8, hv9, hv10, hv11, f12, f13, hv14, hv15, hv16, hv17]
  clear f5 f12 f13
  have hO0 : FiO w (hdL en nn) (.slice (some ⟨h17, 0, none⟩) 12 12) 12 wE := ⟨hIE.bel, (rowsF_out hF17 (by decide)).x⟩
  clear hIE hv0 hv1 hv2 hv3 hv4 hv6 hv7 hv8 hv9 hv10 hv11 hv14 hv15 hv16 hv17 hB0 hh0 hR1 hR2 hR3 hR4 hR6 hR7 hR8 hR9 hR10 hR11 hR14 hR15 hF16 hF17 hz1
  generalize h17 = hh at *
  clear v
  have HO0 := Lib.hid hO0
  clear hO0
  go_wp2_with fail
  go_loopw [7, 8, 9] (fun vo va ct wr => ∃ i : Nat, i ≤ nn ∧ ct = .int .i64 (i : Int) ∧ va = .int .i64 ((atN bss nn i : Nat) : Int) ∧ FiO w (hdL en nn ++ phs hs bss i) vo (12 + 8 * i) wr) (fun _ _ ct _ => (nn - (intOf ct)).toNat)
  case atStart => exact ⟨0, Nat.zero_le _, rfl, congrArg (Value.int .i64) (by simp [atN]), by rw [show phs hs bss 0 = [] from rfl, List.append_nil]; exact HO0.out⟩
  case round =>
    clear HO0
    obtain ⟨i, hi, rfl, rfl, hO⟩ := hrel
    by_cases hlt : i < nn
    · have di : (i : Int) < (nn : Int) := by omega
      have hJ := HJ.out.below hO.bel
      have hD := HD.out.below hO.bel
      obtain ⟨b, o, hA2, hbl, _⟩ := HJ.out.2.2 (by show 0 < nn; omega)
      replace hA2 : Ah = some ⟨b, o, none⟩ := hA2
      subst hA2
      have hr := hJ.2.range rfl (j := i) hlt
      have ha1 := fun w => at_hr' b o nn ch i di w
      obtain ⟨b2, o2, hA3, hbl2, hcd⟩ := hD.2.2 (by show 0 < nn; omega)
      replace hA3 : Ad = some ⟨b2, o2, none⟩ := hA3
      subst hA3
      have ha2 := fun w => at_row' b2 o2 nn cd i di w
      obtain ⟨Ab, nb, cb, hdat, hSb, hAb⟩ := hcd i hlt
      have hmem : hs.getD i hd0 ∈ hs := by rw [List.getD_eq_getElem?_getD, List.getElem?_eq_getElem (by rw [HNL.out]; exact hlt)]; exact List.getElem_mem _
      have hft := HFIT.out _ hmem
      have hlb : (bss.getD i []).length = nb := hSb.1
      have hps := phs_succ hs bss i
      have hat := atN_succ bss nn i (by rw [HBL.out]; exact hlt)
      rw [HNL.out, hlb] at hps
      rw [hlb] at hat
      have hfl := flat_le bss i
      have hfl2 := flat_le bss (i + 1)
      rw [flat_take bss i (by rw [HBL.out]; exact hlt), List.length_append, hlb] at hfl2
      have hal : atN bss nn i < 1000000 := by have := HSZ.out; unfold atN; omega
      have hnb : nb ≤ 100000 := by have := HSZ.out; omega
      change wr.rangeAt b (o + i * 6) ((List.range 6).map (hdR (hs.getD i hd0))) at hr
      generalize hs.getD i hd0 = hd at *
      obtain ⟨at1, hat1⟩ : ∃ x, x = atN bss nn i := ⟨_, rfl⟩
      rw [← hat1] at hps hat hal ⊢
      have HPS := Lib.hid hps
      have HAT := Lib.hid hat
      have HAT1 := Lib.hid hat1
      have HFT := Lib.hid hft
      have HO := Lib.hid hO
      have hfk := hft.k
      have hfd := hft.d
      have hfm := hft.m
      have hfr := hft.r
      have hxl := fun k => xN_lt hft (a := at1) (l := nb) (by omega) (by omega) k
      have HXL := Lib.hid hxl
      have hws := hO.bel.size
      clear hJ hD hbl hcd hSb hAb hmem hft hlb hps hat hfl hfl2 hat1 hO hxl
      obtain ⟨q4, hq4⟩ : ∃ x, x = hd.r / 4 := ⟨_, rfl⟩
      obtain ⟨q2, hq2⟩ : ∃ x, x = hd.r / 2 := ⟨_, rfl⟩
      obtain ⟨m2, hm2⟩ : ∃ x, x = q2 % 2 := ⟨_, rfl⟩
      obtain ⟨m1, hm1⟩ : ∃ x, x = hd.r % 2 := ⟨_, rfl⟩
      have e1 : (hd.r : Int).tdiv 4 = (q4 : Int) := by rw [Int.tdiv_eq_ediv_of_nonneg (by omega)]; omega
      have e2 : (hd.r : Int).tdiv 2 = (q2 : Int) := by rw [Int.tdiv_eq_ediv_of_nonneg (by omega)]; omega
      have e3 : (q2 : Int).tmod 2 = (m2 : Int) := by rw [Int.tmod_eq_emod_of_nonneg (by omega)]; omega
      have e4 : (hd.r : Int).tmod 2 = (m1 : Int) := by rw [Int.tmod_eq_emod_of_nonneg (by omega)]; omega
      have HFL : Hid (q4 + m2 * 2 + m1 * 4 = flN hd.r) := Lib.hid (by rw [hq4, hm2, hq2, hm1]; rfl)
      have l1 : q4 < 2 := by omega
      have l2 : q2 < 4 := by omega
      have l3 : m2 < 2 := by omega
      have l4 : m1 < 2 := by omega
      clear hq4 hq2 hm2 hm1
      go_wp2_with (first
        | (refine wp_load_hr rfl _ rfl b (o + i * 6) rfl _ hr ?_)
        | (refine wp_fresh 50 6 _ _ _ _ rfl rfl rfl rfl zeroHR infoHR6 (by omega) (hdR_one _) rfl rfl ?_
           intro w1 hG hb1 hz1
           have hc5 : w1.cell? ⟨_, 5, none⟩ = some (.int .i64 (hd.r : Int)) := hG.cellTab 5 (by omega)))
      have hdat1 := (hb1.cell (p := ⟨b2, o2 + i, none⟩) hbl2).trans hdat
      have hbl3 : b2 < w1.heap.size := Nat.lt_of_lt_of_le hbl2 hb1.size
      have HO1 := Lib.hid (HO.out.after hb1)
      clear hr ha1 hdat hbl2 HO e1 e2 e3 e4 hc5 hb1 hz1 hws
      generalize wr.heap.size = gg at *
      obtain ⟨fl, hfl⟩ : ∃ x, x = q4 + m2 * 2 + m1 * 4 := ⟨_, rfl⟩
      have hfe : ((q4 : Int) + (m2 : Int) * 2 + (m1 : Int) * 4) = (fl : Int) := by omega
      rw [hfe]
      have HFE : Hid (fl = flN hd.r) := Lib.hid (hfl.trans HFL.out)
      clear hfl hfe HFL l1 l2 l3 l4
      refine region_quiet_tail (Below w1.heap.size w1) 15 (by kernel_rfl) (by kernel_rfl) (below_drewN (Below.refl _ _) 1) ?_
      simp only [List.take_succ_cons, List.take_zero, List.drop_succ_cons, List.drop_zero]
      refine WQ.out ?_
      refine WQ.lift (wpQ_val rfl (.pointer (some ⟨gg, 0, none⟩)) (fun w' _ => by go_simp)) ?_
      simp only [Act.put, List.setIfInBounds_toArray, List.set_cons_zero, List.set_cons_succ]
      refine WQ.lift (wpQ_load 3 (.tmp 60) rfl rfl (.pointer (some ⟨gg, 0, none⟩)) rfl (.int .i64 (hd.k : Int)) (fun w' hC => by
          have hcell : w'.cell? ⟨gg, 0, none⟩ = some (.int .i64 (hd.k : Int)) := (hG.after hC).cellTab 0 (by omega)
          go_simp)) ?_
      simp only [Act.put, List.setIfInBounds_toArray, List.set_cons_zero, List.set_cons_succ]
      refine WQ.lift (wpQ_move _ rfl rfl (.int .i64 (at1 : Int)) rfl) ?_
      simp only [Act.put, List.setIfInBounds_toArray, List.set_cons_zero, List.set_cons_succ]
      refine WQ.lift (wpQ_val rfl (.pointer (some ⟨gg, 2, none⟩)) (fun w' _ => by go_simp)) ?_
      simp only [Act.put, List.setIfInBounds_toArray, List.set_cons_zero, List.set_cons_succ]
      refine WQ.lift (wpQ_load 3 (.tmp 63) rfl rfl (.pointer (some ⟨gg, 2, none⟩)) rfl (.int .i64 (hd.d : Int)) (fun w' hC => by
          have hcell : w'.cell? ⟨gg, 2, none⟩ = some (.int .i64 (hd.d : Int)) := (hG.after hC).cellTab 2 (by omega)
          go_simp)) ?_
      simp only [Act.put, List.setIfInBounds_toArray, List.set_cons_zero, List.set_cons_succ]
      refine WQ.lift (wpQ_val rfl (.pointer (some ⟨gg, 2, none⟩)) (fun w' _ => by go_simp)) ?_
      simp only [Act.put, List.setIfInBounds_toArray, List.set_cons_zero, List.set_cons_succ]
      refine WQ.lift (wpQ_load 3 (.tmp 65) rfl rfl (.pointer (some ⟨gg, 2, none⟩)) rfl (.int .i64 (hd.d : Int)) (fun w' hC => by
          have hcell : w'.cell? ⟨gg, 2, none⟩ = some (.int .i64 (hd.d : Int)) := (hG.after hC).cellTab 2 (by omega)
          go_simp)) ?_
      simp only [Act.put, List.setIfInBounds_toArray, List.set_cons_zero, List.set_cons_succ]
      refine WQ.lift (wpQ_move _ rfl rfl (.slice (some ⟨b2, o2, none⟩) nn cd) rfl) ?_
      simp only [Act.put, List.setIfInBounds_toArray, List.set_cons_zero, List.set_cons_succ]
      refine WQ.lift (wpQ_move _ rfl rfl (.int .i64 (i : Int)) rfl) ?_
      simp only [Act.put, List.setIfInBounds_toArray, List.set_cons_zero, List.set_cons_succ]
      refine WQ.lift (wpQ_val rfl (.pointer (some ⟨b2, o2 + i, none⟩)) (fun w' _ => by go_simp)) ?_
      simp only [Act.put, List.setIfInBounds_toArray, List.set_cons_zero, List.set_cons_succ]
      refine WQ.lift (wpQ_load 22 (.tmp 69) rfl rfl (.pointer (some ⟨b2, o2 + i, none⟩)) rfl (.slice Ab nb cb) (fun w' hC => by
          have hcell : w'.cell? ⟨b2, o2 + i, none⟩ = some (.slice Ab nb cb) := (hC.cell (p := ⟨b2, o2 + i, none⟩) hbl3).trans hdat1
          go_simp)) ?_
      simp only [Act.put, List.setIfInBounds_toArray, List.set_cons_zero, List.set_cons_succ]
      refine WQ.lift (wpQ_val rfl (.int .i64 (nb : Int)) (fun w' _ => by go_simp)) ?_
      simp only [Act.put, List.setIfInBounds_toArray, List.set_cons_zero, List.set_cons_succ]
      refine WQ.lift (wpQ_val rfl (.pointer (some ⟨gg, 4, none⟩)) (fun w' _ => by go_simp)) ?_
      simp only [Act.put, List.setIfInBounds_toArray, List.set_cons_zero, List.set_cons_succ]
      refine WQ.lift (wpQ_load 3 (.tmp 72) rfl rfl (.pointer (some ⟨gg, 4, none⟩)) rfl (.int .i64 (hd.m : Int)) (fun w' hC => by
          have hcell : w'.cell? ⟨gg, 4, none⟩ = some (.int .i64 (hd.m : Int)) := (hG.after hC).cellTab 4 (by omega)
          go_simp)) ?_
      simp only [Act.put, List.setIfInBounds_toArray, List.set_cons_zero, List.set_cons_succ]
      refine WQ.lift (wpQ_move _ rfl rfl (.int .i64 (fl : Int)) rfl) ?_
      simp only [Act.put, List.setIfInBounds_toArray, List.set_cons_zero, List.set_cons_succ]
      refine WQ.mk (wpQuiet_nil ?_)
      intro wz hC
      have HO2 := Lib.hid (HO1.out.after hC)
      have hws2 := (HO1.out.after hC).bel.size
      have hdat2 := (hC.cell (p := ⟨b2, o2 + i, none⟩) hbl3).trans hdat1
      have hbl4 : b2 < wz.heap.size := Nat.lt_of_lt_of_le hbl3 hC.size
      clear hC hG hdat1 hbl3 HO1
      go_wp2_with fail
      have hX : Has (wz.alloc (.cells #[.int .i64 (hd.k : Int), .int .i64 (at1 : Int), .int .i64 (hd.d : Int), .int .i64 (hd.d : Int), .int .i64 (nb : Int), .int .i64 (hd.m : Int), .int .i64 (fl : Int), .int .i64 4] 3)) wz.heap.size 3 (tab 8 (intsV (xN hd at1 nb))) := by
        rw [← x8_lit hd at1 nb fl HFE.out]
        exact Has.new _ _ _
      have hbz : Below wz.heap.size wz (wz.alloc (.cells #[.int .i64 (hd.k : Int), .int .i64 (at1 : Int), .int .i64 (hd.d : Int), .int .i64 (hd.d : Int), .int .i64 (nb : Int), .int .i64 (hd.m : Int), .int .i64 (fl : Int), .int .i64 4] 3)) := (Below.refl _ _).alloc (Nat.le_refl _) _
      have hO3 := HO2.out.after hbz
      generalize wz.alloc (.cells #[.int .i64 (hd.k : Int), .int .i64 (at1 : Int), .int .i64 (hd.d : Int), .int .i64 (hd.d : Int), .int .i64 (nb : Int), .int .i64 (hd.m : Int), .int .i64 (fl : Int), .int .i64 4] 3) = y0 at *
      have hws3 := hO3.bel.size
      obtain ⟨gx, hgx⟩ : ∃ x, x = wz.heap.size := ⟨_, rfl⟩
      rw [← hgx] at hX ⊢
      have HI : Hid (Has y0 gx 3 (tab 8 (intsV (xN hd at1 nb))) ∧ FiO w (hdL en nn ++ phs hs bss i ++ (phL hd at1 nb).take 0) u7 (12 + 8 * i + 0) y0) := Lib.hid ⟨hX, by rw [List.take_zero, List.append_nil]; exact hO3⟩
      clear hX hbz hO3 HO2 hdat2 hbl4 hgx hws2 hws3
      go_loopw [7, 13] (fun vo ct wy => ∃ k : Nat, k ≤ 8 ∧ ct = .int .i64 (k : Int) ∧ Has wy gx 3 (tab 8 (intsV (xN hd at1 nb))) ∧ FiO w (hdL en nn ++ phs hs bss i ++ (phL hd at1 nb).take k) vo (12 + 8 * i + k) wy) (fun _ ct _ => (8 - (intOf ct)).toNat)
      case atStart => exact ⟨0, Nat.zero_le _, rfl, HI.out⟩
      case round =>
        obtain ⟨k, hk, rfl, hX, hO⟩ := hrel
        clear HI
        by_cases hk8 : k < 8
        · have dk : (k : Int) < 8 := by omega
          have hx := hX.cellTab k hk8
          rw [show intsV (xN hd at1 nb) k = .int .i64 (xN hd at1 nb k : Int) from rfl] at hx
          have hax := fun w => at_int8 gx k dk w
          have hxk := HXL.out k
          have htk := phL_take hd at1 nb k hk8
          obtain ⟨x, hxx⟩ : ∃ x, x = xN hd at1 nb k := ⟨_, rfl⟩
          rw [← hxx] at hx hxk htk
          have HTK := Lib.hid htk
          have HX := Lib.hid hX
          have HO := Lib.hid hO
          have hws := hO.bel.size
          clear hxx htk hX hO
          go_wp2_with (first
            | (refine (put4 x wr hxk).mono ?_
               rintro e z1 ⟨⟨xv, rfl, hR⟩, hb1⟩
               obtain ⟨A', n', c', rfl, hR2⟩ := hR.out
               have HO1 := Lib.hid (HO.out.after hb1)
               have hz1 := (HO.out.after hb1).bel.size
               have HX1 := Lib.hid (HX.out.after hb1)
               have HR2 := Lib.hid hR2
               clear hR hR2 hb1)
            | (refine wp_append_row rfl _ _ rfl w.heap.size _ (12 + 8 * i + k) _ rfl (HO1.out.after ((Below.refl _ _).alloc (Nat.le_refl _) _)).out z1.heap.size rfl (.slice A' n' c') (leB 4 x) (Has.new _ _ _) (HR2.out.x.keep (Kb.of ((Below.refl _ _).alloc (Nat.le_refl _) _) hz1)) (by omega) (by simp; omega) ?_
               intro v7 w7 hO7 hkb7))
          go_roundw
          case rel =>
            have hb2 : Below z1.heap.size z1 (z1.alloc (.cells #[.slice A' n' c'] 22)) := (Below.refl _ _).alloc (Nat.le_refl _) _
            refine ⟨k + 1, hk8, by go_num, hkb7.has (HX1.out.after hb2) (by decide) (by decide), ?_⟩
            rw [HTK.out, ← List.append_assoc]
            exact (HO1.out.after hb2).push hO7 hkb7
          case measure => simp [intOf] <;> omega
        · obtain rfl : k = 8 := by omega
          rw [List.take_of_length_le (by rw [phL_len]; exact Nat.le_refl _), List.append_assoc, ← HPS.out] at hO
          have hD := HD.out.below hO.bel
          obtain ⟨b3, o3, hA4, hbl5, hcd⟩ := hD.2.2 (by show 0 < nn; omega)
          obtain ⟨rfl, rfl⟩ : b2 = b3 ∧ o2 = o3 := by
            have : (some ⟨b2, o2, none⟩ : Option Addr) = some ⟨b3, o3, none⟩ := hA4
            injection this with this
            injection this with e1 e2 _
            exact ⟨e1, e2⟩
          obtain ⟨Ab2, nb2, cb2, hdat, hSb, _⟩ := hcd i hlt
          have hnb2 : nb2 = nb := by
            have h1 := hSb.1
            have h2 := HAT.out
            have h3 := atN_succ bss nn i (by rw [HBL.out]; exact hlt)
            have h4 := HAT1.out
            omega
          subst hnb2
          have HO := Lib.hid hO
          clear hD hcd hSb hO hA4 hX
          go_wp2_with fail
          go_roundw
          case rel => exact ⟨i + 1, hlt, by go_num, congrArg (Value.int .i64) (by rw [HAT.out]; go_num), HO.out⟩
          case measure => simp [intOf] <;> omega
    · obtain rfl : i = nn := by omega
      have HO := Lib.hid hO
      clear hO
      go_wp2_with fail
      go_loopw [7, 14] (fun vo ct wr => ∃ j : Nat, j ≤ i ∧ ct = .int .i64 (j : Int) ∧ FiO w (hdL en i ++ phs hs bss i ++ bss.take j) vo (12 + 8 * i + j) wr) (fun _ ct _ => (i - (intOf ct)).toNat)
      case atStart => exact ⟨0, Nat.zero_le _, rfl, by rw [List.take_zero, List.append_nil]; exact HO.out⟩
      case round =>
        obtain ⟨j, hj, rfl, hO⟩ := hrel
        clear HO
        by_cases hlj : j < i
        · have dj : (j : Int) < (i : Int) := by omega
          have hD := HD.out.below hO.bel
          obtain ⟨b2, o2, hA3, hbl2, hcd⟩ := hD.2.2 (by show 0 < i; omega)
          replace hA3 : Ad = some ⟨b2, o2, none⟩ := hA3
          subst hA3
          have ha2 := fun w => at_row' b2 o2 i cd j dj w
          obtain ⟨Ab, nb, cb, hdat, hSb, hAb⟩ := hcd j hlj
          obtain ⟨b4, o4, hA4, hbl4, hcd0⟩ := HD.out.2.2 (by show 0 < i; omega)
          obtain ⟨rfl, rfl⟩ : b2 = b4 ∧ o2 = o4 := by
            have : (some ⟨b2, o2, none⟩ : Option Addr) = some ⟨b4, o4, none⟩ := hA4
            injection this with this
            injection this with e1 e2 _
            exact ⟨e1, e2⟩
          obtain ⟨Ab0, nb0, cb0, hdat0, hSb0, hAb0⟩ := hcd0 j hlj
          have hcc := (hO.bel.cell (p := ⟨b2, o2 + j, none⟩) hbl4).trans hdat0
          rw [hdat] at hcc
          injection hcc with hcc
          injection hcc with e1 e2 e3
          subst e1 e2 e3
          have hrx := (slA_x hSb0 hAb0).keep (Kb.of hO.bel (Nat.le_refl _))
          have htk := take_one bss [] j (by rw [HBL.out]; exact hlj)
          have HTK := Lib.hid htk
          have HRX := Lib.hid hrx
          have HO := Lib.hid hO
          have hws := hO.bel.size
          clear hD hcd hcd0 hSb hAb hSb0 hAb0 hdat0 hrx htk hO hA4
          go_wp2_with (first
            | (refine wp_append_row rfl _ _ rfl w.heap.size _ (12 + 8 * i + j) _ rfl (HO.out.after ((Below.refl _ _).alloc (Nat.le_refl _) _)).out wr.heap.size rfl (.slice Ab nb cb) (bss.getD j []) (Has.new _ _ _) (HRX.out.keep (Kb.of ((Below.refl _ _).alloc (Nat.le_refl _) _) hws)) (by omega) (by simp; omega) ?_
               intro v7 w7 hO7 hkb7))
          go_roundw
          case rel =>
            have hb2 : Below wr.heap.size wr (wr.alloc (.cells #[.slice Ab nb cb] 22)) := (Below.refl _ _).alloc (Nat.le_refl _) _
            refine ⟨j + 1, hlj, by go_num, ?_⟩
            rw [HTK.out, ← List.append_assoc]
            exact (HO.out.after hb2).push hO7 hkb7
          case measure => simp [intOf] <;> omega
        · obtain rfl : j = i := by omega
          obtain ⟨vs, _, hown, _⟩ := hO.out
          obtain ⟨Av, cv, rfl⟩ := own_form hown
          have hsl := hO.out.slD (by omega)
          have hfl : (hdL en j ++ phs hs bss j ++ bss.take j).flatten.length ≤ 1000000 := by
            have := HSZ.out
            have h2 := flat_le bss j
            rw [List.flatten_append, List.flatten_append, List.length_append, List.length_append, hdL_flat, phs_flat]
            omega
          have HSL := Lib.hid hsl
          have HFL := Lib.hid hfl
          have hb := hO.bel
          clear hsl hfl hown hO
          go_wp2_with (refine (join_x ⟨Av, 12 + 8 * j + j, cv⟩ _ _ HSL.out HFL.out).mono ?_; rintro e w9 ⟨⟨Ax, nx, cx, rfl, hR, hcx⟩, hb9⟩)
          go_ret
          exact ⟨⟨Ax, nx, cx, rfl, by unfold fileN fileL; rw [HNL.out, HBL.out]; exact hR, hcx⟩, hb.trans (hb9.mono hb.size)⟩
end Go.Proofs.Ytfdoloonllhodaa
