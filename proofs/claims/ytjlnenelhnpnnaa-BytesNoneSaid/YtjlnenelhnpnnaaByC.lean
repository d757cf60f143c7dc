/-
Layer 6: BytesReads.
-/
import Derived.Test.YtjlnenelhnpnnaaR6D
import Derived.Test.YtjlnenelhnpnnaaSim
import Derived.Deep.CutBlock
import Derived.Deep.DeepCutAuto
import Derived.Laws.BytesArg
namespace Go.Proofs.Ytjlnenelhnpnnaa
open Go Go.RowKit

/-- the slice value reads as the integers zs -/
def SlI (w : World) (A : Option Addr) (n c : Nat) (zs : List Int) : Prop :=
  zs.length = n ∧ n ≤ c ∧ (0 < n → ∃ b o, A = some ⟨b, o, none⟩ ∧ b < w.heap.size ∧ ∀ j, j < n → w.cell? ⟨b, o + j, none⟩ = some (.int .i64 (zs.getD j 0)))
theorem SlI.below {w w' : World} {A : Option Addr} {n c : Nat} {bs : List Int} (h : SlI w A n c bs) (hb : Below w.heap.size w w') : SlI w' A n c bs := by
  refine ⟨h.1, h.2.1, fun hn => ?_⟩
  obtain ⟨b, o, rfl, hlt, hc⟩ := h.2.2 hn
  exact ⟨b, o, rfl, Nat.lt_of_lt_of_le hlt hb.size, fun j hj => (hb.cell (p := ⟨b, o + j, none⟩) hlt).trans (hc j hj)⟩
/-- the string of the bytes -/
def strB (bs : List UInt8) : ByteArray := strOfNums (bs.map fun b => (b.toNat : Int))
theorem str_conv {w : World} {A : Option Addr} {n c : Nat} {bs : List UInt8} (h : SlA w A n c bs) : (convert 22 9 (.slice A n c)).run Try.prog w = .ok (.string (strB bs)) w := by
  obtain ⟨hl, _, h2⟩ := h
  rcases Nat.eq_zero_or_pos n with h0 | h0
  · subst h0
    obtain rfl : bs = [] := List.eq_nil_of_length_eq_zero hl
    rw [run_convert_bytes_string w 22 9 5 A 0 c Try.underlying22 Try.underlying5 Try.underlying9]
    cases A <;> simp [Conv.bytesToString, loadCells]
    all_goals rfl
  · obtain ⟨b, o, rfl, _, hc⟩ := h2 h0
    refine run_convert_bytes_arg w 22 5 Try.underlying22 Try.underlying5 b o n c _ (by simp [hl]) (fun i hi => ?_) 9 Try.underlying9
    rw [hc i hi]
    simp [by8, List.getD_eq_getElem?_getD, show i < bs.length by omega]
theorem has_same {w w' : World} {m : Nat} {t : TypeId} {cs : Array Value} (h : Has w m t cs) (hs : w'.heap[m]? = w.heap[m]?) : Has w' m t cs := hs.trans h
theorem tkN_lt4 (bs : List UInt8) (p : Nat) (bad : Bool) : ((tkN bs p bad 4 : Nat) : Int) < 4294967296 := by
  unfold tkN
  split
  · have := leT_lt (bsN_lt bs) 4 p
    omega
  · decide
section
variable {Is : World → Nat → Nat → Nat → List UInt8 → Nat → Bool → Prop}
set_option maxRecDepth 100000 in
set_option maxHeartbeats 2000000 in
theorem reads6_ok (H : BytesOK Is) (bs : List UInt8) (A : Option Addr) (n c : Nat) (ks : List Int) (KA : Option Addr) (kn kc : Nat) (w0 : World) (hS0 : SlA w0 A n c bs) (hA : A = none → c = 0) (hc : c < 9223372036854775808) (hK0 : SlI w0 KA kn kc ks) (_hkc : kc < 9223372036854775808) :
    Calls Try.prog 3 #[.slice A n c, .slice KA kn kc] w0 fun e w' => e = .returned (.bool true) ∧ Below w0.heap.size w0 w' := by
  have hb0 := Below.refl w0.heap.size w0
  have hnc := hS0.2.1
  have hkn := hK0.2.1
  by_cases h500 : 500 < n
  · have hd : decide ((500 : Int) < (n : Int)) = true := decide_eq_true (by omega)
    go_enter Try.func3, Try.ntmps3
    go_wp2_with fail
    refine (fit6_any H _).mono ?_
    rintro e u1 ⟨rfl, hy⟩
    replace hb0 := below_trans hb0 hy
    clear hy
    go_wp2_with fail
    go_ret
    exact ⟨rfl, hb0⟩
  by_cases h200 : 200 < kn
  · have hd : decide ((500 : Int) < (n : Int)) = false := decide_eq_false (by omega)
    have hd : decide ((200 : Int) < (kn : Int)) = true := decide_eq_true (by omega)
    go_enter Try.func3, Try.ntmps3
    go_wp2_with fail
    refine (fit6_any H _).mono ?_
    rintro e u1 ⟨rfl, hy⟩
    replace hb0 := below_trans hb0 hy
    clear hy
    go_wp2_with fail
    go_ret
    exact ⟨rfl, hb0⟩
  have hd : decide ((500 : Int) < (n : Int)) = false := decide_eq_false (by omega)
  have hd2 : decide ((200 : Int) < (kn : Int)) = false := decide_eq_false (by omega)
  go_enter Try.func3, Try.ntmps3
  go_wp2_with fail
  refine (fit6_any H _).mono ?_
  rintro e u1 ⟨rfl, hy⟩
  replace hb0 := below_trans hb0 hy
  clear hy
  go_wp2_with fail
  clear hd hd2
  refine (H.at_ok bs A n c _ w0.heap.size (hS0.below hb0) hA hb0.size (by have := hS0.1; omega)).mono ?_
  rintro e u2 ⟨⟨g, rfl, hI⟩, hy⟩
  replace hI := hI u2.heap.size (Nat.le_refl _)
  replace hb0 := below_trans hb0 hy
  clear hy
  go_wp2_with fail
  have hG := Has.new u2 29 #[.slice A n c, .int .i64 0, .bool false]
  have e0 : (#[.slice A n c, .int .i64 0, .bool false] : Array Value) = curC A n c 0 false := rfl
  rw [e0] at hG
  rw [e0]
  have hb1 := (Below.refl u2.heap.size u2).alloc (Nat.le_refl _) (.cells (curC A n c 0 false) 29)
  replace hI := H.keep hI (only_below hb1 (some u2.heap.size))
  have hm0 : w0.heap.size ≤ u2.heap.size := hb0.size
  replace hb0 := below_trans hb0 hb1
  clear hb1 e0
  generalize u2.alloc (.cells (curC A n c 0 false) 29) = U at *
  generalize u2.heap.size = m at *
  have hne : ∀ b o, A = some ⟨b, o, none⟩ → 0 < n → m ≠ b := fun b o h hn => by
    obtain ⟨b', o', e, hlt, _⟩ := hS0.2.2 hn
    rw [h] at e
    injection e with e
    injection e with e1 e2
    omega
  go_loopw [8, 9, 27] (fun _ _ i wr => ∃ (j p : Nat) (bad : Bool), i = .int .i64 (j : Int) ∧ j ≤ kn ∧ p ≤ bs.length ∧ Is wr w0.heap.size m g bs p bad ∧ Has wr m 29 (curC A n c p bad) ∧ Below w0.heap.size w0 wr) (fun _ _ i _ => kn - (intOf i).toNat)
  case atStart => exact ⟨0, 0, false, rfl, Nat.zero_le _, Nat.zero_le _, hI, hG, hb0⟩
  case round =>
    clear hI hG hb0
    obtain ⟨j, p, bad, rfl, hj, hp, hI, hG, hb0⟩ := hrel
    have hpn : p ≤ n := by rw [← hS0.1]; exact hp
    by_cases hlt : j < kn
    · obtain ⟨kb, ko, rfl, hkb, hcell⟩ := (hK0.below hb0).2.2 (by omega)
      have hcj := hcell j hlt
      clear hcell
      generalize ks.getD j 0 = k at *
      obtain ⟨r, hr, hr4⟩ : ∃ r : Int, bits .and .i64 k 3 = r ∧ (r = 0 ∨ r = 1 ∨ r = 2 ∨ r = 3) := ⟨_, rfl, by rw [i64_and3]; omega⟩
      have hlt' : (j : Int) < (kn : Int) := by omega
      go_upto_block 2 with fail
      clear hcj hr hlt'
      go_cut [9] from 33 to 84 (fun ok wx => ok = .bool true ∧ ∃ (p : Nat) (bad : Bool), p ≤ bs.length ∧ Is wx w0.heap.size m g bs p bad ∧ Has wx m 29 (curC A n c p bad) ∧ Below w0.heap.size w0 wx)
      case first =>
        rcases hr4 with rfl | rfl | rfl | rfl
        · go_wp2_with fail
          refine (H.u8_ok bs p bad wr w0.heap.size m g hI hp).mono ?_
          rintro e u3 ⟨rfl, hI3, hy⟩
          replace hG := has_same hG hy.same
          replace hb0 := hb0.trans hy.below
          clear hy hI
          go_wp2_with fail
          refine (rnum_any bs A n c p 1 bad m u3 hG (hS0.below hb0) hA hne (by omega) hc (by decide) (by decide)).mono ?_
          rintro e u4 ⟨rfl, hG4, hy⟩
          replace hI3 := H.keep hI3 hy
          replace hb0 := below_only hb0 hy hm0 hb0.size
          clear hy hG
          go_wp2_with fail
          go_meet
          exact ⟨rfl, _, _, tkP_le bad _ hp, hI3, hG4, hb0⟩
        · go_wp2_with fail
          refine (H.u16_ok bs p bad wr w0.heap.size m g hI hp).mono ?_
          rintro e u3 ⟨rfl, hI3, hy⟩
          replace hG := has_same hG hy.same
          replace hb0 := hb0.trans hy.below
          clear hy hI
          go_wp2_with fail
          refine (rnum_any bs A n c p 2 bad m u3 hG (hS0.below hb0) hA hne (by omega) hc (by decide) (by decide)).mono ?_
          rintro e u4 ⟨rfl, hG4, hy⟩
          replace hI3 := H.keep hI3 hy
          replace hb0 := below_only hb0 hy hm0 hb0.size
          clear hy hG
          go_wp2_with fail
          go_meet
          exact ⟨rfl, _, _, tkP_le bad _ hp, hI3, hG4, hb0⟩
        · have hx4 : ((tkN bs p bad 4 : Nat) : Int) < 4294967296 := tkN_lt4 bs p bad
          go_wp2_with fail
          refine (H.u32_ok bs p bad wr w0.heap.size m g hI hp).mono ?_
          rintro e u3 ⟨rfl, hI3, hy⟩
          replace hG := has_same hG hy.same
          replace hb0 := hb0.trans hy.below
          clear hy hI
          go_wp2_with fail
          refine (rnum_any bs A n c p 4 bad m u3 hG (hS0.below hb0) hA hne (by omega) hc (by decide) (by decide)).mono ?_
          rintro e u4 ⟨rfl, hG4, hy⟩
          replace hI3 := H.keep hI3 hy
          replace hb0 := below_only hb0 hy hm0 hb0.size
          clear hy hG
          go_wp2_with fail
          go_meet
          exact ⟨rfl, _, _, tkP_le bad _ hp, hI3, hG4, hb0⟩
        · obtain ⟨q, hq⟩ : ∃ q : Int, k / 4 = q := ⟨_, rfl⟩
          go_wp2_with fail
          refine region_simL [curAt g, .int .i64 k, .int .i64 q, undef, .string (strB (tkB bs p bad q)), .pointer (some ⟨m, 0, none⟩), .int .i64 k, .int .i64 q, undef, .string (strB (tkB bs p bad q)), .bool true, .bool true] [(3, fun x w => ∃ A1 n1 c1, x = .slice A1 n1 c1 ∧ SlA w A1 n1 c1 (tkB bs p bad q) ∧ (∀ b o, A1 = some ⟨b, o, none⟩ → 0 < n1 → m ≠ b) ∧ Is w w0.heap.size m g bs (tkP bs.length p bad q) (!okT bs.length p bad q)), (8, fun x w => ∃ A2 n2 c2, x = .slice A2 n2 c2 ∧ SlA w A2 n2 c2 (tkB bs p bad q) ∧ Has w m 29 (curC A n c (tkP bs.length p bad q) (!okT bs.length p bad q)))] [(3, fun w => Is w w0.heap.size m g bs p bad), (8, fun w => Has w m 29 (curC A n c p bad))] [(3, fun w w' => Kp w0.heap.size m w w'), (8, fun w w' => w.grownBy w' (some m))] (fun w => Below w0.heap.size w0 w) 85 (by kernel_rfl) rfl (by kernel_rfl) ?_ ?_ ?_ ?_ ?_ (by decide) ?_
          · intro w' hb he
            have hbw := hb
            refine ⟨hb0.trans (hb.mono hb0.size), ?_⟩
            simp only [List.forall_mem_cons, List.not_mem_nil, false_implies, implies_true, and_true]
            exact ⟨H.keep hI (only_below hb _), hG.after hb⟩
          · simp only [List.forall_mem_cons, List.not_mem_nil, false_implies, implies_true, and_true]
            exact ⟨fun w' w'' h hy => h.trans hy.below, fun w' w'' h hy => below_only h hy hm0 h.size⟩
          · simp only [List.forall_mem_cons, List.not_mem_nil, false_implies, implies_true, and_true]
            refine ⟨⟨fun h => absurd rfl h, fun _ _ x w' w'' hb ⟨A1, n1, c1, e, h1, h2, h3⟩ hy => ⟨A1, n1, c1, e, h1.grown hy (fun b o hA' hn' he => h2 b o hA' hn' (by injection he)), h2, H.keep h3 hy⟩⟩, ⟨fun _ h => absurd h (by decide +kernel), fun h => absurd rfl h⟩⟩
          · simp only [List.forall_mem_cons, List.not_mem_nil, false_implies, implies_true, and_true]
            refine ⟨⟨fun h => absurd rfl h, fun _ h => absurd h (by decide +kernel)⟩, ⟨fun _ _ w' w'' hb h hy => has_same h hy.same, fun h => absurd rfl h⟩⟩
          · refine ⟨⟨?_, ?_⟩, ⟨?_, ?_⟩, ⟨?_, ?_⟩, ⟨?_, ?_⟩, ⟨?_, ?_⟩, ⟨?_, ?_⟩, ⟨?_, ?_⟩, ⟨?_, ?_⟩, ⟨?_, ?_⟩, ⟨?_, ?_⟩, ⟨?_, ?_⟩, ⟨?_, ?_⟩, trivial⟩
            · intro v w' AA hAA hg hf hl hgd K hK
              exact pure_step (curAt g) (fun ρ hρ => by
                have e5 : ρ (.tmp 5) = curAt g := by rw [hρ]; exact hAA.2 5 (by simp)
                clear hρ hf hAA hl hK hg
                go_simp) (hK _ _ rfl ⟨rfl, hg.2⟩)
            · trivial
            · intro v w' AA hAA hg hf hl hgd K hK
              exact pure_step (.int .i64 k) (fun ρ hρ => by
                have e8 : ρ (.tmp 8) = .int .i64 k := by rw [hρ]; exact hAA.2 8 (by simp)
                clear hρ hf hAA hl hK hg
                go_simp) (hK _ _ rfl ⟨rfl, hg.2⟩)
            · trivial
            · intro v w' AA hAA hg hf hl hgd K hK
              exact pure_step (.int .i64 q) (fun ρ hρ => by
                have hcst : ∀ x, ρ (.const x) = x := fun x => by rw [hρ]; rfl
                have e34 : ρ (.tmp 34) = .int .i64 k := by rw [hρ]; exact (hAA.1 1 _ 34 rfl rfl).trans (hf ⟨1, .data⟩ (by simp) rfl).1
                clear hρ hf hAA hl hK hg
                go_simp) (hK _ _ rfl ⟨rfl, hg.2⟩)
            · trivial
            · intro v w' AA hAA hg hf hl hgd K hK
              refine call_step 13 #[curAt g, .int .i64 q] (fun ρ hρ => by
                have hfun : ∀ f, ρ (.func f) = .func (.func f) #[] #[] := fun f => by rw [hρ]; rfl
                have e33 : ρ (.tmp 33) = curAt g := by rw [hρ]; exact (hAA.1 0 _ 33 rfl rfl).trans (hf ⟨0, .data⟩ (by simp) rfl).1
                have e35 : ρ (.tmp 35) = .int .i64 q := by rw [hρ]; exact (hAA.1 2 _ 35 rfl rfl).trans (hf ⟨2, .data⟩ (by simp) rfl).1
                clear hρ hf hAA hl hK hg
                go_simp) ?_
              refine (H.take_ok bs p bad q w' w0.heap.size m g hg.1 hp).mono ?_
              rintro e w'' ⟨⟨A1, n1, c1, rfl, hS1, hne1⟩, hI1, hy⟩
              exact ⟨_, rfl, hK _ _ hy ⟨⟨A1, n1, c1, rfl, hS1, hne1, hI1⟩, hg.2.trans hy.below⟩⟩
            · trivial
            · intro v w' AA hAA hg hf hl hgd K hK
              exact pure_step (.string (strB (tkB bs p bad q))) (fun ρ hρ => by
                obtain ⟨⟨A1, n1, c1, hv3, hS1, hne1, hI1⟩, _⟩ := hf ⟨3, .data⟩ (by simp) rfl
                have e36 : ρ (.tmp 36) = .slice A1 n1 c1 := by rw [hρ]; exact (hAA.1 3 _ 36 rfl rfl).trans hv3
                clear hρ hf hAA hl hK hg
                have hcv := str_conv hS1
                go_simp) (hK _ _ rfl ⟨rfl, hg.2⟩)
            · trivial
            · intro v w' AA hAA hg hf hl hgd K hK
              exact pure_step (.pointer (some ⟨m, 0, none⟩)) (fun ρ hρ => by
                have e6 : ρ (.tmp 6) = .pointer (some ⟨m, 0, none⟩) := by rw [hρ]; exact hAA.2 6 (by simp)
                clear hρ hf hAA hl hK hg
                go_simp) (hK _ _ rfl ⟨rfl, hg.2⟩)
            · trivial
            · intro v w' AA hAA hg hf hl hgd K hK
              exact pure_step (.int .i64 k) (fun ρ hρ => by
                have e8 : ρ (.tmp 8) = .int .i64 k := by rw [hρ]; exact hAA.2 8 (by simp)
                clear hρ hf hAA hl hK hg
                go_simp) (hK _ _ rfl ⟨rfl, hg.2⟩)
            · trivial
            · intro v w' AA hAA hg hf hl hgd K hK
              exact pure_step (.int .i64 q) (fun ρ hρ => by
                have hcst : ∀ x, ρ (.const x) = x := fun x => by rw [hρ]; rfl
                have e39 : ρ (.tmp 39) = .int .i64 k := by rw [hρ]; exact (hAA.1 6 _ 39 rfl rfl).trans (hf ⟨6, .data⟩ (by simp) rfl).1
                clear hρ hf hAA hl hK hg
                go_simp) (hK _ _ rfl ⟨rfl, hg.2⟩)
            · trivial
            · intro v w' AA hAA hg hf hl hgd K hK
              refine call_step 14 #[.pointer (some ⟨m, 0, none⟩), .int .i64 q] (fun ρ hρ => by
                have hfun : ∀ f, ρ (.func f) = .func (.func f) #[] #[] := fun f => by rw [hρ]; rfl
                have e38 : ρ (.tmp 38) = .pointer (some ⟨m, 0, none⟩) := by rw [hρ]; exact (hAA.1 5 _ 38 rfl rfl).trans (hf ⟨5, .data⟩ (by simp) rfl).1
                have e40 : ρ (.tmp 40) = .int .i64 q := by rw [hρ]; exact (hAA.1 7 _ 40 rfl rfl).trans (hf ⟨7, .data⟩ (by simp) rfl).1
                clear hρ hf hAA hl hK hg
                go_simp) ?_
              refine (rtake_any bs A n c p bad q m w' hg.1 (hS0.below hg.2) hA hne (by omega) hc).mono ?_
              rintro e w'' ⟨⟨A2, n2, c2, rfl, hS2, hne2⟩, hG2, hy⟩
              exact ⟨_, rfl, hK _ _ hy ⟨⟨A2, n2, c2, rfl, hS2, hG2⟩, below_only hg.2 hy hm0 hg.2.size⟩⟩
            · trivial
            · intro v w' AA hAA hg hf hl hgd K hK
              exact pure_step (.string (strB (tkB bs p bad q))) (fun ρ hρ => by
                obtain ⟨⟨A2, n2, c2, hv8, hS2, hG2⟩, _⟩ := hf ⟨8, .data⟩ (by simp) rfl
                have e41 : ρ (.tmp 41) = .slice A2 n2 c2 := by rw [hρ]; exact (hAA.1 8 _ 41 rfl rfl).trans hv8
                clear hρ hf hAA hl hK hg
                have hcv := str_conv hS2
                go_simp) (hK _ _ rfl ⟨rfl, hg.2⟩)
            · trivial
            · intro v w' AA hAA hg hf hl hgd K hK
              exact pure_step (.bool true) (fun ρ hρ => by
                have e37 : ρ (.tmp 37) = .string (strB (tkB bs p bad q)) := by rw [hρ]; exact (hAA.1 4 _ 37 rfl rfl).trans (hf ⟨4, .data⟩ (by simp) rfl).1
                have e42 : ρ (.tmp 42) = .string (strB (tkB bs p bad q)) := by rw [hρ]; exact (hAA.1 9 _ 42 rfl rfl).trans (hf ⟨9, .data⟩ (by simp) rfl).1
                clear hρ hf hAA hl hK hg
                go_simp) (hK _ _ rfl ⟨rfl, hg.2⟩)
            · trivial
            · intro v w' AA hAA hg hf hl hgd K hK
              exact pure_step (.bool true) (fun ρ hρ => by
                have e43 : ρ (.tmp 43) = .bool true := by rw [hρ]; exact (hAA.1 10 _ 43 rfl rfl).trans (hf ⟨10, .data⟩ (by simp) rfl).1
                clear hρ hf hAA hl hK hg
                go_simp) (hK _ _ rfl ⟨rfl, hg.2⟩)
            · trivial
          intro v wE hIE hE
          have f0 : v 0 = curAt g := (hE 0 (by decide)).1
          have f1 : v 1 = .int .i64 k := (hE 1 (by decide)).1
          have f2 : v 2 = .int .i64 q := (hE 2 (by decide)).1
          obtain ⟨⟨A1, n1, c1, hv3, hS1, hne1, hI1⟩, _⟩ := hE 3 (by decide)
          have f4 : v 4 = .string (strB (tkB bs p bad q)) := (hE 4 (by decide)).1
          have f5 : v 5 = .pointer (some ⟨m, 0, none⟩) := (hE 5 (by decide)).1
          have f6 : v 6 = .int .i64 k := (hE 6 (by decide)).1
          have f7 : v 7 = .int .i64 q := (hE 7 (by decide)).1
          obtain ⟨⟨A2, n2, c2, hv8, hS2, hG2⟩, _⟩ := hE 8 (by decide)
          have f9 : v 9 = .string (strB (tkB bs p bad q)) := (hE 9 (by decide)).1
          have f10 : v 10 = .bool true := (hE 10 (by decide)).1
          have f11 : v 11 = .bool true := (hE 11 (by decide)).1
          clear hE
          simp only [putAll, Act.put, List.setIfInBounds_toArray, List.set_cons_zero, List.set_cons_succ, Nat.zero_add, Nat.reduceAdd]
          rw [f0, f1, f2, hv3, f4, f5, f6, f7, hv8, f9, f10, f11]
          clear f0 f1 f2 f4 f5 f6 f7 f9 f10 f11
          go_wp2_with fail
          go_meet
          exact ⟨rfl, _, _, tkP_le bad _ hp, hI1, hG2, hIE⟩
      case rest =>
        clear hI hG hb0 hp hpn
        obtain ⟨rfl, p, bad, hp, hI, hG, hb0⟩ := hcut
        have hbl : bs.length = n := hS0.1
        go_wp2_with fail
        refine region_simL [.bool true, .bool false, .bool false, curAt g, .bool bad, .pointer (some ⟨m, 0, none⟩), .pointer (some ⟨m, 0, none⟩), .pointer (some ⟨m, 2, none⟩), .bool bad, .bool false, .bool false, .bool false, curAt g, .bool (!bad && decide (p = n)), .pointer (some ⟨m, 0, none⟩), .bool (!bad && decide (p = n)), .bool false, .bool false] [] [] [(4, fun w w' => Below w.heap.size w w'), (13, fun w w' => Below w.heap.size w w'), (15, fun w w' => Below w.heap.size w w')] (fun w => Is w w0.heap.size m g bs p bad ∧ Has w m 29 (curC A n c p bad) ∧ Below w0.heap.size w0 w) 85 (by kernel_rfl) rfl (by kernel_rfl) ?_ ?_ ?_ ?_ ?_ (by decide) ?_
        · intro w' hb he
          exact ⟨⟨H.keep hI (only_below hb _), hG.after hb, hb0.trans (hb.mono hb0.size)⟩, fun y h => by cases h⟩
        · simp only [List.forall_mem_cons, List.not_mem_nil, false_implies, implies_true, and_true]
          refine ⟨?_, ?_, ?_⟩ <;> exact fun w' w'' h hy => ⟨H.keep h.1 (only_below hy _), h.2.1.after hy, below_trans h.2.2 hy⟩
        · exact fun y h => by cases h
        · exact fun y h => by cases h
        · refine ⟨⟨?_, ?_⟩, ⟨?_, ?_⟩, ⟨?_, ?_⟩, ⟨?_, ?_⟩, ⟨?_, ?_⟩, ⟨?_, ?_⟩, ⟨?_, ?_⟩, ⟨?_, ?_⟩, ⟨?_, ?_⟩, ⟨?_, ?_⟩, ⟨?_, ?_⟩, ⟨?_, ?_⟩, ⟨?_, ?_⟩, ⟨?_, ?_⟩, ⟨?_, ?_⟩, ⟨?_, ?_⟩, ⟨?_, ?_⟩, ⟨?_, ?_⟩, trivial⟩
          · intro v w' AA hAA hg hf hl hgd K hK
            exact pure_step (.bool true) (fun ρ hρ => by
              have e9 : ρ (.tmp 9) = .bool true := by rw [hρ]; exact hAA.2 9 (by simp)
              clear hρ hf hAA hl hK hg
              go_simp) (hK _ _ rfl ⟨rfl, hg.2⟩)
          · trivial
          · intro v w' AA hAA hg hf hl hgd K hK
            exact pure_step (.bool false) (fun ρ hρ => by
              have e66 : ρ (.tmp 66) = .bool true := by rw [hρ]; exact (hAA.1 0 _ 66 rfl rfl).trans (hf ⟨0, .data⟩ (by simp) rfl).1
              clear hρ hf hAA hl hK hg
              go_simp) (hK _ _ rfl ⟨rfl, hg.2⟩)
          · trivial
          · intro v w' AA hAA hg hf hl hgd K hK
            exact pure_step (.bool false) (fun ρ hρ => by
              have e67 : ρ (.tmp 67) = .bool false := by rw [hρ]; exact (hAA.1 1 _ 67 rfl rfl).trans (hf ⟨1, .data⟩ (by simp) rfl).1
              clear hρ hf hAA hl hK hg
              go_simp) (hK _ _ rfl ⟨rfl, hg.2⟩)
          · trivial
          · intro v w' AA hAA hg hf hl hgd K hK
            exact pure_step (curAt g) (fun ρ hρ => by
              have e5 : ρ (.tmp 5) = curAt g := by rw [hρ]; exact hAA.2 5 (by simp)
              clear hρ hf hAA hl hK hg
              go_simp) (hK _ _ rfl ⟨rfl, hg.2⟩)
          · intro v w' hF hne
            exact absurd (by rw [hF.1]; rfl) hne
          · intro v w' AA hAA hg hf hl hgd K hK
            refine call_step 15 #[curAt g] (fun ρ hρ => by
              have hfun : ∀ f, ρ (.func f) = .func (.func f) #[] #[] := fun f => by rw [hρ]; rfl
              have e69 : ρ (.tmp 69) = curAt g := by rw [hρ]; exact (hAA.1 3 _ 69 rfl rfl).trans (hf ⟨3, .data⟩ (by simp) rfl).1
              clear hρ hf hAA hl hK hg
              go_simp) ?_
            refine (H.bad_ok bs p bad w' w0.heap.size m g hg.2.1 hp).mono ?_
            rintro e w'' ⟨rfl, hy⟩
            exact ⟨_, rfl, hK _ _ hy ⟨rfl, H.keep hg.2.1 (only_below hy _), hg.2.2.1.after hy, below_trans hg.2.2.2 hy⟩⟩
          · intro v w' hF hne
            exact absurd (by rw [hF.1]; rfl) hne
          · intro v w' AA hAA hg hf hl hgd K hK
            exact pure_step (.pointer (some ⟨m, 0, none⟩)) (fun ρ hρ => by
              have e6 : ρ (.tmp 6) = .pointer (some ⟨m, 0, none⟩) := by rw [hρ]; exact hAA.2 6 (by simp)
              clear hρ hf hAA hl hK hg
              go_simp) (hK _ _ rfl ⟨rfl, hg.2⟩)
          · intro v w' hF hne
            exact absurd (by rw [hF.1]; rfl) hne
          · intro v w' AA hAA hg hf hl hgd K hK
            exact pure_step (.pointer (some ⟨m, 0, none⟩)) (fun ρ hρ => by
              have e71 : ρ (.tmp 71) = .pointer (some ⟨m, 0, none⟩) := by rw [hρ]; exact (hAA.1 5 _ 71 rfl rfl).trans (hf ⟨5, .data⟩ (by simp) rfl).1
              clear hρ hf hAA hl hK hg
              go_simp) (hK _ _ rfl ⟨rfl, hg.2⟩)
          · intro v w' hF hne
            exact absurd (by rw [hF.1]; rfl) hne
          · intro v w' AA hAA hg hf hl hgd K hK
            exact pure_step (.pointer (some ⟨m, 2, none⟩)) (fun ρ hρ => by
              have e72 : ρ (.tmp 72) = .pointer (some ⟨m, 0, none⟩) := by rw [hρ]; exact (hAA.1 6 _ 72 rfl rfl).trans (hf ⟨6, .data⟩ (by simp) rfl).1
              clear hρ hf hAA hl hK hg
              go_simp) (hK _ _ rfl ⟨rfl, hg.2⟩)
          · intro v w' hF hne
            exact absurd (by rw [hF.1]; rfl) hne
          · intro v w' AA hAA hg hf hl hgd K hK
            have hcell := (show w'.cell? ⟨m, 2, none⟩ = some (.bool bad) from hg.2.2.1.cellTab 2 (by omega))
            exact pure_step (.bool bad) (fun ρ hρ => by
              have e73 : ρ (.tmp 73) = .pointer (some ⟨m, 2, none⟩) := by rw [hρ]; exact (hAA.1 7 _ 73 rfl rfl).trans (hf ⟨7, .data⟩ (by simp) rfl).1
              clear hρ hf hAA hl hK hg
              go_simp) (hK _ _ rfl ⟨rfl, hg.2⟩)
          · intro v w' hF hne
            exact absurd (by rw [hF.1]; rfl) hne
          · intro v w' AA hAA hg hf hl hgd K hK
            exact pure_step (.bool false) (fun ρ hρ => by
              have e70 : ρ (.tmp 70) = .bool bad := by rw [hρ]; exact (hAA.1 4 _ 70 rfl rfl).trans (hf ⟨4, .data⟩ (by simp) rfl).1
              have e74 : ρ (.tmp 74) = .bool bad := by rw [hρ]; exact (hAA.1 8 _ 74 rfl rfl).trans (hf ⟨8, .data⟩ (by simp) rfl).1
              clear hρ hf hAA hl hK hg
              go_simp) (hK _ _ rfl ⟨rfl, hg.2⟩)
          · intro v w' hF hne
            exact absurd (by rw [hF.1]; rfl) hne
          · intro v w' AA hAA hg hf hl hgd K hK
            exact pure_step (.bool false) (fun ρ hρ => by
              have hcst : ∀ x, ρ (.const x) = x := fun x => by rw [hρ]; rfl
              have e68 : ρ (.tmp 68) = .bool false := by rw [hρ]; exact (hAA.1 2 _ 68 rfl rfl).trans (hf ⟨2, .data⟩ (by simp) rfl).1
              have e75 : ρ (.tmp 75) = .bool false := by rw [hρ]; exact (hAA.1 9 _ 75 rfl rfl).trans (hf ⟨9, .data⟩ (by simp) rfl).1
              clear hρ hf hAA hl hK hg
              go_simp) (hK _ _ rfl ⟨rfl, hg.2⟩)
          · trivial
          · intro v w' AA hAA hg hf hl hgd K hK
            exact pure_step (.bool false) (fun ρ hρ => by
              have e76 : ρ (.tmp 76) = .bool false := by rw [hρ]; exact (hAA.1 10 _ 76 rfl rfl).trans (hf ⟨10, .data⟩ (by simp) rfl).1
              clear hρ hf hAA hl hK hg
              go_simp) (hK _ _ rfl ⟨rfl, hg.2⟩)
          · trivial
          · intro v w' AA hAA hg hf hl hgd K hK
            exact pure_step (curAt g) (fun ρ hρ => by
              have e5 : ρ (.tmp 5) = curAt g := by rw [hρ]; exact hAA.2 5 (by simp)
              clear hρ hf hAA hl hK hg
              go_simp) (hK _ _ rfl ⟨rfl, hg.2⟩)
          · intro v w' hF hne
            exact absurd (by rw [hF.1]; rfl) hne
          · intro v w' AA hAA hg hf hl hgd K hK
            refine call_step 16 #[curAt g] (fun ρ hρ => by
              have hfun : ∀ f, ρ (.func f) = .func (.func f) #[] #[] := fun f => by rw [hρ]; rfl
              have e78 : ρ (.tmp 78) = curAt g := by rw [hρ]; exact (hAA.1 12 _ 78 rfl rfl).trans (hf ⟨12, .data⟩ (by simp) rfl).1
              clear hρ hf hAA hl hK hg
              go_simp) ?_
            refine (H.end_ok bs p bad w' w0.heap.size m g hg.2.1 hp).mono ?_
            rintro e w'' ⟨rfl, hy⟩
            rw [hbl]
            exact ⟨_, rfl, hK _ _ hy ⟨rfl, H.keep hg.2.1 (only_below hy _), hg.2.2.1.after hy, below_trans hg.2.2.2 hy⟩⟩
          · intro v w' hF hne
            exact absurd (by rw [hF.1]; rfl) hne
          · intro v w' AA hAA hg hf hl hgd K hK
            exact pure_step (.pointer (some ⟨m, 0, none⟩)) (fun ρ hρ => by
              have e6 : ρ (.tmp 6) = .pointer (some ⟨m, 0, none⟩) := by rw [hρ]; exact hAA.2 6 (by simp)
              clear hρ hf hAA hl hK hg
              go_simp) (hK _ _ rfl ⟨rfl, hg.2⟩)
          · intro v w' hF hne
            exact absurd (by rw [hF.1]; rfl) hne
          · intro v w' AA hAA hg hf hl hgd K hK
            refine call_step 17 #[.pointer (some ⟨m, 0, none⟩)] (fun ρ hρ => by
              have hfun : ∀ f, ρ (.func f) = .func (.func f) #[] #[] := fun f => by rw [hρ]; rfl
              have e80 : ρ (.tmp 80) = .pointer (some ⟨m, 0, none⟩) := by rw [hρ]; exact (hAA.1 14 _ 80 rfl rfl).trans (hf ⟨14, .data⟩ (by simp) rfl).1
              clear hρ hf hAA hl hK hg
              go_simp) ?_
            refine (rend_any A n c p bad m w' hg.2.2.1).mono ?_
            rintro e w'' ⟨rfl, hy⟩
            exact ⟨_, rfl, hK _ _ hy ⟨rfl, H.keep hg.2.1 (only_below hy _), hg.2.2.1.after hy, below_trans hg.2.2.2 hy⟩⟩
          · intro v w' hF hne
            exact absurd (by rw [hF.1]; rfl) hne
          · intro v w' AA hAA hg hf hl hgd K hK
            exact pure_step (.bool false) (fun ρ hρ => by
              have e79 : ρ (.tmp 79) = .bool (!bad && decide (p = n)) := by rw [hρ]; exact (hAA.1 13 _ 79 rfl rfl).trans (hf ⟨13, .data⟩ (by simp) rfl).1
              have e81 : ρ (.tmp 81) = .bool (!bad && decide (p = n)) := by rw [hρ]; exact (hAA.1 15 _ 81 rfl rfl).trans (hf ⟨15, .data⟩ (by simp) rfl).1
              clear hρ hf hAA hl hK hg
              go_simp) (hK _ _ rfl ⟨rfl, hg.2⟩)
          · intro v w' hF hne
            exact absurd (by rw [hF.1]; rfl) hne
          · intro v w' AA hAA hg hf hl hgd K hK
            exact pure_step (.bool false) (fun ρ hρ => by
              have hcst : ∀ x, ρ (.const x) = x := fun x => by rw [hρ]; rfl
              have e77 : ρ (.tmp 77) = .bool false := by rw [hρ]; exact (hAA.1 11 _ 77 rfl rfl).trans (hf ⟨11, .data⟩ (by simp) rfl).1
              have e82 : ρ (.tmp 82) = .bool false := by rw [hρ]; exact (hAA.1 16 _ 82 rfl rfl).trans (hf ⟨16, .data⟩ (by simp) rfl).1
              clear hρ hf hAA hl hK hg
              go_simp) (hK _ _ rfl ⟨rfl, hg.2⟩)
          · trivial
        intro v wE hIE hE
        have f0 : v 0 = .bool true := (hE 0 (by decide)).1
        have f1 : v 1 = .bool false := (hE 1 (by decide)).1
        have f2 : v 2 = .bool false := (hE 2 (by decide)).1
        have f3 : v 3 = curAt g := (hE 3 (by decide)).1
        have f4 : v 4 = .bool bad := (hE 4 (by decide)).1
        have f5 : v 5 = .pointer (some ⟨m, 0, none⟩) := (hE 5 (by decide)).1
        have f6 : v 6 = .pointer (some ⟨m, 0, none⟩) := (hE 6 (by decide)).1
        have f7 : v 7 = .pointer (some ⟨m, 2, none⟩) := (hE 7 (by decide)).1
        have f8 : v 8 = .bool bad := (hE 8 (by decide)).1
        have f9 : v 9 = .bool false := (hE 9 (by decide)).1
        have f10 : v 10 = .bool false := (hE 10 (by decide)).1
        have f11 : v 11 = .bool false := (hE 11 (by decide)).1
        have f12 : v 12 = curAt g := (hE 12 (by decide)).1
        have f13 : v 13 = .bool (!bad && decide (p = n)) := (hE 13 (by decide)).1
        have f14 : v 14 = .pointer (some ⟨m, 0, none⟩) := (hE 14 (by decide)).1
        have f15 : v 15 = .bool (!bad && decide (p = n)) := (hE 15 (by decide)).1
        have f16 : v 16 = .bool false := (hE 16 (by decide)).1
        have f17 : v 17 = .bool false := (hE 17 (by decide)).1
        clear hE
        simp only [putAll, Act.put, List.setIfInBounds_toArray, List.set_cons_zero, List.set_cons_succ, Nat.zero_add, Nat.reduceAdd]
        rw [f0, f1, f2, f3, f4, f5, f6, f7, f8, f9, f10, f11, f12, f13, f14, f15, f16, f17]
        clear f0 f1 f2 f3 f4 f5 f6 f7 f8 f9 f10 f11 f12 f13 f14 f15 f16 f17
        go_wp2_with fail
        go_roundw
        case rel => exact ⟨j + 1, p, bad, by go_num, by omega, hp, hIE.1, hIE.2.1, hIE.2.2⟩
        case measure => simp [intOf]; omega
    · go_wp2_with fail
      go_ret
      exact ⟨rfl, hb0⟩
end
end Go.Proofs.Ytjlnenelhnpnnaa
