/-
Layer 8: what package elf's calls answer; Plain and the anchor over that.
Layer 8: what both answer is the same.
Layer 9: what package dyn's Read answers; the numbers' bounds.
-/
import Derived.Test.YtfdoloonllhodaaJElF
import Derived.Test.YtfdoloonllhodaaJDyA
import Derived.BigQuiet
namespace Go.Proofs.Ytfdoloonllhodaa
open Go Go.RowKit

/-- package elf's calls do what the document says -/
structure ElfOK : Prop where
  heads_ok : ∀ (bs : List UInt8) (A : Option Addr) (n c : Nat) (w : World), SlA w A n c bs → (A = none → c = 0) → c < 9223372036854775808 → bs.length ≤ 100000 →
    Calls Try.prog 25 #[.slice A n c] w fun e w' => (∃ s, e = .returned (.tuple #[.int .u32 (((headsN bs).1 : Nat) : Int), Sl.v s, .int .i64 (((headsN bs).2.2 : Nat) : Int)]) ∧ SlH w' s (headsN bs).2.1) ∧ Below w.heap.size w w'
  segs_ok : ∀ (bs : List UInt8) (A : Option Addr) (n c : Nat) (w : World), SlA w A n c bs → (A = none → c = 0) → c < 9223372036854775808 → bs.length ≤ 100000 →
    Calls Try.prog 15 #[.slice A n c] w fun e w' => (∃ s t, e = .returned (.tuple #[.int .u32 (((segsN bs).1 : Nat) : Int), Sl.v s, Sl.v t, .int .i64 (((segsN bs).2.2.2 : Nat) : Int)]) ∧ SlS w' s (segsN bs).2.1 ∧ SlH w' t (segsN bs).2.2.1) ∧ Below w.heap.size w w'
theorem and_m4 (m : Nat) (h : m < 2 ^ 62) : m &&& 18446744073709551612 = m / 4 * 4 := by
  have e1 : 18446744073709551612 = (2 ^ 62 - 1) <<< 2 := by decide
  have e2 : m / 4 * 4 = (m >>> 2) <<< 2 := by rw [Nat.shiftLeft_eq, Nat.shiftRight_eq_div_pow]
  rw [e1, e2]
  apply Nat.eq_of_testBit_eq
  intro i
  rw [Nat.testBit_and, Nat.testBit_shiftLeft, Nat.testBit_shiftLeft, Nat.testBit_two_pow_sub_one, Nat.testBit_shiftRight]
  by_cases h2 : 2 ≤ i
  · by_cases h3 : i - 2 < 62
    · simp [h2, h3]
    · have h4 : m.testBit i = false := Nat.testBit_lt_two_pow (Nat.lt_of_lt_of_le h (Nat.pow_le_pow_right (by decide) (by omega)))
      rw [show 2 + (i - 2) = i by omega, h4]
      simp
  · simp [h2]
theorem i64_andNot3 (m : Nat) (h : m < 2 ^ 62) : bits .andNot .i64 (m : Int) 3 = ((m / 4 * 4 : Nat) : Int) := by
  unfold bits
  have h1 : (BitVec.ofNat 64 m &&& ~~~ (BitVec.ofNat 64 3)).toNat = m / 4 * 4 := by
    rw [BitVec.toNat_and, BitVec.toNat_ofNat, Nat.mod_eq_of_lt (by omega), show (~~~ (BitVec.ofNat 64 3)).toNat = 18446744073709551612 by decide]
    exact and_m4 m h
  simp only [IntKind.bits]
  show IntKind.i64.wrap (((BitVec.ofInt 64 (m : Int) &&& ~~~ (BitVec.ofInt 64 3)).toNat : Nat) : Int) = _
  rw [show BitVec.ofInt 64 (m : Int) = BitVec.ofNat 64 m from BitVec.ofInt_natCast .., show BitVec.ofInt 64 3 = BitVec.ofNat 64 3 from rfl, h1]
  generalize hr : m / 4 * 4 = r
  have : r < 2 ^ 62 := by omega
  simp [IntKind.wrap, IntKind.bits, IntKind.signed]
  omega
theorem slJ_one {w : World} {g : Nat} {h : Hd} (hG : Has w g 50 (tab 6 (hdR h))) : SlJ w ⟨some ⟨g, 0, none⟩, 1, 1⟩ [h] :=
  ⟨rfl, ⟨Nat.le_refl _, by show (1 : Nat) ≤ _; decide⟩, fun _ => ⟨g, 0, rfl, hG.lt, fun j i hj hi => by
    have hj0 : j = 0 := by have : j < 1 := hj; omega
    subst hj0
    rw [Nat.zero_mul, Nat.add_zero, Nat.zero_add]
    exact hG.cellTab i hi⟩⟩
theorem slD_one {w : World} {g n c : Nat} {A : Option Addr} {b : List UInt8} (hG : Has w g 22 #[.slice A n c]) (hS : SlA w A n c b) (hA : A = none → c = 0) : SlD w ⟨some ⟨g, 0, none⟩, 1, 1⟩ [b] :=
  ⟨rfl, by show (1 : Nat) ≤ _; decide, fun _ => ⟨g, 0, rfl, hG.lt, fun j hj => by
    have hj0 : j = 0 := by have : j < 1 := hj; omega
    subst hj0
    exact ⟨A, n, c, hG.cell 0, hS, hA⟩⟩⟩
/-- the plain file's header -/
def plH (n : Nat) : Hd := ⟨1, 0, 0, 0, (n + 7) / 4 * 4, 5⟩
def plainN (b : List UInt8) : List UInt8 := fileN 0 [plH b.length] [b]
theorem plainN_len (b : List UInt8) : (plainN b).length = 84 + b.length := by unfold plainN; rw [fileN_len]; simp
set_option maxRecDepth 100000 in
set_option maxHeartbeats 1000000 in
theorem plain_any (bs : List UInt8) (A : Option Addr) (n c : Nat) (w : World) (hS : SlA w A n c bs) (hA : A = none → c = 0) (hn : n ≤ 1000) :
    Calls Try.prog 11 #[.slice A n c] w fun e w' => (∃ A n c, e = .returned (.slice A n c) ∧ RowB w' (.slice A n c) (plainN bs) ∧ c < 9223372036854775808) ∧ Below w.heap.size w w' := by
  have hl : bs.length = n := hS.1
  have hbn := i64_andNot3 (n + 7) (by omega)
  have hcn : ((n + 7 : Nat) : Int) = (n : Int) + 7 := by omega
  rw [hcn] at hbn
  obtain ⟨p4, hp4⟩ : ∃ x, x = (n + 7) / 4 * 4 := ⟨_, rfl⟩
  rw [← hp4] at hbn
  have HP4 := Lib.hid hp4
  have HL := Lib.hid hl
  have hp4l : p4 < 2000 := by omega
  clear hcn hp4 hl
  go_enter Try.func11, Try.ntmps11
  go_wp2_with fail
  have hG1 : Has ((w.alloc (.cells #[.int .i64 1, .int .i64 0, .int .i64 0, .int .i64 0, .int .i64 (p4 : Int), .int .i64 5] 50)).alloc (.cells #[.slice A n c] 22)) w.heap.size 50 (tab 6 (hdR ⟨1, 0, 0, 0, p4, 5⟩)) := by
    rw [← hdR_lit]
    exact (Has.new w 50 _).alloc _
  have hG2 : Has ((w.alloc (.cells #[.int .i64 1, .int .i64 0, .int .i64 0, .int .i64 0, .int .i64 (p4 : Int), .int .i64 5] 50)).alloc (.cells #[.slice A n c] 22)) (w.heap.size + 1) 22 #[.slice A n c] := Has.new' (by simp)
  have hb : Below w.heap.size w ((w.alloc (.cells #[.int .i64 1, .int .i64 0, .int .i64 0, .int .i64 0, .int .i64 (p4 : Int), .int .i64 5] 50)).alloc (.cells #[.slice A n c] 22)) := ((Below.refl w.heap.size w).alloc (Nat.le_refl _) _).alloc (by simp) _
  replace hS := hS.below hb
  generalize (w.alloc (.cells #[.int .i64 1, .int .i64 0, .int .i64 0, .int .i64 0, .int .i64 (p4 : Int), .int .i64 5] 50)).alloc (.cells #[.slice A n c] 22) = w1 at *
  have k := rfile_any 0 ⟨some ⟨w.heap.size, 0, none⟩, 1, 1⟩ ⟨some ⟨w.heap.size + 1, 0, none⟩, 1, 1⟩ [⟨1, 0, 0, 0, p4, 5⟩] [bs] w1 (slJ_one hG1) (slD_one hG2 hS hA) rfl (by show (1 : Nat) ≤ 9; decide) (fun h hh => by rw [List.mem_singleton.1 hh]; exact ⟨by show (1 : Nat) < 4; decide, by show 0 < 4294967296; decide, by show p4 < 8589934592; omega, by show (5 : Nat) ≤ 7; decide⟩) (by decide) (by simp; have := HL.out; omega)
  refine k.mono ?_
  rintro e w2 ⟨⟨A2, n2, c2, rfl, hR, hc2⟩, hb2⟩
  go_wp2_with fail
  go_ret
  exact ⟨⟨A2, n2, c2, rfl, by unfold plainN plH; rw [HL.out, ← HP4.out]; exact hR, hc2⟩, below_trans hb hb2⟩
theorem RowB.slA {w : World} {A : Option Addr} {n c : Nat} {bs : List UInt8} (h : RowB w (.slice A n c) bs) : SlA w A n c bs ∧ (A = none → c = 0) := by
  obtain ⟨A', n', c', e, h1, h2, _⟩ := h
  injection e with e1 e2 e3
  subst e1 e2 e3
  exact ⟨h1, h2⟩
theorem plain_segs : segsN (plainN [1, 2, 3, 4]) = (0, [⟨0, 8, 5, [1, 2, 3, 4]⟩], [], 0) := by decide +kernel
theorem strB_4 : ((strB [1, 2, 3, 4]).toList == [1, 2, 3, 4]) = true := by rw [strB_toList]; rfl
end Go.Proofs.Ytfdoloonllhodaa
namespace Go.Proofs.Ytfdoloonllhodaa
open Go Go.RowKit

/-- a variable of a type of many cells -/
theorem wp_new_el {P : Program} {w : World} {ops : Array Oper} {rest : List Oper} {o1 : Oper} {a : Act} {Q : Exit → Act → World → Prop} (ty : TypeId) (n : Nat) (z : Nat → Value) (hz : ∀ w, (zeroValue ty).run P w = .ok (.agg (tab n z)) w) (hg1 : o1.guard = none) (h1 : o1.op = .alloc ty)
    (h : ∀ w', Has w' w.heap.size ty (tab n z) → Below w.heap.size w w' → w.heap.size < w'.heap.size → wpList P ops Q rest (a.put o1.dst (.pointer (some ⟨w.heap.size, 0, none⟩))) w') : wpList P ops Q (o1 :: rest) a w := by
  refine wpList_plain hg1 fun K hK => ?_
  unfold Oper.wp execOp
  simp only [h1, Instr.alloc, Sem.run_bind, hz, Result.andThen_ok]
  have hnv : (newVar ty (.agg (tab n z))).run P w = .ok ⟨w.heap.size, 0, none⟩ (w.alloc (.cells (tab n z) ty)) := by
    go_simp
  simp only [hnv, Result.andThen_ok, Sem.run_pure]
  exact hK _ _ (h _ (Has.new _ _ _) ((Below.refl _ _).alloc (Nat.le_refl _) _) (by simp))
theorem at_he' (b o n c j : Nat) (hj : (j : Int) < (n : Int)) (w : World) : (Instr.indexAt 67 (.slice (some ⟨b, o, none⟩) n c) (.int .i64 (j : Int))).run Try.prog w = .ok (.pointer (some ⟨b, o + j * 6, none⟩)) w := by
  have h2 := Addr.add_mid b o (j * 6)
  go_simp
theorem at_se' (b o n c j : Nat) (hj : (j : Int) < (n : Int)) (w : World) : (Instr.indexAt 35 (.slice (some ⟨b, o, none⟩) n c) (.int .i64 (j : Int))).run Try.prog w = .ok (.pointer (some ⟨b, o + j * 4, none⟩)) w := by
  have h2 := Addr.add_mid b o (j * 4)
  go_simp
def SgF (g : Sg) : Prop := g.d < 4294967296 ∧ g.z < 4294967296
theorem segGo_wf (bs : List UInt8) (en : Nat) : ∀ (hs : List Hd) (ss : List Sg) (ds : List Hd) (e : Nat) (a : Bool) (r : List Sg × List Hd × Bool), (∀ h ∈ hs, h.Wf) → (∀ g ∈ ss, SgF g) → segGo bs en hs ss ds e a = some r → (∀ g ∈ r.1, SgF g) ∧ r.1.length ≤ ss.length + hs.length ∧ r.2.1.length ≤ ds.length + hs.length
  | [], ss, ds, e, a, r, _, h2, h => by
    obtain rfl : (ss, ds, a) = r := by injection h
    exact ⟨h2, Nat.le_refl _, Nat.le_refl _⟩
  | hd :: hs, ss, ds, e, a, r, h1, h2, h => by
    by_cases hk : hd.k = 2
    · rw [segGo_dyn hk] at h
      have := segGo_wf bs en hs ss (ds ++ [hd]) e a r (fun x hx => h1 x (List.mem_cons_of_mem _ hx)) h2 h
      simp only [List.length_append, List.length_cons, List.length_nil] at this ⊢
      exact ⟨this.1, by omega, by omega⟩
    · cases hx : segX hd ss.length e with
      | true => rw [segGo_bad hk hx] at h; cases h
      | false =>
        rw [segGo_seg hk hx] at h
        have hw := h1 hd (List.mem_cons_self ..)
        have := segGo_wf bs en hs _ ds _ _ r (fun x hx => h1 x (List.mem_cons_of_mem _ hx)) (fun g hg => by
          rcases List.mem_append.1 hg with hg | hg
          · exact h2 g hg
          · rw [List.mem_singleton.1 hg]; exact ⟨hw.d, hw.m⟩) h
        simp only [List.length_append, List.length_cons, List.length_nil] at this ⊢
        exact ⟨this.1, by omega, by omega⟩
theorem segs_wf (bs : List UInt8) : (segsN bs).1 < 4294967296 ∧ (segsN bs).2.2.2 ≤ 9 ∧ (segsN bs).2.1.length ≤ 5 ∧ (segsN bs).2.2.1.length ≤ 5 ∧ ∀ g ∈ (segsN bs).2.1, SgF g := by
  have hl := heads_len bs
  unfold segsN
  by_cases h0 : (headsN bs).2.2 = 0
  · rw [if_pos h0]
    cases hg : segGo bs (headsN bs).1 (headsN bs).2.1 [] [] 0 false with
    | none => exact ⟨by show 0 < _; decide, Nat.le_refl _, by show 0 ≤ _; decide, by show 0 ≤ _; decide, fun g h => by cases h⟩
    | some r =>
      obtain ⟨ss, ds, a⟩ := r
      have h1 := segGo_wf bs _ _ _ _ _ _ _ (fun h hh => heads_wf hh) (fun g h => by cases h) hg
      show (if 1 < ds.length ∨ a = false then (0, [], [], 9) else ((headsN bs).1, ss, ds, 0) : Nat × List Sg × List Hd × Nat).1 < _ ∧ _
      unfold segEnd
      dsimp only
      split
      · exact ⟨by decide, Nat.le_refl _, by decide, by decide, fun g h => by cases h⟩
      · refine ⟨hl.2.1, Nat.zero_le _, ?_, ?_, h1.1⟩
        · have h2 : ss.length ≤ ([] : List Sg).length + (headsN bs).2.1.length := h1.2.1
          show ss.length ≤ 5
          simp only [List.length_nil] at h2
          omega
        · have h2 : ds.length ≤ ([] : List Hd).length + (headsN bs).2.1.length := h1.2.2
          show ds.length ≤ 5
          simp only [List.length_nil] at h2
          omega
  · rw [if_neg h0]
    exact ⟨by show 0 < 4294967296; decide, by show (headsN bs).2.2 ≤ 9; omega, Nat.zero_le _, Nat.zero_le _, fun g h => by cases h⟩
end Go.Proofs.Ytfdoloonllhodaa
namespace Go.Proofs.Ytfdoloonllhodaa
open Go Go.RowKit

structure RlF (r : Rl) : Prop where
  a : r.a < 4294967296
  t : r.t < 256
  s : r.s < 16777216
  x : r.x < 4294967296
theorem rlA_f (b : List UInt8) (q : Nat) : RlF (rlA b q) := by
  have h := nm4 b (q + 4)
  refine ⟨nm4 _ _, ?_, ?_, nm4 _ _⟩
  · show nm b 4 (q + 4) % 256 < 256; omega
  · show nm b 4 (q + 4) / 256 < 16777216; omega
theorem syms_wf {ss : List Sg} {l : List (Nat × Nat)} {sy : List Nat} (h : symsN ss l = some sy) : sy.length ≤ 64 ∧ ∀ v ∈ sy, v < 4294967296 := by
  unfold symsN at h
  split at h
  · injection h with h; rw [← h]; exact ⟨by decide, fun v hv => by (cases hv)⟩
  · split at h
    · cases h
    · split at h
      · cases h
      · rename_i hb _
        split at h
        · cases h
        · rename_i hc
          split at h
          · injection h with h; rw [← h]; exact ⟨by decide, fun v hv => by (cases hv)⟩
          · split at h
            · cases h
            · injection h with h
              rw [← h]
              refine ⟨by rw [symG_len]; omega, fun v hv => ?_⟩
              obtain ⟨i, _, rfl⟩ := List.mem_map.1 hv
              exact nm4 _ _
theorem rels_wf {ss : List Sg} {l : List (Nat × Nat)} {m : Nat} {r : List Rl} (h : relsN ss l m = some r) : r.length ≤ 64 ∧ ∀ x ∈ r, RlF x := by
  unfold relsN at h
  split at h
  · split at h
    · injection h with h; rw [← h]; exact ⟨by decide, fun v hv => by (cases hv)⟩
    · cases h
  · split at h
    · cases h
    · rename_i hc
      split at h
      · injection h with h; rw [← h]; exact ⟨by decide, fun v hv => by (cases hv)⟩
      · split at h
        · cases h
        · split at h
          · injection h with h
            rw [← h]
            refine ⟨by rw [relG_len]; omega, fun v hv => ?_⟩
            obtain ⟨i, _, rfl⟩ := List.mem_map.1 hv
            exact rlA_f _ _
          · cases h
structure RdW (r : Rd) : Prop where
  en : r.en < 4294967296
  er : r.er ≤ 12
  ss : r.ss.length ≤ 5
  sf : ∀ g ∈ r.ss, SgF g
  sy : r.sy.length ≤ 64
  yf : ∀ v ∈ r.sy, v < 4294967296
  rl : r.rl.length ≤ 64
  rf : ∀ x ∈ r.rl, RlF x
theorem rdE_wf {e : Nat} (h : e ≤ 12) : RdW (rdE e) := ⟨by show 0 < 4294967296; decide, h, by show (0 : Nat) ≤ 5; decide, fun _ h => by (cases h), by show (0 : Nat) ≤ 64; decide, fun _ h => by (cases h), by show (0 : Nat) ≤ 64; decide, fun _ h => by (cases h)⟩
theorem readY_wf {en : Nat} {ss : List Sg} {l : List (Nat × Nat)} (h1 : en < 4294967296) (h2 : ss.length ≤ 5) (h3 : ∀ g ∈ ss, SgF g) : RdW (readY en ss l) := by
  unfold readY
  split
  · exact rdE_wf (by decide)
  · rename_i sy hs
    split
    · exact rdE_wf (by decide)
    · rename_i r hr
      exact ⟨h1, Nat.zero_le _, h2, h3, (syms_wf hs).1, (syms_wf hs).2, (rels_wf hr).1, (rels_wf hr).2⟩
theorem readN_wf (bs : List UInt8) : RdW (readN bs) := by
  obtain ⟨h1, h2, h3, h4, h5⟩ := segs_wf bs
  unfold readN
  split
  · generalize (segsN bs).2.2.1 = ds
    cases ds with
    | nil => exact ⟨h1, Nat.zero_le _, h3, h5, by show (0 : Nat) ≤ 64; decide, fun _ h => by (cases h), by show (0 : Nat) ≤ 64; decide, fun _ h => by (cases h)⟩
    | cons d r =>
      show RdW (readD _ _ d)
      unfold readD
      split
      · exact rdE_wf (by decide)
      · split
        · exact rdE_wf (by decide)
        · unfold readT
          split
          · exact rdE_wf (by decide)
          · exact readY_wf h1 h3 h5
  · exact rdE_wf (by omega)
/-- a file's cells in package api -/
def fiC (en : Nat) (s r y : Sl) : Array Value := #[.int .u32 (en : Int), s.v, r.v, y.v]
/-- package dyn's call does what the document says -/
structure DynOK : Prop where
  read_ok : ∀ (bs : List UInt8) (A : Option Addr) (n c : Nat) (w : World), SlA w A n c bs → (A = none → c = 0) → c < 9223372036854775808 → bs.length ≤ 100000 →
    Calls Try.prog 10 #[.slice A n c] w fun e w' => (∃ s r y, e = .returned (.tuple #[.agg (fiC (readN bs).en s r y), .int .i64 (((readN bs).er : Nat) : Int)]) ∧ SlS w' s (readN bs).ss ∧ SlL w' r (readN bs).rl ∧ SlU w' y (readN bs).sy) ∧ Below w.heap.size w w'
end Go.Proofs.Ytfdoloonllhodaa
