/-
Package bytes' cursor at a place: what its calls answer, and that only its own block changes.
Layer 8, package elf: what its own parts answer, as plain data.
Layer 8, package elf: rightsOf, part, readHeader.
Layer 8, package elf: readHeader.
Layer 8, package elf: readFileHeader.
Layer 8, package elf: readHeaders.
Layer 8, package elf: Heads.
-/
import Derived.Test.YtoplknankmomcaaElB
import Derived.BigQuiet
namespace Go.Proofs.Ytoplknankmomcaa
open Go Go.RowKit

/-- at g there is a cursor over bs, at q or failed; it and what is left lie in memory from B on, ahead of L -/
def CuP (B L g : Nat) (bs : List UInt8) (q : Nat) (w : World) : Prop :=
  ∃ A n c p bad, Has w g 88 (curB A n c bad) ∧ SlA w A n c (bs.drop p) ∧ (B ≤ g ∧ g < L) ∧ (∀ b o s, A = some ⟨b, o, s⟩ → 0 < n → b ≠ g ∧ B ≤ b ∧ b < L) ∧ CuAt bs q ⟨p, bad⟩ ∧ p ≤ bs.length
section
variable {B L g q : Nat} {bs : List UInt8} {w w' : World}
theorem CuP.hasE (h : CuP B L g bs q w) : ∃ cs, Has w g 88 cs := by obtain ⟨A, n, c, p, bad, h1, _⟩ := h; exact ⟨_, h1⟩
theorem CuP.lt (h : CuP B L g bs q w) : g < w.heap.size := by obtain ⟨cs, h1⟩ := h.hasE; exact h1.lt
theorem CuP.gB (h : CuP B L g bs q w) : B ≤ g ∧ g < L := by obtain ⟨A, n, c, p, bad, _, _, h1, _⟩ := h; exact h1
theorem CuP.after (h : CuP B L g bs q w) (k : Below w.heap.size w w') : CuP B L g bs q w' := by
  obtain ⟨A, n, c, p, bad, h1, h2, h3, h4, h5, h6⟩ := h
  exact ⟨A, n, c, p, bad, h1.after k, h2.below k, h3, h4, h5, h6⟩
theorem slA_lt {A : Option Addr} {n c b o : Nat} {s : Option Nat} (h : SlA w A n c bs) (e : A = some ⟨b, o, s⟩) (h0 : 0 < n) : b < w.heap.size := by
  obtain ⟨b', o', e', hlt, _⟩ := h.2.2 h0
  rw [e] at e'
  injection e' with e'
  injection e' with eb
  rw [eb]; exact hlt
/-- what is written lies elsewhere -/
theorem CuP.beside {r : Option Nat} (h : CuP B L g bs q w) (k : w.grownBy w' r) (hr : ∀ l, r = some l → L ≤ l) : CuP B L g bs q w' := by
  obtain ⟨A, n, c, p, bad, h1, h2, h3, h4, h5, h6⟩ := h
  exact ⟨A, n, c, p, bad, has_grown h1 k (fun l e => by have := hr l e; omega), h2.grown k (fun b o e h0 e2 => by have := hr b e2; have := (h4 b o none e h0).2.2; omega), h3, h4, h5, h6⟩
theorem cu_at (A : Option Addr) (n c : Nat) (hS : SlA w A n c bs) (hA : A = none → c = 0) (hl : bs.length ≤ 1000000) :
    Calls Try.prog 29 #[.slice A n c] w fun e w' => (∃ g, e = .returned (.pointer (some ⟨g, 0, none⟩)) ∧ CuP w.heap.size w'.heap.size g bs 0 w') ∧ Below w.heap.size w w' := by
  refine (pat_is bs A n c w w.heap.size hS hA (Nat.le_refl _) hl).mono ?_
  rintro e w' ⟨⟨g, rfl, h⟩, hb⟩
  obtain ⟨A', n', c', h1, h2, h3, _, h5⟩ := h w'.heap.size (Nat.le_refl _)
  exact ⟨⟨g, rfl, A', n', c', 0, false, h1, h2, ⟨h3, h1.lt⟩, fun b o s e h0 => ⟨(h5 b o s e h0).1, (h5 b o s e h0).2.2, slA_lt h2 e h0⟩, ⟨by show false = _; rw [decide_eq_false (by omega)], fun _ => rfl⟩, Nat.zero_le _⟩, hb⟩
theorem CuP.take (h : CuP B L g bs q w) (k : Nat) :
    Calls Try.prog 30 #[.pointer (some ⟨g, 0, none⟩), .int .i64 (k : Int)] w fun e w' => (∃ A n c, e = .returned (.slice A n c) ∧ SlA w' A n c (if q + k ≤ bs.length then (bs.drop q).take k else []) ∧ (A = none → c = 0) ∧ (q + k ≤ bs.length → n = k ∧ c = k) ∧ (¬ q + k ≤ bs.length → A = none ∧ n = 0 ∧ c = 0) ∧ ∀ b o s, A = some ⟨b, o, s⟩ → 0 < n → b ≠ g ∧ B ≤ b ∧ b < L) ∧ CuP B L g bs (q + k) w' ∧ w.grownBy w' (some g) := by
  obtain ⟨A, n, c, p, bad, hG, hS, hB, ha, hC, hp⟩ := h
  have hl : bs.length - p = n := by have := hS.1; simpa using this
  have hn := hC.nxt (k := k)
  have hok := hC.okE (k := k)
  dsimp only at hok
  have hCb := hC.1
  have hCp := hC.2
  dsimp only at hCb hCp
  by_cases hq : q + k ≤ bs.length
  · obtain rfl : p = q := hCp (by omega)
    obtain rfl : bad = false := by rw [hCb, decide_eq_false (by omega)]
    rw [if_pos hq]
    refine (ptake_ok A n c k g w hG (by omega) hS.2.1).mono ?_
    rintro e w' ⟨rfl, hG', hgr, hz⟩
    have hS' := hS.grown hgr (fun b o e h0 e2 => (ha b o none e h0).1 (by injection e2 with e2; exact e2.symm))
    have hnc := hS.2.1
    refine ⟨⟨A, k, k, rfl, ⟨by rw [List.length_take, List.length_drop]; omega, Nat.le_refl _, fun h0 => ?_⟩, fun hA => ?_, fun _ => ⟨rfl, rfl⟩, fun h => absurd hq h, fun b o s e h0 => ha b o s e (by omega)⟩, ⟨offA A c k, n - k, c - k, p + k, false, hG', ?_, hB, fun b o s e h0 => ?_, ⟨by show false = _; rw [decide_eq_false (by omega)], fun _ => rfl⟩, hq⟩, hgr⟩
    · obtain ⟨b, o, e, hlt, hcell⟩ := hS'.2.2 (by omega)
      refine ⟨b, o, e, hlt, fun j hj => ?_⟩
      rw [hcell j (by omega)]
      simp [List.getD_eq_getElem?_getD, hj]
    · rcases Nat.eq_zero_or_pos k with h0 | h0
      · exact h0
      · obtain ⟨b, o, e, _⟩ := hS.2.2 (by omega)
        rw [hA] at e
        cases e
    · refine ⟨by rw [List.length_drop]; omega, by omega, fun h0 => ?_⟩
      obtain ⟨b, o, e, hlt, hcell⟩ := hS'.2.2 (by omega)
      subst e
      refine ⟨b, o + k, ?_, hlt, fun j hj => ?_⟩
      · unfold offA
        rw [if_neg (by omega), Option.map_some, Addr.add_mid]
      · rw [Nat.add_assoc, hcell (k + j) (by omega)]
        congr 2
        simp [List.getD_eq_getElem?_getD, List.getElem?_drop, Nat.add_assoc]
    · obtain ⟨o', s', e'⟩ := offA_block e
      exact ha b o' s' e' (by omega)
  · rw [if_neg hq]
    have hbq : CuAt bs (q + k) ⟨p, true⟩ := ⟨by show true = _; rw [decide_eq_true (by omega)], fun h => absurd h hq⟩
    cases bad with
    | true =>
      refine (ptake_bad A n c k g w hG).mono ?_
      rintro e w' ⟨rfl, rfl⟩
      exact ⟨⟨none, 0, 0, rfl, nil_slA _, fun _ => rfl, fun h => absurd h hq, fun _ => ⟨rfl, rfl, rfl⟩, fun _ _ _ h => by cases h⟩, ⟨A, n, c, p, true, hG, hS, hB, ha, hbq, hp⟩, World.grownBy.refl _ _⟩
    | false =>
      have hqb : q ≤ bs.length := by
        have h2 := of_decide_eq_false hCb.symm
        omega
      obtain rfl : p = q := hCp hqb
      refine (ptake_far A n c k g w hG (by omega)).mono ?_
      rintro e w' ⟨rfl, hG', hgr, hz⟩
      exact ⟨⟨none, 0, 0, rfl, nil_slA _, fun _ => rfl, fun h => absurd h hq, fun _ => ⟨rfl, rfl, rfl⟩, fun _ _ _ h => by cases h⟩, ⟨A, n, c, p, true, hG', hS.grown hgr (fun b o e h0 e2 => (ha b o none e h0).1 (by injection e2 with e2; exact e2.symm)), hB, ha, hbq, hp⟩, hgr⟩
theorem CuP.int (h : CuP B L g bs q w) (k : Nat) (hk : 0 < k) (hk4 : k ≤ 4) :
    Calls Try.prog 36 #[.pointer (some ⟨g, 0, none⟩), .int .i64 (k : Int)] w fun e w' => e = .returned (.int .u32 ((nm bs k q : Nat) : Int)) ∧ CuP B L g bs (q + k) w' ∧ w.grownBy w' (some g) := by
  have kT := h.take k
  by_cases hq : q + k ≤ bs.length
  · rw [show nm bs k q = leT (bsN bs) k q from if_pos hq]
    refine pint_ok bs k q _ w _ hk4 (kT.mono ?_)
    rintro e w' ⟨⟨A, n, c, rfl, hS, _, hn, _⟩, h2, h3⟩
    rw [if_pos hq] at hS
    obtain ⟨rfl, rfl⟩ := hn hq
    obtain ⟨b, o, rfl, _, hc⟩ := hS.2.2 hk
    refine ⟨b, o, rfl, fun j hj => ?_, h2, h3⟩
    rw [hc j hj]
    simp [List.getD_eq_getElem?_getD, List.getElem?_drop, hj]
  · rw [show nm bs k q = 0 from if_neg hq]
    refine pint_no k _ w _ (kT.mono ?_)
    rintro e w' ⟨⟨A, n, c, rfl, _, _, _, hn, _⟩, h2, h3⟩
    obtain ⟨rfl, rfl, rfl⟩ := hn hq
    exact ⟨rfl, h2, h3⟩
theorem CuP.u32 (h : CuP B L g bs q w) :
    Calls Try.prog 32 #[.pointer (some ⟨g, 0, none⟩)] w fun e w' => e = .returned (.int .u32 ((nm bs 4 q : Nat) : Int)) ∧ CuP B L g bs (q + 4) w' ∧ w.grownBy w' (some g) := pu32_of _ _ _ _ (h.int 4 (by decide) (by decide))
theorem CuP.u16 (h : CuP B L g bs q w) :
    Calls Try.prog 31 #[.pointer (some ⟨g, 0, none⟩)] w fun e w' => e = .returned (.int .i64 ((nm bs 2 q : Nat) : Int)) ∧ CuP B L g bs (q + 2) w' ∧ w.grownBy w' (some g) := pu16_of _ (by have := nm2 bs q; omega) _ _ _ (h.int 2 (by decide) (by decide))
theorem CuP.bad (h : CuP B L g bs q w) :
    Calls Try.prog 35 #[.pointer (some ⟨g, 0, none⟩)] w fun e w' => e = .returned (.bool (decide (bs.length < q))) ∧ w = w' := by
  obtain ⟨A, n, c, p, bad, hG, _, _, _, hC, _⟩ := h
  have := pbad_any A n c bad g w hG
  rw [show bad = decide (bs.length < q) from hC.1] at this
  exact this
end
end Go.Proofs.Ytoplknankmomcaa
namespace Go.Proofs.Ytoplknankmomcaa
open Go Go.RowKit

theorem leT_ext {f g : Nat → Nat} : ∀ m i j, (∀ x, x < m → f (i + x) = g (j + x)) → leT f m i = leT g m j
  | 0, _, _, _ => rfl
  | m + 1, i, j, h => by
    show f i + 256 * leT f m (i + 1) = g j + 256 * leT g m (j + 1)
    have h0 : f i = g j := by simpa using h 0 (by omega)
    rw [h0, leT_ext m (i + 1) (j + 1) fun x hx => by
      have := h (x + 1) (by omega)
      rwa [show i + (x + 1) = i + 1 + x by omega, show j + (x + 1) = j + 1 + x by omega] at this]
/-- a number in a part of the bytes -/
theorem nm_part {bs : List UInt8} {a m k q : Nat} (h1 : a + m ≤ bs.length) (h2 : q + k ≤ m) : nm ((bs.drop a).take m) k q = nm bs k (a + q) := by
  unfold nm
  rw [if_pos (by rw [List.length_take, List.length_drop]; omega), if_pos (by omega)]
  refine leT_ext _ _ _ fun x hx => ?_
  unfold bsN
  have : ((bs.drop a).take m).getD (q + x) 0 = bs.getD (a + q + x) 0 := by
    simp [List.getD_eq_getElem?_getD, List.getElem?_drop, show q + x < m by omega, Nat.add_assoc]
  rw [this]
/-- the file header but for the number of program headers and their place -/
def topB (bs : List UInt8) : Bool := decide (52 ≤ bs.length ∧ bs.take 16 = ident16 ∧ nm bs 2 16 = 3 ∧ nm bs 2 18 = 243 ∧ nm bs 4 20 = 1 ∧ nm bs 4 36 = 0 ∧ nm bs 2 40 = 52 ∧ nm bs 2 42 = 32)
theorem fileB_top (bs : List UInt8) : fileB bs = (topB bs && decide (1 ≤ hN bs ∧ hN bs ≤ 5 ∧ hAt bs + 32 * hN bs ≤ bs.length)) := by
  unfold fileB topB
  rw [Bool.eq_iff_iff, Bool.and_eq_true, decide_eq_true_iff, decide_eq_true_iff, decide_eq_true_iff]
  constructor
  · rintro ⟨h1, h2, h3, h4, h5, h6, h7, h8, h9⟩; exact ⟨⟨h1, h2, h3, h4, h5, h6, h7, h8⟩, h9⟩
  · rintro ⟨⟨h1, h2, h3, h4, h5, h6, h7, h8⟩, h9⟩; exact ⟨h1, h2, h3, h4, h5, h6, h7, h8, h9⟩
/-- a header is right by itself -/
def hdG (bs : List UInt8) (p : Nat) : Bool := decide ((nm bs 4 p = 1 ∨ nm bs 4 p = 2) ∧ nm bs 4 (p + 24) ≤ 7 ∧ nm bs 4 (p + 16) ≤ nm bs 4 (p + 20))
theorem hdX_eq (bs : List UInt8) (p : Nat) : hdX bs p = !(hdG bs p && decide (nm bs 4 (p + 4) + nm bs 4 (p + 16) ≤ bs.length)) := by
  unfold hdX hdG
  rw [← Bool.decide_and, ← decide_not, Bool.eq_iff_iff, decide_eq_true_iff, decide_eq_true_iff]
  omega
theorem hdG_part {bs : List UInt8} {a m q : Nat} (h1 : a + m ≤ bs.length) (h2 : q + 32 ≤ m) : hdG ((bs.drop a).take m) q = hdG bs (a + q) ∧ hdA ((bs.drop a).take m) q = hdA bs (a + q) := by
  have e := fun j (hj : j + 4 ≤ 32) => nm_part (bs := bs) (a := a) (m := m) (k := 4) (q := q + j) h1 (by omega)
  have e0 := e 0 (by omega)
  have e4 := e 4 (by omega)
  have e8 := e 8 (by omega)
  have e16 := e 16 (by omega)
  have e20 := e 20 (by omega)
  have e24 := e 24 (by omega)
  simp only [Nat.add_zero, ← Nat.add_assoc] at e0 e4 e8 e16 e20 e24
  unfold hdG hdA
  rw [e0, e4, e8, e16, e20, e24]
  exact ⟨rfl, rfl⟩
end Go.Proofs.Ytoplknankmomcaa
namespace Go.Proofs.Ytoplknankmomcaa
open Go Go.RowKit

set_option maxRecDepth 100000 in
set_option maxHeartbeats 1000000 in
theorem erights_any (x : Nat) (hx : x ≤ 7) (w : World) :
    Calls Try.prog 37 #[.int .u32 (x : Int)] w fun e w' => e = .returned (.int .i64 ((rgt x : Nat) : Int)) ∧ w = w' := by
  have h8 : x = 0 ∨ x = 1 ∨ x = 2 ∨ x = 3 ∨ x = 4 ∨ x = 5 ∨ x = 6 ∨ x = 7 := by omega
  rcases h8 with rfl | rfl | rfl | rfl | rfl | rfl | rfl | rfl <;>
  · clear hx
    go_enter Try.func37, Try.ntmps37
    go_wp2_with fail
    go_ret
    exact ⟨rfl, rfl⟩
theorem run_front32 (A : Option Addr) (n c : Nat) (k : Nat) (hk : k ≤ c) (W : World) : (Instr.sliceAt 25 (.slice A n c) none (some (.int .u32 (k : Int))) (some (.int .u32 (k : Int)))).run Try.prog W = .ok (.slice A k k) W := by
  have h1 : (k : Int) ≤ (c : Int) := by omega
  cases A with
  | none => go_simp
  | some ad => go_simp
theorem run_tail32 (A : Option Addr) (n c : Nat) (k : Nat) (hk : k ≤ n) (W : World) : (Instr.sliceAt 25 (.slice A n c) (some (.int .u32 (k : Int))) none none).run Try.prog W = .ok (.slice (offA A c k) (n - k) (c - k)) W := by
  have h1 : (k : Int) ≤ (n : Int) := by omega
  unfold offA
  by_cases hkc : k = c
  · subst hkc
    cases A with
    | none => go_simp
    | some ad => go_simp
  · rw [if_neg hkc]
    cases A with
    | none => go_simp
    | some ad =>
      go_simp
      exact fun h => absurd h.symm hkc
theorem sub_off {w : World} {A : Option Addr} {n c a f : Nat} {bs : List UInt8} (h : SlA w A n c bs) (haf : a + f ≤ n) : SlA w (offA A c a) f f ((bs.drop a).take f) := by
  have hl := h.1
  refine ⟨by rw [List.length_take, List.length_drop]; omega, Nat.le_refl _, fun h0 => ?_⟩
  obtain ⟨b, o, rfl, hlt, hc⟩ := h.2.2 (by omega)
  have hcc := h.2.1
  refine ⟨b, o + a, ?_, hlt, fun j hj => ?_⟩
  · unfold offA; rw [if_neg (by omega), Option.map_some, Addr.add_mid]
  · rw [Nat.add_assoc, hc (a + j) (by omega)]
    simp [List.getD_eq_getElem?_getD, hj]
theorem sub_nil {w : World} {A : Option Addr} {n c a f : Nat} {bs : List UInt8} (h : SlA w A n c bs) (haf : a + f ≤ n) : offA A c a = none → f = 0 := fun e => by
  rcases Nat.eq_zero_or_pos f with h0 | h0
  · exact h0
  · obtain ⟨b, o, hb, _⟩ := (sub_off h haf).2.2 h0
    rw [e] at hb; cases hb
set_option maxRecDepth 100000 in
set_option maxHeartbeats 1000000 in
theorem epart_any (bs : List UInt8) (A : Option Addr) (n c a f : Nat) (w : World) (hS : SlA w A n c bs) (hl : bs.length ≤ 100000) (ha : a < 4294967296) (hf : f < 4294967296) :
    Calls Try.prog 28 #[.slice A n c, .int .u32 (a : Int), .int .u32 (f : Int)] w fun e w' => (∃ A' m k, e = .returned (.tuple #[.slice A' m k, .bool (decide (a + f ≤ bs.length))]) ∧ (a + f ≤ bs.length → SlA w A' m k ((bs.drop a).take f) ∧ (A' = none → k = 0) ∧ k = f ∧ m = f)) ∧ w = w' := by
  have hn : bs.length = n := hS.1
  have hnc := hS.2.1
  have kW := pwithin_any a f 0 n w ha hf (by decide) (by omega)
  have hn32 : (n : Int) < 4294967296 := by omega
  by_cases h : a + f ≤ n
  · have hr : inB a f 0 n = true := decide_eq_true (by omega)
    rw [hr] at kW
    have r1 := fun W => run_tail32 A n c a (by omega) W
    have r2 := fun W => run_front32 (offA A c a) (n - a) (c - a) f (by omega) W
    have H : Hid (∃ A' m k, Ending.returned (.tuple #[.slice (offA A c a) f f, .bool true]) = .returned (.tuple #[.slice A' m k, .bool (decide (a + f ≤ bs.length))]) ∧ (a + f ≤ bs.length → SlA w A' m k ((bs.drop a).take f) ∧ (A' = none → k = 0) ∧ k = f ∧ m = f)) := Lib.hid ⟨_, _, _, by rw [hn, decide_eq_true h], fun _ => ⟨sub_off hS h, sub_nil hS h, rfl, rfl⟩⟩
    generalize offA A c a = A' at *
    generalize n - a = n' at *
    generalize c - a = c' at *
    clear h hr hS hl hn
    go_enter Try.func28, Try.ntmps28
    go_wp2_with (refine kW.mono ?_; rintro e w' ⟨rfl, rfl⟩)
    go_ret2
    exact ⟨H.out, rfl⟩
  · have hr : inB a f 0 n = false := decide_eq_false (by omega)
    rw [hr] at kW
    have H : Hid (∃ A' m k, Ending.returned (.tuple #[.slice none 0 0, .bool false]) = .returned (.tuple #[.slice A' m k, .bool (decide (a + f ≤ bs.length))]) ∧ (a + f ≤ bs.length → SlA w A' m k ((bs.drop a).take f) ∧ (A' = none → k = 0) ∧ k = f ∧ m = f)) := Lib.hid ⟨_, _, _, by rw [hn, decide_eq_false h], fun h2 => absurd (hn ▸ h2) h⟩
    clear h hr hS hl hn
    go_enter Try.func28, Try.ntmps28
    go_wp2_with (refine kW.mono ?_; rintro e w' ⟨rfl, rfl⟩)
    go_ret2
    exact ⟨H.out, rfl⟩
end Go.Proofs.Ytoplknankmomcaa
namespace Go.Proofs.Ytoplknankmomcaa
open Go Go.RowKit

/-- a block is written whole -/
theorem wp_store_cs {P : Program} {w : World} {ops : Array Oper} {rest : List Oper} {op : Oper} {a : Act} {Q : Exit → Act → World → Prop} (hgd : op.guard = none) (ty : TypeId) (x y : Operand) (ho : op.op = .store ty x y) (g : Nat) (hx : a.eval x = .pointer (some ⟨g, 0, none⟩)) (ds : Array Value) (hy : a.eval y = .agg ds)
    (cs : Array Value) (hcs : cs.size = ds.size) (hi : (P.info? ty).map (·.size) = some ds.size) (h1 : ds.all (·.oneCell') = true) (hG : Has w g ty cs) (h : ∀ w', Has w' g ty ds → w.grownBy w' (some g) → wpList P ops Q rest (a.put op.dst undef) w') : wpList P ops Q (op :: rest) a w := by
  refine wpList_plain hgd fun K hK => ?_
  unfold Oper.wp execOp
  simp only [ho, hx, hy, Instr.storeAt, Instr.sureAddr, Sem.run_bind, Sem.run_pure, Result.andThen_ok, run_storeVar_row w g ty ty cs ds hG hi hcs h1]
  exact hK _ _ (h _ (hG.setRow _) ⟨rfl, rfl, rfl, by simp, fun i _ hne => setRow_other w g i _ (fun e => hne (by rw [e]))⟩)
theorem infoHEt (f : Nat → Value) : (Try.prog.info? 51).map (·.size) = some (tab 6 f).size := by rw [tab_size]; exact infoHE6
theorem hdE_all (h : Hd) : (tab 6 (hdE h)).all (·.oneCell') = true := tab_oneCell _ _ (hdE_one h)
theorem hdE_lit (h : Hd) : (#[.int .i64 (h.k : Int), .int .u32 (h.a : Int), .int .u32 (h.d : Int), .int .u32 (h.f : Int), .int .u32 (h.m : Int), .int .i64 (h.r : Int)] : Array Value) = tab 6 (hdE h) := by kernel_rfl
theorem hdE_zero : (#[.int .i64 0, .int .u32 0, .int .u32 0, .int .u32 0, .int .u32 0, .int .i64 0] : Array Value) = tab 6 (hdE hd0) := by kernel_rfl
/-- since w, only g and what is new -/
theorem grown_more {w u v : World} {g g' : Nat} (h : w.grownBy u (some g)) (k : u.grownBy v (some g')) (hg : g' = g ∨ w.heap.size ≤ g') : w.grownBy v (some g) := by
  rcases hg with rfl | hg
  · exact only_trans h k
  · refine ⟨k.os.trans h.os, k.tape.trans h.tape, k.output.trans h.output, Nat.le_trans h.size k.size, fun i hi hne => (k.block i (Nat.lt_of_lt_of_le hi h.size) (fun e => ?_)).trans (h.block i hi hne)⟩
    injection e with e
    omega
/-- what readHeader answers -/
def hdS (bs : List UInt8) (q : Nat) : Hd := if hdG bs q = true then hdA bs q else hd0
set_option maxRecDepth 100000 in
set_option maxHeartbeats 2000000 in
theorem ehead_any {B L g q : Nat} {bs : List UInt8} {w : World} (h : CuP B L g bs q w) (hL : L ≤ w.heap.size) :
    Calls Try.prog 33 #[.pointer (some ⟨g, 0, none⟩)] w fun e w' => e = .returned (.tuple #[.agg (tab 6 (hdE (hdS bs q))), .bool (hdG bs q)]) ∧ CuP B L g bs (q + 32) w' ∧ w.grownBy w' (some g) := by
  go_enter Try.func33, Try.ntmps33
  go_wp2_with fail
  have hG : Has (w.alloc (.cells #[.int .i64 0, .int .u32 0, .int .u32 0, .int .u32 0, .int .u32 0, .int .i64 0] 51)) w.heap.size 51 (tab 6 (hdE hd0)) := by
    rw [← hdE_zero]
    exact Has.new _ _ _
  have hb0 : Below w.heap.size w (w.alloc (.cells #[.int .i64 0, .int .u32 0, .int .u32 0, .int .u32 0, .int .u32 0, .int .i64 0] 51)) := (Below.refl _ _).alloc (Nat.le_refl _) _
  have hlt := h.lt
  replace h := h.after hb0
  have hgr := only_below hb0 (some g)
  generalize w.alloc (.cells #[.int .i64 0, .int .u32 0, .int .u32 0, .int .u32 0, .int .u32 0, .int .i64 0] 51) = u at *
  obtain ⟨gh, hgh⟩ : ∃ x, x = w.heap.size := ⟨_, rfl⟩
  have hne : gh ≠ g := by omega
  have hghw : w.heap.size ≤ gh := by omega
  rw [← hgh] at hG ⊢
  clear hgh hb0 hlt
  refine h.u32.mono ?_
  rintro e u0 ⟨rfl, h0, hg0⟩
  change CuP B L g bs (q + 4) u0 at h0
  replace hG := has_grown hG hg0 (fun l e => by injection e with e; rw [← e]; exact hne)
  replace hgr := only_trans hgr hg0
  clear h hg0
  obtain ⟨x0, hx0⟩ : ∃ x, x = nm bs 4 (q) := ⟨_, rfl⟩
  rw [← hx0]
  have H0 := Lib.hid hx0
  have l0 := nm4 bs (q)
  rw [← hx0] at l0
  clear hx0
  go_wp2_with fail
  refine h0.u32.mono ?_
  rintro e u1 ⟨rfl, h1, hg1⟩
  change CuP B L g bs (q + 8) u1 at h1
  replace hG := has_grown hG hg1 (fun l e => by injection e with e; rw [← e]; exact hne)
  replace hgr := only_trans hgr hg1
  clear h0 hg1
  obtain ⟨x1, hx1⟩ : ∃ x, x = nm bs 4 (q + 4) := ⟨_, rfl⟩
  have e1 : nm bs 4 (q + 0 + 4) = x1 := hx1.symm
  rw [e1]
  clear e1
  have H1 := Lib.hid hx1
  have l1 := nm4 bs (q + 4)
  rw [← hx1] at l1
  clear hx1
  go_wp2_with fail
  refine h1.u32.mono ?_
  rintro e u2 ⟨rfl, h2, hg2⟩
  change CuP B L g bs (q + 12) u2 at h2
  replace hG := has_grown hG hg2 (fun l e => by injection e with e; rw [← e]; exact hne)
  replace hgr := only_trans hgr hg2
  clear h1 hg2
  obtain ⟨x2, hx2⟩ : ∃ x, x = nm bs 4 (q + 8) := ⟨_, rfl⟩
  have e2 : nm bs 4 (q + 4 + 4) = x2 := hx2.symm
  rw [e2]
  clear e2
  have H2 := Lib.hid hx2
  have l2 := nm4 bs (q + 8)
  rw [← hx2] at l2
  clear hx2
  go_wp2_with fail
  refine h2.u32.mono ?_
  rintro e u3 ⟨rfl, h3, hg3⟩
  change CuP B L g bs (q + 16) u3 at h3
  replace hG := has_grown hG hg3 (fun l e => by injection e with e; rw [← e]; exact hne)
  replace hgr := only_trans hgr hg3
  clear h2 hg3
  go_wp2_with fail
  refine h3.u32.mono ?_
  rintro e u4 ⟨rfl, h4, hg4⟩
  change CuP B L g bs (q + 20) u4 at h4
  replace hG := has_grown hG hg4 (fun l e => by injection e with e; rw [← e]; exact hne)
  replace hgr := only_trans hgr hg4
  clear h3 hg4
  obtain ⟨x4, hx4⟩ : ∃ x, x = nm bs 4 (q + 16) := ⟨_, rfl⟩
  have e4 : nm bs 4 (q + 12 + 4) = x4 := hx4.symm
  rw [e4]
  clear e4
  have H4 := Lib.hid hx4
  have l4 := nm4 bs (q + 16)
  rw [← hx4] at l4
  clear hx4
  go_wp2_with fail
  refine h4.u32.mono ?_
  rintro e u5 ⟨rfl, h5, hg5⟩
  change CuP B L g bs (q + 24) u5 at h5
  replace hG := has_grown hG hg5 (fun l e => by injection e with e; rw [← e]; exact hne)
  replace hgr := only_trans hgr hg5
  clear h4 hg5
  obtain ⟨x5, hx5⟩ : ∃ x, x = nm bs 4 (q + 20) := ⟨_, rfl⟩
  have e5 : nm bs 4 (q + 16 + 4) = x5 := hx5.symm
  rw [e5]
  clear e5
  have H5 := Lib.hid hx5
  have l5 := nm4 bs (q + 20)
  rw [← hx5] at l5
  clear hx5
  go_wp2_with fail
  refine h5.u32.mono ?_
  rintro e u6 ⟨rfl, h6, hg6⟩
  change CuP B L g bs (q + 28) u6 at h6
  replace hG := has_grown hG hg6 (fun l e => by injection e with e; rw [← e]; exact hne)
  replace hgr := only_trans hgr hg6
  clear h5 hg6
  obtain ⟨x6, hx6⟩ : ∃ x, x = nm bs 4 (q + 24) := ⟨_, rfl⟩
  have e6 : nm bs 4 (q + 20 + 4) = x6 := hx6.symm
  rw [e6]
  clear e6
  have H6 := Lib.hid hx6
  have l6 := nm4 bs (q + 24)
  rw [← hx6] at l6
  clear hx6
  go_wp2_with fail
  refine h6.u32.mono ?_
  rintro e u7 ⟨rfl, h7, hg7⟩
  change CuP B L g bs (q + 32) u7 at h7
  replace hG := has_grown hG hg7 (fun l e => by injection e with e; rw [← e]; exact hne)
  replace hgr := only_trans hgr hg7
  clear h6 hg7
  have HB : Hid (hdG bs q = decide ((x0 = 1 ∨ x0 = 2) ∧ x6 ≤ 7 ∧ x4 ≤ x5)) := Lib.hid (by rw [H0.out, H4.out, H5.out, H6.out]; rfl)
  have hghL : L ≤ gh := by omega
  have HHD : Hid (∀ r, r = rgt x6 → Ending.returned (.tuple #[.agg (tab 6 (hdE ⟨x0, x1, x2, x4, x5, r⟩)), .bool true]) = .returned (.tuple #[.agg (tab 6 (hdE (hdA bs q))), .bool true])) := Lib.hid (fun r hr => by rw [hr, H0.out, H1.out, H2.out, H4.out, H5.out, H6.out]; rfl)
  clear hL
  clear H0 H1 H2 H4 H5 H6
  by_cases h1 : x0 = 1 ∨ x0 = 2
  · have HK : Hid (x0 = 1 ∨ x0 = 2) := Lib.hid h1
    have h0c : (((x0 : Int) != 1) = false) ∨ (((x0 : Int) != 1) = true ∧ ((x0 : Int) != 2) = false) := by
      rcases h1 with rfl | rfl
      · exact .inl (by decide)
      · exact .inr ⟨by decide, by decide⟩
    clear h1
    have hwx : x0 < 9223372036854775808 := by omega
    by_cases h6 : x6 ≤ 7
    · have d6 : (x6 : Int) ≤ 7 := by omega
      by_cases h4 : x4 ≤ x5
      · have d4 : (x4 : Int) ≤ (x5 : Int) := by omega
        have fg : (x0 = 1 ∨ x0 = 2) ∧ x6 ≤ 7 ∧ x4 ≤ x5 := ⟨HK.out, h6, h4⟩
        have FG := Lib.hid fg
        have kR := fun w => erights_any x6 h6 w
        have hr7 := rgt_le x6
        obtain ⟨r, hr⟩ : ∃ r, r = rgt x6 := ⟨_, rfl⟩
        rw [← hr] at hr7
        simp only [← hr] at kR
        replace HHD := Lib.hid (HHD.out r hr)
        clear fg h6 h4 HK hr
        rcases h0c with k1 | ⟨k1, k2⟩
        all_goals
          go_wp2_with (first
            | (refine (kR _).mono ?_; rintro e w' ⟨rfl, rfl⟩)
            | (refine wp_store_cs rfl 51 _ _ rfl gh rfl (tab 6 (hdE ⟨x0, x1, x2, x4, x5, r⟩)) (congrArg Value.agg (hdE_lit ⟨x0, x1, x2, x4, x5, r⟩)) _ (by simp only [tab_size]) (infoHEt _) (hdE_all _) hG ?_; intro wz hz hgz))
          exact bodyPost_ret (v := .tuple #[.agg (tab 6 (hdE ⟨x0, x1, x2, x4, x5, r⟩)), .bool true]) (results_cell_tmp rfl _ _ gh 51 _ _ _ rfl rfl hz Try.underlying51 rfl (infoHEt _)) rfl ⟨by unfold hdS; rw [HB.out, decide_eq_true FG.out]; exact HHD.out, h7.beside hgz (fun l e => by injection e with e; omega), grown_more hgr hgz (.inr hghw)⟩
      · have d4 : (x5 : Int) < (x4 : Int) := by omega
        have fg : ¬ ((x0 = 1 ∨ x0 = 2) ∧ x6 ≤ 7 ∧ x4 ≤ x5) := fun h => h4 h.2.2
        clear h4 h6 HK HHD
        rcases h0c with k1 | ⟨k1, k2⟩
        all_goals
          have FG := Lib.hid fg
          clear fg
          go_wp2_with (refine wp_store_cs rfl 51 _ _ rfl gh rfl (tab 6 (hdE hd0)) (congrArg Value.agg hdE_zero) _ (by simp only [tab_size]) (infoHEt _) (hdE_all _) hG ?_; intro wz hz hgz)
          all_goals exact bodyPost_ret (v := .tuple #[.agg (tab 6 (hdE hd0)), .bool false]) (results_cell_tmp rfl _ _ gh 51 _ _ _ rfl rfl hz Try.underlying51 rfl (infoHEt _)) rfl ⟨by unfold hdS; rw [HB.out, decide_eq_false FG.out]; rfl, h7.beside hgz (fun l e => by injection e with e; omega), grown_more hgr hgz (.inr hghw)⟩
    · have d6 : 7 < (x6 : Int) := by omega
      have fg : ¬ ((x0 = 1 ∨ x0 = 2) ∧ x6 ≤ 7 ∧ x4 ≤ x5) := fun h => h6 h.2.1
      clear h6 HK HHD
      rcases h0c with k1 | ⟨k1, k2⟩
      all_goals
        have FG := Lib.hid fg
        clear fg
        go_wp2_with (refine wp_store_cs rfl 51 _ _ rfl gh rfl (tab 6 (hdE hd0)) (congrArg Value.agg hdE_zero) _ (by simp only [tab_size]) (infoHEt _) (hdE_all _) hG ?_; intro wz hz hgz)
        all_goals exact bodyPost_ret (v := .tuple #[.agg (tab 6 (hdE hd0)), .bool false]) (results_cell_tmp rfl _ _ gh 51 _ _ _ rfl rfl hz Try.underlying51 rfl (infoHEt _)) rfl ⟨by unfold hdS; rw [HB.out, decide_eq_false FG.out]; rfl, h7.beside hgz (fun l e => by injection e with e; omega), grown_more hgr hgz (.inr hghw)⟩
  · have k1 : ((x0 : Int) != 1) = true := by simp only [bne_iff_ne, ne_eq]; omega
    have k2 : ((x0 : Int) != 2) = true := by simp only [bne_iff_ne, ne_eq]; omega
    have fg : ¬ ((x0 = 1 ∨ x0 = 2) ∧ x6 ≤ 7 ∧ x4 ≤ x5) := fun h => h1 h.1
    clear h1 HHD
    have FG := Lib.hid fg
    clear fg
    go_wp2_with (refine wp_store_cs rfl 51 _ _ rfl gh rfl (tab 6 (hdE hd0)) (congrArg Value.agg hdE_zero) _ (by simp only [tab_size]) (infoHEt _) (hdE_all _) hG ?_; intro wz hz hgz)
    all_goals exact bodyPost_ret (v := .tuple #[.agg (tab 6 (hdE hd0)), .bool false]) (results_cell_tmp rfl _ _ gh 51 _ _ _ rfl rfl hz Try.underlying51 rfl (infoHEt _)) rfl ⟨by unfold hdS; rw [HB.out, decide_eq_false FG.out]; rfl, h7.beside hgz (fun l e => by injection e with e; omega), grown_more hgr hgz (.inr hghw)⟩
end Go.Proofs.Ytoplknankmomcaa
namespace Go.Proofs.Ytoplknankmomcaa
open Go Go.RowKit

/-- a file header's cells -/
def tpC (en p n : Nat) : Array Value := #[.int .u32 (en : Int), .int .u32 (p : Int), .int .i64 (n : Int)]
theorem tpC_zero : (#[.int .u32 0, .int .u32 0, .int .i64 0] : Array Value) = tpC 0 0 0 := by kernel_rfl
theorem infoTP (en p n : Nat) : (Try.prog.info? 62).map (·.size) = some (tpC en p n).size := by kernel_rfl
theorem tpC_all (en p n : Nat) : (tpC en p n).all (·.oneCell') = true := by simp [tpC, Value.oneCell']
theorem CuP.take16 {B L g q : Nat} {bs : List UInt8} {w : World} (h : CuP B L g bs q w) :
    Calls Try.prog 30 #[.pointer (some ⟨g, 0, none⟩), .int .i64 16] w fun e w' => (∃ A n c, e = .returned (.slice A n c) ∧ SlA w' A n c (if q + 16 ≤ bs.length then (bs.drop q).take 16 else [])) ∧ CuP B L g bs (q + 16) w' ∧ w.grownBy w' (some g) :=
  (h.take 16).mono fun _ _ ⟨⟨A, n, c, h1, h2, _⟩, h3⟩ => ⟨⟨A, n, c, h1, h2⟩, h3⟩
set_option maxRecDepth 100000 in
set_option maxHeartbeats 2000000 in
theorem etop_any (bs : List UInt8) (A : Option Addr) (n c : Nat) (w : World) (hS : SlA w A n c bs) (hl : bs.length ≤ 100000) :
    Calls Try.prog 20 #[.slice A n c] w fun e w' => (∃ en p m, e = .returned (.tuple #[.agg (tpC en p m), .bool (topB bs)]) ∧ (topB bs = true → en = nm bs 4 24 ∧ p = hAt bs ∧ m = hN bs)) ∧ Below w.heap.size w w' := by
  go_enter Try.func20, Try.ntmps20
  go_wp2_with fail
  have hG : Has (w.alloc (.cells #[.int .u32 0, .int .u32 0, .int .i64 0] 62)) w.heap.size 62 (tpC 0 0 0) := by
    rw [← tpC_zero]
    exact Has.new _ _ _
  have hb0 : Below w.heap.size w (w.alloc (.cells #[.int .u32 0, .int .u32 0, .int .i64 0] 62)) := (Below.refl _ _).alloc (Nat.le_refl _) _
  replace hS := hS.below hb0
  have hlt : w.heap.size < (w.alloc (.cells #[.int .u32 0, .int .u32 0, .int .i64 0] 62)).heap.size := hG.lt
  generalize w.alloc (.cells #[.int .u32 0, .int .u32 0, .int .i64 0] 62) = u at *
  obtain ⟨gh, hgh⟩ : ∃ x, x = w.heap.size := ⟨_, rfl⟩
  have hghw : w.heap.size ≤ gh := by omega
  have hghu : gh < u.heap.size := by omega
  rw [← hgh] at hG ⊢
  clear hgh hlt
  have kP := epart_any bs A n c 0 52 u hS hl (by decide) (by decide)
  refine kP.mono ?_
  rintro e u0 ⟨⟨A', m', k', rfl, hP⟩, rfl⟩
  clear kP hS
  rw [Nat.zero_add] at *
  by_cases h52 : ¬ 52 ≤ bs.length
  · have HT : Hid (topB bs = false) := Lib.hid (decide_eq_false (fun h => h52 h.1))
    rw [decide_eq_false h52]
    clear h52 hP
    go_wp2_with (refine wp_store_cs rfl 62 _ _ rfl gh rfl (tpC 0 0 0) (congrArg Value.agg tpC_zero) _ (by rfl) (infoTP _ _ _) (tpC_all _ _ _) hG ?_; intro wz hz hgz)
    exact bodyPost_ret (v := .tuple #[.agg (tpC 0 0 0), .bool false]) (results_cell_tmp rfl _ _ gh 62 _ _ _ rfl rfl hz Try.underlying62 rfl (infoTP _ _ _)) rfl ⟨⟨0, 0, 0, by rw [HT.out], fun h => by rw [HT.out] at h; cases h⟩, below_only hb0 hgz hghw hb0.size⟩
  replace h52 : 52 ≤ bs.length := by omega
  obtain ⟨hSl, hA', rfl, rfl⟩ := hP h52
  rw [decide_eq_true h52]
  have hfl : ((bs.drop 0).take 52).length = 52 := by rw [List.length_take, List.length_drop]; omega
  have hnm := fun k q (h : q + k ≤ 52) => nm_part (bs := bs) (a := 0) (m := 52) (k := k) (q := q) (by omega) h
  simp only [Nat.zero_add] at hnm
  have hid0 : (if 0 + 16 ≤ ((bs.drop 0).take 52).length then (((bs.drop 0).take 52).drop 0).take 16 else []) = bs.take 16 := by
    rw [hfl, if_pos (by decide)]
    simp [List.take_take]
  clear hP
  generalize (bs.drop 0).take 52 = fs at *
  have kA := fun w' (hb : Below u.heap.size u w') => cu_at (bs := fs) A' 52 52 (hSl.below hb) hA' (by omega)
  have HH52 := Lib.hid h52
  clear h52 hSl hA'
  go_wp2_with fail
  refine (kA u (Below.refl _ _)).mono ?_
  rintro e u1 ⟨⟨g, rfl, hC⟩, hb1⟩
  clear kA
  replace hG := hG.after hb1
  replace hb0 := below_trans hb0 (hb1.mono (Nat.le_refl _))
  have hgB := hC.gB
  obtain ⟨B, hB⟩ : ∃ x, x = u.heap.size := ⟨_, rfl⟩
  obtain ⟨L, hL⟩ : ∃ x, x = u1.heap.size := ⟨_, rfl⟩
  rw [← hB, ← hL] at hC hgB
  have hBw : w.heap.size ≤ B := by have := hghw; omega
  have hne : gh ≠ g := by omega
  have hgw : w.heap.size ≤ g := by omega
  clear hB hL hb1 hgB hghu
  go_wp2_with fail
  refine hC.take16.mono ?_
  rintro e u2 ⟨⟨A2, n2, c2, rfl, hS2⟩, hC2, hg2⟩
  rw [hid0] at hS2
  change CuP B L g fs 16 u2 at hC2
  have hcv := str_conv hS2
  have hid := strB_id (bs.take 16)
  replace hG := has_grown hG hg2 (fun l e => by injection e with e; rw [← e]; exact hne)
  replace hb0 := below_only hb0 hg2 hgw hb0.size
  clear hC hS2 hg2 hid0
  generalize strB (bs.take 16) = sb at *
  obtain ⟨b0, hb0'⟩ : ∃ x, x = decide (bs.take 16 = ident16) := ⟨_, rfl⟩
  rw [← hb0'] at hid
  have HB0 := Lib.hid hb0'
  clear hb0'
  obtain ⟨x16, hx16⟩ : ∃ x, x = nm fs 2 16 := ⟨_, rfl⟩
  have l16 := nm2 fs 16
  rw [← hx16] at l16
  have y16 := hnm 2 16 (by decide)
  rw [← hx16] at y16
  obtain ⟨x18, hx18⟩ : ∃ x, x = nm fs 2 18 := ⟨_, rfl⟩
  have l18 := nm2 fs 18
  rw [← hx18] at l18
  have y18 := hnm 2 18 (by decide)
  rw [← hx18] at y18
  obtain ⟨x20, hx20⟩ : ∃ x, x = nm fs 4 20 := ⟨_, rfl⟩
  have l20 := nm4 fs 20
  rw [← hx20] at l20
  have y20 := hnm 4 20 (by decide)
  rw [← hx20] at y20
  obtain ⟨x24, hx24⟩ : ∃ x, x = nm fs 4 24 := ⟨_, rfl⟩
  have l24 := nm4 fs 24
  rw [← hx24] at l24
  have y24 := hnm 4 24 (by decide)
  rw [← hx24] at y24
  obtain ⟨x28, hx28⟩ : ∃ x, x = nm fs 4 28 := ⟨_, rfl⟩
  have l28 := nm4 fs 28
  rw [← hx28] at l28
  have y28 := hnm 4 28 (by decide)
  rw [← hx28] at y28
  obtain ⟨x36, hx36⟩ : ∃ x, x = nm fs 4 36 := ⟨_, rfl⟩
  have l36 := nm4 fs 36
  rw [← hx36] at l36
  have y36 := hnm 4 36 (by decide)
  rw [← hx36] at y36
  obtain ⟨x40, hx40⟩ : ∃ x, x = nm fs 2 40 := ⟨_, rfl⟩
  have l40 := nm2 fs 40
  rw [← hx40] at l40
  have y40 := hnm 2 40 (by decide)
  rw [← hx40] at y40
  obtain ⟨x42, hx42⟩ : ∃ x, x = nm fs 2 42 := ⟨_, rfl⟩
  have l42 := nm2 fs 42
  rw [← hx42] at l42
  have y42 := hnm 2 42 (by decide)
  rw [← hx42] at y42
  obtain ⟨x44, hx44⟩ : ∃ x, x = nm fs 2 44 := ⟨_, rfl⟩
  have l44 := nm2 fs 44
  rw [← hx44] at l44
  have y44 := hnm 2 44 (by decide)
  rw [← hx44] at y44
  have HT : Hid (topB bs = decide (b0 = true ∧ x16 = 3 ∧ x18 = 243 ∧ x20 = 1 ∧ x36 = 0 ∧ x40 = 52 ∧ x42 = 32)) := Lib.hid (by
    unfold topB
    rw [HB0.out, y16, y18, y20, y36, y40, y42, Bool.eq_iff_iff, decide_eq_true_iff, decide_eq_true_iff, decide_eq_true_iff]
    exact ⟨fun h => h.2, fun h => ⟨HH52.out, h⟩⟩)
  have HV : Hid (x24 = nm bs 4 24 ∧ x28 = hAt bs ∧ x44 = hN bs) := Lib.hid ⟨y24, y28, y44⟩
  have HX16 := Lib.hid hx16
  have HX18 := Lib.hid hx18
  have HX20 := Lib.hid hx20
  have HX24 := Lib.hid hx24
  have HX28 := Lib.hid hx28
  have HX36 := Lib.hid hx36
  have HX40 := Lib.hid hx40
  have HX42 := Lib.hid hx42
  have HX44 := Lib.hid hx44
  clear y16 hx16 y18 hx18 y20 hx20 y24 hx24 y28 hx28 y36 hx36 y40 hx40 y42 hx42 y44 hx44 hnm HB0 HH52
  cases b0 with
  | false =>
    have FG : Hid (¬ (false = true ∧ x16 = 3 ∧ x18 = 243 ∧ x20 = 1 ∧ x36 = 0 ∧ x40 = 52 ∧ x42 = 32)) := Lib.hid (fun h => by cases h.1)
    clear HV
    go_wp2_with (first
      | (refine wp_store_cs rfl 62 _ _ rfl gh rfl (tpC 0 0 0) (congrArg Value.agg tpC_zero) _ (by rfl) (infoTP _ _ _) (tpC_all _ _ _) hG ?_; intro wz hz hgz))
    exact bodyPost_ret (v := .tuple #[.agg (tpC 0 0 0), .bool false]) (results_cell_tmp rfl _ _ gh 62 _ _ _ rfl rfl hz Try.underlying62 rfl (infoTP _ _ _)) rfl ⟨⟨0, 0, 0, by rw [HT.out, decide_eq_false FG.out], fun h => by rw [HT.out, decide_eq_false FG.out] at h; cases h⟩, below_only hb0 hgz hghw hb0.size⟩
  | true =>
    by_cases h16 : ¬ x16 = 3
    · have d16 : ((x16 : Int) != 3) = true := by simp only [bne_iff_ne, ne_eq]; omega
      have FG : Hid (¬ (true = true ∧ x16 = 3 ∧ x18 = 243 ∧ x20 = 1 ∧ x36 = 0 ∧ x40 = 52 ∧ x42 = 32)) := Lib.hid (fun h => h16 h.2.1)
      clear HV
      go_wp2_with (first
        | (refine (hC2.u16).mono ?_
           rintro e u3 ⟨rfl, hC3, hg⟩
           change CuP B L g fs 18 u3 at hC3
           replace hG := has_grown hG hg (fun l e => by injection e with e; rw [← e]; exact hne)
           replace hb0 := below_only hb0 hg hgw hb0.size
           clear hg hC2
           rw [← HX16.out])
        | (refine wp_store_cs rfl 62 _ _ rfl gh rfl (tpC 0 0 0) (congrArg Value.agg tpC_zero) _ (by rfl) (infoTP _ _ _) (tpC_all _ _ _) hG ?_; intro wz hz hgz))
      exact bodyPost_ret (v := .tuple #[.agg (tpC 0 0 0), .bool false]) (results_cell_tmp rfl _ _ gh 62 _ _ _ rfl rfl hz Try.underlying62 rfl (infoTP _ _ _)) rfl ⟨⟨0, 0, 0, by rw [HT.out, decide_eq_false FG.out], fun h => by rw [HT.out, decide_eq_false FG.out] at h; cases h⟩, below_only hb0 hgz hghw hb0.size⟩
    replace h16 : x16 = 3 := by omega
    have d16 : ((x16 : Int) != 3) = false := by simp only [bne_eq_false_iff_eq]; omega
    have K16 := Lib.hid h16
    clear h16
    by_cases h18 : ¬ x18 = 243
    · have d18 : ((x18 : Int) != 243) = true := by simp only [bne_iff_ne, ne_eq]; omega
      have FG : Hid (¬ (true = true ∧ x16 = 3 ∧ x18 = 243 ∧ x20 = 1 ∧ x36 = 0 ∧ x40 = 52 ∧ x42 = 32)) := Lib.hid (fun h => h18 h.2.2.1)
      clear HV
      go_wp2_with (first
        | (refine (hC2.u16).mono ?_
           rintro e u3 ⟨rfl, hC3, hg⟩
           change CuP B L g fs 18 u3 at hC3
           replace hG := has_grown hG hg (fun l e => by injection e with e; rw [← e]; exact hne)
           replace hb0 := below_only hb0 hg hgw hb0.size
           clear hg hC2
           rw [← HX16.out])
        | (refine (hC3.u16).mono ?_
           rintro e u4 ⟨rfl, hC4, hg⟩
           change CuP B L g fs 20 u4 at hC4
           replace hG := has_grown hG hg (fun l e => by injection e with e; rw [← e]; exact hne)
           replace hb0 := below_only hb0 hg hgw hb0.size
           clear hg hC3
           rw [← HX18.out])
        | (refine wp_store_cs rfl 62 _ _ rfl gh rfl (tpC 0 0 0) (congrArg Value.agg tpC_zero) _ (by rfl) (infoTP _ _ _) (tpC_all _ _ _) hG ?_; intro wz hz hgz))
      exact bodyPost_ret (v := .tuple #[.agg (tpC 0 0 0), .bool false]) (results_cell_tmp rfl _ _ gh 62 _ _ _ rfl rfl hz Try.underlying62 rfl (infoTP _ _ _)) rfl ⟨⟨0, 0, 0, by rw [HT.out, decide_eq_false FG.out], fun h => by rw [HT.out, decide_eq_false FG.out] at h; cases h⟩, below_only hb0 hgz hghw hb0.size⟩
    replace h18 : x18 = 243 := by omega
    have d18 : ((x18 : Int) != 243) = false := by simp only [bne_eq_false_iff_eq]; omega
    have K18 := Lib.hid h18
    clear h18
    by_cases h20 : ¬ x20 = 1
    · have d20 : ((x20 : Int) != 1) = true := by simp only [bne_iff_ne, ne_eq]; omega
      have FG : Hid (¬ (true = true ∧ x16 = 3 ∧ x18 = 243 ∧ x20 = 1 ∧ x36 = 0 ∧ x40 = 52 ∧ x42 = 32)) := Lib.hid (fun h => h20 h.2.2.2.1)
      clear HV
      go_wp2_with (first
        | (refine (hC2.u16).mono ?_
           rintro e u3 ⟨rfl, hC3, hg⟩
           change CuP B L g fs 18 u3 at hC3
           replace hG := has_grown hG hg (fun l e => by injection e with e; rw [← e]; exact hne)
           replace hb0 := below_only hb0 hg hgw hb0.size
           clear hg hC2
           rw [← HX16.out])
        | (refine (hC3.u16).mono ?_
           rintro e u4 ⟨rfl, hC4, hg⟩
           change CuP B L g fs 20 u4 at hC4
           replace hG := has_grown hG hg (fun l e => by injection e with e; rw [← e]; exact hne)
           replace hb0 := below_only hb0 hg hgw hb0.size
           clear hg hC3
           rw [← HX18.out])
        | (refine (hC4.u32).mono ?_
           rintro e u5 ⟨rfl, hC5, hg⟩
           change CuP B L g fs 24 u5 at hC5
           replace hG := has_grown hG hg (fun l e => by injection e with e; rw [← e]; exact hne)
           replace hb0 := below_only hb0 hg hgw hb0.size
           clear hg hC4
           rw [← HX20.out])
        | (refine wp_store_cs rfl 62 _ _ rfl gh rfl (tpC 0 0 0) (congrArg Value.agg tpC_zero) _ (by rfl) (infoTP _ _ _) (tpC_all _ _ _) hG ?_; intro wz hz hgz))
      exact bodyPost_ret (v := .tuple #[.agg (tpC 0 0 0), .bool false]) (results_cell_tmp rfl _ _ gh 62 _ _ _ rfl rfl hz Try.underlying62 rfl (infoTP _ _ _)) rfl ⟨⟨0, 0, 0, by rw [HT.out, decide_eq_false FG.out], fun h => by rw [HT.out, decide_eq_false FG.out] at h; cases h⟩, below_only hb0 hgz hghw hb0.size⟩
    replace h20 : x20 = 1 := by omega
    have d20 : ((x20 : Int) != 1) = false := by simp only [bne_eq_false_iff_eq]; omega
    have K20 := Lib.hid h20
    clear h20
    go_wp2_with (first
      | (refine (hC2.u16).mono ?_
         rintro e u3 ⟨rfl, hC3, hg⟩
         change CuP B L g fs 18 u3 at hC3
         replace hG := has_grown hG hg (fun l e => by injection e with e; rw [← e]; exact hne)
         replace hb0 := below_only hb0 hg hgw hb0.size
         clear hg hC2
         rw [← HX16.out])
      | (refine (hC3.u16).mono ?_
         rintro e u4 ⟨rfl, hC4, hg⟩
         change CuP B L g fs 20 u4 at hC4
         replace hG := has_grown hG hg (fun l e => by injection e with e; rw [← e]; exact hne)
         replace hb0 := below_only hb0 hg hgw hb0.size
         clear hg hC3
         rw [← HX18.out])
      | (refine (hC4.u32).mono ?_
         rintro e u5 ⟨rfl, hC5, hg⟩
         change CuP B L g fs 24 u5 at hC5
         replace hG := has_grown hG hg (fun l e => by injection e with e; rw [← e]; exact hne)
         replace hb0 := below_only hb0 hg hgw hb0.size
         clear hg hC4
         rw [← HX20.out]))
    refine (hC5.u32).mono ?_
    rintro e u6 ⟨rfl, hC6, hg⟩
    change CuP B L g fs 28 u6 at hC6
    replace hG := has_grown hG hg (fun l e => by injection e with e; rw [← e]; exact hne)
    replace hb0 := below_only hb0 hg hgw hb0.size
    clear hg hC5
    rw [← HX24.out]
    go_wp2_with fail
    refine (hC6.u32).mono ?_
    rintro e u7 ⟨rfl, hC7, hg⟩
    change CuP B L g fs 32 u7 at hC7
    replace hG := has_grown hG hg (fun l e => by injection e with e; rw [← e]; exact hne)
    replace hb0 := below_only hb0 hg hgw hb0.size
    clear hg hC6
    rw [← HX28.out]
    go_wp2_with fail
    have hT : Has (u7.alloc (.cells #[.int .u32 (x24 : Int), .int .u32 (x28 : Int), .int .i64 0] 62)) u7.heap.size 62 (tpC x24 x28 0) := Has.new _ _ _
    have hb2 : Below u7.heap.size u7 (u7.alloc (.cells #[.int .u32 (x24 : Int), .int .u32 (x28 : Int), .int .i64 0] 62)) := (Below.refl _ _).alloc (Nat.le_refl _) _
    have hgl := hC7.lt
    have hGl := hG.lt
    have hwl := hb0.size
    replace hC7 := hC7.after hb2
    replace hG := hG.after hb2
    replace hb0 := below_trans hb0 (hb2.mono (Nat.le_refl _))
    generalize u7.alloc (.cells #[.int .u32 (x24 : Int), .int .u32 (x28 : Int), .int .i64 0] 62) = v7 at *
    obtain ⟨gt, hgt⟩ : ∃ x, x = u7.heap.size := ⟨_, rfl⟩
    have hgtg : gt ≠ g := by omega
    have hght : gh ≠ gt := by omega
    have hgtw : w.heap.size ≤ gt := by omega
    rw [← hgt] at hT ⊢
    clear hgt hb2 hgl hGl hwl
    go_wp2_with (first
      | (refine (hC7.u32).mono ?_
         rintro e u8 ⟨rfl, hC8, hg⟩
         change CuP B L g fs 36 u8 at hC8
         replace hG := has_grown hG hg (fun l e => by injection e with e; rw [← e]; exact hne)
         replace hT := has_grown hT hg (fun l e => by injection e with e; rw [← e]; exact hgtg)
         replace hb0 := below_only hb0 hg hgw hb0.size
         clear hg hC7))
    by_cases h36 : ¬ x36 = 0
    · have d36 : ((x36 : Int) != 0) = true := by simp only [bne_iff_ne, ne_eq]; omega
      have FG : Hid (¬ (true = true ∧ x16 = 3 ∧ x18 = 243 ∧ x20 = 1 ∧ x36 = 0 ∧ x40 = 52 ∧ x42 = 32)) := Lib.hid (fun h => h36 h.2.2.2.2.1)
      clear HV
      go_wp2_with (first
        | (refine (hC8.u32).mono ?_
           rintro e u9 ⟨rfl, hC9, hg⟩
           change CuP B L g fs 40 u9 at hC9
           replace hG := has_grown hG hg (fun l e => by injection e with e; rw [← e]; exact hne)
           replace hT := has_grown hT hg (fun l e => by injection e with e; rw [← e]; exact hgtg)
           replace hb0 := below_only hb0 hg hgw hb0.size
           clear hg hC8
           rw [← HX36.out])
        | (refine wp_store_cs rfl 62 _ _ rfl gh rfl (tpC 0 0 0) (congrArg Value.agg tpC_zero) _ (by rfl) (infoTP _ _ _) (tpC_all _ _ _) hG ?_; intro wz hz hgz))
      exact bodyPost_ret (v := .tuple #[.agg (tpC 0 0 0), .bool false]) (results_cell_tmp rfl _ _ gh 62 _ _ _ rfl rfl hz Try.underlying62 rfl (infoTP _ _ _)) rfl ⟨⟨0, 0, 0, by rw [HT.out, decide_eq_false FG.out], fun h => by rw [HT.out, decide_eq_false FG.out] at h; cases h⟩, below_only hb0 hgz hghw hb0.size⟩
    replace h36 : x36 = 0 := by omega
    have d36 : ((x36 : Int) != 0) = false := by simp only [bne_eq_false_iff_eq]; omega
    have K36 := Lib.hid h36
    clear h36
    by_cases h40 : ¬ x40 = 52
    · have d40 : ((x40 : Int) != 52) = true := by simp only [bne_iff_ne, ne_eq]; omega
      have FG : Hid (¬ (true = true ∧ x16 = 3 ∧ x18 = 243 ∧ x20 = 1 ∧ x36 = 0 ∧ x40 = 52 ∧ x42 = 32)) := Lib.hid (fun h => h40 h.2.2.2.2.2.1)
      clear HV
      go_wp2_with (first
        | (refine (hC8.u32).mono ?_
           rintro e u9 ⟨rfl, hC9, hg⟩
           change CuP B L g fs 40 u9 at hC9
           replace hG := has_grown hG hg (fun l e => by injection e with e; rw [← e]; exact hne)
           replace hT := has_grown hT hg (fun l e => by injection e with e; rw [← e]; exact hgtg)
           replace hb0 := below_only hb0 hg hgw hb0.size
           clear hg hC8
           rw [← HX36.out])
        | (refine (hC9.u16).mono ?_
           rintro e u10 ⟨rfl, hC10, hg⟩
           change CuP B L g fs 42 u10 at hC10
           replace hG := has_grown hG hg (fun l e => by injection e with e; rw [← e]; exact hne)
           replace hT := has_grown hT hg (fun l e => by injection e with e; rw [← e]; exact hgtg)
           replace hb0 := below_only hb0 hg hgw hb0.size
           clear hg hC9
           rw [← HX40.out])
        | (refine wp_store_cs rfl 62 _ _ rfl gh rfl (tpC 0 0 0) (congrArg Value.agg tpC_zero) _ (by rfl) (infoTP _ _ _) (tpC_all _ _ _) hG ?_; intro wz hz hgz))
      exact bodyPost_ret (v := .tuple #[.agg (tpC 0 0 0), .bool false]) (results_cell_tmp rfl _ _ gh 62 _ _ _ rfl rfl hz Try.underlying62 rfl (infoTP _ _ _)) rfl ⟨⟨0, 0, 0, by rw [HT.out, decide_eq_false FG.out], fun h => by rw [HT.out, decide_eq_false FG.out] at h; cases h⟩, below_only hb0 hgz hghw hb0.size⟩
    replace h40 : x40 = 52 := by omega
    have d40 : ((x40 : Int) != 52) = false := by simp only [bne_eq_false_iff_eq]; omega
    have K40 := Lib.hid h40
    clear h40
    by_cases h42 : ¬ x42 = 32
    · have d42 : ((x42 : Int) != 32) = true := by simp only [bne_iff_ne, ne_eq]; omega
      have FG : Hid (¬ (true = true ∧ x16 = 3 ∧ x18 = 243 ∧ x20 = 1 ∧ x36 = 0 ∧ x40 = 52 ∧ x42 = 32)) := Lib.hid (fun h => h42 h.2.2.2.2.2.2)
      clear HV
      go_wp2_with (first
        | (refine (hC8.u32).mono ?_
           rintro e u9 ⟨rfl, hC9, hg⟩
           change CuP B L g fs 40 u9 at hC9
           replace hG := has_grown hG hg (fun l e => by injection e with e; rw [← e]; exact hne)
           replace hT := has_grown hT hg (fun l e => by injection e with e; rw [← e]; exact hgtg)
           replace hb0 := below_only hb0 hg hgw hb0.size
           clear hg hC8
           rw [← HX36.out])
        | (refine (hC9.u16).mono ?_
           rintro e u10 ⟨rfl, hC10, hg⟩
           change CuP B L g fs 42 u10 at hC10
           replace hG := has_grown hG hg (fun l e => by injection e with e; rw [← e]; exact hne)
           replace hT := has_grown hT hg (fun l e => by injection e with e; rw [← e]; exact hgtg)
           replace hb0 := below_only hb0 hg hgw hb0.size
           clear hg hC9
           rw [← HX40.out])
        | (refine (hC10.u16).mono ?_
           rintro e u11 ⟨rfl, hC11, hg⟩
           change CuP B L g fs 44 u11 at hC11
           replace hG := has_grown hG hg (fun l e => by injection e with e; rw [← e]; exact hne)
           replace hT := has_grown hT hg (fun l e => by injection e with e; rw [← e]; exact hgtg)
           replace hb0 := below_only hb0 hg hgw hb0.size
           clear hg hC10
           rw [← HX42.out])
        | (refine wp_store_cs rfl 62 _ _ rfl gh rfl (tpC 0 0 0) (congrArg Value.agg tpC_zero) _ (by rfl) (infoTP _ _ _) (tpC_all _ _ _) hG ?_; intro wz hz hgz))
      exact bodyPost_ret (v := .tuple #[.agg (tpC 0 0 0), .bool false]) (results_cell_tmp rfl _ _ gh 62 _ _ _ rfl rfl hz Try.underlying62 rfl (infoTP _ _ _)) rfl ⟨⟨0, 0, 0, by rw [HT.out, decide_eq_false FG.out], fun h => by rw [HT.out, decide_eq_false FG.out] at h; cases h⟩, below_only hb0 hgz hghw hb0.size⟩
    replace h42 : x42 = 32 := by omega
    have d42 : ((x42 : Int) != 32) = false := by simp only [bne_eq_false_iff_eq]; omega
    have K42 := Lib.hid h42
    clear h42
    go_wp2_with (first
      | (refine (hC8.u32).mono ?_
         rintro e u9 ⟨rfl, hC9, hg⟩
         change CuP B L g fs 40 u9 at hC9
         replace hG := has_grown hG hg (fun l e => by injection e with e; rw [← e]; exact hne)
         replace hT := has_grown hT hg (fun l e => by injection e with e; rw [← e]; exact hgtg)
         replace hb0 := below_only hb0 hg hgw hb0.size
         clear hg hC8
         rw [← HX36.out])
      | (refine (hC9.u16).mono ?_
         rintro e u10 ⟨rfl, hC10, hg⟩
         change CuP B L g fs 42 u10 at hC10
         replace hG := has_grown hG hg (fun l e => by injection e with e; rw [← e]; exact hne)
         replace hT := has_grown hT hg (fun l e => by injection e with e; rw [← e]; exact hgtg)
         replace hb0 := below_only hb0 hg hgw hb0.size
         clear hg hC9
         rw [← HX40.out])
      | (refine (hC10.u16).mono ?_
         rintro e u11 ⟨rfl, hC11, hg⟩
         change CuP B L g fs 44 u11 at hC11
         replace hG := has_grown hG hg (fun l e => by injection e with e; rw [← e]; exact hne)
         replace hT := has_grown hT hg (fun l e => by injection e with e; rw [← e]; exact hgtg)
         replace hb0 := below_only hb0 hg hgw hb0.size
         clear hg hC10
         rw [← HX42.out])
      | (refine (hC11.u16).mono ?_
         rintro e u12 ⟨rfl, hC12, hg⟩
         change CuP B L g fs 46 u12 at hC12
         replace hG := has_grown hG hg (fun l e => by injection e with e; rw [← e]; exact hne)
         replace hT := has_grown hT hg (fun l e => by injection e with e; rw [← e]; exact hgtg)
         replace hb0 := below_only hb0 hg hgw hb0.size
         clear hg hC11
         rw [← HX44.out]
         have hf2 := hT.free 2
         have hc2 : u12.cell? ⟨gt, 2, none⟩ = some (.int .i64 0) := hT.cell 2
         have hT2 := hT.set 2 (.int .i64 (x44 : Int))
         have hgs := only_setCell u12 gt 2 (.int .i64 (x44 : Int))
         have hG2 := has_grown hG hgs (fun l e => by injection e with e; rw [← e]; exact hght)
         have hb3 := below_only hb0 hgs hgtw hb0.size)
      | (refine wpList_load_has 62 _ rfl _ rfl rfl 62 _ hT2 _ Try.underlying62 rfl (infoTP x24 x28 x44) ?_)
      | (refine wp_store_cs rfl 62 _ _ rfl gh rfl (tpC x24 x28 x44) rfl _ (by rfl) (infoTP _ _ _) (tpC_all _ _ _) hG2 ?_; intro wz hz hgz))
    exact bodyPost_ret (v := .tuple #[.agg (tpC x24 x28 x44), .bool true]) (results_cell_tmp rfl _ _ gh 62 _ _ _ rfl rfl hz Try.underlying62 rfl (infoTP _ _ _)) rfl ⟨⟨x24, x28, x44, by rw [HT.out, decide_eq_true ⟨by trivial, K16.out, K18.out, K20.out, K36.out, K40.out, K42.out⟩], fun _ => HV.out⟩, below_only hb3 hgz hghw hb3.size⟩
end Go.Proofs.Ytoplknankmomcaa
namespace Go.Proofs.Ytoplknankmomcaa
open Go Go.RowKit

theorem infoHE : (Try.prog.info? 51).map (fun i => (i.zero, i.size, i.bytes)) = some (some (.agg (tab 6 (hdE hd0))), 6, 32) := by kernel_rfl
/-- the headers' loop -/
structure HeO (w0 : World) (B L g : Nat) (bs ts : List UInt8) (v : Value) (i : Nat) (w : World) : Prop where
  own : w.ownsRow L 51 6 v i (cellsL 6 hdE (hds bs i))
  cur : CuP B L g ts (32 * i) w
  bel : Below w0.heap.size w0 w
  siz : L ≤ w.heap.size
  good : ∀ j, j < i → hdX bs (hAt bs + 32 * j) = false
theorem hdsB_bad {bs : List UInt8} {i : Nat} (hi : i < hN bs) (h : hdX bs (hAt bs + 32 * i) = true) : hdsB bs = false := by
  cases hb : hdsB bs with
  | false => rfl
  | true =>
    have := List.all_eq_true.1 hb i (List.mem_range.2 hi)
    rw [h] at this; cases this
theorem hdsB_ok {bs : List UInt8} (h : ∀ i, i < hN bs → hdX bs (hAt bs + 32 * i) = false) : hdsB bs = true := by
  refine List.all_eq_true.2 fun i hi => ?_
  rw [h i (List.mem_range.1 hi)]; rfl
def plB (bs : List UInt8) : Bool := decide (1 ≤ hN bs ∧ hN bs ≤ 5 ∧ hAt bs + 32 * hN bs ≤ bs.length)
def HdsR (w : World) (bs : List UInt8) (e : Ending) (w' : World) : Prop :=
  (∃ s b, e = .returned (.tuple #[Sl.v s, .bool b]) ∧ b = (plB bs && hdsB bs) ∧ (b = true → SlH w' s (hds bs (hN bs)))) ∧ Below w.heap.size w w'
theorem hdsR_bad {w w' : World} {bs : List UInt8} (h : (plB bs && hdsB bs) = false) (hb : Below w.heap.size w w') : HdsR w bs (.returned (.tuple #[.slice none 0 0, .bool false])) w' :=
  ⟨⟨⟨none, 0, 0⟩, false, rfl, h.symm, fun h => by cases h⟩, hb⟩
set_option maxRecDepth 100000 in
set_option maxHeartbeats 4000000 in
theorem ehdrs_any (bs : List UInt8) (A : Option Addr) (n c en : Nat) (w : World) (hS : SlA w A n c bs) (hl : bs.length ≤ 100000) :
    Calls Try.prog 21 #[.slice A n c, .agg (tpC en (hAt bs) (hN bs))] w fun e w' => HdsR w bs e w' := by
  have hm16 : hN bs < 65536 := nm2 bs 44
  have hp32 : hAt bs < 4294967296 := nm4 bs 28
  obtain ⟨p, hp⟩ : ∃ x, x = hAt bs := ⟨_, rfl⟩
  obtain ⟨m, hm⟩ : ∃ x, x = hN bs := ⟨_, rfl⟩
  rw [← hp] at hp32
  rw [← hm] at hm16
  rw [← hp, ← hm]
  have HPL : Hid (plB bs = decide (1 ≤ m ∧ m ≤ 5 ∧ p + 32 * m ≤ bs.length)) := Lib.hid (by rw [hp, hm]; rfl)
  have HPM : Hid (p = hAt bs ∧ m = hN bs) := Lib.hid ⟨hp, hm⟩
  have HS := Lib.hid hS
  have hn : bs.length = n := hS.1
  have HN := Lib.hid hn
  clear hp hm hS hn
  have hG : Has (w.alloc (.cells #[.int .u32 (en : Int), .int .u32 (p : Int), .int .i64 (m : Int)] 62)) w.heap.size 62 (tpC en p m) := Has.new _ _ _
  have hb0 : Below w.heap.size w (w.alloc (.cells #[.int .u32 (en : Int), .int .u32 (p : Int), .int .i64 (m : Int)] 62)) := (Below.refl _ _).alloc (Nat.le_refl _) _
  show Calls _ _ #[_, .agg #[.int .u32 (en : Int), .int .u32 (p : Int), .int .i64 (m : Int)]] _ _
  go_enter Try.func21, Try.ntmps21
  go_upto_region 1 with fail
  have hc1 : (w.alloc (.cells #[.int .u32 (en : Int), .int .u32 (p : Int), .int .i64 (m : Int)] 62)).cell? ⟨w.heap.size, 1, none⟩ = some (.int .u32 (p : Int)) := hG.cell 1
  have hc2 : (w.alloc (.cells #[.int .u32 (en : Int), .int .u32 (p : Int), .int .i64 (m : Int)] 62)).cell? ⟨w.heap.size, 2, none⟩ = some (.int .i64 (m : Int)) := hG.cell 2
  generalize w.alloc (.cells #[.int .u32 (en : Int), .int .u32 (p : Int), .int .i64 (m : Int)] 62) = u at *
  obtain ⟨gb, hgb⟩ : ∃ x, x = w.heap.size := ⟨_, rfl⟩
  rw [← hgb] at hG hc1 hc2 ⊢
  clear hgb
  by_cases h1 : m < 1
  · have d1 : (m : Int) < 1 := by omega
    have hbad : Hid ((plB bs && hdsB bs) = false) := Lib.hid (by rw [HPL.out, decide_eq_false (by omega)]; rfl)
    clear h1
    go_wp2_with fail
    go_ret2
    exact hdsR_bad hbad.out hb0
  have d1 : 1 ≤ (m : Int) := by omega
  by_cases h5 : 5 < m
  · have d5 : 5 < (m : Int) := by omega
    have hbad : Hid ((plB bs && hdsB bs) = false) := Lib.hid (by rw [HPL.out, decide_eq_false (by omega)]; rfl)
    clear h1 h5
    go_wp2_with fail
    go_ret2
    exact hdsR_bad hbad.out hb0
  have d5 : (m : Int) ≤ 5 := by omega
  have H15 : Hid (1 ≤ m ∧ m ≤ 5) := Lib.hid (by omega)
  have hmul : (32 * m) < 4294967296 := by omega
  have kP := epart_any bs A n c p (32 * m) u (HS.out.below hb0) hl hp32 hmul
  rw [show ((32 * m : Nat) : Int) = 32 * (m : Int) by omega] at kP
  clear h1 h5
  by_cases hin : ¬ p + 32 * m ≤ bs.length
  · have hbad : Hid ((plB bs && hdsB bs) = false) := Lib.hid (by rw [HPL.out, decide_eq_false (by omega)]; rfl)
    rw [decide_eq_false hin] at kP
    clear hin
    go_wp2_with (refine kP.mono ?_; rintro e u0 ⟨⟨A', m', k', rfl, _⟩, rfl⟩)
    go_ret2
    exact hdsR_bad hbad.out hb0
  replace hin : p + 32 * m ≤ bs.length := by omega
  rw [decide_eq_true hin] at kP
  have HIN := Lib.hid hin
  go_wp2_with (refine kP.mono ?_; rintro e u0 ⟨⟨A', m', k', rfl, hP⟩, rfl⟩; obtain ⟨hSl, hA', rfl, rfl⟩ := hP hin)
  have htl : ((bs.drop p).take (32 * m)).length = 32 * m := by rw [List.length_take, List.length_drop]; omega
  have hpt := fun i (h : i < m) => hdG_part (bs := bs) (a := p) (m := 32 * m) (q := 32 * i) hin (by omega)
  have HPT := Lib.hid hpt
  clear hpt hin kP hP
  generalize (bs.drop p).take (32 * m) = ts at *
  refine (cu_at (bs := ts) A' (32 * m) (32 * m) hSl hA' (by omega)).mono ?_
  rintro e u1 ⟨⟨g, rfl, hC⟩, hb1⟩
  have hG1 := hG.after hb1
  have hc1 : u1.cell? ⟨gb, 1, none⟩ = some (.int .u32 (p : Int)) := hG1.cell 1
  have hc2 : u1.cell? ⟨gb, 2, none⟩ = some (.int .i64 (m : Int)) := hG1.cell 2
  have hb01 := below_trans hb0 (hb1.mono (Nat.le_refl _))
  have hBw : w.heap.size ≤ u.heap.size := hb0.size
  obtain ⟨B, hB⟩ : ∃ x, x = u.heap.size := ⟨_, rfl⟩
  obtain ⟨L, hL⟩ : ∃ x, x = u1.heap.size := ⟨_, rfl⟩
  have hO : HeO w B L g bs ts (.slice none 0 0) 0 u1 := ⟨World.ownsRow_nil _ _ _ _, by rw [hB, hL]; exact hC, hb01, by omega, fun j h => absurd h (Nat.not_lt_zero _)⟩
  rw [← hB] at hBw
  have hwg : w.heap.size ≤ g := by have := hO.cur.gB; omega
  have hwL : w.heap.size ≤ L := by have := hO.cur.gB; omega
  clear hb0 hG1 hG hb1 hb01 hC hSl hA' hL hB
  have HO := Lib.hid hO
  clear hO
  go_wp2_with fail
  go_loopw [9, 39] (fun va ct wr => ∃ i : Nat, i ≤ m ∧ ct = .int .i64 (i : Int) ∧ HeO w B L g bs ts va i wr) (fun _ ct _ => (m - (intOf ct)).toNat)
  case atStart => exact ⟨0, Nat.zero_le _, rfl, HO.out⟩
  case round =>
    obtain ⟨i, hi, rfl, hH⟩ := hrel
    clear HO hc1 hc2
    by_cases hlt : i < m
    · have di : (i : Int) < (m : Int) := by omega
      obtain ⟨hg1, hg2⟩ := HPT.out i hlt
      have kH := ehead_any hH.cur hH.siz
      obtain ⟨gd, hgd⟩ : ∃ x, x = hdG ts (32 * i) := ⟨_, rfl⟩
      obtain ⟨hd, hhd⟩ : ∃ x, x = hdS ts (32 * i) := ⟨_, rfl⟩
      rw [← hgd, ← hhd] at kH
      have HGD : Hid (gd = hdG bs (p + 32 * i) ∧ (gd = true → hd = hdA bs (p + 32 * i))) := Lib.hid ⟨by rw [hgd, hg1], fun h => by rw [hhd]; unfold hdS; rw [← hgd, if_pos h, hg2]⟩
      have HH := Lib.hid hH
      clear hg1 hg2 hgd hhd hH
      cases gd with
      | false =>
        have hbad : Hid ((plB bs && hdsB bs) = false) := Lib.hid (by rw [hdsB_bad (i := i) (by rw [← HPM.out.2]; exact hlt) (by rw [hdX_eq, ← HPM.out.1, ← HGD.out.1]; rfl), Bool.and_false])
        go_wp2_with (first
          | (refine kH.mono ?_
             rintro e w1 ⟨rfl, hC1, hg1⟩
             have hb1 := below_only HH.out.bel hg1 hwg HH.out.bel.size)
          | (refine wp_fresh 51 6 _ _ _ _ rfl rfl rfl rfl zeroHE infoHE6 (by omega) (hdE_one _) rfl rfl ?_
             intro w2 hG hb2 hz2))
        go_ret2
        exact hdsR_bad hbad.out (hb1.trans (hb2.mono hb1.size))
      | true =>
        have hhd := HGD.out.2 rfl
        have hwf : hd.Wf := by rw [hhd]; exact hdA_wf _ _
        have HX : Hid (hdX bs (p + 32 * i) = !decide (hd.a + hd.f ≤ bs.length)) := Lib.hid (by rw [hdX_eq, ← HGD.out.1, hhd]; rfl)
        have HHD := Lib.hid hhd
        have kP2 := fun w' (hb : Below w.heap.size w w') => epart_any bs A n c hd.a hd.f w' (HS.out.below hb) hl hwf.a hwf.f
        clear hhd hwf
        by_cases hin : ¬ hd.a + hd.f ≤ bs.length
        · have hbad : Hid ((plB bs && hdsB bs) = false) := Lib.hid (by rw [hdsB_bad (i := i) (by rw [← HPM.out.2]; exact hlt) (by rw [← HPM.out.1, HX.out, decide_eq_false hin]; rfl), Bool.and_false])
          have hf := decide_eq_false hin
          simp only [hf] at kP2
          clear hin hf
          go_wp2_with (first
            | (refine kH.mono ?_
               rintro e w1 ⟨rfl, hC1, hg1⟩
               have hb1 := below_only HH.out.bel hg1 hwg HH.out.bel.size)
            | (refine wp_fresh 51 6 _ _ _ _ rfl rfl rfl rfl zeroHE infoHE6 (by omega) (hdE_one _) rfl rfl ?_
               intro w2 hG hb2 hz2
               have hc1 : w2.cell? ⟨_, 1, none⟩ = some (.int .u32 (hd.a : Int)) := hG.cellTab 1 (by omega)
               have hc3 : w2.cell? ⟨_, 3, none⟩ = some (.int .u32 (hd.f : Int)) := hG.cellTab 3 (by omega)
               have hb12 := hb1.trans (hb2.mono hb1.size)
               have kP := kP2 w2 hb12)
            | (refine kP.mono ?_
               rintro e u9 ⟨⟨A9, m9, k9, rfl, _⟩, rfl⟩))
          go_ret2
          exact hdsR_bad hbad.out hb12
        · replace hin : hd.a + hd.f ≤ bs.length := by omega
          have hf := decide_eq_true hin
          have HX2 : Hid (hdX bs (p + 32 * i) = false) := Lib.hid (by rw [HX.out, hf]; rfl)
          simp only [hf] at kP2
          clear hin hf HX
          obtain ⟨Av, cv, rfl⟩ := own_form HH.out.own
          have hm5 : i + 1 ≤ 5 := by have := H15.out.2; omega
          go_wp2_with (first
            | (refine kH.mono ?_
               rintro e w1 ⟨rfl, hC1, hg1⟩
               have hb1 := below_only HH.out.bel hg1 hwg HH.out.bel.size
               have hown1 := own_ne HH.out.own (fun l e => by have h3 := (own_blk HH.out.own e).1; have h4 := hC1.gB.2; omega) hg1
               have hL1 := Nat.le_trans HH.out.siz hg1.size)
            | (refine wp_fresh 51 6 _ _ _ _ rfl rfl rfl rfl zeroHE infoHE6 (by omega) (hdE_one _) rfl rfl ?_
               intro w2 hG hb2 hz2
               have hc1 : w2.cell? ⟨_, 1, none⟩ = some (.int .u32 (hd.a : Int)) := hG.cellTab 1 (by omega)
               have hc3 : w2.cell? ⟨_, 3, none⟩ = some (.int .u32 (hd.f : Int)) := hG.cellTab 3 (by omega)
               have hb12 := hb1.trans (hb2.mono hb1.size)
               have hown2 := own_after hown1 hb2
               have hC2 := hC1.after hb2
               have hL2 := Nat.le_trans hL1 hb2.size
               have kP := kP2 w2 hb12)
            | (refine kP.mono ?_
               rintro e u9 ⟨⟨A9, m9, k9, rfl, _⟩, rfl⟩)
            | (refine wpList_load_has 51 _ rfl _ rfl rfl 51 _ hG _ Try.underlying51 rfl (by rw [tab_size]; exact infoHE6) ?_)
            | (refine wp_build_el Try.underlying30 infoHE (by decide) (by decide) rfl _ rfl hd rfl ?_
               intro w6 hw6
               have hb6 : Below w2.heap.size w2 w6 := by subst hw6; exact (Below.refl _ _).alloc (Nat.le_refl _) _
               have hH6 : Has w6 w2.heap.size 51 (tab 6 (hdE hd)) := by subst hw6; exact Has.new _ _ _
               have hown6 := own_after hown2 hb6
               have hC6 := hC2.after hb6
               have hL6 := Nat.le_trans hL2 hb6.size
               have hb16 := hb12.trans (hb6.mono hb12.size)
               clear hw6)
            | (refine wp_append_el Try.underlying30 infoHE rfl (by decide) (by decide) hdE_one rfl _ _ rfl L _ i (hds bs i) rfl hown6 w2.heap.size rfl hd hH6 (by omega) hL6 ?_
               intro v7 w7 hown7 hgr7))
          go_roundw
          case rel =>
            refine ⟨i + 1, hlt, by go_num, ⟨?_, ?_, below_own hb16 hown6 hwL hb16.size hgr7, Nat.le_trans hL6 hgr7.size, fun j hj => ?_⟩⟩
            · rw [hds_succ, ← HPM.out.1, ← HHD.out]
              exact hown7
            · rw [show 32 * (i + 1) = 32 * i + 32 by omega]
              exact hC6.beside hgr7 fun l e => (own_blk hown6 e).1
            · by_cases hji : j = i
              · subst hji; rw [← HPM.out.1]; exact HX2.out
              · exact HH.out.good j (by omega)
          case measure => simp [intOf] <;> omega
    · obtain rfl : i = m := by omega
      obtain ⟨Av, cv, rfl⟩ := own_form hH.own
      go_wp2_with fail
      go_ret2
      have hpl : plB bs = true := by rw [HPL.out]; exact decide_eq_true ⟨H15.out.1, H15.out.2, HIN.out⟩
      have hds : hdsB bs = true := hdsB_ok fun j hj => hH.good j (by rw [HPM.out.2]; exact hj)
      refine ⟨⟨⟨Av, _, cv⟩, true, rfl, by rw [hpl, hds]; rfl, fun _ => ?_⟩, hH.bel⟩
      rw [← HPM.out.2]
      exact own_slC hH.own (by decide) (by have := H15.out.2; omega) hd0
end Go.Proofs.Ytoplknankmomcaa
namespace Go.Proofs.Ytoplknankmomcaa
open Go Go.RowKit

def HeadsR (w : World) (bs : List UInt8) (e : Ending) (w' : World) : Prop :=
  (∃ s, e = .returned (.tuple #[.int .u32 (((headsN bs).1 : Nat) : Int), Sl.v s, .int .i64 (((headsN bs).2.2 : Nat) : Int)]) ∧ SlH w' s (headsN bs).2.1) ∧ Below w.heap.size w w'
theorem slH_nil (w : World) : SlH w ⟨none, 0, 0⟩ [] := ⟨rfl, ⟨Nat.le_refl _, Nat.zero_le _⟩, fun h => absurd h (Nat.lt_irrefl _)⟩
theorem headsR_bad {w w' : World} {bs : List UInt8} (h : (fileB bs && hdsB bs) = false) (hb : Below w.heap.size w w') : HeadsR w bs (.returned (.tuple #[.int .u32 0, .slice none 0 0, .int .i64 8])) w' := by
  have e : headsN bs = (0, [], 8) := by unfold headsN; rw [h]; rfl
  unfold HeadsR
  rw [e]
  exact ⟨⟨⟨none, 0, 0⟩, rfl, slH_nil _⟩, hb⟩
theorem headsR_ok {w w' : World} {bs : List UInt8} {s : Sl} (h : (fileB bs && hdsB bs) = true) (hs : SlH w' s (hds bs (hN bs))) (hb : Below w.heap.size w w') : HeadsR w bs (.returned (.tuple #[.int .u32 ((nm bs 4 24 : Nat) : Int), Sl.v s, .int .i64 0])) w' := by
  have e : headsN bs = (nm bs 4 24, hds bs (hN bs), 0) := by unfold headsN; rw [if_pos h]
  unfold HeadsR
  rw [e]
  exact ⟨⟨s, rfl, hs⟩, hb⟩
set_option maxRecDepth 100000 in
set_option maxHeartbeats 2000000 in
theorem eheads_any (bs : List UInt8) (A : Option Addr) (n c : Nat) (w : World) (hS : SlA w A n c bs) (hl : bs.length ≤ 100000) :
    Calls Try.prog 12 #[.slice A n c] w fun e w' => HeadsR w bs e w' := by
  have kT := etop_any bs A n c w hS hl
  have hfb := fileB_top bs
  obtain ⟨b, hb⟩ : ∃ x, x = topB bs := ⟨_, rfl⟩
  rw [← hb] at kT hfb
  have HFB : Hid (fileB bs = (b && plB bs)) := Lib.hid hfb
  have HS := Lib.hid hS
  clear hb hfb hS
  go_enter Try.func12, Try.ntmps12
  go_upto_region 2 with fail
  refine kT.mono ?_
  rintro e u ⟨⟨en, p, m, rfl, hT⟩, hb⟩
  rw [show tpC en p m = #[.int .u32 (en : Int), .int .u32 (p : Int), .int .i64 (m : Int)] from rfl]
  clear kT
  go_upto_region 2 with fail
  have hG : Has (u.alloc (.cells #[.int .u32 (en : Int), .int .u32 (p : Int), .int .i64 (m : Int)] 62)) u.heap.size 62 (tpC en p m) := Has.new _ _ _
  replace hb := hb.trans (((Below.refl _ _).alloc (Nat.le_refl _) (.cells #[.int .u32 (en : Int), .int .u32 (p : Int), .int .i64 (m : Int)] 62)).mono hb.size)
  generalize (u.alloc (.cells #[.int .u32 (en : Int), .int .u32 (p : Int), .int .i64 (m : Int)] 62)) = u1 at *
  generalize u.heap.size = gb at *
  cases b with
  | false =>
    clear hT
    go_wp2_with fail
    go_ret3
    exact headsR_bad (by rw [HFB.out]; rfl) hb
  | true =>
    obtain ⟨rfl, rfl, rfl⟩ := hT rfl
    have kH := ehdrs_any bs A n c (nm bs 4 24) u1 (HS.out.below hb) hl
    have HFB2 : Hid ((fileB bs && hdsB bs) = (plB bs && hdsB bs)) := Lib.hid (by rw [HFB.out, Bool.true_and])
    clear HFB hT
    have hGw := Lib.hid hG
    obtain ⟨en, hen⟩ : ∃ x, x = nm bs 4 24 := ⟨_, rfl⟩
    have HEN := Lib.hid hen
    rw [← hen] at hG kH
    clear hen
    go_upto_region 5 with (refine wpList_load_has 62 _ rfl _ rfl rfl 62 _ hG _ Try.underlying62 rfl (infoTP _ _ _) ?_)
    refine kH.mono ?_
    rintro e u2 ⟨⟨s, b2, rfl, hb2, hs⟩, hbb⟩
    have hG2 := hG.after hbb
    have hc0 : u2.cell? ⟨gb, 0, none⟩ = some (.int .u32 (en : Int)) := hG2.cell 0
    have hb3 := below_trans hb (hbb.mono (Nat.le_refl _))
    have HB2 := Lib.hid hb2
    have HSS := Lib.hid hs
    obtain ⟨As, ns, cs, rfl⟩ := s.out
    rw [show Sl.v ⟨As, ns, cs⟩ = .slice As ns cs from rfl]
    clear hb2 hs kH
    cases b2 with
    | false =>
      go_wp2_with fail
      go_ret3
      exact headsR_bad (by rw [HFB2.out, ← HB2.out]) hb3
    | true =>
      go_wp2_with fail
      go_ret3
      rw [HEN.out]
      exact headsR_ok (s := ⟨As, ns, cs⟩) (by rw [HFB2.out, ← HB2.out]) (HSS.out (by trivial)) hb3
end Go.Proofs.Ytoplknankmomcaa
