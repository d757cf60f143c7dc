/-
Layer 8: headers and segments as plain data; how they lie in memory; rows of the call's own, of any element.
Layer 8, the reference: Heads.
Package bytes' cursor at a place: what its calls answer, and that only its own block changes.
-/
import Derived.Test.YtgpofoggfifnjaaGreatDoorJAc
namespace Go.Proofs.YtgpofoggfifnjaaGreatDoor
open Go Go.RowKit

/-- a header -/
structure Hd where
  k : Nat
  a : Nat
  d : Nat
  f : Nat
  m : Nat
  r : Nat
deriving DecidableEq
def hd0 : Hd := ⟨0, 0, 0, 0, 0, 0⟩
/-- the number of the k bytes from q on, 0 where they are not all there -/
def nm (bs : List UInt8) (k q : Nat) : Nat := if q + k ≤ bs.length then leT (bsN bs) k q else 0
theorem nm_lt (bs : List UInt8) (k q : Nat) : nm bs k q < 256 ^ k := by
  unfold nm
  split
  · exact leT_lt (bsN_lt bs) k q
  · exact Nat.pow_pos (by decide)
theorem nm2 (bs : List UInt8) (q : Nat) : nm bs 2 q < 65536 := nm_lt bs 2 q
/-- how many program headers; where -/
def hN (bs : List UInt8) : Nat := nm bs 2 44
def hAt (bs : List UInt8) : Nat := nm bs 4 28
def rgt (x : Nat) : Nat := (if x % 2 = 1 then 4 else 0) + (if x / 2 % 2 = 1 then 2 else 0) + (if x / 4 = 1 then 1 else 0)
/-- the header that stands at p -/
def hdA (bs : List UInt8) (p : Nat) : Hd := ⟨nm bs 4 p, nm bs 4 (p + 4), nm bs 4 (p + 8), nm bs 4 (p + 16), nm bs 4 (p + 20), rgt (nm bs 4 (p + 24))⟩
def hds (bs : List UInt8) (n : Nat) : List Hd := (List.range n).map fun i => hdA bs (hAt bs + 32 * i)
/-- the cells of elements, one behind the other -/
def mcellsL {α : Type} (k : Nat) (f : α → Nat → Value) (xs : List α) : List Value := xs.flatMap fun x => (List.range k).map (f x)
theorem mcellsL_len {α : Type} (k : Nat) (f : α → Nat → Value) : ∀ xs : List α, (mcellsL k f xs).length = xs.length * k
  | [] => by simp [mcellsL]
  | q :: qs => by
    have := mcellsL_len k f qs
    simp only [mcellsL, List.flatMap_cons, List.length_append, List.length_map, List.length_range, List.length_cons] at this ⊢
    rw [this, Nat.succ_mul]; omega
theorem mcellsL_get {α : Type} (k : Nat) (f : α → Nat → Value) (d : α) : ∀ (qs : List α) (j i : Nat), j < qs.length → i < k → (mcellsL k f qs)[j * k + i]? = some (f (qs.getD j d) i)
  | [], j, i, h, _ => by simp at h
  | q :: qs, 0, i, _, hi => by
    show ((List.range k).map (f q) ++ mcellsL k f qs)[0 * k + i]? = _
    rw [Nat.zero_mul, Nat.zero_add, List.getElem?_append_left (by simpa using hi)]
    simp [hi]
  | q :: qs, j + 1, i, h, hi => by
    have h2 := mcellsL_get k f d qs j i (by simpa using h) hi
    show ((List.range k).map (f q) ++ mcellsL k f qs)[(j + 1) * k + i]? = _
    rw [show (j + 1) * k + i = k + (j * k + i) by rw [Nat.succ_mul]; omega, List.getElem?_append_right (by simp)]
    simpa using h2
/-- a row of elements reads as elements -/
theorem mown_slC {α : Type} {f : α → Nat → Value} {w : World} {base n c k : Nat} {e : TypeId} {A : Option Addr} {xs : List α} (h : w.ownsRow base e k (.slice A n c) n (mcellsL k f xs)) (hk : 0 < k) (hn : n ≤ 140737488355328) (d : α) :
    xs.length = n ∧ MSlC w ⟨A, n, c⟩ k fun j i => f (xs.getD j d) i := by
  have hl : xs.length = n := by
    have h1 := h.1
    rw [mcellsL_len] at h1
    exact Nat.eq_of_mul_eq_mul_right hk h1
  refine ⟨hl, ⟨?_, hn⟩, fun h0 => ?_⟩
  · rcases h.2 with ⟨hv, h0⟩ | ⟨g, cap, cur, hv, hb, hg, hnc, _⟩
    · show n ≤ c
      omega
    · have e2 : c = cap := by injection hv
      show n ≤ c
      omega
  · replace h0 : 0 < n := h0
    rcases h.2 with ⟨hv, h1⟩ | ⟨g, cap, cur, hv, hb, hg, hnc, _⟩
    · omega
    · have e1 : A = some ⟨g, 0, none⟩ := by injection hv
      subst e1
      have hc := h.cells (g := g) rfl
      refine ⟨g, 0, rfl, (Array.getElem?_eq_some_iff.1 hg).1, fun j i hj hi => ?_⟩
      replace hj : j < n := hj
      have := hc (j * k + i) _ (mcellsL_get k f d xs j i (by omega) hi)
      rw [Addr.add_mid] at this
      rw [Nat.add_assoc]
      exact this
end Go.Proofs.YtgpofoggfifnjaaGreatDoor
namespace Go.Proofs.YtgpofoggfifnjaaGreatDoor
open Go Go.RowKit

/-- the cursor is at q, or has failed -/
def CuAt (bs : List UInt8) (q : Nat) (s : Cu) : Prop := s.bad = decide (bs.length < q) ∧ (q ≤ bs.length → s.p = q)
theorem CuAt.okE {bs : List UInt8} {q k : Nat} {s : Cu} (h : CuAt bs q s) : okT bs.length s.p s.bad (k : Int) = decide (q ≤ bs.length ∧ q + k ≤ bs.length) := by
  obtain ⟨hb, hp⟩ := h
  unfold okT
  rw [hb, Bool.eq_iff_iff]
  simp only [Bool.and_eq_true, Bool.not_eq_true', decide_eq_false_iff_not, decide_eq_true_eq]
  constructor
  · rintro ⟨h1, _, h2⟩
    rw [hp (by omega)] at h2
    omega
  · rintro ⟨h1, h2⟩
    rw [hp h1]
    omega
theorem CuAt.num {bs : List UInt8} {q k : Nat} {s : Cu} (h : CuAt bs q s) : s.num bs k = nm bs k q := by
  unfold Cu.num tkN nm
  rw [h.okE]
  by_cases h2 : q + k ≤ bs.length
  · rw [if_pos h2, if_pos (decide_eq_true ⟨by omega, h2⟩), h.2 (by omega)]
  · rw [if_neg h2, if_neg (by rw [decide_eq_true_eq]; omega)]
theorem CuAt.nxt {bs : List UInt8} {q k : Nat} {s : Cu} (h : CuAt bs q s) : CuAt bs (q + k) (s.nxt bs k) := by
  unfold Cu.nxt CuAt
  dsimp only
  unfold tkP
  rw [h.okE]
  by_cases h2 : q + k ≤ bs.length
  · rw [if_pos (decide_eq_true ⟨by omega, h2⟩), decide_eq_true ⟨by omega, h2⟩, decide_eq_false (by omega), h.2 (by omega)]
    exact ⟨rfl, fun _ => by simp⟩
  · rw [if_neg (by rw [decide_eq_true_eq]; omega), decide_eq_false (by omega), decide_eq_true (by omega)]
    exact ⟨rfl, fun h3 => absurd h3 h2⟩
end Go.Proofs.YtgpofoggfifnjaaGreatDoor
namespace Go.Proofs.YtgpofoggfifnjaaGreatDoor
open Go Go.RowKit

/-- at g there is a cursor over bs, at q or failed; it and what is left lie in memory from B on, ahead of L -/
def CuP (B L g : Nat) (bs : List UInt8) (q : Nat) (w : World) : Prop :=
  ∃ A n c p bad, Has w g 135 (curB A n c bad) ∧ SlA w A n c (bs.drop p) ∧ (B ≤ g ∧ g < L) ∧ (∀ b o s, A = some ⟨b, o, s⟩ → 0 < n → b ≠ g ∧ B ≤ b ∧ b < L) ∧ CuAt bs q ⟨p, bad⟩ ∧ p ≤ bs.length
section
variable {B L g q : Nat} {bs : List UInt8} {w w' : World}
theorem CuP.gB (h : CuP B L g bs q w) : B ≤ g ∧ g < L := by obtain ⟨A, n, c, p, bad, _, _, h1, _⟩ := h; exact h1
theorem slA_lt {A : Option Addr} {n c b o : Nat} {s : Option Nat} (h : SlA w A n c bs) (e : A = some ⟨b, o, s⟩) (h0 : 0 < n) : b < w.heap.size := by
  obtain ⟨b', o', e', hlt, _⟩ := h.2.2 h0
  rw [e] at e'
  injection e' with e'
  injection e' with eb
  rw [eb]; exact hlt
theorem cu_at (A : Option Addr) (n c : Nat) (hS : SlA w A n c bs) (hA : A = none → c = 0) (hl : bs.length ≤ 1000000) :
    Calls Tryz.prog 68 #[.slice A n c] w fun e w' => (∃ g, e = .returned (.pointer (some ⟨g, 0, none⟩)) ∧ CuP w.heap.size w'.heap.size g bs 0 w') ∧ Below w.heap.size w w' := by
  refine (pat_is bs A n c w w.heap.size hS hA (Nat.le_refl _) hl).mono ?_
  rintro e w' ⟨⟨g, rfl, h⟩, hb⟩
  obtain ⟨A', n', c', h1, h2, h3, _, h5⟩ := h w'.heap.size (Nat.le_refl _)
  exact ⟨⟨g, rfl, A', n', c', 0, false, h1, h2, ⟨h3, h1.lt⟩, fun b o s e h0 => ⟨(h5 b o s e h0).1, (h5 b o s e h0).2.2, slA_lt h2 e h0⟩, ⟨by show false = _; rw [decide_eq_false (by omega)], fun _ => rfl⟩, Nat.zero_le _⟩, hb⟩
theorem CuP.take (h : CuP B L g bs q w) (k : Nat) :
    Calls Tryz.prog 105 #[.pointer (some ⟨g, 0, none⟩), .int .i64 (k : Int)] w fun e w' => (∃ A n c, e = .returned (.slice A n c) ∧ SlA w' A n c (if q + k ≤ bs.length then (bs.drop q).take k else []) ∧ (A = none → c = 0) ∧ (q + k ≤ bs.length → n = k ∧ c = k) ∧ (¬ q + k ≤ bs.length → A = none ∧ n = 0 ∧ c = 0) ∧ ∀ b o s, A = some ⟨b, o, s⟩ → 0 < n → b ≠ g ∧ B ≤ b ∧ b < L) ∧ CuP B L g bs (q + k) w' ∧ w.grownBy w' (some g) := by
  obtain ⟨A, n, c, p, bad, hG, hS, hB, ha, hC, hp⟩ := h
  have hl : bs.length - p = n := by have := hS.1; simpa using this
  have hn := hC.nxt (k := k)
  have hok := hC.okE (k := k)
  dsimp only at hok
  have hCb := hC.1
  have hCp := hC.2
  dsimp only at hCb hCp
  by_cases hq : q + k ≤ bs.length
  · obtain rfl : p = q := hCp (by omega)
    obtain rfl : bad = false := by rw [hCb, decide_eq_false (by omega)]
    rw [if_pos hq]
    refine (ptake_ok A n c k g w hG (by omega) hS.2.1).mono ?_
    rintro e w' ⟨rfl, hG', hgr, hz⟩
    have hS' := hS.grown hgr (fun b o e h0 e2 => (ha b o none e h0).1 (by injection e2 with e2; exact e2.symm))
    have hnc := hS.2.1
    refine ⟨⟨A, k, k, rfl, ⟨by rw [List.length_take, List.length_drop]; omega, Nat.le_refl _, fun h0 => ?_⟩, fun hA => ?_, fun _ => ⟨rfl, rfl⟩, fun h => absurd hq h, fun b o s e h0 => ha b o s e (by omega)⟩, ⟨offA A c k, n - k, c - k, p + k, false, hG', ?_, hB, fun b o s e h0 => ?_, ⟨by show false = _; rw [decide_eq_false (by omega)], fun _ => rfl⟩, hq⟩, hgr⟩
    · obtain ⟨b, o, e, hlt, hcell⟩ := hS'.2.2 (by omega)
      refine ⟨b, o, e, hlt, fun j hj => ?_⟩
      rw [hcell j (by omega)]
      simp [List.getD_eq_getElem?_getD, hj]
    · rcases Nat.eq_zero_or_pos k with h0 | h0
      · exact h0
      · obtain ⟨b, o, e, _⟩ := hS.2.2 (by omega)
        rw [hA] at e
        cases e
    · refine ⟨by rw [List.length_drop]; omega, by omega, fun h0 => ?_⟩
      obtain ⟨b, o, e, hlt, hcell⟩ := hS'.2.2 (by omega)
      subst e
      refine ⟨b, o + k, ?_, hlt, fun j hj => ?_⟩
      · unfold offA
        rw [if_neg (by omega), Option.map_some, Addr.add_mid]
      · rw [Nat.add_assoc, hcell (k + j) (by omega)]
        congr 2
        simp [List.getD_eq_getElem?_getD, List.getElem?_drop, Nat.add_assoc]
    · obtain ⟨o', s', e'⟩ := offA_block e
      exact ha b o' s' e' (by omega)
  · rw [if_neg hq]
    have hbq : CuAt bs (q + k) ⟨p, true⟩ := ⟨by show true = _; rw [decide_eq_true (by omega)], fun h => absurd h hq⟩
    cases bad with
    | true =>
      refine (ptake_bad A n c k g w hG).mono ?_
      rintro e w' ⟨rfl, rfl⟩
      exact ⟨⟨none, 0, 0, rfl, nil_slA _, fun _ => rfl, fun h => absurd h hq, fun _ => ⟨rfl, rfl, rfl⟩, fun _ _ _ h => by cases h⟩, ⟨A, n, c, p, true, hG, hS, hB, ha, hbq, hp⟩, World.grownBy.refl _ _⟩
    | false =>
      have hqb : q ≤ bs.length := by
        have h2 := of_decide_eq_false hCb.symm
        omega
      obtain rfl : p = q := hCp hqb
      refine (ptake_far A n c k g w hG (by omega)).mono ?_
      rintro e w' ⟨rfl, hG', hgr, hz⟩
      exact ⟨⟨none, 0, 0, rfl, nil_slA _, fun _ => rfl, fun h => absurd h hq, fun _ => ⟨rfl, rfl, rfl⟩, fun _ _ _ h => by cases h⟩, ⟨A, n, c, p, true, hG', hS.grown hgr (fun b o e h0 e2 => (ha b o none e h0).1 (by injection e2 with e2; exact e2.symm)), hB, ha, hbq, hp⟩, hgr⟩
theorem CuP.int (h : CuP B L g bs q w) (k : Nat) (hk : 0 < k) (hk4 : k ≤ 4) :
    Calls Tryz.prog 86 #[.pointer (some ⟨g, 0, none⟩), .int .i64 (k : Int)] w fun e w' => e = .returned (.int .u32 ((nm bs k q : Nat) : Int)) ∧ CuP B L g bs (q + k) w' ∧ w.grownBy w' (some g) := by
  have kT := h.take k
  by_cases hq : q + k ≤ bs.length
  · rw [show nm bs k q = leT (bsN bs) k q from if_pos hq]
    refine pint_ok bs k q _ w _ hk4 (kT.mono ?_)
    rintro e w' ⟨⟨A, n, c, rfl, hS, _, hn, _⟩, h2, h3⟩
    rw [if_pos hq] at hS
    obtain ⟨rfl, rfl⟩ := hn hq
    obtain ⟨b, o, rfl, _, hc⟩ := hS.2.2 hk
    refine ⟨b, o, rfl, fun j hj => ?_, h2, h3⟩
    rw [hc j hj]
    simp [List.getD_eq_getElem?_getD, List.getElem?_drop, hj]
  · rw [show nm bs k q = 0 from if_neg hq]
    refine pint_no k _ w _ (kT.mono ?_)
    rintro e w' ⟨⟨A, n, c, rfl, _, _, _, hn, _⟩, h2, h3⟩
    obtain ⟨rfl, rfl, rfl⟩ := hn hq
    exact ⟨rfl, h2, h3⟩
theorem CuP.u32 (h : CuP B L g bs q w) :
    Calls Tryz.prog 71 #[.pointer (some ⟨g, 0, none⟩)] w fun e w' => e = .returned (.int .u32 ((nm bs 4 q : Nat) : Int)) ∧ CuP B L g bs (q + 4) w' ∧ w.grownBy w' (some g) := pu32_of _ _ _ _ (h.int 4 (by decide) (by decide))
theorem CuP.u16 (h : CuP B L g bs q w) :
    Calls Tryz.prog 70 #[.pointer (some ⟨g, 0, none⟩)] w fun e w' => e = .returned (.int .i64 ((nm bs 2 q : Nat) : Int)) ∧ CuP B L g bs (q + 2) w' ∧ w.grownBy w' (some g) := pu16_of _ (by have := nm2 bs q; omega) _ _ _ (h.int 2 (by decide) (by decide))
theorem CuP.u8 (h : CuP B L g bs q w) :
    Calls Tryz.prog 69 #[.pointer (some ⟨g, 0, none⟩)] w fun e w' => e = .returned (.int .i64 ((nm bs 1 q : Nat) : Int)) ∧ CuP B L g bs (q + 1) w' ∧ w.grownBy w' (some g) := pu8_of _ (by have := nm_lt bs 1 q; omega) _ _ _ (h.int 1 (by decide) (by decide))
end
end Go.Proofs.YtgpofoggfifnjaaGreatDoor
