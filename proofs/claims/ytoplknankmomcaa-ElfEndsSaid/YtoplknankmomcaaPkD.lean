/-
Package bytes: what a cursor is; all its calls do what the document says.
-/
import Derived.Test.YtoplknankmomcaaPkC
namespace Go.Proofs.Ytoplknankmomcaa
open Go Go.RowKit

/-- at g there is a cursor over bs, at place p, failed or not: what is left is a row that nobody else writes -/
def IsCur (w : World) (B m g : Nat) (bs : List UInt8) (p : Nat) (bad : Bool) : Prop :=
  ∃ A n c, Has w g 88 (curB A n c bad) ∧ SlA w A n c (bs.drop p) ∧ B ≤ g ∧ g ≠ m ∧ (∀ b o s, A = some ⟨b, o, s⟩ → 0 < n → b ≠ g ∧ b ≠ m ∧ B ≤ b)
theorem isCur_keep {w w' : World} {B m g : Nat} {bs : List UInt8} {p : Nat} {bad : Bool} (h : IsCur w B m g bs p bad) (k : w.grownBy w' (some m)) : IsCur w' B m g bs p bad := by
  obtain ⟨A, n, c, hG, hS, hB, hg, ha⟩ := h
  refine ⟨A, n, c, has_grown hG k (fun l e => by injection e with e; subst e; exact hg), hS.grown k (fun b o e h0 e2 => ?_), hB, hg, ha⟩
  injection e2 with e2
  exact (ha b o none e h0).2.1 e2.symm
theorem offA_block {A : Option Addr} {c k b o : Nat} {s : Option Nat} (h : offA A c k = some ⟨b, o, s⟩) : ∃ o' s', A = some ⟨b, o', s'⟩ := by
  unfold offA at h
  split at h
  · exact ⟨o, s, h⟩
  · cases A with
    | none => cases h
    | some ad =>
      obtain ⟨b', o', s'⟩ := ad
      refine ⟨o', s', ?_⟩
      simp only [Option.map_some, Option.some.injEq] at h
      have : b' = b := by
        have h2 := congrArg Addr.block h
        unfold Addr.add at h2
        split at h2 <;> exact h2
      rw [this]
theorem ptake_is (bs : List UInt8) (p : Nat) (bad : Bool) (k : Int) (w : World) (B m g : Nat) (hI : IsCur w B m g bs p bad) (hp : p ≤ bs.length) :
    Calls Try.prog 30 #[curAt g, .int .i64 k] w fun e w' => (∃ A n c, e = .returned (.slice A n c) ∧ n = (tkB bs p bad k).length ∧ (okT bs.length p bad k = false → A = none ∧ n = 0 ∧ c = 0) ∧ (okT bs.length p bad k = true → n = k.toNat ∧ c = n) ∧ SlA w' A n c (tkB bs p bad k) ∧ ∀ b o, A = some ⟨b, o, none⟩ → 0 < n → m ≠ b) ∧ IsCur w' B m g bs (tkP bs.length p bad k) (!okT bs.length p bad k) ∧ Kp B m w w' := by
  obtain ⟨A, n, c, hG, hS, hB, hg, ha⟩ := hI
  have hl : bs.length - p = n := by have := hS.1; simpa using this
  have hgl := hG.lt
  cases hok : okT bs.length p bad k with
  | false =>
    obtain ⟨h1, h2⟩ := tkB_no hok
    rw [h1, h2]
    cases bad with
    | true =>
      refine (ptake_bad A n c k g w hG).mono ?_
      rintro e w' ⟨rfl, rfl⟩
      exact ⟨⟨none, 0, 0, rfl, rfl, fun _ => ⟨rfl, rfl, rfl⟩, (fun h => by cases h), nil_slA _, fun _ _ h => by cases h⟩, ⟨A, n, c, hG, hS, hB, hg, ha⟩, Below.refl _ _, rfl, Nat.le_refl _⟩
    | false =>
      unfold okT at hok
      simp only [Bool.not_false, Bool.true_and, decide_eq_false_iff_not] at hok
      refine (ptake_far A n c k g w hG (by omega)).mono ?_
      rintro e w' ⟨rfl, hG', hgr, hz⟩
      refine ⟨⟨none, 0, 0, rfl, rfl, fun _ => ⟨rfl, rfl, rfl⟩, (fun h => by cases h), nil_slA _, fun _ _ h => by cases h⟩, ⟨A, n, c, hG', hS.grown hgr (fun b o e h0 e2 => ?_), hB, hg, ha⟩, below_of_only hgr hB (by omega), ?_, by omega⟩
      · injection e2 with e2
        exact (ha b o none e h0).1 e2.symm
      · by_cases hm : m < w.heap.size
        · exact hgr.block m hm (fun e => hg (by injection e with e; exact e.symm))
        · rw [Array.getElem?_eq_none (by omega), Array.getElem?_eq_none (by omega)]
  | true =>
    have hb : bad = false := by
      cases bad with
      | false => rfl
      | true => exact absurd hok (by unfold okT; simp)
    subst hb
    have hok' := hok
    unfold okT at hok'
    simp only [Bool.not_false, Bool.true_and, decide_eq_true_eq] at hok'
    obtain ⟨q, rfl⟩ : ∃ q : Nat, k = (q : Int) := ⟨k.toNat, by omega⟩
    have e1 : tkB bs p false (q : Int) = (bs.drop p).take q := by unfold tkB; rw [if_pos hok]; rfl
    have e2 : tkP bs.length p false (q : Int) = p + q := by unfold tkP; rw [if_pos hok]; rfl
    rw [e1, e2]
    have hqn : q ≤ n := by omega
    refine (ptake_ok A n c q g w hG hqn hS.2.1).mono ?_
    rintro e w' ⟨rfl, hG', hgr, hz⟩
    have hS' := hS.grown hgr (fun b o e h0 e2 => (ha b o none e h0).1 (by injection e2 with e2; exact e2.symm))
    refine ⟨⟨A, q, q, rfl, by rw [List.length_take, List.length_drop]; omega, (fun h => by cases h), fun _ => ⟨rfl, rfl⟩, ⟨by rw [List.length_take, List.length_drop]; omega, Nat.le_refl _, fun h0 => ?_⟩, fun b o e h0 => (ha b o none e (by omega)).2.1.symm⟩, ⟨offA A c q, n - q, c - q, hG', ?_, hB, hg, fun b o s e h0 => ?_⟩, below_of_only hgr hB (by omega), ?_, by omega⟩
    · obtain ⟨b, o, e, hlt, hcell⟩ := hS'.2.2 (by omega)
      refine ⟨b, o, e, hlt, fun j hj => ?_⟩
      rw [hcell j (by omega)]
      simp [List.getD_eq_getElem?_getD, hj]
    · refine ⟨by rw [List.length_drop]; omega, by have := hS.2.1; omega, fun h0 => ?_⟩
      obtain ⟨b, o, e, hlt, hcell⟩ := hS'.2.2 (by omega)
      subst e
      refine ⟨b, o + q, ?_, hlt, fun j hj => ?_⟩
      · unfold offA
        rw [if_neg (by have := hS.2.1; omega), Option.map_some, Addr.add_mid]
      · rw [Nat.add_assoc, hcell (q + j) (by omega)]
        congr 2
        simp [List.getD_eq_getElem?_getD, List.getElem?_drop, Nat.add_assoc]
    · obtain ⟨o', s', e'⟩ := offA_block e
      exact ha b o' s' e' (by omega)
    · by_cases hm : m < w.heap.size
      · exact hgr.block m hm (fun e => hg (by injection e with e; exact e.symm))
      · rw [Array.getElem?_eq_none (by omega), Array.getElem?_eq_none (by omega)]
theorem pint_is (bs : List UInt8) (p : Nat) (bad : Bool) (k : Nat) (hk : 0 < k) (hk4 : k ≤ 4) (w : World) (B m g : Nat) (hI : IsCur w B m g bs p bad) (hp : p ≤ bs.length) :
    Calls Try.prog 36 #[curAt g, .int .i64 (k : Int)] w fun e w' => e = .returned (.int .u32 ((tkN bs p bad k : Nat) : Int)) ∧ IsCur w' B m g bs (tkP bs.length p bad (k : Int)) (!okT bs.length p bad (k : Int)) ∧ Kp B m w w' := by
  have kT := ptake_is bs p bad (k : Int) w B m g hI hp
  cases hok : okT bs.length p bad (k : Int) with
  | false =>
    have e0 : tkN bs p bad k = 0 := by unfold tkN; rw [hok]; rfl
    rw [e0]
    refine pint_no k (curAt g) w _ (kT.mono ?_)
    rintro e w' ⟨⟨A, n, c, rfl, _, h1, _⟩, hI', hK⟩
    obtain ⟨rfl, rfl, rfl⟩ := h1 hok
    rw [hok] at hI'
    exact ⟨rfl, hI', hK⟩
  | true =>
    have hok' := hok
    unfold okT at hok'
    have e0 : tkN bs p bad k = leT (bsN bs) k p := by unfold tkN; rw [if_pos hok]
    have e1 : tkB bs p bad (k : Int) = (bs.drop p).take k := by unfold tkB; rw [if_pos hok]; rfl
    rw [e0]
    refine pint_ok bs k p (curAt g) w _ hk4 (kT.mono ?_)
    rintro e w' ⟨⟨A, n, c, rfl, _, _, h2, hS, _⟩, hI', hK⟩
    obtain ⟨rfl, rfl⟩ := h2 hok
    rw [hok] at hI'
    obtain ⟨b, o, rfl, _, hcell⟩ := hS.2.2 hk
    refine ⟨b, o, rfl, fun j hj => ?_, hI', hK⟩
    rw [hcell j hj, e1]
    congr 2
    simp [List.getD_eq_getElem?_getD, List.getElem?_drop, hj]
theorem tkN_lt (bs : List UInt8) (p : Nat) (bad : Bool) (k : Nat) (hk : k ≤ 4) : tkN bs p bad k < 4294967296 := by
  unfold tkN
  split
  · have h1 := leT_lt (bsN_lt bs) k p
    have h2 : 256 ^ k ≤ 256 ^ 4 := Nat.pow_le_pow_right (by omega) hk
    omega
  · decide
theorem same_below {w w' : World} (h : w = w') : Below w.heap.size w w' := by subst h; exact Below.refl _ _
theorem own_base {w : World} {base : Nat} {e : TypeId} {size n : Nat} {b o c : Nat} {s : Option Nat} {xs : List Value} (h : w.ownsRow base e size (.slice (some ⟨b, o, s⟩) n c) n xs) : base ≤ b ∧ b < w.heap.size := by
  rcases h.2 with ⟨hv, _⟩ | ⟨g, cap, cur, hv, hb, hg, _⟩
  · cases hv
  · have e1 : (some ⟨b, o, s⟩ : Option Addr) = some ⟨g, 0, none⟩ := by injection hv
    injection e1 with e1
    injection e1 with e1 _ _
    subst e1
    exact ⟨hb, (Array.getElem?_eq_some_iff.1 hg).1⟩
theorem run_zero (A : Option Addr) (n c : Nat) (W : World) : (Instr.sliceAt 25 (.slice A n c) none (some (.int .i64 0)) (some (.int .i64 0))).run Try.prog W = .ok (.slice A 0 0) W := run_front A n c 0 (Nat.zero_le _) W
set_option maxRecDepth 100000 in
set_option maxHeartbeats 1000000 in
theorem pat_is (bs : List UInt8) (A : Option Addr) (n c : Nat) (w : World) (B : Nat) (hS : SlA w A n c bs) (hA : A = none → c = 0) (hB : B ≤ w.heap.size) (hl : bs.length ≤ 1000000) :
    Calls Try.prog 29 #[.slice A n c] w fun e w' => (∃ g, e = .returned (curAt g) ∧ ∀ m, w'.heap.size ≤ m → IsCur w' B m g bs 0 false) ∧ Below w.heap.size w w' := by
  have r0 := run_zero A n c
  have hn : bs.length = n := hS.1
  by_cases h0 : n = 0
  · subst h0
    have hb : bs = [] := List.eq_nil_of_length_eq_zero hn
    subst hb
    clear hn hl
    cases A with
    | none =>
      obtain rfl := hA rfl
      go_enter Try.func29, Try.ntmps29
      go_wp2_with fail
      go_ret
      refine ⟨⟨w.heap.size, rfl, fun m hm => ⟨none, 0, 0, Has.new _ _ _, nil_slA _, hB, ?_, fun _ _ _ _ h => absurd h (Nat.lt_irrefl _)⟩⟩, (Below.refl _ _).alloc (Nat.le_refl _) _⟩
      have hm2 : w.heap.size + 1 ≤ m := by simpa using hm
      omega
    | some ad =>
      go_enter Try.func29, Try.ntmps29
      go_wp2_with fail
      go_ret
      refine ⟨⟨w.heap.size, rfl, fun m hm => ⟨some ad, 0, 0, Has.new _ _ _, ⟨rfl, Nat.le_refl _, fun h => absurd h (Nat.lt_irrefl _)⟩, hB, ?_, fun _ _ _ _ h => absurd h (Nat.lt_irrefl _)⟩⟩, (Below.refl _ _).alloc (Nat.le_refl _) _⟩
      have hm2 : w.heap.size + 1 ≤ m := by simpa using hm
      omega
  · obtain ⟨b, o, rfl, _⟩ := hS.2.2 (by omega)
    have hSn : SlA w (some ⟨b, o, none⟩) 0 0 [] := ⟨rfl, Nat.le_refl _, fun h => absurd h (Nat.lt_irrefl _)⟩
    go_enter Try.func29, Try.ntmps29
    go_wp2_with (
      refine wp_append_full rfl _ _ rfl (some ⟨b, o, none⟩) 0 [] rfl hSn (fun _ => rfl) _ n c bs rfl hS (by omega) (by omega) ?_
      intro v' w1 hown hgr
      rw [Nat.zero_add, List.nil_append] at hown
      obtain ⟨A', c', rfl⟩ := own_form hown
      have hz := hgr.size)
    go_ret
    have hbel : Below w.heap.size w w1 := ⟨hgr.os, hgr.tape, hgr.output, hgr.size, fun i hi => hgr.block i hi (by simp)⟩
    have hS1 := (own_slA hown).1
    refine ⟨⟨w1.heap.size, rfl, fun m hm => ⟨A', n, c', Has.new _ _ _, ?_, by omega, ?_, fun b o s e h => ?_⟩⟩, hbel.alloc hz _⟩
    · exact hS1.below ((Below.refl _ _).alloc (Nat.le_refl _) _)
    · have hm2 : w1.heap.size + 1 ≤ m := by simpa using hm
      omega
    · subst e
      have := own_base hown
      have hm2 : w1.heap.size + 1 ≤ m := by simpa using hm
      omega
theorem slA2 (w : World) (e1 e2 : Int) (b1 b2 : UInt8) (h1 : e1 = (b1.toNat : Int)) (h2 : e2 = (b2.toNat : Int)) : SlA (w.alloc (.cells #[.int .u8 e1, .int .u8 e2] 5)) (some ⟨w.heap.size, 0, none⟩) 2 2 [b1, b2] := by
  subst h1
  subst h2
  refine ⟨rfl, Nat.le_refl _, fun _ => ⟨w.heap.size, 0, rfl, by simp, fun j hj => ?_⟩⟩
  have h := fun i => (Has.new w 5 #[.int .u8 (b1.toNat : Int), .int .u8 (b2.toNat : Int)]).cell i
  rcases (show j = 0 ∨ j = 1 by omega) with rfl | rfl
  · exact (h 0).trans rfl
  · exact (h 1).trans rfl
theorem slA4 (w : World) (e1 e2 e3 e4 : Int) (b1 b2 b3 b4 : UInt8) (h1 : e1 = (b1.toNat : Int)) (h2 : e2 = (b2.toNat : Int)) (h3 : e3 = (b3.toNat : Int)) (h4 : e4 = (b4.toNat : Int)) : SlA (w.alloc (.cells #[.int .u8 e1, .int .u8 e2, .int .u8 e3, .int .u8 e4] 5)) (some ⟨w.heap.size, 0, none⟩) 4 4 [b1, b2, b3, b4] := by
  subst h1
  subst h2
  subst h3
  subst h4
  refine ⟨rfl, Nat.le_refl _, fun _ => ⟨w.heap.size, 0, rfl, by simp, fun j hj => ?_⟩⟩
  have h := fun i => (Has.new w 5 #[.int .u8 (b1.toNat : Int), .int .u8 (b2.toNat : Int), .int .u8 (b3.toNat : Int), .int .u8 (b4.toNat : Int)]).cell i
  rcases (show j = 0 ∨ j = 1 ∨ j = 2 ∨ j = 3 by omega) with rfl | rfl | rfl | rfl
  · exact (h 0).trans rfl
  · exact (h 1).trans rfl
  · exact (h 2).trans rfl
  · exact (h 3).trans rfl
theorem u8_eq (a b : Nat) (h : a % 256 = b % 256) : UInt8.ofNat a = UInt8.ofNat b := UInt8.toNat.inj (by simpa [UInt8.toNat_ofNat'] using h)
theorem leB2 (k : Int) : [UInt8.ofNat (k % 256).toNat, UInt8.ofNat (k / 256 % 256).toNat] = leB 2 (k % 65536).toNat := by
  show _ = [UInt8.ofNat ((k % 65536).toNat / 256 ^ 0), UInt8.ofNat ((k % 65536).toNat / 256 ^ 1)]
  rw [u8_eq (k % 256).toNat ((k % 65536).toNat / 256 ^ 0) (by omega), u8_eq (k / 256 % 256).toNat ((k % 65536).toNat / 256 ^ 1) (by omega)]
theorem leB4 (x : Nat) : [UInt8.ofNat x, UInt8.ofNat (x / 256), UInt8.ofNat (x / 65536), UInt8.ofNat (x / 16777216)] = leB 4 x := by
  show _ = [UInt8.ofNat (x / 256 ^ 0), UInt8.ofNat (x / 256 ^ 1), UInt8.ofNat (x / 256 ^ 2), UInt8.ofNat (x / 256 ^ 3)]
  rw [Nat.pow_zero, Nat.div_one]
theorem grown_none {w w' : World} (h : w.grownBy w' none) : Below w.heap.size w w' := ⟨h.os, h.tape, h.output, h.size, fun i hi => h.block i hi (by simp)⟩
end Go.Proofs.Ytoplknankmomcaa
