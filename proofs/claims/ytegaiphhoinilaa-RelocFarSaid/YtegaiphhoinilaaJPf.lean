/-
Layer 10: the laws' own example; a memory that is none.
Layer 10, PlaceRuns: memory and the reference's map hold the same bytes.
Layer 10, PlaceRuns: the law's like.
Layer 10, PlaceWords: a stored number is loaded in parts.
-/
import Derived.Test.YtegaiphhoinilaaJPd
namespace Go.Proofs.Ytegaiphhoinilaa
open Go Go.RowKit

end Go.Proofs.Ytegaiphhoinilaa
namespace Go.Proofs.Ytegaiphhoinilaa
open Go Go.RowKit

/-- how many bytes are not 0 among the first n, those that are still to come -/
def nzL (m : Nat → UInt8) (left : Lit → Bool) (n : Nat) : Nat := (List.range n).countP fun j => left (kAd (2147483648 + j)) && (m j != 0)
def nz (m : Nat → UInt8) (n : Nat) : Nat := (List.range n).countP fun j => m j != 0
theorem nz_snoc (m : Nat → UInt8) (n : Nat) : nz m (n + 1) = nz m n + (if m n != 0 then 1 else 0) := by
  unfold nz
  rw [List.range_succ, List.countP_append, List.countP_cons, List.countP_nil, Nat.zero_add]
theorem nz_le (m : Nat → UInt8) (n : Nat) : nz m n ≤ n := by
  unfold nz
  have := List.countP_le_length (p := fun j => m j != 0) (l := List.range n)
  rwa [List.length_range] at this
theorem nzL_le (m : Nat → UInt8) (left : Lit → Bool) (n : Nat) : nzL m left n ≤ n := by
  unfold nzL
  have := List.countP_le_length (p := fun j => left (kAd (2147483648 + j)) && (m j != 0)) (l := List.range n)
  rwa [List.length_range] at this
theorem countP_e {p q : Nat → Bool} (n : Nat) (h : ∀ j, j < n → p j = q j) : (List.range n).countP p = (List.range n).countP q :=
  List.countP_congr fun j hj => by rw [h j (List.mem_range.1 hj)]
theorem countP_1 {p q : Nat → Bool} (j0 : Nat) (hp : p j0 = true) (hq : q j0 = false) (h : ∀ j, j ≠ j0 → p j = q j) : ∀ n, j0 < n → (List.range n).countP p = (List.range n).countP q + 1
  | 0, hn => absurd hn (Nat.not_lt_zero _)
  | n + 1, hn => by
    rw [List.range_succ, List.countP_append, List.countP_append, List.countP_cons, List.countP_cons, List.countP_nil, List.countP_nil, Nat.zero_add]
    by_cases e : j0 = n
    · subst e
      rw [hp, hq, countP_e (q := q) j0 fun j hj => h j (by omega)]
      rfl
    · rw [countP_1 j0 hp hq h n (by omega), h n (fun e2 => e e2.symm)]
      omega
theorem nzL_all {D : DataW Unit} {m : Nat → UInt8} (h : MapD D m) : nzL m (Maps.has D) 65536 = nz m 65536 := by
  refine countP_e _ fun j hj => ?_
  cases hm : m j != 0 with
  | false => rw [Bool.and_false]
  | true =>
    rw [Bool.and_true]
    cases hh : Maps.has D (kAd (2147483648 + j)) with
    | true => rfl
    | false =>
      have h1 := h.vals (2147483648 + j) ⟨by omega, by omega⟩
      rw [Maps.atKey_of_not_has hh] at h1
      rw [show 2147483648 + j - 2147483648 = j by omega] at h1
      injection h1 with h1
      injection h1 with _ h1
      have h2 : m j = 0 := UInt8.toNat.inj (by have h3 : (0 : UInt8).toNat = (m j).toNat := Int.ofNat.inj h1; exact h3.symm)
      rw [h2] at hm
      exact absurd hm (by decide)
theorem nzL_none {m : Nat → UInt8} {left : Lit → Bool} (h : ∀ k, left k = false) (n : Nat) : nzL m left n = 0 := by
  unfold nzL
  rw [List.countP_eq_zero]
  intro j _
  rw [h, Bool.false_and]
  decide
theorem nzL_strike {m : Nat → UInt8} {left : Lit → Bool} {t : Nat} (ht : isA t) (hl : left (kAd t) = true) :
    nzL m left 65536 = nzL m (fun z => left z && !z.sameKey (kAd t)) 65536 + (if m (t - 2147483648) != 0 then 1 else 0) := by
  have ht' := ht
  obtain ⟨h1, h2⟩ := ht
  have hsame : (kAd t).sameKey (kAd t) = true := WideAt.sameKey_self trivial
  have hother : ∀ j, j ≠ t - 2147483648 → (kAd (2147483648 + j)).sameKey (kAd t) = false := fun j hj => Maps.sameKey_ne fun e => by
    injection e with _ e
    omega
  have hb : ∀ j, (fun z : Lit => left z && !z.sameKey (kAd t)) (kAd (2147483648 + j)) = (left (kAd (2147483648 + j)) && !(kAd (2147483648 + j)).sameKey (kAd t)) := fun _ => rfl
  obtain ⟨j0, hj0⟩ : ∃ j0, j0 = t - 2147483648 := ⟨_, rfl⟩
  rw [← hj0] at hother ⊢
  have e : 2147483648 + j0 = t := by omega
  have hj1 : j0 < 65536 := by omega
  rw [← e] at hl hsame hb hother ⊢
  clear h1 h2 ht' hj0 e
  unfold nzL
  cases hm : m j0 != 0 with
  | false =>
    rw [if_neg (by decide), Nat.add_zero]
    refine countP_e _ fun j hj => ?_
    by_cases hj : j = j0
    · have : (m j != 0) = false := by rw [hj]; exact hm
      rw [this, Bool.and_false, Bool.and_false]
    · have h3 := hb j
      rw [hother j hj, Bool.not_false, Bool.and_true] at h3
      rw [h3]
  | true =>
    rw [if_pos rfl]
    refine countP_1 j0 ?_ ?_ (fun j hj => ?_) 65536 hj1
    · rw [hl, hm]; rfl
    · have h3 := hb j0
      rw [hsame, Bool.not_true, Bool.and_false] at h3
      rw [h3]; rfl
    · have h3 := hb j
      rw [hother j hj, Bool.not_false, Bool.and_true] at h3
      rw [h3]
/-- what a range over the map brings -/
theorem MapD.at {D : DataW Unit} {m : Nat → UInt8} (h : MapD D m) {x c : Int} (hat : ∀ zd, D.atKey (.int .i64 x) zd = .lit (.int .u8 c)) : ∃ t : Nat, isA t ∧ x = (t : Int) ∧ c = ((m (t - 2147483648)).toNat : Int) := by
  obtain ⟨t, ht, e⟩ := h.keys _ (Maps.has_true_of_atKey hat)
  injection e with _ e
  subst e
  refine ⟨t, ht, rfl, ?_⟩
  have h1 := (hat (ylit 0)).symm.trans (h.vals t ht)
  injection h1 with h1
  injection h1
end Go.Proofs.Ytegaiphhoinilaa
namespace Go.Proofs.Ytegaiphhoinilaa
open Go Go.RowKit

theorem und_mi : Try.prog.underlying 73 = some (.map 3 5) := Try.underlying73
theorem cellsAfter {w w' : World} {b o n : Nat} {f : Nat → Value} (h : ∀ j, j < n → w.cell? ⟨b, o + j, none⟩ = some (f j)) (hb : b < w.heap.size) (k : Below w.heap.size w w') : ∀ j, j < n → w'.cell? ⟨b, o + j, none⟩ = some (f j) := fun j hj =>
  (k.cell (p := ⟨b, o + j, none⟩) hb).trans (h j hj)
end Go.Proofs.Ytegaiphhoinilaa
namespace Go.Proofs.Ytegaiphhoinilaa
open Go Go.RowKit

theorem leT_dig {f : Nat → Nat} (z : Nat) : ∀ (n j t : Nat), (∀ i, i < n → f (j + i) = z / 256 ^ (t + i) % 256) → leT f n j = z / 256 ^ t % 256 ^ n
  | 0, _, _, _ => by show 0 = _ % 1; omega
  | n + 1, j, t, h => by
    have h0 := h 0 (by omega)
    rw [Nat.add_zero, Nat.add_zero] at h0
    have ih := leT_dig z n (j + 1) (t + 1) fun i hi => by have := h (i + 1) (by omega); rwa [show j + 1 + i = j + (i + 1) by omega, show t + 1 + i = t + (i + 1) by omega]
    show f j + 256 * leT f n (j + 1) = _
    rw [h0, ih, Nat.pow_succ 256 t, ← Nat.div_div_eq_div_mul, Nat.pow_succ, Nat.mul_comm (256 ^ n) 256, Nat.mod_mul]
/-- the two numbers side by side -/
def wrd10 (x y : Nat) : Nat := x + y * 4294967296
def memW (k x y : Nat) : Nat → UInt8 := stM (stM mem0 (2147483648 + k) 4 x) (2147483648 + k + 4) 4 y
theorem inR_at (k n : Nat) (h : k + n ≤ 65536) : inR (2147483648 + k) n = true := decide_eq_true (by omega)
theorem stB_at (k n : Nat) (h : k + n ≤ 65536) (hn : n = 1 ∨ n = 2 ∨ n = 4) : stB (2147483648 + k) (n : Int) = true := by
  unfold stB
  rw [Int.toNat_natCast, inR_at k n h, show widB (n : Int) = true from decide_eq_true (by omega)]
  rfl
theorem stM_at (m : Nat → UInt8) (k n x : Nat) (h : k + n ≤ 65536) (hn : n = 1 ∨ n = 2 ∨ n = 4) (j : Nat) :
    stM m (2147483648 + k) (n : Int) x j = if k ≤ j ∧ j < k + n then UInt8.ofNat (x / 256 ^ (j - k)) else m j := by
  unfold stM
  rw [stB_at k n h hn, if_pos rfl]
  unfold putM
  rw [Int.toNat_natCast, leB_len, show 2147483648 + k - 2147483648 = k by omega]
  by_cases hj : k ≤ j ∧ j < k + n
  · rw [if_pos hj, if_pos hj]
    unfold leB
    simp [List.getD_eq_getElem?_getD, show j - k < n by omega]
  · rw [if_neg hj, if_neg hj]
theorem memW_at (k x y i : Nat) (hk : k < 65528) (hx : x < 4294967296) (hi : i < 8) : ((memW k x y (k + i)).toNat) = wrd10 x y / 256 ^ i % 256 := by
  unfold memW wrd10
  rw [show ((4 : Int)) = ((4 : Nat) : Int) from rfl, show 2147483648 + k + 4 = 2147483648 + (k + 4) by omega, stM_at _ (k + 4) 4 y (by omega) (by omega), stM_at _ k 4 x (by omega) (by omega)]
  have h : i = 0 ∨ i = 1 ∨ i = 2 ∨ i = 3 ∨ i = 4 ∨ i = 5 ∨ i = 6 ∨ i = 7 := by omega
  rcases h with rfl | rfl | rfl | rfl | rfl | rfl | rfl | rfl
  · rw [if_neg (by omega), if_pos (by omega), show k + 0 - k = 0 by omega, UInt8.toNat_ofNat']; omega
  · rw [if_neg (by omega), if_pos (by omega), show k + 1 - k = 1 by omega, UInt8.toNat_ofNat']; omega
  · rw [if_neg (by omega), if_pos (by omega), show k + 2 - k = 2 by omega, UInt8.toNat_ofNat']; omega
  · rw [if_neg (by omega), if_pos (by omega), show k + 3 - k = 3 by omega, UInt8.toNat_ofNat']; omega
  · rw [if_pos (by omega), show k + 4 - (k + 4) = 0 by omega, UInt8.toNat_ofNat']; omega
  · rw [if_pos (by omega), show k + 5 - (k + 4) = 1 by omega, UInt8.toNat_ofNat']; omega
  · rw [if_pos (by omega), show k + 6 - (k + 4) = 2 by omega, UInt8.toNat_ofNat']; omega
  · rw [if_pos (by omega), show k + 7 - (k + 4) = 3 by omega, UInt8.toNat_ofNat']; omega
/-- a part of the two numbers -/
theorem part_at (k x y i n : Nat) (hk : k < 65528) (hx : x < 4294967296) (hn : n = 1 ∨ n = 2 ∨ n = 4) (hi : i + n ≤ 8) :
    ldV (memW k x y) (2147483648 + k + i) (n : Int) = wrd10 x y / 256 ^ i % 256 ^ n ∧ stB (2147483648 + k + i) (n : Int) = true := by
  have h := stB_at (k + i) n (by omega) hn
  rw [show 2147483648 + (k + i) = 2147483648 + k + i by omega] at h
  refine ⟨?_, h⟩
  unfold ldV
  rw [h, if_pos rfl, Int.toNat_natCast, show 2147483648 + k + i - 2147483648 = k + i by omega]
  refine leT_dig (wrd10 x y) n (k + i) i fun j hj => ?_
  rw [show k + i + j = k + (i + j) by omega]
  exact memW_at k x y (i + j) hk hx (by omega)
/-- the last look: two bytes written across the border -/
def memW3 (k x y : Nat) : Nat → UInt8 := stM (memW k x y) (2147483648 + k + 3) 2 43981
theorem last_at (k x y : Nat) (hk : k < 65528) (hx : x < 4294967296) (_hy : y < 4294967296) :
    ldV (memW3 k x y) (2147483648 + k + 2) 4 = x / 65536 % 256 + 43981 * 256 + y / 256 % 256 * 16777216 := by
  have h := stB_at (k + 2) 4 (by omega) (by omega)
  rw [show 2147483648 + (k + 2) = 2147483648 + k + 2 by omega] at h
  have hb : ∀ i, i < 8 → ((memW3 k x y (k + i)).toNat) = if 3 ≤ i ∧ i < 5 then 43981 / 256 ^ (i - 3) % 256 else wrd10 x y / 256 ^ i % 256 := by
    intro i hi
    unfold memW3
    rw [show ((2 : Int)) = ((2 : Nat) : Int) from rfl, show 2147483648 + k + 3 = 2147483648 + (k + 3) by omega, stM_at _ (k + 3) 2 43981 (by omega) (by omega)]
    by_cases h3 : 3 ≤ i ∧ i < 5
    · rw [if_pos (by omega), if_pos h3, UInt8.toNat_ofNat', show k + i - (k + 3) = i - 3 by omega]
    · rw [if_neg (by omega), if_neg h3]
      exact memW_at k x y i hk hx hi
  have h2 := hb 2 (by omega)
  have h3 := hb 3 (by omega)
  have h4 := hb 4 (by omega)
  have h5 := hb 5 (by omega)
  rw [if_neg (by omega)] at h2 h5
  rw [if_pos (by omega)] at h3 h4
  unfold ldV
  rw [show ((4 : Int)) = ((4 : Nat) : Int) from rfl, h, if_pos rfl, Int.toNat_natCast, show 2147483648 + k + 2 - 2147483648 = k + 2 by omega]
  show (memW3 k x y (k + 2)).toNat + 256 * ((memW3 k x y (k + 3)).toNat + 256 * ((memW3 k x y (k + 4)).toNat + 256 * ((memW3 k x y (k + 5)).toNat + 256 * 0))) = _
  rw [h2, h3, h4, h5]
  unfold wrd10
  omega
end Go.Proofs.Ytegaiphhoinilaa
