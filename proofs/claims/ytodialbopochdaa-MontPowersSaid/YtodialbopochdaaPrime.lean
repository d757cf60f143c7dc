/-
The two primes of P-256: what isn't 0 modulo one of them has the power p - 1 equal to 1. By certificates (a root of each prime, the primes of p - 1), checked by the kernel's own arithmetic.
-/
import Derived.Test.YtodialbopochdaaLimM
namespace Go.Proofs.Ytodialbopochdaa
open Go

def IsPr (p : Nat) : Prop := 2 ≤ p ∧ ∀ a b, p ∣ a * b → p ∣ a ∨ p ∣ b
theorem small_pr (p : Nat) (h2 : 2 ≤ p) (hd : ∀ d, d < p → 2 ≤ d → p % d ≠ 0) : IsPr p := by
  refine ⟨h2, fun a b hab => ?_⟩
  have hg : Nat.gcd p a ∣ p := Nat.gcd_dvd_left p a
  have hle : Nat.gcd p a ≤ p := Nat.le_of_dvd (by omega) hg
  have hpos : 0 < Nat.gcd p a := Nat.gcd_pos_of_pos_left a (by omega)
  by_cases h1 : Nat.gcd p a = 1
  · exact .inr (Nat.Coprime.dvd_of_dvd_mul_left h1 hab)
  · by_cases hp : Nat.gcd p a = p
    · left
      rw [← hp]
      exact Nat.gcd_dvd_right p a
    · exact absurd (Nat.mod_eq_zero_of_dvd hg) (hd _ (by omega) (by omega))
/-- b to the power e, modulo n, by squares -/
def powm (n : Nat) : Nat → Nat → Nat → Nat
  | 0, _, _ => 1 % n
  | f + 1, b, e => if e = 0 then 1 % n else if e % 2 = 1 then b * powm n f (b * b % n) (e / 2) % n else powm n f (b * b % n) (e / 2)
theorem powm_eq (n : Nat) : ∀ (f b e : Nat), e < 2 ^ f → powm n f b e = b ^ e % n
  | 0, b, e, h => by
    obtain rfl : e = 0 := by simpa using h
    rfl
  | f + 1, b, e, h => by
    unfold powm
    by_cases h0 : e = 0
    · rw [if_pos h0, h0, Nat.pow_zero]
    · rw [if_neg h0]
      have hlt : e / 2 < 2 ^ f := by rw [Nat.pow_succ] at h; omega
      rw [powm_eq n f _ _ hlt, ← Nat.pow_mod]
      have hsq : (b * b) ^ (e / 2) = b ^ (2 * (e / 2)) := by rw [Nat.pow_mul, Nat.pow_two]
      rw [hsq]
      by_cases h1 : e % 2 = 1
      · rw [if_pos h1, Nat.mul_mod, Nat.mod_mod, ← Nat.mul_mod, ← Nat.pow_succ']
        congr 2; omega
      · rw [if_neg h1]
        congr 2; omega
/-- a one-to-one map of the numbers below N into themselves meets each -/
theorem pigeon : ∀ (N : Nat) (f : Nat → Nat), (∀ i, i < N → f i < N) → (∀ i j, i < N → j < N → f i = f j → i = j) → ∀ y, y < N → ∃ i, i < N ∧ f i = y
  | 0, _, _, _, y, h => by omega
  | N + 1, f, hf, hi, y, hy => by
    have ih := pigeon N (fun i => if f i = N then f N else f i)
      (fun i h => by
        show (if f i = N then f N else f i) < N
        by_cases c : f i = N
        · rw [if_pos c]
          have h1 := hf N (by omega)
          have h2 : f N ≠ N := fun e => by have := hi i N (by omega) (by omega) (by rw [c, e]); omega
          omega
        · rw [if_neg c]
          have := hf i (by omega)
          omega)
      (fun i j h1 h2 h => by
        have h' : (if f i = N then f N else f i) = (if f j = N then f N else f j) := h
        by_cases c : f i = N
        · by_cases d : f j = N
          · exact hi i j (by omega) (by omega) (by rw [c, d])
          · rw [if_pos c, if_neg d] at h'
            have := hi N j (by omega) (by omega) h'
            omega
        · by_cases d : f j = N
          · rw [if_neg c, if_pos d] at h'
            have := hi i N (by omega) (by omega) h'
            omega
          · rw [if_neg c, if_neg d] at h'
            exact hi i j (by omega) (by omega) h')
    by_cases e1 : y = f N
    · exact ⟨N, by omega, e1.symm⟩
    · by_cases e2 : y = N
      · have hv : f N < N := by have := hf N (by omega); omega
        obtain ⟨i, h1, h2⟩ := ih (f N) hv
        have h2' : (if f i = N then f N else f i) = f N := h2
        by_cases c : f i = N
        · exact ⟨i, by omega, by rw [c, e2]⟩
        · rw [if_neg c] at h2'
          have := hi i N (by omega) (by omega) h2'
          omega
      · obtain ⟨i, h1, h2⟩ := ih y (by omega)
        have h2' : (if f i = N then f N else f i) = y := h2
        by_cases c : f i = N
        · rw [if_pos c] at h2'; exact absurd h2'.symm e1
        · rw [if_neg c] at h2'; exact ⟨i, by omega, h2'⟩
def prodL : List Nat → Nat
  | [] => 1
  | q :: r => q * prodL r
theorem some_prime : ∀ (L : List Nat), (∀ q ∈ L, IsPr q) → ∀ e d : Nat, e * d = prodL L → 1 < e → ∃ q ∈ L, q ∣ e
  | [], _, e, d, h, h1 => by
    have : e ∣ 1 := ⟨d, h.symm⟩
    have := Nat.le_of_dvd (by decide) this
    omega
  | q :: r, hL, e, d, h, h1 => by
    have hq := hL q (List.mem_cons_self ..)
    have hdv : q ∣ e * d := ⟨prodL r, h⟩
    rcases hq.2 e d hdv with h2 | h2
    · exact ⟨q, List.mem_cons_self .., h2⟩
    · obtain ⟨d', rfl⟩ := h2
      have hqp : 0 < q := by have := hq.1; omega
      have h3 : e * d' = prodL r := by
        have : q * (e * d') = q * prodL r := by
          show _ = prodL (q :: r)
          rw [← h, Nat.mul_left_comm]
        exact Nat.eq_of_mul_eq_mul_left hqp this
      obtain ⟨x, hx, hd⟩ := some_prime r (fun y hy => hL y (List.mem_cons_of_mem _ hy)) e d' h3 h1
      exact ⟨x, List.mem_cons_of_mem _ hx, hd⟩
theorem pow_one_mul (n g a b : Nat) (h : g ^ a % n = 1 % n) : g ^ (a * b) % n = 1 % n := by
  rw [Nat.pow_mul, Nat.pow_mod, h, ← Nat.pow_mod, Nat.one_pow]
theorem pow_add_one (n g a b : Nat) (h : g ^ a % n = 1 % n) : g ^ (a + b) % n = g ^ b % n := by
  rw [Nat.pow_add, Nat.mul_mod, h, ← Nat.mul_mod, Nat.one_mul]
/-- the least number with P, if there is one -/
theorem least {P : Nat → Prop} (n : Nat) (h : P n) : ∃ m, P m ∧ m ≤ n ∧ ∀ k, k < m → ¬ P k := by
  induction n using Nat.strongRecOn with
  | _ n ih =>
    by_cases c : ∃ k, k < n ∧ P k
    · obtain ⟨k, hk, hp⟩ := c
      obtain ⟨m, h1, h2, h3⟩ := ih k hk hp
      exact ⟨m, h1, by omega, h3⟩
    · exact ⟨n, h, Nat.le_refl _, fun k hk hp => c ⟨k, hk, hp⟩⟩
/-- a root g, all primes of n - 1: every number that isn't 0 modulo n is a power of g -/
theorem fermat_of (n g : Nat) (L : List Nat) (hn : 3 ≤ n) (hL : ∀ q ∈ L, IsPr q) (hprod : prodL L = n - 1) (h1 : g ^ (n - 1) % n = 1) (hq : ∀ q ∈ L, g ^ ((n - 1) / q) % n ≠ 1) :
    ∀ a, a % n ≠ 0 → a ^ (n - 1) % n = 1 := by
  have h1n : 1 % n = 1 := Nat.mod_eq_of_lt (by omega)
  have h1' : g ^ (n - 1) % n = 1 % n := by rw [h1n]; exact h1
  -- the order of g
  obtain ⟨d, ⟨hd0, hd1⟩, hdle, hmin⟩ := least (P := fun d => 0 < d ∧ g ^ d % n = 1 % n) (n - 1) ⟨by omega, h1'⟩
  have hdn : d = n - 1 := by
    have hz : (n - 1) % d = 0 := by
      refine Classical.byContradiction fun c => ?_
      have e : g ^ (n - 1) % n = g ^ ((n - 1) % d) % n := by
        have e2 : n - 1 = d * ((n - 1) / d) + (n - 1) % d := (Nat.div_add_mod _ _).symm
        conv => lhs; rw [e2]
        exact pow_add_one n g _ _ (pow_one_mul n g d _ hd1)
      exact hmin ((n - 1) % d) (Nat.mod_lt _ hd0) ⟨by omega, by rw [← e]; exact h1'⟩
    obtain ⟨e, he⟩ : ∃ e, n - 1 = d * e := ⟨(n - 1) / d, by have := Nat.div_add_mod (n - 1) d; omega⟩
    by_cases c : 1 < e
    · obtain ⟨q, hqL, x, hx⟩ := some_prime L hL e d (by rw [hprod, he, Nat.mul_comm]) c
      have hq2 := (hL q hqL).1
      have e2 : (n - 1) / q = d * x := by rw [he, hx, ← Nat.mul_assoc, Nat.mul_comm d q, Nat.mul_assoc, Nat.mul_div_cancel_left _ (by omega)]
      exact absurd (by rw [e2, pow_one_mul n g d x hd1, h1n]) (hq q hqL)
    · have : e = 1 := by
        have : e ≠ 0 := fun h0 => by rw [h0, Nat.mul_zero] at he; omega
        omega
      rw [this, Nat.mul_one] at he
      exact he.symm
  subst hdn
  have hnz : ∀ i, i < n - 1 → g ^ i % n ≠ 0 := fun i hi h0 => by
    have : g ^ (i + (n - 1 - i)) % n = 0 := by rw [Nat.pow_add, Nat.mul_mod, h0, Nat.zero_mul, Nat.zero_mod]
    rw [show i + (n - 1 - i) = n - 1 by omega, h1] at this
    cases this
  have hinj : ∀ i j, i < j → j < n - 1 → g ^ i % n ≠ g ^ j % n := fun i j hij hj h => by
    have e1 : g ^ (i + (n - 1 - i)) % n = g ^ (j + (n - 1 - i)) % n := by rw [Nat.pow_add, Nat.mul_mod, h, ← Nat.mul_mod, ← Nat.pow_add]
    rw [show i + (n - 1 - i) = n - 1 by omega, show j + (n - 1 - i) = n - 1 + (j - i) by omega, pow_add_one n g _ _ h1', h1'] at e1
    exact hmin (j - i) (by omega) ⟨by omega, e1.symm⟩
  intro a ha
  have hap : a % n - 1 < n - 1 := by have := Nat.mod_lt a (show 0 < n by omega); omega
  obtain ⟨i, hi, hia⟩ := pigeon (n - 1) (fun i => g ^ i % n - 1)
    (fun i hi => by have h2 := hnz i hi; have := Nat.mod_lt (g ^ i) (show 0 < n by omega); show g ^ i % n - 1 < n - 1; omega)
    (fun i j hi hj h => by
      have h' : g ^ i % n - 1 = g ^ j % n - 1 := h
      have h2 := hnz i hi
      have h3 := hnz j hj
      rcases Nat.lt_trichotomy i j with c | c | c
      · exact absurd (by omega) (hinj i j c hj)
      · exact c
      · exact absurd (by omega) (hinj j i c hi)) (a % n - 1) hap
  have hia' : g ^ i % n - 1 = a % n - 1 := hia
  have hga : g ^ i % n = a % n := by have := hnz i hi; omega
  rw [Nat.pow_mod, ← hga, ← Nat.pow_mod, ← Nat.pow_mul, Nat.mul_comm, pow_one_mul n g _ i h1', h1n]
theorem pr_of (n : Nat) (hn : 3 ≤ n) (hf : ∀ a, a % n ≠ 0 → a ^ (n - 1) % n = 1) : IsPr n := by
  refine ⟨by omega, fun a b hab => ?_⟩
  by_cases h : a % n = 0
  · exact .inl (Nat.dvd_of_mod_eq_zero h)
  · right
    have h1 := hf a h
    have hz : (a ^ (n - 2) * (a * b)) % n = 0 := Nat.mod_eq_zero_of_dvd (Nat.dvd_mul_left_of_dvd hab _)
    have e : a ^ (n - 2) * (a * b) = a ^ (n - 1) * b := by
      rw [← Nat.mul_assoc, ← Nat.pow_succ]
      congr 2; omega
    rw [e, Nat.mul_mod, h1, Nat.one_mul, Nat.mod_mod] at hz
    exact Nat.dvd_of_mod_eq_zero hz
/-- the certificate, as the kernel checks it -/
def certB (n g : Nat) (L : List Nat) : Bool := decide (3 ≤ n) && decide (prodL L = n - 1) && decide (n < 2 ^ 256) && decide (powm n 256 g (n - 1) = 1) && L.all fun q => decide (powm n 256 g ((n - 1) / q) ≠ 1)
theorem cert_fermat (n g : Nat) (L : List Nat) (h : certB n g L = true) (hL : ∀ q ∈ L, IsPr q) : ∀ a, a % n ≠ 0 → a ^ (n - 1) % n = 1 := by
  simp only [certB, Bool.and_eq_true, decide_eq_true_eq, List.all_eq_true] at h
  obtain ⟨⟨⟨⟨h1, h2⟩, h3⟩, h4⟩, h5⟩ := h
  refine fermat_of n g L h1 hL h2 (by rw [← powm_eq n 256 g _ (by omega)]; exact h4) fun q hq => ?_
  have h6 := h5 q hq
  rwa [powm_eq n 256 g _ (Nat.lt_of_le_of_lt (Nat.div_le_self _ _) (by omega))] at h6
theorem cert_pr (n g : Nat) (L : List Nat) (h : certB n g L = true) (hL : ∀ q ∈ L, IsPr q) : IsPr n := by
  have h' := h
  simp only [certB, Bool.and_eq_true, decide_eq_true_eq] at h'
  exact pr_of n h'.1.1.1.1 (cert_fermat n g L h hL)
theorem all_nil : ∀ q ∈ ([] : List Nat), IsPr q := fun _ h => by simp at h
theorem all_cons {x : Nat} {L : List Nat} (hx : IsPr x) (h : ∀ q ∈ L, IsPr q) : ∀ q ∈ x :: L, IsPr q := fun q hq => by
  rcases List.mem_cons.1 hq with rfl | hq
  · exact hx
  · exact h q hq

theorem pr0 : IsPr 2 := small_pr 2 (by decide) (by decide +kernel)
theorem pr1 : IsPr 3 := small_pr 3 (by decide) (by decide +kernel)
theorem pr2 : IsPr 5 := small_pr 5 (by decide) (by decide +kernel)
theorem pr3 : IsPr 17 := small_pr 17 (by decide) (by decide +kernel)
theorem pr4 : IsPr 257 := small_pr 257 (by decide) (by decide +kernel)
theorem pr5 : IsPr 641 := cert_pr 641 3 [2, 2, 2, 2, 2, 2, 2, 5] (by decide +kernel) (all_cons pr0 (all_cons pr0 (all_cons pr0 (all_cons pr0 (all_cons pr0 (all_cons pr0 (all_cons pr0 (all_cons pr2 (all_nil)))))))))
theorem pr6 : IsPr 1531 := cert_pr 1531 2 [2, 3, 3, 5, 17] (by decide +kernel) (all_cons pr0 (all_cons pr1 (all_cons pr1 (all_cons pr2 (all_cons pr3 (all_nil))))))
theorem pr7 : IsPr 65537 := cert_pr 65537 3 [2, 2, 2, 2, 2, 2, 2, 2, 2, 2, 2, 2, 2, 2, 2, 2] (by decide +kernel) (all_cons pr0 (all_cons pr0 (all_cons pr0 (all_cons pr0 (all_cons pr0 (all_cons pr0 (all_cons pr0 (all_cons pr0 (all_cons pr0 (all_cons pr0 (all_cons pr0 (all_cons pr0 (all_cons pr0 (all_cons pr0 (all_cons pr0 (all_cons pr0 (all_nil)))))))))))))))))
theorem pr8 : IsPr 7 := small_pr 7 (by decide) (by decide +kernel)
theorem pr9 : IsPr 53 := small_pr 53 (by decide) (by decide +kernel)
theorem pr10 : IsPr 11 := small_pr 11 (by decide) (by decide +kernel)
theorem pr11 : IsPr 661 := cert_pr 661 2 [2, 2, 3, 5, 11] (by decide +kernel) (all_cons pr0 (all_cons pr0 (all_cons pr1 (all_cons pr2 (all_cons pr10 (all_nil))))))
theorem pr12 : IsPr 490463 := cert_pr 490463 14 [2, 7, 53, 661] (by decide +kernel) (all_cons pr0 (all_cons pr8 (all_cons pr9 (all_cons pr11 (all_nil)))))
theorem pr13 : IsPr 727 := cert_pr 727 5 [2, 3, 11, 11] (by decide +kernel) (all_cons pr0 (all_cons pr1 (all_cons pr10 (all_cons pr10 (all_nil)))))
theorem pr14 : IsPr 17449 := cert_pr 17449 14 [2, 2, 2, 3, 727] (by decide +kernel) (all_cons pr0 (all_cons pr0 (all_cons pr0 (all_cons pr1 (all_cons pr13 (all_nil))))))
theorem pr15 : IsPr 6700417 := cert_pr 6700417 5 [2, 2, 2, 2, 2, 2, 2, 3, 17449] (by decide +kernel) (all_cons pr0 (all_cons pr0 (all_cons pr0 (all_cons pr0 (all_cons pr0 (all_cons pr0 (all_cons pr0 (all_cons pr1 (all_cons pr14 (all_nil))))))))))
theorem pr16 : IsPr 241 := small_pr 241 (by decide) (by decide +kernel)
theorem pr17 : IsPr 2411 := cert_pr 2411 6 [2, 5, 241] (by decide +kernel) (all_cons pr0 (all_cons pr2 (all_cons pr16 (all_nil))))
theorem pr18 : IsPr 23 := small_pr 23 (by decide) (by decide +kernel)
theorem pr19 : IsPr 107 := small_pr 107 (by decide) (by decide +kernel)
theorem pr20 : IsPr 157 := small_pr 157 (by decide) (by decide +kernel)
theorem pr21 : IsPr 3769 := cert_pr 3769 7 [2, 2, 2, 3, 157] (by decide +kernel) (all_cons pr0 (all_cons pr0 (all_cons pr0 (all_cons pr1 (all_cons pr20 (all_nil))))))
theorem pr22 : IsPr 204061199 := cert_pr 204061199 11 [2, 11, 23, 107, 3769] (by decide +kernel) (all_cons pr0 (all_cons pr10 (all_cons pr18 (all_cons pr19 (all_cons pr21 (all_nil))))))
theorem pr23 : IsPr 34282281433 := cert_pr 34282281433 17 [2, 2, 2, 3, 7, 204061199] (by decide +kernel) (all_cons pr0 (all_cons pr0 (all_cons pr0 (all_cons pr1 (all_cons pr8 (all_cons pr22 (all_nil)))))))
theorem pr24 : IsPr 173 := small_pr 173 (by decide) (by decide +kernel)
theorem pr25 : IsPr 197 := small_pr 197 (by decide) (by decide +kernel)
theorem pr26 : IsPr 919 := cert_pr 919 7 [2, 3, 3, 3, 17] (by decide +kernel) (all_cons pr0 (all_cons pr1 (all_cons pr1 (all_cons pr1 (all_cons pr3 (all_nil))))))
theorem pr27 : IsPr 3677 := cert_pr 3677 2 [2, 2, 919] (by decide +kernel) (all_cons pr0 (all_cons pr0 (all_cons pr26 (all_nil))))
theorem pr28 : IsPr 66417393611 := cert_pr 66417393611 6 [2, 5, 53, 173, 197, 3677] (by decide +kernel) (all_cons pr0 (all_cons pr2 (all_cons pr9 (all_cons pr24 (all_cons pr25 (all_cons pr27 (all_nil)))))))
theorem pr29 : IsPr 11290956913871 := cert_pr 11290956913871 13 [2, 5, 17, 66417393611] (by decide +kernel) (all_cons pr0 (all_cons pr2 (all_cons pr3 (all_cons pr28 (all_nil)))))
theorem pr30 : IsPr 757 := cert_pr 757 2 [2, 2, 3, 3, 3, 7] (by decide +kernel) (all_cons pr0 (all_cons pr0 (all_cons pr1 (all_cons pr1 (all_cons pr1 (all_cons pr8 (all_nil)))))))
theorem pr31 : IsPr 18169 := cert_pr 18169 11 [2, 2, 2, 3, 757] (by decide +kernel) (all_cons pr0 (all_cons pr0 (all_cons pr0 (all_cons pr1 (all_cons pr30 (all_nil))))))
theorem pr32 : IsPr 181 := small_pr 181 (by decide) (by decide +kernel)
theorem pr33 : IsPr 1087 := cert_pr 1087 3 [2, 3, 181] (by decide +kernel) (all_cons pr0 (all_cons pr1 (all_cons pr32 (all_nil))))
theorem pr34 : IsPr 4349 := cert_pr 4349 2 [2, 2, 1087] (by decide +kernel) (all_cons pr0 (all_cons pr0 (all_cons pr33 (all_nil))))
theorem pr35 : IsPr 78283 := cert_pr 78283 3 [2, 3, 3, 4349] (by decide +kernel) (all_cons pr0 (all_cons pr1 (all_cons pr1 (all_cons pr34 (all_nil)))))
theorem pr36 : IsPr 13 := small_pr 13 (by decide) (by decide +kernel)
theorem pr37 : IsPr 313 := cert_pr 313 10 [2, 2, 2, 3, 13] (by decide +kernel) (all_cons pr0 (all_cons pr0 (all_cons pr0 (all_cons pr1 (all_cons pr36 (all_nil))))))
theorem pr38 : IsPr 704251 := cert_pr 704251 2 [2, 3, 3, 5, 5, 5, 313] (by decide +kernel) (all_cons pr0 (all_cons pr1 (all_cons pr1 (all_cons pr2 (all_cons pr2 (all_cons pr2 (all_cons pr37 (all_nil))))))))
theorem pr39 : IsPr 46076956964474543 := cert_pr 46076956964474543 5 [2, 23, 18169, 78283, 704251] (by decide +kernel) (all_cons pr0 (all_cons pr18 (all_cons pr31 (all_cons pr35 (all_cons pr38 (all_nil))))))
theorem pr40 : IsPr 774023187263532362759620327192479577272145303 := cert_pr 774023187263532362759620327192479577272145303 3 [2, 3, 3, 2411, 34282281433, 11290956913871, 46076956964474543] (by decide +kernel) (all_cons pr0 (all_cons pr1 (all_cons pr1 (all_cons pr17 (all_cons pr23 (all_cons pr29 (all_cons pr39 (all_nil))))))))
theorem pr41 : IsPr 835945042244614951780389953367877943453916927241 := cert_pr 835945042244614951780389953367877943453916927241 11 [2, 2, 2, 3, 3, 3, 5, 774023187263532362759620327192479577272145303] (by decide +kernel) (all_cons pr0 (all_cons pr0 (all_cons pr0 (all_cons pr1 (all_cons pr1 (all_cons pr1 (all_cons pr2 (all_cons pr40 (all_nil)))))))))
def primeP : Nat := 115792089210356248762697446949407573530086143415290314195533631308867097853951
theorem fermatP : ∀ a, a % primeP ≠ 0 → a ^ (primeP - 1) % primeP = 1 := cert_fermat primeP 6 [2, 3, 5, 5, 17, 257, 641, 1531, 65537, 490463, 6700417, 835945042244614951780389953367877943453916927241] (by decide +kernel) (all_cons pr0 (all_cons pr1 (all_cons pr2 (all_cons pr2 (all_cons pr3 (all_cons pr4 (all_cons pr5 (all_cons pr6 (all_cons pr7 (all_cons pr12 (all_cons pr15 (all_cons pr41 (all_nil)))))))))))))
theorem pr43 : IsPr 71 := small_pr 71 (by decide) (by decide +kernel)
theorem pr44 : IsPr 131 := small_pr 131 (by decide) (by decide +kernel)
theorem pr45 : IsPr 31 := small_pr 31 (by decide) (by decide +kernel)
theorem pr46 : IsPr 373 := cert_pr 373 2 [2, 2, 3, 31] (by decide +kernel) (all_cons pr0 (all_cons pr0 (all_cons pr1 (all_cons pr45 (all_nil)))))
theorem pr47 : IsPr 3407 := cert_pr 3407 5 [2, 13, 131] (by decide +kernel) (all_cons pr0 (all_cons pr36 (all_cons pr44 (all_nil))))
theorem pr48 : IsPr 37 := small_pr 37 (by decide) (by decide +kernel)
theorem pr49 : IsPr 43 := small_pr 43 (by decide) (by decide +kernel)
theorem pr50 : IsPr 9547 := cert_pr 9547 2 [2, 3, 37, 43] (by decide +kernel) (all_cons pr0 (all_cons pr1 (all_cons pr48 (all_cons pr49 (all_nil)))))
theorem pr51 : IsPr 38189 := cert_pr 38189 2 [2, 2, 9547] (by decide +kernel) (all_cons pr0 (all_cons pr0 (all_cons pr50 (all_nil))))
theorem pr52 : IsPr 229 := small_pr 229 (by decide) (by decide +kernel)
theorem pr53 : IsPr 1201 := cert_pr 1201 11 [2, 2, 2, 2, 3, 5, 5] (by decide +kernel) (all_cons pr0 (all_cons pr0 (all_cons pr0 (all_cons pr0 (all_cons pr1 (all_cons pr2 (all_cons pr2 (all_nil))))))))
theorem pr54 : IsPr 9350987 := cert_pr 9350987 2 [2, 17, 229, 1201] (by decide +kernel) (all_cons pr0 (all_cons pr3 (all_cons pr52 (all_cons pr53 (all_nil)))))
theorem pr55 : IsPr 187019741 := cert_pr 187019741 2 [2, 2, 5, 9350987] (by decide +kernel) (all_cons pr0 (all_cons pr0 (all_cons pr2 (all_cons pr54 (all_nil)))))
theorem pr56 : IsPr 29 := small_pr 29 (by decide) (by decide +kernel)
theorem pr57 : IsPr 311 := cert_pr 311 17 [2, 5, 31] (by decide +kernel) (all_cons pr0 (all_cons pr2 (all_cons pr45 (all_nil))))
theorem pr58 : IsPr 311245691 := cert_pr 311245691 2 [2, 5, 7, 17, 29, 29, 311] (by decide +kernel) (all_cons pr0 (all_cons pr2 (all_cons pr8 (all_cons pr3 (all_cons pr56 (all_cons pr56 (all_cons pr57 (all_nil))))))))
theorem pr59 : IsPr 622491383 := cert_pr 622491383 5 [2, 311245691] (by decide +kernel) (all_cons pr0 (all_cons pr58 (all_nil)))
theorem pr60 : IsPr 263 := small_pr 263 (by decide) (by decide +kernel)
theorem pr61 : IsPr 126241 := cert_pr 126241 7 [2, 2, 2, 2, 2, 3, 5, 263] (by decide +kernel) (all_cons pr0 (all_cons pr0 (all_cons pr0 (all_cons pr0 (all_cons pr0 (all_cons pr1 (all_cons pr2 (all_cons pr60 (all_nil)))))))))
theorem pr62 : IsPr 19 := small_pr 19 (by decide) (by decide +kernel)
theorem pr63 : IsPr 337 := cert_pr 337 10 [2, 2, 2, 2, 3, 7] (by decide +kernel) (all_cons pr0 (all_cons pr0 (all_cons pr0 (all_cons pr0 (all_cons pr1 (all_cons pr8 (all_nil)))))))
theorem pr64 : IsPr 104471 := cert_pr 104471 11 [2, 5, 31, 337] (by decide +kernel) (all_cons pr0 (all_cons pr2 (all_cons pr45 (all_cons pr63 (all_nil)))))
theorem pr65 : IsPr 3969899 := cert_pr 3969899 2 [2, 19, 104471] (by decide +kernel) (all_cons pr0 (all_cons pr62 (all_cons pr64 (all_nil))))
theorem pr66 : IsPr 1002328039319 := cert_pr 1002328039319 19 [2, 126241, 3969899] (by decide +kernel) (all_cons pr0 (all_cons pr61 (all_cons pr65 (all_nil))))
theorem pr67 : IsPr 1297 := cert_pr 1297 10 [2, 2, 2, 2, 3, 3, 3, 3] (by decide +kernel) (all_cons pr0 (all_cons pr0 (all_cons pr0 (all_cons pr0 (all_cons pr1 (all_cons pr1 (all_cons pr1 (all_cons pr1 (all_nil)))))))))
theorem pr68 : IsPr 97 := small_pr 97 (by decide) (by decide +kernel)
theorem pr69 : IsPr 16879 := cert_pr 16879 3 [2, 3, 29, 97] (by decide +kernel) (all_cons pr0 (all_cons pr1 (all_cons pr56 (all_cons pr68 (all_nil)))))
theorem pr70 : IsPr 127 := small_pr 127 (by decide) (by decide +kernel)
theorem pr71 : IsPr 151 := small_pr 151 (by decide) (by decide +kernel)
theorem pr72 : IsPr 1511 := cert_pr 1511 11 [2, 5, 151] (by decide +kernel) (all_cons pr0 (all_cons pr2 (all_cons pr71 (all_nil))))
theorem pr73 : IsPr 3023 := cert_pr 3023 5 [2, 1511] (by decide +kernel) (all_cons pr0 (all_cons pr72 (all_nil)))
theorem pr74 : IsPr 41 := small_pr 41 (by decide) (by decide +kernel)
theorem pr75 : IsPr 155317 := cert_pr 155317 5 [2, 2, 3, 7, 43, 43] (by decide +kernel) (all_cons pr0 (all_cons pr0 (all_cons pr1 (all_cons pr8 (all_cons pr49 (all_cons pr49 (all_nil)))))))
theorem pr76 : IsPr 191039911 := cert_pr 191039911 3 [2, 3, 5, 41, 155317] (by decide +kernel) (all_cons pr0 (all_cons pr1 (all_cons pr2 (all_cons pr74 (all_cons pr75 (all_nil))))))
theorem pr77 : IsPr 208150935158385979 := cert_pr 208150935158385979 2 [2, 3, 11, 43, 127, 3023, 191039911] (by decide +kernel) (all_cons pr0 (all_cons pr1 (all_cons pr10 (all_cons pr49 (all_cons pr70 (all_cons pr73 (all_cons pr76 (all_nil))))))))
theorem pr78 : IsPr 2624747550333869278416773953 := cert_pr 2624747550333869278416773953 7 [2, 2, 2, 2, 2, 2, 3, 3, 1297, 16879, 208150935158385979] (by decide +kernel) (all_cons pr0 (all_cons pr0 (all_cons pr0 (all_cons pr0 (all_cons pr0 (all_cons pr0 (all_cons pr1 (all_cons pr1 (all_cons pr67 (all_cons pr69 (all_cons pr77 (all_nil))))))))))))
def primeN : Nat := 115792089210356248762697446949407573529996955224135760342422259061068512044369
theorem fermatN : ∀ a, a % primeN ≠ 0 → a ^ (primeN - 1) % primeN = 1 := cert_fermat primeN 7 [2, 2, 2, 2, 3, 71, 131, 373, 3407, 17449, 38189, 187019741, 622491383, 1002328039319, 2624747550333869278416773953] (by decide +kernel) (all_cons pr0 (all_cons pr0 (all_cons pr0 (all_cons pr0 (all_cons pr1 (all_cons pr43 (all_cons pr44 (all_cons pr46 (all_cons pr47 (all_cons pr14 (all_cons pr51 (all_cons pr55 (all_cons pr59 (all_cons pr66 (all_cons pr78 (all_nil))))))))))))))))
end Go.Proofs.Ytodialbopochdaa
