/-
Layer 13: RelocPairs (plain).
-/
import Derived.Test.YtegaiphhoinilaaRlB
namespace Go.Proofs.Ytegaiphhoinilaa.Rc
open Go Go.RowKit

theorem put_U (m : Nat → UInt8) (x v : Nat) (t : Int) (ht : ¬(t = 18 ∨ t = 19)) : putV m x t (.num .U v) = stM m x 4 (ldV m x 4 % 4096 + upP v) := if_neg ht
section
variable (b V A w0 w1 : Nat) (h1 : 2147483648 ≤ b) (h2 : b + 8 ≤ 2147549184) (h4 : b % 4 = 0) (hV : V < 4294967296) (hA : A < 4294967296) (h0 : w0 < 4294967296) (hw : w1 < 4294967296)
theorem sym_one (l : List Nat) (_hl : 0 < l.length) (hn : (1 : Int) < ((0 :: l).length : Int)) : symP (0 :: l) b 1 = (b + l.getD 0 0) % 4294967296 := by
  unfold symP
  rw [if_neg (by omega)]
  rfl
/-- two words -/
def twoM (m : Nat → UInt8) : Nat → UInt8 := stM (stM m b 4 w0) (b + 4) 4 w1
include h1 h2 in
theorem st_two : stB b 4 = true ∧ stB (b + 4) 4 = true := ⟨stB_in h1 (by omega), stB_in (by omega) (by omega)⟩
include h1 h2 h0 hw in
theorem two_ld (m : Nat → UInt8) : ldV (twoM b w0 w1 m) b 4 = w0 ∧ ldV (twoM b w0 w1 m) (b + 4) 4 = w1 := by
  obtain ⟨s1, s2⟩ := st_two b h1 h2
  unfold twoM
  exact ⟨by rw [ld_far _ (b + 4) b w1 s2 s1 (Or.inr (by omega)), ld_st _ _ _ s1 h0], ld_st _ _ _ s2 hw⟩
theorem may_two (t s : Int) (p a : Nat) (ht : okT t) (h3 : 3 < t) (hk : kL t = 4) (hp : p = 0 ∨ p = 4) (h1 : 2147483648 ≤ b) (h2 : b + 8 ≤ 2147549184) (h4 : b % 4 = 0) : mayP b [(b, 8)] ⟨p, t, s, a⟩ = true := by
  rw [mayP_eq _ _ _ _ _ _ ht, hk]
  have e : (b + p) % 4294967296 = b + p := by omega
  rw [e, show inSp [(b, 8)] (b + p) 4 = true by
    unfold inSp
    rw [List.any_cons, decide_eq_true (by show _ ∧ _; omega)]
    rfl, decide_eq_false (show ¬ (b + p) % 4 ≠ 0 by omega), decide_eq_false (show ¬ t = 3 by omega)]
  simp
/-- the first file: an upper and a lower part -/
def rsA : List Re := [⟨0, 23, 1, A⟩, ⟨4, 24, 2, 0⟩]
include h1 h2 h4 h0 hw in
theorem pair_all (m : Nat → UInt8) (v : Nat) (hv : v = (V + A) % 4294967296) : allP [0, V, 0] (rsA A) b [(b, 8)] (twoM b w0 w1 m) (rsA A) = (0, stM (stM (twoM b w0 w1 m) b 4 (w0 % 4096 + upP v)) (b + 4) 4 (setN .I w1 v 32)) := by
  obtain ⟨s1, s2⟩ := st_two b h1 h2
  obtain ⟨l1, l2⟩ := two_ld b w0 w1 h1 h2 h0 hw m
  generalize twoM b w0 w1 m = M at *
  have hat0 : atP b ⟨0, 23, 1, A⟩ = b := by show (b + 0) % 4294967296 = b; omega
  have hat4 : atP b ⟨4, 24, 2, 0⟩ = b + 4 := by show (b + 4) % 4294967296 = b + 4; omega
  have hsy : symP [0, V, 0] b 1 = (b + V) % 4294967296 := sym_one b [V, 0] (by simp) (by simp)
  have hsy2 : symP [0, V, 0] b 2 = b := by
    unfold symP
    rw [if_neg (by simp)]
    show (b + 0) % 4294967296 = b
    omega
  have hway : wayP [0, V, 0] b ⟨0, 23, 1, A⟩ = v := by
    unfold wayP saP
    rw [hat0]
    show ((symP [0, V, 0] b 1 + A) % 4294967296 + 4294967296 - b) % 4294967296 = v
    rw [hsy]
    omega
  have hvl : v < 4294967296 := by omega
  have hup := upP_le v
  have e1 := one_val (ss := [0, V, 0]) (rs := rsA A) (B := b) (l := [(b, 8)]) (m := M) (r := ⟨0, 23, 1, A⟩) (may_two b 23 1 0 A (by unfold okT; decide) (by decide) (by decide) (Or.inl rfl) h1 h2 h4) (by rw [hat0]; exact s1)
  rw [val_u [0, V, 0] (rsA A) b 0 1 A 23 (by decide), hway, hat0] at e1
  have e1' : oneP [0, V, 0] (rsA A) b [(b, 8)] M ⟨0, 23, 1, A⟩ = (0, stM M b 4 (w0 % 4096 + upP v)) := by
    rw [e1, ← l1]
    exact congrArg (Prod.mk 0) (put_U M b v 23 (by decide))
  have hy : w0 % 4096 + upP v < 4294967296 := by omega
  have l3 : ldV (stM M b 4 (w0 % 4096 + upP v)) (b + 4) 4 = w1 := by rw [ld_far _ b (b + 4) _ s1 s2 (Or.inl (by omega)), l2]
  generalize stM M b 4 (w0 % 4096 + upP v) = M1 at *
  have e2 := one_val (ss := [0, V, 0]) (rs := rsA A) (B := b) (l := [(b, 8)]) (m := M1) (r := ⟨4, 24, 2, 0⟩) (may_two b 24 2 4 0 (by unfold okT; decide) (by decide) (by decide) (Or.inr rfl) h1 h2 h4) (by rw [hat4]; exact s2)
  have hval : valP [0, V, 0] (rsA A) b ⟨4, 24, 2, 0⟩ = .num .I v := by
    rw [val_lo [0, V, 0] (rsA A) b 4 2 0 24 (by decide)]
    rw [hsy2]
    unfold loP
    rw [if_pos rfl, show (b + 0) % 4294967296 = b by omega]
    unfold rsA
    rw [hi_hit [0, V, 0] b b ⟨0, 23, 1, A⟩ _ rfl hat0, hway]
    rfl
  rw [hval, hat4] at e2
  have e2' : oneP [0, V, 0] (rsA A) b [(b, 8)] M1 ⟨4, 24, 2, 0⟩ = (0, stM M1 (b + 4) 4 (setN .I w1 v 32)) := by
    rw [e2, ← l3]
    rfl
  show allP [0, V, 0] (rsA A) b [(b, 8)] M [⟨0, 23, 1, A⟩, ⟨4, 24, 2, 0⟩] = _
  rw [all_go e1', all_go e2']
  rfl
/-- the second file: both parts of a whole address -/
def rsB : List Re := [⟨0, 26, 1, A⟩, ⟨4, 28, 1, A⟩]
include h1 h2 h4 h0 hw in
theorem pair_all2 (m : Nat → UInt8) (v : Nat) (hv : v = (b + V + A) % 4294967296) : allP [0, V] (rsB A) b [(b, 8)] (twoM b w0 w1 m) (rsB A) = (0, stM (stM (twoM b w0 w1 m) b 4 (w0 % 4096 + upP v)) (b + 4) 4 (setN .S w1 v 32)) := by
  obtain ⟨s1, s2⟩ := st_two b h1 h2
  obtain ⟨l1, l2⟩ := two_ld b w0 w1 h1 h2 h0 hw m
  generalize twoM b w0 w1 m = M at *
  have hat0 : atP b ⟨0, 26, 1, A⟩ = b := by show (b + 0) % 4294967296 = b; omega
  have hat4 : atP b ⟨4, 28, 1, A⟩ = b + 4 := by show (b + 4) % 4294967296 = b + 4; omega
  have hsy : symP [0, V] b 1 = (b + V) % 4294967296 := sym_one b [V] (by simp) (by simp)
  have hsa : (symP [0, V] b 1 + A) % 4294967296 = v := by rw [hsy]; omega
  have hvl : v < 4294967296 := by omega
  have hup := upP_le v
  have e1 := one_val (ss := [0, V]) (rs := rsB A) (B := b) (l := [(b, 8)]) (m := M) (r := ⟨0, 26, 1, A⟩) (may_two b 26 1 0 A (by unfold okT; decide) (by decide) (by decide) (Or.inl rfl) h1 h2 h4) (by rw [hat0]; exact s1)
  rw [val_26 [0, V] (rsB A) b 0 1 A, hsa, hat0] at e1
  have e1' : oneP [0, V] (rsB A) b [(b, 8)] M ⟨0, 26, 1, A⟩ = (0, stM M b 4 (w0 % 4096 + upP v)) := by
    rw [e1, ← l1]
    exact congrArg (Prod.mk 0) (put_U M b v 26 (by decide))
  have l3 : ldV (stM M b 4 (w0 % 4096 + upP v)) (b + 4) 4 = w1 := by rw [ld_far _ b (b + 4) _ s1 s2 (Or.inl (by omega)), l2]
  generalize stM M b 4 (w0 % 4096 + upP v) = M1 at *
  have e2 := one_val (ss := [0, V]) (rs := rsB A) (B := b) (l := [(b, 8)]) (m := M1) (r := ⟨4, 28, 1, A⟩) (may_two b 28 1 4 A (by unfold okT; decide) (by decide) (by decide) (Or.inr rfl) h1 h2 h4) (by rw [hat4]; exact s2)
  rw [val_28 [0, V] (rsB A) b 4 1 A, hsa, hat4] at e2
  have e2' : oneP [0, V] (rsB A) b [(b, 8)] M1 ⟨4, 28, 1, A⟩ = (0, stM M1 (b + 4) 4 (setN .S w1 v 32)) := by
    rw [e2, ← l3]
    rfl
  show allP [0, V] (rsB A) b [(b, 8)] M [⟨0, 26, 1, A⟩, ⟨4, 28, 1, A⟩] = _
  rw [all_go e1', all_go e2']
  rfl
end
theorem low_and (x : Nat) (n : Nat) (hx : x < 4294967296) (hn : n ≤ 32) : bits .and .u32 (x : Int) (((2 ^ n - 1 : Nat) : Int)) = ((x % 2 ^ n : Nat) : Int) := by
  have h32 : 2 ^ n ≤ 2 ^ 32 := Nat.pow_le_pow_right (by decide) hn
  have hp := Nat.two_pow_pos n
  rw [u32_and_nat _ _ hx (by have : (2 : Nat) ^ 32 = 4294967296 := by decide
                             omega)]
  rw [Nat.and_two_pow_sub_one_eq_mod]
theorem bitK_I : ∀ i, i < 20 → bitK .I i = none := by decide +kernel
theorem keep_I (w x : Nat) : setN .I w x 32 % 1048576 = w % 1048576 := by
  refine Nat.eq_of_testBit_eq fun i => ?_
  rw [show (1048576 : Nat) = 2 ^ 20 by decide, Nat.testBit_mod_two_pow, Nat.testBit_mod_two_pow]
  by_cases h : i < 20
  · rw [set_bit32 .I w x i (by omega), bitK_I i h]
  · rw [decide_eq_false h]
    rfl
end Go.Proofs.Ytegaiphhoinilaa.Rc
