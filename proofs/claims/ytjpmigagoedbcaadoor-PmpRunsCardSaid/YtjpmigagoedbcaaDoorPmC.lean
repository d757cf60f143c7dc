/-
Layer 12: the reference's Range.
-/
import Derived.Test.YtjpmigagoedbcaaDoorRwA
import Derived.Lib.Hide
import Derived.BigQuiet
import Derived.Deep.DeepCutAuto
namespace Go.Proofs.YtjpmigagoedbcaaDoor.Pm
open Go Go.RowKit

/-- the bytes of entry i -/
def rangeI (es : List En) (i : Nat) : Nat × Nat := rangeP (if i = 0 then 0 else (es.getD (i - 1) en0).a) (es.getD i en0)
theorem onesF_le : ∀ n a, onesF n a ≤ n
  | 0, _ => Nat.le_refl _
  | n + 1, a => by
    unfold onesF
    split
    · have := onesF_le n (a / 2); omega
    · omega
theorem onesF_step (n a : Nat) (h : a % 2 = 1) : onesF (n + 1) a = onesF n (a / 2) + 1 := by
  show (if a % 2 = 1 then _ else _) = _
  rw [if_pos h]
theorem onesF_zero (n a : Nat) (h : a % 2 ≠ 1) : onesF n a = 0 := by
  cases n with
  | zero => rfl
  | succ n => show (if a % 2 = 1 then _ else _) = _; rw [if_neg h]
theorem rng_w1a {p : Nat} {e : En} (hw : e.w = 1) (h : 4 * e.a ≤ 4 * p) : rangeP p e = (4 * p, 4 * p) := by unfold rangeP; rw [if_pos hw, if_pos h]
theorem rng_w1b {p : Nat} {e : En} (hw : e.w = 1) (h : ¬4 * e.a ≤ 4 * p) : rangeP p e = (4 * p, 4 * e.a) := by unfold rangeP; rw [if_pos hw, if_neg h]
theorem rng_w2 {p : Nat} {e : En} (hw : e.w = 2) : rangeP p e = (4 * e.a, 4 * e.a + 4) := by unfold rangeP; rw [if_neg (by omega), if_pos hw]
theorem rng_w3 {p : Nat} {e : En} (hw : e.w = 3) : rangeP p e = (4 * e.a / napS e.a * napS e.a, 4 * e.a / napS e.a * napS e.a + napS e.a) := by unfold rangeP; rw [if_neg (by omega), if_neg (by omega), if_pos hw]
theorem rng_w0 {p : Nat} {e : En} (h1 : e.w ≠ 1) (h2 : e.w ≠ 2) (h3 : e.w ≠ 3) : rangeP p e = (0, 0) := by unfold rangeP; rw [if_neg h1, if_neg h2, if_neg h3]
/-- the call answers two numbers and leaves the world -/
def retR (f t : Nat) (w : World) (e : Ending) (w' : World) : Prop := e = .returned (.tuple #[.int .i64 (f : Int), .int .i64 (t : Int)]) ∧ w = w'
theorem pow32 {k : Nat} (h : k ≤ 32) : 2 ^ k ≤ 4294967296 := Nat.le_trans (Nat.pow_le_pow_right (by decide) h) (by decide)
set_option maxRecDepth 100000 in
set_option maxHeartbeats 2000000 in
theorem rr_1a (b o n c i a : Nat) (w : World) (hin : (i : Int) < (n : Int)) (_hn : n ≤ 140737488355328) (_ha : a < 4294967296) (hc0 : w.cell? ⟨b, o + i * 3, none⟩ = some (.int .i64 1)) (hc2 : w.cell? ⟨b, o + i * 3 + 2, none⟩ = some (.int .u32 0)) (hz : ¬ 0 < (i : Int)) :
    Calls Tryd.prog 27 #[.slice (some ⟨b, o, none⟩) n c, .int .i64 (i : Int)] w (retR (0) (0) w) := by
  have hat := fun W => at_entry b o n c i hin W
  have hi0 : ¬ (i : Int) < 0 := by omega
  have hni : ¬ (n : Int) ≤ (i : Int) := by omega
  unfold retR
  go_enter Tryd.func27, Tryd.ntmps27
  go_wp2_with fail
  go_ret2
  exact ⟨rfl, rfl⟩
set_option maxRecDepth 100000 in
set_option maxHeartbeats 2000000 in
theorem rr_1b (b o n c i a : Nat) (w : World) (hin : (i : Int) < (n : Int)) (_hn : n ≤ 140737488355328) (ha : a < 4294967296) (hc0 : w.cell? ⟨b, o + i * 3, none⟩ = some (.int .i64 1)) (hc2 : w.cell? ⟨b, o + i * 3 + 2, none⟩ = some (.int .u32 (a : Int))) (hz : ¬ 0 < (i : Int)) (hp : ¬ 4 * (a : Int) ≤ 0) :
    Calls Tryd.prog 27 #[.slice (some ⟨b, o, none⟩) n c, .int .i64 (i : Int)] w (retR (0) (4 * a) w) := by
  have hat := fun W => at_entry b o n c i hin W
  have hi0 : ¬ (i : Int) < 0 := by omega
  have hni : ¬ (n : Int) ≤ (i : Int) := by omega
  unfold retR
  go_enter Tryd.func27, Tryd.ntmps27
  go_wp2_with fail
  go_ret2
  exact ⟨rfl, rfl⟩
set_option maxRecDepth 100000 in
set_option maxHeartbeats 2000000 in
theorem rr_1c (b o n c i a : Nat) (j pa : Nat) (w : World) (hin : (i : Int) < (n : Int)) (hn : n ≤ 140737488355328) (ha : a < 4294967296) (hc0 : w.cell? ⟨b, o + i * 3, none⟩ = some (.int .i64 1)) (hc2 : w.cell? ⟨b, o + i * 3 + 2, none⟩ = some (.int .u32 (a : Int))) (hz : 0 < (i : Int)) (hj : (i : Int) - 1 = (j : Int)) (hpa : pa < 4294967296) (hcp : w.cell? ⟨b, o + j * 3 + 2, none⟩ = some (.int .u32 (pa : Int))) (hp : 4 * (a : Int) ≤ 4 * (pa : Int)) :
    Calls Tryd.prog 27 #[.slice (some ⟨b, o, none⟩) n c, .int .i64 (i : Int)] w (retR (4 * pa) (4 * pa) w) := by
  have hat := fun W => at_entry b o n c i hin W
  have hi0 : ¬ (i : Int) < 0 := by omega
  have hni : ¬ (n : Int) ≤ (i : Int) := by omega
  have hat2 := fun W => at_entry b o n c j (by omega) W
  have hjn : (j : Int) < (n : Int) := by omega
  unfold retR
  go_enter Tryd.func27, Tryd.ntmps27
  go_wp2_with fail
  go_ret2
  exact ⟨rfl, rfl⟩
set_option maxRecDepth 100000 in
set_option maxHeartbeats 2000000 in
theorem rr_1d (b o n c i a : Nat) (j pa : Nat) (w : World) (hin : (i : Int) < (n : Int)) (hn : n ≤ 140737488355328) (ha : a < 4294967296) (hc0 : w.cell? ⟨b, o + i * 3, none⟩ = some (.int .i64 1)) (hc2 : w.cell? ⟨b, o + i * 3 + 2, none⟩ = some (.int .u32 (a : Int))) (hz : 0 < (i : Int)) (hj : (i : Int) - 1 = (j : Int)) (hpa : pa < 4294967296) (hcp : w.cell? ⟨b, o + j * 3 + 2, none⟩ = some (.int .u32 (pa : Int))) (hp : ¬ 4 * (a : Int) ≤ 4 * (pa : Int)) :
    Calls Tryd.prog 27 #[.slice (some ⟨b, o, none⟩) n c, .int .i64 (i : Int)] w (retR (4 * pa) (4 * a) w) := by
  have hat := fun W => at_entry b o n c i hin W
  have hi0 : ¬ (i : Int) < 0 := by omega
  have hni : ¬ (n : Int) ≤ (i : Int) := by omega
  have hat2 := fun W => at_entry b o n c j (by omega) W
  have hjn : (j : Int) < (n : Int) := by omega
  unfold retR
  go_enter Tryd.func27, Tryd.ntmps27
  go_wp2_with fail
  go_ret2
  exact ⟨rfl, rfl⟩
set_option maxRecDepth 100000 in
set_option maxHeartbeats 2000000 in
theorem rr_2 (b o n c i a : Nat) (w : World) (hin : (i : Int) < (n : Int)) (_hn : n ≤ 140737488355328) (ha : a < 4294967296) (hc0 : w.cell? ⟨b, o + i * 3, none⟩ = some (.int .i64 2)) (hc2 : w.cell? ⟨b, o + i * 3 + 2, none⟩ = some (.int .u32 (a : Int))) :
    Calls Tryd.prog 27 #[.slice (some ⟨b, o, none⟩) n c, .int .i64 (i : Int)] w (retR (4 * a) (4 * a + 4) w) := by
  have hat := fun W => at_entry b o n c i hin W
  have hi0 : ¬ (i : Int) < 0 := by omega
  have hni : ¬ (n : Int) ≤ (i : Int) := by omega
  unfold retR
  go_enter Tryd.func27, Tryd.ntmps27
  go_wp2_with fail
  go_ret2
  exact ⟨rfl, rfl⟩
set_option maxRecDepth 100000 in
set_option maxHeartbeats 2000000 in
theorem rr_0 (b o n c i a : Nat) (wy : Int) (w : World) (hin : (i : Int) < (n : Int)) (_hn : n ≤ 140737488355328) (ha : a < 4294967296) (hc0 : w.cell? ⟨b, o + i * 3, none⟩ = some (.int .i64 wy)) (hc2 : w.cell? ⟨b, o + i * 3 + 2, none⟩ = some (.int .u32 (a : Int))) (h1 : (wy == 1) = false) (h2 : (wy == 2) = false) (h3 : (wy == 3) = false) :
    Calls Tryd.prog 27 #[.slice (some ⟨b, o, none⟩) n c, .int .i64 (i : Int)] w (retR (0) (0) w) := by
  have hat := fun W => at_entry b o n c i hin W
  have hi0 : ¬ (i : Int) < 0 := by omega
  have hni : ¬ (n : Int) ≤ (i : Int) := by omega
  unfold retR
  go_enter Tryd.func27, Tryd.ntmps27
  go_wp2_with fail
  go_ret2
  exact ⟨rfl, rfl⟩
set_option maxRecDepth 100000 in
set_option maxHeartbeats 2000000 in
theorem rr_3 (b o n c i a : Nat) (w : World) (hin : (i : Int) < (n : Int)) (_hn : n ≤ 140737488355328) (ha : a < 4294967296) (hc0 : w.cell? ⟨b, o + i * 3, none⟩ = some (.int .i64 3)) (hc2 : w.cell? ⟨b, o + i * 3 + 2, none⟩ = some (.int .u32 (a : Int))) :
    Calls Tryd.prog 27 #[.slice (some ⟨b, o, none⟩) n c, .int .i64 (i : Int)] w (retR (4 * a / napS a * napS a) (4 * a / napS a * napS a + napS a) w) := by
  have hat := fun W => at_entry b o n c i hin W
  have hi0 : ¬ (i : Int) < 0 := by omega
  have hni : ¬ (n : Int) ≤ (i : Int) := by omega
  obtain ⟨q, hq⟩ : ∃ q, q = onesF 32 a := ⟨_, rfl⟩
  have hq32 : q ≤ 32 := by rw [hq]; exact onesF_le 32 a
  have hsz : napS a = 8 * 2 ^ q := by unfold napS; rw [hq]
  rw [hsz]
  have HQ := Lib.hid hq
  clear hq hsz
  unfold retR
  go_enter Tryd.func27, Tryd.ntmps27
  go_wp2_with fail
  go_loopw [8, 9] (fun cs cr wr => ∃ k r : Nat, k ≤ q ∧ cs = .int .i64 ((8 * 2 ^ k : Nat) : Int) ∧ cr = .int .i64 (r : Int) ∧ r ≤ a ∧ q = onesF (32 - k) r + k ∧ (k = 32 → r = 0) ∧ r * 2 ^ k ≤ a ∧ w = wr) (fun cs cr _ => (intOf cr).toNat)
  case atStart => exact ⟨0, a, Nat.zero_le _, rfl, rfl, Nat.le_refl _, HQ.out, fun h => by omega, by omega, rfl⟩
  case round =>
    obtain ⟨k, r, hk, rfl, rfl, hra, hqk, hk32, hrk, rfl⟩ := hrel
    have hpk := pow32 (show k ≤ 32 by omega)
    have hp0 := Nat.two_pow_pos k
    have hps : 8 * 2 ^ (k + 1) = 8 * 2 ^ k * 2 := by rw [Nat.pow_succ]; omega
    have hps2 : r / 2 * 2 ^ (k + 1) ≤ a := by
      rw [Nat.pow_succ]
      have h1 : r / 2 * 2 ≤ r := by omega
      have h2 := Nat.mul_le_mul_right (2 ^ k) h1
      have e : r / 2 * (2 ^ k * 2) = r / 2 * 2 * 2 ^ k := by rw [Nat.mul_comm (2 ^ k) 2, ← Nat.mul_assoc]
      omega
    have h31 : k + 1 = 32 → r / 2 = 0 := fun h => by
      obtain rfl : k = 31 := by omega
      have e : (2 : Nat) ^ 31 = 2147483648 := by decide
      rw [e] at hrk
      omega
    obtain ⟨S, hS⟩ : ∃ S, S = 8 * 2 ^ k := ⟨_, rfl⟩
    have hSl : S ≤ 34359738368 := by omega
    have hS8 : 8 ≤ S := by omega
    rw [← hS] at hps
    have HS := Lib.hid hS
    have HPS := Lib.hid hps
    have HPS2 := Lib.hid hps2
    have HRK := Lib.hid hrk
    have HQK := Lib.hid hqk
    have H31 := Lib.hid h31
    have HK := Lib.hid hk32
    rw [← hS]
    clear hS hps hps2 hrk hqk hpk hp0 h31 hk32
    have hr4 : r < 4294967296 := by omega
    have htd : (r : Int).tdiv 2 = ((r / 2 : Nat) : Int) := by rw [Int.tdiv_eq_ediv_of_nonneg (by omega)]; omega
    have hdd : (r : Int) / 2 = ((r / 2 : Nat) : Int) := by omega
    by_cases hr : r % 2 = 1
    · have hm : (r : Int) % 2 = 1 := by omega
      have ht : (r : Int).tmod 2 = 1 := by rw [Int.tmod_eq_emod_of_nonneg (by omega)]; exact hm
      obtain ⟨r2, hr2⟩ : ∃ r2, r2 = r / 2 := ⟨_, rfl⟩
      rw [← hr2] at htd hdd
      have hlt : r2 < r := by omega
      have HR2 := Lib.hid hr2
      have HR := Lib.hid hr
      clear hr2 hr
      go_wp2_with fail
      go_roundw
      case rel =>
        have hk1 : k < 32 := by
          rcases Nat.lt_or_ge k 32 with h | h
          · exact h
          · have := HK.out (by omega); omega
        have e1 : 32 - k = (32 - (k + 1)) + 1 := by omega
        have e2 := HQK.out
        rw [e1, onesF_step _ _ HR.out, ← HR2.out] at e2
        refine ⟨k + 1, r2, by omega, ?_, rfl, by omega, by omega, fun h => by rw [HR2.out]; exact H31.out h, by rw [HR2.out]; exact HPS2.out, trivial⟩
        rw [HPS.out]; rfl
      case measure => simp [intOf] <;> omega
    · have hm : (r : Int) % 2 = 0 := by omega
      have ht : (r : Int).tmod 2 = 0 := by rw [Int.tmod_eq_emod_of_nonneg (by omega)]; exact hm
      have e2 := HQK.out
      rw [onesF_zero _ _ hr, Nat.zero_add] at e2
      subst e2
      have hd1 : (4 * (a : Int)).tdiv (S : Int) = ((4 * a / S : Nat) : Int) := by rw [Int.tdiv_eq_ediv_of_nonneg (by omega)]; rfl
      have hd2 : (4 * (a : Int)) / (S : Int) = ((4 * a / S : Nat) : Int) := rfl
      obtain ⟨d, hd⟩ : ∃ d, d = 4 * a / S := ⟨_, rfl⟩
      have hdl : d ≤ 17179869184 := by rw [hd]; exact Nat.le_trans (Nat.div_le_self _ _) (by omega)
      have hfl : d * S ≤ 17179869184 := by rw [hd]; exact Nat.le_trans (Nat.div_mul_le_self _ _) (by omega)
      rw [← hd] at hd1 hd2
      obtain ⟨F, hF⟩ : ∃ F, F = d * S := ⟨_, rfl⟩
      have hm1 : (d : Int) * (S : Int) = (F : Int) := by rw [hF, Int.natCast_mul]
      rw [← hF] at hfl
      have HF := Lib.hid hF
      have HD := Lib.hid hd
      clear hd hF
      clear hr
      go_wp2_with fail
      go_ret2
      refine ⟨?_, rfl⟩
      rw [show 4 * a / (8 * 2 ^ q) * (8 * 2 ^ q) = F by rw [← HS.out, ← HD.out, ← HF.out], ← HS.out]
      rfl
end Go.Proofs.YtjpmigagoedbcaaDoor.Pm
