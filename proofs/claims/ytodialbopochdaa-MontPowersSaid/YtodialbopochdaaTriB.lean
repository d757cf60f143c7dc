/-
The reference of layer 3: which is less, what is taken away.
-/
import Derived.Test.YtodialbopochdaaTriA
import Derived.Laws.Cover3
import Derived.Laws.Slices
namespace Go.Proofs.Ytodialbopochdaa
open Go.RowKit

def ltB (x y : Nat) : Bool := decide (x < y)
theorem ltB_dg (x y k : Nat) (h : x / 65536 ^ (k + 1) = y / 65536 ^ (k + 1)) (hne : hxd x k ≠ hxd y k) : ltB x y = decide (hxd x k < hxd y k) := less_dig 65536 x y k h hne
set_option maxRecDepth 100000 in
set_option maxHeartbeats 1000000 in
theorem less3_any (x y : Nat) (w : World) (hx : x < 65536 ^ 17) (hy : y < 65536 ^ 16) :
    Calls Try.prog 39 #[.agg (d17 x), .agg (d16 y)] w fun e w' => e = .returned (.bool (ltB x y)) ∧ Below w.heap.size w w' := by
  have h0 : Has ((w.alloc (.cells (d17 x) 57)).alloc (.cells (d16 y) 34)) w.heap.size 57 (d17 x) := (Has.new w _ _).alloc _
  have h1 : Has ((w.alloc (.cells (d17 x) 57)).alloc (.cells (d16 y) 34)) (w.heap.size + 1) 34 (d16 y) := Has.new' (by simp)
  have hb0 : Below w.heap.size w ((w.alloc (.cells (d17 x) 57)).alloc (.cells (d16 y) 34)) := ((Below.refl _ _).alloc (Nat.le_refl _) _).alloc (by simp) _
  have c16 := d17_at h0 16 (by decide)
  have hl16 := hxd_lt x 16
  have htop : hxd x 16 = x / 65536 ^ 16 := by
    unfold hxd dg
    exact Nat.mod_eq_of_lt (by rw [Nat.div_lt_iff_lt_mul (Nat.pow_pos (by decide)), ← Nat.pow_succ']; exact hx)
  by_cases hz : 0 < hxd x 16
  · have hf : ltB x y = false := by
      unfold ltB
      rw [htop] at hz
      have : ¬ x < 65536 ^ 16 := fun h => by rw [Nat.div_eq_of_lt h] at hz; omega
      exact decide_eq_false (by omega)
    have HF := Lib.hid hf
    have hd : decide (0 < hxd x 16) = true := by simp; omega
    clear hf hx hy htop
    go_enter Try.func39, Try.ntmps39
    go_wp2_with fail
    go_ret
    exact ⟨by rw [HF.out]; rfl, hb0⟩
  · have h16 : x / 65536 ^ 16 = y / 65536 ^ 16 := by rw [Nat.div_eq_of_lt hy]; omega
    have H := Lib.hid h16
    have hd : decide (0 < hxd x 16) = false := by simp; omega
    clear hx hy htop h16 hz
    go_enter Try.func39, Try.ntmps39
    go_wp2_with fail
    clear c16 hl16 hd
    go_loopw [5] (fun ct wr => ∃ k : Nat, k ≤ 16 ∧ ct = .int .i64 ((k : Int) - 1) ∧ Hid (x / 65536 ^ k = y / 65536 ^ k) ∧ Has wr w.heap.size 57 (d17 x) ∧ Has wr (w.heap.size + 1) 34 (d16 y) ∧ Below w.heap.size w wr) (fun ct _ => (intOf ct + 1).toNat)
    case atStart => exact ⟨16, by omega, rfl, H, h0, h1, hb0⟩
    case round =>
      clear h0 h1 hb0
      obtain ⟨k, hk, rfl, HK, h0, h1, hb⟩ := hrel
      clear H
      by_cases hlt : 0 < k
      · obtain ⟨k, rfl⟩ : ∃ j, k = j + 1 := ⟨k - 1, by omega⟩
        have ek : ((k + 1 : Nat) : Int) - 1 = (k : Int) := by omega
        rw [ek]
        clear ek
        have c0 := d17_at h0 k (by omega)
        have c1 := d16_at h1 k (by omega)
        have dk : (k : Int) < 16 := by omega
        by_cases he : hxd x k = hxd y k
        · have hd : (((hxd x k : Nat) : Int) == ((hxd y k : Nat) : Int)) = true := beq_iff_eq.2 (by omega)
          have HK' : Hid (x / 65536 ^ k = y / 65536 ^ k) := Lib.hid (by
            have e1 := div_stepB 65536 x k
            have e2 := div_stepB 65536 y k
            unfold hxd at he
            rw [e1, e2, HK.out, he])
          clear he HK
          go_wp2_with fail
          go_quiet (fail)
          go_wp2_with fail
          go_roundw
          case rel => exact ⟨k, by omega, by go_num, HK', h0.drewN _, h1.drewN _, below_drewN hb _⟩
          case measure => simp [intOf] <;> omega
        · have hd : (((hxd x k : Nat) : Int) == ((hxd y k : Nat) : Int)) = false := beq_eq_false_iff_ne.2 (by omega)
          have hl := ltB_dg x y k HK.out he
          have HL := Lib.hid hl
          clear he HK hl
          go_wp2_with fail
          go_quiet (fail)
          replace h0 := h0.drewN nq
          replace h1 := h1.drewN nq
          replace hb := below_drewN hb nq
          clear c0 c1
          generalize hq : Go.World.drewN _ nq = wr at *
          clear hq
          have c0 := d17_at h0 k (by omega)
          have c1 := d16_at h1 k (by omega)
          go_wp2_with fail
          go_quiet (fail)
          go_wp2_with fail
          go_ret
          exact ⟨by rw [HL.out]; rfl, below_drewN hb _⟩
      · have e0 : k = 0 := by omega
        subst e0
        have hf : ltB x y = false := by
          have := HK.out
          rw [Nat.pow_zero, Nat.div_one, Nat.div_one] at this
          simp [ltB, this]
        have HF := Lib.hid hf
        clear HK hf
        go_wp2_with fail
        go_ret
        exact ⟨by rw [HF.out]; rfl, hb⟩

/-- the first k digits of D, the others a's -/
def mixT (D a k j : Nat) : Value := .int .u64 (((if j < k then hxd D j else hxd a j) : Nat) : Int)
theorem mixT_zero (D a : Nat) : tab 17 (mixT D a 0) = d17 a := tab_ext _ _ _ fun j _ => by simp [mixT, dgs, hxd]
theorem mixT_end (D a : Nat) : tab 17 (mixT D a 17) = d17 D := tab_ext _ _ _ fun j hj => by simp [mixT, dgs, hxd, hj]
theorem mixT_at {w : World} {g : Nat} {t : TypeId} {D a k : Nat} (h : Has w g t (tab 17 (mixT D a k))) (hk : k < 17) : w.cell? ⟨g, k, none⟩ = some (.int .u64 ((hxd a k : Nat) : Int)) := by
  rw [h.cellTab k hk]
  simp [mixT]
theorem mixT_set (D a k : Nat) : (tab 17 (mixT D a k)).setIfInBounds k (.int .u64 ((hxd D k : Nat) : Int)) = tab 17 (mixT D a (k + 1)) := by
  rw [tab_set]
  apply tab_ext
  intro j _
  by_cases h : j = k
  · subst h; simp [mixT]
  · simp only [mixT, if_neg h]
    by_cases h2 : j < k
    · rw [if_pos h2, if_pos (by omega)]
    · rw [if_neg h2, if_neg (by omega)]
def bor3 (a b k : Nat) : Nat := bor 65536 a b k
theorem bor3_le (a b k : Nat) : bor3 a b k ≤ 1 := bor_le _ a b k
theorem take_lo (a b k : Nat) (hk : k < 17) (hb : b < 65536 ^ 17) : (((hxd a k : Nat) : Int) + 65536 - ((hxd b k : Nat) : Int) - ((bor3 a b k : Nat) : Int)) % 65536 = ((hxd (a + 65536 ^ 17 - b) k : Nat) : Int) := by
  have h : (hxd a k + 2 * 65536 - hxd b k - bor3 a b k) % 65536 = hxd (a + 65536 ^ 17 - b) k := sub_dg (by decide) hk hb
  have h1 := hxd_lt b k
  have h2 := bor3_le a b k
  rw [← h]; omega
theorem take_hi (a b k : Nat) : (1 : Int) - (((hxd a k : Nat) : Int) + 65536 - ((hxd b k : Nat) : Int) - ((bor3 a b k : Nat) : Int)) / 65536 = ((bor3 a b (k + 1) : Nat) : Int) := by
  have h : (if hxd a k < hxd b k + bor3 a b k then 1 else 0) = bor3 a b (k + 1) := bor_step (by decide) a b k
  have h1 := hxd_lt b k
  have h2 := bor3_le a b k
  have h3 := hxd_lt a k
  rw [← h]
  split <;> omega

attribute [local go_sem] zeroNum zero16 zero17
set_option maxRecDepth 100000 in
set_option maxHeartbeats 1000000 in
theorem take_any (a b : Nat) (w : World) (ha : a < 65536 ^ 17) (hb : b < 65536 ^ 16) (hle : b ≤ a) :
    Calls Try.prog 40 #[.agg (d17 a), .agg (d16 b)] w fun e w' => e = .returned (.agg (d17 (a - b))) ∧ Below w.heap.size w w' := by
  have hD : d17 (a + 65536 ^ 17 - b) = d17 (a - b) := by
    unfold d17
    refine dgs_congr ?_
    rw [show a + 65536 ^ 17 - b = a - b + 65536 ^ 17 by omega, Nat.add_mod_right]
  have hb17 : b < 65536 ^ 17 := Nat.lt_of_lt_of_le hb (Nat.pow_le_pow_right (by decide) (by decide))
  have hlo := fun k (hk : k < 17) => take_lo a b k hk hb17
  have hhi := take_hi a b
  have hb16 : hxd b 16 = 0 := dg_top (by decide) hb (Nat.le_refl _)
  rw [← hD]
  obtain ⟨D, hDD⟩ : ∃ D, D = a + 65536 ^ 17 - b := ⟨_, rfl⟩
  rw [← hDD] at hlo ⊢
  have HLO := Lib.hid hlo
  have HHI := Lib.hid hhi
  clear hD hb17 hDD ha hb hle hlo hhi
  go_enter Try.func40, Try.ntmps40
  go_wp2_with fail
  go_loopw [5, 6, 7, 8] (fun cc ct _ _ wr => ∃ k : Nat, k ≤ 17 ∧ ct = .int .i64 k ∧ cc = .int .u64 ((bor3 a b k : Nat) : Int) ∧ Has wr w.heap.size 57 (tab 17 (mixT D a k)) ∧ Has wr (w.heap.size + 1) 34 (d16 b) ∧
      Has wr (w.heap.size + 1 + 1) 57 (d17 0) ∧ Below w.heap.size w wr) (fun _ ct _ _ _ => 17 - (intOf ct).toNat)
  case atStart =>
    exact ⟨0, by omega, rfl, by rw [bor3, bor_zero]; rfl, by rw [mixT_zero]; exact ((Has.new w _ _).alloc _).alloc _, (Has.new' (by simp)).alloc _, Has.new' (by simp),
      (((Below.refl _ _).alloc (Nat.le_refl _) _).alloc (by simp) _).alloc (by simp <;> omega) _⟩
  case round =>
    obtain ⟨k, hk, rfl, rfl, h0, h1, h2, hb⟩ := hrel
    by_cases hlt : k < 17
    · have c0 := mixT_at h0 hlt
      have dk : (k : Int) < 17 := by omega
      have l0 : ((hxd a k : Nat) : Int) < 65536 := by have := hxd_lt a k; omega
      have l2 : ((bor3 a b k : Nat) : Int) ≤ 1 := by have := bor3_le a b k; omega
      have e1 := HLO.out k hlt
      have e2 := HHI.out k
      have f0 := h0.free k
      by_cases h16 : k < 16
      · have c1 := d16_at h1 k h16
        have d16k : (k : Int) < 16 := by omega
        have l1 : ((hxd b k : Nat) : Int) < 65536 := by have := hxd_lt b k; omega
        go_wp2_with fail
        go_roundw
        case rel => exact ⟨k + 1, by omega, by go_num, by rw [← e2], by rw [← mixT_set, ← e1]; exact h0.set k _, h1.far (by simp <;> omega) _, h2.far (by simp <;> omega) _, hb.setCell (by simp <;> omega) _⟩
        case measure => simp [intOf]; omega
      · have ek : k = 16 := by omega
        have d16k : ¬ (k : Int) < 16 := by omega
        have hz : ((hxd b k : Nat) : Int) = 0 := by rw [ek, hb16]; rfl
        rw [hz] at e1 e2
        simp only [Int.sub_zero] at e1 e2
        clear ek
        go_wp2_with fail
        go_roundw
        case rel => exact ⟨k + 1, by omega, by go_num, by rw [← e2], by rw [← mixT_set, ← e1]; exact h0.set k _, h1.far (by simp <;> omega) _, h2.far (by simp <;> omega) _, hb.setCell (by simp <;> omega) _⟩
        case measure => simp [intOf]; omega
    · have e17 : k = 17 := by omega
      have h0' : Has wr w.heap.size 57 (d17 D) := by rw [e17, mixT_end] at h0; exact h0
      have dk : ¬ (k : Int) < 17 := by omega
      clear e17 hk h0 h1
      go_wp2_with (first | refine wpList_load_row rfl 57 _ rfl w.heap.size rfl 57 _ _ _ h0' Try.underlying57 rfl (info17 _) ?_ | refine wpList_store_row rfl 57 _ _ rfl (w.heap.size + 1 + 1) _ rfl rfl 57 _ h2 (info17 _) (by simp only [d17_size]) (tab_oneCell _ _ fun _ => rfl) ?_)
      exact bodyPost_ret (v := .agg (d17 D)) (results_cell_row rfl _ _ (w.heap.size + 1 + 1) 57 _ _ _ rfl (h2.setRow _) Try.underlying57 rfl (info17 _)) rfl ⟨rfl, below_setRow hb (by omega) _⟩
end Go.Proofs.Ytodialbopochdaa
