import Derived.Test.YtopjdckfphhnnaaDoorWd
namespace Go.Proofs.YtopjdckfphhnnaaDoor
open Go.RowKit

theorem made_bytes (n : Nat) : madeCells #[.int .u8 0] n = tab n zeroB := by
  apply Array.ext
  · simp [madeCells, tab]
  · intro i h1 h2
    simp [madeCells, tab, zeroB, Nat.mod_one]
theorem info5 : (Tryd.prog.info? 5).map (fun i => (i.zero, i.size, i.bytes)) = some (some (.int .u8 0), 1, 1) := by kernel_rfl
def partP (L k j : Nat) : Value := if j = 0 then .int .u8 128 else if padLen L ≤ j + k then by8 (padB L j) else .int .u8 0
theorem padLen_le (L : Nat) : 9 ≤ padLen L ∧ padLen L ≤ 72 := by unfold padLen; omega
theorem partP_zero (L : Nat) : (tab (padLen L) zeroB).setIfInBounds 0 (.int .u8 128) = tab (padLen L) (partP L 0) := by
  rw [tab_set]
  apply tab_ext
  intro j hj
  by_cases h : j = 0
  · simp [partP, h]
  · simp [partP, h, zeroB, show ¬ padLen L ≤ j by omega]
theorem pad_byte (L k : Nat) (hk : k < 8) : by8 (padB L (padLen L - 1 - k)) = .int .u8 ((L : Int) * 8 / 2 ^ (8 * k) % 256) := by
  have h := padLen_le L
  have e : padLen L - 1 - (padLen L - 1 - k) = k := by omega
  unfold by8 padB
  rw [if_neg (by omega), if_pos (by omega), e, UInt8.toNat_ofNat']
  simp
theorem partP_set (L k : Nat) (hk : k < 8) : (tab (padLen L) (partP L k)).setIfInBounds (padLen L - 1 - k) (by8 (padB L (padLen L - 1 - k))) = tab (padLen L) (partP L (k + 1)) := by
  have h := padLen_le L
  rw [tab_set]
  apply tab_ext
  intro j hj
  by_cases e : j = padLen L - 1 - k
  · rw [if_pos e]; subst e; simp [partP, show ¬ padLen L - 1 - k = 0 by omega, show padLen L ≤ padLen L - 1 - k + (k + 1) by omega]
  · rw [if_neg e]
    unfold partP
    by_cases h0 : j = 0
    · rw [if_pos h0, if_pos h0]
    · rw [if_neg h0, if_neg h0]
      by_cases h1 : padLen L ≤ j + k
      · rw [if_pos h1, if_pos (by omega)]
      · rw [if_neg h1, if_neg (by omega)]
theorem partP_end (L : Nat) : tab (padLen L) (partP L 8) = tab (padLen L) fun j => by8 (padB L j) := by
  apply tab_ext
  intro j hj
  unfold partP
  by_cases h0 : j = 0
  · subst h0; simp [by8, padB]
  · rw [if_neg h0]
    by_cases h1 : padLen L ≤ j + 8
    · rw [if_pos h1]
    · rw [if_neg h1]; simp [by8, padB, h0, h1]

set_option maxHeartbeats 1000000 in
theorem padding_any (L : Nat) (w : World) (hL : L ≤ 1048576) :
    Calls Tryd.prog 15 #[.int .u64 (L : Int)] w fun e w' => e = .returned (.slice (some ⟨w.heap.size, 0, none⟩) (padLen L) (padLen L)) ∧ Has w' w.heap.size 5 (tab (padLen L) fun j => by8 (padB L j)) ∧ Below w.heap.size w w' := by
  obtain ⟨i5, hi5, hz5, hs5, hb5⟩ := info_parts info5
  have hn := padLen_le L
  have hn1 : (1 : Int) + (119 - (L : Int)) % 64 + 8 = (padLen L : Int) := by unfold padLen; omega
  have hmk : ∀ u : World, (Instr.makeSlice 22 (.int .u64 ((1 : Int) + (119 - (L : Int)) % 64 + 8)) (.int .u64 ((1 : Int) + (119 - (L : Int)) % 64 + 8))).run Tryd.prog u =
      .ok (.slice (some ⟨u.heap.size, 0, none⟩) (padLen L) (padLen L)) (u.alloc (.cells (tab (padLen L) zeroB) 5)) := fun u => by
    have h := run_make (P := Tryd.prog) u 22 5 i5 (.int .u8 0) Tryd.underlying22 hi5 hz5 .u64 .u64 ((1 : Int) + (119 - (L : Int)) % 64 + 8) ((1 : Int) + (119 - (L : Int)) % 64 + 8) (by omega) (Int.le_refl _) (by rw [hb5]; omega) (by omega)
    rw [hn1, Int.toNat_natCast] at h
    rw [hn1, h, hs5, Nat.mul_one]
    simp only [Value.cells]
    rw [made_bytes]
  clear hn1
  have d0 : (0 : Int) < (padLen L : Int) := by omega
  have d72 : (padLen L : Int) ≤ 72 := by omega
  have d9 : (9 : Int) ≤ (padLen L : Int) := by omega
  have H0 : Has (w.alloc (.cells (tab (padLen L) zeroB) 5)) w.heap.size 5 (tab (padLen L) zeroB) := Has.new' rfl
  have c0 := H0.cellTab 0 (by omega)
  have f0 := H0.free 0
  go_enter Tryd.func15, Tryd.ntmps15
  go_wp2_with fail
  clear hmk
  clear H0 c0 f0
  go_loopw [6, 19] (fun _ ct wr => ∃ m : Nat, m ≤ 8 ∧ ct = .int .i64 m ∧ Has wr w.heap.size 5 (tab (padLen L) (partP L m)) ∧ Below w.heap.size w wr)
    (fun _ ct _ => 8 - (intOf ct).toNat)
  case atStart => exact ⟨0, by omega, rfl, by rw [← partP_zero]; exact Has.new' rfl, (Below.refl _ _).alloc (Nat.le_refl _) _⟩
  case round =>
    obtain ⟨m, hm, rfl, h1, hb⟩ := hrel
    by_cases hlt : m < 8
    · have c0 := h1.cellTab (padLen L - 1 - m) (by omega)
      have f0 := h1.free (padLen L - 1 - m)
      have dm : (m : Int) < 8 := by omega
      have dp : (m : Int) + 1 ≤ (padLen L : Int) := by omega
      have eb := pad_byte L m hlt
      have Eb := Lib.hid eb
      clear eb
      go_wp2_with fail
      go_roundw
      case rel =>
        have e := partP_set L m hlt
        rw [Eb.out] at e
        exact ⟨m + 1, by omega, by go_num, by rw [← e]; exact h1.set _ _, hb.setCell (by simp) _⟩
      case measure => simp [intOf]; omega
    · have h3 : Has wr w.heap.size 5 (tab (padLen L) fun j => by8 (padB L j)) := by
        rw [← partP_end, show 8 = m by omega]; exact h1
      clear hm
      go_wp2_with fail
      go_ret
      exact ⟨rfl, h3, hb⟩
end Go.Proofs.YtopjdckfphhnnaaDoor
