/-
Layer 15: the reference's Write: the configuration, the addresses, no register; the whole.
-/
import Derived.Test.YtgpofoggfifnjaaGreatDoorJAs
namespace Go.Proofs.YtgpofoggfifnjaaGreatDoor.Cs
open Go Go.RowKit

theorem cfg4_0 (c : Nat → Nat) (b x : Nat) : cfg4 c b x 0 = c := by
  funext k
  unfold cfg4
  rw [if_neg (by omega)]
theorem cfg4_at (c : Nat → Nat) (b x i : Nat) : cfg4 c b x i (b + i) = c (b + i) := by
  unfold cfg4
  rw [if_neg (by omega)]
theorem cfg4_no (c : Nat → Nat) (b x i : Nat) (h : ¬ c (b + i) < 128) : cfg4 c b x (i + 1) = cfg4 c b x i := by
  funext k
  unfold cfg4
  by_cases e : k = b + i
  · subst e
    rw [if_neg (by omega), if_neg (by omega)]
  · by_cases h1 : b ≤ k ∧ k < b + i ∧ c k < 128
    · rw [if_pos (by omega), if_pos h1]
    · rw [if_neg (by omega), if_neg h1]
theorem cfg4_yes (c : Nat → Nat) (b x i : Nat) (h : c (b + i) < 128) : cfg4 c b x (i + 1) = upd (cfg4 c b x i) (b + i) (cfgB (x / 2 ^ (8 * i) % 256)) := by
  funext k
  unfold upd cfg4
  by_cases e : k = b + i
  · subst e
    rw [if_pos (by omega), if_pos rfl, show b + i - b = i by omega]
  · rw [if_neg e]
    by_cases h1 : b ≤ k ∧ k < b + i ∧ c k < 128
    · rw [if_pos (by omega), if_pos h1]
    · rw [if_neg (by omega), if_neg h1]
theorem at_c (h k : Nat) (hk : (k : Int) < 16) (w : World) : (Instr.indexAt 81 (.pointer (some ⟨h, 2, none⟩)) (.int .i64 (k : Int))).run Tryz.prog w = .ok (.pointer (some ⟨h, 2 + k, none⟩)) w := by
  have h2 := Addr.add_mid h 2 k
  go_simp
theorem shr_n (x m : Nat) : (x : Int) / 2 ^ m = ((x / 2 ^ m : Nat) : Int) := by
  rw [Int.natCast_ediv, Int.natCast_pow]
  rfl
set_option maxRecDepth 100000 in
set_option maxHeartbeats 4000000 in
theorem rw_928 (s : St) (x h mb : Nat) (w : World) (H : Ref w h mb s) (hx : x < 4294967296) : Calls Tryz.prog 27 #[hP h, .int .i64 928, .int .i64 (x : Int)] w fun e w' => e = .returned (.bool true) ∧ Ref w' h mb { s with cfg := cfg4 s.cfg 0 x 4 } ∧ Only (SR h mb) w w' := by
  have hxI : (x : Int) < 4294967296 := by omega
  go_enter Tryz.func27, Tryz.ntmps27
  go_wp2_with fail
  go_loopw [7, 8, 9] (fun ct v8 v9 wr => ∃ i : Nat, i ≤ 4 ∧ ct = .int .i64 (i : Int) ∧ Ref wr h mb { s with cfg := cfg4 s.cfg 0 x i } ∧ Only (SR h mb) w wr) (fun ct _ _ _ => (4 - (intOf ct)).toNat)
  case atStart => exact ⟨0, Nat.zero_le _, rfl, by rw [cfg4_0]; exact H, Only.refl _ _⟩
  case round =>
    obtain ⟨i, hi, rfl, hR, hO⟩ := hrel
    by_cases hlt : i < 4
    · have di : (i : Int) < 4 := by omega
      have hk : i = 0 + i := by omega
      have hkI : (i : Int) < 16 := by omega
      obtain ⟨m, hm⟩ : ∃ m, m = 8 * i := ⟨_, rfl⟩
      have e2 : (8 : Int) * (i : Int) = (m : Int) := by omega
      have hm1 : (m : Int) ≤ 24 := by omega
      have hmm : (m : Int).toNat = m := by omega
      have hmin : min m 64 = m := by omega
      have hmin2 : min m 63 = m := by omega
      have e3 := shr_n x m
      obtain ⟨y, hy⟩ : ∃ y, y = x / 2 ^ m := ⟨_, rfl⟩
      rw [← hy] at e3
      have hyx : y ≤ x := by rw [hy]; exact Nat.div_le_self _ _
      have hyI : (y : Int) < 4294967296 := by omega
      obtain ⟨b, hb⟩ : ∃ b, b = y % 256 := ⟨_, rfl⟩
      have e4 : (y : Int).tmod 256 = (b : Int) := by rw [hb]; exact tmN y 256
      have hbI : (b : Int) < 256 := by omega
      obtain ⟨a, ha⟩ : ∃ a, a = b / 128 := ⟨_, rfl⟩
      have e5 : (b : Int).tdiv 128 = (a : Int) := by rw [ha]; exact tdN b 128
      have haI : (a : Int) ≤ 1 := by omega
      obtain ⟨a2, ha2⟩ : ∃ a2, a2 = a * 128 := ⟨_, rfl⟩
      have e6 : (a : Int) * 128 = (a2 : Int) := by omega
      obtain ⟨d, hd⟩ : ∃ d, d = b % 32 := ⟨_, rfl⟩
      have e7 : (b : Int).tmod 32 = (d : Int) := by rw [hd]; exact tmN b 32
      have hdI : (d : Int) < 32 := by omega
      have ha2I : (a2 : Int) ≤ 128 := by omega
      obtain ⟨f, hf⟩ : ∃ f, f = a2 + d := ⟨_, rfl⟩
      have e8 : (a2 : Int) + (d : Int) = (f : Int) := by omega
      have hfI : (f : Int) < 256 := by omega
      obtain ⟨g, hg⟩ : ∃ g, g = f % 4 := ⟨_, rfl⟩
      have e9 : (f : Int).tmod 4 = (g : Int) := by rw [hg]; exact tmN f 4
      have hgI : (g : Int) < 4 := by omega
      have hcc := cfg4_at s.cfg 0 x i
      rw [← hk] at hcc
      have hc : wr.cell? ⟨h, 2 + i, none⟩ = some (.int .i64 (s.cfg i : Int)) := by
        have h1 := hR.blk.cellTab (2 + i) (by omega)
        rw [rV_c _ _ i (by omega)] at h1
        rw [h1]
        dsimp only
        rw [hcc]
      have hfr : wr.frozen? ⟨h, 2 + i, none⟩ = false := hR.blk.free (2 + i)
      have hat := fun W => at_c h i hkI W
      have hci := H.ok.cfg i
      have hcI : (s.cfg i : Int) < 256 := by omega
      have HO := Lib.hid hO
      have HR := Lib.hid hR
      by_cases hL : s.cfg i < 128
      · have hup := cfg4_yes s.cfg 0 x i (by rw [← hk]; exact hL)
        rw [← hk, ← hm, ← hy, ← hb] at hup
        have hL2 : decide ((s.cfg i : Int) < 128) = true := decide_eq_true (by omega)
        have hL3 : (s.cfg i : Int) < 128 := by omega
        have HUP := Lib.hid hup
        by_cases hG : g = 2
        · have hcf : cfgB b = f - 2 := by
            unfold cfgB
            rw [← ha, ← ha2, ← hd, ← hf, ← hg, if_pos hG]
          have hf2 : f - 2 < 256 := by omega
          have hbt := cfgB_bits b (by omega)
          rw [hcf] at hbt
          obtain ⟨z, hz⟩ : ∃ z, z = f - 2 := ⟨_, rfl⟩
          have e10 : (f : Int) - 2 = (z : Int) := by omega
          rw [← hz] at hcf hf2 hbt
          have hfin := hR.cfg i z (by omega) hf2 hbt
          rw [← hcf, ← hup] at hfin
          rw [hcf] at hfin
          have HF := Lib.hid hfin
          have hg2 : ((g : Int) == 2) = true := by rw [hG]; rfl
          have hK := Lib.hid hk
          have hD := Lib.hid (And.intro hm (And.intro hy (And.intro hb (And.intro ha (And.intro ha2 (And.intro hd (And.intro hf (And.intro hg hz))))))))
          generalize s.cfg i = q at *
          clear hk hm hy hb ha ha2 hd hf hg hz hG hcf hup hfin hcc hL hR hO hyx hci
          go_wp2_with fail
          go_roundw
          case rel => exact ⟨i + 1, hlt, by go_num, HF.out, HO.out.trans (Only.setCell _ (Or.inl rfl) _)⟩
          case measure => simp [intOf] <;> omega
        · have hcf : cfgB b = f := by
            unfold cfgB
            rw [← ha, ← ha2, ← hd, ← hf, ← hg, if_neg hG]
          have hbt := cfgB_bits b (by omega)
          rw [hcf] at hbt
          have hfin := hR.cfg i f (by omega) (by omega) hbt
          rw [← hcf, ← hup] at hfin
          rw [hcf] at hfin
          have HF := Lib.hid hfin
          have hg2 : ((g : Int) == 2) = false := beq_eq_false_iff_ne.2 (by omega)
          have hK := Lib.hid hk
          have hD := Lib.hid (And.intro hm (And.intro hy (And.intro hb (And.intro ha (And.intro ha2 (And.intro hd (And.intro hf hg)))))))
          generalize s.cfg i = q at *
          clear hk hm hy hb ha ha2 hd hf hg hG hcf hup hfin hcc hL hR hO hyx hci
          go_wp2_with fail
          go_roundw
          case rel => exact ⟨i + 1, hlt, by go_num, HF.out, HO.out.trans (Only.setCell _ (Or.inl rfl) _)⟩
          case measure => simp [intOf] <;> omega
      · have hup := cfg4_no s.cfg 0 x i (by rw [← hk]; exact hL)
        have hfin := hR
        rw [← hup] at hfin
        have HF := Lib.hid hfin
        have hL2 : decide ((s.cfg i : Int) < 128) = false := decide_eq_false (by omega)
        have hL3 : ((s.cfg i : Int) < 128) = False := eq_false (by omega)
        have hL4 : decide (s.cfg i < 128) = false := decide_eq_false (by omega)
        have hK := Lib.hid hk
        have hD := Lib.hid (And.intro hm (And.intro hy (And.intro hb (And.intro ha (And.intro ha2 (And.intro hd (And.intro hf hg)))))))
        generalize s.cfg i = q at *
        clear hk hm hy hb ha ha2 hd hf hg hup hfin hcc hL hR hO hyx hci
        go_wp2_with fail
        go_roundw
        case rel => exact ⟨i + 1, hlt, by go_num, HF.out, HO.out⟩
        case measure => simp [intOf] <;> omega
    · obtain rfl : i = 4 := by omega
      go_wp2_with fail
      go_ret
      exact ⟨rfl, hR, hO⟩
set_option maxRecDepth 100000 in
set_option maxHeartbeats 4000000 in
theorem rw_929 (s : St) (x h mb : Nat) (w : World) (H : Ref w h mb s) (hx : x < 4294967296) : Calls Tryz.prog 27 #[hP h, .int .i64 929, .int .i64 (x : Int)] w fun e w' => e = .returned (.bool true) ∧ Ref w' h mb { s with cfg := cfg4 s.cfg 4 x 4 } ∧ Only (SR h mb) w w' := by
  have hxI : (x : Int) < 4294967296 := by omega
  go_enter Tryz.func27, Tryz.ntmps27
  go_wp2_with fail
  go_loopw [7, 8, 9] (fun ct v8 v9 wr => ∃ i : Nat, i ≤ 4 ∧ ct = .int .i64 (i : Int) ∧ Ref wr h mb { s with cfg := cfg4 s.cfg 4 x i } ∧ Only (SR h mb) w wr) (fun ct _ _ _ => (4 - (intOf ct)).toNat)
  case atStart => exact ⟨0, Nat.zero_le _, rfl, by rw [cfg4_0]; exact H, Only.refl _ _⟩
  case round =>
    obtain ⟨i, hi, rfl, hR, hO⟩ := hrel
    by_cases hlt : i < 4
    · have di : (i : Int) < 4 := by omega
      obtain ⟨k, hk⟩ : ∃ k, k = 4 + i := ⟨_, rfl⟩
      have hkI : (k : Int) < 16 := by omega
      have e1 : (4 : Int) + (i : Int) = (k : Int) := by omega
      obtain ⟨m, hm⟩ : ∃ m, m = 8 * i := ⟨_, rfl⟩
      have e2 : (8 : Int) * (i : Int) = (m : Int) := by omega
      have hm1 : (m : Int) ≤ 24 := by omega
      have hmm : (m : Int).toNat = m := by omega
      have hmin : min m 64 = m := by omega
      have hmin2 : min m 63 = m := by omega
      have e3 := shr_n x m
      obtain ⟨y, hy⟩ : ∃ y, y = x / 2 ^ m := ⟨_, rfl⟩
      rw [← hy] at e3
      have hyx : y ≤ x := by rw [hy]; exact Nat.div_le_self _ _
      have hyI : (y : Int) < 4294967296 := by omega
      obtain ⟨b, hb⟩ : ∃ b, b = y % 256 := ⟨_, rfl⟩
      have e4 : (y : Int).tmod 256 = (b : Int) := by rw [hb]; exact tmN y 256
      have hbI : (b : Int) < 256 := by omega
      obtain ⟨a, ha⟩ : ∃ a, a = b / 128 := ⟨_, rfl⟩
      have e5 : (b : Int).tdiv 128 = (a : Int) := by rw [ha]; exact tdN b 128
      have haI : (a : Int) ≤ 1 := by omega
      obtain ⟨a2, ha2⟩ : ∃ a2, a2 = a * 128 := ⟨_, rfl⟩
      have e6 : (a : Int) * 128 = (a2 : Int) := by omega
      obtain ⟨d, hd⟩ : ∃ d, d = b % 32 := ⟨_, rfl⟩
      have e7 : (b : Int).tmod 32 = (d : Int) := by rw [hd]; exact tmN b 32
      have hdI : (d : Int) < 32 := by omega
      have ha2I : (a2 : Int) ≤ 128 := by omega
      obtain ⟨f, hf⟩ : ∃ f, f = a2 + d := ⟨_, rfl⟩
      have e8 : (a2 : Int) + (d : Int) = (f : Int) := by omega
      have hfI : (f : Int) < 256 := by omega
      obtain ⟨g, hg⟩ : ∃ g, g = f % 4 := ⟨_, rfl⟩
      have e9 : (f : Int).tmod 4 = (g : Int) := by rw [hg]; exact tmN f 4
      have hgI : (g : Int) < 4 := by omega
      have hcc := cfg4_at s.cfg 4 x i
      rw [← hk] at hcc
      have hc : wr.cell? ⟨h, 2 + k, none⟩ = some (.int .i64 (s.cfg k : Int)) := by
        have h1 := hR.blk.cellTab (2 + k) (by omega)
        rw [rV_c _ _ k (by omega)] at h1
        rw [h1]
        dsimp only
        rw [hcc]
      have hfr : wr.frozen? ⟨h, 2 + k, none⟩ = false := hR.blk.free (2 + k)
      have hat := fun W => at_c h k hkI W
      have hci := H.ok.cfg k
      have hcI : (s.cfg k : Int) < 256 := by omega
      have HO := Lib.hid hO
      have HR := Lib.hid hR
      by_cases hL : s.cfg k < 128
      · have hup := cfg4_yes s.cfg 4 x i (by rw [← hk]; exact hL)
        rw [← hk, ← hm, ← hy, ← hb] at hup
        have hL2 : decide ((s.cfg k : Int) < 128) = true := decide_eq_true (by omega)
        have hL3 : (s.cfg k : Int) < 128 := by omega
        have HUP := Lib.hid hup
        by_cases hG : g = 2
        · have hcf : cfgB b = f - 2 := by
            unfold cfgB
            rw [← ha, ← ha2, ← hd, ← hf, ← hg, if_pos hG]
          have hf2 : f - 2 < 256 := by omega
          have hbt := cfgB_bits b (by omega)
          rw [hcf] at hbt
          obtain ⟨z, hz⟩ : ∃ z, z = f - 2 := ⟨_, rfl⟩
          have e10 : (f : Int) - 2 = (z : Int) := by omega
          rw [← hz] at hcf hf2 hbt
          have hfin := hR.cfg k z (by omega) hf2 hbt
          rw [← hcf, ← hup] at hfin
          rw [hcf] at hfin
          have HF := Lib.hid hfin
          have hg2 : ((g : Int) == 2) = true := by rw [hG]; rfl
          have hK := Lib.hid hk
          have hD := Lib.hid (And.intro hm (And.intro hy (And.intro hb (And.intro ha (And.intro ha2 (And.intro hd (And.intro hf (And.intro hg hz))))))))
          generalize s.cfg k = q at *
          clear hk hm hy hb ha ha2 hd hf hg hz hG hcf hup hfin hcc hL hR hO hyx hci
          go_wp2_with fail
          go_roundw
          case rel => exact ⟨i + 1, hlt, by go_num, HF.out, HO.out.trans (Only.setCell _ (Or.inl rfl) _)⟩
          case measure => simp [intOf] <;> omega
        · have hcf : cfgB b = f := by
            unfold cfgB
            rw [← ha, ← ha2, ← hd, ← hf, ← hg, if_neg hG]
          have hbt := cfgB_bits b (by omega)
          rw [hcf] at hbt
          have hfin := hR.cfg k f (by omega) (by omega) hbt
          rw [← hcf, ← hup] at hfin
          rw [hcf] at hfin
          have HF := Lib.hid hfin
          have hg2 : ((g : Int) == 2) = false := beq_eq_false_iff_ne.2 (by omega)
          have hK := Lib.hid hk
          have hD := Lib.hid (And.intro hm (And.intro hy (And.intro hb (And.intro ha (And.intro ha2 (And.intro hd (And.intro hf hg)))))))
          generalize s.cfg k = q at *
          clear hk hm hy hb ha ha2 hd hf hg hG hcf hup hfin hcc hL hR hO hyx hci
          go_wp2_with fail
          go_roundw
          case rel => exact ⟨i + 1, hlt, by go_num, HF.out, HO.out.trans (Only.setCell _ (Or.inl rfl) _)⟩
          case measure => simp [intOf] <;> omega
      · have hup := cfg4_no s.cfg 4 x i (by rw [← hk]; exact hL)
        have hfin := hR
        rw [← hup] at hfin
        have HF := Lib.hid hfin
        have hL2 : decide ((s.cfg k : Int) < 128) = false := decide_eq_false (by omega)
        have hL3 : ((s.cfg k : Int) < 128) = False := eq_false (by omega)
        have hL4 : decide (s.cfg k < 128) = false := decide_eq_false (by omega)
        have hK := Lib.hid hk
        have hD := Lib.hid (And.intro hm (And.intro hy (And.intro hb (And.intro ha (And.intro ha2 (And.intro hd (And.intro hf hg)))))))
        generalize s.cfg k = q at *
        clear hk hm hy hb ha ha2 hd hf hg hup hfin hcc hL hR hO hyx hci
        go_wp2_with fail
        go_roundw
        case rel => exact ⟨i + 1, hlt, by go_num, HF.out, HO.out⟩
        case measure => simp [intOf] <;> omega
    · obtain rfl : i = 4 := by omega
      go_wp2_with fail
      go_ret
      exact ⟨rfl, hR, hO⟩
set_option maxRecDepth 100000 in
set_option maxHeartbeats 4000000 in
theorem rw_930 (s : St) (x h mb : Nat) (w : World) (H : Ref w h mb s) (hx : x < 4294967296) : Calls Tryz.prog 27 #[hP h, .int .i64 930, .int .i64 (x : Int)] w fun e w' => e = .returned (.bool true) ∧ Ref w' h mb { s with cfg := cfg4 s.cfg 8 x 4 } ∧ Only (SR h mb) w w' := by
  have hxI : (x : Int) < 4294967296 := by omega
  go_enter Tryz.func27, Tryz.ntmps27
  go_wp2_with fail
  go_loopw [7, 8, 9] (fun ct v8 v9 wr => ∃ i : Nat, i ≤ 4 ∧ ct = .int .i64 (i : Int) ∧ Ref wr h mb { s with cfg := cfg4 s.cfg 8 x i } ∧ Only (SR h mb) w wr) (fun ct _ _ _ => (4 - (intOf ct)).toNat)
  case atStart => exact ⟨0, Nat.zero_le _, rfl, by rw [cfg4_0]; exact H, Only.refl _ _⟩
  case round =>
    obtain ⟨i, hi, rfl, hR, hO⟩ := hrel
    by_cases hlt : i < 4
    · have di : (i : Int) < 4 := by omega
      obtain ⟨k, hk⟩ : ∃ k, k = 8 + i := ⟨_, rfl⟩
      have hkI : (k : Int) < 16 := by omega
      have e1 : (8 : Int) + (i : Int) = (k : Int) := by omega
      obtain ⟨m, hm⟩ : ∃ m, m = 8 * i := ⟨_, rfl⟩
      have e2 : (8 : Int) * (i : Int) = (m : Int) := by omega
      have hm1 : (m : Int) ≤ 24 := by omega
      have hmm : (m : Int).toNat = m := by omega
      have hmin : min m 64 = m := by omega
      have hmin2 : min m 63 = m := by omega
      have e3 := shr_n x m
      obtain ⟨y, hy⟩ : ∃ y, y = x / 2 ^ m := ⟨_, rfl⟩
      rw [← hy] at e3
      have hyx : y ≤ x := by rw [hy]; exact Nat.div_le_self _ _
      have hyI : (y : Int) < 4294967296 := by omega
      obtain ⟨b, hb⟩ : ∃ b, b = y % 256 := ⟨_, rfl⟩
      have e4 : (y : Int).tmod 256 = (b : Int) := by rw [hb]; exact tmN y 256
      have hbI : (b : Int) < 256 := by omega
      obtain ⟨a, ha⟩ : ∃ a, a = b / 128 := ⟨_, rfl⟩
      have e5 : (b : Int).tdiv 128 = (a : Int) := by rw [ha]; exact tdN b 128
      have haI : (a : Int) ≤ 1 := by omega
      obtain ⟨a2, ha2⟩ : ∃ a2, a2 = a * 128 := ⟨_, rfl⟩
      have e6 : (a : Int) * 128 = (a2 : Int) := by omega
      obtain ⟨d, hd⟩ : ∃ d, d = b % 32 := ⟨_, rfl⟩
      have e7 : (b : Int).tmod 32 = (d : Int) := by rw [hd]; exact tmN b 32
      have hdI : (d : Int) < 32 := by omega
      have ha2I : (a2 : Int) ≤ 128 := by omega
      obtain ⟨f, hf⟩ : ∃ f, f = a2 + d := ⟨_, rfl⟩
      have e8 : (a2 : Int) + (d : Int) = (f : Int) := by omega
      have hfI : (f : Int) < 256 := by omega
      obtain ⟨g, hg⟩ : ∃ g, g = f % 4 := ⟨_, rfl⟩
      have e9 : (f : Int).tmod 4 = (g : Int) := by rw [hg]; exact tmN f 4
      have hgI : (g : Int) < 4 := by omega
      have hcc := cfg4_at s.cfg 8 x i
      rw [← hk] at hcc
      have hc : wr.cell? ⟨h, 2 + k, none⟩ = some (.int .i64 (s.cfg k : Int)) := by
        have h1 := hR.blk.cellTab (2 + k) (by omega)
        rw [rV_c _ _ k (by omega)] at h1
        rw [h1]
        dsimp only
        rw [hcc]
      have hfr : wr.frozen? ⟨h, 2 + k, none⟩ = false := hR.blk.free (2 + k)
      have hat := fun W => at_c h k hkI W
      have hci := H.ok.cfg k
      have hcI : (s.cfg k : Int) < 256 := by omega
      have HO := Lib.hid hO
      have HR := Lib.hid hR
      by_cases hL : s.cfg k < 128
      · have hup := cfg4_yes s.cfg 8 x i (by rw [← hk]; exact hL)
        rw [← hk, ← hm, ← hy, ← hb] at hup
        have hL2 : decide ((s.cfg k : Int) < 128) = true := decide_eq_true (by omega)
        have hL3 : (s.cfg k : Int) < 128 := by omega
        have HUP := Lib.hid hup
        by_cases hG : g = 2
        · have hcf : cfgB b = f - 2 := by
            unfold cfgB
            rw [← ha, ← ha2, ← hd, ← hf, ← hg, if_pos hG]
          have hf2 : f - 2 < 256 := by omega
          have hbt := cfgB_bits b (by omega)
          rw [hcf] at hbt
          obtain ⟨z, hz⟩ : ∃ z, z = f - 2 := ⟨_, rfl⟩
          have e10 : (f : Int) - 2 = (z : Int) := by omega
          rw [← hz] at hcf hf2 hbt
          have hfin := hR.cfg k z (by omega) hf2 hbt
          rw [← hcf, ← hup] at hfin
          rw [hcf] at hfin
          have HF := Lib.hid hfin
          have hg2 : ((g : Int) == 2) = true := by rw [hG]; rfl
          have hK := Lib.hid hk
          have hD := Lib.hid (And.intro hm (And.intro hy (And.intro hb (And.intro ha (And.intro ha2 (And.intro hd (And.intro hf (And.intro hg hz))))))))
          generalize s.cfg k = q at *
          clear hk hm hy hb ha ha2 hd hf hg hz hG hcf hup hfin hcc hL hR hO hyx hci
          go_wp2_with fail
          go_roundw
          case rel => exact ⟨i + 1, hlt, by go_num, HF.out, HO.out.trans (Only.setCell _ (Or.inl rfl) _)⟩
          case measure => simp [intOf] <;> omega
        · have hcf : cfgB b = f := by
            unfold cfgB
            rw [← ha, ← ha2, ← hd, ← hf, ← hg, if_neg hG]
          have hbt := cfgB_bits b (by omega)
          rw [hcf] at hbt
          have hfin := hR.cfg k f (by omega) (by omega) hbt
          rw [← hcf, ← hup] at hfin
          rw [hcf] at hfin
          have HF := Lib.hid hfin
          have hg2 : ((g : Int) == 2) = false := beq_eq_false_iff_ne.2 (by omega)
          have hK := Lib.hid hk
          have hD := Lib.hid (And.intro hm (And.intro hy (And.intro hb (And.intro ha (And.intro ha2 (And.intro hd (And.intro hf hg)))))))
          generalize s.cfg k = q at *
          clear hk hm hy hb ha ha2 hd hf hg hG hcf hup hfin hcc hL hR hO hyx hci
          go_wp2_with fail
          go_roundw
          case rel => exact ⟨i + 1, hlt, by go_num, HF.out, HO.out.trans (Only.setCell _ (Or.inl rfl) _)⟩
          case measure => simp [intOf] <;> omega
      · have hup := cfg4_no s.cfg 8 x i (by rw [← hk]; exact hL)
        have hfin := hR
        rw [← hup] at hfin
        have HF := Lib.hid hfin
        have hL2 : decide ((s.cfg k : Int) < 128) = false := decide_eq_false (by omega)
        have hL3 : ((s.cfg k : Int) < 128) = False := eq_false (by omega)
        have hL4 : decide (s.cfg k < 128) = false := decide_eq_false (by omega)
        have hK := Lib.hid hk
        have hD := Lib.hid (And.intro hm (And.intro hy (And.intro hb (And.intro ha (And.intro ha2 (And.intro hd (And.intro hf hg)))))))
        generalize s.cfg k = q at *
        clear hk hm hy hb ha ha2 hd hf hg hup hfin hcc hL hR hO hyx hci
        go_wp2_with fail
        go_roundw
        case rel => exact ⟨i + 1, hlt, by go_num, HF.out, HO.out⟩
        case measure => simp [intOf] <;> omega
    · obtain rfl : i = 4 := by omega
      go_wp2_with fail
      go_ret
      exact ⟨rfl, hR, hO⟩
set_option maxRecDepth 100000 in
set_option maxHeartbeats 4000000 in
theorem rw_931 (s : St) (x h mb : Nat) (w : World) (H : Ref w h mb s) (hx : x < 4294967296) : Calls Tryz.prog 27 #[hP h, .int .i64 931, .int .i64 (x : Int)] w fun e w' => e = .returned (.bool true) ∧ Ref w' h mb { s with cfg := cfg4 s.cfg 12 x 4 } ∧ Only (SR h mb) w w' := by
  have hxI : (x : Int) < 4294967296 := by omega
  go_enter Tryz.func27, Tryz.ntmps27
  go_wp2_with fail
  go_loopw [7, 8, 9] (fun ct v8 v9 wr => ∃ i : Nat, i ≤ 4 ∧ ct = .int .i64 (i : Int) ∧ Ref wr h mb { s with cfg := cfg4 s.cfg 12 x i } ∧ Only (SR h mb) w wr) (fun ct _ _ _ => (4 - (intOf ct)).toNat)
  case atStart => exact ⟨0, Nat.zero_le _, rfl, by rw [cfg4_0]; exact H, Only.refl _ _⟩
  case round =>
    obtain ⟨i, hi, rfl, hR, hO⟩ := hrel
    by_cases hlt : i < 4
    · have di : (i : Int) < 4 := by omega
      obtain ⟨k, hk⟩ : ∃ k, k = 12 + i := ⟨_, rfl⟩
      have hkI : (k : Int) < 16 := by omega
      have e1 : (12 : Int) + (i : Int) = (k : Int) := by omega
      obtain ⟨m, hm⟩ : ∃ m, m = 8 * i := ⟨_, rfl⟩
      have e2 : (8 : Int) * (i : Int) = (m : Int) := by omega
      have hm1 : (m : Int) ≤ 24 := by omega
      have hmm : (m : Int).toNat = m := by omega
      have hmin : min m 64 = m := by omega
      have hmin2 : min m 63 = m := by omega
      have e3 := shr_n x m
      obtain ⟨y, hy⟩ : ∃ y, y = x / 2 ^ m := ⟨_, rfl⟩
      rw [← hy] at e3
      have hyx : y ≤ x := by rw [hy]; exact Nat.div_le_self _ _
      have hyI : (y : Int) < 4294967296 := by omega
      obtain ⟨b, hb⟩ : ∃ b, b = y % 256 := ⟨_, rfl⟩
      have e4 : (y : Int).tmod 256 = (b : Int) := by rw [hb]; exact tmN y 256
      have hbI : (b : Int) < 256 := by omega
      obtain ⟨a, ha⟩ : ∃ a, a = b / 128 := ⟨_, rfl⟩
      have e5 : (b : Int).tdiv 128 = (a : Int) := by rw [ha]; exact tdN b 128
      have haI : (a : Int) ≤ 1 := by omega
      obtain ⟨a2, ha2⟩ : ∃ a2, a2 = a * 128 := ⟨_, rfl⟩
      have e6 : (a : Int) * 128 = (a2 : Int) := by omega
      obtain ⟨d, hd⟩ : ∃ d, d = b % 32 := ⟨_, rfl⟩
      have e7 : (b : Int).tmod 32 = (d : Int) := by rw [hd]; exact tmN b 32
      have hdI : (d : Int) < 32 := by omega
      have ha2I : (a2 : Int) ≤ 128 := by omega
      obtain ⟨f, hf⟩ : ∃ f, f = a2 + d := ⟨_, rfl⟩
      have e8 : (a2 : Int) + (d : Int) = (f : Int) := by omega
      have hfI : (f : Int) < 256 := by omega
      obtain ⟨g, hg⟩ : ∃ g, g = f % 4 := ⟨_, rfl⟩
      have e9 : (f : Int).tmod 4 = (g : Int) := by rw [hg]; exact tmN f 4
      have hgI : (g : Int) < 4 := by omega
      have hcc := cfg4_at s.cfg 12 x i
      rw [← hk] at hcc
      have hc : wr.cell? ⟨h, 2 + k, none⟩ = some (.int .i64 (s.cfg k : Int)) := by
        have h1 := hR.blk.cellTab (2 + k) (by omega)
        rw [rV_c _ _ k (by omega)] at h1
        rw [h1]
        dsimp only
        rw [hcc]
      have hfr : wr.frozen? ⟨h, 2 + k, none⟩ = false := hR.blk.free (2 + k)
      have hat := fun W => at_c h k hkI W
      have hci := H.ok.cfg k
      have hcI : (s.cfg k : Int) < 256 := by omega
      have HO := Lib.hid hO
      have HR := Lib.hid hR
      by_cases hL : s.cfg k < 128
      · have hup := cfg4_yes s.cfg 12 x i (by rw [← hk]; exact hL)
        rw [← hk, ← hm, ← hy, ← hb] at hup
        have hL2 : decide ((s.cfg k : Int) < 128) = true := decide_eq_true (by omega)
        have hL3 : (s.cfg k : Int) < 128 := by omega
        have HUP := Lib.hid hup
        by_cases hG : g = 2
        · have hcf : cfgB b = f - 2 := by
            unfold cfgB
            rw [← ha, ← ha2, ← hd, ← hf, ← hg, if_pos hG]
          have hf2 : f - 2 < 256 := by omega
          have hbt := cfgB_bits b (by omega)
          rw [hcf] at hbt
          obtain ⟨z, hz⟩ : ∃ z, z = f - 2 := ⟨_, rfl⟩
          have e10 : (f : Int) - 2 = (z : Int) := by omega
          rw [← hz] at hcf hf2 hbt
          have hfin := hR.cfg k z (by omega) hf2 hbt
          rw [← hcf, ← hup] at hfin
          rw [hcf] at hfin
          have HF := Lib.hid hfin
          have hg2 : ((g : Int) == 2) = true := by rw [hG]; rfl
          have hK := Lib.hid hk
          have hD := Lib.hid (And.intro hm (And.intro hy (And.intro hb (And.intro ha (And.intro ha2 (And.intro hd (And.intro hf (And.intro hg hz))))))))
          generalize s.cfg k = q at *
          clear hk hm hy hb ha ha2 hd hf hg hz hG hcf hup hfin hcc hL hR hO hyx hci
          go_wp2_with fail
          go_roundw
          case rel => exact ⟨i + 1, hlt, by go_num, HF.out, HO.out.trans (Only.setCell _ (Or.inl rfl) _)⟩
          case measure => simp [intOf] <;> omega
        · have hcf : cfgB b = f := by
            unfold cfgB
            rw [← ha, ← ha2, ← hd, ← hf, ← hg, if_neg hG]
          have hbt := cfgB_bits b (by omega)
          rw [hcf] at hbt
          have hfin := hR.cfg k f (by omega) (by omega) hbt
          rw [← hcf, ← hup] at hfin
          rw [hcf] at hfin
          have HF := Lib.hid hfin
          have hg2 : ((g : Int) == 2) = false := beq_eq_false_iff_ne.2 (by omega)
          have hK := Lib.hid hk
          have hD := Lib.hid (And.intro hm (And.intro hy (And.intro hb (And.intro ha (And.intro ha2 (And.intro hd (And.intro hf hg)))))))
          generalize s.cfg k = q at *
          clear hk hm hy hb ha ha2 hd hf hg hG hcf hup hfin hcc hL hR hO hyx hci
          go_wp2_with fail
          go_roundw
          case rel => exact ⟨i + 1, hlt, by go_num, HF.out, HO.out.trans (Only.setCell _ (Or.inl rfl) _)⟩
          case measure => simp [intOf] <;> omega
      · have hup := cfg4_no s.cfg 12 x i (by rw [← hk]; exact hL)
        have hfin := hR
        rw [← hup] at hfin
        have HF := Lib.hid hfin
        have hL2 : decide ((s.cfg k : Int) < 128) = false := decide_eq_false (by omega)
        have hL3 : ((s.cfg k : Int) < 128) = False := eq_false (by omega)
        have hL4 : decide (s.cfg k < 128) = false := decide_eq_false (by omega)
        have hK := Lib.hid hk
        have hD := Lib.hid (And.intro hm (And.intro hy (And.intro hb (And.intro ha (And.intro ha2 (And.intro hd (And.intro hf hg)))))))
        generalize s.cfg k = q at *
        clear hk hm hy hb ha ha2 hd hf hg hup hfin hcc hL hR hO hyx hci
        go_wp2_with fail
        go_roundw
        case rel => exact ⟨i + 1, hlt, by go_num, HF.out, HO.out⟩
        case measure => simp [intOf] <;> omega
    · obtain rfl : i = 4 := by omega
      go_wp2_with fail
      go_ret
      exact ⟨rfl, hR, hO⟩
end Go.Proofs.YtgpofoggfifnjaaGreatDoor.Cs
