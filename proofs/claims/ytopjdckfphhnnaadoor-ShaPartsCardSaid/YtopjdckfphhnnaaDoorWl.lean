import Derived.Test.YtopjdckfphhnnaaDoorWk
import Derived.Test.YtopjdckfphhnnaaDoorRefP
import Derived.OwnWalk
import Derived.Laws.OwnMore
namespace Go.Proofs.YtopjdckfphhnnaaDoor
open Go.RowKit

theorem infoQ : (Tryd.prog.info? 36).map (fun i => (i.zero, i.size, i.bytes)) = some (some (.int .u64 0), 1, 8) := by kernel_rfl

theorem right_walk (x : UInt32) (n : Nat) (h1 : 1 ≤ n) (h2 : n ≤ 31) :
    (IntKind.u64.wrap ((x.toNat : Int) / 2 ^ n + IntKind.u64.wrap ((x.toNat : Int) * 2 ^ (32 - n)))).tmod 4294967296 = ((rotr n x).toNat : Int) := by
  have hx := x.toNat_lt
  have e1 : (x.toNat : Int) / 2 ^ n = ((x.toNat / 2 ^ n : Nat) : Int) := by simp [Int.natCast_ediv, Int.natCast_pow]
  have e2 : (x.toNat : Int) * 2 ^ (32 - n) = ((x.toNat * 2 ^ (32 - n) : Nat) : Int) := by simp [Int.natCast_mul, Int.natCast_pow]
  have b1 : x.toNat / 2 ^ n ≤ x.toNat := Nat.div_le_self _ _
  have b2 : x.toNat * 2 ^ (32 - n) ≤ 4294967296 * 2147483648 := Nat.mul_le_mul (by omega) (Nat.le_trans (Nat.pow_le_pow_right (by decide) (show 32 - n ≤ 31 by omega)) (by decide))
  have hr := right_bits x n h2
  rw [e1, e2, ← hr]
  generalize x.toNat / 2 ^ n = A at *
  generalize x.toNat * 2 ^ (32 - n) = B at *
  have w1 : IntKind.u64.wrap ((B : Nat) : Int) = (B : Int) := by simp [IntKind.wrap, IntKind.bits, IntKind.signed]; omega
  rw [w1]
  have w2 : IntKind.u64.wrap ((A : Int) + (B : Int)) = (A : Int) + (B : Int) := by simp [IntKind.wrap, IntKind.bits, IntKind.signed]; omega
  rw [w2, Int.tmod_eq_emod_of_nonneg (by omega)]
  omega
theorem own_form {w : World} {base : Nat} {e : TypeId} {size n : Nat} {v : Value} {xs : List Value} (h : w.ownsRow base e size v n xs) : ∃ A c, v = .slice A n c := by
  rcases h.2 with ⟨rfl, rfl⟩ | ⟨g, cap, cur, rfl, _⟩
  · exact ⟨none, 0, rfl⟩
  · exact ⟨_, _, rfl⟩

set_option maxHeartbeats 400000 in
/-- a word turned to the right, on 64 bits -/
theorem right_any (x : UInt32) (n : Nat) (w : World) (h1 : 1 ≤ n) (h2 : n ≤ 31) :
    Calls Tryd.prog 13 #[.int .u64 x.toNat, .int .u64 n] w fun e w' => e = .returned (.int .u64 ((rotr n x).toNat : Int)) ∧ w = w' := by
  go_enter Tryd.func13, Tryd.ntmps13
  go_wp2
  go_ret
  exact ⟨by rw [← right_walk x n h1 h2]; rfl, rfl⟩

set_option maxRecDepth 100000 in
set_option maxHeartbeats 1000000 in
theorem roots_any (n k P : Nat) (w : World) (hk : k ≤ 3) (hn : n ≤ 64) (hP : P ≤ 312) (h2 : 2 ≤ P) (hcnt : (prs P).length = n) (hlow : ∀ p, p < P → (prs p).length < n) :
    Calls Tryd.prog 12 #[.int .i64 n, .int .i64 k] w fun e w' => ∃ v, e = .returned v ∧ w'.ownsRow w.heap.size 36 1 v n (rts k P) ∧ Below w.heap.size w w' := by
  obtain ⟨iq, hiq, hzq, hsq, hbq⟩ := info_parts infoQ
  have Hcnt := Lib.hid hcnt
  have Hlow := Lib.hid hlow
  clear hcnt hlow
  go_enter Tryd.func12, Tryd.ntmps12
  go_wp2_with fail
  go_loopw [5, 6, 7, 8] (fun v cp _ _ wr => ∃ p : Nat, 2 ≤ p ∧ p ≤ P ∧ cp = .int .u64 p ∧ wr.ownsRow w.heap.size 36 1 v (prs p).length (rts k p) ∧ Below w.heap.size w wr)
    (fun _ cp _ _ _ => P - (intOf cp).toNat)
  case atStart => exact ⟨2, by omega, h2, rfl, World.ownsRow_nil _ _ _ _, Below.refl _ _⟩
  case round =>
    obtain ⟨p, hp2, hpP, rfl, hown, hb⟩ := hrel
    obtain ⟨A, c, rfl⟩ := own_form hown
    by_cases hlt : (prs p).length < n
    · have hpP' : p < P := by
        rcases Nat.lt_or_ge p P with h | h
        · exact h
        · have e : p = P := by omega
          rw [e, Hcnt.out] at hlt
          omega
      have hlt' : ((prs p).length : Int) < (n : Int) := by omega
      have hps := prs_succ p hp2
      have Hps := Lib.hid hps
      clear hps
      go_wp2_with fail
      go_loop [7, 8] (fun ca cd => ∃ (f d : Nat) (acc : Bool), ca = .bool acc ∧ cd = .int .u64 d ∧ 2 ≤ d ∧ d + f = 20 ∧ Hid (prTo p f d acc = isPr p)) (fun _ cd => 20 - (intOf cd).toNat)
      case atStart => exact ⟨18, 2, true, rfl, rfl, by omega, by omega, Lib.hid rfl⟩
      case round =>
        obtain ⟨f, d, acc, rfl, rfl, hd2, hdf, HP⟩ := hrel
        obtain ⟨dd, hdd⟩ : ∃ dd, dd = d * d := ⟨_, rfl⟩
        have hw : IntKind.u64.wrap ((d : Int) * (d : Int)) = (dd : Int) := by
          have hle : d * d ≤ 20 * 20 := Nat.mul_le_mul (by omega) (by omega)
          have e : (d : Int) * (d : Int) = ((d * d : Nat) : Int) := by simp
          rw [e, ← hdd]
          have : dd ≤ 400 := by rw [hdd]; omega
          simp [IntKind.wrap, IntKind.bits, IntKind.signed]; omega
        have hd0 : (2 : Int) ≤ (d : Int) := by omega
        by_cases hle : dd ≤ p
        · have hd17 : d ≤ 17 := by
            rcases Nat.lt_or_ge d 18 with h | h
            · omega
            · have : 18 * 18 ≤ d * d := Nat.mul_le_mul h h
              omega
          obtain ⟨f', rfl⟩ : ∃ f', f = f' + 1 := ⟨f - 1, by omega⟩
          have hs : prTo p (f' + 1) d acc = prTo p f' (d + 1) (acc && decide (0 < p % d)) := by
            show (if d * d ≤ p then _ else _) = _
            rw [if_pos (by omega)]
          have HP2 : Hid (prTo p f' (d + 1) (acc && decide (0 < p % d)) = isPr p) := Lib.hid (by rw [← hs, HP.out])
          have hle' : (dd : Int) ≤ (p : Int) := by omega
          clear hs hdd
          have hd1 : ((d : Int) == 0) = false := beq_eq_false_iff_ne.2 (by omega)
          cases acc with
          | false =>
            have HP3 : Hid (prTo p f' (d + 1) false = isPr p) := Lib.hid (by rw [← HP2.out, Bool.false_and])
            clear HP2
            go_wp2_with fail
            go_round
            case rel => exact ⟨f', d + 1, false, rfl, by go_num, by omega, by omega, HP3⟩
            case measure => simp [intOf]; omega
          | true =>
            by_cases hm : 0 < p % d
            · have HP3 : Hid (prTo p f' (d + 1) true = isPr p) := Lib.hid (by rw [← HP2.out, decide_eq_true hm]; rfl)
              have hm1 : (0 : Int) < (p : Int) % (d : Int) := by omega
              have hm2 : decide ((0 : Int) < (p : Int) % (d : Int)) = true := decide_eq_true hm1
              clear HP2
              go_wp2_with fail
              go_round
              case rel => exact ⟨f', d + 1, true, rfl, by go_num, by omega, by omega, HP3⟩
              case measure => simp [intOf]; omega
            · have HP3 : Hid (prTo p f' (d + 1) false = isPr p) := Lib.hid (by rw [← HP2.out, decide_eq_false hm]; rfl)
              have hm1 : ¬ (0 : Int) < (p : Int) % (d : Int) := by omega
              have hm2 : decide ((0 : Int) < (p : Int) % (d : Int)) = false := decide_eq_false hm1
              clear HP2
              go_wp2_with fail
              go_round
              case rel => exact ⟨f', d + 1, false, rfl, by go_num, by omega, by omega, HP3⟩
              case measure => simp [intOf]; omega
        · have hs : prTo p f d acc = acc := by
            cases f with
            | zero => rfl
            | succ f =>
              show (if d * d ≤ p then _ else _) = _
              rw [if_neg (by omega)]
          have HA : Hid (isPr p = acc) := Lib.hid (by rw [← HP.out, hs])
          have hle' : ¬ (dd : Int) ≤ (p : Int) := by omega
          clear hs hdd HP
          cases acc with
          | false =>
            have e : prs (p + 1) = prs p := by rw [Hps.out, HA.out]; rfl
            have E := Lib.hid e
            clear e
            go_wp2_with fail
            go_roundw
            case rel => exact ⟨p + 1, by omega, by omega, by go_num, by rw [rts, E.out]; exact hown, hb⟩
            case measure => simp [intOf]; omega
          | true =>
            have e : prs (p + 1) = prs p ++ [p] := by rw [Hps.out, HA.out]; rfl
            have E := Lib.hid e
            clear e
            go_wp2_with fail
            have hp64 : (UInt64.ofNat p).toNat = p := by rw [UInt64.toNat_ofNat']; exact Nat.mod_eq_of_lt (by omega)
            have hroot := root_any (UInt64.ofNat p) k wr hk
            rw [hp64] at hroot
            refine hroot.mono ?_
            rintro e w1 ⟨rfl, hb1⟩
            have hb2 := hb.trans (hb1.mono hb.size)
            have hown1 : w1.ownsRow w.heap.size 36 1 (.slice A (prs p).length c) (prs p).length (rts k p) := hown.kept (only_below hb1 none) (by
              cases A with
              | none => exact .inl rfl
              | some a => exact .inr (by simp [Value.ownBlock]))
            clear hroot hp64 hown hb hb1
            go_wp2_with (at_builtin; refine wpList_append_own _ rfl (.tmp 30) (.tmp 34) 34 rfl w.heap.size 36 iq (.int .u64 0) 1 8 Tryd.underlying34 hiq hzq hsq hbq rfl (by decide) (.slice A (prs p).length c) (prs p).length (rts k p) rfl (hown1.alloc _) ⟨w1.heap.size, 0, none⟩ 1 1 [.int .u64 ((rootM (UInt64.ofNat p) k).toNat : Int)] rfl rfl (cell_one_new _ _ _) (by simp [Value.oneCell']) ?c3 ?c4 ?c5 ?_)
            case c3 => simp only [maxLen]; omega
            case c4 => omega
            case c5 => have := hb2.size; simp; omega
            intro v' w2 hown2 hg2 _
            have hb3 : Below w.heap.size w w2 := (hb2.alloc hb2.size _).grown hg2 (by have := hb2.size; simp; omega) (fun k hk => (hown1.lt k hk).1)
            have hr : rts k (p + 1) = rts k p ++ [.int .u64 ((rootM (UInt64.ofNat p) k).toNat : Int)] := by
              unfold rts
              rw [E.out, List.map_append]
              rfl
            have hl : (prs (p + 1)).length = (prs p).length + 1 := by rw [E.out]; simp
            have Hl := Lib.hid hl
            have Hr := Lib.hid hr
            clear hl hr hg2 hown1 hb2
            go_wp2_with fail
            go_roundw
            case rel => exact ⟨p + 1, by omega, by omega, by go_num, by rw [Hl.out, Hr.out]; exact hown2, hb3⟩
            case measure => simp [intOf]; omega
    · have hpP' : p = P := by
        rcases Nat.lt_or_ge p P with h | h
        · exact absurd (Hlow.out p h) hlt
        · omega
      have e1 : (prs p).length = n := by rw [hpP']; exact Hcnt.out
      have hown2 : wr.ownsRow w.heap.size 36 1 (.slice A (prs p).length c) n (rts k P) := by rw [← hpP', ← e1]; exact hown
      have E1 := Lib.hid e1
      have hlt' : ¬ ((prs p).length : Int) < (n : Int) := by omega
      clear e1 hpP' hown hlt
      go_wp2_with fail
      go_ret
      exact ⟨_, rfl, hown2, hb⟩
end Go.Proofs.YtopjdckfphhnnaaDoor
