/-
Layer 10: the reference's memory: Put, Load, Store.
-/
import Derived.Test.YtgpofoggfifnjaaGreatDoorJAf
namespace Go.Proofs.YtgpofoggfifnjaaGreatDoor
open Go Go.RowKit

theorem putM_nil (m : Nat → UInt8) (k : Nat) : putM m k [] = m := by
  funext j
  unfold putM
  rw [if_neg (by rw [List.length_nil]; omega)]
theorem putM_snoc (m : Nat → UInt8) (k i : Nat) (bs : List UInt8) (h : i < bs.length) : putM m k (bs.take (i + 1)) = setY (putM m k (bs.take i)) (k + i) (bs.getD i 0) := by
  funext j
  unfold setY putM
  have h1 : (bs.take (i + 1)).length = i + 1 := by rw [List.length_take]; omega
  have h2 : (bs.take i).length = i := by rw [List.length_take]; omega
  rw [h1, h2]
  by_cases hj : j = k + i
  · subst hj
    rw [if_pos (by omega), if_pos rfl, show k + i - k = i by omega]
    simp [List.getD_eq_getElem?_getD]
  · rw [if_neg hj]
    by_cases hj2 : k ≤ j ∧ j < k + i
    · rw [if_pos (by omega), if_pos hj2]
      simp [List.getD_eq_getElem?_getD, show j - k < i by omega, show j - k < i + 1 by omega]
    · rw [if_neg (by omega), if_neg hj2]
set_option maxRecDepth 100000 in
set_option maxHeartbeats 1000000 in
theorem rput_any' (m : Nat → UInt8) (r mb c a : Nat) (A : Option Addr) (n cap : Nat) (bs : List UInt8) (w : World) (hR : RefP w r mb m c) (ha : a < 4294967296) (hS : SlA w A n cap bs) (hin : inR a n = true) (hc : c ≤ 900000)
    (hne : ∀ b o s, A = some ⟨b, o, s⟩ → 0 < n → b ≠ mb) :
    Calls Tryz.prog 43 #[mP r, .int .i64 (a : Int), .slice A n cap] w fun e w' => e = .returned (.bool true) ∧ RefP w' r mb (putM m (a - 2147483648) bs) (c + n) ∧ w.grownBy w' (some mb) := by
  have h1 := of_decide_eq_true hin
  have kH := fun w => rhas_any a n w ha (by omega)
  have HI : Hid (2147483648 ≤ a ∧ a + n ≤ 2147549184) := Lib.hid (by omega)
  have hl := hS.1
  have hrne := hR.2.has_ne hR.1
  simp only [hin] at kH
  have HNE := Lib.hid hne
  clear h1 hin hne
  go_enter Tryz.func43, Tryz.ntmps43
  go_wp2_with (refine (kH _).mono ?_; rintro e w' ⟨rfl, rfl⟩)
  go_loopw [7] (fun ct wr => ∃ i : Nat, i ≤ n ∧ ct = .int .i64 (i : Int) ∧ RefP wr r mb (putM m (a - 2147483648) (bs.take i)) (c + i) ∧ SlA wr A n cap bs ∧ w.grownBy wr (some mb)) (fun ct _ => (n - (intOf ct)).toNat)
  case atStart => exact ⟨0, Nat.zero_le _, rfl, by rw [List.take_zero, putM_nil]; exact hR, hS, World.grownBy.refl _ _⟩
  case round =>
    obtain ⟨i, hi, rfl, hR1, hS1, hgr⟩ := hrel
    by_cases hlt : i < n
    · have di : (i : Int) < (n : Int) := by omega
      have hc0 : wr.cell? ⟨r, 0, none⟩ = some (.map (some mb)) := hR1.1.cell 0
      have hi2 := HI.out
      obtain ⟨b, o, rfl, hbl, hcell⟩ := hS1.2.2 (by omega)
      have hci := hcell i hlt
      have hbm := HNE.out b o none rfl (by omega)
      have hai : (a : Int) + (i : Int) < 4294967296 := by omega
      have hps := putM_snoc m (a - 2147483648) i bs (by omega)
      rw [show a - 2147483648 + i = a + i - 2147483648 by omega] at hps
      have HP := Lib.hid hps
      have HR := Lib.hid hR1
      have HS := Lib.hid hS1
      have HG := Lib.hid hgr
      have HA : Hid (isA (a + i)) := Lib.hid ⟨by omega, by omega⟩
      have hcc : c + i ≤ 1000000 := by omega
      have hwr : IntKind.i64.wrap ((a : Int) + (i : Int)) = (a : Int) + (i : Int) := IntWalk.i64_in _ (by omega)
      generalize bs.getD i 0 = y at *
      unfold by8 at hci
      clear hS1 hcell hgr hi2 hps hR1
      go_upto_region 6 with fail
      refine region_quiet_tail (fun w' => ∃ n, w' = wr.drewN n) 11 (by kernel_rfl) (by kernel_rfl) ⟨1, rfl⟩ ?_
      simp only [List.take_succ_cons, List.take_zero, List.drop_succ_cons, List.drop_zero]
      repeat (quiet_step (fail))
      refine wpQuiet_nil ?_
      rintro w' ⟨nq, rfl⟩
      have hM : MpM (wr.drewN nq) mb (putM m (a - 2147483648) (bs.take i)) (c + i) := HR.out.2.kept (only_drewN _ _ none) (by simp)
      go_wp2_with (
        refine wp_mapset rfl _ _ _ rfl rfl hM (a + i) y rfl rfl HA.out hcc ?_
        intro w2 hM2 hgr2
        go_frame)
      go_roundw
      case rel =>
        have hg3 : wr.grownBy w2 (some mb) := only_trans (only_drewN wr nq _) hgr2
        refine ⟨i + 1, hlt, by go_num, ⟨has_grown HR.out.1 hg3 (fun l e => by injection e with e; omega), ?_⟩, HS.out.grown hg3 (fun b' o' e _ e2 => ?_), only_trans HG.out hg3⟩
        · rw [HP.out]
          exact hM2
        · injection e with e; injection e with e _ _
          injection e2 with e2
          omega
      case measure => simp [intOf] <;> omega
    · obtain rfl : i = n := by omega
      rw [List.take_of_length_le (by omega)] at hR1
      go_wp2_with fail
      go_ret
      exact ⟨rfl, hR1, hgr⟩
set_option maxRecDepth 100000 in
set_option maxHeartbeats 1000000 in
theorem rput_far (v : Value) (a : Nat) (A : Option Addr) (n cap : Nat) (w : World) (ha : a < 4294967296) (hn : n < 4611686018427387904) (hin : inR a n = false) :
    Calls Tryz.prog 43 #[v, .int .i64 (a : Int), .slice A n cap] w fun e w' => e = .returned (.bool false) ∧ w = w' := by
  have kH := fun w => rhas_any a n w ha hn
  simp only [hin] at kH
  go_enter Tryz.func43, Tryz.ntmps43
  go_wp2_with (refine (kH _).mono ?_; rintro e w' ⟨rfl, rfl⟩)
  go_ret
  exact ⟨rfl, rfl⟩
set_option maxRecDepth 100000 in
set_option maxHeartbeats 1000000 in
theorem rstore_wid (v : Value) (a x : Int) (n : Int) (w : World) (hn : widB n = false) :
    Calls Tryz.prog 22 #[v, .int .i64 a, .int .i64 n, .int .i64 x] w fun e w' => e = .returned (.bool false) ∧ w = w' := by
  have h1 := of_decide_eq_false hn
  have d1 : (n != 1) = true := by simp; omega
  have d2 : (n != 2) = true := by simp; omega
  have d4 : (n != 4) = true := by simp; omega
  clear h1 hn
  go_enter Tryz.func22, Tryz.ntmps22
  go_wp2_with fail
  go_ret
  exact ⟨rfl, rfl⟩
set_option maxRecDepth 100000 in
set_option maxHeartbeats 1000000 in
/-- Store by what Put answers -/
theorem rstore_by (v : Value) (a x : Nat) (n : Nat) (b : Bool) (w : World) (hn : n = 1 ∨ n = 2 ∨ n = 4) (_hx : x < 4294967296) (Q : World → World → Prop)
    (kP : ∀ (A : Option Addr) (c : Nat) (w1 : World), Below w.heap.size w w1 → SlA w1 A n c (leB n x) → (∀ b o s, A = some ⟨b, o, s⟩ → 0 < n → w.heap.size ≤ b) → Calls Tryz.prog 43 #[v, .int .i64 (a : Int), .slice A n c] w1 fun e w' => e = .returned (.bool b) ∧ Q w1 w') :
    Calls Tryz.prog 22 #[v, .int .i64 (a : Int), .int .i64 (n : Int), .int .i64 (x : Int)] w fun e w' => e = .returned (.bool b) ∧ ∃ w1, Below w.heap.size w w1 ∧ Q w1 w' := by
  rcases hn with rfl | rfl | rfl
  · show Calls Tryz.prog _ #[v, .int .i64 (a : Int), .int .i64 1, .int .i64 (x : Int)] w _
    go_enter Tryz.func22, Tryz.ntmps22
    go_wp2_with fail
    go_loopw [9, 10] (fun va ct wr => ∃ i : Nat, i ≤ 1 ∧ ct = .int .i64 (i : Int) ∧ wr.ownsRow w.heap.size 5 1 va i ((leB i x).map by8) ∧ Below w.heap.size w wr) (fun _ ct _ => (1 - (intOf ct)).toNat)
    case atStart => exact ⟨0, Nat.zero_le _, rfl, World.ownsRow_nil _ _ _ _, Below.refl _ _⟩
    case round =>
      obtain ⟨i, hi, rfl, hown, hb⟩ := hrel
      by_cases hlt : i < 1
      · have di : (i : Int) < 1 := by omega
        have hws := hb.size
        have HB := Lib.hid hb
        have HOWN := Lib.hid hown
        have HBT := Lib.hid (byte_at x i)
        clear hown hb
        go_wp2_with (
          refine wp_append_byte rfl _ _ rfl w.heap.size _ i _ rfl (mown_after HOWN.out ((Below.refl _ _).alloc (Nat.le_refl _) _)) wr.heap.size rfl (UInt8.ofNat (x / 256 ^ i)) (((Has.new _ _ _).cell 0).trans (congrArg some HBT.out)) (by omega) (by simp; omega) ?_
          intro v' w' hown' hgr')
        go_roundw
        case rel =>
          refine ⟨i + 1, hlt, by go_num, ?_, ?_⟩
          · rw [leB_snoc, List.map_append]
            exact hown'
          · have hb1 : Below w.heap.size w (wr.alloc (.cells #[.int .u8 ((x : Int) / 2 ^ (8 * i) % 256)] 5)) := HB.out.alloc hws _
            exact mbelow_own hb1 (mown_after HOWN.out ((Below.refl _ _).alloc (Nat.le_refl _) _)) (Nat.le_refl _) hb1.size hgr'
        case measure => simp [intOf] <;> omega
      · obtain rfl : i = 1 := by omega
        obtain ⟨A, c, rfl⟩ := own_form hown
        have hS := (own_slA hown).1
        have kP1 := kP A c wr hb hS (fun b o s e _ => by subst e; exact (own_base hown).1)
        have HB := Lib.hid hb
        clear hown hS hb kP
        go_wp2_with (refine kP1.mono ?_; rintro e w2 ⟨rfl, hQ⟩)
        go_ret
        exact ⟨rfl, wr, HB.out, hQ⟩
  · show Calls Tryz.prog _ #[v, .int .i64 (a : Int), .int .i64 2, .int .i64 (x : Int)] w _
    go_enter Tryz.func22, Tryz.ntmps22
    go_wp2_with fail
    go_loopw [9, 10] (fun va ct wr => ∃ i : Nat, i ≤ 2 ∧ ct = .int .i64 (i : Int) ∧ wr.ownsRow w.heap.size 5 1 va i ((leB i x).map by8) ∧ Below w.heap.size w wr) (fun _ ct _ => (2 - (intOf ct)).toNat)
    case atStart => exact ⟨0, Nat.zero_le _, rfl, World.ownsRow_nil _ _ _ _, Below.refl _ _⟩
    case round =>
      obtain ⟨i, hi, rfl, hown, hb⟩ := hrel
      by_cases hlt : i < 2
      · have di : (i : Int) < 2 := by omega
        have hws := hb.size
        have HB := Lib.hid hb
        have HOWN := Lib.hid hown
        have HBT := Lib.hid (byte_at x i)
        clear hown hb
        go_wp2_with (
          refine wp_append_byte rfl _ _ rfl w.heap.size _ i _ rfl (mown_after HOWN.out ((Below.refl _ _).alloc (Nat.le_refl _) _)) wr.heap.size rfl (UInt8.ofNat (x / 256 ^ i)) (((Has.new _ _ _).cell 0).trans (congrArg some HBT.out)) (by omega) (by simp; omega) ?_
          intro v' w' hown' hgr')
        go_roundw
        case rel =>
          refine ⟨i + 1, hlt, by go_num, ?_, ?_⟩
          · rw [leB_snoc, List.map_append]
            exact hown'
          · have hb1 : Below w.heap.size w (wr.alloc (.cells #[.int .u8 ((x : Int) / 2 ^ (8 * i) % 256)] 5)) := HB.out.alloc hws _
            exact mbelow_own hb1 (mown_after HOWN.out ((Below.refl _ _).alloc (Nat.le_refl _) _)) (Nat.le_refl _) hb1.size hgr'
        case measure => simp [intOf] <;> omega
      · obtain rfl : i = 2 := by omega
        obtain ⟨A, c, rfl⟩ := own_form hown
        have hS := (own_slA hown).1
        have kP1 := kP A c wr hb hS (fun b o s e _ => by subst e; exact (own_base hown).1)
        have HB := Lib.hid hb
        clear hown hS hb kP
        go_wp2_with (refine kP1.mono ?_; rintro e w2 ⟨rfl, hQ⟩)
        go_ret
        exact ⟨rfl, wr, HB.out, hQ⟩
  · show Calls Tryz.prog _ #[v, .int .i64 (a : Int), .int .i64 4, .int .i64 (x : Int)] w _
    go_enter Tryz.func22, Tryz.ntmps22
    go_wp2_with fail
    go_loopw [9, 10] (fun va ct wr => ∃ i : Nat, i ≤ 4 ∧ ct = .int .i64 (i : Int) ∧ wr.ownsRow w.heap.size 5 1 va i ((leB i x).map by8) ∧ Below w.heap.size w wr) (fun _ ct _ => (4 - (intOf ct)).toNat)
    case atStart => exact ⟨0, Nat.zero_le _, rfl, World.ownsRow_nil _ _ _ _, Below.refl _ _⟩
    case round =>
      obtain ⟨i, hi, rfl, hown, hb⟩ := hrel
      by_cases hlt : i < 4
      · have di : (i : Int) < 4 := by omega
        have hws := hb.size
        have HB := Lib.hid hb
        have HOWN := Lib.hid hown
        have HBT := Lib.hid (byte_at x i)
        clear hown hb
        go_wp2_with (
          refine wp_append_byte rfl _ _ rfl w.heap.size _ i _ rfl (mown_after HOWN.out ((Below.refl _ _).alloc (Nat.le_refl _) _)) wr.heap.size rfl (UInt8.ofNat (x / 256 ^ i)) (((Has.new _ _ _).cell 0).trans (congrArg some HBT.out)) (by omega) (by simp; omega) ?_
          intro v' w' hown' hgr')
        go_roundw
        case rel =>
          refine ⟨i + 1, hlt, by go_num, ?_, ?_⟩
          · rw [leB_snoc, List.map_append]
            exact hown'
          · have hb1 : Below w.heap.size w (wr.alloc (.cells #[.int .u8 ((x : Int) / 2 ^ (8 * i) % 256)] 5)) := HB.out.alloc hws _
            exact mbelow_own hb1 (mown_after HOWN.out ((Below.refl _ _).alloc (Nat.le_refl _) _)) (Nat.le_refl _) hb1.size hgr'
        case measure => simp [intOf] <;> omega
      · obtain rfl : i = 4 := by omega
        obtain ⟨A, c, rfl⟩ := own_form hown
        have hS := (own_slA hown).1
        have kP1 := kP A c wr hb hS (fun b o s e _ => by subst e; exact (own_base hown).1)
        have HB := Lib.hid hb
        clear hown hS hb kP
        go_wp2_with (refine kP1.mono ?_; rintro e w2 ⟨rfl, hQ⟩)
        go_ret
        exact ⟨rfl, wr, HB.out, hQ⟩
theorem rstore_any (m : Nat → UInt8) (r mb c a x : Nat) (n : Int) (w : World) (hR : RefP w r mb m c) (ha : a < 4294967296) (hx : x < 4294967296) (hc : c ≤ 900000) :
    Calls Tryz.prog 22 #[mP r, .int .i64 (a : Int), .int .i64 n, .int .i64 (x : Int)] w fun e w' => e = .returned (.bool (stB a n)) ∧ RefP w' r mb (stM m a n x) (c + 4) ∧ w.grownBy w' (some mb) := by
  unfold stM
  cases hw : widB n with
  | false =>
    rw [show stB a n = false by unfold stB; rw [hw]; rfl]
    refine (rstore_wid _ _ _ n w hw).mono ?_
    rintro e w' ⟨rfl, rfl⟩
    exact ⟨rfl, ⟨hR.1, hR.2.more (Nat.le_add_right _ _)⟩, World.grownBy.refl _ _⟩
  | true =>
    obtain ⟨k, rfl, hk⟩ := wid_nat hw
    have hmb := hR.2.lt
    cases hi : inR a k with
    | false =>
      rw [show stB a (k : Int) = false by unfold stB; rw [hw, Int.toNat_natCast, hi]; rfl]
      refine (rstore_by (mP r) a x k false w hk hx (fun w1 w' => w1 = w') fun A c w1 hb hS _ => rput_far _ a A k c w1 ha (by omega) hi).mono ?_
      rintro e w' ⟨rfl, w1, hb, rfl⟩
      exact ⟨rfl, ⟨hR.1.after hb, (hR.2.after hb).more (Nat.le_add_right _ _)⟩, only_below hb _⟩
    | true =>
      rw [show stB a (k : Int) = true by unfold stB; rw [hw, Int.toNat_natCast, hi]; rfl, if_pos rfl, Int.toNat_natCast]
      refine (rstore_by (mP r) a x k true w hk hx (fun w1 w' => RefP w' r mb (putM m (a - 2147483648) (leB k x)) (c + k) ∧ w1.grownBy w' (some mb)) fun A cc w1 hb hS hA => rput_any' m r mb c a A k cc (leB k x) w1 (hR.after hb) ha hS hi hc (fun b o s e h0 => by have := hA b o s e h0; omega)).mono ?_
      rintro e w' ⟨rfl, w1, hb, hR2, hgr⟩
      exact ⟨rfl, ⟨hR2.1, hR2.2.more (by omega)⟩, only_trans (only_below hb _) hgr⟩
end Go.Proofs.YtgpofoggfifnjaaGreatDoor
