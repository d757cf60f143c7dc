/-
Layer 15: the registers as plain data; the reference's file of registers: New.
-/
import Derived.Test.YthaockngbagdhaaDoorCsA
import Derived.Test.YthaockngbagdhaaDoorGenB
import Derived.Test.YthaockngbagdhaaDoorBs
import Derived.Deep.QuietTactic
import Derived.Lib.Hide
import Derived.Deep.DeepCutAuto
namespace Go.Proofs.YthaockngbagdhaaDoor.Cs
open Go Go.RowKit

/-- what a file of registers holds -/
structure St where
  mode : Nat
  r : Nat → Nat
  cfg : Nat → Nat
  cyc : Nat
  ret : Nat
structure St.Ok (s : St) : Prop where
  mode : s.mode = 0 ∨ s.mode = 3
  r : ∀ x, s.r x < 4294967296
  cfg : ∀ k, s.cfg k < 256
  cyc : s.cyc < 18446744073709551616
  ret : s.ret < 18446744073709551616
  st : s.r 768 < 8192
  mpp : s.r 768 / 2048 % 4 = 0 ∨ s.r 768 / 2048 % 4 = 3
  bits : ∀ k, s.cfg k / 32 % 4 = 0
def st0 : St := ⟨3, fun _ => 0, fun _ => 0, 0, 0⟩
theorem st0_ok : st0.Ok := ⟨Or.inr rfl, fun _ => (by decide : 0 < 4294967296), fun _ => (by decide : 0 < 256), by decide, by decide, by decide, Or.inl rfl, fun _ => (by decide : 0 / 32 % 4 = 0)⟩
/-- the registers of the map -/
def isK (x : Nat) : Bool := x == 768 || x == 772 || x == 773 || (decide (832 ≤ x) && decide (x ≤ 836)) || (decide (944 ≤ x) && decide (x < 960))
def rM (s : St) (x : Nat) : Option Nat := if isK x = true then some (s.r x) else none
/-- the reference's cells -/
def rV (s : St) (mb : Nat) (i : Nat) : Value :=
  if i = 0 then .int .i64 (s.mode : Int) else if i = 1 then .map (some mb) else if i < 18 then .int .i64 (s.cfg (i - 2) : Int) else if i = 18 then .int .u64 (s.cyc : Int) else .int .u64 (s.ret : Int)
theorem rV_one (s : St) (mb i : Nat) : (rV s mb i).oneCell' = true := by unfold rV; repeat' split <;> try rfl
theorem rV_0 (s : St) (mb : Nat) : rV s mb 0 = .int .i64 (s.mode : Int) := rfl
theorem rV_1 (s : St) (mb : Nat) : rV s mb 1 = .map (some mb) := rfl
theorem rV_c (s : St) (mb k : Nat) (h : k < 16) : rV s mb (2 + k) = .int .i64 (s.cfg k : Int) := by
  unfold rV
  rw [if_neg (by omega), if_neg (by omega), if_pos (by omega), show 2 + k - 2 = k by omega]
theorem rV_18 (s : St) (mb : Nat) : rV s mb 18 = .int .u64 (s.cyc : Int) := rfl
theorem rV_19 (s : St) (mb : Nat) : rV s mb 19 = .int .u64 (s.ret : Int) := rfl
/-- the reference's file: a block, and a map beside it -/
structure Ref (w : World) (h mb : Nat) (s : St) : Prop where
  blk : Has w h 60 (tab 20 (rV s mb))
  map : MpR w mb (rM s) 24
  ok : s.Ok
section
variable {w w' : World} {h mb : Nat} {s : St}
theorem Ref.after (H : Ref w h mb s) (k : Below w.heap.size w w') : Ref w' h mb s := ⟨H.blk.after k, H.map.after k, H.ok⟩
theorem Ref.ne (H : Ref w h mb s) : mb ≠ h := H.map.has_ne H.blk
/-- what another block's change leaves -/
theorem Ref.beside {g : Option Nat} (H : Ref w h mb s) (k : w.grownBy w' g) (h1 : g ≠ some h) (h2 : g ≠ some mb) : Ref w' h mb s :=
  ⟨has_grown H.blk k fun l e => by rintro rfl; exact h1 e, H.map.kept k fun e => h2 e.symm, H.ok⟩
end
def L8 : List Nat := [768, 772, 773, 832, 833, 834, 835, 836]
def R8 (i x : Nat) : Option Nat := if x ∈ L8.take i then some 0 else none
def R16 (i x : Nat) : Option Nat := if x ∈ L8 ∨ (944 ≤ x ∧ x < 944 + i) then some 0 else none
theorem R8_0 : (fun _ => none : Nat → Option Nat) = R8 0 := by funext x; simp [R8]
theorem R8_up (i : Nat) (hi : i < 8) : upd (R8 i) (L8.getD i 0) (some 0) = R8 (i + 1) := by
  funext x
  have ht : L8.take (i + 1) = L8.take i ++ [L8.getD i 0] := by
    rw [List.take_add_one, List.getD_eq_getElem?_getD, List.getElem?_eq_getElem (show i < L8.length from hi)]
    rfl
  unfold upd R8
  rw [ht]
  simp only [List.mem_append, List.mem_singleton]
  by_cases h1 : x = L8.getD i 0
  · rw [if_pos h1, if_pos (Or.inr h1)]
  · rw [if_neg h1]
    by_cases h2 : x ∈ L8.take i
    · rw [if_pos h2, if_pos (Or.inl h2)]
    · rw [if_neg h2, if_neg (by rintro (h | h); exact h2 h; exact h1 h)]
theorem R8_8 : R8 8 = R16 0 := by
  funext x
  unfold R8 R16
  rw [show L8.take 8 = L8 from rfl]
  by_cases h : x ∈ L8
  · rw [if_pos h, if_pos (Or.inl h)]
  · rw [if_neg h, if_neg (by rintro (h1 | h1); exact h h1; omega)]
theorem R16_up (i : Nat) : upd (R16 i) (944 + i) (some 0) = R16 (i + 1) := by
  funext x
  unfold upd R16
  by_cases h1 : x = 944 + i
  · rw [if_pos h1, if_pos (Or.inr (by omega))]
  · rw [if_neg h1]
    by_cases h2 : x ∈ L8 ∨ (944 ≤ x ∧ x < 944 + i)
    · rw [if_pos h2, if_pos (by rcases h2 with h2 | h2; exact Or.inl h2; exact Or.inr (by omega))]
    · rw [if_neg h2, if_neg]
      rintro (h3 | h3)
      · exact h2 (Or.inl h3)
      · exact h2 (Or.inr (by omega))
theorem R16_16 : R16 16 = rM st0 := by
  funext x
  unfold R16 rM st0
  have e : (x ∈ L8 ∨ (944 ≤ x ∧ x < 944 + 16)) ↔ isK x = true := by
    unfold isK L8
    simp only [List.mem_cons, List.not_mem_nil, or_false, Bool.or_eq_true, beq_iff_eq, Bool.and_eq_true, decide_eq_true_eq]
    omega
  by_cases h : isK x = true
  · rw [if_pos h, if_pos (e.2 h)]
  · rw [if_neg h, if_neg (fun h1 => h (e.1 h1))]
def iV (i : Nat) : Value := .int .i64 (L8.getD i 0 : Int)
theorem iV_all : (#[.int .i64 768, .int .i64 772, .int .i64 773, .int .i64 832, .int .i64 833, .int .i64 834, .int .i64 835, .int .i64 836] : Array Value) = tab 8 iV := by kernel_rfl
theorem rV_all (mb : Nat) : (#[.int .i64 3, .map (some mb), .int .i64 0, .int .i64 0, .int .i64 0, .int .i64 0, .int .i64 0, .int .i64 0, .int .i64 0, .int .i64 0, .int .i64 0, .int .i64 0, .int .i64 0, .int .i64 0, .int .i64 0, .int .i64 0, .int .i64 0, .int .i64 0, .int .u64 0, .int .u64 0] : Array Value) = tab 20 (rV st0 mb) := rfl
theorem L8_lt (i : Nat) (hi : i < 8) : L8.getD i 0 < 4294967296 := by
  have : ∀ j, j < 8 → L8.getD j 0 < 4294967296 := by decide
  exact this i hi
theorem at_i8 (b n c j : Nat) (hj : (j : Int) < (n : Int)) (w : World) : (Instr.indexAt 61 (.slice (some ⟨b, 0, none⟩) n c) (.int .i64 (j : Int))).run Tryd.prog w = .ok (.pointer (some ⟨b, j, none⟩)) w := by
  have h2 := Addr.add_mid b 0 j
  rw [Nat.zero_add] at h2
  go_simp
set_option maxRecDepth 100000 in
set_option maxHeartbeats 2000000 in
theorem rnew_any (w : World) :
    Calls Tryd.prog 8 #[] w fun e w' => (∃ h mb, e = .returned (.pointer (some ⟨h, 0, none⟩)) ∧ Ref w' h mb st0 ∧ w.heap.size ≤ h ∧ w.heap.size ≤ mb) ∧ Below w.heap.size w w' := by
  have hM0 := MpR.new w
  have hb0 := (Below.refl w.heap.size w).alloc (Nat.le_refl _) (.map #[] 0)
  have hz0 : (w.alloc (.map #[] 0)).heap.size = w.heap.size + 1 := by simp
  have hmm := @run_makeMap Tryd.prog
  go_enter Tryd.func8, Tryd.ntmps8
  go_upto_region 3 with fail
  rw [rV_all, iV_all]
  have hB1 := Has.new (w.alloc (.map #[] 0)) 60 (tab 20 (rV st0 w.heap.size))
  rw [hz0] at hB1
  have hM1 := hM0.after ((Below.refl _ _).alloc (Nat.le_refl _) (.cells (tab 20 (rV st0 w.heap.size)) 60))
  have hb1 := hb0.alloc (by omega) (.cells (tab 20 (rV st0 w.heap.size)) 60)
  have hz1 : ((w.alloc (.map #[] 0)).alloc (.cells (tab 20 (rV st0 w.heap.size)) 60)).heap.size = w.heap.size + 1 + 1 := by simp
  generalize hw1 : (w.alloc (.map #[] 0)).alloc (.cells (tab 20 (rV st0 w.heap.size)) 60) = w1 at *
  have hL := Has.new w1 3 (tab 8 iV)
  rw [hz1] at hL
  have hB := hB1.after ((Below.refl _ _).alloc (Nat.le_refl _) (.cells (tab 8 iV) 3))
  have hM := hM1.after ((Below.refl _ _).alloc (Nat.le_refl _) (.cells (tab 8 iV) 3))
  have hb := hb1.alloc (by omega) (.cells (tab 8 iV) 3)
  generalize hw2 : w1.alloc (.cells (tab 8 iV) 3) = w2 at *
  clear hw1 hw2 hM0 hb0 hz0 hM1 hb1 hz1 hB1
  have hms : w.heap.size ≤ w.heap.size := Nat.le_refl _
  have hhs : w.heap.size ≤ w.heap.size + 1 := by omega
  have hhm : w.heap.size ≠ w.heap.size + 1 := by omega
  have hlm : w.heap.size ≠ w.heap.size + 1 + 1 := by omega
  have HB := Lib.hid hb
  generalize hgm : w.heap.size = gm at hB hM hL hhm hlm hms hhs ⊢
  generalize hgh : gm + 1 = gh at *
  generalize hgl : gh + 1 = gl at *
  go_wp2_with fail
  go_loopw [3] (fun ct wr => ∃ i : Nat, i ≤ 8 ∧ ct = .int .i64 (i : Int) ∧ MpR wr gm (R8 i) i ∧ w2.grownBy wr (some gm)) (fun ct _ => (8 - (intOf ct)).toNat)
  case atStart => exact ⟨0, Nat.zero_le _, rfl, by rw [← R8_0]; exact hM, World.grownBy.refl _ _⟩
  case round =>
    obtain ⟨i, hi, rfl, hM1, hgr⟩ := hrel
    by_cases hlt : i < 8
    · have hB1 := has_grown hB hgr (fun l e => by injection e with e; omega)
      have hL1 := has_grown hL hgr (fun l e => by injection e with e; omega)
      have hc0 : wr.cell? ⟨gh, 1, none⟩ = some (.map (some gm)) := (hB1.cellTab 1 (by decide))
      have hci : wr.cell? ⟨gl, i, none⟩ = some (iV i) := hL1.cellTab i hlt
      have di : (i : Int) < 8 := by omega
      have hx := fun W => at_i8 gl 8 8 i (by omega) W
      have hup := Lib.hid (R8_up i hlt)
      have HM := Lib.hid hM1
      have HG := Lib.hid hgr
      have hLl := L8_lt i hlt
      unfold iV at hci
      generalize L8.getD i 0 = x at *
      clear hM1 hgr hB1 hL1
      go_upto_region 6 with fail
      refine region_quiet_tail (fun w' => ∃ n, w' = wr.drewN n) 8 (by kernel_rfl) (by kernel_rfl) ⟨1, rfl⟩ ?_
      simp only [List.take_succ_cons, List.take_zero, List.drop_succ_cons, List.drop_zero]
      repeat (quiet_step (fail))
      refine wpQuiet_nil ?_
      rintro w' ⟨nq, rfl⟩
      have hM2 := HM.out.drewN nq
      go_wp2_with (
        refine wp_mapput rfl _ _ _ rfl rfl hM2 x 0 rfl rfl hLl (by decide) (by omega) (i + 1) (by split <;> omega) ?_
        intro w3 hM3 hgr3
        go_frame)
      go_roundw
      case rel =>
        refine ⟨i + 1, hlt, by go_num, ?_, only_trans HG.out (only_trans (only_drewN wr nq _) hgr3)⟩
        rw [← hup.out]
        exact hM3
      case measure => simp [intOf] <;> omega
    · obtain rfl : i = 8 := by omega
      rw [R8_8] at hM1
      have hB1 := has_grown hB hgr (fun l e => by injection e with e; omega)
      have HG := Lib.hid hgr
      clear hgr
      go_wp2_with fail
      go_loopw [4] (fun ct wv => ∃ i : Nat, i ≤ 16 ∧ ct = .int .i64 (i : Int) ∧ MpR wv gm (R16 i) (8 + i) ∧ wr.grownBy wv (some gm)) (fun ct _ => (16 - (intOf ct)).toNat)
      case atStart => exact ⟨0, Nat.zero_le _, rfl, hM1, World.grownBy.refl _ _⟩
      case round =>
        obtain ⟨i, hi, rfl, hM4, hgr4⟩ := hrel
        by_cases hlt : i < 16
        · have hB2 := has_grown hB1 hgr4 (fun l e => by injection e with e; omega)
          have hc0 : wr.cell? ⟨gh, 1, none⟩ = some (.map (some gm)) := (hB2.cellTab 1 (by decide))
          have di : (i : Int) < 16 := by omega
          have e1 : (944 : Int) + (i : Int) = ((944 + i : Nat) : Int) := by omega
          have hup := Lib.hid (R16_up i)
          have HG4 := Lib.hid hgr4
          clear hgr4 hB2
          obtain ⟨x, hx⟩ : ∃ x, x = 944 + i := ⟨_, rfl⟩
          rw [← hx] at e1 hup
          have hxl : x < 4294967296 := by omega
          have HX := Lib.hid hx
          clear hx
          go_wp2_with (
            refine wp_mapput rfl _ _ _ rfl rfl hM4 x 0 rfl rfl hxl (by decide) (by omega) (8 + (i + 1)) (by split <;> omega) ?_
            intro w3 hM3 hgr3
            go_frame)
          go_roundw
          case rel =>
            refine ⟨i + 1, hlt, by go_num, ?_, only_trans HG4.out hgr3⟩
            rw [← hup.out]
            exact hM3
          case measure => simp [intOf] <;> omega
        · obtain rfl : i = 16 := by omega
          rw [R16_16] at hM4
          have hB2 := has_grown hB1 hgr4 (fun l e => by injection e with e; omega)
          go_wp2_with fail
          go_ret
          have hb3 : Below gm w2 _ := below_of_only (only_trans HG.out hgr4) (Nat.le_refl _) (Nat.le_of_lt hM.lt)
          exact ⟨⟨gh, gm, rfl, ⟨hB2, hM4, st0_ok⟩, by rw [hgm]; exact hhs, by rw [hgm]; exact Nat.le_refl _⟩, HB.out.trans (by rw [hgm]; exact hb3)⟩
end Go.Proofs.YthaockngbagdhaaDoor.Cs
