/-
Layer 10: the reference's memory, a map by addresses: New, Has, Get, Put, Load, Store.
Layer 10: the reference's memory: Put, Load, Store.
-/
import Derived.Test.YtegaiphhoinilaaJPa
import Derived.Test.YtegaiphhoinilaaJaB
import Derived.Maps.OwnSet
import Derived.Maps.RangeWalk
namespace Go.Proofs.Ytegaiphhoinilaa
open Go Go.RowKit
open Go.Maps (Keyed)

theorem keyI : Keyed Try.prog 3 := Maps.int_keyed Try.underlying3
theorem zeroY (w : World) : (zeroValue 5).run Try.prog w = .ok (.int .u8 0) w := by kernel_rfl
theorem wfI {t : Nat} (h : t < 4294967296) : (Lit.int .i64 (t : Int)).wf = true := by
  have h1 : IntKind.i64.min ≤ (t : Int) := by rw [show IntKind.i64.min = -9223372036854775808 from rfl]; omega
  have h2 : (t : Int) ≤ IntKind.i64.max := by rw [show IntKind.i64.max = 9223372036854775807 from rfl]; omega
  show (decide (IntKind.i64.min ≤ (t : Int)) && decide ((t : Int) ≤ IntKind.i64.max)) = true
  rw [decide_eq_true h1, decide_eq_true h2]
  rfl
theorem wfY (b : UInt8) : (Lit.int .u8 (b.toNat : Int)).wf = true := by
  have h0 := b.toNat_lt
  have h1 : IntKind.u8.min ≤ (b.toNat : Int) := by rw [show IntKind.u8.min = 0 from rfl]; omega
  have h2 : (b.toNat : Int) ≤ IntKind.u8.max := by rw [show IntKind.u8.max = 255 from rfl]; omega
  show (decide (IntKind.u8.min ≤ (b.toNat : Int)) && decide ((b.toNat : Int) ≤ IntKind.u8.max)) = true
  rw [decide_eq_true h1, decide_eq_true h2]
  rfl
theorem keyAtI {t : Nat} (h : t < 4294967296) : keyOf Try.prog 3 (.int .i64 (t : Int)) = some (.int .i64 (t : Int)) := Maps.keyOf_int_mk Try.underlying3 (wfI h)
abbrev kAd (x : Nat) : Lit := .int .i64 (x : Int)
abbrev ylit (b : UInt8) : DataW Unit := .lit (.int .u8 (b.toNat : Int))
/-- an address of RAM -/
def isA (x : Nat) : Prop := 2147483648 ≤ x ∧ x < 2147549184
/-- what the map says of the memory m -/
structure MapD (D : DataW Unit) (m : Nat → UInt8) : Prop where
  keys : ∀ k, Maps.has D k = true → ∃ x, isA x ∧ k = kAd x
  vals : ∀ x, isA x → D.atKey (kAd x) (ylit 0) = ylit (m (x - 2147483648))
/-- the map in block g has the bytes m, with at most c entries -/
def MpM (w : World) (g : Nat) (m : Nat → UInt8) (c : Nat) : Prop :=
  ∃ n, ∃ D : DataW Unit, w.ownsMap Try.prog 3 (plainElem Try.prog 5) g n D ∧ n ≤ c ∧ MapD D m
section
variable {w w' : World} {g c : Nat} {m : Nat → UInt8}
theorem MpM.lt (h : MpM w g m c) : g < w.heap.size := by obtain ⟨n, D, h1, _⟩ := h; exact h1.lt
theorem MpM.kept {r : Option Nat} (h : MpM w g m c) (k : w.grownBy w' r) (hne : some g ≠ r) : MpM w' g m c := by
  obtain ⟨n, D, h1, h2, h3⟩ := h
  exact ⟨n, D, h1.kept k hne, h2, h3⟩
theorem MpM.after (h : MpM w g m c) (k : Below w.heap.size w w') : MpM w' g m c := h.kept (only_below k none) (by simp)
theorem MpM.has_ne {t : TypeId} {cs : Array Value} {g' : Nat} (h : MpM w g m c) (hG : Has w g' t cs) : g ≠ g' := by
  rintro rfl
  obtain ⟨n, D, ⟨es, cl, hb, _⟩, _⟩ := h
  rw [show w.heap[g]? = _ from hG] at hb
  cases hb
theorem MpM.more {c' : Nat} (h : MpM w g m c) (hc : c ≤ c') : MpM w g m c' := by
  obtain ⟨n, D, h1, h2, h3⟩ := h
  exact ⟨n, D, h1, Nat.le_trans h2 hc, h3⟩
theorem MpM.congr {m' : Nat → UInt8} (h : MpM w g m c) (he : ∀ j, j < 65536 → m j = m' j) : MpM w g m' c := by
  obtain ⟨n, D, h1, h2, h3⟩ := h
  exact ⟨n, D, h1, h2, h3.keys, fun x hx => by rw [h3.vals x hx, he _ (by have := hx.1; have := hx.2; omega)]⟩
theorem MpM.new (w : World) : MpM (w.alloc (.map #[] 0)) w.heap.size mem0 0 :=
  ⟨0, .map [], World.ownsMap_made _ _ _ _, Nat.le_refl _, fun _ h => (by cases h), fun _ _ => rfl⟩
set_option maxRecDepth 100000 in
theorem MpM.look (h : MpM w g m c) {t : Nat} (ht : isA t) : (Instr.lookup 73 (.map (some g)) (.int .i64 (t : Int)) false).run Try.prog w = .ok (by8 (m (t - 2147483648))) w := by
  obtain ⟨n, D, h1, h2, h3⟩ := h
  obtain ⟨v, hr, hv, _⟩ := h1.lookup_int keyI Try.underlying73 Try.underlying5 (zeroY w) (keyAtI (t := t) (by have := ht.2; omega))
  have h4 := h3.vals t ht
  unfold kAd ylit at h4
  rw [show ((0 : UInt8).toNat : Int) = 0 from rfl] at h4
  rw [h4] at hv
  injection hv with hv
  injection hv with _ hv
  rw [hr, ← hv]
  rfl
/-- one byte is written -/
def setY (m : Nat → UInt8) (k : Nat) (b : UInt8) (j : Nat) : UInt8 := if j = k then b else m j
/-- a byte is put into the map -/
theorem wp_mapset {ops : Array Oper} {rest : List Oper} {op : Oper} {a : Act} {Q : Exit → Act → World → Prop} (hgd : op.guard = none) (mo x v : Operand) (ho : op.op = .mapUpdate 73 mo x v)
    (hm : a.eval mo = .map (some g)) (h : MpM w g m c) (t : Nat) (y : UInt8) (hx : a.eval x = .int .i64 (t : Int)) (hv : a.eval v = by8 y) (ht : isA t) (hl : c ≤ 1000000)
    (hK : ∀ w', MpM w' g (setY m (t - 2147483648) y) (c + 1) → w.grownBy w' (some g) → wpList Try.prog ops Q rest (a.put op.dst undef) w') : wpList Try.prog ops Q (op :: rest) a w := by
  obtain ⟨n, D, h1, h2, h3⟩ := h
  have ht32 : t < 4294967296 := by have := ht.2; omega
  refine wpList_mapUpdate_own _ hgd mo x v 73 ho 3 5 keyI Try.underlying73 (plainElem Try.prog 5) g n D hm h1 (by unfold maxLen; omega) _ _ (.int .i64 (t : Int)) hx hv (keyAtI ht32) (ylit y) [] (plainElem_int Try.underlying5 (wfY y)) ?_
  intro w' h1' hgr
  have hD := h1.isMap
  refine hK w' ⟨n + 1, _, h1', Nat.succ_le_succ h2, fun k hk => ?_, fun s hs => ?_⟩ hgr
  · by_cases hkt : k = kAd t
    · exact ⟨t, ht, hkt⟩
    · rw [Maps.has_put_other hkt] at hk
      exact h3.keys k hk
  · unfold setY
    by_cases hst : s = t
    · subst hst
      rw [if_pos rfl]
      exact Maps.atKey_put_same hD (keyI.key (keyAtI ht32)) _ _
    · have hne : kAd s ≠ kAd t := fun e => by injection e with _ e; omega
      rw [if_neg (by have := hs.1; have := ht.1; omega)]
      exact (Maps.atKey_put_other hne _ _).trans (h3.vals s hs)
end
/-- the reference's memory: a block with the map -/
def RefP (w : World) (r mb : Nat) (m : Nat → UInt8) (c : Nat) : Prop := Has w r 75 #[.map (some mb)] ∧ MpM w mb m c
section
variable {w w' : World} {r mb c : Nat} {m : Nat → UInt8}
theorem RefP.after (h : RefP w r mb m c) (k : Below w.heap.size w w') : RefP w' r mb m c := ⟨h.1.after k, h.2.after k⟩
theorem RefP.beside {g : Nat} {m' : Nat → UInt8} (h : RefP w r mb m c) (hG : RamP w g m') (k : w.grownBy w' (some g)) : RefP w' r mb m c := by
  obtain ⟨N, _, hG⟩ := hG
  refine ⟨has_grown h.1 k fun l e => ?_, h.2.kept k fun e => ?_⟩
  · injection e with e
    subst e
    rintro rfl
    have e := h.1.symm.trans hG
    injection e with e
    injection e with e1 e2
    exact absurd e2 (by decide)
  · injection e with e
    exact h.2.has_ne hG e
end
set_option maxRecDepth 100000 in
set_option maxHeartbeats 1000000 in
theorem rnew_any (w : World) :
    Calls Try.prog 21 #[] w fun e w' => (∃ r mb, e = .returned (mP r) ∧ RefP w' r mb mem0 0 ∧ w.heap.size ≤ r ∧ w.heap.size ≤ mb) ∧ Below w.heap.size w w' := by
  have hM := MpM.new w
  have hb := (Below.refl w.heap.size w).alloc (Nat.le_refl _) (.map #[] 0)
  have hz : w.heap.size ≤ (w.alloc (.map #[] 0)).heap.size := hb.size
  have hmm := @run_makeMap Try.prog
  go_enter Try.func21, Try.ntmps21
  go_wp2_with fail
  go_ret
  refine ⟨⟨_, _, rfl, ⟨Has.new' (by simp), hM.after ((Below.refl _ _).alloc (Nat.le_refl _) _)⟩, ?_, Nat.le_refl _⟩, hb.alloc hz _⟩
  simp
set_option maxRecDepth 100000 in
set_option maxHeartbeats 1000000 in
theorem rhas_any (a n : Nat) (w : World) (ha : a < 4294967296) (hn : n < 4611686018427387904) :
    Calls Try.prog 51 #[.int .i64 (a : Int), .int .i64 (n : Int)] w fun e w' => e = .returned (.bool (inR a n)) ∧ w = w' := by
  by_cases h1 : 2147483648 ≤ (a : Int)
  · by_cases h2 : (a : Int) + (n : Int) ≤ 2147549184
    · have hr : inR a n = true := decide_eq_true (by omega)
      rw [hr]
      go_enter Try.func51, Try.ntmps51
      go_wp2_with fail
      go_ret
      exact ⟨rfl, rfl⟩
    · have hr : inR a n = false := decide_eq_false (by omega)
      have h3 : 2147549184 < (a : Int) + (n : Int) := by omega
      rw [hr]
      clear h2 hr
      go_enter Try.func51, Try.ntmps51
      go_wp2_with fail
      go_ret
      exact ⟨ret_bool (decide_eq_false (by omega)), rfl⟩
  · have hr : inR a n = false := decide_eq_false (by omega)
    rw [hr]
    go_enter Try.func51, Try.ntmps51
    go_wp2_with fail
    go_ret
    exact ⟨rfl, rfl⟩
theorem cut_snoc (m : Nat → UInt8) (k i : Nat) : cut m k (i + 1) = cut m k i ++ [m (k + i)] := by
  unfold cut
  rw [List.range_succ, List.map_append]
  rfl
set_option maxRecDepth 100000 in
set_option maxHeartbeats 1000000 in
theorem rget_any (m : Nat → UInt8) (r mb c a n : Nat) (w : World) (hR : RefP w r mb m c) (ha : a < 4294967296) (hn : n < 4294967296) (hin : inR a n = true) :
    Calls Try.prog 48 #[mP r, .int .i64 (a : Int), .int .i64 (n : Int)] w fun e w' => (∃ v, e = .returned (.tuple #[v, .bool true]) ∧ w'.ownsRow w.heap.size 5 1 v n ((cut m (a - 2147483648) n).map by8)) ∧ Below w.heap.size w w' := by
  have kH := fun w => rhas_any a n w ha (by omega)
  have h1 := of_decide_eq_true hin
  have HI : Hid (2147483648 ≤ a ∧ a + n ≤ 2147549184) := Lib.hid (by omega)
  simp only [hin] at kH
  clear h1 hin
  go_enter Try.func48, Try.ntmps48
  go_wp2_with (refine (kH _).mono ?_; rintro e w' ⟨rfl, rfl⟩)
  go_loopw [8, 9] (fun va ct wr => ∃ i : Nat, i ≤ n ∧ ct = .int .i64 (i : Int) ∧ wr.ownsRow w.heap.size 5 1 va i ((cut m (a - 2147483648) i).map by8) ∧ Below w.heap.size w wr) (fun _ ct _ => (n - (intOf ct)).toNat)
  case atStart => exact ⟨0, Nat.zero_le _, rfl, World.ownsRow_nil _ _ _ _, Below.refl _ _⟩
  case round =>
    obtain ⟨i, hi, rfl, hown, hb⟩ := hrel
    by_cases hlt : i < n
    · have di : (i : Int) < (n : Int) := by omega
      have hR1 := hR.after hb
      have hc0 : wr.cell? ⟨r, 0, none⟩ = some (.map (some mb)) := hR1.1.cell 0
      have hi2 := HI.out
      have hlk := hR1.2.look (t := a + i) ⟨by omega, by omega⟩
      rw [show (((a + i : Nat) : Int)) = (a : Int) + (i : Int) by omega, show a + i - 2147483648 = (a - 2147483648) + i by omega] at hlk
      have hws := hb.size
      have HB := Lib.hid hb
      have HOWN := Lib.hid hown
      have hi6 : i + 1 ≤ 1000000 := by omega
      have hai : (a : Int) + (i : Int) < 4294967296 := by omega
      have HS := Lib.hid (cut_snoc m (a - 2147483648) i)
      clear hown hb hi2
      generalize m ((a - 2147483648) + i) = y at *
      unfold by8 at hlk
      go_wp2_with (
        refine wp_append_byte rfl _ _ rfl w.heap.size _ i _ rfl (own_after HOWN.out ((Below.refl _ _).alloc (Nat.le_refl _) _)) wr.heap.size rfl y (((Has.new _ _ _).cell 0).trans rfl) hi6 (by simp; omega) ?_
        intro v' w' hown' hgr')
      go_roundw
      case rel =>
        refine ⟨i + 1, hlt, by go_num, ?_, ?_⟩
        · rw [HS.out, List.map_append]
          exact hown'
        · have hb1 : Below w.heap.size w (wr.alloc (.cells #[.int .u8 (y.toNat : Int)] 5)) := HB.out.alloc hws _
          exact below_own hb1 (own_after HOWN.out ((Below.refl _ _).alloc (Nat.le_refl _) _)) (Nat.le_refl _) hb1.size hgr'
      case measure => simp [intOf] <;> omega
    · obtain rfl : i = n := by omega
      go_wp2_with fail
      go_ret2
      exact ⟨⟨_, rfl, hown⟩, hb⟩
set_option maxRecDepth 100000 in
set_option maxHeartbeats 1000000 in
theorem rget_far (v : Value) (a n : Nat) (w : World) (ha : a < 4294967296) (hn : n < 4294967296) (hin : inR a n = false) :
    Calls Try.prog 48 #[v, .int .i64 (a : Int), .int .i64 (n : Int)] w fun e w' => e = .returned (.tuple #[.slice none 0 0, .bool false]) ∧ w = w' := by
  have kH := fun w => rhas_any a n w ha (by omega)
  simp only [hin] at kH
  go_enter Try.func48, Try.ntmps48
  go_wp2_with (refine (kH _).mono ?_; rintro e w' ⟨rfl, rfl⟩)
  go_ret2
  exact ⟨rfl, rfl⟩
end Go.Proofs.Ytegaiphhoinilaa
namespace Go.Proofs.Ytegaiphhoinilaa
open Go Go.RowKit

theorem putM_nil (m : Nat → UInt8) (k : Nat) : putM m k [] = m := by
  funext j
  unfold putM
  rw [if_neg (by rw [List.length_nil]; omega)]
theorem putM_snoc (m : Nat → UInt8) (k i : Nat) (bs : List UInt8) (h : i < bs.length) : putM m k (bs.take (i + 1)) = setY (putM m k (bs.take i)) (k + i) (bs.getD i 0) := by
  funext j
  unfold setY putM
  have h1 : (bs.take (i + 1)).length = i + 1 := by rw [List.length_take]; omega
  have h2 : (bs.take i).length = i := by rw [List.length_take]; omega
  rw [h1, h2]
  by_cases hj : j = k + i
  · subst hj
    rw [if_pos (by omega), if_pos rfl, show k + i - k = i by omega]
    simp [List.getD_eq_getElem?_getD]
  · rw [if_neg hj]
    by_cases hj2 : k ≤ j ∧ j < k + i
    · rw [if_pos (by omega), if_pos hj2]
      simp [List.getD_eq_getElem?_getD, show j - k < i by omega, show j - k < i + 1 by omega]
    · rw [if_neg (by omega), if_neg hj2]
set_option maxRecDepth 100000 in
set_option maxHeartbeats 1000000 in
theorem rput_any' (m : Nat → UInt8) (r mb c a : Nat) (A : Option Addr) (n cap : Nat) (bs : List UInt8) (w : World) (hR : RefP w r mb m c) (ha : a < 4294967296) (hS : SlA w A n cap bs) (hin : inR a n = true) (hc : c ≤ 900000)
    (hne : ∀ b o s, A = some ⟨b, o, s⟩ → 0 < n → b ≠ mb) :
    Calls Try.prog 41 #[mP r, .int .i64 (a : Int), .slice A n cap] w fun e w' => e = .returned (.bool true) ∧ RefP w' r mb (putM m (a - 2147483648) bs) (c + n) ∧ w.grownBy w' (some mb) := by
  have h1 := of_decide_eq_true hin
  have kH := fun w => rhas_any a n w ha (by omega)
  have HI : Hid (2147483648 ≤ a ∧ a + n ≤ 2147549184) := Lib.hid (by omega)
  have hl := hS.1
  have hrne := hR.2.has_ne hR.1
  simp only [hin] at kH
  have HNE := Lib.hid hne
  clear h1 hin hne
  go_enter Try.func41, Try.ntmps41
  go_wp2_with (refine (kH _).mono ?_; rintro e w' ⟨rfl, rfl⟩)
  go_loopw [7] (fun ct wr => ∃ i : Nat, i ≤ n ∧ ct = .int .i64 (i : Int) ∧ RefP wr r mb (putM m (a - 2147483648) (bs.take i)) (c + i) ∧ SlA wr A n cap bs ∧ w.grownBy wr (some mb)) (fun ct _ => (n - (intOf ct)).toNat)
  case atStart => exact ⟨0, Nat.zero_le _, rfl, by rw [List.take_zero, putM_nil]; exact hR, hS, World.grownBy.refl _ _⟩
  case round =>
    obtain ⟨i, hi, rfl, hR1, hS1, hgr⟩ := hrel
    by_cases hlt : i < n
    · have di : (i : Int) < (n : Int) := by omega
      have hc0 : wr.cell? ⟨r, 0, none⟩ = some (.map (some mb)) := hR1.1.cell 0
      have hi2 := HI.out
      obtain ⟨b, o, rfl, hbl, hcell⟩ := hS1.2.2 (by omega)
      have hci := hcell i hlt
      have hbm := HNE.out b o none rfl (by omega)
      have hai : (a : Int) + (i : Int) < 4294967296 := by omega
      have hps := putM_snoc m (a - 2147483648) i bs (by omega)
      rw [show a - 2147483648 + i = a + i - 2147483648 by omega] at hps
      have HP := Lib.hid hps
      have HR := Lib.hid hR1
      have HS := Lib.hid hS1
      have HG := Lib.hid hgr
      have HA : Hid (isA (a + i)) := Lib.hid ⟨by omega, by omega⟩
      have hcc : c + i ≤ 1000000 := by omega
      have hwr : IntKind.i64.wrap ((a : Int) + (i : Int)) = (a : Int) + (i : Int) := IntWalk.i64_in _ (by omega)
      generalize bs.getD i 0 = y at *
      unfold by8 at hci
      clear hS1 hcell hgr hi2 hps hR1
      go_upto_region 6 with fail
      refine region_quiet_tail (fun w' => ∃ n, w' = wr.drewN n) 11 (by kernel_rfl) (by kernel_rfl) ⟨1, rfl⟩ ?_
      simp only [List.take_succ_cons, List.take_zero, List.drop_succ_cons, List.drop_zero]
      repeat (quiet_step (fail))
      refine wpQuiet_nil ?_
      rintro w' ⟨nq, rfl⟩
      have hM : MpM (wr.drewN nq) mb (putM m (a - 2147483648) (bs.take i)) (c + i) := HR.out.2.kept (only_drewN _ _ none) (by simp)
      go_wp2_with (
        refine wp_mapset rfl _ _ _ rfl rfl hM (a + i) y rfl rfl HA.out hcc ?_
        intro w2 hM2 hgr2
        go_frame)
      go_roundw
      case rel =>
        have hg3 : wr.grownBy w2 (some mb) := only_trans (only_drewN wr nq _) hgr2
        refine ⟨i + 1, hlt, by go_num, ⟨has_grown HR.out.1 hg3 (fun l e => by injection e with e; omega), ?_⟩, HS.out.grown hg3 (fun b' o' e _ e2 => ?_), only_trans HG.out hg3⟩
        · rw [HP.out]
          exact hM2
        · injection e with e; injection e with e _ _
          injection e2 with e2
          omega
      case measure => simp [intOf] <;> omega
    · obtain rfl : i = n := by omega
      rw [List.take_of_length_le (by omega)] at hR1
      go_wp2_with fail
      go_ret
      exact ⟨rfl, hR1, hgr⟩
set_option maxRecDepth 100000 in
set_option maxHeartbeats 1000000 in
theorem rput_far (v : Value) (a : Nat) (A : Option Addr) (n cap : Nat) (w : World) (ha : a < 4294967296) (hn : n < 4611686018427387904) (hin : inR a n = false) :
    Calls Try.prog 41 #[v, .int .i64 (a : Int), .slice A n cap] w fun e w' => e = .returned (.bool false) ∧ w = w' := by
  have kH := fun w => rhas_any a n w ha hn
  simp only [hin] at kH
  go_enter Try.func41, Try.ntmps41
  go_wp2_with (refine (kH _).mono ?_; rintro e w' ⟨rfl, rfl⟩)
  go_ret
  exact ⟨rfl, rfl⟩
theorem rput_any (m : Nat → UInt8) (r mb c a : Nat) (A : Option Addr) (n cap : Nat) (bs : List UInt8) (w : World) (hR : RefP w r mb m c) (ha : a < 4294967296) (hS : SlA w A n cap bs) (hc : c ≤ 900000) (hn : n < 4611686018427387904)
    (hne : ∀ b o s, A = some ⟨b, o, s⟩ → 0 < n → b ≠ mb) :
    Calls Try.prog 41 #[mP r, .int .i64 (a : Int), .slice A n cap] w fun e w' => e = .returned (.bool (inR a bs.length)) ∧ RefP w' r mb (puM m a bs) (c + n) ∧ w.grownBy w' (some mb) := by
  unfold puM
  rw [hS.1]
  cases hi : inR a n with
  | false =>
    refine (rput_far _ a A n cap w ha hn hi).mono ?_
    rintro e w' ⟨rfl, rfl⟩
    exact ⟨rfl, ⟨hR.1, hR.2.more (Nat.le_add_right _ _)⟩, World.grownBy.refl _ _⟩
  | true =>
    rw [if_pos rfl]
    exact rput_any' m r mb c a A n cap bs w hR ha hS hi hc hne
theorem leT_down (f : Nat → Nat) (n i : Nat) (h : i < n) : leT f (n - i) i = f i + 256 * leT f (n - (i + 1)) (i + 1) := by
  rw [show n - i = (n - (i + 1)) + 1 by omega]
  rfl
set_option maxRecDepth 100000 in
set_option maxHeartbeats 1000000 in
theorem rload_wid (v : Value) (a : Int) (n : Int) (w : World) (hn : widB n = false) :
    Calls Try.prog 26 #[v, .int .i64 a, .int .i64 n] w fun e w' => e = .returned (.tuple #[.int .i64 0, .bool false]) ∧ w = w' := by
  have h1 := of_decide_eq_false hn
  have d1 : (n != 1) = true := by simp; omega
  have d2 : (n != 2) = true := by simp; omega
  have d4 : (n != 4) = true := by simp; omega
  clear h1 hn
  go_enter Try.func26, Try.ntmps26
  go_wp2_with fail
  go_ret2
  exact ⟨rfl, rfl⟩
set_option maxRecDepth 100000 in
set_option maxHeartbeats 1000000 in
/-- Load by what Get answers -/
theorem rload_by (v : Value) (a : Int) (n k : Nat) (bs : List UInt8) (ok : Bool) (w : World) (hn : n = 1 ∨ n = 2 ∨ n = 4) (hk : k ≤ 4) (hl : bs.length = k)
    (kG : Calls Try.prog 48 #[v, .int .i64 a, .int .i64 (n : Int)] w fun e w' => (∃ A c, e = .returned (.tuple #[.slice A k c, .bool ok]) ∧ SlA w' A k c bs) ∧ Below w.heap.size w w') :
    Calls Try.prog 26 #[v, .int .i64 a, .int .i64 (n : Int)] w fun e w' => e = .returned (.tuple #[.int .i64 ((leT (bsN bs) k 0 : Nat) : Int), .bool ok]) ∧ Below w.heap.size w w' := by
  have HL := Lib.hid (leT_lt (bsN_lt bs))
  have hk0 : 0 ≤ (k : Int) := by omega
  rcases hn with rfl | rfl | rfl
  · replace kG : Calls Try.prog 48 #[v, .int .i64 a, .int .i64 1] w _ := kG
    show Calls Try.prog _ #[v, .int .i64 a, .int .i64 1] w _
    go_enter Try.func26, Try.ntmps26
    go_wp2_with (refine kG.mono ?_; rintro e w1 ⟨⟨A, c, rfl, hS⟩, hb⟩)
    clear kG
    go_loopw [10, 11] (fun xt ct wr => ∃ i : Nat, i ≤ k ∧ ct = .int .i64 ((i : Int) - 1) ∧ xt = .int .i64 ((leT (bsN bs) (k - i) i : Nat) : Int) ∧ wr = w1) (fun _ ct _ => ((intOf ct) + 1).toNat)
    case atStart => exact ⟨k, Nat.le_refl _, rfl, by rw [Nat.sub_self]; rfl, rfl⟩
    case round =>
      obtain ⟨i, hi, rfl, rfl, rfl⟩ := hrel
      by_cases hlt : 0 < i
      · obtain ⟨b, o, rfl, hbl, hcell⟩ := hS.2.2 (by omega)
        obtain ⟨q, rfl⟩ : ∃ q, i = q + 1 := ⟨i - 1, by omega⟩
        have hci := hcell q (by omega)
        have hx := HL.out (k - (q + 1)) (q + 1)
        have hx2 : leT (bsN bs) (k - (q + 1)) (q + 1) < 16777216 := Nat.lt_of_lt_of_le hx (show 256 ^ (k - (q + 1)) ≤ 256 ^ 3 from Nat.pow_le_pow_right (by decide) (by omega))
        have hd := leT_down (bsN bs) k q (by omega)
        have hb8 : by8 (bs.getD q 0) = .int .u8 ((bsN bs q : Nat) : Int) := rfl
        have hbl8 := bsN_lt bs q
        rw [hb8] at hci
        have HD := Lib.hid hd
        generalize leT (bsN bs) (k - (q + 1)) (q + 1) = x0 at *
        generalize bsN bs q = d0 at *
        have e1 : ((q + 1 : Nat) : Int) - 1 = (q : Int) := by omega
        have dq : (q : Int) < (k : Int) := by omega
        rw [e1]
        clear hd hb8 hx hcell e1 hlt
        go_wp2_with fail
        go_roundw
        case rel =>
          refine ⟨q, by omega, by go_num, ?_, trivial⟩
          rw [HD.out]
          go_num
        case measure => simp [intOf] <;> omega
      · obtain rfl : i = 0 := by omega
        clear hlt
        go_wp2_with fail
        go_ret2
        exact ⟨rfl, hb⟩
  · replace kG : Calls Try.prog 48 #[v, .int .i64 a, .int .i64 2] w _ := kG
    show Calls Try.prog _ #[v, .int .i64 a, .int .i64 2] w _
    go_enter Try.func26, Try.ntmps26
    go_wp2_with (refine kG.mono ?_; rintro e w1 ⟨⟨A, c, rfl, hS⟩, hb⟩)
    clear kG
    go_loopw [10, 11] (fun xt ct wr => ∃ i : Nat, i ≤ k ∧ ct = .int .i64 ((i : Int) - 1) ∧ xt = .int .i64 ((leT (bsN bs) (k - i) i : Nat) : Int) ∧ wr = w1) (fun _ ct _ => ((intOf ct) + 1).toNat)
    case atStart => exact ⟨k, Nat.le_refl _, rfl, by rw [Nat.sub_self]; rfl, rfl⟩
    case round =>
      obtain ⟨i, hi, rfl, rfl, rfl⟩ := hrel
      by_cases hlt : 0 < i
      · obtain ⟨b, o, rfl, hbl, hcell⟩ := hS.2.2 (by omega)
        obtain ⟨q, rfl⟩ : ∃ q, i = q + 1 := ⟨i - 1, by omega⟩
        have hci := hcell q (by omega)
        have hx := HL.out (k - (q + 1)) (q + 1)
        have hx2 : leT (bsN bs) (k - (q + 1)) (q + 1) < 16777216 := Nat.lt_of_lt_of_le hx (show 256 ^ (k - (q + 1)) ≤ 256 ^ 3 from Nat.pow_le_pow_right (by decide) (by omega))
        have hd := leT_down (bsN bs) k q (by omega)
        have hb8 : by8 (bs.getD q 0) = .int .u8 ((bsN bs q : Nat) : Int) := rfl
        have hbl8 := bsN_lt bs q
        rw [hb8] at hci
        have HD := Lib.hid hd
        generalize leT (bsN bs) (k - (q + 1)) (q + 1) = x0 at *
        generalize bsN bs q = d0 at *
        have e1 : ((q + 1 : Nat) : Int) - 1 = (q : Int) := by omega
        have dq : (q : Int) < (k : Int) := by omega
        rw [e1]
        clear hd hb8 hx hcell e1 hlt
        go_wp2_with fail
        go_roundw
        case rel =>
          refine ⟨q, by omega, by go_num, ?_, trivial⟩
          rw [HD.out]
          go_num
        case measure => simp [intOf] <;> omega
      · obtain rfl : i = 0 := by omega
        clear hlt
        go_wp2_with fail
        go_ret2
        exact ⟨rfl, hb⟩
  · replace kG : Calls Try.prog 48 #[v, .int .i64 a, .int .i64 4] w _ := kG
    show Calls Try.prog _ #[v, .int .i64 a, .int .i64 4] w _
    go_enter Try.func26, Try.ntmps26
    go_wp2_with (refine kG.mono ?_; rintro e w1 ⟨⟨A, c, rfl, hS⟩, hb⟩)
    clear kG
    go_loopw [10, 11] (fun xt ct wr => ∃ i : Nat, i ≤ k ∧ ct = .int .i64 ((i : Int) - 1) ∧ xt = .int .i64 ((leT (bsN bs) (k - i) i : Nat) : Int) ∧ wr = w1) (fun _ ct _ => ((intOf ct) + 1).toNat)
    case atStart => exact ⟨k, Nat.le_refl _, rfl, by rw [Nat.sub_self]; rfl, rfl⟩
    case round =>
      obtain ⟨i, hi, rfl, rfl, rfl⟩ := hrel
      by_cases hlt : 0 < i
      · obtain ⟨b, o, rfl, hbl, hcell⟩ := hS.2.2 (by omega)
        obtain ⟨q, rfl⟩ : ∃ q, i = q + 1 := ⟨i - 1, by omega⟩
        have hci := hcell q (by omega)
        have hx := HL.out (k - (q + 1)) (q + 1)
        have hx2 : leT (bsN bs) (k - (q + 1)) (q + 1) < 16777216 := Nat.lt_of_lt_of_le hx (show 256 ^ (k - (q + 1)) ≤ 256 ^ 3 from Nat.pow_le_pow_right (by decide) (by omega))
        have hd := leT_down (bsN bs) k q (by omega)
        have hb8 : by8 (bs.getD q 0) = .int .u8 ((bsN bs q : Nat) : Int) := rfl
        have hbl8 := bsN_lt bs q
        rw [hb8] at hci
        have HD := Lib.hid hd
        generalize leT (bsN bs) (k - (q + 1)) (q + 1) = x0 at *
        generalize bsN bs q = d0 at *
        have e1 : ((q + 1 : Nat) : Int) - 1 = (q : Int) := by omega
        have dq : (q : Int) < (k : Int) := by omega
        rw [e1]
        clear hd hb8 hx hcell e1 hlt
        go_wp2_with fail
        go_roundw
        case rel =>
          refine ⟨q, by omega, by go_num, ?_, trivial⟩
          rw [HD.out]
          go_num
        case measure => simp [intOf] <;> omega
      · obtain rfl : i = 0 := by omega
        clear hlt
        go_wp2_with fail
        go_ret2
        exact ⟨rfl, hb⟩
theorem bsN_cut (m : Nat → UInt8) (k n : Nat) : leT (bsN (cut m k n)) n 0 = ldN m n k := by
  have := nm_cut m k n
  unfold nm at this
  rwa [if_pos (by rw [cut_len]; omega)] at this
theorem rload_any (m : Nat → UInt8) (r mb c a : Nat) (n : Int) (w : World) (hR : RefP w r mb m c) (ha : a < 4294967296) :
    Calls Try.prog 26 #[mP r, .int .i64 (a : Int), .int .i64 n] w fun e w' => e = .returned (.tuple #[.int .i64 ((ldV m a n : Nat) : Int), .bool (stB a n)]) ∧ Below w.heap.size w w' := by
  unfold ldV
  cases hw : widB n with
  | false =>
    rw [show stB a n = false by unfold stB; rw [hw]; rfl]
    refine (rload_wid _ _ n w hw).mono ?_
    rintro e w' ⟨rfl, rfl⟩
    exact ⟨rfl, Below.refl _ _⟩
  | true =>
    obtain ⟨k, rfl, hk⟩ := wid_nat hw
    cases hi : inR a k with
    | false =>
      rw [show stB a (k : Int) = false by unfold stB; rw [hw, Int.toNat_natCast, hi]; rfl]
      refine (rload_by (mP r) a k 0 [] false w hk (by decide) rfl ((rget_far (mP r) a k w ha (by omega) hi).mono ?_))
      rintro e w' ⟨rfl, rfl⟩
      exact ⟨⟨none, 0, rfl, nil_slA _⟩, Below.refl _ _⟩
    | true =>
      rw [show stB a (k : Int) = true by unfold stB; rw [hw, Int.toNat_natCast, hi]; rfl, if_pos rfl, Int.toNat_natCast, ← bsN_cut]
      refine rload_by (mP r) a k k (cut m (a - 2147483648) k) true w hk (by omega) (cut_len _ _ _) ((rget_any m r mb c a k w hR ha (by omega) hi).mono ?_)
      rintro e w' ⟨⟨v, rfl, hown⟩, hb⟩
      obtain ⟨A, c', rfl⟩ := own_form hown
      exact ⟨⟨A, c', rfl, (own_slA hown).1⟩, hb⟩
set_option maxRecDepth 100000 in
set_option maxHeartbeats 1000000 in
theorem rstore_wid (v : Value) (a x : Int) (n : Int) (w : World) (hn : widB n = false) :
    Calls Try.prog 22 #[v, .int .i64 a, .int .i64 n, .int .i64 x] w fun e w' => e = .returned (.bool false) ∧ w = w' := by
  have h1 := of_decide_eq_false hn
  have d1 : (n != 1) = true := by simp; omega
  have d2 : (n != 2) = true := by simp; omega
  have d4 : (n != 4) = true := by simp; omega
  clear h1 hn
  go_enter Try.func22, Try.ntmps22
  go_wp2_with fail
  go_ret
  exact ⟨rfl, rfl⟩
set_option maxRecDepth 100000 in
set_option maxHeartbeats 1000000 in
/-- Store by what Put answers -/
theorem rstore_by (v : Value) (a x : Nat) (n : Nat) (b : Bool) (w : World) (hn : n = 1 ∨ n = 2 ∨ n = 4) (_hx : x < 4294967296) (Q : World → World → Prop)
    (kP : ∀ (A : Option Addr) (c : Nat) (w1 : World), Below w.heap.size w w1 → SlA w1 A n c (leB n x) → (∀ b o s, A = some ⟨b, o, s⟩ → 0 < n → w.heap.size ≤ b) → Calls Try.prog 41 #[v, .int .i64 (a : Int), .slice A n c] w1 fun e w' => e = .returned (.bool b) ∧ Q w1 w') :
    Calls Try.prog 22 #[v, .int .i64 (a : Int), .int .i64 (n : Int), .int .i64 (x : Int)] w fun e w' => e = .returned (.bool b) ∧ ∃ w1, Below w.heap.size w w1 ∧ Q w1 w' := by
  rcases hn with rfl | rfl | rfl
  · show Calls Try.prog _ #[v, .int .i64 (a : Int), .int .i64 1, .int .i64 (x : Int)] w _
    go_enter Try.func22, Try.ntmps22
    go_wp2_with fail
    go_loopw [9, 10] (fun va ct wr => ∃ i : Nat, i ≤ 1 ∧ ct = .int .i64 (i : Int) ∧ wr.ownsRow w.heap.size 5 1 va i ((leB i x).map by8) ∧ Below w.heap.size w wr) (fun _ ct _ => (1 - (intOf ct)).toNat)
    case atStart => exact ⟨0, Nat.zero_le _, rfl, World.ownsRow_nil _ _ _ _, Below.refl _ _⟩
    case round =>
      obtain ⟨i, hi, rfl, hown, hb⟩ := hrel
      by_cases hlt : i < 1
      · have di : (i : Int) < 1 := by omega
        have hws := hb.size
        have HB := Lib.hid hb
        have HOWN := Lib.hid hown
        have HBT := Lib.hid (byte_at x i)
        clear hown hb
        go_wp2_with (
          refine wp_append_byte rfl _ _ rfl w.heap.size _ i _ rfl (own_after HOWN.out ((Below.refl _ _).alloc (Nat.le_refl _) _)) wr.heap.size rfl (UInt8.ofNat (x / 256 ^ i)) (((Has.new _ _ _).cell 0).trans (congrArg some HBT.out)) (by omega) (by simp; omega) ?_
          intro v' w' hown' hgr')
        go_roundw
        case rel =>
          refine ⟨i + 1, hlt, by go_num, ?_, ?_⟩
          · rw [leB_snoc, List.map_append]
            exact hown'
          · have hb1 : Below w.heap.size w (wr.alloc (.cells #[.int .u8 ((x : Int) / 2 ^ (8 * i) % 256)] 5)) := HB.out.alloc hws _
            exact below_own hb1 (own_after HOWN.out ((Below.refl _ _).alloc (Nat.le_refl _) _)) (Nat.le_refl _) hb1.size hgr'
        case measure => simp [intOf] <;> omega
      · obtain rfl : i = 1 := by omega
        obtain ⟨A, c, rfl⟩ := own_form hown
        have hS := (own_slA hown).1
        have kP1 := kP A c wr hb hS (fun b o s e _ => by subst e; exact (own_base hown).1)
        have HB := Lib.hid hb
        clear hown hS hb kP
        go_wp2_with (refine kP1.mono ?_; rintro e w2 ⟨rfl, hQ⟩)
        go_ret
        exact ⟨rfl, wr, HB.out, hQ⟩
  · show Calls Try.prog _ #[v, .int .i64 (a : Int), .int .i64 2, .int .i64 (x : Int)] w _
    go_enter Try.func22, Try.ntmps22
    go_wp2_with fail
    go_loopw [9, 10] (fun va ct wr => ∃ i : Nat, i ≤ 2 ∧ ct = .int .i64 (i : Int) ∧ wr.ownsRow w.heap.size 5 1 va i ((leB i x).map by8) ∧ Below w.heap.size w wr) (fun _ ct _ => (2 - (intOf ct)).toNat)
    case atStart => exact ⟨0, Nat.zero_le _, rfl, World.ownsRow_nil _ _ _ _, Below.refl _ _⟩
    case round =>
      obtain ⟨i, hi, rfl, hown, hb⟩ := hrel
      by_cases hlt : i < 2
      · have di : (i : Int) < 2 := by omega
        have hws := hb.size
        have HB := Lib.hid hb
        have HOWN := Lib.hid hown
        have HBT := Lib.hid (byte_at x i)
        clear hown hb
        go_wp2_with (
          refine wp_append_byte rfl _ _ rfl w.heap.size _ i _ rfl (own_after HOWN.out ((Below.refl _ _).alloc (Nat.le_refl _) _)) wr.heap.size rfl (UInt8.ofNat (x / 256 ^ i)) (((Has.new _ _ _).cell 0).trans (congrArg some HBT.out)) (by omega) (by simp; omega) ?_
          intro v' w' hown' hgr')
        go_roundw
        case rel =>
          refine ⟨i + 1, hlt, by go_num, ?_, ?_⟩
          · rw [leB_snoc, List.map_append]
            exact hown'
          · have hb1 : Below w.heap.size w (wr.alloc (.cells #[.int .u8 ((x : Int) / 2 ^ (8 * i) % 256)] 5)) := HB.out.alloc hws _
            exact below_own hb1 (own_after HOWN.out ((Below.refl _ _).alloc (Nat.le_refl _) _)) (Nat.le_refl _) hb1.size hgr'
        case measure => simp [intOf] <;> omega
      · obtain rfl : i = 2 := by omega
        obtain ⟨A, c, rfl⟩ := own_form hown
        have hS := (own_slA hown).1
        have kP1 := kP A c wr hb hS (fun b o s e _ => by subst e; exact (own_base hown).1)
        have HB := Lib.hid hb
        clear hown hS hb kP
        go_wp2_with (refine kP1.mono ?_; rintro e w2 ⟨rfl, hQ⟩)
        go_ret
        exact ⟨rfl, wr, HB.out, hQ⟩
  · show Calls Try.prog _ #[v, .int .i64 (a : Int), .int .i64 4, .int .i64 (x : Int)] w _
    go_enter Try.func22, Try.ntmps22
    go_wp2_with fail
    go_loopw [9, 10] (fun va ct wr => ∃ i : Nat, i ≤ 4 ∧ ct = .int .i64 (i : Int) ∧ wr.ownsRow w.heap.size 5 1 va i ((leB i x).map by8) ∧ Below w.heap.size w wr) (fun _ ct _ => (4 - (intOf ct)).toNat)
    case atStart => exact ⟨0, Nat.zero_le _, rfl, World.ownsRow_nil _ _ _ _, Below.refl _ _⟩
    case round =>
      obtain ⟨i, hi, rfl, hown, hb⟩ := hrel
      by_cases hlt : i < 4
      · have di : (i : Int) < 4 := by omega
        have hws := hb.size
        have HB := Lib.hid hb
        have HOWN := Lib.hid hown
        have HBT := Lib.hid (byte_at x i)
        clear hown hb
        go_wp2_with (
          refine wp_append_byte rfl _ _ rfl w.heap.size _ i _ rfl (own_after HOWN.out ((Below.refl _ _).alloc (Nat.le_refl _) _)) wr.heap.size rfl (UInt8.ofNat (x / 256 ^ i)) (((Has.new _ _ _).cell 0).trans (congrArg some HBT.out)) (by omega) (by simp; omega) ?_
          intro v' w' hown' hgr')
        go_roundw
        case rel =>
          refine ⟨i + 1, hlt, by go_num, ?_, ?_⟩
          · rw [leB_snoc, List.map_append]
            exact hown'
          · have hb1 : Below w.heap.size w (wr.alloc (.cells #[.int .u8 ((x : Int) / 2 ^ (8 * i) % 256)] 5)) := HB.out.alloc hws _
            exact below_own hb1 (own_after HOWN.out ((Below.refl _ _).alloc (Nat.le_refl _) _)) (Nat.le_refl _) hb1.size hgr'
        case measure => simp [intOf] <;> omega
      · obtain rfl : i = 4 := by omega
        obtain ⟨A, c, rfl⟩ := own_form hown
        have hS := (own_slA hown).1
        have kP1 := kP A c wr hb hS (fun b o s e _ => by subst e; exact (own_base hown).1)
        have HB := Lib.hid hb
        clear hown hS hb kP
        go_wp2_with (refine kP1.mono ?_; rintro e w2 ⟨rfl, hQ⟩)
        go_ret
        exact ⟨rfl, wr, HB.out, hQ⟩
theorem rstore_any (m : Nat → UInt8) (r mb c a x : Nat) (n : Int) (w : World) (hR : RefP w r mb m c) (ha : a < 4294967296) (hx : x < 4294967296) (hc : c ≤ 900000) :
    Calls Try.prog 22 #[mP r, .int .i64 (a : Int), .int .i64 n, .int .i64 (x : Int)] w fun e w' => e = .returned (.bool (stB a n)) ∧ RefP w' r mb (stM m a n x) (c + 4) ∧ w.grownBy w' (some mb) := by
  unfold stM
  cases hw : widB n with
  | false =>
    rw [show stB a n = false by unfold stB; rw [hw]; rfl]
    refine (rstore_wid _ _ _ n w hw).mono ?_
    rintro e w' ⟨rfl, rfl⟩
    exact ⟨rfl, ⟨hR.1, hR.2.more (Nat.le_add_right _ _)⟩, World.grownBy.refl _ _⟩
  | true =>
    obtain ⟨k, rfl, hk⟩ := wid_nat hw
    have hmb := hR.2.lt
    cases hi : inR a k with
    | false =>
      rw [show stB a (k : Int) = false by unfold stB; rw [hw, Int.toNat_natCast, hi]; rfl]
      refine (rstore_by (mP r) a x k false w hk hx (fun w1 w' => w1 = w') fun A c w1 hb hS _ => rput_far _ a A k c w1 ha (by omega) hi).mono ?_
      rintro e w' ⟨rfl, w1, hb, rfl⟩
      exact ⟨rfl, ⟨hR.1.after hb, (hR.2.after hb).more (Nat.le_add_right _ _)⟩, only_below hb _⟩
    | true =>
      rw [show stB a (k : Int) = true by unfold stB; rw [hw, Int.toNat_natCast, hi]; rfl, if_pos rfl, Int.toNat_natCast]
      refine (rstore_by (mP r) a x k true w hk hx (fun w1 w' => RefP w' r mb (putM m (a - 2147483648) (leB k x)) (c + k) ∧ w1.grownBy w' (some mb)) fun A cc w1 hb hS hA => rput_any' m r mb c a A k cc (leB k x) w1 (hR.after hb) ha hS hi hc (fun b o s e h0 => by have := hA b o s e h0; omega)).mono ?_
      rintro e w' ⟨rfl, w1, hb, hR2, hgr⟩
      exact ⟨rfl, ⟨hR2.1, hR2.2.more (by omega)⟩, only_trans (only_below hb _) hgr⟩
end Go.Proofs.Ytegaiphhoinilaa
