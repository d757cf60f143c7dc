import Derived.Test.YtopjdckfphhnnaaDoorRefM
import Derived.Test.YtopjdckfphhnnaaDoorMem2
import Derived.WalkSpells
import Derived.WalkLawsBesides
import Derived.Outline
import Derived.Deep.QuietTactic
import Derived.BigQuiet
import Derived.BigRegion
import Derived.Lib.Hide
import Derived.IntWalk
namespace Go.Proofs.YtopjdckfphhnnaaDoor
open Go.RowKit
attribute [local go_sem] u64_add_w u64_mul_w u64_mod_w u64_tmod_w u64_div_w u64_tdiv_w u64_wrap_w

def qd (x : UInt64) : Value := .int .u64 (x.toNat : Int)
def zeroQ : Nat → Value := fun _ => .int .u64 0
theorem zeros8q : (#[Value.int IntKind.u64 0, Value.int IntKind.u64 0, Value.int IntKind.u64 0, Value.int IntKind.u64 0, Value.int IntKind.u64 0, Value.int IntKind.u64 0, Value.int IntKind.u64 0, Value.int IntKind.u64 0] : Array Value) = tab 8 zeroQ := by kernel_rfl
attribute [local go_sem] zeros8q

def tq (n : Nat) (f : Nat → UInt64) : Array Value := tab n fun j => qd (f j)
theorem tq_at {w : World} {g n : Nat} {t : TypeId} {f : Nat → UInt64} (h : Has w g t (tq n f)) (i : Nat) (hi : i < n) : w.cell? ⟨g, i, none⟩ = some (.int .u64 ((f i).toNat : Int)) := h.cellTab i hi
theorem tq_set (n : Nat) (f : Nat → UInt64) (i : Nat) (v : UInt64) : (tq n f).setIfInBounds i (qd v) = tq n (upd f i v) := by
  unfold tq
  rw [tab_set]
  apply tab_ext
  intro j _
  unfold upd
  by_cases h : j = i <;> simp [h]
/-- the first m digits are t's, the others r's -/
def mixD (t r : Nat → UInt64) (m j : Nat) : UInt64 := if j < m then t j else r j
theorem mixD_set (t r : Nat → UInt64) (m : Nat) : tq 6 (upd (mixD t r m) m (t m)) = tq 6 (mixD t r (m + 1)) := by
  unfold tq
  apply tab_ext
  intro j _
  unfold upd mixD
  by_cases h : j = m
  · subst h; simp
  · rw [if_neg h]
    by_cases h2 : j < m
    · rw [if_pos h2, if_pos (by omega)]
    · rw [if_neg h2, if_neg (by omega)]
theorem mixD_zero (t r : Nat → UInt64) : tq 6 (mixD t r 0) = tq 6 r := by
  unfold tq; apply tab_ext; intro j _; simp [mixD]
theorem mixD_six (t r : Nat → UInt64) : tq 6 (mixD t r 6) = tq 6 t := by
  unfold tq; apply tab_ext; intro j hj; simp [mixD, hj]

set_option maxRecDepth 100000 in
set_option maxHeartbeats 2000000 in
theorem above_any (y p : UInt64) (k : Nat) (w : World) (hk : k ≤ 3) :
    Calls Tryd.prog 20 #[.int .u64 y.toNat, .int .u64 p.toNat, .int .i64 k] w fun e w' => e = .returned (.bool (aboveM y p k)) ∧ Below w.heap.size w w' := by
  go_enter Tryd.func20, Tryd.ntmps20
  go_wp2_with fail
  go_loopw [9, 10, 11, 12, 13, 14] (fun ci _ _ _ _ _ wr => ∃ i : Nat, i ≤ k ∧ ci = .int .i64 i ∧ Has wr w.heap.size 36 (tq 6 (digA y)) ∧ Has wr (w.heap.size + 1) 36 (tq 6 (digR y i)) ∧ Below w.heap.size w wr)
    (fun ci _ _ _ _ _ _ => k - (intOf ci).toNat)
  case atStart => exact ⟨0, by omega, rfl, (Has.new' rfl).alloc _, Has.new' (by simp), ((Below.refl _ _).alloc (Nat.le_refl _) _).alloc (by simp) _⟩
  case round =>
    obtain ⟨i, hi, rfl, hA, hR, hb⟩ := hrel
    by_cases hlt : i < k
    · have hsz := hR.lt
      obtain ⟨R, hRd⟩ : ∃ R, R = digR y i := ⟨_, rfl⟩
      rw [← hRd] at hR
      have HRd := Lib.hid hRd
      clear hRd
      go_wp2_with fail
      have hA1 := hA.alloc (.cells (tab 8 zeroQ) 54)
      have hR1 := hR.alloc (.cells (tab 8 zeroQ) 54)
      have hT1 : Has (wr.alloc (.cells (tab 8 zeroQ) 54)) wr.heap.size 54 (tq 8 (rowsTo R (digA y) 0)) := Has.new' rfl
      have hb1 := hb.alloc (by omega) (.cells (tab 8 zeroQ) 54)
      obtain ⟨gt, hgt⟩ : ∃ gt, gt = wr.heap.size := ⟨_, rfl⟩
      rw [← hgt] at hT1 hsz ⊢
      have hsz2 : w.heap.size + 2 ≤ gt := by omega
      clear hsz
      generalize wr.alloc (.cells (tab 8 zeroQ) 54) = w1 at *
      clear hA hR hb hgt
      go_loopw [11, 12, 13] (fun cj _ _ wr => ∃ j : Nat, j ≤ 5 ∧ cj = .int .i64 j ∧ Has wr w.heap.size 36 (tq 6 (digA y)) ∧ Has wr (w.heap.size + 1) 36 (tq 6 R) ∧ Has wr gt 54 (tq 8 (rowsTo R (digA y) j)) ∧ Below w.heap.size w wr)
        (fun cj _ _ _ => 5 - (intOf cj).toNat)
      case atStart => exact ⟨0, by omega, rfl, hA1, hR1, hT1, hb1⟩
      case round =>
        clear hA1 hR1 hT1 hb1
        obtain ⟨j, hj, rfl, hA, hR, hT, hb⟩ := hrel
        by_cases hlt2 : j < 5
        · have dj : (j : Int) < 5 := by omega
          go_wp2_with fail
          obtain ⟨T, hTd⟩ : ∃ T, T = rowsTo R (digA y) j := ⟨_, rfl⟩
          rw [← hTd] at hT
          have HTd := Lib.hid hTd
          clear hTd
          go_loopw [12, 13] (fun cc cl wr => ∃ l : Nat, l ≤ 2 ∧ cl = .int .i64 l ∧ cc = .int .u64 ((inner R (digA y) j T l).2.toNat : Int) ∧ Has wr w.heap.size 36 (tq 6 (digA y)) ∧ Has wr (w.heap.size + 1) 36 (tq 6 R) ∧
              Has wr gt 54 (tq 8 (inner R (digA y) j T l).1) ∧ Below w.heap.size w wr)
            (fun _ cl _ => 2 - (intOf cl).toNat)
          case atStart => exact ⟨0, by omega, rfl, rfl, hA, hR, hT, hb⟩
          case round =>
            clear hA hR hT hb
            obtain ⟨l, hl, rfl, rfl, hA, hR, hT, hb⟩ := hrel
            by_cases hlt3 : l < 2
            · have dl : (l : Int) < 2 := by omega
              have c1 := tq_at hT (j + l) (by omega)
              have c2 := tq_at hR j (by omega)
              have c3 := tq_at hA l (by omega)
              have dj6 : (j : Int) < 6 := by omega
              have dl6 : (l : Int) < 6 := by omega
              have s1 : IntKind.i64.wrap ((j : Int) + (l : Int)) = (j : Int) + (l : Int) := IntWalk.i64_in _ (by omega)
              have s2 : 0 ≤ (j : Int) + (l : Int) := by omega
              have s3 : (j : Int) + (l : Int) < 8 := by omega
              have s4 : ((j : Int) + (l : Int)).toNat = j + l := by omega
              go_wp2_with fail
              go_quiet (fail)
              replace hA := hA.drewN nq
              replace hR := hR.drewN nq
              replace hT := hT.drewN nq
              replace hb := below_drewN hb nq
              clear c1 c2 c3 s1 s2 s3 s4
              generalize hq : Go.World.drewN _ nq = wr at *
              clear hq
              have c1 := tq_at hT (j + l) (by omega)
              have f1 := hT.free (j + l)
              go_wp2_with fail
              go_roundw
              case rel =>
                refine ⟨l + 1, by omega, by go_num, rfl, hA.far (by simp; omega) _, hR.far (by simp; omega) _, ?_, hb.setCell (by simp; omega) _⟩
                have h := hT.set (j + l) (qd (qmod (qadd (inner R (digA y) j T l).2 (qadd ((inner R (digA y) j T l).1 (j + l)) (qmul (R j) (digA y l))))))
                rw [tq_set] at h
                exact h
              case measure => simp [intOf]; omega
            · have e2 : l = 2 := by omega
              have el : inner R (digA y) j T l = inner R (digA y) j T 2 := by rw [e2]
              have EL := Lib.hid el
              have hT2 : Has wr gt 54 (tq 8 (inner R (digA y) j T 2).1) := by rw [← el]; exact hT
              have c1 := tq_at hT (j + 2) (by omega)
              have f1 := hT.free (j + 2)
              have dl : ¬ (l : Int) < 2 := by omega
              clear e2 el hl
              go_wp2_with fail
              go_roundw
              case rel =>
                refine ⟨j + 1, by omega, by go_num, hA.far (by simp; omega) _, hR.far (by simp; omega) _, ?_, hb.setCell (by simp; omega) _⟩
                have h := hT2.set (j + 2) (qd (qadd ((inner R (digA y) j T 2).1 (j + 2)) (inner R (digA y) j T 2).2))
                rw [tq_set] at h
                have e : rowsTo R (digA y) (j + 1) = row R (digA y) j T := by rw [HTd.out]; rfl
                rw [e, EL.out]
                exact h
              case measure => simp [intOf]; omega
        · have e5 : j = 5 := by omega
          have hT5 : Has wr gt 54 (tq 8 (rowsTo R (digA y) 5)) := by rw [← e5]; exact hT
          have dj : ¬ (j : Int) < 5 := by omega
          clear e5 hj hT
          go_wp2_with fail
          obtain ⟨T, hTd⟩ : ∃ T, T = rowsTo R (digA y) 5 := ⟨_, rfl⟩
          rw [← hTd] at hT5
          have HTd := Lib.hid hTd
          clear hTd
          go_loopw [14] (fun cm wr => ∃ m : Nat, m ≤ 6 ∧ cm = .int .i64 m ∧ Has wr w.heap.size 36 (tq 6 (digA y)) ∧ Has wr (w.heap.size + 1) 36 (tq 6 (mixD T R m)) ∧ Has wr gt 54 (tq 8 T) ∧ Below w.heap.size w wr)
            (fun cm _ => 6 - (intOf cm).toNat)
          case atStart => exact ⟨0, by omega, rfl, hA, by rw [mixD_zero]; exact hR, hT5, hb⟩
          case round =>
            clear hA hR hT5 hb
            obtain ⟨m, hm, rfl, hA, hR, hT, hb⟩ := hrel
            by_cases hlt4 : m < 6
            · have dm : (m : Int) < 6 := by omega
              have dm8 : (m : Int) < 8 := by omega
              have c1 := tq_at hT m (by omega)
              have c2 := tq_at hR m (by omega)
              have f2 := hR.free m
              go_wp2_with fail
              go_roundw
              case rel =>
                refine ⟨m + 1, by omega, by go_num, hA.far (by simp) _, ?_, hT.far (by simp; omega) _, hb.setCell (by simp) _⟩
                have h := hR.set m (qd (T m))
                rw [tq_set, mixD_set] at h
                exact h
              case measure => simp [intOf]; omega
            · have hR6 : Has wr (w.heap.size + 1) 36 (tq 6 (digR y (i + 1))) := by
                have e6 : m = 6 := by omega
                rw [e6, mixD_six, HTd.out, HRd.out] at hR
                exact hR
              have dm : ¬ (m : Int) < 6 := by omega
              clear hm hR hT
              go_wp2_with fail
              go_roundw
              case rel => exact ⟨i + 1, by omega, by go_num, hA, hR6, hb⟩
              case measure => simp [intOf]; omega
    · obtain ⟨r, hr⟩ : ∃ r, r = digR y k := ⟨_, rfl⟩
      have hRk : Has wr (w.heap.size + 1) 36 (tq 6 r) := by rw [hr, show k = i by omega]; exact hR
      have hav : aboveM y p k = if someHi r k 5 then true else if (r k).toNat = p.toNat then someLo r k 0 else decide (p.toNat < (r k).toNat) := by rw [hr]; rfl
      have Hav := Lib.hid hav
      have di : ¬ (i : Int) < (k : Int) := by omega
      clear hr hav hR hA hi hlt
      go_wp2_with fail
      have hk5 : (k : Int) ≤ 5 := by omega
      go_loop [15] (fun cj => ∃ j : Nat, k ≤ j ∧ j ≤ 5 ∧ cj = .int .i64 j ∧ Hid (someHi r k 5 = someHi r k j)) (fun cj => (intOf cj).toNat)
      case atStart => exact ⟨5, by omega, by omega, rfl, Lib.hid rfl⟩
      case round =>
        obtain ⟨j, hkj, hj5, rfl, HS⟩ := hrel
        by_cases hlt5 : k < j
        · obtain ⟨j, rfl⟩ : ∃ i, j = i + 1 := ⟨j - 1, by omega⟩
          have c1 := tq_at hRk (j + 1) (by omega)
          have hs : someHi r k (j + 1) = if 0 < (r (j + 1)).toNat then true else someHi r k j := by
            show (if k < j + 1 then _ else false) = _
            rw [if_pos hlt5]
          by_cases h0 : 0 < (r (j + 1)).toNat
          · have hfin : aboveM y p k = true := by rw [Hav.out, HS.out, hs, if_pos h0, if_pos rfl]
            have Hfin := Lib.hid hfin
            have d0 : (0 : Int) < ((r (j + 1)).toNat : Int) := by omega
            have d1 : (k : Int) < ((j + 1 : Nat) : Int) := by omega
            clear hs hfin
            go_wp2_with fail
            go_ret
            exact ⟨by rw [Hfin.out]; rfl, hb⟩
          · have HS2 : Hid (someHi r k 5 = someHi r k j) := Lib.hid (by rw [HS.out, hs, if_neg h0])
            have d0 : ¬ (0 : Int) < ((r (j + 1)).toNat : Int) := by omega
            have d1 : (k : Int) < ((j + 1 : Nat) : Int) := by omega
            clear hs
            go_wp2_with fail
            go_round
            case rel => exact ⟨j, by omega, by omega, by first | rfl | go_num, HS2⟩
            case measure => first | (simp [intOf]; omega) | (simp [intOf])
        · have hs : someHi r k j = false := by
            cases j with
            | zero => rfl
            | succ j => show (if k < j + 1 then _ else false) = _; rw [if_neg hlt5]
          have hav2 : aboveM y p k = if (r k).toNat = p.toNat then someLo r k 0 else decide (p.toNat < (r k).toNat) := by rw [Hav.out, HS.out, hs]; rfl
          have Hav2 := Lib.hid hav2
          have d1 : ¬ (k : Int) < (j : Int) := by omega
          have c1 := tq_at hRk k (by omega)
          have dk6 : (k : Int) < 6 := by omega
          clear hs hav2
          by_cases heq : (r k).toNat = p.toNat
          · have d2 : (((r k).toNat : Int) != (p.toNat : Int)) = false := by simp [heq]
            have hav3 : aboveM y p k = someLo r k 0 := by rw [Hav2.out, if_pos heq]
            have Hav3 := Lib.hid hav3
            clear heq hav3
            go_wp2_with fail
            go_loop [16] (fun cn => ∃ n : Nat, n ≤ k ∧ cn = .int .i64 n ∧ Hid (someLo r k 0 = someLo r (k - n) n)) (fun cn => k - (intOf cn).toNat)
            case atStart => exact ⟨0, by omega, rfl, Lib.hid rfl⟩
            case round =>
              obtain ⟨n, hn, rfl, HL⟩ := hrel
              by_cases hltn : n < k
              · have c2 := tq_at hRk n (by omega)
                obtain ⟨f, hf⟩ : ∃ f, k - n = f + 1 := ⟨k - n - 1, by omega⟩
                have hs : someLo r (k - n) n = if 0 < (r n).toNat then true else someLo r f (n + 1) := by rw [hf]; rfl
                have ef : f = k - (n + 1) := by omega
                have e1 : (n : Int) < (k : Int) := by omega
                have e6 : (n : Int) < 6 := by omega
                by_cases h0 : 0 < (r n).toNat
                · have hfin : aboveM y p k = true := by rw [Hav3.out, HL.out, hs, if_pos h0]
                  have Hfin := Lib.hid hfin
                  have d0 : (0 : Int) < ((r n).toNat : Int) := by omega
                  clear hs hfin hf ef
                  go_wp2_with fail
                  go_ret
                  exact ⟨by rw [Hfin.out]; rfl, hb⟩
                · have HL2 : Hid (someLo r k 0 = someLo r (k - (n + 1)) (n + 1)) := Lib.hid (by rw [HL.out, hs, if_neg h0, ef])
                  have d0 : ¬ (0 : Int) < ((r n).toNat : Int) := by omega
                  clear hs hf ef
                  go_wp2_with fail
                  go_round
                  case rel => exact ⟨n + 1, by omega, by go_num, HL2⟩
                  case measure => simp [intOf]; omega
              · have hfin : aboveM y p k = false := by rw [Hav3.out, HL.out, show k - n = 0 by omega]; rfl
                have Hfin := Lib.hid hfin
                have e1 : ¬ (n : Int) < (k : Int) := by omega
                clear hfin
                go_wp2_with fail
                go_ret
                exact ⟨by rw [Hfin.out]; rfl, hb⟩
          · have d2 : (((r k).toNat : Int) != (p.toNat : Int)) = true := by simp; omega
            have hav3 : aboveM y p k = decide (p.toNat < (r k).toNat) := by rw [Hav2.out, if_neg heq]
            have Hav3 := Lib.hid hav3
            clear heq hav3
            go_wp2_with fail
            go_ret
            exact ⟨by rw [Hav3.out]; rfl, hb⟩

set_option maxRecDepth 100000 in
set_option maxHeartbeats 1000000 in
theorem root_any (p : UInt64) (k : Nat) (w : World) (hk : k ≤ 3) :
    Calls Tryd.prog 17 #[.int .u64 p.toNat, .int .i64 k] w fun e w' => e = .returned (.int .u64 ((rootM p k).toNat : Int)) ∧ Below w.heap.size w w' := by
  go_enter Tryd.func17, Tryd.ntmps17
  go_wp2_with fail
  go_loopw [5, 6, 7] (fun cx cb _ wr => ∃ i : Nat, i ≤ 36 ∧ cb = .int .i64 (35 - (i : Int)) ∧ cx = .int .u64 ((rootTo p k i).toNat : Int) ∧ Below w.heap.size w wr)
    (fun _ cb _ _ => (intOf cb + 1).toNat)
  case atStart => exact ⟨0, by omega, rfl, rfl, Below.refl _ _⟩
  case round =>
    obtain ⟨i, hi, rfl, rfl, hb⟩ := hrel
    by_cases hlt : i < 36
    · obtain ⟨x, hx⟩ : ∃ x, x = rootTo p k i := ⟨_, rfl⟩
      obtain ⟨b, hbd⟩ : ∃ b, b = UInt64.ofNat (2 ^ (35 - i)) := ⟨_, rfl⟩
      have hs : rootTo p k (i + 1) = if aboveM (qadd x b) p k then x else qadd x b := by rw [hx, hbd]; rfl
      have hw : IntKind.u64.wrap ((2 : Int) ^ (35 - i)) = (b.toNat : Int) := by
        have hlt : 2 ^ (35 - i) < 18446744073709551616 := Nat.lt_of_le_of_lt (Nat.pow_le_pow_right (by decide) (show 35 - i ≤ 35 by omega)) (by decide)
        have e : (2 : Int) ^ (35 - i) = ((2 ^ (35 - i) : Nat) : Int) := by simp
        rw [e, hbd, UInt64.toNat_ofNat', Nat.mod_eq_of_lt hlt]
        generalize 2 ^ (35 - i) = v at *
        simp only [IntKind.wrap, IntKind.bits, IntKind.signed]
        simp
        omega
      rw [← hx]
      have Hs := Lib.hid hs
      clear hs hx hbd
      have d0 : (0 : Int) ≤ 35 - (i : Int) := by omega
      have d1 : (i : Int) ≤ 35 := by omega
      go_wp2_with fail
      refine (above_any (qadd x b) p k wr hk).mono ?_
      rintro e w1 ⟨rfl, hb1⟩
      have hb2 := hb.trans (hb1.mono hb.size)
      by_cases ha : aboveM (qadd x b) p k = true
      · have hx2 : rootTo p k (i + 1) = x := by rw [Hs.out, if_pos ha]
        have Hx2 := Lib.hid hx2
        clear hx2
        go_wp2_with fail
        go_roundw
        case rel => exact ⟨i + 1, by omega, by go_num, by rw [Hx2.out], hb2⟩
        case measure => simp [intOf]; omega
      · have ha' : aboveM (qadd x b) p k = false := by simpa using ha
        have hx2 : rootTo p k (i + 1) = qadd x b := by rw [Hs.out, if_neg ha]
        have Hx2 := Lib.hid hx2
        clear hx2 ha
        go_wp2_with fail
        go_roundw
        case rel => exact ⟨i + 1, by omega, by go_num, by rw [Hx2.out], hb2⟩
        case measure => simp [intOf]; omega
    · have e36 : i = 36 := by omega
      have er : rootTo p k i = rootTo p k 36 := by rw [e36]
      have ER := Lib.hid er
      have d0 : ¬ (0 : Int) ≤ 35 - (i : Int) := by omega
      clear e36 er hi
      go_wp2_with fail
      go_ret
      exact ⟨by rw [rootM, ← ER.out]; rfl, hb⟩
theorem right_bits (x : UInt32) (n : Nat) (h2 : n ≤ 31) : (x.toNat / 2 ^ n + x.toNat * 2 ^ (32 - n)) % 4294967296 = (rotr n x).toNat := by
  have hx := x.toNat_lt
  have hp : 2 ^ (32 - n) * 2 ^ n = 4294967296 := by rw [← Nat.pow_add, show 32 - n + n = 32 by omega]
  have hd : x.toNat / 2 ^ n < 2 ^ (32 - n) := by
    rw [Nat.div_lt_iff_lt_mul (Nat.two_pow_pos n), hp]; exact hx
  have hm : x.toNat % 2 ^ n < 2 ^ n := Nat.mod_lt _ (Nat.two_pow_pos n)
  have hq : x.toNat * 2 ^ (32 - n) = 4294967296 * (x.toNat / 2 ^ n) + 2 ^ (32 - n) * (x.toNat % 2 ^ n) := by
    rw [← hp, Nat.mul_assoc, ← Nat.mul_add, Nat.div_add_mod, Nat.mul_comm]
  have hb : 2 ^ (32 - n) * (x.toNat % 2 ^ n) + 2 ^ (32 - n) ≤ 4294967296 := by
    rw [← hp, ← Nat.mul_succ]; exact Nat.mul_le_mul_left _ hm
  have e : x.toNat * 2 ^ (32 - n) % 4294967296 = 2 ^ (32 - n) * (x.toNat % 2 ^ n) := by
    rw [hq, Nat.mul_add_mod]; exact Nat.mod_eq_of_lt (by have := Nat.two_pow_pos (32 - n); omega)
  rw [rotr_toNat, e, ← Nat.two_pow_add_eq_or_of_lt hd, hq]
  generalize x.toNat / 2 ^ n = A at *
  generalize 2 ^ (32 - n) * (x.toNat % 2 ^ n) = B at *
  generalize 2 ^ (32 - n) = C at *
  omega
end Go.Proofs.YtopjdckfphhnnaaDoor
