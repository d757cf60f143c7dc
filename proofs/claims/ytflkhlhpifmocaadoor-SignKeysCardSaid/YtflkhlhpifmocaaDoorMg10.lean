/-
The reference of layer 5: the order; a number as bytes.
The reference of layer 5: what its Verify and Key answer, in numbers.
A region that draws its order: operations of which facts of any kind hold, then a tail in one order. Two numbers' bytes, one after the other.
The reference of layer 5: Public, over what its calls answer.
The reference of layer 5: Sign, over what its calls answer.
The reference of layer 5: the key of the secret 1; the signature of "x" by 1 with the number 7.
The laws of layer 5: fit, the reference's own example.
The laws of layer 5: SignDecides and SignKeys.
-/
import Derived.Test.YtflkhlhpifmocaaDoorMg02
import Derived.Test.YtflkhlhpifmocaaDoorMg04
import Derived.Test.YtflkhlhpifmocaaDoorMg06
import Derived.Test.YtflkhlhpifmocaaDoorMg07
import Derived.Test.YtflkhlhpifmocaaDoorMg08
import Derived.Test.YtflkhlhpifmocaaDoorMg09
import Derived.Lib.SlBytesConst
namespace Go.Proofs.YtflkhlhpifmocaaDoor
open Go Go.RowKit

theorem litN : (#[Value.int IntKind.u32 4234356049, Value.int IntKind.u32 4089039554, Value.int IntKind.u32 2803342980, Value.int IntKind.u32 3169254061, Value.int IntKind.u32 4294967295, Value.int IntKind.u32 4294967295, Value.int IntKind.u32 0, Value.int IntKind.u32 4294967295] : Array Value) = nums Ec.ordN := by kernel_rfl
attribute [local go_sem] litN zero16 zero48 one16
set_option maxRecDepth 100000 in
set_option maxHeartbeats 4000000 in
theorem refN_any (w : World) : Calls Tryd.prog 21 #[] w fun e w' => e = .returned (.agg (d16 Ec.ordN)) ∧ Below w.heap.size w w' := by
  have hR : Has (w.alloc (.cells (d16 0) 37)) w.heap.size 37 (d16 0) := Has.new _ _ _
  have hb0 : Below w.heap.size w (w.alloc (.cells (d16 0) 37)) := (Below.refl _ _).alloc (Nat.le_refl _) _
  have n0 := d16_ne 0
  have cO := fun W => of3_any Ec.ordN W
  go_enter Tryd.func21, Tryd.ntmps21
  go_wp2_with fail
  refine (cO _).mono ?_
  rintro e w1 ⟨rfl, hx⟩
  replace hR := hR.after hx
  replace hb0 := below_trans hb0 hx
  clear hx
  go_wp2_with (first | refine wpList_store_row rfl 37 _ _ rfl (w.heap.size) _ rfl rfl 37 _ hR (info16 _) (by simp only [d16_size]) (tab_oneCell _ _ fun _ => rfl) ?_)
  exact bodyPost_ret (v := .agg (d16 Ec.ordN)) (results_cell_row rfl _ _ w.heap.size 37 _ _ _ rfl (hR.setRow _) Tryd.underlying37 rfl (info16 _)) rfl ⟨rfl, below_setRow hb0 (by omega) _⟩
theorem own_mono {w : World} {base base' : Nat} {e : TypeId} {size : Nat} {v : Value} {n : Nat} {xs : List Value} (h : w.ownsRow base e size v n xs) (hb : base' ≤ base) : w.ownsRow base' e size v n xs :=
  ⟨h.1, h.2.elim .inl fun ⟨g, cap, cur, h1, h2, h3⟩ => .inr ⟨g, cap, cur, h1, Nat.le_trans hb h2, h3⟩⟩
theorem has_grown {w w' : World} {g : Nat} {t : TypeId} {cs : Array Value} {o : Option Nat} (h : Has w g t cs) (k : w.grownBy w' o) (hne : ∀ l, o = some l → g ≠ l) : Has w' g t cs :=
  (k.block g h.lt (fun e => hne g e.symm rfl)).trans h
/-- 32 bytes of a number, the highest first -/
def bytesUpto (x k : Nat) : List UInt8 := (List.range k).map fun j => UInt8.ofNat (byB x j)
theorem bytesUpto_succ (x k : Nat) : bytesUpto x (k + 1) = bytesUpto x k ++ [UInt8.ofNat (byB x k)] := by
  unfold bytesUpto; rw [List.range_succ, List.map_append]; rfl
theorem bytesUpto_end (x : Nat) : bytesUpto x 32 = bytesOf x := rfl
theorem byte_even (x k t : Nat) (h : 31 - k = 2 * t) (_hk : k < 32) : hxd x t % 256 = byB x k := by
  rw [hex_two]; unfold byB; rw [h]
  have : dg 256 x (2 * t) < 256 := Nat.mod_lt _ (by decide)
  omega
theorem byte_odd (x k t : Nat) (h : 31 - k = 2 * t + 1) (_hk : k < 32) : hxd x t / 256 % 256 = byB x k := by
  rw [hex_two]; unfold byB; rw [h]
  have h1 : dg 256 x (2 * t) < 256 := Nat.mod_lt _ (by decide)
  have h2 : dg 256 x (2 * t + 1) < 256 := Nat.mod_lt _ (by decide)
  omega
set_option maxRecDepth 100000 in
set_option maxHeartbeats 2000000 in
theorem bytes5_any (x : Nat) (w : World) : Calls Tryd.prog 33 #[.agg (d16 x)] w fun e w' => (∃ v, e = .returned v ∧ w'.ownsRow w.heap.size 5 1 v 32 ((bytesOf x).map by8)) ∧ Below w.heap.size w w' := by
  have h0 : Has (w.alloc (.cells (d16 x) 37)) w.heap.size 37 (d16 x) := Has.new w _ _
  have hb0 : Below w.heap.size w (w.alloc (.cells (d16 x) 37)) := (Below.refl _ _).alloc (Nat.le_refl _) _
  go_enter Tryd.func33, Tryd.ntmps33
  go_wp2_with fail
  go_loopw [3, 4, 5] (fun v ct _ wr => ∃ k : Nat, k ≤ 32 ∧ ct = .int .i64 k ∧ Has wr w.heap.size 37 (d16 x) ∧ wr.ownsRow (w.heap.size + 1) 5 1 v k ((bytesUpto x k).map by8) ∧ Below w.heap.size w wr) (fun _ ct _ _ => 32 - (intOf ct).toNat)
  case atStart => exact ⟨0, by omega, rfl, h0, World.ownsRow_nil _ _ _ _, hb0⟩
  case round =>
    clear h0 hb0
    obtain ⟨k, hk, rfl, h0, hown, hb⟩ := hrel
    obtain ⟨A3, c3, rfl⟩ := own_form hown
    have hl := h0.lt
    by_cases hlt : k < 32
    · have dk : (k : Int) < 32 := by omega
      rcases (show (31 - k) % 2 = 0 ∨ (31 - k) % 2 = 1 by omega) with hr | hr
      · obtain ⟨t, ht⟩ : ∃ t, 31 - k = 2 * t := ⟨(31 - k) / 2, by omega⟩
        have hqi : (31 : Int) - (k : Int) = ((2 * t : Nat) : Int) := by omega
        have e1 : (((2 * t : Nat) : Int)).tdiv 2 = (t : Int) := by rw [Int.tdiv_eq_ediv_of_nonneg (by omega)]; omega
        have e2 : (((2 * t : Nat) : Int)).tmod 2 = 0 := by rw [Int.tmod_eq_emod_of_nonneg (by omega)]; omega
        have lt16 : t < 16 := by omega
        have lt16i : (t : Int) < 16 := by omega
        have hbv := byte_even x k t ht hlt
        have hby : Value.int IntKind.u8 (((hxd x t : Nat) : Int) % 256) = by8 (UInt8.ofNat (byB x k)) := by
          rw [← hbv]; unfold by8; rw [UInt8.toNat_ofNat']; congr 1; omega
        have HB := Lib.hid hby
        have c0 := d16_at h0 t lt16
        have hS := bytesUpto_succ x k
        have HS := Lib.hid hS
        generalize hqq : 2 * t = q at *
        have HK := Lib.hid hk
        clear hr ht hbv hby hS hqq hk
        go_wp2_with (refine wp_append_byte rfl (.tmp 12) (.tmp 22) rfl (w.heap.size + 1) (.slice A3 k c3) k ((bytesUpto x k).map by8) rfl (hown.alloc _) wr.heap.size rfl (UInt8.ofNat (byB x k)) ?_ ?_ ?_ ?_; exact ((Has.new' (w := wr) (t := 5) (cs := #[Value.int IntKind.u8 (((hxd x t : Nat) : Int) % 256)]) rfl).cell 0).trans (by rw [← HB.out]; rfl); omega; (have hh := hb.size; simp; omega); intro v4 w4 hown4 hg4)
        have hb4 : Below w.heap.size w w4 := (hb.alloc hb.size _).grown hg4 (by have := hb.size; simp; omega) (fun k hk => by have := (hown.lt k hk).1; omega)
        have h4 : Has w4 w.heap.size 37 (d16 x) := has_grown (h0.alloc _) hg4 (fun k hk => by have := (hown.lt k hk).1; omega)
        have hown5 : w4.ownsRow (w.heap.size + 1) 5 1 v4 (k + 1) ((bytesUpto x (k + 1)).map by8) := by
          rw [HS.out, List.map_append]; exact hown4
        clear hown4 hg4 hown hb h0
        go_roundw
        case rel => exact ⟨k + 1, by omega, by go_num, h4, hown5, hb4⟩
        case measure => simp [intOf]; omega
      · obtain ⟨t, ht⟩ : ∃ t, 31 - k = 2 * t + 1 := ⟨(31 - k) / 2, by omega⟩
        have hqi : (31 : Int) - (k : Int) = ((2 * t + 1 : Nat) : Int) := by omega
        have e1 : (((2 * t + 1 : Nat) : Int)).tdiv 2 = (t : Int) := by rw [Int.tdiv_eq_ediv_of_nonneg (by omega)]; omega
        have e2 : (((2 * t + 1 : Nat) : Int)).tmod 2 = 1 := by rw [Int.tmod_eq_emod_of_nonneg (by omega)]; omega
        have lt16 : t < 16 := by omega
        have lt16i : (t : Int) < 16 := by omega
        have hbv := byte_odd x k t ht hlt
        have hby : Value.int IntKind.u8 (((hxd x t : Nat) : Int) / 256 % 256) = by8 (UInt8.ofNat (byB x k)) := by
          rw [← hbv]; unfold by8; rw [UInt8.toNat_ofNat']; congr 1; omega
        have HB := Lib.hid hby
        have c0 := d16_at h0 t lt16
        have hS := bytesUpto_succ x k
        have HS := Lib.hid hS
        generalize hqq : 2 * t + 1 = q at *
        have HK := Lib.hid hk
        clear hr ht hbv hby hS hqq hk
        go_wp2_with (refine wp_append_byte rfl (.tmp 12) (.tmp 22) rfl (w.heap.size + 1) (.slice A3 k c3) k ((bytesUpto x k).map by8) rfl (hown.alloc _) wr.heap.size rfl (UInt8.ofNat (byB x k)) ?_ ?_ ?_ ?_; exact ((Has.new' (w := wr) (t := 5) (cs := #[Value.int IntKind.u8 (((hxd x t : Nat) : Int) / 256 % 256)]) rfl).cell 0).trans (by rw [← HB.out]; rfl); omega; (have hh := hb.size; simp; omega); intro v4 w4 hown4 hg4)
        have hb4 : Below w.heap.size w w4 := (hb.alloc hb.size _).grown hg4 (by have := hb.size; simp; omega) (fun k hk => by have := (hown.lt k hk).1; omega)
        have h4 : Has w4 w.heap.size 37 (d16 x) := has_grown (h0.alloc _) hg4 (fun k hk => by have := (hown.lt k hk).1; omega)
        have hown5 : w4.ownsRow (w.heap.size + 1) 5 1 v4 (k + 1) ((bytesUpto x (k + 1)).map by8) := by
          rw [HS.out, List.map_append]; exact hown4
        clear hown4 hg4 hown hb h0
        go_roundw
        case rel => exact ⟨k + 1, by omega, by go_num, h4, hown5, hb4⟩
        case measure => simp [intOf]; omega
    · have ek : k = 32 := by omega
      have dk : ¬ (k : Int) < 32 := by omega
      rw [ek, bytesUpto_end] at hown
      clear hk hlt
      go_wp2_with fail
      go_ret
      exact ⟨⟨_, rfl, own_mono hown (Nat.le_succ _)⟩, hb⟩
end Go.Proofs.YtflkhlhpifmocaaDoor
namespace Go.Proofs.YtflkhlhpifmocaaDoor
open Go.RowKit

theorem fldN : FldOK Ec.ordN := by refine ⟨?_, ?_, ?_, ?_, ?_⟩ <;> decide +kernel
theorem fldPP : FldOK Ec.pp := by refine ⟨?_, ?_, ?_, ?_, ?_⟩ <;> decide +kernel
theorem refPP_any (w : World) : Calls Tryd.prog 26 #[] w fun e w' => e = .returned (.agg (d16 Ec.pp)) ∧ Below w.heap.size w w' := by
  have k := refP_any w
  rw [refP_eq] at k
  exact k
theorem cells5 {sb : List UInt8} {A : Option Addr} {c : Nat} {w : World} (h : SlA w A 64 c sb) : ∃ b o, A = some ⟨b, o, none⟩ ∧ b < w.heap.size ∧ 64 ≤ c ∧
    (∀ j, j < 32 → w.cell? ⟨b, o + j, none⟩ = some (.int .u8 ((byB (numAt sb 0) j : Nat) : Int))) ∧ (∀ j, j < 32 → w.cell? ⟨b, o + 32 + j, none⟩ = some (.int .u8 ((byB (numAt sb 32) j : Nat) : Int))) := by
  obtain ⟨hl, hc, h1⟩ := h
  obtain ⟨b, o, rfl, hlt, hcell⟩ := h1 (by omega)
  refine ⟨b, o, rfl, hlt, hc, fun j hj => ?_, fun j hj => ?_⟩
  · rw [hcell j (by omega), numAt_byte _ _ _ hj, Nat.zero_add]
    rfl
  · rw [Nat.add_assoc, hcell (32 + j) (by omega), numAt_byte _ _ _ hj]
    rfl
theorem rkey_good (kb : List UInt8) (A : Option Addr) (n c : Nat) (w : World) (h : SlA w A n c kb) (hk : KeyB kb) : Calls Tryd.prog 9 #[.slice A n c] w fun e w' => e = .returned (.tuple #[.agg (ptC (numAt kb 0) (numAt kb 32) 1), .bool true]) ∧ Below w.heap.size w w' := by
  obtain rfl : n = 64 := by rw [← h.1]; exact hk.1
  obtain ⟨b, o, rfl, hlt, hc, h1, h2⟩ := cells5 h
  obtain ⟨r, hr, kO⟩ := on_ex (numAt kb 0) (numAt kb 32) Ec.pp fldPP rfl hk.2.1 hk.2.2.1
  have hrt : r = true := hr.2 hk.2.2.2
  subst hrt
  exact key5_both (numAt kb 0) (numAt kb 32) b o c Ec.pp w (numAt_lt _ _) (numAt_lt _ _) fldPP.2.1 hlt hc h1 h2 refPP_any fldPP.1 (decide_eq_true hk.2.1) (decide_eq_true hk.2.2.1) true kO
theorem rkey_bad (kb : List UInt8) (A : Option Addr) (n c : Nat) (w : World) (h : SlA w A n c kb) (hk : ¬ KeyB kb) : Calls Tryd.prog 9 #[.slice A n c] w fun e w' => e = .returned (.tuple #[.agg (ptC 0 0 0), .bool false]) ∧ Below w.heap.size w w' := by
  by_cases hn : n = 64
  · subst hn
    have hl := h.1
    obtain ⟨b, o, rfl, hlt, hc, h1, h2⟩ := cells5 h
    by_cases hX : numAt kb 0 < Ec.pp
    · by_cases hY : numAt kb 32 < Ec.pp
      · obtain ⟨r, hr, kO⟩ := on_ex (numAt kb 0) (numAt kb 32) Ec.pp fldPP rfl hX hY
        have hrt : r = false := by
          cases r with
          | false => rfl
          | true => exact absurd ⟨hl, hX, hY, hr.1 rfl⟩ hk
        subst hrt
        exact key5_both (numAt kb 0) (numAt kb 32) b o c Ec.pp w (numAt_lt _ _) (numAt_lt _ _) fldPP.2.1 hlt hc h1 h2 refPP_any fldPP.1 (decide_eq_true hX) (decide_eq_true hY) false kO
      · exact key5_badY (numAt kb 0) (numAt kb 32) b o c Ec.pp w (numAt_lt _ _) (numAt_lt _ _) fldPP.2.1 hlt hc h1 h2 refPP_any fldPP.1 (decide_eq_true hX) (decide_eq_false hY)
    · exact key5_badX (numAt kb 0) (numAt kb 32) b o c Ec.pp w (numAt_lt _ _) (numAt_lt _ _) fldPP.2.1 hlt hc h1 h2 refPP_any fldPP.1 (decide_eq_false hX)
  · exact key5_len A n c hn w
theorem T3_on_of (P : Ec.Pnt) (m n : Nat) (hm : FldOK m) (hmp : m = Ec.pp) (t : T3) (ht : t.ok m) (hi : t.is P) (hP : Ec.OnP P) (hn : n < big) : (sumS m n t 256).ok m ∧ (sumS m n t 256).is (Ec.smul n P) := by
  refine ⟨sumS_ok hm hmp ht 256, ?_⟩
  have k := sumS_is (n := n) hm hmp ht hP hi 256
  rw [Nat.mod_eq_of_lt (show n < 2 ^ 256 from hn)] at k
  exact k
theorem wN_of (s : Nat) : s ^ (Ec.ordN - 2) % Ec.ordN = wN s := by unfold wN; exact Eq.refl _
theorem rinv_is (s f : Nat) (W : World) (h : IsField W f Ec.ordN) (hs : s < Ec.ordN) : Calls Tryd.prog 25 #[.pointer (some ⟨f, 0, none⟩), .agg (d16 s)] W fun z w' => z = .returned (.agg (d16 (wN s))) ∧ Below W.heap.size W w' := by
  have k := finv_c s Ec.ordN f W h fldN hs
  rw [wN_of] at k
  exact k
theorem big16 : (65536 : Nat) ^ 16 = big := by decide +kernel
theorem wN5_lt (s : Nat) : wN s < Ec.ordN := by
  unfold wN
  exact Nat.mod_lt _ fldN.1
theorem dec_sum5 (P : Ec.Pnt) (r : Nat) : decB P r = ((!cpN P) && decide (cpX P % Ec.ordN = r)) := by
  cases P with
  | none => rfl
  | some p => obtain ⟨x, y⟩ := p; exact (Bool.true_and _).symm
theorem rver_ok (kb mb sb : List UInt8) (Ak Am As : Option Addr) (nk ck nm cm ns cs : Nat) (w : World) (hk : SlA w Ak nk ck kb) (hm : SlA w Am nm cm mb) (hs : SlA w As ns cs sb) (hnil : Am = none → cm = 0) (hl : nm ≤ 2000) (hK : KeyB kb) (hS : SigB sb) :
    Calls Tryd.prog 7 #[.slice Ak nk ck, .slice Am nm cm, .slice As ns cs] w fun e w' => e = .returned (.int .i64 (if decB (decP kb mb sb) (numAt sb 0) then 0 else 4)) ∧ Below w.heap.size w w' := by
  obtain rfl : ns = 64 := by rw [← hs.1]; exact hS.1
  obtain ⟨b, o, rfl, hlt, hc, h1, h2⟩ := cells5 hs
  have hw := wN5_lt (numAt sb 32)
  have hu1 : u1N (dgst mb) (numAt sb 32) < big := Nat.lt_trans (Nat.mod_lt _ fldN.1) (by rw [← big16]; exact fldN.2.1)
  have hu2 : u2N (numAt sb 0) (numAt sb 32) < big := Nat.lt_trans (Nat.mod_lt _ fldN.1) (by rw [← big16]; exact fldN.2.1)
  have kI := fun f W (h : IsField W f Ec.ordN) => rinv_is (numAt sb 32) f W h hS.2.2.2.2
  have kM1 := fun f W (h : IsField W f Ec.ordN) => fmul_c (dgst mb % Ec.ordN) (wN (numAt sb 32)) Ec.ordN f W h fldN (Nat.mod_lt _ fldN.1) hw
  rw [show dgst mb % Ec.ordN * wN (numAt sb 32) % Ec.ordN = u1N (dgst mb) (numAt sb 32) by unfold u1N; exact Eq.refl _] at kM1
  have kM2 := fun f W (h : IsField W f Ec.ordN) => fmul_c (numAt sb 0) (wN (numAt sb 32)) Ec.ordN f W h fldN hS.2.2.1 hw
  rw [show numAt sb 0 * wN (numAt sb 32) % Ec.ordN = u2N (numAt sb 0) (numAt sb 32) by unfold u2N; exact Eq.refl _] at kM2
  have tB : (T3.mk Ec.gX Ec.gY 1).ok Ec.pp := ⟨by decide +kernel, by decide +kernel, by decide +kernel⟩
  have iB : (T3.mk Ec.gX Ec.gY 1).is Ec.baseP := by
    have k := ptT_is Ec.baseP
    rw [show ptT Ec.baseP = T3.mk Ec.gX Ec.gY 1 by
      show T3.mk (Ec.gX % Ec.pp) (Ec.gY % Ec.pp) 1 = _
      rw [Nat.mod_eq_of_lt (show Ec.gX < Ec.pp by decide +kernel), Nat.mod_eq_of_lt (show Ec.gY < Ec.pp by decide +kernel)]] at k
    exact k
  have tK : (T3.mk (numAt kb 0) (numAt kb 32) 1).ok Ec.pp := ⟨hK.2.1, hK.2.2.1, show 1 < Ec.pp by decide +kernel⟩
  have iK : (T3.mk (numAt kb 0) (numAt kb 32) 1).is (keyP kb) := by
    have k := ptT_is (keyP kb)
    rw [show ptT (keyP kb) = T3.mk (numAt kb 0) (numAt kb 32) 1 by
      show T3.mk (numAt kb 0 % Ec.pp) (numAt kb 32 % Ec.pp) 1 = _
      rw [Nat.mod_eq_of_lt hK.2.1, Nat.mod_eq_of_lt hK.2.2.1]] at k
    exact k
  obtain ⟨o1, i1⟩ := T3_on_of Ec.baseP Ec.pp (u1N (dgst mb) (numAt sb 32)) fldPP rfl _ tB iB Ec.base_on hu1
  obtain ⟨o2, i2⟩ := T3_on_of (keyP kb) Ec.pp (u2N (numAt sb 0) (numAt sb 32)) fldPP rfl _ tK iK hK.2.2.2 hu2
  have kT1 := fun f W (h : IsField W f Ec.pp) => times_any (u1N (dgst mb) (numAt sb 32)) Ec.pp f (T3.mk Ec.gX Ec.gY 1) W fldPP rfl tB h
  have kT2 := fun f W (h : IsField W f Ec.pp) => times_any (u2N (numAt sb 0) (numAt sb 32)) Ec.pp f (T3.mk (numAt kb 0) (numAt kb 32) 1) W fldPP rfl tK h
  generalize sumS Ec.pp (u1N (dgst mb) (numAt sb 32)) (T3.mk Ec.gX Ec.gY 1) 256 = t1 at *
  generalize sumS Ec.pp (u2N (numAt sb 0) (numAt sb 32)) (T3.mk (numAt kb 0) (numAt kb 32) 1) 256 = t2 at *
  obtain ⟨o3, i3, kPl⟩ := sumT_is fldPP rfl o1 o2
  have kPl := fun f W h => kPl f W h
  have i3 := i3 _ _ (Ec.smul_on Ec.base_on _) (Ec.smul_on hK.2.2.2 _) i1 i2
  generalize sumT Ec.pp t1 t2 = t3 at *
  have kPn := fun f W (h : IsField W f Ec.pp) => plain_any4 t3 (decP kb mb sb) Ec.pp f W fldPP rfl o3 i3 h
  have hXb := (cp_lt (decP kb mb sb)).1
  have kRx := fun W => reduce3_any (cpX (decP kb mb sb)) Ec.ordN W (by rw [big16]; exact hXb) fldN.1 fldN.2.1
  have kRe := fun W => reduce3_any (dgst mb) Ec.ordN W (by rw [big16]; exact dgst_lt _) fldN.1 fldN.2.1
  have kS := fun W (hb : Below w.heap.size w W) => ref_any mb Am nm cm W (hm.below hb) hnil hl
  rw [show (tab 32 fun j => by8 (shaOf mb j)) = (tab 32 fun j => .int .u8 ((byB (dgst mb) j : Nat) : Int)) from tab_ext _ _ _ fun j hj => by rw [dgst_byte mb j hj]; rfl] at kS
  have hxr : cpX (decP kb mb sb) % Ec.ordN < 65536 ^ 16 := Nat.lt_trans (Nat.mod_lt _ fldN.1) fldN.2.1
  rw [dec_sum5 (decP kb mb sb)]
  generalize decP kb mb sb = S at *
  exact ver5_ok Ak Am nk ck nm cm _ _ b o cs _ _ Ec.ordN w (numAt_lt _ _) (numAt_lt _ _) fldN.1 fldN.2.1 hlt hc h1 h2 (fun W hb => rkey_good kb Ak nk ck W (hk.below hb) hK) refN_any hS.2.1 hS.2.2.2.1 (decide_eq_true hS.2.2.1) (decide_eq_true hS.2.2.2.2)
    _ _ _ _ _ _ Ec.pp _ _ _ _ _ _ _ _ _ _ _ _ _ _ (dgst_lt mb) hxr kS kRe kI refPP_any kM1 kM2 refBase_any kT1 kT2 kPl kPn kRx fldPP.1 fldPP.2.1
theorem rverify_is (kb mb sb : List UInt8) (Ak Am As : Option Addr) (nk ck nm cm ns cs : Nat) (w : World) (hk : SlA w Ak nk ck kb) (hm : SlA w Am nm cm mb) (hs : SlA w As ns cs sb) (hnil : Am = none → cm = 0) (hl : nm ≤ 2000) :
    Calls Tryd.prog 7 #[.slice Ak nk ck, .slice Am nm cm, .slice As ns cs] w fun e w' => e = .returned (.int .i64 ((verN kb mb sb : Nat) : Int)) ∧ Below w.heap.size w w' := by
  by_cases hK : KeyB kb
  · have kK := fun W (hb : Below w.heap.size w W) => rkey_good kb Ak nk ck W (hk.below hb) hK
    by_cases hn : ns = 64
    · subst hn
      have hl64 := hs.1
      by_cases hSg : SigB sb
      · rw [ver_dec mb hK hSg]
        have k := rver_ok kb mb sb Ak Am As nk ck nm cm 64 cs w hk hm hs hnil hl hK hSg
        generalize decB (decP kb mb sb) (numAt sb 0) = bb at *
        cases bb <;> exact k
      · rw [ver_sig mb hK hSg]
        obtain ⟨b, o, rfl, hlt, hc, h1, h2⟩ := cells5 hs
        by_cases r0 : numAt sb 0 = 0
        · exact ver5_r0 Ak Am nk ck nm cm _ _ b o cs _ _ Ec.ordN w (numAt_lt _ _) (numAt_lt _ _) fldN.1 fldN.2.1 hlt hc h1 h2 kK refN_any r0
        by_cases s0 : numAt sb 32 = 0
        · exact ver5_s0 Ak Am nk ck nm cm _ _ b o cs _ _ Ec.ordN w (numAt_lt _ _) (numAt_lt _ _) fldN.1 fldN.2.1 hlt hc h1 h2 kK refN_any r0 s0
        by_cases rb : numAt sb 0 < Ec.ordN
        · have sbb : ¬ numAt sb 32 < Ec.ordN := fun h => hSg ⟨hl64, r0, rb, s0, h⟩
          exact ver5_sb Ak Am nk ck nm cm _ _ b o cs _ _ Ec.ordN w (numAt_lt _ _) (numAt_lt _ _) fldN.1 fldN.2.1 hlt hc h1 h2 kK refN_any r0 s0 (decide_eq_true rb) (decide_eq_false sbb)
        · exact ver5_rb Ak Am nk ck nm cm _ _ b o cs _ _ Ec.ordN w (numAt_lt _ _) (numAt_lt _ _) fldN.1 fldN.2.1 hlt hc h1 h2 kK refN_any r0 s0 (decide_eq_false rb)
    · rw [ver_sig mb hK fun h => hn (by rw [← hs.1]; exact h.1)]
      exact ver5_len Ak Am As nk ck nm cm ns cs _ _ _ w hn kK
  · rw [ver_key mb sb hK]
    exact ver5_key Ak Am As nk ck nm cm ns cs _ _ _ w fun W hb => rkey_bad kb Ak nk ck W (hk.below hb) hK
end Go.Proofs.YtflkhlhpifmocaaDoor
namespace Go.Proofs.YtflkhlhpifmocaaDoor
open Go Go.RowKit

section
variable {P : Program} {Q : Exit → Act → World → Prop}
theorem region_factsF {id : Nat} {l : List Oper} {a : Act} {w : World} (n : Nat) (F : Nat → Value → World → Prop) (hm : P.follows .mixedOrders = true) (hB : factsB .any l.toArray n [] = true)
    (hQ : ∀ c a (t : Tmp) x w, Q (.panic c) (a.put (some t) x) w → Q (.panic c) a w)
    (hst : ∀ i x w' w'', F i x w' → Below w'.heap.size w' w'' → F i x w'')
    (hsteps : StepsF P Q F (l.take n) a w (l.take n) 0)
    (htail : ∀ (v : Nat → Value) w', Below w.heap.size w w' → (∀ i, i < n → F i (v i) w') → wpList P l.toArray Q (l.drop n) (putAll (l.take n) v 0 a) w') : (Code.region id l.toArray true).wp P Q a w := by
  have hn : n < l.length := by
    have h := hB
    simp only [factsB, Bool.and_eq_true, decide_eq_true_eq] at h
    simpa using h.1.1.1.1.1.1.1.2
  refine wp_region_any hm ?_
  have key := any_of_facts (fl := []) F (fun _ _ _ _ => True) hB hQ hst
    (fun i o ho hi _ v w' hb hf K hK => by
      have hs := stepsF_at _ _ hsteps i o (by simpa [hi] using ho)
      rw [Nat.zero_add] at hs
      exact hs v w' hb hf K fun x w'' hb2 hF => hK x w'' hb2 hF fun _ _ _ _ => ⟨trivial, trivial⟩)
    (fun i o ho hi hfi => absurd hfi (by simp)) (fun v w' hb hF _ => htail v w' hb hF) n (Array.replicate l.toArray.size false) (slotsOf (l.take n) a) { w with drawn := w.drawn + 1 }
    ⟨by simp, fun j oj _ hl => (by rw [getD_replicate_false] at hl; cases hl), fun t _ ht => getD_in (by simpa using ht) (getD_replicate_false _ _)⟩
    (by
      unfold left
      have : (List.range n).countP (fun i => !(Array.replicate l.toArray.size false).getD i true) = (List.range n).length := by
        rw [List.countP_eq_length]
        intro i hi
        have hin : i < n := by simpa using hi
        have h1 : (Array.replicate l.toArray.size false).getD i true = false := getD_in (by simp; omega) (getD_replicate_false _ _)
        rw [h1]; rfl
      rw [this]; simp)
    ⟨rfl, rfl, rfl, Nat.le_refl _, fun _ _ => rfl⟩ (fun i hi hl => by rw [getD_replicate_false] at hl; cases hl) (fun i j hi hj hl => by rw [getD_replicate_false] at hl; cases hl)
  rw [putAll_slots (l.take n) a (slotsOf (l.take n) a) 0 (fun j o d ho hd => by unfold slotsOf; rw [Nat.zero_add, ho]; simp only [hd])] at key
  have e : n + (l.length - n) = l.toArray.size := by simp; omega
  rw [e] at key
  exact key
end
theorem own_slA {w : World} {base n c : Nat} {A : Option Addr} {bs : List UInt8} (h : w.ownsRow base 5 1 (.slice A n c) n (bs.map by8)) : SlA w A n c bs ∧ (A = none → c = 0) := by
  have hl : bs.length = n := by have := h.1; simpa using this
  rcases h.2 with ⟨hv, h0⟩ | ⟨g, cap, cur, hv, hb, hg, hnc, _⟩
  · have e1 : A = none := by injection hv
    have e2 : c = 0 := by injection hv
    exact ⟨⟨hl, by omega, fun h => absurd h (by omega)⟩, fun _ => e2⟩
  · have e1 : A = some ⟨g, 0, none⟩ := by injection hv
    have e2 : c = cap := by injection hv
    subst e1
    subst e2
    have hlt : g < w.heap.size := (Array.getElem?_eq_some_iff.1 hg).1
    refine ⟨⟨hl, hnc, fun _ => ⟨g, 0, rfl, hlt, fun j hj => ?_⟩⟩, fun h => by cases h⟩
    rw [Nat.zero_add, h.cellAt j (by omega)]
    simp [List.getD_eq_getElem?_getD, show j < bs.length by omega]
/-- what the four operations before the append yield: a number, its bytes in a row of the call's own, another number, its bytes -/
def lastF (B X Y : Nat) : Nat → Value → World → Prop
  | 0, x, _ => x = .agg (d16 X)
  | 1, x, w => w.ownsRow B 5 1 x 32 ((bytesOf X).map by8)
  | 2, x, _ => x = .agg (d16 Y)
  | 3, x, w => ∃ A c, x = .slice A 32 c ∧ SlA w A 32 c (bytesOf Y) ∧ (A = none → c = 0)
  | _, _, _ => True
theorem lastF_keep (B X Y : Nat) (i : Nat) (x : Value) (w w' : World) (h : lastF B X Y i x w) (hb : Below w.heap.size w w') : lastF B X Y i x w' := by
  match i, h with
  | 0, h => exact h
  | 1, h => exact World.ownsRow.kept h (only_below hb none) (by
      cases hx : x.ownBlock with
      | none => exact .inl rfl
      | some g => exact .inr (by simp))
  | 2, h => exact h
  | 3, ⟨A, c, e, hS, hn⟩ => exact ⟨A, c, e, hS.below hb, hn⟩
  | _ + 4, _ => trivial
end Go.Proofs.YtflkhlhpifmocaaDoor
namespace Go.Proofs.YtflkhlhpifmocaaDoor
open Go.RowKit

attribute [local go_sem] zero16 zero48 one16 zero32b
set_option maxRecDepth 100000 in
set_option maxHeartbeats 2000000 in
theorem public_walk (kk p gx gy q1x q1y q1z xx yy : Nat) (sm : Bool) (w : World)
    (kPP : ∀ W, Calls Tryd.prog 26 #[] W fun e w' => e = .returned (.agg (d16 p)) ∧ Below W.heap.size W w')
    (kBa : ∀ W, Calls Tryd.prog 31 #[] W fun e w' => e = .returned (.agg (ptC gx gy 1)) ∧ Below W.heap.size W w')
    (kT1 : ∀ f W, IsField W f p → Calls Tryd.prog 29 #[.pointer (some ⟨f, 0, none⟩), .agg (d16 kk), .agg (ptC gx gy 1)] W fun e w' => e = .returned (.agg (ptC q1x q1y q1z)) ∧ Below W.heap.size W w')
    (kPn : ∀ f W, IsField W f p → Calls Tryd.prog 27 #[.pointer (some ⟨f, 0, none⟩), .agg (ptC q1x q1y q1z)] W fun e w' => e = .returned (.tuple #[.agg (d16 xx), .agg (d16 yy), .bool sm]) ∧ Below W.heap.size W w')
    (hp0 : 0 < p) (hp : p < 65536 ^ 16) :
    Calls Tryd.prog 11 #[.agg (d16 kk)] w fun e w' => (∃ v, e = .returned v ∧ w'.ownsRow w.heap.size 5 1 v 64 ((bytesOf xx ++ bytesOf yy).map by8)) ∧ Below w.heap.size w w' := by
  have kFp := fun W => newField_any p W hp0 hp
  clear hp0 hp
  have n0 := d16_ne 0
  have hK0 : Has (w.alloc (.cells (d16 kk) 37)) w.heap.size 37 (d16 kk) := Has.new w _ _
  have hb0 : Below w.heap.size w (w.alloc (.cells (d16 kk) 37)) := (Below.refl _ _).alloc (Nat.le_refl _) _
  go_enter Tryd.func11, Tryd.ntmps11
  go_wp2_with fail
  refine (kPP _).mono ?_
  rintro e u1 ⟨rfl, hx⟩
  replace hK0 := hK0.after hx; replace hb0 := below_trans hb0 hx
  clear hx kPP
  go_wp2_with fail
  refine (kFp _).mono ?_
  rintro e u2 ⟨⟨fp, rfl, hFp⟩, hx⟩
  replace hK0 := hK0.after hx; replace hb0 := below_trans hb0 hx
  clear hx kFp
  go_wp2_with fail
  refine region_facts 12 [8, 9] [.val (.pointer (some ⟨fp, 0, none⟩)), .val (.pointer (some ⟨fp, 0, none⟩)), .val (.agg (d16 kk)), .val (.agg (ptC gx gy 1)), .val (.agg (ptC q1x q1y q1z)), .val (.tuple #[.agg (d16 xx), .agg (d16 yy), .bool sm]), .val (.tuple #[.agg (d16 xx), .agg (d16 yy), .bool sm]), .val (.agg (d16 xx)), .val (.agg (d16 yy)), .val (.bool sm), .new 37 (d16 0), .new 37 (d16 0)]
    (by kernel_rfl) (by kernel_rfl) (fun _ _ _ _ _ h => h) ?_ ?_
  · simp only [List.take_succ_cons, List.take_zero, StepsOK]
    refine ⟨?_, ?_, ?_, ?_, ?_, ?_, ?_, ?_, ?_, ?_, ?_, ?_, trivial⟩
    · intro v w' hb hf K hKt
      simp only [putAll, Act.put, List.setIfInBounds_toArray, List.set_cons_zero, List.set_cons_succ, Nat.zero_add, Nat.reduceAdd] at hKt ⊢
      go_simp
      exact hKt _ (Below.refl _ _)
    · intro v w' hb hf K hKt
      simp only [putAll, Act.put, List.setIfInBounds_toArray, List.set_cons_zero, List.set_cons_succ, Nat.zero_add, Nat.reduceAdd] at hKt ⊢
      go_simp
      exact hKt _ (Below.refl _ _)
    · intro v w' hb hf K hKt
      simp only [putAll, Act.put, List.setIfInBounds_toArray, List.set_cons_zero, List.set_cons_succ, Nat.zero_add, Nat.reduceAdd] at hKt ⊢
      exact wp_load_row 37 _ rfl (w.heap.size) rfl 37 _ (0, 0) _ (hK0.after hb) Tryd.underlying37 rfl (info16 _) (hKt _ (Below.refl _ _))
    · intro v w' hb hf K hKt
      simp only [putAll, Act.put, List.setIfInBounds_toArray, List.set_cons_zero, List.set_cons_succ, Nat.zero_add, Nat.reduceAdd] at hKt ⊢
      go_simp
      refine (kBa w').mono ?_
      rintro e w'' ⟨rfl, hb2⟩
      exact hKt _ hb2
    · intro v w' hb hf K hKt
      have f1 : v 1 = _ := hf ⟨1, .data⟩ (by simp) rfl
      have f2 : v 2 = _ := hf ⟨2, .data⟩ (by simp) rfl
      have f3 : v 3 = _ := hf ⟨3, .data⟩ (by simp) rfl
      simp only [putAll, Act.put, List.setIfInBounds_toArray, List.set_cons_zero, List.set_cons_succ, Nat.zero_add, Nat.reduceAdd] at hKt ⊢
      rw [f1, f2, f3] at hKt ⊢
      go_simp
      refine (kT1 _ w' (hFp.after hb)).mono ?_
      rintro e w'' ⟨rfl, hb2⟩
      exact hKt _ hb2
    · intro v w' hb hf K hKt
      have f0 : v 0 = _ := hf ⟨0, .data⟩ (by simp) rfl
      have f4 : v 4 = _ := hf ⟨4, .data⟩ (by simp) rfl
      simp only [putAll, Act.put, List.setIfInBounds_toArray, List.set_cons_zero, List.set_cons_succ, Nat.zero_add, Nat.reduceAdd] at hKt ⊢
      rw [f0, f4] at hKt ⊢
      go_simp
      refine (kPn _ w' (hFp.after hb)).mono ?_
      rintro e w'' ⟨rfl, hb2⟩
      exact hKt _ hb2
    · intro v w' hb hf K hKt
      have f5 : v 5 = _ := hf ⟨5, .data⟩ (by simp) rfl
      simp only [putAll, Act.put, List.setIfInBounds_toArray, List.set_cons_zero, List.set_cons_succ, Nat.zero_add, Nat.reduceAdd] at hKt ⊢
      rw [f5] at hKt ⊢
      go_simp
      exact hKt _ (Below.refl _ _)
    · intro v w' hb hf K hKt
      have f6 : v 6 = _ := hf ⟨6, .data⟩ (by simp) rfl
      simp only [putAll, Act.put, List.setIfInBounds_toArray, List.set_cons_zero, List.set_cons_succ, Nat.zero_add, Nat.reduceAdd] at hKt ⊢
      rw [f6] at hKt ⊢
      go_simp
      exact hKt _ (Below.refl _ _)
    · intro v hf w'
      obtain ⟨_, f6⟩ := hf ⟨6, .data⟩ (by simp) rfl
      replace f6 : v 6 = _ := f6
      simp only [putAll, Act.put, List.setIfInBounds_toArray, List.set_cons_zero, List.set_cons_succ, Nat.zero_add, Nat.reduceAdd]
      rw [f6]
      go_simp
    · intro v hf w'
      obtain ⟨_, f6⟩ := hf ⟨6, .data⟩ (by simp) rfl
      replace f6 : v 6 = _ := f6
      simp only [putAll, Act.put, List.setIfInBounds_toArray, List.set_cons_zero, List.set_cons_succ, Nat.zero_add, Nat.reduceAdd]
      rw [f6]
      go_simp
    · exact ⟨rfl, rfl, zeroV16⟩
    · exact ⟨rfl, rfl, zeroV16⟩
  intro v u3 hb hF hD
  have f0 : v 0 = _ := hF 0 (by decide)
  have f1 : v 1 = _ := hF 1 (by decide)
  have f2 : v 2 = _ := hF 2 (by decide)
  have f3 : v 3 = _ := hF 3 (by decide)
  have f4 : v 4 = _ := hF 4 (by decide)
  have f5 : v 5 = _ := hF 5 (by decide)
  have f6 : v 6 = _ := hF 6 (by decide)
  have f7 : v 7 = _ := hF 7 (by decide)
  have f8 : v 8 = _ := hF 8 (by decide)
  have f9 : v 9 = _ := hF 9 (by decide)
  obtain ⟨gX, f10, hg10, hl10, hz10⟩ := hF 10 (by decide)
  replace hz10 : Has u3 gX 37 (d16 0) := hz10
  obtain ⟨gY, f11, hg11, hl11, hz11⟩ := hF 11 (by decide)
  replace hz11 : Has u3 gY 37 (d16 0) := hz11
  have hne10_11 : gX ≠ gY := fun h => hD 10 11 (by decide) (by decide) (by decide) rfl rfl (by rw [f10, f11, h])
  simp only [List.take_succ_cons, List.take_zero, List.drop_succ_cons, List.drop_zero, putAll, Act.put, List.setIfInBounds_toArray, List.set_cons_zero, List.set_cons_succ, Nat.zero_add, Nat.reduceAdd]
  rw [f0, f1, f2, f3, f4, f5, f6, f7, f8, f9, f10, f11]
  clear hF hD f0 f1 f2 f3 f4 f5 f6 f7 f8 f9 f10 f11
  have hs10 := hz10
  have hs11 := (hz11).farRow (k := gX) (by omega) (d16 xx)
  have hBW := below_setRow (below_setRow (hb) (g := gX) hg10 (d16 xx)) (g := gY) hg11 (d16 yy)
  have hXx := ((hz10).setRow (d16 xx)).farRow (k := gY) (by omega) (d16 yy)
  have hYy := ((hz11).farRow (k := gX) (by omega) (d16 xx)).setRow (d16 yy)
  replace hK0 := hK0.after hBW
  replace hb0 := below_trans hb0 hBW
  go_wp2_with (first | refine wpList_store_row rfl 37 _ _ rfl gX _ rfl rfl 37 (d16 0) hs10 (info16 _) (by simp only [d16_size]) (tab_oneCell _ _ fun _ => rfl) ?_ | (refine wpList_store_row rfl 37 _ _ rfl gY _ rfl rfl 37 (d16 0) hs11 (info16 _) (by simp only [d16_size]) (tab_oneCell _ _ fun _ => rfl) ?_; generalize hWW : World.setRow _ gY _ = U3 at *; clear hWW))
  clear hBW hb hs10 hz10   hs11 hz11  
  clear kBa kT1 kPn hK0 hFp
  refine region_factsF 4 (lastF w.heap.size (xx) (yy)) (by kernel_rfl) (by kernel_rfl) (fun _ _ _ _ _ h => h) (lastF_keep _ _ _) ?_ ?_
  · simp only [List.take_succ_cons, List.take_zero, StepsF, StepF]
    refine ⟨?_, ?_, ?_, ?_, trivial⟩
    · intro v w' hb hf K hKt
      simp only [putAll, Act.put, List.setIfInBounds_toArray, List.set_cons_zero, List.set_cons_succ, Nat.zero_add, Nat.reduceAdd] at hKt ⊢
      exact wp_load_row 37 _ rfl (gX) rfl 37 _ (0, 0) _ (hXx.after hb) Tryd.underlying37 rfl (info16 _) (hKt _ _ (Below.refl _ _) rfl)
    · intro v w' hb hf K hKt
      have f0 : v 0 = _ := hf ⟨0, .data⟩ (by simp) rfl
      simp only [putAll, Act.put, List.setIfInBounds_toArray, List.set_cons_zero, List.set_cons_succ, Nat.zero_add, Nat.reduceAdd] at hKt ⊢
      rw [f0] at hKt ⊢
      go_simp
      refine (bytes5_any (xx) w').mono ?_
      rintro e w'' ⟨⟨x, rfl, ho⟩, hb2⟩
      exact hKt _ _ hb2 (own_mono ho (Nat.le_trans hb0.size hb.size))
    · intro v w' hb hf K hKt
      simp only [putAll, Act.put, List.setIfInBounds_toArray, List.set_cons_zero, List.set_cons_succ, Nat.zero_add, Nat.reduceAdd] at hKt ⊢
      exact wp_load_row 37 _ rfl (gY) rfl 37 _ (0, 0) _ (hYy.after hb) Tryd.underlying37 rfl (info16 _) (hKt _ _ (Below.refl _ _) rfl)
    · intro v w' hb hf K hKt
      have f2 : v 2 = _ := hf ⟨2, .data⟩ (by simp) rfl
      simp only [putAll, Act.put, List.setIfInBounds_toArray, List.set_cons_zero, List.set_cons_succ, Nat.zero_add, Nat.reduceAdd] at hKt ⊢
      rw [f2] at hKt ⊢
      go_simp
      refine (bytes5_any (yy) w').mono ?_
      rintro e w'' ⟨⟨x, rfl, ho⟩, hb2⟩
      obtain ⟨A3, c3, rfl⟩ := own_form ho
      have hS := own_slA ho
      exact hKt _ _ hb2 ⟨A3, c3, rfl, hS.1, hS.2⟩
  intro v uL hb hF
  have f0 : v 0 = _ := hF 0 (by decide)
  have f1 : uL.ownsRow w.heap.size 5 1 (v 1) 32 ((bytesOf (xx)).map by8) := hF 1 (by decide)
  have f2 : v 2 = _ := hF 2 (by decide)
  obtain ⟨A3, c3, f3, hS3, hn3⟩ := hF 3 (by decide)
  simp only [List.take_succ_cons, List.take_zero, List.drop_succ_cons, List.drop_zero, putAll, Act.put, List.setIfInBounds_toArray, List.set_cons_zero, List.set_cons_succ, Nat.zero_add, Nat.reduceAdd]
  rw [f0, f2, f3]
  replace hb0 := below_trans hb0 hb
  clear hF f0 f2 f3 hb hXx hYy
  generalize v 1 = rv at *
  clear v
  have hsz := hb0.size
  go_wp2_with (refine wp_append_bytes rfl (.tmp 20) (.tmp 22) rfl w.heap.size rv 32 ((bytesOf (xx)).map by8) rfl f1 A3 32 c3 rfl (bytesOf (yy)) hS3 hn3 (by omega) hsz ?_; intro v4 w4 hown4 hg4)
  have hb4 : Below w.heap.size w w4 := hb0.grown hg4 hsz (fun k hk => (f1.lt k hk).1)
  go_ret
  exact ⟨⟨_, rfl, by rw [List.map_append]; exact hown4⟩, hb4⟩
end Go.Proofs.YtflkhlhpifmocaaDoor
namespace Go.Proofs.YtflkhlhpifmocaaDoor
open Go.RowKit

attribute [local go_sem] zero16 zero48 one16 zero32b
set_option maxRecDepth 100000 in
set_option maxHeartbeats 2000000 in
theorem sign_walk (aa kk m p gx gy q1x q1y q1z xx yy r ev e1 iv t1 t2 s : Nat) (sm : Bool) (Am : Option Addr) (nm cm : Nat) (w : World)
    (kPP : ∀ W, Calls Tryd.prog 26 #[] W fun e w' => e = .returned (.agg (d16 p)) ∧ Below W.heap.size W w')
    (kBa : ∀ W, Calls Tryd.prog 31 #[] W fun e w' => e = .returned (.agg (ptC gx gy 1)) ∧ Below W.heap.size W w')
    (kT1 : ∀ f W, IsField W f p → Calls Tryd.prog 29 #[.pointer (some ⟨f, 0, none⟩), .agg (d16 kk), .agg (ptC gx gy 1)] W fun e w' => e = .returned (.agg (ptC q1x q1y q1z)) ∧ Below W.heap.size W w')
    (kPn : ∀ f W, IsField W f p → Calls Tryd.prog 27 #[.pointer (some ⟨f, 0, none⟩), .agg (ptC q1x q1y q1z)] W fun e w' => e = .returned (.tuple #[.agg (d16 xx), .agg (d16 yy), .bool sm]) ∧ Below W.heap.size W w')
    (hp0 : 0 < p) (hp : p < 65536 ^ 16)
    (hm0 : 0 < m) (hm : m < 65536 ^ 16) (hr16 : r < 65536 ^ 16) (hs16 : s < 65536 ^ 16) (hr0 : r ≠ 0) (hs0 : s ≠ 0) (hev : ev < big)
    (kPN : ∀ W, Calls Tryd.prog 21 #[] W fun e w' => e = .returned (.agg (d16 m)) ∧ Below W.heap.size W w')
    (kRx : ∀ W, Calls Tryd.prog 24 #[.agg (d16 xx), .agg (d16 m)] W fun e w' => e = .returned (.agg (d16 r)) ∧ Below W.heap.size W w')
    (kS : ∀ W, Below w.heap.size w W → Calls Tryd.prog 23 #[.slice Am nm cm] W fun e w' => e = .returned (.agg (tab 32 fun j => .int .u8 ((byB ev j : Nat) : Int))) ∧ Below W.heap.size W w')
    (kRe : ∀ W, Calls Tryd.prog 24 #[.agg (d16 ev), .agg (d16 m)] W fun e w' => e = .returned (.agg (d16 e1)) ∧ Below W.heap.size W w')
    (kI : ∀ f W, IsField W f m → Calls Tryd.prog 25 #[.pointer (some ⟨f, 0, none⟩), .agg (d16 kk)] W fun e w' => e = .returned (.agg (d16 iv)) ∧ Below W.heap.size W w')
    (kM1 : ∀ f W, IsField W f m → Calls Tryd.prog 30 #[.pointer (some ⟨f, 0, none⟩), .agg (d16 r), .agg (d16 aa)] W fun e w' => e = .returned (.agg (d16 t1)) ∧ Below W.heap.size W w')
    (kA : ∀ f W, IsField W f m → Calls Tryd.prog 34 #[.pointer (some ⟨f, 0, none⟩), .agg (d16 e1), .agg (d16 t1)] W fun e w' => e = .returned (.agg (d16 t2)) ∧ Below W.heap.size W w')
    (kM2 : ∀ f W, IsField W f m → Calls Tryd.prog 30 #[.pointer (some ⟨f, 0, none⟩), .agg (d16 iv), .agg (d16 t2)] W fun e w' => e = .returned (.agg (d16 s)) ∧ Below W.heap.size W w') :
    Calls Tryd.prog 12 #[.agg (d16 aa), .agg (d16 kk), .slice Am nm cm] w fun e w' => (∃ v, e = .returned v ∧ w'.ownsRow w.heap.size 5 1 v 64 ((bytesOf r ++ bytesOf s).map by8)) ∧ Below w.heap.size w w' := by
  have kFp := fun W => newField_any p W hp0 hp
  have kF := fun W => newField_any m W hm0 hm
  have kNe := fun d c W (h : d < W.heap.size) (hh : ∀ j, j < 32 → W.cell? ⟨d, 0 + j, none⟩ = some (.int .u8 ((byB ev j : Nat) : Int))) => num5_any ev d 0 c W hev h hh
  have eR := fun W => hexIn5 r 0 hr16 (by decide) W
  have eS := fun W => hexIn5 s 0 hs16 (by decide) W
  rw [decide_eq_false hr0] at eR
  rw [decide_eq_false hs0] at eS
  have HER := Lib.hid eR
  have HES := Lib.hid eS
  clear hp0 hp hm0 hm hr16 hs16 hr0 hs0 hev eR eS
  have n0 := d16_ne 0
  have hA0 : Has ((w.alloc (.cells (d16 aa) 37)).alloc (.cells (d16 kk) 37)) w.heap.size 37 (d16 aa) := (Has.new w _ _).alloc _
  have hK0 : Has ((w.alloc (.cells (d16 aa) 37)).alloc (.cells (d16 kk) 37)) (w.heap.size + 1) 37 (d16 kk) := Has.new' (by simp)
  have hb0 : Below w.heap.size w ((w.alloc (.cells (d16 aa) 37)).alloc (.cells (d16 kk) 37)) := ((Below.refl _ _).alloc (Nat.le_refl _) _).alloc (by simp) _
  go_enter Tryd.func12, Tryd.ntmps12
  go_wp2_with fail
  refine (kPN _).mono ?_
  rintro e u1 ⟨rfl, hx⟩
  replace hA0 := hA0.after hx; replace hK0 := hK0.after hx; replace hb0 := below_trans hb0 hx
  clear hx kPN
  go_wp2_with fail
  refine (kF _).mono ?_
  rintro e u2 ⟨⟨fn, rfl, hF⟩, hx⟩
  replace hA0 := hA0.after hx; replace hK0 := hK0.after hx; replace hb0 := below_trans hb0 hx
  clear hx kF
  go_wp2_with fail
  refine (kPP _).mono ?_
  rintro e u3 ⟨rfl, hx⟩
  replace hA0 := hA0.after hx; replace hK0 := hK0.after hx; replace hF := hF.after hx; replace hb0 := below_trans hb0 hx
  clear hx kPP
  go_wp2_with fail
  refine (kFp _).mono ?_
  rintro e u4 ⟨⟨fp, rfl, hFp⟩, hx⟩
  replace hA0 := hA0.after hx; replace hK0 := hK0.after hx; replace hF := hF.after hx; replace hb0 := below_trans hb0 hx
  clear hx kFp
  go_wp2_with fail
  refine region_facts 12 [8, 9] [.val (.pointer (some ⟨fp, 0, none⟩)), .val (.pointer (some ⟨fp, 0, none⟩)), .val (.agg (d16 kk)), .val (.agg (ptC gx gy 1)), .val (.agg (ptC q1x q1y q1z)), .val (.tuple #[.agg (d16 xx), .agg (d16 yy), .bool sm]), .val (.tuple #[.agg (d16 xx), .agg (d16 yy), .bool sm]), .val (.agg (d16 xx)), .val (.agg (d16 yy)), .val (.bool sm), .new 37 (d16 0), .new 37 (d16 0)]
    (by kernel_rfl) (by kernel_rfl) (fun _ _ _ _ _ h => h) ?_ ?_
  · simp only [List.take_succ_cons, List.take_zero, StepsOK]
    refine ⟨?_, ?_, ?_, ?_, ?_, ?_, ?_, ?_, ?_, ?_, ?_, ?_, trivial⟩
    · intro v w' hb hf K hKt
      simp only [putAll, Act.put, List.setIfInBounds_toArray, List.set_cons_zero, List.set_cons_succ, Nat.zero_add, Nat.reduceAdd] at hKt ⊢
      go_simp
      exact hKt _ (Below.refl _ _)
    · intro v w' hb hf K hKt
      simp only [putAll, Act.put, List.setIfInBounds_toArray, List.set_cons_zero, List.set_cons_succ, Nat.zero_add, Nat.reduceAdd] at hKt ⊢
      go_simp
      exact hKt _ (Below.refl _ _)
    · intro v w' hb hf K hKt
      simp only [putAll, Act.put, List.setIfInBounds_toArray, List.set_cons_zero, List.set_cons_succ, Nat.zero_add, Nat.reduceAdd] at hKt ⊢
      exact wp_load_row 37 _ rfl (w.heap.size + 1) rfl 37 _ (0, 0) _ (hK0.after hb) Tryd.underlying37 rfl (info16 _) (hKt _ (Below.refl _ _))
    · intro v w' hb hf K hKt
      simp only [putAll, Act.put, List.setIfInBounds_toArray, List.set_cons_zero, List.set_cons_succ, Nat.zero_add, Nat.reduceAdd] at hKt ⊢
      go_simp
      refine (kBa w').mono ?_
      rintro e w'' ⟨rfl, hb2⟩
      exact hKt _ hb2
    · intro v w' hb hf K hKt
      have f1 : v 1 = _ := hf ⟨1, .data⟩ (by simp) rfl
      have f2 : v 2 = _ := hf ⟨2, .data⟩ (by simp) rfl
      have f3 : v 3 = _ := hf ⟨3, .data⟩ (by simp) rfl
      simp only [putAll, Act.put, List.setIfInBounds_toArray, List.set_cons_zero, List.set_cons_succ, Nat.zero_add, Nat.reduceAdd] at hKt ⊢
      rw [f1, f2, f3] at hKt ⊢
      go_simp
      refine (kT1 _ w' (hFp.after hb)).mono ?_
      rintro e w'' ⟨rfl, hb2⟩
      exact hKt _ hb2
    · intro v w' hb hf K hKt
      have f0 : v 0 = _ := hf ⟨0, .data⟩ (by simp) rfl
      have f4 : v 4 = _ := hf ⟨4, .data⟩ (by simp) rfl
      simp only [putAll, Act.put, List.setIfInBounds_toArray, List.set_cons_zero, List.set_cons_succ, Nat.zero_add, Nat.reduceAdd] at hKt ⊢
      rw [f0, f4] at hKt ⊢
      go_simp
      refine (kPn _ w' (hFp.after hb)).mono ?_
      rintro e w'' ⟨rfl, hb2⟩
      exact hKt _ hb2
    · intro v w' hb hf K hKt
      have f5 : v 5 = _ := hf ⟨5, .data⟩ (by simp) rfl
      simp only [putAll, Act.put, List.setIfInBounds_toArray, List.set_cons_zero, List.set_cons_succ, Nat.zero_add, Nat.reduceAdd] at hKt ⊢
      rw [f5] at hKt ⊢
      go_simp
      exact hKt _ (Below.refl _ _)
    · intro v w' hb hf K hKt
      have f6 : v 6 = _ := hf ⟨6, .data⟩ (by simp) rfl
      simp only [putAll, Act.put, List.setIfInBounds_toArray, List.set_cons_zero, List.set_cons_succ, Nat.zero_add, Nat.reduceAdd] at hKt ⊢
      rw [f6] at hKt ⊢
      go_simp
      exact hKt _ (Below.refl _ _)
    · intro v hf w'
      obtain ⟨_, f6⟩ := hf ⟨6, .data⟩ (by simp) rfl
      replace f6 : v 6 = _ := f6
      simp only [putAll, Act.put, List.setIfInBounds_toArray, List.set_cons_zero, List.set_cons_succ, Nat.zero_add, Nat.reduceAdd]
      rw [f6]
      go_simp
    · intro v hf w'
      obtain ⟨_, f6⟩ := hf ⟨6, .data⟩ (by simp) rfl
      replace f6 : v 6 = _ := f6
      simp only [putAll, Act.put, List.setIfInBounds_toArray, List.set_cons_zero, List.set_cons_succ, Nat.zero_add, Nat.reduceAdd]
      rw [f6]
      go_simp
    · exact ⟨rfl, rfl, zeroV16⟩
    · exact ⟨rfl, rfl, zeroV16⟩
  intro v u5 hb hF hD
  have f0 : v 0 = _ := hF 0 (by decide)
  have f1 : v 1 = _ := hF 1 (by decide)
  have f2 : v 2 = _ := hF 2 (by decide)
  have f3 : v 3 = _ := hF 3 (by decide)
  have f4 : v 4 = _ := hF 4 (by decide)
  have f5 : v 5 = _ := hF 5 (by decide)
  have f6 : v 6 = _ := hF 6 (by decide)
  have f7 : v 7 = _ := hF 7 (by decide)
  have f8 : v 8 = _ := hF 8 (by decide)
  have f9 : v 9 = _ := hF 9 (by decide)
  obtain ⟨gX, f10, hg10, hl10, hz10⟩ := hF 10 (by decide)
  replace hz10 : Has u5 gX 37 (d16 0) := hz10
  obtain ⟨gY, f11, hg11, hl11, hz11⟩ := hF 11 (by decide)
  replace hz11 : Has u5 gY 37 (d16 0) := hz11
  have hne10_11 : gX ≠ gY := fun h => hD 10 11 (by decide) (by decide) (by decide) rfl rfl (by rw [f10, f11, h])
  simp only [List.take_succ_cons, List.take_zero, List.drop_succ_cons, List.drop_zero, putAll, Act.put, List.setIfInBounds_toArray, List.set_cons_zero, List.set_cons_succ, Nat.zero_add, Nat.reduceAdd]
  rw [f0, f1, f2, f3, f4, f5, f6, f7, f8, f9, f10, f11]
  clear hF hD f0 f1 f2 f3 f4 f5 f6 f7 f8 f9 f10 f11
  have hs10 := hz10
  have hs11 := (hz11).farRow (k := gX) (by omega) (d16 xx)
  have hBW := below_setRow (below_setRow (hb) (g := gX) hg10 (d16 xx)) (g := gY) hg11 (d16 yy)
  have hXx := ((hz10).setRow (d16 xx)).farRow (k := gY) (by omega) (d16 yy)
  have hYy := ((hz11).farRow (k := gX) (by omega) (d16 xx)).setRow (d16 yy)
  replace hA0 := hA0.after hBW
  replace hK0 := hK0.after hBW
  replace hF := hF.after hBW
  replace hb0 := below_trans hb0 hBW
  go_wp2_with (first | refine wpList_store_row rfl 37 _ _ rfl gX _ rfl rfl 37 (d16 0) hs10 (info16 _) (by simp only [d16_size]) (tab_oneCell _ _ fun _ => rfl) ?_ | (refine wpList_store_row rfl 37 _ _ rfl gY _ rfl rfl 37 (d16 0) hs11 (info16 _) (by simp only [d16_size]) (tab_oneCell _ _ fun _ => rfl) ?_; generalize hWW : World.setRow _ gY _ = U5 at *; clear hWW))
  clear hBW hb hs10 hz10   hs11 hz11  
  clear kBa kT1 kPn hFp hYy
  refine region_facts 7 [] [.val (.agg (d16 xx)), .val (.pointer (some ⟨fn, 0, none⟩)), .val (.pointer (some ⟨fn, 0, none⟩)), .val (.pointer (some ⟨fn, 0, none⟩)), .val (.agg (d16 m)), .val (.agg (d16 r)), .new 37 (d16 0)]
    (by kernel_rfl) (by kernel_rfl) (fun _ _ _ _ _ h => h) ?_ ?_
  · simp only [List.take_succ_cons, List.take_zero, StepsOK]
    refine ⟨?_, ?_, ?_, ?_, ?_, ?_, ?_, trivial⟩
    · intro v w' hb hf K hKt
      simp only [putAll, Act.put, List.setIfInBounds_toArray, List.set_cons_zero, List.set_cons_succ, Nat.zero_add, Nat.reduceAdd] at hKt ⊢
      exact wp_load_row 37 _ rfl (gX) rfl 37 _ (0, 0) _ (hXx.after hb) Tryd.underlying37 rfl (info16 _) (hKt _ (Below.refl _ _))
    · intro v w' hb hf K hKt
      simp only [putAll, Act.put, List.setIfInBounds_toArray, List.set_cons_zero, List.set_cons_succ, Nat.zero_add, Nat.reduceAdd] at hKt ⊢
      go_simp
      exact hKt _ (Below.refl _ _)
    · intro v w' hb hf K hKt
      have f1 : v 1 = _ := hf ⟨1, .data⟩ (by simp) rfl
      simp only [putAll, Act.put, List.setIfInBounds_toArray, List.set_cons_zero, List.set_cons_succ, Nat.zero_add, Nat.reduceAdd] at hKt ⊢
      rw [f1] at hKt ⊢
      go_simp
      exact hKt _ (Below.refl _ _)
    · intro v w' hb hf K hKt
      have f2 : v 2 = _ := hf ⟨2, .data⟩ (by simp) rfl
      simp only [putAll, Act.put, List.setIfInBounds_toArray, List.set_cons_zero, List.set_cons_succ, Nat.zero_add, Nat.reduceAdd] at hKt ⊢
      rw [f2] at hKt ⊢
      go_simp
      exact hKt _ (Below.refl _ _)
    · intro v w' hb hf K hKt
      have f3 : v 3 = _ := hf ⟨3, .data⟩ (by simp) rfl
      simp only [putAll, Act.put, List.setIfInBounds_toArray, List.set_cons_zero, List.set_cons_succ, Nat.zero_add, Nat.reduceAdd] at hKt ⊢
      rw [f3] at hKt ⊢
      exact wp_load_hex _ rfl (fn) 0 rfl m (fld_mod (show Has w' fn 61 (fldC m 16) from hF.after hb)) (hKt _ (Below.refl _ _))
    · intro v w' hb hf K hKt
      have f0 : v 0 = _ := hf ⟨0, .data⟩ (by simp) rfl
      have f4 : v 4 = _ := hf ⟨4, .data⟩ (by simp) rfl
      simp only [putAll, Act.put, List.setIfInBounds_toArray, List.set_cons_zero, List.set_cons_succ, Nat.zero_add, Nat.reduceAdd] at hKt ⊢
      rw [f0, f4] at hKt ⊢
      go_simp
      refine (kRx w').mono ?_
      rintro e w'' ⟨rfl, hb2⟩
      exact hKt _ hb2
    · exact ⟨rfl, rfl, zeroV16⟩
  intro v u5 hb hF hD
  have f0 : v 0 = _ := hF 0 (by decide)
  have f1 : v 1 = _ := hF 1 (by decide)
  have f2 : v 2 = _ := hF 2 (by decide)
  have f3 : v 3 = _ := hF 3 (by decide)
  have f4 : v 4 = _ := hF 4 (by decide)
  have f5 : v 5 = _ := hF 5 (by decide)
  obtain ⟨gr, f6, hg6, hl6, hz6⟩ := hF 6 (by decide)
  replace hz6 : Has u5 gr 37 (d16 0) := hz6
  simp only [List.take_succ_cons, List.take_zero, List.drop_succ_cons, List.drop_zero, putAll, Act.put, List.setIfInBounds_toArray, List.set_cons_zero, List.set_cons_succ, Nat.zero_add, Nat.reduceAdd]
  rw [f0, f1, f2, f3, f4, f5, f6]
  clear hF hD f0 f1 f2 f3 f4 f5 f6
  have hs6 := hz6
  have hBW := below_setRow (hb) (g := gr) hg6 (d16 r)
  have hRr := (hz6).setRow (d16 r)
  replace hA0 := hA0.after hBW
  replace hK0 := hK0.after hBW
  replace hXx := hXx.after hBW
  replace hF := hF.after hBW
  replace hb0 := below_trans hb0 hBW
  go_wp2_with (first | (refine wpList_store_row rfl 37 _ _ rfl gr _ rfl rfl 37 (d16 0) hs6 (info16 _) (by simp only [d16_size]) (tab_oneCell _ _ fun _ => rfl) ?_; generalize hWW : World.setRow _ gr _ = U55 at *; clear hWW))
  clear hBW hb hs6 hz6  
  clear kRx hXx
  refine (kS _ hb0).mono ?_
  rintro e u6 ⟨rfl, hx⟩
  have hz := put_new u6 62 (tab 32 fun _ => .int .u8 0) (tab 32 fun j => .int .u8 ((byB ev j : Nat) : Int))
  replace hA0 := (hA0.after hx).after hz.2; replace hK0 := (hK0.after hx).after hz.2; replace hF := (hF.after hx).after hz.2; replace hRr := (hRr.after hx).after hz.2; replace hb0 := below_trans (below_trans hb0 hx) hz.2
  have hD := hz.1
  have hsC := sliceAll u6.heap.size
  clear hx hz kS
  go_wp2_with (first | (refine wpList_store_row rfl 62 _ _ rfl u6.heap.size _ rfl rfl 62 (tab 32 fun _ => .int .u8 0) (Has.new' (by simp)) (infA32 _) (by simp only [tab_size]) (tab_oneCell _ _ fun _ => rfl) ?_; generalize hWW : World.setRow _ u6.heap.size _ = U6 at *; clear hWW))
  refine region_facts 8 [] [.val (.slice (some ⟨u6.heap.size, 0, none⟩) 32 32), .val (.agg (d16 ev)), .val (.pointer (some ⟨fn, 0, none⟩)), .val (.pointer (some ⟨fn, 0, none⟩)), .val (.pointer (some ⟨fn, 0, none⟩)), .val (.agg (d16 m)), .val (.agg (d16 e1)), .new 37 (d16 0)]
    (by kernel_rfl) (by kernel_rfl) (fun _ _ _ _ _ h => h) ?_ ?_
  · simp only [List.take_succ_cons, List.take_zero, StepsOK]
    refine ⟨?_, ?_, ?_, ?_, ?_, ?_, ?_, ?_, trivial⟩
    · intro v w' hb hf K hKt
      simp only [putAll, Act.put, List.setIfInBounds_toArray, List.set_cons_zero, List.set_cons_succ, Nat.zero_add, Nat.reduceAdd] at hKt ⊢
      go_simp
      exact hKt _ (Below.refl _ _)
    · intro v w' hb hf K hKt
      have f0 : v 0 = _ := hf ⟨0, .data⟩ (by simp) rfl
      simp only [putAll, Act.put, List.setIfInBounds_toArray, List.set_cons_zero, List.set_cons_succ, Nat.zero_add, Nat.reduceAdd] at hKt ⊢
      rw [f0] at hKt ⊢
      go_simp
      refine (kNe _ _ w' (hD.after hb).lt (fun j hj => by rw [Nat.zero_add]; exact (hD.after hb).cellTab j hj)).mono ?_
      rintro e w'' ⟨rfl, hb2⟩
      exact hKt _ hb2
    · intro v w' hb hf K hKt
      simp only [putAll, Act.put, List.setIfInBounds_toArray, List.set_cons_zero, List.set_cons_succ, Nat.zero_add, Nat.reduceAdd] at hKt ⊢
      go_simp
      exact hKt _ (Below.refl _ _)
    · intro v w' hb hf K hKt
      have f2 : v 2 = _ := hf ⟨2, .data⟩ (by simp) rfl
      simp only [putAll, Act.put, List.setIfInBounds_toArray, List.set_cons_zero, List.set_cons_succ, Nat.zero_add, Nat.reduceAdd] at hKt ⊢
      rw [f2] at hKt ⊢
      go_simp
      exact hKt _ (Below.refl _ _)
    · intro v w' hb hf K hKt
      have f3 : v 3 = _ := hf ⟨3, .data⟩ (by simp) rfl
      simp only [putAll, Act.put, List.setIfInBounds_toArray, List.set_cons_zero, List.set_cons_succ, Nat.zero_add, Nat.reduceAdd] at hKt ⊢
      rw [f3] at hKt ⊢
      go_simp
      exact hKt _ (Below.refl _ _)
    · intro v w' hb hf K hKt
      have f4 : v 4 = _ := hf ⟨4, .data⟩ (by simp) rfl
      simp only [putAll, Act.put, List.setIfInBounds_toArray, List.set_cons_zero, List.set_cons_succ, Nat.zero_add, Nat.reduceAdd] at hKt ⊢
      rw [f4] at hKt ⊢
      exact wp_load_hex _ rfl (fn) 0 rfl m (fld_mod (show Has w' fn 61 (fldC m 16) from hF.after hb)) (hKt _ (Below.refl _ _))
    · intro v w' hb hf K hKt
      have f1 : v 1 = _ := hf ⟨1, .data⟩ (by simp) rfl
      have f5 : v 5 = _ := hf ⟨5, .data⟩ (by simp) rfl
      simp only [putAll, Act.put, List.setIfInBounds_toArray, List.set_cons_zero, List.set_cons_succ, Nat.zero_add, Nat.reduceAdd] at hKt ⊢
      rw [f1, f5] at hKt ⊢
      go_simp
      refine (kRe w').mono ?_
      rintro e w'' ⟨rfl, hb2⟩
      exact hKt _ hb2
    · exact ⟨rfl, rfl, zeroV16⟩
  intro v u7 hb hF hD
  have f0 : v 0 = _ := hF 0 (by decide)
  have f1 : v 1 = _ := hF 1 (by decide)
  have f2 : v 2 = _ := hF 2 (by decide)
  have f3 : v 3 = _ := hF 3 (by decide)
  have f4 : v 4 = _ := hF 4 (by decide)
  have f5 : v 5 = _ := hF 5 (by decide)
  have f6 : v 6 = _ := hF 6 (by decide)
  obtain ⟨ge, f7, hg7, hl7, hz7⟩ := hF 7 (by decide)
  replace hz7 : Has u7 ge 37 (d16 0) := hz7
  simp only [List.take_succ_cons, List.take_zero, List.drop_succ_cons, List.drop_zero, putAll, Act.put, List.setIfInBounds_toArray, List.set_cons_zero, List.set_cons_succ, Nat.zero_add, Nat.reduceAdd]
  rw [f0, f1, f2, f3, f4, f5, f6, f7]
  clear hF hD f0 f1 f2 f3 f4 f5 f6 f7
  have hs7 := hz7
  have hBW := below_setRow (hb) (g := ge) hg7 (d16 e1)
  have hE := (hz7).setRow (d16 e1)
  replace hA0 := hA0.after hBW
  replace hK0 := hK0.after hBW
  replace hF := hF.after hBW
  replace hRr := hRr.after hBW
  replace hb0 := below_trans hb0 hBW
  go_wp2_with (first | (refine wpList_store_row rfl 37 _ _ rfl ge _ rfl rfl 37 (d16 0) hs7 (info16 _) (by simp only [d16_size]) (tab_oneCell _ _ fun _ => rfl) ?_; generalize hWW : World.setRow _ ge _ = U7 at *; clear hWW))
  clear hBW hb hs7 hz7  
  clear hsC kNe kRe hD
  refine region_facts 13 [] [.val (.pointer (some ⟨fn, 0, none⟩)), .val (.pointer (some ⟨fn, 0, none⟩)), .val (.agg (d16 kk)), .val (.agg (d16 iv)), .val (.pointer (some ⟨fn, 0, none⟩)), .val (.agg (d16 e1)), .val (.pointer (some ⟨fn, 0, none⟩)), .val (.agg (d16 r)), .val (.agg (d16 aa)), .val (.agg (d16 t1)), .val (.agg (d16 t2)), .val (.agg (d16 s)), .new 37 (d16 0)]
    (by kernel_rfl) (by kernel_rfl) (fun _ _ _ _ _ h => h) ?_ ?_
  · simp only [List.take_succ_cons, List.take_zero, StepsOK]
    refine ⟨?_, ?_, ?_, ?_, ?_, ?_, ?_, ?_, ?_, ?_, ?_, ?_, ?_, trivial⟩
    · intro v w' hb hf K hKt
      simp only [putAll, Act.put, List.setIfInBounds_toArray, List.set_cons_zero, List.set_cons_succ, Nat.zero_add, Nat.reduceAdd] at hKt ⊢
      go_simp
      exact hKt _ (Below.refl _ _)
    · intro v w' hb hf K hKt
      simp only [putAll, Act.put, List.setIfInBounds_toArray, List.set_cons_zero, List.set_cons_succ, Nat.zero_add, Nat.reduceAdd] at hKt ⊢
      go_simp
      exact hKt _ (Below.refl _ _)
    · intro v w' hb hf K hKt
      simp only [putAll, Act.put, List.setIfInBounds_toArray, List.set_cons_zero, List.set_cons_succ, Nat.zero_add, Nat.reduceAdd] at hKt ⊢
      exact wp_load_row 37 _ rfl (w.heap.size + 1) rfl 37 _ (0, 0) _ (hK0.after hb) Tryd.underlying37 rfl (info16 _) (hKt _ (Below.refl _ _))
    · intro v w' hb hf K hKt
      have f1 : v 1 = _ := hf ⟨1, .data⟩ (by simp) rfl
      have f2 : v 2 = _ := hf ⟨2, .data⟩ (by simp) rfl
      simp only [putAll, Act.put, List.setIfInBounds_toArray, List.set_cons_zero, List.set_cons_succ, Nat.zero_add, Nat.reduceAdd] at hKt ⊢
      rw [f1, f2] at hKt ⊢
      go_simp
      refine (kI _ w' (hF.after hb)).mono ?_
      rintro e w'' ⟨rfl, hb2⟩
      exact hKt _ hb2
    · intro v w' hb hf K hKt
      simp only [putAll, Act.put, List.setIfInBounds_toArray, List.set_cons_zero, List.set_cons_succ, Nat.zero_add, Nat.reduceAdd] at hKt ⊢
      go_simp
      exact hKt _ (Below.refl _ _)
    · intro v w' hb hf K hKt
      simp only [putAll, Act.put, List.setIfInBounds_toArray, List.set_cons_zero, List.set_cons_succ, Nat.zero_add, Nat.reduceAdd] at hKt ⊢
      exact wp_load_row 37 _ rfl (ge) rfl 37 _ (0, 0) _ (hE.after hb) Tryd.underlying37 rfl (info16 _) (hKt _ (Below.refl _ _))
    · intro v w' hb hf K hKt
      simp only [putAll, Act.put, List.setIfInBounds_toArray, List.set_cons_zero, List.set_cons_succ, Nat.zero_add, Nat.reduceAdd] at hKt ⊢
      go_simp
      exact hKt _ (Below.refl _ _)
    · intro v w' hb hf K hKt
      simp only [putAll, Act.put, List.setIfInBounds_toArray, List.set_cons_zero, List.set_cons_succ, Nat.zero_add, Nat.reduceAdd] at hKt ⊢
      exact wp_load_row 37 _ rfl (gr) rfl 37 _ (0, 0) _ (hRr.after hb) Tryd.underlying37 rfl (info16 _) (hKt _ (Below.refl _ _))
    · intro v w' hb hf K hKt
      simp only [putAll, Act.put, List.setIfInBounds_toArray, List.set_cons_zero, List.set_cons_succ, Nat.zero_add, Nat.reduceAdd] at hKt ⊢
      exact wp_load_row 37 _ rfl (w.heap.size) rfl 37 _ (0, 0) _ (hA0.after hb) Tryd.underlying37 rfl (info16 _) (hKt _ (Below.refl _ _))
    · intro v w' hb hf K hKt
      have f6 : v 6 = _ := hf ⟨6, .data⟩ (by simp) rfl
      have f7 : v 7 = _ := hf ⟨7, .data⟩ (by simp) rfl
      have f8 : v 8 = _ := hf ⟨8, .data⟩ (by simp) rfl
      simp only [putAll, Act.put, List.setIfInBounds_toArray, List.set_cons_zero, List.set_cons_succ, Nat.zero_add, Nat.reduceAdd] at hKt ⊢
      rw [f6, f7, f8] at hKt ⊢
      go_simp
      refine (kM1 _ w' (hF.after hb)).mono ?_
      rintro e w'' ⟨rfl, hb2⟩
      exact hKt _ hb2
    · intro v w' hb hf K hKt
      have f4 : v 4 = _ := hf ⟨4, .data⟩ (by simp) rfl
      have f5 : v 5 = _ := hf ⟨5, .data⟩ (by simp) rfl
      have f9 : v 9 = _ := hf ⟨9, .data⟩ (by simp) rfl
      simp only [putAll, Act.put, List.setIfInBounds_toArray, List.set_cons_zero, List.set_cons_succ, Nat.zero_add, Nat.reduceAdd] at hKt ⊢
      rw [f4, f5, f9] at hKt ⊢
      go_simp
      refine (kA _ w' (hF.after hb)).mono ?_
      rintro e w'' ⟨rfl, hb2⟩
      exact hKt _ hb2
    · intro v w' hb hf K hKt
      have f0 : v 0 = _ := hf ⟨0, .data⟩ (by simp) rfl
      have f3 : v 3 = _ := hf ⟨3, .data⟩ (by simp) rfl
      have f10 : v 10 = _ := hf ⟨10, .data⟩ (by simp) rfl
      simp only [putAll, Act.put, List.setIfInBounds_toArray, List.set_cons_zero, List.set_cons_succ, Nat.zero_add, Nat.reduceAdd] at hKt ⊢
      rw [f0, f3, f10] at hKt ⊢
      go_simp
      refine (kM2 _ w' (hF.after hb)).mono ?_
      rintro e w'' ⟨rfl, hb2⟩
      exact hKt _ hb2
    · exact ⟨rfl, rfl, zeroV16⟩
  intro v u8 hb hF hD
  have f0 : v 0 = _ := hF 0 (by decide)
  have f1 : v 1 = _ := hF 1 (by decide)
  have f2 : v 2 = _ := hF 2 (by decide)
  have f3 : v 3 = _ := hF 3 (by decide)
  have f4 : v 4 = _ := hF 4 (by decide)
  have f5 : v 5 = _ := hF 5 (by decide)
  have f6 : v 6 = _ := hF 6 (by decide)
  have f7 : v 7 = _ := hF 7 (by decide)
  have f8 : v 8 = _ := hF 8 (by decide)
  have f9 : v 9 = _ := hF 9 (by decide)
  have f10 : v 10 = _ := hF 10 (by decide)
  have f11 : v 11 = _ := hF 11 (by decide)
  obtain ⟨gs, f12, hg12, hl12, hz12⟩ := hF 12 (by decide)
  replace hz12 : Has u8 gs 37 (d16 0) := hz12
  simp only [List.take_succ_cons, List.take_zero, List.drop_succ_cons, List.drop_zero, putAll, Act.put, List.setIfInBounds_toArray, List.set_cons_zero, List.set_cons_succ, Nat.zero_add, Nat.reduceAdd]
  rw [f0, f1, f2, f3, f4, f5, f6, f7, f8, f9, f10, f11, f12]
  clear hF hD f0 f1 f2 f3 f4 f5 f6 f7 f8 f9 f10 f11 f12
  have hs12 := hz12
  have hBW := below_setRow (hb) (g := gs) hg12 (d16 s)
  have hSs := (hz12).setRow (d16 s)
  replace hA0 := hA0.after hBW
  replace hE := hE.after hBW
  replace hK0 := hK0.after hBW
  replace hRr := hRr.after hBW
  replace hF := hF.after hBW
  replace hb0 := below_trans hb0 hBW
  have eR := HER.out
  have eS := HES.out
  go_wp2_with (first | (refine wpList_store_row rfl 37 _ _ rfl gs _ rfl rfl 37 (d16 0) hs12 (info16 _) (by simp only [d16_size]) (tab_oneCell _ _ fun _ => rfl) ?_; generalize hWW : World.setRow _ gs _ = U8 at *; clear hWW) | refine wpList_load_has 37 _ rfl _ rfl rfl 37 _ hRr _ Tryd.underlying37 rfl (info16 _) ?_ | refine wpList_load_has 37 _ rfl _ rfl rfl 37 _ hSs _ Tryd.underlying37 rfl (info16 _) ?_ | refine wpList_parts rfl 37 _ rfl #[] rfl (.agg (d16 0)) buildZ ?_)
  clear hBW hb hs12 hz12  
  clear hA0 hK0 hE hF kI kM1 kA kM2 eR eS HER HES
  refine region_factsF 4 (lastF w.heap.size (r) (s)) (by kernel_rfl) (by kernel_rfl) (fun _ _ _ _ _ h => h) (lastF_keep _ _ _) ?_ ?_
  · simp only [List.take_succ_cons, List.take_zero, StepsF, StepF]
    refine ⟨?_, ?_, ?_, ?_, trivial⟩
    · intro v w' hb hf K hKt
      simp only [putAll, Act.put, List.setIfInBounds_toArray, List.set_cons_zero, List.set_cons_succ, Nat.zero_add, Nat.reduceAdd] at hKt ⊢
      exact wp_load_row 37 _ rfl (gr) rfl 37 _ (0, 0) _ (hRr.after hb) Tryd.underlying37 rfl (info16 _) (hKt _ _ (Below.refl _ _) rfl)
    · intro v w' hb hf K hKt
      have f0 : v 0 = _ := hf ⟨0, .data⟩ (by simp) rfl
      simp only [putAll, Act.put, List.setIfInBounds_toArray, List.set_cons_zero, List.set_cons_succ, Nat.zero_add, Nat.reduceAdd] at hKt ⊢
      rw [f0] at hKt ⊢
      go_simp
      refine (bytes5_any (r) w').mono ?_
      rintro e w'' ⟨⟨x, rfl, ho⟩, hb2⟩
      exact hKt _ _ hb2 (own_mono ho (Nat.le_trans hb0.size hb.size))
    · intro v w' hb hf K hKt
      simp only [putAll, Act.put, List.setIfInBounds_toArray, List.set_cons_zero, List.set_cons_succ, Nat.zero_add, Nat.reduceAdd] at hKt ⊢
      exact wp_load_row 37 _ rfl (gs) rfl 37 _ (0, 0) _ (hSs.after hb) Tryd.underlying37 rfl (info16 _) (hKt _ _ (Below.refl _ _) rfl)
    · intro v w' hb hf K hKt
      have f2 : v 2 = _ := hf ⟨2, .data⟩ (by simp) rfl
      simp only [putAll, Act.put, List.setIfInBounds_toArray, List.set_cons_zero, List.set_cons_succ, Nat.zero_add, Nat.reduceAdd] at hKt ⊢
      rw [f2] at hKt ⊢
      go_simp
      refine (bytes5_any (s) w').mono ?_
      rintro e w'' ⟨⟨x, rfl, ho⟩, hb2⟩
      obtain ⟨A3, c3, rfl⟩ := own_form ho
      have hS := own_slA ho
      exact hKt _ _ hb2 ⟨A3, c3, rfl, hS.1, hS.2⟩
  intro v uL hb hF
  have f0 : v 0 = _ := hF 0 (by decide)
  have f1 : uL.ownsRow w.heap.size 5 1 (v 1) 32 ((bytesOf (r)).map by8) := hF 1 (by decide)
  have f2 : v 2 = _ := hF 2 (by decide)
  obtain ⟨A3, c3, f3, hS3, hn3⟩ := hF 3 (by decide)
  simp only [List.take_succ_cons, List.take_zero, List.drop_succ_cons, List.drop_zero, putAll, Act.put, List.setIfInBounds_toArray, List.set_cons_zero, List.set_cons_succ, Nat.zero_add, Nat.reduceAdd]
  rw [f0, f2, f3]
  replace hb0 := below_trans hb0 hb
  clear hF f0 f2 f3 hb hRr hSs
  generalize v 1 = rv at *
  clear v
  have hsz := hb0.size
  go_wp2_with (refine wp_append_bytes rfl (.tmp 66) (.tmp 68) rfl w.heap.size rv 32 ((bytesOf (r)).map by8) rfl f1 A3 32 c3 rfl (bytesOf (s)) hS3 hn3 (by omega) hsz ?_; intro v4 w4 hown4 hg4)
  have hb4 : Below w.heap.size w w4 := hb0.grown hg4 hsz (fun k hk => (f1.lt k hk).1)
  go_ret
  exact ⟨⟨_, rfl, by rw [List.map_append]; exact hown4⟩, hb4⟩
end Go.Proofs.YtflkhlhpifmocaaDoor
namespace Go.Proofs.YtflkhlhpifmocaaDoor
open Go.RowKit

theorem baseX_v : cpX Ec.baseP = Ec.gX := by decide +kernel
theorem baseY_v : cpY Ec.baseP = Ec.gY := by decide +kernel
theorem tG_ok : (T3.mk Ec.gX Ec.gY 1).ok Ec.pp := ⟨by decide +kernel, by decide +kernel, by decide +kernel⟩
theorem tG_is : (T3.mk Ec.gX Ec.gY 1).is Ec.baseP := by
  have k := ptT_is Ec.baseP
  rw [show ptT Ec.baseP = T3.mk Ec.gX Ec.gY 1 by
    show T3.mk (Ec.gX % Ec.pp) (Ec.gY % Ec.pp) 1 = _
    rw [Nat.mod_eq_of_lt (show Ec.gX < Ec.pp by decide +kernel), Nat.mod_eq_of_lt (show Ec.gY < Ec.pp by decide +kernel)]] at k
  exact k
theorem public_one (w : World) : Calls Tryd.prog 11 #[.agg (d16 1)] w fun e w' => (∃ v, e = .returned v ∧ w'.ownsRow w.heap.size 5 1 v 64 (keyG.map by8)) ∧ Below w.heap.size w w' := by
  obtain ⟨o1, i1⟩ := T3_on_of Ec.baseP Ec.pp 1 fldPP rfl _ tG_ok tG_is Ec.base_on (by decide +kernel)
  have kT1 := fun f W (h : IsField W f Ec.pp) => times_any 1 Ec.pp f (T3.mk Ec.gX Ec.gY 1) W fldPP rfl tG_ok h
  generalize sumS Ec.pp 1 (T3.mk Ec.gX Ec.gY 1) 256 = t at *
  rw [Ec.smul_one] at i1
  have kPn := fun f W (h : IsField W f Ec.pp) => plain_any4 t Ec.baseP Ec.pp f W fldPP rfl o1 i1 h
  rw [baseX_v, baseY_v] at kPn
  exact public_walk 1 Ec.pp _ _ _ _ _ _ _ _ w refPP_any refBase_any kT1 kPn fldPP.1 fldPP.2.1
def Ec.i7L : Nat := 33083454060101785360770699128402163865713415778324502954977788303162432012677
theorem w7_one : wN 7 = Ec.i7L := (inv_uniq (w := Ec.i7L) (by decide +kernel)).trans (Nat.mod_eq_of_lt (by decide +kernel))
theorem p7_x : cpX (Ec.smul 7 Ec.baseP) = Ec.x7 := by
  rw [Ec.mult7]
  decide +kernel
theorem sign_one (A : Option Addr) (n c : Nat) (w : World) (hS : SlA w A n c [120]) (hnil : A = none → c = 0) : Calls Tryd.prog 12 #[.agg (d16 1), .agg (d16 7), .slice A n c] w fun e w' => (∃ v, e = .returned v ∧ w'.ownsRow w.heap.size 5 1 v 64 (sigG.map by8)) ∧ Below w.heap.size w w' := by
  obtain ⟨o1, i1⟩ := T3_on_of Ec.baseP Ec.pp 7 fldPP rfl _ tG_ok tG_is Ec.base_on (by decide +kernel)
  have kT1 := fun f W (h : IsField W f Ec.pp) => times_any 7 Ec.pp f (T3.mk Ec.gX Ec.gY 1) W fldPP rfl tG_ok h
  generalize sumS Ec.pp 7 (T3.mk Ec.gX Ec.gY 1) 256 = t at *
  have kPn := fun f W (h : IsField W f Ec.pp) => plain_any4 t (Ec.smul 7 Ec.baseP) Ec.pp f W fldPP rfl o1 i1 h
  rw [p7_x] at kPn
  generalize cpY (Ec.smul 7 Ec.baseP) = yv at *
  generalize (!cpN (Ec.smul 7 Ec.baseP)) = sv at *
  have kRx := fun W => reduce3_any Ec.x7 Ec.ordN W (by decide +kernel) fldN.1 fldN.2.1
  rw [show Ec.x7 % Ec.ordN = Ec.r7 from rfl] at kRx
  have hl : n ≤ 2000 := by have := hS.1; simp at this; omega
  have kS := fun W (hb : Below w.heap.size w W) => ref_any [120] A n c W (hS.below hb) hnil hl
  rw [show (tab 32 fun j => by8 (shaOf [120] j)) = (tab 32 fun j => .int .u8 ((byB (dgst [120]) j : Nat) : Int)) from tab_ext _ _ _ fun j hj => by rw [dgst_byte [120] j hj]; rfl] at kS
  have kRe := fun W => reduce3_any (dgst [120]) Ec.ordN W (by rw [big16]; exact dgst_lt _) fldN.1 fldN.2.1
  have kI := fun f W (h : IsField W f Ec.ordN) => rinv_is 7 f W h (by decide +kernel)
  rw [dig_x] at kRe
  rw [w7_one] at kI
  have kM1 := fun f W (h : IsField W f Ec.ordN) => fmul_c Ec.r7 1 Ec.ordN f W h fldN (by decide +kernel) (by decide +kernel)
  rw [show Ec.r7 * 1 % Ec.ordN = Ec.r7 by decide +kernel] at kM1
  have kA := fun f W (h : IsField W f Ec.ordN) => fadd_c Ec.exN Ec.r7 Ec.ordN f W h fldN (by decide +kernel) (by decide +kernel)
  have kM2 := fun f W (h : IsField W f Ec.ordN) => fmul_c Ec.i7L ((Ec.exN + Ec.r7) % Ec.ordN) Ec.ordN f W h fldN (by decide +kernel) (by decide +kernel)
  rw [show Ec.i7L * ((Ec.exN + Ec.r7) % Ec.ordN) % Ec.ordN = Ec.s7 by decide +kernel] at kM2
  exact sign_walk 1 7 Ec.ordN Ec.pp _ _ _ _ _ _ _ Ec.r7 (dgst [120]) _ _ _ _ Ec.s7 _ A n c w refPP_any refBase_any kT1 kPn fldPP.1 fldPP.2.1 fldN.1 fldN.2.1 (by decide +kernel) (by decide +kernel) (by decide +kernel) (by decide +kernel) (dgst_lt _) refN_any kRx kS kRe kI kM1 kA kM2
end Go.Proofs.YtflkhlhpifmocaaDoor
namespace Go.Proofs.YtflkhlhpifmocaaDoor
open Go.RowKit

theorem buildN1' (W : World) : (Instr.build 37 #[(0, .int .u64 1)]).run Tryd.prog W = .ok (.agg (d16 1)) W := by kernel_rfl
theorem buildN7 (W : World) : (Instr.build 37 #[(0, .int .u64 7)]).run Tryd.prog W = .ok (.agg (d16 7)) W := by kernel_rfl
theorem seven16 : (#[Value.int IntKind.u64 7, Value.int IntKind.u64 0, Value.int IntKind.u64 0, Value.int IntKind.u64 0, Value.int IntKind.u64 0, Value.int IntKind.u64 0, Value.int IntKind.u64 0, Value.int IntKind.u64 0, Value.int IntKind.u64 0, Value.int IntKind.u64 0, Value.int IntKind.u64 0, Value.int IntKind.u64 0, Value.int IntKind.u64 0, Value.int IntKind.u64 0, Value.int IntKind.u64 0, Value.int IntKind.u64 0] : Array Value) = d16 7 := by kernel_rfl
theorem one_slA (u : World) (x : UInt8) (v : Value) (fr : Nat × Nat) (hv : v = by8 x) : SlA (u.alloc (.cells #[v] 5 fr)) (some ⟨u.heap.size, 0, none⟩) 1 1 [x] := by
  refine ⟨rfl, Nat.le_refl _, fun _ => ⟨u.heap.size, 0, rfl, by simp, fun j hj => ?_⟩⟩
  obtain rfl : j = 0 := by omega
  rw [hv]
  have h : (u.alloc (.cells #[by8 x] 5 fr)).heap[u.heap.size]? = some (.cells #[by8 x] 5 fr) := by
    show (u.heap.push _)[u.heap.size]? = _
    simp
  unfold World.cell?
  rw [h]
  rfl
theorem slice1 (b o c : Nat) (hc : 64 ≤ c) (W : World) : (Instr.sliceAt 22 (.slice (some ⟨b, o, none⟩) 64 c) (some (.int .i64 1)) none none).run Tryd.prog W = .ok (.slice (some ⟨b, o + 1, none⟩) 63 (c - 1)) W := by
  have h1 : (64 : Int) ≤ (c : Int) := by omega
  have h2 : (c : Int) - 1 = ((c - 1 : Nat) : Int) := by omega
  have h4 : ¬ c = 1 := by omega
  go_simp
theorem tail_slA {w : World} {b o c : Nat} {bs : List UInt8} (h : SlA w (some ⟨b, o, none⟩) 64 c bs) : SlA w (some ⟨b, o + 1, none⟩) 63 (c - 1) bs.tail := by
  obtain ⟨hl, hc, h1⟩ := h
  obtain ⟨b', o', e, hlt, hcell⟩ := h1 (by omega)
  obtain ⟨rfl, rfl⟩ : b' = b ∧ o' = o := by injection e with e; injection e with e1 e2; exact ⟨e1.symm, e2.symm⟩
  refine ⟨by rw [List.length_tail]; omega, by omega, fun _ => ⟨b', o' + 1, rfl, hlt, fun j hj => ?_⟩⟩
  rw [show o' + 1 + j = o' + (j + 1) by omega, hcell (j + 1) (by omega)]
  simp [List.getD_eq_getElem?_getD]
theorem nil_slA (w : World) : SlA w none 0 0 [] := ⟨rfl, Nat.le_refl _, fun h => absurd h (Nat.lt_irrefl _)⟩
theorem sv_is {kb mb sb : List UInt8} {v : Nat} {Ak Am As : Option Addr} {nk ck nm cm ns cs : Nat} {w : World} (hv : verN kb mb sb = v) (hL : Laid w) (hT : Tabs w) (hk : SlA w Ak nk ck kb) (hm : SlA w Am nm cm mb) (hs : SlA w As ns cs sb) (hl : mb.length ≤ 1000000) :
    Calls Tryd.prog 6 #[.slice Ak nk ck, .slice Am nm cm, .slice As ns cs] w fun e w' => e = .returned (.int .i64 ((v : Nat) : Int)) ∧ Below w.heap.size w w' := by
  have k := sverify_is kb mb sb Ak Am As nk ck nm cm ns cs w hL hT hk hm hs hl
  rw [hv] at k
  exact k
theorem own64 {w : World} {B : Nat} {v : Value} {bs : List UInt8} (h : w.ownsRow B 5 1 v 64 (bs.map by8)) : ∃ b o c, v = .slice (some ⟨b, o, none⟩) 64 c ∧ 64 ≤ c ∧ SlA w (some ⟨b, o, none⟩) 64 c bs := by
  obtain ⟨A, c, rfl⟩ := own_form h
  have hS := (own_slA h).1
  obtain ⟨b, o, rfl, _, _⟩ := hS.2.2 (by omega)
  exact ⟨b, o, c, rfl, hS.2.1, hS⟩
attribute [local go_sem] one16 seven16
set_option maxRecDepth 100000 in
set_option maxHeartbeats 2000000 in
theorem fit5_any (w : World) (hL : Laid w) (hT : Tabs w) : Calls Tryd.prog 5 #[] w fun e w' => e = .returned (.bool true) ∧ Below w.heap.size w w' := by
  have hb0 := Below.refl w.heap.size w
  have n0 := d16_ne 1
  have n7 := d16_ne 7
  have hcv := fun (w : World) (C : Array Value) (n c : Nat) => Lib.run_convert_bytes_const (P := Tryd.prog) w 22 5 C n c Tryd.underlying22 Tryd.underlying5
  go_enter Tryd.func5, Tryd.ntmps5
  go_wp2_with (first | refine wpList_parts rfl 37 _ rfl #[(0, .int .u64 1)] rfl (.agg (d16 1)) buildN1' ?_ | refine wpList_parts rfl 37 _ rfl #[(0, .int .u64 7)] rfl (.agg (d16 7)) buildN7 ?_)
  refine (public_one _).mono ?_
  rintro e u1 ⟨⟨v1, rfl, ho1⟩, hx⟩
  obtain ⟨b1, o1, c1, rfl, hc1, hS1⟩ := own64 ho1
  replace hb0 := below_trans hb0 hx
  clear hx ho1
  go_wp2_with (first | refine wpList_parts rfl 37 _ rfl #[(0, .int .u64 1)] rfl (.agg (d16 1)) buildN1' ?_ | refine wpList_parts rfl 37 _ rfl #[(0, .int .u64 7)] rfl (.agg (d16 7)) buildN7 ?_)
  have hx := (Below.refl u1.heap.size u1).alloc (Nat.le_refl _) (.cells #[.int .u8 120] 5 (1, 2))
  have hM1 := one_slA u1 120 (.int .u8 120) (1, 2) rfl
  replace hb0 := below_trans hb0 hx
  replace hS1 := hS1.below hx
  clear hx
  refine (sign_one _ _ _ _ hM1 (fun h => by cases h)).mono ?_
  rintro e u2 ⟨⟨v2, rfl, ho2⟩, hx⟩
  obtain ⟨b2, o2, c2, rfl, hc2, hS2⟩ := own64 ho2
  replace hb0 := below_trans hb0 hx
  replace hS1 := hS1.below hx
  clear hx ho2 hM1
  have hs1 := slice1 b1 o1 c1 hc1
  go_wp2_with fail
  have hx := (Below.refl u2.heap.size u2).alloc (Nat.le_refl _) (.cells #[.int .u8 120] 5 (1, 2))
  have hM := one_slA u2 120 (.int .u8 120) (1, 2) rfl
  replace hb0 := below_trans hb0 hx
  replace hS1 := hS1.below hx
  replace hS2 := hS2.below hx
  clear hx
  refine (sv_is ver_x (hL.after hb0) (hT.below hb0) hS1 hM hS2 (by decide)).mono ?_
  rintro e u3 ⟨rfl, hx⟩
  replace hb0 := below_trans hb0 hx
  replace hS1 := hS1.below hx
  replace hS2 := hS2.below hx
  clear hx hM
  go_wp2_with fail
  have hx := (Below.refl u3.heap.size u3).alloc (Nat.le_refl _) (.cells #[.int .u8 121] 5 (1, 2))
  have hM := one_slA u3 121 (.int .u8 121) (1, 2) rfl
  replace hb0 := below_trans hb0 hx
  replace hS1 := hS1.below hx
  replace hS2 := hS2.below hx
  clear hx
  refine (sv_is ver_y (hL.after hb0) (hT.below hb0) hS1 hM hS2 (by decide)).mono ?_
  rintro e u4 ⟨rfl, hx⟩
  replace hb0 := below_trans hb0 hx
  replace hS1 := hS1.below hx
  replace hS2 := hS2.below hx
  clear hx hM
  go_wp2_with fail
  refine (sv_is ver_short (hL.after hb0) (hT.below hb0) (tail_slA hS1) (nil_slA _) hS2 (by decide)).mono ?_
  rintro e u5 ⟨rfl, hx⟩
  replace hb0 := below_trans hb0 hx
  clear hx hS1 hS2 hs1
  go_wp2_with fail
  go_ret
  exact ⟨rfl, hb0⟩
end Go.Proofs.YtflkhlhpifmocaaDoor
namespace Go.Proofs.YtflkhlhpifmocaaDoor
open Go.RowKit

theorem errEq (o1 o2 : Operand) (w : World) : (do eqGuard .eql 24 o1 o2 (.int .i64 0) (.int .i64 0); binOp .eql 24 (.int .i64 0) (.int .i64 0) : Sem Value).run Tryd.prog w = .ok (.bool true) w := by
  go_simp
set_option maxRecDepth 100000 in
set_option maxHeartbeats 2000000 in
theorem decides_ok (kb mb sb : List UInt8) (Ak Am As : Option Addr) (nk ck nm cm ns cs : Nat) (w : World) (hL : Laid w) (hT : Tabs w) (hk : SlA w Ak nk ck kb) (hm : SlA w Am nm cm mb) (hs : SlA w As ns cs sb) (hnil : Am = none → cm = 0) :
    Calls Tryd.prog 3 #[.slice Ak nk ck, .slice Am nm cm, .slice As ns cs] w fun e w' => e = .returned (.bool true) ∧ Below w.heap.size w w' := by
  have hb0 := Below.refl w.heap.size w
  have hml := hm.1
  go_enter Tryd.func3, Tryd.ntmps3
  go_wp2_with fail
  refine (fit5_any _ hL hT).mono ?_
  rintro e u1 ⟨rfl, hx⟩
  replace hb0 := below_trans hb0 hx
  clear hx
  by_cases hd : (300 : Int) < (nm : Int)
  · go_wp2_with fail
    go_ret
    exact ⟨rfl, hb0⟩
  · go_wp2_with fail
    refine (sverify_is kb mb sb Ak Am As nk ck nm cm ns cs _ (hL.after hb0) (hT.below hb0) (hk.below hb0) (hm.below hb0) (hs.below hb0) (by omega)).mono ?_
    rintro e u2 ⟨rfl, hx⟩
    replace hb0 := below_trans hb0 hx
    clear hx
    have kR := rverify_is kb mb sb Ak Am As nk ck nm cm ns cs u2 (hk.below hb0) (hm.below hb0) (hs.below hb0) hnil (by omega)
    generalize verN kb mb sb = z at *
    go_wp2_with fail
    refine kR.mono ?_
    rintro e u3 ⟨rfl, hx⟩
    replace hb0 := below_trans hb0 hx
    clear hx kR
    go_wp2_with fail
    go_ret
    exact ⟨rfl, hb0⟩
attribute [local go_sem] zero16 zero48 one16 zero17c zeroNum
set_option maxRecDepth 100000 in
set_option maxHeartbeats 2000000 in
theorem keys_good (kb : List UInt8) (A : Option Addr) (n c : Nat) (w : World) (hL : Laid w) (hT : Tabs w) (hk : SlA w A n c kb) (hK : KeyB kb) :
    Calls Tryd.prog 4 #[.slice A n c] w fun e w' => e = .returned (.bool true) ∧ Below w.heap.size w w' := by
  have hb0 := Below.refl w.heap.size w
  have n0 := nums_ne 0
  have d0 := d16_ne 0
  have c0 := cpC_ne 0 0 false
  have lX := numAt_lt kb 0
  have lY := numAt_lt kb 32
  go_enter Tryd.func4, Tryd.ntmps4
  go_wp2_with fail
  refine (fit5_any _ hL hT).mono ?_
  rintro e u1 ⟨rfl, hx⟩
  replace hb0 := below_trans hb0 hx
  clear hx
  go_wp2_with fail
  refine (skey_good kb A n c _ (hL.after hb0) (hk.below hb0) hK).mono ?_
  rintro e u2 ⟨rfl, hx⟩
  have hz := put_new u2 32 (cpC 0 0 false) (cpC (numAt kb 0) (numAt kb 32) false)
  replace hb0 := below_trans (below_trans hb0 hx) hz.2
  have hP := hz.1
  clear hx hz
  go_wp2_with (first | (refine wpList_store_row rfl 32 _ _ rfl u2.heap.size _ rfl rfl 32 (cpC 0 0 false) (Has.new' rfl) (infoCp _ _ _) (by simp only [cpC_size]) (cpC_one _ _ _) ?_; generalize hWW : World.setRow _ u2.heap.size _ = U2 at *; clear hWW))
  refine (rkey_good kb A n c _ (hk.below hb0) hK).mono ?_
  rintro e u3 ⟨rfl, hx⟩
  have hz := put_new u3 39 (ptC 0 0 0) (ptC (numAt kb 0) (numAt kb 32) 1)
  replace hb0 := below_trans (below_trans hb0 hx) hz.2
  replace hP := (hP.after hx).after hz.2
  have hQ := hz.1
  clear hx hz
  generalize numAt kb 0 = X at *
  generalize numAt kb 32 = Y at *
  go_wp2_with (first | (refine wpList_store_row rfl 39 _ _ rfl u3.heap.size _ rfl rfl 39 (ptC 0 0 0) (Has.new' rfl) (infoPt _ _ _) (by simp only [ptC_size]) (tab_oneCell _ _ fun _ => rfl) ?_; generalize hWW : World.setRow _ u3.heap.size _ = U3 at *; clear hWW))
  refine region_quiet_tail (Below U3.heap.size U3) 23 (by kernel_rfl) (by kernel_rfl) (below_drewN (Below.refl _ _) 1) ?_
  simp only [List.take_succ_cons, List.take_zero, List.drop_succ_cons, List.drop_zero]
  refine WQ.out ?_
  refine WQ.lift (wpQ_move _ rfl rfl (.int .i64 0) rfl) ?_
  simp only [Act.put, List.setIfInBounds_toArray, List.set_cons_zero, List.set_cons_succ]
  refine WQ.lift (wpQ_bin _ _ _ _ _ rfl rfl (.int .i64 0) (.int .i64 0) rfl rfl (.bool true) (fun w' _ => errEq _ _ w')) ?_
  simp only [Act.put, List.setIfInBounds_toArray, List.set_cons_zero, List.set_cons_succ]
  refine WQ.lift (wpQ_move _ rfl rfl (.bool true) rfl) ?_
  simp only [Act.put, List.setIfInBounds_toArray, List.set_cons_zero, List.set_cons_succ]
  refine WQ.lift (wpQ_val rfl (.pointer (some ⟨u2.heap.size, 16, none⟩)) (fun w' _ => by go_simp)) ?_
  simp only [Act.put, List.setIfInBounds_toArray, List.set_cons_zero, List.set_cons_succ]
  refine WQ.lift (wpQ_load 4 (.tmp 44) rfl rfl (.pointer (some ⟨u2.heap.size, 16, none⟩)) rfl (.bool false) (fun w' hC => cell_bool _ _ _ w' (cp_n (hP.after hC)))) ?_
  simp only [Act.put, List.setIfInBounds_toArray, List.set_cons_zero, List.set_cons_succ]
  refine WQ.lift (wpQ_un _ _ _ rfl rfl (.bool false) rfl (.bool true) (fun w' _ => notB false w')) ?_
  simp only [Act.put, List.setIfInBounds_toArray, List.set_cons_zero, List.set_cons_succ]
  refine WQ.lift (wpQ_pick _ _ _ rfl rfl true rfl (.bool true) rfl) ?_
  simp only [Act.put, List.setIfInBounds_toArray, List.set_cons_zero, List.set_cons_succ]
  refine WQ.lift (wpQ_move _ rfl rfl (.bool true) rfl) ?_
  simp only [Act.put, List.setIfInBounds_toArray, List.set_cons_zero, List.set_cons_succ]
  refine WQ.lift (wpQ_val rfl (.pointer (some ⟨u2.heap.size, 0, none⟩)) (fun w' _ => by go_simp)) ?_
  simp only [Act.put, List.setIfInBounds_toArray, List.set_cons_zero, List.set_cons_succ]
  refine WQ.lift (wpQ_load_w8 rfl _ rfl u2.heap.size 0 rfl X (fun w' hC => cp_x (hP.after hC))) ?_
  simp only [Act.put, List.setIfInBounds_toArray, List.set_cons_zero, List.set_cons_succ]
  refine WQ.lift (wpQ_val rfl (.pointer (some ⟨u3.heap.size, 0, none⟩)) (fun w' _ => by go_simp)) ?_
  simp only [Act.put, List.setIfInBounds_toArray, List.set_cons_zero, List.set_cons_succ]
  refine WQ.lift (wpQ_load_hex rfl _ rfl u3.heap.size 0 rfl X (fun w' hC => pt_x (hQ.after hC))) ?_
  simp only [Act.put, List.setIfInBounds_toArray, List.set_cons_zero, List.set_cons_succ]
  refine WQ.lift (wpQ_fn 10 _ _ rfl rfl #[.agg (d16 X)] rfl (fun _ => by go_simp) (.agg (nums X)) (fun w' hC => (words3_any X w' lX).mono fun e w'' ⟨he, hb⟩ => ⟨he, below_class hC hb⟩)) ?_
  simp only [Act.put, List.setIfInBounds_toArray, List.set_cons_zero, List.set_cons_succ]
  refine WQ.lift (wpQ_bin _ _ _ _ _ rfl rfl (.agg (nums X)) (.agg (nums X)) rfl rfl (.bool true) (fun w' _ => numEq4 _ _ _ w')) ?_
  simp only [Act.put, List.setIfInBounds_toArray, List.set_cons_zero, List.set_cons_succ]
  refine WQ.lift (wpQ_pick _ _ _ rfl rfl true rfl (.bool true) rfl) ?_
  simp only [Act.put, List.setIfInBounds_toArray, List.set_cons_zero, List.set_cons_succ]
  refine WQ.lift (wpQ_move _ rfl rfl (.bool true) rfl) ?_
  simp only [Act.put, List.setIfInBounds_toArray, List.set_cons_zero, List.set_cons_succ]
  refine WQ.lift (wpQ_val rfl (.pointer (some ⟨u2.heap.size, 8, none⟩)) (fun w' _ => by go_simp)) ?_
  simp only [Act.put, List.setIfInBounds_toArray, List.set_cons_zero, List.set_cons_succ]
  refine WQ.lift (wpQ_load_w8 rfl _ rfl u2.heap.size 8 rfl Y (fun w' hC => cp_y (hP.after hC))) ?_
  simp only [Act.put, List.setIfInBounds_toArray, List.set_cons_zero, List.set_cons_succ]
  refine WQ.lift (wpQ_val rfl (.pointer (some ⟨u3.heap.size, 16, none⟩)) (fun w' _ => by go_simp)) ?_
  simp only [Act.put, List.setIfInBounds_toArray, List.set_cons_zero, List.set_cons_succ]
  refine WQ.lift (wpQ_load_hex rfl _ rfl u3.heap.size 16 rfl Y (fun w' hC => pt_y (hQ.after hC))) ?_
  simp only [Act.put, List.setIfInBounds_toArray, List.set_cons_zero, List.set_cons_succ]
  refine WQ.lift (wpQ_fn 10 _ _ rfl rfl #[.agg (d16 Y)] rfl (fun _ => by go_simp) (.agg (nums Y)) (fun w' hC => (words3_any Y w' lY).mono fun e w'' ⟨he, hb⟩ => ⟨he, below_class hC hb⟩)) ?_
  simp only [Act.put, List.setIfInBounds_toArray, List.set_cons_zero, List.set_cons_succ]
  refine WQ.lift (wpQ_bin _ _ _ _ _ rfl rfl (.agg (nums Y)) (.agg (nums Y)) rfl rfl (.bool true) (fun w' _ => numEq4 _ _ _ w')) ?_
  simp only [Act.put, List.setIfInBounds_toArray, List.set_cons_zero, List.set_cons_succ]
  refine WQ.lift (wpQ_pick _ _ _ rfl rfl true rfl (.bool true) rfl) ?_
  simp only [Act.put, List.setIfInBounds_toArray, List.set_cons_zero, List.set_cons_succ]
  refine WQ.mk (wpQuiet_nil ?_)
  intro u4 hC
  replace hb0 := below_trans hb0 hC
  clear hC
  go_wp2_with fail
  go_ret
  exact ⟨rfl, hb0⟩
set_option maxRecDepth 100000 in
set_option maxHeartbeats 2000000 in
theorem keys_form (kb : List UInt8) (A : Option Addr) (n c : Nat) (w : World) (hL : Laid w) (hT : Tabs w) (hk : SlA w A n c kb) (hn : n = 64) (hK : ¬ KeyB kb) :
    Calls Tryd.prog 4 #[.slice A n c] w fun e w' => e = .returned (.bool true) ∧ Below w.heap.size w w' := by
  have hb0 := Below.refl w.heap.size w
  have n0 := nums_ne 0
  have d0 := d16_ne 0
  have c0 := cpC_ne 0 0 false
  subst hn
  have eN : ∀ W, (Op.equalIn 10000 30 (.agg (nums 0)) (.agg (nums 0))).run Tryd.prog W = .ok true W := fun W => eqIn8 9998 0 W
  go_enter Tryd.func4, Tryd.ntmps4
  go_wp2_with fail
  refine (fit5_any _ hL hT).mono ?_
  rintro e u1 ⟨rfl, hx⟩
  replace hb0 := below_trans hb0 hx
  clear hx
  go_wp2_with fail
  refine (skey_form kb A 64 c _ (hL.after hb0) (hk.below hb0) rfl hK).mono ?_
  rintro e u2 ⟨rfl, hx⟩
  have hz := put_new u2 32 (cpC 0 0 false) (cpC 0 0 false)
  replace hb0 := below_trans (below_trans hb0 hx) hz.2
  have hP := hz.1
  clear hx hz
  go_wp2_with (first | (refine wpList_store_row rfl 32 _ _ rfl u2.heap.size _ rfl rfl 32 (cpC 0 0 false) (Has.new' rfl) (infoCp _ _ _) (by simp only [cpC_size]) (cpC_one _ _ _) ?_; generalize hWW : World.setRow _ u2.heap.size _ = U2 at *; clear hWW))
  refine (rkey_bad kb A 64 c _ (hk.below hb0) hK).mono ?_
  rintro e u3 ⟨rfl, hx⟩
  have hz := put_new u3 39 (ptC 0 0 0) (ptC 0 0 0)
  replace hb0 := below_trans (below_trans hb0 hx) hz.2
  replace hP := (hP.after hx).after hz.2
  have hQ := hz.1
  clear hx hz
  go_wp2_with (first | (refine wpList_store_row rfl 39 _ _ rfl u3.heap.size _ rfl rfl 39 (ptC 0 0 0) (Has.new' rfl) (infoPt _ _ _) (by simp only [ptC_size]) (tab_oneCell _ _ fun _ => rfl) ?_; generalize hWW : World.setRow _ u3.heap.size _ = U3 at *; clear hWW) | refine wpList_load_numG rfl _ rfl u2.heap.size 0 rfl 0 (cp_x hP) ?_ | refine wpList_parts rfl 30 _ rfl #[] rfl (.agg (nums 0)) buildN0 ?_)
  go_ret
  exact ⟨rfl, hb0⟩
set_option maxRecDepth 100000 in
set_option maxHeartbeats 2000000 in
theorem keys_short (kb : List UInt8) (A : Option Addr) (n c : Nat) (w : World) (hL : Laid w) (hT : Tabs w) (hk : SlA w A n c kb) (hn : n ≠ 64) (hK : ¬ KeyB kb) :
    Calls Tryd.prog 4 #[.slice A n c] w fun e w' => e = .returned (.bool true) ∧ Below w.heap.size w w' := by
  have hb0 := Below.refl w.heap.size w
  have n0 := nums_ne 0
  have d0 := d16_ne 0
  have c0 := cpC_ne 0 0 false
  have hd : ((n : Int) == 64) = false := beq_eq_false_iff_ne.2 (by omega)
  have hd2 : ((n : Int) != 64) = true := bne_iff_ne.2 (by omega)
  have eN : ∀ W, (Op.equalIn 10000 30 (.agg (nums 0)) (.agg (nums 0))).run Tryd.prog W = .ok true W := fun W => eqIn8 9998 0 W
  go_enter Tryd.func4, Tryd.ntmps4
  go_wp2_with fail
  refine (fit5_any _ hL hT).mono ?_
  rintro e u1 ⟨rfl, hx⟩
  replace hb0 := below_trans hb0 hx
  clear hx
  go_wp2_with fail
  refine (skey_short A n c _ (hL.after hb0) hn).mono ?_
  rintro e u2 ⟨rfl, hx⟩
  have hz := put_new u2 32 (cpC 0 0 false) (cpC 0 0 false)
  replace hb0 := below_trans (below_trans hb0 hx) hz.2
  have hP := hz.1
  clear hx hz
  go_wp2_with (first | (refine wpList_store_row rfl 32 _ _ rfl u2.heap.size _ rfl rfl 32 (cpC 0 0 false) (Has.new' rfl) (infoCp _ _ _) (by simp only [cpC_size]) (cpC_one _ _ _) ?_; generalize hWW : World.setRow _ u2.heap.size _ = U2 at *; clear hWW))
  refine (rkey_bad kb A n c _ (hk.below hb0) hK).mono ?_
  rintro e u3 ⟨rfl, hx⟩
  have hz := put_new u3 39 (ptC 0 0 0) (ptC 0 0 0)
  replace hb0 := below_trans (below_trans hb0 hx) hz.2
  replace hP := (hP.after hx).after hz.2
  have hQ := hz.1
  clear hx hz
  go_wp2_with (first | (refine wpList_store_row rfl 39 _ _ rfl u3.heap.size _ rfl rfl 39 (ptC 0 0 0) (Has.new' rfl) (infoPt _ _ _) (by simp only [ptC_size]) (tab_oneCell _ _ fun _ => rfl) ?_; generalize hWW : World.setRow _ u3.heap.size _ = U3 at *; clear hWW) | refine wpList_load_numG rfl _ rfl u2.heap.size 0 rfl 0 (cp_x hP) ?_ | refine wpList_parts rfl 30 _ rfl #[] rfl (.agg (nums 0)) buildN0 ?_)
  go_ret
  exact ⟨rfl, hb0⟩
theorem keys_ok (kb : List UInt8) (A : Option Addr) (n c : Nat) (w : World) (hL : Laid w) (hT : Tabs w) (hk : SlA w A n c kb) :
    Calls Tryd.prog 4 #[.slice A n c] w fun e w' => e = .returned (.bool true) ∧ Below w.heap.size w w' := by
  by_cases hK : KeyB kb
  · exact keys_good kb A n c w hL hT hk hK
  · by_cases hn : n = 64
    · exact keys_form kb A n c w hL hT hk hn hK
    · exact keys_short kb A n c w hL hT hk hn hK
end Go.Proofs.YtflkhlhpifmocaaDoor
