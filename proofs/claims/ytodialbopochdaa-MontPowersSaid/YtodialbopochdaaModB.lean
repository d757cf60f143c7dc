/-
Package mont: one word's step of a product.
-/
import Derived.Test.YtodialbopochdaaModA
namespace Go.Proofs.Ytodialbopochdaa
open Go.RowKit

abbrev BB : Nat := 4294967296
/-- k words of the next number are written over the old ones -/
def lowF (T V k j : Nat) : Nat := if j < k then wrd V (j + 1) else wrd T j
def lowA (T V k : Nat) : Array Value := tab 8 fun j => .int .u32 ((lowF T V k j : Nat) : Int)
theorem lowA_start (T V : Nat) : lowA T V 0 = nums T := tab_ext _ _ _ fun j _ => by simp [lowF, dgs, wrd]
theorem lowA_set (T V k : Nat) : (lowA T V k).setIfInBounds k (.int .u32 ((wrd V (k + 1) : Nat) : Int)) = lowA T V (k + 1) := by
  unfold lowA
  rw [tab_set]
  refine tab_ext _ _ _ fun j _ => ?_
  unfold lowF
  by_cases h : j = k
  · subst h; simp
  · rw [if_neg h]
    by_cases h2 : j < k
    · rw [if_pos h2, if_pos (by omega)]
    · rw [if_neg h2, if_neg (by omega)]
theorem lowA_end (T w b m ni : Nat) : lowA T (sumN BB T w b m ni) 8 = nums (stepN BB T w b m ni) := tab_ext _ _ _ fun j hj => by
  unfold lowF dgs wrd
  rw [if_pos hj, stepN_dg]
theorem lowF_ge {T V k j : Nat} (h : k ≤ j) : lowF T V k j = wrd T j := by unfold lowF; rw [if_neg (by omega)]
def carB (T w b k : Nat) : Nat := mcar BB T w b k
def carM (T w b m ni k : Nat) : Nat := mcar BB (T + w * b) (facN BB T w b ni) m k
theorem carB_lt {w : Nat} (hw : w < 4294967296) (T b k : Nat) : carB T w b k < 4294967296 := mcar_lt (by decide) hw _ _ _
theorem carM_lt (T w b m ni k : Nat) : carM T w b m ni k < 4294967296 := mcar_lt (by decide) (facN_lt (by decide) _ _ _ _) _ _ _
theorem lo_b (T w b k : Nat) : loP (wrd T k) w (wrd b k) (carB T w b k) = wrd (T + w * b) k := mcar_dg (by decide) T w b k
theorem hi_b (T w b k : Nat) : hiP (wrd T k) w (wrd b k) (carB T w b k) = carB T w b (k + 1) := mcar_step (by decide) T w b k
theorem lo_m (T w b m ni k : Nat) : loP (wrd (T + w * b) k) (facN BB T w b ni) (wrd m k) (carM T w b m ni k) = wrd (sumN BB T w b m ni) k := mcar_dg (by decide) _ _ m k
theorem hi_m (T w b m ni k : Nat) : hiP (wrd (T + w * b) k) (facN BB T w b ni) (wrd m k) (carM T w b m ni k) = carM T w b m ni (k + 1) := mcar_step (by decide) _ _ m k
theorem fac_eq (T w b ni : Nat) : wrd (T + w * b) 0 * ni % 4294967296 = facN BB T w b ni := by simp [wrd, dg, facN]
theorem car_zeros (T w b m ni : Nat) : carB T w b 0 = 0 ∧ carM T w b m ni 0 = 0 := ⟨mcar_zero _ _ _ _, mcar_zero _ _ _ _⟩

set_option maxRecDepth 100000 in
set_option maxHeartbeats 1000000 in
theorem step_any (T x b m ni o s g l β : Nat) (w : World) (hG : Has w g 52 (modC m ni o s)) (hL : Has w l 24 (nums T)) (hB : Has w β 24 (nums b)) (hgl : g ≠ l) (hbl : β ≠ l)
    (hx : x < 4294967296) (hT : T / big < 4294967296) (hn : ni < 4294967296) (hb : b < big) (hm : m < big) :
    Calls Try.prog 46 #[.pointer (some ⟨g, 0, none⟩), .pointer (some ⟨l, 0, none⟩), .int .u32 ((hiN T : Nat) : Int), .int .u32 (x : Int), .pointer (some ⟨β, 0, none⟩)] w fun e w' =>
      e = .returned (.int .u32 ((hiN (stepN BB T x b m ni) : Nat) : Int)) ∧ Has w' l 24 (nums (stepN BB T x b m ni)) ∧ w.grownBy w' (some l) := by
  unfold hiN
  have htop : T / big + carB T x b 8 + carM T x b m ni 8 = sumN BB T x b m ni / big := (sumN_top (n := 8) (by decide) hb hm).symm
  have hhigh : stepN BB T x b m ni / big = sumN BB T x b m ni / big / 4294967296 := stepN_high (n := 8)
  have HT := Lib.hid htop
  have HH := Lib.hid hhigh
  have LM := Lib.hid (fun k => And.intro (lo_m T x b m ni k) (hi_m T x b m ni k))
  have LB := Lib.hid (fun k => And.intro (lo_b T x b k) (hi_b T x b k))
  have HF := Lib.hid (fac_eq T x b ni)
  have HE := Lib.hid (lowA_end T x b m ni)
  have hfl : facN BB T x b ni < 4294967296 := facN_lt (by decide) _ _ _ _
  have h7 : wrd (sumN BB T x b m ni) 8 = sumN BB T x b m ni / big % 4294967296 := rfl
  have H7 := Lib.hid h7
  have hz := car_zeros T x b m ni
  have HZ := Lib.hid hz
  clear htop hhigh h7 hb hm hz
  obtain ⟨t, ht⟩ : ∃ t, t = T / big := ⟨_, rfl⟩
  have HTT := Lib.hid ht
  rw [← ht] at hT ⊢
  clear ht
  have LBF := fun k => carB_lt hx T b k
  have LMF := fun k => carM_lt T x b m ni k
  generalize hf : facN BB T x b ni = f at *
  generalize hS : sumN BB T x b m ni = S at *
  generalize hQ : stepN BB T x b m ni = Q at *
  generalize hU : T + x * b = U at *
  generalize hq1 : Q / big = z at *
  clear hq1
  generalize hcb : carB T x b = cB at *
  generalize hcm : carM T x b m ni = cM at *
  clear hf hS hQ hU hcb hcm
  have A1 : ∀ W, Calls Try.prog 47 #[.int .u32 ((wrd T 0 : Nat) : Int), .int .u32 (x : Int), .int .u32 ((wrd b 0 : Nat) : Int), .int .u32 0] W fun e w' => e = .returned (.tuple #[.int .u32 ((wrd U 0 : Nat) : Int), .int .u32 ((cB 1 : Nat) : Int)]) ∧ W = w' := fun W => by
    have h := addp_any (wrd T 0) x (wrd b 0) 0 W (wrd_lt _ _) hx (wrd_lt _ _) (by omega)
    have e := LB.out 0
    rw [HZ.out.1] at e
    rw [e.1, e.2] at h
    exact h
  have A2 : ∀ W, Calls Try.prog 47 #[.int .u32 ((wrd U 0 : Nat) : Int), .int .u32 (f : Int), .int .u32 ((wrd m 0 : Nat) : Int), .int .u32 0] W fun e w' => e = .returned (.tuple #[.int .u32 ((wrd S 0 : Nat) : Int), .int .u32 ((cM 1 : Nat) : Int)]) ∧ W = w' := fun W => by
    have h := addp_any (wrd U 0) f (wrd m 0) 0 W (wrd_lt _ _) hfl (wrd_lt _ _) (by omega)
    have e := LM.out 0
    rw [HZ.out.2] at e
    rw [e.1, e.2] at h
    exact h
  have A3 : ∀ k W, Calls Try.prog 47 #[.int .u32 ((wrd T k : Nat) : Int), .int .u32 (x : Int), .int .u32 ((wrd b k : Nat) : Int), .int .u32 ((cB k : Nat) : Int)] W fun e w' => e = .returned (.tuple #[.int .u32 ((wrd U k : Nat) : Int), .int .u32 ((cB (k + 1) : Nat) : Int)]) ∧ W = w' := fun k W => by
    have h := addp_any (wrd T k) x (wrd b k) (cB k) W (wrd_lt _ _) hx (wrd_lt _ _) (LBF k)
    rw [(LB.out k).1, (LB.out k).2] at h
    exact h
  have A4 : ∀ k W, Calls Try.prog 47 #[.int .u32 ((wrd U k : Nat) : Int), .int .u32 (f : Int), .int .u32 ((wrd m k : Nat) : Int), .int .u32 ((cM k : Nat) : Int)] W fun e w' => e = .returned (.tuple #[.int .u32 ((wrd S k : Nat) : Int), .int .u32 ((cM (k + 1) : Nat) : Int)]) ∧ W = w' := fun k W => by
    have h := addp_any (wrd U k) f (wrd m k) (cM k) W (wrd_lt _ _) hfl (wrd_lt _ _) (LMF k)
    rw [(LM.out k).1, (LM.out k).2] at h
    exact h
  have hmul : IntKind.u32.wrap (((wrd U 0 : Nat) : Int) * (ni : Int)) = (f : Int) := by
    rw [IntKind.wrap_u32, ← Int.natCast_mul, ← HF.out]
    omega
  have htl : t + cB 8 + cM 8 < 12884901888 := by have := LBF 8; have := LMF 8; omega
  have HTL := Lib.hid htl
  have HA := Lib.hid A1
  have HA2 := Lib.hid A2
  have HA3 := Lib.hid A3
  have HA4 := Lib.hid A4
  clear A1 A2 A3 A4 htl LBF LMF hx hn hfl hT
  go_enter Try.func46, Try.ntmps46
  have c0 := nums_at hL 0 (by omega)
  have d0 := nums_at hB 0 (by omega)
  go_wp2_with fail
  go_quiet ((go_at_call 47; exact Calls.quiet_of_same ((HA.out _).mono fun _ _ ⟨he, hw⟩ => ⟨he, hw.symm⟩)))
  have hG' := hG.drewN nq
  have hL' := hL.drewN nq
  have hB' := hB.drewN nq
  have hO : w.grownBy (w.drewN nq) (some l) := only_drewN _ _ _
  clear c0 d0 hG hL hB
  generalize hq : Go.World.drewN _ nq = w1 at *
  clear hq
  have n8 := mod_neg hG'
  have m0 := mod_word hG' 0 (by omega)
  go_wp2_with (go_at_call 47; refine (HA2.out _).mono ?_; rintro e w' ⟨rfl, rfl⟩)
  clear n8 m0 hmul
  go_loopw [12, 15, 16, 17] (fun vb vm vi _ wr => ∃ k : Nat, k ≤ 7 ∧ vb = .int .u32 ((cB (k + 1) : Nat) : Int) ∧ vm = .int .u32 ((cM (k + 1) : Nat) : Int) ∧ vi = .int .i64 ((k : Int) + 1) ∧
      Has wr g 52 (modC m ni o s) ∧ Has wr l 24 (lowA T S k) ∧ Has wr β 24 (nums b) ∧ w.grownBy wr (some l)) (fun _ _ vi _ _ => 8 - (intOf vi).toNat)
  case atStart => exact ⟨0, by omega, rfl, rfl, rfl, hG', by rw [lowA_start]; exact hL', hB', hO⟩
  case round =>
    obtain ⟨k, hk, rfl, rfl, rfl, h1, h2, h3, hO2⟩ := hrel
    clear hG' hL' hB' hO
    by_cases hlt : k < 7
    · have dk : (k : Int) + 1 < 8 := by omega
      have c1 := h2.cellTab (k + 1) (by omega)
      rw [lowF_ge (by omega)] at c1
      have c2 := nums_at h3 (k + 1) (by omega)
      go_wp2_with fail
      go_quiet ((go_at_call 47; exact Calls.quiet_of_same ((HA3.out (k + 1) _).mono fun _ _ ⟨he, hw⟩ => ⟨he, hw.symm⟩)))
      replace h1 := h1.drewN nq
      replace h2 := h2.drewN nq
      replace h3 := h3.drewN nq
      replace hO2 := only_trans hO2 (only_drewN wr nq (some l))
      clear c1 c2
      generalize hq : Go.World.drewN _ nq = wq at *
      clear hq
      have c3 := mod_word h1 (k + 1) (by omega)
      have c4 := h2.cellTab k (by omega)
      have f4 := h2.free k
      go_wp2_with fail
      go_region_with (go_at_call 47; refine (HA4.out (k + 1) _).mono ?_; rintro e w' ⟨rfl, rfl⟩)
      all_goals
        go_wp2_with fail
        go_roundw
      all_goals first
        | (refine ⟨k + 1, by omega, by go_num, by go_num, by go_num, h1.drew.far (by simp [hgl]) _, ?_, h3.drew.far (by simp [hbl]) _, only_trans (only_trans hO2 (only_drewN _ 1 _)) (only_setCell _ _ _ _)⟩
           have h := h2.drew.set k (.int .u32 ((wrd S (k + 1) : Nat) : Int))
           rw [lowA_set] at h
           exact h)
        | (simp [intOf]; omega)
    · have hk7 : k = 7 := by omega
      have h2' : Has wr l 24 (lowA T S 7) := by rw [← hk7]; exact h2
      have hB8 : cB (k + 1) = cB 8 := by rw [hk7]
      have hM8 : cM (k + 1) = cM 8 := by rw [hk7]
      have c4 := h2'.cellTab 7 (by omega)
      have f4 := h2'.free 7
      have dk : ¬ (k : Int) + 1 < 8 := by omega
      have htl := HTL.out
      have e2 : IntKind.u64.wrap ((t : Int) + ((cB (k + 1) : Nat) : Int)) = ((t + cB 8 : Nat) : Int) := by rw [hB8, IntKind.wrap_u64]; omega
      have e3 : IntKind.u64.wrap (((t + cB 8 : Nat) : Int) + ((cM (k + 1) : Nat) : Int)) = ((S / big : Nat) : Int) := by rw [hM8, IntKind.wrap_u64, ← HT.out, ← HTT.out]; omega
      have w1' : IntKind.u64.wrap (t : Int) = (t : Int) := by rw [IntKind.wrap_u64]; omega
      have w2' : IntKind.u64.wrap ((cB (k + 1) : Nat) : Int) = ((cB (k + 1) : Nat) : Int) := by rw [hB8, IntKind.wrap_u64]; omega
      have w3' : IntKind.u64.wrap ((cM (k + 1) : Nat) : Int) = ((cM (k + 1) : Nat) : Int) := by rw [hM8, IntKind.wrap_u64]; omega
      have HSL : S / big < 12884901888 := by rw [← HT.out, ← HTT.out]; exact htl
      have hv1 : z = S / big / 4294967296 := HH.out
      have hw8 := H7.out
      have he := HE.out
      generalize hr : t + cB 8 = r at *
      generalize hv : S / big = v at *
      generalize hb1 : cB (k + 1) = y1 at *
      generalize hb2 : cM (k + 1) = y2 at *
      obtain ⟨y, hy⟩ : ∃ y, y = v % 4294967296 := ⟨_, rfl⟩
      have e4 : (v : Int) % 4294967296 = (y : Int) := by omega
      have e5 : (v : Int) / 4294967296 % 4294967296 = (z : Int) := by omega
      rw [← hy] at hw8
      have hS := h2'.set 7 (.int .u32 ((y : Nat) : Int))
      rw [← hw8, lowA_set, he] at hS
      have hO3 := only_trans hO2 (only_setCell wr l 7 (.int .u32 ((y : Nat) : Int)))
      rw [hw8] at hS
      have HS := Lib.hid (And.intro hS hO3)
      clear htl hlt hS hO3 hO2 h2 h2' h1 h3 hk hk7 hB8 hM8 hb1 hb2 hr hv HSL hv1 hw8 hy he HF LB LM HZ HA HA2 HA3 HA4 HTT HE H7 HH HT HTL
      go_wp2_with fail
      go_ret
      exact ⟨rfl, HS.out⟩
end Go.Proofs.Ytodialbopochdaa
