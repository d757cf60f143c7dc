/-
Numbers of 64 bits: slices.Sort, slices.Compact.
-/
import Derived.Test.YtjpmigagoedbcaaDoorPrJ
import Derived.Lib.SlicesCompact
import Derived.Lib.SliceRun
namespace Go.Proofs.YtjpmigagoedbcaaDoor.Pm
open Go Go.RowKit
open Go.Sort (swp PermIn SortedIn)
open Go.Lib (CompInv compactUpTo keeps)

set_option maxRecDepth 100000 in
set_option maxHeartbeats 4000000 in
theorem sort_any (b o n c : Nat) (d : Array Nat) (w0 w : World) (h : RowU w0 b o d w) (hn : d.size = n) (hb0 : b < w0.heap.size) (h1 : 1 ≤ n) (hsz : n < 1000000) :
    Calls Tryd.prog 31 #[.slice (some ⟨b, o, none⟩) n c] w (PdqR 0 n w0 b o d) := by
  have kc := len_any n w h1 hsz
  have HH := Lib.hid h
  unfold LenR at kc
  clear h
  go_enter Tryd.func31, Tryd.ntmps31
  go_wp2_with fail
  refine kc.mono ?_
  rintro en w1 ⟨k, rfl, k1, k2, k3, hw⟩
  subst hw
  clear kc k2 k3
  go_wp2_with fail
  refine (show Calls Tryd.prog 34 #[.slice (some ⟨b, o, none⟩) n c, .int .i64 0, .int .i64 (n : Int), .int .i64 (k : Int)] w1 _ from pdq_any b o n c hsz n 0 n k d w0 w1 HH.out hn hb0 (Nat.zero_le _) (Nat.le_refl _) (by omega) (Or.inl rfl) (by omega)).mono ?_
  rintro en w2 ⟨rfl, hR⟩
  have HR := Lib.hid hR
  clear hR
  go_wp2_with fail
  go_end0
  exact ⟨rfl, HR.out⟩
theorem RowU.set1 {w0 w : World} {b o : Nat} {d : Array Nat} (h : RowU w0 b o d w) (k x : Nat) (hk : k < d.size) : RowU w0 b o (d.setIfInBounds k x) (w.setCell ⟨b, o + k, none⟩ (.int .u64 (x : Int))) := by
  refine ⟨fun t ht => ?_, fun t ht => ?_, grown_trans h.k (grown_setCell _ _ _ _)⟩
  · have ht' : t < d.size := by simpa using ht
    by_cases e : t = k
    · subst e
      rw [Go.Sort.getElem!_set_same _ _ _ hk]
      exact World.cell?_setCell_same _ _ _ (h.c t ht')
    · rw [World.cell?_setCell_other _ _ _ _ (fun q => e (by injection q with _ q _; omega)), Go.Sort.getElem!_set_other _ _ _ _ e]
      exact h.c t ht'
  · have ht' : t < d.size := by simpa using ht
    rw [World.frozen?_setCell]
    exact h.f t ht'
/-- what is kept, in memory -/
def CmpR (w0 : World) (b o c : Nat) (L : List Nat) (en : Ending) (w' : World) : Prop :=
  en = .returned (.slice (some ⟨b, o, none⟩) L.length c) ∧ (∀ t, t < L.length → w'.cell? ⟨b, o + t, none⟩ = some (.int .u64 ((L.getD t 0 : Nat) : Int))) ∧ w0.grownBy w' (some b)
theorem cmp_all {n : Nat} {d : Array Nat} (_hn : d.size = n) (h : ∀ j, j < n → keeps d j = true) : (compactUpTo d n).length = n ∧ ∀ t, t < n → (compactUpTo d n).getD t 0 = d[t]! := by
  rw [Go.Lib.compactUpTo_all d n h]
  refine ⟨by simp, fun t ht => ?_⟩
  simp [List.getD_eq_getElem?_getD, ht]
theorem grown_setCells (b : Nat) : ∀ (vs : List Value) (k : Nat) (w : World), w.grownBy (w.setCells b k vs) (some b)
  | [], _, w => grown_refl w _
  | v :: r, k, w => grown_trans (grown_setCell w b k v) (grown_setCells b r (k + 1) _)
theorem zero_u64 (w : World) : (zeroValue 43).run Tryd.prog w = .ok (.int .u64 0) w := by kernel_rfl
set_option maxRecDepth 100000 in
set_option maxHeartbeats 8000000 in
theorem compact_any (b o n c : Nat) (d : Array Nat) (w0 w : World) (h : RowU w0 b o d w) (hn : d.size = n) (hnc : n ≤ c) (hsz : n < 1000000) :
    Calls Tryd.prog 32 #[.slice (some ⟨b, o, none⟩) n c] w (CmpR w0 b o c (compactUpTo d n)) := by
  have HH := Lib.hid h
  clear h
  unfold CmpR
  go_enter Tryd.func32, Tryd.ntmps32
  by_cases h2 : n < 2
  · have h2' : (n : Int) < 2 := by omega
    go_wp2_with fail
    go_ret
    obtain ⟨e1, e2⟩ := cmp_all hn (fun j hj => Go.Lib.keeps_lt_one d j (by omega))
    rw [e1]
    exact ⟨rfl, fun t ht => by rw [e2 t ht]; exact HH.out.c t (by omega), HH.out.k⟩
  · have h2' : ¬ (n : Int) < 2 := by omega
    go_wp2_with fail
    go_loopw [3, 4, 5] (fun v3 _ _ wr => ∃ k : Nat, v3 = .int .i64 (k : Int) ∧ 1 ≤ k ∧ k ≤ n ∧ (∀ j, j < k → keeps d j = true) ∧ RowU w0 b o d wr) (fun v3 _ _ _ => (n - (intOf v3)).toNat)
    case atStart => exact ⟨1, rfl, Nat.le_refl _, by omega, fun j hj => Go.Lib.keeps_lt_one d j hj, HH.out⟩
    case round =>
      clear HH
      obtain ⟨k, rfl, hk1, hkn, hK, hR⟩ := hrel
      have HK := Lib.hid hK
      have HR := Lib.hid hR
      clear hK
      by_cases hlt : k < n
      · have hlt' : (k : Int) < (n : Int) := by omega
        obtain ⟨G, hG, hcw, hfw⟩ := hR.fam hn
        have HG := Lib.hid hG
        obtain ⟨k1, hk1e⟩ : ∃ k1, k1 = k - 1 := ⟨_, rfl⟩
        have hk1' : (k : Int) - 1 = (k1 : Int) := by omega
        have hk1l : k1 < n := by omega
        have HK1 := Lib.hid hk1e
        clear hG hR hk1e
        go_upto_region 6 with fail
        go_quiet (fail)
        have hR1 := HR.out.drewN nq
        have HR1 := Lib.hid hR1
        clear hR1 HR hcw hfw
        generalize wr.drewN nq = w1 at *
        clear nq
        by_cases he : G k = G k1
        · have he' : ((G k : Int) == (G k1 : Int)) = true := beq_iff_eq.2 (by rw [he])
          have hdup : keeps d k = false := Go.Lib.keeps_neg (by omega) (by rw [← HK1.out, ← HG.out, ← HG.out]; exact he)
          have hI := CompInv.start HK.out hdup
          have HI := Lib.hid hI
          clear hI hdup he HK
          obtain ⟨nk, hnk⟩ : ∃ nk, n - k = nk := ⟨_, rfl⟩
          have hnk1 : k + nk = n := by omega
          have HNK := Lib.hid hnk1
          have HLT := Lib.hid hlt
          have HN := Lib.hid hn
          have hnk2 : 1 ≤ nk := by omega
          clear hnk1
          go_wp2_with fail
          clear hnk
          go_loopw [3, 5] (fun v3 v5 wr => ∃ (kk i2 : Nat) (dk : Array Nat), v3 = .int .i64 (kk : Int) ∧ v5 = .int .i64 (i2 : Int) ∧ 1 ≤ i2 ∧ i2 ≤ nk ∧ CompInv d (k + i2) kk dk ∧ RowU w0 b o dk wr) (fun _ v5 _ => (nk - (intOf v5)).toNat)
          case atStart => exact ⟨k, 1, d, rfl, rfl, Nat.le_refl _, hnk2, HI.out, HR1.out⟩
          case round =>
            clear HI HR1 HG
            obtain ⟨kk, i2, dk, rfl, rfl, hi1, hi2, hI, hR⟩ := hrel
            have hdk : dk.size = n := by rw [hI.size]; exact HN.out
            have hkl := hI.lt
            have HI := Lib.hid hI
            have HR := Lib.hid hR
            clear hI
            by_cases hil : i2 < nk
            · have hil' : (i2 : Int) < (nk : Int) := by omega
              obtain ⟨G, hG, hcw, hfw⟩ := hR.fam hdk
              have HG := Lib.hid hG
              obtain ⟨j2, hj2⟩ : ∃ j2, j2 = i2 - 1 := ⟨_, rfl⟩
              have hj2' : (i2 : Int) - 1 = (j2 : Int) := by omega
              have hm1 : k + i2 < n := by have := HNK.out; omega
              have hm2 : k + j2 < n := by omega
              have HJ2 := Lib.hid hj2
              clear hG hR hj2
              go_upto_region 11 with fail
              go_quiet (fail)
              have hR2 := HR.out.drewN nq
              have HR2 := Lib.hid hR2
              replace hcw : ∀ t, t < n → (wr.drewN nq).cell? ⟨b, o + t, none⟩ = some (.int .u64 (G t : Int)) := hcw
              replace hfw : ∀ t, t < n → (wr.drewN nq).frozen? ⟨b, o + t, none⟩ = false := hfw
              clear hR2 HR
              generalize wr.drewN nq = w2 at *
              clear nq
              have hd1 : G (k + i2) = d[k + i2]! := by rw [HG.out]; exact HI.out.high _ (by omega)
              have hd2 : G (k + j2) = d[k + i2 - 1]! := by rw [HG.out, HI.out.high _ (by have := HJ2.out; omega)]; congr 1; have := HJ2.out; omega
              have HD1 := Lib.hid hd1
              have HD2 := Lib.hid hd2
              clear hd1 hd2
              by_cases hne : G (k + i2) = G (k + j2)
              · have hne' : ((G (k + i2) : Int) != (G (k + j2) : Int)) = false := bne_eq_false_iff_eq.2 (by rw [hne])
                have hkp : keeps d (k + i2) = false := Go.Lib.keeps_neg (by omega) (by rw [← HD1.out, ← HD2.out]; exact hne)
                have HKP := Lib.hid hkp
                clear hkp hne
                go_wp2_with fail
                go_roundw
                case rel => exact ⟨kk, i2 + 1, dk, rfl, by go_num, by omega, by omega, HI.out.skip HKP.out, HR2.out⟩
                case measure => simp [intOf] <;> omega
              · have hne' : ((G (k + i2) : Int) != (G (k + j2) : Int)) = true := bne_iff_ne.2 (fun h => hne (by exact_mod_cast h))
                have hkp : keeps d (k + i2) = true := Go.Lib.keeps_pos (by rw [← HD1.out, ← HD2.out]; exact hne)
                have HKP := Lib.hid hkp
                have hkkn : kk < n := by omega
                clear hkp hne
                go_wp2_with fail
                have hR3 := HR2.out.set1 kk (G (k + i2)) (by omega)
                have HR3 := Lib.hid hR3
                clear hR3
                go_roundw
                case rel => exact ⟨kk + 1, i2 + 1, _, by go_num, by go_num, by omega, by omega, (HD1.out ▸ HI.out.keep (by rw [HN.out]; exact hm1) HKP.out), HR3.out⟩
                case measure => simp [intOf] <;> omega
            · have hil' : ¬ (i2 : Int) < (nk : Int) := by omega
              obtain rfl : i2 = nk := by omega
              have hI2 := HI.out
              rw [HNK.out] at hI2
              have HI2 := Lib.hid hI2
              have hkn2 : kk < n := hI2.lt
              have hcl : ∀ ty, (Builtin.clear_ #[56] ty #[.slice (some ⟨b, o + kk, none⟩) (n - kk) (c - kk)]).run Tryd.prog wr = .ok (.tuple #[]) (wr.setCells b (o + kk) (List.replicate (n - kk) (.int .u64 0))) := fun ty =>
                Go.Lib.run_clear_slice wr _ _ ty _ Tryd.underlying56 zero_u64 rfl rfl b (o + kk) _ _ (by omega)
                  (fun j hj => by rw [Nat.add_assoc, hR.c (kk + j) (by omega)]; rfl) (fun j hj => by rw [Nat.add_assoc]; exact hR.f (kk + j) (by omega))
              clear hI2 hR
              go_wp2_with fail
              go_ret
              have hlen := HI2.out.len
              refine ⟨by rw [hlen]; rfl, fun t ht => ?_, grown_trans HR.out.k (grown_setCells b _ _ _)⟩
              rw [hlen] at ht
              rw [World.cell?_setCells_out b _ _ _ _ (fun _ _ => Or.inl (by show o + t < o + kk; omega)), HR.out.c t (by omega)]
              have hlow := HI2.out.low t ht
              simp only [hlow, Option.getD_some]
        · have he' : ((G k : Int) == (G k1 : Int)) = false := beq_eq_false_iff_ne.2 (fun h => he (by exact_mod_cast h))
          have hkp : keeps d k = true := Go.Lib.keeps_pos (by rw [← HK1.out, ← HG.out, ← HG.out]; exact he)
          have HKP := Lib.hid hkp
          clear hkp he
          go_wp2_with fail
          go_roundw
          case rel =>
            refine ⟨k + 1, by go_num, by omega, by omega, fun j hj => ?_, HR1.out⟩
            by_cases e : j = k
            · rw [e]; exact HKP.out
            · exact HK.out j (by omega)
          case measure => simp [intOf] <;> omega
      · have hlt' : ¬ (k : Int) < (n : Int) := by omega
        obtain rfl : k = n := by omega
        clear hR
        go_wp2_with fail
        go_ret
        obtain ⟨e1, e2⟩ := cmp_all hn HK.out
        simp only [List.getD_eq_getElem?_getD] at e2
        rw [e1]
        exact ⟨rfl, fun t ht => by rw [e2 t ht]; exact HR.out.c t (by omega), HR.out.k⟩
end Go.Proofs.YtjpmigagoedbcaaDoor.Pm
