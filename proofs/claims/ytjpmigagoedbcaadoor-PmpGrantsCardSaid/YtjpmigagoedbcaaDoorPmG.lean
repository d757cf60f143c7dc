/-
Layer 12: the law's apart and plain.
-/
import Derived.Test.YtjpmigagoedbcaaDoorPmF
import Derived.Test.YtjpmigagoedbcaaDoorR6A
namespace Go.Proofs.YtjpmigagoedbcaaDoor.Pm
open Go Go.RowKit

theorem apart_of {gs : List Gr} (h : ∀ i j (_hij : j < i) (_hi : i < gs.length), apartG (gs.getD j gr0) (gs.getD i gr0) = true) : allApart gs := by
  induction gs with
  | nil => trivial
  | cons g l ih =>
    refine ⟨fun o ho => ?_, ih fun i j hij hi => ?_⟩
    · obtain ⟨i, hi, rfl⟩ := List.getElem_of_mem ho
      have := h (i + 1) 0 (by omega) (by simpa using hi)
      simpa [List.getD_eq_getElem?_getD, hi] using this
    · have := h (i + 1) (j + 1) (by omega) (by simpa using hi)
      simpa [List.getD_eq_getElem?_getD] using this
theorem apB_apart {g o : Gr} (hg : okG g = true) (ho : okG o = true) (h : apB g.s g.z o.s o.z = true) : apartG o g = true := by
  obtain ⟨k1, k2, k3, k4, k5, k6⟩ := okG_parts hg
  obtain ⟨l1, l2, l3, l4, l5, l6⟩ := okG_parts ho
  unfold apB at h
  have h := of_decide_eq_true h
  unfold apartG
  simp
  omega
/-- what apart answers -/
def ApR (gs : List Gr) (e : Ending) : Prop := ∃ b, e = .returned (.bool b) ∧ (b = true → (∀ g ∈ gs, okG g = true) ∧ allApart gs)
theorem apR_no (gs : List Gr) : ApR gs (.returned (.bool false)) := ⟨false, rfl, fun h => by cases h⟩
theorem run_front (A : Option Addr) (n c : Nat) (k : Nat) (hk : k ≤ c) (W : World) : (Instr.sliceAt 22 (.slice A n c) none (some (.int .i64 (k : Int))) none).run Tryd.prog W = .ok (.slice A k c) W := by
  have h1 : (k : Int) ≤ (c : Int) := by omega
  cases A with
  | none => go_simp
  | some ad => go_simp
set_option maxRecDepth 100000 in
set_option maxHeartbeats 4000000 in
theorem apart_any (gs : List Gr) (s : Sl) (w : World) (hS : SlG w s gs) :
    Calls Tryd.prog 11 #[s.v] w fun e w' => ApR gs e ∧ Below w.heap.size w w' := by
  have hlen := hS.1
  have hn := hS.2.1.1
  obtain ⟨A, n, c⟩ := s
  dsimp only at hlen hn
  have HS := Lib.hid hS
  clear hS
  show Calls Tryd.prog 11 #[.slice A n c] w _
  go_enter Tryd.func11, Tryd.ntmps11
  go_wp2_with fail
  go_loopw [9] (fun ct wr => ∃ i : Nat, i ≤ n ∧ ct = .int .i64 (i : Int) ∧ (∀ j, j < i → okG (gs.getD j gr0) = true) ∧ (∀ k j, j < k → k < i → apartG (gs.getD j gr0) (gs.getD k gr0) = true) ∧ Below w.heap.size w wr) (fun ct _ => (n - (intOf ct)).toNat)
  case atStart => exact ⟨0, Nat.zero_le _, rfl, fun j h => by omega, fun k j _ h => by omega, Below.refl _ _⟩
  case round =>
    obtain ⟨i, hi, rfl, hok, hap, hb⟩ := hrel
    by_cases hlt : i < n
    · have hin : (i : Int) < (n : Int) := by omega
      have hwf := HS.out.wf (j := i) hlt
      obtain ⟨b, o, hA, hlb, _⟩ := HS.out.2.1.2 (show 0 < n by omega)
      dsimp only at hA
      subst hA
      have hSr := HS.out.below hb
      have hrg := hSr.2.1.range (b := b) (o := o) rfl (j := i) hlt
      have hrg' : wr.rangeAt b (o + i * 3) ((List.range 3).map (grV (gs.getD i gr0))) := hrg
      have hat := at_grant b o n c i hin
      generalize hg : gs.getD i gr0 = g at *
      have hs4 := hwf.s
      have hz4 := hwf.z
      have HG := Lib.hid hg
      have HOK := Lib.hid hok
      have HAP := Lib.hid hap
      have HB := Lib.hid hb
      clear hg hok hap hb hSr hrg hwf
      go_upto_region 4 with (refine wp_load_grant rfl _ rfl b (o + i * 3) rfl g hrg' ?_)
      obtain ⟨wa, hwa, hX, hba, hsa⟩ := one_new wr #[.int .u32 (g.s : Int), .int .u32 (g.z : Int), .int .i64 g.r] 36
      rw [← hwa]
      have hbb := HB.out.trans (hba.mono HB.out.size)
      have c0 : wa.cell? ⟨wr.heap.size, 0, none⟩ = some (.int .u32 (g.s : Int)) := hX.cell 0
      have c1 : wa.cell? ⟨wr.heap.size, 1, none⟩ = some (.int .u32 (g.z : Int)) := hX.cell 1
      have c2 : wa.cell? ⟨wr.heap.size, 2, none⟩ = some (.int .i64 g.r) := hX.cell 2
      have HX := Lib.hid hX
      have HBB := Lib.hid hbb
      clear hwa hba hsa hrg' hX hbb
      have ms : (g.s : Int).tmod 4 = ((g.s % 4 : Nat) : Int) := by rw [Int.tmod_eq_emod_of_nonneg (by omega)]; omega
      have mz : (g.z : Int).tmod 4 = ((g.z % 4 : Nat) : Int) := by rw [Int.tmod_eq_emod_of_nonneg (by omega)]; omega
      by_cases h1 : g.s % 4 = 0
      · rw [h1] at ms
        have ms' : (g.s : Int) % 4 = 0 := by omega
        by_cases h2 : g.z % 4 = 0
        · rw [h2] at mz
          have mz' : (g.z : Int) % 4 = 0 := by omega
          by_cases h3 : g.z = 0
          · have h3' : (g.z : Int) = 0 := by omega
            rw [h3] at c1
            clear mz
            go_wp2_with fail
            go_ret
            exact ⟨apR_no gs, HBB.out⟩
          · have h3' : ¬ (g.z : Int) = 0 := by omega
            by_cases h4 : g.s + g.z ≤ 4294967296
            · have h4' : ¬ 4294967296 < (g.s : Int) + (g.z : Int) := by omega
              by_cases h5 : 1 ≤ g.r
              · have h5' : ¬ g.r < 1 := by omega
                by_cases h6 : g.r ≤ 7
                · have h6' : ¬ 7 < g.r := by omega
                  have hokg : okG g = true := by
                    cases h2 : okG g with
                    | true => rfl
                    | false => unfold okG at h2; simp at h2; omega
                  have hfr := run_front (some ⟨b, o, none⟩) n c i (by have := hn.1; omega)
                  go_upto_region 6 with fail
                  clear ms mz ms' mz' h4' h5' h6' h3'
                  generalize wr.heap.size = gX at *
                  go_wp2_with fail
                  go_loopw [53] (fun cj wq => ∃ j : Nat, j ≤ i ∧ cj = .int .i64 (j : Int) ∧ (∀ k, k < j → apartG (gs.getD k gr0) g = true) ∧ Has wq gX 36 #[.int .u32 (g.s : Int), .int .u32 (g.z : Int), .int .i64 g.r] ∧ Below w.heap.size w wq) (fun cj _ => (i - (intOf cj)).toNat)
                  case atStart => exact ⟨0, Nat.zero_le _, rfl, fun k h => by omega, HX.out, HBB.out⟩
                  case round =>
                    obtain ⟨j, hj, rfl, hap2, hX2, hb2⟩ := hrel
                    have HAP2 := Lib.hid hap2
                    have HX2 := Lib.hid hX2
                    have HB2 := Lib.hid hb2
                    clear hap2
                    by_cases hji : j < i
                    · have hjin : (j : Int) < (i : Int) := by omega
                      have hSr2 := HS.out.below hb2
                      have hrg2 := hSr2.2.1.range (b := b) (o := o) rfl (j := j) (show j < n by omega)
                      have hrg2' : wr.rangeAt b (o + j * 3) ((List.range 3).map (grV (gs.getD j gr0))) := hrg2
                      have hwf2 := HS.out.wf (j := j) (show j < n by omega)
                      have hokj := HOK.out j hji
                      have hat2 := at_grant b o i c j hjin
                      generalize hg2 : gs.getD j gr0 = h at *
                      have hs42 := hwf2.s
                      have hz42 := hwf2.z
                      have HG2 := Lib.hid hg2
                      have HOKJ := Lib.hid hokj
                      have c0 : wr.cell? ⟨gX, 0, none⟩ = some (.int .u32 (g.s : Int)) := hX2.cell 0
                      have c1 : wr.cell? ⟨gX, 1, none⟩ = some (.int .u32 (g.z : Int)) := hX2.cell 1
                      clear hg2 hSr2 hrg2 hwf2 hX2 hb2 hokj
                      go_upto_region 9 with (refine wp_load_grant rfl _ rfl b (o + j * 3) rfl h hrg2' ?_)
                      obtain ⟨wc, hwc, hX3, hbc, hsc⟩ := one_new wr #[.int .u32 (h.s : Int), .int .u32 (h.z : Int), .int .i64 h.r] 36
                      rw [← hwc]
                      have hX4 := HX2.out.below hbc HX2.out.lt
                      have hb4 := HB2.out.trans (hbc.mono HB2.out.size)
                      clear c0 c1
                      have c0 : wc.cell? ⟨gX, 0, none⟩ = some (.int .u32 (g.s : Int)) := hX4.cell 0
                      have c1 : wc.cell? ⟨gX, 1, none⟩ = some (.int .u32 (g.z : Int)) := hX4.cell 1
                      have e0 : wc.cell? ⟨wr.heap.size, 0, none⟩ = some (.int .u32 (h.s : Int)) := hX3.cell 0
                      have e1 : wc.cell? ⟨wr.heap.size, 1, none⟩ = some (.int .u32 (h.z : Int)) := hX3.cell 1
                      have kA := rapart_same g.s g.z h.s h.z wc hs4 hz4 hs42 hz42
                      have HX4 := Lib.hid hX4
                      have HB4 := Lib.hid hb4
                      clear hwc hX3 hbc hsc hX4 hb4 hrg2'
                      cases hb : apB g.s g.z h.s h.z with
                      | true =>
                        rw [hb] at kA
                        have HBP := Lib.hid hb
                        clear hb
                        go_wp2_with (go_at_call 22; with_reducible refine kA.mono ?_; rintro e w9 ⟨rfl, rfl⟩)
                        go_roundw
                        case rel =>
                          refine ⟨j + 1, by omega, by go_num, fun k hk => ?_, HX4.out, HB4.out⟩
                          by_cases hkj : k = j
                          · rw [hkj, HG2.out]; exact apB_apart hokg HOKJ.out HBP.out
                          · exact HAP2.out k (by omega)
                        case measure => simp [intOf] <;> omega
                      | false =>
                        rw [hb] at kA
                        clear hb
                        go_wp2_with (go_at_call 22; with_reducible refine kA.mono ?_; rintro e w9 ⟨rfl, rfl⟩)
                        go_ret
                        exact ⟨apR_no gs, HB4.out⟩
                    · obtain rfl : j = i := by omega
                      clear hX2 hb2
                      go_wp2_with fail
                      go_roundw
                      case rel =>
                        refine ⟨j + 1, by omega, by go_num, fun k hk => ?_, fun k l hlk hk => ?_, HB2.out⟩
                        · by_cases hkj : k = j
                          · rw [hkj, HG.out]; exact hokg
                          · exact HOK.out k (by omega)
                        · by_cases hkj : k = j
                          · rw [hkj, HG.out]; exact HAP2.out l (by omega)
                          · exact HAP.out k l hlk (by omega)
                      case measure => simp [intOf] <;> omega
                · have h6' : 7 < g.r := by omega
                  go_wp2_with fail
                  go_ret
                  exact ⟨apR_no gs, HBB.out⟩
              · have h5' : g.r < 1 := by omega
                go_wp2_with fail
                go_ret
                exact ⟨apR_no gs, HBB.out⟩
            · have h4' : 4294967296 < (g.s : Int) + (g.z : Int) := by omega
              clear h4
              go_wp2_with fail
              go_ret
              exact ⟨apR_no gs, HBB.out⟩
        · have mz' : ¬ (g.z : Int) % 4 = 0 := by omega
          have mz2 : ¬ (g.z : Int).tmod 4 = 0 := by rw [mz]; omega
          clear mz h2
          go_wp2_with fail
          go_ret
          exact ⟨apR_no gs, HBB.out⟩
      · have ms' : ¬ (g.s : Int) % 4 = 0 := by omega
        have ms2 : ¬ (g.s : Int).tmod 4 = 0 := by rw [ms]; omega
        clear ms
        go_wp2_with fail
        go_ret
        exact ⟨apR_no gs, HBB.out⟩
    · obtain rfl : i = n := by omega
      have HB := Lib.hid hb
      have HOK := Lib.hid hok
      have HAP := Lib.hid hap
      clear hb hok hap
      go_wp2_with fail
      go_ret
      refine ⟨⟨true, rfl, fun _ => ⟨fun g hg => ?_, apart_of fun k j hjk hk => HAP.out k j hjk (by omega)⟩⟩, HB.out⟩
      obtain ⟨j, hj, rfl⟩ := List.getElem_of_mem hg
      have := HOK.out j (by omega)
      rwa [List.getD_eq_getElem?_getD, List.getElem?_eq_getElem hj] at this
end Go.Proofs.YtjpmigagoedbcaaDoor.Pm
