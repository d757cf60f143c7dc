/-
Layer 12: the law's plain.
-/
import Derived.Test.YtjpmigagoedbcaaDoorPmF
namespace Go.Proofs.YtjpmigagoedbcaaDoor.Pm
open Go Go.RowKit

/-- entries whose ways and rights are ones that there are -/
def plainL (es : List En) : Prop := (∀ e ∈ es, 0 ≤ e.w ∧ e.w ≤ 3 ∧ 0 ≤ e.r ∧ e.r ≤ 7) ∧ es.length ≤ 40
def PlR (es : List En) (e : Ending) : Prop := ∃ b, e = .returned (.bool b) ∧ (b = true → plainL es)
theorem plR_no (es : List En) : PlR es (.returned (.bool false)) := ⟨false, rfl, fun h => by cases h⟩
set_option maxRecDepth 100000 in
set_option maxHeartbeats 4000000 in
theorem plain_any (es : List En) (s : Sl) (w : World) (hS : SlE w s es) :
    Calls Tryd.prog 14 #[s.v] w fun e w' => PlR es e ∧ Below w.heap.size w w' := by
  have hlen := hS.1
  have hn := hS.2.1.1
  obtain ⟨A, n, c⟩ := s
  dsimp only at hlen hn
  have HS := Lib.hid hS
  clear hS
  show Calls Tryd.prog 14 #[.slice A n c] w _
  go_enter Tryd.func14, Tryd.ntmps14
  go_wp2_with fail
  go_loopw [7] (fun ct wr => ∃ i : Nat, i ≤ n ∧ ct = .int .i64 (i : Int) ∧ (∀ j, j < i → 0 ≤ (es.getD j en0).w ∧ (es.getD j en0).w ≤ 3 ∧ 0 ≤ (es.getD j en0).r ∧ (es.getD j en0).r ≤ 7) ∧ Below w.heap.size w wr) (fun ct _ => (n - (intOf ct)).toNat)
  case atStart => exact ⟨0, Nat.zero_le _, rfl, fun j h => by omega, Below.refl _ _⟩
  case round =>
    obtain ⟨i, hi, rfl, hok, hb⟩ := hrel
    by_cases hlt : i < n
    · have hin : (i : Int) < (n : Int) := by omega
      obtain ⟨b, o, hA, hlb, _⟩ := HS.out.2.1.2 (show 0 < n by omega)
      dsimp only at hA
      subst hA
      have hSr := HS.out.below hb
      have hrg := hSr.2.1.range (b := b) (o := o) rfl (j := i) hlt
      have hrg' : wr.rangeAt b (o + i * 3) ((List.range 3).map (enV (es.getD i en0))) := hrg
      have hat := at_entry b o n c i hin
      generalize hg : es.getD i en0 = g at *
      have HG := Lib.hid hg
      have HOK := Lib.hid hok
      have HB := Lib.hid hb
      clear hg hok hb hSr hrg
      go_upto_region 4 with (refine wp_load_entry rfl _ rfl b (o + i * 3) rfl g hrg' ?_)
      obtain ⟨wa, hwa, hX, hba, hsa⟩ := one_new wr #[.int .i64 g.w, .int .i64 g.r, .int .u32 (g.a : Int)] 32
      rw [← hwa]
      have hbb := HB.out.trans (hba.mono HB.out.size)
      have c0 : wa.cell? ⟨wr.heap.size, 0, none⟩ = some (.int .i64 g.w) := hX.cell 0
      have c1 : wa.cell? ⟨wr.heap.size, 1, none⟩ = some (.int .i64 g.r) := hX.cell 1
      have HBB := Lib.hid hbb
      clear hwa hba hsa hrg' hX hbb
      by_cases h1 : g.w < 0
      · go_wp2_with fail
        go_ret
        exact ⟨plR_no es, HBB.out⟩
      · by_cases h2 : 3 < g.w
        · go_wp2_with fail
          go_ret
          exact ⟨plR_no es, HBB.out⟩
        · by_cases h3 : g.r < 0
          · go_wp2_with fail
            go_ret
            exact ⟨plR_no es, HBB.out⟩
          · by_cases h4 : 7 < g.r
            · go_wp2_with fail
              go_ret
              exact ⟨plR_no es, HBB.out⟩
            · go_wp2_with fail
              go_roundw
              case rel =>
                refine ⟨i + 1, by omega, by go_num, fun j hj => ?_, HBB.out⟩
                by_cases hji : j = i
                · rw [hji, HG.out]; omega
                · exact HOK.out j (by omega)
              case measure => simp [intOf] <;> omega
    · obtain rfl : i = n := by omega
      have HB := Lib.hid hb
      have HOK := Lib.hid hok
      clear hb hok
      by_cases h40 : i ≤ 40
      · have h40' : (i : Int) ≤ 40 := by omega
        go_wp2_with fail
        go_ret
        refine ⟨⟨true, rfl, fun _ => ⟨fun g hg => ?_, by omega⟩⟩, HB.out⟩
        obtain ⟨j, hj, rfl⟩ := List.getElem_of_mem hg
        have := HOK.out j (by omega)
        rwa [List.getD_eq_getElem?_getD, List.getElem?_eq_getElem hj] at this
      · have h40' : ¬ (i : Int) ≤ 40 := by omega
        go_wp2_with fail
        go_ret
        exact ⟨plR_no es, HB.out⟩
end Go.Proofs.YtjpmigagoedbcaaDoor.Pm
