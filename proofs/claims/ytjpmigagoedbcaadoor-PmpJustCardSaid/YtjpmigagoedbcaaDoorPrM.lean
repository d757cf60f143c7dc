/-
Layer 12: package pmp's rightsAt, extend.
-/
import Derived.Test.YtjpmigagoedbcaaDoorPrL
namespace Go.Proofs.YtjpmigagoedbcaaDoor.Pm
open Go Go.RowKit

theorem byteT_step (es : List En) (i x : Nat) (hi : i < es.length) : byteT ((tri 0 es).drop i) x = (if hasB ⟨(rangeI es i).1, (rangeI es i).2, (es.getD i en0).r⟩ x then (es.getD i en0).r else byteT ((tri 0 es).drop (i + 1)) x) := by
  have h2 := tri_at es 0 i hi
  have hlt : i < (tri 0 es).length := by rw [tri_len]; exact hi
  rw [List.getElem?_eq_getElem hlt] at h2
  rw [List.drop_eq_getElem_cons hlt, Option.some.inj h2]
  rfl
set_option maxRecDepth 100000 in
set_option maxHeartbeats 8000000 in
theorem rights_any (es : List En) (s : Sl) (x : Nat) (w : World) (hT : TabT w) (hS : SlE w s es) (h40 : es.length ≤ 40) (_hx : x < 68719476736) :
    Calls Tryd.prog 25 #[s.v, .int .u64 (x : Int)] w fun e w' => e = .returned (.int .i64 (byteT (tri 0 es) x)) ∧ Below w.heap.size w w' := by
  have hlen := hS.1
  obtain ⟨A, m, c⟩ := s
  dsimp only at hlen
  have HS := Lib.hid hS
  have HT := Lib.hid hT
  have hm40 : m ≤ 40 := by omega
  generalize hr' : byteT (tri 0 es) x = res
  have HRES := Lib.hid hr'
  have HLEN := Lib.hid hlen
  clear hS hT hr' hlen
  show Calls Tryd.prog 25 #[.slice A m c, .int .u64 (x : Int)] w _
  go_enter Tryd.func25, Tryd.ntmps25
  go_wp2_with fail
  go_loopw [11] (fun ct wr => ∃ i : Nat, i ≤ m ∧ ct = .int .i64 (i : Int) ∧ Hid (byteT ((tri 0 es).drop i) x = res) ∧ Below w.heap.size w wr) (fun ct _ => (m - (intOf ct)).toNat)
  case atStart => exact ⟨0, Nat.zero_le _, rfl, HRES, Below.refl _ _⟩
  case round =>
    obtain ⟨i, hi, rfl, HR, hb⟩ := hrel
    by_cases hlt : i < m
    · have hin : (i : Int) < (m : Int) := by omega
      obtain ⟨b, o, hA, hlb, hcc⟩ := (HS.out.below hb).2.1.2 (show 0 < m by omega)
      dsimp only at hA
      subst hA
      have c0 := hcc i 0 hlt (by omega)
      have c1 := hcc i 1 hlt (by omega)
      have c2 := hcc i 2 hlt (by omega)
      have hst := byteT_step es i x (by rw [HLEN.out]; exact hlt)
      rw [HR.out] at hst
      have hle := rangeI_le es i fun e he => (HS.out.2.2 e he).a
      have kR : ∀ W, Below w.heap.size w W → Calls Tryd.prog 23 #[.slice (some ⟨b, o, none⟩) m c, .int .i64 (i : Int)] W (retP (rangeI es i).1 (rangeI es i).2 W) := fun W hW => range_any es ⟨some ⟨b, o, none⟩, m, c⟩ i W (HT.out.below hW) (HS.out.below hW) hlt
      dsimp only at c0 c1 c2
      generalize (rangeI es i).1 = F at *
      generalize (rangeI es i).2 = T at *
      have hat := at_entry b o m c i hin
      generalize es.getD i en0 = e at *
      obtain ⟨ew, er, ea⟩ := e
      dsimp only at hst
      obtain ⟨l1, l2⟩ := hle
      have HST := Lib.hid hst
      have HB := Lib.hid hb
      have HKR := Lib.hid kR
      replace c0 : wr.cell? ⟨b, o + i * 3, none⟩ = some (.int .i64 ew) := c0
      replace c1 : wr.cell? ⟨b, o + i * 3 + 1, none⟩ = some (.int .i64 er) := c1
      replace c2 : wr.cell? ⟨b, o + i * 3 + 2, none⟩ = some (.int .u32 (ea : Int)) := c2
      clear hst kR hcc hb
      go_upto_region 4 with fail
      obtain ⟨wa, hwa, hX, hba, hsa⟩ := one_new wr #[.int .i64 ew, .int .i64 er, .int .u32 (ea : Int)] 32
      rw [← hwa]
      have hg : wr.heap.size < wa.heap.size := by omega
      have hbwa := HB.out.trans (hba.mono HB.out.size)
      have kR := HKR.out wa hbwa
      clear hwa hsa c0 c1 c2 hba
      generalize wr.heap.size = g at *
      go_wp2_with fail
      refine kR.mono ?_
      rintro e w2 ⟨rfl, hb2⟩
      have hX2 := hX.below hb2 hg
      have hb3 := hbwa.trans (hb2.mono hbwa.size)
      clear kR hX hb2 hbwa hg hat
      have c1 : w2.cell? ⟨g, 1, none⟩ = some (.int .i64 er) := hX2.cell 1
      have HB3 := Lib.hid hb3
      clear hX2 hb3
      by_cases hF : F ≤ x
      · have hF' : (F : Int) ≤ (x : Int) := by omega
        by_cases hT : x < T
        · have hT' : (x : Int) < (T : Int) := by omega
          have hz : er = res := by rw [HST.out, if_pos (show hasB ⟨F, T, er⟩ x = true by unfold hasB; simp [hF, hT])]
          have HZ := Lib.hid hz
          clear hz
          go_wp2_with fail
          go_ret
          exact ⟨by rw [← HZ.out]; rfl, HB3.out⟩
        · have hT' : ¬ (x : Int) < (T : Int) := by omega
          have hz : byteT ((tri 0 es).drop (i + 1)) x = res := by rw [HST.out, if_neg (show ¬ hasB ⟨F, T, er⟩ x = true by unfold hasB; simp [hT])]
          have HZ := Lib.hid hz
          clear hz
          go_wp2_with fail
          go_roundw
          case rel => exact ⟨i + 1, by omega, by go_num, HZ, HB3.out⟩
          case measure => simp [intOf] <;> omega
      · have hF' : ¬ (F : Int) ≤ (x : Int) := by omega
        have hz : byteT ((tri 0 es).drop (i + 1)) x = res := by rw [HST.out, if_neg (show ¬ hasB ⟨F, T, er⟩ x = true by unfold hasB; simp [hF])]
        have HZ := Lib.hid hz
        clear hz
        go_wp2_with fail
        go_roundw
        case rel => exact ⟨i + 1, by omega, by go_num, HZ, HB3.out⟩
        case measure => simp [intOf] <;> omega
    · obtain rfl : i = m := by omega
      have hin : ¬ (i : Int) < (i : Int) := by omega
      have hz : res = 0 := by rw [← HR.out, List.drop_eq_nil_of_le (by rw [tri_len, HLEN.out]; exact Nat.le_refl _)]; rfl
      have HZ := Lib.hid hz
      have HBr := Lib.hid hb
      clear hz hb
      go_wp2_with fail
      go_ret
      exact ⟨by rw [HZ.out]; rfl, HBr.out⟩
/-- runs with one more, joined to the last where it goes on from it -/
def extE (rs : List Sp) (q : Sp) : List Sp := match rs.getLast? with
  | some p => if p.t = q.f ∧ p.r = q.r then rs.dropLast ++ [⟨p.f, q.t, p.r⟩] else rs ++ [q]
  | none => rs ++ [q]
theorem infoRb : (Tryd.prog.info? 45).map (fun i => (i.zero, i.size, i.bytes)) = some (some (.agg #[.int .u64 0, .int .u64 0, .int .i64 0]), 3, 24) := by kernel_rfl
theorem ruV_one (q : Sp) (j : Nat) : (ruV q j).oneCell' = true := by unfold ruV; split <;> rfl
/-- one cell of a row that the call owns, set anew -/
theorem own_set {w : World} {base k n c g : Nat} {e : TypeId} {xs : List Value} (h : w.ownsRow base e k (.slice (some ⟨g, 0, none⟩) n c) n xs) (j : Nat) (v : Value) (_hj : j < n * k) : (w.setCell ⟨g, j, none⟩ v).ownsRow base e k (.slice (some ⟨g, 0, none⟩) n c) n (xs.set j v) := by
  refine ⟨by rw [List.length_set]; exact h.1, ?_⟩
  rcases h.2 with ⟨hv, _⟩ | ⟨g', cap, cur, hv, hb, hg, hnc, hcm, hcs, htk⟩
  · cases hv
  · have e1 : g = g' := by injection hv with hv; injection hv with hv; injection hv
    have e2 : c = cap := by injection hv
    subst e1 e2
    refine Or.inr ⟨g, c, cur.setIfInBounds j v, rfl, hb, ?_, hnc, hcm, by simp [hcs], ?_⟩
    · simp [World.setCell, Array.getElem?_modify, hg]
    · rw [← htk]
      simp [List.take_set]
def ExtR (rs : List Sp) (q : Sp) (base : Nat) (v : Value) (w : World) (en : Ending) (w' : World) : Prop := ∃ v' m, en = .returned v' ∧ m = (extE rs q).length ∧ w'.ownsRow base 45 3 v' m (cellsL 3 ruV (extE rs q)) ∧ w.grownBy w' v.ownBlock
end Go.Proofs.YtjpmigagoedbcaaDoor.Pm
