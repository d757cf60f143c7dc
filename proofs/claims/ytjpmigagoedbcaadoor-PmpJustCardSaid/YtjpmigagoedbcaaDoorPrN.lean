/-
Layer 12: package pmp's extend.
-/
import Derived.Test.YtjpmigagoedbcaaDoorPrM
import Derived.Test.YtjpmigagoedbcaaDoorPmM
import Derived.Maps.RangeWalk
namespace Go.Proofs.YtjpmigagoedbcaaDoor.Pm
open Go Go.RowKit

theorem ext_nil (q : Sp) : extE [] q = [q] := rfl
theorem ext_last (l : List Sp) (p q : Sp) : extE (l ++ [p]) q = if p.t = q.f ∧ p.r = q.r then l ++ [⟨p.f, q.t, p.r⟩] else l ++ [p] ++ [q] := by simp [extE]
theorem set_last (l : List Sp) (p : Sp) (t : Nat) : (cellsL 3 ruV (l ++ [p])).set (l.length * 3 + 1) (.int .u64 (t : Int)) = cellsL 3 ruV (l ++ [⟨p.f, t, p.r⟩]) := by
  rw [cellsL_app, cellsL_app, List.set_append_right _ _ (by rw [cellsL_len]; omega), cellsL_len, show l.length * 3 + 1 - l.length * 3 = 1 by omega]
  rfl
theorem own_frozen {w : World} {base k n c g : Nat} {e : TypeId} {xs : List Value} (h : w.ownsRow base e k (.slice (some ⟨g, 0, none⟩) n c) n xs) (j : Nat) : w.frozen? ⟨g, j, none⟩ = false := by
  rcases h.2 with ⟨hv, _⟩ | ⟨g', cap, cur, hv, hb, hg, _⟩
  · cases hv
  · have e1 : g = g' := by injection hv with hv; injection hv with hv; injection hv
    subst e1
    generalize hq : (⟨g, j, none⟩ : Addr) = q
    have hqb : q.block = g := by rw [← hq]
    simp [World.frozen?, hqb, hg]
theorem own_some {w : World} {base k n : Nat} {e : TypeId} {v : Value} {xs : List Value} (h : w.ownsRow base e k v n xs) (hn : 0 < n) : ∃ g c, v = .slice (some ⟨g, 0, none⟩) n c ∧ base ≤ g ∧ g < w.heap.size := by
  rcases h.2 with ⟨_, h0⟩ | ⟨g, cap, cur, hv, hb, hg, _⟩
  · omega
  · exact ⟨g, cap, hv, hb, (Array.getElem?_eq_some_iff.1 hg).1⟩
theorem grown_both {w wb w5 : World} {o : Obj} {r : Option Nat} (h : w.grownBy wb none) (k : (wb.alloc o).grownBy w5 r) : w.grownBy w5 r :=
  grown_trans (grown_trans ⟨h.os, h.tape, h.output, h.size, fun i hi _ => h.block i hi (by simp)⟩ (World.grownBy_alloc wb o r)) k
set_option maxRecDepth 100000 in
set_option maxHeartbeats 8000000 in
theorem extend_any (rs : List Sp) (f t : Nat) (r : Int) (base n : Nat) (v : Value) (w : World) (h : w.ownsRow base 45 3 v n (cellsL 3 ruV rs)) (hb : base ≤ w.heap.size) (hn : n ≤ 1000) :
    Calls Tryd.prog 26 #[v, .agg #[.int .u64 (f : Int), .int .u64 (t : Int), .int .i64 r]] w (ExtR rs ⟨f, t, r⟩ base v w) := by
  have hrl : rs.length = n := by have h2 := h.1; rw [cellsL_len] at h2; omega
  obtain ⟨wa, hwa, hX, hba, hsa⟩ := one_new w #[.int .u64 (f : Int), .int .u64 (t : Int), .int .i64 r] 45
  have hown := own_after h hba
  have hgr : w.grownBy wa none := by rw [hwa]; exact World.grownBy_alloc w _ none
  have c0 : wa.cell? ⟨w.heap.size, 0, none⟩ = some (.int .u64 (f : Int)) := hX.cell 0
  have c1 : wa.cell? ⟨w.heap.size, 1, none⟩ = some (.int .u64 (t : Int)) := hX.cell 1
  have c2 : wa.cell? ⟨w.heap.size, 2, none⟩ = some (.int .i64 r) := hX.cell 2
  have HO := Lib.hid hown
  have HGR := Lib.hid hgr
  have HXX := Lib.hid hX
  have HSZ := Lib.hid (show base ≤ wa.heap.size by omega)
  have HB := Lib.hid hb
  clear hX hba hsa hown hgr hb
  rcases Nat.eq_zero_or_pos n with hn0 | hn0
  · have hrn : rs = [] := List.eq_nil_of_length_eq_zero (by omega)
    obtain ⟨A, c, rfl⟩ := own_sl h
    clear h
    have hn0' : ¬ (0 : Int) < (n : Int) := by omega
    have hn0n : ¬ 0 < n := by omega
    have hnd : decide (0 < n) = false := decide_eq_false hn0n
    have HRN := Lib.hid hrn
    have HN0 := Lib.hid hn0
    clear hrn hn0
    go_enter Tryd.func26, Tryd.ntmps26
    go_upto_region 1 with fail
    rw [← hwa]
    clear hwa
    go_upto_region 2 with fail
    go_quiet (fail)
    have hOa := HO.out
    replace hOa : (wa.drewN nq).ownsRow base 45 3 (.slice A n c) n (cellsL 3 ruV rs) := hOa
    have hgr2 : w.grownBy (wa.drewN nq) none := ⟨HGR.out.os, HGR.out.tape, HGR.out.output, HGR.out.size, HGR.out.block⟩
    replace c0 : (wa.drewN nq).cell? ⟨w.heap.size, 0, none⟩ = some (.int .u64 (f : Int)) := c0
    replace c1 : (wa.drewN nq).cell? ⟨w.heap.size, 1, none⟩ = some (.int .u64 (t : Int)) := c1
    replace c2 : (wa.drewN nq).cell? ⟨w.heap.size, 2, none⟩ = some (.int .i64 r) := c2
    have hsz : base ≤ (wa.drewN nq).heap.size := HSZ.out
    have HOA := Lib.hid hOa
    have HG2 := Lib.hid hgr2
    have HS2 := Lib.hid hsz
    clear hOa hgr2 hsz
    generalize wa.drewN nq = wb at *
    go_wp2_with (refine wp_append_els (f := ruV) Tryd.underlying41 infoRb rfl (by decide) (by decide) ruV_one rfl _ _ rfl base _ n _ rfl (own_after HOA.out ((Below.refl _ _).alloc (Nat.le_refl _) _)) _ 1 rfl [⟨f, t, r⟩] rfl (Has.new _ _ _) (by omega) (by rw [size_alloc1]; have h8 := HS2.out; omega) ?_; intro v5 w5 hown5 hgr5; go_frame)
    go_ret
    have hgrw : w.grownBy w5 (Value.slice A n c).ownBlock := grown_both HG2.out hgr5
    refine ⟨v5, n + 1, rfl, ?_, ?_, hgrw⟩
    · rw [show extE rs ⟨f, t, r⟩ = rs ++ [⟨f, t, r⟩] by rw [HRN.out]; rfl, List.length_append, hrl]; rfl
    · rw [show extE rs ⟨f, t, r⟩ = rs ++ [⟨f, t, r⟩] by rw [HRN.out]; rfl]; exact hown5
  · obtain ⟨g, c, rfl, hg1, hg2⟩ := own_some h hn0
    obtain ⟨l, p, hlp⟩ : ∃ l p, rs = l ++ [p] := by
      have hne : rs ≠ [] := fun e => by rw [e] at hrl; simp at hrl; omega
      exact ⟨rs.dropLast, rs.getLast hne, (List.dropLast_concat_getLast hne).symm⟩
    obtain ⟨j, hj⟩ : ∃ j, j = n - 1 := ⟨_, rfl⟩
    have hll : l.length = j := by rw [hlp, List.length_append] at hrl; simp at hrl; omega
    have hj1 : (n : Int) - 1 = (j : Int) := by omega
    have hjn : (j : Int) < (n : Int) := by omega
    have hn0' : (0 : Int) < (n : Int) := by omega
    have hnd : decide (0 < n) = true := decide_eq_true hn0
    have hat : ∀ W, (Instr.indexAt 41 (.slice (some ⟨g, 0, none⟩) n c) (.int .i64 (j : Int))).run Tryd.prog W = .ok (.pointer (some ⟨g, j * 3, none⟩)) W := fun W => by
      have h1 := at_run g 0 n c j hjn W
      rwa [Nat.zero_add] at h1
    have hcs := HO.out.cells (g := g) rfl
    have d1 : wa.cell? ⟨g, j * 3 + 1, none⟩ = some (.int .u64 (p.t : Int)) := by
      have h1 := hcs (j * 3 + 1) _ (by rw [hlp, ← hll]; exact cellsL_get 3 ruV sp0 (l ++ [p]) l.length 1 (by simp) (by decide))
      rw [Addr.add_mid, Nat.zero_add] at h1
      rw [h1]; simp [ruV]
    have d2 : wa.cell? ⟨g, j * 3 + 2, none⟩ = some (.int .i64 p.r) := by
      have h1 := hcs (j * 3 + 2) _ (by rw [hlp, ← hll]; exact cellsL_get 3 ruV sp0 (l ++ [p]) l.length 2 (by simp) (by decide))
      rw [Addr.add_mid, Nat.zero_add] at h1
      rw [h1]; simp [ruV]
    have hfz : wa.frozen? ⟨g, j * 3 + 1, none⟩ = false := own_frozen HO.out _
    have hext := ext_last l p ⟨f, t, r⟩
    rw [← hlp] at hext
    dsimp only at hext
    obtain ⟨pf, pt, pr⟩ := p
    dsimp only at d1 d2 hext
    have hgne : g ≠ w.heap.size := by omega
    have HEXT := Lib.hid hext
    have HLP := Lib.hid hlp
    have HLL := Lib.hid hll
    have HJ := Lib.hid hj
    clear h hcs hext hlp hll hj
    go_enter Tryd.func26, Tryd.ntmps26
    go_upto_region 1 with fail
    rw [← hwa]
    clear hwa
    go_upto_region 2 with fail
    by_cases e1 : pt = f
    · have e1' : ((pt : Int) == (f : Int)) = true := beq_iff_eq.2 (by omega)
      by_cases e2 : pr = r
      · have e2' : (pr == r) = true := beq_iff_eq.2 e2
        have hxe : extE rs ⟨f, t, r⟩ = l ++ [⟨pf, t, pr⟩] := by rw [HEXT.out, if_pos ⟨e1, e2⟩]
        have HXE := Lib.hid hxe
        clear hxe e1 e2
        go_quiet (fail)
        have hOa := HO.out
        replace hOa : (wa.drewN nq).ownsRow base 45 3 (.slice (some ⟨g, 0, none⟩) n c) n (cellsL 3 ruV rs) := hOa
        have hgr2 : w.grownBy (wa.drewN nq) none := ⟨HGR.out.os, HGR.out.tape, HGR.out.output, HGR.out.size, HGR.out.block⟩
        replace c0 : (wa.drewN nq).cell? ⟨w.heap.size, 0, none⟩ = some (.int .u64 (f : Int)) := c0
        replace c1 : (wa.drewN nq).cell? ⟨w.heap.size, 1, none⟩ = some (.int .u64 (t : Int)) := c1
        replace c2 : (wa.drewN nq).cell? ⟨w.heap.size, 2, none⟩ = some (.int .i64 r) := c2
        have hsz : base ≤ (wa.drewN nq).heap.size := HSZ.out
        have HOA := Lib.hid hOa
        have HG2 := Lib.hid hgr2
        have HS2 := Lib.hid hsz
        clear hOa hgr2 hsz
        replace d1 : (wa.drewN nq).cell? ⟨g, j * 3 + 1, none⟩ = some (.int .u64 (pt : Int)) := d1
        generalize wa.drewN nq = wb at *
        have hfz2 : wb.frozen? ⟨g, j * 3 + 1, none⟩ = false := own_frozen HOA.out _
        clear hfz
        go_wp2_with fail
        go_ret
        have hset := own_set HOA.out (j * 3 + 1) (.int .u64 (t : Int)) (by omega)
        have hsl := set_last l ⟨pf, pt, pr⟩ t
        rw [HLL.out, ← HLP.out] at hsl
        rw [hsl] at hset
        refine ⟨_, n, rfl, ?_, ?_, ?_⟩
        · rw [HXE.out, List.length_append, HLL.out]; have := HJ.out; simp only [List.length_cons, List.length_nil]; omega
        · rw [HXE.out]; exact hset
        · exact grown_trans ⟨HG2.out.os, HG2.out.tape, HG2.out.output, HG2.out.size, fun i hi _ => HG2.out.block i hi (by simp)⟩ (grown_setCell wb g _ _)
      · have e2' : (pr == r) = false := beq_eq_false_iff_ne.2 e2
        have hxe : extE rs ⟨f, t, r⟩ = rs ++ [⟨f, t, r⟩] := by rw [HEXT.out, if_neg (fun h => e2 h.2)]
        have HXE := Lib.hid hxe
        clear hxe e1 e2
        go_quiet (fail)
        have hOa := HO.out
        replace hOa : (wa.drewN nq).ownsRow base 45 3 (.slice (some ⟨g, 0, none⟩) n c) n (cellsL 3 ruV rs) := hOa
        have hgr2 : w.grownBy (wa.drewN nq) none := ⟨HGR.out.os, HGR.out.tape, HGR.out.output, HGR.out.size, HGR.out.block⟩
        replace c0 : (wa.drewN nq).cell? ⟨w.heap.size, 0, none⟩ = some (.int .u64 (f : Int)) := c0
        replace c1 : (wa.drewN nq).cell? ⟨w.heap.size, 1, none⟩ = some (.int .u64 (t : Int)) := c1
        replace c2 : (wa.drewN nq).cell? ⟨w.heap.size, 2, none⟩ = some (.int .i64 r) := c2
        have hsz : base ≤ (wa.drewN nq).heap.size := HSZ.out
        have HOA := Lib.hid hOa
        have HG2 := Lib.hid hgr2
        have HS2 := Lib.hid hsz
        clear hOa hgr2 hsz
        generalize wa.drewN nq = wb at *
        go_wp2_with (refine wp_append_els (f := ruV) Tryd.underlying41 infoRb rfl (by decide) (by decide) ruV_one rfl _ _ rfl base _ n _ rfl (own_after HOA.out ((Below.refl _ _).alloc (Nat.le_refl _) _)) _ 1 rfl [⟨f, t, r⟩] rfl (Has.new _ _ _) (by omega) (by rw [size_alloc1]; have h8 := HS2.out; omega) ?_; intro v5 w5 hown5 hgr5; go_frame)
        go_ret
        have hgrw : w.grownBy w5 (Value.slice (some ⟨g, 0, none⟩) n c).ownBlock := grown_both HG2.out hgr5
        refine ⟨v5, n + 1, rfl, ?_, ?_, hgrw⟩
        · rw [HXE.out, List.length_append, hrl]; rfl
        · rw [HXE.out]; exact hown5
    · have e1' : ((pt : Int) == (f : Int)) = false := beq_eq_false_iff_ne.2 (by omega)
      have hxe : extE rs ⟨f, t, r⟩ = rs ++ [⟨f, t, r⟩] := by rw [HEXT.out, if_neg (fun h => e1 h.1)]
      have HXE := Lib.hid hxe
      clear hxe e1
      go_quiet (fail)
      have hOa := HO.out
      replace hOa : (wa.drewN nq).ownsRow base 45 3 (.slice (some ⟨g, 0, none⟩) n c) n (cellsL 3 ruV rs) := hOa
      have hgr2 : w.grownBy (wa.drewN nq) none := ⟨HGR.out.os, HGR.out.tape, HGR.out.output, HGR.out.size, HGR.out.block⟩
      replace c0 : (wa.drewN nq).cell? ⟨w.heap.size, 0, none⟩ = some (.int .u64 (f : Int)) := c0
      replace c1 : (wa.drewN nq).cell? ⟨w.heap.size, 1, none⟩ = some (.int .u64 (t : Int)) := c1
      replace c2 : (wa.drewN nq).cell? ⟨w.heap.size, 2, none⟩ = some (.int .i64 r) := c2
      have hsz : base ≤ (wa.drewN nq).heap.size := HSZ.out
      have HOA := Lib.hid hOa
      have HG2 := Lib.hid hgr2
      have HS2 := Lib.hid hsz
      clear hOa hgr2 hsz
      generalize wa.drewN nq = wb at *
      go_wp2_with (refine wp_append_els (f := ruV) Tryd.underlying41 infoRb rfl (by decide) (by decide) ruV_one rfl _ _ rfl base _ n _ rfl (own_after HOA.out ((Below.refl _ _).alloc (Nat.le_refl _) _)) _ 1 rfl [⟨f, t, r⟩] rfl (Has.new _ _ _) (by omega) (by rw [size_alloc1]; have h8 := HS2.out; omega) ?_; intro v5 w5 hown5 hgr5; go_frame)
      go_ret
      have hgrw : w.grownBy w5 (Value.slice (some ⟨g, 0, none⟩) n c).ownBlock := grown_both HG2.out hgr5
      refine ⟨v5, n + 1, rfl, ?_, ?_, hgrw⟩
      · rw [HXE.out, List.length_append, hrl]; rfl
      · rw [HXE.out]; exact hown5
end Go.Proofs.YtjpmigagoedbcaaDoor.Pm
