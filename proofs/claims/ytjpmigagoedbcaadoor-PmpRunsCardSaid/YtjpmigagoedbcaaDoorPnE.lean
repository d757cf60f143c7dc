/-
Layer 12: package pmp's end, valid, napot, permit.
-/
import Derived.Test.YtjpmigagoedbcaaDoorPnC
import Derived.Test.YtjpmigagoedbcaaDoorPmF
import Derived.Maps.RangeWalk
namespace Go.Proofs.YtjpmigagoedbcaaDoor.Pm
open Go Go.RowKit

def grA (g : Gr) : Array Value := #[.int .u32 (g.s : Int), .int .u32 (g.z : Int), .int .i64 g.r]
set_option maxRecDepth 100000 in
set_option maxHeartbeats 1000000 in
theorem end_any (s z : Nat) (r : Int) (hs : s < 4294967296) (hz : z < 4294967296) (w : World) :
    Calls Tryd.prog 28 #[.agg #[.int .u32 (s : Int), .int .u32 (z : Int), .int .i64 r]] w fun e w' => e = .returned (.int .u64 ((s : Int) + (z : Int))) ∧ w' = w.alloc (.cells #[.int .u32 (s : Int), .int .u32 (z : Int), .int .i64 r] 36) := by
  go_enter Tryd.func28, Tryd.ntmps28
  go_wp2_with fail
  go_ret
  exact ⟨rfl, rfl⟩
set_option maxRecDepth 100000 in
set_option maxHeartbeats 4000000 in
theorem valid_any (s z : Nat) (r : Int) (hs : s < 4294967296) (hz : z < 4294967296) (w : World) :
    Calls Tryd.prog 19 #[.agg #[.int .u32 (s : Int), .int .u32 (z : Int), .int .i64 r]] w fun e w' => e = .returned (.bool (okG ⟨s, z, r⟩)) ∧ Below w.heap.size w w' := by
  generalize hv : okG ⟨s, z, r⟩ = v
  have hok : (s % 4 = 0 ∧ z % 4 = 0 ∧ z ≠ 0 ∧ s + z ≤ 4294967296 ∧ 1 ≤ r ∧ r ≤ 7) → true = v := fun h => by
    rw [← hv]; unfold okG; simp [h.1, h.2.1, h.2.2.1, h.2.2.2.1, h.2.2.2.2.1, h.2.2.2.2.2]
  have hno : ¬(s % 4 = 0 ∧ z % 4 = 0 ∧ z ≠ 0 ∧ s + z ≤ 4294967296 ∧ 1 ≤ r ∧ r ≤ 7) → false = v := fun h => by
    rw [← hv]; exact (okG_no h).symm
  have HOK := Lib.hid hok
  have HNO := Lib.hid hno
  clear hok hno hv
  obtain ⟨qs, hqs⟩ : ∃ q, q = s % 4 := ⟨_, rfl⟩
  obtain ⟨qz, hqz⟩ : ∃ q, q = z % 4 := ⟨_, rfl⟩
  have ms : (s : Int).tmod 4 = (qs : Int) := by rw [Int.tmod_eq_emod_of_nonneg (by omega)]; omega
  have mz : (z : Int).tmod 4 = (qz : Int) := by rw [Int.tmod_eq_emod_of_nonneg (by omega)]; omega
  have ms' : (s : Int) % 4 = (qs : Int) := by omega
  have mz' : (z : Int) % 4 = (qz : Int) := by omega
  have HQS := Lib.hid hqs
  have HQZ := Lib.hid hqz
  clear hqs hqz
  have kE := fun W => end_any s z r hs hz W
  go_enter Tryd.func19, Tryd.ntmps19
  obtain ⟨wa, hwa, hX, hba, hsa⟩ := one_new w #[.int .u32 (s : Int), .int .u32 (z : Int), .int .i64 r] 36
  go_upto_region 1 with fail
  rw [← hwa]
  have c0 : wa.cell? ⟨w.heap.size, 0, none⟩ = some (.int .u32 (s : Int)) := hX.cell 0
  have c1 : wa.cell? ⟨w.heap.size, 1, none⟩ = some (.int .u32 (z : Int)) := hX.cell 1
  have c2 : wa.cell? ⟨w.heap.size, 2, none⟩ = some (.int .i64 r) := hX.cell 2
  have hb2 := hba.trans (((Below.refl _ wa).alloc (Nat.le_refl _) (.cells #[.int .u32 (s : Int), .int .u32 (z : Int), .int .i64 r] 36)).mono hba.size)
  have hne : w.heap.size ≠ wa.heap.size := by omega
  have d2 : (wa.alloc (.cells #[.int .u32 (s : Int), .int .u32 (z : Int), .int .i64 r] 36)).cell? ⟨w.heap.size, 2, none⟩ = some (.int .i64 r) := (hX.below ((Below.refl _ wa).alloc (Nat.le_refl _) _) hX.lt).cell 2
  have HB1 := Lib.hid hba
  have HB2 := Lib.hid hb2
  clear hwa hX hba hsa hb2
  by_cases h0 : qs = 0
  · have i0 : ((qs : Int) == 0) = true := beq_iff_eq.2 (by omega)
    by_cases h1 : qz = 0
    · have i1 : ((qz : Int) == 0) = true := beq_iff_eq.2 (by omega)
      by_cases h2 : z ≠ 0
      · have i2 : ((z : Int) != 0) = true := bne_iff_ne.2 (by omega)
        by_cases h3 : s + z ≤ 4294967296
        · have i3 : (s : Int) + (z : Int) ≤ 4294967296 := by omega
          by_cases h4 : 1 ≤ r
          · skip
            by_cases h5 : r ≤ 7
            · skip
              go_wp2_with (go_at_call 28; with_reducible refine (kE _).mono ?_; rintro e w5 ⟨rfl, hw5⟩; subst hw5)
              go_ret
              refine ⟨congrArg (fun b => Ending.returned (.bool b)) ?_, HB2.out⟩
              have hz := HOK.out (by have := HQS.out; have := HQZ.out; omega)
              first | exact hz | exact (decide_eq_true h5).trans hz
            · have i5 : ¬ r ≤ 7 := by omega
              go_wp2_with (go_at_call 28; with_reducible refine (kE _).mono ?_; rintro e w5 ⟨rfl, hw5⟩; subst hw5)
              go_ret
              refine ⟨congrArg (fun b => Ending.returned (.bool b)) ?_, HB2.out⟩
              have hz := HNO.out (by have := HQS.out; have := HQZ.out; omega)
              first | exact hz | exact (decide_eq_false (by omega)).trans hz
          · have i4 : ¬ 1 ≤ r := by omega
            go_wp2_with (go_at_call 28; with_reducible refine (kE _).mono ?_; rintro e w5 ⟨rfl, hw5⟩; subst hw5)
            go_ret
            refine ⟨congrArg (fun b => Ending.returned (.bool b)) ?_, HB2.out⟩
            have hz := HNO.out (by have := HQS.out; have := HQZ.out; omega)
            first | exact hz | exact (decide_eq_false (by omega)).trans hz
        · have i3 : ¬ (s : Int) + (z : Int) ≤ 4294967296 := by omega
          go_wp2_with (go_at_call 28; with_reducible refine (kE _).mono ?_; rintro e w5 ⟨rfl, hw5⟩; subst hw5)
          go_ret
          refine ⟨congrArg (fun b => Ending.returned (.bool b)) ?_, HB2.out⟩
          have hz := HNO.out (by have := HQS.out; have := HQZ.out; omega)
          first | exact hz | exact (decide_eq_false (by omega)).trans hz
      · have i2 : ((z : Int) != 0) = false := bne_eq_false_iff_eq.2 (by omega)
        go_wp2_with fail
        go_ret
        refine ⟨congrArg (fun b => Ending.returned (.bool b)) ?_, HB1.out⟩
        have hz := HNO.out (by have := HQS.out; have := HQZ.out; omega)
        first | exact hz | exact (decide_eq_false (by omega)).trans hz
    · have i1 : ((qz : Int) == 0) = false := beq_eq_false_iff_ne.2 (by omega)
      go_wp2_with fail
      go_ret
      refine ⟨congrArg (fun b => Ending.returned (.bool b)) ?_, HB1.out⟩
      have hz := HNO.out (by have := HQS.out; have := HQZ.out; omega)
      first | exact hz | exact (decide_eq_false (by omega)).trans hz
  · have i0 : ((qs : Int) == 0) = false := beq_eq_false_iff_ne.2 (by omega)
    go_wp2_with fail
    go_ret
    refine ⟨congrArg (fun b => Ending.returned (.bool b)) ?_, HB1.out⟩
    have hz := HNO.out (by have := HQS.out; have := HQZ.out; omega)
    first | exact hz | exact (decide_eq_false (by omega)).trans hz
set_option maxRecDepth 100000 in
set_option maxHeartbeats 1000000 in
theorem napot_any (s z a : Nat) (r : Int) (hs : s < 4294967296) (hz8 : 8 ≤ z) (hz : z ≤ 4294967296) (ha : s / 4 ||| (z / 8 - 1) = a) (w : World) :
    Calls Tryd.prog 21 #[.int .u32 (s : Int), .int .u64 (z : Int), .int .i64 r] w fun e w' => e = .returned (.agg #[.int .i64 3, .int .i64 r, .int .u32 (a : Int)]) ∧ Below w.heap.size w w' := by
  have hor : bits .or .u32 ((s : Int) / 4) ((z : Int) / 8 - 1) = (a : Int) := by
    have h := u32_or_nat (s / 4) (z / 8 - 1) (by omega) (by omega)
    rw [ha] at h
    rw [show (s : Int) / 4 = ((s / 4 : Nat) : Int) by omega, show (z : Int) / 8 - 1 = ((z / 8 - 1 : Nat) : Int) by omega]
    exact h
  obtain ⟨q, hq⟩ : ∃ q, q = z / 8 := ⟨_, rfl⟩
  have e1 : (z : Int) / 8 = (q : Int) := by omega
  have e2 : (z : Int).tdiv 8 = (q : Int) := by rw [Int.tdiv_eq_ediv_of_nonneg (by omega)]; omega
  have hq1 : 1 ≤ q := by omega
  have hq2 : q ≤ 536870912 := by omega
  rw [e1] at hor
  clear hq ha hz hz8
  go_enter Tryd.func21, Tryd.ntmps21
  go_wp2_with fail
  have hG : Has (w.alloc (.cells #[.int .i64 3, .int .i64 r, .int .u32 (a : Int)] 32)) w.heap.size 32 #[.int .i64 3, .int .i64 r, .int .u32 (a : Int)] := Has.new _ _ _
  refine bodyPost_ret (results_cell_row rfl _ _ w.heap.size 32 _ _ _ rfl hG Tryd.underlying32 rfl infoE) rfl ⟨rfl, ?_⟩
  exact (Below.refl _ w).alloc (Nat.le_refl _) _
theorem pow_and (z : Nat) (h0 : z ≠ 0) (h4 : z % 4 = 0) (hz : z < 4294967296) : (z &&& (z - 1) = 0) = (powB z = true) := by
  refine propext ⟨fun h => ?_, fun h => ?_⟩
  · obtain ⟨k, hk⟩ := (Nat.and_sub_one_eq_zero_iff_isPowerOfTwo h0).1 h
    have hk2 : 2 ≤ k := by
      match k, hk with
      | 0, hk => exfalso; rw [hk] at h4; exact absurd h4 (by decide)
      | 1, hk => exfalso; rw [hk] at h4; exact absurd h4 (by decide)
      | k + 2, _ => omega
    have hk32 : k < 32 := by
      refine Nat.lt_of_not_le fun h5 => ?_
      have := Nat.pow_le_pow_right (show 0 < 2 by decide) h5
      have e : (2 : Nat) ^ 32 = 4294967296 := by decide
      omega
    unfold powB
    refine List.any_eq_true.2 ⟨k - 2, List.mem_range.2 (by omega), decide_eq_true ?_⟩
    obtain ⟨j, rfl⟩ : ∃ j, k = j + 2 := ⟨k - 2, by omega⟩
    rw [hk, Nat.pow_add, Nat.mul_comm, Nat.add_sub_cancel]
  · obtain ⟨k, _, hk⟩ := List.any_eq_true.1 (show (List.range 31).any (fun k => decide (z = 4 * 2 ^ k)) = true from h)
    have hk := of_decide_eq_true hk
    refine (Nat.and_sub_one_eq_zero_iff_isPowerOfTwo h0).2 ⟨k + 2, ?_⟩
    rw [hk, Nat.pow_add, Nat.mul_comm]
theorem nap_or (s z : Nat) (h4 : z ≠ 4) (hp : powB z = true) (hm : s % z = 0) : s / 4 ||| (z / 8 - 1) = s / 4 + z / 8 - 1 := by
  obtain ⟨k, _, hz⟩ := powB_some hp h4
  have hpos := Nat.two_pow_pos k
  obtain ⟨b, hb⟩ : ∃ b, s = z * b := ⟨s / z, by have := Nat.div_add_mod s z; omega⟩
  have e1 : s / 4 = 2 ^ (k + 1) * b := by
    have e0 : s = 4 * (2 ^ (k + 1) * b) := by rw [hb, hz, Nat.pow_succ]; rw [← Nat.mul_assoc]; congr 1; omega
    rw [e0]; omega
  have e2 : z / 8 - 1 = 2 ^ k - 1 := by omega
  rw [e1, e2, ← Nat.two_pow_add_eq_or_of_lt (by rw [Nat.pow_succ]; omega)]
  omega
theorem two_has (w : World) (o : Obj) (t : TypeId) (cs : Array Value) : Has ((w.alloc o).alloc (.cells cs t)).drew (w.heap.size + 1) t cs := by
  have h : Has ((w.alloc o).alloc (.cells cs t)) (w.alloc o).heap.size t cs := Has.new _ _ _
  rw [size_alloc1] at h
  exact h
theorem two_below (w : World) (o o2 : Obj) : Below w.heap.size w ((w.alloc o).alloc o2).drew := by
  have h1 : Below w.heap.size w (w.alloc o) := (Below.refl _ w).alloc (Nat.le_refl _) o
  have h2 : Below (w.alloc o).heap.size (w.alloc o) ((w.alloc o).alloc o2) := (Below.refl _ _).alloc (Nat.le_refl _) o2
  exact below_drewN (h1.trans (h2.mono h1.size)) 1
/-- a slice of the call's own that holds the entries of a grant -/
def PermR (g : Gr) (w : World) (e : Ending) (w' : World) : Prop := ∃ h m, e = .returned (.slice (some ⟨h, 0, none⟩) m m) ∧ (entG g).length = m ∧ Has w' h 32 (cellsL 3 enV (entG g)).toArray ∧ Below w.heap.size w w'
set_option maxRecDepth 100000 in
set_option maxHeartbeats 4000000 in
theorem permit_any (s z : Nat) (r : Int) (hok : okG ⟨s, z, r⟩ = true) (hs : s < 4294967296) (hz : z < 4294967296) (w : World) :
    Calls Tryd.prog 20 #[.agg #[.int .u32 (s : Int), .int .u32 (z : Int), .int .i64 r]] w (PermR ⟨s, z, r⟩ w) := by
  obtain ⟨k1, k2, k3, k4, k5, k6⟩ := okG_parts hok
  dsimp only at k1 k2 k3 k4 k5 k6
  have hpa := pow_and z k3 k2 hz
  have hno := nap_or s z
  have han1 := u32_and_nat z (z - 1) hz (by omega)
  have hvz : z &&& (z - 1) ≤ z := Nat.and_le_left
  have hmz : s % z < z := Nat.mod_lt _ (by omega)
  have hen : entG ⟨s, z, r⟩ = if z = 4 then [⟨2, r, s / 4⟩] else if powB z && decide (s % z = 0) then [⟨3, r, s / 4 + z / 8 - 1⟩] else [⟨0, 0, s / 4⟩, ⟨1, r, (s + z) / 4⟩] := rfl
  generalize hv : z &&& (z - 1) = v at *
  clear hv
  have e1 : ((z - 1 : Nat) : Int) = (z : Int) - 1 := by omega
  rw [e1] at han1
  have ms : (s : Int).tmod (z : Int) = ((s % z : Nat) : Int) := by rw [Int.tmod_eq_emod_of_nonneg (by omega)]; rfl
  have ms' : (s : Int) % (z : Int) = ((s % z : Nat) : Int) := rfl
  generalize hq : s % z = q at *
  have hz0 : (z : Int) ≠ 0 := by omega
  have hz0' : ((z : Int) == 0) = false := beq_eq_false_iff_ne.2 hz0
  obtain ⟨a, ha⟩ : ∃ a, a = s / 4 := ⟨_, rfl⟩
  have s4 : (s : Int) / 4 = (a : Int) := by omega
  have s4' : (s : Int).tdiv 4 = (a : Int) := by rw [Int.tdiv_eq_ediv_of_nonneg (by omega)]; omega
  obtain ⟨t, ht⟩ : ∃ t, t = (s + z) / 4 := ⟨_, rfl⟩
  have t4 : ((s : Int) + (z : Int)) / 4 = (t : Int) := by omega
  have t4' : ((s : Int) + (z : Int)).tdiv 4 = (t : Int) := by rw [Int.tdiv_eq_ediv_of_nonneg (by omega)]; omega
  have htl : t < 4294967296 := by omega
  have tw1 : IntKind.u64.wrap (t : Int) = (t : Int) := by rw [IntKind.wrap_u64]; omega
  have tw2 : IntKind.u32.wrap (t : Int) = (t : Int) := by simp [IntKind.wrap, IntKind.bits, IntKind.signed]; omega
  have HTQ := Lib.hid ht
  clear ht
  have hEN := Lib.hid hen
  have HPA := Lib.hid hpa
  have HNO := Lib.hid hno
  have HQ := Lib.hid hq
  have HA := Lib.hid ha
  clear hen hpa hno hq ha hok
  unfold PermR
  go_enter Tryd.func20, Tryd.ntmps20
  obtain ⟨wa, hwa, hX, hba, hsa⟩ := one_new w #[.int .u32 (s : Int), .int .u32 (z : Int), .int .i64 r] 36
  go_upto_region 1 with fail
  rw [← hwa]
  have c0 : wa.cell? ⟨w.heap.size, 0, none⟩ = some (.int .u32 (s : Int)) := hX.cell 0
  have c1 : wa.cell? ⟨w.heap.size, 1, none⟩ = some (.int .u32 (z : Int)) := hX.cell 1
  have c2 : wa.cell? ⟨w.heap.size, 2, none⟩ = some (.int .i64 r) := hX.cell 2
  have d2 : (wa.alloc (.cells #[.int .u32 (s : Int), .int .u32 (z : Int), .int .i64 r] 36)).cell? ⟨w.heap.size, 2, none⟩ = some (.int .i64 r) := (hX.below ((Below.refl _ wa).alloc (Nat.le_refl _) _) hX.lt).cell 2
  clear hwa hX hsa
  have HBA := Lib.hid hba
  clear hba
  by_cases h4 : z = 4
  · have h4' : ((z : Int) == 4) = true := beq_iff_eq.2 (by omega)
    have HE := Lib.hid (hEN.out.trans (if_pos h4))
    have H4 := Lib.hid h4
    clear h4
    go_wp2_with fail
    go_ret
    refine ⟨wa.heap.size, 1, rfl, by rw [HE.out]; rfl, ?_, ?_⟩
    · rw [HE.out]
      show Has (wa.alloc _) _ _ #[.int .i64 2, .int .i64 r, .int .u32 ((s / 4 : Nat) : Int)]
      rw [← HA.out]
      exact Has.new _ _ _
    · exact HBA.out.trans (((Below.refl _ wa).alloc (Nat.le_refl _) _).mono HBA.out.size)
  · have h4' : ((z : Int) == 4) = false := beq_eq_false_iff_ne.2 (by omega)
    by_cases hv0 : v = 0
    · have hv0' : ((v : Int) == 0) = true := beq_iff_eq.2 (by omega)
      by_cases hq0 : q = 0
      · have hq0' : ((q : Int) == 0) = true := beq_iff_eq.2 (by omega)
        have hpw : powB z = true := by rw [← HPA.out]; exact hv0
        have hz8 : 8 ≤ z := by omega
        have HE := Lib.hid (show entG ⟨s, z, r⟩ = [⟨3, r, s / 4 + z / 8 - 1⟩] by rw [hEN.out, if_neg h4, hpw, decide_eq_true hq0]; rfl)
        have kN := fun W => napot_any s z (s / 4 + z / 8 - 1) r hs hz8 (by omega) (HNO.out h4 hpw hq0) W
        generalize s / 4 + z / 8 - 1 = n at *
        clear hv0 hq0 h4 hpw
        go_wp2_with fail
        refine (kN wa).mono ?_
        rintro e w2 ⟨rfl, hb2⟩
        have hb3 := HBA.out.trans (hb2.mono HBA.out.size)
        have HB3 := Lib.hid hb3
        clear hb2 hb3 c0 c1 c2
        go_wp2_with fail
        go_ret
        refine ⟨w2.heap.size, 1, rfl, by rw [HE.out]; rfl, ?_, ?_⟩
        · rw [HE.out]
          exact Has.new _ _ _
        · exact HB3.out.trans (((Below.refl _ w2).alloc (Nat.le_refl _) _).mono HB3.out.size)
      · have hq0' : ((q : Int) == 0) = false := beq_eq_false_iff_ne.2 (by omega)
        have HE := Lib.hid (show entG ⟨s, z, r⟩ = [⟨0, 0, s / 4⟩, ⟨1, r, (s + z) / 4⟩] by rw [hEN.out, if_neg h4, decide_eq_false hq0, Bool.and_false]; rfl)
        clear hv0 hq0 h4
        go_upto_region 2 with fail
        go_region_with (go_at_call 28; with_reducible refine (end_any s z r hs hz _).mono ?_; rintro e w5 ⟨rfl, hw5⟩; subst hw5)
        all_goals go_wp2_with fail
        all_goals go_frame
        all_goals go_ret
        all_goals refine ⟨wa.heap.size + 1, 2, rfl, by rw [HE.out]; rfl, ?_, ?_⟩
        all_goals first
          | exact HBA.out.trans ((two_below wa _ _).mono HBA.out.size)
          | (rw [HE.out, ← HA.out, ← HTQ.out]; exact two_has wa _ _ _)
    · have hv0' : ((v : Int) == 0) = false := beq_eq_false_iff_ne.2 (by omega)
      have hpf : powB z = false := by
        cases hb : powB z with
        | false => rfl
        | true => exact absurd (by rw [HPA.out]; exact hb) hv0
      have HE := Lib.hid (show entG ⟨s, z, r⟩ = [⟨0, 0, s / 4⟩, ⟨1, r, (s + z) / 4⟩] by rw [hEN.out, if_neg h4, hpf, Bool.false_and]; rfl)
      clear hpf
      clear hv0 h4
      go_upto_region 2 with fail
      go_region_with (go_at_call 28; with_reducible refine (end_any s z r hs hz _).mono ?_; rintro e w5 ⟨rfl, hw5⟩; subst hw5)
      all_goals go_wp2_with fail
      all_goals go_frame
      all_goals go_ret
      all_goals refine ⟨wa.heap.size + 1, 2, rfl, by rw [HE.out]; rfl, ?_, ?_⟩
      all_goals first
        | exact HBA.out.trans ((two_below wa _ _).mono HBA.out.size)
        | (rw [HE.out, ← HA.out, ← HTQ.out]; exact two_has wa _ _ _)
end Go.Proofs.YtjpmigagoedbcaaDoor.Pm
