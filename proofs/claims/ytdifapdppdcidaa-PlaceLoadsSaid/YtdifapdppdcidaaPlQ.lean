/-
Layer 10, PlaceLoads: the law's walk.
-/
import Derived.Test.YtdifapdppdcidaaPlP
namespace Go.Proofs.Ytdifapdppdcidaa
open Go Go.RowKit

set_option maxRecDepth 100000 in
set_option maxHeartbeats 8000000 in
theorem loads10_ok (xs : List Sx) (s : Sl) (T : Nat → Sl) (pc : Array Value) (bias : Nat) (y : UInt8) (w0 : World) (hX : SlX w0 s xs T) (hp : pc[33]? = some (.int .u32 (bias : Int))) (_hbias : bias < 4294967296) :
    Calls Try.prog 4 #[s.v, .agg pc, .int .u8 (y.toNat : Int)] w0 fun e w' => e = .returned (.bool true) ∧ Below w0.heap.size w0 w' := by
  obtain ⟨A, n, c, rfl⟩ := s.out
  have hl : xs.length = n := hX.1
  have hn48 : n ≤ 140737488355328 := hX.2.1.1.2
  have HX := Lib.hid hX
  have HL := Lib.hid hl
  have hP : Has (w0.alloc (.cells pc 53)) w0.heap.size 53 pc := Has.new _ _ _
  have hb0 : Below w0.heap.size w0 (w0.alloc (.cells pc 53)) := (Below.refl _ _).alloc (Nat.le_refl _) _
  have hy8 := y.toNat_lt
  clear hX hl
  rw [show Sl.v ⟨A, n, c⟩ = .slice A n c from rfl]
  go_enter Try.func4, Try.ntmps4
  go_upto_region 1 with fail
  obtain ⟨gp, hgp⟩ : ∃ x, x = w0.heap.size := ⟨_, rfl⟩
  generalize w0.alloc (.cells pc 53) = u at *
  rw [← hgp] at hP ⊢
  have HGP := Lib.hid hgp
  clear hgp
  have kF := fit10_any u
  go_wp2_with (go_at_call 7; refine kF.mono ?_; rintro e w1 ⟨rfl, hb1⟩)
  clear kF
  have hP1 := hP.after hb1
  replace hb1 := hb0.trans (hb1.mono hb0.size)
  clear hP hb0
  go_loopw [7, 30] (fun nt ct wr => ∃ i : Nat, i ≤ n ∧ ct = .int .i64 (i : Int) ∧ nt = .int .i64 ((wX xs i : Nat) : Int) ∧ wX xs i ≤ 3000 ∧ (∀ j, j < i → (xs.getD j sx0).z ≤ 65536) ∧ (0 < i → n ≤ 20) ∧ Below w1.heap.size w1 wr) (fun _ ct _ => (n - (intOf ct)).toNat)
  case atStart => exact ⟨0, Nat.zero_le _, rfl, rfl, Nat.zero_le _, fun j hj => absurd hj (Nat.not_lt_zero _), fun h => absurd h (Nat.lt_irrefl _), Below.refl _ _⟩
  case round =>
    obtain ⟨i, hi, rfl, rfl, hw3, hz6, hn20, hb⟩ := hrel
    by_cases hlt : i < n
    · have di : (i : Int) < (n : Int) := by omega
      have hb2 := hb1.trans (hb.mono hb1.size)
      obtain ⟨hl1, hC1, hY1⟩ := HX.out.below hb2
      obtain ⟨b, o, hA2, hbl, _⟩ := hC1.2 (by show 0 < n; omega)
      replace hA2 : A = some ⟨b, o, none⟩ := hA2
      subst hA2
      have hr := hC1.range rfl (j := i) hlt
      have ha1 := fun w => at_sx' b o n c i di w
      obtain ⟨hy, hyn, hwx⟩ := hY1 i hlt
      change wr.rangeAt b (o + i * 4) ((List.range 4).map (sxV (xs.getD i sx0) (T i))) at hr
      have hws := hb.size
      have HZ : Hid (∀ j, j < i → (xs.getD j sx0).z ≤ 65536) := Lib.hid hz6
      have HWX : Hid (wX xs (i + 1) = wX xs i + (1 + (xs.getD i sx0).b.length)) := Lib.hid rfl
      obtain ⟨Ab, nb, cb, hTi⟩ := (T i).out
      rw [hTi] at hr hy hyn
      have hlb : (xs.getD i sx0).b.length = nb := hy.1
      have hxz := hwx.z
      have hxl := hwx.l
      have HZI : Hid (∀ v, (xs.getD i sx0).z ≤ v → ∀ j, j < i + 1 → (j < i → (xs.getD j sx0).z ≤ v) → (xs.getD j sx0).z ≤ v) := Lib.hid fun v h j hj h2 => by
        by_cases e : j = i
        · rw [e]; exact h
        · exact h2 (by omega)
      generalize hx : xs.getD i sx0 = x at *
      obtain ⟨xd, xb, xz, xr⟩ := x
      dsimp only at hlb hxz hxl HWX HZI
      have HWX2 : Hid (wX xs (i + 1) = wX xs i + (1 + nb)) := Lib.hid (by rw [HWX.out, hlb])
      have hnb : nb ≤ 140737488355328 := by omega
      have HB := Lib.hid hb
      clear hl1 hC1 hY1 hbl hy hyn hwx hTi HWX hlb hxl hb hb2 hx hz6
      generalize wX xs i = q at *
      by_cases h30 : q + (1 + nb) ≤ 3000
      · have d30 : (q : Int) + (1 + (nb : Int)) ≤ 3000 := by omega
        by_cases h65 : xz ≤ 65536
        · have d65 : (xz : Int) ≤ 65536 := by omega
          by_cases h20 : n ≤ 20
          · have d20 : (n : Int) ≤ 20 := by omega
            go_wp2_with (first
              | (refine wp_load_se rfl _ rfl b (o + i * 4) rfl _ hr ?_)
              | (refine wp_fresh 55 4 _ _ _ _ rfl rfl rfl rfl zeroSx infoSE4 (by omega) (sxV_one _ _) rfl rfl ?_
                 intro w2 hGc hb2 hz2
                 have hc1 : w2.cell? ⟨_, 1, none⟩ = some (.slice Ab nb cb) := hGc.cellTab 1 (by omega)
                 have hc2 : w2.cell? ⟨_, 2, none⟩ = some (.int .u32 (xz : Int)) := hGc.cellTab 2 (by omega)))
            go_roundw
            case rel => exact ⟨i + 1, hlt, by go_num, by rw [HWX2.out]; go_num, by rw [HWX2.out]; exact h30, fun j hj => HZI.out 65536 h65 j hj (fun h => HZ.out j h), fun _ => h20, HB.out.trans (hb2.mono hws)⟩
            case measure => simp [intOf] <;> omega
          · have d20 : 20 < (n : Int) := by omega
            go_wp2_with (first
              | (refine wp_load_se rfl _ rfl b (o + i * 4) rfl _ hr ?_)
              | (refine wp_fresh 55 4 _ _ _ _ rfl rfl rfl rfl zeroSx infoSE4 (by omega) (sxV_one _ _) rfl rfl ?_
                 intro w2 hGc hb2 hz2
                 have hc1 : w2.cell? ⟨_, 1, none⟩ = some (.slice Ab nb cb) := hGc.cellTab 1 (by omega)
                 have hc2 : w2.cell? ⟨_, 2, none⟩ = some (.int .u32 (xz : Int)) := hGc.cellTab 2 (by omega)))
            go_ret
            exact ⟨rfl, hb1.trans ((HB.out.mono hb1.size).trans (hb2.mono (Nat.le_trans hb1.size hws)))⟩
        · have d65 : 65536 < (xz : Int) := by omega
          go_wp2_with (first
            | (refine wp_load_se rfl _ rfl b (o + i * 4) rfl _ hr ?_)
            | (refine wp_fresh 55 4 _ _ _ _ rfl rfl rfl rfl zeroSx infoSE4 (by omega) (sxV_one _ _) rfl rfl ?_
               intro w2 hGc hb2 hz2
               have hc1 : w2.cell? ⟨_, 1, none⟩ = some (.slice Ab nb cb) := hGc.cellTab 1 (by omega)
               have hc2 : w2.cell? ⟨_, 2, none⟩ = some (.int .u32 (xz : Int)) := hGc.cellTab 2 (by omega)))
          go_ret
          exact ⟨rfl, hb1.trans ((HB.out.mono hb1.size).trans (hb2.mono (Nat.le_trans hb1.size hws)))⟩
      · have d30 : 3000 < (q : Int) + (1 + (nb : Int)) := by omega
        go_wp2_with (first
          | (refine wp_load_se rfl _ rfl b (o + i * 4) rfl _ hr ?_)
          | (refine wp_fresh 55 4 _ _ _ _ rfl rfl rfl rfl zeroSx infoSE4 (by omega) (sxV_one _ _) rfl rfl ?_
             intro w2 hGc hb2 hz2
             have hc1 : w2.cell? ⟨_, 1, none⟩ = some (.slice Ab nb cb) := hGc.cellTab 1 (by omega)
             have hc2 : w2.cell? ⟨_, 2, none⟩ = some (.int .u32 (xz : Int)) := hGc.cellTab 2 (by omega)))
        go_ret
        exact ⟨rfl, hb1.trans ((HB.out.mono hb1.size).trans (hb2.mono (Nat.le_trans hb1.size hws)))⟩
    · obtain rfl : i = n := by omega
      have HW3 := Lib.hid hw3
      have HZ6 := Lib.hid hz6
      have hn2 : i ≤ 20 := by
        rcases Nat.eq_zero_or_pos i with h | h
        · omega
        · exact hn20 h
      have hP2 := hP1.after hb
      replace hb1 := hb1.trans (hb.mono hb1.size)
      clear hw3 hz6 hb hP1 hlt hi hn20
      generalize wX xs i = q at *
      generalize wr = u1 at *
      go_upto_region 11 with fail
      go_wp2_with fail
      refine (pnew_any u1).mono ?_
      rintro e w2 ⟨⟨g, rfl, hG, hgB⟩, hb2⟩
      have hgpg := Nat.lt_of_lt_of_le hP2.lt hgB
      obtain ⟨N, hN⟩ : ∃ N, N = 65536 := ⟨_, rfl⟩
      have hmk : ∀ W, (Instr.makeSlice 25 (.int .i64 65536) (.int .i64 65536)).run Try.prog W = .ok (.slice (some ⟨W.heap.size, 0, none⟩) 65536 65536) (W.alloc (.cells (tab N zeroY8) 5)) := fun W => by rw [hN]; exact make_i 65536 (by decide) W
      have hRow : RowP (w2.alloc (.cells (tab N zeroY8) 5)) w2.heap.size (fillM y 0) := ⟨N, hN, by rw [tab_ext N (memV (fillM y 0)) zeroY8 fun j _ => rfl]; exact Has.new _ _ _⟩
      have hb3 : Below w2.heap.size w2 (w2.alloc (.cells (tab N zeroY8) 5)) := (Below.refl _ _).alloc (Nat.le_refl _) _
      clear hN
      go_upto_region 13 with fail
      have hG3 := hG.after hb3
      have hgb := hG.lt
      have hP3 := hP2.after (below_trans hb2 hb3)
      have hs1 := hb1.size
      have hs2 := hb2.size
      have hs3 := hb3.size
      have hgB0 : w0.heap.size ≤ g := by omega
      replace hb1 := hb1.trans ((below_trans hb2 hb3).mono hs1)
      have hrl := hRow.lt
      generalize w2.alloc (.cells (tab N zeroY8) 5) = u2 at *
      obtain ⟨gb, hgb2⟩ : ∃ x, x = w2.heap.size := ⟨_, rfl⟩
      rw [← hgb2] at hRow hgb hrl ⊢
      have hgbB : w0.heap.size ≤ gb := by omega
      clear hmk hG hgB hb2 hb3 hP2 hs1 hs2 hs3 hgb2
      go_wp2_with fail
      go_loopw [12, 57] (fun _ ct wr => ∃ k : Nat, k ≤ 65536 ∧ ct = .int .i64 (k : Int) ∧ RowP wr gb (fillM y k) ∧ u2.grownBy wr (some gb)) (fun _ ct _ => (65536 - (intOf ct)).toNat)
      case atStart => exact ⟨0, by decide, rfl, hRow, World.grownBy.refl _ _⟩
      case round =>
        obtain ⟨k, hk, rfl, hRk, hgr⟩ := hrel
        by_cases hlt : k < 65536
        · have dk : (k : Int) < 65536 := by omega
          have hck := hRk.cell k hlt
          have hfk := hRk.free k
          unfold by8 at hck
          have HS : Hid (RowP (wr.setCell ⟨gb, k, none⟩ (.int .u8 (y.toNat : Int))) gb (fillM y (k + 1))) := Lib.hid (by rw [← fillM_set]; exact hRk.set k y)
          have HG := Lib.hid (only_trans hgr (only_setCell wr gb k (.int .u8 (y.toNat : Int))))
          clear hRk hgr hRow
          generalize (fillM y k k).toNat = z0 at *
          go_wp2_with fail
          go_roundw
          case rel => exact ⟨k + 1, by omega, by go_num, HS.out, HG.out⟩
          case measure => simp [intOf] <;> omega
        · obtain rfl : k = 65536 := by omega
          have hgpl := hP3.lt
          have hRow0 : RowP wr gb (fun _ => y) := hRk.congr fun j hj => by unfold fillM; rw [if_pos hj]
          have hG4 : RamP wr g mem0 := hG3.grown hgr (fun l e => by injection e with e; omega)
          have kP := pput_any' mem0 g 2147483648 (some ⟨gb, 0, none⟩) 65536 65536 (cut (fun _ => y) 0 65536) wr hG4 (by decide) hRow0.slA (by decide)
          simp only [Int.cast_ofNat_Int] at kP
          rw [Nat.sub_self] at kP
          have hP4 : Has wr gp 53 pc := has_grown hP3 hgr (fun l e => by injection e with e; omega)
          have hb4 := below_only hb1 hgr hgbB hb1.size
          clear hRk hgr hRow hG3 hP3 hb1
          go_wp2_with fail
          refine kP.mono ?_
          rintro e w5 ⟨rfl, hG5, hgr5⟩
          clear kP
          replace hG5 : RamP w5 g (fun _ => y) := hG5.congr fun j hj => put_full _ _ j hj
          replace hRow0 : RowP w5 gb (fun _ => y) := hRow0.grown hgr5 (fun l e => by injection e with e; omega)
          have hP5 : Has w5 gp 53 pc := has_grown hP4 hgr5 (fun l e => by injection e with e; omega)
          have hb5 := below_only hb4 hgr5 hgB0 hb4.size
          clear hG4 hP4 hb4 hgr5
          generalize hM0 : (fun _ : Nat => y) = M0 at *
          clear hM0
          generalize hsps : spsOf bias xs = sps at *
          have HSP : Hid (spsOf bias xs = sps) := Lib.hid hsps
          clear hsps
          go_wp2_with fail
          go_loopw [13, 14, 70] (fun sv ov ct wr => ∃ k : Nat, k ≤ i ∧ ct = .int .i64 (k : Int) ∧ wr.ownsRow w5.heap.size 58 3 sv k (cellsL 3 grV (sps.take k)) ∧ ov = .bool (okB xs sps k) ∧ Below w5.heap.size w5 wr) (fun _ _ ct _ => (i - (intOf ct)).toNat)
          case atStart => exact ⟨0, Nat.zero_le _, rfl, World.ownsRow_nil _ _ _ _, rfl, Below.refl _ _⟩
          case round =>
            obtain ⟨k, hk, rfl, hown, rfl, hb⟩ := hrel
            by_cases hlt : k < i
            · have di : (k : Int) < (i : Int) := by omega
              have hb6 := hb5.trans (hb.mono hb5.size)
              obtain ⟨hl1, hC1, hY1⟩ := HX.out.below hb6
              obtain ⟨b, o, hA2, hbl, _⟩ := hC1.2 (by show 0 < i; omega)
              replace hA2 : A = some ⟨b, o, none⟩ := hA2
              subst hA2
              have hr := hC1.range rfl (j := k) hlt
              have ha1 := fun w => at_sx' b o i c k di w
              obtain ⟨hy, hyn, hwx⟩ := hY1 k hlt
              change wr.rangeAt b (o + k * 4) ((List.range 4).map (sxV (xs.getD k sx0) (T k))) at hr
              have hP6 := hP5.after hb
              have hws := hb.size
              have hlx : k < xs.length := by rw [HL.out]; exact hlt
              have hg9 := spsOf_get bias xs k hlx
              have ht9 := spsOf_take bias xs k hlx
              rw [HSP.out] at hg9 ht9
              have hok9 : okB xs sps (k + 1) = (okB xs sps k && fitB (xs.getD k sx0) (spOf bias (xs.getD k sx0))) := by rw [← hg9]; rfl
              rw [fitB_sp] at hok9
              obtain ⟨Ab, nb, cb, hTi⟩ := (T k).out
              rw [hTi] at hr hy hyn
              have hlb : (xs.getD k sx0).b.length = nb := hy.1
              have hxd := hwx.d
              have hxz := hwx.z
              rw [hlb] at hok9
              generalize xs.getD k sx0 = x at *
              obtain ⟨xd, xb, xz, xr⟩ := x
              dsimp only at hlb hxd hxz hok9
              obtain ⟨at', hat⟩ : ∃ a, a = (bias + xd) % 4294967296 := ⟨_, rfl⟩
              have hst : spOf bias ⟨xd, xb, xz, xr⟩ = ⟨at', xz, xr⟩ := by rw [hat]; rfl
              rw [hst] at ht9
              rw [← hat] at hok9
              have hat4 : at' < 4294967296 := by omega
              have e1 : ((bias : Int) + (xd : Int)) % 4294967296 = (at' : Int) := by omega
              have HT := Lib.hid ht9
              have HOK := Lib.hid hok9
              have HOWN := Lib.hid hown
              have HB := Lib.hid hb
              have kH := fun W => rhas_any at' xz W hat4 (by omega)
              have hnb48 : nb ≤ 140737488355328 := by have h5 : xb.length ≤ 140737488355328 := hwx.l; omega
              have hk6 : k + 1 ≤ 1000000 := by omega
              clear hl1 hC1 hY1 hbl hy hyn hwx hTi hlb hat hst hg9 ht9 hok9 hown hb hb6
              go_upto_region 25 with (first
                | (refine wp_load_se rfl _ rfl b (o + k * 4) rfl _ hr ?_)
                | (refine wp_fresh 55 4 _ _ _ _ rfl rfl rfl rfl zeroSx infoSE4 (by omega) (sxV_one _ _) rfl rfl ?_
                   intro w7 hGc hb7 hz7
                   have hc0 : w7.cell? ⟨_, 0, none⟩ = some (.int .u32 (xd : Int)) := hGc.cellTab 0 (by omega)
                   have hc1 : w7.cell? ⟨_, 1, none⟩ = some (.slice Ab nb cb) := hGc.cellTab 1 (by omega)
                   have hc2 : w7.cell? ⟨_, 2, none⟩ = some (.int .u32 (xz : Int)) := hGc.cellTab 2 (by omega)
                   have hc3 : w7.cell? ⟨_, 3, none⟩ = some (.int .i64 xr) := hGc.cellTab 3 (by omega)
                   have hc33 : w7.cell? ⟨gp, 33, none⟩ = some (.int .u32 (bias : Int)) := ((hP6.after hb7).cell 33).trans hp))
              have hown7 := own_after HOWN.out hb7
              have HB7 := Lib.hid hb7
              obtain ⟨gs, hgs⟩ : ∃ x, x = wr.heap.size := ⟨_, rfl⟩
              rw [← hgs] at hGc hc0 hc1 hc2 hc3 ⊢
              have hgsl := hGc.lt
              have HWS := Lib.hid hws
              have HGS := Lib.hid hgs
              clear hgs hz7 hb7 hr ha1 hP6 hws
              go_upto_region 26 with (first
                | (refine wp_build_el und_sp infoSpz (by decide) (by decide) rfl _ rfl (⟨at', xz, xr⟩ : Gr) (congrArg Value.agg (grV_lit at' xz xr)) ?_; rintro w8 rfl
                   have hb8 : Below w7.heap.size w7 (w7.alloc (.cells (tab 3 (grV ⟨at', xz, xr⟩)) 58)) := (Below.refl _ _).alloc (Nat.le_refl _) _)
                | (refine wp_append_el und_sp infoSpz (tab_size _ _) (by decide) (by decide) (fun x j => grV_one x j) rfl _ _ rfl w5.heap.size _ k _ rfl (own_after hown7 hb8) _ rfl (⟨at', xz, xr⟩ : Gr) (Has.new _ _ _) hk6 (Nat.le_trans (Nat.le_trans HWS.out HB7.out.size) hb8.size) ?_
                   intro sv' w9 hown9 hgr9))
              have hb78 := HB7.out.trans (hb8.mono HB7.out.size)
              have hb9 : Below w5.heap.size w5 w9 := below_own (HB.out.trans (hb78.mono HWS.out)) (own_after hown7 hb8) (Nat.le_refl _) (Nat.le_trans (Nat.le_trans HWS.out HB7.out.size) hb8.size) hgr9
              have hG8 := hGc.after hb8
              have hG9 : Has w9 gs 55 (tab 4 (sxV ⟨xd, xb, xz, xr⟩ ⟨Ab, nb, cb⟩)) := has_grown hG8 hgr9 (fun l e => own_has (own_after hown7 hb8) hG8 (by decide) l e)
              have hc1' : w9.cell? ⟨gs, 1, none⟩ = some (.slice Ab nb cb) := hG9.cellTab 1 (by omega)
              have hc2' : w9.cell? ⟨gs, 2, none⟩ = some (.int .u32 (xz : Int)) := hG9.cellTab 2 (by omega)
              rw [← HT.out] at hown9
              have HO9 := Lib.hid hown9
              have HB9 := Lib.hid hb9
              have hokk := HOK.out
              clear hown9 hb9 hb78 hG8 hG9 hgr9 hb8 hown7 hGc hc0 hc1 hc2 hc3 hc33 HOWN HT HOK
              cases hov : okB xs sps k with
              | true =>
                rw [hov, Bool.true_and] at hokk
                by_cases hnz : nb ≤ xz
                · have dnz : (nb : Int) ≤ (xz : Int) := by omega
                  rw [decide_eq_true hnz, Bool.true_and] at hokk
                  have HK := Lib.hid hokk
                  clear hokk hov hnz
                  generalize inR at' xz = bh at *
                  go_wp2_with (refine (kH _).mono ?_; rintro e w10 ⟨rfl, rfl⟩)
                  go_roundw
                  case rel => exact ⟨k + 1, hlt, by go_num, HO9.out, by rw [HK.out], HB9.out⟩
                  case measure => simp [intOf] <;> omega
                · have dnz : ¬ ((nb : Int) ≤ (xz : Int)) := by omega
                  rw [decide_eq_false hnz, Bool.false_and] at hokk
                  have HK := Lib.hid hokk
                  clear hokk hov hnz kH
                  go_wp2_with fail
                  go_roundw
                  case rel => exact ⟨k + 1, hlt, by go_num, HO9.out, by rw [HK.out], HB9.out⟩
                  case measure => simp [intOf] <;> omega
              | false =>
                rw [hov, Bool.false_and] at hokk
                have HK := Lib.hid hokk
                clear hokk hov kH
                go_wp2_with fail
                go_roundw
                case rel => exact ⟨k + 1, hlt, by go_num, HO9.out, by rw [HK.out], HB9.out⟩
                case measure => simp [intOf] <;> omega
            · obtain rfl : k = i := by omega
              have hsl : sps.length = k := by rw [← HSP.out]; unfold spsOf; rw [List.length_map]; exact HL.out
              rw [List.take_of_length_le (by omega)] at hown
              obtain ⟨B, d, rfl⟩ := own_form hown
              have hxz : ∀ j, j < xs.length → (xs.getD j sx0).z < 4294967296 := fun j hj => (HX.out.2.2 j (by show j < k; rw [← HL.out]; exact hj)).2.2.z
              have hq := sps_wf bias xs hxz
              rw [HSP.out] at hq
              have hwf : ∀ j, j < k → (sps.getD j gr0).s < 4294967296 ∧ (sps.getD j gr0).z < 4294967296 := fun j hj => getD_wf (fun q h => hq q (List.mem_append_left _ h)) j (by omega)
              have HWF2 : Hid (∀ j, j < k + 1 → ((sps ++ [(⟨0, 0, 0⟩ : Gr)]).getD j gr0).s < 4294967296 ∧ ((sps ++ [(⟨0, 0, 0⟩ : Gr)]).getD j gr0).z < 4294967296) := Lib.hid fun j hj => getD_wf hq j (by rw [List.length_append]; simp; omega)
              have hb6 := hb5.trans (hb.mono hb5.size)
              have hG6 := hG5.after hb
              have hR6 := hRow0.after hb
              have kL := pload_any M0 g xs T sps A B k c k d w5.heap.size w0 wr HX.out hb6 hgB0 hG6 hown (by omega) hwf
              rw [if_pos rfl, if_pos rfl] at kL
              have hk6 : k + 1 ≤ 1000000 := by omega
              have hw5 := hb.size
              clear hxz hq hsl hlt hk hb hG5 hRow0 hP5
              obtain ⟨N1, hN1, hGN1⟩ := hG6
              cases hov : okB xs sps k with
              | true =>
                rw [hov, if_pos rfl, if_pos rfl] at kL
                have HOV := Lib.hid hov
                clear hov
                go_wp2_with fail
                refine kL.mono ?_
                rintro e w6 ⟨rfl, hG7, hgr6⟩
                clear kL
                have hSp6 := own_other hown hGN1 (by decide) hgr6
                have hR7 : RowP w6 gb M0 := hR6.grown hgr6 (fun l e => by injection e with e; omega)
                have hb7 := below_only hb6 hgr6 hgB0 hb6.size
                have hw6 := Nat.le_trans hw5 hgr6.size
                clear hown hGN1 hR6 hb6 hgr6 hw5
                go_wp2_with fail
                go_loopw [115] (fun ct wr => ∃ j : Nat, j ≤ k ∧ ct = .int .i64 (j : Int) ∧ RowP wr gb (ldS M0 xs sps j) ∧ w6.grownBy wr (some gb)) (fun ct _ => (k - (intOf ct)).toNat)
                case atStart => exact ⟨0, Nat.zero_le _, rfl, hR7, World.grownBy.refl _ _⟩
                case round =>
                  obtain ⟨j, hj, rfl, hRj, hgr⟩ := hrel
                  obtain ⟨N2, hN2, hRN2⟩ := hR7
                  by_cases hlt : j < k
                  · have dj : (j : Int) < (k : Int) := by omega
                    have hb8 := below_only hb7 hgr hgbB hb7.size
                    obtain ⟨hl1, hC1, hY1⟩ := HX.out.below hb8
                    obtain ⟨b, o, hA2, hbl, _⟩ := hC1.2 (by show 0 < k; omega)
                    replace hA2 : A = some ⟨b, o, none⟩ := hA2
                    subst hA2
                    have hr := hC1.range rfl (j := j) hlt
                    have ha1 := fun w => at_sx' b o k c j dj w
                    obtain ⟨hy, hyn, hwx⟩ := hY1 j hlt
                    change wr.rangeAt b (o + j * 4) ((List.range 4).map (sxV (xs.getD j sx0) (T j))) at hr
                    have hSp7 := own_other hSp6 hRN2 (by decide) hgr
                    have hbs0 := hRj.lt
                    have hft := okB_fit HOV.out hlt
                    have HLD : Hid (ldS M0 xs sps (j + 1) = putM (ldS M0 xs sps j) ((sps.getD j gr0).s - 2147483648) (padZ (xs.getD j sx0).b (xs.getD j sx0).z)) := Lib.hid rfl
                    obtain ⟨Ab, nb, cb, hTi⟩ := (T j).out
                    rw [hTi] at hr hy hyn
                    have hy0 := (HX.out.2.2 j hlt).1
                    rw [hTi] at hy0
                    have HY : Hid (SlA w0 Ab nb cb (xs.getD j sx0).b) := Lib.hid hy0
                    have hlb : (xs.getD j sx0).b.length = nb := hy.1
                    have hxz := hwx.z
                    obtain ⟨N3, hN3, hRN3⟩ := hRj
                    have hgbs : ∀ l, (Value.slice B k d).ownBlock = some l → gb ≠ l := own_has hSp7 hRN3 (by decide)
                    have hRj : RowP wr gb (ldS M0 xs sps j) := ⟨N3, hN3, hRN3⟩
                    clear hRN3 hRN2
                    go_upto_region 33 with (first
                      | (refine wp_load_se rfl _ rfl b (o + j * 4) rfl _ hr ?_)
                      | (refine wp_fresh3 55 4 _ _ _ _ _ _ rfl rfl rfl rfl rfl rfl zeroSx infoSE4 (sxV_one _ _) rfl rfl rfl ?_
                         intro w9 hGs hb9 hz9))
                    have hSp8 := own_after hSp7 hb9
                    obtain ⟨bs, os, hB2, hrs, hbs⟩ := spans_at hSp8 (by omega) hlt
                    subst hB2
                    have hbne := hgbs bs rfl
                    have ha2 := fun w => at_sp' bs os k d j dj w
                    obtain ⟨hf12, hf3⟩ := Bool.and_eq_true_iff.1 hft
                    obtain ⟨hf1, hf2⟩ := Bool.and_eq_true_iff.1 hf12
                    have hf1 := of_decide_eq_true hf1
                    have hf2 := of_decide_eq_true hf2
                    have hf4 := of_decide_eq_true hf3
                    have hwi := (hwf j hlt).1
                    obtain ⟨gs, hgs⟩ : ∃ x, x = wr.heap.size := ⟨_, rfl⟩
                    rw [← hgs] at hGs hbs0 ⊢
                    have hR9 := hRj.after hb9
                    have hb99 := hb8.trans (hb9.mono hb8.size)
                    have HGR := Lib.hid (only_trans hgr (only_below hb9 (some gb)))
                    have c0 : w9.cell? ⟨bs, os + j * 3, none⟩ = some (.int .u32 ((sps.getD j gr0).s : Int)) := hrs 0 _ rfl
                    generalize xs.getD j sx0 = x at *
                    obtain ⟨xd, xb, xz, xr⟩ := x
                    dsimp only at hf1 hf2 hlb hxz hf4
                    rw [hf1] at hf4
                    generalize sps.getD j gr0 = sp at *
                    obtain ⟨at', sz', sr'⟩ := sp
                    dsimp only at hf1 hwi c0 HLD hf4
                    generalize ldS M0 xs sps j = Mj at *
                    have hgsl := hGs.lt
                    have c2 : w9.cell? ⟨gs, 2, none⟩ = some (.int .u32 (xz : Int)) := hGs.cellTab 2 (by omega)
                    obtain ⟨k0, hk0⟩ : ∃ k0, k0 = at' - 2147483648 := ⟨_, rfl⟩
                    have e5 : (at' : Int) - 2147483648 = (k0 : Int) := by omega
                    have hk9 : k0 + xz ≤ 65536 := by omega
                    have ha9 : 2147483648 ≤ (at' : Int) := by omega
                    rw [← hk0] at HLD
                    clear hgs hb9 hz9 hl1 hC1 hY1 hbl hr ha1 hy hyn hwx hTi hy0 hSp7 hSp8 hft hf12 hf3 hf4 hgr hrs hRj hgbs hk0 hb8
                    go_wp2_with fail
                    go_loopw [123] (fun ct wr => ∃ q : Nat, q ≤ xz ∧ ct = .int .i64 (q : Int) ∧ RowP wr gb (putM Mj k0 ((padZ xb xz).take q)) ∧ w9.grownBy wr (some gb)) (fun ct _ => (xz - (intOf ct)).toNat)
                    case atStart => exact ⟨0, Nat.zero_le _, rfl, by rw [List.take_zero, putM_nil]; exact hR9, World.grownBy.refl _ _⟩
                    case round =>
                      obtain ⟨q, hq, rfl, hRq, hgq⟩ := hrel
                      clear hR9
                      by_cases hlq : q < xz
                      · have dq : (q : Int) < (xz : Int) := by omega
                        have hGs2 := has_grown hGs hgq (fun l e => by injection e with e; omega)
                        have c1 : wr.cell? ⟨gs, 1, none⟩ = some (.slice Ab nb cb) := hGs2.cellTab 1 (by omega)
                        have hcb := hgq.block bs hbs (fun e => by injection e with e; exact hbne e.symm)
                        have c0' := (World.cell?_of_block (a := ⟨bs, os + j * 3, none⟩) hcb).trans c0
                        obtain ⟨ix, hix⟩ : ∃ ix, ix = k0 + q := ⟨_, rfl⟩
                        have e6 : (k0 : Int) + (q : Int) = (ix : Int) := by omega
                        have dix : (ix : Int) < 65536 := by omega
                        have hci := hRq.cell ix (by omega)
                        have hfi := hRq.free ix
                        unfold by8 at hci
                        have hset := hRq.set ix (xb.getD q 0)
                        have hps := putM_snoc Mj k0 q (padZ xb xz) (by rw [padZ_len]; exact hlq)
                        rw [padZ_get hlq, ← hix] at hps
                        rw [← hps] at hset
                        have HS := Lib.hid hset
                        have HG := Lib.hid (only_trans hgq (only_setCell wr gb ix (by8 (xb.getD q 0))))
                        have hbq := below_only hb99 hgq hgbB hb99.size
                        generalize ((putM Mj k0 ((padZ xb xz).take q)) ix).toNat = z0 at *
                        by_cases hqn : q < nb
                        · have dqn : (q : Int) < (nb : Int) := by omega
                          obtain ⟨b2, o2, rfl, _, hcd⟩ := (HY.out.below hbq).2.2 (by omega)
                          have hcq := hcd q hqn
                          unfold by8 at hcq HS HG
                          generalize xb.getD q 0 = yy at *
                          clear hRq hgq hGs2 hcb hset hps hix hbq hcd hq
                          go_wp2_with fail
                          go_roundw
                          case rel => exact ⟨q + 1, hlq, by go_num, HS.out, HG.out⟩
                          case measure => simp [intOf] <;> omega
                        · have dqn : ¬ ((q : Int) < (nb : Int)) := by omega
                          have hz0 : xb.getD q 0 = 0 := by simp [List.getD_eq_getElem?_getD, show xb.length ≤ q by omega]
                          rw [hz0] at HS HG
                          have HS2 : Hid (RowP (wr.setCell ⟨gb, ix, none⟩ (.int .u8 0)) gb (putM Mj k0 ((padZ xb xz).take (q + 1)))) := Lib.hid HS.out
                          have HG2 : Hid (w9.grownBy (wr.setCell ⟨gb, ix, none⟩ (.int .u8 0)) (some gb)) := Lib.hid HG.out
                          clear hRq hgq hGs2 hcb hset hps hix hbq hq HS HG hz0
                          go_wp2_with fail
                          go_roundw
                          case rel => exact ⟨q + 1, hlq, by go_num, HS2.out, HG2.out⟩
                          case measure => simp [intOf] <;> omega
                      · obtain rfl : q = xz := by omega
                        rw [List.take_of_length_le (by rw [padZ_len]; exact Nat.le_refl _), ← HLD.out] at hRq
                        have HRQ := Lib.hid hRq
                        have HGQ := Lib.hid (only_trans HGR.out hgq)
                        clear hRq hgq hlq hq
                        go_wp2_with fail
                        go_roundw
                        case rel => exact ⟨j + 1, hlt, by go_num, HRQ.out, HGQ.out⟩
                        case measure => simp [intOf] <;> omega
                  · obtain rfl : j = k := by omega
                    have hSpm := own_other hSp6 hRN2 (by decide) hgr
                    have hGm : RamP wr g (ldS M0 xs sps j) := hG7.grown hgr (fun l e => by injection e with e; omega)
                    have hRm := hRj
                    have hBm := below_only hb7 hgr hgbB hb7.size
                    have hw5m := Nat.le_trans hw6 hgr.size
                    generalize ldS M0 xs sps j = M9 at *
                    clear hRj hgr hRN2 hSp6 hG7 hlt hj
                    go_upto_region 42 with fail
                    have kG := get_any M9 g 2147483648 65536 wr hGm (by decide) (by decide) (by decide)
                    simp only [Int.cast_ofNat_Int] at kG
                    rw [Nat.sub_self] at kG
                    go_wp2_with fail
                    refine kG.mono ?_
                    rintro e v1 ⟨⟨v, rfl, hr9⟩, hbv1⟩
                    clear kG
                    obtain ⟨A9, c9, rfl⟩ := own_form hr9
                    have hSp1 := own_after hSpm hbv1
                    have hGv := hGm.after hbv1
                    have hRv := hRm.after hbv1
                    have hbv := hBm.trans (hbv1.mono hBm.size)
                    have hwv : w5.heap.size ≤ v1.heap.size := Nat.le_trans hw5m hbv1.size
                    clear hbv1 hSpm hGm hRm hBm hw5m
                    go_wp2_with (first
                      | (refine wp_build_el und_sp infoSpz (by decide) (by decide) rfl _ rfl (⟨0, 0, 0⟩ : Gr) (congrArg Value.agg (grV_lit 0 0 0)) ?_; rintro w8 rfl
                         have hb8 : Below v1.heap.size v1 (v1.alloc (.cells (tab 3 (grV ⟨0, 0, 0⟩)) 58)) := (Below.refl _ _).alloc (Nat.le_refl _) _)
                      | (refine wp_append_el und_sp infoSpz (tab_size _ _) (by decide) (by decide) (fun x j => grV_one x j) rfl _ _ rfl w5.heap.size _ j _ rfl (own_after hSp1 hb8) _ rfl (⟨0, 0, 0⟩ : Gr) (Has.new _ _ _) hk6 (Nat.le_trans hwv hb8.size) ?_
                         intro sv' v2 hown2 hgr2
                         obtain ⟨B2, d2, rfl⟩ := own_form hown2))
                    have hbw2 := below_own (hbv.trans (hb8.mono hbv.size)) (own_after hSp1 hb8) hb5.size (Nat.le_trans hbv.size hb8.size) hgr2
                    obtain ⟨N9, hN9, hGN9⟩ := hGv.after hb8
                    have hGN2 := has_grown hGN9 hgr2 (fun l e => own_has (own_after hSp1 hb8) hGN9 (by decide) l e)
                    have hGv2 : RamP v2 g M9 := ⟨N9, hN9, hGN2⟩
                    obtain ⟨N8, hN8, hRN8⟩ := hRv.after hb8
                    have hRv2 : RowP v2 gb M9 := ⟨N8, hN8, has_grown hRN8 hgr2 (fun l e => own_has (own_after hSp1 hb8) hRN8 (by decide) l e)⟩
                    have hr92 := own_apart (own_after hr9 hb8) (own_after hSp1 hb8) (by decide) hgr2
                    have kL2 := pload_any M9 g xs T (sps ++ [⟨0, 0, 0⟩]) A B2 j c (j + 1) d2 w5.heap.size w0 v2 HX.out hbw2 hgB0 hGv2 hown2 (by omega) HWF2.out
                    rw [if_neg (show ¬ (j + 1 = j) by omega), if_neg (show ¬ (j + 1 = j) by omega)] at kL2
                    refine kL2.mono ?_
                    rintro e v3 ⟨rfl, _, hgr3⟩
                    clear kL2
                    have hr93 := own_other hr92 hGN2 (by decide) hgr3
                    have hRv3 : RowP v3 gb M9 := hRv2.grown hgr3 (fun l e => by injection e with e; omega)
                    have hv1 := str_conv (own_slA hr93).1
                    have hv2 := str_conv hRv3.slA
                    have hbe := below_only hbw2 hgr3 hgB0 hbw2.size
                    generalize strB (cut M9 0 65536) = st at *
                    clear hr9 hr92 hr93 hSp1 hGv hRv hbv hwv hown2 hgr2 hgr3 hGN9 hGN2 hGv2 hRN8 hRv2 hRv3 hb8 hbw2
                    go_wp2_with fail
                    go_ret
                    exact ⟨rfl, hbe⟩
              | false =>
                rw [hov, if_neg (show ¬ (false = true) by decide), if_neg (show ¬ (false = true) by decide)] at kL
                clear hov
                go_wp2_with fail
                refine kL.mono ?_
                rintro e w6 ⟨rfl, hGm, hgr6⟩
                clear kL
                have hSpm := own_other hown hGN1 (by decide) hgr6
                have hRm : RowP w6 gb M0 := hR6.grown hgr6 (fun l e => by injection e with e; omega)
                have hBm := below_only hb6 hgr6 hgB0 hb6.size
                have hw5m := Nat.le_trans hw5 hgr6.size
                clear hown hGN1 hR6 hb6 hgr6 hw5
                go_upto_region 42 with fail
                have kG := get_any M0 g 2147483648 65536 w6 hGm (by decide) (by decide) (by decide)
                simp only [Int.cast_ofNat_Int] at kG
                rw [Nat.sub_self] at kG
                go_wp2_with fail
                refine kG.mono ?_
                rintro e v1 ⟨⟨v, rfl, hr9⟩, hbv1⟩
                clear kG
                obtain ⟨A9, c9, rfl⟩ := own_form hr9
                have hSp1 := own_after hSpm hbv1
                have hGv := hGm.after hbv1
                have hRv := hRm.after hbv1
                have hbv := hBm.trans (hbv1.mono hBm.size)
                have hwv : w5.heap.size ≤ v1.heap.size := Nat.le_trans hw5m hbv1.size
                clear hbv1 hSpm hGm hRm hBm hw5m
                go_wp2_with (first
                  | (refine wp_build_el und_sp infoSpz (by decide) (by decide) rfl _ rfl (⟨0, 0, 0⟩ : Gr) (congrArg Value.agg (grV_lit 0 0 0)) ?_; rintro w8 rfl
                     have hb8 : Below v1.heap.size v1 (v1.alloc (.cells (tab 3 (grV ⟨0, 0, 0⟩)) 58)) := (Below.refl _ _).alloc (Nat.le_refl _) _)
                  | (refine wp_append_el und_sp infoSpz (tab_size _ _) (by decide) (by decide) (fun x j => grV_one x j) rfl _ _ rfl w5.heap.size _ k _ rfl (own_after hSp1 hb8) _ rfl (⟨0, 0, 0⟩ : Gr) (Has.new _ _ _) hk6 (Nat.le_trans hwv hb8.size) ?_
                     intro sv' v2 hown2 hgr2
                     obtain ⟨B2, d2, rfl⟩ := own_form hown2))
                have hbw2 := below_own (hbv.trans (hb8.mono hbv.size)) (own_after hSp1 hb8) hb5.size (Nat.le_trans hbv.size hb8.size) hgr2
                obtain ⟨N9, hN9, hGN9⟩ := hGv.after hb8
                have hGN2 := has_grown hGN9 hgr2 (fun l e => own_has (own_after hSp1 hb8) hGN9 (by decide) l e)
                have hGv2 : RamP v2 g M0 := ⟨N9, hN9, hGN2⟩
                obtain ⟨N8, hN8, hRN8⟩ := hRv.after hb8
                have hRv2 : RowP v2 gb M0 := ⟨N8, hN8, has_grown hRN8 hgr2 (fun l e => own_has (own_after hSp1 hb8) hRN8 (by decide) l e)⟩
                have hr92 := own_apart (own_after hr9 hb8) (own_after hSp1 hb8) (by decide) hgr2
                have kL2 := pload_any M0 g xs T (sps ++ [⟨0, 0, 0⟩]) A B2 k c (k + 1) d2 w5.heap.size w0 v2 HX.out hbw2 hgB0 hGv2 hown2 (by omega) HWF2.out
                rw [if_neg (show ¬ (k + 1 = k) by omega), if_neg (show ¬ (k + 1 = k) by omega)] at kL2
                refine kL2.mono ?_
                rintro e v3 ⟨rfl, _, hgr3⟩
                clear kL2
                have hr93 := own_other hr92 hGN2 (by decide) hgr3
                have hRv3 : RowP v3 gb M0 := hRv2.grown hgr3 (fun l e => by injection e with e; omega)
                have hv1 := str_conv (own_slA hr93).1
                have hv2 := str_conv hRv3.slA
                have hbe := below_only hbw2 hgr3 hgB0 hbw2.size
                generalize strB (cut M0 0 65536) = st at *
                clear hr9 hr92 hr93 hSp1 hGv hRv hbv hwv hown2 hgr2 hgr3 hGN9 hGN2 hGv2 hRN8 hRv2 hRv3 hb8 hbw2
                go_wp2_with fail
                go_ret
                exact ⟨rfl, hbe⟩
end Go.Proofs.Ytdifapdppdcidaa
