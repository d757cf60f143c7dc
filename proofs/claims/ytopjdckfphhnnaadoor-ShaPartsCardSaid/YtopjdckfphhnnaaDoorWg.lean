import Derived.Test.YtopjdckfphhnnaaDoorWf
import Derived.Deep.AppendLies
namespace Go.Proofs.YtopjdckfphhnnaaDoor
open Go.RowKit

/-- the slice value v reads as the bytes bs, in a block that is there and is not g -/
def SlB (w : World) (g : Nat) (A : Option Addr) (n c : Nat) (bs : List UInt8) : Prop :=
  bs.length = n ∧ n ≤ c ∧ (0 < n → ∃ b o, A = some ⟨b, o, none⟩ ∧ b ≠ g ∧ b < w.heap.size ∧ ∀ j, j < n → w.cell? ⟨b, o + j, none⟩ = some (by8 (bs.getD j 0)))
theorem SlB.only {w w' : World} {g : Nat} {A : Option Addr} {n c : Nat} {bs : List UInt8} (h : SlB w g A n c bs) (hg : w.grownBy w' (some g)) : SlB w' g A n c bs := by
  refine ⟨h.1, h.2.1, fun hn => ?_⟩
  obtain ⟨b, o, rfl, hne, hlt, hc⟩ := h.2.2 hn
  exact ⟨b, o, rfl, hne, Nat.lt_of_lt_of_le hlt hg.size, fun j hj => (World.cell?_of_block (hg.block b hlt (by simpa using hne))).trans (hc j hj)⟩
theorem Tabs.only {w w' : World} {g : Nat} (h : Tabs w) (hg : w.grownBy w' (some g)) (h2 : 2 ≤ g) : Tabs w' :=
  have hs := h.size
  ⟨fun i hi => (hg.cell_far ⟨_, i, none⟩ (show _ < w.heap.size from Nat.lt_of_lt_of_le (show _ < 2 by dsimp only; decide) hs) (fun e => by injection e with e; dsimp only at e; omega)).trans (h.k i hi),
   fun i hi => (hg.cell_far ⟨_, i, none⟩ (show _ < w.heap.size from Nat.lt_of_lt_of_le (show _ < 2 by dsimp only; decide) hs) (fun e => by injection e with e; dsimp only at e; omega)).trans (h.iv i hi), Nat.le_trans hs hg.size⟩
/-- 'x[k:]' -/
theorem SlB.cut {w : World} {g : Nat} {A : Option Addr} {n c : Nat} {bs : List UInt8} (h : SlB w g A n c bs) (k : Nat) (hk : k ≤ n) :
    ∃ A', (∀ W : World, (Instr.slice 22 (.slice A n c) (some (.int .i64 (k : Int))) none none).run Tryd.prog W = .ok (.slice A' (n - k) (c - k)) W) ∧ SlB w g A' (n - k) (c - k) (bs.drop k) := by
  refine ⟨if c = k then A else A.map (·.add (k * 1)), fun W => ?_, by simp [h.1], by have := h.2.1; omega, fun hn => ?_⟩
  · have hs : (sizeOf (Tryd.prog.elem 22)).run Tryd.prog W = .ok 1 W := by kernel_rfl
    rw [run_slice_l (P := Tryd.prog) (w := W) 22 A n c (by kernel_rfl) .i64 (k : Int) (by omega) (by omega), hs]
    simp [sliced, Result.andThen]
  · obtain ⟨b, o, rfl, hne, hlt, hc⟩ := h.2.2 (by omega)
    have := h.2.1
    rw [if_neg (by omega)]
    refine ⟨b, o + k, by simp [Addr.add]; try (by_cases h0 : k = 0 <;> simp [h0]), hne, hlt, fun j hj => ?_⟩
    rw [Nat.add_assoc, hc (k + j) (by omega)]
    simp [List.getD_eq_getElem?_getD]

theorem hc_rest (s : Nat → UInt32) (r : Nat → UInt8) (D : List UInt8) (L L' q n1 : Nat) (h : q + n1 ≤ 64) :
    (tab 73 fun j => if 8 + q ≤ j ∧ j < 8 + q + n1 then by8 (D.getD (j - (8 + q)) 0) else hc s r L j).setIfInBounds 72 (.int .u64 (L' : Int)) = tab 73 (hc s (restOf q n1 D r) L') := by
  rw [tab_set]
  apply tab_ext
  intro j hj
  by_cases h72 : j = 72
  · subst h72; simp [hc]
  rw [if_neg h72]
  by_cases h1 : 8 + q ≤ j ∧ j < 8 + q + n1
  · rw [if_pos h1]
    have e : j - (8 + q) = j - 8 - q := by omega
    simp only [hc, restOf]
    rw [if_neg (by omega), if_pos (by omega), if_pos (by omega), e]
  · rw [if_neg h1]
    simp only [hc, restOf]
    by_cases h8 : j < 8
    · rw [if_pos h8, if_pos h8]
    · rw [if_neg h8, if_neg h8, if_pos (by omega), if_pos (by omega), if_neg (by omega)]
theorem hc_lo (s : Nat → UInt32) (r : Nat → UInt8) (L : Nat) : (List.range 8).map (fun j => hc s r L (0 + j)) = (List.range 8).map (fun j => wd (s j)) := by
  apply List.map_congr_left
  intro j hj
  have : j < 8 := by simpa using hj
  simp [hc, this]
theorem hc_mid (s : Nat → UInt32) (r : Nat → UInt8) (L : Nat) : (List.range 64).map (fun j => hc s r L (8 + j)) = (List.range 64).map (fun j => by8 (r j)) := by
  apply List.map_congr_left
  intro j hj
  have : j < 64 := by simpa using hj
  simp only [hc]
  rw [if_neg (by omega), if_pos (by omega), Nat.add_sub_cancel_left]
theorem hc_state (s s' : Nat → UInt32) (r : Nat → UInt8) (L : Nat) : (tab 73 fun j => if 0 ≤ j ∧ j < 0 + 8 then wd (s' (j - 0)) else hc s r L j) = tab 73 (hc s' r L) := by
  apply tab_ext
  intro j _
  by_cases h : j < 8
  · rw [if_pos (by omega)]; simp [hc, h]
  · rw [if_neg (by omega)]; simp [hc, h]

set_option maxRecDepth 100000 in
set_option maxHeartbeats 1000000 in
theorem write_any (g : Nat) (m bs : List UInt8) (A : Option Addr) (n c : Nat) (w : World) (hT : Tabs w) (hg : 2 ≤ g) (hH : HashIs w g m) (hS : SlB w g A n c bs) (hlen : m.length + bs.length ≤ 1048576) :
    Calls Tryd.prog 10 #[.pointer (some ⟨g, 0, none⟩), .slice A n c] w fun e w' => e = .returned (.tuple #[]) ∧ HashIs w' g (m ++ bs) ∧ w.grownBy w' (some g) := by
  have HT := Lib.hid hT
  clear hT
  go_enter Tryd.func10, Tryd.ntmps10
  go_wp2_with fail
  go_loopw [1, 4] (fun v _ wr => ∃ (k : Nat) (A' : Option Addr) (c' : Nat), k ≤ n ∧ v = .slice A' (n - k) c' ∧ SlB wr g A' (n - k) c' (bs.drop k) ∧ HashIs wr g (m ++ bs.take k) ∧ w.grownBy wr (some g))
    (fun v _ _ => match v with | .slice _ l _ => l | _ => 0)
  case atStart => exact ⟨0, A, c, by omega, rfl, by simpa using hS, by simpa using hH, World.grownBy.refl w _⟩
  case round =>
    obtain ⟨k, A', c', hk, rfl, hs, ⟨r, hh, hr⟩, hgr⟩ := hrel
    by_cases hlt : k < n
    · have hlt' : 0 < n - k := by omega
      obtain ⟨bb, o, rfl, hne, hbl, hsc⟩ := hs.2.2 hlt'
      obtain ⟨M, hM⟩ : ∃ M, M = m ++ bs.take k := ⟨_, rfl⟩
      rw [← hM] at hh hr
      obtain ⟨L, hL⟩ : ∃ L, L = M.length := ⟨_, rfl⟩
      have hDl : (bs.drop k).length = n - k := hs.1
      have hLm : L = m.length + k := by rw [hL, hM]; have := hS.1; simp; omega
      have HM := Lib.hid hM
      have HL := Lib.hid hL
      rw [← hL] at hh hr
      clear hM hL
      have cL : wr.cell? ⟨g, 72, none⟩ = some (.int .u64 (L : Int)) := hh.cellTab 72 (by omega)
      have hLb : (L : Int) < 1048576 := by have h1 := hS.1; omega
      clear hLm
      obtain ⟨q, hq⟩ : ∃ q, q = L % 64 := ⟨_, rfl⟩
      have hq64 : q < 64 := by omega
      have etm : (L : Int).tmod 64 = (q : Int) := by rw [hq, Int.tmod_eq_emod_of_nonneg (by omega)]; omega
      have Hq := Lib.hid hq
      clear hq
      have hslA : ∀ W : World, (Instr.sliceAt 42 (.pointer (some ⟨g, 8, none⟩)) (some (.int .u64 (q : Int))) none none).run Tryd.prog W = .ok (.slice (some ⟨g, 8 + q, none⟩) (64 - q) (64 - q)) W := fun W => by
        have hs : (sizeOf 5).run Tryd.prog W = .ok 1 W := by kernel_rfl
        have h := run_sliceAt_array_l (P := Tryd.prog) (w := W) 42 ⟨g, 8, none⟩ (by kernel_rfl) .u64 (q : Int) (by omega) (by show (q : Int) ≤ 64; omega)
        have e5 : Tryd.prog.elem 42 = 5 := by kernel_rfl
        have e64 : Tryd.prog.arrayLen 42 = 64 := by kernel_rfl
        have hne : ¬ 64 = q := by omega
        rw [h, e5, hs, e64]
        simp [Result.andThen, slicedAt, hne, Addr.add]
      go_wp2_with fail
      refine region_quiet_tail (fun w' => ∃ n, w' = wr.drewN n) 10 (by kernel_rfl) (by kernel_rfl) ⟨1, rfl⟩ ?_
      simp only [List.take_succ_cons, List.take_zero, List.drop_succ_cons, List.drop_zero]
      repeat (quiet_step (fail))
      refine wpQuiet_nil ?_
      rintro w' ⟨nd, rfl⟩
      have hgz : 0 < 64 - q := by omega
      obtain ⟨n1, hn1⟩ : ∃ n1, n1 = Nat.min (n - k) (64 - q) := ⟨_, rfl⟩
      have hn1a : n1 ≤ n - k := by rw [hn1]; exact Nat.min_le_left _ _
      have hn1b : n1 ≤ 64 - q := by rw [hn1]; exact Nat.min_le_right _ _
      have hn1c : 0 < n1 := by rw [hn1]; exact Nat.lt_min.2 ⟨hlt', hgz⟩
      have Hn1 := Lib.hid hn1
      clear hn1
      obtain ⟨A2, hcut, hs2⟩ := hs.cut n1 hn1a
      refine wp_copy_tab rfl (.tmp 18) (.tmp 19) 22 22 rfl 5 Tryd.underlying22 (by kernel_rfl) g (8 + q) (64 - q) (64 - q) bb o (n - k) c' rfl rfl 73 _ 44 (hh.drewN nd) n1 Hn1.out
        (fun j => by8 ((bs.drop k).getD j 0)) (fun j hj => hsc j (by omega)) (by omega) (fun _ => rfl) ?_
      intro w2 h2 hg2
      have c2 : w2.cell? ⟨g, 72, none⟩ = some (.int .u64 (L : Int)) := by
        have := h2.cellTab 72 (by omega)
        rw [if_neg (by omega)] at this
        exact this
      have f2 := h2.free 72
      have q1 : (1 : Int) ≤ (n1 : Int) := by omega
      have q2 : (n1 : Int) ≤ 64 := by omega
      clear hslA etm
      by_cases hfull : (L + n1) % 64 = 0
      · have hd : (((L : Int) + (n1 : Int)) % 64 == 0) = true := beq_iff_eq.2 (by omega)
        go_wp2_with fail
        have hh3 := h2.set 72 (.int .u64 (((L + n1 : Nat)) : Int))
        rw [hc_rest _ _ _ _ _ _ _ (by omega)] at hh3
        have e1 : (Value.int IntKind.u64 (((L + n1 : Nat)) : Int)) = Value.int IntKind.u64 ((L : Int) + (n1 : Int)) := by simp
        rw [e1] at hh3
        have hg3 := only_trans hgr (only_trans (only_trans (only_drewN wr nd (some g)) hg2) (only_setCell w2 g 72 (.int .u64 ((L : Int) + (n1 : Int)))))
        have hs3 := hs2.only (only_trans (only_trans (only_drewN wr nd (some g)) hg2) (only_setCell w2 g 72 (.int .u64 ((L : Int) + (n1 : Int)))))
        clear hd e1 c2 f2 hg2 h2
        generalize w2.setCell ⟨g, 72, none⟩ (.int .u64 ((L : Int) + (n1 : Int))) = w3 at *
        rw [HL.out] at hr
        obtain ⟨t1, t2, t3, t4⟩ := full_state M (bs.drop k) n1 (by omega) r hr (by have h1 := Hq.out; rw [← HL.out]; omega)
        rw [← HL.out] at t1 t3 t4
        rw [← Hq.out] at t3
        have hblk : tab 64 (fun j => by8 (blk (M ++ (bs.drop k).take n1) (L / 64) j)) = tab 64 (fun j => by8 (restOf q n1 (bs.drop k) r j)) := tab_ext _ _ _ fun j hj => by rw [t3 j hj]
        refine region_quiet_tail (Below w3.heap.size w3) 12 (by kernel_rfl) (by kernel_rfl) (below_drewN (Below.refl _ _) 1) ?_
        simp only [List.take_succ_cons, List.take_zero, List.drop_succ_cons, List.drop_zero]
        refine wpQuiet_step (fun K hK => ?_)
        refine q_val rfl (.pointer (some ⟨g, 0, none⟩)) (fun _ => by go_simp) ?_
        go_simp; refine hK _ ?_; clear hK K
        refine wpQuiet_step (fun K hK => ?_)
        refine q_val rfl (.pointer (some ⟨g, 0, none⟩)) (fun _ => by go_simp) ?_
        go_simp; refine hK _ ?_; clear hK K
        refine wpQuiet_step (fun K hK => ?_)
        refine q_val rfl (.pointer (some ⟨g, 0, none⟩)) (fun _ => by go_simp) ?_
        go_simp; refine hK _ ?_; clear hK K
        refine wpQuiet_step (fun K hK => ?_)
        refine q_val rfl (.pointer (some ⟨g, 0, none⟩)) (fun _ => by go_simp) ?_
        go_simp; refine hK _ ?_; clear hK K
        refine wpQuiet_step (fun K hK => ?_)
        refine q_load rfl 41 (.tmp 42) rfl g 0 rfl 8 (fun j => wd (foldSt M (L / 64) j)) _ (fun w' hC => ?_) Tryd.underlying41 rfl (by kernel_rfl) ?_
        · have h := (hh3.below hC hh3.lt).range 0 8 (by omega)
          rw [hc_lo] at h
          exact h
        go_simp; refine hK _ ?_; clear hK K
        refine wpQuiet_step (fun K hK => ?_)
        refine q_val rfl (.pointer (some ⟨g, 0, none⟩)) (fun _ => by go_simp) ?_
        go_simp; refine hK _ ?_; clear hK K
        refine wpQuiet_step (fun K hK => ?_)
        refine q_val rfl (.pointer (some ⟨g, 0, none⟩)) (fun _ => by go_simp) ?_
        go_simp; refine hK _ ?_; clear hK K
        refine wpQuiet_step (fun K hK => ?_)
        refine q_val rfl (.pointer (some ⟨g, 8, none⟩)) (fun _ => by go_simp) ?_
        go_simp; refine hK _ ?_; clear hK K
        refine wpQuiet_step (fun K hK => ?_)
        refine q_load rfl 42 (.tmp 46) rfl g 8 rfl 64 (fun j => by8 (restOf q n1 (bs.drop k) r j)) _ (fun w' hC => ?_) Tryd.underlying42 rfl (by kernel_rfl) ?_
        · have h := (hh3.below hC hh3.lt).range 8 64 (by omega)
          rw [hc_mid] at h
          exact h
        go_simp; refine hK _ ?_; clear hK K
        refine wpQuiet_step (fun K hK => ?_)
        refine q_call rfl 14 #[.agg (tab 8 fun j => wd (foldSt M (L / 64) j)), .agg (tab 64 fun j => by8 (restOf q n1 (bs.drop k) r j))] (fun _ => by go_simp) (.agg (tab 8 fun j => wd (comp (foldSt M (L / 64)) (blk (M ++ (bs.drop k).take n1) (L / 64)) j))) (fun w' hC => ?_) ?_
        · rw [← hblk]
          exact (compress_any _ _ w' ((HT.out.only hg3 hg).below hC)).mono fun e w'' ⟨he, hb⟩ => ⟨he, hC.trans (hb.mono hC.size)⟩
        go_simp; refine hK _ ?_; clear hK K
        refine wpQuiet_step (fun K hK => ?_)
        refine q_val rfl (.pointer (some ⟨g, 0, none⟩)) (fun _ => by go_simp) ?_
        go_simp; refine hK _ ?_; clear hK K
        refine wpQuiet_step (fun K hK => ?_)
        refine q_val rfl (.pointer (some ⟨g, 0, none⟩)) (fun _ => by go_simp) ?_
        go_simp; refine hK _ ?_; clear hK K
        refine wpQuiet_nil ?_
        intro w4 hC
        refine wp_store_tab rfl 41 (.tmp 50) (.tmp 48) rfl g 0 rfl 8 _ rfl 73 _ 44 (hh3.below hC hh3.lt) (by kernel_rfl) (by omega) (fun _ => rfl) ?_
        intro w5 h5 hg5
        rw [hc_state] at h5
        have hlen2 : (M ++ (bs.drop k).take n1).length = L + n1 := by rw [length_step M (bs.drop k) n1 (by omega), ← HL.out]
        have hfin : HashIs w5 g (m ++ bs.take (k + n1)) := by
          rw [← take_step, ← HM.out]
          refine ⟨restOf q n1 (bs.drop k) r, ?_, fun j hj => by rw [t2] at hj; omega⟩
          rw [t1, hlen2, t4]
          exact h5
        have hs5 := hs3.only (only_trans (only_below hC _) hg5)
        have hg6 := only_trans hg3 (only_trans (only_below hC _) hg5)
        clear t1 t2 t3 t4 hblk hr hfull hlen2 h5 hg5 hC hg3 hs3 hh3 hcut hs2 hsc
        refine wpList_nil ?_
        dsimp only [Act.put]
        go_wp2_with fail
        go_roundw
        case rel => exact ⟨k + n1, A2, c' - n1, by omega, by rw [Nat.sub_add_eq], by rw [← Nat.sub_sub, ← List.drop_drop]; exact hs5, hfin, hg6⟩
        case measure => show n - k - n1 < n - k; omega
      · have hd : (((L : Int) + (n1 : Int)) % 64 == 0) = false := beq_eq_false_iff_ne.2 (by omega)
        go_wp2_with fail
        have hh3 := h2.set 72 (.int .u64 (((L + n1 : Nat)) : Int))
        rw [hc_rest _ _ _ _ _ _ _ (by omega)] at hh3
        have e1 : (Value.int IntKind.u64 (((L + n1 : Nat)) : Int)) = Value.int IntKind.u64 ((L : Int) + (n1 : Int)) := by simp
        rw [e1] at hh3
        have hg3 := only_trans hgr (only_trans (only_trans (only_drewN wr nd (some g)) hg2) (only_setCell w2 g 72 (.int .u64 ((L : Int) + (n1 : Int)))))
        have hs3 := hs2.only (only_trans (only_trans (only_drewN wr nd (some g)) hg2) (only_setCell w2 g 72 (.int .u64 ((L : Int) + (n1 : Int)))))
        have hlt64 : q + n1 < 64 := by have h1 := Hq.out; omega
        rw [HL.out] at hr
        obtain ⟨t1, t2, t3⟩ := part_state M (bs.drop k) n1 (by omega) (by have h1 := Hq.out; rw [← HL.out]; omega)
        have t4 := rest_step M (bs.drop k) n1 r hr
        rw [← HL.out] at t1 t2 t3 t4
        rw [← Hq.out] at t2 t4
        have hlen2 : (M ++ (bs.drop k).take n1).length = L + n1 := by rw [length_step M (bs.drop k) n1 (by omega), ← HL.out]
        have hfin : HashIs (w2.setCell ⟨g, 72, none⟩ (.int .u64 ((L : Int) + (n1 : Int)))) g (m ++ bs.take (k + n1)) := by
          rw [← take_step, ← HM.out]
          refine ⟨restOf q n1 (bs.drop k) r, ?_, fun j hj => ?_⟩
          · rw [t1, hlen2, t3]; exact hh3
          · rw [t2] at hj; rw [t1]; exact t4 j hj
        go_roundw
        case rel => exact ⟨k + n1, A2, c' - n1, by omega, by rw [Nat.sub_add_eq], by rw [← Nat.sub_sub, ← List.drop_drop]; exact hs3, hfin, hg3⟩
        case measure => show n - k - n1 < n - k; omega
    · have hkn : k = n := by omega
      have e : m ++ bs.take k = m ++ bs := by rw [List.take_of_length_le (by have := hS.1; omega)]
      have hfin : HashIs wr g (m ++ bs) := by rw [← e]; exact ⟨r, hh, hr⟩
      have hnk : n - k = 0 := by omega
      clear hkn hk e hh hr hs hS hH
      go_wp2_with fail
      go_end0
      exact ⟨rfl, hfin, hgr⟩
end Go.Proofs.YtopjdckfphhnnaaDoor
