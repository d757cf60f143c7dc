/-


What the rows list of the program's seven variables, as the walks ask it; a world that holds them; slices of bytes that came in.
Package curve: three times a number, the crossed product, the sum of two points.
Package curve: the point at infinity, a point's projective coordinates, the point of projective coordinates, the sum of two points.
-/
import Derived.Test.YtflkhlhpifmocaaDoorCards
import Derived.Test.YtflkhlhpifmocaaDoorTie
import Derived.Test.YtflkhlhpifmocaaDoorMg04
import Derived.Deep.AppendLies
import Derived.Deep.DeepCutAuto
import Derived.ProofKit
import Derived.OpenShut
import Derived.Deep.DeepHandedRow
import Derived.Lib.LaidTab
import Derived.LaidSub
namespace Go.Proofs.YtflkhlhpifmocaaDoor
open Go.RowKit

/-- the slice value v reads as the bytes bs, in a block that is there and is not g -/
def SlB (w : World) (g : Nat) (A : Option Addr) (n c : Nat) (bs : List UInt8) : Prop :=
  bs.length = n ∧ n ≤ c ∧ (0 < n → ∃ b o, A = some ⟨b, o, none⟩ ∧ b ≠ g ∧ b < w.heap.size ∧ ∀ j, j < n → w.cell? ⟨b, o + j, none⟩ = some (by8 (bs.getD j 0)))
theorem SlB.only {w w' : World} {g : Nat} {A : Option Addr} {n c : Nat} {bs : List UInt8} (h : SlB w g A n c bs) (hg : w.grownBy w' (some g)) : SlB w' g A n c bs := by
  refine ⟨h.1, h.2.1, fun hn => ?_⟩
  obtain ⟨b, o, rfl, hne, hlt, hc⟩ := h.2.2 hn
  exact ⟨b, o, rfl, hne, Nat.lt_of_lt_of_le hlt hg.size, fun j hj => (World.cell?_of_block (hg.block b hlt (by simpa using hne))).trans (hc j hj)⟩
theorem Tabs.only {w w' : World} {g : Nat} (h : Tabs w) (hg : w.grownBy w' (some g)) (h2 : 7 ≤ g) : Tabs w' :=
  have hs := h.size
  ⟨fun i hi => (hg.cell_far ⟨_, i, none⟩ (show _ < w.heap.size from Nat.lt_of_lt_of_le (show _ < 7 by dsimp only; decide) hs) (fun e => by injection e with e; dsimp only at e; omega)).trans (h.k i hi),
   fun i hi => (hg.cell_far ⟨_, i, none⟩ (show _ < w.heap.size from Nat.lt_of_lt_of_le (show _ < 7 by dsimp only; decide) hs) (fun e => by injection e with e; dsimp only at e; omega)).trans (h.iv i hi), Nat.le_trans hs hg.size⟩
/-- 'x[k:]' -/
theorem SlB.cut {w : World} {g : Nat} {A : Option Addr} {n c : Nat} {bs : List UInt8} (h : SlB w g A n c bs) (k : Nat) (hk : k ≤ n) :
    ∃ A', (∀ W : World, (Instr.slice 22 (.slice A n c) (some (.int .i64 (k : Int))) none none).run Tryd.prog W = .ok (.slice A' (n - k) (c - k)) W) ∧ SlB w g A' (n - k) (c - k) (bs.drop k) := by
  refine ⟨if c = k then A else A.map (·.add (k * 1)), fun W => ?_, by simp [h.1], by have := h.2.1; omega, fun hn => ?_⟩
  · have hs : (sizeOf (Tryd.prog.elem 22)).run Tryd.prog W = .ok 1 W := by kernel_rfl
    rw [run_slice_l (P := Tryd.prog) (w := W) 22 A n c (by kernel_rfl) .i64 (k : Int) (by omega) (by omega), hs]
    simp [sliced, Result.andThen]
  · obtain ⟨b, o, rfl, hne, hlt, hc⟩ := h.2.2 (by omega)
    have := h.2.1
    rw [if_neg (by omega)]
    refine ⟨b, o + k, by simp [Addr.add]; try (by_cases h0 : k = 0 <;> simp [h0]), hne, hlt, fun j hj => ?_⟩
    rw [Nat.add_assoc, hc (k + j) (by omega)]
    simp [List.getD_eq_getElem?_getD]

theorem hc_rest (s : Nat → UInt32) (r : Nat → UInt8) (D : List UInt8) (L L' q n1 : Nat) (h : q + n1 ≤ 64) :
    (tab 73 fun j => if 8 + q ≤ j ∧ j < 8 + q + n1 then by8 (D.getD (j - (8 + q)) 0) else hc s r L j).setIfInBounds 72 (.int .u64 (L' : Int)) = tab 73 (hc s (restOf q n1 D r) L') := by
  rw [tab_set]
  apply tab_ext
  intro j hj
  by_cases h72 : j = 72
  · subst h72; simp [hc]
  rw [if_neg h72]
  by_cases h1 : 8 + q ≤ j ∧ j < 8 + q + n1
  · rw [if_pos h1]
    have e : j - (8 + q) = j - 8 - q := by omega
    simp only [hc, restOf]
    rw [if_neg (by omega), if_pos (by omega), if_pos (by omega), e]
  · rw [if_neg h1]
    simp only [hc, restOf]
    by_cases h8 : j < 8
    · rw [if_pos h8, if_pos h8]
    · rw [if_neg h8, if_neg h8, if_pos (by omega), if_pos (by omega), if_neg (by omega)]
theorem hc_lo (s : Nat → UInt32) (r : Nat → UInt8) (L : Nat) : (List.range 8).map (fun j => hc s r L (0 + j)) = (List.range 8).map (fun j => wd (s j)) := by
  apply List.map_congr_left
  intro j hj
  have : j < 8 := by simpa using hj
  simp [hc, this]
theorem hc_mid (s : Nat → UInt32) (r : Nat → UInt8) (L : Nat) : (List.range 64).map (fun j => hc s r L (8 + j)) = (List.range 64).map (fun j => by8 (r j)) := by
  apply List.map_congr_left
  intro j hj
  have : j < 64 := by simpa using hj
  simp only [hc]
  rw [if_neg (by omega), if_pos (by omega), Nat.add_sub_cancel_left]
theorem hc_state (s s' : Nat → UInt32) (r : Nat → UInt8) (L : Nat) : (tab 73 fun j => if 0 ≤ j ∧ j < 0 + 8 then wd (s' (j - 0)) else hc s r L j) = tab 73 (hc s' r L) := by
  apply tab_ext
  intro j _
  by_cases h : j < 8
  · rw [if_pos (by omega)]; simp [hc, h]
  · rw [if_neg (by omega)]; simp [hc, h]

set_option maxRecDepth 100000 in
set_option maxHeartbeats 1000000 in
theorem write_any (g : Nat) (m bs : List UInt8) (A : Option Addr) (n c : Nat) (w : World) (hT : Tabs w) (hg : 7 ≤ g) (hH : HashIs w g m) (hS : SlB w g A n c bs) (hlen : m.length + bs.length ≤ 1048576) :
    Calls Tryd.prog 77 #[.pointer (some ⟨g, 0, none⟩), .slice A n c] w fun e w' => e = .returned (.tuple #[]) ∧ HashIs w' g (m ++ bs) ∧ w.grownBy w' (some g) := by
  have HT := Lib.hid hT
  clear hT
  go_enter Tryd.func77, Tryd.ntmps77
  go_wp2_with fail
  go_loopw [1, 4] (fun v _ wr => ∃ (k : Nat) (A' : Option Addr) (c' : Nat), k ≤ n ∧ v = .slice A' (n - k) c' ∧ SlB wr g A' (n - k) c' (bs.drop k) ∧ HashIs wr g (m ++ bs.take k) ∧ w.grownBy wr (some g))
    (fun v _ _ => match v with | .slice _ l _ => l | _ => 0)
  case atStart => exact ⟨0, A, c, by omega, rfl, by simpa using hS, by simpa using hH, World.grownBy.refl w _⟩
  case round =>
    obtain ⟨k, A', c', hk, rfl, hs, ⟨r, hh, hr⟩, hgr⟩ := hrel
    by_cases hlt : k < n
    · have hlt' : 0 < n - k := by omega
      obtain ⟨bb, o, rfl, hne, hbl, hsc⟩ := hs.2.2 hlt'
      obtain ⟨M, hM⟩ : ∃ M, M = m ++ bs.take k := ⟨_, rfl⟩
      rw [← hM] at hh hr
      obtain ⟨L, hL⟩ : ∃ L, L = M.length := ⟨_, rfl⟩
      have hDl : (bs.drop k).length = n - k := hs.1
      have hLm : L = m.length + k := by rw [hL, hM]; have := hS.1; simp; omega
      have HM := Lib.hid hM
      have HL := Lib.hid hL
      rw [← hL] at hh hr
      clear hM hL
      have cL : wr.cell? ⟨g, 72, none⟩ = some (.int .u64 (L : Int)) := hh.cellTab 72 (by omega)
      have hLb : (L : Int) < 1048576 := by have h1 := hS.1; omega
      clear hLm
      obtain ⟨q, hq⟩ : ∃ q, q = L % 64 := ⟨_, rfl⟩
      have hq64 : q < 64 := by omega
      have etm : (L : Int).tmod 64 = (q : Int) := by rw [hq, Int.tmod_eq_emod_of_nonneg (by omega)]; omega
      have Hq := Lib.hid hq
      clear hq
      have hslA : ∀ W : World, (Instr.sliceAt 126 (.pointer (some ⟨g, 8, none⟩)) (some (.int .u64 (q : Int))) none none).run Tryd.prog W = .ok (.slice (some ⟨g, 8 + q, none⟩) (64 - q) (64 - q)) W := fun W => by
        have hs : (sizeOf 5).run Tryd.prog W = .ok 1 W := by kernel_rfl
        have h := run_sliceAt_array_l (P := Tryd.prog) (w := W) 126 ⟨g, 8, none⟩ (by kernel_rfl) .u64 (q : Int) (by omega) (by show (q : Int) ≤ 64; omega)
        have e5 : Tryd.prog.elem 126 = 5 := by kernel_rfl
        have e64 : Tryd.prog.arrayLen 126 = 64 := by kernel_rfl
        have hne : ¬ 64 = q := by omega
        rw [h, e5, hs, e64]
        simp [Result.andThen, slicedAt, hne, Addr.add]
      go_wp2_with fail
      refine region_quiet_tail (fun w' => ∃ n, w' = wr.drewN n) 10 (by kernel_rfl) (by kernel_rfl) ⟨1, rfl⟩ ?_
      simp only [List.take_succ_cons, List.take_zero, List.drop_succ_cons, List.drop_zero]
      repeat (quiet_step (fail))
      refine wpQuiet_nil ?_
      rintro w' ⟨nd, rfl⟩
      have hgz : 0 < 64 - q := by omega
      obtain ⟨n1, hn1⟩ : ∃ n1, n1 = Nat.min (n - k) (64 - q) := ⟨_, rfl⟩
      have hn1a : n1 ≤ n - k := by rw [hn1]; exact Nat.min_le_left _ _
      have hn1b : n1 ≤ 64 - q := by rw [hn1]; exact Nat.min_le_right _ _
      have hn1c : 0 < n1 := by rw [hn1]; exact Nat.lt_min.2 ⟨hlt', hgz⟩
      have Hn1 := Lib.hid hn1
      clear hn1
      obtain ⟨A2, hcut, hs2⟩ := hs.cut n1 hn1a
      refine wp_copy_tab rfl (.tmp 18) (.tmp 19) 22 22 rfl 5 Tryd.underlying22 (by kernel_rfl) g (8 + q) (64 - q) (64 - q) bb o (n - k) c' rfl rfl 73 _ 128 (hh.drewN nd) n1 Hn1.out
        (fun j => by8 ((bs.drop k).getD j 0)) (fun j hj => hsc j (by omega)) (by omega) (fun _ => rfl) ?_
      intro w2 h2 hg2
      have c2 : w2.cell? ⟨g, 72, none⟩ = some (.int .u64 (L : Int)) := by
        have := h2.cellTab 72 (by omega)
        rw [if_neg (by omega)] at this
        exact this
      have f2 := h2.free 72
      have q1 : (1 : Int) ≤ (n1 : Int) := by omega
      have q2 : (n1 : Int) ≤ 64 := by omega
      clear hslA etm
      by_cases hfull : (L + n1) % 64 = 0
      · have hd : (((L : Int) + (n1 : Int)) % 64 == 0) = true := beq_iff_eq.2 (by omega)
        go_wp2_with fail
        have hh3 := h2.set 72 (.int .u64 (((L + n1 : Nat)) : Int))
        rw [hc_rest _ _ _ _ _ _ _ (by omega)] at hh3
        have e1 : (Value.int IntKind.u64 (((L + n1 : Nat)) : Int)) = Value.int IntKind.u64 ((L : Int) + (n1 : Int)) := by simp
        rw [e1] at hh3
        have hg3 := only_trans hgr (only_trans (only_trans (only_drewN wr nd (some g)) hg2) (only_setCell w2 g 72 (.int .u64 ((L : Int) + (n1 : Int)))))
        have hs3 := hs2.only (only_trans (only_trans (only_drewN wr nd (some g)) hg2) (only_setCell w2 g 72 (.int .u64 ((L : Int) + (n1 : Int)))))
        clear hd e1 c2 f2 hg2 h2
        generalize w2.setCell ⟨g, 72, none⟩ (.int .u64 ((L : Int) + (n1 : Int))) = w3 at *
        rw [HL.out] at hr
        obtain ⟨t1, t2, t3, t4⟩ := full_state M (bs.drop k) n1 (by omega) r hr (by have h1 := Hq.out; rw [← HL.out]; omega)
        rw [← HL.out] at t1 t3 t4
        rw [← Hq.out] at t3
        have hblk : tab 64 (fun j => by8 (blk (M ++ (bs.drop k).take n1) (L / 64) j)) = tab 64 (fun j => by8 (restOf q n1 (bs.drop k) r j)) := tab_ext _ _ _ fun j hj => by rw [t3 j hj]
        refine region_quiet_tail (Below w3.heap.size w3) 12 (by kernel_rfl) (by kernel_rfl) (below_drewN (Below.refl _ _) 1) ?_
        simp only [List.take_succ_cons, List.take_zero, List.drop_succ_cons, List.drop_zero]
        refine wpQuiet_step (fun K hK => ?_)
        refine q_val rfl (.pointer (some ⟨g, 0, none⟩)) (fun _ => by go_simp) ?_
        go_simp; refine hK _ ?_; clear hK K
        refine wpQuiet_step (fun K hK => ?_)
        refine q_val rfl (.pointer (some ⟨g, 0, none⟩)) (fun _ => by go_simp) ?_
        go_simp; refine hK _ ?_; clear hK K
        refine wpQuiet_step (fun K hK => ?_)
        refine q_val rfl (.pointer (some ⟨g, 0, none⟩)) (fun _ => by go_simp) ?_
        go_simp; refine hK _ ?_; clear hK K
        refine wpQuiet_step (fun K hK => ?_)
        refine q_val rfl (.pointer (some ⟨g, 0, none⟩)) (fun _ => by go_simp) ?_
        go_simp; refine hK _ ?_; clear hK K
        refine wpQuiet_step (fun K hK => ?_)
        refine q_load rfl 29 (.tmp 42) rfl g 0 rfl 8 (fun j => wd (foldSt M (L / 64) j)) _ (fun w' hC => ?_) Tryd.underlying29 rfl (by kernel_rfl) ?_
        · have h := (hh3.below hC hh3.lt).range 0 8 (by omega)
          rw [hc_lo] at h
          exact h
        go_simp; refine hK _ ?_; clear hK K
        refine wpQuiet_step (fun K hK => ?_)
        refine q_val rfl (.pointer (some ⟨g, 0, none⟩)) (fun _ => by go_simp) ?_
        go_simp; refine hK _ ?_; clear hK K
        refine wpQuiet_step (fun K hK => ?_)
        refine q_val rfl (.pointer (some ⟨g, 0, none⟩)) (fun _ => by go_simp) ?_
        go_simp; refine hK _ ?_; clear hK K
        refine wpQuiet_step (fun K hK => ?_)
        refine q_val rfl (.pointer (some ⟨g, 8, none⟩)) (fun _ => by go_simp) ?_
        go_simp; refine hK _ ?_; clear hK K
        refine wpQuiet_step (fun K hK => ?_)
        refine q_load rfl 126 (.tmp 46) rfl g 8 rfl 64 (fun j => by8 (restOf q n1 (bs.drop k) r j)) _ (fun w' hC => ?_) Tryd.underlying126 rfl (by kernel_rfl) ?_
        · have h := (hh3.below hC hh3.lt).range 8 64 (by omega)
          rw [hc_mid] at h
          exact h
        go_simp; refine hK _ ?_; clear hK K
        refine wpQuiet_step (fun K hK => ?_)
        refine q_call rfl 89 #[.agg (tab 8 fun j => wd (foldSt M (L / 64) j)), .agg (tab 64 fun j => by8 (restOf q n1 (bs.drop k) r j))] (fun _ => by go_simp) (.agg (tab 8 fun j => wd (comp (foldSt M (L / 64)) (blk (M ++ (bs.drop k).take n1) (L / 64)) j))) (fun w' hC => ?_) ?_
        · rw [← hblk]
          exact (compress_any _ _ w' ((HT.out.only hg3 hg).below hC)).mono fun e w'' ⟨he, hb⟩ => ⟨he, hC.trans (hb.mono hC.size)⟩
        go_simp; refine hK _ ?_; clear hK K
        refine wpQuiet_step (fun K hK => ?_)
        refine q_val rfl (.pointer (some ⟨g, 0, none⟩)) (fun _ => by go_simp) ?_
        go_simp; refine hK _ ?_; clear hK K
        refine wpQuiet_step (fun K hK => ?_)
        refine q_val rfl (.pointer (some ⟨g, 0, none⟩)) (fun _ => by go_simp) ?_
        go_simp; refine hK _ ?_; clear hK K
        refine wpQuiet_nil ?_
        intro w4 hC
        refine wp_store_tab rfl 29 (.tmp 50) (.tmp 48) rfl g 0 rfl 8 _ rfl 73 _ 128 (hh3.below hC hh3.lt) (by kernel_rfl) (by omega) (fun _ => rfl) ?_
        intro w5 h5 hg5
        rw [hc_state] at h5
        have hlen2 : (M ++ (bs.drop k).take n1).length = L + n1 := by rw [length_step M (bs.drop k) n1 (by omega), ← HL.out]
        have hfin : HashIs w5 g (m ++ bs.take (k + n1)) := by
          rw [← take_step, ← HM.out]
          refine ⟨restOf q n1 (bs.drop k) r, ?_, fun j hj => by rw [t2] at hj; omega⟩
          rw [t1, hlen2, t4]
          exact h5
        have hs5 := hs3.only (only_trans (only_below hC _) hg5)
        have hg6 := only_trans hg3 (only_trans (only_below hC _) hg5)
        clear t1 t2 t3 t4 hblk hr hfull hlen2 h5 hg5 hC hg3 hs3 hh3 hcut hs2 hsc
        refine wpList_nil ?_
        dsimp only [Act.put]
        go_wp2_with fail
        go_roundw
        case rel => exact ⟨k + n1, A2, c' - n1, by omega, by rw [Nat.sub_add_eq], by rw [← Nat.sub_sub, ← List.drop_drop]; exact hs5, hfin, hg6⟩
        case measure => show n - k - n1 < n - k; omega
      · have hd : (((L : Int) + (n1 : Int)) % 64 == 0) = false := beq_eq_false_iff_ne.2 (by omega)
        go_wp2_with fail
        have hh3 := h2.set 72 (.int .u64 (((L + n1 : Nat)) : Int))
        rw [hc_rest _ _ _ _ _ _ _ (by omega)] at hh3
        have e1 : (Value.int IntKind.u64 (((L + n1 : Nat)) : Int)) = Value.int IntKind.u64 ((L : Int) + (n1 : Int)) := by simp
        rw [e1] at hh3
        have hg3 := only_trans hgr (only_trans (only_trans (only_drewN wr nd (some g)) hg2) (only_setCell w2 g 72 (.int .u64 ((L : Int) + (n1 : Int)))))
        have hs3 := hs2.only (only_trans (only_trans (only_drewN wr nd (some g)) hg2) (only_setCell w2 g 72 (.int .u64 ((L : Int) + (n1 : Int)))))
        have hlt64 : q + n1 < 64 := by have h1 := Hq.out; omega
        rw [HL.out] at hr
        obtain ⟨t1, t2, t3⟩ := part_state M (bs.drop k) n1 (by omega) (by have h1 := Hq.out; rw [← HL.out]; omega)
        have t4 := rest_step M (bs.drop k) n1 r hr
        rw [← HL.out] at t1 t2 t3 t4
        rw [← Hq.out] at t2 t4
        have hlen2 : (M ++ (bs.drop k).take n1).length = L + n1 := by rw [length_step M (bs.drop k) n1 (by omega), ← HL.out]
        have hfin : HashIs (w2.setCell ⟨g, 72, none⟩ (.int .u64 ((L : Int) + (n1 : Int)))) g (m ++ bs.take (k + n1)) := by
          rw [← take_step, ← HM.out]
          refine ⟨restOf q n1 (bs.drop k) r, ?_, fun j hj => ?_⟩
          · rw [t1, hlen2, t3]; exact hh3
          · rw [t2] at hj; rw [t1]; exact t4 j hj
        go_roundw
        case rel => exact ⟨k + n1, A2, c' - n1, by omega, by rw [Nat.sub_add_eq], by rw [← Nat.sub_sub, ← List.drop_drop]; exact hs3, hfin, hg3⟩
        case measure => show n - k - n1 < n - k; omega
    · have hkn : k = n := by omega
      have e : m ++ bs.take k = m ++ bs := by rw [List.take_of_length_le (by have := hS.1; omega)]
      have hfin : HashIs wr g (m ++ bs) := by rw [← e]; exact ⟨r, hh, hr⟩
      have hnk : n - k = 0 := by omega
      clear hkn hk e hh hr hs hS hH
      go_wp2_with fail
      go_end0
      exact ⟨rfl, hfin, hgr⟩
end Go.Proofs.YtflkhlhpifmocaaDoor
namespace Go.Proofs.YtflkhlhpifmocaaDoor
open Go.RowKit

/-- the slice value reads as the bytes bs, in a block that is there -/
def SlA (w : World) (A : Option Addr) (n c : Nat) (bs : List UInt8) : Prop :=
  bs.length = n ∧ n ≤ c ∧ (0 < n → ∃ b o, A = some ⟨b, o, none⟩ ∧ b < w.heap.size ∧ ∀ j, j < n → w.cell? ⟨b, o + j, none⟩ = some (by8 (bs.getD j 0)))
theorem SlA.apart {w w' : World} {A : Option Addr} {n c : Nat} {bs : List UInt8} (h : SlA w A n c bs) (hb : Below w.heap.size w w') (g : Nat) (hg : w.heap.size ≤ g) : SlB w' g A n c bs := by
  refine ⟨h.1, h.2.1, fun hn => ?_⟩
  obtain ⟨b, o, rfl, hlt, hc⟩ := h.2.2 hn
  exact ⟨b, o, rfl, by omega, Nat.lt_of_lt_of_le hlt hb.size, fun j hj => (hb.cell (p := ⟨b, o + j, none⟩) hlt).trans (hc j hj)⟩
theorem SlA.below {w w' : World} {A : Option Addr} {n c : Nat} {bs : List UInt8} (h : SlA w A n c bs) (hb : Below w.heap.size w w') : SlA w' A n c bs := by
  refine ⟨h.1, h.2.1, fun hn => ?_⟩
  obtain ⟨b, o, rfl, hlt, hc⟩ := h.2.2 hn
  exact ⟨b, o, rfl, Nat.lt_of_lt_of_le hlt hb.size, fun j hj => (hb.cell (p := ⟨b, o + j, none⟩) hlt).trans (hc j hj)⟩
theorem below_only {a b c : World} {g B : Nat} (h : Below B a b) (k : b.grownBy c (some g)) (hg : B ≤ g) (hB : B ≤ b.heap.size) : Below B a c := h.trans (below_of_only k hg hB)

/-- an array by value out of the middle of a block -/
theorem wp_load_tab {P : Program} {w : World} {ops : Array Oper} {rest : List Oper} {op : Oper} {a : Act} {Q : Exit → Act → World → Prop} (hgd : op.guard = none) (ty : TypeId) (x : Operand) (ho : op.op = .load ty x)
    (b off : Nat) (hx : a.eval x = .pointer (some ⟨b, off, none⟩)) (n : Nat) (f : Nat → Value) (d : TypeDesc) (hc : w.rangeAt b off ((List.range n).map f))
    (hu : P.underlying ty = some d) (hd : d.isRow = true) (hi : (P.info? ty).map (·.size) = some n)
    (h : wpList P ops Q rest (a.put op.dst (.agg (tab n f))) w) : wpList P ops Q (op :: rest) a w :=
  wpList_load_mid hgd ty x ho b off hx _ d hc hu hd (by simpa using hi) h

theorem write_none (A : Option Addr) (n c : Nat) (w : World) :
    Calls Tryd.prog 77 #[.pointer none, .slice A n c] w fun e w' => e = .returned (.tuple #[]) ∧ w = w' := by
  go_enter Tryd.func77, Tryd.ntmps77
  go_wp2_with fail
  exact bodyPost_ret (results_none rfl _ _ _) rfl ⟨rfl, rfl⟩

theorem hc_one (s : Nat → UInt32) (r : Nat → UInt8) (L j : Nat) : (hc s r L j).oneCell' = true := by
  unfold hc
  by_cases h : j < 8
  · rw [if_pos h]; rfl
  · rw [if_neg h]
    by_cases h2 : j < 72
    · rw [if_pos h2]; rfl
    · rw [if_neg h2]; rfl
theorem info24 : (Tryd.prog.info? 62).map (fun i => (i.zero, i.size)) = some (some (.agg (tab 32 zeroB)), 32) := by kernel_rfl
attribute [local go_sem] zeros32b

set_option maxRecDepth 100000 in
set_option maxHeartbeats 1000000 in
theorem sum_any (g : Nat) (m : List UInt8) (w : World) (hT : Tabs w) (hg : g < w.heap.size) (hH : HashIs w g m) (hlen : m.length ≤ 1000000) :
    Calls Tryd.prog 78 #[.pointer (some ⟨g, 0, none⟩)] w fun e w' => e = .returned (.agg (tab 32 fun j => by8 (shaOf m j))) ∧ Below w.heap.size w w' := by
  have HT := Lib.hid hT
  clear hT
  obtain ⟨st, hst⟩ : ∃ st, foldSt (m ++ padOf m) ((m ++ padOf m).length / 64) = st := ⟨_, rfl⟩
  have hsha : (fun j => by8 (shaOf m j)) = fun j => by8 (dig st j) := by rw [← hst]; rfl
  rw [hsha]
  have Hst := Lib.hid hst
  clear hst hsha
  obtain ⟨r, hh, hr⟩ := hH
  have hz44 := (zero_of_info info44).1
  have hz73 : (Tryd.prog.info? 128).map (·.size) = some (tab 73 (hc (foldSt m (m.length / 64)) r m.length)).size := by rw [tab_size]; kernel_rfl
  go_enter Tryd.func78, Tryd.ntmps78
  go_upto_region 4 with (first | refine wpList_load_row rfl 128 (.tmp 8) rfl g rfl 128 _ _ _ (hh.alloc _) Tryd.underlying128 rfl hz73 ?_ | refine wpList_store_row rfl 128 (.tmp 3) (.tmp 9) rfl (w.heap.size + 1) _ rfl rfl 128 _ (Has.new' (by simp)) hz73 (by rw [tab_size, tab_size]) (tab_oneCell _ _ (hc_one _ _ _)) ?_)
  have hcL := (Has.farRow (k := w.heap.size + 1) ((hh.alloc (.cells (tab 32 zeroB) 62)).alloc (.cells (tab 73 zeroH) 128)) (by omega) (tab 73 (hc (foldSt m (m.length / 64)) r m.length))).cellTab 72 (by omega)
  have h2 : Has (((w.alloc (.cells (tab 32 zeroB) 62)).alloc (.cells (tab 73 zeroH) 128)).setRow (w.heap.size + 1) (tab 73 (hc (foldSt m (m.length / 64)) r m.length))) (w.heap.size) 62 (tab 32 zeroB) := ((Has.new' rfl).alloc _).farRow (by omega) _
  have h3 : HashIs (((w.alloc (.cells (tab 32 zeroB) 62)).alloc (.cells (tab 73 zeroH) 128)).setRow (w.heap.size + 1) (tab 73 (hc (foldSt m (m.length / 64)) r m.length))) (w.heap.size + 1) m :=
    ⟨r, (Has.new' (cs := tab 73 zeroH) (t := 128) (by simp)).setRow _, hr⟩
  have hb := below_setRow (((Below.refl w.heap.size w).alloc (Nat.le_refl _) (.cells (tab 32 zeroB) 62)).alloc (by simp) (.cells (tab 73 zeroH) 128)) (g := w.heap.size + 1) (by omega) (tab 73 (hc (foldSt m (m.length / 64)) r m.length))
  have hsz : (((w.alloc (.cells (tab 32 zeroB) 62)).alloc (.cells (tab 73 zeroH) 128)).setRow (w.heap.size + 1) (tab 73 (hc (foldSt m (m.length / 64)) r m.length))).heap.size = w.heap.size + 2 := by simp
  have hL : hc (foldSt m (m.length / 64)) r m.length 72 = .int .u64 (m.length : Int) := by simp [hc]
  rw [hL] at hcL
  generalize ((w.alloc (.cells (tab 32 zeroB) 62)).alloc (.cells (tab 73 zeroH) 128)).setRow (w.heap.size + 1) (tab 73 (hc (foldSt m (m.length / 64)) r m.length)) = w1 at *
  have Hsz := Lib.hid hsz
  clear hsz hL hz44 hz73 hh hr
  have hpl := padLen_le m.length
  go_wp2_with (first | (go_at_call 90; refine (padding_any m.length _ (by omega)).mono ?_; rintro e w2 ⟨rfl, hpad, hb2⟩))
  have h1s := Hsz.out
  have hb12 := hb.trans (hb2.mono (by omega))
  have hsl : SlB w2 (w.heap.size + 1) (some ⟨w1.heap.size, 0, none⟩) (padLen m.length) (padLen m.length) (padOf m) := by
    refine ⟨padOf_length m, Nat.le_refl _, fun _ => ⟨_, _, rfl, by omega, hpad.lt, fun j hj => ?_⟩⟩
    rw [Nat.zero_add, hpad.cellTab j hj, padOf_get m j hj]
  have h3' : HashIs w2 (w.heap.size + 1) m := by
    obtain ⟨r, hh, hr⟩ := h3
    exact ⟨r, hh.below hb2 hh.lt, hr⟩
  have h2' := h2.below hb2 h2.lt
  have hT2 : Tabs w2 := HT.out.below hb12
  have hs2 : w1.heap.size ≤ w2.heap.size := hb2.size
  have hgt := hT2.size
  refine (write_any (w.heap.size + 1) m (padOf m) _ _ _ w2 hT2 (by have := HT.out.size; omega) h3' hsl (by rw [padOf_length]; omega)).mono ?_
  rintro e w3 ⟨rfl, h3w, hg3⟩
  have hb13 := below_only hb12 hg3 (by omega) (by omega)
  have h2w : Has w3 w.heap.size 62 (tab 32 zeroB) := (hg3.block w.heap.size h2'.lt (by simp)).trans h2'
  obtain ⟨r3, hh3, _⟩ := h3w
  clear h2 h2' h3 h3' hpad hsl hT2 hb hb2 hb12 hcL hgt
  have hr8 := hh3.range 0 8 (by omega)
  rw [hc_lo] at hr8
  have hz32 : (Tryd.prog.info? 62).map (·.size) = some (tab 32 fun j => by8 (dig st j)).size := by rw [tab_size]; kernel_rfl
  rw [Hst.out] at hr8
  clear hh3
  have hsz3 : w1.heap.size ≤ w3.heap.size := Nat.le_trans hs2 hg3.size
  go_wp2_with (first | (refine wp_load_tab rfl 29 (.tmp 16) rfl (w.heap.size + 1) 0 rfl 8 _ _ hr8 Tryd.underlying29 rfl (by kernel_rfl) ?_) | (go_at_call 91; refine (digest_any st _).mono ?_; rintro e w4 ⟨rfl, hb4⟩; have h2z := h2w.below hb4 h2w.lt) | refine wpList_store_row rfl 62 (.tmp 2) (.tmp 18) rfl w.heap.size (tab 32 fun j => by8 (dig st j)) rfl rfl 62 _ h2z hz32 (by rw [tab_size, tab_size]) (tab_oneCell _ _ fun _ => rfl) ?_)
  exact bodyPost_ret (v := .agg (tab 32 fun j => by8 (dig st j))) (results_cell_row rfl _ _ w.heap.size 62 _ _ _ rfl (h2z.setRow _) Tryd.underlying62 rfl hz32) rfl ⟨rfl, below_setRow (hb13.trans (hb4.mono (by omega))) (Nat.le_refl _) _⟩
end Go.Proofs.YtflkhlhpifmocaaDoor
namespace Go.Proofs.YtflkhlhpifmocaaDoor
open Go.ChangeShapes Go.WideShapes Go.ChangeAt Go.RowKit

def laidList : List (String × DataW Unit) := [("portico/sha.initial", Rows.laid_portico_sha_initial), ("portico/sha.roundConstants", Rows.laid_portico_sha_roundConstants), ("portico/curve.prime", Rows.laid_portico_curve_prime), ("portico/curve.coefficient", Rows.laid_portico_curve_coefficient), ("portico/curve.baseX", Rows.laid_portico_curve_baseX), ("portico/curve.baseY", Rows.laid_portico_curve_baseY), ("portico/curve.order", Rows.laid_portico_curve_order)]
def intsW (x : Nat) : List Int := (List.range 8).map fun j => ((wrd x j : Nat) : Int)
theorem cells8w : Tryd.prog.cellsOf 30 = 8 := by kernel_rfl
theorem cells8s : Tryd.prog.cellsOf 29 = 8 := by kernel_rfl
theorem cells64s : Tryd.prog.cellsOf 134 = 64 := by kernel_rfl
theorem cells1w : Tryd.prog.cellsOf 28 = 1 := by kernel_rfl
theorem g_initial : Tryd.prog.globalNamed "portico/sha.initial" = some 5 := by kernel_rfl
theorem gt_initial : (Tryd.prog.globals[5]?).map (·.type) = some 29 := by kernel_rfl
theorem list_initial : (Rows.laid_portico_sha_initial : DataW Unit) = Lib.tabData .u32 (inits.map fun x => (x.toNat : Int)) := by kernel_rfl
theorem g_roundConstants : Tryd.prog.globalNamed "portico/sha.roundConstants" = some 6 := by kernel_rfl
theorem gt_roundConstants : (Tryd.prog.globals[6]?).map (·.type) = some 134 := by kernel_rfl
theorem list_roundConstants : (Rows.laid_portico_sha_roundConstants : DataW Unit) = Lib.tabData .u32 (consts.map fun x => (x.toNat : Int)) := by kernel_rfl
theorem g_prime : Tryd.prog.globalNamed "portico/curve.prime" = some 0 := by kernel_rfl
theorem gt_prime : (Tryd.prog.globals[0]?).map (·.type) = some 30 := by kernel_rfl
theorem list_prime : (Rows.laid_portico_curve_prime : DataW Unit) = Lib.tabData .u32 (intsW (Ec.pp)) := by kernel_rfl
theorem g_coefficient : Tryd.prog.globalNamed "portico/curve.coefficient" = some 1 := by kernel_rfl
theorem gt_coefficient : (Tryd.prog.globals[1]?).map (·.type) = some 30 := by kernel_rfl
theorem list_coefficient : (Rows.laid_portico_curve_coefficient : DataW Unit) = Lib.tabData .u32 (intsW (bN)) := by kernel_rfl
theorem g_baseX : Tryd.prog.globalNamed "portico/curve.baseX" = some 3 := by kernel_rfl
theorem gt_baseX : (Tryd.prog.globals[3]?).map (·.type) = some 30 := by kernel_rfl
theorem list_baseX : (Rows.laid_portico_curve_baseX : DataW Unit) = Lib.tabData .u32 (intsW (Ec.gX)) := by kernel_rfl
theorem g_baseY : Tryd.prog.globalNamed "portico/curve.baseY" = some 4 := by kernel_rfl
theorem gt_baseY : (Tryd.prog.globals[4]?).map (·.type) = some 30 := by kernel_rfl
theorem list_baseY : (Rows.laid_portico_curve_baseY : DataW Unit) = Lib.tabData .u32 (intsW (Ec.gY)) := by kernel_rfl
theorem g_order : Tryd.prog.globalNamed "portico/curve.order" = some 2 := by kernel_rfl
theorem gt_order : (Tryd.prog.globals[2]?).map (·.type) = some 30 := by kernel_rfl
theorem list_order : (Rows.laid_portico_curve_order : DataW Unit) = Lib.tabData .u32 (intsW (Ec.ordN)) := by kernel_rfl
theorem getD_map (l : List UInt32) (i : Nat) (h : i < l.length) : (l.map fun x => (x.toNat : Int)).getD i 0 = ((l.getD i 0).toNat : Int) := by
  simp [List.getD_eq_getElem?_getD, h]
theorem range_of {W : World} {g x : Nat} (h : ∀ i, i < 8 → W.cell? ⟨g, i, none⟩ = some (.int .u32 ((intsW x).getD i 0))) : W.rangeAt g 0 (wordsL x) := fun j v hv => by
  have hj : j < 8 := by
    have := (List.getElem?_eq_some_iff.1 hv).1
    rwa [wordsL_len] at this
  rw [Nat.zero_add, h j hj]
  have e1 : (wordsL x)[j]? = some (dgs .u32 4294967296 x j) := by simp [wordsL, hj]
  rw [e1] at hv
  have e2 : (intsW x).getD j 0 = ((wrd x j : Nat) : Int) := by simp [intsW, List.getD_eq_getElem?_getD, hj]
  rw [e2, ← hv]
  rfl
/-- what the rows' list gives -/
theorem laid_of {W : World} (h : laidMetH Tryd.prog laidList W) : Laid W ∧ Tabs W := by
  have h0 : laidMet Tryd.prog laidList W := h
  unfold laidList at h0
  rw [list_initial, list_roundConstants, list_prime, list_coefficient, list_baseX, list_baseY, list_order] at h0
  have m_initial : laidMet Tryd.prog [("portico/sha.initial", Lib.tabData .u32 (inits.map fun x => (x.toNat : Int)))] W := h0.filter (fun x => x.1 == "portico/sha.initial")
  have t_initial : Lib.TabIs Tryd.prog W "portico/sha.initial" .u32 (inits.map fun x => (x.toNat : Int)) := Lib.tabIs_of_head (rest := []) g_initial gt_initial Tryd.underlying29 Tryd.underlying28 cells1w cells8s m_initial
  have c_initial : ∀ i, i < 8 → W.cell? ⟨5, i, none⟩ = some (wd (IV i)) := fun i hi => by
    have e : inits.length = 8 := rfl
    rw [t_initial.cell g_initial i (by simpa [e] using hi), getD_map _ _ (by omega)]; rfl
  have k_initial := block_lt_of_cell (c_initial 0 (by omega))
  dsimp only at k_initial
  have m_roundConstants : laidMet Tryd.prog [("portico/sha.roundConstants", Lib.tabData .u32 (consts.map fun x => (x.toNat : Int)))] W := h0.filter (fun x => x.1 == "portico/sha.roundConstants")
  have t_roundConstants : Lib.TabIs Tryd.prog W "portico/sha.roundConstants" .u32 (consts.map fun x => (x.toNat : Int)) := Lib.tabIs_of_head (rest := []) g_roundConstants gt_roundConstants Tryd.underlying134 Tryd.underlying28 cells1w cells64s m_roundConstants
  have c_roundConstants : ∀ i, i < 64 → W.cell? ⟨6, i, none⟩ = some (wd (KC i)) := fun i hi => by
    have e : consts.length = 64 := rfl
    rw [t_roundConstants.cell g_roundConstants i (by simpa [e] using hi), getD_map _ _ (by omega)]; rfl
  have k_roundConstants := block_lt_of_cell (c_roundConstants 0 (by omega))
  dsimp only at k_roundConstants
  have m_prime : laidMet Tryd.prog [("portico/curve.prime", Lib.tabData .u32 (intsW (Ec.pp)))] W := h0.filter (fun x => x.1 == "portico/curve.prime")
  have t_prime : Lib.TabIs Tryd.prog W "portico/curve.prime" .u32 (intsW (Ec.pp)) := Lib.tabIs_of_head (rest := []) g_prime gt_prime Tryd.underlying30 Tryd.underlying28 cells1w cells8w m_prime
  have c_prime : ∀ i, i < 8 → W.cell? ⟨0, i, none⟩ = some (.int .u32 ((intsW (Ec.pp)).getD i 0)) := fun i hi => t_prime.cell g_prime i (by simpa [intsW] using hi)
  have k_prime := block_lt_of_cell (c_prime 0 (by omega))
  dsimp only at k_prime
  have m_coefficient : laidMet Tryd.prog [("portico/curve.coefficient", Lib.tabData .u32 (intsW (bN)))] W := h0.filter (fun x => x.1 == "portico/curve.coefficient")
  have t_coefficient : Lib.TabIs Tryd.prog W "portico/curve.coefficient" .u32 (intsW (bN)) := Lib.tabIs_of_head (rest := []) g_coefficient gt_coefficient Tryd.underlying30 Tryd.underlying28 cells1w cells8w m_coefficient
  have c_coefficient : ∀ i, i < 8 → W.cell? ⟨1, i, none⟩ = some (.int .u32 ((intsW (bN)).getD i 0)) := fun i hi => t_coefficient.cell g_coefficient i (by simpa [intsW] using hi)
  have k_coefficient := block_lt_of_cell (c_coefficient 0 (by omega))
  dsimp only at k_coefficient
  have m_baseX : laidMet Tryd.prog [("portico/curve.baseX", Lib.tabData .u32 (intsW (Ec.gX)))] W := h0.filter (fun x => x.1 == "portico/curve.baseX")
  have t_baseX : Lib.TabIs Tryd.prog W "portico/curve.baseX" .u32 (intsW (Ec.gX)) := Lib.tabIs_of_head (rest := []) g_baseX gt_baseX Tryd.underlying30 Tryd.underlying28 cells1w cells8w m_baseX
  have c_baseX : ∀ i, i < 8 → W.cell? ⟨3, i, none⟩ = some (.int .u32 ((intsW (Ec.gX)).getD i 0)) := fun i hi => t_baseX.cell g_baseX i (by simpa [intsW] using hi)
  have k_baseX := block_lt_of_cell (c_baseX 0 (by omega))
  dsimp only at k_baseX
  have m_baseY : laidMet Tryd.prog [("portico/curve.baseY", Lib.tabData .u32 (intsW (Ec.gY)))] W := h0.filter (fun x => x.1 == "portico/curve.baseY")
  have t_baseY : Lib.TabIs Tryd.prog W "portico/curve.baseY" .u32 (intsW (Ec.gY)) := Lib.tabIs_of_head (rest := []) g_baseY gt_baseY Tryd.underlying30 Tryd.underlying28 cells1w cells8w m_baseY
  have c_baseY : ∀ i, i < 8 → W.cell? ⟨4, i, none⟩ = some (.int .u32 ((intsW (Ec.gY)).getD i 0)) := fun i hi => t_baseY.cell g_baseY i (by simpa [intsW] using hi)
  have k_baseY := block_lt_of_cell (c_baseY 0 (by omega))
  dsimp only at k_baseY
  have m_order : laidMet Tryd.prog [("portico/curve.order", Lib.tabData .u32 (intsW (Ec.ordN)))] W := h0.filter (fun x => x.1 == "portico/curve.order")
  have t_order : Lib.TabIs Tryd.prog W "portico/curve.order" .u32 (intsW (Ec.ordN)) := Lib.tabIs_of_head (rest := []) g_order gt_order Tryd.underlying30 Tryd.underlying28 cells1w cells8w m_order
  have c_order : ∀ i, i < 8 → W.cell? ⟨2, i, none⟩ = some (.int .u32 ((intsW (Ec.ordN)).getD i 0)) := fun i hi => t_order.cell g_order i (by simpa [intsW] using hi)
  have k_order := block_lt_of_cell (c_order 0 (by omega))
  dsimp only at k_order
  exact ⟨⟨range_of c_prime, range_of c_coefficient, range_of c_baseX, range_of c_baseY, range_of c_order, by omega⟩, ⟨c_roundConstants, c_initial, by omega⟩⟩
/-- a world for the witnesses: the settled one, the variables holding what their initialisers lay -/
noncomputable def laidWorld (os : Os) : World :=
  { World.holding Tryd.prog os ⟨#[], #[], []⟩ with heap := ((((((((World.holding Tryd.prog os ⟨#[], #[], []⟩).heap.modify 5 fun
      | .cells _ t frozen => .cells #[.int .u32 1779033703, .int .u32 3144134277, .int .u32 1013904242, .int .u32 2773480762, .int .u32 1359893119, .int .u32 2600822924, .int .u32 528734635, .int .u32 1541459225] t frozen
      | o => o).modify 6 fun
      | .cells _ t frozen => .cells #[.int .u32 1116352408, .int .u32 1899447441, .int .u32 3049323471, .int .u32 3921009573, .int .u32 961987163, .int .u32 1508970993, .int .u32 2453635748, .int .u32 2870763221, .int .u32 3624381080, .int .u32 310598401, .int .u32 607225278, .int .u32 1426881987, .int .u32 1925078388, .int .u32 2162078206, .int .u32 2614888103, .int .u32 3248222580, .int .u32 3835390401, .int .u32 4022224774, .int .u32 264347078, .int .u32 604807628, .int .u32 770255983, .int .u32 1249150122, .int .u32 1555081692, .int .u32 1996064986, .int .u32 2554220882, .int .u32 2821834349, .int .u32 2952996808, .int .u32 3210313671, .int .u32 3336571891, .int .u32 3584528711, .int .u32 113926993, .int .u32 338241895, .int .u32 666307205, .int .u32 773529912, .int .u32 1294757372, .int .u32 1396182291, .int .u32 1695183700, .int .u32 1986661051, .int .u32 2177026350, .int .u32 2456956037, .int .u32 2730485921, .int .u32 2820302411, .int .u32 3259730800, .int .u32 3345764771, .int .u32 3516065817, .int .u32 3600352804, .int .u32 4094571909, .int .u32 275423344, .int .u32 430227734, .int .u32 506948616, .int .u32 659060556, .int .u32 883997877, .int .u32 958139571, .int .u32 1322822218, .int .u32 1537002063, .int .u32 1747873779, .int .u32 1955562222, .int .u32 2024104815, .int .u32 2227730452, .int .u32 2361852424, .int .u32 2428436474, .int .u32 2756734187, .int .u32 3204031479, .int .u32 3329325298] t frozen
      | o => o).modify 0 fun
      | .cells _ t frozen => .cells #[.int .u32 4294967295, .int .u32 4294967295, .int .u32 4294967295, .int .u32 0, .int .u32 0, .int .u32 0, .int .u32 1, .int .u32 4294967295] t frozen
      | o => o).modify 1 fun
      | .cells _ t frozen => .cells #[.int .u32 668098635, .int .u32 1003371582, .int .u32 3428036854, .int .u32 1696401072, .int .u32 1989707452, .int .u32 3018571093, .int .u32 2855965671, .int .u32 1522939352] t frozen
      | o => o).modify 3 fun
      | .cells _ t frozen => .cells #[.int .u32 3633889942, .int .u32 4104206661, .int .u32 770388896, .int .u32 1996717441, .int .u32 1671708914, .int .u32 4173129445, .int .u32 3777774151, .int .u32 1796723186] t frozen
      | o => o).modify 4 fun
      | .cells _ t frozen => .cells #[.int .u32 935285237, .int .u32 3417718888, .int .u32 1798397646, .int .u32 734933847, .int .u32 2081398294, .int .u32 2397563722, .int .u32 4263149467, .int .u32 1340293858] t frozen
      | o => o).modify 2 fun
      | .cells _ t frozen => .cells #[.int .u32 4234356049, .int .u32 4089039554, .int .u32 2803342980, .int .u32 3169254061, .int .u32 4294967295, .int .u32 4294967295, .int .u32 0, .int .u32 4294967295] t frozen
      | o => o) }
theorem own : ownKnob Tryd.prog.godebug = none := by kernel_rfl
theorem laidOut : laidOutB Tryd.prog = true := by kernel_rfl
/-- the slice value reads as bytes -/
theorem isRow_bytes {W : World} {b off : Nat} {len cap : Nat} {zs : List Int} (hl : len ≤ cap) (hz : zs.length = cap) (hcell : ∀ i, i < zs.length → W.cell? ⟨b, off + i, none⟩ = some (.int .u8 (zs.getD i 0))) (hwz : ∀ n ∈ zs, (Lit.int .u8 n).wf = true) :
    ∀ j, j < len → W.cell? ⟨b, off + j, none⟩ = some (by8 (((zs.take len).map fun z => UInt8.ofNat z.toNat).getD j 0)) := by
  intro j hj
  rw [hcell j (by omega)]
  have hm : zs[j]'(by omega) ∈ zs := List.getElem_mem _
  have hw := hwz _ hm
  have hb : 0 ≤ zs[j]'(by omega) ∧ zs[j]'(by omega) ≤ 255 := by simpa [Lit.wf, IntKind.min, IntKind.max, IntKind.signed, IntKind.bits] using hw
  unfold by8
  simp only [List.getD_eq_getElem?_getD, List.getElem?_map, List.getElem?_take, if_pos hj]
  rw [List.getElem?_eq_getElem (by omega)]
  simp only [Option.getD_some, Option.map_some, UInt8.toNat_ofNat']
  congr 2
  omega
/-- a slice of bytes that came in -/
theorem came {H : Type} {enc : TypeId × Value → H} {W : World} {a : Option Addr} {len cap : Nat} {d : DataW H} {p : List MemPlace} (h : DataW.Trod enc Tryd.prog W 0 (fun _ => true) true 22 (.slice a len cap) d p) :
    (∃ bs, SlA W a len cap bs) ∧ (a = none → cap = 0) := by
  obtain ⟨fuel, hf⟩ := h
  rcases open_ints Tryd.underlying22 Tryd.underlying5 (by kernel_rfl) hf with ⟨hcs, _⟩ | ⟨x, l, c, zs, hcs, _, hl, _, hz, _, hcell, hwz⟩
  · simp [Value.cells] at hcs
    obtain ⟨rfl, rfl, rfl⟩ := hcs
    exact ⟨⟨[], rfl, Nat.le_refl _, fun h => absurd h (by omega)⟩, fun _ => rfl⟩
  · simp [Value.cells] at hcs
    obtain ⟨rfl, rfl, rfl⟩ := hcs
    have hz' : zs.length = cap := by simpa using hz
    refine ⟨⟨(zs.take len).map fun z => UInt8.ofNat z.toNat, by simp; omega, hl, fun hn => ?_⟩, fun h => by cases h⟩
    obtain ⟨b, off, spot⟩ := x
    have hc := hcell 0 (by omega)
    have hspot : spot = none := by simpa [Addr.add] using World.cell?_spot hc
    subst hspot
    have hcell' : ∀ i, i < zs.length → W.cell? ⟨b, off + i, none⟩ = some (.int .u8 (zs.getD i 0)) := fun i hi => by
      have := hcell i hi
      rwa [Addr.add_mid] at this
    refine ⟨b, off, rfl, ?_, isRow_bytes hl hz' hcell' hwz⟩
    have := block_lt_of_cell (hcell' 0 (by omega))
    exact this

end Go.Proofs.YtflkhlhpifmocaaDoor
namespace Go.Proofs.YtflkhlhpifmocaaDoor
open Go.RowKit

attribute [local go_sem] zeroNum zero24
set_option maxRecDepth 100000 in
set_option maxHeartbeats 4000000 in
theorem triple_any (a m bm g : Nat) (w : World) (hI : IsCrv m bm w g) (la : a < m) : Calls Tryd.prog 68 #[.pointer (some ⟨g, 0, none⟩), .agg (nums a)] w fun e w' => e = .returned (.agg (nums (triN m a))) ∧ Below w.heap.size w w' := by
  obtain ⟨f, hG, hM, hL⟩ := hI
  have kM := fun W (h : Below w.heap.size w W) => hM.after h
  have kI := fun W (h : Below w.heap.size w W) => (⟨f, hG.after h, hM.after h, hL.after h⟩ : IsCrv m bm W g)
  have m0 : 0 < m := Nat.lt_of_le_of_lt (Nat.zero_le _) la
  obtain ⟨v1, ev1⟩ : ∃ v, v = (a + a) % m := ⟨_, rfl⟩
  have lv1 : v1 < m := by rw [ev1]; exact Nat.mod_lt _ m0
  obtain ⟨v2, ev2⟩ : ∃ v, v = (v1 + a) % m := ⟨_, rfl⟩
  have lv2 : v2 < m := by rw [ev2]; exact Nat.mod_lt _ m0
  have kv1 := fun W (h : Below w.heap.size w W) => madd_any a a m f W (kM W h) la la
  rw [← ev1] at kv1
  have kv2 := fun W (h : Below w.heap.size w W) => madd_any v1 a m f W (kM W h) lv1 la
  rw [← ev2] at kv2
  have hr : triN m a = v2 := by rw [ev2, ev1]; rfl
  rw [hr]
  clear hr la m0 kI hM hL ev1 lv1 ev2 lv2
  have n0 := nums_ne 0
  have hA : Has ((w.alloc (.cells (nums a) 30)).alloc (.cells (nums 0) 30)) (w.heap.size) 30 (nums a) := ((Has.new w _ _).alloc _)
  have hR : Has ((w.alloc (.cells (nums a) 30)).alloc (.cells (nums 0) 30)) (w.heap.size + 1) 30 (nums 0) := (Has.new' (by simp))
  have hb0 : Below w.heap.size w ((w.alloc (.cells (nums a) 30)).alloc (.cells (nums 0) 30)) := (((Below.refl _ _).alloc (Nat.le_refl _) _).alloc (by simp <;> omega) _)
  replace hG := hG.after hb0
  go_enter Tryd.func68, Tryd.ntmps68
  go_wp2_with fail
  generalize (w.alloc _).alloc _ = U0 at *
  refine region_quiet_tail (Below U0.heap.size U0) 13 (by kernel_rfl) (by kernel_rfl) (below_drewN (Below.refl _ _) 1) ?_
  simp only [List.take_succ_cons, List.take_zero, List.drop_succ_cons, List.drop_zero]
  refine wpQ_move _ rfl rfl (.pointer (some ⟨g, 0, none⟩)) rfl ?_
  simp only [Act.put, List.setIfInBounds_toArray, List.set_cons_zero, List.set_cons_succ]
  refine wpQ_val rfl (.pointer (some ⟨g, 0, none⟩)) (fun w' _ => by go_simp) ?_
  simp only [Act.put, List.setIfInBounds_toArray, List.set_cons_zero, List.set_cons_succ]
  refine wpQ_val rfl (.pointer (some ⟨g, 0, none⟩)) (fun w' _ => by go_simp) ?_
  simp only [Act.put, List.setIfInBounds_toArray, List.set_cons_zero, List.set_cons_succ]
  refine wpQ_load 72 _ rfl rfl _ rfl (.pointer (some ⟨f, 0, none⟩)) (fun w' hC => cell_ptr _ _ _ w' (crv_f (hG.after hC))) ?_
  simp only [Act.put, List.setIfInBounds_toArray, List.set_cons_zero, List.set_cons_succ]
  refine wpQ_move _ rfl rfl (.pointer (some ⟨g, 0, none⟩)) rfl ?_
  simp only [Act.put, List.setIfInBounds_toArray, List.set_cons_zero, List.set_cons_succ]
  refine wpQ_val rfl (.pointer (some ⟨g, 0, none⟩)) (fun w' _ => by go_simp) ?_
  simp only [Act.put, List.setIfInBounds_toArray, List.set_cons_zero, List.set_cons_succ]
  refine wpQ_val rfl (.pointer (some ⟨g, 0, none⟩)) (fun w' _ => by go_simp) ?_
  simp only [Act.put, List.setIfInBounds_toArray, List.set_cons_zero, List.set_cons_succ]
  refine wpQ_load 72 _ rfl rfl _ rfl (.pointer (some ⟨f, 0, none⟩)) (fun w' hC => cell_ptr _ _ _ w' (crv_f (hG.after hC))) ?_
  simp only [Act.put, List.setIfInBounds_toArray, List.set_cons_zero, List.set_cons_succ]
  refine wpQ_has 30 _ rfl _ rfl rfl 30 _ (fun w' hC => hA.after hC) _ Tryd.underlying30 rfl (infoNum _) ?_
  simp only [Act.put, List.setIfInBounds_toArray, List.set_cons_zero, List.set_cons_succ]
  refine wpQ_has 30 _ rfl _ rfl rfl 30 _ (fun w' hC => hA.after hC) _ Tryd.underlying30 rfl (infoNum _) ?_
  simp only [Act.put, List.setIfInBounds_toArray, List.set_cons_zero, List.set_cons_succ]
  refine wpQ_fn 66 _ _ rfl rfl #[.pointer (some ⟨f, 0, none⟩), .agg (nums (a)), .agg (nums (a))] rfl (fun _ => by go_simp) (.agg (nums (v1))) (fun w' hC => (kv1 w' (below_trans hb0 hC)).mono fun e w'' ⟨he, hb⟩ => ⟨he, below_class hC hb⟩) ?_
  simp only [Act.put, List.setIfInBounds_toArray, List.set_cons_zero, List.set_cons_succ]
  refine wpQ_has 30 _ rfl _ rfl rfl 30 _ (fun w' hC => hA.after hC) _ Tryd.underlying30 rfl (infoNum _) ?_
  simp only [Act.put, List.setIfInBounds_toArray, List.set_cons_zero, List.set_cons_succ]
  refine wpQ_fn 66 _ _ rfl rfl #[.pointer (some ⟨f, 0, none⟩), .agg (nums (v1)), .agg (nums (a))] rfl (fun _ => by go_simp) (.agg (nums (v2))) (fun w' hC => (kv2 w' (below_trans hb0 hC)).mono fun e w'' ⟨he, hb⟩ => ⟨he, below_class hC hb⟩) ?_
  simp only [Act.put, List.setIfInBounds_toArray, List.set_cons_zero, List.set_cons_succ]
  refine wpQuiet_nil ?_
  intro u1 hC
  replace hA := hA.after hC
  replace hG := hG.after hC
  replace hR := hR.after hC
  replace hb0 := below_trans hb0 hC
  clear hC
  go_wp2_with (first | refine wpList_store_row rfl 30 _ _ rfl (w.heap.size + 1) _ rfl rfl 30 _ hR (infoNum _) (by simp only [nums_size]) (tab_oneCell _ _ fun _ => rfl) ?_)
  exact bodyPost_ret (v := .agg (nums v2)) (results_cell_row rfl _ _ (w.heap.size + 1) 30 _ _ _ rfl (hR.setRow _) Tryd.underlying30 rfl (infoNum _)) rfl ⟨rfl, below_setRow hb0 (by omega) _⟩
set_option maxRecDepth 100000 in
set_option maxHeartbeats 4000000 in
theorem crossed_any (a1 b1 a2 b2 s m bm g : Nat) (w : World) (hI : IsCrv m bm w g) (la1 : a1 < m) (lb1 : b1 < m) (la2 : a2 < m) (lb2 : b2 < m) (ls : s < m) : Calls Tryd.prog 88 #[.pointer (some ⟨g, 0, none⟩), .agg (nums a1), .agg (nums b1), .agg (nums a2), .agg (nums b2), .agg (nums s)] w fun e w' => e = .returned (.agg (nums (crsN m a1 b1 a2 b2 s))) ∧ Below w.heap.size w w' := by
  obtain ⟨f, hG, hM, hL⟩ := hI
  have kM := fun W (h : Below w.heap.size w W) => hM.after h
  have kI := fun W (h : Below w.heap.size w W) => (⟨f, hG.after h, hM.after h, hL.after h⟩ : IsCrv m bm W g)
  have m0 : 0 < m := Nat.lt_of_le_of_lt (Nat.zero_le _) la1
  obtain ⟨v1, ev1⟩ : ∃ v, v = (a1 + b1) % m := ⟨_, rfl⟩
  have lv1 : v1 < m := by rw [ev1]; exact Nat.mod_lt _ m0
  obtain ⟨v2, ev2⟩ : ∃ v, v = (a2 + b2) % m := ⟨_, rfl⟩
  have lv2 : v2 < m := by rw [ev2]; exact Nat.mod_lt _ m0
  obtain ⟨v3, ev3⟩ : ∃ v, v = redc m (v1 * v2) := ⟨_, rfl⟩
  have lv3 : v3 < m := by rw [ev3]; exact redc_lt m _ m0
  obtain ⟨v4, ev4⟩ : ∃ v, v = (v3 + (m - s)) % m := ⟨_, rfl⟩
  have lv4 : v4 < m := by rw [ev4]; exact Nat.mod_lt _ m0
  have kv1 := fun W (h : Below w.heap.size w W) => madd_any a1 b1 m f W (kM W h) la1 lb1
  rw [← ev1] at kv1
  have kv2 := fun W (h : Below w.heap.size w W) => madd_any a2 b2 m f W (kM W h) la2 lb2
  rw [← ev2] at kv2
  have kv3 := fun W (h : Below w.heap.size w W) => mtimes_any v1 v2 m f W (kM W h) lv1 lv2
  rw [← ev3] at kv3
  have kv4 := fun W (h : Below w.heap.size w W) => msub_any v3 s m f W (kM W h) lv3 ls
  rw [← ev4] at kv4
  have hr : crsN m a1 b1 a2 b2 s = v4 := by rw [ev4, ev3, ev2, ev1]; rfl
  rw [hr]
  clear hr la1 lb1 la2 lb2 ls m0 kI hM hL ev1 lv1 ev2 lv2 ev3 lv3 ev4 lv4
  have n0 := nums_ne 0
  have hA1 : Has ((((((w.alloc (.cells (nums a1) 30)).alloc (.cells (nums b1) 30)).alloc (.cells (nums a2) 30)).alloc (.cells (nums b2) 30)).alloc (.cells (nums s) 30)).alloc (.cells (nums 0) 30)) (w.heap.size) 30 (nums a1) := ((((((Has.new w _ _).alloc _).alloc _).alloc _).alloc _).alloc _)
  have hB1 : Has ((((((w.alloc (.cells (nums a1) 30)).alloc (.cells (nums b1) 30)).alloc (.cells (nums a2) 30)).alloc (.cells (nums b2) 30)).alloc (.cells (nums s) 30)).alloc (.cells (nums 0) 30)) (w.heap.size + 1) 30 (nums b1) := (((((Has.new' (by simp)).alloc _).alloc _).alloc _).alloc _)
  have hA2 : Has ((((((w.alloc (.cells (nums a1) 30)).alloc (.cells (nums b1) 30)).alloc (.cells (nums a2) 30)).alloc (.cells (nums b2) 30)).alloc (.cells (nums s) 30)).alloc (.cells (nums 0) 30)) (w.heap.size + 1 + 1) 30 (nums a2) := ((((Has.new' (by simp)).alloc _).alloc _).alloc _)
  have hB2 : Has ((((((w.alloc (.cells (nums a1) 30)).alloc (.cells (nums b1) 30)).alloc (.cells (nums a2) 30)).alloc (.cells (nums b2) 30)).alloc (.cells (nums s) 30)).alloc (.cells (nums 0) 30)) (w.heap.size + 1 + 1 + 1) 30 (nums b2) := (((Has.new' (by simp)).alloc _).alloc _)
  have hS : Has ((((((w.alloc (.cells (nums a1) 30)).alloc (.cells (nums b1) 30)).alloc (.cells (nums a2) 30)).alloc (.cells (nums b2) 30)).alloc (.cells (nums s) 30)).alloc (.cells (nums 0) 30)) (w.heap.size + 1 + 1 + 1 + 1) 30 (nums s) := ((Has.new' (by simp)).alloc _)
  have hR : Has ((((((w.alloc (.cells (nums a1) 30)).alloc (.cells (nums b1) 30)).alloc (.cells (nums a2) 30)).alloc (.cells (nums b2) 30)).alloc (.cells (nums s) 30)).alloc (.cells (nums 0) 30)) (w.heap.size + 1 + 1 + 1 + 1 + 1) 30 (nums 0) := (Has.new' (by simp))
  have hb0 : Below w.heap.size w ((((((w.alloc (.cells (nums a1) 30)).alloc (.cells (nums b1) 30)).alloc (.cells (nums a2) 30)).alloc (.cells (nums b2) 30)).alloc (.cells (nums s) 30)).alloc (.cells (nums 0) 30)) := (((((((Below.refl _ _).alloc (Nat.le_refl _) _).alloc (by simp <;> omega) _).alloc (by simp <;> omega) _).alloc (by simp <;> omega) _).alloc (by simp <;> omega) _).alloc (by simp <;> omega) _)
  replace hG := hG.after hb0
  go_enter Tryd.func88, Tryd.ntmps88
  have cell0 := crv_f hG
  go_wp2_with fail
  clear cell0
  generalize (World.alloc (World.alloc (World.alloc (World.alloc (World.alloc (World.alloc w _) _) _) _) _) _) = U0 at *
  refine region_quiet_tail (Below U0.heap.size U0) 13 (by kernel_rfl) (by kernel_rfl) (below_drewN (Below.refl _ _) 1) ?_
  simp only [List.take_succ_cons, List.take_zero, List.drop_succ_cons, List.drop_zero]
  refine wpQ_move _ rfl rfl (.pointer (some ⟨f, 0, none⟩)) rfl ?_
  simp only [Act.put, List.setIfInBounds_toArray, List.set_cons_zero, List.set_cons_succ]
  refine wpQ_move _ rfl rfl (.pointer (some ⟨f, 0, none⟩)) rfl ?_
  simp only [Act.put, List.setIfInBounds_toArray, List.set_cons_zero, List.set_cons_succ]
  refine wpQ_move _ rfl rfl (.pointer (some ⟨f, 0, none⟩)) rfl ?_
  simp only [Act.put, List.setIfInBounds_toArray, List.set_cons_zero, List.set_cons_succ]
  refine wpQ_has 30 _ rfl _ rfl rfl 30 _ (fun w' hC => hA1.after hC) _ Tryd.underlying30 rfl (infoNum _) ?_
  simp only [Act.put, List.setIfInBounds_toArray, List.set_cons_zero, List.set_cons_succ]
  refine wpQ_has 30 _ rfl _ rfl rfl 30 _ (fun w' hC => hB1.after hC) _ Tryd.underlying30 rfl (infoNum _) ?_
  simp only [Act.put, List.setIfInBounds_toArray, List.set_cons_zero, List.set_cons_succ]
  refine wpQ_fn 66 _ _ rfl rfl #[.pointer (some ⟨f, 0, none⟩), .agg (nums (a1)), .agg (nums (b1))] rfl (fun _ => by go_simp) (.agg (nums (v1))) (fun w' hC => (kv1 w' (below_trans hb0 hC)).mono fun e w'' ⟨he, hb⟩ => ⟨he, below_class hC hb⟩) ?_
  simp only [Act.put, List.setIfInBounds_toArray, List.set_cons_zero, List.set_cons_succ]
  refine wpQ_move _ rfl rfl (.pointer (some ⟨f, 0, none⟩)) rfl ?_
  simp only [Act.put, List.setIfInBounds_toArray, List.set_cons_zero, List.set_cons_succ]
  refine wpQ_has 30 _ rfl _ rfl rfl 30 _ (fun w' hC => hA2.after hC) _ Tryd.underlying30 rfl (infoNum _) ?_
  simp only [Act.put, List.setIfInBounds_toArray, List.set_cons_zero, List.set_cons_succ]
  refine wpQ_has 30 _ rfl _ rfl rfl 30 _ (fun w' hC => hB2.after hC) _ Tryd.underlying30 rfl (infoNum _) ?_
  simp only [Act.put, List.setIfInBounds_toArray, List.set_cons_zero, List.set_cons_succ]
  refine wpQ_fn 66 _ _ rfl rfl #[.pointer (some ⟨f, 0, none⟩), .agg (nums (a2)), .agg (nums (b2))] rfl (fun _ => by go_simp) (.agg (nums (v2))) (fun w' hC => (kv2 w' (below_trans hb0 hC)).mono fun e w'' ⟨he, hb⟩ => ⟨he, below_class hC hb⟩) ?_
  simp only [Act.put, List.setIfInBounds_toArray, List.set_cons_zero, List.set_cons_succ]
  refine wpQ_fn 65 _ _ rfl rfl #[.pointer (some ⟨f, 0, none⟩), .agg (nums (v1)), .agg (nums (v2))] rfl (fun _ => by go_simp) (.agg (nums (v3))) (fun w' hC => (kv3 w' (below_trans hb0 hC)).mono fun e w'' ⟨he, hb⟩ => ⟨he, below_class hC hb⟩) ?_
  simp only [Act.put, List.setIfInBounds_toArray, List.set_cons_zero, List.set_cons_succ]
  refine wpQ_has 30 _ rfl _ rfl rfl 30 _ (fun w' hC => hS.after hC) _ Tryd.underlying30 rfl (infoNum _) ?_
  simp only [Act.put, List.setIfInBounds_toArray, List.set_cons_zero, List.set_cons_succ]
  refine wpQ_fn 67 _ _ rfl rfl #[.pointer (some ⟨f, 0, none⟩), .agg (nums (v3)), .agg (nums (s))] rfl (fun _ => by go_simp) (.agg (nums (v4))) (fun w' hC => (kv4 w' (below_trans hb0 hC)).mono fun e w'' ⟨he, hb⟩ => ⟨he, below_class hC hb⟩) ?_
  simp only [Act.put, List.setIfInBounds_toArray, List.set_cons_zero, List.set_cons_succ]
  refine wpQuiet_nil ?_
  intro u1 hC
  replace hA1 := hA1.after hC
  replace hB1 := hB1.after hC
  replace hA2 := hA2.after hC
  replace hB2 := hB2.after hC
  replace hS := hS.after hC
  replace hG := hG.after hC
  replace hR := hR.after hC
  replace hb0 := below_trans hb0 hC
  clear hC
  go_wp2_with (first | refine wpList_store_row rfl 30 _ _ rfl (w.heap.size + 1 + 1 + 1 + 1 + 1) _ rfl rfl 30 _ hR (infoNum _) (by simp only [nums_size]) (tab_oneCell _ _ fun _ => rfl) ?_)
  exact bodyPost_ret (v := .agg (nums v4)) (results_cell_row rfl _ _ (w.heap.size + 1 + 1 + 1 + 1 + 1) 30 _ _ _ rfl (hR.setRow _) Tryd.underlying30 rfl (infoNum _)) rfl ⟨rfl, below_setRow hb0 (by omega) _⟩
set_option maxRecDepth 100000 in
set_option maxHeartbeats 4000000 in
theorem csum_ex (X1 Y1 Z1 X2 Y2 Z2 m bm : Nat) (lX1 : X1 < m) (lY1 : Y1 < m) (lZ1 : Z1 < m) (lX2 : X2 < m) (lY2 : Y2 < m) (lZ2 : Z2 < m) (lbm : bm < m) (hmp : m = Ec.pp) (hbm : mo bm = Ec.cB) :
    ∃ X' Y' Z' : Nat, X' < m ∧ Y' < m ∧ Z' < m ∧ (∀ P Q, Ec.OnP P → Ec.OnP Q → Ec.RepC (mo X1) (mo Y1) (mo Z1) P → Ec.RepC (mo X2) (mo Y2) (mo Z2) Q → Ec.RepC (mo X') (mo Y') (mo Z') (Ec.plus P Q)) ∧
      ∀ g w, IsCrv m bm w g → Calls Tryd.prog 73 #[.pointer (some ⟨g, 0, none⟩), .agg (pjC X1 Y1 Z1), .agg (pjC X2 Y2 Z2)] w fun e w' => e = .returned (.agg (pjC X' Y' Z')) ∧ Below w.heap.size w w' := by
  have m0 : 0 < m := Nat.lt_of_le_of_lt (Nat.zero_le _) lX1
  obtain ⟨v1, ev1⟩ : ∃ v, v = redc m (X1 * X2) := ⟨_, rfl⟩
  have lv1 : v1 < m := by rw [ev1]; exact redc_lt m _ m0
  obtain ⟨v2, ev2⟩ : ∃ v, v = redc m (Y1 * Y2) := ⟨_, rfl⟩
  have lv2 : v2 < m := by rw [ev2]; exact redc_lt m _ m0
  obtain ⟨v3, ev3⟩ : ∃ v, v = redc m (Z1 * Z2) := ⟨_, rfl⟩
  have lv3 : v3 < m := by rw [ev3]; exact redc_lt m _ m0
  obtain ⟨v4, ev4⟩ : ∃ v, v = (v1 + v2) % m := ⟨_, rfl⟩
  have lv4 : v4 < m := by rw [ev4]; exact Nat.mod_lt _ m0
  obtain ⟨v5, ev5⟩ : ∃ v, v = crsN m X1 Y1 X2 Y2 v4 := ⟨_, rfl⟩
  have lv5 : v5 < m := by rw [ev5]; exact crsN_lt _ _ _ _ _ m0
  obtain ⟨v6, ev6⟩ : ∃ v, v = (v2 + v3) % m := ⟨_, rfl⟩
  have lv6 : v6 < m := by rw [ev6]; exact Nat.mod_lt _ m0
  obtain ⟨v7, ev7⟩ : ∃ v, v = crsN m Y1 Z1 Y2 Z2 v6 := ⟨_, rfl⟩
  have lv7 : v7 < m := by rw [ev7]; exact crsN_lt _ _ _ _ _ m0
  obtain ⟨v8, ev8⟩ : ∃ v, v = (v1 + v3) % m := ⟨_, rfl⟩
  have lv8 : v8 < m := by rw [ev8]; exact Nat.mod_lt _ m0
  obtain ⟨v9, ev9⟩ : ∃ v, v = crsN m X1 Z1 X2 Z2 v8 := ⟨_, rfl⟩
  have lv9 : v9 < m := by rw [ev9]; exact crsN_lt _ _ _ _ _ m0
  obtain ⟨v10, ev10⟩ : ∃ v, v = triN m v3 := ⟨_, rfl⟩
  have lv10 : v10 < m := by rw [ev10]; exact triN_lt _ m0
  obtain ⟨v11, ev11⟩ : ∃ v, v = redc m (bm * v3) := ⟨_, rfl⟩
  have lv11 : v11 < m := by rw [ev11]; exact redc_lt m _ m0
  obtain ⟨v12, ev12⟩ : ∃ v, v = (v9 + (m - v11)) % m := ⟨_, rfl⟩
  have lv12 : v12 < m := by rw [ev12]; exact Nat.mod_lt _ m0
  obtain ⟨v13, ev13⟩ : ∃ v, v = triN m v12 := ⟨_, rfl⟩
  have lv13 : v13 < m := by rw [ev13]; exact triN_lt _ m0
  obtain ⟨v14, ev14⟩ : ∃ v, v = (v2 + (m - v13)) % m := ⟨_, rfl⟩
  have lv14 : v14 < m := by rw [ev14]; exact Nat.mod_lt _ m0
  obtain ⟨v15, ev15⟩ : ∃ v, v = (v2 + v13) % m := ⟨_, rfl⟩
  have lv15 : v15 < m := by rw [ev15]; exact Nat.mod_lt _ m0
  obtain ⟨v16, ev16⟩ : ∃ v, v = redc m (bm * v9) := ⟨_, rfl⟩
  have lv16 : v16 < m := by rw [ev16]; exact redc_lt m _ m0
  obtain ⟨v17, ev17⟩ : ∃ v, v = (v10 + v1) % m := ⟨_, rfl⟩
  have lv17 : v17 < m := by rw [ev17]; exact Nat.mod_lt _ m0
  obtain ⟨v18, ev18⟩ : ∃ v, v = (v16 + (m - v17)) % m := ⟨_, rfl⟩
  have lv18 : v18 < m := by rw [ev18]; exact Nat.mod_lt _ m0
  obtain ⟨v19, ev19⟩ : ∃ v, v = triN m v18 := ⟨_, rfl⟩
  have lv19 : v19 < m := by rw [ev19]; exact triN_lt _ m0
  obtain ⟨v20, ev20⟩ : ∃ v, v = triN m v1 := ⟨_, rfl⟩
  have lv20 : v20 < m := by rw [ev20]; exact triN_lt _ m0
  obtain ⟨v21, ev21⟩ : ∃ v, v = (v20 + (m - v10)) % m := ⟨_, rfl⟩
  have lv21 : v21 < m := by rw [ev21]; exact Nat.mod_lt _ m0
  obtain ⟨v22, ev22⟩ : ∃ v, v = redc m (v5 * v15) := ⟨_, rfl⟩
  have lv22 : v22 < m := by rw [ev22]; exact redc_lt m _ m0
  obtain ⟨v23, ev23⟩ : ∃ v, v = redc m (v7 * v19) := ⟨_, rfl⟩
  have lv23 : v23 < m := by rw [ev23]; exact redc_lt m _ m0
  obtain ⟨v24, ev24⟩ : ∃ v, v = (v22 + (m - v23)) % m := ⟨_, rfl⟩
  have lv24 : v24 < m := by rw [ev24]; exact Nat.mod_lt _ m0
  obtain ⟨v25, ev25⟩ : ∃ v, v = redc m (v15 * v14) := ⟨_, rfl⟩
  have lv25 : v25 < m := by rw [ev25]; exact redc_lt m _ m0
  obtain ⟨v26, ev26⟩ : ∃ v, v = redc m (v21 * v19) := ⟨_, rfl⟩
  have lv26 : v26 < m := by rw [ev26]; exact redc_lt m _ m0
  obtain ⟨v27, ev27⟩ : ∃ v, v = (v25 + v26) % m := ⟨_, rfl⟩
  have lv27 : v27 < m := by rw [ev27]; exact Nat.mod_lt _ m0
  obtain ⟨v28, ev28⟩ : ∃ v, v = redc m (v7 * v14) := ⟨_, rfl⟩
  have lv28 : v28 < m := by rw [ev28]; exact redc_lt m _ m0
  obtain ⟨v29, ev29⟩ : ∃ v, v = redc m (v5 * v21) := ⟨_, rfl⟩
  have lv29 : v29 < m := by rw [ev29]; exact redc_lt m _ m0
  obtain ⟨v30, ev30⟩ : ∃ v, v = (v28 + v29) % m := ⟨_, rfl⟩
  have lv30 : v30 < m := by rw [ev30]; exact Nat.mod_lt _ m0
  refine ⟨v24, v27, v30, lv24, lv27, lv30, fun P Q oP oQ hP hQ => ?_, fun g w hI => ?_⟩
  · have cv1 : mo v1 = mo X1 * mo X2 := by rw [ev1]; exact mT hmp X1 X2
    have cv2 : mo v2 = mo Y1 * mo Y2 := by rw [ev2]; exact mT hmp Y1 Y2
    have cv3 : mo v3 = mo Z1 * mo Z2 := by rw [ev3]; exact mT hmp Z1 Z2
    have cv4 : mo v4 = mo v1 + mo v2 := by rw [ev4]; exact mA hmp v1 v2
    have cv5 : mo v5 = (mo X1 + mo Y1) * (mo X2 + mo Y2) - mo v4 := by rw [ev5]; exact mCrs hmp X1 Y1 X2 Y2 v4 (Nat.le_of_lt lv4)
    have cv6 : mo v6 = mo v2 + mo v3 := by rw [ev6]; exact mA hmp v2 v3
    have cv7 : mo v7 = (mo Y1 + mo Z1) * (mo Y2 + mo Z2) - mo v6 := by rw [ev7]; exact mCrs hmp Y1 Z1 Y2 Z2 v6 (Nat.le_of_lt lv6)
    have cv8 : mo v8 = mo v1 + mo v3 := by rw [ev8]; exact mA hmp v1 v3
    have cv9 : mo v9 = (mo X1 + mo Z1) * (mo X2 + mo Z2) - mo v8 := by rw [ev9]; exact mCrs hmp X1 Z1 X2 Z2 v8 (Nat.le_of_lt lv8)
    have cv10 : mo v10 = 3 * mo v3 := by rw [ev10]; exact mTri hmp v3
    have cv11 : mo v11 = mo bm * mo v3 := by rw [ev11]; exact mT hmp bm v3
    have cv12 : mo v12 = mo v9 - mo v11 := by rw [ev12]; exact mS hmp v9 v11 (Nat.le_of_lt lv11)
    have cv13 : mo v13 = 3 * mo v12 := by rw [ev13]; exact mTri hmp v12
    have cv14 : mo v14 = mo v2 - mo v13 := by rw [ev14]; exact mS hmp v2 v13 (Nat.le_of_lt lv13)
    have cv15 : mo v15 = mo v2 + mo v13 := by rw [ev15]; exact mA hmp v2 v13
    have cv16 : mo v16 = mo bm * mo v9 := by rw [ev16]; exact mT hmp bm v9
    have cv17 : mo v17 = mo v10 + mo v1 := by rw [ev17]; exact mA hmp v10 v1
    have cv18 : mo v18 = mo v16 - mo v17 := by rw [ev18]; exact mS hmp v16 v17 (Nat.le_of_lt lv17)
    have cv19 : mo v19 = 3 * mo v18 := by rw [ev19]; exact mTri hmp v18
    have cv20 : mo v20 = 3 * mo v1 := by rw [ev20]; exact mTri hmp v1
    have cv21 : mo v21 = mo v20 - mo v10 := by rw [ev21]; exact mS hmp v20 v10 (Nat.le_of_lt lv10)
    have cv22 : mo v22 = mo v5 * mo v15 := by rw [ev22]; exact mT hmp v5 v15
    have cv23 : mo v23 = mo v7 * mo v19 := by rw [ev23]; exact mT hmp v7 v19
    have cv24 : mo v24 = mo v22 - mo v23 := by rw [ev24]; exact mS hmp v22 v23 (Nat.le_of_lt lv23)
    have cv25 : mo v25 = mo v15 * mo v14 := by rw [ev25]; exact mT hmp v15 v14
    have cv26 : mo v26 = mo v21 * mo v19 := by rw [ev26]; exact mT hmp v21 v19
    have cv27 : mo v27 = mo v25 + mo v26 := by rw [ev27]; exact mA hmp v25 v26
    have cv28 : mo v28 = mo v7 * mo v14 := by rw [ev28]; exact mT hmp v7 v14
    have cv29 : mo v29 = mo v5 * mo v21 := by rw [ev29]; exact mT hmp v5 v21
    have cv30 : mo v30 = mo v28 + mo v29 := by rw [ev30]; exact mA hmp v28 v29
    rw [hbm] at cv11 cv16
    have k := Ec.complete hP hQ oP oQ cv1 cv2 cv3 (show mo v5 = _ by rw [cv5, cv4]) (show mo v7 = _ by rw [cv7, cv6]) (show mo v9 = _ by rw [cv9, cv8]) cv10 (show mo v13 = _ by rw [cv13, cv12, cv11]) cv14 cv15 (show mo v19 = _ by rw [cv19, cv18, cv16, cv17]) (show mo v21 = _ by rw [cv21, cv20])
    rw [cv24, cv22, cv23, cv27, cv25, cv26, cv30, cv28, cv29]
    exact k
  obtain ⟨f, hG, hM, hL⟩ := hI
  have kM := fun W (h : Below w.heap.size w W) => hM.after h
  have kI := fun W (h : Below w.heap.size w W) => (⟨f, hG.after h, hM.after h, hL.after h⟩ : IsCrv m bm W g)
  have kv1 := fun W (h : Below w.heap.size w W) => mtimes_any X1 X2 m f W (kM W h) lX1 lX2
  rw [← ev1] at kv1
  have kv2 := fun W (h : Below w.heap.size w W) => mtimes_any Y1 Y2 m f W (kM W h) lY1 lY2
  rw [← ev2] at kv2
  have kv3 := fun W (h : Below w.heap.size w W) => mtimes_any Z1 Z2 m f W (kM W h) lZ1 lZ2
  rw [← ev3] at kv3
  have kv4 := fun W (h : Below w.heap.size w W) => madd_any v1 v2 m f W (kM W h) lv1 lv2
  rw [← ev4] at kv4
  have kv5 := fun W (h : Below w.heap.size w W) => crossed_any X1 Y1 X2 Y2 v4 m bm g W (kI W h) lX1 lY1 lX2 lY2 lv4
  rw [← ev5] at kv5
  have kv6 := fun W (h : Below w.heap.size w W) => madd_any v2 v3 m f W (kM W h) lv2 lv3
  rw [← ev6] at kv6
  have kv7 := fun W (h : Below w.heap.size w W) => crossed_any Y1 Z1 Y2 Z2 v6 m bm g W (kI W h) lY1 lZ1 lY2 lZ2 lv6
  rw [← ev7] at kv7
  have kv8 := fun W (h : Below w.heap.size w W) => madd_any v1 v3 m f W (kM W h) lv1 lv3
  rw [← ev8] at kv8
  have kv9 := fun W (h : Below w.heap.size w W) => crossed_any X1 Z1 X2 Z2 v8 m bm g W (kI W h) lX1 lZ1 lX2 lZ2 lv8
  rw [← ev9] at kv9
  have kv10 := fun W (h : Below w.heap.size w W) => triple_any v3 m bm g W (kI W h) lv3
  rw [← ev10] at kv10
  have kv11 := fun W (h : Below w.heap.size w W) => mtimes_any bm v3 m f W (kM W h) lbm lv3
  rw [← ev11] at kv11
  have kv12 := fun W (h : Below w.heap.size w W) => msub_any v9 v11 m f W (kM W h) lv9 lv11
  rw [← ev12] at kv12
  have kv13 := fun W (h : Below w.heap.size w W) => triple_any v12 m bm g W (kI W h) lv12
  rw [← ev13] at kv13
  have kv14 := fun W (h : Below w.heap.size w W) => msub_any v2 v13 m f W (kM W h) lv2 lv13
  rw [← ev14] at kv14
  have kv15 := fun W (h : Below w.heap.size w W) => madd_any v2 v13 m f W (kM W h) lv2 lv13
  rw [← ev15] at kv15
  have kv16 := fun W (h : Below w.heap.size w W) => mtimes_any bm v9 m f W (kM W h) lbm lv9
  rw [← ev16] at kv16
  have kv17 := fun W (h : Below w.heap.size w W) => madd_any v10 v1 m f W (kM W h) lv10 lv1
  rw [← ev17] at kv17
  have kv18 := fun W (h : Below w.heap.size w W) => msub_any v16 v17 m f W (kM W h) lv16 lv17
  rw [← ev18] at kv18
  have kv19 := fun W (h : Below w.heap.size w W) => triple_any v18 m bm g W (kI W h) lv18
  rw [← ev19] at kv19
  have kv20 := fun W (h : Below w.heap.size w W) => triple_any v1 m bm g W (kI W h) lv1
  rw [← ev20] at kv20
  have kv21 := fun W (h : Below w.heap.size w W) => msub_any v20 v10 m f W (kM W h) lv20 lv10
  rw [← ev21] at kv21
  have kv22 := fun W (h : Below w.heap.size w W) => mtimes_any v5 v15 m f W (kM W h) lv5 lv15
  rw [← ev22] at kv22
  have kv23 := fun W (h : Below w.heap.size w W) => mtimes_any v7 v19 m f W (kM W h) lv7 lv19
  rw [← ev23] at kv23
  have kv24 := fun W (h : Below w.heap.size w W) => msub_any v22 v23 m f W (kM W h) lv22 lv23
  rw [← ev24] at kv24
  have kv25 := fun W (h : Below w.heap.size w W) => mtimes_any v15 v14 m f W (kM W h) lv15 lv14
  rw [← ev25] at kv25
  have kv26 := fun W (h : Below w.heap.size w W) => mtimes_any v21 v19 m f W (kM W h) lv21 lv19
  rw [← ev26] at kv26
  have kv27 := fun W (h : Below w.heap.size w W) => madd_any v25 v26 m f W (kM W h) lv25 lv26
  rw [← ev27] at kv27
  have kv28 := fun W (h : Below w.heap.size w W) => mtimes_any v7 v14 m f W (kM W h) lv7 lv14
  rw [← ev28] at kv28
  have kv29 := fun W (h : Below w.heap.size w W) => mtimes_any v5 v21 m f W (kM W h) lv5 lv21
  rw [← ev29] at kv29
  have kv30 := fun W (h : Below w.heap.size w W) => madd_any v28 v29 m f W (kM W h) lv28 lv29
  rw [← ev30] at kv30
  clear m0 kI kM hM hL hmp hbm lX1 lY1 lZ1 lX2 lY2 lZ2 lbm ev1 lv1 ev2 lv2 ev3 lv3 ev4 lv4 ev5 lv5 ev6 lv6 ev7 lv7 ev8 lv8 ev9 lv9 ev10 lv10 ev11 lv11 ev12 lv12 ev13 lv13 ev14 lv14 ev15 lv15 ev16 lv16 ev17 lv17 ev18 lv18 ev19 lv19 ev20 lv20 ev21 lv21 ev22 lv22 ev23 lv23 ev24 lv24 ev25 lv25 ev26 lv26 ev27 lv27 ev28 lv28 ev29 lv29 ev30 lv30
  have n0 := nums_ne 0
  have hA : Has (((w.alloc (.cells (pjC X1 Y1 Z1) 107)).alloc (.cells (pjC X2 Y2 Z2) 107)).alloc (.cells (pjC 0 0 0) 107)) (w.heap.size) 107 (pjC X1 Y1 Z1) := (((Has.new w _ _).alloc _).alloc _)
  have hB : Has (((w.alloc (.cells (pjC X1 Y1 Z1) 107)).alloc (.cells (pjC X2 Y2 Z2) 107)).alloc (.cells (pjC 0 0 0) 107)) (w.heap.size + 1) 107 (pjC X2 Y2 Z2) := ((Has.new' (by simp)).alloc _)
  have hR : Has (((w.alloc (.cells (pjC X1 Y1 Z1) 107)).alloc (.cells (pjC X2 Y2 Z2) 107)).alloc (.cells (pjC 0 0 0) 107)) (w.heap.size + 1 + 1) 107 (pjC 0 0 0) := (Has.new' (by simp))
  have hb0 : Below w.heap.size w (((w.alloc (.cells (pjC X1 Y1 Z1) 107)).alloc (.cells (pjC X2 Y2 Z2) 107)).alloc (.cells (pjC 0 0 0) 107)) := ((((Below.refl _ _).alloc (Nat.le_refl _) _).alloc (by simp <;> omega) _).alloc (by simp <;> omega) _)
  replace hG := hG.after hb0
  go_enter Tryd.func73, Tryd.ntmps73
  have cell0 := crv_f hG
  go_wp2_with fail
  clear cell0
  generalize ((w.alloc _).alloc _).alloc _ = U0 at *
  have ohR_1 := hR.lt
  have ohA_1 := hA.lt
  have ohB_1 := hB.lt
  have ohG_1 := hG.lt
  refine region_facts 21 [] [.val (.pointer (some ⟨f, 0, none⟩)), .val (.pointer (some ⟨w.heap.size, 0, none⟩)), .val (.agg (nums (X1))), .val (.pointer (some ⟨w.heap.size + 1, 0, none⟩)), .val (.agg (nums (X2))), .val (.agg (nums (v1))), .val (.pointer (some ⟨f, 0, none⟩)), .val (.pointer (some ⟨w.heap.size, 8, none⟩)), .val (.agg (nums (Y1))), .val (.pointer (some ⟨w.heap.size + 1, 8, none⟩)), .val (.agg (nums (Y2))), .val (.agg (nums (v2))), .val (.pointer (some ⟨f, 0, none⟩)), .val (.pointer (some ⟨w.heap.size, 16, none⟩)), .val (.agg (nums (Z1))), .val (.pointer (some ⟨w.heap.size + 1, 16, none⟩)), .val (.agg (nums (Z2))), .val (.agg (nums (v3))), .new 30 (nums 0), .new 30 (nums 0), .new 30 (nums 0)]
    (by kernel_rfl) (by kernel_rfl) (fun _ _ _ _ _ h => h) ?_ ?_
  · simp only [List.take_succ_cons, List.take_zero, StepsOK]
    refine ⟨?_, ?_, ?_, ?_, ?_, ?_, ?_, ?_, ?_, ?_, ?_, ?_, ?_, ?_, ?_, ?_, ?_, ?_, ?_, ?_, ?_, trivial⟩
    · intro v w' hb hf K hKt
      simp only [putAll, Act.put, List.setIfInBounds_toArray, List.set_cons_zero, List.set_cons_succ, Nat.zero_add, Nat.reduceAdd] at hKt ⊢
      go_simp
      exact hKt _ (Below.refl _ _)
    · intro v w' hb hf K hKt
      simp only [putAll, Act.put, List.setIfInBounds_toArray, List.set_cons_zero, List.set_cons_succ, Nat.zero_add, Nat.reduceAdd] at hKt ⊢
      go_simp
      exact hKt _ (Below.refl _ _)
    · intro v w' hb hf K hKt
      have f1 : v 1 = _ := hf ⟨1, .data⟩ (by simp) rfl
      simp only [putAll, Act.put, List.setIfInBounds_toArray, List.set_cons_zero, List.set_cons_succ, Nat.zero_add, Nat.reduceAdd] at hKt ⊢
      rw [f1] at hKt ⊢
      exact wp_load_num _ rfl (w.heap.size) 0 rfl X1 (pj_x ((hA.after hb))) (hKt _ (Below.refl _ _))
    · intro v w' hb hf K hKt
      simp only [putAll, Act.put, List.setIfInBounds_toArray, List.set_cons_zero, List.set_cons_succ, Nat.zero_add, Nat.reduceAdd] at hKt ⊢
      go_simp
      exact hKt _ (Below.refl _ _)
    · intro v w' hb hf K hKt
      have f3 : v 3 = _ := hf ⟨3, .data⟩ (by simp) rfl
      simp only [putAll, Act.put, List.setIfInBounds_toArray, List.set_cons_zero, List.set_cons_succ, Nat.zero_add, Nat.reduceAdd] at hKt ⊢
      rw [f3] at hKt ⊢
      exact wp_load_num _ rfl (w.heap.size + 1) 0 rfl X2 (pj_x ((hB.after hb))) (hKt _ (Below.refl _ _))
    · intro v w' hb hf K hKt
      have f0 : v 0 = _ := hf ⟨0, .data⟩ (by simp) rfl
      have f2 : v 2 = _ := hf ⟨2, .data⟩ (by simp) rfl
      have f4 : v 4 = _ := hf ⟨4, .data⟩ (by simp) rfl
      simp only [putAll, Act.put, List.setIfInBounds_toArray, List.set_cons_zero, List.set_cons_succ, Nat.zero_add, Nat.reduceAdd] at hKt ⊢
      rw [f0, f2, f4] at hKt ⊢
      go_simp
      refine (kv1 w' (below_trans hb0 hb)).mono ?_
      rintro e w'' ⟨rfl, hb2⟩
      exact hKt _ hb2
    · intro v w' hb hf K hKt
      simp only [putAll, Act.put, List.setIfInBounds_toArray, List.set_cons_zero, List.set_cons_succ, Nat.zero_add, Nat.reduceAdd] at hKt ⊢
      go_simp
      exact hKt _ (Below.refl _ _)
    · intro v w' hb hf K hKt
      simp only [putAll, Act.put, List.setIfInBounds_toArray, List.set_cons_zero, List.set_cons_succ, Nat.zero_add, Nat.reduceAdd] at hKt ⊢
      go_simp
      exact hKt _ (Below.refl _ _)
    · intro v w' hb hf K hKt
      have f7 : v 7 = _ := hf ⟨7, .data⟩ (by simp) rfl
      simp only [putAll, Act.put, List.setIfInBounds_toArray, List.set_cons_zero, List.set_cons_succ, Nat.zero_add, Nat.reduceAdd] at hKt ⊢
      rw [f7] at hKt ⊢
      exact wp_load_num _ rfl (w.heap.size) 8 rfl Y1 (pj_y ((hA.after hb))) (hKt _ (Below.refl _ _))
    · intro v w' hb hf K hKt
      simp only [putAll, Act.put, List.setIfInBounds_toArray, List.set_cons_zero, List.set_cons_succ, Nat.zero_add, Nat.reduceAdd] at hKt ⊢
      go_simp
      exact hKt _ (Below.refl _ _)
    · intro v w' hb hf K hKt
      have f9 : v 9 = _ := hf ⟨9, .data⟩ (by simp) rfl
      simp only [putAll, Act.put, List.setIfInBounds_toArray, List.set_cons_zero, List.set_cons_succ, Nat.zero_add, Nat.reduceAdd] at hKt ⊢
      rw [f9] at hKt ⊢
      exact wp_load_num _ rfl (w.heap.size + 1) 8 rfl Y2 (pj_y ((hB.after hb))) (hKt _ (Below.refl _ _))
    · intro v w' hb hf K hKt
      have f6 : v 6 = _ := hf ⟨6, .data⟩ (by simp) rfl
      have f8 : v 8 = _ := hf ⟨8, .data⟩ (by simp) rfl
      have f10 : v 10 = _ := hf ⟨10, .data⟩ (by simp) rfl
      simp only [putAll, Act.put, List.setIfInBounds_toArray, List.set_cons_zero, List.set_cons_succ, Nat.zero_add, Nat.reduceAdd] at hKt ⊢
      rw [f6, f8, f10] at hKt ⊢
      go_simp
      refine (kv2 w' (below_trans hb0 hb)).mono ?_
      rintro e w'' ⟨rfl, hb2⟩
      exact hKt _ hb2
    · intro v w' hb hf K hKt
      simp only [putAll, Act.put, List.setIfInBounds_toArray, List.set_cons_zero, List.set_cons_succ, Nat.zero_add, Nat.reduceAdd] at hKt ⊢
      go_simp
      exact hKt _ (Below.refl _ _)
    · intro v w' hb hf K hKt
      simp only [putAll, Act.put, List.setIfInBounds_toArray, List.set_cons_zero, List.set_cons_succ, Nat.zero_add, Nat.reduceAdd] at hKt ⊢
      go_simp
      exact hKt _ (Below.refl _ _)
    · intro v w' hb hf K hKt
      have f13 : v 13 = _ := hf ⟨13, .data⟩ (by simp) rfl
      simp only [putAll, Act.put, List.setIfInBounds_toArray, List.set_cons_zero, List.set_cons_succ, Nat.zero_add, Nat.reduceAdd] at hKt ⊢
      rw [f13] at hKt ⊢
      exact wp_load_num _ rfl (w.heap.size) 16 rfl Z1 (pj_z ((hA.after hb))) (hKt _ (Below.refl _ _))
    · intro v w' hb hf K hKt
      simp only [putAll, Act.put, List.setIfInBounds_toArray, List.set_cons_zero, List.set_cons_succ, Nat.zero_add, Nat.reduceAdd] at hKt ⊢
      go_simp
      exact hKt _ (Below.refl _ _)
    · intro v w' hb hf K hKt
      have f15 : v 15 = _ := hf ⟨15, .data⟩ (by simp) rfl
      simp only [putAll, Act.put, List.setIfInBounds_toArray, List.set_cons_zero, List.set_cons_succ, Nat.zero_add, Nat.reduceAdd] at hKt ⊢
      rw [f15] at hKt ⊢
      exact wp_load_num _ rfl (w.heap.size + 1) 16 rfl Z2 (pj_z ((hB.after hb))) (hKt _ (Below.refl _ _))
    · intro v w' hb hf K hKt
      have f12 : v 12 = _ := hf ⟨12, .data⟩ (by simp) rfl
      have f14 : v 14 = _ := hf ⟨14, .data⟩ (by simp) rfl
      have f16 : v 16 = _ := hf ⟨16, .data⟩ (by simp) rfl
      simp only [putAll, Act.put, List.setIfInBounds_toArray, List.set_cons_zero, List.set_cons_succ, Nat.zero_add, Nat.reduceAdd] at hKt ⊢
      rw [f12, f14, f16] at hKt ⊢
      go_simp
      refine (kv3 w' (below_trans hb0 hb)).mono ?_
      rintro e w'' ⟨rfl, hb2⟩
      exact hKt _ hb2
    · exact ⟨rfl, rfl, zeroVN⟩
    · exact ⟨rfl, rfl, zeroVN⟩
    · exact ⟨rfl, rfl, zeroVN⟩
  intro v u1 hb hF hD
  have f0 : v 0 = _ := hF 0 (by decide)
  have f1 : v 1 = _ := hF 1 (by decide)
  have f2 : v 2 = _ := hF 2 (by decide)
  have f3 : v 3 = _ := hF 3 (by decide)
  have f4 : v 4 = _ := hF 4 (by decide)
  have f5 : v 5 = _ := hF 5 (by decide)
  have f6 : v 6 = _ := hF 6 (by decide)
  have f7 : v 7 = _ := hF 7 (by decide)
  have f8 : v 8 = _ := hF 8 (by decide)
  have f9 : v 9 = _ := hF 9 (by decide)
  have f10 : v 10 = _ := hF 10 (by decide)
  have f11 : v 11 = _ := hF 11 (by decide)
  have f12 : v 12 = _ := hF 12 (by decide)
  have f13 : v 13 = _ := hF 13 (by decide)
  have f14 : v 14 = _ := hF 14 (by decide)
  have f15 : v 15 = _ := hF 15 (by decide)
  have f16 : v 16 = _ := hF 16 (by decide)
  have f17 : v 17 = _ := hF 17 (by decide)
  obtain ⟨g1_18, f18, hg18, hl18, hz18⟩ := hF 18 (by decide)
  replace hz18 : Has u1 g1_18 30 (nums 0) := hz18
  obtain ⟨g1_19, f19, hg19, hl19, hz19⟩ := hF 19 (by decide)
  replace hz19 : Has u1 g1_19 30 (nums 0) := hz19
  obtain ⟨g1_20, f20, hg20, hl20, hz20⟩ := hF 20 (by decide)
  replace hz20 : Has u1 g1_20 30 (nums 0) := hz20
  have hne18_19 : g1_18 ≠ g1_19 := fun h => hD 18 19 (by decide) (by decide) (by decide) rfl rfl (by rw [f18, f19, h])
  have hne18_20 : g1_18 ≠ g1_20 := fun h => hD 18 20 (by decide) (by decide) (by decide) rfl rfl (by rw [f18, f20, h])
  have hne19_20 : g1_19 ≠ g1_20 := fun h => hD 19 20 (by decide) (by decide) (by decide) rfl rfl (by rw [f19, f20, h])
  simp only [List.take_succ_cons, List.take_zero, List.drop_succ_cons, List.drop_zero, putAll, Act.put, List.setIfInBounds_toArray, List.set_cons_zero, List.set_cons_succ, Nat.zero_add, Nat.reduceAdd]
  rw [f0, f1, f2, f3, f4, f5, f6, f7, f8, f9, f10, f11, f12, f13, f14, f15, f16, f17, f18, f19, f20]
  clear hF hD f0 f1 f2 f3 f4 f5 f6 f7 f8 f9 f10 f11 f12 f13 f14 f15 f16 f17 f18 f19 f20
  have hs18 := hz18
  have hs19 := (hz19).farRow (k := g1_18) (by omega) (nums (v1))
  have hs20 := ((hz20).farRow (k := g1_18) (by omega) (nums (v1))).farRow (k := g1_19) (by omega) (nums (v2))
  have hBW := below_setRow (below_setRow (below_setRow (hb) (g := g1_18) hg18 (nums (v1))) (g := g1_19) hg19 (nums (v2))) (g := g1_20) hg20 (nums (v3))
  have hv_v1 := (((hz18).setRow (nums (v1))).farRow (k := g1_19) (by omega) (nums (v2))).farRow (k := g1_20) (by omega) (nums (v3))
  have hv_v2 := (((hz19).farRow (k := g1_18) (by omega) (nums (v1))).setRow (nums (v2))).farRow (k := g1_20) (by omega) (nums (v3))
  have hv_v3 := (((hz20).farRow (k := g1_18) (by omega) (nums (v1))).farRow (k := g1_19) (by omega) (nums (v2))).setRow (nums (v3))
  replace hR := hR.after hBW
  replace hA := hA.after hBW
  replace hB := hB.after hBW
  replace hG := hG.after hBW
  replace hb0 := below_trans hb0 hBW
  go_wp2_with (first | refine wpList_store_row rfl 30 _ _ rfl g1_18 _ rfl rfl 30 (nums 0) hs18 (infoNum _) (by simp only [nums_size]) (tab_oneCell _ _ fun _ => rfl) ?_ | refine wpList_store_row rfl 30 _ _ rfl g1_19 _ rfl rfl 30 (nums 0) hs19 (infoNum _) (by simp only [nums_size]) (tab_oneCell _ _ fun _ => rfl) ?_ | (refine wpList_store_row rfl 30 _ _ rfl g1_20 _ rfl rfl 30 (nums 0) hs20 (infoNum _) (by simp only [nums_size]) (tab_oneCell _ _ fun _ => rfl) ?_; generalize hWW : World.setRow _ g1_20 _ = U1 at *; clear hWW))
  clear hBW hb hs18 hz18 hl18 hs19 hz19 hl19 hs20 hz20 hl20
  have ohv_v1_2 := hv_v1.lt
  have ohv_v2_2 := hv_v2.lt
  have ohv_v3_2 := hv_v3.lt
  have ohR_2 := hR.lt
  have ohA_2 := hA.lt
  have ohB_2 := hB.lt
  have ohG_2 := hG.lt
  refine region_facts 15 [] [.val (.pointer (some ⟨g, 0, none⟩)), .val (.pointer (some ⟨w.heap.size, 0, none⟩)), .val (.agg (nums (X1))), .val (.pointer (some ⟨w.heap.size, 8, none⟩)), .val (.agg (nums (Y1))), .val (.pointer (some ⟨w.heap.size + 1, 0, none⟩)), .val (.agg (nums (X2))), .val (.pointer (some ⟨w.heap.size + 1, 8, none⟩)), .val (.agg (nums (Y2))), .val (.pointer (some ⟨f, 0, none⟩)), .val (.agg (nums (v1))), .val (.agg (nums (v2))), .val (.agg (nums (v4))), .val (.agg (nums (v5))), .new 30 (nums 0)]
    (by kernel_rfl) (by kernel_rfl) (fun _ _ _ _ _ h => h) ?_ ?_
  · simp only [List.take_succ_cons, List.take_zero, StepsOK]
    refine ⟨?_, ?_, ?_, ?_, ?_, ?_, ?_, ?_, ?_, ?_, ?_, ?_, ?_, ?_, ?_, trivial⟩
    · intro v w' hb hf K hKt
      simp only [putAll, Act.put, List.setIfInBounds_toArray, List.set_cons_zero, List.set_cons_succ, Nat.zero_add, Nat.reduceAdd] at hKt ⊢
      go_simp
      exact hKt _ (Below.refl _ _)
    · intro v w' hb hf K hKt
      simp only [putAll, Act.put, List.setIfInBounds_toArray, List.set_cons_zero, List.set_cons_succ, Nat.zero_add, Nat.reduceAdd] at hKt ⊢
      go_simp
      exact hKt _ (Below.refl _ _)
    · intro v w' hb hf K hKt
      have f1 : v 1 = _ := hf ⟨1, .data⟩ (by simp) rfl
      simp only [putAll, Act.put, List.setIfInBounds_toArray, List.set_cons_zero, List.set_cons_succ, Nat.zero_add, Nat.reduceAdd] at hKt ⊢
      rw [f1] at hKt ⊢
      exact wp_load_num _ rfl (w.heap.size) 0 rfl X1 (pj_x ((hA.after hb))) (hKt _ (Below.refl _ _))
    · intro v w' hb hf K hKt
      simp only [putAll, Act.put, List.setIfInBounds_toArray, List.set_cons_zero, List.set_cons_succ, Nat.zero_add, Nat.reduceAdd] at hKt ⊢
      go_simp
      exact hKt _ (Below.refl _ _)
    · intro v w' hb hf K hKt
      have f3 : v 3 = _ := hf ⟨3, .data⟩ (by simp) rfl
      simp only [putAll, Act.put, List.setIfInBounds_toArray, List.set_cons_zero, List.set_cons_succ, Nat.zero_add, Nat.reduceAdd] at hKt ⊢
      rw [f3] at hKt ⊢
      exact wp_load_num _ rfl (w.heap.size) 8 rfl Y1 (pj_y ((hA.after hb))) (hKt _ (Below.refl _ _))
    · intro v w' hb hf K hKt
      simp only [putAll, Act.put, List.setIfInBounds_toArray, List.set_cons_zero, List.set_cons_succ, Nat.zero_add, Nat.reduceAdd] at hKt ⊢
      go_simp
      exact hKt _ (Below.refl _ _)
    · intro v w' hb hf K hKt
      have f5 : v 5 = _ := hf ⟨5, .data⟩ (by simp) rfl
      simp only [putAll, Act.put, List.setIfInBounds_toArray, List.set_cons_zero, List.set_cons_succ, Nat.zero_add, Nat.reduceAdd] at hKt ⊢
      rw [f5] at hKt ⊢
      exact wp_load_num _ rfl (w.heap.size + 1) 0 rfl X2 (pj_x ((hB.after hb))) (hKt _ (Below.refl _ _))
    · intro v w' hb hf K hKt
      simp only [putAll, Act.put, List.setIfInBounds_toArray, List.set_cons_zero, List.set_cons_succ, Nat.zero_add, Nat.reduceAdd] at hKt ⊢
      go_simp
      exact hKt _ (Below.refl _ _)
    · intro v w' hb hf K hKt
      have f7 : v 7 = _ := hf ⟨7, .data⟩ (by simp) rfl
      simp only [putAll, Act.put, List.setIfInBounds_toArray, List.set_cons_zero, List.set_cons_succ, Nat.zero_add, Nat.reduceAdd] at hKt ⊢
      rw [f7] at hKt ⊢
      exact wp_load_num _ rfl (w.heap.size + 1) 8 rfl Y2 (pj_y ((hB.after hb))) (hKt _ (Below.refl _ _))
    · intro v w' hb hf K hKt
      simp only [putAll, Act.put, List.setIfInBounds_toArray, List.set_cons_zero, List.set_cons_succ, Nat.zero_add, Nat.reduceAdd] at hKt ⊢
      go_simp
      exact hKt _ (Below.refl _ _)
    · intro v w' hb hf K hKt
      simp only [putAll, Act.put, List.setIfInBounds_toArray, List.set_cons_zero, List.set_cons_succ, Nat.zero_add, Nat.reduceAdd] at hKt ⊢
      exact wp_load_row 30 _ rfl (g1_18) rfl 30 _ (0, 0) _ (hv_v1.after hb) Tryd.underlying30 rfl (infoNum _) (hKt _ (Below.refl _ _))
    · intro v w' hb hf K hKt
      simp only [putAll, Act.put, List.setIfInBounds_toArray, List.set_cons_zero, List.set_cons_succ, Nat.zero_add, Nat.reduceAdd] at hKt ⊢
      exact wp_load_row 30 _ rfl (g1_19) rfl 30 _ (0, 0) _ (hv_v2.after hb) Tryd.underlying30 rfl (infoNum _) (hKt _ (Below.refl _ _))
    · intro v w' hb hf K hKt
      have f9 : v 9 = _ := hf ⟨9, .data⟩ (by simp) rfl
      have f10 : v 10 = _ := hf ⟨10, .data⟩ (by simp) rfl
      have f11 : v 11 = _ := hf ⟨11, .data⟩ (by simp) rfl
      simp only [putAll, Act.put, List.setIfInBounds_toArray, List.set_cons_zero, List.set_cons_succ, Nat.zero_add, Nat.reduceAdd] at hKt ⊢
      rw [f9, f10, f11] at hKt ⊢
      go_simp
      refine (kv4 w' (below_trans hb0 hb)).mono ?_
      rintro e w'' ⟨rfl, hb2⟩
      exact hKt _ hb2
    · intro v w' hb hf K hKt
      have f0 : v 0 = _ := hf ⟨0, .data⟩ (by simp) rfl
      have f2 : v 2 = _ := hf ⟨2, .data⟩ (by simp) rfl
      have f4 : v 4 = _ := hf ⟨4, .data⟩ (by simp) rfl
      have f6 : v 6 = _ := hf ⟨6, .data⟩ (by simp) rfl
      have f8 : v 8 = _ := hf ⟨8, .data⟩ (by simp) rfl
      have f12 : v 12 = _ := hf ⟨12, .data⟩ (by simp) rfl
      simp only [putAll, Act.put, List.setIfInBounds_toArray, List.set_cons_zero, List.set_cons_succ, Nat.zero_add, Nat.reduceAdd] at hKt ⊢
      rw [f0, f2, f4, f6, f8, f12] at hKt ⊢
      go_simp
      refine (kv5 w' (below_trans hb0 hb)).mono ?_
      rintro e w'' ⟨rfl, hb2⟩
      exact hKt _ hb2
    · exact ⟨rfl, rfl, zeroVN⟩
  intro v u2 hb hF hD
  have f0 : v 0 = _ := hF 0 (by decide)
  have f1 : v 1 = _ := hF 1 (by decide)
  have f2 : v 2 = _ := hF 2 (by decide)
  have f3 : v 3 = _ := hF 3 (by decide)
  have f4 : v 4 = _ := hF 4 (by decide)
  have f5 : v 5 = _ := hF 5 (by decide)
  have f6 : v 6 = _ := hF 6 (by decide)
  have f7 : v 7 = _ := hF 7 (by decide)
  have f8 : v 8 = _ := hF 8 (by decide)
  have f9 : v 9 = _ := hF 9 (by decide)
  have f10 : v 10 = _ := hF 10 (by decide)
  have f11 : v 11 = _ := hF 11 (by decide)
  have f12 : v 12 = _ := hF 12 (by decide)
  have f13 : v 13 = _ := hF 13 (by decide)
  obtain ⟨g2_14, f14, hg14, hl14, hz14⟩ := hF 14 (by decide)
  replace hz14 : Has u2 g2_14 30 (nums 0) := hz14
  simp only [List.take_succ_cons, List.take_zero, List.drop_succ_cons, List.drop_zero, putAll, Act.put, List.setIfInBounds_toArray, List.set_cons_zero, List.set_cons_succ, Nat.zero_add, Nat.reduceAdd]
  rw [f0, f1, f2, f3, f4, f5, f6, f7, f8, f9, f10, f11, f12, f13, f14]
  clear hF hD f0 f1 f2 f3 f4 f5 f6 f7 f8 f9 f10 f11 f12 f13 f14
  have hs14 := hz14
  have hBW := below_setRow (hb) (g := g2_14) hg14 (nums (v5))
  have hv_v5 := (hz14).setRow (nums (v5))
  replace hv_v1 := hv_v1.after hBW
  replace hv_v2 := hv_v2.after hBW
  replace hv_v3 := hv_v3.after hBW
  replace hR := hR.after hBW
  replace hA := hA.after hBW
  replace hB := hB.after hBW
  replace hG := hG.after hBW
  replace hb0 := below_trans hb0 hBW
  go_wp2_with (first | (refine wpList_store_row rfl 30 _ _ rfl g2_14 _ rfl rfl 30 (nums 0) hs14 (infoNum _) (by simp only [nums_size]) (tab_oneCell _ _ fun _ => rfl) ?_; generalize hWW : World.setRow _ g2_14 _ = U2 at *; clear hWW))
  clear hBW hb hs14 hz14 hl14
  have ohv_v1_3 := hv_v1.lt
  have ohv_v2_3 := hv_v2.lt
  have ohv_v3_3 := hv_v3.lt
  have ohv_v5_3 := hv_v5.lt
  have ohR_3 := hR.lt
  have ohA_3 := hA.lt
  have ohB_3 := hB.lt
  have ohG_3 := hG.lt
  refine region_facts 15 [] [.val (.pointer (some ⟨g, 0, none⟩)), .val (.pointer (some ⟨w.heap.size, 8, none⟩)), .val (.agg (nums (Y1))), .val (.pointer (some ⟨w.heap.size, 16, none⟩)), .val (.agg (nums (Z1))), .val (.pointer (some ⟨w.heap.size + 1, 8, none⟩)), .val (.agg (nums (Y2))), .val (.pointer (some ⟨w.heap.size + 1, 16, none⟩)), .val (.agg (nums (Z2))), .val (.pointer (some ⟨f, 0, none⟩)), .val (.agg (nums (v2))), .val (.agg (nums (v3))), .val (.agg (nums (v6))), .val (.agg (nums (v7))), .new 30 (nums 0)]
    (by kernel_rfl) (by kernel_rfl) (fun _ _ _ _ _ h => h) ?_ ?_
  · simp only [List.take_succ_cons, List.take_zero, StepsOK]
    refine ⟨?_, ?_, ?_, ?_, ?_, ?_, ?_, ?_, ?_, ?_, ?_, ?_, ?_, ?_, ?_, trivial⟩
    · intro v w' hb hf K hKt
      simp only [putAll, Act.put, List.setIfInBounds_toArray, List.set_cons_zero, List.set_cons_succ, Nat.zero_add, Nat.reduceAdd] at hKt ⊢
      go_simp
      exact hKt _ (Below.refl _ _)
    · intro v w' hb hf K hKt
      simp only [putAll, Act.put, List.setIfInBounds_toArray, List.set_cons_zero, List.set_cons_succ, Nat.zero_add, Nat.reduceAdd] at hKt ⊢
      go_simp
      exact hKt _ (Below.refl _ _)
    · intro v w' hb hf K hKt
      have f1 : v 1 = _ := hf ⟨1, .data⟩ (by simp) rfl
      simp only [putAll, Act.put, List.setIfInBounds_toArray, List.set_cons_zero, List.set_cons_succ, Nat.zero_add, Nat.reduceAdd] at hKt ⊢
      rw [f1] at hKt ⊢
      exact wp_load_num _ rfl (w.heap.size) 8 rfl Y1 (pj_y ((hA.after hb))) (hKt _ (Below.refl _ _))
    · intro v w' hb hf K hKt
      simp only [putAll, Act.put, List.setIfInBounds_toArray, List.set_cons_zero, List.set_cons_succ, Nat.zero_add, Nat.reduceAdd] at hKt ⊢
      go_simp
      exact hKt _ (Below.refl _ _)
    · intro v w' hb hf K hKt
      have f3 : v 3 = _ := hf ⟨3, .data⟩ (by simp) rfl
      simp only [putAll, Act.put, List.setIfInBounds_toArray, List.set_cons_zero, List.set_cons_succ, Nat.zero_add, Nat.reduceAdd] at hKt ⊢
      rw [f3] at hKt ⊢
      exact wp_load_num _ rfl (w.heap.size) 16 rfl Z1 (pj_z ((hA.after hb))) (hKt _ (Below.refl _ _))
    · intro v w' hb hf K hKt
      simp only [putAll, Act.put, List.setIfInBounds_toArray, List.set_cons_zero, List.set_cons_succ, Nat.zero_add, Nat.reduceAdd] at hKt ⊢
      go_simp
      exact hKt _ (Below.refl _ _)
    · intro v w' hb hf K hKt
      have f5 : v 5 = _ := hf ⟨5, .data⟩ (by simp) rfl
      simp only [putAll, Act.put, List.setIfInBounds_toArray, List.set_cons_zero, List.set_cons_succ, Nat.zero_add, Nat.reduceAdd] at hKt ⊢
      rw [f5] at hKt ⊢
      exact wp_load_num _ rfl (w.heap.size + 1) 8 rfl Y2 (pj_y ((hB.after hb))) (hKt _ (Below.refl _ _))
    · intro v w' hb hf K hKt
      simp only [putAll, Act.put, List.setIfInBounds_toArray, List.set_cons_zero, List.set_cons_succ, Nat.zero_add, Nat.reduceAdd] at hKt ⊢
      go_simp
      exact hKt _ (Below.refl _ _)
    · intro v w' hb hf K hKt
      have f7 : v 7 = _ := hf ⟨7, .data⟩ (by simp) rfl
      simp only [putAll, Act.put, List.setIfInBounds_toArray, List.set_cons_zero, List.set_cons_succ, Nat.zero_add, Nat.reduceAdd] at hKt ⊢
      rw [f7] at hKt ⊢
      exact wp_load_num _ rfl (w.heap.size + 1) 16 rfl Z2 (pj_z ((hB.after hb))) (hKt _ (Below.refl _ _))
    · intro v w' hb hf K hKt
      simp only [putAll, Act.put, List.setIfInBounds_toArray, List.set_cons_zero, List.set_cons_succ, Nat.zero_add, Nat.reduceAdd] at hKt ⊢
      go_simp
      exact hKt _ (Below.refl _ _)
    · intro v w' hb hf K hKt
      simp only [putAll, Act.put, List.setIfInBounds_toArray, List.set_cons_zero, List.set_cons_succ, Nat.zero_add, Nat.reduceAdd] at hKt ⊢
      exact wp_load_row 30 _ rfl (g1_19) rfl 30 _ (0, 0) _ (hv_v2.after hb) Tryd.underlying30 rfl (infoNum _) (hKt _ (Below.refl _ _))
    · intro v w' hb hf K hKt
      simp only [putAll, Act.put, List.setIfInBounds_toArray, List.set_cons_zero, List.set_cons_succ, Nat.zero_add, Nat.reduceAdd] at hKt ⊢
      exact wp_load_row 30 _ rfl (g1_20) rfl 30 _ (0, 0) _ (hv_v3.after hb) Tryd.underlying30 rfl (infoNum _) (hKt _ (Below.refl _ _))
    · intro v w' hb hf K hKt
      have f9 : v 9 = _ := hf ⟨9, .data⟩ (by simp) rfl
      have f10 : v 10 = _ := hf ⟨10, .data⟩ (by simp) rfl
      have f11 : v 11 = _ := hf ⟨11, .data⟩ (by simp) rfl
      simp only [putAll, Act.put, List.setIfInBounds_toArray, List.set_cons_zero, List.set_cons_succ, Nat.zero_add, Nat.reduceAdd] at hKt ⊢
      rw [f9, f10, f11] at hKt ⊢
      go_simp
      refine (kv6 w' (below_trans hb0 hb)).mono ?_
      rintro e w'' ⟨rfl, hb2⟩
      exact hKt _ hb2
    · intro v w' hb hf K hKt
      have f0 : v 0 = _ := hf ⟨0, .data⟩ (by simp) rfl
      have f2 : v 2 = _ := hf ⟨2, .data⟩ (by simp) rfl
      have f4 : v 4 = _ := hf ⟨4, .data⟩ (by simp) rfl
      have f6 : v 6 = _ := hf ⟨6, .data⟩ (by simp) rfl
      have f8 : v 8 = _ := hf ⟨8, .data⟩ (by simp) rfl
      have f12 : v 12 = _ := hf ⟨12, .data⟩ (by simp) rfl
      simp only [putAll, Act.put, List.setIfInBounds_toArray, List.set_cons_zero, List.set_cons_succ, Nat.zero_add, Nat.reduceAdd] at hKt ⊢
      rw [f0, f2, f4, f6, f8, f12] at hKt ⊢
      go_simp
      refine (kv7 w' (below_trans hb0 hb)).mono ?_
      rintro e w'' ⟨rfl, hb2⟩
      exact hKt _ hb2
    · exact ⟨rfl, rfl, zeroVN⟩
  intro v u3 hb hF hD
  have f0 : v 0 = _ := hF 0 (by decide)
  have f1 : v 1 = _ := hF 1 (by decide)
  have f2 : v 2 = _ := hF 2 (by decide)
  have f3 : v 3 = _ := hF 3 (by decide)
  have f4 : v 4 = _ := hF 4 (by decide)
  have f5 : v 5 = _ := hF 5 (by decide)
  have f6 : v 6 = _ := hF 6 (by decide)
  have f7 : v 7 = _ := hF 7 (by decide)
  have f8 : v 8 = _ := hF 8 (by decide)
  have f9 : v 9 = _ := hF 9 (by decide)
  have f10 : v 10 = _ := hF 10 (by decide)
  have f11 : v 11 = _ := hF 11 (by decide)
  have f12 : v 12 = _ := hF 12 (by decide)
  have f13 : v 13 = _ := hF 13 (by decide)
  obtain ⟨g3_14, f14, hg14, hl14, hz14⟩ := hF 14 (by decide)
  replace hz14 : Has u3 g3_14 30 (nums 0) := hz14
  simp only [List.take_succ_cons, List.take_zero, List.drop_succ_cons, List.drop_zero, putAll, Act.put, List.setIfInBounds_toArray, List.set_cons_zero, List.set_cons_succ, Nat.zero_add, Nat.reduceAdd]
  rw [f0, f1, f2, f3, f4, f5, f6, f7, f8, f9, f10, f11, f12, f13, f14]
  clear hF hD f0 f1 f2 f3 f4 f5 f6 f7 f8 f9 f10 f11 f12 f13 f14
  have hs14 := hz14
  have hBW := below_setRow (hb) (g := g3_14) hg14 (nums (v7))
  have hv_v7 := (hz14).setRow (nums (v7))
  replace hv_v1 := hv_v1.after hBW
  replace hv_v2 := hv_v2.after hBW
  replace hv_v3 := hv_v3.after hBW
  replace hv_v5 := hv_v5.after hBW
  replace hR := hR.after hBW
  replace hA := hA.after hBW
  replace hB := hB.after hBW
  replace hG := hG.after hBW
  replace hb0 := below_trans hb0 hBW
  go_wp2_with (first | (refine wpList_store_row rfl 30 _ _ rfl g3_14 _ rfl rfl 30 (nums 0) hs14 (infoNum _) (by simp only [nums_size]) (tab_oneCell _ _ fun _ => rfl) ?_; generalize hWW : World.setRow _ g3_14 _ = U3 at *; clear hWW))
  clear hBW hb hs14 hz14 hl14
  have ohv_v1_4 := hv_v1.lt
  have ohv_v2_4 := hv_v2.lt
  have ohv_v3_4 := hv_v3.lt
  have ohv_v5_4 := hv_v5.lt
  have ohv_v7_4 := hv_v7.lt
  have ohR_4 := hR.lt
  have ohA_4 := hA.lt
  have ohB_4 := hB.lt
  have ohG_4 := hG.lt
  refine region_facts 15 [] [.val (.pointer (some ⟨g, 0, none⟩)), .val (.pointer (some ⟨w.heap.size, 0, none⟩)), .val (.agg (nums (X1))), .val (.pointer (some ⟨w.heap.size, 16, none⟩)), .val (.agg (nums (Z1))), .val (.pointer (some ⟨w.heap.size + 1, 0, none⟩)), .val (.agg (nums (X2))), .val (.pointer (some ⟨w.heap.size + 1, 16, none⟩)), .val (.agg (nums (Z2))), .val (.pointer (some ⟨f, 0, none⟩)), .val (.agg (nums (v1))), .val (.agg (nums (v3))), .val (.agg (nums (v8))), .val (.agg (nums (v9))), .new 30 (nums 0)]
    (by kernel_rfl) (by kernel_rfl) (fun _ _ _ _ _ h => h) ?_ ?_
  · simp only [List.take_succ_cons, List.take_zero, StepsOK]
    refine ⟨?_, ?_, ?_, ?_, ?_, ?_, ?_, ?_, ?_, ?_, ?_, ?_, ?_, ?_, ?_, trivial⟩
    · intro v w' hb hf K hKt
      simp only [putAll, Act.put, List.setIfInBounds_toArray, List.set_cons_zero, List.set_cons_succ, Nat.zero_add, Nat.reduceAdd] at hKt ⊢
      go_simp
      exact hKt _ (Below.refl _ _)
    · intro v w' hb hf K hKt
      simp only [putAll, Act.put, List.setIfInBounds_toArray, List.set_cons_zero, List.set_cons_succ, Nat.zero_add, Nat.reduceAdd] at hKt ⊢
      go_simp
      exact hKt _ (Below.refl _ _)
    · intro v w' hb hf K hKt
      have f1 : v 1 = _ := hf ⟨1, .data⟩ (by simp) rfl
      simp only [putAll, Act.put, List.setIfInBounds_toArray, List.set_cons_zero, List.set_cons_succ, Nat.zero_add, Nat.reduceAdd] at hKt ⊢
      rw [f1] at hKt ⊢
      exact wp_load_num _ rfl (w.heap.size) 0 rfl X1 (pj_x ((hA.after hb))) (hKt _ (Below.refl _ _))
    · intro v w' hb hf K hKt
      simp only [putAll, Act.put, List.setIfInBounds_toArray, List.set_cons_zero, List.set_cons_succ, Nat.zero_add, Nat.reduceAdd] at hKt ⊢
      go_simp
      exact hKt _ (Below.refl _ _)
    · intro v w' hb hf K hKt
      have f3 : v 3 = _ := hf ⟨3, .data⟩ (by simp) rfl
      simp only [putAll, Act.put, List.setIfInBounds_toArray, List.set_cons_zero, List.set_cons_succ, Nat.zero_add, Nat.reduceAdd] at hKt ⊢
      rw [f3] at hKt ⊢
      exact wp_load_num _ rfl (w.heap.size) 16 rfl Z1 (pj_z ((hA.after hb))) (hKt _ (Below.refl _ _))
    · intro v w' hb hf K hKt
      simp only [putAll, Act.put, List.setIfInBounds_toArray, List.set_cons_zero, List.set_cons_succ, Nat.zero_add, Nat.reduceAdd] at hKt ⊢
      go_simp
      exact hKt _ (Below.refl _ _)
    · intro v w' hb hf K hKt
      have f5 : v 5 = _ := hf ⟨5, .data⟩ (by simp) rfl
      simp only [putAll, Act.put, List.setIfInBounds_toArray, List.set_cons_zero, List.set_cons_succ, Nat.zero_add, Nat.reduceAdd] at hKt ⊢
      rw [f5] at hKt ⊢
      exact wp_load_num _ rfl (w.heap.size + 1) 0 rfl X2 (pj_x ((hB.after hb))) (hKt _ (Below.refl _ _))
    · intro v w' hb hf K hKt
      simp only [putAll, Act.put, List.setIfInBounds_toArray, List.set_cons_zero, List.set_cons_succ, Nat.zero_add, Nat.reduceAdd] at hKt ⊢
      go_simp
      exact hKt _ (Below.refl _ _)
    · intro v w' hb hf K hKt
      have f7 : v 7 = _ := hf ⟨7, .data⟩ (by simp) rfl
      simp only [putAll, Act.put, List.setIfInBounds_toArray, List.set_cons_zero, List.set_cons_succ, Nat.zero_add, Nat.reduceAdd] at hKt ⊢
      rw [f7] at hKt ⊢
      exact wp_load_num _ rfl (w.heap.size + 1) 16 rfl Z2 (pj_z ((hB.after hb))) (hKt _ (Below.refl _ _))
    · intro v w' hb hf K hKt
      simp only [putAll, Act.put, List.setIfInBounds_toArray, List.set_cons_zero, List.set_cons_succ, Nat.zero_add, Nat.reduceAdd] at hKt ⊢
      go_simp
      exact hKt _ (Below.refl _ _)
    · intro v w' hb hf K hKt
      simp only [putAll, Act.put, List.setIfInBounds_toArray, List.set_cons_zero, List.set_cons_succ, Nat.zero_add, Nat.reduceAdd] at hKt ⊢
      exact wp_load_row 30 _ rfl (g1_18) rfl 30 _ (0, 0) _ (hv_v1.after hb) Tryd.underlying30 rfl (infoNum _) (hKt _ (Below.refl _ _))
    · intro v w' hb hf K hKt
      simp only [putAll, Act.put, List.setIfInBounds_toArray, List.set_cons_zero, List.set_cons_succ, Nat.zero_add, Nat.reduceAdd] at hKt ⊢
      exact wp_load_row 30 _ rfl (g1_20) rfl 30 _ (0, 0) _ (hv_v3.after hb) Tryd.underlying30 rfl (infoNum _) (hKt _ (Below.refl _ _))
    · intro v w' hb hf K hKt
      have f9 : v 9 = _ := hf ⟨9, .data⟩ (by simp) rfl
      have f10 : v 10 = _ := hf ⟨10, .data⟩ (by simp) rfl
      have f11 : v 11 = _ := hf ⟨11, .data⟩ (by simp) rfl
      simp only [putAll, Act.put, List.setIfInBounds_toArray, List.set_cons_zero, List.set_cons_succ, Nat.zero_add, Nat.reduceAdd] at hKt ⊢
      rw [f9, f10, f11] at hKt ⊢
      go_simp
      refine (kv8 w' (below_trans hb0 hb)).mono ?_
      rintro e w'' ⟨rfl, hb2⟩
      exact hKt _ hb2
    · intro v w' hb hf K hKt
      have f0 : v 0 = _ := hf ⟨0, .data⟩ (by simp) rfl
      have f2 : v 2 = _ := hf ⟨2, .data⟩ (by simp) rfl
      have f4 : v 4 = _ := hf ⟨4, .data⟩ (by simp) rfl
      have f6 : v 6 = _ := hf ⟨6, .data⟩ (by simp) rfl
      have f8 : v 8 = _ := hf ⟨8, .data⟩ (by simp) rfl
      have f12 : v 12 = _ := hf ⟨12, .data⟩ (by simp) rfl
      simp only [putAll, Act.put, List.setIfInBounds_toArray, List.set_cons_zero, List.set_cons_succ, Nat.zero_add, Nat.reduceAdd] at hKt ⊢
      rw [f0, f2, f4, f6, f8, f12] at hKt ⊢
      go_simp
      refine (kv9 w' (below_trans hb0 hb)).mono ?_
      rintro e w'' ⟨rfl, hb2⟩
      exact hKt _ hb2
    · exact ⟨rfl, rfl, zeroVN⟩
  intro v u4 hb hF hD
  have f0 : v 0 = _ := hF 0 (by decide)
  have f1 : v 1 = _ := hF 1 (by decide)
  have f2 : v 2 = _ := hF 2 (by decide)
  have f3 : v 3 = _ := hF 3 (by decide)
  have f4 : v 4 = _ := hF 4 (by decide)
  have f5 : v 5 = _ := hF 5 (by decide)
  have f6 : v 6 = _ := hF 6 (by decide)
  have f7 : v 7 = _ := hF 7 (by decide)
  have f8 : v 8 = _ := hF 8 (by decide)
  have f9 : v 9 = _ := hF 9 (by decide)
  have f10 : v 10 = _ := hF 10 (by decide)
  have f11 : v 11 = _ := hF 11 (by decide)
  have f12 : v 12 = _ := hF 12 (by decide)
  have f13 : v 13 = _ := hF 13 (by decide)
  obtain ⟨g4_14, f14, hg14, hl14, hz14⟩ := hF 14 (by decide)
  replace hz14 : Has u4 g4_14 30 (nums 0) := hz14
  simp only [List.take_succ_cons, List.take_zero, List.drop_succ_cons, List.drop_zero, putAll, Act.put, List.setIfInBounds_toArray, List.set_cons_zero, List.set_cons_succ, Nat.zero_add, Nat.reduceAdd]
  rw [f0, f1, f2, f3, f4, f5, f6, f7, f8, f9, f10, f11, f12, f13, f14]
  clear hF hD f0 f1 f2 f3 f4 f5 f6 f7 f8 f9 f10 f11 f12 f13 f14
  have hs14 := hz14
  have hBW := below_setRow (hb) (g := g4_14) hg14 (nums (v9))
  have hv_v9 := (hz14).setRow (nums (v9))
  replace hv_v1 := hv_v1.after hBW
  replace hv_v2 := hv_v2.after hBW
  replace hv_v3 := hv_v3.after hBW
  replace hv_v5 := hv_v5.after hBW
  replace hv_v7 := hv_v7.after hBW
  replace hR := hR.after hBW
  replace hA := hA.after hBW
  replace hB := hB.after hBW
  replace hG := hG.after hBW
  replace hb0 := below_trans hb0 hBW
  go_wp2_with (first | (refine wpList_store_row rfl 30 _ _ rfl g4_14 _ rfl rfl 30 (nums 0) hs14 (infoNum _) (by simp only [nums_size]) (tab_oneCell _ _ fun _ => rfl) ?_; generalize hWW : World.setRow _ g4_14 _ = U4 at *; clear hWW) | refine wpList_load_has 30 _ rfl _ rfl rfl 30 _ hv_v3 _ Tryd.underlying30 rfl (infoNum _) ?_)
  clear hBW hb hs14 hz14 hl14
  refine (kv10 _ hb0).mono ?_
  rintro e u5 ⟨rfl, hx⟩
  have ohv_v1_5 := (hv_v1.after hx).lt
  have ohv_v2_5 := (hv_v2.after hx).lt
  have ohv_v3_5 := (hv_v3.after hx).lt
  have ohv_v5_5 := (hv_v5.after hx).lt
  have ohv_v7_5 := (hv_v7.after hx).lt
  have ohv_v9_5 := (hv_v9.after hx).lt
  have hN := put_new u5 30 (nums 0) (nums v10)
  replace hv_v1 := (hv_v1.after hx).after hN.2
  replace hv_v2 := (hv_v2.after hx).after hN.2
  replace hv_v3 := (hv_v3.after hx).after hN.2
  replace hv_v5 := (hv_v5.after hx).after hN.2
  replace hv_v7 := (hv_v7.after hx).after hN.2
  replace hv_v9 := (hv_v9.after hx).after hN.2
  replace hR := (hR.after hx).after hN.2
  replace hA := (hA.after hx).after hN.2
  replace hB := (hB.after hx).after hN.2
  replace hG := (hG.after hx).after hN.2
  replace hb0 := below_trans (below_trans hb0 hx) hN.2
  have hv_v10 := hN.1
  clear hx hN
  go_wp2_with (first | (refine wpList_store_row rfl 30 _ _ rfl u5.heap.size _ rfl rfl 30 (nums 0) (Has.new' rfl) (infoNum _) (by simp only [nums_size]) (tab_oneCell _ _ fun _ => rfl) ?_; generalize hWW : World.setRow _ u5.heap.size _ = U5 at *; clear hWW))
  have ohv_v1_6 := hv_v1.lt
  have ohv_v2_6 := hv_v2.lt
  have ohv_v3_6 := hv_v3.lt
  have ohv_v5_6 := hv_v5.lt
  have ohv_v7_6 := hv_v7.lt
  have ohv_v9_6 := hv_v9.lt
  have ohv_v10_6 := hv_v10.lt
  have ohR_6 := hR.lt
  have ohA_6 := hA.lt
  have ohB_6 := hB.lt
  have ohG_6 := hG.lt
  refine region_facts 13 [] [.val (.pointer (some ⟨g, 0, none⟩)), .val (.pointer (some ⟨f, 0, none⟩)), .val (.agg (nums (v9))), .val (.pointer (some ⟨f, 0, none⟩)), .val (.pointer (some ⟨g, 0, none⟩)), .val (.pointer (some ⟨g, 0, none⟩)), .val (.pointer (some ⟨g, 1, none⟩)), .val (.agg (nums (bm))), .val (.agg (nums (v3))), .val (.agg (nums (v11))), .val (.agg (nums (v12))), .val (.agg (nums (v13))), .new 30 (nums 0)]
    (by kernel_rfl) (by kernel_rfl) (fun _ _ _ _ _ h => h) ?_ ?_
  · simp only [List.take_succ_cons, List.take_zero, StepsOK]
    refine ⟨?_, ?_, ?_, ?_, ?_, ?_, ?_, ?_, ?_, ?_, ?_, ?_, ?_, trivial⟩
    · intro v w' hb hf K hKt
      simp only [putAll, Act.put, List.setIfInBounds_toArray, List.set_cons_zero, List.set_cons_succ, Nat.zero_add, Nat.reduceAdd] at hKt ⊢
      go_simp
      exact hKt _ (Below.refl _ _)
    · intro v w' hb hf K hKt
      simp only [putAll, Act.put, List.setIfInBounds_toArray, List.set_cons_zero, List.set_cons_succ, Nat.zero_add, Nat.reduceAdd] at hKt ⊢
      go_simp
      exact hKt _ (Below.refl _ _)
    · intro v w' hb hf K hKt
      simp only [putAll, Act.put, List.setIfInBounds_toArray, List.set_cons_zero, List.set_cons_succ, Nat.zero_add, Nat.reduceAdd] at hKt ⊢
      exact wp_load_row 30 _ rfl (g4_14) rfl 30 _ (0, 0) _ (hv_v9.after hb) Tryd.underlying30 rfl (infoNum _) (hKt _ (Below.refl _ _))
    · intro v w' hb hf K hKt
      simp only [putAll, Act.put, List.setIfInBounds_toArray, List.set_cons_zero, List.set_cons_succ, Nat.zero_add, Nat.reduceAdd] at hKt ⊢
      go_simp
      exact hKt _ (Below.refl _ _)
    · intro v w' hb hf K hKt
      simp only [putAll, Act.put, List.setIfInBounds_toArray, List.set_cons_zero, List.set_cons_succ, Nat.zero_add, Nat.reduceAdd] at hKt ⊢
      go_simp
      exact hKt _ (Below.refl _ _)
    · intro v w' hb hf K hKt
      have f4 : v 4 = _ := hf ⟨4, .data⟩ (by simp) rfl
      simp only [putAll, Act.put, List.setIfInBounds_toArray, List.set_cons_zero, List.set_cons_succ, Nat.zero_add, Nat.reduceAdd] at hKt ⊢
      rw [f4] at hKt ⊢
      go_simp
      exact hKt _ (Below.refl _ _)
    · intro v w' hb hf K hKt
      have f5 : v 5 = _ := hf ⟨5, .data⟩ (by simp) rfl
      simp only [putAll, Act.put, List.setIfInBounds_toArray, List.set_cons_zero, List.set_cons_succ, Nat.zero_add, Nat.reduceAdd] at hKt ⊢
      rw [f5] at hKt ⊢
      go_simp
      exact hKt _ (Below.refl _ _)
    · intro v w' hb hf K hKt
      have f6 : v 6 = _ := hf ⟨6, .data⟩ (by simp) rfl
      simp only [putAll, Act.put, List.setIfInBounds_toArray, List.set_cons_zero, List.set_cons_succ, Nat.zero_add, Nat.reduceAdd] at hKt ⊢
      rw [f6] at hKt ⊢
      exact wp_load_num _ rfl (g) 1 rfl bm (crv_b ((hG.after hb))) (hKt _ (Below.refl _ _))
    · intro v w' hb hf K hKt
      simp only [putAll, Act.put, List.setIfInBounds_toArray, List.set_cons_zero, List.set_cons_succ, Nat.zero_add, Nat.reduceAdd] at hKt ⊢
      exact wp_load_row 30 _ rfl (g1_20) rfl 30 _ (0, 0) _ (hv_v3.after hb) Tryd.underlying30 rfl (infoNum _) (hKt _ (Below.refl _ _))
    · intro v w' hb hf K hKt
      have f3 : v 3 = _ := hf ⟨3, .data⟩ (by simp) rfl
      have f7 : v 7 = _ := hf ⟨7, .data⟩ (by simp) rfl
      have f8 : v 8 = _ := hf ⟨8, .data⟩ (by simp) rfl
      simp only [putAll, Act.put, List.setIfInBounds_toArray, List.set_cons_zero, List.set_cons_succ, Nat.zero_add, Nat.reduceAdd] at hKt ⊢
      rw [f3, f7, f8] at hKt ⊢
      go_simp
      refine (kv11 w' (below_trans hb0 hb)).mono ?_
      rintro e w'' ⟨rfl, hb2⟩
      exact hKt _ hb2
    · intro v w' hb hf K hKt
      have f1 : v 1 = _ := hf ⟨1, .data⟩ (by simp) rfl
      have f2 : v 2 = _ := hf ⟨2, .data⟩ (by simp) rfl
      have f9 : v 9 = _ := hf ⟨9, .data⟩ (by simp) rfl
      simp only [putAll, Act.put, List.setIfInBounds_toArray, List.set_cons_zero, List.set_cons_succ, Nat.zero_add, Nat.reduceAdd] at hKt ⊢
      rw [f1, f2, f9] at hKt ⊢
      go_simp
      refine (kv12 w' (below_trans hb0 hb)).mono ?_
      rintro e w'' ⟨rfl, hb2⟩
      exact hKt _ hb2
    · intro v w' hb hf K hKt
      have f0 : v 0 = _ := hf ⟨0, .data⟩ (by simp) rfl
      have f10 : v 10 = _ := hf ⟨10, .data⟩ (by simp) rfl
      simp only [putAll, Act.put, List.setIfInBounds_toArray, List.set_cons_zero, List.set_cons_succ, Nat.zero_add, Nat.reduceAdd] at hKt ⊢
      rw [f0, f10] at hKt ⊢
      go_simp
      refine (kv13 w' (below_trans hb0 hb)).mono ?_
      rintro e w'' ⟨rfl, hb2⟩
      exact hKt _ hb2
    · exact ⟨rfl, rfl, zeroVN⟩
  intro v u6 hb hF hD
  have f0 : v 0 = _ := hF 0 (by decide)
  have f1 : v 1 = _ := hF 1 (by decide)
  have f2 : v 2 = _ := hF 2 (by decide)
  have f3 : v 3 = _ := hF 3 (by decide)
  have f4 : v 4 = _ := hF 4 (by decide)
  have f5 : v 5 = _ := hF 5 (by decide)
  have f6 : v 6 = _ := hF 6 (by decide)
  have f7 : v 7 = _ := hF 7 (by decide)
  have f8 : v 8 = _ := hF 8 (by decide)
  have f9 : v 9 = _ := hF 9 (by decide)
  have f10 : v 10 = _ := hF 10 (by decide)
  have f11 : v 11 = _ := hF 11 (by decide)
  obtain ⟨g6_12, f12, hg12, hl12, hz12⟩ := hF 12 (by decide)
  replace hz12 : Has u6 g6_12 30 (nums 0) := hz12
  simp only [List.take_succ_cons, List.take_zero, List.drop_succ_cons, List.drop_zero, putAll, Act.put, List.setIfInBounds_toArray, List.set_cons_zero, List.set_cons_succ, Nat.zero_add, Nat.reduceAdd]
  rw [f0, f1, f2, f3, f4, f5, f6, f7, f8, f9, f10, f11, f12]
  clear hF hD f0 f1 f2 f3 f4 f5 f6 f7 f8 f9 f10 f11 f12
  have hs12 := hz12
  have hBW := below_setRow (hb) (g := g6_12) hg12 (nums (v13))
  have hv_v13 := (hz12).setRow (nums (v13))
  replace hv_v1 := hv_v1.after hBW
  replace hv_v10 := hv_v10.after hBW
  replace hv_v2 := hv_v2.after hBW
  replace hv_v3 := hv_v3.after hBW
  replace hv_v5 := hv_v5.after hBW
  replace hv_v7 := hv_v7.after hBW
  replace hv_v9 := hv_v9.after hBW
  replace hR := hR.after hBW
  replace hA := hA.after hBW
  replace hB := hB.after hBW
  replace hG := hG.after hBW
  replace hb0 := below_trans hb0 hBW
  go_wp2_with (first | (refine wpList_store_row rfl 30 _ _ rfl g6_12 _ rfl rfl 30 (nums 0) hs12 (infoNum _) (by simp only [nums_size]) (tab_oneCell _ _ fun _ => rfl) ?_; generalize hWW : World.setRow _ g6_12 _ = U6 at *; clear hWW))
  clear hBW hb hs12 hz12 hl12
  have ohv_v1_7 := hv_v1.lt
  have ohv_v2_7 := hv_v2.lt
  have ohv_v3_7 := hv_v3.lt
  have ohv_v5_7 := hv_v5.lt
  have ohv_v7_7 := hv_v7.lt
  have ohv_v9_7 := hv_v9.lt
  have ohv_v10_7 := hv_v10.lt
  have ohv_v13_7 := hv_v13.lt
  have ohR_7 := hR.lt
  have ohA_7 := hA.lt
  have ohB_7 := hB.lt
  have ohG_7 := hG.lt
  refine region_facts 10 [] [.val (.pointer (some ⟨f, 0, none⟩)), .val (.agg (nums (v2))), .val (.agg (nums (v13))), .val (.agg (nums (v14))), .val (.pointer (some ⟨f, 0, none⟩)), .val (.agg (nums (v2))), .val (.agg (nums (v13))), .val (.agg (nums (v15))), .new 30 (nums 0), .new 30 (nums 0)]
    (by kernel_rfl) (by kernel_rfl) (fun _ _ _ _ _ h => h) ?_ ?_
  · simp only [List.take_succ_cons, List.take_zero, StepsOK]
    refine ⟨?_, ?_, ?_, ?_, ?_, ?_, ?_, ?_, ?_, ?_, trivial⟩
    · intro v w' hb hf K hKt
      simp only [putAll, Act.put, List.setIfInBounds_toArray, List.set_cons_zero, List.set_cons_succ, Nat.zero_add, Nat.reduceAdd] at hKt ⊢
      go_simp
      exact hKt _ (Below.refl _ _)
    · intro v w' hb hf K hKt
      simp only [putAll, Act.put, List.setIfInBounds_toArray, List.set_cons_zero, List.set_cons_succ, Nat.zero_add, Nat.reduceAdd] at hKt ⊢
      exact wp_load_row 30 _ rfl (g1_19) rfl 30 _ (0, 0) _ (hv_v2.after hb) Tryd.underlying30 rfl (infoNum _) (hKt _ (Below.refl _ _))
    · intro v w' hb hf K hKt
      simp only [putAll, Act.put, List.setIfInBounds_toArray, List.set_cons_zero, List.set_cons_succ, Nat.zero_add, Nat.reduceAdd] at hKt ⊢
      exact wp_load_row 30 _ rfl (g6_12) rfl 30 _ (0, 0) _ (hv_v13.after hb) Tryd.underlying30 rfl (infoNum _) (hKt _ (Below.refl _ _))
    · intro v w' hb hf K hKt
      have f0 : v 0 = _ := hf ⟨0, .data⟩ (by simp) rfl
      have f1 : v 1 = _ := hf ⟨1, .data⟩ (by simp) rfl
      have f2 : v 2 = _ := hf ⟨2, .data⟩ (by simp) rfl
      simp only [putAll, Act.put, List.setIfInBounds_toArray, List.set_cons_zero, List.set_cons_succ, Nat.zero_add, Nat.reduceAdd] at hKt ⊢
      rw [f0, f1, f2] at hKt ⊢
      go_simp
      refine (kv14 w' (below_trans hb0 hb)).mono ?_
      rintro e w'' ⟨rfl, hb2⟩
      exact hKt _ hb2
    · intro v w' hb hf K hKt
      simp only [putAll, Act.put, List.setIfInBounds_toArray, List.set_cons_zero, List.set_cons_succ, Nat.zero_add, Nat.reduceAdd] at hKt ⊢
      go_simp
      exact hKt _ (Below.refl _ _)
    · intro v w' hb hf K hKt
      simp only [putAll, Act.put, List.setIfInBounds_toArray, List.set_cons_zero, List.set_cons_succ, Nat.zero_add, Nat.reduceAdd] at hKt ⊢
      exact wp_load_row 30 _ rfl (g1_19) rfl 30 _ (0, 0) _ (hv_v2.after hb) Tryd.underlying30 rfl (infoNum _) (hKt _ (Below.refl _ _))
    · intro v w' hb hf K hKt
      simp only [putAll, Act.put, List.setIfInBounds_toArray, List.set_cons_zero, List.set_cons_succ, Nat.zero_add, Nat.reduceAdd] at hKt ⊢
      exact wp_load_row 30 _ rfl (g6_12) rfl 30 _ (0, 0) _ (hv_v13.after hb) Tryd.underlying30 rfl (infoNum _) (hKt _ (Below.refl _ _))
    · intro v w' hb hf K hKt
      have f4 : v 4 = _ := hf ⟨4, .data⟩ (by simp) rfl
      have f5 : v 5 = _ := hf ⟨5, .data⟩ (by simp) rfl
      have f6 : v 6 = _ := hf ⟨6, .data⟩ (by simp) rfl
      simp only [putAll, Act.put, List.setIfInBounds_toArray, List.set_cons_zero, List.set_cons_succ, Nat.zero_add, Nat.reduceAdd] at hKt ⊢
      rw [f4, f5, f6] at hKt ⊢
      go_simp
      refine (kv15 w' (below_trans hb0 hb)).mono ?_
      rintro e w'' ⟨rfl, hb2⟩
      exact hKt _ hb2
    · exact ⟨rfl, rfl, zeroVN⟩
    · exact ⟨rfl, rfl, zeroVN⟩
  intro v u7 hb hF hD
  have f0 : v 0 = _ := hF 0 (by decide)
  have f1 : v 1 = _ := hF 1 (by decide)
  have f2 : v 2 = _ := hF 2 (by decide)
  have f3 : v 3 = _ := hF 3 (by decide)
  have f4 : v 4 = _ := hF 4 (by decide)
  have f5 : v 5 = _ := hF 5 (by decide)
  have f6 : v 6 = _ := hF 6 (by decide)
  have f7 : v 7 = _ := hF 7 (by decide)
  obtain ⟨g7_8, f8, hg8, hl8, hz8⟩ := hF 8 (by decide)
  replace hz8 : Has u7 g7_8 30 (nums 0) := hz8
  obtain ⟨g7_9, f9, hg9, hl9, hz9⟩ := hF 9 (by decide)
  replace hz9 : Has u7 g7_9 30 (nums 0) := hz9
  have hne8_9 : g7_8 ≠ g7_9 := fun h => hD 8 9 (by decide) (by decide) (by decide) rfl rfl (by rw [f8, f9, h])
  simp only [List.take_succ_cons, List.take_zero, List.drop_succ_cons, List.drop_zero, putAll, Act.put, List.setIfInBounds_toArray, List.set_cons_zero, List.set_cons_succ, Nat.zero_add, Nat.reduceAdd]
  rw [f0, f1, f2, f3, f4, f5, f6, f7, f8, f9]
  clear hF hD f0 f1 f2 f3 f4 f5 f6 f7 f8 f9
  have hs8 := hz8
  have hs9 := (hz9).farRow (k := g7_8) (by omega) (nums (v14))
  have hBW := below_setRow (below_setRow (hb) (g := g7_8) hg8 (nums (v14))) (g := g7_9) hg9 (nums (v15))
  have hv_v14 := ((hz8).setRow (nums (v14))).farRow (k := g7_9) (by omega) (nums (v15))
  have hv_v15 := ((hz9).farRow (k := g7_8) (by omega) (nums (v14))).setRow (nums (v15))
  replace hv_v1 := hv_v1.after hBW
  replace hv_v10 := hv_v10.after hBW
  replace hv_v13 := hv_v13.after hBW
  replace hv_v2 := hv_v2.after hBW
  replace hv_v3 := hv_v3.after hBW
  replace hv_v5 := hv_v5.after hBW
  replace hv_v7 := hv_v7.after hBW
  replace hv_v9 := hv_v9.after hBW
  replace hR := hR.after hBW
  replace hA := hA.after hBW
  replace hB := hB.after hBW
  replace hG := hG.after hBW
  replace hb0 := below_trans hb0 hBW
  go_wp2_with (first | refine wpList_store_row rfl 30 _ _ rfl g7_8 _ rfl rfl 30 (nums 0) hs8 (infoNum _) (by simp only [nums_size]) (tab_oneCell _ _ fun _ => rfl) ?_ | (refine wpList_store_row rfl 30 _ _ rfl g7_9 _ rfl rfl 30 (nums 0) hs9 (infoNum _) (by simp only [nums_size]) (tab_oneCell _ _ fun _ => rfl) ?_; generalize hWW : World.setRow _ g7_9 _ = U7 at *; clear hWW))
  clear hBW hb hs8 hz8 hl8 hs9 hz9 hl9
  have ohv_v1_8 := hv_v1.lt
  have ohv_v2_8 := hv_v2.lt
  have ohv_v3_8 := hv_v3.lt
  have ohv_v5_8 := hv_v5.lt
  have ohv_v7_8 := hv_v7.lt
  have ohv_v9_8 := hv_v9.lt
  have ohv_v10_8 := hv_v10.lt
  have ohv_v13_8 := hv_v13.lt
  have ohv_v14_8 := hv_v14.lt
  have ohv_v15_8 := hv_v15.lt
  have ohR_8 := hR.lt
  have ohA_8 := hA.lt
  have ohB_8 := hB.lt
  have ohG_8 := hG.lt
  refine region_facts 16 [] [.val (.pointer (some ⟨g, 0, none⟩)), .val (.pointer (some ⟨f, 0, none⟩)), .val (.pointer (some ⟨f, 0, none⟩)), .val (.pointer (some ⟨g, 0, none⟩)), .val (.pointer (some ⟨g, 0, none⟩)), .val (.pointer (some ⟨g, 1, none⟩)), .val (.agg (nums (bm))), .val (.agg (nums (v9))), .val (.agg (nums (v16))), .val (.pointer (some ⟨f, 0, none⟩)), .val (.agg (nums (v10))), .val (.agg (nums (v1))), .val (.agg (nums (v17))), .val (.agg (nums (v18))), .val (.agg (nums (v19))), .new 30 (nums 0)]
    (by kernel_rfl) (by kernel_rfl) (fun _ _ _ _ _ h => h) ?_ ?_
  · simp only [List.take_succ_cons, List.take_zero, StepsOK]
    refine ⟨?_, ?_, ?_, ?_, ?_, ?_, ?_, ?_, ?_, ?_, ?_, ?_, ?_, ?_, ?_, ?_, trivial⟩
    · intro v w' hb hf K hKt
      simp only [putAll, Act.put, List.setIfInBounds_toArray, List.set_cons_zero, List.set_cons_succ, Nat.zero_add, Nat.reduceAdd] at hKt ⊢
      go_simp
      exact hKt _ (Below.refl _ _)
    · intro v w' hb hf K hKt
      simp only [putAll, Act.put, List.setIfInBounds_toArray, List.set_cons_zero, List.set_cons_succ, Nat.zero_add, Nat.reduceAdd] at hKt ⊢
      go_simp
      exact hKt _ (Below.refl _ _)
    · intro v w' hb hf K hKt
      simp only [putAll, Act.put, List.setIfInBounds_toArray, List.set_cons_zero, List.set_cons_succ, Nat.zero_add, Nat.reduceAdd] at hKt ⊢
      go_simp
      exact hKt _ (Below.refl _ _)
    · intro v w' hb hf K hKt
      simp only [putAll, Act.put, List.setIfInBounds_toArray, List.set_cons_zero, List.set_cons_succ, Nat.zero_add, Nat.reduceAdd] at hKt ⊢
      go_simp
      exact hKt _ (Below.refl _ _)
    · intro v w' hb hf K hKt
      have f3 : v 3 = _ := hf ⟨3, .data⟩ (by simp) rfl
      simp only [putAll, Act.put, List.setIfInBounds_toArray, List.set_cons_zero, List.set_cons_succ, Nat.zero_add, Nat.reduceAdd] at hKt ⊢
      rw [f3] at hKt ⊢
      go_simp
      exact hKt _ (Below.refl _ _)
    · intro v w' hb hf K hKt
      have f4 : v 4 = _ := hf ⟨4, .data⟩ (by simp) rfl
      simp only [putAll, Act.put, List.setIfInBounds_toArray, List.set_cons_zero, List.set_cons_succ, Nat.zero_add, Nat.reduceAdd] at hKt ⊢
      rw [f4] at hKt ⊢
      go_simp
      exact hKt _ (Below.refl _ _)
    · intro v w' hb hf K hKt
      have f5 : v 5 = _ := hf ⟨5, .data⟩ (by simp) rfl
      simp only [putAll, Act.put, List.setIfInBounds_toArray, List.set_cons_zero, List.set_cons_succ, Nat.zero_add, Nat.reduceAdd] at hKt ⊢
      rw [f5] at hKt ⊢
      exact wp_load_num _ rfl (g) 1 rfl bm (crv_b ((hG.after hb))) (hKt _ (Below.refl _ _))
    · intro v w' hb hf K hKt
      simp only [putAll, Act.put, List.setIfInBounds_toArray, List.set_cons_zero, List.set_cons_succ, Nat.zero_add, Nat.reduceAdd] at hKt ⊢
      exact wp_load_row 30 _ rfl (g4_14) rfl 30 _ (0, 0) _ (hv_v9.after hb) Tryd.underlying30 rfl (infoNum _) (hKt _ (Below.refl _ _))
    · intro v w' hb hf K hKt
      have f2 : v 2 = _ := hf ⟨2, .data⟩ (by simp) rfl
      have f6 : v 6 = _ := hf ⟨6, .data⟩ (by simp) rfl
      have f7 : v 7 = _ := hf ⟨7, .data⟩ (by simp) rfl
      simp only [putAll, Act.put, List.setIfInBounds_toArray, List.set_cons_zero, List.set_cons_succ, Nat.zero_add, Nat.reduceAdd] at hKt ⊢
      rw [f2, f6, f7] at hKt ⊢
      go_simp
      refine (kv16 w' (below_trans hb0 hb)).mono ?_
      rintro e w'' ⟨rfl, hb2⟩
      exact hKt _ hb2
    · intro v w' hb hf K hKt
      simp only [putAll, Act.put, List.setIfInBounds_toArray, List.set_cons_zero, List.set_cons_succ, Nat.zero_add, Nat.reduceAdd] at hKt ⊢
      go_simp
      exact hKt _ (Below.refl _ _)
    · intro v w' hb hf K hKt
      simp only [putAll, Act.put, List.setIfInBounds_toArray, List.set_cons_zero, List.set_cons_succ, Nat.zero_add, Nat.reduceAdd] at hKt ⊢
      exact wp_load_row 30 _ rfl (u5.heap.size) rfl 30 _ (0, 0) _ (hv_v10.after hb) Tryd.underlying30 rfl (infoNum _) (hKt _ (Below.refl _ _))
    · intro v w' hb hf K hKt
      simp only [putAll, Act.put, List.setIfInBounds_toArray, List.set_cons_zero, List.set_cons_succ, Nat.zero_add, Nat.reduceAdd] at hKt ⊢
      exact wp_load_row 30 _ rfl (g1_18) rfl 30 _ (0, 0) _ (hv_v1.after hb) Tryd.underlying30 rfl (infoNum _) (hKt _ (Below.refl _ _))
    · intro v w' hb hf K hKt
      have f9 : v 9 = _ := hf ⟨9, .data⟩ (by simp) rfl
      have f10 : v 10 = _ := hf ⟨10, .data⟩ (by simp) rfl
      have f11 : v 11 = _ := hf ⟨11, .data⟩ (by simp) rfl
      simp only [putAll, Act.put, List.setIfInBounds_toArray, List.set_cons_zero, List.set_cons_succ, Nat.zero_add, Nat.reduceAdd] at hKt ⊢
      rw [f9, f10, f11] at hKt ⊢
      go_simp
      refine (kv17 w' (below_trans hb0 hb)).mono ?_
      rintro e w'' ⟨rfl, hb2⟩
      exact hKt _ hb2
    · intro v w' hb hf K hKt
      have f1 : v 1 = _ := hf ⟨1, .data⟩ (by simp) rfl
      have f8 : v 8 = _ := hf ⟨8, .data⟩ (by simp) rfl
      have f12 : v 12 = _ := hf ⟨12, .data⟩ (by simp) rfl
      simp only [putAll, Act.put, List.setIfInBounds_toArray, List.set_cons_zero, List.set_cons_succ, Nat.zero_add, Nat.reduceAdd] at hKt ⊢
      rw [f1, f8, f12] at hKt ⊢
      go_simp
      refine (kv18 w' (below_trans hb0 hb)).mono ?_
      rintro e w'' ⟨rfl, hb2⟩
      exact hKt _ hb2
    · intro v w' hb hf K hKt
      have f0 : v 0 = _ := hf ⟨0, .data⟩ (by simp) rfl
      have f13 : v 13 = _ := hf ⟨13, .data⟩ (by simp) rfl
      simp only [putAll, Act.put, List.setIfInBounds_toArray, List.set_cons_zero, List.set_cons_succ, Nat.zero_add, Nat.reduceAdd] at hKt ⊢
      rw [f0, f13] at hKt ⊢
      go_simp
      refine (kv19 w' (below_trans hb0 hb)).mono ?_
      rintro e w'' ⟨rfl, hb2⟩
      exact hKt _ hb2
    · exact ⟨rfl, rfl, zeroVN⟩
  intro v u8 hb hF hD
  have f0 : v 0 = _ := hF 0 (by decide)
  have f1 : v 1 = _ := hF 1 (by decide)
  have f2 : v 2 = _ := hF 2 (by decide)
  have f3 : v 3 = _ := hF 3 (by decide)
  have f4 : v 4 = _ := hF 4 (by decide)
  have f5 : v 5 = _ := hF 5 (by decide)
  have f6 : v 6 = _ := hF 6 (by decide)
  have f7 : v 7 = _ := hF 7 (by decide)
  have f8 : v 8 = _ := hF 8 (by decide)
  have f9 : v 9 = _ := hF 9 (by decide)
  have f10 : v 10 = _ := hF 10 (by decide)
  have f11 : v 11 = _ := hF 11 (by decide)
  have f12 : v 12 = _ := hF 12 (by decide)
  have f13 : v 13 = _ := hF 13 (by decide)
  have f14 : v 14 = _ := hF 14 (by decide)
  obtain ⟨g8_15, f15, hg15, hl15, hz15⟩ := hF 15 (by decide)
  replace hz15 : Has u8 g8_15 30 (nums 0) := hz15
  simp only [List.take_succ_cons, List.take_zero, List.drop_succ_cons, List.drop_zero, putAll, Act.put, List.setIfInBounds_toArray, List.set_cons_zero, List.set_cons_succ, Nat.zero_add, Nat.reduceAdd]
  rw [f0, f1, f2, f3, f4, f5, f6, f7, f8, f9, f10, f11, f12, f13, f14, f15]
  clear hF hD f0 f1 f2 f3 f4 f5 f6 f7 f8 f9 f10 f11 f12 f13 f14 f15
  have hs15 := hz15
  have hBW := below_setRow (hb) (g := g8_15) hg15 (nums (v19))
  have hv_v19 := (hz15).setRow (nums (v19))
  replace hv_v1 := hv_v1.after hBW
  replace hv_v10 := hv_v10.after hBW
  replace hv_v13 := hv_v13.after hBW
  replace hv_v14 := hv_v14.after hBW
  replace hv_v15 := hv_v15.after hBW
  replace hv_v2 := hv_v2.after hBW
  replace hv_v3 := hv_v3.after hBW
  replace hv_v5 := hv_v5.after hBW
  replace hv_v7 := hv_v7.after hBW
  replace hv_v9 := hv_v9.after hBW
  replace hR := hR.after hBW
  replace hA := hA.after hBW
  replace hB := hB.after hBW
  replace hG := hG.after hBW
  replace hb0 := below_trans hb0 hBW
  go_wp2_with (first | (refine wpList_store_row rfl 30 _ _ rfl g8_15 _ rfl rfl 30 (nums 0) hs15 (infoNum _) (by simp only [nums_size]) (tab_oneCell _ _ fun _ => rfl) ?_; generalize hWW : World.setRow _ g8_15 _ = U8 at *; clear hWW))
  clear hBW hb hs15 hz15 hl15
  have ohv_v1_9 := hv_v1.lt
  have ohv_v2_9 := hv_v2.lt
  have ohv_v3_9 := hv_v3.lt
  have ohv_v5_9 := hv_v5.lt
  have ohv_v7_9 := hv_v7.lt
  have ohv_v9_9 := hv_v9.lt
  have ohv_v10_9 := hv_v10.lt
  have ohv_v13_9 := hv_v13.lt
  have ohv_v14_9 := hv_v14.lt
  have ohv_v15_9 := hv_v15.lt
  have ohv_v19_9 := hv_v19.lt
  have ohR_9 := hR.lt
  have ohA_9 := hA.lt
  have ohB_9 := hB.lt
  have ohG_9 := hG.lt
  refine region_facts 7 [] [.val (.pointer (some ⟨f, 0, none⟩)), .val (.pointer (some ⟨g, 0, none⟩)), .val (.agg (nums (v1))), .val (.agg (nums (v20))), .val (.agg (nums (v10))), .val (.agg (nums (v21))), .new 30 (nums 0)]
    (by kernel_rfl) (by kernel_rfl) (fun _ _ _ _ _ h => h) ?_ ?_
  · simp only [List.take_succ_cons, List.take_zero, StepsOK]
    refine ⟨?_, ?_, ?_, ?_, ?_, ?_, ?_, trivial⟩
    · intro v w' hb hf K hKt
      simp only [putAll, Act.put, List.setIfInBounds_toArray, List.set_cons_zero, List.set_cons_succ, Nat.zero_add, Nat.reduceAdd] at hKt ⊢
      go_simp
      exact hKt _ (Below.refl _ _)
    · intro v w' hb hf K hKt
      simp only [putAll, Act.put, List.setIfInBounds_toArray, List.set_cons_zero, List.set_cons_succ, Nat.zero_add, Nat.reduceAdd] at hKt ⊢
      go_simp
      exact hKt _ (Below.refl _ _)
    · intro v w' hb hf K hKt
      simp only [putAll, Act.put, List.setIfInBounds_toArray, List.set_cons_zero, List.set_cons_succ, Nat.zero_add, Nat.reduceAdd] at hKt ⊢
      exact wp_load_row 30 _ rfl (g1_18) rfl 30 _ (0, 0) _ (hv_v1.after hb) Tryd.underlying30 rfl (infoNum _) (hKt _ (Below.refl _ _))
    · intro v w' hb hf K hKt
      have f1 : v 1 = _ := hf ⟨1, .data⟩ (by simp) rfl
      have f2 : v 2 = _ := hf ⟨2, .data⟩ (by simp) rfl
      simp only [putAll, Act.put, List.setIfInBounds_toArray, List.set_cons_zero, List.set_cons_succ, Nat.zero_add, Nat.reduceAdd] at hKt ⊢
      rw [f1, f2] at hKt ⊢
      go_simp
      refine (kv20 w' (below_trans hb0 hb)).mono ?_
      rintro e w'' ⟨rfl, hb2⟩
      exact hKt _ hb2
    · intro v w' hb hf K hKt
      simp only [putAll, Act.put, List.setIfInBounds_toArray, List.set_cons_zero, List.set_cons_succ, Nat.zero_add, Nat.reduceAdd] at hKt ⊢
      exact wp_load_row 30 _ rfl (u5.heap.size) rfl 30 _ (0, 0) _ (hv_v10.after hb) Tryd.underlying30 rfl (infoNum _) (hKt _ (Below.refl _ _))
    · intro v w' hb hf K hKt
      have f0 : v 0 = _ := hf ⟨0, .data⟩ (by simp) rfl
      have f3 : v 3 = _ := hf ⟨3, .data⟩ (by simp) rfl
      have f4 : v 4 = _ := hf ⟨4, .data⟩ (by simp) rfl
      simp only [putAll, Act.put, List.setIfInBounds_toArray, List.set_cons_zero, List.set_cons_succ, Nat.zero_add, Nat.reduceAdd] at hKt ⊢
      rw [f0, f3, f4] at hKt ⊢
      go_simp
      refine (kv21 w' (below_trans hb0 hb)).mono ?_
      rintro e w'' ⟨rfl, hb2⟩
      exact hKt _ hb2
    · exact ⟨rfl, rfl, zeroVN⟩
  intro v u9 hb hF hD
  have f0 : v 0 = _ := hF 0 (by decide)
  have f1 : v 1 = _ := hF 1 (by decide)
  have f2 : v 2 = _ := hF 2 (by decide)
  have f3 : v 3 = _ := hF 3 (by decide)
  have f4 : v 4 = _ := hF 4 (by decide)
  have f5 : v 5 = _ := hF 5 (by decide)
  obtain ⟨g9_6, f6, hg6, hl6, hz6⟩ := hF 6 (by decide)
  replace hz6 : Has u9 g9_6 30 (nums 0) := hz6
  simp only [List.take_succ_cons, List.take_zero, List.drop_succ_cons, List.drop_zero, putAll, Act.put, List.setIfInBounds_toArray, List.set_cons_zero, List.set_cons_succ, Nat.zero_add, Nat.reduceAdd]
  rw [f0, f1, f2, f3, f4, f5, f6]
  clear hF hD f0 f1 f2 f3 f4 f5 f6
  have hs6 := hz6
  have hBW := below_setRow (hb) (g := g9_6) hg6 (nums (v21))
  have hv_v21 := (hz6).setRow (nums (v21))
  replace hv_v1 := hv_v1.after hBW
  replace hv_v10 := hv_v10.after hBW
  replace hv_v13 := hv_v13.after hBW
  replace hv_v14 := hv_v14.after hBW
  replace hv_v15 := hv_v15.after hBW
  replace hv_v19 := hv_v19.after hBW
  replace hv_v2 := hv_v2.after hBW
  replace hv_v3 := hv_v3.after hBW
  replace hv_v5 := hv_v5.after hBW
  replace hv_v7 := hv_v7.after hBW
  replace hv_v9 := hv_v9.after hBW
  replace hR := hR.after hBW
  replace hA := hA.after hBW
  replace hB := hB.after hBW
  replace hG := hG.after hBW
  replace hb0 := below_trans hb0 hBW
  go_wp2_with (first | (refine wpList_store_row rfl 30 _ _ rfl g9_6 _ rfl rfl 30 (nums 0) hs6 (infoNum _) (by simp only [nums_size]) (tab_oneCell _ _ fun _ => rfl) ?_; generalize hWW : World.setRow _ g9_6 _ = U9 at *; clear hWW))
  clear hBW hb hs6 hz6 hl6
  refine region_quiet_tail (Below U9.heap.size U9) 31 (by kernel_rfl) (by kernel_rfl) (below_drewN (Below.refl _ _) 1) ?_
  simp only [List.take_succ_cons, List.take_zero, List.drop_succ_cons, List.drop_zero]
  refine wpQ_move _ rfl rfl (.pointer (some ⟨f, 0, none⟩)) rfl ?_
  simp only [Act.put, List.setIfInBounds_toArray, List.set_cons_zero, List.set_cons_succ]
  refine wpQ_move _ rfl rfl (.pointer (some ⟨f, 0, none⟩)) rfl ?_
  simp only [Act.put, List.setIfInBounds_toArray, List.set_cons_zero, List.set_cons_succ]
  refine wpQ_has 30 _ rfl _ rfl rfl 30 _ (fun w' hC => hv_v5.after hC) _ Tryd.underlying30 rfl (infoNum _) ?_
  simp only [Act.put, List.setIfInBounds_toArray, List.set_cons_zero, List.set_cons_succ]
  refine wpQ_has 30 _ rfl _ rfl rfl 30 _ (fun w' hC => hv_v15.after hC) _ Tryd.underlying30 rfl (infoNum _) ?_
  simp only [Act.put, List.setIfInBounds_toArray, List.set_cons_zero, List.set_cons_succ]
  refine wpQ_fn 65 _ _ rfl rfl #[.pointer (some ⟨f, 0, none⟩), .agg (nums (v5)), .agg (nums (v15))] rfl (fun _ => by go_simp) (.agg (nums (v22))) (fun w' hC => (kv22 w' (below_trans hb0 hC)).mono fun e w'' ⟨he, hb⟩ => ⟨he, below_class hC hb⟩) ?_
  simp only [Act.put, List.setIfInBounds_toArray, List.set_cons_zero, List.set_cons_succ]
  refine wpQ_move _ rfl rfl (.pointer (some ⟨f, 0, none⟩)) rfl ?_
  simp only [Act.put, List.setIfInBounds_toArray, List.set_cons_zero, List.set_cons_succ]
  refine wpQ_has 30 _ rfl _ rfl rfl 30 _ (fun w' hC => hv_v7.after hC) _ Tryd.underlying30 rfl (infoNum _) ?_
  simp only [Act.put, List.setIfInBounds_toArray, List.set_cons_zero, List.set_cons_succ]
  refine wpQ_has 30 _ rfl _ rfl rfl 30 _ (fun w' hC => hv_v19.after hC) _ Tryd.underlying30 rfl (infoNum _) ?_
  simp only [Act.put, List.setIfInBounds_toArray, List.set_cons_zero, List.set_cons_succ]
  refine wpQ_fn 65 _ _ rfl rfl #[.pointer (some ⟨f, 0, none⟩), .agg (nums (v7)), .agg (nums (v19))] rfl (fun _ => by go_simp) (.agg (nums (v23))) (fun w' hC => (kv23 w' (below_trans hb0 hC)).mono fun e w'' ⟨he, hb⟩ => ⟨he, below_class hC hb⟩) ?_
  simp only [Act.put, List.setIfInBounds_toArray, List.set_cons_zero, List.set_cons_succ]
  refine wpQ_fn 67 _ _ rfl rfl #[.pointer (some ⟨f, 0, none⟩), .agg (nums (v22)), .agg (nums (v23))] rfl (fun _ => by go_simp) (.agg (nums (v24))) (fun w' hC => (kv24 w' (below_trans hb0 hC)).mono fun e w'' ⟨he, hb⟩ => ⟨he, below_class hC hb⟩) ?_
  simp only [Act.put, List.setIfInBounds_toArray, List.set_cons_zero, List.set_cons_succ]
  refine wpQ_move _ rfl rfl (.pointer (some ⟨f, 0, none⟩)) rfl ?_
  simp only [Act.put, List.setIfInBounds_toArray, List.set_cons_zero, List.set_cons_succ]
  refine wpQ_move _ rfl rfl (.pointer (some ⟨f, 0, none⟩)) rfl ?_
  simp only [Act.put, List.setIfInBounds_toArray, List.set_cons_zero, List.set_cons_succ]
  refine wpQ_has 30 _ rfl _ rfl rfl 30 _ (fun w' hC => hv_v15.after hC) _ Tryd.underlying30 rfl (infoNum _) ?_
  simp only [Act.put, List.setIfInBounds_toArray, List.set_cons_zero, List.set_cons_succ]
  refine wpQ_has 30 _ rfl _ rfl rfl 30 _ (fun w' hC => hv_v14.after hC) _ Tryd.underlying30 rfl (infoNum _) ?_
  simp only [Act.put, List.setIfInBounds_toArray, List.set_cons_zero, List.set_cons_succ]
  refine wpQ_fn 65 _ _ rfl rfl #[.pointer (some ⟨f, 0, none⟩), .agg (nums (v15)), .agg (nums (v14))] rfl (fun _ => by go_simp) (.agg (nums (v25))) (fun w' hC => (kv25 w' (below_trans hb0 hC)).mono fun e w'' ⟨he, hb⟩ => ⟨he, below_class hC hb⟩) ?_
  simp only [Act.put, List.setIfInBounds_toArray, List.set_cons_zero, List.set_cons_succ]
  refine wpQ_move _ rfl rfl (.pointer (some ⟨f, 0, none⟩)) rfl ?_
  simp only [Act.put, List.setIfInBounds_toArray, List.set_cons_zero, List.set_cons_succ]
  refine wpQ_has 30 _ rfl _ rfl rfl 30 _ (fun w' hC => hv_v21.after hC) _ Tryd.underlying30 rfl (infoNum _) ?_
  simp only [Act.put, List.setIfInBounds_toArray, List.set_cons_zero, List.set_cons_succ]
  refine wpQ_has 30 _ rfl _ rfl rfl 30 _ (fun w' hC => hv_v19.after hC) _ Tryd.underlying30 rfl (infoNum _) ?_
  simp only [Act.put, List.setIfInBounds_toArray, List.set_cons_zero, List.set_cons_succ]
  refine wpQ_fn 65 _ _ rfl rfl #[.pointer (some ⟨f, 0, none⟩), .agg (nums (v21)), .agg (nums (v19))] rfl (fun _ => by go_simp) (.agg (nums (v26))) (fun w' hC => (kv26 w' (below_trans hb0 hC)).mono fun e w'' ⟨he, hb⟩ => ⟨he, below_class hC hb⟩) ?_
  simp only [Act.put, List.setIfInBounds_toArray, List.set_cons_zero, List.set_cons_succ]
  refine wpQ_fn 66 _ _ rfl rfl #[.pointer (some ⟨f, 0, none⟩), .agg (nums (v25)), .agg (nums (v26))] rfl (fun _ => by go_simp) (.agg (nums (v27))) (fun w' hC => (kv27 w' (below_trans hb0 hC)).mono fun e w'' ⟨he, hb⟩ => ⟨he, below_class hC hb⟩) ?_
  simp only [Act.put, List.setIfInBounds_toArray, List.set_cons_zero, List.set_cons_succ]
  refine wpQ_move _ rfl rfl (.pointer (some ⟨f, 0, none⟩)) rfl ?_
  simp only [Act.put, List.setIfInBounds_toArray, List.set_cons_zero, List.set_cons_succ]
  refine wpQ_move _ rfl rfl (.pointer (some ⟨f, 0, none⟩)) rfl ?_
  simp only [Act.put, List.setIfInBounds_toArray, List.set_cons_zero, List.set_cons_succ]
  refine wpQ_has 30 _ rfl _ rfl rfl 30 _ (fun w' hC => hv_v7.after hC) _ Tryd.underlying30 rfl (infoNum _) ?_
  simp only [Act.put, List.setIfInBounds_toArray, List.set_cons_zero, List.set_cons_succ]
  refine wpQ_has 30 _ rfl _ rfl rfl 30 _ (fun w' hC => hv_v14.after hC) _ Tryd.underlying30 rfl (infoNum _) ?_
  simp only [Act.put, List.setIfInBounds_toArray, List.set_cons_zero, List.set_cons_succ]
  refine wpQ_fn 65 _ _ rfl rfl #[.pointer (some ⟨f, 0, none⟩), .agg (nums (v7)), .agg (nums (v14))] rfl (fun _ => by go_simp) (.agg (nums (v28))) (fun w' hC => (kv28 w' (below_trans hb0 hC)).mono fun e w'' ⟨he, hb⟩ => ⟨he, below_class hC hb⟩) ?_
  simp only [Act.put, List.setIfInBounds_toArray, List.set_cons_zero, List.set_cons_succ]
  refine wpQ_move _ rfl rfl (.pointer (some ⟨f, 0, none⟩)) rfl ?_
  simp only [Act.put, List.setIfInBounds_toArray, List.set_cons_zero, List.set_cons_succ]
  refine wpQ_has 30 _ rfl _ rfl rfl 30 _ (fun w' hC => hv_v5.after hC) _ Tryd.underlying30 rfl (infoNum _) ?_
  simp only [Act.put, List.setIfInBounds_toArray, List.set_cons_zero, List.set_cons_succ]
  refine wpQ_has 30 _ rfl _ rfl rfl 30 _ (fun w' hC => hv_v21.after hC) _ Tryd.underlying30 rfl (infoNum _) ?_
  simp only [Act.put, List.setIfInBounds_toArray, List.set_cons_zero, List.set_cons_succ]
  refine wpQ_fn 65 _ _ rfl rfl #[.pointer (some ⟨f, 0, none⟩), .agg (nums (v5)), .agg (nums (v21))] rfl (fun _ => by go_simp) (.agg (nums (v29))) (fun w' hC => (kv29 w' (below_trans hb0 hC)).mono fun e w'' ⟨he, hb⟩ => ⟨he, below_class hC hb⟩) ?_
  simp only [Act.put, List.setIfInBounds_toArray, List.set_cons_zero, List.set_cons_succ]
  refine wpQ_fn 66 _ _ rfl rfl #[.pointer (some ⟨f, 0, none⟩), .agg (nums (v28)), .agg (nums (v29))] rfl (fun _ => by go_simp) (.agg (nums (v30))) (fun w' hC => (kv30 w' (below_trans hb0 hC)).mono fun e w'' ⟨he, hb⟩ => ⟨he, below_class hC hb⟩) ?_
  simp only [Act.put, List.setIfInBounds_toArray, List.set_cons_zero, List.set_cons_succ]
  refine wpQ_parts4 107 _ rfl rfl #[(0, .agg (nums (v24))), (1, .agg (nums (v27))), (2, .agg (nums (v30)))] (by simp only [List.map_toArray, List.map_cons, List.map_nil]; rfl) (.agg (pjC (v24) (v27) (v30))) (fun w' _ => buildPj _ _ _ w') ?_
  simp only [Act.put, List.setIfInBounds_toArray, List.set_cons_zero, List.set_cons_succ]
  refine wpQuiet_nil ?_
  intro u10 hC
  replace hv_v1 := hv_v1.after hC
  replace hv_v2 := hv_v2.after hC
  replace hv_v3 := hv_v3.after hC
  replace hv_v5 := hv_v5.after hC
  replace hv_v7 := hv_v7.after hC
  replace hv_v9 := hv_v9.after hC
  replace hv_v10 := hv_v10.after hC
  replace hv_v13 := hv_v13.after hC
  replace hv_v14 := hv_v14.after hC
  replace hv_v15 := hv_v15.after hC
  replace hv_v19 := hv_v19.after hC
  replace hv_v21 := hv_v21.after hC
  replace hR := hR.after hC
  replace hA := hA.after hC
  replace hB := hB.after hC
  replace hG := hG.after hC
  replace hb0 := below_trans hb0 hC
  clear hC
  go_wp2_with (first | refine wpList_store_row rfl 107 _ _ rfl (w.heap.size + 1 + 1) _ rfl rfl 107 _ hR (infoPj _ _ _) (by simp only [pjC_size]) (tab_oneCell _ _ fun _ => rfl) ?_)
  exact bodyPost_ret (v := .agg (pjC v24 v27 v30)) (results_cell_row rfl _ _ (w.heap.size + 1 + 1) 107 _ _ _ rfl (hR.setRow _) Tryd.underlying107 rfl (infoPj _ _ _)) rfl ⟨rfl, below_setRow hb0 (by omega) _⟩
end Go.Proofs.YtflkhlhpifmocaaDoor
namespace Go.Proofs.YtflkhlhpifmocaaDoor
open Go.RowKit

theorem buildC4 (x y : Nat) (W : World) : (Instr.build 32 #[(0, .agg (nums x)), (1, .agg (nums y))]).run Tryd.prog W = .ok (.agg (cpC x y false)) W := by kernel_rfl
theorem buildCN (W : World) : (Instr.build 32 #[(2, .bool true)]).run Tryd.prog W = .ok (.agg (cpC 0 0 true)) W := by kernel_rfl
attribute [local go_sem] zeroNum zero24 zero17c
set_option maxRecDepth 100000 in
set_option maxHeartbeats 4000000 in
theorem infinity_any (m bm g : Nat) (w : World) (hI : IsCrv m bm w g) : Calls Tryd.prog 74 #[.pointer (some ⟨g, 0, none⟩)] w fun e w' => e = .returned (.agg (pjC 0 (RR % m) 0)) ∧ Below w.heap.size w w' := by
  obtain ⟨f, hG, hM, hL⟩ := hI
  have kO := fun W (h : Below w.heap.size w W) => mone_any m f W (hM.after h)
  generalize RR % m = v at *
  clear hM hL
  have hR : Has (w.alloc (.cells (pjC 0 0 0) 107)) (w.heap.size) 107 (pjC 0 0 0) := (Has.new w _ _)
  have hb0 : Below w.heap.size w (w.alloc (.cells (pjC 0 0 0) 107)) := ((Below.refl _ _).alloc (Nat.le_refl _) _)
  replace hG := hG.after hb0
  have cell0 := crv_f hG
  go_enter Tryd.func74, Tryd.ntmps74
  go_wp2_with fail
  clear cell0 hG
  refine (kO _ hb0).mono ?_
  rintro e w1 ⟨rfl, hx⟩
  replace hR := hR.after hx
  replace hb0 := below_trans hb0 hx
  clear hx kO
  go_wp2_with (first | refine wpList_parts rfl 107 _ rfl #[(1, .agg (nums v))] (by simp only [List.map_toArray, List.map_cons, List.map_nil]; rfl) (.agg (pjC 0 v 0)) (buildPj1 v) ?_ | refine wpList_store_row rfl 107 _ _ rfl (w.heap.size) _ rfl rfl 107 _ hR (infoPj _ _ _) (by simp only [pjC_size]) (tab_oneCell _ _ fun _ => rfl) ?_)
  exact bodyPost_ret (v := .agg (pjC 0 v 0)) (results_cell_row rfl _ _ (w.heap.size) 107 _ _ _ rfl (hR.setRow _) Tryd.underlying107 rfl (infoPj _ _ _)) rfl ⟨rfl, below_setRow hb0 (by omega) _⟩
set_option maxRecDepth 100000 in
set_option maxHeartbeats 4000000 in
theorem toProj_none (x y m bm g : Nat) (w : World) (hI : IsCrv m bm w g) : Calls Tryd.prog 72 #[.pointer (some ⟨g, 0, none⟩), .agg (cpC x y true)] w fun e w' => e = .returned (.agg (pjC 0 (RR % m) 0)) ∧ Below w.heap.size w w' := by
  have kO := fun W (h : Below w.heap.size w W) => infinity_any m bm g W (hI.after h)
  generalize RR % m = v at *
  clear hI
  have hA : Has ((w.alloc (.cells (cpC x y true) 32)).alloc (.cells (pjC 0 0 0) 107)) (w.heap.size) 32 (cpC x y true) := ((Has.new w _ _).alloc _)
  have hR : Has ((w.alloc (.cells (cpC x y true) 32)).alloc (.cells (pjC 0 0 0) 107)) (w.heap.size + 1) 107 (pjC 0 0 0) := (Has.new' (by simp))
  have hb0 : Below w.heap.size w ((w.alloc (.cells (cpC x y true) 32)).alloc (.cells (pjC 0 0 0) 107)) := (((Below.refl _ _).alloc (Nat.le_refl _) _).alloc (by simp <;> omega) _)
  have cell0 := cp_n hA
  go_enter Tryd.func72, Tryd.ntmps72
  go_wp2_with fail
  clear cell0 hA
  refine (kO _ hb0).mono ?_
  rintro e w1 ⟨rfl, hx⟩
  replace hR := hR.after hx
  replace hb0 := below_trans hb0 hx
  clear hx kO
  go_wp2_with (first | refine wpList_store_row rfl 107 _ _ rfl (w.heap.size + 1) _ rfl rfl 107 _ hR (infoPj _ _ _) (by simp only [pjC_size]) (tab_oneCell _ _ fun _ => rfl) ?_)
  exact bodyPost_ret (v := .agg (pjC 0 v 0)) (results_cell_row rfl _ _ (w.heap.size + 1) 107 _ _ _ rfl (hR.setRow _) Tryd.underlying107 rfl (infoPj _ _ _)) rfl ⟨rfl, below_setRow hb0 (by omega) _⟩
set_option maxRecDepth 100000 in
set_option maxHeartbeats 4000000 in
theorem toProj_some (x y m bm g : Nat) (w : World) (hI : IsCrv m bm w g) (bx : x < big) (by' : y < big) : Calls Tryd.prog 72 #[.pointer (some ⟨g, 0, none⟩), .agg (cpC x y false)] w fun e w' => e = .returned (.agg (pjC (x * RR % m) (y * RR % m) (RR % m))) ∧ Below w.heap.size w w' := by
  obtain ⟨f, hG, hM, hL⟩ := hI
  have kM := fun W (h : Below w.heap.size w W) => hM.after h
  have m0 : 0 < m := Nat.lt_of_lt_of_le (by decide) (Nat.le_of_lt hM.facts.2.1)
  obtain ⟨v1, ev1⟩ : ∃ v, v = x * RR % m := ⟨_, rfl⟩
  have lv1 : v1 < m := by rw [ev1]; exact Nat.mod_lt _ m0
  obtain ⟨v2, ev2⟩ : ∃ v, v = y * RR % m := ⟨_, rfl⟩
  have lv2 : v2 < m := by rw [ev2]; exact Nat.mod_lt _ m0
  obtain ⟨v3, ev3⟩ : ∃ v, v = RR % m := ⟨_, rfl⟩
  have lv3 : v3 < m := by rw [ev3]; exact Nat.mod_lt _ m0
  have kv1 := fun W (h : Below w.heap.size w W) => min_any x m f W (kM W h) bx
  rw [← ev1] at kv1
  have kv2 := fun W (h : Below w.heap.size w W) => min_any y m f W (kM W h) by'
  rw [← ev2] at kv2
  have kv3 := fun W (h : Below w.heap.size w W) => mone_any m f W (kM W h)
  rw [← ev3] at kv3
  have hr : pjC (x * RR % m) (y * RR % m) (RR % m) = pjC v1 v2 v3 := by rw [ev1, ev2, ev3]
  rw [hr]
  clear hr bx by' m0 hM hL ev1 lv1 ev2 lv2 ev3 lv3
  have hA : Has ((w.alloc (.cells (cpC x y false) 32)).alloc (.cells (pjC 0 0 0) 107)) (w.heap.size) 32 (cpC x y false) := ((Has.new w _ _).alloc _)
  have hR : Has ((w.alloc (.cells (cpC x y false) 32)).alloc (.cells (pjC 0 0 0) 107)) (w.heap.size + 1) 107 (pjC 0 0 0) := (Has.new' (by simp))
  have hb0 : Below w.heap.size w ((w.alloc (.cells (cpC x y false) 32)).alloc (.cells (pjC 0 0 0) 107)) := (((Below.refl _ _).alloc (Nat.le_refl _) _).alloc (by simp <;> omega) _)
  replace hG := hG.after hb0
  have cell0 := cp_n hA
  go_enter Tryd.func72, Tryd.ntmps72
  go_wp2_with fail
  clear cell0
  generalize (w.alloc _).alloc _ = U0 at *
  refine region_quiet_tail (Below U0.heap.size U0) 20 (by kernel_rfl) (by kernel_rfl) (below_drewN (Below.refl _ _) 1) ?_
  simp only [List.take_succ_cons, List.take_zero, List.drop_succ_cons, List.drop_zero]
  refine wpQ_move _ rfl rfl (.pointer (some ⟨g, 0, none⟩)) rfl ?_
  simp only [Act.put, List.setIfInBounds_toArray, List.set_cons_zero, List.set_cons_succ]
  refine wpQ_val rfl (.pointer (some ⟨g, 0, none⟩)) (fun w' _ => by go_simp) ?_
  simp only [Act.put, List.setIfInBounds_toArray, List.set_cons_zero, List.set_cons_succ]
  refine wpQ_val rfl (.pointer (some ⟨g, 0, none⟩)) (fun w' _ => by go_simp) ?_
  simp only [Act.put, List.setIfInBounds_toArray, List.set_cons_zero, List.set_cons_succ]
  refine wpQ_load 72 _ rfl rfl _ rfl (.pointer (some ⟨f, 0, none⟩)) (fun w' hC => cell_ptr _ _ _ w' (crv_f (hG.after hC))) ?_
  simp only [Act.put, List.setIfInBounds_toArray, List.set_cons_zero, List.set_cons_succ]
  refine wpQ_val rfl (.pointer (some ⟨w.heap.size, 0, none⟩)) (fun w' _ => by go_simp) ?_
  simp only [Act.put, List.setIfInBounds_toArray, List.set_cons_zero, List.set_cons_succ]
  refine wpQ_load_num rfl _ rfl (w.heap.size) 0 rfl x (fun w' hC => cp_x ((hA.after hC))) ?_
  simp only [Act.put, List.setIfInBounds_toArray, List.set_cons_zero, List.set_cons_succ]
  refine wpQ_fn 36 _ _ rfl rfl #[.pointer (some ⟨f, 0, none⟩), .agg (nums (x))] rfl (fun _ => by go_simp) (.agg (nums (v1))) (fun w' hC => (kv1 w' (below_trans hb0 hC)).mono fun e w'' ⟨he, hb⟩ => ⟨he, below_class hC hb⟩) ?_
  simp only [Act.put, List.setIfInBounds_toArray, List.set_cons_zero, List.set_cons_succ]
  refine wpQ_move _ rfl rfl (.pointer (some ⟨g, 0, none⟩)) rfl ?_
  simp only [Act.put, List.setIfInBounds_toArray, List.set_cons_zero, List.set_cons_succ]
  refine wpQ_val rfl (.pointer (some ⟨g, 0, none⟩)) (fun w' _ => by go_simp) ?_
  simp only [Act.put, List.setIfInBounds_toArray, List.set_cons_zero, List.set_cons_succ]
  refine wpQ_val rfl (.pointer (some ⟨g, 0, none⟩)) (fun w' _ => by go_simp) ?_
  simp only [Act.put, List.setIfInBounds_toArray, List.set_cons_zero, List.set_cons_succ]
  refine wpQ_load 72 _ rfl rfl _ rfl (.pointer (some ⟨f, 0, none⟩)) (fun w' hC => cell_ptr _ _ _ w' (crv_f (hG.after hC))) ?_
  simp only [Act.put, List.setIfInBounds_toArray, List.set_cons_zero, List.set_cons_succ]
  refine wpQ_val rfl (.pointer (some ⟨w.heap.size, 8, none⟩)) (fun w' _ => by go_simp) ?_
  simp only [Act.put, List.setIfInBounds_toArray, List.set_cons_zero, List.set_cons_succ]
  refine wpQ_load_num rfl _ rfl (w.heap.size) 8 rfl y (fun w' hC => cp_y ((hA.after hC))) ?_
  simp only [Act.put, List.setIfInBounds_toArray, List.set_cons_zero, List.set_cons_succ]
  refine wpQ_fn 36 _ _ rfl rfl #[.pointer (some ⟨f, 0, none⟩), .agg (nums (y))] rfl (fun _ => by go_simp) (.agg (nums (v2))) (fun w' hC => (kv2 w' (below_trans hb0 hC)).mono fun e w'' ⟨he, hb⟩ => ⟨he, below_class hC hb⟩) ?_
  simp only [Act.put, List.setIfInBounds_toArray, List.set_cons_zero, List.set_cons_succ]
  refine wpQ_move _ rfl rfl (.pointer (some ⟨g, 0, none⟩)) rfl ?_
  simp only [Act.put, List.setIfInBounds_toArray, List.set_cons_zero, List.set_cons_succ]
  refine wpQ_val rfl (.pointer (some ⟨g, 0, none⟩)) (fun w' _ => by go_simp) ?_
  simp only [Act.put, List.setIfInBounds_toArray, List.set_cons_zero, List.set_cons_succ]
  refine wpQ_val rfl (.pointer (some ⟨g, 0, none⟩)) (fun w' _ => by go_simp) ?_
  simp only [Act.put, List.setIfInBounds_toArray, List.set_cons_zero, List.set_cons_succ]
  refine wpQ_load 72 _ rfl rfl _ rfl (.pointer (some ⟨f, 0, none⟩)) (fun w' hC => cell_ptr _ _ _ w' (crv_f (hG.after hC))) ?_
  simp only [Act.put, List.setIfInBounds_toArray, List.set_cons_zero, List.set_cons_succ]
  refine wpQ_fn 87 _ _ rfl rfl #[.pointer (some ⟨f, 0, none⟩)] rfl (fun _ => by go_simp) (.agg (nums (v3))) (fun w' hC => (kv3 w' (below_trans hb0 hC)).mono fun e w'' ⟨he, hb⟩ => ⟨he, below_class hC hb⟩) ?_
  simp only [Act.put, List.setIfInBounds_toArray, List.set_cons_zero, List.set_cons_succ]
  refine wpQ_parts4 107 _ rfl rfl #[(0, .agg (nums (v1))), (1, .agg (nums (v2))), (2, .agg (nums (v3)))] (by simp only [List.map_toArray, List.map_cons, List.map_nil]; rfl) (.agg (pjC (v1) (v2) (v3))) (fun w' _ => buildPj _ _ _ w') ?_
  simp only [Act.put, List.setIfInBounds_toArray, List.set_cons_zero, List.set_cons_succ]
  refine wpQuiet_nil ?_
  intro u1 hC
  replace hG := hG.after hC
  replace hR := hR.after hC
  replace hA := hA.after hC
  replace hb0 := below_trans hb0 hC
  clear hC
  go_wp2_with (first | refine wpList_store_row rfl 107 _ _ rfl (w.heap.size + 1) _ rfl rfl 107 _ hR (infoPj _ _ _) (by simp only [pjC_size]) (tab_oneCell _ _ fun _ => rfl) ?_)
  exact bodyPost_ret (v := .agg (pjC v1 v2 v3)) (results_cell_row rfl _ _ (w.heap.size + 1) 107 _ _ _ rfl (hR.setRow _) Tryd.underlying107 rfl (infoPj _ _ _)) rfl ⟨rfl, below_setRow hb0 (by omega) _⟩
set_option maxRecDepth 100000 in
set_option maxHeartbeats 4000000 in
theorem toAff_zero (X Y g : Nat) (w : World) : Calls Tryd.prog 75 #[.pointer (some ⟨g, 0, none⟩), .agg (pjC X Y 0)] w fun e w' => e = .returned (.agg (cpC 0 0 true)) ∧ Below w.heap.size w w' := by
  have kZ := fun W => zero_any 0 W (by decide +kernel)
  have hs : sameN 0 0 = true := decide_eq_true rfl
  rw [hs] at kZ
  clear hs
  have hA : Has ((w.alloc (.cells (pjC X Y 0) 107)).alloc (.cells (cpC 0 0 false) 32)) (w.heap.size) 107 (pjC X Y 0) := ((Has.new w _ _).alloc _)
  have hR : Has ((w.alloc (.cells (pjC X Y 0) 107)).alloc (.cells (cpC 0 0 false) 32)) (w.heap.size + 1) 32 (cpC 0 0 false) := (Has.new' (by simp))
  have hb0 : Below w.heap.size w ((w.alloc (.cells (pjC X Y 0) 107)).alloc (.cells (cpC 0 0 false) 32)) := (((Below.refl _ _).alloc (Nat.le_refl _) _).alloc (by simp <;> omega) _)
  go_enter Tryd.func75, Tryd.ntmps75
  go_wp2_with (first | refine wpList_load_num rfl _ rfl _ 16 rfl _ (pj_z hA) ?_)
  refine (kZ _).mono ?_
  rintro e w1 ⟨rfl, hx⟩
  replace hR := hR.after hx
  replace hb0 := below_trans hb0 hx
  clear hx kZ hA
  go_wp2_with (first | refine wpList_parts rfl 32 _ rfl #[(2, .bool true)] (by simp only [List.map_toArray, List.map_cons, List.map_nil]; rfl) (.agg (cpC 0 0 true)) buildCN ?_ | refine wpList_store_row rfl 32 _ _ rfl (w.heap.size + 1) _ rfl rfl 32 _ hR (infoCp _ _ _) (by simp only [cpC_size]) (cpC_one _ _ _) ?_)
  exact bodyPost_ret (v := .agg (cpC 0 0 true)) (results_cell_row rfl _ _ (w.heap.size + 1) 32 _ _ _ rfl (hR.setRow _) Tryd.underlying32 rfl (infoCp _ _ _)) rfl ⟨rfl, below_setRow hb0 (by omega) _⟩
set_option maxRecDepth 100000 in
set_option maxHeartbeats 4000000 in
theorem toAff_nz (X Y Z m bm g : Nat) (w : World) (hI : IsCrv m bm w g) (lX : X < m) (lY : Y < m) (lZ : Z < m) (hz : Z ≠ 0) : Calls Tryd.prog 75 #[.pointer (some ⟨g, 0, none⟩), .agg (pjC X Y Z)] w fun e w' => e = .returned (.agg (cpC (redc m (redc m (X * powN m Z (m - 2)))) (redc m (redc m (Y * powN m Z (m - 2)))) false)) ∧ Below w.heap.size w w' := by
  obtain ⟨f, hG, hM, hL⟩ := hI
  have kM := fun W (h : Below w.heap.size w W) => hM.after h
  have m0 : 0 < m := Nat.lt_of_lt_of_le (by decide) (Nat.le_of_lt hM.facts.2.1)
  have kZ := fun W => zero_any Z W (Nat.lt_trans lZ hM.facts.1)
  have hs : sameN Z 0 = false := decide_eq_false hz
  rw [hs] at kZ
  obtain ⟨v1, ev1⟩ : ∃ v, v = powN m Z (m - 2) := ⟨_, rfl⟩
  have lv1 : v1 < m := by rw [ev1]; exact powN_lt m _ _ m0
  obtain ⟨v2, ev2⟩ : ∃ v, v = redc m (X * v1) := ⟨_, rfl⟩
  have lv2 : v2 < m := by rw [ev2]; exact redc_lt m _ m0
  obtain ⟨v3, ev3⟩ : ∃ v, v = redc m v2 := ⟨_, rfl⟩
  have lv3 : v3 < m := by rw [ev3]; exact redc_lt m _ m0
  obtain ⟨v4, ev4⟩ : ∃ v, v = redc m (Y * v1) := ⟨_, rfl⟩
  have lv4 : v4 < m := by rw [ev4]; exact redc_lt m _ m0
  obtain ⟨v5, ev5⟩ : ∃ v, v = redc m v4 := ⟨_, rfl⟩
  have lv5 : v5 < m := by rw [ev5]; exact redc_lt m _ m0
  have kv1 := fun W (h : Below w.heap.size w W) => minv_any Z m f W (kM W h) lZ
  rw [← ev1] at kv1
  have kv2 := fun W (h : Below w.heap.size w W) => mtimes_any X v1 m f W (kM W h) lX lv1
  rw [← ev2] at kv2
  have kv3 := fun W (h : Below w.heap.size w W) => mout_any v2 m f W (kM W h) lv2
  rw [← ev3] at kv3
  have kv4 := fun W (h : Below w.heap.size w W) => mtimes_any Y v1 m f W (kM W h) lY lv1
  rw [← ev4] at kv4
  have kv5 := fun W (h : Below w.heap.size w W) => mout_any v4 m f W (kM W h) lv4
  rw [← ev5] at kv5
  have hr : cpC (redc m (redc m (X * powN m Z (m - 2)))) (redc m (redc m (Y * powN m Z (m - 2)))) false = cpC v3 v5 false := by rw [ev3, ev5, ev2, ev4, ev1]
  rw [hr]
  clear hs hr hz lX lY lZ m0 hM hL ev1 lv1 ev2 lv2 ev3 lv3 ev4 lv4 ev5 lv5
  have n0 := nums_ne 0
  have hA : Has ((w.alloc (.cells (pjC X Y Z) 107)).alloc (.cells (cpC 0 0 false) 32)) (w.heap.size) 107 (pjC X Y Z) := ((Has.new w _ _).alloc _)
  have hR : Has ((w.alloc (.cells (pjC X Y Z) 107)).alloc (.cells (cpC 0 0 false) 32)) (w.heap.size + 1) 32 (cpC 0 0 false) := (Has.new' (by simp))
  have hb0 : Below w.heap.size w ((w.alloc (.cells (pjC X Y Z) 107)).alloc (.cells (cpC 0 0 false) 32)) := (((Below.refl _ _).alloc (Nat.le_refl _) _).alloc (by simp <;> omega) _)
  replace hG := hG.after hb0
  go_enter Tryd.func75, Tryd.ntmps75
  go_wp2_with (first | refine wpList_load_num rfl _ rfl _ 16 rfl _ (pj_z hA) ?_)
  refine (kZ _).mono ?_
  rintro e u0 ⟨rfl, hx⟩
  replace hA := hA.after hx
  replace hR := hR.after hx
  replace hG := hG.after hx
  replace hb0 := below_trans hb0 hx
  clear hx kZ
  have cell1 := crv_f hG
  go_wp2_with (first | refine wpList_load_num rfl _ rfl w.heap.size 16 rfl Z (pj_z (hA)) ?_)
  clear cell1
  refine (kv1 _ hb0).mono ?_
  rintro e u1 ⟨rfl, hx⟩
  have hN := put_new u1 30 (nums 0) (nums v1)
  replace hR := (hR.after hx).after hN.2
  replace hA := (hA.after hx).after hN.2
  replace hb0 := below_trans (below_trans hb0 hx) hN.2
  have hv_v1 := hN.1
  clear hx hN
  go_wp2_with (first | (refine wpList_store_row rfl 30 _ _ rfl u1.heap.size _ rfl rfl 30 (nums 0) (Has.new' rfl) (infoNum _) (by simp only [nums_size]) (tab_oneCell _ _ fun _ => rfl) ?_; generalize hWW : World.setRow _ u1.heap.size _ = U1 at *; clear hWW))
  refine region_quiet_tail (Below U1.heap.size U1) 15 (by kernel_rfl) (by kernel_rfl) (below_drewN (Below.refl _ _) 1) ?_
  simp only [List.take_succ_cons, List.take_zero, List.drop_succ_cons, List.drop_zero]
  refine wpQ_move _ rfl rfl (.pointer (some ⟨f, 0, none⟩)) rfl ?_
  simp only [Act.put, List.setIfInBounds_toArray, List.set_cons_zero, List.set_cons_succ]
  refine wpQ_move _ rfl rfl (.pointer (some ⟨f, 0, none⟩)) rfl ?_
  simp only [Act.put, List.setIfInBounds_toArray, List.set_cons_zero, List.set_cons_succ]
  refine wpQ_val rfl (.pointer (some ⟨w.heap.size, 0, none⟩)) (fun w' _ => by go_simp) ?_
  simp only [Act.put, List.setIfInBounds_toArray, List.set_cons_zero, List.set_cons_succ]
  refine wpQ_load_num rfl _ rfl (w.heap.size) 0 rfl X (fun w' hC => pj_x ((hA.after hC))) ?_
  simp only [Act.put, List.setIfInBounds_toArray, List.set_cons_zero, List.set_cons_succ]
  refine wpQ_has 30 _ rfl _ rfl rfl 30 _ (fun w' hC => hv_v1.after hC) _ Tryd.underlying30 rfl (infoNum _) ?_
  simp only [Act.put, List.setIfInBounds_toArray, List.set_cons_zero, List.set_cons_succ]
  refine wpQ_fn 65 _ _ rfl rfl #[.pointer (some ⟨f, 0, none⟩), .agg (nums (X)), .agg (nums (v1))] rfl (fun _ => by go_simp) (.agg (nums (v2))) (fun w' hC => (kv2 w' (below_trans hb0 hC)).mono fun e w'' ⟨he, hb⟩ => ⟨he, below_class hC hb⟩) ?_
  simp only [Act.put, List.setIfInBounds_toArray, List.set_cons_zero, List.set_cons_succ]
  refine wpQ_fn 42 _ _ rfl rfl #[.pointer (some ⟨f, 0, none⟩), .agg (nums (v2))] rfl (fun _ => by go_simp) (.agg (nums (v3))) (fun w' hC => (kv3 w' (below_trans hb0 hC)).mono fun e w'' ⟨he, hb⟩ => ⟨he, below_class hC hb⟩) ?_
  simp only [Act.put, List.setIfInBounds_toArray, List.set_cons_zero, List.set_cons_succ]
  refine wpQ_move _ rfl rfl (.pointer (some ⟨f, 0, none⟩)) rfl ?_
  simp only [Act.put, List.setIfInBounds_toArray, List.set_cons_zero, List.set_cons_succ]
  refine wpQ_move _ rfl rfl (.pointer (some ⟨f, 0, none⟩)) rfl ?_
  simp only [Act.put, List.setIfInBounds_toArray, List.set_cons_zero, List.set_cons_succ]
  refine wpQ_val rfl (.pointer (some ⟨w.heap.size, 8, none⟩)) (fun w' _ => by go_simp) ?_
  simp only [Act.put, List.setIfInBounds_toArray, List.set_cons_zero, List.set_cons_succ]
  refine wpQ_load_num rfl _ rfl (w.heap.size) 8 rfl Y (fun w' hC => pj_y ((hA.after hC))) ?_
  simp only [Act.put, List.setIfInBounds_toArray, List.set_cons_zero, List.set_cons_succ]
  refine wpQ_has 30 _ rfl _ rfl rfl 30 _ (fun w' hC => hv_v1.after hC) _ Tryd.underlying30 rfl (infoNum _) ?_
  simp only [Act.put, List.setIfInBounds_toArray, List.set_cons_zero, List.set_cons_succ]
  refine wpQ_fn 65 _ _ rfl rfl #[.pointer (some ⟨f, 0, none⟩), .agg (nums (Y)), .agg (nums (v1))] rfl (fun _ => by go_simp) (.agg (nums (v4))) (fun w' hC => (kv4 w' (below_trans hb0 hC)).mono fun e w'' ⟨he, hb⟩ => ⟨he, below_class hC hb⟩) ?_
  simp only [Act.put, List.setIfInBounds_toArray, List.set_cons_zero, List.set_cons_succ]
  refine wpQ_fn 42 _ _ rfl rfl #[.pointer (some ⟨f, 0, none⟩), .agg (nums (v4))] rfl (fun _ => by go_simp) (.agg (nums (v5))) (fun w' hC => (kv5 w' (below_trans hb0 hC)).mono fun e w'' ⟨he, hb⟩ => ⟨he, below_class hC hb⟩) ?_
  simp only [Act.put, List.setIfInBounds_toArray, List.set_cons_zero, List.set_cons_succ]
  refine wpQ_parts4 32 _ rfl rfl #[(0, .agg (nums (v3))), (1, .agg (nums (v5)))] (by simp only [List.map_toArray, List.map_cons, List.map_nil]; rfl) (.agg (cpC (v3) (v5) false)) (fun w' _ => buildC4 _ _ w') ?_
  simp only [Act.put, List.setIfInBounds_toArray, List.set_cons_zero, List.set_cons_succ]
  refine wpQuiet_nil ?_
  intro u2 hC
  replace hv_v1 := hv_v1.after hC
  replace hR := hR.after hC
  replace hA := hA.after hC
  replace hb0 := below_trans hb0 hC
  clear hC
  go_wp2_with (first | refine wpList_store_row rfl 32 _ _ rfl (w.heap.size + 1) _ rfl rfl 32 _ hR (infoCp _ _ _) (by simp only [cpC_size]) (cpC_one _ _ _) ?_)
  exact bodyPost_ret (v := .agg (cpC v3 v5 false)) (results_cell_row rfl _ _ (w.heap.size + 1) 32 _ _ _ rfl (hR.setRow _) Tryd.underlying32 rfl (infoCp _ _ _)) rfl ⟨rfl, below_setRow hb0 (by omega) _⟩

/- points and what stands for them -/
def T3.rep (t : T3) (P : Ec.Pnt) : Prop := Ec.RepC (mo t.x) (mo t.y) (mo t.z) P
def prjT (m : Nat) : Ec.Pnt → T3
  | none => ⟨0, RR % m, 0⟩
  | some (x, y) => ⟨x.val * RR % m, y.val * RR % m, RR % m⟩
theorem prjT_ok {m : Nat} (h : 0 < m) (P : Ec.Pnt) : (prjT m P).ok m := by
  match P with
  | none => exact ⟨h, Nat.mod_lt _ h, h⟩
  | some (x, y) => exact ⟨Nat.mod_lt _ h, Nat.mod_lt _ h, Nat.mod_lt _ h⟩
theorem prjT_rep {m : Nat} (h : m = Ec.pp) (P : Ec.Pnt) : (prjT m P).rep P := by
  subst h
  match P with
  | none => exact ⟨mo_zero, by show mo (RR % Ec.pp) ≠ 0; rw [mo_one]; decide, mo_zero⟩
  | some (x, y) =>
    refine ⟨by show mo (RR % Ec.pp) ≠ 0; rw [mo_one]; decide, ?_, ?_⟩
    · show mo (x.val * RR % Ec.pp) = x * mo (RR % Ec.pp)
      rw [mo_in, mo_one, c_val]; grobner
    · show mo (y.val * RR % Ec.pp) = y * mo (RR % Ec.pp)
      rw [mo_in, mo_one, c_val]; grobner
theorem toProj_any (P : Ec.Pnt) (m bm g : Nat) (w : World) (hI : IsCrv m bm w g) :
    Calls Tryd.prog 72 #[.pointer (some ⟨g, 0, none⟩), cpV P] w fun e w' => e = .returned (.agg (pjC (prjT m P).x (prjT m P).y (prjT m P).z)) ∧ Below w.heap.size w w' := by
  have hl := cp_lt P
  match P with
  | none => exact toProj_none 0 0 m bm g w hI
  | some (x, y) => exact toProj_some x.val y.val m bm g w hI hl.1 hl.2
theorem toAff_any (t : T3) (P : Ec.Pnt) (m bm g : Nat) (w : World) (hI : IsCrv m bm w g) (hmp : m = Ec.pp) (ht : t.ok m) (hr : t.rep P) :
    Calls Tryd.prog 75 #[.pointer (some ⟨g, 0, none⟩), .agg (pjC t.x t.y t.z)] w fun e w' => e = .returned (cpV P) ∧ Below w.heap.size w w' := by
  obtain ⟨X, Y, Z⟩ := t
  obtain ⟨lX, lY, lZ⟩ := ht
  by_cases hz : Z = 0
  · have hP : P = none := by
      match P with
      | none => rfl
      | some (x, y) => exact absurd (by show mo Z = 0; rw [hz]; exact mo_zero) hr.1
    subst hP hz
    exact toAff_zero X Y g w
  · have k := toAff_nz X Y Z m bm g w hI lX lY lZ hz
    subst hmp
    match P with
    | none => exact absurd (mo_eq0 lZ hr.2.2) hz
    | some (x, y) =>
      obtain ⟨h1, h2, h3⟩ := hr
      have hi := mo_inv h1
      have ex : redc Ec.pp (redc Ec.pp (X * powN Ec.pp Z (Ec.pp - 2))) = x.val := by
        rw [← mo_val, mo_mul, show mo X = x * mo Z from h2]
        congr 1
        generalize mo (powN Ec.pp Z (Ec.pp - 2)) = i at *
        clear k h2 h3
        have e : x * mo Z * i = x * (mo Z * i) := by clear hi h1; grobner
        rw [e, hi]; clear hi h1 e; grobner
      have ey : redc Ec.pp (redc Ec.pp (Y * powN Ec.pp Z (Ec.pp - 2))) = y.val := by
        rw [← mo_val, mo_mul, show mo Y = y * mo Z from h3]
        congr 1
        generalize mo (powN Ec.pp Z (Ec.pp - 2)) = i at *
        clear k h2 h3 ex
        have e : y * mo Z * i = y * (mo Z * i) := by clear hi h1; grobner
        rw [e, hi]; clear hi h1 e; grobner
      rw [ex, ey] at k
      exact k
/-- r is what sum answers for s and t -/
def SumC (m bm : Nat) (s t r : T3) : Prop := r.ok m ∧ (∀ P Q, Ec.OnP P → Ec.OnP Q → s.rep P → t.rep Q → r.rep (Ec.plus P Q)) ∧
  ∀ g w, IsCrv m bm w g → Calls Tryd.prog 73 #[.pointer (some ⟨g, 0, none⟩), .agg (pjC s.x s.y s.z), .agg (pjC t.x t.y t.z)] w fun e w' => e = .returned (.agg (pjC r.x r.y r.z)) ∧ Below w.heap.size w w'
theorem sumC_ex {m bm : Nat} (hmp : m = Ec.pp) (lbm : bm < m) (hbm : mo bm = Ec.cB) {s t : T3} (hs : s.ok m) (ht : t.ok m) : ∃ r, SumC m bm s t r := by
  obtain ⟨X', Y', Z', h1, h2, h3, h4, h5⟩ := csum_ex s.x s.y s.z t.x t.y t.z m bm hs.1 hs.2.1 hs.2.2 ht.1 ht.2.1 ht.2.2 lbm hmp hbm
  exact ⟨⟨X', Y', Z'⟩, ⟨h1, h2, h3⟩, fun P Q oP oQ hP hQ => h4 P Q oP oQ hP hQ, h5⟩
noncomputable def sumC (m bm : Nat) (s t : T3) : T3 := Classical.epsilon (SumC m bm s t)
theorem sumC_is {m bm : Nat} (hmp : m = Ec.pp) (lbm : bm < m) (hbm : mo bm = Ec.cB) {s t : T3} (hs : s.ok m) (ht : t.ok m) : SumC m bm s t (sumC m bm s t) := Classical.epsilon_spec (sumC_ex hmp lbm hbm hs ht)
end Go.Proofs.YtflkhlhpifmocaaDoor
