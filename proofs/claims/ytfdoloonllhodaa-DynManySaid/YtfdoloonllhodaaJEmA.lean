/-
Layer 8, package elf: ofKind, isLoadable, areLoadable, isEntry.
-/
import Derived.Test.YtfdoloonllhodaaJElZ
import Derived.BigQuiet
namespace Go.Proofs.Ytfdoloonllhodaa
open Go Go.RowKit

theorem atE' (b o n c j : Nat) (hj : (j : Int) < (n : Int)) (w : World) : (Instr.indexAt 67 (.slice (some ⟨b, o, none⟩) n c) (.int .i64 (j : Int))).run Try.prog w = .ok (.pointer (some ⟨b, o + j * 6, none⟩)) w := by
  have h2 := Addr.add_mid b o (j * 6)
  go_simp
theorem take_more {α : Type} (l : List α) (d : α) (i : Nat) (h : i < l.length) : l.take (i + 1) = l.take i ++ [l.getD i d] := by
  rw [List.take_add_one, List.getElem?_eq_getElem h]
  simp [List.getD_eq_getElem?_getD, h]
/-- the headers of kind k -/
def kdN (k : Nat) (hs : List Hd) : List Hd := hs.filter fun h => decide (h.k = k)
structure OfO (w0 : World) (k : Nat) (hs : List Hd) (v : Value) (i : Nat) (w : World) : Prop where
  own : w.ownsRow w0.heap.size 74 6 v (kdN k (hs.take i)).length (cellsL 6 hdE (kdN k (hs.take i)))
  bel : Below w0.heap.size w0 w
set_option maxRecDepth 100000 in
set_option maxHeartbeats 2000000 in
theorem eof_any (k : Nat) (_hk : k < 3) (hs : List Hd) (s : Sl) (w : World) (hH : SlH w s hs) (hm : hs.length ≤ 5) :
    Calls Try.prog 26 #[s.v, .int .i64 (k : Int)] w fun e w' => (∃ t, e = .returned (Sl.v t) ∧ SlH w' t (kdN k hs)) ∧ Below w.heap.size w w' := by
  obtain ⟨Ah, m, ch, rfl⟩ := s.out
  have hl : hs.length = m := hH.1
  have HL := Lib.hid hl
  have HM := Lib.hid hm
  have HH := Lib.hid hH.2
  have hm5 : m ≤ 5 := by omega
  clear hl hm hH
  rw [show Sl.v ⟨Ah, m, ch⟩ = .slice Ah m ch from rfl]
  go_enter Try.func26, Try.ntmps26
  go_wp2_with fail
  go_loopw [5, 10] (fun va ct wr => ∃ i : Nat, i ≤ m ∧ ct = .int .i64 (i : Int) ∧ OfO w k hs va i wr) (fun _ ct _ => (m - (intOf ct)).toNat)
  case atStart => exact ⟨0, Nat.zero_le _, rfl, ⟨World.ownsRow_nil _ _ _ _, Below.refl _ _⟩⟩
  case round =>
    obtain ⟨i, hi, rfl, hO⟩ := hrel
    by_cases hlt : i < m
    · have di : (i : Int) < (m : Int) := by omega
      have hJ := HH.out.below hO.bel
      obtain ⟨b, o, hA2, hbl, _⟩ := HH.out.2 (by show 0 < m; omega)
      replace hA2 : Ah = some ⟨b, o, none⟩ := hA2
      subst hA2
      have hr := hJ.range rfl (j := i) hlt
      have ha1 := fun w => atE' b o m ch i di w
      have htk := take_more hs hd0 i (by rw [HL.out]; exact hlt)
      change wr.rangeAt b (o + i * 6) ((List.range 6).map (hdE (hs.getD i hd0))) at hr
      generalize hs.getD i hd0 = hd at *
      have HTK := Lib.hid htk
      have HO := Lib.hid hO
      have hnl : (kdN k (hs.take i)).length ≤ 5 := by
        have h1 : (kdN k (hs.take i)).length ≤ (hs.take i).length := List.length_filter_le _ _
        rw [List.length_take] at h1
        have := HM.out
        omega
      have HNL := Lib.hid hnl
      clear htk hO hJ hbl hnl
      by_cases hk2 : hd.k = k
      · have hkb : ((hd.k : Int) == (k : Int)) = true := by simp [hk2]
        have hkd : kdN k (hs.take (i + 1)) = kdN k (hs.take i) ++ [hd] := by rw [HTK.out]; simp [kdN, hk2]
        have HKD := Lib.hid hkd
        clear hk2 hkd
        go_wp2_with (first
          | (refine wp_load_he rfl _ rfl b (o + i * 6) rfl _ hr ?_)
          | (refine wp_fresh 74 6 _ _ _ _ rfl rfl rfl rfl zeroHE infoHE6 (by omega) (hdE_one _) rfl rfl ?_
             intro w1 hG hb1 hz1
             have hc0 : w1.cell? ⟨_, 0, none⟩ = some (.int .i64 (hd.k : Int)) := hG.cellTab 0 (by omega)
             have hown1 := own_after HO.out.own hb1
             have hb01 := below_trans HO.out.bel (hb1.mono (Nat.le_refl _)))
          | (refine wpList_load_has 74 _ rfl _ rfl rfl 74 _ hG _ Try.underlying74 rfl (by rw [tab_size]; exact infoHE6) ?_)
          | (refine wp_build_el Try.underlying67 infoHE (by decide) (by decide) rfl _ rfl hd rfl ?_
             intro w6 hw6
             have hb6 : Below w1.heap.size w1 w6 := by subst hw6; exact (Below.refl _ _).alloc (Nat.le_refl _) _
             have hH6 : Has w6 w1.heap.size 74 (tab 6 (hdE hd)) := by subst hw6; exact Has.new _ _ _
             have hown6 := own_after hown1 hb6
             have hb16 := below_trans hb01 (hb6.mono (Nat.le_refl _))
             clear hw6)
          | (refine wp_append_el Try.underlying67 infoHE rfl (by decide) (by decide) hdE_one rfl _ _ rfl w.heap.size _ (kdN k (hs.take i)).length (kdN k (hs.take i)) rfl hown6 w1.heap.size rfl hd hH6 (by have := HNL.out; omega) hb16.size ?_
             intro v7 w7 hown7 hgr7))
        go_roundw
        case rel => exact ⟨i + 1, hlt, by go_num, ⟨by rw [HKD.out, List.length_append]; exact hown7, below_own hb16 hown6 (Nat.le_refl _) hb16.size hgr7⟩⟩
        case measure => simp [intOf] <;> omega
      · have hkb : ((hd.k : Int) == (k : Int)) = false := by simp; omega
        have hkd : kdN k (hs.take (i + 1)) = kdN k (hs.take i) := by rw [HTK.out]; simp [kdN, hk2]
        have HKD := Lib.hid hkd
        clear hk2 hkd
        go_wp2_with (first
          | (refine wp_load_he rfl _ rfl b (o + i * 6) rfl _ hr ?_)
          | (refine wp_fresh 74 6 _ _ _ _ rfl rfl rfl rfl zeroHE infoHE6 (by omega) (hdE_one _) rfl rfl ?_
             intro w1 hG hb1 hz1
             have hc0 : w1.cell? ⟨_, 0, none⟩ = some (.int .i64 (hd.k : Int)) := hG.cellTab 0 (by omega)
             have hown1 := own_after HO.out.own hb1
             have hb01 := below_trans HO.out.bel (hb1.mono (Nat.le_refl _))))
        go_roundw
        case rel => exact ⟨i + 1, hlt, by go_num, ⟨by rw [HKD.out]; exact hown1, hb01⟩⟩
        case measure => simp [intOf] <;> omega
    · obtain rfl : i = m := by omega
      have hown := hO.own
      rw [List.take_of_length_le (by rw [HL.out]; exact Nat.le_refl _)] at hown
      obtain ⟨Av, cv, rfl⟩ := own_form hown
      have hle : (kdN k hs).length ≤ hs.length := List.length_filter_le _ _
      have hs5 : (kdN k hs).length ≤ 5 := by have := HM.out; omega
      have HOW := Lib.hid hown
      have HBL := Lib.hid hO.bel
      clear hown hle hO
      generalize (kdN k hs).length = q at *
      go_wp2_with fail
      go_ret
      exact ⟨⟨⟨Av, q, cv⟩, rfl, own_slC HOW.out (by decide) (by omega) hd0⟩, HBL.out⟩
end Go.Proofs.Ytfdoloonllhodaa
