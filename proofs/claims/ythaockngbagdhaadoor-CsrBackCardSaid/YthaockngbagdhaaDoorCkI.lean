/-
Layer 15: package csr's May1 in the machine's mode, where no entry is set; all that the laws ask of package csr.
-/
import Derived.Test.YthaockngbagdhaaDoorCkH
import Derived.Test.YthaockngbagdhaaDoorCkN
namespace Go.Proofs.YthaockngbagdhaaDoor.Cs
open Go Go.RowKit
open Go.Proofs.YthaockngbagdhaaDoor.Pm (En Sl SlC SlE enV enV_one en0 TabT at_entry infoE rangeI rangeP retP range_any rng_w0)

theorem cut3 (n : Nat) (f : Nat → Value) (o : Nat) (h : o + 3 ≤ n) : (tab n f).extract o (o + 3) = #[f o, f (o + 1), f (o + 2)] := by
  apply Array.ext
  · simp only [Array.size_extract, tab_size]
    simp
    omega
  · intro i h1 h2
    have hi : i < 3 := by simpa using h2
    have hg := tab_get n f (o + i) (by omega)
    have e : ((tab n f).extract o (o + 3))[i]? = some (f (o + i)) := by
      rw [Array.getElem?_extract, if_pos (by rw [tab_size]; omega)]
      exact hg
    rw [Array.getElem?_eq_getElem h1] at e
    rw [Option.some.inj e]
    rcases (show i = 0 ∨ i = 1 ∨ i = 2 by omega) with rfl | rfl | rfl <;> rfl
theorem index39 (F : Nat → Value) (i : Nat) (hi : i < 16) (w : World) : (Instr.index 39 (.agg (tab 48 F)) (.int .i64 (i : Int))).run Tryd.prog w = .ok (.agg #[F (i * 3), F (i * 3 + 1), F (i * 3 + 2)]) w := by
  have hb := cut3 48 F (i * 3) (by omega)
  have h0 : (0 : Int) ≤ (i : Int) ∧ (i : Int) < 16 := by omega
  obtain ⟨d, hd, hs⟩ : ∃ d, Tryd.prog.info? 38 = some d ∧ d.size = 3 := by
    have := infoE
    cases hq : Tryd.prog.info? 38 with
    | none => rw [hq] at this; cases this
    | some d => rw [hq] at this; exact ⟨d, rfl, by simpa using this⟩
  simp [Instr.index, run_underlying Tryd.underlying39, run_underlying Tryd.underlying38, asIntOf, h0, part, isAgg, sizeOf, typeInfo, hd, hs, go_sem, hb]
  intro h
  exact absurd h (by omega)
theorem wp_load39 {w : World} {ops : Array Oper} {rest : List Oper} {op : Oper} {a : Act} {Q : Exit → Act → World → Prop} (hgd : op.guard = none) (x : Operand) (ho : op.op = .load 39 x)
    (b o : Nat) (hx : a.eval x = .pointer (some ⟨b, o, none⟩)) (f : Nat → Value) (hc : w.rangeAt b o ((List.range 48).map f)) (h : wpList Tryd.prog ops Q rest (a.put op.dst (.agg (tab 48 f))) w) : wpList Tryd.prog ops Q (op :: rest) a w :=
  wpList_load_mid hgd 39 x ho b o hx _ _ hc Tryd.underlying39 rfl (by simpa using size39) h
/-- the file's entries -/
def entL (s : St) : List En := (List.range 16).map (entN s)
theorem entL_at (s : St) (i : Nat) (hi : i < 16) : (entL s).getD i en0 = entN s i := by
  unfold entL
  rw [List.getD_eq_getElem?_getD, List.getElem?_map, List.getElem?_range hi]
  rfl
theorem entL_mem {s : St} {e : En} (h : e ∈ entL s) : ∃ i, i < 16 ∧ e = entN s i := by
  obtain ⟨i, hi, rfl⟩ := List.mem_map.1 h
  exact ⟨i, List.mem_range.1 hi, rfl⟩
theorem IsF.entries {w : World} {g : Nat} {s : St} (H : IsF w g s) : SlE w ⟨some ⟨g, 11, none⟩, 16, 16⟩ (entL s) := by
  refine ⟨by unfold entL; rw [List.length_map, List.length_range], ⟨⟨Nat.le_refl _, by dsimp only; omega⟩, fun _ => ⟨g, 11, rfl, H.lt, fun j i hj hi => ?_⟩⟩, fun e he => ?_⟩
  · show w.cell? ⟨g, 11 + j * 3 + i, none⟩ = some (enV ((entL s).getD j en0) i)
    rw [entL_at s j hj]
    exact H.ce j i hj hi
  · obtain ⟨i, hi, rfl⟩ := entL_mem he
    have h1 := H.inv.ok.cfg i
    unfold entN
    exact ⟨by unfold Pm.i64ok; dsimp only; omega, by unfold Pm.i64ok; dsimp only; omega, H.inv.ok.r _⟩
set_option maxRecDepth 100000 in
set_option maxHeartbeats 4000000 in
theorem machine_any (w : World) (g : Nat) (s : St) (a t r : Nat) (hT : TabT w) (H : IsF w g s) (h0 : ∀ k, s.cfg k = 0) (_ha : a < 4294967296) (_ht : t < 8589934592) (_hat : a ≤ t) (_hr : r ≤ 7) : Calls Tryd.prog 40 #[hP g, .int .u64 (a : Int), .int .u64 (t : Int), .int .i64 (r : Int)] w fun e w' => e = .returned (.bool true) ∧ Below w.heap.size w w' := by
  have hrg := H.blk.range 11 48 (by decide)
  have hix := fun (i : Nat) (hi : i < 16) W => index39 (fun j => fV s (11 + j)) i hi W
  have hF : ∀ i, i < 16 → fV s (11 + i * 3) = .int .i64 0 ∧ fV s (11 + (i * 3 + 1)) = .int .i64 0 ∧ fV s (11 + (i * 3 + 2)) = .int .u32 (s.r (944 + i) : Int) := fun i hi => by
    have e := fV_e s i
    have e0 := e 0 hi (by decide)
    have e1 := e 1 hi (by decide)
    have e2 := e 2 hi (by decide)
    rw [Nat.add_zero] at e0
    rw [show 11 + (i * 3 + 1) = 11 + i * 3 + 1 by omega, show 11 + (i * 3 + 2) = 11 + i * 3 + 2 by omega, e0, e1, e2]
    unfold entN
    rw [h0 i]
    exact ⟨rfl, rfl, rfl⟩
  have hR : ∀ i, rangeI (entL s) i = (0, 0) ∨ 16 ≤ i := fun i => by
    by_cases hi : i < 16
    · refine Or.inl ?_
      unfold rangeI
      have e : (entN s i).w = 0 := by unfold entN; rw [h0 i]; rfl
      rw [entL_at s i hi]
      exact rng_w0 (by rw [e]; decide) (by rw [e]; decide) (by rw [e]; decide)
    · exact Or.inr (by omega)
  have HF := Lib.hid hF
  have HR := Lib.hid hR
  have HIX := Lib.hid hix
  have HH := Lib.hid H
  have HT := Lib.hid hT
  clear hF hR H hT hix
  have ha0 : (0 : Int) ≤ (a : Int) := by omega
  have ht0 : (0 : Int) ≤ (t : Int) := by omega
  generalize (fun j => fV s (11 + j)) = Fv at *
  go_enter Tryd.func40, Tryd.ntmps40
  go_upto_region 2 with (refine wp_load39 rfl _ rfl g 11 rfl Fv hrg ?_; go_frame)
  go_loopw [17] (fun ct wr => ∃ i : Nat, i ≤ 16 ∧ ct = .int .i64 (i : Int) ∧ Below w.heap.size w wr) (fun ct _ => (16 - (intOf ct)).toNat)
  case atStart => exact ⟨0, Nat.zero_le _, rfl, Below.refl _ _⟩
  case round =>
    obtain ⟨i, hi, rfl, hb⟩ := hrel
    by_cases hlt : i < 16
    · have hin : (i : Int) < 16 := by omega
      obtain ⟨f0, f1, f2⟩ := HF.out i hlt
      have hx := fun W => HIX.out i hlt W
      rw [f0, f1, f2] at hx
      have HB := Lib.hid hb
      generalize s.r (944 + i) = ea at *
      clear f0 f1 f2 hb
      go_upto_region 4 with fail
      obtain ⟨wa, hwa, hX, hba, hsa⟩ := one_new wr #[.int .i64 0, .int .i64 0, .int .u32 (ea : Int)] 38
      rw [← hwa]
      have hbwa := HB.out.trans (hba.mono HB.out.size)
      have hI := HH.out.after hbwa
      have kR := range_any (entL s) ⟨some ⟨g, 11, none⟩, 16, 16⟩ i wa (HT.out.below hbwa) hI.entries hlt
      rw [(HR.out i).resolve_right (by omega)] at kR
      replace kR : Calls Tryd.prog 48 #[.slice (some ⟨g, 11, none⟩) 16 16, .int .i64 (i : Int)] wa (retP 0 0 wa) := kR
      unfold retP at kR
      have HBA := Lib.hid hbwa
      clear hwa hsa hX hba hI hx hbwa
      go_wp2_with (go_at_call 48; refine kR.mono ?_; rintro e w2 ⟨rfl, hb2⟩)
      exact ⟨⟨i + 1, hlt, by go_num, HBA.out.trans (hb2.mono HBA.out.size)⟩, by simp [intOf] <;> omega⟩
    · obtain rfl : i = 16 := by omega
      have HB := Lib.hid hb
      clear hb
      go_wp2_with fail
      go_ret
      exact ⟨rfl, HB.out⟩
set_option maxRecDepth 100000 in
set_option maxHeartbeats 2000000 in
theorem mayM_any (w : World) (g : Nat) (s : St) (a n r : Nat) (hT : TabT w) (H : IsF w g s) (hm : s.mode = 3) (h0 : ∀ k, s.cfg k = 0) (ha : a < 4294967296) (hn1 : 1 ≤ n) (hn8 : n ≤ 8) (hr : r ≤ 7) : Calls Tryd.prog 20 #[hP g, .int .u32 (a : Int), .int .i64 (n : Int), .int .i64 (r : Int)] w fun e w' => e = .returned (.bool true) ∧ Below w.heap.size w w' := by
  have c0 : w.cell? ⟨g, 0, none⟩ = some (.int .i64 (s.mode : Int)) := H.blk.cellTab 0 (by decide)
  rw [hm] at c0
  replace c0 : w.cell? ⟨g, 0, none⟩ = some (.int .i64 3) := c0
  have kM := machine_any w g s a (a + n) r hT H h0 ha (by omega) (by omega) hr
  obtain ⟨t, ht⟩ : ∃ t, t = a + n := ⟨_, rfl⟩
  rw [← ht] at kM
  have e1 : (a : Int) + (n : Int) = (t : Int) := by omega
  have hnI : ¬ (n : Int) < 1 := by omega
  have hn9 : (n : Int) < 9 := by omega
  have htl : (t : Int) < 4294967304 := by omega
  clear ht H hT h0 hm
  go_enter Tryd.func20, Tryd.ntmps20
  go_wp2_with (go_at_call 40; with_reducible refine kM.mono ?_; rintro e w2 ⟨rfl, hb⟩)
  go_ret
  exact ⟨rfl, hb⟩
/-- package csr answers what the laws ask of it -/
theorem csr_ok : CsrOK IsF where
  lt := fun h => h.lt
  ok := fun h => h.inv.ok
  keep := fun h k hg => ⟨k.has h.blk hg, h.inv⟩
  mode := fun h => ⟨h.blk.cellTab 0 (by decide), h.blk.free 0⟩
  setMode := fun m h hm => h.modeS m hm
  new := cnew_any
  write := fun w g s n x h hn hx => cwrite_any w g s n x h hn hx
  read := fun w g s n h hn => cread_any w g s n h hn
  due := fun w g s h => cdue_any w g s h
  timer := fun w g s b h => ctimer_any w g s b h
  tick := fun w g s b h => ctick_any w g s b h
  trap := fun w g s pc ca tv h h1 h2 h3 => ctrap_any w g s pc ca tv h h1 h2 h3
  back := fun w g s h => cback_any w g s h
  protect := fun w g s l q h hS hne => cprotect_any w g s l q.A q.n q.c h hS hne
  may1 := fun w g s hT h hm h0 => mayM_any w g s 0 4 4 hT h hm h0 (by decide) (by decide) (by decide) (by decide)
end Go.Proofs.YthaockngbagdhaaDoor.Cs
