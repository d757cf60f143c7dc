import Derived.Test.YtopjdckfphhnnaaDoorWb
namespace Go.Proofs.YtopjdckfphhnnaaDoor
open Go.RowKit
attribute [local go_sem] u32_xor_w u32_and_w u32_add_w u32_not_w zeros64

/-- the program's two tables, in the world -/
structure Tabs (w : World) : Prop where
  k : ∀ i, i < 64 → w.cell? ⟨1, i, none⟩ = some (wd (KC i))
  iv : ∀ i, i < 8 → w.cell? ⟨0, i, none⟩ = some (wd (IV i))
  size : 2 ≤ w.heap.size
theorem Tabs.below {w w' : World} (h : Tabs w) (hb : Below w.heap.size w w') : Tabs w' :=
  have hs := h.size
  ⟨fun i hi => (hb.cell (p := ⟨_, i, none⟩) (show _ < w.heap.size from Nat.lt_of_lt_of_le (show _ < 2 by dsimp only; decide) hs)).trans (h.k i hi), fun i hi => (hb.cell (p := ⟨_, i, none⟩) (show _ < w.heap.size from Nat.lt_of_lt_of_le (show _ < 2 by dsimp only; decide) hs)).trans (h.iv i hi), Nat.le_trans hs hb.size⟩

def part3 (s : Nat → UInt32) (b : Nat → UInt8) (m j : Nat) : Value := if j < m then wd (comp s b j) else wd (s j)
theorem part3_zero (s : Nat → UInt32) (b : Nat → UInt8) : tab 8 (part3 s b 0) = tab 8 fun j => wd (s j) := tab_ext _ _ _ fun j _ => by simp [part3]
theorem part3_at (s : Nat → UInt32) (b : Nat → UInt8) (m : Nat) : part3 s b m m = .int .u32 ((s m).toNat : Int) := by simp [part3, wd]
theorem part3_set (s : Nat → UInt32) (b : Nat → UInt8) (m : Nat) : (tab 8 (part3 s b m)).setIfInBounds m (wd (comp s b m)) = tab 8 (part3 s b (m + 1)) := by
  rw [tab_set]
  apply tab_ext
  intro j _
  by_cases h : j = m
  · subst h; simp [part3]
  · simp only [part3, if_neg h]
    by_cases h2 : j < m
    · rw [if_pos h2, if_pos (by omega)]
    · rw [if_neg h2, if_neg (by omega)]

theorem info40 : (Tryd.prog.info? 40).map (fun i => (i.zero, i.size, i.bytes)) = some (some (.int .u32 0), 1, 4) := by kernel_rfl

set_option maxHeartbeats 1000000 in
theorem compress_any (s : Nat → UInt32) (b : Nat → UInt8) (w : World) (hT : Tabs w) :
    Calls Tryd.prog 14 #[.agg (tab 8 fun j => wd (s j)), .agg (tab 64 fun j => by8 (b j))] w fun e w' => e = .returned (.agg (tab 8 fun j => wd (comp s b j))) ∧ Below w.heap.size w w' := by
  have HT := Lib.hid hT
  obtain ⟨i40, hi40, _, hs40, _⟩ := info_parts info40
  go_enter Tryd.func14, Tryd.ntmps14
  have hz42 : (Tryd.prog.info? 42).map (·.size) = some (tab 64 fun j => by8 (b j)).size := by rw [tab_size]; kernel_rfl
  have hz49 : (Tryd.prog.info? 49).map (·.size) = some (tab 64 fun j => wd (W b j)).size := by rw [tab_size]; kernel_rfl
  go_wp2_with (first | refine wpList_load_row rfl 42 _ rfl (w.heap.size + 1) rfl 42 _ _ _ ((Has.new' (by simp)).alloc _) Tryd.underlying42 rfl hz42 ?_ | (go_at_call 18; refine (schedule_any b _).mono ?_; rintro e w1 ⟨rfl, hb1⟩; have Hb1 := Lib.hid hb1; clear hb1) | refine wpList_store_row rfl 49 _ _ rfl w1.heap.size _ rfl rfl 49 _ (Has.new' rfl) hz49 (by rw [tab_size, tab_size]) (tab_oneCell _ _ fun _ => rfl) ?_)
  have hb1 := Hb1.out
  have hsz : w.heap.size + 3 ≤ w1.heap.size := by have := hb1.size; simp at this; omega
  have h0 := (((((Has.new' (w := w) (t := 41) (cs := tab 8 fun j => wd (s j)) rfl).alloc _).alloc _).below hb1 (by simp; omega)).alloc (.cells (tab 64 zeroW) 49)).farRow (k := w1.heap.size) (by omega) (tab 64 fun j => wd (W b j))
  have h2 := (((Has.new' (g := w.heap.size + 1 + 1) (by simp)).below hb1 (by simp)).alloc (.cells (tab 64 zeroW) 49)).farRow (k := w1.heap.size) (by omega) (tab 64 fun j => wd (W b j))
  rw [zeros8] at h2
  have h5 := (Has.new' (w := w1) (t := 49) (cs := tab 64 zeroW) rfl).setRow (tab 64 fun j => wd (W b j))
  have hb := below_setRow (((((((Below.refl w.heap.size w).alloc (Nat.le_refl _) _).alloc (by simp) _).alloc (by simp; omega) _).trans (hb1.mono (by simp; omega)))).alloc (by omega) (.cells (tab 64 zeroW) 49)) (g := w1.heap.size) (by omega) (tab 64 fun j => wd (W b j))
  clear hb1 Hb1
  generalize (w1.alloc (Obj.cells (tab 64 zeroW) 49)).setRow w1.heap.size (tab 64 fun j => wd (W b j)) = wr at *
  have c0 : wr.cell? ⟨w.heap.size, 0, none⟩ = some (.int .u32 ((s 0).toNat : Int)) := h0.cellTab 0 (by omega)
  have c1 : wr.cell? ⟨w.heap.size, 1, none⟩ = some (.int .u32 ((s 1).toNat : Int)) := h0.cellTab 1 (by omega)
  have c2 : wr.cell? ⟨w.heap.size, 2, none⟩ = some (.int .u32 ((s 2).toNat : Int)) := h0.cellTab 2 (by omega)
  have c3 : wr.cell? ⟨w.heap.size, 3, none⟩ = some (.int .u32 ((s 3).toNat : Int)) := h0.cellTab 3 (by omega)
  have c4 : wr.cell? ⟨w.heap.size, 4, none⟩ = some (.int .u32 ((s 4).toNat : Int)) := h0.cellTab 4 (by omega)
  have c5 : wr.cell? ⟨w.heap.size, 5, none⟩ = some (.int .u32 ((s 5).toNat : Int)) := h0.cellTab 5 (by omega)
  have c6 : wr.cell? ⟨w.heap.size, 6, none⟩ = some (.int .u32 ((s 6).toNat : Int)) := h0.cellTab 6 (by omega)
  have c7 : wr.cell? ⟨w.heap.size, 7, none⟩ = some (.int .u32 ((s 7).toNat : Int)) := h0.cellTab 7 (by omega)
  go_quiet (fail)
  clear c0 c1 c2 c3 c4 c5 c6 c7
  replace h0 := h0.drewN nq
  replace h2 := h2.drewN nq
  replace h5 := h5.drewN nq
  replace hb := below_drewN hb nq
  generalize wr.drewN nq = wr at *
  go_wp2_with fail
  have c0 : wr.cell? ⟨w.heap.size, 0, none⟩ = some (.int .u32 ((s 0).toNat : Int)) := h0.cellTab 0 (by omega)
  have c1 : wr.cell? ⟨w.heap.size, 1, none⟩ = some (.int .u32 ((s 1).toNat : Int)) := h0.cellTab 1 (by omega)
  have c2 : wr.cell? ⟨w.heap.size, 2, none⟩ = some (.int .u32 ((s 2).toNat : Int)) := h0.cellTab 2 (by omega)
  have c3 : wr.cell? ⟨w.heap.size, 3, none⟩ = some (.int .u32 ((s 3).toNat : Int)) := h0.cellTab 3 (by omega)
  have c4 : wr.cell? ⟨w.heap.size, 4, none⟩ = some (.int .u32 ((s 4).toNat : Int)) := h0.cellTab 4 (by omega)
  have c5 : wr.cell? ⟨w.heap.size, 5, none⟩ = some (.int .u32 ((s 5).toNat : Int)) := h0.cellTab 5 (by omega)
  have c6 : wr.cell? ⟨w.heap.size, 6, none⟩ = some (.int .u32 ((s 6).toNat : Int)) := h0.cellTab 6 (by omega)
  have c7 : wr.cell? ⟨w.heap.size, 7, none⟩ = some (.int .u32 ((s 7).toNat : Int)) := h0.cellTab 7 (by omega)
  go_quiet (fail)
  clear c0 c1 c2 c3 c4 c5 c6 c7
  replace h0 := h0.drewN nq
  replace h2 := h2.drewN nq
  replace h5 := h5.drewN nq
  replace hb := below_drewN hb nq
  generalize wr.drewN nq = wr at *
  have hw1 : w.heap.size + 1 + 1 + 1 ≤ w1.heap.size := by omega
  clear hT hsz hz42
  go_wp2_with fail
  go_loopw [6, 7, 8, 9, 10, 11, 12, 13, 14, 15, 16, 37] (fun va vb vc vd ve vf vg vh _ _ _ ct wr => ∃ k : Nat, k ≤ 64 ∧ ct = .int .i64 k ∧
      va = .int .u32 ((rnds s b k).a.toNat : Int) ∧ vb = .int .u32 ((rnds s b k).b.toNat : Int) ∧ vc = .int .u32 ((rnds s b k).c.toNat : Int) ∧ vd = .int .u32 ((rnds s b k).d.toNat : Int) ∧
      ve = .int .u32 ((rnds s b k).e.toNat : Int) ∧ vf = .int .u32 ((rnds s b k).f.toNat : Int) ∧ vg = .int .u32 ((rnds s b k).g.toNat : Int) ∧ vh = .int .u32 ((rnds s b k).h.toNat : Int) ∧
      Has wr w.heap.size 41 (tab 8 fun j => wd (s j)) ∧ Has wr (w.heap.size + 1 + 1) 41 (tab 8 zeroW) ∧ Has wr w1.heap.size 49 (tab 64 fun j => wd (W b j)) ∧ Below w.heap.size w wr)
    (fun _ _ _ _ _ _ _ _ _ _ _ ct _ => 64 - (intOf ct).toNat)
  case atStart => exact ⟨0, by omega, rfl, rfl, rfl, rfl, rfl, rfl, rfl, rfl, rfl, h0, h2, h5, hb⟩
  case round =>
    clear h0 h2 h5 hb
    obtain ⟨k, hk, rfl, rfl, rfl, rfl, rfl, rfl, rfl, rfl, rfl, h0, h2, h5, hb⟩ := hrel
    by_cases hlt : k < 64
    · have cK : _ = some (Value.int .u32 ((KC k).toNat : Int)) := (HT.out.below hb).k k hlt
      have cW : _ = some (Value.int .u32 ((W b k).toNat : Int)) := h5.cellTab k hlt
      have dk : (k : Int) < 64 := by omega
      go_wp2_with fail
      go_quiet ((go_at_call 19; exact Calls.quiet_of_same ((mix_int _ _ _ _ _ (by omega) (by omega) (by omega)).mono fun _ _ ⟨he, hw⟩ => ⟨he, hw.symm⟩)))
      replace h0 := h0.drewN nq
      replace h2 := h2.drewN nq
      replace h5 := h5.drewN nq
      replace hb := below_drewN hb nq
      clear cK cW
      generalize hq : Go.World.drewN _ nq = wr at *
      clear hq
      go_wp2_with (go_at_call 19; refine (mix_int _ _ _ _ _ (by omega) (by omega) (by omega)).mono ?_; rintro e w' ⟨rfl, rfl⟩)
      go_roundw
      case rel => exact ⟨k + 1, by omega, by go_num, rfl, rfl, rfl, rfl, rfl, rfl, rfl, rfl, h0, h2, h5, hb⟩
      case measure => simp [intOf]; omega
    · have e64 : k = 64 := by omega
      have e64' : rnds s b k = rnds s b 64 := by rw [e64]
      have E := Lib.hid e64'
      clear e64 e64' hk
      have hidx := fun (j : Nat) (hj : j < 8) (W : World) => run_index_tab (P := Tryd.prog) 41 40 8 .u32 i40 (fun j => .int .u32 (((rnds s b k).at j).toNat : Int)) Tryd.underlying41 Tryd.underlying40 hi40 hs40 .i64 j hj W
      have Hidx := Lib.hid hidx
      clear hidx
      have eagg : (#[wd (rnds s b k).a, wd (rnds s b k).b, wd (rnds s b k).c, wd (rnds s b k).d, wd (rnds s b k).e, wd (rnds s b k).f, wd (rnds s b k).g, wd (rnds s b k).h] : Array Value) = tab 8 (fun j => wd ((rnds s b k).at j)) := rfl
      simp only [wd] at eagg
      go_wp2_with fail
      clear eagg
      go_loopw [17, 18, 97] (fun _ _ ct wr => ∃ m : Nat, m ≤ 8 ∧ ct = .int .i64 m ∧ Has wr w.heap.size 41 (tab 8 (part3 s b m)) ∧ Has wr (w.heap.size + 1 + 1) 41 (tab 8 zeroW) ∧ Below w.heap.size w wr)
        (fun _ _ ct _ => 8 - (intOf ct).toNat)
      case atStart => exact ⟨0, by omega, rfl, by rw [part3_zero]; exact h0, h2, hb⟩
      case round =>
        clear h0 h2 h5 hb
        rename_i k0 _ _ _
        obtain ⟨m, hm, rfl, h0, h2, hb⟩ := hrel
        by_cases hlt : m < 8
        · have c0 : _ = some (Value.int .u32 ((s m).toNat : Int)) := (h0.cellTab m hlt).trans (congrArg some (part3_at s b m))
          have fw := h0.free m
          have hix := Hidx.out m hlt
          have dm : (m : Int) < 8 := by omega
          go_wp2_with fail
          go_roundw
          case rel =>
            have e := part3_set s b m
            unfold comp at e
            rw [← E.out] at e
            exact ⟨m + 1, by omega, by go_num, by rw [← e]; exact h0.set m _, h2.far (by simp; omega) _, hb.setCell (by simp) _⟩
          case measure => simp [intOf]; omega
        · have h3 : Has wr w.heap.size 41 (tab 8 fun j => wd (comp s b j)) := by
            rw [tab_ext 8 _ (part3 s b m) fun j hj => by simp [part3, show j < m by omega]]; exact h0
          clear hm
          have hz : (Tryd.prog.info? 41).map (·.size) = some (tab 8 fun j => wd (comp s b j)).size := by rw [tab_size]; kernel_rfl
          go_wp2_with (first | refine wpList_load_row rfl 41 _ rfl w.heap.size rfl 41 _ _ _ h3 Tryd.underlying41 rfl hz ?_ | refine wpList_store_row rfl 41 _ _ rfl (w.heap.size + 1 + 1) _ rfl rfl 41 _ h2 hz (by rw [tab_size, tab_size]) (tab_oneCell _ _ fun _ => rfl) ?_)
          exact bodyPost_ret (v := .agg (tab 8 fun j => wd (comp s b j))) (results_cell_row rfl _ _ (w.heap.size + 1 + 1) 41 _ _ _ rfl (h2.setRow _) Tryd.underlying41 rfl hz) rfl ⟨rfl, below_setRow hb (by omega) _⟩
end Go.Proofs.YtopjdckfphhnnaaDoor
