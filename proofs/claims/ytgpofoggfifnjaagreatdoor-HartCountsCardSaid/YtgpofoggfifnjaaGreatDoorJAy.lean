/-
Layer 15: package csr's reading: config, configs, Read.
Layer 15: package csr's writing: setConfig, setConfigs, beginsLocked, setAddress, writeSingle, Write.
-/
import Derived.Test.YtgpofoggfifnjaaGreatDoorJAx
namespace Go.Proofs.YtgpofoggfifnjaaGreatDoor.Cs
open Go Go.RowKit
open Go.Proofs.YtgpofoggfifnjaaGreatDoor.Pm (En Sl SlC SlE enV en0 TabT at_entry infoE byte_any)

theorem at_ent (g k : Nat) (hk : (k : Int) < 16) (w : World) : (Instr.indexAt 39 (.pointer (some ⟨g, 11, none⟩)) (.int .u32 (k : Int))).run Tryz.prog w = .ok (.pointer (some ⟨g, 11 + k * 3, none⟩)) w := by
  have h2 := Addr.add_mid g 11 (k * 3)
  go_simp
theorem at_lck (g k : Nat) (hk : (k : Int) < 16) (w : World) : (Instr.indexAt 40 (.pointer (some ⟨g, 59, none⟩)) (.int .u32 (k : Int))).run Tryz.prog w = .ok (.pointer (some ⟨g, 59 + k, none⟩)) w := by
  have h2 := Addr.add_mid g 59 k
  go_simp
theorem or_lk (b : Nat) (hb : b < 32) (l : Bool) : bits .or .u8 (b : Int) (((if l = true then 128 else 0 : Nat) : Nat) : Int) = ((b + (if l = true then 128 else 0) : Nat) : Int) := by
  have h1 : ∀ b : Fin 32, bits .or .u8 ((b.1 : Nat) : Int) ((128 : Nat) : Int) = ((b.1 + 128 : Nat) : Int) := by decide
  have h0 : ∀ b : Fin 32, bits .or .u8 ((b.1 : Nat) : Int) ((0 : Nat) : Int) = ((b.1 + 0 : Nat) : Int) := by decide
  cases l
  · exact h0 ⟨b, hb⟩
  · exact h1 ⟨b, hb⟩
theorem lk_form (c : Nat) (h : c < 256) (hb : c / 32 % 4 = 0) : c % 8 + 8 * (c / 8 % 4) + (if lkB c = true then 128 else 0) = c := by
  unfold lkB
  by_cases h1 : 128 ≤ c
  · rw [if_pos (decide_eq_true h1)]; omega
  · rw [if_neg (by rw [decide_eq_true_eq]; exact h1)]; omega
set_option maxRecDepth 100000 in
set_option maxHeartbeats 2000000 in
theorem config_any (w : World) (g k : Nat) (s : St) (H : IsF w g s) (hk : k < 16) : Calls Tryz.prog 60 #[hP g, .int .u32 (k : Int)] w fun e w' => e = .returned (.int .u8 (s.cfg k : Int)) ∧ Below w.heap.size w w' := by
  have c0 : w.cell? ⟨g, 11 + k * 3, none⟩ = some (.int .i64 ((s.cfg k / 8 % 4 : Nat) : Int)) := H.ce k 0 hk (by decide)
  have c1 : w.cell? ⟨g, 11 + k * 3 + 1, none⟩ = some (.int .i64 ((s.cfg k % 8 : Nat) : Int)) := H.ce k 1 hk (by decide)
  have c2 : w.cell? ⟨g, 11 + k * 3 + 2, none⟩ = some (.int .u32 (s.r (944 + k) : Int)) := H.ce k 2 hk (by decide)
  have cl := H.cl k hk
  have ha := H.inv.ok.r (944 + k)
  have hf := lk_form (s.cfg k) (H.inv.ok.cfg k) (H.inv.ok.bits k)
  have kb := bits128 (lkB (s.cfg k))
  have kB := fun W => byte_any (s.cfg k / 8 % 4) (s.cfg k % 8) (s.r (944 + k)) W (by omega) (by omega) ha
  have ho := or_lk (s.cfg k % 8 + 8 * (s.cfg k / 8 % 4)) (by omega) (lkB (s.cfg k))
  have hll : (if lkB (s.cfg k) = true then 128 else 0 : Nat) < 256 := by split <;> decide
  rw [hf] at ho
  have HL := Lib.hid H.lt
  clear hf H
  have dk : (k : Int) < 16 := by omega
  have hat := fun W => at_ent g k dk W
  have hal := fun W => at_lck g k dk W
  generalize s.cfg k % 8 + 8 * (s.cfg k / 8 % 4) = y at *
  generalize (if lkB (s.cfg k) = true then 128 else 0 : Nat) = l at *
  generalize lkB (s.cfg k) = lb at *
  generalize s.cfg k / 8 % 4 = ew at *
  generalize s.cfg k % 8 = er at *
  generalize s.cfg k = c at *
  generalize s.r (944 + k) = a at *
  have HC0 := Lib.hid c0
  have HC1 := Lib.hid c1
  have HC2 := Lib.hid c2
  have HCL := Lib.hid cl
  have e8 : (l : Int) % 256 = (l : Int) := by omega
  have e8b : IntKind.u8.wrap (l : Int) = (l : Int) := by simpa [IntKind.wrap, IntKind.signed, IntKind.bits] using e8
  clear c0 c1 c2 cl hk
  go_enter Tryz.func60, Tryz.ntmps60
  go_upto_region 1 with fail
  refine region_quiet_all (Below w.heap.size w) (by kernel_rfl) (by kernel_rfl) (below_drewN (Below.refl _ _) 1) ?_
  refine wpQ_move _ rfl rfl (hP g) rfl ?_
  simp only [Act.put, List.setIfInBounds_toArray, List.set_cons_zero, List.set_cons_succ]
  refine wpQ_move _ rfl rfl (.int .u32 (k : Int)) rfl ?_
  simp only [Act.put, List.setIfInBounds_toArray, List.set_cons_zero, List.set_cons_succ]
  refine wpQ_val rfl (hP g) (fun w' hC => by go_simp) ?_
  simp only [Act.put, List.setIfInBounds_toArray, List.set_cons_zero, List.set_cons_succ]
  refine wpQ_val rfl (.pointer (some ⟨g, 11, none⟩)) (fun w' hC => by go_simp) ?_
  simp only [Act.put, List.setIfInBounds_toArray, List.set_cons_zero, List.set_cons_succ]
  refine wpQ_val rfl (.pointer (some ⟨g, 11 + k * 3, none⟩)) (fun w' hC => by go_simp) ?_
  simp only [Act.put, List.setIfInBounds_toArray, List.set_cons_zero, List.set_cons_succ]
  refine wpQ_val rfl (.agg #[.int .i64 (ew : Int), .int .i64 (er : Int), .int .u32 (a : Int)]) (fun w' hC => by 
      have q0 := (hC.cell (p := ⟨g, 11 + k * 3, none⟩) HL.out).trans HC0.out
      have q1 := (hC.cell (p := ⟨g, 11 + k * 3 + 1, none⟩) HL.out).trans HC1.out
      have q2 := (hC.cell (p := ⟨g, 11 + k * 3 + 2, none⟩) HL.out).trans HC2.out
      go_simp) ?_
  simp only [Act.put, List.setIfInBounds_toArray, List.set_cons_zero, List.set_cons_succ]
  refine wpQ_fn 45 _ _ rfl rfl #[.agg #[.int .i64 (ew : Int), .int .i64 (er : Int), .int .u32 (a : Int)]] rfl (fun _ => by go_simp) (.int .u8 (y : Int)) (fun w' hC => (kB w').mono fun e w'' ⟨he, hb⟩ => ⟨he, below_class hC hb⟩) ?_
  simp only [Act.put, List.setIfInBounds_toArray, List.set_cons_zero, List.set_cons_succ]
  refine wpQ_move _ rfl rfl (hP g) rfl ?_
  simp only [Act.put, List.setIfInBounds_toArray, List.set_cons_zero, List.set_cons_succ]
  refine wpQ_move _ rfl rfl (.int .u32 (k : Int)) rfl ?_
  simp only [Act.put, List.setIfInBounds_toArray, List.set_cons_zero, List.set_cons_succ]
  refine wpQ_val rfl (hP g) (fun w' hC => by go_simp) ?_
  simp only [Act.put, List.setIfInBounds_toArray, List.set_cons_zero, List.set_cons_succ]
  refine wpQ_val rfl (.pointer (some ⟨g, 59, none⟩)) (fun w' hC => by go_simp) ?_
  simp only [Act.put, List.setIfInBounds_toArray, List.set_cons_zero, List.set_cons_succ]
  refine wpQ_val rfl (.pointer (some ⟨g, 59 + k, none⟩)) (fun w' hC => by go_simp) ?_
  simp only [Act.put, List.setIfInBounds_toArray, List.set_cons_zero, List.set_cons_succ]
  refine wpQ_val rfl (.bool lb) (fun w' hC => by 
      have q0 := (hC.cell (p := ⟨g, 59 + k, none⟩) HL.out).trans HCL.out
      go_simp) ?_
  simp only [Act.put, List.setIfInBounds_toArray, List.set_cons_zero, List.set_cons_succ]
  refine wpQ_fn 39 _ _ rfl rfl #[.bool lb, .int .u32 128] rfl (fun _ => by go_simp) (.int .u32 (l : Int)) (fun w' hC => (kb w').mono fun e w'' ⟨he, hb⟩ => ⟨he, hb ▸ hC⟩) ?_
  simp only [Act.put, List.setIfInBounds_toArray, List.set_cons_zero, List.set_cons_succ]
  refine wpQ_val rfl (.int .u8 (l : Int)) (fun w' hC => by go_simp) ?_
  simp only [Act.put, List.setIfInBounds_toArray, List.set_cons_zero, List.set_cons_succ]
  refine wpQ_val rfl (.int .u8 (c : Int)) (fun w' hC => by go_simp) ?_
  simp only [Act.put, List.setIfInBounds_toArray, List.set_cons_zero, List.set_cons_succ]
  refine wpQ_val rfl (.int .u8 (c : Int)) (fun w' hC => by go_simp) ?_
  simp only [Act.put, List.setIfInBounds_toArray, List.set_cons_zero, List.set_cons_succ]
  refine wpQuiet_nil ?_
  intro w' hC
  go_wp2_with fail
  go_ret
  exact ⟨rfl, hC⟩
theorem or_up (X c i : Nat) (hX : X < 2 ^ i) (hX2 : X < 4294967296) (hc : c * 2 ^ i < 4294967296) : bits .or .u32 (X : Int) ((c * 2 ^ i : Nat) : Int) = ((X + c * 2 ^ i : Nat) : Int) := by
  have h := or32 (c * 2 ^ i) X i hX hc hX2 (Nat.mul_mod_left _ _)
  rw [u32_or_nat _ _ hX2 hc, Nat.or_comm, ← u32_or_nat _ _ hc hX2, h, Nat.add_comm]
set_option maxRecDepth 100000 in
set_option maxHeartbeats 4000000 in
theorem configs_any (w : World) (g i : Nat) (s : St) (H : IsF w g s) (hi : i < 4) : Calls Tryz.prog 36 #[hP g, .int .u32 (i : Int)] w fun e w' => e = .returned (.int .u32 ((word4 s.cfg (4 * i) : Nat) : Int)) ∧ Below w.heap.size w w' := by
  have k0 := fun W (hW : IsF W g s) => config_any W g (4 * i) s hW (by omega)
  have k1 := fun W (hW : IsF W g s) => config_any W g (4 * i + 1) s hW (by omega)
  have k2 := fun W (hW : IsF W g s) => config_any W g (4 * i + 2) s hW (by omega)
  have k3 := fun W (hW : IsF W g s) => config_any W g (4 * i + 3) s hW (by omega)
  have b0 := H.inv.ok.cfg (4 * i)
  have b1 := H.inv.ok.cfg (4 * i + 1)
  have b2 := H.inv.ok.cfg (4 * i + 2)
  have b3 := H.inv.ok.cfg (4 * i + 3)
  unfold word4
  generalize s.cfg (4 * i) = x0 at *
  generalize s.cfg (4 * i + 1) = x1 at *
  generalize s.cfg (4 * i + 2) = x2 at *
  generalize s.cfg (4 * i + 3) = x3 at *
  obtain ⟨j0, e0⟩ : ∃ j, j = 4 * i := ⟨_, rfl⟩
  obtain ⟨j1, e1⟩ : ∃ j, j = 4 * i + 1 := ⟨_, rfl⟩
  obtain ⟨j2, e2⟩ : ∃ j, j = 4 * i + 2 := ⟨_, rfl⟩
  obtain ⟨j3, e3⟩ : ∃ j, j = 4 * i + 3 := ⟨_, rfl⟩
  rw [← e0] at k0
  rw [← e1] at k1
  rw [← e2] at k2
  rw [← e3] at k3
  have f0 : 4 * (i : Int) = (j0 : Int) := by omega
  have f1 : (j0 : Int) + 1 = (j1 : Int) := by omega
  have f2 : (j0 : Int) + 2 = (j2 : Int) := by omega
  have f3 : (j0 : Int) + 3 = (j3 : Int) := by omega
  have g0 : (j0 : Int) < 16 := by omega
  have g1 : (j1 : Int) < 16 := by omega
  have g2 : (j2 : Int) < 16 := by omega
  have g3 : (j3 : Int) < 16 := by omega
  obtain ⟨X1, y1⟩ : ∃ X, X = x0 := ⟨_, rfl⟩
  obtain ⟨X2, y2⟩ : ∃ X, X = x0 + 256 * x1 := ⟨_, rfl⟩
  obtain ⟨X3, y3⟩ : ∃ X, X = x0 + 256 * x1 + 65536 * x2 := ⟨_, rfl⟩
  obtain ⟨X4, y4⟩ : ∃ X, X = x0 + 256 * x1 + 65536 * x2 + 16777216 * x3 := ⟨_, rfl⟩
  have o1 : bits .or .u32 (X1 : Int) ((x1 : Int) * 256) = (X2 : Int) := by
    have h := or_up X1 x1 8 (by omega) (by omega) (by omega)
    rw [show ((x1 * 2 ^ 8 : Nat) : Int) = (x1 : Int) * 256 by omega] at h
    rw [h]; omega
  have o2 : bits .or .u32 (X2 : Int) ((x2 : Int) * 65536) = (X3 : Int) := by
    have h := or_up X2 x2 16 (by omega) (by omega) (by omega)
    rw [show ((x2 * 2 ^ 16 : Nat) : Int) = (x2 : Int) * 65536 by omega] at h
    rw [h]; omega
  have o3 : bits .or .u32 (X3 : Int) ((x3 : Int) * 16777216) = (X4 : Int) := by
    have h := or_up X3 x3 24 (by omega) (by omega) (by omega)
    rw [show ((x3 * 2 ^ 24 : Nat) : Int) = (x3 : Int) * 16777216 by omega] at h
    rw [h]; omega
  have o0 : bits .or .u32 0 (x0 : Int) = (X1 : Int) := by
    have h := u32_or_nat 0 x0 (by decide) (by omega)
    rw [Nat.zero_or] at h
    rw [y1]; exact h
  rw [← y4]
  have l0 : (x0 : Int) < 256 := by omega
  have l1 : (x1 : Int) < 256 := by omega
  have l2 : (x2 : Int) < 256 := by omega
  have l3 : (x3 : Int) < 256 := by omega
  have m1 : ((x1 : Int) * 256) % 4294967296 = (x1 : Int) * 256 := by omega
  have m2 : ((x2 : Int) * 65536) % 4294967296 = (x2 : Int) * 65536 := by omega
  have m3 : ((x3 : Int) * 16777216) % 4294967296 = (x3 : Int) * 16777216 := by omega
  have HY := Lib.hid (And.intro y1 (And.intro y2 (And.intro y3 (And.intro y4 (And.intro e0 (And.intro e1 (And.intro e2 e3)))))))
  have HI := Lib.hid H
  clear y1 y2 y3 y4 e0 e1 e2 e3 b0 b1 b2 b3 H
  go_enter Tryz.func36, Tryz.ntmps36
  go_wp2_with fail
  go_loopw [5, 7] (fun xt ct wr => ((ct = .int .u32 0 ∧ xt = .int .u32 0) ∨ (ct = .int .u32 1 ∧ xt = .int .u32 (X1 : Int)) ∨ (ct = .int .u32 2 ∧ xt = .int .u32 (X2 : Int)) ∨ (ct = .int .u32 3 ∧ xt = .int .u32 (X3 : Int)) ∨ (ct = .int .u32 4 ∧ xt = .int .u32 (X4 : Int))) ∧ Below w.heap.size w wr) (fun _ ct _ => (4 - (intOf ct)).toNat)
  case atStart => exact ⟨Or.inl ⟨rfl, rfl⟩, Below.refl _ _⟩
  case round =>
    obtain ⟨hor, hb⟩ := hrel
    have HB := Lib.hid hb
    rcases hor with ⟨rfl, rfl⟩ | ⟨rfl, rfl⟩ | ⟨rfl, rfl⟩ | ⟨rfl, rfl⟩ | ⟨rfl, rfl⟩
    · have kk := k0 wr (HI.out.after hb)
      clear hb k0 k1 k2 k3
      go_wp2_with (go_at_call 60; with_reducible refine kk.mono ?_; rintro e w2 ⟨rfl, hb2⟩)
      go_roundw
      case rel => exact ⟨Or.inr (Or.inl ⟨rfl, rfl⟩), HB.out.trans (hb2.mono HB.out.size)⟩
      case measure => decide
    · have kk := k1 wr (HI.out.after hb)
      clear hb k0 k1 k2 k3
      go_wp2_with (go_at_call 60; with_reducible refine kk.mono ?_; rintro e w2 ⟨rfl, hb2⟩)
      go_roundw
      case rel => exact ⟨Or.inr (Or.inr (Or.inl ⟨rfl, rfl⟩)), HB.out.trans (hb2.mono HB.out.size)⟩
      case measure => decide
    · have kk := k2 wr (HI.out.after hb)
      clear hb k0 k1 k2 k3
      go_wp2_with (go_at_call 60; with_reducible refine kk.mono ?_; rintro e w2 ⟨rfl, hb2⟩)
      go_roundw
      case rel => exact ⟨Or.inr (Or.inr (Or.inr (Or.inl ⟨rfl, rfl⟩))), HB.out.trans (hb2.mono HB.out.size)⟩
      case measure => decide
    · have kk := k3 wr (HI.out.after hb)
      clear hb k0 k1 k2 k3
      go_wp2_with (go_at_call 60; with_reducible refine kk.mono ?_; rintro e w2 ⟨rfl, hb2⟩)
      go_roundw
      case rel => exact ⟨Or.inr (Or.inr (Or.inr (Or.inr (⟨rfl, rfl⟩)))), HB.out.trans (hb2.mono HB.out.size)⟩
      case measure => decide
    · clear hb
      go_wp2_with fail
      go_ret
      exact ⟨rfl, HB.out⟩
set_option maxRecDepth 100000 in
set_option maxHeartbeats 2000000 in
theorem cread_any (w : World) (g : Nat) (s : St) (n : Nat) (H : IsF w g s) (hn : n < 4294967296) : Calls Tryz.prog 16 #[hP g, .int .u32 (n : Int)] w fun e w' => e = .returned (.tuple #[.int .u32 (((readC s n).getD 0 : Nat) : Int), .bool (readC s n).isSome]) ∧ Below w.heap.size w w' := by
  have kc := among_cfg n
  have ka := among_adr n
  have kv := among_ven n
  have hlt : (n : Int) < 4294967296 := by omega
  by_cases h1 : 928 ≤ n ∧ n < 932
  · rw [decide_eq_true h1] at kc
    have hr : readC s n = some (word4 s.cfg (4 * (n - 928))) := by
      unfold readC
      rw [if_neg (by omega), if_neg (by omega), if_neg (by omega), if_neg (by omega), if_neg (by omega), if_neg (by omega), if_pos h1]
    rw [hr]
    dsimp only [Option.getD_some, Option.isSome_some]
    have kk := configs_any w g (n - 928) s H (by omega)
    obtain ⟨i, hi⟩ : ∃ i, i = n - 928 := ⟨_, rfl⟩
    rw [← hi] at kk ⊢
    have e1 : (n : Int) - 928 = (i : Int) := by omega
    have i4 : (i : Int) < 4 := by omega
    generalize word4 s.cfg (4 * i) = v at *
    clear hi H hr
    go_enter Tryz.func16, Tryz.ntmps16
    go_wp2_with (first
      | (go_at_call 35; with_reducible refine (kc _).mono ?_; rintro e w2 ⟨rfl, rfl⟩)
      | (go_at_call 36; with_reducible refine kk.mono ?_; rintro e w2 ⟨rfl, hb2⟩))
    go_ret2
    exact ⟨rfl, hb2⟩
  rw [decide_eq_false h1] at kc
  by_cases h2 : 944 ≤ n ∧ n < 960
  · rw [decide_eq_true h2] at ka
    have hr : readC s n = some (s.r n) := read_k s n (by omega) (by omega) h1 (by
      unfold isK
      simp only [Bool.or_eq_true, beq_iff_eq, Bool.and_eq_true, decide_eq_true_eq]
      omega)
    rw [hr]
    dsimp only [Option.getD_some, Option.isSome_some]
    obtain ⟨k, hk⟩ : ∃ k, k = n - 944 := ⟨_, rfl⟩
    have e1 : (n : Int) - 944 = (k : Int) := by omega
    have dk : (k : Int) < 16 := by omega
    have hat := fun W => at_ent g k dk W
    have c2 : w.cell? ⟨g, 11 + k * 3 + 2, none⟩ = some (.int .u32 (s.r n : Int)) := by
      have h := H.ce k 2 (by omega) (by decide)
      rw [show s.r n = s.r (944 + k) by rw [hk, show 944 + (n - 944) = n by omega]]
      exact h
    generalize s.r n = v at *
    clear hk H hr
    go_enter Tryz.func16, Tryz.ntmps16
    go_wp2_with (first
      | (go_at_call 35; with_reducible refine (kc _).mono ?_; rintro e w2 ⟨rfl, rfl⟩)
      | (go_at_call 35; with_reducible refine (ka _).mono ?_; rintro e w2 ⟨rfl, rfl⟩))
    go_ret2
    exact ⟨rfl, Below.refl _ _⟩
  rw [decide_eq_false h2] at ka
  by_cases h3 : 3857 ≤ n ∧ n < 3861
  · rw [decide_eq_true h3] at kv
    have hr : readC s n = some 0 := by
      unfold readC
      rw [if_neg (by omega), if_neg (by omega), if_neg (by omega), if_neg (by omega), if_neg (by omega), if_pos (by omega)]
    rw [hr]
    clear hr H
    go_enter Tryz.func16, Tryz.ntmps16
    go_wp2_with (first
      | (go_at_call 35; with_reducible refine (kc _).mono ?_; rintro e w2 ⟨rfl, rfl⟩)
      | (go_at_call 35; with_reducible refine (ka _).mono ?_; rintro e w2 ⟨rfl, rfl⟩)
      | (go_at_call 35; with_reducible refine (kv _).mono ?_; rintro e w2 ⟨rfl, rfl⟩))
    go_ret2
    exact ⟨rfl, Below.refl _ _⟩
  rw [decide_eq_false h3] at kv
  have kk := rs_any w g n s H h1 h2 h3
  generalize readC s n = r at *
  clear H
  go_enter Tryz.func16, Tryz.ntmps16
  go_wp2_with (first
    | (go_at_call 35; with_reducible refine (kc _).mono ?_; rintro e w2 ⟨rfl, rfl⟩)
    | (go_at_call 35; with_reducible refine (ka _).mono ?_; rintro e w2 ⟨rfl, rfl⟩)
    | (go_at_call 35; with_reducible refine (kv _).mono ?_; rintro e w2 ⟨rfl, rfl⟩)
    | (go_at_call 37; with_reducible refine kk.mono ?_; rintro e w2 ⟨rfl, hb2⟩))
  go_ret2
  exact ⟨rfl, hb2⟩
end Go.Proofs.YtgpofoggfifnjaaGreatDoor.Cs
namespace Go.Proofs.YtgpofoggfifnjaaGreatDoor.Cs
open Go Go.RowKit
open Go.Proofs.YtgpofoggfifnjaaGreatDoor.Pm (En Sl SlC SlE enV enV_one en0 TabT at_entry infoE of_any)

def cfgS (s : St) (k b : Nat) : St := if lkB (s.cfg k) = true then s else { s with cfg := upd s.cfg k (cfgB b) }
theorem and_3 (b : Nat) (hb : b < 256) : bits .and .u8 (b : Int) 3 = ((b % 4 : Nat) : Int) := by
  have h := Pm.u8_and_nat' b 3 hb (by omega)
  rw [show b &&& 3 = b % 4 from Nat.and_two_pow_sub_one_eq_mod b 2] at h
  exact h
theorem not_2 (b : Nat) (hb : b < 256) (h2 : b % 4 = 2) : bits .andNot .u8 (b : Int) 2 = ((b - 2 : Nat) : Int) := by
  have h : ∀ b : Fin 256, b.1 % 4 = 2 → bits .andNot .u8 ((b.1 : Nat) : Int) 2 = ((b.1 - 2 : Nat) : Int) := by decide +kernel
  exact h ⟨b, hb⟩ h2
theorem and_128 (b : Nat) (hb : b < 256) : bits .and .u8 (b : Int) 128 = ((b / 128 * 128 : Nat) : Int) := by
  have h := a8 b 7 hb (by decide)
  rw [show b / 2 ^ 7 % 2 * 2 ^ 7 = b / 128 * 128 by omega] at h
  exact h
theorem ne_lk (b : Nat) : (((b / 128 * 128 : Nat) : Int) != 0) = lkB b := by
  unfold lkB
  by_cases h : 128 ≤ b
  · rw [decide_eq_true h, bne_iff_ne]; omega
  · rw [decide_eq_false h, show b / 128 * 128 = 0 by omega]; rfl
theorem cfgB_of (b : Nat) : cfgB b = (if b % 4 = 2 then b - 2 else b) / 128 * 128 + (if b % 4 = 2 then b - 2 else b) % 32 := by
  unfold cfgB
  split <;> split <;> omega
/-- the end of setConfig: the entry's row, then its lock -/
theorem set_st (s : St) (k b : Nat) : ({ entS s k (b % 32) (s.r (944 + k)) with cfg := upd (entS s k (b % 32) (s.r (944 + k))).cfg k (b / 128 * 128 + b % 32) } : St) = { s with cfg := upd s.cfg k (b / 128 * 128 + b % 32) } := by
  unfold entS
  dsimp only
  rw [upd_upd, upd_id]
set_option maxRecDepth 100000 in
set_option maxHeartbeats 4000000 in
theorem setConfig_any (w : World) (g k b : Nat) (s : St) (H : IsF w g s) (hk : k < 16) (hb : b < 256) : Calls Tryz.prog 63 #[hP g, .int .u32 (k : Int), .int .u8 (b : Int)] w fun e w' => e = .returned (.tuple #[]) ∧ IsF w' g (cfgS s k b) ∧ Only (S1 g) w w' := by
  have cl := H.cl k hk
  have dk : (k : Int) < 16 := by omega
  have hat := fun W => at_ent g k dk W
  have hal := fun W => at_lck g k dk W
  unfold cfgS
  by_cases hul : lkB (s.cfg k) = true
  · rw [hul] at cl
    rw [if_pos hul]
    go_enter Tryz.func63, Tryz.ntmps63
    go_wp2_with fail
    first | go_end0 | refine bodyPost_ret (results_none rfl _ _ _) rfl ?_
    exact ⟨rfl, H, Only.refl _ _⟩
  replace hul : lkB (s.cfg k) = false := by simpa using hul
  rw [hul] at cl
  rw [if_neg (by rw [hul]; decide), cfgB_of b]
  have ha := H.inv.ok.r (944 + k)
  have c2 : w.cell? ⟨g, 11 + k * 3 + 2, none⟩ = some (.int .u32 (s.r (944 + k) : Int)) := H.ce k 2 hk (by decide)
  have HC2 := Lib.hid c2
  have HL := Lib.hid H.lt
  have h3 := and_3 b hb
  have HH := Lib.hid H
  clear c2 H
  by_cases h2 : b % 4 = 2
  · rw [h2] at h3
    have hN := not_2 b hb h2
    rw [if_pos h2]
    obtain ⟨c, hc⟩ : ∃ c, c = b - 2 := ⟨_, rfl⟩
    rw [← hc] at hN ⊢
    have hcl : c < 256 := by omega
    replace h3 : bits .and .u8 (b : Int) 3 = 2 := h3
    have h128 := and_128 c hcl
    have hne := ne_lk c
    have kO := fun W => of_any c (s.r (944 + k)) W hcl ha
    have hE := fun w1 (h1 : IsF w1 g s) (w' : World) hB => h1.ent (w' := w') k (c % 32) (s.r (944 + k)) hk ha (by omega) (by omega) (by rw [hul]; unfold lkB; exact decide_eq_false (by omega)) (enV ⟨((c / 8 % 4 : Nat) : Int), ((c % 8 : Nat) : Int), s.r (944 + k)⟩) (fun i _ => by
      unfold entN entS
      dsimp only
      rw [upd_same, upd_same, show c % 32 / 8 % 4 = c / 8 % 4 by omega, show c % 32 % 8 = c % 8 by omega]) hB
    have hrow : tab 3 (enV ⟨((c / 8 % 4 : Nat) : Int), ((c % 8 : Nat) : Int), s.r (944 + k)⟩) = #[.int .i64 ((c / 8 % 4 : Nat) : Int), .int .i64 ((c % 8 : Nat) : Int), .int .u32 (s.r (944 + k) : Int)] := rfl
    have hone := enV_one ⟨((c / 8 % 4 : Nat) : Int), ((c % 8 : Nat) : Int), s.r (944 + k)⟩
    have hLk := fun w2 (h2 : IsF w2 g (entS s k (c % 32) (s.r (944 + k)))) => h2.lck k (c / 128 * 128 + c % 32) hk (by omega) (by omega) (by unfold entS; dsimp only; rw [upd_same]; omega) (lkB c) (by
      unfold lkB
      by_cases hq : 128 ≤ c
      · rw [decide_eq_true hq, decide_eq_true (by omega)]
      · rw [decide_eq_false hq, decide_eq_false (by omega)])
    rw [set_st] at hLk
    have HE := Lib.hid hE
    have HLK := Lib.hid hLk
    clear hE hLk hc
    generalize enV ⟨((c / 8 % 4 : Nat) : Int), ((c % 8 : Nat) : Int), s.r (944 + k)⟩ = v at *
    generalize s.r (944 + k) = a at *
    generalize c / 8 % 4 = ew at *
    generalize c % 8 = er at *
    generalize c / 128 * 128 + c % 32 = z at *
    generalize c / 128 * 128 = y at *
    generalize lkB c = lb at *
    go_enter Tryz.func63, Tryz.ntmps63
    go_upto_region 3 with fail
    refine region_quiet_tail (Below w.heap.size w) 14 (by kernel_rfl) (by kernel_rfl) (below_drewN (Below.refl _ _) 1) ?_
    simp only [List.take_succ_cons, List.take_zero, List.drop_succ_cons, List.drop_zero]
    refine wpQ_move _ rfl rfl (hP g) rfl ?_
    simp only [Act.put, List.setIfInBounds_toArray, List.set_cons_zero, List.set_cons_succ]
    refine wpQ_move _ rfl rfl (.int .u32 (k : Int)) rfl ?_
    simp only [Act.put, List.setIfInBounds_toArray, List.set_cons_zero, List.set_cons_succ]
    refine wpQ_move _ rfl rfl (.int .u8 (c : Int)) rfl ?_
    simp only [Act.put, List.setIfInBounds_toArray, List.set_cons_zero, List.set_cons_succ]
    refine wpQ_move _ rfl rfl (hP g) rfl ?_
    simp only [Act.put, List.setIfInBounds_toArray, List.set_cons_zero, List.set_cons_succ]
    refine wpQ_move _ rfl rfl (.int .u32 (k : Int)) rfl ?_
    simp only [Act.put, List.setIfInBounds_toArray, List.set_cons_zero, List.set_cons_succ]
    refine wpQ_val rfl (hP g) (fun w' hC => by go_simp) ?_
    simp only [Act.put, List.setIfInBounds_toArray, List.set_cons_zero, List.set_cons_succ]
    refine wpQ_val rfl (.pointer (some ⟨g, 11, none⟩)) (fun w' hC => by go_simp) ?_
    simp only [Act.put, List.setIfInBounds_toArray, List.set_cons_zero, List.set_cons_succ]
    refine wpQ_val rfl (.pointer (some ⟨g, 11 + k * 3, none⟩)) (fun w' hC => by go_simp) ?_
    simp only [Act.put, List.setIfInBounds_toArray, List.set_cons_zero, List.set_cons_succ]
    refine wpQ_val rfl (.pointer (some ⟨g, 11 + k * 3 + 2, none⟩)) (fun w' hC => by go_simp) ?_
    simp only [Act.put, List.setIfInBounds_toArray, List.set_cons_zero, List.set_cons_succ]
    refine wpQ_val rfl (.int .u32 (a : Int)) (fun w' hC => by 
        have q2 := (hC.cell (p := ⟨g, 11 + k * 3 + 2, none⟩) HL.out).trans HC2.out
        go_simp) ?_
    simp only [Act.put, List.setIfInBounds_toArray, List.set_cons_zero, List.set_cons_succ]
    refine wpQ_fn 44 _ _ rfl rfl #[.int .u8 (c : Int), .int .u32 (a : Int)] rfl (fun _ => by go_simp) (.agg #[.int .i64 (ew : Int), .int .i64 (er : Int), .int .u32 (a : Int)]) (fun w' hC => (kO w').mono fun e w'' ⟨he, hb⟩ => ⟨he, below_class hC hb⟩) ?_
    simp only [Act.put, List.setIfInBounds_toArray, List.set_cons_zero, List.set_cons_succ]
    refine wpQ_val rfl (hP g) (fun w' hC => by go_simp) ?_
    simp only [Act.put, List.setIfInBounds_toArray, List.set_cons_zero, List.set_cons_succ]
    refine wpQ_val rfl (.pointer (some ⟨g, 11, none⟩)) (fun w' hC => by go_simp) ?_
    simp only [Act.put, List.setIfInBounds_toArray, List.set_cons_zero, List.set_cons_succ]
    refine wpQ_val rfl (.pointer (some ⟨g, 11 + k * 3, none⟩)) (fun w' hC => by go_simp) ?_
    simp only [Act.put, List.setIfInBounds_toArray, List.set_cons_zero, List.set_cons_succ]
    refine wpQuiet_nil ?_
    intro w1 hC
    have H1 := HH.out.after hC
    have hB1 := H1.blk
    have hE1 := HE.out w1 H1
    have HC := Lib.hid hC
    have HE1 := Lib.hid hE1
    clear hE1 hC H1
    go_upto_region 4 with (
      refine wp_store_tab rfl 38 _ _ rfl g (11 + k * 3) rfl 3 v (congrArg Value.agg hrow.symm) 77 _ _ hB1 infoE (by omega) hone ?_
      intro w5 hB5 hg5
      go_frame)
    have H5 := HE1.out _ hB5
    have O5 := (Only.of_below (S := S1 g) HC.out).trans (Only.of_grown (S := S1 g) hg5 fun l e => by injection e with e; exact e.symm)
    have cl5 := H5.blk.cell (59 + k)
    have cl6 := H5.cl k hk
    have fl5 : w5.frozen? ⟨g, 59 + k, none⟩ = false := H5.blk.free _
    have H6 := HLK.out w5 H5
    have HHH := Lib.hid (And.intro H6 O5)
    clear H6 O5 cl5 hB5 hg5 hB1 H5
    go_wp2_with fail
    first | go_end0 | refine bodyPost_ret (results_none rfl _ _ _) rfl ?_
    exact ⟨rfl, HHH.out.1, HHH.out.2.trans (Only.setCell _ (show S1 g g from rfl) _)⟩
  · have d2 : (((b % 4 : Nat) : Int) == 2) = false := beq_eq_false_iff_ne.2 (by omega)
    rw [if_neg h2]
    obtain ⟨c, hc⟩ : ∃ c, c = b := ⟨_, rfl⟩
    rw [← hc] at h3 hb d2 ⊢
    have hcl : c < 256 := by omega
    generalize c % 4 = c4 at h3 d2
    have h128 := and_128 c hcl
    have hne := ne_lk c
    have kO := fun W => of_any c (s.r (944 + k)) W hcl ha
    have hE := fun w1 (h1 : IsF w1 g s) (w' : World) hB => h1.ent (w' := w') k (c % 32) (s.r (944 + k)) hk ha (by omega) (by omega) (by rw [hul]; unfold lkB; exact decide_eq_false (by omega)) (enV ⟨((c / 8 % 4 : Nat) : Int), ((c % 8 : Nat) : Int), s.r (944 + k)⟩) (fun i _ => by
      unfold entN entS
      dsimp only
      rw [upd_same, upd_same, show c % 32 / 8 % 4 = c / 8 % 4 by omega, show c % 32 % 8 = c % 8 by omega]) hB
    have hrow : tab 3 (enV ⟨((c / 8 % 4 : Nat) : Int), ((c % 8 : Nat) : Int), s.r (944 + k)⟩) = #[.int .i64 ((c / 8 % 4 : Nat) : Int), .int .i64 ((c % 8 : Nat) : Int), .int .u32 (s.r (944 + k) : Int)] := rfl
    have hone := enV_one ⟨((c / 8 % 4 : Nat) : Int), ((c % 8 : Nat) : Int), s.r (944 + k)⟩
    have hLk := fun w2 (h2 : IsF w2 g (entS s k (c % 32) (s.r (944 + k)))) => h2.lck k (c / 128 * 128 + c % 32) hk (by omega) (by omega) (by unfold entS; dsimp only; rw [upd_same]; omega) (lkB c) (by
      unfold lkB
      by_cases hq : 128 ≤ c
      · rw [decide_eq_true hq, decide_eq_true (by omega)]
      · rw [decide_eq_false hq, decide_eq_false (by omega)])
    rw [set_st] at hLk
    have HE := Lib.hid hE
    have HLK := Lib.hid hLk
    clear hE hLk hc
    generalize enV ⟨((c / 8 % 4 : Nat) : Int), ((c % 8 : Nat) : Int), s.r (944 + k)⟩ = v at *
    generalize s.r (944 + k) = a at *
    generalize c / 8 % 4 = ew at *
    generalize c % 8 = er at *
    generalize c / 128 * 128 + c % 32 = z at *
    generalize c / 128 * 128 = y at *
    generalize lkB c = lb at *
    go_enter Tryz.func63, Tryz.ntmps63
    go_upto_region 3 with fail
    refine region_quiet_tail (Below w.heap.size w) 14 (by kernel_rfl) (by kernel_rfl) (below_drewN (Below.refl _ _) 1) ?_
    simp only [List.take_succ_cons, List.take_zero, List.drop_succ_cons, List.drop_zero]
    refine wpQ_move _ rfl rfl (hP g) rfl ?_
    simp only [Act.put, List.setIfInBounds_toArray, List.set_cons_zero, List.set_cons_succ]
    refine wpQ_move _ rfl rfl (.int .u32 (k : Int)) rfl ?_
    simp only [Act.put, List.setIfInBounds_toArray, List.set_cons_zero, List.set_cons_succ]
    refine wpQ_move _ rfl rfl (.int .u8 (c : Int)) rfl ?_
    simp only [Act.put, List.setIfInBounds_toArray, List.set_cons_zero, List.set_cons_succ]
    refine wpQ_move _ rfl rfl (hP g) rfl ?_
    simp only [Act.put, List.setIfInBounds_toArray, List.set_cons_zero, List.set_cons_succ]
    refine wpQ_move _ rfl rfl (.int .u32 (k : Int)) rfl ?_
    simp only [Act.put, List.setIfInBounds_toArray, List.set_cons_zero, List.set_cons_succ]
    refine wpQ_val rfl (hP g) (fun w' hC => by go_simp) ?_
    simp only [Act.put, List.setIfInBounds_toArray, List.set_cons_zero, List.set_cons_succ]
    refine wpQ_val rfl (.pointer (some ⟨g, 11, none⟩)) (fun w' hC => by go_simp) ?_
    simp only [Act.put, List.setIfInBounds_toArray, List.set_cons_zero, List.set_cons_succ]
    refine wpQ_val rfl (.pointer (some ⟨g, 11 + k * 3, none⟩)) (fun w' hC => by go_simp) ?_
    simp only [Act.put, List.setIfInBounds_toArray, List.set_cons_zero, List.set_cons_succ]
    refine wpQ_val rfl (.pointer (some ⟨g, 11 + k * 3 + 2, none⟩)) (fun w' hC => by go_simp) ?_
    simp only [Act.put, List.setIfInBounds_toArray, List.set_cons_zero, List.set_cons_succ]
    refine wpQ_val rfl (.int .u32 (a : Int)) (fun w' hC => by 
        have q2 := (hC.cell (p := ⟨g, 11 + k * 3 + 2, none⟩) HL.out).trans HC2.out
        go_simp) ?_
    simp only [Act.put, List.setIfInBounds_toArray, List.set_cons_zero, List.set_cons_succ]
    refine wpQ_fn 44 _ _ rfl rfl #[.int .u8 (c : Int), .int .u32 (a : Int)] rfl (fun _ => by go_simp) (.agg #[.int .i64 (ew : Int), .int .i64 (er : Int), .int .u32 (a : Int)]) (fun w' hC => (kO w').mono fun e w'' ⟨he, hb⟩ => ⟨he, below_class hC hb⟩) ?_
    simp only [Act.put, List.setIfInBounds_toArray, List.set_cons_zero, List.set_cons_succ]
    refine wpQ_val rfl (hP g) (fun w' hC => by go_simp) ?_
    simp only [Act.put, List.setIfInBounds_toArray, List.set_cons_zero, List.set_cons_succ]
    refine wpQ_val rfl (.pointer (some ⟨g, 11, none⟩)) (fun w' hC => by go_simp) ?_
    simp only [Act.put, List.setIfInBounds_toArray, List.set_cons_zero, List.set_cons_succ]
    refine wpQ_val rfl (.pointer (some ⟨g, 11 + k * 3, none⟩)) (fun w' hC => by go_simp) ?_
    simp only [Act.put, List.setIfInBounds_toArray, List.set_cons_zero, List.set_cons_succ]
    refine wpQuiet_nil ?_
    intro w1 hC
    have H1 := HH.out.after hC
    have hB1 := H1.blk
    have hE1 := HE.out w1 H1
    have HC := Lib.hid hC
    have HE1 := Lib.hid hE1
    clear hE1 hC H1
    go_upto_region 4 with (
      refine wp_store_tab rfl 38 _ _ rfl g (11 + k * 3) rfl 3 v (congrArg Value.agg hrow.symm) 77 _ _ hB1 infoE (by omega) hone ?_
      intro w5 hB5 hg5
      go_frame)
    have H5 := HE1.out _ hB5
    have O5 := (Only.of_below (S := S1 g) HC.out).trans (Only.of_grown (S := S1 g) hg5 fun l e => by injection e with e; exact e.symm)
    have cl5 := H5.blk.cell (59 + k)
    have cl6 := H5.cl k hk
    have fl5 : w5.frozen? ⟨g, 59 + k, none⟩ = false := H5.blk.free _
    have H6 := HLK.out w5 H5
    have HHH := Lib.hid (And.intro H6 O5)
    clear H6 O5 cl5 hB5 hg5 hB1 H5
    go_wp2_with fail
    first | go_end0 | refine bodyPost_ret (results_none rfl _ _ _) rfl ?_
    exact ⟨rfl, HHH.out.1, HHH.out.2.trans (Only.setCell _ (show S1 g g from rfl) _)⟩
end Go.Proofs.YtgpofoggfifnjaaGreatDoor.Cs
