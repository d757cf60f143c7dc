/-
Layer 15: package csr's reading: config, configs, Read.
-/
import Derived.Test.YthaockngbagdhaaDoorCkD
namespace Go.Proofs.YthaockngbagdhaaDoor.Cs
open Go Go.RowKit
open Go.Proofs.YthaockngbagdhaaDoor.Pm (En Sl SlC SlE enV en0 TabT at_entry infoE byte_any)

theorem at_ent (g k : Nat) (hk : (k : Int) < 16) (w : World) : (Instr.indexAt 39 (.pointer (some ⟨g, 11, none⟩)) (.int .u32 (k : Int))).run Tryd.prog w = .ok (.pointer (some ⟨g, 11 + k * 3, none⟩)) w := by
  have h2 := Addr.add_mid g 11 (k * 3)
  go_simp
theorem at_lck (g k : Nat) (hk : (k : Int) < 16) (w : World) : (Instr.indexAt 40 (.pointer (some ⟨g, 59, none⟩)) (.int .u32 (k : Int))).run Tryd.prog w = .ok (.pointer (some ⟨g, 59 + k, none⟩)) w := by
  have h2 := Addr.add_mid g 59 k
  go_simp
theorem or_lk (b : Nat) (hb : b < 32) (l : Bool) : bits .or .u8 (b : Int) (((if l = true then 128 else 0 : Nat) : Nat) : Int) = ((b + (if l = true then 128 else 0) : Nat) : Int) := by
  have h1 : ∀ b : Fin 32, bits .or .u8 ((b.1 : Nat) : Int) ((128 : Nat) : Int) = ((b.1 + 128 : Nat) : Int) := by decide
  have h0 : ∀ b : Fin 32, bits .or .u8 ((b.1 : Nat) : Int) ((0 : Nat) : Int) = ((b.1 + 0 : Nat) : Int) := by decide
  cases l
  · exact h0 ⟨b, hb⟩
  · exact h1 ⟨b, hb⟩
theorem lk_form (c : Nat) (h : c < 256) (hb : c / 32 % 4 = 0) : c % 8 + 8 * (c / 8 % 4) + (if lkB c = true then 128 else 0) = c := by
  unfold lkB
  by_cases h1 : 128 ≤ c
  · rw [if_pos (decide_eq_true h1)]; omega
  · rw [if_neg (by rw [decide_eq_true_eq]; exact h1)]; omega
set_option maxRecDepth 100000 in
set_option maxHeartbeats 2000000 in
theorem config_any (w : World) (g k : Nat) (s : St) (H : IsF w g s) (hk : k < 16) : Calls Tryd.prog 41 #[hP g, .int .u32 (k : Int)] w fun e w' => e = .returned (.int .u8 (s.cfg k : Int)) ∧ Below w.heap.size w w' := by
  have c0 : w.cell? ⟨g, 11 + k * 3, none⟩ = some (.int .i64 ((s.cfg k / 8 % 4 : Nat) : Int)) := H.ce k 0 hk (by decide)
  have c1 : w.cell? ⟨g, 11 + k * 3 + 1, none⟩ = some (.int .i64 ((s.cfg k % 8 : Nat) : Int)) := H.ce k 1 hk (by decide)
  have c2 : w.cell? ⟨g, 11 + k * 3 + 2, none⟩ = some (.int .u32 (s.r (944 + k) : Int)) := H.ce k 2 hk (by decide)
  have cl := H.cl k hk
  have ha := H.inv.ok.r (944 + k)
  have hf := lk_form (s.cfg k) (H.inv.ok.cfg k) (H.inv.ok.bits k)
  have kb := bits128 (lkB (s.cfg k))
  have kB := fun W => byte_any (s.cfg k / 8 % 4) (s.cfg k % 8) (s.r (944 + k)) W (by omega) (by omega) ha
  have ho := or_lk (s.cfg k % 8 + 8 * (s.cfg k / 8 % 4)) (by omega) (lkB (s.cfg k))
  have hll : (if lkB (s.cfg k) = true then 128 else 0 : Nat) < 256 := by split <;> decide
  rw [hf] at ho
  have HL := Lib.hid H.lt
  clear hf H
  have dk : (k : Int) < 16 := by omega
  have hat := fun W => at_ent g k dk W
  have hal := fun W => at_lck g k dk W
  generalize s.cfg k % 8 + 8 * (s.cfg k / 8 % 4) = y at *
  generalize (if lkB (s.cfg k) = true then 128 else 0 : Nat) = l at *
  generalize lkB (s.cfg k) = lb at *
  generalize s.cfg k / 8 % 4 = ew at *
  generalize s.cfg k % 8 = er at *
  generalize s.cfg k = c at *
  generalize s.r (944 + k) = a at *
  have HC0 := Lib.hid c0
  have HC1 := Lib.hid c1
  have HC2 := Lib.hid c2
  have HCL := Lib.hid cl
  have e8 : (l : Int) % 256 = (l : Int) := by omega
  have e8b : IntKind.u8.wrap (l : Int) = (l : Int) := by simpa [IntKind.wrap, IntKind.signed, IntKind.bits] using e8
  clear c0 c1 c2 cl hk
  go_enter Tryd.func41, Tryd.ntmps41
  go_upto_region 1 with fail
  refine region_quiet_all (Below w.heap.size w) (by kernel_rfl) (by kernel_rfl) (below_drewN (Below.refl _ _) 1) ?_
  refine wpQ_move _ rfl rfl (hP g) rfl ?_
  simp only [Act.put, List.setIfInBounds_toArray, List.set_cons_zero, List.set_cons_succ]
  refine wpQ_move _ rfl rfl (.int .u32 (k : Int)) rfl ?_
  simp only [Act.put, List.setIfInBounds_toArray, List.set_cons_zero, List.set_cons_succ]
  refine wpQ_val rfl (hP g) (fun w' hC => by go_simp) ?_
  simp only [Act.put, List.setIfInBounds_toArray, List.set_cons_zero, List.set_cons_succ]
  refine wpQ_val rfl (.pointer (some ⟨g, 11, none⟩)) (fun w' hC => by go_simp) ?_
  simp only [Act.put, List.setIfInBounds_toArray, List.set_cons_zero, List.set_cons_succ]
  refine wpQ_val rfl (.pointer (some ⟨g, 11 + k * 3, none⟩)) (fun w' hC => by go_simp) ?_
  simp only [Act.put, List.setIfInBounds_toArray, List.set_cons_zero, List.set_cons_succ]
  refine wpQ_val rfl (.agg #[.int .i64 (ew : Int), .int .i64 (er : Int), .int .u32 (a : Int)]) (fun w' hC => by 
      have q0 := (hC.cell (p := ⟨g, 11 + k * 3, none⟩) HL.out).trans HC0.out
      have q1 := (hC.cell (p := ⟨g, 11 + k * 3 + 1, none⟩) HL.out).trans HC1.out
      have q2 := (hC.cell (p := ⟨g, 11 + k * 3 + 2, none⟩) HL.out).trans HC2.out
      go_simp) ?_
  simp only [Act.put, List.setIfInBounds_toArray, List.set_cons_zero, List.set_cons_succ]
  refine wpQ_fn 38 _ _ rfl rfl #[.agg #[.int .i64 (ew : Int), .int .i64 (er : Int), .int .u32 (a : Int)]] rfl (fun _ => by go_simp) (.int .u8 (y : Int)) (fun w' hC => (kB w').mono fun e w'' ⟨he, hb⟩ => ⟨he, below_class hC hb⟩) ?_
  simp only [Act.put, List.setIfInBounds_toArray, List.set_cons_zero, List.set_cons_succ]
  refine wpQ_move _ rfl rfl (hP g) rfl ?_
  simp only [Act.put, List.setIfInBounds_toArray, List.set_cons_zero, List.set_cons_succ]
  refine wpQ_move _ rfl rfl (.int .u32 (k : Int)) rfl ?_
  simp only [Act.put, List.setIfInBounds_toArray, List.set_cons_zero, List.set_cons_succ]
  refine wpQ_val rfl (hP g) (fun w' hC => by go_simp) ?_
  simp only [Act.put, List.setIfInBounds_toArray, List.set_cons_zero, List.set_cons_succ]
  refine wpQ_val rfl (.pointer (some ⟨g, 59, none⟩)) (fun w' hC => by go_simp) ?_
  simp only [Act.put, List.setIfInBounds_toArray, List.set_cons_zero, List.set_cons_succ]
  refine wpQ_val rfl (.pointer (some ⟨g, 59 + k, none⟩)) (fun w' hC => by go_simp) ?_
  simp only [Act.put, List.setIfInBounds_toArray, List.set_cons_zero, List.set_cons_succ]
  refine wpQ_val rfl (.bool lb) (fun w' hC => by 
      have q0 := (hC.cell (p := ⟨g, 59 + k, none⟩) HL.out).trans HCL.out
      go_simp) ?_
  simp only [Act.put, List.setIfInBounds_toArray, List.set_cons_zero, List.set_cons_succ]
  refine wpQ_fn 32 _ _ rfl rfl #[.bool lb, .int .u32 128] rfl (fun _ => by go_simp) (.int .u32 (l : Int)) (fun w' hC => (kb w').mono fun e w'' ⟨he, hb⟩ => ⟨he, hb ▸ hC⟩) ?_
  simp only [Act.put, List.setIfInBounds_toArray, List.set_cons_zero, List.set_cons_succ]
  refine wpQ_val rfl (.int .u8 (l : Int)) (fun w' hC => by go_simp) ?_
  simp only [Act.put, List.setIfInBounds_toArray, List.set_cons_zero, List.set_cons_succ]
  refine wpQ_val rfl (.int .u8 (c : Int)) (fun w' hC => by go_simp) ?_
  simp only [Act.put, List.setIfInBounds_toArray, List.set_cons_zero, List.set_cons_succ]
  refine wpQ_val rfl (.int .u8 (c : Int)) (fun w' hC => by go_simp) ?_
  simp only [Act.put, List.setIfInBounds_toArray, List.set_cons_zero, List.set_cons_succ]
  refine wpQuiet_nil ?_
  intro w' hC
  go_wp2_with fail
  go_ret
  exact ⟨rfl, hC⟩
theorem or_up (X c i : Nat) (hX : X < 2 ^ i) (hX2 : X < 4294967296) (hc : c * 2 ^ i < 4294967296) : bits .or .u32 (X : Int) ((c * 2 ^ i : Nat) : Int) = ((X + c * 2 ^ i : Nat) : Int) := by
  have h := or32 (c * 2 ^ i) X i hX hc hX2 (Nat.mul_mod_left _ _)
  rw [u32_or_nat _ _ hX2 hc, Nat.or_comm, ← u32_or_nat _ _ hc hX2, h, Nat.add_comm]
set_option maxRecDepth 100000 in
set_option maxHeartbeats 4000000 in
theorem configs_any (w : World) (g i : Nat) (s : St) (H : IsF w g s) (hi : i < 4) : Calls Tryd.prog 28 #[hP g, .int .u32 (i : Int)] w fun e w' => e = .returned (.int .u32 ((word4 s.cfg (4 * i) : Nat) : Int)) ∧ Below w.heap.size w w' := by
  have k0 := fun W (hW : IsF W g s) => config_any W g (4 * i) s hW (by omega)
  have k1 := fun W (hW : IsF W g s) => config_any W g (4 * i + 1) s hW (by omega)
  have k2 := fun W (hW : IsF W g s) => config_any W g (4 * i + 2) s hW (by omega)
  have k3 := fun W (hW : IsF W g s) => config_any W g (4 * i + 3) s hW (by omega)
  have b0 := H.inv.ok.cfg (4 * i)
  have b1 := H.inv.ok.cfg (4 * i + 1)
  have b2 := H.inv.ok.cfg (4 * i + 2)
  have b3 := H.inv.ok.cfg (4 * i + 3)
  unfold word4
  generalize s.cfg (4 * i) = x0 at *
  generalize s.cfg (4 * i + 1) = x1 at *
  generalize s.cfg (4 * i + 2) = x2 at *
  generalize s.cfg (4 * i + 3) = x3 at *
  obtain ⟨j0, e0⟩ : ∃ j, j = 4 * i := ⟨_, rfl⟩
  obtain ⟨j1, e1⟩ : ∃ j, j = 4 * i + 1 := ⟨_, rfl⟩
  obtain ⟨j2, e2⟩ : ∃ j, j = 4 * i + 2 := ⟨_, rfl⟩
  obtain ⟨j3, e3⟩ : ∃ j, j = 4 * i + 3 := ⟨_, rfl⟩
  rw [← e0] at k0
  rw [← e1] at k1
  rw [← e2] at k2
  rw [← e3] at k3
  have f0 : 4 * (i : Int) = (j0 : Int) := by omega
  have f1 : (j0 : Int) + 1 = (j1 : Int) := by omega
  have f2 : (j0 : Int) + 2 = (j2 : Int) := by omega
  have f3 : (j0 : Int) + 3 = (j3 : Int) := by omega
  have g0 : (j0 : Int) < 16 := by omega
  have g1 : (j1 : Int) < 16 := by omega
  have g2 : (j2 : Int) < 16 := by omega
  have g3 : (j3 : Int) < 16 := by omega
  obtain ⟨X1, y1⟩ : ∃ X, X = x0 := ⟨_, rfl⟩
  obtain ⟨X2, y2⟩ : ∃ X, X = x0 + 256 * x1 := ⟨_, rfl⟩
  obtain ⟨X3, y3⟩ : ∃ X, X = x0 + 256 * x1 + 65536 * x2 := ⟨_, rfl⟩
  obtain ⟨X4, y4⟩ : ∃ X, X = x0 + 256 * x1 + 65536 * x2 + 16777216 * x3 := ⟨_, rfl⟩
  have o1 : bits .or .u32 (X1 : Int) ((x1 : Int) * 256) = (X2 : Int) := by
    have h := or_up X1 x1 8 (by omega) (by omega) (by omega)
    rw [show ((x1 * 2 ^ 8 : Nat) : Int) = (x1 : Int) * 256 by omega] at h
    rw [h]; omega
  have o2 : bits .or .u32 (X2 : Int) ((x2 : Int) * 65536) = (X3 : Int) := by
    have h := or_up X2 x2 16 (by omega) (by omega) (by omega)
    rw [show ((x2 * 2 ^ 16 : Nat) : Int) = (x2 : Int) * 65536 by omega] at h
    rw [h]; omega
  have o3 : bits .or .u32 (X3 : Int) ((x3 : Int) * 16777216) = (X4 : Int) := by
    have h := or_up X3 x3 24 (by omega) (by omega) (by omega)
    rw [show ((x3 * 2 ^ 24 : Nat) : Int) = (x3 : Int) * 16777216 by omega] at h
    rw [h]; omega
  have o0 : bits .or .u32 0 (x0 : Int) = (X1 : Int) := by
    have h := u32_or_nat 0 x0 (by decide) (by omega)
    rw [Nat.zero_or] at h
    rw [y1]; exact h
  rw [← y4]
  have l0 : (x0 : Int) < 256 := by omega
  have l1 : (x1 : Int) < 256 := by omega
  have l2 : (x2 : Int) < 256 := by omega
  have l3 : (x3 : Int) < 256 := by omega
  have m1 : ((x1 : Int) * 256) % 4294967296 = (x1 : Int) * 256 := by omega
  have m2 : ((x2 : Int) * 65536) % 4294967296 = (x2 : Int) * 65536 := by omega
  have m3 : ((x3 : Int) * 16777216) % 4294967296 = (x3 : Int) * 16777216 := by omega
  have HY := Lib.hid (And.intro y1 (And.intro y2 (And.intro y3 (And.intro y4 (And.intro e0 (And.intro e1 (And.intro e2 e3)))))))
  have HI := Lib.hid H
  clear y1 y2 y3 y4 e0 e1 e2 e3 b0 b1 b2 b3 H
  go_enter Tryd.func28, Tryd.ntmps28
  go_wp2_with fail
  go_loopw [5, 7] (fun xt ct wr => ((ct = .int .u32 0 ∧ xt = .int .u32 0) ∨ (ct = .int .u32 1 ∧ xt = .int .u32 (X1 : Int)) ∨ (ct = .int .u32 2 ∧ xt = .int .u32 (X2 : Int)) ∨ (ct = .int .u32 3 ∧ xt = .int .u32 (X3 : Int)) ∨ (ct = .int .u32 4 ∧ xt = .int .u32 (X4 : Int))) ∧ Below w.heap.size w wr) (fun _ ct _ => (4 - (intOf ct)).toNat)
  case atStart => exact ⟨Or.inl ⟨rfl, rfl⟩, Below.refl _ _⟩
  case round =>
    obtain ⟨hor, hb⟩ := hrel
    have HB := Lib.hid hb
    rcases hor with ⟨rfl, rfl⟩ | ⟨rfl, rfl⟩ | ⟨rfl, rfl⟩ | ⟨rfl, rfl⟩ | ⟨rfl, rfl⟩
    · have kk := k0 wr (HI.out.after hb)
      clear hb k0 k1 k2 k3
      go_wp2_with (go_at_call 41; with_reducible refine kk.mono ?_; rintro e w2 ⟨rfl, hb2⟩)
      go_roundw
      case rel => exact ⟨Or.inr (Or.inl ⟨rfl, rfl⟩), HB.out.trans (hb2.mono HB.out.size)⟩
      case measure => decide
    · have kk := k1 wr (HI.out.after hb)
      clear hb k0 k1 k2 k3
      go_wp2_with (go_at_call 41; with_reducible refine kk.mono ?_; rintro e w2 ⟨rfl, hb2⟩)
      go_roundw
      case rel => exact ⟨Or.inr (Or.inr (Or.inl ⟨rfl, rfl⟩)), HB.out.trans (hb2.mono HB.out.size)⟩
      case measure => decide
    · have kk := k2 wr (HI.out.after hb)
      clear hb k0 k1 k2 k3
      go_wp2_with (go_at_call 41; with_reducible refine kk.mono ?_; rintro e w2 ⟨rfl, hb2⟩)
      go_roundw
      case rel => exact ⟨Or.inr (Or.inr (Or.inr (Or.inl ⟨rfl, rfl⟩))), HB.out.trans (hb2.mono HB.out.size)⟩
      case measure => decide
    · have kk := k3 wr (HI.out.after hb)
      clear hb k0 k1 k2 k3
      go_wp2_with (go_at_call 41; with_reducible refine kk.mono ?_; rintro e w2 ⟨rfl, hb2⟩)
      go_roundw
      case rel => exact ⟨Or.inr (Or.inr (Or.inr (Or.inr (⟨rfl, rfl⟩)))), HB.out.trans (hb2.mono HB.out.size)⟩
      case measure => decide
    · clear hb
      go_wp2_with fail
      go_ret
      exact ⟨rfl, HB.out⟩
set_option maxRecDepth 100000 in
set_option maxHeartbeats 2000000 in
theorem cread_any (w : World) (g : Nat) (s : St) (n : Nat) (H : IsF w g s) (hn : n < 4294967296) : Calls Tryd.prog 10 #[hP g, .int .u32 (n : Int)] w fun e w' => e = .returned (.tuple #[.int .u32 (((readC s n).getD 0 : Nat) : Int), .bool (readC s n).isSome]) ∧ Below w.heap.size w w' := by
  have kc := among_cfg n
  have ka := among_adr n
  have kv := among_ven n
  have hlt : (n : Int) < 4294967296 := by omega
  by_cases h1 : 928 ≤ n ∧ n < 932
  · rw [decide_eq_true h1] at kc
    have hr : readC s n = some (word4 s.cfg (4 * (n - 928))) := by
      unfold readC
      rw [if_neg (by omega), if_neg (by omega), if_neg (by omega), if_neg (by omega), if_neg (by omega), if_neg (by omega), if_pos h1]
    rw [hr]
    dsimp only [Option.getD_some, Option.isSome_some]
    have kk := configs_any w g (n - 928) s H (by omega)
    obtain ⟨i, hi⟩ : ∃ i, i = n - 928 := ⟨_, rfl⟩
    rw [← hi] at kk ⊢
    have e1 : (n : Int) - 928 = (i : Int) := by omega
    have i4 : (i : Int) < 4 := by omega
    generalize word4 s.cfg (4 * i) = v at *
    clear hi H hr
    go_enter Tryd.func10, Tryd.ntmps10
    go_wp2_with (first
      | (go_at_call 27; with_reducible refine (kc _).mono ?_; rintro e w2 ⟨rfl, rfl⟩)
      | (go_at_call 28; with_reducible refine kk.mono ?_; rintro e w2 ⟨rfl, hb2⟩))
    go_ret2
    exact ⟨rfl, hb2⟩
  rw [decide_eq_false h1] at kc
  by_cases h2 : 944 ≤ n ∧ n < 960
  · rw [decide_eq_true h2] at ka
    have hr : readC s n = some (s.r n) := read_k s n (by omega) (by omega) h1 (by
      unfold isK
      simp only [Bool.or_eq_true, beq_iff_eq, Bool.and_eq_true, decide_eq_true_eq]
      omega)
    rw [hr]
    dsimp only [Option.getD_some, Option.isSome_some]
    obtain ⟨k, hk⟩ : ∃ k, k = n - 944 := ⟨_, rfl⟩
    have e1 : (n : Int) - 944 = (k : Int) := by omega
    have dk : (k : Int) < 16 := by omega
    have hat := fun W => at_ent g k dk W
    have c2 : w.cell? ⟨g, 11 + k * 3 + 2, none⟩ = some (.int .u32 (s.r n : Int)) := by
      have h := H.ce k 2 (by omega) (by decide)
      rw [show s.r n = s.r (944 + k) by rw [hk, show 944 + (n - 944) = n by omega]]
      exact h
    generalize s.r n = v at *
    clear hk H hr
    go_enter Tryd.func10, Tryd.ntmps10
    go_wp2_with (first
      | (go_at_call 27; with_reducible refine (kc _).mono ?_; rintro e w2 ⟨rfl, rfl⟩)
      | (go_at_call 27; with_reducible refine (ka _).mono ?_; rintro e w2 ⟨rfl, rfl⟩))
    go_ret2
    exact ⟨rfl, Below.refl _ _⟩
  rw [decide_eq_false h2] at ka
  by_cases h3 : 3857 ≤ n ∧ n < 3861
  · rw [decide_eq_true h3] at kv
    have hr : readC s n = some 0 := by
      unfold readC
      rw [if_neg (by omega), if_neg (by omega), if_neg (by omega), if_neg (by omega), if_neg (by omega), if_pos (by omega)]
    rw [hr]
    clear hr H
    go_enter Tryd.func10, Tryd.ntmps10
    go_wp2_with (first
      | (go_at_call 27; with_reducible refine (kc _).mono ?_; rintro e w2 ⟨rfl, rfl⟩)
      | (go_at_call 27; with_reducible refine (ka _).mono ?_; rintro e w2 ⟨rfl, rfl⟩)
      | (go_at_call 27; with_reducible refine (kv _).mono ?_; rintro e w2 ⟨rfl, rfl⟩))
    go_ret2
    exact ⟨rfl, Below.refl _ _⟩
  rw [decide_eq_false h3] at kv
  have kk := rs_any w g n s H h1 h2 h3
  generalize readC s n = r at *
  clear H
  go_enter Tryd.func10, Tryd.ntmps10
  go_wp2_with (first
    | (go_at_call 27; with_reducible refine (kc _).mono ?_; rintro e w2 ⟨rfl, rfl⟩)
    | (go_at_call 27; with_reducible refine (ka _).mono ?_; rintro e w2 ⟨rfl, rfl⟩)
    | (go_at_call 27; with_reducible refine (kv _).mono ?_; rintro e w2 ⟨rfl, rfl⟩)
    | (go_at_call 29; with_reducible refine kk.mono ?_; rintro e w2 ⟨rfl, hb2⟩))
  go_ret2
  exact ⟨rfl, hb2⟩
end Go.Proofs.YthaockngbagdhaaDoor.Cs
