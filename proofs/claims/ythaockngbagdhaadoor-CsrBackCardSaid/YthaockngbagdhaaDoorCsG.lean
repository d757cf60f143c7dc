/-
Layer 15: the reference's Timer, Trap, Back, Tick.
-/
import Derived.Test.YthaockngbagdhaaDoorCsF
namespace Go.Proofs.YthaockngbagdhaaDoor.Cs
open Go Go.RowKit

def timC (s : St) (on : Bool) : St := { s with r := upd s.r 836 (if on = true then 128 else 0) }
def trR (s : St) (pc ca tv : Nat) : Nat → Nat := upd (upd (upd (upd s.r 833 (pc - pc % 4)) 834 ca) 835 tv) 768 (s.r 768 / 8 % 2 * 128 + s.mode * 2048)
def trapC (s : St) (pc ca tv : Nat) : St := { s with r := trR s pc ca tv, mode := 3 }
def backC (s : St) : St := { s with mode := s.r 768 / 2048 % 4, r := upd s.r 768 (s.r 768 / 128 % 2 * 8 + 128) }
def tickC (s : St) (done : Bool) : St := { s with cyc := (s.cyc + 1) % 18446744073709551616, ret := if done = true then (s.ret + 1) % 18446744073709551616 else s.ret }
theorem reg_ok (s : St) (h : s.Ok) (k v : Nat) (hk : k ≠ 768) (hv : v < 4294967296) : ({ s with r := upd s.r k v } : St).Ok :=
  ⟨h.mode, fun x => by dsimp only; unfold upd; split; exact hv; exact h.r x, h.cfg, h.cyc, h.ret, by dsimp only; rw [upd_other _ _ (Ne.symm hk)]; exact h.st, by dsimp only; rw [upd_other _ _ (Ne.symm hk)]; exact h.mpp, h.bits⟩
theorem sta_ok (s : St) (h : s.Ok) (v : Nat) (hv : v < 8192) (hm : v / 2048 % 4 = 0 ∨ v / 2048 % 4 = 3) : ({ s with r := upd s.r 768 v } : St).Ok :=
  ⟨h.mode, fun x => by dsimp only; unfold upd; split; omega; exact h.r x, h.cfg, h.cyc, h.ret, by dsimp only; rw [upd_same]; exact hv, by dsimp only; rw [upd_same]; exact hm, h.bits⟩
theorem mode_ok (s : St) (h : s.Ok) (m : Nat) (hm : m = 0 ∨ m = 3) : ({ s with mode := m } : St).Ok := ⟨hm, h.r, h.cfg, h.cyc, h.ret, h.st, h.mpp, h.bits⟩
theorem timC_ok (s : St) (h : s.Ok) (on : Bool) : (timC s on).Ok := reg_ok s h _ _ (by decide) (by split <;> decide)
theorem trapC_ok (s : St) (h : s.Ok) (pc ca tv : Nat) (h1 : pc < 4294967296) (h2 : ca < 4294967296) (h3 : tv < 4294967296) : (trapC s pc ca tv).Ok := by
  have a1 := reg_ok s h 833 (pc - pc % 4) (by decide) (by omega)
  have a2 := reg_ok _ a1 834 ca (by decide) h2
  have a3 := reg_ok _ a2 835 tv (by decide) h3
  have hm := h.mode
  have a4 := sta_ok _ a3 (s.r 768 / 8 % 2 * 128 + s.mode * 2048) (by omega) (by omega)
  exact mode_ok _ a4 3 (Or.inr rfl)
theorem backC_ok (s : St) (h : s.Ok) : (backC s).Ok := by
  have a1 := sta_ok s h (s.r 768 / 128 % 2 * 8 + 128) (by omega) (by omega)
  exact mode_ok _ a1 _ h.mpp
theorem tickC_ok (s : St) (h : s.Ok) (d : Bool) : (tickC s d).Ok := by
  have h2 := h.ret
  exact ⟨h.mode, h.r, h.cfg, Nat.mod_lt _ (by decide), by show (if d = true then _ else _) < _; split; exact Nat.mod_lt _ (by decide); exact h2, h.st, h.mpp, h.bits⟩
theorem upd_upd {α : Type} (f : Nat → α) (k : Nat) (a b : α) : upd (upd f k a) k b = upd f k b := by
  funext j
  unfold upd
  split <;> rfl
theorem OG {h mb : Nat} {w w' : World} (k : w.grownBy w' (some mb)) : Only (SR h mb) w w' := Only.of_grown k fun l e => by injection e with e; exact Or.inr e.symm
def L24 (s : St) : Prop := ∀ k, isK k = true → (rM s k).isSome = true
theorem some_in (s : St) (k : Nat) (h : isK k = true) : (if (rM s k).isSome = true then 0 else 1) = 0 := by rw [rM_in s k h]; rfl
set_option maxRecDepth 100000 in
set_option maxHeartbeats 4000000 in
theorem rtimer_any (s : St) (b : Bool) (h mb : Nat) (w : World) (H : Ref w h mb s) : Calls Tryd.prog 22 #[hP h, .bool b] w fun e w' => e = .returned (.tuple #[]) ∧ Ref w' h mb (timC s b) ∧ Only (SR h mb) w w' := by
  have hc : w.cell? ⟨h, 1, none⟩ = some (.map (some mb)) := H.blk.cellTab 1 (by decide)
  cases b
  · go_enter Tryd.func22, Tryd.ntmps22
    go_wp2_with (
    refine wp_mapput rfl _ _ _ rfl rfl H.map 836 0 rfl rfl (by decide) (by decide) (by decide) 24 (by rw [some_in _ _ rfl]; exact Nat.le_refl _) ?_
    intro w1 hM1 hg1
    go_frame)
    first | go_end0 | refine bodyPost_ret (results_none rfl _ _ _) rfl ?_
    exact ⟨rfl, H.reg 836 0 rfl hM1 hg1 (timC_ok s H.ok false), Only.of_grown hg1 fun l e => by injection e with e; exact Or.inr e.symm⟩
  · go_enter Tryd.func22, Tryd.ntmps22
    go_upto_region 1 with (
    refine wp_mapput rfl _ _ _ rfl rfl H.map 836 0 rfl rfl (by decide) (by decide) (by decide) 24 (by rw [some_in _ _ rfl]; exact Nat.le_refl _) ?_
    intro w1 hM1 hg1
    go_frame)
    have H1 : Ref w1 h mb { s with r := upd s.r 836 0 } := H.reg 836 0 rfl hM1 hg1 (timC_ok s H.ok false)
    have hc1 : w1.cell? ⟨h, 1, none⟩ = some (.map (some mb)) := H1.blk.cellTab 1 (by decide)
    have HM2 := H1.map
    clear hM1
    go_wp2_with (
    refine wp_mapput rfl _ _ _ rfl rfl HM2 836 128 rfl rfl (by decide) (by decide) (by decide) 24 (by rw [some_in _ _ rfl]; exact Nat.le_refl _) ?_
    intro w2 hM2 hg2
    go_frame)
    first | go_end0 | refine bodyPost_ret (results_none rfl _ _ _) rfl ?_
    have hfin := H1.reg 836 128 rfl hM2 hg2 (by have := timC_ok _ H1.ok true; exact this)
    dsimp only at hfin
    rw [upd_upd] at hfin
    exact ⟨rfl, hfin, (Only.of_grown hg1 fun l e => by injection e with e; exact Or.inr e.symm).trans (Only.of_grown hg2 fun l e => by injection e with e; exact Or.inr e.symm)⟩
set_option maxRecDepth 100000 in
set_option maxHeartbeats 4000000 in
theorem rtick_any (s : St) (b : Bool) (h mb : Nat) (w : World) (H : Ref w h mb s) : Calls Tryd.prog 26 #[hP h, .bool b] w fun e w' => e = .returned (.tuple #[]) ∧ Ref w' h mb (tickC s b) ∧ Only (SR h mb) w w' := by
  have hc : w.cell? ⟨h, 18, none⟩ = some (.int .u64 (s.cyc : Int)) := H.blk.cellTab 18 (by decide)
  have hf : w.frozen? ⟨h, 18, none⟩ = false := H.blk.free 18
  have hd : w.cell? ⟨h, 19, none⟩ = some (.int .u64 (s.ret : Int)) := H.blk.cellTab 19 (by decide)
  have hlt := H.ok.cyc
  have hlt2 := H.ok.ret
  obtain ⟨c, hcc⟩ : ∃ c, c = (s.cyc + 1) % 18446744073709551616 := ⟨_, rfl⟩
  have w1 : IntKind.u64.wrap ((s.cyc : Int) + 1) = (c : Int) := by
    have h2 : ((s.cyc : Int) + 1) % 18446744073709551616 = (c : Int) := by omega
    simpa [IntKind.wrap, IntKind.signed, IntKind.bits] using h2
  obtain ⟨d, hdd⟩ : ∃ d, d = (s.ret + 1) % 18446744073709551616 := ⟨_, rfl⟩
  have w2 : IntKind.u64.wrap ((s.ret : Int) + 1) = (d : Int) := by
    have h2 : ((s.ret : Int) + 1) % 18446744073709551616 = (d : Int) := by omega
    simpa [IntKind.wrap, IntKind.signed, IntKind.bits] using h2
  have w1b : ((s.cyc : Int) + 1) % 18446744073709551616 = (c : Int) := by omega
  have w2b : ((s.ret : Int) + 1) % 18446744073709551616 = (d : Int) := by omega
  have H1 := H.cyc c (by omega)
  have hd1 : (w.setCell ⟨h, 18, none⟩ (.int .u64 (c : Int))).cell? ⟨h, 19, none⟩ = some (.int .u64 (s.ret : Int)) := H1.blk.cellTab 19 (by decide)
  have hf1 : (w.setCell ⟨h, 18, none⟩ (.int .u64 (c : Int))).frozen? ⟨h, 19, none⟩ = false := H1.blk.free 19
  have hf0 : w.frozen? ⟨h, 19, none⟩ = false := H.blk.free 19
  have H2 := H1.ret d (by omega)
  have E1 : ({ s with cyc := c } : St) = tickC s false := by unfold tickC; rw [hcc]; rfl
  have E2 : ({ s with cyc := c, ret := d } : St) = tickC s true := by unfold tickC; rw [hcc, hdd]; rfl
  have HH := Lib.hid (And.intro H1 (And.intro H2 (And.intro E1 (And.intro E2 (And.intro hcc hdd)))))
  generalize s.cyc = x at *
  generalize s.ret = y at *
  clear H1 H2 E1 E2 hcc hdd hlt hlt2 H
  cases b
  · go_enter Tryd.func26, Tryd.ntmps26
    go_wp2_with fail
    first | go_end0 | refine bodyPost_ret (results_none rfl _ _ _) rfl ?_
    have q := HH.out
    exact ⟨rfl, by rw [← q.2.2.1]; exact q.1, Only.setCell _ (Or.inl rfl) _⟩
  · go_enter Tryd.func26, Tryd.ntmps26
    go_wp2_with fail
    first | go_end0 | refine bodyPost_ret (results_none rfl _ _ _) rfl ?_
    have q := HH.out
    exact ⟨rfl, by rw [← q.2.2.2.1]; exact q.2.1, (Only.setCell _ (Or.inl rfl) _).trans (Only.setCell _ (Or.inl rfl) _)⟩
set_option maxRecDepth 100000 in
set_option maxHeartbeats 4000000 in
theorem rtrap_any (s : St) (pc ca tv h mb : Nat) (w : World) (H : Ref w h mb s) (hpc : pc < 4294967296) (hl_ca : ca < 4294967296) (hl_tv : tv < 4294967296) :
    Calls Tryd.prog 23 #[hP h, .int .i64 (pc : Int), .int .i64 (ca : Int), .int .i64 (tv : Int)] w fun e w' => e = .returned (.int .i64 (s.r 773 : Int)) ∧ Ref w' h mb (trapC s pc ca tv) ∧ Only (SR h mb) w w' := by
  have hpI : (pc : Int) < 4294967296 := by omega
  obtain ⟨q, hq⟩ : ∃ q, q = pc % 4 := ⟨_, rfl⟩
  have e1 : (pc : Int).tmod 4 = (q : Int) := by rw [hq]; exact tmN pc 4
  have hqI : (q : Int) < 4 := by omega
  obtain ⟨p, hp⟩ : ∃ p, p = pc - q := ⟨_, rfl⟩
  have e2 : (pc : Int) - (q : Int) = (p : Int) := by omega
  have hl_p : p < 4294967296 := by omega
  have hc : w.cell? ⟨h, 1, none⟩ = some (.map (some mb)) := H.blk.cellTab 1 (by decide)
  have HP := Lib.hid (And.intro hq hp)
  clear hq hp
  go_enter Tryd.func23, Tryd.ntmps23
  go_upto_region 2 with (
    refine wp_mapput rfl _ _ _ rfl rfl H.map 833 p rfl rfl (by decide) hl_p (by decide) 24 (by rw [some_in _ _ rfl]; exact Nat.le_refl _) ?_
    intro w1 hM1 hg1
    go_frame)
  have H1 := H.reg 833 p rfl hM1 hg1 (reg_ok s H.ok 833 p (by decide) hl_p)
  have hc1 : w1.cell? ⟨h, 1, none⟩ = some (.map (some mb)) := H1.blk.cellTab 1 (by decide)
  have HM1 := H1.map
  clear hM1
  go_upto_region 3 with (
    refine wp_mapput rfl _ _ _ rfl rfl HM1 834 ca rfl rfl (by decide) hl_ca (by decide) 24 (by rw [some_in _ _ rfl]; exact Nat.le_refl _) ?_
    intro w2 hM2 hg2
    go_frame)
  have H2 := H1.reg 834 ca rfl hM2 hg2 (reg_ok _ H1.ok 834 ca (by decide) hl_ca)
  have hc2 : w2.cell? ⟨h, 1, none⟩ = some (.map (some mb)) := H2.blk.cellTab 1 (by decide)
  have HM2 := H2.map
  clear hM2
  go_upto_region 4 with (
    refine wp_mapput rfl _ _ _ rfl rfl HM2 835 tv rfl rfl (by decide) hl_tv (by decide) 24 (by rw [some_in _ _ rfl]; exact Nat.le_refl _) ?_
    intro w3 hM3 hg3
    go_frame)
  have H3 := H2.reg 835 tv rfl hM3 hg3 (reg_ok _ H2.ok 835 tv (by decide) hl_tv)
  have hc3 : w3.cell? ⟨h, 1, none⟩ = some (.map (some mb)) := H3.blk.cellTab 1 (by decide)
  have hm3 : w3.cell? ⟨h, 0, none⟩ = some (.int .i64 (s.mode : Int)) := H3.blk.cellTab 0 (by decide)
  have HM3 := H3.map
  have hst := H.ok.st
  have hmo := H.ok.mode
  have hlk : ∀ n, (Instr.lookup 57 (.map (some mb)) (.int .i64 768) false).run Tryd.prog (w3.drewN n) = .ok (.int .i64 (s.r 768 : Int)) (w3.drewN n) := fun n => by
    have h0 := (HM3.drewN n).look (t := 768) (by decide)
    rw [rM_in _ 768 rfl] at h0
    dsimp only [Option.getD_some] at h0
    rw [upd_other _ _ (by decide), upd_other _ _ (by decide), upd_other _ _ (by decide), show ((768 : Nat) : Int) = 768 from rfl] at h0
    exact h0
  obtain ⟨a, ha⟩ : ∃ a, a = s.r 768 / 8 := ⟨_, rfl⟩
  have f1 : (s.r 768 : Int).tdiv 8 = (a : Int) := by rw [ha]; exact tdN _ 8
  obtain ⟨b, hb⟩ : ∃ b, b = a % 2 := ⟨_, rfl⟩
  have f2 : (a : Int).tmod 2 = (b : Int) := by rw [hb]; exact tmN _ 2
  obtain ⟨c, hcq⟩ : ∃ c, c = b * 128 := ⟨_, rfl⟩
  have f3 : (b : Int) * 128 = (c : Int) := by omega
  obtain ⟨m, hm⟩ : ∃ m, m = s.mode * 2048 := ⟨_, rfl⟩
  have f4 : (s.mode : Int) * 2048 = (m : Int) := by omega
  obtain ⟨v, hv⟩ : ∃ v, v = c + m := ⟨_, rfl⟩
  have f5 : (c : Int) + (m : Int) = (v : Int) := by omega
  have g1 : (a : Int) < 4294967296 := by omega
  have g2 : (b : Int) < 2 := by omega
  have g3 : (c : Int) < 256 := by omega
  have g4 : (m : Int) < 8192 := by omega
  have g5 : (v : Int) < 16384 := by omega
  have hl_v : v < 4294967296 := by omega
  have u1 := IntWalk.i64_in (a : Int) (by omega)
  have u2 := IntWalk.i64_in (c : Int) (by omega)
  have u3 := IntWalk.i64_in (m : Int) (by omega)
  have u4 := IntWalk.i64_in (v : Int) (by omega)
  have H4ok := sta_ok _ H3.ok v (by omega) (by omega)
  have HQ := Lib.hid (And.intro ha (And.intro hb (And.intro hcq (And.intro hm hv))))
  have HV := Lib.hid (And.intro H4ok H3)
  have HK := Lib.hid (show isK 773 = true from rfl)
  have HE : Hid (trapC s pc ca tv = { s with mode := 3, r := upd (upd (upd (upd s.r 833 p) 834 ca) 835 tv) 768 v }) := Lib.hid (by
    unfold trapC trR
    rw [hv, hcq, hb, ha, hm, HP.out.2, HP.out.1])
  have hmI : (s.mode : Int) ≤ 3 := by omega
  generalize hr : s.r 768 = r0 at *
  generalize hmm : s.mode = m0 at *
  have HR0 := Lib.hid (And.intro hr hmm)
  clear ha hb hcq hm hv hr hmm H4ok H3 hst hmo
  refine region_quiet_tail (fun w' => ∃ n, w' = w3.drewN n) 18 (by kernel_rfl) (by kernel_rfl) ⟨1, rfl⟩ ?_
  simp only [List.take_succ_cons, List.take_zero, List.drop_succ_cons, List.drop_zero]
  repeat (quiet_step (fail))
  refine wpQuiet_nil ?_
  rintro w' ⟨nq, rfl⟩
  have HM4 := HM3.drewN nq
  go_upto_region 5 with (
    refine wp_mapput rfl _ _ _ rfl rfl HM4 768 v rfl rfl (by decide) hl_v (by decide) 24 (by rw [some_in _ _ rfl]; exact Nat.le_refl _) ?_
    intro w4 hM4 hg4
    go_frame)
  have H3d := HV.out.2.beside (only_drewN w3 nq none) (by simp) (by simp)
  have H4 := H3d.reg 768 v rfl hM4 hg4 HV.out.1
  have H5 : Ref (w4.setCell ⟨h, 0, none⟩ (.int .i64 3)) h mb _ := H4.mode 3 (Or.inr rfl)
  have hc4 : w4.cell? ⟨h, 0, none⟩ = some (.int .i64 (m0 : Int)) := by
    have := H4.blk.cellTab 0 (by decide)
    rw [rV_0] at this
    dsimp only at this
    exact this
  have hf4 : w4.frozen? ⟨h, 0, none⟩ = false := H4.blk.free 0
  have hc5 : (w4.setCell ⟨h, 0, none⟩ (.int .i64 3)).cell? ⟨h, 1, none⟩ = some (.map (some mb)) := H5.blk.cellTab 1 (by decide)
  have hlk5 := H5.map.look (t := 773) (by decide)
  rw [rM_in _ 773 rfl] at hlk5
  dsimp only [Option.getD_some] at hlk5
  rw [upd_other _ _ (by decide), upd_other _ _ (by decide), upd_other _ _ (by decide), upd_other _ _ (by decide), show ((773 : Nat) : Int) = 773 from rfl] at hlk5
  have H5H := Lib.hid H5
  have HGs := Lib.hid (And.intro hg1 (And.intro hg2 (And.intro hg3 hg4)))
  clear H5 H4 H3d HM4 hM4 hg1 hg2 hg3 hg4
  go_wp2_with fail
  go_ret
  refine ⟨rfl, by rw [HE.out]; exact H5H.out, ?_⟩
  have q := HGs.out
  exact (((OG q.1).trans (OG q.2.1)).trans (OG q.2.2.1)).trans (((Only.drewN _ _).trans (OG q.2.2.2)).trans (Only.setCell _ (Or.inl rfl) _))
set_option maxRecDepth 100000 in
set_option maxHeartbeats 4000000 in
theorem rback_any (s : St) (h mb : Nat) (w : World) (H : Ref w h mb s) :
    Calls Tryd.prog 24 #[hP h] w fun e w' => e = .returned (.int .i64 (s.r 833 : Int)) ∧ Ref w' h mb (backC s) ∧ Only (SR h mb) w w' := by
  have hc : w.cell? ⟨h, 1, none⟩ = some (.map (some mb)) := H.blk.cellTab 1 (by decide)
  have hc0 : w.cell? ⟨h, 0, none⟩ = some (.int .i64 (s.mode : Int)) := H.blk.cellTab 0 (by decide)
  have hf0 : w.frozen? ⟨h, 0, none⟩ = false := H.blk.free 0
  have hlk := H.map.look (t := 768) (by decide)
  rw [rM_in _ 768 rfl] at hlk
  dsimp only [Option.getD_some] at hlk
  rw [show ((768 : Nat) : Int) = 768 from rfl] at hlk
  have hst := H.ok.st
  obtain ⟨a, ha⟩ : ∃ a, a = s.r 768 / 2048 := ⟨_, rfl⟩
  have f1 : (s.r 768 : Int).tdiv 2048 = (a : Int) := by rw [ha]; exact tdN _ 2048
  obtain ⟨m, hm⟩ : ∃ m, m = a % 4 := ⟨_, rfl⟩
  have f2 : (a : Int).tmod 4 = (m : Int) := by rw [hm]; exact tmN _ 4
  obtain ⟨b, hb⟩ : ∃ b, b = s.r 768 / 128 := ⟨_, rfl⟩
  have f3 : (s.r 768 : Int).tdiv 128 = (b : Int) := by rw [hb]; exact tdN _ 128
  obtain ⟨c, hcq⟩ : ∃ c, c = b % 2 := ⟨_, rfl⟩
  have f4 : (b : Int).tmod 2 = (c : Int) := by rw [hcq]; exact tmN _ 2
  obtain ⟨d, hd⟩ : ∃ d, d = c * 8 := ⟨_, rfl⟩
  have f5 : (c : Int) * 8 = (d : Int) := by omega
  obtain ⟨v, hv⟩ : ∃ v, v = d + 128 := ⟨_, rfl⟩
  have f6 : (d : Int) + 128 = (v : Int) := by omega
  have g1 : (a : Int) < 4294967296 := by omega
  have g2 : (m : Int) < 4 := by omega
  have g3 : (b : Int) < 4294967296 := by omega
  have g4 : (c : Int) < 2 := by omega
  have g5 : (d : Int) < 16 := by omega
  have g6 : (v : Int) < 256 := by omega
  have hl_v : v < 4294967296 := by omega
  have hmp : m = 0 ∨ m = 3 := by have := H.ok.mpp; rw [hm, ha]; exact this
  have H1 := H.mode m hmp
  have ok2 := sta_ok _ H1.ok v (by omega) (by omega)
  have HE : Hid (backC s = { s with mode := m, r := upd s.r 768 v }) := Lib.hid (by
    unfold backC
    rw [hv, hd, hcq, hb, hm, ha])
  have hc1 : (w.setCell ⟨h, 0, none⟩ (.int .i64 (m : Int))).cell? ⟨h, 1, none⟩ = some (.map (some mb)) := H1.blk.cellTab 1 (by decide)
  have HM1 := H1.map
  have HO := Lib.hid (And.intro H1 ok2)
  generalize s.r 768 = r0 at *
  clear ha hm hb hcq hd hv hst H1 ok2 hmp
  go_enter Tryd.func24, Tryd.ntmps24
  go_upto_region 4 with (
    refine wp_mapput rfl _ _ _ rfl rfl HM1 768 v rfl rfl (by decide) hl_v (by decide) 24 (by rw [some_in _ _ rfl]; exact Nat.le_refl _) ?_
    intro w1 hM1 hg1
    go_frame)
  have H2 := HO.out.1.reg 768 v rfl hM1 hg1 HO.out.2
  have hc2 : w1.cell? ⟨h, 1, none⟩ = some (.map (some mb)) := H2.blk.cellTab 1 (by decide)
  have hlk2 := H2.map.look (t := 833) (by decide)
  rw [rM_in _ 833 rfl] at hlk2
  dsimp only [Option.getD_some] at hlk2
  rw [upd_other _ _ (by decide), show ((833 : Nat) : Int) = 833 from rfl] at hlk2
  have HG := Lib.hid (And.intro hg1 H2)
  clear hM1 hg1 H2
  go_wp2_with fail
  go_ret
  exact ⟨rfl, by rw [HE.out]; exact HG.out.2, (Only.setCell _ (Or.inl rfl) _).trans (OG HG.out.1)⟩
end Go.Proofs.YthaockngbagdhaaDoor.Cs
