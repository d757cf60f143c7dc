/-
Layer 16: what an instruction of the landed hart answers (Ans): a trap that changes nothing, or the end of the instruction; the words and registers of an instruction.
Layer 16: the landed hart's small calls: isOdd, trapped, illegal, set, next, finish, jump.
Layer 16: the landed hart's finish and jump.
-/
import Derived.Test.YtgpofoggfifnjaaGreatDoorJBi
import Derived.Test.YtgpofoggfifnjaaGreatDoorJAo
import Derived.Test.YtgpofoggfifnjaaGreatDoorJAl
namespace Go.Proofs.YtgpofoggfifnjaaGreatDoor.Ha
open Go Go.RowKit
open Go.Proofs.YtgpofoggfifnjaaGreatDoor (two_new RamP stM ldV stB inR mP erI insA insW opOf opP bitsN immU immL rdB r1B r2B Fm TabW)
open Go.Proofs.YtgpofoggfifnjaaGreatDoor.Cs (St IsF Only S1 hP upd upd_other dueC trapC tickC)
open Go.Proofs.YtgpofoggfifnjaaGreatDoor.Pm (TabT)
open Go.Proofs.YtgpofoggfifnjaaGreatDoor.Al (widthN widenN goesN reckN)

/-- an instruction answers R: with a trap nothing has changed -/
def Ans (p g gm : Nat) (x : Nat → Nat) (pc : Nat) (s : St) (m : Nat → UInt8) (R : Res) (w : World) (e : Ending) (w' : World) : Prop :=
  e = .returned (trV R.d) ∧ Only (SH p g gm) w w' ∧
    ((R.d.trap = true ∧ Ht w' p g gm x pc s m ∧ R = trapR R.d x pc s m R.d.cause R.d.tval ∧ R.d.cause < L32 ∧ R.d.tval < L32) ∨ (R.d.trap = false ∧ Ht w' p g gm R.x R.pc s R.m ∧ R.s = tickC s true))
section
variable {w w' : World} {p g gm pc : Nat} {x : Nat → Nat} {s : St} {m : Nat → UInt8} {e : Ending}
theorem Ans.trap (d : Did) (c v : Nat) (he : e = .returned (trV { d with trap := true, cause := c, tval := v })) (hb : Only (SH p g gm) w w') (H : Ht w' p g gm x pc s m) (hc : c < L32) (hv : v < L32) : Ans p g gm x pc s m (trapR d x pc s m c v) w e w' :=
  ⟨he, hb, Or.inl ⟨rfl, H, rfl, hc, hv⟩⟩
theorem Ans.ret {R : Res} (h : Ans p g gm x pc s m R w e w') : e = .returned (trV R.d) := h.1
theorem Ans.on (d : Did) (rd v q : Nat) (hd : d.trap = false) (m' : Nat → UInt8) (he : e = .returned (trV d)) (hb : Only (SH p g gm) w w') (H : Ht w' p g gm (if rd = 0 then x else upd x rd v) q s m') : Ans p g gm x pc s m (onR d x s m' rd v q) w e w' :=
  ⟨he, hb, Or.inr ⟨hd, H, rfl⟩⟩
end
/-- an instruction's fields, as a value -/
def insV (op rd r1 r2 im : Nat) : Value := .agg (tab 5 (insA (op : Int) (rd : Int) (r1 : Int) (r2 : Int) (im : Int)))
def rdN (op w : Nat) : Nat := if rdB (opP op).1 then bitsN w 11 7 else 0
def r1N (op w : Nat) : Nat := if r1B (opP op).1 then bitsN w 19 15 else 0
def r2N (op w : Nat) : Nat := if r2B (opP op).1 then bitsN w 24 20 else 0
def imN (op w : Nat) : Nat := immU (opP op).1 w
theorem insW_is (w op : Nat) (hw : w < 4294967296) : Value.agg (tab 5 (insW w op)) = insV op (rdN op w) (r1N op w) (r2N op w) (imN op w) := by
  unfold insV insW rdN r1N r2N imN
  rw [Go.Proofs.YtgpofoggfifnjaaGreatDoor.immU_is _ _ hw]
theorem rdN_lt (op w : Nat) : rdN op w < 32 := by unfold rdN; split; exact Go.Proofs.YtgpofoggfifnjaaGreatDoor.bitsN_lt w 11 7; decide
theorem r1N_lt (op w : Nat) : r1N op w < 32 := by unfold r1N; split; exact Go.Proofs.YtgpofoggfifnjaaGreatDoor.bitsN_lt w 19 15; decide
theorem r2N_lt (op w : Nat) : r2N op w < 32 := by unfold r2N; split; exact Go.Proofs.YtgpofoggfifnjaaGreatDoor.bitsN_lt w 24 20; decide
theorem imN_lt (op w : Nat) : imN op w < L32 := immU_lt _ _
/-- what is done with an instruction's fields -/
def execF (d : Did) (x : Nat → Nat) (pc : Nat) (s : St) (m : Nat → UInt8) (w op rd r1 r2 im : Nat) : Res :=
  if op = 1 then onR d x s m rd im ((pc + 4) % L32)
  else if op = 2 then onR d x s m rd ((pc + im) % L32) ((pc + 4) % L32)
  else if op = 3 then jumpR d x pc s m rd ((pc + im) % L32)
  else if op = 4 then jumpR d x pc s m rd ((x r1 + im) % L32 / 2 * 2)
  else if op ≤ 10 ∧ 5 ≤ op then (if (goesN (op : Int) (x r1) (x r2)).1 = true then jumpR d x pc s m 0 ((pc + im) % L32) else onR d x s m 0 0 ((pc + 4) % L32))
  else if op ≤ 18 ∧ 11 ≤ op then memR d x pc s m op rd (x r2) ((x r1 + im) % L32) (widthN (op : Int)).toNat (decide (16 ≤ op))
  else if op ≤ 27 ∧ 19 ≤ op then onR d x s m rd (reckN (op : Int) (x r1) im).1 ((pc + 4) % L32)
  else if op ≤ 45 ∧ 28 ≤ op then onR d x s m rd (reckN (op : Int) (x r1) (x r2)).1 ((pc + 4) % L32)
  else if op = 46 then onR d x s m 0 0 ((pc + 4) % L32)
  else if op = 47 then trapR d x pc s m (if s.mode = 0 then 8 else 11) 0
  else if op = 48 then trapR d x pc s m 3 pc
  else trapR d x pc s m 2 w
theorem execF_is (d : Did) (x : Nat → Nat) (pc : Nat) (s : St) (m : Nat → UInt8) (w op : Nat) : execR d x pc s m w op = execF d x pc s m w op (rdN op w) (r1N op w) (r2N op w) (imN op w) := rfl
section
variable {w w' w0 w1 w2 w3 : World} {p g gm pc : Nat} {x : Nat → Nat} {s : St} {m : Nat → UInt8}
theorem Ht.far (H : Ht w p g gm x pc s m) {b : Nat} (k : w.grownBy w' (some b)) (h1 : p ≠ b) (h2 : g ≠ b) (h3 : gm ≠ b) : Ht w' p g gm x pc s m := by
  have o : Only (S1 b) w w' := Only.of_grown k fun l e => by injection e with e; exact e.symm
  exact ⟨o.has H.h h1, ⟨o.has H.f.blk h2, H.f.inv⟩, ram_only H.r o h3, H.pg, H.pm, H.gm, H.xl, H.pl⟩
theorem Ht.lts (H : Ht w p g gm x pc s m) : p < w.heap.size ∧ g < w.heap.size ∧ gm < w.heap.size := ⟨H.h.lt, H.f.lt, by obtain ⟨N, _, h⟩ := H.r; exact h.lt⟩
/-- a fresh block has grown, too -/
theorem Only.fresh {S : Nat → Prop} {b : Nat} (h : Only S w0 w1) (k : w1.grownBy w2 (some b)) (hb : w0.heap.size ≤ b) : Only S w0 w2 :=
  ⟨k.os.trans h.os, k.tape.trans h.tape, k.output.trans h.output, Nat.le_trans h.size k.size, fun i hi hn => (k.block i (Nat.lt_of_lt_of_le hi h.size) (fun e => by injection e with e; omega)).trans (h.block i hi hn)⟩
/-- an answer, behind the store of it into the result's own block -/
theorem Ans.fin {R : Res} {e : Ending} {b : Nat} (H : Ans p g gm x pc s m R w1 e w2) (h0 : Only (SH p g gm) w0 w1) (hl : p < w0.heap.size ∧ g < w0.heap.size ∧ gm < w0.heap.size) (hb : w0.heap.size ≤ b) (k : w2.grownBy w3 (some b)) :
    Ans p g gm x pc s m R w0 (.returned (trV R.d)) w3 := by
  refine ⟨rfl, Only.fresh (h0.trans H.2.1) k hb, ?_⟩
  rcases H.2.2 with ⟨h1, h2, h3⟩ | ⟨h1, h2, h3⟩
  · exact Or.inl ⟨h1, h2.far k (by omega) (by omega) (by omega), h3⟩
  · exact Or.inr ⟨h1, h2.far k (by omega) (by omega) (by omega), h3⟩
end
/-- a call's own blocks: what is told so far, and the result -/
structure F2 (w : World) (n bT bR : Nat) (d : Did) : Prop where
  t : Has w bT 51 (tab 7 (trC d))
  r : Has w bR 51 (tab 7 (trC did0))
  nT : n ≤ bT
  nR : n ≤ bR
  ne : bT ≠ bR
/-- with an instruction, too -/
structure F3 (w : World) (n bI bT bR op rd r1 r2 im : Nat) (d : Did) : Prop where
  f : F2 w n bT bR d
  i : Has w bI 115 (tab 5 (insA (op : Int) (rd : Int) (r1 : Int) (r2 : Int) (im : Int)))
  nI : n ≤ bI
  neT : bI ≠ bT
  neR : bI ≠ bR
section
variable {w w' : World} {n bI bT bR op rd r1 r2 im p g gm : Nat} {d : Did}
theorem F2.after (F : F2 w n bT bR d) (k : Below w.heap.size w w') : F2 w' n bT bR d := ⟨F.t.after k, F.r.after k, F.nT, F.nR, F.ne⟩
theorem F3.after (F : F3 w n bI bT bR op rd r1 r2 im d) (k : Below w.heap.size w w') : F3 w' n bI bT bR op rd r1 r2 im d := ⟨F.f.after k, F.i.after k, F.nI, F.neT, F.neR⟩
theorem sh_out {b : Nat} (hl : p < n ∧ g < n ∧ gm < n) (hb : n ≤ b) : ¬ SH p g gm b := by rintro (h | h | h) <;> omega
theorem F2.sh (F : F2 w n bT bR d) (k : Only (SH p g gm) w w') (hl : p < n ∧ g < n ∧ gm < n) : F2 w' n bT bR d := ⟨k.has F.t (sh_out hl F.nT), k.has F.r (sh_out hl F.nR), F.nT, F.nR, F.ne⟩
theorem F3.sh (F : F3 w n bI bT bR op rd r1 r2 im d) (k : Only (SH p g gm) w w') (hl : p < n ∧ g < n ∧ gm < n) : F3 w' n bI bT bR op rd r1 r2 im d := ⟨F.f.sh k hl, k.has F.i (sh_out hl F.nI), F.nI, F.neT, F.neR⟩
/-- a field of what is told has been put -/
theorem F3.put (F : F3 w n bI bT bR op rd r1 r2 im d) (k : Nat) (v : Value) (d' : Did) (hd : (tab 7 (trC d)).setIfInBounds k v = tab 7 (trC d')) : F3 (w.setCell ⟨bT, k, none⟩ v) n bI bT bR op rd r1 r2 im d' :=
  ⟨⟨by have := F.f.t.set k v; rw [hd] at this; exact this, F.f.r.far (a := ⟨bT, k, none⟩) (Ne.symm F.f.ne) v, F.f.nT, F.f.nR, F.f.ne⟩, F.i.far (a := ⟨bT, k, none⟩) F.neT v, F.nI, F.neT, F.neR⟩
end
/-- a call's own blocks, new -/
theorem two_tr (w : World) (d : Did) : ∃ wa, wa = (w.alloc (.cells (tab 7 (trC d)) 51)).alloc (.cells #[.int .u32 0, .bool false, .int .u32 0, .int .u32 0, .int .u32 0, .int .i64 0, .bool false] 51) ∧ F2 wa w.heap.size w.heap.size (w.heap.size + 1) d ∧ Below w.heap.size w wa := by
  obtain ⟨wa, hwa, h1, h2, h3, _⟩ := two_new w (tab 7 (trC d)) (tab 7 (trC did0)) 51
  exact ⟨wa, hwa, ⟨h1, h2, Nat.le_refl _, by omega, by omega⟩, h3⟩
theorem three_tr (w : World) (op rd r1 r2 im : Nat) (d : Did) : ∃ wa, wa = ((w.alloc (.cells (tab 5 (insA (op : Int) (rd : Int) (r1 : Int) (r2 : Int) (im : Int))) 115)).alloc (.cells (tab 7 (trC d)) 51)).alloc (.cells #[.int .u32 0, .bool false, .int .u32 0, .int .u32 0, .int .u32 0, .int .i64 0, .bool false] 51) ∧ F3 wa w.heap.size w.heap.size (w.heap.size + 1) (w.heap.size + 1 + 1) op rd r1 r2 im d ∧ Below w.heap.size w wa := by
  have hb : Below w.heap.size w (w.alloc (.cells (tab 5 (insA (op : Int) (rd : Int) (r1 : Int) (r2 : Int) (im : Int))) 115)) := (Below.refl _ _).alloc (Nat.le_refl _) _
  have h0 := Has.new w 115 (tab 5 (insA (op : Int) (rd : Int) (r1 : Int) (r2 : Int) (im : Int)))
  have hs := size_alloc1 w (.cells (tab 5 (insA (op : Int) (rd : Int) (r1 : Int) (r2 : Int) (im : Int))) 115)
  obtain ⟨wa, hwa, h1, h3⟩ := two_tr (w.alloc (.cells (tab 5 (insA (op : Int) (rd : Int) (r1 : Int) (r2 : Int) (im : Int))) 115)) d
  rw [hs] at h1
  refine ⟨wa, hwa, ⟨⟨h1.t, h1.r, by omega, by omega, h1.ne⟩, h0.after h3, Nat.le_refl _, by omega, by omega⟩, hb.trans (h3.mono (by omega))⟩
theorem tab7_all {u v : Nat → Value} : tab 7 (fun j => if 0 ≤ j ∧ j < 0 + 7 then v (j - 0) else u j) = tab 7 v := tab_ext _ _ _ fun j hj => by rw [if_pos ⟨Nat.zero_le _, by omega⟩, Nat.sub_zero]
/-- the fields of what is told, put -/
theorem trC_set1 (d : Did) (b : Bool) : (tab 7 (trC d)).setIfInBounds 1 (.bool b) = tab 7 (trC { d with trap := b }) := rfl
theorem trC_set2 (d : Did) (c : Nat) : (tab 7 (trC d)).setIfInBounds 2 (.int .u32 (c : Int)) = tab 7 (trC { d with cause := c }) := rfl
theorem trC_set3 (d : Did) (c : Nat) : (tab 7 (trC d)).setIfInBounds 3 (.int .u32 (c : Int)) = tab 7 (trC { d with tval := c }) := rfl
theorem trC_set4 (d : Did) (c : Nat) : (tab 7 (trC d)).setIfInBounds 4 (.int .u32 (c : Int)) = tab 7 (trC { d with at' := c }) := rfl
theorem trC_set5 (d : Did) (c : Nat) : (tab 7 (trC d)).setIfInBounds 5 (.int .i64 (c : Int)) = tab 7 (trC { d with width := c }) := rfl
theorem trC_set6 (d : Did) (b : Bool) : (tab 7 (trC d)).setIfInBounds 6 (.bool b) = tab 7 (trC { d with store := b }) := rfl
end Go.Proofs.YtgpofoggfifnjaaGreatDoor.Ha
namespace Go.Proofs.YtgpofoggfifnjaaGreatDoor.Ha
open Go Go.RowKit
open Go.Proofs.YtgpofoggfifnjaaGreatDoor (RamP stM ldV stB inR mP erI two_new has_to wp_load_tabI below_fin)
open Go.Proofs.YtgpofoggfifnjaaGreatDoor.Cs (St IsF Only S1 hP upd upd_other dueC trapC tickC)

theorem odd_is (a n : Nat) : ((a : Int) % (n : Int) != 0) = decide (¬ a % n = 0) := by
  by_cases h : a % n = 0
  · rw [decide_eq_false (by omega)]
    have : (a : Int) % (n : Int) = 0 := by omega
    rw [this]
    rfl
  · rw [decide_eq_true h]
    exact bne_iff_ne.2 (by omega)
set_option maxRecDepth 100000 in
set_option maxHeartbeats 1000000 in
theorem isOdd_any (a n : Nat) (hn : n = 1 ∨ n = 2 ∨ n = 4) (w : World) : Calls Tryz.prog 51 #[.int .u32 (a : Int), .int .i64 (n : Int)] w fun e w' => e = .returned (.bool (decide (¬ a % n = 0))) ∧ w = w' := by
  rcases hn with rfl | rfl | rfl
  all_goals
    go_enter Tryz.func51, Tryz.ntmps51
    go_wp2_with fail
    go_ret
    refine ⟨?_, rfl⟩
  · rw [decide_eq_false (by omega)]
    rfl
  · exact congrArg (fun b => Ending.returned (.bool b)) (odd_is a 2)
  · exact congrArg (fun b => Ending.returned (.bool b)) (odd_is a 4)
set_option maxRecDepth 100000 in
set_option maxHeartbeats 1000000 in
theorem trapped_any (d : Did) (c v : Nat) (w : World) : Calls Tryz.prog 50 #[trV d, .int .u32 (c : Int), .int .u32 (v : Int)] w fun e w' => e = .returned (trV { d with trap := true, cause := c, tval := v }) ∧ Below w.heap.size w w' := by
  unfold trV
  go_enter Tryz.func50, Tryz.ntmps50
  go_upto_region 1 with fail
  obtain ⟨wa, hwa, hG0, hR0, hb0, hs0⟩ := two_new w (tab 7 (trC d)) #[.int .u32 0, .bool false, .int .u32 0, .int .u32 0, .int .u32 0, .int .i64 0, .bool false] 51
  rw [← hwa]
  replace hR0 : Has wa (w.heap.size + 1) 51 (tab 7 (trC did0)) := hR0
  have hle : w.heap.size ≤ w.heap.size + 1 := by omega
  have hne : w.heap.size + 1 ≠ w.heap.size := by omega
  clear hwa hs0
  generalize hgT : w.heap.size = bT at *
  generalize hgR : bT + 1 = bR at *
  have h1 := hG0.set 1 (.bool true)
  rw [trC_set1] at h1
  have h2 := h1.set 2 (.int .u32 (c : Int))
  rw [trC_set2] at h2
  have h3 := h2.set 3 (.int .u32 (v : Int))
  rw [trC_set3] at h3
  have c1 : wa.cell? ⟨bT, 1, none⟩ = some (.bool d.trap) := hG0.cellTab 1 (by decide)
  have f1 := hG0.free 1
  have c2 : (wa.setCell ⟨bT, 1, none⟩ (.bool true)).cell? ⟨bT, 2, none⟩ = some (.int .u32 (d.cause : Int)) := h1.cellTab 2 (by decide)
  have f2 := h1.free 2
  have c3 : ((wa.setCell ⟨bT, 1, none⟩ (.bool true)).setCell ⟨bT, 2, none⟩ (.int .u32 (c : Int))).cell? ⟨bT, 3, none⟩ = some (.int .u32 (d.tval : Int)) := h2.cellTab 3 (by decide)
  have f3 := h2.free 3
  have hR3 := ((hR0.far (a := ⟨bT, 1, none⟩) hne (.bool true)).far (a := ⟨bT, 2, none⟩) hne (.int .u32 (c : Int))).far (a := ⟨bT, 3, none⟩) hne (.int .u32 (v : Int))
  have hb3 := ((hb0.setCell (p := ⟨bT, 1, none⟩) (Nat.le_refl _) (.bool true)).setCell (p := ⟨bT, 2, none⟩) (Nat.le_refl _) (.int .u32 (c : Int))).setCell (p := ⟨bT, 3, none⟩) (Nat.le_refl _) (.int .u32 (v : Int))
  have HH := Lib.hid (And.intro h3 (And.intro hR3 hb3))
  have HL := Lib.hid (And.intro hgT hgR)
  clear h1 h2 h3 hR3 hb3 hG0 hR0 hb0 hle hgT hgR hne
  go_wp2_with (first
    | (refine wp_load_tabI rfl 51 _ rfl bT rfl 7 (trC { d with trap := true, cause := c, tval := v }) 51 HH.out.1 _ Tryz.underlying51 rfl infoTr ?_; simp only [Act.put, List.setIfInBounds_toArray, List.set_cons_zero, List.set_cons_succ])
    | (refine wp_store_tab rfl 51 _ _ rfl bR 0 rfl 7 (trC { d with trap := true, cause := c, tval := v }) rfl 7 (trC did0) 51 HH.out.2.1 infoTr (by omega) (trC_one _) ?_; intro w9 hG9 hg9))
  rw [tab7_all] at hG9
  have hE := HH.out
  obtain ⟨e1, e2⟩ := HL.out
  subst e1 e2
  exact bodyPost_ret (results_cell_row rfl _ _ _ 51 _ _ _ rfl hG9 Tryz.underlying51 rfl infoTr) rfl ⟨rfl, below_only hE.2.2 hg9 (by omega) hE.2.2.size⟩
set_option maxRecDepth 100000 in
set_option maxHeartbeats 1000000 in
theorem illegal_any (d : Did) (w : World) : Calls Tryz.prog 81 #[trV d] w fun e w' => e = .returned (trV { d with trap := true, cause := 2, tval := d.word }) ∧ Below w.heap.size w w' := by
  have kT : ∀ W, Calls Tryz.prog 50 #[trV d, .int .u32 2, .int .u32 (d.word : Int)] W fun e w' => e = .returned (trV { d with trap := true, cause := 2, tval := d.word }) ∧ Below W.heap.size W w' := fun W => trapped_any d 2 d.word W
  unfold trV at kT ⊢
  go_enter Tryz.func81, Tryz.ntmps81
  go_upto_region 1 with fail
  obtain ⟨wa, hwa, hF, hb0⟩ := two_tr w d
  rw [← hwa]
  clear hwa
  generalize hgR : w.heap.size + 1 = bR at *
  have HR := Lib.hid hgR
  clear hgR
  have c0 : wa.cell? ⟨w.heap.size, 0, none⟩ = some (.int .u32 (d.word : Int)) := hF.t.cellTab 0 (by decide)
  have HF := Lib.hid hF
  have HB := Lib.hid hb0
  clear hF hb0
  go_wp2_with (first
    | (refine wp_load_tabI rfl 51 _ rfl w.heap.size rfl 7 (trC d) 51 HF.out.t _ Tryz.underlying51 rfl infoTr ?_; simp only [Act.put, List.setIfInBounds_toArray, List.set_cons_zero, List.set_cons_succ])
    | (go_at_call 50; with_reducible refine (kT _).mono ?_; rintro e w2 ⟨rfl, hb⟩)
    | (refine wp_store_tab rfl 51 _ _ rfl bR 0 rfl 7 (trC { d with trap := true, cause := 2, tval := d.word }) rfl 7 (trC did0) 51 (HF.out.after hb).r infoTr (by omega) (trC_one _) ?_; intro w9 hG9 hg9))
  rw [tab7_all] at hG9
  have hbb := HB.out.trans (hb.mono HB.out.size)
  exact bodyPost_ret (results_cell_row rfl _ _ _ 51 _ _ _ rfl hG9 Tryz.underlying51 rfl infoTr) rfl ⟨rfl, below_only hbb hg9 HF.out.nR hbb.size⟩
set_option maxRecDepth 100000 in
set_option maxHeartbeats 1000000 in
theorem hset_any (p g gm pc : Nat) (x : Nat → Nat) (s : St) (m : Nat → UInt8) (rd y : Nat) (w : World) (hH : Ht w p g gm x pc s m) (hr : rd < 32) (hy : y < L32) : Calls Tryz.prog 88 #[hP p, .int .i64 (rd : Int), .int .u32 (y : Int)] w fun e w' => e = .returned (.tuple #[]) ∧ Ht w' p g gm (if rd = 0 then x else upd x rd y) pc s m ∧ Only (SH p g gm) w w' := by
  by_cases h0 : rd = 0
  · rw [if_pos h0]
    subst h0
    have HH := Lib.hid hH
    clear hH
    go_enter Tryz.func88, Tryz.ntmps88
    go_wp2_with fail
    first | go_end0 | refine bodyPost_ret (results_none rfl _ _ _) rfl ?_
    exact ⟨rfl, HH.out, Only.refl _ _⟩
  · rw [if_neg h0]
    have c1 := hH.cx rd hr
    have f1 := hH.free rd
    have HH := Lib.hid (And.intro (hH.setX rd y hr hy) (sh_p (g := g) (gm := gm) (Only.setCell w (a := ⟨p, rd, none⟩) (show S1 p p from rfl) (.int .u32 (y : Int)))))
    have n1 : ((rd : Int) != 0) = true := bne_iff_ne.2 (by omega)
    have n2 : (rd : Int) < 32 := by omega
    clear hH h0
    go_enter Tryz.func88, Tryz.ntmps88
    go_wp2_with fail
    first | go_end0 | refine bodyPost_ret (results_none rfl _ _ _) rfl ?_
    exact ⟨rfl, HH.out.1, HH.out.2⟩
set_option maxRecDepth 100000 in
set_option maxHeartbeats 1000000 in
theorem next_any (p g gm pc : Nat) (x : Nat → Nat) (s : St) (m : Nat → UInt8) (d : Did) (w : World) (hH : Ht w p g gm x pc s m) : Calls Tryz.prog 90 #[hP p, trV d] w fun e w' => e = .returned (trV d) ∧ Ht w' p g gm x ((pc + 4) % L32) s m ∧ Only (SH p g gm) w w' := by
  have hl := hH.lts
  have he : ((pc : Int) + 4) % 4294967296 = (((pc + 4) % L32 : Nat) : Int) := by unfold L32; omega
  have hq : (pc + 4) % L32 < L32 := Nat.mod_lt _ (by decide)
  have HL := Lib.hid hl
  clear hl
  unfold trV
  go_enter Tryz.func90, Tryz.ntmps90
  go_upto_region 1 with fail
  obtain ⟨wa, hwa, hF, hb0⟩ := two_tr w d
  rw [← hwa]
  clear hwa
  generalize hgR : w.heap.size + 1 = bR at *
  have HR := Lib.hid hgR
  clear hgR
  have hHa := hH.after hb0
  have c1 := hHa.cpc
  have f1 := hHa.free 32
  have hH2 := hHa.setPc _ hq
  have hO2 : Only (SH p g gm) wa (wa.setCell ⟨p, 32, none⟩ (.int .u32 (((pc + 4) % L32 : Nat) : Int))) := sh_p (Only.setCell wa (a := ⟨p, 32, none⟩) (show S1 p p from rfl) _)
  have hF2 := hF.sh hO2 HL.out
  have hO3 := (sh_b (p := p) (g := g) (gm := gm) hb0).trans hO2
  generalize hqe : (pc + 4) % L32 = q at *
  have HQ := Lib.hid hqe
  clear hqe
  have HH := Lib.hid (And.intro hH2 (And.intro hF2 hO3))
  clear hH hHa hF hb0 hH2 hO2 hF2 hO3
  go_wp2_with (first
    | (refine wp_load_tabI rfl 51 _ rfl w.heap.size rfl 7 (trC d) 51 HH.out.2.1.t _ Tryz.underlying51 rfl infoTr ?_; simp only [Act.put, List.setIfInBounds_toArray, List.set_cons_zero, List.set_cons_succ])
    | (refine wp_store_tab rfl 51 _ _ rfl bR 0 rfl 7 (trC d) rfl 7 (trC did0) 51 HH.out.2.1.r infoTr (by omega) (trC_one _) ?_; intro w9 hG9 hg9))
  rw [tab7_all] at hG9
  have hlo := HL.out
  have hE := HH.out
  have hn := hE.2.1.nR
  obtain rfl := HQ.out
  exact bodyPost_ret (results_cell_row rfl _ _ _ 51 _ _ _ rfl hG9 Tryz.underlying51 rfl infoTr) rfl ⟨rfl, hE.1.far hg9 (by omega) (by omega) (by omega), Only.fresh hE.2.2 hg9 hn⟩
end Go.Proofs.YtgpofoggfifnjaaGreatDoor.Ha
namespace Go.Proofs.YtgpofoggfifnjaaGreatDoor.Ha
open Go Go.RowKit
open Go.Proofs.YtgpofoggfifnjaaGreatDoor (RamP stM ldV stB inR mP erI two_new has_to wp_load_tabI below_fin insA infoIa5 opOf opP bitsN immU rdB r1B r2B Fm fmN TabW has_any has_nil mload_any store_any adecode_any form_at form_no)
open Go.Proofs.YtgpofoggfifnjaaGreatDoor.Cs (St IsF Only S1 hP upd upd_other dueC trapC tickC readC cdue_any ctrap_any ctick_any cread_any cnew_any mayM_any)
open Go.Proofs.YtgpofoggfifnjaaGreatDoor.Pm (TabT)
open Go.Proofs.YtgpofoggfifnjaaGreatDoor.Al (widthN widenN goesN reckN reckon_is goes_is width_is widen_is reckN_lt)

set_option maxRecDepth 100000 in
set_option maxHeartbeats 2000000 in
theorem finish_any (p g gm pc : Nat) (x : Nat → Nat) (s : St) (m : Nat → UInt8) (rd y : Nat) (d : Did) (w : World) (hH : Ht w p g gm x pc s m) (hd : d.trap = false) (hr : rd < 32) (hy : y < L32) : Calls Tryz.prog 87 #[hP p, .int .i64 (rd : Int), .int .u32 (y : Int), trV d] w (Ans p g gm x pc s m (onR d x s m rd y ((pc + 4) % L32)) w) := by
  have hl := hH.lts
  have kS := fun W (h : Ht W p g gm x pc s m) => hset_any p g gm pc x s m rd y W h hr hy
  have kN := fun W (h : Ht W p g gm (if rd = 0 then x else upd x rd y) pc s m) => next_any p g gm pc _ s m d W h
  have HD := Lib.hid (And.intro hl hd)
  generalize hqe : (pc + 4) % L32 = q at *
  have HQ := Lib.hid hqe
  clear hl hd hqe hr hy
  unfold trV at kN ⊢
  go_enter Tryz.func87, Tryz.ntmps87
  go_upto_region 1 with fail
  obtain ⟨wa, hwa, hF, hb0⟩ := two_tr w d
  rw [← hwa]
  clear hwa
  generalize hgR : w.heap.size + 1 = bR at *
  have HR := Lib.hid hgR
  clear hgR
  have HH := Lib.hid (hH.after hb0)
  have HF := Lib.hid hF
  have HB := Lib.hid hb0
  clear hH hF hb0
  go_upto_region 2 with (first
    | (go_at_call 88; with_reducible refine (kS _ HH.out).mono ?_; rintro e wb ⟨rfl, hH2, hO2⟩))
  have HF2 := Lib.hid (HF.out.sh hO2 HD.out.1)
  have HH2 := Lib.hid hH2
  have HO2 := Lib.hid ((sh_b (p := p) (g := g) (gm := gm) HB.out).trans hO2)
  clear hH2 hO2 HF HH
  go_wp2_with (first
    | (refine wp_load_tabI rfl 51 _ rfl w.heap.size rfl 7 (trC d) 51 HF2.out.t _ Tryz.underlying51 rfl infoTr ?_; simp only [Act.put, List.setIfInBounds_toArray, List.set_cons_zero, List.set_cons_succ])
    | (go_at_call 90; with_reducible refine (kN _ HH2.out).mono ?_; rintro e wc ⟨rfl, hH3, hO3⟩)
    | (refine wp_store_tab rfl 51 _ _ rfl bR 0 rfl 7 (trC d) rfl 7 (trC did0) 51 (HF2.out.sh hO3 HD.out.1).r infoTr (by omega) (trC_one _) ?_; intro w9 hG9 hg9))
  rw [tab7_all] at hG9
  have hlo := HD.out.1
  have hn := HF2.out.nR
  obtain rfl := HQ.out
  exact bodyPost_ret (results_cell_row rfl _ _ _ 51 _ _ _ rfl hG9 Tryz.underlying51 rfl infoTr) rfl (Ans.on d rd y _ HD.out.2 m rfl (Only.fresh (HO2.out.trans hO3) hg9 hn) (hH3.far hg9 (by omega) (by omega) (by omega)))
set_option maxRecDepth 100000 in
set_option maxHeartbeats 2000000 in
theorem jump_any (p g gm pc : Nat) (x : Nat → Nat) (s : St) (m : Nat → UInt8) (rd tg : Nat) (d : Did) (w : World) (hH : Ht w p g gm x pc s m) (hd : d.trap = false) (hr : rd < 32) (ht : tg < L32) : Calls Tryz.prog 74 #[hP p, .int .i64 (rd : Int), .int .u32 (tg : Int), trV d] w (Ans p g gm x pc s m (jumpR d x pc s m rd tg) w) := by
  have hl := hH.lts
  have hq : (pc + 4) % L32 < L32 := Nat.mod_lt _ (by decide)
  have he : ((pc : Int) + 4) % 4294967296 = (((pc + 4) % L32 : Nat) : Int) := by unfold L32; omega
  have kS := fun W (h : Ht W p g gm x pc s m) => hset_any p g gm pc x s m rd ((pc + 4) % L32) W h hr hq
  have kO : ∀ W, Calls Tryz.prog 51 #[.int .u32 (tg : Int), .int .i64 4] W fun e w' => e = .returned (.bool (decide (¬ tg % 4 = 0))) ∧ W = w' := fun W => isOdd_any tg 4 (by decide) W
  have kT : ∀ W, Calls Tryz.prog 50 #[trV d, .int .u32 0, .int .u32 (tg : Int)] W fun e w' => e = .returned (trV { d with trap := true, cause := 0, tval := tg }) ∧ Below W.heap.size W w' := fun W => trapped_any d 0 tg W
  have HD := Lib.hid (And.intro hl (And.intro hd ht))
  clear hl hd hr hq ht
  unfold jumpR
  by_cases hodd : tg % 4 = 0
  · rw [if_pos hodd]
    rw [decide_eq_false (not_not_intro hodd)] at kO
    unfold trV at kT ⊢
    generalize hqe : (pc + 4) % L32 = q at *
    have HQ := Lib.hid hqe
    clear hqe hodd kT
    go_enter Tryz.func74, Tryz.ntmps74
    go_upto_region 1 with fail
    obtain ⟨wa, hwa, hF, hb0⟩ := two_tr w d
    rw [← hwa]
    clear hwa
    generalize hgR : w.heap.size + 1 = bR at *
    have HR := Lib.hid hgR
    clear hgR
    have c1 := (hH.after hb0).cpc
    have HH := Lib.hid (hH.after hb0)
    have HF := Lib.hid hF
    have HB := Lib.hid hb0
    clear hH hF hb0
    go_upto_region 4 with (first
      | (go_at_call 51; with_reducible refine (kO _).mono ?_; rintro e wz ⟨rfl, rfl⟩)
      | (go_at_call 88; with_reducible refine (kS _ HH.out).mono ?_; rintro e wb ⟨rfl, hH2, hO2⟩))
    have HF2 := Lib.hid (HF.out.sh hO2 HD.out.1)
    have c2 := hH2.cpc
    have f2 := hH2.free 32
    have hH4 := hH2.setPc tg HD.out.2.2
    have hO4 : Only (SH p g gm) wb (wb.setCell ⟨p, 32, none⟩ (.int .u32 (tg : Int))) := sh_p (Only.setCell wb (a := ⟨p, 32, none⟩) (show S1 p p from rfl) _)
    have HF4 := Lib.hid (HF2.out.sh hO4 HD.out.1)
    have HH4 := Lib.hid (And.intro hH4 (((sh_b (p := p) (g := g) (gm := gm) HB.out).trans hO2).trans hO4))
    clear hH2 hO2 HF HH hH4 hO4 HF2 c1
    go_wp2_with (first
      | (refine wp_load_tabI rfl 51 _ rfl w.heap.size rfl 7 (trC d) 51 HF4.out.t _ Tryz.underlying51 rfl infoTr ?_; simp only [Act.put, List.setIfInBounds_toArray, List.set_cons_zero, List.set_cons_succ])
      | (refine wp_store_tab rfl 51 _ _ rfl bR 0 rfl 7 (trC d) rfl 7 (trC did0) 51 HF4.out.r infoTr (by omega) (trC_one _) ?_; intro w9 hG9 hg9))
    rw [tab7_all] at hG9
    have hlo := HD.out.1
    have hn := HF4.out.nR
    obtain rfl := HQ.out
    exact bodyPost_ret (results_cell_row rfl _ _ _ 51 _ _ _ rfl hG9 Tryz.underlying51 rfl infoTr) rfl (Ans.on d rd _ _ HD.out.2.1 m rfl (Only.fresh HH4.out.2 hg9 hn) (HH4.out.1.far hg9 (by omega) (by omega) (by omega)))
  · rw [if_neg hodd]
    rw [decide_eq_true hodd] at kO
    unfold trV at kT ⊢
    clear hodd kS he
    go_enter Tryz.func74, Tryz.ntmps74
    go_upto_region 1 with fail
    obtain ⟨wa, hwa, hF, hb0⟩ := two_tr w d
    rw [← hwa]
    clear hwa
    generalize hgR : w.heap.size + 1 = bR at *
    have HR := Lib.hid hgR
    clear hgR
    have HH := Lib.hid (hH.after hb0)
    have HF := Lib.hid hF
    have HB := Lib.hid hb0
    clear hH hF hb0
    go_wp2_with (first
      | (go_at_call 51; with_reducible refine (kO _).mono ?_; rintro e wz ⟨rfl, rfl⟩)
      | (refine wp_load_tabI rfl 51 _ rfl w.heap.size rfl 7 (trC d) 51 HF.out.t _ Tryz.underlying51 rfl infoTr ?_; simp only [Act.put, List.setIfInBounds_toArray, List.set_cons_zero, List.set_cons_succ])
      | (go_at_call 50; with_reducible refine (kT _).mono ?_; rintro e w2 ⟨rfl, hb2⟩)
      | (refine wp_store_tab rfl 51 _ _ rfl bR 0 rfl 7 (trC { d with trap := true, cause := 0, tval := tg }) rfl 7 (trC did0) 51 (HF.out.after hb2).r infoTr (by omega) (trC_one _) ?_; intro w9 hG9 hg9))
    rw [tab7_all] at hG9
    have hlo := HD.out.1
    have hn := HF.out.nR
    exact bodyPost_ret (results_cell_row rfl _ _ _ 51 _ _ _ rfl hG9 Tryz.underlying51 rfl infoTr) rfl (Ans.trap d 0 tg rfl (Only.fresh ((sh_b HB.out).trans (sh_b hb2)) hg9 hn) ((HH.out.after hb2).far hg9 (by omega) (by omega) (by omega)) (by decide) HD.out.2.2)
end Go.Proofs.YtgpofoggfifnjaaGreatDoor.Ha
