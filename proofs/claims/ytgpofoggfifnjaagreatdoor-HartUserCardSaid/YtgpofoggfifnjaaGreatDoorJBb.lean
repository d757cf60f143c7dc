/-
Layer 16, plain: what a step does (in the user's mode; in the machine's, operations up to 48), and what the laws ask of it.
Layer 16, plain: every step is a trap or the end of an instruction; what the laws ask of it.
Layer 16: a hart in memory; what package hart's calls answer, and more of package csr's; the example; HartNone.
Layer 16: the example; HartNone.
-/
import Derived.Test.YtgpofoggfifnjaaGreatDoorJAh
import Derived.Test.YtgpofoggfifnjaaGreatDoorJAm
import Derived.Test.YtgpofoggfifnjaaGreatDoorJAf
import Derived.Test.YtgpofoggfifnjaaGreatDoorJAv
import Derived.Test.YtgpofoggfifnjaaGreatDoorJAw
import Derived.Test.YtgpofoggfifnjaaGreatDoorJAg
namespace Go.Proofs.YtgpofoggfifnjaaGreatDoor.Ha
open Go Go.RowKit
open Go.Proofs.YtgpofoggfifnjaaGreatDoor (opOf opP bitsN immU rdB r1B r2B Fm inR stM ldV stB)
open Go.Proofs.YtgpofoggfifnjaaGreatDoor.Cs (St upd dueC trapC tickC readC rM)
open Go.Proofs.YtgpofoggfifnjaaGreatDoor.Pm (En checkT tri)
open Go.Proofs.YtgpofoggfifnjaaGreatDoor.Al (widthN widenN goesN reckN)

/-- the entries of a file of registers -/
def entC (s : St) : List En := (List.range 16).map fun i => ⟨((s.cfg i / 8 % 4 : Nat) : Int), ((s.cfg i % 8 : Nat) : Int), s.r (944 + i)⟩
/-- may n bytes be used so? (in the machine's mode: with no entry that is locked or matches) -/
def mayS (s : St) (at' n right : Nat) : Bool := if s.mode = 0 then checkT (tri 0 (entC s)) at' n right else true
/-- what a step tells -/
structure Did where
  word : Nat
  trap : Bool
  cause : Nat
  tval : Nat
  at' : Nat
  width : Nat
  store : Bool
def did0 : Did := ⟨0, false, 0, 0, 0, 0, false⟩
/-- what a step leaves -/
structure Res where
  d : Did
  x : Nat → Nat
  pc : Nat
  s : St
  m : Nat → UInt8
def L32 : Nat := 4294967296
/-- registers as a hart holds them: words, and none in the first -/
structure XOk (x : Nat → Nat) : Prop where
  lt : ∀ i, x i < L32
  z : x 0 = 0
def trapR (d : Did) (x : Nat → Nat) (pc : Nat) (s : St) (m : Nat → UInt8) (cause tval : Nat) : Res := ⟨{ d with trap := true, cause := cause, tval := tval }, x, s.r 773, tickC (trapC s pc cause tval) false, m⟩
def onR (d : Did) (x : Nat → Nat) (s : St) (m : Nat → UInt8) (rd v pc : Nat) : Res := ⟨d, if rd = 0 then x else upd x rd v, pc, tickC s true, m⟩
def jumpR (d : Did) (x : Nat → Nat) (pc : Nat) (s : St) (m : Nat → UInt8) (rd tg : Nat) : Res :=
  if tg % 4 = 0 then onR d x s m rd ((pc + 4) % L32) tg else trapR d x pc s m 0 tg
def memR (d : Did) (x : Nat → Nat) (pc : Nat) (s : St) (m : Nat → UInt8) (op rd b at' n : Nat) (st : Bool) : Res :=
  if at' % n = 0 then
    (if inR at' n = true ∧ mayS s at' n (if st = true then 2 else 1) = true then
      (if st = true then onR { d with at' := at', width := n, store := true } x s (stM m at' (n : Int) b) 0 0 ((pc + 4) % L32)
        else onR { d with at' := at', width := n, store := false } x s m rd (widenN (op : Int) (ldV m at' (n : Int))) ((pc + 4) % L32))
      else trapR { d with at' := at', width := n, store := st } x pc s m (if st = true then 7 else 5) at')
    else trapR { d with at' := at', width := n, store := st } x pc s m (if st = true then 6 else 4) at'
/-- the instruction w at pc is done -/
def execR (d : Did) (x : Nat → Nat) (pc : Nat) (s : St) (m : Nat → UInt8) (w op : Nat) : Res :=
  let f := (opP op).1
  let rd := if rdB f then bitsN w 11 7 else 0
  let a := x (if r1B f then bitsN w 19 15 else 0)
  let b := x (if r2B f then bitsN w 24 20 else 0)
  let im := immU f w
  if op = 1 then onR d x s m rd im ((pc + 4) % L32)
  else if op = 2 then onR d x s m rd ((pc + im) % L32) ((pc + 4) % L32)
  else if op = 3 then jumpR d x pc s m rd ((pc + im) % L32)
  else if op = 4 then jumpR d x pc s m rd ((a + im) % L32 / 2 * 2)
  else if op ≤ 10 ∧ 5 ≤ op then (if (goesN (op : Int) a b).1 = true then jumpR d x pc s m 0 ((pc + im) % L32) else onR d x s m 0 0 ((pc + 4) % L32))
  else if op ≤ 18 ∧ 11 ≤ op then memR d x pc s m op rd b ((a + im) % L32) (widthN (op : Int)).toNat (decide (16 ≤ op))
  else if op ≤ 27 ∧ 19 ≤ op then onR d x s m rd (reckN (op : Int) a im).1 ((pc + 4) % L32)
  else if op ≤ 45 ∧ 28 ≤ op then onR d x s m rd (reckN (op : Int) a b).1 ((pc + 4) % L32)
  else if op = 46 then onR d x s m 0 0 ((pc + 4) % L32)
  else if op = 47 then trapR d x pc s m (if s.mode = 0 then 8 else 11) 0
  else if op = 48 then trapR d x pc s m 3 pc
  else trapR d x pc s m 2 w
/-- a step -/
def stepR (x : Nat → Nat) (pc : Nat) (s : St) (m : Nat → UInt8) : Res :=
  if dueC s = true then trapR did0 x pc s m 2147483655 0
  else if ¬ pc % 4 = 0 then trapR did0 x pc s m 0 pc
  else if ¬ (stB pc 4 = true ∧ mayS s pc 4 4 = true) then trapR did0 x pc s m 1 pc
  else execR { did0 with word := ldV m pc 4 } x pc s m (ldV m pc 4) (opOf (ldV m pc 4))
/-- what a step may leave: a trap, or the end of an instruction -/
inductive Way (x : Nat → Nat) (pc : Nat) (s : St) (m : Nat → UInt8) : Res → Prop
  | trap (d : Did) (cause tval : Nat) (hd : d.trap = false) (hc : cause < 16 ∨ (cause = 2147483655 ∧ d = did0 ∧ tval = 0 ∧ dueC s = true)) (ht : tval < L32) (ha : d.at' < L32) (hw : d.width ≤ 4) (hW : d.word < L32) : Way x pc s m (trapR d x pc s m cause tval)
  | on (d : Did) (rd v pc' : Nat) (hd : d.trap = false) (hc : d.cause = 0) (ht : d.tval = 0) (hv : v < L32) (hp : pc' < L32) (hm : mayS s pc 4 4 = true) (ha : d.at' < L32) (hw : d.width ≤ 4) (hW : d.word < L32)
      (hr : rd < 32) (ho : 0 < d.width → inR d.at' d.width = true ∧ mayS s d.at' d.width 1 = true ∧ d.store = false) (hdue : dueC s = false) : Way x pc s m (onR d x s m rd v pc')
  | store (d : Did) (b pc' : Nat) (hd : d.trap = false) (hc : d.cause = 0) (ht : d.tval = 0) (hp : pc' < L32) (hm : mayS s pc 4 4 = true) (ha : d.at' < L32) (hW : d.word < L32) (hn : d.width = 1 ∨ d.width = 2 ∨ d.width = 4)
      (hs : d.store = true) (hi : inR d.at' d.width = true) (hy : mayS s d.at' d.width 2 = true) (hdue : dueC s = false) : Way x pc s m (onR d x s (stM m d.at' (d.width : Int) b) 0 0 pc')
end Go.Proofs.YtgpofoggfifnjaaGreatDoor.Ha
namespace Go.Proofs.YtgpofoggfifnjaaGreatDoor.Ha
open Go Go.RowKit
open Go.Proofs.YtgpofoggfifnjaaGreatDoor (opOf opP bitsN bitsN_lt immU rdB r1B r2B Fm inR stM ldV stB ldN ldN_lt)
open Go.Proofs.YtgpofoggfifnjaaGreatDoor.Cs (St upd upd_same upd_other dueC trapC tickC readC rM)
open Go.Proofs.YtgpofoggfifnjaaGreatDoor.Pm (En checkT tri)
open Go.Proofs.YtgpofoggfifnjaaGreatDoor.Al (widthN widenN goesN reckN widenN_lt reckN_lt)

theorem immU_lt (f : Fm) (w : Nat) : immU f w < L32 := by unfold immU L32; omega
theorem ldV_lt (m : Nat → UInt8) (a : Nat) (n : Int) (hn : n = 1 ∨ n = 2 ∨ n = 4) : ldV m a n < L32 := by
  unfold ldV L32
  split
  · have h := ldN_lt m n.toNat (a - 2147483648)
    rcases hn with rfl | rfl | rfl
    · exact Nat.lt_of_lt_of_le h (by decide)
    · exact Nat.lt_of_lt_of_le h (by decide)
    · exact Nat.lt_of_lt_of_le h (by decide)
  · decide
section
variable {x : Nat → Nat} {pc : Nat} {s : St} {m : Nat → UInt8}
theorem jump_way (d : Did) (rd tg : Nat) (_hpc : pc < L32) (hd : d.trap = false) (hc : d.cause = 0) (ht : d.tval = 0) (hm : mayS s pc 4 4 = true) (ha : d.at' < L32) (hw : d.width = 0) (hW : d.word < L32) (hr : rd < 32) (hto : tg < L32) (hdue : dueC s = false) : Way x pc s m (jumpR d x pc s m rd tg) := by
  unfold jumpR
  split
  · exact .on d rd _ _ hd hc ht (Nat.mod_lt _ (by decide)) hto hm ha (by omega) hW hr (fun h => by omega) hdue
  · exact .trap d 0 tg hd (Or.inl (by decide)) hto ha (by omega) hW
theorem mem_way (d : Did) (op rd b at' n : Nat) (st : Bool) (hd : d.trap = false) (hc : d.cause = 0) (ht : d.tval = 0) (hm : mayS s pc 4 4 = true) (hW : d.word < L32) (hr : rd < 32) (hat : at' < L32) (hn : n = 1 ∨ n = 2 ∨ n = 4) (hdue : dueC s = false) : Way x pc s m (memR d x pc s m op rd b at' n st) := by
  unfold memR
  by_cases h1 : at' % n = 0
  · rw [if_pos h1]
    by_cases h : inR at' n = true ∧ mayS s at' n (if st = true then 2 else 1) = true
    · rw [if_pos h]
      cases st with
      | true => exact .store { d with at' := at', width := n, store := true } b _ hd hc ht (Nat.mod_lt _ (by decide)) hm hat hW hn rfl h.1 h.2 hdue
      | false =>
        refine .on { d with at' := at', width := n, store := false } rd _ _ hd hc ht (widenN_lt _ _ ?_) (Nat.mod_lt _ (by decide)) hm hat (by show n ≤ 4; omega) hW hr (fun _ => ⟨h.1, h.2, rfl⟩) hdue
        have := ldV_lt m at' (n : Int) (by omega)
        exact this
    · rw [if_neg h]
      exact .trap { d with at' := at', width := n, store := st } _ at' hd (Or.inl (by split <;> decide)) hat hat (by show n ≤ 4; omega) hW
  · rw [if_neg h1]
    exact .trap { d with at' := at', width := n, store := st } _ at' hd (Or.inl (by split <;> decide)) hat hat (by show n ≤ 4; omega) hW
theorem width_in (op : Nat) (h1 : 11 ≤ op) (h2 : op ≤ 18) : (widthN (op : Int)).toNat = 1 ∨ (widthN (op : Int)).toNat = 2 ∨ (widthN (op : Int)).toNat = 4 := by
  have : ∀ j : Nat, j < 19 → 11 ≤ j → (widthN (j : Int)).toNat = 1 ∨ (widthN (j : Int)).toNat = 2 ∨ (widthN (j : Int)).toNat = 4 := by decide
  exact this op (by omega) h1
theorem exec_way (d : Did) (w op : Nat) (hpc : pc < L32) (hx : ∀ i, x i < L32) (hd : d.trap = false) (hc : d.cause = 0) (ht : d.tval = 0) (hm : mayS s pc 4 4 = true) (ha : d.at' < L32) (hw : d.width = 0) (hW : d.word < L32) (hw' : w < L32) (hdue : dueC s = false) :
    Way x pc s m (execR d x pc s m w op) := by
  have hM : ∀ z, z % L32 < L32 := fun z => Nat.mod_lt _ (by decide)
  have hrd : (if rdB (opP op).1 = true then bitsN w 11 7 else 0) < 32 := by
    split
    · exact bitsN_lt w 11 7
    · decide
  have him := immU_lt (opP op).1 w
  have hw4 : d.width ≤ 4 := by omega
  have ho : 0 < d.width → inR d.at' d.width = true ∧ mayS s d.at' d.width 1 = true ∧ d.store = false := fun h => by omega
  unfold execR
  dsimp only
  by_cases c1 : op = 1
  · rw [if_pos c1]
    exact .on d _ _ _ hd hc ht him (hM _) hm ha hw4 hW hrd ho hdue
  rw [if_neg c1]
  by_cases c2 : op = 2
  · rw [if_pos c2]
    exact .on d _ _ _ hd hc ht (hM _) (hM _) hm ha hw4 hW hrd ho hdue
  rw [if_neg c2]
  by_cases c3 : op = 3
  · rw [if_pos c3]
    exact jump_way d _ _ hpc hd hc ht hm ha hw hW hrd (hM _) hdue
  rw [if_neg c3]
  by_cases c4 : op = 4
  · rw [if_pos c4]
    exact jump_way d _ _ hpc hd hc ht hm ha hw hW hrd (by have := hM (x (if r1B (opP op).1 = true then bitsN w 19 15 else 0) + immU (opP op).1 w); omega) hdue
  rw [if_neg c4]
  by_cases c5 : op ≤ 10 ∧ 5 ≤ op
  · rw [if_pos c5]
    by_cases hg : (goesN (op : Int) (x (if r1B (opP op).1 = true then bitsN w 19 15 else 0)) (x (if r2B (opP op).1 = true then bitsN w 24 20 else 0))).1 = true
    · rw [if_pos hg]; exact jump_way d 0 _ hpc hd hc ht hm ha hw hW (by decide) (hM _) hdue
    · rw [if_neg hg]; exact .on d 0 0 _ hd hc ht (by decide) (hM _) hm ha hw4 hW (by decide) ho hdue
  rw [if_neg c5]
  by_cases c6 : op ≤ 18 ∧ 11 ≤ op
  · rw [if_pos c6]
    exact mem_way d _ _ _ _ _ _ hd hc ht hm hW hrd (hM _) (width_in op c6.2 c6.1) hdue
  rw [if_neg c6]
  by_cases c7 : op ≤ 27 ∧ 19 ≤ op
  · rw [if_pos c7]
    exact .on d _ _ _ hd hc ht (reckN_lt _ _ _ (hx _) him) (hM _) hm ha hw4 hW hrd ho hdue
  rw [if_neg c7]
  by_cases c8 : op ≤ 45 ∧ 28 ≤ op
  · rw [if_pos c8]
    exact .on d _ _ _ hd hc ht (reckN_lt _ _ _ (hx _) (hx _)) (hM _) hm ha hw4 hW hrd ho hdue
  rw [if_neg c8]
  by_cases c9 : op = 46
  · rw [if_pos c9]
    exact .on d 0 0 _ hd hc ht (by decide) (hM _) hm ha hw4 hW (by decide) ho hdue
  rw [if_neg c9]
  by_cases c10 : op = 47
  · rw [if_pos c10]
    exact .trap d _ 0 hd (Or.inl (by split <;> decide)) (by decide) ha hw4 hW
  rw [if_neg c10]
  by_cases c11 : op = 48
  · rw [if_pos c11]
    exact .trap d 3 pc hd (Or.inl (by decide)) hpc ha hw4 hW
  rw [if_neg c11]
  exact .trap d 2 w hd (Or.inl (by decide)) hw' ha hw4 hW
theorem step_way (hpc : pc < L32) (hx : ∀ i, x i < L32) : Way x pc s m (stepR x pc s m) := by
  unfold stepR
  split
  · rename_i h
    exact .trap did0 _ 0 rfl (Or.inr ⟨rfl, rfl, rfl, h⟩) (by decide) (by decide) (by decide) (by decide)
  rename_i hdue
  replace hdue : dueC s = false := Bool.eq_false_iff.2 hdue
  split
  · exact .trap did0 0 pc rfl (Or.inl (by decide)) hpc (by decide) (by decide) (by decide)
  split
  · exact .trap did0 1 pc rfl (Or.inl (by decide)) hpc (by decide) (by decide) (by decide)
  · rename_i h
    have hc := Classical.not_not.1 h
    have hl := ldV_lt m pc 4 (by omega)
    exact exec_way _ _ _ hpc hx rfl rfl rfl hc.2 (show 0 < L32 by decide) rfl hl hl hdue
/-- the entries, and so what may be used, hang on the mode, the configuration and the addresses alone -/
theorem may_same {s' : St} (h1 : s'.mode = s.mode) (h2 : s'.cfg = s.cfg) (h3 : ∀ i, i < 16 → s'.r (944 + i) = s.r (944 + i)) (a n r : Nat) : mayS s' a n r = mayS s a n r := by
  have he : entC s' = entC s := by
    unfold entC
    refine List.map_congr_left fun i hi => ?_
    rw [h2, h3 i (List.mem_range.1 hi)]
  unfold mayS
  rw [h1, he]
theorem may_tick (b : Bool) (a n r : Nat) : mayS (tickC s b) a n r = mayS s a n r := may_same rfl rfl (fun _ _ => rfl) a n r
variable {R : Res}
theorem Way.x_trap (h : Way x pc s m R) (ht : R.d.trap = true) : R.x = x := by
  cases h with
  | trap => rfl
  | on d rd v pc' hd => rw [show (onR d x s m rd v pc').d = d from rfl, hd] at ht; cases ht
  | store d b pc' hd => rw [show (onR d x s (stM m d.at' (d.width : Int) b) 0 0 pc').d = d from rfl, hd] at ht; cases ht
theorem Way.s_is (h : Way x pc s m R) : R.s = if R.d.trap = true then tickC (trapC s pc R.d.cause R.d.tval) false else tickC s true := by
  cases h with
  | trap => rfl
  | on d rd v pc' hd => rw [show (onR d x s m rd v pc').d = d from rfl, hd]; rfl
  | store d b pc' hd => rw [show (onR d x s (stM m d.at' (d.width : Int) b) 0 0 pc').d = d from rfl, hd]; rfl
theorem Way.fetch (h : Way x pc s m R) (ht : R.d.trap = false) : mayS s pc 4 4 = true := by
  cases h with
  | trap => cases ht
  | on d rd v pc' hd hc ht' hv hp hm => exact hm
  | store d b pc' hd hc ht' hp hm => exact hm
theorem Way.used (h : Way x pc s m R) (ht : R.d.trap = false) (hw : 0 < R.d.width) : inR R.d.at' R.d.width = true ∧ mayS s R.d.at' R.d.width (if R.d.store = true then 2 else 1) = true := by
  cases h with
  | trap => cases ht
  | on d rd v pc' hd hc ht' hv hp hm ha hw4 hW hr ho =>
    obtain ⟨h1, h2, h3⟩ := ho hw
    refine ⟨h1, ?_⟩
    show mayS s d.at' d.width (if d.store = true then 2 else 1) = true
    rw [h3]
    exact h2
  | store d b pc' hd hc ht' hp hm ha hW hn hs hi hy =>
    refine ⟨hi, ?_⟩
    show mayS s d.at' d.width (if d.store = true then 2 else 1) = true
    rw [hs]
    exact hy
theorem Way.mem (h : Way x pc s m R) (j : Nat) : R.m j = m j ∨ (R.d.trap = false ∧ R.d.store = true ∧ 0 < R.d.width ∧ R.d.at' ≤ 2147483648 + j ∧ 2147483648 + j < R.d.at' + R.d.width) := by
  cases h with
  | trap => exact Or.inl rfl
  | on => exact Or.inl rfl
  | store d b pc' hd hc ht' hp hm ha hW hn hs hi hy =>
    show stM m d.at' (d.width : Int) b j = m j ∨ (d.trap = false ∧ d.store = true ∧ 0 < d.width ∧ d.at' ≤ 2147483648 + j ∧ 2147483648 + j < d.at' + d.width)
    have hin := of_decide_eq_true hi
    unfold stM
    split
    · unfold putM
      split
      · rename_i h1
        refine Or.inr ⟨hd, hs, by omega, by omega, ?_⟩
        have hl : (leB (d.width : Int).toNat b).length = d.width := by rw [leB_len]; omega
        rw [hl] at h1
        omega
      · exact Or.inl rfl
    · exact Or.inl rfl
theorem Way.x_lt (h : Way x pc s m R) (hx : ∀ i, x i < L32) (i : Nat) : R.x i < L32 := by
  cases h with
  | trap => exact hx i
  | on d rd v pc' hd hc ht hv =>
    show (if rd = 0 then x else upd x rd v) i < L32
    split
    · exact hx i
    · unfold upd
      split
      · exact hv
      · exact hx i
  | store => exact hx i
theorem Way.x_0 (h : Way x pc s m R) : R.x 0 = x 0 := by
  cases h with
  | trap => rfl
  | on d rd v pc' =>
    show (if rd = 0 then x else upd x rd v) 0 = x 0
    split
    · rfl
    · rename_i hr
      exact upd_other _ _ (fun e => hr e.symm)
  | store => rfl
theorem Way.x_ok (h : Way x pc s m R) (hx : XOk x) : XOk R.x := ⟨fun i => h.x_lt hx.lt i, h.x_0.trans hx.z⟩
theorem Way.pc_lt (h : Way x pc s m R) (hs : s.Ok) : R.pc < L32 := by
  cases h with
  | trap => exact hs.r 773
  | on d rd v pc' hd hc ht hv hp => exact hp
  | store d b pc' hd hc ht hp => exact hp
theorem Way.no_timer (h : Way x pc s m R) (hdue : dueC s = false) : R.d.cause ≠ 2147483655 := by
  cases h with
  | trap d c t hd hc ht =>
    show c ≠ _
    rcases hc with hc | hc
    · omega
    · rw [hdue] at hc; exact absurd hc.2.2.2 (by decide)
  | on d rd v pc' hd hc ht => show d.cause ≠ _; rw [hc]; decide
  | store d b pc' hd hc ht => show d.cause ≠ _; rw [hc]; decide
end
theorem step_due {x : Nat → Nat} {pc : Nat} {s : St} {m : Nat → UInt8} (h : dueC s = true) : stepR x pc s m = trapR did0 x pc s m 2147483655 0 := by
  unfold stepR
  rw [if_pos h]
end Go.Proofs.YtgpofoggfifnjaaGreatDoor.Ha
namespace Go.Proofs.YtgpofoggfifnjaaGreatDoor.Ha
open Go Go.RowKit
open Go.Proofs.YtgpofoggfifnjaaGreatDoor (opOf opP bitsN immU rdB r1B r2B Fm inR stM ldV stB RamP mem0 pnew_any store_any mP erI)
open Go.Proofs.YtgpofoggfifnjaaGreatDoor.Cs (St st0_ok upd upd_same upd_other dueC trapC tickC readC rM CsrOK Only S1 hP one_new)
open Go.Proofs.YtgpofoggfifnjaaGreatDoor.Pm (En Sl SlC SlE checkT tri)
open Go.Proofs.YtgpofoggfifnjaaGreatDoor.Al (widthN widenN goesN reckN)

/-- a hart's cells -/
def hV (x : Nat → Nat) (pc g : Nat) (M : Option Nat) (i : Nat) : Value :=
  if i < 32 then .int .u32 (x i : Int) else if i = 32 then .int .u32 (pc : Int) else if i = 33 then .pointer (some ⟨g, 0, none⟩) else .pointer (M.map fun k => ⟨k, 0, none⟩)
theorem hV_x (x : Nat → Nat) (pc g : Nat) (M : Option Nat) (i : Nat) (h : i < 32) : hV x pc g M i = .int .u32 (x i : Int) := if_pos h
/-- what a step tells, as cells -/
def trC (d : Did) : Nat → Value
  | 0 => .int .u32 (d.word : Int)
  | 1 => .bool d.trap
  | 2 => .int .u32 (d.cause : Int)
  | 3 => .int .u32 (d.tval : Int)
  | 4 => .int .u32 (d.at' : Int)
  | 5 => .int .i64 (d.width : Int)
  | _ => .bool d.store
theorem trC_one (d : Did) (j : Nat) : (trC d j).oneCell' = true := by unfold trC; split <;> rfl
def trV (d : Did) : Value := .agg (tab 7 (trC d))
theorem infoTr : (Tryz.prog.info? 51).map (·.size) = some 7 := by kernel_rfl
theorem infoTrz : (Tryz.prog.info? 51).map (fun i => (i.zero, i.size)) = some (some (.agg (tab 7 (trC did0))), 7) := by kernel_rfl
theorem zeroTr (w : World) : (zeroValue 51).run Tryz.prog w = .ok (.agg (tab 7 (trC did0))) w := (zero_of_info infoTrz).1 w
section
variable {w w' : World} {p pc g : Nat} {x : Nat → Nat} {M : Option Nat}
/-- a hart behind a store to its place, to a register -/
theorem hart_pc (H : Has w p 48 (tab 35 (hV x pc g M))) (pc' : Nat) : Has (w.setCell ⟨p, 32, none⟩ (.int .u32 (pc' : Int))) p 48 (tab 35 (hV x pc' g M)) := by
  have h1 := H.set 32 (.int .u32 (pc' : Int))
  rw [tab_set] at h1
  rw [tab_ext _ _ (hV x pc' g M) fun j hj => ?_] at h1
  · exact h1
  · by_cases e : j = 32
    · subst e; rfl
    · rw [if_neg e]; unfold hV; simp only [e, if_false]
theorem hart_x (H : Has w p 48 (tab 35 (hV x pc g M))) (k v : Nat) (hk : k < 32) : Has (w.setCell ⟨p, k, none⟩ (.int .u32 (v : Int))) p 48 (tab 35 (hV (upd x k v) pc g M)) := by
  have h1 := H.set k (.int .u32 (v : Int))
  rw [tab_set] at h1
  rw [tab_ext _ _ (hV (upd x k v) pc g M) fun j hj => ?_] at h1
  · exact h1
  · by_cases e : j = k
    · subst e; rw [if_pos rfl, hV_x _ _ _ _ _ hk, upd_same]
    · rw [if_neg e]
      unfold hV
      by_cases h : j < 32
      · rw [if_pos h, if_pos h, upd_other _ _ e]
      · rw [if_neg h, if_neg h]
theorem ram_only {S : Nat → Prop} {gm : Nat} {m : Nat → UInt8} (h : RamP w gm m) (k : Only S w w') (hn : ¬ S gm) : RamP w' gm m := by
  obtain ⟨N, hN, hG⟩ := h
  exact ⟨N, hN, k.has hG hn⟩
end
/-- the blocks of a hart -/
def SH (p g gm : Nat) (i : Nat) : Prop := i = p ∨ i = g ∨ i = gm
/-- what package hart's calls answer, in worlds behind W0 (whose tables are laid) -/
structure HartOK (Is : World → Nat → St → Prop) (W0 : World) : Prop where
  new : ∀ (w : World) (M : Option Nat), Below W0.heap.size W0 w → Calls Tryz.prog 17 #[.pointer (M.map fun k => ⟨k, 0, none⟩)] w fun e w' => (∃ p g, e = .returned (hP p) ∧ Has w' p 48 (tab 35 (hV (fun _ => 0) 0 g M)) ∧ Is w' g Cs.st0 ∧ w.heap.size ≤ p ∧ w.heap.size ≤ g ∧ p ≠ g) ∧ Below w.heap.size w w'
  step : ∀ (w : World) (p g gm pc : Nat) (x : Nat → Nat) (s : St) (m : Nat → UInt8), Below W0.heap.size W0 w → Has w p 48 (tab 35 (hV x pc g (some gm))) → Is w g s → RamP w gm m → p ≠ g → p ≠ gm → g ≠ gm → W0.heap.size ≤ p → W0.heap.size ≤ g → W0.heap.size ≤ gm → XOk x → pc < L32 →
    (s.mode = 0 ∨ (s.mode = 3 ∧ (∀ k, s.cfg k = 0) ∧ opOf (ldV m pc 4) < 49)) →
    Calls Tryz.prog 11 #[hP p] w fun e w' => e = .returned (trV (stepR x pc s m).d) ∧ (Has w' p 48 (tab 35 (hV (stepR x pc s m).x (stepR x pc s m).pc g (some gm))) ∧ Is w' g (stepR x pc s m).s ∧ RamP w' gm (stepR x pc s m).m) ∧ Only (SH p g gm) w w'
  nil : ∀ w : World, Below W0.heap.size W0 w → Calls Tryz.prog 11 #[.pointer none] w fun e w' => e = .returned (trV did0) ∧ Below w.heap.size w w'
  bare : ∀ (w : World) (p g pc : Nat), Below W0.heap.size W0 w → Has w p 48 (tab 35 (hV (fun _ => 0) pc g none)) → Is w g Cs.st0 → p ≠ g → W0.heap.size ≤ p → W0.heap.size ≤ g → pc < L32 →
    Calls Tryz.prog 11 #[hP p] w fun e w' => e = .returned (trV { did0 with trap := true, cause := if pc % 4 = 0 then 1 else 0, tval := pc }) ∧ Has w' p 48 (tab 35 (hV (fun _ => 0) 0 g none)) ∧ Only (SH p g g) w w'
/-- more of what package csr's calls answer -/
structure CsrMore (Is : World → Nat → St → Prop) (W0 : World) : Prop where
  entries : ∀ (w : World) (g : Nat) (s : St), Is w g s → Calls Tryz.prog 15 #[hP g] w fun e w' => (∃ A c, e = .returned (.slice A 16 c) ∧ SlE w' ⟨A, 16, c⟩ (entC s) ∧ ∀ b o, A = some ⟨b, o, none⟩ → w.heap.size ≤ b) ∧ Below w.heap.size w w'
  may1 : ∀ (w : World) (g : Nat) (s : St) (a n r : Nat), Below W0.heap.size W0 w → Is w g s → s.mode = 0 → a < L32 → 1 ≤ n → n ≤ 8 → r ≤ 7 → Calls Tryz.prog 13 #[hP g, .int .u32 (a : Int), .int .i64 (n : Int), .int .i64 (r : Int)] w fun e w' => e = .returned (.bool (mayS s a n r)) ∧ Below w.heap.size w w'
def m16 : Nat → UInt8 := stM mem0 2147487744 4 5243155
theorem fit_step1 : stepR (fun _ => 0) 2147487744 Cs.st0 m16 = onR { did0 with word := 5243155 } (fun _ => 0) Cs.st0 m16 2 5 2147487748 := by
  have h1 : ldV m16 2147487744 4 = 5243155 := by decide +kernel
  have h2 : opOf 5243155 = 19 := by decide +kernel
  unfold stepR
  rw [if_neg (by decide), if_neg (by decide), if_neg (by decide +kernel), h1, h2]
  unfold execR
  dsimp only
  rw [if_neg (by decide), if_neg (by decide), if_neg (by decide), if_neg (by decide), if_neg (by decide), if_neg (by decide), if_pos (by decide)]
  rw [show (reckN ((19 : Nat) : Int) 0 (immU (opP 19).1 5243155)).1 = 5 by decide +kernel, show (if rdB (opP 19).1 = true then bitsN 5243155 11 7 else 0) = 2 by decide +kernel]
  rfl
theorem fit_word2 : opOf (ldV m16 2147487748 4) = 0 := by decide +kernel
theorem fit_step2 : stepR (upd (fun _ => 0) 2 5) 2147487748 (tickC Cs.st0 true) m16 = trapR did0 (upd (fun _ => 0) 2 5) 2147487748 (tickC Cs.st0 true) m16 2 0 := by
  have h1 : ldV m16 2147487748 4 = 0 := by decide +kernel
  have h2 : opOf 0 = 0 := by decide +kernel
  unfold stepR
  rw [if_neg (by decide), if_neg (by decide), if_neg (by decide +kernel), h1, h2]
  unfold execR
  dsimp only
  rw [if_neg (by decide), if_neg (by decide), if_neg (by decide), if_neg (by decide), if_neg (by decide), if_neg (by decide), if_neg (by decide), if_neg (by decide), if_neg (by decide), if_neg (by decide), if_neg (by decide)]
  rfl
end Go.Proofs.YtgpofoggfifnjaaGreatDoor.Ha
namespace Go.Proofs.YtgpofoggfifnjaaGreatDoor.Ha
open Go Go.RowKit
open Go.Proofs.YtgpofoggfifnjaaGreatDoor (opOf inR stM ldV stB RamP mem0 pnew_any store_any mP erI)
open Go.Proofs.YtgpofoggfifnjaaGreatDoor.Cs (St st0_ok upd dueC trapC tickC readC CsrOK Only S1 hP one_new)
open Go.Proofs.YtgpofoggfifnjaaGreatDoor.Pm (wp_fresh)

/-- what the example asks -/
def FitH (W0 : World) : Prop := ∀ w : World, Below W0.heap.size W0 w → Calls Tryz.prog 7 #[] w fun e w' => e = .returned (.bool true) ∧ Below w.heap.size w w'
set_option maxRecDepth 100000 in
set_option maxHeartbeats 4000000 in
theorem fit16_ok {Is : World → Nat → St → Prop} {W0 : World} (O : CsrOK Is) (K : HartOK Is W0) : FitH W0 := by
  intro w hW
  have hN := pnew_any w
  have HW := Lib.hid hW
  have hws := hW.size
  have hz := zeroTr
  clear hW
  go_enter Tryz.func7, Tryz.ntmps7
  go_upto_region 2 with (go_at_call 19; refine hN.mono ?_; rintro e w1 ⟨⟨gm, rfl, hM, hgm⟩, hb1⟩)
  have hS := store_any mem0 gm 2147487744 5243155 4 w1 hM (by decide) (by decide)
  have HB1 := Lib.hid hb1
  clear hN hb1 hM
  go_upto_region 3 with (go_at_call 20; refine hS.mono ?_; rintro e w2 ⟨rfl, hM2, hgr⟩)
  have hb2 : Below w.heap.size w w2 := HB1.out.trans (below_of_only hgr hgm HB1.out.size)
  have hW2 := HW.out.trans (hb2.mono hws)
  have hK := K.new w2 (some gm) hW2
  have HM2 := Lib.hid hM2
  have HB2 := Lib.hid hb2
  have hgl := hM2.lt
  clear hgr hb2 hW2 hM2 hS
  go_upto_region 4 with (go_at_call 17; refine hK.mono ?_; rintro e w3 ⟨⟨p, g, rfl, hH, hI, hp, hg, hpg⟩, hb3⟩)
  have hb4 : Below w.heap.size w w3 := HB2.out.trans (hb3.mono HB2.out.size)
  have c33 : w3.cell? ⟨p, 33, none⟩ = some (.pointer (some ⟨g, 0, none⟩)) := hH.cellTab 33 (by decide)
  have c32 : w3.cell? ⟨p, 32, none⟩ = some (.int .u32 0) := hH.cellTab 32 (by decide)
  have f32 : w3.frozen? ⟨p, 32, none⟩ = false := hH.free 32
  have hH5 : Has (w3.setCell ⟨p, 32, none⟩ (.int .u32 2147487744)) p _ _ := hart_pc hH 2147487744
  have hO5 : Only (S1 p) w3 (w3.setCell ⟨p, 32, none⟩ (.int .u32 2147487744)) := Only.setCell (S := S1 p) _ (show S1 p p from rfl) _
  have hI5 := O.keep hI hO5 (fun e => hpg (Eq.symm e))
  have hpm : p ≠ gm := by omega
  have hgmn : g ≠ gm := by omega
  have hM3 : RamP w3 gm m16 := ram_only HM2.out (Only.of_below (S := fun _ => False) hb3) (fun h => h)
  have hM5 := ram_only hM3 hO5 (fun e => hpm (Eq.symm e))
  have hws2 := HB2.out.size
  have hb5 : Below w.heap.size w (w3.setCell ⟨p, 32, none⟩ (.int .u32 2147487744)) := hb4.trans (hO5.below (fun i hi => by have e : i = p := hi; omega) hb4.size)
  have hst := K.step _ p g gm 2147487744 (fun _ => 0) Cs.st0 m16 (HW.out.trans (hb5.mono hws)) hH5 hI5 hM5 hpg hpm hgmn (by omega) (by omega) (by omega) ⟨fun _ => by decide, rfl⟩ (by decide) (Or.inr ⟨rfl, fun _ => rfl, by decide +kernel⟩)
  rw [fit_step1] at hst
  have HB5 := Lib.hid hb5
  have HD := Lib.hid (And.intro hpg (And.intro hpm hgmn))
  have HL := Lib.hid (And.intro hp (And.intro hg (And.intro hgm hws2)))
  clear hK hH hI hb3 hb4 hH5 hO5 hI5 hM3 hM5 hb5 hpg hpm hgmn hp hg hgm hgl
  go_upto_region 7 with fail
  clear c33 c32 f32
  go_upto_region 8 with (first
    | (go_at_call 11; refine hst.mono ?_; rintro e w6 ⟨rfl, ⟨hH6, hI6, hM6⟩, hO6⟩)
    | (refine wp_fresh 51 7 (trC (onR { did0 with word := 5243155 } (fun _ => 0) Cs.st0 m16 2 5 2147487748).d) _ _ _ rfl rfl rfl rfl hz infoTr (by decide) (trC_one _) rfl rfl ?_
       intro w7 hH7 hb7 hlt7
       go_frame))
  have hge : ∀ i, SH p g gm i → w.heap.size ≤ i := by
    have h := HL.out
    rintro i (e | e | e) <;> omega
  have hb6 := HB5.out.trans (hO6.below hge HB5.out.size)
  have hb8 := hb6.trans (hb7.mono hb6.size)
  have t0 : w7.cell? ⟨w6.heap.size, 0, none⟩ = some (.int .u32 5243155) := hH7.cellTab 0 (by decide)
  have t1 : w7.cell? ⟨w6.heap.size, 1, none⟩ = some (.bool false) := hH7.cellTab 1 (by decide)
  have hHa : Has w7 p 48 (tab 35 (hV (upd (fun _ => 0) 2 5) 2147487748 g (some gm))) := hH6.after hb7
  have x2 : w7.cell? ⟨p, 2, none⟩ = some (.int .u32 5) := hHa.cellTab 2 (by decide)
  have p2 : w7.cell? ⟨p, 32, none⟩ = some (.int .u32 2147487748) := hHa.cellTab 32 (by decide)
  have hIa : Is w7 g (tickC Cs.st0 true) := O.below hI6 hb7
  have hMa : RamP w7 gm m16 := ram_only hM6 (Only.of_below (S := fun _ => False) hb7) (fun h => h)
  have hl := HL.out
  have hst2 := K.step _ p g gm 2147487748 (upd (fun _ => 0) 2 5) (tickC Cs.st0 true) m16 (HW.out.trans (hb8.mono hws)) hHa hIa hMa HD.out.1 HD.out.2.1 HD.out.2.2 (by omega) (by omega) (by omega) ⟨fun i => by unfold upd; split; exact (by decide : 5 < L32); exact (by decide : 0 < L32), rfl⟩ (by decide) (Or.inr ⟨rfl, fun _ => rfl, by rw [fit_word2]; decide⟩)
  rw [fit_step2] at hst2
  have e2 : trV (trapR did0 (upd (fun _ => 0) 2 5) 2147487748 (tickC Cs.st0 true) m16 2 0).d = .agg #[.int .u32 0, .bool true, .int .u32 2, .int .u32 0, .int .u32 0, .int .i64 0, .bool false] := rfl
  rw [e2] at hst2
  have hfd : ∀ W, (Instr.field 51 (.agg #[.int .u32 0, .bool true, .int .u32 2, .int .u32 0, .int .u32 0, .int .i64 0, .bool false]) 2).run Tryz.prog W = .ok (.int .u32 2) W := fun W => by kernel_rfl
  have HB8 := Lib.hid hb8
  have HGE := Lib.hid hge
  clear e2 hge hb6 hb8 hb7 hH7 hHa hIa hMa hH6 hI6 hM6 hO6 hst
  generalize w6.heap.size = bt at *
  go_wp2_with (go_at_call 11; refine hst2.mono ?_; rintro e w8 ⟨rfl, _, hO8⟩)
  go_ret
  exact ⟨rfl, HB8.out.trans (hO8.below HGE.out HB8.out.size)⟩
theorem eql_did0 (tt uu : Operand) : ∀ W : World, (do eqGuard .eql 51 tt uu (.agg #[.int .u32 0, .bool false, .int .u32 0, .int .u32 0, .int .u32 0, .int .i64 0, .bool false]) (.agg #[.int .u32 0, .bool false, .int .u32 0, .int .u32 0, .int .u32 0, .int .i64 0, .bool false]); binOp .eql 51 (.agg #[.int .u32 0, .bool false, .int .u32 0, .int .u32 0, .int .u32 0, .int .i64 0, .bool false]) (.agg #[.int .u32 0, .bool false, .int .u32 0, .int .u32 0, .int .u32 0, .int .i64 0, .bool false])).run Tryz.prog W = .ok (.bool true) W := fun W => by
  go_simp
set_option maxRecDepth 100000 in
set_option maxHeartbeats 4000000 in
theorem none16_ok {Is : World → Nat → St → Prop} {W0 : World} (O : CsrOK Is) (K : HartOK Is W0) (pc : Nat) (w : World) (hW : Below W0.heap.size W0 w) (hpc : pc < 4294967296) :
    Calls Tryz.prog 5 #[.int .u32 (pc : Int)] w fun e w' => e = .returned (.bool true) ∧ Below w.heap.size w w' := by
  have hF := fit16_ok O K w hW
  have HW := Lib.hid hW
  have hws := hW.size
  have hz := zeroTr
  clear hW
  go_enter Tryz.func5, Tryz.ntmps5
  go_upto_region 3 with (go_at_call 7; refine hF.mono ?_; rintro e w1 ⟨rfl, hb1⟩)
  have hW1 := HW.out.trans (hb1.mono hws)
  have hK : Calls Tryz.prog 17 #[.pointer none] w1 _ := K.new w1 none hW1
  have HB1 := Lib.hid hb1
  have hw1 := hb1.size
  clear hb1 hW1 hF
  go_upto_region 5 with (go_at_call 17; refine hK.mono ?_; rintro e w3 ⟨⟨p, g, rfl, hH, hI, hp, hg, hpg⟩, hb3⟩)
  have c32 : w3.cell? ⟨p, 32, none⟩ = some (.int .u32 0) := hH.cellTab 32 (by decide)
  have f32 : w3.frozen? ⟨p, 32, none⟩ = false := hH.free 32
  have hH5 : Has (w3.setCell ⟨p, 32, none⟩ (.int .u32 (pc : Int))) p _ _ := hart_pc hH pc
  have hO5 : Only (S1 p) w3 (w3.setCell ⟨p, 32, none⟩ (.int .u32 (pc : Int))) := Only.setCell (S := S1 p) _ (show S1 p p from rfl) _
  have hI5 := O.keep hI hO5 (fun e => hpg (Eq.symm e))
  have hb4 : Below w.heap.size w w3 := HB1.out.trans (hb3.mono hw1)
  have hb5 : Below w.heap.size w (w3.setCell ⟨p, 32, none⟩ (.int .u32 (pc : Int))) := hb4.trans (hO5.below (fun i hi => by have e : i = p := hi; omega) hb4.size)
  have hst := K.bare _ p g pc (HW.out.trans (hb5.mono hws)) hH5 hI5 hpg (by omega) (by omega) hpc
  have HB5 := Lib.hid hb5
  have HL := Lib.hid (And.intro hp (And.intro hg hpg))
  have hpp : (pc : Int) < 4294967296 := by omega
  clear hK hH hI hb3 hb4 hH5 hO5 hI5 hb5 hp hg hpg
  obtain ⟨qq, hqq⟩ : ∃ y, y = pc % 4 := ⟨_, rfl⟩
  have f1 : (pc : Int).tmod 4 = (qq : Int) := by rw [hqq]; exact Cs.tmN pc 4
  have f2 : (pc : Int) % 4 = (qq : Int) := by omega
  have f5 : (qq : Int) < 4 := by omega
  rw [← hqq] at hst
  have HQ := Lib.hid hqq
  clear hqq
  go_upto_region 6 with fail
  clear c32 f32
  generalize hd : ({ did0 with trap := true, cause := if qq = 0 then 1 else 0, tval := pc } : Did) = d at *
  go_upto_region 7 with (first
    | (go_at_call 11; refine hst.mono ?_; rintro e w6 ⟨rfl, hH6, hO6⟩)
    | (refine wp_fresh 51 7 (trC d) _ _ _ rfl rfl rfl rfl hz infoTr (by decide) (trC_one _) rfl rfl ?_
       intro w7 hH7 hb7 hlt7
       go_frame))
  have hge : ∀ i, SH p g g i → w.heap.size ≤ i := by
    have h := HL.out
    rintro i (e | e | e) <;> omega
  have hb6 := HB5.out.trans (hO6.below hge HB5.out.size)
  have hb8 := hb6.trans (hb7.mono hb6.size)
  have t1 : w7.cell? ⟨w6.heap.size, 1, none⟩ = some (.bool true) := by rw [hH7.cellTab 1 (by decide), ← hd]; rfl
  have t3 : w7.cell? ⟨w6.heap.size, 3, none⟩ = some (.int .u32 (pc : Int)) := by rw [hH7.cellTab 3 (by decide), ← hd]; rfl
  have hHa := hH6.after hb7
  have hni := K.nil w7 (HW.out.trans (hb8.mono hws))
  rw [show trV did0 = .agg #[.int .u32 0, .bool false, .int .u32 0, .int .u32 0, .int .u32 0, .int .i64 0, .bool false] from rfl] at hni
  have hq4 : qq < 4 := by omega
  have HB8 := Lib.hid hb8
  have n1 : ∀ W, Below w7.heap.size w7 W → W.cell? ⟨w6.heap.size, 1, none⟩ = some (.bool true) := fun W h => by rw [(hH7.after h).cellTab 1 (by decide), ← hd]; rfl
  have n3 : ∀ W, Below w7.heap.size w7 W → W.cell? ⟨w6.heap.size, 3, none⟩ = some (.int .u32 (pc : Int)) := fun W h => by rw [(hH7.after h).cellTab 3 (by decide), ← hd]; rfl
  have np : ∀ W, Below w7.heap.size w7 W → W.cell? ⟨p, 32, none⟩ = some (.int .u32 0) := fun W h => (hHa.after h).cellTab 32 (by decide)
  have n2 : ∀ W, Below w7.heap.size w7 W → W.cell? ⟨w6.heap.size, 2, none⟩ = some (.int .u32 ((if qq = 0 then 1 else 0 : Nat) : Int)) := fun W h => by rw [(hH7.after h).cellTab 2 (by decide), ← hd]; rfl
  have he := eql_did0
  clear hge hb6 hb8 hb7 hH7 hHa hH6 hO6 hst hd t1 t3
  generalize w6.heap.size = bt at *
  by_cases hq0 : qq = 0
  · replace n2 : ∀ W, Below w7.heap.size w7 W → W.cell? ⟨bt, 2, none⟩ = some (.int .u32 1) := fun W h => by have := n2 W h; rw [if_pos hq0] at this; exact this
    replace f1 : (pc : Int).tmod 4 = 0 := by rw [f1, hq0]; rfl
    replace f2 : (pc : Int) % 4 = 0 := by rw [f2, hq0]; rfl
    clear f5 hq4 hq0 HQ hpp hws hw1 hpc hz
    go_wp2_with (go_at_call 11; refine hni.mono ?_; rintro e w8 ⟨rfl, hb9⟩; have z1 := n1 _ hb9; have z2 := n2 _ hb9; have z3 := n3 _ hb9; have zp := np _ hb9)
    go_ret
    exact ⟨rfl, HB8.out.trans (hb9.mono HB8.out.size)⟩
  · replace n2 : ∀ W, Below w7.heap.size w7 W → W.cell? ⟨bt, 2, none⟩ = some (.int .u32 0) := fun W h => by have := n2 W h; rw [if_neg hq0] at this; exact this
    have hq1 : ((qq : Int) == 0) = false := beq_eq_false_iff_ne.2 (by omega)
    have hq2 : ((qq : Int) != 0) = true := by simp; omega
    have hq3 : ¬ (qq : Int) = 0 := by omega
    clear hq4 hq0 HQ f5 hpp hws hw1 hpc hz
    go_wp2_with (go_at_call 11; refine hni.mono ?_; rintro e w8 ⟨rfl, hb9⟩; have z1 := n1 _ hb9; have z2 := n2 _ hb9; have z3 := n3 _ hb9; have zp := np _ hb9)
    go_ret
    exact ⟨rfl, HB8.out.trans (hb9.mono HB8.out.size)⟩
end Go.Proofs.YtgpofoggfifnjaaGreatDoor.Ha
