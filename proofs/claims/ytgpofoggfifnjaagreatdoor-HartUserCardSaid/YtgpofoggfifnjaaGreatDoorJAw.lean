/-
Layer 15: play, a call of both.
Layer 15: package csr's file of registers in memory; what a store leaves; bits.
Layer 15: package csr's calls without state: aligned, stored, bitsIf, among, word, statusOf, withLower, withUpper.
Layer 15: CsrBack over what package csr's calls answer.
-/
import Derived.Test.YtgpofoggfifnjaaGreatDoorJAv
import Derived.Test.YtgpofoggfifnjaaGreatDoorJAq
namespace Go.Proofs.YtgpofoggfifnjaaGreatDoor.Cs
open Go Go.RowKit
open Go.Proofs.YtgpofoggfifnjaaGreatDoor.Pm (En Sl SlC SlE enV en0 TabT wp_fresh)

theorem one_new (w : World) (u : Array Value) (t : TypeId) : ∃ wa, wa = w.alloc (.cells u t) ∧ Has wa w.heap.size t u ∧ Below w.heap.size w wa ∧ wa.heap.size = w.heap.size + 1 :=
  ⟨_, rfl, Has.new _ _ _, (Below.refl _ _).alloc (Nat.le_refl _) _, Array.size_push _⟩
theorem Ref.only {S : Nat → Prop} {w w' : World} {h mb : Nat} {s : St} (H : Ref w h mb s) (k : Only S w w') (h1 : ¬ S h) (h2 : ¬ S mb) : Ref w' h mb s := by
  refine ⟨k.has H.blk h1, ?_, H.ok⟩
  obtain ⟨n, D, ⟨es, cl, hb, F, hs, e⟩, h4, h5⟩ := H.map
  exact ⟨n, D, ⟨es, cl, (k.block mb H.map.lt h2).trans hb, F, hs, e⟩, h4, h5⟩
theorem slE_only {S : Nat → Prop} {w w' : World} {q : Sl} {l : List En} (h : SlE w q l) (k : Only S w w') (hne : ∀ b o, q.A = some ⟨b, o, none⟩ → 0 < q.n → ¬ S b) : SlE w' q l := by
  refine ⟨h.1, ⟨h.2.1.1, fun hn => ?_⟩, h.2.2⟩
  obtain ⟨b, o, e, hlt, hc⟩ := h.2.1.2 hn
  refine ⟨b, o, e, Nat.lt_of_lt_of_le hlt k.size, fun j i hj hi => ?_⟩
  have hb := k.block b hlt (hne b o e hn)
  have h0 := hc j i hj hi
  unfold World.cell? at h0 ⊢
  dsimp only at h0 ⊢
  rw [hb]
  exact h0
end Go.Proofs.YtgpofoggfifnjaaGreatDoor.Cs
namespace Go.Proofs.YtgpofoggfifnjaaGreatDoor.Cs
open Go Go.RowKit
open Go.Proofs.YtgpofoggfifnjaaGreatDoor.Pm (En Sl SlC SlE enV en0 TabT at_entry infoE)

/-- an entry's byte says that it is locked -/
def lkB (c : Nat) : Bool := decide (128 ≤ c)
def tri3 (a b c : Value) (i : Nat) : Value := if i = 0 then a else if i = 1 then b else c
/-- the status' cells -/
def stV (r : Nat) : Nat → Value := tri3 (.bool (decide (r / 8 % 2 = 1))) (.bool (decide (r / 128 % 2 = 1))) (.int .i64 ((r / 2048 % 4 : Nat) : Int))
theorem stV_one (r j : Nat) : (stV r j).oneCell' = true := by unfold stV tri3; repeat' split <;> try rfl
/-- an entry of the file -/
def entN (s : St) (k : Nat) : En := ⟨((s.cfg k / 8 % 4 : Nat) : Int), ((s.cfg k % 8 : Nat) : Int), s.r (944 + k)⟩
def regL (i : Nat) : Nat := if i = 4 then 772 else if i = 5 then 836 else if i = 6 then 773 else 825 + i
/-- the file's cells -/
def fV (s : St) (i : Nat) : Value :=
  if i = 0 then .int .i64 (s.mode : Int) else if i < 4 then stV (s.r 768) (i - 1) else if i < 11 then .int .u32 (s.r (regL i) : Int)
  else if i < 59 then enV (entN s ((i - 11) / 3)) ((i - 11) % 3) else if i < 75 then .bool (lkB (s.cfg (i - 59)))
  else if i = 75 then .int .u64 (s.cyc : Int) else .int .u64 (s.ret : Int)
structure Inv (s : St) : Prop where
  ok : s.Ok
  st : s.r 768 = s.r 768 / 8 % 2 * 8 + s.r 768 / 128 % 2 * 128 + s.r 768 / 2048 % 4 * 2048
  en : s.r 772 = 0 ∨ s.r 772 = 128
  pe : s.r 836 = 0 ∨ s.r 836 = 128
/-- at g lies a file of registers that holds s -/
structure IsF (w : World) (g : Nat) (s : St) : Prop where
  blk : Has w g 43 (tab 77 (fV s))
  inv : Inv s
theorem fV_e (s : St) (k i : Nat) (hk : k < 16) (hi : i < 3) : fV s (11 + k * 3 + i) = enV (entN s k) i := by
  unfold fV
  rw [if_neg (by omega), if_neg (by omega), if_neg (by omega), if_pos (by omega), show (11 + k * 3 + i - 11) / 3 = k by omega, show (11 + k * 3 + i - 11) % 3 = i by omega]
theorem fV_l (s : St) (k : Nat) (hk : k < 16) : fV s (59 + k) = .bool (lkB (s.cfg k)) := by
  unfold fV
  rw [if_neg (by omega), if_neg (by omega), if_neg (by omega), if_neg (by omega), if_pos (by omega), show 59 + k - 59 = k by omega]
section
variable {w w' : World} {g : Nat} {s : St}
theorem IsF.lt (H : IsF w g s) : g < w.heap.size := H.blk.lt
theorem IsF.after (H : IsF w g s) (k : Below w.heap.size w w') : IsF w' g s := ⟨H.blk.after k, H.inv⟩
theorem IsF.ce (H : IsF w g s) (k i : Nat) (hk : k < 16) (hi : i < 3) : w.cell? ⟨g, 11 + k * 3 + i, none⟩ = some (enV (entN s k) i) := (H.blk.cellTab _ (by omega)).trans (by rw [fV_e s k i hk hi])
theorem IsF.cl (H : IsF w g s) (k : Nat) (hk : k < 16) : w.cell? ⟨g, 59 + k, none⟩ = some (.bool (lkB (s.cfg k))) := (H.blk.cellTab _ (by omega)).trans (by rw [fV_l s k hk])
theorem IsF.put (H : IsF w g s) (i : Nat) (v : Value) (s' : St) (hs : ∀ j, j < 77 → (if j = i then v else fV s j) = fV s' j) (I : Inv s') : IsF (w.setCell ⟨g, i, none⟩ v) g s' := by
  have h1 := H.blk.set i v
  rw [tab_set, tab_ext _ _ _ hs] at h1
  exact ⟨h1, I⟩
theorem regL_ne (i j : Nat) (_hi : 4 ≤ i) (hi2 : i < 11) (_hj : 4 ≤ j) (hj2 : j < 11) (h : j ≠ i) : regL j ≠ regL i := by unfold regL; (repeat' split) <;> omega
theorem regL_768 (i : Nat) (h4 : 4 ≤ i) (hi : i < 11) : 768 ≠ regL i ∧ ∀ k, 944 + k ≠ regL i := by
  unfold regL
  repeat' split
  all_goals first | exact ⟨by omega, fun k => by omega⟩
theorem fV_reg (s : St) (i v j : Nat) (h4 : 4 ≤ i) (hi : i < 11) (e : j ≠ i) : fV s j = fV { s with r := upd s.r (regL i) v } j := by
  obtain ⟨h1, h2⟩ := regL_768 i h4 hi
  unfold fV
  split
  · rfl
  split
  · dsimp only; rw [upd_other _ _ h1]
  split
  · dsimp only; rw [upd_other _ _ (regL_ne i j h4 hi (by omega) (by omega) e)]
  split
  · unfold entN; dsimp only; rw [upd_other _ _ (h2 _)]
  · rfl
/-- a register of one cell is stored -/
theorem IsF.reg (H : IsF w g s) (i v : Nat) (h4 : 4 ≤ i) (hi : i < 11) (I : Inv { s with r := upd s.r (regL i) v }) : IsF (w.setCell ⟨g, i, none⟩ (.int .u32 (v : Int))) g { s with r := upd s.r (regL i) v } :=
  H.put i _ _ (fun j _ => by
    by_cases e : j = i
    · subst e
      rw [if_pos rfl]
      unfold fV
      rw [if_neg (by omega), if_neg (by omega), if_pos hi]
      dsimp only
      rw [upd_same]
    · rw [if_neg e]
      exact fV_reg s i v j h4 hi e) I
/-- the status is stored -/
theorem IsF.sta (_H : IsF w g s) (v : Nat) (I : Inv { s with r := upd s.r 768 v }) (hB : Has w' g 43 (tab 77 fun j => if 1 ≤ j ∧ j < 1 + 3 then stV v (j - 1) else fV s j)) : IsF w' g { s with r := upd s.r 768 v } := by
  refine ⟨?_, I⟩
  rw [tab_ext _ _ (fV { s with r := upd s.r 768 v })] at hB
  · exact hB
  intro j hj
  by_cases e : 1 ≤ j ∧ j < 1 + 3
  · rw [if_pos e]
    unfold fV
    rw [if_neg (by omega), if_pos (by omega)]
    dsimp only
    rw [upd_same]
  · rw [if_neg e]
    unfold fV
    split
    · rfl
    split
    · omega
    split
    · dsimp only; rw [upd_other _ _ (regL_768 j (by omega) (by omega)).1.symm]
    split
    · unfold entN; dsimp only; rw [upd_other _ _ (by omega)]
    · rfl
theorem IsF.modeS (H : IsF w g s) (m : Nat) (hm : m = 0 ∨ m = 3) : IsF (w.setCell ⟨g, 0, none⟩ (.int .i64 (m : Int))) g { s with mode := m } :=
  H.put 0 _ _ (fun j hj => by
    by_cases e : j = 0
    · subst e; rfl
    · rw [if_neg e]; unfold fV; simp only [e, if_false]; rfl) ⟨mode_ok s H.inv.ok m hm, H.inv.st, H.inv.en, H.inv.pe⟩
theorem IsF.cycS (H : IsF w g s) (c : Nat) (hc : c < 18446744073709551616) : IsF (w.setCell ⟨g, 75, none⟩ (.int .u64 (c : Int))) g { s with cyc := c } :=
  H.put 75 _ _ (fun j hj => by
    by_cases e : j = 75
    · subst e; rfl
    · rw [if_neg e]; unfold fV; repeat' split
      all_goals first | rfl | omega) ⟨⟨H.inv.ok.mode, H.inv.ok.r, H.inv.ok.cfg, hc, H.inv.ok.ret, H.inv.ok.st, H.inv.ok.mpp, H.inv.ok.bits⟩, H.inv.st, H.inv.en, H.inv.pe⟩
theorem IsF.retS (H : IsF w g s) (c : Nat) (hc : c < 18446744073709551616) : IsF (w.setCell ⟨g, 76, none⟩ (.int .u64 (c : Int))) g { s with ret := c } :=
  H.put 76 _ _ (fun j hj => by
    by_cases e : j = 76
    · subst e; rfl
    · rw [if_neg e]; unfold fV; repeat' split
      all_goals first | rfl | omega) ⟨⟨H.inv.ok.mode, H.inv.ok.r, H.inv.ok.cfg, H.inv.ok.cyc, hc, H.inv.ok.st, H.inv.ok.mpp, H.inv.ok.bits⟩, H.inv.st, H.inv.en, H.inv.pe⟩
end
/-- a register that has no form of its own -/
theorem Inv.reg {s : St} (I : Inv s) (k v : Nat) (hv : v < 4294967296) (h1 : k ≠ 768) (h2 : k ≠ 772) (h3 : k ≠ 836) : Inv { s with r := upd s.r k v } := by
  refine ⟨reg_ok s I.ok k v h1 hv, ?_, ?_, ?_⟩
  · dsimp only; rw [upd_other _ _ (Ne.symm h1)]; exact I.st
  · dsimp only; rw [upd_other _ _ (Ne.symm h2)]; exact I.en
  · dsimp only; rw [upd_other _ _ (Ne.symm h3)]; exact I.pe
theorem Inv.ie {s : St} (I : Inv s) (v : Nat) (hv : v = 0 ∨ v = 128) : Inv { s with r := upd s.r 772 v } := by
  refine ⟨reg_ok s I.ok 772 v (by decide) (by omega), ?_, ?_, ?_⟩
  · dsimp only; rw [upd_other _ _ (by decide)]; exact I.st
  · dsimp only; rw [upd_same]; exact hv
  · dsimp only; rw [upd_other _ _ (by decide)]; exact I.pe
theorem Inv.ip {s : St} (I : Inv s) (v : Nat) (hv : v = 0 ∨ v = 128) : Inv { s with r := upd s.r 836 v } := by
  refine ⟨reg_ok s I.ok 836 v (by decide) (by omega), ?_, ?_, ?_⟩
  · dsimp only; rw [upd_other _ _ (by decide)]; exact I.st
  · dsimp only; rw [upd_other _ _ (by decide)]; exact I.en
  · dsimp only; rw [upd_same]; exact hv
theorem Inv.sta {s : St} (I : Inv s) (v : Nat) (hm : v / 2048 % 4 = 0 ∨ v / 2048 % 4 = 3) (hv : v = v / 8 % 2 * 8 + v / 128 % 2 * 128 + v / 2048 % 4 * 2048) : Inv { s with r := upd s.r 768 v } := by
  refine ⟨sta_ok s I.ok v (by omega) hm, ?_, ?_, ?_⟩
  · dsimp only; rw [upd_same]; exact hv
  · dsimp only; rw [upd_other _ _ (by decide)]; exact I.en
  · dsimp only; rw [upd_other _ _ (by decide)]; exact I.pe
/-- entry k's row is stored: its byte becomes c (the lock as it was), its address a -/
def entS (s : St) (k c a : Nat) : St := { s with cfg := upd s.cfg k c, r := upd s.r (944 + k) a }
theorem Inv.ent {s : St} (I : Inv s) (k c a : Nat) (ha : a < 4294967296) (hc : c < 256) (hb : c / 32 % 4 = 0) : Inv (entS s k c a) := by
  have h1 := I.reg (944 + k) a ha (by omega) (by omega) (by omega)
  exact ⟨⟨h1.ok.mode, h1.ok.r, fun j => by show upd _ _ _ _ < _; unfold upd; split; exact hc; exact I.ok.cfg j, h1.ok.cyc, h1.ok.ret, h1.ok.st, h1.ok.mpp, fun j => by show upd _ _ _ _ / _ % _ = _; unfold upd; split; exact hb; exact I.ok.bits j⟩, h1.st, h1.en, h1.pe⟩
theorem fV_ent (s : St) (k c a j : Nat) (hk : k < 16) (hl : lkB c = lkB (s.cfg k)) (h : ¬ (11 + k * 3 ≤ j ∧ j < 11 + k * 3 + 3)) : fV s j = fV (entS s k c a) j := by
  unfold fV entS
  split
  · rfl
  split
  · dsimp only; rw [upd_other _ _ (by omega)]
  split
  · dsimp only; rw [upd_other _ _ (by unfold regL; (repeat' split) <;> omega)]
  split
  · unfold entN; dsimp only; rw [upd_other _ _ (by omega), upd_other _ _ (by omega)]
  split
  · dsimp only
    by_cases e : j - 59 = k
    · rw [e, upd_same, hl]
    · rw [upd_other _ _ e]
  · rfl
theorem IsF.ent {w w' : World} {g : Nat} {s : St} (H : IsF w g s) (k c a : Nat) (hk : k < 16) (ha : a < 4294967296) (hc : c < 256) (hb : c / 32 % 4 = 0) (hl : lkB c = lkB (s.cfg k)) (v : Nat → Value) (hv : ∀ i, i < 3 → v i = enV (entN (entS s k c a) k) i)
    (hB : Has w' g 43 (tab 77 fun j => if 11 + k * 3 ≤ j ∧ j < 11 + k * 3 + 3 then v (j - (11 + k * 3)) else fV s j)) : IsF w' g (entS s k c a) := by
  refine ⟨?_, H.inv.ent k c a ha hc hb⟩
  rw [tab_ext _ _ (fV (entS s k c a))] at hB
  · exact hB
  intro j hj
  by_cases e : 11 + k * 3 ≤ j ∧ j < 11 + k * 3 + 3
  · rw [if_pos e, hv _ (by omega)]
    obtain ⟨i, rfl⟩ : ∃ i, j = 11 + k * 3 + i := ⟨j - (11 + k * 3), by omega⟩
    rw [fV_e _ k i hk (by omega), show 11 + k * 3 + i - (11 + k * 3) = i by omega]
  · rw [if_neg e]
    exact fV_ent s k c a j hk hl e
theorem upd_id {α : Type} (f : Nat → α) (k : Nat) : upd f k (f k) = f := by
  funext j
  unfold upd
  split
  · rename_i h; rw [h]
  · rfl
/-- an entry's address is stored -/
theorem IsF.adr {w : World} {g : Nat} {s : St} (H : IsF w g s) (k a : Nat) (hk : k < 16) (ha : a < 4294967296) : IsF (w.setCell ⟨g, 11 + k * 3 + 2, none⟩ (.int .u32 (a : Int))) g { s with r := upd s.r (944 + k) a } := by
  have e : ({ s with r := upd s.r (944 + k) a } : St) = entS s k (s.cfg k) a := by unfold entS; rw [upd_id]
  rw [e]
  refine H.put _ _ _ (fun j _ => ?_) (H.inv.ent k _ a ha (H.inv.ok.cfg k) (H.inv.ok.bits k))
  by_cases h : j = 11 + k * 3 + 2
  · subst h
    rw [if_pos rfl, fV_e _ k 2 hk (by decide)]
    unfold entN entS
    dsimp only
    rw [upd_same, upd_same]
    rfl
  · rw [if_neg h]
    by_cases h2 : 11 + k * 3 ≤ j ∧ j < 11 + k * 3 + 3
    · obtain ⟨i, rfl⟩ : ∃ i, j = 11 + k * 3 + i := ⟨j - (11 + k * 3), by omega⟩
      rw [fV_e s k i hk (by omega), fV_e _ k i hk (by omega)]
      have hi : i = 0 ∨ i = 1 := by omega
      unfold entN entS
      dsimp only
      rw [upd_id]
      rcases hi with rfl | rfl <;> rfl
    · exact fV_ent s k _ a j hk rfl h2
/-- an entry's lock is stored -/
theorem IsF.lck {w : World} {g : Nat} {s : St} (H : IsF w g s) (k c : Nat) (hk : k < 16) (hc : c < 256) (hb : c / 32 % 4 = 0) (h1 : c % 32 = s.cfg k % 32) (b : Bool) (hl : b = lkB c) : IsF (w.setCell ⟨g, 59 + k, none⟩ (.bool b)) g { s with cfg := upd s.cfg k c } := by
  have hI : Inv { s with cfg := upd s.cfg k c } := by
    have h := H.inv.ent k c (s.r (944 + k)) (H.inv.ok.r _) hc hb
    have e : entS s k c (s.r (944 + k)) = { s with cfg := upd s.cfg k c } := by unfold entS; rw [upd_id]
    rw [← e]
    exact h
  refine H.put _ _ _ (fun j _ => ?_) hI
  by_cases h : j = 59 + k
  · subst h
    rw [if_pos rfl, fV_l _ k hk]
    dsimp only
    rw [upd_same, hl]
  · rw [if_neg h]
    unfold fV
    split
    · rfl
    split
    · rfl
    split
    · rfl
    split
    · unfold entN
      dsimp only
      by_cases e : (j - 11) / 3 = k
      · rw [e, upd_same, show c / 8 % 4 = s.cfg k / 8 % 4 by omega, show c % 8 = s.cfg k % 8 by omega]
      · rw [upd_other _ _ e]
    split
    · dsimp only
      rw [upd_other _ _ (by omega)]
    · rfl
theorem and_not3 (x : Nat) (h : x < 4294967296) : bits .andNot .u32 (x : Int) 3 = ((x - x % 4 : Nat) : Int) := by
  rw [show (3 : Int) = ((3 : Nat) : Int) from rfl, u32_andNot_nat _ _ h (by decide)]
  refine congrArg (fun n : Nat => (n : Int)) ?_
  refine Nat.eq_of_testBit_eq fun i => ?_
  rw [show x - x % 4 = x / 2 ^ 2 * 2 ^ 2 by omega, Nat.testBit_and, Nat.testBit_mul_two_pow, Nat.testBit_div_two_pow]
  rw [show (4294967295 - 3 : Nat) = 2 ^ 32 - (3 + 1) by decide, Nat.testBit_two_pow_sub_succ (by decide), show (3 : Nat) = 2 ^ 2 - 1 by decide, Nat.testBit_two_pow_sub_one]
  by_cases h2 : 2 ≤ i
  · rw [show i - 2 + 2 = i by omega]
    by_cases h32 : i < 32
    · simp [h2, h32, Nat.not_lt.2 h2]
    · have : x.testBit i = false := Nat.testBit_lt_two_pow (Nat.lt_of_lt_of_le h (Nat.pow_le_pow_right (n := 2) (i := 32) (by decide) (by omega)))
      simp [this]
  · simp [h2, Nat.lt_of_not_le h2]
theorem or32 (A b i : Nat) (hb : b < 2 ^ i) (hA : A < 4294967296) (hb2 : b < 4294967296) (hd : A % 2 ^ i = 0) : bits .or .u32 (A : Int) (b : Int) = ((A + b : Nat) : Int) := by
  rw [u32_or_nat _ _ hA hb2]
  have e : A = 2 ^ i * (A / 2 ^ i) := (Nat.mul_div_cancel' (Nat.dvd_of_mod_eq_zero hd)).symm
  rw [e, ← Nat.two_pow_add_eq_or_of_lt hb]
theorem or64 (h l : Nat) (hh : h < 4294967296) (hl : l < 4294967296) : bits .or .u64 ((h : Int) * 4294967296) (l : Int) = (h : Int) * 4294967296 + l := by
  have h1 : (BitVec.ofInt 64 ((h : Int) * 4294967296)).toNat = h * 4294967296 := by
    rw [show (h : Int) * 4294967296 = ((h * 4294967296 : Nat) : Int) by omega, BitVec.ofInt_natCast, BitVec.toNat_ofNat]; exact Nat.mod_eq_of_lt (by omega)
  have h2 : (BitVec.ofInt 64 (l : Int)).toNat = l := by
    rw [BitVec.ofInt_natCast, BitVec.toNat_ofNat]; exact Nat.mod_eq_of_lt (by omega)
  show IntKind.u64.wrap ((BitVec.ofInt 64 ((h : Int) * 4294967296) ||| BitVec.ofInt 64 (l : Int)).toNat : Int) = _
  rw [BitVec.toNat_or, h1, h2, show h * 4294967296 = 2 ^ 32 * h by omega, ← Nat.two_pow_add_eq_or_of_lt (by omega)]
  simp [IntKind.wrap, IntKind.bits, IntKind.signed]
  omega
theorem andB (x j : Nat) : x &&& 2 ^ j = x / 2 ^ j % 2 * 2 ^ j := by
  apply Nat.eq_of_testBit_eq
  intro i
  rw [Nat.testBit_and, Nat.testBit_two_pow, Nat.testBit_mul_two_pow]
  by_cases h : j = i
  · subst h
    rw [Nat.testBit_eq_decide_div_mod_eq]
    simp
  · rw [decide_eq_false h, Bool.and_false]
    by_cases h3 : j ≤ i
    · rw [decide_eq_true h3, Bool.true_and, Nat.testBit_eq_decide_div_mod_eq]
      have h4 : x / 2 ^ j % 2 / 2 ^ (i - j) = 0 := Nat.div_eq_of_lt (by
        have h5 : 2 ^ 1 ≤ 2 ^ (i - j) := Nat.pow_le_pow_right (by decide) (by omega)
        have h6 : x / 2 ^ j % 2 < 2 := Nat.mod_lt _ (by decide)
        omega)
      rw [h4]
      rfl
    · rw [decide_eq_false h3]
      rfl
theorem a32 (x j : Nat) (hx : x < 4294967296) (hj : 2 ^ j < 4294967296) : bits .and .u32 (x : Int) ((2 ^ j : Nat) : Int) = ((x / 2 ^ j % 2 * 2 ^ j : Nat) : Int) := by rw [u32_and_nat _ _ hx hj, andB]
theorem a8 (x j : Nat) (hx : x < 256) (hj : 2 ^ j < 256) : bits .and .u8 (x : Int) ((2 ^ j : Nat) : Int) = ((x / 2 ^ j % 2 * 2 ^ j : Nat) : Int) := by rw [Pm.u8_and_nat' _ _ hx hj, andB]
theorem a_mpp (x : Nat) (hx : x < 4294967296) : bits .and .u32 (x : Int) 6144 = ((x / 2048 % 4 * 2048 : Nat) : Int) := by
  rw [show (6144 : Int) = ((6144 : Nat) : Int) from rfl, u32_and_nat _ _ hx (by decide)]
  have e : x &&& 6144 = x / 2048 % 4 * 2048 := by
    rw [show (6144 : Nat) = 2 ^ 11 ||| 2 ^ 12 by decide, Nat.and_or_distrib_left, andB, andB]
    have h1 : x / 2 ^ 11 % 2 * 2 ^ 11 < 2 ^ 12 := by omega
    have h2 := Nat.two_pow_add_eq_or_of_lt h1 (x / 2 ^ 12 % 2)
    rw [Nat.or_comm, Nat.mul_comm (x / 2 ^ 12 % 2) (2 ^ 12), ← h2]
    omega
  rw [e]
end Go.Proofs.YtgpofoggfifnjaaGreatDoor.Cs
namespace Go.Proofs.YtgpofoggfifnjaaGreatDoor.Cs
open Go Go.RowKit

set_option maxRecDepth 100000 in
set_option maxHeartbeats 1000000 in
theorem aligned_any (x : Nat) (w : World) (hx : x < 4294967296) : Calls Tryz.prog 56 #[.int .u32 (x : Int)] w fun e w' => e = .returned (.int .u32 ((x - x % 4 : Nat) : Int)) ∧ w = w' := by
  have h := and_not3 x hx
  generalize x - x % 4 = y at *
  go_enter Tryz.func56, Tryz.ntmps56
  go_wp2_with fail
  go_ret
  exact ⟨rfl, rfl⟩
set_option maxRecDepth 100000 in
set_option maxHeartbeats 1000000 in
theorem stored_any (m : Nat) (w : World) : Calls Tryz.prog 57 #[.int .i64 (m : Int)] w fun e w' => e = .returned (.int .i64 ((if m = 3 then 3 else 0 : Nat) : Int)) ∧ w = w' := by
  by_cases h : m = 3
  · subst h
    go_enter Tryz.func57, Tryz.ntmps57
    go_wp2_with fail
    go_ret
    exact ⟨rfl, rfl⟩
  · have d : ((m : Int) == 3) = false := beq_eq_false_iff_ne.2 (by omega)
    rw [if_neg h]
    go_enter Tryz.func57, Tryz.ntmps57
    go_wp2_with fail
    go_ret
    exact ⟨rfl, rfl⟩
set_option maxRecDepth 100000 in
set_option maxHeartbeats 1000000 in
theorem bitsIf_any (b : Bool) (n : Nat) (w : World) : Calls Tryz.prog 39 #[.bool b, .int .u32 (n : Int)] w fun e w' => e = .returned (.int .u32 ((if b = true then n else 0 : Nat) : Int)) ∧ w = w' := by
  cases b
  · go_enter Tryz.func39, Tryz.ntmps39
    go_wp2_with fail
    go_ret
    exact ⟨rfl, rfl⟩
  · go_enter Tryz.func39, Tryz.ntmps39
    go_wp2_with fail
    go_ret
    exact ⟨rfl, rfl⟩
set_option maxRecDepth 100000 in
set_option maxHeartbeats 1000000 in
theorem among_any (n a c : Nat) (w : World) (hac : a + c < 4294967296) : Calls Tryz.prog 35 #[.int .u32 (n : Int), .int .u32 (a : Int), .int .u32 (c : Int)] w fun e w' => e = .returned (.bool (decide (a ≤ n ∧ n < a + c))) ∧ w = w' := by
  have e : ((a : Int) + (c : Int)) % 4294967296 = ((a + c : Nat) : Int) := by omega
  have hs : IntKind.u32.wrap ((a : Int) + (c : Int)) = ((a + c : Nat) : Int) := by simpa [IntKind.wrap, IntKind.signed, IntKind.bits] using e
  obtain ⟨t, ht⟩ : ∃ t, t = a + c := ⟨_, rfl⟩
  rw [← ht] at e hs hac ⊢
  clear ht
  by_cases h1 : a ≤ n
  · have d1 : (a : Int) ≤ (n : Int) := by omega
    by_cases h2 : n < t
    · have d2 : (n : Int) < (t : Int) := by omega
      rw [decide_eq_true (And.intro h1 h2)]
      go_enter Tryz.func35, Tryz.ntmps35
      go_wp2_with fail
      go_ret
      exact ⟨rfl, rfl⟩
    · have d2 : ¬ (n : Int) < (t : Int) := by omega
      rw [decide_eq_false (fun h => h2 h.2)]
      go_enter Tryz.func35, Tryz.ntmps35
      go_wp2_with fail
      go_ret
      exact ⟨rfl, rfl⟩
  · have d1 : ¬ (a : Int) ≤ (n : Int) := by omega
    rw [decide_eq_false (fun h => h1 h.1)]
    go_enter Tryz.func35, Tryz.ntmps35
    go_wp2_with fail
    go_ret
    exact ⟨rfl, rfl⟩
theorem among_cfg (n : Nat) (w : World) : Calls Tryz.prog 35 #[.int .u32 (n : Int), .int .u32 928, .int .u32 4] w fun e w' => e = .returned (.bool (decide (928 ≤ n ∧ n < 932))) ∧ w = w' := among_any n 928 4 w (by decide)
theorem among_adr (n : Nat) (w : World) : Calls Tryz.prog 35 #[.int .u32 (n : Int), .int .u32 944, .int .u32 16] w fun e w' => e = .returned (.bool (decide (944 ≤ n ∧ n < 960))) ∧ w = w' := among_any n 944 16 w (by decide)
theorem among_ven (n : Nat) (w : World) : Calls Tryz.prog 35 #[.int .u32 (n : Int), .int .u32 3857, .int .u32 4] w fun e w' => e = .returned (.bool (decide (3857 ≤ n ∧ n < 3861))) ∧ w = w' := among_any n 3857 4 w (by decide)
theorem bits8 (b : Bool) (w : World) : Calls Tryz.prog 39 #[.bool b, .int .u32 8] w fun e w' => e = .returned (.int .u32 ((if b = true then 8 else 0 : Nat) : Int)) ∧ w = w' := bitsIf_any b 8 w
theorem bits128 (b : Bool) (w : World) : Calls Tryz.prog 39 #[.bool b, .int .u32 128] w fun e w' => e = .returned (.int .u32 ((if b = true then 128 else 0 : Nat) : Int)) ∧ w = w' := bitsIf_any b 128 w
set_option maxRecDepth 100000 in
set_option maxHeartbeats 2000000 in
theorem lower_any (c x : Nat) (w : World) (hc : c < 18446744073709551616) (hx : x < 4294967296) : Calls Tryz.prog 66 #[.int .u64 (c : Int), .int .u32 (x : Int)] w fun e w' => e = .returned (.int .u64 ((c / 4294967296 * 4294967296 + x : Nat) : Int)) ∧ w = w' := by
  obtain ⟨h, hh⟩ : ∃ h, h = c / 4294967296 := ⟨_, rfl⟩
  have e1 : (c : Int) / 4294967296 = (h : Int) := by omega
  have hl : h < 4294967296 := by omega
  have e2 : ((h : Int) * 4294967296) % 18446744073709551616 = (h : Int) * 4294967296 := by omega
  have e3 := or64 h x hl hx
  have e4 : ((c / 4294967296 * 4294967296 + x : Nat) : Int) = (h : Int) * 4294967296 + x := by omega
  rw [e4]
  clear e4 hh
  go_enter Tryz.func66, Tryz.ntmps66
  go_wp2_with fail
  go_ret
  exact ⟨rfl, rfl⟩
set_option maxRecDepth 100000 in
set_option maxHeartbeats 2000000 in
theorem upper_any (c x : Nat) (w : World) (_hc : c < 18446744073709551616) (hx : x < 4294967296) : Calls Tryz.prog 67 #[.int .u64 (c : Int), .int .u32 (x : Int)] w fun e w' => e = .returned (.int .u64 ((c % 4294967296 + x * 4294967296 : Nat) : Int)) ∧ w = w' := by
  obtain ⟨l, hh⟩ : ∃ l, l = c % 4294967296 := ⟨_, rfl⟩
  have e1 : (c : Int) % 4294967296 = (l : Int) := by omega
  have hl : l < 4294967296 := by omega
  have e2 : ((x : Int) * 4294967296) % 18446744073709551616 = (x : Int) * 4294967296 := by omega
  have e3 := or64 x l hx hl
  have e4 : ((c % 4294967296 + x * 4294967296 : Nat) : Int) = (x : Int) * 4294967296 + l := by omega
  rw [e4]
  clear e4 hh
  go_enter Tryz.func67, Tryz.ntmps67
  go_wp2_with fail
  go_ret
  exact ⟨rfl, rfl⟩
set_option maxRecDepth 100000 in
set_option maxHeartbeats 2000000 in
theorem word_any (b1 b2 : Bool) (m : Nat) (hm : m = 0 ∨ m = 3) (w : World) : Calls Tryz.prog 61 #[.agg #[.bool b1, .bool b2, .int .i64 (m : Int)]] w fun e w' => e = .returned (.int .u32 (((if b1 = true then 8 else 0) + (if b2 = true then 128 else 0) + m * 2048 : Nat) : Int)) ∧ Below w.heap.size w w' := by
  have k8 := bits8 b1
  have k128 := bits128 b2
  obtain ⟨p, hp⟩ : ∃ p : Nat, p = if b1 = true then 8 else 0 := ⟨_, rfl⟩
  obtain ⟨q, hq⟩ : ∃ q : Nat, q = if b2 = true then 128 else 0 := ⟨_, rfl⟩
  rw [← hp] at k8 ⊢
  rw [← hq] at k128 ⊢
  have hpl : p < 128 := by rw [hp]; split <;> decide
  have hql : q ≤ 128 ∧ q % 128 = 0 := by rw [hq]; split <;> decide
  have o1 : bits .or .u32 (p : Int) (q : Int) = ((p + q : Nat) : Int) := by
    have h := or32 q p 7 hpl (by omega) (by omega) hql.2
    rw [u32_or_nat _ _ (by omega) (by omega), Nat.or_comm, ← u32_or_nat _ _ (by omega) (by omega), h, Nat.add_comm]
  have o2 : bits .or .u32 ((p + q : Nat) : Int) ((m : Int) * 2048) = ((p + q + m * 2048 : Nat) : Int) := by
    have h := or32 (m * 2048) (p + q) 11 (by omega) (by omega) (by omega) (by omega)
    rw [show (m : Int) * 2048 = ((m * 2048 : Nat) : Int) by omega]
    rw [u32_or_nat _ _ (by omega) (by omega), Nat.or_comm, ← u32_or_nat _ _ (by omega) (by omega), h, Nat.add_comm]
  obtain ⟨z, hz⟩ : ∃ z, z = p + q + m * 2048 := ⟨_, rfl⟩
  obtain ⟨y, hy⟩ : ∃ y, y = p + q := ⟨_, rfl⟩
  rw [← hz] at o2 ⊢
  rw [← hy] at o1 o2
  have hmI : (m : Int) < 4 := by omega
  have e2 : ((m : Int) * 2048) % 4294967296 = (m : Int) * 2048 := by omega
  have e1 : (m : Int) % 4294967296 = (m : Int) := by omega
  clear hp hq hz hy hpl hql hm
  go_enter Tryz.func61, Tryz.ntmps61
  go_upto_region 1 with fail
  go_quiet (first
    | (go_at_call 39; with_reducible exact Calls.quiet_of_same ((k8 _).mono fun _ _ ⟨he, hw⟩ => ⟨he, hw.symm⟩))
    | (go_at_call 39; with_reducible exact Calls.quiet_of_same ((k128 _).mono fun _ _ ⟨he, hw⟩ => ⟨he, hw.symm⟩)))
  go_wp2_with fail
  go_ret
  exact ⟨rfl, below_drewN ((Below.refl _ w).alloc (Nat.le_refl _) _) _⟩
theorem stW_8 (x : Nat) : stW x / 8 % 2 = x / 8 % 2 := by unfold stW mppW; split <;> omega
theorem stW_128 (x : Nat) : stW x / 128 % 2 = x / 128 % 2 := by unfold stW mppW; split <;> omega
theorem stW_m (x : Nat) : stW x / 2048 % 4 = if x / 2048 % 4 = 3 then 3 else 0 := by unfold stW mppW; split <;> split <;> omega
theorem stW_form (x : Nat) : stW x = stW x / 8 % 2 * 8 + stW x / 128 % 2 * 128 + stW x / 2048 % 4 * 2048 := by unfold stW mppW; split <;> omega
theorem ne0 (p k : Nat) (hp : p < 2) (hk : 0 < k) : (((p * k : Nat) : Int) != 0) = decide (p = 1) := by
  rcases (show p = 0 ∨ p = 1 by omega) with rfl | rfl
  · rw [Nat.zero_mul]; rfl
  · rw [Nat.one_mul, decide_eq_true rfl, bne_iff_ne]; omega
theorem infoS3 : (Tryz.prog.info? 36).map (·.size) = some 3 := by kernel_rfl
set_option maxRecDepth 100000 in
set_option maxHeartbeats 2000000 in
theorem statusOf_any (x : Nat) (w : World) (hx : x < 4294967296) : Calls Tryz.prog 65 #[.int .u32 (x : Int)] w fun e w' => e = .returned (.agg (tab 3 (stV (stW x)))) ∧ Below w.heap.size w w' := by
  rw [show tab 3 (stV (stW x)) = #[.bool (decide (stW x / 8 % 2 = 1)), .bool (decide (stW x / 128 % 2 = 1)), .int .i64 ((stW x / 2048 % 4 : Nat) : Int)] from rfl, stW_8, stW_128, stW_m]
  have a1 := a32 x 3 hx (by decide)
  have a2 := a32 x 7 hx (by decide)
  have a3 := a_mpp x hx
  replace a1 : bits .and .u32 (x : Int) 8 = ((x / 8 % 2 * 8 : Nat) : Int) := a1
  replace a2 : bits .and .u32 (x : Int) 128 = ((x / 128 % 2 * 128 : Nat) : Int) := a2
  have n1 := ne0 (x / 8 % 2) 8 (by omega) (by decide)
  have n2 := ne0 (x / 128 % 2) 128 (by omega) (by decide)
  have hm : x / 2048 % 4 < 4 := by omega
  have kS := stored_any (x / 2048 % 4)
  generalize (if x / 2048 % 4 = 3 then 3 else 0 : Nat) = v at *
  generalize x / 2048 % 4 = m at *
  generalize decide (x / 8 % 2 = 1) = b1 at *
  generalize decide (x / 128 % 2 = 1) = b2 at *
  generalize x / 8 % 2 * 8 = p at *
  generalize x / 128 % 2 * 128 = q at *
  obtain ⟨M, hM⟩ : ∃ M, M = m * 2048 := ⟨_, rfl⟩
  rw [← hM] at a3
  have e3 : (M : Int) / 2048 = (m : Int) := by omega
  have hmI : (m : Int) < 4 := by omega
  clear hM hm
  go_enter Tryz.func65, Tryz.ntmps65
  go_wp2_with (go_at_call 57; with_reducible refine (kS _).mono ?_; rintro e w2 ⟨rfl, rfl⟩)
  have hG : Has (w.alloc (.cells #[.bool b1, .bool b2, .int .i64 (v : Int)] 36)) w.heap.size 36 #[.bool b1, .bool b2, .int .i64 (v : Int)] := Has.new _ _ _
  refine bodyPost_ret (results_cell_row rfl _ _ w.heap.size 36 _ _ _ rfl hG Tryz.underlying36 rfl infoS3) rfl ⟨rfl, ?_⟩
  exact (Below.refl _ w).alloc (Nat.le_refl _) _
end Go.Proofs.YtgpofoggfifnjaaGreatDoor.Cs
namespace Go.Proofs.YtgpofoggfifnjaaGreatDoor.Cs
open Go Go.RowKit
open Go.Proofs.YtgpofoggfifnjaaGreatDoor.Pm (En Sl SlC SlE enV en0 TabT wp_fresh)

theorem tr_768 (s : St) (p c v : Nat) : (trapC s p c v).r 768 = s.r 768 / 8 % 2 * 128 + s.mode * 2048 := by
  show trR s p c v 768 = _
  unfold trR
  exact upd_same _ _ _
theorem tr_833 (s : St) (p c v : Nat) : (trapC s p c v).r 833 = p - p % 4 := by
  show trR s p c v 833 = _
  unfold trR
  rw [upd_other _ _ (by decide), upd_other _ _ (by decide), upd_other _ _ (by decide), upd_same]
end Go.Proofs.YtgpofoggfifnjaaGreatDoor.Cs
