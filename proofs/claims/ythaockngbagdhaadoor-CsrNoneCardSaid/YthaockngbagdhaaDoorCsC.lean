/-
Layer 15: what may change beside a set of blocks; a write of a register as plain data; the reference's cells behind a store.
-/
import Derived.Test.YthaockngbagdhaaDoorCsB
namespace Go.Proofs.YthaockngbagdhaaDoor.Cs
open Go Go.RowKit

/-- only blocks of S have changed, and there may be new ones -/
structure Only (S : Nat → Prop) (w w' : World) : Prop where
  os : w'.os = w.os
  tape : w'.tape = w.tape
  output : w'.output = w.output
  size : w.heap.size ≤ w'.heap.size
  block : ∀ i, i < w.heap.size → ¬ S i → w'.heap[i]? = w.heap[i]?
section
variable {S : Nat → Prop} {w w' w'' : World}
theorem Only.refl (S : Nat → Prop) (w : World) : Only S w w := ⟨rfl, rfl, rfl, Nat.le_refl _, fun _ _ _ => rfl⟩
theorem Only.trans (h : Only S w w') (k : Only S w' w'') : Only S w w'' :=
  ⟨k.os.trans h.os, k.tape.trans h.tape, k.output.trans h.output, Nat.le_trans h.size k.size, fun i hi hn => (k.block i (Nat.lt_of_lt_of_le hi h.size) hn).trans (h.block i hi hn)⟩
theorem Only.of_grown {g : Option Nat} (h : w.grownBy w' g) (hg : ∀ l, g = some l → S l) : Only S w w' :=
  ⟨h.os, h.tape, h.output, h.size, fun i hi hn => h.block i hi (fun e => hn (hg i e.symm))⟩
theorem Only.of_below (h : Below w.heap.size w w') : Only S w w' := ⟨h.os, h.tape, h.output, h.size, fun i hi _ => h.block i hi⟩
theorem Only.of_eq (h : w = w') : Only S w w' := by subst h; exact Only.refl S w
theorem Only.drewN (w : World) (n : Nat) : Only S w (w.drewN n) := ⟨rfl, rfl, rfl, Nat.le_refl _, fun _ _ _ => rfl⟩
theorem Only.setCell (w : World) {a : Addr} (hs : S a.block) (v : Value) : Only S w (w.setCell a v) :=
  ⟨rfl, rfl, rfl, by simp [World.setCell], fun i _ hne => Below.heap_setCell w a v i (fun e => hne (by rw [e]; exact hs))⟩
theorem Only.mono {T : Nat → Prop} (h : Only S w w') (hs : ∀ i, S i → T i) : Only T w w' := ⟨h.os, h.tape, h.output, h.size, fun i hi hn => h.block i hi (fun e => hn (hs i e))⟩
theorem Only.below {B : Nat} (h : Only S w w') (hs : ∀ i, S i → B ≤ i) (hB : B ≤ w.heap.size) : Below B w w' :=
  ⟨h.os, h.tape, h.output, h.size, fun i hi => h.block i (Nat.lt_of_lt_of_le hi hB) (fun e => absurd (hs i e) (by omega))⟩
theorem Only.has {g : Nat} {t : TypeId} {cs : Array Value} (h : Only S w w') (H : Has w g t cs) (hg : ¬ S g) : Has w' g t cs := (h.block g H.lt hg).trans H
end
/-- the reference's blocks -/
def SR (h mb : Nat) (i : Nat) : Prop := i = h ∨ i = mb
def cfgB (b : Nat) : Nat := if (b / 128 * 128 + b % 32) % 4 = 2 then b / 128 * 128 + b % 32 - 2 else b / 128 * 128 + b % 32
/-- i bytes of the configuration are written -/
def cfg4 (c : Nat → Nat) (b x i : Nat) (k : Nat) : Nat := if b ≤ k ∧ k < b + i ∧ c k < 128 then cfgB (x / 2 ^ (8 * (k - b)) % 256) else c k
def locked (s : St) (i : Nat) : Bool := decide (128 ≤ s.cfg i) || (decide (i < 15) && decide (128 ≤ s.cfg (i + 1)) && decide (s.cfg (i + 1) / 8 % 4 = 1))
def mppW (x : Nat) : Nat := if x / 2048 % 4 = 1 ∨ x / 2048 % 4 = 2 then 0 else x / 2048 % 4
def stW (x : Nat) : Nat := x / 8 % 2 * 8 + x / 128 % 2 * 128 + mppW x * 2048
def maskR (n x : Nat) : Nat := if n = 768 then stW x else if n = 772 then x / 128 % 2 * 128 else if n = 773 ∨ n = 833 then x - x % 4 else x
/-- a register is written -/
def writeC (s : St) (n x : Nat) : Option St :=
  if n = 769 ∨ n = 836 then some s
  else if n = 2816 then some { s with cyc := s.cyc / 4294967296 * 4294967296 + x }
  else if n = 2944 then some { s with cyc := s.cyc % 4294967296 + x * 4294967296 }
  else if n = 2818 then some { s with ret := s.ret / 4294967296 * 4294967296 + x }
  else if n = 2946 then some { s with ret := s.ret % 4294967296 + x * 4294967296 }
  else if 928 ≤ n ∧ n < 932 then some { s with cfg := cfg4 s.cfg (4 * (n - 928)) x 4 }
  else if isK n = true then (if (decide (944 ≤ n) && decide (n < 960) && locked s (n - 944)) = true then some s else some { s with r := upd s.r n (maskR n x) })
  else none
theorem cfgB_lt (b : Nat) (h : b < 256) : cfgB b < 256 := by unfold cfgB; split <;> omega
theorem cfgB_bits (b : Nat) (_h : b < 256) : cfgB b / 32 % 4 = 0 := by unfold cfgB; split <;> omega
theorem stW_lt (x : Nat) : stW x < 8192 := by unfold stW mppW; split <;> omega
theorem stW_mpp (x : Nat) : stW x / 2048 % 4 = 0 ∨ stW x / 2048 % 4 = 3 := by unfold stW mppW; split <;> omega
theorem maskR_lt (n x : Nat) (h : x < 4294967296) : maskR n x < 4294967296 := by
  have := stW_lt x
  unfold maskR
  repeat' split
  all_goals omega
set_option maxRecDepth 100000 in
theorem writeC_ok (s s' : St) (n x : Nat) (h : s.Ok) (hx : x < 4294967296) (hw : writeC s n x = some s') : s'.Ok := by
  have h1 := h.cyc
  have h2 := h.ret
  unfold writeC at hw
  split at hw
  · injection hw with hw; rw [← hw]; exact h
  split at hw
  · injection hw with hw; rw [← hw]; exact ⟨h.mode, h.r, h.cfg, by dsimp only; omega, h.ret, h.st, h.mpp, h.bits⟩
  split at hw
  · injection hw with hw; rw [← hw]; exact ⟨h.mode, h.r, h.cfg, by dsimp only; omega, h.ret, h.st, h.mpp, h.bits⟩
  split at hw
  · injection hw with hw; rw [← hw]; exact ⟨h.mode, h.r, h.cfg, h.cyc, by dsimp only; omega, h.st, h.mpp, h.bits⟩
  split at hw
  · injection hw with hw; rw [← hw]; exact ⟨h.mode, h.r, h.cfg, h.cyc, by dsimp only; omega, h.st, h.mpp, h.bits⟩
  split at hw
  · injection hw with hw
    rw [← hw]
    refine ⟨h.mode, h.r, fun k => ?_, h.cyc, h.ret, h.st, h.mpp, fun k => ?_⟩
    · show cfg4 _ _ _ _ _ < _
      unfold cfg4
      split
      · exact cfgB_lt _ (Nat.mod_lt _ (by decide))
      · exact h.cfg k
    · show cfg4 _ _ _ _ _ / _ % _ = _
      unfold cfg4
      split
      · exact cfgB_bits _ (Nat.mod_lt _ (by decide))
      · exact h.bits k
  split at hw
  · split at hw
    · injection hw with hw; rw [← hw]; exact h
    · injection hw with hw
      rw [← hw]
      have hm := maskR_lt n x hx
      refine ⟨h.mode, fun k => ?_, h.cfg, h.cyc, h.ret, ?_, ?_, h.bits⟩
      · show upd _ _ _ _ < _
        unfold upd
        split
        · exact hm
        · exact h.r k
      · show upd _ _ _ _ < _
        unfold upd
        split
        · rename_i e; rw [← e]; exact stW_lt x
        · exact h.st
      · show upd _ _ _ _ / _ % _ = _ ∨ upd _ _ _ _ / _ % _ = _
        unfold upd
        split
        · rename_i e; rw [← e]; exact stW_mpp x
        · exact h.mpp
  · cases hw
section
variable {w : World} {h mb : Nat} {s : St}
/-- the reference's block behind a store -/
theorem Ref.put (H : Ref w h mb s) (i : Nat) (v : Value) (s' : St) (hs : ∀ j, j < 20 → (if j = i then v else rV s mb j) = rV s' mb j) (hm : ∀ x, s'.r x = s.r x) (ok : s'.Ok) : Ref (w.setCell ⟨h, i, none⟩ v) h mb s' := by
  refine ⟨?_, ?_, ok⟩
  · have h1 := H.blk.set i v
    rw [tab_set] at h1
    rw [tab_ext _ _ _ hs] at h1
    exact h1
  · have h2 := H.map.setCell (a := ⟨h, i, none⟩) H.ne v
    exact h2.congr fun x _ => by unfold rM; rw [hm]
theorem Ref.cyc (H : Ref w h mb s) (c : Nat) (hc : c < 18446744073709551616) : Ref (w.setCell ⟨h, 18, none⟩ (.int .u64 (c : Int))) h mb { s with cyc := c } :=
  H.put 18 _ _ (fun j hj => by
    by_cases e : j = 18
    · subst e; rfl
    · rw [if_neg e]; unfold rV; simp only [e, if_false]) (fun _ => rfl) ⟨H.ok.mode, H.ok.r, H.ok.cfg, hc, H.ok.ret, H.ok.st, H.ok.mpp, H.ok.bits⟩
theorem Ref.ret (H : Ref w h mb s) (c : Nat) (hc : c < 18446744073709551616) : Ref (w.setCell ⟨h, 19, none⟩ (.int .u64 (c : Int))) h mb { s with ret := c } :=
  H.put 19 _ _ (fun j hj => by
    by_cases e : j = 19
    · subst e; rfl
    · rw [if_neg e]; unfold rV; repeat' split
      all_goals first | rfl | omega) (fun _ => rfl) ⟨H.ok.mode, H.ok.r, H.ok.cfg, H.ok.cyc, hc, H.ok.st, H.ok.mpp, H.ok.bits⟩
theorem Ref.mode (H : Ref w h mb s) (m : Nat) (hm : m = 0 ∨ m = 3) : Ref (w.setCell ⟨h, 0, none⟩ (.int .i64 (m : Int))) h mb { s with mode := m } :=
  H.put 0 _ _ (fun j hj => by
    by_cases e : j = 0
    · subst e; rfl
    · rw [if_neg e]; unfold rV; simp only [e, if_false]) (fun _ => rfl) ⟨hm, H.ok.r, H.ok.cfg, H.ok.cyc, H.ok.ret, H.ok.st, H.ok.mpp, H.ok.bits⟩
theorem Ref.cfg (H : Ref w h mb s) (k b : Nat) (hk : k < 16) (hb : b < 256) (hbb : b / 32 % 4 = 0) : Ref (w.setCell ⟨h, 2 + k, none⟩ (.int .i64 (b : Int))) h mb { s with cfg := upd s.cfg k b } :=
  H.put (2 + k) _ _ (fun j hj => by
    by_cases e : j = 2 + k
    · subst e; rw [if_pos rfl, rV_c _ _ _ hk]; dsimp only; rw [upd_same]
    · rw [if_neg e]; unfold rV
      split
      · rfl
      split
      · rfl
      split
      · dsimp only; rw [upd_other _ _ (by omega)]
      · rfl) (fun _ => rfl) ⟨H.ok.mode, H.ok.r, fun j => by dsimp only; unfold upd; split; exact hb; exact H.ok.cfg j, H.ok.cyc, H.ok.ret, H.ok.st, H.ok.mpp, fun j => by dsimp only; unfold upd; split; exact hbb; exact H.ok.bits j⟩
theorem rM_set (s : St) (x v : Nat) (hx : isK x = true) : upd (rM s) x (some v) = rM { s with r := upd s.r x v } := by
  funext y
  unfold rM
  by_cases e : y = x
  · subst e; rw [upd_same, if_pos hx]; dsimp only; rw [upd_same]
  · rw [upd_other _ _ e]; dsimp only; rw [upd_other _ _ e]
theorem rM_in (s : St) (x : Nat) (hx : isK x = true) : rM s x = some (s.r x) := if_pos hx
/-- the reference's block and its map, behind a put into the map -/
theorem Ref.reg {w' : World} (H : Ref w h mb s) (x v : Nat) (hx : isK x = true) (hM : MpR w' mb (upd (rM s) x (some v)) 24) (k : w.grownBy w' (some mb)) (ok : ({ s with r := upd s.r x v } : St).Ok) : Ref w' h mb { s with r := upd s.r x v } := by
  refine ⟨has_grown H.blk k fun l e => by injection e with e; subst e; exact H.ne.symm, ?_, ok⟩
  rw [← rM_set s x v hx]
  exact hM
end
end Go.Proofs.YthaockngbagdhaaDoor.Cs
