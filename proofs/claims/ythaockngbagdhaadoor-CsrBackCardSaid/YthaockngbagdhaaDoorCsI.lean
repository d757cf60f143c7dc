/-
Layer 15: reading a register and the timer's due as plain data; what package csr's calls answer; the example.
-/
import Derived.Test.YthaockngbagdhaaDoorCsH
import Derived.Test.YthaockngbagdhaaDoorPnT
namespace Go.Proofs.YthaockngbagdhaaDoor.Cs
open Go Go.RowKit
open Go.Proofs.YthaockngbagdhaaDoor.Pm (En Sl SlC SlE enV en0 TabT)

def word4 (c : Nat → Nat) (b : Nat) : Nat := c b + 256 * c (b + 1) + 65536 * c (b + 2) + 16777216 * c (b + 3)
/-- a register is read -/
def readC (s : St) (n : Nat) : Option Nat :=
  if n = 769 then some 1074794752
  else if n = 2816 then some (s.cyc % 4294967296)
  else if n = 2944 then some (s.cyc / 4294967296)
  else if n = 2818 then some (s.ret % 4294967296)
  else if n = 2946 then some (s.ret / 4294967296)
  else if 3857 ≤ n ∧ n ≤ 3860 then some 0
  else if 928 ≤ n ∧ n < 932 then some (word4 s.cfg (4 * (n - 928)))
  else rM s n
def dueC (s : St) : Bool := decide (0 < s.r 772) && decide (0 < s.r 836) && (decide (s.mode = 0) || decide (s.r 768 / 8 % 2 = 1))
/-- one block -/
def S1 (g : Nat) (i : Nat) : Prop := i = g
/-- what package csr's calls answer: 'Is w g s': at g lies a file of registers that holds s -/
structure CsrOK (Is : World → Nat → St → Prop) : Prop where
  lt : ∀ {w g s}, Is w g s → g < w.heap.size
  ok : ∀ {w g s}, Is w g s → s.Ok
  keep : ∀ {w w' g s} {S : Nat → Prop}, Is w g s → Only S w w' → ¬ S g → Is w' g s
  mode : ∀ {w g s}, Is w g s → w.cell? ⟨g, 0, none⟩ = some (.int .i64 (s.mode : Int)) ∧ w.frozen? ⟨g, 0, none⟩ = false
  setMode : ∀ {w g s} (m : Nat), Is w g s → m = 0 ∨ m = 3 → Is (w.setCell ⟨g, 0, none⟩ (.int .i64 (m : Int))) g { s with mode := m }
  new : ∀ w : World, Calls Tryd.prog 7 #[] w fun e w' => (∃ g, e = .returned (hP g) ∧ Is w' g st0 ∧ w.heap.size ≤ g) ∧ Below w.heap.size w w'
  write : ∀ (w : World) (g : Nat) (s : St) (n x : Nat), Is w g s → n < 4294967296 → x < 4294967296 → Calls Tryd.prog 16 #[hP g, .int .u32 (n : Int), .int .u32 (x : Int)] w fun e w' => e = .returned (.bool (writeC s n x).isSome) ∧ Is w' g ((writeC s n x).getD s) ∧ Only (S1 g) w w'
  read : ∀ (w : World) (g : Nat) (s : St) (n : Nat), Is w g s → n < 4294967296 → Calls Tryd.prog 10 #[hP g, .int .u32 (n : Int)] w fun e w' => e = .returned (.tuple #[.int .u32 (((readC s n).getD 0 : Nat) : Int), .bool (readC s n).isSome]) ∧ Below w.heap.size w w'
  due : ∀ (w : World) (g : Nat) (s : St), Is w g s → Calls Tryd.prog 11 #[hP g] w fun e w' => e = .returned (.bool (dueC s)) ∧ Below w.heap.size w w'
  timer : ∀ (w : World) (g : Nat) (s : St) (b : Bool), Is w g s → Calls Tryd.prog 14 #[hP g, .bool b] w fun e w' => e = .returned (.tuple #[]) ∧ Is w' g (timC s b) ∧ Only (S1 g) w w'
  tick : ∀ (w : World) (g : Nat) (s : St) (b : Bool), Is w g s → Calls Tryd.prog 15 #[hP g, .bool b] w fun e w' => e = .returned (.tuple #[]) ∧ Is w' g (tickC s b) ∧ Only (S1 g) w w'
  trap : ∀ (w : World) (g : Nat) (s : St) (pc ca tv : Nat), Is w g s → pc < 4294967296 → ca < 4294967296 → tv < 4294967296 → Calls Tryd.prog 12 #[hP g, .int .u32 (pc : Int), .int .u32 (ca : Int), .int .u32 (tv : Int)] w fun e w' => e = .returned (.int .u32 (s.r 773 : Int)) ∧ Is w' g (trapC s pc ca tv) ∧ Only (S1 g) w w'
  back : ∀ (w : World) (g : Nat) (s : St), Is w g s → Calls Tryd.prog 13 #[hP g] w fun e w' => e = .returned (.int .u32 (s.r 833 : Int)) ∧ Is w' g (backC s) ∧ Only (S1 g) w w'
  protect : ∀ (w : World) (g : Nat) (s : St) (l : List En) (q : Sl), Is w g s → SlE w q l → (∀ b o, q.A = some ⟨b, o, none⟩ → 0 < q.n → b ≠ g) → Calls Tryd.prog 19 #[hP g, q.v] w fun e w' => e = .returned (.int .i64 (if 16 < q.n then 1 else 0)) ∧ Is w' g (if 16 < q.n then s else protC s l) ∧ Only (S1 g) w w'
  may1 : ∀ (w : World) (g : Nat) (s : St), TabT w → Is w g s → s.mode = 3 → (∀ k, s.cfg k = 0) → Calls Tryd.prog 20 #[hP g, .int .u32 0, .int .i64 4, .int .i64 4] w fun e w' => e = .returned (.bool true) ∧ Below w.heap.size w w'
/-- what a file that is none answers -/
structure CsrNil : Prop where
  write : ∀ (w : World) (n x : Nat), Calls Tryd.prog 16 #[.pointer none, .int .u32 (n : Int), .int .u32 (x : Int)] w fun e w' => e = .returned (.bool false) ∧ Below w.heap.size w w'
  read : ∀ (w : World) (n : Nat), Calls Tryd.prog 10 #[.pointer none, .int .u32 (n : Int)] w fun e w' => e = .returned (.tuple #[.int .u32 0, .bool false]) ∧ Below w.heap.size w w'
  due : ∀ w : World, Calls Tryd.prog 11 #[.pointer none] w fun e w' => e = .returned (.bool false) ∧ Below w.heap.size w w'
  timer : ∀ w : World, Calls Tryd.prog 14 #[.pointer none, .bool true] w fun e w' => e = .returned (.tuple #[]) ∧ Below w.heap.size w w'
  tick : ∀ w : World, Calls Tryd.prog 15 #[.pointer none, .bool true] w fun e w' => e = .returned (.tuple #[]) ∧ Below w.heap.size w w'
  may : ∀ (w : World) (n : Nat), Calls Tryd.prog 17 #[.pointer none, .int .u32 (n : Int)] w fun e w' => e = .returned (.bool false) ∧ Below w.heap.size w w'
  trap : ∀ (w : World) (a b c : Nat), Calls Tryd.prog 12 #[.pointer none, .int .u32 (a : Int), .int .u32 (b : Int), .int .u32 (c : Int)] w fun e w' => e = .returned (.int .u32 0) ∧ Below w.heap.size w w'
  back : ∀ w : World, Calls Tryd.prog 13 #[.pointer none] w fun e w' => e = .returned (.int .u32 0) ∧ Below w.heap.size w w'
  entries : ∀ w : World, Calls Tryd.prog 18 #[.pointer none] w fun e w' => (∃ A c, e = .returned (.slice A 0 c)) ∧ Below w.heap.size w w'
  protect : ∀ (w : World) (q : Sl), Calls Tryd.prog 19 #[.pointer none, q.v] w fun e w' => e = .returned (.int .i64 1) ∧ Below w.heap.size w w'
  may1 : ∀ (w : World) (n : Nat), Calls Tryd.prog 20 #[.pointer none, .int .u32 (n : Int), .int .i64 1, .int .i64 1] w fun e w' => e = .returned (.bool false) ∧ Below w.heap.size w w'
section
variable {Is : World → Nat → St → Prop}
theorem CsrOK.below (O : CsrOK Is) {w w' : World} {g : Nat} {s : St} (h : Is w g s) (k : Below w.heap.size w w') : Is w' g s := O.keep (S := fun _ => False) h (Only.of_below k) (fun h => h)
end
/-- what the example asks -/
def FitC : Prop := ∀ w : World, TabT w → Calls Tryd.prog 5 #[] w fun e w' => e = .returned (.bool true) ∧ Below w.heap.size w w'
set_option maxRecDepth 100000 in
set_option maxHeartbeats 2000000 in
theorem fit15_ok {Is : World → Nat → St → Prop} (O : CsrOK Is) : FitC := by
  intro w hT
  have hkn := O.new w
  have HT := Lib.hid hT
  go_enter Tryd.func5, Tryd.ntmps5
  go_upto_region 2 with (go_at_call 7; refine hkn.mono ?_; rintro e w1 ⟨⟨g, rfl, hI, hg⟩, hb⟩)
  have hw := O.write w1 g st0 768 4294967295 hI (by decide) (by decide)
  have e1 : writeC st0 768 4294967295 = some { st0 with r := upd st0.r 768 6280 } := by
    unfold writeC
    rw [if_neg (by decide), if_neg (by decide), if_neg (by decide), if_neg (by decide), if_neg (by decide), if_neg (by decide), if_pos (by decide), if_neg (by decide)]
    rfl
  rw [e1] at hw
  dsimp only [Option.getD_some, Option.isSome_some] at hw
  have HI := Lib.hid hI
  have HB := Lib.hid hb
  clear e1 hI hb hkn hT
  go_upto_region 3 with (go_at_call 16; refine hw.mono ?_; rintro e w2 ⟨rfl, hI2, hO2⟩)
  have hr := O.read w2 g _ 768 hI2 (by decide)
  have e2 : readC { st0 with r := upd st0.r 768 6280 } 768 = some 6280 := by
    unfold readC
    rw [if_neg (by decide), if_neg (by decide), if_neg (by decide), if_neg (by decide), if_neg (by decide), if_neg (by decide), if_neg (by decide), rM_in _ _ rfl]
    rfl
  rw [e2] at hr
  dsimp only [Option.getD_some, Option.isSome_some] at hr
  have hb2 : Below w.heap.size w w2 := HB.out.trans (hO2.below (fun i hi => by have : i = g := hi; omega) HB.out.size)
  have HI2 := Lib.hid hI2
  have HB2 := Lib.hid hb2
  clear e2 hI2 hO2 hb2 hw
  go_upto_region 4 with (go_at_call 10; refine hr.mono ?_; rintro e w3 ⟨rfl, hb3⟩)
  have hI3 := O.below HI2.out hb3
  have hm := O.mode hI3
  have hc := hm.1
  have hb4 : Below w.heap.size w w3 := HB2.out.trans (hb3.mono HB2.out.size)
  have hm1 := fun W (hW : Below w.heap.size w W) (hI : Is W g ({ st0 with r := upd st0.r 768 6280 } : St)) => O.may1 W g _ (HT.out.below hW) hI rfl (fun _ => rfl)
  have hm2 := hm1 w3 hb4 hI3
  have HB4 := Lib.hid hb4
  clear hm hI3 hb3 hb4 hm1 hr
  go_wp2_with (go_at_call 20; refine hm2.mono ?_; rintro e w4 ⟨rfl, hb5⟩)
  go_ret
  exact ⟨rfl, HB4.out.trans (hb5.mono HB4.out.size)⟩
end Go.Proofs.YthaockngbagdhaaDoor.Cs
