/-
Layer 15: the law's calls as plain data, in memory; light.
-/
import Derived.Test.YthaockngbagdhaaDoorCsI
namespace Go.Proofs.YthaockngbagdhaaDoor.Cs
open Go Go.RowKit
open Go.Proofs.YthaockngbagdhaaDoor.Pm (En Sl SlC SlE enV en0 TabT wp_fresh)

/-- a call -/
structure Ca where
  k : Int
  n : Nat
  x : Nat
  y : Nat
  l : List En
def ca0 : Ca := ⟨0, 0, 0, 0, []⟩
structure Ca.Wf (p : Ca) : Prop where
  n : p.n < 4294967296
  x : p.x < 4294967296
  y : p.y < 4294967296
def caV (p : Ca) (t : Sl) : Nat → Value
  | 0 => .int .i64 p.k
  | 1 => .int .u32 (p.n : Int)
  | 2 => .int .u32 (p.x : Int)
  | 3 => .int .u32 (p.y : Int)
  | _ => t.v
theorem caV_one (p : Ca) (t : Sl) (j : Nat) : (caV p t j).oneCell' = true := by unfold caV; split <;> rfl
/-- the slice reads as these calls -/
def SlCa (w : World) (s : Sl) (cs : List Ca) (T : Nat → Sl) : Prop :=
  cs.length = s.n ∧ SlC w s 5 (fun j i => caV (cs.getD j ca0) (T j) i) ∧ ∀ j, j < s.n → SlE w (T j) (cs.getD j ca0).l ∧ (cs.getD j ca0).Wf
theorem SlCa.below {w w' : World} {s : Sl} {cs : List Ca} {T : Nat → Sl} (h : SlCa w s cs T) (k : Below w.heap.size w w') : SlCa w' s cs T := ⟨h.1, h.2.1.below k, fun j hj => ⟨(h.2.2 j hj).1.below k, (h.2.2 j hj).2⟩⟩
theorem infoCa5 : (Tryd.prog.info? 33).map (·.size) = some 5 := by kernel_rfl
theorem infoCaz : (Tryd.prog.info? 33).map (fun i => (i.zero, i.size)) = some (some (.agg (tab 5 (caV ca0 ⟨none, 0, 0⟩))), 5) := by kernel_rfl
theorem zeroCa (w : World) : (zeroValue 33).run Tryd.prog w = .ok (.agg (tab 5 (caV ca0 ⟨none, 0, 0⟩))) w := (zero_of_info infoCaz).1 w
theorem wp_load_ca {w : World} {ops : Array Oper} {rest : List Oper} {op : Oper} {a : Act} {Q : Exit → Act → World → Prop} (hgd : op.guard = none) (x : Operand) (ho : op.op = .load 33 x)
    (b o : Nat) (hx : a.eval x = .pointer (some ⟨b, o, none⟩)) (f : Nat → Value) (hc : w.rangeAt b o ((List.range 5).map f)) (h : wpList Tryd.prog ops Q rest (a.put op.dst (.agg (tab 5 f))) w) : wpList Tryd.prog ops Q (op :: rest) a w :=
  wpList_load_mid hgd 33 x ho b o hx _ _ hc Tryd.underlying33 rfl (by simpa using infoCa5) h
theorem at_ca (b o n c j : Nat) (hj : (j : Int) < (n : Int)) (w : World) : (Instr.indexAt 22 (.slice (some ⟨b, o, none⟩) n c) (.int .i64 (j : Int))).run Tryd.prog w = .ok (.pointer (some ⟨b, o + j * 5, none⟩)) w := by
  have h2 := Addr.add_mid b o (j * 5)
  go_simp
/-- how much the first i calls are -/
def wC (cs : List Ca) : Nat → Nat
  | 0 => 0
  | i + 1 => wC cs i + (1 + (cs.getD i ca0).l.length)
theorem wC_mono (cs : List Ca) : ∀ {i j : Nat}, i ≤ j → wC cs i ≤ wC cs j
  | i, 0, h => by rw [show i = 0 by omega]; exact Nat.le_refl _
  | i, j + 1, h => by
    by_cases e : i = j + 1
    · rw [e]; exact Nat.le_refl _
    · have := wC_mono cs (show i ≤ j by omega)
      show wC cs i ≤ wC cs j + _
      omega
def liB (cs : List Ca) (n : Nat) : Bool := decide (wC cs n ≤ 600)
set_option maxRecDepth 100000 in
set_option maxHeartbeats 2000000 in
theorem light_any (q : Sl) (cs : List Ca) (T : Nat → Sl) (w : World) (hS : SlCa w q cs T) : Calls Tryd.prog 6 #[q.v] w fun e w' => e = .returned (.bool (liB cs q.n)) ∧ Below w.heap.size w w' := by
  have hlen := hS.1
  obtain ⟨A, n, c⟩ := q
  dsimp only at hlen
  have hnl : (n : Int) ≤ 140737488355328 := by have := hS.2.1.1.2; dsimp only at this; omega
  have HS := Lib.hid hS
  have hz0 := zeroCa
  clear hS hlen
  unfold Sl.v
  dsimp only
  go_enter Tryd.func6, Tryd.ntmps6
  go_wp2_with fail
  go_loopw [3, 8] (fun v3 ct wr => ∃ i m : Nat, i ≤ n ∧ m ≤ 600 ∧ m = wC cs i ∧ v3 = .int .i64 (m : Int) ∧ ct = .int .i64 (i : Int) ∧ Below w.heap.size w wr) (fun _ ct _ => (n - (intOf ct)).toNat)
  case atStart => exact ⟨0, 0, Nat.zero_le _, Nat.zero_le _, rfl, rfl, rfl, Below.refl _ _⟩
  case round =>
    obtain ⟨i, m, hi, hm, hmw, rfl, rfl, hb⟩ := hrel
    by_cases hlt : i < n
    · have di : (i : Int) < (n : Int) := by omega
      have hS1 := HS.out.below hb
      obtain ⟨b, o, hA, hbl, _⟩ := hS1.2.1.2 (show 0 < n by omega)
      dsimp only at hA
      subst hA
      have hat := fun W => at_ca b o n c i di W
      have hrg := hS1.2.1.range rfl hlt
      have hTn := (hS1.2.2 i hlt).1.2.1.1
      have hTl : (T i).n ≤ 140737488355328 := hTn.2
      have hTI : ((T i).n : Int) ≤ 140737488355328 := by omega
      have hcT : caV (cs.getD i ca0) (T i) 4 = .slice (T i).A (T i).n (T i).c := rfl
      have hmI : (m : Int) ≤ 600 := by omega
      have hone := fun j => caV_one (cs.getD i ca0) (T i) j
      obtain ⟨t, ht⟩ : ∃ t, t = 1 + (T i).n := ⟨_, rfl⟩
      have e1 : (1 : Int) + ((T i).n : Int) = (t : Int) := by omega
      obtain ⟨u, hu⟩ : ∃ u, u = m + t := ⟨_, rfl⟩
      have e2 : (m : Int) + (t : Int) = (u : Int) := by omega
      have htI : (t : Int) ≤ 140737488355329 := by omega
      have huI : (u : Int) ≤ 140737488355929 := by omega
      have hw1 : u = wC cs (i + 1) := by
        show u = wC cs i + (1 + (cs.getD i ca0).l.length)
        have := (hS1.2.2 i hlt).1.1
        omega
      have hwn : wC cs (i + 1) ≤ wC cs n := wC_mono cs hlt
      have HU := Lib.hid (And.intro ht (And.intro hu (And.intro hw1 hwn)))
      generalize caV (cs.getD i ca0) (T i) = f at *
      generalize (T i).n = tn at *
      generalize (T i).A = tA at *
      generalize (T i).c = tc at *
      have HB := Lib.hid hb
      have HBL := Lib.hid hbl
      have hbs := hb.size
      clear hS1 hTn hb ht hu hbl hw1 hwn hmw
      go_upto_region 4 with fail
      go_upto_region 5 with (first
        | (refine wp_load_ca rfl _ rfl b (o + i * 5) rfl f hrg ?_)
        | (refine wp_fresh 33 5 f _ _ _ rfl rfl rfl rfl hz0 infoCa5 (by decide) hone rfl rfl ?_
           intro w1 hH1 hb1 hlt1
           go_frame))
      have hc4 : w1.cell? ⟨wr.heap.size, 4, none⟩ = some (.slice tA tn tc) := by
        have := hH1.cellTab 4 (by decide)
        rw [hcT] at this
        exact this
      have HB1 := Lib.hid (HB.out.trans (hb1.mono hbs))
      clear hb1
      generalize wr.heap.size = bx at *
      by_cases h6 : u ≤ 600
      · have h6I : ¬ (600 : Int) < (u : Int) := by omega
        have h6d : decide ((600 : Int) < (u : Int)) = false := decide_eq_false h6I
        have h6e : decide (600 < u) = false := decide_eq_false (by omega)
        go_wp2_with fail
        go_roundw
        case rel => exact ⟨i + 1, u, hlt, h6, HU.out.2.2.1, rfl, by go_num, HB1.out⟩
        case measure => simp [intOf] <;> omega
      · have h6I : (600 : Int) < (u : Int) := by omega
        go_wp2_with fail
        go_ret
        refine ⟨?_, HB1.out⟩
        unfold liB
        have z := HU.out.2.2
        rw [decide_eq_false (by omega)]
        rfl
    · obtain rfl : i = n := by omega
      go_wp2_with fail
      go_ret
      refine ⟨?_, hb⟩
      unfold liB
      rw [decide_eq_true (by omega)]
      rfl
end Go.Proofs.YthaockngbagdhaaDoor.Cs
