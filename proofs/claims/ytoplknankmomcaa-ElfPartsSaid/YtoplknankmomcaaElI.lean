/-
Layer 8: the law's parts; its file.
-/
import Derived.Test.YtoplknankmomcaaElG
namespace Go.Proofs.Ytoplknankmomcaa
open Go Go.RowKit

/-- a part of a file -/
structure Pt where
  k : Int
  d : Nat
  m : Nat
  r : Int
  b : List UInt8
def pt0 : Pt := ⟨0, 0, 0, 0, []⟩
structure Pt.Wf (p : Pt) : Prop where
  d : p.d < 4294967296
  m : p.m < 4294967296
  l : p.b.length ≤ 140737488355328
def ptV (p : Pt) (x : Sl) : Nat → Value
  | 0 => .int .i64 p.k
  | 1 => .int .u32 (p.d : Int)
  | 2 => .int .u32 (p.m : Int)
  | 3 => .int .i64 p.r
  | _ => x.v
theorem ptV_one (p : Pt) (x : Sl) (j : Nat) : (ptV p x j).oneCell' = true := by unfold ptV; split <;> rfl
/-- the slice reads as these parts -/
def SlQ (w : World) (s : Sl) (ps : List Pt) (T : Nat → Sl) : Prop :=
  ps.length = s.n ∧ SlC w s 5 (fun j i => ptV (ps.getD j pt0) (T j) i) ∧ ∀ j, j < s.n → SlY w (T j) (ps.getD j pt0).b ∧ ((T j).A = none → (T j).c = 0) ∧ (ps.getD j pt0).Wf
theorem SlQ.below {w w' : World} {s : Sl} {ps : List Pt} {T : Nat → Sl} (h : SlQ w s ps T) (k : Below w.heap.size w w') : SlQ w' s ps T := ⟨h.1, h.2.1.below k, fun j hj => ⟨SlA.below (h.2.2 j hj).1 k, (h.2.2 j hj).2⟩⟩
/-- the header that the law makes of a part -/
def toHd (p : Pt) : Hd := ⟨(p.k % 4).toNat, 0, p.d, 0, p.b.length + p.m, (p.r % 8).toNat⟩
/-- how long the first i parts are -/
def wtN (ps : List Pt) (i : Nat) : Nat := i + ((ps.take i).map (·.b)).flatten.length
/-- the law makes a file of them -/
def fitsB (ps : List Pt) : Bool := decide (ps.length = 0 ∨ (ps.length ≤ 8 ∧ wtN ps ps.length ≤ 2000))
def partsN (en : Nat) (ps : List Pt) : List UInt8 := fileN en (ps.map toHd) (ps.map (·.b))
theorem wtN_succ (ps : List Pt) (i : Nat) (h : i < ps.length) : wtN ps (i + 1) = wtN ps i + (1 + (ps.getD i pt0).b.length) := by
  unfold wtN
  rw [take_one ps pt0 i h, List.map_append, List.flatten_append, List.length_append]
  simp; omega
theorem wtN_mono (ps : List Pt) (i : Nat) (h : i ≤ ps.length) : wtN ps i ≤ wtN ps ps.length := by
  unfold wtN
  have e : ps.take ps.length = ps.take i ++ ps.drop i := by rw [List.take_append_drop, List.take_length]
  rw [e, List.map_append, List.flatten_append, List.length_append]
  omega
theorem toHd_fit {p : Pt} (h : p.Wf) (hb : p.b.length ≤ 100000) : (toHd p).Fit := by
  obtain ⟨h1, h2, _⟩ := h
  exact ⟨by show (p.k % 4).toNat < 4; omega, h1, by show p.b.length + p.m < _; omega, by show (p.r % 8).toNat ≤ 7; omega⟩
theorem infoPt5 : (Try.prog.info? 44).map (·.size) = some 5 := by kernel_rfl
theorem infoPtz : (Try.prog.info? 44).map (fun i => (i.zero, i.size)) = some (some (.agg (tab 5 (ptV pt0 ⟨none, 0, 0⟩))), 5) := by kernel_rfl
theorem zeroPt (w : World) : (zeroValue 44).run Try.prog w = .ok (.agg (tab 5 (ptV pt0 ⟨none, 0, 0⟩))) w := (zero_of_info infoPtz).1 w
theorem wp_load_pt {w : World} {ops : Array Oper} {rest : List Oper} {op : Oper} {a : Act} {Q : Exit → Act → World → Prop} (hgd : op.guard = none) (x : Operand) (ho : op.op = .load 44 x)
    (b o : Nat) (hx : a.eval x = .pointer (some ⟨b, o, none⟩)) (f : Nat → Value) (hc : w.rangeAt b o ((List.range 5).map f)) (h : wpList Try.prog ops Q rest (a.put op.dst (.agg (tab 5 f))) w) : wpList Try.prog ops Q (op :: rest) a w :=
  wpList_load_mid hgd 44 x ho b o hx _ _ hc Try.underlying44 rfl (by simpa using infoPt5) h
theorem at_pt' (b o n c j : Nat) (hj : (j : Int) < (n : Int)) (w : World) : (Instr.indexAt 23 (.slice (some ⟨b, o, none⟩) n c) (.int .i64 (j : Int))).run Try.prog w = .ok (.pointer (some ⟨b, o + j * 5, none⟩)) w := by
  have h2 := Addr.add_mid b o (j * 5)
  go_simp
theorem infoB1 : (Try.prog.info? 25).map (fun i => (i.zero, i.size, i.bytes)) = some (some (.slice none 0 0), 1, 24) := by kernel_rfl
def rowV (t : Sl) (_ : Nat) : Value := t.v
theorem rowV_one (t : Sl) (j : Nat) : (rowV t j).oneCell' = true := rfl
theorem rowV_lit (A : Option Addr) (n c : Nat) : (#[.slice A n c] : Array Value) = tab 1 (rowV ⟨A, n, c⟩) := rfl
/-- what the law's file keeps: the rows of headers and of contents -/
structure PfO (w0 : World) (ps : List Pt) (T : Nat → Sl) (v5 v6 : Value) (i : Nat) (w : World) : Prop where
  hd : w.ownsRow w0.heap.size 46 6 v5 i (cellsL 6 hdR ((ps.take i).map toHd))
  dat : w.ownsRow w0.heap.size 25 1 v6 i (cellsL 1 rowV ((List.range i).map T))
  bel : Below w0.heap.size w0 w
section
variable {w0 w w' : World} {ps : List Pt} {T : Nat → Sl} {v5 v6 v : Value} {i : Nat}
theorem PfO.after (h : PfO w0 ps T v5 v6 i w) (k : Below w.heap.size w w') : PfO w0 ps T v5 v6 i w' := ⟨own_after h.hd k, own_after h.dat k, h.bel.trans (k.mono h.bel.size)⟩
end
theorem own_other2 {w w' : World} {base base' size size' n n' : Nat} {t t' : TypeId} {v v' : Value} {xs xs' : List Value} (h : w.ownsRow base t size v n xs) (h' : w.ownsRow base' t' size' v' n' xs') (ht : t ≠ t') (k : w.grownBy w' v'.ownBlock) : w'.ownsRow base t size v n xs := by
  rcases h.2 with h1 | ⟨g, cap, cur, h1, hb, hg, h3⟩
  · exact ⟨h.1, .inl h1⟩
  · refine ⟨h.1, .inr ⟨g, cap, cur, h1, hb, (k.block g (Array.getElem?_eq_some_iff.1 hg).1 (fun e => ?_)).trans hg, h3⟩⟩
    rcases h'.2 with ⟨rfl, _⟩ | ⟨g', cap', cur', rfl, _, hg', _⟩
    · cases e
    · have : g = g' := by simpa [Value.ownBlock] using e
      subst this
      rw [hg] at hg'
      injection hg' with hg'
      injection hg' with _ e2 _
      exact ht e2
theorem x8_ways (nx m : Nat) :
    ((2000 < (nx : Int)) ∧ (¬ (nx ≤ 2000 ∧ m ≤ 8))) ∨
    (((nx : Int) ≤ 2000) ∧ (8 < (m : Int)) ∧ (¬ (nx ≤ 2000 ∧ m ≤ 8))) ∨
    (((nx : Int) ≤ 2000) ∧ ((m : Int) ≤ 8) ∧ (nx ≤ 2000 ∧ m ≤ 8)) := by
  by_cases h0 : 2000 < nx
  · exact (.inl ⟨by omega, (by omega)⟩)
  by_cases h1 : 8 < m
  · exact (.inr (.inl ⟨by omega, by omega, (by omega)⟩))
  exact (.inr (.inr ⟨by omega, by omega, (by omega)⟩))
theorem i64_and7 (k : Int) : bits .and .i64 k 7 = k % 8 := i64_and_mask k 3 (by omega)
/-- what the law's file is: the bytes, or none -/
def FileR (en : Nat) (ps : List Pt) (A : Option Addr) (n c : Nat) (w : World) : Prop := if fitsB ps = true then RowB w (.slice A n c) (partsN en ps) ∧ c < 9223372036854775808 else A = none ∧ n = 0 ∧ c = 0
theorem FileR.none {en : Nat} {ps : List Pt} {w : World} (h : fitsB ps ≠ true) : FileR en ps none 0 0 w := by unfold FileR; rw [if_neg h]; exact ⟨rfl, rfl, rfl⟩
theorem FileR.some {en : Nat} {ps : List Pt} {A : Option Addr} {n c : Nat} {w : World} (h : fitsB ps = true) (hR : RowB w (.slice A n c) (partsN en ps)) (hc : c < 9223372036854775808) : FileR en ps A n c w := by unfold FileR; rw [if_pos h]; exact ⟨hR, hc⟩
set_option maxRecDepth 100000 in
set_option maxHeartbeats 4000000 in
theorem file_any (en : Nat) (s : Sl) (ps : List Pt) (T : Nat → Sl) (w : World) (hQ : SlQ w s ps T) (hen : en < 4294967296) :
    Calls Try.prog 8 #[.int .u32 (en : Int), s.v] w fun e w' => (∃ A n c, e = .returned (.slice A n c) ∧ FileR en ps A n c w') ∧ Below w.heap.size w w' := by
  obtain ⟨A1, m, c1, rfl⟩ := s.out
  have hml : ps.length = m := hQ.1
  rw [show Sl.v ⟨A1, m, c1⟩ = .slice A1 m c1 from rfl]
  have hew : IntKind.i64.wrap (en : Int) = (en : Int) := i64_in' _ (by omega)
  have hm47 : m ≤ 140737488355328 := hQ.2.1.1.2
  have HQ := Lib.hid hQ
  have HML := Lib.hid hml
  clear hQ hml
  go_enter Try.func8, Try.ntmps8
  go_wp2_with fail
  go_loopw [5, 6, 7, 12] (fun v5 v6 vn ct wr => ∃ i : Nat, i ≤ m ∧ ct = .int .i64 (i : Int) ∧ vn = .int .i64 ((wtN ps i : Nat) : Int) ∧ PfO w ps T v5 v6 i wr ∧ (0 < i → m ≤ 8 ∧ wtN ps i ≤ 2000)) (fun _ _ _ ct _ => (m - (intOf ct)).toNat)
  case atStart => exact ⟨0, Nat.zero_le _, rfl, rfl, ⟨World.ownsRow_nil _ _ _ _, World.ownsRow_nil _ _ _ _, Below.refl _ _⟩, fun h => absurd h (Nat.lt_irrefl _)⟩
  case round =>
    obtain ⟨i, hi, rfl, rfl, hO, hw8⟩ := hrel
    by_cases hlt : i < m
    · have di : (i : Int) < (m : Int) := by omega
      have hb := hO.bel
      have hQ := HQ.out.below hb
      obtain ⟨b, o, hA2, hbl, _⟩ := HQ.out.2.1.2 (by show 0 < m; omega)
      replace hA2 : A1 = some ⟨b, o, none⟩ := hA2
      subst hA2
      have hr := hQ.2.1.range rfl (j := i) hlt
      have ha1 := fun w => at_pt' b o m c1 i di w
      obtain ⟨hy, hyn, hwf⟩ := HQ.out.2.2 i hlt
      have hwt := wtN_succ ps i (by rw [HML.out]; exact hlt)
      have htk := take_one ps pt0 i (by rw [HML.out]; exact hlt)
      have hwi : wtN ps i ≤ 2000 := by
        rcases Nat.eq_zero_or_pos i with h0 | h0
        · rw [h0]; exact Nat.zero_le _
        · exact (hw8 h0).2
      change wr.rangeAt b (o + i * 5) ((List.range 5).map (ptV (ps.getD i pt0) (T i))) at hr
      generalize ps.getD i pt0 = p at *
      obtain ⟨Ab, nb, cb, hT⟩ := (T i).out
      rw [hT] at hr hy
      have hpl : p.b.length = nb := hy.1
      have hnb : nb ≤ 140737488355328 := by have := hwf.l; omega
      have hpd := hwf.d
      have hpm := hwf.m
      have hk4 := i64_and3 p.k
      have hr8 := i64_and7 p.r
      have hkn : p.k % 4 = (((toHd p).k : Nat) : Int) := by show _ = (((p.k % 4).toNat : Nat) : Int); omega
      have hrn : p.r % 8 = (((toHd p).r : Nat) : Int) := by show _ = (((p.r % 8).toNat : Nat) : Int); omega
      have hme : (nb : Int) + (p.m : Int) = (((toHd p).m : Nat) : Int) := by show _ = ((p.b.length + p.m : Nat) : Int); omega
      have hdd : (toHd p).d = p.d := rfl
      have hml2 : (toHd p).m = nb + p.m := by show p.b.length + p.m = _; omega
      have haf : (toHd p).a = 0 ∧ (toHd p).f = 0 := ⟨rfl, rfl⟩
      rw [hkn] at hk4
      rw [hrn] at hr8
      obtain ⟨wi, hwie⟩ : ∃ x, x = wtN ps i := ⟨_, rfl⟩
      rw [← hwie] at hwt hwi ⊢
      rw [hpl] at hwt
      have hmn : wtN ps (i + 1) ≤ wtN ps ps.length := wtN_mono ps (i + 1) (by rw [HML.out]; omega)
      have HWT := Lib.hid hwt
      have HMN := Lib.hid hmn
      have HTK := Lib.hid htk
      have HDD := Lib.hid hdd
      have HT := Lib.hid hT
      have HO := Lib.hid hO
      have HHD : Hid ((#[.int .i64 (((toHd p).k : Nat) : Int), .int .i64 0, .int .i64 (p.d : Int), .int .i64 0, .int .i64 (((toHd p).m : Nat) : Int), .int .i64 (((toHd p).r : Nat) : Int)] : Array Value) = tab 6 (hdR (toHd p))) := Lib.hid (by rw [← hdR_lit, haf.1, haf.2, hdd]; rfl)
      have hw1 : IntKind.i64.wrap (p.d : Int) = (p.d : Int) := i64_in' _ (by omega)
      have hw2 : IntKind.i64.wrap (p.m : Int) = (p.m : Int) := i64_in' _ (by omega)
      have hmel : (toHd p).m < 9223372036854775807 := by omega
      clear hQ hbl hy hyn hwf hwt hmn htk hT hpl hkn hrn hdd hml2 haf hO hw8 hwie
      generalize (toHd p).k = kk at *
      generalize (toHd p).r = rr at *
      generalize (toHd p).m = me at *
      rcases x8_ways (wi + (1 + nb)) m with ⟨f0, fg⟩ | ⟨f0, f1, fg⟩ | ⟨f0, f1, fg⟩
      · have FG := Lib.hid fg
        clear fg
        push_cast at f0
        go_wp2_with (first
          | (refine wp_load_pt rfl _ rfl b (o + i * 5) rfl _ hr ?_)
          | (refine wp_fresh 44 5 _ _ _ _ rfl rfl rfl rfl zeroPt infoPt5 (by omega) (ptV_one _ _) rfl rfl ?_
             intro w1 hG hb1 hz1
             have hc4 : w1.cell? ⟨_, 4, none⟩ = some (.slice Ab nb cb) := hG.cellTab 4 (by omega)))
        go_ret
        exact ⟨⟨none, 0, 0, rfl, FileR.none (by unfold fitsB; rw [Ne, decide_eq_true_eq]; have h1 := HWT.out; have h2 := HMN.out; have h3 := FG.out; have h4 := HML.out; omega)⟩, (HO.out.after hb1).bel⟩
      · have FG := Lib.hid fg
        clear fg
        push_cast at f0
        go_wp2_with (first
          | (refine wp_load_pt rfl _ rfl b (o + i * 5) rfl _ hr ?_)
          | (refine wp_fresh 44 5 _ _ _ _ rfl rfl rfl rfl zeroPt infoPt5 (by omega) (ptV_one _ _) rfl rfl ?_
             intro w1 hG hb1 hz1
             have hc4 : w1.cell? ⟨_, 4, none⟩ = some (.slice Ab nb cb) := hG.cellTab 4 (by omega)))
        go_ret
        exact ⟨⟨none, 0, 0, rfl, FileR.none (by unfold fitsB; rw [Ne, decide_eq_true_eq]; have h3 := FG.out; have h4 := HML.out; omega)⟩, (HO.out.after hb1).bel⟩
      · have FG := Lib.hid fg
        clear fg
        push_cast at f0
        go_wp2_with (first
          | (refine wp_load_pt rfl _ rfl b (o + i * 5) rfl _ hr ?_)
          | (refine wp_fresh 44 5 _ _ _ _ rfl rfl rfl rfl zeroPt infoPt5 (by omega) (ptV_one _ _) rfl rfl ?_
             intro w1 hG hb1 hz1
             have hc0 : w1.cell? ⟨_, 0, none⟩ = some (.int .i64 p.k) := hG.cellTab 0 (by omega)
             have hc1 : w1.cell? ⟨_, 1, none⟩ = some (.int .u32 (p.d : Int)) := hG.cellTab 1 (by omega)
             have hc2 : w1.cell? ⟨_, 2, none⟩ = some (.int .u32 (p.m : Int)) := hG.cellTab 2 (by omega)
             have hc3 : w1.cell? ⟨_, 3, none⟩ = some (.int .i64 p.r) := hG.cellTab 3 (by omega)
             have hc4 : w1.cell? ⟨_, 4, none⟩ = some (.slice Ab nb cb) := hG.cellTab 4 (by omega)
             have hO1 := HO.out.after hb1
             have hown1 := hO1.hd
             have hws1 := hO1.bel.size
             have HG := Lib.hid hG
             have HO1 := Lib.hid hO1
             clear hG hO1 hz1)
          | (refine wp_build_el Try.underlying41 infoHR (by decide) (by decide) rfl _ rfl (toHd p) (congrArg Value.agg HHD.out) ?_
             intro w6 hw6
             have hb6 : Below w1.heap.size w1 w6 := by subst hw6; exact (Below.refl _ _).alloc (Nat.le_refl _) _
             have hH6 : Has w6 w1.heap.size 46 (tab 6 (hdR (toHd p))) := by subst hw6; exact Has.new _ _ _
             have hown6 := own_after hown1 hb6
             have hdat6 := own_after HO1.out.dat hb6
             have hws6 := Nat.le_trans hws1 hb6.size
             have hG6 := HG.out.after hb6
             clear hw6)
          | (refine wp_append_el Try.underlying41 infoHR rfl (by decide) (by decide) hdR_one rfl _ _ rfl w.heap.size _ i ((ps.take i).map toHd) rfl hown6 w1.heap.size rfl (toHd p) hH6 (by omega) hws6 ?_
             intro v7 w7 hown7 hgr7
             have hdat7 := own_other2 hdat6 hown6 (by decide) hgr7
             have hbel7 := below_own ((HO1.out.bel.trans (hb6.mono hws1))) hown6 (Nat.le_refl _) hws6 hgr7
             have hG7 := has_own hown6 hG6 (by decide) hgr7
             have hc4' : w7.cell? ⟨_, 4, none⟩ = some (.slice Ab nb cb) := hG7.cellTab 4 (by omega)
             have hws7 := hbel7.size)
          | (refine wp_append_el Try.underlying42 infoB1 rfl (by decide) (by decide) rowV_one rfl _ _ rfl w.heap.size _ i ((List.range i).map T) rfl (own_after hdat7 ((Below.refl _ _).alloc (Nat.le_refl _) _)) w7.heap.size rfl ⟨Ab, nb, cb⟩ (Has.new _ _ _) (by omega) (by simp; omega) ?_
             intro v9 w9 hdat9 hgr9))
        go_roundw
        case rel =>
          have hb8 : Below w7.heap.size w7 (w7.alloc (.cells #[.slice Ab nb cb] 25)) := (Below.refl _ _).alloc (Nat.le_refl _) _
          have hdat8 := own_after hdat7 hb8
          have hown8 := own_after hown7 hb8
          have hws8 := Nat.le_trans hws7 hb8.size
          refine ⟨i + 1, hlt, by go_num, congrArg (Value.int .i64) (by rw [HWT.out]; go_num), ⟨?_, ?_, below_own (hbel7.trans (hb8.mono hws7)) hdat8 (Nat.le_refl _) hws8 hgr9⟩, fun _ => ⟨by omega, by rw [HWT.out]; have := FG.out; omega⟩⟩
          · rw [HTK.out, List.map_append]
            exact own_other2 hown8 hdat8 (by decide) hgr9
          · rw [List.range_succ, List.map_append, List.map_singleton, HT.out]
            exact hdat9
        case measure => simp [intOf] <;> omega
    · obtain rfl : i = m := by omega
      obtain ⟨A5, c5, rfl⟩ := own_form hO.hd
      obtain ⟨A6, c6, rfl⟩ := own_form hO.dat
      have hfit : fitsB ps = true := by
        unfold fitsB
        rw [decide_eq_true_eq, HML.out]
        rcases Nat.eq_zero_or_pos i with h0 | h0
        · exact .inl h0
        · exact .inr (hw8 h0)
      have hi8 : i ≤ 8 := by
        rcases Nat.eq_zero_or_pos i with h0 | h0
        · omega
        · exact (hw8 h0).1
      have hw2 : wtN ps i ≤ 2000 := by
        rcases Nat.eq_zero_or_pos i with h0 | h0
        · rw [h0]; exact Nat.zero_le _
        · exact (hw8 h0).2
      have hta : ps.take i = ps := List.take_of_length_le (by rw [HML.out]; exact Nat.le_refl _)
      have hfl : (ps.map (·.b)).flatten.length ≤ 2000 := by
        unfold wtN at hw2
        rw [hta] at hw2
        omega
      have hhd := hO.hd
      rw [hta] at hhd
      obtain ⟨hdl, hdC⟩ := own_slC hhd (by decide) (by omega) hd0
      have hJ : SlJ wr ⟨A5, i, c5⟩ (ps.map toHd) := ⟨hdl, hdC⟩
      obtain ⟨hrl, hrC⟩ := own_slC hO.dat (by decide) (by omega) (⟨none, 0, 0⟩ : Sl)
      have hD : SlD wr ⟨A6, i, c6⟩ (ps.map (·.b)) := by
        refine ⟨by rw [List.length_map]; exact HML.out, by show i ≤ _; omega, fun h0 => ?_⟩
        obtain ⟨b, o, e, hlt2, hc⟩ := hrC.2 h0
        refine ⟨b, o, e, hlt2, fun j hj => ?_⟩
        replace hj : j < i := hj
        obtain ⟨hy, hyn, _⟩ := (HQ.out.below hO.bel).2.2 j hj
        obtain ⟨Ab, nb, cb, hT⟩ := (T j).out
        have hcj := hc j 0 hj (by decide)
        have e1 : ((List.range i).map T).getD j ⟨none, 0, 0⟩ = T j := by simp [List.getD_eq_getElem?_getD, hj]
        have e2 : (ps.map (·.b)).getD j [] = (ps.getD j pt0).b := by
          have hjl : j < ps.length := by rw [HML.out]; exact hj
          simp [List.getD_eq_getElem?_getD, hjl]
        rw [Nat.mul_one, Nat.add_zero] at hcj
        replace hcj : wr.cell? ⟨b, o + j, none⟩ = some ((((List.range i).map T).getD j ⟨none, 0, 0⟩).v) := hcj
        rw [e1, hT] at hcj
        rw [hT] at hy hyn
        exact ⟨Ab, nb, cb, hcj, by rw [e2]; exact hy, hyn⟩
      have hfits : ∀ h ∈ ps.map toHd, h.Fit := fun h hh => by
        obtain ⟨p, hp, rfl⟩ := List.mem_map.1 hh
        obtain ⟨j, hj, rfl⟩ := List.getElem_of_mem hp
        have hwf := (HQ.out.2.2 j (by show j < i; rw [← HML.out]; exact hj)).2.2
        rw [List.getD_eq_getElem?_getD, List.getElem?_eq_getElem hj] at hwf
        refine toHd_fit hwf ?_
        have h1 := wtN_mono ps (j + 1) (by omega)
        rw [wtN_succ ps j hj, List.getD_eq_getElem?_getD, List.getElem?_eq_getElem hj] at h1
        have h2 : wtN ps ps.length ≤ 2000 := by rw [HML.out]; exact hw2
        show ps[j].b.length ≤ 100000
        have h3 : wtN ps j + (1 + ps[j].b.length) ≤ wtN ps ps.length := h1
        omega
      have k := rfile_any en ⟨A5, i, c5⟩ ⟨A6, i, c6⟩ (ps.map toHd) (ps.map (·.b)) wr hJ hD (by simp) (by rw [List.length_map, HML.out]; omega) hfits hen (by omega)
      have HB := Lib.hid hO.bel
      have HF := Lib.hid hfit
      clear hO hfit hta hfl hhd hdl hdC hJ hrl hrC hD hfits hw8
      go_wp2_with (refine k.mono ?_; rintro e w9 ⟨⟨Ax, nx, cx, rfl, hR, hcx⟩, hb9⟩)
      go_ret
      exact ⟨⟨Ax, nx, cx, rfl, FileR.some HF.out hR hcx⟩, HB.out.trans (hb9.mono HB.out.size)⟩
end Go.Proofs.Ytoplknankmomcaa
