/-
Layer 9, package dyn: readTags; Read; what package dyn's call answers.
Layer 8: the law's parts; its file.
-/
import Derived.Test.YtfdoloonllhodaaJDzG
import Derived.Test.YtfdoloonllhodaaJEmE
import Derived.Test.YtfdoloonllhodaaJElG
namespace Go.Proofs.Ytfdoloonllhodaa
open Go Go.RowKit

/-- the tags of a Dynamic header -/
def tgD (ss : List Sg) (h : Hd) : Option (List (Nat × Nat)) := if h.f ≠ h.m then none else tgO (adO ss h.d h.f)
theorem readD_tg (en : Nat) (ss : List Sg) (d : Hd) : readD en ss d = match tgD ss d with
    | none => rdE 12
    | some l => readY en ss l := by
  unfold readD tgD
  by_cases hfm : d.f ≠ d.m
  · rw [if_pos hfm, if_pos hfm]
  · rw [if_neg hfm, if_neg hfm]
    unfold adO
    by_cases h0 : d.f = 0
    · rw [if_pos h0]
      have e : tgO (some []) = none := rfl
      rw [e]
      dsimp only
      cases ha : adN ss d.d d.f with
      | none => rfl
      | some b =>
        have hb : b = [] := List.eq_nil_of_length_eq_zero (by rw [adN_len ha, h0])
        subst hb
        rfl
    · rw [if_neg h0]
      cases ha : adN ss d.d d.f with
      | none => rfl
      | some b =>
        show readT en ss b = _
        unfold readT
        rfl
theorem tgD_lt {ss : List Sg} {d : Hd} {l : List (Nat × Nat)} (h : tgD ss d = some l) : ∀ q ∈ l, q.2 < 4294967296 := by
  unfold tgD at h
  split at h
  · cases h
  · cases ho : adO ss d.d d.f with
    | none => rw [ho] at h; cases h
    | some b =>
      rw [ho] at h
      have h1 : tagsN b = some l := h
      have := (tagsN_lt b).1
      rw [h1] at this
      exact fun q hq => (this q hq).2
/-- what readTags answers -/
def RtR (w : World) (r : Option (List (Nat × Nat))) (e : Ending) (w' : World) : Prop :=
  (∃ gm, e = .returned (.tuple #[.map gm, .bool r.isSome]) ∧ ∀ l, r = some l → ∃ g, gm = some g ∧ MpL w' g l) ∧ Below w.heap.size w w'
set_option maxRecDepth 100000 in
set_option maxHeartbeats 1000000 in
theorem drtags_any (ss : List Sg) (s : Sl) (d : Hd) (w : World) (hS : SlS w s ss) (hm : ss.length ≤ 5) (hd : ∀ g ∈ ss, g.d < 4294967296) (hlb : ∀ g ∈ ss, g.b.length ≤ 100000) (hw : d.Wf) :
    Calls Try.prog 16 #[s.v, .agg (tab 6 (hdE d))] w fun e w' => RtR w (tgD ss d) e w' := by
  have kT := fun w' (hb : Below w.heap.size w w') => tat_any ss s d.d d.f w' (hS.below hb) hm hw.d hw.f hd hlb
  have hal : ∀ b, adO ss d.d d.f = some b → b.length ≤ 1000000 := fun b h => by
    unfold adO at h
    split at h
    · injection h with h; rw [← h]; decide
    · have := adN_le (a := d.d) (n := d.f) hlb
      rw [h] at this
      exact Nat.le_trans this (by decide)
  have HAL := Lib.hid hal
  have HTG : Hid (tgD ss d = if d.f ≠ d.m then none else tgO (adO ss d.d d.f)) := Lib.hid rfl
  have hf32 := hw.f
  have hm32 := hw.m
  have hd32 := hw.d
  obtain ⟨r, hr⟩ : ∃ r, r = tgD ss d := ⟨_, rfl⟩
  obtain ⟨o, ho⟩ : ∃ o, o = adO ss d.d d.f := ⟨_, rfl⟩
  rw [← hr] at HTG ⊢
  rw [← ho] at HTG HAL
  simp only [← ho] at kT
  obtain ⟨As, m, cs, rfl⟩ := s.out
  rw [show Sl.v ⟨As, m, cs⟩ = .slice As m cs from rfl] at kT ⊢
  clear hS hm hd hlb hw hal hr ho
  rw [← hdE_lit d]
  have hG : Has (w.alloc (.cells #[.int .i64 (d.k : Int), .int .u32 (d.a : Int), .int .u32 (d.d : Int), .int .u32 (d.f : Int), .int .u32 (d.m : Int), .int .i64 (d.r : Int)] 74)) w.heap.size 74 #[.int .i64 (d.k : Int), .int .u32 (d.a : Int), .int .u32 (d.d : Int), .int .u32 (d.f : Int), .int .u32 (d.m : Int), .int .i64 (d.r : Int)] := Has.new _ _ _
  have hb0 : Below w.heap.size w (w.alloc (.cells #[.int .i64 (d.k : Int), .int .u32 (d.a : Int), .int .u32 (d.d : Int), .int .u32 (d.f : Int), .int .u32 (d.m : Int), .int .i64 (d.r : Int)] 74)) := (Below.refl _ _).alloc (Nat.le_refl _) _
  go_enter Try.func16, Try.ntmps16
  go_upto_region 1 with fail
  have hc2 := hG.cell 2
  have hc3 := hG.cell 3
  have hc4 := hG.cell 4
  replace kT := kT _ hb0
  generalize w.alloc (.cells #[.int .i64 (d.k : Int), .int .u32 (d.a : Int), .int .u32 (d.d : Int), .int .u32 (d.f : Int), .int .u32 (d.m : Int), .int .i64 (d.r : Int)] 74) = u at *
  generalize hgh : w.heap.size = gh at hc2 hc3 hc4 ⊢
  by_cases hfm : d.f ≠ d.m
  · have dn : ((d.f : Int) != (d.m : Int)) = true := by simp only [bne_iff_ne, ne_eq]; omega
    have HR : Hid (r = none) := Lib.hid (by rw [HTG.out, if_pos hfm])
    clear kT hfm
    go_wp2_with fail
    go_ret2
    exact ⟨⟨none, by rw [HR.out]; rfl, fun l e => by rw [HR.out] at e; cases e⟩, hb0⟩
  · have dn : ((d.f : Int) != (d.m : Int)) = false := by simp only [bne_eq_false_iff_eq]; omega
    have HR : Hid (r = tgO o) := Lib.hid (by rw [HTG.out, if_neg hfm])
    clear hfm
    go_wp2_with fail
    refine kT.mono ?_
    rintro e u1 ⟨⟨p, rfl, hT⟩, hb1⟩
    clear kT
    have hs1 := hb1.size
    go_wp2_with fail
    refine (dtags_any hT hs1 (Nat.le_refl _) HAL.out).mono ?_
    rintro e u2 ⟨⟨g, rfl, hg⟩, hb2⟩
    have hb3 := hb0.trans ((hb1.trans hb2).mono hb0.size)
    clear hT
    go_wp2_with fail
    go_ret2
    exact ⟨⟨g, by rw [HR.out]; rfl, fun l e => hg l (by rw [← HR.out]; exact e)⟩, hb3⟩
end Go.Proofs.Ytfdoloonllhodaa
namespace Go.Proofs.Ytfdoloonllhodaa
open Go Go.RowKit

/-- a part of a file -/
structure Pt where
  k : Int
  d : Nat
  m : Nat
  r : Int
  b : List UInt8
def pt0 : Pt := ⟨0, 0, 0, 0, []⟩
structure Pt.Wf (p : Pt) : Prop where
  d : p.d < 4294967296
  m : p.m < 4294967296
  l : p.b.length ≤ 140737488355328
def ptV (p : Pt) (x : Sl) : Nat → Value
  | 0 => .int .i64 p.k
  | 1 => .int .u32 (p.d : Int)
  | 2 => .int .u32 (p.m : Int)
  | 3 => .int .i64 p.r
  | _ => x.v
theorem ptV_one (p : Pt) (x : Sl) (j : Nat) : (ptV p x j).oneCell' = true := by unfold ptV; split <;> rfl
/-- the slice reads as these parts -/
def SlQ (w : World) (s : Sl) (ps : List Pt) (T : Nat → Sl) : Prop :=
  ps.length = s.n ∧ SlC w s 5 (fun j i => ptV (ps.getD j pt0) (T j) i) ∧ ∀ j, j < s.n → SlY w (T j) (ps.getD j pt0).b ∧ ((T j).A = none → (T j).c = 0) ∧ (ps.getD j pt0).Wf
theorem SlQ.below {w w' : World} {s : Sl} {ps : List Pt} {T : Nat → Sl} (h : SlQ w s ps T) (k : Below w.heap.size w w') : SlQ w' s ps T := ⟨h.1, h.2.1.below k, fun j hj => ⟨SlA.below (h.2.2 j hj).1 k, (h.2.2 j hj).2⟩⟩
/-- the header that the law makes of a part -/
def toHd (p : Pt) : Hd := ⟨(p.k % 4).toNat, 0, p.d, 0, p.b.length + p.m, (p.r % 8).toNat⟩
/-- how long the first i parts are -/
def wtN (ps : List Pt) (i : Nat) : Nat := i + ((ps.take i).map (·.b)).flatten.length
/-- the law makes a file of them -/
def fitsB (ps : List Pt) : Bool := decide (ps.length = 0 ∨ (ps.length ≤ 8 ∧ wtN ps ps.length ≤ 2000))
def partsN (en : Nat) (ps : List Pt) : List UInt8 := fileN en (ps.map toHd) (ps.map (·.b))
theorem wtN_succ (ps : List Pt) (i : Nat) (h : i < ps.length) : wtN ps (i + 1) = wtN ps i + (1 + (ps.getD i pt0).b.length) := by
  unfold wtN
  rw [take_one ps pt0 i h, List.map_append, List.flatten_append, List.length_append]
  simp; omega
theorem wtN_mono (ps : List Pt) (i : Nat) (h : i ≤ ps.length) : wtN ps i ≤ wtN ps ps.length := by
  unfold wtN
  have e : ps.take ps.length = ps.take i ++ ps.drop i := by rw [List.take_append_drop, List.take_length]
  rw [e, List.map_append, List.flatten_append, List.length_append]
  omega
theorem toHd_fit {p : Pt} (h : p.Wf) (hb : p.b.length ≤ 100000) : (toHd p).Fit := by
  obtain ⟨h1, h2, _⟩ := h
  exact ⟨by show (p.k % 4).toNat < 4; omega, h1, by show p.b.length + p.m < _; omega, by show (p.r % 8).toNat ≤ 7; omega⟩
theorem infoB1 : (Try.prog.info? 22).map (fun i => (i.zero, i.size, i.bytes)) = some (some (.slice none 0 0), 1, 24) := by kernel_rfl
def rowV (t : Sl) (_ : Nat) : Value := t.v
theorem rowV_one (t : Sl) (j : Nat) : (rowV t j).oneCell' = true := rfl
theorem rowV_lit (A : Option Addr) (n c : Nat) : (#[.slice A n c] : Array Value) = tab 1 (rowV ⟨A, n, c⟩) := rfl
/-- what the law's file keeps: the rows of headers and of contents -/
structure PfO (w0 : World) (ps : List Pt) (T : Nat → Sl) (v5 v6 : Value) (i : Nat) (w : World) : Prop where
  hd : w.ownsRow w0.heap.size 50 6 v5 i (cellsL 6 hdR ((ps.take i).map toHd))
  dat : w.ownsRow w0.heap.size 22 1 v6 i (cellsL 1 rowV ((List.range i).map T))
  bel : Below w0.heap.size w0 w
section
variable {w0 w w' : World} {ps : List Pt} {T : Nat → Sl} {v5 v6 v : Value} {i : Nat}
theorem PfO.after (h : PfO w0 ps T v5 v6 i w) (k : Below w.heap.size w w') : PfO w0 ps T v5 v6 i w' := ⟨own_after h.hd k, own_after h.dat k, h.bel.trans (k.mono h.bel.size)⟩
end
theorem own_other2 {w w' : World} {base base' size size' n n' : Nat} {t t' : TypeId} {v v' : Value} {xs xs' : List Value} (h : w.ownsRow base t size v n xs) (h' : w.ownsRow base' t' size' v' n' xs') (ht : t ≠ t') (k : w.grownBy w' v'.ownBlock) : w'.ownsRow base t size v n xs := by
  rcases h.2 with h1 | ⟨g, cap, cur, h1, hb, hg, h3⟩
  · exact ⟨h.1, .inl h1⟩
  · refine ⟨h.1, .inr ⟨g, cap, cur, h1, hb, (k.block g (Array.getElem?_eq_some_iff.1 hg).1 (fun e => ?_)).trans hg, h3⟩⟩
    rcases h'.2 with ⟨rfl, _⟩ | ⟨g', cap', cur', rfl, _, hg', _⟩
    · cases e
    · have : g = g' := by simpa [Value.ownBlock] using e
      subst this
      rw [hg] at hg'
      injection hg' with hg'
      injection hg' with _ e2 _
      exact ht e2
theorem x8_ways (nx m : Nat) :
    ((2000 < (nx : Int)) ∧ (¬ (nx ≤ 2000 ∧ m ≤ 8))) ∨
    (((nx : Int) ≤ 2000) ∧ (8 < (m : Int)) ∧ (¬ (nx ≤ 2000 ∧ m ≤ 8))) ∨
    (((nx : Int) ≤ 2000) ∧ ((m : Int) ≤ 8) ∧ (nx ≤ 2000 ∧ m ≤ 8)) := by
  by_cases h0 : 2000 < nx
  · exact (.inl ⟨by omega, (by omega)⟩)
  by_cases h1 : 8 < m
  · exact (.inr (.inl ⟨by omega, by omega, (by omega)⟩))
  exact (.inr (.inr ⟨by omega, by omega, (by omega)⟩))
theorem i64_and7 (k : Int) : bits .and .i64 k 7 = k % 8 := i64_and_mask k 3 (by omega)
/-- what the law's file is: the bytes, or none -/
def FileR (en : Nat) (ps : List Pt) (A : Option Addr) (n c : Nat) (w : World) : Prop := if fitsB ps = true then RowB w (.slice A n c) (partsN en ps) ∧ c < 9223372036854775808 else A = none ∧ n = 0 ∧ c = 0
theorem FileR.none {en : Nat} {ps : List Pt} {w : World} (h : fitsB ps ≠ true) : FileR en ps none 0 0 w := by unfold FileR; rw [if_neg h]; exact ⟨rfl, rfl, rfl⟩
theorem FileR.some {en : Nat} {ps : List Pt} {A : Option Addr} {n c : Nat} {w : World} (h : fitsB ps = true) (hR : RowB w (.slice A n c) (partsN en ps)) (hc : c < 9223372036854775808) : FileR en ps A n c w := by unfold FileR; rw [if_pos h]; exact ⟨hR, hc⟩
end Go.Proofs.Ytfdoloonllhodaa
