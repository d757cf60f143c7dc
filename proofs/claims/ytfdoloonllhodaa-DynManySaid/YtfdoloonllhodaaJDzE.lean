/-
Layer 9, package dyn: how many symbols; the symbols.
Layer 9, package dyn: the symbols.
-/
import Derived.Test.YtfdoloonllhodaaJDzD
namespace Go.Proofs.Ytfdoloonllhodaa
open Go Go.RowKit

theorem tab1 (x : Value) : tab 1 (fun _ => x) = #[x] := rfl
theorem infoTBz : (Try.prog.info? 101).map (fun i => (i.zero, i.size)) = some (some (.agg (tab 1 (fun _ => .pointer none))), 1) := by kernel_rfl
theorem zeroTB (w : World) : (zeroValue 101).run Try.prog w = .ok (.agg (tab 1 (fun _ => .pointer none))) w := (zero_of_info infoTBz).1 w
theorem pV_cell (p : Option Nat) : (pV p).oneCell' = true := by cases p <;> rfl
/-- a table is laid -/
theorem wp_freshT {w : World} {ops : Array Oper} {rest : List Oper} {o1 o2 : Oper} {a : Act} {Q : Exit → Act → World → Prop} (p : Option Nat) (x y : Operand)
    (hg1 : o1.guard = none) (h1 : o1.op = .alloc 101) (hg2 : o2.guard = none) (h2 : o2.op = .store 101 x y)
    (hx : (a.put o1.dst (.pointer (some ⟨w.heap.size, 0, none⟩))).eval x = .pointer (some ⟨w.heap.size, 0, none⟩)) (hy : (a.put o1.dst (.pointer (some ⟨w.heap.size, 0, none⟩))).eval y = .agg #[pV p])
    (h : ∀ w', Has w' w.heap.size 101 #[pV p] → Below w.heap.size w w' → w.heap.size < w'.heap.size → wpList Try.prog ops Q rest ((a.put o1.dst (.pointer (some ⟨w.heap.size, 0, none⟩))).put o2.dst undef) w') : wpList Try.prog ops Q (o1 :: o2 :: rest) a w :=
  wp_fresh 101 1 (fun _ => pV p) _ x y hg1 h1 hg2 h2 zeroTB (by kernel_rfl) (by decide) (fun _ => pV_cell p) hx hy h
section
variable {B L q base size n : Nat} {p : Option Nat} {o : Option (List UInt8)} {w w' : World} {t : TypeId} {v : Value} {xs : List Value}
/-- a row of the call's own, beside a table's cursor -/
theorem own_p (h : w.ownsRow base t size v n xs) (hT : TbP B L p o q w) (ht : 123 ≠ t) (k : w.grownBy w' p) : w'.ownsRow base t size v n xs := by
  cases p with
  | none => exact own_after h (grown_none k)
  | some g =>
    cases o with
    | none => exact hT.elim
    | some b =>
      obtain ⟨cs, hG⟩ := CuP.hasE hT
      exact own_other h hG ht k
end
/-- how many symbols -/
def cntN (ss : List Sg) (l : List (Nat × Nat)) : Option Nat := match valN l 4 with
  | none => none
  | some h => match adN ss h 8 with
    | none => none
    | some hb => if 64 < nm hb 4 4 then none else some (nm hb 4 4)
theorem cnt_0 {ss : List Sg} {l : List (Nat × Nat)} (h : (valN l 4).isSome = false) : cntN ss l = none := by
  unfold cntN
  rw [isSome_f h]
theorem cnt_1 {ss : List Sg} {l : List (Nat × Nat)} (h : (valN l 4).isSome = true) (h2 : adN ss ((valN l 4).getD 0) 8 = none) : cntN ss l = none := by
  unfold cntN
  rw [isSome_t 0 h]
  dsimp only
  rw [h2]
theorem cnt_2 {ss : List Sg} {l : List (Nat × Nat)} {hb : List UInt8} (h : (valN l 4).isSome = true) (h2 : adN ss ((valN l 4).getD 0) 8 = some hb) : cntN ss l = if 64 < nm hb 4 4 then none else some (nm hb 4 4) := by
  unfold cntN
  rw [isSome_t 0 h]
  dsimp only
  rw [h2]
theorem cnt_le {ss : List Sg} {l : List (Nat × Nat)} {n : Nat} (h : cntN ss l = some n) : n ≤ 64 := by
  unfold cntN at h
  split at h
  · cases h
  · split at h
    · cases h
    · split at h
      · cases h
      · injection h with h
        omega
/-- the symbols, from how many there are -/
theorem syms_cnt {ss : List Sg} {l : List (Nat × Nat)} (h6 : (valN l 6).isSome = true) (h : cntN ss l = none ∨ (valN l 11).getD 0 ≠ 16) : symsN ss l = none := by
  unfold symsN
  rw [isSome_t 0 h6]
  dsimp only
  unfold cntN at h
  cases h4 : valN l 4 with
  | none => rfl
  | some a =>
    rw [h4] at h
    dsimp only at h ⊢
    cases ha : adN ss a 8 with
    | none => rfl
    | some hb =>
      rw [ha] at h
      dsimp only at h ⊢
      rcases h with h | h
      · split at h
        · rename_i h64
          rw [if_pos (.inr h64)]
        · cases h
      · rw [if_pos (.inl h)]
theorem syms_of {ss : List Sg} {l : List (Nat × Nat)} {n : Nat} (h6 : (valN l 6).isSome = true) (h : cntN ss l = some n) (h11 : (valN l 11).getD 0 = 16) : symsN ss l = (adO ss ((valN l 6).getD 0) (16 * n)).map fun b => symG b n := by
  unfold symsN
  rw [isSome_t 0 h6]
  dsimp only
  unfold cntN at h
  cases h4 : valN l 4 with
  | none => rw [h4] at h; cases h
  | some a =>
    rw [h4] at h
    dsimp only at h ⊢
    cases ha : adN ss a 8 with
    | none => rw [ha] at h; cases h
    | some hb =>
      rw [ha] at h
      dsimp only at h ⊢
      split at h
      · cases h
      · rename_i h64
        injection h with h
        rw [h] at h64 ⊢
        rw [if_neg (by rw [h11]; omega)]
        unfold adO
        by_cases h0 : n = 0
        · rw [if_pos h0, if_pos (by omega), h0]
          rfl
        · rw [if_neg h0, if_neg (by omega)]
          show _ = Option.map (fun b => symG b n) (adN ss ((valN l 6).getD 0) (16 * n))
          cases adN ss ((valN l 6).getD 0) (16 * n) <;> rfl
def CntR (w : World) (c : Option Nat) (e : Ending) (w' : World) : Prop := e = .returned (.tuple #[.int .u32 ((c.getD 0 : Nat) : Int), .bool c.isSome]) ∧ Below w.heap.size w w'
set_option maxRecDepth 100000 in
set_option maxHeartbeats 2000000 in
theorem dcount_any (ss : List Sg) (s : Sl) (gm : Nat) (l : List (Nat × Nat)) (w : World) (hS : SlS w s ss) (hm : ss.length ≤ 5) (hd : ∀ g ∈ ss, g.d < 4294967296) (hlb : ∀ g ∈ ss, g.b.length ≤ 100000) (hM : MpL w gm l) (hl : ∀ q ∈ l, q.2 < 4294967296) :
    Calls Try.prog 32 #[s.v, .map (some gm)] w fun e w' => CntR w (cntN ss l) e w' := by
  have hlk := hM.look_ok (t := 4) (by decide)
  rw [show ((4 : Nat) : Int) = 4 from rfl] at hlk
  have hx32 := valD_lt (t := 4) hl (by decide)
  have HC0 := Lib.hid (fun h => cnt_0 (ss := ss) (l := l) h)
  have HC1 := Lib.hid (fun h h2 => cnt_1 (ss := ss) (l := l) h h2)
  have HC2 := Lib.hid (fun hb h h2 => cnt_2 (ss := ss) (l := l) (hb := hb) h h2)
  obtain ⟨x, hx⟩ : ∃ x, x = (valN l 4).getD 0 := ⟨_, rfl⟩
  obtain ⟨b4, hb4⟩ : ∃ x, x = (valN l 4).isSome := ⟨_, rfl⟩
  obtain ⟨c, hc⟩ : ∃ x, x = cntN ss l := ⟨_, rfl⟩
  rw [← hx] at hlk hx32 HC1 HC2
  rw [← hb4] at hlk HC0 HC1 HC2
  rw [← hc] at HC0 HC1 HC2 ⊢
  have kT := tat_any ss s x 8 w hS hm hx32 (by decide) hd hlb
  rw [show ((8 : Nat) : Int) = 8 from rfl, show adO ss x 8 = adN ss x 8 from if_neg (by decide)] at kT
  have HAL : Hid (∀ b, adN ss x 8 = some b → b.length = 8) := Lib.hid (fun b h => adN_len h)
  obtain ⟨o, ho⟩ : ∃ o, o = adN ss x 8 := ⟨_, rfl⟩
  rw [← ho] at kT HC1 HC2 HAL
  obtain ⟨As, m, cs, rfl⟩ := s.out
  rw [show Sl.v ⟨As, m, cs⟩ = .slice As m cs from rfl] at kT ⊢
  clear hS hm hd hlb hM hl hx hb4 hc ho
  go_enter Try.func32, Try.ntmps32
  cases b4 with
  | false =>
    have h0 := HC0.out rfl
    clear HC0 HC1 HC2 kT
    go_wp2_with fail
    go_ret2
    exact ⟨by rw [h0]; rfl, Below.refl _ _⟩
  | true =>
    go_wp2_with (first
      | (refine kT.mono ?_
         rintro e u1 ⟨⟨p, rfl, hT⟩, hb1⟩
         have hs1 := hb1.size)
      | (refine wp_freshT p _ _ rfl rfl rfl rfl rfl rfl ?_
         intro u2 hG2 hb2 hz2
         have hT2 := hT.after hb2
         have hb12 := below_trans hb1 (hb2.mono (Nat.le_refl _))
         have hne : ∀ g, p = some g → u1.heap.size ≠ g := fun g e => by have := (hT.gB g e).2.1; omega
         have hpB : ∀ g, p = some g → w.heap.size ≤ g := fun g e => (hT.gB g e).1
         have hct := hG2.cell 0)
      | (refine hT2.u32.mono ?_
         rintro e u3 ⟨rfl, hT3, hg3⟩
         have hG3 := has_grown hG2 hg3 hne
         have hb3 := below_p hb12 hg3 hpB hb12.size
         have hct3 := hG3.cell 0)
      | (refine hT3.u32.mono ?_
         rintro e u4 ⟨rfl, hT4, hg4⟩
         have hG4 := has_grown hG3 hg4 hne
         have hb4 := below_p hb3 hg4 hpB hb3.size
         have hct4 := hG4.cell 0
         have kB := hT4.bad))
    clear kT hT hT2 hT3 hG2 hG3 hg3 hg4 hct hct3 hb1 hb2 hb12 hb3
    have hr : nmO o (0 + 4) < 4294967296 := nmO_lt _ _
    cases o with
    | none =>
      have h0 := HC1.out (by first | trivial | rfl) (by first | trivial | rfl)
      rw [show bdO none (0 + 4 + 4) = true from rfl] at kB
      clear HC0 HC1 HC2 HAL
      go_wp2_with (refine kB.mono ?_; rintro e w9 ⟨rfl, rfl⟩)
      go_ret2
      exact ⟨by rw [h0]; rfl, hb4⟩
    | some hb =>
      have h0 := HC2.out hb (by first | trivial | rfl) (by first | trivial | rfl)
      have hl8 := HAL.out hb rfl
      rw [show bdO (some hb) (0 + 4 + 4) = false from decide_eq_false (by omega)] at kB
      obtain ⟨n, hn⟩ : ∃ n, n = nmO (some hb) (0 + 4) := ⟨_, rfl⟩
      have hn2 : n = nm hb 4 4 := hn
      rw [← hn2] at h0
      rw [← hn] at hr ⊢
      have H0 := Lib.hid h0
      clear HC0 HC1 HC2 HAL h0 hn hn2 hl8
      by_cases h64 : 64 < n
      · have d64 : 64 < (n : Int) := by omega
        have HN : Hid (c = none) := Lib.hid (by rw [H0.out, if_pos h64])
        clear h64
        go_wp2_with (refine kB.mono ?_; rintro e w9 ⟨rfl, rfl⟩)
        go_ret2
        exact ⟨by rw [HN.out]; rfl, hb4⟩
      · have d64 : (n : Int) ≤ 64 := by omega
        have HN : Hid (c = some n) := Lib.hid (by rw [H0.out, if_neg h64])
        clear h64
        go_wp2_with (refine kB.mono ?_; rintro e w9 ⟨rfl, rfl⟩)
        go_ret2
        exact ⟨by rw [HN.out]; rfl, hb4⟩
end Go.Proofs.Ytfdoloonllhodaa
namespace Go.Proofs.Ytfdoloonllhodaa
open Go Go.RowKit

theorem infoU4 : (Try.prog.info? 32).map (fun i => (i.zero, i.size, i.bytes)) = some (some (.int .u32 0), 1, 4) := by kernel_rfl
def symO (o : Option (List UInt8)) (n : Nat) : List Nat := (List.range n).map fun i => nmO o (16 * i + 4)
theorem symO_succ (o : Option (List UInt8)) (n : Nat) : symO o (n + 1) = symO o n ++ [nmO o (16 * n + 4)] := by simp [symO, List.range_succ]
theorem symO_some (b : List UInt8) (n : Nat) : symO (some b) n = symG b n := rfl
/-- the symbols' loop -/
structure SyL (w0 : World) (L : Nat) (p : Option Nat) (o : Option (List UInt8)) (gt : Nat) (v : Value) (i : Nat) (w : World) : Prop where
  own : w.ownsRow L 32 1 v i (cellsL 1 u4 (symO o i))
  tb : TbP w0.heap.size L p o (16 * i) w
  tc : Has w gt 101 #[pV p]
  bel : Below w0.heap.size w0 w
  siz : L ≤ w.heap.size
/-- what readSymbols answers -/
def SyR (w : World) (r : Option (List Nat)) (e : Ending) (w' : World) : Prop :=
  (∃ A n c L, e = .returned (.tuple #[.slice A n c, .bool r.isSome]) ∧ w.heap.size ≤ L ∧ w'.ownsRow L 32 1 (.slice A n c) n (cellsL 1 u4 (r.getD []))) ∧ Below w.heap.size w w'
theorem syR_none {w w' : World} {r : Option (List Nat)} (h : r = none) (hb : Below w.heap.size w w') : SyR w r (.returned (.tuple #[.slice none 0 0, .bool false])) w' := by
  subst h
  exact ⟨⟨none, 0, 0, w.heap.size, rfl, Nat.le_refl _, World.ownsRow_nil _ _ _ _⟩, hb⟩
theorem syR_nil {w w' : World} {r : Option (List Nat)} (h : r = some []) (hb : Below w.heap.size w w') : SyR w r (.returned (.tuple #[.slice none 0 0, .bool true])) w' := by
  subst h
  exact ⟨⟨none, 0, 0, w.heap.size, rfl, Nat.le_refl _, World.ownsRow_nil _ _ _ _⟩, hb⟩
theorem syR_some {w w' : World} {r : Option (List Nat)} {A : Option Addr} {n c L : Nat} {xs : List Nat} (h : r = some xs) (ho : w'.ownsRow L 32 1 (.slice A n c) n (cellsL 1 u4 xs)) (hL : w.heap.size ≤ L) (hb : Below w.heap.size w w') : SyR w r (.returned (.tuple #[.slice A n c, .bool true])) w' := by
  subst h
  exact ⟨⟨A, n, c, L, rfl, hL, ho⟩, hb⟩
set_option maxRecDepth 100000 in
set_option maxHeartbeats 1000000 in
theorem dsymbols_any (ss : List Sg) (s : Sl) (gm : Nat) (l : List (Nat × Nat)) (w : World) (hS : SlS w s ss) (hm : ss.length ≤ 5) (hd : ∀ g ∈ ss, g.d < 4294967296) (hlb : ∀ g ∈ ss, g.b.length ≤ 100000) (hM : MpL w gm l) (hl : ∀ q ∈ l, q.2 < 4294967296) :
    Calls Try.prog 17 #[s.v, .map (some gm)] w fun e w' => SyR w (symsN ss l) e w' := by
  have hlk := hM.look_ok (t := 6) (by decide)
  rw [show ((6 : Nat) : Int) = 6 from rfl] at hlk
  have hx32 := valD_lt (t := 6) hl (by decide)
  have hz32 := valD_lt (t := 11) hl (by decide)
  have h0 := fun h => syms_0 (ss := ss) (l := l) h
  have h1 := fun h h2 => syms_cnt (ss := ss) (l := l) h h2
  have h2 := fun n h h2 h3 => syms_of (ss := ss) (l := l) (n := n) h h2 h3
  have kC := dcount_any ss s gm l w hS hm hd hlb hM hl
  have hle := fun n h => cnt_le (ss := ss) (l := l) (n := n) h
  have hlk2 := fun w' (hb : Below w.heap.size w w') => (hM.after hb).look (t := 11) (by decide)
  have kT := fun (a n : Nat) w' (hb : Below w.heap.size w w') (ha : a < 4294967296) (hn : n < 4294967296) => tat_any ss s a n w' (hS.below hb) hm ha hn hd hlb
  have hal : ∀ a n b, adO ss a n = some b → b.length = n := fun a n b h => by
    unfold adO at h
    split at h
    · rename_i h0
      injection h with h
      rw [← h, h0]
      rfl
    · exact adN_len h
  obtain ⟨x, hx⟩ : ∃ x, x = (valN l 6).getD 0 := ⟨_, rfl⟩
  obtain ⟨z, hz⟩ : ∃ z, z = (valN l 11).getD 0 := ⟨_, rfl⟩
  obtain ⟨b6, hb6⟩ : ∃ x, x = (valN l 6).isSome := ⟨_, rfl⟩
  obtain ⟨r, hr⟩ : ∃ x, x = symsN ss l := ⟨_, rfl⟩
  obtain ⟨c, hc⟩ : ∃ x, x = cntN ss l := ⟨_, rfl⟩
  rw [← hx] at hlk hx32
  rw [← hz] at hz32
  simp only [← hz] at hlk2
  rw [← hb6] at hlk
  simp only [← hb6, ← hr, ← hx, ← hz, ← hc] at h0 h1 h2
  rw [← hc] at kC
  simp only [← hc] at hle
  rw [← hr]
  have H0 := Lib.hid h0
  have H1 := Lib.hid h1
  have H2 := Lib.hid h2
  have HLE := Lib.hid hle
  have HLK := Lib.hid hlk2
  have HT := Lib.hid kT
  have HAL := Lib.hid hal
  obtain ⟨As, m, cs, rfl⟩ := s.out
  rw [show Sl.v ⟨As, m, cs⟩ = .slice As m cs from rfl] at kC HT ⊢
  clear hS hm hd hlb hM hl hx hz hb6 hr hc h0 h1 h2 hle hlk2 kT hal
  go_enter Try.func17, Try.ntmps17
  cases b6 with
  | false =>
    have hr0 := H0.out rfl
    have HR := Lib.hid hr0
    clear hr0 H0 H1 H2 HLE HLK HT HAL kC
    go_wp2_with fail
    go_ret2
    exact syR_nil HR.out (Below.refl _ _)
  | true =>
    replace H1 := Lib.hid (H1.out rfl)
    replace H2 := Lib.hid (fun n => H2.out n rfl)
    clear H0
    cases c with
    | none =>
      have HR := Lib.hid (H1.out (.inl rfl))
      replace kC : Calls Try.prog 32 #[.slice As m cs, .map (some gm)] w fun e w' => e = .returned (.tuple #[.int .u32 0, .bool false]) ∧ Below w.heap.size w w' := kC
      clear H1 H2 HLE HLK HT HAL
      go_wp2_with fail
      refine kC.mono ?_
      rintro e u1 ⟨rfl, hb1⟩
      go_wp2_with fail
      go_ret2
      exact syR_none HR.out hb1
    | some n =>
      have hn64 := HLE.out n rfl
      have dn64 : (n : Int) ≤ 64 := by omega
      replace H2 := Lib.hid (H2.out n rfl)
      clear HLE
      replace kC : Calls Try.prog 32 #[.slice As m cs, .map (some gm)] w fun e w' => e = .returned (.tuple #[.int .u32 (n : Int), .bool true]) ∧ Below w.heap.size w w' := kC
      by_cases hz16 : ¬ z = 16
      · have dz : ((z : Int) != 16) = true := by simp only [bne_iff_ne, ne_eq]; omega
        have HR := Lib.hid (H1.out (.inr hz16))
        clear H1 H2 HT HAL hz16
        go_wp2_with fail
        refine kC.mono ?_
        rintro e u1 ⟨rfl, hb1⟩
        have hlk11 := HLK.out u1 hb1
        rw [show ((11 : Nat) : Int) = 11 from rfl] at hlk11
        go_wp2_with fail
        go_ret2
        exact syR_none HR.out hb1
      replace hz16 : z = 16 := by omega
      have dz : ((z : Int) != 16) = false := by simp only [bne_eq_false_iff_eq]; omega
      have HR := Lib.hid (H2.out hz16)
      clear H1 H2 hz16
      obtain ⟨o, ho⟩ : ∃ o, o = adO ss x (16 * n) := ⟨_, rfl⟩
      have HAL2 : Hid (∀ b, o = some b → b.length = 16 * n) := Lib.hid (fun b h => HAL.out x (16 * n) b (by rw [← ho, h]))
      replace HR : Hid (r = o.map fun b => symG b n) := Lib.hid (by rw [ho]; exact HR.out)
      have kT := fun w' (hb : Below w.heap.size w w') => HT.out x (16 * n) w' hb hx32 (by omega)
      rw [← ho] at kT
      rw [show ((16 * n : Nat) : Int) = 16 * (n : Int) by omega] at kT
      have HT2 := Lib.hid kT
      clear HT HAL ho kT
      go_wp2_with fail
      refine kC.mono ?_
      rintro e u1 ⟨rfl, hb1⟩
      have hlk11 := HLK.out u1 hb1
      rw [show ((11 : Nat) : Int) = 11 from rfl] at hlk11
      have kT := HT2.out u1 hb1
      clear kC HLK HT2
      go_wp2_with fail
      refine kT.mono ?_
      rintro e u2 ⟨⟨p, rfl, hT⟩, hb2⟩
      have hb12 := below_trans hb1 (hb2.mono (Nat.le_refl _))
      clear kT
      go_upto_region 8 with (refine wp_freshT p _ _ rfl rfl rfl rfl rfl rfl ?_; intro u3 hG3 hb3 hz3)
      have hT3 := (hT.mono hb1.size (Nat.le_refl _)).after hb3
      have hb13 := below_trans hb12 (hb3.mono (Nat.le_refl _))
      have hs2 := hb12.size
      have hpB : ∀ g, p = some g → w.heap.size ≤ g ∧ g < u2.heap.size := fun g e => ⟨(hT3.gB g e).1, (hT3.gB g e).2.1⟩
      obtain ⟨gt, hgt⟩ : ∃ x, x = u2.heap.size := ⟨_, rfl⟩
      rw [← hgt] at hG3 hT3 hz3 hpB ⊢
      have hne : ∀ g, p = some g → gt ≠ g := fun g e => by have := (hpB g e).2; omega
      have hwgt : w.heap.size ≤ gt := by omega
      obtain ⟨L, hL⟩ : ∃ x, x = gt := ⟨_, rfl⟩
      rw [← hL] at hT3
      have hwL : w.heap.size ≤ L := by omega
      have HI : Hid (SyL w L p o gt (.slice none 0 0) 0 u3) := Lib.hid ⟨World.ownsRow_nil _ _ _ _, hT3, hG3, hb13, by omega⟩
      clear hT hb2 hb3 hb12 hG3 hT3 hb13 hgt hz3 hs2 hlk11 hlk hL
      go_wp2_with fail
      go_loopw [11, 38] (fun va ct wr => ∃ i : Nat, i ≤ n ∧ ct = .int .u32 (i : Int) ∧ SyL w L p o gt va i wr) (fun _ ct _ => (n - (intOf ct)).toNat)
      case atStart => exact ⟨0, Nat.zero_le _, rfl, HI.out⟩
      case round =>
        obtain ⟨i, hi, rfl, hO⟩ := hrel
        clear HI
        by_cases hlt : i < n
        · have di : (i : Int) < (n : Int) := by omega
          have kS := dsymbol_any hO.tb hO.siz
          have hG := hO.tc
          obtain ⟨Av, cv, rfl⟩ := own_form hO.own
          have HO := Lib.hid hO
          have hi64 : i + 1 ≤ 64 := by omega
          have hr32 := nmO_lt o (16 * i + 4)
          obtain ⟨y, hy⟩ : ∃ y, y = nmO o (16 * i + 4) := ⟨_, rfl⟩
          rw [← hy] at kS hr32
          have HY := Lib.hid hy
          clear hO hy
          go_wp2_with (first
            | (refine kS.mono ?_
               rintro e v1 ⟨rfl, hT1, hg1⟩
               have hown1 := own_p HO.out.own HO.out.tb (by decide) hg1
               have hG1 := has_grown HO.out.tc hg1 hne
               have hb1 := below_p HO.out.bel hg1 (fun g e => (hpB g e).1) HO.out.bel.size
               have hL1 := Nat.le_trans HO.out.siz hg1.size
               have hbx : Below v1.heap.size v1 (v1.alloc (.cells #[.int .u32 (y : Int)] 32)) := (Below.refl _ _).alloc (Nat.le_refl _) _
               have hHx : Has (v1.alloc (.cells #[.int .u32 (y : Int)] 32)) v1.heap.size 32 (tab 1 (u4 y)) := Has.new _ _ _
               have hownx := own_after hown1 hbx
               have hLx := Nat.le_trans hL1 hbx.size)
            | (refine wpList_load_has 101 _ rfl _ rfl rfl 101 _ hG _ Try.underlying101 rfl (infoTB _) ?_)
            | (refine wp_append_el Try.underlying24 infoU4 rfl (by decide) (by decide) u4_one rfl _ _ rfl L _ i (symO o i) rfl hownx v1.heap.size rfl y hHx (by omega) hLx ?_
               intro v7 w7 hown7 hgr7))
          go_roundw
          case rel =>
            have hb1x := below_trans hb1 (hbx.mono (Nat.le_refl _))
            refine ⟨i + 1, hlt, by go_num, ⟨?_, ?_, ?_, below_own hb1x hownx hwL hb1x.size hgr7, Nat.le_trans hLx hgr7.size⟩⟩
            · rw [symO_succ, ← HY.out]
              exact hown7
            · rw [show 16 * (i + 1) = 16 * i + 16 by omega]
              exact (hT1.after hbx).aside hgr7 fun l e => .inr (own_blk hownx e).1
            · exact has_grown (hG1.after hbx) hgr7 (own_has hownx (hG1.after hbx) (by decide))
          case measure => simp [intOf] <;> omega
        · obtain rfl : i = n := by omega
          have kB := hO.tb.bad
          have hct := hO.tc.cell 0
          obtain ⟨Av, cv, rfl⟩ := own_form hO.own
          have HO := Lib.hid hO
          clear hO hlt
          cases o with
          | none =>
            have HN : Hid (r = none) := Lib.hid HR.out
            rw [show bdO none (16 * i) = true from rfl] at kB
            go_wp2_with (refine kB.mono ?_; rintro e w9 ⟨rfl, rfl⟩)
            go_ret2
            exact syR_none HN.out HO.out.bel
          | some b =>
            have HN : Hid (r = some (symG b i)) := Lib.hid HR.out
            have hbl := HAL2.out b rfl
            rw [show bdO (some b) (16 * i) = false from decide_eq_false (by omega)] at kB
            clear hbl
            go_wp2_with (refine kB.mono ?_; rintro e w9 ⟨rfl, rfl⟩)
            go_ret2
            exact syR_some HN.out HO.out.own hwL HO.out.bel
end Go.Proofs.Ytfdoloonllhodaa
