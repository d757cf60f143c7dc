import Derived.Test.YtopjdckfphhnnaaDoorWo
namespace Go.Proofs.YtopjdckfphhnnaaDoor
open Go.RowKit
/-- the sum of the parts' lengths, one more for each -/
def tot (L : Nat → Nat) : Nat → Nat
  | 0 => 0
  | r + 1 => tot L r + (1 + L r)
/-- the parts in a row -/
def cat (p : Nat → List UInt8) : Nat → List UInt8
  | 0 => []
  | r + 1 => cat p r ++ p r
theorem tot_mono (L : Nat → Nat) (r : Nat) : ∀ k, r ≤ k → tot L r ≤ tot L k
  | 0, h => by rw [show r = 0 by omega]; exact Nat.le_refl _
  | k + 1, h => by
    by_cases e : r = k + 1
    · rw [e]; exact Nat.le_refl _
    · have := tot_mono L r k (by omega)
      simp only [tot]; omega
theorem cat_len (p : Nat → List UInt8) (L : Nat → Nat) (n : Nat) (h : ∀ r, r < n → (p r).length = L r) : ∀ r, r ≤ n → (cat p r).length ≤ tot L r
  | 0, _ => by simp [cat, tot]
  | r + 1, hr => by
    have h1 := cat_len p L n h r (by omega)
    have h2 := h r (by omega)
    simp only [cat, tot, List.length_append]; omega
theorem own_far2 {w w' : World} {base : Nat} {e : TypeId} {size n : Nat} {v : Value} {xs : List Value} (h : w.ownsRow base e size v n xs) (hb : Below w.heap.size w w') : w'.ownsRow base e size v n xs :=
  h.kept (only_below hb none) (by
    cases hv : v.ownBlock with
    | none => exact .inl rfl
    | some a => exact .inr (by simp))
theorem neq_digest (m : List UInt8) : ∀ W : World, (binOp .neq 24 (.agg (tab 32 fun j => by8 (shaOf m j))) (.agg (tab 32 fun j => by8 (shaOf m j)))).run Tryd.prog W = .ok (.bool false) W := fun W => by
  obtain ⟨i5, hi5, _, hs5, _⟩ := info_parts info5
  rw [run_neq_struct]
  have h := run_equalIn_tab (P := Tryd.prog) W 9999 24 5 32 .u8 .u8 i5 (fun j => ((shaOf m j).toNat : Int)) (fun j => ((shaOf m j).toNat : Int)) Tryd.underlying24 Tryd.underlying5 hi5 hs5 (fun a b W => run_equalIn_int (P := Tryd.prog) (w := W) 9998 5 .u8 .u8 a b Tryd.underlying5)
  rw [sameTo_refl] at h
  show ((Op.equalIn (9999 + 1) 24 (.agg (tab 32 fun j => .int .u8 ((shaOf m j).toNat : Int))) (.agg (tab 32 fun j => .int .u8 ((shaOf m j).toNat : Int)))).run Tryd.prog W).andThen _ = _
  rw [h]
  rfl
theorem tot_ge (L : Nat → Nat) : ∀ r, r ≤ tot L r
  | 0 => Nat.le_refl _
  | r + 1 => by have := tot_ge L r; simp only [tot]; omega
theorem grown_trans {a b c : World} {row : Option Nat} (h : a.grownBy b row) (k : b.grownBy c row) : a.grownBy c row :=
  ⟨k.os.trans h.os, k.tape.trans h.tape, k.output.trans h.output, Nat.le_trans h.size k.size, fun i hi hne => (k.block i (Nat.lt_of_lt_of_le hi h.size) hne).trans (h.block i hi hne)⟩
theorem own_slA {w : World} {base n c : Nat} {A : Option Addr} {bs : List UInt8} (h : w.ownsRow base 5 1 (.slice A n c) n (bs.map by8)) : SlA w A n c bs ∧ (A = none → c = 0) := by
  have hl : bs.length = n := by have := h.1; simpa using this
  rcases h.2 with ⟨hv, h0⟩ | ⟨g, cap, cur, hv, hb, hg, hnc, _⟩
  · have e1 : A = none := by injection hv
    have e2 : c = 0 := by injection hv
    exact ⟨⟨hl, by omega, fun h => absurd h (by omega)⟩, fun _ => e2⟩
  · have e1 : A = some ⟨g, 0, none⟩ := by injection hv
    have e2 : c = cap := by injection hv
    subst e1
    subst e2
    have hlt : g < w.heap.size := (Array.getElem?_eq_some_iff.1 hg).1
    refine ⟨⟨hl, hnc, fun _ => ⟨g, 0, rfl, hlt, fun j hj => ?_⟩⟩, fun h => by cases h⟩
    rw [Nat.zero_add, h.cellAt j (by omega)]
    simp [List.getD_eq_getElem?_getD, show j < bs.length by omega]
theorem own_slB {w : World} {base n c g : Nat} {A : Option Addr} {bs : List UInt8} (h : w.ownsRow base 5 1 (.slice A n c) n (bs.map by8)) (hg : g < base) : SlB w g A n c bs := by
  obtain ⟨⟨h1, h2, h3⟩, _⟩ := own_slA h
  refine ⟨h1, h2, fun hn => ?_⟩
  obtain ⟨b, o, e, hlt, hc⟩ := h3 hn
  have := (h.lt b (by rw [e]; rfl)).1
  exact ⟨b, o, e, by omega, hlt, hc⟩
theorem own_keep {w w' : World} {base n k : Nat} {v : Value} {xs : List Value} (h : w.ownsRow base 5 1 v n xs) (hg : w.grownBy w' (some k)) (hk : k < base) : w'.ownsRow base 5 1 v n xs :=
  h.kept hg (by
    cases hv : v.ownBlock with
    | none => exact .inl rfl
    | some a => exact .inr (by have := (h.lt a hv).1; simp; omega))
theorem HashIs.row {w w' : World} {g : Nat} {m : List UInt8} {row : Option Nat} (h : HashIs w g m) (k : w.grownBy w' row) (hne : some g ≠ row) : HashIs w' g m := by
  obtain ⟨r, hh, hr⟩ := h
  exact ⟨r, (k.block g hh.lt hne).trans hh, hr⟩
theorem by8_inc (y : UInt8) : Value.int .u8 (((y.toNat : Int) + 1) % 256) = by8 (y + 1) := by
  unfold by8; rw [UInt8.toNat_add]; simp
/-- slices of bytes in a row of memory -/
structure Parts (w : World) (A : Option Addr) (n : Nat) (B : Nat → Option Addr) (L C : Nat → Nat) (p : Nat → List UInt8) : Prop where
  cell : ∀ r, r < n → ∃ b o, A = some ⟨b, o, none⟩ ∧ b < w.heap.size ∧ w.cell? ⟨b, o + r, none⟩ = some (.slice (B r) (L r) (C r))
  sl : ∀ r, r < n → SlA w (B r) (L r) (C r) (p r)
  nil : ∀ r, r < n → B r = none → C r = 0
  len : ∀ r, r < n → L r ≤ 140737488351232
theorem Parts.below {w w' : World} {A : Option Addr} {n : Nat} {B : Nat → Option Addr} {L C : Nat → Nat} {p : Nat → List UInt8} (h : Parts w A n B L C p) (hb : Below w.heap.size w w') : Parts w' A n B L C p :=
  ⟨fun r hr => by
    obtain ⟨b, o, rfl, hlt, hc⟩ := h.cell r hr
    exact ⟨b, o, rfl, Nat.lt_of_lt_of_le hlt hb.size, (hb.cell (p := ⟨b, o + r, none⟩) hlt).trans hc⟩, fun r hr => (h.sl r hr).below hb, h.nil, h.len⟩
set_option maxRecDepth 100000 in
set_option maxHeartbeats 1000000 in
theorem parts_any (A : Option Addr) (n c : Nat) (w : World) (hT : Tabs w) (B : Nat → Option Addr) (L C : Nat → Nat) (p : Nat → List UInt8) (hP : Parts w A n B L C p) :
    Calls Tryd.prog 4 #[.slice A n c] w fun e w' => e = .returned (.bool true) ∧ Below w.heap.size w w' := by
  have HT := Lib.hid hT
  clear hT
  go_enter Tryd.func4, Tryd.ntmps4
  go_wp2_with (go_at_call 6; refine (fit_any _ HT.out).mono ?_; rintro e w1 ⟨rfl, hb1⟩)
  have hP1 := hP.below hb1
  have Hb1 := Lib.hid hb1
  clear hb1
  go_loopw [3, 5, 16] (fun cn _ cr wr => ∃ r T : Nat, r ≤ n ∧ Hid (T = tot L r) ∧ r ≤ T ∧ T ≤ 1000 ∧ cn = .int .i64 T ∧ cr = .int .i64 r ∧ wr = w1) (fun _ _ cr _ => n - (intOf cr).toNat)
  case atStart => exact ⟨0, 0, by omega, Lib.hid rfl, by omega, by omega, rfl, rfl, rfl⟩
  case round =>
    obtain ⟨r, T, hr, HT2, hrT, hT1, rfl, rfl, rfl⟩ := hrel
    by_cases hlt : r < n
    · obtain ⟨b, o, rfl, hlt2, hc⟩ := hP1.cell r hlt
      have hl := hP1.len r hlt
      have hlr : (r : Int) < (n : Int) := by omega
      by_cases hT3 : T + (1 + L r) ≤ 1000
      · have hT4 : ¬ (1000 : Int) < (T : Int) + (1 + (L r : Int)) := by omega
        have HT5 : Hid (T + (1 + L r) = tot L (r + 1)) := Lib.hid (by rw [HT2.out]; rfl)
        go_wp2_with fail
        go_roundw
        case rel => exact ⟨r + 1, T + (1 + L r), by omega, HT5, by omega, hT3, by go_num, by go_num, by simp⟩
        case measure => simp [intOf]; omega
      · have hT4 : (1000 : Int) < (T : Int) + (1 + (L r : Int)) := by omega
        go_wp2_with fail
        go_ret
        exact ⟨rfl, Hb1.out⟩
    · have hrn : r = n := by omega
      have htot : tot L n ≤ 1000 := by rw [← hrn, ← HT2.out]; exact hT1
      have Htot := Lib.hid htot
      have hlr : ¬ (r : Int) < (n : Int) := by omega
      clear hrn htot HT2 hr hlt
      go_wp2_with fail
      refine (new_any wr (HT.out.below Hb1.out)).mono ?_
      rintro e w2 ⟨rfl, hg, hb2⟩
      have hs1 := Hb1.out.size
      have hb02 := Hb1.out.trans (hb2.mono hs1)
      have hgl := hg.lt
      have hg2 : 2 ≤ wr.heap.size := by have := HT.out.size; omega
      have hn1 : n ≤ 1000 := by have := tot_ge L n; have := Htot.out; omega
      obtain ⟨gs, hgs⟩ : ∃ gs, gs = wr.heap.size := ⟨_, rfl⟩
      rw [← hgs] at hg hs1 hgl hg2 ⊢
      clear hb2 hP1 Hb1 hgs hrT hT1 hlr
      go_wp2_with fail
      have hown0 := World.ownsRow_nil w2 w2.heap.size 5 1
      go_loopw [7, 9, 10, 11, 31] (fun cv _ _ _ cr wx => ∃ (r N : Nat) (D : List UInt8), r ≤ n ∧ cr = .int .i64 r ∧ Hid (D = cat p r) ∧ D.length = N ∧ wx.ownsRow w2.heap.size 5 1 cv N (D.map by8) ∧ HashIs wx gs D ∧ Below w.heap.size w wx ∧ w2.heap.size ≤ wx.heap.size)
        (fun _ _ _ _ cr _ => n - (intOf cr).toNat)
      case atStart => exact ⟨0, 0, [], by omega, rfl, Lib.hid rfl, rfl, hown0, hg, hb02, Nat.le_refl _⟩
      case round =>
        clear hown0 hg hb02
        rename_i r0 T0 _ _
        obtain ⟨r, N, D, hr, rfl, HD, hDN, hown, hH, hb, hsz⟩ := hrel
        obtain ⟨A3, c3, rfl⟩ := own_form hown
        have hNt : N ≤ tot L r := by rw [← hDN, HD.out]; exact cat_len p L n (fun r hr => (hP.sl r hr).1) r hr
        have hNn : N ≤ 1000 := by have := tot_mono L r n hr; have := Htot.out; omega
        by_cases hlt : r < n
        · have hNL : N + L r ≤ 1000 := by have h1 := tot_mono L (r + 1) n hlt; have := Htot.out; simp only [tot] at h1; omega
          have HDn : Hid (D ++ p r = cat p (r + 1)) := Lib.hid (by rw [HD.out]; rfl)
          have hnil := hP.nil r hlt
          have Hnil := Lib.hid hnil
          obtain ⟨b, o, hA, hlt2, hc0⟩ := hP.cell r hlt
          have hc : wr.cell? ⟨b, o + r, none⟩ = some (.slice (B r) (L r) (C r)) := (hb.cell (p := ⟨b, o + r, none⟩) hlt2).trans hc0
          subst hA
          have hlr : (r : Int) < (n : Int) := by omega
          have hSx := (hP.sl r hlt).below hb
          clear hnil hlt2 hc0 hNt
          go_wp2_with (refine wp_append_bytes rfl (.const (.slice none 0 0)) (.tmp 35) rfl wr.heap.size (.slice none 0 0) 0 [] rfl (World.ownsRow_nil _ _ _ _) (B r) (L r) (C r) rfl (p r) hSx Hnil.out ?_ (Nat.le_refl _) ?_; omega; intro vi w3 howni hg3)
          have hb23 : Below wr.heap.size wr w3 := (Below.refl _ _).grown hg3 (Nat.le_refl _) (fun k hk => by cases hk)
          rw [Nat.zero_add, List.nil_append] at howni
          obtain ⟨Ai, ci, rfl⟩ := own_form howni
          have hb3 := hb.trans (hb23.mono hb.size)
          have hown3 := own_far2 hown hb23
          have hsz3 := hb23.size
          have hpl : (p r).length = L r := (hP.sl r hlt).1
          have hlen : D.length + (p r).length ≤ 1048576 := by rw [hDN, hpl]; omega
          have hSB : SlB w3 gs Ai (L r) ci (p r) := own_slB howni (by omega)
          have hT3 : Tabs w3 := HT.out.below hb3
          have hH3 : HashIs w3 gs D := hH.below hb23
          refine (write_any gs D (p r) Ai (L r) ci w3 hT3 hg2 hH3 hSB hlen).mono ?_
          rintro e w4 ⟨rfl, hH4, ho4⟩
          have hown4 := own_keep hown3 ho4 hgl
          have howni4 := own_keep howni ho4 (by omega)
          have hb4 := below_only hb3 ho4 hs1 hb3.size
          have hsz4 := ho4.size
          have hrow : ∃ k, (Value.slice A3 N c3).ownBlock = none ∨ (Value.slice A3 N c3).ownBlock = some k ∧ k < wr.heap.size := by
            cases hv : (Value.slice A3 N c3).ownBlock with
            | none => exact ⟨0, .inl rfl⟩
            | some a => exact ⟨a, .inr ⟨rfl, (hown.lt a hv).2⟩⟩
          obtain ⟨B0, hB0⟩ : ∃ B0, B0 = wr.heap.size := ⟨_, rfl⟩
          rw [← hB0] at howni4 hrow hsz hsz3
          clear hB0
          clear hSx hb23 hown3 hown hH hb hc ho4 howni hb3 hg3 hlen hSB hT3 hH3
          go_wp2_with fail
          go_loopw [11, 42] (fun _ cj wy => ∃ (k : Nat) (ys : List UInt8), k ≤ L r ∧ cj = .int .i64 k ∧ ys.length = L r ∧ wy.ownsRow B0 5 1 (.slice Ai (L r) ci) (L r) (ys.map by8) ∧ w4.grownBy wy (Value.slice Ai (L r) ci).ownBlock)
            (fun _ cj _ => L r - (intOf cj).toNat)
          case atStart => exact ⟨0, p r, by omega, rfl, hpl, howni4, World.grownBy.refl _ _⟩
          case round =>
            clear howni4
            obtain ⟨k, ys, hk, rfl, hys, howni, hgy⟩ := hrel
            by_cases hk2 : k < L r
            · obtain ⟨gi, cap, hv, hbi, hlti⟩ := howni.form (by omega)
              have e1 : Ai = some ⟨gi, 0, none⟩ := by injection hv
              have e2 : ci = cap := by injection hv
              subst e1
              subst e2
              obtain ⟨y, hy⟩ : ∃ y, y = ys.getD k 0 := ⟨_, rfl⟩
              have cy : wr.cell? ⟨gi, k, none⟩ = some (.int .u8 (y.toNat : Int)) := by
                rw [howni.cellAt k (by omega), hy]
                simp [List.getD_eq_getElem?_getD, show k < ys.length by omega, by8]
              have fy := howni.frozenAt k
              have dk : (k : Int) < (L r : Int) := by omega
              have hst := howni.stored k (by8 (y + 1))
              have Hst := Lib.hid hst
              clear hst hv hy
              go_wp2_with fail
              try go_region
              try go_wp2_with fail
              go_roundw
              case rel =>
                rw [by8_inc]
                exact ⟨k + 1, ys.set k (y + 1), by omega, by go_num, by simp [hys], by rw [List.map_set]; exact Hst.out.1, grown_trans hgy Hst.out.2⟩
              case measure => simp [intOf]; omega
            · have hai : ∀ k, (Value.slice Ai (L r) ci).ownBlock = some k → B0 ≤ k := fun k hk => (howni.lt k hk).1
              have hH5 : HashIs wr gs (D ++ p r) := hH4.row hgy (by intro e; have := hai gs e.symm; omega)
              have hb5 : Below w.heap.size w wr := Below.grown hb4 hgy hb4.size (fun k hk => by have := hai k hk; omega)
              have hown5 := hown4.kept hgy (by
                rcases hrow with ⟨k, h | ⟨h, hk⟩⟩
                · exact .inl h
                · exact .inr (by rw [h]; intro e; have := hai k e.symm; omega))
              have hsz5 := hgy.size
              have hSy := (hP.sl r hlt).below hb5
              have hkl : ¬ (k : Int) < (L r : Int) := by omega
              have hb05 := hb5.size
              clear hai hH4 hb4 hown4 hgy howni hys hrow hk hk2
              go_wp2_with (refine wp_append_bytes rfl (.tmp 52) (.tmp 53) rfl w2.heap.size (.slice A3 N c3) N (D.map by8) rfl hown5 (B r) (L r) (C r) rfl (p r) hSy Hnil.out ?_ ?_ ?_; omega; omega; intro v6 w6 hown6 hg6)
              have hb6 : Below w.heap.size w w6 := Below.grown hb5 hg6 hb5.size (fun k hk => by have := (hown5.lt k hk).1; omega)
              have hH6 : HashIs w6 gs (D ++ p r) := hH5.row hg6 (by intro e; have := (hown5.lt gs e.symm).1; omega)
              rw [← List.map_append] at hown6
              have hlen6 : (D ++ p r).length = N + L r := by rw [List.length_append, hDN, hpl]
              obtain ⟨A6, c6, rfl⟩ := own_form hown6
              have hsz6 := hg6.size
              generalize D ++ p r = E at *
              clear hSy hown5 hH5 hg6
              have hEl : E.length ≤ 1000000 := by omega
              refine (sum_any gs E w6 (HT.out.below hb6) hH6.lt hH6 hEl).mono ?_
              rintro e w7 ⟨rfl, hb7⟩
              have hH7 := hH6.below hb7
              have hown7 := own_far2 hown6 hb7
              have hb07 := hb6.trans (hb7.mono hb6.size)
              have hsz7 := hb7.size
              clear hb7 hb6 hH6 hown6
              go_wp2_with fail
              refine (of_any E A6 _ c6 w7 (HT.out.below hb07) (own_slA hown7).1 hEl).mono ?_
              rintro e w8 ⟨rfl, hb8⟩
              have hH8 := hH7.below hb8
              have hown8 := own_far2 hown7 hb8
              have hb08 := hb07.trans (hb8.mono hb07.size)
              have hsz8 := hb8.size
              have hne := neq_digest E
              have hm : Tryd.prog.eqGuardType Tryd.prog.depth 24 = false := by kernel_rfl
              clear hb8 hb07 hH7 hown7
              go_wp2_with fail
              go_roundw
              case rel => exact ⟨r + 1, N + L r, E, by omega, by go_num, HDn, hlen6, hown8, hH8, hb08, by omega⟩
              case measure => simp [intOf]; omega
        · have hrn : r = n := by omega
          have hlr : ¬ (r : Int) < (n : Int) := by omega
          have hEl : D.length ≤ 1000000 := by omega
          have heX := eql_digest D
          have hm : Tryd.prog.eqGuardType Tryd.prog.depth 24 = false := by kernel_rfl
          clear hrn hlt hNt hr
          go_wp2_with fail
          refine (sum_any gs D wr (HT.out.below hb) hH.lt hH hEl).mono ?_
          rintro e w7 ⟨rfl, hb7⟩
          have hown7 := own_far2 hown hb7
          have hb07 := hb.trans (hb7.mono hb.size)
          clear hb7 hb hown
          go_wp2_with fail
          refine (ref_any D A3 N c3 w7 (own_slA hown7).1 (own_slA hown7).2 (by omega)).mono ?_
          rintro e w8 ⟨rfl, hb8⟩
          have hb08 := hb07.trans (hb8.mono hb07.size)
          clear hb8 hb07 hown7
          go_wp2_with fail
          go_ret
          exact ⟨rfl, hb08⟩
end Go.Proofs.YtopjdckfphhnnaaDoor
