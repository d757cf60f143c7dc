/-
Layer 9, the reference: the bytes at an address, a tag's value, the tags.
-/
import Derived.Test.YtfdoloonllhodaaJDyA
import Derived.BigQuiet
namespace Go.Proofs.Ytfdoloonllhodaa
open Go Go.RowKit

theorem run_sub (A : Option Addr) (n c p k : Nat) (hp : p + k ≤ n) (hc : n ≤ c) (W : World) : (Instr.sliceAt 22 (.slice A n c) (some (.int .i64 (p : Int))) (some (.int .i64 ((p : Int) + (k : Int)))) none).run Try.prog W = .ok (.slice (if p = c then A else A.map (·.add p)) k (c - p)) W := by
  have h1 : (p : Int) + (k : Int) ≤ (c : Int) := by omega
  have h5 : (p : Int) ≤ (p : Int) + (k : Int) := by omega
  have h6 : ((p : Int) + (k : Int)).toNat - p = k := by omega
  have h7 : (p : Int) + (k : Int) - (p : Int) = (k : Int) := by omega
  by_cases hkc : p = c
  · subst hkc
    obtain rfl : k = 0 := by omega
    cases A with
    | none => go_simp
    | some ad => go_simp
  · rw [if_neg hkc]
    cases A with
    | none => go_simp
    | some ad =>
      go_simp
      exact fun h => absurd h.symm hkc
theorem sub_offc {w : World} {A : Option Addr} {n c a f : Nat} {bs : List UInt8} (h : SlA w A n c bs) (haf : a + f ≤ n) : SlA w (if a = c then A else A.map (·.add a)) f (c - a) ((bs.drop a).take f) := by
  have hl := h.1
  have hcc := h.2.1
  refine ⟨by rw [List.length_take, List.length_drop]; omega, by omega, fun h0 => ?_⟩
  obtain ⟨b, o, rfl, hlt, hc⟩ := h.2.2 (by omega)
  refine ⟨b, o + a, ?_, hlt, fun j hj => ?_⟩
  · rw [if_neg (by omega), Option.map_some, Addr.add_mid]
  · rw [Nat.add_assoc, hc (a + j) (by omega)]
    simp [List.getD_eq_getElem?_getD, hj]
theorem sub_nilc {A : Option Addr} {c a : Nat} (h : A = none → c = 0) : (if a = c then A else A.map (·.add a)) = none → c - a = 0 := by
  intro e
  cases A with
  | none => rw [h rfl]; omega
  | some ad =>
    by_cases hac : a = c
    · omega
    · rw [if_neg hac] at e; cases e
theorem atS' (b o n c j : Nat) (hj : (j : Int) < (n : Int)) (w : World) : (Instr.indexAt 54 (.slice (some ⟨b, o, none⟩) n c) (.int .i64 (j : Int))).run Try.prog w = .ok (.pointer (some ⟨b, o + j * 4, none⟩)) w := by
  have h2 := Addr.add_mid b o (j * 4)
  go_simp
theorem infoSR4 : (Try.prog.info? 66).map (·.size) = some 4 := by kernel_rfl
theorem infoSRz : (Try.prog.info? 66).map (fun i => (i.zero, i.size)) = some (some (.agg (tab 4 (sgR sg0 ⟨none, 0, 0⟩))), 4) := by kernel_rfl
theorem zeroSR (w : World) : (zeroValue 66).run Try.prog w = .ok (.agg (tab 4 (sgR sg0 ⟨none, 0, 0⟩))) w := (zero_of_info infoSRz).1 w
theorem wp_load_sr {w : World} {ops : Array Oper} {rest : List Oper} {op : Oper} {a : Act} {Q : Exit → Act → World → Prop} (hgd : op.guard = none) (x : Operand) (ho : op.op = .load 66 x)
    (b o : Nat) (hx : a.eval x = .pointer (some ⟨b, o, none⟩)) (f : Nat → Value) (hc : w.rangeAt b o ((List.range 4).map f)) (h : wpList Try.prog ops Q rest (a.put op.dst (.agg (tab 4 f))) w) : wpList Try.prog ops Q (op :: rest) a w :=
  wpList_load_mid hgd 66 x ho b o hx _ _ hc Try.underlying66 rfl (by simpa using infoSR4) h
/-- what 'at' answers -/
def AtR (w0 w : World) (r : Option (List UInt8)) (e : Ending) (w' : World) : Prop :=
  (∃ A m k, e = .returned (.tuple #[.slice A m k, .bool r.isSome]) ∧ SlA w0 A m k (r.getD []) ∧ (A = none → k = 0) ∧ k < 9223372036854775808) ∧ Below w.heap.size w w'
set_option maxRecDepth 100000 in
set_option maxHeartbeats 2000000 in
theorem rat_any (ss : List Sg) (s : Sl) (a n : Nat) (w0 w : World) (hT : SlT w0 s ss) (hb0 : Below w0.heap.size w0 w) (hm : ss.length ≤ 5) (ha : a < 1099511627776) (hn : n < 1099511627776) (hd : ∀ g ∈ ss, g.d < 4294967296) (hlb : ∀ g ∈ ss, g.b.length ≤ 100000) :
    Calls Try.prog 21 #[s.v, .int .i64 (a : Int), .int .i64 (n : Int)] w fun e w' => AtR w0 w (adN ss a n) e w' := by
  obtain ⟨As, m, cs, rfl⟩ := s.out
  have hl : ss.length = m := hT.1
  have HL := Lib.hid hl
  have HT := Lib.hid hT
  have HD := Lib.hid hd
  have HLB := Lib.hid hlb
  have hm5 : m ≤ 5 := by omega
  have HB0 := Lib.hid hb0
  clear hl hT hd hlb hm hb0
  rw [show Sl.v ⟨As, m, cs⟩ = .slice As m cs from rfl]
  go_enter Try.func21, Try.ntmps21
  go_wp2_with fail
  go_loopw [8] (fun ct wr => ∃ i : Nat, i ≤ m ∧ ct = .int .i64 (i : Int) ∧ adN (ss.drop i) a n = adN ss a n ∧ Below w.heap.size w wr) (fun ct _ => (m - (intOf ct)).toNat)
  case atStart => exact ⟨0, Nat.zero_le _, rfl, rfl, Below.refl _ _⟩
  case round =>
    obtain ⟨i, hi, rfl, hgo, hb⟩ := hrel
    by_cases hlt : i < m
    · have di : (i : Int) < (m : Int) := by omega
      obtain ⟨hl2, T, hC0, hY⟩ := HT.out
      have hC := hC0.below (HB0.out.trans (hb.mono HB0.out.size))
      obtain ⟨b, o, hA2, hbl, _⟩ := hC.2 (by show 0 < m; omega)
      replace hA2 : As = some ⟨b, o, none⟩ := hA2
      subst hA2
      have hr := hC.range rfl (j := i) hlt
      have ha1 := fun w => atS' b o m cs i di w
      have hdc := drop_cons ss sg0 i (by rw [HL.out]; exact hlt)
      have hmem : ss.getD i sg0 ∈ ss := by rw [List.getD_eq_getElem?_getD, List.getElem?_eq_getElem (by rw [HL.out]; exact hlt)]; exact List.getElem_mem _
      have hd4 := HD.out _ hmem
      have hb5 := HLB.out _ hmem
      obtain ⟨hy, hyn, hyc⟩ := hY i hlt
      change wr.rangeAt b (o + i * 4) ((List.range 4).map (sgR (ss.getD i sg0) (T i))) at hr
      rw [hdc] at hgo
      generalize ss.getD i sg0 = sg at *
      obtain ⟨Ab, nb, cb, hTi⟩ := (T i).out
      rw [hTi] at hr hy hyn hyc
      have hbl2 : sg.b.length = nb := hy.1
      have hnc : nb ≤ cb := hy.2.1
      have hgo2 : (if sg.d ≤ a ∧ a + n ≤ sg.d + nb then some ((sg.b.drop (a - sg.d)).take n) else adN (ss.drop (i + 1)) a n) = adN ss a n := by rw [← hgo, ← hbl2]; rfl
      have HGO := Lib.hid hgo2
      have HY : Hid (SlA w0 Ab nb cb sg.b ∧ (Ab = none → cb = 0) ∧ cb < 9223372036854775808) := Lib.hid ⟨hy, hyn, hyc⟩
      have HB := Lib.hid hb
      have hnb5 : nb ≤ 100000 := by omega
      clear hl2 hC hC0 hY hdc hmem hgo hgo2 hbl hb hy hyn hyc hTi hbl2
      by_cases h1 : sg.d ≤ a
      · have d1 : (sg.d : Int) ≤ (a : Int) := by omega
        by_cases h2 : a + n ≤ sg.d + nb
        · have d2 : (a : Int) + (n : Int) ≤ (sg.d : Int) + (nb : Int) := by omega
          obtain ⟨p, hp⟩ : ∃ p, p = a - sg.d := ⟨_, rfl⟩
          have hpe : (a : Int) - (sg.d : Int) = (p : Int) := by omega
          have hrs := fun W => run_sub Ab nb cb p n (by omega) hnc W
          have hpb : p ≤ 100000 := by omega
          have hnb6 : n ≤ 100000 := by omega
          have HP : Hid (p = a - sg.d ∧ p + n ≤ nb ∧ sg.d ≤ a ∧ a + n ≤ sg.d + nb) := Lib.hid ⟨hp, by omega, h1, h2⟩
          obtain ⟨A', hA'⟩ : ∃ A', A' = (if p = cb then Ab else Ab.map (·.add p)) := ⟨_, rfl⟩
          simp only [← hA'] at hrs
          have HA := Lib.hid hA'
          clear hA' hp h1 h2
          go_wp2_with (first
            | (refine wp_load_sr rfl _ rfl b (o + i * 4) rfl _ hr ?_)
            | (refine wp_fresh 66 4 _ _ _ _ rfl rfl rfl rfl zeroSR infoSR4 (by omega) (sgR_one _ _) rfl rfl ?_
               intro w1 hG hb1 hz1
               have hc0 : w1.cell? ⟨_, 0, none⟩ = some (.int .i64 (sg.d : Int)) := hG.cellTab 0 (by omega)
               have hc3 : w1.cell? ⟨_, 3, none⟩ = some (.slice Ab nb cb) := hG.cellTab 3 (by omega)))
          go_ret2
          have hy := HY.out.1
          refine ⟨⟨A', n, cb - p, by rw [← HGO.out, if_pos HP.out.2.2]; rfl, ?_, ?_, by have := HY.out.2.2; omega⟩, HB.out.trans (hb1.mono HB.out.size)⟩
          · rw [← HGO.out, if_pos HP.out.2.2, HA.out]
            show SlA w0 _ n (cb - p) ((sg.b.drop (a - sg.d)).take n)
            rw [← HP.out.1]
            exact sub_offc hy HP.out.2.1
          · rw [HA.out]
            exact sub_nilc HY.out.2.1
        · have d2 : (sg.d : Int) + (nb : Int) < (a : Int) + (n : Int) := by omega
          have HN : Hid (adN (ss.drop (i + 1)) a n = adN ss a n) := Lib.hid (by rw [← HGO.out, if_neg (fun h => h2 h.2)])
          clear h1 h2
          go_wp2_with (first
            | (refine wp_load_sr rfl _ rfl b (o + i * 4) rfl _ hr ?_)
            | (refine wp_fresh 66 4 _ _ _ _ rfl rfl rfl rfl zeroSR infoSR4 (by omega) (sgR_one _ _) rfl rfl ?_
               intro w1 hG hb1 hz1
               have hc0 : w1.cell? ⟨_, 0, none⟩ = some (.int .i64 (sg.d : Int)) := hG.cellTab 0 (by omega)
               have hc3 : w1.cell? ⟨_, 3, none⟩ = some (.slice Ab nb cb) := hG.cellTab 3 (by omega)))
          go_roundw
          case rel => exact ⟨i + 1, hlt, by go_num, HN.out, HB.out.trans (hb1.mono HB.out.size)⟩
          case measure => simp [intOf] <;> omega
      · have d1 : (a : Int) < (sg.d : Int) := by omega
        have HN : Hid (adN (ss.drop (i + 1)) a n = adN ss a n) := Lib.hid (by rw [← HGO.out, if_neg (fun h => h1 h.1)])
        clear h1
        go_wp2_with (first
          | (refine wp_load_sr rfl _ rfl b (o + i * 4) rfl _ hr ?_)
          | (refine wp_fresh 66 4 _ _ _ _ rfl rfl rfl rfl zeroSR infoSR4 (by omega) (sgR_one _ _) rfl rfl ?_
             intro w1 hG hb1 hz1
             have hc0 : w1.cell? ⟨_, 0, none⟩ = some (.int .i64 (sg.d : Int)) := hG.cellTab 0 (by omega)))
        go_roundw
        case rel => exact ⟨i + 1, hlt, by go_num, HN.out, HB.out.trans (hb1.mono HB.out.size)⟩
        case measure => simp [intOf] <;> omega
    · obtain rfl : i = m := by omega
      rw [List.drop_of_length_le (by rw [HL.out]; exact Nat.le_refl _)] at hgo
      have hN : adN ss a n = none := hgo.symm
      have HN := Lib.hid hN
      clear hgo hN
      go_wp2_with fail
      go_ret2
      exact ⟨⟨none, 0, 0, by rw [HN.out]; rfl, by rw [HN.out]; exact nil_slA _, fun _ => rfl, by decide⟩, hb⟩
/-- tags and their values in memory -/
def SlP2 (w : World) (s : Sl) (l : List (Nat × Nat)) : Prop := l.length = s.n ∧ SlC w s 2 fun j i => prR (l.getD j (0, 0)) i
theorem SlP2.below {w w' : World} {s : Sl} {l : List (Nat × Nat)} (h : SlP2 w s l) (k : Below w.heap.size w w') : SlP2 w' s l := ⟨h.1, h.2.below k⟩
theorem atP' (b o n c j : Nat) (hj : (j : Int) < (n : Int)) (w : World) : (Instr.indexAt 84 (.slice (some ⟨b, o, none⟩) n c) (.int .i64 (j : Int))).run Try.prog w = .ok (.pointer (some ⟨b, o + j * 2, none⟩)) w := by
  have h2 := Addr.add_mid b o (j * 2)
  go_simp
set_option maxRecDepth 100000 in
set_option maxHeartbeats 2000000 in
theorem rval_any (l : List (Nat × Nat)) (s : Sl) (t : Nat) (w : World) (hP : SlP2 w s l) (hm : l.length ≤ 100000) :
    Calls Try.prog 23 #[s.v, .int .i64 (t : Int)] w fun e w' => e = .returned (.tuple #[.int .i64 (((valN l t).getD 0 : Nat) : Int), .bool (valN l t).isSome]) ∧ w = w' := by
  obtain ⟨As, m, cs, rfl⟩ := s.out
  have hl : l.length = m := hP.1
  have HL := Lib.hid hl
  have HP := Lib.hid hP.2
  have hm5 : m ≤ 100000 := by omega
  clear hl hP hm
  rw [show Sl.v ⟨As, m, cs⟩ = .slice As m cs from rfl]
  go_enter Try.func23, Try.ntmps23
  go_wp2_with fail
  go_loopw [6] (fun ct wr => ∃ i : Nat, i ≤ m ∧ ct = .int .i64 (i : Int) ∧ valN (l.drop i) t = valN l t ∧ w = wr) (fun ct _ => (m - (intOf ct)).toNat)
  case atStart => exact ⟨0, Nat.zero_le _, rfl, rfl, rfl⟩
  case round =>
    obtain ⟨i, hi, rfl, hgo, rfl⟩ := hrel
    by_cases hlt : i < m
    · have di : (i : Int) < (m : Int) := by omega
      obtain ⟨b, o, hA2, hbl, hcl⟩ := HP.out.2 (by show 0 < m; omega)
      replace hA2 : As = some ⟨b, o, none⟩ := hA2
      subst hA2
      have ha1 := fun w => atP' b o m cs i di w
      have hdc := drop_cons l (0, 0) i (by rw [HL.out]; exact hlt)
      have d0 : w.cell? ⟨b, o + i * 2, none⟩ = some (prR (l.getD i (0, 0)) 0) := hcl i 0 hlt (by decide)
      have d1 : w.cell? ⟨b, o + i * 2 + 1, none⟩ = some (prR (l.getD i (0, 0)) 1) := hcl i 1 hlt (by decide)
      rw [hdc] at hgo
      generalize l.getD i (0, 0) = p at *
      obtain ⟨x, y⟩ := p
      replace d0 : w.cell? ⟨b, o + i * 2, none⟩ = some (.int .i64 (x : Int)) := d0
      replace d1 : w.cell? ⟨b, o + i * 2 + 1, none⟩ = some (.int .i64 (y : Int)) := d1
      have hgo2 : (if x = t then some y else valN (l.drop (i + 1)) t) = valN l t := hgo
      have HGO := Lib.hid hgo2
      clear hdc hgo hgo2 hcl hbl
      by_cases h1 : x = t
      · have e1 : ((x : Int) == (t : Int)) = true := by simp [h1]
        have HR : Hid (valN l t = some y) := Lib.hid (by rw [← HGO.out, if_pos h1])
        clear h1
        go_wp2_with fail
        go_ret2
        exact ⟨by rw [HR.out]; rfl, rfl⟩
      · have e1 : ((x : Int) == (t : Int)) = false := by simp; omega
        have HR : Hid (valN (l.drop (i + 1)) t = valN l t) := Lib.hid (by rw [← HGO.out, if_neg h1])
        clear h1
        go_wp2_with fail
        go_roundw
        case rel => exact ⟨i + 1, hlt, by go_num, HR.out, by trivial⟩
        case measure => simp [intOf] <;> omega
    · obtain rfl : i = m := by omega
      rw [List.drop_of_length_le (by rw [HL.out]; exact Nat.le_refl _)] at hgo
      have hN : valN l t = none := hgo.symm
      have HN := Lib.hid hN
      clear hgo hN
      go_wp2_with fail
      go_ret2
      exact ⟨by rw [HN.out]; rfl, rfl⟩
end Go.Proofs.Ytfdoloonllhodaa
