/-
Layer 10, PlaceLoads: place.Load.
-/
import Derived.Test.YtdifapdppdcidaaJPn
namespace Go.Proofs.Ytdifapdppdcidaa
open Go Go.RowKit

/-- a segment fits its span -/
def fitB (x : Sx) (sp : Gr) : Bool := decide (sp.z = x.z) && decide (x.b.length ≤ x.z) && inR sp.s sp.z
def okB (xs : List Sx) (sps : List Gr) : Nat → Bool
  | 0 => true
  | i + 1 => okB xs sps i && fitB (xs.getD i sx0) (sps.getD i gr0)
/-- memory after the first i segments -/
def ldS (M : Nat → UInt8) (xs : List Sx) (sps : List Gr) : Nat → Nat → UInt8
  | 0 => M
  | i + 1 => putM (ldS M xs sps i) ((sps.getD i gr0).s - 2147483648) (padZ (xs.getD i sx0).b (xs.getD i sx0).z)
theorem okB_le (xs : List Sx) (sps : List Gr) : ∀ {i j : Nat}, i ≤ j → okB xs sps j = true → okB xs sps i = true
  | i, 0, h, hj => by rw [show i = 0 by omega]; rfl
  | i, j + 1, h, hj => by
    by_cases e : i = j + 1
    · rw [e]; exact hj
    · exact okB_le xs sps (show i ≤ j by omega) (Bool.and_eq_true_iff.1 hj).1
theorem okB_fit {xs : List Sx} {sps : List Gr} {i n : Nat} (h : okB xs sps n = true) (hi : i < n) : fitB (xs.getD i sx0) (sps.getD i gr0) = true :=
  (Bool.and_eq_true_iff.1 (okB_le xs sps (show i + 1 ≤ n by omega) h)).2
/-- an element is put into a fresh block, with an assignment between -/
theorem wp_fresh3 {P : Program} {w : World} {ops : Array Oper} {rest : List Oper} {o1 o3 o2 : Oper} {a : Act} {Q : Exit → Act → World → Prop} (ty : TypeId) (n : Nat) (v z : Nat → Value) (x y u : Operand) (U : Value)
    (hg1 : o1.guard = none) (h1 : o1.op = .alloc ty) (hg3 : o3.guard = none) (h3 : o3.op = .assign u) (hg2 : o2.guard = none) (h2 : o2.op = .store ty x y)
    (hz : ∀ w, (zeroValue ty).run P w = .ok (.agg (tab n z)) w) (hi : (P.info? ty).map (·.size) = some n) (h1v : ∀ j, (v j).oneCell' = true)
    (hu : (a.put o1.dst (.pointer (some ⟨w.heap.size, 0, none⟩))).eval u = U)
    (hx : ((a.put o1.dst (.pointer (some ⟨w.heap.size, 0, none⟩))).put o3.dst U).eval x = .pointer (some ⟨w.heap.size, 0, none⟩)) (hy : ((a.put o1.dst (.pointer (some ⟨w.heap.size, 0, none⟩))).put o3.dst U).eval y = .agg (tab n v))
    (h : ∀ w', Has w' w.heap.size ty (tab n v) → Below w.heap.size w w' → w.heap.size < w'.heap.size → wpList P ops Q rest (((a.put o1.dst (.pointer (some ⟨w.heap.size, 0, none⟩))).put o3.dst U).put o2.dst undef) w') : wpList P ops Q (o1 :: o3 :: o2 :: rest) a w := by
  refine wpList_plain hg1 fun K hK => ?_
  unfold Oper.wp execOp
  simp only [h1, Instr.alloc, Sem.run_bind, hz, Result.andThen_ok]
  have hnv : (newVar ty (.agg (tab n z))).run P w = .ok ⟨w.heap.size, 0, none⟩ (w.alloc (.cells (tab n z) ty)) := by
    go_simp
  simp only [hnv, Result.andThen_ok, Sem.run_pure]
  refine hK _ _ ?_
  refine wpList_plain hg3 fun K3 hK3 => ?_
  unfold Oper.wp execOp
  simp only [h3, Sem.run_pure, hu]
  refine hK3 _ _ ?_
  refine wp_store_tab hg2 ty x y h2 w.heap.size 0 hx n v hy n z ty (Has.new _ _ _) hi (by omega) h1v ?_
  intro w' hh hg
  have e : (tab n fun j => if 0 ≤ j ∧ j < 0 + n then v (j - 0) else z j) = tab n v := tab_ext _ _ _ fun j hj => by rw [if_pos ⟨Nat.zero_le _, by omega⟩]; rfl
  rw [e] at hh
  have hb1 : Below w.heap.size w (w.alloc (.cells (tab n z) ty)) := (Below.refl _ _).alloc (Nat.le_refl _) _
  have hb2 := hb1.trans (below_of_only hg (Nat.le_refl _) (by simp))
  exact h w' hh hb2 hh.lt
/-- the cells of a file that has only segments -/
def filC (A : Option Addr) (n c : Nat) : Array Value := #[.int .u32 0, .slice A n c, .slice none 0 0, .slice none 0 0]
theorem infoSpz : (Try.prog.info? 58).map (fun i => (i.zero, i.size, i.bytes)) = some (some (.agg (tab 3 (grV gr0))), 3, 16) := by kernel_rfl
theorem infoSp3 : (Try.prog.info? 58).map (·.size) = some 3 := by kernel_rfl
theorem infoSXt (x : Sx) (t : Sl) : (Try.prog.info? 55).map (·.size) = some (tab 4 (sxV x t)).size := by rw [tab_size]; exact infoSE4
theorem spans_at {w : World} {base n c i : Nat} {A : Option Addr} {sps : List Gr} (h : w.ownsRow base 58 3 (.slice A n c) n (cellsL 3 grV sps)) (hn : n ≤ 140737488355328) (hi : i < n) : ∃ b o, A = some ⟨b, o, none⟩ ∧ w.rangeAt b (o + i * 3) ((List.range 3).map (grV (sps.getD i gr0))) ∧ b < w.heap.size := by
  obtain ⟨hl, hC⟩ := own_slC h (by decide) hn gr0
  obtain ⟨b, o, e, hlt, _⟩ := hC.2 (by show 0 < n; omega)
  exact ⟨b, o, e, hC.range e (j := i) hi, hlt⟩
theorem at_sp' (b o n c j : Nat) (hj : (j : Int) < (n : Int)) (w : World) : (Instr.indexAt 56 (.slice (some ⟨b, o, none⟩) n c) (.int .i64 (j : Int))).run Try.prog w = .ok (.pointer (some ⟨b, o + j * 3, none⟩)) w := by
  have h2 := Addr.add_mid b o (j * 3)
  go_simp
section
variable {w : World} {ops : Array Oper} {rest : List Oper} {op : Oper} {a : Act}
theorem wpQ_load_sp {C : World → Prop} {L : Act → Prop} (hw : Region.wanted op (yielded ops a.tmps) = true) (p : Operand) (ho : op.op = .load 58 p) (b o : Nat) (hp : a.eval p = .pointer (some ⟨b, o, none⟩)) (x : Gr) (hc : ∀ w', C w' → w'.rangeAt b o ((List.range 3).map (grV x)))
    (h : wpQuiet Try.prog ops C L rest (a.put op.dst (.agg (tab 3 (grV x))))) : wpQuiet Try.prog ops C L (op :: rest) a :=
  wpQ_load 58 p ho hw _ hp (.agg (tab 3 (grV x))) (fun w' hC => run_loadAt_mid w' b o 58 ((List.range 3).map (grV x)) _ (hc w' hC) Try.underlying58 rfl (by simpa using infoSp3)) h
end
theorem seg_load {w : World} {gs : Nat} {f : Nat → Value} (hG : Has w gs 55 (tab 4 f)) : (Instr.loadAt 55 (.pointer (some ⟨gs, 0, none⟩))).run Try.prog w = .ok (.agg (tab 4 f)) w := by
  have hr : w.rangeAt gs 0 ((List.range 4).map f) := by
    have := hG.range 0 4 (by omega)
    simpa using this
  exact run_loadAt_mid w gs 0 55 ((List.range 4).map f) _ hr Try.underlying55 rfl (by simpa using infoSE4)
theorem rangeAfter {w w' : World} {b o : Nat} {l : List Value} (h : w.rangeAt b o l) (hb : b < w.heap.size) (k : Below w.heap.size w w') : w'.rangeAt b o l := fun j v hv => (k.cell (p := ⟨b, o + j, none⟩) hb).trans (h j v hv)
set_option maxRecDepth 100000 in
set_option maxHeartbeats 2000000 in
theorem pload_any (M : Nat → UInt8) (g : Nat) (xs : List Sx) (T : Nat → Sl) (sps : List Gr) (A B : Option Addr) (n c k d base : Nat) (w0 w : World) (hX : SlX w0 ⟨A, n, c⟩ xs T) (hb0 : Below w0.heap.size w0 w) (hgB : w0.heap.size ≤ g) (hG : RamP w g M)
    (hSp : w.ownsRow base 58 3 (.slice B k d) k (cellsL 3 grV sps)) (hk48 : k ≤ 140737488355328) (hwf : ∀ j, j < k → (sps.getD j gr0).s < 4294967296 ∧ (sps.getD j gr0).z < 4294967296) :
    Calls Try.prog 22 #[mP g, .agg (filC A n c), .slice B k d] w fun e w' => e = .returned (.int .i64 (if k = n then (if okB xs sps n = true then 0 else 18) else 1)) ∧ RamP w' g (if k = n then (if okB xs sps n = true then ldS M xs sps n else M) else M) ∧ w.grownBy w' (some g) := by
  have hn48 : n ≤ 140737488355328 := hX.2.1.1.2
  have hF : Has (w.alloc (.cells (filC A n c) 63)) w.heap.size 63 (filC A n c) := Has.new _ _ _
  have hbu : Below w.heap.size w (w.alloc (.cells (filC A n c) 63)) := (Below.refl _ _).alloc (Nat.le_refl _) _
  have hc1 : (w.alloc (.cells (filC A n c) 63)).cell? ⟨w.heap.size, 1, none⟩ = some (.slice A n c) := hF.cell 1
  by_cases hkn : k = n
  · rw [if_pos hkn, if_pos hkn]
    subst hkn
    generalize hEV : (if okB xs sps k = true then (0 : Int) else 18) = ev
    generalize hMV : (if okB xs sps k = true then ldS M xs sps k else M) = M'
    have HEV := Lib.hid hEV
    have HMV := Lib.hid hMV
    have HX := Lib.hid hX
    clear hEV hMV hX
    go_enter Try.func22, Try.ntmps22
    go_upto_region 1 with fail
    have hG1 := hG.after hbu
    have hSp1 := own_after hSp hbu
    have hb1 := hb0.trans (hbu.mono hb0.size)
    generalize w.alloc (.cells (filC A k c) 63) = u at *
    have HGF := Lib.hid (rfl : w.heap.size = w.heap.size)
    obtain ⟨gf, hgf⟩ : ∃ x, x = w.heap.size := ⟨_, rfl⟩
    rw [← hgf] at hF hc1 ⊢
    clear hgf HGF
    go_wp2_with fail
    go_loopw [20] (fun ct wr => ∃ i : Nat, i ≤ k ∧ ct = .int .i64 (i : Int) ∧ okB xs sps i = true ∧ Below u.heap.size u wr) (fun ct _ => (k - (intOf ct)).toNat)
    case atStart => exact ⟨0, Nat.zero_le _, rfl, rfl, Below.refl _ _⟩
    case round =>
      obtain ⟨i, hi, rfl, hok, hb⟩ := hrel
      by_cases hlt : i < k
      · have di : (i : Int) < (k : Int) := by omega
        have hb2 := hb1.trans (hb.mono hb1.size)
        obtain ⟨hl1, hC1, hY1⟩ := HX.out.below hb2
        obtain ⟨b, o, hA2, hbl, _⟩ := hC1.2 (by show 0 < k; omega)
        replace hA2 : A = some ⟨b, o, none⟩ := hA2
        subst hA2
        have hr := hC1.range rfl (j := i) hlt
        have ha1 := fun w => at_sx' b o k c i di w
        obtain ⟨hy, hyn, hwx⟩ := hY1 i hlt
        change wr.rangeAt b (o + i * 4) ((List.range 4).map (sxV (xs.getD i sx0) (T i))) at hr
        obtain ⟨Ab, nb, cb, hTi⟩ := (T i).out
        rw [hTi] at hr hy hyn
        have hlb : (xs.getD i sx0).b.length = nb := hy.1
        have hws := hb.size
        go_upto_region 6 with (first
          | (refine wp_load_se rfl _ rfl b (o + i * 4) rfl _ hr ?_)
          | (refine wp_fresh3 55 4 _ _ _ _ _ _ rfl rfl rfl rfl rfl rfl zeroSx infoSE4 (sxV_one _ _) rfl rfl rfl ?_
             intro w2 hGs hb3 hz3))
        have hSp2 := own_after (own_after hSp1 hb) hb3
        obtain ⟨bs, os, hB2, hrs, hbs⟩ := spans_at hSp2 hk48 hlt
        subst hB2
        have ha2 := fun w => at_sp' bs os k d i di w
        have hwi := hwf i hlt
        have kF := fun W => fits_any g (xs.getD i sx0) Ab nb cb (sps.getD i gr0) W hlb hwx hwi.1 hwi.2
        change ∀ W, Calls _ _ _ W fun e w' => e = .returned (.bool (fitB (xs.getD i sx0) (sps.getD i gr0))) ∧ Below W.heap.size W w' at kF
        have HOK : Hid (okB xs sps (i + 1) = (okB xs sps i && fitB (xs.getD i sx0) (sps.getD i gr0))) := Lib.hid rfl
        have HFI : Hid (okB xs sps k = true → fitB (xs.getD i sx0) (sps.getD i gr0) = true) := Lib.hid fun h => okB_fit h hlt
        have HB := Lib.hid hb
        have HB3 := Lib.hid hb3
        have HS := Lib.hid hws
        have hgsl := hGs.lt
        obtain ⟨gs, hgs⟩ : ∃ x, x = wr.heap.size := ⟨_, rfl⟩
        rw [← hgs] at hGs hgsl ⊢
        generalize xs.getD i sx0 = x at *
        generalize sps.getD i gr0 = sp at *
        clear hgs hb hb3 hz3 hws hl1 hC1 hY1 hbl hr ha1 hy hyn hwx hTi hlb hSp2 hwi hc1 hb2
        refine region_quiet_tail (Below w2.heap.size w2) 6 (by kernel_rfl) (by kernel_rfl) (below_drewN (Below.refl _ _) 1) ?_
        simp only [List.take_succ_cons, List.take_zero, List.drop_succ_cons, List.drop_zero]
        refine wpQ_move _ rfl rfl (mP g) rfl ?_
        simp only [Act.put, List.setIfInBounds_toArray, List.set_cons_zero, List.set_cons_succ]
        refine wpQ_has 55 _ rfl _ rfl rfl 55 _ (fun w' hC => hGs.after hC) _ Try.underlying55 rfl (infoSXt _ _) ?_
        simp only [Act.put, List.setIfInBounds_toArray, List.set_cons_zero, List.set_cons_succ]
        refine wpQ_move _ rfl rfl (.slice (some ⟨bs, os, none⟩) k d) rfl ?_
        simp only [Act.put, List.setIfInBounds_toArray, List.set_cons_zero, List.set_cons_succ]
        refine wpQ_move _ rfl rfl (.int .i64 (i : Int)) rfl ?_
        simp only [Act.put, List.setIfInBounds_toArray, List.set_cons_zero, List.set_cons_succ]
        refine wpQ_indexAddr _ _ _ rfl rfl _ _ rfl rfl (.pointer (some ⟨bs, os + i * 3, none⟩)) (fun w' _ => ha2 w') ?_
        simp only [Act.put, List.setIfInBounds_toArray, List.set_cons_zero, List.set_cons_succ]
        refine wpQ_load_sp rfl _ rfl bs (os + i * 3) rfl sp (fun w' hC => rangeAfter hrs hbs hC) ?_
        simp only [Act.put, List.setIfInBounds_toArray, List.set_cons_zero, List.set_cons_succ]
        refine wpQuiet_nil ?_
        intro w3 hC
        cases hft : fitB x sp with
        | false =>
          rw [hft] at kF
          have hne : okB xs sps k = false := by
            cases h : okB xs sps k with
            | false => rfl
            | true => have := HFI.out h; rw [hft] at this; cases this
          go_wp2_with (refine (kF _).mono ?_; rintro e w4 ⟨rfl, hb5⟩)
          go_ret
          have hbw : Below w.heap.size w w4 := (hbu.trans (HB.out.mono hbu.size)).trans ((HB3.out.mono (Nat.le_trans hbu.size HS.out)).trans ((hC.mono (Nat.le_trans (Nat.le_trans hbu.size HS.out) HB3.out.size)).trans (hb5.mono (Nat.le_trans (Nat.le_trans (Nat.le_trans hbu.size HS.out) HB3.out.size) hC.size))))
          exact ⟨by rw [← HEV.out, hne]; rfl, by rw [← HMV.out, hne]; exact hG.after hbw, only_below hbw _⟩
        | true =>
          rw [hft] at kF
          go_wp2_with (refine (kF _).mono ?_; rintro e w4 ⟨rfl, hb5⟩)
          go_roundw
          case rel => exact ⟨i + 1, hlt, by go_num, by rw [HOK.out, hok, hft]; rfl, HB.out.trans ((HB3.out.mono HS.out).trans ((hC.mono (Nat.le_trans HS.out HB3.out.size)).trans (hb5.mono (Nat.le_trans (Nat.le_trans HS.out HB3.out.size) hC.size))))⟩
          case measure => simp [intOf] <;> omega
      · obtain rfl : i = k := by omega
        have hokk := hok
        clear hok
        have hG2 := hG1.after hb
        have hSp2 := own_after hSp1 hb
        have hb2 := hb1.trans (hb.mono hb1.size)
        have hcc := hF.after hb
        have hc2 : wr.cell? ⟨gf, 1, none⟩ = some (.slice A i c) := hcc.cell 1
        have HBU := Lib.hid (hbu.trans (hb.mono hbu.size))
        have HE0 : Hid (ev = 0) := Lib.hid (by rw [← HEV.out, hokk]; rfl)
        have HM0 : Hid (M' = ldS M xs sps i) := Lib.hid (by rw [← HMV.out, hokk]; rfl)
        clear hb hc1 hF hcc hG1 hSp1 hb1 HEV HMV
        generalize wr = u2 at *
        go_wp2_with fail
        go_loopw [37] (fun ct wr => ∃ j : Nat, j ≤ i ∧ ct = .int .i64 (j : Int) ∧ RamP wr g (ldS M xs sps j) ∧ u2.grownBy wr (some g)) (fun ct _ => (i - (intOf ct)).toNat)
        case atStart => exact ⟨0, Nat.zero_le _, rfl, hG2, World.grownBy.refl _ _⟩
        case round =>
          obtain ⟨j, hj, rfl, hGj, hgr⟩ := hrel
          by_cases hlt2 : j < i
          · have di : (j : Int) < (i : Int) := by omega
            have hb3 := below_only hb2 hgr hgB hb2.size
            obtain ⟨hl1, hC1, hY1⟩ := HX.out.below hb3
            obtain ⟨b, o, hA2, hbl, _⟩ := hC1.2 (by show 0 < i; omega)
            replace hA2 : A = some ⟨b, o, none⟩ := hA2
            subst hA2
            have hr := hC1.range rfl (j := j) hlt2
            have ha1 := fun w => at_sx' b o i c j di w
            obtain ⟨hy, hyn, hwx⟩ := hY1 j hlt2
            change wr.rangeAt b (o + j * 4) ((List.range 4).map (sxV (xs.getD j sx0) (T j))) at hr
            obtain ⟨Ab, nb, cb, hTi⟩ := (T j).out
            rw [hTi] at hr hy hyn
            have hlb : (xs.getD j sx0).b.length = nb := hy.1
            obtain ⟨N, hN, hGN⟩ := hG2
            have hSp3 := own_other hSp2 hGN (by decide) hgr
            obtain ⟨N2, hN2, hGN2⟩ := hGj
            have hGj : RamP wr g (ldS M xs sps j) := ⟨N2, hN2, hGN2⟩
            go_upto_region 12 with (first
              | (refine wp_load_se rfl _ rfl b (o + j * 4) rfl _ hr ?_)
              | (refine wp_fresh3 55 4 _ _ _ _ _ _ rfl rfl rfl rfl rfl rfl zeroSx infoSE4 (sxV_one _ _) rfl rfl rfl ?_
                 intro w2 hGs hb4 hz3))
            have hSp4 := own_after hSp3 hb4
            obtain ⟨bs, os, hB2, hrs, hbs⟩ := spans_at hSp4 hk48 hlt2
            subst hB2
            have ha2 := fun w => at_sp' bs os i d j di w
            have hbg : g ≠ bs := own_has hSp3 hGN2 (by decide) bs rfl
            have hwi := hwf j hlt2
            have hft := okB_fit hokk hlt2
            obtain ⟨hf12, hf3⟩ := Bool.and_eq_true_iff.1 hft
            obtain ⟨hf1, hf2⟩ := Bool.and_eq_true_iff.1 hf12
            have hf1 := of_decide_eq_true hf1
            have hf2 := of_decide_eq_true hf2
            have hf4 := of_decide_eq_true hf3
            have HLD : Hid (ldS M xs sps (j + 1) = putM (ldS M xs sps j) ((sps.getD j gr0).s - 2147483648) (padZ (xs.getD j sx0).b (xs.getD j sx0).z)) := Lib.hid rfl
            have hG5 := hGj.after hb4
            have hy5 := hy.below (hb4)
            have hgsl := hGs.lt
            obtain ⟨gs, hgs⟩ : ∃ x, x = wr.heap.size := ⟨_, rfl⟩
            have hggl := hGj.lt
            rw [← hgs] at hGs hgsl hggl ⊢
            have HGR := Lib.hid (only_trans hgr (only_below hb4 (some g)))
            generalize xs.getD j sx0 = x at *
            generalize sps.getD j gr0 = sp at *
            generalize ldS M xs sps j = Mj at *
            clear hgs hb4 hz3 hl1 hC1 hY1 hbl hr ha1 hy hyn hwx hTi hSp3 hSp4 hc2 hb3 hgr hf12 hft hGN hGj hSp2 hGN2
            have c0 : w2.cell? ⟨bs, os + j * 3, none⟩ = some (.int .u32 (sp.s : Int)) := hrs 0 _ rfl
            have hzz : x.z ≤ 65536 := by omega
            have hnz : nb ≤ x.z := by omega
            have hinr : inR sp.s x.z = true := by rw [← hf1]; exact hf3
            have hsp4 := hwi.1
            clear hrs hwi hf1 hf2 hf3 hf4 hlb
            refine region_chain (fun w' => (w'.cell? ⟨bs, os + j * 3, none⟩ = some (.int .u32 (sp.s : Int)) ∧ Has w' gs 55 (tab 4 (sxV x ⟨Ab, nb, cb⟩)))) [(0, .pointer (some ⟨g, 0, none⟩)), (1, .slice (some ⟨bs, os, none⟩) i d), (2, .int .i64 (j : Int)), (3, .pointer (some ⟨bs, os + j * 3, none⟩)), (4, .pointer (some ⟨bs, os + j * 3, none⟩)), (5, .int .u32 (sp.s : Int)), (6, .agg (tab 4 (sxV x ⟨Ab, nb, cb⟩)))] [(7, fun xs w' => (∃ A' c', (xs.getD 0 undef) = .slice A' x.z c' ∧ SlA w' A' x.z c' (padZ x.b x.z)) ∧ (w'.cell? ⟨bs, os + j * 3, none⟩ = some (.int .u32 (sp.s : Int)) ∧ Has w' gs 55 (tab 4 (sxV x ⟨Ab, nb, cb⟩))) ∧ RamP w' g Mj ∧ Below w2.heap.size w2 w'), (8, fun xs w' => (xs.getD 1 undef) = .int .i64 0 ∧ (w'.cell? ⟨bs, os + j * 3, none⟩ = some (.int .u32 (sp.s : Int)) ∧ Has w' gs 55 (tab 4 (sxV x ⟨Ab, nb, cb⟩))) ∧ RamP w' g (putM Mj (sp.s - 2147483648) (padZ x.b x.z)) ∧ w2.grownBy w' (some g))] (fun w' => (w'.cell? ⟨bs, os + j * 3, none⟩ = some (.int .u32 (sp.s : Int)) ∧ Has w' gs 55 (tab 4 (sxV x ⟨Ab, nb, cb⟩))) ∧ RamP w' g Mj ∧ Below w2.heap.size w2 w') 52 (by kernel_rfl) rfl (by kernel_rfl) (by kernel_rfl) ?_ ?_ ?_ ?_ ?_ ?_
            · intro w' hb he
              exact ⟨⟨(hb.cell (p := ⟨bs, os + j * 3, none⟩) hbs).trans c0, hGs.after hb⟩, hG5.after hb, hb⟩
            · exact fun w' h => h.1
            · simp only [List.forall_mem_cons, List.not_mem_nil, false_implies, implies_true, and_true]
              refine ⟨?_, ?_⟩
              · exact fun xs w' h => h.2.1
              · exact fun xs w' h => h.2.1
            · simp only [List.forall_mem_cons, List.not_mem_nil, false_implies, implies_true, and_true]
              refine ⟨?_, ?_, ?_, ?_, ?_, ?_, ?_⟩
              · refine qu_of rfl ?_
                intro v w' A hA hC hd hl K hK
                exact pure_step (.pointer (some ⟨g, 0, none⟩)) (fun ρ hρ => by
                    have e0 : ρ (.tmp 0) = .pointer (some ⟨g, 0, none⟩) := by rw [hρ]; exact hA.2 0 (by simp)
                    clear hρ hA hl hK hd hC
                    go_simp) hK
              · refine qu_of rfl ?_
                intro v w' A hA hC hd hl K hK
                exact pure_step (.slice (some ⟨bs, os, none⟩) i d) (fun ρ hρ => by
                    have e2 : ρ (.tmp 2) = .slice (some ⟨bs, os, none⟩) i d := by rw [hρ]; exact hA.2 2 (by simp)
                    clear hρ hA hl hK hd hC
                    go_simp) hK
              · refine qu_of rfl ?_
                intro v w' A hA hC hd hl K hK
                exact pure_step (.int .i64 (j : Int)) (fun ρ hρ => by
                    have e9 : ρ (.tmp 9) = .int .i64 (j : Int) := by rw [hρ]; exact hA.2 9 (by simp)
                    clear hρ hA hl hK hd hC
                    go_simp) hK
              · refine qu_of rfl ?_
                intro v w' A hA hC hd hl K hK
                exact pure_step (.pointer (some ⟨bs, os + j * 3, none⟩)) (fun ρ hρ => by
                    have e43 : ρ (.tmp 43) = .slice (some ⟨bs, os, none⟩) i d := by rw [hρ]; exact (hA.1 1 _ 43 rfl rfl).trans (hd (1, .slice (some ⟨bs, os, none⟩) i d) (.tail _ (.head _)) ⟨⟨1, .data⟩, by simp, rfl, rfl⟩)
                    have e44 : ρ (.tmp 44) = .int .i64 (j : Int) := by rw [hρ]; exact (hA.1 2 _ 44 rfl rfl).trans (hd (2, .int .i64 (j : Int)) (.tail _ (.tail _ (.head _))) ⟨⟨2, .data⟩, by simp, rfl, rfl⟩)
                    clear hρ hA hl hK hd hC
                    have hx := ha2 w'
                    go_simp) hK
              · refine qu_of rfl ?_
                intro v w' A hA hC hd hl K hK
                exact pure_step (.pointer (some ⟨bs, os + j * 3, none⟩)) (fun ρ hρ => by
                    have e45 : ρ (.tmp 45) = .pointer (some ⟨bs, os + j * 3, none⟩) := by rw [hρ]; exact (hA.1 3 _ 45 rfl rfl).trans (hd (3, .pointer (some ⟨bs, os + j * 3, none⟩)) (.tail _ (.tail _ (.tail _ (.head _)))) ⟨⟨3, .data⟩, by simp, rfl, rfl⟩)
                    clear hρ hA hl hK hd hC
                    go_simp) hK
              · refine qu_of rfl ?_
                intro v w' A hA hC hd hl K hK
                have hcell := hC.1
                exact pure_step (.int .u32 (sp.s : Int)) (fun ρ hρ => by
                    have e46 : ρ (.tmp 46) = .pointer (some ⟨bs, os + j * 3, none⟩) := by rw [hρ]; exact (hA.1 4 _ 46 rfl rfl).trans (hd (4, .pointer (some ⟨bs, os + j * 3, none⟩)) (.tail _ (.tail _ (.tail _ (.tail _ (.head _))))) ⟨⟨4, .data⟩, by simp, rfl, rfl⟩)
                    clear hρ hA hl hK hd hC
                    go_simp) hK
              · refine qu_of rfl ?_
                intro v w' A hA hC hd hl K hK
                have hld := seg_load hC.2
                exact pure_step (.agg (tab 4 (sxV x ⟨Ab, nb, cb⟩))) (fun ρ hρ => by
                    have e10 : ρ (.tmp 10) = .pointer (some ⟨gs, 0, none⟩) := by rw [hρ]; exact hA.2 10 (by simp)
                    clear hρ hA hl hK hd hC
                    simp only [execOp, e10]
                    rw [Sem.run_bind, hld]
                    rfl) hK
            · refine ⟨qu_of rfl ?_, fun x7 => ⟨qu_of rfl ?_, fun x8 => trivial⟩⟩
              · intro v w' A hA hS hacc hd hl K hK
                replace hS : (w'.cell? ⟨bs, os + j * 3, none⟩ = some (.int .u32 (sp.s : Int)) ∧ Has w' gs 55 (tab 4 (sxV x ⟨Ab, nb, cb⟩))) ∧ RamP w' g Mj ∧ Below w2.heap.size w2 w' := hS
                refine call_step 31 #[.agg (tab 4 (sxV x ⟨Ab, nb, cb⟩))] (fun ρ hρ => by
                    have hfun : ∀ f, ρ (.func f) = .func (.func f) #[] #[] := fun f => by rw [hρ]; rfl
                    have e48 : ρ (.tmp 48) = .agg (tab 4 (sxV x ⟨Ab, nb, cb⟩)) := by rw [hρ]; exact (hA.1 6 _ 48 rfl rfl).trans (hd (6, .agg (tab 4 (sxV x ⟨Ab, nb, cb⟩))) (.tail _ (.tail _ (.tail _ (.tail _ (.tail _ (.tail _ (.head _))))))) ⟨⟨6, .data⟩, by simp, rfl, rfl⟩)
                    clear hρ hA hl hK hd hS hacc
                    go_simp
                    ) ?_
                refine (contents_any x Ab nb cb w' (hy5.below hS.2.2) hzz hnz).mono ?_
                rintro e w'' ⟨⟨A', c', rfl, hS4⟩, hb⟩
                have hbl := hbs
                exact ⟨_, rfl, hK _ _ ⟨⟨A', c', rfl, hS4⟩, ⟨(hb.cell (p := ⟨bs, os + j * 3, none⟩) (Nat.lt_of_lt_of_le hbs hS.2.2.size)).trans hS.1.1, hS.1.2.after hb⟩, hS.2.1.after hb, below_trans hS.2.2 hb⟩⟩
              · intro v w' A hA hS hacc hd hl K hK
                replace hS : (∃ A' c', x7 = .slice A' x.z c' ∧ SlA w' A' x.z c' (padZ x.b x.z)) ∧ (w'.cell? ⟨bs, os + j * 3, none⟩ = some (.int .u32 (sp.s : Int)) ∧ Has w' gs 55 (tab 4 (sxV x ⟨Ab, nb, cb⟩))) ∧ RamP w' g Mj ∧ Below w2.heap.size w2 w' := hS
                obtain ⟨⟨A', c', hx7, hS4⟩, hCC, hR, hB⟩ := hS
                refine call_step 12 #[.pointer (some ⟨g, 0, none⟩), .int .u32 (sp.s : Int), .slice A' x.z c'] (fun ρ hρ => by
                    have hfun : ∀ f, ρ (.func f) = .func (.func f) #[] #[] := fun f => by rw [hρ]; rfl
                    have e42 : ρ (.tmp 42) = .pointer (some ⟨g, 0, none⟩) := by rw [hρ]; exact (hA.1 0 _ 42 rfl rfl).trans (hd (0, .pointer (some ⟨g, 0, none⟩)) (.head _) ⟨⟨0, .data⟩, by simp, rfl, rfl⟩)
                    have e47 : ρ (.tmp 47) = .int .u32 (sp.s : Int) := by rw [hρ]; exact (hA.1 5 _ 47 rfl rfl).trans (hd (5, .int .u32 (sp.s : Int)) (.tail _ (.tail _ (.tail _ (.tail _ (.tail _ (.head _)))))) ⟨⟨5, .data⟩, by simp, rfl, rfl⟩)
                    have e49 : ρ (.tmp 49) = x7 := by rw [hρ]; exact (hA.1 7 _ 49 rfl rfl).trans (hacc (7, x7) (by simp))
                    rw [hx7] at e49
                    clear hρ hA hl hK hd hacc hx7
                    go_simp
                    ) ?_
                refine (pput_any' Mj g sp.s A' x.z c' (padZ x.b x.z) w' hR hsp4 hS4 hinr).mono ?_
                rintro e w'' ⟨rfl, hG6, hgr6⟩
                have hcb := hgr6.block bs (Nat.lt_of_lt_of_le hbs hB.size) (fun e => by injection e with e; exact hbg e.symm)
                exact ⟨_, rfl, hK _ _ ⟨rfl, ⟨(World.cell?_of_block (a := ⟨bs, os + j * 3, none⟩) hcb).trans hCC.1, has_grown hCC.2 hgr6 (fun l e => by injection e with e; omega)⟩, hG6, only_trans (only_below hB _) hgr6⟩⟩
            intro x7 x8 v wE hSE hacc hqv
            replace hSE : x8 = .int .i64 0 ∧ (wE.cell? ⟨bs, os + j * 3, none⟩ = some (.int .u32 (sp.s : Int)) ∧ Has wE gs 55 (tab 4 (sxV x ⟨Ab, nb, cb⟩))) ∧ RamP wE g (putM Mj (sp.s - 2147483648) (padZ x.b x.z)) ∧ w2.grownBy wE (some g) := hSE
            have f0 : v 0 = .pointer (some ⟨g, 0, none⟩) := hqv (0, .pointer (some ⟨g, 0, none⟩)) (.head _)
            have f1 : v 1 = .slice (some ⟨bs, os, none⟩) i d := hqv (1, .slice (some ⟨bs, os, none⟩) i d) (.tail _ (.head _))
            have f2 : v 2 = .int .i64 (j : Int) := hqv (2, .int .i64 (j : Int)) (.tail _ (.tail _ (.head _)))
            have f3 : v 3 = .pointer (some ⟨bs, os + j * 3, none⟩) := hqv (3, .pointer (some ⟨bs, os + j * 3, none⟩)) (.tail _ (.tail _ (.tail _ (.head _))))
            have f4 : v 4 = .pointer (some ⟨bs, os + j * 3, none⟩) := hqv (4, .pointer (some ⟨bs, os + j * 3, none⟩)) (.tail _ (.tail _ (.tail _ (.tail _ (.head _)))))
            have f5 : v 5 = .int .u32 (sp.s : Int) := hqv (5, .int .u32 (sp.s : Int)) (.tail _ (.tail _ (.tail _ (.tail _ (.tail _ (.head _))))))
            have f6 : v 6 = .agg (tab 4 (sxV x ⟨Ab, nb, cb⟩)) := hqv (6, .agg (tab 4 (sxV x ⟨Ab, nb, cb⟩))) (.tail _ (.tail _ (.tail _ (.tail _ (.tail _ (.tail _ (.head _)))))))
            have f7 : v 7 = x7 := hacc (7, x7) (by simp)
            have f8 : v 8 = x8 := hacc (8, x8) (by simp)
            clear hacc hqv
            simp only [putAll, Act.put, List.setIfInBounds_toArray, List.set_cons_zero, List.set_cons_succ, Nat.zero_add, Nat.reduceAdd]
            rw [f0, f1, f2, f3, f4, f5, f6, f7, f8]
            clear f0 f1 f2 f3 f4 f5 f6 f7 f8
            go_wp2_with fail
            go_roundw
            case rel => exact ⟨j + 1, hlt2, by go_num, by rw [HLD.out]; exact hSE.2.2.1, only_trans HGR.out hSE.2.2.2⟩
            case measure => simp [intOf] <;> omega
          · obtain rfl : j = i := by omega
            go_wp2_with fail
            go_ret
            exact ⟨by rw [HE0.out]; rfl, by rw [HM0.out]; exact hGj, only_trans (only_below HBU.out _) hgr⟩
  · rw [if_neg hkn, if_neg hkn]
    have dk : ((k : Int) != (n : Int)) = true := by simp; omega
    clear hX hSp hwf
    go_enter Try.func22, Try.ntmps22
    go_wp2_with fail
    go_ret
    exact ⟨rfl, hG.after hbu, only_below hbu _⟩
end Go.Proofs.Ytdifapdppdcidaa
