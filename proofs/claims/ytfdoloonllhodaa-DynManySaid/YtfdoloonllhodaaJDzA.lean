/-
Layer 9, package dyn: the table of the bytes at an address; what is taken of it.
Layer 9, package dyn: the tags in a map; how far a table's cursor stands, read off its cells.
-/
import Derived.Test.YtfdoloonllhodaaJElV
import Derived.Test.YtfdoloonllhodaaJDyB
import Derived.BigQuiet
import Derived.Maps.OwnSet
namespace Go.Proofs.Ytfdoloonllhodaa
open Go Go.RowKit

/-- a table's cursor, or none -/
def pV (p : Option Nat) : Value := match p with
  | none => .pointer none
  | some g => .pointer (some ⟨g, 0, none⟩)
/-- the table stands at q of the bytes o; or it is none -/
def TbP (B L : Nat) (p : Option Nat) (o : Option (List UInt8)) (q : Nat) (w : World) : Prop := match p, o with
  | some g, some b => CuP B L g b q w
  | none, none => True
  | _, _ => False
def nmO (o : Option (List UInt8)) (q : Nat) : Nat := match o with
  | none => 0
  | some b => nm b 4 q
def bdO (o : Option (List UInt8)) (q : Nat) : Bool := match o with
  | none => true
  | some b => decide (b.length < q)
/-- the bytes at an address; no bytes stand anywhere -/
def adO (ss : List Sg) (a n : Nat) : Option (List UInt8) := if n = 0 then some [] else adN ss a n
theorem nmO_lt (o : Option (List UInt8)) (q : Nat) : nmO o q < 4294967296 := by
  cases o with
  | none => exact (by decide : (0 : Nat) < 4294967296)
  | some b => exact nm4 b q
section
variable {B L q : Nat} {p : Option Nat} {o : Option (List UInt8)} {w w' : World}
theorem CuP.mono {g : Nat} {bs : List UInt8} (h : CuP B L g bs q w) {B' L' : Nat} (hB : B' ≤ B) (hL : L ≤ L') : CuP B' L' g bs q w := by
  obtain ⟨A, n, c, p, bad, h1, h2, h3, h4, h5, h6⟩ := h
  exact ⟨A, n, c, p, bad, h1, h2, by omega, fun b o s e h0 => by have := h4 b o s e h0; omega, h5, h6⟩
theorem CuP.aside {g : Nat} {bs : List UInt8} {r : Option Nat} (h : CuP B L g bs q w) (k : w.grownBy w' r) (hr : ∀ l, r = some l → l < B ∨ L ≤ l) : CuP B L g bs q w' := by
  obtain ⟨A, n, c, p, bad, h1, h2, h3, h4, h5, h6⟩ := h
  exact ⟨A, n, c, p, bad, has_grown h1 k (fun l e => by have := hr l e; omega), h2.grown k (fun b o e h0 e2 => by have := hr b e2; have := (h4 b o none e h0).2; omega), h3, h4, h5, h6⟩
theorem TbP.mono (h : TbP B L p o q w) {B' L' : Nat} (hB : B' ≤ B) (hL : L ≤ L') : TbP B' L' p o q w := by
  cases p <;> cases o
  · trivial
  · exact h
  · exact h
  · exact CuP.mono h hB hL
theorem TbP.aside {r : Option Nat} (h : TbP B L p o q w) (k : w.grownBy w' r) (hr : ∀ l, r = some l → l < B ∨ L ≤ l) : TbP B L p o q w' := by
  cases p <;> cases o
  · trivial
  · exact h
  · exact h
  · exact CuP.aside h k hr
theorem TbP.after (h : TbP B L p o q w) (k : Below w.heap.size w w') : TbP B L p o q w' := by
  cases p <;> cases o
  · trivial
  · exact h
  · exact h
  · exact CuP.after h k
theorem TbP.gB (h : TbP B L p o q w) : ∀ g, p = some g → B ≤ g ∧ g < L ∧ g < w.heap.size := by
  rintro g rfl
  cases o with
  | none => exact h.elim
  | some b => exact ⟨(CuP.gB h).1, (CuP.gB h).2, CuP.lt h⟩
theorem TbP.bad (h : TbP B L p o q w) : Calls Try.prog 34 #[pV p] w fun e w' => e = .returned (.bool (bdO o q)) ∧ w = w' := by
  cases p <;> cases o
  · exact pbad_nil w
  · exact h.elim
  · exact h.elim
  · exact CuP.bad h
theorem TbP.u32 (h : TbP B L p o q w) : Calls Try.prog 44 #[pV p] w fun e w' => e = .returned (.int .u32 ((nmO o q : Nat) : Int)) ∧ TbP B L p o (q + 4) w' ∧ w.grownBy w' p := by
  cases p <;> cases o
  · exact (pu32_of 0 (.pointer none) w (fun w' => w = w') (pint_no 4 (.pointer none) w (fun w' => w = w') (ptake_nil _ w))).mono fun e w' ⟨h1, h2⟩ => ⟨h1, trivial, by subst h2; exact World.grownBy.refl _ _⟩
  · exact h.elim
  · exact h.elim
  · exact CuP.u32 h
end
theorem below_p {a b c : World} {p : Option Nat} {C : Nat} (h : Below C a b) (k : b.grownBy c p) (hg : ∀ g, p = some g → C ≤ g) (hC : C ≤ b.heap.size) : Below C a c := by
  cases p with
  | none => exact h.trans ((grown_none k).mono hC)
  | some g => exact below_only h k (hg g rfl) hC
theorem results_cellO {P : Program} {fn : Func} {p : Tmp} {ty : TypeId} (h : fn.results = #[.cell p ty]) (tmps : Array Value) (w : World) (g : Nat) (t : TypeId) (cs : Array Value) (d : TypeDesc)
    (hp : tmps.getD p undef = .pointer (some ⟨g, 0, none⟩)) (hg : Has w g t cs)
    (hu : P.underlying ty = some d) (hd : (match d with | .struct _ | .array _ _ => true | _ => false) = true) (hi : (P.info? ty).map (·.size) = some cs.size) :
    (results fn tmps).run P w = .ok (.agg cs) w := by
  have hp' : tmps[p]?.getD undef = .pointer (some ⟨g, 0, none⟩) := by simpa using hp
  simp [results, h, hp', asAddr, run_loadVar_row w g t ty cs (0, 0) d hg hu hd hi]
theorem infoTB (v : Value) : (Try.prog.info? 101).map (·.size) = some (#[v] : Array Value).size := by kernel_rfl
theorem pV_one (p : Option Nat) : (#[pV p] : Array Value).all (·.oneCell') = true := by cases p <;> simp [pV, Value.oneCell']
theorem atSE' (b o n c j : Nat) (hj : (j : Int) < (n : Int)) (w : World) : (Instr.indexAt 35 (.slice (some ⟨b, o, none⟩) n c) (.int .i64 (j : Int))).run Try.prog w = .ok (.pointer (some ⟨b, o + j * 4, none⟩)) w := by
  have h2 := Addr.add_mid b o (j * 4)
  go_simp
theorem run_front32c (A : Option Addr) (n c : Nat) (k : Nat) (hk : k ≤ c) (W : World) : (Instr.sliceAt 22 (.slice A n c) none (some (.int .u32 (k : Int))) none).run Try.prog W = .ok (.slice A k c) W := by
  have h1 : (k : Int) ≤ (c : Int) := by omega
  cases A with
  | none => go_simp
  | some ad => go_simp
/-- what tableAt answers -/
def TatR (w : World) (o : Option (List UInt8)) (e : Ending) (w' : World) : Prop :=
  (∃ p, e = .returned (.agg #[pV p]) ∧ TbP w.heap.size w'.heap.size p o 0 w') ∧ Below w.heap.size w w'
set_option maxRecDepth 100000 in
set_option maxHeartbeats 2000000 in
theorem tat_any (ss : List Sg) (s : Sl) (a n : Nat) (w : World) (hS : SlS w s ss) (hm : ss.length ≤ 5) (ha : a < 4294967296) (hn : n < 4294967296) (hd : ∀ g ∈ ss, g.d < 4294967296) (hlb : ∀ g ∈ ss, g.b.length ≤ 100000) :
    Calls Try.prog 30 #[s.v, .int .u32 (a : Int), .int .u32 (n : Int)] w fun e w' => TatR w (adO ss a n) e w' := by
  obtain ⟨As, m, cs, rfl⟩ := s.out
  have hl : ss.length = m := hS.1
  have HL := Lib.hid hl
  have HT := Lib.hid hS
  have HD := Lib.hid hd
  have HLB := Lib.hid hlb
  have hm5 : m ≤ 5 := by omega
  clear hl hS hd hlb hm
  rw [show Sl.v ⟨As, m, cs⟩ = .slice As m cs from rfl]
  go_enter Try.func30, Try.ntmps30
  go_upto_region 1 with fail
  have hG : Has (w.alloc (.cells #[.pointer none] 101)) w.heap.size 101 #[pV none] := Has.new _ _ _
  have hb0 : Below w.heap.size w (w.alloc (.cells #[.pointer none] 101)) := (Below.refl _ _).alloc (Nat.le_refl _) _
  have hgu := hG.lt
  generalize w.alloc (.cells #[.pointer none] 101) = u at *
  obtain ⟨gr, hgr⟩ : ∃ x, x = w.heap.size := ⟨_, rfl⟩
  have hgw : w.heap.size ≤ gr := by omega
  rw [← hgr] at hG hgu ⊢
  clear hgr
  by_cases h0 : n = 0
  · have d0 : ((n : Int) == 0) = true := by simp [h0]
    have HO : Hid (adO ss a n = some []) := Lib.hid (if_pos h0)
    clear h0
    have k := cu_at (bs := []) (w := u) none 0 0 (nil_slA _) (fun _ => rfl) (by decide)
    go_wp2_with (first
      | (refine k.mono ?_
         rintro e u1 ⟨⟨g, rfl, hC⟩, hb1⟩
         have hG1 := hG.after hb1)
      | (refine wp_store_cs rfl 101 _ _ rfl gr rfl #[pV (some g)] rfl _ (by rfl) (infoTB _) (pV_one _) hG1 ?_; intro wz hz hgz))
    have hb01 := below_trans hb0 (hb1.mono (Nat.le_refl _))
    exact bodyPost_ret (v := .agg #[pV (some g)]) (results_cellO rfl _ _ gr 101 _ _ rfl hz Try.underlying101 rfl (infoTB _)) rfl ⟨⟨some g, rfl, by rw [HO.out]; exact (CuP.aside hC hgz fun l e => by injection e with e; omega).mono hb0.size hgz.size⟩, below_only hb01 hgz hgw hb01.size⟩
  have d0 : ((n : Int) == 0) = false := by simp; omega
  have HO : Hid (adO ss a n = adN ss a n) := Lib.hid (if_neg h0)
  clear h0
  go_wp2_with fail
  go_loopw [15] (fun ct wr => ∃ i : Nat, i ≤ m ∧ ct = .int .i64 (i : Int) ∧ adN (ss.drop i) a n = adN ss a n ∧ Below w.heap.size w wr ∧ Has wr gr 101 #[pV none]) (fun ct _ => (m - (intOf ct)).toNat)
  case atStart => exact ⟨0, Nat.zero_le _, rfl, rfl, hb0, hG⟩
  case round =>
    obtain ⟨i, hi, rfl, hgo, hb, hGr⟩ := hrel
    clear hG hb0 hgu
    by_cases hlt : i < m
    · have di : (i : Int) < (m : Int) := by omega
      obtain ⟨hl2, T, hC0, hY⟩ := HT.out.below hb
      obtain ⟨b, o, hA2, hbl, _⟩ := hC0.2 (by show 0 < m; omega)
      replace hA2 : As = some ⟨b, o, none⟩ := hA2
      subst hA2
      have hr := hC0.range rfl (j := i) hlt
      have ha1 := fun w => atSE' b o m cs i di w
      have hdc := drop_cons ss sg0 i (by rw [HL.out]; exact hlt)
      have hmem : ss.getD i sg0 ∈ ss := by rw [List.getD_eq_getElem?_getD, List.getElem?_eq_getElem (by rw [HL.out]; exact hlt)]; exact List.getElem_mem _
      have hd4 := HD.out _ hmem
      have hb5 := HLB.out _ hmem
      obtain ⟨hy, hyn, hyc⟩ := hY i hlt
      change wr.rangeAt b (o + i * 4) ((List.range 4).map (sgE (ss.getD i sg0) (T i))) at hr
      rw [hdc] at hgo
      generalize ss.getD i sg0 = sg at *
      obtain ⟨Ab, nb, cb, hTi⟩ := (T i).out
      rw [hTi] at hr hy hyn hyc
      have hbl2 : sg.b.length = nb := hy.1
      have hnc : nb ≤ cb := hy.2.1
      have hgo2 : (if sg.d ≤ a ∧ a + n ≤ sg.d + nb then some ((sg.b.drop (a - sg.d)).take n) else adN (ss.drop (i + 1)) a n) = adN ss a n := by rw [← hgo, ← hbl2]; rfl
      have HGO := Lib.hid hgo2
      have HY : Hid (SlA wr Ab nb cb sg.b ∧ (Ab = none → cb = 0) ∧ cb < 9223372036854775808) := Lib.hid ⟨hy, hyn, hyc⟩
      have HB := Lib.hid hb
      have hnb5 : nb ≤ 100000 := by omega
      have HBL := Lib.hid hbl2
      have kW := fun w => pwithin_any a n sg.d nb w ha hn hd4 (by omega)
      clear hl2 hC0 hY hdc hmem hgo hgo2 hbl hb hy hyn hyc hTi hbl2
      by_cases hin : sg.d ≤ a ∧ a + n ≤ sg.d + nb
      · have hr2 : inB a n sg.d nb = true := decide_eq_true (by omega)
        simp only [hr2] at kW
        have d1 : (sg.d : Int) ≤ (a : Int) := by omega
        obtain ⟨p, hp⟩ : ∃ p, p = a - sg.d := ⟨_, rfl⟩
        have hpe : (a : Int) - (sg.d : Int) = (p : Int) := by omega
        have hrs := fun W => run_tail32 Ab nb cb p (by omega) W
        have hrf := fun W => run_front32c (offA Ab cb p) (nb - p) (cb - p) n (by omega) W
        have HP : Hid (p = a - sg.d ∧ p + n ≤ nb ∧ sg.d ≤ a ∧ a + n ≤ sg.d + nb) := Lib.hid ⟨hp, by omega, hin.1, hin.2⟩
        have hpb : p ≤ 100000 := by omega
        have hnb6 : n ≤ 100000 := by omega
        have hsub : SlA wr (offA Ab cb p) n (cb - p) ((sg.b.drop p).take n) := sub_offc HY.out.1 (by omega)
        have hsubn : offA Ab cb p = none → cb - p = 0 := sub_nilc HY.out.2.1
        have hsl : ((sg.b.drop p).take n).length ≤ 1000000 := by rw [List.length_take]; omega
        have HX : Hid (adO ss a n = some ((sg.b.drop p).take n)) := Lib.hid (by rw [HO.out, ← HGO.out, if_pos hin, hp])
        generalize (sg.b.drop p).take n = bs at *
        generalize offA Ab cb p = A' at *
        generalize nb - p = n' at *
        generalize cb - p = c' at *
        have HS2 := Lib.hid hsub
        clear hp hin hr2 hsub
        go_wp2_with (first
          | (refine (kW _).mono ?_; rintro e w9 ⟨rfl, rfl⟩)
          | (refine (cu_at (bs := bs) A' n c' (HS2.out.below hb1) hsubn hsl).mono ?_
             rintro e u1 ⟨⟨g, rfl, hC⟩, hb2⟩
             have hG1 := (hGr.after hb1).after hb2)
          | (refine wp_load_se rfl _ rfl b (o + i * 4) rfl _ hr ?_)
          | (refine wp_fresh 64 4 _ _ _ _ rfl rfl rfl rfl zeroSE infoSE4 (by omega) (sgE_one _ _) rfl rfl ?_
             intro w1 hG hb1 hz1
             have hc0 : w1.cell? ⟨_, 0, none⟩ = some (.int .u32 (sg.d : Int)) := hG.cellTab 0 (by omega)
             have hc1 : w1.cell? ⟨_, 1, none⟩ = some (.slice Ab nb cb) := hG.cellTab 1 (by omega))
          | (refine wp_store_cs rfl 101 _ _ rfl gr rfl #[pV (some g)] rfl _ (by rfl) (infoTB _) (pV_one _) hG1 ?_; intro wz hz hgz))
        have hb01 := HB.out.trans ((below_trans hb1 (hb2.mono (Nat.le_refl _))).mono HB.out.size)
        have hgl := hGr.lt
        have hb1s := hb1.size
        have hBs := HB.out.size
        exact bodyPost_ret (v := .agg #[pV (some g)]) (results_cellO rfl _ _ gr 101 _ _ rfl hz Try.underlying101 rfl (infoTB _)) rfl ⟨⟨some g, rfl, by rw [HX.out]; exact (CuP.aside hC hgz fun l e => by injection e with e; omega).mono (Nat.le_trans hBs hb1s) hgz.size⟩, below_only hb01 hgz hgw hb01.size⟩
      · have hr2 : inB a n sg.d nb = false := decide_eq_false (by omega)
        simp only [hr2] at kW
        have HN : Hid (adN (ss.drop (i + 1)) a n = adN ss a n) := Lib.hid (by rw [← HGO.out, if_neg hin])
        clear hin hr2
        go_wp2_with (first
          | (refine (kW _).mono ?_; rintro e w9 ⟨rfl, rfl⟩)
          | (refine wp_load_se rfl _ rfl b (o + i * 4) rfl _ hr ?_)
          | (refine wp_fresh 64 4 _ _ _ _ rfl rfl rfl rfl zeroSE infoSE4 (by omega) (sgE_one _ _) rfl rfl ?_
             intro w1 hG hb1 hz1
             have hc0 : w1.cell? ⟨_, 0, none⟩ = some (.int .u32 (sg.d : Int)) := hG.cellTab 0 (by omega)
             have hc1 : w1.cell? ⟨_, 1, none⟩ = some (.slice Ab nb cb) := hG.cellTab 1 (by omega)))
        go_roundw
        case rel => exact ⟨i + 1, hlt, by go_num, HN.out, HB.out.trans (hb1.mono HB.out.size), hGr.after hb1⟩
        case measure => simp [intOf] <;> omega
    · obtain rfl : i = m := by omega
      rw [List.drop_of_length_le (by rw [HL.out]; exact Nat.le_refl _)] at hgo
      have HX : Hid (adO ss a n = none) := Lib.hid (by rw [HO.out]; exact hgo.symm)
      clear hgo
      go_wp2_with (refine wp_store_cs rfl 101 _ _ rfl gr rfl #[pV none] rfl _ (by rfl) (infoTB _) (pV_one _) hGr ?_; intro wz hz hgz)
      exact bodyPost_ret (v := .agg #[pV none]) (results_cellO rfl _ _ gr 101 _ _ rfl hz Try.underlying101 rfl (infoTB _)) rfl ⟨⟨none, rfl, by rw [HX.out]; trivial⟩, below_only hb hgz hgw hb.size⟩
end Go.Proofs.Ytfdoloonllhodaa
namespace Go.Proofs.Ytfdoloonllhodaa
open Go Go.RowKit
open Go.Maps (Keyed)

theorem keyU : Keyed Try.prog 32 := Maps.int_keyed Try.underlying32
theorem zeroU (w : World) : (zeroValue 32).run Try.prog w = .ok (.int .u32 0) w := by kernel_rfl
theorem wfU {t : Nat} (h : t < 4294967296) : (Lit.int .u32 (t : Int)).wf = true := by
  have h1 : IntKind.u32.min ≤ (t : Int) := by rw [show IntKind.u32.min = 0 from rfl]; omega
  have h2 : (t : Int) ≤ IntKind.u32.max := by rw [show IntKind.u32.max = 4294967295 from rfl]; omega
  show (decide (IntKind.u32.min ≤ (t : Int)) && decide ((t : Int) ≤ IntKind.u32.max)) = true
  rw [decide_eq_true h1, decide_eq_true h2]
  rfl
theorem keyAt {t : Nat} (h : t < 4294967296) : keyOf Try.prog 32 (.int .u32 (t : Int)) = some (.int .u32 (t : Int)) := Maps.keyOf_int_mk Try.underlying32 (wfU h)
/-- the map in block g has the tags l -/
def MpL (w : World) (g : Nat) (l : List (Nat × Nat)) : Prop :=
  ∃ n, ∃ D : DataW Unit, w.ownsMap Try.prog 32 (plainElem Try.prog 32) g n D ∧ n ≤ l.length ∧ ∀ t : Nat, t < 4294967296 → Maps.has D (.int .u32 (t : Int)) = (valN l t).isSome ∧ D.atKey (.int .u32 (t : Int)) (.lit (.int .u32 0)) = .lit (.int .u32 (((valN l t).getD 0 : Nat) : Int))
theorem valN_snoc (l : List (Nat × Nat)) (p : Nat × Nat) (t : Nat) : valN (l ++ [p]) t = if (valN l t).isSome = true then valN l t else if p.1 = t then some p.2 else none := by
  induction l with
  | nil => rfl
  | cons a l ih =>
    show (if a.1 = t then some a.2 else valN (l ++ [p]) t) = _
    rw [ih]
    show (if a.1 = t then some a.2 else _) = if (if a.1 = t then some a.2 else valN l t).isSome = true then (if a.1 = t then some a.2 else valN l t) else _
    by_cases h : a.1 = t
    · simp only [if_pos h]; rfl
    · simp only [if_neg h]
section
variable {w w' : World} {g : Nat} {l : List (Nat × Nat)}
theorem MpL.lt (h : MpL w g l) : g < w.heap.size := by obtain ⟨n, D, h1, _⟩ := h; exact h1.lt
theorem MpL.kept {r : Option Nat} (h : MpL w g l) (k : w.grownBy w' r) (hne : some g ≠ r) : MpL w' g l := by
  obtain ⟨n, D, h1, h2, h3⟩ := h
  exact ⟨n, D, h1.kept k hne, h2, h3⟩
theorem MpL.after (h : MpL w g l) (k : Below w.heap.size w w') : MpL w' g l := h.kept (only_below k none) (by simp)
theorem MpL.has_ne {t : TypeId} {cs : Array Value} {g' : Nat} (h : MpL w g l) (hG : Has w g' t cs) : g ≠ g' := by
  rintro rfl
  obtain ⟨n, D, ⟨es, cl, hb, _⟩, _⟩ := h
  rw [show w.heap[g]? = _ from hG] at hb
  cases hb
theorem MpL.keptP {B L q : Nat} {p : Option Nat} {o : Option (List UInt8)} (h : MpL w g l) (hT : TbP B L p o q w) (k : w.grownBy w' p) : MpL w' g l := by
  refine h.kept k ?_
  cases p with
  | none => simp
  | some g' =>
    cases o with
    | none => exact hT.elim
    | some b =>
      obtain ⟨cs, hG⟩ := CuP.hasE hT
      intro e
      injection e with e
      exact h.has_ne hG e
theorem MpL.new (w : World) : MpL (w.alloc (.map #[] 0)) w.heap.size [] := ⟨0, .map [], World.ownsMap_made _ _ _ _, Nat.le_refl _, fun _ _ => ⟨rfl, rfl⟩⟩
set_option maxRecDepth 100000 in
theorem MpL.look_ok (h : MpL w g l) {t : Nat} (ht : t < 4294967296) : (Instr.lookup 70 (.map (some g)) (.int .u32 (t : Int)) true).run Try.prog w = .ok (.tuple #[.int .u32 (((valN l t).getD 0 : Nat) : Int), .bool (valN l t).isSome]) w := by
  obtain ⟨n, D, h1, h2, h3⟩ := h
  obtain ⟨v, ps, hr, hv⟩ := h1.look_ok keyU Try.underlying70 (zeroU w) (plainElem_int Try.underlying32 (by decide)) (keyAt ht)
  obtain ⟨a, rfl, hz, _⟩ := plainElem_int_inv Try.underlying32 hv
  obtain ⟨e1, e2⟩ := h3 t ht
  rw [e2] at hz
  rw [hr, e1]
  injection hz with hz
  injection hz with hz
  injection hz with _ hz
  rw [hz]
set_option maxRecDepth 100000 in
theorem MpL.look (h : MpL w g l) {t : Nat} (ht : t < 4294967296) : (Instr.lookup 70 (.map (some g)) (.int .u32 (t : Int)) false).run Try.prog w = .ok (.int .u32 (((valN l t).getD 0 : Nat) : Int)) w := by
  obtain ⟨n, D, h1, h2, h3⟩ := h
  obtain ⟨c, hr, hv, _⟩ := h1.lookup_int keyU Try.underlying70 Try.underlying32 (zeroU w) (keyAt ht)
  rw [(h3 t ht).2] at hv
  injection hv with hv
  injection hv with _ hv
  rw [hr, hv]
/-- a tag is put into the map -/
theorem wp_mapput {ops : Array Oper} {rest : List Oper} {op : Oper} {a : Act} {Q : Exit → Act → World → Prop} (hgd : op.guard = none) (m x v : Operand) (ho : op.op = .mapUpdate 70 m x v)
    (hm : a.eval m = .map (some g)) (h : MpL w g l) (t y : Nat) (hx : a.eval x = .int .u32 (t : Int)) (hv : a.eval v = .int .u32 (y : Int)) (ht : t < 4294967296) (hy : y < 4294967296) (hn : valN l t = none) (hl : l.length ≤ 1000000)
    (hK : ∀ w', MpL w' g (l ++ [(t, y)]) → w.grownBy w' (some g) → wpList Try.prog ops Q rest (a.put op.dst undef) w') : wpList Try.prog ops Q (op :: rest) a w := by
  obtain ⟨n, D, h1, h2, h3⟩ := h
  refine wpList_mapUpdate_own _ hgd m x v 70 ho 32 32 keyU Try.underlying70 (plainElem Try.prog 32) g n D hm h1 (by unfold maxLen; omega) _ _ (.int .u32 (t : Int)) hx hv (keyAt ht) (.lit (.int .u32 (y : Int))) [] (plainElem_int Try.underlying32 (wfU hy)) ?_
  intro w' h1' hgr
  refine hK w' ⟨n + 1, _, h1', by rw [List.length_append]; exact Nat.succ_le_succ h2, fun s hs => ?_⟩ hgr
  have hD := h1.isMap
  rw [valN_snoc]
  by_cases hst : t = s
  · subst hst
    rw [hn]
    refine ⟨(Maps.has_put_same hD (keyU.key (keyAt ht)) _).trans ?_, (Maps.atKey_put_same hD (keyU.key (keyAt ht)) _ _).trans ?_⟩ <;> simp
  · have hne : (Lit.int .u32 (s : Int)) ≠ Lit.int .u32 (t : Int) := fun e => by injection e with _ e; omega
    refine ⟨(Maps.has_put_other hne _).trans ?_, (Maps.atKey_put_other hne _ _).trans ?_⟩
    · rw [(h3 s hs).1, if_neg hst]
      cases valN l s <;> rfl
    · rw [(h3 s hs).2, if_neg hst]
      cases valN l s <;> rfl
end
/-- how far the cursor stands: 0 if there is none, one more than the bytes if it has failed -/
def mO (o : Option (List UInt8)) (q : Nat) : Nat := match o with
  | none => 0
  | some b => min q (b.length + 1)
theorem mO_le {o : Option (List UInt8)} {q q' : Nat} (h : q ≤ q') : mO o q ≤ mO o q' := by
  cases o with
  | none => exact Nat.le_refl _
  | some b => show min q _ ≤ min q' _; omega
def LvP (B L : Nat) (p : Option Nat) (o : Option (List UInt8)) (x : Nat) (w : World) : Prop := match p, o with
  | some g, some b => ∃ A n c pp bad, Has w g 123 (curB A n c bad) ∧ SlA w A n c (b.drop pp) ∧ (B ≤ g ∧ g < L) ∧ (∀ b' o s, A = some ⟨b', o, s⟩ → 0 < n → b' ≠ g ∧ B ≤ b' ∧ b' < L) ∧ pp ≤ b.length ∧ x = if bad = true then b.length + 1 else pp
  | none, none => x = 0
  | _, _ => False
section
variable {B L q : Nat} {p : Option Nat} {o : Option (List UInt8)} {w w' : World}
theorem TbP.lv (h : TbP B L p o q w) : LvP B L p o (mO o q) w := by
  cases p <;> cases o
  · rfl
  · exact h.elim
  · exact h.elim
  · obtain ⟨A, n, c, pp, bad, h1, h2, h3, h4, ⟨h5, h5b⟩, h6⟩ := h
    refine ⟨A, n, c, pp, bad, h1, h2, h3, h4, h6, ?_⟩
    show min q _ = _
    dsimp only at h5 h5b
    cases bad with
    | true =>
      have := of_decide_eq_true h5.symm
      rw [if_pos rfl]; omega
    | false =>
      have := of_decide_eq_false h5.symm
      rw [if_neg (by decide), h5b (by omega)]; omega
theorem LvP.tb (h : LvP B L p o (mO o q) w) : TbP B L p o q w := by
  cases p <;> cases o
  · trivial
  · exact h.elim
  · exact h.elim
  · obtain ⟨A, n, c, pp, bad, h1, h2, h3, h4, h6, h7⟩ := h
    change min q _ = _ at h7
    refine ⟨A, n, c, pp, bad, h1, h2, h3, h4, ?_, h6⟩
    cases bad with
    | true =>
      rw [if_pos rfl] at h7
      exact ⟨(decide_eq_true (by omega)).symm, fun h => by omega⟩
    | false =>
      rw [if_neg (by decide)] at h7
      exact ⟨(decide_eq_false (by omega)).symm, fun _ => by show pp = q; omega⟩
theorem LvP.one {x y : Nat} (h : LvP B L p o x w) (k : LvP B L p o y w) : x = y := by
  cases p <;> cases o
  · exact Eq.trans (show x = 0 from h) (show y = 0 from k).symm
  · exact h.elim
  · exact h.elim
  · obtain ⟨A, n, c, pp, bad, h1, h2, h3, h4, h6, h7⟩ := h
    obtain ⟨A', n', c', pp', bad', k1, k2, k3, k4, k6, k7⟩ := k
    have e := h1.symm.trans k1
    injection e with e
    injection e with e
    have e0 : Value.slice A n c = .slice A' n' c' := congrArg (fun a => a[0]!) e
    have e1 : Value.bool bad = .bool bad' := congrArg (fun a => a[1]!) e
    injection e0 with _ e2 _
    injection e1 with e3
    have l1 := h2.1
    have l2 := k2.1
    rw [List.length_drop] at l1 l2
    rw [h7, k7, e3, show pp = pp' by omega]
theorem LvP.up {x : Nat} (h : LvP B L p o x w) (k : Below w.heap.size w w') : LvP B L p o x w' := by
  cases p <;> cases o
  · exact h
  · exact h.elim
  · exact h.elim
  · obtain ⟨A, n, c, pp, bad, h1, h2, h3, h4, h6, h7⟩ := h
    exact ⟨A, n, c, pp, bad, h1.after k, h2.below k, h3, h4, h6, h7⟩
end
/-- at least x; at most x -/
def LvG (B L : Nat) (p : Option Nat) (o : Option (List UInt8)) (x : Nat) (w : World) : Prop := ∀ y, LvP B L p o y w → x ≤ y
def LvL (B L : Nat) (p : Option Nat) (o : Option (List UInt8)) (x : Nat) (w : World) : Prop := ∀ y, LvP B L p o y w → y ≤ x
theorem mO_sat {o : Option (List UInt8)} {q q0 q1 : Nat} (h : mO o q0 ≤ mO o q) (hq : q < q0) : mO o q1 ≤ mO o q := by
  cases o with
  | none => exact Nat.le_refl _
  | some b =>
    change min q0 _ ≤ min q _ at h
    show min q1 _ ≤ min q _
    omega
/-- what a call of the table's cursor does, as far as others see: from x0 on to x -/
def LvE (B L : Nat) (p : Option Nat) (o : Option (List UInt8)) (x0 x : Nat) (w w' : World) : Prop := w.grownBy w' p ∧ LvP B L p o x0 w ∧ LvP B L p o x w'
section
variable {B L q x0 x y : Nat} {p : Option Nat} {o : Option (List UInt8)} {w w' : World}
theorem LvE.low {q0 q1 : Nat} (h : LvE B L p o (mO o q0) (mO o q1) w w') (k : LvL B L p o (mO o q) w) (hc : q1 ≤ q ∨ q < q0) : LvL B L p o (mO o q) w' := fun z hz => by
  rw [hz.one h.2.2]
  rcases hc with hc | hc
  · exact mO_le hc
  · exact mO_sat (k _ h.2.1) hc
theorem LvE.great (h : LvE B L p o x0 x w w') (hx : x0 ≤ x) (k : LvG B L p o y w) : LvG B L p o y w' := fun z hz => by
  rw [hz.one h.2.2]
  exact Nat.le_trans (k x0 h.2.1) hx
theorem tb_at (h1 : LvL B L p o (mO o q) w) (h2 : LvG B L p o (mO o q) w) (hI : ∃ z, LvP B L p o z w) : TbP B L p o q w := by
  obtain ⟨z, hz⟩ := hI
  have e := Nat.le_antisymm (h1 z hz) (h2 z hz)
  subst e
  exact hz.tb
theorem TbP.low {q' : Nat} (h : TbP B L p o q w) (hq : q ≤ q') : LvL B L p o (mO o q') w := fun z hz => by rw [hz.one h.lv]; exact mO_le hq
theorem TbP.great (h : TbP B L p o q w) : LvG B L p o (mO o q) w := fun z hz => by rw [hz.one h.lv]; exact Nat.le_refl _
end
/-- what a region that takes numbers of a table keeps: the cursor stands between q and q1; the table's own block; only the cursor has changed -/
structure CurI (B L : Nat) (p : Option Nat) (o : Option (List UInt8)) (q q1 gt : Nat) (w0 w : World) : Prop where
  lv : ∃ z, LvP B L p o z w ∧ mO o q ≤ z ∧ z ≤ mO o q1
  tb : Has w gt 101 #[pV p]
  gro : w0.grownBy w p
  ne : ∀ l, p = some l → gt ≠ l ∧ B ≤ l
section
variable {B L q q1 gt : Nat} {p : Option Nat} {o : Option (List UInt8)} {w0 w w' : World}
theorem CurI.ex (h : CurI B L p o q q1 gt w0 w) : ∃ z, LvP B L p o z w := by obtain ⟨z, h1, _⟩ := h.lv; exact ⟨z, h1⟩
theorem CurI.first (h : CurI B L p o q q1 gt w0 w) : LvG B L p o (mO o q) w := fun z hz => by obtain ⟨y, h1, h2, _⟩ := h.lv; rw [hz.one h1]; exact h2
theorem CurI.last (h : CurI B L p o q q1 gt w0 w) : LvL B L p o (mO o q1) w := fun z hz => by obtain ⟨y, h1, _, h2⟩ := h.lv; rw [hz.one h1]; exact h2
theorem CurI.keep {a b : Nat} (h : CurI B L p o q q1 gt w0 w) (k : LvE B L p o (mO o a) (mO o b) w w') (ha : q ≤ b) (hb : b ≤ q1) : CurI B L p o q q1 gt w0 w' :=
  ⟨⟨_, k.2.2, mO_le ha, mO_le hb⟩, has_grown h.tb k.1 (fun l e => (h.ne l e).1), only_trans h.gro k.1, h.ne⟩
theorem CurI.new (hT : TbP B L p o q w) (hG : Has w gt 101 #[pV p]) (hn : ∀ l, p = some l → gt ≠ l) (hq : q ≤ q1) (k : w0.grownBy w p) : CurI B L p o q q1 gt w0 w :=
  ⟨⟨_, hT.lv, Nat.le_refl _, mO_le hq⟩, hG, k, fun l e => ⟨hn l e, (hT.gB l e).1⟩⟩
theorem CurI.after (h : CurI B L p o q q1 gt w0 w) (k : Below w.heap.size w w') : CurI B L p o q q1 gt w0 w' := by
  obtain ⟨z, h1, h2, h3⟩ := h.lv
  exact ⟨⟨z, h1.up k, h2, h3⟩, h.tb.after k, only_trans h.gro (only_below k p), h.ne⟩
end
end Go.Proofs.Ytfdoloonllhodaa
