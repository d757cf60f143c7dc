/-
The reference of layer 4: multiples of a point.
The reference of layer 4: its literals; a point's plain numbers.
The reference of layer 4: is a point on the curve?
The laws of layer 4: a point's value; what package curve's calls answer; the laws' own pt and like.
The laws of layer 4: pt, like.
The laws of layer 4: the anchor.
CurveMults: multiples are the document's: the walk, over what package curve's calls do.
-/
import Derived.Test.YtmgmfifkldpbmaaDoorMg00
import Derived.Test.YtmgmfifkldpbmaaDoorMg06
namespace Go.Proofs.YtmgmfifkldpbmaaDoor
open Go.RowKit

/-- the point doubled so often; the sum of those whose bits are set -/
noncomputable def dblS (m : Nat) (t : T3) : Nat → T3
  | 0 => t
  | k + 1 => dblT m (dblS m t k)
noncomputable def sumS (m n : Nat) (t : T3) : Nat → T3
  | 0 => ⟨0, 1, 0⟩
  | k + 1 => if bitA n k = 1 then sumT m (sumS m n t k) (dblS m t k) else sumS m n t k
theorem one_lt {m : Nat} (hmp : m = Ec.pp) : 1 < m := by rw [hmp]; decide
theorem dblS_ok {m : Nat} (hm : FldOK m) (hmp : m = Ec.pp) {t : T3} (ht : t.ok m) : ∀ k, (dblS m t k).ok m
  | 0 => ht
  | k + 1 => (dblT_is hm hmp (dblS_ok hm hmp ht k)).1
theorem sumS_ok {m n : Nat} (hm : FldOK m) (hmp : m = Ec.pp) {t : T3} (ht : t.ok m) : ∀ k, (sumS m n t k).ok m
  | 0 => ⟨hm.1, one_lt hmp, hm.1⟩
  | k + 1 => by
    unfold sumS
    split
    · exact (sumT_is hm hmp (sumS_ok hm hmp ht k) (dblS_ok hm hmp ht k)).1
    · exact sumS_ok hm hmp ht k
theorem dblS_is {m : Nat} (hm : FldOK m) (hmp : m = Ec.pp) {t : T3} (ht : t.ok m) {P : Ec.Pnt} (hP : Ec.OnP P) (h : t.is P) : ∀ k, (dblS m t k).is (Ec.smul (2 ^ k) P)
  | 0 => by rw [Nat.pow_zero]; exact h
  | k + 1 => by
    rw [Nat.pow_succ, Nat.mul_comm, Ec.smul_two hP]
    exact (dblT_is hm hmp (dblS_ok hm hmp ht k)).2.1 _ (dblS_is hm hmp ht hP h k)
theorem sumS_is {m n : Nat} (hm : FldOK m) (hmp : m = Ec.pp) {t : T3} (ht : t.ok m) {P : Ec.Pnt} (hP : Ec.OnP P) (h : t.is P) : ∀ k, (sumS m n t k).is (Ec.smul (n % 2 ^ k) P)
  | 0 => by rw [Nat.pow_zero, Nat.mod_one]; rfl
  | k + 1 => by
    have e : n % 2 ^ (k + 1) = n % 2 ^ k + 2 ^ k * bitA n k := mod_step 2 n k
    have ih := sumS_is (n := n) hm hmp ht hP h k
    unfold sumS
    rw [e]
    rcases bitA_01 n k with hb | hb
    · rw [hb, if_neg (by decide), Nat.mul_zero, Nat.add_zero]
      exact ih
    · rw [hb, if_pos rfl, Nat.mul_one, Ec.smul_add hP]
      exact (sumT_is hm hmp (sumS_ok hm hmp ht k) (dblS_ok hm hmp ht k)).2.1 _ _ (Ec.smul_on hP _) (Ec.smul_on hP _) ih (dblS_is hm hmp ht hP h k)
theorem sumS_one {m n : Nat} {t : T3} {k : Nat} (h : bitA n k = 1) : sumS m n t (k + 1) = sumT m (sumS m n t k) (dblS m t k) := if_pos h
theorem sumS_nil {m n : Nat} {t : T3} {k : Nat} (h : bitA n k = 0) : sumS m n t (k + 1) = sumS m n t k := if_neg (by rw [h]; decide)
set_option maxRecDepth 100000 in
theorem buildPt1 (W : World) : (Instr.build 39 #[(1, .agg (d16 1))]).run Tryd.prog W = .ok (.agg (ptC 0 1 0)) W := by kernel_rfl
attribute [local go_sem] zero16 zero48 one16
set_option maxRecDepth 100000 in
set_option maxHeartbeats 4000000 in
theorem times_any (n m g : Nat) (t : T3) (w : World) (hm : FldOK m) (hmp : m = Ec.pp) (ht : t.ok m) (hF : IsField w g m) :
    Calls Tryd.prog 13 #[.pointer (some ⟨g, 0, none⟩), .agg (d16 n), t.v] w fun e w' => e = .returned (sumS m n t 256).v ∧ Below w.heap.size w w' := by
  have HD := Lib.hid (fun k W h => (dblT_is hm hmp (dblS_ok hm hmp ht k)).2.2 g W h)
  have HS := Lib.hid (fun k W h => (sumT_is hm hmp (sumS_ok (n := n) hm hmp ht k) (dblS_ok hm hmp ht k)).2.2 g W h)
  have hd : ∀ k, dblT m (dblS m t k) = dblS m t (k + 1) := fun k => rfl
  simp only [hd] at HD
  have H1 := Lib.hid (fun k h => sumS_one (m := m) (n := n) (t := t) (k := k) h)
  have H0 := Lib.hid (fun k h => sumS_nil (m := m) (n := n) (t := t) (k := k) h)
  have hz : sumS m n t 0 = ⟨0, 1, 0⟩ := rfl
  have hz2 : dblS m t 0 = t := rfl
  have HZ := Lib.hid (And.intro hz hz2)
  clear hm hmp ht hd hz hz2
  generalize sumS m n t = R at *
  generalize dblS m t = D at *
  generalize sumT m = SM at *
  have n0 := d16_ne 0
  have hN : Has (((w.alloc (.cells (d16 n) 32)).alloc (.cells (ptC t.x t.y t.z) 39)).alloc (.cells (ptC 0 0 0) 39)) w.heap.size 32 (d16 n) := ((Has.new w _ _).alloc _).alloc _
  have hP : Has (((w.alloc (.cells (d16 n) 32)).alloc (.cells (ptC t.x t.y t.z) 39)).alloc (.cells (ptC 0 0 0) 39)) (w.heap.size + 1) 39 (ptC t.x t.y t.z) := (Has.new' (by simp)).alloc _
  have hR : Has (((w.alloc (.cells (d16 n) 32)).alloc (.cells (ptC t.x t.y t.z) 39)).alloc (.cells (ptC 0 0 0) 39)) (w.heap.size + 1 + 1) 39 (ptC 0 0 0) := Has.new' (by simp)
  have hb : Below w.heap.size w (((w.alloc (.cells (d16 n) 32)).alloc (.cells (ptC t.x t.y t.z) 39)).alloc (.cells (ptC 0 0 0) 39)) := (((Below.refl _ _).alloc (Nat.le_refl _) _).alloc (by simp) _).alloc (by simp <;> omega) _
  have hg := hF.lt
  replace hF := hF.after hb
  have hp1 := put_at (((w.alloc (.cells (d16 n) 32)).alloc (.cells (ptC t.x t.y t.z) 39)).alloc (.cells (ptC 0 0 0) 39)) 39 (ptC 0 0 0) (ptC 0 1 0) (w.heap.size + 1 + 1 + 1) (by simp)
  replace hN := hN.after hp1.2
  replace hP := hP.after hp1.2
  replace hR := hR.after hp1.2
  replace hF := hF.after hp1.2
  replace hb := below_trans hb hp1.2
  have hQ := hp1.1
  clear hp1
  go_enter Tryd.func13, Tryd.ntmps13
  go_wp2_with (first | refine wpList_parts rfl 39 _ rfl #[(1, .agg (d16 1))] (by simp only [List.map_toArray, List.map_cons, List.map_nil]; rfl) (.agg (ptC 0 1 0)) buildPt1 ?_ | (refine wpList_store_row rfl 39 _ _ rfl (w.heap.size + 1 + 1 + 1) _ rfl rfl 39 (ptC 0 0 0) (Has.new' (by simp)) (infoPt _ _ _) (by simp only [ptC_size]) (tab_oneCell _ _ fun _ => rfl) ?_; generalize hWW : World.setRow _ (w.heap.size + 1 + 1 + 1) _ = W at *; clear hWW))
  go_loopw [8] (fun vi wr => ∃ k : Nat, k ≤ 256 ∧ vi = .int .i64 (k : Int) ∧ Has wr w.heap.size 32 (d16 n) ∧ Has wr (w.heap.size + 1) 39 (ptC (D k).x (D k).y (D k).z) ∧ Has wr (w.heap.size + 1 + 1) 39 (ptC 0 0 0) ∧ Has wr (w.heap.size + 1 + 1 + 1) 39 (ptC (R k).x (R k).y (R k).z) ∧ IsField wr g m ∧ g < w.heap.size ∧ Below w.heap.size w wr) (fun vi _ => 256 - (intOf vi).toNat)
  case atStart => exact ⟨0, by omega, rfl, hN, by rw [HZ.out.2]; exact hP, hR, by rw [HZ.out.1]; exact hQ, hF, hg, hb⟩
  case round =>
    clear hN hP hR hQ hF hb hg
    obtain ⟨k, hk, rfl, hN, hP, hR, hQ, hF, hg, hb⟩ := hrel
    by_cases hlt : k < 256
    · have dk : (k : Int) < 256 := by omega
      obtain ⟨ja, hja⟩ : ∃ a, a = k / 16 := ⟨_, rfl⟩
      obtain ⟨jb, hjb⟩ : ∃ b, b = k % 16 := ⟨_, rfl⟩
      have q1 : (k : Int).tdiv 16 = (ja : Int) := by rw [Int.tdiv_eq_ediv_of_nonneg (by omega)]; omega
      have q2 : (k : Int) / 16 = (ja : Int) := by omega
      have q3 : (k : Int).tmod 16 = (jb : Int) := by rw [Int.tmod_eq_emod_of_nonneg (by omega)]; omega
      have q4 : (k : Int) % 16 = (jb : Int) := by omega
      have q5 : (ja : Int) < 16 := by omega
      have q6 : (jb : Int) < 64 := by omega
      have q7 : min jb 64 = jb := Nat.min_eq_left (by omega)
      have q8 : IntKind.i64.wrap (ja : Int) = (ja : Int) := IntWalk.i64_in _ (by omega)
      have c1 := d16_at hN ja (by omega)
      have hbit := bit_hex n k
      rw [← hja, ← hjb] at hbit
      obtain ⟨s, hs⟩ : ∃ s : Int, s = ((hxd n ja : Nat) : Int) / 2 ^ jb := ⟨_, rfl⟩
      have hs0 : 0 ≤ s := by rw [hs]; exact Int.ediv_nonneg (by omega) (Int.le_of_lt (Int.pow_pos (by decide)))
      have q9 : ((hxd n ja : Nat) : Int) / 2 ^ jb = s := hs.symm
      rw [← hs] at hbit
      have cD := fun W h => HD.out k W h
      have cS := fun W h => HS.out k W h
      have e1 := H1.out k
      have e0 := H0.out k
      generalize hdn : D (k + 1) = dn at *
      have HDN := Lib.hid hdn
      clear hdn
      generalize D k = dk1 at *
      rcases bitA_01 n k with hbt | hbt
      · rw [hbt] at hbit
        have b1 : s % 2 = 0 := hbit
        have b2 : s.tmod 2 = 0 := by rw [Int.tmod_eq_emod_of_nonneg hs0]; exact b1
        have HE := Lib.hid (e0 hbt)
        clear e0 e1 hbt hbit hja hjb hs cS
        go_wp2_with (first | refine wpList_load_has 39 _ rfl _ rfl rfl 39 _ hP _ Tryd.underlying39 rfl (infoPt _ _ _) ?_)
        refine (cD _ hF).mono ?_
        rintro z w2 ⟨rfl, hx⟩
        replace hN := hN.after hx; replace hP := hP.after hx; replace hR := hR.after hx; replace hQ := hQ.after hx; replace hF := hF.after hx; replace hb := below_trans hb hx
        have hold := hP; replace hN := hN.farRow (k := w.heap.size + 1) (by omega) (ptC dn.x dn.y dn.z); replace hP := hP.setRow (ptC dn.x dn.y dn.z); replace hR := hR.farRow (k := w.heap.size + 1) (by omega) (ptC dn.x dn.y dn.z); replace hQ := hQ.farRow (k := w.heap.size + 1) (by omega) (ptC dn.x dn.y dn.z); replace hF := hF.farRow (k := w.heap.size + 1) (by omega) (ptC dn.x dn.y dn.z); replace hb := below_setRow hb (g := w.heap.size + 1) (by omega) (ptC dn.x dn.y dn.z)
        clear c1 cD hx
        go_wp2_with (first | refine wpList_store_row rfl 39 _ _ rfl (w.heap.size + 1) _ rfl rfl 39 _ hold (infoPt _ _ _) (by simp only [ptC_size]) (tab_oneCell _ _ fun _ => rfl) ?_)
        go_roundw
        case rel => exact ⟨k + 1, by omega, by go_num, hN, by rw [HDN.out]; exact hP, hR, by rw [HE.out]; exact hQ, hF, hg, hb⟩
        case measure => simp [intOf]; omega
      · rw [hbt] at hbit
        have b1 : s % 2 = 1 := hbit
        have b2 : s.tmod 2 = 1 := by rw [Int.tmod_eq_emod_of_nonneg hs0]; exact b1
        have HE := Lib.hid (e1 hbt)
        clear e0 e1 hbt hbit hja hjb hs
        generalize SM (R k) dk1 = rn at *
        go_wp2_with (first | refine wpList_load_has 39 _ rfl _ rfl rfl 39 _ hQ _ Tryd.underlying39 rfl (infoPt _ _ _) ?_ | refine wpList_load_has 39 _ rfl _ rfl rfl 39 _ hP _ Tryd.underlying39 rfl (infoPt _ _ _) ?_)
        refine (cS _ hF).mono ?_
        rintro z w2 ⟨rfl, hx⟩
        replace hN := hN.after hx; replace hP := hP.after hx; replace hR := hR.after hx; replace hQ := hQ.after hx; replace hF := hF.after hx; replace hb := below_trans hb hx
        have hold := hQ; replace hN := hN.farRow (k := w.heap.size + 1 + 1 + 1) (by omega) (ptC rn.x rn.y rn.z); replace hP := hP.farRow (k := w.heap.size + 1 + 1 + 1) (by omega) (ptC rn.x rn.y rn.z); replace hR := hR.farRow (k := w.heap.size + 1 + 1 + 1) (by omega) (ptC rn.x rn.y rn.z); replace hQ := hQ.setRow (ptC rn.x rn.y rn.z); replace hF := hF.farRow (k := w.heap.size + 1 + 1 + 1) (by omega) (ptC rn.x rn.y rn.z); replace hb := below_setRow hb (g := w.heap.size + 1 + 1 + 1) (by omega) (ptC rn.x rn.y rn.z)
        clear c1 cS hx
        go_wp2_with (first | (refine wpList_store_row rfl 39 _ _ rfl (w.heap.size + 1 + 1 + 1) _ rfl rfl 39 _ hold (infoPt _ _ _) (by simp only [ptC_size]) (tab_oneCell _ _ fun _ => rfl) ?_; generalize hWW : World.setRow _ (w.heap.size + 1 + 1 + 1) _ = W3x at *; clear hWW) | refine wpList_load_has 39 _ rfl _ rfl rfl 39 _ hP _ Tryd.underlying39 rfl (infoPt _ _ _) ?_)
        refine (cD _ hF).mono ?_
        rintro z w3 ⟨rfl, hx⟩
        replace hN := hN.after hx; replace hP := hP.after hx; replace hR := hR.after hx; replace hQ := hQ.after hx; replace hF := hF.after hx; replace hb := below_trans hb hx
        clear hold
        have hold := hP; replace hN := hN.farRow (k := w.heap.size + 1) (by omega) (ptC dn.x dn.y dn.z); replace hP := hP.setRow (ptC dn.x dn.y dn.z); replace hR := hR.farRow (k := w.heap.size + 1) (by omega) (ptC dn.x dn.y dn.z); replace hQ := hQ.farRow (k := w.heap.size + 1) (by omega) (ptC dn.x dn.y dn.z); replace hF := hF.farRow (k := w.heap.size + 1) (by omega) (ptC dn.x dn.y dn.z); replace hb := below_setRow hb (g := w.heap.size + 1) (by omega) (ptC dn.x dn.y dn.z)
        clear cD hx
        go_wp2_with (first | refine wpList_store_row rfl 39 _ _ rfl (w.heap.size + 1) _ rfl rfl 39 _ hold (infoPt _ _ _) (by simp only [ptC_size]) (tab_oneCell _ _ fun _ => rfl) ?_)
        go_roundw
        case rel => exact ⟨k + 1, by omega, by go_num, hN, by rw [HDN.out]; exact hP, hR, by rw [HE.out]; exact hQ, hF, hg, hb⟩
        case measure => simp [intOf]; omega
    · have hk256 : k = 256 := by omega
      have dk : ¬ (k : Int) < 256 := by omega
      rw [hk256] at hQ
      clear hk256 hlt hk hN hP hF
      generalize hr2 : R 256 = r at *
      have HR2 := Lib.hid hr2
      clear hr2
      go_wp2_with (first | refine wpList_load_has 39 _ rfl _ rfl rfl 39 _ hQ _ Tryd.underlying39 rfl (infoPt _ _ _) ?_ | refine wpList_store_row rfl 39 _ _ rfl (w.heap.size + 1 + 1) _ rfl rfl 39 _ hR (infoPt _ _ _) (by simp only [ptC_size]) (tab_oneCell _ _ fun _ => rfl) ?_)
      exact bodyPost_ret (v := r.v) (results_cell_row rfl _ _ (w.heap.size + 1 + 1) 39 _ _ _ rfl (hR.setRow _) Tryd.underlying39 rfl (infoPt _ _ _)) rfl ⟨by rw [HR2.out], below_setRow hb (by omega) _⟩
end Go.Proofs.YtmgmfifkldpbmaaDoor
namespace Go.Proofs.YtmgmfifkldpbmaaDoor
open Go.RowKit

theorem results_row_row_tmp {P : Program} {fn : Func} {p q u : Tmp} {ty : TypeId} (h : fn.results = #[.cell p ty, .cell q ty, .tmp u]) (tmps : Array Value) (w : World) (g k : Nat) (t s : TypeId) (cs ds : Array Value) (v : Value) (d : TypeDesc)
    (hp : tmps.getD p undef = .pointer (some ⟨g, 0, none⟩)) (hq : tmps.getD q undef = .pointer (some ⟨k, 0, none⟩)) (hv : tmps.getD u undef = v) (hg : Has w g t cs) (hk : Has w k s ds)
    (hu : P.underlying ty = some d) (hd : (match d with | .struct _ | .array _ _ => true | _ => false) = true) (hi : (P.info? ty).map (·.size) = some cs.size) (hj : (P.info? ty).map (·.size) = some ds.size) :
    (results fn tmps).run P w = .ok (.tuple #[.agg cs, .agg ds, v]) w := by
  have hp' : tmps[p]?.getD undef = .pointer (some ⟨g, 0, none⟩) := by simpa using hp
  have hq' : tmps[q]?.getD undef = .pointer (some ⟨k, 0, none⟩) := by simpa using hq
  have hv' : tmps[u]?.getD undef = v := by simpa using hv
  simp [results, h, hp', hq', hv', asAddr, run_loadVar_row w g t ty cs (0, 0) d hg hu hd hi, run_loadVar_row w k s ty ds (0, 0) d hk hu hd hj, Result.andThen]
def refP : Nat := 115792089210356248762697446949407573530086143415290314195533631308867097853951
theorem refP_eq : refP = Ec.pp := rfl
def bN : Nat := 0x5AC635D8AA3A93E7B3EBBD55769886BC651D06B0CC53B0F63BCE3C3E27D2604B
theorem litP : (#[Value.int IntKind.u32 4294967295, Value.int IntKind.u32 4294967295, Value.int IntKind.u32 4294967295, Value.int IntKind.u32 0, Value.int IntKind.u32 0, Value.int IntKind.u32 0, Value.int IntKind.u32 1, Value.int IntKind.u32 4294967295] : Array Value) = nums refP := by kernel_rfl
theorem litB : (#[Value.int IntKind.u32 668098635, Value.int IntKind.u32 1003371582, Value.int IntKind.u32 3428036854, Value.int IntKind.u32 1696401072, Value.int IntKind.u32 1989707452, Value.int IntKind.u32 3018571093, Value.int IntKind.u32 2855965671, Value.int IntKind.u32 1522939352] : Array Value) = nums bN := by kernel_rfl
theorem litX : (#[Value.int IntKind.u32 3633889942, Value.int IntKind.u32 4104206661, Value.int IntKind.u32 770388896, Value.int IntKind.u32 1996717441, Value.int IntKind.u32 1671708914, Value.int IntKind.u32 4173129445, Value.int IntKind.u32 3777774151, Value.int IntKind.u32 1796723186] : Array Value) = nums Ec.gX := by kernel_rfl
theorem litY : (#[Value.int IntKind.u32 935285237, Value.int IntKind.u32 3417718888, Value.int IntKind.u32 1798397646, Value.int IntKind.u32 734933847, Value.int IntKind.u32 2081398294, Value.int IntKind.u32 2397563722, Value.int IntKind.u32 4263149467, Value.int IntKind.u32 1340293858] : Array Value) = nums Ec.gY := by kernel_rfl
attribute [local go_sem] litP litB litX litY zero16 zero48 one16
set_option maxRecDepth 100000 in
set_option maxHeartbeats 4000000 in
theorem refP_any (w : World) : Calls Tryd.prog 10 #[] w fun e w' => e = .returned (.agg (d16 refP)) ∧ Below w.heap.size w w' := by
  have hR : Has (w.alloc (.cells (d16 0) 32)) w.heap.size 32 (d16 0) := Has.new _ _ _
  have hb0 : Below w.heap.size w (w.alloc (.cells (d16 0) 32)) := (Below.refl _ _).alloc (Nat.le_refl _) _
  have n0 := d16_ne 0
  have cO := fun W => of3_any refP W
  go_enter Tryd.func10, Tryd.ntmps10
  go_wp2_with fail
  refine (cO _).mono ?_
  rintro e w1 ⟨rfl, hx⟩
  replace hR := hR.after hx
  replace hb0 := below_trans hb0 hx
  clear hx
  go_wp2_with (first | refine wpList_store_row rfl 32 _ _ rfl (w.heap.size) _ rfl rfl 32 _ hR (info16 _) (by simp only [d16_size]) (tab_oneCell _ _ fun _ => rfl) ?_)
  exact bodyPost_ret (v := .agg (d16 refP)) (results_cell_row rfl _ _ w.heap.size 32 _ _ _ rfl (hR.setRow _) Tryd.underlying32 rfl (info16 _)) rfl ⟨rfl, below_setRow hb0 (by omega) _⟩
set_option maxRecDepth 100000 in
set_option maxHeartbeats 4000000 in
theorem refB_any (w : World) : Calls Tryd.prog 47 #[] w fun e w' => e = .returned (.agg (d16 bN)) ∧ Below w.heap.size w w' := by
  have hR : Has (w.alloc (.cells (d16 0) 32)) w.heap.size 32 (d16 0) := Has.new _ _ _
  have hb0 : Below w.heap.size w (w.alloc (.cells (d16 0) 32)) := (Below.refl _ _).alloc (Nat.le_refl _) _
  have n0 := d16_ne 0
  have cO := fun W => of3_any bN W
  go_enter Tryd.func47, Tryd.ntmps47
  go_wp2_with fail
  refine (cO _).mono ?_
  rintro e w1 ⟨rfl, hx⟩
  replace hR := hR.after hx
  replace hb0 := below_trans hb0 hx
  clear hx
  go_wp2_with (first | refine wpList_store_row rfl 32 _ _ rfl (w.heap.size) _ rfl rfl 32 _ hR (info16 _) (by simp only [d16_size]) (tab_oneCell _ _ fun _ => rfl) ?_)
  exact bodyPost_ret (v := .agg (d16 bN)) (results_cell_row rfl _ _ w.heap.size 32 _ _ _ rfl (hR.setRow _) Tryd.underlying32 rfl (info16 _)) rfl ⟨rfl, below_setRow hb0 (by omega) _⟩
set_option maxRecDepth 100000 in
set_option maxHeartbeats 4000000 in
theorem refBase_any (w : World) : Calls Tryd.prog 15 #[] w fun e w' => e = .returned (.agg (ptC Ec.gX Ec.gY 1)) ∧ Below w.heap.size w w' := by
  have hR : Has (w.alloc (.cells (ptC 0 0 0) 39)) w.heap.size 39 (ptC 0 0 0) := Has.new _ _ _
  have hb0 : Below w.heap.size w (w.alloc (.cells (ptC 0 0 0) 39)) := (Below.refl _ _).alloc (Nat.le_refl _) _
  have n0 := d16_ne 0
  have cX := fun W => of3_any Ec.gX W
  have cY := fun W => of3_any Ec.gY W
  go_enter Tryd.func15, Tryd.ntmps15
  go_wp2_with fail
  refine (cX _).mono ?_
  rintro e w1 ⟨rfl, hx⟩
  have hN := put_new w1 32 (d16 0) (d16 Ec.gX)
  replace hR := (hR.after hx).after hN.2
  replace hb0 := below_trans (below_trans hb0 hx) hN.2
  have hX := hN.1
  clear hx hN
  go_wp2_with (first | (refine wpList_store_row rfl 32 _ _ rfl w1.heap.size _ rfl rfl 32 (d16 0) (Has.new' rfl) (info16 _) (by simp only [d16_size]) (tab_oneCell _ _ fun _ => rfl) ?_; generalize hWW : World.setRow _ _ _ = W1 at *; clear hWW))
  refine (cY _).mono ?_
  rintro e w2 ⟨rfl, hx⟩
  have hN := put_new w2 32 (d16 0) (d16 Ec.gY)
  replace hR := (hR.after hx).after hN.2
  replace hX := (hX.after hx).after hN.2
  replace hb0 := below_trans (below_trans hb0 hx) hN.2
  have hY := hN.1
  clear hx hN
  go_wp2_with (first | (refine wpList_store_row rfl 32 _ _ rfl w2.heap.size _ rfl rfl 32 (d16 0) (Has.new' rfl) (info16 _) (by simp only [d16_size]) (tab_oneCell _ _ fun _ => rfl) ?_; generalize hWW : World.setRow _ _ _ = W2 at *; clear hWW) | refine wpList_load_has 32 _ rfl _ rfl rfl 32 _ hX _ Tryd.underlying32 rfl (info16 _) ?_ | refine wpList_load_has 32 _ rfl _ rfl rfl 32 _ hY _ Tryd.underlying32 rfl (info16 _) ?_ | refine wpList_parts rfl 39 _ rfl #[(0, .agg (d16 Ec.gX)), (1, .agg (d16 Ec.gY)), (2, .agg (d16 1))] (by simp only [List.map_toArray, List.map_cons, List.map_nil]; rfl) (.agg (ptC Ec.gX Ec.gY 1)) (buildPt Ec.gX Ec.gY 1) ?_ | refine wpList_store_row rfl 39 _ _ rfl (w.heap.size) _ rfl rfl 39 _ hR (infoPt _ _ _) (by simp only [ptC_size]) (tab_oneCell _ _ fun _ => rfl) ?_)
  exact bodyPost_ret (v := .agg (ptC Ec.gX Ec.gY 1)) (results_cell_row rfl _ _ w.heap.size 39 _ _ _ rfl (hR.setRow _) Tryd.underlying39 rfl (infoPt _ _ _)) rfl ⟨rfl, below_setRow hb0 (by omega) _⟩
set_option maxRecDepth 100000 in
set_option maxHeartbeats 4000000 in
theorem plain_z (X Y g : Nat) (w : World) : Calls Tryd.prog 33 #[.pointer (some ⟨g, 0, none⟩), .agg (ptC X Y 0)] w fun e w' => e = .returned (.tuple #[.agg (d16 0), .agg (d16 0), .bool false]) ∧ Below w.heap.size w w' := by
  obtain ⟨Z, hZ⟩ : ∃ Z : Nat, Z = 0 := ⟨_, rfl⟩
  have hz : ∀ W, (binOp .eql 32 (.agg (d16 Z)) (.agg (d16 0))).run Tryd.prog W = .ok (.bool true) W := fun W => by rw [hZ]; exact hexZ W
  have ep : ptC X Y 0 = ptC X Y Z := by rw [hZ]
  rw [ep]
  clear hZ ep
  have n0 := d16_ne 0
  have hP : Has (((w.alloc (.cells (ptC X Y Z) 39)).alloc (.cells (d16 0) 32)).alloc (.cells (d16 0) 32)) w.heap.size 39 (ptC X Y Z) := ((Has.new w _ _).alloc _).alloc _
  have hA : Has (((w.alloc (.cells (ptC X Y Z) 39)).alloc (.cells (d16 0) 32)).alloc (.cells (d16 0) 32)) (w.heap.size + 1) 32 (d16 0) := (Has.new' (by simp)).alloc _
  have hB : Has (((w.alloc (.cells (ptC X Y Z) 39)).alloc (.cells (d16 0) 32)).alloc (.cells (d16 0) 32)) (w.heap.size + 1 + 1) 32 (d16 0) := Has.new' (by simp)
  have hb0 : Below w.heap.size w (((w.alloc (.cells (ptC X Y Z) 39)).alloc (.cells (d16 0) 32)).alloc (.cells (d16 0) 32)) := (((Below.refl _ _).alloc (Nat.le_refl _) _).alloc (by simp) _).alloc (by simp <;> omega) _
  have hA2 := hA.setRow (d16 0)
  have hB2 := hB.farRow (k := w.heap.size + 1) (by omega) (d16 0)
  have hb2 := below_setRow hb0 (g := w.heap.size + 1) (by omega) (d16 0)
  go_enter Tryd.func33, Tryd.ntmps33
  go_wp2_with (first | refine wpList_load_hex rfl _ rfl (w.heap.size) 32 rfl Z (pt_z hP) ?_ | refine wpList_store_row rfl 32 _ _ rfl (w.heap.size + 1) _ rfl rfl 32 _ hA (info16 _) (by simp only [d16_size]) (tab_oneCell _ _ fun _ => rfl) ?_ | refine wpList_store_row rfl 32 _ _ rfl (w.heap.size + 1 + 1) _ rfl rfl 32 _ hB2 (info16 _) (by simp only [d16_size]) (tab_oneCell _ _ fun _ => rfl) ?_)
  exact bodyPost_ret (results_row_row_tmp rfl _ _ (w.heap.size + 1) (w.heap.size + 1 + 1) 32 32 _ _ _ _ rfl rfl rfl (hA2.farRow (by omega) _) (hB2.setRow _) Tryd.underlying32 rfl (info16 _) (info16 _)) rfl ⟨rfl, below_setRow hb2 (by omega) _⟩
set_option maxRecDepth 100000 in
set_option maxHeartbeats 4000000 in
theorem plain_nz (X Y Z g m : Nat) (w : World) (hF : IsField w g m) (hm : FldOK m) (lX : X < m) (lY : Y < m) (lZ : Z < m) (hz : Z ≠ 0) :
    Calls Tryd.prog 33 #[.pointer (some ⟨g, 0, none⟩), .agg (ptC X Y Z)] w fun e w' => e = .returned (.tuple #[.agg (d16 (X * (Z ^ (m - 2) % m) % m)), .agg (d16 (Y * (Z ^ (m - 2) % m) % m)), .bool true]) ∧ Below w.heap.size w w' := by
  have cI := fun W h => finv_c Z m g W h hm lZ
  have li : Z ^ (m - 2) % m < m := Nat.mod_lt _ hm.1
  have hn := hexNe Z m hm lZ hz
  generalize Z ^ (m - 2) % m = i at *
  have cX := fun g W (h : IsField W g m) => fmul_c X i m g W h hm lX li
  have cY := fun g W (h : IsField W g m) => fmul_c Y i m g W h hm lY li
  clear hm lX lY lZ li hz
  generalize X * i % m = x at *
  generalize Y * i % m = y at *
  have n0 := d16_ne 0
  have hP : Has (((w.alloc (.cells (ptC X Y Z) 39)).alloc (.cells (d16 0) 32)).alloc (.cells (d16 0) 32)) w.heap.size 39 (ptC X Y Z) := ((Has.new w _ _).alloc _).alloc _
  have hA : Has (((w.alloc (.cells (ptC X Y Z) 39)).alloc (.cells (d16 0) 32)).alloc (.cells (d16 0) 32)) (w.heap.size + 1) 32 (d16 0) := (Has.new' (by simp)).alloc _
  have hB : Has (((w.alloc (.cells (ptC X Y Z) 39)).alloc (.cells (d16 0) 32)).alloc (.cells (d16 0) 32)) (w.heap.size + 1 + 1) 32 (d16 0) := Has.new' (by simp)
  have hb0 : Below w.heap.size w (((w.alloc (.cells (ptC X Y Z) 39)).alloc (.cells (d16 0) 32)).alloc (.cells (d16 0) 32)) := (((Below.refl _ _).alloc (Nat.le_refl _) _).alloc (by simp) _).alloc (by simp <;> omega) _
  replace hF := hF.after hb0
  go_enter Tryd.func33, Tryd.ntmps33
  go_wp2_with (first | refine wpList_load_hex rfl _ rfl (w.heap.size) 32 rfl Z (pt_z hP) ?_)
  refine (cI _ hF).mono ?_
  rintro e u1 ⟨rfl, hx⟩
  have hN := put_new u1 32 (d16 0) (d16 i)
  replace hP := (hP.after hx).after hN.2
  replace hA := (hA.after hx).after hN.2
  replace hB := (hB.after hx).after hN.2
  replace hF := (hF.after hx).after hN.2
  replace hb0 := below_trans (below_trans hb0 hx) hN.2
  have hI := hN.1
  clear hx hN cI hn
  go_wp2_with (first | (refine wpList_store_row rfl 32 _ _ rfl u1.heap.size _ rfl rfl 32 (d16 0) (Has.new' rfl) (info16 _) (by simp only [d16_size]) (tab_oneCell _ _ fun _ => rfl) ?_; generalize hWW : World.setRow _ _ _ = U1 at *; clear hWW))
  refine region_quiet_tail (Below U1.heap.size U1) 10 (by kernel_rfl) (by kernel_rfl) (below_drewN (Below.refl _ _) 1) ?_
  simp only [List.take_succ_cons, List.take_zero, List.drop_succ_cons, List.drop_zero]
  refine wpQ_move _ rfl rfl (.pointer (some ⟨g, 0, none⟩)) rfl ?_
  simp only [Act.put, List.setIfInBounds_toArray, List.set_cons_zero, List.set_cons_succ]
  refine wpQ_val rfl (.pointer (some ⟨w.heap.size, 0, none⟩)) (fun w' _ => by go_simp) ?_
  simp only [Act.put, List.setIfInBounds_toArray, List.set_cons_zero, List.set_cons_succ]
  refine wpQ_load_hex rfl _ rfl (w.heap.size) 0 rfl X (fun w' hC => pt_x (hP.after hC)) ?_
  simp only [Act.put, List.setIfInBounds_toArray, List.set_cons_zero, List.set_cons_succ]
  refine wpQ_has 32 _ rfl _ rfl rfl 32 _ (fun w' hC => hI.after hC) _ Tryd.underlying32 rfl (info16 _) ?_
  simp only [Act.put, List.setIfInBounds_toArray, List.set_cons_zero, List.set_cons_succ]
  refine wpQ_fn 44 _ _ rfl rfl #[.pointer (some ⟨g, 0, none⟩), .agg (d16 X), .agg (d16 i)] rfl (fun _ => by go_simp) (.agg (d16 x)) (fun w' hC => (cX _ w' (hF.after hC)).mono fun e w'' ⟨he, hb⟩ => ⟨he, below_class hC hb⟩) ?_
  simp only [Act.put, List.setIfInBounds_toArray, List.set_cons_zero, List.set_cons_succ]
  refine wpQ_move _ rfl rfl (.pointer (some ⟨g, 0, none⟩)) rfl ?_
  simp only [Act.put, List.setIfInBounds_toArray, List.set_cons_zero, List.set_cons_succ]
  refine wpQ_val rfl (.pointer (some ⟨w.heap.size, 16, none⟩)) (fun w' _ => by go_simp) ?_
  simp only [Act.put, List.setIfInBounds_toArray, List.set_cons_zero, List.set_cons_succ]
  refine wpQ_load_hex rfl _ rfl (w.heap.size) 16 rfl Y (fun w' hC => pt_y (hP.after hC)) ?_
  simp only [Act.put, List.setIfInBounds_toArray, List.set_cons_zero, List.set_cons_succ]
  refine wpQ_has 32 _ rfl _ rfl rfl 32 _ (fun w' hC => hI.after hC) _ Tryd.underlying32 rfl (info16 _) ?_
  simp only [Act.put, List.setIfInBounds_toArray, List.set_cons_zero, List.set_cons_succ]
  refine wpQ_fn 44 _ _ rfl rfl #[.pointer (some ⟨g, 0, none⟩), .agg (d16 Y), .agg (d16 i)] rfl (fun _ => by go_simp) (.agg (d16 y)) (fun w' hC => (cY _ w' (hF.after hC)).mono fun e w'' ⟨he, hb⟩ => ⟨he, below_class hC hb⟩) ?_
  simp only [Act.put, List.setIfInBounds_toArray, List.set_cons_zero, List.set_cons_succ]
  refine wpQuiet_nil ?_
  intro u2 hC
  replace hA := hA.after hC
  replace hB := hB.after hC
  replace hb0 := below_trans hb0 hC
  clear hC hP hI hF cX cY
  have hA2 := hA.setRow (d16 x)
  have hB2 := hB.farRow (k := w.heap.size + 1) (by omega) (d16 x)
  have hb2 := below_setRow hb0 (g := w.heap.size + 1) (by omega) (d16 x)
  go_wp2_with (first | refine wpList_store_row rfl 32 _ _ rfl (w.heap.size + 1) _ rfl rfl 32 _ hA (info16 _) (by simp only [d16_size]) (tab_oneCell _ _ fun _ => rfl) ?_ | refine wpList_store_row rfl 32 _ _ rfl (w.heap.size + 1 + 1) _ rfl rfl 32 _ hB2 (info16 _) (by simp only [d16_size]) (tab_oneCell _ _ fun _ => rfl) ?_)
  exact bodyPost_ret (results_row_row_tmp rfl _ _ (w.heap.size + 1) (w.heap.size + 1 + 1) 32 32 _ _ _ _ rfl rfl rfl (hA2.farRow (by omega) _) (hB2.setRow _) Tryd.underlying32 rfl (info16 _) (info16 _)) rfl ⟨rfl, below_setRow hb2 (by omega) _⟩
end Go.Proofs.YtmgmfifkldpbmaaDoor
namespace Go.Proofs.YtmgmfifkldpbmaaDoor
open Go.RowKit

theorem c_inj {a b : Nat} (ha : a < Ec.pp) (hb : b < Ec.pp) (h : Ec.c a = Ec.c b) : a = b := by
  have h2 : a % Ec.pp = b % Ec.pp := congrArg Fin.val h
  rw [Nat.mod_eq_of_lt ha, Nat.mod_eq_of_lt hb] at h2
  exact h2
theorem cB_eq : Ec.c bN = Ec.cB := rfl
attribute [local go_sem] zero16 one16
set_option maxRecDepth 100000 in
set_option maxHeartbeats 4000000 in
theorem on_ex (x y m : Nat) (hm : FldOK m) (hmp : m = Ec.pp) (lx : x < m) (ly : y < m) :
    ∃ b : Bool, (b = true ↔ Ec.OnP (some (Ec.c x, Ec.c y))) ∧ ∀ g w, IsField w g m → Calls Tryd.prog 24 #[.pointer (some ⟨g, 0, none⟩), .agg (d16 x), .agg (d16 y)] w fun e w' => e = .returned (.bool b) ∧ Below w.heap.size w w' := by
  have m0 := hm.1
  have lbN : bN < m := by rw [hmp]; decide
  obtain ⟨v1, ev1⟩ : ∃ v, v = y * y % m := ⟨_, rfl⟩
  have lv1 : v1 < m := by rw [ev1]; exact Nat.mod_lt _ m0
  have kv1 := fun g W (h : IsField W g m) => fmul_c y y m g W h hm ly ly
  rw [← ev1] at kv1
  have cv1 : Ec.c v1 = Ec.c y * Ec.c y := by rw [ev1]; exact cm hmp y y
  obtain ⟨v2, ev2⟩ : ∃ v, v = x * x % m := ⟨_, rfl⟩
  have lv2 : v2 < m := by rw [ev2]; exact Nat.mod_lt _ m0
  have kv2 := fun g W (h : IsField W g m) => fmul_c x x m g W h hm lx lx
  rw [← ev2] at kv2
  have cv2 : Ec.c v2 = Ec.c x * Ec.c x := by rw [ev2]; exact cm hmp x x
  obtain ⟨v3, ev3⟩ : ∃ v, v = v2 * x % m := ⟨_, rfl⟩
  have lv3 : v3 < m := by rw [ev3]; exact Nat.mod_lt _ m0
  have kv3 := fun g W (h : IsField W g m) => fmul_c v2 x m g W h hm lv2 lx
  rw [← ev3] at kv3
  have cv3 : Ec.c v3 = Ec.c v2 * Ec.c x := by rw [ev3]; exact cm hmp v2 x
  obtain ⟨v4, ev4⟩ : ∃ v, v = (x + x) % m := ⟨_, rfl⟩
  have lv4 : v4 < m := by rw [ev4]; exact Nat.mod_lt _ m0
  have kv4 := fun g W (h : IsField W g m) => fadd_c x x m g W h hm lx lx
  rw [← ev4] at kv4
  have cv4 : Ec.c v4 = Ec.c x + Ec.c x := by rw [ev4]; exact ca hmp x x
  obtain ⟨v5, ev5⟩ : ∃ v, v = (v4 + x) % m := ⟨_, rfl⟩
  have lv5 : v5 < m := by rw [ev5]; exact Nat.mod_lt _ m0
  have kv5 := fun g W (h : IsField W g m) => fadd_c v4 x m g W h hm lv4 lx
  rw [← ev5] at kv5
  have cv5 : Ec.c v5 = Ec.c v4 + Ec.c x := by rw [ev5]; exact ca hmp v4 x
  obtain ⟨v6, ev6⟩ : ∃ v, v = (v3 + (m - v5)) % m := ⟨_, rfl⟩
  have lv6 : v6 < m := by rw [ev6]; exact Nat.mod_lt _ m0
  have kv6 := fun g W (h : IsField W g m) => fsub_c v3 v5 m g W h hm lv3 lv5
  rw [← ev6] at kv6
  have cv6 : Ec.c v6 = Ec.c v3 - Ec.c v5 := by rw [ev6]; exact cs hmp v3 v5 (Nat.le_of_lt lv5)
  obtain ⟨v7, ev7⟩ : ∃ v, v = (v6 + bN) % m := ⟨_, rfl⟩
  have lv7 : v7 < m := by rw [ev7]; exact Nat.mod_lt _ m0
  have kv7 := fun g W (h : IsField W g m) => fadd_c v6 bN m g W h hm lv6 lbN
  rw [← ev7] at kv7
  have cv7 : Ec.c v7 = Ec.c v6 + Ec.c bN := by rw [ev7]; exact ca hmp v6 bN
  refine ⟨decide (v1 = v7), ?_, fun g w hF => ?_⟩
  · rw [decide_eq_true_iff]
    have key : Ec.c v1 = Ec.c v7 ↔ Ec.OnP (some (Ec.c x, Ec.c y)) := by
      simp only [Ec.OnP, Ec.On]
      rw [cv7, cv6, cv5, cv4, cv3, cv2, cv1, cB_eq]
      unfold Ec.cA
      clear cv1 cv2 cv3 cv4 cv5 cv6 cv7
      constructor
      · intro h; rw [h]; clear h; grobner
      · intro h; rw [h]; clear h; grobner
    rw [← key]
    exact ⟨fun h => by rw [h], fun h => c_inj (by rw [← hmp]; exact lv1) (by rw [← hmp]; exact lv7) h⟩
  have he := fun W => hexEql v1 v7 (by have := hm.2.1; omega) (by have := hm.2.1; omega) W
  generalize decide (v1 = v7) = b at *
  clear ev1 cv1 lv1 ev2 cv2 lv2 ev3 cv3 lv3 ev4 cv4 lv4 ev5 cv5 lv5 ev6 cv6 lv6 ev7 cv7 lv7 hm hmp lx ly m0 lbN
  have n0 := d16_ne 0
  have hX : Has ((w.alloc (.cells (d16 x) 32)).alloc (.cells (d16 y) 32)) w.heap.size 32 (d16 x) := (Has.new w _ _).alloc _
  have hY : Has ((w.alloc (.cells (d16 x) 32)).alloc (.cells (d16 y) 32)) (w.heap.size + 1) 32 (d16 y) := Has.new' (by simp)
  have hb0 : Below w.heap.size w ((w.alloc (.cells (d16 x) 32)).alloc (.cells (d16 y) 32)) := ((Below.refl _ _).alloc (Nat.le_refl _) _).alloc (by simp) _
  replace hF := hF.after hb0
  go_enter Tryd.func24, Tryd.ntmps24
  go_wp2_with (first | refine wpList_load_has 32 _ rfl _ rfl rfl 32 _ hY _ Tryd.underlying32 rfl (info16 _) ?_)
  refine (kv1 _ _ hF).mono ?_
  rintro e u1 ⟨rfl, hx⟩
  have ohX_1 := (hX.after hx).lt
  have ohY_1 := (hY.after hx).lt
  have hN := put_new u1 32 (d16 0) (d16 v1)
  replace hX := (hX.after hx).after hN.2
  replace hY := (hY.after hx).after hN.2
  replace hF := (hF.after hx).after hN.2
  replace hb0 := below_trans (below_trans hb0 hx) hN.2
  have hv_v1 := hN.1
  clear hx hN
  go_wp2_with (first | (refine wpList_store_row rfl 32 _ _ rfl u1.heap.size _ rfl rfl 32 (d16 0) (Has.new' rfl) (info16 _) (by simp only [d16_size]) (tab_oneCell _ _ fun _ => rfl) ?_; generalize hWW : World.setRow _ u1.heap.size _ = U1 at *; clear hWW))
  have ohX_2 := hX.lt
  have ohY_2 := hY.lt
  have ohv_v1_2 := hv_v1.lt
  have ohF_2 := hF.lt
  refine region_facts 20 [] [.val (.pointer (some ⟨g, 0, none⟩)), .val (.pointer (some ⟨g, 0, none⟩)), .val (.pointer (some ⟨g, 0, none⟩)), .val (.pointer (some ⟨g, 0, none⟩)), .val (.agg (d16 (x))), .val (.agg (d16 (x))), .val (.agg (d16 (v2))), .val (.agg (d16 (x))), .val (.agg (d16 (v3))), .val (.pointer (some ⟨g, 0, none⟩)), .val (.pointer (some ⟨g, 0, none⟩)), .val (.agg (d16 (x))), .val (.agg (d16 (x))), .val (.agg (d16 (v4))), .val (.agg (d16 (x))), .val (.agg (d16 (v5))), .val (.agg (d16 (v6))), .val (.agg (d16 (bN))), .val (.agg (d16 (v7))), .new 32 (d16 0)]
    (by kernel_rfl) (by kernel_rfl) (fun _ _ _ _ _ h => h) ?_ ?_
  · simp only [List.take_succ_cons, List.take_zero, StepsOK]
    refine ⟨?_, ?_, ?_, ?_, ?_, ?_, ?_, ?_, ?_, ?_, ?_, ?_, ?_, ?_, ?_, ?_, ?_, ?_, ?_, ?_, trivial⟩
    · intro v w' hb hf K hKt
      simp only [putAll, Act.put, List.setIfInBounds_toArray, List.set_cons_zero, List.set_cons_succ, Nat.zero_add, Nat.reduceAdd] at hKt ⊢
      go_simp
      exact hKt _ (Below.refl _ _)
    · intro v w' hb hf K hKt
      simp only [putAll, Act.put, List.setIfInBounds_toArray, List.set_cons_zero, List.set_cons_succ, Nat.zero_add, Nat.reduceAdd] at hKt ⊢
      go_simp
      exact hKt _ (Below.refl _ _)
    · intro v w' hb hf K hKt
      simp only [putAll, Act.put, List.setIfInBounds_toArray, List.set_cons_zero, List.set_cons_succ, Nat.zero_add, Nat.reduceAdd] at hKt ⊢
      go_simp
      exact hKt _ (Below.refl _ _)
    · intro v w' hb hf K hKt
      simp only [putAll, Act.put, List.setIfInBounds_toArray, List.set_cons_zero, List.set_cons_succ, Nat.zero_add, Nat.reduceAdd] at hKt ⊢
      go_simp
      exact hKt _ (Below.refl _ _)
    · intro v w' hb hf K hKt
      simp only [putAll, Act.put, List.setIfInBounds_toArray, List.set_cons_zero, List.set_cons_succ, Nat.zero_add, Nat.reduceAdd] at hKt ⊢
      exact wp_load_row 32 _ rfl (w.heap.size) rfl 32 _ (0, 0) _ (hX.after hb) Tryd.underlying32 rfl (info16 _) (hKt _ (Below.refl _ _))
    · intro v w' hb hf K hKt
      simp only [putAll, Act.put, List.setIfInBounds_toArray, List.set_cons_zero, List.set_cons_succ, Nat.zero_add, Nat.reduceAdd] at hKt ⊢
      exact wp_load_row 32 _ rfl (w.heap.size) rfl 32 _ (0, 0) _ (hX.after hb) Tryd.underlying32 rfl (info16 _) (hKt _ (Below.refl _ _))
    · intro v w' hb hf K hKt
      have f3 : v 3 = _ := hf ⟨3, .data⟩ (by simp) rfl
      have f4 : v 4 = _ := hf ⟨4, .data⟩ (by simp) rfl
      have f5 : v 5 = _ := hf ⟨5, .data⟩ (by simp) rfl
      simp only [putAll, Act.put, List.setIfInBounds_toArray, List.set_cons_zero, List.set_cons_succ, Nat.zero_add, Nat.reduceAdd] at hKt ⊢
      rw [f3, f4, f5] at hKt ⊢
      go_simp
      refine (kv2 _ w' (hF.after hb)).mono ?_
      rintro e w'' ⟨rfl, hb2⟩
      exact hKt _ hb2
    · intro v w' hb hf K hKt
      simp only [putAll, Act.put, List.setIfInBounds_toArray, List.set_cons_zero, List.set_cons_succ, Nat.zero_add, Nat.reduceAdd] at hKt ⊢
      exact wp_load_row 32 _ rfl (w.heap.size) rfl 32 _ (0, 0) _ (hX.after hb) Tryd.underlying32 rfl (info16 _) (hKt _ (Below.refl _ _))
    · intro v w' hb hf K hKt
      have f2 : v 2 = _ := hf ⟨2, .data⟩ (by simp) rfl
      have f6 : v 6 = _ := hf ⟨6, .data⟩ (by simp) rfl
      have f7 : v 7 = _ := hf ⟨7, .data⟩ (by simp) rfl
      simp only [putAll, Act.put, List.setIfInBounds_toArray, List.set_cons_zero, List.set_cons_succ, Nat.zero_add, Nat.reduceAdd] at hKt ⊢
      rw [f2, f6, f7] at hKt ⊢
      go_simp
      refine (kv3 _ w' (hF.after hb)).mono ?_
      rintro e w'' ⟨rfl, hb2⟩
      exact hKt _ hb2
    · intro v w' hb hf K hKt
      simp only [putAll, Act.put, List.setIfInBounds_toArray, List.set_cons_zero, List.set_cons_succ, Nat.zero_add, Nat.reduceAdd] at hKt ⊢
      go_simp
      exact hKt _ (Below.refl _ _)
    · intro v w' hb hf K hKt
      simp only [putAll, Act.put, List.setIfInBounds_toArray, List.set_cons_zero, List.set_cons_succ, Nat.zero_add, Nat.reduceAdd] at hKt ⊢
      go_simp
      exact hKt _ (Below.refl _ _)
    · intro v w' hb hf K hKt
      simp only [putAll, Act.put, List.setIfInBounds_toArray, List.set_cons_zero, List.set_cons_succ, Nat.zero_add, Nat.reduceAdd] at hKt ⊢
      exact wp_load_row 32 _ rfl (w.heap.size) rfl 32 _ (0, 0) _ (hX.after hb) Tryd.underlying32 rfl (info16 _) (hKt _ (Below.refl _ _))
    · intro v w' hb hf K hKt
      simp only [putAll, Act.put, List.setIfInBounds_toArray, List.set_cons_zero, List.set_cons_succ, Nat.zero_add, Nat.reduceAdd] at hKt ⊢
      exact wp_load_row 32 _ rfl (w.heap.size) rfl 32 _ (0, 0) _ (hX.after hb) Tryd.underlying32 rfl (info16 _) (hKt _ (Below.refl _ _))
    · intro v w' hb hf K hKt
      have f10 : v 10 = _ := hf ⟨10, .data⟩ (by simp) rfl
      have f11 : v 11 = _ := hf ⟨11, .data⟩ (by simp) rfl
      have f12 : v 12 = _ := hf ⟨12, .data⟩ (by simp) rfl
      simp only [putAll, Act.put, List.setIfInBounds_toArray, List.set_cons_zero, List.set_cons_succ, Nat.zero_add, Nat.reduceAdd] at hKt ⊢
      rw [f10, f11, f12] at hKt ⊢
      go_simp
      refine (kv4 _ w' (hF.after hb)).mono ?_
      rintro e w'' ⟨rfl, hb2⟩
      exact hKt _ hb2
    · intro v w' hb hf K hKt
      simp only [putAll, Act.put, List.setIfInBounds_toArray, List.set_cons_zero, List.set_cons_succ, Nat.zero_add, Nat.reduceAdd] at hKt ⊢
      exact wp_load_row 32 _ rfl (w.heap.size) rfl 32 _ (0, 0) _ (hX.after hb) Tryd.underlying32 rfl (info16 _) (hKt _ (Below.refl _ _))
    · intro v w' hb hf K hKt
      have f9 : v 9 = _ := hf ⟨9, .data⟩ (by simp) rfl
      have f13 : v 13 = _ := hf ⟨13, .data⟩ (by simp) rfl
      have f14 : v 14 = _ := hf ⟨14, .data⟩ (by simp) rfl
      simp only [putAll, Act.put, List.setIfInBounds_toArray, List.set_cons_zero, List.set_cons_succ, Nat.zero_add, Nat.reduceAdd] at hKt ⊢
      rw [f9, f13, f14] at hKt ⊢
      go_simp
      refine (kv5 _ w' (hF.after hb)).mono ?_
      rintro e w'' ⟨rfl, hb2⟩
      exact hKt _ hb2
    · intro v w' hb hf K hKt
      have f1 : v 1 = _ := hf ⟨1, .data⟩ (by simp) rfl
      have f8 : v 8 = _ := hf ⟨8, .data⟩ (by simp) rfl
      have f15 : v 15 = _ := hf ⟨15, .data⟩ (by simp) rfl
      simp only [putAll, Act.put, List.setIfInBounds_toArray, List.set_cons_zero, List.set_cons_succ, Nat.zero_add, Nat.reduceAdd] at hKt ⊢
      rw [f1, f8, f15] at hKt ⊢
      go_simp
      refine (kv6 _ w' (hF.after hb)).mono ?_
      rintro e w'' ⟨rfl, hb2⟩
      exact hKt _ hb2
    · intro v w' hb hf K hKt
      simp only [putAll, Act.put, List.setIfInBounds_toArray, List.set_cons_zero, List.set_cons_succ, Nat.zero_add, Nat.reduceAdd] at hKt ⊢
      go_simp
      refine (refB_any w').mono ?_
      rintro e w'' ⟨rfl, hb2⟩
      exact hKt _ hb2
    · intro v w' hb hf K hKt
      have f0 : v 0 = _ := hf ⟨0, .data⟩ (by simp) rfl
      have f16 : v 16 = _ := hf ⟨16, .data⟩ (by simp) rfl
      have f17 : v 17 = _ := hf ⟨17, .data⟩ (by simp) rfl
      simp only [putAll, Act.put, List.setIfInBounds_toArray, List.set_cons_zero, List.set_cons_succ, Nat.zero_add, Nat.reduceAdd] at hKt ⊢
      rw [f0, f16, f17] at hKt ⊢
      go_simp
      refine (kv7 _ w' (hF.after hb)).mono ?_
      rintro e w'' ⟨rfl, hb2⟩
      exact hKt _ hb2
    · exact ⟨rfl, rfl, zeroV16⟩
  intro v u2 hb hF hD
  have f0 : v 0 = _ := hF 0 (by decide)
  have f1 : v 1 = _ := hF 1 (by decide)
  have f2 : v 2 = _ := hF 2 (by decide)
  have f3 : v 3 = _ := hF 3 (by decide)
  have f4 : v 4 = _ := hF 4 (by decide)
  have f5 : v 5 = _ := hF 5 (by decide)
  have f6 : v 6 = _ := hF 6 (by decide)
  have f7 : v 7 = _ := hF 7 (by decide)
  have f8 : v 8 = _ := hF 8 (by decide)
  have f9 : v 9 = _ := hF 9 (by decide)
  have f10 : v 10 = _ := hF 10 (by decide)
  have f11 : v 11 = _ := hF 11 (by decide)
  have f12 : v 12 = _ := hF 12 (by decide)
  have f13 : v 13 = _ := hF 13 (by decide)
  have f14 : v 14 = _ := hF 14 (by decide)
  have f15 : v 15 = _ := hF 15 (by decide)
  have f16 : v 16 = _ := hF 16 (by decide)
  have f17 : v 17 = _ := hF 17 (by decide)
  have f18 : v 18 = _ := hF 18 (by decide)
  obtain ⟨g2_19, f19, hg19, hl19, hz19⟩ := hF 19 (by decide)
  replace hz19 : Has u2 g2_19 32 (d16 0) := hz19
  simp only [List.take_succ_cons, List.take_zero, List.drop_succ_cons, List.drop_zero, putAll, Act.put, List.setIfInBounds_toArray, List.set_cons_zero, List.set_cons_succ, Nat.zero_add, Nat.reduceAdd]
  rw [f0, f1, f2, f3, f4, f5, f6, f7, f8, f9, f10, f11, f12, f13, f14, f15, f16, f17, f18, f19]
  clear hF hD f0 f1 f2 f3 f4 f5 f6 f7 f8 f9 f10 f11 f12 f13 f14 f15 f16 f17 f18 f19
  have hs19 := hz19
  have hBW := below_setRow (hb) (g := g2_19) hg19 (d16 (v7))
  have hv_v7 := (hz19).setRow (d16 (v7))
  replace hX := hX.after hBW
  replace hY := hY.after hBW
  replace hv_v1 := hv_v1.after hBW
  replace hF := hF.after hBW
  replace hb0 := below_trans hb0 hBW
  go_wp2_with (first | (refine wpList_store_row rfl 32 _ _ rfl g2_19 _ rfl rfl 32 (d16 0) hs19 (info16 _) (by simp only [d16_size]) (tab_oneCell _ _ fun _ => rfl) ?_; generalize hWW : World.setRow _ _ _ = U2 at *; clear hWW) | refine wpList_load_has 32 _ rfl _ rfl rfl 32 _ hv_v1 _ Tryd.underlying32 rfl (info16 _) ?_ | refine wpList_load_has 32 _ rfl _ rfl rfl 32 _ hv_v7 _ Tryd.underlying32 rfl (info16 _) ?_)
  clear hBW hb hs19 hz19 hl19
  go_ret
  exact ⟨rfl, hb0⟩
end Go.Proofs.YtmgmfifkldpbmaaDoor
namespace Go.Proofs.YtmgmfifkldpbmaaDoor
open Go.RowKit

/-- a point of package curve -/
def cpF (X Y : Nat) (b : Bool) (j : Nat) : Value := if j < 8 then .int .u32 ((wrd X j : Nat) : Int) else if j < 16 then .int .u32 ((wrd Y (j - 8) : Nat) : Int) else .bool b
def cpC (X Y : Nat) (b : Bool) : Array Value := tab 17 (cpF X Y b)
theorem cpC_size (X Y : Nat) (b : Bool) : (cpC X Y b).size = 17 := tab_size _ _
theorem infoCp (X Y : Nat) (b : Bool) : (Tryd.prog.info? 35).map (·.size) = some (cpC X Y b).size := by rw [cpC_size]; kernel_rfl
def cpX : Ec.Pnt → Nat
  | none => 0
  | some (x, _) => x.val
def cpY : Ec.Pnt → Nat
  | none => 0
  | some (_, y) => y.val
def cpN : Ec.Pnt → Bool
  | none => true
  | some _ => false
abbrev cpV (P : Ec.Pnt) : Value := .agg (cpC (cpX P) (cpY P) (cpN P))
def w8L (x : Nat) : List Value := (List.range 8).map (dgs .u32 4294967296 x)
theorem w8L_arr (x : Nat) : (w8L x).toArray = nums x := rfl
theorem w8L_len (x : Nat) : (w8L x).length = 8 := by simp [w8L]
theorem infoW8 (x : Nat) : (Tryd.prog.info? 24).map (·.size) = some (w8L x).length := by rw [w8L_len]; kernel_rfl
section
variable {w : World} {g X Y : Nat} {b : Bool}
theorem cp_x (h : Has w g 35 (cpC X Y b)) : w.rangeAt g 0 (w8L X) := by
  have := Has.range h 0 8 (by omega)
  have e : (List.range 8).map (fun j => cpF X Y b (0 + j)) = w8L X := by
    unfold w8L
    apply List.map_congr_left
    intro j hj
    have : j < 8 := by simpa using hj
    simp [cpF, dgs, wrd, this]
  rw [e] at this
  exact this
theorem cp_y (h : Has w g 35 (cpC X Y b)) : w.rangeAt g 8 (w8L Y) := by
  have := Has.range h 8 8 (by omega)
  have e : (List.range 8).map (fun j => cpF X Y b (8 + j)) = w8L Y := by
    unfold w8L
    apply List.map_congr_left
    intro j hj
    have h8 : j < 8 := by simpa using hj
    have h1 : ¬ 8 + j < 8 := by omega
    have h2 : 8 + j < 16 := by omega
    simp only [cpF, dgs, wrd, if_neg h1, if_pos h2, Nat.add_sub_cancel_left]
  rw [e] at this
  exact this
theorem cp_n (h : Has w g 35 (cpC X Y b)) : w.cell? ⟨g, 16, none⟩ = some (.bool b) := h.cellTab 16 (by omega)
end
section
variable {w : World} {ops : Array Oper} {rest : List Oper} {op : Oper} {a : Act} {Q : Exit → Act → World → Prop}
theorem wpQ_load_w8 {C : World → Prop} {L : Act → Prop} (hw : Region.wanted op (yielded ops a.tmps) = true) (p : Operand) (ho : op.op = .load 24 p) (b o : Nat) (hp : a.eval p = .pointer (some ⟨b, o, none⟩)) (x : Nat) (hc : ∀ w', C w' → w'.rangeAt b o (w8L x))
    (h : wpQuiet Tryd.prog ops C L rest (a.put op.dst (.agg (nums x)))) : wpQuiet Tryd.prog ops C L (op :: rest) a :=
  wpQ_load 24 p ho hw _ hp (.agg (nums x)) (fun w' hC => by rw [← w8L_arr]; exact run_loadAt_mid w' b o 24 (w8L x) _ (hc w' hC) Tryd.underlying24 rfl (infoW8 x)) h
end
theorem cell_bool (g j : Nat) (v : Value) (w : World) (h : w.cell? ⟨g, j, none⟩ = some v) : (Instr.loadAt 4 (.pointer (some ⟨g, j, none⟩))).run Tryd.prog w = .ok v w := by
  go_simp
theorem info32' : (Tryd.prog.info? 22).map (fun i => (i.zero, i.size, i.bytes)) = some (some (.int .u32 0), 1, 4) := by kernel_rfl
theorem numEql4 (x : Nat) (W : World) : (binOp .eql 24 (.agg (nums x)) (.agg (nums x))).run Tryd.prog W = .ok (.bool true) W := by
  obtain ⟨i, hi, _, hs, _⟩ := info_parts info32'
  have h := run_eql_tab (P := Tryd.prog) W 24 22 8 .u32 .u32 i (fun j => ((dg 4294967296 x j : Nat) : Int)) (fun j => ((dg 4294967296 x j : Nat) : Int)) Tryd.underlying24 Tryd.underlying22 hi hs
  rw [sameTo_refl] at h
  exact h
theorem numEq4 (o1 o2 : Operand) (x : Nat) (w : World) : (do eqGuard .eql 24 o1 o2 (.agg (nums x)) (.agg (nums x)); binOp .eql 24 (.agg (nums x)) (.agg (nums x)) : Sem Value).run Tryd.prog w = .ok (.bool true) w := by
  have es := fun W => numEql4 x W
  go_simp
theorem boolEq (o1 o2 : Operand) (b : Bool) (w : World) : (do eqGuard .eql 4 o1 o2 (.bool b) (.bool b); binOp .eql 4 (.bool b) (.bool b) : Sem Value).run Tryd.prog w = .ok (.bool true) w := by
  cases b <;> go_simp
theorem notB (b : Bool) (w : World) : (Op.unary .not (.bool b)).run Tryd.prog w = .ok (.bool (!b)) w := by
  cases b <;> go_simp

/-- 'G w': the package's variables hold what their text lays; 'Is w g': block g is a Curve -/
structure CurveOK (G : World → Prop) (Is : World → Nat → Prop) : Prop where
  gkeep : ∀ {w w'}, G w → Below w.heap.size w w' → G w'
  keep : ∀ {w w' g}, Is w g → Below w.heap.size w w' → Is w' g
  new_ok : ∀ w, G w → Calls Tryd.prog 8 #[] w fun e w' => (∃ g, e = .returned (.pointer (some ⟨g, 0, none⟩)) ∧ Is w' g) ∧ Below w.heap.size w w'
  order_ok : ∀ w g, Is w g → Calls Tryd.prog 27 #[] w fun e w' => e = .returned (.agg (nums Ec.ordN)) ∧ Below w.heap.size w w'
  base_ok : ∀ w g, Is w g → Calls Tryd.prog 12 #[] w fun e w' => e = .returned (cpV Ec.baseP) ∧ Below w.heap.size w w'
  on_ok : ∀ x y b, x < big → y < big → ∃ r : Bool, (r = true ↔ (b = false ∧ x < Ec.pp ∧ y < Ec.pp ∧ Ec.OnP (some (Ec.c x, Ec.c y)))) ∧
    ∀ w g, Is w g → Calls Tryd.prog 17 #[.pointer (some ⟨g, 0, none⟩), .agg (cpC x y b)] w fun e w' => e = .returned (.bool r) ∧ Below w.heap.size w w'
  on_nil : ∀ w P, Calls Tryd.prog 17 #[.pointer none, cpV P] w fun e w' => e = .returned (.bool false) ∧ Below w.heap.size w w'
  add_ok : ∀ w g P Q, Is w g → Ec.OnP P → Ec.OnP Q → Calls Tryd.prog 20 #[.pointer (some ⟨g, 0, none⟩), cpV P, cpV Q] w fun e w' => e = .returned (cpV (Ec.plus P Q)) ∧ Below w.heap.size w w'
  add_nil : ∀ w P Q, Calls Tryd.prog 20 #[.pointer none, cpV P, cpV Q] w fun e w' => e = .returned (cpV none) ∧ Below w.heap.size w w'
  mult_ok : ∀ w g n P, Is w g → n < big → Ec.OnP P → Calls Tryd.prog 11 #[.pointer (some ⟨g, 0, none⟩), .agg (nums n), cpV P] w fun e w' => e = .returned (cpV (Ec.smul n P)) ∧ Below w.heap.size w w'
  mult_nil : ∀ w n P, n < big → Calls Tryd.prog 11 #[.pointer none, .agg (nums n), cpV P] w fun e w' => e = .returned (cpV none) ∧ Below w.heap.size w w'
  two_ok : ∀ w g n m P Q, Is w g → n < big → m < big → Ec.OnP P → Ec.OnP Q → Calls Tryd.prog 18 #[.pointer (some ⟨g, 0, none⟩), .agg (nums n), cpV P, .agg (nums m), cpV Q] w fun e w' => e = .returned (cpV (Ec.plus (Ec.smul n P) (Ec.smul m Q))) ∧ Below w.heap.size w w'

/- a point's plain numbers are the reference's -/
theorem c_val (a : Ec.FP) : Ec.c a.val = a := Fin.ext (Nat.mod_eq_of_lt a.isLt)
theorem c_invN {z : Nat} (hz : Ec.c z ≠ 0) : Ec.c z * Ec.c (z ^ (Ec.pp - 2) % Ec.pp) = 1 := by
  have h0 : z % primeP ≠ 0 := fun h => hz (Fin.ext h)
  have hf := fermatP z h0
  rw [← Ec.c_mul]
  refine Fin.ext ?_
  show z * (z ^ (Ec.pp - 2) % Ec.pp) % Ec.pp = 1
  rw [Nat.mul_comm, Nat.mod_mul_mod, ← Nat.pow_succ]
  exact hf
theorem plain_x {m x z : Nat} (hmp : m = Ec.pp) (a : Ec.FP) (hz : Ec.c z ≠ 0) (h : Ec.c x = a * Ec.c z) : x * (z ^ (m - 2) % m) % m = a.val := by
  subst hmp
  refine c_inj (Nat.mod_lt _ (by decide)) a.isLt ?_
  rw [Ec.c_mod, Ec.c_mul, h, c_val]
  have hi := c_invN hz
  generalize Ec.c (z ^ (Ec.pp - 2) % Ec.pp) = i at *
  clear h
  grobner
end Go.Proofs.YtmgmfifkldpbmaaDoor
namespace Go.Proofs.YtmgmfifkldpbmaaDoor
open Go.RowKit

set_option maxRecDepth 100000 in
theorem buildN1 (W : World) : (Instr.build 32 #[(0, .int .u64 1)]).run Tryd.prog W = .ok (.agg (d16 1)) W := by kernel_rfl
theorem notNB (b : Bool) (w : World) : (Op.unary .not (.bool (!b))).run Tryd.prog w = .ok (.bool b) w := by
  cases b <;> go_simp
def ptT : Ec.Pnt → T3
  | none => ⟨0, 1, 0⟩
  | some (x, y) => ⟨x.val, y.val, 1⟩
theorem ptT_ok {m : Nat} (hm : FldOK m) (hmp : m = Ec.pp) (P : Ec.Pnt) : (ptT P).ok m := by
  match P with
  | none => exact ⟨hm.1, one_lt hmp, hm.1⟩
  | some (x, y) => exact ⟨by rw [hmp]; exact x.isLt, by rw [hmp]; exact y.isLt, one_lt hmp⟩
theorem ptT_is (P : Ec.Pnt) : (ptT P).is P := by
  match P with
  | none => rfl
  | some (x, y) =>
    refine ⟨by show Ec.c 1 ≠ 0; decide, ?_, ?_⟩
    · show Ec.c x.val = x * Ec.c 1
      rw [c_val]
      have : Ec.c 1 = 1 := rfl
      rw [this]; grobner
    · show Ec.c y.val = y * Ec.c 1
      rw [c_val]
      have : Ec.c 1 = 1 := rfl
      rw [this]; grobner
attribute [local go_sem] zero16 zero48 one16
set_option maxRecDepth 100000 in
set_option maxHeartbeats 2000000 in
theorem pt_c (X Y : Nat) (b : Bool) (w : World) : Calls Tryd.prog 21 #[.agg (cpC X Y b)] w fun e w' => e = .returned (.agg (if b then ptC 0 1 0 else ptC X Y 1)) ∧ Below w.heap.size w w' := by
  have n0 := d16_ne 0
  have hP : Has ((w.alloc (.cells (cpC X Y b) 35)).alloc (.cells (ptC 0 0 0) 39)) w.heap.size 35 (cpC X Y b) := (Has.new w _ _).alloc _
  have hR : Has ((w.alloc (.cells (cpC X Y b) 35)).alloc (.cells (ptC 0 0 0) 39)) (w.heap.size + 1) 39 (ptC 0 0 0) := Has.new' (by simp)
  have hb0 : Below w.heap.size w ((w.alloc (.cells (cpC X Y b) 35)).alloc (.cells (ptC 0 0 0) 39)) := ((Below.refl _ _).alloc (Nat.le_refl _) _).alloc (by simp) _
  have c16 := cp_n hP
  cases b with
  | true =>
    go_enter Tryd.func21, Tryd.ntmps21
    go_wp2_with (first | refine wpList_parts rfl 39 _ rfl #[(1, .agg (d16 1))] (by simp only [List.map_toArray, List.map_cons, List.map_nil]; rfl) (.agg (ptC 0 1 0)) buildPt1 ?_ | refine wpList_store_row rfl 39 _ _ rfl (w.heap.size + 1) _ rfl rfl 39 _ hR (infoPt _ _ _) (by simp only [ptC_size]) (tab_oneCell _ _ fun _ => rfl) ?_)
    exact bodyPost_ret (v := .agg (ptC 0 1 0)) (results_cell_row rfl _ _ (w.heap.size + 1) 39 _ _ _ rfl (hR.setRow _) Tryd.underlying39 rfl (infoPt _ _ _)) rfl ⟨rfl, below_setRow hb0 (by omega) _⟩
  | false =>
    go_enter Tryd.func21, Tryd.ntmps21
    go_wp2_with fail
    generalize (w.alloc _).alloc _ = W at *
    refine region_quiet_tail (Below W.heap.size W) 8 (by kernel_rfl) (by kernel_rfl) (below_drewN (Below.refl _ _) 1) ?_
    simp only [List.take_succ_cons, List.take_zero, List.drop_succ_cons, List.drop_zero]
    refine wpQ_val rfl (.pointer (some ⟨w.heap.size, 0, none⟩)) (fun w' _ => by go_simp) ?_
    simp only [Act.put, List.setIfInBounds_toArray, List.set_cons_zero, List.set_cons_succ]
    refine wpQ_load_w8 rfl _ rfl (w.heap.size) 0 rfl X (fun w' hC => cp_x (hP.after hC)) ?_
    simp only [Act.put, List.setIfInBounds_toArray, List.set_cons_zero, List.set_cons_succ]
    refine wpQ_fn 14 _ _ rfl rfl #[.agg (nums X)] rfl (fun _ => by go_simp) (.agg (d16 X)) (fun w' hC => (of3_any X w').mono fun e w'' ⟨he, hb⟩ => ⟨he, below_class hC hb⟩) ?_
    simp only [Act.put, List.setIfInBounds_toArray, List.set_cons_zero, List.set_cons_succ]
    refine wpQ_val rfl (.pointer (some ⟨w.heap.size, 8, none⟩)) (fun w' _ => by go_simp) ?_
    simp only [Act.put, List.setIfInBounds_toArray, List.set_cons_zero, List.set_cons_succ]
    refine wpQ_load_w8 rfl _ rfl (w.heap.size) 8 rfl Y (fun w' hC => cp_y (hP.after hC)) ?_
    simp only [Act.put, List.setIfInBounds_toArray, List.set_cons_zero, List.set_cons_succ]
    refine wpQ_fn 14 _ _ rfl rfl #[.agg (nums Y)] rfl (fun _ => by go_simp) (.agg (d16 Y)) (fun w' hC => (of3_any Y w').mono fun e w'' ⟨he, hb⟩ => ⟨he, below_class hC hb⟩) ?_
    simp only [Act.put, List.setIfInBounds_toArray, List.set_cons_zero, List.set_cons_succ]
    refine wpQ_parts4 32 _ rfl rfl #[(0, .int .u64 1)] (by simp only [List.map_toArray, List.map_cons, List.map_nil]; rfl) (.agg (d16 1)) (fun w' _ => buildN1 w') ?_
    simp only [Act.put, List.setIfInBounds_toArray, List.set_cons_zero, List.set_cons_succ]
    refine wpQ_parts4 39 _ rfl rfl #[(0, .agg (d16 X)), (1, .agg (d16 Y)), (2, .agg (d16 1))] (by simp only [List.map_toArray, List.map_cons, List.map_nil]; rfl) (.agg (ptC X Y 1)) (fun w' _ => buildPt X Y 1 w') ?_
    simp only [Act.put, List.setIfInBounds_toArray, List.set_cons_zero, List.set_cons_succ]
    refine wpQuiet_nil ?_
    intro u1 hC
    replace hR := hR.after hC
    replace hb0 := below_trans hb0 hC
    clear hC hP c16
    go_wp2_with (first | refine wpList_store_row rfl 39 _ _ rfl (w.heap.size + 1) _ rfl rfl 39 _ hR (infoPt _ _ _) (by simp only [ptC_size]) (tab_oneCell _ _ fun _ => rfl) ?_)
    exact bodyPost_ret (v := .agg (ptC X Y 1)) (results_cell_row rfl _ _ (w.heap.size + 1) 39 _ _ _ rfl (hR.setRow _) Tryd.underlying39 rfl (infoPt _ _ _)) rfl ⟨rfl, below_setRow hb0 (by omega) _⟩
theorem pt_any4 (P : Ec.Pnt) (w : World) : Calls Tryd.prog 21 #[cpV P] w fun e w' => e = .returned (ptT P).v ∧ Below w.heap.size w w' := by
  have h := pt_c (cpX P) (cpY P) (cpN P) w
  match P with
  | none => exact h
  | some (x, y) => exact h
/-- what Plain answers -/
theorem plain_any4 (t : T3) (P : Ec.Pnt) (m g : Nat) (w : World) (hm : FldOK m) (hmp : m = Ec.pp) (ht : t.ok m) (hP : t.is P) (hF : IsField w g m) :
    Calls Tryd.prog 33 #[.pointer (some ⟨g, 0, none⟩), t.v] w fun e w' => e = .returned (.tuple #[.agg (d16 (cpX P)), .agg (d16 (cpY P)), .bool (!cpN P)]) ∧ Below w.heap.size w w' := by
  by_cases hz : t.z = 0
  · obtain rfl := T3.none_of hz hP
    obtain ⟨x, y, z⟩ := t
    obtain rfl : z = 0 := hz
    exact plain_z x y g w
  · have hzc : Ec.c t.z ≠ 0 := Ec.c_zero (by rw [← hmp]; exact ht.2.2) hz
    match P with
    | none => exact absurd hP hzc
    | some (x, y) =>
      have h := plain_nz t.x t.y t.z g m w hF hm ht.1 ht.2.1 ht.2.2 hz
      rw [plain_x hmp x hzc hP.2.1, plain_x hmp y hzc hP.2.2] at h
      exact h
theorem cp_lt (P : Ec.Pnt) : cpX P < big ∧ cpY P < big := by
  have hb : Ec.pp < big := by decide +kernel
  match P with
  | none => exact ⟨by decide +kernel, by decide +kernel⟩
  | some (x, y) => exact ⟨Nat.lt_trans x.isLt hb, Nat.lt_trans y.isLt hb⟩
set_option maxRecDepth 100000 in
set_option maxHeartbeats 2000000 in
theorem like_any4 (t : T3) (P : Ec.Pnt) (m g : Nat) (w : World) (hm : FldOK m) (hmp : m = Ec.pp) (ht : t.ok m) (hi : t.is P) (hF : IsField w g m) :
    Calls Tryd.prog 16 #[.pointer (some ⟨g, 0, none⟩), cpV P, t.v] w fun e w' => e = .returned (.bool true) ∧ Below w.heap.size w w' := by
  have cP := fun W h => plain_any4 t P m g W hm hmp ht hi h
  obtain ⟨lX, lY⟩ := cp_lt P
  clear hm hmp ht hi
  show Calls Tryd.prog 16 #[.pointer (some ⟨g, 0, none⟩), .agg (cpC (cpX P) (cpY P) (cpN P)), .agg (ptC t.x t.y t.z)] w _
  generalize cpX P = X at *
  generalize cpY P = Y at *
  generalize cpN P = b at *
  have n0 := d16_ne 0
  have hP : Has ((w.alloc (.cells (cpC X Y b) 35)).alloc (.cells (ptC t.x t.y t.z) 39)) w.heap.size 35 (cpC X Y b) := (Has.new w _ _).alloc _
  have hQ : Has ((w.alloc (.cells (cpC X Y b) 35)).alloc (.cells (ptC t.x t.y t.z) 39)) (w.heap.size + 1) 39 (ptC t.x t.y t.z) := Has.new' (by simp)
  have hb0 : Below w.heap.size w ((w.alloc (.cells (cpC X Y b) 35)).alloc (.cells (ptC t.x t.y t.z) 39)) := ((Below.refl _ _).alloc (Nat.le_refl _) _).alloc (by simp) _
  replace hF := hF.after hb0
  go_enter Tryd.func16, Tryd.ntmps16
  go_wp2_with (first | refine wpList_load_has 39 _ rfl _ rfl rfl 39 _ hQ _ Tryd.underlying39 rfl (infoPt _ _ _) ?_)
  refine (cP _ hF).mono ?_
  rintro e u1 ⟨rfl, hx⟩
  replace hP := ((hP.after hx).alloc (.cells (d16 0) 32)).alloc (.cells (d16 0) 32)
  have hA0 : Has ((u1.alloc (.cells (d16 0) 32)).alloc (.cells (d16 0) 32)) u1.heap.size 32 (d16 0) := (Has.new _ _ _).alloc _
  have hB0 : Has ((u1.alloc (.cells (d16 0) 32)).alloc (.cells (d16 0) 32)) (u1.heap.size + 1) 32 (d16 0) := Has.new' (by simp)
  have hsz : w.heap.size + 1 < u1.heap.size := (hQ.after hx).lt
  have hbx : Below w.heap.size w ((u1.alloc (.cells (d16 0) 32)).alloc (.cells (d16 0) 32)) := ((below_trans hb0 hx).alloc (by omega) _).alloc (by simp <;> omega) _
  replace hb0 := hbx
  clear hx hF hQ cP hbx
  have hA1 := hA0.setRow (d16 X)
  have hB1 := hB0.farRow (k := u1.heap.size) (by omega) (d16 X)
  replace hP := hP.farRow (k := u1.heap.size) (by omega) (d16 X)
  replace hb0 := below_setRow hb0 (g := u1.heap.size) (by omega) (d16 X)
  have hA := hA1.farRow (k := u1.heap.size + 1) (by omega) (d16 Y)
  have hB := hB1.setRow (d16 Y)
  replace hP := hP.farRow (k := u1.heap.size + 1) (by omega) (d16 Y)
  replace hb0 := below_setRow hb0 (g := u1.heap.size + 1) (by omega) (d16 Y)
  go_wp2_with (first | (refine wpList_store_row rfl 32 _ _ rfl u1.heap.size _ rfl rfl 32 _ hA0 (info16 _) (by simp only [d16_size]) (tab_oneCell _ _ fun _ => rfl) ?_) | (refine wpList_store_row rfl 32 _ _ rfl (u1.heap.size + 1) _ rfl rfl 32 _ hB1 (info16 _) (by simp only [d16_size]) (tab_oneCell _ _ fun _ => rfl) ?_; generalize hWW : World.setRow _ (u1.heap.size + 1) _ = U1 at *; clear hWW))
  clear hA0 hB0 hA1 hB1
  refine region_quiet_tail (Below U1.heap.size U1) 19 (by kernel_rfl) (by kernel_rfl) (below_drewN (Below.refl _ _) 1) ?_
  simp only [List.take_succ_cons, List.take_zero, List.drop_succ_cons, List.drop_zero]
  refine wpQ_val rfl (.pointer (some ⟨w.heap.size, 16, none⟩)) (fun w' _ => by go_simp) ?_
  simp only [Act.put, List.setIfInBounds_toArray, List.set_cons_zero, List.set_cons_succ]
  refine wpQ_load 4 _ rfl rfl _ rfl (.bool b) (fun w' hC => cell_bool _ _ _ w' (cp_n (hP.after hC))) ?_
  simp only [Act.put, List.setIfInBounds_toArray, List.set_cons_zero, List.set_cons_succ]
  refine wpQ_move _ rfl rfl (.bool (!b)) rfl ?_
  simp only [Act.put, List.setIfInBounds_toArray, List.set_cons_zero, List.set_cons_succ]
  refine wpQ_un _ _ _ rfl rfl (.bool (!b)) rfl (.bool b) (fun w' _ => notNB _ w') ?_
  simp only [Act.put, List.setIfInBounds_toArray, List.set_cons_zero, List.set_cons_succ]
  refine wpQ_bin _ _ _ _ _ rfl rfl (.bool b) (.bool b) rfl rfl (.bool true) (fun w' _ => boolEq _ _ _ w') ?_
  simp only [Act.put, List.setIfInBounds_toArray, List.set_cons_zero, List.set_cons_succ]
  refine wpQ_move _ rfl rfl (.bool true) rfl ?_
  simp only [Act.put, List.setIfInBounds_toArray, List.set_cons_zero, List.set_cons_succ]
  refine wpQ_val rfl (.pointer (some ⟨w.heap.size, 0, none⟩)) (fun w' _ => by go_simp) ?_
  simp only [Act.put, List.setIfInBounds_toArray, List.set_cons_zero, List.set_cons_succ]
  refine wpQ_load_w8 rfl _ rfl (w.heap.size) 0 rfl X (fun w' hC => cp_x (hP.after hC)) ?_
  simp only [Act.put, List.setIfInBounds_toArray, List.set_cons_zero, List.set_cons_succ]
  refine wpQ_has 32 _ rfl _ rfl rfl 32 _ (fun w' hC => hA.after hC) _ Tryd.underlying32 rfl (info16 _) ?_
  simp only [Act.put, List.setIfInBounds_toArray, List.set_cons_zero, List.set_cons_succ]
  refine wpQ_fn 22 _ _ rfl rfl #[.agg (d16 X)] rfl (fun _ => by go_simp) (.agg (nums X)) (fun w' hC => (words3_any X w' lX).mono fun e w'' ⟨he, hb⟩ => ⟨he, below_class hC hb⟩) ?_
  simp only [Act.put, List.setIfInBounds_toArray, List.set_cons_zero, List.set_cons_succ]
  refine wpQ_bin _ _ _ _ _ rfl rfl (.agg (nums X)) (.agg (nums X)) rfl rfl (.bool true) (fun w' _ => numEq4 _ _ _ w') ?_
  simp only [Act.put, List.setIfInBounds_toArray, List.set_cons_zero, List.set_cons_succ]
  refine wpQ_pick _ _ _ rfl rfl true rfl (.bool true) rfl ?_
  simp only [Act.put, List.setIfInBounds_toArray, List.set_cons_zero, List.set_cons_succ]
  refine wpQ_move _ rfl rfl (.bool true) rfl ?_
  simp only [Act.put, List.setIfInBounds_toArray, List.set_cons_zero, List.set_cons_succ]
  refine wpQ_val rfl (.pointer (some ⟨w.heap.size, 8, none⟩)) (fun w' _ => by go_simp) ?_
  simp only [Act.put, List.setIfInBounds_toArray, List.set_cons_zero, List.set_cons_succ]
  refine wpQ_load_w8 rfl _ rfl (w.heap.size) 8 rfl Y (fun w' hC => cp_y (hP.after hC)) ?_
  simp only [Act.put, List.setIfInBounds_toArray, List.set_cons_zero, List.set_cons_succ]
  refine wpQ_has 32 _ rfl _ rfl rfl 32 _ (fun w' hC => hB.after hC) _ Tryd.underlying32 rfl (info16 _) ?_
  simp only [Act.put, List.setIfInBounds_toArray, List.set_cons_zero, List.set_cons_succ]
  refine wpQ_fn 22 _ _ rfl rfl #[.agg (d16 Y)] rfl (fun _ => by go_simp) (.agg (nums Y)) (fun w' hC => (words3_any Y w' lY).mono fun e w'' ⟨he, hb⟩ => ⟨he, below_class hC hb⟩) ?_
  simp only [Act.put, List.setIfInBounds_toArray, List.set_cons_zero, List.set_cons_succ]
  refine wpQ_bin _ _ _ _ _ rfl rfl (.agg (nums Y)) (.agg (nums Y)) rfl rfl (.bool true) (fun w' _ => numEq4 _ _ _ w') ?_
  simp only [Act.put, List.setIfInBounds_toArray, List.set_cons_zero, List.set_cons_succ]
  refine wpQ_pick _ _ _ rfl rfl true rfl (.bool true) rfl ?_
  simp only [Act.put, List.setIfInBounds_toArray, List.set_cons_zero, List.set_cons_succ]
  refine wpQuiet_nil ?_
  intro u2 hC
  replace hb0 := below_trans hb0 hC
  clear hC hA hB hP
  go_wp2_with fail
  go_ret
  exact ⟨rfl, hb0⟩
end Go.Proofs.YtmgmfifkldpbmaaDoor
namespace Go.Proofs.YtmgmfifkldpbmaaDoor
open Go.RowKit

theorem zero17c : (#[Value.int IntKind.u32 0, Value.int IntKind.u32 0, Value.int IntKind.u32 0, Value.int IntKind.u32 0, Value.int IntKind.u32 0, Value.int IntKind.u32 0, Value.int IntKind.u32 0, Value.int IntKind.u32 0, Value.int IntKind.u32 0, Value.int IntKind.u32 0, Value.int IntKind.u32 0, Value.int IntKind.u32 0, Value.int IntKind.u32 0, Value.int IntKind.u32 0, Value.int IntKind.u32 0, Value.int IntKind.u32 0, Value.bool false] : Array Value) = cpC 0 0 false := by kernel_rfl
theorem on_val (P : Ec.Pnt) (hP : Ec.OnP P) (r : Bool) (hr : r = true ↔ (cpN P = false ∧ cpX P < Ec.pp ∧ cpY P < Ec.pp ∧ Ec.OnP (some (Ec.c (cpX P), Ec.c (cpY P))))) : r = !cpN P := by
  rcases P with _ | ⟨x, y⟩
  · cases r with
    | false => rfl
    | true => exact absurd (hr.1 rfl).1 (by show ¬ (true = false); decide)
  · refine hr.2 ⟨rfl, x.isLt, y.isLt, ?_⟩
    show Ec.OnP (some (Ec.c x.val, Ec.c y.val))
    rw [c_val, c_val]
    exact hP
theorem zero_off : ¬ Ec.OnP (some (Ec.c 0, Ec.c 0)) := by unfold Ec.OnP Ec.On Ec.cA Ec.cB; decide +kernel
theorem on_pt {G : World → Prop} {Is : World → Nat → Prop} (H : CurveOK G Is) (P : Ec.Pnt) (hP : Ec.OnP P) (g : Nat) (w : World) (h : Is w g) :
    Calls Tryd.prog 17 #[.pointer (some ⟨g, 0, none⟩), cpV P] w fun e w' => e = .returned (.bool (!cpN P)) ∧ Below w.heap.size w w' := by
  obtain ⟨r, hr, hc⟩ := H.on_ok (cpX P) (cpY P) (cpN P) (cp_lt P).1 (cp_lt P).2
  rw [← on_val P hP r hr]
  exact hc w g h
theorem off_val (r : Bool) (hr : r = true ↔ ((false : Bool) = false ∧ 0 < Ec.pp ∧ 0 < Ec.pp ∧ Ec.OnP (some (Ec.c 0, Ec.c 0)))) : r = false := by
  cases r with
  | false => rfl
  | true => exact absurd (hr.1 rfl).2.2.2 zero_off
theorem on_zero {G : World → Prop} {Is : World → Nat → Prop} (H : CurveOK G Is) (g : Nat) (w : World) (h : Is w g) :
    Calls Tryd.prog 17 #[.pointer (some ⟨g, 0, none⟩), .agg (cpC 0 0 false)] w fun e w' => e = .returned (.bool false) ∧ Below w.heap.size w w' := by
  obtain ⟨r, hr, hc⟩ := H.on_ok 0 0 false (by decide +kernel) (by decide +kernel)
  have e := off_val r hr
  subst e
  exact hc w g h
theorem fieldN (X Y : Nat) (b : Bool) (W : World) : (Instr.field 35 (.agg (cpC X Y b)) 2).run Tryd.prog W = .ok (.bool b) W := by kernel_rfl
theorem ordN_lt : Ec.ordN < big := by decide +kernel
attribute [local go_sem] zero17c
set_option maxRecDepth 100000 in
set_option maxHeartbeats 1000000 in
theorem fit_any4 {G : World → Prop} {Is : World → Nat → Prop} (H : CurveOK G Is) (w : World) (hG : G w) : Calls Tryd.prog 7 #[] w fun e w' => e = .returned (.bool true) ∧ Below w.heap.size w w' := by
  have kM := fun g W h => H.mult_ok W g Ec.ordN Ec.baseP h ordN_lt Ec.base_on
  rw [Ec.order_base] at kM
  have kO := on_pt H Ec.baseP Ec.base_on
  have kZ := on_zero H
  have kB := H.base_ok
  have kN := H.order_ok
  have kNew := H.new_ok
  have keep := fun w w' g => @CurveOK.keep G Is H w w' g
  have HK := Lib.hid keep
  have hbn : cpN Ec.baseP = false := rfl
  rw [hbn] at kO
  clear hbn keep
  have hfd : ∀ W, (Instr.field 35 (cpV none) 2).run Tryd.prog W = .ok (.bool true) W := fun W => fieldN 0 0 true W
  generalize hP : Ec.baseP = P at *
  generalize Ec.ordN = n at *
  clear hP
  show Calls Tryd.prog 7 #[] w _
  go_enter Tryd.func7, Tryd.ntmps7
  go_wp2_with fail
  refine (kNew _ hG).mono ?_
  rintro e w1 ⟨⟨g, rfl, hI⟩, hb⟩
  go_wp2_with fail
  refine (kB _ _ hI).mono ?_
  rintro e w2 ⟨rfl, hx⟩
  replace hI := HK.out _ _ _ hI hx
  replace hb := below_trans hb hx
  clear hx
  go_wp2_with fail
  refine (kO _ _ hI).mono ?_
  rintro e w3 ⟨rfl, hx⟩
  replace hI := HK.out _ _ _ hI hx
  replace hb := below_trans hb hx
  clear hx
  go_wp2_with fail
  refine (kN _ _ hI).mono ?_
  rintro e w4 ⟨rfl, hx⟩
  replace hI := HK.out _ _ _ hI hx
  replace hb := below_trans hb hx
  clear hx
  go_wp2_with fail
  refine (kB _ _ hI).mono ?_
  rintro e w5 ⟨rfl, hx⟩
  replace hI := HK.out _ _ _ hI hx
  replace hb := below_trans hb hx
  clear hx
  go_wp2_with fail
  refine (kM _ _ hI).mono ?_
  rintro e w6 ⟨rfl, hx⟩
  replace hI := HK.out _ _ _ hI hx
  replace hb := below_trans hb hx
  clear hx
  go_wp2_with fail
  refine (kZ _ _ hI).mono ?_
  rintro e w7 ⟨rfl, hx⟩
  replace hb := below_trans hb hx
  clear hx
  go_wp2_with fail
  go_ret
  exact ⟨rfl, hb⟩
end Go.Proofs.YtmgmfifkldpbmaaDoor
namespace Go.Proofs.YtmgmfifkldpbmaaDoor
open Go.RowKit

theorem cpC_one (X Y : Nat) (b : Bool) : (cpC X Y b).all (·.oneCell') = true := tab_oneCell _ _ fun j => by
  unfold cpF
  by_cases h : j < 8
  · rw [if_pos h]; rfl
  · rw [if_neg h]
    by_cases h2 : j < 16
    · rw [if_pos h2]; rfl
    · rw [if_neg h2]; rfl
theorem fldOK_P : FldOK refP := ⟨by decide +kernel, by decide +kernel, by decide +kernel, by decide +kernel, by decide +kernel⟩
theorem infVC : (Tryd.prog.info? 35).map (fun i => (i.zero, i.size)) = some (some (.agg (cpC 0 0 false)), 17) := by kernel_rfl
theorem zeroVC (w : World) : (zeroValue 35).run Tryd.prog w = .ok (.agg (cpC 0 0 false)) w := (zero_of_info infVC).1 w
theorem notEqB (o1 o2 : Operand) (b : Bool) (w : World) : (do eqGuard .eql 4 o1 o2 (.bool (!b)) (.bool b); binOp .eql 4 (.bool (!b)) (.bool b) : Sem Value).run Tryd.prog w = .ok (.bool false) w := by
  cases b <;> go_simp
def baseT : T3 := ⟨Ec.gX, Ec.gY, 1⟩
theorem baseT_ok : baseT.ok refP := ⟨by decide, by decide, by decide⟩
theorem baseT_is : baseT.is Ec.baseP := by
  refine ⟨by show Ec.c 1 ≠ 0; decide, ?_, ?_⟩
  · show Ec.c Ec.gX = Ec.c Ec.gX * Ec.c 1
    have : Ec.c 1 = 1 := rfl
    rw [this]; grobner
  · show Ec.c Ec.gY = Ec.c Ec.gY * Ec.c 1
    have : Ec.c 1 = 1 := rfl
    rw [this]; grobner
theorem big_2 : big = 2 ^ 256 := by decide +kernel
/-- what Times answers -/
theorem times_is (n : Nat) (t : T3) (P : Ec.Pnt) (hn : n < big) (ht : t.ok refP) (hP : Ec.OnP P) (h : t.is P) : (sumS refP n t 256).ok refP ∧ (sumS refP n t 256).is (Ec.smul n P) := by
  refine ⟨sumS_ok fldOK_P refP_eq ht 256, ?_⟩
  have e := sumS_is (n := n) fldOK_P refP_eq ht hP h 256
  rw [Nat.mod_eq_of_lt (by rw [← big_2]; exact hn)] at e
  exact e
attribute [local go_sem] zero16 zero48 one16 zero17c
set_option maxRecDepth 100000 in
set_option maxHeartbeats 2000000 in
theorem mults_ok4 {G : World → Prop} {Is : World → Nat → Prop} (H : CurveOK G Is) (n m : Nat) (w : World) (hn : n < big) (hm : m < big) (hG : G w) :
    Calls Tryd.prog 3 #[.agg (nums n), .agg (nums m)] w fun e w' => e = .returned (.bool true) ∧ Below w.heap.size w w' := by
  have kFit := fun W => @fit_any4 G Is H W
  have kB := H.base_ok
  have kNew := H.new_ok
  have keep := fun w w' g => @CurveOK.keep G Is H w w' g
  have HK := Lib.hid keep
  have gkeep := fun w w' => @CurveOK.gkeep G Is H w w'
  have HG := Lib.hid gkeep
  clear gkeep
  have oS := Ec.smul_on Ec.base_on n
  have kM := fun g W h => H.mult_ok W g n Ec.baseP h hn Ec.base_on
  have kOn := fun g W h => on_pt H (Ec.smul n Ec.baseP) oS g W h
  have kT := fun g W h => H.two_ok W g n m Ec.baseP (Ec.smul n Ec.baseP) h hn hm Ec.base_on oS
  have kP0 := refP_any
  have kF := fun W => newField_any refP W (by decide +kernel) (by decide +kernel)
  have kOn2 := fun W => of3_any n W
  have kOm := fun W => of3_any m W
  have kBr := refBase_any
  obtain ⟨qok, qis⟩ := times_is n baseT Ec.baseP hn baseT_ok Ec.base_on baseT_is
  have kTn := fun f W (h : IsField W f refP) => times_any n refP f baseT W fldOK_P refP_eq baseT_ok h
  obtain ⟨rok, ris⟩ := times_is m _ _ hm qok oS qis
  have kTm := fun f W (h : IsField W f refP) => times_any m refP f (sumS refP n baseT 256) W fldOK_P refP_eq qok h
  obtain ⟨sok, sis, kP⟩ := sumT_is fldOK_P refP_eq qok rok
  have sis2 := sis _ _ oS (Ec.smul_on oS m) qis ris
  have kL := fun f W h => like_any4 _ _ refP f W fldOK_P refP_eq qok qis h
  have kL2 := fun f W h => like_any4 _ _ refP f W fldOK_P refP_eq sok sis2 h
  clear qok qis rok ris sok sis sis2 oS keep hn hm
  have hbt : baseT.v = .agg (ptC Ec.gX Ec.gY 1) := rfl
  rw [hbt] at kTn
  clear hbt
  generalize sumT refP (sumS refP n baseT 256) (sumS refP m (sumS refP n baseT 256) 256) = s at *
  generalize sumS refP m (sumS refP n baseT 256) 256 = r at *
  generalize sumS refP n baseT 256 = q at *
  generalize Ec.plus (Ec.smul n Ec.baseP) (Ec.smul m (Ec.smul n Ec.baseP)) = V at *
  generalize Ec.smul n Ec.baseP = S at *
  generalize Ec.baseP = B at *
  generalize Ec.gX = gx at *
  generalize Ec.gY = gy at *
  generalize refP = p at *
  have hN : Has ((w.alloc (.cells (nums n) 24)).alloc (.cells (nums m) 24)) w.heap.size 24 (nums n) := (Has.new w _ _).alloc _
  have hM : Has ((w.alloc (.cells (nums n) 24)).alloc (.cells (nums m) 24)) (w.heap.size + 1) 24 (nums m) := Has.new' (by simp)
  have hb0 : Below w.heap.size w ((w.alloc (.cells (nums n) 24)).alloc (.cells (nums m) 24)) := ((Below.refl _ _).alloc (Nat.le_refl _) _).alloc (by simp) _
  go_enter Tryd.func3, Tryd.ntmps3
  go_wp2_with fail
  refine (kFit _ (HG.out _ _ hG hb0)).mono ?_
  rintro e w1 ⟨rfl, hx⟩
  replace hN := hN.after hx
  replace hM := hM.after hx
  replace hb0 := below_trans hb0 hx
  clear hx kFit
  go_wp2_with fail
  refine (kNew _ (HG.out _ _ hG hb0)).mono ?_
  rintro e w2 ⟨⟨g, rfl, hI⟩, hx⟩
  replace hN := hN.after hx
  replace hM := hM.after hx
  replace hb0 := below_trans hb0 hx
  clear hx kNew
  go_wp2_with fail
  refine (kP0 _).mono ?_
  rintro e w3 ⟨rfl, hx⟩
  replace hN := hN.after hx
  replace hM := hM.after hx
  replace hI := HK.out _ _ _ hI hx
  replace hb0 := below_trans hb0 hx
  clear hx kP0
  go_wp2_with fail
  refine (kF _).mono ?_
  rintro e w4 ⟨⟨f, rfl, hF⟩, hx⟩
  replace hN := hN.after hx
  replace hM := hM.after hx
  replace hI := HK.out _ _ _ hI hx
  replace hb0 := below_trans hb0 hx
  clear hx kF
  go_wp2_with fail
  refine region_facts 5 [] [.val (.pointer (some ⟨g, 0, none⟩)), .val (.agg (nums n)), .val (.agg (cpC (cpX B) (cpY B) (cpN B))), .val (.agg (cpC (cpX S) (cpY S) (cpN S))), .new 35 (cpC 0 0 false)]
    (by kernel_rfl) (by kernel_rfl) (fun _ _ _ _ _ h => h) ?_ ?_
  · simp only [List.take_succ_cons, List.take_zero, StepsOK]
    refine ⟨?_, ?_, ?_, ?_, ?_, trivial⟩
    · intro v w' hb hf K hKt
      simp only [putAll, Act.put, List.setIfInBounds_toArray, List.set_cons_zero, List.set_cons_succ, Nat.zero_add, Nat.reduceAdd] at hKt ⊢
      go_simp
      exact hKt _ (Below.refl _ _)
    · intro v w' hb hf K hKt
      simp only [putAll, Act.put, List.setIfInBounds_toArray, List.set_cons_zero, List.set_cons_succ, Nat.zero_add, Nat.reduceAdd] at hKt ⊢
      exact wp_load_row 24 _ rfl (w.heap.size) rfl 24 _ (0, 0) _ (hN.after hb) Tryd.underlying24 rfl (infoNum _) (hKt _ (Below.refl _ _))
    · intro v w' hb hf K hKt
      simp only [putAll, Act.put, List.setIfInBounds_toArray, List.set_cons_zero, List.set_cons_succ, Nat.zero_add, Nat.reduceAdd] at hKt ⊢
      go_simp
      refine (kB w' _ (HK.out _ _ _ hI hb)).mono ?_
      rintro e w'' ⟨rfl, hb2⟩
      exact hKt _ hb2
    · intro v w' hb hf K hKt
      have f0 : v 0 = _ := hf ⟨0, .data⟩ (by simp) rfl
      have f1 : v 1 = _ := hf ⟨1, .data⟩ (by simp) rfl
      have f2 : v 2 = _ := hf ⟨2, .data⟩ (by simp) rfl
      simp only [putAll, Act.put, List.setIfInBounds_toArray, List.set_cons_zero, List.set_cons_succ, Nat.zero_add, Nat.reduceAdd] at hKt ⊢
      rw [f0, f1, f2] at hKt ⊢
      go_simp
      refine (kM _ w' (HK.out _ _ _ hI hb)).mono ?_
      rintro e w'' ⟨rfl, hb2⟩
      exact hKt _ hb2
    · exact ⟨rfl, rfl, zeroVC⟩
  intro v w5 hb hF hD
  have f0 : v 0 = _ := hF 0 (by decide)
  have f1 : v 1 = _ := hF 1 (by decide)
  have f2 : v 2 = _ := hF 2 (by decide)
  have f3 : v 3 = _ := hF 3 (by decide)
  obtain ⟨gp, f4, hg4, hl4, hz4⟩ := hF 4 (by decide)
  replace hz4 : Has w5 gp 35 (cpC 0 0 false) := hz4
  simp only [List.take_succ_cons, List.take_zero, List.drop_succ_cons, List.drop_zero, putAll, Act.put, List.setIfInBounds_toArray, List.set_cons_zero, List.set_cons_succ, Nat.zero_add, Nat.reduceAdd]
  rw [f0, f1, f2, f3, f4]
  clear hF hD f0 f1 f2 f3 f4
  have hs4 := hz4
  have hBW := below_setRow (hb) (g := gp) hg4 (cpC (cpX S) (cpY S) (cpN S))
  have hS := (hz4).setRow (cpC (cpX S) (cpY S) (cpN S))
  replace hM := hM.after hBW
  replace hN := hN.after hBW
  replace hI := HK.out _ _ _ hI hBW
  replace hF := hF.after hBW
  replace hb0 := below_trans hb0 hBW
  go_wp2_with (first | (refine wpList_store_row rfl 35 _ _ rfl gp _ rfl rfl 35 (cpC 0 0 false) hs4 (infoCp _ _ _) (by simp only [cpC_size]) (cpC_one _ _ _) ?_; generalize hWW : World.setRow _ gp _ = U5 at *; clear hWW) | refine wpList_load_has 24 _ rfl _ rfl rfl 24 _ hN _ Tryd.underlying24 rfl (infoNum _) ?_)
  clear hBW hb hs4 hz4 hg4 hl4
  refine (kOn2 _).mono ?_
  rintro e w6 ⟨rfl, hx⟩
  replace hN := hN.after hx; replace hM := hM.after hx; replace hS := hS.after hx; replace hF := hF.after hx; replace hI := HK.out _ _ _ hI hx; replace hb0 := below_trans hb0 hx
  clear hx kOn2
  go_wp2_with fail
  refine (kBr _).mono ?_
  rintro e w7 ⟨rfl, hx⟩
  replace hN := hN.after hx; replace hM := hM.after hx; replace hS := hS.after hx; replace hF := hF.after hx; replace hI := HK.out _ _ _ hI hx; replace hb0 := below_trans hb0 hx
  clear hx kBr
  go_wp2_with fail
  refine (kTn _ _ hF).mono ?_
  rintro e w8 ⟨rfl, hx⟩
  have hq := put_new w8 39 (ptC 0 0 0) (ptC q.x q.y q.z)
  replace hN := (hN.after hx).after hq.2
  replace hM := (hM.after hx).after hq.2
  replace hS := (hS.after hx).after hq.2
  replace hF := (hF.after hx).after hq.2
  replace hI := HK.out _ _ _ (HK.out _ _ _ hI hx) hq.2
  replace hb0 := below_trans (below_trans hb0 hx) hq.2
  have hQ := hq.1
  clear hx hq kTn
  go_wp2_with (first | (refine wpList_store_row rfl 39 _ _ rfl w8.heap.size _ rfl rfl 39 (ptC 0 0 0) (Has.new' rfl) (infoPt _ _ _) (by simp only [ptC_size]) (tab_oneCell _ _ fun _ => rfl) ?_; generalize hWW : World.setRow _ _ _ = U8 at *; clear hWW))
  replace kL := kL f
  refine region_quiet_tail (Below U8.heap.size U8) 12 (by kernel_rfl) (by kernel_rfl) (below_drewN (Below.refl _ _) 1) ?_
  simp only [List.take_succ_cons, List.take_zero, List.drop_succ_cons, List.drop_zero]
  refine wpQ_move _ rfl rfl (.pointer (some ⟨f, 0, none⟩)) rfl ?_
  simp only [Act.put, List.setIfInBounds_toArray, List.set_cons_zero, List.set_cons_succ]
  refine wpQ_has 35 _ rfl _ rfl rfl 35 _ (fun w' hC => hS.after hC) _ Tryd.underlying35 rfl (infoCp _ _ _) ?_
  simp only [Act.put, List.setIfInBounds_toArray, List.set_cons_zero, List.set_cons_succ]
  refine wpQ_has 39 _ rfl _ rfl rfl 39 _ (fun w' hC => hQ.after hC) _ Tryd.underlying39 rfl (infoPt _ _ _) ?_
  simp only [Act.put, List.setIfInBounds_toArray, List.set_cons_zero, List.set_cons_succ]
  refine wpQ_fn 16 _ _ rfl rfl #[.pointer (some ⟨f, 0, none⟩), .agg (cpC (cpX S) (cpY S) (cpN S)), .agg (ptC q.x q.y q.z)] rfl (fun _ => by go_simp) (.bool true) (fun w' hC => (kL w' (hF.after hC)).mono fun e w'' ⟨he, hb⟩ => ⟨he, below_class hC hb⟩) ?_
  simp only [Act.put, List.setIfInBounds_toArray, List.set_cons_zero, List.set_cons_succ]
  refine wpQ_un _ _ _ rfl rfl (.bool true) rfl (.bool false) (fun w' _ => notB true w') ?_
  simp only [Act.put, List.setIfInBounds_toArray, List.set_cons_zero, List.set_cons_succ]
  refine wpQ_move _ rfl rfl (.bool false) rfl ?_
  simp only [Act.put, List.setIfInBounds_toArray, List.set_cons_zero, List.set_cons_succ]
  refine wpQ_move _ rfl rfl (.pointer (some ⟨g, 0, none⟩)) rfl ?_
  simp only [Act.put, List.setIfInBounds_toArray, List.set_cons_zero, List.set_cons_succ]
  refine wpQ_has 35 _ rfl _ rfl rfl 35 _ (fun w' hC => hS.after hC) _ Tryd.underlying35 rfl (infoCp _ _ _) ?_
  simp only [Act.put, List.setIfInBounds_toArray, List.set_cons_zero, List.set_cons_succ]
  refine wpQ_fn 17 _ _ rfl rfl #[.pointer (some ⟨g, 0, none⟩), .agg (cpC (cpX S) (cpY S) (cpN S))] rfl (fun _ => by go_simp) (.bool (!cpN S)) (fun w' hC => (kOn _ w' (HK.out _ _ _ hI hC)).mono fun e w'' ⟨he, hb⟩ => ⟨he, below_class hC hb⟩) ?_
  simp only [Act.put, List.setIfInBounds_toArray, List.set_cons_zero, List.set_cons_succ]
  refine wpQ_val rfl (.pointer (some ⟨gp, 16, none⟩)) (fun w' _ => by go_simp) ?_
  simp only [Act.put, List.setIfInBounds_toArray, List.set_cons_zero, List.set_cons_succ]
  refine wpQ_load 4 _ rfl rfl _ rfl (.bool (cpN S)) (fun w' hC => cell_bool _ _ _ w' (cp_n (hS.after hC))) ?_
  simp only [Act.put, List.setIfInBounds_toArray, List.set_cons_zero, List.set_cons_succ]
  refine wpQ_bin _ _ _ _ _ rfl rfl (.bool (!cpN S)) (.bool (cpN S)) rfl rfl (.bool false) (fun w' _ => notEqB _ _ _ w') ?_
  simp only [Act.put, List.setIfInBounds_toArray, List.set_cons_zero, List.set_cons_succ]
  refine wpQuiet_nil ?_
  intro w9 hC
  replace hN := hN.after hC
  replace hM := hM.after hC
  replace hS := hS.after hC
  replace hQ := hQ.after hC
  replace hF := hF.after hC
  replace hI := HK.out _ _ _ hI hC
  replace hb0 := below_trans hb0 hC
  clear hC kL kOn
  go_wp2_with fail
  replace kL2 := kL2 f
  replace kTm := kTm f
  replace kP := kP f
  refine region_quiet_tail (Below w9.heap.size w9) 16 (by kernel_rfl) (by kernel_rfl) (below_drewN (Below.refl _ _) 1) ?_
  simp only [List.take_succ_cons, List.take_zero, List.drop_succ_cons, List.drop_zero]
  refine wpQ_move _ rfl rfl (.pointer (some ⟨f, 0, none⟩)) rfl ?_
  simp only [Act.put, List.setIfInBounds_toArray, List.set_cons_zero, List.set_cons_succ]
  refine wpQ_move _ rfl rfl (.pointer (some ⟨g, 0, none⟩)) rfl ?_
  simp only [Act.put, List.setIfInBounds_toArray, List.set_cons_zero, List.set_cons_succ]
  refine wpQ_has 24 _ rfl _ rfl rfl 24 _ (fun w' hC => hN.after hC) _ Tryd.underlying24 rfl (infoNum _) ?_
  simp only [Act.put, List.setIfInBounds_toArray, List.set_cons_zero, List.set_cons_succ]
  refine wpQ_fn 12 _ _ rfl rfl #[] rfl (fun _ => by go_simp) (.agg (cpC (cpX B) (cpY B) (cpN B))) (fun w' hC => (kB w' _ (HK.out _ _ _ hI hC)).mono fun e w'' ⟨he, hb⟩ => ⟨he, below_class hC hb⟩) ?_
  simp only [Act.put, List.setIfInBounds_toArray, List.set_cons_zero, List.set_cons_succ]
  refine wpQ_has 24 _ rfl _ rfl rfl 24 _ (fun w' hC => hM.after hC) _ Tryd.underlying24 rfl (infoNum _) ?_
  simp only [Act.put, List.setIfInBounds_toArray, List.set_cons_zero, List.set_cons_succ]
  refine wpQ_has 35 _ rfl _ rfl rfl 35 _ (fun w' hC => hS.after hC) _ Tryd.underlying35 rfl (infoCp _ _ _) ?_
  simp only [Act.put, List.setIfInBounds_toArray, List.set_cons_zero, List.set_cons_succ]
  refine wpQ_fn 18 _ _ rfl rfl #[.pointer (some ⟨g, 0, none⟩), .agg (nums n), .agg (cpC (cpX B) (cpY B) (cpN B)), .agg (nums m), .agg (cpC (cpX S) (cpY S) (cpN S))] rfl (fun _ => by go_simp) (.agg (cpC (cpX V) (cpY V) (cpN V))) (fun w' hC => (kT _ w' (HK.out _ _ _ hI hC)).mono fun e w'' ⟨he, hb⟩ => ⟨he, below_class hC hb⟩) ?_
  simp only [Act.put, List.setIfInBounds_toArray, List.set_cons_zero, List.set_cons_succ]
  refine wpQ_move _ rfl rfl (.pointer (some ⟨f, 0, none⟩)) rfl ?_
  simp only [Act.put, List.setIfInBounds_toArray, List.set_cons_zero, List.set_cons_succ]
  refine wpQ_has 39 _ rfl _ rfl rfl 39 _ (fun w' hC => hQ.after hC) _ Tryd.underlying39 rfl (infoPt _ _ _) ?_
  simp only [Act.put, List.setIfInBounds_toArray, List.set_cons_zero, List.set_cons_succ]
  refine wpQ_move _ rfl rfl (.pointer (some ⟨f, 0, none⟩)) rfl ?_
  simp only [Act.put, List.setIfInBounds_toArray, List.set_cons_zero, List.set_cons_succ]
  refine wpQ_has 24 _ rfl _ rfl rfl 24 _ (fun w' hC => hM.after hC) _ Tryd.underlying24 rfl (infoNum _) ?_
  simp only [Act.put, List.setIfInBounds_toArray, List.set_cons_zero, List.set_cons_succ]
  refine wpQ_fn 14 _ _ rfl rfl #[.agg (nums m)] rfl (fun _ => by go_simp) (.agg (d16 m)) (fun w' hC => (kOm w').mono fun e w'' ⟨he, hb⟩ => ⟨he, below_class hC hb⟩) ?_
  simp only [Act.put, List.setIfInBounds_toArray, List.set_cons_zero, List.set_cons_succ]
  refine wpQ_has 39 _ rfl _ rfl rfl 39 _ (fun w' hC => hQ.after hC) _ Tryd.underlying39 rfl (infoPt _ _ _) ?_
  simp only [Act.put, List.setIfInBounds_toArray, List.set_cons_zero, List.set_cons_succ]
  refine wpQ_fn 13 _ _ rfl rfl #[.pointer (some ⟨f, 0, none⟩), .agg (d16 m), .agg (ptC q.x q.y q.z)] rfl (fun _ => by go_simp) (.agg (ptC r.x r.y r.z)) (fun w' hC => (kTm w' (hF.after hC)).mono fun e w'' ⟨he, hb⟩ => ⟨he, below_class hC hb⟩) ?_
  simp only [Act.put, List.setIfInBounds_toArray, List.set_cons_zero, List.set_cons_succ]
  refine wpQ_fn 19 _ _ rfl rfl #[.pointer (some ⟨f, 0, none⟩), .agg (ptC q.x q.y q.z), .agg (ptC r.x r.y r.z)] rfl (fun _ => by go_simp) (.agg (ptC s.x s.y s.z)) (fun w' hC => (kP w' (hF.after hC)).mono fun e w'' ⟨he, hb⟩ => ⟨he, below_class hC hb⟩) ?_
  simp only [Act.put, List.setIfInBounds_toArray, List.set_cons_zero, List.set_cons_succ]
  refine wpQ_fn 16 _ _ rfl rfl #[.pointer (some ⟨f, 0, none⟩), .agg (cpC (cpX V) (cpY V) (cpN V)), .agg (ptC s.x s.y s.z)] rfl (fun _ => by go_simp) (.bool true) (fun w' hC => (kL2 w' (hF.after hC)).mono fun e w'' ⟨he, hb⟩ => ⟨he, below_class hC hb⟩) ?_
  simp only [Act.put, List.setIfInBounds_toArray, List.set_cons_zero, List.set_cons_succ]
  refine wpQuiet_nil ?_
  intro w10 hC
  replace hb0 := below_trans hb0 hC
  clear hC
  go_wp2_with fail
  go_ret
  exact ⟨rfl, hb0⟩
end Go.Proofs.YtmgmfifkldpbmaaDoor
