/-
Layer 12: slices of grants and of entries that come in; an entry that comes in.
Layer 12: package pmp's Of, Byte, Check.
Layer 12: package pmp's Check.
-/
import Derived.Test.YtgpofoggfifnjaaGreatDoorJAp
import Derived.Test.YtgpofoggfifnjaaGreatDoorJAc
import Derived.Test.YtgpofoggfifnjaaGreatDoorJAb
import Derived.Deep.Strs
import Derived.Deep.Slices
import Derived.Deep.Fields
import Derived.Lib.SmallJoins
import Derived.SizedLaws
namespace Go.Proofs.YtgpofoggfifnjaaGreatDoor.Pm
open Go.Joins Go.ChangeShapes Go.WideShapes Go.ChangeAt Go.RowKit Go.Deep

theorem pick {α : Type} (n : Nat) (Q : Nat → α → Prop) (z : α) (h : ∀ i, i < n → ∃ a, Q i a) : ∃ l : List α, l.length = n ∧ ∀ i, i < n → Q i (l.getD i z) := by
  induction n with
  | zero => exact ⟨[], rfl, fun i hi => by omega⟩
  | succ n ih =>
    obtain ⟨l, hl, hq⟩ := ih fun i hi => h i (by omega)
    obtain ⟨a, ha⟩ := h n (by omega)
    refine ⟨l ++ [a], by simp [hl], fun i hi => ?_⟩
    by_cases h1 : i < n
    · have e : (l ++ [a]).getD i z = l.getD i z := by
        simp only [List.getD_eq_getElem?_getD, List.getElem?_append_left (show i < l.length by omega)]
      rw [e]
      exact hq i h1
    · obtain rfl : i = n := by omega
      have e : (l ++ [a]).getD i z = a := by
        subst hl
        simp [List.getD_eq_getElem?_getD]
      rw [e]
      exact ha
theorem weights_all {H : Type} {P : Program} {e : TypeId} {d : DataW H} : ∀ {l : List (DataW H)}, d ∈ l → ∀ n ∈ d.weights P e, n ∈ DataW.weightsAll P e l
  | [], h, _, _ => by cases h
  | x :: l, h, n, hn => by
    simp only [DataW.weightsAll, List.mem_append]
    rcases List.mem_cons.1 h with rfl | h
    · exact .inl hn
    · exact .inr (weights_all h n hn)
/-- a slice of things of C cells each -/
theorem came_slice {H : Type} {enc : TypeId × Value → H} {P : Program} {W : World} {t e : TypeId} {fuel : Nat} {cs : List Value} {y : DataW H × List MemPlace} {α : Type} (z : α) (C B : Nat) (hC : P.cellsOf e = C) (h0C : 0 < C) (ht : P.underlying t = some (.slice e)) (hb : P.bytesOf e = B) (hB : 0 < B) (cv : α → Nat → Value) (G : α → Prop)
    (h : DataW.trod enc P W 0 (fun _ => true) true fuel t cs = some y) (hw : ∀ n ∈ y.1.weights P t, n ≤ reachBytes)
    (hel : ∀ n cs d p, DataW.trod enc P W 0 (fun _ => true) true n e cs = some (d, p) → (∀ n ∈ d.weights P e, n ≤ reachBytes) → ∃ a, G a ∧ ∀ k, k < C → cs[k]? = some (cv a k)) :
    ∃ (s : Sl) (l : List α), cs = [s.v] ∧ l.length = s.n ∧ SlC W s C (fun j i => cv (l.getD j z) i) ∧ ∀ j, j < s.n → G (l.getD j z) := by
  rcases open_slice ht h with ⟨rfl, rfl⟩ | ⟨a, len, cap, m, n, D, Pl, rfl, _, hl, _, hm, rfl, hi⟩
  · exact ⟨⟨none, 0, 0⟩, [], rfl, rfl, ⟨⟨Nat.le_refl _, Nat.zero_le _⟩, fun h => absurd h (Nat.lt_irrefl _)⟩, fun j hj => absurd hj (Nat.not_lt_zero _)⟩
  · simp only [if_true] at hm
    subst hm
    have hlen : len ≤ 140737488355328 := by
      have h1 := hw _ (by simp only [DataW.weights, ht]; exact List.mem_cons_self)
      simp only [List.length_map, List.length_range, hb, reachBytes] at h1
      have := Nat.le_mul_of_pos_right (len + (m - len)) hB
      omega
    have hall : ∀ i, i < len → ∃ x, G x ∧ ∀ k, k < C → W.cell? ((a.add (i * C)).add k) = some (cv x k) := fun i hil => by
      obtain ⟨cs', hcs, htr⟩ := hi i (by omega)
      rw [hC] at hcs
      obtain ⟨_, hcl, hat⟩ := World.cells?_some hcs
      obtain ⟨x, hG, hk⟩ := hel n cs' _ _ htr (fun k hk => hw k (by
        simp only [DataW.weights, ht, List.mem_cons, List.mem_append]
        exact .inr (.inl (weights_all (List.mem_map.2 ⟨i, List.mem_range.2 hil, rfl⟩) k hk))))
      exact ⟨x, hG, fun k hkc => (hat k hkc).trans (hk k hkc)⟩
    obtain ⟨l, hll, hq⟩ := pick len _ z hall
    refine ⟨⟨some a, len, m⟩, l, rfl, hll, ⟨⟨hl, hlen⟩, fun hn => ?_⟩, fun j hj => (hq j hj).1⟩
    obtain ⟨b, off, spot⟩ := a
    have hc0 := (hq 0 hn).2 0 h0C
    have hspot : spot = none := by simpa [Addr.add] using World.cell?_spot hc0
    subst hspot
    have hcell : ∀ j i, j < len → i < C → W.cell? ⟨b, off + j * C + i, none⟩ = some (cv (l.getD j z) i) := fun j i hj hi => by
      have := (hq j hj).2 i hi
      rwa [Addr.add_mid, Addr.add_mid] at this
    exact ⟨b, off, rfl, block_of_cell (hcell 0 0 hn h0C), hcell⟩
theorem c32 : Tryz.prog.cellsOf 25 = 1 := by kernel_rfl
theorem c64 : Tryz.prog.cellsOf 3 = 1 := by kernel_rfl
theorem cEn : Tryz.prog.cellsOf 38 = 3 := by kernel_rfl
theorem bEn : Tryz.prog.bytesOf 38 = 24 := by kernel_rfl
theorem at_one {cs : List Value} {o : Nat} {v : Value} (h : (cs.drop o).take 1 = [v]) : cs[o]? = some v := by
  have h2 := congrArg (·[0]?) h
  simpa [List.getElem?_take, List.getElem?_drop] using h2
theorem wf_64 {z : Int} (h : (Lit.int .i64 z).wf = true) : i64ok z := wf_i64 h
section
variable {H : Type} {enc : TypeId × Value → H} {W : World} {n : Nat} {cs : List Value} {d : DataW H} {p : List MemPlace}
theorem came_entry (h : DataW.trod enc Tryz.prog W 0 (fun _ => true) true n 38 cs = some (d, p)) : ∃ g : En, g.Wf ∧ ∀ k, k < 3 → cs[k]? = some (enV g k) := by
  obtain ⟨y0, y1, y2, m, _, hl, h0, h1, h2⟩ := trod_struct3 Tryz.underlying38 h
  dsimp only at h0 h1 h2
  rw [c64] at h0 h1
  rw [c32] at h2
  obtain ⟨z0, e0, _, w0⟩ := DataW.trod_int Tryz.underlying3 h0
  obtain ⟨z1, e1, _, w1⟩ := DataW.trod_int Tryz.underlying3 h1
  obtain ⟨z2, e2, _, w2⟩ := DataW.trod_int Tryz.underlying25 h2
  obtain ⟨s, rfl, hs⟩ := wf_u32 w2
  refine ⟨⟨z0, z1, s⟩, ⟨wf_64 w0, wf_64 w1, hs⟩, fun k hk => ?_⟩
  match k, hk with
  | 0, _ => exact at_one e0
  | 1, _ => exact at_one e1
  | 2, _ => exact at_one e2
theorem mem_getD {α : Type} {P : α → Prop} {l : List α} {n : Nat} {z : α} (hl : l.length = n) (h : ∀ j, j < n → P (l.getD j z)) : ∀ x ∈ l, P x := fun x hx => by
  obtain ⟨j, hj, rfl⟩ := List.getElem_of_mem hx
  have := h j (by omega)
  rwa [List.getD_eq_getElem?_getD, List.getElem?_eq_getElem hj] at this
end
end Go.Proofs.YtgpofoggfifnjaaGreatDoor.Pm
namespace Go.Proofs.YtgpofoggfifnjaaGreatDoor.Pm
open Go Go.RowKit

theorem u8_and_nat' (a b : Nat) (ha : a < 256) (hb : b < 256) : bits .and .u8 (a : Int) (b : Int) = ((a &&& b : Nat) : Int) := by
  have hx : a &&& b < 256 := Nat.lt_of_le_of_lt Nat.and_le_left ha
  have h1 : (BitVec.ofInt 8 (a : Int)).toNat = a := by
    rw [BitVec.ofInt_natCast, BitVec.toNat_ofNat]; exact Nat.mod_eq_of_lt (by omega)
  have h2 : (BitVec.ofInt 8 (b : Int)).toNat = b := by
    rw [BitVec.ofInt_natCast, BitVec.toNat_ofNat]; exact Nat.mod_eq_of_lt (by omega)
  show IntKind.u8.wrap ((BitVec.ofInt 8 (a : Int) &&& BitVec.ofInt 8 (b : Int)).toNat : Int) = _
  rw [BitVec.toNat_and, h1, h2]
  simp [IntKind.wrap, IntKind.bits, IntKind.signed]
  omega
set_option maxRecDepth 100000 in
set_option maxHeartbeats 1000000 in
theorem of_any (b a : Nat) (w : World) (hb : b < 256) (_ha : a < 4294967296) : Calls Tryz.prog 44 #[.int .u8 (b : Int), .int .u32 (a : Int)] w fun e w' => e = .returned (.agg #[.int .i64 ((b / 8 % 4 : Nat) : Int), .int .i64 ((b % 8 : Nat) : Int), .int .u32 (a : Int)]) ∧ Below w.heap.size w w' := by
  have k1 : bits .and .u8 ((b : Int) / 8) 3 = ((b / 8 % 4 : Nat) : Int) := by
    have h := u8_and_nat' (b / 8) 3 (by omega) (by omega)
    rw [show b / 8 &&& 3 = b / 8 % 4 from Nat.and_two_pow_sub_one_eq_mod (b / 8) 2] at h
    rw [show (b : Int) / 8 = ((b / 8 : Nat) : Int) by omega]
    exact h
  have k2 : bits .and .u8 (b : Int) 7 = ((b % 8 : Nat) : Int) := by
    have h := u8_and_nat' b 7 hb (by omega)
    rw [show b &&& 7 = b % 8 from Nat.and_two_pow_sub_one_eq_mod b 3] at h
    exact h
  obtain ⟨x, hx⟩ : ∃ x, x = b / 8 % 4 := ⟨_, rfl⟩
  obtain ⟨y, hy⟩ : ∃ y, y = b % 8 := ⟨_, rfl⟩
  rw [← hx] at k1 ⊢
  rw [← hy] at k2 ⊢
  have l1 : x < 4 := by omega
  have l2 : y < 8 := by omega
  clear hx hy
  go_enter Tryz.func44, Tryz.ntmps44
  go_wp2_with fail
  have hG : Has (w.alloc (.cells #[.int .i64 (x : Int), .int .i64 (y : Int), .int .u32 (a : Int)] 38)) w.heap.size 38 #[.int .i64 (x : Int), .int .i64 (y : Int), .int .u32 (a : Int)] := Has.new _ _ _
  refine bodyPost_ret (results_cell_row rfl _ _ w.heap.size 38 _ _ _ rfl hG Tryz.underlying38 rfl infoE) rfl ⟨rfl, ?_⟩
  exact (Below.refl _ w).alloc (Nat.le_refl _) _
set_option maxRecDepth 100000 in
set_option maxHeartbeats 1000000 in
theorem byte_any (x r a : Nat) (w : World) (hx : x ≤ 3) (hr : r ≤ 7) (_ha : a < 4294967296) : Calls Tryz.prog 45 #[.agg #[.int .i64 (x : Int), .int .i64 (r : Int), .int .u32 (a : Int)]] w fun e w' => e = .returned (.int .u8 ((r + 8 * x : Nat) : Int)) ∧ Below w.heap.size w w' := by
  have k1 : bits .and .i64 (r : Int) 7 = (r : Int) := by
    have h := i64_and_mask (r : Int) 3 (by omega)
    rw [show ((2 ^ 3 - 1 : Nat) : Int) = 7 from rfl] at h
    rw [h]
    have : ((2 ^ 3 : Nat) : Int) = 8 := rfl
    omega
  have k2 : bits .and .i64 (x : Int) 3 = (x : Int) := by
    have h := i64_and_mask (x : Int) 2 (by omega)
    rw [show ((2 ^ 2 - 1 : Nat) : Int) = 3 from rfl] at h
    rw [h]
    have : ((2 ^ 2 : Nat) : Int) = 4 := rfl
    omega
  go_enter Tryz.func45, Tryz.ntmps45
  go_wp2_with fail
  go_ret
  refine ⟨?_, (Below.refl _ w).alloc (Nat.le_refl _) _⟩
  rw [show (r : Int) + (x : Int) * 8 = ((r + 8 * x : Nat) : Int) by omega]
  rfl
theorem i64_and_nat (a b : Nat) (ha : a < 4294967296) (hb : b < 4294967296) : bits .and .i64 (a : Int) (b : Int) = ((a &&& b : Nat) : Int) := by
  have hx : a &&& b ≤ a := Nat.and_le_left
  show IntKind.i64.wrap ((BitVec.ofInt 64 (a : Int) &&& BitVec.ofInt 64 (b : Int)).toNat : Int) = _
  rw [BitVec.toNat_and, ofInt_u64 a (by omega), ofInt_u64 b (by omega), IntWalk.i64_in _ (by omega)]
end Go.Proofs.YtgpofoggfifnjaaGreatDoor.Pm
namespace Go.Proofs.YtgpofoggfifnjaaGreatDoor.Pm
open Go Go.RowKit

theorem checkT_step (es : List En) (i at' n right : Nat) (hi : i < es.length) : checkT ((tri 0 es).drop i) at' n right = (if overB ⟨(rangeI es i).1, (rangeI es i).2, (es.getD i en0).r⟩ at' n then (inB' ⟨(rangeI es i).1, (rangeI es i).2, (es.getD i en0).r⟩ at' n && decide (andR (es.getD i en0).r right = right)) else checkT ((tri 0 es).drop (i + 1)) at' n right) := by
  have h2 := tri_at es 0 i hi
  have hlt : i < (tri 0 es).length := by rw [tri_len]; exact hi
  rw [List.getElem?_eq_getElem hlt] at h2
  rw [List.drop_eq_getElem_cons hlt, Option.some.inj h2]
  rfl
/-- how far a Range goes -/
theorem rangeI_le (es : List En) (i : Nat) (h : ∀ e ∈ es, e.a < 4294967296) : (rangeI es i).1 < 68719476736 ∧ (rangeI es i).2 < 68719476736 := by
  have h1 : ∀ j, (es.getD j en0).a < 4294967296 := fun j => by
    by_cases hj : j < es.length
    · rw [List.getD_eq_getElem?_getD, List.getElem?_eq_getElem hj]; exact h _ (List.getElem_mem _)
    · rw [List.getD_eq_getElem?_getD, List.getElem?_eq_none (by omega)]; exact (by decide : (0 : Nat) < 4294967296)
  have ha := h1 i
  have hp := h1 (i - 1)
  unfold rangeI rangeP
  generalize (es.getD (i - 1) en0).a = p at *
  generalize es.getD i en0 = e at *
  have hn : napS e.a ≤ 34359738368 := by
    unfold napS
    have := pow32 (onesF_le 32 e.a)
    omega
  have hm := Nat.div_mul_le_self (4 * e.a) (napS e.a)
  have hq : (if i = 0 then 0 else p) < 4294967296 := by split <;> omega
  generalize (if i = 0 then 0 else p) = q at *
  split
  · split <;> (dsimp only; omega)
  · split
    · dsimp only; omega
    · split <;> (dsimp only; omega)
set_option maxRecDepth 100000 in
set_option maxHeartbeats 8000000 in
theorem check_any (es : List En) (s : Sl) (at' n right : Nat) (w : World) (hT : TabT w) (hS : SlE w s es) (hpl : plainL es) (ha : at' < 4294967296) (hn1 : 1 ≤ n) (hn8 : n ≤ 8) (hr : right ≤ 7) :
    Calls Tryz.prog 31 #[s.v, .int .u32 (at' : Int), .int .i64 (n : Int), .int .i64 (right : Int)] w fun e w' => e = .returned (.bool (checkT (tri 0 es) at' n right)) ∧ Below w.heap.size w w' := by
  have hlen := hS.1
  obtain ⟨A, m, c⟩ := s
  dsimp only at hlen
  have HS := Lib.hid hS
  have HT := Lib.hid hT
  have HPL := Lib.hid hpl.1
  have hm40 : m ≤ 40 := by have := hpl.2; omega
  generalize hr' : checkT (tri 0 es) at' n right = res
  have HRES := Lib.hid hr'
  have HLEN := Lib.hid hlen
  clear hS hT hpl hr' hlen
  have hn0 : ¬ (n : Int) ≤ 0 := by omega
  show Calls Tryz.prog 31 #[.slice A m c, .int .u32 (at' : Int), .int .i64 (n : Int), .int .i64 (right : Int)] w _
  go_enter Tryz.func31, Tryz.ntmps31
  go_wp2_with fail
  go_loopw [25] (fun ct wr => ∃ i : Nat, i ≤ m ∧ ct = .int .i64 (i : Int) ∧ Hid (checkT ((tri 0 es).drop i) at' n right = res) ∧ Below w.heap.size w wr) (fun ct _ => (m - (intOf ct)).toNat)
  case atStart => exact ⟨0, Nat.zero_le _, rfl, HRES, Below.refl _ _⟩
  case round =>
    obtain ⟨i, hi, rfl, HR, hb⟩ := hrel
    by_cases hlt : i < m
    · have hin : (i : Int) < (m : Int) := by omega
      obtain ⟨b, o, hA, hlb, hcc⟩ := (HS.out.below hb).2.1.2 (show 0 < m by omega)
      dsimp only at hA
      subst hA
      have c0 := hcc i 0 hlt (by omega)
      have c1 := hcc i 1 hlt (by omega)
      have c2 := hcc i 2 hlt (by omega)
      have hpe := HPL.out (es.getD i en0) (by rw [List.getD_eq_getElem?_getD, List.getElem?_eq_getElem (show i < es.length by rw [HLEN.out]; exact hlt)]; exact List.getElem_mem _)
      have hst := checkT_step es i at' n right (by rw [HLEN.out]; exact hlt)
      rw [HR.out] at hst
      have hle := rangeI_le es i fun e he => (HS.out.2.2 e he).a
      have kR : ∀ W, Below w.heap.size w W → Calls Tryz.prog 58 #[.slice (some ⟨b, o, none⟩) m c, .int .i64 (i : Int)] W (retP (rangeI es i).1 (rangeI es i).2 W) := fun W hW => range_any es ⟨some ⟨b, o, none⟩, m, c⟩ i W (HT.out.below hW) (HS.out.below hW) hlt
      dsimp only at c0 c1 c2
      generalize (rangeI es i).1 = F at *
      generalize (rangeI es i).2 = T at *
      have hat := at_entry b o m c i hin
      generalize es.getD i en0 = e at *
      obtain ⟨ew, er, ea⟩ := e
      dsimp only at hpe hst
      obtain ⟨e0, e1, e2, e3⟩ := hpe
      obtain ⟨l1, l2⟩ := hle
      have HST := Lib.hid hst
      have HKR := Lib.hid kR
      have HB := Lib.hid hb
      replace c0 : wr.cell? ⟨b, o + i * 3, none⟩ = some (.int .i64 ew) := c0
      replace c1 : wr.cell? ⟨b, o + i * 3 + 1, none⟩ = some (.int .i64 er) := c1
      replace c2 : wr.cell? ⟨b, o + i * 3 + 2, none⟩ = some (.int .u32 (ea : Int)) := c2
      clear hst kR hcc hb
      go_upto_region 8 with fail
      obtain ⟨wa, hwa, hX, hba, hsa⟩ := one_new wr #[.int .i64 ew, .int .i64 er, .int .u32 (ea : Int)] 38
      rw [← hwa]
      have hg : wr.heap.size < wa.heap.size := by omega
      have hbwa := HB.out.trans (hba.mono HB.out.size)
      have kR := HKR.out wa hbwa
      clear hwa hsa c0 c1 c2 hba
      generalize wr.heap.size = g at *
      go_wp2_with fail
      refine kR.mono ?_
      rintro e w2 ⟨rfl, hb2⟩
      have hX2 := hX.below hb2 hg
      have hb3 := hbwa.trans (hb2.mono hbwa.size)
      clear kR hX hb2 hbwa hg hat
      have c1 : w2.cell? ⟨g, 1, none⟩ = some (.int .i64 er) := hX2.cell 1
      have HB3 := Lib.hid hb3
      clear hX2 hb3
      obtain ⟨r, rfl⟩ : ∃ r : Nat, er = (r : Int) := ⟨er.toNat, by omega⟩
      have hand := i64_and_nat r right (by omega) (by omega)
      have hv : r &&& right ≤ right := Nat.and_le_right
      have hst : res = (if overB ⟨F, T, (r : Int)⟩ at' n then (inB' ⟨F, T, (r : Int)⟩ at' n && decide (r &&& right = right)) else checkT ((tri 0 es).drop (i + 1)) at' n right) := HST.out
      have HST2 := Lib.hid hst
      clear hst
      generalize r &&& right = v at *
      obtain ⟨q, hq⟩ : ∃ q, q = decide (v = right) := ⟨_, rfl⟩
      have hqe : ((v : Int) == (right : Int)) = q := by
        rw [hq]
        by_cases h : v = right
        · rw [decide_eq_true h, h]; exact beq_self_eq_true _
        · rw [decide_eq_false h]; exact beq_eq_false_iff_ne.2 (by omega)
      rw [← hq] at HST2
      have HQ := Lib.hid hq
      clear hq
      have HN := Lib.hid hn1
      have over : F < at' + n → at' < T → F < T → res = (inB' ⟨F, T, (r : Int)⟩ at' n && q) := fun h1 h2 h3 => by
        rw [HST2.out, if_pos (show overB ⟨F, T, (r : Int)⟩ at' n = true by unfold overB; simp [h1, h2, h3])]
      have past : ¬(F < at' + n ∧ at' < T ∧ F < T) → checkT ((tri 0 es).drop (i + 1)) at' n right = res := fun h => by
        rw [HST2.out, if_neg (show ¬ overB ⟨F, T, (r : Int)⟩ at' n = true by unfold overB; simp; intro h1 h2; omega)]
      have OVER := Lib.hid over
      have PAST := Lib.hid past
      clear over past
      by_cases hf : (F : Int) < (at' : Int)
      · by_cases ht : (at' : Int) + (n : Int) < (T : Int)
        · skip
          by_cases ho : (at' : Int) < (at' : Int) + (n : Int)
          · have hres := OVER.out (by omega) (by omega) (by omega)
            have HRS := Lib.hid hres
            clear hres
            by_cases hp1 : F ≤ at'
            · have hp1' : (F : Int) ≤ (at' : Int) := by omega
              by_cases hp2 : at' + n ≤ T
              · have hp2' : (at' : Int) + (n : Int) ≤ (T : Int) := by omega
                have HI := Lib.hid (show inB' ⟨F, T, (r : Int)⟩ at' n = true by unfold inB'; simp [hp1, hp2])
                go_wp2_with fail
                all_goals (go_ret; exact ⟨by rw [HRS.out, HI.out, Bool.true_and]; rfl, HB3.out⟩)
              · have hp2' : ¬ (at' : Int) + (n : Int) ≤ (T : Int) := by omega
                have HI := Lib.hid (show inB' ⟨F, T, (r : Int)⟩ at' n = false by unfold inB'; simp [hp2])
                go_wp2_with fail
                all_goals (go_ret; exact ⟨by rw [HRS.out, HI.out]; rfl, HB3.out⟩)
            · have hp1' : ¬ (F : Int) ≤ (at' : Int) := by omega
              have HI := Lib.hid (show inB' ⟨F, T, (r : Int)⟩ at' n = false by unfold inB'; simp [hp1])
              go_wp2_with fail
              all_goals (go_ret; exact ⟨by rw [HRS.out, HI.out]; rfl, HB3.out⟩)
          · have hres := PAST.out (by omega)
            have HRS := Lib.hid hres
            clear hres
            go_wp2_with fail
            all_goals
              go_roundw
              case rel => exact ⟨i + 1, by omega, by go_num, HRS, HB3.out⟩
              case measure => simp [intOf] <;> omega
        · skip
          by_cases ho : (at' : Int) < (T : Int)
          · have hres := OVER.out (by omega) (by omega) (by omega)
            have HRS := Lib.hid hres
            clear hres
            by_cases hp1 : F ≤ at'
            · have hp1' : (F : Int) ≤ (at' : Int) := by omega
              by_cases hp2 : at' + n ≤ T
              · have hp2' : (at' : Int) + (n : Int) ≤ (T : Int) := by omega
                have HI := Lib.hid (show inB' ⟨F, T, (r : Int)⟩ at' n = true by unfold inB'; simp [hp1, hp2])
                go_wp2_with fail
                all_goals (go_ret; exact ⟨by rw [HRS.out, HI.out, Bool.true_and]; rfl, HB3.out⟩)
              · have hp2' : ¬ (at' : Int) + (n : Int) ≤ (T : Int) := by omega
                have HI := Lib.hid (show inB' ⟨F, T, (r : Int)⟩ at' n = false by unfold inB'; simp [hp2])
                go_wp2_with fail
                all_goals (go_ret; exact ⟨by rw [HRS.out, HI.out]; rfl, HB3.out⟩)
            · have hp1' : ¬ (F : Int) ≤ (at' : Int) := by omega
              have HI := Lib.hid (show inB' ⟨F, T, (r : Int)⟩ at' n = false by unfold inB'; simp [hp1])
              go_wp2_with fail
              all_goals (go_ret; exact ⟨by rw [HRS.out, HI.out]; rfl, HB3.out⟩)
          · have hres := PAST.out (by omega)
            have HRS := Lib.hid hres
            clear hres
            go_wp2_with fail
            all_goals
              go_roundw
              case rel => exact ⟨i + 1, by omega, by go_num, HRS, HB3.out⟩
              case measure => simp [intOf] <;> omega
      · by_cases ht : (at' : Int) + (n : Int) < (T : Int)
        · skip
          by_cases ho : (F : Int) < (at' : Int) + (n : Int)
          · have hres := OVER.out (by omega) (by omega) (by omega)
            have HRS := Lib.hid hres
            clear hres
            by_cases hp1 : F ≤ at'
            · have hp1' : (F : Int) ≤ (at' : Int) := by omega
              by_cases hp2 : at' + n ≤ T
              · have hp2' : (at' : Int) + (n : Int) ≤ (T : Int) := by omega
                have HI := Lib.hid (show inB' ⟨F, T, (r : Int)⟩ at' n = true by unfold inB'; simp [hp1, hp2])
                go_wp2_with fail
                all_goals (go_ret; exact ⟨by rw [HRS.out, HI.out, Bool.true_and]; rfl, HB3.out⟩)
              · have hp2' : ¬ (at' : Int) + (n : Int) ≤ (T : Int) := by omega
                have HI := Lib.hid (show inB' ⟨F, T, (r : Int)⟩ at' n = false by unfold inB'; simp [hp2])
                go_wp2_with fail
                all_goals (go_ret; exact ⟨by rw [HRS.out, HI.out]; rfl, HB3.out⟩)
            · have hp1' : ¬ (F : Int) ≤ (at' : Int) := by omega
              have HI := Lib.hid (show inB' ⟨F, T, (r : Int)⟩ at' n = false by unfold inB'; simp [hp1])
              go_wp2_with fail
              all_goals (go_ret; exact ⟨by rw [HRS.out, HI.out]; rfl, HB3.out⟩)
          · have hres := PAST.out (by omega)
            have HRS := Lib.hid hres
            clear hres
            go_wp2_with fail
            all_goals
              go_roundw
              case rel => exact ⟨i + 1, by omega, by go_num, HRS, HB3.out⟩
              case measure => simp [intOf] <;> omega
        · skip
          by_cases ho : (F : Int) < (T : Int)
          · have hres := OVER.out (by omega) (by omega) (by omega)
            have HRS := Lib.hid hres
            clear hres
            by_cases hp1 : F ≤ at'
            · have hp1' : (F : Int) ≤ (at' : Int) := by omega
              by_cases hp2 : at' + n ≤ T
              · have hp2' : (at' : Int) + (n : Int) ≤ (T : Int) := by omega
                have HI := Lib.hid (show inB' ⟨F, T, (r : Int)⟩ at' n = true by unfold inB'; simp [hp1, hp2])
                go_wp2_with fail
                all_goals (go_ret; exact ⟨by rw [HRS.out, HI.out, Bool.true_and]; rfl, HB3.out⟩)
              · have hp2' : ¬ (at' : Int) + (n : Int) ≤ (T : Int) := by omega
                have HI := Lib.hid (show inB' ⟨F, T, (r : Int)⟩ at' n = false by unfold inB'; simp [hp2])
                go_wp2_with fail
                all_goals (go_ret; exact ⟨by rw [HRS.out, HI.out]; rfl, HB3.out⟩)
            · have hp1' : ¬ (F : Int) ≤ (at' : Int) := by omega
              have HI := Lib.hid (show inB' ⟨F, T, (r : Int)⟩ at' n = false by unfold inB'; simp [hp1])
              go_wp2_with fail
              all_goals (go_ret; exact ⟨by rw [HRS.out, HI.out]; rfl, HB3.out⟩)
          · have hres := PAST.out (by omega)
            have HRS := Lib.hid hres
            clear hres
            go_wp2_with fail
            all_goals
              go_roundw
              case rel => exact ⟨i + 1, by omega, by go_num, HRS, HB3.out⟩
              case measure => simp [intOf] <;> omega
    · obtain rfl : i = m := by omega
      have hin : ¬ (i : Int) < (i : Int) := by omega
      have hz : res = false := by rw [← HR.out, List.drop_eq_nil_of_le (by rw [tri_len, HLEN.out]; exact Nat.le_refl _)]; rfl
      have HZ := Lib.hid hz
      have HBr := Lib.hid hb
      clear hz hb
      go_wp2_with fail
      go_ret
      exact ⟨by rw [HZ.out]; rfl, HBr.out⟩
end Go.Proofs.YtgpofoggfifnjaaGreatDoor.Pm
