/-
Layer 7, the reference: the encoding of a manifest.
Layer 7, plain: reading manifests from bytes; what is decoded is what was encoded, and back.
Layer 7, the reference's Decode: its cursor, its row of payloads.
Layer 7: the law's own manifest of one payload.
'==' of two arrays of integers by value.
A region that draws its order, each operation once, in whatever order: facts that may speak of several operations' values.
Layer 7, the reference: Same, of two values that read as one manifest.
Layer 7, the reference: Decode.
-/
import Derived.Test.YtegaiphhoinilaaJaB
import Derived.Test.YtegaiphhoinilaaJaC
import Derived.Test.YtegaiphhoinilaaJaA
import Derived.Laws.StructEq
import Derived.Deep.CutBlock
import Derived.Deep.DeepCutAuto
import Derived.Laws.BytesArg
namespace Go.Proofs.Ytegaiphhoinilaa
open Go Go.RowKit

/-- the string PORTICO1 -/
def mark8 : List UInt8 := [80, 79, 82, 84, 73, 67, 79, 49]
def u8 (x : Int) : UInt8 := UInt8.ofNat (x % 256).toNat
def headL (m : Man) (n : Nat) : List (List UInt8) := [mark8, leB 4 m.c, [u8 m.k, u8 (n : Int), 0, 0]]
def payL (p : Pay) : List (List UInt8) := [p.d, leB 4 p.z, leB 4 p.b, [u8 p.c, u8 (p.gs.length : Int), 0, 0]]
def grL (g : Gr) : List (List UInt8) := [leB 4 g.s, leB 4 g.z, leB 4 g.r.toNat]
theorem mark_cells : (mark8.map by8).toArray = #[.int .u8 80, .int .u8 79, .int .u8 82, .int .u8 84, .int .u8 73, .int .u8 67, .int .u8 79, .int .u8 49] := by kernel_rfl
theorem by8_u8 (x : Int) : by8 (u8 x) = .int .u8 (x % 256) := by
  unfold by8 u8
  rw [UInt8.toNat_ofNat']
  congr 1
  omega
theorem i64_in' (x : Int) (h : -9223372036854775808 ≤ x ∧ x ≤ 9223372036854775807) : IntKind.i64.wrap x = x := by simp [IntKind.wrap, IntKind.bits, IntKind.signed]; omega
theorem RowB.out {w : World} {v : Value} {bs : List UInt8} (h : RowB w v bs) : ∃ A n c, v = .slice A n c ∧ RowB w (.slice A n c) bs := by
  obtain ⟨A, n, c, rfl, h2⟩ := h
  exact ⟨A, n, c, rfl, A, n, c, rfl, h2⟩
theorem row_kept {B : Nat} {w w' : World} {x : Value} {bs : List UInt8} (h : ∃ A n c, x = .slice A n c ∧ RowB w (.slice A n c) bs) (k : Kb B w w') : ∃ A n c, x = .slice A n c ∧ RowB w' (.slice A n c) bs := by
  obtain ⟨A, n, c, e, hR⟩ := h
  exact ⟨A, n, c, e, hR.keep k⟩
theorem row_frozen {w : World} {b B k : Nat} {bs : List UInt8} {fr : Nat × Nat} (hk : bs.length = k) (hb : w.heap[b]? = some (Obj.cells (bs.map by8).toArray 5 fr)) (hB : B ≤ b) : RowB (w.freeze ⟨b, k, none⟩ 1) (.slice (some ⟨b, 0, none⟩) k k) bs := by
  obtain ⟨f2, h2, _⟩ := (ka_freeze (n := k) (k := 1) hb hB).blk b _ _ fr hb
  exact rowB_at hk h2
theorem rowB_quad (w : World) (a b : Int) : RowB (w.alloc (.cells #[.int .u8 (a % 256), .int .u8 (b % 256), .int .u8 0, .int .u8 0] 5)) (.slice (some ⟨w.heap.size, 0, none⟩) 4 4) [u8 a, u8 b, 0, 0] := by
  refine rowB_at (fr := (0, 0)) rfl ?_
  rw [show ([u8 a, u8 b, 0, 0].map by8).toArray = #[.int .u8 (a % 256), .int .u8 (b % 256), .int .u8 0, .int .u8 0] from by
    rw [← by8_u8, ← by8_u8]; rfl]
  exact heap_alloc_new _ _
/-- a fresh row of slices that read as these lists of bytes -/
def RowsF (ob : Option Nat) (B m : Nat) (css : List (List UInt8)) (x : Value) (w : World) : Prop :=
  ∃ (h : Nat) (us : List Value), x = .slice (some ⟨h, 0, none⟩) m m ∧ (B ≤ h ∧ ob ≠ some h ∧ Has w h 70 us.toArray ∧ us.length = m ∧ css.length = m ∧ ∀ j, j < m → ∃ x, us[j]? = some x ∧ RowB w x (css.getD j []))
theorem rowsF_kept {ob : Option Nat} {B m : Nat} {css : List (List UInt8)} {x : Value} {w w' : World} (h : RowsF ob B m css x w) (k : Ka B w w') : RowsF ob B m css x w' := by
  obtain ⟨h, us, e, hB, hob, hH, hl, hc, hr⟩ := h
  refine ⟨h, us, e, hB, hob, k.has hH (by decide), hl, hc, fun j hj => ?_⟩
  obtain ⟨x, h1, h2⟩ := hr j hj
  exact ⟨x, h1, h2.keep k.kb⟩
theorem rowsF_apart {ob : Option Nat} {B m : Nat} {css : List (List UInt8)} {x : Value} {w w' : World} (h : RowsF ob B m css x w) (k : Kb B w w') (kk : w.grownBy w' ob) : RowsF ob B m css x w' := by
  obtain ⟨h, us, e, hB, hob, hH, hl, hc, hr⟩ := h
  refine ⟨h, us, e, hB, hob, has_grown hH kk (fun l hl2 he => hob (by rw [hl2, he])), hl, hc, fun j hj => ?_⟩
  obtain ⟨x, h1, h2⟩ := hr j hj
  exact ⟨x, h1, h2.keep k⟩
theorem rowsF_new {ob : Option Nat} {B m : Nat} {css : List (List UInt8)} {w : World} (us : List Value) (hl : us.length = m) (hc : css.length = m) (hB : B ≤ w.heap.size) (hr : ∀ j, j < m → ∃ x, us[j]? = some x ∧ RowB w x (css.getD j [])) (hob : ∀ h, ob = some h → h < w.heap.size) :
    RowsF ob B m css (.slice (some ⟨w.heap.size, 0, none⟩) m m) (w.alloc (.cells us.toArray 70)) := by
  refine ⟨w.heap.size, us, rfl, hB, (fun e => Nat.lt_irrefl _ (hob _ e)), Has.new _ _ _, hl, hc, fun j hj => ?_⟩
  obtain ⟨x, h1, h2⟩ := hr j hj
  exact ⟨x, h1, h2.keep (Ka.alloc _ _ hB).kb⟩
theorem forall3 {w : World} {a b c : Value} {x y z : List UInt8} (h1 : RowB w a x) (h2 : RowB w b y) (h3 : RowB w c z) : ∀ j, j < 3 → ∃ v, [a, b, c][j]? = some v ∧ RowB w v ([x, y, z].getD j []) := fun j hj => by
  rcases (show j = 0 ∨ j = 1 ∨ j = 2 by omega) with rfl | rfl | rfl
  · exact ⟨a, rfl, h1⟩
  · exact ⟨b, rfl, h2⟩
  · exact ⟨c, rfl, h3⟩
theorem forall4 {w : World} {a b c d : Value} {x y z u : List UInt8} (h1 : RowB w a x) (h2 : RowB w b y) (h3 : RowB w c z) (h4 : RowB w d u) : ∀ j, j < 4 → ∃ v, [a, b, c, d][j]? = some v ∧ RowB w v ([x, y, z, u].getD j []) := fun j hj => by
  rcases (show j = 0 ∨ j = 1 ∨ j = 2 ∨ j = 3 by omega) with rfl | rfl | rfl | rfl
  · exact ⟨a, rfl, h1⟩
  · exact ⟨b, rfl, h2⟩
  · exact ⟨c, rfl, h3⟩
  · exact ⟨d, rfl, h4⟩
/-- append([]byte(nil), x...), x not empty -/
theorem wp_copy_bytes {w : World} {op : Oper} {a : Act} {K : Act → World → Prop} {Q : Exit → Act → World → Prop} (s x : Operand)
    (ho : op.op = .call { callee := .builtin .append, args := #[s, x], argTypes := #[70, 70] }) (hs : a.eval s = .slice none 0 0) (b o m c : Nat) (hx : a.eval x = .slice (some ⟨b, o, none⟩) m c) (bs : List UInt8) (hm : bs.length = m) (hc : ∀ j, j < m → w.cell? ⟨b, o + j, none⟩ = some (by8 (bs.getD j 0))) (h63 : m ≤ 1000000)
    (hK : ∀ v' w', RowB w' v' bs → Below w.heap.size w w' → K (a.put op.dst v') w') : op.wp Try.prog a w K Q := by
  obtain ⟨i5, hi5, hz5, hs5, hb5⟩ := info_parts info5
  refine wp_append_own _ s x 70 ho w.heap.size 5 i5 _ 1 1 Try.underlying70 hi5 hz5 hs5 hb5 rfl (by decide) (.slice none 0 0) 0 [] hs (World.ownsRow_nil _ _ _ _) ⟨b, o, none⟩ m c (bs.map by8) hx (by simp [hm]) (fun j u hj => ?_) (fun u hu => ?_) (by simp only [maxLen]; omega) (by omega) (Nat.le_refl _)
    (fun v' w' h1 h2 _ => hK v' w' (own_rowB (by rw [Nat.zero_add, List.nil_append] at h1; exact h1)) ⟨h2.os, h2.tape, h2.output, h2.size, fun i hi => h2.block i hi (by simp [Value.ownBlock])⟩)
  · have hjm : j < m := by have := (List.getElem?_eq_some_iff.1 hj).1; simpa [hm] using this
    rw [Addr.add_mid, hc j hjm, ← hj]
    simp [List.getD_eq_getElem?_getD, show j < bs.length by omega]
  · obtain ⟨b, _, rfl⟩ := List.mem_map.1 hu
    rfl
theorem OutB.ka {B : Nat} {w w' : World} {v : Value} {n : Nat} {bss : List (List UInt8)} (h : OutB w B v n bss) (k : Ka B w w') : OutB w' B v n bss := by
  obtain ⟨vs, hl, ho, hr⟩ := h
  refine ⟨vs, hl, k.own ho (by decide), fun j hj => ?_⟩
  obtain ⟨x, h1, h2⟩ := hr j hj
  exact ⟨x, h1, h2.keep k.kb⟩
theorem out_kept {B : Nat} {w w' : World} {x : Value} {n : Nat} {bss : List (List UInt8)} (h : ∃ v, x = v ∧ OutB w B v n bss) (k : Ka B w w') : ∃ v, x = v ∧ OutB w' B v n bss := by
  obtain ⟨v, e, h⟩ := h
  exact ⟨v, e, h.ka k⟩
/-- the fresh row becomes the row that is appended to -/
theorem rowsF_out {B m : Nat} {css : List (List UInt8)} {w : World} {h : Nat} {us : List Value} (hF : B ≤ h ∧ (none : Option Nat) ≠ some h ∧ Has w h 70 us.toArray ∧ us.length = m ∧ css.length = m ∧ ∀ j, j < m → ∃ x, us[j]? = some x ∧ RowB w x (css.getD j [])) (hm : m ≤ 1000000) :
    OutB w B (.slice (some ⟨h, 0, none⟩) m m) m css := by
  obtain ⟨hB, _, hH, hl, hc, hr⟩ := hF
  exact ⟨us, hc, ⟨by rw [Nat.mul_one]; exact hl, .inr ⟨h, m, us.toArray, rfl, hB, hH, Nat.le_refl _, by simp only [maxLen]; omega, by simp [hl], by simp [← hl]⟩⟩, hr⟩
def plL (p : Pay) : List (List UInt8) := payL p ++ p.gs.flatMap grL
def outs (m : Man) (n i : Nat) : List (List UInt8) := headL m n ++ (m.ps.take i).flatMap plL
theorem errG_fine : ∀ (gs : List Gr) (all : List Gr) (pv : Option Gr), errG all pv gs = 0 → ∀ g ∈ gs, fineB g = true
  | [], _, _, _, g, h => by cases h
  | x :: gs, all, pv, he, g, h => by
    rw [show errG all pv (x :: gs) = if (!fineB x || pvBad pv x) = true then 10 else if all.any (ovl x) = true then 11 else errG (all ++ [x]) (some x) gs from rfl] at he
    by_cases h1 : (!fineB x || pvBad pv x) = true
    · rw [if_pos h1] at he; omega
    · rw [if_neg h1] at he
      by_cases h2 : all.any (ovl x) = true
      · rw [if_pos h2] at he; omega
      · rw [if_neg h2] at he
        rcases List.mem_cons.1 h with rfl | h
        · cases hf : fineB g with
          | true => rfl
          | false => rw [hf] at h1; exact absurd rfl h1
        · exact errG_fine gs _ _ he g h
theorem errP_fine : ∀ (ps : List Pay) (all : List Gr), errP all ps = 0 → ∀ p ∈ ps, badP p = false ∧ ∀ g ∈ p.gs, fineB g = true
  | [], _, _, p, h => by cases h
  | x :: ps, all, he, p, h => by
    rw [show errP all (x :: ps) = if badP x = true then 3 else if errG all none x.gs = 0 then errP (all ++ x.gs) ps else errG all none x.gs from rfl] at he
    by_cases h1 : badP x = true
    · rw [if_pos h1] at he; omega
    · rw [if_neg h1] at he
      by_cases h2 : errG all none x.gs = 0
      · rw [if_pos h2] at he
        rcases List.mem_cons.1 h with rfl | h
        · exact ⟨by simpa using h1, errG_fine _ _ _ h2⟩
        · exact errP_fine ps _ he p h
      · rw [if_neg h2] at he; exact absurd he h2
theorem right_fine {m : Man} (h : rightM m = 0) : (0 ≤ m.k ∧ m.k ≤ 255 ∧ 1 ≤ m.ps.length ∧ m.ps.length ≤ 4) ∧ ∀ p ∈ m.ps, badP p = false ∧ ∀ g ∈ p.gs, fineB g = true := by
  unfold rightM at h
  by_cases h1 : badM m = true
  · rw [if_pos h1] at h; omega
  · rw [if_neg h1] at h
    refine ⟨?_, errP_fine _ _ h⟩
    unfold badM at h1
    simp only [decide_eq_true_eq] at h1
    omega
theorem grL_len (g : Gr) : (grL g).length = 3 := rfl
theorem grs_len : ∀ gs : List Gr, (gs.flatMap grL).length = 3 * gs.length
  | [] => rfl
  | g :: gs => by
    rw [List.flatMap_cons, List.length_append, grs_len gs, grL_len, List.length_cons]
    omega
theorem leB4_len (x : Nat) : (leB 4 x).length = 4 := leB_len 4 x
theorem grs_flat : ∀ gs : List Gr, (gs.flatMap grL).flatten.length = 12 * gs.length
  | [] => rfl
  | g :: gs => by
    rw [List.flatMap_cons, List.flatten_append, List.length_append, grs_flat gs, List.length_cons]
    have : (grL g).flatten.length = 12 := by simp [grL, leB_len]
    omega
theorem pls_flat : ∀ ps : List Pay, (∀ p ∈ ps, p.d.length = 32 ∧ p.gs.length ≤ 4) → (ps.flatMap plL).flatten.length ≤ 92 * ps.length
  | [], _ => by simp
  | p :: ps, h => by
    rw [List.flatMap_cons, List.flatten_append, List.length_append, List.length_cons]
    have h1 := pls_flat ps fun x hx => h x (List.mem_cons_of_mem _ hx)
    obtain ⟨h2, h3⟩ := h p (List.mem_cons_self ..)
    have h4 : (plL p).flatten.length = 44 + 12 * p.gs.length := by
      unfold plL
      rw [List.flatten_append, List.length_append, grs_flat]
      simp [payL, leB_len, h2]
    omega
theorem outs_len (m : Man) (n i : Nat) (h : ∀ p ∈ m.ps, p.d.length = 32 ∧ p.gs.length ≤ 4) : (outs m n i).flatten.length ≤ 16 + 92 * i := by
  unfold outs
  rw [List.flatten_append, List.length_append]
  have h1 := pls_flat (m.ps.take i) fun p hp => h p (List.mem_of_mem_take hp)
  have h2 : (headL m n).flatten.length = 16 := by simp [headL, leB_len, mark8]
  have h3 : (m.ps.take i).length ≤ i := List.length_take_le _ _
  omega
theorem out_slB {w : World} {base n c : Nat} {A : Option Addr} {bss : List (List UInt8)} (h : OutB w base (.slice A n c) n bss) (hn : n ≤ 140737488355328) : SlB w ⟨A, n, c⟩ bss := by
  obtain ⟨vs, hl, ho, hr⟩ := h
  refine ⟨hl, hn, fun h0 => ?_⟩
  replace h0 : 0 < n := h0
  rcases ho.2 with ⟨_, h1⟩ | ⟨g, cap, cur, hv, hb, hg, hnc, _⟩
  · omega
  · have e1 : A = some ⟨g, 0, none⟩ := by injection hv
    subst e1
    refine ⟨g, 0, rfl, (Array.getElem?_eq_some_iff.1 hg).1, fun j hj => ?_⟩
    obtain ⟨x, h1, h2⟩ := hr j hj
    have := ho.cells (g := g) rfl j x h1
    rw [Addr.add_mid] at this
    exact ⟨x, this, h2⟩
theorem payV_d (p : Pay) (s : Sl) (j : Nat) (h : j < 32) : payV p s j = by8 (p.d.getD j 0) := by unfold payV; rw [if_pos h]
theorem take_one {α : Type} (l : List α) (d : α) (k : Nat) (h : k < l.length) : l.take (k + 1) = l.take k ++ [l.getD k d] := by
  rw [List.take_add_one, List.getD_eq_getElem?_getD, List.getElem?_eq_getElem h]
  rfl
end Go.Proofs.Ytegaiphhoinilaa
namespace Go.Proofs.Ytegaiphhoinilaa

def leV : List UInt8 → Nat
  | [] => 0
  | a :: r => a.toNat + 256 * leV r
theorem leT_leV (bs : List UInt8) : ∀ (l rest : List UInt8) (p : Nat), bs.drop p = l ++ rest → leT (bsN bs) l.length p = leV l
  | [], _, _, _ => rfl
  | a :: l, rest, p, h => by
    have h1 : p < bs.length := by
      rcases Nat.lt_or_ge p bs.length with h1 | h1
      · exact h1
      · rw [List.drop_of_length_le h1] at h; cases h
    have h2 : bs.drop p = bs[p] :: bs.drop (p + 1) := List.drop_eq_getElem_cons h1
    rw [h2] at h
    injection h with e1 e2
    have h3 := leT_leV bs l rest (p + 1) e2
    show bsN bs p + 256 * leT (bsN bs) l.length (p + 1) = a.toNat + 256 * leV l
    rw [h3]
    unfold bsN
    rw [List.getD_eq_getElem?_getD, List.getElem?_eq_getElem h1, Option.getD_some, e1]
theorem leB_cons (k x : Nat) : leB (k + 1) x = UInt8.ofNat x :: leB k (x / 256) := by
  unfold leB
  rw [List.range_succ_eq_map, List.map_cons, List.map_map, Nat.pow_zero, Nat.div_one]
  congr 1
  apply List.map_congr_left
  intro j _
  show UInt8.ofNat (x / 256 ^ (j + 1)) = UInt8.ofNat (x / 256 / 256 ^ j)
  rw [Nat.pow_succ, Nat.mul_comm, Nat.div_div_eq_div_mul]
theorem leV_leB : ∀ (k x : Nat), leV (leB k x) = x % 256 ^ k
  | 0, x => by simp [leB, leV, Nat.mod_one]
  | k + 1, x => by
    have e : 256 ^ (k + 1) = 256 * 256 ^ k := by rw [Nat.pow_succ, Nat.mul_comm]
    rw [leB_cons, leV, leV_leB k, UInt8.toNat_ofNat', e, Nat.mod_mul]
theorem leB_leV : ∀ l : List UInt8, leB l.length (leV l) = l
  | [] => rfl
  | a :: l => by
    have ha := a.toNat_lt
    rw [List.length_cons, leB_cons, leV, show (a.toNat + 256 * leV l) / 256 = leV l by omega, leB_leV l]
    congr 1
    apply UInt8.toNat.inj
    rw [UInt8.toNat_ofNat']
    omega
theorem leV_lt : ∀ l : List UInt8, leV l < 256 ^ l.length
  | [] => by simp [leV]
  | a :: l => by
    have ha := a.toNat_lt
    have := leV_lt l
    rw [List.length_cons, Nat.pow_succ, leV]
    omega
/-- a cursor's state -/
structure Cu where
  p : Nat
  bad : Bool
def Cu.num (bs : List UInt8) (k : Nat) (s : Cu) : Nat := tkN bs s.p s.bad k
def Cu.nxt (bs : List UInt8) (k : Nat) (s : Cu) : Cu := ⟨tkP bs.length s.p s.bad (k : Int), !okT bs.length s.p s.bad (k : Int)⟩
theorem Cu.nxt_le {bs : List UInt8} {k : Nat} {s : Cu} (h : s.p ≤ bs.length) : (s.nxt bs k).p ≤ bs.length := tkP_le _ _ h
/-- k bytes are there -/
theorem cu_read {bs l rest : List UInt8} {s : Cu} (hb : s.bad = false) (h : bs.drop s.p = l ++ rest) (hp : s.p ≤ bs.length) :
    okT bs.length s.p s.bad (l.length : Int) = true ∧ s.num bs l.length = leV l ∧ s.nxt bs l.length = ⟨s.p + l.length, false⟩ ∧ bs.drop (s.p + l.length) = rest ∧ s.p + l.length ≤ bs.length := by
  have hl : l.length ≤ bs.length - s.p := by
    have := congrArg List.length h
    rw [List.length_drop, List.length_append] at this
    omega
  have hok : okT bs.length s.p s.bad (l.length : Int) = true := by unfold okT; rw [hb]; simp; omega
  refine ⟨hok, ?_, ?_, ?_, by omega⟩
  · unfold Cu.num tkN
    rw [if_pos hok]
    exact leT_leV bs l rest s.p h
  · unfold Cu.nxt tkP
    rw [hok]
    simp
  · rw [← List.drop_drop, h, List.drop_left]
/-- a number was read: its bytes are there -/
theorem cu_back {bs : List UInt8} {k : Nat} {s : Cu} (h : (s.nxt bs k).bad = false) (hp : s.p ≤ bs.length) :
    s.bad = false ∧ (s.nxt bs k).p = s.p + k ∧ s.p + k ≤ bs.length ∧ bs.take (s.p + k) = bs.take s.p ++ leB k (s.num bs k) ∧ s.num bs k < 256 ^ k ∧ (bs.drop s.p).take k = leB k (s.num bs k) := by
  have hok : okT bs.length s.p s.bad (k : Int) = true := by
    have : (!okT bs.length s.p s.bad (k : Int)) = false := h
    simpa using this
  have hok' := hok
  unfold okT at hok'
  simp only [Bool.and_eq_true, Bool.not_eq_true', decide_eq_true_eq] at hok'
  have hl : ((bs.drop s.p).take k).length = k := by rw [List.length_take, List.length_drop]; omega
  have hnum : s.num bs k = leV ((bs.drop s.p).take k) := by
    unfold Cu.num tkN
    rw [if_pos hok]
    have := leT_leV bs ((bs.drop s.p).take k) ((bs.drop s.p).drop k) s.p (List.take_append_drop k _).symm
    rw [hl] at this
    exact this
  have hle : leB k (s.num bs k) = (bs.drop s.p).take k := by
    have := leB_leV ((bs.drop s.p).take k)
    rw [hl] at this
    rw [hnum]; exact this
  refine ⟨hok'.1, ?_, by omega, ?_, ?_, hle.symm⟩
  · show tkP bs.length s.p s.bad (k : Int) = s.p + k
    unfold tkP
    rw [if_pos hok]; rfl
  · rw [hle, List.take_add]
  · rw [hnum]
    have := leV_lt ((bs.drop s.p).take k)
    rwa [hl] at this
def decG (bs : List UInt8) : Nat → Cu → List Gr → Bool × List Gr × Cu
  | 0, s, gs => (true, gs, s)
  | k + 1, s, gs =>
    if ((s.nxt bs 4).nxt bs 4).num bs 4 ≤ 7 then decG bs k (((s.nxt bs 4).nxt bs 4).nxt bs 4) (gs ++ [⟨s.num bs 4, (s.nxt bs 4).num bs 4, (((s.nxt bs 4).nxt bs 4).num bs 4 : Nat)⟩])
    else (false, gs ++ [⟨s.num bs 4, (s.nxt bs 4).num bs 4, (((s.nxt bs 4).nxt bs 4).num bs 4 : Nat)⟩], ((s.nxt bs 4).nxt bs 4).nxt bs 4)
def digB (bs : List UInt8) (s : Cu) : List UInt8 := if okT bs.length s.p s.bad 32 then (bs.drop s.p).take 32 else List.replicate 32 0
def decP (bs : List UInt8) : Nat → Cu → List Pay → Bool × List Pay × Cu
  | 0, s, ps => (true, ps, s)
  | n + 1, s, ps =>
    let s1 := s.nxt bs 32
    let s2 := s1.nxt bs 4
    let s3 := s2.nxt bs 4
    let s4 := s3.nxt bs 1
    let s5 := s4.nxt bs 1
    let s6 := s5.nxt bs 2
    if s5.num bs 2 = 0 ∧ s4.num bs 1 ≤ 4 then
      let r := decG bs (s4.num bs 1) s6 []
      if r.1 = true then decP bs n r.2.2 (ps ++ [⟨digB bs s, s1.num bs 4, s2.num bs 4, r.2.1, (s3.num bs 1 : Nat)⟩])
      else (false, ps ++ [⟨digB bs s, s1.num bs 4, s2.num bs 4, r.2.1, (s3.num bs 1 : Nat)⟩], r.2.2)
    else (false, ps ++ [⟨digB bs s, s1.num bs 4, s2.num bs 4, [], (s3.num bs 1 : Nat)⟩], s6)
def c0 : Cu := ⟨0, false⟩
def c5 (bs : List UInt8) : Cu := ((((c0.nxt bs 8).nxt bs 4).nxt bs 1).nxt bs 1).nxt bs 2
def hdC (bs : List UInt8) : Nat := (c0.nxt bs 8).num bs 4
def hdK (bs : List UInt8) : Nat := ((c0.nxt bs 8).nxt bs 4).num bs 1
def hdN (bs : List UInt8) : Nat := (((c0.nxt bs 8).nxt bs 4).nxt bs 1).num bs 1
def hdZ (bs : List UInt8) : Nat := ((((c0.nxt bs 8).nxt bs 4).nxt bs 1).nxt bs 1).num bs 2
def hdOK (bs : List UInt8) : Bool := decide (tkB bs 0 false 8 = mark8 ∧ hdZ bs = 0 ∧ hdN bs ≤ 4)
/-- did it read well, to the end -/
def decOK (bs : List UInt8) (r : Bool × List Pay × Cu) : Bool := r.1 && !r.2.2.bad && decide (r.2.2.p = bs.length)
def decM (bs : List UInt8) : Man × Nat :=
  if hdOK bs = true then
    if decOK bs (decP bs (hdN bs) (c5 bs) []) = true then
      if rightM ⟨hdC bs, (hdK bs : Nat), (decP bs (hdN bs) (c5 bs) []).2.1⟩ = 0 then (⟨hdC bs, (hdK bs : Nat), (decP bs (hdN bs) (c5 bs) []).2.1⟩, 0)
      else (man0, rightM ⟨hdC bs, (hdK bs : Nat), (decP bs (hdN bs) (c5 bs) []).2.1⟩)
    else (man0, 3)
  else (man0, 3)
def encM (m : Man) : List UInt8 := (outs m m.ps.length m.ps.length).flatten
/-- grants are read as they were written -/
theorem decG_enc (bs : List UInt8) : ∀ (gs : List Gr) (s : Cu) (acc : List Gr) (rest : List UInt8), s.bad = false → s.p ≤ bs.length → bs.drop s.p = (gs.flatMap grL).flatten ++ rest → (∀ g ∈ gs, g.Wf ∧ fineB g = true) →
    ∃ p', decG bs gs.length s acc = (true, acc ++ gs, ⟨p', false⟩) ∧ p' ≤ bs.length ∧ bs.drop p' = rest
  | [], s, acc, rest, hb, hp, h, _ => ⟨s.p, by obtain ⟨p, b⟩ := s; simp only at hb; subst hb; simp [decG], hp, by simpa using h⟩
  | g :: gs, s, acc, rest, hb, hp, h, hw => by
    obtain ⟨hwf, hf⟩ := hw g (List.mem_cons_self ..)
    have hf' := of_decide_eq_true hf
    obtain ⟨rn, hrn⟩ : ∃ rn : Nat, g.r = (rn : Int) := ⟨g.r.toNat, by omega⟩
    have e : ((g :: gs).flatMap grL).flatten ++ rest = leB 4 g.s ++ (leB 4 g.z ++ (leB 4 rn ++ ((gs.flatMap grL).flatten ++ rest))) := by
      simp [grL, hrn]
    rw [e] at h
    obtain ⟨_, n1, x1, d1, q1⟩ := cu_read hb h hp
    rw [leB_len] at n1 x1 d1 q1
    obtain ⟨_, n2, x2, d2, q2⟩ := cu_read (s := ⟨s.p + 4, false⟩) rfl d1 q1
    rw [leB_len] at n2 x2 d2 q2
    obtain ⟨_, n3, x3, d3, q3⟩ := cu_read (s := ⟨s.p + 4 + 4, false⟩) rfl d2 q2
    rw [leB_len] at n3 x3 d3 q3
    obtain ⟨p', h1, h2, h3⟩ := decG_enc bs gs ⟨s.p + 4 + 4 + 4, false⟩ (acc ++ [g]) rest rfl q3 d3 fun x hx => hw x (List.mem_cons_of_mem _ hx)
    have hs := hwf.s
    have hz := hwf.z
    rw [leV_leB, Nat.mod_eq_of_lt (by omega)] at n1 n2 n3
    refine ⟨p', ?_, h2, h3⟩
    rw [List.length_cons, decG, x1, x2, x3, n1, n2, n3, if_pos (by omega)]
    have eg : (⟨g.s, g.z, ((rn : Nat) : Int)⟩ : Gr) = g := by rw [← hrn]
    rw [eg, h1]
    simp
/-- grants that were read: their bytes are there -/
theorem decG_back (bs : List UInt8) : ∀ (k : Nat) (s : Cu) (acc : List Gr), (decG bs k s acc).1 = true → (decG bs k s acc).2.2.bad = false → s.p ≤ bs.length →
    ∃ new, (decG bs k s acc).2.1 = acc ++ new ∧ new.length = k ∧ s.bad = false ∧ (decG bs k s acc).2.2.p ≤ bs.length ∧ bs.take (decG bs k s acc).2.2.p = bs.take s.p ++ (new.flatMap grL).flatten
  | 0, s, acc, _, h2, hp => ⟨[], by simp [decG], rfl, h2, hp, by simp [decG]⟩
  | k + 1, s, acc, h1, h2, hp => by
    rw [decG] at h1 h2 ⊢
    by_cases hr : ((s.nxt bs 4).nxt bs 4).num bs 4 ≤ 7
    · rw [if_pos hr] at h1 h2 ⊢
      have hp1 := Cu.nxt_le (k := 4) hp
      have hp2 := Cu.nxt_le (k := 4) hp1
      have hp3 := Cu.nxt_le (k := 4) hp2
      obtain ⟨new, e1, e2, e3, e4, e5⟩ := decG_back bs k _ _ h1 h2 hp3
      obtain ⟨b3, q3, l3, t3, _, _⟩ := cu_back e3 hp2
      obtain ⟨b2, q2, l2, t2, _, _⟩ := cu_back b3 hp1
      obtain ⟨b1, q1, l1, t1, _, _⟩ := cu_back b2 hp
      refine ⟨_ :: new, by rw [e1, List.append_assoc]; rfl, by rw [List.length_cons, e2], b1, e4, ?_⟩
      rw [e5, q3, t3, q2, t2, q1, t1]
      simp [grL]
    · rw [if_neg hr] at h1
      cases h1
/-- payloads are read as they were written -/
theorem decP_enc (bs : List UInt8) : ∀ (ps : List Pay) (s : Cu) (acc : List Pay) (rest : List UInt8), s.bad = false → s.p ≤ bs.length → bs.drop s.p = (ps.flatMap plL).flatten ++ rest → (∀ p ∈ ps, p.Wf ∧ badP p = false ∧ ∀ g ∈ p.gs, fineB g = true) →
    ∃ p', decP bs ps.length s acc = (true, acc ++ ps, ⟨p', false⟩) ∧ p' ≤ bs.length ∧ bs.drop p' = rest
  | [], s, acc, rest, hb, hp, h, _ => ⟨s.p, by obtain ⟨p, b⟩ := s; simp only at hb; subst hb; simp [decP], hp, by simpa using h⟩
  | p :: ps, s, acc, rest, hb, hp, h, hw => by
    obtain ⟨hwf, hbp, hgf⟩ := hw p (List.mem_cons_self ..)
    unfold badP at hbp
    simp only [decide_eq_false_iff_not] at hbp
    obtain ⟨cn, hcn⟩ : ∃ cn : Nat, p.c = (cn : Int) := ⟨p.c.toNat, by omega⟩
    have eb : ∀ x : Nat, x < 256 → [u8 (x : Int)] = leB 1 x := fun x hx => by
      show [u8 (x : Int)] = [UInt8.ofNat (x / 256 ^ 0)]
      unfold u8
      rw [Nat.pow_zero, Nat.div_one]
      congr 2
      omega
    have e : ((p :: ps).flatMap plL).flatten ++ rest = p.d ++ (leB 4 p.z ++ (leB 4 p.b ++ (leB 1 cn ++ (leB 1 p.gs.length ++ (leB 2 0 ++ ((p.gs.flatMap grL).flatten ++ ((ps.flatMap plL).flatten ++ rest))))))) := by
      rw [← eb cn (by omega), ← eb p.gs.length (by omega), show leB 2 0 = [0, 0] by decide]
      simp [plL, payL, hcn]
    rw [e] at h
    have hd := hwf.d
    obtain ⟨ok0, _, x0, d0, q0⟩ := cu_read hb h hp
    rw [hd] at ok0 x0 d0 q0
    obtain ⟨_, n1, x1, d1, q1⟩ := cu_read (s := ⟨s.p + 32, false⟩) rfl d0 q0
    rw [leB_len] at n1 x1 d1 q1
    obtain ⟨_, n2, x2, d2, q2⟩ := cu_read (s := ⟨s.p + 32 + 4, false⟩) rfl d1 q1
    rw [leB_len] at n2 x2 d2 q2
    obtain ⟨_, n3, x3, d3, q3⟩ := cu_read (s := ⟨s.p + 32 + 4 + 4, false⟩) rfl d2 q2
    rw [leB_len] at n3 x3 d3 q3
    obtain ⟨_, n4, x4, d4, q4⟩ := cu_read (s := ⟨s.p + 32 + 4 + 4 + 1, false⟩) rfl d3 q3
    rw [leB_len] at n4 x4 d4 q4
    obtain ⟨_, n5, x5, d5, q5⟩ := cu_read (s := ⟨s.p + 32 + 4 + 4 + 1 + 1, false⟩) rfl d4 q4
    rw [leB_len] at n5 x5 d5 q5
    obtain ⟨p1, g1, g2, g3⟩ := decG_enc bs p.gs ⟨s.p + 32 + 4 + 4 + 1 + 1 + 2, false⟩ [] _ rfl q5 d5 fun g hg => ⟨hwf.gs g hg, hgf g hg⟩
    obtain ⟨p2, r1, r2, r3⟩ := decP_enc bs ps ⟨p1, false⟩ (acc ++ [p]) rest rfl g2 g3 fun x hx => hw x (List.mem_cons_of_mem _ hx)
    have hz := hwf.z
    have hbb := hwf.b
    rw [leV_leB] at n1 n2 n3 n4 n5
    rw [Nat.mod_eq_of_lt (by omega)] at n1 n2 n3 n4 n5
    refine ⟨p2, ?_, r2, r3⟩
    have hdig : digB bs s = p.d := by
      unfold digB
      rw [show okT bs.length s.p s.bad 32 = true from ok0, if_pos rfl, h, List.take_append_of_le_length (by omega), List.take_of_length_le (by omega)]
    rw [List.length_cons, decP]
    dsimp only
    rw [x0, x1, x2, x3, x4, x5, n1, n2, n3, n4, n5, if_pos ⟨rfl, by omega⟩, g1, hdig, List.nil_append]
    dsimp only
    rw [if_pos rfl]
    have ep : (⟨p.d, p.z, p.b, p.gs, ((cn : Nat) : Int)⟩ : Pay) = p := by rw [← hcn]
    rw [ep, r1]
    simp
theorem decG_le (bs : List UInt8) : ∀ (k : Nat) (s : Cu) (acc : List Gr), s.p ≤ bs.length → (decG bs k s acc).2.2.p ≤ bs.length
  | 0, s, acc, h => h
  | k + 1, s, acc, h => by
    rw [decG]
    split
    · exact decG_le bs k _ _ (Cu.nxt_le (Cu.nxt_le (Cu.nxt_le h)))
    · exact Cu.nxt_le (Cu.nxt_le (Cu.nxt_le h))
theorem one_byte (x : Nat) (hx : x < 256) : [u8 (x : Int)] = leB 1 x := by
  show [u8 (x : Int)] = [UInt8.ofNat (x / 256 ^ 0)]
  unfold u8
  rw [Nat.pow_zero, Nat.div_one]
  congr 2
  omega
theorem decP_back (bs : List UInt8) : ∀ (n : Nat) (s : Cu) (acc : List Pay), (decP bs n s acc).1 = true → (decP bs n s acc).2.2.bad = false → s.p ≤ bs.length →
    ∃ new, (decP bs n s acc).2.1 = acc ++ new ∧ new.length = n ∧ s.bad = false ∧ (decP bs n s acc).2.2.p ≤ bs.length ∧ bs.take (decP bs n s acc).2.2.p = bs.take s.p ++ (new.flatMap plL).flatten
  | 0, s, acc, _, h2, hp => ⟨[], by simp [decP], rfl, h2, hp, by simp [decP]⟩
  | n + 1, s, acc, h1, h2, hp => by
    rw [decP] at h1 h2 ⊢
    dsimp only at h1 h2 ⊢
    by_cases hr : ((((((s.nxt bs 32).nxt bs 4).nxt bs 4).nxt bs 1).nxt bs 1).num bs 2 = 0 ∧ ((((s.nxt bs 32).nxt bs 4).nxt bs 4).nxt bs 1).num bs 1 ≤ 4)
    · rw [if_pos hr] at h1 h2 ⊢
      have hp0 := Cu.nxt_le (k := 32) hp
      have hp1 := Cu.nxt_le (k := 4) hp0
      have hp2 := Cu.nxt_le (k := 4) hp1
      have hp3 := Cu.nxt_le (k := 1) hp2
      have hp4 := Cu.nxt_le (k := 1) hp3
      have hp5 := Cu.nxt_le (k := 2) hp4
      generalize hg : decG bs (((((s.nxt bs 32).nxt bs 4).nxt bs 4).nxt bs 1).num bs 1) ((((((s.nxt bs 32).nxt bs 4).nxt bs 4).nxt bs 1).nxt bs 1).nxt bs 2) [] = r at h1 h2 ⊢
      by_cases hr1 : r.1 = true
      · rw [if_pos hr1] at h1 h2 ⊢
        have hgl : r.2.2.p ≤ bs.length := by rw [← hg]; exact decG_le bs _ _ _ hp5
        obtain ⟨new, e1, e2, e3, e4, e5⟩ := decP_back bs n _ _ h1 h2 hgl
        rw [← hg] at hr1 e3 e5
        obtain ⟨gs, g1, g2, g3, g4, g5⟩ := decG_back bs _ _ _ hr1 e3 hp5
        rw [hg] at g1 e5
        obtain ⟨b5, q5, l5, t5, _, _⟩ := cu_back g3 hp4
        obtain ⟨b4, q4, l4, t4, m4, _⟩ := cu_back b5 hp3
        obtain ⟨b3, q3, l3, t3, m3, _⟩ := cu_back b4 hp2
        obtain ⟨b2, q2, l2, t2, _, _⟩ := cu_back b3 hp1
        obtain ⟨b1, q1, l1, t1, _, _⟩ := cu_back b2 hp0
        obtain ⟨b0, q0, l0, _, _, _⟩ := cu_back b1 hp
        have ok0 : okT bs.length s.p s.bad 32 = true := by
          have : (!okT bs.length s.p s.bad ((32 : Nat) : Int)) = false := b1
          simpa using this
        have hdig : bs.take (s.p + 32) = bs.take s.p ++ digB bs s := by
          unfold digB
          rw [if_pos ok0, List.take_add]
        rw [List.nil_append] at g1
        refine ⟨_ :: new, by rw [e1, List.append_assoc]; rfl, by rw [List.length_cons, e2], b0, e4, ?_⟩
        rw [e5, ← hg, g5, q5, t5, q4, t4, q3, t3, q2, t2, q1, t1, q0, hdig, hg, g1, ← one_byte _ (show _ < 256 from m4), ← one_byte _ (show _ < 256 from m3), hr.1, show leB 2 0 = [0, 0] by decide]
        simp [plL, payL, g2]
      · rw [if_neg hr1] at h1; cases h1
    · rw [if_neg hr] at h1
      cases h1
theorem encM_eq (m : Man) : encM m = mark8 ++ (leB 4 m.c ++ ([u8 m.k] ++ ([u8 (m.ps.length : Int)] ++ (leB 2 0 ++ (m.ps.flatMap plL).flatten)))) := by
  unfold encM outs headL
  rw [List.take_of_length_le (Nat.le_refl _), show leB 2 0 = [0, 0] by decide]
  simp
/-- what is encoded is decoded -/
theorem dec_enc (m : Man) (hw : m.Wf) (hv : rightM m = 0) : decM (encM m) = (m, 0) := by
  obtain ⟨⟨h0, h255, h1, h4⟩, hpf⟩ := right_fine hv
  obtain ⟨kn, hkn⟩ : ∃ kn : Nat, m.k = (kn : Int) := ⟨m.k.toNat, by omega⟩
  have hE := encM_eq m
  rw [hkn, one_byte kn (by omega), one_byte m.ps.length (by omega)] at hE
  have hc := hw.c
  generalize encM m = bs at *
  have hd0 : bs.drop c0.p = mark8 ++ (leB 4 m.c ++ (leB 1 kn ++ (leB 1 m.ps.length ++ (leB 2 0 ++ (m.ps.flatMap plL).flatten)))) := by rw [hE]; rfl
  obtain ⟨ok0, _, x0, d0, q0⟩ := cu_read rfl hd0 (Nat.zero_le _)
  rw [show mark8.length = 8 from rfl] at ok0 x0 d0 q0
  obtain ⟨_, n1, x1, d1, q1⟩ := cu_read (s := ⟨c0.p + 8, false⟩) rfl d0 q0
  rw [leB_len] at n1 x1 d1 q1
  obtain ⟨_, n2, x2, d2, q2⟩ := cu_read (s := ⟨c0.p + 8 + 4, false⟩) rfl d1 q1
  rw [leB_len] at n2 x2 d2 q2
  obtain ⟨_, n3, x3, d3, q3⟩ := cu_read (s := ⟨c0.p + 8 + 4 + 1, false⟩) rfl d2 q2
  rw [leB_len] at n3 x3 d3 q3
  obtain ⟨_, n4, x4, d4, q4⟩ := cu_read (s := ⟨c0.p + 8 + 4 + 1 + 1, false⟩) rfl d3 q3
  rw [leB_len] at n4 x4 d4 q4
  rw [leV_leB] at n1 n2 n3 n4
  rw [Nat.mod_eq_of_lt (by omega)] at n1 n2 n3 n4
  obtain ⟨p', r1, r2, r3⟩ := decP_enc bs m.ps ⟨c0.p + 8 + 4 + 1 + 1 + 2, false⟩ [] [] rfl q4 (by rw [List.append_nil]; exact d4) fun p hp => ⟨hw.ps p hp, hpf p hp⟩
  have hp' : p' = bs.length := by
    have := congrArg List.length r3
    rw [List.length_drop] at this
    simp at this
    omega
  have hmk : tkB bs 0 false 8 = mark8 := by
    unfold tkB
    rw [show okT bs.length 0 false 8 = true from ok0, if_pos rfl, show bs.drop 0 = bs.drop c0.p from rfl, hd0]
    rfl
  have eC : hdC bs = m.c := by unfold hdC; rw [x0]; exact n1
  have eK : hdK bs = kn := by unfold hdK; rw [x0, x1]; exact n2
  have eN : hdN bs = m.ps.length := by unfold hdN; rw [x0, x1, x2]; exact n3
  have eZ : hdZ bs = 0 := by unfold hdZ; rw [x0, x1, x2, x3]; exact n4
  have e5 : c5 bs = ⟨c0.p + 8 + 4 + 1 + 1 + 2, false⟩ := by unfold c5; rw [x0, x1, x2, x3, x4]
  have eO : hdOK bs = true := decide_eq_true ⟨hmk, eZ, by rw [eN]; exact h4⟩
  unfold decM
  rw [if_pos eO, eN, e5, r1, List.nil_append, eC, eK, ← hkn, if_pos (by unfold decOK; simp [hp']), if_pos hv]
/-- what was decoded is encoded -/
theorem enc_dec (bs : List UInt8) (h : (decM bs).2 = 0) : encM (decM bs).1 = bs ∧ rightM (decM bs).1 = 0 := by
  unfold decM at h ⊢
  by_cases h1 : hdOK bs = true
  · rw [if_pos h1] at h ⊢
    by_cases h2 : decOK bs (decP bs (hdN bs) (c5 bs) []) = true
    · rw [if_pos h2] at h ⊢
      by_cases h3 : rightM ⟨hdC bs, (hdK bs : Nat), (decP bs (hdN bs) (c5 bs) []).2.1⟩ = 0
      · rw [if_pos h3] at h ⊢
        refine ⟨?_, h3⟩
        have h1' := of_decide_eq_true h1
        obtain ⟨hmk, hz, hn⟩ := h1'
        unfold decOK at h2
        simp only [Bool.and_eq_true, Bool.not_eq_true', decide_eq_true_eq] at h2
        obtain ⟨⟨r1, r2⟩, r3⟩ := h2
        have hp0 : (c0.nxt bs 8).p ≤ bs.length := Cu.nxt_le (Nat.zero_le _)
        have hp1 := Cu.nxt_le (k := 4) hp0
        have hp2 := Cu.nxt_le (k := 1) hp1
        have hp3 := Cu.nxt_le (k := 1) hp2
        have hp4 : (c5 bs).p ≤ bs.length := Cu.nxt_le (k := 2) hp3
        obtain ⟨new, e1, e2, e3, _, e5⟩ := decP_back bs _ _ _ r1 r2 hp4
        obtain ⟨b4, q4, l4, t4, _, _⟩ := cu_back (show ((((c0.nxt bs 8).nxt bs 4).nxt bs 1).nxt bs 1 |>.nxt bs 2).bad = false from e3) hp3
        obtain ⟨b3, q3, l3, t3, m3, _⟩ := cu_back b4 hp2
        obtain ⟨b2, q2, l2, t2, m2, _⟩ := cu_back b3 hp1
        obtain ⟨b1, q1, l1, t1, _, _⟩ := cu_back b2 hp0
        obtain ⟨b0, q0, l0, _, _, _⟩ := cu_back b1 (Nat.zero_le _)
        have ok0 : okT bs.length 0 false 8 = true := by
          have : (!okT bs.length 0 false 8) = false := b1
          simpa using this
        have hm8 : bs.take (c0.p + 8) = mark8 := by
          rw [← hmk]
          unfold tkB
          rw [if_pos ok0]
          rfl
        have e6 : bs.take (c5 bs).p = mark8 ++ leB 4 (hdC bs) ++ leB 1 (hdK bs) ++ leB 1 (hdN bs) ++ leB 2 0 := by
          rw [show (c5 bs).p = _ from q4, t4, q3, t3, q2, t2, q1, t1, q0, hm8]
          rw [show ((((c0.nxt bs 8).nxt bs 4).nxt bs 1).nxt bs 1).num bs 2 = 0 from hz]
          rfl
        rw [List.nil_append] at e1
        rw [r3, List.take_of_length_le (Nat.le_refl _), e6] at e5
        rw [encM_eq]
        dsimp only
        rw [e1, e2, one_byte _ (show hdK bs < 256 from m2), one_byte _ (show hdN bs < 256 from m3)]
        refine Eq.trans ?_ e5.symm
        simp
      · rw [if_neg h3] at h
        exact absurd h h3
    · rw [if_neg h2] at h; cases h
  · rw [if_neg h1] at h; cases h
end Go.Proofs.Ytegaiphhoinilaa
namespace Go.Proofs.Ytegaiphhoinilaa
open Go Go.RowKit

section
variable {w0 w w' : World} {bs : List UInt8} {A : Option Addr} {n c gc : Nat} {s : Cu}
end
/-- the cells of payloads, each with the slice of its grants -/
def pcells (qs : List (Pay × Sl)) : List Value := qs.flatMap fun q => (List.range 36).map (payV q.1 q.2)
theorem pcells_len : ∀ qs, (pcells qs).length = qs.length * 36
  | [] => rfl
  | q :: qs => by
    have := pcells_len qs
    simp only [pcells, List.flatMap_cons, List.length_append, List.length_map, List.length_range, List.length_cons] at this ⊢
    omega
theorem pcells_app (a b : List (Pay × Sl)) : pcells (a ++ b) = pcells a ++ pcells b := by simp [pcells]
def q0 : Pay × Sl := (pay0, ⟨none, 0, 0⟩)
theorem pcells_get : ∀ (qs : List (Pay × Sl)) (j i : Nat), j < qs.length → i < 36 → (pcells qs)[j * 36 + i]? = some (payV (qs.getD j q0).1 (qs.getD j q0).2 i)
  | [], j, i, h, _ => by simp at h
  | q :: qs, 0, i, _, hi => by
    show ((List.range 36).map (payV q.1 q.2) ++ pcells qs)[0 * 36 + i]? = _
    rw [Nat.zero_mul, Nat.zero_add, List.getElem?_append_left (by simpa using hi)]
    simp [hi]
  | q :: qs, j + 1, i, h, hi => by
    have h2 := pcells_get qs j i (by simpa using h) hi
    show ((List.range 36).map (payV q.1 q.2) ++ pcells qs)[(j + 1) * 36 + i]? = _
    rw [show (j + 1) * 36 + i = 36 + (j * 36 + i) by omega, List.getElem?_append_right (by simp)]
    simpa using h2
theorem slG_blk {w : World} {s : Sl} {gs : List Gr} (h : SlG w s gs) {b o : Nat} (e : s.A = some ⟨b, o, none⟩) (h0 : 0 < s.n) : b < w.heap.size := by
  obtain ⟨b', o', e', hl, _⟩ := h.2.1.2 h0
  rw [e] at e'
  injection e' with e'
  injection e' with e1 _ _
  rw [e1]; exact hl
end Go.Proofs.Ytegaiphhoinilaa
namespace Go.Proofs.Ytegaiphhoinilaa
open Go Go.RowKit

def g1 : Gr := ⟨2147487744, 4096, 5⟩
def g2 : Gr := ⟨2147491840, 4096, 3⟩
def pay1 : Pay := ⟨List.replicate 32 0, 0, 2147487744, [g1, g2], 255⟩
def man1 : Man := ⟨3, 0, [pay1]⟩
theorem man1_right : rightM man1 = 0 := by decide +kernel
theorem one_pay (k : Nat) : (#[.int .u8 0, .int .u8 0, .int .u8 0, .int .u8 0, .int .u8 0, .int .u8 0, .int .u8 0, .int .u8 0, .int .u8 0, .int .u8 0, .int .u8 0, .int .u8 0, .int .u8 0, .int .u8 0, .int .u8 0, .int .u8 0, .int .u8 0, .int .u8 0, .int .u8 0, .int .u8 0, .int .u8 0, .int .u8 0, .int .u8 0, .int .u8 0, .int .u8 0, .int .u8 0, .int .u8 0, .int .u8 0, .int .u8 0, .int .u8 0, .int .u8 0, .int .u8 0, .int .u32 0, .int .u32 2147487744, .slice (some ⟨k, 0, none⟩) 2 2, .int .i64 255] : Array Value) = tab 36 (payV pay1 ⟨some ⟨k, 0, none⟩, 2, 2⟩) := by rfl
end Go.Proofs.Ytegaiphhoinilaa
namespace Go.Proofs.Ytegaiphhoinilaa
open Go Go.RowKit

/-- are the first n places alike? -/
def sameTo (f g : Nat → Int) (n : Nat) : Bool := (List.range' 0 n).all fun j => f j == g j
theorem sameTo_iff (f g : Nat → Int) (n : Nat) : sameTo f g n = true ↔ ∀ j, j < n → f j = g j := by
  simp [sameTo, List.all_eq_true, List.mem_range'_1]

theorem run_equalIn_tab {P : Program} (w : World) (d : Nat) (t e : TypeId) (n : Nat) (ik k : IntKind) (i : TypeInfo) (f g : Nat → Int) (hu : P.underlying t = some (.array n e)) (he : P.underlying e = some (.int ik))
    (hi : P.info? e = some i) (hs : i.size = 1) (heq : ∀ (a b : Int) (W : World), (Op.equalIn d e (.int k a) (.int k b)).run P W = .ok (a == b) W) :
    (Op.equalIn (d + 1) t (.agg (tab n fun j => .int k (f j))) (.agg (tab n fun j => .int k (g j)))).run P w = .ok (sameTo f g n) w := by
  have hsz : ∀ W, (sizeOf e).run P W = .ok 1 W := fun W => by simp [sizeOf, typeInfo, hi, hs]
  have hpart : ∀ (h : Nat → Int) (j : Nat) (W : World), j < n → (part e (tab n fun j => .int k (h j)) j).run P W = .ok (.int k (h j)) W := fun h j W hj => by
    simp [part, isAgg, run_underlying he, tab_get n _ j hj, go_sem]
  simp only [Op.equalIn, Sem.run_bind, run_underlying hu, Result.andThen_ok, hsz]
  rw [Std.Legacy.Range.forIn_eq_forIn_range']
  simp only [Std.Legacy.Range.size, Nat.sub_zero, Nat.add_sub_cancel, Nat.div_one, Nat.mul_one]
  unfold sameTo
  have hL : ∀ j ∈ List.range' 0 n, j < n := fun j hj => by simpa [List.mem_range'_1] using hj
  generalize List.range' 0 n = L at *
  induction L generalizing w with
  | nil => simp
  | cons s0 L ih =>
    have h0 : s0 < n := hL s0 (by simp)
    simp only [List.forIn_cons, Sem.run_bind, hpart f s0 _ h0, hpart g s0 _ h0, Result.andThen_ok, heq, List.all_cons]
    by_cases h : f s0 = g s0
    · have hb : (f s0 == g s0) = true := by simpa using h
      simp only [hb, Bool.not_true, Bool.false_eq_true, if_false, Sem.run_pure, Result.andThen_ok, Bool.true_and]
      exact ih w (fun j hj => hL j (by simp [hj]))
    · have hb : (f s0 == g s0) = false := by simpa using h
      simp only [hb, Bool.not_false, if_true, Sem.run_pure, Result.andThen_ok, Bool.false_and]

/-- 'x == y' of two arrays of integers that are alike -/
theorem run_eql_tab {P : Program} (w : World) (t e : TypeId) (n : Nat) (ik k : IntKind) (i : TypeInfo) (f g : Nat → Int) (hu : P.underlying t = some (.array n e)) (he : P.underlying e = some (.int ik))
    (hi : P.info? e = some i) (hs : i.size = 1) : (binOp .eql t (.agg (tab n fun j => .int k (f j))) (.agg (tab n fun j => .int k (g j)))).run P w = .ok (.bool (sameTo f g n)) w := by
  rw [run_eql_struct]
  have h := run_equalIn_tab (P := P) w 9999 t e n ik k i f g hu he hi hs (fun a b W => run_equalIn_int (P := P) (w := W) 9998 e k ik a b he)
  rw [h]
  rfl
theorem sameTo_refl (f : Nat → Int) (n : Nat) : sameTo f f n = true := (sameTo_iff f f n).2 fun _ _ => rfl
end Go.Proofs.Ytegaiphhoinilaa
namespace Go.Proofs.Ytegaiphhoinilaa
open Go Go.RowKit

section
variable {P : Program} {Q : Exit → Act → World → Prop}
/-- what an operation owes: its run, where its guard wants it; else the slot is empty -/
def SimStepV (P : Program) (Q : Exit → Act → World → Prop) (F : Nat → (Nat → Value) → World → Prop) (G : Nat → World → Prop) (T : Nat → (Nat → Value) → World → World → Prop) (l : List Oper) (a : Act) (i : Nat) (o : Oper) : Prop :=
  ∀ (v : Nat → Value) w' (A : Act), FrameOf l a v A → G i w' → (∀ e ∈ o.after, Region.binds .any e = true → F e.on v w') → (∀ j oj, l[j]? = some oj → (∃ e ∈ oj.after, Region.binds .any e = true ∧ e.on = i) → v j = slotsOf l a j) →
    (match o.guard with
      | none => True
      | some (k, b) => isB (v k) = some b) →
    ∀ K : Act → World → Prop, (∀ x w'', T i (setAt v i x) w' w'' → F i (setAt v i x) w'' → K (A.put o.dst x) w'') → o.wp P A w' K Q
def SimSkipV (F : Nat → (Nat → Value) → World → Prop) (T : Nat → (Nat → Value) → World → World → Prop) (i : Nat) (o : Oper) : Prop :=
  match o.guard with
  | none => True
  | some (k, b) => ∀ (v : Nat → Value) w', F k v w' → isB (v k) ≠ some b → F i (setAt v i undef) w' ∧ T i (setAt v i undef) w' w'
def SimStepsV (P : Program) (Q : Exit → Act → World → Prop) (F : Nat → (Nat → Value) → World → Prop) (G : Nat → World → Prop) (T : Nat → (Nat → Value) → World → World → Prop) (l : List Oper) (a : Act) : List Oper → Nat → Prop
  | [], _ => True
  | o :: r, k => (SimStepV P Q F G T l a k o ∧ SimSkipV F T k o) ∧ SimStepsV P Q F G T l a r (k + 1)
theorem simSteps_atV {F : Nat → (Nat → Value) → World → Prop} {G : Nat → World → Prop} {T : Nat → (Nat → Value) → World → World → Prop} {l : List Oper} {a : Act} : ∀ (r : List Oper) (k : Nat), SimStepsV P Q F G T l a r k → ∀ i o, r[i]? = some o → SimStepV P Q F G T l a (k + i) o ∧ SimSkipV F T (k + i) o
  | [], _, _, i, o, h => by simp at h
  | o' :: r, k, hs, i, o, h => by
    cases i with
    | zero =>
      obtain rfl : o' = o := by simpa using h
      exact hs.1
    | succ i =>
      have := simSteps_atV r (k + 1) hs.2 i o (by simpa using h)
      rwa [show k + 1 + i = k + (i + 1) by omega] at this
theorem any_of_simV {l : List Oper} {a : Act} (F : Nat → (Nat → Value) → World → Prop) (G : Nat → World → Prop) (T : Nat → (Nat → Value) → World → World → Prop) (n : Nat) (hn : a.tmps.size = n) (hB : simB l.toArray n = true)
    (hsteps : SimStepsV P Q F G T l a l 0)
    (hF : ∀ i j, i < l.length → j < l.length → i ≠ j → Region.waitsFor .any l.toArray i j = false → ∀ v x w' w'', F i v w' → T j (setAt v j x) w' w'' → F i (setAt v j x) w'')
    (hG : ∀ i j, i < l.length → j < l.length → i ≠ j → Region.waitsFor .any l.toArray j i = false → ∀ v w' w'', G i w' → T j v w' w'' → G i w'')
    (hend : ∀ (v : Nat → Value) w', (∀ i, i < l.length → F i v w') → Q .normal (putAll l v 0 a) w') :
    ∀ (f : Nat) (listed : Array Bool) (v : Nat → Value) (w' : World), listed.size = l.length → left listed l.length = f →
      (∀ i, i < l.length → listed.getD i false = true → F i v w') → (∀ i, i < l.length → listed.getD i true = false → G i w' ∧ v i = slotsOf l a i) →
      (∀ i o, l[i]? = some o → listed.getD i false = true → ∀ e ∈ o.after, Region.binds .any e = true → listed.getD e.on false = true) →
      wpAny P .any l.toArray Q f listed (putAll l v 0 a) w' := by
  simp only [simB, Bool.and_eq_true] at hB
  obtain ⟨⟨hd, hdn⟩, hall0⟩ := hB
  have hd' : distinctB l = true := by simpa using hd
  have hin : ∀ (i : Nat) o d, l[i]? = some o → o.dst = some d → d < a.tmps.size := fun i o d ho hdst => by
    have h1 := List.all_eq_true.1 hdn o (List.mem_iff_getElem?.2 ⟨i, ho⟩)
    rw [hdst] at h1
    rw [hn]
    simpa using h1
  have hone : ∀ (i : Nat) o, l[i]? = some o → (∀ e ∈ o.after, Region.binds .any e = true → e.on < i) ∧ (∀ k b, o.guard = some (k, b) → (∃ e ∈ o.after, Region.binds .any e = true ∧ e.on = k) ∧ ∃ ok d, l[k]? = some ok ∧ ok.dst = some d) := fun i o ho => by
    have hi : i < l.length := (List.getElem?_eq_some_iff.1 ho).1
    have h1 := List.all_eq_true.1 hall0 i (List.mem_range.2 (by simpa using hi))
    rw [List.getElem?_toArray, ho] at h1
    simp only [Bool.and_eq_true] at h1
    refine ⟨fun e he hbd => ?_, fun k b hg => ?_⟩
    · have h2 := List.all_eq_true.1 h1.1 e (by simpa using he)
      rw [hbd] at h2
      simpa using h2
    · have h3 := h1.2
      rw [hg] at h3
      simp only [Bool.and_eq_true] at h3
      obtain ⟨e, he, h4⟩ := List.any_eq_true.1 h3.1
      simp only [Bool.and_eq_true, beq_iff_eq] at h4
      refine ⟨⟨e, by simpa using he, h4.1, h4.2⟩, ?_⟩
      have h5 := h3.2
      rw [List.getElem?_toArray] at h5
      cases hk : l[k]? with
      | none => rw [hk] at h5; cases h5
      | some ok =>
        rw [hk] at h5
        obtain ⟨d, hdd⟩ := Option.isSome_iff_exists.1 h5
        exact ⟨ok, d, rfl, hdd⟩
  have hback' : ∀ (i : Nat) o, l.toArray[i]? = some o → ∀ e ∈ o.after, Region.binds .any e = true → e.on < i := fun i o ho => (hone i o (by simpa using ho)).1
  intro f
  induction f with
  | zero =>
    intro listed v w' hsz hl hF' hG' hcl
    have hall := left_zero hl
    refine ⟨?_, hend v w' fun i hi => hF' i hi (getD_of_true (hall i hi) (by omega))⟩
    cases hr : Region.ready .any l.toArray listed with
    | nil => rfl
    | cons i r =>
      have hi : i ∈ Region.ready .any l.toArray listed := by rw [hr]; exact List.mem_cons_self ..
      obtain ⟨hun, o, ho, _⟩ := mem_ready.1 hi
      have hil : i < l.length := by simpa using (Array.getElem?_eq_some_iff.1 ho).1
      rw [hall i hil] at hun
      cases hun
  | succ f ih =>
    intro listed v w' hsz hl hF' hG' hcl
    have hex : ∃ i, i < l.length ∧ listed.getD i true = false := Classical.byContradiction fun hc' => by
      have : left listed l.length = 0 := by
        unfold left
        rw [List.countP_eq_zero]
        intro i hi
        cases hq : listed.getD i true with
        | true => simp
        | false => exact absurd ⟨i, by simpa using hi, hq⟩ hc'
      omega
    obtain ⟨i0, hi0, hun0⟩ := hex
    refine ⟨fun hempty => absurd hempty (ready_ne2 hback' (by simpa using hsz) (by simpa using hi0) hun0), fun i hr => ?_⟩
    obtain ⟨hun, o, ho, hall⟩ := mem_ready.1 hr
    have ho' : l[i]? = some o := by simpa using ho
    have hil : i < l.length := (List.getElem?_eq_some_iff.1 ho').1
    have hset := fun x => putAll_set l v 0 a i o x hd' ho'
    obtain ⟨hstep, hskip⟩ := simSteps_atV l 0 hsteps i o ho'
    rw [Nat.zero_add] at hstep hskip
    have hafter : ∀ e ∈ o.after, Region.binds .any e = true → F e.on v w' := fun e he hbd => hF' e.on (Nat.lt_trans (hback' i o ho e he hbd) hil) (hall e he hbd)
    have hlate : ∀ j oj, l[j]? = some oj → (∃ e ∈ oj.after, Region.binds .any e = true ∧ e.on = i) → v j = slotsOf l a j := fun j oj hj ⟨e, he, hbd, hon⟩ => by
      have hjl : j < l.length := (List.getElem?_eq_some_iff.1 hj).1
      refine (hG' j hjl ?_).2
      cases hq : listed.getD j true with
      | false => rfl
      | true =>
        have h1 := hcl j oj hj (getD_of_true hq (by omega)) e he hbd
        rw [hon, getD_both hun] at h1
        cases h1
    have hnext : ∀ x w'', T i (setAt v i x) w' w'' → F i (setAt v i x) w'' → wpAny P .any l.toArray Q f (listed.setIfInBounds i true) ((putAll l v 0 a).put o.dst x) w'' := fun x w'' hT hFx => by
      rw [hset x, Nat.zero_add]
      have hw1 : ∀ j, j < l.length → j ≠ i → listed.getD j false = true → Region.waitsFor .any l.toArray j i = false := fun j hj hji hlj => by
        cases hq : Region.waitsFor .any l.toArray j i with
        | false => rfl
        | true =>
          obtain ⟨oj, hoj, e, he, hbd, hon⟩ := Region.waitsFor_spec hq
          have h1 := hcl j oj (by simpa using hoj) hlj e he hbd
          rw [hon, getD_both hun] at h1
          cases h1
      have hw2 : ∀ j, j < l.length → listed.getD j true = false → Region.waitsFor .any l.toArray i j = false := fun j hj hlj => by
        cases hq : Region.waitsFor .any l.toArray i j with
        | false => rfl
        | true =>
          obtain ⟨oi, hoi, e, he, hbd, hon⟩ := Region.waitsFor_spec hq
          obtain rfl : oi = o := Option.some.inj (hoi.symm.trans ho)
          have h1 := hall e he hbd
          rw [hon, getD_both hlj] at h1
          cases h1
      refine ih _ _ w'' (by simpa using hsz) (by have := left_set hil hun; omega) (fun j hj hlj => ?_) (fun j hj hlj => ?_) fun j oj hoj hlj e he hbd => ?_
      · by_cases hji : j = i
        · subst hji; exact hFx
        · rw [getD_set_ne false (Ne.symm hji)] at hlj
          exact hF j i hj hil hji (hw1 j hj hji hlj) v x w' w'' (hF' j hj hlj) hT
      · by_cases hji : j = i
        · subst hji
          have : (listed.setIfInBounds j true).getD j true = true := by
            have hlt : j < listed.size := by omega
            simp [hlt]
          rw [this] at hlj
          cases hlj
        · rw [getD_set_ne true (Ne.symm hji)] at hlj
          obtain ⟨h1, h2⟩ := hG' j hj hlj
          refine ⟨hG j i hj hil hji (hw2 j hj hlj) _ w' w'' h1 hT, ?_⟩
          unfold setAt
          rw [if_neg hji]
          exact h2
      · by_cases hei : e.on = i
        · have hlt : i < listed.size := by omega
          rw [hei]
          simp [hlt]
        · rw [getD_set_ne false (Ne.symm hei)]
          by_cases hji : j = i
          · subst hji
            obtain rfl : oj = o := Option.some.inj (hoj.symm.trans ho')
            exact hall e he hbd
          · rw [getD_set_ne false (Ne.symm hji)] at hlj
            exact hcl j oj hoj hlj e he hbd
    unfold wpOp
    simp only [ho]
    cases hgd : o.guard with
    | none =>
      simp only [Region.wanted, hgd, if_true]
      exact .inl (hstep v w' _ (frameOf_putAll hd' hin) (hG' i hil hun).1 hafter hlate (by rw [hgd]; trivial) _ hnext)
    | some kb =>
      obtain ⟨k, b⟩ := kb
      obtain ⟨⟨e, he, hbd, hon⟩, ok, d, hok, hkd⟩ := (hone i o ho').2 k b hgd
      have hFk := hafter e he hbd
      rw [hon] at hFk
      have hy : yielded l.toArray (putAll l v 0 a).tmps k = isB (v k) := by
        unfold yielded
        rw [List.getElem?_toArray, hok]
        show (match (ok.dst).bind ((putAll l v 0 a).tmps[·]?) with | some (.bool b) => some b | _ => none) = _
        rw [hkd]
        show (match (putAll l v 0 a).tmps[d]? with | some (.bool b) => some b | _ => none) = _
        rw [putAll_at l v 0 a k ok d hd' hok hkd (hin k ok d hok hkd), Nat.zero_add]
        cases v k <;> rfl
      simp only [Region.wanted, hgd, hy]
      by_cases hb : isB (v k) = some b
      · rw [if_pos (by rw [hb]; exact beq_self_eq_true _)]
        exact .inl (hstep v w' _ (frameOf_putAll hd' hin) (hG' i hil hun).1 hafter hlate (by rw [hgd]; exact hb) _ hnext)
      · rw [if_neg (by rw [beq_iff_eq]; exact hb)]
        unfold SimSkipV at hskip
        rw [hgd] at hskip
        obtain ⟨h1, h2⟩ := hskip v w' hFk hb
        exact hnext _ _ h2 h1
theorem region_simV {id : Nat} {l : List Oper} {a : Act} {w : World} (F : Nat → (Nat → Value) → World → Prop) (G : Nat → World → Prop) (T : Nat → (Nat → Value) → World → World → Prop) (n : Nat) (hm : P.follows .mixedOrders = true) (hn : a.tmps.size = n) (hB : simB l.toArray n = true)
    (h0 : ∀ w', Below w.heap.size w w' → w'.heap = w.heap → ∀ i, i < l.length → G i w')
    (hsteps : SimStepsV P Q F G T l a l 0)
    (hF : ∀ i j, i < l.length → j < l.length → i ≠ j → Region.waitsFor .any l.toArray i j = false → ∀ v x w' w'', F i v w' → T j (setAt v j x) w' w'' → F i (setAt v j x) w'')
    (hG : ∀ i j, i < l.length → j < l.length → i ≠ j → Region.waitsFor .any l.toArray j i = false → ∀ v w' w'', G i w' → T j v w' w'' → G i w'')
    (hend : ∀ (v : Nat → Value) w', (∀ i, i < l.length → F i v w') → Q .normal (putAll l v 0 a) w') : (Code.region id l.toArray true).wp P Q a w := by
  refine wp_region_any hm ?_
  have key := any_of_simV F G T n hn hB hsteps hF hG hend l.length (Array.replicate l.toArray.size false) (slotsOf l a) { w with drawn := w.drawn + 1 } (by simp)
    (by
      unfold left
      have : (List.range l.length).countP (fun i => !(Array.replicate l.toArray.size false).getD i true) = (List.range l.length).length := by
        rw [List.countP_eq_length]
        intro i hi
        have hin : i < l.length := by simpa using hi
        have h1 : (Array.replicate l.toArray.size false).getD i true = false := getD_in (by simpa using hin) (getD_replicate_false _ _)
        rw [h1]; rfl
      rw [this]; simp)
    (fun i hi hl => by rw [getD_replicate_false] at hl; cases hl)
    (fun i hi _ => ⟨h0 { w with drawn := w.drawn + 1 } ⟨rfl, rfl, rfl, Nat.le_refl _, fun _ _ => rfl⟩ rfl i hi, rfl⟩)
    (fun i o ho hl => by rw [getD_replicate_false] at hl; cases hl)
  rw [putAll_slots l a (slotsOf l a) 0 (fun j o d ho hd => by unfold slotsOf; rw [Nat.zero_add, ho]; simp only [hd])] at key
  simpa using key
end
end Go.Proofs.Ytegaiphhoinilaa
namespace Go.Proofs.Ytegaiphhoinilaa
open Go Go.RowKit

theorem rangeAt_after {w w' : World} {b o : Nat} {cs : List Value} (h : w.rangeAt b o cs) (k : Below w.heap.size w w') : w'.rangeAt b o cs := fun j v hv => by
  have h1 := h j v hv
  have hlt : b < w.heap.size := block_lt_of_cell h1
  exact (k.cell (p := ⟨b, o + j, none⟩) hlt).trans h1
theorem info5z : (Try.prog.info? 5).map (·.size) = some 1 := by kernel_rfl
/-- facts by a list -/
def FL (I : World → Prop) (fs : List ((Nat → Value) → World → Prop)) (i : Nat) (v : Nat → Value) (w : World) : Prop := (fs.getD i (fun _ _ => True)) v w ∧ I w
theorem setAt_self (v : Nat → Value) (i : Nat) (x : Value) : setAt v i x i = x := if_pos rfl
theorem setAt_far (v : Nat → Value) {i j : Nat} (x : Value) (h : j ≠ i) : setAt v i x j = v j := if_neg h
end Go.Proofs.Ytegaiphhoinilaa
namespace Go.Proofs.Ytegaiphhoinilaa
open Go Go.RowKit

/-- the string of the bytes -/
def strB (bs : List UInt8) : ByteArray := strOfNums (bs.map fun b => (b.toNat : Int))
theorem str_conv {w : World} {A : Option Addr} {n c : Nat} {bs : List UInt8} (h : SlA w A n c bs) : (convert 70 9 (.slice A n c)).run Try.prog w = .ok (.string (strB bs)) w := by
  obtain ⟨hl, _, h2⟩ := h
  rcases Nat.eq_zero_or_pos n with h0 | h0
  · subst h0
    obtain rfl : bs = [] := List.eq_nil_of_length_eq_zero hl
    rw [run_convert_bytes_string w 70 9 5 A 0 c Try.underlying70 Try.underlying5 Try.underlying9]
    cases A <;> simp [Conv.bytesToString, loadCells]
    all_goals rfl
  · obtain ⟨b, o, rfl, _, hc⟩ := h2 h0
    refine run_convert_bytes_arg w 70 5 Try.underlying70 Try.underlying5 b o n c _ (by simp [hl]) (fun i hi => ?_) 9 Try.underlying9
    rw [hc i hi]
    simp [by8, List.getD_eq_getElem?_getD, show i < bs.length by omega]
theorem results_cell_tmp {P : Program} {fn : Func} {p q : Tmp} {ty : TypeId} (h : fn.results = #[.cell p ty, .tmp q]) (tmps : Array Value) (w : World) (g : Nat) (t : TypeId) (cs : Array Value) (y : Value) (d : TypeDesc)
    (hp : tmps.getD p undef = .pointer (some ⟨g, 0, none⟩)) (hy : tmps.getD q undef = y) (hg : Has w g t cs)
    (hu : P.underlying ty = some d) (hd : (match d with | .struct _ | .array _ _ => true | _ => false) = true) (hi : (P.info? ty).map (·.size) = some cs.size) :
    (results fn tmps).run P w = .ok (.tuple #[.agg cs, y]) w := by
  have hp' : tmps[p]?.getD undef = .pointer (some ⟨g, 0, none⟩) := by simpa using hp
  have hy' : tmps[q]?.getD undef = y := by simpa using hy
  simp [results, h, hp', hy', asAddr, run_loadVar_row w g t ty cs (0, 0) d hg hu hd hi]
theorem num_lt (bs : List UInt8) (k : Nat) (s : Cu) : s.num bs k < 256 ^ k := by
  unfold Cu.num tkN
  split
  · exact leT_lt (bsN_lt bs) k s.p
  · exact Nat.pow_pos (by decide)
theorem strB_mark : strB mark8 = ⟨#[80, 79, 82, 84, 73, 67, 79, 49]⟩ := by decide +kernel
theorem strB_toList (l : List UInt8) : (strB l).toList = l := by
  rw [ByteArray.toList_eq]
  unfold strB
  rw [strOfNums_data, List.map_map]
  have : ((fun n : Int => UInt8.ofNat n.toNat) ∘ fun b : UInt8 => (b.toNat : Int)) = id := by
    funext b
    simp
  rw [this, List.map_id]
theorem strB_ne {l : List UInt8} (h : l ≠ mark8) : ((strB l).toList == [80, 79, 82, 84, 73, 67, 79, 49]) = false := by
  rw [strB_toList, beq_eq_false_iff_ne]
  exact h
theorem strB_eq {l : List UInt8} (h : l = mark8) : ((strB l).toList == [80, 79, 82, 84, 73, 67, 79, 49]) = true := by
  rw [strB_toList, beq_iff_eq]
  exact h
/-- the manifest is not: nothing, and the error 3 -/
theorem decM_bad {bs : List UInt8} (h : hdOK bs = false) : decM bs = (man0, 3) := by
  unfold decM
  rw [h]
  rfl
section
variable {w0 w w' : World} {bs : List UInt8} {A : Option Addr} {n c gc gr gm mc : Nat} {mk : Int} {sl : Sl} {qs : List (Pay × Sl)} {s s' : Cu}
end
/-- a payload's cells, one of them set -/
theorem payV_set32 (p : Pay) (s : Sl) (z : Nat) : (tab 36 (payV p s)).setIfInBounds 32 (.int .u32 (z : Int)) = tab 36 (payV { p with z := z } s) := by
  rw [tab_set]
  refine tab_ext _ _ _ fun j hj => ?_
  by_cases h : j = 32
  · subst h; rfl
  · rw [if_neg h]; unfold payV; simp only [if_neg h]
theorem payV_set33 (p : Pay) (s : Sl) (z : Nat) : (tab 36 (payV p s)).setIfInBounds 33 (.int .u32 (z : Int)) = tab 36 (payV { p with b := z } s) := by
  rw [tab_set]
  refine tab_ext _ _ _ fun j hj => ?_
  by_cases h : j = 33
  · subst h; rfl
  · rw [if_neg h]; unfold payV; simp only [if_neg h]
theorem payV_set34 (p : Pay) (s s' : Sl) : (tab 36 (payV p s)).setIfInBounds 34 s'.v = tab 36 (payV p s') := by
  rw [tab_set]
  refine tab_ext _ _ _ fun j hj => ?_
  by_cases h : j = 34
  · subst h; rfl
  · rw [if_neg h]; unfold payV; simp only [if_neg h]
theorem payV_set35 (p : Pay) (s : Sl) (z : Int) : (tab 36 (payV p s)).setIfInBounds 35 (.int .i64 z) = tab 36 (payV { p with c := z } s) := by
  rw [tab_set]
  refine tab_ext _ _ _ fun j hj => ?_
  by_cases h : j = 35
  · subst h; rfl
  · rw [if_neg h]
    unfold payV
    by_cases h1 : j < 32
    · simp only [if_pos h1]
    · by_cases h2 : j = 32
      · subst h2; rfl
      · by_cases h3 : j = 33
        · subst h3; rfl
        · have h4 : j = 34 := by omega
          subst h4; rfl
theorem payV_gs (p : Pay) (s : Sl) (gs : List Gr) : tab 36 (payV p s) = tab 36 (payV { p with gs := gs } s) := rfl
theorem man0_v (w : World) : ManV w (.agg (manC man0 ⟨none, 0, 0⟩)) man0 := ⟨_, rfl, ⟨rfl, fun _ => ⟨none, 0, 0⟩, ⟨⟨Nat.le_refl _, Nat.zero_le _⟩, fun h => absurd h (Nat.lt_irrefl _)⟩, fun j h => absurd h (Nat.not_lt_zero _)⟩, by decide, by decide, by decide⟩
/-- since u, of what was there only block g has changed; behind it a new block is written -/
theorem grown_far {u w w' : World} {g p : Nat} (h : u.grownBy w (some g)) (k : w.grownBy w' (some p)) (hp : u.heap.size ≤ p) : u.grownBy w' (some g) :=
  ⟨k.os.trans h.os, k.tape.trans h.tape, k.output.trans h.output, Nat.le_trans h.size k.size, fun i hi hne => (k.block i (Nat.lt_of_lt_of_le hi h.size) (by simp; omega)).trans (h.block i hi hne)⟩
theorem grown_after {u w w' : World} {g : Nat} (h : u.grownBy w (some g)) (k : Below w.heap.size w w') : u.grownBy w' (some g) := only_trans h (only_below k _)
theorem payC_slice (mc : Nat) (mk : Int) (s s' : Sl) : (manC ⟨mc, mk, []⟩ s).setIfInBounds 2 s'.v = manC ⟨mc, mk, []⟩ s' := rfl
theorem digB_len (bs : List UInt8) (s : Cu) : (digB bs s).length = 32 := by
  unfold digB
  split
  · rename_i h
    unfold okT at h
    simp only [Bool.and_eq_true, Bool.not_eq_true', decide_eq_true_eq] at h
    rw [List.length_take, List.length_drop]
    omega
  · simp
/-- payloads that read badly are no manifest -/
theorem decM_badP {bs : List UInt8} (hh : hdOK bs = true) (h : (decP bs (hdN bs) (c5 bs) []).1 = false) : decM bs = (man0, 3) := by
  unfold decM
  have : decOK bs (decP bs (hdN bs) (c5 bs) []) = false := by unfold decOK; rw [h]; rfl
  rw [hh, if_pos rfl, this]
  rfl
theorem own_n {w : World} {base size n n' c : Nat} {t : TypeId} {A : Option Addr} {xs : List Value} (h : w.ownsRow base t size (.slice A n' c) n xs) : n' = n := by
  rcases h.2 with ⟨hv, h0⟩ | ⟨g, cap, cur, hv, _⟩
  · have : n' = 0 := by injection hv
    omega
  · injection hv
theorem own_ne {w w' : World} {base size n g : Nat} {t : TypeId} {v : Value} {xs : List Value} (h : w.ownsRow base t size v n xs) (hne : ∀ l, v.ownBlock = some l → l ≠ g) (k : w.grownBy w' (some g)) : w'.ownsRow base t size v n xs := by
  refine ⟨h.1, ?_⟩
  rcases h.2 with h1 | ⟨g', cap, cur, h1, hb, hg, h3⟩
  · exact .inl h1
  · refine .inr ⟨g', cap, cur, h1, hb, (k.block g' (Array.getElem?_eq_some_iff.1 hg).1 (fun e => ?_)).trans hg, h3⟩
    injection e with e
    exact hne g' (by rw [h1]; rfl) e
theorem own_other {w w' : World} {base size n g : Nat} {t t' : TypeId} {v : Value} {xs : List Value} {cs : Array Value} (h : w.ownsRow base t size v n xs) (hG : Has w g t' cs) (ht : t' ≠ t) (k : w.grownBy w' (some g)) : w'.ownsRow base t size v n xs :=
  own_ne h (fun l hl e => own_has h hG ht l hl e.symm) k
theorem grown_own {u w w' : World} {g base size m : Nat} {t : TypeId} {v : Value} {xs : List Value} (h : u.grownBy w (some g)) (ho : w.ownsRow base t size v m xs) (hB : u.heap.size ≤ base) (k : w.grownBy w' v.ownBlock) : u.grownBy w' (some g) :=
  ⟨k.os.trans h.os, k.tape.trans h.tape, k.output.trans h.output, Nat.le_trans h.size k.size, fun i hi hne => (k.block i (Nat.lt_of_lt_of_le hi h.size) (fun e => by have := own_blk ho e.symm; omega)).trans (h.block i hi hne)⟩
theorem grV_set1 (a b : Nat) : (tab 3 (grV ⟨a, 0, 0⟩)).setIfInBounds 1 (.int .u32 (b : Int)) = tab 3 (grV ⟨a, b, 0⟩) := rfl
theorem grV_set2 (a b : Nat) (r : Int) : (tab 3 (grV ⟨a, b, 0⟩)).setIfInBounds 2 (.int .i64 r) = tab 3 (grV ⟨a, b, r⟩) := rfl
end Go.Proofs.Ytegaiphhoinilaa
