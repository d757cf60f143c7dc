/-
Layer 7, the reference: the encoding of a manifest.
-/
import Derived.Test.YtoplknankmomcaaMfE
import Derived.Test.YtoplknankmomcaaMfH
namespace Go.Proofs.Ytoplknankmomcaa
open Go Go.RowKit

/-- the string PORTICO1 -/
def mark8 : List UInt8 := [80, 79, 82, 84, 73, 67, 79, 49]
def u8 (x : Int) : UInt8 := UInt8.ofNat (x % 256).toNat
def headL (m : Man) (n : Nat) : List (List UInt8) := [mark8, leB 4 m.c, [u8 m.k, u8 (n : Int), 0, 0]]
def payL (p : Pay) : List (List UInt8) := [p.d, leB 4 p.z, leB 4 p.b, [u8 p.c, u8 (p.gs.length : Int), 0, 0]]
def grL (g : Gr) : List (List UInt8) := [leB 4 g.s, leB 4 g.z, leB 4 g.r.toNat]
theorem mark_cells : (mark8.map by8).toArray = #[.int .u8 80, .int .u8 79, .int .u8 82, .int .u8 84, .int .u8 73, .int .u8 67, .int .u8 79, .int .u8 49] := by kernel_rfl
theorem by8_u8 (x : Int) : by8 (u8 x) = .int .u8 (x % 256) := by
  unfold by8 u8
  rw [UInt8.toNat_ofNat']
  congr 1
  omega
theorem i64_in' (x : Int) (h : -9223372036854775808 ≤ x ∧ x ≤ 9223372036854775807) : IntKind.i64.wrap x = x := by simp [IntKind.wrap, IntKind.bits, IntKind.signed]; omega
theorem put4 (x : Nat) (w : World) (hx : x < 9223372036854775808) :
    Calls Try.prog 22 #[.int .i64 4, .int .i64 (x : Int)] w fun e w' => (∃ v, e = .returned v ∧ RowB w' v (leB 4 x)) ∧ Below w.heap.size w w' := put_any 4 x w (by omega) hx
theorem RowB.out {w : World} {v : Value} {bs : List UInt8} (h : RowB w v bs) : ∃ A n c, v = .slice A n c ∧ RowB w (.slice A n c) bs := by
  obtain ⟨A, n, c, rfl, h2⟩ := h
  exact ⟨A, n, c, rfl, A, n, c, rfl, h2⟩
theorem row_kept {B : Nat} {w w' : World} {x : Value} {bs : List UInt8} (h : ∃ A n c, x = .slice A n c ∧ RowB w (.slice A n c) bs) (k : Kb B w w') : ∃ A n c, x = .slice A n c ∧ RowB w' (.slice A n c) bs := by
  obtain ⟨A, n, c, e, hR⟩ := h
  exact ⟨A, n, c, e, hR.keep k⟩
theorem row_frozen {w : World} {b B k : Nat} {bs : List UInt8} {fr : Nat × Nat} (hk : bs.length = k) (hb : w.heap[b]? = some (Obj.cells (bs.map by8).toArray 5 fr)) (hB : B ≤ b) : RowB (w.freeze ⟨b, k, none⟩ 1) (.slice (some ⟨b, 0, none⟩) k k) bs := by
  obtain ⟨f2, h2, _⟩ := (ka_freeze (n := k) (k := 1) hb hB).blk b _ _ fr hb
  exact rowB_at hk h2
theorem rowB_quad (w : World) (a b : Int) : RowB (w.alloc (.cells #[.int .u8 (a % 256), .int .u8 (b % 256), .int .u8 0, .int .u8 0] 5)) (.slice (some ⟨w.heap.size, 0, none⟩) 4 4) [u8 a, u8 b, 0, 0] := by
  refine rowB_at (fr := (0, 0)) rfl ?_
  rw [show ([u8 a, u8 b, 0, 0].map by8).toArray = #[.int .u8 (a % 256), .int .u8 (b % 256), .int .u8 0, .int .u8 0] from by
    rw [← by8_u8, ← by8_u8]; rfl]
  exact heap_alloc_new _ _
/-- a fresh row of slices that read as these lists of bytes -/
def RowsF (ob : Option Nat) (B m : Nat) (css : List (List UInt8)) (x : Value) (w : World) : Prop :=
  ∃ (h : Nat) (us : List Value), x = .slice (some ⟨h, 0, none⟩) m m ∧ (B ≤ h ∧ ob ≠ some h ∧ Has w h 25 us.toArray ∧ us.length = m ∧ css.length = m ∧ ∀ j, j < m → ∃ x, us[j]? = some x ∧ RowB w x (css.getD j []))
theorem rowsF_kept {ob : Option Nat} {B m : Nat} {css : List (List UInt8)} {x : Value} {w w' : World} (h : RowsF ob B m css x w) (k : Ka B w w') : RowsF ob B m css x w' := by
  obtain ⟨h, us, e, hB, hob, hH, hl, hc, hr⟩ := h
  refine ⟨h, us, e, hB, hob, k.has hH (by decide), hl, hc, fun j hj => ?_⟩
  obtain ⟨x, h1, h2⟩ := hr j hj
  exact ⟨x, h1, h2.keep k.kb⟩
theorem rowsF_apart {ob : Option Nat} {B m : Nat} {css : List (List UInt8)} {x : Value} {w w' : World} (h : RowsF ob B m css x w) (k : Kb B w w') (kk : w.grownBy w' ob) : RowsF ob B m css x w' := by
  obtain ⟨h, us, e, hB, hob, hH, hl, hc, hr⟩ := h
  refine ⟨h, us, e, hB, hob, has_grown hH kk (fun l hl2 he => hob (by rw [hl2, he])), hl, hc, fun j hj => ?_⟩
  obtain ⟨x, h1, h2⟩ := hr j hj
  exact ⟨x, h1, h2.keep k⟩
theorem rowsF_new {ob : Option Nat} {B m : Nat} {css : List (List UInt8)} {w : World} (us : List Value) (hl : us.length = m) (hc : css.length = m) (hB : B ≤ w.heap.size) (hr : ∀ j, j < m → ∃ x, us[j]? = some x ∧ RowB w x (css.getD j [])) (hob : ∀ h, ob = some h → h < w.heap.size) :
    RowsF ob B m css (.slice (some ⟨w.heap.size, 0, none⟩) m m) (w.alloc (.cells us.toArray 25)) := by
  refine ⟨w.heap.size, us, rfl, hB, (fun e => Nat.lt_irrefl _ (hob _ e)), Has.new _ _ _, hl, hc, fun j hj => ?_⟩
  obtain ⟨x, h1, h2⟩ := hr j hj
  exact ⟨x, h1, h2.keep (Ka.alloc _ _ hB).kb⟩
theorem forall3 {w : World} {a b c : Value} {x y z : List UInt8} (h1 : RowB w a x) (h2 : RowB w b y) (h3 : RowB w c z) : ∀ j, j < 3 → ∃ v, [a, b, c][j]? = some v ∧ RowB w v ([x, y, z].getD j []) := fun j hj => by
  rcases (show j = 0 ∨ j = 1 ∨ j = 2 by omega) with rfl | rfl | rfl
  · exact ⟨a, rfl, h1⟩
  · exact ⟨b, rfl, h2⟩
  · exact ⟨c, rfl, h3⟩
theorem forall4 {w : World} {a b c d : Value} {x y z u : List UInt8} (h1 : RowB w a x) (h2 : RowB w b y) (h3 : RowB w c z) (h4 : RowB w d u) : ∀ j, j < 4 → ∃ v, [a, b, c, d][j]? = some v ∧ RowB w v ([x, y, z, u].getD j []) := fun j hj => by
  rcases (show j = 0 ∨ j = 1 ∨ j = 2 ∨ j = 3 by omega) with rfl | rfl | rfl | rfl
  · exact ⟨a, rfl, h1⟩
  · exact ⟨b, rfl, h2⟩
  · exact ⟨c, rfl, h3⟩
  · exact ⟨d, rfl, h4⟩
/-- append([]byte(nil), x...), x not empty -/
theorem wp_copy_bytes {w : World} {op : Oper} {a : Act} {K : Act → World → Prop} {Q : Exit → Act → World → Prop} (s x : Operand)
    (ho : op.op = .call { callee := .builtin .append, args := #[s, x], argTypes := #[25, 25] }) (hs : a.eval s = .slice none 0 0) (b o m c : Nat) (hx : a.eval x = .slice (some ⟨b, o, none⟩) m c) (bs : List UInt8) (hm : bs.length = m) (hc : ∀ j, j < m → w.cell? ⟨b, o + j, none⟩ = some (by8 (bs.getD j 0))) (h63 : m ≤ 1000000)
    (hK : ∀ v' w', RowB w' v' bs → Below w.heap.size w w' → K (a.put op.dst v') w') : op.wp Try.prog a w K Q := by
  obtain ⟨i5, hi5, hz5, hs5, hb5⟩ := info_parts info5
  refine wp_append_own _ s x 25 ho w.heap.size 5 i5 _ 1 1 Try.underlying25 hi5 hz5 hs5 hb5 rfl (by decide) (.slice none 0 0) 0 [] hs (World.ownsRow_nil _ _ _ _) ⟨b, o, none⟩ m c (bs.map by8) hx (by simp [hm]) (fun j u hj => ?_) (fun u hu => ?_) (by simp only [maxLen]; omega) (by omega) (Nat.le_refl _)
    (fun v' w' h1 h2 _ => hK v' w' (own_rowB (by rw [Nat.zero_add, List.nil_append] at h1; exact h1)) ⟨h2.os, h2.tape, h2.output, h2.size, fun i hi => h2.block i hi (by simp [Value.ownBlock])⟩)
  · have hjm : j < m := by have := (List.getElem?_eq_some_iff.1 hj).1; simpa [hm] using this
    rw [Addr.add_mid, hc j hjm, ← hj]
    simp [List.getD_eq_getElem?_getD, show j < bs.length by omega]
  · obtain ⟨b, _, rfl⟩ := List.mem_map.1 hu
    rfl
theorem OutB.ka {B : Nat} {w w' : World} {v : Value} {n : Nat} {bss : List (List UInt8)} (h : OutB w B v n bss) (k : Ka B w w') : OutB w' B v n bss := by
  obtain ⟨vs, hl, ho, hr⟩ := h
  refine ⟨vs, hl, k.own ho (by decide), fun j hj => ?_⟩
  obtain ⟨x, h1, h2⟩ := hr j hj
  exact ⟨x, h1, h2.keep k.kb⟩
theorem out_kept {B : Nat} {w w' : World} {x : Value} {n : Nat} {bss : List (List UInt8)} (h : ∃ v, x = v ∧ OutB w B v n bss) (k : Ka B w w') : ∃ v, x = v ∧ OutB w' B v n bss := by
  obtain ⟨v, e, h⟩ := h
  exact ⟨v, e, h.ka k⟩
/-- the fresh row becomes the row that is appended to -/
theorem rowsF_out {B m : Nat} {css : List (List UInt8)} {w : World} {h : Nat} {us : List Value} (hF : B ≤ h ∧ (none : Option Nat) ≠ some h ∧ Has w h 25 us.toArray ∧ us.length = m ∧ css.length = m ∧ ∀ j, j < m → ∃ x, us[j]? = some x ∧ RowB w x (css.getD j [])) (hm : m ≤ 1000000) :
    OutB w B (.slice (some ⟨h, 0, none⟩) m m) m css := by
  obtain ⟨hB, _, hH, hl, hc, hr⟩ := hF
  exact ⟨us, hc, ⟨by rw [Nat.mul_one]; exact hl, .inr ⟨h, m, us.toArray, rfl, hB, hH, Nat.le_refl _, by simp only [maxLen]; omega, by simp [hl], by simp [← hl]⟩⟩, hr⟩
def plL (p : Pay) : List (List UInt8) := payL p ++ p.gs.flatMap grL
def outs (m : Man) (n i : Nat) : List (List UInt8) := headL m n ++ (m.ps.take i).flatMap plL
theorem errG_fine : ∀ (gs : List Gr) (all : List Gr) (pv : Option Gr), errG all pv gs = 0 → ∀ g ∈ gs, fineB g = true
  | [], _, _, _, g, h => by cases h
  | x :: gs, all, pv, he, g, h => by
    rw [show errG all pv (x :: gs) = if (!fineB x || pvBad pv x) = true then 10 else if all.any (ovl x) = true then 11 else errG (all ++ [x]) (some x) gs from rfl] at he
    by_cases h1 : (!fineB x || pvBad pv x) = true
    · rw [if_pos h1] at he; omega
    · rw [if_neg h1] at he
      by_cases h2 : all.any (ovl x) = true
      · rw [if_pos h2] at he; omega
      · rw [if_neg h2] at he
        rcases List.mem_cons.1 h with rfl | h
        · cases hf : fineB g with
          | true => rfl
          | false => rw [hf] at h1; exact absurd rfl h1
        · exact errG_fine gs _ _ he g h
theorem errP_fine : ∀ (ps : List Pay) (all : List Gr), errP all ps = 0 → ∀ p ∈ ps, badP p = false ∧ ∀ g ∈ p.gs, fineB g = true
  | [], _, _, p, h => by cases h
  | x :: ps, all, he, p, h => by
    rw [show errP all (x :: ps) = if badP x = true then 3 else if errG all none x.gs = 0 then errP (all ++ x.gs) ps else errG all none x.gs from rfl] at he
    by_cases h1 : badP x = true
    · rw [if_pos h1] at he; omega
    · rw [if_neg h1] at he
      by_cases h2 : errG all none x.gs = 0
      · rw [if_pos h2] at he
        rcases List.mem_cons.1 h with rfl | h
        · exact ⟨by simpa using h1, errG_fine _ _ _ h2⟩
        · exact errP_fine ps _ he p h
      · rw [if_neg h2] at he; exact absurd he h2
theorem right_fine {m : Man} (h : rightM m = 0) : (0 ≤ m.k ∧ m.k ≤ 255 ∧ 1 ≤ m.ps.length ∧ m.ps.length ≤ 4) ∧ ∀ p ∈ m.ps, badP p = false ∧ ∀ g ∈ p.gs, fineB g = true := by
  unfold rightM at h
  by_cases h1 : badM m = true
  · rw [if_pos h1] at h; omega
  · rw [if_neg h1] at h
    refine ⟨?_, errP_fine _ _ h⟩
    unfold badM at h1
    simp only [decide_eq_true_eq] at h1
    omega
theorem grL_len (g : Gr) : (grL g).length = 3 := rfl
theorem grs_len : ∀ gs : List Gr, (gs.flatMap grL).length = 3 * gs.length
  | [] => rfl
  | g :: gs => by
    rw [List.flatMap_cons, List.length_append, grs_len gs, grL_len, List.length_cons]
    omega
theorem leB4_len (x : Nat) : (leB 4 x).length = 4 := leB_len 4 x
theorem grs_flat : ∀ gs : List Gr, (gs.flatMap grL).flatten.length = 12 * gs.length
  | [] => rfl
  | g :: gs => by
    rw [List.flatMap_cons, List.flatten_append, List.length_append, grs_flat gs, List.length_cons]
    have : (grL g).flatten.length = 12 := by simp [grL, leB_len]
    omega
theorem pls_flat : ∀ ps : List Pay, (∀ p ∈ ps, p.d.length = 32 ∧ p.gs.length ≤ 4) → (ps.flatMap plL).flatten.length ≤ 92 * ps.length
  | [], _ => by simp
  | p :: ps, h => by
    rw [List.flatMap_cons, List.flatten_append, List.length_append, List.length_cons]
    have h1 := pls_flat ps fun x hx => h x (List.mem_cons_of_mem _ hx)
    obtain ⟨h2, h3⟩ := h p (List.mem_cons_self ..)
    have h4 : (plL p).flatten.length = 44 + 12 * p.gs.length := by
      unfold plL
      rw [List.flatten_append, List.length_append, grs_flat]
      simp [payL, leB_len, h2]
    omega
theorem outs_len (m : Man) (n i : Nat) (h : ∀ p ∈ m.ps, p.d.length = 32 ∧ p.gs.length ≤ 4) : (outs m n i).flatten.length ≤ 16 + 92 * i := by
  unfold outs
  rw [List.flatten_append, List.length_append]
  have h1 := pls_flat (m.ps.take i) fun p hp => h p (List.mem_of_mem_take hp)
  have h2 : (headL m n).flatten.length = 16 := by simp [headL, leB_len, mark8]
  have h3 : (m.ps.take i).length ≤ i := List.length_take_le _ _
  omega
theorem out_slB {w : World} {base n c : Nat} {A : Option Addr} {bss : List (List UInt8)} (h : OutB w base (.slice A n c) n bss) (hn : n ≤ 140737488355328) : SlB w ⟨A, n, c⟩ bss := by
  obtain ⟨vs, hl, ho, hr⟩ := h
  refine ⟨hl, hn, fun h0 => ?_⟩
  replace h0 : 0 < n := h0
  rcases ho.2 with ⟨_, h1⟩ | ⟨g, cap, cur, hv, hb, hg, hnc, _⟩
  · omega
  · have e1 : A = some ⟨g, 0, none⟩ := by injection hv
    subst e1
    refine ⟨g, 0, rfl, (Array.getElem?_eq_some_iff.1 hg).1, fun j hj => ?_⟩
    obtain ⟨x, h1, h2⟩ := hr j hj
    have := ho.cells (g := g) rfl j x h1
    rw [Addr.add_mid] at this
    exact ⟨x, this, h2⟩
theorem payV_d (p : Pay) (s : Sl) (j : Nat) (h : j < 32) : payV p s j = by8 (p.d.getD j 0) := by unfold payV; rw [if_pos h]
theorem take_one {α : Type} (l : List α) (d : α) (k : Nat) (h : k < l.length) : l.take (k + 1) = l.take k ++ [l.getD k d] := by
  rw [List.take_add_one, List.getD_eq_getElem?_getD, List.getElem?_eq_getElem h]
  rfl
end Go.Proofs.Ytoplknankmomcaa
