/-
Layer 9: symbol and relocation tables as plain data; how they lie in memory.
-/
import Derived.Test.YtfdoloonllhodaaJaE
namespace Go.Proofs.Ytfdoloonllhodaa
open Go Go.RowKit

/-- a relocation -/
structure Rl where
  a : Nat
  t : Nat
  s : Nat
  x : Nat
deriving DecidableEq
def rl0 : Rl := ⟨0, 0, 0, 0⟩
/-- the bytes at an address -/
def adN : List Sg → Nat → Nat → Option (List UInt8)
  | [], _, _ => none
  | s :: ss, a, n => if s.d ≤ a ∧ a + n ≤ s.d + s.b.length then some ((s.b.drop (a - s.d)).take n) else adN ss a n
/-- a tag's value -/
def valN : List (Nat × Nat) → Nat → Option Nat
  | [], _ => none
  | p :: l, t => if p.1 = t then some p.2 else valN l t
/-- the pairs from q on, as long as k goes -/
def tagsGo (b : List UInt8) : Nat → Nat → List (Nat × Nat) → Option (List (Nat × Nat))
  | 0, _, _ => none
  | k + 1, q, l =>
    if b.length < q + 8 then none
    else if nm b 4 q = 0 then some l
    else if (valN l (nm b 4 q)).isSome = true then none
    else tagsGo b k (q + 8) (l ++ [(nm b 4 q, nm b 4 (q + 4))])
def tagsN (b : List UInt8) : Option (List (Nat × Nat)) := tagsGo b (b.length / 8 + 1) 0 []
/-- the symbols' values in a table -/
def symG (b : List UInt8) (n : Nat) : List Nat := (List.range n).map fun i => nm b 4 (16 * i + 4)
def symsN (ss : List Sg) (l : List (Nat × Nat)) : Option (List Nat) :=
  match valN l 6 with
  | none => some []
  | some tb =>
    match valN l 4 with
    | none => none
    | some h =>
      match adN ss h 8 with
      | none => none
      | some hb =>
        if (valN l 11).getD 0 ≠ 16 ∨ 64 < nm hb 4 4 then none
        else if nm hb 4 4 = 0 then some []
        else match adN ss tb (16 * nm hb 4 4) with
          | none => none
          | some b => some (symG b (nm hb 4 4))
/-- the relocation at q -/
def rlA (b : List UInt8) (q : Nat) : Rl := ⟨nm b 4 q, nm b 4 (q + 4) % 256, nm b 4 (q + 4) / 256, nm b 4 (q + 8)⟩
def relG (b : List UInt8) (n : Nat) : List Rl := (List.range n).map fun i => rlA b (12 * i)
def rlB (m : Nat) (r : Rl) : Bool := decide (r.s = 0 ∨ r.s < m)
def relsN (ss : List Sg) (l : List (Nat × Nat)) (m : Nat) : Option (List Rl) :=
  match valN l 7 with
  | none => if (valN l 8).getD 0 = 0 then some [] else none
  | some tb =>
    if (valN l 9).getD 0 ≠ 12 ∨ (valN l 8).getD 0 % 12 ≠ 0 ∨ 768 < (valN l 8).getD 0 then none
    else if (valN l 8).getD 0 = 0 then some []
    else match adN ss tb ((valN l 8).getD 0) with
      | none => none
      | some b => if (relG b ((valN l 8).getD 0 / 12)).all (rlB m) = true then some (relG b ((valN l 8).getD 0 / 12)) else none
/-- a file that was read: the entry, segments, symbols, relocations, the error -/
structure Rd where
  en : Nat
  ss : List Sg
  sy : List Nat
  rl : List Rl
  er : Nat
deriving DecidableEq
def rdE (e : Nat) : Rd := ⟨0, [], [], [], e⟩
/-- with these tags; with this section; with these Dynamic headers -/
def readY (en : Nat) (ss : List Sg) (l : List (Nat × Nat)) : Rd :=
  match symsN ss l with
  | none => rdE 12
  | some sy =>
    match relsN ss l sy.length with
    | none => rdE 12
    | some r => ⟨en, ss, sy, r, 0⟩
def readT (en : Nat) (ss : List Sg) (b : List UInt8) : Rd :=
  match tagsN b with
  | none => rdE 12
  | some l => readY en ss l
def readD (en : Nat) (ss : List Sg) (d : Hd) : Rd :=
  if d.f ≠ d.m then rdE 12
  else match adN ss d.d d.f with
    | none => rdE 12
    | some b => readT en ss b
def readG (en : Nat) (ss : List Sg) : List Hd → Rd
  | [] => ⟨en, ss, [], [], 0⟩
  | d :: _ => readD en ss d
theorem readG_none {en : Nat} {ss : List Sg} {d : Hd} {r : List Hd} (h : (adN ss d.d d.f).isSome = false) : readG en ss (d :: r) = rdE 12 := by
  show readD en ss d = _
  unfold readD
  split
  · rfl
  · rw [Option.isSome_eq_false_iff, Option.isNone_iff_eq_none] at h
    rw [h]
theorem readG_ne {en : Nat} {ss : List Sg} {d : Hd} {r : List Hd} (h : d.f ≠ d.m) : readG en ss (d :: r) = rdE 12 := by
  show readD en ss d = _
  unfold readD
  rw [if_pos h]
theorem readG_some {en : Nat} {ss : List Sg} {d : Hd} {r : List Hd} (h : d.f = d.m) (hb : (adN ss d.d d.f).isSome = true) : readG en ss (d :: r) = readT en ss ((adN ss d.d d.f).getD []) := by
  show readD en ss d = _
  unfold readD
  rw [if_neg (fun h2 => h2 h)]
  obtain ⟨b, e⟩ := Option.isSome_iff_exists.1 hb
  rw [e]
  rfl
theorem readT_none {en : Nat} {ss : List Sg} {b : List UInt8} (h : (tagsN b).isSome = false) : readT en ss b = rdE 12 := by
  unfold readT
  rw [Option.isSome_eq_false_iff, Option.isNone_iff_eq_none] at h
  rw [h]
theorem readT_some {en : Nat} {ss : List Sg} {b : List UInt8} (h : (tagsN b).isSome = true) : readT en ss b = readY en ss ((tagsN b).getD []) := by
  obtain ⟨l, e⟩ := Option.isSome_iff_exists.1 h
  unfold readT
  rw [e]
  rfl
theorem readY_none {en : Nat} {ss : List Sg} {l : List (Nat × Nat)} (h : symsN ss l = none) : readY en ss l = rdE 12 := by unfold readY; rw [h]
theorem readY_none2 {en : Nat} {ss : List Sg} {l : List (Nat × Nat)} {sy : List Nat} (h : symsN ss l = some sy) (h2 : relsN ss l sy.length = none) : readY en ss l = rdE 12 := by unfold readY; rw [h]; dsimp only; rw [h2]
theorem readY_some {en : Nat} {ss : List Sg} {l : List (Nat × Nat)} {sy : List Nat} {r : List Rl} (h : symsN ss l = some sy) (h2 : relsN ss l sy.length = some r) : readY en ss l = ⟨en, ss, sy, r, 0⟩ := by unfold readY; rw [h]; dsimp only; rw [h2]
theorem isSome_f {α : Type} {o : Option α} (h : o.isSome = false) : o = none := by
  cases o with
  | none => rfl
  | some x => cases h
theorem isSome_t {α : Type} {o : Option α} (d : α) (h : o.isSome = true) : o = some (o.getD d) := by
  cases o with
  | none => cases h
  | some x => rfl
/-- the symbols, in the order in which they are looked for -/
theorem syms_0 {ss : List Sg} {l : List (Nat × Nat)} (h6 : (valN l 6).isSome = false) : symsN ss l = some [] := by
  unfold symsN
  rw [isSome_f h6]
theorem syms_1 {ss : List Sg} {l : List (Nat × Nat)} (h6 : (valN l 6).isSome = true) (h : (valN l 4).isSome = false ∨ (adN ss ((valN l 4).getD 0) 8).isSome = false ∨ (valN l 11).getD 0 ≠ 16) : symsN ss l = none := by
  unfold symsN
  rw [isSome_t 0 h6]
  dsimp only
  cases h4 : valN l 4 with
  | none => rfl
  | some hh =>
    dsimp only
    rw [h4] at h
    rcases h with h | h | h
    · cases h
    · rw [show adN ss hh 8 = none from isSome_f h]
    · cases ha : adN ss hh 8 with
      | none => rfl
      | some hb => dsimp only; rw [if_pos (.inl h)]
theorem syms_in {ss : List Sg} {l : List (Nat × Nat)} (h6 : (valN l 6).isSome = true) (h4 : (valN l 4).isSome = true) (ha : (adN ss ((valN l 4).getD 0) 8).isSome = true) (h11 : (valN l 11).getD 0 = 16) {n : Nat} (hn : n = nm ((adN ss ((valN l 4).getD 0) 8).getD []) 4 4) :
    symsN ss l = if 64 < n then none else if n = 0 then some [] else match adN ss ((valN l 6).getD 0) (16 * n) with
      | none => none
      | some b => some (symG b n) := by
  unfold symsN
  rw [isSome_t 0 h6]
  dsimp only
  rw [isSome_t 0 h4]
  dsimp only
  rw [isSome_t [] ha]
  dsimp only
  rw [← hn, h11]
  by_cases h64 : 64 < n
  · rw [if_pos (.inr h64), if_pos h64]
  · rw [if_neg (by omega), if_neg h64]
    rfl
theorem syms_2 {ss : List Sg} {l : List (Nat × Nat)} (h6 : (valN l 6).isSome = true) (h4 : (valN l 4).isSome = true) (ha : (adN ss ((valN l 4).getD 0) 8).isSome = true) (h11 : (valN l 11).getD 0 = 16) {n : Nat} (hn : n = nm ((adN ss ((valN l 4).getD 0) 8).getD []) 4 4)
    (h : 64 < n ∨ ((adN ss ((valN l 6).getD 0) (16 * n)).isSome = false ∧ 0 < n)) : symsN ss l = none := by
  rw [syms_in h6 h4 ha h11 hn]
  rcases h with h | ⟨h, h0⟩
  · rw [if_pos h]
  · split
    · rfl
    · rw [if_neg (by omega), isSome_f h]
theorem syms_3 {ss : List Sg} {l : List (Nat × Nat)} (h6 : (valN l 6).isSome = true) (h4 : (valN l 4).isSome = true) (ha : (adN ss ((valN l 4).getD 0) 8).isSome = true) (h11 : (valN l 11).getD 0 = 16) {n : Nat} (hn : n = nm ((adN ss ((valN l 4).getD 0) 8).getD []) 4 4)
    (h64 : n ≤ 64) (h : n = 0 ∨ (adN ss ((valN l 6).getD 0) (16 * n)).isSome = true) : symsN ss l = some (symG ((adN ss ((valN l 6).getD 0) (16 * n)).getD []) n) := by
  rw [syms_in h6 h4 ha h11 hn, if_neg (by omega)]
  by_cases h0 : n = 0
  · rw [if_pos h0, h0]
    rfl
  · rw [if_neg h0]
    rcases h with h | h
    · exact absurd h h0
    · rw [isSome_t [] h]
      rfl
theorem rels_0 {ss : List Sg} {l : List (Nat × Nat)} {m : Nat} (h7 : (valN l 7).isSome = false) (h8 : (valN l 8).getD 0 = 0) : relsN ss l m = some [] := by
  unfold relsN
  rw [isSome_f h7]
  dsimp only
  rw [if_pos h8]
theorem rels_1 {ss : List Sg} {l : List (Nat × Nat)} {m : Nat} (h7 : (valN l 7).isSome = false) (h8 : (valN l 8).getD 0 ≠ 0) : relsN ss l m = none := by
  unfold relsN
  rw [isSome_f h7]
  dsimp only
  rw [if_neg h8]
theorem rels_in {ss : List Sg} {l : List (Nat × Nat)} {m : Nat} (h7 : (valN l 7).isSome = true) {z : Nat} (hz : z = (valN l 8).getD 0) : relsN ss l m = if (valN l 9).getD 0 ≠ 12 ∨ z % 12 ≠ 0 ∨ 768 < z then none else if z = 0 then some [] else match adN ss ((valN l 7).getD 0) z with
      | none => none
      | some b => if (relG b (z / 12)).all (rlB m) = true then some (relG b (z / 12)) else none := by
  unfold relsN
  rw [isSome_t 0 h7]
  dsimp only
  rw [← hz]
  rfl
theorem rels_2 {ss : List Sg} {l : List (Nat × Nat)} {m : Nat} (h7 : (valN l 7).isSome = true) {z : Nat} (hz : z = (valN l 8).getD 0) (h : (valN l 9).getD 0 ≠ 12 ∨ z % 12 ≠ 0 ∨ 768 < z ∨ ((adN ss ((valN l 7).getD 0) z).isSome = false ∧ 0 < z)) : relsN ss l m = none := by
  rw [rels_in h7 hz]
  split
  · rfl
  · rename_i h2
    rcases h with h | h | h | ⟨h, h0⟩
    · exact absurd (.inl h) h2
    · exact absurd (.inr (.inl h)) h2
    · exact absurd (.inr (.inr h)) h2
    · rw [if_neg (by omega), isSome_f h]
theorem rels_3 {ss : List Sg} {l : List (Nat × Nat)} {m : Nat} (h7 : (valN l 7).isSome = true) {z : Nat} (hz : z = (valN l 8).getD 0) (h9 : (valN l 9).getD 0 = 12) (hm : z % 12 = 0) (h768 : z ≤ 768) (h : z = 0 ∨ (adN ss ((valN l 7).getD 0) z).isSome = true) :
    relsN ss l m = if (relG ((adN ss ((valN l 7).getD 0) z).getD []) (z / 12)).all (rlB m) = true then some (relG ((adN ss ((valN l 7).getD 0) z).getD []) (z / 12)) else none := by
  rw [rels_in h7 hz, if_neg (by rw [h9]; omega)]
  by_cases h0 : z = 0
  · rw [if_pos h0, h0]
    rfl
  · rw [if_neg h0]
    rcases h with h | h
    · exact absurd h h0
    · rw [isSome_t [] h]
      rfl
def readN (bs : List UInt8) : Rd := if (segsN bs).2.2.2 = 0 then readG (segsN bs).1 (segsN bs).2.1 (segsN bs).2.2.1 else rdE (segsN bs).2.2.2
/-- a relocation's cells in package api; in the reference -/
def rlE (r : Rl) : Nat → Value
  | 0 => .int .u32 (r.a : Int)
  | 1 => .int .i64 (r.t : Int)
  | 2 => .int .i64 (r.s : Int)
  | _ => .int .u32 (r.x : Int)
def rlR (r : Rl) : Nat → Value
  | 0 => .int .i64 (r.a : Int)
  | 1 => .int .i64 (r.t : Int)
  | 2 => .int .i64 (r.s : Int)
  | _ => .int .i64 (r.x : Int)
def u4 (x : Nat) (_ : Nat) : Value := .int .u32 (x : Int)
def i8 (x : Nat) (_ : Nat) : Value := .int .i64 (x : Int)
/-- a tag and its value -/
def prR (p : Nat × Nat) : Nat → Value
  | 0 => .int .i64 (p.1 : Int)
  | _ => .int .i64 (p.2 : Int)
theorem rlE_one (r : Rl) (j : Nat) : (rlE r j).oneCell' = true := by unfold rlE; split <;> rfl
theorem rlR_one (r : Rl) (j : Nat) : (rlR r j).oneCell' = true := by unfold rlR; split <;> rfl
theorem prR_one (p : Nat × Nat) (j : Nat) : (prR p j).oneCell' = true := by unfold prR; split <;> rfl
theorem u4_one (x j : Nat) : (u4 x j).oneCell' = true := rfl
theorem i8_one (x j : Nat) : (i8 x j).oneCell' = true := rfl
def SlU (w : World) (s : Sl) (xs : List Nat) : Prop := xs.length = s.n ∧ SlC w s 1 fun j i => u4 (xs.getD j 0) i
def SlZ (w : World) (s : Sl) (xs : List Nat) : Prop := xs.length = s.n ∧ SlC w s 1 fun j i => i8 (xs.getD j 0) i
def SlL (w : World) (s : Sl) (rs : List Rl) : Prop := rs.length = s.n ∧ SlC w s 4 fun j i => rlE (rs.getD j rl0) i
def SlM (w : World) (s : Sl) (rs : List Rl) : Prop := rs.length = s.n ∧ SlC w s 4 fun j i => rlR (rs.getD j rl0) i
section
variable {w w' : World} {s : Sl} {xs : List Nat} {rs : List Rl}
theorem SlU.below (h : SlU w s xs) (k : Below w.heap.size w w') : SlU w' s xs := ⟨h.1, h.2.below k⟩
theorem SlZ.below (h : SlZ w s xs) (k : Below w.heap.size w w') : SlZ w' s xs := ⟨h.1, h.2.below k⟩
theorem SlL.below (h : SlL w s rs) (k : Below w.heap.size w w') : SlL w' s rs := ⟨h.1, h.2.below k⟩
theorem SlM.below (h : SlM w s rs) (k : Below w.heap.size w w') : SlM w' s rs := ⟨h.1, h.2.below k⟩
end
theorem slC_nil (w : World) (k : Nat) (cs : Nat → Nat → Value) : SlC w ⟨none, 0, 0⟩ k cs := ⟨⟨Nat.le_refl _, Nat.zero_le _⟩, fun h => absurd h (Nat.lt_irrefl _)⟩
theorem slU_nil (w : World) : SlU w ⟨none, 0, 0⟩ [] := ⟨rfl, slC_nil _ _ _⟩
theorem slZ_nil (w : World) : SlZ w ⟨none, 0, 0⟩ [] := ⟨rfl, slC_nil _ _ _⟩
theorem slL_nil (w : World) : SlL w ⟨none, 0, 0⟩ [] := ⟨rfl, slC_nil _ _ _⟩
theorem slM_nil (w : World) : SlM w ⟨none, 0, 0⟩ [] := ⟨rfl, slC_nil _ _ _⟩
/-- bounds -/
theorem adN_len {ss : List Sg} {a n : Nat} {b : List UInt8} : adN ss a n = some b → b.length = n := by
  induction ss with
  | nil => intro h; cases h
  | cons s ss ih =>
    intro h
    unfold adN at h
    split at h
    · rename_i hc
      injection h with h
      rw [← h, List.length_take, List.length_drop]
      omega
    · exact ih h
theorem valN_lt {l : List (Nat × Nat)} {t v B : Nat} (hl : ∀ p ∈ l, p.2 < B) : valN l t = some v → v < B := by
  induction l with
  | nil => intro h; cases h
  | cons p l ih =>
    intro h
    unfold valN at h
    split at h
    · injection h with h
      rw [← h]; exact hl p (List.mem_cons_self ..)
    · exact ih (fun q hq => hl q (List.mem_cons_of_mem _ hq)) h
theorem valD_lt {l : List (Nat × Nat)} {t B : Nat} (hl : ∀ p ∈ l, p.2 < B) (hB : 0 < B) : (valN l t).getD 0 < B := by
  cases h : valN l t with
  | none => exact hB
  | some v => exact valN_lt hl h
theorem tagsGo_lt {b : List UInt8} : ∀ (k q : Nat) (l r : List (Nat × Nat)), (∀ p ∈ l, p.1 < 4294967296 ∧ p.2 < 4294967296) → tagsGo b k q l = some r → ∀ p ∈ r, p.1 < 4294967296 ∧ p.2 < 4294967296
  | 0, _, _, _, _, h => by cases h
  | k + 1, q, l, r, hl, h => by
    unfold tagsGo at h
    split at h
    · cases h
    · split at h
      · injection h with h
        rw [← h]; exact hl
      · split at h
        · cases h
        · refine tagsGo_lt k (q + 8) _ r (fun p hp => ?_) h
          rcases List.mem_append.1 hp with hp | hp
          · exact hl p hp
          · rw [List.mem_singleton.1 hp]; exact ⟨nm4 _ _, nm4 _ _⟩
theorem tagsGo_len {b : List UInt8} : ∀ (k q : Nat) (l r : List (Nat × Nat)), tagsGo b k q l = some r → r.length ≤ l.length + k
  | 0, _, _, _, h => by cases h
  | k + 1, q, l, r, h => by
    unfold tagsGo at h
    split at h
    · cases h
    · split at h
      · injection h with h
        rw [← h]; omega
      · split at h
        · cases h
        · have := tagsGo_len k (q + 8) _ r h
          rw [List.length_append] at this
          simp at this
          omega
theorem tagsN_lt (b : List UInt8) : (∀ p ∈ (tagsN b).getD [], p.1 < 4294967296 ∧ p.2 < 4294967296) ∧ ((tagsN b).getD []).length ≤ b.length / 8 + 1 := by
  cases h : tagsN b with
  | none => exact ⟨fun p hp => by (cases hp), Nat.zero_le _⟩
  | some r =>
    refine ⟨tagsGo_lt _ _ _ r (fun p hp => by (cases hp)) h, ?_⟩
    have := tagsGo_len _ _ _ r h
    simpa using this
theorem adN_le {ss : List Sg} {a n B : Nat} (hB : ∀ g ∈ ss, g.b.length ≤ B) : ((adN ss a n).getD []).length ≤ B := by
  induction ss with
  | nil => exact Nat.zero_le _
  | cons s ss ih =>
    unfold adN
    split
    · show ((s.b.drop (a - s.d)).take n).length ≤ B
      have := hB s (List.mem_cons_self ..)
      rw [List.length_take, List.length_drop]
      omega
    · exact ih fun g hg => hB g (List.mem_cons_of_mem _ hg)
theorem symG_len (b : List UInt8) (n : Nat) : (symG b n).length = n := by simp [symG]
theorem relG_len (b : List UInt8) (n : Nat) : (relG b n).length = n := by simp [relG]
theorem symG_succ (b : List UInt8) (n : Nat) : symG b (n + 1) = symG b n ++ [nm b 4 (16 * n + 4)] := by simp [symG, List.range_succ]
theorem relG_succ (b : List UInt8) (n : Nat) : relG b (n + 1) = relG b n ++ [rlA b (12 * n)] := by simp [relG, List.range_succ]
theorem rel_bad {b : List UInt8} {m n i : Nat} (hi : i < n) (h : rlB m (rlA b (12 * i)) = false) : (relG b n).all (rlB m) = false := by
  cases hc : (relG b n).all (rlB m) with
  | false => rfl
  | true =>
    have := List.all_eq_true.1 hc (rlA b (12 * i)) (List.mem_map.2 ⟨i, List.mem_range.2 hi, rfl⟩)
    rw [h] at this; cases this
theorem rel_more {b : List UInt8} {m i : Nat} (h : (relG b i).all (rlB m) = true) (h2 : rlB m (rlA b (12 * i)) = true) : (relG b (i + 1)).all (rlB m) = true := by
  rw [relG_succ, List.all_append, h]
  simp [h2]
end Go.Proofs.Ytfdoloonllhodaa
