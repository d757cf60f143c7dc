/-
Layer 9: a file of code and tables, and what is read of it.
Layer 9: tables that are said in full are read as they were written; too long ones are not.
-/
import Derived.Test.YtfdoloonllhodaaJDyP
import Derived.Test.YtfdoloonllhodaaJDyA
import Derived.Test.YtfdoloonllhodaaJElZ
namespace Go.Proofs.Ytfdoloonllhodaa
open Go Go.RowKit

def zs (n : Nat) : List UInt8 := List.replicate n 0
/-- a symbol's entry; a relocation; a tag -/
def symB (v : Nat) : List UInt8 := [1, 0, 0, 0] ++ (leB 4 v ++ zs 8)
def relB (r : Nat × Nat × Nat) : List UInt8 := leB 4 r.1 ++ (leB 4 r.2.1 ++ leB 4 r.2.2)
def tagB (p : Nat × Nat) : List UInt8 := leB 4 p.1 ++ leB 4 p.2
def headB (c : Nat) : List UInt8 := leB 4 1 ++ leB 4 c
/-- the second segment -/
def bodyN (c : Nat) (sy : List Nat) (rl : List (Nat × Nat × Nat)) (tg : List (Nat × Nat)) : List UInt8 := headB c ++ sy.flatMap symB ++ rl.flatMap relB ++ tg.flatMap tagB
def tabAt (sy : List Nat) (rl : List (Nat × Nat × Nat)) : Nat := 8 + 16 * sy.length + 12 * rl.length
def tabH (cl bl a n : Nat) : List Hd := [⟨1, 0, 0, 0, cl, 5⟩, ⟨1, 0, 256, 0, bl, 1⟩, ⟨2, 0, 256 + a, 0, n, 1⟩]
def tabF (code : List UInt8) (c : Nat) (sy : List Nat) (rl : List (Nat × Nat × Nat)) (tg : List (Nat × Nat)) : List UInt8 :=
  fileN 0 (tabH code.length (bodyN c sy rl tg).length (tabAt sy rl) (8 * tg.length)) [code, bodyN c sy rl tg, zs (8 * tg.length)]
theorem symB_len (v : Nat) : (symB v).length = 16 := by simp [symB, leB_len, zs]
theorem relB_len (r : Nat × Nat × Nat) : (relB r).length = 12 := by simp [relB, leB_len]
theorem tagB_len (p : Nat × Nat) : (tagB p).length = 8 := by simp [tagB, leB_len]
theorem headB_len (c : Nat) : (headB c).length = 8 := by simp [headB, leB_len]
theorem flat_len {α : Type} (f : α → List UInt8) (k : Nat) (hf : ∀ x, (f x).length = k) : ∀ l : List α, (l.flatMap f).length = k * l.length
  | [] => by simp
  | x :: l => by rw [List.flatMap_cons, List.length_append, hf, flat_len f k hf l, List.length_cons, Nat.mul_succ]; omega
theorem bodyN_len (c : Nat) (sy : List Nat) (rl : List (Nat × Nat × Nat)) (tg : List (Nat × Nat)) : (bodyN c sy rl tg).length = tabAt sy rl + 8 * tg.length := by
  unfold bodyN tabAt
  rw [List.length_append, List.length_append, List.length_append, headB_len, flat_len _ _ symB_len, flat_len _ _ relB_len, flat_len _ _ tagB_len]
theorem flat_piece {α : Type} (f : α → List UInt8) (k : Nat) (hf : ∀ x, (f x).length = k) (l : List α) (d : α) (i : Nat) (hi : i < l.length) : ∃ P R, l.flatMap f = P ++ (f (l.getD i d) ++ R) ∧ P.length = k * i := by
  refine ⟨(l.take i).flatMap f, (l.drop (i + 1)).flatMap f, ?_, ?_⟩
  · conv => lhs; rw [← List.take_append_drop i l, drop_cons l d i hi]
    rw [List.flatMap_append, List.flatMap_cons]
  · rw [flat_len f k hf, List.length_take, Nat.min_eq_left (by omega)]
theorem nm_mid {P X R : List UInt8} {m q a : Nat} (ha : a = P.length + q) (h : q + m ≤ X.length) : nm (P ++ (X ++ R)) m a = nm X m q := by
  subst ha
  have e : X = ((P ++ (X ++ R)).drop P.length).take X.length := by rw [List.drop_left, List.take_left]
  have h1 := nm_part (bs := P ++ (X ++ R)) (a := P.length) (m := X.length) (k := m) (q := q) (by rw [List.length_append, List.length_append]; omega) h
  rw [← e] at h1
  exact h1.symm
theorem nm_flat {α : Type} (f : α → List UInt8) (k : Nat) (hf : ∀ x, (f x).length = k) (l : List α) (d : α) (i m q : Nat) (hi : i < l.length) (h : q + m ≤ k) : nm (l.flatMap f) m (k * i + q) = nm (f (l.getD i d)) m q := by
  obtain ⟨P, R, e, hP⟩ := flat_piece f k hf l d i hi
  rw [e]
  exact nm_mid (by rw [hP]) (by rw [hf]; exact h)
theorem symB_nm (v : Nat) : nm (symB v) 4 4 = v % 4294967296 := nm_at (A := [1, 0, 0, 0]) (R := zs 8) rfl rfl
theorem tagB_nm (p : Nat × Nat) : nm (tagB p) 4 0 = p.1 % 4294967296 ∧ nm (tagB p) 4 4 = p.2 % 4294967296 := by
  refine ⟨nm_at (A := []) (R := leB 4 p.2) rfl rfl, ?_⟩
  have := nm_at (A := leB 4 p.1) (l := leB 4 p.2) (R := []) (m := 4) (x := p.2) (q := 4) rfl (leB_len _ _)
  rwa [List.append_nil] at this
theorem headB_nm (c : Nat) : nm (headB c) 4 4 = c % 4294967296 := by
  have := nm_at (A := leB 4 1) (l := leB 4 c) (R := []) (m := 4) (x := c) (q := 4) rfl (leB_len _ _)
  rwa [List.append_nil] at this
theorem relB_nm (r : Nat × Nat × Nat) : nm (relB r) 4 0 = r.1 % 4294967296 ∧ nm (relB r) 4 4 = r.2.1 % 4294967296 ∧ nm (relB r) 4 8 = r.2.2 % 4294967296 := by
  refine ⟨nm_at (A := []) rfl rfl, nm_at (A := leB 4 r.1) rfl (leB_len _ _), ?_⟩
  have := nm_at (A := leB 4 r.1 ++ leB 4 r.2.1) (l := leB 4 r.2.2) (R := []) (m := 4) (x := r.2.2) (q := 8) rfl (by rw [List.length_append, leB_len, leB_len])
  rw [List.append_nil, List.append_assoc] at this
  exact this
/-- the segments of a file of code and tables -/
def tabS (code : List UInt8) (c : Nat) (sy : List Nat) (rl : List (Nat × Nat × Nat)) (tg : List (Nat × Nat)) : List Sg :=
  [⟨0, code.length, 5, code⟩, ⟨256, (bodyN c sy rl tg).length, 1, bodyN c sy rl tg⟩]
structure TabFit (code : List UInt8) (sy : List Nat) (rl : List (Nat × Nat × Nat)) (tg : List (Nat × Nat)) : Prop where
  c0 : 0 < code.length
  c4 : code.length % 4 = 0
  cl : code.length ≤ 240
  sy : sy.length ≤ 80
  rl : rl.length ≤ 80
  tg : tg.length ≤ 30
theorem tab_segs {code : List UInt8} {c : Nat} {sy : List Nat} {rl : List (Nat × Nat × Nat)} {tg : List (Nat × Nat)} (h : TabFit code sy rl tg) :
    ∃ p, segsN (tabF code c sy rl tg) = (0, tabS code c sy rl tg, [⟨2, p, 256 + tabAt sy rl, 8 * tg.length, 8 * tg.length, 1⟩], 0) := by
  obtain ⟨h1, h2, h3, h4, h5, h6⟩ := h
  have hbl := bodyN_len c sy rl tg
  have hat : tabAt sy rl = 8 + 16 * sy.length + 12 * rl.length := rfl
  have f0 := file_at 0 (tabH code.length (bodyN c sy rl tg).length (tabAt sy rl) (8 * tg.length)) [code, bodyN c sy rl tg, zs (8 * tg.length)] 0 (by show 0 < 3; decide)
  have f1 := file_at 0 (tabH code.length (bodyN c sy rl tg).length (tabAt sy rl) (8 * tg.length)) [code, bodyN c sy rl tg, zs (8 * tg.length)] 1 (by show 1 < 3; decide)
  have hzl : (zs (8 * tg.length)).length = 8 * tg.length := by simp [zs]
  have hh := file_heads (en := 0) (hs := tabH code.length (bodyN c sy rl tg).length (tabAt sy rl) (8 * tg.length)) (bss := [code, bodyN c sy rl tg, zs (8 * tg.length)]) (by show 1 ≤ 3; decide) (by show 3 ≤ 5; decide) rfl (by decide)
    (by rw [fileN_len]; simp only [List.flatten_cons, List.flatten_nil, List.length_append, List.append_nil, hzl, hbl]; show 52 + 32 * 3 + _ < _; omega)
    (by
      intro i hi
      replace hi : i < 3 := hi
      have h3i : i = 0 ∨ i = 1 ∨ i = 2 := by omega
      rcases h3i with rfl | rfl | rfl
      · exact ⟨.inl rfl, by show 0 < 4294967296; decide, by show code.length < _; omega, by show (5 : Nat) ≤ 7; decide, Nat.le_refl _⟩
      · exact ⟨.inl rfl, by show 256 < 4294967296; decide, by show (bodyN c sy rl tg).length < _; omega, by show (1 : Nat) ≤ 7; decide, Nat.le_refl _⟩
      · exact ⟨.inr rfl, by show 256 + tabAt sy rl < 4294967296; omega, by show 8 * tg.length < _; omega, by show (1 : Nat) ≤ 7; decide, by show (zs (8 * tg.length)).length ≤ 8 * tg.length; omega⟩)
  change headsN (tabF code c sy rl tg) = _ at hh
  change ((tabF code c sy rl tg).drop _).take _ = code at f0
  change ((tabF code c sy rl tg).drop _).take _ = bodyN c sy rl tg at f1
  obtain ⟨p0, hp0⟩ : ∃ p, p = atN [code, bodyN c sy rl tg, zs (8 * tg.length)] 3 0 := ⟨_, rfl⟩
  obtain ⟨p1, hp1⟩ : ∃ p, p = atN [code, bodyN c sy rl tg, zs (8 * tg.length)] 3 1 := ⟨_, rfl⟩
  obtain ⟨p2, hp2⟩ : ∃ p, p = atN [code, bodyN c sy rl tg, zs (8 * tg.length)] 3 2 := ⟨_, rfl⟩
  have hh2 : headsN (tabF code c sy rl tg) = (0, [⟨1, p0, 0, code.length, code.length, 5⟩, ⟨1, p1, 256, (bodyN c sy rl tg).length, (bodyN c sy rl tg).length, 1⟩, ⟨2, p2, 256 + tabAt sy rl, 8 * tg.length, 8 * tg.length, 1⟩], 0) := by
    rw [hh, hp0, hp1, hp2]
    show (0, [hdF _ _ 0, hdF _ _ 1, hdF _ _ 2], 0) = _
    unfold hdF
    have e2 : ([code, bodyN c sy rl tg, zs (8 * tg.length)].getD 2 []).length = 8 * tg.length := hzl
    rw [e2]
    rfl
  replace f0 : ((tabF code c sy rl tg).drop p0).take code.length = code := by rw [hp0]; exact f0
  replace f1 : ((tabF code c sy rl tg).drop p1).take (bodyN c sy rl tg).length = bodyN c sy rl tg := by rw [hp1]; exact f1
  refine ⟨p2, ?_⟩
  have hE := segsN_eq (bs := tabF code c sy rl tg) (by rw [hh2])
  rw [hh2] at hE
  rw [hE]
  generalize tabF code c sy rl tg = F at *
  unfold tabS
  generalize bodyN c sy rl tg = b at *
  have hL : loadsN [⟨1, p0, 0, code.length, code.length, 5⟩, ⟨1, p1, 256, b.length, b.length, 1⟩, ⟨2, p2, 256 + tabAt sy rl, 8 * tg.length, 8 * tg.length, 1⟩] = [⟨1, p0, 0, code.length, code.length, 5⟩, ⟨1, p1, 256, b.length, b.length, 1⟩] := rfl
  have hD : dynsN [⟨1, p0, 0, code.length, code.length, 5⟩, ⟨1, p1, 256, b.length, b.length, 1⟩, ⟨2, p2, 256 + tabAt sy rl, 8 * tg.length, 8 * tg.length, 1⟩] = [⟨2, p2, 256 + tabAt sy rl, 8 * tg.length, 8 * tg.length, 1⟩] := rfl
  have hcan : canB 0 [⟨1, p0, 0, code.length, code.length, 5⟩, ⟨1, p1, 256, b.length, b.length, 1⟩, ⟨2, p2, 256 + tabAt sy rl, 8 * tg.length, 8 * tg.length, 1⟩] = true := by
    unfold canB
    rw [hL, hD]
    have hl1 : ldB ⟨1, p0, 0, code.length, code.length, 5⟩ = true := decide_eq_true (by dsimp only; omega)
    have hl2 : ldB ⟨1, p1, 256, b.length, b.length, 1⟩ = true := decide_eq_true (by dsimp only; omega)
    have hgo : ldGo [⟨1, p0, 0, code.length, code.length, 5⟩, ⟨1, p1, 256, b.length, b.length, 1⟩] 0 = true := by
      show (ldB _ && decide (0 ≤ 0) && (ldB _ && decide (0 + code.length ≤ 256) && true)) = true
      rw [hl1, hl2, decide_eq_true (show 0 + code.length ≤ 256 by omega)]
      rfl
    have hen : ([⟨1, p0, 0, code.length, code.length, 5⟩, ⟨1, p1, 256, b.length, b.length, 1⟩] : List Hd).any (entB 0) = true := by
      have : entB 0 ⟨1, p0, 0, code.length, code.length, 5⟩ = true := decide_eq_true (by dsimp only; omega)
      rw [List.any_cons, this]
      rfl
    rw [hgo, hen]
    rfl
  rw [if_pos hcan, hL, hD]
  show (0, [sgOf F _, sgOf F _], _, 0) = _
  unfold sgOf
  dsimp only
  rw [f0, f1]
end Go.Proofs.Ytfdoloonllhodaa
namespace Go.Proofs.Ytfdoloonllhodaa
open Go Go.RowKit

/-- the tags that say all -/
def ownT (n m : Nat) : List (Nat × Nat) := [(4, 256), (6, 264), (11, 16), (7, 264 + 16 * n), (8, 12 * m), (9, 12), (0, 0)]
def rlOf (r : Nat × Nat × Nat) : Rl := ⟨r.1, r.2.1 % 256, r.2.1 / 256, r.2.2⟩
theorem tags_step {tg l : List (Nat × Nat)} {i k : Nat} {p : Nat × Nat} (hi : i < tg.length) (e : tg.getD i (0, 0) = p) (h1 : p.1 < 4294967296) (h2 : p.2 < 4294967296) :
    tagsGo (tg.flatMap tagB) (k + 1) (8 * i) l = if p.1 = 0 then some l else if (valN l p.1).isSome = true then none else tagsGo (tg.flatMap tagB) k (8 * (i + 1)) (l ++ [p]) := by
  have n0 := nm_flat tagB 8 tagB_len tg (0, 0) i 4 0 hi (by decide)
  have n4 := nm_flat tagB 8 tagB_len tg (0, 0) i 4 4 hi (by decide)
  rw [e, (tagB_nm p).1, Nat.mod_eq_of_lt h1, Nat.add_zero] at n0
  rw [e, (tagB_nm p).2, Nat.mod_eq_of_lt h2] at n4
  conv => lhs; unfold tagsGo
  rw [if_neg (by rw [flat_len _ _ tagB_len]; omega), n0, n4]
  rfl
set_option maxRecDepth 100000 in
set_option maxHeartbeats 1000000 in
theorem own_tags (n m : Nat) (hn : n ≤ 80) (hm : m ≤ 80) : tagsN ((ownT n m).flatMap tagB) = some [(4, 256), (6, 264), (11, 16), (7, 264 + 16 * n), (8, 12 * m), (9, 12)] := by
  unfold tagsN
  rw [flat_len _ _ tagB_len]
  rw [show (ownT n m).length = 7 from rfl, show 8 * 7 / 8 + 1 = 8 from rfl]
  show tagsGo _ 8 (8 * 0) [] = _
  have hl : (ownT n m).length = 7 := rfl
  rw [tags_step (p := (4, 256)) (by rw [hl]; decide) rfl (by decide) (by decide), if_neg (by decide), if_neg (by decide),
    tags_step (p := (6, 264)) (by rw [hl]; decide) rfl (by decide) (by decide), if_neg (by decide), if_neg (by decide),
    tags_step (p := (11, 16)) (by rw [hl]; decide) rfl (by decide) (by decide), if_neg (by decide), if_neg (by decide),
    tags_step (p := (7, 264 + 16 * n)) (by rw [hl]; decide) rfl (by show 7 < 4294967296; decide) (by show 264 + 16 * n < _; omega), if_neg (by show ¬ 7 = 0; decide), if_neg (by simp [valN]),
    tags_step (p := (8, 12 * m)) (by rw [hl]; decide) rfl (by show 8 < 4294967296; decide) (by show 12 * m < _; omega), if_neg (by show ¬ 8 = 0; decide), if_neg (by simp [valN]),
    tags_step (p := (9, 12)) (by rw [hl]; decide) rfl (by decide) (by decide), if_neg (by decide), if_neg (by simp [valN]),
    tags_step (p := (0, 0)) (by rw [hl]; decide) rfl (by decide) (by decide), if_pos rfl]
  rfl
theorem sub_left {A B C : List UInt8} {a n : Nat} (ha : A.length = a) (hn : B.length = n) : ((A ++ (B ++ C)).drop a).take n = B := by
  subst ha hn
  rw [List.drop_left, List.take_left]
theorem ad_tab {code b : List UInt8} {a n : Nat} (hc : code.length ≤ 240) (ha : 256 ≤ a) : adN [⟨0, code.length, 5, code⟩, ⟨256, b.length, 1, b⟩] a n = if a + n ≤ 256 + b.length then some ((b.drop (a - 256)).take n) else none := by
  show (if 0 ≤ a ∧ a + n ≤ 0 + code.length then _ else if 256 ≤ a ∧ a + n ≤ 256 + b.length then _ else none) = _
  rw [if_neg (by omega)]
  by_cases h : a + n ≤ 256 + b.length
  · rw [if_pos ⟨ha, h⟩, if_pos h]
  · rw [if_neg (fun h2 => h h2.2), if_neg h]
theorem symG_flat (sy : List Nat) (h : ∀ v ∈ sy, v < 4294967296) : symG (sy.flatMap symB) sy.length = sy := by
  unfold symG
  refine List.ext_getElem (by simp) fun i h1 h2 => ?_
  rw [List.getElem_map, List.getElem_range, nm_flat symB 16 symB_len sy 0 i 4 4 h2 (by decide), symB_nm, List.getD_eq_getElem?_getD, List.getElem?_eq_getElem h2]
  exact Nat.mod_eq_of_lt (h _ (List.getElem_mem h2))
theorem relG_flat (rl : List (Nat × Nat × Nat)) (h : ∀ r ∈ rl, r.1 < 4294967296 ∧ r.2.1 < 4294967296 ∧ r.2.2 < 4294967296) : relG (rl.flatMap relB) rl.length = rl.map rlOf := by
  unfold relG
  refine List.ext_getElem (by simp) fun i h1 h2 => ?_
  have hi : i < rl.length := by simpa using h2
  rw [List.getElem_map, List.getElem_range, List.getElem_map]
  obtain ⟨g1, g2, g3⟩ := h _ (List.getElem_mem hi)
  obtain ⟨e0, e4, e8⟩ := relB_nm rl[i]
  have hd : rl.getD i (0, 0, 0) = rl[i] := by rw [List.getD_eq_getElem?_getD, List.getElem?_eq_getElem hi]; rfl
  have n0 := nm_flat relB 12 relB_len rl (0, 0, 0) i 4 0 hi (by decide)
  have n4 := nm_flat relB 12 relB_len rl (0, 0, 0) i 4 4 hi (by decide)
  have n8 := nm_flat relB 12 relB_len rl (0, 0, 0) i 4 8 hi (by decide)
  rw [hd, e0, Nat.mod_eq_of_lt g1, Nat.add_zero] at n0
  rw [hd, e4, Nat.mod_eq_of_lt g2] at n4
  rw [hd, e8, Nat.mod_eq_of_lt g3] at n8
  unfold rlA rlOf
  rw [n0, n4, n8]
theorem tab_read {code : List UInt8} {sy : List Nat} {rl : List (Nat × Nat × Nat)} (h : TabFit code sy rl (ownT sy.length rl.length)) (hs : ∀ v ∈ sy, v < 4294967296) (hr : ∀ r ∈ rl, r.1 < 4294967296 ∧ r.2.1 < 4294967296 ∧ r.2.2 < 4294967296) :
    readN (tabF code sy.length sy rl (ownT sy.length rl.length)) = if sy.length ≤ 64 ∧ rl.length ≤ 64 ∧ (rl.map rlOf).all (rlB sy.length) = true then ⟨0, tabS code sy.length sy rl (ownT sy.length rl.length), sy, rl.map rlOf, 0⟩ else rdE 12 := by
  obtain ⟨p, hp⟩ := tab_segs (c := sy.length) h
  have hcl := h.cl
  have h80 := h.sy
  have hr80 := h.rl
  unfold readN
  rw [hp]
  show (if (0 : Nat) = 0 then readG 0 (tabS code sy.length sy rl (ownT sy.length rl.length)) [_] else _) = _
  rw [if_pos rfl]
  show (readD 0 (tabS code sy.length sy rl (ownT sy.length rl.length)) ⟨2, p, 256 + tabAt sy rl, 8 * (ownT sy.length rl.length).length, 8 * (ownT sy.length rl.length).length, 1⟩) = _
  unfold readD
  dsimp only
  rw [if_neg (by simp)]
  have hbl := bodyN_len sy.length sy rl (ownT sy.length rl.length)
  have htl : (ownT sy.length rl.length).length = 7 := rfl
  rw [htl] at hbl ⊢
  have hat : tabAt sy rl = 8 + 16 * sy.length + 12 * rl.length := rfl
  unfold tabS
  have eb : bodyN sy.length sy rl (ownT sy.length rl.length) = headB sy.length ++ (sy.flatMap symB ++ (rl.flatMap relB ++ (ownT sy.length rl.length).flatMap tagB)) := by unfold bodyN; simp [List.append_assoc]
  have hhl := headB_len sy.length
  have hsl := flat_len symB 16 symB_len sy
  have hrl := flat_len relB 12 relB_len rl
  have htl2 := flat_len tagB 8 tagB_len (ownT sy.length rl.length)
  rw [htl] at htl2
  generalize bodyN sy.length sy rl (ownT sy.length rl.length) = b at *
  have d1 : (b.drop 0).take 8 = headB sy.length := by
    rw [eb]; exact sub_left (A := []) rfl hhl
  have d2 : (b.drop 8).take (16 * sy.length) = sy.flatMap symB := by
    rw [eb]; exact sub_left hhl hsl
  have d3 : (b.drop (8 + 16 * sy.length)).take (12 * rl.length) = rl.flatMap relB := by
    rw [eb, ← List.append_assoc]; exact sub_left (by rw [List.length_append, hhl, hsl]) hrl
  have d4 : (b.drop (tabAt sy rl)).take 56 = (ownT sy.length rl.length).flatMap tagB := by
    have := sub_left (A := headB sy.length ++ sy.flatMap symB ++ rl.flatMap relB) (B := (ownT sy.length rl.length).flatMap tagB) (C := []) (a := tabAt sy rl) (n := 56) (by rw [List.length_append, List.length_append, hhl, hsl, hrl, hat]) htl2
    rw [List.append_nil, List.append_assoc, List.append_assoc, ← eb] at this
    exact this
  rw [ad_tab hcl (by omega), if_pos (by omega), show 256 + tabAt sy rl - 256 = tabAt sy rl by omega, show 8 * 7 = 56 from rfl, d4]
  dsimp only
  unfold readT
  rw [own_tags _ _ h80 hr80]
  dsimp only
  unfold readY
  have hS : symsN [⟨0, code.length, 5, code⟩, ⟨256, b.length, 1, b⟩] [(4, 256), (6, 264), (11, 16), (7, 264 + 16 * sy.length), (8, 12 * rl.length), (9, 12)] = if sy.length ≤ 64 then some sy else none := by
    unfold symsN
    rw [show valN [(4, 256), (6, 264), (11, 16), (7, 264 + 16 * sy.length), (8, 12 * rl.length), (9, 12)] 6 = some 264 by simp [valN], show valN [(4, 256), (6, 264), (11, 16), (7, 264 + 16 * sy.length), (8, 12 * rl.length), (9, 12)] 4 = some 256 by simp [valN], show valN [(4, 256), (6, 264), (11, 16), (7, 264 + 16 * sy.length), (8, 12 * rl.length), (9, 12)] 11 = some 16 by simp [valN]]
    dsimp only
    rw [ad_tab hcl (Nat.le_refl _), if_pos (by omega), show 256 - 256 = 0 from rfl, d1]
    dsimp only
    rw [headB_nm, Nat.mod_eq_of_lt (by omega)]
    by_cases h64 : sy.length ≤ 64
    · rw [if_pos h64, if_neg (by simp; omega)]
      by_cases h0 : sy.length = 0
      · rw [if_pos h0, List.eq_nil_of_length_eq_zero h0]
      · rw [if_neg h0, ad_tab hcl (by decide), if_pos (by omega), show 264 - 256 = 8 from rfl, d2]
        dsimp only
        rw [symG_flat sy hs]
    · rw [if_neg h64, if_pos (.inr (by omega))]
  rw [hS]
  by_cases h64 : sy.length ≤ 64
  · rw [if_pos h64]
    dsimp only
    have hR : relsN [⟨0, code.length, 5, code⟩, ⟨256, b.length, 1, b⟩] [(4, 256), (6, 264), (11, 16), (7, 264 + 16 * sy.length), (8, 12 * rl.length), (9, 12)] sy.length = if rl.length ≤ 64 ∧ (rl.map rlOf).all (rlB sy.length) = true then some (rl.map rlOf) else none := by
      unfold relsN
      rw [show valN [(4, 256), (6, 264), (11, 16), (7, 264 + 16 * sy.length), (8, 12 * rl.length), (9, 12)] 7 = some (264 + 16 * sy.length) by simp [valN], show valN [(4, 256), (6, 264), (11, 16), (7, 264 + 16 * sy.length), (8, 12 * rl.length), (9, 12)] 8 = some (12 * rl.length) by simp [valN], show valN [(4, 256), (6, 264), (11, 16), (7, 264 + 16 * sy.length), (8, 12 * rl.length), (9, 12)] 9 = some 12 by simp [valN]]
      dsimp only [Option.getD_some]
      by_cases hr64 : rl.length ≤ 64
      · rw [if_neg (by omega)]
        by_cases h0 : rl.length = 0
        · rw [if_pos (by omega), List.eq_nil_of_length_eq_zero h0]
          rfl
        · rw [if_neg (by omega), ad_tab hcl (by omega), if_pos (by omega), show 264 + 16 * sy.length - 256 = 8 + 16 * sy.length by omega, d3]
          dsimp only
          have hq : relG (rl.flatMap relB) (12 * rl.length / 12) = rl.map rlOf := by rw [show 12 * rl.length / 12 = rl.length by omega, relG_flat rl hr]
          change (if (relG (rl.flatMap relB) (12 * rl.length / 12)).all (rlB sy.length) = true then some (relG (rl.flatMap relB) (12 * rl.length / 12)) else none) = _
          rw [hq]
          by_cases ha : (rl.map rlOf).all (rlB sy.length) = true
          · rw [if_pos ha, if_pos ⟨hr64, ha⟩]
          · rw [if_neg ha, if_neg (fun h2 => ha h2.2)]
      · rw [if_pos (.inr (.inr (by omega))), if_neg (fun h2 => hr64 h2.1)]
    rw [hR]
    by_cases hx : rl.length ≤ 64 ∧ (rl.map rlOf).all (rlB sy.length) = true
    · rw [if_pos hx, if_pos ⟨h64, hx⟩]
    · rw [if_neg hx, if_neg (fun h2 => hx h2.2)]
  · rw [if_neg h64, if_neg (fun h2 => h64 h2.1)]
/-- a table of symbols that lies partly outside the file -/
theorem tab_more : readN (tabF [0, 0, 0, 0] 63 [0, 0, 0] [] (ownT 3 0)) = rdE 12 := by decide +kernel
end Go.Proofs.Ytfdoloonllhodaa
