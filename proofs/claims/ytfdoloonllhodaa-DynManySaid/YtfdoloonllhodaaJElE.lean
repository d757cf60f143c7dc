/-
Layer 8: rows of byte slices, old ones among them; Join over them; a file's bytes.
-/
import Derived.Test.YtfdoloonllhodaaJaE
import Derived.Test.YtfdoloonllhodaaJaD
namespace Go.Proofs.Ytfdoloonllhodaa
open Go Go.RowKit

/-- the value is a slice that reads as these bytes; it lies in memory older than B, or in a block of bytes -/
def RowX (B : Nat) (w : World) (v : Value) (bs : List UInt8) : Prop :=
  ∃ A n c, v = .slice A n c ∧ SlA w A n c bs ∧ (A = none → c = 0) ∧ ∀ b o s, A = some ⟨b, o, s⟩ → 0 < n → b < B ∨ ∃ cs fr, w.heap[b]? = some (Obj.cells cs 5 fr)
theorem RowB.x {B : Nat} {w : World} {v : Value} {bs : List UInt8} (h : RowB w v bs) : RowX B w v bs := by
  obtain ⟨A, n, c, e, hS, hA, ht⟩ := h
  exact ⟨A, n, c, e, hS, hA, fun b o s e h0 => .inr (ht b o s e h0)⟩
theorem RowX.keep {B : Nat} {w w' : World} {v : Value} {bs : List UInt8} (h : RowX B w v bs) (k : Kb B w w') : RowX B w' v bs := by
  obtain ⟨A, n, c, rfl, hS, hA, ht⟩ := h
  refine ⟨A, n, c, rfl, ⟨hS.1, hS.2.1, fun h0 => ?_⟩, hA, fun b o s e h0 => ?_⟩
  · obtain ⟨b, o, e, hlt, hc⟩ := hS.2.2 h0
    rcases ht b o none e h0 with hB | ⟨cs, fr, hb⟩
    · exact ⟨b, o, e, Nat.lt_of_lt_of_le hlt k.bel.size, fun j hj => (k.bel.cell (p := ⟨b, o + j, none⟩) hB).trans (hc j hj)⟩
    · obtain ⟨f2, h2, _⟩ := k.blk b cs _ fr hb (by decide)
      exact ⟨b, o, e, Nat.lt_of_lt_of_le hlt k.bel.size, fun j hj => (cell_cells hb h2).trans (hc j hj)⟩
  · rcases ht b o s e h0 with hB | ⟨cs, fr, hb⟩
    · exact .inl hB
    · obtain ⟨f2, h2, _⟩ := k.blk b cs _ fr hb (by decide)
      exact .inr ⟨cs, f2, h2⟩
theorem RowX.out {B : Nat} {w : World} {v : Value} {bs : List UInt8} (h : RowX B w v bs) : ∃ A n c, v = .slice A n c ∧ SlA w A n c bs ∧ (A = none → c = 0) := by
  obtain ⟨A, n, c, e, hS, hA, _⟩ := h
  exact ⟨A, n, c, e, hS, hA⟩
theorem rowX_one {B : Nat} {w : World} {v : Value} {bs : List UInt8} (h : RowX B w v bs) : v.oneCell' = true := by obtain ⟨A, n, c, rfl, _⟩ := h; rfl
/-- the row of slices that the call owns reads as these lists of bytes -/
def OutX (w : World) (B : Nat) (v : Value) (n : Nat) (bss : List (List UInt8)) : Prop :=
  ∃ vs : List Value, bss.length = n ∧ w.ownsRow B 22 1 v n vs ∧ ∀ j, j < n → ∃ x, vs[j]? = some x ∧ RowX B w x (bss.getD j [])
theorem OutB.x {w : World} {B : Nat} {v : Value} {n : Nat} {bss : List (List UInt8)} (h : OutB w B v n bss) : OutX w B v n bss := by
  obtain ⟨vs, hl, ho, hr⟩ := h
  refine ⟨vs, hl, ho, fun j hj => ?_⟩
  obtain ⟨x, h1, h2⟩ := hr j hj
  exact ⟨x, h1, h2.x⟩
theorem OutX.after {w w' : World} {B : Nat} {v : Value} {n : Nat} {bss : List (List UInt8)} (h : OutX w B v n bss) (hB : B ≤ w.heap.size) (k : Below w.heap.size w w') : OutX w' B v n bss := by
  obtain ⟨vs, hl, ho, hr⟩ := h
  refine ⟨vs, hl, own_after ho k, fun j hj => ?_⟩
  obtain ⟨x, h1, h2⟩ := hr j hj
  exact ⟨x, h1, h2.keep (Kb.of k hB)⟩
/-- append(v, x), x a slice of bytes -/
theorem wp_append_row {w : World} {ops : Array Oper} {rest : List Oper} {op : Oper} {a : Act} {Q : Exit → Act → World → Prop} (hgd : op.guard = none) (s x : Operand)
    (ho : op.op = .call { callee := .builtin .append, args := #[s, x], argTypes := #[53, 53] }) (B : Nat) (v : Value) (n : Nat) (bss : List (List UInt8)) (hs : a.eval s = v)
    (hO : OutX w B v n bss) (h : Nat) (hx : a.eval x = .slice (some ⟨h, 0, none⟩) 1 1) (u : Value) (b : List UInt8) (hH : Has w h 22 #[u]) (hu : RowX B w u b) (h63 : n + 1 ≤ 1000000) (hbase : B ≤ w.heap.size)
    (hK : ∀ v' w', OutX w' B v' (n + 1) (bss ++ [b]) → Kb B w w' → wpList Try.prog ops Q rest (a.put op.dst v') w') : wpList Try.prog ops Q (op :: rest) a w := by
  obtain ⟨vs, hl, hown, hr⟩ := hO
  refine wpList_plain hgd fun _ hK2 => wp_append_rows s x ho B v n vs hs hown h 1 hx [u] rfl hH (fun y hy => by rw [List.mem_singleton.1 hy]; exact rowX_one hu) h63 hbase fun v' w' h1 hg => hK2 _ _ (hK v' w' ?_ ?_)
  · have kb := own_kb hown (Nat.le_refl _) hbase hg
    have hvl : vs.length = n := by have := hown.1; omega
    refine ⟨vs ++ [u], by rw [List.length_append, hl]; rfl, h1, fun j hj => ?_⟩
    by_cases hjn : j < n
    · obtain ⟨y, h2, h3⟩ := hr j hjn
      refine ⟨y, by rw [List.getElem?_append_left (by omega)]; exact h2, ?_⟩
      rw [List.getD_eq_getElem?_getD, List.getElem?_append_left (by omega), ← List.getD_eq_getElem?_getD]
      exact h3.keep kb
    · obtain rfl : j = n := by omega
      refine ⟨u, by rw [List.getElem?_append_right (by omega), hvl]; simp, ?_⟩
      rw [List.getD_eq_getElem?_getD, List.getElem?_append_right (by omega), hl]
      simpa using hu.keep kb
  · exact own_kb hown (Nat.le_refl _) hbase hg
/-- the slice reads as these lists of bytes -/
def SlD (w : World) (s : Sl) (bss : List (List UInt8)) : Prop :=
  bss.length = s.n ∧ s.n ≤ 140737488355328 ∧ (0 < s.n → ∃ b o, s.A = some ⟨b, o, none⟩ ∧ b < w.heap.size ∧ ∀ j, j < s.n → ∃ A n c, w.cell? ⟨b, o + j, none⟩ = some (.slice A n c) ∧ SlA w A n c (bss.getD j []) ∧ (A = none → c = 0))
theorem SlD.below {w w' : World} {s : Sl} {bss : List (List UInt8)} (h : SlD w s bss) (k : Below w.heap.size w w') : SlD w' s bss := by
  refine ⟨h.1, h.2.1, fun h0 => ?_⟩
  obtain ⟨b, o, e, hlt, hc⟩ := h.2.2 h0
  refine ⟨b, o, e, Nat.lt_of_lt_of_le hlt k.size, fun j hj => ?_⟩
  obtain ⟨A, n, c, h1, h2, h3⟩ := hc j hj
  exact ⟨A, n, c, (k.cell (p := ⟨b, o + j, none⟩) hlt).trans h1, h2.below k, h3⟩
theorem slA_x {w : World} {A : Option Addr} {n c : Nat} {bs : List UInt8} (h : SlA w A n c bs) (hA : A = none → c = 0) : RowX w.heap.size w (.slice A n c) bs :=
  ⟨A, n, c, rfl, h, hA, fun b o s e h0 => by
    obtain ⟨b', o', e', hlt, _⟩ := h.2.2 h0
    rw [e] at e'
    injection e' with e'
    injection e' with e1 _ _
    exact .inl (by rw [e1]; exact hlt)⟩
theorem OutX.slD {w : World} {B n c : Nat} {A : Option Addr} {bss : List (List UInt8)} (h : OutX w B (.slice A n c) n bss) (hn : n ≤ 140737488355328) : SlD w ⟨A, n, c⟩ bss := by
  obtain ⟨vs, hl, ho, hr⟩ := h
  refine ⟨hl, hn, fun h0 => ?_⟩
  replace h0 : 0 < n := h0
  rcases ho.2 with ⟨_, h1⟩ | ⟨g, cap, cur, hv, _, hg, _⟩
  · omega
  · have e1 : A = some ⟨g, 0, none⟩ := by injection hv
    subst e1
    have hc := ho.cells (g := g) rfl
    refine ⟨g, 0, rfl, (Array.getElem?_eq_some_iff.1 hg).1, fun j hj => ?_⟩
    obtain ⟨x, h1, h2⟩ := hr j hj
    obtain ⟨A', n', c', e, h3, h4⟩ := h2.out
    have := hc j x h1
    rw [Addr.add_mid] at this
    exact ⟨A', n', c', this.trans (congrArg some e), h3, h4⟩
theorem own_cap {w : World} {base size n m c : Nat} {t : TypeId} {A : Option Addr} {xs : List Value} (h : w.ownsRow base t size (.slice A m c) n xs) : c < 9223372036854775808 := by
  rcases h.2 with ⟨hv, _⟩ | ⟨g, cap, cur, hv, _, _, _, hm, _⟩
  · have : c = 0 := by injection hv
    omega
  · have : c = cap := by injection hv
    simp only [maxLen] at hm
    omega
set_option maxRecDepth 100000 in
set_option maxHeartbeats 1000000 in
theorem join_x (s : Sl) (bss : List (List UInt8)) (w : World) (hs : SlD w s bss) (hl : bss.flatten.length ≤ 1000000) :
    Calls Try.prog 19 #[s.v] w fun e w' => (∃ A n c, e = .returned (.slice A n c) ∧ RowB w' (.slice A n c) bss.flatten ∧ c < 9223372036854775808) ∧ Below w.heap.size w w' := by
  obtain ⟨A, n, c, rfl⟩ := s.out
  obtain ⟨hbl, hnl, hc⟩ := hs
  replace hbl : bss.length = n := hbl
  replace hnl : n ≤ 140737488355328 := hnl
  rw [show Sl.v ⟨A, n, c⟩ = .slice A n c from rfl]
  have HC := Lib.hid hc
  have HBL := Lib.hid hbl
  clear hc hbl
  go_enter Try.func19, Try.ntmps19
  go_wp2_with fail
  go_loopw [3, 4] (fun va ct wr => ∃ i m : Nat, i ≤ n ∧ ct = .int .i64 (i : Int) ∧ m = (bss.take i).flatten.length ∧ wr.ownsRow w.heap.size 5 1 va m ((bss.take i).flatten.map by8) ∧ Below w.heap.size w wr) (fun _ ct _ => (n - (intOf ct)).toNat)
  case atStart => exact ⟨0, 0, Nat.zero_le _, rfl, rfl, World.ownsRow_nil _ _ _ _, Below.refl _ _⟩
  case round =>
    obtain ⟨i, m, hi, rfl, hm, hown, hb⟩ := hrel
    by_cases hlt : i < n
    · have di : (i : Int) < (n : Int) := by omega
      have hws := hb.size
      obtain ⟨b, o, hA, hbl, hcs⟩ := HC.out (by show 0 < n; omega)
      replace hA : A = some ⟨b, o, none⟩ := hA
      subst hA
      obtain ⟨A1, n1, c1, hcell, hS1, hA1⟩ := hcs i hlt
      replace hcell := (hb.cell (p := ⟨b, o + i, none⟩) hbl).trans hcell
      replace hS1 := hS1.below hb
      have hft := flat_take bss i (by rw [HBL.out]; exact hlt)
      have hfl := flat_le bss (i + 1)
      have hx1 := Addr.add_mid b o i
      rw [hft, List.length_append] at hfl
      have hln := hS1.1
      have HFT := Lib.hid hft
      have HM := Lib.hid hm
      have hbd : m + n1 ≤ 1000000 := by omega
      have HB := Lib.hid hb
      have HS := Lib.hid hS1
      have HLN := Lib.hid hln
      clear hcs hft hm hb hfl hS1 hln
      go_wp2_with (
        refine wp_append_bytes rfl _ _ rfl w.heap.size _ m _ rfl hown A1 n1 c1 rfl _ HS.out hA1 hbd hws ?_
        intro v' w' hown' hgr')
      go_roundw
      case rel =>
        refine ⟨i + 1, m + n1, hlt, by go_num, ?_, ?_, below_own HB.out hown (Nat.le_refl _) hws hgr'⟩
        · rw [HFT.out, List.length_append, ← HM.out, HLN.out]
        · rw [HFT.out, List.map_append]; exact hown'
      case measure => simp [intOf] <;> omega
    · obtain rfl : i = n := by omega
      have htk : bss.take i = bss := List.take_of_length_le (by rw [HBL.out]; exact Nat.le_refl _)
      rw [htk] at hown
      have HOWN := Lib.hid hown
      clear htk hown hm
      obtain ⟨Az, cz, rfl⟩ := own_form HOWN.out
      go_wp2_with fail
      go_ret
      exact ⟨⟨_, _, _, rfl, own_rowB HOWN.out, own_cap HOWN.out⟩, hb⟩
/-- the file header's parts -/
def zeros6 : List UInt8 := [0, 0, 0, 0, 0, 0]
def hdL (en n : Nat) : List (List UInt8) := [ident16, leB 2 3, leB 2 243, leB 4 1, leB 4 en, leB 4 52, leB 4 0, leB 4 0, leB 2 52, leB 2 32, leB 2 n, zeros6]
def flN (r : Nat) : Nat := r / 4 + r / 2 % 2 * 2 + r % 2 * 4
/-- a program header's numbers -/
def xN (h : Hd) (a l : Nat) : Nat → Nat
  | 0 => h.k
  | 1 => a
  | 2 => h.d
  | 3 => h.d
  | 4 => l
  | 5 => h.m
  | 6 => flN h.r
  | _ => 4
def phL (h : Hd) (a l : Nat) : List (List UInt8) := (List.range 8).map fun k => leB 4 (xN h a l k)
/-- where the i-th contents stand -/
def atN (bss : List (List UInt8)) (n i : Nat) : Nat := 52 + 32 * n + (bss.take i).flatten.length
def phs (hs : List Hd) (bss : List (List UInt8)) (i : Nat) : List (List UInt8) := (List.range i).flatMap fun j => phL (hs.getD j hd0) (atN bss hs.length j) (bss.getD j []).length
def fileL (en : Nat) (hs : List Hd) (bss : List (List UInt8)) (i j : Nat) : List (List UInt8) := hdL en hs.length ++ phs hs bss i ++ bss.take j
/-- a file's bytes -/
def fileN (en : Nat) (hs : List Hd) (bss : List (List UInt8)) : List UInt8 := (fileL en hs bss hs.length bss.length).flatten
theorem phL_len (h : Hd) (a l : Nat) : (phL h a l).length = 8 := by simp [phL]
theorem phs_len (hs : List Hd) (bss : List (List UInt8)) : ∀ i, (phs hs bss i).length = 8 * i
  | 0 => rfl
  | i + 1 => by
    unfold phs
    rw [List.range_succ, List.flatMap_append, List.length_append]
    have := phs_len hs bss i
    unfold phs at this
    rw [this]
    simp [phL_len]; omega
theorem phs_succ (hs : List Hd) (bss : List (List UInt8)) (i : Nat) : phs hs bss (i + 1) = phs hs bss i ++ phL (hs.getD i hd0) (atN bss hs.length i) (bss.getD i []).length := by
  unfold phs
  rw [List.range_succ, List.flatMap_append]
  simp
theorem phL_take (h : Hd) (a l k : Nat) (hk : k < 8) : (phL h a l).take (k + 1) = (phL h a l).take k ++ [leB 4 (xN h a l k)] := by
  rw [take_one _ [] k (by rw [phL_len]; exact hk)]
  congr 2
  unfold phL
  simp [List.getD_eq_getElem?_getD, hk]
theorem atN_succ (bss : List (List UInt8)) (n i : Nat) (h : i < bss.length) : atN bss n (i + 1) = atN bss n i + (bss.getD i []).length := by
  unfold atN
  rw [flat_take bss i h, List.length_append]; omega
theorem phL_flat (h : Hd) (a l : Nat) : (phL h a l).flatten.length = 32 := by
  simp [phL, leB_len, List.range_succ]
theorem phs_flat (hs : List Hd) (bss : List (List UInt8)) : ∀ i, (phs hs bss i).flatten.length = 32 * i
  | 0 => rfl
  | i + 1 => by rw [phs_succ, List.flatten_append, List.length_append, phs_flat hs bss i, phL_flat]; omega
theorem hdL_flat (en n : Nat) : (hdL en n).flatten.length = 52 := by
  simp [hdL, leB_len, ident16, zeros6]
theorem fileN_len (en : Nat) (hs : List Hd) (bss : List (List UInt8)) : (fileN en hs bss).length = 52 + 32 * hs.length + bss.flatten.length := by
  unfold fileN fileL
  rw [List.take_of_length_le (Nat.le_refl _), List.flatten_append, List.flatten_append, List.length_append, List.length_append, hdL_flat, phs_flat]
end Go.Proofs.Ytfdoloonllhodaa
