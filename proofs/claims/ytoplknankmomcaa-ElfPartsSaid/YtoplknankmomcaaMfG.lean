/-
Layer 6's reference: Put and Join; lists of bytes, lists of such lists.
-/
import Derived.Test.YtoplknankmomcaaMfD
import Derived.Test.YtoplknankmomcaaByA
namespace Go.Proofs.Ytoplknankmomcaa
open Go Go.RowKit

/-- the value is a slice that reads as these bytes -/
def RowB (w : World) (v : Value) (bs : List UInt8) : Prop :=
  ∃ A n c, v = .slice A n c ∧ SlA w A n c bs ∧ (A = none → c = 0) ∧ ∀ b o s, A = some ⟨b, o, s⟩ → 0 < n → ∃ cs fr, w.heap[b]? = some (Obj.cells cs 5 fr)
/-- what may happen beside: blocks of bytes may be marked, rows of slices written; all else stays -/
structure Kb (B : Nat) (w w' : World) : Prop where
  bel : Below B w w'
  blk : ∀ (b : Nat) (cs : Array Value) (t : TypeId) (fr : Nat × Nat), w.heap[b]? = some (Obj.cells cs t fr) → t ≠ 25 → ∃ fr', w'.heap[b]? = some (Obj.cells cs t fr') ∧ (t ≠ 5 → fr' = fr)
theorem Kb.refl (B : Nat) (w : World) : Kb B w w := ⟨Below.refl _ _, fun _ _ _ fr h _ => ⟨fr, h, fun _ => rfl⟩⟩
theorem Kb.trans {B : Nat} {a b c : World} (h : Kb B a b) (k : Kb B b c) : Kb B a c := ⟨h.bel.trans k.bel, fun i cs t fr hi ht => by
  obtain ⟨f1, h1, e1⟩ := h.blk i cs t fr hi ht
  obtain ⟨f2, h2, e2⟩ := k.blk i cs t f1 h1 ht
  exact ⟨f2, h2, fun h5 => (e2 h5).trans (e1 h5)⟩⟩
theorem Kb.of {B : Nat} {w w' : World} (h : Below w.heap.size w w') (hB : B ≤ w.heap.size) : Kb B w w' := ⟨h.mono hB, fun i _cs _t fr hi _ => ⟨fr, (h.block i (Array.getElem?_eq_some_iff.1 hi).1).trans hi, fun _ => rfl⟩⟩
theorem Kb.has {B g : Nat} {w w' : World} {t : TypeId} {cs : Array Value} (h : Kb B w w') (hG : Has w g t cs) (h1 : t ≠ 25) (h2 : t ≠ 5) : Has w' g t cs := by
  obtain ⟨f, h3, e⟩ := h.blk g cs t (0, 0) hG h1
  rw [e h2] at h3
  exact h3
theorem cell_cells {w w' : World} {b o : Nat} {cs : Array Value} {t : TypeId} {f f' : Nat × Nat} (h : w.heap[b]? = some (Obj.cells cs t f)) (h' : w'.heap[b]? = some (Obj.cells cs t f')) : w'.cell? ⟨b, o, none⟩ = w.cell? ⟨b, o, none⟩ := by
  unfold World.cell?
  dsimp only
  rw [h, h']
theorem RowB.keep {B : Nat} {w w' : World} {v : Value} {bs : List UInt8} (h : RowB w v bs) (k : Kb B w w') : RowB w' v bs := by
  obtain ⟨A, n, c, rfl, hS, hA, ht⟩ := h
  refine ⟨A, n, c, rfl, ⟨hS.1, hS.2.1, fun h0 => ?_⟩, hA, fun b o s e h0 => ?_⟩
  · obtain ⟨b, o, e, hlt, hc⟩ := hS.2.2 h0
    obtain ⟨cs, fr, hb⟩ := ht b o none e h0
    obtain ⟨f2, h2, _⟩ := k.blk b cs _ fr hb (by decide)
    exact ⟨b, o, e, Nat.lt_of_lt_of_le hlt k.bel.size, fun j hj => (cell_cells hb h2).trans (hc j hj)⟩
  · obtain ⟨cs, fr, hb⟩ := ht b o s e h0
    obtain ⟨f2, h2, _⟩ := k.blk b cs _ fr hb (by decide)
    exact ⟨cs, f2, h2⟩
theorem own_rowB {w : World} {base n : Nat} {v : Value} {bs : List UInt8} (h : w.ownsRow base 5 1 v n (bs.map by8)) : RowB w v bs := by
  obtain ⟨A, c, rfl⟩ := own_form h
  obtain ⟨hS, hA⟩ := own_slA h
  refine ⟨A, n, c, rfl, hS, hA, fun b o s e h0 => ?_⟩
  rcases h.2 with ⟨hv, _⟩ | ⟨g, cap, cur, hv, hb, hg, _⟩
  · injection hv with hv _ _
    rw [hv] at e
    cases e
  · have e1 : A = some ⟨g, 0, none⟩ := by injection hv
    rw [e1] at e
    injection e with e
    injection e with e2 _ _
    subst e2
    exact ⟨cur, (0, 0), hg⟩
theorem leB_snoc (m x : Nat) : leB (m + 1) x = leB m x ++ [UInt8.ofNat (x / 256 ^ m)] := by
  unfold leB
  rw [List.range_succ, List.map_append]
  rfl
theorem leB_len (m x : Nat) : (leB m x).length = m := by simp [leB]
theorem byte_at (x i : Nat) : Value.int .u8 ((x : Int) / 2 ^ (8 * i) % 256) = by8 (UInt8.ofNat (x / 256 ^ i)) := by
  have h256 : (256 : Nat) ^ i = 2 ^ (8 * i) := by rw [Nat.pow_mul]
  unfold by8
  rw [UInt8.toNat_ofNat', h256]
  congr 1
set_option maxRecDepth 100000 in
set_option maxHeartbeats 1000000 in
theorem put_any (n x : Nat) (w : World) (hn : n ≤ 7) (_hx : x < 9223372036854775808) :
    Calls Try.prog 22 #[.int .i64 (n : Int), .int .i64 (x : Int)] w fun e w' => (∃ v, e = .returned v ∧ RowB w' v (leB n x)) ∧ Below w.heap.size w w' := by
  go_enter Try.func22, Try.ntmps22
  go_wp2_with fail
  go_loopw [5, 6] (fun va ct wr => ∃ i : Nat, i ≤ n ∧ ct = .int .i64 (i : Int) ∧ wr.ownsRow w.heap.size 5 1 va i ((leB i x).map by8) ∧ Below w.heap.size w wr) (fun _ ct _ => (n - (intOf ct)).toNat)
  case atStart => exact ⟨0, Nat.zero_le _, rfl, World.ownsRow_nil _ _ _ _, Below.refl _ _⟩
  case round =>
    obtain ⟨i, hi, rfl, hown, hb⟩ := hrel
    by_cases hlt : i < n
    · have di : (i : Int) < (n : Int) := by omega
      have hws := hb.size
      have HB := Lib.hid hb
      have HOWN := Lib.hid hown
      have hbt := byte_at x i
      have HBT := Lib.hid hbt
      clear hbt hown hb
      go_wp2_with (
        refine wp_append_byte rfl _ _ rfl w.heap.size _ i _ rfl (own_after HOWN.out ((Below.refl _ _).alloc (Nat.le_refl _) _)) wr.heap.size rfl (UInt8.ofNat (x / 256 ^ i)) (((Has.new _ _ _).cell 0).trans (congrArg some HBT.out)) (by omega) (by simp; omega) ?_
        intro v' w' hown' hgr')
      go_roundw
      case rel =>
        refine ⟨i + 1, hlt, by go_num, ?_, ?_⟩
        · rw [leB_snoc, List.map_append]
          exact hown'
        · have hb1 : Below w.heap.size w (wr.alloc (.cells #[.int .u8 ((x : Int) / 2 ^ (8 * i) % 256)] 5)) := HB.out.alloc hws _
          exact below_own hb1 (own_after HOWN.out ((Below.refl _ _).alloc (Nat.le_refl _) _)) (Nat.le_refl _) hb1.size hgr'
      case measure => simp [intOf] <;> omega
    · obtain rfl : i = n := by omega
      go_wp2_with fail
      go_ret
      exact ⟨⟨_, rfl, own_rowB hown⟩, hb⟩
/-- the slice reads as these lists of bytes -/
def SlB (w : World) (s : Sl) (bss : List (List UInt8)) : Prop :=
  bss.length = s.n ∧ s.n ≤ 140737488355328 ∧ (0 < s.n → ∃ b o, s.A = some ⟨b, o, none⟩ ∧ b < w.heap.size ∧ ∀ j, j < s.n → ∃ v, w.cell? ⟨b, o + j, none⟩ = some v ∧ RowB w v (bss.getD j []))
theorem flat_take (bss : List (List UInt8)) (i : Nat) (h : i < bss.length) : (bss.take (i + 1)).flatten = (bss.take i).flatten ++ bss.getD i [] := by
  rw [List.take_add_one, List.flatten_append, List.getD_eq_getElem?_getD, List.getElem?_eq_getElem h]
  simp
theorem flat_le (bss : List (List UInt8)) (i : Nat) : (bss.take i).flatten.length ≤ bss.flatten.length := by
  conv => rhs; rw [← List.take_append_drop i bss, List.flatten_append, List.length_append]
  omega
set_option maxRecDepth 100000 in
set_option maxHeartbeats 1000000 in
theorem join_any (s : Sl) (bss : List (List UInt8)) (w : World) (hs : SlB w s bss) (hl : bss.flatten.length ≤ 1000000) :
    Calls Try.prog 23 #[s.v] w fun e w' => (∃ v, e = .returned v ∧ RowB w' v bss.flatten) ∧ Below w.heap.size w w' := by
  obtain ⟨A, n, c, rfl⟩ := s.out
  obtain ⟨hbl, hnl, hc⟩ := hs
  replace hbl : bss.length = n := hbl
  replace hnl : n ≤ 140737488355328 := hnl
  rw [show Sl.v ⟨A, n, c⟩ = .slice A n c from rfl]
  have HC := Lib.hid hc
  have HBL := Lib.hid hbl
  clear hc hbl
  go_enter Try.func23, Try.ntmps23
  go_wp2_with fail
  go_loopw [3, 4] (fun va ct wr => ∃ i m : Nat, i ≤ n ∧ ct = .int .i64 (i : Int) ∧ m = (bss.take i).flatten.length ∧ wr.ownsRow w.heap.size 5 1 va m ((bss.take i).flatten.map by8) ∧ Below w.heap.size w wr) (fun _ ct _ => (n - (intOf ct)).toNat)
  case atStart => exact ⟨0, 0, Nat.zero_le _, rfl, rfl, World.ownsRow_nil _ _ _ _, Below.refl _ _⟩
  case round =>
    obtain ⟨i, m, hi, rfl, hm, hown, hb⟩ := hrel
    by_cases hlt : i < n
    · have di : (i : Int) < (n : Int) := by omega
      have hws := hb.size
      obtain ⟨b, o, hA, hbl, hcs⟩ := HC.out (by show 0 < n; omega)
      replace hA : A = some ⟨b, o, none⟩ := hA
      subst hA
      obtain ⟨v, hcell, hrow⟩ := hcs i hlt
      replace hcell := (hb.cell (p := ⟨b, o + i, none⟩) hbl).trans hcell
      replace hrow := hrow.keep (Kb.of hb (Nat.le_refl _))
      obtain ⟨A1, n1, c1, rfl, hS1, hA1, _⟩ := hrow
      have hft := flat_take bss i (by rw [HBL.out]; exact hlt)
      have hfl := flat_le bss (i + 1)
      have hx1 := Addr.add_mid b o i
      rw [hft, List.length_append] at hfl
      have hln := hS1.1
      have HFT := Lib.hid hft
      have HM := Lib.hid hm
      have hbd : m + n1 ≤ 1000000 := by omega
      have HB := Lib.hid hb
      have HS := Lib.hid hS1
      have HLN := Lib.hid hln
      clear hcs hft hm hb hfl hS1 hln
      go_wp2_with (
        refine wp_append_bytes rfl _ _ rfl w.heap.size _ m _ rfl hown A1 n1 c1 rfl _ HS.out hA1 hbd hws ?_
        intro v' w' hown' hgr')
      go_roundw
      case rel =>
        refine ⟨i + 1, m + n1, hlt, by go_num, ?_, ?_, below_own HB.out hown (Nat.le_refl _) hws hgr'⟩
        · rw [HFT.out, List.length_append, ← HM.out, HLN.out]
        · rw [HFT.out, List.map_append]; exact hown'
      case measure => simp [intOf] <;> omega
    · obtain rfl : i = n := by omega
      have htk : bss.take i = bss := List.take_of_length_le (by rw [HBL.out]; exact Nat.le_refl _)
      rw [htk] at hown
      have HOWN := Lib.hid hown
      clear htk hown hm
      go_wp2_with fail
      go_ret
      exact ⟨⟨_, rfl, own_rowB HOWN.out⟩, hb⟩
end Go.Proofs.Ytoplknankmomcaa
