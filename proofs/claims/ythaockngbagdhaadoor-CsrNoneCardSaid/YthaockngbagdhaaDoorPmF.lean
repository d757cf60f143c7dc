/-
Layer 12: the reference's Plan.
-/
import Derived.Test.YthaockngbagdhaaDoorPmE
namespace Go.Proofs.YthaockngbagdhaaDoor.Pm
open Go Go.RowKit

/-- a row of two elements -/
theorem wp_build_el2 {α : Type} {f : α → Nat → Value} {P : Program} {st e : TypeId} {k by' : Nat} {z : Value} (hu : P.underlying st = some (.slice e)) (hinfo : (P.info? e).map (fun i => (i.zero, i.size, i.bytes)) = some (some z, k, by')) (hk : 0 < k) (hk2 : k ≤ 1000)
    {w : World} {ops : Array Oper} {rest : List Oper} {o : Oper} {a : Act} {Q : Exit → Act → World → Prop} (hg : o.guard = none) (x y : Operand) (ho : o.op = .buildSlice st 2 #[(0, x), (1, y)]) (q r : α) (hx : a.eval x = .agg (tab k (f q))) (hy : a.eval y = .agg (tab k (f r)))
    (h : ∀ w', w' = w.alloc (.cells (cellsL k f [q, r]).toArray e) → wpList P ops Q rest (a.put o.dst (.slice (some ⟨w.heap.size, 0, none⟩) 2 2)) w') : wpList P ops Q (o :: rest) a w := by
  obtain ⟨i5, hi5, hz5, hs5, hb5⟩ := info_parts hinfo
  refine wpList_buildSlice hg st e 2 #[(0, x), (1, y)] ho (cellsL k f [q, r]).toArray i5 _ hu hi5 hz5 (by rw [hs5]; omega) (by rw [hs5]; omega) ?_ (h _ rfl)
  rw [hs5]
  simp only [List.map_toArray, List.map_cons, List.map_nil, hx, hy]
  refine (Great.fill_whole (s := k) hk [.agg (tab k (f q)), .agg (tab k (f r))] _ (fun v hv => by
    rcases List.mem_cons.1 hv with rfl | hv
    · exact tab_size _ _
    · rw [List.mem_singleton.1 hv]; exact tab_size _ _) (by simp)).trans ?_
  simp [Value.cells, cellsL, tab]
theorem cells_one (q : En) : tab 3 (enV q) = (cellsL 3 enV [q]).toArray := rfl
theorem below_app {w wa w5 : World} {o : Obj} {e : TypeId} {k n : Nat} {v : Value} {xs : List Value} (hb : Below w.heap.size w wa) (hown : wa.ownsRow w.heap.size e k v n xs) (hgr : (wa.alloc o).grownBy w5 v.ownBlock) : Below w.heap.size w w5 := by
  have h1 : Below wa.heap.size wa (wa.alloc o) := (Below.refl _ _).alloc (Nat.le_refl _) _
  have h2 := hb.trans (h1.mono hb.size)
  exact below_own h2 (own_after hown h1) (Nat.le_refl _) h2.size hgr
def planN (gs : List Gr) : List En × Nat := if gs.all okG = true then (if 16 < (planE gs).length then ([], 15) else (planE gs, 0)) else ([], 1)
theorem wp_load_entry {w : World} {ops : Array Oper} {rest : List Oper} {op : Oper} {a : Act} {Q : Exit → Act → World → Prop} (hgd : op.guard = none) (x : Operand) (ho : op.op = .load 38 x)
    (b o : Nat) (hx : a.eval x = .pointer (some ⟨b, o, none⟩)) (g : En) (hc : w.rangeAt b o ((List.range 3).map (enV g))) (h : wpList Tryd.prog ops Q rest (a.put op.dst (.agg #[.int .i64 g.w, .int .i64 g.r, .int .u32 (g.a : Int)])) w) : wpList Tryd.prog ops Q (op :: rest) a w :=
  wpList_load_mid hgd 38 x ho b o hx _ _ hc Tryd.underlying38 rfl (by simpa using infoE) h
theorem size_alloc1 (w : World) (o : Obj) : (w.alloc o).heap.size = w.heap.size + 1 := Array.size_push _
theorem one_new (w : World) (u : Array Value) (t : TypeId) : ∃ wa, wa = w.alloc (.cells u t) ∧ Has wa w.heap.size t u ∧ Below w.heap.size w wa ∧ wa.heap.size = w.heap.size + 1 :=
  ⟨_, rfl, Has.new w t u, (Below.refl _ _).alloc (Nat.le_refl _) _, size_alloc1 w _⟩
theorem own_sl {w : World} {base n k : Nat} {e : TypeId} {v : Value} {xs : List Value} (h : w.ownsRow base e k v n xs) : ∃ A c, v = .slice A n c := by
  rcases h.2 with ⟨rfl, h0⟩ | ⟨g, cap, cur, hv, _⟩
  · subst h0; exact ⟨none, 0, rfl⟩
  · exact ⟨_, cap, hv⟩
theorem ents_wf (gs : List Gr) (hg : ∀ g ∈ gs, g.Wf) (hk : gs.all okG = true) : ∀ e ∈ entsG gs, e.Wf := by
  induction gs with
  | nil => intro e h; cases h
  | cons g l ih =>
    intro e he
    have hw := hg g (List.mem_cons_self ..)
    have hs := hw.s
    have hz := hw.z
    have hr := hw.r
    obtain ⟨k1, k2, k3, k4, k5, k6⟩ := okG_parts (List.all_eq_true.1 hk g (List.mem_cons_self ..))
    have hk2 : l.all okG = true := List.all_eq_true.2 fun x hx => List.all_eq_true.1 hk x (List.mem_cons_of_mem _ hx)
    have i3 : ∀ z : Int, 0 ≤ z → z ≤ 7 → i64ok z := fun z h1 h2 => by unfold i64ok; omega
    rcases List.mem_append.1 (show e ∈ entG g ++ entsG l from he) with h | h
    · unfold entG at h
      split at h
      · rw [List.mem_singleton.1 h]; exact ⟨i3 2 (by decide) (by decide), hr, by show g.s / 4 < _; omega⟩
      · split at h
        · rw [List.mem_singleton.1 h]; exact ⟨i3 3 (by decide) (by decide), hr, by show g.s / 4 + g.z / 8 - 1 < _; omega⟩
        · rcases List.mem_cons.1 h with rfl | h
          · exact ⟨i3 0 (by decide) (by decide), i3 0 (by decide) (by decide), by show g.s / 4 < _; omega⟩
          · rw [List.mem_singleton.1 h]; exact ⟨i3 1 (by decide) (by decide), hr, by show (g.s + g.z) / 4 < _; omega⟩
    · exact ih (fun x hx => hg x (List.mem_cons_of_mem _ hx)) hk2 e h
theorem plan_wf (gs : List Gr) (hg : ∀ g ∈ gs, g.Wf) (hk : gs.all okG = true) : ∀ e ∈ planE gs, e.Wf := by
  intro e he
  rcases List.mem_append.1 (show e ∈ entsG gs ++ [lastE] from he) with h | h
  · exact ents_wf gs hg hk e h
  · rw [List.mem_singleton.1 h]; exact ⟨by unfold i64ok; decide, by unfold i64ok; decide, by decide⟩
theorem planN_bad {gs : List Gr} {i : Nat} (hi : i < gs.length) (h : okG (gs.getD i gr0) = false) : planN gs = ([], 1) := by
  unfold planN
  have : ¬ gs.all okG = true := fun h2 => by
    have h3 := List.all_eq_true.1 h2 (gs.getD i gr0) (by rw [List.getD_eq_getElem?_getD, List.getElem?_eq_getElem hi]; exact List.getElem_mem hi)
    rw [h] at h3; cases h3
  rw [if_neg this]
theorem slE_nil (w : World) : SlE w ⟨none, 0, 0⟩ [] := ⟨rfl, ⟨⟨Nat.le_refl _, Nat.zero_le _⟩, fun h => absurd h (Nat.lt_irrefl _)⟩, fun e h => by cases h⟩
theorem okG_no {g : Gr} (h : ¬(g.s % 4 = 0 ∧ g.z % 4 = 0 ∧ g.z ≠ 0 ∧ g.s + g.z ≤ 4294967296 ∧ 1 ≤ g.r ∧ g.r ≤ 7)) : okG g = false := by
  cases h2 : okG g with
  | false => rfl
  | true => exact absurd (okG_parts h2) h
/-- has the element's row of the power of two been reached: what the loop says -/
theorem pow_end {z k : Nat} (h1 : ∀ j, j < k → 4 * 2 ^ j < z) (h2 : z ≤ 4 * 2 ^ k) (hk : k ≤ 30) : (4 * 2 ^ k = z) = (powB z = true) := by
  refine propext ⟨fun h => ?_, fun h => ?_⟩
  · unfold powB
    exact List.any_eq_true.2 ⟨k, List.mem_range.2 (by omega), decide_eq_true h.symm⟩
  · unfold powB at h
    obtain ⟨j, _, hj⟩ := List.any_eq_true.1 h
    have hj := of_decide_eq_true hj
    rcases Nat.lt_trichotomy j k with h3 | h3 | h3
    · have := h1 j h3; omega
    · rw [← h3, hj]
    · have : 2 ^ (k + 1) ≤ 2 ^ j := Nat.pow_le_pow_right (by decide) h3
      rw [Nat.pow_succ] at this
      have := Nat.two_pow_pos k
      omega
theorem entsG_app (a b : List Gr) : entsG (a ++ b) = entsG a ++ entsG b := by
  induction a with
  | nil => rfl
  | cons g l ih => show entG g ++ entsG (l ++ b) = (entG g ++ entsG l) ++ entsG b; rw [ih, List.append_assoc]
theorem take_succ (gs : List Gr) (i : Nat) (hi : i < gs.length) : gs.take (i + 1) = gs.take i ++ [gs.getD i gr0] := by
  rw [List.take_succ_eq_append_getElem hi]
  simp [List.getD_eq_getElem?_getD, hi]
theorem ents_succ (gs : List Gr) (i : Nat) (hi : i < gs.length) : entsG (gs.take (i + 1)) = entsG (gs.take i) ++ entG (gs.getD i gr0) := by
  rw [take_succ gs i hi, entsG_app]
  show entsG (gs.take i) ++ (entG _ ++ []) = _
  rw [List.append_nil]
theorem entG_len (g : Gr) : (entG g).length ≤ 2 := by
  unfold entG
  split
  · simp
  · split <;> simp
theorem ents_len (gs : List Gr) : (entsG gs).length ≤ 2 * gs.length := by
  induction gs with
  | nil => exact Nat.le_refl _
  | cons g l ih =>
    show (entG g ++ entsG l).length ≤ 2 * (l.length + 1)
    have := entG_len g
    rw [List.length_append]
    omega
end Go.Proofs.YthaockngbagdhaaDoor.Pm
