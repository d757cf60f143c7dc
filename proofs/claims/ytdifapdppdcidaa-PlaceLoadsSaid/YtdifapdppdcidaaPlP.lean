/-
Layer 10, PlaceLoads: the law's walk, its parts.
-/
import Derived.Test.YtdifapdppdcidaaPlO
import Derived.Laws.BytesArg
namespace Go.Proofs.Ytdifapdppdcidaa
open Go Go.RowKit

/-- how long the first i segments are -/
def wX (xs : List Sx) : Nat → Nat
  | 0 => 0
  | i + 1 => wX xs i + (1 + (xs.getD i sx0).b.length)
theorem wX_mono (xs : List Sx) : ∀ {i j : Nat}, i ≤ j → wX xs i ≤ wX xs j
  | i, 0, h => by rw [show i = 0 by omega]; exact Nat.le_refl _
  | i, j + 1, h => by
    by_cases e : i = j + 1
    · rw [e]; exact Nat.le_refl _
    · have := wX_mono xs (show i ≤ j by omega)
      show wX xs i ≤ wX xs j + _
      omega
/-- where a segment is loaded -/
def spOf (bias : Nat) (x : Sx) : Gr := ⟨(bias + x.d) % 4294967296, x.z, x.r⟩
def spsOf (bias : Nat) (xs : List Sx) : List Gr := xs.map (spOf bias)
theorem spsOf_get (bias : Nat) (xs : List Sx) (i : Nat) (h : i < xs.length) : (spsOf bias xs).getD i gr0 = spOf bias (xs.getD i sx0) := by
  unfold spsOf
  simp [List.getD_eq_getElem?_getD, h]
theorem fitB_sp (bias : Nat) (x : Sx) : fitB x (spOf bias x) = (decide (x.b.length ≤ x.z) && inR ((bias + x.d) % 4294967296) x.z) := by
  unfold fitB spOf
  simp
/-- the rows of bytes that the law fills -/
def fillM (y : UInt8) (i j : Nat) : UInt8 := if j < i then y else 0
theorem RamP.congr {w : World} {g : Nat} {m m' : Nat → UInt8} (h : RamP w g m) (he : ∀ j, j < 65536 → m j = m' j) : RamP w g m' := by
  obtain ⟨N, hN, h⟩ := h
  refine ⟨N, hN, ?_⟩
  rw [← tab_ext N (memV m) (memV m') fun j hj => by unfold memV; rw [he j (by omega)]]
  exact h
/-- a row of bytes of the law's own, as large as RAM -/
def RowP (w : World) (g : Nat) (m : Nat → UInt8) : Prop := ∃ N, N = 65536 ∧ Has w g 5 (tab N (memV m))
section
variable {w w' : World} {g : Nat} {m : Nat → UInt8}
theorem RowP.lt (h : RowP w g m) : g < w.heap.size := by obtain ⟨N, _, h⟩ := h; exact h.lt
theorem RowP.after (h : RowP w g m) (k : Below w.heap.size w w') : RowP w' g m := by obtain ⟨N, hN, h⟩ := h; exact ⟨N, hN, h.after k⟩
theorem RowP.grown {r : Option Nat} (h : RowP w g m) (k : w.grownBy w' r) (hne : ∀ l, r = some l → g ≠ l) : RowP w' g m := by
  obtain ⟨N, hN, h⟩ := h; exact ⟨N, hN, has_grown h k hne⟩
theorem RowP.congr {m' : Nat → UInt8} (h : RowP w g m) (he : ∀ j, j < 65536 → m j = m' j) : RowP w g m' := by
  obtain ⟨N, hN, h⟩ := h
  refine ⟨N, hN, ?_⟩
  rw [← tab_ext N (memV m) (memV m') fun j hj => by unfold memV; rw [he j (by omega)]]
  exact h
theorem RowP.slA (h : RowP w g m) : SlA w (some ⟨g, 0, none⟩) 65536 65536 (cut m 0 65536) := by
  obtain ⟨N, hN, h⟩ := h
  refine ⟨cut_len _ _ _, Nat.le_refl _, fun _ => ⟨g, 0, rfl, h.lt, fun j hj => ?_⟩⟩
  rw [cut_get hj, Nat.zero_add, h.cellTab j (by omega)]
  rfl
theorem RowP.cell (h : RowP w g m) (j : Nat) (hj : j < 65536) : w.cell? ⟨g, j, none⟩ = some (by8 (m j)) := by
  obtain ⟨N, hN, h⟩ := h
  exact h.cellTab j (by omega)
theorem RowP.free (h : RowP w g m) (j : Nat) : w.frozen? ⟨g, j, none⟩ = false := by
  obtain ⟨N, hN, h⟩ := h
  exact h.free j
theorem RowP.set (h : RowP w g m) (k : Nat) (y : UInt8) : RowP (w.setCell ⟨g, k, none⟩ (by8 y)) g (setY m k y) := by
  obtain ⟨N, hN, h⟩ := h
  refine ⟨N, hN, ?_⟩
  have h2 := h.set k (by8 y)
  rw [tab_set, tab_ext N _ (memV (setY m k y)) fun j _ => by unfold memV setY; split <;> rfl] at h2
  exact h2
end
theorem fillM_set (y : UInt8) (i : Nat) : setY (fillM y i) i y = fillM y (i + 1) := by
  funext j
  unfold setY fillM
  by_cases h : j = i
  · rw [if_pos h, if_pos (by omega)]
  · rw [if_neg h]
    by_cases h2 : j < i
    · rw [if_pos h2, if_pos (by omega)]
    · rw [if_neg h2, if_neg (by omega)]
theorem put_full (m : Nat → UInt8) (m' : Nat → UInt8) (j : Nat) (hj : j < 65536) : putM m 0 (cut m' 0 65536) j = m' j := by
  unfold putM
  rw [cut_len, if_pos (by omega), Nat.sub_zero, cut_get hj, Nat.zero_add]
theorem grV_lit (a b : Nat) (r : Int) : (#[.int .u32 (a : Int), .int .u32 (b : Int), .int .i64 r] : Array Value) = tab 3 (grV ⟨a, b, r⟩) := by kernel_rfl
theorem und_sp : Try.prog.underlying 56 = some (.slice 58) := Try.underlying56
theorem spsOf_take (bias : Nat) (xs : List Sx) (i : Nat) (h : i < xs.length) : (spsOf bias xs).take (i + 1) = (spsOf bias xs).take i ++ [spOf bias (xs.getD i sx0)] := by
  have hl : i < (spsOf bias xs).length := by simpa [spsOf] using h
  rw [List.take_add_one, List.getElem?_eq_getElem hl]
  congr 1
  show [(spsOf bias xs)[i]] = _
  have h2 := spsOf_get bias xs i h
  rw [List.getD_eq_getElem?_getD, List.getElem?_eq_getElem hl] at h2
  rw [← h2]
  rfl
theorem sps_wf (bias : Nat) (xs : List Sx) (h : ∀ j, j < xs.length → (xs.getD j sx0).z < 4294967296) : ∀ q ∈ spsOf bias xs ++ [(⟨0, 0, 0⟩ : Gr)], q.s < 4294967296 ∧ q.z < 4294967296 := by
  intro q hq
  rcases List.mem_append.1 hq with hq | hq
  · obtain ⟨x, hx, rfl⟩ := List.mem_map.1 hq
    obtain ⟨j, hj, rfl⟩ := List.getElem_of_mem hx
    have h2 := h j hj
    rw [List.getD_eq_getElem?_getD, List.getElem?_eq_getElem hj] at h2
    exact ⟨Nat.mod_lt _ (by decide), h2⟩
  · obtain rfl : q = ⟨0, 0, 0⟩ := by simpa using hq
    exact ⟨by decide, by decide⟩
theorem getD_wf {l : List Gr} {P : Gr → Prop} (h : ∀ q ∈ l, P q) (j : Nat) (hj : j < l.length) : P (l.getD j gr0) := by
  rw [List.getD_eq_getElem?_getD, List.getElem?_eq_getElem hj]
  exact h _ (List.getElem_mem _)
theorem own_apart {w w' : World} {base base' size size' n n' : Nat} {t t' : TypeId} {v v' : Value} {xs xs' : List Value} (h : w.ownsRow base t size v n xs) (h' : w.ownsRow base' t' size' v' n' xs') (ht : t ≠ t') (k : w.grownBy w' v'.ownBlock) : w'.ownsRow base t size v n xs := by
  rcases h.2 with h1 | ⟨g, cap, cur, h1, hb, hg, h3⟩
  · exact ⟨h.1, .inl h1⟩
  · refine ⟨h.1, .inr ⟨g, cap, cur, h1, hb, (k.block g (Array.getElem?_eq_some_iff.1 hg).1 (fun e => ?_)).trans hg, h3⟩⟩
    exact own_has h' (show Has w g t cur from hg) ht g e.symm rfl
end Go.Proofs.Ytdifapdppdcidaa
