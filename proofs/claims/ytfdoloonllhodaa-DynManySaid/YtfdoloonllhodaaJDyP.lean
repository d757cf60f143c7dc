/-
Layers 8 and 9: what is read of a file made of any headers and contents.
-/
import Derived.Test.YtfdoloonllhodaaElK
import Derived.Test.YtfdoloonllhodaaJElZ
namespace Go.Proofs.Ytfdoloonllhodaa
open Go Go.RowKit

theorem nm_piece {L P R : List (List UInt8)} {k x q : Nat} (e : L = P ++ leB k x :: R) (hq : P.flatten.length = q) : nm L.flatten k q = x % 256 ^ k := by
  subst e
  rw [List.flatten_append, List.flatten_cons]
  exact nm_at rfl hq
theorem phs_split (hs : List Hd) (bss : List (List UInt8)) (i : Nat) : ∀ n, i < n → ∃ R, phs hs bss n = phs hs bss i ++ (phL (hs.getD i hd0) (atN bss hs.length i) (bss.getD i []).length ++ R)
  | 0, h => absurd h (Nat.not_lt_zero _)
  | n + 1, h => by
    rcases Nat.lt_or_ge i n with h1 | h1
    · obtain ⟨R, hR⟩ := phs_split hs bss i n h1
      exact ⟨R ++ phL (hs.getD n hd0) (atN bss hs.length n) (bss.getD n []).length, by rw [phs_succ, hR]; simp [List.append_assoc]⟩
    · obtain rfl : i = n := by omega
      exact ⟨[], by rw [phs_succ, List.append_nil]⟩
theorem phL_split (h : Hd) (a l k : Nat) (hk : k < 8) : ∃ R, phL h a l = (phL h a l).take k ++ leB 4 (xN h a l k) :: R := by
  refine ⟨(phL h a l).drop (k + 1), ?_⟩
  have h1 := phL_take h a l k hk
  have h2 := List.take_append_drop (k + 1) (phL h a l)
  rw [h1, List.append_assoc] at h2
  exact h2.symm
theorem phL_tlen (h : Hd) (a l k : Nat) (hk : k ≤ 8) : ((phL h a l).take k).flatten.length = 4 * k := by
  induction k with
  | zero => rfl
  | succ k ih =>
    rw [phL_take h a l k (by omega), List.flatten_append, List.length_append, ih (by omega)]
    simp [leB_len]; omega
/-- a program header's number -/
theorem file_nm (en : Nat) (hs : List Hd) (bss : List (List UInt8)) (i k : Nat) (hi : i < hs.length) (hk : k < 8) :
    nm (fileN en hs bss) 4 (52 + 32 * i + 4 * k) = xN (hs.getD i hd0) (atN bss hs.length i) (bss.getD i []).length k % 256 ^ 4 := by
  obtain ⟨R, hR⟩ := phs_split hs bss i hs.length hi
  obtain ⟨R2, hR2⟩ := phL_split (hs.getD i hd0) (atN bss hs.length i) (bss.getD i []).length k hk
  refine nm_piece (P := hdL en hs.length ++ phs hs bss i ++ (phL (hs.getD i hd0) (atN bss hs.length i) (bss.getD i []).length).take k) (R := R2 ++ R ++ bss.take bss.length) ?_ ?_
  · unfold fileL
    rw [hR]
    conv => lhs; rw [hR2]
    simp [List.append_assoc]
  · rw [List.flatten_append, List.flatten_append, List.length_append, List.length_append, hdL_flat, phs_flat, phL_tlen _ _ _ _ (by omega)]
/-- the file header's numbers -/
theorem file_hd (en : Nat) (hs : List Hd) (bss : List (List UInt8)) : (fileN en hs bss).take 16 = ident16 ∧ nm (fileN en hs bss) 2 16 = 3 ∧ nm (fileN en hs bss) 2 18 = 243 ∧ nm (fileN en hs bss) 4 20 = 1 ∧ nm (fileN en hs bss) 4 24 = en % 256 ^ 4 ∧ nm (fileN en hs bss) 4 28 = 52 ∧
    nm (fileN en hs bss) 4 36 = 0 ∧ nm (fileN en hs bss) 2 40 = 52 ∧ nm (fileN en hs bss) 2 42 = 32 ∧ nm (fileN en hs bss) 2 44 = hs.length % 256 ^ 2 := by
  have e : ∃ R, fileL en hs bss hs.length bss.length = hdL en hs.length ++ R := ⟨phs hs bss hs.length ++ bss.take bss.length, by unfold fileL; rw [List.append_assoc]⟩
  obtain ⟨R, hR⟩ := e
  unfold hdL at hR
  unfold fileN
  rw [hR]
  refine ⟨?_, ?_, ?_, ?_, ?_, ?_, ?_, ?_, ?_, ?_⟩
  · simp [ident16]
  · exact nm_piece (P := [ident16]) (R := [leB 2 243, leB 4 1, leB 4 en, leB 4 52, leB 4 0, leB 4 0, leB 2 52, leB 2 32, leB 2 hs.length, zeros6] ++ R) rfl rfl
  · exact nm_piece (P := [ident16, leB 2 3]) (R := [leB 4 1, leB 4 en, leB 4 52, leB 4 0, leB 4 0, leB 2 52, leB 2 32, leB 2 hs.length, zeros6] ++ R) rfl rfl
  · exact nm_piece (P := [ident16, leB 2 3, leB 2 243]) (R := [leB 4 en, leB 4 52, leB 4 0, leB 4 0, leB 2 52, leB 2 32, leB 2 hs.length, zeros6] ++ R) rfl rfl
  · exact nm_piece (P := [ident16, leB 2 3, leB 2 243, leB 4 1]) (R := [leB 4 52, leB 4 0, leB 4 0, leB 2 52, leB 2 32, leB 2 hs.length, zeros6] ++ R) rfl rfl
  · exact nm_piece (P := [ident16, leB 2 3, leB 2 243, leB 4 1, leB 4 en]) (R := [leB 4 0, leB 4 0, leB 2 52, leB 2 32, leB 2 hs.length, zeros6] ++ R) rfl (by simp [leB_len, ident16])
  · exact nm_piece (P := [ident16, leB 2 3, leB 2 243, leB 4 1, leB 4 en, leB 4 52, leB 4 0]) (R := [leB 2 52, leB 2 32, leB 2 hs.length, zeros6] ++ R) rfl (by simp [leB_len, ident16])
  · exact nm_piece (P := [ident16, leB 2 3, leB 2 243, leB 4 1, leB 4 en, leB 4 52, leB 4 0, leB 4 0]) (R := [leB 2 32, leB 2 hs.length, zeros6] ++ R) rfl (by simp [leB_len, ident16])
  · exact nm_piece (P := [ident16, leB 2 3, leB 2 243, leB 4 1, leB 4 en, leB 4 52, leB 4 0, leB 4 0, leB 2 52]) (R := [leB 2 hs.length, zeros6] ++ R) rfl (by simp [leB_len, ident16])
  · exact nm_piece (P := [ident16, leB 2 3, leB 2 243, leB 4 1, leB 4 en, leB 4 52, leB 4 0, leB 4 0, leB 2 52, leB 2 32]) (R := [zeros6] ++ R) rfl (by simp [leB_len, ident16])
/-- the contents -/
theorem file_at (en : Nat) (hs : List Hd) (bss : List (List UInt8)) (i : Nat) (hi : i < bss.length) : ((fileN en hs bss).drop (atN bss hs.length i)).take (bss.getD i []).length = bss.getD i [] := by
  unfold fileN fileL
  rw [List.take_of_length_le (Nat.le_refl bss.length), List.flatten_append]
  have h1 : (hdL en hs.length ++ phs hs bss hs.length).flatten.length = 52 + 32 * hs.length := by rw [List.flatten_append, List.length_append, hdL_flat, phs_flat]
  have h2 : bss.flatten = (bss.take i).flatten ++ (bss.getD i [] ++ (bss.drop (i + 1)).flatten) := by
    conv => lhs; rw [← List.take_append_drop i bss, drop_cons bss [] i hi]
    rw [List.flatten_append, List.flatten_cons]
  rw [h2, ← List.append_assoc, List.drop_left' (by rw [List.length_append, h1]; rfl), List.take_left' rfl]
theorem rgt_fl (r : Nat) (h : r ≤ 7) : rgt (flN r) = r ∧ flN r ≤ 7 := by
  have h8 : r = 0 ∨ r = 1 ∨ r = 2 ∨ r = 3 ∨ r = 4 ∨ r = 5 ∨ r = 6 ∨ r = 7 := by omega
  rcases h8 with rfl | rfl | rfl | rfl | rfl | rfl | rfl | rfl <;> decide
/-- the headers that are read of it -/
def hdF (hs : List Hd) (bss : List (List UInt8)) (i : Nat) : Hd := ⟨(hs.getD i hd0).k, atN bss hs.length i, (hs.getD i hd0).d, (bss.getD i []).length, (hs.getD i hd0).m, (hs.getD i hd0).r⟩
theorem atN_le (bss : List (List UInt8)) (n i : Nat) (h : i < bss.length) : atN bss n i + (bss.getD i []).length ≤ 52 + 32 * n + bss.flatten.length := by
  rw [← atN_succ bss n i h]
  unfold atN
  have : bss.flatten = (bss.take (i + 1)).flatten ++ (bss.drop (i + 1)).flatten := by rw [← List.flatten_append, List.take_append_drop]
  rw [this, List.length_append]
  omega
theorem file_heads {en : Nat} {hs : List Hd} {bss : List (List UInt8)} (h1 : 1 ≤ hs.length) (h5 : hs.length ≤ 5) (hb : bss.length = hs.length) (hen : en < 4294967296) (hlen : (fileN en hs bss).length < 4294967296)
    (hg : ∀ i, i < hs.length → ((hs.getD i hd0).k = 1 ∨ (hs.getD i hd0).k = 2) ∧ (hs.getD i hd0).d < 4294967296 ∧ (hs.getD i hd0).m < 4294967296 ∧ (hs.getD i hd0).r ≤ 7 ∧ (bss.getD i []).length ≤ (hs.getD i hd0).m) :
    headsN (fileN en hs bss) = (en, (List.range hs.length).map (hdF hs bss), 0) := by
  obtain ⟨ht, n16, n18, n20, n24, n28, n36, n40, n42, n44⟩ := file_hd en hs bss
  have hln := fileN_len en hs bss
  have eN : hN (fileN en hs bss) = hs.length := n44.trans (Nat.mod_eq_of_lt (by omega))
  have eA : hAt (fileN en hs bss) = 52 := n28
  have hf : fileB (fileN en hs bss) = true := by
    unfold fileB
    rw [decide_eq_true_eq, n16, n18, n20, n36, n40, n42, eN, eA, hln]
    exact ⟨by omega, ht, rfl, rfl, rfl, rfl, rfl, rfl, h1, h5, by omega⟩
  have hq : ∀ i, i < hs.length → nm (fileN en hs bss) 4 (52 + 32 * i) = (hs.getD i hd0).k ∧ nm (fileN en hs bss) 4 (52 + 32 * i + 4) = atN bss hs.length i ∧ nm (fileN en hs bss) 4 (52 + 32 * i + 8) = (hs.getD i hd0).d ∧ nm (fileN en hs bss) 4 (52 + 32 * i + 16) = (bss.getD i []).length ∧ nm (fileN en hs bss) 4 (52 + 32 * i + 20) = (hs.getD i hd0).m ∧ nm (fileN en hs bss) 4 (52 + 32 * i + 24) = flN (hs.getD i hd0).r := by
    intro i hi
    obtain ⟨g1, g2, g3, g4, g5⟩ := hg i hi
    have hal := atN_le bss hs.length i (by omega)
    have hfl := (rgt_fl _ g4).2
    refine ⟨?_, ?_, ?_, ?_, ?_, ?_⟩
    · refine (file_nm en hs bss i 0 hi (by decide)).trans (Nat.mod_eq_of_lt ?_)
      show (hs.getD i hd0).k < _
      omega
    · refine (file_nm en hs bss i 1 hi (by decide)).trans (Nat.mod_eq_of_lt ?_)
      show atN bss hs.length i < _
      omega
    · exact (file_nm en hs bss i 2 hi (by decide)).trans (Nat.mod_eq_of_lt g2)
    · refine (file_nm en hs bss i 4 hi (by decide)).trans (Nat.mod_eq_of_lt ?_)
      show (bss.getD i []).length < _
      omega
    · exact (file_nm en hs bss i 5 hi (by decide)).trans (Nat.mod_eq_of_lt g3)
    · refine (file_nm en hs bss i 6 hi (by decide)).trans (Nat.mod_eq_of_lt ?_)
      show flN (hs.getD i hd0).r < _
      omega
  have hx : ∀ i, i < hN (fileN en hs bss) → hdX (fileN en hs bss) (hAt (fileN en hs bss) + 32 * i) = false := by
    intro i hi
    rw [eN] at hi
    rw [eA]
    obtain ⟨q0, q1, q2, q4, q5, q6⟩ := hq i hi
    obtain ⟨g1, g2, g3, g4, g5⟩ := hg i hi
    have hal := atN_le bss hs.length i (by omega)
    have hfl := (rgt_fl _ g4).2
    unfold hdX
    rw [decide_eq_false_iff_not, q0, q1, q4, q5, q6, hln]
    omega
  rw [headsN_ok hf hx, n24, Nat.mod_eq_of_lt (by omega), eN]
  unfold hds
  rw [eA]
  congr 2
  refine List.map_congr_left fun i hi => ?_
  have hi := List.mem_range.1 hi
  obtain ⟨q0, q1, q2, q4, q5, q6⟩ := hq i hi
  unfold hdA hdF
  rw [q0, q1, q2, q4, q5, q6, (rgt_fl _ (hg i hi).2.2.2.1).1]
end Go.Proofs.Ytfdoloonllhodaa
