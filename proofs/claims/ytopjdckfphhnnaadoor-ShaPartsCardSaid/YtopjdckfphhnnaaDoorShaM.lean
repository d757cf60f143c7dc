/-
SHA-256 as a plain function on words and bytes, in the order of the program's own text.
-/
import Derived.Test.YtopjdckfphhnnaaDoorWords
namespace Go.Proofs.YtopjdckfphhnnaaDoor
open Go

def by8 (b : UInt8) : Value := .int .u8 (b.toNat : Int)
/-- the words of a block -/
def W0 (b : Nat → UInt8) (i : Nat) : UInt32 := word (b (4 * i)) (b (4 * i + 1)) (b (4 * i + 2)) (b (4 * i + 3))
def nextW (x16 x7 x15 x2 : UInt32) : UInt32 := wadd (wadd (wadd x16 x7) (mixS 7 18 3 x15)) (mixS 17 19 10 x2)
/-- the first k words, the newest first -/
def sched (b : Nat → UInt8) : Nat → List UInt32
  | 0 => []
  | k + 1 => let l := sched b k; (if k < 16 then W0 b k else nextW (l.getD 15 0) (l.getD 6 0) (l.getD 14 0) (l.getD 1 0)) :: l
def W (b : Nat → UInt8) (i : Nat) : UInt32 := (sched b (i + 1)).getD 0 0
theorem sched_len (b : Nat → UInt8) (k : Nat) : (sched b k).length = k := by
  induction k with
  | zero => rfl
  | succ k ih => simp [sched, ih]
theorem sched_get (b : Nat → UInt8) (k j : Nat) (h : j < k) : (sched b k).getD j 0 = W b (k - 1 - j) := by
  induction k generalizing j with
  | zero => omega
  | succ k ih =>
    cases j with
    | zero => simp [W]
    | succ j =>
      have e : k + 1 - 1 - (j + 1) = k - 1 - j := by omega
      rw [e, ← ih j (by omega)]
      simp [sched]
theorem W_lo (b : Nat → UInt8) (i : Nat) (h : i < 16) : W b i = W0 b i := by simp [W, sched, h]
theorem W_hi (b : Nat → UInt8) (i : Nat) (h : 16 ≤ i) : W b i = nextW (W b (i - 16)) (W b (i - 7)) (W b (i - 15)) (W b (i - 2)) := by
  have e : W b i = nextW ((sched b i).getD 15 0) ((sched b i).getD 6 0) ((sched b i).getD 14 0) ((sched b i).getD 1 0) := by
    have h' : ¬ i < 16 := by omega
    simp [W, sched, h']
  rw [e, sched_get b i 15 (by omega), sched_get b i 6 (by omega), sched_get b i 14 (by omega), sched_get b i 1 (by omega)]
  have e1 : i - 1 - 15 = i - 16 := by omega
  have e2 : i - 1 - 6 = i - 7 := by omega
  have e3 : i - 1 - 14 = i - 15 := by omega
  have e4 : i - 1 - 1 = i - 2 := by omega
  rw [e1, e2, e3, e4]

def consts : List UInt32 := [0x428A2F98, 0x71374491, 0xB5C0FBCF, 0xE9B5DBA5, 0x3956C25B, 0x59F111F1, 0x923F82A4, 0xAB1C5ED5,
  0xD807AA98, 0x12835B01, 0x243185BE, 0x550C7DC3, 0x72BE5D74, 0x80DEB1FE, 0x9BDC06A7, 0xC19BF174,
  0xE49B69C1, 0xEFBE4786, 0x0FC19DC6, 0x240CA1CC, 0x2DE92C6F, 0x4A7484AA, 0x5CB0A9DC, 0x76F988DA,
  0x983E5152, 0xA831C66D, 0xB00327C8, 0xBF597FC7, 0xC6E00BF3, 0xD5A79147, 0x06CA6351, 0x14292967,
  0x27B70A85, 0x2E1B2138, 0x4D2C6DFC, 0x53380D13, 0x650A7354, 0x766A0ABB, 0x81C2C92E, 0x92722C85,
  0xA2BFE8A1, 0xA81A664B, 0xC24B8B70, 0xC76C51A3, 0xD192E819, 0xD6990624, 0xF40E3585, 0x106AA070,
  0x19A4C116, 0x1E376C08, 0x2748774C, 0x34B0BCB5, 0x391C0CB3, 0x4ED8AA4A, 0x5B9CCA4F, 0x682E6FF3,
  0x748F82EE, 0x78A5636F, 0x84C87814, 0x8CC70208, 0x90BEFFFA, 0xA4506CEB, 0xBEF9A3F7, 0xC67178F2]
def inits : List UInt32 := [0x6A09E667, 0xBB67AE85, 0x3C6EF372, 0xA54FF53A, 0x510E527F, 0x9B05688C, 0x1F83D9AB, 0x5BE0CD19]
def KC (i : Nat) : UInt32 := consts.getD i 0
def IV (i : Nat) : UInt32 := inits.getD i 0

structure St where
  a : UInt32
  b : UInt32
  c : UInt32
  d : UInt32
  e : UInt32
  f : UInt32
  g : UInt32
  h : UInt32
def St.at (s : St) : Nat → UInt32
  | 0 => s.a
  | 1 => s.b
  | 2 => s.c
  | 3 => s.d
  | 4 => s.e
  | 5 => s.f
  | 6 => s.g
  | _ => s.h
def St.of (s : Nat → UInt32) : St := ⟨s 0, s 1, s 2, s 3, s 4, s 5, s 6, s 7⟩
def tOf (s : St) (k w : UInt32) : UInt32 := wadd (wadd (wadd (wadd s.h (mix 6 11 25 s.e)) (wxor (wand s.e s.f) (wand (wnot s.e) s.g))) k) w
def uOf (s : St) : UInt32 := wadd (mix 2 13 22 s.a) (wxor (wxor (wand s.a s.b) (wand s.a s.c)) (wand s.b s.c))
def St.step (s : St) (k w : UInt32) : St := ⟨wadd (tOf s k w) (uOf s), s.a, s.b, s.c, wadd s.d (tOf s k w), s.e, s.f, s.g⟩
/-- the working variables after k rounds -/
def rnds (s : Nat → UInt32) (b : Nat → UInt8) : Nat → St
  | 0 => St.of s
  | k + 1 => (rnds s b k).step (KC k) (W b k)
/-- the state after one more block -/
def comp (s : Nat → UInt32) (b : Nat → UInt8) (j : Nat) : UInt32 := wadd (s j) ((rnds s b 64).at j)

/-- the digest's byte j, of a state -/
def dig (s : Nat → UInt32) (j : Nat) : UInt8 := UInt8.ofNat ((s (j / 4)).toNat / 2 ^ (24 - 8 * (j % 4)))
theorem dig_toNat (s : Nat → UInt32) (j : Nat) : (dig s j).toNat = (s (j / 4)).toNat / 2 ^ (24 - 8 * (j % 4)) % 256 := by
  unfold dig; rw [UInt8.toNat_ofNat']
theorem dig0 (s : Nat → UInt32) (k : Nat) : by8 (dig s (4 * k)) = .int .u8 ((s k).toNat / 16777216 % 256 : Int) := by
  have e1 : 4 * k / 4 = k := by omega
  have e2 : 4 * k % 4 = 0 := by omega
  unfold by8; rw [dig_toNat, e1, e2]; rfl
theorem dig1 (s : Nat → UInt32) (k : Nat) : by8 (dig s (4 * k + 1)) = .int .u8 ((s k).toNat / 65536 % 256 : Int) := by
  have e1 : (4 * k + 1) / 4 = k := by omega
  have e2 : (4 * k + 1) % 4 = 1 := by omega
  unfold by8; rw [dig_toNat, e1, e2]; rfl
theorem dig2 (s : Nat → UInt32) (k : Nat) : by8 (dig s (4 * k + 2)) = .int .u8 ((s k).toNat / 256 % 256 : Int) := by
  have e1 : (4 * k + 2) / 4 = k := by omega
  have e2 : (4 * k + 2) % 4 = 2 := by omega
  unfold by8; rw [dig_toNat, e1, e2]; rfl
theorem dig3 (s : Nat → UInt32) (k : Nat) : by8 (dig s (4 * k + 3)) = .int .u8 ((s k).toNat % 256 : Int) := by
  have e1 : (4 * k + 3) / 4 = k := by omega
  have e2 : (4 * k + 3) % 4 = 3 := by omega
  unfold by8; rw [dig_toNat, e1, e2]; simp

/-- what stands behind a message of L bytes: how many bytes, and which -/
def padLen (L : Nat) : Nat := 9 + (119 - L % 64) % 64
def padB (L j : Nat) : UInt8 := if j = 0 then 128 else if padLen L ≤ j + 8 then UInt8.ofNat (L * 8 / 2 ^ (8 * (padLen L - 1 - j))) else 0

/-- block i of a message -/
def blk (m : List UInt8) (i j : Nat) : UInt8 := if j < 64 then m.getD (64 * i + j) 0 else 0
/-- the state after k blocks of a message -/
def foldSt (m : List UInt8) : Nat → Nat → UInt32
  | 0 => IV
  | k + 1 => comp (foldSt m k) (blk m k)
theorem blk_append (m bs : List UInt8) (i : Nat) (h : 64 * i + 64 ≤ m.length) : blk (m ++ bs) i = blk m i := by
  funext j
  unfold blk
  by_cases hj : j < 64
  · rw [if_pos hj, if_pos hj]
    simp only [List.getD_eq_getElem?_getD]
    rw [List.getElem?_append_left (by omega)]
  · rw [if_neg hj, if_neg hj]
theorem foldSt_append (m bs : List UInt8) : ∀ k, 64 * k ≤ m.length → foldSt (m ++ bs) k = foldSt m k
  | 0, _ => rfl
  | k + 1, h => by
    have h1 := foldSt_append m bs k (by omega)
    have h2 := blk_append m bs k (by omega)
    show comp _ _ = comp _ _
    rw [h1, h2]

/-- the rest's bytes, when n1 bytes more have come -/
def restOf (q n1 : Nat) (D : List UInt8) (r : Nat → UInt8) (i : Nat) : UInt8 := if q ≤ i ∧ i < q + n1 then D.getD (i - q) 0 else r i
theorem rest_step (M D : List UInt8) (n1 : Nat) (r : Nat → UInt8) (hr : ∀ j, j < M.length % 64 → r j = M.getD (64 * (M.length / 64) + j) 0) :
    ∀ i, i < M.length % 64 + n1 → restOf (M.length % 64) n1 D r i = (M ++ D.take n1).getD (64 * (M.length / 64) + i) 0 := by
  intro i hi
  unfold restOf
  simp only [List.getD_eq_getElem?_getD]
  by_cases h : i < M.length % 64
  · rw [if_neg (by omega), hr i h, List.getElem?_append_left (by omega)]
    simp only [List.getD_eq_getElem?_getD]
  · rw [if_pos (by omega), List.getElem?_append_right (by omega), List.getElem?_take, if_pos (by omega)]
    congr 2
    omega
theorem length_step (M D : List UInt8) (n1 : Nat) (hn : n1 ≤ D.length) : (M ++ D.take n1).length = M.length + n1 := by simp; omega
/-- no block has become full -/
theorem part_state (M D : List UInt8) (n1 : Nat) (hn : n1 ≤ D.length) (h : M.length % 64 + n1 < 64) :
    (M ++ D.take n1).length / 64 = M.length / 64 ∧ (M ++ D.take n1).length % 64 = M.length % 64 + n1 ∧ foldSt (M ++ D.take n1) (M.length / 64) = foldSt M (M.length / 64) := by
  rw [length_step M D n1 hn]
  exact ⟨by omega, by omega, foldSt_append _ _ _ (by omega)⟩
/-- a block has become full -/
theorem full_state (M D : List UInt8) (n1 : Nat) (hn : n1 ≤ D.length) (r : Nat → UInt8) (hr : ∀ j, j < M.length % 64 → r j = M.getD (64 * (M.length / 64) + j) 0) (h : M.length % 64 + n1 = 64) :
    (M ++ D.take n1).length / 64 = M.length / 64 + 1 ∧ (M ++ D.take n1).length % 64 = 0 ∧ (∀ j, j < 64 → restOf (M.length % 64) n1 D r j = blk (M ++ D.take n1) (M.length / 64) j) ∧
      foldSt (M ++ D.take n1) (M.length / 64 + 1) = comp (foldSt M (M.length / 64)) (blk (M ++ D.take n1) (M.length / 64)) := by
  rw [length_step M D n1 hn]
  refine ⟨by omega, by omega, fun j hj => ?_, ?_⟩
  · rw [rest_step M D n1 r hr j (by omega)]
    simp [blk, hj]
  · rw [← foldSt_append M (D.take n1) (M.length / 64) (by omega)]
    rfl
theorem take_step (m bs : List UInt8) (k n1 : Nat) : m ++ bs.take k ++ (bs.drop k).take n1 = m ++ bs.take (k + n1) := by
  rw [List.append_assoc, ← List.take_add]

/-- the padding of a message, and the digest of it -/
def padOf (m : List UInt8) : List UInt8 := (List.range (padLen m.length)).map (padB m.length)
def shaOf (m : List UInt8) (j : Nat) : UInt8 := dig (foldSt (m ++ padOf m) ((m ++ padOf m).length / 64)) j
theorem padOf_length (m : List UInt8) : (padOf m).length = padLen m.length := by simp [padOf]
theorem padOf_get (m : List UInt8) (j : Nat) (h : j < padLen m.length) : (padOf m).getD j 0 = padB m.length j := by
  simp [padOf, List.getD_eq_getElem?_getD, h]
end Go.Proofs.YtopjdckfphhnnaaDoor
