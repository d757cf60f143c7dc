/-
Package mont: a Mod's block as it is made; the inverse of an odd word; 2^256 times a number.
-/
import Derived.Test.YtodialbopochdaaModF
namespace Go.Proofs.Ytodialbopochdaa
open Go.RowKit

theorem foldM (m : Nat) : (Array.foldl (fun (cs : Array Value) (x : Value × Nat) => cs.setIfInBounds x.snd x.fst) (tab 25 fun _ => Value.int IntKind.u32 0) (nums m).zipIdx 0 8) = modC m 0 0 0 := by kernel_rfl
theorem zer25 : (#[Value.int IntKind.u32 0, Value.int IntKind.u32 0, Value.int IntKind.u32 0, Value.int IntKind.u32 0,
                    Value.int IntKind.u32 0, Value.int IntKind.u32 0, Value.int IntKind.u32 0, Value.int IntKind.u32 0,
                    Value.int IntKind.u32 0, Value.int IntKind.u32 0, Value.int IntKind.u32 0, Value.int IntKind.u32 0,
                    Value.int IntKind.u32 0, Value.int IntKind.u32 0, Value.int IntKind.u32 0, Value.int IntKind.u32 0,
                    Value.int IntKind.u32 0, Value.int IntKind.u32 0, Value.int IntKind.u32 0, Value.int IntKind.u32 0,
                    Value.int IntKind.u32 0, Value.int IntKind.u32 0, Value.int IntKind.u32 0, Value.int IntKind.u32 0,
                    Value.int IntKind.u32 0] : Array Value) = tab 25 fun _ => Value.int IntKind.u32 0 := by kernel_rfl
theorem setM (m ni : Nat) : (modC m 0 0 0).setIfInBounds 8 (Value.int IntKind.u32 (ni : Int)) = modC m ni 0 0 := by
  unfold modC
  rw [tab_set]
  refine tab_ext _ _ _ fun j _ => ?_
  unfold modF
  by_cases h : j = 8
  · subst h; rfl
  · simp only [if_neg h]
theorem modC_size (m ni o s : Nat) : (modC m ni o s).size = 25 := tab_size _ _
theorem buildM (m ni : Nat) (W : World) : (Instr.build 52 #[(0, .agg (nums m)), (1, .int .u32 (ni : Int))]).run Try.prog W = .ok (.agg (modC m ni 0 0)) W := by
  have n1 := nums_size m
  go_simp
  simp only [zer25, foldM, setM, modC_size]
  rfl
theorem oneM (m ni o s v : Nat) : (tab 25 fun j => if 9 ≤ j ∧ j < 9 + 8 then dgs .u32 4294967296 v (j - 9) else modF m ni o s j) = modC m ni v s := tab_ext _ _ _ fun j _ => by
  unfold modF dgs
  by_cases h : 9 ≤ j ∧ j < 9 + 8
  · rw [if_pos h, if_neg (by omega), if_neg (by omega), if_pos (by omega)]; rfl
  · rw [if_neg h]
    by_cases h8 : j < 8
    · simp only [if_pos h8]
    · by_cases h9 : j = 8
      · simp only [if_neg h8, if_pos h9]
      · have h17 : ¬ j < 17 := by omega
        simp only [if_neg h8, if_neg h9, if_neg h17]
theorem squareM (m ni o s v : Nat) : (tab 25 fun j => if 17 ≤ j ∧ j < 17 + 8 then dgs .u32 4294967296 v (j - 17) else modF m ni o s j) = modC m ni o v := tab_ext _ _ _ fun j hj => by
  unfold modF dgs
  by_cases h : 17 ≤ j ∧ j < 17 + 8
  · rw [if_pos h, if_neg (by omega), if_neg (by omega), if_neg (by omega)]; rfl
  · rw [if_neg h]
    by_cases h8 : j < 8
    · simp only [if_pos h8]
    · by_cases h9 : j = 8
      · simp only [if_neg h8, if_pos h9]
      · have h17 : j < 17 := by omega
        simp only [if_neg h8, if_neg h9, if_pos h17]
/-- a number goes into the middle of a block that is known whole: the world behind it, named -/
theorem wpList_store_sub {w : World} {ops : Array Oper} {rest : List Oper} {op : Oper} {a : Act} {Q : Exit → Act → World → Prop} (hgd : op.guard = none) (x y : Operand) (ho : op.op = .store 24 x y)
    (g off : Nat) (hx : a.eval x = .pointer (some ⟨g, off, none⟩)) (v : Nat) (hy : a.eval y = .agg (nums v))
    (N : Nat) (f : Nat → Value) (t : TypeId) (hg : Has w g t (tab N f)) (hfit : off + 8 ≤ N) (cs : Array Value) (hcs : (tab N fun j => if off ≤ j ∧ j < off + 8 then dgs .u32 4294967296 v (j - off) else f j) = cs)
    (h : wpList Try.prog ops Q rest (a.put op.dst undef) (w.setRow g cs)) : wpList Try.prog ops Q (op :: rest) a w := by
  refine wpList_plain hgd fun K hK => ?_
  have hl : (wordsL v).length = 8 := wordsL_len v
  have hrun := run_storeCells_at (P := Try.prog) g off t (wordsL v) 0 (tab N f) w hg (by rw [hl, tab_size]; omega) (fun u hu => by obtain ⟨j, _, rfl⟩ := List.mem_map.1 hu; rfl)
  have e := tab_splice N f (dgs .u32 4294967296 v) off 8 hfit
  rw [hl, Nat.add_zero, List.append_assoc, show wordsL v = (List.range 8).map (dgs .u32 4294967296 v) from rfl, e, hcs] at hrun
  have hi := infoNum v
  rw [nums_size] at hi
  have hs : (storeVar 24 ⟨g, off, none⟩ (.agg (nums v))).run Try.prog w = .ok () (w.setRow g cs) := by
    cases hq : Try.prog.info? 24 with
    | none => simp [hq] at hi
    | some i =>
      have hs : i.size = 8 := by simpa [hq] using hi
      have hv : (nums v).toList = (List.range 8).map (dgs .u32 4294967296 v) := tab_toList _ _
      simp [storeVar, sizeOf, typeInfo, hq, Value.cells, hs, nums_size, hv, hrun]
  unfold Oper.wp execOp
  simp only [ho, hx, hy, Instr.storeAt, Instr.sureAddr, Sem.run_bind, Sem.run_pure, Result.andThen_ok, hs]
  exact hK _ _ h

/-- the inverse, round by round -/
def invN (o : Nat) : Nat → Nat
  | 0 => 1
  | k + 1 => invN o k * ((4294967298 - o * invN o k % 4294967296) % 4294967296) % 4294967296
theorem invN_lt (o : Nat) : ∀ k, invN o k < 4294967296
  | 0 => by show 1 < 4294967296; decide
  | k + 1 => Nat.mod_lt _ (by decide)
theorem inv_step (o n : Nat) : (4294967296 : Int) ∣ ((n * ((4294967298 - o * n % 4294967296) % 4294967296) % 4294967296 : Nat) : Int) - (n : Int) * (2 - (o : Int) * (n : Int)) := by
  obtain ⟨y, hy⟩ : ∃ y, y = o * n := ⟨_, rfl⟩
  obtain ⟨q, hq⟩ : ∃ q, q = (4294967298 - o * n % 4294967296) % 4294967296 := ⟨_, rfl⟩
  obtain ⟨z, hz⟩ : ∃ z, z = n * q := ⟨_, rfl⟩
  rw [← hq, ← hz, ← Int.natCast_mul, ← hy]
  rw [← hy] at hq
  have h1 : (4294967296 : Int) ∣ ((z % 4294967296 : Nat) : Int) - (z : Int) := by omega
  have h2 : (4294967296 : Int) ∣ (q : Int) - (2 - (y : Int)) := by omega
  have e : ((z % 4294967296 : Nat) : Int) - (n : Int) * (2 - (y : Int)) = (((z % 4294967296 : Nat) : Int) - (z : Int)) + (n : Int) * ((q : Int) - (2 - (y : Int))) := by
    rw [hz, Int.natCast_mul, Int.mul_sub (n : Int) (q : Int)]
    omega
  rw [e]
  exact Int.dvd_add h1 (Int.dvd_mul_of_dvd_right h2)
theorem inv_pow (o : Nat) (ho : o % 2 = 1) : ∀ k, k ≤ 5 → ((2 ^ 2 ^ k : Nat) : Int) ∣ (o : Int) * (invN o k : Int) - 1
  | 0, _ => by
    show ((2 : Nat) : Int) ∣ (o : Int) * ((1 : Nat) : Int) - 1
    omega
  | k + 1, hk => by
    have h := inv_pow o ho k (by omega)
    have e : ((2 ^ 2 ^ (k + 1) : Nat) : Int) = ((2 ^ 2 ^ k : Nat) : Int) * ((2 ^ 2 ^ k : Nat) : Int) := by
      rw [← Int.natCast_mul, ← Nat.pow_add]; congr 2; omega
    have hj : ((2 ^ 2 ^ k : Nat) : Int) * ((2 ^ 2 ^ k : Nat) : Int) ∣ 4294967296 := by
      rcases (show k = 0 ∨ k = 1 ∨ k = 2 ∨ k = 3 ∨ k = 4 by omega) with rfl | rfl | rfl | rfl | rfl <;> decide
    rw [e]
    exact inv_round hj h (inv_step o (invN o k))
theorem inv_end (o : Nat) (ho : o % 2 = 1) : o * invN o 5 % 4294967296 = 1 := by
  have h := inv_pow o ho 5 (by omega)
  have e : ((2 ^ 2 ^ 5 : Nat) : Int) = 4294967296 := by decide
  rw [e, ← Int.natCast_mul] at h
  generalize o * invN o 5 = z at *
  omega
theorem neg_end {m n ni : Nat} (hn : n < 4294967296) (h : m * n % 4294967296 = 1) (hni : ni = 4294967296 - n) : (m * ni + 1) % 4294967296 = 0 := by
  have e : m * ni + m * n = m * 4294967296 := by rw [← Nat.mul_add]; congr 1; omega
  generalize m * ni = z at *
  generalize m * n = y at *
  omega
set_option maxRecDepth 100000 in
set_option maxHeartbeats 1000000 in
theorem inverse_any (o : Nat) (w : World) : Calls Try.prog 34 #[.int .u32 (o : Int)] w fun e w' => e = .returned (.int .u32 ((invN o 5 : Nat) : Int)) ∧ w = w' := by
  have hs : ∀ k, invN o (k + 1) = invN o k * ((4294967298 - o * invN o k % 4294967296) % 4294967296) % 4294967296 := fun k => rfl
  have h0 : invN o 0 = 1 := rfl
  have hlt := invN_lt o
  generalize invN o = F at *
  have HS := Lib.hid hs
  have H0 := Lib.hid h0
  have HLT := Lib.hid hlt
  clear hs h0 hlt
  go_enter Try.func34, Try.ntmps34
  go_wp2_with fail
  go_loopw [3, 4] (fun vn vi wr => ∃ k : Nat, k ≤ 5 ∧ vn = .int .u32 ((F k : Nat) : Int) ∧ vi = .int .i64 (k : Int) ∧ wr = w) (fun _ vi _ => 5 - (intOf vi).toNat)
  case atStart => exact ⟨0, by omega, by rw [H0.out]; rfl, rfl, rfl⟩
  case round =>
    obtain ⟨k, hk, rfl, rfl, rfl⟩ := hrel
    by_cases hlt : k < 5
    · have dk : (k : Int) < 5 := by omega
      obtain ⟨p, hp⟩ : ∃ p, p = o * F k % 4294967296 := ⟨_, rfl⟩
      obtain ⟨q, hq⟩ : ∃ q, q = (4294967298 - p) % 4294967296 := ⟨_, rfl⟩
      obtain ⟨r, hr⟩ : ∃ r, r = F k * q % 4294967296 := ⟨_, rfl⟩
      have e1 : IntKind.u32.wrap ((o : Int) * ((F k : Nat) : Int)) = (p : Int) := by rw [IntKind.wrap_u32, ← Int.natCast_mul, hp]; omega
      have e2 : IntKind.u32.wrap (2 - (p : Int)) = (q : Int) := by rw [IntKind.wrap_u32, hq]; omega
      have e3 : IntKind.u32.wrap (((F k : Nat) : Int) * (q : Int)) = (r : Int) := by rw [IntKind.wrap_u32, ← Int.natCast_mul, hr]; omega
      have hF : F (k + 1) = r := by rw [HS.out, hr, hq, hp]
      clear hp hq hr
      go_wp2_with fail
      go_roundw
      case rel => exact ⟨k + 1, by omega, by rw [hF], by go_num, trivial⟩
      case measure => simp [intOf]; omega
    · have hk5 : k = 5 := by omega
      have dk : ¬ (k : Int) < 5 := by omega
      have HK := Lib.hid (congrArg F hk5)
      generalize F k = y at *
      clear hk5 hlt hk
      go_wp2_with fail
      go_ret
      exact ⟨by rw [← HK.out]; rfl, rfl⟩
theorem dbl_step (a m k : Nat) : (2 ^ k * a % m + 2 ^ k * a % m) % m = 2 ^ (k + 1) * a % m := by
  rw [← Nat.add_mod, ← Nat.two_mul, ← Nat.mul_assoc, Nat.pow_succ, Nat.mul_comm 2]
set_option maxRecDepth 100000 in
set_option maxHeartbeats 1000000 in
theorem doubled_any (a m ni o s g : Nat) (w : World) (hG : Has w g 52 (modC m ni o s)) (ha : a < m) (hm : m < big) :
    Calls Try.prog 35 #[.pointer (some ⟨g, 0, none⟩), .agg (nums a)] w fun e w' => e = .returned (.agg (nums (RR * a % m))) ∧ Below w.heap.size w w' := by
  have hk0 : 2 ^ 0 * a % m = a := by rw [Nat.pow_zero, Nat.one_mul, Nat.mod_eq_of_lt ha]
  have hkl := fun k => Nat.mod_lt (2 ^ k * a) (show 0 < m by omega)
  have HSQ := Lib.hid (fun k W h => addm_any (2 ^ k * a % m) (2 ^ k * a % m) m ni o s g W h (hkl k) (hkl k) hm)
  simp only [dbl_step] at HSQ
  have hke : 2 ^ 256 * a % m = RR * a % m := rfl
  have HK := Lib.hid (And.intro hk0 hke)
  clear hk0 hkl hke ha hm
  obtain ⟨F, hF⟩ : ∃ F : Nat → Nat, F = fun k => 2 ^ k * a % m := ⟨_, rfl⟩
  have hf : ∀ k, 2 ^ k * a % m = F k := fun k => by rw [hF]
  rw [hf, hf] at HK
  simp only [hf] at HSQ
  generalize RR * a % m = x at *
  clear hf hF
  have n0 := nums_ne 0
  have hA : Has ((w.alloc (.cells (nums a) 24)).alloc (.cells (nums 0) 24)) (w.heap.size) 24 (nums a) := (Has.new w _ _).alloc _
  have hR : Has ((w.alloc (.cells (nums a) 24)).alloc (.cells (nums 0) 24)) (w.heap.size + 1) 24 (nums 0) := Has.new' (by simp)
  have hb0 : Below w.heap.size w ((w.alloc (.cells (nums a) 24)).alloc (.cells (nums 0) 24)) := ((Below.refl _ _).alloc (Nat.le_refl _) _).alloc (by simp <;> omega) _
  have hgw := hG.lt
  replace hG := hG.after hb0
  go_enter Try.func35, Try.ntmps35
  go_wp2_with fail
  go_loopw [5] (fun vi wr => ∃ k : Nat, k ≤ 256 ∧ vi = .int .i64 (k : Int) ∧ Has wr w.heap.size 24 (nums (F k)) ∧ Has wr (w.heap.size + 1) 24 (nums 0) ∧ Has wr g 52 (modC m ni o s) ∧ Below w.heap.size w wr) (fun vi _ => 256 - (intOf vi).toNat)
  case atStart => exact ⟨0, by omega, rfl, by rw [HK.out.1]; exact hA, hR, hG, hb0⟩
  case round =>
    obtain ⟨k, hk, rfl, h1, h2, h3, hb⟩ := hrel
    clear hA hR hG hb0
    by_cases hlt : k < 256
    · have dk : (k : Int) < 256 := by omega
      go_wp2_with (first | refine wpList_load_has 24 _ rfl _ rfl rfl 24 _ h1 _ Try.underlying24 rfl (infoNum _) ?_)
      refine (HSQ.out k _ h3).mono ?_
      rintro z w2 ⟨rfl, hx⟩
      replace h1 := h1.after hx
      replace h2 := h2.after hx
      replace h3 := h3.after hx
      replace hb := below_trans hb hx
      have h1' := h1.setRow (nums (F (k + 1)))
      replace h2 := h2.farRow (k := w.heap.size) (by omega) (nums (F (k + 1)))
      replace h3 := h3.farRow (k := w.heap.size) (by omega) (nums (F (k + 1)))
      replace hb := below_setRow hb (g := w.heap.size) (by omega) (nums (F (k + 1)))
      clear hx
      go_wp2_with (first | refine wpList_store_row rfl 24 _ _ rfl (w.heap.size) _ rfl rfl 24 _ h1 (infoNum _) (by simp only [nums_size]) (tab_oneCell _ _ fun _ => rfl) ?_)
      go_roundw
      case rel => exact ⟨k + 1, by omega, by go_num, h1', h2, h3, hb⟩
      case measure => simp [intOf]; omega
    · have hk8 : k = 256 := by omega
      have dk : ¬ (k : Int) < 256 := by omega
      rw [hk8, HK.out.2] at h1
      clear hlt hk hk8 h3
      go_wp2_with (first | refine wpList_load_has 24 _ rfl _ rfl rfl 24 _ h1 _ Try.underlying24 rfl (infoNum _) ?_ | refine wpList_store_row rfl 24 _ _ rfl (w.heap.size + 1) _ rfl rfl 24 _ h2 (infoNum _) (by simp only [nums_size]) (tab_oneCell _ _ fun _ => rfl) ?_)
      exact bodyPost_ret (v := .agg (nums x)) (results_cell_row rfl _ _ (w.heap.size + 1) 24 _ _ _ rfl (h2.setRow _) Try.underlying24 rfl (infoNum _)) rfl ⟨rfl, below_setRow hb (by omega) _⟩
end Go.Proofs.Ytodialbopochdaa
