/-
Package mont: a Mod's block as it is made; the inverse of an odd word; 2^256 times a number.
Package mont keeps what the laws' walks ask of it: New, Inv, and all its calls together.
The points of a curve y y = x x x + a x + b over the prime field of P-256: chords and tangents make a commutative group. Each identity is one linear combination of its hypotheses.
The prime field of P-256 is a field; multiples of points; points as X/Z, Y/Z.
The order of the base point, reckoned by the kernel: the order less 1, times the base, is the base's mirror.
The curve has no point of order two; the complete law of addition (one formula for every pair of points).
The reference of layer 4: sums of digits of any size, carried.
The reference of layer 4: a number that is less than twice the modulus, made less than it; what the modulus is more than a number.
-/
import Derived.Test.YtmgmfifkldpbmaaDoorRows
import Derived.Test.YtmgmfifkldpbmaaDoorMg00
import Derived.Test.YtmgmfifkldpbmaaDoorMg01
import Derived.Test.YtmgmfifkldpbmaaDoorMg02
namespace Go.Proofs.YtmgmfifkldpbmaaDoor
open Go.RowKit

theorem foldM (m : Nat) : (Array.foldl (fun (cs : Array Value) (x : Value × Nat) => cs.setIfInBounds x.snd x.fst) (tab 25 fun _ => Value.int IntKind.u32 0) (nums m).zipIdx 0 8) = modC m 0 0 0 := by kernel_rfl
theorem zer25 : (#[Value.int IntKind.u32 0, Value.int IntKind.u32 0, Value.int IntKind.u32 0, Value.int IntKind.u32 0,
                    Value.int IntKind.u32 0, Value.int IntKind.u32 0, Value.int IntKind.u32 0, Value.int IntKind.u32 0,
                    Value.int IntKind.u32 0, Value.int IntKind.u32 0, Value.int IntKind.u32 0, Value.int IntKind.u32 0,
                    Value.int IntKind.u32 0, Value.int IntKind.u32 0, Value.int IntKind.u32 0, Value.int IntKind.u32 0,
                    Value.int IntKind.u32 0, Value.int IntKind.u32 0, Value.int IntKind.u32 0, Value.int IntKind.u32 0,
                    Value.int IntKind.u32 0, Value.int IntKind.u32 0, Value.int IntKind.u32 0, Value.int IntKind.u32 0,
                    Value.int IntKind.u32 0] : Array Value) = tab 25 fun _ => Value.int IntKind.u32 0 := by kernel_rfl
theorem setM (m ni : Nat) : (modC m 0 0 0).setIfInBounds 8 (Value.int IntKind.u32 (ni : Int)) = modC m ni 0 0 := by
  unfold modC
  rw [tab_set]
  refine tab_ext _ _ _ fun j _ => ?_
  unfold modF
  by_cases h : j = 8
  · subst h; rfl
  · simp only [if_neg h]
theorem modC_size (m ni o s : Nat) : (modC m ni o s).size = 25 := tab_size _ _
theorem buildM (m ni : Nat) (W : World) : (Instr.build 87 #[(0, .agg (nums m)), (1, .int .u32 (ni : Int))]).run Tryd.prog W = .ok (.agg (modC m ni 0 0)) W := by
  have n1 := nums_size m
  go_simp
  simp only [zer25, foldM, setM, modC_size]
  rfl
theorem oneM (m ni o s v : Nat) : (tab 25 fun j => if 9 ≤ j ∧ j < 9 + 8 then dgs .u32 4294967296 v (j - 9) else modF m ni o s j) = modC m ni v s := tab_ext _ _ _ fun j _ => by
  unfold modF dgs
  by_cases h : 9 ≤ j ∧ j < 9 + 8
  · rw [if_pos h, if_neg (by omega), if_neg (by omega), if_pos (by omega)]; rfl
  · rw [if_neg h]
    by_cases h8 : j < 8
    · simp only [if_pos h8]
    · by_cases h9 : j = 8
      · simp only [if_neg h8, if_pos h9]
      · have h17 : ¬ j < 17 := by omega
        simp only [if_neg h8, if_neg h9, if_neg h17]
theorem squareM (m ni o s v : Nat) : (tab 25 fun j => if 17 ≤ j ∧ j < 17 + 8 then dgs .u32 4294967296 v (j - 17) else modF m ni o s j) = modC m ni o v := tab_ext _ _ _ fun j hj => by
  unfold modF dgs
  by_cases h : 17 ≤ j ∧ j < 17 + 8
  · rw [if_pos h, if_neg (by omega), if_neg (by omega), if_neg (by omega)]; rfl
  · rw [if_neg h]
    by_cases h8 : j < 8
    · simp only [if_pos h8]
    · by_cases h9 : j = 8
      · simp only [if_neg h8, if_pos h9]
      · have h17 : j < 17 := by omega
        simp only [if_neg h8, if_neg h9, if_pos h17]
/-- a number goes into the middle of a block that is known whole: the world behind it, named -/
theorem wpList_store_sub {w : World} {ops : Array Oper} {rest : List Oper} {op : Oper} {a : Act} {Q : Exit → Act → World → Prop} (hgd : op.guard = none) (x y : Operand) (ho : op.op = .store 24 x y)
    (g off : Nat) (hx : a.eval x = .pointer (some ⟨g, off, none⟩)) (v : Nat) (hy : a.eval y = .agg (nums v))
    (N : Nat) (f : Nat → Value) (t : TypeId) (hg : Has w g t (tab N f)) (hfit : off + 8 ≤ N) (cs : Array Value) (hcs : (tab N fun j => if off ≤ j ∧ j < off + 8 then dgs .u32 4294967296 v (j - off) else f j) = cs)
    (h : wpList Tryd.prog ops Q rest (a.put op.dst undef) (w.setRow g cs)) : wpList Tryd.prog ops Q (op :: rest) a w := by
  refine wpList_plain hgd fun K hK => ?_
  have hl : (wordsL v).length = 8 := wordsL_len v
  have hrun := run_storeCells_at (P := Tryd.prog) g off t (wordsL v) 0 (tab N f) w hg (by rw [hl, tab_size]; omega) (fun u hu => by obtain ⟨j, _, rfl⟩ := List.mem_map.1 hu; rfl)
  have e := tab_splice N f (dgs .u32 4294967296 v) off 8 hfit
  rw [hl, Nat.add_zero, List.append_assoc, show wordsL v = (List.range 8).map (dgs .u32 4294967296 v) from rfl, e, hcs] at hrun
  have hi := infoNum v
  rw [nums_size] at hi
  have hs : (storeVar 24 ⟨g, off, none⟩ (.agg (nums v))).run Tryd.prog w = .ok () (w.setRow g cs) := by
    cases hq : Tryd.prog.info? 24 with
    | none => simp [hq] at hi
    | some i =>
      have hs : i.size = 8 := by simpa [hq] using hi
      have hv : (nums v).toList = (List.range 8).map (dgs .u32 4294967296 v) := tab_toList _ _
      simp [storeVar, sizeOf, typeInfo, hq, Value.cells, hs, nums_size, hv, hrun]
  unfold Oper.wp execOp
  simp only [ho, hx, hy, Instr.storeAt, Instr.sureAddr, Sem.run_bind, Sem.run_pure, Result.andThen_ok, hs]
  exact hK _ _ h

/-- the inverse, round by round -/
def invN (o : Nat) : Nat → Nat
  | 0 => 1
  | k + 1 => invN o k * ((4294967298 - o * invN o k % 4294967296) % 4294967296) % 4294967296
theorem invN_lt (o : Nat) : ∀ k, invN o k < 4294967296
  | 0 => by show 1 < 4294967296; decide
  | k + 1 => Nat.mod_lt _ (by decide)
theorem inv_step (o n : Nat) : (4294967296 : Int) ∣ ((n * ((4294967298 - o * n % 4294967296) % 4294967296) % 4294967296 : Nat) : Int) - (n : Int) * (2 - (o : Int) * (n : Int)) := by
  obtain ⟨y, hy⟩ : ∃ y, y = o * n := ⟨_, rfl⟩
  obtain ⟨q, hq⟩ : ∃ q, q = (4294967298 - o * n % 4294967296) % 4294967296 := ⟨_, rfl⟩
  obtain ⟨z, hz⟩ : ∃ z, z = n * q := ⟨_, rfl⟩
  rw [← hq, ← hz, ← Int.natCast_mul, ← hy]
  rw [← hy] at hq
  have h1 : (4294967296 : Int) ∣ ((z % 4294967296 : Nat) : Int) - (z : Int) := by omega
  have h2 : (4294967296 : Int) ∣ (q : Int) - (2 - (y : Int)) := by omega
  have e : ((z % 4294967296 : Nat) : Int) - (n : Int) * (2 - (y : Int)) = (((z % 4294967296 : Nat) : Int) - (z : Int)) + (n : Int) * ((q : Int) - (2 - (y : Int))) := by
    rw [hz, Int.natCast_mul, Int.mul_sub (n : Int) (q : Int)]
    omega
  rw [e]
  exact Int.dvd_add h1 (Int.dvd_mul_of_dvd_right h2)
theorem inv_pow (o : Nat) (ho : o % 2 = 1) : ∀ k, k ≤ 5 → ((2 ^ 2 ^ k : Nat) : Int) ∣ (o : Int) * (invN o k : Int) - 1
  | 0, _ => by
    show ((2 : Nat) : Int) ∣ (o : Int) * ((1 : Nat) : Int) - 1
    omega
  | k + 1, hk => by
    have h := inv_pow o ho k (by omega)
    have e : ((2 ^ 2 ^ (k + 1) : Nat) : Int) = ((2 ^ 2 ^ k : Nat) : Int) * ((2 ^ 2 ^ k : Nat) : Int) := by
      rw [← Int.natCast_mul, ← Nat.pow_add]; congr 2; omega
    have hj : ((2 ^ 2 ^ k : Nat) : Int) * ((2 ^ 2 ^ k : Nat) : Int) ∣ 4294967296 := by
      rcases (show k = 0 ∨ k = 1 ∨ k = 2 ∨ k = 3 ∨ k = 4 by omega) with rfl | rfl | rfl | rfl | rfl <;> decide
    rw [e]
    exact inv_round hj h (inv_step o (invN o k))
theorem inv_end (o : Nat) (ho : o % 2 = 1) : o * invN o 5 % 4294967296 = 1 := by
  have h := inv_pow o ho 5 (by omega)
  have e : ((2 ^ 2 ^ 5 : Nat) : Int) = 4294967296 := by decide
  rw [e, ← Int.natCast_mul] at h
  generalize o * invN o 5 = z at *
  omega
theorem neg_end {m n ni : Nat} (hn : n < 4294967296) (h : m * n % 4294967296 = 1) (hni : ni = 4294967296 - n) : (m * ni + 1) % 4294967296 = 0 := by
  have e : m * ni + m * n = m * 4294967296 := by rw [← Nat.mul_add]; congr 1; omega
  generalize m * ni = z at *
  generalize m * n = y at *
  omega
set_option maxRecDepth 100000 in
set_option maxHeartbeats 1000000 in
theorem inverse_any (o : Nat) (w : World) : Calls Tryd.prog 50 #[.int .u32 (o : Int)] w fun e w' => e = .returned (.int .u32 ((invN o 5 : Nat) : Int)) ∧ w = w' := by
  have hs : ∀ k, invN o (k + 1) = invN o k * ((4294967298 - o * invN o k % 4294967296) % 4294967296) % 4294967296 := fun k => rfl
  have h0 : invN o 0 = 1 := rfl
  have hlt := invN_lt o
  generalize invN o = F at *
  have HS := Lib.hid hs
  have H0 := Lib.hid h0
  have HLT := Lib.hid hlt
  clear hs h0 hlt
  go_enter Tryd.func50, Tryd.ntmps50
  go_wp2_with fail
  go_loopw [3, 4] (fun vn vi wr => ∃ k : Nat, k ≤ 5 ∧ vn = .int .u32 ((F k : Nat) : Int) ∧ vi = .int .i64 (k : Int) ∧ wr = w) (fun _ vi _ => 5 - (intOf vi).toNat)
  case atStart => exact ⟨0, by omega, by rw [H0.out]; rfl, rfl, rfl⟩
  case round =>
    obtain ⟨k, hk, rfl, rfl, rfl⟩ := hrel
    by_cases hlt : k < 5
    · have dk : (k : Int) < 5 := by omega
      obtain ⟨p, hp⟩ : ∃ p, p = o * F k % 4294967296 := ⟨_, rfl⟩
      obtain ⟨q, hq⟩ : ∃ q, q = (4294967298 - p) % 4294967296 := ⟨_, rfl⟩
      obtain ⟨r, hr⟩ : ∃ r, r = F k * q % 4294967296 := ⟨_, rfl⟩
      have e1 : IntKind.u32.wrap ((o : Int) * ((F k : Nat) : Int)) = (p : Int) := by rw [IntKind.wrap_u32, ← Int.natCast_mul, hp]; omega
      have e2 : IntKind.u32.wrap (2 - (p : Int)) = (q : Int) := by rw [IntKind.wrap_u32, hq]; omega
      have e3 : IntKind.u32.wrap (((F k : Nat) : Int) * (q : Int)) = (r : Int) := by rw [IntKind.wrap_u32, ← Int.natCast_mul, hr]; omega
      have hF : F (k + 1) = r := by rw [HS.out, hr, hq, hp]
      clear hp hq hr
      go_wp2_with fail
      go_roundw
      case rel => exact ⟨k + 1, by omega, by rw [hF], by go_num, trivial⟩
      case measure => simp [intOf]; omega
    · have hk5 : k = 5 := by omega
      have dk : ¬ (k : Int) < 5 := by omega
      have HK := Lib.hid (congrArg F hk5)
      generalize F k = y at *
      clear hk5 hlt hk
      go_wp2_with fail
      go_ret
      exact ⟨by rw [← HK.out]; rfl, rfl⟩
theorem dbl_step (a m k : Nat) : (2 ^ k * a % m + 2 ^ k * a % m) % m = 2 ^ (k + 1) * a % m := by
  rw [← Nat.add_mod, ← Nat.two_mul, ← Nat.mul_assoc, Nat.pow_succ, Nat.mul_comm 2]
set_option maxRecDepth 100000 in
set_option maxHeartbeats 1000000 in
theorem doubled_any (a m ni o s g : Nat) (w : World) (hG : Has w g 87 (modC m ni o s)) (ha : a < m) (hm : m < big) :
    Calls Tryd.prog 51 #[.pointer (some ⟨g, 0, none⟩), .agg (nums a)] w fun e w' => e = .returned (.agg (nums (RR * a % m))) ∧ Below w.heap.size w w' := by
  have hk0 : 2 ^ 0 * a % m = a := by rw [Nat.pow_zero, Nat.one_mul, Nat.mod_eq_of_lt ha]
  have hkl := fun k => Nat.mod_lt (2 ^ k * a) (show 0 < m by omega)
  have HSQ := Lib.hid (fun k W h => addm_any (2 ^ k * a % m) (2 ^ k * a % m) m ni o s g W h (hkl k) (hkl k) hm)
  simp only [dbl_step] at HSQ
  have hke : 2 ^ 256 * a % m = RR * a % m := rfl
  have HK := Lib.hid (And.intro hk0 hke)
  clear hk0 hkl hke ha hm
  obtain ⟨F, hF⟩ : ∃ F : Nat → Nat, F = fun k => 2 ^ k * a % m := ⟨_, rfl⟩
  have hf : ∀ k, 2 ^ k * a % m = F k := fun k => by rw [hF]
  rw [hf, hf] at HK
  simp only [hf] at HSQ
  generalize RR * a % m = x at *
  clear hf hF
  have n0 := nums_ne 0
  have hA : Has ((w.alloc (.cells (nums a) 24)).alloc (.cells (nums 0) 24)) (w.heap.size) 24 (nums a) := (Has.new w _ _).alloc _
  have hR : Has ((w.alloc (.cells (nums a) 24)).alloc (.cells (nums 0) 24)) (w.heap.size + 1) 24 (nums 0) := Has.new' (by simp)
  have hb0 : Below w.heap.size w ((w.alloc (.cells (nums a) 24)).alloc (.cells (nums 0) 24)) := ((Below.refl _ _).alloc (Nat.le_refl _) _).alloc (by simp <;> omega) _
  have hgw := hG.lt
  replace hG := hG.after hb0
  go_enter Tryd.func51, Tryd.ntmps51
  go_wp2_with fail
  go_loopw [5] (fun vi wr => ∃ k : Nat, k ≤ 256 ∧ vi = .int .i64 (k : Int) ∧ Has wr w.heap.size 24 (nums (F k)) ∧ Has wr (w.heap.size + 1) 24 (nums 0) ∧ Has wr g 87 (modC m ni o s) ∧ Below w.heap.size w wr) (fun vi _ => 256 - (intOf vi).toNat)
  case atStart => exact ⟨0, by omega, rfl, by rw [HK.out.1]; exact hA, hR, hG, hb0⟩
  case round =>
    obtain ⟨k, hk, rfl, h1, h2, h3, hb⟩ := hrel
    clear hA hR hG hb0
    by_cases hlt : k < 256
    · have dk : (k : Int) < 256 := by omega
      go_wp2_with (first | refine wpList_load_has 24 _ rfl _ rfl rfl 24 _ h1 _ Tryd.underlying24 rfl (infoNum _) ?_)
      refine (HSQ.out k _ h3).mono ?_
      rintro z w2 ⟨rfl, hx⟩
      replace h1 := h1.after hx
      replace h2 := h2.after hx
      replace h3 := h3.after hx
      replace hb := below_trans hb hx
      have h1' := h1.setRow (nums (F (k + 1)))
      replace h2 := h2.farRow (k := w.heap.size) (by omega) (nums (F (k + 1)))
      replace h3 := h3.farRow (k := w.heap.size) (by omega) (nums (F (k + 1)))
      replace hb := below_setRow hb (g := w.heap.size) (by omega) (nums (F (k + 1)))
      clear hx
      go_wp2_with (first | refine wpList_store_row rfl 24 _ _ rfl (w.heap.size) _ rfl rfl 24 _ h1 (infoNum _) (by simp only [nums_size]) (tab_oneCell _ _ fun _ => rfl) ?_)
      go_roundw
      case rel => exact ⟨k + 1, by omega, by go_num, h1', h2, h3, hb⟩
      case measure => simp [intOf]; omega
    · have hk8 : k = 256 := by omega
      have dk : ¬ (k : Int) < 256 := by omega
      rw [hk8, HK.out.2] at h1
      clear hlt hk hk8 h3
      go_wp2_with (first | refine wpList_load_has 24 _ rfl _ rfl rfl 24 _ h1 _ Tryd.underlying24 rfl (infoNum _) ?_ | refine wpList_store_row rfl 24 _ _ rfl (w.heap.size + 1) _ rfl rfl 24 _ h2 (infoNum _) (by simp only [nums_size]) (tab_oneCell _ _ fun _ => rfl) ?_)
      exact bodyPost_ret (v := .agg (nums x)) (results_cell_row rfl _ _ (w.heap.size + 1) 24 _ _ _ rfl (h2.setRow _) Tryd.underlying24 rfl (infoNum _)) rfl ⟨rfl, below_setRow hb (by omega) _⟩
end Go.Proofs.YtmgmfifkldpbmaaDoor
namespace Go.Proofs.YtmgmfifkldpbmaaDoor
open Go.RowKit

theorem wpQ_parts {P : Program} {ops : Array Oper} {rest : List Oper} {o : Oper} {a : Act} {C : World → Prop} {L : Act → Prop} (t : TypeId) (ps : Array (Nat × Operand)) (ho : o.op = .build t ps) (hw : Region.wanted o (yielded ops a.tmps) = true) (vs : Array (Nat × Value)) (hvs : (ps.map fun p => (p.1, a.eval p.2)) = vs) (v : Value)
    (hrun : ∀ w, C w → (Instr.build t vs).run P w = .ok v w) (h : wpQuiet P ops C L rest (a.put o.dst v)) : wpQuiet P ops C L (o :: rest) a :=
  wpQ_val hw v (fun w hC => by
    have e := hrun w hC
    rw [← hvs] at e
    simp only [execOp, ho]
    rw [Sem.run_bind, e]
    rfl) h
theorem addr8 (g j : Nat) (hj : j < 8) (w : World) : (Instr.indexAt 24 (.pointer (some ⟨g, 0, none⟩)) (.int .i64 (j : Int))).run Tryd.prog w = .ok (.pointer (some ⟨g, j, none⟩)) w := by
  have h1 : (j : Int) < 8 := by omega
  go_simp
theorem cell_u32 (g j : Nat) (v : Value) (w : World) (h : w.cell? ⟨g, j, none⟩ = some v) : (Instr.loadAt 22 (.pointer (some ⟨g, j, none⟩))).run Tryd.prog w = .ok v w := by
  go_simp
theorem negU (x y : Int) (h : IntKind.u32.wrap (-x) = y) (w : World) : (Op.unary .neg (.int .u32 x)).run Tryd.prog w = .ok (.int .u32 y) w := by
  subst h
  go_simp
attribute [local go_sem] zeroNum md1 md2
set_option maxRecDepth 100000 in
set_option maxHeartbeats 1000000 in
theorem minv_any (a m g : Nat) (w : World) (h : IsMod w g m) (ha : a < m) : Calls Tryd.prog 62 #[.pointer (some ⟨g, 0, none⟩), .agg (nums a)] w fun z w' => z = .returned (.agg (nums (powN m a (m - 2)))) ∧ Below w.heap.size w w' := by
  obtain ⟨hm, h1, h2⟩ := h.facts
  have cS := fun W => sub_any m 2 W hm (by decide +kernel)
  have e : nums (m + big - 2) = nums (m - 2) := by rw [← nums_mod (m + big - 2), show m + big - 2 = (m - 2) + big by omega, Nat.add_mod_right, nums_mod]
  rw [e] at cS
  have cP := fun W h => mpow_any a (m - 2) m g W h ha (by omega)
  clear e ha hm h1 h2
  generalize powN m a (m - 2) = x at *
  generalize m - 2 = d at *
  generalize under m 2 = u at *
  have n0 := nums_ne 0
  have hA : Has ((w.alloc (.cells (nums a) 24)).alloc (.cells (nums 0) 24)) (w.heap.size) 24 (nums a) := (Has.new w _ _).alloc _
  have hR : Has ((w.alloc (.cells (nums a) 24)).alloc (.cells (nums 0) 24)) (w.heap.size + 1) 24 (nums 0) := Has.new' (by simp)
  have hb0 : Below w.heap.size w ((w.alloc (.cells (nums a) 24)).alloc (.cells (nums 0) 24)) := ((Below.refl _ _).alloc (Nat.le_refl _) _).alloc (by simp <;> omega) _
  replace h := h.after hb0
  have hG : ∃ ni, Has ((w.alloc (.cells (nums a) 24)).alloc (.cells (nums 0) 24)) g 87 (modC m ni (RR % m) (RR * RR % m)) := by obtain ⟨ni, _, _, _, _, _, h⟩ := h; exact ⟨ni, h⟩
  obtain ⟨ni, hG⟩ := hG
  go_enter Tryd.func62, Tryd.ntmps62
  go_wp2_with (first | refine wpList_load_num rfl _ rfl _ 0 rfl _ (mod_words hG) ?_)
  refine (cS _).mono ?_
  rintro z w1 ⟨rfl, hx⟩
  have hN := put_new w1 24 (nums 0) (nums d)
  replace hA := (hA.after hx).after hN.2
  replace hR := (hR.after hx).after hN.2
  replace h := (h.after hx).after hN.2
  replace hb0 := below_trans (below_trans hb0 hx) hN.2
  have hD := hN.1
  clear hx hN hG cS
  go_wp2_with (first | refine wpList_store_row rfl 24 _ _ rfl w1.heap.size _ rfl rfl 24 (nums 0) (Has.new' rfl) (infoNum _) (by simp only [nums_size]) (tab_oneCell _ _ fun _ => rfl) ?_ | refine wpList_load_has 24 _ rfl _ rfl rfl 24 _ hA _ Tryd.underlying24 rfl (infoNum _) ?_ | refine wpList_load_has 24 _ rfl _ rfl rfl 24 _ hD _ Tryd.underlying24 rfl (infoNum _) ?_)
  refine (cP _ h).mono ?_
  rintro z w2 ⟨rfl, hx⟩
  replace hR := hR.after hx
  replace hb0 := below_trans hb0 hx
  go_wp2_with (first | refine wpList_store_row rfl 24 _ _ rfl (w.heap.size + 1) _ rfl rfl 24 _ hR (infoNum _) (by simp only [nums_size]) (tab_oneCell _ _ fun _ => rfl) ?_)
  exact bodyPost_ret (v := .agg (nums x)) (results_cell_row rfl _ _ (w.heap.size + 1) 24 _ _ _ rfl (hR.setRow _) Tryd.underlying24 rfl (infoNum _)) rfl ⟨rfl, below_setRow hb0 (by omega) _⟩
theorem bit0 (m b : Nat) (h : m % 2 = b) (W : World) : Calls Tryd.prog 42 #[.agg (nums m), .int .i64 0] W fun e w' => e = .returned (.int .u32 (b : Int)) ∧ Below W.heap.size W w' := by
  have e := bit_any m 0 W (by omega)
  have hb : bitN m 0 = b := by unfold bitN; rw [Nat.pow_zero, Nat.div_one]; exact h
  rw [hb] at e
  exact e
attribute [local go_sem] zeroNum md1 md2
set_option maxRecDepth 100000 in
set_option maxHeartbeats 1000000 in
theorem new_any (m : Nat) (w : World) (hodd : m % 2 = 1) (h1 : 1 < m) (hm : m < big) :
    Calls Tryd.prog 28 #[.agg (nums m)] w fun e w' => (∃ g, e = .returned (.tuple #[.pointer (some ⟨g, 0, none⟩), .int .i64 0]) ∧ IsMod w' g m) ∧ Below w.heap.size w w' := by
  have cB := fun W => bit0 m 1 hodd W
  have he := eql_nums hm (show 1 < big by decide +kernel)
  have hsm : sameN m 1 = false := decide_eq_false (by omega)
  rw [hsm] at he
  have ho : wrd m 0 % 2 = 1 := by have : wrd m 0 = m % 4294967296 := by (unfold wrd dg; rw [Nat.pow_zero, Nat.div_one])
                                  omega
  have hinv := inv_end (wrd m 0) ho
  have cV := fun W => (inverse_any (wrd m 0) W).mono (fun e w' (h : _ ∧ W = w') => (⟨h.1, by rw [← h.2]; exact Below.refl _ _⟩ : _ ∧ Below W.heap.size W w'))
  have hlt := invN_lt (wrd m 0) 5
  generalize invN (wrd m 0) 5 = n at *
  obtain ⟨ni, hni⟩ : ∃ ni, ni = 4294967296 - n := ⟨_, rfl⟩
  have hn0 : n ≠ 0 := fun h => by rw [h, Nat.mul_zero] at hinv; omega
  have hneg : IntKind.u32.wrap (-(n : Int)) = (ni : Int) := by rw [IntKind.wrap_u32]; omega
  have hnl : ni < 4294967296 := by omega
  have hw0 : wrd m 0 = m % BB := by unfold wrd dg; rw [Nat.pow_zero, Nat.div_one]
  have hend : (m % BB * ni + 1) % BB = 0 := by rw [← hw0]; exact neg_end hlt hinv hni
  have buildV := buildM m ni
  have cD1 := fun o s g W h => doubled_any 1 m ni o s g W h h1 hm
  have cD2 := fun o s g W h => doubled_any (RR % m) m ni o s g W h (Nat.mod_lt _ (by omega)) hm
  have e1 : RR * 1 % m = RR % m := by rw [Nat.mul_one]
  have e2 : RR * (RR % m) % m = RR * RR % m := by rw [Nat.mul_mod, Nat.mod_mod, ← Nat.mul_mod]
  simp only [e1] at cD1
  simp only [e2] at cD2
  have hI : ∀ (w' : World) (g : Nat), Has w' g 87 (modC m ni (RR % m) (RR * RR % m)) → IsMod w' g m := fun w' g h => ⟨ni, hnl, hend, hodd, h1, hm, h⟩
  have HI := Lib.hid hI
  have HD1 := Lib.hid cD1
  have HD2 := Lib.hid cD2
  clear hI e1 e2 cD1 cD2 hni hn0 hlt hinv ho hsm hodd h1 hm hnl hend hw0
  generalize RR % m = x at *
  generalize RR * RR % m = y at *
  have n0 := nums_ne 0
  have hA : Has (w.alloc (.cells (nums m) 24)) (w.heap.size) 24 (nums m) := Has.new w _ _
  have hb0 : Below w.heap.size w (w.alloc (.cells (nums m) 24)) := (Below.refl _ _).alloc (Nat.le_refl _) _
  go_enter Tryd.func28, Tryd.ntmps28
  go_wp2_with (first | refine wpList_load_has 24 _ rfl _ rfl rfl 24 _ hA _ Tryd.underlying24 rfl (infoNum _) ?_)
  refine (cB _).mono ?_
  rintro e w1 ⟨rfl, hx⟩
  replace hA := hA.after hx
  replace hb0 := below_trans hb0 hx
  clear hx cB
  go_wp2_with (first | refine wpList_load_has 24 _ rfl _ rfl rfl 24 _ hA _ Tryd.underlying24 rfl (infoNum _) ?_)
  refine region_quiet_tail (Below w1.heap.size w1) 6 (by kernel_rfl) (by kernel_rfl) (below_drewN (Below.refl _ _) 1) ?_
  simp only [List.take_succ_cons, List.take_zero, List.drop_succ_cons, List.drop_zero]
  refine wpQ_has 24 _ rfl _ rfl rfl 24 _ (fun w' hC => hA.after hC) _ Tryd.underlying24 rfl (infoNum _) ?_
  simp only [Act.put, List.setIfInBounds_toArray, List.set_cons_zero, List.set_cons_succ]
  refine wpQ_val rfl (.pointer (some ⟨w.heap.size, 0, none⟩)) (fun w' _ => by go_simp) ?_
  simp only [Act.put, List.setIfInBounds_toArray, List.set_cons_zero, List.set_cons_succ]
  refine wpQ_load 22 _ rfl rfl _ rfl (.int .u32 ((wrd m 0 : Nat) : Int)) (fun w' hC => cell_u32 _ _ _ w' (nums_at (hA.after hC) 0 (by omega))) ?_
  simp only [Act.put, List.setIfInBounds_toArray, List.set_cons_zero, List.set_cons_succ]
  refine wpQ_fn 50 _ _ rfl rfl #[.int .u32 ((wrd m 0 : Nat) : Int)] rfl (fun _ => by go_simp) (.int .u32 (n : Int)) (fun w' hC => (cV w').mono fun e w'' ⟨he, hb⟩ => ⟨he, below_class hC hb⟩) ?_
  simp only [Act.put, List.setIfInBounds_toArray, List.set_cons_zero, List.set_cons_succ]
  refine wpQ_un _ _ _ rfl rfl (.int .u32 (n : Int)) rfl (.int .u32 (ni : Int)) (fun w' _ => negU _ _ hneg w') ?_
  simp only [Act.put, List.setIfInBounds_toArray, List.set_cons_zero, List.set_cons_succ]
  refine wpQ_parts 87 _ rfl rfl #[(0, .agg (nums m)), (1, .int .u32 (ni : Int))] (by simp only [List.map_toArray, List.map_cons, List.map_nil]; rfl) (.agg (modC m ni 0 0)) (fun w' _ => buildV w') ?_
  simp only [Act.put, List.setIfInBounds_toArray, List.set_cons_zero, List.set_cons_succ]
  refine wpQuiet_nil ?_
  intro w2 hC
  replace hb0 := below_trans hb0 hC
  have hgw := hb0.size
  have hG : Has (w2.alloc (.cells (modC m ni 0 0) 87)) w2.heap.size 87 (modC m ni 0 0) := Has.new _ _ _
  replace hb0 := hb0.alloc hgw (.cells (modC m ni 0 0) 87)
  clear hC hA cV hneg buildV he
  go_wp2_with fail
  generalize hWW : w2.alloc _ = W at *
  clear hWW
  generalize w2.heap.size = g at *
  refine (HD1.out _ _ _ _ hG).mono ?_
  rintro z w3 ⟨rfl, hx⟩
  replace hG := hG.after hx
  replace hb0 := below_trans hb0 hx
  have hG2 := hG.setRow (modC m ni x 0)
  replace hb0 := below_setRow hb0 (g := g) hgw (modC m ni x 0)
  clear hx
  go_wp2_with (first | refine wpList_store_sub rfl _ _ rfl g 9 rfl x rfl 25 (modF m ni 0 0) 87 hG (by omega) (modC m ni x 0) (oneM m ni 0 0 x) ?_ | refine wpList_load_num rfl _ rfl _ 9 rfl _ (mod_one hG2) ?_)
  refine (HD2.out _ _ _ _ hG2).mono ?_
  rintro z w4 ⟨rfl, hx⟩
  replace hG2 := hG2.after hx
  replace hb0 := below_trans hb0 hx
  have hG3 := hG2.setRow (modC m ni x y)
  replace hb0 := below_setRow hb0 (g := g) hgw (modC m ni x y)
  clear hx hG
  go_wp2_with (first | refine wpList_store_sub rfl _ _ rfl g 17 rfl y rfl 25 (modF m ni x 0) 87 hG2 (by omega) (modC m ni x y) (squareM m ni x 0 y) ?_)
  go_ret2
  exact ⟨⟨g, rfl, HI.out _ _ hG3⟩, hb0⟩
attribute [local go_sem] zeroNum md1 md2
set_option maxRecDepth 100000 in
set_option maxHeartbeats 1000000 in
theorem new_bad_any (m : Nat) (w : World) (hm : m < big) (hbad : m % 2 = 0 ∨ m = 1) :
    Calls Tryd.prog 28 #[.agg (nums m)] w fun e w' => e = .returned (.tuple #[.pointer none, .int .i64 1]) ∧ Below w.heap.size w w' := by
  have he := eql_nums hm (show 1 < big by decide +kernel)
  have n0 := nums_ne 0
  have hA : Has (w.alloc (.cells (nums m) 24)) (w.heap.size) 24 (nums m) := Has.new w _ _
  have hb0 : Below w.heap.size w (w.alloc (.cells (nums m) 24)) := (Below.refl _ _).alloc (Nat.le_refl _) _
  by_cases hz : m % 2 = 0
  · have cB := fun W => bit0 m 0 hz W
    clear hbad he hz
    go_enter Tryd.func28, Tryd.ntmps28
    go_wp2_with (first | refine wpList_load_has 24 _ rfl _ rfl rfl 24 _ hA _ Tryd.underlying24 rfl (infoNum _) ?_)
    refine (cB _).mono ?_
    rintro e w1 ⟨rfl, hx⟩
    replace hb0 := below_trans hb0 hx
    clear hx cB hA
    go_wp2_with fail
    go_ret2
    exact ⟨rfl, hb0⟩
  · have h1 : m = 1 := by omega
    have cB := fun W => bit0 m 1 (by omega) W
    have hsm : sameN m 1 = true := decide_eq_true h1
    rw [hsm] at he
    clear hbad hz h1 hsm
    go_enter Tryd.func28, Tryd.ntmps28
    go_wp2_with (first | refine wpList_load_has 24 _ rfl _ rfl rfl 24 _ hA _ Tryd.underlying24 rfl (infoNum _) ?_)
    refine (cB _).mono ?_
    rintro e w1 ⟨rfl, hx⟩
    replace hA := hA.after hx
    replace hb0 := below_trans hb0 hx
    clear hx cB
    go_wp2_with (first | refine wpList_load_has 24 _ rfl _ rfl rfl 24 _ hA _ Tryd.underlying24 rfl (infoNum _) ?_)
    go_ret2
    exact ⟨rfl, hb0⟩
end Go.Proofs.YtmgmfifkldpbmaaDoor
namespace Go.Proofs.YtmgmfifkldpbmaaDoor.Ec

/-- the integers modulo the prime of P-256 -/
abbrev FP : Type := Fin 115792089210356248762697446949407573530086143415290314195533631308867097853951
/-- they are a field -/
structure Fld : Prop where
  nzd : ∀ a b : FP, a * b = 0 → a = 0 ∨ b = 0
  inv : ∀ a : FP, a ≠ 0 → ∃ b, a * b = 1
/-- the curve's numbers make a curve without a singular point -/
def Smooth (a b : FP) : Prop := 4 * (a * a * a) + 27 * (b * b) ≠ 0

theorem two_ne : (2 : FP) ≠ 0 := by decide
theorem Fld.cancel (F : Fld) {c a b : FP} (h : c * a = c * b) (hc : c ≠ 0) : a = b := by
  have h2 : c * (a - b) = 0 := by grobner
  rcases F.nzd _ _ h2 with h3 | h3
  · exact absurd h3 hc
  · grobner
theorem Fld.mul_ne (F : Fld) {a b : FP} (ha : a ≠ 0) (hb : b ≠ 0) : a * b ≠ 0 := fun h => (F.nzd a b h).elim ha hb
theorem Fld.dbl_ne (F : Fld) {a : FP} (ha : a ≠ 0) : 2 * a ≠ 0 := F.mul_ne two_ne ha
theorem sub_ne {a b : FP} (h : a ≠ b) : a - b ≠ 0 := fun e => h (by grobner)
noncomputable def finv (x : FP) : FP := Classical.epsilon fun y => x * y = 1
theorem Fld.finv_mul (F : Fld) {x : FP} (h : x ≠ 0) : x * finv x = 1 := Classical.epsilon_spec (F.inv x h)

abbrev Pnt := Option (FP × FP)
/-- on the curve -/
def On (a b : FP) : Pnt → Prop
  | none => True
  | some (x, y) => y * y = x * x * x + a * x + b
def neg : Pnt → Pnt
  | none => none
  | some (x, y) => some (x, 0 - y)
noncomputable def slope (a x1 y1 x2 y2 : FP) : FP := if x1 = x2 then (3 * (x1 * x1) + a) * finv (2 * y1) else (y2 - y1) * finv (x2 - x1)
def thirdX (l x1 x2 : FP) : FP := l * l - x1 - x2
def thirdY (l x1 y1 x2 : FP) : FP := l * (x1 - (l * l - x1 - x2)) - y1
noncomputable def add (a : FP) : Pnt → Pnt → Pnt
  | none, Q => Q
  | some P, none => some P
  | some (x1, y1), some (x2, y2) => if x1 = x2 ∧ y1 + y2 = 0 then none else some (thirdX (slope a x1 y1 x2 y2) x1 x2, thirdY (slope a x1 y1 x2 y2) x1 y1 x2)

/-- three points on a line of slope l, as often as the line meets the curve there -/
structure Col (a x1 y1 x2 y2 x3 y3 l : FP) : Prop where
  h2 : y2 = y1 + l * (x2 - x1)
  h3 : y3 = y1 + l * (x3 - x1)
  e1 : x1 + x2 + x3 = l * l
  e2 : x1 * x2 + x1 * x3 + x2 * x3 = a - 2 * l * (y1 - l * x1)

section
variable {a b x1 y1 x2 y2 x3 y3 l : FP}
theorem Col.swap (h : Col a x1 y1 x2 y2 x3 y3 l) : Col a x2 y2 x1 y1 x3 y3 l := by
  obtain ⟨h2, h3, e1, e2⟩ := h
  exact ⟨by grobner, by grobner, by grobner, by grobner⟩
theorem Col.rot (h : Col a x1 y1 x2 y2 x3 y3 l) : Col a x2 y2 x3 y3 x1 y1 l := by
  obtain ⟨h2, h3, e1, e2⟩ := h
  exact ⟨by grobner, by grobner, by grobner, by grobner⟩
theorem Col.neg (h : Col a x1 y1 x2 y2 x3 y3 l) : Col a x1 (0 - y1) x2 (0 - y2) x3 (0 - y3) (0 - l) := by
  obtain ⟨h2, h3, e1, e2⟩ := h
  exact ⟨by grobner, by grobner, by grobner, by grobner⟩
/-- the third point is on the curve -/
theorem Col.on (h : Col a x1 y1 x2 y2 x3 y3 l) (o1 : On a b (some (x1, y1))) : On a b (some (x3, y3)) := by
  obtain ⟨h2, h3, e1, e2⟩ := h
  simp only [On] at *
  grobner
theorem on_neg {P : Pnt} (h : On a b P) : On a b (Ec.neg P) := by
  match P with
  | none => trivial
  | some (x, y) => simp only [On, Ec.neg] at *; grobner
theorem neg_neg (P : Pnt) : Ec.neg (Ec.neg P) = P := by
  match P with
  | none => rfl
  | some (x, y) => simp only [Ec.neg]; congr 2; grobner
/-- a sum that is not at infinity lies on a line with the two -/
theorem add_col (F : Fld) (o1 : On a b (some (x1, y1))) (o2 : On a b (some (x2, y2))) (h : ¬ (x1 = x2 ∧ y1 + y2 = 0)) :
    ∃ x3 y3 l, add a (some (x1, y1)) (some (x2, y2)) = some (x3, 0 - y3) ∧ Col a x1 y1 x2 y2 x3 y3 l := by
  refine ⟨thirdX (slope a x1 y1 x2 y2) x1 x2, 0 - thirdY (slope a x1 y1 x2 y2) x1 y1 x2, slope a x1 y1 x2 y2, ?_, ?_⟩
  · simp only [add, if_neg h]; congr 2; grobner
  · simp only [On] at o1 o2
    by_cases hx : x1 = x2
    · subst hx
      have hs : slope a x1 y1 x1 y2 = (3 * (x1 * x1) + a) * finv (2 * y1) := by simp [slope]
      have hy : y1 + y2 ≠ 0 := fun e => h ⟨rfl, e⟩
      have hyy : y1 = y2 := by
        have h2 : (y1 + y2) * (y1 - y2) = 0 := by grobner
        rcases F.nzd _ _ h2 with h3 | h3
        · exact absurd h3 hy
        · grobner
      subst hyy
      have hi := F.finv_mul (x := 2 * y1) (fun e => hy (by grobner))
      generalize slope a x1 y1 x1 y1 = l at *
      generalize finv (2 * y1) = i at *
      unfold thirdX thirdY
      exact ⟨by grobner, by grobner, by grobner, by grobner⟩
    · have hs : slope a x1 y1 x2 y2 = (y2 - y1) * finv (x2 - x1) := by simp [slope, hx]
      have hd : x2 - x1 ≠ 0 := sub_ne (Ne.symm hx)
      have hi := F.finv_mul hd
      have hl : slope a x1 y1 x2 y2 * (x2 - x1) = y2 - y1 := by rw [hs]; grobner
      generalize slope a x1 y1 x2 y2 = l at *
      clear hs hi
      unfold thirdX thirdY
      refine ⟨by grobner, by grobner, by grobner, ?_⟩
      refine F.cancel ?_ hd
      grobner
/-- .. and it is the only one -/
theorem col_add (F : Fld) (S : Smooth a b) (o1 : On a b (some (x1, y1))) (o2 : On a b (some (x2, y2))) (h : Col a x1 y1 x2 y2 x3 y3 l) :
    add a (some (x1, y1)) (some (x2, y2)) = some (x3, 0 - y3) := by
  have hn : ¬ (x1 = x2 ∧ y1 + y2 = 0) := by
    rintro ⟨rfl, hy⟩
    obtain ⟨h2, h3, e1, e2⟩ := h
    simp only [On] at o1 o2
    have hy0 : y1 = 0 := by
      have : 2 * y1 = 2 * 0 := by grobner
      exact F.cancel this two_ne
    have ht : 3 * (x1 * x1) + a = 0 := by grobner
    subst hy0
    exact S (by grobner)
  obtain ⟨x4, y4, m, hadd, hc⟩ := add_col F o1 o2 hn
  rw [hadd]
  have hlm : l = m := by
    obtain ⟨h2, h3, e1, e2⟩ := h
    obtain ⟨g2, g3, f1, f2⟩ := hc
    by_cases hx : x1 = x2
    · subst hx
      have hy2 : y2 = y1 := by grobner
      have hy : 2 * y1 ≠ 0 := fun e => hn ⟨rfl, by grobner⟩
      refine F.cancel (c := 2 * y1) ?_ hy
      grobner
    · refine F.cancel (c := x2 - x1) ?_ (sub_ne (Ne.symm hx))
      clear h3 e1 e2 g3 f1 f2 o1 o2 hadd
      grobner
  subst hlm
  have hx3 : x3 = x4 := by have := h.e1; have := hc.e1; grobner
  have hy3 : y3 = y4 := by have := h.h3; have := hc.h3; rw [hx3] at *; grobner
  rw [hx3, hy3]
theorem add_none (a : FP) (P : Pnt) : add a P none = P := by
  match P with
  | none => rfl
  | some (x, y) => rfl
theorem none_add (a : FP) (P : Pnt) : add a none P = P := rfl
theorem add_neg (a : FP) (P : Pnt) : add a P (Ec.neg P) = none := by
  match P with
  | none => rfl
  | some (x, y) =>
    simp only [Ec.neg, add]
    rw [if_pos ⟨trivial, by grobner⟩]
theorem add_comm (F : Fld) (S : Smooth a b) {P Q : Pnt} (hP : On a b P) (hQ : On a b Q) : add a P Q = add a Q P := by
  match P, Q with
  | none, Q => rw [add_none, none_add]
  | some (x1, y1), none => rfl
  | some (x1, y1), some (x2, y2) =>
    by_cases h : x1 = x2 ∧ y1 + y2 = 0
    · have h2 : x2 = x1 ∧ y2 + y1 = 0 := ⟨h.1.symm, by have := h.2; grobner⟩
      simp only [add, if_pos h, if_pos h2]
    · obtain ⟨x3, y3, l, e, hc⟩ := add_col F hP hQ h
      rw [e, col_add F S hQ hP hc.swap]
theorem add_on (F : Fld) {P Q : Pnt} (hP : On a b P) (hQ : On a b Q) : On a b (add a P Q) := by
  match P, Q with
  | none, Q => exact hQ
  | some (x1, y1), none => exact hP
  | some (x1, y1), some (x2, y2) =>
    by_cases h : x1 = x2 ∧ y1 + y2 = 0
    · simp only [add, if_pos h, On]
    · obtain ⟨x3, y3, l, e, hc⟩ := add_col F hP hQ h
      rw [e]
      exact on_neg (P := some (x3, y3)) (hc.on hP)
/-- a sum, and one of the two taken away again -/
theorem neg_add_cancel (F : Fld) (S : Smooth a b) {P Q : Pnt} (hP : On a b P) (hQ : On a b Q) : add a (Ec.neg P) (add a P Q) = Q := by
  match P, Q with
  | none, Q => rfl
  | some (x1, y1), none =>
    rw [add_none]
    have := add_neg a (Ec.neg (some (x1, y1)))
    rw [neg_neg] at this
    exact this
  | some (x1, y1), some (x2, y2) =>
    by_cases h : x1 = x2 ∧ y1 + y2 = 0
    · have e : add a (some (x1, y1)) (some (x2, y2)) = none := by simp only [add, if_pos h]
      rw [e, add_none]
      obtain ⟨h1, h2⟩ := h
      simp only [Ec.neg]
      congr 2
      grobner
    · obtain ⟨x3, y3, l, e, hc⟩ := add_col F hP hQ h
      rw [e]
      have o1 := on_neg hP
      have o3 := on_neg (P := some (x3, y3)) (hc.on hP)
      have := col_add F S o1 o3 hc.neg.swap.rot
      simp only [Ec.neg] at *
      rw [this]
      congr 2
      grobner
theorem lin2 {A B P1 Q1 P2 Q2 : FP} (c1 c2 : FP) (h1 : P1 = Q1) (h2 : P2 = Q2) (e : A - B = c1 * (P1 - Q1) + c2 * (P2 - Q2)) : A = B := by
  subst h1 h2
  have z1 : P1 - P1 = 0 := by grobner
  have z2 : P2 - P2 = 0 := by grobner
  rw [z1, z2] at e
  grobner
section
variable {x4 y4 x5 y5 x6 y6 m n : FP}
theorem idy5 (k3 : x1 * x2 + x1 * (l * l - x1 - x2) + x2 * (l * l - x1 - x2) + 2 * l * (y1 - l * x1) = x2 * x3 + x2 * (m * m - x2 - x3) + x3 * (m * m - x2 - x3) + 2 * m * (y1 + l * (x2 - x1) - m * x2)) (hk : (l - m) * (n + l) = x1 - x3) :
    (l - m) * (0 - (y1 + l * (x2 - x1) + m * (m * m - x2 - x3 - x2))) = (l - m) * (y1 + (n + l - m) * (m * m - x2 - x3 - x1)) := by
  refine lin2 (0 - (m * m - x2 - x3 - x1)) (0 - 1) hk k3 ?_
  clear k3 hk
  grobner
theorem idx6 (hk : (l - m) * (n + l) = x1 - x3) : x1 + (m * m - x2 - x3) + (n * n - (l * l - x1 - x2) - x3) = (n + l - m) * (n + l - m) := by
  refine lin2 (0 - 2) 0 hk hk ?_
  clear hk
  grobner
theorem idy6 (hk : (l - m) * (n + l) = x1 - x3) : (y1 + l * (x2 - x1)) + m * (x3 - x2) + n * (n * n - (l * l - x1 - x2) - x3 - x3) = y1 + (n + l - m) * (n * n - (l * l - x1 - x2) - x3 - x1) := by
  refine lin2 (0 - (n - m) + (l - m)) 0 hk hk ?_
  clear hk
  grobner
theorem ide2 (k3 : x1 * x2 + x1 * (l * l - x1 - x2) + x2 * (l * l - x1 - x2) + 2 * l * (y1 - l * x1) = x2 * x3 + x2 * (m * m - x2 - x3) + x3 * (m * m - x2 - x3) + 2 * m * (y1 + l * (x2 - x1) - m * x2)) (hk : (l - m) * (n + l) = x1 - x3) :
    (l - m) * (x1 * (m * m - x2 - x3) + x1 * (n * n - (l * l - x1 - x2) - x3) + (m * m - x2 - x3) * (n * n - (l * l - x1 - x2) - x3)) = (l - m) * (x1 * x2 + x1 * (l * l - x1 - x2) + x2 * (l * l - x1 - x2) + 2 * l * (y1 - l * x1) - 2 * (n + l - m) * (y1 - (n + l - m) * x1)) := by
  refine lin2 (0 - l * m * m - 2 * l * x1 + l * x3 + m * m * n + 3 * m * x1 + m * x2 - n * x1 - n * x2 - n * x3) (n - m) hk k3 ?_
  clear k3 hk
  grobner
theorem idk (k3 : x1 * x2 + x1 * (l * l - x1 - x2) + x2 * (l * l - x1 - x2) + 2 * l * (y1 - l * x1) = x2 * x3 + x2 * (m * m - x2 - x3) + x3 * (m * m - x2 - x3) + 2 * m * (y1 + l * (x2 - x1) - m * x2))
    (e : (y1 + l * (x2 - x1) + m * (x3 - x2)) + (y1 + l * (l * l - x1 - x2 - x1)) = n * (x3 - (l * l - x1 - x2))) : (x3 - (l * l - x1 - x2)) * ((l - m) * (n + l)) = (x3 - (l * l - x1 - x2)) * (x1 - x3) := by
  refine lin2 1 (0 - (l - m)) k3 e ?_
  clear k3 e
  grobner
theorem idt (d : 0 - (y1 + l * (x3 - (l * l - x2 - x3))) = y1 + l * (x2 - (l * l - x2 - x3)) + m * (x3 - x2))
    (c : x3 * x3 + 2 * x3 * (n * n - 2 * x3) = (l * l - x2 - x3) * x2 + (l * l - x2 - x3) * x3 + x2 * x3 + 2 * l * (y1 - l * (l * l - x2 - x3)) - 2 * n * (0 - (y1 + l * (x3 - (l * l - x2 - x3))) - n * x3)) :
    (x3 - x2) * ((l - m) * (n + l)) = (x3 - x2) * (l * l - x2 - x3 - x3) := by
  refine lin2 (0 - 1) (l + n) c d ?_
  clear c d
  grobner
theorem e1_sub (h : x1 + x2 + x3 = l * l) : x3 = l * l - x1 - x2 := by grobner
theorem e1_sub1 (h : x1 + x2 + x3 = l * l) : x1 = l * l - x2 - x3 := by grobner
theorem k3_of (a5 : x1 * x2 + x1 * x4 + x2 * x4 = a - 2 * l * (y1 - l * x1)) (b5 : x2 * x3 + x2 * x5 + x3 * x5 = a - 2 * m * (y2 - m * x2)) :
    x1 * x2 + x1 * x4 + x2 * x4 + 2 * l * (y1 - l * x1) = x2 * x3 + x2 * x5 + x3 * x5 + 2 * m * (y2 - m * x2) := by grobner
theorem a_of (a5 : x1 * x2 + x1 * x4 + x2 * x4 = a - 2 * l * (y1 - l * x1)) : a = x1 * x2 + x1 * x4 + x2 * x4 + 2 * l * (y1 - l * x1) := by grobner
theorem y6_of (c2 : y3 = 0 - y4 + n * (x3 - x4)) (c3 : y6 = 0 - y4 + n * (x6 - x4)) : y6 = y3 + n * (x6 - x3) := by
  subst c2 c3
  grobner
theorem c_of (c2 : y3 = 0 - y4 + n * (x3 - x4)) : y3 + y4 = n * (x3 - x4) := by
  subst c2
  grobner
theorem x6_of (c4 : x3 + x3 + x6 = n * n) : x6 = n * n - 2 * x3 := by grobner
theorem cc_of (c5 : x3 * x3 + x3 * x6 + x3 * x6 = a - 2 * n * (y3 - n * x3)) : x3 * x3 + 2 * x3 * x6 = a - 2 * n * (y3 - n * x3) := by grobner
theorem nine (F : Fld) (h1 : Col a x1 y1 x2 y2 x4 y4 l) (h2 : Col a x2 y2 x3 y3 x5 y5 m) (h3 : Col a x4 (0 - y4) x3 y3 x6 y6 n)
    (hs : l - m ≠ 0) (hk : (l - m) * (n + l) = x1 - x3) : Col a x1 y1 x5 (0 - y5) x6 y6 (n + l - m) := by
  obtain ⟨a2, a3, a4, a5⟩ := h1
  obtain ⟨b2, b3, b4, b5⟩ := h2
  obtain ⟨c2, c3, c4, c5⟩ := h3
  have k3 := k3_of a5 b5
  have r4 := e1_sub a4
  have r5 := e1_sub b4
  have r6 := e1_sub c4
  have ra := a_of a5
  have cy := y6_of c2 c3
  clear a4 b4 c4 a5 b5 c5 c2 c3
  subst ra cy r6 r4 r5 b3 b2 a3 a2
  refine ⟨F.cancel (idy5 k3 hk) hs, idy6 hk, idx6 hk, F.cancel (ide2 k3 hk) hs⟩
/-- .. with the slopes' equation, where the points of the third line are not the same, and where they are -/
theorem slopes (F : Fld) (h1 : Col a x1 y1 x2 y2 x4 y4 l) (h2 : Col a x2 y2 x3 y3 x5 y5 m) (h3 : Col a x4 (0 - y4) x3 y3 x6 y6 n) (hne : x3 ≠ x4 ∨ (x3 = x4 ∧ y3 = 0 - y4 ∧ x3 ≠ x2)) : (l - m) * (n + l) = x1 - x3 := by
  obtain ⟨a2, a3, a4, a5⟩ := h1
  obtain ⟨b2, b3, b4, b5⟩ := h2
  obtain ⟨c2, c3, c4, c5⟩ := h3
  rcases hne with hx | ⟨hx, hy, hx2⟩
  · have k3 := k3_of a5 b5
    have r4 := e1_sub a4
    have r5 := e1_sub b4
    have c := c_of c2
    clear a4 b4 c4 a5 b5 c5 c2 c3
    subst r4 r5 b3 b2 a3 a2
    exact F.cancel (idk k3 c) (sub_ne hx)
  · have ra := a_of a5
    subst hx
    have r6 := x6_of c4
    have r1 := e1_sub1 a4
    have hyy : 0 - y4 = y3 := hy.symm
    rw [hyy] at c5
    have hc := cc_of c5
    clear a4 b4 c4 a5 b5 c5 c2 c3 b3 hyy
    subst ra r6 hy
    rw [a2, a3] at b2
    rw [a3] at hc
    subst r1
    exact F.cancel (idt b2 hc) (sub_ne hx2)
theorem same_line (h1 : Col a x1 y1 x2 y2 x4 y4 l) (h2 : Col a x2 y2 x3 y3 x5 y5 l) : (x1 - x3) * (x1 - x5) = 0 := by
  obtain ⟨a2, a3, a4, a5⟩ := h1
  obtain ⟨b2, b3, b4, b5⟩ := h2
  have k3 := k3_of a5 b5
  have r4 := e1_sub a4
  have r5 := e1_sub b4
  clear a4 b4 a5 b5
  subst r4 r5 b3 b2 a3 a2
  refine lin2 (0 - 1) 0 k3 k3 ?_
  clear k3
  grobner
theorem sq_eq (F : Fld) (h : y1 * y1 = y2 * y2) : y1 = y2 ∨ y1 = 0 - y2 := by
  have e : (y1 - y2) * (y1 + y2) = 0 := by grobner
  rcases F.nzd _ _ e with h | h
  · exact .inl (by grobner)
  · exact .inr (by grobner)
theorem neg_self_add (y : FP) : 0 - y + y = 0 := by grobner
theorem self_neg_add (y : FP) : y + (0 - y) = 0 := by grobner
theorem eq_neg_of (h : y1 + y2 = 0) : y1 = 0 - y2 := by grobner
theorem eq_of_neg (h : 0 - y1 + y2 = 0) : y2 = y1 := by grobner
theorem neg_neg_F (y : FP) : 0 - (0 - y) = y := by grobner
/-- sums hang on no order of brackets -/
theorem assoc (F : Fld) (S : Smooth a b) {A B C : Pnt} (oA : On a b A) (oB : On a b B) (oC : On a b C) : add a (add a A B) C = add a A (add a B C) := by
  match A, B, C with
  | none, B, C => rw [none_add, none_add]
  | some A, none, C => rfl
  | some A, some B, none => rw [add_none, add_none]
  | some (x1, y1), some (x2, y2), some (x3, y3) =>
    by_cases hAB : x1 = x2 ∧ y1 + y2 = 0
    · have e : add a (some (x1, y1)) (some (x2, y2)) = none := by simp only [add, if_pos hAB]
      rw [e, none_add]
      have hA : some (x1, y1) = Ec.neg (some (x2, y2)) := by
        simp only [Ec.neg]
        rw [hAB.1, eq_neg_of hAB.2]
      rw [hA, neg_add_cancel F S oB oC]
    by_cases hBC : x2 = x3 ∧ y2 + y3 = 0
    · have e : add a (some (x2, y2)) (some (x3, y3)) = none := by simp only [add, if_pos hBC]
      rw [e, add_none]
      have hB : some (x3, y3) = Ec.neg (some (x2, y2)) := by
        simp only [Ec.neg]
        rw [← hBC.1, eq_neg_of hBC.2, neg_neg_F]
      rw [hB, add_comm F S (add_on F oA oB) (on_neg oB), add_comm F S oA oB, neg_add_cancel F S oB oA]
    obtain ⟨x4, y4, l, eT, h1⟩ := add_col F oA oB hAB
    obtain ⟨x5, y5, m, eS, h2⟩ := add_col F oB oC hBC
    have oT := h1.on oA
    have oS := h2.on oB
    rw [eT, eS]
    by_cases hCT : x3 = x4 ∧ y3 = y4
    · obtain ⟨rfl, rfl⟩ := hCT
      have e1 := col_add F S oB oC h1.rot
      rw [eS] at e1
      rw [e1]
      simp only [add]
      rw [if_pos ⟨trivial, neg_self_add _⟩, if_pos ⟨trivial, self_neg_add _⟩]
    by_cases hSA : x5 = x1 ∧ y5 = y1
    · obtain ⟨rfl, rfl⟩ := hSA
      have e1 := col_add F S oA oB h2.rot.rot
      rw [eT] at e1
      rw [e1]
      simp only [add]
      rw [if_pos ⟨trivial, neg_self_add _⟩, if_pos ⟨trivial, self_neg_add _⟩]
    by_cases hlm : l = m
    · subst hlm
      rcases F.nzd _ _ (same_line h1 h2) with h | h
      · have hx : x1 = x3 := by grobner
        have hy : y1 = y3 := by
          have e1 := h1.h2
          have e2 := h2.h2
          rw [← hx] at e2
          clear h1 h2 oA oB oC oT oS h
          grobner
        subst hx hy
        rw [← eT, ← eS, add_comm F S oB oA]
        exact add_comm F S (add_on F oA oB) oA
      · have hx : x5 = x1 := by grobner
        have hy : y5 = y1 := by
          have e1 := h1.h2
          have e2 := h2.h3
          rw [hx] at e2
          clear h1 h2 oA oB oC oT oS h
          grobner
        exact absurd ⟨hx, hy⟩ hSA
    have hs : l - m ≠ 0 := sub_ne hlm
    have oT' := on_neg (P := some (x4, y4)) oT
    have oS' := on_neg (P := some (x5, y5)) oS
    obtain ⟨x6, y6, n, eU, h3⟩ := add_col F oT' oC (fun h => hCT ⟨h.1.symm, eq_of_neg h.2⟩)
    have hne : x3 ≠ x4 ∨ (x3 = x4 ∧ y3 = 0 - y4 ∧ x3 ≠ x2) := by
      by_cases hx : x3 = x4
      · right
        have hy : y3 = 0 - y4 := by
          have hh : y3 * y3 = y4 * y4 := by
            simp only [On] at oC oT
            rw [oC, oT, hx]
          rcases sq_eq F hh with h | h
          · exact absurd ⟨hx, h⟩ hCT
          · exact h
        refine ⟨hx, hy, fun hx2 => ?_⟩
        have e1 := h1.h2
        have e2 := h1.h3
        have h42 : y4 = y2 := by rw [e1, e2, ← hx, hx2]
        exact hBC ⟨hx2.symm, by rw [hy, h42]; exact self_neg_add _⟩
      · exact .inl hx
    have hk := slopes F h1 h2 h3 hne
    have h9 := nine F h1 h2 h3 hs hk
    rw [eU, col_add F S oA oS' h9]
end
end
end Go.Proofs.YtmgmfifkldpbmaaDoor.Ec
namespace Go.Proofs.YtmgmfifkldpbmaaDoor.Ec
open Go

theorem primeP_lit : primeP = 115792089210356248762697446949407573530086143415290314195533631308867097853951 := rfl
theorem fldP : Fld := by
  have hinv : ∀ a : FP, a ≠ 0 → ∃ b, a * b = 1 := fun a ha => by
    have h0 : a.val % primeP ≠ 0 := fun h => by
      have hlt : a.val < primeP := a.isLt
      rw [Nat.mod_eq_of_lt hlt] at h
      exact ha (Fin.ext h)
    have hf := fermatP a.val h0
    refine ⟨⟨a.val ^ (primeP - 2) % primeP, Nat.mod_lt _ (by decide +kernel)⟩, Fin.ext ?_⟩
    show a.val * (a.val ^ (primeP - 2) % primeP) % primeP = 1
    rw [Nat.mul_mod, Nat.mod_mod, ← Nat.mul_mod, Nat.mul_comm, ← Nat.pow_succ]
    exact hf
  refine ⟨fun a b h => ?_, hinv⟩
  by_cases ha : a = 0
  · exact .inl ha
  · obtain ⟨c, hc⟩ := hinv a ha
    right
    have e : b = c * (a * b) := by grobner
    rw [h] at e
    rw [e]
    grobner

def cA : FP := 0 - 3
def cB : FP := 0x5AC635D8AA3A93E7B3EBBD55769886BC651D06B0CC53B0F63BCE3C3E27D2604B
theorem smoothP : Smooth cA cB := by unfold Smooth cA cB; decide +kernel
def gX : Nat := 0x6B17D1F2E12C4247F8BCE6E563A440F277037D812DEB33A0F4A13945D898C296
def gY : Nat := 0x4FE342E2FE1A7F9B8EE7EB4A7C0F9E162BCE33576B315ECECBB6406837BF51F5
abbrev OnP (P : Pnt) : Prop := On cA cB P
noncomputable abbrev plus (P Q : Pnt) : Pnt := add cA P Q
def baseP : Pnt := some (Fin.ofNat _ gX, Fin.ofNat _ gY)
theorem base_on : OnP baseP := by unfold OnP baseP On cA cB; decide +kernel

theorem plus_comm {P Q : Pnt} (hP : OnP P) (hQ : OnP Q) : plus P Q = plus Q P := add_comm fldP smoothP hP hQ
theorem plus_assoc {P Q R : Pnt} (hP : OnP P) (hQ : OnP Q) (hR : OnP R) : plus (plus P Q) R = plus P (plus Q R) := assoc fldP smoothP hP hQ hR
theorem plus_on {P Q : Pnt} (hP : OnP P) (hQ : OnP Q) : OnP (plus P Q) := add_on fldP hP hQ
theorem none_on : OnP none := trivial
/-- so often by itself -/
noncomputable def smul : Nat → Pnt → Pnt
  | 0, _ => none
  | n + 1, P => plus (smul n P) P
theorem smul_on {P : Pnt} (hP : OnP P) : ∀ n, OnP (smul n P)
  | 0 => none_on
  | n + 1 => plus_on (smul_on hP n) hP
theorem smul_zero (P : Pnt) : smul 0 P = none := rfl
theorem smul_one (P : Pnt) : smul 1 P = P := rfl
theorem smul_add {P : Pnt} (hP : OnP P) (m : Nat) : ∀ n, smul (m + n) P = plus (smul m P) (smul n P)
  | 0 => by rw [Nat.add_zero, smul_zero]; exact (add_none _ _).symm
  | n + 1 => by
    show plus (smul (m + n) P) P = plus (smul m P) (plus (smul n P) P)
    rw [smul_add hP m n, plus_assoc (smul_on hP m) (smul_on hP n) hP]
theorem smul_two {P : Pnt} (hP : OnP P) (n : Nat) : smul (2 * n) P = plus (smul n P) (smul n P) := by rw [Nat.two_mul, smul_add hP]
theorem smul_none : ∀ n, smul n none = none
  | 0 => rfl
  | n + 1 => by show plus (smul n none) none = none; rw [smul_none n]; rfl
theorem smul_smul {P : Pnt} (hP : OnP P) (m : Nat) : ∀ n, smul n (smul m P) = smul (m * n) P
  | 0 => rfl
  | n + 1 => by
    show plus (smul n (smul m P)) (smul m P) = smul (m * (n + 1)) P
    rw [smul_smul hP m n, Nat.mul_succ, smul_add hP]
theorem smul_plus {P Q : Pnt} (hP : OnP P) (hQ : OnP Q) : ∀ n, smul n (plus P Q) = plus (smul n P) (smul n Q)
  | 0 => rfl
  | n + 1 => by
    show plus (smul n (plus P Q)) (plus P Q) = plus (plus (smul n P) P) (plus (smul n Q) Q)
    have h1 := smul_on hP n
    have h2 := smul_on hQ n
    rw [smul_plus hP hQ n, plus_assoc h1 h2 (plus_on hP hQ), plus_assoc h1 hP (plus_on h2 hQ), ← plus_assoc h2 hP hQ, plus_comm h2 hP, plus_assoc hP h2 hQ]

/-- a point as X/Z, Y/Z; Z 0: at infinity -/
def Rep (X Y Z : FP) : Pnt → Prop
  | none => Z = 0
  | some (x, y) => Z ≠ 0 ∧ X = x * Z ∧ Y = y * Z
theorem cA_eq (x : FP) : 3 * (x * x) + cA = 3 * (x * x - 1) := by unfold cA; grobner
theorem three_ne : (3 : FP) ≠ 0 := by decide
theorem dbl_none {y : FP} : y + y = 0 ↔ y = 0 := by
  constructor
  · intro h
    refine fldP.cancel (c := 2) ?_ two_ne
    grobner
  · rintro rfl; grobner
/-- twice a point, as the reference has it -/
theorem dbl_rep {X Y Z W s ys q h sss : FP} {P : Pnt} (hr : Rep X Y Z P) (hz : Z ≠ 0) (hW : W = 3 * (X * X - Z * Z)) (hs : s = Y * Z) (hys : ys = Y * s) (hq : q = X * ys) (hh : h = W * W - 8 * q) (hsss : sss = s * (s * s)) :
    Rep (2 * (h * s)) (W * (4 * q - h) - 8 * (ys * ys)) (8 * sss) (plus P P) := by
  match P with
  | none => exact absurd hr hz
  | some (x, y) =>
    obtain ⟨_, rfl, rfl⟩ := hr
    by_cases hy : y = 0
    · have e : plus (some (x, y)) (some (x, y)) = none := by
        simp only [plus, add]
        rw [if_pos ⟨trivial, dbl_none.2 hy⟩]
      rw [e]
      show 8 * sss = 0
      subst hsss hs hy
      grobner
    · have hc : ¬ (x = x ∧ y + y = 0) := fun h => hy (dbl_none.1 h.2)
      have e : plus (some (x, y)) (some (x, y)) = some (thirdX (slope cA x y x y) x x, thirdY (slope cA x y x y) x y x) := if_neg hc
      rw [e]
      have hsl : slope cA x y x y = (3 * (x * x) + cA) * finv (2 * y) := by simp [slope]
      have h2y : 2 * y ≠ 0 := fldP.dbl_ne hy
      have hi := fldP.finv_mul h2y
      rw [cA_eq] at hsl
      have hl : slope cA x y x y * (2 * y) = 3 * (x * x - 1) := by rw [hsl]; clear hW hs hys hq hh hsss; grobner
      generalize slope cA x y x y = l at *
      clear hsl hi e
      have hw : W = l * (2 * y) * (Z * Z) := by rw [hl, hW]; clear hW hs hys hq hh hsss hl; grobner
      clear hW hl
      subst hsss hh hq hys hs hw
      refine ⟨?_, ?_, ?_⟩
      · have : y * Z * Z ≠ 0 := fldP.mul_ne (fldP.mul_ne hy hz) hz
        exact fldP.mul_ne (by decide) (fldP.mul_ne this (fldP.mul_ne this this))
      · unfold thirdX; clear hc h2y hy hz; grobner
      · unfold thirdY; clear hc h2y hy hz; grobner
/-- a sum, as the reference has it: different x -/
theorem sum_rep {X1 Y1 Z1 X2 Y2 Z2 y1 x1 u v zz vv vvv r t : FP} {P Q : Pnt} (hP : Rep X1 Y1 Z1 P) (hQ : Rep X2 Y2 Z2 Q) (hz1 : Z1 ≠ 0) (hz2 : Z2 ≠ 0) (hy1 : y1 = Y1 * Z2) (hx1 : x1 = X1 * Z2) (hu : u = Y2 * Z1 - y1) (hv : v = X2 * Z1 - x1)
    (hv0 : v ≠ 0) (hzz : zz = Z1 * Z2) (hvv : vv = v * v) (hvvv : vvv = v * vv) (hr : r = vv * x1) (ht : t = u * u * zz - vvv - 2 * r) :
    Rep (v * t) (u * (r - t) - vvv * y1) (vvv * zz) (plus P Q) := by
  match P, Q with
  | none, _ => exact absurd hP hz1
  | some (x, y), none => exact absurd hQ hz2
  | some (x, y), some (x', y') =>
    obtain ⟨_, rfl, rfl⟩ := hP
    obtain ⟨_, rfl, rfl⟩ := hQ
    have hvx : v = (x' - x) * (Z1 * Z2) := by rw [hv, hx1]; clear hy1 hx1 hu hv hzz hvv hvvv hr ht; grobner
    have hux : u = (y' - y) * (Z1 * Z2) := by rw [hu, hy1]; clear hy1 hx1 hu hv hzz hvv hvvv hr ht hvx; grobner
    have hxx : ¬ x = x' := fun h => hv0 (by rw [hvx, h]; clear hy1 hx1 hu hv hzz hvv hvvv hr ht hvx hux; grobner)
    have hc : ¬ (x = x' ∧ y + y' = 0) := fun h => hxx h.1
    have e : plus (some (x, y)) (some (x', y')) = some (thirdX (slope cA x y x' y') x x', thirdY (slope cA x y x' y') x y x') := by
      simp only [plus, add, if_neg hc]
    rw [e]
    have hsl : slope cA x y x' y' = (y' - y) * finv (x' - x) := by simp [slope, hxx]
    have hi := fldP.finv_mul (sub_ne (Ne.symm hxx))
    have hl : slope cA x y x' y' * (x' - x) = y' - y := by rw [hsl]; clear hy1 hx1 hu hv hzz hvv hvvv hr ht hvx hux; grobner
    generalize slope cA x y x' y' = l at *
    clear hsl hi e hc hu hv
    rw [← hl] at hux
    clear hl
    have hzne : zz ≠ 0 := by rw [hzz]; exact fldP.mul_ne hz1 hz2
    have hvne : vvv * zz ≠ 0 := by rw [hvvv, hvv]; exact fldP.mul_ne (fldP.mul_ne hv0 (fldP.mul_ne hv0 hv0)) hzne
    refine ⟨hvne, ?_, ?_⟩
    · subst ht hr hvvv hvv hzz hvx hux hx1 hy1
      unfold thirdX
      clear hvne hzne hxx hv0 hz1 hz2
      grobner
    · subst ht hr hvvv hvv hzz hvx hux hx1 hy1
      unfold thirdY
      clear hvne hzne hxx hv0 hz1 hz2
      grobner
end Go.Proofs.YtmgmfifkldpbmaaDoor.Ec
namespace Go.Proofs.YtmgmfifkldpbmaaDoor.Ec
open Go

abbrev pp : Nat := 115792089210356248762697446949407573530086143415290314195533631308867097853951
def c (x : Nat) : FP := Fin.ofNat _ x
theorem c_mod (x : Nat) : c (x % pp) = c x := Fin.ext (Nat.mod_mod x pp)
theorem c_add (x y : Nat) : c (x + y) = c x + c y := Fin.ext (by show (x + y) % pp = (x % pp + y % pp) % pp; rw [Nat.add_mod])
theorem c_mul (x y : Nat) : c (x * y) = c x * c y := Fin.ext (by show (x * y) % pp = (x % pp * (y % pp)) % pp; rw [Nat.mul_mod])
theorem c_pp : c pp = 0 := Fin.ext (Nat.mod_self pp)
theorem c_sub (x y : Nat) (h : y ≤ pp) : c (x + (pp - y)) = c x - c y := by
  have e : c (pp - y) + c y = 0 := by rw [← c_add, Nat.sub_add_cancel h, c_pp]
  rw [c_add]
  grobner
theorem c_lit (x : Nat) : c x = (Fin.ofNat _ x : FP) := rfl
theorem c_zero {x : Nat} (h : x < pp) (h0 : x ≠ 0) : c x ≠ 0 := fun e => by
  have := congrArg Fin.val e
  have e2 : x % pp = 0 := this
  rw [Nat.mod_eq_of_lt h] at e2
  exact h0 e2
theorem c_ne {x : Nat} (h : x % pp ≠ 0) : c x ≠ 0 := by
  rw [← c_mod]
  exact c_zero (Nat.mod_lt _ (by decide)) h
theorem c_eq {x y : Nat} (h : x % pp = y % pp) : c x = c y := by rw [← c_mod x, h, c_mod]

/-- the number is reckoned before it goes on -/
def force (n : Nat) (k : Nat → Bool) : Bool := match n with
  | 0 => k 0
  | m + 1 => k (m + 1)
theorem force_eq (n : Nat) (k : Nat → Bool) : force n k = k n := by cases n <;> rfl
def dblK (X Y Z : Nat) (k : Nat → Nat → Nat → Bool) : Bool :=
  force (3 * (X * X + (pp - Z * Z % pp)) % pp) fun W => force (Y * Z % pp) fun s => force (Y * s % pp) fun ys => force (X * ys % pp) fun q =>
  force ((W * W + (pp - 8 * q % pp)) % pp) fun h => force (2 * (h * s) % pp) fun X' => force ((W * (4 * q + (pp - h)) + (pp - 8 * (ys * ys) % pp)) % pp) fun Y' =>
  force (8 * (s * (s * s)) % pp) fun Z' => k X' Y' Z'
/-- the base added -/
def addK (X Y Z : Nat) (k : Nat → Nat → Nat → Bool) : Bool :=
  force ((gY * Z + (pp - Y % pp)) % pp) fun u => force ((gX * Z + (pp - X % pp)) % pp) fun v => force (v * v % pp) fun vv => force (v * vv % pp) fun vvv => force (vv * X % pp) fun r =>
  force ((u * u * Z + (pp - (vvv + 2 * r) % pp)) % pp) fun t => force (v * t % pp) fun X' => force ((u * (r + (pp - t)) + (pp - vvv * Y % pp)) % pp) fun Y' =>
  force (vvv * Z % pp) fun Z' => v != 0 && k X' Y' Z'
def run : List Bool → Nat → Nat → Nat → Bool
  | [], X, Y, Z => X % pp == gX * Z % pp && (Y + gY * Z) % pp == 0 && Z % pp != 0
  | b :: bs, X, Y, Z => Z % pp != 0 && dblK X Y Z fun X' Y' Z' => if b then Z' != 0 && addK X' Y' Z' (run bs) else run bs X' Y' Z'
def valB : List Bool → Nat → Nat
  | [], n => n
  | b :: bs, n => valB bs (2 * n + if b then 1 else 0)
def bitsN : Nat → Nat → List Bool
  | 0, _ => []
  | k + 1, n => (n / 2 ^ k % 2 == 1) :: bitsN k n

theorem rep_z {X Y Z : FP} {x y : FP} (h : Rep X Y Z (some (x, y))) : Z ≠ 0 := h.1
theorem run_sound : ∀ (bs : List Bool) (n X Y Z : Nat), Rep (c X) (c Y) (c Z) (smul n baseP) → run bs X Y Z = true → smul (valB bs n) baseP = neg baseP
  | [], n, X, Y, Z, hr, h => by
    simp only [run, Bool.and_eq_true, beq_iff_eq, bne_iff_ne] at h
    obtain ⟨⟨h1, h2⟩, h3⟩ := h
    have hz := c_ne h3
    show smul n baseP = neg baseP
    cases hs : smul n baseP with
    | none => rw [hs] at hr; exact absurd hr hz
    | some P =>
      obtain ⟨x, y⟩ := P
      rw [hs] at hr
      obtain ⟨_, hx, hy⟩ := hr
      have e1 := c_eq h1
      have e2 : c (Y + gY * Z) = c 0 := c_eq (h2.trans rfl)
      rw [c_mul] at e1
      rw [c_add, c_mul] at e2
      have e0 : c 0 = 0 := rfl
      rw [e0] at e2
      show some (x, y) = some (c gX, 0 - c gY)
      have hx2 : x = c gX := by
        refine fldP.cancel (c := c Z) ?_ hz
        clear hy e2
        grobner
      have hy2 : y = 0 - c gY := by
        refine fldP.cancel (c := c Z) ?_ hz
        clear hx e1
        grobner
      rw [hx2, hy2]
  | b :: bs, n, X, Y, Z, hr, h => by
    simp only [run, Bool.and_eq_true, bne_iff_ne] at h
    obtain ⟨h0, h⟩ := h
    have hz := c_ne h0
    unfold dblK at h
    simp only [force_eq] at h
    have hp := smul_on base_on n
    have hlt : ∀ x, x % pp < pp := fun x => Nat.mod_lt _ (by decide)
    have hW : c (3 * (X * X + (pp - Z * Z % pp)) % pp) = 3 * (c X * c X - c Z * c Z) := by
      rw [c_mod, c_mul, c_sub _ _ (Nat.le_of_lt (hlt _)), c_mod, c_mul, c_mul]; rfl
    generalize 3 * (X * X + (pp - Z * Z % pp)) % pp = W at *
    have hs : c (Y * Z % pp) = c Y * c Z := by rw [c_mod, c_mul]
    generalize Y * Z % pp = s at *
    have hys : c (Y * s % pp) = c Y * c s := by rw [c_mod, c_mul]
    generalize Y * s % pp = ys at *
    have hq : c (X * ys % pp) = c X * c ys := by rw [c_mod, c_mul]
    generalize X * ys % pp = q at *
    have hh : c ((W * W + (pp - 8 * q % pp)) % pp) = c W * c W - 8 * c q := by
      rw [c_mod, c_sub _ _ (Nat.le_of_lt (hlt _)), c_mod, c_mul, c_mul]; rfl
    have hhl := hlt (W * W + (pp - 8 * q % pp))
    generalize (W * W + (pp - 8 * q % pp)) % pp = hN at *
    have hX : c (2 * (hN * s) % pp) = 2 * (c hN * c s) := by rw [c_mod, c_mul, c_mul]; rfl
    have hY : c ((W * (4 * q + (pp - hN)) + (pp - 8 * (ys * ys) % pp)) % pp) = c W * (4 * c q - c hN) - 8 * (c ys * c ys) := by
      rw [c_mod, c_sub _ _ (Nat.le_of_lt (hlt _)), c_mod, c_mul, c_sub _ _ (Nat.le_of_lt hhl), c_mul, c_mul, c_mul]; rfl
    have hZ : c (8 * (s * (s * s)) % pp) = 8 * (c s * (c s * c s)) := by rw [c_mod, c_mul, c_mul, c_mul]; rfl
    have hZl := hlt (8 * (s * (s * s)))
    generalize 2 * (hN * s) % pp = X' at *
    generalize (W * (4 * q + (pp - hN)) + (pp - 8 * (ys * ys) % pp)) % pp = Y' at *
    generalize 8 * (s * (s * s)) % pp = Z' at *
    have hr2 : Rep (c X') (c Y') (c Z') (smul (2 * n) baseP) := by
      rw [hX, hY, hZ, smul_two base_on]
      exact dbl_rep hr hz hW hs hys hq hh rfl
    clear hX hY hZ hW hs hys hq hh hr hhl
    cases b with
    | false => exact run_sound bs (2 * n) X' Y' Z' hr2 (by simpa using h)
    | true =>
      simp only [if_true, Bool.and_eq_true, bne_iff_ne] at h
      obtain ⟨h1, h⟩ := h
      have hz2 := c_zero hZl h1
      unfold addK at h
      simp only [force_eq, Bool.and_eq_true, bne_iff_ne] at h
      obtain ⟨hv0, h⟩ := h
      have hu : c ((gY * Z' + (pp - Y' % pp)) % pp) = c gY * c Z' - c Y' := by rw [c_mod, c_sub _ _ (Nat.le_of_lt (hlt _)), c_mod, c_mul]
      generalize (gY * Z' + (pp - Y' % pp)) % pp = u at *
      have hv : c ((gX * Z' + (pp - X' % pp)) % pp) = c gX * c Z' - c X' := by rw [c_mod, c_sub _ _ (Nat.le_of_lt (hlt _)), c_mod, c_mul]
      have hvl := hlt (gX * Z' + (pp - X' % pp))
      generalize (gX * Z' + (pp - X' % pp)) % pp = v at *
      have hv1 := c_zero hvl hv0
      have hvv : c (v * v % pp) = c v * c v := by rw [c_mod, c_mul]
      generalize v * v % pp = vv at *
      have hvvv : c (v * vv % pp) = c v * c vv := by rw [c_mod, c_mul]
      generalize v * vv % pp = vvv at *
      have hr3 : c (vv * X' % pp) = c vv * c X' := by rw [c_mod, c_mul]
      generalize vv * X' % pp = r at *
      have ht : c ((u * u * Z' + (pp - (vvv + 2 * r) % pp)) % pp) = c u * c u * c Z' - (c vvv + 2 * c r) := by
        rw [c_mod, c_sub _ _ (Nat.le_of_lt (hlt _)), c_mod, c_mul, c_mul, c_add, c_mul]; rfl
      have htl := hlt (u * u * Z' + (pp - (vvv + 2 * r) % pp))
      generalize (u * u * Z' + (pp - (vvv + 2 * r) % pp)) % pp = t at *
      have hX2 : c (v * t % pp) = c v * c t := by rw [c_mod, c_mul]
      have hY2 : c ((u * (r + (pp - t)) + (pp - vvv * Y' % pp)) % pp) = c u * (c r - c t) - c vvv * c Y' := by
        rw [c_mod, c_sub _ _ (Nat.le_of_lt (hlt _)), c_mod, c_mul, c_sub _ _ (Nat.le_of_lt htl), c_mul]
      have hZ2 : c (vvv * Z' % pp) = c vvv * c Z' := by rw [c_mod, c_mul]
      generalize v * t % pp = X2 at *
      generalize (u * (r + (pp - t)) + (pp - vvv * Y' % pp)) % pp = Y2 at *
      generalize vvv * Z' % pp = Z2 at *
      refine run_sound bs (2 * n + 1) X2 Y2 Z2 ?_ h
      show Rep (c X2) (c Y2) (c Z2) (plus (smul (2 * n) baseP) baseP)
      have hb : Rep (c gX) (c gY) 1 baseP := ⟨by decide, by show c gX = c gX * 1; grobner, by show c gY = c gY * 1; grobner⟩
      have key := sum_rep (y1 := c Y') (x1 := c X') (u := c u) (v := c v) (zz := c Z') (vv := c vv) (vvv := c vvv) (r := c r) (t := c t) hr2 hb hz2 (by decide)
        (by grobner) (by grobner) hu hv hv1 (by grobner) hvv hvvv hr3 (by rw [ht]; grobner)
      rw [hX2, hY2, hZ2]
      exact key

def ordN : Nat := 0xFFFFFFFF00000000FFFFFFFFFFFFFFFFBCE6FAADA7179E84F3B9CAC2FC632551
theorem smul_succ (n : Nat) (P : Pnt) : smul (n + 1) P = plus (smul n P) P := rfl
theorem run_order : run (bitsN 255 (ordN - 1)) gX gY 1 = true := by decide +kernel
theorem val_order : valB (bitsN 255 (ordN - 1)) 1 = ordN - 1 := by decide +kernel
/-- the order times the base is the point at infinity -/
theorem order_base : smul ordN baseP = none := by
  have hb : Rep (c gX) (c gY) (c 1) (smul 1 baseP) := ⟨by decide, by show c gX = c gX * 1; grobner, by show c gY = c gY * 1; grobner⟩
  have h := run_sound _ 1 gX gY 1 hb run_order
  rw [val_order] at h
  have e : (ordN - 1) + 1 = ordN := by decide +kernel
  have e2 : smul ((ordN - 1) + 1) baseP = plus (smul (ordN - 1) baseP) baseP := smul_succ _ _
  rw [e] at e2
  rw [e2, h, plus_comm (on_neg base_on) base_on]
  exact add_neg cA baseP
/-- .. and times each of its multiples, too -/
theorem order_mult (n : Nat) : smul ordN (smul n baseP) = none := by
  rw [smul_smul base_on, Nat.mul_comm, ← smul_smul base_on, order_base, smul_none]
end Go.Proofs.YtmgmfifkldpbmaaDoor.Ec
namespace Go.Proofs.YtmgmfifkldpbmaaDoor.Ec
open Go

/-- powers -/
def pw (x : FP) : Nat → FP
  | 0 => 1
  | n + 1 => pw x n * x
theorem pw_add (x : FP) (m : Nat) : ∀ n, pw x (m + n) = pw x m * pw x n
  | 0 => by show pw x m = pw x m * 1; grobner
  | n + 1 => by
    show pw x (m + n) * x = pw x m * (pw x n * x)
    rw [pw_add x m n]; grobner
theorem pw_c (z : Nat) : ∀ n, c (z ^ n) = pw (c z) n
  | 0 => rfl
  | n + 1 => by rw [Nat.pow_succ, c_mul, pw_c z n]; rfl
theorem c_val2 (a : FP) : c a.val = a := Fin.ext (Nat.mod_eq_of_lt a.isLt)
theorem pw_p (x : FP) (hx : x ≠ 0) : pw x pp = x := by
  have h0 : x.val % primeP ≠ 0 := fun h => hx (by
    have h2 : x.val % pp = 0 := h
    rw [Nat.mod_eq_of_lt x.isLt] at h2
    exact Fin.ext h2)
  have hf := fermatP x.val h0
  have h1 : c (x.val ^ (pp - 1)) = 1 := Fin.ext hf
  rw [pw_c, c_val2] at h1
  have e : pp = (pp - 1) + 1 := by decide +kernel
  rw [e]
  show pw x (pp - 1) * x = x
  rw [h1]; grobner
/-- the curve's b, mirrored -/
def nb : Nat := 74733725485204106633371317169360305120971702399296588640698374994827630452660
theorem nb_eq : c nb = 0 - cB := by unfold nb cB; decide +kernel
def sqX (u0 u1 u2 : Nat) (k : Nat → Nat → Nat → Bool) : Bool :=
  force ((u0 * u0 + nb * (2 * (u1 * u2))) % pp) fun v0 => force ((2 * (u0 * u1) + 3 * (2 * (u1 * u2)) + nb * (u2 * u2)) % pp) fun v1 => force ((2 * (u0 * u2) + u1 * u1 + 3 * (u2 * u2)) % pp) fun v2 => k v0 v1 v2
def byX (u0 u1 u2 : Nat) (k : Nat → Nat → Nat → Bool) : Bool :=
  force (nb * u2 % pp) fun v0 => force ((u0 + 3 * u2) % pp) fun v1 => k v0 v1 u1
def A0 : Nat := 66434390973925144466073271287821796038003695194169110494110089305650096453661
def A1 : Nat := 12402202686218762177567235911775779164004716598278868847786114277539554646092
def A2 : Nat := 24678849118215552148312087830792888746041224110560601850711771001608500700145
def runX : List Bool → Nat → Nat → Nat → Bool
  | [], u0, u1, u2 => u0 == A0 && u1 == A1 && u2 == A2
  | b :: bs, u0, u1, u2 => sqX u0 u1 u2 fun v0 v1 v2 => if b then byX v0 v1 v2 (runX bs) else runX bs v0 v1 v2
theorem runX_sound (x : FP) (hx : x * x * x = 3 * x - cB) : ∀ (bs : List Bool) (n u0 u1 u2 : Nat), pw x n = c u0 + c u1 * x + c u2 * (x * x) → runX bs u0 u1 u2 = true → pw x (valB bs n) = c A0 + c A1 * x + c A2 * (x * x)
  | [], n, u0, u1, u2, hu, h => by
    simp only [runX, Bool.and_eq_true, beq_iff_eq] at h
    obtain ⟨⟨h1, h2⟩, h3⟩ := h
    rw [← h1, ← h2, ← h3]
    exact hu
  | b :: bs, n, u0, u1, u2, hu, h => by
    unfold runX sqX at h
    simp only [force_eq] at h
    have h0 : c ((u0 * u0 + nb * (2 * (u1 * u2))) % pp) = c u0 * c u0 - cB * (2 * (c u1 * c u2)) := by
      rw [c_mod, c_add, c_mul, c_mul, c_mul, c_mul, nb_eq, show c 2 = 2 from rfl]; clear h hu hx; grobner
    have h1 : c ((2 * (u0 * u1) + 3 * (2 * (u1 * u2)) + nb * (u2 * u2)) % pp) = 2 * (c u0 * c u1) + 3 * (2 * (c u1 * c u2)) - cB * (c u2 * c u2) := by
      rw [c_mod, c_add, c_add, c_mul, c_mul, c_mul, c_mul, c_mul, c_mul, c_mul, nb_eq, show c 2 = 2 from rfl, show c 3 = 3 from rfl]; clear h hu hx h0; grobner
    have h2 : c ((2 * (u0 * u2) + u1 * u1 + 3 * (u2 * u2)) % pp) = 2 * (c u0 * c u2) + c u1 * c u1 + 3 * (c u2 * c u2) := by
      rw [c_mod, c_add, c_add, c_mul, c_mul, c_mul, c_mul, c_mul, show c 2 = 2 from rfl, show c 3 = 3 from rfl]
    generalize (u0 * u0 + nb * (2 * (u1 * u2))) % pp = v0 at *
    generalize (2 * (u0 * u1) + 3 * (2 * (u1 * u2)) + nb * (u2 * u2)) % pp = v1 at *
    generalize (2 * (u0 * u2) + u1 * u1 + 3 * (u2 * u2)) % pp = v2 at *
    have hs : pw x (2 * n) = c v0 + c v1 * x + c v2 * (x * x) := by
      rw [Nat.two_mul, pw_add, hu, h0, h1, h2]
      refine lin2 (2 * (c u1 * c u2) + c u2 * c u2 * x) 0 hx hx ?_
      clear h hu hx h0 h1 h2
      grobner
    cases b with
    | false => exact runX_sound x hx bs (2 * n) v0 v1 v2 hs (by simpa using h)
    | true =>
      simp only [if_true] at h
      unfold byX at h
      simp only [force_eq] at h
      have g0 : c (nb * v2 % pp) = 0 - cB * c v2 := by rw [c_mod, c_mul, nb_eq]; clear h hu hx h0 h1 h2 hs; grobner
      have g1 : c ((v0 + 3 * v2) % pp) = c v0 + 3 * c v2 := by rw [c_mod, c_add, c_mul]; rfl
      generalize nb * v2 % pp = w0 at *
      generalize (v0 + 3 * v2) % pp = w1 at *
      refine runX_sound x hx bs (2 * n + 1) w0 w1 v1 ?_ h
      show pw x (2 * n) * x = _
      rw [hs, g0, g1]
      refine lin2 (c v2) 0 hx hx ?_
      clear h hu hx h0 h1 h2 hs g0 g1
      grobner
theorem runX_p : runX (bitsN 256 pp) 1 0 0 = true := by decide +kernel
theorem valX_p : valB (bitsN 256 pp) 0 = pp := by decide +kernel
/-- five coefficients: the two polynomials have no root in common -/
theorem no_common {x b g0 g1 g2 s0 s1 t0 t1 t2 : FP} (h4 : s1 + t2 * g2 = 0) (h3 : s0 + t2 * g1 + t1 * g2 = 0) (h2 : t2 * g0 + t1 * g1 + t0 * g2 - 3 * s1 = 0) (h1 : s1 * b - 3 * s0 + t1 * g0 + t0 * g1 = 0) (h0 : s0 * b + t0 * g0 = 1)
    (hF : x * x * x - 3 * x + b = 0) (hG : g0 + g1 * x + g2 * (x * x) = 0) : False := by
  have e : (s1 + t2 * g2) * (x * x * x * x) + (s0 + t2 * g1 + t1 * g2) * (x * x * x) + (t2 * g0 + t1 * g1 + t0 * g2 - 3 * s1) * (x * x) + (s1 * b - 3 * s0 + t1 * g0 + t0 * g1) * x + (s0 * b + t0 * g0)
      = (s1 * x + s0) * (x * x * x - 3 * x + b) + (t2 * (x * x) + t1 * x + t0) * (g0 + g1 * x + g2 * (x * x)) := by clear h0 h1 h2 h3 h4 hF hG; grobner
  rw [h0, h1, h2, h3, h4, hF, hG] at e
  have e1 : (1 : FP) = 0 := by clear h0 h1 h2 h3 h4 hF hG; grobner
  exact absurd e1 (by decide)
/-- no root: y is never 0 -/
theorem no_root (x : FP) : x * x * x + cA * x + cB ≠ 0 := by
  intro h
  have hF : x * x * x - 3 * x + cB = 0 := by rw [← h]; unfold cA; clear h; grobner
  have hx : x * x * x = 3 * x - cB := by clear h; grobner
  have hx0 : x ≠ 0 := by
    rintro rfl
    have hb : cB = 0 := by rw [← hF]; clear h hF hx; grobner
    exact absurd hb (by unfold cB; decide +kernel)
  have hp := runX_sound x hx (bitsN 256 pp) 0 1 0 0 (by show (1 : FP) = c 1 + c 0 * x + c 0 * (x * x); rw [show c 1 = 1 from rfl, show c 0 = 0 from rfl]; clear h hF hx; grobner) runX_p
  rw [valX_p, pw_p x hx0] at hp
  have hG : c A0 + (c A1 - 1) * x + c A2 * (x * x) = 0 := by
    have e : c A0 + (c A1 - 1) * x + c A2 * (x * x) = (c A0 + c A1 * x + c A2 * (x * x)) - x := by clear h hF hx hp; grobner
    rw [e, ← hp]; clear h hF hx hp e; grobner
  clear h hx hx0 hp
  exact no_common (s0 := c 107286402702237026811154678719514266289498743974321057492273529440068429825344) (s1 := c 6389611969556882025875921584714237703390037729321797349080302270353162149340) (t0 := c 76626890310466861426869089647039036757962535851890885406097439786770458211455) (t1 := c 74462945259064871768191128030512052509059297803194871526163573358218695456204) (t2 := c 34768139465301476436978405170953382516735956999154666452188405812258086013549) (by decide +kernel) (by decide +kernel) (by decide +kernel) (by unfold cB; decide +kernel) (by unfold cB; decide +kernel) hF hG
theorem ne_y {x y : FP} (h : OnP (some (x, y))) : y ≠ 0 := by
  rintro rfl
  have h2 : x * x * x + cA * x + cB = 0 := by
    have h3 : (0 : FP) * 0 = x * x * x + cA * x + cB := h
    rw [← h3]; clear h h3; grobner
  exact no_root x h2

/- the complete law, of plain points -/
def cS (x1 y1 x2 y2 : FP) : FP := x1 * y2 + y1 * x2
def cD (x1 x2 b : FP) : FP := 3 * (x1 + x2 - b)
def cE (x1 x2 b : FP) : FP := 3 * (b * (x1 + x2) - (3 + x1 * x2))
def cG (x1 x2 : FP) : FP := 3 * (x1 * x2) - 3
def rX (x1 y1 x2 y2 b : FP) : FP := cS x1 y1 x2 y2 * (y1 * y2 + cD x1 x2 b) - (y1 + y2) * cE x1 x2 b
def rY (x1 y1 x2 y2 b : FP) : FP := (y1 * y2 + cD x1 x2 b) * (y1 * y2 - cD x1 x2 b) + cG x1 x2 * cE x1 x2 b
def rZ (x1 y1 x2 y2 b : FP) : FP := (y1 + y2) * (y1 * y2 - cD x1 x2 b) + cS x1 y1 x2 y2 * cG x1 x2
section
variable {x1 x2 y1 y2 b l m : FP}
theorem chord_rel (h2 : y2 = y1 + l * (x2 - x1)) (o1 : y1 * y1 = x1 * x1 * x1 - 3 * x1 + b) (o2 : y2 * y2 = x2 * x2 * x2 - 3 * x2 + b) (hx : x2 - x1 ≠ 0) :
    l * (2 * y1 + l * (x2 - x1)) = x1 * x1 + x1 * x2 + x2 * x2 - 3 := by
  refine fldP.cancel ?_ hx
  have e1 : (x2 - x1) * (l * (2 * y1 + l * (x2 - x1))) = y2 * y2 - y1 * y1 := by subst h2; clear o1 o2 hx; grobner
  rw [e1, o1, o2]
  clear e1 h2 o1 o2 hx
  grobner
theorem chord_z (h2 : y2 = y1 + l * (x2 - x1)) (hb : b = y1 * y1 - x1 * x1 * x1 + 3 * x1) (hr : l * (2 * y1 + l * (x2 - x1)) = x1 * x1 + x1 * x2 + x2 * x2 - 3) (hm : m * (x2 - x1) = 0 - (y1 + y2)) :
    rZ x1 y1 x2 y2 b = (x2 - x1) * (x2 - x1) * (x2 - x1) * (m * (x1 - (m * m - x1 - x2)) - y1) := by
  have e : (x2 - x1) * (x2 - x1) * (x2 - x1) * (m * (x1 - (m * m - x1 - x2)) - y1) = (m * (x2 - x1)) * (x1 * ((x2 - x1) * (x2 - x1)) - ((m * (x2 - x1)) * (m * (x2 - x1)) - (x1 + x2) * ((x2 - x1) * (x2 - x1)))) - y1 * ((x2 - x1) * (x2 - x1) * (x2 - x1)) := by clear h2 hb hr hm; grobner
  rw [e, hm]
  clear e hm
  subst h2 hb
  refine lin2 (0 - l * (x1 * x1) + 2 * l * x1 * x2 - l * (x2 * x2) + 3 * x1 * y1 - 3 * x2 * y1) 0 hr hr ?_
  clear hr
  unfold rZ cS cD cG
  grobner
theorem chord_x (h2 : y2 = y1 + l * (x2 - x1)) (hb : b = y1 * y1 - x1 * x1 * x1 + 3 * x1) (hr : l * (2 * y1 + l * (x2 - x1)) = x1 * x1 + x1 * x2 + x2 * x2 - 3) :
    rX x1 y1 x2 y2 b = (l * l - x1 - x2) * rZ x1 y1 x2 y2 b := by
  subst h2 hb
  refine lin2 (l * l * x1 * y1 - l * l * x2 * y1 + 3 * l * (x1 * x1 * x1) - 3 * l * (x1 * x1) * x2 - 3 * l * x1 + 3 * l * x2 - 4 * l * (y1 * y1) - 3 * (x1 * x1) * y1 - 3 * x1 * x2 * y1 + 6 * y1) 0 hr hr ?_
  clear hr
  unfold rX rZ cS cD cG cE
  grobner
theorem chord_y (h2 : y2 = y1 + l * (x2 - x1)) (hb : b = y1 * y1 - x1 * x1 * x1 + 3 * x1) (hr : l * (2 * y1 + l * (x2 - x1)) = x1 * x1 + x1 * x2 + x2 * x2 - 3) :
    rY x1 y1 x2 y2 b = (l * (x1 - (l * l - x1 - x2)) - y1) * rZ x1 y1 x2 y2 b := by
  subst h2 hb
  refine lin2 (0 - l * l * l * x1 * y1 + l * l * l * x2 * y1 - 3 * (l * l) * (x1 * x1 * x1) + 3 * (l * l) * (x1 * x1) * x2 + 3 * (l * l) * x1 - 3 * (l * l) * x2 + 4 * (l * l) * (y1 * y1) + 3 * l * (x1 * x1) * y1 + 3 * l * x1 * x2 * y1 - 6 * l * y1 + 9 * (x1 * x1 * x1 * x1) - 18 * (x1 * x1) - 12 * x1 * (y1 * y1) + 9) 0 hr hr ?_
  clear hr
  unfold rY rZ cS cD cG cE
  grobner
theorem tan_z (hb : b = y1 * y1 - x1 * x1 * x1 + 3 * x1) : rZ x1 y1 x1 y1 b = 8 * (y1 * y1 * y1) := by
  subst hb
  unfold rZ cS cD cG
  grobner
theorem tan_x (hb : b = y1 * y1 - x1 * x1 * x1 + 3 * x1) (hr : l * (2 * y1) = 3 * (x1 * x1 - 1)) : rX x1 y1 x1 y1 b = (l * l - x1 - x1) * (8 * (y1 * y1 * y1)) := by
  subst hb
  refine lin2 (0 - 4 * l * (y1 * y1) - 6 * (x1 * x1) * y1 + 6 * y1) 0 hr hr ?_
  clear hr
  unfold rX cS cD cE
  grobner
theorem tan_y (hb : b = y1 * y1 - x1 * x1 * x1 + 3 * x1) (hr : l * (2 * y1) = 3 * (x1 * x1 - 1)) : rY x1 y1 x1 y1 b = (l * (x1 - (l * l - x1 - x1)) - y1) * (8 * (y1 * y1 * y1)) := by
  subst hb
  refine lin2 (4 * (l * l) * (y1 * y1) + 6 * l * (x1 * x1) * y1 - 6 * l * y1 + 9 * (x1 * x1 * x1 * x1) - 18 * (x1 * x1) - 12 * x1 * (y1 * y1) + 9) 0 hr hr ?_
  clear hr
  unfold rY cG cD cE
  grobner
theorem opp_z : rZ x1 y1 x1 (0 - y1) b = 0 := by unfold rZ cS; grobner
theorem opp_x : rX x1 y1 x1 (0 - y1) b = 0 := by unfold rX cS; grobner
theorem opp_y : rY x1 y1 x1 (0 - y1) b = rY x1 y1 x1 y1 b := by unfold rY; grobner
end
theorem b_of {x y : FP} (h : OnP (some (x, y))) : cB = y * y - x * x * x + 3 * x := by
  have h2 : y * y = x * x * x + cA * x + cB := h
  rw [h2]; unfold cA; clear h h2; grobner
theorem on3 {x y : FP} (h : OnP (some (x, y))) : y * y = x * x * x - 3 * x + cB := by
  have h2 : y * y = x * x * x + cA * x + cB := h
  rw [h2]; unfold cA; clear h h2; grobner
/-- a point as X/Z, Y/Z, the point at infinity as 0, Y, 0 -/
def RepC (X Y Z : FP) : Pnt → Prop
  | none => X = 0 ∧ Y ≠ 0 ∧ Z = 0
  | some (x, y) => Z ≠ 0 ∧ X = x * Z ∧ Y = y * Z
/-- the law of plain points -/
theorem plain_sum {x1 y1 x2 y2 : FP} (o1 : OnP (some (x1, y1))) (o2 : OnP (some (x2, y2))) :
    RepC (rX x1 y1 x2 y2 cB) (rY x1 y1 x2 y2 cB) (rZ x1 y1 x2 y2 cB) (plus (some (x1, y1)) (some (x2, y2))) := by
  have hb := b_of o1
  have n1 := ne_y o1
  by_cases hx : x1 = x2
  · subst hx
    have hsl : slope cA x1 y1 x1 y1 = (3 * (x1 * x1) + cA) * finv (2 * y1) := by simp [slope]
    have hi := fldP.finv_mul (fldP.dbl_ne n1)
    rw [cA_eq] at hsl
    have hl : slope cA x1 y1 x1 y1 * (2 * y1) = 3 * (x1 * x1 - 1) := by rw [hsl]; clear hb; grobner
    have h8 : 8 * (y1 * y1 * y1) ≠ 0 := fldP.mul_ne (by decide) (fldP.mul_ne (fldP.mul_ne n1 n1) n1)
    rcases sq_eq fldP ((on3 o1).trans (on3 o2).symm) with h | h
    · subst h
      have hc : ¬ (x1 = x1 ∧ y1 + y1 = 0) := fun h => n1 (dbl_none.1 h.2)
      have e : plus (some (x1, y1)) (some (x1, y1)) = some (thirdX (slope cA x1 y1 x1 y1) x1 x1, thirdY (slope cA x1 y1 x1 y1) x1 y1 x1) := if_neg hc
      rw [e]
      exact ⟨by rw [tan_z hb]; exact h8, by rw [tan_z hb]; exact tan_x hb hl, by rw [tan_z hb]; exact tan_y hb hl⟩
    · have h2 : y2 = 0 - y1 := by rw [h]; clear hb hi hl hsl o1 o2 h; grobner
      subst h2
      have e : plus (some (x1, y1)) (some (x1, 0 - y1)) = none := if_pos ⟨rfl, self_neg_add y1⟩
      rw [e]
      refine ⟨opp_x, ?_, opp_z⟩
      rw [opp_y, tan_y hb hl]
      have od : OnP (plus (some (x1, y1)) (some (x1, y1))) := plus_on o1 o1
      have hc : ¬ (x1 = x1 ∧ y1 + y1 = 0) := fun h => n1 (dbl_none.1 h.2)
      have e2 : plus (some (x1, y1)) (some (x1, y1)) = some (thirdX (slope cA x1 y1 x1 y1) x1 x1, thirdY (slope cA x1 y1 x1 y1) x1 y1 x1) := if_neg hc
      rw [e2] at od
      exact fldP.mul_ne (ne_y od) h8
  · have hd : x2 - x1 ≠ 0 := sub_ne (Ne.symm hx)
    have hc : ¬ (x1 = x2 ∧ y1 + y2 = 0) := fun h => hx h.1
    have e : plus (some (x1, y1)) (some (x2, y2)) = some (thirdX (slope cA x1 y1 x2 y2) x1 x2, thirdY (slope cA x1 y1 x2 y2) x1 y1 x2) := if_neg hc
    rw [e]
    have hi := fldP.finv_mul hd
    have hsl : slope cA x1 y1 x2 y2 = (y2 - y1) * finv (x2 - x1) := by simp [slope, hx]
    have hl : y2 = y1 + slope cA x1 y1 x2 y2 * (x2 - x1) := by rw [hsl]; clear hb o1 o2; grobner
    have on2 := on_neg o2
    have hc2 : ¬ (x1 = x2 ∧ y1 + (0 - y2) = 0) := fun h => hx h.1
    have e2 : plus (some (x1, y1)) (some (x2, 0 - y2)) = some (thirdX (slope cA x1 y1 x2 (0 - y2)) x1 x2, thirdY (slope cA x1 y1 x2 (0 - y2)) x1 y1 x2) := if_neg hc2
    have od : OnP (plus (some (x1, y1)) (some (x2, 0 - y2))) := plus_on o1 on2
    rw [e2] at od
    have hy := ne_y od
    have hsm : slope cA x1 y1 x2 (0 - y2) = (0 - y2 - y1) * finv (x2 - x1) := by simp [slope, hx]
    have hm : slope cA x1 y1 x2 (0 - y2) * (x2 - x1) = 0 - (y1 + y2) := by rw [hsm]; clear hb hl hsl o1 o2 od hsm hy; grobner
    have hr := chord_rel hl (on3 o1) (on3 o2) hd
    generalize slope cA x1 y1 x2 y2 = l at *
    generalize slope cA x1 y1 x2 (0 - y2) = m at *
    have hz := chord_z hl hb hr hm
    refine ⟨?_, chord_x hl hb hr, chord_y hl hb hr⟩
    rw [hz]
    exact fldP.mul_ne (fldP.mul_ne (fldP.mul_ne hd hd) hd) hy
theorem RepC.scale {X Y Z : FP} {P : Pnt} (h : RepC X Y Z P) {k X' Y' Z' : FP} (hk : k ≠ 0) (hX : X' = k * X) (hY : Y' = k * Y) (hZ : Z' = k * Z) : RepC X' Y' Z' P := by
  subst hX hY hZ
  match P with
  | none =>
    obtain ⟨h1, h2, h3⟩ := h
    refine ⟨?_, fldP.mul_ne hk h2, ?_⟩
    · rw [h1]; clear h1 h2 h3 hk; grobner
    · rw [h3]; clear h1 h2 h3 hk; grobner
  | some (x, y) =>
    obtain ⟨h1, h2, h3⟩ := h
    refine ⟨fldP.mul_ne hk h1, ?_, ?_⟩
    · rw [h2]; clear h1 h2 h3 hk; grobner
    · rw [h3]; clear h1 h2 h3 hk; grobner
theorem RepC.y_ne {X Y Z : FP} {P : Pnt} (h : RepC X Y Z P) (hP : OnP P) : Y ≠ 0 := by
  match P with
  | none => exact h.2.1
  | some (x, y) => rw [h.2.2]; exact fldP.mul_ne (ne_y hP) h.1
/-- the law, of what stands for points -/
theorem complete {X1 Y1 Z1 X2 Y2 Z2 xx yy zz xy yz xz z3 d lo hi e g : FP} {P Q : Pnt} (hP : RepC X1 Y1 Z1 P) (hQ : RepC X2 Y2 Z2 Q) (oP : OnP P) (oQ : OnP Q)
    (hxx : xx = X1 * X2) (hyy : yy = Y1 * Y2) (hzz : zz = Z1 * Z2) (hxy : xy = (X1 + Y1) * (X2 + Y2) - (xx + yy)) (hyz : yz = (Y1 + Z1) * (Y2 + Z2) - (yy + zz)) (hxz : xz = (X1 + Z1) * (X2 + Z2) - (xx + zz))
    (hz3 : z3 = 3 * zz) (hd : d = 3 * (xz - cB * zz)) (hlo : lo = yy - d) (hhi : hi = yy + d) (he : e = 3 * (cB * xz - (z3 + xx))) (hg : g = 3 * xx - z3) :
    RepC (xy * hi - yz * e) (hi * lo + g * e) (yz * lo + xy * g) (plus P Q) := by
  have nP := hP.y_ne oP
  have nQ := hQ.y_ne oQ
  match P, Q with
  | none, Q =>
    obtain ⟨p1, p2, p3⟩ := hP
    refine hQ.scale (k := Y1 * Y1 * Y2) (fldP.mul_ne (fldP.mul_ne nP nP) nQ) ?_ ?_ ?_
    · subst hg he hhi hlo hd hz3 hxz hyz hxy hzz hyy hxx p1 p3; clear hQ oP oQ p2 nP nQ; grobner
    · subst hg he hhi hlo hd hz3 hxz hyz hxy hzz hyy hxx p1 p3; clear hQ oP oQ p2 nP nQ; grobner
    · subst hg he hhi hlo hd hz3 hxz hyz hxy hzz hyy hxx p1 p3; clear hQ oP oQ p2 nP nQ; grobner
  | some (x1, y1), none =>
    obtain ⟨p1, p2, p3⟩ := hQ
    refine hP.scale (k := Y1 * Y2 * Y2) (fldP.mul_ne (fldP.mul_ne nP nQ) nQ) ?_ ?_ ?_
    · subst hg he hhi hlo hd hz3 hxz hyz hxy hzz hyy hxx p1 p3; clear hP oP oQ p2 nP nQ; grobner
    · subst hg he hhi hlo hd hz3 hxz hyz hxy hzz hyy hxx p1 p3; clear hP oP oQ p2 nP nQ; grobner
    · subst hg he hhi hlo hd hz3 hxz hyz hxy hzz hyy hxx p1 p3; clear hP oP oQ p2 nP nQ; grobner
  | some (x1, y1), some (x2, y2) =>
    have key := plain_sum oP oQ
    obtain ⟨p1, rfl, rfl⟩ := hP
    obtain ⟨q1, rfl, rfl⟩ := hQ
    have hk := fldP.mul_ne p1 q1
    refine key.scale (k := (Z1 * Z2) * (Z1 * Z2)) (fldP.mul_ne hk hk) ?_ ?_ ?_
    · subst hg he hhi hlo hd hz3 hxz hyz hxy hzz hyy hxx; unfold rX cS cD cE; clear key oP oQ p1 q1 nP nQ hk; generalize cB = b; grobner
    · subst hg he hhi hlo hd hz3 hxz hyz hxy hzz hyy hxx; unfold rY cG cD cE; clear key oP oQ p1 q1 nP nQ hk; generalize cB = b; grobner
    · subst hg he hhi hlo hd hz3 hxz hyz hxy hzz hyy hxx; unfold rZ cS cG cD; clear key oP oQ p1 q1 nP nQ hk; generalize cB = b; grobner
end Go.Proofs.YtmgmfifkldpbmaaDoor.Ec
namespace Go.Proofs.YtmgmfifkldpbmaaDoor
open Go.RowKit

/-- digits of any size -/
def valF (f : Nat → Nat) : Nat → Nat
  | 0 => 0
  | n + 1 => valF f n + f n * 65536 ^ n
def tabF (n : Nat) (f : Nat → Nat) : Array Value := tab n fun j => .int .u64 ((f j : Nat) : Int)
def d33 (x : Nat) : Array Value := tab 33 (dgs .u64 65536 x)
theorem valF_split (f : Nat → Nat) (k : Nat) : ∀ d, ∃ r, valF f (k + d) = valF f k + 65536 ^ k * r
  | 0 => ⟨0, by simp⟩
  | d + 1 => by
    obtain ⟨r, h⟩ := valF_split f k d
    refine ⟨r + f (k + d) * 65536 ^ d, ?_⟩
    show valF f (k + d) + f (k + d) * 65536 ^ (k + d) = _
    rw [h, Nat.mul_add, Nat.pow_add, ← Nat.mul_assoc, ← Nat.mul_assoc, Nat.mul_comm (65536 ^ k) (f (k + d)), Nat.add_assoc]
def carF (f : Nat → Nat) (k : Nat) : Nat := valF f k / 65536 ^ k
theorem carF_zero (f : Nat → Nat) : carF f 0 = 0 := by simp [carF, valF]
theorem carF_step (f : Nat → Nat) (k : Nat) : (carF f k + f k) / 65536 = carF f (k + 1) := by
  unfold carF
  show _ = (valF f k + f k * 65536 ^ k) / 65536 ^ (k + 1)
  rw [Nat.pow_succ, ← Nat.div_div_eq_div_mul, Nat.add_mul_div_right _ _ (Nat.pow_pos (by decide))]
theorem carF_dg (f : Nat → Nat) (k n : Nat) (h : k < n) : (carF f k + f k) % 65536 = hxd (valF f n) k := by
  obtain ⟨r, hr⟩ := valF_split f (k + 1) (n - (k + 1))
  rw [show k + 1 + (n - (k + 1)) = n by omega] at hr
  have hp : 0 < 65536 ^ k := Nat.pow_pos (by decide)
  have e : valF f n = valF f k + 65536 ^ k * (f k + 65536 * r) := by
    rw [hr]
    show valF f k + f k * 65536 ^ k + _ = _
    rw [Nat.mul_add, Nat.pow_succ, Nat.mul_assoc, Nat.mul_comm (f k), Nat.add_assoc]
  show _ = valF f n / 65536 ^ k % 65536
  rw [e, Nat.add_mul_div_left _ _ hp, ← Nat.add_assoc, Nat.add_mul_mod_self_left]
  rfl
theorem carF_lt (f : Nat → Nat) (hf : ∀ j, f j < 1152921504606846976) : ∀ k, carF f k < 1152921504606846976
  | 0 => by rw [carF_zero]; decide
  | k + 1 => by
    have h1 := carF_lt f hf k
    have h2 := hf k
    rw [← carF_step]
    omega
/-- k digits are carried -/
def mixF (f : Nat → Nat) (k j : Nat) : Nat := if j < k then hxd (valF f 33) j else f j
theorem mixF_zero (f : Nat → Nat) : tabF 33 (mixF f 0) = tabF 33 f := tab_ext _ _ _ fun j _ => by simp [mixF]
theorem mixF_end (f : Nat → Nat) : tabF 33 (mixF f 33) = d33 (valF f 33) := tab_ext _ _ _ fun j hj => by simp [mixF, hj, dgs, hxd]
theorem mixF_set (f : Nat → Nat) (k : Nat) : (tabF 33 (mixF f k)).setIfInBounds k (.int .u64 ((hxd (valF f 33) k : Nat) : Int)) = tabF 33 (mixF f (k + 1)) := by
  unfold tabF
  rw [tab_set]
  refine tab_ext _ _ _ fun j _ => ?_
  unfold mixF
  by_cases h : j = k
  · subst h; simp
  · rw [if_neg h]
    by_cases h2 : j < k
    · rw [if_pos h2, if_pos (by omega)]
    · rw [if_neg h2, if_neg (by omega)]
theorem mixF_at (f : Nat → Nat) (k : Nat) : mixF f k k = f k := by simp [mixF]
theorem tabF_size (n : Nat) (f : Nat → Nat) : (tabF n f).size = n := tab_size _ _

set_option maxRecDepth 100000 in
set_option maxHeartbeats 1000000 in
theorem carry_any (f : Nat → Nat) (g : Nat) (w : World) (hG : Has w g 95 (tabF 33 f)) (hf : ∀ j, f j < 1152921504606846976) :
    Calls Tryd.prog 64 #[.pointer (some ⟨g, 0, none⟩)] w fun e w' => e = .returned (.tuple #[]) ∧ Has w' g 95 (d33 (valF f 33)) ∧ w.grownBy w' (some g) := by
  have HD := Lib.hid (fun k h => carF_dg f k 33 h)
  have HS := Lib.hid (fun k => carF_step f k)
  have HL := Lib.hid (carF_lt f hf)
  have HF := Lib.hid hf
  have HZ := Lib.hid (carF_zero f)
  clear hf
  have hO : w.grownBy w (some g) := only_drewN w 0 _
  go_enter Tryd.func64, Tryd.ntmps64
  go_wp2_with fail
  go_loopw [2, 3] (fun vc vi wr => ∃ k : Nat, k ≤ 33 ∧ vc = .int .u64 ((carF f k : Nat) : Int) ∧ vi = .int .i64 (k : Int) ∧ Has wr g 95 (tabF 33 (mixF f k)) ∧ w.grownBy wr (some g)) (fun _ vi _ => 33 - (intOf vi).toNat)
  case atStart => exact ⟨0, by omega, by rw [HZ.out]; rfl, rfl, by rw [mixF_zero]; exact hG, hO⟩
  case round =>
    obtain ⟨k, hk, rfl, rfl, h1, hO1⟩ := hrel
    clear hG hO
    by_cases hlt : k < 33
    · have dk : (k : Int) < 33 := by omega
      have c1 := h1.cellTab k hlt
      have f1 := h1.free k
      rw [mixF_at] at c1
      have l1 := HL.out k
      have l2 := HF.out k
      have e1 := HD.out k hlt
      have e2 := HS.out k
      generalize hc : carF f k = c at *
      generalize hfk : f k = b at *
      obtain ⟨x, hx⟩ : ∃ x, x = c + b := ⟨_, rfl⟩
      rw [← hx] at e1 e2
      have d1 : IntKind.u64.wrap ((c : Int) + (b : Int)) = (x : Int) := by rw [IntKind.wrap_u64, hx]; omega
      obtain ⟨r, hr⟩ : ∃ r, r = x % 65536 := ⟨_, rfl⟩
      obtain ⟨q, hq⟩ : ∃ q, q = x / 65536 := ⟨_, rfl⟩
      have d2 : (x : Int).tmod 65536 = (r : Int) := by rw [Int.tmod_eq_emod_of_nonneg (by omega), hr]; omega
      have d3 : (x : Int) % 65536 = (r : Int) := by rw [hr]; omega
      have d4 : (x : Int).tdiv 65536 = (q : Int) := by rw [Int.tdiv_eq_ediv_of_nonneg (by omega), hq]; omega
      have d5 : (x : Int) / 65536 = (q : Int) := by rw [hq]; omega
      have d6 : IntKind.u64.wrap (q : Int) = (q : Int) := by rw [IntKind.wrap_u64, hq]; omega
      rw [← hr] at e1
      rw [← hq] at e2
      have HE := Lib.hid (And.intro e1 e2)
      clear e1 e2 hr hq hx hfk hc l1 l2
      go_wp2_with fail
      go_roundw
      case rel =>
        refine ⟨k + 1, by omega, by rw [← HE.out.2], by go_num, ?_, only_trans hO1 (only_setCell _ _ _ _)⟩
        have h := h1.set k (.int .u64 ((r : Nat) : Int))
        rw [HE.out.1, mixF_set] at h
        rw [← HE.out.1] at h
        exact h
      case measure => simp [intOf]; omega
    · have hk33 : k = 33 := by omega
      have dk : ¬ (k : Int) < 33 := by omega
      rw [hk33, mixF_end] at h1
      have HG := Lib.hid (And.intro h1 hO1)
      clear h1 hO1 hk33 hlt hk
      go_wp2_with fail
      go_end0
      exact ⟨rfl, HG.out⟩
end Go.Proofs.YtmgmfifkldpbmaaDoor
namespace Go.Proofs.YtmgmfifkldpbmaaDoor
open Go.RowKit

theorem mix16_zero (D a : Nat) : tab 16 (mixT D a 0) = d16 a := tab_ext _ _ _ fun j _ => by simp [mixT, dgs, hxd]
theorem mix16_end (D a : Nat) : tab 16 (mixT D a 16) = d16 D := tab_ext _ _ _ fun j hj => by simp [mixT, dgs, hxd, hj]
theorem mix16_at {w : World} {g : Nat} {t : TypeId} {D a k : Nat} (h : Has w g t (tab 16 (mixT D a k))) (hk : k < 16) : w.cell? ⟨g, k, none⟩ = some (.int .u64 ((hxd a k : Nat) : Int)) := by
  rw [h.cellTab k hk]
  simp [mixT]
theorem mix16_set (D a k : Nat) : (tab 16 (mixT D a k)).setIfInBounds k (.int .u64 ((hxd D k : Nat) : Int)) = tab 16 (mixT D a (k + 1)) := by
  rw [tab_set]
  apply tab_ext
  intro j _
  by_cases h : j = k
  · subst h; simp [mixT]
  · simp only [mixT, if_neg h]
    by_cases h2 : j < k
    · rw [if_pos h2, if_pos (by omega)]
    · rw [if_neg h2, if_neg (by omega)]
theorem div_of_dig (a m k : Nat) (h : a / 65536 ^ (k + 1) = m / 65536 ^ (k + 1)) (hd : hxd a k = hxd m k) : a / 65536 ^ k = m / 65536 ^ k := by
  rw [div_stepB 65536 a k, div_stepB 65536 m k, h]
  unfold hxd at hd
  rw [hd]
attribute [local go_sem] zero16
set_option maxRecDepth 100000 in
set_option maxHeartbeats 2000000 in
theorem low_any (a m : Nat) (w : World) (ha : a < 2 * m) (ha16 : a < 65536 ^ 16) (hm16 : m < 65536 ^ 16) :
    Calls Tryd.prog 65 #[.agg (d16 a), .agg (d16 m)] w fun e w' => e = .returned (.agg (d16 (a % m))) ∧ Below w.heap.size w w' := by
  have hlt1 : a < m → d16 a = d16 (a % m) := fun h => by rw [Nat.mod_eq_of_lt h]
  have hm17 : m < 65536 ^ 17 := Nat.lt_of_lt_of_le hm16 (Nat.pow_le_pow_right (by decide) (by decide))
  have hlo := fun k (hk : k < 16) => take_lo a m k (by omega) hm17
  have hhi := take_hi a m
  obtain ⟨D, hDD⟩ : ∃ D, D = a + 65536 ^ 17 - m := ⟨_, rfl⟩
  have hres : m ≤ a → d16 D = d16 (a % m) := fun h => by
    have e : a % m = a - m := by rw [Nat.mod_eq_sub_mod h, Nat.mod_eq_of_lt (by omega)]
    rw [hDD, e]
    unfold d16
    refine dgs_congr ?_
    rw [show a + 65536 ^ 17 - m = (a - m) + 65536 ^ 16 * 65536 by omega, Nat.add_mul_mod_self_left]
  rw [← hDD] at hlo
  have HLO := Lib.hid hlo
  have HHI := Lib.hid hhi
  have HR := Lib.hid hres
  have HLT := Lib.hid hlt1
  have htop : a / 65536 ^ 16 = m / 65536 ^ 16 := by rw [Nat.div_eq_of_lt ha16, Nat.div_eq_of_lt hm16]
  have HTOP := Lib.hid htop
  clear hlo hhi hres hDD ha ha16 hm16 hm17 htop hlt1
  generalize a % m = y at *
  have n0 := d16_ne 0
  have h0 : Has (((w.alloc (.cells (d16 a) 32)).alloc (.cells (d16 m) 32)).alloc (.cells (d16 0) 32)) w.heap.size 32 (d16 a) := ((Has.new w _ _).alloc _).alloc _
  have h1 : Has (((w.alloc (.cells (d16 a) 32)).alloc (.cells (d16 m) 32)).alloc (.cells (d16 0) 32)) (w.heap.size + 1) 32 (d16 m) := (Has.new' (by simp)).alloc _
  have h2 : Has (((w.alloc (.cells (d16 a) 32)).alloc (.cells (d16 m) 32)).alloc (.cells (d16 0) 32)) (w.heap.size + 1 + 1) 32 (d16 0) := Has.new' (by simp)
  have hb : Below w.heap.size w (((w.alloc (.cells (d16 a) 32)).alloc (.cells (d16 m) 32)).alloc (.cells (d16 0) 32)) := (((Below.refl _ _).alloc (Nat.le_refl _) _).alloc (by simp) _).alloc (by simp <;> omega) _
  go_enter Tryd.func65, Tryd.ntmps65
  go_wp2_with fail
  go_loopw [5] (fun vi wr => ∃ k : Nat, k ≤ 16 ∧ vi = .int .i64 ((k : Int) - 1) ∧ Hid (a / 65536 ^ k = m / 65536 ^ k) ∧ Has wr w.heap.size 32 (d16 a) ∧ Has wr (w.heap.size + 1) 32 (d16 m) ∧ Has wr (w.heap.size + 1 + 1) 32 (d16 0) ∧ Below w.heap.size w wr) (fun vi _ => (intOf vi + 1).toNat)
  case atStart => exact ⟨16, by omega, rfl, HTOP, h0, h1, h2, hb⟩
  case round =>
    clear h0 h1 h2 hb HTOP
    obtain ⟨k, hk, rfl, HK, h0, h1, h2, hb⟩ := hrel
    by_cases hlt : 0 < k
    · obtain ⟨k, rfl⟩ : ∃ j, k = j + 1 := ⟨k - 1, by omega⟩
      have ek : ((k + 1 : Nat) : Int) - 1 = (k : Int) := by omega
      rw [ek]
      clear ek
      have c0 := d16_at h0 k (by omega)
      have c1 := d16_at h1 k (by omega)
      have dk : (k : Int) < 16 := by omega
      have dk0 : (0 : Int) ≤ (k : Int) := by omega
      go_wp2_with fail
      go_quiet (fail)
      replace h0 := h0.drewN nq
      replace h1 := h1.drewN nq
      replace h2 := h2.drewN nq
      replace hb := below_drewN hb nq
      clear c0 c1
      generalize hq : Go.World.drewN _ nq = wq at *
      clear hq
      by_cases hd : hxd a k < hxd m k
      · have hal : a < m := by
          have := less_dig 65536 a m k HK.out (by unfold hxd at hd; omega)
          have h2 : decide (dg 65536 a k < dg 65536 m k) = true := decide_eq_true hd
          rw [h2] at this
          exact of_decide_eq_true this
        have HE := Lib.hid (HLT.out hal)
        clear hal
        go_wp2_with (first | refine wpList_load_has 32 _ rfl _ rfl rfl 32 _ h0 _ Tryd.underlying32 rfl (info16 _) ?_ | refine wpList_store_row rfl 32 _ _ rfl (w.heap.size + 1 + 1) _ rfl rfl 32 _ h2 (info16 _) (by simp only [d16_size]) (tab_oneCell _ _ fun _ => rfl) ?_)
        exact bodyPost_ret (v := .agg (d16 a)) (results_cell_row rfl _ _ (w.heap.size + 1 + 1) 32 _ _ _ rfl (h2.setRow _) Tryd.underlying32 rfl (info16 _)) rfl ⟨by rw [HE.out], below_setRow hb (by omega) _⟩
      · by_cases hd2 : hxd m k < hxd a k
        · have hal : m ≤ a := by
            have := less_dig 65536 m a k HK.out.symm (by unfold hxd at hd2; omega)
            have h2 : decide (dg 65536 m k < dg 65536 a k) = true := decide_eq_true hd2
            rw [h2] at this
            exact Nat.le_of_lt (of_decide_eq_true this)
          have HGE := Lib.hid hal
          have c0 := d16_at h0 k (by omega)
          have c1 := d16_at h1 k (by omega)
          clear hal
          go_wp2_with fail
          go_quiet (fail)
          replace h0 := h0.drewN nq
          replace h1 := h1.drewN nq
          replace h2 := h2.drewN nq
          replace hb := below_drewN hb nq
          clear c0 c1
          generalize hq : Go.World.drewN _ nq = wq2 at *
          clear hq
          go_wp2_with fail
          clear HK hd hd2 dk dk0 hk hlt
          go_loopw [6, 7, 8] (fun vc vi _ wr => ∃ j : Nat, j ≤ 16 ∧ vi = .int .i64 (j : Int) ∧ vc = .int .u64 ((bor3 a m j : Nat) : Int) ∧ Has wr w.heap.size 32 (tab 16 (mixT D a j)) ∧ Has wr (w.heap.size + 1) 32 (d16 m) ∧ Has wr (w.heap.size + 1 + 1) 32 (d16 0) ∧ Below w.heap.size w wr) (fun _ vi _ _ => 16 - (intOf vi).toNat)
          case atStart => exact ⟨0, by omega, rfl, by rw [bor3, bor_zero]; rfl, by rw [mix16_zero]; exact h0, h1, h2, hb⟩
          case round =>
            clear h0 h1 h2 hb
            obtain ⟨j, hj, rfl, rfl, h0, h1, h2, hb⟩ := hrel
            by_cases hjt : j < 16
            · have dj : (j : Int) < 16 := by omega
              have c0 := mix16_at h0 hjt
              have c1 := d16_at h1 j hjt
              have l0 : ((hxd a j : Nat) : Int) < 65536 := by have := hxd_lt a j; omega
              have l1 : ((hxd m j : Nat) : Int) < 65536 := by have := hxd_lt m j; omega
              have l2 : ((bor3 a m j : Nat) : Int) ≤ 1 := by have := bor3_le a m j; omega
              have e1 := HLO.out j hjt
              have e2 := HHI.out j
              go_wp2_with fail
              go_quiet (fail)
              replace h0 := h0.drewN nq
              replace h1 := h1.drewN nq
              replace h2 := h2.drewN nq
              replace hb := below_drewN hb nq
              clear c0 c1
              generalize hq : Go.World.drewN _ nq = wq at *
              clear hq
              have f0 := h0.free j
              have c0 := mix16_at h0 hjt
              go_wp2_with fail
              go_roundw
              case rel => exact ⟨j + 1, by omega, by go_num, by rw [← e2], by rw [← mix16_set, ← e1]; exact h0.set j _, h1.far (by simp <;> omega) _, h2.far (by simp <;> omega) _, hb.setCell (by simp <;> omega) _⟩
              case measure => simp [intOf]; omega
            · have ej : j = 16 := by omega
              have dj : ¬ (j : Int) < 16 := by omega
              have h0' : Has wr w.heap.size 32 (d16 D) := by rw [ej, mix16_end] at h0; exact h0
              clear ej hj hjt h0 h1
              go_wp2_with (first | refine wpList_load_has 32 _ rfl _ rfl rfl 32 _ h0' _ Tryd.underlying32 rfl (info16 _) ?_ | refine wpList_store_row rfl 32 _ _ rfl (w.heap.size + 1 + 1) _ rfl rfl 32 _ h2 (info16 _) (by simp only [d16_size]) (tab_oneCell _ _ fun _ => rfl) ?_)
              exact bodyPost_ret (v := .agg (d16 D)) (results_cell_row rfl _ _ (w.heap.size + 1 + 1) 32 _ _ _ rfl (h2.setRow _) Tryd.underlying32 rfl (info16 _)) rfl ⟨by rw [HR.out HGE.out], below_setRow hb (by omega) _⟩
        · have hde : hxd a k = hxd m k := by omega
          have HK2 := Lib.hid (div_of_dig a m k HK.out hde)
          have c0 := d16_at h0 k (by omega)
          have c1 := d16_at h1 k (by omega)
          clear hde
          go_wp2_with fail
          go_quiet (fail)
          replace h0 := h0.drewN nq
          replace h1 := h1.drewN nq
          replace h2 := h2.drewN nq
          replace hb := below_drewN hb nq
          clear c0 c1
          generalize hq : Go.World.drewN _ nq = wq2 at *
          clear hq
          go_wp2_with fail
          go_roundw
          case rel => exact ⟨k, by omega, by go_num, HK2, h0, h1, h2, hb⟩
          case measure => simp [intOf] <;> omega
    · obtain rfl : k = 0 := by omega
      have HGE : Hid (m ≤ a) := Lib.hid (by have := HK.out; rw [Nat.pow_zero, Nat.div_one, Nat.div_one] at this; omega)
      clear HK hlt hk
      go_wp2_with fail
      clear n0
      go_loopw [6, 7, 8] (fun vc vi _ wr => ∃ j : Nat, j ≤ 16 ∧ vi = .int .i64 (j : Int) ∧ vc = .int .u64 ((bor3 a m j : Nat) : Int) ∧ Has wr w.heap.size 32 (tab 16 (mixT D a j)) ∧ Has wr (w.heap.size + 1) 32 (d16 m) ∧ Has wr (w.heap.size + 1 + 1) 32 (d16 0) ∧ Below w.heap.size w wr) (fun _ vi _ _ => 16 - (intOf vi).toNat)
      case atStart => exact ⟨0, by omega, rfl, by rw [bor3, bor_zero]; rfl, by rw [mix16_zero]; exact h0, h1, h2, hb⟩
      case round =>
        clear h0 h1 h2 hb
        obtain ⟨j, hj, rfl, rfl, h0, h1, h2, hb⟩ := hrel
        by_cases hjt : j < 16
        · have dj : (j : Int) < 16 := by omega
          have c0 := mix16_at h0 hjt
          have c1 := d16_at h1 j hjt
          have l0 : ((hxd a j : Nat) : Int) < 65536 := by have := hxd_lt a j; omega
          have l1 : ((hxd m j : Nat) : Int) < 65536 := by have := hxd_lt m j; omega
          have l2 : ((bor3 a m j : Nat) : Int) ≤ 1 := by have := bor3_le a m j; omega
          have e1 := HLO.out j hjt
          have e2 := HHI.out j
          go_wp2_with fail
          go_quiet (fail)
          replace h0 := h0.drewN nq
          replace h1 := h1.drewN nq
          replace h2 := h2.drewN nq
          replace hb := below_drewN hb nq
          clear c0 c1
          generalize hq : Go.World.drewN _ nq = wq at *
          clear hq
          have f0 := h0.free j
          have c0 := mix16_at h0 hjt
          go_wp2_with fail
          go_roundw
          case rel => exact ⟨j + 1, by omega, by go_num, by rw [← e2], by rw [← mix16_set, ← e1]; exact h0.set j _, h1.far (by simp <;> omega) _, h2.far (by simp <;> omega) _, hb.setCell (by simp <;> omega) _⟩
          case measure => simp [intOf]; omega
        · have ej : j = 16 := by omega
          have dj : ¬ (j : Int) < 16 := by omega
          have h0' : Has wr w.heap.size 32 (d16 D) := by rw [ej, mix16_end] at h0; exact h0
          clear ej hj hjt h0 h1
          go_wp2_with (first | refine wpList_load_has 32 _ rfl _ rfl rfl 32 _ h0' _ Tryd.underlying32 rfl (info16 _) ?_ | refine wpList_store_row rfl 32 _ _ rfl (w.heap.size + 1 + 1) _ rfl rfl 32 _ h2 (info16 _) (by simp only [d16_size]) (tab_oneCell _ _ fun _ => rfl) ?_)
          exact bodyPost_ret (v := .agg (d16 D)) (results_cell_row rfl _ _ (w.heap.size + 1 + 1) 32 _ _ _ rfl (h2.setRow _) Tryd.underlying32 rfl (info16 _)) rfl ⟨by rw [HR.out HGE.out], below_setRow hb (by omega) _⟩
end Go.Proofs.YtmgmfifkldpbmaaDoor
