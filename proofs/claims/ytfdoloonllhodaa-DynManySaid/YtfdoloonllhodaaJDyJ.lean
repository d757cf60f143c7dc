/-
Layer 9, the law's file: its beginning and its symbols.
-/
import Derived.Test.YtfdoloonllhodaaJDyH
import Derived.Test.YtfdoloonllhodaaJChn
import Derived.Maps.RangeWalk
import Derived.Deep.RegionLawGrows
namespace Go.Proofs.Ytfdoloonllhodaa
open Go Go.RowKit

/-- what File keeps: the bytes so far, the box of what came in -/
structure FbO (w0 : World) (L gt : Nat) (cs : Array Value) (vb : Value) (bs : List UInt8) (w : World) : Prop where
  own : w.ownsRow L 5 1 vb bs.length (bs.map by8)
  bel : Below w0.heap.size w0 w
  box : Has w gt 27 cs
  siz : L ≤ w.heap.size
  gtL : gt < L
  wL : w0.heap.size ≤ L
section
variable {w0 w w' : World} {L gt : Nat} {cs : Array Value} {vb vb' : Value} {bs bs' : List UInt8}
theorem FbO.after (h : FbO w0 L gt cs vb bs w) (k : Below w.heap.size w w') : FbO w0 L gt cs vb bs w' := ⟨own_after h.own k, h.bel.trans (k.mono h.bel.size), h.box.after k, Nat.le_trans h.siz k.size, h.gtL, h.wL⟩
theorem FbO.put (h : FbO w0 L gt cs vb bs w) {n : Nat} (ho : w'.ownsRow L 5 1 vb' n (bs'.map by8)) (k : w.grownBy w' vb.ownBlock) : FbO w0 L gt cs vb' bs' w' := by
  refine ⟨?_, below_own h.bel h.own h.wL h.bel.size k, has_grown h.box k (fun l e => by have := (own_blk h.own e).1; have := h.gtL; omega), Nat.le_trans h.siz k.size, h.gtL, h.wL⟩
  have e := ho.1
  rw [List.length_map, Nat.mul_one] at e
  rw [e]
  exact ho
end
theorem at_u32 (b o n c j : Nat) (hj : (j : Int) < (n : Int)) (w : World) : (Instr.indexAt 24 (.slice (some ⟨b, o, none⟩) n c) (.int .i64 (j : Int))).run Try.prog w = .ok (.pointer (some ⟨b, o + j, none⟩)) w := by
  have h2 := Addr.add_mid b o j
  go_simp
theorem infoU4x : (Try.prog.info? 32).map (fun i => (i.zero, i.size, i.bytes)) = some (some (.int .u32 0), 1, 4) := by kernel_rfl
theorem at_t3 (b o n c j : Nat) (hj : (j : Int) < (n : Int)) (w : World) : (Instr.indexAt 25 (.slice (some ⟨b, o, none⟩) n c) (.int .i64 (j : Int))).run Try.prog w = .ok (.pointer (some ⟨b, o + j * 3, none⟩)) w := by
  have h2 := Addr.add_mid b o (j * 3)
  go_simp
theorem infoT3 : (Try.prog.info? 33).map (·.size) = some 3 := by kernel_rfl
theorem infoT3z : (Try.prog.info? 33).map (fun i => (i.zero, i.size)) = some (some (.agg (tab 3 (r3V (0, 0, 0)))), 3) := by kernel_rfl
theorem zeroT3 (w : World) : (zeroValue 33).run Try.prog w = .ok (.agg (tab 3 (r3V (0, 0, 0)))) w := (zero_of_info infoT3z).1 w
theorem wp_load_t3 {w : World} {ops : Array Oper} {rest : List Oper} {op : Oper} {a : Act} {Q : Exit → Act → World → Prop} (hgd : op.guard = none) (x : Operand) (ho : op.op = .load 33 x)
    (b o : Nat) (hx : a.eval x = .pointer (some ⟨b, o, none⟩)) (f : Nat → Value) (hc : w.rangeAt b o ((List.range 3).map f)) (h : wpList Try.prog ops Q rest (a.put op.dst (.agg (tab 3 f))) w) : wpList Try.prog ops Q (op :: rest) a w :=
  wpList_load_mid hgd 33 x ho b o hx _ _ hc Try.underlying33 rfl (by simpa using infoT3) h
def r3N (p : Nat × Nat × Nat) : Nat → Nat
  | 0 => p.1
  | 1 => p.2.1
  | _ => p.2.2
theorem r3V_N (p : Nat × Nat × Nat) (j : Nat) : r3V p j = .int .u32 (r3N p j : Int) := by
  match j with
  | 0 => rfl
  | 1 => rfl
  | _ + 2 => rfl
theorem index_t3 (p : Nat × Nat × Nat) (j : Nat) (hj : j < 3) (w : World) : (Instr.index 33 (.agg (tab 3 (r3V p))) (.int .i64 (j : Int))).run Try.prog w = .ok (.int .u32 (r3N p j : Int)) w := by
  obtain ⟨i0, hi0, -, hs0, -⟩ := info_parts infoU4x
  rw [run_index_tab 33 32 3 .u32 i0 (r3V p) Try.underlying33 Try.underlying32 hi0 hs0 .i64 j hj w, r3V_N]
/-- of a relocation's bytes the first j numbers -/
def rpN (p : Nat × Nat × Nat) (j : Nat) : List UInt8 := (List.range j).flatMap fun k => leB 4 (r3N p k)
theorem rpN_succ (p : Nat × Nat × Nat) (j : Nat) : rpN p (j + 1) = rpN p j ++ leB 4 (r3N p j) := by simp [rpN, List.range_succ]
theorem rpN_len (p : Nat × Nat × Nat) (j : Nat) : (rpN p j).length = 4 * j := by
  unfold rpN
  rw [flat_len (fun k => leB 4 (r3N p k)) 4 (fun _ => leB_len _ _), List.length_range]
theorem rpN_all (p : Nat × Nat × Nat) : rpN p 3 = relB p := by
  show leB 4 p.1 ++ (leB 4 p.2.1 ++ (leB 4 p.2.2 ++ [])) = _
  rw [List.append_nil]
  rfl
theorem natI_nat (x : Nat) (h : x < 18446744073709551616) : natI (x : Int) = x := by
  unfold natI
  omega
theorem own_bytes {w : World} {base n : Nat} {v : Value} {bs : List UInt8} (h : w.ownsRow base 5 1 v n (bs.map by8)) : ∃ A c, v = .slice A n c ∧ SlA w A n c bs ∧ (A = none → c = 0) := by
  obtain ⟨A, c, rfl⟩ := own_form h
  exact ⟨A, c, rfl, own_slA h⟩
theorem wrap_lt (x : Int) : -9223372036854775808 ≤ IntKind.i64.wrap x ∧ IntKind.i64.wrap x < 9223372036854775808 := by
  rw [IntKind.wrap_i64]
  omega
theorem rep4 (l : List UInt8) (h : l.length = 4) : ∃ a b c d, l = [a, b, c, d] := by
  match l, h with
  | [a, b, c, d], _ => exact ⟨a, b, c, d, rfl⟩
/-- bytes are appended onto a row of the call's own -/
theorem wp_app_own {w : World} {op : Oper} {a : Act} {K : Act → World → Prop} {Q : Exit → Act → World → Prop} (s x : Operand)
    (ho : op.op = .call { callee := .builtin .append, args := #[s, x], argTypes := #[22, 22] }) (base : Nat) (v : Value) (n : Nat) (xs : List UInt8) (hs : a.eval s = v)
    (hown : w.ownsRow base 5 1 v n (xs.map by8)) (y : Value) (m : Nat) (ys : List UInt8) (hx : a.eval x = y) (hm : 0 < m) (b2 : Nat) (hy : w.ownsRow b2 5 1 y m (ys.map by8)) (h63 : n + m ≤ 1000000) (hbase : base ≤ w.heap.size)
    (h : ∀ v' w', w'.ownsRow base 5 1 v' (n + m) ((xs ++ ys).map by8) → w.grownBy w' v.ownBlock → K (a.put op.dst v') w') : op.wp Try.prog a w K Q := by
  obtain ⟨A, c, rfl, hS, hA⟩ := own_bytes hy
  obtain ⟨b, o, rfl⟩ := slA_some hS (by have := hS.1; omega)
  exact wp_append_bytesK s x ho base v n (xs.map by8) hs hown _ m c hx ys hS h63 hbase (fun v' w' h1 h2 => h v' w' (by rw [List.map_append]; exact h1) h2)
/-- a row of elements -/
theorem wp_build_elsK {α : Type} {f : α → Nat → Value} {P : Program} {st e : TypeId} {k by' : Nat} {z : Value} (hu : P.underlying st = some (.slice e)) (hinfo : (P.info? e).map (fun i => (i.zero, i.size, i.bytes)) = some (some z, k, by')) (hk : 0 < k) (hk2 : k ≤ 1000)
    {w : World} {o : Oper} {a : Act} {K : Act → World → Prop} {Q : Exit → Act → World → Prop} (n : Nat) (parts : Array (Nat × Operand)) (ho : o.op = .buildSlice st n parts) (qs : List α) (hn : qs.length = n) (hn0 : 0 < n) (hn1 : n ≤ 1000)
    (hp : (parts.map fun (i, x) => (i, a.eval x)).toList = ((qs.map fun q => Value.agg (tab k (f q))).zipIdx 0).map fun x => (x.2, x.1))
    (h : ∀ w', w' = w.alloc (.cells (cellsL k f qs).toArray e) → K (a.put o.dst (.slice (some ⟨w.heap.size, 0, none⟩) n n)) w') : o.wp P a w K Q := by
  obtain ⟨i5, hi5, hz5, hs5, hb5⟩ := info_parts hinfo
  subst hn
  have hle : qs.length * k ≤ 1000 * 1000 := Nat.mul_le_mul hn1 hk2
  refine wp_buildSlice st e qs.length parts ho (cellsL k f qs).toArray i5 _ hu hi5 hz5 (by rw [hs5]; omega) (by rw [hs5]; exact Nat.ne_of_gt (Nat.mul_pos hn0 hk)) ?_ (h _ rfl)
  rw [hs5, hp]
  refine (Great.fill_whole (s := k) hk (qs.map fun q => .agg (tab k (f q))) _ (fun v hv => ?_) (by simp)).trans ?_
  · obtain ⟨q, _, rfl⟩ := List.mem_map.1 hv
    exact tab_size _ _
  · congr 2
    rw [List.flatMap_map]
    rfl
/-- append(s, x...), s without spare room: a row of the call's own -/
theorem wp_grow_elK {α : Type} {f : α → Nat → Value} {P : Program} {st e : TypeId} {k by' : Nat} {z : Value} (hu : P.underlying st = some (.slice e)) (hinfo : (P.info? e).map (fun i => (i.zero, i.size, i.bytes)) = some (some z, k, by')) (hzs : z.cells.size = k) (hk : 0 < k) (hby : by' ≤ 1000) (h1f : ∀ x j, (f x j).oneCell' = true)
    {w : World} {op : Oper} {a : Act} {K : Act → World → Prop} {Q : Exit → Act → World → Prop} (hgd : op.guard = none) (s x : Operand)
    (ho : op.op = .call { callee := .builtin .append, args := #[s, x], argTypes := #[st, st] }) (A : Option Addr) (n : Nat) (xs : List α) (d : α) (hs : a.eval s = .slice A n n) (hl : xs.length = n) (hS : SlC w ⟨A, n, n⟩ k fun j i => f (xs.getD j d) i) (hA : A = none → n = 0)
    (g m : Nat) (ys : List α) (hx : a.eval x = .slice (some ⟨g, 0, none⟩) m m) (hm : 0 < m) (hyl : ys.length = m) (hY : Has w g e (cellsL k f ys).toArray) (h63 : n + m ≤ 1000000)
    (h : ∀ v' w', w'.ownsRow w.heap.size e k v' (n + m) (cellsL k f (xs ++ ys)) → w.grownBy w' none → K (a.put op.dst v') w') : op.wp P a w K Q := by
  obtain ⟨i5, hi5, hz5, hs5, hb5⟩ := info_parts hinfo
  have hb2 : (n + m) * by' ≤ 1000000 * 1000 := Nat.mul_le_mul h63 hby
  have := step_append_grows (P := P) (ops := #[]) (E := True) (Q := Q) (K := K) (w := w) hgd s x st ho e i5 z k by' hu hi5 hz5 hs5 hb5 hzs hk A n n (cellsL k f xs) hs (fun h => ⟨hA h, hA h⟩) (by rw [cellsL_len, hl]) (fun ad had j u hj => ?_) ⟨g, 0, none⟩ m m (cellsL k f ys) hx (by rw [cellsL_len, hyl]) (fun j u hj => ?_) (fun u hu => ?_) (by omega) (by simp only [maxLen]; omega) (by omega)
    (fun v' w' h1 h2 => h v' w' (by rw [cellsL_app]; exact h1) h2)
  · rwa [if_pos (by simp [Region.wanted, hgd])] at this
  · have hj2 : j < n * k := by have := (List.getElem?_eq_some_iff.1 hj).1; rw [cellsL_len, hl] at this; exact this
    have hn0 : 0 < n := by
      rcases Nat.eq_zero_or_pos n with h0 | h0
      · rw [h0] at hj2; omega
      · exact h0
    obtain ⟨b', o', e', _, hc'⟩ := hS.2 hn0
    obtain rfl : ad = ⟨b', o', none⟩ := Option.some.inj (had.symm.trans e')
    have hjk : j / k < n := Nat.div_lt_of_lt_mul (by rw [Nat.mul_comm]; exact hj2)
    have hjm : j % k < k := Nat.mod_lt _ hk
    have hjj : j / k * k + j % k = j := by rw [Nat.mul_comm]; exact Nat.div_add_mod j k
    have h1 := hc' (j / k) (j % k) hjk hjm
    have h2 := cellsL_get k f d xs (j / k) (j % k) (by omega) hjm
    rw [hjj] at h2
    rw [Nat.add_assoc, hjj] at h1
    rw [Addr.add_mid, h1, ← hj, h2]
  · rw [Addr.add_mid, Nat.zero_add, hY.cell j, ← hj]
    simp
  · obtain ⟨q, _, hq⟩ := List.mem_flatMap.1 hu
    obtain ⟨j, _, rfl⟩ := List.mem_map.1 hq
    exact h1f _ _
theorem infoP2u : (Try.prog.info? 48).map (fun i => (i.zero, i.size, i.bytes)) = some (some (.agg (tab 2 (tgV (0, 0)))), 2, 8) := by kernel_rfl
theorem tgV_lit (a b : Nat) : (#[.int .u32 (a : Int), .int .u32 (b : Int)] : Array Value) = tab 2 (tgV (a, b)) := by kernel_rfl
theorem u32_wrap (x : Int) (h0 : 0 ≤ x) (h1 : x < 4294967296) : IntKind.u32.wrap x = x := by
  simp [IntKind.wrap, IntKind.bits, IntKind.signed]
  omega
theorem i64_wrap (x : Int) (h0 : -9223372036854775808 ≤ x) (h1 : x < 9223372036854775808) : IntKind.i64.wrap x = x := by
  rw [IntKind.wrap_i64]
  omega
theorem infoP22 : (Try.prog.info? 48).map (·.size) = some 2 := by kernel_rfl
theorem infoP2z : (Try.prog.info? 48).map (fun i => (i.zero, i.size)) = some (some (.agg (tab 2 (tgV (0, 0)))), 2) := by kernel_rfl
theorem zeroP2 (w : World) : (zeroValue 48).run Try.prog w = .ok (.agg (tab 2 (tgV (0, 0)))) w := (zero_of_info infoP2z).1 w
theorem at_p2 (b o n c j : Nat) (hj : (j : Int) < (n : Int)) (w : World) : (Instr.indexAt 23 (.slice (some ⟨b, o, none⟩) n c) (.int .i64 (j : Int))).run Try.prog w = .ok (.pointer (some ⟨b, o + j * 2, none⟩)) w := by
  have h2 := Addr.add_mid b o (j * 2)
  go_simp
theorem wp_load_p2 {w : World} {ops : Array Oper} {rest : List Oper} {op : Oper} {a : Act} {Q : Exit → Act → World → Prop} (hgd : op.guard = none) (x : Operand) (ho : op.op = .load 48 x)
    (b o : Nat) (hx : a.eval x = .pointer (some ⟨b, o, none⟩)) (f : Nat → Value) (hc : w.rangeAt b o ((List.range 2).map f)) (h : wpList Try.prog ops Q rest (a.put op.dst (.agg (tab 2 f))) w) : wpList Try.prog ops Q (op :: rest) a w :=
  wpList_load_mid hgd 48 x ho b o hx _ _ hc Try.underlying48 rfl (by simpa using infoP22) h
theorem made_zs (n : Nat) : madeCells (Value.int .u8 0).cells (n * 1) = ((zs n).map by8).toArray := by
  unfold madeCells
  apply Array.ext
  · simp [zs]
  · intro i h1 h2
    simp [zs, Value.cells, by8, Nat.mod_one]
theorem make_zs (n : Nat) (hn : n ≤ 16777216) (W : World) : (Instr.makeSlice 22 (.int .i64 (n : Int)) (.int .i64 (n : Int))).run Try.prog W = .ok (.slice (some ⟨W.heap.size, 0, none⟩) n n) (W.alloc (.cells ((zs n).map by8).toArray 5)) := by
  obtain ⟨i5, hi5, hz5, hs5, hb5⟩ := info_parts info5
  have h := run_makeSlice (P := Try.prog) (w := W) 22 5 i5 (.int .u8 0) Try.underlying22 hi5 hz5 .i64 .i64 (n : Int) (n : Int) (by omega) (by omega) (by rw [hs5]; simpa using hn) (by rw [hb5]; omega) (by omega)
  rw [hs5, Int.toNat_natCast, made_zs] at h
  exact h
/-- three heads -/
theorem slJ_three {w : World} {g : Nat} {h0 h1 h2 : Hd} (hG : Has w g 50 (cellsL 6 hdR [h0, h1, h2]).toArray) : SlJ w ⟨some ⟨g, 0, none⟩, 3, 3⟩ [h0, h1, h2] :=
  ⟨rfl, ⟨Nat.le_refl _, by show (3 : Nat) ≤ _; decide⟩, fun _ => ⟨g, 0, rfl, hG.lt, fun j i hj hi => by
    replace hj : j < 3 := hj
    have h3 := cellsL_get 6 hdR hd0 [h0, h1, h2] j i hj hi
    have h4 := hG.cell (j * 6 + i)
    rw [List.getElem?_toArray, h3] at h4
    rw [Nat.zero_add]
    exact h4⟩⟩
theorem slD_three {w : World} {g n0 c0 n1 c1 n2 c2 : Nat} {A0 A1 A2 : Option Addr} {b0 b1 b2 : List UInt8} (hG : Has w g 22 #[.slice A0 n0 c0, .slice A1 n1 c1, .slice A2 n2 c2]) (h0 : SlA w A0 n0 c0 b0) (k0 : A0 = none → c0 = 0) (h1 : SlA w A1 n1 c1 b1) (k1 : A1 = none → c1 = 0) (h2 : SlA w A2 n2 c2 b2) (k2 : A2 = none → c2 = 0) :
    SlD w ⟨some ⟨g, 0, none⟩, 3, 3⟩ [b0, b1, b2] :=
  ⟨rfl, by show (3 : Nat) ≤ _; decide, fun _ => ⟨g, 0, rfl, hG.lt, fun j hj => by
    replace hj : j < 3 := hj
    have h3 : j = 0 ∨ j = 1 ∨ j = 2 := by omega
    rcases h3 with rfl | rfl | rfl
    · exact ⟨A0, n0, c0, hG.cell 0, h0, k0⟩
    · exact ⟨A1, n1, c1, hG.cell 1, h1, k1⟩
    · exact ⟨A2, n2, c2, hG.cell 2, h2, k2⟩⟩⟩
theorem own_Has {w : World} {base size n c : Nat} {e : TypeId} {A : Option Addr} {xs : List Value} (h : w.ownsRow base e size (.slice A n c) n xs) : ∀ b o s, A = some ⟨b, o, s⟩ → ∃ cs, Has w b e cs := fun b o s hA => by
  rcases h.2 with ⟨hv, h1⟩ | ⟨g, cap, cur, hv, hb, hg, _⟩
  · injection hv with e1
    rw [hA] at e1
    cases e1
  · injection hv with e1
    rw [hA] at e1
    injection e1 with e1
    injection e1 with e1 _ _
    rw [e1]
    exact ⟨cur, hg⟩
/-- the tags' slice, and that it is no part of the bytes so far -/
structure TgS (L : Nat) (A : Option Addr) (n c : Nat) (tgs : List (Nat × Nat)) (w : World) : Prop where
  sl : SlTg w ⟨A, n, c⟩ tgs
  ty : ∀ b o s, A = some ⟨b, o, s⟩ → 0 < n → b < L ∨ ∃ cs, Has w b 48 cs
section
variable {L n c : Nat} {A : Option Addr} {tgs : List (Nat × Nat)} {w w' : World}
theorem TgS.after (h : TgS L A n c tgs w) (k : Below w.heap.size w w') : TgS L A n c tgs w' := ⟨h.sl.below k, fun b o s e h0 => (h.ty b o s e h0).imp id fun ⟨cs, hG⟩ => ⟨cs, hG.after k⟩⟩
theorem TgS.app {va : Value} {m : Nat} {xs : List Value} (h : TgS L A n c tgs w) (ho : w.ownsRow L 5 1 va m xs) (k : w.grownBy w' va.ownBlock) : TgS L A n c tgs w' := by
  have hne : ∀ b o s, A = some ⟨b, o, s⟩ → 0 < n → ∀ l, va.ownBlock = some l → b ≠ l := fun b o s e h0 l hl => by
    rcases h.ty b o s e h0 with h1 | ⟨cs, hG⟩
    · have := (own_blk ho hl).1
      omega
    · exact own_has ho hG (by decide) l hl
  exact ⟨⟨h.sl.1, h.sl.2.1.grown k (fun b o e h0 e2 => hne b o none e h0 b e2 rfl), h.sl.2.2⟩, fun b o s e h0 => (h.ty b o s e h0).imp id fun ⟨cs, hG⟩ => ⟨cs, has_grown hG k (fun l hl => hne b o s e h0 l hl)⟩⟩
end
theorem run_full2 (A : Option Addr) (n c : Nat) (hk : n ≤ c) (W : World) : (Instr.sliceAt 23 (.slice A n c) none (some (.int .i64 (n : Int))) (some (.int .i64 (n : Int)))).run Try.prog W = .ok (.slice A n n) W := by
  have h1 : (n : Int) ≤ (c : Int) := by omega
  cases A with
  | none => go_simp
  | some ad => go_simp
set_option maxRecDepth 100000 in
set_option maxHeartbeats 1000000 in
theorem file9_yes (code : List UInt8) (A : Option Addr) (n c : Nat) (t y r : Sl) (tg : List (Nat × Nat)) (sy : List Nat) (rl : List (Nat × Nat × Nat)) (m : Int) (pl : Bool) (w : World)
    (hS : SlA w A n c code) (hA : A = none → c = 0) (ht : SlTg w t tg) (hy : SlU w y sy) (hyf : ∀ v ∈ sy, v < 4294967296) (hr : SlT3 w r rl) (_hm1 : -9223372036854775808 ≤ m) (_hm2 : m < 9223372036854775808)
    (hfit : n ≤ 240 ∧ n % 4 = 0 ∧ n ≠ 0 ∧ t.n ≤ 20 ∧ y.n ≤ 80 ∧ r.n ≤ 80) :
    Calls Try.prog 8 #[.slice A n c, .agg (tbC t y r m pl)] w fun e w' => (∃ A n c, e = .returned (.slice A n c) ∧ RowB w' (.slice A n c) (file9N code tg sy rl m pl) ∧ c < 9223372036854775808) ∧ Below w.heap.size w w' := by
  obtain ⟨At, g, ct, rfl⟩ := t.out
  obtain ⟨Ay, ny, cy, rfl⟩ := y.out
  obtain ⟨Ar, nr, cr, rfl⟩ := r.out
  rw [show tbC ⟨At, g, ct⟩ ⟨Ay, ny, cy⟩ ⟨Ar, nr, cr⟩ m pl = #[.slice At g ct, .slice Ay ny cy, .slice Ar nr cr, .int .i64 m, .bool pl] from rfl]
  obtain ⟨hn240, hn4, hn0, hg20, hy80, hr80⟩ := hfit
  dsimp only at hg20 hy80 hr80
  have HS := Lib.hid hS
  have HT := Lib.hid ht
  have HY := Lib.hid hy
  have HYF := Lib.hid hyf
  have HR := Lib.hid hr
  have HA := Lib.hid hA
  have d0 : (n : Int) ≤ 240 := by omega
  have d1 : (((n : Int) % 4 != 0)) = false := by simp only [bne_eq_false_iff_eq]; omega
  have d2 : ((n : Int) == 0) = false := by simp only [beq_eq_false_iff_ne, ne_eq]; omega
  have d3 : (g : Int) ≤ 20 := by omega
  have d4 : (ny : Int) ≤ 80 := by omega
  have d5 : (nr : Int) ≤ 80 := by omega
  have HN := Lib.hid (And.intro hn240 (And.intro hn4 hn0))
  clear hS ht hy hyf hr hA hn240 hn4 hn0
  go_enter Try.func8, Try.ntmps8
  go_upto_region 3 with fail
  obtain ⟨cs, hcs⟩ : ∃ x : Array Value, x = #[.slice At g ct, .slice Ay ny cy, .slice Ar nr cr, .int .i64 m, .bool pl] := ⟨_, rfl⟩
  rw [← hcs]
  have hb0 : Below w.heap.size w (w.alloc (.cells cs 27)) := (Below.refl _ _).alloc (Nat.le_refl _) _
  have hG : Has (w.alloc (.cells cs 27)) w.heap.size 27 cs := Has.new _ _ _
  have hgl := hG.lt
  generalize w.alloc (.cells cs 27) = u at *
  obtain ⟨gt, hgt⟩ : ∃ x, x = w.heap.size := ⟨_, rfl⟩
  rw [← hgt] at hG hgl ⊢
  have hwgt : w.heap.size ≤ gt := by omega
  obtain ⟨L, hL⟩ : ∃ x, x = u.heap.size := ⟨_, rfl⟩
  rw [← hL] at hgl
  have hwL : w.heap.size ≤ L := by omega
  have hLu : L ≤ u.heap.size := by omega
  have hLu2 : u.heap.size ≤ L := by omega
  have hc0 : ∀ w', Has w' gt 27 cs → w'.cell? ⟨gt, 0, none⟩ = some (.slice At g ct) := fun w' h => by rw [h.cell 0, hcs]; rfl
  have hc1 : ∀ w', Has w' gt 27 cs → w'.cell? ⟨gt, 1, none⟩ = some (.slice Ay ny cy) := fun w' h => by rw [h.cell 1, hcs]; rfl
  have hc2 : ∀ w', Has w' gt 27 cs → w'.cell? ⟨gt, 2, none⟩ = some (.slice Ar nr cr) := fun w' h => by rw [h.cell 2, hcs]; rfl
  have hc3 : ∀ w', Has w' gt 27 cs → w'.cell? ⟨gt, 3, none⟩ = some (.int .i64 m) := fun w' h => by rw [h.cell 3, hcs]; rfl
  have hc4 : ∀ w', Has w' gt 27 cs → w'.cell? ⟨gt, 4, none⟩ = some (.bool pl) := fun w' h => by rw [h.cell 4, hcs]; rfl
  have HC := Lib.hid (And.intro hc0 (And.intro hc1 (And.intro hc2 (And.intro hc3 hc4))))
  clear hc0 hc1 hc2 hc3 hc4 hcs hgt hL
  obtain ⟨cn, hcn⟩ : ∃ x : Int, x = IntKind.i64.wrap ((ny : Int) + m) := ⟨_, rfl⟩
  have hcn2 := wrap_lt ((ny : Int) + m)
  rw [← hcn] at hcn2
  have HCN := Lib.hid hcn
  refine region_chain (fun w' => Has w' gt 27 cs) [(1, .pointer (some ⟨gt, 1, none⟩)), (2, .slice Ay ny cy), (3, .int .i64 (ny : Int)), (4, .pointer (some ⟨gt, 3, none⟩)), (5, .int .i64 m), (6, .int .i64 cn)] [(0, fun xs w' => w'.ownsRow L 5 1 (xs.getD 0 undef) 4 ((leB 4 (natI 1)).map by8) ∧ Has w' gt 27 cs ∧ Below u.heap.size u w'), (7, fun xs w' => w'.ownsRow L 5 1 (xs.getD 0 undef) 4 ((leB 4 (natI 1)).map by8) ∧ (∃ b2, w'.ownsRow b2 5 1 (xs.getD 1 undef) 4 ((leB 4 (natI cn)).map by8)) ∧ Has w' gt 27 cs ∧ Below u.heap.size u w'), (8, fun xs w' => w'.ownsRow L 5 1 (xs.getD 2 undef) (4 + 4) ((leB 4 (natI 1) ++ leB 4 (natI cn)).map by8) ∧ Has w' gt 27 cs ∧ Below u.heap.size u w'), (9, fun xs w' => (xs.getD 3 undef) = (xs.getD 2 undef) ∧ w'.ownsRow L 5 1 (xs.getD 2 undef) (4 + 4) ((leB 4 (natI 1) ++ leB 4 (natI cn)).map by8) ∧ Has w' gt 27 cs ∧ Below u.heap.size u w')] (fun w' => Has w' gt 27 cs ∧ Below u.heap.size u w') 165 (by kernel_rfl) rfl (by kernel_rfl) (by kernel_rfl) ?_ ?_ ?_ ?_ ?_ ?_
  · intro w' hb he
    exact ⟨hG.after hb, hb⟩
  · exact fun w' h => h.1
  · simp only [List.forall_mem_cons, List.not_mem_nil, false_implies, implies_true, and_true]
    refine ⟨?_, ?_, ?_, ?_⟩
    · exact fun xs w' h => h.2.1
    · exact fun xs w' h => h.2.2.1
    · exact fun xs w' h => h.2.1
    · exact fun xs w' h => h.2.2.1
  · simp only [List.forall_mem_cons, List.not_mem_nil, false_implies, implies_true, and_true]
    refine ⟨?_, ?_, ?_, ?_, ?_, ?_⟩
    · refine qu_of rfl ?_
      intro v w' A hA hC hd hl K hK
      exact pure_step (.pointer (some ⟨gt, 1, none⟩)) (fun ρ hρ => by
          have e3 : ρ (.tmp 3) = .pointer (some ⟨gt, 0, none⟩) := by rw [hρ]; exact hA.2 3 (by simp)
          clear hρ hA hl hK hd hC
          go_simp) hK
    · refine qu_of rfl ?_
      intro v w' A hA hC hd hl K hK
      have hcell := HC.out.2.1 w' hC
      exact pure_step (.slice Ay ny cy) (fun ρ hρ => by
          have e52 : ρ (.tmp 52) = .pointer (some ⟨gt, 1, none⟩) := by rw [hρ]; exact (hA.1 1 _ 52 rfl rfl).trans (hd (1, .pointer (some ⟨gt, 1, none⟩)) (.head _) ⟨⟨1, .data⟩, by simp, rfl, rfl⟩)
          clear hρ hA hl hK hd hC
          go_simp) hK
    · refine qu_of rfl ?_
      intro v w' A hA hC hd hl K hK
      exact pure_step (.int .i64 (ny : Int)) (fun ρ hρ => by
          have e53 : ρ (.tmp 53) = .slice Ay ny cy := by rw [hρ]; exact (hA.1 2 _ 53 rfl rfl).trans (hd (2, .slice Ay ny cy) (.tail _ (.head _)) ⟨⟨2, .data⟩, by simp, rfl, rfl⟩)
          clear hρ hA hl hK hd hC
          go_simp) hK
    · refine qu_of rfl ?_
      intro v w' A hA hC hd hl K hK
      exact pure_step (.pointer (some ⟨gt, 3, none⟩)) (fun ρ hρ => by
          have e3 : ρ (.tmp 3) = .pointer (some ⟨gt, 0, none⟩) := by rw [hρ]; exact hA.2 3 (by simp)
          clear hρ hA hl hK hd hC
          go_simp) hK
    · refine qu_of rfl ?_
      intro v w' A hA hC hd hl K hK
      have hcell := HC.out.2.2.2.1 w' hC
      exact pure_step (.int .i64 m) (fun ρ hρ => by
          have e55 : ρ (.tmp 55) = .pointer (some ⟨gt, 3, none⟩) := by rw [hρ]; exact (hA.1 4 _ 55 rfl rfl).trans (hd (4, .pointer (some ⟨gt, 3, none⟩)) (.tail _ (.tail _ (.tail _ (.head _)))) ⟨⟨4, .data⟩, by simp, rfl, rfl⟩)
          clear hρ hA hl hK hd hC
          go_simp) hK
    · refine qu_of rfl ?_
      intro v w' A hA hC hd hl K hK
      exact pure_step (.int .i64 cn) (fun ρ hρ => by
          have e54 : ρ (.tmp 54) = .int .i64 (ny : Int) := by rw [hρ]; exact (hA.1 3 _ 54 rfl rfl).trans (hd (3, .int .i64 (ny : Int)) (.tail _ (.tail _ (.head _))) ⟨⟨3, .data⟩, by simp, rfl, rfl⟩)
          have e56 : ρ (.tmp 56) = .int .i64 m := by rw [hρ]; exact (hA.1 5 _ 56 rfl rfl).trans (hd (5, .int .i64 m) (.tail _ (.tail _ (.tail _ (.tail _ (.head _))))) ⟨⟨5, .data⟩, by simp, rfl, rfl⟩)
          clear hρ hA hl hK hd hC
          rw [hcn]
          go_simp) hK
  · refine ⟨qu_of rfl ?_, fun x0 => ⟨qu_of rfl ?_, fun x7 => ⟨qu_of rfl ?_, fun x8 => ⟨qu_of rfl ?_, fun x9 => trivial⟩⟩⟩⟩
    · intro v w' A hA hS hacc hd hl K hK
      replace hS : Has w' gt 27 cs ∧ Below u.heap.size u w' := hS
      refine call_step 12 #[.int .i64 4, .int .i64 1] (fun ρ hρ => by
          have hcst : ∀ x, ρ (.const x) = x := fun x => by rw [hρ]; rfl
          have hfun : ∀ f, ρ (.func f) = .func (.func f) #[] #[] := fun f => by rw [hρ]; rfl
          clear hρ hA hl hK hd hS hacc
          go_simp
          ) ?_
      refine (put_own 4 1 w' (by decide) (by decide) (by decide)).mono ?_
      rintro e w'' ⟨⟨x, rfl, hx⟩, hb⟩
      exact ⟨_, rfl, hK _ _ ⟨own_mono hx (Nat.le_trans hLu hS.2.size), hS.1.after hb, hS.2.trans (hb.mono hS.2.size)⟩⟩
    · intro v w' A hA hS hacc hd hl K hK
      replace hS : w'.ownsRow L 5 1 x0 4 ((leB 4 (natI 1)).map by8) ∧ Has w' gt 27 cs ∧ Below u.heap.size u w' := hS
      refine call_step 12 #[.int .i64 4, .int .i64 cn] (fun ρ hρ => by
          have hcst : ∀ x, ρ (.const x) = x := fun x => by rw [hρ]; rfl
          have hfun : ∀ f, ρ (.func f) = .func (.func f) #[] #[] := fun f => by rw [hρ]; rfl
          have e57 : ρ (.tmp 57) = .int .i64 cn := by rw [hρ]; exact (hA.1 6 _ 57 rfl rfl).trans (hd (6, .int .i64 cn) (.tail _ (.tail _ (.tail _ (.tail _ (.tail _ (.head _)))))) ⟨⟨6, .data⟩, by simp, rfl, rfl⟩)
          clear hρ hA hl hK hd hS hacc
          go_simp
          ) ?_
      refine (put_own 4 cn w' (by decide) hcn2.1 hcn2.2).mono ?_
      rintro e w'' ⟨⟨x, rfl, hx⟩, hb⟩
      exact ⟨_, rfl, hK _ _ ⟨own_after hS.1 hb, ⟨_, hx⟩, hS.2.1.after hb, hS.2.2.trans (hb.mono hS.2.2.size)⟩⟩
    · intro v w' A hA hS hacc hd hl K hK
      replace hS : w'.ownsRow L 5 1 x0 4 ((leB 4 (natI 1)).map by8) ∧ (∃ b2, w'.ownsRow b2 5 1 x7 4 ((leB 4 (natI cn)).map by8)) ∧ Has w' gt 27 cs ∧ Below u.heap.size u w' := hS
      obtain ⟨h1, ⟨b2, h2⟩, h3, h4⟩ := hS
      have q51 : A.eval (.tmp 51) = x0 := by exact (hA.1 0 _ 51 rfl rfl).trans (hacc (0, x0) (by simp))
      have q58 : A.eval (.tmp 58) = x7 := by exact (hA.1 7 _ 58 rfl rfl).trans (hacc (7, x7) (by simp))
      refine wp_app_own _ _ rfl L x0 4 (leB 4 (natI 1)) q51 h1 x7 4 (leB 4 (natI cn)) q58 (by decide) b2 h2 (by decide) (Nat.le_trans hLu h4.size) ?_
      intro v' w'' ho hg
      exact hK _ _ ⟨ho, has_grown h3 hg (fun l e => by have := (own_blk h1 e).1; omega), below_own h4 h1 (by omega) h4.size hg⟩
    · intro v w' A hA hS hacc hd hl K hK
      replace hS : w'.ownsRow L 5 1 x8 (4 + 4) ((leB 4 (natI 1) ++ leB 4 (natI cn)).map by8) ∧ Has w' gt 27 cs ∧ Below u.heap.size u w' := hS
      exact pure_step x8 (fun ρ hρ => by
          have e59 : ρ (.tmp 59) = x8 := by rw [hρ]; exact (hA.1 8 _ 59 rfl rfl).trans (hacc (8, x8) (by simp))
          clear hρ hA hl hd hS hacc
          go_simp
          ) (hK _ _ ⟨rfl, hS⟩)
  intro x0 x7 x8 x9 v wE hSE hacc hqv
  replace hSE : x9 = x8 ∧ wE.ownsRow L 5 1 x8 (4 + 4) ((leB 4 (natI 1) ++ leB 4 (natI cn)).map by8) ∧ Has wE gt 27 cs ∧ Below u.heap.size u wE := hSE
  have f0 : v 0 = x0 := hacc (0, x0) (by simp)
  have f1 : v 1 = .pointer (some ⟨gt, 1, none⟩) := hqv (1, .pointer (some ⟨gt, 1, none⟩)) (.head _)
  have f2 : v 2 = .slice Ay ny cy := hqv (2, .slice Ay ny cy) (.tail _ (.head _))
  have f3 : v 3 = .int .i64 (ny : Int) := hqv (3, .int .i64 (ny : Int)) (.tail _ (.tail _ (.head _)))
  have f4 : v 4 = .pointer (some ⟨gt, 3, none⟩) := hqv (4, .pointer (some ⟨gt, 3, none⟩)) (.tail _ (.tail _ (.tail _ (.head _))))
  have f5 : v 5 = .int .i64 m := hqv (5, .int .i64 m) (.tail _ (.tail _ (.tail _ (.tail _ (.head _)))))
  have f6 : v 6 = .int .i64 cn := hqv (6, .int .i64 cn) (.tail _ (.tail _ (.tail _ (.tail _ (.tail _ (.head _))))))
  have f7 : v 7 = x7 := hacc (7, x7) (by simp)
  have f8 : v 8 = x8 := hacc (8, x8) (by simp)
  have f9 : v 9 = x9 := hacc (9, x9) (by simp)
  clear hacc hqv
  simp only [putAll, Act.put, List.setIfInBounds_toArray, List.set_cons_zero, List.set_cons_succ, Nat.zero_add, Nat.reduceAdd]
  rw [f0, f1, f2, f3, f4, f5, f6, f7, f8, f9]
  clear f0 f1 f2 f3 f4 f5 f6 f7 f8 f9
  obtain ⟨rfl, ho3, hbx3, hbe3⟩ := hSE
  have hb03 := hb0.trans (hbe3.mono hb0.size)
  have HF : Hid (FbO w L gt cs x9 (headB (natI cn)) wE) := Lib.hid ⟨by rw [headB_len]; exact ho3, hb03, hbx3, Nat.le_trans hLu hbe3.size, hgl, hwL⟩
  have hc1 := HC.out.2.1 wE hbx3
  obtain ⟨vb0, hvb0⟩ : ∃ x, x = x9 := ⟨_, rfl⟩
  rw [← hvb0] at HF ⊢
  clear hb0 hG ho3 hbx3 hbe3 hb03 hcn2 hvb0 hcn
  go_wp2_with fail
  go_loopw [5, 63] (fun va ct wr => ∃ i : Nat, i ≤ ny ∧ ct = .int .i64 (i : Int) ∧ FbO w L gt cs va (headB (natI cn) ++ (sy.take i).flatMap symB) wr) (fun _ ct _ => (ny - (intOf ct)).toNat)
  case atStart => exact ⟨0, Nat.zero_le _, rfl, by rw [List.take_zero, List.flatMap_nil, List.append_nil]; exact HF.out⟩
  case round =>
    obtain ⟨i, hi, rfl, hO⟩ := hrel
    clear HF hc1
    by_cases hlt : i < ny
    · have di : (i : Int) < (ny : Int) := by omega
      have hYr := HY.out.below hO.bel
      obtain ⟨b, o, hA2, hbl, hcl⟩ := hYr.2.2 (by show 0 < ny; omega)
      replace hA2 : Ay = some ⟨b, o, none⟩ := hA2
      subst hA2
      have hsl : sy.length = ny := hYr.1
      have htk := take_more sy 0 i (by omega)
      have hc : wr.cell? ⟨b, o + i * 1 + 0, none⟩ = some (u4 (sy.getD i 0) 0) := hcl i 0 hlt (by decide)
      rw [Nat.mul_one, Nat.add_zero] at hc
      have hv32 : sy.getD i 0 < 4294967296 := HYF.out _ (by rw [List.getD_eq_getElem?_getD, List.getElem?_eq_getElem (by omega)]; exact List.getElem_mem _)
      have hlen : (headB (natI cn) ++ (sy.take i).flatMap symB).length = 8 + 16 * i := by
        rw [List.length_append, headB_len, flat_len symB 16 symB_len, List.length_take]; omega
      generalize hve : sy.getD i 0 = v at *
      replace hc : wr.cell? ⟨b, o + i, none⟩ = some (.int .u32 (v : Int)) := hc
      have ha1 := fun w => at_u32 b o ny cy i di w
      have HTK := Lib.hid htk
      obtain ⟨bs, hbs⟩ : ∃ x, x = headB (natI cn) ++ (sy.take i).flatMap symB := ⟨_, rfl⟩
      rw [← hbs] at hO hlen
      have HBS := Lib.hid hbs
      have HO := Lib.hid hO
      obtain ⟨Av, cv, rfl⟩ := own_form hO.own
      have hb80 : bs.length ≤ 2000 := by omega
      clear hO hcl hbl hYr hsl htk hve hlen hbs
      have hbx : Below wr.heap.size wr (wr.alloc (.cells #[.int .u8 1, .int .u8 0, .int .u8 0, .int .u8 0] 5)) := (Below.refl _ _).alloc (Nat.le_refl _) _
      have hGx : Has (wr.alloc (.cells #[.int .u8 1, .int .u8 0, .int .u8 0, .int .u8 0] 5)) wr.heap.size 5 (([1, 0, 0, 0] : List UInt8).map by8).toArray := Has.new _ _ _
      have hSx := (rowB_at (fr := (0, 0)) rfl hGx).slA.1
      have hOx := HO.out.after hbx
      have hownx := hOx.own
      have hLx := hOx.siz
      go_wp2_with (refine wp_append_bytes rfl _ _ rfl L _ bs.length (bs.map by8) rfl hownx (some ⟨wr.heap.size, 0, none⟩) 4 4 rfl [1, 0, 0, 0] hSx (fun h => by cases h) (by omega) hLx ?_; intro v7 w7 hown7 hgr7; go_frame)
      have hO7 : FbO w L gt cs v7 (bs ++ [1, 0, 0, 0]) w7 := hOx.put (by rw [List.map_append]; exact hown7) hgr7
      refine (put_own 4 (v : Int) w7 (by decide) (by omega) (by omega)).mono ?_
      rintro e w8 ⟨⟨x8, rfl, hx8⟩, hb8⟩
      rw [natI_nat v (by omega)] at hx8
      have hO8 := hO7.after hb8
      have hs7 := hb8.size
      clear hOx hownx hLx hSx hGx hbx hown7 hgr7
      go_wp2_with (first
        | (refine wpList_plain rfl fun K hK => wp_append_z8K _ _ rfl w7.heap.size _ 4 _ rfl hx8 rfl (by decide) hs7 ?_
           intro x9 w9 hx9 hg9
           refine hK _ _ ?_
           go_frame
           have hb9 := below_own hb8 hx8 (Nat.le_refl _) hs7 hg9
           have hO9 := hO7.after hb9
           have hx9' : w9.ownsRow w7.heap.size 5 1 x9 (4 + 8) ((leB 4 v ++ zs 8).map by8) := by rw [List.map_append]; exact hx9
           have hown9 := hO9.own
           have hL9 := hO9.siz
           have hl9 : (bs ++ [1, 0, 0, 0]).length + (4 + 8) ≤ 1000000 := by rw [List.length_append]; show bs.length + 4 + (4 + 8) ≤ _; omega)
        | (refine wpList_plain rfl fun K hK => wp_app_own _ _ rfl L _ _ (bs ++ [1, 0, 0, 0]) rfl hown9 _ (4 + 8) (leB 4 v ++ zs 8) rfl (by decide) w7.heap.size hx9' hl9 hL9 ?_
           intro x10 w10 hx10 hg10
           refine hK _ _ ?_
           go_frame))
      go_roundw
      case rel =>
        refine ⟨i + 1, hlt, by go_num, ?_⟩
        have h2 := hO9.put hx10 hg10
        rw [HTK.out, List.flatMap_append, ← List.append_assoc, ← HBS.out]
        rw [List.append_assoc] at h2
        have e : [1, 0, 0, 0] ++ (leB 4 v ++ zs 8) = [v].flatMap symB := by simp [symB]
        rw [← e]
        exact h2
      case measure => simp [intOf] <;> omega
    · obtain rfl : i = ny := by omega
      have hsl : sy.length = i := HY.out.1
      obtain ⟨bs1, hbs1⟩ : ∃ x, x = headB (natI cn) ++ sy.flatMap symB := ⟨_, rfl⟩
      rw [List.take_of_length_le (by omega), ← hbs1] at hO
      have hl1 : bs1.length = 8 + 16 * i := by rw [hbs1, List.length_append, headB_len, flat_len symB 16 symB_len, hsl]
      have HBS1 := Lib.hid hbs1
      have hct := HC.out.2.2.1 wr hO.box
      obtain ⟨Av, cv, rfl⟩ := own_form hO.own
      have HO1 := Lib.hid hO
      obtain ⟨k1, hk1⟩ : ∃ k, k = bs1.length := ⟨_, rfl⟩
      rw [← hk1] at HO1 hl1 ⊢
      have HK1 := Lib.hid hk1
      have hk1b : (k1 : Int) ≤ 2000 := by omega
      have HL1 := Lib.hid hl1
      clear hO hbs1 hsl hk1 hlt hl1
      go_wp2_with fail
      go_loopw [5, 82] (fun va ct wx => ∃ i : Nat, i ≤ nr ∧ ct = .int .i64 (i : Int) ∧ FbO w L gt cs va (bs1 ++ (rl.take i).flatMap relB) wx) (fun _ ct _ => (nr - (intOf ct)).toNat)
      case atStart => exact ⟨0, Nat.zero_le _, rfl, by rw [List.take_zero, List.flatMap_nil, List.append_nil]; exact HO1.out⟩
      case round =>
        obtain ⟨q, hq, rfl, hO⟩ := hrel
        clear hct HO1
        by_cases hlt : q < nr
        · have di : (q : Int) < (nr : Int) := by omega
          have hRr := HR.out.below hO.bel
          obtain ⟨b, o, hA2, hbl, _⟩ := hRr.2.1.2 (by show 0 < nr; omega)
          replace hA2 : Ar = some ⟨b, o, none⟩ := hA2
          subst hA2
          have hrl : rl.length = nr := hRr.1
          have htk := take_more rl (0, 0, 0) q (by omega)
          have hrg := hRr.2.1.range rfl (j := q) hlt
          have hp32 : T32 (rl.getD q (0, 0, 0)) := hRr.2.2 _ (by rw [List.getD_eq_getElem?_getD, List.getElem?_eq_getElem (by omega)]; exact List.getElem_mem _)
          have hlen : (bs1 ++ (rl.take q).flatMap relB).length = k1 + 12 * q := by
            rw [List.length_append, ← HK1.out, flat_len relB 12 relB_len, List.length_take]; omega
          change wr.rangeAt b (o + q * 3) ((List.range 3).map (r3V (rl.getD q (0, 0, 0)))) at hrg
          generalize hpe : rl.getD q (0, 0, 0) = p at *
          have ha1 := fun w => at_t3 b o nr cr q di w
          have HTK := Lib.hid htk
          obtain ⟨bs, hbs⟩ : ∃ x, x = bs1 ++ (rl.take q).flatMap relB := ⟨_, rfl⟩
          rw [← hbs] at hO hlen
          have HBS := Lib.hid hbs
          have hn32 : ∀ j, r3N p j < 4294967296 := fun j => by unfold r3N; split; exact hp32.1; exact hp32.2.1; exact hp32.2.2
          have HO := Lib.hid hO
          obtain ⟨Av, cv, rfl⟩ := own_form hO.own
          have hb80 : bs.length ≤ 4000 := by have := HL1.out; omega
          clear hO hbl hRr hrl htk hpe hlen hbs hp32
          go_upto_region 13 with (first
            | (refine wp_load_t3 rfl _ rfl b (o + q * 3) rfl _ hrg ?_)
            | (refine wp_fresh 33 3 _ _ _ _ rfl rfl rfl rfl zeroT3 infoT3 (by omega) (r3V_one _) rfl rfl ?_
               intro w2 hG2 hb2 hz2))
          have hO2 := Lib.hid (HO.out.after hb2)
          clear hz2 hrg
          go_wp2_with (refine wpList_load_has 33 _ rfl _ rfl rfl 33 _ hG2 _ Try.underlying33 rfl (by rw [tab_size]; exact infoT3) ?_)
          go_loopw [5, 87] (fun va ct wx => ∃ j : Nat, j ≤ 3 ∧ ct = .int .i64 (j : Int) ∧ FbO w L gt cs va (bs ++ rpN p j) wx) (fun _ ct _ => (3 - (intOf ct)).toNat)
          case atStart => exact ⟨0, Nat.zero_le _, rfl, by rw [show rpN p 0 = [] from rfl, List.append_nil]; exact hO2.out⟩
          case round =>
            obtain ⟨j, hj, rfl, hO⟩ := hrel
            by_cases hj3 : j < 3
            · have dj : (j : Int) < 3 := by omega
              have hix := fun w => index_t3 p j hj3 w
              have hx32 := hn32 j
              have hlb := rpN_len p j
              have hsu := Lib.hid (rpN_succ p j)
              generalize r3N p j = x at *
              generalize rpN p j = rp at *
              have hll : (bs ++ rp).length + 4 ≤ 1000000 := by rw [List.length_append]; omega
              obtain ⟨bj, hbj⟩ : ∃ x, x = bs ++ rp := ⟨_, rfl⟩
              rw [← hbj] at hO hll
              have HBJ := Lib.hid hbj
              have HOj := Lib.hid hO
              obtain ⟨Aw, cw, rfl⟩ := own_form hO.own
              clear hO hG2 hlb hbj
              go_wp2_with fail
              refine (put_own 4 (x : Int) _ (by decide) (by omega) (by omega)).mono ?_
              rintro e w8 ⟨⟨x8, rfl, hx8⟩, hb8⟩
              rw [natI_nat x (by omega)] at hx8
              have hO8 := HOj.out.after hb8
              have hown8 := hO8.own
              have hL8 := hO8.siz
              go_wp2_with (refine wpList_plain rfl fun K hK => wp_app_own _ _ rfl L _ _ bj rfl hown8 _ 4 (leB 4 x) rfl (by decide) _ hx8 hll hL8 ?_
                           intro x10 w10 hx10 hg10
                           refine hK _ _ ?_
                           go_frame)
              go_roundw
              case rel =>
                refine ⟨j + 1, hj3, by go_num, ?_⟩
                have h2 := hO8.put hx10 hg10
                rw [hsu.out, ← List.append_assoc, ← HBJ.out]
                exact h2
              case measure => simp [intOf] <;> omega
            · obtain rfl : j = 3 := by omega
              rw [rpN_all] at hO
              go_wp2_with fail
              go_roundw
              case rel =>
                refine ⟨q + 1, hlt, by go_num, ?_⟩
                rw [HTK.out, List.flatMap_append, ← List.append_assoc, ← HBS.out]
                show FbO w L gt cs _ (bs ++ [p].flatMap relB) _
                rw [show [p].flatMap relB = relB p by simp]
                exact hO
              case measure => simp [intOf] <;> omega
        · obtain rfl : q = nr := by omega
          have hrl : rl.length = q := HR.out.1
          obtain ⟨bs3, hbs3⟩ : ∃ x, x = bs1 ++ rl.flatMap relB := ⟨_, rfl⟩
          rw [List.take_of_length_le (by omega), ← hbs3] at hO
          have hl3 : bs3.length = k1 + 12 * q := by rw [hbs3, List.length_append, ← HK1.out, flat_len relB 12 relB_len, hrl]
          have HBS3 := Lib.hid hbs3
          have hct0 := HC.out.1 _ hO.box
          have hct4 := HC.out.2.2.2.2 _ hO.box
          obtain ⟨Av, cv, rfl⟩ := own_form hO.own
          have HO3 := Lib.hid hO
          obtain ⟨k3, hk3⟩ : ∃ k, k = bs3.length := ⟨_, rfl⟩
          rw [← hk3] at hl3 HO3 ⊢
          have HK3 := Lib.hid hk3
          have HL3 := Lib.hid hl3
          have hk3b : (k3 : Int) ≤ 4000 := by have := HL1.out; omega
          have hgct : g ≤ ct := HT.out.2.1.1.1
          clear hO hbs3 hrl hk3 hlt hl3
          go_upto_if 102 with fail
          go_cut [14] (fun tv wx => ∃ A' n' c', tv = .slice A' n' c' ∧ TgS L A' n' c' (tags9 tg i q pl) wx ∧ n' ≤ 27 ∧ FbO w L gt cs (.slice Av k3 cv) bs3 wx)
          case first =>
            cases pl with
            | false =>
              go_wp2_with fail
              go_meet
              refine ⟨At, g, ct, rfl, ⟨HT.out.below HO3.out.bel, fun b o s e h0 => .inl ?_⟩, by omega, HO3.out⟩
              obtain ⟨b', o', e', hlt, _⟩ := HT.out.2.1.2 h0
              have e2 := e.symm.trans e'
              injection e2 with e2
              injection e2 with e2 _ _
              rw [e2]
              omega
            | true =>
              obtain ⟨e4, he4⟩ : ∃ e, e = 264 + 16 * i := ⟨_, rfl⟩
              obtain ⟨m12, hm12⟩ : ∃ e, e = 12 * q := ⟨_, rfl⟩
              have hw4 : IntKind.u32.wrap (256 + (k1 : Int)) = (e4 : Int) := by rw [u32_wrap _ (by omega) (by omega)]; have := HL1.out; omega
              have hw12 : IntKind.u32.wrap (12 * (q : Int)) = (m12 : Int) := by rw [u32_wrap _ (by omega) (by omega)]; omega
              have HE : Hid (ownT i q = [(4, 256), (6, 264), (11, 16), (7, e4), (8, m12), (9, 12), (0, 0)]) := Lib.hid (by rw [he4, hm12]; rfl)
              have HE2 : Hid (e4 < 4294967296 ∧ m12 < 4294967296) := Lib.hid (by omega)
              have hbx := HO3.out.box
              have HTr := Lib.hid (HT.out.below HO3.out.bel)
              clear he4 hm12 hct4
              go_upto_region 22 with fail
              refine region_chain (fun w' => Below wr.heap.size wr w') [(0, .slice At g ct), (1, .slice At g ct), (2, .int .i64 (g : Int)), (3, .slice At g ct), (4, .int .i64 (g : Int)), (5, .slice At g g), (6, .agg #[.int .u32 4, .int .u32 256]), (7, .agg #[.int .u32 6, .int .u32 264]), (8, .agg #[.int .u32 11, .int .u32 16]), (9, .int .i64 (256 + (k1 : Int))), (10, .int .u32 (e4 : Int)), (11, .agg #[.int .u32 7, .int .u32 (e4 : Int)]), (12, .pointer (some ⟨gt, 2, none⟩)), (13, .slice Ar q cr), (14, .int .i64 (q : Int)), (15, .int .i64 (12 * (q : Int))), (16, .int .u32 (m12 : Int)), (17, .agg #[.int .u32 8, .int .u32 (m12 : Int)]), (18, .agg #[.int .u32 9, .int .u32 12]), (19, .agg #[.int .u32 0, .int .u32 0])] [(20, fun xs w' => (∃ g20, (xs.getD 0 undef) = .slice (some ⟨g20, 0, none⟩) 7 7 ∧ Has w' g20 48 (cellsL 2 tgV [(4, 256), (6, 264), (11, 16), (7, e4), (8, m12), (9, 12), (0, 0)]).toArray) ∧ Below wr.heap.size wr w'), (21, fun xs w' => w'.ownsRow wr.heap.size 48 2 (xs.getD 1 undef) (g + 7) (cellsL 2 tgV (tg ++ [(4, 256), (6, 264), (11, 16), (7, e4), (8, m12), (9, 12), (0, 0)])) ∧ Below wr.heap.size wr w'), (22, fun xs w' => (xs.getD 2 undef) = (xs.getD 1 undef) ∧ w'.ownsRow wr.heap.size 48 2 (xs.getD 1 undef) (g + 7) (cellsL 2 tgV (tg ++ [(4, 256), (6, 264), (11, 16), (7, e4), (8, m12), (9, 12), (0, 0)])) ∧ Below wr.heap.size wr w')] (fun w' => Below wr.heap.size wr w') 165 (by kernel_rfl) rfl (by kernel_rfl) (by kernel_rfl) ?_ ?_ ?_ ?_ ?_ ?_
              · intro w' hb he
                exact hb
              · exact fun w' h => h
              · simp only [List.forall_mem_cons, List.not_mem_nil, false_implies, implies_true, and_true]
                refine ⟨?_, ?_, ?_⟩
                · exact fun xs w' h => h.2
                · exact fun xs w' h => h.2
                · exact fun xs w' h => h.2.2
              · simp only [List.forall_mem_cons, List.not_mem_nil, false_implies, implies_true, and_true]
                refine ⟨?_, ?_, ?_, ?_, ?_, ?_, ?_, ?_, ?_, ?_, ?_, ?_, ?_, ?_, ?_, ?_, ?_, ?_, ?_, ?_⟩
                · refine qu_of rfl ?_
                  intro v w' A hA hC hd hl K hK
                  exact pure_step (.slice At g ct) (fun ρ hρ => by
                      have e14 : ρ (.tmp 14) = .slice At g ct := by rw [hρ]; exact (hA.1 22 _ 14 rfl rfl).trans (hl 22 (by decide) ⟨_, rfl, ⟨0, .phase⟩, by simp, rfl, rfl⟩)
                      clear hρ hA hl hK hd hC
                      go_simp) hK
                · refine qu_of rfl ?_
                  intro v w' A hA hC hd hl K hK
                  exact pure_step (.slice At g ct) (fun ρ hρ => by
                      have e14 : ρ (.tmp 14) = .slice At g ct := by rw [hρ]; exact (hA.1 22 _ 14 rfl rfl).trans (hl 22 (by decide) ⟨_, rfl, ⟨1, .phase⟩, by simp, rfl, rfl⟩)
                      clear hρ hA hl hK hd hC
                      go_simp) hK
                · refine qu_of rfl ?_
                  intro v w' A hA hC hd hl K hK
                  exact pure_step (.int .i64 (g : Int)) (fun ρ hρ => by
                      have e104 : ρ (.tmp 104) = .slice At g ct := by rw [hρ]; exact (hA.1 1 _ 104 rfl rfl).trans (hd (1, .slice At g ct) (.tail _ (.head _)) ⟨⟨1, .data⟩, by simp, rfl, rfl⟩)
                      clear hρ hA hl hK hd hC
                      go_simp) hK
                · refine qu_of rfl ?_
                  intro v w' A hA hC hd hl K hK
                  exact pure_step (.slice At g ct) (fun ρ hρ => by
                      have e14 : ρ (.tmp 14) = .slice At g ct := by rw [hρ]; exact (hA.1 22 _ 14 rfl rfl).trans (hl 22 (by decide) ⟨_, rfl, ⟨3, .phase⟩, by simp, rfl, rfl⟩)
                      clear hρ hA hl hK hd hC
                      go_simp) hK
                · refine qu_of rfl ?_
                  intro v w' A hA hC hd hl K hK
                  exact pure_step (.int .i64 (g : Int)) (fun ρ hρ => by
                      have e106 : ρ (.tmp 106) = .slice At g ct := by rw [hρ]; exact (hA.1 3 _ 106 rfl rfl).trans (hd (3, .slice At g ct) (.tail _ (.tail _ (.tail _ (.head _)))) ⟨⟨3, .data⟩, by simp, rfl, rfl⟩)
                      clear hρ hA hl hK hd hC
                      go_simp) hK
                · refine qu_of rfl ?_
                  intro v w' A hA hC hd hl K hK
                  have hrf := run_full2 At g ct hgct w'
                  exact pure_step (.slice At g g) (fun ρ hρ => by
                      have e103 : ρ (.tmp 103) = .slice At g ct := by rw [hρ]; exact (hA.1 0 _ 103 rfl rfl).trans (hd (0, .slice At g ct) (.head _) ⟨⟨0, .data⟩, by simp, rfl, rfl⟩)
                      have e105 : ρ (.tmp 105) = .int .i64 (g : Int) := by rw [hρ]; exact (hA.1 2 _ 105 rfl rfl).trans (hd (2, .int .i64 (g : Int)) (.tail _ (.tail _ (.head _))) ⟨⟨2, .data⟩, by simp, rfl, rfl⟩)
                      have e107 : ρ (.tmp 107) = .int .i64 (g : Int) := by rw [hρ]; exact (hA.1 4 _ 107 rfl rfl).trans (hd (4, .int .i64 (g : Int)) (.tail _ (.tail _ (.tail _ (.tail _ (.head _))))) ⟨⟨4, .data⟩, by simp, rfl, rfl⟩)
                      clear hρ hA hl hK hd hC
                      go_simp) hK
                · refine qu_of rfl ?_
                  intro v w' A hA hC hd hl K hK
                  exact pure_step (.agg #[.int .u32 4, .int .u32 256]) (fun ρ hρ => by
                      have hcst : ∀ x, ρ (.const x) = x := fun x => by rw [hρ]; rfl
                      clear hρ hA hl hK hd hC
                      go_simp) hK
                · refine qu_of rfl ?_
                  intro v w' A hA hC hd hl K hK
                  exact pure_step (.agg #[.int .u32 6, .int .u32 264]) (fun ρ hρ => by
                      have hcst : ∀ x, ρ (.const x) = x := fun x => by rw [hρ]; rfl
                      clear hρ hA hl hK hd hC
                      go_simp) hK
                · refine qu_of rfl ?_
                  intro v w' A hA hC hd hl K hK
                  exact pure_step (.agg #[.int .u32 11, .int .u32 16]) (fun ρ hρ => by
                      have hcst : ∀ x, ρ (.const x) = x := fun x => by rw [hρ]; rfl
                      clear hρ hA hl hK hd hC
                      go_simp) hK
                · refine qu_of rfl ?_
                  intro v w' A hA hC hd hl K hK
                  exact pure_step (.int .i64 (256 + (k1 : Int))) (fun ρ hρ => by
                      have e8 : ρ (.tmp 8) = .int .i64 (256 + (k1 : Int)) := by rw [hρ]; exact hA.2 8 (by simp)
                      clear hρ hA hl hK hd hC
                      go_simp) hK
                · refine qu_of rfl ?_
                  intro v w' A hA hC hd hl K hK
                  exact pure_step (.int .u32 (e4 : Int)) (fun ρ hρ => by
                      have e112 : ρ (.tmp 112) = .int .i64 (256 + (k1 : Int)) := by rw [hρ]; exact (hA.1 9 _ 112 rfl rfl).trans (hd (9, .int .i64 (256 + (k1 : Int))) (.tail _ (.tail _ (.tail _ (.tail _ (.tail _ (.tail _ (.tail _ (.tail _ (.tail _ (.head _)))))))))) ⟨⟨9, .data⟩, by simp, rfl, rfl⟩)
                      clear hρ hA hl hK hd hC
                      go_simp) hK
                · refine qu_of rfl ?_
                  intro v w' A hA hC hd hl K hK
                  exact pure_step (.agg #[.int .u32 7, .int .u32 (e4 : Int)]) (fun ρ hρ => by
                      have hcst : ∀ x, ρ (.const x) = x := fun x => by rw [hρ]; rfl
                      have e113 : ρ (.tmp 113) = .int .u32 (e4 : Int) := by rw [hρ]; exact (hA.1 10 _ 113 rfl rfl).trans (hd (10, .int .u32 (e4 : Int)) (.tail _ (.tail _ (.tail _ (.tail _ (.tail _ (.tail _ (.tail _ (.tail _ (.tail _ (.tail _ (.head _))))))))))) ⟨⟨10, .data⟩, by simp, rfl, rfl⟩)
                      clear hρ hA hl hK hd hC
                      go_simp) hK
                · refine qu_of rfl ?_
                  intro v w' A hA hC hd hl K hK
                  exact pure_step (.pointer (some ⟨gt, 2, none⟩)) (fun ρ hρ => by
                      have e3 : ρ (.tmp 3) = .pointer (some ⟨gt, 0, none⟩) := by rw [hρ]; exact hA.2 3 (by simp)
                      clear hρ hA hl hK hd hC
                      go_simp) hK
                · refine qu_of rfl ?_
                  intro v w' A hA hC hd hl K hK
                  have hcell := HC.out.2.2.1 w' (hbx.after hC)
                  exact pure_step (.slice Ar q cr) (fun ρ hρ => by
                      have e115 : ρ (.tmp 115) = .pointer (some ⟨gt, 2, none⟩) := by rw [hρ]; exact (hA.1 12 _ 115 rfl rfl).trans (hd (12, .pointer (some ⟨gt, 2, none⟩)) (.tail _ (.tail _ (.tail _ (.tail _ (.tail _ (.tail _ (.tail _ (.tail _ (.tail _ (.tail _ (.tail _ (.tail _ (.head _))))))))))))) ⟨⟨12, .data⟩, by simp, rfl, rfl⟩)
                      clear hρ hA hl hK hd hC
                      go_simp) hK
                · refine qu_of rfl ?_
                  intro v w' A hA hC hd hl K hK
                  exact pure_step (.int .i64 (q : Int)) (fun ρ hρ => by
                      have e116 : ρ (.tmp 116) = .slice Ar q cr := by rw [hρ]; exact (hA.1 13 _ 116 rfl rfl).trans (hd (13, .slice Ar q cr) (.tail _ (.tail _ (.tail _ (.tail _ (.tail _ (.tail _ (.tail _ (.tail _ (.tail _ (.tail _ (.tail _ (.tail _ (.tail _ (.head _)))))))))))))) ⟨⟨13, .data⟩, by simp, rfl, rfl⟩)
                      clear hρ hA hl hK hd hC
                      go_simp) hK
                · refine qu_of rfl ?_
                  intro v w' A hA hC hd hl K hK
                  exact pure_step (.int .i64 (12 * (q : Int))) (fun ρ hρ => by
                      have hcst : ∀ x, ρ (.const x) = x := fun x => by rw [hρ]; rfl
                      have e117 : ρ (.tmp 117) = .int .i64 (q : Int) := by rw [hρ]; exact (hA.1 14 _ 117 rfl rfl).trans (hd (14, .int .i64 (q : Int)) (.tail _ (.tail _ (.tail _ (.tail _ (.tail _ (.tail _ (.tail _ (.tail _ (.tail _ (.tail _ (.tail _ (.tail _ (.tail _ (.tail _ (.head _))))))))))))))) ⟨⟨14, .data⟩, by simp, rfl, rfl⟩)
                      clear hρ hA hl hK hd hC
                      have hwq := i64_wrap (12 * (q : Int)) (by omega) (by omega)
                      go_simp) hK
                · refine qu_of rfl ?_
                  intro v w' A hA hC hd hl K hK
                  exact pure_step (.int .u32 (m12 : Int)) (fun ρ hρ => by
                      have e118 : ρ (.tmp 118) = .int .i64 (12 * (q : Int)) := by rw [hρ]; exact (hA.1 15 _ 118 rfl rfl).trans (hd (15, .int .i64 (12 * (q : Int))) (.tail _ (.tail _ (.tail _ (.tail _ (.tail _ (.tail _ (.tail _ (.tail _ (.tail _ (.tail _ (.tail _ (.tail _ (.tail _ (.tail _ (.tail _ (.head _)))))))))))))))) ⟨⟨15, .data⟩, by simp, rfl, rfl⟩)
                      clear hρ hA hl hK hd hC
                      go_simp) hK
                · refine qu_of rfl ?_
                  intro v w' A hA hC hd hl K hK
                  exact pure_step (.agg #[.int .u32 8, .int .u32 (m12 : Int)]) (fun ρ hρ => by
                      have hcst : ∀ x, ρ (.const x) = x := fun x => by rw [hρ]; rfl
                      have e119 : ρ (.tmp 119) = .int .u32 (m12 : Int) := by rw [hρ]; exact (hA.1 16 _ 119 rfl rfl).trans (hd (16, .int .u32 (m12 : Int)) (.tail _ (.tail _ (.tail _ (.tail _ (.tail _ (.tail _ (.tail _ (.tail _ (.tail _ (.tail _ (.tail _ (.tail _ (.tail _ (.tail _ (.tail _ (.tail _ (.head _))))))))))))))))) ⟨⟨16, .data⟩, by simp, rfl, rfl⟩)
                      clear hρ hA hl hK hd hC
                      go_simp) hK
                · refine qu_of rfl ?_
                  intro v w' A hA hC hd hl K hK
                  exact pure_step (.agg #[.int .u32 9, .int .u32 12]) (fun ρ hρ => by
                      have hcst : ∀ x, ρ (.const x) = x := fun x => by rw [hρ]; rfl
                      clear hρ hA hl hK hd hC
                      go_simp) hK
                · refine qu_of rfl ?_
                  intro v w' A hA hC hd hl K hK
                  exact pure_step (.agg #[.int .u32 0, .int .u32 0]) (fun ρ hρ => by
                      clear hρ hA hl hK hd hC
                      go_simp) hK
              · refine ⟨qu_of rfl ?_, fun x20 => ⟨qu_of rfl ?_, fun x21 => ⟨qu_of rfl ?_, fun x22 => trivial⟩⟩⟩
                · intro v w' A hA hS hacc hd hl K hK
                  replace hS : Below wr.heap.size wr w' := hS
                  have q109 : A.eval (.tmp 109) = .agg #[.int .u32 4, .int .u32 256] := by exact (hA.1 6 _ 109 rfl rfl).trans (hd (6, .agg #[.int .u32 4, .int .u32 256]) (.tail _ (.tail _ (.tail _ (.tail _ (.tail _ (.tail _ (.head _))))))) ⟨⟨6, .data⟩, by simp, rfl, rfl⟩)
                  have q110 : A.eval (.tmp 110) = .agg #[.int .u32 6, .int .u32 264] := by exact (hA.1 7 _ 110 rfl rfl).trans (hd (7, .agg #[.int .u32 6, .int .u32 264]) (.tail _ (.tail _ (.tail _ (.tail _ (.tail _ (.tail _ (.tail _ (.head _)))))))) ⟨⟨7, .data⟩, by simp, rfl, rfl⟩)
                  have q111 : A.eval (.tmp 111) = .agg #[.int .u32 11, .int .u32 16] := by exact (hA.1 8 _ 111 rfl rfl).trans (hd (8, .agg #[.int .u32 11, .int .u32 16]) (.tail _ (.tail _ (.tail _ (.tail _ (.tail _ (.tail _ (.tail _ (.tail _ (.head _))))))))) ⟨⟨8, .data⟩, by simp, rfl, rfl⟩)
                  have q114 : A.eval (.tmp 114) = .agg #[.int .u32 7, .int .u32 (e4 : Int)] := by exact (hA.1 11 _ 114 rfl rfl).trans (hd (11, .agg #[.int .u32 7, .int .u32 (e4 : Int)]) (.tail _ (.tail _ (.tail _ (.tail _ (.tail _ (.tail _ (.tail _ (.tail _ (.tail _ (.tail _ (.tail _ (.head _)))))))))))) ⟨⟨11, .data⟩, by simp, rfl, rfl⟩)
                  have q120 : A.eval (.tmp 120) = .agg #[.int .u32 8, .int .u32 (m12 : Int)] := by exact (hA.1 17 _ 120 rfl rfl).trans (hd (17, .agg #[.int .u32 8, .int .u32 (m12 : Int)]) (.tail _ (.tail _ (.tail _ (.tail _ (.tail _ (.tail _ (.tail _ (.tail _ (.tail _ (.tail _ (.tail _ (.tail _ (.tail _ (.tail _ (.tail _ (.tail _ (.tail _ (.head _)))))))))))))))))) ⟨⟨17, .data⟩, by simp, rfl, rfl⟩)
                  have q121 : A.eval (.tmp 121) = .agg #[.int .u32 9, .int .u32 12] := by exact (hA.1 18 _ 121 rfl rfl).trans (hd (18, .agg #[.int .u32 9, .int .u32 12]) (.tail _ (.tail _ (.tail _ (.tail _ (.tail _ (.tail _ (.tail _ (.tail _ (.tail _ (.tail _ (.tail _ (.tail _ (.tail _ (.tail _ (.tail _ (.tail _ (.tail _ (.tail _ (.head _))))))))))))))))))) ⟨⟨18, .data⟩, by simp, rfl, rfl⟩)
                  have q122 : A.eval (.tmp 122) = .agg #[.int .u32 0, .int .u32 0] := by exact (hA.1 19 _ 122 rfl rfl).trans (hd (19, .agg #[.int .u32 0, .int .u32 0]) (.tail _ (.tail _ (.tail _ (.tail _ (.tail _ (.tail _ (.tail _ (.tail _ (.tail _ (.tail _ (.tail _ (.tail _ (.tail _ (.tail _ (.tail _ (.tail _ (.tail _ (.tail _ (.tail _ (.head _)))))))))))))))))))) ⟨⟨19, .data⟩, by simp, rfl, rfl⟩)
                  refine wp_build_elsK (f := tgV) Try.underlying23 infoP2u (by decide) (by decide) 7 _ rfl [(4, 256), (6, 264), (11, 16), (7, e4), (8, m12), (9, 12), (0, 0)] rfl (by decide) (by decide) (by
                      simp only [List.map_toArray, List.map_cons, List.map_nil, q109, q110, q111, q114, q120, q121, q122]
                      rfl) ?_
                  rintro w'' rfl
                  exact hK _ _ ⟨⟨_, rfl, Has.new _ _ _⟩, hS.trans (((Below.refl w'.heap.size w').alloc (Nat.le_refl _) _).mono hS.size)⟩
                · intro v w' A hA hS hacc hd hl K hK
                  replace hS : (∃ g20, x20 = .slice (some ⟨g20, 0, none⟩) 7 7 ∧ Has w' g20 48 (cellsL 2 tgV [(4, 256), (6, 264), (11, 16), (7, e4), (8, m12), (9, 12), (0, 0)]).toArray) ∧ Below wr.heap.size wr w' := hS
                  obtain ⟨⟨g20, hx20, hG20⟩, hbl⟩ := hS
                  have q108 : A.eval (.tmp 108) = .slice At g g := by exact (hA.1 5 _ 108 rfl rfl).trans (hd (5, .slice At g g) (.tail _ (.tail _ (.tail _ (.tail _ (.tail _ (.head _)))))) ⟨⟨5, .data⟩, by simp, rfl, rfl⟩)
                  have q123 : A.eval (.tmp 123) = x20 := by exact (hA.1 20 _ 123 rfl rfl).trans (hacc (20, x20) (by simp))
                  rw [hx20] at q123
                  have hTT := HTr.out.below hbl
                  refine wp_grow_elK Try.underlying23 infoP2u rfl (by decide) (by decide) tgV_one rfl _ _ rfl At g tg (0, 0) q108 hTT.1 ⟨⟨Nat.le_refl _, hTT.2.1.1.2⟩, hTT.2.1.2⟩ (fun h => ?_) g20 7 [(4, 256), (6, 264), (11, 16), (7, e4), (8, m12), (9, 12), (0, 0)] q123 (by decide) rfl hG20 (by omega) ?_
                  · rcases Nat.eq_zero_or_pos g with h0 | h0
                    · exact h0
                    · obtain ⟨b, o, e, _⟩ := hTT.2.1.2 h0
                      rw [show At = some ⟨b, o, none⟩ from e] at h
                      cases h
                  · intro v' w'' ho hg
                    exact hK _ _ ⟨own_mono ho hbl.size, hbl.trans ((grown_none hg).mono hbl.size)⟩
                · intro v w' A hA hS hacc hd hl K hK
                  replace hS : w'.ownsRow wr.heap.size 48 2 x21 (g + 7) (cellsL 2 tgV (tg ++ [(4, 256), (6, 264), (11, 16), (7, e4), (8, m12), (9, 12), (0, 0)])) ∧ Below wr.heap.size wr w' := hS
                  exact pure_step x21 (fun ρ hρ => by
                      have e124 : ρ (.tmp 124) = x21 := by rw [hρ]; exact (hA.1 21 _ 124 rfl rfl).trans (hacc (21, x21) (by simp))
                      clear hρ hA hl hd hS hacc
                      go_simp
                      ) (hK _ _ ⟨rfl, hS⟩)
              intro x20 x21 x22 v wE hSE hacc hqv
              replace hSE : x22 = x21 ∧ wE.ownsRow wr.heap.size 48 2 x21 (g + 7) (cellsL 2 tgV (tg ++ [(4, 256), (6, 264), (11, 16), (7, e4), (8, m12), (9, 12), (0, 0)])) ∧ Below wr.heap.size wr wE := hSE
              have f0 : v 0 = .slice At g ct := hqv (0, .slice At g ct) (.head _)
              have f1 : v 1 = .slice At g ct := hqv (1, .slice At g ct) (.tail _ (.head _))
              have f2 : v 2 = .int .i64 (g : Int) := hqv (2, .int .i64 (g : Int)) (.tail _ (.tail _ (.head _)))
              have f3 : v 3 = .slice At g ct := hqv (3, .slice At g ct) (.tail _ (.tail _ (.tail _ (.head _))))
              have f4 : v 4 = .int .i64 (g : Int) := hqv (4, .int .i64 (g : Int)) (.tail _ (.tail _ (.tail _ (.tail _ (.head _)))))
              have f5 : v 5 = .slice At g g := hqv (5, .slice At g g) (.tail _ (.tail _ (.tail _ (.tail _ (.tail _ (.head _))))))
              have f6 : v 6 = .agg #[.int .u32 4, .int .u32 256] := hqv (6, .agg #[.int .u32 4, .int .u32 256]) (.tail _ (.tail _ (.tail _ (.tail _ (.tail _ (.tail _ (.head _)))))))
              have f7 : v 7 = .agg #[.int .u32 6, .int .u32 264] := hqv (7, .agg #[.int .u32 6, .int .u32 264]) (.tail _ (.tail _ (.tail _ (.tail _ (.tail _ (.tail _ (.tail _ (.head _))))))))
              have f8 : v 8 = .agg #[.int .u32 11, .int .u32 16] := hqv (8, .agg #[.int .u32 11, .int .u32 16]) (.tail _ (.tail _ (.tail _ (.tail _ (.tail _ (.tail _ (.tail _ (.tail _ (.head _)))))))))
              have f9 : v 9 = .int .i64 (256 + (k1 : Int)) := hqv (9, .int .i64 (256 + (k1 : Int))) (.tail _ (.tail _ (.tail _ (.tail _ (.tail _ (.tail _ (.tail _ (.tail _ (.tail _ (.head _))))))))))
              have f10 : v 10 = .int .u32 (e4 : Int) := hqv (10, .int .u32 (e4 : Int)) (.tail _ (.tail _ (.tail _ (.tail _ (.tail _ (.tail _ (.tail _ (.tail _ (.tail _ (.tail _ (.head _)))))))))))
              have f11 : v 11 = .agg #[.int .u32 7, .int .u32 (e4 : Int)] := hqv (11, .agg #[.int .u32 7, .int .u32 (e4 : Int)]) (.tail _ (.tail _ (.tail _ (.tail _ (.tail _ (.tail _ (.tail _ (.tail _ (.tail _ (.tail _ (.tail _ (.head _))))))))))))
              have f12 : v 12 = .pointer (some ⟨gt, 2, none⟩) := hqv (12, .pointer (some ⟨gt, 2, none⟩)) (.tail _ (.tail _ (.tail _ (.tail _ (.tail _ (.tail _ (.tail _ (.tail _ (.tail _ (.tail _ (.tail _ (.tail _ (.head _)))))))))))))
              have f13 : v 13 = .slice Ar q cr := hqv (13, .slice Ar q cr) (.tail _ (.tail _ (.tail _ (.tail _ (.tail _ (.tail _ (.tail _ (.tail _ (.tail _ (.tail _ (.tail _ (.tail _ (.tail _ (.head _))))))))))))))
              have f14 : v 14 = .int .i64 (q : Int) := hqv (14, .int .i64 (q : Int)) (.tail _ (.tail _ (.tail _ (.tail _ (.tail _ (.tail _ (.tail _ (.tail _ (.tail _ (.tail _ (.tail _ (.tail _ (.tail _ (.tail _ (.head _)))))))))))))))
              have f15 : v 15 = .int .i64 (12 * (q : Int)) := hqv (15, .int .i64 (12 * (q : Int))) (.tail _ (.tail _ (.tail _ (.tail _ (.tail _ (.tail _ (.tail _ (.tail _ (.tail _ (.tail _ (.tail _ (.tail _ (.tail _ (.tail _ (.tail _ (.head _))))))))))))))))
              have f16 : v 16 = .int .u32 (m12 : Int) := hqv (16, .int .u32 (m12 : Int)) (.tail _ (.tail _ (.tail _ (.tail _ (.tail _ (.tail _ (.tail _ (.tail _ (.tail _ (.tail _ (.tail _ (.tail _ (.tail _ (.tail _ (.tail _ (.tail _ (.head _)))))))))))))))))
              have f17 : v 17 = .agg #[.int .u32 8, .int .u32 (m12 : Int)] := hqv (17, .agg #[.int .u32 8, .int .u32 (m12 : Int)]) (.tail _ (.tail _ (.tail _ (.tail _ (.tail _ (.tail _ (.tail _ (.tail _ (.tail _ (.tail _ (.tail _ (.tail _ (.tail _ (.tail _ (.tail _ (.tail _ (.tail _ (.head _))))))))))))))))))
              have f18 : v 18 = .agg #[.int .u32 9, .int .u32 12] := hqv (18, .agg #[.int .u32 9, .int .u32 12]) (.tail _ (.tail _ (.tail _ (.tail _ (.tail _ (.tail _ (.tail _ (.tail _ (.tail _ (.tail _ (.tail _ (.tail _ (.tail _ (.tail _ (.tail _ (.tail _ (.tail _ (.tail _ (.head _)))))))))))))))))))
              have f19 : v 19 = .agg #[.int .u32 0, .int .u32 0] := hqv (19, .agg #[.int .u32 0, .int .u32 0]) (.tail _ (.tail _ (.tail _ (.tail _ (.tail _ (.tail _ (.tail _ (.tail _ (.tail _ (.tail _ (.tail _ (.tail _ (.tail _ (.tail _ (.tail _ (.tail _ (.tail _ (.tail _ (.tail _ (.head _))))))))))))))))))))
              have f20 : v 20 = x20 := hacc (20, x20) (by simp)
              have f21 : v 21 = x21 := hacc (21, x21) (by simp)
              have f22 : v 22 = x22 := hacc (22, x22) (by simp)
              clear hacc hqv
              simp only [putAll, Act.put, List.setIfInBounds_toArray, List.set_cons_zero, List.set_cons_succ, Nat.zero_add, Nat.reduceAdd]
              rw [f0, f1, f2, f3, f4, f5, f6, f7, f8, f9, f10, f11, f12, f13, f14, f15, f16, f17, f18, f19, f20, f21, f22]
              clear f0 f1 f2 f3 f4 f5 f6 f7 f8 f9 f10 f11 f12 f13 f14 f15 f16 f17 f18 f19 f20 f21 f22
              obtain ⟨rfl, ho, hbe⟩ := hSE
              obtain ⟨A', c', rfl⟩ := own_form ho
              go_wp2_with fail
              go_meet
              have hlt := HTr.out.1
              have h1 := own_slC ho (by decide) (by omega) (0, 0)
              refine ⟨A', g + 7, c', rfl, ⟨⟨?_, ?_, fun p hp => ?_⟩, fun b o s e _ => .inr (own_Has ho b o s e)⟩, by omega, HO3.out.after hbe⟩
              · show (tg ++ ownT i q).length = _
                rw [HE.out]
                exact h1.1
              · show SlC _ _ 2 fun j k => tgV ((tg ++ ownT i q).getD j (0, 0)) k
                rw [HE.out]
                exact h1.2
              · replace hp : p ∈ tg ++ ownT i q := hp
                rw [HE.out] at hp
                rcases List.mem_append.1 hp with hp | hp
                · exact HTr.out.2.2 p hp
                · have h4 := HE2.out
                  simp only [List.mem_cons, List.not_mem_nil, or_false] at hp
                  rcases hp with rfl | rfl | rfl | rfl | rfl | rfl | rfl
                  all_goals exact ⟨by dsimp only; omega, by dsimp only; omega⟩
          case rest =>
            obtain ⟨A', n', c', rfl, hTg, hn27, hO⟩ := hcut
            obtain ⟨tgs, htgs⟩ : ∃ x, x = tags9 tg i q pl := ⟨_, rfl⟩
            rw [← htgs] at hTg
            have HTGS := Lib.hid htgs
            have HI4 : Hid (FbO w L gt cs (.slice Av k3 cv) (bs3 ++ (tgs.take 0).flatMap tagB) wc ∧ TgS L A' n' c' tgs wc) := Lib.hid ⟨by rw [List.take_zero, List.flatMap_nil, List.append_nil]; exact hO, hTg⟩
            have dn27 : (n' : Int) ≤ 27 := by omega
            clear hct0 hct4 HO3 htgs hTg hO
            go_wp2_with fail
            go_loopw [5, 127] (fun va ct wx => ∃ j : Nat, j ≤ n' ∧ ct = .int .i64 (j : Int) ∧ FbO w L gt cs va (bs3 ++ (tgs.take j).flatMap tagB) wx ∧ TgS L A' n' c' tgs wx) (fun _ ct _ => (n' - (intOf ct)).toNat)
            case atStart => exact ⟨0, Nat.zero_le _, rfl, HI4.out.1, HI4.out.2⟩
            case round =>
              obtain ⟨j, hj, rfl, hO, hTg⟩ := hrel
              clear HI4
              by_cases hlt : j < n'
              · have di : (j : Int) < (n' : Int) := by omega
                obtain ⟨b, o, hA2, hbl, _⟩ := hTg.sl.2.1.2 (by show 0 < n'; omega)
                replace hA2 : A' = some ⟨b, o, none⟩ := hA2
                subst hA2
                have htl : tgs.length = n' := hTg.sl.1
                have htk := take_more tgs (0, 0) j (by omega)
                have hrg := hTg.sl.2.1.range rfl (j := j) hlt
                have hp32 : P32 (tgs.getD j (0, 0)) := hTg.sl.2.2 _ (by rw [List.getD_eq_getElem?_getD, List.getElem?_eq_getElem (by omega)]; exact List.getElem_mem _)
                have hlen : (bs3 ++ (tgs.take j).flatMap tagB).length = k3 + 8 * j := by
                  rw [List.length_append, ← HK3.out, flat_len tagB 8 tagB_len, List.length_take]; omega
                change wr.rangeAt b (o + j * 2) ((List.range 2).map (tgV (tgs.getD j (0, 0)))) at hrg
                generalize hpe : tgs.getD j (0, 0) = p at *
                obtain ⟨p1, p2⟩ := p
                have hp1 : p1 < 4294967296 := hp32.1
                have hp2 : p2 < 4294967296 := hp32.2
                have ha1 := fun w => at_p2 b o n' c' j di w
                have HTK := Lib.hid htk
                obtain ⟨bs, hbs⟩ : ∃ x, x = bs3 ++ (tgs.take j).flatMap tagB := ⟨_, rfl⟩
                rw [← hbs] at hO hlen
                have HBS := Lib.hid hbs
                have HO := Lib.hid hO
                have HTg := Lib.hid hTg
                obtain ⟨Aw, cw, rfl⟩ := own_form hO.own
                have hb80 : bs.length ≤ 6000 := by omega
                clear hO hbl htl htk hpe hlen hbs hp32 hTg
                go_upto_region 26 with (first
                  | (refine wp_load_p2 rfl _ rfl b (o + j * 2) rfl _ hrg ?_)
                  | (refine wp_fresh 48 2 _ _ _ _ rfl rfl rfl rfl zeroP2 infoP22 (by omega) (tgV_one _) rfl rfl ?_
                     intro w2 hG2 hb2 hz2))
                have hO2 := HO.out.after hb2
                have hTg2 := Lib.hid (HTg.out.after hb2)
                obtain ⟨gk, hgk⟩ : ∃ x, x = wr.heap.size := ⟨_, rfl⟩
                rw [← hgk] at hG2 ⊢
                clear hz2 hrg hb2 hgk HO HTg
                refine region_chain (fun w' => Has w' gk 48 (tab 2 (tgV (p1, p2)))) [(0, .slice Aw bs.length cw), (1, .pointer (some ⟨gk, 0, none⟩)), (2, .int .u32 (p1 : Int)), (3, .int .i64 (p1 : Int)), (5, .pointer (some ⟨gk, 1, none⟩)), (6, .int .u32 (p2 : Int)), (7, .int .i64 (p2 : Int))] [(4, fun xs w' => w'.ownsRow w2.heap.size 5 1 (xs.getD 0 undef) 4 ((leB 4 p1).map by8) ∧ Has w' gk 48 (tab 2 (tgV (p1, p2))) ∧ Below w2.heap.size w2 w'), (8, fun xs w' => w'.ownsRow w2.heap.size 5 1 (xs.getD 0 undef) 4 ((leB 4 p1).map by8) ∧ (∃ b2, w'.ownsRow b2 5 1 (xs.getD 1 undef) 4 ((leB 4 p2).map by8)) ∧ Has w' gk 48 (tab 2 (tgV (p1, p2))) ∧ Below w2.heap.size w2 w'), (9, fun xs w' => w'.ownsRow w2.heap.size 5 1 (xs.getD 2 undef) (4 + 4) ((leB 4 p1 ++ leB 4 p2).map by8) ∧ Has w' gk 48 (tab 2 (tgV (p1, p2))) ∧ Below w2.heap.size w2 w'), (10, fun xs w' => FbO w L gt cs (xs.getD 3 undef) (bs ++ (leB 4 p1 ++ leB 4 p2)) w' ∧ Has w' gk 48 (tab 2 (tgV (p1, p2))) ∧ TgS L (some ⟨b, o, none⟩) n' c' tgs w'), (11, fun xs w' => (xs.getD 4 undef) = (xs.getD 3 undef) ∧ FbO w L gt cs (xs.getD 3 undef) (bs ++ (leB 4 p1 ++ leB 4 p2)) w' ∧ Has w' gk 48 (tab 2 (tgV (p1, p2))) ∧ TgS L (some ⟨b, o, none⟩) n' c' tgs w')] (fun w' => Has w' gk 48 (tab 2 (tgV (p1, p2))) ∧ Below w2.heap.size w2 w') 165 (by kernel_rfl) rfl (by kernel_rfl) (by kernel_rfl) ?_ ?_ ?_ ?_ ?_ ?_
                · intro w' hb he
                  exact ⟨hG2.after hb, hb⟩
                · exact fun w' h => h.1
                · simp only [List.forall_mem_cons, List.not_mem_nil, false_implies, implies_true, and_true]
                  refine ⟨?_, ?_, ?_, ?_, ?_⟩
                  · exact fun xs w' h => h.2.1
                  · exact fun xs w' h => h.2.2.1
                  · exact fun xs w' h => h.2.1
                  · exact fun xs w' h => h.2.1
                  · exact fun xs w' h => h.2.2.1
                · simp only [List.forall_mem_cons, List.not_mem_nil, false_implies, implies_true, and_true]
                  refine ⟨?_, ?_, ?_, ?_, ?_, ?_, ?_⟩
                  · refine qu_of rfl ?_
                    intro v w' A hA hC hd hl K hK
                    exact pure_step (.slice Aw bs.length cw) (fun ρ hρ => by
                        have e5 : ρ (.tmp 5) = .slice Aw bs.length cw := by rw [hρ]; exact (hA.1 11 _ 5 rfl rfl).trans (hl 11 (by decide) ⟨_, rfl, ⟨0, .phase⟩, by simp, rfl, rfl⟩)
                        clear hρ hA hl hK hd hC
                        go_simp) hK
                  · refine qu_of rfl ?_
                    intro v w' A hA hC hd hl K hK
                    exact pure_step (.pointer (some ⟨gk, 0, none⟩)) (fun ρ hρ => by
                        have hcst : ∀ x, ρ (.const x) = x := fun x => by rw [hρ]; rfl
                        have e16 : ρ (.tmp 16) = .pointer (some ⟨gk, 0, none⟩) := by rw [hρ]; exact hA.2 16 (by simp)
                        clear hρ hA hl hK hd hC
                        go_simp) hK
                  · refine qu_of rfl ?_
                    intro v w' A hA hC hd hl K hK
                    have hcell := (show w'.cell? ⟨gk, 0, none⟩ = some (.int .u32 (p1 : Int)) from hC.cellTab 0 (by omega))
                    exact pure_step (.int .u32 (p1 : Int)) (fun ρ hρ => by
                        have e132 : ρ (.tmp 132) = .pointer (some ⟨gk, 0, none⟩) := by rw [hρ]; exact (hA.1 1 _ 132 rfl rfl).trans (hd (1, .pointer (some ⟨gk, 0, none⟩)) (.tail _ (.head _)) ⟨⟨1, .data⟩, by simp, rfl, rfl⟩)
                        clear hρ hA hl hK hd hC
                        go_simp) hK
                  · refine qu_of rfl ?_
                    intro v w' A hA hC hd hl K hK
                    exact pure_step (.int .i64 (p1 : Int)) (fun ρ hρ => by
                        have e133 : ρ (.tmp 133) = .int .u32 (p1 : Int) := by rw [hρ]; exact (hA.1 2 _ 133 rfl rfl).trans (hd (2, .int .u32 (p1 : Int)) (.tail _ (.tail _ (.head _))) ⟨⟨2, .data⟩, by simp, rfl, rfl⟩)
                        clear hρ hA hl hK hd hC
                        have hwp := i64_wrap (p1 : Int) (by omega) (by omega)
                        go_simp) hK
                  · refine qu_of rfl ?_
                    intro v w' A hA hC hd hl K hK
                    exact pure_step (.pointer (some ⟨gk, 1, none⟩)) (fun ρ hρ => by
                        have hcst : ∀ x, ρ (.const x) = x := fun x => by rw [hρ]; rfl
                        have e16 : ρ (.tmp 16) = .pointer (some ⟨gk, 0, none⟩) := by rw [hρ]; exact hA.2 16 (by simp)
                        clear hρ hA hl hK hd hC
                        go_simp) hK
                  · refine qu_of rfl ?_
                    intro v w' A hA hC hd hl K hK
                    have hcell := (show w'.cell? ⟨gk, 1, none⟩ = some (.int .u32 (p2 : Int)) from hC.cellTab 1 (by omega))
                    exact pure_step (.int .u32 (p2 : Int)) (fun ρ hρ => by
                        have e136 : ρ (.tmp 136) = .pointer (some ⟨gk, 1, none⟩) := by rw [hρ]; exact (hA.1 5 _ 136 rfl rfl).trans (hd (5, .pointer (some ⟨gk, 1, none⟩)) (.tail _ (.tail _ (.tail _ (.tail _ (.head _))))) ⟨⟨5, .data⟩, by simp, rfl, rfl⟩)
                        clear hρ hA hl hK hd hC
                        go_simp) hK
                  · refine qu_of rfl ?_
                    intro v w' A hA hC hd hl K hK
                    exact pure_step (.int .i64 (p2 : Int)) (fun ρ hρ => by
                        have e137 : ρ (.tmp 137) = .int .u32 (p2 : Int) := by rw [hρ]; exact (hA.1 6 _ 137 rfl rfl).trans (hd (6, .int .u32 (p2 : Int)) (.tail _ (.tail _ (.tail _ (.tail _ (.tail _ (.head _)))))) ⟨⟨6, .data⟩, by simp, rfl, rfl⟩)
                        clear hρ hA hl hK hd hC
                        have hwp := i64_wrap (p2 : Int) (by omega) (by omega)
                        go_simp) hK
                · refine ⟨qu_of rfl ?_, fun x4 => ⟨qu_of rfl ?_, fun x8 => ⟨qu_of rfl ?_, fun x9 => ⟨qu_of rfl ?_, fun x10 => ⟨qu_of rfl ?_, fun x11 => trivial⟩⟩⟩⟩⟩
                  · intro v w' A hA hS hacc hd hl K hK
                    replace hS : Has w' gk 48 (tab 2 (tgV (p1, p2))) ∧ Below w2.heap.size w2 w' := hS
                    refine call_step 12 #[.int .i64 4, .int .i64 (p1 : Int)] (fun ρ hρ => by
                        have hcst : ∀ x, ρ (.const x) = x := fun x => by rw [hρ]; rfl
                        have hfun : ∀ f, ρ (.func f) = .func (.func f) #[] #[] := fun f => by rw [hρ]; rfl
                        have e134 : ρ (.tmp 134) = .int .i64 (p1 : Int) := by rw [hρ]; exact (hA.1 3 _ 134 rfl rfl).trans (hd (3, .int .i64 (p1 : Int)) (.tail _ (.tail _ (.tail _ (.head _)))) ⟨⟨3, .data⟩, by simp, rfl, rfl⟩)
                        clear hρ hA hl hK hd hS hacc
                        go_simp
                        ) ?_
                    refine (put_own 4 (p1 : Int) w' (by decide) (by omega) (by omega)).mono ?_
                    rintro e w'' ⟨⟨x, rfl, hx⟩, hb⟩
                    rw [natI_nat p1 (by omega)] at hx
                    exact ⟨_, rfl, hK _ _ ⟨own_mono hx hS.2.size, hS.1.after hb, hS.2.trans (hb.mono hS.2.size)⟩⟩
                  · intro v w' A hA hS hacc hd hl K hK
                    replace hS : w'.ownsRow w2.heap.size 5 1 x4 4 ((leB 4 p1).map by8) ∧ Has w' gk 48 (tab 2 (tgV (p1, p2))) ∧ Below w2.heap.size w2 w' := hS
                    refine call_step 12 #[.int .i64 4, .int .i64 (p2 : Int)] (fun ρ hρ => by
                        have hcst : ∀ x, ρ (.const x) = x := fun x => by rw [hρ]; rfl
                        have hfun : ∀ f, ρ (.func f) = .func (.func f) #[] #[] := fun f => by rw [hρ]; rfl
                        have e138 : ρ (.tmp 138) = .int .i64 (p2 : Int) := by rw [hρ]; exact (hA.1 7 _ 138 rfl rfl).trans (hd (7, .int .i64 (p2 : Int)) (.tail _ (.tail _ (.tail _ (.tail _ (.tail _ (.tail _ (.head _))))))) ⟨⟨7, .data⟩, by simp, rfl, rfl⟩)
                        clear hρ hA hl hK hd hS hacc
                        go_simp
                        ) ?_
                    refine (put_own 4 (p2 : Int) w' (by decide) (by omega) (by omega)).mono ?_
                    rintro e w'' ⟨⟨x, rfl, hx⟩, hb⟩
                    rw [natI_nat p2 (by omega)] at hx
                    exact ⟨_, rfl, hK _ _ ⟨own_after hS.1 hb, ⟨_, hx⟩, hS.2.1.after hb, hS.2.2.trans (hb.mono hS.2.2.size)⟩⟩
                  · intro v w' A hA hS hacc hd hl K hK
                    replace hS : w'.ownsRow w2.heap.size 5 1 x4 4 ((leB 4 p1).map by8) ∧ (∃ b2, w'.ownsRow b2 5 1 x8 4 ((leB 4 p2).map by8)) ∧ Has w' gk 48 (tab 2 (tgV (p1, p2))) ∧ Below w2.heap.size w2 w' := hS
                    obtain ⟨h1, ⟨b2, h2⟩, h3, h4⟩ := hS
                    have q135 : A.eval (.tmp 135) = x4 := by exact (hA.1 4 _ 135 rfl rfl).trans (hacc (4, x4) (by simp))
                    have q139 : A.eval (.tmp 139) = x8 := by exact (hA.1 8 _ 139 rfl rfl).trans (hacc (8, x8) (by simp))
                    refine wp_app_own _ _ rfl w2.heap.size x4 4 (leB 4 p1) q135 h1 x8 4 (leB 4 p2) q139 (by decide) b2 h2 (by decide) h4.size ?_
                    intro v' w'' ho hg
                    exact hK _ _ ⟨ho, has_grown h3 hg (own_has h1 h3 (by decide)), below_own h4 h1 (Nat.le_refl _) h4.size hg⟩
                  · intro v w' A hA hS hacc hd hl K hK
                    replace hS : w'.ownsRow w2.heap.size 5 1 x9 (4 + 4) ((leB 4 p1 ++ leB 4 p2).map by8) ∧ Has w' gk 48 (tab 2 (tgV (p1, p2))) ∧ Below w2.heap.size w2 w' := hS
                    obtain ⟨h1, h3, h4⟩ := hS
                    have q131 : A.eval (.tmp 131) = .slice Aw bs.length cw := by exact (hA.1 0 _ 131 rfl rfl).trans (hd (0, .slice Aw bs.length cw) (.head _) ⟨⟨0, .data⟩, by simp, rfl, rfl⟩)
                    have q140 : A.eval (.tmp 140) = x9 := by exact (hA.1 9 _ 140 rfl rfl).trans (hacc (9, x9) (by simp))
                    have hOw := hO2.after h4
                    refine wp_app_own _ _ rfl L _ bs.length bs q131 hOw.own x9 (4 + 4) (leB 4 p1 ++ leB 4 p2) q140 (by decide) w2.heap.size h1 (by omega) hOw.siz ?_
                    intro v' w'' ho hg
                    exact hK _ _ ⟨hOw.put ho hg, has_grown h3 hg (own_has hOw.own h3 (by decide)), (hTg2.out.after h4).app hOw.own hg⟩
                  · intro v w' A hA hS hacc hd hl K hK
                    replace hS : FbO w L gt cs x10 (bs ++ (leB 4 p1 ++ leB 4 p2)) w' ∧ Has w' gk 48 (tab 2 (tgV (p1, p2))) ∧ TgS L (some ⟨b, o, none⟩) n' c' tgs w' := hS
                    exact pure_step x10 (fun ρ hρ => by
                        have e141 : ρ (.tmp 141) = x10 := by rw [hρ]; exact (hA.1 10 _ 141 rfl rfl).trans (hacc (10, x10) (by simp))
                        clear hρ hA hl hd hS hacc
                        go_simp
                        ) (hK _ _ ⟨rfl, hS⟩)
                intro x4 x8 x9 x10 x11 v wE hSE hacc hqv
                replace hSE : x11 = x10 ∧ FbO w L gt cs x10 (bs ++ (leB 4 p1 ++ leB 4 p2)) wE ∧ Has wE gk 48 (tab 2 (tgV (p1, p2))) ∧ TgS L (some ⟨b, o, none⟩) n' c' tgs wE := hSE
                have f0 : v 0 = .slice Aw bs.length cw := hqv (0, .slice Aw bs.length cw) (.head _)
                have f1 : v 1 = .pointer (some ⟨gk, 0, none⟩) := hqv (1, .pointer (some ⟨gk, 0, none⟩)) (.tail _ (.head _))
                have f2 : v 2 = .int .u32 (p1 : Int) := hqv (2, .int .u32 (p1 : Int)) (.tail _ (.tail _ (.head _)))
                have f3 : v 3 = .int .i64 (p1 : Int) := hqv (3, .int .i64 (p1 : Int)) (.tail _ (.tail _ (.tail _ (.head _))))
                have f4 : v 4 = x4 := hacc (4, x4) (by simp)
                have f5 : v 5 = .pointer (some ⟨gk, 1, none⟩) := hqv (5, .pointer (some ⟨gk, 1, none⟩)) (.tail _ (.tail _ (.tail _ (.tail _ (.head _)))))
                have f6 : v 6 = .int .u32 (p2 : Int) := hqv (6, .int .u32 (p2 : Int)) (.tail _ (.tail _ (.tail _ (.tail _ (.tail _ (.head _))))))
                have f7 : v 7 = .int .i64 (p2 : Int) := hqv (7, .int .i64 (p2 : Int)) (.tail _ (.tail _ (.tail _ (.tail _ (.tail _ (.tail _ (.head _)))))))
                have f8 : v 8 = x8 := hacc (8, x8) (by simp)
                have f9 : v 9 = x9 := hacc (9, x9) (by simp)
                have f10 : v 10 = x10 := hacc (10, x10) (by simp)
                have f11 : v 11 = x11 := hacc (11, x11) (by simp)
                clear hacc hqv
                simp only [putAll, Act.put, List.setIfInBounds_toArray, List.set_cons_zero, List.set_cons_succ, Nat.zero_add, Nat.reduceAdd]
                rw [f0, f1, f2, f3, f4, f5, f6, f7, f8, f9, f10, f11]
                clear f0 f1 f2 f3 f4 f5 f6 f7 f8 f9 f10 f11
                obtain ⟨rfl, hO11, _, hTg11⟩ := hSE
                go_wp2_with fail
                go_roundw
                case rel =>
                  refine ⟨j + 1, hlt, by go_num, ?_, hTg11⟩
                  rw [HTK.out, List.flatMap_append, ← List.append_assoc, ← HBS.out]
                  show FbO w L gt cs _ (bs ++ [(p1, p2)].flatMap tagB) _
                  rw [show [(p1, p2)].flatMap tagB = leB 4 p1 ++ leB 4 p2 by simp [tagB]]
                  exact hO11
                case measure => simp [intOf] <;> omega
              · obtain rfl : j = n' := by omega
                have htl : tgs.length = j := hTg.sl.1
                obtain ⟨bs4, hbs4⟩ : ∃ x, x = bs3 ++ tgs.flatMap tagB := ⟨_, rfl⟩
                rw [List.take_of_length_le (by omega), ← hbs4] at hO
                have hl4 : bs4.length = k3 + 8 * j := by rw [hbs4, List.length_append, ← HK3.out, flat_len tagB 8 tagB_len, htl]
                obtain ⟨Aw, cw, rfl⟩ := own_form hO.own
                have HO5 := Lib.hid hO
                obtain ⟨k4, hk4⟩ : ∃ k, k = bs4.length := ⟨_, rfl⟩
                have hsA := own_slA hO.own
                rw [← hk4] at hl4 hsA ⊢
                obtain ⟨z, hz⟩ : ∃ z, z = 8 * j := ⟨_, rfl⟩
                have hzk : (k4 : Int) - (k3 : Int) = (z : Int) := by omega
                have hk4b : (k4 : Int) ≤ 6000 := by omega
                have hzb : (z : Int) ≤ 6000 := by omega
                have HZ := Lib.hid (And.intro hz (And.intro hbs4 (And.intro hk4 htl)))
                have hmk := fun W => make_zs z (by omega) W
                have hcb := HO5.out.bel
                clear hO hTg hbs4 hk4 htl hl4 hz hlt
                obtain ⟨at3, hat3⟩ : ∃ x, x = 256 + k3 := ⟨_, rfl⟩
                have hat3' : (256 : Int) + (k3 : Int) = (at3 : Int) := by omega
                have HAT := Lib.hid hat3
                clear hat3
                go_upto_region 30 with fail
                have hJ : SlJ (wr.alloc (.cells #[.int .i64 1, .int .i64 0, .int .i64 0, .int .i64 0, .int .i64 (n : Int), .int .i64 5, .int .i64 1, .int .i64 0, .int .i64 256, .int .i64 0, .int .i64 (k4 : Int), .int .i64 1, .int .i64 2, .int .i64 0, .int .i64 (at3 : Int), .int .i64 0, .int .i64 (z : Int), .int .i64 1] 50)) ⟨some ⟨wr.heap.size, 0, none⟩, 3, 3⟩ [⟨1, 0, 0, 0, n, 5⟩, ⟨1, 0, 256, 0, k4, 1⟩, ⟨2, 0, at3, 0, z, 1⟩] := slJ_three (Has.new _ _ _)
                have hb1 : Below wr.heap.size wr (wr.alloc (.cells #[.int .i64 1, .int .i64 0, .int .i64 0, .int .i64 0, .int .i64 (n : Int), .int .i64 5, .int .i64 1, .int .i64 0, .int .i64 256, .int .i64 0, .int .i64 (k4 : Int), .int .i64 1, .int .i64 2, .int .i64 0, .int .i64 (at3 : Int), .int .i64 0, .int .i64 (z : Int), .int .i64 1] 50)) := (Below.refl _ _).alloc (Nat.le_refl _) _
                generalize wr.alloc (.cells #[.int .i64 1, .int .i64 0, .int .i64 0, .int .i64 0, .int .i64 (n : Int), .int .i64 5, .int .i64 1, .int .i64 0, .int .i64 256, .int .i64 0, .int .i64 (k4 : Int), .int .i64 1, .int .i64 2, .int .i64 0, .int .i64 (at3 : Int), .int .i64 0, .int .i64 (z : Int), .int .i64 1] 50) = u1 at *
                obtain ⟨gh, hgh⟩ : ∃ x, x = wr.heap.size := ⟨_, rfl⟩
                rw [← hgh] at hJ ⊢
                clear hgh
                go_wp2_with fail
                have hzl : (zs z).length = z := by simp [zs]
                have hGz : Has (u1.alloc (.cells ((zs z).map by8).toArray 5)) u1.heap.size 5 ((zs z).map by8).toArray := Has.new _ _ _
                have hb2 : Below u1.heap.size u1 (u1.alloc (.cells ((zs z).map by8).toArray 5)) := (Below.refl _ _).alloc (Nat.le_refl _) _
                have hs2 : (u1.alloc (.cells ((zs z).map by8).toArray 5)).heap.size = u1.heap.size + 1 := by simp
                generalize u1.alloc (.cells ((zs z).map by8).toArray 5) = u2 at *
                have hG3 : Has (u2.alloc (.cells #[.slice A n c, .slice Aw k4 cw, .slice (some ⟨u1.heap.size, 0, none⟩) z z] 22)) (u1.heap.size + 1) 22 #[.slice A n c, .slice Aw k4 cw, .slice (some ⟨u1.heap.size, 0, none⟩) z z] := Has.new' hs2.symm
                have hb3 : Below u2.heap.size u2 (u2.alloc (.cells #[.slice A n c, .slice Aw k4 cw, .slice (some ⟨u1.heap.size, 0, none⟩) z z] 22)) := (Below.refl _ _).alloc (Nat.le_refl _) _
                generalize u2.alloc (.cells #[.slice A n c, .slice Aw k4 cw, .slice (some ⟨u1.heap.size, 0, none⟩) z z] 22) = u3 at *
                have hb23 := below_trans hb2 (hb3.mono (Nat.le_refl _))
                have hb13 : Below wr.heap.size wr u3 := hb1.trans (hb23.mono hb1.size)
                have hb03 : Below w.heap.size w u3 := hcb.trans (hb13.mono hcb.size)
                have hSz := (rowB_at (fr := (0, 0)) hzl (hGz.after hb3)).slA
                have hcl : code.length = n := HS.out.1
                have hD := slD_three hG3 (HS.out.below hb03) HA.out (hsA.1.below hb13) hsA.2 hSz.1 hSz.2
                obtain ⟨z1, z2, z3, z4⟩ := HZ.out
                have hN := HN.out
                have hl1 := HL1.out
                have hl3 := HL3.out
                have hsl : sy.length = i := HY.out.1
                have hrl : rl.length = q := HR.out.1
                have k := rfile_any 0 ⟨some ⟨gh, 0, none⟩, 3, 3⟩ ⟨some ⟨u1.heap.size + 1, 0, none⟩, 3, 3⟩ [⟨1, 0, 0, 0, n, 5⟩, ⟨1, 0, 256, 0, k4, 1⟩, ⟨2, 0, at3, 0, z, 1⟩] [code, bs4, zs z] u3 (hJ.below hb23) hD rfl (by show (3 : Nat) ≤ 9; decide)
                  (fun h hh => by
                    have := HAT.out
                    simp only [List.mem_cons, List.not_mem_nil, or_false] at hh
                    rcases hh with rfl | rfl | rfl
                    · exact ⟨by dsimp only; omega, by dsimp only; omega, by dsimp only; omega, by dsimp only; omega⟩
                    · exact ⟨by dsimp only; omega, by dsimp only; omega, by dsimp only; omega, by dsimp only; omega⟩
                    · exact ⟨by dsimp only; omega, by dsimp only; omega, by dsimp only; omega, by dsimp only; omega⟩)
                  (by decide) (by simp only [List.flatten_cons, List.flatten_nil, List.length_append, List.append_nil, hzl, hcl]; omega)
                have HFN : Hid (fileN 0 [⟨1, 0, 0, 0, n, 5⟩, ⟨1, 0, 256, 0, k4, 1⟩, ⟨2, 0, at3, 0, z, 1⟩] [code, bs4, zs z] = file9N code tg sy rl m pl) := Lib.hid (by
                  have e4 : bs4 = bodyN (natI cn) sy rl tgs := by rw [z2, HBS3.out, HBS1.out]; rfl
                  have ek : k4 = (bodyN (natI cn) sy rl tgs).length := by rw [z3, e4]
                  have ea : at3 = 256 + tabAt sy rl := by rw [HAT.out]; show 256 + k3 = 256 + (8 + 16 * sy.length + 12 * rl.length); omega
                  have ez : z = 8 * tgs.length := by omega
                  have et : tags9 tg sy.length rl.length pl = tgs := by rw [hsl, hrl, HTGS.out]
                  have ec : IntKind.i64.wrap ((sy.length : Int) + m) = cn := by rw [hsl, HCN.out]
                  unfold file9N
                  rw [et, ec]
                  show _ = fileN 0 (tabH code.length _ _ _) _
                  rw [← e4, ea, ez, ← hcl]
                  rw [show k4 = bs4.length from z3]
                  rfl)
                clear z1 z2 z3 z4 hN hl1 hl3 hsl hrl hD hSz hG3 hGz hJ hsA hzl hcl hb1 hb2 hb3 hb23 hb13 hs2
                refine k.mono ?_
                rintro e u4 ⟨⟨A2, n2, c2, rfl, hRB, hc2⟩, hb4⟩
                clear k
                have hbE := below_trans hb03 (hb4.mono (Nat.le_refl _))
                have HRB := Lib.hid hRB
                clear hRB hb4 hb03
                go_wp2_with fail
                go_ret
                exact ⟨⟨A2, n2, c2, rfl, by rw [← HFN.out]; exact HRB.out, hc2⟩, hbE⟩
end Go.Proofs.Ytfdoloonllhodaa
