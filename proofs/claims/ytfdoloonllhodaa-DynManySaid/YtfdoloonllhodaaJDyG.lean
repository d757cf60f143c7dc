/-
Layer 9, the law's file: a number's bytes, of any sign.
-/
import Derived.Test.YtfdoloonllhodaaJDyF
import Derived.Lib.AppendZeros
import Derived.Lib.AppendStr
namespace Go.Proofs.Ytfdoloonllhodaa
open Go Go.RowKit

/-- the bits of a number of any sign -/
def natI (x : Int) : Nat := (x % 18446744073709551616).toNat
theorem byte_int (x : Int) (i : Nat) (hi : i ≤ 7) : Value.int .u8 (x / 2 ^ (8 * i) % 256) = by8 (UInt8.ofNat (natI x / 256 ^ i)) := by
  rw [← byte_at (natI x) i]
  congr 1
  unfold natI
  have h : i = 0 ∨ i = 1 ∨ i = 2 ∨ i = 3 ∨ i = 4 ∨ i = 5 ∨ i = 6 ∨ i = 7 := by omega
  rcases h with rfl | rfl | rfl | rfl | rfl | rfl | rfl | rfl
  · rw [show (2 : Int) ^ (8 * 0) = 1 from rfl]; omega
  · rw [show (2 : Int) ^ (8 * 1) = 256 from rfl]; omega
  · rw [show (2 : Int) ^ (8 * 2) = 65536 from rfl]; omega
  · rw [show (2 : Int) ^ (8 * 3) = 16777216 from rfl]; omega
  · rw [show (2 : Int) ^ (8 * 4) = 4294967296 from rfl]; omega
  · rw [show (2 : Int) ^ (8 * 5) = 1099511627776 from rfl]; omega
  · rw [show (2 : Int) ^ (8 * 6) = 281474976710656 from rfl]; omega
  · rw [show (2 : Int) ^ (8 * 7) = 72057594037927936 from rfl]; omega
set_option maxRecDepth 100000 in
set_option maxHeartbeats 1000000 in
theorem put_own (n : Nat) (x : Int) (w : World) (hn : n ≤ 7) (_h1 : -9223372036854775808 ≤ x) (_h2 : x < 9223372036854775808) :
    Calls Try.prog 12 #[.int .i64 (n : Int), .int .i64 x] w fun e w' => (∃ v, e = .returned v ∧ w'.ownsRow w.heap.size 5 1 v n ((leB n (natI x)).map by8)) ∧ Below w.heap.size w w' := by
  go_enter Try.func12, Try.ntmps12
  go_wp2_with fail
  go_loopw [5, 6] (fun va ct wr => ∃ i : Nat, i ≤ n ∧ ct = .int .i64 (i : Int) ∧ wr.ownsRow w.heap.size 5 1 va i ((leB i (natI x)).map by8) ∧ Below w.heap.size w wr) (fun _ ct _ => (n - (intOf ct)).toNat)
  case atStart => exact ⟨0, Nat.zero_le _, rfl, World.ownsRow_nil _ _ _ _, Below.refl _ _⟩
  case round =>
    obtain ⟨i, hi, rfl, hown, hb⟩ := hrel
    by_cases hlt : i < n
    · have di : (i : Int) < (n : Int) := by omega
      have hws := hb.size
      have HB := Lib.hid hb
      have HOWN := Lib.hid hown
      have hbt := byte_int x i (by omega)
      have HBT := Lib.hid hbt
      clear hbt hown hb
      go_wp2_with (
        refine wp_append_byte rfl _ _ rfl w.heap.size _ i _ rfl (own_after HOWN.out ((Below.refl _ _).alloc (Nat.le_refl _) _)) wr.heap.size rfl (UInt8.ofNat (natI x / 256 ^ i)) (((Has.new _ _ _).cell 0).trans (congrArg some HBT.out)) (by omega) (by simp; omega) ?_
        intro v' w' hown' hgr')
      go_roundw
      case rel =>
        refine ⟨i + 1, hlt, by go_num, ?_, ?_⟩
        · rw [leB_snoc, List.map_append]
          exact hown'
        · have hb1 : Below w.heap.size w (wr.alloc (.cells #[.int .u8 (x / 2 ^ (8 * i) % 256)] 5)) := HB.out.alloc hws _
          exact below_own hb1 (own_after HOWN.out ((Below.refl _ _).alloc (Nat.le_refl _) _)) (Nat.le_refl _) hb1.size hgr'
      case measure => simp [intOf] <;> omega
    · obtain rfl : i = n := by omega
      go_wp2_with fail
      go_ret
      exact ⟨⟨_, rfl, hown⟩, hb⟩
/-- eight zeros -/
def z8 : List Value := List.replicate 8 (.int .u8 0)
theorem z8_cells : Builtin.zeroCells (Value.int .u8 0).cells 8 = z8.toArray := by kernel_rfl
theorem z8_one : ∀ u ∈ z8, u.oneCell' = true := by intro u hu; rw [List.eq_of_mem_replicate hu]; rfl
theorem z8_len : z8.length = 8 := rfl
theorem undI : Try.prog.underlying 3 = some (.int .i64) := by kernel_rfl
theorem run_append_z8 (ty : TypeId) (w : World) (base n : Nat) (v : Value) (xs : List Value) (hown : w.ownsRow base 5 1 v n xs) (h63 : n ≤ 1000000) (hbase : base ≤ w.heap.size) :
    ∃ v' w', (Builtin.append_ #[22, 3] ty #[v, .int .i64 8]).run Try.prog w = .ok v' w' ∧ w'.ownsRow base 5 1 v' (n + 8) (xs ++ z8) ∧ w.grownBy w' v.ownBlock := by
  obtain ⟨i5, hi5, hz5, hs5, hb5⟩ := info_parts info5
  have ht := Try.underlying22
  have hu := undI
  have hxl : xs.length = n := by simpa using hown.1
  have hlen : (xs ++ z8).length = (n + 8) * 1 := by rw [List.length_append, hxl, z8_len, Nat.mul_one]
  have h63' : n + 8 ≤ maxLen := by simp only [maxLen]; omega
  have grown : ∀ (old : Nat), old < n + 8 → ∀ (row : Option Nat),
      (w.drew.alloc (.cells (xs.toArray ++ z8.toArray ++ Builtin.zeroCells (Value.int .u8 0).cells (grownCap w (n + 8) old 5 - (n + 8))) 5)).ownsRow base 5 1
        (.slice (some ⟨w.heap.size, 0, none⟩) (n + 8) (grownCap w (n + 8) old 5)) (n + 8) (xs ++ z8) ∧
      w.grownBy (w.drew.alloc (.cells (xs.toArray ++ z8.toArray ++ Builtin.zeroCells (Value.int .u8 0).cells (grownCap w (n + 8) old 5 - (n + 8))) 5)) row := by
    intro old ho row
    have hge := grownCap_ge w (n + 8) old 5
    have hcm : grownCap w (n + 8) old 5 ≤ maxLen := grownCap_le_maxLen w (n + 8) old _ h63'
    refine ⟨⟨hlen, .inr ⟨w.heap.size, _, _, rfl, hbase, heap_alloc_new w.drew _, hge, hcm, ?_, ?_⟩⟩, ⟨rfl, rfl, rfl, by simp, fun k hk _ => heap_alloc_old w.drew _ hk⟩⟩
    · have hz1 : (Value.int IntKind.u8 0).cells.size = 1 := rfl
      simp only [Array.size_append, List.size_toArray, size_zeroCells, hz1, hxl, z8_len]
      omega
    · simp only [Array.toList_append, List.append_assoc]
      rw [← List.append_assoc, ← hlen]
      exact List.take_left
  rcases hown.2 with ⟨rfl, rfl⟩ | ⟨g, cap, cur, rfl, hbg, hg, hnc, hcm, hcs, htake⟩
  · have hx : xs = [] := List.eq_nil_of_length_eq_zero hxl
    subst hx
    have hr := Lib.run_append_nil_zeros (P := Try.prog) w 22 3 ty 5 i5 (.int .u8 0) .i64 .i64 ht hu hi5 hz5 8 (by decide) (by rw [hs5]; decide) (by decide) (by rw [hb5]; decide)
    rw [z8_cells] at hr
    have hgr := grown 0 (by omega) (Value.ownBlock (.slice none 0 0))
    simp only [Nat.zero_add, List.nil_append, Array.empty_append] at hgr ⊢
    exact ⟨_, _, hr, hgr.1, hgr.2⟩
  · have hw8 : IntKind.i64.wrap 8 = 8 := by decide
    by_cases hroom : n + 8 ≤ cap
    · have hcs' : cur.size = cap := by simpa using hcs
      have hst := run_storeCells_at Try.prog g n 5 z8 0 cur w hg (by rw [z8_len]; omega) z8_one
      simp only [Nat.add_zero, z8_len] at hst
      have hr : (Builtin.append_ #[22, 3] ty #[.slice (some ⟨g, 0, none⟩) n cap, .int .i64 8]).run Try.prog w = .ok (.slice (some ⟨g, 0, none⟩) (n + 8) cap) (w.setRow g (cur.toList.take n ++ z8 ++ cur.toList.drop (n + 8)).toArray) := by
        simp [Builtin.append_, run_underlying ht, run_underlying hu, sizeOf, typeInfo, zeroValue, hi5, hz5, hs5, hb5, asInt, asIntOf, hw8, hroom, Addr.add_lit, z8_cells, hst]
      refine ⟨_, _, hr, ⟨hlen, .inr ⟨g, cap, _, rfl, hbg, setRow_heap w g cur _ _ _ hg, hroom, hcm, ?_, ?_⟩⟩, ⟨rfl, rfl, rfl, by simp, fun k _ hk => setRow_other w g k _ (fun e => hk (by simp [Value.ownBlock, e]))⟩⟩
      · simp only [List.size_toArray, List.length_append, List.length_take, List.length_drop, Array.length_toList, z8_len]
        omega
      · have ht' : cur.toList.take n = xs := by simpa using htake
        rw [ht', ← hlen]
        exact List.take_left
    · have holds : ∀ j u, xs[j]? = some u → w.cell? ((⟨g, 0, none⟩ : Addr).add j) = some u := hown.cells (g := g) rfl
      have hfo := run_firstCells_some (P := Try.prog) w.drew i5.size n ⟨g, 0, none⟩ n cap xs (by rw [hs5, hxl, Nat.mul_one]) (by simpa using holds)
      rw [hs5] at hfo
      have hgf := growslice_fits (need := n + 8) (old := cap) (bytes := 1) (by omega) (by omega)
      have h48' : ¬ (281474976710656 < Builtin.nextslicecap (n + 8) cap) := by omega
      have h9 : ¬ (9223372036854775807 < ((n : Int) + max 8 0)) := by omega
      have hr : (Builtin.append_ #[22, 3] ty #[.slice (some ⟨g, 0, none⟩) n cap, .int .i64 8]).run Try.prog w = .ok (.slice (some ⟨w.heap.size, 0, none⟩) (n + 8) (grownCap w (n + 8) cap 5)) (w.drew.alloc (.cells (xs.toArray ++ z8.toArray ++ Builtin.zeroCells (Value.int .u8 0).cells (grownCap w (n + 8) cap 5 - (n + 8))) 5)) := by
        simp [Builtin.append_, run_underlying ht, run_underlying hu, sizeOf, typeInfo, zeroValue, hi5, hz5, hs5, hb5, asInt, asIntOf, hw8, hroom, h9, h48', Question.forced, hfo, newRow, grownCap, z8_cells]
        rw [show (xs ++ z8).toArray = xs.toArray ++ z8.toArray from by simp, Array.append_assoc]
      have hgr := grown cap (by omega) (Value.ownBlock (.slice (some ⟨g, 0, none⟩) n cap))
      exact ⟨_, _, hr, hgr.1, hgr.2⟩
theorem wp_append_z8K {w : World} {op : Oper} {a : Act} {K : Act → World → Prop} {Q : Exit → Act → World → Prop} (s x : Operand)
    (ho : op.op = .call { callee := .builtin .append, args := #[s, x], argTypes := #[22, 3] }) (base : Nat) (v : Value) (n : Nat) (xs : List Value) (hs : a.eval s = v)
    (hown : w.ownsRow base 5 1 v n xs) (hx : a.eval x = .int .i64 8) (h63 : n ≤ 1000000) (hbase : base ≤ w.heap.size)
    (h : ∀ v' w', w'.ownsRow base 5 1 v' (n + 8) (xs ++ z8) → w.grownBy w' v.ownBlock → K (a.put op.dst v') w') : op.wp Try.prog a w K Q := by
  obtain ⟨v', w', hr, h2, h3⟩ := run_append_z8 op.type w base n v xs hown h63 hbase
  exact Lib.wp_append_run w s x _ _ ho _ _ hs hx v' w' hr (h v' w' h2 h3)
end Go.Proofs.Ytfdoloonllhodaa
