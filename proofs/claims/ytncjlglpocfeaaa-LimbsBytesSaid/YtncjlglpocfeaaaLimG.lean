/-
LimbsBytes: numbers are read and written, the highest byte first; bits are those of the bytes: the walk.
-/
import Derived.Test.YtncjlglpocfeaaaLimE
import Derived.Laws.BytesArg
import Derived.Laws.Slices
namespace Go.Proofs.Ytncjlglpocfeaaa
open Go.RowKit

theorem neq_same (x : Nat) : ∀ W : World, (binOp .neq 24 (.agg (nums x)) (.agg (nums x))).run Try.prog W = .ok (.bool false) W := fun W => by
  have h := eql_same x W
  unfold nums at h ⊢
  rw [run_eql_struct] at h
  rw [run_neq_struct]
  cases hq : (Op.equalIn 10000 24 (.agg (tab 8 (dgs .u32 4294967296 x))) (.agg (tab 8 (dgs .u32 4294967296 x)))).run Try.prog W with
  | ok b w => rw [hq] at h; simp [Result.andThen] at h ⊢; exact h
  | _ => rw [hq] at h; simp [Result.andThen] at h
theorem bits_byte (x k : Nat) : bits BinOp.and IntKind.u8 (((byB x (31 - k / 8) : Nat) : Int) / 2 ^ (k % 8)) 1 = ((bitN x k : Nat) : Int) ∨ 256 ≤ k := by
  by_cases hk : 256 ≤ k
  · exact .inr hk
  · left
    have h1 : ((byB x (31 - k / 8) : Nat) : Int) / 2 ^ (k % 8) = ((byB x (31 - k / 8) / 2 ^ (k % 8) : Nat) : Int) := by simp [Int.natCast_ediv, Int.natCast_pow]
    have hlt : byB x (31 - k / 8) / 2 ^ (k % 8) < 256 := Nat.lt_of_le_of_lt (Nat.div_le_self _ _) (byB_lt _ _)
    have h2 : (1 : Int) = ((1 : Nat) : Int) := rfl
    rw [h1, h2, u8_and_nat _ _ hlt (by decide), Nat.and_one_is_mod]
    have h := dg_dg (b := 2) (m := 8) (x := x) (q := k / 8) (r := k % 8) (by omega)
    have e : 8 * (k / 8) + k % 8 = k := by omega
    rw [e] at h
    unfold bitN
    unfold dg at h
    unfold byB dg
    rw [show 31 - (31 - k / 8) = k / 8 by omega, ← h]
theorem info39 (x : Nat) : (Try.prog.info? 39).map (·.size) = some (tab 32 (bytV x)).size := by rw [tab_size]; kernel_rfl
theorem slice_all (g : Nat) : ∀ W : World, (Instr.sliceAt 39 (.pointer (some ⟨g, 0, none⟩)) none none none).run Try.prog W = .ok (.slice (some ⟨g, 0, none⟩) 32 32) W := fun W => by
  have hs : (sizeOf 5).run Try.prog W = .ok 1 W := by kernel_rfl
  have h := run_sliceAt_array_all (P := Try.prog) (w := W) 39 ⟨g, 0, none⟩ (by kernel_rfl)
  have e5 : Try.prog.elem 39 = 5 := by kernel_rfl
  have e32 : Try.prog.arrayLen 39 = 32 := by kernel_rfl
  rw [h, e5, hs, e32]
  simp [Result.andThen, slicedAt, Addr.add]
/-- the bytes as a string -/
def strB (x : Nat) : ByteArray := strOfNums ((List.range 32).map fun j => ((byB x j : Nat) : Int))
theorem conv_bytes (x b o c : Nat) (W : World) (hc : ∀ j, j < 32 → W.cell? ⟨b, o + j, none⟩ = some (.int .u8 ((byB x j : Nat) : Int))) :
    (convert 38 9 (.slice (some ⟨b, o, none⟩) 32 c)).run Try.prog W = .ok (.string (strB x)) W :=
  run_convert_bytes_arg (P := Try.prog) W 38 5 Try.underlying38 Try.underlying5 b o 32 c _ (by simp) (fun i hi => by rw [hc i hi]; simp [List.getD_eq_getElem?_getD, hi]) 9 Try.underlying9

attribute [local go_sem] zeroNum zero32
set_option maxRecDepth 100000 in
set_option maxHeartbeats 2000000 in
theorem bytes_law32 (n y b o c : Nat) (i : Int) (w : World) (hn : n < big) (hy : y < big) (hlb : b < w.heap.size) (hc : ∀ j, j < 32 → w.cell? ⟨b, o + j, none⟩ = some (.int .u8 ((byB y j : Nat) : Int))) :
    Calls Try.prog 5 #[.agg (nums n), .slice (some ⟨b, o, none⟩) 32 c, .int .i64 i] w fun e w' => e = .returned (.bool true) ∧ Below w.heap.size w w' := by
  have nq := neq_same n
  have hA : Has (w.alloc (.cells (nums n) 24)) w.heap.size 24 (nums n) := Has.new w _ _
  have hb0 : Below w.heap.size w (w.alloc (.cells (nums n) 24)) := (Below.refl _ _).alloc (Nat.le_refl _) _
  go_enter Try.func5, Try.ntmps5
  go_wp2_with fail
  refine (fit_any _).mono ?_
  rintro e w1 ⟨rfl, hx⟩
  replace hA := hA.after hx
  replace hb0 := below_trans hb0 hx
  clear hx
  go_wp2_with (refine wpList_load_has 24 _ rfl _ rfl rfl 24 _ hA _ Try.underlying24 rfl (infoNum _) ?_)
  refine (bytes_any n _).mono ?_
  rintro e w2 ⟨rfl, hx⟩
  have hN := put_new w2 39 (tab 32 fun _ => .int .u8 0) (tab 32 (bytV n))
  replace hA := (hA.after hx).after hN.2
  replace hb0 := below_trans (below_trans hb0 hx) hN.2
  have hX := hN.1
  have hsl := slice_all w2.heap.size
  clear hx hN
  go_wp2_with (refine wpList_store_row rfl 39 _ _ rfl w2.heap.size _ rfl rfl 39 (tab 32 fun _ => .int .u8 0) (Has.new' rfl) (info39 _) (by simp only [tab_size]) (tab_oneCell _ _ fun _ => rfl) ?_)
  refine (read_any n w2.heap.size 0 32 _ hn hX.lt (fun j hj => by rw [Nat.zero_add]; exact hX.cellTab j hj)).mono ?_
  rintro e w3 ⟨rfl, hx⟩
  have hN := put_new w3 24 (nums 0) (nums n)
  replace hA := (hA.after hx).after hN.2
  replace hX := (hX.after hx).after hN.2
  replace hb0 := below_trans (below_trans hb0 hx) hN.2
  have hM := hN.1
  clear hx hN hsl
  go_wp2_with (refine wpList_store_row rfl 24 _ _ rfl w3.heap.size _ rfl rfl 24 (nums 0) (Has.new' rfl) (infoNum _) (by simp only [nums_size]) (tab_oneCell _ _ fun _ => rfl) ?_)
  refine (read_any y b o c _ hy (Nat.lt_of_lt_of_le hlb hb0.size) (fun j hj => (World.cell?_of_block (hb0.block b hlb)).trans (hc j hj))).mono ?_
  rintro e w4 ⟨rfl, hx⟩
  have hN := put_new w4 24 (nums 0) (nums y)
  replace hA := (hA.after hx).after hN.2
  replace hX := (hX.after hx).after hN.2
  replace hM := (hM.after hx).after hN.2
  replace hb0 := below_trans (below_trans hb0 hx) hN.2
  have hK := hN.1
  clear hx hN
  go_wp2_with (first | refine wpList_store_row rfl 24 _ _ rfl w4.heap.size _ rfl rfl 24 (nums 0) (Has.new' rfl) (infoNum _) (by simp only [nums_size]) (tab_oneCell _ _ fun _ => rfl) ?_ | refine wpList_load_has 24 _ rfl _ rfl rfl 24 _ hA _ Try.underlying24 rfl (infoNum _) ?_ | refine wpList_load_has 24 _ rfl _ rfl rfl 24 _ hM _ Try.underlying24 rfl (infoNum _) ?_ | refine wpList_load_has 24 _ rfl _ rfl rfl 24 _ hK _ Try.underlying24 rfl (infoNum _) ?_)
  refine (bytes_any y _).mono ?_
  rintro e w5 ⟨rfl, hx⟩
  have hN := put_new w5 39 (tab 32 fun _ => .int .u8 0) (tab 32 (bytV y))
  replace hA := (hA.after hx).after hN.2
  replace hX := (hX.after hx).after hN.2
  replace hb0 := below_trans (below_trans hb0 hx) hN.2
  have hY := hN.1
  have hsl := slice_all w5.heap.size
  clear hx hN hM hK nq
  go_wp2_with (refine wpList_store_row rfl 39 _ _ rfl w5.heap.size _ rfl rfl 39 (tab 32 fun _ => .int .u8 0) (Has.new' rfl) (info39 _) (by simp only [tab_size]) (tab_oneCell _ _ fun _ => rfl) ?_)
  generalize (w5.alloc _).setRow w5.heap.size _ = w6 at *
  have hv1 : ∀ m, (convert 38 9 (.slice (some ⟨w5.heap.size, 0, none⟩) 32 32)).run Try.prog (w6.drewN m) = .ok (.string (strB y)) (w6.drewN m) := fun m => conv_bytes y _ 0 32 _ fun j hj => by rw [Nat.zero_add]; exact hY.cellTab j hj
  have hv2 : ∀ m, (convert 38 9 (.slice (some ⟨b, o, none⟩) 32 c)).run Try.prog (w6.drewN m) = .ok (.string (strB y)) (w6.drewN m) := fun m => conv_bytes y b o c _ fun j hj => (World.cell?_of_block (hb0.block b hlb)).trans (hc j hj)
  go_quiet (fail)
  replace hA := hA.drewN nq
  replace hX := hX.drewN nq
  replace hb0 := below_drewN hb0 nq
  clear hsl
  clear hv1 hv2 hY
  generalize Go.World.drewN _ nq = w7 at *
  by_cases hi : i < 0 ∨ 256 ≤ i
  · have hbit := fun W => bit_out n i W hi
    by_cases h0 : i < 0
    · have hd : decide (i < 0) = true := by simp [h0]
      clear hi
      go_wp2_with (refine wpList_load_has 24 _ rfl _ rfl rfl 24 _ hA _ Try.underlying24 rfl (infoNum _) ?_)
      refine (hbit _).mono ?_
      rintro e w8 ⟨rfl, hx⟩
      have hfin := below_trans hb0 hx
      clear hbit hA hX hb0 hx
      go_wp2_with fail
      go_ret
      exact ⟨rfl, hfin⟩
    · have hd : decide (i < 0) = false := by simp; omega
      have hd2 : decide (255 < i) = true := by simp; omega
      clear hi
      go_wp2_with (refine wpList_load_has 24 _ rfl _ rfl rfl 24 _ hA _ Try.underlying24 rfl (infoNum _) ?_)
      refine (hbit _).mono ?_
      rintro e w8 ⟨rfl, hx⟩
      have hfin := below_trans hb0 hx
      clear hbit hA hX hb0 hx
      go_wp2_with fail
      go_ret
      exact ⟨rfl, hfin⟩
  · obtain ⟨k, rfl⟩ : ∃ k : Nat, i = (k : Int) := ⟨i.toNat, by omega⟩
    have hk : k < 256 := by omega
    have hbit := fun W => bit_any n k W hk
    have hd : decide ((k : Int) < 0) = false := by simp
    have hd2 : decide (255 < (k : Int)) = false := by simp; omega
    have e1 : (k : Int).tdiv 8 = ((k / 8 : Nat) : Int) := by rw [Int.tdiv_eq_ediv_of_nonneg (by omega)]; omega
    have e2 : (k : Int).tmod 8 = ((k % 8 : Nat) : Int) := by rw [Int.tmod_eq_emod_of_nonneg (by omega)]; omega
    have hbb : bits BinOp.and IntKind.u8 (((byB n (31 - k / 8) : Nat) : Int) / 2 ^ (k % 8)) 1 = ((bitN n k : Nat) : Int) := (bits_byte n k).resolve_right (by omega)
    clear hi
    go_wp2_with fail
    refine region_quiet_tail (Below w7.heap.size w7) 14 (by kernel_rfl) (by kernel_rfl) (below_drewN (Below.refl _ _) 1) ?_
    simp only [List.take_succ_cons, List.take_zero, List.drop_succ_cons, List.drop_zero]
    refine wpQ_has 24 _ rfl _ rfl rfl 24 _ (fun w' hC => hA.after hC) _ Try.underlying24 rfl (infoNum _) ?_
    refine wpQ_val rfl (.int .i64 (k : Int)) (fun _ _ => by go_simp) ?_
    refine wpQ_call 19 #[.agg (nums n), .int .i64 (k : Int)] rfl (fun _ => by go_simp) (.int .u32 ((bitN n k : Nat) : Int)) (fun w' hC => (hbit w').mono fun e w'' ⟨he, hb⟩ => ⟨he, below_class hC hb⟩) ?_
    refine wpQ_val rfl (.int .i64 (k : Int)) (fun _ _ => by go_simp) ?_
    refine wpQ_val rfl (.int .i64 ((k / 8 : Nat) : Int)) (fun _ _ => by go_simp; exact IntWalk.i64_in _ (by omega)) ?_
    refine wpQ_val rfl (.int .i64 ((31 - k / 8 : Nat) : Int)) (fun _ _ => by go_simp; rw [IntWalk.i64_in _ (by omega)]; omega) ?_
    refine wpQ_val rfl (.pointer (some ⟨w2.heap.size, 31 - k / 8, none⟩)) (fun _ _ => by go_simp; omega) ?_
    refine wpQ_val rfl (.int .u8 ((byB n (31 - k / 8) : Nat) : Int)) (fun w' hC => by have := (hX.after hC).cellTab (31 - k / 8) (by omega); unfold bytV at this; go_simp) ?_
    refine wpQ_val rfl (.int .i64 (k : Int)) (fun _ _ => by go_simp) ?_
    refine wpQ_val rfl (.int .i64 ((k % 8 : Nat) : Int)) (fun _ _ => by go_simp) ?_
    refine wpQ_val rfl (.int .u8 (((byB n (31 - k / 8) : Nat) : Int) / 2 ^ (k % 8))) (fun _ _ => by go_simp; rw [show ((k : Int) % 8).toNat = k % 8 by omega]) ?_
    refine wpQ_val rfl (.int .u8 ((bitN n k : Nat) : Int)) (fun _ _ => by go_simp) ?_
    refine wpQ_val rfl (.int .u32 ((bitN n k : Nat) : Int)) (fun _ _ => by go_simp; rw [IntKind.wrap_u32']; have : bitN n k < 2 := Nat.mod_lt _ (by decide); omega) ?_
    refine wpQ_val rfl (.bool true) (fun _ _ => by go_simp) ?_
    refine wpQuiet_nil ?_
    intro w8 hC
    have hfin := below_trans hb0 hC
    clear hbit hA hX hb0 hC e1 e2 hbb hd hd2
    go_wp2_with fail
    go_ret
    exact ⟨rfl, hfin⟩
set_option maxRecDepth 100000 in
set_option maxHeartbeats 2000000 in
theorem bytes_lawS (n : Nat) (A : Option Addr) (l c : Nat) (i : Int) (w : World) (hn : n < big) (hl : l ≠ 32) :
    Calls Try.prog 5 #[.agg (nums n), .slice A l c, .int .i64 i] w fun e w' => e = .returned (.bool true) ∧ Below w.heap.size w w' := by
  have nq := neq_same n
  have hl32 : ((l : Int) == 32) = false := beq_eq_false_iff_ne.2 (by omega)
  have hA : Has (w.alloc (.cells (nums n) 24)) w.heap.size 24 (nums n) := Has.new w _ _
  have hb0 : Below w.heap.size w (w.alloc (.cells (nums n) 24)) := (Below.refl _ _).alloc (Nat.le_refl _) _
  go_enter Try.func5, Try.ntmps5
  go_wp2_with fail
  refine (fit_any _).mono ?_
  rintro e w1 ⟨rfl, hx⟩
  replace hA := hA.after hx
  replace hb0 := below_trans hb0 hx
  clear hx
  go_wp2_with (refine wpList_load_has 24 _ rfl _ rfl rfl 24 _ hA _ Try.underlying24 rfl (infoNum _) ?_)
  refine (bytes_any n _).mono ?_
  rintro e w2 ⟨rfl, hx⟩
  have hN := put_new w2 39 (tab 32 fun _ => .int .u8 0) (tab 32 (bytV n))
  replace hA := (hA.after hx).after hN.2
  replace hb0 := below_trans (below_trans hb0 hx) hN.2
  have hX := hN.1
  have hsl := slice_all w2.heap.size
  clear hx hN
  go_wp2_with (refine wpList_store_row rfl 39 _ _ rfl w2.heap.size _ rfl rfl 39 (tab 32 fun _ => .int .u8 0) (Has.new' rfl) (info39 _) (by simp only [tab_size]) (tab_oneCell _ _ fun _ => rfl) ?_)
  refine (read_any n w2.heap.size 0 32 _ hn hX.lt (fun j hj => by rw [Nat.zero_add]; exact hX.cellTab j hj)).mono ?_
  rintro e w3 ⟨rfl, hx⟩
  have hN := put_new w3 24 (nums 0) (nums n)
  replace hA := (hA.after hx).after hN.2
  replace hX := (hX.after hx).after hN.2
  replace hb0 := below_trans (below_trans hb0 hx) hN.2
  have hM := hN.1
  clear hx hN hsl
  go_wp2_with (refine wpList_store_row rfl 24 _ _ rfl w3.heap.size _ rfl rfl 24 (nums 0) (Has.new' rfl) (infoNum _) (by simp only [nums_size]) (tab_oneCell _ _ fun _ => rfl) ?_)
  refine (read_short A l c _ hl).mono ?_
  rintro e w4 ⟨rfl, hx⟩
  have hN := put_new w4 24 (nums 0) (nums 0)
  replace hA := (hA.after hx).after hN.2
  replace hX := (hX.after hx).after hN.2
  replace hM := (hM.after hx).after hN.2
  replace hb0 := below_trans (below_trans hb0 hx) hN.2
  have hK := hN.1
  clear hx hN
  go_wp2_with (first | refine wpList_store_row rfl 24 _ _ rfl w4.heap.size _ rfl rfl 24 (nums 0) (Has.new' rfl) (infoNum _) (by simp only [nums_size]) (tab_oneCell _ _ fun _ => rfl) ?_ | refine wpList_load_has 24 _ rfl _ rfl rfl 24 _ hA _ Try.underlying24 rfl (infoNum _) ?_ | refine wpList_load_has 24 _ rfl _ rfl rfl 24 _ hM _ Try.underlying24 rfl (infoNum _) ?_ | refine wpList_load_has 24 _ rfl _ rfl rfl 24 _ hK _ Try.underlying24 rfl (infoNum _) ?_)
  refine (zero_any 0 _ big_pos).mono ?_
  rintro e wz ⟨rfl, hx⟩
  replace hA := hA.after hx
  replace hX := hX.after hx
  replace hK := hK.after hx
  replace hb0 := below_trans hb0 hx
  have hsm : sameN 0 0 = true := rfl
  clear hx hM nq
  go_wp2_with (refine wpList_load_has 24 _ rfl _ rfl rfl 24 _ hK _ Try.underlying24 rfl (infoNum _) ?_)
  refine (bytes_any 0 _).mono ?_
  rintro e w5 ⟨rfl, hx⟩
  have hN := put_new w5 39 (tab 32 fun _ => .int .u8 0) (tab 32 (bytV 0))
  replace hA := (hA.after hx).after hN.2
  replace hX := (hX.after hx).after hN.2
  replace hb0 := below_trans (below_trans hb0 hx) hN.2
  have hY := hN.1
  have hsl := slice_all w5.heap.size
  clear hx hN hK
  go_wp2_with (refine wpList_store_row rfl 39 _ _ rfl w5.heap.size _ rfl rfl 39 (tab 32 fun _ => .int .u8 0) (Has.new' rfl) (info39 _) (by simp only [tab_size]) (tab_oneCell _ _ fun _ => rfl) ?_)
  generalize (w5.alloc _).setRow w5.heap.size _ = w6 at *
  go_quiet (fail)
  replace hA := hA.drewN nq
  replace hX := hX.drewN nq
  replace hb0 := below_drewN hb0 nq
  clear hsl
  clear hY
  generalize Go.World.drewN _ nq = w7 at *
  by_cases hi : i < 0 ∨ 256 ≤ i
  · have hbit := fun W => bit_out n i W hi
    by_cases h0 : i < 0
    · have hd : decide (i < 0) = true := by simp [h0]
      clear hi
      go_wp2_with (refine wpList_load_has 24 _ rfl _ rfl rfl 24 _ hA _ Try.underlying24 rfl (infoNum _) ?_)
      refine (hbit _).mono ?_
      rintro e w8 ⟨rfl, hx⟩
      have hfin := below_trans hb0 hx
      clear hbit hA hX hb0 hx
      go_wp2_with fail
      go_ret
      exact ⟨rfl, hfin⟩
    · have hd : decide (i < 0) = false := by simp; omega
      have hd2 : decide (255 < i) = true := by simp; omega
      clear hi
      go_wp2_with (refine wpList_load_has 24 _ rfl _ rfl rfl 24 _ hA _ Try.underlying24 rfl (infoNum _) ?_)
      refine (hbit _).mono ?_
      rintro e w8 ⟨rfl, hx⟩
      have hfin := below_trans hb0 hx
      clear hbit hA hX hb0 hx
      go_wp2_with fail
      go_ret
      exact ⟨rfl, hfin⟩
  · obtain ⟨k, rfl⟩ : ∃ k : Nat, i = (k : Int) := ⟨i.toNat, by omega⟩
    have hk : k < 256 := by omega
    have hbit := fun W => bit_any n k W hk
    have hd : decide ((k : Int) < 0) = false := by simp
    have hd2 : decide (255 < (k : Int)) = false := by simp; omega
    have e1 : (k : Int).tdiv 8 = ((k / 8 : Nat) : Int) := by rw [Int.tdiv_eq_ediv_of_nonneg (by omega)]; omega
    have e2 : (k : Int).tmod 8 = ((k % 8 : Nat) : Int) := by rw [Int.tmod_eq_emod_of_nonneg (by omega)]; omega
    have hbb : bits BinOp.and IntKind.u8 (((byB n (31 - k / 8) : Nat) : Int) / 2 ^ (k % 8)) 1 = ((bitN n k : Nat) : Int) := (bits_byte n k).resolve_right (by omega)
    clear hi
    go_wp2_with fail
    refine region_quiet_tail (Below w7.heap.size w7) 14 (by kernel_rfl) (by kernel_rfl) (below_drewN (Below.refl _ _) 1) ?_
    simp only [List.take_succ_cons, List.take_zero, List.drop_succ_cons, List.drop_zero]
    refine wpQ_has 24 _ rfl _ rfl rfl 24 _ (fun w' hC => hA.after hC) _ Try.underlying24 rfl (infoNum _) ?_
    refine wpQ_val rfl (.int .i64 (k : Int)) (fun _ _ => by go_simp) ?_
    refine wpQ_call 19 #[.agg (nums n), .int .i64 (k : Int)] rfl (fun _ => by go_simp) (.int .u32 ((bitN n k : Nat) : Int)) (fun w' hC => (hbit w').mono fun e w'' ⟨he, hb⟩ => ⟨he, below_class hC hb⟩) ?_
    refine wpQ_val rfl (.int .i64 (k : Int)) (fun _ _ => by go_simp) ?_
    refine wpQ_val rfl (.int .i64 ((k / 8 : Nat) : Int)) (fun _ _ => by go_simp; exact IntWalk.i64_in _ (by omega)) ?_
    refine wpQ_val rfl (.int .i64 ((31 - k / 8 : Nat) : Int)) (fun _ _ => by go_simp; rw [IntWalk.i64_in _ (by omega)]; omega) ?_
    refine wpQ_val rfl (.pointer (some ⟨w2.heap.size, 31 - k / 8, none⟩)) (fun _ _ => by go_simp; omega) ?_
    refine wpQ_val rfl (.int .u8 ((byB n (31 - k / 8) : Nat) : Int)) (fun w' hC => by have := (hX.after hC).cellTab (31 - k / 8) (by omega); unfold bytV at this; go_simp) ?_
    refine wpQ_val rfl (.int .i64 (k : Int)) (fun _ _ => by go_simp) ?_
    refine wpQ_val rfl (.int .i64 ((k % 8 : Nat) : Int)) (fun _ _ => by go_simp) ?_
    refine wpQ_val rfl (.int .u8 (((byB n (31 - k / 8) : Nat) : Int) / 2 ^ (k % 8))) (fun _ _ => by go_simp; rw [show ((k : Int) % 8).toNat = k % 8 by omega]) ?_
    refine wpQ_val rfl (.int .u8 ((bitN n k : Nat) : Int)) (fun _ _ => by go_simp) ?_
    refine wpQ_val rfl (.int .u32 ((bitN n k : Nat) : Int)) (fun _ _ => by go_simp; rw [IntKind.wrap_u32']; have : bitN n k < 2 := Nat.mod_lt _ (by decide); omega) ?_
    refine wpQ_val rfl (.bool true) (fun _ _ => by go_simp) ?_
    refine wpQuiet_nil ?_
    intro w8 hC
    have hfin := below_trans hb0 hC
    clear hbit hA hX hb0 hC e1 e2 hbb hd hd2
    go_wp2_with fail
    go_ret
    exact ⟨rfl, hfin⟩
end Go.Proofs.Ytncjlglpocfeaaa
