/-
Layer 10, package place: Get, Put, Load, Store.
Layer 10, package place: Load and Store.
Layer 10: the reference's memory, a map by addresses: New, Has, Get, Put, Load, Store.
-/
import Derived.Test.YtgpofoggfifnjaaGreatDoorJAe
import Derived.Test.YtgpofoggfifnjaaGreatDoorJAc
import Derived.Maps.OwnSet
import Derived.Maps.RangeWalk
namespace Go.Proofs.YtgpofoggfifnjaaGreatDoor
open Go Go.RowKit

/-- n bytes of the memory from k on -/
def cut (m : Nat → UInt8) (k n : Nat) : List UInt8 := (List.range n).map fun j => m (k + j)
theorem cut_len (m : Nat → UInt8) (k n : Nat) : (cut m k n).length = n := by simp [cut]
theorem cut_get {m : Nat → UInt8} {k n j : Nat} (h : j < n) : (cut m k n).getD j 0 = m (k + j) := by simp [cut, List.getD_eq_getElem?_getD, h]
/-- bytes written into the memory from k on -/
def putM (m : Nat → UInt8) (k : Nat) (bs : List UInt8) (j : Nat) : UInt8 := if k ≤ j ∧ j < k + bs.length then bs.getD (j - k) 0 else m j
/-- the n bytes from a on lie in RAM -/
def inR (a n : Nat) : Bool := inB a n 2147483648 65536
def widB (n : Int) : Bool := decide (n = 1 ∨ n = 2 ∨ n = 4)
def offR (k : Nat) : Nat := if k = 65536 then 0 else k
theorem ram_slA {w : World} {g : Nat} {m : Nat → UInt8} {k n c : Nat} (hG : RamP w g m) (h : k + n ≤ 65536) (hc : n ≤ c) : SlA w (some ⟨g, offR k, none⟩) n c (cut m k n) := by
  refine ⟨cut_len _ _ _, hc, fun h0 => ⟨g, offR k, rfl, hG.lt, fun j hj => ?_⟩⟩
  obtain ⟨N, hN, hG⟩ := hG
  rw [show offR k = k from if_neg (by omega), hG.cellTab (k + j) (by omega), cut_get hj]
  rfl
theorem run_ram (g k : Nat) (hk : k ≤ 65536) (W : World) : (Instr.sliceAt 84 (.pointer (some ⟨g, 0, none⟩)) (some (.int .u32 (k : Int))) none none).run Tryz.prog W = .ok (.slice (some ⟨g, offR k, none⟩) (65536 - k) (65536 - k)) W := by
  have h1 : (k : Int) ≤ 65536 := by omega
  unfold offR
  by_cases hkc : k = 65536
  · subst hkc
    go_simp
  · rw [if_neg hkc]
    have h2 := Addr.add_mid g 0 k
    rw [Nat.zero_add] at h2
    go_simp
    exact fun h => absurd h.symm hkc
theorem run_frontU (A : Option Addr) (n c : Nat) (k : Nat) (hk : k ≤ c) (W : World) : (Instr.sliceAt 53 (.slice A n c) none (some (.int .u32 (k : Int))) none).run Tryz.prog W = .ok (.slice A k c) W := by
  have h1 : (k : Int) ≤ (c : Int) := by omega
  cases A with
  | none => go_simp
  | some ad => go_simp
theorem run_frontI (A : Option Addr) (n c : Nat) (k : Nat) (hk : k ≤ c) (W : World) : (Instr.sliceAt 53 (.slice A n c) none (some (.int .i64 (k : Int))) none).run Tryz.prog W = .ok (.slice A k c) W := by
  have h1 : (k : Int) ≤ (c : Int) := by omega
  cases A with
  | none => go_simp
  | some ad => go_simp
theorem slA_front {w : World} {A : Option Addr} {n c k : Nat} {bs : List UInt8} (h : SlA w A n c bs) (hk : k ≤ n) : SlA w A k c (bs.take k) := by
  obtain ⟨h1, h2, h3⟩ := h
  refine ⟨by rw [List.length_take]; omega, by omega, fun h0 => ?_⟩
  obtain ⟨b, o, e, hlt, hc⟩ := h3 (by omega)
  refine ⟨b, o, e, hlt, fun j hj => ?_⟩
  rw [hc j (by omega)]
  simp [List.getD_eq_getElem?_getD, hj]
set_option maxRecDepth 100000 in
set_option maxHeartbeats 1000000 in
theorem get_any (m : Nat → UInt8) (g a n : Nat) (w : World) (hG : RamP w g m) (ha : a < 4294967296) (hn : n < 4294967296) (hin : inR a n = true) :
    Calls Tryz.prog 12 #[mP g, .int .u32 (a : Int), .int .u32 (n : Int)] w fun e w' => (∃ v, e = .returned (.tuple #[v, .int .i64 0]) ∧ w'.ownsRow w.heap.size 5 1 v n ((cut m (a - 2147483648) n).map by8)) ∧ Below w.heap.size w w' := by
  have kH := fun w => has_any g a n w ha hn
  have h1 := of_decide_eq_true hin
  unfold inR at hin
  simp only [hin] at kH
  obtain ⟨k, hk⟩ : ∃ k, k = a - 2147483648 := ⟨_, rfl⟩
  have d1 : 2147483648 ≤ (a : Int) := by omega
  have hke : (a : Int) - 2147483648 = (k : Int) := by omega
  have r1 := fun W => run_ram g k (by omega) W
  have r2 := fun W => run_frontU (some ⟨g, offR k, none⟩) (65536 - k) (65536 - k) n (by omega) W
  have hS := ram_slA (k := k) (n := n) (c := 65536 - k) hG (by omega) (by omega)
  rw [← hk]
  have hn6 : 0 + n ≤ 1000000 := by omega
  have HS := Lib.hid hS
  generalize 65536 - k = c at *
  generalize offR k = o at *
  clear hk h1 hin hS hG
  go_enter Tryz.func12, Tryz.ntmps12
  go_wp2_with (first
    | (refine (kH _).mono ?_; rintro e w' ⟨rfl, rfl⟩)
    | (refine wp_append_bytes rfl _ _ rfl w.heap.size _ 0 [] rfl (World.ownsRow_nil _ _ _ _) _ n c rfl (cut m k n) HS.out (fun h => by cases h) hn6 (Nat.le_refl _) ?_
       intro v' w1 hown hgr))
  go_ret2
  rw [Nat.zero_add, List.nil_append] at hown
  exact ⟨⟨v', rfl, hown⟩, grown_none hgr⟩
theorem copy_cells (m : Nat → UInt8) (N k n : Nat) (bs : List UInt8) (hl : bs.length = n) :
    (tab N fun j => if k ≤ j ∧ j < k + n then by8 (bs.getD (j - k) 0) else memV m j) = tab N (memV (putM m k bs)) := by
  refine tab_ext _ _ _ fun j _ => ?_
  unfold memV putM
  rw [hl]
  split <;> rfl
/-- copy into the memory -/
theorem wp_copy_ram {w : World} {ops : Array Oper} {rest : List Oper} {op : Oper} {a : Act} {Q : Exit → Act → World → Prop} (hgd : op.guard = none) (d s : Operand)
    (ho : op.op = .call { callee := .builtin .copy, args := #[d, s], argTypes := #[53, 53] }) (g k : Nat) (c : Nat) (hd : a.eval d = .slice (some ⟨g, offR k, none⟩) c c) (hc : c = 65536 - k)
    (A : Option Addr) (n sc : Nat) (hs : a.eval s = .slice A n sc) (bs : List UInt8) (hS : SlA w A n sc bs) (m : Nat → UInt8) (hG : RamP w g m) (hfit : k + n ≤ 65536)
    (h : ∀ x w', RamP w' g (putM m k bs) → w.grownBy w' (some g) → wpList Tryz.prog ops Q rest (a.put op.dst x) w') : wpList Tryz.prog ops Q (op :: rest) a w := by
  obtain ⟨N, hN, hG⟩ := hG
  have hl := hS.1
  by_cases h0 : n = 0
  · subst h0
    have hrun := run_copy_none (P := Tryz.prog) w 53 53 op.type 5 (some ⟨g, offR k, none⟩) A c c 0 sc Tryz.underlying53 (by kernel_rfl) (by simp)
    refine wpList_plain hgd fun K hK => ?_
    unfold Oper.wp
    simp [execOp, ho, resolve, invoke, builtin, hd, hs, hrun, Result.andThen]
    refine hK _ _ (h _ _ ⟨N, hN, ?_⟩ (World.grownBy.refl w _))
    rw [tab_ext N (memV (putM m k bs)) (memV m) fun j _ => by unfold memV putM; rw [hl, if_neg (by omega)]]
    exact hG
  · obtain ⟨b, o, rfl, _, hcell⟩ := hS.2.2 (by omega)
    refine wp_copy_tab hgd d s 53 53 ho 5 Tryz.underlying53 (by kernel_rfl) g (offR k) c c b o n sc hd hs N (memV m) 86 hG n (by simp only [Nat.min_def]; split <;> omega) (fun j => by8 (bs.getD j 0)) hcell (by rw [show offR k = k from if_neg (by omega)]; omega) (fun _ => rfl) ?_
    intro w' hG' hgr
    refine h _ _ ⟨N, hN, ?_⟩ hgr
    rw [show offR k = k from if_neg (by omega)] at hG'
    rw [copy_cells m N k n bs hl] at hG'
    exact hG'
set_option maxRecDepth 100000 in
set_option maxHeartbeats 1000000 in
theorem pput_any' (m : Nat → UInt8) (g a : Nat) (A : Option Addr) (n c : Nat) (bs : List UInt8) (w : World) (hG : RamP w g m) (ha : a < 4294967296) (hS : SlA w A n c bs) (hin : inR a n = true) :
    Calls Tryz.prog 41 #[mP g, .int .u32 (a : Int), .slice A n c] w fun e w' => e = .returned (.int .i64 0) ∧ RamP w' g (putM m (a - 2147483648) bs) ∧ w.grownBy w' (some g) := by
  have h1 := of_decide_eq_true hin
  have kH := fun w => has_any g a n w ha (by omega)
  unfold inR at hin
  simp only [hin] at kH
  obtain ⟨k, hk⟩ : ∃ k, k = a - 2147483648 := ⟨_, rfl⟩
  have d1 : 2147483648 ≤ (a : Int) := by omega
  have d2 : (n : Int) ≤ 65536 := by omega
  have hke : (a : Int) - 2147483648 = (k : Int) := by omega
  have r1 := fun W => run_ram g k (by omega) W
  have hfit : k + n ≤ 65536 := by omega
  rw [← hk]
  have HS := Lib.hid hS
  have HG := Lib.hid hG
  obtain ⟨cc, hcc⟩ : ∃ cc, cc = 65536 - k := ⟨_, rfl⟩
  rw [← hcc] at r1
  have HC := Lib.hid hcc
  clear hk h1 hin hS hG hcc
  go_enter Tryz.func41, Tryz.ntmps41
  go_wp2_with (first
    | (refine (kH _).mono ?_; rintro e w' ⟨rfl, rfl⟩)
    | (refine wp_copy_ram rfl _ _ rfl g k cc rfl HC.out A n c rfl bs HS.out m HG.out hfit ?_
       intro x w1 hG1 hgr))
  go_ret
  exact ⟨rfl, hG1, hgr⟩
set_option maxRecDepth 100000 in
set_option maxHeartbeats 1000000 in
theorem put_far (g a : Nat) (A : Option Addr) (n c : Nat) (w : World) (ha : a < 4294967296) (hin : inR a n = false) :
    Calls Tryz.prog 41 #[mP g, .int .u32 (a : Int), .slice A n c] w fun e w' => e = .returned (.int .i64 18) ∧ w = w' := by
  by_cases h6 : n ≤ 65536
  · have kH := fun w => has_any g a n w ha (by omega)
    unfold inR at hin
    simp only [hin] at kH
    have d2 : (n : Int) ≤ 65536 := by omega
    go_enter Tryz.func41, Tryz.ntmps41
    go_wp2_with (refine (kH _).mono ?_; rintro e w' ⟨rfl, rfl⟩)
    go_ret
    exact ⟨rfl, rfl⟩
  · have d2 : 65536 < (n : Int) := by omega
    go_enter Tryz.func41, Tryz.ntmps41
    go_wp2_with fail
    go_ret
    exact ⟨rfl, rfl⟩
set_option maxRecDepth 100000 in
set_option maxHeartbeats 1000000 in
theorem wid_any (n : Int) (w : World) :
    Calls Tryz.prog 40 #[.int .i64 n] w fun e w' => e = .returned (.bool (widB n)) ∧ w = w' := by
  by_cases h1 : n = 1
  · subst h1
    go_enter Tryz.func40, Tryz.ntmps40
    go_wp2_with fail
    go_ret
    exact ⟨rfl, rfl⟩
  by_cases h2 : n = 2
  · subst h2
    go_enter Tryz.func40, Tryz.ntmps40
    go_wp2_with fail
    go_ret
    exact ⟨rfl, rfl⟩
  by_cases h4 : n = 4
  · subst h4
    go_enter Tryz.func40, Tryz.ntmps40
    go_wp2_with fail
    go_ret
    exact ⟨rfl, rfl⟩
  have d1 : (n == 1) = false := by simpa using h1
  have d2 : (n == 2) = false := by simpa using h2
  have d4 : (n == 4) = false := by simpa using h4
  have hr : widB n = false := decide_eq_false (by omega)
  rw [hr]
  clear h1 h2 h4 hr
  go_enter Tryz.func40, Tryz.ntmps40
  go_wp2_with fail
  go_ret
  exact ⟨rfl, rfl⟩
end Go.Proofs.YtgpofoggfifnjaaGreatDoor
namespace Go.Proofs.YtgpofoggfifnjaaGreatDoor
open Go Go.RowKit

/-- the little-endian number of the n bytes of the memory from k on -/
def ldN (m : Nat → UInt8) (n k : Nat) : Nat := leT (fun j => (m j).toNat) n k
theorem ldN_lt (m : Nat → UInt8) (n k : Nat) : ldN m n k < 256 ^ n := leT_lt (fun j => (m j).toNat_lt) n k
theorem leT_congr {f g : Nat → Nat} : ∀ (n i j : Nat), (∀ x, x < n → f (i + x) = g (j + x)) → leT f n i = leT g n j
  | 0, _, _, _ => rfl
  | n + 1, i, j, h => by
    show f i + 256 * leT f n (i + 1) = g j + 256 * leT g n (j + 1)
    rw [leT_congr n (i + 1) (j + 1) fun x hx => by have := h (x + 1) (by omega); rwa [show i + 1 + x = i + (x + 1) by omega, show j + 1 + x = j + (x + 1) by omega]]
    have := h 0 (by omega)
    rw [Nat.add_zero, Nat.add_zero] at this
    rw [this]
theorem nm_cut (m : Nat → UInt8) (k n : Nat) : nm (cut m k n) n 0 = ldN m n k := by
  unfold nm ldN
  rw [if_pos (by rw [cut_len]; omega)]
  refine leT_congr n 0 k fun x hx => ?_
  show ((cut m k n).getD (0 + x) 0).toNat = _
  rw [Nat.zero_add, cut_get hx]
set_option maxRecDepth 100000 in
set_option maxHeartbeats 1000000 in
theorem load_any (m : Nat → UInt8) (g a n : Nat) (w : World) (hG : RamP w g m) (ha : a < 4294967296) (hn : n = 1 ∨ n = 2 ∨ n = 4) (hin : inR a n = true) :
    Calls Tryz.prog 53 #[mP g, .int .u32 (a : Int), .int .i64 (n : Int)] w fun e w' => e = .returned (.tuple #[.int .u32 ((ldN m n (a - 2147483648) : Nat) : Int), .int .i64 0]) ∧ Below w.heap.size w w' := by
  have kW := fun w => wid_any (n : Int) w
  rw [show widB (n : Int) = true from decide_eq_true (by omega)] at kW
  have kH := fun w => has_any g a n w ha (by omega)
  have h1 := of_decide_eq_true hin
  unfold inR at hin
  simp only [hin] at kH
  obtain ⟨k, hk⟩ : ∃ k, k = a - 2147483648 := ⟨_, rfl⟩
  have d1 : 2147483648 ≤ (a : Int) := by omega
  have hke : (a : Int) - 2147483648 = (k : Int) := by omega
  have r1 := fun W => run_ram g k (by omega) W
  have r2 := fun W => run_frontI (some ⟨g, offR k, none⟩) (65536 - k) (65536 - k) n (by omega) W
  have hS := ram_slA (k := k) (n := n) (c := 65536 - k) hG (by omega) (by omega)
  rw [← hk]
  have kAd := cu_at (bs := cut m k n) (w := w) (some ⟨g, offR k, none⟩) n (65536 - k) hS (fun h => by cases h) (by rw [cut_len]; omega)
  have HX := Lib.hid (nm_cut m k n)
  have hnm : nm (cut m k n) n 0 < 256 ^ n := nm_lt _ _ _
  have hnc : n ≤ 65536 - k := by omega
  generalize 65536 - k = c at *
  generalize offR k = o at *
  clear hk h1 hin hS hG
  rcases hn with rfl | rfl | rfl
  · have d2 : (1 : Int) ≤ (c : Int) := by omega
    have d3 : nm (cut m k 1) 1 0 < 4294967296 := by omega
    go_enter Tryz.func53, Tryz.ntmps53
    go_wp2_with (first
      | (refine (kW _).mono ?_; rintro e w' ⟨rfl, rfl⟩)
      | (refine (kH _).mono ?_; rintro e w' ⟨rfl, rfl⟩)
      | (refine kAd.mono ?_; rintro e w1 ⟨⟨gc, rfl, hC⟩, hb1⟩)
      | (refine hC.u8.mono ?_; rintro e w2 ⟨rfl, hC2, hgr⟩))
    go_ret2
    have hgl := hC.gB.1
    refine ⟨?_, below_only hb1 hgr hgl hb1.size⟩
    rw [← HX.out]
    rfl
  · have d2 : (2 : Int) ≤ (c : Int) := by omega
    have d3 : nm (cut m k 2) 2 0 < 4294967296 := by omega
    go_enter Tryz.func53, Tryz.ntmps53
    go_wp2_with (first
      | (refine (kW _).mono ?_; rintro e w' ⟨rfl, rfl⟩)
      | (refine (kH _).mono ?_; rintro e w' ⟨rfl, rfl⟩)
      | (refine kAd.mono ?_; rintro e w1 ⟨⟨gc, rfl, hC⟩, hb1⟩)
      | (refine hC.u16.mono ?_; rintro e w2 ⟨rfl, hC2, hgr⟩))
    go_ret2
    have hgl := hC.gB.1
    refine ⟨?_, below_only hb1 hgr hgl hb1.size⟩
    rw [← HX.out]
    rfl
  · have d2 : (4 : Int) ≤ (c : Int) := by omega
    have d3 : nm (cut m k 4) 4 0 < 4294967296 := by omega
    go_enter Tryz.func53, Tryz.ntmps53
    go_wp2_with (first
      | (refine (kW _).mono ?_; rintro e w' ⟨rfl, rfl⟩)
      | (refine (kH _).mono ?_; rintro e w' ⟨rfl, rfl⟩)
      | (refine kAd.mono ?_; rintro e w1 ⟨⟨gc, rfl, hC⟩, hb1⟩)
      | (refine hC.u32.mono ?_; rintro e w2 ⟨rfl, hC2, hgr⟩))
    go_ret2
    have hgl := hC.gB.1
    refine ⟨?_, below_only hb1 hgr hgl hb1.size⟩
    rw [← HX.out]
    rfl
set_option maxRecDepth 100000 in
set_option maxHeartbeats 1000000 in
theorem load_wid (v : Value) (a : Nat) (n : Int) (w : World) (hn : widB n = false) :
    Calls Tryz.prog 53 #[v, .int .u32 (a : Int), .int .i64 n] w fun e w' => e = .returned (.tuple #[.int .u32 0, .int .i64 18]) ∧ w = w' := by
  have kW := fun w => wid_any n w
  simp only [hn] at kW
  go_enter Tryz.func53, Tryz.ntmps53
  go_wp2_with (refine (kW _).mono ?_; rintro e w' ⟨rfl, rfl⟩)
  go_ret2
  exact ⟨rfl, rfl⟩
set_option maxRecDepth 100000 in
set_option maxHeartbeats 1000000 in
theorem load_far (v : Value) (a n : Nat) (w : World) (hn : widB (n : Int) = true) (kH : ∀ w, Calls Tryz.prog 14 #[v, .int .u32 (a : Int), .int .u32 (n : Int)] w fun e w' => e = .returned (.bool false) ∧ w = w') :
    Calls Tryz.prog 53 #[v, .int .u32 (a : Int), .int .i64 (n : Int)] w fun e w' => e = .returned (.tuple #[.int .u32 0, .int .i64 18]) ∧ w = w' := by
  have kW := fun w => wid_any n w
  have h4 := of_decide_eq_true hn
  have h5 : n ≤ 4 := by omega
  simp only [hn] at kW
  clear h4 hn
  go_enter Tryz.func53, Tryz.ntmps53
  go_wp2_with (first
    | (refine (kW _).mono ?_; rintro e w' ⟨rfl, rfl⟩)
    | (refine (kH _).mono ?_; rintro e w' ⟨rfl, rfl⟩))
  go_ret2
  exact ⟨rfl, rfl⟩
theorem leB_take (k n x : Nat) (h : k ≤ n) : (leB n x).take k = leB k x := by
  unfold leB
  rw [← List.map_take, List.take_range, Nat.min_eq_left h]
set_option maxRecDepth 100000 in
set_option maxHeartbeats 1000000 in
/-- Store by what Put answers -/
theorem store_by (v : Value) (a n x : Nat) (w : World) (hn : widB (n : Int) = true) (hx : x < 4294967296) (z : Nat) (Q : World → World → Prop)
    (kP : ∀ (A : Option Addr) (c : Nat) (w1 : World), Below w.heap.size w w1 → SlA w1 A n c (leB n x) → Calls Tryz.prog 41 #[v, .int .u32 (a : Int), .slice A n c] w1 fun e w' => e = .returned (.int .i64 (z : Int)) ∧ Q w1 w') :
    Calls Tryz.prog 20 #[v, .int .u32 (a : Int), .int .i64 (n : Int), .int .u32 (x : Int)] w fun e w' => e = .returned (.int .i64 (z : Int)) ∧ ∃ w1, Below w.heap.size w w1 ∧ Q w1 w' := by
  have kW := fun w => wid_any n w
  have h4 := of_decide_eq_true hn
  simp only [hn] at kW
  have h5 : n ≤ 4 := by omega
  clear h4 hn
  go_enter Tryz.func20, Tryz.ntmps20
  go_upto_region 3 with (refine (kW _).mono ?_; rintro e w' ⟨rfl, rfl⟩)
  go_wp2_with fail
  refine (p32_any [] x (.slice none 0 0) 0 w w.heap.size hx (World.ownsRow_nil _ _ _ _) (Nat.le_refl _) (by omega)).mono ?_
  rintro e w1 ⟨⟨v1, rfl, hown⟩, hb1, _⟩
  rw [List.nil_append, Nat.zero_add] at hown
  obtain ⟨A, c, rfl⟩ := own_form hown
  obtain ⟨hS, _⟩ := own_slA hown
  have hc := hS.2.1
  have r1 := fun W => run_frontI A 4 c n (by omega) W
  have hS2 := slA_front hS h5
  rw [leB_take n 4 x h5] at hS2
  have kP1 := kP A c w1 hb1 hS2
  have HB := Lib.hid hb1
  clear hown hS hS2 hc hb1 kP
  go_wp2_with (refine kP1.mono ?_; rintro e w2 ⟨rfl, hQ⟩)
  go_ret
  exact ⟨rfl, w1, HB.out, hQ⟩
set_option maxRecDepth 100000 in
set_option maxHeartbeats 1000000 in
theorem store_wid (v : Value) (a x : Nat) (n : Int) (w : World) (hn : widB n = false) :
    Calls Tryz.prog 20 #[v, .int .u32 (a : Int), .int .i64 n, .int .u32 (x : Int)] w fun e w' => e = .returned (.int .i64 18) ∧ w = w' := by
  have kW := fun w => wid_any n w
  simp only [hn] at kW
  go_enter Tryz.func20, Tryz.ntmps20
  go_wp2_with (refine (kW _).mono ?_; rintro e w' ⟨rfl, rfl⟩)
  go_ret
  exact ⟨rfl, rfl⟩
/-- what a Store answers, and what is in memory afterwards -/
def stB (a : Nat) (n : Int) : Bool := widB n && inR a n.toNat
def stM (m : Nat → UInt8) (a : Nat) (n : Int) (x : Nat) : Nat → UInt8 := if stB a n = true then putM m (a - 2147483648) (leB n.toNat x) else m
def erI (b : Bool) : Int := if b = true then 0 else 18
theorem wid_nat {n : Int} (h : widB n = true) : ∃ k : Nat, n = (k : Int) ∧ (k = 1 ∨ k = 2 ∨ k = 4) := by
  have h1 := of_decide_eq_true h
  exact ⟨n.toNat, by omega, by omega⟩
theorem store_any (m : Nat → UInt8) (g a x : Nat) (n : Int) (w : World) (hG : RamP w g m) (ha : a < 4294967296) (hx : x < 4294967296) :
    Calls Tryz.prog 20 #[mP g, .int .u32 (a : Int), .int .i64 n, .int .u32 (x : Int)] w fun e w' => e = .returned (.int .i64 (erI (stB a n))) ∧ RamP w' g (stM m a n x) ∧ w.grownBy w' (some g) := by
  unfold stM
  cases hw : widB n with
  | false =>
    rw [show stB a n = false by unfold stB; rw [hw]; rfl]
    refine (store_wid _ a x n w hw).mono ?_
    rintro e w' ⟨rfl, rfl⟩
    exact ⟨rfl, hG, World.grownBy.refl _ _⟩
  | true =>
    obtain ⟨k, rfl, hk⟩ := wid_nat hw
    cases hi : inR a k with
    | false =>
      rw [show stB a (k : Int) = false by unfold stB; rw [hw, Int.toNat_natCast, hi]; rfl]
      refine (store_by (mP g) a k x w hw hx 18 (fun w1 w' => w1 = w') fun A c w1 hb hS => put_far g a A k c w1 ha hi).mono ?_
      rintro e w' ⟨rfl, w1, hb, rfl⟩
      exact ⟨rfl, hG.after hb, only_below hb _⟩
    | true =>
      rw [show stB a (k : Int) = true by unfold stB; rw [hw, Int.toNat_natCast, hi]; rfl, if_pos rfl, Int.toNat_natCast]
      refine (store_by (mP g) a k x w hw hx 0 (fun w1 w' => RamP w' g (putM m (a - 2147483648) (leB k x)) ∧ w1.grownBy w' (some g)) fun A c w1 hb hS => pput_any' m g a A k c (leB k x) w1 (hG.after hb) ha hS hi).mono ?_
      rintro e w' ⟨rfl, w1, hb, hR, hgr⟩
      exact ⟨rfl, hR, only_trans (only_below hb _) hgr⟩
/-- what Load answers -/
def ldV (m : Nat → UInt8) (a : Nat) (n : Int) : Nat := if stB a n = true then ldN m n.toNat (a - 2147483648) else 0
theorem mload_any (m : Nat → UInt8) (g a : Nat) (n : Int) (w : World) (hG : RamP w g m) (ha : a < 4294967296) :
    Calls Tryz.prog 53 #[mP g, .int .u32 (a : Int), .int .i64 n] w fun e w' => e = .returned (.tuple #[.int .u32 ((ldV m a n : Nat) : Int), .int .i64 (erI (stB a n))]) ∧ Below w.heap.size w w' := by
  unfold ldV
  cases hw : widB n with
  | false =>
    rw [show stB a n = false by unfold stB; rw [hw]; rfl]
    refine (load_wid _ a n w hw).mono ?_
    rintro e w' ⟨rfl, rfl⟩
    exact ⟨rfl, Below.refl _ _⟩
  | true =>
    obtain ⟨k, rfl, hk⟩ := wid_nat hw
    cases hi : inR a k with
    | false =>
      rw [show stB a (k : Int) = false by unfold stB; rw [hw, Int.toNat_natCast, hi]; rfl]
      refine (load_far (mP g) a k w hw fun w => ?_).mono ?_
      · have := has_any g a k w ha (by omega)
        unfold inR at hi
        rwa [hi] at this
      · rintro e w' ⟨rfl, rfl⟩
        exact ⟨rfl, Below.refl _ _⟩
    | true =>
      rw [show stB a (k : Int) = true by unfold stB; rw [hw, Int.toNat_natCast, hi]; rfl, if_pos rfl, Int.toNat_natCast]
      exact load_any m g a k w hG ha hk hi
end Go.Proofs.YtgpofoggfifnjaaGreatDoor
namespace Go.Proofs.YtgpofoggfifnjaaGreatDoor
open Go Go.RowKit
open Go.Maps (Keyed)

theorem keyI : Keyed Tryz.prog 3 := Maps.int_keyed Tryz.underlying3
theorem zeroY (w : World) : (zeroValue 5).run Tryz.prog w = .ok (.int .u8 0) w := by kernel_rfl
theorem wfI {t : Nat} (h : t < 4294967296) : (Lit.int .i64 (t : Int)).wf = true := by
  have h1 : IntKind.i64.min ≤ (t : Int) := by rw [show IntKind.i64.min = -9223372036854775808 from rfl]; omega
  have h2 : (t : Int) ≤ IntKind.i64.max := by rw [show IntKind.i64.max = 9223372036854775807 from rfl]; omega
  show (decide (IntKind.i64.min ≤ (t : Int)) && decide ((t : Int) ≤ IntKind.i64.max)) = true
  rw [decide_eq_true h1, decide_eq_true h2]
  rfl
theorem wfY (b : UInt8) : (Lit.int .u8 (b.toNat : Int)).wf = true := by
  have h0 := b.toNat_lt
  have h1 : IntKind.u8.min ≤ (b.toNat : Int) := by rw [show IntKind.u8.min = 0 from rfl]; omega
  have h2 : (b.toNat : Int) ≤ IntKind.u8.max := by rw [show IntKind.u8.max = 255 from rfl]; omega
  show (decide (IntKind.u8.min ≤ (b.toNat : Int)) && decide ((b.toNat : Int) ≤ IntKind.u8.max)) = true
  rw [decide_eq_true h1, decide_eq_true h2]
  rfl
theorem keyAtI {t : Nat} (h : t < 4294967296) : keyOf Tryz.prog 3 (.int .i64 (t : Int)) = some (.int .i64 (t : Int)) := Maps.keyOf_int_mk Tryz.underlying3 (wfI h)
abbrev kAd (x : Nat) : Lit := .int .i64 (x : Int)
abbrev ylit (b : UInt8) : DataW Unit := .lit (.int .u8 (b.toNat : Int))
/-- an address of RAM -/
def isA (x : Nat) : Prop := 2147483648 ≤ x ∧ x < 2147549184
/-- what the map says of the memory m -/
structure MapD (D : DataW Unit) (m : Nat → UInt8) : Prop where
  keys : ∀ k, Maps.has D k = true → ∃ x, isA x ∧ k = kAd x
  vals : ∀ x, isA x → D.atKey (kAd x) (ylit 0) = ylit (m (x - 2147483648))
/-- the map in block g has the bytes m, with at most c entries -/
def MpM (w : World) (g : Nat) (m : Nat → UInt8) (c : Nat) : Prop :=
  ∃ n, ∃ D : DataW Unit, w.ownsMap Tryz.prog 3 (plainElem Tryz.prog 5) g n D ∧ n ≤ c ∧ MapD D m
section
variable {w w' : World} {g c : Nat} {m : Nat → UInt8}
theorem MpM.lt (h : MpM w g m c) : g < w.heap.size := by obtain ⟨n, D, h1, _⟩ := h; exact h1.lt
theorem MpM.kept {r : Option Nat} (h : MpM w g m c) (k : w.grownBy w' r) (hne : some g ≠ r) : MpM w' g m c := by
  obtain ⟨n, D, h1, h2, h3⟩ := h
  exact ⟨n, D, h1.kept k hne, h2, h3⟩
theorem MpM.after (h : MpM w g m c) (k : Below w.heap.size w w') : MpM w' g m c := h.kept (only_below k none) (by simp)
theorem MpM.has_ne {t : TypeId} {cs : Array Value} {g' : Nat} (h : MpM w g m c) (hG : Has w g' t cs) : g ≠ g' := by
  rintro rfl
  obtain ⟨n, D, ⟨es, cl, hb, _⟩, _⟩ := h
  rw [show w.heap[g]? = _ from hG] at hb
  cases hb
theorem MpM.more {c' : Nat} (h : MpM w g m c) (hc : c ≤ c') : MpM w g m c' := by
  obtain ⟨n, D, h1, h2, h3⟩ := h
  exact ⟨n, D, h1, Nat.le_trans h2 hc, h3⟩
theorem MpM.new (w : World) : MpM (w.alloc (.map #[] 0)) w.heap.size mem0 0 :=
  ⟨0, .map [], World.ownsMap_made _ _ _ _, Nat.le_refl _, fun _ h => (by cases h), fun _ _ => rfl⟩
set_option maxRecDepth 100000 in
theorem MpM.look (h : MpM w g m c) {t : Nat} (ht : isA t) : (Instr.lookup 99 (.map (some g)) (.int .i64 (t : Int)) false).run Tryz.prog w = .ok (by8 (m (t - 2147483648))) w := by
  obtain ⟨n, D, h1, h2, h3⟩ := h
  obtain ⟨v, hr, hv, _⟩ := h1.lookup_int keyI Tryz.underlying99 Tryz.underlying5 (zeroY w) (keyAtI (t := t) (by have := ht.2; omega))
  have h4 := h3.vals t ht
  unfold kAd ylit at h4
  rw [show ((0 : UInt8).toNat : Int) = 0 from rfl] at h4
  rw [h4] at hv
  injection hv with hv
  injection hv with _ hv
  rw [hr, ← hv]
  rfl
/-- one byte is written -/
def setY (m : Nat → UInt8) (k : Nat) (b : UInt8) (j : Nat) : UInt8 := if j = k then b else m j
/-- a byte is put into the map -/
theorem wp_mapset {ops : Array Oper} {rest : List Oper} {op : Oper} {a : Act} {Q : Exit → Act → World → Prop} (hgd : op.guard = none) (mo x v : Operand) (ho : op.op = .mapUpdate 99 mo x v)
    (hm : a.eval mo = .map (some g)) (h : MpM w g m c) (t : Nat) (y : UInt8) (hx : a.eval x = .int .i64 (t : Int)) (hv : a.eval v = by8 y) (ht : isA t) (hl : c ≤ 1000000)
    (hK : ∀ w', MpM w' g (setY m (t - 2147483648) y) (c + 1) → w.grownBy w' (some g) → wpList Tryz.prog ops Q rest (a.put op.dst undef) w') : wpList Tryz.prog ops Q (op :: rest) a w := by
  obtain ⟨n, D, h1, h2, h3⟩ := h
  have ht32 : t < 4294967296 := by have := ht.2; omega
  refine wpList_mapUpdate_own _ hgd mo x v 99 ho 3 5 keyI Tryz.underlying99 (plainElem Tryz.prog 5) g n D hm h1 (by unfold maxLen; omega) _ _ (.int .i64 (t : Int)) hx hv (keyAtI ht32) (ylit y) [] (plainElem_int Tryz.underlying5 (wfY y)) ?_
  intro w' h1' hgr
  have hD := h1.isMap
  refine hK w' ⟨n + 1, _, h1', Nat.succ_le_succ h2, fun k hk => ?_, fun s hs => ?_⟩ hgr
  · by_cases hkt : k = kAd t
    · exact ⟨t, ht, hkt⟩
    · rw [Maps.has_put_other hkt] at hk
      exact h3.keys k hk
  · unfold setY
    by_cases hst : s = t
    · subst hst
      rw [if_pos rfl]
      exact Maps.atKey_put_same hD (keyI.key (keyAtI ht32)) _ _
    · have hne : kAd s ≠ kAd t := fun e => by injection e with _ e; omega
      rw [if_neg (by have := hs.1; have := ht.1; omega)]
      exact (Maps.atKey_put_other hne _ _).trans (h3.vals s hs)
end
/-- the reference's memory: a block with the map -/
def RefP (w : World) (r mb : Nat) (m : Nat → UInt8) (c : Nat) : Prop := Has w r 101 #[.map (some mb)] ∧ MpM w mb m c
section
variable {w w' : World} {r mb c : Nat} {m : Nat → UInt8}
theorem RefP.after (h : RefP w r mb m c) (k : Below w.heap.size w w') : RefP w' r mb m c := ⟨h.1.after k, h.2.after k⟩
theorem RefP.beside {g : Nat} {m' : Nat → UInt8} (h : RefP w r mb m c) (hG : RamP w g m') (k : w.grownBy w' (some g)) : RefP w' r mb m c := by
  obtain ⟨N, _, hG⟩ := hG
  refine ⟨has_grown h.1 k fun l e => ?_, h.2.kept k fun e => ?_⟩
  · injection e with e
    subst e
    rintro rfl
    have e := h.1.symm.trans hG
    injection e with e
    injection e with e1 e2
    exact absurd e2 (by decide)
  · injection e with e
    exact h.2.has_ne hG e
end
set_option maxRecDepth 100000 in
set_option maxHeartbeats 1000000 in
theorem rnew_any (w : World) :
    Calls Tryz.prog 21 #[] w fun e w' => (∃ r mb, e = .returned (mP r) ∧ RefP w' r mb mem0 0 ∧ w.heap.size ≤ r ∧ w.heap.size ≤ mb) ∧ Below w.heap.size w w' := by
  have hM := MpM.new w
  have hb := (Below.refl w.heap.size w).alloc (Nat.le_refl _) (.map #[] 0)
  have hz : w.heap.size ≤ (w.alloc (.map #[] 0)).heap.size := hb.size
  have hmm := @run_makeMap Tryz.prog
  go_enter Tryz.func21, Tryz.ntmps21
  go_wp2_with fail
  go_ret
  refine ⟨⟨_, _, rfl, ⟨Has.new' (by simp), hM.after ((Below.refl _ _).alloc (Nat.le_refl _) _)⟩, ?_, Nat.le_refl _⟩, hb.alloc hz _⟩
  simp
set_option maxRecDepth 100000 in
set_option maxHeartbeats 1000000 in
theorem rhas_any (a n : Nat) (w : World) (ha : a < 4294967296) (hn : n < 4611686018427387904) :
    Calls Tryz.prog 62 #[.int .i64 (a : Int), .int .i64 (n : Int)] w fun e w' => e = .returned (.bool (inR a n)) ∧ w = w' := by
  by_cases h1 : 2147483648 ≤ (a : Int)
  · by_cases h2 : (a : Int) + (n : Int) ≤ 2147549184
    · have hr : inR a n = true := decide_eq_true (by omega)
      rw [hr]
      go_enter Tryz.func62, Tryz.ntmps62
      go_wp2_with fail
      go_ret
      exact ⟨rfl, rfl⟩
    · have hr : inR a n = false := decide_eq_false (by omega)
      have h3 : 2147549184 < (a : Int) + (n : Int) := by omega
      rw [hr]
      clear h2 hr
      go_enter Tryz.func62, Tryz.ntmps62
      go_wp2_with fail
      go_ret
      exact ⟨ret_bool (decide_eq_false (by omega)), rfl⟩
  · have hr : inR a n = false := decide_eq_false (by omega)
    rw [hr]
    go_enter Tryz.func62, Tryz.ntmps62
    go_wp2_with fail
    go_ret
    exact ⟨rfl, rfl⟩
end Go.Proofs.YtgpofoggfifnjaaGreatDoor
