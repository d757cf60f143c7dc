/-
Layer 10, package place: a machine's memory in a block; New, Has, Copy.
Layer 10, package place: Get, Put, Load, Store.
Layer 10, package place: Load and Store.
-/
import Derived.Test.YtegaiphhoinilaaJaE
import Derived.BigQuiet
namespace Go.Proofs.Ytegaiphhoinilaa
open Go Go.RowKit

/-- the cells of a memory -/
def memV (m : Nat → UInt8) (j : Nat) : Value := by8 (m j)
theorem memV_one (m : Nat → UInt8) (j : Nat) : (memV m j).oneCell' = true := rfl
/-- at g lies a machine's memory with the bytes m -/
def RamP (w : World) (g : Nat) (m : Nat → UInt8) : Prop := ∃ N, N = 65536 ∧ Has w g 83 (tab N (memV m))
def mem0 : Nat → UInt8 := fun _ => 0
/-- a long row of zeros, told cell by cell: so the kernel goes no deeper than one cell -/
def isZ : Value → Bool
  | .int .u8 (.ofNat 0) => true
  | _ => false
theorem isZ_eq {v : Value} (h : isZ v = true) : v = .int .u8 0 := by
  unfold isZ at h
  split at h
  · rfl
  · cases h
noncomputable def okZ (l : List Value) : Nat → Bool :=
  List.rec (motive := fun _ => Nat → Bool) (fun n => Nat.beq n 0) (fun a _ ih n => cond (isZ a) (Nat.rec (motive := fun _ => Bool) false (fun k _ => ih k) n) false) l
theorem okZ_eq : ∀ (l : List Value) (n : Nat), okZ l n = true → l = List.replicate n (.int .u8 0)
  | [], n, h => by
    have h2 : n = 0 := Nat.eq_of_beq_eq_true h
    subst h2
    rfl
  | a :: l, n, h => by
    have h1 : (cond (isZ a) (Nat.rec (motive := fun _ => Bool) false (fun k _ => okZ l k) n) false) = true := h
    cases ha : isZ a with
    | false => rw [ha] at h1; cases h1
    | true =>
      rw [ha] at h1
      cases n with
      | zero => cases h1
      | succ k =>
        rw [isZ_eq ha, List.replicate_succ, ← okZ_eq l k h1]
noncomputable def okM (v : Option (Option Value × Nat)) : Bool :=
  match v with
  | some (some (.agg a), n) => and (okZ a.toList 65536) (Nat.beq n 65536)
  | _ => false
theorem okM_true : okM ((Try.prog.info? 83).map (fun i => (i.zero, i.size))) = true := by kernel_rfl
theorem okM_eq {v : Option (Option Value × Nat)} (h : okM v = true) : v = some (some (.agg (tab 65536 (fun _ => Value.int .u8 0))), 65536) := by
  unfold okM at h
  split at h
  · rename_i a n
    have h1 := Bool.and_eq_true_iff.1 h
    rw [Nat.eq_of_beq_eq_true h1.2]
    have h2 := okZ_eq a.toList 65536 h1.1
    have h3 : a = tab 65536 (fun _ => Value.int .u8 0) := by
      apply Array.toList_inj.1
      rw [h2, tab_toList, List.map_const', List.length_range]
    rw [h3]
  · cases h
theorem infoM0 : (Try.prog.info? 83).map (fun i => (i.zero, i.size)) = some (some (.agg (tab 65536 (fun _ => Value.int .u8 0))), 65536) := okM_eq okM_true
theorem infoM (N : Nat) (hN : N = 65536) : (Try.prog.info? 83).map (fun i => (i.zero, i.size)) = some (some (.agg (tab N (memV mem0))), N) := by
  subst hN
  rw [tab_ext 65536 (memV mem0) (fun _ => Value.int .u8 0) (fun _ _ => rfl)]
  exact infoM0
theorem zeroM (N : Nat) (hN : N = 65536) (W : World) : (zeroValue 83).run Try.prog W = .ok (.agg (tab N (memV mem0))) W := (zero_of_info (infoM N hN)).1 W
theorem sizeM (N : Nat) (hN : N = 65536) : (Try.prog.info? 83).map (·.size) = some N := by
  subst hN
  kernel_rfl
theorem RamP.lt {w : World} {g : Nat} {m : Nat → UInt8} (h : RamP w g m) : g < w.heap.size := by obtain ⟨N, _, h⟩ := h; exact h.lt
theorem RamP.after {w w' : World} {g : Nat} {m : Nat → UInt8} (h : RamP w g m) (k : Below w.heap.size w w') : RamP w' g m := by obtain ⟨N, hN, h⟩ := h; exact ⟨N, hN, h.after k⟩
theorem RamP.grown {w w' : World} {g : Nat} {m : Nat → UInt8} {r : Option Nat} (h : RamP w g m) (k : w.grownBy w' r) (hne : ∀ l, r = some l → g ≠ l) : RamP w' g m := by
  obtain ⟨N, hN, h⟩ := h; exact ⟨N, hN, has_grown h k hne⟩
abbrev mP (g : Nat) : Value := .pointer (some ⟨g, 0, none⟩)
set_option maxRecDepth 100000 in
set_option maxHeartbeats 1000000 in
theorem pnew_any (w : World) :
    Calls Try.prog 18 #[] w fun e w' => (∃ g, e = .returned (mP g) ∧ RamP w' g mem0 ∧ w.heap.size ≤ g) ∧ Below w.heap.size w w' := by
  obtain ⟨N, hN⟩ : ∃ N, N = 65536 := ⟨_, rfl⟩
  have hz := fun W => zeroM N hN W
  have HN := Lib.hid hN
  clear hN
  go_enter Try.func18, Try.ntmps18
  go_wp2_with fail
  go_ret
  exact ⟨⟨w.heap.size, rfl, ⟨N, HN.out, Has.new _ _ _⟩, Nat.le_refl _⟩, (Below.refl _ _).alloc (Nat.le_refl _) _⟩
set_option maxRecDepth 100000 in
set_option maxHeartbeats 1000000 in
theorem has_any (g a n : Nat) (w : World) (ha : a < 4294967296) (hn : n < 4294967296) :
    Calls Try.prog 32 #[mP g, .int .u32 (a : Int), .int .u32 (n : Int)] w fun e w' => e = .returned (.bool (inB a n 2147483648 65536)) ∧ w = w' := by
  have k := pwithin_any a n 2147483648 65536 w ha hn (by decide) (by decide)
  go_enter Try.func32, Try.ntmps32
  go_wp2_with (refine k.mono ?_; rintro e w' ⟨rfl, rfl⟩)
  go_ret
  exact ⟨rfl, rfl⟩
set_option maxRecDepth 100000 in
set_option maxHeartbeats 1000000 in
theorem has_nil (a n : Nat) (w : World) :
    Calls Try.prog 32 #[.pointer none, .int .u32 (a : Int), .int .u32 (n : Int)] w fun e w' => e = .returned (.bool false) ∧ w = w' := by
  go_enter Try.func32, Try.ntmps32
  go_wp2_with fail
  go_ret
  exact ⟨rfl, rfl⟩
/-- 'x := *p' of a block that is known whole -/
theorem wp_load_tabW {P : Program} {w : World} {ops : Array Oper} {rest : List Oper} {op : Oper} {a : Act} {Q : Exit → Act → World → Prop} (hgd : op.guard = none) (ty : TypeId) (x : Operand) (ho : op.op = .load ty x)
    (g : Nat) (hx : a.eval x = .pointer (some ⟨g, 0, none⟩)) (N : Nat) (f : Nat → Value) (t : TypeId) (hG : Has w g t (tab N f)) (d : TypeDesc) (hu : P.underlying ty = some d) (hd : d.isRow = true) (hi : (P.info? ty).map (·.size) = some N)
    (h : wpList P ops Q rest (a.put op.dst (.agg (tab N f))) w) : wpList P ops Q (op :: rest) a w := by
  have hr : w.rangeAt g 0 ((List.range N).map f) := by
    have := hG.range 0 N (by omega)
    simpa using this
  have hl := run_loadVar_mid (P := P) w g 0 ty _ d hr hu hd (by simpa using hi)
  refine wpList_plain hgd fun K hK => ?_
  unfold Oper.wp execOp
  simp only [ho, hx, Instr.loadAt, Instr.sureAddr, Sem.run_bind, Sem.run_pure, Result.andThen_ok, hl]
  exact hK _ _ h
theorem undM : ∃ d, Try.prog.underlying 83 = some d ∧ d.isRow = true := ⟨_, Try.underlying83, rfl⟩
end Go.Proofs.Ytegaiphhoinilaa
namespace Go.Proofs.Ytegaiphhoinilaa
open Go Go.RowKit

/-- n bytes of the memory from k on -/
def cut (m : Nat → UInt8) (k n : Nat) : List UInt8 := (List.range n).map fun j => m (k + j)
theorem cut_len (m : Nat → UInt8) (k n : Nat) : (cut m k n).length = n := by simp [cut]
theorem cut_get {m : Nat → UInt8} {k n j : Nat} (h : j < n) : (cut m k n).getD j 0 = m (k + j) := by simp [cut, List.getD_eq_getElem?_getD, h]
/-- bytes written into the memory from k on -/
def putM (m : Nat → UInt8) (k : Nat) (bs : List UInt8) (j : Nat) : UInt8 := if k ≤ j ∧ j < k + bs.length then bs.getD (j - k) 0 else m j
/-- the n bytes from a on lie in RAM -/
def inR (a n : Nat) : Bool := inB a n 2147483648 65536
def widB (n : Int) : Bool := decide (n = 1 ∨ n = 2 ∨ n = 4)
def offR (k : Nat) : Nat := if k = 65536 then 0 else k
theorem ram_slA {w : World} {g : Nat} {m : Nat → UInt8} {k n c : Nat} (hG : RamP w g m) (h : k + n ≤ 65536) (hc : n ≤ c) : SlA w (some ⟨g, offR k, none⟩) n c (cut m k n) := by
  refine ⟨cut_len _ _ _, hc, fun h0 => ⟨g, offR k, rfl, hG.lt, fun j hj => ?_⟩⟩
  obtain ⟨N, hN, hG⟩ := hG
  rw [show offR k = k from if_neg (by omega), hG.cellTab (k + j) (by omega), cut_get hj]
  rfl
theorem run_ram (g k : Nat) (hk : k ≤ 65536) (W : World) : (Instr.sliceAt 81 (.pointer (some ⟨g, 0, none⟩)) (some (.int .u32 (k : Int))) none none).run Try.prog W = .ok (.slice (some ⟨g, offR k, none⟩) (65536 - k) (65536 - k)) W := by
  have h1 : (k : Int) ≤ 65536 := by omega
  unfold offR
  by_cases hkc : k = 65536
  · subst hkc
    go_simp
  · rw [if_neg hkc]
    have h2 := Addr.add_mid g 0 k
    rw [Nat.zero_add] at h2
    go_simp
    exact fun h => absurd h.symm hkc
theorem run_frontU (A : Option Addr) (n c : Nat) (k : Nat) (hk : k ≤ c) (W : World) : (Instr.sliceAt 70 (.slice A n c) none (some (.int .u32 (k : Int))) none).run Try.prog W = .ok (.slice A k c) W := by
  have h1 : (k : Int) ≤ (c : Int) := by omega
  cases A with
  | none => go_simp
  | some ad => go_simp
theorem run_frontI (A : Option Addr) (n c : Nat) (k : Nat) (hk : k ≤ c) (W : World) : (Instr.sliceAt 70 (.slice A n c) none (some (.int .i64 (k : Int))) none).run Try.prog W = .ok (.slice A k c) W := by
  have h1 : (k : Int) ≤ (c : Int) := by omega
  cases A with
  | none => go_simp
  | some ad => go_simp
theorem slA_front {w : World} {A : Option Addr} {n c k : Nat} {bs : List UInt8} (h : SlA w A n c bs) (hk : k ≤ n) : SlA w A k c (bs.take k) := by
  obtain ⟨h1, h2, h3⟩ := h
  refine ⟨by rw [List.length_take]; omega, by omega, fun h0 => ?_⟩
  obtain ⟨b, o, e, hlt, hc⟩ := h3 (by omega)
  refine ⟨b, o, e, hlt, fun j hj => ?_⟩
  rw [hc j (by omega)]
  simp [List.getD_eq_getElem?_getD, hj]
set_option maxRecDepth 100000 in
set_option maxHeartbeats 1000000 in
theorem get_any (m : Nat → UInt8) (g a n : Nat) (w : World) (hG : RamP w g m) (ha : a < 4294967296) (hn : n < 4294967296) (hin : inR a n = true) :
    Calls Try.prog 28 #[mP g, .int .u32 (a : Int), .int .u32 (n : Int)] w fun e w' => (∃ v, e = .returned (.tuple #[v, .int .i64 0]) ∧ w'.ownsRow w.heap.size 5 1 v n ((cut m (a - 2147483648) n).map by8)) ∧ Below w.heap.size w w' := by
  have kH := fun w => has_any g a n w ha hn
  have h1 := of_decide_eq_true hin
  unfold inR at hin
  simp only [hin] at kH
  obtain ⟨k, hk⟩ : ∃ k, k = a - 2147483648 := ⟨_, rfl⟩
  have d1 : 2147483648 ≤ (a : Int) := by omega
  have hke : (a : Int) - 2147483648 = (k : Int) := by omega
  have r1 := fun W => run_ram g k (by omega) W
  have r2 := fun W => run_frontU (some ⟨g, offR k, none⟩) (65536 - k) (65536 - k) n (by omega) W
  have hS := ram_slA (k := k) (n := n) (c := 65536 - k) hG (by omega) (by omega)
  rw [← hk]
  have hn6 : 0 + n ≤ 1000000 := by omega
  have HS := Lib.hid hS
  generalize 65536 - k = c at *
  generalize offR k = o at *
  clear hk h1 hin hS hG
  go_enter Try.func28, Try.ntmps28
  go_wp2_with (first
    | (refine (kH _).mono ?_; rintro e w' ⟨rfl, rfl⟩)
    | (refine wp_append_bytes rfl _ _ rfl w.heap.size _ 0 [] rfl (World.ownsRow_nil _ _ _ _) _ n c rfl (cut m k n) HS.out (fun h => by cases h) hn6 (Nat.le_refl _) ?_
       intro v' w1 hown hgr))
  go_ret2
  rw [Nat.zero_add, List.nil_append] at hown
  exact ⟨⟨v', rfl, hown⟩, grown_none hgr⟩
set_option maxRecDepth 100000 in
set_option maxHeartbeats 1000000 in
theorem get_far (g a n : Nat) (w : World) (ha : a < 4294967296) (hn : n < 4294967296) (hin : inR a n = false) :
    Calls Try.prog 28 #[mP g, .int .u32 (a : Int), .int .u32 (n : Int)] w fun e w' => e = .returned (.tuple #[.slice none 0 0, .int .i64 18]) ∧ w = w' := by
  have kH := fun w => has_any g a n w ha hn
  unfold inR at hin
  simp only [hin] at kH
  go_enter Try.func28, Try.ntmps28
  go_wp2_with (refine (kH _).mono ?_; rintro e w' ⟨rfl, rfl⟩)
  go_ret2
  exact ⟨rfl, rfl⟩
set_option maxRecDepth 100000 in
set_option maxHeartbeats 1000000 in
theorem get_nil (a n : Nat) (w : World) :
    Calls Try.prog 28 #[.pointer none, .int .u32 (a : Int), .int .u32 (n : Int)] w fun e w' => e = .returned (.tuple #[.slice none 0 0, .int .i64 18]) ∧ w = w' := by
  have kH := fun w => has_nil a n w
  go_enter Try.func28, Try.ntmps28
  go_wp2_with (refine (kH _).mono ?_; rintro e w' ⟨rfl, rfl⟩)
  go_ret2
  exact ⟨rfl, rfl⟩
theorem copy_cells (m : Nat → UInt8) (N k n : Nat) (bs : List UInt8) (hl : bs.length = n) :
    (tab N fun j => if k ≤ j ∧ j < k + n then by8 (bs.getD (j - k) 0) else memV m j) = tab N (memV (putM m k bs)) := by
  refine tab_ext _ _ _ fun j _ => ?_
  unfold memV putM
  rw [hl]
  split <;> rfl
/-- copy into the memory -/
theorem wp_copy_ram {w : World} {ops : Array Oper} {rest : List Oper} {op : Oper} {a : Act} {Q : Exit → Act → World → Prop} (hgd : op.guard = none) (d s : Operand)
    (ho : op.op = .call { callee := .builtin .copy, args := #[d, s], argTypes := #[70, 70] }) (g k : Nat) (c : Nat) (hd : a.eval d = .slice (some ⟨g, offR k, none⟩) c c) (hc : c = 65536 - k)
    (A : Option Addr) (n sc : Nat) (hs : a.eval s = .slice A n sc) (bs : List UInt8) (hS : SlA w A n sc bs) (m : Nat → UInt8) (hG : RamP w g m) (hfit : k + n ≤ 65536)
    (h : ∀ x w', RamP w' g (putM m k bs) → w.grownBy w' (some g) → wpList Try.prog ops Q rest (a.put op.dst x) w') : wpList Try.prog ops Q (op :: rest) a w := by
  obtain ⟨N, hN, hG⟩ := hG
  have hl := hS.1
  by_cases h0 : n = 0
  · subst h0
    have hrun := run_copy_none (P := Try.prog) w 70 70 op.type 5 (some ⟨g, offR k, none⟩) A c c 0 sc Try.underlying70 (by kernel_rfl) (by simp)
    refine wpList_plain hgd fun K hK => ?_
    unfold Oper.wp
    simp [execOp, ho, resolve, invoke, builtin, hd, hs, hrun, Result.andThen]
    refine hK _ _ (h _ _ ⟨N, hN, ?_⟩ (World.grownBy.refl w _))
    rw [tab_ext N (memV (putM m k bs)) (memV m) fun j _ => by unfold memV putM; rw [hl, if_neg (by omega)]]
    exact hG
  · obtain ⟨b, o, rfl, _, hcell⟩ := hS.2.2 (by omega)
    refine wp_copy_tab hgd d s 70 70 ho 5 Try.underlying70 (by kernel_rfl) g (offR k) c c b o n sc hd hs N (memV m) 83 hG n (by simp only [Nat.min_def]; split <;> omega) (fun j => by8 (bs.getD j 0)) hcell (by rw [show offR k = k from if_neg (by omega)]; omega) (fun _ => rfl) ?_
    intro w' hG' hgr
    refine h _ _ ⟨N, hN, ?_⟩ hgr
    rw [show offR k = k from if_neg (by omega)] at hG'
    rw [copy_cells m N k n bs hl] at hG'
    exact hG'
set_option maxRecDepth 100000 in
set_option maxHeartbeats 1000000 in
theorem pput_any' (m : Nat → UInt8) (g a : Nat) (A : Option Addr) (n c : Nat) (bs : List UInt8) (w : World) (hG : RamP w g m) (ha : a < 4294967296) (hS : SlA w A n c bs) (hin : inR a n = true) :
    Calls Try.prog 39 #[mP g, .int .u32 (a : Int), .slice A n c] w fun e w' => e = .returned (.int .i64 0) ∧ RamP w' g (putM m (a - 2147483648) bs) ∧ w.grownBy w' (some g) := by
  have h1 := of_decide_eq_true hin
  have kH := fun w => has_any g a n w ha (by omega)
  unfold inR at hin
  simp only [hin] at kH
  obtain ⟨k, hk⟩ : ∃ k, k = a - 2147483648 := ⟨_, rfl⟩
  have d1 : 2147483648 ≤ (a : Int) := by omega
  have d2 : (n : Int) ≤ 65536 := by omega
  have hke : (a : Int) - 2147483648 = (k : Int) := by omega
  have r1 := fun W => run_ram g k (by omega) W
  have hfit : k + n ≤ 65536 := by omega
  rw [← hk]
  have HS := Lib.hid hS
  have HG := Lib.hid hG
  obtain ⟨cc, hcc⟩ : ∃ cc, cc = 65536 - k := ⟨_, rfl⟩
  rw [← hcc] at r1
  have HC := Lib.hid hcc
  clear hk h1 hin hS hG hcc
  go_enter Try.func39, Try.ntmps39
  go_wp2_with (first
    | (refine (kH _).mono ?_; rintro e w' ⟨rfl, rfl⟩)
    | (refine wp_copy_ram rfl _ _ rfl g k cc rfl HC.out A n c rfl bs HS.out m HG.out hfit ?_
       intro x w1 hG1 hgr))
  go_ret
  exact ⟨rfl, hG1, hgr⟩
set_option maxRecDepth 100000 in
set_option maxHeartbeats 1000000 in
theorem put_far (g a : Nat) (A : Option Addr) (n c : Nat) (w : World) (ha : a < 4294967296) (hin : inR a n = false) :
    Calls Try.prog 39 #[mP g, .int .u32 (a : Int), .slice A n c] w fun e w' => e = .returned (.int .i64 18) ∧ w = w' := by
  by_cases h6 : n ≤ 65536
  · have kH := fun w => has_any g a n w ha (by omega)
    unfold inR at hin
    simp only [hin] at kH
    have d2 : (n : Int) ≤ 65536 := by omega
    go_enter Try.func39, Try.ntmps39
    go_wp2_with (refine (kH _).mono ?_; rintro e w' ⟨rfl, rfl⟩)
    go_ret
    exact ⟨rfl, rfl⟩
  · have d2 : 65536 < (n : Int) := by omega
    go_enter Try.func39, Try.ntmps39
    go_wp2_with fail
    go_ret
    exact ⟨rfl, rfl⟩
set_option maxRecDepth 100000 in
set_option maxHeartbeats 1000000 in
theorem put_nil (a : Nat) (A : Option Addr) (n c : Nat) (w : World) :
    Calls Try.prog 39 #[.pointer none, .int .u32 (a : Int), .slice A n c] w fun e w' => e = .returned (.int .i64 18) ∧ w = w' := by
  by_cases h6 : n ≤ 65536
  · have kH := fun w => has_nil a n w
    have d2 : (n : Int) ≤ 65536 := by omega
    go_enter Try.func39, Try.ntmps39
    go_wp2_with (refine (kH _).mono ?_; rintro e w' ⟨rfl, rfl⟩)
    go_ret
    exact ⟨rfl, rfl⟩
  · have d2 : 65536 < (n : Int) := by omega
    go_enter Try.func39, Try.ntmps39
    go_wp2_with fail
    go_ret
    exact ⟨rfl, rfl⟩
set_option maxRecDepth 100000 in
set_option maxHeartbeats 1000000 in
theorem wid_any (n : Int) (w : World) :
    Calls Try.prog 31 #[.int .i64 n] w fun e w' => e = .returned (.bool (widB n)) ∧ w = w' := by
  by_cases h1 : n = 1
  · subst h1
    go_enter Try.func31, Try.ntmps31
    go_wp2_with fail
    go_ret
    exact ⟨rfl, rfl⟩
  by_cases h2 : n = 2
  · subst h2
    go_enter Try.func31, Try.ntmps31
    go_wp2_with fail
    go_ret
    exact ⟨rfl, rfl⟩
  by_cases h4 : n = 4
  · subst h4
    go_enter Try.func31, Try.ntmps31
    go_wp2_with fail
    go_ret
    exact ⟨rfl, rfl⟩
  have d1 : (n == 1) = false := by simpa using h1
  have d2 : (n == 2) = false := by simpa using h2
  have d4 : (n == 4) = false := by simpa using h4
  have hr : widB n = false := decide_eq_false (by omega)
  rw [hr]
  clear h1 h2 h4 hr
  go_enter Try.func31, Try.ntmps31
  go_wp2_with fail
  go_ret
  exact ⟨rfl, rfl⟩
end Go.Proofs.Ytegaiphhoinilaa
namespace Go.Proofs.Ytegaiphhoinilaa
open Go Go.RowKit

/-- the little-endian number of the n bytes of the memory from k on -/
def ldN (m : Nat → UInt8) (n k : Nat) : Nat := leT (fun j => (m j).toNat) n k
theorem ldN_lt (m : Nat → UInt8) (n k : Nat) : ldN m n k < 256 ^ n := leT_lt (fun j => (m j).toNat_lt) n k
theorem leT_congr {f g : Nat → Nat} : ∀ (n i j : Nat), (∀ x, x < n → f (i + x) = g (j + x)) → leT f n i = leT g n j
  | 0, _, _, _ => rfl
  | n + 1, i, j, h => by
    show f i + 256 * leT f n (i + 1) = g j + 256 * leT g n (j + 1)
    rw [leT_congr n (i + 1) (j + 1) fun x hx => by have := h (x + 1) (by omega); rwa [show i + 1 + x = i + (x + 1) by omega, show j + 1 + x = j + (x + 1) by omega]]
    have := h 0 (by omega)
    rw [Nat.add_zero, Nat.add_zero] at this
    rw [this]
theorem nm_cut (m : Nat → UInt8) (k n : Nat) : nm (cut m k n) n 0 = ldN m n k := by
  unfold nm ldN
  rw [if_pos (by rw [cut_len]; omega)]
  refine leT_congr n 0 k fun x hx => ?_
  show ((cut m k n).getD (0 + x) 0).toNat = _
  rw [Nat.zero_add, cut_get hx]
set_option maxRecDepth 100000 in
set_option maxHeartbeats 1000000 in
theorem load_any (m : Nat → UInt8) (g a n : Nat) (w : World) (hG : RamP w g m) (ha : a < 4294967296) (hn : n = 1 ∨ n = 2 ∨ n = 4) (hin : inR a n = true) :
    Calls Try.prog 15 #[mP g, .int .u32 (a : Int), .int .i64 (n : Int)] w fun e w' => e = .returned (.tuple #[.int .u32 ((ldN m n (a - 2147483648) : Nat) : Int), .int .i64 0]) ∧ Below w.heap.size w w' := by
  have kW := fun w => wid_any (n : Int) w
  rw [show widB (n : Int) = true from decide_eq_true (by omega)] at kW
  have kH := fun w => has_any g a n w ha (by omega)
  have h1 := of_decide_eq_true hin
  unfold inR at hin
  simp only [hin] at kH
  obtain ⟨k, hk⟩ : ∃ k, k = a - 2147483648 := ⟨_, rfl⟩
  have d1 : 2147483648 ≤ (a : Int) := by omega
  have hke : (a : Int) - 2147483648 = (k : Int) := by omega
  have r1 := fun W => run_ram g k (by omega) W
  have r2 := fun W => run_frontI (some ⟨g, offR k, none⟩) (65536 - k) (65536 - k) n (by omega) W
  have hS := ram_slA (k := k) (n := n) (c := 65536 - k) hG (by omega) (by omega)
  rw [← hk]
  have kAd := cu_at (bs := cut m k n) (w := w) (some ⟨g, offR k, none⟩) n (65536 - k) hS (fun h => by cases h) (by rw [cut_len]; omega)
  have HX := Lib.hid (nm_cut m k n)
  have hnm : nm (cut m k n) n 0 < 256 ^ n := nm_lt _ _ _
  have hnc : n ≤ 65536 - k := by omega
  generalize 65536 - k = c at *
  generalize offR k = o at *
  clear hk h1 hin hS hG
  rcases hn with rfl | rfl | rfl
  · have d2 : (1 : Int) ≤ (c : Int) := by omega
    have d3 : nm (cut m k 1) 1 0 < 4294967296 := by omega
    go_enter Try.func15, Try.ntmps15
    go_wp2_with (first
      | (refine (kW _).mono ?_; rintro e w' ⟨rfl, rfl⟩)
      | (refine (kH _).mono ?_; rintro e w' ⟨rfl, rfl⟩)
      | (refine kAd.mono ?_; rintro e w1 ⟨⟨gc, rfl, hC⟩, hb1⟩)
      | (refine hC.u8.mono ?_; rintro e w2 ⟨rfl, hC2, hgr⟩))
    go_ret2
    have hgl := hC.gB.1
    refine ⟨?_, below_only hb1 hgr hgl hb1.size⟩
    rw [← HX.out]
    rfl
  · have d2 : (2 : Int) ≤ (c : Int) := by omega
    have d3 : nm (cut m k 2) 2 0 < 4294967296 := by omega
    go_enter Try.func15, Try.ntmps15
    go_wp2_with (first
      | (refine (kW _).mono ?_; rintro e w' ⟨rfl, rfl⟩)
      | (refine (kH _).mono ?_; rintro e w' ⟨rfl, rfl⟩)
      | (refine kAd.mono ?_; rintro e w1 ⟨⟨gc, rfl, hC⟩, hb1⟩)
      | (refine hC.u16.mono ?_; rintro e w2 ⟨rfl, hC2, hgr⟩))
    go_ret2
    have hgl := hC.gB.1
    refine ⟨?_, below_only hb1 hgr hgl hb1.size⟩
    rw [← HX.out]
    rfl
  · have d2 : (4 : Int) ≤ (c : Int) := by omega
    have d3 : nm (cut m k 4) 4 0 < 4294967296 := by omega
    go_enter Try.func15, Try.ntmps15
    go_wp2_with (first
      | (refine (kW _).mono ?_; rintro e w' ⟨rfl, rfl⟩)
      | (refine (kH _).mono ?_; rintro e w' ⟨rfl, rfl⟩)
      | (refine kAd.mono ?_; rintro e w1 ⟨⟨gc, rfl, hC⟩, hb1⟩)
      | (refine hC.u32.mono ?_; rintro e w2 ⟨rfl, hC2, hgr⟩))
    go_ret2
    have hgl := hC.gB.1
    refine ⟨?_, below_only hb1 hgr hgl hb1.size⟩
    rw [← HX.out]
    rfl
set_option maxRecDepth 100000 in
set_option maxHeartbeats 1000000 in
theorem load_wid (v : Value) (a : Nat) (n : Int) (w : World) (hn : widB n = false) :
    Calls Try.prog 15 #[v, .int .u32 (a : Int), .int .i64 n] w fun e w' => e = .returned (.tuple #[.int .u32 0, .int .i64 18]) ∧ w = w' := by
  have kW := fun w => wid_any n w
  simp only [hn] at kW
  go_enter Try.func15, Try.ntmps15
  go_wp2_with (refine (kW _).mono ?_; rintro e w' ⟨rfl, rfl⟩)
  go_ret2
  exact ⟨rfl, rfl⟩
set_option maxRecDepth 100000 in
set_option maxHeartbeats 1000000 in
theorem load_far (v : Value) (a n : Nat) (w : World) (hn : widB (n : Int) = true) (kH : ∀ w, Calls Try.prog 32 #[v, .int .u32 (a : Int), .int .u32 (n : Int)] w fun e w' => e = .returned (.bool false) ∧ w = w') :
    Calls Try.prog 15 #[v, .int .u32 (a : Int), .int .i64 (n : Int)] w fun e w' => e = .returned (.tuple #[.int .u32 0, .int .i64 18]) ∧ w = w' := by
  have kW := fun w => wid_any n w
  have h4 := of_decide_eq_true hn
  have h5 : n ≤ 4 := by omega
  simp only [hn] at kW
  clear h4 hn
  go_enter Try.func15, Try.ntmps15
  go_wp2_with (first
    | (refine (kW _).mono ?_; rintro e w' ⟨rfl, rfl⟩)
    | (refine (kH _).mono ?_; rintro e w' ⟨rfl, rfl⟩))
  go_ret2
  exact ⟨rfl, rfl⟩
theorem leB_take (k n x : Nat) (h : k ≤ n) : (leB n x).take k = leB k x := by
  unfold leB
  rw [← List.map_take, List.take_range, Nat.min_eq_left h]
set_option maxRecDepth 100000 in
set_option maxHeartbeats 1000000 in
/-- Store by what Put answers -/
theorem store_by (v : Value) (a n x : Nat) (w : World) (hn : widB (n : Int) = true) (hx : x < 4294967296) (z : Nat) (Q : World → World → Prop)
    (kP : ∀ (A : Option Addr) (c : Nat) (w1 : World), Below w.heap.size w w1 → SlA w1 A n c (leB n x) → Calls Try.prog 39 #[v, .int .u32 (a : Int), .slice A n c] w1 fun e w' => e = .returned (.int .i64 (z : Int)) ∧ Q w1 w') :
    Calls Try.prog 19 #[v, .int .u32 (a : Int), .int .i64 (n : Int), .int .u32 (x : Int)] w fun e w' => e = .returned (.int .i64 (z : Int)) ∧ ∃ w1, Below w.heap.size w w1 ∧ Q w1 w' := by
  have kW := fun w => wid_any n w
  have h4 := of_decide_eq_true hn
  simp only [hn] at kW
  have h5 : n ≤ 4 := by omega
  clear h4 hn
  go_enter Try.func19, Try.ntmps19
  go_upto_region 3 with (refine (kW _).mono ?_; rintro e w' ⟨rfl, rfl⟩)
  go_wp2_with fail
  refine (p32_any [] x (.slice none 0 0) 0 w w.heap.size hx (World.ownsRow_nil _ _ _ _) (Nat.le_refl _) (by omega)).mono ?_
  rintro e w1 ⟨⟨v1, rfl, hown⟩, hb1, _⟩
  rw [List.nil_append, Nat.zero_add] at hown
  obtain ⟨A, c, rfl⟩ := own_form hown
  obtain ⟨hS, _⟩ := own_slA hown
  have hc := hS.2.1
  have r1 := fun W => run_frontI A 4 c n (by omega) W
  have hS2 := slA_front hS h5
  rw [leB_take n 4 x h5] at hS2
  have kP1 := kP A c w1 hb1 hS2
  have HB := Lib.hid hb1
  clear hown hS hS2 hc hb1 kP
  go_wp2_with (refine kP1.mono ?_; rintro e w2 ⟨rfl, hQ⟩)
  go_ret
  exact ⟨rfl, w1, HB.out, hQ⟩
set_option maxRecDepth 100000 in
set_option maxHeartbeats 1000000 in
theorem store_wid (v : Value) (a x : Nat) (n : Int) (w : World) (hn : widB n = false) :
    Calls Try.prog 19 #[v, .int .u32 (a : Int), .int .i64 n, .int .u32 (x : Int)] w fun e w' => e = .returned (.int .i64 18) ∧ w = w' := by
  have kW := fun w => wid_any n w
  simp only [hn] at kW
  go_enter Try.func19, Try.ntmps19
  go_wp2_with (refine (kW _).mono ?_; rintro e w' ⟨rfl, rfl⟩)
  go_ret
  exact ⟨rfl, rfl⟩
/-- what a Store answers, and what is in memory afterwards -/
def stB (a : Nat) (n : Int) : Bool := widB n && inR a n.toNat
def stM (m : Nat → UInt8) (a : Nat) (n : Int) (x : Nat) : Nat → UInt8 := if stB a n = true then putM m (a - 2147483648) (leB n.toNat x) else m
def erI (b : Bool) : Int := if b = true then 0 else 18
theorem wid_nat {n : Int} (h : widB n = true) : ∃ k : Nat, n = (k : Int) ∧ (k = 1 ∨ k = 2 ∨ k = 4) := by
  have h1 := of_decide_eq_true h
  exact ⟨n.toNat, by omega, by omega⟩
theorem store_any (m : Nat → UInt8) (g a x : Nat) (n : Int) (w : World) (hG : RamP w g m) (ha : a < 4294967296) (hx : x < 4294967296) :
    Calls Try.prog 19 #[mP g, .int .u32 (a : Int), .int .i64 n, .int .u32 (x : Int)] w fun e w' => e = .returned (.int .i64 (erI (stB a n))) ∧ RamP w' g (stM m a n x) ∧ w.grownBy w' (some g) := by
  unfold stM
  cases hw : widB n with
  | false =>
    rw [show stB a n = false by unfold stB; rw [hw]; rfl]
    refine (store_wid _ a x n w hw).mono ?_
    rintro e w' ⟨rfl, rfl⟩
    exact ⟨rfl, hG, World.grownBy.refl _ _⟩
  | true =>
    obtain ⟨k, rfl, hk⟩ := wid_nat hw
    cases hi : inR a k with
    | false =>
      rw [show stB a (k : Int) = false by unfold stB; rw [hw, Int.toNat_natCast, hi]; rfl]
      refine (store_by (mP g) a k x w hw hx 18 (fun w1 w' => w1 = w') fun A c w1 hb hS => put_far g a A k c w1 ha hi).mono ?_
      rintro e w' ⟨rfl, w1, hb, rfl⟩
      exact ⟨rfl, hG.after hb, only_below hb _⟩
    | true =>
      rw [show stB a (k : Int) = true by unfold stB; rw [hw, Int.toNat_natCast, hi]; rfl, if_pos rfl, Int.toNat_natCast]
      refine (store_by (mP g) a k x w hw hx 0 (fun w1 w' => RamP w' g (putM m (a - 2147483648) (leB k x)) ∧ w1.grownBy w' (some g)) fun A c w1 hb hS => pput_any' m g a A k c (leB k x) w1 (hG.after hb) ha hS hi).mono ?_
      rintro e w' ⟨rfl, w1, hb, hR, hgr⟩
      exact ⟨rfl, hR, only_trans (only_below hb _) hgr⟩
theorem store_nil (a x : Nat) (w : World) (hx : x < 4294967296) :
    Calls Try.prog 19 #[.pointer none, .int .u32 (a : Int), .int .i64 4, .int .u32 (x : Int)] w fun e w' => e = .returned (.int .i64 18) ∧ Below w.heap.size w w' := by
  refine (store_by (.pointer none) a 4 x w (by decide) hx 18 (fun w1 w' => w1 = w') fun A c w1 hb hS => put_nil a A 4 c w1).mono ?_
  rintro e w' ⟨rfl, w1, hb, rfl⟩
  exact ⟨rfl, hb⟩
/-- what Put answers, and what is in memory afterwards -/
def puM (m : Nat → UInt8) (a : Nat) (bs : List UInt8) : Nat → UInt8 := if inR a bs.length = true then putM m (a - 2147483648) bs else m
theorem pput_any (m : Nat → UInt8) (g a : Nat) (A : Option Addr) (n c : Nat) (bs : List UInt8) (w : World) (hG : RamP w g m) (ha : a < 4294967296) (hS : SlA w A n c bs) :
    Calls Try.prog 39 #[mP g, .int .u32 (a : Int), .slice A n c] w fun e w' => e = .returned (.int .i64 (erI (inR a bs.length))) ∧ RamP w' g (puM m a bs) ∧ w.grownBy w' (some g) := by
  have hl := hS.1
  unfold puM
  rw [hl]
  cases hi : inR a n with
  | false =>
    refine (put_far g a A n c w ha hi).mono ?_
    rintro e w' ⟨rfl, rfl⟩
    exact ⟨rfl, hG, World.grownBy.refl _ _⟩
  | true =>
    rw [if_pos rfl, show erI true = 0 from rfl]
    exact pput_any' m g a A n c bs w hG ha hS hi
/-- what Load answers -/
def ldV (m : Nat → UInt8) (a : Nat) (n : Int) : Nat := if stB a n = true then ldN m n.toNat (a - 2147483648) else 0
theorem mload_any (m : Nat → UInt8) (g a : Nat) (n : Int) (w : World) (hG : RamP w g m) (ha : a < 4294967296) :
    Calls Try.prog 15 #[mP g, .int .u32 (a : Int), .int .i64 n] w fun e w' => e = .returned (.tuple #[.int .u32 ((ldV m a n : Nat) : Int), .int .i64 (erI (stB a n))]) ∧ Below w.heap.size w w' := by
  unfold ldV
  cases hw : widB n with
  | false =>
    rw [show stB a n = false by unfold stB; rw [hw]; rfl]
    refine (load_wid _ a n w hw).mono ?_
    rintro e w' ⟨rfl, rfl⟩
    exact ⟨rfl, Below.refl _ _⟩
  | true =>
    obtain ⟨k, rfl, hk⟩ := wid_nat hw
    cases hi : inR a k with
    | false =>
      rw [show stB a (k : Int) = false by unfold stB; rw [hw, Int.toNat_natCast, hi]; rfl]
      refine (load_far (mP g) a k w hw fun w => ?_).mono ?_
      · have := has_any g a k w ha (by omega)
        unfold inR at hi
        rwa [hi] at this
      · rintro e w' ⟨rfl, rfl⟩
        exact ⟨rfl, Below.refl _ _⟩
    | true =>
      rw [show stB a (k : Int) = true by unfold stB; rw [hw, Int.toNat_natCast, hi]; rfl, if_pos rfl, Int.toNat_natCast]
      exact load_any m g a k w hG ha hk hi
theorem load_nil (a : Nat) (w : World) :
    Calls Try.prog 15 #[.pointer none, .int .u32 (a : Int), .int .i64 4] w fun e w' => e = .returned (.tuple #[.int .u32 0, .int .i64 18]) ∧ w = w' :=
  load_far (.pointer none) a 4 w (by decide) fun w => has_nil a 4 w
end Go.Proofs.Ytegaiphhoinilaa
