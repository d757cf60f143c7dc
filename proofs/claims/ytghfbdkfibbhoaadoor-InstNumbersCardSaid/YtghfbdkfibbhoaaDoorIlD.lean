/-
Layer 11: InstNumbers.
-/
import Derived.Test.YtghfbdkfibbhoaaDoorIlA
namespace Go.Proofs.YtghfbdkfibbhoaaDoor
open Go Go.RowKit

def frm : Nat → Fm
  | 0 => .I
  | 1 => .S
  | 2 => .B
  | 3 => .U
  | _ => .J
theorem frm_is (i : Nat) : frm i = .I ∨ frm i = .S ∨ frm i = .B ∨ frm i = .U ∨ frm i = .J := by
  match i with
  | 0 => exact Or.inl rfl
  | 1 => exact Or.inr (Or.inl rfl)
  | 2 => exact Or.inr (Or.inr (Or.inl rfl))
  | 3 => exact Or.inr (Or.inr (Or.inr (Or.inl rfl)))
  | _ + 4 => exact Or.inr (Or.inr (Or.inr (Or.inr rfl)))
def getV (x : Nat) (j : Nat) : Value := .int .u32 ((immL (frm j) x : Nat) : Int)
def putV (x y : Nat) (j : Nat) : Value := .int .u32 ((setL (frm j) x y : Nat) : Int)
def strV (j : Nat) : Value := .string (fmS (frm j))
theorem three_new (w : World) (u v s : Array Value) (t t2 : TypeId) : ∃ wa, wa = ((w.alloc (.cells u t)).alloc (.cells v t)).alloc (.cells s t2) ∧ Has wa w.heap.size t u ∧ Has wa (w.heap.size + 1) t v ∧ Has wa (w.heap.size + 2) t2 s ∧ Below w.heap.size w wa :=
  ⟨_, rfl, ((Has.new w t u).alloc _).alloc _, (Has.new' (size_alloc1 w _).symm).alloc _, Has.new' (by rw [size_alloc1, size_alloc1]), (((Below.refl _ _).alloc (Nat.le_refl _) _).alloc (by rw [size_alloc1]; omega) _).alloc (by rw [size_alloc1, size_alloc1]; omega) _⟩
set_option maxRecDepth 100000 in
set_option maxHeartbeats 4000000 in
theorem numbers11_ok (x y : Nat) (w : World) (hT : TabW w) (hx : x < 4294967296) (hy : y < 4294967296) :
    Calls Tryd.prog 6 #[.int .u32 (x : Int), .int .u32 (y : Int)] w fun e w' => e = .returned (.bool true) ∧ Below w.heap.size w w' := by
  have kf := fit11_any w hT
  have HT := Lib.hid hT
  clear hT
  have kI := fun W => immI_any x W hx
  have qI := fun W => setI_any x y W hx hy
  have bI := fun W => setI_any x (immL .I x) W hx (immL_lt _ _)
  rw [setL_back .I (by simp) x hx] at bI
  have kS := fun W => immS_any x W hx
  have qS := fun W => setS_any x y W hx hy
  have bS := fun W => setS_any x (immL .S x) W hx (immL_lt _ _)
  rw [setL_back .S (by simp) x hx] at bS
  have kB := fun W => immB_any x W hx
  have qB := fun W => setB_any x y W hx hy
  have bB := fun W => setB_any x (immL .B x) W hx (immL_lt _ _)
  rw [setL_back .B (by simp) x hx] at bB
  have kU := fun W => immU_any x W hx
  have qU := fun W => setU_any x y W hx hy
  have bU := fun W => setU_any x (immL .U x) W hx (immL_lt _ _)
  rw [setL_back .U (by simp) x hx] at bU
  have kJ := fun W => immJ_any x W hx
  have qJ := fun W => setJ_any x y W hx hy
  have bJ := fun W => setJ_any x (immL .J x) W hx (immL_lt _ _)
  rw [setL_back .J (by simp) x hx] at bJ
  have HGV : ∀ j, j < 5 → getV x j = (.int .u32 ((immL (frm j) x : Nat) : Int)) := fun _ _ => rfl
  have eG : tab 5 (getV x) = #[.int .u32 (immL .I x : Nat), .int .u32 (immL .S x : Nat), .int .u32 (immL .B x : Nat), .int .u32 (immL .U x : Nat), .int .u32 (immL .J x : Nat)] := rfl
  have eP : tab 5 (putV x y) = #[.int .u32 (setL .I x y : Nat), .int .u32 (setL .S x y : Nat), .int .u32 (setL .B x y : Nat), .int .u32 (setL .U x y : Nat), .int .u32 (setL .J x y : Nat)] := rfl
  have eS : tab 5 strV = #[.string ⟨#[73]⟩, .string ⟨#[83]⟩, .string ⟨#[66]⟩, .string ⟨#[85]⟩, .string ⟨#[74]⟩] := rfl
  clear HGV
  generalize immL .I x = gI at kI bI eG
  generalize setL .I x y = sI at qI eP
  generalize immL .S x = gS at kS bS eG
  generalize setL .S x y = sS at qS eP
  generalize immL .B x = gB at kB bB eG
  generalize setL .B x y = sB at qB eP
  generalize immL .U x = gU at kU bU eG
  generalize setL .U x y = sU at qU eP
  generalize immL .J x = gJ at kJ bJ eG
  generalize setL .J x y = sJ at qJ eP
  have EG := Lib.hid eG
  have EP := Lib.hid eP
  have ES := Lib.hid eS
  clear eG eP eS
  go_enter Tryd.func6, Tryd.ntmps6
  go_wp2_with (first
    | (go_at_call 8; with_reducible refine kf.mono ?_; rintro e w1 ⟨rfl, hb1⟩)
    | (go_at_call 14; with_reducible refine (kI _).mono ?_; rintro e w2 ⟨rfl, rfl⟩)
    | (go_at_call 19; with_reducible refine (qI _).mono ?_; rintro e w2 ⟨rfl, rfl⟩)
    | (go_at_call 15; with_reducible refine (kS _).mono ?_; rintro e w2 ⟨rfl, rfl⟩)
    | (go_at_call 20; with_reducible refine (qS _).mono ?_; rintro e w2 ⟨rfl, rfl⟩)
    | (go_at_call 16; with_reducible refine (kB _).mono ?_; rintro e w2 ⟨rfl, rfl⟩)
    | (go_at_call 21; with_reducible refine (qB _).mono ?_; rintro e w2 ⟨rfl, rfl⟩)
    | (go_at_call 17; with_reducible refine (kU _).mono ?_; rintro e w2 ⟨rfl, rfl⟩)
    | (go_at_call 22; with_reducible refine (qU _).mono ?_; rintro e w2 ⟨rfl, rfl⟩)
    | (go_at_call 18; with_reducible refine (kJ _).mono ?_; rintro e w2 ⟨rfl, rfl⟩)
    | (go_at_call 23; with_reducible refine (qJ _).mono ?_; rintro e w2 ⟨rfl, rfl⟩))
  obtain ⟨wa, hwa, hG, hP, hS, hba⟩ := three_new w1 #[.int .u32 (gI : Int), .int .u32 (gS : Int), .int .u32 (gB : Int), .int .u32 (gU : Int), .int .u32 (gJ : Int)] #[.int .u32 (sI : Int), .int .u32 (sS : Int), .int .u32 (sB : Int), .int .u32 (sU : Int), .int .u32 (sJ : Int)] #[.string ⟨#[73]⟩, .string ⟨#[83]⟩, .string ⟨#[66]⟩, .string ⟨#[85]⟩, .string ⟨#[74]⟩] 38 9
  rw [← hwa]
  rw [← EG.out] at hG
  rw [← EP.out] at hP
  rw [← ES.out] at hS
  have hbb := hb1.trans (hba.mono hb1.size)
  clear hwa hba hb1 kf EG EP ES
  go_loopw [40] (fun ct wr => ∃ i : Nat, i ≤ 5 ∧ ct = .int .i64 (i : Int) ∧ Has wr w1.heap.size 38 (tab 5 (getV x)) ∧ Has wr (w1.heap.size + 1) 38 (tab 5 (putV x y)) ∧ Has wr (w1.heap.size + 2) 9 (tab 5 strV) ∧ Below w.heap.size w wr) (fun ct _ => (5 - (intOf ct)).toNat)
  case atStart => exact ⟨0, by omega, rfl, hG, hP, hS, hbb⟩
  case round =>
    clear hG hP hS hbb
    obtain ⟨i, hi, rfl, hG, hP, hS, hb⟩ := hrel
    have HG := Lib.hid hG
    have HSS := Lib.hid hP
    have HS := Lib.hid hS
    have HB := Lib.hid hb
    by_cases hlt : i < 5
    · have di : (i : Int) < 5 := by omega
      have cg : wr.cell? ⟨w1.heap.size, i, none⟩ = some (.int .u32 ((immL (frm i) x : Nat) : Int)) := hG.cellTab i hlt
      have cs : wr.cell? ⟨w1.heap.size + 1, i, none⟩ = some (.int .u32 ((setL (frm i) x y : Nat) : Int)) := hP.cellTab i hlt
      have ct : wr.cell? ⟨w1.heap.size + 1 + 1, i, none⟩ = some (.string (fmS (frm i))) := hS.cellTab i hlt
      have hz := wrapZ (frm i) x hx
      have kz : ∀ W, Calls Tryd.prog 24 #[.string (fmS (frm i)), .int .i64 (x : Int)] W fun e w' => e = .returned (.int .i64 (immZ (frm i) x)) ∧ Below W.heap.size W w' := fun W => (imm_any (frm i) x W hx).mono fun e w' ⟨he, n, hw⟩ => ⟨he, by rw [hw]; exact below_drawn W n⟩
      have ks : ∀ W, Calls Tryd.prog 25 #[.string (fmS (frm i)), .int .i64 (x : Int), .int .i64 (y : Int)] W fun e w' => e = .returned (.int .i64 ((setL (frm i) x y : Nat) : Int)) ∧ Below W.heap.size W w' := fun W => by
        rw [setL_is (frm i) (frm_is i) x y hx]
        exact (set_any (frm i) x y W hx hy).mono fun e w' ⟨he, n, hw⟩ => ⟨he, by rw [hw]; exact below_drawn W n⟩
      have hgl := immL_lt (frm i) x
      have hsl := setL_lt (frm i) x y hx
      generalize immL (frm i) x = g at *
      generalize setL (frm i) x y = s at *
      generalize immZ (frm i) x = z at *
      generalize fmS (frm i) = st at *
      clear hG hP hS hb
      go_upto_region 8 with fail
      clear ct
      refine region_quiet_all (Below wr.heap.size wr) (by kernel_rfl) (by kernel_rfl) (below_drewN (Below.refl _ _) 1) ?_
      refine WQ.out ?_
      refine WQ.lift (wpQ_move _ rfl rfl (.int .i64 (i : Int)) rfl) ?_
      simp only [Act.put, List.setIfInBounds_toArray, List.set_cons_zero, List.set_cons_succ]
      refine WQ.lift (wpQ_val rfl (.pointer (some ⟨w1.heap.size, i, none⟩)) (fun w' _ => by go_simp)) ?_
      simp only [Act.put, List.setIfInBounds_toArray, List.set_cons_zero, List.set_cons_succ]
      refine WQ.lift (wpQ_load 22 (.tmp 46) rfl rfl (.pointer (some ⟨w1.heap.size, i, none⟩)) rfl (.int .u32 (g : Int)) (fun w' hC => by
          have hcell : w'.cell? ⟨w1.heap.size, i, none⟩ = some (.int .u32 (g : Int)) := (hC.cell (p := ⟨w1.heap.size, i, none⟩) HG.out.lt).trans cg
          go_simp)) ?_
      simp only [Act.put, List.setIfInBounds_toArray, List.set_cons_zero, List.set_cons_succ]
      refine WQ.lift (wpQ_move _ rfl rfl (.string st) rfl) ?_
      simp only [Act.put, List.setIfInBounds_toArray, List.set_cons_zero, List.set_cons_succ]
      refine WQ.lift (wpQ_move _ rfl rfl (.int .u32 (x : Int)) rfl) ?_
      simp only [Act.put, List.setIfInBounds_toArray, List.set_cons_zero, List.set_cons_succ]
      refine WQ.lift (wpQ_val rfl (.int .i64 (x : Int)) (fun w' hC => by go_simp; exact IntWalk.i64_in _ (by omega))) ?_
      simp only [Act.put, List.setIfInBounds_toArray, List.set_cons_zero, List.set_cons_succ]
      refine WQ.lift (wpQ_fn 24 _ _ rfl rfl #[.string st, .int .i64 (x : Int)] rfl (fun _ => by go_simp) (.int .i64 z) (fun w' hC => (kz w').mono fun e w'' ⟨he, hb⟩ => ⟨he, below_class hC hb⟩)) ?_
      simp only [Act.put, List.setIfInBounds_toArray, List.set_cons_zero, List.set_cons_succ]
      refine WQ.lift (wpQ_val rfl (.int .u32 (g : Int)) (fun w' hC => by go_simp)) ?_
      simp only [Act.put, List.setIfInBounds_toArray, List.set_cons_zero, List.set_cons_succ]
      refine WQ.lift (wpQ_val rfl (.bool false) (fun w' hC => by go_simp)) ?_
      simp only [Act.put, List.setIfInBounds_toArray, List.set_cons_zero, List.set_cons_succ]
      refine WQ.lift (wpQ_move _ rfl rfl (.bool false) rfl) ?_
      simp only [Act.put, List.setIfInBounds_toArray, List.set_cons_zero, List.set_cons_succ]
      refine WQ.lift (wpQ_move _ rfl rfl (.int .i64 (i : Int)) rfl) ?_
      simp only [Act.put, List.setIfInBounds_toArray, List.set_cons_zero, List.set_cons_succ]
      refine WQ.lift (wpQ_val rfl (.pointer (some ⟨w1.heap.size + 1, i, none⟩)) (fun w' _ => by go_simp)) ?_
      simp only [Act.put, List.setIfInBounds_toArray, List.set_cons_zero, List.set_cons_succ]
      refine WQ.lift (wpQ_load 22 (.tmp 56) rfl rfl (.pointer (some ⟨w1.heap.size + 1, i, none⟩)) rfl (.int .u32 (s : Int)) (fun w' hC => by
          have hcell : w'.cell? ⟨w1.heap.size + 1, i, none⟩ = some (.int .u32 (s : Int)) := (hC.cell (p := ⟨w1.heap.size + 1, i, none⟩) HSS.out.lt).trans cs
          go_simp)) ?_
      simp only [Act.put, List.setIfInBounds_toArray, List.set_cons_zero, List.set_cons_succ]
      refine WQ.lift (wpQ_val rfl (.int .i64 (s : Int)) (fun w' hC => by go_simp; exact IntWalk.i64_in _ (by omega))) ?_
      simp only [Act.put, List.setIfInBounds_toArray, List.set_cons_zero, List.set_cons_succ]
      refine WQ.lift (wpQ_move _ rfl rfl (.string st) rfl) ?_
      simp only [Act.put, List.setIfInBounds_toArray, List.set_cons_zero, List.set_cons_succ]
      refine WQ.lift (wpQ_move _ rfl rfl (.int .u32 (x : Int)) rfl) ?_
      simp only [Act.put, List.setIfInBounds_toArray, List.set_cons_zero, List.set_cons_succ]
      refine WQ.lift (wpQ_val rfl (.int .i64 (x : Int)) (fun w' hC => by go_simp; exact IntWalk.i64_in _ (by omega))) ?_
      simp only [Act.put, List.setIfInBounds_toArray, List.set_cons_zero, List.set_cons_succ]
      refine WQ.lift (wpQ_move _ rfl rfl (.int .u32 (y : Int)) rfl) ?_
      simp only [Act.put, List.setIfInBounds_toArray, List.set_cons_zero, List.set_cons_succ]
      refine WQ.lift (wpQ_val rfl (.int .i64 (y : Int)) (fun w' hC => by go_simp; exact IntWalk.i64_in _ (by omega))) ?_
      simp only [Act.put, List.setIfInBounds_toArray, List.set_cons_zero, List.set_cons_succ]
      refine WQ.lift (wpQ_fn 25 _ _ rfl rfl #[.string st, .int .i64 (x : Int), .int .i64 (y : Int)] rfl (fun _ => by go_simp) (.int .i64 (s : Int)) (fun w' hC => (ks w').mono fun e w'' ⟨he, hb⟩ => ⟨he, below_class hC hb⟩)) ?_
      simp only [Act.put, List.setIfInBounds_toArray, List.set_cons_zero, List.set_cons_succ]
      refine WQ.lift (wpQ_val rfl (.bool false) (fun w' hC => by go_simp)) ?_
      simp only [Act.put, List.setIfInBounds_toArray, List.set_cons_zero, List.set_cons_succ]
      refine WQ.lift (wpQ_pick _ _ _ rfl rfl false rfl (.bool false) rfl) ?_
      simp only [Act.put, List.setIfInBounds_toArray, List.set_cons_zero, List.set_cons_succ]
      refine WQ.mk (wpQuiet_nil ?_)
      intro w' hC
      have hG' := HG.out.below hC HG.out.lt
      have hP' := HSS.out.below hC HSS.out.lt
      have hS' := HS.out.below hC HS.out.lt
      have hb' := HB.out.trans (hC.mono HB.out.size)
      clear hC cg cs kz ks
      go_wp2_with fail
      go_roundw
      case rel => exact ⟨i + 1, by omega, by go_num, hG', hP', hS', hb'⟩
      case measure => simp [intOf] <;> omega
    · obtain rfl : i = 5 := by omega
      clear hG hP hS hb
      go_wp2_with (first
        | (go_at_call 14; with_reducible refine (kI _).mono ?_; rintro e w2 ⟨rfl, rfl⟩)
        | (go_at_call 19; with_reducible refine (bI _).mono ?_; rintro e w2 ⟨rfl, rfl⟩)
        | (go_at_call 15; with_reducible refine (kS _).mono ?_; rintro e w2 ⟨rfl, rfl⟩)
        | (go_at_call 20; with_reducible refine (bS _).mono ?_; rintro e w2 ⟨rfl, rfl⟩)
        | (go_at_call 16; with_reducible refine (kB _).mono ?_; rintro e w2 ⟨rfl, rfl⟩)
        | (go_at_call 21; with_reducible refine (bB _).mono ?_; rintro e w2 ⟨rfl, rfl⟩)
        | (go_at_call 17; with_reducible refine (kU _).mono ?_; rintro e w2 ⟨rfl, rfl⟩)
        | (go_at_call 22; with_reducible refine (bU _).mono ?_; rintro e w2 ⟨rfl, rfl⟩)
        | (go_at_call 18; with_reducible refine (kJ _).mono ?_; rintro e w2 ⟨rfl, rfl⟩)
        | (go_at_call 23; with_reducible refine (bJ _).mono ?_; rintro e w2 ⟨rfl, rfl⟩))
      go_ret
      exact ⟨rfl, HB.out⟩
end Go.Proofs.YtghfbdkfibbhoaaDoor
