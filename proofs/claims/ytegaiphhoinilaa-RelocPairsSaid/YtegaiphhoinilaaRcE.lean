/-
Layer 13: the reference's Value.
-/
import Derived.Test.YtegaiphhoinilaaRcD
import Derived.Test.YtegaiphhoinilaaJaA
import Derived.Deep.DeepCutAuto
namespace Go.Proofs.Ytegaiphhoinilaa.Rc
open Go Go.RowKit

theorem fC_len (en : Nat) (sg rl sy : Sl) : (fC en sg rl sy).size = 4 := rfl
theorem infoFi : (Try.prog.info? 36).map (·.size) = some 4 := by kernel_rfl
theorem load_file {w : World} {g : Nat} {cs : Array Value} (h : Has w g 36 cs) (hl : cs.size = 4) : (Instr.loadAt 36 (.pointer (some ⟨g, 0, none⟩))).run Try.prog w = .ok (.agg cs) w := by
  have hr : w.rangeAt g 0 cs.toList := fun i v hv => by
    rw [Nat.zero_add]
    have hi : i < cs.size := by have := (List.getElem?_eq_some_iff.1 hv).1; simpa using this
    have := h.cell i
    rw [this]
    simpa using hv
  have h2 := run_loadAt_mid w g 0 36 cs.toList _ hr Try.underlying36 rfl (by rw [infoFi]; simp [hl])
  simpa using h2
/-- what Value answers -/
def outV : Go1 → Value
  | .word v => .tuple #[.int .i64 (v : Int), .string ⟨#[87]⟩, .int .i64 0]
  | .num f v => .tuple #[.int .i64 (v : Int), .string (fmS f), .int .i64 0]
  | .bad e => .tuple #[.int .i64 0, .string ⟨#[]⟩, .int .i64 e]
theorem symP_lt (ss : List Nat) (B : Nat) (n : Int) : symP ss B n < 4294967296 := by
  unfold symP; split <;> omega
theorem size_two (w : World) (o q : Obj) : ((w.alloc o).alloc q).heap.size = w.heap.size + 2 := by
  show ((w.heap.push o).push q).size = _
  rw [Array.size_push, Array.size_push]
theorem sgP_mod (v : Nat) (h : v < 4294967296) : sgP v % 4294967296 = (v : Int) := by unfold sgP; split <;> omega
theorem sgP_in (v : Nat) (h : v < 4294967296) : -2147483648 ≤ sgP v ∧ sgP v < 2147483648 := by unfold sgP; split <;> omega
theorem wayB_iff (v most : Nat) (h : v < 4294967296) (hm : most ≤ 2147483648) : wayB v most = true ↔ (sgP v % 2 = 0 ∧ -(most : Int) ≤ sgP v ∧ sgP v < most) := by
  unfold wayB sgP
  by_cases h1 : 2147483648 ≤ v
  · simp only [if_pos h1]
    simp only [Bool.and_eq_true, decide_eq_true_eq]
    omega
  · simp only [if_neg h1]
    simp only [Bool.and_eq_true, decide_eq_true_eq]
    omega
/-- what is left for the other kinds -/
def loP (ss : List Nat) (B sa : Nat) (t : Int) (a : Nat) (l : List Re) : Go1 :=
  if a = 0 then (match hiP ss B sa l with
    | some v => .num (if t = 25 then .S else .I) v
    | none => .bad 13)
  else .bad 13
section
variable (ss : List Nat) (rs : List Re) (B p : Nat) (s : Int) (a : Nat)
theorem val_1 : valP ss rs B ⟨p, 1, s, a⟩ = .word ((symP ss B s + a) % 4294967296) := by simp [valP, saP]
theorem val_3 : valP ss rs B ⟨p, 3, s, a⟩ = .word ((B + a) % 4294967296) := by simp [valP]
theorem val_26 : valP ss rs B ⟨p, 26, s, a⟩ = .num .U ((symP ss B s + a) % 4294967296) := by simp [valP, saP]
theorem val_27 : valP ss rs B ⟨p, 27, s, a⟩ = .num .I ((symP ss B s + a) % 4294967296) := by simp [valP, saP]
theorem val_28 : valP ss rs B ⟨p, 28, s, a⟩ = .num .S ((symP ss B s + a) % 4294967296) := by simp [valP, saP]
theorem val_u (t : Int) (ht : t = 18 ∨ t = 19 ∨ t = 23) : valP ss rs B ⟨p, t, s, a⟩ = .num .U (wayP ss B ⟨p, t, s, a⟩) := by
  rcases ht with rfl | rfl | rfl <;> simp [valP]
theorem val_16 : valP ss rs B ⟨p, 16, s, a⟩ = if wayB (wayP ss B ⟨p, 16, s, a⟩) 4096 = true then .num .B (wayP ss B ⟨p, 16, s, a⟩) else .bad 14 := by simp [valP]
theorem val_17 : valP ss rs B ⟨p, 17, s, a⟩ = if wayB (wayP ss B ⟨p, 17, s, a⟩) 1048576 = true then .num .J (wayP ss B ⟨p, 17, s, a⟩) else .bad 14 := by simp [valP]
theorem val_lo (t : Int) (h : t ≠ 1 ∧ t ≠ 3 ∧ t ≠ 16 ∧ t ≠ 17 ∧ t ≠ 18 ∧ t ≠ 19 ∧ t ≠ 23 ∧ t ≠ 26 ∧ t ≠ 27 ∧ t ≠ 28) : valP ss rs B ⟨p, t, s, a⟩ = loP ss B ((symP ss B s + a) % 4294967296) t a rs := by
  obtain ⟨h1, h2, h3, h4, h5, h6, h7, h8, h9, h10⟩ := h
  simp only [valP, h1, h2, h3, h4, h5, h6, h7, h8, h9, h10, if_false, or_self]
  rfl
end
theorem drop_re (rs : List Re) (i : Nat) (hi : i < rs.length) : rs.drop i = rs.getD i re0 :: rs.drop (i + 1) := by
  rw [List.drop_eq_getElem_cons hi, List.getD_eq_getElem?_getD, List.getElem?_eq_getElem hi]
  rfl
theorem at_re (b o n c j : Nat) (hj : (j : Int) < (n : Int)) (w : World) : (Instr.indexAt 23 (.slice (some ⟨b, o, none⟩) n c) (.int .i64 (j : Int))).run Try.prog w = .ok (.pointer (some ⟨b, o + j * 4, none⟩)) w := by
  have h2 := Addr.add_mid b o (j * 4)
  go_simp
theorem one_new (w : World) (u : Array Value) (t : TypeId) : ∃ wa, wa = w.alloc (.cells u t) ∧ Has wa w.heap.size t u ∧ Below w.heap.size w wa ∧ wa.heap.size = w.heap.size + 1 :=
  ⟨_, rfl, Has.new _ _ _, (Below.refl _ _).alloc (Nat.le_refl _) _, Array.size_push _⟩
theorem lo_hit (ss : List Nat) (B sa : Nat) (t : Int) (h : Re) (l : List Re) (ht : h.t = 23) (hp : atP B h = sa) : loP ss B sa t 0 (h :: l) = .num (if t = 25 then .S else .I) (wayP ss B h) := by
  unfold loP hiP
  rw [if_pos rfl, if_pos ⟨ht, hp⟩]
theorem lo_miss (ss : List Nat) (B sa : Nat) (t : Int) (a : Nat) (h : Re) (l : List Re) (hn : ¬(h.t = 23 ∧ atP B h = sa ∧ a = 0)) : loP ss B sa t a (h :: l) = loP ss B sa t a l := by
  unfold loP
  by_cases ha : a = 0
  · rw [if_pos ha, if_pos ha, show hiP ss B sa (h :: l) = hiP ss B sa l from if_neg (fun hh => hn ⟨hh.1, hh.2, ha⟩)]
  · rw [if_neg ha, if_neg ha]
set_option maxRecDepth 100000 in
set_option maxHeartbeats 8000000 in
theorem value_any (ss : List Nat) (rs : List Re) (p : Nat) (t s : Int) (a B en : Nat) (sg rl sy : Sl) (w : World) (hS : SlN w sy ss) (hR : SlR w rl rs) (hw : Re.Wf ⟨p, t, s, a⟩) (hB : B < 4294967296) :
    Calls Try.prog 14 #[.agg (fC en sg rl sy), .int .i64 (B : Int), .agg (reC ⟨p, t, s, a⟩)] w fun e w' => e = .returned (outV (valP ss rs B ⟨p, t, s, a⟩)) ∧ Below w.heap.size w w' := by
  obtain ⟨A1, n1, c1⟩ := sg
  obtain ⟨A2, n2, c2⟩ := rl
  obtain ⟨A, m, c⟩ := sy
  have hp : p < 4294967296 := hw.p
  have ha : a < 4294967296 := hw.a
  have hF0 : Has (w.alloc (.cells (fC en ⟨A1, n1, c1⟩ ⟨A2, n2, c2⟩ ⟨A, m, c⟩) 36)) w.heap.size 36 (fC en ⟨A1, n1, c1⟩ ⟨A2, n2, c2⟩ ⟨A, m, c⟩) := Has.new _ _ _
  have hb0 : Below w.heap.size w (w.alloc (.cells (fC en ⟨A1, n1, c1⟩ ⟨A2, n2, c2⟩ ⟨A, m, c⟩) 36)) := (Below.refl _ _).alloc (Nat.le_refl _) _
  obtain ⟨res, hres⟩ : ∃ res, res = valP ss rs B ⟨p, t, s, a⟩ := ⟨_, rfl⟩
  rw [← hres]
  have HRES := Lib.hid hres
  have HS := Lib.hid hS
  have HR := Lib.hid hR
  clear hres hS hR hw
  have hl := low_any ((B : Int) + (p : Int))
  rw [low_at] at hl
  go_enter Try.func14, Try.ntmps14
  go_upto_region 1 with fail
  have hF1 : Has ((w.alloc (.cells (fC en ⟨A1, n1, c1⟩ ⟨A2, n2, c2⟩ ⟨A, m, c⟩) 36)).alloc (.cells (reC ⟨p, t, s, a⟩) 43)) w.heap.size 36 (fC en ⟨A1, n1, c1⟩ ⟨A2, n2, c2⟩ ⟨A, m, c⟩) := hF0.after ((Below.refl _ _).alloc (Nat.le_refl _) _)
  have hR1 : Has ((w.alloc (.cells (fC en ⟨A1, n1, c1⟩ ⟨A2, n2, c2⟩ ⟨A, m, c⟩) 36)).alloc (.cells (reC ⟨p, t, s, a⟩) 43)) (w.alloc (.cells (fC en ⟨A1, n1, c1⟩ ⟨A2, n2, c2⟩ ⟨A, m, c⟩) 36)).heap.size 43 (reC ⟨p, t, s, a⟩) := Has.new _ _ _
  have hb1 : Below w.heap.size w ((w.alloc (.cells (fC en ⟨A1, n1, c1⟩ ⟨A2, n2, c2⟩ ⟨A, m, c⟩) 36)).alloc (.cells (reC ⟨p, t, s, a⟩) 43)) := hb0.alloc hb0.size _
  rw [show (w.alloc (.cells (fC en ⟨A1, n1, c1⟩ ⟨A2, n2, c2⟩ ⟨A, m, c⟩) 36)).heap.size = w.heap.size + 1 from Array.size_push _] at hR1
  have HB1 := Lib.hid hb1
  have HS1 := Lib.hid (HS.out.below hb1)
  have HR1 := Lib.hid (HR.out.below hb1)
  have hsz := size_two w (.cells (fC en ⟨A1, n1, c1⟩ ⟨A2, n2, c2⟩ ⟨A, m, c⟩) 36) (.cells (reC ⟨p, t, s, a⟩) 43)
  clear hF0 hb0 hb1 HS HR
  generalize ((w.alloc (.cells (fC en ⟨A1, n1, c1⟩ ⟨A2, n2, c2⟩ ⟨A, m, c⟩) 36)).alloc (.cells (reC ⟨p, t, s, a⟩) 43)) = u at *
  obtain ⟨gR, hgR0⟩ : ∃ g, g = w.heap.size + 1 := ⟨_, rfl⟩
  obtain ⟨gF, hgF0⟩ : ∃ g, g = w.heap.size := ⟨_, rfl⟩
  rw [← hgR0] at hR1 ⊢
  rw [← hgF0] at hF1 ⊢
  have hgR : gR < u.heap.size := by omega
  have hgF : gF < u.heap.size := by omega
  clear hgR0 hgF0 hsz
  have HF := Lib.hid hF1
  have hr0 : u.cell? ⟨gR, 0, none⟩ = some (.int .u32 (p : Int)) := hR1.cell 0
  have hr1 : u.cell? ⟨gR, 1, none⟩ = some (.int .i64 t) := hR1.cell 1
  have hr2 : u.cell? ⟨gR, 2, none⟩ = some (.int .i64 s) := hR1.cell 2
  have hr3 : u.cell? ⟨gR, 3, none⟩ = some (.int .u32 (a : Int)) := hR1.cell 3
  clear hF1 hR1
  have hxl : (B + p) % 4294967296 < 4294967296 := by omega
  obtain ⟨x, hx⟩ : ∃ x, x = (B + p) % 4294967296 := ⟨_, rfl⟩
  rw [← hx] at hl hxl
  obtain ⟨y, hy⟩ : ∃ y, y = symP ss B s := ⟨_, rfl⟩
  have hyl : y < 4294967296 := by rw [hy]; exact symP_lt _ _ _
  obtain ⟨sa, hsa⟩ : ∃ sa, sa = (y + a) % 4294967296 := ⟨_, rfl⟩
  have hsal : sa < 4294967296 := by omega
  have KY : Hid (∀ W, Below u.heap.size u W → Calls Try.prog 29 #[.agg (fC en ⟨A1, n1, c1⟩ ⟨A2, n2, c2⟩ ⟨A, m, c⟩), .int .i64 (B : Int), .int .i64 s] W fun e w' => e = .returned (.int .i64 (y : Int)) ∧ Below W.heap.size W w') := Lib.hid (fun W hW => by rw [hy]; exact sym_any ss B en s _ _ _ W (HS1.out.below hW) hB)
  have KS : Hid (∀ W, Below u.heap.size u W → Calls Try.prog 25 #[.int .i64 ((y : Int) + (a : Int))] W fun e w' => e = .returned (.int .i64 (sa : Int)) ∧ Below W.heap.size W w') := Lib.hid (fun W _ => (low_any ((y : Int) + (a : Int)) W (by omega) (by omega)).mono fun e w' h => by
    obtain ⟨h1, rfl⟩ := h
    refine ⟨?_, Below.refl _ _⟩
    rw [h1, show ((y : Int) + (a : Int)) % 4294967296 = (sa : Int) by omega])
  have HSA : Hid (sa = (symP ss B s + a) % 4294967296) := Lib.hid (by rw [hsa, hy])
  have HX : Hid (x = (B + p) % 4294967296) := Lib.hid hx
  have HWY : Hid ((sa + 4294967296 - x) % 4294967296 = wayP ss B ⟨p, t, s, a⟩) := Lib.hid (by rw [hsa, hy, hx]; rfl)
  clear hy hsa hx
  go_wp2_with fail
  refine (hl _ (by omega) (by omega)).mono ?_
  rintro e u0 ⟨rfl, rfl⟩
  dsimp only
  clear hl
  go_upto_region 2 with fail
  refine region_quiet_all (Below u.heap.size u) (by kernel_rfl) (by kernel_rfl) (below_drewN (Below.refl _ _) 1) ?_
  refine WQ.out ?_
  refine WQ.lift (wpQ_load 36 (.tmp 3) rfl rfl (.pointer (some ⟨gF, 0, none⟩)) rfl (.agg (fC en ⟨A1, n1, c1⟩ ⟨A2, n2, c2⟩ ⟨A, m, c⟩)) (fun w' hC => load_file (HF.out.after hC) (fC_len _ _ _ _))) ?_
  simp only [Act.put, List.setIfInBounds_toArray, List.set_cons_zero, List.set_cons_succ]
  refine WQ.lift (wpQ_move _ rfl rfl (.int .i64 (B : Int)) rfl) ?_
  simp only [Act.put, List.setIfInBounds_toArray, List.set_cons_zero, List.set_cons_succ]
  refine WQ.lift (wpQ_val rfl (.pointer (some ⟨gR, 2, none⟩)) (fun w' _ => by go_simp)) ?_
  simp only [Act.put, List.setIfInBounds_toArray, List.set_cons_zero, List.set_cons_succ]
  refine WQ.lift (wpQ_load 3 (.tmp 26) rfl rfl (.pointer (some ⟨gR, 2, none⟩)) rfl (.int .i64 s) (fun w' hC => by
      have hcell : w'.cell? ⟨gR, 2, none⟩ = some (.int .i64 s) := (hC.cell (p := ⟨gR, 2, none⟩) hgR).trans hr2
      go_simp)) ?_
  simp only [Act.put, List.setIfInBounds_toArray, List.set_cons_zero, List.set_cons_succ]
  refine WQ.lift (wpQ_fn 29 _ _ rfl rfl #[.agg (fC en ⟨A1, n1, c1⟩ ⟨A2, n2, c2⟩ ⟨A, m, c⟩), .int .i64 (B : Int), .int .i64 s] rfl (fun _ => by go_simp) (.int .i64 (y : Int)) (fun w' hC => (KY.out w' hC).mono fun e w'' ⟨he, hb⟩ => ⟨he, below_class hC hb⟩)) ?_
  simp only [Act.put, List.setIfInBounds_toArray, List.set_cons_zero, List.set_cons_succ]
  refine WQ.lift (wpQ_val rfl (.pointer (some ⟨gR, 3, none⟩)) (fun w' _ => by go_simp)) ?_
  simp only [Act.put, List.setIfInBounds_toArray, List.set_cons_zero, List.set_cons_succ]
  refine WQ.lift (wpQ_load 24 (.tmp 29) rfl rfl (.pointer (some ⟨gR, 3, none⟩)) rfl (.int .u32 (a : Int)) (fun w' hC => by
      have hcell : w'.cell? ⟨gR, 3, none⟩ = some (.int .u32 (a : Int)) := (hC.cell (p := ⟨gR, 3, none⟩) hgR).trans hr3
      go_simp)) ?_
  simp only [Act.put, List.setIfInBounds_toArray, List.set_cons_zero, List.set_cons_succ]
  refine WQ.lift (wpQ_val rfl (.int .i64 (a : Int)) (fun w' hC => by go_simp; exact IntWalk.i64_in _ (by omega))) ?_
  simp only [Act.put, List.setIfInBounds_toArray, List.set_cons_zero, List.set_cons_succ]
  refine WQ.lift (wpQ_val rfl (.int .i64 ((y : Int) + (a : Int))) (fun w' hC => by go_simp; exact IntWalk.i64_in _ (by omega))) ?_
  simp only [Act.put, List.setIfInBounds_toArray, List.set_cons_zero, List.set_cons_succ]
  refine WQ.lift (wpQ_fn 25 _ _ rfl rfl #[.int .i64 ((y : Int) + (a : Int))] rfl (fun _ => by go_simp) (.int .i64 (sa : Int)) (fun w' hC => (KS.out w' hC).mono fun e w'' ⟨he, hb⟩ => ⟨he, below_class hC hb⟩)) ?_
  simp only [Act.put, List.setIfInBounds_toArray, List.set_cons_zero, List.set_cons_succ]
  refine WQ.lift (wpQ_assign _ rfl rfl (.int .i64 (sa : Int)) rfl) ?_
  simp only [Act.put, List.setIfInBounds_toArray, List.set_cons_zero, List.set_cons_succ]
  refine WQ.mk (wpQuiet_nil ?_)
  intro u2 hC
  have HB2 : Hid (Below w.heap.size w u2) := Lib.hid (HB1.out.trans (hC.mono HB1.out.size))
  have HS2 := Lib.hid (HS1.out.below hC)
  have HR2 := Lib.hid (HR1.out.below hC)
  have HF2 := Lib.hid (HF.out.after hC)
  have k0 := (hC.cell (p := ⟨gR, 0, none⟩) hgR).trans hr0
  have k1 := (hC.cell (p := ⟨gR, 1, none⟩) hgR).trans hr1
  have k2 := (hC.cell (p := ⟨gR, 2, none⟩) hgR).trans hr2
  have k3 := (hC.cell (p := ⟨gR, 3, none⟩) hgR).trans hr3
  have hg2R : gR < u2.heap.size := Nat.lt_of_lt_of_le hgR hC.size
  have hg2F : gF < u2.heap.size := Nat.lt_of_lt_of_le hgF hC.size
  clear hr0 hr1 hr2 hr3 hC KY KS HS1 HR1 HF HB1 hgR hgF
  have hvl : (sa + 4294967296 - x) % 4294967296 < 4294967296 := by omega
  obtain ⟨v, hv⟩ : ∃ v, v = (sa + 4294967296 - x) % 4294967296 := ⟨_, rfl⟩
  have HV : Hid (v = wayP ss B ⟨p, t, s, a⟩) := Lib.hid (hv.trans HWY.out)
  have hvm : ((sa : Int) - (x : Int)) % 4294967296 = (v : Int) := by omega
  rw [← hv] at hvl
  clear hv HWY
  by_cases t1 : t = 1
  · subst t1
    have HE := Lib.hid (HRES.out.trans (val_1 ss rs B p s a))
    go_wp2_with fail
    go_ret3
    refine ⟨?_, HB2.out⟩
    rw [HE.out]
    show _ = Ending.returned (.tuple #[.int .i64 (((symP ss B s + a) % 4294967296 : Nat) : Int), _, _]); rw [← HSA.out]; rfl
  by_cases t3 : t = 3
  · subst t3
    have HE := Lib.hid (HRES.out.trans (val_3 ss rs B p s a))
    have kL := low_any ((B : Int) + (a : Int)) u2 (by omega) (by omega)
    rw [low_at] at kL
    go_wp2_with fail
    refine kL.mono ?_
    rintro e u3 ⟨rfl, rfl⟩
    dsimp only
    go_wp2_with fail
    go_ret3
    refine ⟨?_, HB2.out⟩
    rw [HE.out]
    rfl
  by_cases t16 : t = 16
  · subst t16
    have he := HRES.out.trans (val_16 ss rs B p s a)
    rw [← HV.out] at he
    have HE := Lib.hid he
    have HW := Lib.hid (wayB_iff v 4096 hvl (by decide))
    have hzm := sgP_mod v hvl
    obtain ⟨hz1, hz2⟩ := sgP_in v hvl
    have kS := signed_any ((sa : Int) - (x : Int)) v u2 (by omega) (by omega) hvm
    clear he
    go_wp2_with fail
    refine kS.mono ?_
    rintro e u3 ⟨rfl, rfl⟩
    dsimp only
    generalize sgP v = z at *
    by_cases q1 : z % 2 = 0
    · have q1' : z.tmod 2 = 0 := by rw [Int.tmod_eq_emod]; split <;> omega
      by_cases q2 : -(4096 : Int) ≤ z
      · by_cases q3 : z < (4096 : Int)
        · have q2' : ¬ z < -(4096 : Int) := by omega
          have q3' : ¬ (4096 : Int) ≤ z := by omega
          have kZ := low_any z u2 (by omega) (by omega)
          rw [hzm] at kZ
          go_wp2_with fail
          refine kZ.mono ?_
          rintro e u4 ⟨rfl, rfl⟩
          dsimp only
          go_wp2_with fail
          go_ret3
          refine ⟨?_, HB2.out⟩
          rw [HE.out, if_pos (HW.out.2 ⟨q1, by omega, by omega⟩)]
          rfl
        · have q2' : ¬ z < -(4096 : Int) := by omega
          have q3' : (4096 : Int) ≤ z := by omega
          go_wp2_with fail
          go_ret3
          refine ⟨?_, HB2.out⟩
          rw [HE.out, if_neg (fun h => by have h2 := HW.out.1 h; omega)]
          rfl
      · have q2' : z < -(4096 : Int) := by omega
        go_wp2_with fail
        go_ret3
        refine ⟨?_, HB2.out⟩
        rw [HE.out, if_neg (fun h => by have h2 := HW.out.1 h; omega)]
        rfl
    · have q1' : ¬ z.tmod 2 = 0 := by rw [Int.tmod_eq_emod]; split <;> omega
      go_wp2_with fail
      go_ret3
      refine ⟨?_, HB2.out⟩
      rw [HE.out, if_neg (fun h => by have h2 := HW.out.1 h; omega)]
      rfl
  by_cases t17 : t = 17
  · subst t17
    have he := HRES.out.trans (val_17 ss rs B p s a)
    rw [← HV.out] at he
    have HE := Lib.hid he
    have HW := Lib.hid (wayB_iff v 1048576 hvl (by decide))
    have hzm := sgP_mod v hvl
    obtain ⟨hz1, hz2⟩ := sgP_in v hvl
    have kS := signed_any ((sa : Int) - (x : Int)) v u2 (by omega) (by omega) hvm
    clear he
    go_wp2_with fail
    refine kS.mono ?_
    rintro e u3 ⟨rfl, rfl⟩
    dsimp only
    generalize sgP v = z at *
    by_cases q1 : z % 2 = 0
    · have q1' : z.tmod 2 = 0 := by rw [Int.tmod_eq_emod]; split <;> omega
      by_cases q2 : -(1048576 : Int) ≤ z
      · by_cases q3 : z < (1048576 : Int)
        · have q2' : ¬ z < -(1048576 : Int) := by omega
          have q3' : ¬ (1048576 : Int) ≤ z := by omega
          have kZ := low_any z u2 (by omega) (by omega)
          rw [hzm] at kZ
          go_wp2_with fail
          refine kZ.mono ?_
          rintro e u4 ⟨rfl, rfl⟩
          dsimp only
          go_wp2_with fail
          go_ret3
          refine ⟨?_, HB2.out⟩
          rw [HE.out, if_pos (HW.out.2 ⟨q1, by omega, by omega⟩)]
          rfl
        · have q2' : ¬ z < -(1048576 : Int) := by omega
          have q3' : (1048576 : Int) ≤ z := by omega
          go_wp2_with fail
          go_ret3
          refine ⟨?_, HB2.out⟩
          rw [HE.out, if_neg (fun h => by have h2 := HW.out.1 h; omega)]
          rfl
      · have q2' : z < -(1048576 : Int) := by omega
        go_wp2_with fail
        go_ret3
        refine ⟨?_, HB2.out⟩
        rw [HE.out, if_neg (fun h => by have h2 := HW.out.1 h; omega)]
        rfl
    · have q1' : ¬ z.tmod 2 = 0 := by rw [Int.tmod_eq_emod]; split <;> omega
      go_wp2_with fail
      go_ret3
      refine ⟨?_, HB2.out⟩
      rw [HE.out, if_neg (fun h => by have h2 := HW.out.1 h; omega)]
      rfl
  by_cases t18 : t = 18
  · subst t18
    have HE := Lib.hid ((HRES.out.trans (val_u ss rs B p s a 18 (by decide))))
    have kL := low_any ((sa : Int) - (x : Int)) u2 (by omega) (by omega)
    rw [hvm] at kL
    go_wp2_with fail
    refine kL.mono ?_
    rintro e u3 ⟨rfl, rfl⟩
    dsimp only
    go_wp2_with fail
    go_ret3
    refine ⟨?_, HB2.out⟩
    rw [HE.out, ← HV.out]
    rfl
  by_cases t19 : t = 19
  · subst t19
    have HE := Lib.hid ((HRES.out.trans (val_u ss rs B p s a 19 (by decide))))
    have kL := low_any ((sa : Int) - (x : Int)) u2 (by omega) (by omega)
    rw [hvm] at kL
    go_wp2_with fail
    refine kL.mono ?_
    rintro e u3 ⟨rfl, rfl⟩
    dsimp only
    go_wp2_with fail
    go_ret3
    refine ⟨?_, HB2.out⟩
    rw [HE.out, ← HV.out]
    rfl
  by_cases t23 : t = 23
  · subst t23
    have HE := Lib.hid ((HRES.out.trans (val_u ss rs B p s a 23 (by decide))))
    have kL := low_any ((sa : Int) - (x : Int)) u2 (by omega) (by omega)
    rw [hvm] at kL
    go_wp2_with fail
    refine kL.mono ?_
    rintro e u3 ⟨rfl, rfl⟩
    dsimp only
    go_wp2_with fail
    go_ret3
    refine ⟨?_, HB2.out⟩
    rw [HE.out, ← HV.out]
    rfl
  by_cases t26 : t = 26
  · subst t26
    have HE := Lib.hid (HRES.out.trans (val_26 ss rs B p s a))
    go_wp2_with fail
    go_ret3
    refine ⟨?_, HB2.out⟩
    rw [HE.out]
    show _ = Ending.returned (.tuple #[.int .i64 (((symP ss B s + a) % 4294967296 : Nat) : Int), _, _]); rw [← HSA.out]; rfl
  by_cases t27 : t = 27
  · subst t27
    have HE := Lib.hid (HRES.out.trans (val_27 ss rs B p s a))
    go_wp2_with fail
    go_ret3
    refine ⟨?_, HB2.out⟩
    rw [HE.out]
    show _ = Ending.returned (.tuple #[.int .i64 (((symP ss B s + a) % 4294967296 : Nat) : Int), _, _]); rw [← HSA.out]; rfl
  by_cases t28 : t = 28
  · subst t28
    have HE := Lib.hid (HRES.out.trans (val_28 ss rs B p s a))
    go_wp2_with fail
    go_ret3
    refine ⟨?_, HB2.out⟩
    rw [HE.out]
    show _ = Ending.returned (.tuple #[.int .i64 (((symP ss B s + a) % 4294967296 : Nat) : Int), _, _]); rw [← HSA.out]; rfl
  have f1 : (t == 1) = false := beq_eq_false_iff_ne.2 t1
  have f3 : (t == 3) = false := beq_eq_false_iff_ne.2 t3
  have f16 : (t == 16) = false := beq_eq_false_iff_ne.2 t16
  have f17 : (t == 17) = false := beq_eq_false_iff_ne.2 t17
  have f18 : (t == 18) = false := beq_eq_false_iff_ne.2 t18
  have f19 : (t == 19) = false := beq_eq_false_iff_ne.2 t19
  have f23 : (t == 23) = false := beq_eq_false_iff_ne.2 t23
  have f26 : (t == 26) = false := beq_eq_false_iff_ne.2 t26
  have f27 : (t == 27) = false := beq_eq_false_iff_ne.2 t27
  have f28 : (t == 28) = false := beq_eq_false_iff_ne.2 t28
  have hlo := HRES.out.trans (val_lo ss rs B p s a t ⟨t1, t3, t16, t17, t18, t19, t23, t26, t27, t28⟩)
  rw [← HSA.out] at hlo
  have HLO0 : Hid (loP ss B sa t a (rs.drop 0) = res) := Lib.hid (by rw [List.drop_zero, hlo])
  have hlen : rs.length = n2 := HR2.out.1
  have h47 : n2 ≤ 140737488355328 := HR2.out.2.2.1.2
  clear hlo t1 t3 t16 t17 t18 t19 t23 t26 t27 t28 HSA HX HV hvm hvl k0 k2 HRES
  have K1 := Lib.hid k1
  have K3 := Lib.hid k3
  go_wp2_with fail
  clear k1 k3
  go_loopw [14] (fun ct wr => ∃ i : Nat, i ≤ n2 ∧ ct = .int .i64 (i : Int) ∧ Hid (loP ss B sa t a (rs.drop i) = res) ∧ Below u2.heap.size u2 wr) (fun ct _ => (n2 - (intOf ct)).toNat)
  case atStart => exact ⟨0, Nat.zero_le _, rfl, HLO0, Below.refl _ _⟩
  case round =>
    obtain ⟨i, hi, rfl, HLO, hb⟩ := hrel
    have hf2 : wr.cell? ⟨gF, 2, none⟩ = some (.slice A2 n2 c2) := (hb.cell (p := ⟨gF, 2, none⟩) hg2F).trans (HF2.out.cell 2)
    by_cases hlt : i < n2
    · have di : (i : Int) < (n2 : Int) := by omega
      obtain ⟨bb, oo, hA, hbl, hc⟩ := (HR2.out.below hb).2.2.2 (by show 0 < n2; omega)
      replace hA : A2 = some ⟨bb, oo, none⟩ := hA
      subst hA
      have hwf := getD_all (P := Re.Wf) (d := re0) HR2.out.2.1 (j := i) (by omega)
      have e0 : wr.cell? ⟨bb, oo + i * 4, none⟩ = some (.int .u32 ((rs.getD i re0).p : Int)) := hc i 0 hlt (by decide)
      have e1 : wr.cell? ⟨bb, oo + i * 4 + 1, none⟩ = some (.int .i64 (rs.getD i re0).t) := hc i 1 hlt (by decide)
      have e2 : wr.cell? ⟨bb, oo + i * 4 + 2, none⟩ = some (.int .i64 (rs.getD i re0).s) := hc i 2 hlt (by decide)
      have e3 : wr.cell? ⟨bb, oo + i * 4 + 3, none⟩ = some (.int .u32 ((rs.getD i re0).a : Int)) := hc i 3 hlt (by decide)
      have HDR := Lib.hid (drop_re rs i (by omega))
      clear hc
      generalize rs.getD i re0 = h at *
      obtain ⟨ph, th, sh, ah⟩ := h
      dsimp only at e0 e1 e2 e3
      have hph : ph < 4294967296 := hwf.p
      have hah : ah < 4294967296 := hwf.a
      have hat := fun W => at_re bb oo n2 c2 i di W
      have HB := Lib.hid hb
      have hszr := hb.size
      clear hwf hb
      go_upto_region 33 with fail
      obtain ⟨wa, hwa, hX, hba, hs3⟩ := one_new wr #[.int .u32 (ph : Int), .int .i64 th, .int .i64 sh, .int .u32 (ah : Int)] 43
      rw [← hwa]
      have hbu := HB.out.trans (hba.mono HB.out.size)
      have HBU := Lib.hid hbu
      have HBA : Hid (Below w.heap.size w wa) := Lib.hid (HB2.out.trans (hbu.mono HB2.out.size))
      have HF3 := Lib.hid (HF2.out.after hbu)
      have HS3 := Lib.hid (HS2.out.below hbu)
      have g1 : wa.cell? ⟨gR, 1, none⟩ = some (.int .i64 t) := (hbu.cell (p := ⟨gR, 1, none⟩) hg2R).trans K1.out
      have g3' : wa.cell? ⟨gR, 3, none⟩ = some (.int .u32 (a : Int)) := (hbu.cell (p := ⟨gR, 3, none⟩) hg2R).trans K3.out
      obtain ⟨g3, hg30⟩ : ∃ g, g = wr.heap.size := ⟨_, rfl⟩
      rw [← hg30] at hX ⊢
      have hg3 : g3 < wa.heap.size := by omega
      clear e0 e1 e2 e3
      have e0 : wa.cell? ⟨g3, 0, none⟩ = some (.int .u32 (ph : Int)) := hX.cell 0
      have e1 : wa.cell? ⟨g3, 1, none⟩ = some (.int .i64 th) := hX.cell 1
      have e2 : wa.cell? ⟨g3, 2, none⟩ = some (.int .i64 sh) := hX.cell 2
      have e3 : wa.cell? ⟨g3, 3, none⟩ = some (.int .u32 (ah : Int)) := hX.cell 3
      clear hwa hX hba hs3 hg30 hbu hf2 hbl hat hszr
      obtain ⟨xh, hxh⟩ : ∃ xh, xh = (B + ph) % 4294967296 := ⟨_, rfl⟩
      have hl := low_any ((B : Int) + (ph : Int)) wa (by omega) (by omega)
      rw [low_at, ← hxh] at hl
      obtain ⟨yh, hyh⟩ : ∃ yh, yh = symP ss B sh := ⟨_, rfl⟩
      have hyhl : yh < 4294967296 := by rw [hyh]; exact symP_lt _ _ _
      obtain ⟨vh, hvh⟩ : ∃ vh, vh = ((yh + ah) % 4294967296 + 4294967296 - xh) % 4294967296 := ⟨_, rfl⟩
      have hxhl : xh < 4294967296 := by omega
      have KY : Hid (∀ W, Below wa.heap.size wa W → Calls Try.prog 29 #[.agg (fC en ⟨A1, n1, c1⟩ ⟨some ⟨bb, oo, none⟩, n2, c2⟩ ⟨A, m, c⟩), .int .i64 (B : Int), .int .i64 sh] W fun e w' => e = .returned (.int .i64 (yh : Int)) ∧ Below W.heap.size W w') := Lib.hid (fun W hW => by rw [hyh]; exact sym_any ss B en sh _ _ _ W (HS3.out.below hW) hB)
      have KV : Hid (∀ W, Below wa.heap.size wa W → Calls Try.prog 25 #[.int .i64 ((yh : Int) + (ah : Int) - (xh : Int))] W fun e w' => e = .returned (.int .i64 (vh : Int)) ∧ Below W.heap.size W w') := Lib.hid (fun W _ => (low_any ((yh : Int) + (ah : Int) - (xh : Int)) W (by omega) (by omega)).mono fun e w' h => by
        obtain ⟨h1, rfl⟩ := h
        refine ⟨?_, Below.refl _ _⟩
        rw [h1, show ((yh : Int) + (ah : Int) - (xh : Int)) % 4294967296 = (vh : Int) by omega])
      have HVH : Hid (vh = wayP ss B ⟨ph, th, sh, ah⟩) := Lib.hid (by rw [hvh, hyh, hxh]; rfl)
      have HXH : Hid (xh = atP B ⟨ph, th, sh, ah⟩) := Lib.hid hxh
      clear hvh hyh hxh
      go_wp2_with fail
      refine hl.mono ?_
      rintro e u4 ⟨rfl, rfl⟩
      dsimp only
      clear hl
      by_cases q1 : th = 23
      · have p1 : (th == 23) = true := beq_iff_eq.2 q1
        by_cases q2 : xh = sa
        · have p2 : ((xh : Int) == (sa : Int)) = true := beq_iff_eq.2 (by rw [q2])
          by_cases q3 : a = 0
          · have p3 : ((a : Int) == 0) = true := beq_iff_eq.2 (by omega)
            have HRV : Hid (res = .num (if t = 25 then .S else .I) (wayP ss B ⟨ph, th, sh, ah⟩)) := Lib.hid (by rw [← HLO.out, HDR.out, q3]; exact lo_hit ss B sa t _ _ q1 (HXH.out.symm.trans q2))
            clear q1 q2 q3
            by_cases q4 : t = 25
            · have p4 : (t == 25) = true := beq_iff_eq.2 q4
              have HQ4 := Lib.hid q4
              clear q4
              go_upto_region 38 with fail
              refine region_quiet_all (Below wa.heap.size wa) (by kernel_rfl) (by kernel_rfl) (below_drewN (Below.refl _ _) 1) ?_
              refine WQ.out ?_
              refine WQ.lift (wpQ_load 36 (.tmp 3) rfl rfl (.pointer (some ⟨gF, 0, none⟩)) rfl (.agg (fC en ⟨A1, n1, c1⟩ ⟨some ⟨bb, oo, none⟩, n2, c2⟩ ⟨A, m, c⟩)) (fun w' hC => load_file (HF3.out.after hC) (fC_len _ _ _ _))) ?_
              simp only [Act.put, List.setIfInBounds_toArray, List.set_cons_zero, List.set_cons_succ]
              refine WQ.lift (wpQ_move _ rfl rfl (.int .i64 (B : Int)) rfl) ?_
              simp only [Act.put, List.setIfInBounds_toArray, List.set_cons_zero, List.set_cons_succ]
              refine WQ.lift (wpQ_val rfl (.pointer (some ⟨g3, 2, none⟩)) (fun w' _ => by go_simp)) ?_
              simp only [Act.put, List.setIfInBounds_toArray, List.set_cons_zero, List.set_cons_succ]
              refine WQ.lift (wpQ_load 3 (.tmp 127) rfl rfl (.pointer (some ⟨g3, 2, none⟩)) rfl (.int .i64 sh) (fun w' hC => by
                  have hcell : w'.cell? ⟨g3, 2, none⟩ = some (.int .i64 sh) := (hC.cell (p := ⟨g3, 2, none⟩) hg3).trans e2
                  go_simp)) ?_
              simp only [Act.put, List.setIfInBounds_toArray, List.set_cons_zero, List.set_cons_succ]
              refine WQ.lift (wpQ_fn 29 _ _ rfl rfl #[.agg (fC en ⟨A1, n1, c1⟩ ⟨some ⟨bb, oo, none⟩, n2, c2⟩ ⟨A, m, c⟩), .int .i64 (B : Int), .int .i64 sh] rfl (fun _ => by go_simp) (.int .i64 (yh : Int)) (fun w' hC => (KY.out w' hC).mono fun e w'' ⟨he, hb⟩ => ⟨he, below_class hC hb⟩)) ?_
              simp only [Act.put, List.setIfInBounds_toArray, List.set_cons_zero, List.set_cons_succ]
              refine WQ.lift (wpQ_val rfl (.pointer (some ⟨g3, 3, none⟩)) (fun w' _ => by go_simp)) ?_
              simp only [Act.put, List.setIfInBounds_toArray, List.set_cons_zero, List.set_cons_succ]
              refine WQ.lift (wpQ_load 24 (.tmp 130) rfl rfl (.pointer (some ⟨g3, 3, none⟩)) rfl (.int .u32 (ah : Int)) (fun w' hC => by
                  have hcell : w'.cell? ⟨g3, 3, none⟩ = some (.int .u32 (ah : Int)) := (hC.cell (p := ⟨g3, 3, none⟩) hg3).trans e3
                  go_simp)) ?_
              simp only [Act.put, List.setIfInBounds_toArray, List.set_cons_zero, List.set_cons_succ]
              refine WQ.lift (wpQ_val rfl (.int .i64 (ah : Int)) (fun w' hC => by go_simp; exact IntWalk.i64_in _ (by omega))) ?_
              simp only [Act.put, List.setIfInBounds_toArray, List.set_cons_zero, List.set_cons_succ]
              refine WQ.lift (wpQ_val rfl (.int .i64 ((yh : Int) + (ah : Int))) (fun w' hC => by go_simp; exact IntWalk.i64_in _ (by omega))) ?_
              simp only [Act.put, List.setIfInBounds_toArray, List.set_cons_zero, List.set_cons_succ]
              refine WQ.lift (wpQ_move _ rfl rfl (.int .i64 (xh : Int)) rfl) ?_
              simp only [Act.put, List.setIfInBounds_toArray, List.set_cons_zero, List.set_cons_succ]
              refine WQ.lift (wpQ_val rfl (.int .i64 ((yh : Int) + (ah : Int) - (xh : Int))) (fun w' hC => by go_simp; exact IntWalk.i64_in _ (by omega))) ?_
              simp only [Act.put, List.setIfInBounds_toArray, List.set_cons_zero, List.set_cons_succ]
              refine WQ.lift (wpQ_fn 25 _ _ rfl rfl #[.int .i64 ((yh : Int) + (ah : Int) - (xh : Int))] rfl (fun _ => by go_simp) (.int .i64 (vh : Int)) (fun w' hC => (KV.out w' hC).mono fun e w'' ⟨he, hb⟩ => ⟨he, below_class hC hb⟩)) ?_
              simp only [Act.put, List.setIfInBounds_toArray, List.set_cons_zero, List.set_cons_succ]
              refine WQ.lift (wpQ_move _ rfl rfl (.string ⟨#[83]⟩) rfl) ?_
              simp only [Act.put, List.setIfInBounds_toArray, List.set_cons_zero, List.set_cons_succ]
              refine WQ.lift (wpQ_assign _ rfl rfl (.int .i64 (vh : Int)) rfl) ?_
              simp only [Act.put, List.setIfInBounds_toArray, List.set_cons_zero, List.set_cons_succ]
              refine WQ.lift (wpQ_assign _ rfl rfl (.string ⟨#[83]⟩) rfl) ?_
              simp only [Act.put, List.setIfInBounds_toArray, List.set_cons_zero, List.set_cons_succ]
              refine WQ.lift (wpQ_assign _ rfl rfl (.int .i64 0) rfl) ?_
              simp only [Act.put, List.setIfInBounds_toArray, List.set_cons_zero, List.set_cons_succ]
              refine WQ.mk (wpQuiet_nil ?_)
              intro u5 hC
              have HB5 := Lib.hid (HBA.out.trans (hC.mono HBA.out.size))
              clear hC
              go_wp2_with fail
              go_ret3
              refine ⟨?_, HB5.out⟩
              rw [HRV.out, if_pos HQ4.out, ← HVH.out]
              rfl
            · have p4 : (t == 25) = false := beq_eq_false_iff_ne.2 q4
              have HQ4 := Lib.hid q4
              clear q4
              go_upto_region 38 with fail
              refine region_quiet_all (Below wa.heap.size wa) (by kernel_rfl) (by kernel_rfl) (below_drewN (Below.refl _ _) 1) ?_
              refine WQ.out ?_
              refine WQ.lift (wpQ_load 36 (.tmp 3) rfl rfl (.pointer (some ⟨gF, 0, none⟩)) rfl (.agg (fC en ⟨A1, n1, c1⟩ ⟨some ⟨bb, oo, none⟩, n2, c2⟩ ⟨A, m, c⟩)) (fun w' hC => load_file (HF3.out.after hC) (fC_len _ _ _ _))) ?_
              simp only [Act.put, List.setIfInBounds_toArray, List.set_cons_zero, List.set_cons_succ]
              refine WQ.lift (wpQ_move _ rfl rfl (.int .i64 (B : Int)) rfl) ?_
              simp only [Act.put, List.setIfInBounds_toArray, List.set_cons_zero, List.set_cons_succ]
              refine WQ.lift (wpQ_val rfl (.pointer (some ⟨g3, 2, none⟩)) (fun w' _ => by go_simp)) ?_
              simp only [Act.put, List.setIfInBounds_toArray, List.set_cons_zero, List.set_cons_succ]
              refine WQ.lift (wpQ_load 3 (.tmp 127) rfl rfl (.pointer (some ⟨g3, 2, none⟩)) rfl (.int .i64 sh) (fun w' hC => by
                  have hcell : w'.cell? ⟨g3, 2, none⟩ = some (.int .i64 sh) := (hC.cell (p := ⟨g3, 2, none⟩) hg3).trans e2
                  go_simp)) ?_
              simp only [Act.put, List.setIfInBounds_toArray, List.set_cons_zero, List.set_cons_succ]
              refine WQ.lift (wpQ_fn 29 _ _ rfl rfl #[.agg (fC en ⟨A1, n1, c1⟩ ⟨some ⟨bb, oo, none⟩, n2, c2⟩ ⟨A, m, c⟩), .int .i64 (B : Int), .int .i64 sh] rfl (fun _ => by go_simp) (.int .i64 (yh : Int)) (fun w' hC => (KY.out w' hC).mono fun e w'' ⟨he, hb⟩ => ⟨he, below_class hC hb⟩)) ?_
              simp only [Act.put, List.setIfInBounds_toArray, List.set_cons_zero, List.set_cons_succ]
              refine WQ.lift (wpQ_val rfl (.pointer (some ⟨g3, 3, none⟩)) (fun w' _ => by go_simp)) ?_
              simp only [Act.put, List.setIfInBounds_toArray, List.set_cons_zero, List.set_cons_succ]
              refine WQ.lift (wpQ_load 24 (.tmp 130) rfl rfl (.pointer (some ⟨g3, 3, none⟩)) rfl (.int .u32 (ah : Int)) (fun w' hC => by
                  have hcell : w'.cell? ⟨g3, 3, none⟩ = some (.int .u32 (ah : Int)) := (hC.cell (p := ⟨g3, 3, none⟩) hg3).trans e3
                  go_simp)) ?_
              simp only [Act.put, List.setIfInBounds_toArray, List.set_cons_zero, List.set_cons_succ]
              refine WQ.lift (wpQ_val rfl (.int .i64 (ah : Int)) (fun w' hC => by go_simp; exact IntWalk.i64_in _ (by omega))) ?_
              simp only [Act.put, List.setIfInBounds_toArray, List.set_cons_zero, List.set_cons_succ]
              refine WQ.lift (wpQ_val rfl (.int .i64 ((yh : Int) + (ah : Int))) (fun w' hC => by go_simp; exact IntWalk.i64_in _ (by omega))) ?_
              simp only [Act.put, List.setIfInBounds_toArray, List.set_cons_zero, List.set_cons_succ]
              refine WQ.lift (wpQ_move _ rfl rfl (.int .i64 (xh : Int)) rfl) ?_
              simp only [Act.put, List.setIfInBounds_toArray, List.set_cons_zero, List.set_cons_succ]
              refine WQ.lift (wpQ_val rfl (.int .i64 ((yh : Int) + (ah : Int) - (xh : Int))) (fun w' hC => by go_simp; exact IntWalk.i64_in _ (by omega))) ?_
              simp only [Act.put, List.setIfInBounds_toArray, List.set_cons_zero, List.set_cons_succ]
              refine WQ.lift (wpQ_fn 25 _ _ rfl rfl #[.int .i64 ((yh : Int) + (ah : Int) - (xh : Int))] rfl (fun _ => by go_simp) (.int .i64 (vh : Int)) (fun w' hC => (KV.out w' hC).mono fun e w'' ⟨he, hb⟩ => ⟨he, below_class hC hb⟩)) ?_
              simp only [Act.put, List.setIfInBounds_toArray, List.set_cons_zero, List.set_cons_succ]
              refine WQ.lift (wpQ_move _ rfl rfl (.string ⟨#[73]⟩) rfl) ?_
              simp only [Act.put, List.setIfInBounds_toArray, List.set_cons_zero, List.set_cons_succ]
              refine WQ.lift (wpQ_assign _ rfl rfl (.int .i64 (vh : Int)) rfl) ?_
              simp only [Act.put, List.setIfInBounds_toArray, List.set_cons_zero, List.set_cons_succ]
              refine WQ.lift (wpQ_assign _ rfl rfl (.string ⟨#[73]⟩) rfl) ?_
              simp only [Act.put, List.setIfInBounds_toArray, List.set_cons_zero, List.set_cons_succ]
              refine WQ.lift (wpQ_assign _ rfl rfl (.int .i64 0) rfl) ?_
              simp only [Act.put, List.setIfInBounds_toArray, List.set_cons_zero, List.set_cons_succ]
              refine WQ.mk (wpQuiet_nil ?_)
              intro u5 hC
              have HB5 := Lib.hid (HBA.out.trans (hC.mono HBA.out.size))
              clear hC
              go_wp2_with fail
              go_ret3
              refine ⟨?_, HB5.out⟩
              rw [HRV.out, if_neg HQ4.out, ← HVH.out]
              rfl
          · have p3 : ((a : Int) == 0) = false := beq_eq_false_iff_ne.2 (by omega)
            have HQ := Lib.hid q3
            clear q1 q2 q3
            go_wp2_with fail
            go_roundw
            case rel => exact ⟨i + 1, hlt, by go_num, Lib.hid (by rw [← HLO.out, HDR.out, lo_miss ss B sa t a _ _ (fun hh => HQ.out hh.2.2)]), HBU.out⟩
            case measure => simp [intOf] <;> omega
        · have p2 : ((xh : Int) == (sa : Int)) = false := beq_eq_false_iff_ne.2 (by omega)
          have HQ := Lib.hid q2
          clear q1 q2
          go_wp2_with fail
          go_roundw
          case rel => exact ⟨i + 1, hlt, by go_num, Lib.hid (by rw [← HLO.out, HDR.out, lo_miss ss B sa t a _ _ (fun hh => HQ.out (HXH.out.trans hh.2.1))]), HBU.out⟩
          case measure => simp [intOf] <;> omega
      · have p1 : (th == 23) = false := beq_eq_false_iff_ne.2 q1
        have HQ := Lib.hid q1
        clear q1
        go_wp2_with fail
        go_roundw
        case rel => exact ⟨i + 1, hlt, by go_num, Lib.hid (by rw [← HLO.out, HDR.out, lo_miss ss B sa t a _ _ (fun hh => HQ.out hh.1)]), HBU.out⟩
        case measure => simp [intOf] <;> omega
    · have di : ¬ (i : Int) < (n2 : Int) := by omega
      have he : res = .bad 13 := by
        rw [← HLO.out, List.drop_eq_nil_of_le (by omega)]
        unfold loP hiP
        split <;> rfl
      have HE := Lib.hid he
      have HB := Lib.hid hb
      clear he hb
      go_wp2_with fail
      go_ret3
      refine ⟨?_, HB2.out.trans (HB.out.mono HB2.out.size)⟩
      rw [HE.out]
      rfl
end Go.Proofs.Ytegaiphhoinilaa.Rc
