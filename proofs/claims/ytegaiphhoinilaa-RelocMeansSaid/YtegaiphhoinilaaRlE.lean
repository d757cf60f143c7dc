/-
Layer 13: the law's lay.
-/
import Derived.Test.YtegaiphhoinilaaRlD
import Derived.Test.YtegaiphhoinilaaChn
namespace Go.Proofs.Ytegaiphhoinilaa.Rc
open Go Go.RowKit

/-- a row of elements -/
theorem wp_build_elsK {α : Type} {f : α → Nat → Value} {P : Program} {st e : TypeId} {k by' : Nat} {z : Value} (hu : P.underlying st = some (.slice e)) (hinfo : (P.info? e).map (fun i => (i.zero, i.size, i.bytes)) = some (some z, k, by')) (hk : 0 < k) (hk2 : k ≤ 1000)
    {w : World} {o : Oper} {a : Act} {K : Act → World → Prop} {Q : Exit → Act → World → Prop} (n : Nat) (parts : Array (Nat × Operand)) (ho : o.op = .buildSlice st n parts) (qs : List α) (hn : qs.length = n) (hn0 : 0 < n) (hn1 : n ≤ 1000)
    (hp : (parts.map fun (i, x) => (i, a.eval x)).toList = ((qs.map fun q => Value.agg (tab k (f q))).zipIdx 0).map fun x => (x.2, x.1))
    (h : ∀ w', w' = w.alloc (.cells (cellsL k f qs).toArray e) → K (a.put o.dst (.slice (some ⟨w.heap.size, 0, none⟩) n n)) w') : o.wp P a w K Q := by
  obtain ⟨i5, hi5, hz5, hs5, hb5⟩ := info_parts hinfo
  subst hn
  have hle : qs.length * k ≤ 1000 * 1000 := Nat.mul_le_mul hn1 hk2
  refine wp_buildSlice st e qs.length parts ho (cellsL k f qs).toArray i5 _ hu hi5 hz5 (by rw [hs5]; omega) (by rw [hs5]; exact Nat.ne_of_gt (Nat.mul_pos hn0 hk)) ?_ (h _ rfl)
  rw [hs5, hp]
  refine (Great.fill_whole (s := k) hk (qs.map fun q => .agg (tab k (f q))) _ (fun v hv => ?_) (by simp)).trans ?_
  · obtain ⟨q, _, rfl⟩ := List.mem_map.1 hv
    exact tab_size _ _
  · congr 2
    rw [List.flatMap_map]
    rfl
theorem results_tmp5 {fn : Func} {t u v x y : Tmp} (h : fn.results = #[.tmp t, .tmp u, .tmp v, .tmp x, .tmp y]) (tmps : Array Value) (P : Program) (w : World) :
    (results fn tmps).run P w = .ok (.tuple #[tmps.getD t undef, tmps.getD u undef, tmps.getD v undef, tmps.getD x undef, tmps.getD y undef]) w := by
  simp [results, h]
/-- a job's cells -/
def jC (ws sy rl : Sl) (more : Nat) (split : Int) : Array Value := #[ws.v, sy.v, rl.v, .int .u32 (more : Int), .int .i64 split]
/-- the first words stored -/
def wordsM (xs : List Nat) : Nat → (Nat → UInt8)
  | 0 => mem0
  | i + 1 => stM (wordsM xs i) (2147487744 + 4 * i) 4 (xs.getD i 0)
/-- the two spans -/
def spL (n k : Nat) : List (Nat × Nat) := [(2147487744, 4 * k), (2147487744 + 4 * k, 4 * (n - k))]
theorem infoSp : (Try.prog.info? 62).map (fun i => (i.zero, i.size, i.bytes)) = some (some (.agg #[.int .i64 0, .int .i64 0]), 2, 16) := by kernel_rfl
theorem word_st (i : Nat) (h : i < 300) : stB (2147487744 + 4 * i) 4 = true := stB_in (by omega) (by omega)
theorem ref_below {w w' : World} {g r mb c : Nat} {m m' : Nat → UInt8} (hR : RefP w r mb m c) (hG : RamP w g m') (k : w.grownBy w' (some g)) : RefP w' r mb m c := hR.beside hG k
theorem split_mod (s : Int) (n : Nat) (hn : 0 < n) (hn3 : n ≤ 300) : ∃ k : Nat, k < n ∧ (s.tmod (n : Int) + (n : Int)).tmod (n : Int) = (k : Int) ∧ (s % (n : Int) : Int) = (k : Int) := by
  have h1 := Int.emod_nonneg s (show (n : Int) ≠ 0 by omega)
  have h2 := Int.emod_lt_of_pos s (show (0 : Int) < (n : Int) by omega)
  refine ⟨(s % (n : Int)).toNat, by omega, ?_, by omega⟩
  rw [show (((s % (n : Int)).toNat : Nat) : Int) = s % (n : Int) by omega]
  have e0 : s.tmod (n : Int) = s % (n : Int) ∨ s.tmod (n : Int) = s % (n : Int) - (n : Int) := by
    rw [Int.tmod_eq_emod]
    split
    · left; omega
    · right; simp
  rcases e0 with e | e
  · rw [e, Int.tmod_eq_emod_of_nonneg (by omega), show s % (n : Int) + (n : Int) = s % (n : Int) + (n : Int) * 1 by omega, Int.add_mul_emod_self_left, Int.emod_eq_of_lt h1 h2]
  · rw [e, show s % (n : Int) - (n : Int) + (n : Int) = s % (n : Int) by omega, Int.tmod_eq_emod_of_nonneg h1, Int.emod_eq_of_lt h1 h2]
/-- what lay answers: a memory, the reference's, spans of both kinds, a bias; whose blocks are others -/
def LayO (w w' : World) (n more : Nat) (M : Nat → UInt8) (e : Ending) : Prop :=
  ∃ g r mb bp bq k, e = .returned (.tuple #[mP g, mP r, .slice (some ⟨bp, 0, none⟩) 2 2, .slice (some ⟨bq, 0, none⟩) 2 2, .int .u32 (((2147487744 + more) % 4294967296 : Nat) : Int)]) ∧ k < n ∧
    RamP w' g M ∧ RefP w' r mb M 1200 ∧ SlG w' ⟨some ⟨bp, 0, none⟩, 2, 2⟩ (spL n k) ∧ SlP w' ⟨some ⟨bq, 0, none⟩, 2, 2⟩ (spL n k) ∧
    w.heap.size ≤ g ∧ w.heap.size ≤ mb ∧ w.heap.size ≤ r ∧ w.heap.size ≤ bp ∧ w.heap.size ≤ bq ∧ g ≠ mb ∧ bp ≠ g ∧ bp ≠ mb ∧ bq ≠ g ∧ bq ≠ mb
set_option maxRecDepth 100000 in
set_option maxHeartbeats 8000000 in
theorem lay_any (xs : List Nat) (ws sy rl : Sl) (more : Nat) (split : Int) (w : World) (hW : SlN w ws xs) (hn : 0 < xs.length) (hn3 : xs.length ≤ 300) (_hm : more < 4294967296) (hs : i64ok split) :
    Calls Try.prog 10 #[.agg (jC ws sy rl more split)] w fun e w' =>
      LayO w w' xs.length more (wordsM xs xs.length) e ∧ Below w.heap.size w w' := by
  obtain ⟨u, hu, hJ, hb0, hz0⟩ := one_new w (jC ws sy rl more split) 26
  obtain ⟨Aw, n, cw⟩ := ws
  have hnl : xs.length = n := hW.1
  rw [hnl] at hn hn3 ⊢
  have h47 : n ≤ 140737488355328 := hW.2.2.1.2
  obtain ⟨k, hk, hk1, hk2⟩ := split_mod split n hn hn3
  have j0 : u.cell? ⟨w.heap.size, 0, none⟩ = some (.slice Aw n cw) := hJ.cell 0
  have HJ := Lib.hid hJ
  have HB0 := Lib.hid hb0
  have HW := Lib.hid (hW.below hb0)
  have HZ := Lib.hid hz0
  have HK := Lib.hid (And.intro hk1 hk2)
  have HS := Lib.hid hs
  have HNL := Lib.hid hnl
  clear hb0 hW hJ hz0 hk1 hk2 hs hnl
  have kN := pnew_any u
  go_enter Try.func10, Try.ntmps10
  go_upto_region 1 with fail
  replace hu := hu.symm
  change _ = u at hu
  rw [hu]
  clear hu
  obtain ⟨gJ, hgJ0⟩ : ∃ b, b = w.heap.size := ⟨_, rfl⟩
  rw [← hgJ0] at HJ j0 ⊢
  have hgJ : gJ < u.heap.size := HJ.out.lt
  clear hgJ0
  go_wp2_with fail
  refine kN.mono ?_
  rintro e q1 ⟨⟨g, rfl, hG1, hgw⟩, hb1⟩
  dsimp only
  have kR := rnew_any q1
  clear kN
  go_wp2_with fail
  refine kR.mono ?_
  rintro e q2 ⟨⟨r, mb, rfl, hR2, hrw, hmw⟩, hb2⟩
  dsimp only
  clear kR
  have hG2 := hG1.after hb2
  have hgm : g ≠ mb := by have := hG1.lt; omega
  have hgr : g ≠ r := by have := hG1.lt; omega
  have HB2 : Hid (Below u.heap.size u q2) := Lib.hid (hb1.trans (hb2.mono hb1.size))
  have hmw2 : u.heap.size ≤ mb := Nat.le_trans hb1.size hmw
  have hrw2 : u.heap.size ≤ r := Nat.le_trans hb1.size hrw
  have HG2 := Lib.hid hG2
  have HR2 := Lib.hid hR2
  clear hG1 hb1 hb2 hrw hmw hG2 hR2
  have j0' : q2.cell? ⟨gJ, 0, none⟩ = some (.slice Aw n cw) := (HB2.out.cell (p := ⟨gJ, 0, none⟩) hgJ).trans j0
  clear j0
  go_wp2_with fail
  clear j0'
  go_loopw [19] (fun ct wr => ∃ i : Nat, i ≤ n ∧ ct = .int .i64 (i : Int) ∧ RamP wr g (wordsM xs i) ∧ RefP wr r mb (wordsM xs i) (4 * i) ∧ Below u.heap.size u wr) (fun ct _ => (n - (intOf ct)).toNat)
  case atStart => exact ⟨0, Nat.zero_le _, rfl, HG2.out, HR2.out, HB2.out⟩
  case round =>
    obtain ⟨i, hi, rfl, hG, hR, hb⟩ := hrel
    by_cases hlt : i < n
    · have di : (i : Int) < (n : Int) := by omega
      have hS := HW.out.below hb
      obtain ⟨bb, oo, hA, hbl, hcc⟩ := hS.2.2.2 (by show 0 < n; omega)
      replace hA : Aw = some ⟨bb, oo, none⟩ := hA
      subst hA
      have hxl : xs.getD i 0 < 4294967296 := getD_all (P := fun x => x < 4294967296) hS.2.1 (by have := HNL.out; omega)
      have hcj := hcc i 0 hlt (by decide)
      rw [show oo + i * 1 + 0 = oo + i by omega] at hcj
      replace hcj : wr.cell? ⟨bb, oo + i, none⟩ = some (.int .u32 ((xs.getD i 0 : Nat) : Int)) := hcj
      have hai := fun W => at_u bb oo n cw i di W
      have hst := word_st i (by omega)
      have kS := store_any (wordsM xs i) g (2147487744 + 4 * i) (xs.getD i 0) 4 wr hG (by omega) hxl
      rw [hst, show erI true = 0 from rfl, show (((2147487744 + 4 * i : Nat)) : Int) = 2147487744 + 4 * (i : Int) by omega] at kS
      have kT := fun W hR' => rstore_any (wordsM xs i) r mb (4 * i) (2147487744 + 4 * i) (xs.getD i 0) 4 W hR' (by omega) hxl (by omega)
      rw [hst, show (((2147487744 + 4 * i : Nat)) : Int) = 2147487744 + 4 * (i : Int) by omega] at kT
      replace kS : Calls _ _ _ wr fun e w' => e = .returned (.int .i64 0) ∧ RamP w' g (wordsM xs (i + 1)) ∧ wr.grownBy w' (some g) := kS
      replace kT : ∀ W, RefP W r mb (wordsM xs i) (4 * i) → Calls _ _ _ W fun e w' => e = .returned (.bool true) ∧ RefP w' r mb (wordsM xs (i + 1)) (4 * i + 4) ∧ W.grownBy w' (some mb) := kT
      generalize xs.getD i 0 = x at *
      have HB := Lib.hid hb
      have HR := Lib.hid hR
      have HG := Lib.hid hG
      have di3 : (i : Int) < 300 := by omega
      clear hb hR hG hcc hS hst
      go_wp2_with fail
      refine kS.mono ?_
      rintro e w3 ⟨rfl, hG3, hg3⟩
      dsimp only
      have hR3 := HR.out.beside HG.out hg3
      have hb3 := below_only HB.out hg3 (by have := HB2.out.size; omega) HB.out.size
      clear kS hcj hai
      go_wp2_with fail
      refine (kT _ hR3).mono ?_
      rintro e w4 ⟨rfl, hR4, hg4⟩
      dsimp only
      have hG4 := hG3.grown hg4 (fun l e => by injection e with e; omega)
      have hb4 := below_only hb3 hg4 hmw2 hb3.size
      clear kT hg3 hg4 hR3 hb3 hG3
      go_wp2_with fail
      go_roundw
      case rel => exact ⟨i + 1, hlt, by go_num, hG4, by rw [show 4 * (i + 1) = 4 * i + 4 by omega]; exact hR4, hb4⟩
      case measure => simp [intOf] <;> omega
    · have him : i = n := by omega
      have di : ¬ (i : Int) < (n : Int) := by omega
      rw [him] at hG hR
      have HJ2 := HJ.out.after hb
      have j0 : wr.cell? ⟨gJ, 0, none⟩ = some (.slice Aw n cw) := HJ2.cell 0
      have j4 : wr.cell? ⟨gJ, 4, none⟩ = some (.int .i64 split) := HJ2.cell 4
      obtain ⟨z, hz⟩ : ∃ z, z = split.tmod (n : Int) := ⟨_, rfl⟩
      have hzb : -(n : Int) < z ∧ z < (n : Int) := by
        rw [hz, Int.tmod_eq_emod]
        have h1 := Int.emod_nonneg split (show (n : Int) ≠ 0 by omega)
        have h2 := Int.emod_lt_of_pos split (show (0 : Int) < (n : Int) by omega)
        split
        · omega
        · rw [Int.natAbs_natCast]; omega
      obtain ⟨hz1, hz2⟩ := hzb
      have hk1 := HK.out.1
      have e1 : split.tmod (n : Int) = z := hz.symm
      rw [e1] at hk1
      have HB := Lib.hid hb
      have HR := Lib.hid hR
      have HG := Lib.hid hG
      have hnI : 0 < (n : Int) := by omega
      have hn3I : (n : Int) ≤ 300 := by omega
      have hne : ((n : Int) == 0) = false := by simp only [beq_eq_false_iff_ne, ne_eq]; omega
      have hkI : (k : Int) < (n : Int) := by omega
      clear hb hR hG hz HJ2
      go_upto_region 11 with fail
      obtain ⟨wq, hwq, hSp, hbq, hszq⟩ := one_new wr #[.int .u32 2147487744, .int .u32 (4 * (k : Int)), .int .i64 0, .int .u32 (2147487744 + 4 * (k : Int)), .int .u32 (4 * ((n : Int) - (k : Int))), .int .i64 0] 54
      rw [← hwq]
      obtain ⟨bp, hbp⟩ : ∃ b, b = wr.heap.size := ⟨_, rfl⟩
      rw [← hbp] at hSp ⊢
      obtain ⟨k4, hk4⟩ : ∃ x, x = 4 * k := ⟨_, rfl⟩
      obtain ⟨a4, ha4⟩ : ∃ x, x = 2147487744 + 4 * k := ⟨_, rfl⟩
      obtain ⟨d, hd⟩ : ∃ x, x = n - k := ⟨_, rfl⟩
      obtain ⟨m4, hm4⟩ : ∃ x, x = 4 * (n - k) := ⟨_, rfl⟩
      obtain ⟨bias, hbias⟩ : ∃ x, x = (2147487744 + more) % 4294967296 := ⟨_, rfl⟩
      have HBQ := Lib.hid hbq
      have HBP := Lib.hid hbp
      have cM : wq.cell? ⟨gJ, 3, none⟩ = some (.int .u32 (more : Int)) := (HJ.out.after (HB.out.trans (hbq.mono HB.out.size))).cell 3
      have hgJq : gJ < wq.heap.size := by have := HB.out.size; have := hbq.size; omega
      rw [show (4 * (k : Int)) = ((k4 : Nat) : Int) by omega, show (2147487744 + (k4 : Int)) = ((a4 : Nat) : Int) by omega, show (4 * ((n : Int) - (k : Int))) = ((m4 : Nat) : Int) by omega] at hSp
      have HSP := Lib.hid hSp
      have hbI : (2147487744 + (more : Int)) % 4294967296 = (bias : Int) := by omega
      have HBI := Lib.hid hbias
      have HEQ := Lib.hid (And.intro hk4 (And.intro ha4 (And.intro hd hm4)))
      clear j0 j4 hbq hSp hwq hszq hk1 e1 hz1 hz2 hne hbp hbias hk4 ha4 hd hm4
      refine region_chain (fun w' => w'.cell? ⟨gJ, 3, none⟩ = some (.int .u32 (more : Int)) ∧ Below wq.heap.size wq w') [(0, mP g), (1, mP r), (2, .slice (some ⟨bp, 0, none⟩) 2 2), (3, .int .i64 (k : Int)), (4, .int .i64 (k4 : Int)), (5, .agg #[.int .i64 2147487744, .int .i64 (k4 : Int)]), (6, .int .i64 (k : Int)), (7, .int .i64 (k4 : Int)), (8, .int .i64 (a4 : Int)), (9, .int .i64 (n : Int)), (10, .int .i64 (k : Int)), (11, .int .i64 (d : Int)), (12, .int .i64 (m4 : Int)), (13, .agg #[.int .i64 (a4 : Int), .int .i64 (m4 : Int)]), (15, .pointer (some ⟨gJ, 3, none⟩)), (16, .int .u32 (more : Int)), (17, .int .u32 (bias : Int)), (18, mP g), (19, mP r), (20, .slice (some ⟨bp, 0, none⟩) 2 2), (22, .int .u32 (bias : Int))] [(14, fun xs w' => (∃ bq, (xs.getD 0 undef) = .slice (some ⟨bq, 0, none⟩) 2 2 ∧ wq.heap.size ≤ bq ∧ Has w' bq 62 (cellsL 2 spE [(2147487744, k4), (a4, m4)]).toArray) ∧ w'.cell? ⟨gJ, 3, none⟩ = some (.int .u32 (more : Int)) ∧ Below wq.heap.size wq w'), (21, fun xs w' => (xs.getD 1 undef) = (xs.getD 0 undef) ∧ (∃ bq, (xs.getD 0 undef) = .slice (some ⟨bq, 0, none⟩) 2 2 ∧ wq.heap.size ≤ bq ∧ Has w' bq 62 (cellsL 2 spE [(2147487744, k4), (a4, m4)]).toArray) ∧ w'.cell? ⟨gJ, 3, none⟩ = some (.int .u32 (more : Int)) ∧ Below wq.heap.size wq w')] (fun w' => w'.cell? ⟨gJ, 3, none⟩ = some (.int .u32 (more : Int)) ∧ Below wq.heap.size wq w') 83 (by kernel_rfl) rfl (by kernel_rfl) (by kernel_rfl) ?_ ?_ ?_ ?_ ?_ ?_
      · intro w' hb he
        exact ⟨(hb.cell (p := ⟨gJ, 3, none⟩) hgJq).trans cM, hb⟩
      · exact fun w' h => h
      · simp only [List.forall_mem_cons, List.not_mem_nil, false_implies, implies_true, and_true]
        refine ⟨?_, ?_⟩
        · exact fun xs w' h => h.2
        · exact fun xs w' h => h.2.2
      · simp only [List.forall_mem_cons, List.not_mem_nil, false_implies, implies_true, and_true]
        refine ⟨?_, ?_, ?_, ?_, ?_, ?_, ?_, ?_, ?_, ?_, ?_, ?_, ?_, ?_, ?_, ?_, ?_, ?_, ?_, ?_, ?_⟩
        · refine qu_of rfl ?_
          intro v w' A hA hC hd hl K hK
          exact pure_step (mP g) (fun ρ hρ => by
              have e7 : ρ (.tmp 7) = mP g := by rw [hρ]; exact hA.2 7 (by simp)
              clear hρ hA hl hK hd hC
              go_simp) hK
        · refine qu_of rfl ?_
          intro v w' A hA hC hd hl K hK
          exact pure_step (mP r) (fun ρ hρ => by
              have e8 : ρ (.tmp 8) = mP r := by rw [hρ]; exact hA.2 8 (by simp)
              clear hρ hA hl hK hd hC
              go_simp) hK
        · refine qu_of rfl ?_
          intro v w' A hA hC hd hl K hK
          exact pure_step (.slice (some ⟨bp, 0, none⟩) 2 2) (fun ρ hρ => by
              have e13 : ρ (.tmp 13) = .slice (some ⟨bp, 0, none⟩) 2 2 := by rw [hρ]; exact hA.2 13 (by simp)
              clear hρ hA hl hK hd hC
              go_simp) hK
        · refine qu_of rfl ?_
          intro v w' A hA hC hd hl K hK
          exact pure_step (.int .i64 (k : Int)) (fun ρ hρ => by
              have e12 : ρ (.tmp 12) = .int .i64 (k : Int) := by rw [hρ]; exact hA.2 12 (by simp)
              clear hρ hA hl hK hd hC
              go_simp) hK
        · refine qu_of rfl ?_
          intro v w' A hA hC hd hl K hK
          exact pure_step (.int .i64 (k4 : Int)) (fun ρ hρ => by
              have hcst : ∀ x, ρ (.const x) = x := fun x => by rw [hρ]; rfl
              have e68 : ρ (.tmp 68) = .int .i64 (k : Int) := by rw [hρ]; exact (hA.1 3 _ 68 rfl rfl).trans (hd (3, .int .i64 (k : Int)) (.tail _ (.tail _ (.tail _ (.head _)))) ⟨⟨3, .data⟩, by simp, rfl, rfl⟩)
              clear hρ hA hl hK hd hC
              go_simp
              first | done | (have heq := HEQ.out; rw [IntWalk.i64_in _ (by omega)]; first | done | omega)) hK
        · refine qu_of rfl ?_
          intro v w' A hA hC hd hl K hK
          exact pure_step (.agg #[.int .i64 2147487744, .int .i64 (k4 : Int)]) (fun ρ hρ => by
              have hcst : ∀ x, ρ (.const x) = x := fun x => by rw [hρ]; rfl
              have e69 : ρ (.tmp 69) = .int .i64 (k4 : Int) := by rw [hρ]; exact (hA.1 4 _ 69 rfl rfl).trans (hd (4, .int .i64 (k4 : Int)) (.tail _ (.tail _ (.tail _ (.tail _ (.head _))))) ⟨⟨4, .data⟩, by simp, rfl, rfl⟩)
              clear hρ hA hl hK hd hC
              go_simp) hK
        · refine qu_of rfl ?_
          intro v w' A hA hC hd hl K hK
          exact pure_step (.int .i64 (k : Int)) (fun ρ hρ => by
              have e12 : ρ (.tmp 12) = .int .i64 (k : Int) := by rw [hρ]; exact hA.2 12 (by simp)
              clear hρ hA hl hK hd hC
              go_simp) hK
        · refine qu_of rfl ?_
          intro v w' A hA hC hd hl K hK
          exact pure_step (.int .i64 (k4 : Int)) (fun ρ hρ => by
              have hcst : ∀ x, ρ (.const x) = x := fun x => by rw [hρ]; rfl
              have e71 : ρ (.tmp 71) = .int .i64 (k : Int) := by rw [hρ]; exact (hA.1 6 _ 71 rfl rfl).trans (hd (6, .int .i64 (k : Int)) (.tail _ (.tail _ (.tail _ (.tail _ (.tail _ (.tail _ (.head _))))))) ⟨⟨6, .data⟩, by simp, rfl, rfl⟩)
              clear hρ hA hl hK hd hC
              go_simp
              first | done | (have heq := HEQ.out; rw [IntWalk.i64_in _ (by omega)]; first | done | omega)) hK
        · refine qu_of rfl ?_
          intro v w' A hA hC hd hl K hK
          exact pure_step (.int .i64 (a4 : Int)) (fun ρ hρ => by
              have hcst : ∀ x, ρ (.const x) = x := fun x => by rw [hρ]; rfl
              have e72 : ρ (.tmp 72) = .int .i64 (k4 : Int) := by rw [hρ]; exact (hA.1 7 _ 72 rfl rfl).trans (hd (7, .int .i64 (k4 : Int)) (.tail _ (.tail _ (.tail _ (.tail _ (.tail _ (.tail _ (.tail _ (.head _)))))))) ⟨⟨7, .data⟩, by simp, rfl, rfl⟩)
              clear hρ hA hl hK hd hC
              go_simp
              first | done | (have heq := HEQ.out; rw [IntWalk.i64_in _ (by omega)]; first | done | omega)) hK
        · refine qu_of rfl ?_
          intro v w' A hA hC hd hl K hK
          exact pure_step (.int .i64 (n : Int)) (fun ρ hρ => by
              have e11 : ρ (.tmp 11) = .int .i64 (n : Int) := by rw [hρ]; exact hA.2 11 (by simp)
              clear hρ hA hl hK hd hC
              go_simp) hK
        · refine qu_of rfl ?_
          intro v w' A hA hC hd hl K hK
          exact pure_step (.int .i64 (k : Int)) (fun ρ hρ => by
              have e12 : ρ (.tmp 12) = .int .i64 (k : Int) := by rw [hρ]; exact hA.2 12 (by simp)
              clear hρ hA hl hK hd hC
              go_simp) hK
        · refine qu_of rfl ?_
          intro v w' A hA hC hd hl K hK
          exact pure_step (.int .i64 (d : Int)) (fun ρ hρ => by
              have e74 : ρ (.tmp 74) = .int .i64 (n : Int) := by rw [hρ]; exact (hA.1 9 _ 74 rfl rfl).trans (hd (9, .int .i64 (n : Int)) (.tail _ (.tail _ (.tail _ (.tail _ (.tail _ (.tail _ (.tail _ (.tail _ (.tail _ (.head _)))))))))) ⟨⟨9, .data⟩, by simp, rfl, rfl⟩)
              have e75 : ρ (.tmp 75) = .int .i64 (k : Int) := by rw [hρ]; exact (hA.1 10 _ 75 rfl rfl).trans (hd (10, .int .i64 (k : Int)) (.tail _ (.tail _ (.tail _ (.tail _ (.tail _ (.tail _ (.tail _ (.tail _ (.tail _ (.tail _ (.head _))))))))))) ⟨⟨10, .data⟩, by simp, rfl, rfl⟩)
              clear hρ hA hl hK hd hC
              go_simp
              first | done | (have heq := HEQ.out; rw [IntWalk.i64_in _ (by omega)]; first | done | omega)) hK
        · refine qu_of rfl ?_
          intro v w' A hA hC hd hl K hK
          exact pure_step (.int .i64 (m4 : Int)) (fun ρ hρ => by
              have hcst : ∀ x, ρ (.const x) = x := fun x => by rw [hρ]; rfl
              have e76 : ρ (.tmp 76) = .int .i64 (d : Int) := by rw [hρ]; exact (hA.1 11 _ 76 rfl rfl).trans (hd (11, .int .i64 (d : Int)) (.tail _ (.tail _ (.tail _ (.tail _ (.tail _ (.tail _ (.tail _ (.tail _ (.tail _ (.tail _ (.tail _ (.head _)))))))))))) ⟨⟨11, .data⟩, by simp, rfl, rfl⟩)
              clear hρ hA hl hK hd hC
              go_simp
              first | done | (have heq := HEQ.out; rw [IntWalk.i64_in _ (by omega)]; first | done | omega)) hK
        · refine qu_of rfl ?_
          intro v w' A hA hC hd hl K hK
          exact pure_step (.agg #[.int .i64 (a4 : Int), .int .i64 (m4 : Int)]) (fun ρ hρ => by
              have e73 : ρ (.tmp 73) = .int .i64 (a4 : Int) := by rw [hρ]; exact (hA.1 8 _ 73 rfl rfl).trans (hd (8, .int .i64 (a4 : Int)) (.tail _ (.tail _ (.tail _ (.tail _ (.tail _ (.tail _ (.tail _ (.tail _ (.head _))))))))) ⟨⟨8, .data⟩, by simp, rfl, rfl⟩)
              have e77 : ρ (.tmp 77) = .int .i64 (m4 : Int) := by rw [hρ]; exact (hA.1 12 _ 77 rfl rfl).trans (hd (12, .int .i64 (m4 : Int)) (.tail _ (.tail _ (.tail _ (.tail _ (.tail _ (.tail _ (.tail _ (.tail _ (.tail _ (.tail _ (.tail _ (.tail _ (.head _))))))))))))) ⟨⟨12, .data⟩, by simp, rfl, rfl⟩)
              clear hρ hA hl hK hd hC
              go_simp) hK
        · refine qu_of rfl ?_
          intro v w' A hA hC hd hl K hK
          exact pure_step (.pointer (some ⟨gJ, 3, none⟩)) (fun ρ hρ => by
              have e1 : ρ (.tmp 1) = .pointer (some ⟨gJ, 0, none⟩) := by rw [hρ]; exact hA.2 1 (by simp)
              clear hρ hA hl hK hd hC
              go_simp) hK
        · refine qu_of rfl ?_
          intro v w' A hA hC hd hl K hK
          have hcell := hC.1
          exact pure_step (.int .u32 (more : Int)) (fun ρ hρ => by
              have e80 : ρ (.tmp 80) = .pointer (some ⟨gJ, 3, none⟩) := by rw [hρ]; exact (hA.1 15 _ 80 rfl rfl).trans (hd (15, .pointer (some ⟨gJ, 3, none⟩)) (.tail _ (.tail _ (.tail _ (.tail _ (.tail _ (.tail _ (.tail _ (.tail _ (.tail _ (.tail _ (.tail _ (.tail _ (.tail _ (.tail _ (.head _))))))))))))))) ⟨⟨15, .data⟩, by simp, rfl, rfl⟩)
              clear hρ hA hl hK hd hC
              go_simp) hK
        · refine qu_of rfl ?_
          intro v w' A hA hC hd hl K hK
          exact pure_step (.int .u32 (bias : Int)) (fun ρ hρ => by
              have hcst : ∀ x, ρ (.const x) = x := fun x => by rw [hρ]; rfl
              have e81 : ρ (.tmp 81) = .int .u32 (more : Int) := by rw [hρ]; exact (hA.1 16 _ 81 rfl rfl).trans (hd (16, .int .u32 (more : Int)) (.tail _ (.tail _ (.tail _ (.tail _ (.tail _ (.tail _ (.tail _ (.tail _ (.tail _ (.tail _ (.tail _ (.tail _ (.tail _ (.tail _ (.tail _ (.head _)))))))))))))))) ⟨⟨16, .data⟩, by simp, rfl, rfl⟩)
              clear hρ hA hl hK hd hC
              go_simp
              exact (IntKind.wrap_u32 _).trans hbI) hK
        · refine qu_of rfl ?_
          intro v w' A hA hC hd hl K hK
          exact pure_step (mP g) (fun ρ hρ => by
              have e65 : ρ (.tmp 65) = mP g := by rw [hρ]; exact (hA.1 0 _ 65 rfl rfl).trans (hd (0, mP g) (.head _) ⟨⟨0, .data⟩, by simp, rfl, rfl⟩)
              clear hρ hA hl hK hd hC
              go_simp) hK
        · refine qu_of rfl ?_
          intro v w' A hA hC hd hl K hK
          exact pure_step (mP r) (fun ρ hρ => by
              have e66 : ρ (.tmp 66) = mP r := by rw [hρ]; exact (hA.1 1 _ 66 rfl rfl).trans (hd (1, mP r) (.tail _ (.head _)) ⟨⟨1, .data⟩, by simp, rfl, rfl⟩)
              clear hρ hA hl hK hd hC
              go_simp) hK
        · refine qu_of rfl ?_
          intro v w' A hA hC hd hl K hK
          exact pure_step (.slice (some ⟨bp, 0, none⟩) 2 2) (fun ρ hρ => by
              have e67 : ρ (.tmp 67) = .slice (some ⟨bp, 0, none⟩) 2 2 := by rw [hρ]; exact (hA.1 2 _ 67 rfl rfl).trans (hd (2, .slice (some ⟨bp, 0, none⟩) 2 2) (.tail _ (.tail _ (.head _))) ⟨⟨2, .data⟩, by simp, rfl, rfl⟩)
              clear hρ hA hl hK hd hC
              go_simp) hK
        · refine qu_of rfl ?_
          intro v w' A hA hC hd hl K hK
          exact pure_step (.int .u32 (bias : Int)) (fun ρ hρ => by
              have e82 : ρ (.tmp 82) = .int .u32 (bias : Int) := by rw [hρ]; exact (hA.1 17 _ 82 rfl rfl).trans (hd (17, .int .u32 (bias : Int)) (.tail _ (.tail _ (.tail _ (.tail _ (.tail _ (.tail _ (.tail _ (.tail _ (.tail _ (.tail _ (.tail _ (.tail _ (.tail _ (.tail _ (.tail _ (.tail _ (.head _))))))))))))))))) ⟨⟨17, .data⟩, by simp, rfl, rfl⟩)
              clear hρ hA hl hK hd hC
              go_simp) hK
      · refine ⟨qu_of rfl ?_, fun x14 => ⟨qu_of rfl ?_, fun x21 => trivial⟩⟩
        · intro v w' A hA hS hacc hd hl K hK
          replace hS : w'.cell? ⟨gJ, 3, none⟩ = some (.int .u32 (more : Int)) ∧ Below wq.heap.size wq w' := hS
          have q70 : A.eval (.tmp 70) = .agg #[.int .i64 2147487744, .int .i64 (k4 : Int)] := by exact (hA.1 5 _ 70 rfl rfl).trans (hd (5, .agg #[.int .i64 2147487744, .int .i64 (k4 : Int)]) (.tail _ (.tail _ (.tail _ (.tail _ (.tail _ (.head _)))))) ⟨⟨5, .data⟩, by simp, rfl, rfl⟩)
          have q78 : A.eval (.tmp 78) = .agg #[.int .i64 (a4 : Int), .int .i64 (m4 : Int)] := by exact (hA.1 13 _ 78 rfl rfl).trans (hd (13, .agg #[.int .i64 (a4 : Int), .int .i64 (m4 : Int)]) (.tail _ (.tail _ (.tail _ (.tail _ (.tail _ (.tail _ (.tail _ (.tail _ (.tail _ (.tail _ (.tail _ (.tail _ (.tail _ (.head _)))))))))))))) ⟨⟨13, .data⟩, by simp, rfl, rfl⟩)
          refine wp_build_elsK (f := spE) Try.underlying31 infoSp (by decide) (by decide) 2 _ rfl [(2147487744, k4), (a4, m4)] rfl (by decide) (by decide) (by
              simp only [List.map_toArray, List.map_cons, List.map_nil, q70, q78]
              rfl) ?_
          rintro w'' rfl
          have hba : Below w'.heap.size w' (w'.alloc (.cells (cellsL 2 spE [(2147487744, k4), (a4, m4)]).toArray 62)) := (Below.refl _ _).alloc (Nat.le_refl _) _
          exact hK _ _ ⟨⟨w'.heap.size, rfl, hS.2.size, Has.new _ _ _⟩, (hba.cell (p := ⟨gJ, 3, none⟩) (Nat.lt_of_lt_of_le hgJq hS.2.size)).trans hS.1, hS.2.trans (hba.mono hS.2.size)⟩
        · intro v w' A hA hS hacc hd hl K hK
          replace hS : (∃ bq, x14 = .slice (some ⟨bq, 0, none⟩) 2 2 ∧ wq.heap.size ≤ bq ∧ Has w' bq 62 (cellsL 2 spE [(2147487744, k4), (a4, m4)]).toArray) ∧ w'.cell? ⟨gJ, 3, none⟩ = some (.int .u32 (more : Int)) ∧ Below wq.heap.size wq w' := hS
          exact pure_step x14 (fun ρ hρ => by
              have e79 : ρ (.tmp 79) = x14 := by rw [hρ]; exact (hA.1 14 _ 79 rfl rfl).trans (hacc (14, x14) (by simp))
              clear hρ hA hl hd hS hacc
              go_simp
              ) (hK _ _ ⟨rfl, hS⟩)
      intro x14 x21 v wE hSE hacc hqv
      replace hSE : x21 = x14 ∧ (∃ bq, x14 = .slice (some ⟨bq, 0, none⟩) 2 2 ∧ wq.heap.size ≤ bq ∧ Has wE bq 62 (cellsL 2 spE [(2147487744, k4), (a4, m4)]).toArray) ∧ wE.cell? ⟨gJ, 3, none⟩ = some (.int .u32 (more : Int)) ∧ Below wq.heap.size wq wE := hSE
      have f0 : v 0 = mP g := hqv (0, mP g) (.head _)
      have f1 : v 1 = mP r := hqv (1, mP r) (.tail _ (.head _))
      have f2 : v 2 = .slice (some ⟨bp, 0, none⟩) 2 2 := hqv (2, .slice (some ⟨bp, 0, none⟩) 2 2) (.tail _ (.tail _ (.head _)))
      have f3 : v 3 = .int .i64 (k : Int) := hqv (3, .int .i64 (k : Int)) (.tail _ (.tail _ (.tail _ (.head _))))
      have f4 : v 4 = .int .i64 (k4 : Int) := hqv (4, .int .i64 (k4 : Int)) (.tail _ (.tail _ (.tail _ (.tail _ (.head _)))))
      have f5 : v 5 = .agg #[.int .i64 2147487744, .int .i64 (k4 : Int)] := hqv (5, .agg #[.int .i64 2147487744, .int .i64 (k4 : Int)]) (.tail _ (.tail _ (.tail _ (.tail _ (.tail _ (.head _))))))
      have f6 : v 6 = .int .i64 (k : Int) := hqv (6, .int .i64 (k : Int)) (.tail _ (.tail _ (.tail _ (.tail _ (.tail _ (.tail _ (.head _)))))))
      have f7 : v 7 = .int .i64 (k4 : Int) := hqv (7, .int .i64 (k4 : Int)) (.tail _ (.tail _ (.tail _ (.tail _ (.tail _ (.tail _ (.tail _ (.head _))))))))
      have f8 : v 8 = .int .i64 (a4 : Int) := hqv (8, .int .i64 (a4 : Int)) (.tail _ (.tail _ (.tail _ (.tail _ (.tail _ (.tail _ (.tail _ (.tail _ (.head _)))))))))
      have f9 : v 9 = .int .i64 (n : Int) := hqv (9, .int .i64 (n : Int)) (.tail _ (.tail _ (.tail _ (.tail _ (.tail _ (.tail _ (.tail _ (.tail _ (.tail _ (.head _))))))))))
      have f10 : v 10 = .int .i64 (k : Int) := hqv (10, .int .i64 (k : Int)) (.tail _ (.tail _ (.tail _ (.tail _ (.tail _ (.tail _ (.tail _ (.tail _ (.tail _ (.tail _ (.head _)))))))))))
      have f11 : v 11 = .int .i64 (d : Int) := hqv (11, .int .i64 (d : Int)) (.tail _ (.tail _ (.tail _ (.tail _ (.tail _ (.tail _ (.tail _ (.tail _ (.tail _ (.tail _ (.tail _ (.head _))))))))))))
      have f12 : v 12 = .int .i64 (m4 : Int) := hqv (12, .int .i64 (m4 : Int)) (.tail _ (.tail _ (.tail _ (.tail _ (.tail _ (.tail _ (.tail _ (.tail _ (.tail _ (.tail _ (.tail _ (.tail _ (.head _)))))))))))))
      have f13 : v 13 = .agg #[.int .i64 (a4 : Int), .int .i64 (m4 : Int)] := hqv (13, .agg #[.int .i64 (a4 : Int), .int .i64 (m4 : Int)]) (.tail _ (.tail _ (.tail _ (.tail _ (.tail _ (.tail _ (.tail _ (.tail _ (.tail _ (.tail _ (.tail _ (.tail _ (.tail _ (.head _))))))))))))))
      have f14 : v 14 = x14 := hacc (14, x14) (by simp)
      have f15 : v 15 = .pointer (some ⟨gJ, 3, none⟩) := hqv (15, .pointer (some ⟨gJ, 3, none⟩)) (.tail _ (.tail _ (.tail _ (.tail _ (.tail _ (.tail _ (.tail _ (.tail _ (.tail _ (.tail _ (.tail _ (.tail _ (.tail _ (.tail _ (.head _)))))))))))))))
      have f16 : v 16 = .int .u32 (more : Int) := hqv (16, .int .u32 (more : Int)) (.tail _ (.tail _ (.tail _ (.tail _ (.tail _ (.tail _ (.tail _ (.tail _ (.tail _ (.tail _ (.tail _ (.tail _ (.tail _ (.tail _ (.tail _ (.head _))))))))))))))))
      have f17 : v 17 = .int .u32 (bias : Int) := hqv (17, .int .u32 (bias : Int)) (.tail _ (.tail _ (.tail _ (.tail _ (.tail _ (.tail _ (.tail _ (.tail _ (.tail _ (.tail _ (.tail _ (.tail _ (.tail _ (.tail _ (.tail _ (.tail _ (.head _)))))))))))))))))
      have f18 : v 18 = mP g := hqv (18, mP g) (.tail _ (.tail _ (.tail _ (.tail _ (.tail _ (.tail _ (.tail _ (.tail _ (.tail _ (.tail _ (.tail _ (.tail _ (.tail _ (.tail _ (.tail _ (.tail _ (.tail _ (.head _))))))))))))))))))
      have f19 : v 19 = mP r := hqv (19, mP r) (.tail _ (.tail _ (.tail _ (.tail _ (.tail _ (.tail _ (.tail _ (.tail _ (.tail _ (.tail _ (.tail _ (.tail _ (.tail _ (.tail _ (.tail _ (.tail _ (.tail _ (.tail _ (.head _)))))))))))))))))))
      have f20 : v 20 = .slice (some ⟨bp, 0, none⟩) 2 2 := hqv (20, .slice (some ⟨bp, 0, none⟩) 2 2) (.tail _ (.tail _ (.tail _ (.tail _ (.tail _ (.tail _ (.tail _ (.tail _ (.tail _ (.tail _ (.tail _ (.tail _ (.tail _ (.tail _ (.tail _ (.tail _ (.tail _ (.tail _ (.tail _ (.head _))))))))))))))))))))
      have f21 : v 21 = x21 := hacc (21, x21) (by simp)
      have f22 : v 22 = .int .u32 (bias : Int) := hqv (22, .int .u32 (bias : Int)) (.tail _ (.tail _ (.tail _ (.tail _ (.tail _ (.tail _ (.tail _ (.tail _ (.tail _ (.tail _ (.tail _ (.tail _ (.tail _ (.tail _ (.tail _ (.tail _ (.tail _ (.tail _ (.tail _ (.tail _ (.head _)))))))))))))))))))))
      clear hacc hqv
      simp only [putAll, Act.put, List.setIfInBounds_toArray, List.set_cons_zero, List.set_cons_succ, Nat.zero_add, Nat.reduceAdd]
      rw [f0, f1, f2, f3, f4, f5, f6, f7, f8, f9, f10, f11, f12, f13, f14, f15, f16, f17, f18, f19, f20, f21, f22]
      clear f0 f1 f2 f3 f4 f5 f6 f7 f8 f9 f10 f11 f12 f13 f14 f15 f16 f17 f18 f19 f20 f21 f22
      obtain ⟨rfl, ⟨bq, rfl, hbqq, hSq⟩, hmq, hbE⟩ := hSE
      clear hmq
      have HSQ := Lib.hid hSq
      have HBE := Lib.hid hbE
      clear hSq hbE cM
      go_wp2_with fail
      try simp only [Exit.inBlock, Exit.then]
      refine bodyPost_ret (results_tmp5 rfl _ _ _) rfl ?_
      have hbias := HBI.out
      obtain ⟨hk4, ha4, hd, hm4⟩ := HEQ.out
      have hBE := HBE.out
      have hBL := HB.out.trans (HBQ.out.mono HB.out.size)
      have hBA := HBQ.out.trans (hBE.mono HBQ.out.size)
      have hS := HSP.out.after hBE
      have hS2 := HSQ.out
      have hsz := hBL.size
      have hg0 := HG.out.lt
      have hm0 := HR.out.2.lt
      have hbp := HBP.out
      have hu0 := HB0.out.size
      have hq0 := HB2.out.size
      have hb0 := HBQ.out.size
      have eSp : spL n k = [(2147487744, k4), (a4, m4)] := by rw [hk4, ha4, hm4]; rfl
      have hSG : SlG wE ⟨some ⟨bp, 0, none⟩, 2, 2⟩ (spL n k) := by
        rw [eSp]
        refine ⟨rfl, ?_, has_slC hS (by decide) ?_⟩
        · intro y hy
          have : y = (2147487744, k4) ∨ y = (a4, m4) := by simpa using hy
          rcases this with rfl | rfl <;> (dsimp only; omega)
        · intro j i hj hi
          rcases (show j = 0 ∨ j = 1 by omega) with rfl | rfl <;> rcases (show i = 0 ∨ i = 1 ∨ i = 2 by omega) with rfl | rfl | rfl <;> rfl
      have hSP : SlP wE ⟨some ⟨bq, 0, none⟩, 2, 2⟩ (spL n k) := by
        rw [eSp]
        refine ⟨rfl, ?_, has_slC hS2 (by decide) ?_⟩
        · intro y hy
          have : y = (2147487744, k4) ∨ y = (a4, m4) := by simpa using hy
          rcases this with rfl | rfl <;> (dsimp only; omega)
        · intro j i hj hi
          rcases (show j = 0 ∨ j = 1 by omega) with rfl | rfl <;> rcases (show i = 0 ∨ i = 1 by omega) with rfl | rfl <;> rfl
      have hRA := HR.out.after hBA
      exact ⟨⟨g, r, mb, bp, bq, k, congrArg (fun z : Nat => Ending.returned (.tuple #[mP g, mP r, .slice (some ⟨bp, 0, none⟩) 2 2, .slice (some ⟨bq, 0, none⟩) 2 2, .int .u32 (z : Int)])) hbias, hk, HG.out.after hBA, ⟨hRA.1, hRA.2.more (by omega)⟩, hSG, hSP, by omega, by omega, by omega, by omega, by omega, hgm, by omega, by omega, by omega, by omega⟩, HB0.out.trans ((hBL.trans (hBE.mono hBL.size)).mono HB0.out.size)⟩
end Go.Proofs.Ytegaiphhoinilaa.Rc
