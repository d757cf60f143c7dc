/-
Layer 12: the reference's Plan.
-/
import Derived.Test.YtjpmigagoedbcaaDoorPmE
namespace Go.Proofs.YtjpmigagoedbcaaDoor.Pm
open Go Go.RowKit

/-- a row of two elements -/
theorem wp_build_el2 {α : Type} {f : α → Nat → Value} {P : Program} {st e : TypeId} {k by' : Nat} {z : Value} (hu : P.underlying st = some (.slice e)) (hinfo : (P.info? e).map (fun i => (i.zero, i.size, i.bytes)) = some (some z, k, by')) (hk : 0 < k) (hk2 : k ≤ 1000)
    {w : World} {ops : Array Oper} {rest : List Oper} {o : Oper} {a : Act} {Q : Exit → Act → World → Prop} (hg : o.guard = none) (x y : Operand) (ho : o.op = .buildSlice st 2 #[(0, x), (1, y)]) (q r : α) (hx : a.eval x = .agg (tab k (f q))) (hy : a.eval y = .agg (tab k (f r)))
    (h : ∀ w', w' = w.alloc (.cells (cellsL k f [q, r]).toArray e) → wpList P ops Q rest (a.put o.dst (.slice (some ⟨w.heap.size, 0, none⟩) 2 2)) w') : wpList P ops Q (o :: rest) a w := by
  obtain ⟨i5, hi5, hz5, hs5, hb5⟩ := info_parts hinfo
  refine wpList_buildSlice hg st e 2 #[(0, x), (1, y)] ho (cellsL k f [q, r]).toArray i5 _ hu hi5 hz5 (by rw [hs5]; omega) (by rw [hs5]; omega) ?_ (h _ rfl)
  rw [hs5]
  simp only [List.map_toArray, List.map_cons, List.map_nil, hx, hy]
  refine (Great.fill_whole (s := k) hk [.agg (tab k (f q)), .agg (tab k (f r))] _ (fun v hv => by
    rcases List.mem_cons.1 hv with rfl | hv
    · exact tab_size _ _
    · rw [List.mem_singleton.1 hv]; exact tab_size _ _) (by simp)).trans ?_
  simp [Value.cells, cellsL, tab]
theorem cells_one (q : En) : tab 3 (enV q) = (cellsL 3 enV [q]).toArray := rfl
theorem below_app {w wa w5 : World} {o : Obj} {e : TypeId} {k n : Nat} {v : Value} {xs : List Value} (hb : Below w.heap.size w wa) (hown : wa.ownsRow w.heap.size e k v n xs) (hgr : (wa.alloc o).grownBy w5 v.ownBlock) : Below w.heap.size w w5 := by
  have h1 : Below wa.heap.size wa (wa.alloc o) := (Below.refl _ _).alloc (Nat.le_refl _) _
  have h2 := hb.trans (h1.mono hb.size)
  exact below_own h2 (own_after hown h1) (Nat.le_refl _) h2.size hgr
def planN (gs : List Gr) : List En × Nat := if gs.all okG = true then (if 16 < (planE gs).length then ([], 15) else (planE gs, 0)) else ([], 1)
theorem wp_load_grant {w : World} {ops : Array Oper} {rest : List Oper} {op : Oper} {a : Act} {Q : Exit → Act → World → Prop} (hgd : op.guard = none) (x : Operand) (ho : op.op = .load 36 x)
    (b o : Nat) (hx : a.eval x = .pointer (some ⟨b, o, none⟩)) (g : Gr) (hc : w.rangeAt b o ((List.range 3).map (grV g))) (h : wpList Tryd.prog ops Q rest (a.put op.dst (.agg #[.int .u32 (g.s : Int), .int .u32 (g.z : Int), .int .i64 g.r])) w) : wpList Tryd.prog ops Q (op :: rest) a w :=
  wpList_load_mid hgd 36 x ho b o hx _ _ hc Tryd.underlying36 rfl (by simpa using infoG) h
theorem wp_load_entry {w : World} {ops : Array Oper} {rest : List Oper} {op : Oper} {a : Act} {Q : Exit → Act → World → Prop} (hgd : op.guard = none) (x : Operand) (ho : op.op = .load 32 x)
    (b o : Nat) (hx : a.eval x = .pointer (some ⟨b, o, none⟩)) (g : En) (hc : w.rangeAt b o ((List.range 3).map (enV g))) (h : wpList Tryd.prog ops Q rest (a.put op.dst (.agg #[.int .i64 g.w, .int .i64 g.r, .int .u32 (g.a : Int)])) w) : wpList Tryd.prog ops Q (op :: rest) a w :=
  wpList_load_mid hgd 32 x ho b o hx _ _ hc Tryd.underlying32 rfl (by simpa using infoE) h
theorem size_alloc1 (w : World) (o : Obj) : (w.alloc o).heap.size = w.heap.size + 1 := Array.size_push _
theorem one_new (w : World) (u : Array Value) (t : TypeId) : ∃ wa, wa = w.alloc (.cells u t) ∧ Has wa w.heap.size t u ∧ Below w.heap.size w wa ∧ wa.heap.size = w.heap.size + 1 :=
  ⟨_, rfl, Has.new w t u, (Below.refl _ _).alloc (Nat.le_refl _) _, size_alloc1 w _⟩
theorem own_sl {w : World} {base n k : Nat} {e : TypeId} {v : Value} {xs : List Value} (h : w.ownsRow base e k v n xs) : ∃ A c, v = .slice A n c := by
  rcases h.2 with ⟨rfl, h0⟩ | ⟨g, cap, cur, hv, _⟩
  · subst h0; exact ⟨none, 0, rfl⟩
  · exact ⟨_, cap, hv⟩
theorem ents_wf (gs : List Gr) (hg : ∀ g ∈ gs, g.Wf) (hk : gs.all okG = true) : ∀ e ∈ entsG gs, e.Wf := by
  induction gs with
  | nil => intro e h; cases h
  | cons g l ih =>
    intro e he
    have hw := hg g (List.mem_cons_self ..)
    have hs := hw.s
    have hz := hw.z
    have hr := hw.r
    obtain ⟨k1, k2, k3, k4, k5, k6⟩ := okG_parts (List.all_eq_true.1 hk g (List.mem_cons_self ..))
    have hk2 : l.all okG = true := List.all_eq_true.2 fun x hx => List.all_eq_true.1 hk x (List.mem_cons_of_mem _ hx)
    have i3 : ∀ z : Int, 0 ≤ z → z ≤ 7 → i64ok z := fun z h1 h2 => by unfold i64ok; omega
    rcases List.mem_append.1 (show e ∈ entG g ++ entsG l from he) with h | h
    · unfold entG at h
      split at h
      · rw [List.mem_singleton.1 h]; exact ⟨i3 2 (by decide) (by decide), hr, by show g.s / 4 < _; omega⟩
      · split at h
        · rw [List.mem_singleton.1 h]; exact ⟨i3 3 (by decide) (by decide), hr, by show g.s / 4 + g.z / 8 - 1 < _; omega⟩
        · rcases List.mem_cons.1 h with rfl | h
          · exact ⟨i3 0 (by decide) (by decide), i3 0 (by decide) (by decide), by show g.s / 4 < _; omega⟩
          · rw [List.mem_singleton.1 h]; exact ⟨i3 1 (by decide) (by decide), hr, by show (g.s + g.z) / 4 < _; omega⟩
    · exact ih (fun x hx => hg x (List.mem_cons_of_mem _ hx)) hk2 e h
theorem plan_wf (gs : List Gr) (hg : ∀ g ∈ gs, g.Wf) (hk : gs.all okG = true) : ∀ e ∈ planE gs, e.Wf := by
  intro e he
  rcases List.mem_append.1 (show e ∈ entsG gs ++ [lastE] from he) with h | h
  · exact ents_wf gs hg hk e h
  · rw [List.mem_singleton.1 h]; exact ⟨by unfold i64ok; decide, by unfold i64ok; decide, by decide⟩
theorem planN_bad {gs : List Gr} {i : Nat} (hi : i < gs.length) (h : okG (gs.getD i gr0) = false) : planN gs = ([], 1) := by
  unfold planN
  have : ¬ gs.all okG = true := fun h2 => by
    have h3 := List.all_eq_true.1 h2 (gs.getD i gr0) (by rw [List.getD_eq_getElem?_getD, List.getElem?_eq_getElem hi]; exact List.getElem_mem hi)
    rw [h] at h3; cases h3
  rw [if_neg this]
theorem slE_nil (w : World) : SlE w ⟨none, 0, 0⟩ [] := ⟨rfl, ⟨⟨Nat.le_refl _, Nat.zero_le _⟩, fun h => absurd h (Nat.lt_irrefl _)⟩, fun e h => by cases h⟩
theorem okG_no {g : Gr} (h : ¬(g.s % 4 = 0 ∧ g.z % 4 = 0 ∧ g.z ≠ 0 ∧ g.s + g.z ≤ 4294967296 ∧ 1 ≤ g.r ∧ g.r ≤ 7)) : okG g = false := by
  cases h2 : okG g with
  | false => rfl
  | true => exact absurd (okG_parts h2) h
/-- has the element's row of the power of two been reached: what the loop says -/
theorem pow_end {z k : Nat} (h1 : ∀ j, j < k → 4 * 2 ^ j < z) (h2 : z ≤ 4 * 2 ^ k) (hk : k ≤ 30) : (4 * 2 ^ k = z) = (powB z = true) := by
  refine propext ⟨fun h => ?_, fun h => ?_⟩
  · unfold powB
    exact List.any_eq_true.2 ⟨k, List.mem_range.2 (by omega), decide_eq_true h.symm⟩
  · unfold powB at h
    obtain ⟨j, _, hj⟩ := List.any_eq_true.1 h
    have hj := of_decide_eq_true hj
    rcases Nat.lt_trichotomy j k with h3 | h3 | h3
    · have := h1 j h3; omega
    · rw [← h3, hj]
    · have : 2 ^ (k + 1) ≤ 2 ^ j := Nat.pow_le_pow_right (by decide) h3
      rw [Nat.pow_succ] at this
      have := Nat.two_pow_pos k
      omega
theorem entsG_app (a b : List Gr) : entsG (a ++ b) = entsG a ++ entsG b := by
  induction a with
  | nil => rfl
  | cons g l ih => show entG g ++ entsG (l ++ b) = (entG g ++ entsG l) ++ entsG b; rw [ih, List.append_assoc]
theorem take_succ (gs : List Gr) (i : Nat) (hi : i < gs.length) : gs.take (i + 1) = gs.take i ++ [gs.getD i gr0] := by
  rw [List.take_succ_eq_append_getElem hi]
  simp [List.getD_eq_getElem?_getD, hi]
theorem ents_succ (gs : List Gr) (i : Nat) (hi : i < gs.length) : entsG (gs.take (i + 1)) = entsG (gs.take i) ++ entG (gs.getD i gr0) := by
  rw [take_succ gs i hi, entsG_app]
  show entsG (gs.take i) ++ (entG _ ++ []) = _
  rw [List.append_nil]
theorem entG_len (g : Gr) : (entG g).length ≤ 2 := by
  unfold entG
  split
  · simp
  · split <;> simp
theorem ents_len (gs : List Gr) : (entsG gs).length ≤ 2 * gs.length := by
  induction gs with
  | nil => exact Nat.le_refl _
  | cons g l ih =>
    show (entG g ++ entsG l).length ≤ 2 * (l.length + 1)
    have := entG_len g
    rw [List.length_append]
    omega
set_option maxRecDepth 100000 in
set_option maxHeartbeats 4000000 in
theorem rplan_any (gs : List Gr) (s : Sl) (w : World) (hS : SlG w s gs) (h40 : gs.length ≤ 1000) :
    Calls Tryd.prog 10 #[s.v] w fun e w' => (∃ A n c, e = .returned (.tuple #[.slice A n c, .int .i64 ((planN gs).2 : Int)]) ∧ SlE w' ⟨A, n, c⟩ (planN gs).1) ∧ Below w.heap.size w w' := by
  have hlen := hS.1
  have hn := hS.2.1.1
  have hall := hS
  obtain ⟨A, n, c⟩ := s
  dsimp only at hlen hn
  have HS := Lib.hid hS
  clear hS hall
  show Calls Tryd.prog 10 #[.slice A n c] w _
  go_enter Tryd.func10, Tryd.ntmps10
  go_wp2_with fail
  go_loopw [4, 5] (fun cv ct wr => ∃ (i m : Nat), i ≤ n ∧ ct = .int .i64 (i : Int) ∧ (∀ j, j < i → okG (gs.getD j gr0) = true) ∧ m = (entsG (gs.take i)).length ∧ wr.ownsRow w.heap.size 32 3 cv m (cellsL 3 enV (entsG (gs.take i))) ∧ Below w.heap.size w wr) (fun _ ct _ => (n - (intOf ct)).toNat)
  case atStart => exact ⟨0, 0, Nat.zero_le _, rfl, fun j h => by omega, rfl, ⟨rfl, Or.inl ⟨rfl, rfl⟩⟩, Below.refl _ _⟩
  case round =>
    obtain ⟨i, m, hi, rfl, hok, hm, hown, hb⟩ := hrel
    by_cases hlt : i < n
    · have hin : (i : Int) < (n : Int) := by omega
      have hwf := HS.out.wf (j := i) hlt
      obtain ⟨b, o, hA, hlb, _⟩ := HS.out.2.1.2 (show 0 < n by omega)
      dsimp only at hA
      subst hA
      have hSr := HS.out.below hb
      have hrg := hSr.2.1.range (b := b) (o := o) rfl (j := i) hlt
      have hrg' : wr.rangeAt b (o + i * 3) ((List.range 3).map (grV (gs.getD i gr0))) := hrg
      have hat := at_grant b o n c i hin
      generalize hg : gs.getD i gr0 = g at *
      have hs4 := hwf.s
      have hz4 := hwf.z
      have HG := Lib.hid hg
      have HOK := Lib.hid hok
      have HM := Lib.hid hm
      have HO := Lib.hid hown
      have HB := Lib.hid hb
      have HW := Lib.hid hwf
      clear hg hok hm hown hb hSr hrg hwf
      go_upto_region 6 with (refine wp_load_grant rfl _ rfl b (o + i * 3) rfl g hrg' ?_)
      obtain ⟨wa, hwa, hX, hba, hsa⟩ := one_new wr #[.int .u32 (g.s : Int), .int .u32 (g.z : Int), .int .i64 g.r] 36
      rw [← hwa]
      have hbb := HB.out.trans (hba.mono HB.out.size)
      have hown := own_after HO.out hba
      have c0 : wa.cell? ⟨wr.heap.size, 0, none⟩ = some (.int .u32 (g.s : Int)) := hX.cell 0
      have c1 : wa.cell? ⟨wr.heap.size, 1, none⟩ = some (.int .u32 (g.z : Int)) := hX.cell 1
      have c2 : wa.cell? ⟨wr.heap.size, 2, none⟩ = some (.int .i64 g.r) := hX.cell 2
      clear hwa hba hsa hrg'
      go_quiet (fail)
      replace hbb := below_drewN hbb nq
      replace hown : (wa.drewN nq).ownsRow w.heap.size 32 3 _ m (cellsL 3 enV (entsG (gs.take i))) := hown
      replace c0 : (wa.drewN nq).cell? ⟨wr.heap.size, 0, none⟩ = some (.int .u32 (g.s : Int)) := c0
      replace c1 : (wa.drewN nq).cell? ⟨wr.heap.size, 1, none⟩ = some (.int .u32 (g.z : Int)) := c1
      replace c2 : (wa.drewN nq).cell? ⟨wr.heap.size, 2, none⟩ = some (.int .i64 g.r) := c2
      replace hX : Has (wa.drewN nq) wr.heap.size 36 #[.int .u32 (g.s : Int), .int .u32 (g.z : Int), .int .i64 g.r] := hX
      generalize wa.drewN nq = wa at *
      have HX := Lib.hid hX
      have HBB := Lib.hid hbb
      have HOW := Lib.hid hown
      clear hX hbb hown
      have ms : (g.s : Int).tmod 4 = ((g.s % 4 : Nat) : Int) := by rw [Int.tmod_eq_emod_of_nonneg (by omega)]; omega
      have mz : (g.z : Int).tmod 4 = ((g.z % 4 : Nat) : Int) := by rw [Int.tmod_eq_emod_of_nonneg (by omega)]; omega
      by_cases h1 : g.s % 4 = 0
      · rw [h1] at ms
        have ms' : (g.s : Int) % 4 = 0 := by omega
        by_cases h2 : g.z % 4 = 0
        · rw [h2] at mz
          have mz' : (g.z : Int) % 4 = 0 := by omega
          by_cases h3 : g.z = 0
          · have h3' : (g.z : Int) = 0 := by omega
            rw [h3] at c1
            clear mz
            have hbad := okG_no (g := g) (fun h => h.2.2.1 h3)
            go_wp2_with fail
            go_ret2
            rw [← HG.out] at hbad
            rw [planN_bad (by omega) hbad]
            exact ⟨⟨none, 0, 0, rfl, slE_nil _⟩, HBB.out⟩
          · have h3' : ¬ (g.z : Int) = 0 := by omega
            by_cases h4 : g.s + g.z ≤ 4294967296
            · have h4' : ¬ 4294967296 < (g.s : Int) + (g.z : Int) := by omega
              by_cases h5 : 1 ≤ g.r
              · have h5' : ¬ g.r < 1 := by omega
                by_cases h6 : g.r ≤ 7
                · have h6' : ¬ 7 < g.r := by omega
                  have hokg : okG g = true := by
                    cases h2 : okG g with
                    | true => rfl
                    | false => unfold okG at h2; simp at h2; omega
                  go_upto_region 9 with fail
                  have hm80 : m ≤ 2 * i := by
                    have h8 := HM.out
                    have h9 := ents_len (gs.take i)
                    rw [List.length_take] at h9
                    omega
                  have hn1000 : n ≤ 1000 := by omega
                  clear ms mz ms' mz' h4' h5' h6' h3'
                  go_wp2_with fail
                  go_loopw [9] (fun cp wq => ∃ k, k ≤ 30 ∧ cp = .int .i64 ((4 * 2 ^ k : Nat) : Int) ∧ (∀ j, j < k → 4 * 2 ^ j < g.z) ∧ wa = wq) (fun cp _ => (8589934592 - (intOf cp)).toNat)
                  case atStart => exact ⟨0, by omega, rfl, fun j h => by omega, rfl⟩
                  case round =>
                    obtain ⟨k, hk, rfl, hkj, rfl⟩ := hrel
                    have hp0 := Nat.two_pow_pos k
                    have hp30 : 2 ^ k ≤ 1073741824 := Nat.le_trans (Nat.pow_le_pow_right (by decide) hk) (by decide)
                    have hps : 4 * 2 ^ (k + 1) = 4 * 2 ^ k * 2 := by rw [Nat.pow_succ]; omega
                    have hpe := fun h => pow_end hkj h hk
                    obtain ⟨S, hS⟩ : ∃ S, S = 4 * 2 ^ k := ⟨_, rfl⟩
                    rw [← hS] at hps hpe
                    rw [← hS]
                    have hSl : S ≤ 4294967296 := by omega
                    have hS1 : 1 ≤ S := by omega
                    have HS2 := Lib.hid hS
                    have HPS := Lib.hid hps
                    have HPE := Lib.hid hpe
                    have HKJ := Lib.hid hkj
                    clear hS hps hpe hkj hp0 hp30
                    by_cases hSz : S < g.z
                    · have hSz' : (S : Int) < (g.z : Int) := by omega
                      clear HPE
                      go_wp2_with fail
                      go_roundw
                      case rel =>
                        have hk1 : k + 1 ≤ 30 := by
                          rcases Nat.lt_or_ge k 30 with h | h
                          · exact h
                          · have h9 : k = 30 := by omega
                            have h8 := HS2.out
                            rw [h9] at h8
                            have e : (2 : Nat) ^ 30 = 1073741824 := by decide
                            omega
                        refine ⟨k + 1, hk1, ?_, fun j hj => ?_, trivial⟩
                        · rw [HPS.out]; rfl
                        · by_cases hjk : j = k
                          · rw [hjk, ← HS2.out]; exact hSz
                          · exact HKJ.out j (by omega)
                      case measure => simp [intOf] <;> omega
                    · have hSz' : ¬ (S : Int) < (g.z : Int) := by omega
                      have hpw := HPE.out (by omega)
                      have HPW := Lib.hid hpw
                      clear hpw HPE HPS HKJ HS2
                      by_cases hz4e : g.z = 4
                      · have dz4 : ((g.z : Int) == 4) = true := by rw [hz4e]; rfl
                        have hEG : entG g = [⟨2, g.r, g.s / 4⟩] := by unfold entG; rw [if_pos hz4e]
                        have htd : (g.s : Int).tdiv 4 = ((g.s / 4 : Nat) : Int) := by rw [Int.tdiv_eq_ediv_of_nonneg (by omega)]; omega
                        have hdd : (g.s : Int) / 4 = ((g.s / 4 : Nat) : Int) := by omega
                        obtain ⟨a1, ha1⟩ : ∃ a1, a1 = g.s / 4 := ⟨_, rfl⟩
                        have hal : a1 < 4294967296 := by omega
                        rw [← ha1] at hEG htd hdd
                        have HEG := Lib.hid hEG
                        clear hEG ha1
                        go_upto_region 13 with fail
                        go_wp2_with (refine wp_append_els (f := enV) Tryd.underlying24 infoEb rfl (by decide) (by decide) enV_one rfl _ _ rfl w.heap.size _ m _ rfl (own_after HOW.out ((Below.refl _ _).alloc (Nat.le_refl _) _)) _ 1 rfl [⟨2, g.r, a1⟩] rfl (Has.new _ _ _) (by omega) (by rw [size_alloc1]; have h8 := HBB.out.size; omega) ?_; intro v5 w5 hown5 hgr5)
                        go_roundw
                        case rel =>
                          have hb5 := below_app HBB.out HOW.out hgr5
                          refine ⟨i + 1, m + 1, by omega, by go_num, fun j hj => ?_, ?_, ?_, hb5⟩
                          · by_cases hji : j = i
                            · rw [hji, HG.out]; exact hokg
                            · exact HOK.out j (by omega)
                          · rw [ents_succ gs i (by omega), HG.out, HEG.out, List.length_append, ← HM.out]; rfl
                          · rw [ents_succ gs i (by omega), HG.out, HEG.out]; exact hown5
                        case measure => simp [intOf] <;> omega
                      · have dz4 : ((g.z : Int) == 4) = false := beq_eq_false_iff_ne.2 (by omega)
                        have dz4' : ¬ (g.z : Int) = 4 := by omega
                        have hmt : (g.s : Int).tmod (g.z : Int) = ((g.s % g.z : Nat) : Int) := by rw [Int.tmod_eq_emod_of_nonneg (by omega)]; rfl
                        have hmd : (g.s : Int) % (g.z : Int) = ((g.s % g.z : Nat) : Int) := rfl
                        have hzn : ¬ (g.z : Int) = 0 := by omega
                        obtain ⟨mm, hmm⟩ : ∃ mm, mm = g.s % g.z := ⟨_, rfl⟩
                        rw [← hmm] at hmt hmd
                        have HMM := Lib.hid hmm
                        clear hmm
                        by_cases hp : powB g.z = true
                        · have hSe : S = g.z := by rw [HPW.out]; exact hp
                          have dS : ((S : Int) == (g.z : Int)) = true := by rw [hSe]; exact beq_self_eq_true _
                          by_cases hmz : mm = 0
                          · have dm : ((mm : Int) == 0) = true := by rw [hmz]; rfl
                            obtain ⟨k8, hk8, hz8⟩ := powB_some hp hz4e
                            have hp8 := Nat.two_pow_pos k8
                            have hEG : entG g = [⟨3, g.r, g.s / 4 + g.z / 8 - 1⟩] := by
                              unfold entG
                              rw [if_neg hz4e, if_pos (by rw [hp, decide_eq_true (HMM.out ▸ hmz)]; rfl)]
                            have htd : (g.s : Int).tdiv 4 = ((g.s / 4 : Nat) : Int) := by rw [Int.tdiv_eq_ediv_of_nonneg (by omega)]; omega
                            have hdd : (g.s : Int) / 4 = ((g.s / 4 : Nat) : Int) := by omega
                            have htd2 : (g.z : Int).tdiv 8 = ((g.z / 8 : Nat) : Int) := by rw [Int.tdiv_eq_ediv_of_nonneg (by omega)]; omega
                            have hdd2 : (g.z : Int) / 8 = ((g.z / 8 : Nat) : Int) := by omega
                            obtain ⟨q1, hq1⟩ : ∃ q1, q1 = g.s / 4 := ⟨_, rfl⟩
                            obtain ⟨q2, hq2⟩ : ∃ q2, q2 = g.z / 8 := ⟨_, rfl⟩
                            obtain ⟨a1, ha1⟩ : ∃ a1, a1 = q1 + q2 - 1 := ⟨_, rfl⟩
                            have hq2p : 1 ≤ q2 := by omega
                            have hqa : (q1 : Int) + (q2 : Int) - 1 = (a1 : Int) := by omega
                            have hql : q1 + q2 ≤ 2147483648 := by omega
                            have hal : a1 < 4294967296 := by omega
                            rw [← hq1, ← hq2, ← ha1] at hEG
                            rw [← hq1] at htd hdd
                            rw [← hq2] at htd2 hdd2
                            have HEG := Lib.hid hEG
                            clear hEG hq1 hq2 ha1 hz8 hp8 hp hSe
                            go_upto_region 15 with fail
                            go_wp2_with (refine wp_append_els (f := enV) Tryd.underlying24 infoEb rfl (by decide) (by decide) enV_one rfl _ _ rfl w.heap.size _ m _ rfl (own_after HOW.out ((Below.refl _ _).alloc (Nat.le_refl _) _)) _ 1 rfl [⟨3, g.r, a1⟩] rfl (Has.new _ _ _) (by omega) (by rw [size_alloc1]; have h8 := HBB.out.size; omega) ?_; intro v5 w5 hown5 hgr5)
                            go_roundw
                            case rel =>
                              have hb5 := below_app HBB.out HOW.out hgr5
                              refine ⟨i + 1, m + 1, by omega, by go_num, fun j hj => ?_, ?_, ?_, hb5⟩
                              · by_cases hji : j = i
                                · rw [hji, HG.out]; exact hokg
                                · exact HOK.out j (by omega)
                              · rw [ents_succ gs i (by omega), HG.out, HEG.out, List.length_append, ← HM.out]; rfl
                              · rw [ents_succ gs i (by omega), HG.out, HEG.out]; exact hown5
                            case measure => simp [intOf] <;> omega
                          · have dm : ((mm : Int) == 0) = false := beq_eq_false_iff_ne.2 (by omega)
                            have hEG : entG g = [⟨0, 0, g.s / 4⟩, ⟨1, g.r, (g.s + g.z) / 4⟩] := by unfold entG; rw [if_neg hz4e, if_neg (fun h => hmz (by rw [HMM.out]; exact of_decide_eq_true (Bool.and_eq_true_iff.1 h).2))]
                            have htd : (g.s : Int).tdiv 4 = ((g.s / 4 : Nat) : Int) := by rw [Int.tdiv_eq_ediv_of_nonneg (by omega)]; omega
                            have hdd : (g.s : Int) / 4 = ((g.s / 4 : Nat) : Int) := by omega
                            have htd2 : ((g.s : Int) + (g.z : Int)).tdiv 4 = (((g.s + g.z) / 4 : Nat) : Int) := by rw [Int.tdiv_eq_ediv_of_nonneg (by omega)]; omega
                            have hdd2 : ((g.s : Int) + (g.z : Int)) / 4 = (((g.s + g.z) / 4 : Nat) : Int) := by omega
                            obtain ⟨a0, ha0⟩ : ∃ a0, a0 = g.s / 4 := ⟨_, rfl⟩
                            obtain ⟨a1, ha1⟩ : ∃ a1, a1 = (g.s + g.z) / 4 := ⟨_, rfl⟩
                            have hal0 : a0 < 4294967296 := by omega
                            have hal : a1 < 4294967296 := by omega
                            rw [← ha0, ← ha1] at hEG
                            rw [← ha0] at htd hdd
                            rw [← ha1] at htd2 hdd2
                            have HEG := Lib.hid hEG
                            clear hEG ha0 ha1
                            clear hp hSe
                            go_upto_region 16 with fail
                            go_wp2_with (refine wp_append_els (f := enV) Tryd.underlying24 infoEb rfl (by decide) (by decide) enV_one rfl _ _ rfl w.heap.size _ m _ rfl (own_after HOW.out ((Below.refl _ _).alloc (Nat.le_refl _) _)) _ 2 rfl [⟨0, 0, a0⟩, ⟨1, g.r, a1⟩] rfl (Has.new _ _ _) (by omega) (by rw [size_alloc1]; have h8 := HBB.out.size; omega) ?_; intro v5 w5 hown5 hgr5)
                            go_roundw
                            case rel =>
                              have hb5 := below_app HBB.out HOW.out hgr5
                              refine ⟨i + 1, m + 2, by omega, by go_num, fun j hj => ?_, ?_, ?_, hb5⟩
                              · by_cases hji : j = i
                                · rw [hji, HG.out]; exact hokg
                                · exact HOK.out j (by omega)
                              · rw [ents_succ gs i (by omega), HG.out, HEG.out, List.length_append, ← HM.out]; rfl
                              · rw [ents_succ gs i (by omega), HG.out, HEG.out]; exact hown5
                            case measure => simp [intOf] <;> omega
                        · have dS : ((S : Int) == (g.z : Int)) = false := beq_eq_false_iff_ne.2 (fun h => hp (HPW.out ▸ (by omega : S = g.z)))
                          have hEG : entG g = [⟨0, 0, g.s / 4⟩, ⟨1, g.r, (g.s + g.z) / 4⟩] := by unfold entG; rw [if_neg hz4e, if_neg (fun h => hp (Bool.and_eq_true_iff.1 h).1)]
                          have htd : (g.s : Int).tdiv 4 = ((g.s / 4 : Nat) : Int) := by rw [Int.tdiv_eq_ediv_of_nonneg (by omega)]; omega
                          have hdd : (g.s : Int) / 4 = ((g.s / 4 : Nat) : Int) := by omega
                          have htd2 : ((g.s : Int) + (g.z : Int)).tdiv 4 = (((g.s + g.z) / 4 : Nat) : Int) := by rw [Int.tdiv_eq_ediv_of_nonneg (by omega)]; omega
                          have hdd2 : ((g.s : Int) + (g.z : Int)) / 4 = (((g.s + g.z) / 4 : Nat) : Int) := by omega
                          obtain ⟨a0, ha0⟩ : ∃ a0, a0 = g.s / 4 := ⟨_, rfl⟩
                          obtain ⟨a1, ha1⟩ : ∃ a1, a1 = (g.s + g.z) / 4 := ⟨_, rfl⟩
                          have hal0 : a0 < 4294967296 := by omega
                          have hal : a1 < 4294967296 := by omega
                          rw [← ha0, ← ha1] at hEG
                          rw [← ha0] at htd hdd
                          rw [← ha1] at htd2 hdd2
                          have HEG := Lib.hid hEG
                          clear hEG ha0 ha1
                          clear hp
                          go_upto_region 16 with fail
                          go_wp2_with (refine wp_append_els (f := enV) Tryd.underlying24 infoEb rfl (by decide) (by decide) enV_one rfl _ _ rfl w.heap.size _ m _ rfl (own_after HOW.out ((Below.refl _ _).alloc (Nat.le_refl _) _)) _ 2 rfl [⟨0, 0, a0⟩, ⟨1, g.r, a1⟩] rfl (Has.new _ _ _) (by omega) (by rw [size_alloc1]; have h8 := HBB.out.size; omega) ?_; intro v5 w5 hown5 hgr5)
                          go_roundw
                          case rel =>
                            have hb5 := below_app HBB.out HOW.out hgr5
                            refine ⟨i + 1, m + 2, by omega, by go_num, fun j hj => ?_, ?_, ?_, hb5⟩
                            · by_cases hji : j = i
                              · rw [hji, HG.out]; exact hokg
                              · exact HOK.out j (by omega)
                            · rw [ents_succ gs i (by omega), HG.out, HEG.out, List.length_append, ← HM.out]; rfl
                            · rw [ents_succ gs i (by omega), HG.out, HEG.out]; exact hown5
                          case measure => simp [intOf] <;> omega
                · have h6' : 7 < g.r := by omega
                  have h6x := h6
                  have hbad := okG_no (g := g) (fun h => h6x h.2.2.2.2.2)
                  go_wp2_with fail
                  go_ret2
                  rw [← HG.out] at hbad
                  rw [planN_bad (by omega) hbad]
                  exact ⟨⟨none, 0, 0, rfl, slE_nil _⟩, HBB.out⟩
              · have h5' : g.r < 1 := by omega
                have h5x := h5
                have hbad := okG_no (g := g) (fun h => h5x h.2.2.2.2.1)
                go_wp2_with fail
                go_ret2
                rw [← HG.out] at hbad
                rw [planN_bad (by omega) hbad]
                exact ⟨⟨none, 0, 0, rfl, slE_nil _⟩, HBB.out⟩
            · have h4' : 4294967296 < (g.s : Int) + (g.z : Int) := by omega
              have h4x := h4
              clear h4
              have hbad := okG_no (g := g) (fun h => h4x h.2.2.2.1)
              go_wp2_with fail
              go_ret2
              rw [← HG.out] at hbad
              rw [planN_bad (by omega) hbad]
              exact ⟨⟨none, 0, 0, rfl, slE_nil _⟩, HBB.out⟩
        · have mz' : ¬ (g.z : Int) % 4 = 0 := by omega
          have mz2 : ¬ (g.z : Int).tmod 4 = 0 := by rw [mz]; omega
          have h2x := h2
          clear mz h2
          have hbad := okG_no (g := g) (fun h => h2x h.2.1)
          go_wp2_with fail
          go_ret2
          rw [← HG.out] at hbad
          rw [planN_bad (by omega) hbad]
          exact ⟨⟨none, 0, 0, rfl, slE_nil _⟩, HBB.out⟩
      · have ms' : ¬ (g.s : Int) % 4 = 0 := by omega
        have ms2 : ¬ (g.s : Int).tmod 4 = 0 := by rw [ms]; omega
        clear ms
        have hbad := okG_no (g := g) (fun h => h1 h.1)
        go_wp2_with fail
        go_ret2
        rw [← HG.out] at hbad
        rw [planN_bad (by omega) hbad]
        exact ⟨⟨none, 0, 0, rfl, slE_nil _⟩, HBB.out⟩
    · obtain rfl : i = n := by omega
      have hallB : gs.all okG = true := List.all_eq_true.2 fun g hg => by
        obtain ⟨j, hj, rfl⟩ := List.getElem_of_mem hg
        have := hok j (by omega)
        rwa [List.getD_eq_getElem?_getD, List.getElem?_eq_getElem hj] at this
      have htk : gs.take i = gs := by rw [← hlen]; exact List.take_length
      rw [htk] at hm hown
      have hm2 : m ≤ 2000 := by have := ents_len gs; omega
      have hpl : (planE gs).length = m + 1 := by unfold planE; rw [List.length_append, hm]; rfl
      have hwfE : ∀ e ∈ planE gs, e.Wf := plan_wf gs HS.out.2.2 hallB
      have HOW := Lib.hid hown
      have HBB := Lib.hid hb
      have HPL := Lib.hid hpl
      have HAL := Lib.hid hallB
      have HWE := Lib.hid hwfE
      clear hm hown hb hpl hallB hwfE htk hok hlt
      go_upto_region 18 with (first
        | (refine wp_append_els (f := enV) Tryd.underlying24 infoEb rfl (by decide) (by decide) enV_one rfl _ _ rfl w.heap.size _ m _ rfl (own_after HOW.out ((Below.refl _ _).alloc (Nat.le_refl _) _)) _ 1 rfl [⟨3, 0, 536870911⟩] rfl (Has.new _ _ _) (by omega) (by rw [size_alloc1]; have h8 := HBB.out.size; omega) ?_
           intro v5 w5 hown5 hgr5
           obtain ⟨A5, c5, rfl⟩ := own_sl hown5
           have hb5 := below_app HBB.out HOW.out hgr5
           have hs5 := own_slC hown5 (by decide) (by omega) en0
           have HS5 := Lib.hid hs5
           have HB5 := Lib.hid hb5
           clear hown5 hgr5 hs5 hb5))
      by_cases h16 : 16 < m + 1
      · have h16' : 16 < (m : Int) + 1 := by omega
        have hpn : planN gs = ([], 15) := by unfold planN; rw [if_pos HAL.out, if_pos (by rw [HPL.out]; exact h16)]
        go_wp2_with fail
        go_ret2
        try rw [hpn]
        exact ⟨⟨none, 0, 0, rfl, slE_nil _⟩, HB5.out⟩
      · have h16' : ¬ 16 < (m : Int) + 1 := by omega
        have hpn : planN gs = (planE gs, 0) := by unfold planN; rw [if_pos HAL.out, if_neg (by rw [HPL.out]; exact h16)]
        go_wp2_with fail
        go_ret2
        try rw [hpn]
        exact ⟨⟨_, _, _, rfl, ⟨HS5.out.1, HS5.out.2, HWE.out⟩⟩, HB5.out⟩
end Go.Proofs.YtjpmigagoedbcaaDoor.Pm
