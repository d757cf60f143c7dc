/-
Layer 16: HartStays: no block of registers twice; what the law keeps before a step.
-/
import Derived.Test.YtgpofoggfifnjaaGreatDoorJBf
namespace Go.Proofs.YtgpofoggfifnjaaGreatDoor.Ha
open Go Go.RowKit
open Go.Proofs.YtgpofoggfifnjaaGreatDoor (opOf inR stM ldV stB RamP mP wp_load_tabW undM zeroM sizeM memV_one memV)
open Go.Proofs.YtgpofoggfifnjaaGreatDoor.Cs (St CsrOK Only S1 hP new_stepS cell_heap cell_far one_new upd dueC trapC tickC readC)
open Go.Proofs.YtgpofoggfifnjaaGreatDoor.Pm (wp_fresh)

/-- no row of registers lies from B on; no two do -/
def NoT (B : Nat) (w : World) : Prop := ∀ b cs, B ≤ b → ¬ Has w b 44 cs
def OneT (B : Nat) (w : World) : Prop := ∀ b c cs ds, B ≤ b → B ≤ c → Has w b 44 cs → Has w c 44 ds → b = c
theorem has_back {S : Nat → Prop} {w w' : World} {b : Nat} {t : TypeId} {cs : Array Value} (k : Only S w w') (hl : b < w.heap.size) (hn : ¬ S b) (h : Has w' b t cs) : Has w b t cs := (k.block b hl hn).symm.trans h
theorem has_fun {w : World} {b : Nat} {t : TypeId} {cs ds : Array Value} (h1 : Has w b t cs) (h2 : Has w b t ds) : cs = ds := by
  have e : some (Obj.cells cs t (0, 0)) = some (Obj.cells ds t (0, 0)) := h1.symm.trans h2
  injection e with e
  injection e with e1 _ _
theorem has_type {w : World} {b : Nat} {t t' : TypeId} {cs ds : Array Value} (h1 : Has w b t cs) (h2 : Has w b t' ds) : t = t' := by
  have e : some (Obj.cells cs t (0, 0)) = some (Obj.cells ds t' (0, 0)) := h1.symm.trans h2
  injection e with e
  injection e with _ e2 _
theorem inv_4 {u w w' : World} {p pc g gm : Nat} {x : Nat → Nat} {m : Nat → UInt8} (h : Has w p 48 (tab 35 (hV x pc g (some gm))) ∧ RamP w gm m ∧ Below u.heap.size u w ∧ OneT u.heap.size w) (hb : Below w.heap.size w w') (hn : ∀ b cs, w.heap.size ≤ b → ¬ Has w' b 44 cs) :
    Has w' p 48 (tab 35 (hV x pc g (some gm))) ∧ RamP w' gm m ∧ Below u.heap.size u w' ∧ OneT u.heap.size w' := by
  have k : Only (fun _ => False) w w' := Only.of_below hb
  refine ⟨h.1.after hb, ram_only h.2.1 k (fun h => h), h.2.2.1.trans (hb.mono h.2.2.1.size), fun b c cs ds hb1 hc1 h1 h2 => ?_⟩
  have l1 : b < w.heap.size := Nat.lt_of_not_le fun hle => hn b cs hle h1
  have l2 : c < w.heap.size := Nat.lt_of_not_le fun hle => hn c ds hle h2
  exact h.2.2.2 b c cs ds hb1 hc1 (has_back k l1 (fun h => h) h1) (has_back k l2 (fun h => h) h2)
theorem inv_15 {u w w' : World} {p pc g gm bt : Nat} {x : Nat → Nat} {m : Nat → UInt8} (hp : Has u p 48 (tab 35 (hV x pc g (some gm)))) (hm : RamP u gm m) (h : Has w p 48 (tab 35 (hV x pc g (some gm))) ∧ RamP w gm m ∧ Below u.heap.size u w ∧ OneT u.heap.size w) (hbt : u.heap.size ≤ bt) (k : Only (S1 bt) w w') :
    Has w' p 48 (tab 35 (hV x pc g (some gm))) ∧ RamP w' gm m ∧ Below u.heap.size u w' := by
  have lp := hp.lt
  have lm : gm < u.heap.size := by obtain ⟨N, _, hG⟩ := hm; exact hG.lt
  exact ⟨k.has h.1 (fun e => by have e : p = bt := e; omega), ram_only h.2.1 k (fun e => by have e : gm = bt := e; omega), h.2.2.1.trans (k.below (fun i e => by have e : i = bt := e; omega) h.2.2.1.size)⟩
theorem one_alloc {B : Nat} {w : World} {cs : Array Value} {t : TypeId} (h : NoT B w) : OneT B (w.alloc (.cells cs t)) := by
  have hb : Below w.heap.size w (w.alloc (.cells cs t)) := (Below.refl _ _).alloc (Nat.le_refl _) _
  have k : Only (fun _ => False) w (w.alloc (.cells cs t)) := Only.of_below hb
  have key : ∀ b ds, B ≤ b → Has (w.alloc (.cells cs t)) b 44 ds → b = w.heap.size := fun b ds hb1 h1 => by
    have l1 := h1.lt
    rw [Pm.size_alloc1] at l1
    by_cases hlt : b < w.heap.size
    · exact absurd (has_back k hlt (fun h => h) h1) (h b ds hb1)
    · omega
  intro b c cs1 ds hb1 hc1 h1 h2
  rw [key b _ hb1 h1, key c _ hc1 h2]
theorem one_only {B bt : Nat} {w w' : World} (h : OneT B w) (k : Only (S1 bt) w w') (hs : w'.heap.size = w.heap.size) (hbt : ∃ cs, Has w bt 44 cs) : OneT B w' := by
  obtain ⟨ct, hct⟩ := hbt
  have key : ∀ b ds, Has w' b 44 ds → ∃ cs, Has w b 44 cs := fun b ds h1 => by
    by_cases e : b = bt
    · subst e; exact ⟨ct, hct⟩
    · exact ⟨ds, has_back k (by have := h1.lt; omega) e h1⟩
  intro b c cs ds hb1 hc1 h1 h2
  obtain ⟨c1, q1⟩ := key b cs h1
  obtain ⟨c2, q2⟩ := key c ds h2
  exact h b c c1 c2 hb1 hc1 q1 q2
theorem ram_ne {w : World} {g b : Nat} {m : Nat → UInt8} {cs : Array Value} (h : RamP w g m) (h2 : Has w b 44 cs) : ¬ g = b := fun e => by
  obtain ⟨N, _, hG⟩ := h
  subst e
  exact absurd (has_type hG h2) (by decide)
theorem cp_13 {B : Nat} {v : Value} {w w' : World} {m : Nat → UInt8} (h : ∃ gc, v = mP gc ∧ B ≤ gc ∧ RamP w gc m) (hb : Below w.heap.size w w') : ∃ gc, v = mP gc ∧ B ≤ gc ∧ RamP w' gc m := by
  obtain ⟨gc, e1, e2, e3⟩ := h
  exact ⟨gc, e1, e2, ram_only e3 (Only.of_below (S := fun _ => False) hb) (fun h => h)⟩
theorem cp_15 {B bt : Nat} {v : Value} {w w' : World} {m : Nat → UInt8} {cs : Array Value} (h : ∃ gc, v = mP gc ∧ B ≤ gc ∧ RamP w gc m) (h2 : Has w bt 44 cs) (k : Only (S1 bt) w w') : ∃ gc, v = mP gc ∧ B ≤ gc ∧ RamP w' gc m := by
  obtain ⟨gc, e1, e2, e3⟩ := h
  exact ⟨gc, e1, e2, ram_only e3 k (fun e => ram_ne e3 h2 e)⟩
theorem row_15 {B bt bu : Nat} {ft fx : Nat → Value} {v : Value} {w w' : World} (e1 : v = .pointer (some ⟨bt, 0, none⟩)) (e2 : B ≤ bt) (e3 : Has w bt 44 (tab 32 ft)) (h3 : Has w' bu 44 (tab 32 fx)) (k : Only (S1 bu) w w') : ∃ bt ft, v = .pointer (some ⟨bt, 0, none⟩) ∧ B ≤ bt ∧ Has w' bt 44 (tab 32 ft) := by
  by_cases e : bt = bu
  · subst e; exact ⟨bt, fx, e1, e2, h3⟩
  · exact ⟨bt, ft, e1, e2, k.has e3 e⟩
theorem noT_4 {B : Nat} {w w' : World} (h : NoT B w) (hb : Below w.heap.size w w') (hn : ∀ b cs, w.heap.size ≤ b → ¬ Has w' b 44 cs) : NoT B w' := fun b cs hb1 h1 => by
  by_cases hl : b < w.heap.size
  · exact h b cs hb1 (has_back (S := fun _ => False) (Only.of_below hb) hl (fun h => h) h1)
  · exact hn b cs (by omega) h1
theorem store_tabZ {P : Program} {w : World} {op : Oper} {a : Act} {K : Act → World → Prop} {Q : Exit → Act → World → Prop} (ty : TypeId) (x y : Operand) (ho : op.op = .store ty x y)
    (g off : Nat) (hx : a.eval x = .pointer (some ⟨g, off, none⟩)) (n : Nat) (v : Nat → Value) (hy : a.eval y = .agg (tab n v))
    (N : Nat) (f : Nat → Value) (t : TypeId) (hg : Has w g t (tab N f)) (hi : (P.info? ty).map (·.size) = some n) (hfit : off + n ≤ N) (h1 : ∀ j, (v j).oneCell' = true)
    (h : ∀ w', Has w' g t (tab N fun j => if off ≤ j ∧ j < off + n then v (j - off) else f j) → w.grownBy w' (some g) → w'.heap.size = w.heap.size → K (a.put op.dst undef) w') : op.wp P a w K Q := by
  have hl : ((List.range n).map v).length = n := by simp
  have hrun := run_storeCells_at (P := P) g off t ((List.range n).map v) 0 (tab N f) w hg (by rw [hl, tab_size]; omega) (fun u hu => by obtain ⟨j, _, rfl⟩ := List.mem_map.1 hu; exact h1 j)
  have e := tab_splice N f v off n hfit
  rw [hl, Nat.add_zero, List.append_assoc, e] at hrun
  have hs : (storeVar ty ⟨g, off, none⟩ (.agg (tab n v))).run P w = .ok () (w.setRow g (tab N fun j => if off ≤ j ∧ j < off + n then v (j - off) else f j)) := by
    cases hq : P.info? ty with
    | none => simp [hq] at hi
    | some i =>
      have hs : i.size = n := by simpa [hq] using hi
      simp [storeVar, sizeOf, typeInfo, hq, Value.cells, hs, tab_size, tab_toList, hrun]
  unfold Oper.wp execOp
  simp only [ho, hx, hy, Instr.storeAt, Instr.sureAddr, Sem.run_bind, Sem.run_pure, Result.andThen_ok, hs]
  exact h _ (hg.setRow _) ⟨rfl, rfl, rfl, by simp, fun i _ hne => setRow_other w g i _ (fun e => hne (by rw [e]))⟩ (by simp)
theorem wp_freshZ {P : Program} {w : World} {ops : Array Oper} {rest : List Oper} {o1 o2 : Oper} {a : Act} {Q : Exit → Act → World → Prop} (ty : TypeId) (n : Nat) (v z : Nat → Value) (x y : Operand)
    (hg1 : o1.guard = none) (h1 : o1.op = .alloc ty) (hg2 : o2.guard = none) (h2 : o2.op = .store ty x y)
    (hz : ∀ w, (zeroValue ty).run P w = .ok (.agg (tab n z)) w) (hi : (P.info? ty).map (·.size) = some n) (h1v : ∀ j, (v j).oneCell' = true)
    (hx : (a.put o1.dst (.pointer (some ⟨w.heap.size, 0, none⟩))).eval x = .pointer (some ⟨w.heap.size, 0, none⟩)) (hy : (a.put o1.dst (.pointer (some ⟨w.heap.size, 0, none⟩))).eval y = .agg (tab n v))
    (h : ∀ w', Has w' w.heap.size ty (tab n v) → Below w.heap.size w w' → w'.heap.size = w.heap.size + 1 → wpList P ops Q rest ((a.put o1.dst (.pointer (some ⟨w.heap.size, 0, none⟩))).put o2.dst undef) w') : wpList P ops Q (o1 :: o2 :: rest) a w := by
  refine wpList_plain hg1 fun K hK => ?_
  unfold Oper.wp execOp
  simp only [h1, Instr.alloc, Sem.run_bind, hz, Result.andThen_ok]
  have hnv : (newVar ty (.agg (tab n z))).run P w = .ok ⟨w.heap.size, 0, none⟩ (w.alloc (.cells (tab n z) ty)) := by
    go_simp
  simp only [hnv, Result.andThen_ok, Sem.run_pure]
  refine hK _ _ ?_
  refine wpList_plain hg2 fun K2 hK2 => ?_
  refine store_tabZ ty x y h2 w.heap.size 0 hx n v hy n z ty (Has.new _ _ _) hi (by omega) h1v ?_
  intro w' hh hg hsz
  have e : (tab n fun j => if 0 ≤ j ∧ j < 0 + n then v (j - 0) else z j) = tab n v := tab_ext _ _ _ fun j hj => by rw [if_pos ⟨Nat.zero_le _, by omega⟩]; rfl
  rw [e] at hh
  have hb1 : Below w.heap.size w (w.alloc (.cells (tab n z) ty)) := (Below.refl _ _).alloc (Nat.le_refl _) _
  have hb2 := hb1.trans (below_of_only hg (Nat.le_refl _) (by simp))
  exact hK2 _ _ (h w' hh hb2 (hsz.trans (Pm.size_alloc1 _ _)))
set_option maxRecDepth 100000 in
set_option maxHeartbeats 1000000 in
theorem copy1_any (m : Nat → UInt8) (g : Nat) (w : World) (hG : RamP w g m) :
    Calls Tryz.prog 10 #[mP g] w fun e w' => (∃ g', e = .returned (mP g') ∧ RamP w' g' m ∧ w.heap.size ≤ g') ∧ (∀ b cs, w.heap.size ≤ b → ¬ Has w' b 44 cs) ∧ Below w.heap.size w w' := by
  obtain ⟨N, hN, hG⟩ := hG
  obtain ⟨d, hu, hd⟩ := undM
  have HU := Lib.hid hu
  have hz := zeroM N hN
  have hsz := sizeM N hN
  have h0 : 0 < N := by omega
  have HN := Lib.hid hN
  clear hu hN
  go_enter Tryz.func10, Tryz.ntmps10
  go_wp2_with (first
    | (refine wp_load_tabW rfl _ _ rfl g rfl N _ _ hG d HU.out hd hsz ?_)
    | (refine wp_freshZ 86 N _ _ _ _ rfl rfl rfl rfl hz hsz (memV_one m) rfl rfl ?_
       intro w1 hG1 hb1 hz1))
  go_ret
  refine ⟨⟨w.heap.size, rfl, ⟨N, HN.out, hG1⟩, Nat.le_refl _⟩, fun b cs hb hh => ?_, hb1⟩
  have hl := hh.lt
  obtain rfl : b = w.heap.size := by omega
  exact absurd (has_type hh hG1) (by decide)

end Go.Proofs.YtgpofoggfifnjaaGreatDoor.Ha
