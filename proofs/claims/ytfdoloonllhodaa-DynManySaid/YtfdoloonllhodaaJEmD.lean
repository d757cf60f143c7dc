/-
Layer 8, package elf: segmentOf.
-/
import Derived.Test.YtfdoloonllhodaaJEmC
import Derived.Test.YtfdoloonllhodaaJElE
import Derived.BigQuiet
namespace Go.Proofs.Ytfdoloonllhodaa
open Go Go.RowKit

set_option maxRecDepth 100000 in
set_option maxHeartbeats 1000000 in
theorem epart_ok (bs : List UInt8) (A : Option Addr) (n c a f : Nat) (w : World) (hS : SlA w A n c bs) (hl : bs.length ≤ 100000) (ha : a < 4294967296) (hf : f < 4294967296) (h : a + f ≤ bs.length) :
    Calls Try.prog 42 #[.slice A n c, .int .u32 (a : Int), .int .u32 (f : Int)] w fun e w' => e = .returned (.tuple #[.slice (offA A c a) f f, .bool true]) ∧ w = w' := by
  have hn : bs.length = n := hS.1
  have hnc := hS.2.1
  rw [hn] at h
  have kW := pwithin_any a f 0 n w ha hf (by decide) (by omega)
  have hn32 : (n : Int) < 4294967296 := by omega
  have hr : inB a f 0 n = true := decide_eq_true (by omega)
  rw [hr] at kW
  have r1 := fun W => run_tail32 A n c a (by omega) W
  have r2 := fun W => run_front32 (offA A c a) (n - a) (c - a) f (by omega) W
  generalize offA A c a = A' at *
  generalize n - a = n' at *
  generalize c - a = c' at *
  clear h hr hS hl hn
  go_enter Try.func42, Try.ntmps42
  go_wp2_with (refine kW.mono ?_; rintro e w' ⟨rfl, rfl⟩)
  go_ret2
  exact ⟨rfl, rfl⟩
/-- append(v, x...), x a slice of bytes that is there and is not nil -/
theorem wp_append_bytesK {w : World} {op : Oper} {a : Act} {K : Act → World → Prop} {Q : Exit → Act → World → Prop} (s x : Operand)
    (ho : op.op = .call { callee := .builtin .append, args := #[s, x], argTypes := #[22, 22] }) (base : Nat) (v : Value) (n : Nat) (xs : List Value) (hs : a.eval s = v)
    (hown : w.ownsRow base 5 1 v n xs) (ad : Addr) (m c : Nat) (hx : a.eval x = .slice (some ad) m c) (bs : List UInt8) (hS : SlA w (some ad) m c bs) (h63 : n + m ≤ 1000000) (hbase : base ≤ w.heap.size)
    (h : ∀ v' w', w'.ownsRow base 5 1 v' (n + m) (xs ++ bs.map by8) → w.grownBy w' v.ownBlock → K (a.put op.dst v') w') : op.wp Try.prog a w K Q := by
  obtain ⟨i5, hi5, hz5, hs5, hb5⟩ := info_parts info5
  have hl : bs.length = m := hS.1
  refine wp_append_own _ s x 22 ho base 5 i5 (.int .u8 0) 1 1 Try.underlying22 hi5 hz5 hs5 hb5 rfl (by decide) v n xs hs hown ad m c (bs.map by8) hx (by simp [hl]) (fun j u hj => ?_) (fun u hu => ?_) (by simp only [maxLen]; omega) (by omega) hbase
    (fun v' w' h1 h2 _ => h v' w' h1 h2)
  · have hjm : j < m := by have := (List.getElem?_eq_some_iff.1 hj).1; simpa [hl] using this
    obtain ⟨b, o, e, _, hcell⟩ := hS.2.2 (by omega)
    obtain rfl : ad = ⟨b, o, none⟩ := Option.some.inj e
    rw [Addr.add_mid, hcell j hjm, ← hj]
    simp [List.getD_eq_getElem?_getD, show j < bs.length by omega]
  · obtain ⟨b, _, rfl⟩ := List.mem_map.1 hu
    rfl
theorem wp_store_csK {P : Program} {w : World} {op : Oper} {a : Act} {K : Act → World → Prop} {Q : Exit → Act → World → Prop} (ty : TypeId) (x y : Operand) (ho : op.op = .store ty x y) (g : Nat) (hx : a.eval x = .pointer (some ⟨g, 0, none⟩)) (ds : Array Value) (hy : a.eval y = .agg ds)
    (cs : Array Value) (hcs : cs.size = ds.size) (hi : (P.info? ty).map (·.size) = some ds.size) (h1 : ds.all (·.oneCell') = true) (hG : Has w g ty cs) (h : ∀ w', Has w' g ty ds → w.grownBy w' (some g) → K (a.put op.dst undef) w') : op.wp P a w K Q := by
  unfold Oper.wp execOp
  simp only [ho, hx, hy, Instr.storeAt, Instr.sureAddr, Sem.run_bind, Sem.run_pure, Result.andThen_ok, run_storeVar_row w g ty ty cs ds hG hi hcs h1]
  exact h _ (hG.setRow _) ⟨rfl, rfl, rfl, by simp, fun i _ hne => setRow_other w g i _ (fun e => hne (by rw [e]))⟩
theorem results_cell1 {P : Program} {fn : Func} {p : Tmp} {ty : TypeId} (h : fn.results = #[.cell p ty]) (tmps : Array Value) (w : World) (g : Nat) (t : TypeId) (cs : Array Value) (d : TypeDesc)
    (hp : tmps.getD p undef = .pointer (some ⟨g, 0, none⟩)) (hg : Has w g t cs)
    (hu : P.underlying ty = some d) (hd : (match d with | .struct _ | .array _ _ => true | _ => false) = true) (hi : (P.info? ty).map (·.size) = some cs.size) :
    (results fn tmps).run P w = .ok (.agg cs) w := by
  have hp' : tmps[p]?.getD undef = .pointer (some ⟨g, 0, none⟩) := by simpa using hp
  simp [results, h, hp', asAddr, run_loadVar_row w g t ty cs (0, 0) d hg hu hd hi]
theorem sgE_zero : (#[.int .u32 0, .slice none 0 0, .int .u32 0, .int .i64 0] : Array Value) = tab 4 (sgE sg0 ⟨none, 0, 0⟩) := by kernel_rfl
theorem sgE_lit (s : Sg) (B : Option Addr) (m k : Nat) : (#[.int .u32 (s.d : Int), .slice B m k, .int .u32 (s.z : Int), .int .i64 (s.r : Int)] : Array Value) = tab 4 (sgE s ⟨B, m, k⟩) := by kernel_rfl
/-- its bytes lie in a block of bytes -/
def TyB (w : World) (A : Option Addr) (n : Nat) : Prop := ∀ b o s, A = some ⟨b, o, s⟩ → 0 < n → ∃ cs fr, w.heap[b]? = some (Obj.cells cs 5 fr)
theorem own_ty {w : World} {base n c : Nat} {A : Option Addr} {xs : List Value} (h : w.ownsRow base 5 1 (.slice A n c) n xs) : TyB w A n := by
  intro b o s e h0
  rcases h.2 with ⟨hv, h1⟩ | ⟨g, cap, cur, hv, hb, hg, _⟩
  · omega
  · have e1 : A = some ⟨g, 0, none⟩ := by injection hv
    rw [e] at e1
    injection e1 with e1
    injection e1 with e1
    subst e1
    exact ⟨_, _, hg⟩
theorem TyB.below {w w' : World} {A : Option Addr} {n : Nat} (h : TyB w A n) (k : Below w.heap.size w w') : TyB w' A n := fun b o s e h0 => by
  obtain ⟨cs, fr, hb⟩ := h b o s e h0
  exact ⟨cs, fr, (k.block b (Array.getElem?_eq_some_iff.1 hb).1).trans hb⟩
theorem TyB.other {w w' : World} {A : Option Addr} {n : Nat} {r : Option Nat} (h : TyB w A n) (k : w.grownBy w' r) (hne : ∀ b o s, A = some ⟨b, o, s⟩ → 0 < n → r ≠ some b) : TyB w' A n := fun b o s e h0 => by
  obtain ⟨cs, fr, hb⟩ := h b o s e h0
  exact ⟨cs, fr, (k.block b (Array.getElem?_eq_some_iff.1 hb).1 (fun e2 => hne b o s e h0 e2.symm)).trans hb⟩
/-- a row of another type is another block -/
theorem TyB.row {w : World} {A : Option Addr} {n base size m : Nat} {t : TypeId} {v : Value} {xs : List Value} (h : TyB w A n) (ho : w.ownsRow base t size v m xs) (ht : t ≠ 5) : ∀ b o s, A = some ⟨b, o, s⟩ → 0 < n → v.ownBlock ≠ some b := fun b o s e h0 e2 => by
  obtain ⟨cs, fr, hb⟩ := h b o s e h0
  rcases ho.2 with ⟨rfl, _⟩ | ⟨g, cap, cur, rfl, _, hg, _⟩
  · cases e2
  · have e3 : g = b := by simpa [Value.ownBlock] using e2
    subst e3
    rw [hb] at hg
    injection hg with hg
    injection hg with _ e4 _
    exact ht e4.symm
/-- bytes of its own, beside block gs -/
structure SlF (gs : Nat) (cn : List UInt8) (B : Option Addr) (m k : Nat) (w : World) : Prop where
  sl : SlA w B m k cn
  ne : ∀ b o s, B = some ⟨b, o, s⟩ → 0 < m → b ≠ gs
  ty : TyB w B m
  nil : (B = none → k = 0) ∧ k < 9223372036854775808
theorem SlF.below {gs m k : Nat} {cn : List UInt8} {B : Option Addr} {w w' : World} (h : SlF gs cn B m k w) (hb : Below w.heap.size w w') : SlF gs cn B m k w' := ⟨h.sl.below hb, h.ne, h.ty.below hb, h.nil⟩
theorem SlF.grown {gs m k : Nat} {cn : List UInt8} {B : Option Addr} {w w' : World} (h : SlF gs cn B m k w) (hb : w.grownBy w' (some gs)) : SlF gs cn B m k w' :=
  ⟨h.sl.grown hb (fun b o e h0 e2 => h.ne b o none e h0 (by injection e2 with e2; exact e2.symm)), h.ne, h.ty.other hb (fun b o s e h0 e2 => h.ne b o s e h0 (by injection e2 with e2; exact e2.symm)), h.nil⟩
theorem infoSEt (f : Nat → Value) : (Try.prog.info? 64).map (·.size) = some (tab 4 f).size := by rw [tab_size]; exact infoSE4
set_option maxRecDepth 100000 in
set_option maxHeartbeats 2000000 in
theorem esego_any (bs : List UInt8) (A : Option Addr) (n c : Nat) (h : Hd) (w0 : World) (hS : SlA w0 A n c bs) (hl : bs.length ≤ 100000) (h0 : 0 < bs.length) (hwf : h.Wf) (hin : h.a + h.f ≤ bs.length) :
    Calls Try.prog 29 #[.slice A n c, .agg (tab 6 (hdE h))] w0 fun e w' => (∃ x, e = .returned (.agg (tab 4 (sgE (sgOf bs h) x))) ∧ SlY w' x (sgOf bs h).b ∧ TyB w' x.A x.n ∧ (x.A = none → x.c = 0) ∧ x.c < 9223372036854775808) ∧ Below w0.heap.size w0 w' := by
  have hX : Has (w0.alloc (.cells #[.int .i64 (h.k : Int), .int .u32 (h.a : Int), .int .u32 (h.d : Int), .int .u32 (h.f : Int), .int .u32 (h.m : Int), .int .i64 (h.r : Int)] 74)) w0.heap.size 74 (tab 6 (hdE h)) := by
    rw [← hdE_lit]
    exact Has.new _ _ _
  have hb1 : Below w0.heap.size w0 (w0.alloc (.cells #[.int .i64 (h.k : Int), .int .u32 (h.a : Int), .int .u32 (h.d : Int), .int .u32 (h.f : Int), .int .u32 (h.m : Int), .int .i64 (h.r : Int)] 74)) := (Below.refl _ _).alloc (Nat.le_refl _) _
  rw [← hdE_lit]
  go_enter Try.func29, Try.ntmps29
  go_upto_region 1 with fail
  have hu1 : (w0.alloc (.cells #[.int .i64 (h.k : Int), .int .u32 (h.a : Int), .int .u32 (h.d : Int), .int .u32 (h.f : Int), .int .u32 (h.m : Int), .int .i64 (h.r : Int)] 74)).heap.size = w0.heap.size + 1 := by simp
  generalize w0.alloc (.cells #[.int .i64 (h.k : Int), .int .u32 (h.a : Int), .int .u32 (h.d : Int), .int .u32 (h.f : Int), .int .u32 (h.m : Int), .int .i64 (h.r : Int)] 74) = u at *
  have hSG : Has (u.alloc (.cells #[.int .u32 0, .slice none 0 0, .int .u32 0, .int .i64 0] 64)) u.heap.size 64 (tab 4 (sgE sg0 ⟨none, 0, 0⟩)) := by
    rw [← sgE_zero]
    exact Has.new _ _ _
  have hb2 : Below u.heap.size u (u.alloc (.cells #[.int .u32 0, .slice none 0 0, .int .u32 0, .int .i64 0] 64)) := (Below.refl _ _).alloc (Nat.le_refl _) _
  have hXl := hX.lt
  have hul := hb1.size
  replace hX := hX.after hb2
  have hB0 := hb1.trans (hb2.mono hul)
  generalize u.alloc (.cells #[.int .u32 0, .slice none 0 0, .int .u32 0, .int .i64 0] 64) = u1 at *
  obtain ⟨gx, hgx⟩ : ∃ x, x = w0.heap.size := ⟨_, rfl⟩
  rw [← hgx] at hX hu1 ⊢
  obtain ⟨gs, hgs⟩ : ∃ x, x = gx + 1 := ⟨_, rfl⟩
  rw [hu1, ← hgs] at hSG
  rw [← hgs] at hu1 ⊢
  have hgsw : w0.heap.size ≤ gs := by omega
  have hxs : gx ≠ gs := by omega
  have hc1 : u1.cell? ⟨gx, 1, none⟩ = some (.int .u32 (h.a : Int)) := hX.cellTab 1 (by omega)
  have hc3 : u1.cell? ⟨gx, 3, none⟩ = some (.int .u32 (h.f : Int)) := hX.cellTab 3 (by omega)
  have kP := epart_ok bs A n c h.a h.f u1 (hS.below hB0) hl hwf.a hwf.f hin
  obtain ⟨cn, hcn⟩ : ∃ x, x = (bs.drop h.a).take h.f := ⟨_, rfl⟩
  have hso := sub_off hS (a := h.a) (f := h.f) (by rw [← hS.1]; exact hin)
  rw [← hcn] at hso
  obtain ⟨sg, hsg⟩ : ∃ x, x = sgOf bs h := ⟨_, rfl⟩
  have HSG : Hid (sg = sgOf bs h ∧ sg.b = cn ∧ sg.d = h.d ∧ sg.z = h.m ∧ sg.r = h.r) := Lib.hid ⟨hsg, by rw [hsg, hcn]; rfl, by rw [hsg]; rfl, by rw [hsg]; rfl, by rw [hsg]; rfl⟩
  obtain ⟨ba, oa, hA, _, _⟩ := hS.2.2 (by rw [← hS.1]; exact h0)
  have hoff : ∃ bc oc, offA A c h.a = some ⟨bc, oc, none⟩ := by
    subst hA
    unfold offA
    split
    · exact ⟨_, _, rfl⟩
    · exact ⟨ba, oa + h.a, by rw [Option.map_some, Addr.add_mid]⟩
  obtain ⟨bc, oc, hoc⟩ := hoff
  rw [hoc] at kP hso
  have hf5 : h.f ≤ 100000 := by omega
  clear hgx hgs hu1 hb1 hb2 hcn hsg hoc hA hS hin hwf h0 hXl hul
  go_upto_region 2 with (refine kP.mono ?_; rintro e w1 ⟨rfl, rfl⟩)
  have HSC := Lib.hid hso
  clear kP hso hc1 hc3
  obtain ⟨f, hf⟩ : ∃ x, x = h.f := ⟨_, rfl⟩
  rw [← hf] at HSC hf5 ⊢
  clear hf
  refine region_simL [.pointer (some ⟨gx, 2, none⟩), .int .u32 (h.d : Int), .slice (some ⟨bc, oc, none⟩) f f, undef, .pointer (some ⟨gx, 4, none⟩), .int .u32 (h.m : Int), .pointer (some ⟨gx, 5, none⟩), .int .i64 (h.r : Int), undef, undef] [(3, fun x w' => ∃ B m k, x = .slice B m k ∧ SlF gs cn B m k w'), (8, fun x w' => ∃ B m k, x = .agg (tab 4 (sgE sg ⟨B, m, k⟩)) ∧ SlF gs cn B m k w'), (9, fun x w' => ∃ B m k, x = undef ∧ Has w' gs 64 (tab 4 (sgE sg ⟨B, m, k⟩)) ∧ SlF gs cn B m k w')] [(3, fun w' => gs < w'.heap.size), (9, fun w' => Has w' gs 64 (tab 4 (sgE sg0 ⟨none, 0, 0⟩)))] [(3, fun w' w'' => Below w'.heap.size w' w''), (9, fun w' w'' => w'.grownBy w'' (some gs))] (fun w' => Has w' gx 74 (tab 6 (hdE h)) ∧ Below w0.heap.size w0 w') 25 (by kernel_rfl) rfl (by kernel_rfl) ?_ ?_ ?_ ?_ ?_ (by decide) ?_
  · intro w' hb _
    refine ⟨⟨hX.after hb, hB0.trans (hb.mono hB0.size)⟩, ?_⟩
    simp only [List.forall_mem_cons, List.not_mem_nil, false_implies, implies_true, and_true]
    exact ⟨Nat.lt_of_lt_of_le hSG.lt hb.size, hSG.after hb⟩
  · simp only [List.forall_mem_cons, List.not_mem_nil, false_implies, implies_true, and_true]
    refine ⟨?_, ?_⟩
    · exact fun w' w'' h hy => ⟨h.1.after hy, h.2.trans (hy.mono h.2.size)⟩
    · exact fun w' w'' h hy => ⟨has_grown h.1 hy (fun l e => by injection e with e; omega), below_only h.2 hy hgsw h.2.size⟩
  · simp only [List.forall_mem_cons, List.not_mem_nil, false_implies, implies_true, and_true]
    refine ⟨⟨?_, ?_⟩, ⟨?_, ?_⟩, ⟨?_, ?_⟩⟩
    · exact fun h => absurd rfl h
    · exact fun _ _ x w' w'' _ ⟨B, m, k, e, hS⟩ hT => ⟨B, m, k, e, hS.grown hT⟩
    · exact fun _ _ x w' w'' _ ⟨B, m, k, e, hS⟩ hT => ⟨B, m, k, e, hS.below hT⟩
    · exact fun _ _ x w' w'' _ ⟨B, m, k, e, hS⟩ hT => ⟨B, m, k, e, hS.grown hT⟩
    · exact fun _ _ x w' w'' _ ⟨B, m, k, e, hH, hS⟩ hT => ⟨B, m, k, e, hH.after hT, hS.below hT⟩
    · exact fun h => absurd rfl h
  · simp only [List.forall_mem_cons, List.not_mem_nil, false_implies, implies_true, and_true]
    refine ⟨⟨?_, ?_⟩, ⟨?_, ?_⟩⟩
    · exact fun h => absurd rfl h
    · exact fun _ _ w' w'' _ h hT => Nat.lt_of_lt_of_le h hT.size
    · exact fun _ _ w' w'' _ h hT => h.after hT
    · exact fun h => absurd rfl h
  · refine ⟨⟨?_, ?_⟩, ⟨?_, ?_⟩, ⟨?_, ?_⟩, ⟨?_, ?_⟩, ⟨?_, ?_⟩, ⟨?_, ?_⟩, ⟨?_, ?_⟩, ⟨?_, ?_⟩, ⟨?_, ?_⟩, ⟨?_, ?_⟩, trivial⟩
    · intro v w' AA hAA hg hf hl hgd K hK
      exact pure_step (.pointer (some ⟨gx, 2, none⟩)) (fun ρ hρ => by
        have e3 : ρ (.tmp 3) = .pointer (some ⟨gx, 0, none⟩) := by rw [hρ]; exact hAA.2 3 (by simp)
        clear hρ hf hAA hl hK hg
        go_simp) (hK _ _ rfl ⟨rfl, hg.2⟩)
    · trivial
    · intro v w' AA hAA hg hf hl hgd K hK
      have hcell := (show w'.cell? ⟨gx, 2, none⟩ = some (.int .u32 (h.d : Int)) from hg.2.1.cellTab 2 (by omega))
      exact pure_step (.int .u32 (h.d : Int)) (fun ρ hρ => by
        have e16 : ρ (.tmp 16) = .pointer (some ⟨gx, 2, none⟩) := by rw [hρ]; exact (hAA.1 0 _ 16 rfl rfl).trans (hf ⟨0, .data⟩ (by simp) rfl).1
        clear hρ hf hAA hl hK hg
        go_simp) (hK _ _ rfl ⟨rfl, hg.2⟩)
    · trivial
    · intro v w' AA hAA hg hf hl hgd K hK
      exact pure_step (.slice (some ⟨bc, oc, none⟩) f f) (fun ρ hρ => by
        have e5 : ρ (.tmp 5) = .slice (some ⟨bc, oc, none⟩) f f := by rw [hρ]; exact hAA.2 5 (by simp)
        clear hρ hf hAA hl hK hg
        go_simp) (hK _ _ rfl ⟨rfl, hg.2⟩)
    · trivial
    · intro v w' AA hAA hg hf hl hgd K hK
      have hsz : w0.heap.size ≤ w'.heap.size := hg.2.2.size
      have es : AA.eval (.const (.slice none 0 0)) = .slice none 0 0 := rfl
      have ex : AA.eval (.tmp 18) = .slice (some ⟨bc, oc, none⟩) f f := (hAA.1 2 _ 18 rfl rfl).trans (hf ⟨2, .data⟩ (by simp) rfl).1
      have hSw := HSC.out.below hg.2.2
      refine wp_append_bytesK _ _ rfl w'.heap.size (.slice none 0 0) 0 [] es (World.ownsRow_nil _ _ _ _) _ f f ex cn hSw (by omega) (Nat.le_refl _) ?_
      intro v' w'' hown' hgr'
      have hbl : Below w'.heap.size w' w'' := below_own (Below.refl _ _) (World.ownsRow_nil w' w'.heap.size 5 1) (Nat.le_refl _) (Nat.le_refl _) hgr'
      obtain ⟨Av, cv, rfl⟩ := own_form hown'
      rw [Nat.zero_add] at hown'
      have hSl := own_slA hown'
      rw [Nat.zero_add]
      exact hK _ _ hbl ⟨⟨Av, f, cv, rfl, ⟨hSl.1, fun b o s e h0 => by have h1 := (own_blk hown' (l := b) (by subst e; rfl)).1; have h2 : gs < w'.heap.size := hg.1; omega, own_ty hown', hSl.2, own_cap hown'⟩⟩, hg.2.1.after hbl, hg.2.2.trans (hbl.mono hsz)⟩
    · trivial
    · intro v w' AA hAA hg hf hl hgd K hK
      exact pure_step (.pointer (some ⟨gx, 4, none⟩)) (fun ρ hρ => by
        have e3 : ρ (.tmp 3) = .pointer (some ⟨gx, 0, none⟩) := by rw [hρ]; exact hAA.2 3 (by simp)
        clear hρ hf hAA hl hK hg
        go_simp) (hK _ _ rfl ⟨rfl, hg.2⟩)
    · trivial
    · intro v w' AA hAA hg hf hl hgd K hK
      have hcell := (show w'.cell? ⟨gx, 4, none⟩ = some (.int .u32 (h.m : Int)) from hg.2.1.cellTab 4 (by omega))
      exact pure_step (.int .u32 (h.m : Int)) (fun ρ hρ => by
        have e20 : ρ (.tmp 20) = .pointer (some ⟨gx, 4, none⟩) := by rw [hρ]; exact (hAA.1 4 _ 20 rfl rfl).trans (hf ⟨4, .data⟩ (by simp) rfl).1
        clear hρ hf hAA hl hK hg
        go_simp) (hK _ _ rfl ⟨rfl, hg.2⟩)
    · trivial
    · intro v w' AA hAA hg hf hl hgd K hK
      exact pure_step (.pointer (some ⟨gx, 5, none⟩)) (fun ρ hρ => by
        have e3 : ρ (.tmp 3) = .pointer (some ⟨gx, 0, none⟩) := by rw [hρ]; exact hAA.2 3 (by simp)
        clear hρ hf hAA hl hK hg
        go_simp) (hK _ _ rfl ⟨rfl, hg.2⟩)
    · trivial
    · intro v w' AA hAA hg hf hl hgd K hK
      have hcell := (show w'.cell? ⟨gx, 5, none⟩ = some (.int .i64 (h.r : Int)) from hg.2.1.cellTab 5 (by omega))
      exact pure_step (.int .i64 (h.r : Int)) (fun ρ hρ => by
        have e22 : ρ (.tmp 22) = .pointer (some ⟨gx, 5, none⟩) := by rw [hρ]; exact (hAA.1 6 _ 22 rfl rfl).trans (hf ⟨6, .data⟩ (by simp) rfl).1
        clear hρ hf hAA hl hK hg
        go_simp) (hK _ _ rfl ⟨rfl, hg.2⟩)
    · trivial
    · intro v w' AA hAA hg hf hl hgd K hK
      obtain ⟨⟨B3, m3, k3, hv3, hS3⟩, _⟩ := hf ⟨3, .data⟩ (by simp) rfl
      refine pure_step (.agg (tab 4 (sgE sg ⟨B3, m3, k3⟩))) (fun ρ hρ => by
        have e17 : ρ (.tmp 17) = .int .u32 (h.d : Int) := by rw [hρ]; exact (hAA.1 1 _ 17 rfl rfl).trans (hf ⟨1, .data⟩ (by simp) rfl).1
        have e19 : ρ (.tmp 19) = .slice B3 m3 k3 := by rw [hρ]; exact (hAA.1 3 _ 19 rfl rfl).trans hv3
        have e21 : ρ (.tmp 21) = .int .u32 (h.m : Int) := by rw [hρ]; exact (hAA.1 5 _ 21 rfl rfl).trans (hf ⟨5, .data⟩ (by simp) rfl).1
        have e23 : ρ (.tmp 23) = .int .i64 (h.r : Int) := by rw [hρ]; exact (hAA.1 7 _ 23 rfl rfl).trans (hf ⟨7, .data⟩ (by simp) rfl).1
        clear hρ hf hAA hl hK hg
        obtain ⟨_, _, q1, q2, q3⟩ := HSG.out
        rw [← sgE_lit, q1, q2, q3]
        go_simp) (hK _ _ rfl ⟨⟨B3, m3, k3, rfl, hS3⟩, hg.2⟩)
    · trivial
    · intro v w' AA hAA hg hf hl hgd K hK
      obtain ⟨⟨B8, m8, k8, hv8, hS8⟩, _⟩ := hf ⟨8, .data⟩ (by simp) rfl
      have ex : AA.eval (.tmp 4) = .pointer (some ⟨gs, 0, none⟩) := hAA.2 4 (by simp)
      have ey : AA.eval (.tmp 24) = .agg (tab 4 (sgE sg ⟨B8, m8, k8⟩)) := (hAA.1 8 _ 24 rfl rfl).trans hv8
      refine wp_store_csK 64 _ _ rfl gs ex (tab 4 (sgE sg ⟨B8, m8, k8⟩)) ey _ (by simp only [tab_size]) (by rw [tab_size]; exact infoSE4) (tab_oneCell _ _ (sgE_one _ _)) hg.1 ?_
      intro w'' hH hgr
      exact hK _ _ hgr ⟨⟨B8, m8, k8, rfl, hH, hS8.grown hgr⟩, has_grown hg.2.1 hgr (fun l e => by injection e with e; omega), below_only hg.2.2 hgr hgsw hg.2.2.size⟩
    · trivial
  intro v wE hIE hE
  have f0 : v 0 = .pointer (some ⟨gx, 2, none⟩) := (hE 0 (by decide)).1
  have f1 : v 1 = .int .u32 (h.d : Int) := (hE 1 (by decide)).1
  have f2 : v 2 = .slice (some ⟨bc, oc, none⟩) f f := (hE 2 (by decide)).1
  obtain ⟨⟨B3, m3, k3, hv3, hS3⟩, _⟩ := hE 3 (by decide)
  have f4 : v 4 = .pointer (some ⟨gx, 4, none⟩) := (hE 4 (by decide)).1
  have f5 : v 5 = .int .u32 (h.m : Int) := (hE 5 (by decide)).1
  have f6 : v 6 = .pointer (some ⟨gx, 5, none⟩) := (hE 6 (by decide)).1
  have f7 : v 7 = .int .i64 (h.r : Int) := (hE 7 (by decide)).1
  obtain ⟨⟨B8, m8, k8, hv8, hS8⟩, _⟩ := hE 8 (by decide)
  obtain ⟨⟨B9, m9, k9, hv9, hH9, hS9⟩, _⟩ := hE 9 (by decide)
  clear hE
  simp only [putAll, Act.put, List.setIfInBounds_toArray, List.set_cons_zero, List.set_cons_succ, Nat.zero_add, Nat.reduceAdd]
  rw [f0, f1, f2, hv3, f4, f5, f6, f7, hv8]
  clear f0 f1 f2 f4 f5 f6 f7
  go_wp2_with fail
  obtain ⟨-, hbE⟩ := hIE
  exact bodyPost_ret (v := .agg (tab 4 (sgE sg ⟨B9, m9, k9⟩))) (results_cell1 rfl _ _ gs 64 _ _ rfl hH9 Try.underlying64 rfl (infoSEt _)) rfl ⟨⟨⟨B9, m9, k9⟩, by rw [HSG.out.1], by rw [← HSG.out.1, HSG.out.2.1]; exact hS9.sl, hS9.ty, hS9.nil⟩, hbE⟩
end Go.Proofs.Ytfdoloonllhodaa
