/-
Package reloc: program.apply.
-/
import Derived.Test.YtegaiphhoinilaaRkF
namespace Go.Proofs.Ytegaiphhoinilaa.Rc
open Go Go.RowKit

section
variable {P : Program} {ops : Array Oper} {rest : List Oper} {o : Oper} {a : Act} {C : World → Prop} {L : Act → Prop}
/-- a call through an interface value whose type is known -/
theorem wpQ_inv (x : Operand) (name : String) (fn : FuncId) (cs : Array Operand) (ts : Array TypeId) (ho : o.op = .call { callee := .invoke x name, args := cs, argTypes := ts }) (hw : Region.wanted o (yielded ops a.tmps) = true) (t : TypeId) (v0 : Value) (hx : a.eval x = .iface t v0) (args : Array Value) (hargs0 : cs.toList.map a.eval = args.toList)
    (hm : ∀ w, (method (P.types.size + Made.depth) t v0 name).run P w = .ok (fn, v0) w) (hfn : ∀ w, (callFunc fn (#[v0] ++ args)).run P w = .ok (.enter fn (#[v0] ++ args)) w) (v : Value)
    (hc : ∀ w', C w' → Calls P fn (#[v0] ++ args) w' fun e w'' => e = .returned v ∧ C w'') (h : wpQuiet P ops C L rest (a.put o.dst v)) : wpQuiet P ops C L (o :: rest) a :=
  have hargs : cs.map a.eval = args := by
    apply Array.toList_inj.1
    rw [Array.toList_map]
    exact hargs0
  wpQ_call fn (#[v0] ++ args) hw (fun w => by
    unfold execOp
    simp only [ho]
    subst hargs
    have hf := hfn w
    have hm' := hm w
    have e : (#[Value.iface t v0] ++ Array.map a.eval cs)[0]? = some (.iface t v0) := by rw [Array.getElem?_append_left (by show 0 < 1; decide)]; rfl
    have e3 : (Array.map a.eval cs).extract 0 cs.size = Array.map a.eval cs := by
      have := Array.extract_size (xs := Array.map a.eval cs)
      rwa [Array.size_map] at this
    simp only [resolve, hx]
    go_simp
    rw [show Sem.run P (method (P.types.size + 100) t v0 name) w = .ok (fn, v0) w from hm']
    exact hf) v hc h
end
theorem kind_len (t : Int) : lenP t = kL t := rfl
theorem inSp_ram {l : List (Nat × Nat)} {x n : Nat} (h : inSp l x n = true) (hl : inRam l) : 2147483648 ≤ x ∧ x + n ≤ 2147549184 := by
  unfold inSp at h
  obtain ⟨s, hs, h2⟩ := List.any_eq_true.1 h
  have h3 := of_decide_eq_true h2
  have h4 := hl s hs
  omega
theorem may_ram {B : Nat} {l : List (Nat × Nat)} {r : Re} (h : mayP B l r = true) (hl : inRam l) : 2147483648 ≤ atP B r ∧ atP B r + kL r.t ≤ 2147549184 := by
  unfold mayP at h
  simp only [Bool.and_eq_true] at h
  exact inSp_ram h.1.1.2 hl
theorem kL_ge (t : Int) : 4 ≤ kL t := by unfold kL; split <;> omega
theorem stB_in {x : Nat} (h1 : 2147483648 ≤ x) (h2 : x + 4 ≤ 2147549184) : stB x 4 = true := by
  unfold stB inR inB
  simp only [Bool.and_eq_true]
  exact ⟨by decide, decide_eq_true (by show _ ∧ _; omega)⟩
theorem one_bad {ss : List Nat} {rs : List Re} {B : Nat} {l : List (Nat × Nat)} {m : Nat → UInt8} {r : Re} (h : mayP B l r = false) : oneP ss rs B l m r = (13, m) := by
  unfold oneP
  rw [if_neg (by rw [h]; decide)]
theorem one_val {ss : List Nat} {rs : List Re} {B : Nat} {l : List (Nat × Nat)} {m : Nat → UInt8} {r : Re} (h : mayP B l r = true) (hs : stB (atP B r) 4 = true) : oneP ss rs B l m r = (errV (valP ss rs B r), putV m (atP B r) r.t (valP ss rs B r)) := by
  unfold oneP
  rw [if_pos h, if_pos hs]
set_option maxRecDepth 100000 in
set_option maxHeartbeats 8000000 in
theorem apply_one (ss : List Nat) (rs : List Re) (l : List (Nat × Nat)) (en B g : Nat) (m : Nat → UInt8) (sg rl sy sp : Sl) (r : Re) (w : World) (hS : SlN w sy ss) (hRs : SlR w rl rs) (hL : SlG w sp l) (hram : inRam l) (hr : r.Wf) (hB : B < 4294967296) (hG : RamP w g m) :
    Calls Try.prog 23 #[.agg (prC en B sg rl sy sp), .iface 28 (mP g), .agg (reC r)] w fun e w' => e = .returned (.int .i64 (oneP ss rs B l m r).1) ∧ RamP w' g (oneP ss rs B l m r).2 ∧ w.grownBy w' (some g) := by
  obtain ⟨u, hu, hP, hRR, hb, hz⟩ := two_new w en B sg rl sy sp r
  have kV0 := valid_any l en B sg rl sy sp r u (hL.below hb) hr hB
  have KVal : Hid (∀ W, Below u.heap.size u W → okT r.t → Calls Try.prog 45 #[.agg (prC en B sg rl sy sp), .agg (reC r)] W fun e w' => e = .returned (outU (valP ss rs B r)) ∧ Below W.heap.size W w') := Lib.hid (fun W hW ht => kvalue_any ss rs r B en sg rl sy sp W ((hS.below hb).below hW) ((hRs.below hb).below hW) hr hB ht)
  have KA0 : ∀ W, Calls Try.prog 43 #[.agg (prC en B sg rl sy sp), .agg (reC r)] W fun e w' => e = .returned (.int .u32 ((atP B r : Nat) : Int)) ∧ Below W.heap.size W w' := fun W => address_any en B sg rl sy sp r W hB hr.p
  have KA := Lib.hid KA0
  have KC := Lib.hid (fun W => changed_any r.t W)
  have hx : atP B r < 4294967296 := Nat.mod_lt _ (by decide)
  have HGU := Lib.hid (hG.after hb)
  have HB := Lib.hid hb
  have hgu : g < u.heap.size := (hG.after hb).lt
  have hgRu : w.heap.size + 1 < u.heap.size := by omega
  have hgPu : w.heap.size < u.heap.size := by omega
  have HP := Lib.hid hP
  have HR := Lib.hid hRR
  have hna : ∀ w, (nilAhead 231 28 (mP g) "Has").run Try.prog w = .ok (some false) w := fun _ => by kernel_rfl
  obtain ⟨res, hres⟩ : ∃ res, res = oneP ss rs B l m r := ⟨_, rfl⟩
  rw [← hres]
  have HRES := Lib.hid hres
  have HMAY : Hid (∀ b, mayP B l r = b → mayP B l r = b) := Lib.hid (fun _ h => h)
  obtain ⟨A1, n1, c1⟩ := sg
  obtain ⟨A2, n2, c2⟩ := rl
  obtain ⟨A3, n3, c3⟩ := sy
  obtain ⟨A4, n4, c4⟩ := sp
  obtain ⟨p, t, s, a⟩ := r
  have kV : Calls Try.prog 42 #[.agg #[.int .u32 (en : Int), .slice A1 n1 c1, .slice A2 n2 c2, .slice A3 n3 c3, .int .u32 (B : Int), .slice A4 n4 c4], .agg #[.int .u32 (p : Int), .int .i64 t, .int .i64 s, .int .u32 (a : Int)]] u fun e w' => e = .returned (.bool (mayP B l ⟨p, t, s, a⟩)) ∧ Below u.heap.size u w' := kV0
  have HWF := Lib.hid hr
  have HRAM := Lib.hid hram
  clear hS hRs hL hG hb hP hRR hres KA0 kV0 hram hr
  clear HMAY
  generalize hmay : mayP B l ⟨p, t, s, a⟩ = ok at kV
  have HM := Lib.hid hmay
  clear hmay
  go_enter Try.func23, Try.ntmps23
  go_upto_region 1 with fail
  replace hu := hu.symm
  change _ = u at hu
  rw [hu]
  clear hu
  obtain ⟨gR, hgR⟩ : ∃ g, g = w.heap.size + 1 := ⟨_, rfl⟩
  obtain ⟨gP, hgP⟩ : ∃ g, g = w.heap.size := ⟨_, rfl⟩
  rw [← hgR] at HR hgRu ⊢
  rw [← hgP] at HP hgPu ⊢
  clear hgR hgP hz
  have p0 : u.cell? ⟨gP, 0, none⟩ = some (.int .u32 (en : Int)) := (HP.out).cell 0
  have p1 : u.cell? ⟨gP, 1, none⟩ = some (.slice A1 n1 c1) := (HP.out).cell 1
  have p2 : u.cell? ⟨gP, 2, none⟩ = some (.slice A2 n2 c2) := (HP.out).cell 2
  have p3 : u.cell? ⟨gP, 3, none⟩ = some (.slice A3 n3 c3) := (HP.out).cell 3
  have p4 : u.cell? ⟨gP, 4, none⟩ = some (.int .u32 (B : Int)) := (HP.out).cell 4
  have p5 : u.cell? ⟨gP, 5, none⟩ = some (.slice A4 n4 c4) := (HP.out).cell 5
  have k0 : u.cell? ⟨gR, 0, none⟩ = some (.int .u32 (p : Int)) := (HR.out).cell 0
  have k1 : u.cell? ⟨gR, 1, none⟩ = some (.int .i64 t) := (HR.out).cell 1
  have k2 : u.cell? ⟨gR, 2, none⟩ = some (.int .i64 s) := (HR.out).cell 2
  have k3 : u.cell? ⟨gR, 3, none⟩ = some (.int .u32 (a : Int)) := (HR.out).cell 3
  cases ok with
  | false =>
    go_wp2_with (go_at_call 42; with_reducible refine kV.mono ?_; rintro e u1 ⟨rfl, hb1⟩; clear p0 p1 p2 p3 p4 p5 k0 k1 k2 k3)
    go_ret
    rw [HRES.out, one_bad HM.out]
    exact ⟨rfl, HGU.out.after hb1, only_below (HB.out.trans (hb1.mono HB.out.size)) _⟩
  | true =>
    have HT : Hid (okT t) := Lib.hid (may_ok HM.out)
    have HIN := Lib.hid (may_ram HM.out HRAM.out)
    obtain ⟨x, hxx⟩ : ∃ x, x = atP B ⟨p, t, s, a⟩ := ⟨_, rfl⟩
    have HX := Lib.hid hxx
    rw [← hxx] at KA hx
    obtain ⟨n, hn⟩ : ∃ n, n = chP t := ⟨_, rfl⟩
    have KC2 : Hid (∀ W, Calls Try.prog 44 #[.int .i64 t] W fun e w' => e = .returned (.int .u32 (n : Int)) ∧ Below W.heap.size W w') := Lib.hid (fun W => (KC.out W).mono fun e w' h => ⟨by rw [hn]; exact h.1, same_below h.2⟩)
    clear KC
    have KC := KC2
    have HN : Hid (n = kL t) := Lib.hid (hn.trans (chP_ok HT.out))
    have KHas : Hid (∀ W, Calls Try.prog 32 #[mP g, .int .u32 (x : Int), .int .u32 (n : Int)] W fun e w' => e = .returned (.bool true) ∧ W = w') := Lib.hid (fun W => by
      have k := has_any g x n W hx (by have := HN.out; have := kL_le t; omega)
      rw [show inB x n 2147483648 65536 = true from decide_eq_true (by have h1 := HIN.out; have h2 := HN.out; have h3 := HX.out; rw [← h3, ← h2] at h1; exact ⟨h1.1, by omega⟩)] at k
      exact k)
    have hst : stB x 4 = true := by
      have h1 := HIN.out; have h3 := HX.out; have h4 := kL_ge t
      rw [← h3] at h1
      exact stB_in h1.1 (by have := h1.2; dsimp only at this; omega)
    have HST := Lib.hid hst
    clear hxx hn KC2 hst
    go_upto_region 3 with (go_at_call 42; with_reducible refine kV.mono ?_; rintro e u2 ⟨rfl, hb1⟩; clear p0 p1 p2 p3 p4 p5 k0 k1 k2 k3)
    have HBU := Lib.hid hb1
    have k1 : u2.cell? ⟨gR, 1, none⟩ = some (.int .i64 t) := (HR.out.after hb1).cell 1
    replace hgRu : gR < u2.heap.size := Nat.lt_of_lt_of_le hgRu hb1.size
    clear hb1 kV
    refine region_quiet_all (Below u2.heap.size u2) (by kernel_rfl) (by kernel_rfl) (below_drewN (Below.refl _ _) 1) ?_
    refine WQ.out ?_
    refine WQ.lift (wpQ_move _ rfl rfl (.iface 28 (mP g)) rfl) ?_
    simp only [Act.put, List.setIfInBounds_toArray, List.set_cons_zero, List.set_cons_succ]
    refine WQ.lift (wpQ_load 64 (.tmp 3) rfl rfl (.pointer (some ⟨gP, 0, none⟩)) rfl (.agg (prC en B ⟨A1, n1, c1⟩ ⟨A2, n2, c2⟩ ⟨A3, n3, c3⟩ ⟨A4, n4, c4⟩)) (fun w' hC => load_prog (HP.out.after (HBU.out.trans (hC.mono HBU.out.size))))) ?_
    simp only [Act.put, List.setIfInBounds_toArray, List.set_cons_zero, List.set_cons_succ]
    refine WQ.lift (wpQ_load 43 (.tmp 5) rfl rfl (.pointer (some ⟨gR, 0, none⟩)) rfl (.agg (reC ⟨p, t, s, a⟩)) (fun w' hC => load_rela (HR.out.after (HBU.out.trans (hC.mono HBU.out.size))))) ?_
    simp only [Act.put, List.setIfInBounds_toArray, List.set_cons_zero, List.set_cons_succ]
    refine WQ.lift (wpQ_fn 43 _ _ rfl rfl #[.agg (prC en B ⟨A1, n1, c1⟩ ⟨A2, n2, c2⟩ ⟨A3, n3, c3⟩ ⟨A4, n4, c4⟩), .agg (reC ⟨p, t, s, a⟩)] rfl (fun _ => by go_simp) (.int .u32 (x : Int)) (fun w' hC => (KA.out w').mono fun e w'' ⟨he, hb⟩ => ⟨he, below_class hC hb⟩)) ?_
    simp only [Act.put, List.setIfInBounds_toArray, List.set_cons_zero, List.set_cons_succ]
    refine WQ.lift (wpQ_val rfl (.pointer (some ⟨gR, 1, none⟩)) (fun w' _ => by go_simp)) ?_
    simp only [Act.put, List.setIfInBounds_toArray, List.set_cons_zero, List.set_cons_succ]
    refine WQ.lift (wpQ_load 3 (.tmp 17) rfl rfl (.pointer (some ⟨gR, 1, none⟩)) rfl (.int .i64 t) (fun w' hC => by
        have hcell : w'.cell? ⟨gR, 1, none⟩ = some (.int .i64 t) := (hC.cell (p := ⟨gR, 1, none⟩) hgRu).trans k1
        go_simp)) ?_
    simp only [Act.put, List.setIfInBounds_toArray, List.set_cons_zero, List.set_cons_succ]
    refine WQ.lift (wpQ_fn 44 _ _ rfl rfl #[.int .i64 t] rfl (fun _ => by go_simp) (.int .u32 (n : Int)) (fun w' hC => (KC.out w').mono fun e w'' ⟨he, hb⟩ => ⟨he, below_class hC hb⟩)) ?_
    simp only [Act.put, List.setIfInBounds_toArray, List.set_cons_zero, List.set_cons_succ]
    refine WQ.lift (wpQ_val rfl (.func (.method "Has") #[.iface 28 (mP g)] #[]) (fun w' hC => by go_simp)) ?_
    simp only [Act.put, List.setIfInBounds_toArray, List.set_cons_zero, List.set_cons_succ]
    refine WQ.lift (wpQ_val rfl (.func (.method "Has") #[.iface 28 (mP g)] #[]) (fun w' hC => by go_simp)) ?_
    simp only [Act.put, List.setIfInBounds_toArray, List.set_cons_zero, List.set_cons_succ]
    refine WQ.lift (wpQ_move _ rfl rfl (.iface 28 (mP g)) rfl) ?_
    simp only [Act.put, List.setIfInBounds_toArray, List.set_cons_zero, List.set_cons_succ]
    refine WQ.lift (wpQ_inv (.tmp 22) "Has" 32 _ _ rfl rfl 28 (mP g) rfl #[.int .u32 (x : Int), .int .u32 (n : Int)] rfl (fun _ => by kernel_rfl) (fun _ => by go_simp) (.bool true) (fun w' hC => (KHas.out w').mono fun e w'' ⟨he, hb⟩ => ⟨he, hb ▸ hC⟩)) ?_
    simp only [Act.put, List.setIfInBounds_toArray, List.set_cons_zero, List.set_cons_succ]
    refine WQ.lift (wpQ_val rfl (.bool false) (fun w' hC => by go_simp)) ?_
    simp only [Act.put, List.setIfInBounds_toArray, List.set_cons_zero, List.set_cons_succ]
    refine WQ.mk (wpQuiet_nil ?_)
    intro u3 hC
    have HB3 : Hid (Below u.heap.size u u3) := Lib.hid (HBU.out.trans (hC.mono HBU.out.size))
    clear hC k1 HBU
    have kVal : Calls Try.prog 45 #[.agg #[.int .u32 (en : Int), .slice A1 n1 c1, .slice A2 n2 c2, .slice A3 n3 c3, .int .u32 (B : Int), .slice A4 n4 c4], .agg #[.int .u32 (p : Int), .int .i64 t, .int .i64 s, .int .u32 (a : Int)]] u3 fun e w' => e = .returned (outU (valP ss rs B ⟨p, t, s, a⟩)) ∧ Below u3.heap.size u3 w' := KVal.out u3 HB3.out HT.out
    have p0 : u3.cell? ⟨gP, 0, none⟩ = some (.int .u32 (en : Int)) := (HP.out.after HB3.out).cell 0
    have p1 : u3.cell? ⟨gP, 1, none⟩ = some (.slice A1 n1 c1) := (HP.out.after HB3.out).cell 1
    have p2 : u3.cell? ⟨gP, 2, none⟩ = some (.slice A2 n2 c2) := (HP.out.after HB3.out).cell 2
    have p3 : u3.cell? ⟨gP, 3, none⟩ = some (.slice A3 n3 c3) := (HP.out.after HB3.out).cell 3
    have p4 : u3.cell? ⟨gP, 4, none⟩ = some (.int .u32 (B : Int)) := (HP.out.after HB3.out).cell 4
    have p5 : u3.cell? ⟨gP, 5, none⟩ = some (.slice A4 n4 c4) := (HP.out.after HB3.out).cell 5
    have k0 : u3.cell? ⟨gR, 0, none⟩ = some (.int .u32 (p : Int)) := (HR.out.after HB3.out).cell 0
    have k1 : u3.cell? ⟨gR, 1, none⟩ = some (.int .i64 t) := (HR.out.after HB3.out).cell 1
    have k2 : u3.cell? ⟨gR, 2, none⟩ = some (.int .i64 s) := (HR.out.after HB3.out).cell 2
    have k3 : u3.cell? ⟨gR, 3, none⟩ = some (.int .u32 (a : Int)) := (HR.out.after HB3.out).cell 3
    rcases val_go ss rs B ⟨p, t, s, a⟩ HT.out with ⟨er, her, hval⟩ | ⟨v, hvl, hval⟩
    · rw [hval] at kVal
      change Calls _ _ _ _ fun e w' => e = .returned (.tuple #[.int .u32 0, .int .i64 er]) ∧ _ at kVal
      have d1 : (er != 0) = true := by rw [bne_iff_ne]; omega
      have HV := Lib.hid hval
      clear hval her
      go_wp2_with (go_at_call 45; with_reducible refine kVal.mono ?_; rintro e u4 ⟨rfl, hb4⟩; clear p0 p1 p2 p3 p4 p5 k0 k1 k2 k3)
      go_ret
      rw [HRES.out, one_val HM.out (by rw [← HX.out]; exact HST.out), HV.out]
      have hb5 := HB3.out.trans (hb4.mono HB3.out.size)
      exact ⟨rfl, HGU.out.after hb5, only_below (HB.out.trans (hb5.mono HB.out.size)) _⟩
    · rw [hval, out_go] at kVal
      have HV := Lib.hid hval
      clear hval
      go_upto_region 8 with (go_at_call 45; with_reducible refine kVal.mono ?_; rintro e u2 ⟨rfl, hb4⟩; clear p0 p1 p2 p3 p4 p5 k0 k1 k2 k3)
      clear kVal
      have hb5 := HB3.out.trans (hb4.mono HB3.out.size)
      have HBU := Lib.hid hb5
      have k1 : u2.cell? ⟨gR, 1, none⟩ = some (.int .i64 t) := (HR.out.after hb5).cell 1
      have HG2 := Lib.hid (HGU.out.after hb5)
      replace hgRu : gR < u2.heap.size := Nat.lt_of_lt_of_le (HR.out.lt) hb5.size
      clear hb4 hb5
      refine region_quiet_tail (Below u2.heap.size u2) 7 (by kernel_rfl) (by kernel_rfl) (below_drewN (Below.refl _ _) 1) ?_
      simp only [List.take_succ_cons, List.take_zero, List.drop_succ_cons, List.drop_zero]
      refine WQ.out ?_
      refine WQ.lift (wpQ_move _ rfl rfl (.iface 28 (mP g)) rfl) ?_
      simp only [Act.put, List.setIfInBounds_toArray, List.set_cons_zero, List.set_cons_succ]
      refine WQ.lift (wpQ_val rfl (.pointer (some ⟨gR, 1, none⟩)) (fun w' _ => by go_simp)) ?_
      simp only [Act.put, List.setIfInBounds_toArray, List.set_cons_zero, List.set_cons_succ]
      refine WQ.lift (wpQ_load 3 (.tmp 35) rfl rfl (.pointer (some ⟨gR, 1, none⟩)) rfl (.int .i64 t) (fun w' hC => by
          have hcell : w'.cell? ⟨gR, 1, none⟩ = some (.int .i64 t) := (hC.cell (p := ⟨gR, 1, none⟩) hgRu).trans k1
          go_simp)) ?_
      simp only [Act.put, List.setIfInBounds_toArray, List.set_cons_zero, List.set_cons_succ]
      refine WQ.lift (wpQ_load 64 (.tmp 3) rfl rfl (.pointer (some ⟨gP, 0, none⟩)) rfl (.agg (prC en B ⟨A1, n1, c1⟩ ⟨A2, n2, c2⟩ ⟨A3, n3, c3⟩ ⟨A4, n4, c4⟩)) (fun w' hC => load_prog (HP.out.after (HBU.out.trans (hC.mono HBU.out.size))))) ?_
      simp only [Act.put, List.setIfInBounds_toArray, List.set_cons_zero, List.set_cons_succ]
      refine WQ.lift (wpQ_load 43 (.tmp 5) rfl rfl (.pointer (some ⟨gR, 0, none⟩)) rfl (.agg (reC ⟨p, t, s, a⟩)) (fun w' hC => load_rela (HR.out.after (HBU.out.trans (hC.mono HBU.out.size))))) ?_
      simp only [Act.put, List.setIfInBounds_toArray, List.set_cons_zero, List.set_cons_succ]
      refine WQ.lift (wpQ_fn 43 _ _ rfl rfl #[.agg (prC en B ⟨A1, n1, c1⟩ ⟨A2, n2, c2⟩ ⟨A3, n3, c3⟩ ⟨A4, n4, c4⟩), .agg (reC ⟨p, t, s, a⟩)] rfl (fun _ => by go_simp) (.int .u32 (x : Int)) (fun w' hC => (KA.out w').mono fun e w'' ⟨he, hb⟩ => ⟨he, below_class hC hb⟩)) ?_
      simp only [Act.put, List.setIfInBounds_toArray, List.set_cons_zero, List.set_cons_succ]
      refine WQ.lift (wpQ_move _ rfl rfl (.int .u32 (v : Int)) rfl) ?_
      simp only [Act.put, List.setIfInBounds_toArray, List.set_cons_zero, List.set_cons_succ]
      refine WQ.mk (wpQuiet_nil ?_)
      intro u5 hC
      have kCh := change_any t m g x v u5 (HG2.out.after hC) hx hvl HST.out HT.out (fun h => by
        have h1 := HIN.out; have h3 := HX.out
        rw [← h3] at h1
        have h5 : kL t = 8 := if_pos h
        have h6 := h1.2
        rw [h5] at h6
        exact ⟨stB_in (by omega) (by omega), by omega⟩)
      have HC := Lib.hid hC
      clear hC k1
      go_wp2_with (go_at_call 46; with_reducible refine kCh.mono ?_; rintro e u6 ⟨rfl, hG6, hb6⟩)
      go_ret
      rw [HRES.out, one_val HM.out (by rw [← HX.out]; exact HST.out), HV.out, err_go, ← HX.out]
      exact ⟨rfl, hG6, only_trans (only_below (HB.out.trans ((HBU.out.trans (HC.out.mono HBU.out.size)).mono HB.out.size)) _) hb6⟩
end Go.Proofs.Ytegaiphhoinilaa.Rc
