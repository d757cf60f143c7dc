/-

-/
import Derived.Test.YtflkhlhpifmocaaDoorMg00
import Derived.Test.YtflkhlhpifmocaaDoorMg08
import Derived.BigRegion
namespace Go.Proofs.YtflkhlhpifmocaaDoor
open Go.RowKit
def qw (x : UInt32) : Value := .int .u64 (x.toNat : Int)
theorem zeros64q : (#[Value.int IntKind.u64 0, Value.int IntKind.u64 0, Value.int IntKind.u64 0, Value.int IntKind.u64 0, Value.int IntKind.u64 0, Value.int IntKind.u64 0, Value.int IntKind.u64 0, Value.int IntKind.u64 0, Value.int IntKind.u64 0, Value.int IntKind.u64 0, Value.int IntKind.u64 0, Value.int IntKind.u64 0, Value.int IntKind.u64 0, Value.int IntKind.u64 0, Value.int IntKind.u64 0, Value.int IntKind.u64 0, Value.int IntKind.u64 0, Value.int IntKind.u64 0, Value.int IntKind.u64 0, Value.int IntKind.u64 0, Value.int IntKind.u64 0, Value.int IntKind.u64 0, Value.int IntKind.u64 0, Value.int IntKind.u64 0, Value.int IntKind.u64 0, Value.int IntKind.u64 0, Value.int IntKind.u64 0, Value.int IntKind.u64 0, Value.int IntKind.u64 0, Value.int IntKind.u64 0, Value.int IntKind.u64 0, Value.int IntKind.u64 0, Value.int IntKind.u64 0, Value.int IntKind.u64 0, Value.int IntKind.u64 0, Value.int IntKind.u64 0, Value.int IntKind.u64 0, Value.int IntKind.u64 0, Value.int IntKind.u64 0, Value.int IntKind.u64 0, Value.int IntKind.u64 0, Value.int IntKind.u64 0, Value.int IntKind.u64 0, Value.int IntKind.u64 0, Value.int IntKind.u64 0, Value.int IntKind.u64 0, Value.int IntKind.u64 0, Value.int IntKind.u64 0, Value.int IntKind.u64 0, Value.int IntKind.u64 0, Value.int IntKind.u64 0, Value.int IntKind.u64 0, Value.int IntKind.u64 0, Value.int IntKind.u64 0, Value.int IntKind.u64 0, Value.int IntKind.u64 0, Value.int IntKind.u64 0, Value.int IntKind.u64 0, Value.int IntKind.u64 0, Value.int IntKind.u64 0, Value.int IntKind.u64 0, Value.int IntKind.u64 0, Value.int IntKind.u64 0, Value.int IntKind.u64 0] : Array Value) = tab 64 zeroQ := by kernel_rfl
attribute [local go_sem] zeros32b zeros64q q_add2 q_addw q_low q_low' q_wrap q_xor q_and q_not q_shr3 q_shr10 q_t q_u
theorem right_int (x : UInt32) (n : Int) (w : World) (h : 1 ≤ n ∧ n ≤ 31) :
    Calls Tryd.prog 53 #[.int .u64 x.toNat, .int .u64 n] w fun e w' => e = .returned (.int .u64 ((rotr n.toNat x).toNat : Int)) ∧ w = w' := by
  have h := right_any x n.toNat w (by omega) (by omega)
  rwa [Int.toNat_of_nonneg (by omega)] at h
theorem St.of_at (s : Nat → UInt32) : ∀ j, j < 8 → (St.of s).at j = s j
  | 0, _ => rfl
  | 1, _ => rfl
  | 2, _ => rfl
  | 3, _ => rfl
  | 4, _ => rfl
  | 5, _ => rfl
  | 6, _ => rfl
  | 7, _ => rfl
  | n + 8, h => by omega
theorem infoQ' : (Tryd.prog.info? 35).map (fun i => (i.zero, i.size, i.bytes)) = some (some (.int .u64 0), 1, 8) := infoQ
/-- append(nil, h...), of eight words -/
theorem wp_append_q8 {w : World} {ops : Array Oper} {rest : List Oper} {op : Oper} {a : Act} {Q : Exit → Act → World → Prop} (hgd : op.guard = none) (x : Operand)
    (ho : op.op = .call { callee := .builtin .append, args := #[.const (.slice none 0 0), x], argTypes := #[88, 88] }) (g c : Nat) (hx : a.eval x = .slice (some ⟨g, 0, none⟩) 8 c) (f : Nat → UInt32)
    (hL : Lie w g 8 fun j => qw (f j))
    (h : ∀ v' w', w'.ownsRow w.heap.size 35 1 v' 8 ((List.range 8).map fun j => qw (f j)) → Below w.heap.size w w' → wpList Tryd.prog ops Q rest (a.put op.dst v') w') : wpList Tryd.prog ops Q (op :: rest) a w := by
  obtain ⟨iq, hiq, hzq, hsq, hbq⟩ := info_parts infoQ
  refine wpList_append_own _ hgd (.const (.slice none 0 0)) x 88 ho w.heap.size 35 iq (.int .u64 0) 1 8 Tryd.underlying88 hiq hzq hsq hbq rfl (by decide) (.slice none 0 0) 0 [] rfl (World.ownsRow_nil _ _ _ _) ⟨g, 0, none⟩ 8 c ((List.range 8).map fun j => qw (f j)) hx (by simp) (fun j u hj => ?_) (fun u hu => ?_) (by simp only [maxLen]; omega) (by omega) (Nat.le_refl _)
    (fun v' w' h1 h2 _ => h v' w' (by simpa using h1) ((Below.refl _ _).grown h2 (Nat.le_refl _) (fun k hk => by cases hk)))
  · have hj8 : j < 8 := by have := (List.getElem?_eq_some_iff.1 hj).1; simpa using this
    rw [Addr.add_mid, Nat.zero_add, (hL.2 j hj8).1, ← hj]
    simp [List.getElem?_range hj8]
  · obtain ⟨b, _, rfl⟩ := List.mem_map.1 hu
    rfl
/-- what the block loop keeps: the constants, the state, the padded message, the result's block, all that was there -/
structure Fr (w0 wr : World) (ga gh gp N : Nat) (msg : List UInt8) (s : Nat → UInt32) : Prop where
  K : Lie wr ga 64 fun j => qw (KC j)
  H : Lie wr gh 8 fun j => qw (s j)
  P : Lie wr gp N fun j => by8 (msg.getD j 0)
  R : Has wr w0.heap.size 62 (tab 32 zeroB)
  B : Below w0.heap.size w0 wr
section
variable {w0 wr w' : World} {ga gh gp N : Nat} {msg : List UInt8} {s : Nat → UInt32}
theorem Fr.drewN (h : Fr w0 wr ga gh gp N msg s) (k : Nat) : Fr w0 (wr.drewN k) ga gh gp N msg s := ⟨h.K, h.H, h.P, h.R, below_drewN h.B k⟩
theorem Fr.keep (h : Fr w0 wr ga gh gp N msg s) (hb : Below wr.heap.size wr w') : Fr w0 w' ga gh gp N msg s :=
  ⟨h.K.below hb h.K.1, h.H.below hb h.H.1, h.P.below hb h.P.1, h.R.below hb h.R.lt, h.B.trans (hb.mono h.B.size)⟩
theorem Fr.alloc (h : Fr w0 wr ga gh gp N msg s) (o : Obj) : Fr w0 (wr.alloc o) ga gh gp N msg s := h.keep ((Below.refl _ _).alloc (Nat.le_refl _) o)
theorem Fr.congr {s' : Nat → UInt32} (h : Fr w0 wr ga gh gp N msg s) (he : ∀ j, j < 8 → s j = s' j) : Fr w0 wr ga gh gp N msg s' := ⟨h.K, h.H.congr fun j hj => by rw [he j hj], h.P, h.R, h.B⟩
/-- a store into the state -/
theorem Fr.setH (h : Fr w0 wr ga gh gp N msg s) (h1 : ga ≠ gh) (h2 : gh < gp) (h3 : w0.heap.size + 1 ≤ gh) (i : Nat) (hi : i < 8) (u : UInt32) : Fr w0 (wr.setCell ⟨gh, i, none⟩ (qw u)) ga gh gp N msg (fun j => if j = i then u else s j) :=
  ⟨h.K.far (by show ga ≠ gh; omega) _, (h.H.set i hi (qw u)).congr fun j _ => by by_cases e : j = i <;> simp [e], h.P.far (by show gp ≠ gh; omega) _, h.R.far (by show w0.heap.size ≠ gh; omega) _, h.B.setCell (by show w0.heap.size ≤ gh; omega) _⟩
/-- a store into a block that is none of these -/
theorem Fr.far (h : Fr w0 wr ga gh gp N msg s) {g i : Nat} (h1 : ga < g) (h2 : gh < g) (h3 : gp < g) (h4 : w0.heap.size < g) (u : Value) : Fr w0 (wr.setCell ⟨g, i, none⟩ u) ga gh gp N msg s :=
  ⟨h.K.far (by show ga ≠ g; omega) u, h.H.far (by show gh ≠ g; omega) u, h.P.far (by show gp ≠ g; omega) u, h.R.far (by show w0.heap.size ≠ g; omega) u, h.B.setCell (by show w0.heap.size ≤ g; omega) u⟩
end
theorem drewN_ex (w : World) (a : Nat) : ∃ n, { w.drewN a with drawn := (w.drewN a).drawn + 1 } = w.drewN n := ⟨a + 1, by simp [World.drewN, Nat.add_assoc]⟩
theorem lie8 {w : World} {g : Nat} {t : TypeId} {v : Nat → UInt32} (h : Has w g t #[.int .u64 ((v 0).toNat : Int), .int .u64 ((v 1).toNat : Int), .int .u64 ((v 2).toNat : Int), .int .u64 ((v 3).toNat : Int), .int .u64 ((v 4).toNat : Int), .int .u64 ((v 5).toNat : Int), .int .u64 ((v 6).toNat : Int), .int .u64 ((v 7).toNat : Int)]) : Lie w g 8 fun j => qw (v j) :=
  Lie.of_has h fun j hj => match j, hj with
    | 0, _ => rfl
    | 1, _ => rfl
    | 2, _ => rfl
    | 3, _ => rfl
    | 4, _ => rfl
    | 5, _ => rfl
    | 6, _ => rfl
    | 7, _ => rfl
    | n + 8, h => by omega
/-- the state while the block's words are added to it -/
def hmix (s : Nat → UInt32) (b : Nat → UInt8) (i j : Nat) : UInt32 := if j < i then comp s b j else s j
theorem hmix_set (s : Nat → UInt32) (b : Nat → UInt8) (i j : Nat) : (if j = i then comp s b i else hmix s b i j) = hmix s b (i + 1) j := by
  unfold hmix
  by_cases h : j = i
  · subst h; simp
  · rw [if_neg h]
    by_cases h2 : j < i
    · rw [if_pos h2, if_pos (by omega)]
    · rw [if_neg h2, if_neg (by omega)]
theorem dig_walk (s : Nat → UInt32) (k : Nat) : Value.int .u8 (((s (k / 4)).toNat : Int) / 2 ^ (24 - 8 * (k % 4)) % 256) = by8 (dig s k) := by
  unfold by8; rw [dig_toNat]; simp
/-- the result's bytes -/
def ob (s : Nat → UInt32) (i j : Nat) : Value := if j < i then by8 (dig s j) else zeroB j
theorem ob_zero (s : Nat → UInt32) : tab 32 (ob s 0) = tab 32 zeroB := tab_ext _ _ _ fun j _ => by simp [ob]
theorem ob_set (s : Nat → UInt32) (i : Nat) : (tab 32 (ob s i)).setIfInBounds i (by8 (dig s i)) = tab 32 (ob s (i + 1)) := by
  rw [tab_set]
  apply tab_ext
  intro j _
  unfold ob
  by_cases h : j = i
  · subst h; simp
  · rw [if_neg h]
    by_cases h2 : j < i
    · rw [if_pos h2, if_pos (by omega)]
    · rw [if_neg h2, if_neg (by omega)]
/-- the reference's words: the first i are there -/
def wq (b : Nat → UInt8) (i j : Nat) : Value := if j < i then qw (W b j) else .int .u64 0
/-- .. and k bytes of word i -/
def pw (b : Nat → UInt8) (i : Nat) : Nat → Nat
  | 0 => 0
  | k + 1 => pw b i k * 256 + (b (4 * i + k)).toNat
def wk (b : Nat → UInt8) (i k j : Nat) : Value := if j < i then qw (W b j) else if j = i then .int .u64 (pw b i k : Int) else .int .u64 0
theorem pw_lt (b : Nat → UInt8) (i : Nat) : ∀ k, pw b i k < 256 ^ k
  | 0 => by simp [pw]
  | k + 1 => by
    have := pw_lt b i k
    have := (b (4 * i + k)).toNat_lt
    simp only [pw, Nat.pow_succ]
    omega
theorem pw_four (b : Nat → UInt8) (i : Nat) (h : i < 16) : pw b i 4 = (W b i).toNat := by
  rw [W_lo b i h, W0, word_toNat]
  simp [pw]
theorem wk_zero (b : Nat → UInt8) (i : Nat) : tab 64 (wk b i 0) = tab 64 (wq b i) := tab_ext _ _ _ fun j _ => by
  unfold wk wq
  by_cases h : j < i
  · rw [if_pos h, if_pos h]
  · rw [if_neg h, if_neg h]; simp [pw]
theorem wk_set (b : Nat → UInt8) (i k : Nat) : (tab 64 (wk b i k)).setIfInBounds i (.int .u64 (pw b i (k + 1) : Int)) = tab 64 (wk b i (k + 1)) := by
  rw [tab_set]
  apply tab_ext
  intro j _
  unfold wk
  by_cases h : j = i
  · subst h; simp
  · rw [if_neg h, if_neg h, if_neg h]
theorem wk_four (b : Nat → UInt8) (i : Nat) (h : i < 16) : tab 64 (wk b i 4) = tab 64 (wq b (i + 1)) := tab_ext _ _ _ fun j _ => by
  unfold wk wq
  by_cases h1 : j < i
  · rw [if_pos h1, if_pos (by omega)]
  · rw [if_neg h1]
    by_cases h2 : j = i
    · rw [if_pos h2, if_pos (by omega), h2, pw_four b i h]; rfl
    · rw [if_neg h2, if_neg (by omega)]
theorem wq_set (b : Nat → UInt8) (i : Nat) : (tab 64 (wq b i)).setIfInBounds i (qw (W b i)) = tab 64 (wq b (i + 1)) := by
  rw [tab_set]
  apply tab_ext
  intro j _
  unfold wq
  by_cases h : j = i
  · subst h; simp
  · rw [if_neg h]
    by_cases h2 : j < i
    · rw [if_pos h2, if_pos (by omega)]
    · rw [if_neg h2, if_neg (by omega)]
theorem wq_zero (b : Nat → UInt8) : tab 64 (wq b 0) = tab 64 zeroQ := tab_ext _ _ _ fun j _ => by simp [wq, zeroQ]
theorem own_far {w w' : World} {base : Nat} {e : TypeId} {size n : Nat} {v : Value} {xs : List Value} (h : w.ownsRow base e size v n xs) (hb : Below w.heap.size w w') : w'.ownsRow base e size v n xs :=
  h.kept (only_below hb none) (by
    cases hv : v.ownBlock with
    | none => exact .inl rfl
    | some a => exact .inr (by simp))

set_option maxRecDepth 100000 in
set_option maxHeartbeats 16000000 in
theorem ref_any (bs : List UInt8) (A : Option Addr) (n c : Nat) (w : World) (hS : SlA w A n c bs) (hnil : A = none → c = 0) (hlen : n ≤ 2000) :
    Calls Tryd.prog 23 #[.slice A n c] w fun e w' => e = .returned (.agg (tab 32 fun j => by8 (shaOf bs j))) ∧ Below w.heap.size w w' := by
  have hz32 : (Tryd.prog.info? 62).map (·.size) = some (tab 32 fun j => by8 (shaOf bs j)).size := by rw [tab_size]; kernel_rfl
  have hbn : bs.length = n := hS.1
  go_enter Tryd.func23, Tryd.ntmps23
  go_wp2_with fail
  have h0 : Has (w.alloc (.cells (tab 32 zeroB) 62)) w.heap.size 62 (tab 32 zeroB) := Has.new' rfl
  have hb0 := (Below.refl w.heap.size w).alloc (Nat.le_refl _) (.cells (tab 32 zeroB) 62)
  have hz : (w.alloc (.cells (tab 32 zeroB) 62)).heap.size = w.heap.size + 1 := by simp
  generalize w.alloc (.cells (tab 32 zeroB) 62) = w0 at *
  refine (roots_any 64 3 312 w0 (by omega) (by omega) (by omega) (by omega) (by rw [prs64]; rfl) cnt64).mono ?_
  rintro e w1 ⟨v1, rfl, hown1, hb1⟩
  have hb01 := hb0.trans (hb1.mono (by omega))
  have h01 := h0.below hb1 h0.lt
  obtain ⟨A1, c1, rfl⟩ := own_form hown1
  obtain ⟨ga, rfl, hga, hK⟩ := Lie.of_own (f := fun j => qw (KC j)) hown1 (by omega) (fun j hj => by
    rw [rts64]
    have : j < consts.length := hj
    simp [KC, qw, List.getD_eq_getElem?_getD, this])
  clear hown1 h0 hb0 hb1
  have hz1 : w.heap.size + 1 ≤ w1.heap.size := by have := hb01.size; have := hK.1; omega
  go_wp2_with fail
  refine (roots_any 8 2 20 w1 (by omega) (by omega) (by omega) (by omega) (by rw [prs8]; rfl) cnt8).mono ?_
  rintro e w2 ⟨v2, rfl, hown2, hb2⟩
  have hb02 := hb01.trans (hb2.mono (by omega))
  have h02 := h01.below hb2 h01.lt
  have hK2 := hK.below hb2 hK.1
  obtain ⟨A2, c2, rfl⟩ := own_form hown2
  obtain ⟨gh, rfl, hgh, hH⟩ := Lie.of_own (f := fun j => qw (IV j)) hown2 (by omega) (fun j hj => by
    rw [rts8]
    have : j < inits.length := hj
    simp [IV, qw, List.getD_eq_getElem?_getD, this])
  have hgah : ga ≠ gh := by have := hK.1; omega
  have hz2 : w1.heap.size ≤ w2.heap.size := hb2.size
  have hga2 : w.heap.size + 1 ≤ ga := by omega
  have hgh2 : w.heap.size + 1 ≤ gh := by omega
  clear hown2 h01 hb01 hb2 hK hz hga hgh
  have hS2 := hS.below hb02
  have Hbn := Lib.hid hbn
  have Hnil := Lib.hid hnil
  clear hbn hnil hS
  have hb22 := Below.refl w2.heap.size w2
  go_wp2_with (first
    | (refine wp_append_bytes rfl (.const (.slice none 0 0)) (.tmp 24) rfl w2.heap.size (.slice none 0 0) 0 [] rfl (World.ownsRow_nil _ _ _ _) A n c rfl bs hS2 Hnil.out ?_ (Nat.le_refl _) ?_; omega; intro v3 w3 hown3 hg3)
    | (refine wp_append_byte rfl (.tmp 25) (.tmp 26) rfl w2.heap.size v3 (0 + n) ([] ++ bs.map by8) rfl (hown3.alloc _) w3.heap.size rfl 128 ?_ ?_ ?_ ?_; exact (Has.new' (w := w3) (t := 5) (cs := #[Value.int IntKind.u8 128]) rfl).cell 0; omega; (have hh := hg3.size; simp; omega); intro v4 w4 hown4 hg4))
  have hb23 : Below w2.heap.size w2 w3 := hb22.grown hg3 (Nat.le_refl _) (fun k hk => by cases hk)
  have hb24 : Below w2.heap.size w2 w4 := (hb23.alloc hb23.size _).grown hg4 (by have := hb23.size; simp; omega) (fun k hk => (hown3.lt k hk).1)
  have hown5 : w4.ownsRow w2.heap.size 5 1 v4 (n + 1 + 0) ((bs ++ (padOf bs).take (1 + 0)).map by8) := by
    have e : (padOf bs).take (1 + 0) = [128] := by
      have h := pad_take bs 0 (by rw [padLen_zer]; omega)
      rw [show 1 + 0 = 0 + 1 from rfl, h, padB_zero]; rfl
    rw [e, List.map_append]
    simpa using hown4
  clear hown3 hown4 hg3 hg4 hb22 hb23
  go_loopw [5] (fun v wr => ∃ z N : Nat, z ≤ zer n ∧ Hid (N = n + 1 + z) ∧ wr.ownsRow w2.heap.size 5 1 v N ((bs ++ (padOf bs).take (1 + z)).map by8) ∧ Below w2.heap.size w2 wr)
    (fun v _ => match v with | .slice _ l _ => n + 1 + zer n - l | _ => 0)
  case atStart => exact ⟨0, _, by omega, Lib.hid rfl, hown5, hb24⟩
  case round =>
    clear hown5 hb24
    obtain ⟨z, N, hz, HN, hown, hb⟩ := hrel
    obtain ⟨A3, c3, rfl⟩ := own_form hown
    have hz64 := zer_lt n
    have hN2 : N ≤ 3000 := by have := HN.out; omega
    by_cases hlt : z < zer n
    · have hne := zer_not n z hlt
      have ht : ((N : Int) % 64 != 56) = true := by have := HN.out; simp; omega
      have htk := pad_take bs (1 + z) (by rw [padLen_zer, Hbn.out]; omega)
      rw [Hbn.out, padB_mid n z hlt] at htk
      have Htk := Lib.hid htk
      clear htk hne
      go_wp2_with (refine wp_append_byte rfl (.tmp 32) (.tmp 33) rfl w2.heap.size (.slice A3 N c3) N ((bs ++ (padOf bs).take (1 + z)).map by8) rfl (hown.alloc _) wr.heap.size rfl 0 ?_ ?_ ?_ ?_; exact (Has.new' (w := wr) (t := 5) (cs := #[Value.int IntKind.u8 0]) rfl).cell 0; omega; (have hh := hb.size; simp; omega); intro v4 w4 hown4 hg4)
      have hb4 : Below w2.heap.size w2 w4 := (hb.alloc hb.size _).grown hg4 (by have := hb.size; simp; omega) (fun k hk => (hown.lt k hk).1)
      have hown5 : w4.ownsRow w2.heap.size 5 1 v4 (N + 1) ((bs ++ (padOf bs).take (1 + (z + 1))).map by8) := by
        rw [← Nat.add_assoc, Htk.out, ← List.append_assoc, List.map_append]
        exact hown4
      clear hown4 hg4 hown hb
      obtain ⟨A4, c4, hv4⟩ := own_form hown5
      have HN2 : Hid (N + 1 = n + 1 + (z + 1)) := Lib.hid (by have := HN.out; omega)
      go_roundw
      case rel => exact ⟨z + 1, N + 1, by omega, HN2, hown5, hb4⟩
      case measure => rw [hv4]; show n + 1 + zer n - (N + 1) < n + 1 + zer n - N; have := HN.out; omega
    · have ez : z = zer n := by omega
      rw [ez] at hown
      have ht : ((N : Int) % 64 != 56) = false := by have := HN.out; have := zer_end n; simp; omega
      have HN2 : Hid (N = n + 1 + zer n) := Lib.hid (by have := HN.out; omega)
      clear hz ez hlt HN
      go_wp2_with fail
      go_loopw [5, 6] (fun v ct wr => ∃ t N : Nat, t ≤ 8 ∧ Hid (N = n + 1 + zer n + t) ∧ ct = .int .i64 (7 - (t : Int)) ∧ wr.ownsRow w2.heap.size 5 1 v N ((bs ++ (padOf bs).take (1 + zer n + t)).map by8) ∧ Below w2.heap.size w2 wr)
        (fun _ ct _ => (intOf ct + 1).toNat)
      case atStart => exact ⟨0, N, by omega, HN2, rfl, hown, hb⟩
      case round =>
        clear hown hb HN2 ht
        rename_i z0 N0 _ A30 c30 _
        obtain ⟨t, N, htt, HN, rfl, hown, hb⟩ := hrel
        obtain ⟨A3, c3, rfl⟩ := own_form hown
        have hN2 : N ≤ 3000 := by have := HN.out; omega
        by_cases hlt : t < 8
        · have htk := pad_take bs (1 + zer n + t) (by rw [padLen_zer, Hbn.out]; omega)
          rw [Hbn.out, padB_len n t hlt] at htk
          have Htk := Lib.hid htk
          have hby : Value.int IntKind.u8 ((n : Int) * 8 / 2 ^ (8 * (7 - t)) % 256) = by8 (UInt8.ofNat (n * 8 / 2 ^ (8 * (7 - t)))) := by
            unfold by8; rw [UInt8.toNat_ofNat']; simp
          have Hby := Lib.hid hby
          have d7 : (0 : Int) ≤ 7 - (t : Int) := by omega
          have d8 : (t : Int) ≤ 7 := by omega
          clear htk hby
          go_wp2_with (refine wp_append_byte rfl (.tmp 39) (.tmp 47) rfl w2.heap.size (.slice A3 N c3) N ((bs ++ (padOf bs).take (1 + zer n + t)).map by8) rfl (hown.alloc _) wr.heap.size rfl (UInt8.ofNat (n * 8 / 2 ^ (8 * (7 - t)))) ?_ ?_ ?_ ?_; exact ((Has.new' (w := wr) (t := 5) (cs := #[Value.int IntKind.u8 ((n : Int) * 8 / 2 ^ (8 * (7 - t)) % 256)]) rfl).cell 0).trans (congrArg some Hby.out); omega; (have hh := hb.size; simp; omega); intro v4 w4 hown4 hg4)
          have hb4 : Below w2.heap.size w2 w4 := (hb.alloc hb.size _).grown hg4 (by have := hb.size; simp; omega) (fun k hk => (hown.lt k hk).1)
          have hown5 : w4.ownsRow w2.heap.size 5 1 v4 (N + 1) ((bs ++ (padOf bs).take (1 + zer n + (t + 1))).map by8) := by
            rw [← Nat.add_assoc, Htk.out, ← List.append_assoc, List.map_append]
            exact hown4
          have HN2 : Hid (N + 1 = n + 1 + zer n + (t + 1)) := Lib.hid (by have := HN.out; omega)
          clear hown4 hg4 hown hb
          go_roundw
          case rel => exact ⟨t + 1, N + 1, by omega, HN2, by go_num, hown5, hb4⟩
          case measure => simp [intOf]; omega
        · have e8 : t = 8 := by omega
          rw [e8] at hown
          have hNt : N = (bs ++ padOf bs).length := by have := HN.out; rw [List.length_append, padOf_length, padLen_zer, Hbn.out]; omega
          have hmsg : bs ++ (padOf bs).take (1 + zer n + 8) = bs ++ padOf bs := by rw [List.take_of_length_le (by rw [padOf_length, padLen_zer, Hbn.out]; omega)]
          rw [hmsg] at hown
          obtain ⟨msg, hmd⟩ : ∃ msg, msg = bs ++ padOf bs := ⟨_, rfl⟩
          rw [← hmd] at hown hNt
          have Hmd := Lib.hid hmd
          have hN64 : N % 64 = 0 := by have := HN.out; have := zer_end n; omega
          obtain ⟨Q, hQ⟩ : ∃ Q, N = 64 * Q := ⟨N / 64, by omega⟩
          have HQ := Lib.hid hQ
          have HNt := Lib.hid hNt
          have d7 : decide ((t : Int) ≤ 7) = false := by simp; omega
          obtain ⟨gp, hA3, hgp, hP⟩ := Lie.of_own (f := fun j => by8 (msg.getD j 0)) hown (by have := HN.out; omega) (fun j hj => by
            have hjm : j < msg.length := by omega
            simp [List.getD_eq_getElem?_getD, hjm])
          subst hA3
          clear hmd hmsg hNt hN64 hQ e8 hown htt hlt HN
          have hFr : Fr w wr ga gh gp N msg (foldSt msg 0) := ⟨hK2.below hb hK2.1, (hH.below hb hH.1), hP, h02.below hb h02.lt, hb02.trans (hb.mono hb02.size)⟩
          have hghp : gh < gp := by have := hH.1; omega
          have hgp2 : w.heap.size + 1 ≤ gp := by have := hb02.size; have := h02.lt; omega
          clear hK2 hH hP h02 hb02 hb hS2
          go_wp2_with fail
          go_loopw [7, 8, 9, 10, 11, 12, 13, 14, 15, 16, 17, 18, 19] (fun ca _ _ _ _ _ _ _ _ _ _ _ _ wr => ∃ q AT : Nat, q ≤ Q ∧ Hid (AT = 64 * q) ∧ ca = .int .i64 (AT : Int) ∧ Fr w wr ga gh gp N msg (foldSt msg q))
            (fun ca _ _ _ _ _ _ _ _ _ _ _ _ _ => N - (intOf ca).toNat)
          case atStart => exact ⟨0, 0, by omega, Lib.hid rfl, rfl, hFr⟩
          case round =>
            clear hFr
            obtain ⟨q, AT, hq, HAT, rfl, hF⟩ := hrel
            by_cases hlt : q < Q
            · have dA : (AT : Int) < (N : Int) := by have := HAT.out; have := HQ.out; omega
              have hAT2 : AT + 64 ≤ N := by have := HAT.out; have := HQ.out; omega
              obtain ⟨b, hbd⟩ : ∃ b, b = blk msg q := ⟨_, rfl⟩
              have Hbd := Lib.hid hbd
              clear hbd
              go_wp2_with fail
              have hW : Has (wr.alloc (.cells (tab 64 zeroQ) 90)) wr.heap.size 90 (tab 64 (wq b 0)) := by rw [wq_zero]; exact Has.new' rfl
              have hF1 := hF.alloc (.cells (tab 64 zeroQ) 90)
              have g1 := hF.K.1
              have g2 := hF.H.1
              have g3 := hF.P.1
              have g4 := hF.R.lt
              obtain ⟨gw, hgw⟩ : ∃ gw, gw = wr.heap.size := ⟨_, rfl⟩
              rw [← hgw] at g1 g2 g3 g4 hW ⊢
              generalize wr.alloc (.cells (tab 64 zeroQ) 90) = wa at *
              clear hF hgw
              go_loopw [9, 10, 11, 12] (fun ci _ _ _ wr => ∃ i : Nat, i ≤ 64 ∧ ci = .int .i64 i ∧ Has wr gw 90 (tab 64 (wq b i)) ∧ Fr w wr ga gh gp N msg (foldSt msg q))
                (fun ci _ _ _ _ => 64 - (intOf ci).toNat)
              case atStart => exact ⟨0, by omega, rfl, hW, hF1⟩
              case round =>
                clear hW hF1
                obtain ⟨i, hi, rfl, hW, hF⟩ := hrel
                by_cases hi16 : i < 16
                · have di : (i : Int) < 16 := by omega
                  have di64 : (i : Int) < 64 := by omega
                  go_wp2_with fail
                  go_loopw [10] (fun ck wr => ∃ k : Nat, k ≤ 4 ∧ ck = .int .i64 k ∧ Has wr gw 90 (tab 64 (wk b i k)) ∧ Fr w wr ga gh gp N msg (foldSt msg q)) (fun ck _ => 4 - (intOf ck).toNat)
                  case atStart => exact ⟨0, by omega, rfl, by rw [wk_zero]; exact hW, hF⟩
                  case round =>
                    as_aux_lemma =>
                    clear hW hF
                    obtain ⟨k, hk, rfl, hW, hF⟩ := hrel
                    by_cases hk4 : k < 4
                    · have dk : (k : Int) < 4 := by omega
                      obtain ⟨p, hp⟩ : ∃ p, p = pw b i k := ⟨_, rfl⟩
                      have hpl : p < 16777216 := by
                        have h1 := pw_lt b i k
                        have h2 : 256 ^ k ≤ 256 ^ 3 := Nat.pow_le_pow_right (by decide) (by omega)
                        rw [hp]; omega
                      have cw : wr.cell? ⟨gw, i, none⟩ = some (.int .u64 (p : Int)) := (hW.cellTab i (by omega)).trans (by simp [wk, hp])
                      have fw := hW.free i
                      obtain ⟨v, hv⟩ : ∃ v, v = b (4 * i + k) := ⟨_, rfl⟩
                      have cp : wr.cell? ⟨gp, AT + 4 * i + k, none⟩ = some (.int .u8 (v.toNat : Int)) := by
                        have h := (hF.P.2 (AT + 4 * i + k) (by omega)).1
                        rw [h, hv, Hbd.out]
                        simp only [blk, by8]
                        rw [if_pos (by omega), HAT.out, Nat.add_assoc]
                      have hvl := v.toNat_lt
                      have hnext : ((pw b i (k + 1) : Nat) : Int) = (p : Int) * 256 + (v.toNat : Int) := by rw [hp, hv]; simp [pw]
                      have Hnext := Lib.hid hnext
                      have dN : (AT : Int) + 4 * (i : Int) + (k : Int) < (N : Int) := by omega
                      clear hp hv hnext
                      go_wp2_with fail
                      go_region
                      go_wp2_with fail
                      go_roundw
                      case rel =>
                        have e := wk_set b i k
                        rw [Hnext.out] at e
                        exact ⟨k + 1, by omega, by go_num, by rw [← e]; exact (hW.set i _).drew, (hF.far g1 g2 g3 g4 _).drewN 1⟩
                      case measure => simp [intOf]; omega
                    · have e4 : k = 4 := by omega
                      have hW4 : Has wr gw 90 (tab 64 (wq b (i + 1))) := by rw [← wk_four b i hi16, ← e4]; exact hW
                      have dk : ¬ (k : Int) < 4 := by omega
                      clear e4 hW hk
                      go_wp2_with fail
                      go_roundw
                      case rel => exact ⟨i + 1, by omega, by go_num, hW4, hF⟩
                      case measure => simp [intOf]; omega
                · by_cases hi64 : i < 64
                  · have di : ¬ (i : Int) < 16 := by omega
                    have di64 : (i : Int) < 64 := by omega
                    have hi16' : 16 ≤ i := by omega
                    have wat : ∀ j, j < i → wr.cell? ⟨gw, j, none⟩ = some (.int .u64 ((W b j).toNat : Int)) := fun j hj => (hW.cellTab j (by omega)).trans (by simp [wq, hj, qw])
                    have c0 := wat (i - 16) (by omega)
                    have c1 := wat (i - 7) (by omega)
                    have c2 := wat (i - 15) (by omega)
                    have c3 := wat (i - 2) (by omega)
                    have fw := hW.free i
                    have cw := hW.cellTab i (by omega)
                    have hWh := W_hi b i hi16'
                    have HWh := Lib.hid hWh
                    obtain ⟨x16, hx16⟩ : ∃ x, x = W b (i - 16) := ⟨_, rfl⟩
                    obtain ⟨x7, hx7⟩ : ∃ x, x = W b (i - 7) := ⟨_, rfl⟩
                    obtain ⟨x15, hx15⟩ : ∃ x, x = W b (i - 15) := ⟨_, rfl⟩
                    obtain ⟨x2, hx2⟩ : ∃ x, x = W b (i - 2) := ⟨_, rfl⟩
                    rw [← hx16, ← hx7, ← hx15, ← hx2] at HWh
                    rw [← hx16] at c0
                    rw [← hx7] at c1
                    rw [← hx15] at c2
                    rw [← hx2] at c3
                    clear wat hWh hx16 hx7 hx15 hx2
                    have b16 : (16 : Int) ≤ (i : Int) := by omega
                    have d16 : (i : Int) - 16 < 64 := by omega
                    have b7 : (7 : Int) ≤ (i : Int) := by omega
                    have d7 : (i : Int) - 7 < 64 := by omega
                    have b15 : (15 : Int) ≤ (i : Int) := by omega
                    have d15 : (i : Int) - 15 < 64 := by omega
                    have b2 : (2 : Int) ≤ (i : Int) := by omega
                    have d2 : (i : Int) - 2 < 64 := by omega
                    go_wp2_with fail
                    go_region
                    go_wp2_with fail
                    have a16 : IntKind.i64.wrap ((i : Int) - 16) = (i : Int) - 16 := IntWalk.i64_in _ (by omega)
                    have t16 : ((i : Int) - 16).toNat = i - 16 := by omega
                    have a7 : IntKind.i64.wrap ((i : Int) - 7) = (i : Int) - 7 := IntWalk.i64_in _ (by omega)
                    have t7 : ((i : Int) - 7).toNat = i - 7 := by omega
                    refine region_quiet_tail (fun w' => ∃ n, w' = wr.drewN n) 30 (by kernel_rfl) (by kernel_rfl) ⟨2, rfl⟩ ?_
                    simp only [List.take_succ_cons, List.take_zero, List.drop_succ_cons, List.drop_zero]
                    repeat (quiet_step ((go_at_call 53; exact Calls.quiet_of_same ((right_int _ _ _ (by omega)).mono fun _ _ ⟨he, hw⟩ => ⟨he, hw.symm⟩))))
                    refine wpQuiet_nil ?_
                    rintro w' ⟨k, rfl⟩
                    clear a16 a7 t16 t7
                    go_wp2_with fail
                    go_roundw
                    case rel =>
                      have e := wq_set b i
                      rw [HWh.out, ← q_next] at e
                      exact ⟨i + 1, by omega, by go_num, by rw [← e]; exact (hW.drewN k).set i _, (hF.drewN k).far g1 g2 g3 g4 _⟩
                    case measure => simp [intOf]; omega
                  · have e64 : i = 64 := by omega
                    rw [e64] at hW
                    have di64 : ¬ (i : Int) < 64 := by omega
                    clear e64 hi hi16 hi64
                    go_wp2_with (refine wp_append_q8 rfl (.tmp 120) rfl gh _ rfl (foldSt msg q) hF.H ?_; intro v5 w5 hown5 hb5)
                    obtain ⟨A5, c5, rfl⟩ := own_form hown5
                    obtain ⟨gs, rfl, hgs, hs⟩ := Lie.of_own (f := fun j => qw ((rnds (foldSt msg q) b 0).at j)) hown5 (by omega) (fun j hj => by
                      simp only [List.getElem?_map, List.getElem?_range hj, Option.map_some, rnds, St.of_at _ j hj])
                    have hW5 := hW.below hb5 hW.lt
                    have hF5 := hF.keep hb5
                    have hgw := hW.lt
                    have hgs2 : gw < gs := by omega
                    clear hown5 hb5 hW hF hgs hgw
                    go_wp2_with fail
                    go_loopw [13, 14, 15, 16, 17, 18] (fun cs ci _ _ _ _ wr => ∃ k gs c : Nat, k ≤ 64 ∧ cs = .slice (some ⟨gs, 0, none⟩) 8 c ∧ ci = .int .i64 k ∧ Lie wr gs 8 (fun j => qw ((rnds (foldSt msg q) b k).at j)) ∧ gw < gs ∧ Has wr gw 90 (tab 64 (wq b 64)) ∧ Fr w wr ga gh gp N msg (foldSt msg q))
                      (fun _ ci _ _ _ _ _ => 64 - (intOf ci).toNat)
                    case atStart => exact ⟨0, gs, _, by omega, rfl, rfl, hs, hgs2, hW5, hF5⟩
                    case round =>
                      clear hs hgs2 hW5 hF5
                      obtain ⟨k, gs, cs, hk, rfl, rfl, hs, hgs, hW, hF⟩ := hrel
                      by_cases hk64 : k < 64
                      · obtain ⟨st, hst⟩ : ∃ st, st = rnds (foldSt msg q) b k := ⟨_, rfl⟩
                        have hnx : rnds (foldSt msg q) b (k + 1) = st.step (KC k) (W b k) := by rw [hst]; rfl
                        have hs0 : ∀ j, j < 8 → wr.cell? ⟨gs, j, none⟩ = some (.int .u64 ((st.at j).toNat : Int)) := fun j hj => by rw [hst]; exact (hs.2 j hj).1
                        have c0 : wr.cell? ⟨gs, 0, none⟩ = some (.int .u64 (st.a.toNat : Int)) := hs0 0 (by omega)
                        have c1 : wr.cell? ⟨gs, 1, none⟩ = some (.int .u64 (st.b.toNat : Int)) := hs0 1 (by omega)
                        have c2 : wr.cell? ⟨gs, 2, none⟩ = some (.int .u64 (st.c.toNat : Int)) := hs0 2 (by omega)
                        have c3 : wr.cell? ⟨gs, 3, none⟩ = some (.int .u64 (st.d.toNat : Int)) := hs0 3 (by omega)
                        have c4 : wr.cell? ⟨gs, 4, none⟩ = some (.int .u64 (st.e.toNat : Int)) := hs0 4 (by omega)
                        have c5 : wr.cell? ⟨gs, 5, none⟩ = some (.int .u64 (st.f.toNat : Int)) := hs0 5 (by omega)
                        have c6 : wr.cell? ⟨gs, 6, none⟩ = some (.int .u64 (st.g.toNat : Int)) := hs0 6 (by omega)
                        have c7 : wr.cell? ⟨gs, 7, none⟩ = some (.int .u64 (st.h.toNat : Int)) := hs0 7 (by omega)
                        have ck : wr.cell? ⟨ga, k, none⟩ = some (.int .u64 ((KC k).toNat : Int)) := (hF.K.2 k (by omega)).1
                        have cw : wr.cell? ⟨gw, k, none⟩ = some (.int .u64 ((W b k).toNat : Int)) := (hW.cellTab k (by omega)).trans (by simp [wq, show k < 64 from hk64, qw])
                        obtain ⟨kk, hkk⟩ : ∃ kk, kk = KC k := ⟨_, rfl⟩
                        obtain ⟨ww, hww⟩ : ∃ ww, ww = W b k := ⟨_, rfl⟩
                        rw [← hkk] at ck hnx
                        rw [← hww] at cw hnx
                        have Hnx := Lib.hid hnx
                        have dk : (k : Int) < 64 := by omega
                        clear hs0 hst hnx hkk hww hs
                        go_wp2_with fail
                        go_quiet ((go_at_call 53; exact Calls.quiet_of_same ((right_int _ _ _ (by omega)).mono fun _ _ ⟨he, hw⟩ => ⟨he, hw.symm⟩)))
                        replace hW := hW.drewN nq
                        replace hF := hF.drewN nq
                        replace c0 := (show (wr.drewN nq).cell? _ = _ from c0)
                        replace c1 := (show (wr.drewN nq).cell? _ = _ from c1)
                        replace c2 := (show (wr.drewN nq).cell? _ = _ from c2)
                        replace c3 := (show (wr.drewN nq).cell? _ = _ from c3)
                        replace c4 := (show (wr.drewN nq).cell? _ = _ from c4)
                        replace c5 := (show (wr.drewN nq).cell? _ = _ from c5)
                        replace c6 := (show (wr.drewN nq).cell? _ = _ from c6)
                        replace c7 := (show (wr.drewN nq).cell? _ = _ from c7)
                        replace ck := (show (wr.drewN nq).cell? _ = _ from ck)
                        replace cw := (show (wr.drewN nq).cell? _ = _ from cw)
                        generalize hqq : Go.World.drewN _ nq = wr at *
                        clear hqq
                        go_wp2_with fail
                        go_quiet ((go_at_call 53; exact Calls.quiet_of_same ((right_int _ _ _ (by omega)).mono fun _ _ ⟨he, hw⟩ => ⟨he, hw.symm⟩)))
                        go_wp2_with fail
                        refine region_quiet_tail (fun w' => ∃ n, w' = wr.drewN n) 28 (by kernel_rfl) (by kernel_rfl) (drewN_ex _ _) ?_
                        simp only [List.take_succ_cons, List.take_zero, List.drop_succ_cons, List.drop_zero]
                        repeat (quiet_step (fail))
                        refine wpQuiet_nil ?_
                        rintro w' ⟨n5, rfl⟩
                        clear c0 c1 c2 c3 c4 c5 c6 c7 ck cw
                        go_wp2_with fail
                        go_roundw
                        case rel =>
                          refine ⟨k + 1, _, _, by omega, rfl, by go_num, ?_, ?_, (hW.drewN n5).alloc _, (hF.drewN n5).alloc _⟩
                          · rw [Hnx.out]
                            simp only [low_q2]
                            exact lie8 (Has.new' rfl)
                          · have := hW.lt
                            simp; omega
                        case measure => simp [intOf]; omega
                      · have e64 : k = 64 := by omega
                        rw [e64] at hs
                        have dk : ¬ (k : Int) < 64 := by omega
                        have hF0 : Fr w wr ga gh gp N msg (hmix (foldSt msg q) b 0) := hF.congr fun j _ => by simp [hmix]
                        have hgh3 : gh < gs := by omega
                        clear e64 hk hk64 hF hW
                        go_wp2_with fail
                        go_loopw [19] (fun ci wr => ∃ k : Nat, k ≤ 8 ∧ ci = .int .i64 k ∧ Lie wr gs 8 (fun j => qw ((rnds (foldSt msg q) b 64).at j)) ∧ Fr w wr ga gh gp N msg (hmix (foldSt msg q) b k))
                          (fun ci _ => 8 - (intOf ci).toNat)
                        case atStart => exact ⟨0, by omega, rfl, hs, hF0⟩
                        case round =>
                          as_aux_lemma =>
                          clear hs hF0
                          rename_i k0 _ _
                          obtain ⟨k, hk, rfl, hs, hF⟩ := hrel
                          by_cases hk8 : k < 8
                          · have c1 : wr.cell? ⟨gs, k, none⟩ = some (.int .u64 (((rnds (foldSt msg q) b 64).at k).toNat : Int)) := (hs.2 k hk8).1
                            have c0 : wr.cell? ⟨gh, k, none⟩ = some (.int .u64 ((foldSt msg q k).toNat : Int)) := (hF.H.2 k hk8).1.trans (by simp [hmix, qw])
                            have f0 : wr.frozen? ⟨gh, k, none⟩ = false := (hF.H.2 k hk8).2
                            have dk8 : (k : Int) < 8 := by omega
                            go_wp2_with fail
                            go_region
                            go_wp2_with fail
                            go_roundw
                            case rel =>
                              refine ⟨k + 1, by omega, by go_num, (hs.far (by show gs ≠ gh; omega) _).drewN 1, ?_⟩
                              rw [low_q2]
                              exact ((hF.setH hgah hghp hgh2 k hk8 (comp (foldSt msg q) b k)).congr fun j _ => hmix_set _ _ _ _).drewN 1
                            case measure => simp [intOf]; omega
                          · have e8 : k = 8 := by omega
                            rw [e8] at hF
                            have hF8 : Fr w wr ga gh gp N msg (foldSt msg (q + 1)) := hF.congr fun j hj => by simp [hmix, hj, foldSt, Hbd.out]
                            have dk8 : ¬ (k : Int) < 8 := by omega
                            have HAT2 : Hid (AT + 64 = 64 * (q + 1)) := Lib.hid (by have := HAT.out; omega)
                            clear e8 hk hk8 hF hs
                            go_wp2_with fail
                            go_roundw
                            case rel => exact ⟨q + 1, AT + 64, by omega, HAT2, by go_num, hF8⟩
                            case measure => simp [intOf]; omega
            · have eQ : q = Q := by omega
              have dA : ¬ (AT : Int) < (N : Int) := by have := HAT.out; have := HQ.out; omega
              obtain ⟨s, hsd⟩ : ∃ s, s = foldSt msg q := ⟨_, rfl⟩
              have hfin : ∀ j, shaOf bs j = dig s j := fun j => by
                unfold shaOf
                rw [← Hmd.out, ← HNt.out, HQ.out, hsd, eQ, Nat.mul_div_cancel_left _ (by omega)]
              rw [← hsd] at hF
              have Hfin := Lib.hid hfin
              clear hsd eQ hq hlt hfin
              go_wp2_with fail
              have hO := (Has.new' (w := wr) (t := 62) (cs := tab 32 zeroB) rfl)
              have hF1 := hF.alloc (.cells (tab 32 zeroB) 62)
              have hgo1 := hF.H.1
              have hgo2 := hF.R.lt
              obtain ⟨go, hgo⟩ : ∃ go, go = wr.heap.size := ⟨_, rfl⟩
              rw [← hgo] at hO hgo1 hgo2 ⊢
              generalize wr.alloc (.cells (tab 32 zeroB) 62) = wa at *
              have hH1 := hF1.H
              have hR1 := hF1.R
              have hB1 := hF1.B
              clear hF hF1 hgo
              go_loopw [21] (fun ci wr => ∃ k : Nat, k ≤ 32 ∧ ci = .int .i64 k ∧ Lie wr gh 8 (fun j => qw (s j)) ∧ Has wr w.heap.size 62 (tab 32 zeroB) ∧ Has wr go 62 (tab 32 (ob s k)) ∧ Below w.heap.size w wr)
                (fun ci _ => 32 - (intOf ci).toNat)
              case atStart => exact ⟨0, by omega, rfl, hH1, hR1, by rw [ob_zero]; exact hO, hB1⟩
              case round =>
                as_aux_lemma =>
                clear hH1 hR1 hB1 hO
                obtain ⟨k, hk, rfl, hH, hR, hO, hB⟩ := hrel
                by_cases hk32 : k < 32
                · have c0 : wr.cell? ⟨gh, k / 4, none⟩ = some (.int .u64 ((s (k / 4)).toNat : Int)) := (hH.2 (k / 4) (by omega)).1
                  have co := hO.cellTab k (by omega)
                  have fo := hO.free k
                  have dk : (k : Int) < 32 := by omega
                  go_wp2_with fail
                  go_roundw
                  case rel => exact ⟨k + 1, by omega, by go_num, hH.far (by show gh ≠ go; omega) _, hR.far (by show w.heap.size ≠ go; omega) _, by rw [← ob_set, ← dig_walk]; exact hO.set k _, hB.setCell (by show w.heap.size ≤ go; omega) _⟩
                  case measure => simp [intOf]; omega
                · have e32 : k = 32 := by omega
                  have hO2 : Has wr go 62 (tab 32 fun j => by8 (shaOf bs j)) := by
                    rw [tab_ext 32 _ (ob s k) fun j hj => by rw [Hfin.out j, e32]; simp [ob, hj]]; exact hO
                  have dk : ¬ (k : Int) < 32 := by omega
                  clear e32 hk hk32 hO
                  go_wp2_with (first | refine wpList_load_row rfl 62 _ rfl go rfl 62 _ _ _ hO2 Tryd.underlying62 rfl hz32 ?_ | refine wpList_store_row rfl 62 _ _ rfl w.heap.size _ rfl rfl 62 _ hR hz32 (by rw [tab_size, tab_size]) (tab_oneCell _ _ fun _ => rfl) ?_)
                  exact bodyPost_ret (v := .agg (tab 32 fun j => by8 (shaOf bs j))) (results_cell_row rfl _ _ w.heap.size 62 _ _ _ rfl (hR.setRow _) Tryd.underlying62 rfl hz32) rfl ⟨rfl, below_setRow hB (Nat.le_refl _) _⟩
end Go.Proofs.YtflkhlhpifmocaaDoor
