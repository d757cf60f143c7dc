/-
Layer 9, the reference: the tags of a section.
-/
import Derived.Test.YtfdoloonllhodaaJDyB
import Derived.BigQuiet
namespace Go.Proofs.Ytfdoloonllhodaa
open Go Go.RowKit

def lenOf (v : Value) : Nat := match v with
  | .slice _ n _ => n
  | _ => 0
theorem infoP2 : (Try.prog.info? 110).map (fun i => (i.zero, i.size, i.bytes)) = some (some (.agg (tab 2 (prR (0, 0)))), 2, 16) := by kernel_rfl
theorem prR_lit (x y : Nat) : (#[.int .i64 (x : Int), .int .i64 (y : Int)] : Array Value) = tab 2 (prR (x, y)) := by kernel_rfl
/-- the tags' loop -/
structure TgO (w0 : World) (b : List UInt8) (A : Option Addr) (n c gc : Nat) (v : Value) (i : Nat) (l : List (Nat × Nat)) (w : World) : Prop where
  own : w.ownsRow w0.heap.size 110 2 v i (cellsL 2 prR l)
  cur : DcA w0 b A n c gc (8 * i) w
  len : l.length = i
  go : tagsGo b (b.length / 8 + 1 - i) (8 * i) l = tagsN b
  le : i ≤ b.length / 8
/-- what 'tags' answers -/
def TgR (w : World) (b : List UInt8) (e : Ending) (w' : World) : Prop :=
  (∃ A m k, e = .returned (.tuple #[.slice A m k, .bool (tagsN b).isSome]) ∧ w'.ownsRow w.heap.size 110 2 (.slice A m k) m (cellsL 2 prR ((tagsN b).getD []))) ∧ Below w.heap.size w w'
theorem tgR_none {w w' : World} {b : List UInt8} (h : tagsN b = none) (hb : Below w.heap.size w w') : TgR w b (.returned (.tuple #[.slice none 0 0, .bool false])) w' := by
  unfold TgR
  rw [h]
  exact ⟨⟨none, 0, 0, rfl, World.ownsRow_nil _ _ _ _⟩, hb⟩
theorem slC_p2 {w : World} {base i c : Nat} {A : Option Addr} {l : List (Nat × Nat)} (h : w.ownsRow base 110 2 (.slice A i c) i (cellsL 2 prR l)) (hi : i ≤ 140737488355328) : SlP2 w ⟨A, i, c⟩ l := own_slC h (by decide) hi (0, 0)
set_option maxRecDepth 100000 in
set_option maxHeartbeats 4000000 in
theorem rtags_any (b : List UInt8) (A : Option Addr) (n c : Nat) (w : World) (hS : SlA w A n c b) (hA : A = none → c = 0) (hc63 : c < 9223372036854775808) (hl : b.length ≤ 100000) :
    Calls Try.prog 22 #[.slice A n c] w fun e w' => TgR w b e w' := by
  have HL := Lib.hid hl
  go_enter Try.func22, Try.ntmps22
  go_wp2_with fail
  have hD : DcA w b A n c w.heap.size 0 (w.alloc (.cells #[.slice A n c, .int .i64 0, .bool false] 91)) := DcA.new hS hA hc63 ((Below.refl _ _).alloc (Nat.le_refl _) _) (Nat.zero_le _) (Has.new _ _ _) (Nat.le_refl _)
  generalize (w.alloc (.cells #[.slice A n c, .int .i64 0, .bool false] 91)) = u at *
  obtain ⟨gc, hgc⟩ : ∃ x, x = w.heap.size := ⟨_, rfl⟩
  have hgcB : w.heap.size ≤ gc := by omega
  rw [← hgc] at hD ⊢
  clear hgc
  have HI : Hid (TgO w b A n c gc (.slice none 0 0) 0 [] u) := Lib.hid ⟨World.ownsRow_nil _ _ _ _, hD, rfl, rfl, Nat.zero_le _⟩
  clear hD hS hl
  go_loopw [4] (fun va wr => ∃ (i : Nat) (l : List (Nat × Nat)), TgO w b A n c gc va i l wr) (fun va _ => b.length / 8 + 1 - lenOf va)
  case atStart => exact ⟨0, [], HI.out⟩
  case round =>
    obtain ⟨i, l, hO⟩ := hrel
    clear HI
    obtain ⟨Av, cv, rfl⟩ := own_form hO.own
    have k1 := hO.cur.num4
    have HO := Lib.hid hO
    have hi8 : i ≤ 100000 := by have := hO.le; have := HL.out; omega
    have hgo := hO.go
    have hfu : b.length / 8 + 1 - i = (b.length / 8 - i) + 1 := by have := hO.le; omega
    rw [hfu] at hgo
    conv at hgo => lhs; unfold tagsGo
    obtain ⟨x, hx⟩ : ∃ x, x = nm b 4 (8 * i) := ⟨_, rfl⟩
    obtain ⟨y, hy⟩ : ∃ y, y = nm b 4 (8 * i + 4) := ⟨_, rfl⟩
    rw [← hx] at k1 hgo
    rw [← hy] at hgo
    have HX := Lib.hid hx
    have HY := Lib.hid hy
    have HGO := Lib.hid hgo
    clear hO hgo hfu hx hy
    go_wp2_with fail
    refine k1.mono ?_
    rintro e w1 ⟨rfl, hD1, hg1⟩
    have k2 := hD1.num4
    rw [← HY.out] at k2
    clear k1
    go_wp2_with fail
    refine k2.mono ?_
    rintro e w2 ⟨rfl, hD2, hg2⟩
    change DcA w b A n c gc (8 * i + 8) w2 at hD2
    clear k2
    have hbad := hD2.bad
    have hbel := hD2.bel
    obtain ⟨cs0, hcur0⟩ := HO.out.cur.curE
    obtain ⟨cs1, hcur1⟩ := hD1.curE
    have hown := own_other (own_other HO.out.own hcur0 (by decide) hg1) hcur1 (by decide) hg2
    have HOW := Lib.hid hown
    have HD2 := Lib.hid hD2
    clear hD1 hg1 hg2 hcur0 hcur1 hown hD2
    by_cases h8 : b.length < 8 * i + 8
    · rw [decide_eq_true h8] at hbad
      have HN : Hid (tagsN b = none) := Lib.hid (by rw [← HGO.out, if_pos h8])
      clear h8
      go_wp2_with fail
      go_ret2
      exact tgR_none HN.out hbel
    · rw [decide_eq_false h8] at hbad
      have HG1 := Lib.hid ((if_neg h8).symm.trans HGO.out)
      have hle8 : i + 1 ≤ b.length / 8 := by omega
      have HLE := Lib.hid hle8
      clear h8 hle8
      by_cases hx0 : x = 0
      · have hxb : ((x : Int) == 0) = true := by simp [hx0]
        have HN : Hid (tagsN b = some l) := Lib.hid ((if_pos hx0).symm.trans HG1.out).symm
        clear hx0
        go_wp2_with fail
        go_ret2
        exact ⟨⟨Av, i, cv, by rw [HN.out]; rfl, by rw [HN.out]; exact HOW.out⟩, hbel⟩
      · have hxb : ((x : Int) == 0) = false := by simp; omega
        have HG2 := Lib.hid ((if_neg hx0).symm.trans HG1.out)
        have kV := rval_any l ⟨Av, i, cv⟩ x w2 (slC_p2 HOW.out (by omega)) (by rw [HO.out.len]; exact hi8)
        rw [show Sl.v ⟨Av, i, cv⟩ = .slice Av i cv from rfl] at kV
        clear hx0
        obtain ⟨vs, hvs⟩ : ∃ v, v = (valN l x).isSome := ⟨_, rfl⟩
        rw [← hvs] at kV
        have HVS := Lib.hid hvs
        clear hvs
        go_wp2_with fail
        refine kV.mono ?_
        rintro e w3 ⟨rfl, rfl⟩
        clear kV
        cases vs with
        | true =>
          have HN : Hid (tagsN b = none) := Lib.hid ((if_pos HVS.out.symm).symm.trans HG2.out).symm
          go_wp2_with fail
          go_ret2
          exact tgR_none HN.out hbel
        | false =>
          have HG3 := Lib.hid ((if_neg (by rw [← HVS.out]; decide)).symm.trans HG2.out)
          have hws := hbel.size
          go_wp2_with (first
            | (refine wp_build_el Try.underlying84 infoP2 (by decide) (by decide) rfl _ rfl (x, y) (congrArg Value.agg (prR_lit x y)) ?_
               intro w6 hw6
               have hb6 : Below w2.heap.size w2 w6 := by subst hw6; exact (Below.refl _ _).alloc (Nat.le_refl _) _
               have hH6 : Has w6 w2.heap.size 110 (tab 2 (prR (x, y))) := by subst hw6; exact Has.new _ _ _
               have hown6 := own_after HOW.out hb6
               have hD6 := HD2.out.after hb6
               have hws6 := Nat.le_trans hws hb6.size
               clear hw6)
            | (refine wp_append_el Try.underlying84 infoP2 rfl (by decide) (by decide) prR_one rfl _ _ rfl w.heap.size _ i l rfl hown6 w2.heap.size rfl (x, y) hH6 (by omega) hws6 ?_
               intro v7 w7 hown7 hgr7))
          go_roundw
          case rel =>
            refine ⟨i + 1, l ++ [(x, y)], hown7, hD6.own hown6 (Nat.le_refl _) (by decide) hgr7, by rw [List.length_append, HO.out.len]; rfl, ?_, HLE.out⟩
            rw [show b.length / 8 + 1 - (i + 1) = b.length / 8 - i by omega, show 8 * (i + 1) = 8 * i + 8 by omega]
            exact HG3.out
          case measure =>
            obtain ⟨A7, c7, rfl⟩ := own_form hown7
            have := HLE.out
            show b.length / 8 + 1 - (i + 1) < b.length / 8 + 1 - i
            omega
end Go.Proofs.Ytfdoloonllhodaa
