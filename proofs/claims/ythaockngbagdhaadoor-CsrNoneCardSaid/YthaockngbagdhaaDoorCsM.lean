/-
Layer 15: CsrNone over what package csr's calls answer.
-/
import Derived.Test.YthaockngbagdhaaDoorCsL
namespace Go.Proofs.YthaockngbagdhaaDoor.Cs
open Go Go.RowKit
open Go.Proofs.YthaockngbagdhaaDoor.Pm (En Sl SlC SlE enV en0 TabT)

set_option maxRecDepth 100000 in
set_option maxHeartbeats 8000000 in
theorem none15_ok {Is : World → Nat → St → Prop} (O : CsrOK Is) (K : CsrNil) (n x : Nat) (q : Sl) (w : World) (hT : TabT w) (_hn : n < 4294967296) (_hx : x < 4294967296) :
    Calls Tryd.prog 4 #[.int .u32 (n : Int), .int .u32 (x : Int), q.v] w fun e w' => e = .returned (.bool true) ∧ Below w.heap.size w w' := by
  have hF := fit15_ok O w hT
  obtain ⟨A, m, c⟩ := q
  have k10 := fun W => K.protect W ⟨A, m, c⟩
  unfold Sl.v at k10 ⊢
  dsimp only at k10 ⊢
  have HC : ∀ {a b c : World}, Below a.heap.size a b → Below b.heap.size b c → Below a.heap.size a c := fun h k => below_trans h k
  go_enter Tryd.func4, Tryd.ntmps4
  go_upto_region 3 with (go_at_call 5; refine hF.mono ?_; rintro e w1 ⟨rfl, hb1⟩)
  clear hF
  have HB1 := Lib.hid hb1
  clear hb1
  go_upto_region 5 with (go_at_call 10; refine (K.read _ n).mono ?_; rintro e w2 ⟨rfl, hb2⟩)
  have HB2 := Lib.hid (HC HB1.out hb2)
  clear hb2
  go_upto_region 6 with (go_at_call 14; refine (K.timer _).mono ?_; rintro e w3 ⟨rfl, hb3⟩)
  have HB3 := Lib.hid (HC HB2.out hb3)
  clear hb3
  go_upto_region 7 with (go_at_call 15; refine (K.tick _).mono ?_; rintro e w4 ⟨rfl, hb4⟩)
  have HB4 := Lib.hid (HC HB3.out hb4)
  clear hb4
  go_wp2_with (first
    | (go_at_call 16; refine (K.write _ n x).mono ?_; rintro e w5 ⟨rfl, hb5⟩)
    | (go_at_call 17; refine (K.may _ n).mono ?_; rintro e w6 ⟨rfl, hb6⟩)
    | (go_at_call 11; refine (K.due _).mono ?_; rintro e w7 ⟨rfl, hb7⟩)
    | (go_at_call 12; refine (K.trap _ n x n).mono ?_; rintro e w8 ⟨rfl, hb8⟩)
    | (go_at_call 13; refine (K.back _).mono ?_; rintro e w9 ⟨rfl, hb9⟩)
    | (go_at_call 18; refine (K.entries _).mono ?_; rintro e w10 ⟨⟨A', c', rfl⟩, hb10⟩)
    | (go_at_call 19; refine (k10 _).mono ?_; rintro e w11 ⟨rfl, hb11⟩)
    | (go_at_call 20; refine (K.may1 _ n).mono ?_; rintro e w12 ⟨rfl, hb12⟩))
  go_ret
  exact ⟨rfl, HC (HC (HC (HC (HC (HC (HC (HC HB4.out hb5) hb6) hb7) hb8) hb9) hb10) hb11) hb12⟩
end Go.Proofs.YthaockngbagdhaaDoor.Cs
