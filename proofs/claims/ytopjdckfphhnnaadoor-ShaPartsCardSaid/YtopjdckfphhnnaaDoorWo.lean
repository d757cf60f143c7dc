import Derived.Test.YtopjdckfphhnnaaDoorWm
import Derived.Test.YtopjdckfphhnnaaDoorWj
namespace Go.Proofs.YtopjdckfphhnnaaDoor
open Go.RowKit

set_option maxRecDepth 100000 in
set_option maxHeartbeats 1000000 in
theorem sums_long (A : Option Addr) (n c : Nat) (w : World) (hT : Tabs w) (h1 : 2000 < n) :
    Calls Tryd.prog 3 #[.slice A n c] w fun e w' => e = .returned (.bool true) ∧ Below w.heap.size w w' := by
  have hb : (2000 : Int) < (n : Int) := by omega
  go_enter Tryd.func3, Tryd.ntmps3
  go_wp2_with (go_at_call 6; refine (fit_any _ hT).mono ?_; rintro e w1 ⟨rfl, hb1⟩)
  go_ret
  exact ⟨rfl, hb1⟩

set_option maxRecDepth 100000 in
set_option maxHeartbeats 1000000 in
theorem sums_any (bs : List UInt8) (A : Option Addr) (n c : Nat) (w : World) (hT : Tabs w) (hS : SlA w A n c bs) (hnil : A = none → c = 0) (h1 : n ≤ 2000) :
    Calls Tryd.prog 3 #[.slice A n c] w fun e w' => e = .returned (.bool true) ∧ Below w.heap.size w w' := by
  have hb : ¬ (2000 : Int) < (n : Int) := by omega
  have hl : bs.length ≤ 1000000 := by have := hS.1; omega
  have HT := Lib.hid hT
  clear hT
  have heX := eql_digest bs
  have hm : Tryd.prog.eqGuardType Tryd.prog.depth 24 = false := by kernel_rfl
  go_enter Tryd.func3, Tryd.ntmps3
  go_wp2_with (go_at_call 6; refine (fit_any _ HT.out).mono ?_; rintro e w1 ⟨rfl, hb1⟩)
  refine (of_any bs _ _ _ w1 (HT.out.below hb1) (hS.below hb1) hl).mono ?_
  rintro e w2 ⟨rfl, hb2⟩
  have hb12 := hb1.trans (hb2.mono hb1.size)
  go_wp2_with fail
  refine (ref_any bs _ _ _ w2 (hS.below hb12) hnil h1).mono ?_
  rintro e w3 ⟨rfl, hb3⟩
  have hb13 := hb12.trans (hb3.mono hb12.size)
  clear hb1 hb2 hb12 hb3
  go_wp2_with fail
  go_ret
  exact ⟨rfl, hb13⟩
end Go.Proofs.YtopjdckfphhnnaaDoor
