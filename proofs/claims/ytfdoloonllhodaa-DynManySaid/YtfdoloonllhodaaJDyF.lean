/-
Layer 9: the law's example; any bytes.
-/
import Derived.Test.YtfdoloonllhodaaJDyE
namespace Go.Proofs.Ytfdoloonllhodaa
open Go Go.RowKit

theorem plain_read : readN (plainN [1, 2, 3, 4]) = ⟨0, [⟨0, 8, 5, [1, 2, 3, 4]⟩], [], [], 0⟩ := by decide +kernel
set_option maxRecDepth 100000 in
set_option maxHeartbeats 1000000 in
theorem fit9_any (H : DynOK) (w : World) : Calls Try.prog 7 #[] w fun e w' => e = .returned (.bool true) ∧ Below w.heap.size w w' := by
  go_enter Try.func7, Try.ntmps7
  go_wp2_with fail
  have hG : Has (w.alloc (.cells #[.int .u8 1, .int .u8 2, .int .u8 3, .int .u8 4] 5)) w.heap.size 5 (([1, 2, 3, 4] : List UInt8).map by8).toArray := Has.new _ _ _
  have hb : Below w.heap.size w (w.alloc (.cells #[.int .u8 1, .int .u8 2, .int .u8 3, .int .u8 4] 5)) := (Below.refl _ _).alloc (Nat.le_refl _) _
  generalize w.alloc (.cells #[.int .u8 1, .int .u8 2, .int .u8 3, .int .u8 4] 5) = u1 at *
  have hR1 : RowB u1 (.slice (some ⟨w.heap.size, 0, none⟩) 4 4) [1, 2, 3, 4] := rowB_at (fr := (0, 0)) rfl hG
  refine (plain_any [1, 2, 3, 4] (some ⟨w.heap.size, 0, none⟩) 4 4 u1 hR1.slA.1 hR1.slA.2 (by decide)).mono ?_
  rintro e u2 ⟨⟨A2, n2, c2, rfl, hR2, hc2⟩, hb2⟩
  replace hb := below_trans hb hb2
  clear hG hR1 hb2
  go_wp2_with fail
  refine (H.read_ok (plainN [1, 2, 3, 4]) A2 n2 c2 u2 hR2.slA.1 hR2.slA.2 hc2 (by rw [plainN_len]; decide)).mono ?_
  rw [plain_read]
  rintro e u3 ⟨⟨s, r, y, rfl, hs, hr, hy⟩, hb3⟩
  replace hb := below_trans hb hb3
  obtain ⟨A3, n3, c3, rfl⟩ := s.out
  obtain ⟨A4, n4, c4, rfl⟩ := r.out
  obtain ⟨A5, n5, c5, rfl⟩ := y.out
  have hn3 : n3 = 1 := hs.1.symm
  have hn4 : n4 = 0 := hr.1.symm
  have hn5 : n5 = 0 := hy.1.symm
  subst hn3 hn4 hn5
  rw [show fiC 0 ⟨A3, 1, c3⟩ ⟨A4, 0, c4⟩ ⟨A5, 0, c5⟩ = #[.int .u32 0, .slice A3 1 c3, .slice A4 0 c4, .slice A5 0 c5] from rfl]
  clear hR2 hc2 hb3 hs hr hy
  go_wp2_with fail
  go_ret
  exact ⟨rfl, hb.alloc hb.size _⟩
set_option maxRecDepth 100000 in
set_option maxHeartbeats 1000000 in
theorem reads9_ok (H : DynOK) (bs : List UInt8) (A : Option Addr) (n c : Nat) (w : World) (hS : SlA w A n c bs) (hA : A = none → c = 0) (hc : c < 9223372036854775808) :
    Calls Try.prog 4 #[.slice A n c] w fun e w' => e = .returned (.bool true) ∧ Below w.heap.size w w' := by
  have hl : bs.length = n := hS.1
  go_enter Try.func4, Try.ntmps4
  go_wp2_with fail
  refine (fit9_any H w).mono ?_
  rintro e u1 ⟨rfl, hb⟩
  replace hS := hS.below hb
  by_cases hbig : (4000 : Int) < (n : Int)
  · have HL := Lib.hid hl
    clear hl
    go_wp2_with fail
    go_ret
    exact ⟨rfl, hb⟩
  · have hbig' : (n : Int) ≤ 4000 := by omega
    have k := like_any H bs A n c u1 hS hA hc (by omega)
    have HL := Lib.hid hl
    clear hl hbig
    go_wp2_with (refine k.mono ?_; rintro e u2 ⟨rfl, hb2⟩)
    go_ret
    exact ⟨rfl, below_trans hb hb2⟩
end Go.Proofs.Ytfdoloonllhodaa
