/-
Layer 7: the law's own manifest of one payload.
-/
import Derived.Test.YtoplknankmomcaaMfJ
import Derived.Test.YtoplknankmomcaaEnE
namespace Go.Proofs.Ytoplknankmomcaa
open Go Go.RowKit

def g1 : Gr := ⟨2147487744, 4096, 5⟩
def g2 : Gr := ⟨2147491840, 4096, 3⟩
def pay1 : Pay := ⟨List.replicate 32 0, 0, 2147487744, [g1, g2], 255⟩
def man1 : Man := ⟨3, 0, [pay1]⟩
theorem man1_right : rightM man1 = 0 := by decide +kernel
theorem one_pay (k : Nat) : (#[.int .u8 0, .int .u8 0, .int .u8 0, .int .u8 0, .int .u8 0, .int .u8 0, .int .u8 0, .int .u8 0, .int .u8 0, .int .u8 0, .int .u8 0, .int .u8 0, .int .u8 0, .int .u8 0, .int .u8 0, .int .u8 0, .int .u8 0, .int .u8 0, .int .u8 0, .int .u8 0, .int .u8 0, .int .u8 0, .int .u8 0, .int .u8 0, .int .u8 0, .int .u8 0, .int .u8 0, .int .u8 0, .int .u8 0, .int .u8 0, .int .u8 0, .int .u8 0, .int .u32 0, .int .u32 2147487744, .slice (some ⟨k, 0, none⟩) 2 2, .int .i64 255] : Array Value) = tab 36 (payV pay1 ⟨some ⟨k, 0, none⟩, 2, 2⟩) := by rfl
end Go.Proofs.Ytoplknankmomcaa
