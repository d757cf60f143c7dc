/-
The digest of abc, by the kernel.
-/
import Derived.Test.YtopjdckfphhnnaaDoorShaM
namespace Go.Proofs.YtopjdckfphhnnaaDoor
open Go
theorem abc : (shaOf [97, 98, 99] 0, shaOf [97, 98, 99] 1, shaOf [97, 98, 99] 31) = (186, 120, 173) := by decide +kernel
end Go.Proofs.YtopjdckfphhnnaaDoor
