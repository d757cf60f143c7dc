/-
ElfSafe holds of the landed code, for every input; no condition.
-/
import Derived.Test.YtoplknankmomcaaEmE
import Derived.Test.YtoplknankmomcaaElS
namespace Go.Proofs.Ytoplknankmomcaa
open Go

theorem elfSafe_of_landed : Rows.ElfSafeSaid := elfSafe.said elf_ok
end Go.Proofs.Ytoplknankmomcaa
