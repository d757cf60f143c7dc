/-
ElfParts holds of the landed code, for every input; no condition.
-/
import Derived.Test.YtoplknankmomcaaEmE
import Derived.Test.YtoplknankmomcaaElS
namespace Go.Proofs.Ytoplknankmomcaa
open Go

theorem elfParts_of_landed : Rows.ElfPartsSaid := elfParts.said elf_ok
end Go.Proofs.Ytoplknankmomcaa
