/-
ElfReads holds of the landed code, for every input; no condition.
-/
import Derived.Test.YtoplknankmomcaaEmE
import Derived.Test.YtoplknankmomcaaElS
namespace Go.Proofs.Ytoplknankmomcaa
open Go

theorem elfReads_of_landed : Rows.ElfReadsSaid := elfReads.said elf_ok
end Go.Proofs.Ytoplknankmomcaa
