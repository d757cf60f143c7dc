/-
AluReckons of the landed code: operations answer what the document says, for every input; no condition.
-/
import Derived.Test.YtdkdbphcliblcaaAvA
namespace Go.Proofs.Ytdkdbphcliblcaa

theorem aluReckons_of_landed : Rows.AluReckonsSaid := aluReckons.said
end Go.Proofs.Ytdkdbphcliblcaa
