/-
AluShifts of the landed code: shifts there and back leave the bits that stayed, for every input; no condition.
-/
import Derived.Test.YtdkdbphcliblcaaAvD
namespace Go.Proofs.Ytdkdbphcliblcaa

theorem aluShifts_of_landed : Rows.AluShiftsSaid := aluShifts.said
end Go.Proofs.Ytdkdbphcliblcaa
