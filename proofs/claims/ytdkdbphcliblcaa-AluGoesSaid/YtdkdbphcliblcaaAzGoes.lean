/-
AluGoes of the landed code: branches, widths and widened words are as the document has them, for every input; no condition.
-/
import Derived.Test.YtdkdbphcliblcaaAvB
namespace Go.Proofs.Ytdkdbphcliblcaa

theorem aluGoes_of_landed : Rows.AluGoesSaid := aluGoes.said
end Go.Proofs.Ytdkdbphcliblcaa
