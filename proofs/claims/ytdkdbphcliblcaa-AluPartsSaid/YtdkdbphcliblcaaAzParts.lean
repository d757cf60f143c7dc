/-
AluParts of the landed code: quotients and rests, and the halves of products, make the numbers again, for every input; no condition.
-/
import Derived.Test.YtdkdbphcliblcaaAvC
namespace Go.Proofs.Ytdkdbphcliblcaa

theorem aluParts_of_landed : Rows.AluPartsSaid := aluParts.said
end Go.Proofs.Ytdkdbphcliblcaa
