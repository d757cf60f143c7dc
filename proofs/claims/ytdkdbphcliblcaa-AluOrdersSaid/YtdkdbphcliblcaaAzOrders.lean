/-
AluOrders of the landed code: exchanged operands answer alike, for every input; no condition.
-/
import Derived.Test.YtdkdbphcliblcaaAvE
namespace Go.Proofs.Ytdkdbphcliblcaa

theorem aluOrders_of_landed : Rows.AluOrdersSaid := aluOrders.said
end Go.Proofs.Ytdkdbphcliblcaa
