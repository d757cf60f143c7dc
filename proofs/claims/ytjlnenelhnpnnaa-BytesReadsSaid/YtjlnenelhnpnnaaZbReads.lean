/-
BytesReads of the landed package bytes: a cursor over any bytes returns the right bytes and integers, in any order of calls, for every input, whatever its size: no condition.
-/
import Derived.Test.YtjlnenelhnpnnaaByS
import Derived.Test.YtjlnenelhnpnnaaPkD
namespace Go.Proofs.Ytjlnenelhnpnnaa

theorem bytesReads_of_landed : Rows.BytesReadsSaid := bytesReads.said bytes_ok
end Go.Proofs.Ytjlnenelhnpnnaa
