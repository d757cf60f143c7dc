/-
BytesNone of the landed package bytes: a nil cursor has failed, for every input, whatever its size: no condition.
-/
import Derived.Test.YtjlnenelhnpnnaaByS
import Derived.Test.YtjlnenelhnpnnaaPkD
namespace Go.Proofs.Ytjlnenelhnpnnaa

theorem bytesNone_of_landed : Rows.BytesNoneSaid := bytesNone.said bytes_ok
end Go.Proofs.Ytjlnenelhnpnnaa
