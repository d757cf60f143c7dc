/-
BytesBack of the landed package bytes: integers are read as they were written, for every input, whatever its size: no condition.
-/
import Derived.Test.YtjlnenelhnpnnaaByS
import Derived.Test.YtjlnenelhnpnnaaPkD
namespace Go.Proofs.Ytjlnenelhnpnnaa

theorem bytesBack_of_landed : Rows.BytesBackSaid := bytesBack.said bytes_ok
end Go.Proofs.Ytjlnenelhnpnnaa
