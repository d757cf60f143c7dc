/-
BytesPlaces of the landed package bytes: Within and Apart compute with integers that do not wrap around, for every input, whatever its size: no condition.
-/
import Derived.Test.YtjlnenelhnpnnaaByS
import Derived.Test.YtjlnenelhnpnnaaPkD
namespace Go.Proofs.Ytjlnenelhnpnnaa

theorem bytesPlaces_of_landed : Rows.BytesPlacesSaid := bytesPlaces.said bytes_ok
end Go.Proofs.Ytjlnenelhnpnnaa
