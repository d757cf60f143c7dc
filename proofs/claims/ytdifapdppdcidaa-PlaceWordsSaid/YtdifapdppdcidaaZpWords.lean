/-
PlaceWords of the landed code: a number that is stored is loaded in parts of any width, for every input; no condition.
-/
import Derived.Test.YtdifapdppdcidaaPlI
namespace Go.Proofs.Ytdifapdppdcidaa

theorem placeWords_of_landed : Rows.PlaceWordsSaid := placeWords.said
end Go.Proofs.Ytdifapdppdcidaa
