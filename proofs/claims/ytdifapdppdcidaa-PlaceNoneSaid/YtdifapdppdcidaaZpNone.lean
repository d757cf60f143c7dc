/-
PlaceNone of the landed code: a memory that is none has nothing, for every input; no condition.
-/
import Derived.Test.YtdifapdppdcidaaPlI
namespace Go.Proofs.Ytdifapdppdcidaa

theorem placeNone_of_landed : Rows.PlaceNoneSaid := placeNone.said
end Go.Proofs.Ytdifapdppdcidaa
