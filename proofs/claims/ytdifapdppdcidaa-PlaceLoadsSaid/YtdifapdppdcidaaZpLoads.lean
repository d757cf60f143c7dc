/-
PlaceLoads of the landed code: what is loaded is each segment's bytes, and zeros behind; no other byte changes, for every input; no condition.
-/
import Derived.Test.YtdifapdppdcidaaPlT
namespace Go.Proofs.Ytdifapdppdcidaa

theorem placeLoads_of_landed : Rows.PlaceLoadsSaid := placeLoads.said
end Go.Proofs.Ytdifapdppdcidaa
