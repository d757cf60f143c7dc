/-
PlaceRuns of the landed code: call by call memory has the bytes that were written, and nothing else, for every input; no condition.
-/
import Derived.Test.YtdifapdppdcidaaPlS
namespace Go.Proofs.Ytdifapdppdcidaa

theorem placeRuns_of_landed : Rows.PlaceRunsSaid := placeRuns.said
end Go.Proofs.Ytdifapdppdcidaa
