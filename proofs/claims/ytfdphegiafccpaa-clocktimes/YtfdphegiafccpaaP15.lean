
/- What the document's Lsh does, where a number is shifted itself. -/
import Derived.Test.YtfdphegiafccpaaP13
import Derived.Deep.RegionWith
namespace Go.Proofs.Ytfdphegiafccpaa
open Go.RowKit Go.IntWalk

end Go.Proofs.Ytfdphegiafccpaa
