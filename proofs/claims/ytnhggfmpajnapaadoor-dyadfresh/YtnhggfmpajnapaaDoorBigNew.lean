
/- What the document's SetInt64, NewInt (of numbers not below 0) do. -/
import Derived.Test.YtnhggfmpajnapaaDoorBigSelf
namespace Go.Proofs.YtnhggfmpajnapaaDoor
open Go.RowKit Go.IntWalk

end Go.Proofs.YtnhggfmpajnapaaDoor
