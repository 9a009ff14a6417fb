
/- What the document's Parts does: what anatomy's does. -/
import Derived.Test.YtpjdmhidhllbkaaDoorP20
import Derived.Test.YtpjdmhidhllbkaaDoorP26
import Derived.Test.YtpjdmhidhllbkaaDoorP14
namespace Go.Proofs.YtpjdmhidhllbkaaDoor
open Go.RowKit Go.IntWalk

end Go.Proofs.YtpjdmhidhllbkaaDoor
