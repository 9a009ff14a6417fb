
/- What the document's Parts does: what anatomy's does. -/
import Derived.Test.YtpjdmhidhllbkaaDoorP21
import Derived.Test.YtpjdmhidhllbkaaDoorP27
import Derived.Test.YtpjdmhidhllbkaaDoorP15
namespace Go.Proofs.YtpjdmhidhllbkaaDoor
open Go.RowKit Go.IntWalk

end Go.Proofs.YtpjdmhidhllbkaaDoor
