
/- What the document's Round does with a whole number and nothing below it. (Written by mkr2r.py.) -/
import Derived.Test.YtpgcelbgmpfliaaDoorQ25
namespace Go.Proofs.YtpgcelbgmpfliaaDoor
open Go.RowKit Go.IntWalk

/-- The document's magnitude. -/
def docR32 (m : Nat) (e mode : Int) (neg : Bool) : Nat := @ite Nat (rOver 24 (-126) 127 m e mode neg) (rOverD 24 (-126) 127 m e mode neg) (overM32 neg mode) (docMag 24 (-149) (rSteps 24 (-126) m e mode neg) (rUnit 24 (-126) m e))
end Go.Proofs.YtpgcelbgmpfliaaDoor
