
/- What the document's Round does with a whole number and nothing below it. (Written by mkr2r.py.) -/
import Derived.Test.YtpgcelbgmpfliaaDoorQ25
namespace Go.Proofs.YtpgcelbgmpfliaaDoor
open Go.RowKit Go.IntWalk

/-- The document's magnitude. -/
def docR64 (m : Nat) (e mode : Int) (neg : Bool) : Nat := @ite Nat (rOver 53 (-1022) 1023 m e mode neg) (rOverD 53 (-1022) 1023 m e mode neg) (overM64 neg mode) (docMag 53 (-1074) (rSteps 53 (-1022) m e mode neg) (rUnit 53 (-1022) m e))
end Go.Proofs.YtpgcelbgmpfliaaDoor
