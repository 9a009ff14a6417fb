
/- There and back, in plain arithmetic: fields, parts. -/
import Derived.Test.YtfeojdmffipinaaDoorPartsAll
import Derived.Test.YtfeojdmffipinaaDoorWordAll
import Derived.Test.YtfeojdmffipinaaDoorFieldsLaw
namespace Go.Proofs.YtfeojdmffipinaaDoor
open Go Go.RowKit Go.IntWalk

theorem join_split (x : Nat) (hx : x < 18446744073709551616) : joinOf (negOf x) (expOf x : Int) (fracOf x) = canonOf x ∧ joinErr (expOf x : Int) (fracOf x) = 0 := by
  have h1 := exp_lt x
  have h2 := frac_lt x
  have hb : ¬ joinBad (expOf x : Int) (fracOf x) := by unfold joinBad; omega
  unfold joinOf joinErr
  rw [if_neg hb, if_neg hb]
  refine ⟨?_, rfl⟩
  have e : ((expOf x : Int)).toNat = expOf x := by omega
  rw [e, fields_back x hx, canon_canon]

end Go.Proofs.YtfeojdmffipinaaDoor
