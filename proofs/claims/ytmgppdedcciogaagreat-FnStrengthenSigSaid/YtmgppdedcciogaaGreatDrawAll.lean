/- The drawn arguments of the laws about types. -/
import Derived.Test.YtmgppdedcciogaaGreatDrawMut
import Derived.Test.YtmgppdedcciogaaGreatAbsW3
set_option linter.unusedVariables false
set_option linter.unusedSimpArgs false
namespace Go.Proofs.YtmgppdedcciogaaGreat
open Go.Abs


theorem sz_dep4 {v : VT} (h : okV v = true) (hd : dep v ≤ 4) : sz (toTy v) ≤ 30 := by
  have h1 := sz_toTy v h
  have h2 := cnt_lt hd
  omega


end Go.Proofs.YtmgppdedcciogaaGreat
