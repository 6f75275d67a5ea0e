/- The model's texts of types. -/
import Derived.Test.YtmgppdedcciogaaGreatTxt
import Derived.Test.YtmgppdedcciogaaGreatAbsW3
set_option linter.unusedVariables false
set_option linter.unusedSimpArgs false
namespace Go.Proofs.YtmgppdedcciogaaGreat
open Go.Abs




/-! ### the program's own -/
end Go.Proofs.YtmgppdedcciogaaGreat
