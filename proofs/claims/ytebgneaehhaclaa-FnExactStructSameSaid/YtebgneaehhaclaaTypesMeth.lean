/- The methods that measure a valid type, and the functions that read one. -/
import Derived.Test.YtebgneaehhaclaaAbsW3
import Derived.Test.YtebgneaehhaclaaTypesVal
set_option linter.unusedVariables false
set_option linter.unusedSimpArgs false
namespace Go.Proofs.Ytebgneaehhaclaa
open Go.Abs

def DepM (v : VT) : Prop := ∀ A, ACalls Try.prog ((pickF 0 0 0) v) [vX v] A (fun r A' => r = .int .i64 (dep v) ∧ A' = A)
def CntM (v : VT) : Prop := ∀ A, ACalls Try.prog ((pickF 0 0 0) v) [vX v] A (fun r A' => r = .int .i64 (cnt v) ∧ A' = A)

end Go.Proofs.Ytebgneaehhaclaa
