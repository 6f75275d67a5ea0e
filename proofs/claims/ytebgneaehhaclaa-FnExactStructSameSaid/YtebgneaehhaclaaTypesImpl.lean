/- Types as trees: what the program's own functions read of them. -/
import Derived.Test.YtebgneaehhaclaaAbsW3
import Derived.Test.YtebgneaehhaclaaTypes
set_option linter.unusedVariables false
set_option linter.unusedSimpArgs false
namespace Go.Proofs.Ytebgneaehhaclaa
open Go.Abs

def ifA : Option (TypeId × AV) → AV
  | none => .nili
  | some (t, x) => .iface t x
def pairUp : List (Option (TypeId × AV) × Bool) → Option (TypeId × AV) × Bool
  | [(x, true), (y, ok)] => (some (0, .agg [ifA x, ifA y]), ok)
  | _ => (none, false)
mutual
def readO : Ty → Int → Option (TypeId × AV) × Bool
  | .mk k m n ks, d =>
    if 8 < d then (none, false)
    else if k = 1 then (some (0, .agg []), (decide (m = []) && decide (n = [])) && decide ((ks.length : Int) = 0))
    else if k = 2 then (if m = [] then if n = [] then pairUp (readOs ks (d + 1)) else (none, false) else (none, false))
    else if k = 3 then (some (0, .agg [.str m, .str n]), ((decide (m = []) || moduleB m) && localB n) && decide ((ks.length : Int) = 0))
    else (none, false)
def readOs : List Ty → Int → List (Option (TypeId × AV) × Bool)
  | [], _ => []
  | t :: l, d => readO t d :: readOs l d
end
theorem readOs_length (l : List Ty) (d : Int) : (readOs l d).length = l.length := by
  induction l with
  | nil => rfl
  | cons t l ih => rw [readOs, List.length_cons, ih, List.length_cons]
theorem pairUp_no {l : List (Option (TypeId × AV) × Bool)} (h : ¬ (l.length : Int) = 2) : pairUp l = (none, false) := by
  match l, h with
  | [], _ => rfl
  | [_], _ => simp [pairUp]
  | [_, _], h => exact absurd rfl h
  | _ :: _ :: _ :: _, _ => simp [pairUp]

def ReadT (t : Ty) : Prop := ∀ (d : Int) (A : List Box), 0 ≤ d → d ≤ 9 → ACalls Try.prog 0 [.agg (enc t), .int .i64 d] A (fun v A' => v = .tuple [ifA (readO t d).1, .bool (readO t d).2] ∧ A' = A)


end Go.Proofs.Ytebgneaehhaclaa
