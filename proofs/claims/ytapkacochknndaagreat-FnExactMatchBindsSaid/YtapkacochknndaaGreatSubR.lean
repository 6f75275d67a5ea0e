/- Reading bindings into a map. -/
import Derived.Test.YtapkacochknndaaGreatSubM
import Derived.Test.YtapkacochknndaaGreatBinds
import Derived.Test.YtapkacochknndaaGreatAbsW3
set_option linter.unusedVariables false
set_option linter.unusedSimpArgs false
namespace Go.Proofs.YtapkacochknndaaGreat
open Go.Abs

def addB (m : List (BNm × VT)) (p : BNm) (v : VT) : List (BNm × VT) :=
  match lookB p m with
  | some _ => m
  | none => m ++ [(p, v)]
def foldB (bd : List (BNm × VT)) : List (BNm × VT) := bd.foldl (fun m q => addB m q.1 q.2) []
def ofB (q : BNm × VT) : BdI := ⟨q.1.1, q.1.2, toTy q.2⟩
def okQ (q : BNm × VT) : Prop := VOk q.2 ∧ nmB q.1.1 q.1.2 = true
def badB (b : BdI) : Prop := validB b.typ = false ∨ nmB b.mod b.name = false
theorem foldB_snoc (bd : List (BNm × VT)) (q : BNm × VT) : foldB (bd ++ [q]) = addB (foldB bd) q.1 q.2 := by simp [foldB]

theorem takeB {bs : List BdI} {i : Nat} {bd : List (BNm × VT)} {b : BdI} {v : VT} (h : i < bs.length) (hb : bs.getD i bd0 = b) (ht : b.typ = toTy v) (hbd : bs.take i = bd.map ofB) : bs.take (i + 1) = (bd ++ [((b.mod, b.name), v)]).map ofB := by
  rw [bd_take h, hbd, hb, List.map_append]
  obtain ⟨m, n, t⟩ := b
  have ht' : t = toTy v := ht
  subst ht'
  rfl

end Go.Proofs.YtapkacochknndaaGreat
