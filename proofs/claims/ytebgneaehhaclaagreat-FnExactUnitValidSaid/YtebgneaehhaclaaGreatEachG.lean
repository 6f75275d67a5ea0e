/- The program's walk over the names of a type, for any visit. -/
import Derived.Test.YtebgneaehhaclaaGreatSigSpec
import Derived.Test.YtebgneaehhaclaaGreatTypesMeth
import Derived.Test.YtebgneaehhaclaaGreatAbsW3
set_option linter.unusedVariables false
set_option linter.unusedSimpArgs false
namespace Go.Proofs.YtebgneaehhaclaaGreat
open Go.Abs

section
variable {σ : Type}
def foldV (f : Nm → σ → σ) : VT → σ → σ
  | .num, s => s
  | .nm m k, s => f (m, k) s
  | .fn a b, s => foldV f b (foldV f a s)
/-- a visit keeps what it should -/
structure Vis (sz : σ → Nat) (I : σ → List Box → Prop) (F : List Box → List Box → Prop) (f : Nm → σ → σ) (g : FuncId) (cap : List AV) : Prop where
  call : callable Tryz.prog g = true
  vis : ∀ (p : Nm) (s : σ) (A : List Box), nmB p.1 p.2 = true → sz s ≤ 1000 → I s A → ACalls Tryz.prog g (.agg [.str p.1, .str p.2] :: cap) A (fun _ A' => I (f p s) A' ∧ F A A')
  app : ∀ (s : σ) (A B : List Box), I s A → I s (A ++ B) ∧ F A (A ++ B)
  grow : ∀ p s, sz (f p s) ≤ sz s + 1
  trans : ∀ A B C : List Box, F A B → F B C → F A C
  box : ∀ (s : σ) (A A' : List Box) (c : Box), I s A → F (A ++ [c]) A' → A'.getD A.length .dead = c

theorem foldV_sz {sz : σ → Nat} {I : σ → List Box → Prop} {F : List Box → List Box → Prop} {f : Nm → σ → σ} {g : FuncId} {cap : List AV} (hv : Vis sz I F f g cap) : ∀ (v : VT) (s : σ), sz (foldV f v s) ≤ sz s + cnt v
  | .num, s => by simp [foldV]
  | .nm m k, s => by simp only [foldV, cnt]; exact hv.grow _ _
  | .fn a b, s => by have h1 := foldV_sz hv a s; have h2 := foldV_sz hv b (foldV f a s); simp only [foldV, cnt]; omega

def EachG (sz : σ → Nat) (I : σ → List Box → Prop) (F : List Box → List Box → Prop) (f : Nm → σ → σ) (g : FuncId) (cap : List AV) (v : VT) : Prop :=
  ∀ (s : σ) (A : List Box), okV v = true → sz s + cnt v ≤ 1000 → I s A → ACalls Tryz.prog ((pickF 297 304 253) v) [vX v, .func (.func g) [] cap] A (fun _ A' => I (foldV f v s) A' ∧ F A A')

set_option maxRecDepth 100000 in
theorem numG {sz : σ → Nat} {I : σ → List Box → Prop} {F : List Box → List Box → Prop} {f : Nm → σ → σ} {g : FuncId} {cap : List AV} (hv : Vis sz I F f g cap) : EachG sz I F f g cap .num := fun s A ho hz h => by
  show ACalls Tryz.prog 297 _ _ _
  rw [vX]
  refine acalls_enterK (cf := cf 4 [0]) foll Tryz.func297 Tryz.ntmps297 (by simp [cf]) ?_
  simp only [Tryz.f297, EnterK_some, zW, zX, zD, builtinA, isLeaf, const1, ustrA, simprocAttr, ti315, cf, Tryz.results297]
  exact hv.app _ _ _ h
set_option maxRecDepth 100000 in
theorem nameG {sz : σ → Nat} {I : σ → List Box → Prop} {F : List Box → List Box → Prop} {f : Nm → σ → σ} {g : FuncId} {cap : List AV} (hv : Vis sz I F f g cap) (m k : List UInt8) : EachG sz I F f g cap (.nm m k) := fun s A ho hz h => by
  show ACalls Tryz.prog 253 _ _ _
  rw [vX]
  have hc := hv.call
  obtain ⟨h1, f1⟩ := hv.app _ _ [.cells [.str m, .str k]] h
  simp only [cnt] at hz
  have hvv := hv.vis (m, k) s _ ho (by omega) h1
  refine acalls_enterK (cf := cf 7 [0, 1, 2]) foll Tryz.func253 Tryz.ntmps253 (by simp [cf]) ?_
  simp only [Tryz.f253, EnterK_some, zW, zX, zD, builtinA, isLeaf, const1, ustrA, simprocAttr, ti237, cf, Tryz.results253]
  refine wpO_callv _ _ _ _ _ _ _ _ _ _ _ _ _ _ _ ?_
  simp only [zW, zX, zD, builtinA, isLeaf, const1, ustrA, simprocAttr, ti237, cf, Tryz.results253]
  refine ⟨hc, callO_intro (by simpa using hvv) ?_⟩
  rintro r A' ⟨h2, f2⟩
  simp only [zW, zX, zD, builtinA, isLeaf, const1, ustrA, simprocAttr, ti237, cf, Tryz.results253]
  exact ⟨h2, hv.trans _ _ _ f1 f2⟩
set_option maxRecDepth 100000 in
theorem funG {sz : σ → Nat} {I : σ → List Box → Prop} {F : List Box → List Box → Prop} {f : Nm → σ → σ} {g : FuncId} {cap : List AV} (hv : Vis sz I F f g cap) (a b : VT) (ha : EachG sz I F f g cap a) (hb : EachG sz I F f g cap b) : EachG sz I F f g cap (.fn a b) := fun s A ho hz h => by
  show ACalls Tryz.prog 304 _ _ _
  rw [vX]
  simp only [okV, Bool.and_eq_true] at ho
  simp only [cnt] at hz
  obtain ⟨h1, f1⟩ := hv.app _ _ [.cells [.iface (vT a) (vX a), .iface (vT b) (vX b)]] h
  refine acalls_enterK (cf := cf 12 [0, 1, 2]) foll Tryz.func304 Tryz.ntmps304 (by simp [cf]) ?_
  simp only [Tryz.f304, EnterK_some, zW, zX, zD, builtinA, isLeaf, const1, ustrA, simprocAttr, ti219, ti327, cf, Tryz.results304]
  refine wpO_invoke _ _ _ _ _ _ _ _ _ _ _ _ _ _ _ _ ?_
  simp only [zW, zX, zD, builtinA, isLeaf, const1, ustrA, simprocAttr, ti219, ti327, cf, Tryz.results304]
  refine meth_invK (met3 (by kernel_rfl) (by kernel_rfl) (by kernel_rfl) (by kernel_rfl) (by kernel_rfl) (by kernel_rfl)) (ha s _ ho.1 (by omega) h1) rfl (fun _ => rfl) ?_
  rintro r A1 ⟨h2, f2⟩
  have b1 := hv.box _ _ _ _ h f2
  simp only [zW, zX, zD, builtinA, isLeaf, const1, ustrA, simprocAttr, ti219, ti327, cf, Tryz.results304, b1]
  refine wpO_invoke _ _ _ _ _ _ _ _ _ _ _ _ _ _ _ _ ?_
  simp only [zW, zX, zD, builtinA, isLeaf, const1, ustrA, simprocAttr, ti219, ti327, cf, Tryz.results304]
  refine meth_invK (met3 (by kernel_rfl) (by kernel_rfl) (by kernel_rfl) (by kernel_rfl) (by kernel_rfl) (by kernel_rfl)) (hb _ _ ho.2 (by have := foldV_sz hv a s; omega) h2) rfl (fun _ => rfl) ?_
  rintro r A2 ⟨h3, f3⟩
  simp only [zW, zX, zD, builtinA, isLeaf, const1, ustrA, simprocAttr, ti219, ti327, cf, Tryz.results304]
  exact ⟨h3, hv.trans _ _ _ f1 (hv.trans _ _ _ f2 f3)⟩
theorem eachG {sz : σ → Nat} {I : σ → List Box → Prop} {F : List Box → List Box → Prop} {f : Nm → σ → σ} {g : FuncId} {cap : List AV} (hv : Vis sz I F f g cap) : ∀ v, EachG sz I F f g cap v
  | .num => numG hv
  | .nm m k => nameG hv m k
  | .fn a b => funG hv a b (eachG hv a) (eachG hv b)
end
end Go.Proofs.YtebgneaehhaclaaGreat
