/- The program's walk through an expression, and MaxFree. -/
import Derived.Test.YtebgneaehhaclaaGreatExRead3
import Derived.Test.YtebgneaehhaclaaGreatExNode
import Derived.Test.YtebgneaehhaclaaGreatExSpec
import Derived.Test.YtebgneaehhaclaaGreatAbsW3
set_option linter.unusedVariables false
set_option linter.unusedSimpArgs false
namespace Go.Proofs.YtebgneaehhaclaaGreat
open Go.Abs

theorem frzC_vxE (x : VE) (A : List Box) : frzC (vxE x) A = some (vxE x, A) := by cases x <;> rfl
def pickE (f1 f2 f3 f4 f5 f6 f7 : FuncId) : VE → FuncId
  | .var _ => f1
  | .num _ => f2
  | .nm _ _ => f3
  | .fn _ _ => f4
  | .app _ _ => f5
  | .add _ _ => f6
  | .ite _ _ _ => f7
structure MetE (name : String) (gs : VE → FuncId) : Prop where
  find : ∀ v, methA Tryz.prog (vtE v) name = some (gs v)
  call : ∀ v, callable Tryz.prog (gs v) = true
theorem metE7 {name : String} {f1 f2 f3 f4 f5 f6 f7 : FuncId}
    (h1 : methA Tryz.prog 290 name = some f1) (h2 : methA Tryz.prog 291 name = some f2) (h3 : methA Tryz.prog 292 name = some f3) (h4 : methA Tryz.prog 295 name = some f4)
    (h5 : methA Tryz.prog 297 name = some f5) (h6 : methA Tryz.prog 299 name = some f6) (h7 : methA Tryz.prog 301 name = some f7)
    (c1 : callable Tryz.prog f1 = true) (c2 : callable Tryz.prog f2 = true) (c3 : callable Tryz.prog f3 = true) (c4 : callable Tryz.prog f4 = true) (c5 : callable Tryz.prog f5 = true) (c6 : callable Tryz.prog f6 = true) (c7 : callable Tryz.prog f7 = true) : MetE name (pickE f1 f2 f3 f4 f5 f6 f7) :=
  ⟨fun v => match v with
    | .var _ => h1
    | .num _ => h2
    | .nm _ _ => h3
    | .fn _ _ => h4
    | .app _ _ => h5
    | .add _ _ => h6
    | .ite _ _ _ => h7,
   fun v => match v with
    | .var _ => c1
    | .num _ => c2
    | .nm _ _ => c3
    | .fn _ _ => c4
    | .app _ _ => c5
    | .add _ _ => c6
    | .ite _ _ _ => c7⟩
theorem methE_invK {own ow : FuncId → Bool} {name : String} {gs : VE → FuncId} {v : VE} {args args' : List AV} {A A1 : List Box} {R : AV → List Box → Prop} {N : Nat} {ops : Array Oper} {Q : Env → List Box → Prop} {rest : List Oper} {d : Option Tmp} {e : Env}
    (hm : MetE name gs) (h : ACalls Tryz.prog (gs v) (vxE v :: args') A1 R) (hf : frzs args A = some (args', A1)) (ho : ∀ g, own g = false)
    (hk : ∀ r A', R r A' → wpO Tryz.prog ow N ops Q rest (putA N d r e) A') : InvK Tryz.prog own name (.iface (vtE v) (vxE v)) args A (ContO Tryz.prog ow N ops Q rest d e) := by
  have h1 := hm.find v
  have h2 := hm.call v
  generalize gs v = g at h h1 h2
  refine ⟨g, h1, h2, callK_intro (args' := vxE v :: args') (A1 := A1) ?_ h hk (ho g)⟩
  simp only [frzs, frzC_vxE, hf]

def OpsM (v : VE) : Prop := ∀ A, ACalls Tryz.prog ((pickE 261 266 271 276 281 286 291) v) [vxE v] A (fun r A' => r = .slice (rowsV (kidsE v)) ∧ A' = A)
set_option maxRecDepth 100000 in
theorem var_ops (i : Int) : OpsM (.var i) := fun A => by
  show ACalls Tryz.prog 261 _ _ _
  rw [vxE]
  refine acalls_enter (cf := cf 3 [0, 2]) foll Tryz.func261 Tryz.ntmps261 (by simp [cf]) ?_
  simp only [Tryz.f261, EnterK_some, zW, zX, zD, builtinA, isLeaf, const1, ustrA, simprocAttr, ti290, cf, Tryz.results261]
  try simp [rowsV, kidsE]
set_option maxRecDepth 100000 in
theorem num_ops (i : Int) : OpsM (.num i) := fun A => by
  show ACalls Tryz.prog 266 _ _ _
  rw [vxE]
  refine acalls_enter (cf := cf 3 [0, 2]) foll Tryz.func266 Tryz.ntmps266 (by simp [cf]) ?_
  simp only [Tryz.f266, EnterK_some, zW, zX, zD, builtinA, isLeaf, const1, ustrA, simprocAttr, ti291, cf, Tryz.results266]
  try simp [rowsV, kidsE]
set_option maxRecDepth 100000 in
theorem nm_ops (m n : List UInt8) : OpsM (.nm m n) := fun A => by
  show ACalls Tryz.prog 271 _ _ _
  rw [vxE]
  refine acalls_enter (cf := cf 3 [0, 2]) foll Tryz.func271 Tryz.ntmps271 (by simp [cf]) ?_
  simp only [Tryz.f271, EnterK_some, zW, zX, zD, builtinA, isLeaf, const1, ustrA, simprocAttr, ti292, cf, Tryz.results271]
  try simp [rowsV, kidsE]
set_option maxRecDepth 100000 in
theorem fn_ops (t : VT) (b : VE) : OpsM (.fn t b) := fun A => by
  show ACalls Tryz.prog 276 _ _ _
  rw [vxE]
  refine acalls_enter (cf := cf 6 [0, 1, 2]) foll Tryz.func276 Tryz.ntmps276 (by simp [cf]) ?_
  simp only [Tryz.f276, EnterK_some, zW, zX, zD, builtinA, isLeaf, const1, ustrA, simprocAttr, ti98, ti268, ti295, cf, Tryz.results276]
  try simp [rowsV, kidsE, ifE]
set_option maxRecDepth 100000 in
theorem app_ops (a b : VE) : OpsM (.app a b) := fun A => by
  show ACalls Tryz.prog 281 _ _ _
  rw [vxE]
  refine acalls_enter (cf := cf 8 [0, 1, 2]) foll Tryz.func281 Tryz.ntmps281 (by simp [cf]) ?_
  simp only [Tryz.f281, EnterK_some, zW, zX, zD, builtinA, isLeaf, const1, ustrA, simprocAttr, ti98, ti268, ti297, cf, Tryz.results281]
  try simp [rowsV, kidsE, ifE]
set_option maxRecDepth 100000 in
theorem add_ops (a b : VE) : OpsM (.add a b) := fun A => by
  show ACalls Tryz.prog 286 _ _ _
  rw [vxE]
  refine acalls_enter (cf := cf 8 [0, 1, 2]) foll Tryz.func286 Tryz.ntmps286 (by simp [cf]) ?_
  simp only [Tryz.f286, EnterK_some, zW, zX, zD, builtinA, isLeaf, const1, ustrA, simprocAttr, ti98, ti268, ti299, cf, Tryz.results286]
  try simp [rowsV, kidsE, ifE]
set_option maxRecDepth 100000 in
theorem ite_ops (c a b : VE) : OpsM (.ite c a b) := fun A => by
  show ACalls Tryz.prog 291 _ _ _
  rw [vxE]
  refine acalls_enter (cf := cf 10 [0, 1, 2]) foll Tryz.func291 Tryz.ntmps291 (by simp [cf]) ?_
  simp only [Tryz.f291, EnterK_some, zW, zX, zD, builtinA, isLeaf, const1, ustrA, simprocAttr, ti98, ti268, ti301, cf, Tryz.results291]
  try simp [rowsV, kidsE, ifE]
theorem opsM (v : VE) : OpsM v := by
  cases v with
  | var i => exact var_ops i
  | num i => exact num_ops i
  | nm m n => exact nm_ops m n
  | fn t b => exact fn_ops t b
  | app a b => exact app_ops a b
  | add a b => exact add_ops a b
  | ite c a b => exact ite_ops c a b

/-! ### the walk -/
section
variable {σ : Type} (f : VE → Int → σ → σ)
def walkF : VE → Int → σ → σ
  | .var i, d, s => f (.var i) d s
  | .num i, d, s => f (.num i) d s
  | .nm m n, d, s => f (.nm m n) d s
  | .fn t b, d, s => walkF b (d + 1) (f (.fn t b) d s)
  | .app a b, d, s => walkF b d (walkF a d (f (.app a b) d s))
  | .add a b, d, s => walkF b d (walkF a d (f (.add a b) d s))
  | .ite c a b, d, s => walkF b d (walkF a d (walkF c d (f (.ite c a b) d s)))
def walkI (v : VE) (d : Int) (s : σ) (i : Nat) : σ := ((kidsE v).take i).foldl (fun s k => walkF f k (inE v d) s) (f v d s)
theorem walkI_zero (v : VE) (d : Int) (s : σ) : walkI f v d s 0 = f v d s := by simp [walkI]
theorem walkI_all (v : VE) (d : Int) (s : σ) : walkI f v d s (kidsE v).length = walkF f v d s := by
  cases v <;> simp [walkI, kidsE, walkF, inE, kindE]
theorem walkI_succ {v : VE} {d : Int} {s : σ} {i : Nat} (h : i < (kidsE v).length) : walkI f v d s (i + 1) = walkF f ((kidsE v).getD i ve0) (inE v d) (walkI f v d s i) := by
  have e : (kidsE v).take (i + 1) = (kidsE v).take i ++ [(kidsE v).getD i ve0] := by rw [List.take_add_one]; simp [List.getD, h]
  unfold walkI
  rw [e, List.foldl_append]
  rfl
end
theorem rowsV_getD {vs : List VE} {i : Nat} (h : i < vs.length) : (rowsV vs).getD i [] = [ifE (vs.getD i ve0)] := by simp [rowsV, List.getD, h]

theorem assert_fn (v : VE) : ∃ a b, ∀ A, assertA 295 [.nili, .nili] (.iface (vtE v) (vxE v)) A = some (True, .tuple [.agg [a, b], .bool (decide (kindE v = 4))], A) := by
  cases v <;> exact ⟨_, _, fun _ => rfl⟩
/-- what a visit does to what it keeps -/
def VisM {σ : Type} (I : σ → List Box → Prop) (f : VE → Int → σ → σ) (g : FuncId) (cap : List AV) : Prop :=
  ∀ (v : VE) (d : Int) (s : σ) (A : List Box), okE v → 0 ≤ d → d ≤ 1000 → I s A → ACalls Tryz.prog g (ifE v :: .int .i64 d :: cap) A (fun _ A' => I (f v d s) A')

set_option maxRecDepth 100000 in
set_option maxHeartbeats 1000000 in
theorem impl_walk {σ : Type} (I : σ → List Box → Prop) (hI : ∀ s A L, I s A → I s (A ++ L)) (f : VE → Int → σ → σ) (g : FuncId) (hg : callable Tryz.prog g = true) (cap : List AV) (hv : VisM I f g cap) (v : VE) :
    ∀ (d : Int) (s : σ) (A : List Box), okE v → 0 ≤ d → d + depE v ≤ 1000 → I s A → ACalls Tryz.prog 230 [ifE v, .int .i64 d, .func (.func g) [] cap] A (fun _ A' => I (walkF f v d s) A') := by
  induction v using VE.indK with
  | h v ih =>
    intro d s A ho h0 h1 hs
    have hdp := depE_pos v
    have hvis := hv v d s A ho h0 (by omega) hs
    have hw : IntKind.i64.wrap (d + 1) = d + 1 := wrap64 (by omega) (by omega)
    have hl := rowsV_length (kidsE v)
    have hk3 := kidsE_le v
    obtain ⟨ca, cb, has⟩ := assert_fn v
    rw [ifE] at hvis ⊢
    refine acalls_enterK (cf := cf 34 [0, 1, 2, 7, 9, 19, 23, 24, 25, 26]) foll Tryz.func230 Tryz.ntmps230 (by simp [cf]) ?_
    simp only [Tryz.f230, EnterK_some, zW, zX, zD, builtinA, isLeaf, const1, ustrA, simprocAttr, ti3, ti98, ti268, ti295, ca230, za295, cf, Tryz.results230]
    refine wpO_callv _ _ _ _ _ _ _ _ _ _ _ _ _ _ _ ?_
    simp only [zW, zX, zD, builtinA, isLeaf, const1, ustrA, simprocAttr, ti3, ti98, ti268, ti295, ca230, za295, cf, Tryz.results230, List.nil_append]
    refine ⟨hg, callO_intro (by simpa using hvis) ?_⟩
    rintro r A1 hI1
    have hI2 := hI _ _ [.cells [ca, cb]] hI1
    have go : ∀ (e : Env), True := fun _ => trivial
    by_cases k4 : kindE v = 4
    · have hin : inE v d = d + 1 := by rw [inE, if_pos k4]
      simp only [zW, zX, zD, builtinA, isLeaf, const1, ustrA, simprocAttr, ti3, ti98, ti268, ti295, ca230, za295, cf, Tryz.results230, wpO_typeAssert, has, decide_eq_true k4, hw]
      refine wpO_invoke _ _ _ _ _ _ _ _ _ _ _ _ _ _ _ _ ?_
      simp only [zW, zX, zD, builtinA, isLeaf, const1, ustrA, simprocAttr, ti3, ti98, ti268, ti295, ca230, za295, cf, Tryz.results230]
      refine methE_invK (metE7 (by kernel_rfl) (by kernel_rfl) (by kernel_rfl) (by kernel_rfl) (by kernel_rfl) (by kernel_rfl) (by kernel_rfl) (by kernel_rfl) (by kernel_rfl) (by kernel_rfl) (by kernel_rfl) (by kernel_rfl) (by kernel_rfl) (by kernel_rfl)) (opsM v _) rfl (fun _ => rfl) ?_
      rintro r A2 ⟨rfl, rfl⟩
      simp only [zW, zX, zD, builtinA, isLeaf, const1, ustrA, simprocAttr, ti3, ti98, ti268, ti295, ca230, za295, cf, Tryz.results230, hl]
      refine aloop_intro [1, 2, 23, 24, 25] (fun e A' => ∃ j, j ≤ (kidsE v).length ∧ e = [(1, .int .i64 (inE v d)), (2, .func (.func g) [] cap), (23, .slice (rowsV (kidsE v))), (24, .int .i64 ((kidsE v).length : Nat)), (25, .int .i64 (j : Nat))] ∧ I (walkI f v d s j) A') (fun e _ => (kidsE v).length - (intOf (Abs.look 25 e)).toNat) ?_ ?_
      · exact ⟨0, by omega, by rw [hin]; rfl, by rw [walkI_zero]; exact hI2⟩
      · rintro e A3 ⟨j, hj, rfl, hI3⟩
        by_cases hlt : j < (kidsE v).length
        · have dl : decide ((j : Int) < ((kidsE v).length : Nat)) = true := decide_eq_true (by omega)
          have hgt := rowsV_getD hlt
          have hm := kid_mem hlt
          have hdk := depE_kid hm
          have hi1 : IntKind.i64.wrap ((j : Int) + 1) = ((j + 1 : Nat) : Int) := by rw [wrap64 (by omega) (by omega)]; rfl
          have hrec := ih _ hm (inE v d) (walkI f v d s j) A3 (okE_kid ho hm) (by rw [hin]; omega) (by rw [hin]; omega) hI3
          rw [← walkI_succ f hlt] at hrec
          rw [ifE] at hgt hrec
          simp only [zW, zX, zD, builtinA, isLeaf, const1, ustrA, simprocAttr, ti3, ti98, ti268, ti295, ca230, za295, cf, Tryz.results230, hl, dl, hgt]
          refine ⟨⟨by omega, by omega⟩, callO_intro hrec ?_⟩
          rintro r A4 hI4
          simp only [zW, zX, zD, builtinA, isLeaf, const1, ustrA, simprocAttr, ti3, ti98, ti268, ti295, ca230, za295, cf, Tryz.results230, hi1, LoopK_eq]
          refine ⟨⟨j + 1, by omega, rfl, hI4⟩, ?_⟩
          simp only [intOf]
          omega
        · have dl : decide ((j : Int) < ((kidsE v).length : Nat)) = false := decide_eq_false (by omega)
          have : j = (kidsE v).length := by omega
          subst this
          rw [walkI_all] at hI3
          simp only [zW, zX, zD, builtinA, isLeaf, const1, ustrA, simprocAttr, ti3, ti98, ti268, ti295, ca230, za295, cf, Tryz.results230, hl, dl]
          exact hI3
    · have hin : inE v d = d := by rw [inE, if_neg k4]
      simp only [zW, zX, zD, builtinA, isLeaf, const1, ustrA, simprocAttr, ti3, ti98, ti268, ti295, ca230, za295, cf, Tryz.results230, wpO_typeAssert, has, decide_eq_false k4, hw]
      refine wpO_invoke _ _ _ _ _ _ _ _ _ _ _ _ _ _ _ _ ?_
      simp only [zW, zX, zD, builtinA, isLeaf, const1, ustrA, simprocAttr, ti3, ti98, ti268, ti295, ca230, za295, cf, Tryz.results230]
      refine methE_invK (metE7 (by kernel_rfl) (by kernel_rfl) (by kernel_rfl) (by kernel_rfl) (by kernel_rfl) (by kernel_rfl) (by kernel_rfl) (by kernel_rfl) (by kernel_rfl) (by kernel_rfl) (by kernel_rfl) (by kernel_rfl) (by kernel_rfl) (by kernel_rfl)) (opsM v _) rfl (fun _ => rfl) ?_
      rintro r A2 ⟨rfl, rfl⟩
      simp only [zW, zX, zD, builtinA, isLeaf, const1, ustrA, simprocAttr, ti3, ti98, ti268, ti295, ca230, za295, cf, Tryz.results230, hl]
      refine aloop_intro [1, 2, 23, 24, 25] (fun e A' => ∃ j, j ≤ (kidsE v).length ∧ e = [(1, .int .i64 (inE v d)), (2, .func (.func g) [] cap), (23, .slice (rowsV (kidsE v))), (24, .int .i64 ((kidsE v).length : Nat)), (25, .int .i64 (j : Nat))] ∧ I (walkI f v d s j) A') (fun e _ => (kidsE v).length - (intOf (Abs.look 25 e)).toNat) ?_ ?_
      · exact ⟨0, by omega, by rw [hin]; rfl, by rw [walkI_zero]; exact hI2⟩
      · rintro e A3 ⟨j, hj, rfl, hI3⟩
        by_cases hlt : j < (kidsE v).length
        · have dl : decide ((j : Int) < ((kidsE v).length : Nat)) = true := decide_eq_true (by omega)
          have hgt := rowsV_getD hlt
          have hm := kid_mem hlt
          have hdk := depE_kid hm
          have hi1 : IntKind.i64.wrap ((j : Int) + 1) = ((j + 1 : Nat) : Int) := by rw [wrap64 (by omega) (by omega)]; rfl
          have hrec := ih _ hm (inE v d) (walkI f v d s j) A3 (okE_kid ho hm) (by rw [hin]; omega) (by rw [hin]; omega) hI3
          rw [← walkI_succ f hlt] at hrec
          rw [ifE] at hgt hrec
          simp only [zW, zX, zD, builtinA, isLeaf, const1, ustrA, simprocAttr, ti3, ti98, ti268, ti295, ca230, za295, cf, Tryz.results230, hl, dl, hgt]
          refine ⟨⟨by omega, by omega⟩, callO_intro hrec ?_⟩
          rintro r A4 hI4
          simp only [zW, zX, zD, builtinA, isLeaf, const1, ustrA, simprocAttr, ti3, ti98, ti268, ti295, ca230, za295, cf, Tryz.results230, hi1, LoopK_eq]
          refine ⟨⟨j + 1, by omega, rfl, hI4⟩, ?_⟩
          simp only [intOf]
          omega
        · have dl : decide ((j : Int) < ((kidsE v).length : Nat)) = false := decide_eq_false (by omega)
          have : j = (kidsE v).length := by omega
          subst this
          rw [walkI_all] at hI3
          simp only [zW, zX, zD, builtinA, isLeaf, const1, ustrA, simprocAttr, ti3, ti98, ti268, ti295, ca230, za295, cf, Tryz.results230, hl, dl]
          exact hI3

/-! ### MaxFree -/
def maxF (v : VE) (d m : Int) : Int := if kindE v = 1 then (if nE v + 1 - d > m then nE v + 1 - d else m) else m
theorem walk_max : ∀ (v : VE) (d m : Int), okE v → 0 ≤ d → 0 ≤ m → walkF maxF v d m = max m (mostE v d)
  | .var i, d, m, h, hd, hm => by
    simp only [okE] at h
    have e : walkF maxF (.var i) d m = if i + 1 - d > m then i + 1 - d else m := by rw [walkF, maxF, if_pos (show kindE (.var i) = 1 from rfl)]; rfl
    rw [e, mostE]
    by_cases h1 : d ≤ i
    · rw [if_pos h1]
      by_cases h2 : i + 1 - d > m
      · rw [if_pos h2]; omega
      · rw [if_neg h2]; omega
    · rw [if_neg h1]
      by_cases h2 : i + 1 - d > m
      · rw [if_pos h2]; omega
      · rw [if_neg h2]; omega
  | .num _, d, m, h, hd, hm => by simp [walkF, maxF, kindE, mostE]; omega
  | .nm _ _, d, m, h, hd, hm => by simp [walkF, maxF, kindE, mostE]; omega
  | .fn t b, d, m, h, hd, hm => by
    have e : maxF (.fn t b) d m = m := by simp [maxF, kindE]
    rw [walkF, e, walk_max b (d + 1) m h.2 (by omega) hm, mostE]
    have := mostE_le b (d + 1) h.2 (by omega); omega
  | .app a b, d, m, h, hd, hm => by
    have e : maxF (.app a b) d m = m := by simp [maxF, kindE]
    have ha := mostE_le a d h.1 hd
    rw [walkF, e, walk_max a d m h.1 hd hm, walk_max b d _ h.2 hd (by omega), mostE]
    have := mostE_le b d h.2 hd; omega
  | .add a b, d, m, h, hd, hm => by
    have e : maxF (.add a b) d m = m := by simp [maxF, kindE]
    have ha := mostE_le a d h.1 hd
    rw [walkF, e, walk_max a d m h.1 hd hm, walk_max b d _ h.2 hd (by omega), mostE]
    have := mostE_le b d h.2 hd; omega
  | .ite c a b, d, m, h, hd, hm => by
    have e : maxF (.ite c a b) d m = m := by simp [maxF, kindE]
    have hc := mostE_le c d h.1 hd
    have ha := mostE_le a d h.2.1 hd
    rw [walkF, e, walk_max c d m h.1 hd hm, walk_max a d _ h.2.1 hd (by omega), walk_max b d _ h.2.2 hd (by omega), mostE]
    have := mostE_le b d h.2.2 hd; omega
theorem assert_var (v : VE) (A : List Box) : assertA 290 [.int .i64 0] (.iface (vtE v) (vxE v)) A = some (True, .tuple [.agg [.int .i64 (if kindE v = 1 then nE v else 0)], .bool (decide (kindE v = 1))], A) := by
  cases v <;> rfl

def MaxI (i : Nat) (A0 : List Box) (m : Int) (A : List Box) : Prop := i < A.length ∧ A.getD i .dead = .cells [.int .i64 m] ∧ A.take i = A0 ∧ 0 ≤ m ∧ m ≤ 200
theorem MaxI.app {i : Nat} {A0 : List Box} (m : Int) (A L : List Box) (h : MaxI i A0 m A) : MaxI i A0 m (A ++ L) :=
  ⟨by have := h.1; simp; omega, by rw [Abs.getD_append_left h.1]; exact h.2.1, by rw [List.take_append_of_le_length (by have := h.1; omega)]; exact h.2.2.1, h.2.2.2⟩
theorem MaxI.set {i : Nat} {A0 : List Box} {m : Int} {A : List Box} (h : MaxI i A0 m A) (m' : Int) (h0 : 0 ≤ m') (h1 : m' ≤ 200) : MaxI i A0 m' (A.set i (.cells [.int .i64 m'])) :=
  ⟨by simpa using h.1, getD_set1 h.1, by rw [List.take_set_of_le (Nat.le_refl _)]; exact h.2.2.1, h0, h1⟩

set_option maxRecDepth 100000 in
theorem max_vis (i : Nat) (A0 : List Box) : VisM (MaxI i A0) maxF 231 [.ptr i 0] := by
  intro v d m A ho h0 h1 hI
  have hn := nE_ok ho
  have hI2 := hI.app _ _ [.cells [.int .i64 (if kindE v = 1 then nE v else 0)]]
  obtain ⟨hi, hg, _, hm0, hm1⟩ := hI
  have hgA := hI2.2.1
  have hw1 : IntKind.i64.wrap (nE v + 1) = nE v + 1 := wrap64 (by omega) (by omega)
  have hw2 : IntKind.i64.wrap (nE v + 1 - d) = nE v + 1 - d := wrap64 (by omega) (by omega)
  have has := assert_var v
  rw [ifE]
  by_cases k1 : kindE v = 1
  · simp only [if_pos k1] at has hI2 hgA
    have hf : maxF v d m = if nE v + 1 - d > m then nE v + 1 - d else m := by rw [maxF, if_pos k1]
    have hs := hI2.set (maxF v d m) (by rw [hf]; split <;> omega) (by rw [hf]; split <;> omega)
    rw [hf] at hs ⊢
    refine acalls_enterK (cf := cf 20 [0, 1, 2, 5, 6, 12]) foll Tryz.func231 Tryz.ntmps231 (by simp [cf]) ?_
    simp only [Tryz.f231, EnterK_some, zW, zX, zD, builtinA, isLeaf, const1, ustrA, simprocAttr, ti3, ti98, ti290, za290, cf, Tryz.results231]
    simp only [zW, zX, zD, builtinA, isLeaf, const1, ustrA, simprocAttr, ti3, ti98, ti290, za290, cf, Tryz.results231, wpO_typeAssert, has, decide_eq_true k1, hgA, hw1, hw2]
    exact hs
  · simp only [if_neg k1] at has hI2 hgA
    have hf : maxF v d m = m := by rw [maxF, if_neg k1]
    rw [hf]
    refine acalls_enterK (cf := cf 20 [0, 1, 2, 5, 6, 12]) foll Tryz.func231 Tryz.ntmps231 (by simp [cf]) ?_
    simp only [Tryz.f231, EnterK_some, zW, zX, zD, builtinA, isLeaf, const1, ustrA, simprocAttr, ti3, ti98, ti290, za290, cf, Tryz.results231]
    simp only [zW, zX, zD, builtinA, isLeaf, const1, ustrA, simprocAttr, ti3, ti98, ti290, za290, cf, Tryz.results231, wpO_typeAssert, has, decide_eq_false k1, hgA, hw1, hw2]
    exact hI2

theorem outer_take {A A' : List Box} (h : A'.take A.length = A) (hl : A.length ≤ A'.length) : Outer A A' :=
  ⟨hl, fun i hi => .inl (by
    have : A.getD i .dead = (A'.take A.length).getD i .dead := by rw [h]
    rw [this]
    simp [List.getD, List.getElem?_take, hi])⟩

set_option maxRecDepth 100000 in
theorem impl_maxFree (v : VE) (ho : okE v) (hd : depE v ≤ 900) (A : List Box) : ACalls Tryz.prog 228 [ifE v] A (fun r A' => r = .int .i64 (mostE v 0) ∧ A' = A) := by
  have hI : MaxI A.length A 0 (A ++ [.cells [.int .i64 0]]) := ⟨by simp, by rw [Abs.getD_append_right (by omega)]; simp, by simp, by omega, by omega⟩
  have hwk := impl_walk (MaxI A.length A) (fun s A L h => h.app _ _ _) maxF 231 (by kernel_rfl) [.ptr A.length 0] (max_vis A.length A) v 0 0 _ ho (by omega) (by omega) hI
  have hm := mostE_le v 0 ho (by omega)
  rw [walk_max v 0 0 ho (by omega) (by omega), show max 0 (mostE v 0) = mostE v 0 by omega] at hwk
  rw [ifE] at hwk ⊢
  refine acalls_enter (cf := cf 8 [0, 2, 3]) foll Tryz.func228 Tryz.ntmps228 (by simp [cf]) ?_
  simp only [Tryz.f228, EnterK_some, zW, zX, zD, builtinA, isLeaf, const1, ustrA, simprocAttr, ti3, ca230, cf, Tryz.results228]
  refine callO_intro hwk ?_
  rintro r A1 ⟨h1, h2, h3, _⟩
  have ho1 := outer_take h3 (by omega)
  simp only [zW, zX, zD, builtinA, isLeaf, const1, ustrA, simprocAttr, ti3, ca230, cf, Tryz.results228, h2]
  exact ⟨ho1, h3⟩



end Go.Proofs.YtebgneaehhaclaaGreat
