/- The names of values in an expression: the model's. -/
import Derived.Test.YtdgjkcnojgjkfaaGreatExNode
import Derived.Test.YtdgjkcnojgjkfaaGreatAbsW3
set_option linter.unusedVariables false
set_option linter.unusedSimpArgs false
namespace Go.Proofs.YtdgjkcnojgjkfaaGreat
open Go.Abs

abbrev Nx := List UInt8 × List UInt8
def nxE (p : Nx) : List AV := [.int .i64 3, .int .i64 0, .str p.1, .str p.2, .int .i64 0, .str [], .str [], .slice [], .slice []]
def nxRows (ns : List Nx) : List (List AV) := ns.map nxE
noncomputable def addX (ns : List Nx) (p : Nx) : List Nx := if p ∈ ns then ns else ns ++ [p]
noncomputable def nmsX : List Nx → VE → List Nx
  | ns, .var _ => ns
  | ns, .num _ => ns
  | ns, .nm m n => addX ns (m, n)
  | ns, .fn _ b => nmsX ns b
  | ns, .app a b => nmsX (nmsX ns a) b
  | ns, .add a b => nmsX (nmsX ns a) b
  | ns, .ite c a b => nmsX (nmsX (nmsX ns c) a) b
noncomputable def nmsI (ns : List Nx) (v : VE) (i : Nat) : List Nx := ((kidsE v).take i).foldl nmsX ns
theorem nmsI_zero (ns : List Nx) (v : VE) : nmsI ns v 0 = ns := by simp [nmsI]
theorem nmsI_all {v : VE} (h : kindE v ≠ 3) (ns : List Nx) : nmsI ns v (kidsE v).length = nmsX ns v := by
  cases v <;> simp [nmsI, kidsE, nmsX] at h ⊢
  exact absurd rfl h
theorem nmsI_succ {v : VE} {i : Nat} (ns : List Nx) (h : i < (kidsE v).length) : nmsI ns v (i + 1) = nmsX (nmsI ns v i) ((kidsE v).getD i ve0) := by
  have e : (kidsE v).take (i + 1) = (kidsE v).take i ++ [(kidsE v).getD i ve0] := by rw [List.take_add_one]; simp [List.getD, h]
  rw [nmsI, e, List.foldl_append]; rfl
theorem addX_len (ns : List Nx) (p : Nx) : ns.length ≤ (addX ns p).length ∧ (addX ns p).length ≤ ns.length + 1 := by unfold addX; split <;> simp
theorem nmsX_len : ∀ (v : VE) (ns : List Nx), ns.length ≤ (nmsX ns v).length ∧ (nmsX ns v).length ≤ ns.length + cntE v
  | .var _, ns => by simp [nmsX, cntE]
  | .num _, ns => by simp [nmsX, cntE]
  | .nm m n, ns => by have := addX_len ns (m, n); simp only [nmsX, cntE]; omega
  | .fn _ b, ns => by have := nmsX_len b ns; simp only [nmsX, cntE]; omega
  | .app a b, ns => by have := nmsX_len a ns; have := nmsX_len b (nmsX ns a); simp only [nmsX, cntE]; omega
  | .add a b, ns => by have := nmsX_len a ns; have := nmsX_len b (nmsX ns a); simp only [nmsX, cntE]; omega
  | .ite c a b, ns => by have := nmsX_len c ns; have := nmsX_len a (nmsX ns c); have := nmsX_len b (nmsX (nmsX ns c) a); simp only [nmsX, cntE]; omega
theorem cntE_kids (v : VE) : ∀ i, ((kidsE v).take i).foldl (fun n k => n + cntE k) 0 ≤ cntE v := by
  intro i
  cases v with
  | var _ => simp [kidsE]
  | num _ => simp [kidsE]
  | nm _ _ => simp [kidsE]
  | fn _ b => rcases i with _ | i <;> simp [kidsE, cntE]
  | app a b => rcases i with _ | _ | i <;> simp [kidsE, cntE] <;> omega
  | add a b => rcases i with _ | _ | i <;> simp [kidsE, cntE] <;> omega
  | ite c a b => rcases i with _ | _ | _ | i <;> simp [kidsE, cntE] <;> omega
theorem nmsI_len (v : VE) (ns : List Nx) : ∀ i, (nmsI ns v i).length ≤ ns.length + ((kidsE v).take i).foldl (fun n k => n + cntE k) 0
  | 0 => by simp [nmsI]
  | i + 1 => by
    by_cases h : i < (kidsE v).length
    · have e : (kidsE v).take (i + 1) = (kidsE v).take i ++ [(kidsE v).getD i ve0] := by rw [List.take_add_one]; simp [List.getD, h]
      rw [nmsI_succ ns h, e, List.foldl_append]
      have h1 := nmsI_len v ns i
      have h2 := nmsX_len ((kidsE v).getD i ve0) (nmsI ns v i)
      simp only [List.foldl_cons, List.foldl_nil]
      omega
    · have e : (kidsE v).take (i + 1) = (kidsE v).take i := by rw [List.take_of_length_le (by omega), List.take_of_length_le (by omega)]
      have h1 := nmsI_len v ns i
      rw [nmsI, e]; exact h1

/-- names that were collected -/
def OwnX (A : List Box) (ns : List Nx) (r : AV) : Prop :=
  (r = .nils ∧ ns = []) ∨ ∃ j, r = .own j ∧ j < A.length ∧ A.getD j .dead = .row 9 (nxRows ns) 0
/-- nothing but the list changes -/
def FrX (r r' : AV) (A A' : List Box) : Prop := A.length ≤ A'.length ∧ (r' = r ∨ ∃ j, r' = .own j ∧ A.length ≤ j) ∧ ∀ k, k < A.length → r ≠ .own k → A'.getD k .dead = A.getD k .dead
theorem FrX.trans {r r1 r2 : AV} {A B C : List Box} (h : FrX r r1 A B) (k : FrX r1 r2 B C) : FrX r r2 A C := by
  obtain ⟨a1, a2, a3⟩ := h
  obtain ⟨b1, b2, b3⟩ := k
  refine ⟨by omega, ?_, fun x hx hr => ?_⟩
  · rcases b2 with rfl | ⟨j, rfl, hj⟩
    · exact a2
    · exact .inr ⟨j, rfl, by omega⟩
  · rw [b3 x (by omega) ?_, a3 x hx hr]
    rcases a2 with rfl | ⟨j, rfl, hj⟩
    · exact hr
    · intro e; injection e with e; omega
theorem OwnX.app {A : List Box} {ns : List Nx} {r : AV} (h : OwnX A ns r) (B : List Box) : OwnX (A ++ B) ns r := by
  rcases h with h | ⟨j, h1, h2, h3⟩
  · exact .inl h
  · exact .inr ⟨j, h1, by simp; omega, by rw [Abs.getD_append_left h2]; exact h3⟩
theorem FrX.app (r : AV) (A B : List Box) : FrX r r A (A ++ B) := ⟨by simp, .inl rfl, fun k hk _ => Abs.getD_append_left hk⟩
theorem nxRows_length (ns : List Nx) : (nxRows ns).length = ns.length := by simp [nxRows]
theorem nxRows_getD {ns : List Nx} {i : Nat} (h : i < ns.length) : (nxRows ns).getD i [] = nxE (ns.getD i ([], [])) := by simp [nxRows, List.getD, h]

def NamesXM (v : VE) : Prop := ∀ (A : List Box) (ns : List Nx) (r0 : AV), okE v → ns.length + cntE v ≤ 1000 → OwnX A ns r0 → ACalls Tryz.prog 76 [r0, .agg (encX (toX v))] A (fun r A' => OwnX A' (nmsX ns v) r ∧ FrX r0 r A A')
set_option maxRecDepth 100000 in
set_option maxHeartbeats 1000000 in
theorem namesX_nm (m k : List UInt8) : NamesXM (.nm m k) := fun A ns r0 ho hl hO => by
  have henc : encX (toX (.nm m k)) = nxE (m, k) := by rw [toX, encX, encXs]; simp [nxE, ty0, Ty.kind, Ty.mod, Ty.name, Ty.kids, encs]
  rw [henc, nxE]
  simp only [cntE] at hl
  rcases hO with ⟨rfl, rfl⟩ | ⟨j, rfl, hj, hA⟩
  · refine acalls_enterK (cf := cf 58 [0, 1, 3, 4, 5, 6, 9, 13, 33, 47]) foll Tryz.func76 Tryz.ntmps76 (by simp [cf]) ?_
    simp only [Tryz.f76, EnterK_some, zW, zX, zD, builtinA, isLeaf, const1, ustrA, simprocAttr, ti3, ti9, ti33, ti35, ca76, cf, Tryz.results76]
    refine aloop_intro [0, 3, 5] (fun e A' => e = [(0, .nils), (3, .ptr A.length 0), (5, .int .i64 0)] ∧ A' = A ++ [.cells [.int .i64 3, .int .i64 0, .str m, .str k, .int .i64 0, .str [], .str [], .slice [], .slice []]]) (fun e _ => 0) ?_ ?_
    · simp only [zW, zX, zD, builtinA, isLeaf, const1, ustrA, simprocAttr, ti3, ti9, ti33, ti35, ca76, cf, Tryz.results76]
    · rintro e A' ⟨rfl, rfl⟩
      simp only [zW, zX, zD, builtinA, isLeaf, const1, ustrA, simprocAttr, ti3, ti9, ti33, ti35, ca76, cf, Tryz.results76]
      have lf : ∀ w ∈ [AV.int .i64 3, .int .i64 0, .str m, .str k, .int .i64 0, .str [], .str [], .slice [], .slice []], isLeaf w = true := by simp [isLeaf]
      have e : nmsX [] (.nm m k) = [(m, k)] := by simp [nmsX, addX]
      refine ⟨fun w hw => lf w hw, fun r hr => by rw [List.mem_singleton.1 hr]; rfl, .inr ⟨A.length + 2, rfl, by simp, ?_⟩, ⟨by simp, .inr ⟨_, rfl, by omega⟩, fun x hx _ => Abs.getD_append_left hx⟩⟩
      rw [Abs.getD_append_right (by omega), e, show A.length + 2 - A.length = 2 by omega]
      rfl
  · have hb : ∀ B, (A ++ B).getD j .dead = .row 9 (nxRows ns) 0 := fun B => by rw [Abs.getD_append_left hj]; exact hA
    refine acalls_enterK (cf := cf 58 [0, 1, 3, 4, 5, 6, 9, 13, 33, 47]) foll Tryz.func76 Tryz.ntmps76 (by simp [cf]) ?_
    simp only [Tryz.f76, EnterK_some, zW, zX, zD, builtinA, isLeaf, const1, ustrA, simprocAttr, ti3, ti9, ti33, ti35, ca76, cf, Tryz.results76]
    refine aloop_intro [0, 3, 5] (fun e A' => ∃ i, i ≤ ns.length ∧ (m, k) ∉ ns.take i ∧ e = [(0, .own j), (3, .ptr A.length 0), (5, .int .i64 i)] ∧ A' = A ++ [.cells [.int .i64 3, .int .i64 0, .str m, .str k, .int .i64 0, .str [], .str [], .slice [], .slice []]]) (fun e _ => ns.length - (intOf (Abs.look 5 e)).toNat) ?_ ?_
    · simp only [zW, zX, zD, builtinA, isLeaf, const1, ustrA, simprocAttr, ti3, ti9, ti33, ti35, ca76, cf, Tryz.results76]
      exact ⟨0, by omega, by simp, rfl⟩
    · rintro e A' ⟨i, hi, hq, rfl, rfl⟩
      by_cases hi2 : i < ns.length
      · have d1 : decide ((i : Int) < (ns.length : Int)) = true := by simp; omega
        have hg := nxRows_getD hi2
        have hi1 : IntKind.i64.wrap ((i : Int) + 1) = ((i + 1 : Nat) : Int) := by rw [wrap64 (by omega) (by omega)]; rfl
        have htk : ns.take (i + 1) = ns.take i ++ [ns.getD i ([], [])] := by rw [List.take_add_one]; simp [List.getD, hi2]
        have hmem : ns.getD i ([], []) ∈ ns := by simp [List.getD, hi2]
        have pi : (0 : Int) ≤ (i : Int) ∧ (i : Int) < (ns.length : Int) := ⟨by omega, by omega⟩
        generalize ns.getD i ([], []) = p at *
        rw [nxE] at hg
        simp only [zW, zX, zD, builtinA, isLeaf, const1, ustrA, simprocAttr, ti3, ti9, ti33, ti35, ca76, cf, Tryz.results76, hb, hg, nxRows_length, d1]
        refine .inl ⟨by kernel_rfl, by kernel_rfl, pi, ?_⟩
        by_cases h1 : p.1 = m
        · by_cases h2 : p.2 = k
          · have hp : p = (m, k) := Prod.ext h1 h2
            have e : nmsX ns (.nm m k) = ns := by rw [nmsX, addX, if_pos (by rw [← hp]; exact hmem)]
            simp only [zW, zX, zD, builtinA, isLeaf, const1, ustrA, simprocAttr, ti3, ti9, ti33, ti35, ca76, cf, Tryz.results76, hb, hg, nxRows_length, decide_eq_true h1, decide_eq_true h2]
            rw [e]
            exact ⟨pi, .inr ⟨j, rfl, by simp; omega, hb _⟩, FrX.app _ _ _⟩
          · simp only [zW, zX, zD, builtinA, isLeaf, const1, ustrA, simprocAttr, ti3, ti9, ti33, ti35, ca76, cf, Tryz.results76, hb, hg, nxRows_length, decide_eq_true h1, decide_eq_false h2, hi1, LoopK_eq]
            refine ⟨pi, ⟨i + 1, by omega, ?_, rfl⟩, ?_⟩
            · rw [htk]; simp only [List.mem_append, List.mem_singleton, not_or]; exact ⟨hq, fun h => h2 (by rw [← h])⟩
            · simp only [intOf]; omega
        · simp only [zW, zX, zD, builtinA, isLeaf, const1, ustrA, simprocAttr, ti3, ti9, ti33, ti35, ca76, cf, Tryz.results76, hb, hg, nxRows_length, decide_eq_false h1, hi1, LoopK_eq]
          refine ⟨⟨i + 1, by omega, ?_, rfl⟩, ?_⟩
          · rw [htk]; simp only [List.mem_append, List.mem_singleton, not_or]; exact ⟨hq, fun h => h1 (by rw [← h])⟩
          · simp only [intOf]; omega
      · have d1 : decide ((i : Int) < (ns.length : Int)) = false := by simp; omega
        have e : i = ns.length := by omega
        subst e
        rw [List.take_length] at hq
        have e : nmsX ns (.nm m k) = ns ++ [(m, k)] := by rw [nmsX, addX, if_neg hq]
        simp only [zW, zX, zD, builtinA, isLeaf, const1, ustrA, simprocAttr, ti3, ti9, ti33, ti35, ca76, cf, Tryz.results76, hb, nxRows_length, d1]
        have lf : ∀ w ∈ [AV.int .i64 3, .int .i64 0, .str m, .str k, .int .i64 0, .str [], .str [], .slice [], .slice []], isLeaf w = true := by simp [isLeaf]
        have hjn : ∀ k, j ≠ A.length + k := fun k => by omega
        refine ⟨fun w hw => lf w hw, ⟨fun r hr => by rw [List.mem_singleton.1 hr]; rfl, by omega⟩, .inr ⟨A.length + 2, rfl, by simp, ?_⟩, ⟨by simp; omega, .inr ⟨_, rfl, by omega⟩, fun x hx hne => ?_⟩⟩
        · rw [Abs.getD_append_right (by simp), e]
          simp [nxRows, nxE]
        · have hxj : j ≠ x := fun e => hne (by rw [e])
          rw [Abs.getD_append_left (by simp; omega), getD_set_ne' hxj, Abs.getD_append_left hx]

set_option maxRecDepth 100000 in
set_option maxHeartbeats 1000000 in
theorem namesX_node (v : VE) (k3 : ¬ kindE v = 3) (ih : ∀ k ∈ kidsE v, NamesXM k) : NamesXM v := fun A ns r0 ho hl hO => by
  have hrl := rowsE_length v
  have hk3 := kidsE_le v
  rw [encX_node]
  refine acalls_enterK (cf := cf 58 [0, 1, 3, 4, 5, 6, 9, 13, 33, 47]) foll Tryz.func76 Tryz.ntmps76 (by simp [cf]) ?_
  simp only [Tryz.f76, EnterK_some, zW, zX, zD, builtinA, isLeaf, const1, ustrA, simprocAttr, ti3, ti9, ti33, ti35, ca76, cf, Tryz.results76]
  simp only [zW, zX, zD, builtinA, isLeaf, const1, ustrA, simprocAttr, ti3, ti9, ti33, ti35, ca76, cf, Tryz.results76, decide_eq_false k3]
  refine aloop_intro [0, 3, 6] (fun e A' => ∃ j r, j ≤ (kidsE v).length ∧ e = [(0, r), (3, .ptr A.length 0), (6, .int .i64 (j : Nat))] ∧ OwnX A' (nmsI ns v j) r ∧ FrX r0 r A A' ∧ A.length < A'.length ∧
    A'.getD A.length .dead = .cells [.int .i64 (kindE v), .int .i64 (nE v), .str (modE v), .str (nameE v), .int .i64 (argE v).kind, .str (argE v).mod, .str (argE v).name, .slice (encs (argE v).kids), .slice (rowsE v)] ∧ r ≠ .own A.length) (fun e _ => (kidsE v).length - (intOf (Abs.look 6 e)).toNat) ?_ ?_
  · simp only [zW, zX, zD, builtinA, isLeaf, const1, ustrA, simprocAttr, ti3, ti9, ti33, ti35, ca76, cf, Tryz.results76]
    refine ⟨0, r0, by omega, rfl, by rw [nmsI_zero]; exact hO.app _, FrX.app _ _ _, by omega, ?_⟩
    intro e
    rcases hO with ⟨rfl, _⟩ | ⟨j, rfl, hj, _⟩
    · cases e
    · injection e with e; omega
  · rintro e A' ⟨j, r, hj, rfl, hO', hF, hlt, hbx, hne⟩
    by_cases hi2 : j < (kidsE v).length
    · have dl : decide ((j : Int) < ((kidsE v).length : Nat)) = true := decide_eq_true (by omega)
      have hg := rowsE_getD hi2
      have hm := kid_mem hi2
      have hi1 : IntKind.i64.wrap ((j : Int) + 1) = ((j + 1 : Nat) : Int) := by rw [wrap64 (by omega) (by omega)]; rfl
      have hs := nmsI_succ ns hi2
      have hln := nmsI_len v ns (j + 1)
      have hct := cntE_kids v (j + 1)
      have e2 : (kidsE v).take (j + 1) = (kidsE v).take j ++ [(kidsE v).getD j ve0] := by rw [List.take_add_one]; simp [List.getD, hi2]
      have hln0 := nmsI_len v ns j
      rw [e2, List.foldl_append] at hct
      simp only [List.foldl_cons, List.foldl_nil] at hct
      simp only [zW, zX, zD, builtinA, isLeaf, const1, ustrA, simprocAttr, ti3, ti9, ti33, ti35, ca76, cf, Tryz.results76, hbx, hrl, dl, hg, encX_length, encX_take]
      refine ⟨⟨by omega, by omega⟩, ?_⟩
      refine callO_intro (ih _ hm _ (nmsI ns v j) r (okE_kid ho hm) (by omega) hO') ?_
      rintro r' A2 ⟨hO2, hf2⟩
      rw [← hs] at hO2
      simp only [zW, zX, zD, builtinA, isLeaf, const1, ustrA, simprocAttr, ti3, ti9, ti33, ti35, ca76, cf, Tryz.results76, hi1, LoopK_eq]
      refine ⟨⟨j + 1, r', by omega, rfl, hO2, hF.trans hf2, Nat.lt_of_lt_of_le hlt hf2.1, by rw [hf2.2.2 _ hlt hne]; exact hbx, ?_⟩, ?_⟩
      · rcases hf2.2.1 with rfl | ⟨j, rfl, hj⟩
        · exact hne
        · intro e; injection e with e; omega
      · simp only [intOf]; omega
    · have dl : decide ((j : Int) < ((kidsE v).length : Nat)) = false := decide_eq_false (by omega)
      have : j = (kidsE v).length := by omega
      subst this
      rw [nmsI_all k3] at hO'
      simp only [zW, zX, zD, builtinA, isLeaf, const1, ustrA, simprocAttr, ti3, ti9, ti33, ti35, ca76, cf, Tryz.results76, hbx, hrl, dl]
      exact ⟨hO', hF⟩
theorem namesX (v : VE) : NamesXM v := by
  induction v using VE.indK with
  | h v ih =>
    by_cases k3 : kindE v = 3
    · cases v with
      | nm m k => exact namesX_nm m k
      | _ => simp [kindE] at k3
    · exact namesX_node v k3 ih
end Go.Proofs.YtdgjkcnojgjkfaaGreat
