/- Signatures put one behind the other, and an item less: the program's. -/
import Derived.Test.YtejbjgmgdbcddaaGreatSpAbs
import Derived.Test.YtejbjgmgdbcddaaGreatSigKeyD
import Derived.Test.YtejbjgmgdbcddaaGreatSigOutA
import Derived.Test.YtejbjgmgdbcddaaGreatAbsW3
set_option linter.unusedVariables false
set_option linter.unusedSimpArgs false
namespace Go.Proofs.YtejbjgmgdbcddaaGreat
open Go.Abs

set_option maxRecDepth 100000 in
theorem impl_readPosition (s : List SigI) (hs : s.length ≤ 1048576) (ho : ∀ x ∈ s, x.Ok ∧ sz x.typ ≤ 1048576) (q : Ky) (A : List Box) : ACalls Tryz.prog 19 [.slice (sEs s), .agg (kE q)] A (fun r A' => ((∃ ys, s.length ≤ 8 ∧ ReadsTo s ys ∧ ordB ys = true ∧ ((∃ i, i < ys.length ∧ viK (ys.getD i vi0) = q ∧ r = .tuple [.slice (vRows ys), .int .i64 (i : Nat)]) ∨ ((∀ i, i < ys.length → viK (ys.getD i vi0) ≠ q) ∧ r = .tuple [.slice (vRows ys), .int .i64 (-1)]))) ∨ (sigB s = false ∧ r = .tuple [.slice [], .int .i64 (-1)])) ∧ A' = A) := by
  have hrs := fun A => impl_readSig s hs ho A
  have hq : kE q = [.bool q.1, .str q.2] := rfl
  rw [hq]
  refine acalls_enter (cf := cf 19 [0, 1, 3, 4, 5, 6, 7, 14]) foll Tryz.func19 Tryz.ntmps19 (by simp [cf]) ?_
  simp only [Tryz.f19, EnterK_some, zW, zX, zD, builtinA, isLeaf, const1, ustrA, simprocAttr, ti51, ca30, ca31, cf, Tryz.results19]
  refine callK_intro (by simp only [zW, zX, zD, builtinA, isLeaf, const1, ustrA, simprocAttr, Option.map_some] <;> rfl) (hrs _) ?_ rfl
  rintro r A' ⟨⟨ys, h8, hr, rfl⟩ | ⟨hb, rfl⟩, rfl⟩
  · have hsb := sigB_reads h8 hr
    have hps := fun A => impl_position ys (by have := hr.1; omega) q A
    rw [hq] at hps
    cases hob : ordB ys with
    | true =>
      simp only [zW, zX, zD, builtinA, isLeaf, const1, ustrA, simprocAttr, ti51, ca30, ca31, cf, Tryz.results19]
      refine callK_intro (by simp only [zW, zX, zD, builtinA, isLeaf, const1, ustrA, simprocAttr, Option.map_some] <;> rfl) (hps _) ?_ rfl
      rintro r A' ⟨⟨i, h1, h2, rfl⟩ | ⟨h1, rfl⟩, rfl⟩
      · simp only [zW, zX, zD, builtinA, isLeaf, const1, ustrA, simprocAttr, ti51, ca30, ca31, cf, Tryz.results19]
        exact .inl ⟨ys, h8, hr, hob, .inl ⟨i, h1, h2, rfl⟩⟩
      · simp only [zW, zX, zD, builtinA, isLeaf, const1, ustrA, simprocAttr, ti51, ca30, ca31, cf, Tryz.results19]
        exact .inl ⟨ys, h8, hr, hob, .inr ⟨h1, rfl⟩⟩
    | false =>
      rw [hob] at hsb
      simp only [zW, zX, zD, builtinA, isLeaf, const1, ustrA, simprocAttr, ti51, ca30, ca31, cf, Tryz.results19]
      exact .inr hsb
  · simp only [zW, zX, zD, builtinA, isLeaf, const1, ustrA, simprocAttr, ti51, ca30, ca31, cf, Tryz.results19]
    exact .inr (sigB_bad hb)

/-- a signature in memory of its own, or none -/
def CatO (A : List Box) (zs : List VI) (r : AV) (A' : List Box) : Prop :=
  ∃ B, A' = A ++ B ∧ ((zs = [] ∧ r = .nils) ∨ ∃ j, r = .own (A.length + j) ∧ j < B.length ∧ B.getD j .dead = .row 1 (vRows zs) 0)

set_option maxRecDepth 100000 in
theorem impl_Grow (n : Nat) (hn : n ≤ 1000) (A : List Box) : ACalls Tryz.prog 32 [.nils, .int .i64 n] A (fun r A' => ∃ B, A' = A ++ B ∧ ((n = 0 ∧ r = .nils) ∨ (0 < n ∧ ∃ j, r = .own (A.length + j) ∧ j < B.length ∧ B.getD j .dead = .row 1 [] 0))) := by
  have h0 : decide ((n : Int) < 0) = false := decide_eq_false (by omega)
  have hw0 : IntKind.i64.wrap 0 = 0 := rfl
  have hw : IntKind.i64.wrap (n : Int) = n := wrap64 (by omega) (by omega)
  by_cases hz : 0 < n
  · have h1 : decide ((n : Int) > 0) = true := decide_eq_true (by omega)
    have h1' : decide ((0 : Int) < (n : Int)) = true := decide_eq_true (by omega)
    refine acalls_enterK (cf := cf 27 [0, 1, 4, 6, 16]) foll Tryz.func32 Tryz.ntmps32 (by simp [cf]) ?_
    simp only [Tryz.f32, EnterK_some, zW, zX, zD, builtinA, isLeaf, const1, ustrA, simprocAttr, ti3, ti9, ti47, ti54, cf, Tryz.results32]
    simp only [zW, zX, zD, builtinA, isLeaf, const1, ustrA, simprocAttr, ti3, ti9, ti47, ti54, cf, Tryz.results32, h0, hw0, Int.sub_zero, hw, h1, h1', countA]
    exact ⟨⟨by omega, by omega⟩, by omega, [.dead, .row 1 [] 0], rfl, hz, 1, rfl, by simp, rfl⟩
  · have e : n = 0 := by omega
    subst e
    refine acalls_enterK (cf := cf 27 [0, 1, 4, 6, 16]) foll Tryz.func32 Tryz.ntmps32 (by simp [cf]) ?_
    simp only [Tryz.f32, EnterK_some, zW, zX, zD, builtinA, isLeaf, const1, ustrA, simprocAttr, ti3, ti9, ti47, ti54, cf, Tryz.results32]
    simp only [zW, zX, zD, builtinA, isLeaf, const1, ustrA, simprocAttr, ti3, ti9, ti47, ti54, cf, Tryz.results32, hw0, hw, Int.sub_zero]
    exact ⟨[], by simp⟩

def pRows (ps : List (List VI)) : List (List AV) := ps.map fun p => [.slice (vRows p)]
theorem pRows_length (ps : List (List VI)) : (pRows ps).length = ps.length := by simp [pRows]
theorem pRows_getD {ps : List (List VI)} {i : Nat} (h : i < ps.length) : (pRows ps).getD i [] = [.slice (vRows (ps.getD i []))] := by simp [pRows, List.getD, h]
def totP (ps : List (List VI)) : Nat := (ps.map List.length).sum
theorem ps_take {ps : List (List VI)} {i : Nat} (h : i < ps.length) : ps.take (i + 1) = ps.take i ++ [ps.getD i []] := by
  rw [List.take_add_one]; simp [List.getD, h]
theorem totP_take {ps : List (List VI)} {i : Nat} (h : i < ps.length) : totP (ps.take (i + 1)) = totP (ps.take i) + (ps.getD i []).length := by
  rw [ps_take h]; simp [totP]
theorem totP_le (ps : List (List VI)) (i : Nat) : totP (ps.take i) ≤ totP ps := by
  have h : totP ps = totP (ps.take i) + totP (ps.drop i) := by
    conv => lhs; rw [← List.take_append_drop i ps]
    simp only [totP, List.map_append, List.sum_append]
  omega
theorem flat_take {ps : List (List VI)} {i : Nat} (h : i < ps.length) : (ps.take (i + 1)).flatten = (ps.take i).flatten ++ ps.getD i [] := by
  rw [ps_take h]; simp
theorem flat_len (ps : List (List VI)) : ps.flatten.length = totP ps := by simp [totP, List.length_flatten]
theorem vRows_app (a b : List VI) : vRows (a ++ b) = vRows a ++ vRows b := by simp [vRows]

set_option maxRecDepth 100000 in
set_option maxHeartbeats 1000000 in
theorem impl_Concat (ps : List (List VI)) (hl : ps.length ≤ 100) (ht : totP ps ≤ 1000) (A : List Box) : ACalls Tryz.prog 20 [.slice (pRows ps)] A (fun r A' => CatO A ps.flatten r A') := by
  refine acalls_enterK (cf := cf 36 [0, 2, 3, 5, 6, 8, 9, 10, 11, 12, 20, 25, 26, 27, 28]) foll Tryz.func20 Tryz.ntmps20 (by simp [cf]) ?_
  simp only [Tryz.f20, EnterK_some, zW, zX, zD, builtinA, isLeaf, const1, ustrA, simprocAttr, ti3, ti9, ti47, ti54, ti68, ca32, cf, Tryz.results20]
  refine aloop_intro [0, 3, 9, 10, 11] (fun e A' => ∃ i, i ≤ ps.length ∧ e = [(0, .slice (pRows ps)), (3, .int .i64 (totP (ps.take i) : Nat)), (9, .slice (pRows ps)), (10, .int .i64 ps.length), (11, .int .i64 i)] ∧ A' = A) (fun e _ => ps.length - (intOf (Abs.look 11 e)).toNat) ?_ ?_
  · simp only [zW, zX, zD, builtinA, isLeaf, const1, ustrA, simprocAttr, ti3, ti9, ti47, ti54, ti68, ca32, cf, Tryz.results20, pRows_length]
    exact ⟨0, by omega, by simp [totP]⟩
  · rintro e A' ⟨i, hi, rfl, hA⟩
    have hA := hA.symm
    subst hA
    have htl := totP_le ps i
    by_cases hlt : i < ps.length
    · have d1 : decide ((i : Int) < (ps.length : Int)) = true := by simp; omega
      have pi : 0 ≤ (i : Int) ∧ (i : Int) < (ps.length : Int) := by omega
      have hg := pRows_getD hlt
      have htk := totP_take hlt
      have htl1 := totP_le ps (i + 1)
      have hvl := vRows_length (ps.getD i [])
      have hi1 : IntKind.i64.wrap ((i : Int) + 1) = ((i + 1 : Nat) : Int) := by rw [wrap64 (by omega) (by omega)]; rfl
      have hw : IntKind.i64.wrap ((totP (ps.take i) : Nat) + ((ps.getD i []).length : Nat) : Int) = ((totP (ps.take (i + 1)) : Nat) : Int) := by rw [wrap64 (by omega) (by omega)]; omega
      have d2 : decide (((totP (ps.take (i + 1)) : Nat) : Int) < 0) = false := decide_eq_false (by omega)
      simp only [zW, zX, zD, builtinA, isLeaf, const1, ustrA, simprocAttr, ti3, ti9, ti47, ti54, ti68, ca32, cf, Tryz.results20, pRows_length, d1, hg, hvl, hw, d2, hi1, LoopK_eq]
      refine ⟨pi, ⟨i + 1, by omega, rfl⟩, ?_⟩
      simp only [intOf]; omega
    · have d1 : decide ((i : Int) < (ps.length : Int)) = false := by simp; omega
      have e : i = ps.length := by omega
      subst e
      rw [List.take_length] at htl ⊢
      simp only [zW, zX, zD, builtinA, isLeaf, const1, ustrA, simprocAttr, ti3, ti9, ti47, ti54, ti68, ca32, cf, Tryz.results20, pRows_length, d1]
      refine callO_intro (impl_Grow (totP ps) ht _) ?_
      rintro r A' ⟨B, rfl, hr⟩
      simp only [zW, zX, zD, builtinA, isLeaf, const1, ustrA, simprocAttr, ti3, ti9, ti47, ti54, ti68, ca32, cf, Tryz.results20, pRows_length]
      refine aloop_intro [6, 25, 26, 27] (fun e A' => ∃ i r C, i ≤ ps.length ∧ e = [(6, r), (25, .slice (pRows ps)), (26, .int .i64 ps.length), (27, .int .i64 i)] ∧ A' = A ++ C ∧ ((totP ps = 0 ∧ r = .nils) ∨ ∃ j, r = .own (A.length + j) ∧ j < C.length ∧ C.getD j .dead = .row 1 (vRows (ps.take i).flatten) 0)) (fun e _ => ps.length - (intOf (Abs.look 27 e)).toNat) ?_ ?_
      · refine ⟨0, r, B, by omega, by first | rfl | (rw [pRows_length]), rfl, ?_⟩
        rcases hr with ⟨h1, h2⟩ | ⟨h1, j, h2, h3, h4⟩
        · exact .inl ⟨h1, h2⟩
        · exact .inr ⟨j, h2, h3, by rw [h4]; rfl⟩
      · rintro e A' ⟨i, r, C, hi, rfl, rfl, hr⟩
        by_cases hlt : i < ps.length
        · have d1 : decide ((i : Int) < (ps.length : Int)) = true := by simp; omega
          have pi : 0 ≤ (i : Int) ∧ (i : Int) < (ps.length : Int) := by omega
          have hg := pRows_getD hlt
          have htk := totP_take hlt
          have htl1 := totP_le ps (i + 1)
          have hfl := flat_take hlt
          have hfn := flat_len (ps.take i)
          have hvl := vRows_length (ps.getD i [])
          have hvl2 := vRows_length (ps.take i).flatten
          have htl0 := totP_le ps i
          have hi1 : IntKind.i64.wrap ((i : Int) + 1) = ((i + 1 : Nat) : Int) := by rw [wrap64 (by omega) (by omega)]; rfl
          rcases hr with ⟨h0, rfl⟩ | ⟨j, rfl, hj, hgj⟩
          · have he : (ps.getD i []).length = 0 := by omega
            have he2 : (vRows (ps.getD i [])).length = 0 := by omega
            simp only [zW, zX, zD, builtinA, isLeaf, const1, ustrA, simprocAttr, ti3, ti9, ti47, ti54, ti68, ca32, cf, Tryz.results20, pRows_length, d1, hg, he2, hi1, LoopK_eq]
            refine ⟨pi, ⟨i + 1, .nils, C, by omega, rfl, rfl, .inl ⟨h0, rfl⟩⟩, ?_⟩
            simp only [intOf]; omega
          · have hg2 : (A ++ C).getD (A.length + j) .dead = .row 1 (vRows (ps.take i).flatten) 0 := by rw [Abs.getD_append_right (by omega), Nat.add_sub_cancel_left]; exact hgj
            simp only [zW, zX, zD, builtinA, isLeaf, const1, ustrA, simprocAttr, ti3, ti9, ti47, ti54, ti68, ca32, cf, Tryz.results20, pRows_length, d1, hg, hg2, hi1, LoopK_eq]
            have hset : (A ++ C).set (A.length + j) .dead = A ++ C.set j .dead := by
              rw [List.set_append_right _ _ (by omega), show A.length + j - A.length = j by omega]
            refine ⟨pi, ⟨fun r hr => (vRows_leaf _ r hr).1, by omega⟩, ⟨i + 1, _, C.set j .dead ++ [.row 1 (vRows (ps.take i).flatten ++ vRows (ps.getD i [])) 0], by omega, rfl, by first | rfl | (rw [hset]; simp), .inr ⟨C.length, rfl, by simp, ?_⟩⟩, ?_⟩
            · rw [Abs.getD_append_right (by simp), hfl, vRows_app]; simp
            · simp only [intOf]; omega
        · have d1 : decide ((i : Int) < (ps.length : Int)) = false := by simp; omega
          have e : i = ps.length := by omega
          subst e
          rw [List.take_length] at hr
          simp only [zW, zX, zD, builtinA, isLeaf, const1, ustrA, simprocAttr, ti3, ti9, ti47, ti54, ti68, ca32, cf, Tryz.results20, pRows_length, d1]
          refine ⟨C, rfl, ?_⟩
          rcases hr with ⟨h0, rfl⟩ | ⟨j, rfl, hj, hgj⟩
          · exact .inl ⟨List.length_eq_zero_iff.1 (by rw [flat_len]; exact h0), rfl⟩
          · exact .inr ⟨j, rfl, hj, hgj⟩

def TT2 (_ : List Box) : Prop := True ∧ True
theorem cat_frz {A0 A1 : List Box} {zs : List VI} {r : AV} (h : CatO A0 zs r A1) : ∃ A2, frzs [r] A1 = some ([.slice (vRows zs)], A2) ∧ A0.length ≤ A2.length ∧ ∀ k, k < A0.length → A2.getD k .dead = A0.getD k .dead := by
  obtain ⟨B, rfl, ⟨rfl, rfl⟩ | ⟨j, rfl, hj, hg⟩⟩ := h
  · exact ⟨A0 ++ B, rfl, by simp, fun k hk => Abs.getD_append_left hk⟩
  · have h1 : (A0 ++ B).getD (A0.length + j) .dead = .row 1 (vRows zs) 0 := by rw [Abs.getD_append_right (by omega), show A0.length + j - A0.length = j by omega]; exact hg
    refine ⟨(A0 ++ B).set (A0.length + j) (.row 1 (vRows zs) (vRows zs).length), by simp only [frzs, frzC, frz1, h1], by simp, fun k hk => ?_⟩
    rw [getD_set_ne' (by omega), Abs.getD_append_left hk]
theorem sg_plain {A A2 A3 : List Box} {zs : List VI} {r : AV} (hl : A.length ≤ A2.length) (hf : ∀ k, k < A.length → A2.getD k .dead = A.getD k .dead) (h : ∃ j, r = .own j ∧ NewG A2 (zs.map siOf) j A3) : ∃ j, r = .own j ∧ SgOut A (zs.map siOf) true (.tuple [.own j, .bool true]) A3 := by
  obtain ⟨j, rfl, hle, hf2, rows, S, hgi, hO, hN, hge⟩ := h
  exact ⟨j, rfl, _, j :: S, rfl, .inr ⟨j, rows, S, rfl, rfl, hgi, hO⟩, hN, fun x hx => by have := hge x hx; omega, by omega, fun x hx => by rw [hf2 x (by omega), hf x hx]⟩
theorem vRows_take (ys : List VI) (i : Nat) : (vRows ys).take i = vRows (ys.take i) := by simp [vRows, List.map_take]
theorem vRows_drop (ys : List VI) (i : Nat) : (vRows ys).drop i = vRows (ys.drop i) := by simp [vRows, List.map_drop]

set_option maxRecDepth 100000 in
set_option maxHeartbeats 1000000 in
theorem impl_DropVal (s : List SigI) (hs : s.length ≤ 1048576) (ho : ∀ x ∈ s, x.Ok ∧ sz x.typ ≤ 1048576) (nm : List UInt8) (A : List Box) : ACalls Tryz.prog 13 [.slice (sEs s), .str nm] A (fun r A' => SgOut A ((drT s nm).getD []) (drT s nm).isSome r A') := by
  have hps := fun A => impl_readPosition s hs ho (true, nm) A
  have hk : kE (true, nm) = [.bool true, .str nm] := rfl
  rw [hk] at hps
  refine acalls_enterK (cf := cf 27 [0, 1, 4, 5, 6, 7, 16]) foll Tryz.func13 Tryz.ntmps13 (by simp [cf]) ?_
  simp only [Tryz.f13, EnterK_some, zW, zX, zD, builtinA, isLeaf, const1, ustrA, simprocAttr, ti3, ti47, ti51, ti54, ti68, ca19, ca20, ca21, cf, Tryz.results13]
  refine callK_intro (by simp only [zW, zX, zD, builtinA, isLeaf, const1, ustrA, simprocAttr, Option.map_some] <;> rfl) (hps _) ?_ rfl
  rintro r A' ⟨⟨ys, h8, hr, hord, ⟨i, hi, hq, rfl⟩ | ⟨hn, rfl⟩⟩ | ⟨hb, rfl⟩, hA⟩
  · have hd := drT_some h8 hr hord hi hq
    have hA := hA.symm
    subst hA
    have d0 : decide ((i : Int) < 0) = false := decide_eq_false (by omega)
    simp only [zW, zX, zD, builtinA, isLeaf, const1, ustrA, simprocAttr, ti3, ti47, ti51, ti54, ti68, ca19, ca20, ca21, cf, Tryz.results13, d0]
    have hw : IntKind.i64.wrap ((i : Int) + 1) = ((i + 1 : Nat) : Int) := by rw [wrap64 (by have := hr.1; omega) (by have := hr.1; omega)]; rfl
    have hyl := hr.1
    have hvl := vRows_length ys
    have hv1 : ∀ r ∈ vRows ys, r.length = 1 := fun r hr => (vRows_leaf ys r hr).1
    have b1 : (i : Int) ≤ ((vRows ys).length : Int) := by omega
    have b2 : (0 : Int) ≤ (i : Int) := by omega
    refine .inr (drawI_intro (.pur 0 (.pur 1 (.pur 2 (.pur 3 (.pur 4 (.pur 5 (.pur 6 (.or 7 (.or 8 (.or 9 (.pur 10 (.pur 11 .done)) .stop) .stop) .stop)))))))) (TT2) (by kernel_rfl) ?_ ?_)
    · exact ⟨trivial, trivial⟩
    iterate 2 (refine wpI_pur_intro (v := ?_) _ rfl rfl (by decide) rfl (fun A' hI => ?_) ?_; rotate_left 1; (simp only [zW, zX, zD, builtinA, isLeaf, const1, ustrA, simprocAttr, ti3, ti47, ti51, ti54, ti68, ca19, ca20, ca21, cf, Tryz.results13, hI.1, hI.2, hw, hvl]; first | exact rfl | exact ⟨rfl, rfl⟩ | (refine ⟨by omega, ?_⟩; exact rfl) | (refine ⟨⟨by omega, by omega⟩, ?_⟩; exact rfl)))
    refine wpI_pur_intro (v := .slice (vRows (ys.take i))) _ rfl rfl (by decide) rfl (fun A' hI => ?_) ?_
    · simp only [zW, zX, zD, builtinA, isLeaf, const1, ustrA, simprocAttr, ti3, ti47, ti51, ti54, ti68, ca19, ca20, ca21, cf, Tryz.results13, hvl]
      exact ⟨⟨hv1, by omega, by omega⟩, by rw [vRows_take]⟩
    iterate 3 (refine wpI_pur_intro (v := ?_) _ rfl rfl (by decide) rfl (fun A' hI => ?_) ?_; rotate_left 1; (simp only [zW, zX, zD, builtinA, isLeaf, const1, ustrA, simprocAttr, ti3, ti47, ti51, ti54, ti68, ca19, ca20, ca21, cf, Tryz.results13, hI.1, hI.2, hw, hvl]; first | exact rfl | exact ⟨rfl, rfl⟩ | (refine ⟨by omega, ?_⟩; exact rfl) | (refine ⟨⟨by omega, by omega⟩, ?_⟩; exact rfl)))
    refine wpI_pur_intro (v := .slice (vRows (ys.drop (i + 1)))) _ rfl rfl (by decide) rfl (fun A' hI => ?_) ?_
    · simp only [zW, zX, zD, builtinA, isLeaf, const1, ustrA, simprocAttr, ti3, ti47, ti51, ti54, ti68, ca19, ca20, ca21, cf, Tryz.results13, hvl]
      refine ⟨⟨hv1, by omega, by omega, by omega⟩, ?_⟩
      rw [List.take_of_length_le (by omega : (vRows ys).length ≤ ys.length), vRows_drop]
    have hps2 : totP [ys.take i, ys.drop (i + 1)] ≤ 1000 := by simp [totP]; omega
    have hfz : frzs [.own A.length] (A ++ [.row 1 (pRows [ys.take i, ys.drop (i + 1)]) 0]) = some ([.slice (pRows [ys.take i, ys.drop (i + 1)])], A ++ [.row 1 (pRows [ys.take i, ys.drop (i + 1)]) 2]) := by
      simp [frzs, frzC, frz1, pRows]
    have hcat := impl_Concat [ys.take i, ys.drop (i + 1)] (by simp) hps2 (A ++ [.row 1 (pRows [ys.take i, ys.drop (i + 1)]) 2])
    have hfl : [ys.take i, ys.drop (i + 1)].flatten = dropI ys i := by simp [dropI]
    rw [hfl] at hcat
    rw [hd]
    simp only [zW, zX, zD, builtinA, isLeaf, const1, ustrA, simprocAttr, ti3, ti47, ti51, ti54, ti68, ca19, ca20, ca21, cf, Tryz.results13, wpI_or_eq, wpI_stop_eq, wpI_done_eq]
    refine ⟨⟨fun v hv => by rw [List.mem_singleton.1 hv], fun v hv => by rw [List.mem_singleton.1 hv]⟩, ⟨trivial, trivial⟩, ?_⟩
    refine callK_intro hfz hcat ?_ rfl
    rintro r A1 hc
    obtain ⟨A2, hfz2, hl2, hf2⟩ := cat_frz hc
    simp only [zW, zX, zD, builtinA, isLeaf, const1, ustrA, simprocAttr, ti3, ti47, ti51, ti54, ti68, ca19, ca20, ca21, cf, Tryz.results13, wpI_or_eq, wpI_stop_eq, wpI_done_eq]
    refine ⟨⟨trivial, trivial⟩, ?_⟩
    refine callK_intro hfz2 (impl_plainSig (dropI ys i) (by have := dropI_len hi; omega) A2) ?_ rfl
    rintro r A3 hpl
    have hl0 : A.length ≤ A2.length := by simp at hl2; omega
    obtain ⟨j, rfl, hsg⟩ := sg_plain (A := A) hl0 (fun k hk => by rw [hf2 k (by simp; omega), Abs.getD_append_left hk]) hpl
    simp only [zW, zX, zD, builtinA, isLeaf, const1, ustrA, simprocAttr, ti3, ti47, ti51, ti54, ti68, ca19, ca20, ca21, cf, Tryz.results13, wpI_or_eq, wpI_stop_eq, wpI_done_eq]
    refine ⟨⟨trivial, trivial⟩, ?_⟩
    iterate 2 (refine wpI_pur_intro (v := ?_) _ rfl rfl (by decide) rfl (fun A' hI => ?_) ?_; rotate_left 1; (simp only [zW, zX, zD, builtinA, isLeaf, const1, ustrA, simprocAttr, ti3, ti47, ti51, ti54, ti68, ca19, ca20, ca21, cf, Tryz.results13, hI.1, hI.2]; first | exact rfl | exact ⟨rfl, rfl⟩ | (refine ⟨by omega, ?_⟩; exact rfl) | (refine ⟨⟨by omega, by omega⟩, ?_⟩; exact rfl)))
    simp only [zW, zX, zD, builtinA, isLeaf, const1, ustrA, simprocAttr, ti3, ti47, ti51, ti54, ti68, ca19, ca20, ca21, cf, Tryz.results13, wpI_done_eq]
    exact hsg
  · have hd := drT_none hr hn
    rw [hd]
    subst hA
    have hsn := sg_none A' []
    rw [List.append_nil] at hsn
    simp only [zW, zX, zD, builtinA, isLeaf, const1, ustrA, simprocAttr, ti3, ti47, ti51, ti54, ti68, ca19, ca20, ca21, cf, Tryz.results13]
    exact hsn
  · have hd := drT_bad (nm := nm) hb
    rw [hd]
    subst hA
    have hsn := sg_none A' []
    rw [List.append_nil] at hsn
    simp only [zW, zX, zD, builtinA, isLeaf, const1, ustrA, simprocAttr, ti3, ti47, ti51, ti54, ti68, ca19, ca20, ca21, cf, Tryz.results13]
    exact hsn

set_option maxRecDepth 100000 in
set_option maxHeartbeats 1000000 in
theorem impl_AbstractType (s : List SigI) (hs : s.length ≤ 1048576) (ho : ∀ x ∈ s, x.Ok ∧ sz x.typ ≤ 1048576) (nm : List UInt8) (A : List Box) : ACalls Tryz.prog 8 [.slice (sEs s), .str nm] A (fun r A' => SgOut A ((abT s nm).getD []) (abT s nm).isSome r A') := by
  have hps := fun A => impl_readPosition s hs ho (false, nm) A
  have hk : kE (false, nm) = [.bool false, .str nm] := rfl
  rw [hk] at hps
  refine acalls_enterK (cf := cf 31 [0, 1, 4, 5, 6, 7, 16]) foll Tryz.func8 Tryz.ntmps8 (by simp [cf]) ?_
  simp only [Tryz.f8, EnterK_some, zW, zX, zD, builtinA, isLeaf, const1, ustrA, simprocAttr, ti3, ti47, ti51, ti54, ti56, ti68, ca19, ca20, ca21, cf, Tryz.results8]
  refine callK_intro (by simp only [zW, zX, zD, builtinA, isLeaf, const1, ustrA, simprocAttr, Option.map_some] <;> rfl) (hps _) ?_ rfl
  rintro r A' ⟨⟨ys, h8, hr, hord, ⟨i, hi, hq, rfl⟩ | ⟨hn, rfl⟩⟩ | ⟨hb, rfl⟩, hA⟩
  · have hd := abT_some h8 hr hord hi hq
    have hA := hA.symm
    subst hA
    have d0 : decide ((i : Int) < 0) = false := decide_eq_false (by omega)
    simp only [zW, zX, zD, builtinA, isLeaf, const1, ustrA, simprocAttr, ti3, ti47, ti51, ti54, ti56, ti68, ca19, ca20, ca21, cf, Tryz.results8, d0]
    have hw : IntKind.i64.wrap ((i : Int) + 1) = ((i + 1 : Nat) : Int) := by rw [wrap64 (by have := hr.1; omega) (by have := hr.1; omega)]; rfl
    have hyl := hr.1
    have hvl := vRows_length ys
    have hv1 : ∀ r ∈ vRows ys, r.length = 1 := fun r hr => (vRows_leaf ys r hr).1
    refine .inr (drawI_intro (.pur 0 (.pur 1 (.pur 2 (.pur 3 (.pur 4 (.pur 5 (.pur 7 (.pur 8 (.pur 9 (.pur 10 (.or 6 (.or 11 (.or 12 (.or 13 (.pur 14 (.pur 15 .done)) .stop) .stop) .stop) .stop))))))))))) (TT2) (by kernel_rfl) ?_ ?_)
    · exact ⟨trivial, trivial⟩
    iterate 2 (refine wpI_pur_intro (v := ?_) _ rfl rfl (by decide) rfl (fun A' hI => ?_) ?_; rotate_left 1; (simp only [zW, zX, zD, builtinA, isLeaf, const1, ustrA, simprocAttr, ti3, ti47, ti51, ti54, ti56, ti68, ca19, ca20, ca21, cf, Tryz.results8, hI.1, hI.2, hw, hvl]; first | exact rfl | exact ⟨rfl, rfl⟩ | (refine ⟨by omega, ?_⟩; exact rfl) | (refine ⟨⟨by omega, by omega⟩, ?_⟩; exact rfl)))
    refine wpI_pur_intro (v := .slice (vRows (ys.take i))) _ rfl rfl (by decide) rfl (fun A' hI => ?_) ?_
    · simp only [zW, zX, zD, builtinA, isLeaf, const1, ustrA, simprocAttr, ti3, ti47, ti51, ti54, ti56, ti68, ca19, ca20, ca21, cf, Tryz.results8, hvl]
      exact ⟨⟨hv1, by omega, by omega⟩, by rw [vRows_take]⟩
    iterate 3 (refine wpI_pur_intro (v := ?_) _ rfl rfl (by decide) rfl (fun A' hI => ?_) ?_; rotate_left 1; (simp only [zW, zX, zD, builtinA, isLeaf, const1, ustrA, simprocAttr, ti3, ti47, ti51, ti54, ti56, ti68, ca19, ca20, ca21, cf, Tryz.results8, hI.1, hI.2, hw, hvl]; first | exact rfl | exact ⟨rfl, rfl⟩ | (refine ⟨by omega, ?_⟩; exact rfl) | (refine ⟨⟨by omega, by omega⟩, ?_⟩; exact rfl)))
    iterate 3 (refine wpI_pur_intro (v := ?_) _ rfl rfl (by decide) rfl (fun A' hI => ?_) ?_; rotate_left 1; (simp only [zW, zX, zD, builtinA, isLeaf, const1, ustrA, simprocAttr, ti3, ti47, ti51, ti54, ti56, ti68, ca19, ca20, ca21, cf, Tryz.results8, hI.1, hI.2, hw, hvl]; first | exact rfl | exact ⟨rfl, rfl⟩ | (refine ⟨by omega, ?_⟩; exact rfl) | (refine ⟨⟨by omega, by omega⟩, ?_⟩; exact rfl)))
    refine wpI_pur_intro (v := .slice (vRows (ys.drop (i + 1)))) _ rfl rfl (by decide) rfl (fun A' hI => ?_) ?_
    · simp only [zW, zX, zD, builtinA, isLeaf, const1, ustrA, simprocAttr, ti3, ti47, ti51, ti54, ti56, ti68, ca19, ca20, ca21, cf, Tryz.results8, hvl]
      refine ⟨⟨hv1, by omega, by omega, by omega⟩, ?_⟩
      rw [List.take_of_length_le (by omega : (vRows ys).length ≤ ys.length), vRows_drop]
    have hps2 : totP [ys.take i, [.ab nm], ys.drop (i + 1)] ≤ 1000 := by simp [totP]; omega
    have hfl : [ys.take i, [VI.ab nm], ys.drop (i + 1)].flatten = abI ys nm i := by simp [abI]
    rw [hd]
    simp only [zW, zX, zD, builtinA, isLeaf, const1, ustrA, simprocAttr, ti3, ti47, ti51, ti54, ti56, ti68, ca19, ca20, ca21, cf, Tryz.results8, wpI_or_eq, wpI_stop_eq, wpI_done_eq]
    have hleaf : ∀ x : AV, isLeaf x = true → ∀ v ∈ [x], isLeaf v = true := fun x hx v hv => by rw [List.mem_singleton.1 hv]; exact hx
    have hfz : ∀ q, frzs [.own (A.length + 1)] (A ++ [q, .row 1 (pRows [ys.take i, [.ab nm], ys.drop (i + 1)]) 0]) = some ([.slice (pRows [ys.take i, [.ab nm], ys.drop (i + 1)])], A ++ [q, .row 1 (pRows [ys.take i, [.ab nm], ys.drop (i + 1)]) 3]) := fun q => by
      simp [frzs, frzC, frz1, pRows]
    have hcat := fun q => impl_Concat [ys.take i, [.ab nm], ys.drop (i + 1)] (by simp) hps2 (A ++ [q, .row 1 (pRows [ys.take i, [.ab nm], ys.drop (i + 1)]) 3])
    rw [hfl] at hcat
    refine ⟨hleaf _ rfl, ⟨trivial, trivial⟩, ⟨hleaf _ rfl, hleaf _ rfl, hleaf _ rfl⟩, ⟨trivial, trivial⟩, ?_⟩
    refine callK_intro (hfz _) (hcat _) ?_ rfl
    rintro r A1 hc
    obtain ⟨A2, hfz2, hl2, hf2⟩ := cat_frz hc
    simp only [zW, zX, zD, builtinA, isLeaf, const1, ustrA, simprocAttr, ti3, ti47, ti51, ti54, ti56, ti68, ca19, ca20, ca21, cf, Tryz.results8, wpI_or_eq, wpI_stop_eq, wpI_done_eq]
    refine ⟨⟨trivial, trivial⟩, ?_⟩
    refine callK_intro hfz2 (impl_plainSig (abI ys nm i) (by simp only [abI, List.length_append, List.length_take, List.length_cons, List.length_drop]; omega) A2) ?_ rfl
    rintro r A3 hpl
    have hl0 : A.length ≤ A2.length := by simp at hl2; omega
    obtain ⟨j, rfl, hsg⟩ := sg_plain (A := A) hl0 (fun k hk => by rw [hf2 k (by simp; omega), Abs.getD_append_left hk]) hpl
    simp only [zW, zX, zD, builtinA, isLeaf, const1, ustrA, simprocAttr, ti3, ti47, ti51, ti54, ti56, ti68, ca19, ca20, ca21, cf, Tryz.results8, wpI_or_eq, wpI_stop_eq, wpI_done_eq]
    refine ⟨⟨trivial, trivial⟩, ?_⟩
    iterate 2 (refine wpI_pur_intro (v := ?_) _ rfl rfl (by decide) rfl (fun A' hI => ?_) ?_; rotate_left 1; (simp only [zW, zX, zD, builtinA, isLeaf, const1, ustrA, simprocAttr, ti3, ti47, ti51, ti54, ti56, ti68, ca19, ca20, ca21, cf, Tryz.results8, hI.1, hI.2]; first | exact rfl | exact ⟨rfl, rfl⟩ | (refine ⟨by omega, ?_⟩; exact rfl) | (refine ⟨⟨by omega, by omega⟩, ?_⟩; exact rfl)))
    simp only [zW, zX, zD, builtinA, isLeaf, const1, ustrA, simprocAttr, ti3, ti47, ti51, ti54, ti56, ti68, ca19, ca20, ca21, cf, Tryz.results8, wpI_done_eq]
    exact hsg
  · have hd := abT_none hr hn
    rw [hd]
    subst hA
    have hsn := sg_none A' []
    rw [List.append_nil] at hsn
    simp only [zW, zX, zD, builtinA, isLeaf, const1, ustrA, simprocAttr, ti3, ti47, ti51, ti54, ti56, ti68, ca19, ca20, ca21, cf, Tryz.results8]
    exact hsn
  · have hd := abT_bad (nm := nm) hb
    rw [hd]
    subst hA
    have hsn := sg_none A' []
    rw [List.append_nil] at hsn
    simp only [zW, zX, zD, builtinA, isLeaf, const1, ustrA, simprocAttr, ti3, ti47, ti51, ti54, ti56, ti68, ca19, ca20, ca21, cf, Tryz.results8]
    exact hsn
end Go.Proofs.YtejbjgmgdbcddaaGreat
