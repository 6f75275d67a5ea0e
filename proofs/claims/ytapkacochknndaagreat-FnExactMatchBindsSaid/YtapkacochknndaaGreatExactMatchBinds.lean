/- For every two lists of items the program's MatchBinds answers as the model's MatchBinds does, in every field; what it hands back is memory of its own, which neither writing into the arguments nor a second call changes, and the arguments are not changed. No condition beside the row's own. -/
import Derived.Test.YtapkacochknndaaGreatMatchB
import Derived.Test.YtapkacochknndaaGreatAbsW3
import Derived.Test.YtapkacochknndaaGreatOwnBh
import Derived.Test.YtapkacochknndaaGreatOwnSm
import Derived.Test.YtapkacochknndaaGreatSigLaw
set_option linter.unusedVariables false
set_option linter.unusedSimpArgs false
namespace Go.Proofs.YtapkacochknndaaGreat
open Go.Abs

set_option maxRecDepth 100000 in
theorem spec_l3Normal (a b : List SigI) (ha : a.length ≤ 1048576) (hoa : ∀ x ∈ a, x.Ok ∧ sz x.typ ≤ 1048576) (hb : b.length ≤ 1048576) (hob : ∀ x ∈ b, x.Ok ∧ sz x.typ ≤ 1048576) (A : List Box) :
    ACalls Tryz.prog 55 [.slice (sEs a), .slice (sEs b)] A (fun r A' => (∃ oa ob, RdN a oa ∧ RdN b ob ∧ r = .bool (oa.isSome && ob.isSome)) ∧ A' = A) := by
  refine acalls_enter (cf := cf 23 [0, 1, 4, 6, 8]) foll Tryz.func55 Tryz.ntmps55 (by simp [cf]) ?_
  simp only [Tryz.f55, EnterK_some, zW, zX, zD, builtinA, isLeaf, const1, ustrA, simprocAttr, ca86, cf, Tryz.results55]
  refine callO_intro (spec_NormalSig a ha hoa _) ?_
  rintro r A' ⟨oa, h1, rfl, hA⟩
  have hA := hA.symm
  subst hA
  have e : ∀ o, ∃ s, nrR o = .tuple [.slice s, .bool o.isSome] := fun o => by cases o <;> exact ⟨_, rfl⟩
  obtain ⟨sa, ea⟩ := e oa
  rw [ea]
  simp only [zW, zX, zD, builtinA, isLeaf, const1, ustrA, simprocAttr, ca86, cf, Tryz.results55]
  refine callO_intro (spec_NormalSig b hb hob _) ?_
  rintro r A' ⟨ob, h2, rfl, hA⟩
  have hA := hA.symm
  subst hA
  obtain ⟨sb, eb⟩ := e ob
  rw [eb]
  cases hq : oa.isSome with
  | true =>
    simp only [zW, zX, zD, builtinA, isLeaf, const1, ustrA, simprocAttr, ca86, cf, Tryz.results55]
    exact ⟨oa, ob, h1, h2, by rw [hq]; simp⟩
  | false =>
    simp only [zW, zX, zD, builtinA, isLeaf, const1, ustrA, simprocAttr, ca86, cf, Tryz.results55]
    exact ⟨oa, ob, h1, h2, by rw [hq]; simp⟩
theorem bE_ty (n : List UInt8) (f : VT) : bE ⟨[], n, toTy f⟩ = .str [] :: .str n :: enc (toTy f) := by rw [bT4 (toTy f)]; rfl
set_option maxRecDepth 100000 in
set_option maxHeartbeats 4000000 in
theorem spec_l3Binds (a b : List SigI) (hs ys : List VI) (ha : a.length ≤ 1048576) (hoa : ∀ x ∈ a, x.Ok ∧ sz x.typ ≤ 1048576) (hra : RdN a (some hs)) (hb8 : b.length ≤ 8) (hr : ReadsTo b ys) (A : List Box) :
    ACalls Tryz.prog 56 [.slice (sEs a), .slice (sEs b)] A (fun r A' => ∃ B j, A' = A ++ B ∧ r = .tuple [.own (A.length + j), .bool (mbO hs (ys.map absO)).isSome] ∧ j < B.length ∧ B.getD j .dead = .row 6 (bEs ((mbO hs (ys.map absO)).getD [])) 0) := by
  have hyl := hr.1
  have hvh := rdN_vok hra
  refine acalls_enterK (cf := cf 47 [0, 1, 4, 5, 6, 7, 8, 9, 14, 22, 34]) foll Tryz.func56 Tryz.ntmps56 (by simp [cf]) ?_
  simp only [Tryz.f56, EnterK_some, zW, zX, zD, builtinA, isLeaf, const1, ustrA, simprocAttr, ti3, ti9, ti24, ti38, ti57, ti59, ti91, ca87, cf, Tryz.results56]
  refine aloop_intro [0, 1, 6, 7] (fun e A' => ∃ i bs j B, i ≤ b.length ∧ mbO hs ((ys.map absO).take i) = some bs ∧ e = [(0, .slice (sEs a)), (1, .slice (sEs b)), (6, .own (A.length + j)), (7, .int .i64 i)] ∧ A' = A ++ B ∧ j < B.length ∧ B.getD j .dead = .row 6 (bEs bs) 0) (fun e _ => b.length - (intOf (Abs.look 7 e)).toNat) ?_ ?_
  · simp only [zW, zX, zD, builtinA, isLeaf, const1, ustrA, simprocAttr, ti3, ti9, ti24, ti38, ti57, ti59, ti91, ca87, cf, Tryz.results56]
    exact ⟨0, [], 0, [.row 6 [] 0], by omega, by simp [mbO], rfl, rfl, by simp, rfl⟩
  · rintro e A' ⟨i, bs, j, B, hi, hmb, rfl, rfl, hj, hg⟩
    simp only [zW, zX, zD, builtinA, isLeaf, const1, ustrA, simprocAttr, ti3, ti9, ti24, ti38, ti57, ti59, ti91, ca87, cf, Tryz.results56, sEs_length]
    refine condK_intro (fun h2 => ?_) (fun h2 => ?_)
    · have hi2 : i < b.length := by simpa using h2
      have hi1 : IntKind.i64.wrap ((i : Int) + 1) = ((i + 1 : Nat) : Int) := by rw [wrap64 (by omega) (by omega)]; rfl
      have pi : (0 : Int) ≤ (i : Int) ∧ (i : Int) < (b.length : Int) := ⟨by omega, by omega⟩
      have he := sEs_getD hi2
      have hsi := itemOf_si (hr.2 i hi2).2
      have hsn := mbO_snoc hs (l := ys.map absO) (i := i) (by simp; omega) hmb
      have hfl := mbO_fail hs (l := ys.map absO) (i := i) (by simp; omega)
      have hgo : (ys.map absO).getD i none = absO (ys.getD i vi0) := by simp [List.getD, show i < ys.length by omega]
      have hbl : bs.length ≤ 8 := by have h2 := (mbO_ok hvh.2 hmb).1; simp at h2; omega
      rw [hgo] at hsn hfl
      rw [hsi] at he
      generalize ys.getD i vi0 = y at *
      cases y with
      | ab n =>
        have hmk : ∀ f, findF hs (false, n) = some f → mbO hs [absO (.ab n)] = some [⟨[], n, toTy f⟩] := fun f h => by simp only [absO, mbO, h]; rfl
        have hmn : findF hs (false, n) = none → mbO hs [absO (.ab n)] = none := fun h => by simp only [absO, mbO, h]
        simp only [siOf, sE] at he
        simp only [zW, zX, zD, builtinA, isLeaf, const1, ustrA, simprocAttr, ti3, ti9, ti24, ti38, ti57, ti59, ti91, ca87, cf, Tryz.results56, he, sEs_length, enc_length]
        refine ⟨pi, pi, ?_⟩
        refine callO_intro (spec_FindType a ha hoa n _) ?_
        rintro r A' ⟨o, hm, rfl, hA⟩
        subst hA
        have ho := meanIs_find hra hm
        subst ho
        cases hf : findF hs (false, n) with
        | none =>
          have hz := hfl (hmn hf)
          simp only [zW, zX, zD, builtinA, isLeaf, const1, ustrA, simprocAttr, ti3, ti9, ti24, ti38, ti57, ti59, ti91, ca87, cf, Tryz.results56, hf, enc_length, enc_take]
          rw [hz]
          exact ⟨_, B.length + 1, rfl, rfl, by simp, by simp [List.getD, bEs]⟩
        | some f =>
          have hmf := hmk f hf
          rw [hmf] at hsn
          simp only [Option.map_some] at hsn
          have hR := bE_ty n f
          have hgX : ∀ Y, (B ++ Y).getD j .dead = .row 6 (bEs bs) 0 := fun Y => by rw [Abs.getD_append_left hj]; exact hg
          have hsX : ∀ Y : List Box, (B ++ Y).set j .dead = B.set j .dead ++ Y := fun Y => by rw [List.set_append_left _ _ hj]
          have hjX : ∀ n, j < B.length + n := fun n => by omega
          simp only [zW, zX, zD, builtinA, isLeaf, const1, ustrA, simprocAttr, ti3, ti9, ti24, ti38, ti57, ti59, ti91, ca87, cf, Tryz.results56, hf, oTyS, enc_length, enc_take]
          refine .inr (drawE_intro [(false, 0, 1), (false, 0, 0), (false, 0, 0), (false, 0, 0), (false, 0, 0), (false, 0, 0), (false, 0, 0), (false, 0, 0), (true, 0, 0), (true, 1, 1), (false, 2, 2)] [A ++ (B ++ [.cells (enc (toTy f))]), A ++ (B ++ [.cells (enc (toTy f)), .row 6 [.str [] :: .str n :: enc (toTy f)] 0]), A ++ (B.set j .dead ++ [.cells (enc (toTy f)), .row 6 [.str [] :: .str n :: enc (toTy f)] 0, .row 6 (bEs bs ++ [.str [] :: .str n :: enc (toTy f)]) 0])] 2 rfl (by kernel_rfl) (by kernel_rfl) (by kernel_rfl) (by kernel_rfl) (by kernel_rfl) (by kernel_rfl) ?_)
          simp only [zW, zX, zD, builtinA, isLeaf, const1, ustrA, simprocAttr, ti3, ti9, ti24, ti38, ti57, ti59, ti91, ca87, cf, Tryz.results56, he, hgX, hsX, hjX, sEs_length, enc_length, enc_take, sub_drop, frzL_enc, sub_closed, Option.map_some]
          have hlf : ∀ w ∈ AV.str [] :: .str n :: enc (toTy f), isLeaf w = true := by rw [← hR]; exact bE_leaf _
          have hrs : bEs bs ++ [.str [] :: .str n :: enc (toTy f)] = bEs (bs ++ [⟨[], n, toTy f⟩]) := by rw [← hR]; simp [bEs]
          refine ⟨pi, fun w hw => hlf w hw, ⟨fun r hr => by rw [List.mem_singleton.1 hr]; simp [enc_length], by rw [bEs_length]; omega⟩, ?_⟩
          simp only [zW, zX, zD, builtinA, isLeaf, const1, ustrA, simprocAttr, ti3, ti9, ti24, ti38, ti57, ti59, ti91, ca87, cf, Tryz.results56, hi1, LoopK_eq]
          refine ⟨⟨i + 1, _, B.length + 2, _, by omega, hsn, rfl, rfl, by simp, ?_⟩, ?_⟩
          · rw [Abs.getD_append_right (by simp), ← hrs]; simp
          · simp only [intOf]; omega
      | al n v =>
        have hz : mbO hs [absO (.al n v)] = some [] := rfl
        rw [hz] at hsn
        simp only [Option.map_some, List.append_nil] at hsn
        simp only [siOf, sE] at he
        simp only [zW, zX, zD, builtinA, isLeaf, const1, ustrA, simprocAttr, ti3, ti9, ti24, ti38, ti57, ti59, ti91, ca87, cf, Tryz.results56, he, sEs_length, enc_length, hi1, LoopK_eq]
        refine ⟨pi, ⟨i + 1, bs, j, B, by omega, hsn, rfl, rfl, hj, hg⟩, ?_⟩
        simp only [intOf]; omega
      | va n v =>
        have hz : mbO hs [absO (.va n v)] = some [] := rfl
        rw [hz] at hsn
        simp only [Option.map_some, List.append_nil] at hsn
        simp only [siOf, sE] at he
        simp only [zW, zX, zD, builtinA, isLeaf, const1, ustrA, simprocAttr, ti3, ti9, ti24, ti38, ti57, ti59, ti91, ca87, cf, Tryz.results56, he, sEs_length, enc_length, hi1, LoopK_eq]
        refine ⟨pi, ⟨i + 1, bs, j, B, by omega, hsn, rfl, rfl, hj, hg⟩, ?_⟩
        simp only [intOf]; omega
    · have hi2 : i = b.length := by simp at h2; omega
      rw [List.take_of_length_le (by simp; omega)] at hmb
      rw [hmb]
      simp only [zW, zX, zD, builtinA, isLeaf, const1, ustrA, simprocAttr, ti3, ti9, ti24, ti38, ti57, ti59, ti91, ca87, cf, Tryz.results56]
      exact ⟨B, j, rfl, rfl, hj, hg⟩

theorem bd_set {bs : List BdI} {i : Nat} (h : i < bs.length) : (bEs bs).set i (bE (bs.getD i bd0)) = bEs bs := by
  refine List.ext_getElem (by simp) fun k h1 h2 => ?_
  rw [List.getElem_set]
  split
  · rename_i e; subst e
    simp [bEs, List.getD, h]
  · rfl
set_option maxRecDepth 100000 in
set_option maxHeartbeats 4000000 in
theorem spec_MatchBinds (a b : List SigI) (ha : a.length ≤ 1048576) (hoa : ∀ x ∈ a, x.Ok ∧ sz x.typ ≤ 1048576) (hb : b.length ≤ 1048576) (hob : ∀ x ∈ b, x.Ok ∧ sz x.typ ≤ 1048576) (A : List Box) :
    ACalls Tryz.prog 23 [.slice (sEs a), .slice (sEs b)] A (fun r A' => ∃ o, MbIs a b o ∧ r = .tuple [.slice (bEs (o.getD [])), .bool o.isSome] ∧ A' = A) := by
  refine acalls_enter (cf := cf 38 [0, 1, 4, 5, 6, 7, 8, 12, 23]) foll Tryz.func23 Tryz.ntmps23 (by simp [cf]) ?_
  simp only [Tryz.f23, EnterK_some, zW, zX, zD, builtinA, isLeaf, const1, ustrA, simprocAttr, ti3, ti38, ti57, ti91, ca55, ca56, ca57, cf, Tryz.results23]
  refine callO_intro (spec_l3Normal a b ha hoa hb hob _) ?_
  rintro r A' ⟨⟨oa, ob, h1, h2, rfl⟩, hA⟩
  have hA := hA.symm
  subst hA
  cases oa with
  | none =>
    simp only [zW, zX, zD, builtinA, isLeaf, const1, ustrA, simprocAttr, ti3, ti38, ti57, ti91, ca55, ca56, ca57, cf, Tryz.results23, Option.isSome_none, Bool.false_and]
    exact ⟨none, .inr ⟨.inl h1, rfl⟩, rfl⟩
  | some hs =>
    cases ob with
    | none =>
      simp only [zW, zX, zD, builtinA, isLeaf, const1, ustrA, simprocAttr, ti3, ti38, ti57, ti91, ca55, ca56, ca57, cf, Tryz.results23, Option.isSome_none, Bool.and_false]
      exact ⟨none, .inr ⟨.inr h2, rfl⟩, rfl⟩
    | some ws =>
      obtain ⟨ys, h8, hr, hord, hn⟩ := id h2
      have hvh := rdN_vok h1
      have hwy : ws.map absO = ys.map absO := by
        rw [(normL_fit hn).2, absO_zs ys _ (Nat.le_refl _), List.take_length]
      have hMb : MbIs a b (mbO hs (ys.map absO)) := .inl ⟨hs, ws, h1, h2, by rw [hwy]⟩
      have hok := fun bs (h : mbO hs (ys.map absO) = some bs) => mbO_ok hvh.2 h
      simp only [zW, zX, zD, builtinA, isLeaf, const1, ustrA, simprocAttr, ti3, ti38, ti57, ti91, ca55, ca56, ca57, cf, Tryz.results23, Option.isSome_some, Bool.and_self]
      refine callO_intro (spec_l3Binds a b hs ys ha hoa h1 h8 hr _) ?_
      rintro r A' ⟨B, j, rfl, rfl, hj, hg⟩
      have hbo : ∀ x ∈ (mbO hs (ys.map absO)).getD [], sz x.typ ≤ 1048576 := by
        cases hq : mbO hs (ys.map absO) with
        | none => simp
        | some bs =>
          intro x hx
          obtain ⟨n, f, _, h5, rfl⟩ := (hok bs hq).2 x hx
          have := sz_toTyS f h5.ok
          have := h5.cnt
          simp only; omega
      have hbl : ((mbO hs (ys.map absO)).getD []).length ≤ 8 := by
        cases hq : mbO hs (ys.map absO) with
        | none => simp
        | some bs => have h3 := (hok bs hq).1; have := hr.1; simp at h3 ⊢; omega
      generalize hbs : (mbO hs (ys.map absO)).getD [] = bs at *
      generalize hq : (mbO hs (ys.map absO)).isSome = q at *
      have hfin : ∃ o, MbIs a b o ∧ AV.tuple [.slice (bEs bs), .bool q] = .tuple [.slice (bEs (o.getD [])), .bool o.isSome] := ⟨_, hMb, by rw [hbs, hq]⟩
      simp only [zW, zX, zD, builtinA, isLeaf, const1, ustrA, simprocAttr, ti3, ti38, ti57, ti91, ca55, ca56, ca57, cf, Tryz.results23]
      refine aloop_intro [6, 7, 8] (fun e A' => ∃ i, i ≤ bs.length ∧ e = [(6, .own (A.length + j)), (7, .bool q), (8, .int .i64 i)] ∧ A' = A ++ B) (fun e _ => bs.length - (intOf (Abs.look 8 e)).toNat) ?_ ?_
      · simp only [zW, zX, zD, builtinA, isLeaf, const1, ustrA, simprocAttr, ti3, ti38, ti57, ti91, ca55, ca56, ca57, cf, Tryz.results23]
        exact ⟨0, by omega, rfl⟩
      · rintro e A' ⟨i, hi, rfl, rfl⟩
        simp only [zW, zX, zD, builtinA, isLeaf, const1, ustrA, simprocAttr, ti3, ti38, ti57, ti91, ca55, ca56, ca57, cf, Tryz.results23, hg, hj, bEs_length]
        refine condK_intro (fun h2 => ?_) (fun h2 => ?_)
        · have hi2 : i < bs.length := by simpa using h2
          have hi1 : IntKind.i64.wrap ((i : Int) + 1) = ((i + 1 : Nat) : Int) := by rw [wrap64 (by omega) (by omega)]; rfl
          have pi : (0 : Int) ≤ (i : Int) ∧ (i : Int) < (bs.length : Int) := ⟨by omega, by omega⟩
          have he := bEs_getD hi2
          have hst := bd_set hi2
          have hcp := fun A => spec_l1Copy0 (bs.getD i bd0).typ (hbo _ (bd_mem hi2)) A
          generalize bs.getD i bd0 = x at *
          simp only [bE] at he hst
          rw [bT4 x.typ] at hcp
          have hBj : B.set j (.row 6 (bEs bs) 0) = B := by
            refine List.ext_getElem (by simp) fun k h3 h4 => ?_
            rw [List.getElem_set]
            split
            · rename_i e; subst e
              rw [← hg]; simp [List.getD, hj]
            · rfl
          simp only [zW, zX, zD, builtinA, isLeaf, const1, ustrA, simprocAttr, ti3, ti38, ti57, ti91, ca55, ca56, ca57, cf, Tryz.results23, he, hg, hj, bEs_length]
          refine ⟨pi, ?_⟩
          refine callK_intro (by simp only [zW, zX, zD, builtinA, isLeaf, const1, ustrA, simprocAttr, Option.map_some]; rfl) (hcp _) ?_ rfl; rintro v A' ⟨rfl, rfl⟩
          simp only [zW, zX, zD, builtinA, isLeaf, const1, ustrA, simprocAttr, ti3, ti38, ti57, ti91, ca55, ca56, ca57, cf, Tryz.results23, he, hg, hj, hst, hBj, bEs_length, hi1, LoopK_eq]
          have lf : ∀ w ∈ [AV.int .i64 x.typ.kind, .str x.typ.mod, .str x.typ.name, .slice (encs x.typ.kids)], isLeaf w = true := by simp [isLeaf]
          refine ⟨pi, ⟨by omega, by omega, fun w hw => lf w hw⟩, ⟨i + 1, by omega, rfl⟩, ?_⟩
          simp only [intOf]; omega
        · have hi2 : i = bs.length := by simp at h2; omega
          simp only [zW, zX, zD, builtinA, isLeaf, const1, ustrA, simprocAttr, ti3, ti38, ti57, ti91, ca55, ca56, ca57, cf, Tryz.results23, hg, hj]
          exact hfin
end Go.Proofs.YtapkacochknndaaGreat

namespace Go.Proofs.YtapkacochknndaaGreat
open Go.Abs

theorem OwnMb.frame {A A' : List Box} {xs : List BdI} {v : AV} {S : List Nat} (h : OwnMb A xs v S) (hf : ∀ i ∈ S, A'.getD i .dead = A.getD i .dead) : OwnMb A' xs v S := by
  rcases h with h | ⟨i, rows, S', h1, h2, h3, h4⟩
  · exact .inl h
  · subst h2
    exact .inr ⟨i, rows, S', h1, rfl, by rw [hf i (by simp)]; exact h3, h4.frame fun j hj => hf j (by simp [hj])⟩
theorem OwnMb.low {A : List Box} {xs : List BdI} {v : AV} {S : List Nat} (h : OwnMb A xs v S) : ∀ i ∈ S, i < A.length := by
  rcases h with ⟨_, _, rfl⟩ | ⟨i, rows, S', h1, rfl, h3, h4⟩
  · simp
  · intro j hj
    rcases List.mem_cons.1 hj with rfl | hj
    · exact live_lt h3 (by simp)
    · exact h4.low j hj
theorem OwnMb.view {A : List Box} {xs : List BdI} {v : AV} {S : List Nat} (h : OwnMb A xs v S) : View A v (.slice (bEs xs)) := by
  rcases h with ⟨rfl, rfl, _⟩ | ⟨i, rows, S', rfl, _, h3, h4⟩
  · exact .nils
  · exact OwnB.viewB h3 h4
theorem OwnB.free {A : List Box} : ∀ {xs : List BdI} {rows : List (List AV)} {S : List Nat}, OwnB A xs rows S → rows.all ifrees = true ∧ ∀ i ∈ S, ifreeB (A.getD i .dead) = true
  | [], rows, S, h => by rw [OwnB] at h; rw [h.1, h.2]; exact ⟨rfl, by simp⟩
  | t :: ks, rows, S, h => by
    rw [OwnB] at h
    obtain ⟨v, rows', S1, S2, rfl, rfl, h3, h4⟩ := h
    have a := h3.free
    have b := OwnB.free h4
    refine ⟨by rw [List.all_cons, b.1]; simp [bRow, ifrees, ifree, a.1], fun j hj => ?_⟩
    rcases List.mem_append.1 hj with hj | hj
    · exact a.2 j hj
    · exact b.2 j hj
theorem OwnMb.free {A : List Box} {xs : List BdI} {v : AV} {S : List Nat} (h : OwnMb A xs v S) : ifree v = true ∧ ∀ i ∈ S, ifreeB (A.getD i .dead) = true := by
  rcases h with ⟨rfl, _, rfl⟩ | ⟨i, rows, S', rfl, rfl, h3, h4⟩
  · exact ⟨rfl, by simp⟩
  · refine ⟨rfl, fun j hj => ?_⟩
    have h5 := h4.free
    rcases List.mem_cons.1 hj with rfl | hj
    · rw [h3]; exact h5.1
    · exact h5.2 j hj

def MbNew (A : List Box) (xs : List BdI) (ok : Bool) (r : AV) (A' : List Box) : Prop :=
  ∃ B v S, A' = A ++ B ∧ (∀ b ∈ B, ifreeB b = true) ∧ r = .tuple [v, .bool ok] ∧ ifree v = true ∧ OwnMb A' xs v S ∧ S.Nodup ∧ ∀ i ∈ S, A.length ≤ i ∧ i < A'.length
theorem mbNew_of {A A' : List Box} {xs : List BdI} {ok : Bool} {r : AV} (h : MbOut A xs ok r A') : ∃ keep, MbNew A xs ok r (only keep A') := by
  obtain ⟨v, S, rfl, hT, hN, hge, hl, hf⟩ := h
  refine ⟨fun k => decide (k < A.length) || decide (k ∈ S), ?_⟩
  have hfree := hT.free
  have hlow := hT.low
  generalize hkp : (fun k => decide (k < A.length) || decide (k ∈ S)) = keep
  have k1 : ∀ k, k < A.length → keep k = true := fun k hk => by rw [← hkp]; simp [hk]
  have k2 : ∀ k, k ∈ S → keep k = true := fun k hk => by rw [← hkp]; simp [hk]
  have k3 : ∀ k, A.length ≤ k → keep k = true → k ∈ S := fun k h1 h2 => by
    rw [← hkp] at h2
    simp at h2
    rcases h2 with h2 | h2
    · omega
    · exact h2
  have e := split_front (A := A) (A' := only keep A') (by rw [only_length]; exact hl) (fun k hk => by rw [only_getD, if_pos (k1 k hk)]; exact hf k hk)
  refine ⟨_, v, S, e, fun b hb => ?_, rfl, hfree.1, hT.frame fun i hi => by rw [only_getD, if_pos (k2 i hi)], hN, fun i hi => ⟨hge i hi, by rw [only_length]; exact hlow i hi⟩⟩
  obtain ⟨i, hi, rfl⟩ := List.mem_iff_getElem.1 hb
  rw [List.getElem_drop]
  have hi2 : A.length + i < (only keep A').length := by simp at hi; omega
  have e2 : (only keep A')[A.length + i] = (only keep A').getD (A.length + i) .dead := by simp [List.getD, hi2]
  rw [e2, only_getD]
  split
  · rename_i hk; exact hfree.2 _ (k3 _ (by omega) hk)
  · rfl
theorem mb_call {f : FuncId} {args : List AV} {xs : List BdI} {ok : Bool} (h : ∀ A, ACalls Tryz.prog f args A (fun r A' => MbOut A xs ok r A')) (A : List Box) : ACalls Tryz.prog f args A (MbNew A xs ok) :=
  ACalls.only ((h A).mono fun r A' h => mbNew_of h)
theorem mb_view {f : FuncId} {args args' : List AV} {xs : List BdI} {ok : Bool} (h : ∀ A, ACalls Tryz.prog f args' A (MbNew A xs ok)) {A : List Box} (hv : Views A args args') : ACalls Tryz.prog f args A (MbNew A xs ok) := by
  refine ACalls.borrow hv ((h _).mono ?_)
  rintro r A' ⟨B, v, S, rfl, h1, rfl, h3, h4, h5, h6⟩
  refine ⟨B, rfl, by simp [ifree, ifrees, h3], h1, B, v, S, rfl, h1, rfl, h3, h4.frame fun i hi => ?_, h5, fun i hi => ?_⟩
  · have := (h6 i hi).1
    rw [deads_length] at this
    rw [Abs.getD_append_right this, Abs.getD_append_right (by rw [deads_length]; exact this), deads_length]
  · have := h6 i hi
    simp only [List.length_append, deads_length] at this ⊢
    exact this

theorem laws_markMb (ks : List BdI) (hks : ks.length < 2 ^ 63) (hok : ∀ b ∈ ks, b.Ok) (A : List Box) (v : AV) (S : List Nat) (k : Int) (hK : OwnMb A ks v S) (hN : S.Nodup) (h0 : 0 ≤ k) (h1 : k + totB ks ≤ 2 ^ 50) :
    ACalls Tryz.prog 26 [v, .int .i64 k] A (fun r A' => r = .int .i64 (k + totB ks) ∧ A'.length = A.length ∧ OwnMb A' (markBd ks k) v S) := by
  rcases hK with ⟨rfl, rfl, rfl⟩ | ⟨i, rows, S', rfl, rfl, h3, h4⟩
  · exact (laws_markBnils A k).mono fun r A' h => by
      obtain ⟨rfl, rfl⟩ := h
      exact ⟨by simp [totB], rfl, .inl ⟨rfl, by simp [markBd], rfl⟩⟩
  · exact (laws_markBds ks hks hok A i rows S' k h3 h4 hN h0 h1).mono fun r A' h => by
      obtain ⟨rfl, h5, h6, rows', h7, h8⟩ := h
      exact ⟨rfl, h5, .inr ⟨i, rows', S', rfl, rfl, h7, h8⟩⟩
theorem mb_ok {a b : List SigI} {o : Option (List BdI)} (hb : ∀ x ∈ b, x.Ok) (h : MbIs a b o) : (o.getD []).length ≤ 8 ∧ (∀ x ∈ o.getD [], x.Ok) ∧ totB (o.getD []) ≤ 1600 := by
  cases o with
  | none => exact ⟨by simp, by simp, by simp [totB]⟩
  | some bs =>
    rcases h with ⟨hs, ws, h1, h2, h3⟩ | ⟨_, h⟩
    · obtain ⟨h4, h5⟩ := mbO_ok (rdN_vok h1).2 h3.symm
      obtain ⟨ys, h8, hr, hord, hn⟩ := h2
      have hwl : ws.length ≤ 8 := by have := normL_len hn; have := hr.1; omega
      have hwy : ws.map absO = ys.map absO := by rw [(normL_fit hn).2, absO_zs ys _ (Nat.le_refl _), List.take_length]
      have key : ∀ x ∈ bs, x.Ok ∧ counts x.typ.kids ≤ 64 := fun x hx => by
        obtain ⟨n, f, h6, h7, rfl⟩ := h5 x hx
        rw [hwy] at h6
        obtain ⟨y, hy, hyn⟩ := List.mem_map.1 h6
        obtain ⟨k, hk, rfl⟩ := List.mem_iff_getElem.1 hy
        have hsi := hr.2 k (by rw [← hr.1]; exact hk)
        have e : ys.getD k vi0 = ys[k] := by simp [List.getD, hk]
        rw [e] at hsi
        have hnl : n.length < 2 ^ 63 := by
          have h9 := (hb _ (si_mem (l := b) (i := k) (by rw [← hr.1]; exact hk))).1
          have h10 := itemOf_si hsi.2
          generalize ys[k] = y at *
          cases y with
          | ab n' => simp only [absO, Option.some.injEq] at hyn; subst hyn; rw [h10] at h9; exact h9
          | al n' v => cases hyn
          | va n' v => cases hyn
        refine ⟨⟨by simp, hnl, ok_toTyS f h7.ok⟩, ?_⟩
        have hk' : ∀ v, counts (toTy v).kids + 1 = cnt v := fun v => by
          rw [← count_toTy]; cases toTy v; simp [count, Ty.kids]; omega
        have := hk' f; have := h7.cnt; simp only; omega
      have hb' : ∀ l : List BdI, (∀ x ∈ l, counts x.typ.kids ≤ 64) → totB l ≤ 197 * l.length := by
        intro l
        induction l with
        | nil => simp [totB]
        | cons x l ih =>
          intro h
          have := h x (by simp)
          have := ih fun y hy => h y (by simp [hy])
          rw [totB, List.length_cons]; omega
      have := hb' bs fun x hx => (key x hx).2
      simp only [List.length_map] at h4
      exact ⟨by simp; omega, fun x hx => (key x hx).1, by simp; omega⟩
    · cases h
end Go.Proofs.YtapkacochknndaaGreat

namespace Go.Proofs.YtapkacochknndaaGreat
open Go.Abs Go.RowKit Go.ChangeShapes Go.WideShapes Go.ChangeAt Go.ChangeMaps

set_option maxRecDepth 100000 in
set_option maxHeartbeats 4000000 in
theorem exactMatchBinds_true (a : List SigI) (hao : SigsOk a) (b : List SigI) (hbo : SigsOk b) : ACalls Tryz.prog 6 [.aslice (sEAs a), .aslice (sEAs b)] [] (fun v _ => v = .bool true) := by
  obtain ⟨hal, hao⟩ := hao
  obtain ⟨hbl, hbo⟩ := hbo
  have hsza := fun A l h1 h2 => laws_szSigItemS a hal hao l A h1 h2
  have hszb := fun A l h1 h2 => laws_szSigItemS b hbl hbo l A h1 h2
  by_cases hs1 : ((a.length + szIs a : Nat) : Int) ≤ 1048576
  · have hv1 : left 1048576 (a.length + szIs a) = 1048576 - (a.length + szIs a : Nat) := by rw [left, if_pos (by omega)]
    have hn1 : decide ((1048576 : Int) - (a.length + szIs a : Nat) < 0) = false := decide_eq_false (by omega)
    by_cases hs2 : ((b.length + szIs b : Nat) : Int) ≤ 1048576 - (a.length + szIs a : Nat)
    · have hv2 : left (1048576 - (a.length + szIs a : Nat)) (b.length + szIs b) = 1048576 - (a.length + szIs a : Nat) - (b.length + szIs b : Nat) := by rw [left, if_pos (by omega)]
      have hn2 : decide ((1048576 : Int) - (a.length + szIs a : Nat) - (b.length + szIs b : Nat) < 0) = false := decide_eq_false (by omega)
      have haz : ∀ x ∈ a, szI x ≤ 1048576 := fun x hx => by have := szIs_mem hx; omega
      have hao2 : ∀ x ∈ a, x.Ok ∧ sz x.typ ≤ 1048576 := fun x hx => ⟨hao x hx, by have := haz x hx; rw [szI] at this; omega⟩
      have hbz : ∀ x ∈ b, szI x ≤ 1048576 := fun x hx => by have := szIs_mem hx; omega
      have hbo2 : ∀ x ∈ b, x.Ok ∧ sz x.typ ≤ 1048576 := fun x hx => ⟨hbo x hx, by have := hbz x hx; rw [szI] at this; omega⟩
      obtain ⟨o, ho⟩ := mbIs_ex a b
      obtain ⟨xs, hxs⟩ : ∃ xs, xs = o.getD [] := ⟨_, rfl⟩
      have hx1 := mb_ok hbo ho
      rw [← hxs] at hx1
      obtain ⟨hxl, hxo, hxc⟩ := hx1
      have hspec : ∀ A, ACalls Tryz.prog 23 [.slice (sEs a), .slice (sEs b)] A (fun r A' => r = .tuple [.slice (bEs xs), .bool o.isSome] ∧ A' = A) := fun A => (spec_MatchBinds a b (by omega) hao2 (by omega) hbo2 A).mono fun r A' h => by
        obtain ⟨o', h1, h2, h3⟩ := h
        rw [mbIs_one h1 ho] at h2
        exact ⟨by rw [h2, hxs], h3⟩
      have himpl : ∀ A, ACalls Tryz.prog 24 [.slice (sEs a), .slice (sEs b)] A (MbNew A xs o.isSome) := mb_call fun A => (impl_MatchBinds a b (by omega) hao2 (by omega) hbo2 A).mono fun r A' h => by
        obtain ⟨o', h1, h2⟩ := h
        rw [mbIs_one h1 ho] at h2
        rw [hxs]; exact h2
      have himb : ∀ (A : List Box) (args : List AV), Views A args [.slice (sEs a), .slice (sEs b)] → ACalls Tryz.prog 24 args A (MbNew A xs o.isSome) := fun A args h => mb_view himpl h
      generalize o.isSome = ok at hspec himpl himb
      clear ho hxs
      have htoa := laws_toSigItemS a (by omega) (by omega)
      have heqa := laws_eqSigItemS a hal hao
      have htan := toSigIS_own a (by omega) haz
      have hta := totG_sz a
      have htob := laws_toSigItemS b (by omega) (by omega)
      have heqb := laws_eqSigItemS b hbl hbo
      have htbn := toSigIS_own b (by omega) hbz
      have htb := totG_sz b
      have heqx := laws_eqBindS xs (by omega) hxo
      have hge1 : decide ((1 : Int) + (totG a : Int) + (totG b : Int) < 0) = false := decide_eq_false (by omega)
      have hge2 : decide ((1 : Int) + (totB xs : Int) < 0) = false := decide_eq_false (by omega)
      have hne : ∀ x : Int, decide (¬ x = x) = false := fun x => by simp
      have hnb : decide (¬ ok = ok) = false := by simp
      refine acalls_enter (cf := cf 119 [0, 1, 4, 5, 6, 7, 8, 9, 10, 11, 12, 13, 14, 15, 16, 21, 26, 53, 58, 63, 82, 90, 93, 110, 115, 118]) foll Tryz.func6 Tryz.ntmps6 (by simp [cf]) ?_
      simp only [Tryz.f6, EnterK_some, zW, zX, zD, builtinA, isLeaf, const1, ustrA, simprocAttr, ti3, ti4, ca9, ca11, ca13, ca14, ca23, ca24, ca25, ca26, ca27, cf, Tryz.results6]
      refine callK_intro (by simp only [zW, zX, zD, builtinA, isLeaf, const1, ustrA, simprocAttr, Option.map_some]; rfl) (hsza _ _ (by omega) (by omega)) ?_ rfl; rintro v A' ⟨rfl, rfl⟩
      rw [hv1]
      simp only [zW, zX, zD, builtinA, isLeaf, const1, ustrA, simprocAttr, ti3, ti4, ca9, ca11, ca13, ca14, ca23, ca24, ca25, ca26, ca27, cf, Tryz.results6, hn1]
      refine callK_intro (by simp only [zW, zX, zD, builtinA, isLeaf, const1, ustrA, simprocAttr, Option.map_some]; rfl) (hszb _ _ (by omega) (by omega)) ?_ rfl; rintro v A' ⟨rfl, rfl⟩
      rw [hv2]
      simp only [zW, zX, zD, builtinA, isLeaf, const1, ustrA, simprocAttr, ti3, ti4, ca9, ca11, ca13, ca14, ca23, ca24, ca25, ca26, ca27, cf, Tryz.results6, hn2]
      refine callK_intro (by simp only [zW, zX, zD, builtinA, isLeaf, const1, ustrA, simprocAttr, Option.map_some]; rfl) (htoa _) ?_ rfl; rintro v A' ⟨rfl, rfl⟩
      simp only [zW, zX, zD, builtinA, isLeaf, const1, ustrA, simprocAttr, ti3, ti4, ca9, ca11, ca13, ca14, ca23, ca24, ca25, ca26, ca27, cf, Tryz.results6]
      refine callK_intro (by simp only [zW, zX, zD, builtinA, isLeaf, const1, ustrA, simprocAttr, Option.map_some]; rfl) (htob _) ?_ rfl; rintro v A' ⟨rfl, rfl⟩
      simp only [zW, zX, zD, builtinA, isLeaf, const1, ustrA, simprocAttr, ti3, ti4, ca9, ca11, ca13, ca14, ca23, ca24, ca25, ca26, ca27, cf, Tryz.results6]
      refine callK_intro (by simp only [zW, zX, zD, builtinA, isLeaf, const1, ustrA, simprocAttr, Option.map_some]; rfl) (hspec _) ?_ rfl; rintro v A' ⟨rfl, rfl⟩
      simp only [zW, zX, zD, builtinA, isLeaf, const1, ustrA, simprocAttr, ti3, ti4, ca9, ca11, ca13, ca14, ca23, ca24, ca25, ca26, ca27, cf, Tryz.results6]
      refine callK_intro (by simp only [zW, zX, zD, builtinA, isLeaf, const1, ustrA, simprocAttr, Option.map_some] <;> rfl) (htan _) ?_ rfl
      rintro r A3 ⟨ja, rfl, hle3, hf3, rowsa, Sa, hga, hRa, hNa, hgea⟩
      have hla : ∀ i ∈ ja :: Sa, i < A3.length := fun i hi => by
        rcases List.mem_cons.1 hi with rfl | hi
        · exact live_lt hga (by simp)
        · exact hRa.low i hi
      clear hf3
      simp only [zW, zX, zD, builtinA, isLeaf, const1, ustrA, simprocAttr, ti3, ti4, ca9, ca11, ca13, ca14, ca23, ca24, ca25, ca26, ca27, cf, Tryz.results6]
      refine callK_intro (by simp only [zW, zX, zD, builtinA, isLeaf, const1, ustrA, simprocAttr, Option.map_some] <;> rfl) (htbn _) ?_ rfl
      rintro r A4 ⟨jb, rfl, hle4, hf4, rowsb, Sb, hgb, hRb, hNb, hgeb⟩
      have hlb : ∀ i ∈ jb :: Sb, i < A4.length := fun i hi => by
        rcases List.mem_cons.1 hi with rfl | hi
        · exact live_lt hgb (by simp)
        · exact hRb.low i hi
      have hga4 : A4.getD ja .dead = .gr none 6 rowsa := (hf4 ja (hla ja (by simp))).trans hga
      have hRa4 : OwnG A4 a rowsa Sa := hRa.frame fun i hi => hf4 i (hla i (by simp [hi]))
      clear hf4 hga hRa
      simp only [zW, zX, zD, builtinA, isLeaf, const1, ustrA, simprocAttr, ti3, ti4, ca9, ca11, ca13, ca14, ca23, ca24, ca25, ca26, ca27, cf, Tryz.results6]
      refine callO_intro (himb _ _ (.cons (OwnG.viewG hga4 hRa4) (.cons (OwnG.viewG hgb hRb) .nil))) ?_
      rintro r A5 ⟨B5, v, S5, hA5, hB5, rfl, hv5, hK5, hN5, hR5⟩
      have f5 : ∀ i, i < A4.length → A5.getD i .dead = A4.getD i .dead := fun i hi => by rw [hA5, Abs.getD_append_left hi]
      have ha6 : A5.getD ja .dead = .gr none 6 rowsa := (f5 ja (by have := hla ja (by simp); omega)).trans hga4
      have hA6 : OwnG A5 a rowsa Sa := hRa4.frame fun i hi => f5 i (by have := hla i (by simp [hi]); omega)
      have hb6 : A5.getD jb .dead = .gr none 6 rowsb := (f5 jb (hlb jb (by simp))).trans hgb
      have hB6 : OwnG A5 b rowsb Sb := hRb.frame fun i hi => f5 i (hlb i (by simp [hi]))
      clear f5 hgb hRb hga4 hRa4 hA5
      simp only [zW, zX, zD, builtinA, isLeaf, const1, ustrA, simprocAttr, ti3, ti4, ca9, ca11, ca13, ca14, ca23, ca24, ca25, ca26, ca27, cf, Tryz.results6]
      refine callO_intro (borrow0 (.cons hK5.view (.cons (.leaf _ rfl) .nil)) rfl heqx) ?_
      rintro r A' ⟨rfl, rfl⟩
      simp only [zW, zX, zD, builtinA, isLeaf, const1, ustrA, simprocAttr, ti3, ti4, ca9, ca11, ca13, ca14, ca23, ca24, ca25, ca26, ca27, cf, Tryz.results6, hnb]
      refine callK_intro (by simp only [zW, zX, zD, builtinA, isLeaf, const1, ustrA, simprocAttr, Option.map_some]; rfl) (htoa _) ?_ rfl; rintro v A' ⟨rfl, rfl⟩
      simp only [zW, zX, zD, builtinA, isLeaf, const1, ustrA, simprocAttr, ti3, ti4, ca9, ca11, ca13, ca14, ca23, ca24, ca25, ca26, ca27, cf, Tryz.results6]
      refine callO_intro (borrow0 (.cons (OwnG.viewG ha6 hA6) (.cons (.leaf _ rfl) .nil)) rfl heqa) ?_
      rintro r A' ⟨rfl, rfl⟩
      simp only [zW, zX, zD, builtinA, isLeaf, const1, ustrA, simprocAttr, ti3, ti4, ca9, ca11, ca13, ca14, ca23, ca24, ca25, ca26, ca27, cf, Tryz.results6]
      refine callK_intro (by simp only [zW, zX, zD, builtinA, isLeaf, const1, ustrA, simprocAttr, Option.map_some]; rfl) (htob _) ?_ rfl; rintro v A' ⟨rfl, rfl⟩
      simp only [zW, zX, zD, builtinA, isLeaf, const1, ustrA, simprocAttr, ti3, ti4, ca9, ca11, ca13, ca14, ca23, ca24, ca25, ca26, ca27, cf, Tryz.results6]
      refine callO_intro (borrow0 (.cons (OwnG.viewG hb6 hB6) (.cons (.leaf _ rfl) .nil)) rfl heqb) ?_
      rintro r A' ⟨rfl, rfl⟩
      simp only [zW, zX, zD, builtinA, isLeaf, const1, ustrA, simprocAttr, ti3, ti4, ca9, ca11, ca13, ca14, ca23, ca24, ca25, ca26, ca27, cf, Tryz.results6]
      have hab : ∀ i ∈ jb :: Sb, i ∉ ja :: Sa := fun i hi h => by have := hla i h; have := hgeb i hi; omega
      refine callO_intro (laws_markSigItemS a hal hao _ ja rowsa Sa 1 ha6 hA6 hNa (by omega) (by omega)) ?_
      rintro r A7 ⟨rfl, l7, f7⟩
      have hb7 : A7.getD jb .dead = .gr none 6 rowsb := (f7 jb (hab jb (by simp))).trans hb6
      have hB7 : OwnG A7 b rowsb Sb := hB6.frame fun i hi => f7 i (hab i (by simp [hi]))
      have hK7 : OwnMb A7 xs v S5 := hK5.frame fun i hi => f7 i (fun h => by have := hla _ h; have := hR5 i hi; omega)
      clear f7 hb6 hB6 hA6 ha6 hK5
      simp only [zW, zX, zD, builtinA, isLeaf, const1, ustrA, simprocAttr, ti3, ti4, ca9, ca11, ca13, ca14, ca23, ca24, ca25, ca26, ca27, cf, Tryz.results6]
      refine callO_intro (laws_markSigItemS b hbl hbo _ jb rowsb Sb _ hb7 hB7 hNb (by omega) (by omega)) ?_
      rintro r A8 ⟨rfl, l8, f8⟩
      have hK8 : OwnMb A8 xs v S5 := hK7.frame fun i hi => f8 i (fun h => by have := hlb _ h; have := hR5 i hi; omega)
      clear f8 hb7 hB7 hK7
      simp only [zW, zX, zD, builtinA, isLeaf, const1, ustrA, simprocAttr, ti3, ti4, ca9, ca11, ca13, ca14, ca23, ca24, ca25, ca26, ca27, cf, Tryz.results6, hge1]
      refine callO_intro (borrow0 (.cons hK8.view (.cons (.leaf _ rfl) .nil)) rfl heqx) ?_
      rintro r A' ⟨rfl, rfl⟩
      simp only [zW, zX, zD, builtinA, isLeaf, const1, ustrA, simprocAttr, ti3, ti4, ca9, ca11, ca13, ca14, ca23, ca24, ca25, ca26, ca27, cf, Tryz.results6, hnb]
      refine callO_intro (laws_markMb xs (by omega) hxo _ v S5 1 hK8 hN5 (by omega) (by omega)) ?_
      rintro r A9 ⟨rfl, l9, hK9⟩
      simp only [zW, zX, zD, builtinA, isLeaf, const1, ustrA, simprocAttr, ti3, ti4, ca9, ca11, ca13, ca14, ca23, ca24, ca25, ca26, ca27, cf, Tryz.results6]
      refine callO_intro (borrow0 (.cons hK9.view (.cons (.leaf _ rfl) .nil)) rfl (fun A => laws_heldBindS xs (by omega) hxo 1 (by omega) (by omega) A)) ?_
      rintro r A' ⟨rfl, rfl⟩
      simp only [zW, zX, zD, builtinA, isLeaf, const1, ustrA, simprocAttr, ti3, ti4, ca9, ca11, ca13, ca14, ca23, ca24, ca25, ca26, ca27, cf, Tryz.results6, hge2, hne]
      refine callK_intro (by simp only [zW, zX, zD, builtinA, isLeaf, const1, ustrA, simprocAttr, Option.map_some]; rfl) (htoa _) ?_ rfl; rintro v A' ⟨rfl, rfl⟩
      simp only [zW, zX, zD, builtinA, isLeaf, const1, ustrA, simprocAttr, ti3, ti4, ca9, ca11, ca13, ca14, ca23, ca24, ca25, ca26, ca27, cf, Tryz.results6]
      refine callK_intro (by simp only [zW, zX, zD, builtinA, isLeaf, const1, ustrA, simprocAttr, Option.map_some]; rfl) (htob _) ?_ rfl; rintro v A' ⟨rfl, rfl⟩
      simp only [zW, zX, zD, builtinA, isLeaf, const1, ustrA, simprocAttr, ti3, ti4, ca9, ca11, ca13, ca14, ca23, ca24, ca25, ca26, ca27, cf, Tryz.results6]
      refine callK_intro (by simp only [zW, zX, zD, builtinA, isLeaf, const1, ustrA, simprocAttr, Option.map_some] <;> rfl) (himpl _) ?_ rfl
      rintro r A10 ⟨B10, v2, S10, hA10, hB10, rfl, hv10, hK10, hN10, hR10⟩
      have hM11 : OwnMb A10 (markBd xs 1) v S5 := hK9.frame fun i hi => by rw [hA10, Abs.getD_append_left (hK9.low i hi)]
      clear hA10
      simp only [zW, zX, zD, builtinA, isLeaf, const1, ustrA, simprocAttr, ti3, ti4, ca9, ca11, ca13, ca14, ca23, ca24, ca25, ca26, ca27, cf, Tryz.results6]
      refine callO_intro (borrow0 (.cons hK10.view (.cons (.leaf _ rfl) .nil)) rfl heqx) ?_
      rintro r A' ⟨rfl, rfl⟩
      simp only [zW, zX, zD, builtinA, isLeaf, const1, ustrA, simprocAttr, ti3, ti4, ca9, ca11, ca13, ca14, ca23, ca24, ca25, ca26, ca27, cf, Tryz.results6, hnb]
      refine callO_intro (borrow0 (.cons hM11.view (.cons (.leaf _ rfl) .nil)) rfl (fun A => laws_heldBindS xs (by omega) hxo 1 (by omega) (by omega) A)) ?_
      rintro r A' ⟨rfl, rfl⟩
      simp only [zW, zX, zD, builtinA, isLeaf, const1, ustrA, simprocAttr, ti3, ti4, ca9, ca11, ca13, ca14, ca23, ca24, ca25, ca26, ca27, cf, Tryz.results6, hge2, hne]
    · have hv2 : left (1048576 - (a.length + szIs a : Nat)) (b.length + szIs b) = -1 := by rw [left, if_neg (by omega)]
      refine acalls_enter (cf := cf 119 [0, 1, 4, 5, 6, 7, 8, 9, 10, 11, 12, 13, 14, 15, 16, 21, 26, 53, 58, 63, 82, 90, 93, 110, 115, 118]) foll Tryz.func6 Tryz.ntmps6 (by simp [cf]) ?_
      simp only [Tryz.f6, EnterK_some, zW, zX, zD, builtinA, isLeaf, const1, ustrA, simprocAttr, ti3, ti4, ca9, ca11, ca13, ca14, ca23, ca24, ca25, ca26, ca27, cf, Tryz.results6]
      refine callK_intro (by simp only [zW, zX, zD, builtinA, isLeaf, const1, ustrA, simprocAttr, Option.map_some]; rfl) (hsza _ _ (by omega) (by omega)) ?_ rfl; rintro v A' ⟨rfl, rfl⟩
      rw [hv1]
      simp only [zW, zX, zD, builtinA, isLeaf, const1, ustrA, simprocAttr, ti3, ti4, ca9, ca11, ca13, ca14, ca23, ca24, ca25, ca26, ca27, cf, Tryz.results6, hn1]
      refine callK_intro (by simp only [zW, zX, zD, builtinA, isLeaf, const1, ustrA, simprocAttr, Option.map_some]; rfl) (hszb _ _ (by omega) (by omega)) ?_ rfl; rintro v A' ⟨rfl, rfl⟩
      rw [hv2]
      simp only [zW, zX, zD, builtinA, isLeaf, const1, ustrA, simprocAttr, ti3, ti4, ca9, ca11, ca13, ca14, ca23, ca24, ca25, ca26, ca27, cf, Tryz.results6]
  · have hv1 : left 1048576 (a.length + szIs a) = -1 := by rw [left, if_neg (by omega)]
    refine acalls_enter (cf := cf 119 [0, 1, 4, 5, 6, 7, 8, 9, 10, 11, 12, 13, 14, 15, 16, 21, 26, 53, 58, 63, 82, 90, 93, 110, 115, 118]) foll Tryz.func6 Tryz.ntmps6 (by simp [cf]) ?_
    simp only [Tryz.f6, EnterK_some, zW, zX, zD, builtinA, isLeaf, const1, ustrA, simprocAttr, ti3, ti4, ca9, ca11, ca13, ca14, ca23, ca24, ca25, ca26, ca27, cf, Tryz.results6]
    refine callK_intro (by simp only [zW, zX, zD, builtinA, isLeaf, const1, ustrA, simprocAttr, Option.map_some]; rfl) (hsza _ _ (by omega) (by omega)) ?_ rfl; rintro v A' ⟨rfl, rfl⟩
    rw [hv1]
    simp only [zW, zX, zD, builtinA, isLeaf, const1, ustrA, simprocAttr, ti3, ti4, ca9, ca11, ca13, ca14, ca23, ca24, ca25, ca26, ca27, cf, Tryz.results6]

theorem exactMatchBinds_rec : ∀ t ∈ Tryz.f6.params.toList, Tryz.prog.readableRec t = true ∧ t < Tryz.prog.types.size := by
  rw [Tryz.params6]
  intro t ht
  simp at ht
  subst ht
  exact ⟨by kernel_rfl, of_decide_eq_true (by kernel_rfl)⟩
set_option maxRecDepth 100000 in
theorem exactMatchBinds_lifted (os : Os) (started : os.Started) (H : Type) (enc' : TypeId × Value → H) :
    ReturnsInHanded {} Tryz.checked os 6 .any (Rows.fnExactMatchBindsSpec.pre6 enc' Tryz.prog Tryz.f6 Rows.fnExactMatchBindsRow.domain false) (Rows.fnExactMatchBindsSpec.post enc' Tryz.prog Tryz.f6 false true false false) := by
  refine returnsInHanded_of_change (C := Tryz.checked) ownk started (by kernel_rfl) Tryz.func6
    (ChangeSpec.witness6 (enc := enc') (C := Tryz.checked) false ⟨#[], #[.slice none 0 0, .slice none 0 0], []⟩ 8 (by kernel_rfl) (by kernel_rfl) (by kernel_rfl) (by kernel_rfl)) ?_
  intro W base args ds gs before hval0 hW hcnd _
  have hval : ∀ (j : Nat) t v, Tryz.f6.params[j]? = some t → args[j]? = some v → Value.okWide Tryz.prog W .any base t v := hval0
  have hW' := hW
  obtain ⟨p, q, hA0, hV, rfl, hfz, hnd⟩ := hW
  have hA : DataW.TrodAll enc' Tryz.prog W 0 (fun _ => true) true Tryz.f6.params.toList args.toList ds p := hA0
  rw [Tryz.params6] at hA hval
  have hlt := hA.lt
  obtain ⟨v0, v1, d0, d1, p0, p1, rfl, rfl, rfl, h0, h1⟩ := trodAll_two hA
  obtain ⟨rfl, rfl⟩ := trodVars_none hV
  obtain ⟨x0, hx0, r0⟩ := rv_sigs (hval 0 22 v0 rfl rfl) h0
  obtain ⟨x1, hx1, r1⟩ := rv_sigs (hval 1 22 v1 rfl rfl) h1
  refine (law_calls (exactMatchBinds_true x0 hx0 x1 hx1) (.cons r0 (.cons r1 .nil))).mono fun e W' ⟨he, hb⟩ => ?_
  subst he
  exact ⟨_, rfl, law_post laid exactMatchBinds_rec rfl Tryz.underlying4 (by kernel_rfl) ⟨rfl, rfl⟩ rfl hW' hb⟩
theorem exactMatchBinds_holds : Rows.FnExactMatchBindsSaid :=
  OpenClaim.holds_of_wide 6 Tryz.f6 rfl rfl rfl rfl rfl rfl rfl ⟨rfl, rfl, rfl, rfl, rfl⟩ rfl rfl rfl rfl rfl (by kernel_rfl) Tryz.func6 (by kernel_rfl)
    (of_decide_eq_true (by kernel_rfl)) (by unfold Func.isWrapper; first | (rw [if_pos (by decide +kernel)]; kernel_rfl) | (rw [if_neg (by decide +kernel)]; exact ⟨rfl, rfl⟩))
    (fun os started H enc' _ => exactMatchBinds_lifted os started H enc')
end Go.Proofs.YtapkacochknndaaGreat
