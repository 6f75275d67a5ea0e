/- Whatever the signature and the name that are drawn: StrengthenSig answers as the model says; what it hands back has no abstract type, is as long as what it was given, and each value in it has the type that it had, the abstract types replaced. No condition beside the row's own. -/
import Derived.Test.YtngheinmebopeaaGreatK14
set_option linter.unusedVariables false
set_option linter.unusedSimpArgs false
namespace Go.Proofs.YtngheinmebopeaaGreat
open Go.Abs Go.RowKit Go.ChangeShapes Go.WideShapes Go.ChangeAt Go.ChangeMaps

theorem OwnG.row {A : List Box} : ∀ {bs : List SigI} {rows : List (List AV)} {S : List Nat}, OwnG A bs rows S → ∀ k, k < bs.length → ∃ w S1, rows.getD k [] = sRow (bs.getD k si0) w ∧ OwnK A (bs.getD k si0).typ.kids w S1
  | [], rows, S, h, k, hk => by simp at hk
  | b :: bs, rows, S, h, k, hk => by
    rw [OwnG] at h
    obtain ⟨v, rows', S1, S2, rfl, h2, h3, h4⟩ := h
    cases k with
    | zero => exact ⟨v, S1, rfl, h3⟩
    | succ k =>
      obtain ⟨w, S', e, h5⟩ := OwnG.row h4 k (by simpa using hk)
      exact ⟨w, S', by simpa using e, by simpa using h5⟩
theorem strB_snoc (mod : List UInt8) {ys : List VI} {i : Nat} (h : i < ys.length) : strB mod (ys.take (i + 1)) = strB mod (ys.take i) ++ (match abB mod (ys.getD i vi0) with | some q => [q] | none => []) := by
  rw [take_snocV h, strB, strB, List.filterMap_append]
  congr 1
  generalize ys.getD i vi0 = y
  cases y <;> rfl
theorem strB_len (mod : List UInt8) (ys : List VI) : (strB mod ys).length ≤ ys.length := List.length_filterMap_le _ _
theorem strI_kind (mod : List UInt8) (y : VI) : ¬ (siOf (strI mod y)).kind = 1 := by cases y <;> simp [strI, siOf]

set_option maxRecDepth 100000 in
set_option maxHeartbeats 8000000 in
theorem strSig_true (bs : List UInt8) : ACalls Tryz.prog 3 [.aslice (byteRows bs)] [] (fun v _ => v = .bool true) := by
  by_cases hb : 1048576 < bs.length
  · have e1 : decide ((1048576 : Int) < bs.length) = true := decide_eq_true (by omega)
    refine acalls_enter (cf := cf 144 [0, 2, 3, 4, 5, 6, 7, 8, 9, 10, 11, 12, 13, 14, 15, 16, 17, 20, 50, 63, 71, 77, 97, 138]) foll Tryz.func3 Tryz.ntmps3 (by simp [cf]) ?_
    simp only [Tryz.f3, EnterK_some, zW, zX, zD, builtinA, isLeaf, const1, ustrA, simprocAttr, ti3, ti4, ti5, ti9, ti22, ti23, ti29, ti32, ti34, ti36, ca5, ca6, ca7, ca8, ca9, ca10, ca11, cf, Tryz.results3]
    simp only [zW, zX, zD, builtinA, isLeaf, const1, ustrA, simprocAttr, ti3, ti4, ti5, ti9, ti22, ti23, ti29, ti32, ti34, ti36, ca5, ca6, ca7, ca8, ca9, ca10, ca11, cf, Tryz.results3, byteRows_length, e1]
  have e1 : decide ((1048576 : Int) < bs.length) = false := decide_eq_false (by omega)
  refine acalls_enter (cf := cf 144 [0, 2, 3, 4, 5, 6, 7, 8, 9, 10, 11, 12, 13, 14, 15, 16, 17, 20, 50, 63, 71, 77, 97, 138]) foll Tryz.func3 Tryz.ntmps3 (by simp [cf]) ?_
  simp only [Tryz.f3, EnterK_some, zW, zX, zD, builtinA, isLeaf, const1, ustrA, simprocAttr, ti3, ti4, ti5, ti9, ti22, ti23, ti29, ti32, ti34, ti36, ca5, ca6, ca7, ca8, ca9, ca10, ca11, cf, Tryz.results3]
  simp only [zW, zX, zD, builtinA, isLeaf, const1, ustrA, simprocAttr, ti3, ti4, ti5, ti9, ti22, ti23, ti29, ti32, ti34, ti36, ca5, ca6, ca7, ca8, ca9, ca10, ca11, cf, Tryz.results3, byteRows_length, e1]
  refine callK_intro (by simp only [zW, zX, zD, builtinA, isLeaf, const1, ustrA, simprocAttr]; rfl) (spec_DrawStrengthenSig bs _) ?_ rfl
  rintro v A' ⟨s, nm, rfl, hs, hsm, rfl⟩
  obtain ⟨hso, hsz⟩ := smx_all hs hsm
  obtain ⟨o, ho⟩ := rdS_ex s nm
  obtain ⟨hxl, hxo, hxz⟩ := str_small hsm ho
  have hspec : ∀ A, ACalls Tryz.prog 7 [.slice (sEs s), .str nm] A (fun r A' => r = .tuple [.slice (sEs (nrX o)), .bool o.isSome] ∧ A' = A) := fun A => (spec_StrengthenSig s (by omega) hso nm A).mono fun r A' h => by
    obtain ⟨o', h1, h2, h3⟩ := h
    rw [rdS_eq h1 ho] at h2
    exact ⟨by rw [h2]; cases o <;> rfl, h3⟩
  have himpl : ∀ A, ACalls Tryz.prog 6 [.slice (sEs s), .str nm] A (SgNew A (nrX o) o.isSome) := sg_call fun A => (impl_StrengthenSig s (by omega) hso nm A).mono fun r A' h => by
    obtain ⟨o', h1, h2⟩ := h
    rw [rdS_eq h1 ho] at h2
    exact h2
  have hsame : ∀ A, ACalls Tryz.prog 8 [.slice (sEs (nrX o)), .slice (sEs (nrX o))] A (fun r A' => r = .bool true ∧ A' = A) := fun A => (impl_SigSame (nrX o) (nrX o) hxz hxz A).mono fun r A' h => by rw [sisB_refl] at h; exact h
  have hne : ∀ x : Bool, decide (¬ x = x) = false := fun x => by simp
  have hlen := sEs_length s
  simp only [zW, zX, zD, builtinA, isLeaf, const1, ustrA, simprocAttr, ti3, ti4, ti5, ti9, ti22, ti23, ti29, ti32, ti34, ti36, ca5, ca6, ca7, ca8, ca9, ca10, ca11, cf, Tryz.results3]
  refine callO_intro (himpl _) ?_
  rintro r A1 ⟨B1, v1, S1, hA1, hB1, rfl, hv1, hK1, hN1, hR1⟩
  clear hA1 hB1 hR1
  simp only [zW, zX, zD, builtinA, isLeaf, const1, ustrA, simprocAttr, ti3, ti4, ti5, ti9, ti22, ti23, ti29, ti32, ti34, ti36, ca5, ca6, ca7, ca8, ca9, ca10, ca11, cf, Tryz.results3]
  refine callO_intro (hspec _) ?_
  rintro r A2 ⟨rfl, rfl⟩
  simp only [zW, zX, zD, builtinA, isLeaf, const1, ustrA, simprocAttr, ti3, ti4, ti5, ti9, ti22, ti23, ti29, ti32, ti34, ti36, ca5, ca6, ca7, ca8, ca9, ca10, ca11, cf, Tryz.results3, hne]
  refine callO_intro (borrow0 (.cons hK1.view (.cons (.leaf _ rfl) .nil)) rfl hsame) ?_
  rintro r A' ⟨rfl, rfl⟩
  cases o with
  | none =>
    simp only [zW, zX, zD, builtinA, isLeaf, const1, ustrA, simprocAttr, ti3, ti4, ti5, ti9, ti22, ti23, ti29, ti32, ti34, ti36, ca5, ca6, ca7, ca8, ca9, ca10, ca11, cf, Tryz.results3, hne, Option.isSome_none]
    refine callO_intro (borrow0 (.cons hK1.view (.cons (.leaf _ rfl) .nil)) rfl hsame) ?_
    rintro r A' ⟨rfl, rfl⟩
    simp only [zW, zX, zD, builtinA, isLeaf, const1, ustrA, simprocAttr, ti3, ti4, ti5, ti9, ti22, ti23, ti29, ti32, ti34, ti36, ca5, ca6, ca7, ca8, ca9, ca10, ca11, cf, Tryz.results3]
  | some zs =>
    obtain ⟨ys, h8, hrd, hord, hmd, rfl⟩ := ho
    simp only [zW, zX, zD, builtinA, isLeaf, const1, ustrA, simprocAttr, ti3, ti4, ti5, ti9, ti22, ti23, ti29, ti32, ti34, ti36, ca5, ca6, ca7, ca8, ca9, ca10, ca11, cf, Tryz.results3, hne, Option.isSome_some]
    have hxs : nrX (some (ys.map (strI nm))) = (ys.map (strI nm)).map siOf := rfl
    rw [hxs] at hK1 hxl hxo hxz
    have hyl := hrd.1
    rcases hK1 with ⟨rfl, hx0, _⟩ | ⟨j, rows, S', rfl, rfl, hg, hG⟩
    · have hs0 : s.length = 0 := by
        have := congrArg List.length hx0
        simp at this
        rw [← hyl, this]; rfl
      have hs0' : s = [] := List.eq_nil_of_length_eq_zero hs0
      subst hs0'
      refine aloop_intro [3, 4, 5, 9, 10] (fun e H => e = [(3, .slice (sEs [])), (4, .str nm), (5, .nils), (9, .own A'.length), (10, .int .i64 0)] ∧ H = A' ++ [.row 6 [] 0]) (fun e _ => 0) ?_ ?_
      · simp only [zW, zX, zD, builtinA, isLeaf, const1, ustrA, simprocAttr, ti3, ti4, ti5, ti9, ti22, ti23, ti29, ti32, ti34, ti36, ca5, ca6, ca7, ca8, ca9, ca10, ca11, cf, Tryz.results3]
      · rintro e H ⟨rfl, rfl⟩
        simp only [zW, zX, zD, builtinA, isLeaf, const1, ustrA, simprocAttr, ti3, ti4, ti5, ti9, ti22, ti23, ti29, ti32, ti34, ti36, ca5, ca6, ca7, ca8, ca9, ca10, ca11, cf, Tryz.results3, hlen]
        refine aloop_intro [3, 5, 9, 11] (fun e H => e = [(3, .slice (sEs [])), (5, .nils), (9, .own A'.length), (11, .int .i64 0)] ∧ H = A' ++ [.row 6 [] 0]) (fun e _ => 0) ?_ ?_
        · simp only [zW, zX, zD, builtinA, isLeaf, const1, ustrA, simprocAttr, ti3, ti4, ti5, ti9, ti22, ti23, ti29, ti32, ti34, ti36, ca5, ca6, ca7, ca8, ca9, ca10, ca11, cf, Tryz.results3]
        · rintro e H ⟨rfl, rfl⟩
          simp only [zW, zX, zD, builtinA, isLeaf, const1, ustrA, simprocAttr, ti3, ti4, ti5, ti9, ti22, ti23, ti29, ti32, ti34, ti36, ca5, ca6, ca7, ca8, ca9, ca10, ca11, cf, Tryz.results3, hlen]
    · have hrl := hG.length
      rw [List.length_map, List.length_map] at hrl
      have hbw : ∀ k, k < ys.length → ∃ w S1, rows.getD k [] = sRow (siOf (strI nm (ys.getD k vi0))) w := fun k hk => by
        obtain ⟨w, Sw, h1, _⟩ := hG.row k (by simpa using hk)
        have e : ((ys.map (strI nm)).map siOf).getD k si0 = siOf (strI nm (ys.getD k vi0)) := by simp [List.getD, hk]
        rw [e] at h1
        exact ⟨w, Sw, h1⟩
      have hjl : j < A'.length := live_lt hg (by simp)
      have hlA : ∀ i ∈ j :: S', i < A'.length := fun i hi => by
        rcases List.mem_cons.1 hi with rfl | hi
        · exact hjl
        · exact hG.low i hi
      refine aloop_intro [3, 4, 5, 9, 10] (fun e H => ∃ (i b : Nat), i ≤ s.length ∧ e = [(3, .slice (sEs s)), (4, .str nm), (5, .own j), (9, .own b), (10, .int .i64 i)] ∧ (∀ q, q < A'.length → H.getD q .dead = A'.getD q .dead) ∧ A'.length ≤ b ∧ b < H.length ∧ H.getD b .dead = .row 6 (bEs ((strB nm (ys.take i)).map ofB)) 0) (fun e _ => s.length - (intOf (Abs.look 10 e)).toNat) ?_ ?_
      · simp only [zW, zX, zD, builtinA, isLeaf, const1, ustrA, simprocAttr, ti3, ti4, ti5, ti9, ti22, ti23, ti29, ti32, ti34, ti36, ca5, ca6, ca7, ca8, ca9, ca10, ca11, cf, Tryz.results3]
        exact ⟨0, A'.length, by omega, rfl, fun q hq => Abs.getD_append_left hq, Nat.le_refl _, by simp, by rw [Abs.getD_append_right (Nat.le_refl _)]; simp [strB, bEs]⟩
      · rintro e H ⟨i, b, hi, rfl, hf, hb1, hb2, hgb⟩
        have hgj : H.getD j .dead = .gr none 6 rows := (hf j hjl).trans hg
        simp only [zW, zX, zD, builtinA, isLeaf, const1, ustrA, simprocAttr, ti3, ti4, ti5, ti9, ti22, ti23, ti29, ti32, ti34, ti36, ca5, ca6, ca7, ca8, ca9, ca10, ca11, cf, Tryz.results3, hlen, hgj, hrl]
        refine condK_intro (fun h2 => ?_) (fun h2 => ?_)
        · have hi2 : i < s.length := by simpa using h2
          have hi1 : IntKind.i64.wrap ((i : Int) + 1) = ((i + 1 : Nat) : Int) := by rw [wrap64 (by omega) (by omega)]; rfl
          have pi : (0 : Int) ≤ (i : Int) ∧ (i : Int) < (s.length : Int) := ⟨by omega, by omega⟩
          have pj : (0 : Int) ≤ (i : Int) ∧ (i : Int) < (ys.length : Int) := ⟨by omega, by omega⟩
          obtain ⟨w, _, hrow⟩ := hbw i (by omega)
          have hk1 := strI_kind nm (ys.getD i vi0)
          have hsg := sEs_getD hi2
          have hsi := itemOf_si (hrd.2 i hi2).2
          have hsb := strB_snoc nm (show i < ys.length by omega)
          rw [hsi] at hsg
          generalize ys.getD i vi0 = y at *
          rw [sRow] at hrow
          simp only [zW, zX, zD, builtinA, isLeaf, const1, ustrA, simprocAttr, ti3, ti4, ti5, ti9, ti22, ti23, ti29, ti32, ti34, ti36, ca5, ca6, ca7, ca8, ca9, ca10, ca11, cf, Tryz.results3, hgj, hrl, hrow, decide_eq_false hk1]
          cases y with
          | ab n =>
            simp only [siOf, sE, ty0, enc, encs] at hsg
            have hx : bEs [ofB (([], n), VT.nm nm n)] = [[.str [], .str n, .int .i64 3, .str nm, .str n, .slice []]] := by simp [bEs, bE, ofB, toTy, Ty.kind, Ty.mod, Ty.name, Ty.kids, encs]
            have hsX : ∀ (Y : List Box) Z, (H ++ Y).set b Z = H.set b Z ++ Y := fun Y Z => by rw [List.set_append_left _ _ hb2]
            have hgX : ∀ Y, (H ++ Y).getD b .dead = .row 6 (bEs ((strB nm (ys.take i)).map ofB)) 0 := fun Y => by rw [Abs.getD_append_left hb2]; exact hgb
            have hbX : ∀ n, b < H.length + n := fun n => by omega
            have hrs : bEs ((strB nm (ys.take i)).map ofB) ++ [[.str [], .str n, .int .i64 3, .str nm, .str n, .slice []]] = bEs ((strB nm (ys.take (i + 1))).map ofB) := by
              rw [hsb, ← hx]; simp [abB, bEs]
            simp only [zW, zX, zD, builtinA, isLeaf, const1, ustrA, simprocAttr, ti3, ti4, ti5, ti9, ti22, ti23, ti29, ti32, ti34, ti36, ca5, ca6, ca7, ca8, ca9, ca10, ca11, cf, Tryz.results3, hlen, hsg]
            refine ⟨pj, pi, ?_⟩
            refine .inr (drawE_intro [(false, 0, 1), (false, 0, 0), (false, 0, 0), (false, 0, 0), (false, 0, 0), (false, 0, 0), (false, 0, 0), (false, 0, 0), (false, 0, 0), (false, 0, 0), (false, 0, 0), (false, 0, 0), (false, 0, 0), (false, 0, 0), (true, 0, 0), (true, 1, 1), (false, 2, 2)] [H, H ++ [.row 6 [[.str [], .str n, .int .i64 3, .str nm, .str n, .slice []]] 0], H.set b .dead ++ [.row 6 [[.str [], .str n, .int .i64 3, .str nm, .str n, .slice []]] 0, .row 6 (bEs ((strB nm (ys.take i)).map ofB) ++ [[.str [], .str n, .int .i64 3, .str nm, .str n, .slice []]]) 0]] 2 rfl (by kernel_rfl) (by kernel_rfl) (by kernel_rfl) (by kernel_rfl) (by kernel_rfl) (by kernel_rfl) ?_)
            simp only [zW, zX, zD, builtinA, isLeaf, const1, ustrA, simprocAttr, ti3, ti4, ti5, ti9, ti22, ti23, ti29, ti32, ti34, ti36, ca5, ca6, ca7, ca8, ca9, ca10, ca11, cf, Tryz.results3, hlen, hsg, hgX, hsX, hbX]
            refine ⟨pi, pi, by simp, ⟨by simp, by rw [bEs_length, List.length_map]; have := strB_len nm (ys.take i); rw [List.length_take] at this; omega⟩, ?_⟩
            rw [hrs]
            simp only [zW, zX, zD, builtinA, isLeaf, const1, ustrA, simprocAttr, ti3, ti4, ti5, ti9, ti22, ti23, ti29, ti32, ti34, ti36, ca5, ca6, ca7, ca8, ca9, ca10, ca11, cf, Tryz.results3, hi1, LoopK_eq]
            refine ⟨⟨i + 1, H.length + 1, by omega, rfl, fun q hq => ?_, by omega, by simp, ?_⟩, ?_⟩
            · rw [Abs.getD_append_left (by simp; omega), getD_set_ne' (by omega)]; exact hf q hq
            · rw [Abs.getD_append_right (by simp)]; simp
            · simp only [intOf]; omega
          | al n v =>
            simp only [siOf, sE] at hsg
            have hsb2 : strB nm (ys.take (i + 1)) = strB nm (ys.take i) := by rw [hsb]; simp [abB]
            simp only [zW, zX, zD, builtinA, isLeaf, const1, ustrA, simprocAttr, ti3, ti4, ti5, ti9, ti22, ti23, ti29, ti32, ti34, ti36, ca5, ca6, ca7, ca8, ca9, ca10, ca11, cf, Tryz.results3, hlen, hsg, enc_length]
            refine ⟨pj, pi, ?_⟩
            simp only [zW, zX, zD, builtinA, isLeaf, const1, ustrA, simprocAttr, ti3, ti4, ti5, ti9, ti22, ti23, ti29, ti32, ti34, ti36, ca5, ca6, ca7, ca8, ca9, ca10, ca11, cf, Tryz.results3, hi1, LoopK_eq]
            refine ⟨⟨i + 1, b, by omega, rfl, hf, hb1, hb2, by rw [hsb2]; exact hgb⟩, ?_⟩
            simp only [intOf]; omega
          | va n v =>
            simp only [siOf, sE] at hsg
            have hsb2 : strB nm (ys.take (i + 1)) = strB nm (ys.take i) := by rw [hsb]; simp [abB]
            simp only [zW, zX, zD, builtinA, isLeaf, const1, ustrA, simprocAttr, ti3, ti4, ti5, ti9, ti22, ti23, ti29, ti32, ti34, ti36, ca5, ca6, ca7, ca8, ca9, ca10, ca11, cf, Tryz.results3, hlen, hsg, enc_length]
            refine ⟨pj, pi, ?_⟩
            simp only [zW, zX, zD, builtinA, isLeaf, const1, ustrA, simprocAttr, ti3, ti4, ti5, ti9, ti22, ti23, ti29, ti32, ti34, ti36, ca5, ca6, ca7, ca8, ca9, ca10, ca11, cf, Tryz.results3, hi1, LoopK_eq]
            refine ⟨⟨i + 1, b, by omega, rfl, hf, hb1, hb2, by rw [hsb2]; exact hgb⟩, ?_⟩
            simp only [intOf]; omega
        · have hie : i = ys.length := by simp at h2; omega
          subst hie
          have hfj := hf
          rw [List.take_length] at hgb
          have hAH : A'.length < H.length := by omega
          clear hf hb1 hgj
          have hgY : ∀ Y, (H ++ Y).getD j .dead = .gr none 6 rows := fun Y => by rw [Abs.getD_append_left (by omega)]; exact (hfj j hjl).trans hg
          have hGY : ∀ Y, OwnG (H ++ Y) ((ys.map (strI nm)).map siOf) rows S' := fun Y => hG.frame fun q hq => by
            have := hlA q (by simp [hq])
            rw [Abs.getD_append_left (by omega)]; exact hfj q this
          have hbY : ∀ Y, (H ++ Y).getD b .dead = .row 6 (bEs ((strB nm ys).map ofB)) 0 := fun Y => by rw [Abs.getD_append_left hb2]; exact hgb
          have hbdl : ((strB nm ys).map ofB).length ≤ 1048576 := by rw [List.length_map]; have := strB_len nm ys; omega
          have hbdo : ∀ x ∈ (strB nm ys).map ofB, x.Ok := fun x hx => by
            obtain ⟨q, hq, rfl⟩ := List.mem_map.1 hx
            have h1 := strB_ok hrd hmd q hq
            have := nm_short h1.2
            exact ⟨by simp only [ofB]; omega, by simp only [ofB]; omega, ok_toTyS _ h1.1.ok⟩
          simp only [zW, zX, zD, builtinA, isLeaf, const1, ustrA, simprocAttr, ti3, ti4, ti5, ti9, ti22, ti23, ti29, ti32, ti34, ti36, ca5, ca6, ca7, ca8, ca9, ca10, ca11, cf, Tryz.results3]
          refine aloop_intro [3, 5, 9, 11] (fun e K => ∃ (i : Nat) (Y : List Box), i ≤ s.length ∧ e = [(3, .slice (sEs s)), (5, .own j), (9, .own b), (11, .int .i64 i)] ∧ K = H ++ Y) (fun e _ => s.length - (intOf (Abs.look 11 e)).toNat) ?_ ?_
          · simp only [zW, zX, zD, builtinA, isLeaf, const1, ustrA, simprocAttr, ti3, ti4, ti5, ti9, ti22, ti23, ti29, ti32, ti34, ti36, ca5, ca6, ca7, ca8, ca9, ca10, ca11, cf, Tryz.results3]
            exact ⟨0, [], by omega, rfl, by simp⟩
          · rintro e K ⟨i, Y, hi, rfl, rfl⟩
            simp only [zW, zX, zD, builtinA, isLeaf, const1, ustrA, simprocAttr, ti3, ti4, ti5, ti9, ti22, ti23, ti29, ti32, ti34, ti36, ca5, ca6, ca7, ca8, ca9, ca10, ca11, cf, Tryz.results3, hlen]
            refine condK_intro (fun h2 => ?_) (fun h2 => ?_)
            · have hi2 : i < s.length := by simpa using h2
              have hi1 : IntKind.i64.wrap ((i : Int) + 1) = ((i + 1 : Nat) : Int) := by rw [wrap64 (by omega) (by omega)]; rfl
              have pi : (0 : Int) ≤ (i : Int) ∧ (i : Int) < (s.length : Int) := ⟨by omega, by omega⟩
              have hsg := sEs_getD hi2
              rw [sE] at hsg
              generalize (s.getD i si0).name = n at *
              generalize (s.getD i si0).kind = kk at *
              generalize (s.getD i si0).typ = tt at *
              obtain ⟨o1, ho1⟩ := meanIs_ex s (true, n)
              obtain ⟨o2, ho2⟩ := meanIs_ex ((ys.map (strI nm)).map siOf) (true, n)
              obtain ⟨o3, ho3⟩ := subIs_ex (oTyS o1) ((strB nm ys).map ofB)
              obtain ⟨k1, m1, n1, ks1, hρ1⟩ : ∃ k m n ks, oTyS o1 = .mk k m n ks := by cases oTyS o1; exact ⟨_, _, _, _, rfl⟩
              obtain ⟨k2, m2, n2, ks2, hρ2⟩ : ∃ k m n ks, oTyS o2 = .mk k m n ks := by cases oTyS o2; exact ⟨_, _, _, _, rfl⟩
              obtain ⟨k3, m3, n3, ks3, hρ3⟩ : ∃ k m n ks, oTyS o3 = .mk k m n ks := by cases oTyS o3; exact ⟨_, _, _, _, rfl⟩
              have hF1 : ∀ A, ACalls Tryz.prog 9 [.slice (sEs s), .str n] A (OutS A k1 m1 n1 ks1 o1.isSome) := fun A => (new_call (fun A => (impl_FindVal s (by omega) hso n A).mono fun r A' h => by
                obtain ⟨o', h1, h2⟩ := h
                rw [meanIs_one h1 ho1] at h2
                exact h2) A).mono fun r A' h => outS_of hρ1 h
              have hF2 : ∀ A, ACalls Tryz.prog 9 [.slice (sEs ((ys.map (strI nm)).map siOf)), .str n] A (SubNew A o2) := new_call fun A => (impl_FindVal _ (by omega) hxo n A).mono fun r A' h => by
                obtain ⟨o', h1, h2⟩ := h
                rw [meanIs_one h1 ho2] at h2
                exact h2
              simp only [zW, zX, zD, builtinA, isLeaf, const1, ustrA, simprocAttr, ti3, ti4, ti5, ti9, ti22, ti23, ti29, ti32, ti34, ti36, ca5, ca6, ca7, ca8, ca9, ca10, ca11, cf, Tryz.results3, hlen, hsg, enc_length]
              refine ⟨pi, ?_⟩
              refine callO_intro (hF1 _) ?_
              rintro r A5 ⟨B5, v5, S5, hA5, rfl, hK5, hN5, hR5⟩
              have c5 : ∀ Z, (A5 ++ [Box.cells [.int .i64 k1, .str m1, .str n1, v5]] ++ Z).getD A5.length .dead = .cells [.int .i64 k1, .str m1, .str n1, v5] := fun Z => by
                rw [Abs.getD_append_left (by simp), Abs.getD_append_right (Nat.le_refl _)]; simp
              have hK5' : ∀ Z, OwnK (A5 ++ [Box.cells [.int .i64 k1, .str m1, .str n1, v5]] ++ Z) ks1 v5 S5 := fun Z => hK5.frame fun i hi => by
                rw [List.append_assoc]; exact Abs.getD_append_left (hR5 i hi).2
              obtain ⟨Y5, hY5⟩ : ∃ Y5, A5 ++ [Box.cells [.int .i64 k1, .str m1, .str n1, v5]] = H ++ Y5 := ⟨_, by rw [hA5, List.append_assoc, List.append_assoc]⟩
              have l5 : A5.length < (H ++ Y5).length := by rw [← hY5]; simp
              rw [hY5] at c5 hK5'
              clear hA5 hK5 hR5 hN5
              simp only [zW, zX, zD, builtinA, isLeaf, const1, ustrA, simprocAttr, ti3, ti4, ti5, ti9, ti22, ti23, ti29, ti32, ti34, ti36, ca5, ca6, ca7, ca8, ca9, ca10, ca11, cf, Tryz.results3, hlen, hsg, enc_length]
              refine ⟨pi, ?_⟩
              rw [hY5]
              clear hY5
              refine callO_intro (new_view hF2 (.cons (OwnG.viewG (hgY Y5) (hGY Y5)) (.cons (.leaf _ rfl) .nil))) ?_
              intro r A6 hA6r
              obtain ⟨B6, v6, S6, hA6, rfl, hK6, hN6, hR6⟩ := outS_of hρ2 hA6r
              clear hA6r
              have c6 : ∀ Z, (A6 ++ [Box.cells [.int .i64 k2, .str m2, .str n2, v6]] ++ Z).getD A6.length .dead = .cells [.int .i64 k2, .str m2, .str n2, v6] := fun Z => by
                rw [Abs.getD_append_left (by simp), Abs.getD_append_right (Nat.le_refl _)]; simp
              have hK6' : ∀ Z, OwnK (A6 ++ [Box.cells [.int .i64 k2, .str m2, .str n2, v6]] ++ Z) ks2 v6 S6 := fun Z => hK6.frame fun i hi => by
                rw [List.append_assoc]; exact Abs.getD_append_left (hR6 i hi).2
              obtain ⟨Y6, hY6⟩ : ∃ Y6, A6 ++ [Box.cells [.int .i64 k2, .str m2, .str n2, v6]] = H ++ Y5 ++ Y6 := ⟨_, by rw [hA6, List.append_assoc]⟩
              have l6 : A6.length < (H ++ Y5 ++ Y6).length := by rw [← hY6]; simp
              rw [hY6] at c6 hK6'
              clear hA6 hK6 hR6 hN6
              simp only [List.append_assoc] at c5 c6 hK5' hK6'
              simp only [zW, zX, zD, builtinA, isLeaf, const1, ustrA, simprocAttr, ti3, ti4, ti5, ti9, ti22, ti23, ti29, ti32, ti34, ti36, ca5, ca6, ca7, ca8, ca9, ca10, ca11, cf, Tryz.results3, hlen, hsg, enc_length]
              rw [hY6]
              clear hY6
              simp only [zW, zX, zD, builtinA, isLeaf, const1, ustrA, simprocAttr, ti3, ti4, ti5, ti9, ti22, ti23, ti29, ti32, ti34, ti36, ca5, ca6, ca7, ca8, ca9, ca10, ca11, cf, Tryz.results3, c5, hbY, enc_length, enc_take, enc_drop, frzL_enc, enc_closed, Option.map_some]
              have hv5 := (hK5' Y6).viewT k1 m1 n1
              rw [← hρ1] at hv5
              refine callO_intro (impl_subst_b ho3 hbdl hbdo (.cons hv5 (.cons (.row b 6 0 (bEs ((strB nm ys).map ofB)) (bEs ((strB nm ys).map ofB)) (hbY _) rfl (bEs_leaf _) (bEs_view _ _)) .nil))) ?_
              intro r A7 hA7r
              obtain ⟨B7, v7, S7, hA7, rfl, hK7, hN7, hR7⟩ := outS_of hρ3 hA7r
              clear hA7r
              have c7 : (A7 ++ [Box.cells [.int .i64 k3, .str m3, .str n3, v7]]).getD A7.length .dead = .cells [.int .i64 k3, .str m3, .str n3, v7] := by
                rw [Abs.getD_append_right (Nat.le_refl _)]; simp
              have hK7' : OwnK (A7 ++ [Box.cells [.int .i64 k3, .str m3, .str n3, v7]]) ks3 v7 S7 := hK7.frame fun i hi => Abs.getD_append_left (hR7 i hi).2
              obtain ⟨Y7, hY7⟩ : ∃ Y7, A7 ++ [Box.cells [.int .i64 k3, .str m3, .str n3, v7]] = H ++ (Y5 ++ (Y6 ++ Y7)) := ⟨B7 ++ [Box.cells [.int .i64 k3, .str m3, .str n3, v7]], by rw [hA7]; simp only [List.append_assoc]⟩
              rw [hY7] at c7 hK7'
              clear hA7 hK7 hR7 hN7
              simp only [zW, zX, zD, builtinA, isLeaf, const1, ustrA, simprocAttr, ti3, ti4, ti5, ti9, ti22, ti23, ti29, ti32, ti34, ti36, ca5, ca6, ca7, ca8, ca9, ca10, ca11, cf, Tryz.results3]
              rw [hY7]
              clear hY7
              cases o1 with
              | none =>
                simp only [zW, zX, zD, builtinA, isLeaf, const1, ustrA, simprocAttr, ti3, ti4, ti5, ti9, ti22, ti23, ti29, ti32, ti34, ti36, ca5, ca6, ca7, ca8, ca9, ca10, ca11, cf, Tryz.results3, hi1, LoopK_eq, Option.isSome_none]
                refine ⟨⟨i + 1, _, by omega, rfl, rfl⟩, ?_⟩
                simp only [intOf]; omega
              | some v =>
                cases o2 with
                | none =>
                  simp only [zW, zX, zD, builtinA, isLeaf, const1, ustrA, simprocAttr, ti3, ti4, ti5, ti9, ti22, ti23, ti29, ti32, ti34, ti36, ca5, ca6, ca7, ca8, ca9, ca10, ca11, cf, Tryz.results3, hi1, LoopK_eq, Option.isSome_none, Option.isSome_some]
                  refine ⟨⟨i + 1, _, by omega, rfl, rfl⟩, ?_⟩
                  simp only [intOf]; omega
                | some w =>
                  cases o3 with
                  | none =>
                    simp only [zW, zX, zD, builtinA, isLeaf, const1, ustrA, simprocAttr, ti3, ti4, ti5, ti9, ti22, ti23, ti29, ti32, ti34, ti36, ca5, ca6, ca7, ca8, ca9, ca10, ca11, cf, Tryz.results3, hi1, LoopK_eq, Option.isSome_none, Option.isSome_some]
                    refine ⟨⟨i + 1, _, by omega, rfl, rfl⟩, ?_⟩
                    simp only [intOf]; omega
                  | some z =>
                    have hwz := str_subIs h8 hrd hord hmd ho1 ho2 ho3
                    subst hwz
                    have e23 : Ty.mk k2 m2 n2 ks2 = .mk k3 m3 n3 ks3 := by rw [← hρ2, ← hρ3]
                    have hsz2 := oTyS_sz ho2
                    have htr : ∀ A, ACalls Tryz.prog 11 [.agg (enc (.mk k2 m2 n2 ks2)), .agg (enc (.mk k3 m3 n3 ks3))] A (fun r A' => r = .bool true ∧ A' = A) := fun A => by
                      have h := impl_TypeSame (.mk k2 m2 n2 ks2) (.mk k3 m3 n3 ks3) (by rw [← hρ2]; omega) (by rw [← e23, ← hρ2]; omega) A
                      rwa [decide_eq_true e23] at h
                    simp only [zW, zX, zD, builtinA, isLeaf, const1, ustrA, simprocAttr, ti3, ti4, ti5, ti9, ti22, ti23, ti29, ti32, ti34, ti36, ca5, ca6, ca7, ca8, ca9, ca10, ca11, cf, Tryz.results3, c6, c7, Option.isSome_some, enc_length, enc_take, enc_drop, frzL_enc, enc_closed, Option.map_some]
                    refine callO_intro (borrowI (.cons ((hK6' Y7).viewT k2 m2 n2) (.cons (hK7'.viewT k3 m3 n3) .nil)) rfl htr) ?_
                    rintro r A' ⟨rfl, rfl⟩
                    simp only [zW, zX, zD, builtinA, isLeaf, const1, ustrA, simprocAttr, ti3, ti4, ti5, ti9, ti22, ti23, ti29, ti32, ti34, ti36, ca5, ca6, ca7, ca8, ca9, ca10, ca11, cf, Tryz.results3, hi1, LoopK_eq]
                    refine ⟨⟨i + 1, _, by omega, rfl, rfl⟩, ?_⟩
                    simp only [intOf]; omega
            · have hie2 : decide ((ys.length : Int) = (s.length : Int)) = true := decide_eq_true (by omega)
              simp only [zW, zX, zD, builtinA, isLeaf, const1, ustrA, simprocAttr, ti3, ti4, ti5, ti9, ti22, ti23, ti29, ti32, ti34, ti36, ca5, ca6, ca7, ca8, ca9, ca10, ca11, cf, Tryz.results3, hlen, hgY, hrl, hie2]
theorem strSig_rec : ∀ t ∈ Tryz.f3.params.toList, Tryz.prog.readableRec t = true ∧ t < Tryz.prog.types.size := by
  rw [Tryz.params3]
  intro t ht
  simp at ht
  subst ht
  exact ⟨by kernel_rfl, of_decide_eq_true (by kernel_rfl)⟩
set_option maxRecDepth 100000 in
theorem strSig_lifted (os : Os) (started : os.Started) (H : Type) (enc' : TypeId × Value → H) :
    ReturnsInHanded {} Tryz.checked os 3 .any (Rows.fnStrengthenSigSpec.pre6 enc' Tryz.prog Tryz.f3 Rows.fnStrengthenSigRow.domain false) (Rows.fnStrengthenSigSpec.post enc' Tryz.prog Tryz.f3 false true false false) := by
  refine returnsInHanded_of_change (C := Tryz.checked) ownk started (by kernel_rfl) Tryz.func3
    (ChangeSpec.witness6 (enc := enc') (C := Tryz.checked) false ⟨#[], #[.slice none 0 0], []⟩ 8 (by kernel_rfl) (by kernel_rfl) (by kernel_rfl) (by kernel_rfl)) ?_
  intro W base args ds gs before hval0 hW hcnd _
  have hval : ∀ (j : Nat) t v, Tryz.f3.params[j]? = some t → args[j]? = some v → Value.okWide Tryz.prog W .any base t v := hval0
  have hW' := hW
  obtain ⟨p, q, hA0, hV, rfl, hfz, hnd⟩ := hW
  have hA : DataW.TrodAll enc' Tryz.prog W 0 (fun _ => true) true Tryz.f3.params.toList args.toList ds p := hA0
  rw [Tryz.params3] at hA hval
  have hlt := hA.lt
  obtain ⟨v0, d0, rfl, rfl, h0⟩ := trodAll_one hA
  obtain ⟨rfl, rfl⟩ := trodVars_none hV
  obtain ⟨x0, r0⟩ := rv_bytes Tryz.underlying22 Tryz.underlying5 (by kernel_rfl) (hval 0 22 v0 rfl rfl) h0 (fun x hx => hlt x (by simp [hx]))
  refine (law_calls (strSig_true x0) (.cons r0 .nil)).mono fun e W' ⟨he, hb⟩ => ?_
  subst he
  exact ⟨_, rfl, law_post laid strSig_rec rfl Tryz.underlying4 (by kernel_rfl) ⟨rfl, rfl⟩ rfl hW' hb⟩
theorem strSig_facts : joinedFacts Tryz.pinned.checked.prog 3 Tryz.f3 Rows.fnStrengthenSigSpec Rows.fnStrengthenSigRow = true := by kernel_rfl
theorem strSig_holds : Rows.FnStrengthenSigSaid :=
  OpenClaim.holds_of_wide 3 Tryz.f3 rfl rfl rfl rfl rfl rfl rfl ⟨rfl, rfl, rfl, rfl, rfl⟩ rfl rfl rfl rfl rfl (by kernel_rfl) Tryz.func3 strSig_facts
    (of_decide_eq_true (by kernel_rfl)) (by unfold Func.isWrapper; first | (rw [if_pos (by decide +kernel)]; kernel_rfl) | (rw [if_neg (by decide +kernel)]; exact ⟨rfl, rfl⟩))
    (fun os started H enc' _ => strSig_lifted os started H enc')
end Go.Proofs.YtngheinmebopeaaGreat

