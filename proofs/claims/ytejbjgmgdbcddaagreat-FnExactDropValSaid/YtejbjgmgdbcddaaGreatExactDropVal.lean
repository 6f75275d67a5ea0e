/- For every list of items and every name the program's DropVal answers as the model's DropVal does, in every field; what it hands back is memory of its own, which neither writing into the arguments nor a second call changes, and the arguments are not changed. No condition beside the row's own. -/
import Derived.Test.YtejbjgmgdbcddaaGreatSigCat
import Derived.Test.YtejbjgmgdbcddaaGreatSigLaw
import Derived.Test.YtejbjgmgdbcddaaGreatOwnSh
import Derived.Test.YtejbjgmgdbcddaaGreatAbsW3
set_option linter.unusedVariables false
set_option linter.unusedSimpArgs false
namespace Go.Proofs.YtejbjgmgdbcddaaGreat
open Go.Abs Go.RowKit Go.ChangeShapes Go.WideShapes Go.ChangeAt Go.ChangeMaps

set_option maxRecDepth 100000 in
set_option maxHeartbeats 4000000 in
theorem exactDropVal_true (s : List SigI) (hso : SigsOk s) (nm : List UInt8) : ACalls Tryz.prog 4 [.aslice (sEAs s), .str nm] [] (fun v _ => v = .bool true) := by
  obtain ⟨hbl, hbo⟩ := hso
  have hszb := fun A l h1 h2 => laws_szSigItemS s hbl hbo l A h1 h2
  by_cases hl : nm.length ≤ 1048576
  · have hd : decide ((1048576 : Int) < (nm.length : Int)) = false := decide_eq_false (by omega)
    by_cases hs2 : ((s.length + szIs s : Nat) : Int) ≤ 1048576
    · have hv2 : left 1048576 (s.length + szIs s) = 1048576 - (s.length + szIs s : Nat) := by rw [left, if_pos (by omega)]
      have hn2 : decide ((1048576 : Int) - (s.length + szIs s : Nat) < 0) = false := decide_eq_false (by omega)
      have hbz : ∀ b ∈ s, szI b ≤ 1048576 := fun b hb => by have := szIs_mem hb; omega
      have hbo2 : ∀ x ∈ s, x.Ok ∧ sz x.typ ≤ 1048576 := fun x hx => ⟨hbo x hx, by have := hbz x hx; rw [szI] at this; omega⟩
      obtain ⟨xs, hxs⟩ : ∃ xs, xs = (drT s nm).getD [] := ⟨_, rfl⟩
      have hx1 := drX_ok hbo nm
      rw [← hxs] at hx1
      obtain ⟨hxl, hxo, hxc⟩ := hx1
      have hspec := spec_DropVal s (by omega) hbo2 nm
      have himpl := sg_call fun A => impl_DropVal s (by omega) hbo2 nm A
      rw [← hxs] at hspec himpl
      generalize (drT s nm).isSome = ok at hspec himpl
      have himb : ∀ (A : List Box) (args : List AV), Views A args [.slice (sEs s), .str nm] → ACalls Tryz.prog 13 args A (SgNew A xs ok) := fun A args h => sg_view himpl h
      clear hxs
      have htob := laws_toSigItemS s (by omega) (by omega)
      have heqb := laws_eqSigItemS s hbl hbo
      have heqx := laws_eqSigItemS xs (by omega) hxo
      have htbn := toSigIS_own s (by omega) hbz
      have htb := totG_sz s
      have hge1 : decide ((1 : Int) + (totG s : Int) < 0) = false := decide_eq_false (by omega)
      have hge2 : decide ((1 : Int) + (totG xs : Int) < 0) = false := decide_eq_false (by omega)
      have hne : ∀ x : Int, decide (¬ x = x) = false := fun x => by simp
      have hnb : decide (¬ ok = ok) = false := by simp
      refine acalls_enter (cf := cf 104 [0, 1, 4, 5, 6, 7, 8, 9, 10, 11, 12, 13, 14, 15, 18, 23, 47, 52, 68, 76, 79, 95, 100, 103]) foll Tryz.func4 Tryz.ntmps4 (by simp [cf]) ?_
      simp only [Tryz.f4, EnterK_some, zW, zX, zD, builtinA, isLeaf, const1, ustrA, simprocAttr, ti3, ti4, ti9, ca5, ca7, ca9, ca10, ca11, ca12, ca13, cf, Tryz.results4]
      simp only [zW, zX, zD, builtinA, isLeaf, const1, ustrA, simprocAttr, ti3, ti4, ti9, ca5, ca7, ca9, ca10, ca11, ca12, ca13, cf, Tryz.results4, hd]
      refine callK_intro (by simp only [zW, zX, zD, builtinA, isLeaf, const1, ustrA, simprocAttr, Option.map_some]; rfl) (hszb _ _ (by omega) (by omega)) ?_ rfl; rintro v A' ⟨rfl, rfl⟩
      rw [hv2]
      simp only [zW, zX, zD, builtinA, isLeaf, const1, ustrA, simprocAttr, ti3, ti4, ti9, ca5, ca7, ca9, ca10, ca11, ca12, ca13, cf, Tryz.results4, hn2]
      refine callK_intro (by simp only [zW, zX, zD, builtinA, isLeaf, const1, ustrA, simprocAttr, Option.map_some]; rfl) (htob _) ?_ rfl; rintro v A' ⟨rfl, rfl⟩
      simp only [zW, zX, zD, builtinA, isLeaf, const1, ustrA, simprocAttr, ti3, ti4, ti9, ca5, ca7, ca9, ca10, ca11, ca12, ca13, cf, Tryz.results4]
      refine callK_intro (by simp only [zW, zX, zD, builtinA, isLeaf, const1, ustrA, simprocAttr, Option.map_some]; rfl) (hspec _) ?_ rfl; rintro v A' ⟨rfl, rfl⟩
      simp only [zW, zX, zD, builtinA, isLeaf, const1, ustrA, simprocAttr, ti3, ti4, ti9, ca5, ca7, ca9, ca10, ca11, ca12, ca13, cf, Tryz.results4]
      refine callK_intro (by simp only [zW, zX, zD, builtinA, isLeaf, const1, ustrA, simprocAttr, Option.map_some] <;> rfl) (htbn _) ?_ rfl
      rintro r A4 ⟨jb, rfl, hle4, hf4, rowsb, Sb, hgb, hRb, hNb, hgeb⟩
      have hlb : ∀ i ∈ jb :: Sb, i < A4.length := fun i hi => by
        rcases List.mem_cons.1 hi with rfl | hi
        · exact live_lt hgb (by simp)
        · exact hRb.low i hi
      clear hf4
      simp only [zW, zX, zD, builtinA, isLeaf, const1, ustrA, simprocAttr, ti3, ti4, ti9, ca5, ca7, ca9, ca10, ca11, ca12, ca13, cf, Tryz.results4]
      refine callO_intro (himb _ _ (.cons (OwnG.viewG hgb hRb) (.cons (.leaf _ rfl) .nil))) ?_
      rintro r A5 ⟨B5, v, S5, hA5, hB5, rfl, hv5, hK5, hN5, hR5⟩
      have f5 : ∀ i, i < A4.length → A5.getD i .dead = A4.getD i .dead := fun i hi => by rw [hA5, Abs.getD_append_left hi]
      have hb6 : A5.getD jb .dead = .gr none 6 rowsb := (f5 jb (hlb jb (by simp))).trans hgb
      have hB6 : OwnG A5 s rowsb Sb := hRb.frame fun i hi => f5 i (hlb i (by simp [hi]))
      clear f5 hgb hRb hA5
      simp only [zW, zX, zD, builtinA, isLeaf, const1, ustrA, simprocAttr, ti3, ti4, ti9, ca5, ca7, ca9, ca10, ca11, ca12, ca13, cf, Tryz.results4]
      refine callO_intro (borrow0 (.cons hK5.view (.cons (.leaf _ rfl) .nil)) rfl heqx) ?_
      rintro r A' ⟨rfl, rfl⟩
      simp only [zW, zX, zD, builtinA, isLeaf, const1, ustrA, simprocAttr, ti3, ti4, ti9, ca5, ca7, ca9, ca10, ca11, ca12, ca13, cf, Tryz.results4, hnb]
      refine callK_intro (by simp only [zW, zX, zD, builtinA, isLeaf, const1, ustrA, simprocAttr, Option.map_some]; rfl) (htob _) ?_ rfl; rintro v A' ⟨rfl, rfl⟩
      simp only [zW, zX, zD, builtinA, isLeaf, const1, ustrA, simprocAttr, ti3, ti4, ti9, ca5, ca7, ca9, ca10, ca11, ca12, ca13, cf, Tryz.results4]
      refine callO_intro (borrow0 (.cons (OwnG.viewG hb6 hB6) (.cons (.leaf _ rfl) .nil)) rfl heqb) ?_
      rintro r A' ⟨rfl, rfl⟩
      simp only [zW, zX, zD, builtinA, isLeaf, const1, ustrA, simprocAttr, ti3, ti4, ti9, ca5, ca7, ca9, ca10, ca11, ca12, ca13, cf, Tryz.results4]
      refine callO_intro (laws_markSigItemS s hbl hbo _ jb rowsb Sb 1 hb6 hB6 hNb (by omega) (by omega)) ?_
      rintro r A8 ⟨rfl, l8, f8⟩
      have hK8 : OwnI A8 xs v S5 := hK5.frame fun i hi => f8 i (fun h => by have := hlb _ h; have := hR5 i hi; omega)
      clear f8 hb6 hB6 hK5
      simp only [zW, zX, zD, builtinA, isLeaf, const1, ustrA, simprocAttr, ti3, ti4, ti9, ca5, ca7, ca9, ca10, ca11, ca12, ca13, cf, Tryz.results4, hge1]
      refine callO_intro (borrow0 (.cons hK8.view (.cons (.leaf _ rfl) .nil)) rfl heqx) ?_
      rintro r A' ⟨rfl, rfl⟩
      simp only [zW, zX, zD, builtinA, isLeaf, const1, ustrA, simprocAttr, ti3, ti4, ti9, ca5, ca7, ca9, ca10, ca11, ca12, ca13, cf, Tryz.results4, hnb]
      refine callO_intro (laws_markI xs (by omega) hxo _ v S5 1 hK8 hN5 (by omega) (by omega)) ?_
      rintro r A9 ⟨rfl, l9, hK9⟩
      simp only [zW, zX, zD, builtinA, isLeaf, const1, ustrA, simprocAttr, ti3, ti4, ti9, ca5, ca7, ca9, ca10, ca11, ca12, ca13, cf, Tryz.results4]
      refine callO_intro (borrow0 (.cons hK9.view (.cons (.leaf _ rfl) .nil)) rfl (fun A => laws_heldSigItemS xs (by omega) hxo 1 (by omega) (by omega) A)) ?_
      rintro r A' ⟨rfl, rfl⟩
      simp only [zW, zX, zD, builtinA, isLeaf, const1, ustrA, simprocAttr, ti3, ti4, ti9, ca5, ca7, ca9, ca10, ca11, ca12, ca13, cf, Tryz.results4, hge2, hne]
      refine callK_intro (by simp only [zW, zX, zD, builtinA, isLeaf, const1, ustrA, simprocAttr, Option.map_some]; rfl) (htob _) ?_ rfl; rintro v A' ⟨rfl, rfl⟩
      simp only [zW, zX, zD, builtinA, isLeaf, const1, ustrA, simprocAttr, ti3, ti4, ti9, ca5, ca7, ca9, ca10, ca11, ca12, ca13, cf, Tryz.results4]
      refine callK_intro (by simp only [zW, zX, zD, builtinA, isLeaf, const1, ustrA, simprocAttr, Option.map_some] <;> rfl) (himpl _) ?_ rfl
      rintro r A10 ⟨B10, v2, S10, hA10, hB10, rfl, hv10, hK10, hN10, hR10⟩
      have hM11 : OwnI A10 (markG xs 1) v S5 := hK9.frame fun i hi => by rw [hA10, Abs.getD_append_left (hK9.low i hi)]
      clear hA10
      simp only [zW, zX, zD, builtinA, isLeaf, const1, ustrA, simprocAttr, ti3, ti4, ti9, ca5, ca7, ca9, ca10, ca11, ca12, ca13, cf, Tryz.results4]
      refine callO_intro (borrow0 (.cons hK10.view (.cons (.leaf _ rfl) .nil)) rfl heqx) ?_
      rintro r A' ⟨rfl, rfl⟩
      simp only [zW, zX, zD, builtinA, isLeaf, const1, ustrA, simprocAttr, ti3, ti4, ti9, ca5, ca7, ca9, ca10, ca11, ca12, ca13, cf, Tryz.results4, hnb]
      refine callO_intro (borrow0 (.cons hM11.view (.cons (.leaf _ rfl) .nil)) rfl (fun A => laws_heldSigItemS xs (by omega) hxo 1 (by omega) (by omega) A)) ?_
      rintro r A' ⟨rfl, rfl⟩
      simp only [zW, zX, zD, builtinA, isLeaf, const1, ustrA, simprocAttr, ti3, ti4, ti9, ca5, ca7, ca9, ca10, ca11, ca12, ca13, cf, Tryz.results4, hge2, hne]
    · have hv2 : left 1048576 (s.length + szIs s) = -1 := by rw [left, if_neg (by omega)]
      refine acalls_enter (cf := cf 104 [0, 1, 4, 5, 6, 7, 8, 9, 10, 11, 12, 13, 14, 15, 18, 23, 47, 52, 68, 76, 79, 95, 100, 103]) foll Tryz.func4 Tryz.ntmps4 (by simp [cf]) ?_
      simp only [Tryz.f4, EnterK_some, zW, zX, zD, builtinA, isLeaf, const1, ustrA, simprocAttr, ti3, ti4, ti9, ca5, ca7, ca9, ca10, ca11, ca12, ca13, cf, Tryz.results4]
      simp only [zW, zX, zD, builtinA, isLeaf, const1, ustrA, simprocAttr, ti3, ti4, ti9, ca5, ca7, ca9, ca10, ca11, ca12, ca13, cf, Tryz.results4, hd]
      refine callK_intro (by simp only [zW, zX, zD, builtinA, isLeaf, const1, ustrA, simprocAttr, Option.map_some]; rfl) (hszb _ _ (by omega) (by omega)) ?_ rfl; rintro v A' ⟨rfl, rfl⟩
      rw [hv2]
      simp only [zW, zX, zD, builtinA, isLeaf, const1, ustrA, simprocAttr, ti3, ti4, ti9, ca5, ca7, ca9, ca10, ca11, ca12, ca13, cf, Tryz.results4]
  · have hd : decide ((1048576 : Int) < (nm.length : Int)) = true := decide_eq_true (by omega)
    refine acalls_enter (cf := cf 104 [0, 1, 4, 5, 6, 7, 8, 9, 10, 11, 12, 13, 14, 15, 18, 23, 47, 52, 68, 76, 79, 95, 100, 103]) foll Tryz.func4 Tryz.ntmps4 (by simp [cf]) ?_
    simp only [Tryz.f4, EnterK_some, zW, zX, zD, builtinA, isLeaf, const1, ustrA, simprocAttr, ti3, ti4, ti9, ca5, ca7, ca9, ca10, ca11, ca12, ca13, cf, Tryz.results4]
    simp only [zW, zX, zD, builtinA, isLeaf, const1, ustrA, simprocAttr, ti3, ti4, ti9, ca5, ca7, ca9, ca10, ca11, ca12, ca13, cf, Tryz.results4, hd]

theorem exactDropVal_rec : ∀ t ∈ Tryz.f4.params.toList, Tryz.prog.readableRec t = true ∧ t < Tryz.prog.types.size := by
  rw [Tryz.params4]
  intro t ht
  simp at ht
  rcases ht with rfl | ht
  · exact ⟨by kernel_rfl, of_decide_eq_true (by kernel_rfl)⟩
  subst ht
  exact ⟨by kernel_rfl, of_decide_eq_true (by kernel_rfl)⟩
set_option maxRecDepth 100000 in
theorem exactDropVal_lifted (os : Os) (started : os.Started) (H : Type) (enc' : TypeId × Value → H) :
    ReturnsInHanded {} Tryz.checked os 4 .any (Rows.fnExactDropValSpec.pre6 enc' Tryz.prog Tryz.f4 Rows.fnExactDropValRow.domain false) (Rows.fnExactDropValSpec.post enc' Tryz.prog Tryz.f4 false true false false) := by
  refine returnsInHanded_of_change (C := Tryz.checked) ownk started (by kernel_rfl) Tryz.func4
    (ChangeSpec.witness6 (enc := enc') (C := Tryz.checked) false ⟨#[], #[.slice none 0 0, .string .empty], []⟩ 8 (by kernel_rfl) (by kernel_rfl) (by kernel_rfl) (by kernel_rfl)) ?_
  intro W base args ds gs before hval0 hW hcnd _
  have hval : ∀ (j : Nat) t v, Tryz.f4.params[j]? = some t → args[j]? = some v → Value.okWide Tryz.prog W .any base t v := hval0
  have hW' := hW
  obtain ⟨p, q, hA0, hV, rfl, hfz, hnd⟩ := hW
  have hA : DataW.TrodAll enc' Tryz.prog W 0 (fun _ => true) true Tryz.f4.params.toList args.toList ds p := hA0
  rw [Tryz.params4] at hA hval
  have hlt := hA.lt
  obtain ⟨v0, v1, d0, d1, p0, p1, rfl, rfl, rfl, h0, h1⟩ := trodAll_two hA
  obtain ⟨rfl, rfl⟩ := trodVars_none hV
  obtain ⟨x0, hx0, r0⟩ := rv_sigs (hval 0 22 v0 rfl rfl) h0
  obtain ⟨x1, e1, e1', e1'', ws1⟩ := open_string Tryz.underlying9 (hval 1 9 v1 rfl rfl) h1
  subst e1
  refine (law_calls (exactDropVal_true x0 hx0 x1.data.toList) (.cons r0 (.cons (rv_string _ x1) .nil))).mono fun e W' ⟨he, hb⟩ => ?_
  subst he
  exact ⟨_, rfl, law_post laid exactDropVal_rec rfl Tryz.underlying4 (by kernel_rfl) ⟨rfl, rfl⟩ rfl hW' hb⟩
theorem exactDropVal_facts : joinedFacts Tryz.pinned.checked.prog 4 Tryz.f4 Rows.fnExactDropValSpec Rows.fnExactDropValRow = true := by kernel_rfl
theorem exactDropVal_holds : Rows.FnExactDropValSaid :=
  OpenClaim.holds_of_wide 4 Tryz.f4 rfl rfl rfl rfl rfl rfl rfl ⟨rfl, rfl, rfl, rfl, rfl⟩ rfl rfl rfl rfl rfl (by kernel_rfl) Tryz.func4 exactDropVal_facts
    (of_decide_eq_true (by kernel_rfl)) (by unfold Func.isWrapper; first | (rw [if_pos (by decide +kernel)]; kernel_rfl) | (rw [if_neg (by decide +kernel)]; exact ⟨rfl, rfl⟩))
    (fun os started H enc' _ => exactDropVal_lifted os started H enc')
end Go.Proofs.YtejbjgmgdbcddaaGreat
