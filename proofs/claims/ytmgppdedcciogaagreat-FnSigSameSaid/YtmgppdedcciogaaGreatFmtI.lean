/- The program's FormatSig. -/
import Derived.Test.YtmgppdedcciogaaGreatSigPure
import Derived.Test.YtmgppdedcciogaaGreatFmtSig
import Derived.Test.YtmgppdedcciogaaGreatAbsW3
set_option linter.unusedVariables false
set_option linter.unusedSimpArgs false
namespace Go.Proofs.YtmgppdedcciogaaGreat
open Go.Abs

theorem item_reads (x : SigI) : (∃ y, localB x.name = true ∧ ItemOf x y) ∨ itemOk x = false := by
  cases hl : localB x.name with
  | false => exact .inr (by simp [itemOk, hl])
  | true =>
    by_cases k1 : x.kind = 1
    · by_cases ht : x.typ = ty0
      · exact .inl ⟨.ab x.name, rfl, rfl, k1, ht⟩
      · exact .inr (by simp [itemOk, k1, ht])
    · by_cases k2 : x.kind = 2
      · rcases valid_cases x.typ with ⟨v, h1, h2⟩ | h
        · exact .inl ⟨.al x.name v, rfl, rfl, k2, h1, h2⟩
        · exact .inr (by simp [itemOk, k2, h])
      · by_cases k3 : x.kind = 3
        · rcases valid_cases x.typ with ⟨v, h1, h2⟩ | h
          · exact .inl ⟨.va x.name v, rfl, rfl, k3, h1, h2⟩
          · exact .inr (by simp [itemOk, k3, h])
        · exact .inr (by simp [itemOk, k1, k2, k3])
theorem reads_all : ∀ s : List SigI, (∃ ys, ReadsTo s ys) ∨ ∃ x ∈ s, itemOk x = false
  | [] => .inl ⟨[], rfl, fun i hi => by simp at hi⟩
  | x :: s => by
    rcases item_reads x with ⟨y, h1, h2⟩ | h
    · rcases reads_all s with ⟨ys, h3, h4⟩ | ⟨z, h5, h6⟩
      · refine .inl ⟨y :: ys, by simp [h3], fun i hi => ?_⟩
        cases i with
        | zero => exact ⟨h1, h2⟩
        | succ i => simpa using h4 i (by simpa using hi)
      · exact .inr ⟨z, .tail _ h5, h6⟩
    · exact .inr ⟨x, .head _, h⟩
theorem item_uniq {x : SigI} {y y' : VI} (h : ItemOf x y) (h' : ItemOf x y') : y = y' := by
  cases y <;> cases y'
  case ab.ab => rw [← h.1, ← h'.1]
  case al.al => rw [← h.1, ← h'.1, toTy_inj (h.2.2.1.symm.trans h'.2.2.1)]
  case va.va => rw [← h.1, ← h'.1, toTy_inj (h.2.2.1.symm.trans h'.2.2.1)]
  all_goals (have a := h.2.1; have b := h'.2.1; rw [a] at b; simp at b)
theorem reads_uniq {s : List SigI} {ys ys' : List VI} (h : ReadsTo s ys) (h' : ReadsTo s ys') : ys = ys' := by
  refine List.ext_getElem (by rw [h.1, h'.1]) fun i h1 h2 => ?_
  have := item_uniq (h.2 i (by rw [← h.1]; exact h1)).2 (h'.2 i (by rw [← h.1]; exact h1)).2
  simpa [List.getD, h1, h2] using this

set_option maxRecDepth 100000 in
theorem impl_FormatSig (s : List SigI) (hs : s.length ≤ 1048576) (ho : ∀ x ∈ s, x.Ok ∧ sz x.typ ≤ 1048576) (t : List UInt8)
    (ht : (∃ ys, s.length ≤ 8 ∧ ReadsTo s ys ∧ ordB ys = true ∧ t = txtS ys) ∨ (sigB s = false ∧ t = [])) (A : List Box) : ACalls Tryz.prog 12 [.slice (sEs s)] A (fun r A' => r = .str t ∧ A' = A) := by
  refine acalls_enter (cf := cf 15 [0, 2, 3, 4, 11]) foll Tryz.func12 Tryz.ntmps12 (by simp [cf]) ?_
  simp only [Tryz.f12, EnterK_some, zW, zX, zD, builtinA, isLeaf, const1, ustrA, simprocAttr, ti64, ti108, ca38, ca39, cf, Tryz.results12]
  refine callK_intro (by simp only [zW, zX, zD, builtinA, isLeaf, const1, ustrA, simprocAttr, Option.map_some]; rfl) (impl_readSig s hs ho _) ?_ rfl
  rintro r A' ⟨h, rfl⟩
  rcases ht with ⟨ys, h8, hr, hb, rfl⟩ | ⟨hb, rfl⟩
  · rcases h with ⟨ys', h8', hr', rfl⟩ | ⟨hbad, rfl⟩
    · have e := reads_uniq hr' hr
      subst e
      have hw : ∀ k, k < ys'.length → okI (ys'.getD k vi0) ∧ (nameI (ys'.getD k vi0)).length = 1 := fun k hk => by
        obtain ⟨a1, a2⟩ := hr.2 k (by rw [← hr.1]; exact hk)
        obtain ⟨a3, a4⟩ := itemOf_ok a2
        exact ⟨a4, by rw [a3]; exact local_one a1⟩
      have hl8 : ys'.length ≤ 8 := by rw [hr.1]; exact h8
      simp only [zW, zX, zD, builtinA, isLeaf, const1, ustrA, simprocAttr, ti64, ti108, ca38, ca39, cf, Tryz.results12, hb, Bool.not_true]
      refine callK_intro rfl (impl_textSig ys' hl8 hw _) ?_ rfl
      rintro r A2 ⟨rfl, rfl⟩
      simp only [zW, zX, zD, builtinA, isLeaf, const1, ustrA, simprocAttr, ti64, ti108, ca38, ca39, cf, Tryz.results12]
    · have := sigB_bad hbad
      rw [sigB_reads h8 hr, hb] at this; cases this
  · rcases h with ⟨ys', h8', hr', rfl⟩ | ⟨hbad, rfl⟩
    · have e := sigB_reads h8' hr'
      rw [hb] at e
      simp only [zW, zX, zD, builtinA, isLeaf, const1, ustrA, simprocAttr, ti64, ti108, ca38, ca39, cf, Tryz.results12, ← e, Bool.not_false]
    · simp only [zW, zX, zD, builtinA, isLeaf, const1, ustrA, simprocAttr, ti64, ti108, ca38, ca39, cf, Tryz.results12]

/-- the text of a signature -/
def TxtIs (s : List SigI) (t : List UInt8) : Prop := (∃ ys, s.length ≤ 8 ∧ ReadsTo s ys ∧ ordB ys = true ∧ t = txtS ys) ∨ (sigB s = false ∧ t = [])
theorem txtIs_ex (a : List SigI) : ∃ t, TxtIs a t := by
  by_cases h8 : a.length ≤ 8
  · rcases reads_all a with ⟨ys, hr⟩ | hb
    · cases hb : ordB ys with
      | true => exact ⟨_, .inl ⟨ys, h8, hr, hb, rfl⟩⟩
      | false => exact ⟨_, .inr ⟨by rw [sigB_reads h8 hr, hb], rfl⟩⟩
    · exact ⟨_, .inr ⟨sigB_bad (.inr hb), rfl⟩⟩
  · exact ⟨_, .inr ⟨sigB_bad (.inl (by omega)), rfl⟩⟩
end Go.Proofs.YtmgppdedcciogaaGreat
