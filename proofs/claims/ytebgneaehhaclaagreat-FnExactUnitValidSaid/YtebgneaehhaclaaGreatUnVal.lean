/- The model's UnitValid. -/
import Derived.Test.YtebgneaehhaclaaGreatUns
import Derived.Test.YtebgneaehhaclaaGreatStItem
import Derived.Test.YtebgneaehhaclaaGreatAbsW3
set_option linter.unusedVariables false
set_option linter.unusedSimpArgs false
namespace Go.Proofs.YtebgneaehhaclaaGreat
open Go.Abs

def nmP (l : List ImI) : List (List UInt8) := l.map ImI.name
def fndP : List ImI → List UInt8 → Int
  | [], _ => -1
  | x :: l, n => if x.name = n then 0 else if fndP l n < 0 then -1 else fndP l n + 1
theorem fndP_range : ∀ (l : List ImI) (n : List UInt8), -1 ≤ fndP l n ∧ fndP l n < l.length
  | [], n => by simp [fndP]
  | x :: l, n => by
    have := fndP_range l n
    simp only [fndP, List.length_cons]
    split
    · omega
    · split <;> omega
theorem fndP_mem : ∀ (l : List ImI) (n : List UInt8), 0 ≤ fndP l n ↔ n ∈ nmP l
  | [], n => by simp [fndP, nmP]
  | x :: l, n => by
    have h := fndP_mem l n
    have hr := fndP_range l n
    simp only [fndP, nmP, List.map_cons, List.mem_cons] at h ⊢
    by_cases hx : x.name = n
    · simp [hx]
    · rw [if_neg hx]
      have hx' : ¬ n = x.name := fun e => hx e.symm
      simp only [hx', false_or]
      rw [← h]
      split <;> omega
theorem fndP_skip : ∀ (l : List ImI) (n : List UInt8) (i : Nat), i ≤ l.length → n ∉ nmP (l.take i) → fndP l n = if fndP (l.drop i) n < 0 then -1 else fndP (l.drop i) n + i
  | l, n, 0, _, _ => by
    have hr := fndP_range l n
    simp only [List.drop_zero]
    split <;> omega
  | [], n, i + 1, h, _ => by simp at h
  | x :: l, n, i + 1, h, hn => by
    have hx : ¬ x.name = n := fun e => hn (by simp [nmP, e])
    have ih := fndP_skip l n i (by simpa using h) (fun hm => hn (by simp only [List.take_succ_cons, nmP, List.map_cons, List.mem_cons]; exact .inr hm))
    have hr := fndP_range (l.drop i) n
    simp only [fndP, if_neg hx, List.drop_succ_cons, ih]
    split
    · simp
    · rw [if_neg (by omega)]; omega
theorem pm_drop {l : List ImI} {i : Nat} (h : i < l.length) : l.drop i = l.getD i pm0 :: l.drop (i + 1) := by
  have : l.getD i pm0 = l[i] := by simp [List.getD, h]
  rw [this, List.getElem_cons_drop h]

set_option maxRecDepth 100000 in
theorem spec_l5Find (s : List ImI) (hs : s.length ≤ 1048576) (n : List UInt8) (A : List Box) : ACalls Tryz.prog 24 [.slice (pEs s), .str n] A (fun r A' => r = .int .i64 (fndP s n) ∧ A' = A) := by
  refine acalls_enter (cf := cf 20 [0, 1, 4, 5, 9, 18]) foll Tryz.func24 Tryz.ntmps24 (by simp [cf]) ?_
  simp only [Tryz.f24, EnterK_some, zW, zX, zD, builtinA, isLeaf, const1, ustrA, simprocAttr, ti3, ti9, ti29, ti69, cf, Tryz.results24]
  refine aloop_intro [0, 1, 5] (fun e A' => ∃ i, i ≤ s.length ∧ n ∉ nmP (s.take i) ∧ e = [(0, .slice (pEs s)), (1, .str n), (5, .int .i64 (i : Nat))] ∧ A' = A) (fun e _ => s.length - (intOf (Abs.look 5 e)).toNat) ?_ ?_
  · simp only [zW, zX, zD, builtinA, isLeaf, const1, ustrA, simprocAttr, ti3, ti9, ti29, ti69, cf, Tryz.results24]
    exact ⟨0, by omega, by simp [nmP], rfl⟩
  · rintro e A' ⟨i, hi, hq, rfl, rfl⟩
    have hsk := fndP_skip s n i hi hq
    simp only [zW, zX, zD, builtinA, isLeaf, const1, ustrA, simprocAttr, ti3, ti9, ti29, ti69, cf, Tryz.results24, pEs_length]
    refine condK_intro (fun h2 => ?_) (fun h2 => ?_)
    · have hi2 : i < s.length := by simp at h2; omega
      have hg := pEs_getD hi2
      have htk := pm_take hi2
      rw [pm_drop hi2] at hsk
      have hi1 : IntKind.i64.wrap ((i : Int) + 1) = ((i + 1 : Nat) : Int) := by rw [wrap64 (by omega) (by omega)]; rfl
      generalize s.getD i pm0 = x at *
      have pi : (0 : Int) ≤ (i : Int) ∧ (i : Int) < (s.length : Int) := ⟨by omega, by omega⟩
      simp only [pE] at hg
      by_cases h1 : x.name = n
      · simp only [zW, zX, zD, builtinA, isLeaf, const1, ustrA, simprocAttr, ti3, ti9, ti29, ti69, cf, Tryz.results24, decide_eq_true h1, hg, pEs_length]
        refine ⟨pi, ?_⟩
        rw [hsk, fndP, if_pos h1]; simp
      · simp only [zW, zX, zD, builtinA, isLeaf, const1, ustrA, simprocAttr, ti3, ti9, ti29, ti69, cf, Tryz.results24, decide_eq_false h1, hg, pEs_length, hi1, LoopK_eq]
        refine ⟨pi, ⟨i + 1, by omega, ?_, rfl⟩, ?_⟩
        · rw [htk]
          simp only [nmP, List.map_append, List.mem_append, List.map_cons, List.map_nil, List.mem_singleton, not_or]
          exact ⟨hq, fun e => h1 e.symm⟩
        · simp only [intOf]; omega
    · have hi2 : i = s.length := by simp at h2; omega
      subst hi2
      simp only [zW, zX, zD, builtinA, isLeaf, const1, ustrA, simprocAttr, ti3, ti9, ti29, ti69, cf, Tryz.results24]
      rw [hsk]
      simp [fndP]

noncomputable def parB (un : List UInt8) (ps : List ImI) (x : ImI) : Bool := ((moduleB x.name && !decide (x.name = un)) && !decide (x.name ∈ nmP ps)) && sigB x.sig
noncomputable def unitB (u : UnI) : Bool := (((decide (u.params.length ≤ 3) && (List.range u.params.length).all fun i => parB u.name (u.params.take i) (u.params.getD i pm0)) && moduleB u.name) && stsV u.body) && sigB u.face
theorem parB_no {u : UnI} {i : Nat} (hi : i < u.params.length) (h : parB u.name (u.params.take i) (u.params.getD i pm0) = false) : unitB u = false := by
  unfold unitB
  have : ((List.range u.params.length).all fun i => parB u.name (u.params.take i) (u.params.getD i pm0)) = false := by
    rw [List.all_eq_false]
    exact ⟨i, List.mem_range.mpr hi, by rw [h]; decide⟩
  rw [this]; simp
theorem rows_pEs (s : List ImI) : ∀ r ∈ pEs s, r.length = 2 := by
  intro r hr
  obtain ⟨x, _, rfl⟩ := List.mem_map.1 hr
  rfl
theorem take_pEs (s : List ImI) (i : Nat) : (pEs s).take i = pEs (s.take i) := by simp [pEs, List.map_take]
def UnBig (u : UnI) : Prop := (u.params.length ≤ 1048576 ∧ ∀ p ∈ u.params, p.sig.length ≤ 1048576 ∧ ∀ x ∈ p.sig, x.Ok ∧ sz x.typ ≤ 1048576) ∧ (u.body.length ≤ 1048576 ∧ ∀ x ∈ u.body, x.Ok ∧ szJ x ≤ 1048576) ∧ (u.face.length ≤ 1048576 ∧ ∀ x ∈ u.face, x.Ok ∧ sz x.typ ≤ 1048576)

set_option maxRecDepth 100000 in
set_option maxHeartbeats 2000000 in
theorem spec_UnitValid (u : UnI) (hu : UnBig u) (A : List Box) : ACalls Tryz.prog 7 [.agg (uE u)] A (fun r A' => r = .bool (unitB u) ∧ A' = A) := by
  obtain ⟨⟨hp1, hp2⟩, ⟨hb1, hb2⟩, hf1, hf2⟩ := hu
  rw [uE]
  refine acalls_enter (cf := cf 77 [0, 1, 2, 3, 12, 57]) foll Tryz.func7 Tryz.ntmps7 (by simp [cf]) ?_
  simp only [Tryz.f7, EnterK_some, zW, zX, zD, builtinA, isLeaf, const1, ustrA, simprocAttr, ti3, ti9, ti29, ti30, ti31, ti33, ti69, ti124, ti127, ca23, ca24, ca25, ca26, cf, Tryz.results7]
  refine aloop_intro [1, 3] (fun e A' => ∃ i, i ≤ u.params.length ∧ i ≤ 4 ∧ (∀ k, k < i → parB u.name (u.params.take k) (u.params.getD k pm0) = true) ∧ e = [(1, .ptr A.length 0), (3, .int .i64 (i : Nat))] ∧ A' = A ++ [.cells [.str u.name, .slice (pEs u.params), .slice (iEs u.body), .slice (sEs u.face)]]) (fun e _ => u.params.length - (intOf (Abs.look 3 e)).toNat) ?_ ?_
  · simp only [zW, zX, zD, builtinA, isLeaf, const1, ustrA, simprocAttr, ti3, ti9, ti29, ti30, ti31, ti33, ti69, ti124, ti127, ca23, ca24, ca25, ca26, cf, Tryz.results7]
    exact ⟨0, by omega, by omega, fun k hk => by omega, rfl⟩
  · rintro e A' ⟨i, hi, hi9, hq, rfl, rfl⟩
    by_cases hlt : i < u.params.length
    · have d1 : decide ((i : Int) < (u.params.length : Int)) = true := by simp; omega
      have pi : 0 ≤ (i : Int) ∧ (i : Int) < (u.params.length : Int) := by omega
      have p1 : (0 : Int) ≤ (i : Int) ∧ (i : Int) ≤ (u.params.length : Int) := by omega
      by_cases h8 : i ≤ 3
      · have d2 : decide ((i : Int) ≤ 3) = true := by simp; omega
        have hno := @parB_no u i hlt
        have hmem := hp2 _ (pm_mem hlt)
        have hg := pEs_getD hlt
        have hi1 : IntKind.i64.wrap ((i : Int) + 1) = ((i + 1 : Nat) : Int) := by rw [wrap64 (by omega) (by omega)]; rfl
        have hfd := spec_l5Find (u.params.take i) (by simp; omega) (u.params.getD i pm0).name
        have hfm := fndP_mem (u.params.take i) (u.params.getD i pm0).name
        have hnext : parB u.name (u.params.take i) (u.params.getD i pm0) = true → ∀ k, k < i + 1 → parB u.name (u.params.take k) (u.params.getD k pm0) = true := fun h k hk => by
          rcases Nat.lt_succ_iff_lt_or_eq.mp hk with h' | rfl
          · exact hq k h'
          · exact h
        have hpe : parB u.name (u.params.take i) (u.params.getD i pm0) = (((moduleB (u.params.getD i pm0).name && !decide ((u.params.getD i pm0).name = u.name)) && !decide ((u.params.getD i pm0).name ∈ nmP (u.params.take i))) && sigB (u.params.getD i pm0).sig) := rfl
        generalize parB u.name (u.params.take i) (u.params.getD i pm0) = pb at *
        generalize u.params.getD i pm0 = x at *
        have hsv := spec_SigValid x.sig hmem.1 hmem.2
        simp only [pE] at hg
        cases hm : moduleB x.name with
        | false =>
          rw [hm] at hpe
          have hpf : pb = false := hpe
          simp only [zW, zX, zD, builtinA, isLeaf, const1, ustrA, simprocAttr, ti3, ti9, ti29, ti30, ti31, ti33, ti69, ti124, ti127, ca23, ca24, ca25, ca26, cf, Tryz.results7, pEs_length, d1, d2, hg]
          refine .inl ⟨by kernel_rfl, by kernel_rfl, pi, ?_⟩
          refine callD_intro (by simp only [zW, zX, zD, builtinA, isLeaf, const1, ustrA, simprocAttr, Option.map_some] <;> rfl) (spec_ModuleName x.name _) ?_ rfl
          simp only [zW, zX, zD, builtinA, isLeaf, const1, ustrA, simprocAttr, ti3, ti9, ti29, ti30, ti31, ti33, ti69, ti124, ti127, ca23, ca24, ca25, ca26, cf, Tryz.results7, hm]
          rw [hno hpf]
        | true =>
          by_cases hn : x.name = u.name
          · rw [decide_eq_true hn] at hpe
            have hpf : pb = false := by rw [hpe]; simp
            simp only [zW, zX, zD, builtinA, isLeaf, const1, ustrA, simprocAttr, ti3, ti9, ti29, ti30, ti31, ti33, ti69, ti124, ti127, ca23, ca24, ca25, ca26, cf, Tryz.results7, pEs_length, d1, d2, hg]
            refine .inl ⟨by kernel_rfl, by kernel_rfl, pi, ?_⟩
            refine callD_intro (by simp only [zW, zX, zD, builtinA, isLeaf, const1, ustrA, simprocAttr, Option.map_some] <;> rfl) (spec_ModuleName x.name _) ?_ rfl
            simp only [zW, zX, zD, builtinA, isLeaf, const1, ustrA, simprocAttr, ti3, ti9, ti29, ti30, ti31, ti33, ti69, ti124, ti127, ca23, ca24, ca25, ca26, cf, Tryz.results7, hm, hg, pEs_length, decide_eq_true hn]
            exact ⟨pi, by rw [hno hpf]⟩
          · have hfz : decide (fndP (u.params.take i) x.name ≥ 0) = decide (x.name ∈ nmP (u.params.take i)) := by
              rw [Bool.eq_iff_iff]; simp only [decide_eq_true_eq]; exact hfm
            have hfz' : decide (0 ≤ fndP (u.params.take i) x.name) = decide (x.name ∈ nmP (u.params.take i)) := hfz
            rw [decide_eq_false hn] at hpe
            simp only [zW, zX, zD, builtinA, isLeaf, const1, ustrA, simprocAttr, ti3, ti9, ti29, ti30, ti31, ti33, ti69, ti124, ti127, ca23, ca24, ca25, ca26, cf, Tryz.results7, pEs_length, d1, d2, hg]
            refine .inl ⟨by kernel_rfl, by kernel_rfl, pi, ?_⟩
            refine callD_intro (by simp only [zW, zX, zD, builtinA, isLeaf, const1, ustrA, simprocAttr, Option.map_some] <;> rfl) (spec_ModuleName x.name _) ?_ rfl
            simp only [zW, zX, zD, builtinA, isLeaf, const1, ustrA, simprocAttr, ti3, ti9, ti29, ti30, ti31, ti33, ti69, ti124, ti127, ca23, ca24, ca25, ca26, cf, Tryz.results7, hm, hg, pEs_length, decide_eq_false hn, take_pEs]
            refine ⟨pi, ⟨rows_pEs _, p1⟩, pi, ?_⟩
            refine callD_intro (by simp only [zW, zX, zD, builtinA, isLeaf, const1, ustrA, simprocAttr, Option.map_some] <;> rfl) (hfd _) ?_ rfl
            by_cases hk : x.name ∈ nmP (u.params.take i)
            · rw [decide_eq_true hk] at hpe hfz hfz'
              have hpf : pb = false := by rw [hpe]; simp
              simp only [zW, zX, zD, builtinA, isLeaf, const1, ustrA, simprocAttr, ti3, ti9, ti29, ti30, ti31, ti33, ti69, ti124, ti127, ca23, ca24, ca25, ca26, cf, Tryz.results7, hfz, hfz']
              rw [hno hpf]
            · rw [decide_eq_false hk] at hpe hfz hfz'
              have hpf : pb = sigB x.sig := by rw [hpe, hm]; simp
              simp only [zW, zX, zD, builtinA, isLeaf, const1, ustrA, simprocAttr, ti3, ti9, ti29, ti30, ti31, ti33, ti69, ti124, ti127, ca23, ca24, ca25, ca26, cf, Tryz.results7, hfz, hfz', hg, pEs_length]
              refine ⟨pi, ?_⟩
              refine callD_intro (by simp only [zW, zX, zD, builtinA, isLeaf, const1, ustrA, simprocAttr, Option.map_some] <;> rfl) (hsv _) ?_ rfl
              simp only [zW, zX, zD, builtinA, isLeaf, const1, ustrA, simprocAttr, ti3, ti9, ti29, ti30, ti31, ti33, ti69, ti124, ti127, ca23, ca24, ca25, ca26, cf, Tryz.results7]
              cases hsb : sigB x.sig with
              | false =>
                simp only [zW, zX, zD, builtinA, isLeaf, const1, ustrA, simprocAttr, ti3, ti9, ti29, ti30, ti31, ti33, ti69, ti124, ti127, ca23, ca24, ca25, ca26, cf, Tryz.results7]
                rw [hno (hpf.trans hsb)]
              | true =>
                simp only [zW, zX, zD, builtinA, isLeaf, const1, ustrA, simprocAttr, ti3, ti9, ti29, ti30, ti31, ti33, ti69, ti124, ti127, ca23, ca24, ca25, ca26, cf, Tryz.results7, hi1, LoopK_eq]
                refine ⟨⟨i + 1, by omega, by omega, hnext (hpf.trans hsb), rfl⟩, ?_⟩
                simp only [intOf]; omega
      · have d2 : decide ((i : Int) ≤ 3) = false := by simp; omega
        have hb : unitB u = false := by unfold unitB; rw [decide_eq_false (by omega : ¬ u.params.length ≤ 3)]; simp
        have d3 : decide ((u.params.length : Int) ≤ 3) = false := by simp; omega
        simp only [zW, zX, zD, builtinA, isLeaf, const1, ustrA, simprocAttr, ti3, ti9, ti29, ti30, ti31, ti33, ti69, ti124, ti127, ca23, ca24, ca25, ca26, cf, Tryz.results7, pEs_length, d1, d2, d3]
        rw [hb]
    · have d1 : decide ((i : Int) < (u.params.length : Int)) = false := by simp; omega
      have e : i = u.params.length := by omega
      subst e
      have hall : ((List.range u.params.length).all fun i => parB u.name (u.params.take i) (u.params.getD i pm0)) = true := by
        rw [List.all_eq_true]
        intro k hk
        exact hq k (List.mem_range.mp hk)
      have hu : unitB u = (((decide (u.params.length ≤ 3)) && moduleB u.name) && stsV u.body && sigB u.face) := by
        unfold unitB
        rw [hall, Bool.and_true]
      rw [hu]
      by_cases h3 : u.params.length ≤ 3
      · have d3 : decide ((u.params.length : Int) ≤ 3) = true := by simp; omega
        rw [decide_eq_true h3, Bool.true_and]
        simp only [zW, zX, zD, builtinA, isLeaf, const1, ustrA, simprocAttr, ti3, ti9, ti29, ti30, ti31, ti33, ti69, ti124, ti127, ca23, ca24, ca25, ca26, cf, Tryz.results7, pEs_length, d1, d3]
        refine callK_intro (by simp only [zW, zX, zD, builtinA, isLeaf, const1, ustrA, simprocAttr, Option.map_some]; rfl) (spec_ModuleName u.name _) ?_ rfl; rintro v A' ⟨rfl, rfl⟩
        cases hm : moduleB u.name with
        | false =>
          simp only [zW, zX, zD, builtinA, isLeaf, const1, ustrA, simprocAttr, ti3, ti9, ti29, ti30, ti31, ti33, ti69, ti124, ti127, ca23, ca24, ca25, ca26, cf, Tryz.results7]
        | true =>
          simp only [zW, zX, zD, builtinA, isLeaf, const1, ustrA, simprocAttr, ti3, ti9, ti29, ti30, ti31, ti33, ti69, ti124, ti127, ca23, ca24, ca25, ca26, cf, Tryz.results7]
          refine callK_intro (by simp only [zW, zX, zD, builtinA, isLeaf, const1, ustrA, simprocAttr, Option.map_some]; rfl) (spec_StructValid u.body hb1 hb2 _) ?_ rfl; rintro v A' ⟨rfl, rfl⟩
          cases hs : stsV u.body with
          | false =>
            simp only [zW, zX, zD, builtinA, isLeaf, const1, ustrA, simprocAttr, ti3, ti9, ti29, ti30, ti31, ti33, ti69, ti124, ti127, ca23, ca24, ca25, ca26, cf, Tryz.results7]
          | true =>
            simp only [zW, zX, zD, builtinA, isLeaf, const1, ustrA, simprocAttr, ti3, ti9, ti29, ti30, ti31, ti33, ti69, ti124, ti127, ca23, ca24, ca25, ca26, cf, Tryz.results7]
            refine callK_intro (by simp only [zW, zX, zD, builtinA, isLeaf, const1, ustrA, simprocAttr, Option.map_some]; rfl) (spec_SigValid u.face hf1 hf2 _) ?_ rfl; rintro v A' ⟨rfl, rfl⟩
            simp only [zW, zX, zD, builtinA, isLeaf, const1, ustrA, simprocAttr, ti3, ti9, ti29, ti30, ti31, ti33, ti69, ti124, ti127, ca23, ca24, ca25, ca26, cf, Tryz.results7]
      · have d3 : decide ((u.params.length : Int) ≤ 3) = false := by simp; omega
        rw [decide_eq_false h3]
        simp only [zW, zX, zD, builtinA, isLeaf, const1, ustrA, simprocAttr, ti3, ti9, ti29, ti30, ti31, ti33, ti69, ti124, ti127, ca23, ca24, ca25, ca26, cf, Tryz.results7, pEs_length, d1, d3]
end Go.Proofs.YtebgneaehhaclaaGreat
