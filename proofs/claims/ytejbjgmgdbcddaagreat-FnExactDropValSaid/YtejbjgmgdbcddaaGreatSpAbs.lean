/- An abstract type and a value less, by the model. -/
import Derived.Test.YtejbjgmgdbcddaaGreatSigBase
import Derived.Test.YtejbjgmgdbcddaaGreatAbsW3
set_option linter.unusedVariables false
set_option linter.unusedSimpArgs false
namespace Go.Proofs.YtejbjgmgdbcddaaGreat
open Go.Abs

def isAT (nm : List UInt8) (x : SigI) : Bool := isTB x && decide (x.name = nm)
/-- the first type of a name made abstract -/
def abL (nm : List UInt8) : List SigI → Option (List SigI)
  | [] => none
  | x :: l => if isAT nm x = true then some (⟨1, nm, ty0⟩ :: l) else (abL nm l).map (x :: ·)
noncomputable def abT (s : List SigI) (nm : List UInt8) : Option (List SigI) := if sigB s = true then abL nm s else none
theorem abL_from (nm : List UInt8) (s : List SigI) : ∀ i, i ≤ s.length → (∀ k, k < i → isAT nm (s.getD k si0) = false) → abL nm s = (abL nm (s.drop i)).map (s.take i ++ ·)
  | 0, _, _ => by simp
  | i + 1, h, hk => by
    rw [abL_from nm s i (by omega) fun k h => hk k (by omega), mix_drop (show i < s.length by omega), abL, if_neg (by rw [hk i (by omega)]; simp), Option.map_map, si_take (show i < s.length by omega)]
    congr 1
    funext x
    simp
theorem abL_at {nm : List UInt8} {s : List SigI} {i : Nat} (hi : i < s.length) (hk : ∀ k, k < i → isAT nm (s.getD k si0) = false) (h : isAT nm (s.getD i si0) = true) : abL nm s = some (s.set i ⟨1, nm, ty0⟩) := by
  rw [abL_from nm s i (by omega) hk, mix_drop hi, abL, if_pos h]
  simp [List.set_eq_take_append_cons_drop, hi]

set_option maxRecDepth 100000 in
set_option maxHeartbeats 4000000 in
theorem spec_AbstractType (s : List SigI) (hs : s.length ≤ 1048576) (ho : ∀ x ∈ s, x.Ok ∧ sz x.typ ≤ 1048576) (nm : List UInt8) (A : List Box) :
    ACalls Tryz.prog 6 [.slice (sEs s), .str nm] A (fun r A' => r = .tuple [.slice (sEs ((abT s nm).getD [])), .bool (abT s nm).isSome] ∧ A' = A) := by
  refine acalls_enter (cf := cf 41 [0, 1, 4, 5, 6, 7, 10, 17, 33]) foll Tryz.func6 Tryz.ntmps6 (by simp [cf]) ?_
  simp only [Tryz.f6, EnterK_some, zW, zX, zD, builtinA, isLeaf, const1, ustrA, simprocAttr, ti3, ti9, ti24, ti44, ca15, ca16, ca17, cf, Tryz.results6]
  refine callO_intro (spec_SigValid s hs ho _) ?_
  rintro r A' ⟨rfl, hA⟩
  have hA := hA.symm
  subst hA
  cases hb : sigB s with
  | false =>
    have e : abT s nm = none := by rw [abT, if_neg (by rw [hb]; simp)]
    rw [e]
    simp only [zW, zX, zD, builtinA, isLeaf, const1, ustrA, simprocAttr, ti3, ti9, ti24, ti44, ca15, ca16, ca17, cf, Tryz.results6]
    rfl
  | true =>
    have e : abT s nm = abL nm s := by rw [abT, if_pos hb]
    rw [e]
    simp only [zW, zX, zD, builtinA, isLeaf, const1, ustrA, simprocAttr, ti3, ti9, ti24, ti44, ca15, ca16, ca17, cf, Tryz.results6]
    refine callO_intro (spec_l2Copy s hs (fun x hx => (ho x hx).2) _) ?_
    rintro r A' ⟨B, j, rfl, rfl, hj, hg⟩
    have hlen := sEs_length s
    simp only [zW, zX, zD, builtinA, isLeaf, const1, ustrA, simprocAttr, ti3, ti9, ti24, ti44, ca15, ca16, ca17, cf, Tryz.results6]
    refine aloop_intro [1, 6, 7] (fun e A' => ∃ i, i ≤ s.length ∧ (∀ k, k < i → isAT nm (s.getD k si0) = false) ∧ e = [(1, .str nm), (6, .own (A.length + j)), (7, .int .i64 i)] ∧ A' = A ++ B) (fun e _ => s.length - (intOf (Abs.look 7 e)).toNat) ?_ ?_
    · simp only [zW, zX, zD, builtinA, isLeaf, const1, ustrA, simprocAttr, ti3, ti9, ti24, ti44, ca15, ca16, ca17, cf, Tryz.results6]
      exact ⟨0, by omega, fun k hk => by omega, rfl⟩
    · rintro e A' ⟨i, hi, hk, rfl, rfl⟩
      simp only [zW, zX, zD, builtinA, isLeaf, const1, ustrA, simprocAttr, ti3, ti9, ti24, ti44, ca15, ca16, ca17, cf, Tryz.results6, hg, hj, hlen]
      refine condK_intro (fun h2 => ?_) (fun h2 => ?_)
      · have hi2 : i < s.length := by simpa using h2
        have hi1 : IntKind.i64.wrap ((i : Int) + 1) = ((i + 1 : Nat) : Int) := by rw [wrap64 (by omega) (by omega)]; rfl
        have pi : (0 : Int) ≤ (i : Int) ∧ (i : Int) < (s.length : Int) := ⟨by omega, by omega⟩
        have he := sEs_getD hi2
        have hset := sEs_set s i ⟨1, nm, ty0⟩
        have hat := abL_at hi2 hk
        have hty := fun A => spec_l2IsType (s.getD i si0) A
        have hia : isAT nm (s.getD i si0) = (isTB (s.getD i si0) && decide ((s.getD i si0).name = nm)) := rfl
        generalize hxx : s.getD i si0 = x at *
        obtain ⟨k, n, t⟩ := x
        simp only [sE] at he hty
        have hsE : sE ⟨1, nm, ty0⟩ = [.int .i64 1, .str nm, .int .i64 0, .str [], .str [], .slice []] := rfl
        rw [hsE] at hset
        simp only [zW, zX, zD, builtinA, isLeaf, const1, ustrA, simprocAttr, ti3, ti9, ti24, ti44, ca15, ca16, ca17, cf, Tryz.results6, he, hg, hj, hlen, enc_length]
        refine ⟨pi, ?_⟩
        refine callK_intro (by simp only [zW, zX, zD, builtinA, isLeaf, const1, ustrA, simprocAttr, enc_length, enc_take, sb_drop, frzL_enc, sb_closed, Option.map_some]; rfl) (hty _) ?_ rfl; rintro v A' ⟨rfl, rfl⟩
        cases hT : isTB ⟨k, n, t⟩ with
        | false =>
          rw [hT] at hia
          simp only [zW, zX, zD, builtinA, isLeaf, const1, ustrA, simprocAttr, ti3, ti9, ti24, ti44, ca15, ca16, ca17, cf, Tryz.results6, hi1, LoopK_eq]
          refine ⟨⟨i + 1, by omega, fun k' hk' => ?_, rfl⟩, ?_⟩
          · rcases Nat.lt_succ_iff_lt_or_eq.mp hk' with h1 | rfl
            · exact hk k' h1
            · rw [hxx, hia]; rfl
          · simp only [intOf]; omega
        | true =>
          rw [hT] at hia
          by_cases hn : n = nm
          · have hia2 := hat (by rw [hia]; simp [hn])
            rw [hia2]
            simp only [zW, zX, zD, builtinA, isLeaf, const1, ustrA, simprocAttr, ti3, ti9, ti24, ti44, ca15, ca16, ca17, cf, Tryz.results6, hn, he, hg, hj, hlen, enc_length, hset]
            refine ⟨pi, pi, ⟨by omega, by omega, fun v hv => sE_leaf ⟨1, nm, ty0⟩ v hv⟩, ?_⟩
            rw [show List.drop 4 (enc t) = [] from List.drop_eq_nil_of_le (by rw [enc_length]; exact Nat.le_refl _), hset]
          · simp only [zW, zX, zD, builtinA, isLeaf, const1, ustrA, simprocAttr, ti3, ti9, ti24, ti44, ca15, ca16, ca17, cf, Tryz.results6, he, hg, hj, hlen, enc_length, decide_eq_false hn, hi1, LoopK_eq]
            refine ⟨pi, ⟨i + 1, by omega, fun k' hk' => ?_, rfl⟩, ?_⟩
            · rcases Nat.lt_succ_iff_lt_or_eq.mp hk' with h1 | rfl
              · exact hk k' h1
              · rw [hxx, hia]; simp [hn]
            · simp only [intOf]; omega
      · have hi2 : i = s.length := by simp at h2; omega
        subst hi2
        have hn : abL nm s = none := by rw [abL_from nm s s.length (Nat.le_refl _) hk, List.drop_length, abL]; rfl
        rw [hn]
        simp only [zW, zX, zD, builtinA, isLeaf, const1, ustrA, simprocAttr, ti3, ti9, ti24, ti44, ca15, ca16, ca17, cf, Tryz.results6]
        rfl

def isDr (nm : List UInt8) (x : SigI) : Bool := decide (x.kind ≠ 3) || decide (x.name ≠ nm)
noncomputable def drT (s : List SigI) (nm : List UInt8) : Option (List SigI) := if sigB s = true ∧ (s.filter (isDr nm)).length ≠ s.length then some (s.filter (isDr nm)) else none

set_option maxRecDepth 100000 in
set_option maxHeartbeats 4000000 in
theorem spec_DropVal (s : List SigI) (hs : s.length ≤ 1048576) (ho : ∀ x ∈ s, x.Ok ∧ sz x.typ ≤ 1048576) (nm : List UInt8) (A : List Box) :
    ACalls Tryz.prog 12 [.slice (sEs s), .str nm] A (fun r A' => r = .tuple [.slice (sEs ((drT s nm).getD [])), .bool (drT s nm).isSome] ∧ A' = A) := by
  refine acalls_enter (cf := cf 49 [0, 1, 4, 5, 6, 7, 10, 16, 33, 45]) foll Tryz.func12 Tryz.ntmps12 (by simp [cf]) ?_
  simp only [Tryz.f12, EnterK_some, zW, zX, zD, builtinA, isLeaf, const1, ustrA, simprocAttr, ti3, ti9, ti24, ti44, ca15, ca16, cf, Tryz.results12]
  refine callO_intro (spec_SigValid s hs ho _) ?_
  rintro r A' ⟨rfl, hA⟩
  have hA := hA.symm
  subst hA
  cases hb : sigB s with
  | false =>
    have e : drT s nm = none := by rw [drT, if_neg (by rw [hb]; simp)]
    rw [e]
    simp only [zW, zX, zD, builtinA, isLeaf, const1, ustrA, simprocAttr, ti3, ti9, ti24, ti44, ca15, ca16, cf, Tryz.results12]
    rfl
  | true =>
    have hlen := sEs_length s
    simp only [zW, zX, zD, builtinA, isLeaf, const1, ustrA, simprocAttr, ti3, ti9, ti24, ti44, ca15, ca16, cf, Tryz.results12]
    refine aloop_intro [0, 1, 6, 7] (fun e A' => ∃ i j B, i ≤ s.length ∧ e = [(0, .slice (sEs s)), (1, .str nm), (6, .own (A.length + j)), (7, .int .i64 i)] ∧ A' = A ++ B ∧ j < B.length ∧ B.getD j .dead = .row 6 (sEs ((s.take i).filter (isDr nm))) 0) (fun e _ => s.length - (intOf (Abs.look 7 e)).toNat) ?_ ?_
    · simp only [zW, zX, zD, builtinA, isLeaf, const1, ustrA, simprocAttr, ti3, ti9, ti24, ti44, ca15, ca16, cf, Tryz.results12]
      exact ⟨0, 0, [.row 6 [] 0], by omega, rfl, rfl, by simp, rfl⟩
    · rintro e A' ⟨i, j, B, hi, rfl, rfl, hj, hg⟩
      simp only [zW, zX, zD, builtinA, isLeaf, const1, ustrA, simprocAttr, ti3, ti9, ti24, ti44, ca15, ca16, cf, Tryz.results12, hlen]
      refine condK_intro (fun h2 => ?_) (fun h2 => ?_)
      · have hi2 : i < s.length := by simpa using h2
        have hi1 : IntKind.i64.wrap ((i : Int) + 1) = ((i + 1 : Nat) : Int) := by rw [wrap64 (by omega) (by omega)]; rfl
        have pi : (0 : Int) ≤ (i : Int) ∧ (i : Int) < (s.length : Int) := ⟨by omega, by omega⟩
        have he := sEs_getD hi2
        have htk := si_take hi2
        have hlf := sE_leaf (s.getD i si0)
        have hl9 : ((s.take i).filter (isDr nm)).length ≤ i := Nat.le_trans (List.length_filter_le _ _) (by simp; omega)
        generalize hxx : s.getD i si0 = x at *
        have hgX : ∀ Y, (B ++ Y).getD j .dead = .row 6 (sEs ((s.take i).filter (isDr nm))) 0 := fun Y => by rw [Abs.getD_append_left hj]; exact hg
        have hsX : ∀ Y : List Box, (B ++ Y).set j .dead = B.set j .dead ++ Y := fun Y => by rw [List.set_append_left _ _ hj]
        have hjX : ∀ n, j < B.length + n := fun n => by omega
        have hE : sE x = .int .i64 x.kind :: .str x.name :: enc x.typ := rfl
        have hrs : sEs ((s.take i).filter (isDr nm)) ++ [.int .i64 x.kind :: .str x.name :: enc x.typ] = sEs ((s.take i).filter (isDr nm) ++ [x]) := by rw [← hE]; simp [sEs]
        have key : isDr nm x = true → (s.take (i + 1)).filter (isDr nm) = (s.take i).filter (isDr nm) ++ [x] := fun h => by rw [htk, List.filter_append]; simp [h]
        have keyn : isDr nm x = false → (s.take (i + 1)).filter (isDr nm) = (s.take i).filter (isDr nm) := fun h => by rw [htk, List.filter_append]; simp [h]
        simp only [sE] at he
        by_cases h3 : x.kind = 3
        · by_cases h4 : x.name = nm
          · have e1 : isDr nm x = false := by simp [isDr, h3, h4]
            simp only [zW, zX, zD, builtinA, isLeaf, const1, ustrA, simprocAttr, ti3, ti9, ti24, ti44, ca15, ca16, cf, Tryz.results12, he, hlen, enc_length, decide_eq_true h3, decide_eq_true h4, Bool.not_true, hi1, LoopK_eq]
            refine ⟨pi, pi, ⟨i + 1, j, B, by omega, rfl, rfl, hj, by rw [keyn e1]; exact hg⟩, ?_⟩
            simp only [intOf]; omega
          · have e1 : isDr nm x = true := by simp [isDr, h4]
            simp only [zW, zX, zD, builtinA, isLeaf, const1, ustrA, simprocAttr, ti3, ti9, ti24, ti44, ca15, ca16, cf, Tryz.results12, he, hlen, enc_length, enc_take, sb_drop, frzL_enc, sb_closed, Option.map_some, decide_eq_true h3, decide_eq_false h4, Bool.not_true, Bool.not_false, hg, hgX, hsX, hj, hjX, hi1, LoopK_eq, hrs]
            refine ⟨pi, pi, pi, fun v hv => hlf v hv, ⟨fun r hr => by rw [List.mem_singleton.1 hr]; simp [enc_length], by rw [sEs_length]; omega⟩, ⟨i + 1, B.length + 1, _, by omega, rfl, rfl, by simp, ?_⟩, ?_⟩
            · rw [Abs.getD_append_right (by simp), key e1]; simp
            · simp only [intOf]; omega
        · have e1 : isDr nm x = true := by simp [isDr, h3]
          simp only [zW, zX, zD, builtinA, isLeaf, const1, ustrA, simprocAttr, ti3, ti9, ti24, ti44, ca15, ca16, cf, Tryz.results12, he, hlen, enc_length, enc_take, sb_drop, frzL_enc, sb_closed, Option.map_some, decide_eq_false h3, Bool.not_false, hg, hgX, hsX, hj, hjX, hi1, LoopK_eq, hrs]
          refine ⟨pi, pi, fun v hv => hlf v hv, ⟨fun r hr => by rw [List.mem_singleton.1 hr]; simp [enc_length], by rw [sEs_length]; omega⟩, ⟨i + 1, B.length + 1, _, by omega, rfl, rfl, by simp, ?_⟩, ?_⟩
          · rw [Abs.getD_append_right (by simp), key e1]; simp
          · simp only [intOf]; omega
      · have hi2 : i = s.length := by simp at h2; omega
        subst hi2
        rw [List.take_length] at hg
        by_cases hq : (s.filter (isDr nm)).length = s.length
        · have e : drT s nm = none := by rw [drT, if_neg (by simp [hq])]
          rw [e]
          simp only [zW, zX, zD, builtinA, isLeaf, const1, ustrA, simprocAttr, ti3, ti9, ti24, ti44, ca15, ca16, cf, Tryz.results12, hg, hj, hlen, sEs_length, hq, decide_eq_true rfl]
          rfl
        · have e : drT s nm = some (s.filter (isDr nm)) := by rw [drT, if_pos ⟨hb, hq⟩]
          have hqi : decide (((s.filter (isDr nm)).length : Int) = (s.length : Int)) = false := decide_eq_false (by omega)
          rw [e]
          have g1 : (A ++ B).getD (A.length + j) .dead = .row 6 (sEs (s.filter (isDr nm))) 0 := by rw [Abs.getD_append_right (by omega), show A.length + j - A.length = j by omega]; exact hg
          have g2 : ∀ X : Box, (A ++ B).set (A.length + j) X = A ++ B.set j X := fun X => by simp [List.set_append]
          have hfz : frzs [.own (A.length + j)] (A ++ B) = some ([.slice (sEs (s.filter (isDr nm)))], A ++ B.set j (.row 6 (sEs (s.filter (isDr nm))) (sEs (s.filter (isDr nm))).length)) := by simp only [frzs, frzC, frz1, g1, g2]
          have hfl : (s.filter (isDr nm)).length ≤ 1048576 := Nat.le_trans (List.length_filter_le _ _) hs
          simp only [zW, zX, zD, builtinA, isLeaf, const1, ustrA, simprocAttr, ti3, ti9, ti24, ti44, ca15, ca16, cf, Tryz.results12, hg, hj, hlen, sEs_length, hqi]
          refine callK_intro hfz (spec_l2Copy (s.filter (isDr nm)) hfl (fun x hx => (ho x (List.mem_filter.1 hx).1).2) _) ?_ rfl
          rintro r A' ⟨C, k, rfl, rfl, hk, hgk⟩
          have hgk2 : ∀ X : Box, (B.set j X ++ C).getD (B.length + k) .dead = .row 6 (sEs (s.filter (isDr nm))) 0 := fun X => by rw [Abs.getD_append_right (by simp), List.length_set, show B.length + k - B.length = k by omega]; exact hgk
          simp only [zW, zX, zD, builtinA, isLeaf, const1, ustrA, simprocAttr, ti3, ti9, ti24, ti44, ca15, ca16, cf, Tryz.results12, hgk2, hk, Nat.add_assoc]
end Go.Proofs.YtejbjgmgdbcddaaGreat
