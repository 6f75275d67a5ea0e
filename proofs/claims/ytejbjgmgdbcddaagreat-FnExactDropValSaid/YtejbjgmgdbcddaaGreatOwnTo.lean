/- A law's argument, a type, as memory of its own. -/
import Derived.Test.YtejbjgmgdbcddaaGreatTypesMeth
import Derived.Test.YtejbjgmgdbcddaaGreatOwnMark
import Derived.Test.YtejbjgmgdbcddaaGreatAbsW3
set_option linter.unusedVariables false
set_option linter.unusedSimpArgs false
namespace Go.Proofs.YtejbjgmgdbcddaaGreat
open Go.Abs

theorem getD_repl {α : Type} {n i : Nat} {x d : α} (h : i < n) : (List.replicate n x).getD i d = x := by simp [List.getD, h]
/-- new memory that holds a list of types -/
def NewK (A : List Box) (ks : List Ty) (j : Nat) (A' : List Box) : Prop :=
  A.length ≤ A'.length ∧ (∀ k, k < A.length → A'.getD k .dead = A.getD k .dead) ∧ ∃ rows S, A'.getD j .dead = .gr none 4 rows ∧ OwnR A' ks rows S ∧ (j :: S).Nodup ∧ ∀ i ∈ j :: S, A.length ≤ i
def KidsN (ks : List Ty) : Prop := ∀ A, ACalls Tryz.prog 40 [.aslice (encAs ks)] A (fun r A' => ∃ j, r = .own j ∧ NewK A ks j A')
def TypN (t : Ty) : Prop := ∀ A, ACalls Tryz.prog 29 [.agg (encA t)] A (fun r A' => ∃ j, r = .agg [.int .i64 t.kind, .str t.mod, .str t.name, .own j] ∧ NewK A t.kids j A')

set_option maxRecDepth 100000 in
theorem toTypeS_own (ks : List Ty) (hl : ks.length ≤ 1048576) (hk : ∀ t ∈ ks, TypN t) : KidsN ks := fun A => by
  have hl2 : ((encAs ks).length : Int) ≤ 1048576 := by rw [encAs_length]; omega
  refine ACalls.grow ?_
  refine acalls_enterK (cf := cf 23 [0, 2, 3, 4, 11]) foll Tryz.func40 Tryz.ntmps40 (by simp [cf]) ?_
  simp only [Tryz.f40, EnterK_some, zW, zX, zD, builtinA, isLeaf, const1, ustrA, simprocAttr, ti3, ti32, ti34, ti40, ti42, ca29, cf, Tryz.results40]
  refine ⟨⟨by omega, by omega, by omega⟩, ?_⟩
  refine aloop_intro [0, 3, 4] (fun e A' => ∃ (p : Nat) (rl : List (List AV)) (SL : List Nat), p ≤ ks.length ∧ e = [(0, .aslice (encAs ks)), (3, .own A.length), (4, .int .i64 p)] ∧ A'.getD A.length .dead = (if p = 0 then .row 4 (List.replicate ks.length zty) 0 else .gr none 4 (rl ++ List.replicate (ks.length - p) zty)) ∧
    rl.length = p ∧ OwnR A' (ks.take p) rl SL ∧ SL.Nodup ∧ (∀ i ∈ SL, A.length < i) ∧ A.length < A'.length ∧ ∀ k, k < A.length → A'.getD k .dead = A.getD k .dead) (fun e _ => ks.length - (intOf (Abs.look 4 e)).toNat) ?_ ?_
  · simp only [zW, zX, zD, builtinA, isLeaf, const1, ustrA, simprocAttr, ti3, ti32, ti34, ti40, ti42, ca29, cf, Tryz.results40]
    refine ⟨0, [], [], by omega, rfl, ?_, rfl, by simp [OwnR], by simp, by simp, by simp, fun k hk => Abs.getD_append_left hk⟩
    rw [if_pos rfl, encAs_length]
    rfl
  · rintro e A' ⟨p, rl, SL, hp, rfl, hb, hrl, hO, hN, hlo, hlt, hfr⟩
    simp only [zW, zX, zD, builtinA, isLeaf, const1, ustrA, simprocAttr, ti3, ti32, ti34, ti40, ti42, ca29, cf, Tryz.results40, encAs_length]
    refine condK_intro (fun h2 => ?_) (fun h2 => ?_)
    · have hp2 : p < ks.length := by simpa using h2
      have he := encAs_getD hp2
      have hm := getD_mem hp2
      simp only [zW, zX, zD, builtinA, isLeaf, const1, ustrA, simprocAttr, ti3, ti32, ti34, ti40, ti42, ca29, cf, Tryz.results40, he, encA_length, encA_take, encAs_length]
      refine ⟨⟨by omega, by omega⟩, ?_⟩
      refine callK_intro (by simp only [zW, zX, zD, builtinA, isLeaf, const1, ustrA, simprocAttr, frzL_encA, Option.map_some] <;> rfl) (hk _ hm _) ?_ rfl
      rintro r A3 ⟨j, rfl, hle, hf3, rows, S, hg, hR, hND, hge⟩
      have hi1 : IntKind.i64.wrap ((p : Int) + 1) = ((p + 1 : Nat) : Int) := by rw [wrap64 (by omega) (by omega)]; rfl
      have hb3 : A3.getD A.length .dead = (if p = 0 then .row 4 (List.replicate ks.length zty) 0 else .gr none 4 (rl ++ List.replicate (ks.length - p) zty)) := by rw [hf3 _ hlt]; exact hb
      have hjA : A.length ≠ j := fun e => by have := hge j (by simp); omega
      generalize ht : ks.getD p ty0 = t at *
      have key : ∀ (n0 : Nat) (z : List (List AV)), n0 = ks.length → z.length = ks.length → z.take p = rl → z.drop p = List.replicate (ks.length - p) zty → z.set p ([.int .i64 t.kind, .str t.mod, .str t.name, .own j]) = (rl ++ [[.int .i64 t.kind, .str t.mod, .str t.name, .own j]]) ++ List.replicate (ks.length - (p + 1)) zty := fun n0 z h0 h1 h2 h3 => by
        have e1 : z = rl ++ List.replicate (ks.length - p) zty := by rw [← h2, ← h3, List.take_append_drop]
        rw [e1, show ks.length - p = (ks.length - (p + 1)) + 1 by omega, List.replicate_succ, List.set_append_right _ _ (by omega), hrl, Nat.sub_self]
        simp
      have fin : ∀ Z, Z = Box.gr none 4 ((rl ++ [[.int .i64 t.kind, .str t.mod, .str t.name, .own j]]) ++ List.replicate (ks.length - (p + 1)) zty) → ∃ (p' : Nat) (rl' : List (List AV)) (SL' : List Nat), p' ≤ ks.length ∧ [(0, AV.aslice (encAs ks)), (3, .own A.length), (4, .int .i64 ((p + 1 : Nat) : Int))] = [(0, .aslice (encAs ks)), (3, .own A.length), (4, .int .i64 p')] ∧ (A3.set A.length Z).getD A.length .dead = (if p' = 0 then .row 4 (List.replicate ks.length zty) 0 else .gr none 4 (rl' ++ List.replicate (ks.length - p') zty)) ∧
          rl'.length = p' ∧ OwnR (A3.set A.length Z) (ks.take p') rl' SL' ∧ SL'.Nodup ∧ (∀ i ∈ SL', A.length < i) ∧ A.length < (A3.set A.length Z).length ∧ ∀ k, k < A.length → (A3.set A.length Z).getD k .dead = A.getD k .dead := fun Z hZ => by
        have hlt3 : A.length < A3.length := by omega
        have low := hO.low
        refine ⟨p + 1, rl ++ [[.int .i64 t.kind, .str t.mod, .str t.name, .own j]], SL ++ (j :: S), by omega, rfl, ?_, by simp [hrl], ?_, ?_, ?_, by simpa using hlt3, fun k hk => ?_⟩
        · rw [getD_set_self hlt3, if_neg (by omega)]; exact hZ
        · have hts : ks.take (p + 1) = ks.take p ++ [t] := by rw [← ht]; exact take_snoc ty0 hp2
          rw [hts]
          refine (hO.frame fun i hi => ?_).append ?_
          · have h1 := hlo i hi
            have h2 := low i hi
            rw [getD_set_ne' (by omega), hf3 i h2]
          · rw [OwnR]
            refine ⟨_, [], j :: S, [], rfl, by simp, ?_, by simp [OwnR]⟩
            have ht4 : t = .mk t.kind t.mod t.name t.kids := by cases t; rfl
            rw [ht4, ownT_mk]
            refine ⟨.own j, rfl, .inr (.inr ⟨j, rows, S, rfl, rfl, by rw [getD_set_ne' hjA]; exact hg, hR.frame fun i hi => ?_⟩)⟩
            have := hge i (by simp [hi])
            rw [getD_set_ne' (by omega)]
        · refine List.nodup_append.2 ⟨hN, hND, fun x hx y hy => ?_⟩
          have := low x hx
          have := hge y hy
          omega
        · intro i hi
          rcases List.mem_append.1 hi with hi | hi
          · exact hlo i hi
          · have := hge i hi; omega
        · rw [getD_set_ne' (by omega), hf3 k (by omega), hfr k hk]
      have hel : ∀ v ∈ [AV.int .i64 t.kind, .str t.mod, .str t.name, .own j], isElem v = true := by simp [isElem, isLeaf]
      by_cases hp0 : p = 0
      · rw [if_pos hp0] at hb3
        have hz := key ks.length (List.replicate ks.length zty) rfl (by simp) (by subst hp0; simp at hrl; simp [hrl]) (by subst hp0; simp)
        have hdz : List.drop 4 ((List.replicate ks.length zty).getD p []) = [] := by rw [getD_repl hp2]; rfl
        simp only [zW, zX, zD, builtinA, isLeaf, const1, ustrA, simprocAttr, ti3, ti32, ti34, ti40, ti42, ca29, cf, Tryz.results40, hg, hb3, hz, hdz, hi1, LoopK_eq]
        refine ⟨⟨by omega, by simp; omega⟩, ⟨by simp; omega, hel⟩, by simpa only [List.append_assoc, List.cons_append, List.nil_append, List.length_set] using fin _ rfl, ?_⟩
        simp only [intOf]; omega
      · rw [if_neg hp0] at hb3
        have hz := key ks.length (rl ++ List.replicate (ks.length - p) zty) rfl (by simp; omega) (by rw [← hrl]; simp) (by rw [← hrl]; simp)
        have hdz : List.drop 4 ((rl ++ List.replicate (ks.length - p) zty).getD p []) = [] := by
          rw [Abs.getD_append_right (by omega), hrl, Nat.sub_self, getD_repl (by omega)]; rfl
        simp only [zW, zX, zD, builtinA, isLeaf, const1, ustrA, simprocAttr, ti3, ti32, ti34, ti40, ti42, ca29, cf, Tryz.results40, hg, hb3, hz, hdz, hi1, LoopK_eq]
        refine ⟨⟨by omega, by simp; omega⟩, ⟨by simp; omega, hel⟩, by simpa only [List.append_assoc, List.cons_append, List.nil_append, List.length_set] using fin _ rfl, ?_⟩
        simp only [intOf]; omega
    · have hp2 : p = ks.length := by simp at h2; omega
      subst hp2
      simp only [zW, zX, zD, builtinA, isLeaf, const1, ustrA, simprocAttr, ti3, ti32, ti34, ti40, ti42, ca29, cf, Tryz.results40]
      rw [List.take_length] at hO
      have low := hO.low
      have hnd : (A.length :: SL).Nodup := List.nodup_cons.2 ⟨fun h => by have := hlo _ h; omega, hN⟩
      have hge : ∀ i ∈ A.length :: SL, A.length ≤ i := fun i hi => by
        rcases List.mem_cons.1 hi with rfl | hi
        · exact Nat.le_refl _
        · have := hlo i hi; omega
      by_cases h0 : ks.length = 0
      · have hk0 : ks = [] := List.length_eq_zero_iff.1 h0
        rw [if_pos h0, h0] at hb
        refine .inr ⟨A.length, 4, [], by rw [hb]; rfl, A.length, rfl, by simp; omega, fun k hk => by rw [getD_set_ne' (by omega)]; exact hfr k hk, [], [], getD_set_self hlt, by rw [hk0]; simp [OwnR], by simp, by simp⟩
      · rw [if_neg h0] at hb
        refine .inl ⟨A.length, rfl, by omega, hfr, rl, SL, by rw [hb]; simp, hO, hnd, hge⟩

set_option maxRecDepth 100000 in
theorem toType_own (τ : Ty) (hτ : sz τ ≤ 1048576) : TypN τ := by
  induction τ using Ty.ind with
  | h k m n ks ih =>
    intro A
    rw [encA]
    have h1 : ks.length ≤ 1048576 := by rw [sz] at hτ; omega
    have h2 : ∀ t ∈ ks, sz t ≤ 1048576 := fun t ht => by rw [sz] at hτ; have := szs_mem ht; omega
    have hks := toTypeS_own ks h1 (fun t ht => ih t ht (h2 t ht))
    refine acalls_enterK (cf := cf 18 [0, 1, 2, 3]) foll Tryz.func29 Tryz.ntmps29 (by simp [cf]) ?_
    simp only [Tryz.f29, EnterK_some, zW, zX, zD, builtinA, isLeaf, const1, ustrA, simprocAttr, ti3, ti9, ti32, ti34, ti40, ti42, ca40, cf, Tryz.results29]
    refine callK_intro (by simp only [zW, zX, zD, builtinA, isLeaf, const1, ustrA, simprocAttr, Option.map_some] <;> rfl) (hks _) ?_ rfl
    rintro r A' ⟨j, rfl, hle, hf, rows, S, hg, hR, hND, hge⟩
    simp only [List.length_append, List.length_cons, List.length_nil] at hle hf hge
    have gb : ∀ i b, ([Box.cells [.int .i64 k, .str m, .str n, .aslice (encAs ks)], .cells [.int .i64 0, .str [], .str [], .nils], .cells [.int .i64 k, .str m, .str n, .nils]] : List Box).getD i .dead = b → i < 3 → A'.getD (A.length + i) .dead = b := fun i b h hi => by
      rw [hf _ (by omega), Abs.getD_append_right (by omega), show A.length + i - A.length = i by omega]; exact h
    have g1 := gb 1 _ rfl (by omega)
    have g2 := gb 2 _ rfl (by omega)
    have hl1 : A.length + 1 < A'.length := by omega
    have hl2 : A.length + 2 < A'.length := by omega
    have s1 : ∀ X : Box, (A'.set (A.length + 2) X).getD (A.length + 2) .dead = X := fun X => getD_set_self hl2
    have s2 : ∀ X : Box, (A'.set (A.length + 2) X).getD (A.length + 1) .dead = .cells [.int .i64 0, .str [], .str [], .nils] := fun X => by rw [getD_set_ne' (by omega)]; exact g1
    have s3 : ∀ X Y : Box, ((A'.set (A.length + 2) X).set (A.length + 1) Y).getD (A.length + 1) .dead = Y := fun X Y => getD_set_self (by simpa using hl1)
    have fin : ∀ X Y : Box, NewK A ks j ((A'.set (A.length + 2) X).set (A.length + 1) Y) := fun X Y => by
      refine ⟨by simp; omega, fun i hi => ?_, rows, S, ?_, hR.frame fun i hi => ?_, hND, fun i hi => by have := hge i hi; omega⟩
      · rw [getD_set_ne' (by omega), getD_set_ne' (by omega), hf i (by omega), Abs.getD_append_left hi]
      · have := hge j (by simp)
        rw [getD_set_ne' (by omega), getD_set_ne' (by omega)]; exact hg
      · have := hge i (by simp [hi])
        rw [getD_set_ne' (by omega), getD_set_ne' (by omega)]
    simp only [zW, zX, zD, builtinA, isLeaf, const1, ustrA, simprocAttr, ti3, ti9, ti32, ti34, ti40, ti42, ca40, cf, Tryz.results29, g1, g2, s1, s2, s3]
    exact ⟨j, rfl, fin _ _⟩
end Go.Proofs.YtejbjgmgdbcddaaGreat
