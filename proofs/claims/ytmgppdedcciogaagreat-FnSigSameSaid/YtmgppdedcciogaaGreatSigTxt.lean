/- Different signatures have different texts. -/
import Derived.Test.YtmgppdedcciogaaGreatFmtI
import Derived.Test.YtmgppdedcciogaaGreatNormP
import Derived.Test.YtmgppdedcciogaaGreatTxtInj
import Derived.Test.YtmgppdedcciogaaGreatSigSame
set_option linter.unusedVariables false
set_option linter.unusedSimpArgs false
namespace Go.Proofs.YtmgppdedcciogaaGreat
open Go.Abs

theorem sisB_iff : ∀ (a b : List SigI), sisB a b = true ↔ a = b
  | [], [] => by simp [sisB]
  | [], _ :: _ => by simp [sisB]
  | _ :: _, [] => by simp [sisB]
  | x :: a, y :: b => by
    rw [sisB, Bool.and_eq_true, sisB_iff a b, siB]
    obtain ⟨k, n, t⟩ := x
    obtain ⟨k', n', t'⟩ := y
    simp [and_assoc]
theorem sisB_refl (a : List SigI) : sisB a a = true := (sisB_iff a a).2 rfl
theorem sisB_comm (a b : List SigI) : sisB a b = sisB b a := by
  rw [Bool.eq_iff_iff, sisB_iff, sisB_iff]; exact ⟨Eq.symm, Eq.symm⟩
/-- an item that has a text -/
def okT (y : VI) : Prop := okI y ∧ localB (nameI y) = true
theorem name_form {n : List UInt8} (h : localB n = true) : ∃ l : UInt8, n = [l] := List.length_eq_one_iff.1 (local_one h)
def Ends (r : List UInt8) : Prop := ∃ c q, r = c :: q ∧ (c = 59 ∨ c = 125)
theorem txtI_pf {y y' : VI} {r r' : List UInt8} (h : okT y) (h' : okT y') (hr : Ends r) (hr' : Ends r') (e : txtI y ++ r = txtI y' ++ r') : y = y' ∧ r = r' := by
  obtain ⟨c, q, rfl, hc⟩ := hr
  obtain ⟨c', q', rfl, hc'⟩ := hr'
  obtain ⟨h1, h2⟩ := h
  obtain ⟨h1', h2'⟩ := h'
  cases y with
  | ab n =>
    obtain ⟨l, rfl⟩ := name_form h2
    cases y' with
    | ab n' => obtain ⟨l', rfl⟩ := name_form h2'; simp [txtI] at e; exact ⟨by rw [e.1], by rw [e.2.1, e.2.2]⟩
    | al n' v => obtain ⟨l', rfl⟩ := name_form h2'; simp [txtI] at e; rcases hc with rfl | rfl <;> exact absurd e.2.1 (by decide)
    | va n' v => obtain ⟨l', rfl⟩ := name_form h2'; simp [txtI] at e; rcases hc with rfl | rfl <;> exact absurd e.2.1 (by decide)
  | al n v =>
    obtain ⟨l, rfl⟩ := name_form h2
    cases y' with
    | ab n' => obtain ⟨l', rfl⟩ := name_form h2'; simp [txtI] at e; rcases hc' with rfl | rfl <;> exact absurd e.2.1 (by decide)
    | al n' v' =>
      obtain ⟨l', rfl⟩ := name_form h2'
      simp only [txtI, List.append_assoc, List.cons_append, List.nil_append, List.cons.injEq, true_and] at e
      obtain ⟨rfl, e⟩ := e
      have := txt_pf v v' _ _ h1.ok h1'.ok e
      exact ⟨by rw [this.1], this.2⟩
    | va n' v' => obtain ⟨l', rfl⟩ := name_form h2'; simp [txtI] at e
  | va n v =>
    obtain ⟨l, rfl⟩ := name_form h2
    cases y' with
    | ab n' => obtain ⟨l', rfl⟩ := name_form h2'; simp [txtI] at e; rcases hc' with rfl | rfl <;> exact absurd e.2.1 (by decide)
    | al n' v' => obtain ⟨l', rfl⟩ := name_form h2'; simp [txtI] at e
    | va n' v' =>
      obtain ⟨l', rfl⟩ := name_form h2'
      simp only [txtI, List.append_assoc, List.cons_append, List.nil_append, List.cons.injEq, true_and] at e
      obtain ⟨rfl, e⟩ := e
      have := txt_pf v v' _ _ h1.ok h1'.ok e
      exact ⟨by rw [this.1], this.2⟩
def tailT : List VI → List UInt8
  | [] => []
  | y :: ys => 59 :: (txtI y ++ tailT ys)
theorem tailT_app : ∀ (a : List VI) (y : VI), tailT (a ++ [y]) = tailT a ++ 59 :: txtI y
  | [], y => by simp [tailT]
  | x :: a, y => by simp [tailT, tailT_app a y]
theorem tailT_ends (ys : List VI) : Ends (tailT ys ++ [125]) := by
  cases ys with
  | nil => exact ⟨125, [], rfl, .inr rfl⟩
  | cons y ys => exact ⟨59, _, rfl, .inl rfl⟩
theorem tailT_inj : ∀ {a b : List VI}, (∀ y ∈ a, okT y) → (∀ y ∈ b, okT y) → tailT a ++ [125] = tailT b ++ [125] → a = b
  | [], [], _, _, _ => rfl
  | [], y :: b, _, _, e => by simp [tailT] at e
  | x :: a, [], _, _, e => by simp [tailT] at e
  | x :: a, y :: b, ha, hb, e => by
    simp only [tailT, List.cons_append, List.append_assoc, List.cons.injEq, true_and] at e
    obtain ⟨rfl, e2⟩ := txtI_pf (ha x (by simp)) (hb y (by simp)) (tailT_ends a) (tailT_ends b) e
    rw [tailT_inj (fun z hz => ha z (List.mem_cons_of_mem _ hz)) (fun z hz => hb z (List.mem_cons_of_mem _ hz)) e2]
theorem bodyN_tail (y : VI) (l : List VI) : ∀ i, i ≤ l.length → bodyN (y :: l) (i + 1) = txtI y ++ tailT (l.take i)
  | 0, _ => by simp [bodyN, tailT]
  | i + 1, h => by
    have e : l.take (i + 1) = l.take i ++ [l.getD i vi0] := by
      rw [List.take_add_one]; simp [List.getD, show i < l.length by omega]
    rw [bodyN, bodyN_tail y l i (by omega), e, tailT_app, if_neg (by omega)]
    simp
theorem txtS_cons (y : VI) (l : List VI) : txtS (y :: l) = 123 :: (txtI y ++ (tailT l ++ [125])) := by
  rw [txtS, List.length_cons, bodyN_tail y l l.length (by omega), List.take_length]; simp
theorem txtI_ne {y : VI} (h : okT y) : txtI y ≠ [] := by
  obtain ⟨h1, h2⟩ := h
  cases y <;> obtain ⟨l, rfl⟩ := name_form h2 <;> simp [txtI]
theorem txtS_inj {a b : List VI} (ha : ∀ y ∈ a, okT y) (hb : ∀ y ∈ b, okT y) (e : txtS a = txtS b) : a = b := by
  cases a with
  | nil =>
    cases b with
    | nil => rfl
    | cons y b =>
      rw [txtS_cons] at e
      have hn := txtI_ne (hb y (by simp))
      have hl := congrArg List.length e
      have : 0 < (txtI y).length := List.length_pos_iff.2 hn
      simp [txtS, bodyN] at hl
      omega
  | cons x a =>
    cases b with
    | nil =>
      rw [txtS_cons] at e
      have hn := txtI_ne (ha x (by simp))
      have hl := congrArg List.length e
      have : 0 < (txtI x).length := List.length_pos_iff.2 hn
      simp [txtS, bodyN] at hl
      omega
    | cons y b =>
      rw [txtS_cons, txtS_cons, List.cons.injEq] at e
      obtain ⟨rfl, e2⟩ := txtI_pf (ha x (by simp)) (hb y (by simp)) (tailT_ends a) (tailT_ends b) e.2
      rw [tailT_inj (fun z hz => ha z (List.mem_cons_of_mem _ hz)) (fun z hz => hb z (List.mem_cons_of_mem _ hz)) e2]
theorem reads_okT {s : List SigI} {ys : List VI} (h : ReadsTo s ys) : ∀ y ∈ ys, okT y := fun y hy => by
  obtain ⟨i, hi, rfl⟩ := List.mem_iff_getElem.1 hy
  have h1 := h.2 i (by rw [← h.1]; exact hi)
  have e : ys.getD i vi0 = ys[i] := by simp [List.getD, hi]
  rw [e] at h1
  obtain ⟨h2, h3⟩ := itemOf_ok h1.2
  exact ⟨h3, by rw [h2]; exact h1.1⟩
/-- texts that are not empty are the same where the signatures are -/
theorem txtIs_same {s t : List SigI} {u v : List UInt8} (hs : TxtIs s u) (ht : TxtIs t v) (hu : u ≠ []) (hv : v ≠ []) : sisB s t = true ↔ u = v := by
  rcases hs with ⟨ys, h8, hr, ho, rfl⟩ | ⟨_, h⟩
  · rcases ht with ⟨zs, h8', hr', ho', rfl⟩ | ⟨_, h⟩
    · rw [sisB_iff]
      constructor
      · rintro rfl; rw [reads_uniq hr hr']
      · intro e
        rw [readsTo_si hr, readsTo_si hr', txtS_inj (reads_okT hr) (reads_okT hr') e]
    · exact absurd h hv
  · exact absurd h hu
end Go.Proofs.YtmgppdedcciogaaGreat
