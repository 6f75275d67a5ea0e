/- ClsG, Facts, Types. -/
import Derived.Test.YtijlnkfiadajhaaAbsW3
import Derived.Test.YtijlnkfiadajhaaRows
/- Classes of lists in their places, as a map keeps them: for any kind of list. -/
set_option linter.unusedVariables false
set_option linter.unusedSimpArgs false
namespace Go.Proofs.Ytijlnkfiadajhaa
namespace CG
open Go.Abs
structure Pl (α : Type) where
  kv : α → List AV
  idn : α → Nat × Nat × Nat
  T : TypeId
  keq : ∀ x y,eqK [(0,.ptr T),(1,.int .i64)] (kv x) (kv y) = some (decide (idn x = idn y))
  klen : ∀ x,(kv x).length = 2
  kcl : ∀ n x,closed2 n (.agg (kv x)) = true
section
variable {α : Type} (P : Pl α)
def KK : List (Nat × TK):=[(0,.ptr P.T),(1,.int .i64)]
def es (m : List (α × α)) : List (AV × AV):=m.map fun p=>(.agg (P.kv p.1),.agg (P.kv p.2))
def fnd (l : α) : List (α × α) → Nat → Option (Nat × α)
  | [],_=>none
  | p :: m,i=>if P.idn l = P.idn p.1 then some (i,p.2) else fnd l m (i + 1)
theorem find_es (l : α) : ∀ (m : List (α × α)) (n : Nat),findA (KK P) (P.kv l) (es P m) n = some ((fnd P l m n).map fun p=>(p.1,.agg (P.kv p.2)))
  | [],n=>rfl
  | p :: m,n=>by
    have ih:=find_es l m (n + 1)
    have hk : eqK (KK P) (P.kv l) (P.kv p.1) = some (decide (P.idn l = P.idn p.1)):=P.keq l p.1
    have hk2 : eqK (KK P) (P.kv p.1) (P.kv l) = some (decide (P.idn p.1 = P.idn l)):=P.keq p.1 l
    simp only [es,List.map_cons,findA,fnd]
    rw [if_pos (show (P.kv p.1).length = (P.kv l).length by rw [P.klen,P.klen])]
    first | rw [hk] | rw [hk2]
    by_cases h : P.idn l = P.idn p.1
    · simp [h]
    · simp only [decide_eq_false h,decide_eq_false (Ne.symm h),if_neg h]
      exact ih
theorem fnd_some {l : α} : ∀ {m : List (α × α)} {n j : Nat} {v : α},fnd P l m n = some (j,v) → n ≤ j ∧ j - n < m.length ∧ P.idn (m.getD (j - n) (l,l)).1 = P.idn l ∧ (m.getD (j - n) (l,l)).2 = v
  | [],n,j,v,h=>by simp [fnd] at h
  | p :: m,n,j,v,h=>by
    simp only [fnd] at h
    split at h
    · rename_i he
      injection h with h; injection h with h1 h2
      subst h1; subst h2
      simp [he]
    · obtain ⟨h1,h2,h3,h4⟩:=fnd_some h
      have e : j - n = (j - (n + 1)) + 1:=by omega
      rw [e]
      exact ⟨by omega,by simp; omega,by simpa using h3,by simpa using h4⟩
theorem fnd_none {l : α} : ∀ {m : List (α × α)} {n : Nat},fnd P l m n = none → ∀ p ∈ m,P.idn p.1 ≠ P.idn l
  | [],n,_=>by simp
  | p :: m,n,h=>by
    simp only [fnd] at h
    split at h
    · cases h
    · rename_i he
      intro q hq
      rcases List.mem_cons.1 hq with rfl | hq
      · exact fun e=>he e.symm
      · exact fnd_none h q hq
structure CI (U : List α) (R : α → α → Prop) (m : List (α × α)) : Prop where
  mem : ∀ p ∈ m,p.1 ∈ U ∧ p.2 ∈ U ∧ R p.1 p.2
  ord : ∀ (i j : Nat) (p q : α × α),m[i]? = some p → m[j]? = some q → i ≤ j → p.1 ≠ q.2
theorem CI.nil (U : List α) (R : α → α → Prop) : CI U R []:=⟨by simp,by simp⟩
theorem CI.cut {U : List α} {R : α → α → Prop} {m : List (α × α)} (h : CI U R m) {i j : Nat} {l up top : α} (hi : m[i]? = some (l,up)) (hj : m[j]? = some (up,top)) (ht : ∀ x y z,R x y → R y z → R x z) :
    CI U R (m.set i (l,top)) ∧ (m.set i (l,top)).map (·.1) = m.map (·.1):=by
  have hil : i < m.length:=(List.getElem?_eq_some_iff.1 hi).1
  have hij : i < j:=by
    rcases Nat.lt_or_ge i j with h' | h'
    · exact h'
    · exact absurd rfl (h.ord j i _ _ hj hi h')
  have hm : (m.set i (l,top)).map (·.1) = m.map (·.1):=by
    rw [List.map_set]
    apply List.ext_getElem? 
    intro k
    by_cases hk : i = k
    · subst hk
      rw [List.getElem?_set_self (by simpa using hil),List.getElem?_map,hi]; rfl
    · rw [List.getElem?_set_ne hk]
  have m1:=h.mem _ (List.mem_of_getElem? hi)
  have m2:=h.mem _ (List.mem_of_getElem? hj)
  refine ⟨⟨fun p hp=>?_,fun a b p q ha hb hab=>?_⟩,hm⟩
  · rcases List.mem_or_eq_of_mem_set hp with hp | rfl
    · exact h.mem p hp
    · exact ⟨m1.1,m2.2.1,ht _ _ _ m1.2.2 m2.2.2⟩
  · have keys : ∀ (c : Nat) (r : α × α),(m.set i (l,top))[c]? = some r → ∃ s,m[c]? = some (r.1,s):=fun c r hc=>by
      by_cases hci : i = c
      · subst hci
        rw [List.getElem?_set_self hil] at hc
        cases hc
        exact ⟨up,hi⟩
      · rw [List.getElem?_set_ne hci] at hc
        exact ⟨r.2,hc⟩
    obtain ⟨s,hs⟩:=keys a p ha
    by_cases hbi : i = b
    · subst hbi
      rw [List.getElem?_set_self hil] at hb
      cases hb
      exact h.ord a j (p.1,s) (up,top) hs hj (by omega)
    · rw [List.getElem?_set_ne hbi] at hb
      exact h.ord a b (p.1,s) q hs hb hab
theorem CI.push {U : List α} {R : α → α → Prop} {m : List (α × α)} (h : CI U R m) {x y : α} (hx : x ∈ U) (hy : y ∈ U) (hr : R x y) (hny : ∀ p ∈ m,p.1 ≠ y) (hne : x ≠ y) : CI U R (m ++ [(x,y)]):=by
  refine ⟨fun p hp=>?_,fun a b p q ha hb hab=>?_⟩
  · rcases List.mem_append.1 hp with hp | hp
    · exact h.mem p hp
    · obtain rfl:=List.mem_singleton.1 hp
      exact ⟨hx,hy,hr⟩
  · rcases Nat.lt_or_ge b m.length with hbl | hbl
    · rw [List.getElem?_append_left hbl] at hb
      rw [List.getElem?_append_left (by omega)] at ha
      exact h.ord a b p q ha hb hab
    · have hb':=(List.getElem?_eq_some_iff.1 hb).1
      simp only [List.length_append,List.length_singleton] at hb'
      obtain rfl : b = m.length:=by omega
      simp at hb
      subst hb
      rcases Nat.lt_or_ge a m.length with hal | hal
      · rw [List.getElem?_append_left hal] at ha
        exact hny p (List.mem_of_getElem? ha)
      · obtain rfl : a = m.length:=by omega
        simp at ha
        subst ha
        exact hne
theorem es_closed (n : Nat) (m : List (α × α)) : boxClosed n (.mapb (es P m)) = true:=by
  simp only [boxClosed,List.all_eq_true,es,List.mem_map]
  rintro e ⟨p,_,rfl⟩
  simp only [P.kcl,Bool.and_self]
def posA (ks : List AV) (l : List (AV × AV)) : Nat :=
  match findA (KK P) ks l 0 with
  | some (some (j,_))=>l.length - j
  | _=>0
def mu (a i : Nat) (A : List Box) : Nat :=
  match A.getD a .dead,A.getD i .dead with
  | .cells ks,.mapb l=>posA P ks l
  | _,_=>0
theorem posA_es (x : α) (m : List (α × α)) : posA P (P.kv x) (es P m) = match fnd P x m 0 with
    | some (j,_)=>m.length - j
    | none=>0:=by
  unfold posA
  rw [find_es]
  cases fnd P x m 0 with
  | none=>rfl
  | some q=>simp [es]
theorem fnd_keys (x : α) : ∀ {m m' : List (α × α)} (n : Nat),m.map (·.1) = m'.map (·.1) → (fnd P x m n).map (·.1) = (fnd P x m' n).map (·.1)
  | [],[],n,_=>rfl
  | [],_ :: _,n,h=>by simp at h
  | _ :: _,[],n,h=>by simp at h
  | p :: m,p' :: m',n,h=>by
    simp only [List.map_cons,List.cons.injEq] at h
    simp only [fnd,h.1]
    split
    · rfl
    · exact fnd_keys x (n + 1) h.2
theorem posA_keys (x : α) {m m' : List (α × α)} (h : m.map (·.1) = m'.map (·.1)) : posA P (P.kv x) (es P m) = posA P (P.kv x) (es P m'):=by
  have hl : m.length = m'.length:=by have:=congrArg List.length h; simpa using this
  have hk:=fnd_keys P x 0 h
  rw [posA_es,posA_es]
  cases h1 : fnd P x m 0 with
  | none=>cases h2 : fnd P x m' 0 with
    | none=>rfl
    | some b=>rw [h1,h2] at hk; simp at hk
  | some a=>cases h2 : fnd P x m' 0 with
    | none=>rw [h1,h2] at hk; simp at hk
    | some b =>
      rw [h1,h2] at hk
      obtain ⟨a1,a2⟩:=a
      obtain ⟨b1,b2⟩:=b
      simp at hk
      subst hk
      simp only [hl]
end
theorem set_same {A : List Box} {i : Nat} {X : Box} (hi : i < A.length) (h : A.getD i .dead = X) : A.set i X = A:=by
  subst h
  apply List.ext_getElem (by simp)
  intro k h1 h2
  by_cases e : i = k
  · subst e; simp [List.getD,h2]
  · rw [List.getElem_set_ne e]
def Chg (S : List Nat) (A A' : List Box) : Prop:=A'.length = A.length ∧ (∀ k,k ∉ S → A'.getD k .dead = A.getD k .dead) ∧ ∀ k ∈ S,∀ n,boxClosed n (A'.getD k .dead) = true
structure Kp (D S : List Nat) (I : List Box → Prop) : Prop where
  loc : ∀ A A',(∀ k ∈ D,A'.getD k .dead = A.getD k .dead) → I A → I A'
  lt : ∀ A,I A → ∀ k ∈ D,k < A.length
  cls : ∀ A,I A → ∀ k ∈ S,∀ n,boxClosed n (A.getD k .dead) = true
  sub : ∀ k ∈ S,k ∈ D
theorem Chg.rfl {D S : List Nat} {I : List Box → Prop} (hK : Kp D S I) {A : List Box} (h : I A) : Chg S A A:=⟨_root_.rfl,fun _ _=>_root_.rfl,hK.cls A h⟩
theorem Chg.trans {S : List Nat} {A B C : List Box} (h : Chg S A B) (k : Chg S B C) : Chg S A C:=⟨k.1.trans h.1,fun x hx=>(k.2.1 x hx).trans (h.2.1 x hx),k.2.2⟩
theorem Chg.outer {S : List Nat} {A A' : List Box} (h : Chg S A A') (L : List Box) : Outer A (A' ++ L):=by
  obtain ⟨h1,h2,h3⟩:=h
  refine ⟨by simp; omega,fun k hk=>?_⟩
  rw [Abs.getD_append_left (by omega)]
  by_cases e1 : k ∈ S
  · exact .inr (h3 k e1 _)
  · exact .inl (h2 k e1)
theorem Chg.take {S : List Nat} {A A' : List Box} (h : Chg S A A') (L : List Box) : (A' ++ L).take A.length = A':=by
  rw [List.take_append_of_le_length (by rw [h.1]; exact Nat.le_refl _),List.take_of_length_le (by rw [h.1]; exact Nat.le_refl _)]
theorem Chg.split {S : List Nat} {A L A' : List Box} (h : Chg S (A ++ L) A') (hS : ∀ k ∈ S,k < A.length) : ∃ A1 L1,A' = A1 ++ L1 ∧ Chg S A A1 ∧ L1 = L:=by
  obtain ⟨h1,h2,h3⟩:=h
  have hl : A.length ≤ A'.length:=by rw [h1]; simp
  have hg : ∀ k,k < A.length → (A'.take A.length).getD k .dead = A'.getD k .dead:=fun k hk=>by simp [List.getD,List.getElem?_take,hk]
  refine ⟨A'.take A.length,A'.drop A.length,(List.take_append_drop _ _).symm,⟨by simp; omega,fun k e1=>?_,fun k hk n=>?_⟩,?_⟩
  · by_cases hk : k < A.length
    · rw [hg k hk,h2 k e1,Abs.getD_append_left hk]
    · have e3 : (A'.take A.length).length = A.length:=by simp; omega
      simp [List.getD,List.getElem?_take,hk]
  · rw [hg _ (hS k hk)]; exact h3 k hk n
  · apply List.ext_getElem (by simp [h1])
    intro i hi1 hi2
    have hd:=h2 (A.length + i) (fun hk=>by have:=hS _ hk; omega)
    rw [Abs.getD_append_right (by omega),Nat.add_sub_cancel_left] at hd
    have hi3 : A.length + i < A'.length:=by simp at hi1; omega
    simp [List.getD,hi2,hi3] at hd
    rw [List.getElem_drop]; exact hd
theorem Kp.app {D S : List Nat} {I : List Box → Prop} (hK : Kp D S I) {A : List Box} (h : I A) (L : List Box) : I (A ++ L):=hK.loc A _ (fun k hk=>Abs.getD_append_left (hK.lt A h k hk)) h
theorem Kp.cut {D S : List Nat} {I : List Box → Prop} (hK : Kp D S I) {A L : List Box} (h : I (A ++ L)) (hl : ∀ k ∈ D,k < A.length) : I A:=hK.loc _ A (fun k hk=>(Abs.getD_append_left (hl k hk)).symm) h
theorem Kp.and {D S D' S' : List Nat} {I I' : List Box → Prop} (h : Kp D S I) (h' : Kp D' S' I') : Kp (D ++ D') (S ++ S') (fun A=>I A ∧ I' A) where
  loc A A' hk hi:=⟨h.loc A A' (fun k hk'=>hk k (by simp [hk'])) hi.1,h'.loc A A' (fun k hk'=>hk k (by simp [hk'])) hi.2⟩
  lt A hi k hk:=(List.mem_append.1 hk).elim (h.lt A hi.1 k) (h'.lt A hi.2 k)
  cls A hi k hk:=(List.mem_append.1 hk).elim (h.cls A hi.1 k) (h'.cls A hi.2 k)
  sub k hk:=by
    rcases List.mem_append.1 hk with hk | hk
    · exact List.mem_append_left _ (h.sub k hk)
    · exact List.mem_append_right _ (h'.sub k hk)
theorem Kp.box (c : Nat) (X : Box) (hX : X ≠ .dead) : Kp [c] [] (fun A=>A.getD c .dead = X) where
  loc A A' hk hi:=by rw [hk c (by simp)]; exact hi
  lt A hi k hk:=by
    obtain rfl:=List.mem_singleton.1 hk
    rcases Nat.lt_or_ge k A.length with hh | hh
    · exact hh
    · simp [List.getD,Nat.not_lt.2 hh] at hi; exact absurd hi.symm hX
  cls A hi k hk:=by simp at hk
  sub k hk:=by simp at hk
def Cmp (P : Program) (S : List Nat) (I : List Box → Prop) (f : FuncId) (args : List AV) (b : Bool) : Prop :=
  ∀ A,I A → ACalls P f args A (fun r A'=>r = .bool b ∧ Chg S A A' ∧ (b = true → I A'))
theorem Cmp.frame {P : Program} {S D' : List Nat} {I I' : List Box → Prop} {f : FuncId} {args : List AV} {b : Bool} (h : Cmp P S I f args b) (h' : Kp D' [] I') (hd : ∀ k ∈ D',k ∉ S) : Cmp P S (fun A=>I A ∧ I' A) f args b:=fun A hA =>
  (h A hA.1).mono fun r A' ⟨h1,h2,h3⟩=>⟨h1,h2,fun hb=>⟨h3 hb,h'.loc A A' (fun k hk=>h2.2.1 k (hd k hk)) hA.2⟩⟩
theorem Cmp.conv {P : Program} {S S' : List Nat} {I I' : List Box → Prop} {f : FuncId} {args : List AV} {b : Bool} (h : Cmp P S I f args b) (h1 : ∀ A,I' A → I A) (hS : ∀ k ∈ S,k ∈ S') (hc : ∀ A,I' A → ∀ k ∈ S',∀ n,boxClosed n (A.getD k .dead) = true)
    (h2 : ∀ A A',I' A → Chg S A A' → I A' → I' A') : Cmp P S' I' f args b:=fun A hA =>
  (h A (h1 A hA)).mono fun r A' ⟨q1,q2,q3⟩=>⟨q1,⟨q2.1,fun k hk=>q2.2.1 k (fun h=>hk (hS k h)),fun k hk n=>by
    by_cases e : k ∈ S
    · exact q2.2.2 k e n
    · rw [q2.2.1 k e]; exact hc A hA k hk n⟩,fun hb=>h2 A A' hA q2 (q3 hb)⟩
def allB {α : Type} (e : α → α → Bool) : List α → List α → Bool
  | [],[]=>true
  | x :: a,y :: b=>e x y && allB e a b
  | _,_=>false
theorem allB_len {α : Type} {e : α → α → Bool} : ∀ {a b : List α},a.length ≠ b.length → allB e a b = false
  | [],[],h=>absurd rfl h
  | [],_ :: _,_=>rfl
  | _ :: _,[],_=>rfl
  | x :: a,y :: b,h=>by rw [allB,allB_len (by simpa using h),Bool.and_false]
theorem allB_iff {α δ : Type} {e : α → α → Bool} {er : α → δ} (he : ∀ x y,e x y = true ↔ er x = er y) : ∀ a b : List α,allB e a b = true ↔ a.map er = b.map er
  | [],[]=>by simp [allB]
  | [],_ :: _=>by simp [allB]
  | _ :: _,[]=>by simp [allB]
  | x :: a,y :: b=>by simp [allB,he,allB_iff he a b]
theorem allB_at {α : Type} {e : α → α → Bool} (d : α) (a b : List α) {i : Nat} (hi : i < a.length) (hj : i < b.length) : allB e (a.drop i) (b.drop i) = (e (a.getD i d) (b.getD i d) && allB e (a.drop (i + 1)) (b.drop (i + 1))):=by
  have h1 : a.drop i = a.getD i d :: a.drop (i + 1):=by
    have : a.getD i d = a[i]:=by simp [List.getD,hi]
    rw [this,List.getElem_cons_drop hi]
  have h2 : b.drop i = b.getD i d :: b.drop (i + 1):=by
    have : b.getD i d = b[i]:=by simp [List.getD,hj]
    rw [this,List.getElem_cons_drop hj]
  rw [h1,h2,allB]
def ClM {α : Type} (P : Pl α) (U : List α) (R : α → α → Prop) (i : Nat) (A : List Box) : Prop:=i < A.length ∧ ∃ m,A.getD i .dead = .mapb (es P m) ∧ CI U R m
theorem ClM.kp {α : Type} (P : Pl α) (U : List α) (R : α → α → Prop) (i : Nat) : Kp [i] [i] (ClM P U R i) where
  loc A A' hk hi:=by
    obtain ⟨h1,m,h2,h3⟩:=hi
    have:=hk i (by simp)
    refine ⟨?_,m,by rw [this]; exact h2,h3⟩
    rcases Nat.lt_or_ge i A'.length with hh | hh
    · exact hh
    · rw [h2] at this; simp [List.getD,Nat.not_lt.2 hh] at this
  lt A hi k hk:=by obtain rfl:=List.mem_singleton.1 hk; exact hi.1
  cls A hi k hk n:=by
    obtain rfl:=List.mem_singleton.1 hk
    obtain ⟨_,m,h2,_⟩:=hi
    rw [h2]; exact es_closed P n m
  sub k hk:=hk
theorem ClM.new {α : Type} (P : Pl α) (U : List α) (R : α → α → Prop) {i : Nat} {A : List Box} (hi : i < A.length) (h : A.getD i .dead = .mapb []) : ClM P U R i A:=⟨hi,[],h,.nil _ _⟩
end CG
end Go.Proofs.Ytijlnkfiadajhaa
/- Facts of this translation. -/
namespace Go.Proofs.Ytijlnkfiadajhaa
open Go.Abs
theorem ks181 : keyS Try.prog 181 = some [(0,.ptr 53),(1,.int .i64)]:=by kernel_rfl
theorem ks185 : keyS Try.prog 185 = some [(0,.ptr 50),(1,.int .i64)]:=by kernel_rfl
theorem ks189 : keyS Try.prog 189 = some [(0,.ptr 70),(1,.int .i64)]:=by kernel_rfl
theorem ks193 : keyS Try.prog 193 = some [(0,.ptr 102),(1,.int .i64)]:=by kernel_rfl
theorem ks202 : keyS Try.prog 202 = some [(0,.ptr 130),(1,.int .i64)]:=by kernel_rfl
theorem ks206 : keyS Try.prog 206 = some [(0,.ptr 132),(1,.int .i64)]:=by kernel_rfl
theorem ks211 : keyS Try.prog 211 = some [(0,.ptr 9),(1,.int .i64)]:=by kernel_rfl
theorem mi76 : mapInf Try.prog 76 = some (185,[(0,.ptr 50),(1,.int .i64)],2,.agg [.nilp,.int .i64 0]):=by kernel_rfl
theorem mi80 : mapInf Try.prog 80 = some (206,[(0,.ptr 132),(1,.int .i64)],2,.agg [.nilp,.int .i64 0]):=by kernel_rfl
theorem mi85 : mapInf Try.prog 85 = some (181,[(0,.ptr 53),(1,.int .i64)],2,.agg [.nilp,.int .i64 0]):=by kernel_rfl
theorem mi89 : mapInf Try.prog 89 = some (202,[(0,.ptr 130),(1,.int .i64)],2,.agg [.nilp,.int .i64 0]):=by kernel_rfl
theorem mi93 : mapInf Try.prog 93 = some (189,[(0,.ptr 70),(1,.int .i64)],2,.agg [.nilp,.int .i64 0]):=by kernel_rfl
theorem mi106 : mapInf Try.prog 106 = some (193,[(0,.ptr 102),(1,.int .i64)],2,.agg [.nilp,.int .i64 0]):=by kernel_rfl
theorem mi108 : mapInf Try.prog 108 = some (211,[(0,.ptr 9),(1,.int .i64)],2,.agg [.nilp,.int .i64 0]):=by kernel_rfl
theorem ti3 : tinf Try.prog 3 = some { size:=1,bytes:=8,zero:=some [.int .i64 0],kind:=.int .i64 }:=by kernel_rfl
theorem ti4 : tinf Try.prog 4 = some { size:=1,bytes:=1,zero:=some [.bool false],kind:=.bool }:=by kernel_rfl
theorem ti5 : tinf Try.prog 5 = some { size:=1,bytes:=1,zero:=some [.int .u8 0],kind:=.int .u8 }:=by kernel_rfl
theorem ti9 : tinf Try.prog 9 = some { size:=1,bytes:=16,zero:=some [.str []],kind:=.str }:=by kernel_rfl
theorem ti22 : tinf Try.prog 22 = some { size:=1,bytes:=24,zero:=some [.nils],kind:=.slice 122 }:=by kernel_rfl
theorem ti23 : tinf Try.prog 23 = some { size:=1,bytes:=24,zero:=some [.nils],kind:=.slice 125 }:=by kernel_rfl
theorem ti24 : tinf Try.prog 24 = some { size:=1,bytes:=24,zero:=some [.nils],kind:=.slice 128 }:=by kernel_rfl
theorem ti26 : tinf Try.prog 26 = some { size:=4,bytes:=88,zero:=some [.str [],.nils,.nils,.nils],kind:=.struct [(0,9,1),(1,22,1),(2,23,1),(3,24,1)] }:=by kernel_rfl
theorem ti29 : tinf Try.prog 29 = some { size:=1,bytes:=24,zero:=some [.nils],kind:=.slice 70 }:=by kernel_rfl
theorem ti30 : tinf Try.prog 30 = some { size:=1,bytes:=24,zero:=some [.nils],kind:=.slice 130 }:=by kernel_rfl
theorem ti31 : tinf Try.prog 31 = some { size:=1,bytes:=24,zero:=some [.nils],kind:=.slice 132 }:=by kernel_rfl
theorem ti33 : tinf Try.prog 33 = some { size:=4,bytes:=88,zero:=some [.str [],.nils,.nils,.nils],kind:=.struct [(0,9,1),(1,29,1),(2,30,1),(3,31,1)] }:=by kernel_rfl
theorem ti36 : tinf Try.prog 36 = some { size:=1,bytes:=24,zero:=some [.nils],kind:=.slice 144 }:=by kernel_rfl
theorem ti37 : tinf Try.prog 37 = some { size:=1,bytes:=24,zero:=some [.nils],kind:=.slice 39 }:=by kernel_rfl
theorem ti39 : tinf Try.prog 39 = some { size:=4,bytes:=64,zero:=some [.int .i64 0,.str [],.str [],.nils],kind:=.struct [(0,3,1),(1,9,1),(2,9,1),(3,37,1)] }:=by kernel_rfl
theorem ti40 : tinf Try.prog 40 = some { size:=1,bytes:=24,zero:=some [.nils],kind:=.slice 42 }:=by kernel_rfl
theorem ti42 : tinf Try.prog 42 = some { size:=9,bytes:=136,zero:=some [.int .i64 0,.int .i64 0,.str [],.str [],.int .i64 0,.str [],.str [],.nils,.nils],kind:=.struct [(0,3,1),(1,3,1),(2,9,1),(3,9,1),(4,39,4),(8,40,1)] }:=by kernel_rfl
theorem ti44 : tinf Try.prog 44 = some { size:=10,bytes:=160,zero:=some [.nils,.int .i64 0,.int .i64 0,.str [],.str [],.int .i64 0,.str [],.str [],.nils,.nils],kind:=.struct [(0,36,1),(1,42,9)] }:=by kernel_rfl
theorem ti47 : tinf Try.prog 47 = some { size:=1,bytes:=24,zero:=some [.nils],kind:=.slice 102 }:=by kernel_rfl
theorem ti48 : tinf Try.prog 48 = some { size:=1,bytes:=24,zero:=some [.nils],kind:=.slice 50 }:=by kernel_rfl
theorem ti50 : tinf Try.prog 50 = some { size:=4,bytes:=64,zero:=some [.int .i64 0,.str [],.str [],.nils],kind:=.struct [(0,3,1),(1,9,1),(2,9,1),(3,48,1)] }:=by kernel_rfl
theorem ti51 : tinf Try.prog 51 = some { size:=1,bytes:=24,zero:=some [.nils],kind:=.slice 53 }:=by kernel_rfl
theorem ti53 : tinf Try.prog 53 = some { size:=9,bytes:=136,zero:=some [.int .i64 0,.int .i64 0,.str [],.str [],.int .i64 0,.str [],.str [],.nils,.nils],kind:=.struct [(0,3,1),(1,3,1),(2,9,1),(3,9,1),(4,50,4),(8,51,1)] }:=by kernel_rfl
theorem ti55 : tinf Try.prog 55 = some { size:=10,bytes:=160,zero:=some [.nils,.int .i64 0,.int .i64 0,.str [],.str [],.int .i64 0,.str [],.str [],.nils,.nils],kind:=.struct [(0,47,1),(1,53,9)] }:=by kernel_rfl
theorem ti58 : tinf Try.prog 58 = some { size:=1,bytes:=24,zero:=some [.nils],kind:=.slice 5 }:=by kernel_rfl
theorem ti61 : tinf Try.prog 61 = some { size:=1,bytes:=8,zero:=some [.nilf],kind:=.func }:=by kernel_rfl
theorem ti62 : tinf Try.prog 62 = some { size:=1,bytes:=8,zero:=some [.nilf],kind:=.func }:=by kernel_rfl
theorem ti70 : tinf Try.prog 70 = some { size:=2,bytes:=40,zero:=some [.str [],.nils],kind:=.struct [(0,9,1),(1,31,1)] }:=by kernel_rfl
theorem ti74 : tinf Try.prog 74 = some { size:=1,bytes:=8,zero:=some [.nilf],kind:=.func }:=by kernel_rfl
theorem ti76 : tinf Try.prog 76 = some { size:=1,bytes:=8,zero:=some [.nilm],kind:=.map 185 185 }:=by kernel_rfl
theorem ti78 : tinf Try.prog 78 = some { size:=3,bytes:=24,zero:=some [.nilf,.nilf,.nilm],kind:=.struct [(0,74,1),(1,62,1),(2,76,1)] }:=by kernel_rfl
theorem ti80 : tinf Try.prog 80 = some { size:=1,bytes:=8,zero:=some [.nilm],kind:=.map 206 206 }:=by kernel_rfl
theorem ti82 : tinf Try.prog 82 = some { size:=4,bytes:=32,zero:=some [.nilf,.nilf,.nilm,.nilm],kind:=.struct [(0,78,3),(3,80,1)] }:=by kernel_rfl
theorem ti83 : tinf Try.prog 83 = some { size:=1,bytes:=8,zero:=some [.nilf],kind:=.func }:=by kernel_rfl
theorem ti85 : tinf Try.prog 85 = some { size:=1,bytes:=8,zero:=some [.nilm],kind:=.map 181 181 }:=by kernel_rfl
theorem ti87 : tinf Try.prog 87 = some { size:=3,bytes:=24,zero:=some [.nilf,.nilf,.nilm],kind:=.struct [(0,83,1),(1,61,1),(2,85,1)] }:=by kernel_rfl
theorem ti89 : tinf Try.prog 89 = some { size:=1,bytes:=8,zero:=some [.nilm],kind:=.map 202 202 }:=by kernel_rfl
theorem ti91 : tinf Try.prog 91 = some { size:=7,bytes:=56,zero:=some [.nilf,.nilf,.nilm,.nilf,.nilf,.nilm,.nilm],kind:=.struct [(0,78,3),(3,87,3),(6,89,1)] }:=by kernel_rfl
theorem ti93 : tinf Try.prog 93 = some { size:=1,bytes:=8,zero:=some [.nilm],kind:=.map 189 189 }:=by kernel_rfl
theorem ti95 : tinf Try.prog 95 = some { size:=12,bytes:=96,zero:=some [.nilf,.nilf,.nilm,.nilm,.nilf,.nilf,.nilm,.nilf,.nilf,.nilm,.nilm,.nilm],kind:=.struct [(0,82,4),(4,91,7),(11,93,1)] }:=by kernel_rfl
theorem ti100 : tinf Try.prog 100 = some { size:=1,bytes:=24,zero:=some [.nils],kind:=.slice 9 }:=by kernel_rfl
theorem ti102 : tinf Try.prog 102 = some { size:=7,bytes:=144,zero:=some [.str [],.nils,.nils,.nils,.str [],.str [],.nils],kind:=.struct [(0,33,4),(4,9,1),(5,9,1),(6,100,1)] }:=by kernel_rfl
theorem ti106 : tinf Try.prog 106 = some { size:=1,bytes:=8,zero:=some [.nilm],kind:=.map 193 193 }:=by kernel_rfl
theorem ti108 : tinf Try.prog 108 = some { size:=1,bytes:=8,zero:=some [.nilm],kind:=.map 211 211 }:=by kernel_rfl
theorem ti110 : tinf Try.prog 110 = some { size:=14,bytes:=112,zero:=some [.nilf,.nilf,.nilm,.nilm,.nilf,.nilf,.nilm,.nilf,.nilf,.nilm,.nilm,.nilm,.nilm,.nilm],kind:=.struct [(0,95,12),(12,106,1),(13,108,1)] }:=by kernel_rfl
theorem ti122 : tinf Try.prog 122 = some { size:=2,bytes:=40,zero:=some [.str [],.nils],kind:=.struct [(0,9,1),(1,24,1)] }:=by kernel_rfl
theorem ti125 : tinf Try.prog 125 = some { size:=15,bytes:=224,zero:=some [.int .i64 0,.str [],.int .i64 0,.str [],.str [],.nils,.int .i64 0,.int .i64 0,.str [],.str [],.int .i64 0,.str [],.str [],.nils,.nils],kind:=.struct [(0,3,1),(1,9,1),(2,39,4),(6,42,9)] }:=by kernel_rfl
theorem ti128 : tinf Try.prog 128 = some { size:=6,bytes:=88,zero:=some [.int .i64 0,.str [],.int .i64 0,.str [],.str [],.nils],kind:=.struct [(0,3,1),(1,9,1),(2,39,4)] }:=by kernel_rfl
theorem ti130 : tinf Try.prog 130 = some { size:=15,bytes:=224,zero:=some [.int .i64 0,.str [],.int .i64 0,.str [],.str [],.nils,.int .i64 0,.int .i64 0,.str [],.str [],.int .i64 0,.str [],.str [],.nils,.nils],kind:=.struct [(0,3,1),(1,9,1),(2,50,4),(6,53,9)] }:=by kernel_rfl
theorem ti132 : tinf Try.prog 132 = some { size:=6,bytes:=88,zero:=some [.int .i64 0,.str [],.int .i64 0,.str [],.str [],.nils],kind:=.struct [(0,3,1),(1,9,1),(2,50,4)] }:=by kernel_rfl
theorem ti144 : tinf Try.prog 144 = some { size:=7,bytes:=144,zero:=some [.str [],.nils,.nils,.nils,.str [],.str [],.nils],kind:=.struct [(0,26,4),(4,9,1),(5,9,1),(6,100,1)] }:=by kernel_rfl
theorem ti154 : tinf Try.prog 154 = some { size:=2,bytes:=32,zero:=some [.nils,.int .i64 0],kind:=.struct [(0,58,1),(1,3,1)] }:=by kernel_rfl
theorem ti157 : tinf Try.prog 157 = some { size:=1,bytes:=24,zero:=some [.nils],kind:=.slice 3 }:=by kernel_rfl
theorem ti162 : tinf Try.prog 162 = some { size:=2,bytes:=48,zero:=some [.nils,.nils],kind:=.struct [(0,51,1),(1,51,1)] }:=by kernel_rfl
theorem ti163 : tinf Try.prog 163 = some { size:=1,bytes:=24,zero:=some [.nils],kind:=.slice 162 }:=by kernel_rfl
theorem ti165 : tinf Try.prog 165 = some { size:=2,bytes:=48,zero:=some [.nils,.nils],kind:=.struct [(0,48,1),(1,48,1)] }:=by kernel_rfl
theorem ti166 : tinf Try.prog 166 = some { size:=1,bytes:=24,zero:=some [.nils],kind:=.slice 165 }:=by kernel_rfl
theorem ti181 : tinf Try.prog 181 = some { size:=2,bytes:=16,zero:=some [.nilp,.int .i64 0],kind:=.struct [(0,179,1),(1,3,1)] }:=by kernel_rfl
theorem ti185 : tinf Try.prog 185 = some { size:=2,bytes:=16,zero:=some [.nilp,.int .i64 0],kind:=.struct [(0,183,1),(1,3,1)] }:=by kernel_rfl
theorem ti189 : tinf Try.prog 189 = some { size:=2,bytes:=16,zero:=some [.nilp,.int .i64 0],kind:=.struct [(0,187,1),(1,3,1)] }:=by kernel_rfl
theorem ti193 : tinf Try.prog 193 = some { size:=2,bytes:=16,zero:=some [.nilp,.int .i64 0],kind:=.struct [(0,191,1),(1,3,1)] }:=by kernel_rfl
theorem ti202 : tinf Try.prog 202 = some { size:=2,bytes:=16,zero:=some [.nilp,.int .i64 0],kind:=.struct [(0,200,1),(1,3,1)] }:=by kernel_rfl
theorem ti206 : tinf Try.prog 206 = some { size:=2,bytes:=16,zero:=some [.nilp,.int .i64 0],kind:=.struct [(0,204,1),(1,3,1)] }:=by kernel_rfl
theorem ti211 : tinf Try.prog 211 = some { size:=2,bytes:=16,zero:=some [.nilp,.int .i64 0],kind:=.struct [(0,209,1),(1,3,1)] }:=by kernel_rfl
theorem ca6 : callable Try.prog 6 = true:=by kernel_rfl
theorem ca7 : callable Try.prog 7 = true:=by kernel_rfl
theorem ca8 : callable Try.prog 8 = true:=by kernel_rfl
theorem ca9 : callable Try.prog 9 = true:=by kernel_rfl
theorem ca10 : callable Try.prog 10 = true:=by kernel_rfl
theorem ca11 : callable Try.prog 11 = true:=by kernel_rfl
theorem ca12 : callable Try.prog 12 = true:=by kernel_rfl
theorem ca13 : callable Try.prog 13 = true:=by kernel_rfl
theorem ca14 : callable Try.prog 14 = true:=by kernel_rfl
theorem ca15 : callable Try.prog 15 = true:=by kernel_rfl
theorem ca16 : callable Try.prog 16 = true:=by kernel_rfl
theorem ca17 : callable Try.prog 17 = true:=by kernel_rfl
theorem ca18 : callable Try.prog 18 = true:=by kernel_rfl
theorem ca19 : callable Try.prog 19 = true:=by kernel_rfl
theorem ca20 : callable Try.prog 20 = true:=by kernel_rfl
theorem ca21 : callable Try.prog 21 = true:=by kernel_rfl
theorem ca22 : callable Try.prog 22 = true:=by kernel_rfl
theorem ca23 : callable Try.prog 23 = true:=by kernel_rfl
theorem ca24 : callable Try.prog 24 = true:=by kernel_rfl
theorem ca25 : callable Try.prog 25 = true:=by kernel_rfl
theorem ca26 : callable Try.prog 26 = true:=by kernel_rfl
theorem ca27 : callable Try.prog 27 = true:=by kernel_rfl
theorem ca28 : callable Try.prog 28 = true:=by kernel_rfl
theorem ca29 : callable Try.prog 29 = true:=by kernel_rfl
theorem ca30 : callable Try.prog 30 = true:=by kernel_rfl
theorem ca31 : callable Try.prog 31 = true:=by kernel_rfl
theorem ca32 : callable Try.prog 32 = true:=by kernel_rfl
theorem ca33 : callable Try.prog 33 = true:=by kernel_rfl
theorem ca34 : callable Try.prog 34 = true:=by kernel_rfl
theorem ca35 : callable Try.prog 35 = true:=by kernel_rfl
theorem ca36 : callable Try.prog 36 = true:=by kernel_rfl
theorem ca37 : callable Try.prog 37 = true:=by kernel_rfl
theorem ca38 : callable Try.prog 38 = true:=by kernel_rfl
theorem ca39 : callable Try.prog 39 = true:=by kernel_rfl
theorem ca40 : callable Try.prog 40 = true:=by kernel_rfl
theorem ca41 : callable Try.prog 41 = true:=by kernel_rfl
theorem ca42 : callable Try.prog 42 = true:=by kernel_rfl
theorem ca43 : callable Try.prog 43 = true:=by kernel_rfl
theorem ca44 : callable Try.prog 44 = true:=by kernel_rfl
theorem ca45 : callable Try.prog 45 = true:=by kernel_rfl
theorem ca46 : callable Try.prog 46 = true:=by kernel_rfl
theorem ca47 : callable Try.prog 47 = true:=by kernel_rfl
theorem ca48 : callable Try.prog 48 = true:=by kernel_rfl
theorem ca49 : callable Try.prog 49 = true:=by kernel_rfl
theorem ca50 : callable Try.prog 50 = true:=by kernel_rfl
theorem ca51 : callable Try.prog 51 = true:=by kernel_rfl
theorem ca52 : callable Try.prog 52 = true:=by kernel_rfl
theorem ca53 : callable Try.prog 53 = true:=by kernel_rfl
theorem ca54 : callable Try.prog 54 = true:=by kernel_rfl
theorem ca55 : callable Try.prog 55 = true:=by kernel_rfl
theorem ca56 : callable Try.prog 56 = true:=by kernel_rfl
theorem ca57 : callable Try.prog 57 = true:=by kernel_rfl
theorem ca58 : callable Try.prog 58 = true:=by kernel_rfl
theorem ca60 : callable Try.prog 60 = true:=by kernel_rfl
theorem ca61 : callable Try.prog 61 = true:=by kernel_rfl
theorem ca62 : callable Try.prog 62 = true:=by kernel_rfl
theorem ca63 : callable Try.prog 63 = true:=by kernel_rfl
theorem ca64 : callable Try.prog 64 = true:=by kernel_rfl
theorem ca65 : callable Try.prog 65 = true:=by kernel_rfl
theorem ca66 : callable Try.prog 66 = true:=by kernel_rfl
theorem ca67 : callable Try.prog 67 = true:=by kernel_rfl
theorem ca68 : callable Try.prog 68 = true:=by kernel_rfl
theorem ca69 : callable Try.prog 69 = true:=by kernel_rfl
theorem ca70 : callable Try.prog 70 = true:=by kernel_rfl
theorem ca71 : callable Try.prog 71 = true:=by kernel_rfl
theorem ca73 : callable Try.prog 73 = true:=by kernel_rfl
theorem ca74 : callable Try.prog 74 = true:=by kernel_rfl
theorem ca75 : callable Try.prog 75 = true:=by kernel_rfl
theorem ca76 : callable Try.prog 76 = true:=by kernel_rfl
theorem ca77 : callable Try.prog 77 = true:=by kernel_rfl
theorem ca78 : callable Try.prog 78 = true:=by kernel_rfl
theorem ca79 : callable Try.prog 79 = true:=by kernel_rfl
theorem ca80 : callable Try.prog 80 = true:=by kernel_rfl
theorem ca85 : callable Try.prog 85 = true:=by kernel_rfl
theorem ca86 : callable Try.prog 86 = true:=by kernel_rfl
theorem ca87 : callable Try.prog 87 = true:=by kernel_rfl
theorem ca88 : callable Try.prog 88 = true:=by kernel_rfl
theorem ca89 : callable Try.prog 89 = true:=by kernel_rfl
theorem ca91 : callable Try.prog 91 = true:=by kernel_rfl
theorem ca93 : callable Try.prog 93 = true:=by kernel_rfl
theorem ca94 : callable Try.prog 94 = true:=by kernel_rfl
theorem ca95 : callable Try.prog 95 = true:=by kernel_rfl
theorem ca96 : callable Try.prog 96 = true:=by kernel_rfl
theorem ca97 : callable Try.prog 97 = true:=by kernel_rfl
theorem ca98 : callable Try.prog 98 = true:=by kernel_rfl
theorem ca100 : callable Try.prog 100 = true:=by kernel_rfl
theorem ca101 : callable Try.prog 101 = true:=by kernel_rfl
theorem ca102 : callable Try.prog 102 = true:=by kernel_rfl
theorem ca103 : callable Try.prog 103 = true:=by kernel_rfl
theorem ca104 : callable Try.prog 104 = true:=by kernel_rfl
theorem ca105 : callable Try.prog 105 = true:=by kernel_rfl
theorem ca106 : callable Try.prog 106 = true:=by kernel_rfl
theorem ca107 : callable Try.prog 107 = true:=by kernel_rfl
theorem ca108 : callable Try.prog 108 = true:=by kernel_rfl
theorem ca109 : callable Try.prog 109 = true:=by kernel_rfl
theorem ca110 : callable Try.prog 110 = true:=by kernel_rfl
theorem ca111 : callable Try.prog 111 = true:=by kernel_rfl
theorem ca112 : callable Try.prog 112 = true:=by kernel_rfl
theorem ca113 : callable Try.prog 113 = true:=by kernel_rfl
theorem ca114 : callable Try.prog 114 = true:=by kernel_rfl
theorem ca115 : callable Try.prog 115 = true:=by kernel_rfl
theorem ca116 : callable Try.prog 116 = true:=by kernel_rfl
theorem ca117 : callable Try.prog 117 = true:=by kernel_rfl
theorem ca118 : callable Try.prog 118 = true:=by kernel_rfl
theorem ca119 : callable Try.prog 119 = true:=by kernel_rfl
theorem ca120 : callable Try.prog 120 = true:=by kernel_rfl
theorem foll : Try.prog.follows .mixedOrders = true:=by kernel_rfl
theorem laid : laidOutB Try.prog = true:=by kernel_rfl
theorem ownk : ownKnob Try.prog.godebug = none:=by kernel_rfl
def cf (N : Nat) (vs : List Nat) : Cfg:={ own:=fun _=>false,N:=N,vs:=vs }
end Go.Proofs.Ytijlnkfiadajhaa
/- Types as trees, and what the functions on them answer. -/
set_option linter.unusedVariables false
set_option linter.unusedSimpArgs false
namespace Go.Proofs.Ytijlnkfiadajhaa
open Go.Abs
inductive Ty where
  | mk (kind : Int) (mod name : List UInt8) (kids : List Ty)
noncomputable instance instTyDec : DecidableEq Ty:=fun a b=>Classical.propDecidable (a = b)
def Ty.kind : Ty → Int | .mk k _ _ _=>k
def Ty.mod : Ty → List UInt8 | .mk _ m _ _=>m
def Ty.name : Ty → List UInt8 | .mk _ _ n _=>n
def Ty.kids : Ty → List Ty | .mk _ _ _ ks=>ks
theorem Ty.ind {M : Ty → Prop} (h : ∀ k m n ks,(∀ t ∈ ks,M t) → M (.mk k m n ks)) : ∀ t,M t
  | .mk k m n ks=>h k m n ks fun t ht=>Ty.ind h t
termination_by t=>SizeOf.sizeOf t
decreasing_by
  have:=List.sizeOf_lt_of_mem ht
  simp only [Ty.mk.sizeOf_spec]
  omega
mutual
def enc : Ty → List AV
  | .mk k m n ks=>[.int .i64 k,.str m,.str n,.slice (encs ks)]
def encs : List Ty → List (List AV)
  | []=>[]
  | t :: l=>enc t :: encs l
end
mutual
def encA : Ty → List AV
  | .mk k m n ks=>[.int .i64 k,.str m,.str n,.aslice (encAs ks)]
def encAs : List Ty → List (List AV)
  | []=>[]
  | t :: l=>encA t :: encAs l
end
mutual
def sz : Ty → Nat
  | .mk _ m n ks=>m.length + n.length + (ks.length + szs ks)
def szs : List Ty → Nat
  | []=>0
  | t :: l=>sz t + szs l
end
inductive Ty.Ok : Ty → Prop
  | mk {k : Int} {m n : List UInt8} {ks : List Ty} : m.length < 2 ^ 63 → n.length < 2 ^ 63 → ks.length < 2 ^ 63 → (∀ t ∈ ks,Ty.Ok t) → Ty.Ok (.mk k m n ks)
def ty0 : Ty:=.mk 0 [] [] []
def zty : List AV:=[.int .i64 0,.str [],.str [],.slice []]
theorem encs_map : ∀ l,encs l = l.map enc
  | []=>rfl
  | t :: l=>by rw [encs,encs_map l]; rfl
theorem encs_length (l : List Ty) : (encs l).length = l.length:=by rw [encs_map]; simp
theorem encs_getD {l : List Ty} {i : Nat} (h : i < l.length) : (encs l).getD i [] = enc (l.getD i ty0):=by
  rw [encs_map]; simp [List.getD,h]
theorem enc_length (t : Ty) : (enc t).length = 4:=by cases t; rw [enc]; rfl
theorem enc_take (t : Ty) : List.take 4 (enc t) = enc t:=by cases t; rw [enc]; rfl
theorem row_step {l : List Ty} {i : Nat} (h : i < l.length) : (encs (l.take i) ++ List.replicate (l.length - i) zty).set i (enc (l.getD i ty0) ++ List.drop 4 ((encs (l.take i) ++ List.replicate (l.length - i) zty).getD i [])) = encs (l.take (i + 1)) ++ List.replicate (l.length - (i + 1)) zty:=by
  have e1 : (encs (l.take i)).length = i:=by rw [encs_length]; simp; omega
  have e2 : List.drop 4 ((encs (l.take i) ++ List.replicate (l.length - i) zty).getD i []) = []:=by
    have e3 : l.length - i = (l.length - (i + 1)) + 1:=by omega
    rw [List.getD,List.getElem?_append_right (by omega),e1,Nat.sub_self,e3,List.replicate_succ]
    rfl
  have e4 : l.length - i = (l.length - (i + 1)) + 1:=by omega
  rw [e2,List.append_nil,List.set_append_right _ _ (by omega),e1,Nat.sub_self,e4,List.replicate_succ,List.set_cons_zero]
  rw [encs_map,encs_map,List.take_add_one,List.map_append,List.append_assoc]
  simp [List.getD,h]
theorem enc_leaf (t : Ty) : ∀ v ∈ enc t,isLeaf v = true:=by cases t; rw [enc]; simp [isLeaf]
theorem frzL_enc (t : Ty) (A : List Box) : frzL (enc t) A = some (enc t,A):=by cases t; rw [enc]; rfl
theorem encAs_map : ∀ l,encAs l = l.map encA
  | []=>rfl
  | t :: l=>by rw [encAs,encAs_map l]; rfl
theorem encAs_length (l : List Ty) : (encAs l).length = l.length:=by rw [encAs_map]; simp
theorem encAs_getD {l : List Ty} {i : Nat} (h : i < l.length) : (encAs l).getD i [] = encA (l.getD i ty0):=by
  rw [encAs_map]; simp [List.getD,h]
theorem encA_length (t : Ty) : (encA t).length = 4:=by cases t; rw [encA]; rfl
theorem encA_take (t : Ty) : List.take 4 (encA t) = encA t:=by cases t; rw [encA]; rfl
theorem frzL_encA (t : Ty) (A : List Box) : frzL (encA t) A = some (encA t,A):=by cases t; rw [encA]; rfl
theorem getD_mem {l : List Ty} {i : Nat} (h : i < l.length) : l.getD i ty0 ∈ l:=by simp [List.getD,h]
theorem szs_take {l : List Ty} {i : Nat} (h : i < l.length) : szs (l.take (i + 1)) = szs (l.take i) + sz (l.getD i ty0):=by
  induction l generalizing i with
  | nil=>simp at h
  | cons t l ih =>
    cases i with
    | zero=>simp [szs,List.getD]
    | succ i =>
      have:=ih (i:=i) (by simpa using h)
      simp only [List.take_succ_cons,szs,List.getD_cons_succ] at this ⊢
      omega
theorem szs_le (l : List Ty) : ∀ i,szs (l.take i) ≤ szs l:=by
  induction l with
  | nil=>intro i; simp [szs]
  | cons t l ih =>
    intro i
    cases i with
    | zero=>simp [szs]
    | succ i=>simp only [List.take_succ_cons,szs]; have:=ih i; omega
theorem szs_mem {t : Ty} {l : List Ty} (h : t ∈ l) : sz t ≤ szs l:=by
  induction l with
  | nil=>simp at h
  | cons u l ih =>
    rw [szs]
    rcases List.mem_cons.1 h with rfl | h
    · omega
    · have:=ih h; omega
theorem wrap64 {n : Int} (h : -(2 ^ 63) ≤ n) (h' : n < 2 ^ 63) : IntKind.i64.wrap n = n:=by
  simp [IntKind.wrap,IntKind.signed,IntKind.bits]
  omega
def left (l : Int) (n : Nat) : Int:=if (n : Int) ≤ l then l - n else -1
def intOf : AV → Int
  | .int _ n=>n
  | _=>0
def SzT (τ : Ty) : Prop:=∀ (l : Int) (A : List Box),0 ≤ l → l ≤ 1048576 → ACalls Try.prog 66 [.agg (encA τ),.int .i64 l] A (fun v A'=>v = .int .i64 (left l (sz τ)) ∧ A' = A)
set_option maxRecDepth 100000 in
theorem laws_szTypeS (ks : List Ty) (hl : ks.length < 2 ^ 63) (hk : ∀ t ∈ ks,SzT t) (l : Int) (A : List Box) (h0 : 0 ≤ l) (h1 : l ≤ 1048576) :
    ACalls Try.prog 94 [.aslice (encAs ks),.int .i64 l] A (fun v A'=>v = .int .i64 (left l (ks.length + szs ks)) ∧ A' = A):=by
  have hw : IntKind.i64.wrap (l - ↑(encAs ks).length) = l - ks.length:=by rw [encAs_length]; exact wrap64 (by omega) (by omega)
  refine acalls_enter (cf:=cf 27 [0,1,4,5,11,15,25]) foll Try.func94 Try.ntmps94 (by simp [cf]) ?_
  simp only [Try.f94,EnterK_some,zW,zX,zD,builtinA,isLeaf,const1,ustrA,simprocAttr,ti3,ti37,ti39,ca66,cf,Try.results94]
  rw [hw]
  refine condK_intro (fun h=>?_) (fun h=>?_)
  · simp only [zW,zX,zD,builtinA,isLeaf,const1,ustrA,simprocAttr,ti3,ti37,ti39,ca66,cf,Try.results94]
    have : ¬ ((ks.length + szs ks : Nat) : Int) ≤ l:=by simp at h; omega
    rw [left,if_neg this]
  · simp only [zW,zX,zD,builtinA,isLeaf,const1,ustrA,simprocAttr,ti3,ti37,ti39,ca66,cf,Try.results94]
    refine aloop_intro [0,1,5] (fun e A'=>∃ i,i ≤ ks.length ∧ ((ks.length + szs (ks.take i) : Nat) : Int) ≤ l ∧ e = [(0,.aslice (encAs ks)),(1,.int .i64 (l - (ks.length + szs (ks.take i) : Nat))),(5,.int .i64 i)] ∧ A' = A) (fun e _=>ks.length - (intOf (Abs.look 5 e)).toNat) ?_ ?_
    · refine ⟨0,by omega,?_,?_,rfl⟩
      · simp at h; simp [szs]; omega
      · simp only [zW,zX,zD,builtinA,isLeaf,const1,ustrA,simprocAttr,ti3,ti37,ti39,ca66,cf,Try.results94]
        simp [szs]
    · rintro e A' ⟨i,hi,hle,rfl,rfl⟩
      simp only [zW,zX,zD,builtinA,isLeaf,const1,ustrA,simprocAttr,ti3,ti37,ti39,ca66,cf,Try.results94]
      refine condK_intro (fun h2=>?_) (fun h2=>?_)
      · have hi2 : i < ks.length:=by simp [encAs_length] at h2; exact h2
        have he:=encAs_getD hi2
        have hm:=getD_mem hi2
        have hs:=szs_take hi2
        simp only [zW,zX,zD,builtinA,isLeaf,const1,ustrA,simprocAttr,ti3,ti37,ti39,ca66,cf,Try.results94,he,encA_length,encA_take,encAs_length]
        refine ⟨⟨by omega,by omega⟩,?_⟩
        refine callK_intro (by simp only [zW,zX,zD,builtinA,isLeaf,const1,ustrA,simprocAttr,frzL_encA,Option.map_some]; rfl) (hk _ hm _ _ (by omega) (by omega)) ?_ rfl; rintro v A' ⟨rfl,rfl⟩
        by_cases hf : ((ks.length + szs (ks.take (i + 1)) : Nat) : Int) ≤ l
        · have hv : left (l - ((ks.length + szs (ks.take i) : Nat) : Int)) (sz (ks.getD i ty0)) = l - ((ks.length + szs (ks.take (i + 1)) : Nat) : Int):=by
            rw [left,if_pos (by omega)]; omega
          have hn : decide (l - ((ks.length + szs (ks.take (i + 1)) : Nat) : Int) < 0) = false:=by simp only [decide_eq_false_iff_not]; omega
          have hi1 : IntKind.i64.wrap ((i : Int) + 1) = ((i + 1 : Nat) : Int):=by rw [wrap64 (by omega) (by omega)]; rfl
          rw [hv]
          simp only [zW,zX,zD,builtinA,isLeaf,const1,ustrA,simprocAttr,ti3,ti37,ti39,ca66,cf,Try.results94,hn,hi1,LoopK_eq,encAs_length]
          refine ⟨⟨i + 1,by omega,hf,rfl⟩,?_⟩
          simp only [intOf]
          omega
        · have hv : left (l - ((ks.length + szs (ks.take i) : Nat) : Int)) (sz (ks.getD i ty0)) = -1:=by
            rw [left,if_neg (by omega)]
          have hz:=szs_le ks (i + 1)
          rw [hv,left,if_neg (by omega)]
          simp only [zW,zX,zD,builtinA,isLeaf,const1,ustrA,simprocAttr,ti3,ti37,ti39,ca66,cf,Try.results94]
      · simp only [zW,zX,zD,builtinA,isLeaf,const1,ustrA,simprocAttr,ti3,ti37,ti39,ca66,cf,Try.results94]
        have : i = ks.length:=by simp [encAs_length] at h2; omega
        subst this
        rw [List.take_length] at hle ⊢
        rw [left,if_pos hle]
set_option maxRecDepth 100000 in
theorem laws_szType (τ : Ty) (hτ : τ.Ok) : SzT τ:=by
  induction τ using Ty.ind with
  | h k m n ks ih =>
    obtain ⟨hm,hn,hks,hok⟩:=hτ
    intro l A h0 h1
    have hw : IntKind.i64.wrap (l - ↑m.length) = l - m.length:=wrap64 (by omega) (by omega)
    rw [encA]
    refine acalls_enter (cf:=cf 26 [0,1,2,4,11,18,24]) foll Try.func66 Try.ntmps66 (by simp [cf]) ?_
    simp only [Try.f66,EnterK_some,zW,zX,zD,builtinA,isLeaf,const1,ustrA,simprocAttr,ti3,ti9,ti37,ti39,ca94,cf,Try.results66]
    rw [hw]
    refine condK_intro (fun h=>?_) (fun h=>?_)
    · simp only [zW,zX,zD,builtinA,isLeaf,const1,ustrA,simprocAttr,ti3,ti9,ti37,ti39,ca94,cf,Try.results66]
      rw [left,if_neg (by rw [sz]; simp at h; omega)]
    · have hw2 : IntKind.i64.wrap (l - ↑m.length - ↑n.length) = l - ↑m.length - ↑n.length:=by simp at h; exact wrap64 (by omega) (by omega)
      simp only [zW,zX,zD,builtinA,isLeaf,const1,ustrA,simprocAttr,ti3,ti9,ti37,ti39,ca94,cf,Try.results66,hw2]
      refine condK_intro (fun h2=>?_) (fun h2=>?_)
      · simp only [zW,zX,zD,builtinA,isLeaf,const1,ustrA,simprocAttr,ti3,ti9,ti37,ti39,ca94,cf,Try.results66]
        rw [left,if_neg (by rw [sz]; simp at h2; omega)]
      · simp only [decide_eq_false_iff_not] at h h2
        simp only [zW,zX,zD,builtinA,isLeaf,const1,ustrA,simprocAttr,ti3,ti9,ti37,ti39,ca94,cf,Try.results66]
        refine callK_intro (by simp only [zW,zX,zD,builtinA,isLeaf,const1,ustrA,simprocAttr,Option.map_some]; rfl) (laws_szTypeS ks (by omega) (fun t ht=>ih t ht (hok t ht)) _ _ (by omega) (by omega)) ?_ rfl; rintro v A' ⟨rfl,rfl⟩
        by_cases hf : ((sz (.mk k m n ks) : Nat) : Int) ≤ l
        · have hv : left (l - ↑m.length - ↑n.length) (ks.length + szs ks) = l - sz (.mk k m n ks):=by
            rw [sz] at hf ⊢
            rw [left,if_pos (by omega)]; omega
          have hn : decide (l - sz (.mk k m n ks) < 0) = false:=by simp only [decide_eq_false_iff_not]; omega
          rw [hv,left,if_pos hf]
          simp only [zW,zX,zD,builtinA,isLeaf,const1,ustrA,simprocAttr,ti3,ti9,ti37,ti39,ca94,cf,Try.results66,hn]
        · have hv : left (l - ↑m.length - ↑n.length) (ks.length + szs ks) = -1:=by
            rw [sz] at hf
            rw [left,if_neg (by omega)]
          rw [hv,left,if_neg hf]
          simp only [zW,zX,zD,builtinA,isLeaf,const1,ustrA,simprocAttr,ti3,ti9,ti37,ti39,ca94,cf,Try.results66]
set_option maxRecDepth 100000 in
theorem laws_toTypeS (ks : List Ty) (hl : ks.length ≤ 1048576) (hk : ∀ t ∈ ks,∀ A,ACalls Try.prog 69 [.agg (encA t)] A (fun v A'=>v = .agg (enc t) ∧ A' = A)) (A : List Box) :
    ACalls Try.prog 96 [.aslice (encAs ks)] A (fun v A'=>v = .slice (encs ks) ∧ A' = A):=by
  have hl2 : ((encAs ks).length : Int) ≤ 1048576:=by rw [encAs_length]; omega
  refine acalls_enter (cf:=cf 23 [0,2,3,4,11]) foll Try.func96 Try.ntmps96 (by simp [cf]) ?_
  simp only [Try.f96,EnterK_some,zW,zX,zD,builtinA,isLeaf,const1,ustrA,simprocAttr,ti3,ti37,ti39,ti48,ti50,ca69,cf,Try.results96]
  refine ⟨⟨by omega,by omega,by omega⟩,?_⟩
  refine aloop_intro [0,3,4] (fun e A'=>∃ i,i ≤ ks.length ∧ e = [(0,.aslice (encAs ks)),(3,.own A.length),(4,.int .i64 i)] ∧ A' = A ++ [.row 4 (encs (ks.take i) ++ List.replicate (ks.length - i) zty) 0]) (fun e _=>ks.length - (intOf (Abs.look 4 e)).toNat) ?_ ?_
  · simp only [zW,zX,zD,builtinA,isLeaf,const1,ustrA,simprocAttr,ti3,ti37,ti39,ti48,ti50,ca69,cf,Try.results96]
    exact ⟨0,by omega,rfl,by rw [encAs_length]; simp [encs,zty]⟩
  · rintro e A' ⟨i,hi,rfl,rfl⟩
    simp only [zW,zX,zD,builtinA,isLeaf,const1,ustrA,simprocAttr,ti3,ti37,ti39,ti48,ti50,ca69,cf,Try.results96,encAs_length]
    refine condK_intro (fun h2=>?_) (fun h2=>?_)
    · have hi2 : i < ks.length:=by simpa using h2
      have he:=encAs_getD hi2
      have hm:=getD_mem hi2
      simp only [zW,zX,zD,builtinA,isLeaf,const1,ustrA,simprocAttr,ti3,ti37,ti39,ti48,ti50,ca69,cf,Try.results96,he,encA_length,encA_take,encAs_length]
      refine ⟨⟨by omega,by omega⟩,?_⟩
      refine callK_intro (by simp only [zW,zX,zD,builtinA,isLeaf,const1,ustrA,simprocAttr,frzL_encA,Option.map_some]; rfl) (hk _ hm _) ?_ rfl; rintro v A' ⟨rfl,rfl⟩
      have hi1 : IntKind.i64.wrap ((i : Int) + 1) = ((i + 1 : Nat) : Int):=by rw [wrap64 (by omega) (by omega)]; rfl
      simp only [zW,zX,zD,builtinA,isLeaf,const1,ustrA,simprocAttr,ti3,ti37,ti39,ti48,ti50,ca69,cf,Try.results96,enc_length,frzL_enc,row_step hi2,hi1,LoopK_eq]
      have hlen : (encs (List.take i ks)).length + (List.replicate (ks.length - i) zty).length = ks.length:=by
        simp [encs_length]; omega
      rw [hlen]
      refine ⟨⟨by omega,by omega⟩,⟨by omega,by omega,fun v hv=>enc_leaf _ v hv⟩,⟨i + 1,by omega,rfl,rfl⟩,?_⟩
      simp only [intOf]
      omega
    · simp only [zW,zX,zD,builtinA,isLeaf,const1,ustrA,simprocAttr,ti3,ti37,ti39,ti48,ti50,ca69,cf,Try.results96]
      have : i = ks.length:=by simp at h2; omega
      subst this
      simp [List.take_length]
set_option maxRecDepth 100000 in
theorem laws_toType (τ : Ty) (hτ : sz τ ≤ 1048576) : ∀ A,ACalls Try.prog 69 [.agg (encA τ)] A (fun v A'=>v = .agg (enc τ) ∧ A' = A):=by
  induction τ using Ty.ind with
  | h k m n ks ih =>
    intro A
    rw [encA,enc]
    have h1 : ks.length ≤ 1048576:=by rw [sz] at hτ; omega
    have h2 : ∀ t ∈ ks,sz t ≤ 1048576:=fun t ht=>by rw [sz] at hτ; have:=szs_mem ht; omega
    refine acalls_enter (cf:=cf 18 [0,1,2,3]) foll Try.func69 Try.ntmps69 (by simp [cf]) ?_
    simp only [Try.f69,EnterK_some,zW,zX,zD,builtinA,isLeaf,const1,ustrA,simprocAttr,ti3,ti9,ti37,ti39,ti48,ti50,ca96,cf,Try.results69]
    refine callK_intro (by simp only [zW,zX,zD,builtinA,isLeaf,const1,ustrA,simprocAttr,Option.map_some]; rfl) (laws_toTypeS ks h1 (fun t ht=>ih t ht (h2 t ht)) _) ?_ rfl; rintro v A' ⟨rfl,rfl⟩
    simp only [zW,zX,zD,builtinA,isLeaf,const1,ustrA,simprocAttr,ti3,ti9,ti37,ti39,ti48,ti50,ca96,cf,Try.results69]
set_option maxRecDepth 100000 in
theorem laws_eqTypeS (ks : List Ty) (hl : ks.length < 2 ^ 63) (hk : ∀ t ∈ ks,∀ A,ACalls Try.prog 74 [.agg (enc t),.agg (enc t)] A (fun v A'=>v = .bool true ∧ A' = A)) (A : List Box) :
    ACalls Try.prog 102 [.slice (encs ks),.slice (encs ks)] A (fun v A'=>v = .bool true ∧ A' = A):=by
  refine acalls_enter (cf:=cf 27 [0,1,4,5,10,14,26]) foll Try.func102 Try.ntmps102 (by simp [cf]) ?_
  simp only [Try.f102,EnterK_some,zW,zX,zD,builtinA,isLeaf,const1,ustrA,simprocAttr,ti3,ti48,ti50,ca74,cf,Try.results102]
  refine aloop_intro [0,1,5] (fun e A'=>∃ i,i ≤ ks.length ∧ e = [(0,.slice (encs ks)),(1,.slice (encs ks)),(5,.int .i64 i)] ∧ A' = A) (fun e _=>ks.length - (intOf (Abs.look 5 e)).toNat) ?_ ?_
  · simp only [zW,zX,zD,builtinA,isLeaf,const1,ustrA,simprocAttr,ti3,ti48,ti50,ca74,cf,Try.results102]
    exact ⟨0,by omega,rfl⟩
  · rintro e A' ⟨i,hi,rfl,rfl⟩
    simp only [zW,zX,zD,builtinA,isLeaf,const1,ustrA,simprocAttr,ti3,ti48,ti50,ca74,cf,Try.results102,encs_length]
    refine condK_intro (fun h2=>?_) (fun h2=>?_)
    · have hi2 : i < ks.length:=by simpa using h2
      have he:=encs_getD hi2
      have hm:=getD_mem hi2
      have hi1 : IntKind.i64.wrap ((i : Int) + 1) = ((i + 1 : Nat) : Int):=by rw [wrap64 (by omega) (by omega)]; rfl
      simp only [zW,zX,zD,builtinA,isLeaf,const1,ustrA,simprocAttr,ti3,ti48,ti50,ca74,cf,Try.results102,he,enc_length,enc_take,encs_length]
      refine .inl ⟨by kernel_rfl,by kernel_rfl,⟨by omega,by omega⟩,⟨by omega,by omega⟩,?_⟩
      refine callD_intro (by simp only [zW,zX,zD,builtinA,isLeaf,const1,ustrA,simprocAttr,frzL_enc,Option.map_some] <;> rfl) (hk _ hm _) ?_ rfl
      simp only [zW,zX,zD,builtinA,isLeaf,const1,ustrA,simprocAttr,ti3,ti48,ti50,ca74,cf,Try.results102,hi1,LoopK_eq]
      refine ⟨⟨i + 1,by omega,rfl⟩,?_⟩
      simp only [intOf]
      omega
    · simp only [zW,zX,zD,builtinA,isLeaf,const1,ustrA,simprocAttr,ti3,ti48,ti50,ca74,cf,Try.results102]
set_option maxRecDepth 100000 in
theorem laws_eqType (τ : Ty) (hτ : τ.Ok) : ∀ A,ACalls Try.prog 74 [.agg (enc τ),.agg (enc τ)] A (fun v A'=>v = .bool true ∧ A' = A):=by
  induction τ using Ty.ind with
  | h k m n ks ih =>
    intro A
    obtain ⟨hm,hn,hks,hok⟩:=hτ
    rw [enc]
    refine acalls_enter (cf:=cf 26 [0,1,2,3,4,9,14,19,25]) foll Try.func74 Try.ntmps74 (by simp [cf]) ?_
    simp only [Try.f74,EnterK_some,zW,zX,zD,builtinA,isLeaf,const1,ustrA,simprocAttr,ti3,ti9,ti48,ti50,ca102,cf,Try.results74]
    refine callK_intro (by simp only [zW,zX,zD,builtinA,isLeaf,const1,ustrA,simprocAttr,Option.map_some]; rfl) (laws_eqTypeS ks (by omega) (fun t ht=>ih t ht (hok t ht)) _) ?_ rfl; rintro v A' ⟨rfl,rfl⟩
    simp only [zW,zX,zD,builtinA,isLeaf,const1,ustrA,simprocAttr,ti3,ti9,ti48,ti50,ca102,cf,Try.results74]
end Go.Proofs.Ytijlnkfiadajhaa
