/- PreFacts, AbFacts, StrSub, MtFacts, StrMt, MtTrans, ValSame, AsM. -/
import Derived.Test.YtngheinmebopeaaGreatDoorK11
import Derived.Test.YtngheinmebopeaaGreatDoorAbsW3
import Derived.Test.YtngheinmebopeaaGreatDoorRows
import Derived.WalkKit
import Derived.LaidEql
import Derived.RowKitTokens
/- What a name stands for in the first items of a signature. -/
set_option linter.unusedVariables false
set_option linter.unusedSimpArgs false
namespace Go.Proofs.YtngheinmebopeaaGreatDoor
open Go.Abs
theorem szIs_bd : ∀ (l : List SigI) (b : Nat),(∀ x ∈ l,szI x ≤ b) → szIs l ≤ l.length * b
  | [],b,_=>by simp [szIs]
  | x :: l,b,h=>by
    have h1:=h x (by simp)
    have h2:=szIs_bd l b fun y hy=>h y (by simp [hy])
    simp only [szIs,List.map_cons,List.sum_cons,List.length_cons] at h2 ⊢
    rw [Nat.succ_mul]; omega
theorem smx_all {s : List SigI} (hs : s.length ≤ 9) (hm : ∀ x ∈ s,SmX x) : (∀ x ∈ s,x.Ok ∧ sz x.typ ≤ 1048576) ∧ s.length + szIs s ≤ 1048576:=by
  refine ⟨fun x hx=>(hm x hx).ok,?_⟩
  have h2:=szIs_bd s 300 fun x hx=>by
    have h3 : x.name.length ≤ 2 ∧ sz x.typ ≤ 200:=hm x hx
    rw [szI]; omega
  omega
theorem vi_sz {y : VI} (h : VOk (meanI y)) : sz (siOf y).typ ≤ 200:=by
  cases y with
  | ab n=>simp [siOf,ty0,sz,szs]
  | al n v =>
    have h1:=sz_toTyS v h.1
    have h2:=h.cnt
    simp only [meanI] at h2
    simp only [siOf]; omega
  | va n v =>
    have h1:=sz_toTyS v h.1
    have h2:=h.cnt
    simp only [meanI] at h2
    simp only [siOf]; omega
theorem str_small {s : List SigI} (hm : ∀ x ∈ s,SmX x) {mod : List UInt8} {o : Option (List VI)} (h : RdS s mod o) : (nrX o).length ≤ 8 ∧ (∀ x ∈ nrX o,x.Ok ∧ sz x.typ ≤ 1048576) ∧ (nrX o).length + szIs (nrX o) ≤ 1048576:=by
  have h1:=strX_ok (fun x hx=>(hm x hx).ok.1) h
  have key : ∀ x ∈ nrX o,x.name.length ≤ 2 ∧ sz x.typ ≤ 200:=by
    cases o with
    | none=>simp [nrX]
    | some zs =>
      obtain ⟨ys,h8,hr,hord,hmd,rfl⟩:=h
      intro x hx
      obtain ⟨y,hy,rfl⟩:=List.mem_map.1 hx
      obtain ⟨y0,hy0,rfl⟩:=List.mem_map.1 hy
      obtain ⟨i,hi,rfl⟩:=List.mem_iff_getElem.1 hy0
      have e : ys.getD i vi0 = ys[i]:=by simp [List.getD,hi]
      have h3:=str_ok hmd hr hi
      have h4:=hr.2 i (by rw [← hr.1]; exact hi)
      rw [e] at h3 h4
      refine ⟨?_,vi_sz h3⟩
      rw [siOf_name,viK_str,← siOf_name,← itemOf_si h4.2]
      exact (hm _ (si_mem (by rw [← hr.1]; exact hi))).1
  refine ⟨h1.1,fun x hx=>⟨h1.2.1 x hx,by have:=(key x hx).2; omega⟩,?_⟩
  have h2:=szIs_bd (nrX o) 300 fun x hx=>by have:=key x hx; rw [szI]; omega
  have:=h1.1
  omega
end Go.Proofs.YtngheinmebopeaaGreatDoor
namespace Go.Proofs.YtngheinmebopeaaGreatDoor
open Go.Abs
end Go.Proofs.YtngheinmebopeaaGreatDoor
/- Names in the type that a name stands for: those without a module are abstract, and stand for themselves. -/
set_option linter.unusedVariables false
set_option linter.unusedSimpArgs false
namespace Go.Proofs.YtngheinmebopeaaGreatDoor
open Go.Abs
def isAb (n : List UInt8) : VI → Bool
  | .ab k=>decide (k = n)
  | _=>false
def okA (l : List VI) (p : Nm) : Bool:=!decide (p.1 = []) || l.any (isAb p.2)
theorem okA_snoc {l : List VI} {y : VI} {p : Nm} (h : okA l p = true) : okA (l ++ [y]) p = true:=by
  simp only [okA,Bool.or_eq_true,List.any_append] at h ⊢
  rcases h with h | h
  · exact .inl h
  · exact .inr (.inl h)
theorem allV_sub2 {p q : Nm → Bool} {m : List (BNm × VT)} (hm : ∀ x ∈ m,allV q x.2 = true) (hp : ∀ x,p x = true → lookB x m ≠ none ∨ q x = true) : ∀ {v : VT},allV p v = true → allV q (subV m v) = true
  | .num,_=>rfl
  | .nm a b,h=>by
    rw [subV]
    cases hl : lookB (a,b) m with
    | none =>
      rcases hp _ h with h2 | h2
      · exact absurd hl h2
      · exact h2
    | some w=>exact hm _ (lookB_in hl)
  | .fn a b,h=>by
    simp only [allV,Bool.and_eq_true] at h
    simp only [subV,allV,Bool.and_eq_true]
    exact ⟨allV_sub2 hm hp h.1,allV_sub2 hm hp h.2⟩
theorem lookB_snoc {q : BNm} {a : List (BNm × VT)} (x : BNm × VT) : lookB q a ≠ none ∨ x.1 = q → lookB q (a ++ [x]) ≠ none:=by
  induction a with
  | nil =>
    rintro (h | h)
    · exact absurd rfl h
    · obtain ⟨k,v⟩:=x
      simp only [List.nil_append,lookB]
      rw [if_pos h.symm]; simp
  | cons y a ih =>
    obtain ⟨k,v⟩:=y
    intro h
    simp only [List.cons_append,lookB] at h ⊢
    split
    · simp
    · rename_i hk
      rw [if_neg hk] at h
      exact ih h
theorem take_snocV {ys : List VI} {i : Nat} (h : i < ys.length) : ys.take (i + 1) = ys.take i ++ [ys.getD i vi0]:=by
  rw [List.take_add_one]; simp [List.getD,h]
theorem key_at {ys : List VI} {i : Nat} (h : i < ys.length) : (ys.take (i + 1)).map viK = (ys.take i).map viK ++ [viK (ys.getD i vi0)]:=by
  rw [take_snocV h,List.map_append]; rfl
theorem known_all (ys : List VI) : ∀ i,i ≤ ys.length → ∀ n,(false,n) ∈ (ys.take i).map viK → lookB ([],n) (nxtL (ys.take i)) ≠ none
  | 0,_,n,h=>by simp at h
  | i + 1,hi,n,h=>by
    have ih:=known_all ys i (by omega) n
    rw [key_at (by omega)] at h
    rw [nxtL_snoc ys (by omega)]
    generalize ys.getD i vi0 = y at *
    rcases List.mem_append.1 h with h | h
    · have:=ih h
      cases y with
      | ab k=>exact lookB_snoc _ (.inl this)
      | al k v=>exact lookB_snoc _ (.inl this)
      | va k v=>exact this
    · rw [List.mem_singleton] at h
      cases y with
      | ab k=>simp only [viK,Prod.mk.injEq,true_and] at h; subst h; exact lookB_snoc _ (.inr rfl)
      | al k v=>simp only [viK,Prod.mk.injEq,true_and] at h; subst h; exact lookB_snoc _ (.inr rfl)
      | va k v=>simp [viK] at h
theorem stepOf {ys : List VI} (ho : ordB ys = true) {i : Nat} (hi : i < ys.length) : stepB (ys.take i) (ys.getD i vi0) = true:=by
  unfold ordB at ho
  rw [List.all_eq_true] at ho
  exact ho i (List.mem_range.mpr hi)
theorem hpA {ys : List VI} {i : Nat} (hi : i ≤ ys.length) : ∀ x : Nm,okN ((ys.take i).map viK) x = true → lookB x (nxtL (ys.take i)) ≠ none ∨ okA (ys.take i) x = true:=fun x hx=>by
  obtain ⟨a,b⟩:=x
  simp only [okN,Bool.or_eq_true,Bool.not_eq_true',decide_eq_true_eq,decide_eq_false_iff_not] at hx
  rcases hx with hx | hx
  · right; simp [okA,hx]
  · by_cases ha : a = []
    · subst ha; exact .inl (known_all ys i hi b hx)
    · right; simp [okA,ha]
theorem nxtL_ab (ys : List VI) (ho : ordB ys = true) : ∀ i,i ≤ ys.length → ∀ x ∈ nxtL (ys.take i),allV (okA (ys.take i)) x.2 = true
  | 0,_=>by simp [nxtL]
  | i + 1,h=>by
    have ih:=nxtL_ab ys ho i (by omega)
    have hs:=stepOf ho (show i < ys.length by omega)
    have hpa:=hpA (ys:=ys) (i:=i) (by omega)
    rw [nxtL_snoc ys (by omega),take_snocV (show i < ys.length by omega)]
    simp only [stepB,Bool.and_eq_true] at hs
    generalize ys.getD i vi0 = y at *
    cases y with
    | ab n =>
      simp only [nxtM,List.mem_append,List.mem_singleton]
      rintro x (hx | rfl)
      · exact allV_mono (fun p hp=>okA_snoc hp) (ih x hx)
      · simp [allV,okA,isAb]
    | al n v =>
      simp only [allI] at hs
      simp only [nxtM,List.mem_append,List.mem_singleton]
      rintro x (hx | rfl)
      · exact allV_mono (fun p hp=>okA_snoc hp) (ih x hx)
      · exact allV_mono (fun p hp=>okA_snoc hp) (allV_sub2 ih hpa hs.1)
    | va n v =>
      simp only [nxtM]
      exact fun x hx=>allV_mono (fun p hp=>okA_snoc hp) (ih x hx)
end Go.Proofs.YtngheinmebopeaaGreatDoor
/- Strengthening is substitution: what a value has for a type in the strengthened signature is the type that it has before, with each abstract type replaced. -/
set_option linter.unusedVariables false
set_option linter.unusedSimpArgs false
namespace Go.Proofs.YtngheinmebopeaaGreatDoor
open Go.Abs
theorem look_mod {q : BNm} {m : List (BNm × VT)} (hm : ∀ x ∈ m,x.1.1 = []) (hq : q.1 ≠ []) : lookB q m = none:=by
  cases h : lookB q m with
  | none=>rfl
  | some w=>exact absurd (hm _ (lookB_in h)) hq
theorem look_map (F : List (BNm × VT)) (q : BNm) : ∀ m : List (BNm × VT),lookB q (m.map fun x=>(x.1,subV F x.2)) = (lookB q m).map (subV F)
  | []=>rfl
  | (k,v) :: m=>by
    simp only [List.map_cons,lookB]
    split
    · rfl
    · exact look_map F q m
theorem sub_sub {F m : List (BNm × VT)} {P : Nm → Bool} (h : ∀ p,P p = true → lookB p m ≠ none ∨ lookB p F = none) : ∀ {v : VT},allV P v = true → subV (m.map fun x=>(x.1,subV F x.2)) v = subV F (subV m v)
  | .num,_=>rfl
  | .nm a b,hv=>by
    rw [subV,look_map]
    rw [show subV m (.nm a b) = (lookB (a,b) m).getD (.nm a b) from rfl]
    cases hl : lookB (a,b) m with
    | some w=>rfl
    | none =>
      rcases h _ hv with h | h
      · exact absurd hl h
      · simp only [Option.map_none,Option.getD_none,subV,h]
  | .fn a b,hv=>by
    simp only [allV,Bool.and_eq_true] at hv
    simp only [subV,sub_sub h hv.1,sub_sub h hv.2]
theorem nxt_mod (ys : List VI) : ∀ i,i ≤ ys.length → ∀ x ∈ nxtL (ys.take i),x.1.1 = []
  | 0,_=>by simp [nxtL]
  | i + 1,h=>by
    have ih:=nxt_mod ys i (by omega)
    rw [nxtL_snoc ys (by omega)]
    generalize ys.getD i vi0 = y at *
    cases y with
    | ab n=>simp only [nxtM,List.mem_append,List.mem_singleton]; rintro x (hx | rfl); exact ih x hx; rfl
    | al n v=>simp only [nxtM,List.mem_append,List.mem_singleton]; rintro x (hx | rfl); exact ih x hx; rfl
    | va n v=>exact ih
end Go.Proofs.YtngheinmebopeaaGreatDoor
/- Facts on matching, as data. -/
set_option linter.unusedVariables false
set_option linter.unusedSimpArgs false
namespace Go.Proofs.YtngheinmebopeaaGreatDoor
open Go.Abs
theorem rdN_ordB {s : List SigI} {ws : List VI} (h : RdN s (some ws)) : ordB ws = true:=by
  obtain ⟨ys,h8,hr,hord,hn⟩:=h
  rw [(normL_fit hn).2]; exact ordB_norm hord
theorem subV_id {m : List (BNm × VT)} {p : Nm → Bool} (h : ∀ q,p q = true → lookB q m = none ∨ lookB q m = some (.nm q.1 q.2)) : ∀ {v : VT},allV p v = true → subV m v = v
  | .num,_=>rfl
  | .nm a b,hv=>by
    rw [subV]
    rcases h (a,b) hv with h1 | h1 <;> rw [h1] <;> rfl
  | .fn a b,hv=>by
    simp only [allV,Bool.and_eq_true] at hv
    rw [subV,subV_id h hv.1,subV_id h hv.2]
theorem okA_any {a b : List VI} (h : ∀ n,a.any (isAb n) = b.any (isAb n)) : okA a = okA b:=by
  funext p; simp only [okA,h]
theorem any_abs : ∀ {a b : List VI},a.map absO = b.map absO → ∀ n,a.any (isAb n) = b.any (isAb n)
  | [],[],_,n=>rfl
  | [],_ :: _,h,n=>by simp at h
  | _ :: _,[],h,n=>by simp at h
  | x :: a,y :: b,h,n=>by
    simp only [List.map_cons,List.cons.injEq] at h
    have ih:=any_abs h.2 n
    rw [List.any_cons,List.any_cons,ih]
    congr 1
    cases x <;> cases y <;> simp only [absO,reduceCtorEq,Option.some.injEq] at h
    all_goals first | (obtain ⟨rfl,_⟩:=h; rfl) | exact h.1.elim | rfl
theorem zs_okA {s : List SigI} {zs : List VI} (h : RdN s (some zs)) : ∀ i,i < zs.length → allI (okA (zs.take i)) (zs.getD i vi0) = true:=by
  obtain ⟨ys,h8,hr,hord,hn⟩:=h
  obtain ⟨hf,rfl⟩:=normL_fit hn
  intro i hi
  rw [zsN_length] at hi
  have hst:=stepOf hord hi
  simp only [stepB,Bool.and_eq_true] at hst
  have e1 : (zsN ys ys.length).take i = zsN ys i:=by
    refine List.ext_getElem (by simp [zsN_length]; omega) fun k h1 h2=>?_
    simp [zsN]
  have e2 : okA ((zsN ys ys.length).take i) = okA (ys.take i):=by
    rw [e1]; exact okA_any (any_abs (absO_zs ys i (by omega)))
  rw [e2,zsN_getD ys hi]
  have hab:=nxtL_ab ys hord i (by omega)
  have hp:=hpA (ys:=ys) (i:=i) (by omega)
  cases hy : ys.getD i vi0 with
  | ab n=>rfl
  | al n v=>rw [hy] at hst; exact allV_sub2 hab hp hst.1
  | va n v=>rw [hy] at hst; exact allV_sub2 hab hp hst.1
theorem any_mem {l : List VI} {n : List UInt8} (h : l.any (isAb n) = true) : VI.ab n ∈ l:=by
  obtain ⟨y,hy,h1⟩:=List.any_eq_true.1 h
  cases y with
  | ab m=>simp only [isAb,decide_eq_true_eq] at h1; subst h1; exact hy
  | al m v=>simp [isAb] at h1
  | va m v=>simp [isAb] at h1
theorem nxt_keys (ys : List VI) : ∀ i,i ≤ ys.length → ∀ x ∈ nxtL (ys.take i),(false,x.1.2) ∈ (ys.take i).map viK
  | 0,_,x,h=>by simp [nxtL] at h
  | i + 1,hi,x,h=>by
    rw [nxtL_snoc ys (by omega)] at h
    rw [key_at (by omega)]
    cases hy : ys.getD i vi0 with
    | ab n =>
      rw [hy] at h
      rcases List.mem_append.1 h with h | h
      · exact List.mem_append.2 (.inl (nxt_keys ys i (by omega) x h))
      · rw [List.mem_singleton.1 h]; simp [viK]
    | al n v =>
      rw [hy] at h
      rcases List.mem_append.1 h with h | h
      · exact List.mem_append.2 (.inl (nxt_keys ys i (by omega) x h))
      · rw [List.mem_singleton.1 h]; simp [viK]
    | va n v =>
      rw [hy] at h
      exact List.mem_append.2 (.inl (nxt_keys ys i (by omega) x h))
theorem key_new {ys : List VI} (ho : ordB ys = true) {i : Nat} (hi : i < ys.length) : viK (ys.getD i vi0) ∉ (ys.take i).map viK:=by
  have hst:=stepOf ho hi
  simp only [stepB,Bool.and_eq_true,Bool.not_eq_true',decide_eq_false_iff_not] at hst
  exact hst.2
theorem look_ab {ys : List VI} (ho : ordB ys = true) {n : List UInt8} : ∀ i,i ≤ ys.length → VI.ab n ∈ ys.take i → lookB ([],n) (nxtL (ys.take i)) = some (.nm [] n)
  | 0,_,h=>by simp at h
  | i + 1,hi,h=>by
    rw [nxtL_snoc ys (by omega)]
    rw [take_snocV (by omega)] at h
    rcases List.mem_append.1 h with h | h
    · have ih:=look_ab ho i (by omega) h
      cases ys.getD i vi0 with
      | ab m=>rw [nxtM,lookB_app,ih]; rfl
      | al m v=>rw [nxtM,lookB_app,ih]; rfl
      | va m v=>exact ih
    · have h:=(List.mem_singleton.1 h).symm
      have hk:=key_new ho (show i < ys.length by omega)
      rw [h] at hk ⊢
      rw [nxtM,lookB_app]
      have : lookB ([],n) (nxtL (ys.take i)) = none:=lookB_none fun x hx e=>by
        have:=nxt_keys ys i (by omega) x hx
        rw [e] at this
        exact hk this
      rw [this]
      simp [lookB]
theorem sub_self {s : List SigI} {zs : List VI} (h : RdN s (some zs)) {i : Nat} (hi : i < zs.length) : subI (nxtL (zs.take i)) (zs.getD i vi0) = zs.getD i vi0:=by
  have ho:=rdN_ordB h
  have hok:=zs_okA h i hi
  have hl : ∀ q,okA (zs.take i) q = true → lookB q (nxtL (zs.take i)) = none ∨ lookB q (nxtL (zs.take i)) = some (.nm q.1 q.2):=fun q hq=>by
    obtain ⟨m,n⟩:=q
    by_cases hm : m = []
    · subst hm
      simp only [okA,decide_true,Bool.not_true,Bool.false_or] at hq
      exact .inr (look_ab ho i (by omega) (any_mem hq))
    · exact .inl (look_mod (nxt_mod zs i (by omega)) hm)
  cases hy : zs.getD i vi0 with
  | ab n=>rfl
  | al n v=>rw [hy] at hok; simp only [subI]; rw [subV_id hl hok]
  | va n v=>rw [hy] at hok; simp only [subI]; rw [subV_id hl hok]
end Go.Proofs.YtngheinmebopeaaGreatDoor
/- What a strengthened signature matches, as data. -/
set_option linter.unusedVariables false
set_option linter.unusedSimpArgs false
namespace Go.Proofs.YtngheinmebopeaaGreatDoor
open Go.Abs
theorem offC_iff {hs ws : List VI} : offC hs [] ws 0 = none ↔ ∀ k,k < ws.length → visC hs (knownB hs (ws.take k)) (ws.getD k vi0) = 0:=by
  constructor
  · intro h k
    induction k using Nat.strongRecOn with
    | _ k ih =>
      intro hk
      have h2:=offC_from hs ws _ k rfl (by omega) fun j hj=>ih j hj (by omega)
      rw [h,vi_drop hk,offC] at h2
      by_cases hc : visC hs (knownB hs (ws.take k)) (ws.getD k vi0) = 0
      · exact hc
      · rw [if_neg hc] at h2; cases h2
  · intro h
    rw [offC_from hs ws _ ws.length rfl (Nat.le_refl _) fun k hk=>h k hk,List.drop_length,offC]
end Go.Proofs.YtngheinmebopeaaGreatDoor
/- Matching is transitive, as data. -/
set_option linter.unusedVariables false
set_option linter.unusedSimpArgs false
namespace Go.Proofs.YtngheinmebopeaaGreatDoor
open Go.Abs
theorem mt_zero {a b : List SigI} {p : Nat × Bool} (h : MtIs a b 0 p) : ∃ hs ws,RdN a (some hs) ∧ RdN b (some ws) ∧ offC hs [] ws 0 = none:=by
  rcases h with ⟨hs,ws,h1,h2,h3,h4⟩ | ⟨_,_,h3⟩
  · refine ⟨hs,ws,h1,h2,?_⟩
    cases hq : offC hs [] ws 0 with
    | none=>rfl
    | some x =>
      have:=offC_code hs ws [] 0 x hq
      rw [hq] at h3
      simp only [mcO] at h3
      omega
  · exfalso; revert h3; split <;> omega
theorem vis_all {hs ws : List VI} (ho : ordB ws = true) (h : offC hs [] ws 0 = none) {i : Nat} (hi : i < ws.length) : visC hs (knownB hs ws) (ws.getD i vi0) = 0:=by
  rw [visC_all ho hi]; exact offC_iff.1 h i hi
theorem look_known {hs : List VI} {n : List UInt8} {f : VT} (hf : findF hs (false,n) = some f) : ∀ {l : List VI},VI.ab n ∈ l → lookB ([],n) (knownB hs l) = some f
  | [],h=>by simp at h
  | .ab k :: l,h=>by
    simp only [knownB]
    by_cases e : k = n
    · subst e
      rw [hf]; simp [lookB]
    · have h2 : VI.ab n ∈ l:=by
        rcases List.mem_cons.1 h with h | h
        · cases h; exact absurd rfl e
        · exact h
      have ih:=look_known hf h2
      cases hk : findF hs (false,k) with
      | none=>exact ih
      | some g =>
        simp only [lookB]
        rw [if_neg (by simp; exact fun h=>e h.symm)]
        exact ih
  | .al _ _ :: l,h=>look_known hf (l:=l) (by simpa using h)
  | .va _ _ :: l,h=>look_known hf (l:=l) (by simpa using h)
theorem vis_al {hs : List VI} {m : List (BNm × VT)} {y : VI} {f : VT} (hf : findF hs (viK y) = some f) (h : visC hs m y = 0) : (∃ n,y = .ab n) ∨ subV m (meanI y) = f:=by
  cases y with
  | ab n=>exact .inl ⟨n,rfl⟩
  | al n v =>
    right
    unfold visC at h
    rw [hf] at h
    by_cases h1 : subV m v = f
    · exact h1
    · simp only [if_neg h1] at h; revert h; split <;> simp
  | va n v =>
    right
    unfold visC at h
    rw [hf] at h
    by_cases h1 : subV m v = f
    · exact h1
    · simp only [if_neg h1] at h; revert h; split <;> simp
theorem vis_found {hs : List VI} {m : List (BNm × VT)} {y : VI} (h : visC hs m y = 0) : ∃ f,findF hs (viK y) = some f:=by
  cases hf : findF hs (viK y) with
  | some f=>exact ⟨f,rfl⟩
  | none=>unfold visC at h; rw [hf] at h; cases h
theorem find_far {hs ws : List VI} (ho : ordB ws = true) (h : offC hs [] ws 0 = none) {q : Ky} {g : VT} (hg : findF ws q = some g) : findF hs q = some (subV (knownB hs ws) g):=by
  obtain ⟨i,hi,rfl,rfl⟩:=findF_some hg
  have hv:=vis_all ho h hi
  obtain ⟨f,hf⟩:=vis_found hv
  rcases vis_al hf hv with ⟨n,hn⟩ | h1
  · rw [hn] at hf ⊢
    have hm : VI.ab n ∈ ws:=by rw [← hn]; simp [List.getD,hi]
    have hl:=look_known hf hm
    show findF hs (false,n) = _
    rw [meanI,subV,hl]
    exact hf
  · rw [hf,h1]
theorem offC_trans {hs ws us : List VI} (hw : ordB ws = true) (hu : ordB us = true) (hok : ∀ i,i < us.length → allI (okA (us.take i)) (us.getD i vi0) = true) (h1 : offC hs [] ws 0 = none) (h2 : offC ws [] us 0 = none) : offC hs [] us 0 = none:=by
  have hkn : ∀ l : List VI,(∀ y ∈ l,∃ g,findF ws (viK y) = some g) → knownB hs l = (knownB ws l).map fun x=>(x.1,subV (knownB hs ws) x.2):=by
    intro l
    induction l with
    | nil=>intro _; rfl
    | cons y l ih =>
      intro hl
      have ih:=ih fun z hz=>hl z (by simp [hz])
      obtain ⟨g,hg⟩:=hl y (by simp)
      cases y with
      | ab n =>
        have hg : findF ws (false,n) = some g:=hg
        simp only [knownB,hg,find_far hw h1 hg,ih,List.map_cons]
      | al n v=>simpa only [knownB] using ih
      | va n v=>simpa only [knownB] using ih
  have hfound : ∀ y ∈ us,∃ g,findF ws (viK y) = some g:=fun y hy=>by
    obtain ⟨i,hi,he⟩:=List.mem_iff_getElem.1 hy
    have e : us.getD i vi0 = y:=by rw [← he]; simp [List.getD,hi]
    rw [← e]; exact vis_found (vis_all hu h2 hi)
  rw [offC_iff]
  intro i hi
  rw [← visC_all hu hi,hkn us hfound]
  have hv:=vis_all hu h2 hi
  obtain ⟨g,hg⟩:=vis_found hv
  have hf:=find_far hw h1 hg
  have hoki:=hok i hi
  have hsub : ∀ p,okA (us.take i) p = true → lookB p (knownB ws us) ≠ none ∨ lookB p (knownB hs ws) = none:=fun p hp=>by
    obtain ⟨m,n⟩:=p
    by_cases hm : m = []
    · subst hm
      simp only [okA,decide_true,Bool.not_true,Bool.false_or] at hp
      have hmem : VI.ab n ∈ us:=List.mem_of_mem_take (any_mem hp)
      obtain ⟨g',hg'⟩:=hfound _ hmem
      left
      rw [look_known (n:=n) hg' hmem]; simp
    · exact .inr (look_mod (fun x hx=>(knownB_names hs _ x hx).1) hm)
  rcases vis_al hg hv with ⟨n,hn⟩ | h3
  · rw [hn] at hf ⊢
    unfold visC
    rw [hf]
  · unfold visC
    rw [hf]
    cases hy : us.getD i vi0 with
    | ab n=>rfl
    | al n v =>
      rw [hy] at hoki h3
      simp only [meanI] at h3
      simp only [sub_sub hsub hoki,h3,if_true]
    | va n v =>
      rw [hy] at hoki h3
      simp only [meanI] at h3
      simp only [sub_sub hsub hoki,h3,if_true]
theorem mt_trans {a b c : List SigI} {p q : Nat × Bool} (h1 : MtIs a b 0 p) (h2 : MtIs b c 0 q) : ∃ r,MtIs a c 0 r:=by
  obtain ⟨hs,ws,a1,a2,a3⟩:=mt_zero h1
  obtain ⟨ws',us,b1,b2,b3⟩:=mt_zero h2
  cases rdN_oo a2 b1
  have h:=offC_trans (rdN_ordB a2) (rdN_ordB b2) (zs_okA b2) a3 b3
  exact ⟨_,.inl ⟨hs,us,a1,b2,by rw [h]; rfl,rfl⟩⟩
end Go.Proofs.YtngheinmebopeaaGreatDoor
/- Whether two types are equal, by the program's method. -/
set_option linter.unusedVariables false
set_option linter.unusedSimpArgs false
namespace Go.Proofs.YtngheinmebopeaaGreatDoor
open Go.Abs
open Classical in
def SmM (v w : VT) : Prop:=∀ A,ACalls Tryz.prog ((pickF 165 172 129) v) [vX v,.iface (vT w) (vX w)] A (fun r A'=>r = .bool (decide (v = w)) ∧ A' = A)
set_option maxRecDepth 100000 in
theorem num_same (w : VT) : SmM .num w:=fun A=>by
  cases w with
  | num =>
    show ACalls Tryz.prog 165 [.agg [],.iface 185 (.agg [])] A _
    refine acalls_enter (cf:=cf 13 [0,1,4,6]) foll Tryz.func165 Tryz.ntmps165 (by simp [cf]) ?_
    simp only [Tryz.f165,EnterK_some,zW,zX,zD,builtinA,isLeaf,const1,ustrA,simprocAttr,ti126,ti185,za185,cf,Tryz.results165]
    simp only [zW,zX,zD,builtinA,isLeaf,const1,ustrA,simprocAttr,ti126,ti185,za185,cf,Tryz.results165,wpO_typeAssert,assert_yes]
  | nm a b =>
    show ACalls Tryz.prog 165 [.agg [],.iface 132 (.agg [.str a,.str b])] A _
    have has:=fun A=>assert_no [] 132 185 (.agg [.str a,.str b]) rfl (A:=A)
    refine acalls_enter (cf:=cf 13 [0,1,4,6]) foll Tryz.func165 Tryz.ntmps165 (by simp [cf]) ?_
    simp only [Tryz.f165,EnterK_some,zW,zX,zD,builtinA,isLeaf,const1,ustrA,simprocAttr,ti126,ti185,za185,cf,Tryz.results165]
    simp only [zW,zX,zD,builtinA,isLeaf,const1,ustrA,simprocAttr,ti126,ti185,za185,cf,Tryz.results165,wpO_typeAssert,has]
  | fn a b =>
    show ACalls Tryz.prog 165 [.agg [],.iface 189 (.agg [.iface (vT a) (vX a),.iface (vT b) (vX b)])] A _
    have has:=fun A=>assert_no [] 189 185 (.agg [.iface (vT a) (vX a),.iface (vT b) (vX b)]) rfl (A:=A)
    refine acalls_enter (cf:=cf 13 [0,1,4,6]) foll Tryz.func165 Tryz.ntmps165 (by simp [cf]) ?_
    simp only [Tryz.f165,EnterK_some,zW,zX,zD,builtinA,isLeaf,const1,ustrA,simprocAttr,ti126,ti185,za185,cf,Tryz.results165]
    simp only [zW,zX,zD,builtinA,isLeaf,const1,ustrA,simprocAttr,ti126,ti185,za185,cf,Tryz.results165,wpO_typeAssert,has]
set_option maxRecDepth 100000 in
theorem name_same (a b : List UInt8) (w : VT) : SmM (.nm a b) w:=fun A=>by
  cases w with
  | num =>
    show ACalls Tryz.prog 129 [.agg [.str a,.str b],.iface 185 (.agg [])] A _
    have has:=fun A=>assert_no [.str [],.str []] 185 132 (.agg []) rfl (A:=A)
    refine acalls_enter (cf:=cf 18 [0,1,2,4,5,6]) foll Tryz.func129 Tryz.ntmps129 (by simp [cf]) ?_
    simp only [Tryz.f129,EnterK_some,zW,zX,zD,builtinA,isLeaf,const1,ustrA,simprocAttr,ti126,ti132,ks132,za132,cf,Tryz.results129]
    simp only [zW,zX,zD,builtinA,isLeaf,const1,ustrA,simprocAttr,ti126,ti132,ks132,za132,cf,Tryz.results129,wpO_typeAssert,has]
  | nm c d =>
    show ACalls Tryz.prog 129 [.agg [.str a,.str b],.iface 132 (.agg [.str c,.str d])] A _
    refine acalls_enter (cf:=cf 18 [0,1,2,4,5,6]) foll Tryz.func129 Tryz.ntmps129 (by simp [cf]) ?_
    simp only [Tryz.f129,EnterK_some,zW,zX,zD,builtinA,isLeaf,const1,ustrA,simprocAttr,ti126,ti132,ks132,za132,cf,Tryz.results129]
    simp only [zW,zX,zD,builtinA,isLeaf,const1,ustrA,simprocAttr,ti126,ti132,ks132,za132,cf,Tryz.results129,wpO_typeAssert,assert_yes]
    simp
  | fn c d =>
    show ACalls Tryz.prog 129 [.agg [.str a,.str b],.iface 189 (.agg [.iface (vT c) (vX c),.iface (vT d) (vX d)])] A _
    have has:=fun A=>assert_no [.str [],.str []] 189 132 (.agg [.iface (vT c) (vX c),.iface (vT d) (vX d)]) rfl (A:=A)
    refine acalls_enter (cf:=cf 18 [0,1,2,4,5,6]) foll Tryz.func129 Tryz.ntmps129 (by simp [cf]) ?_
    simp only [Tryz.f129,EnterK_some,zW,zX,zD,builtinA,isLeaf,const1,ustrA,simprocAttr,ti126,ti132,ks132,za132,cf,Tryz.results129]
    simp only [zW,zX,zD,builtinA,isLeaf,const1,ustrA,simprocAttr,ti126,ti132,ks132,za132,cf,Tryz.results129,wpO_typeAssert,has]
open Classical in
set_option maxRecDepth 100000 in
theorem fun_same (a b : VT) (ha : ∀ w,SmM a w) (hb : ∀ w,SmM b w) (w : VT) : SmM (.fn a b) w:=fun A=>by
  cases w with
  | num =>
    show ACalls Tryz.prog 172 [.agg [.iface (vT a) (vX a),.iface (vT b) (vX b)],.iface 185 (.agg [])] A _
    have has:=fun A=>assert_no [.nili,.nili] 185 189 (.agg []) rfl (A:=A)
    refine acalls_enter (cf:=cf 27 [0,1,2,4,5,6]) foll Tryz.func172 Tryz.ntmps172 (by simp [cf]) ?_
    simp only [Tryz.f172,EnterK_some,zW,zX,zD,builtinA,isLeaf,const1,ustrA,simprocAttr,ti126,ti189,za189,cf,Tryz.results172]
    simp only [zW,zX,zD,builtinA,isLeaf,const1,ustrA,simprocAttr,ti126,ti189,za189,cf,Tryz.results172,wpO_typeAssert,has]
  | nm c d =>
    show ACalls Tryz.prog 172 [.agg [.iface (vT a) (vX a),.iface (vT b) (vX b)],.iface 132 (.agg [.str c,.str d])] A _
    have has:=fun A=>assert_no [.nili,.nili] 132 189 (.agg [.str c,.str d]) rfl (A:=A)
    refine acalls_enter (cf:=cf 27 [0,1,2,4,5,6]) foll Tryz.func172 Tryz.ntmps172 (by simp [cf]) ?_
    simp only [Tryz.f172,EnterK_some,zW,zX,zD,builtinA,isLeaf,const1,ustrA,simprocAttr,ti126,ti189,za189,cf,Tryz.results172]
    simp only [zW,zX,zD,builtinA,isLeaf,const1,ustrA,simprocAttr,ti126,ti189,za189,cf,Tryz.results172,wpO_typeAssert,has]
  | fn c d =>
    show ACalls Tryz.prog 172 [.agg [.iface (vT a) (vX a),.iface (vT b) (vX b)],.iface 189 (.agg [.iface (vT c) (vX c),.iface (vT d) (vX d)])] A _
    refine acalls_enter (cf:=cf 27 [0,1,2,4,5,6]) foll Tryz.func172 Tryz.ntmps172 (by simp [cf]) ?_
    simp only [Tryz.f172,EnterK_some,zW,zX,zD,builtinA,isLeaf,const1,ustrA,simprocAttr,ti126,ti189,za189,cf,Tryz.results172]
    simp only [zW,zX,zD,builtinA,isLeaf,const1,ustrA,simprocAttr,ti126,ti189,za189,cf,Tryz.results172,wpO_typeAssert,assert_yes]
    refine wpO_invoke _ _ _ _ _ _ _ _ _ _ _ _ _ _ _ _ ?_
    simp only [zW,zX,zD,builtinA,isLeaf,const1,ustrA,simprocAttr,ti126,ti189,za189,cf,Tryz.results172]
    refine meth_invK (met3 (by kernel_rfl) (by kernel_rfl) (by kernel_rfl) (by kernel_rfl) (by kernel_rfl) (by kernel_rfl)) (ha c _) rfl (fun _=>rfl) ?_
    rintro r A' ⟨rfl,rfl⟩
    by_cases h1 : a = c
    · rw [decide_eq_true h1]
      simp only [zW,zX,zD,builtinA,isLeaf,const1,ustrA,simprocAttr,ti126,ti189,za189,cf,Tryz.results172]
      refine wpO_invoke _ _ _ _ _ _ _ _ _ _ _ _ _ _ _ _ ?_
      simp only [zW,zX,zD,builtinA,isLeaf,const1,ustrA,simprocAttr,ti126,ti189,za189,cf,Tryz.results172]
      refine meth_invK (met3 (by kernel_rfl) (by kernel_rfl) (by kernel_rfl) (by kernel_rfl) (by kernel_rfl) (by kernel_rfl)) (hb d _) rfl (fun _=>rfl) ?_
      rintro r A' ⟨rfl,rfl⟩
      simp only [zW,zX,zD,builtinA,isLeaf,const1,ustrA,simprocAttr,ti126,ti189,za189,cf,Tryz.results172]
      simp [h1]
    · rw [decide_eq_false h1]
      simp only [zW,zX,zD,builtinA,isLeaf,const1,ustrA,simprocAttr,ti126,ti189,za189,cf,Tryz.results172]
      simp [h1]
theorem smM : ∀ v w : VT,SmM v w
  | .num,w=>num_same w
  | .nm a b,w=>name_same a b w
  | .fn a b,w=>fun_same a b (smM a) (smM b) w
end Go.Proofs.YtngheinmebopeaaGreatDoor
/- errors.As where the target is the program's own error type and the error is of that type, or nil: Go's own text is walked, on the memory itself. -/
set_option linter.unusedVariables false
set_option linter.unusedSimpArgs false
namespace Go.Proofs.YtngheinmebopeaaGreatDoor
open Go.Abs Go.RowKit Go.Extern
def hT (t : Nat) : Value:=.pointer (some ⟨1,t,none⟩)
def tT (t : Nat) : Value:=.iface 134 (.agg #[hT t])
def vT' (t : Nat) (a : Addr) (fl : Int) : Value:=.agg #[hT t,.pointer (some a),.int .u64 fl]
theorem as_valueOfP (t : Addr) (w : World) : (ReflectliteValue.unpack (.iface 49 (.pointer (some t)))).run Tryz.prog w = .ok (vT' 49 ⟨w.heap.size,0,none⟩ 150) (w.alloc (.cells #[.pointer (some t)] 49)):=by kernel_rfl
theorem as_type (a : Addr) (w : World) : (ReflectliteValue.methodAny (ReflectliteValue.valueError "reflectlite.Value.Type" 0) (fun t _ _ _=>ReflectliteType.toType t) #[vT' 49 a 150]).run Tryz.prog w = .ok (tT 49) w:=by kernel_rfl
theorem as_mKind (h : Value) (w : World) : (Go.method 328 134 (.agg #[h]) "Kind").run Tryz.prog w = .ok (116,h) w:=by kernel_rfl
theorem as_kindP (w : World) : ((ReflectliteType.abiMethod fun t=>(fun a : Nat=>Value.int IntKind.u8 (a : Int)) <$> Rtype.kind t) #[hT 49]).run Tryz.prog w = .ok (.int .u8 22) w:=by kernel_rfl
theorem as_kindT (w : World) : ((ReflectliteType.abiMethod fun t=>(fun a : Nat=>Value.int IntKind.u8 (a : Int)) <$> Rtype.kind t) #[hT 44]).run Tryz.prog w = .ok (.int .u8 25) w:=by kernel_rfl
theorem as_rlm (z : Sem Value) (f : TypeId → Addr → Nat → Nat → Sem Value) (v : Value) :
    ReflectliteValue.method z f #[v] = (do match ← ReflectliteValue.parts v with | none=>z | some (t,a,fl)=>f t a fl (fl % 32)):=rfl
theorem as_partsP (a : Addr) (w : World) : (ReflectliteValue.parts (vT' 49 a 150)).run Tryz.prog w = .ok (some (49,a,150)) w:=by kernel_rfl
theorem as_isNil (a p : Addr) (W : World) (ha : W.cell? a = some (.pointer (some p))) :
    (ReflectliteValue.method (ReflectliteValue.valueError "reflectlite.Value.IsNil" 0) ReflectliteValue.isNil #[vT' 49 a 150]).run Tryz.prog W = .ok (.bool false) W:=by
  rw [as_rlm]
  simp only [Sem.run_bind,as_partsP,Result.andThen]
  simp [ReflectliteValue.isNil,loadVar,isAgg,underlying,Tryz.underlying49,ha,Result.andThen]
theorem as_mElem (h : Value) (w : World) : (Go.method 328 134 (.agg #[h]) "Elem").run Tryz.prog w = .ok (135,.agg #[h]) w:=by kernel_rfl
theorem as_mImpl (h : Value) (w : World) : (Go.method 328 134 (.agg #[h]) "Implements").run Tryz.prog w = .ok (136,.agg #[h]) w:=by kernel_rfl
theorem as_mAsg (h : Value) (w : World) : (Go.method 328 134 (.agg #[h]) "AssignableTo").run Tryz.prog w = .ok (133,.agg #[h]) w:=by kernel_rfl
theorem as_elem (w : World) : (ReflectliteType.method ReflectliteType.elem #[.agg #[hT 49]]).run Tryz.prog w = .ok (tT 44) w:=by kernel_rfl
theorem as_impl (w : World) : (ReflectliteType.relation "Implements" ReflectliteType.implements_ #[.agg #[hT 44],tT 47]).run Tryz.prog w = .ok (.bool true) w:=by kernel_rfl
theorem as_typeOf (v : Value) (w : World) : (ReflectliteType.typeOf #[.iface 44 v]).run Tryz.prog w = .ok (tT 44) w:=by kernel_rfl
theorem as_asg (w : World) : (ReflectliteType.relation "AssignableTo" ReflectliteType.assignableTo #[.agg #[hT 44],tT 44]).run Tryz.prog w = .ok (.bool true) w:=by kernel_rfl
theorem as_valueOfT (x0 x1 x2 x3 : Value) (w : World) : (ReflectliteValue.unpack (.iface 44 (.agg #[x0,x1,x2,x3]))).run Tryz.prog w = .ok (vT' 44 ⟨w.heap.size,0,none⟩ 153) (w.alloc (.cells #[x0,x1,x2,x3] 44)):=by kernel_rfl
theorem as_elemOf (w : World) : (Rtype.elem? 49).run Tryz.prog w = .ok (some 44) w:=by kernel_rfl
theorem as_mk (p : Addr) (w : World) : (ReflectliteValue.mk 44 p ReflectliteValue.flagAddr).run Tryz.prog w = .ok (vT' 44 p 409) w:=by kernel_rfl
theorem as_elemV (a p : Addr) (W : World) (ha : W.cell? a = some (.pointer (some p))) :
    (ReflectliteValue.method (ReflectliteValue.valueError "reflectlite.Value.Elem" 0) ReflectliteValue.elem #[vT' 49 a 150]).run Tryz.prog W = .ok (vT' 44 p 409) W:=by
  rw [as_rlm]
  simp only [Sem.run_bind,as_partsP,Result.andThen]
  simp [ReflectliteValue.elem,loadVar,isAgg,underlying,Tryz.underlying49,ha,Result.andThen,as_elemOf,as_mk]
theorem as_rls (v x : Value) : ReflectliteValue.set #[v,x] = (do
    let (some (dst,a,fl),some (src,b,_)):=(← ReflectliteValue.parts v,← ReflectliteValue.parts x)
      | unsupported (.noEntry "extern/(internal/reflectlite.Value).Set.zeroValue")
    if fl / ReflectliteValue.flagAddr % 2 == 0 then unsupported (.noEntry "extern/(internal/reflectlite.Value).Set.unaddressable")
    let val ← loadVar src b
    if ← Rtype.directlyAssignable dst src then storeVar dst a val
    else if ← Rtype.implements dst src then
      if (← Rtype.kind src) == 20 then
        match val with
        | .nilIface=>unsupported (.noEntry "extern/reflectlite: a nil value of one interface type handed on as a value of another")
        | _=>storeVar dst a val
      else storeVar dst a (.iface src val)
    else panicString ("reflectlite.Set: value of type " ++ (← Rtype.spelt src) ++ " is not assignable to type " ++ (← Rtype.spelt dst))
    pure (.tuple #[])):=rfl
theorem as_partsA (a : Addr) (w : World) : (ReflectliteValue.parts (vT' 44 a 409)).run Tryz.prog w = .ok (some (44,a,409)) w:=by kernel_rfl
theorem as_partsT (a : Addr) (w : World) : (ReflectliteValue.parts (vT' 44 a 153)).run Tryz.prog w = .ok (some (44,a,153)) w:=by kernel_rfl
theorem as_direct (w : World) : (Rtype.directlyAssignable 44 44).run Tryz.prog w = .ok true w:=by kernel_rfl
theorem as_size (w : World) : (sizeOf 44).run Tryz.prog w = .ok 4 w:=by kernel_rfl
theorem as_set (ta : Addr) (b : Nat) (x0 x1 x2 x3 : Value) (W W' : World) (hb : W.heap[b]? = some (.cells #[x0,x1,x2,x3] 44 (0,0))) (hs : (storeVar 44 ta (.agg #[x0,x1,x2,x3])).run Tryz.prog W = .ok () W') :
    (ReflectliteValue.set #[vT' 44 ta 409,vT' 44 ⟨b,0,none⟩ 153]).run Tryz.prog W = .ok (.tuple #[]) W':=by
  have hl : (loadVar 44 ⟨b,0,none⟩).run Tryz.prog W = .ok (.agg #[x0,x1,x2,x3]) W:=by
    simp [loadVar,isAgg,underlying,Tryz.underlying44,Result.andThen,as_size,loadCells,loadCellsFrom,World.cell?,hb,Addr.add]
  rw [as_rls]
  simp only [Sem.run_bind,as_partsA,as_partsT,Result.andThen]
  simp [ReflectliteValue.flagAddr,hl,Result.andThen,as_direct,hs]
theorem as_alive {w : World} {a : Addr} {v : Value} (h : w.cell? a = some v) : a.block < w.heap.size:=by
  rcases Nat.lt_or_ge a.block w.heap.size with h1 | h1
  · exact h1
  · simp [World.cell?,Array.getElem?_eq_none h1] at h
set_option maxRecDepth 100000 in
set_option maxHeartbeats 4000000 in
theorem as_go (t a : Addr) (x0 x1 x2 x3 : Value) (w W' : World) (ha : w.cell? a = some (.pointer (some t)))
    (hs : (storeVar 44 t (.agg #[x0,x1,x2,x3])).run Tryz.prog ((w.alloc (.cells #[hT 49,.pointer (some a),.int .u64 150] 90)).alloc (.cells #[x0,x1,x2,x3] 44)) = .ok () W') :
    Calls Tryz.prog 44 #[.iface 44 (.agg #[x0,x1,x2,x3]),.iface 49 (.pointer (some t)),vT' 49 a 150,tT 44] w fun e w'=>e = .returned (.bool true) ∧ w' = W':=by
  have h6:=@run_callFunc_extern Tryz.prog 41 _ (fun args=>ReflectliteValue.unpack (args.getD 0 (.tuple #[]))) Tryz.func41 (by kernel_rfl) (by kernel_rfl) (by kernel_rfl) (by kernel_rfl)
  have h10:=@run_callFunc_extern Tryz.prog 75 _ ReflectliteType.typeOf Tryz.func75 (by kernel_rfl) (by kernel_rfl) (by kernel_rfl) (by kernel_rfl)
  have h35:=@run_callFunc_extern Tryz.prog 133 _ (ReflectliteType.relation "AssignableTo" ReflectliteType.assignableTo) Tryz.func133 (by kernel_rfl) (by kernel_rfl) (by kernel_rfl) (by kernel_rfl)
  have h11:=@run_callFunc_extern Tryz.prog 76 _ (ReflectliteValue.method (ReflectliteValue.valueError "reflectlite.Value.Elem" 0) ReflectliteValue.elem) Tryz.func76 (by kernel_rfl) (by kernel_rfl) (by kernel_rfl) (by kernel_rfl)
  have h12:=@run_callFunc_extern Tryz.prog 77 _ ReflectliteValue.set Tryz.func77 (by kernel_rfl) (by kernel_rfl) (by kernel_rfl) (by kernel_rfl)
  have tO:=as_typeOf
  have mA:=as_mAsg
  have aT:=as_asg
  have vO:=as_valueOfT
  have hal:=as_alive ha
  have el:=as_elemV a t (w.alloc (.cells #[hT 49,.pointer (some a),.int .u64 150] 90)) (by rw [World.cell?_alloc_lt _ _ a hal]; exact ha)
  have st:=as_set t (w.heap.size + 1) x0 x1 x2 x3 _ W' (by rw [show ∀ o o' : Obj,((w.alloc o).alloc o').heap = (w.heap.push o).push o' from fun _ _=>rfl,show w.heap.size + 1 = (w.heap.push _).size from (Array.size_push _).symm]; exact Array.getElem?_push_size) hs
  simp only [vT',tT,hT] at *
  go_enter Tryz.func44,Tryz.ntmps44
  go_wp2
  refine wp_loop_rounds 1 ?_
  rw [rounds_succ]
  go_wp2
  go_ret
  exact ⟨rfl,rfl⟩
set_option maxRecDepth 100000 in
set_option maxHeartbeats 4000000 in
theorem as_hit (t : Addr) (x0 x1 x2 x3 : Value) (w W' : World) (hg : w.cell? ⟨0,0,none⟩ = some (tT 47))
    (hs : (storeVar 44 t (.agg #[x0,x1,x2,x3])).run Tryz.prog ((((w.alloc (.cells #[.pointer (some t)] 49)).alloc (.cells #[hT 49,.pointer (some ⟨w.heap.size,0,none⟩),.int .u64 150] 90)).alloc (.cells #[hT 49,.pointer (some ⟨w.heap.size,0,none⟩),.int .u64 150] 90)).alloc (.cells #[x0,x1,x2,x3] 44)) = .ok () W') :
    Calls Tryz.prog 18 #[.iface 44 (.agg #[x0,x1,x2,x3]),.iface 49 (.pointer (some t))] w fun e w'=>e = .returned (.bool true) ∧ w' = W':=by
  have h6:=@run_callFunc_extern Tryz.prog 41 _ (fun args=>ReflectliteValue.unpack (args.getD 0 (.tuple #[]))) Tryz.func41 (by kernel_rfl) (by kernel_rfl) (by kernel_rfl) (by kernel_rfl)
  have h7:=@run_callFunc_extern Tryz.prog 42 _ (ReflectliteValue.methodAny (ReflectliteValue.valueError "reflectlite.Value.Type" 0) (fun t _ _ _=>ReflectliteType.toType t)) Tryz.func42 (by kernel_rfl) (by kernel_rfl) (by kernel_rfl) (by kernel_rfl)
  have h8:=@run_callFunc_extern Tryz.prog 43 _ (ReflectliteValue.method (ReflectliteValue.valueError "reflectlite.Value.IsNil" 0) ReflectliteValue.isNil) Tryz.func43 (by kernel_rfl) (by kernel_rfl) (by kernel_rfl) (by kernel_rfl)
  have h27:=@run_callFunc_extern Tryz.prog 116 _ (ReflectliteType.abiMethod fun t=>do pure (.int .u8 (← Rtype.kind t))) Tryz.func116 (by kernel_rfl) (by kernel_rfl) (by kernel_rfl) (by kernel_rfl)
  have h37:=@run_callFunc_extern Tryz.prog 135 _ (ReflectliteType.method ReflectliteType.elem) Tryz.func135 (by kernel_rfl) (by kernel_rfl) (by kernel_rfl) (by kernel_rfl)
  have h38:=@run_callFunc_extern Tryz.prog 136 _ (ReflectliteType.relation "Implements" ReflectliteType.implements_) Tryz.func136 (by kernel_rfl) (by kernel_rfl) (by kernel_rfl) (by kernel_rfl)
  have f6:=as_valueOfP
  have f7:=as_type
  have mK:=as_mKind
  have mE:=as_mElem
  have mI:=as_mImpl
  have k27:=as_kindP
  have k25:=as_kindT
  have e27:=as_elem
  have i25:=as_impl
  have hlt : 0 < w.heap.size:=as_alive hg
  have hp : ∀ o,((w.alloc (.cells #[.pointer (some t)] 49)).alloc o).cell? ⟨w.heap.size,0,none⟩ = some (.pointer (some t)):=fun o=>by
    rw [World.cell?_alloc_lt _ _ ⟨w.heap.size,0,none⟩ (by simp)]; simp
  have n8:=as_isNil ⟨w.heap.size,0,none⟩ t ((w.alloc (.cells #[.pointer (some t)] 49)).alloc (.cells #[hT 49,.pointer (some ⟨w.heap.size,0,none⟩),.int .u64 150] 90)) (hp _)
  have hg2 : ((w.alloc (.cells #[.pointer (some t)] 49)).alloc (.cells #[hT 49,.pointer (some ⟨w.heap.size,0,none⟩),.int .u64 150] 90)).cell? ⟨0,0,none⟩ = some (tT 47):=by
    rw [World.cell?_alloc_lt _ _ ⟨0,0,none⟩ (by simp),World.cell?_alloc_lt _ _ ⟨0,0,none⟩ hlt]; exact hg
  have go:=as_go t ⟨w.heap.size,0,none⟩ x0 x1 x2 x3 _ W' (hp _) hs
  clear hs
  simp only [vT',tT,hT] at *
  go_enter Tryz.func18,Tryz.ntmps18
  go_wp2_with (go_at_call 44; refine go.mono ?_; rintro e w' ⟨rfl,rfl⟩)
  go_ret
  exact ⟨rfl,rfl⟩
theorem hrel_skip {G : Ghost} {A : List Box} {w w' : World} {base : Nat} (h : HRel G A w base) (hk : Kept (fun _=>False) w w') : HRel G A w' base ∧ Ext G w G w':=by
  have e : Ext G w G w':=⟨Nat.le_refl _,fun _ _ x=>x,fun x o hx=>cell?_congr (hk.block x (h.imm x o hx) (fun f=>f)) o,fun _ _=>⟨rfl,rfl,rfl,rfl,rfl⟩,fun x o hx f=>hk.fz (h.imm x o hx) (fun f=>f) f⟩
  exact ⟨⟨h.n,fun i hi=>(h.box i hi).mono e (by rw [h.n]; exact hi) (fun hl=>hk.block _ (h.bnd i hi hl).2 (fun f=>f)) (fun _ _ x=>x),h.sep,fun i hi hl=>⟨(h.bnd i hi hl).1,Nat.lt_of_lt_of_le (h.bnd i hi hl).2 hk.size⟩,fun b o x=>Nat.lt_of_lt_of_le (h.imm b o x) hk.size,Nat.le_trans h.low hk.size,h.gv.block fun b hb=>hk.block b (by have:=h.low; omega) (fun f=>f)⟩,e⟩
theorem hrel_skip1 {G : Ghost} {A : List Box} {w : World} {base : Nat} (h : HRel G A w base) (o : Obj) : HRel G A (w.alloc o) base ∧ Ext G w G (w.alloc o) ∧ Below base w (w.alloc o) :=
  have k:=hrel_skip h (kept_alloc (w:=w) (o:=o))
  ⟨k.1,k.2,kept_alloc.below (fun _ f=>f.elim) h.low⟩
set_option maxRecDepth 100000 in
theorem As_hit (A : List Box) (i : Nat) (y0 y1 y2 y3 : AV) (us : List AV) (hi : i < A.length) (hb : A.getD i .dead = .cells us) (hu : us.length = 4) :
    ACalls Tryz.prog 18 [.iface 44 (.agg [y0,y1,y2,y3]),.ifp 49 i 0] A (fun r A'=>r = .bool true ∧ A' = A.set i (.cells [y0,y1,y2,y3])):=by
  intro G w base xs h hx
  obtain ⟨x,y,hxy,h1,h2⟩:=RL.two hx
  obtain ⟨xs⟩:=xs
  simp only at hxy
  subst hxy
  cases h1 with
  | iface _ _ x hv h1 =>
  cases h2 with
  | ifp _ _ _ hin =>
  have h1':=h1
  cases h1 with
  | agg _ x hs hc h1 =>
  obtain ⟨x⟩:=x
  match x,hs with
  | [x0,x1,x2,x3],_ =>
  have hg:=(h.gv _ rfl).2
  obtain ⟨k1,e1,b1⟩:=hrel_skip1 h (.cells #[.pointer (some ⟨G.blk i,0,none⟩)] 49)
  obtain ⟨k2,e2,b2⟩:=hrel_skip1 k1 (.cells #[hT 49,.pointer (some ⟨w.heap.size,0,none⟩),.int .u64 150] 90)
  obtain ⟨k3,e3,b3⟩:=hrel_skip1 k2 (.cells #[hT 49,.pointer (some ⟨w.heap.size,0,none⟩),.int .u64 150] 90)
  obtain ⟨k4,e4,b4⟩:=hrel_skip1 k3 (.cells #[x0,x1,x2,x3] 44)
  have e:=(((e1.trans e2).trans e3).trans e4)
  obtain ⟨w',G',q1,q2,q3,q4⟩:=store_ok (A:=A) (A':=A.set i (.cells [y0,y1,y2,y3])) (p:=.ptr i 0) (c:=0 + 4 ≤ us.length) ti44 (vs:=[y0,y1,y2,y3]) (v:=.agg [y0,y1,y2,y3]) (y:=.agg #[x0,x1,x2,x3]) rfl rfl (by simp only [storeA,hb]; simp [hu,List.drop_eq_nil_of_le (Nat.le_of_eq hu)]) (by omega) k4 (.ptr i 0 hin) (h1'.mono e)
  refine (as_hit ⟨G.blk i,0,none⟩ x0 x1 x2 x3 w w' hg q1).mono ?_
  rintro ev w'' ⟨rfl,rfl⟩
  exact ⟨_,_,_,G',rfl,⟨rfl,rfl⟩,.bool true,q2,e.trans q3,(((b1.trans b2).trans b3).trans b4).trans q4⟩
theorem As_nil (A : List Box) (v : AV) : ACalls Tryz.prog 18 [.nili,v] A (fun r A'=>r = .bool false ∧ A' = A):=by
  intro G w base xs h hx
  obtain ⟨x,y,hxy,h1,h2⟩:=RL.two hx
  obtain ⟨xs⟩:=xs
  simp only at hxy
  subst hxy
  cases h1
  have : Calls Tryz.prog 18 #[.nilIface,y] w fun e w'=>e = .returned (.bool false) ∧ w' = w:=by
    go_enter Tryz.func18,Tryz.ntmps18
    go_wp2
    go_ret
    exact ⟨rfl,rfl⟩
  refine this.mono ?_
  rintro ev w'' ⟨rfl,rfl⟩
  exact ⟨_,_,A,G,rfl,⟨rfl,rfl⟩,.bool false,h,Ext.refl _ _,Below.refl _ _⟩
end Go.Proofs.YtngheinmebopeaaGreatDoor
