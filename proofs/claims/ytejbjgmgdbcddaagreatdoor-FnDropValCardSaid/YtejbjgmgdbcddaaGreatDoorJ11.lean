/- PreFacts, AbFacts, SubOutS, StrSub, MtFacts, StrMt, MtTrans, SpAbs, SigKeyD. -/
import Derived.Test.YtejbjgmgdbcddaaGreatDoorJ10
import Derived.Test.YtejbjgmgdbcddaaGreatDoorAbsW3
/- What a name stands for in the first items of a signature. -/
set_option linter.unusedVariables false
set_option linter.unusedSimpArgs false
namespace Go.Proofs.YtejbjgmgdbcddaaGreatDoor
open Go.Abs
theorem szIs_bd : ∀ (l : List SigI) (b : Nat),(∀ x ∈ l,szI x ≤ b) → szIs l ≤ l.length * b
  | [],b,_=>by simp [szIs]
  | x :: l,b,h=>by
    have h1:=h x (by simp)
    have h2:=szIs_bd l b fun y hy=>h y (by simp [hy])
    simp only [szIs,List.map_cons,List.sum_cons,List.length_cons] at h2 ⊢
    rw [Nat.succ_mul]; omega
theorem smx_all {s : List SigI} (hs : s.length ≤ 9) (hm : ∀ x ∈ s,SmX x) : (∀ x ∈ s,x.Ok ∧ sz x.typ ≤ 1048576) ∧ s.length + szIs s ≤ 1048576:=by
  refine ⟨fun x hx=>(hm x hx).ok,?_⟩
  have h2:=szIs_bd s 300 fun x hx=>by
    have h3 : x.name.length ≤ 2 ∧ sz x.typ ≤ 200:=hm x hx
    rw [szI]; omega
  omega
end Go.Proofs.YtejbjgmgdbcddaaGreatDoor
namespace Go.Proofs.YtejbjgmgdbcddaaGreatDoor
open Go.Abs
theorem take_getD {α : Type} {l : List α} {k i : Nat} (d : α) (h : i < k) : (l.take k).getD i d = l.getD i d:=by
  simp [List.getD,List.getElem?_take,h]
end Go.Proofs.YtejbjgmgdbcddaaGreatDoor
/- Names in the type that a name stands for: those without a module are abstract, and stand for themselves. -/
set_option linter.unusedVariables false
set_option linter.unusedSimpArgs false
namespace Go.Proofs.YtejbjgmgdbcddaaGreatDoor
open Go.Abs
def isAb (n : List UInt8) : VI → Bool
  | .ab k=>decide (k = n)
  | _=>false
def okA (l : List VI) (p : Nm) : Bool:=!decide (p.1 = []) || l.any (isAb p.2)
theorem okA_snoc {l : List VI} {y : VI} {p : Nm} (h : okA l p = true) : okA (l ++ [y]) p = true:=by
  simp only [okA,Bool.or_eq_true,List.any_append] at h ⊢
  rcases h with h | h
  · exact .inl h
  · exact .inr (.inl h)
theorem allV_sub2 {p q : Nm → Bool} {m : List (BNm × VT)} (hm : ∀ x ∈ m,allV q x.2 = true) (hp : ∀ x,p x = true → lookB x m ≠ none ∨ q x = true) : ∀ {v : VT},allV p v = true → allV q (subV m v) = true
  | .num,_=>rfl
  | .nm a b,h=>by
    rw [subV]
    cases hl : lookB (a,b) m with
    | none =>
      rcases hp _ h with h2 | h2
      · exact absurd hl h2
      · exact h2
    | some w=>exact hm _ (lookB_in hl)
  | .fn a b,h=>by
    simp only [allV,Bool.and_eq_true] at h
    simp only [subV,allV,Bool.and_eq_true]
    exact ⟨allV_sub2 hm hp h.1,allV_sub2 hm hp h.2⟩
theorem lookB_snoc {q : BNm} {a : List (BNm × VT)} (x : BNm × VT) : lookB q a ≠ none ∨ x.1 = q → lookB q (a ++ [x]) ≠ none:=by
  induction a with
  | nil =>
    rintro (h | h)
    · exact absurd rfl h
    · obtain ⟨k,v⟩:=x
      simp only [List.nil_append,lookB]
      rw [if_pos h.symm]; simp
  | cons y a ih =>
    obtain ⟨k,v⟩:=y
    intro h
    simp only [List.cons_append,lookB] at h ⊢
    split
    · simp
    · rename_i hk
      rw [if_neg hk] at h
      exact ih h
theorem take_snocV {ys : List VI} {i : Nat} (h : i < ys.length) : ys.take (i + 1) = ys.take i ++ [ys.getD i vi0]:=by
  rw [List.take_add_one]; simp [List.getD,h]
theorem key_at {ys : List VI} {i : Nat} (h : i < ys.length) : (ys.take (i + 1)).map viK = (ys.take i).map viK ++ [viK (ys.getD i vi0)]:=by
  rw [take_snocV h,List.map_append]; rfl
theorem known_all (ys : List VI) : ∀ i,i ≤ ys.length → ∀ n,(false,n) ∈ (ys.take i).map viK → lookB ([],n) (nxtL (ys.take i)) ≠ none
  | 0,_,n,h=>by simp at h
  | i + 1,hi,n,h=>by
    have ih:=known_all ys i (by omega) n
    rw [key_at (by omega)] at h
    rw [nxtL_snoc ys (by omega)]
    generalize ys.getD i vi0 = y at *
    rcases List.mem_append.1 h with h | h
    · have:=ih h
      cases y with
      | ab k=>exact lookB_snoc _ (.inl this)
      | al k v=>exact lookB_snoc _ (.inl this)
      | va k v=>exact this
    · rw [List.mem_singleton] at h
      cases y with
      | ab k=>simp only [viK,Prod.mk.injEq,true_and] at h; subst h; exact lookB_snoc _ (.inr rfl)
      | al k v=>simp only [viK,Prod.mk.injEq,true_and] at h; subst h; exact lookB_snoc _ (.inr rfl)
      | va k v=>simp [viK] at h
theorem stepOf {ys : List VI} (ho : ordB ys = true) {i : Nat} (hi : i < ys.length) : stepB (ys.take i) (ys.getD i vi0) = true:=by
  unfold ordB at ho
  rw [List.all_eq_true] at ho
  exact ho i (List.mem_range.mpr hi)
theorem hpA {ys : List VI} {i : Nat} (hi : i ≤ ys.length) : ∀ x : Nm,okN ((ys.take i).map viK) x = true → lookB x (nxtL (ys.take i)) ≠ none ∨ okA (ys.take i) x = true:=fun x hx=>by
  obtain ⟨a,b⟩:=x
  simp only [okN,Bool.or_eq_true,Bool.not_eq_true',decide_eq_true_eq,decide_eq_false_iff_not] at hx
  rcases hx with hx | hx
  · right; simp [okA,hx]
  · by_cases ha : a = []
    · subst ha; exact .inl (known_all ys i hi b hx)
    · right; simp [okA,ha]
theorem nxtL_ab (ys : List VI) (ho : ordB ys = true) : ∀ i,i ≤ ys.length → ∀ x ∈ nxtL (ys.take i),allV (okA (ys.take i)) x.2 = true
  | 0,_=>by simp [nxtL]
  | i + 1,h=>by
    have ih:=nxtL_ab ys ho i (by omega)
    have hs:=stepOf ho (show i < ys.length by omega)
    have hpa:=hpA (ys:=ys) (i:=i) (by omega)
    rw [nxtL_snoc ys (by omega),take_snocV (show i < ys.length by omega)]
    simp only [stepB,Bool.and_eq_true] at hs
    generalize ys.getD i vi0 = y at *
    cases y with
    | ab n =>
      simp only [nxtM,List.mem_append,List.mem_singleton]
      rintro x (hx | rfl)
      · exact allV_mono (fun p hp=>okA_snoc hp) (ih x hx)
      · simp [allV,okA,isAb]
    | al n v =>
      simp only [allI] at hs
      simp only [nxtM,List.mem_append,List.mem_singleton]
      rintro x (hx | rfl)
      · exact allV_mono (fun p hp=>okA_snoc hp) (ih x hx)
      · exact allV_mono (fun p hp=>okA_snoc hp) (allV_sub2 ih hpa hs.1)
    | va n v =>
      simp only [nxtM]
      exact fun x hx=>allV_mono (fun p hp=>okA_snoc hp) (ih x hx)
end Go.Proofs.YtejbjgmgdbcddaaGreatDoor
/- What a substitution hands back, by its root. -/
set_option linter.unusedVariables false
set_option linter.unusedSimpArgs false
namespace Go.Proofs.YtejbjgmgdbcddaaGreatDoor
open Go.Abs
def OutS (A : List Box) (k : Int) (m n : List UInt8) (ks : List Ty) (ok : Bool) (r : AV) (A' : List Box) : Prop :=
  ∃ B v S,A' = A ++ B ∧ r = .tuple [.agg [.int .i64 k,.str m,.str n,v],.bool ok] ∧ OwnK A' ks v S ∧ S.Nodup ∧ ∀ i ∈ S,A.length ≤ i ∧ i < A'.length
theorem outS_of {A A' : List Box} {o : Option VT} {r : AV} {k : Int} {m n : List UInt8} {ks : List Ty} (ho : oTyS o = .mk k m n ks) (h : SubNew A o r A') : OutS A k m n ks o.isSome r A':=by
  obtain ⟨B,cs,S,h1,h2,rfl,h3,h4,h5,h6⟩:=h
  rw [ho,ownT_mk] at h4
  obtain ⟨v,rfl,hK⟩:=h4
  exact ⟨B,v,S,h1,rfl,hK,h5,h6⟩
end Go.Proofs.YtejbjgmgdbcddaaGreatDoor
/- Strengthening is substitution: what a value has for a type in the strengthened signature is the type that it has before, with each abstract type replaced. -/
set_option linter.unusedVariables false
set_option linter.unusedSimpArgs false
namespace Go.Proofs.YtejbjgmgdbcddaaGreatDoor
open Go.Abs
theorem look_mod {q : BNm} {m : List (BNm × VT)} (hm : ∀ x ∈ m,x.1.1 = []) (hq : q.1 ≠ []) : lookB q m = none:=by
  cases h : lookB q m with
  | none=>rfl
  | some w=>exact absurd (hm _ (lookB_in h)) hq
theorem look_map (F : List (BNm × VT)) (q : BNm) : ∀ m : List (BNm × VT),lookB q (m.map fun x=>(x.1,subV F x.2)) = (lookB q m).map (subV F)
  | []=>rfl
  | (k,v) :: m=>by
    simp only [List.map_cons,lookB]
    split
    · rfl
    · exact look_map F q m
theorem sub_sub {F m : List (BNm × VT)} {P : Nm → Bool} (h : ∀ p,P p = true → lookB p m ≠ none ∨ lookB p F = none) : ∀ {v : VT},allV P v = true → subV (m.map fun x=>(x.1,subV F x.2)) v = subV F (subV m v)
  | .num,_=>rfl
  | .nm a b,hv=>by
    rw [subV,look_map]
    rw [show subV m (.nm a b) = (lookB (a,b) m).getD (.nm a b) from rfl]
    cases hl : lookB (a,b) m with
    | some w=>rfl
    | none =>
      rcases h _ hv with h | h
      · exact absurd hl h
      · simp only [Option.map_none,Option.getD_none,subV,h]
  | .fn a b,hv=>by
    simp only [allV,Bool.and_eq_true] at hv
    simp only [subV,sub_sub h hv.1,sub_sub h hv.2]
theorem nxt_mod (ys : List VI) : ∀ i,i ≤ ys.length → ∀ x ∈ nxtL (ys.take i),x.1.1 = []
  | 0,_=>by simp [nxtL]
  | i + 1,h=>by
    have ih:=nxt_mod ys i (by omega)
    rw [nxtL_snoc ys (by omega)]
    generalize ys.getD i vi0 = y at *
    cases y with
    | ab n=>simp only [nxtM,List.mem_append,List.mem_singleton]; rintro x (hx | rfl); exact ih x hx; rfl
    | al n v=>simp only [nxtM,List.mem_append,List.mem_singleton]; rintro x (hx | rfl); exact ih x hx; rfl
    | va n v=>exact ih
end Go.Proofs.YtejbjgmgdbcddaaGreatDoor
/- Facts on matching, as data. -/
set_option linter.unusedVariables false
set_option linter.unusedSimpArgs false
namespace Go.Proofs.YtejbjgmgdbcddaaGreatDoor
open Go.Abs
theorem rdN_ordB {s : List SigI} {ws : List VI} (h : RdN s (some ws)) : ordB ws = true:=by
  obtain ⟨ys,h8,hr,hord,hn⟩:=h
  rw [(normL_fit hn).2]; exact ordB_norm hord
theorem subV_id {m : List (BNm × VT)} {p : Nm → Bool} (h : ∀ q,p q = true → lookB q m = none ∨ lookB q m = some (.nm q.1 q.2)) : ∀ {v : VT},allV p v = true → subV m v = v
  | .num,_=>rfl
  | .nm a b,hv=>by
    rw [subV]
    rcases h (a,b) hv with h1 | h1 <;> rw [h1] <;> rfl
  | .fn a b,hv=>by
    simp only [allV,Bool.and_eq_true] at hv
    rw [subV,subV_id h hv.1,subV_id h hv.2]
theorem okA_any {a b : List VI} (h : ∀ n,a.any (isAb n) = b.any (isAb n)) : okA a = okA b:=by
  funext p; simp only [okA,h]
theorem any_abs : ∀ {a b : List VI},a.map absO = b.map absO → ∀ n,a.any (isAb n) = b.any (isAb n)
  | [],[],_,n=>rfl
  | [],_ :: _,h,n=>by simp at h
  | _ :: _,[],h,n=>by simp at h
  | x :: a,y :: b,h,n=>by
    simp only [List.map_cons,List.cons.injEq] at h
    have ih:=any_abs h.2 n
    rw [List.any_cons,List.any_cons,ih]
    congr 1
    cases x <;> cases y <;> simp only [absO,reduceCtorEq,Option.some.injEq] at h
    all_goals first | (obtain ⟨rfl,_⟩:=h; rfl) | exact h.1.elim | rfl
theorem zs_okA {s : List SigI} {zs : List VI} (h : RdN s (some zs)) : ∀ i,i < zs.length → allI (okA (zs.take i)) (zs.getD i vi0) = true:=by
  obtain ⟨ys,h8,hr,hord,hn⟩:=h
  obtain ⟨hf,rfl⟩:=normL_fit hn
  intro i hi
  rw [zsN_length] at hi
  have hst:=stepOf hord hi
  simp only [stepB,Bool.and_eq_true] at hst
  have e1 : (zsN ys ys.length).take i = zsN ys i:=by
    refine List.ext_getElem (by simp [zsN_length]; omega) fun k h1 h2=>?_
    simp [zsN]
  have e2 : okA ((zsN ys ys.length).take i) = okA (ys.take i):=by
    rw [e1]; exact okA_any (any_abs (absO_zs ys i (by omega)))
  rw [e2,zsN_getD ys hi]
  have hab:=nxtL_ab ys hord i (by omega)
  have hp:=hpA (ys:=ys) (i:=i) (by omega)
  cases hy : ys.getD i vi0 with
  | ab n=>rfl
  | al n v=>rw [hy] at hst; exact allV_sub2 hab hp hst.1
  | va n v=>rw [hy] at hst; exact allV_sub2 hab hp hst.1
theorem any_mem {l : List VI} {n : List UInt8} (h : l.any (isAb n) = true) : VI.ab n ∈ l:=by
  obtain ⟨y,hy,h1⟩:=List.any_eq_true.1 h
  cases y with
  | ab m=>simp only [isAb,decide_eq_true_eq] at h1; subst h1; exact hy
  | al m v=>simp [isAb] at h1
  | va m v=>simp [isAb] at h1
theorem take_mem {l : List VI} {i : Nat} {y : VI} (h : y ∈ l.take i) : ∃ k,k < i ∧ k < l.length ∧ l.getD k vi0 = y:=by
  obtain ⟨k,hk,rfl⟩:=List.mem_iff_getElem.1 h
  simp only [List.length_take] at hk
  exact ⟨k,by omega,by omega,by simp [List.getD,show k < l.length by omega]⟩
theorem findF_at {zs : List VI} (ho : ordB zs = true) {i : Nat} (hi : i < zs.length) : findF zs (viK (zs.getD i vi0)) = some (meanI (zs.getD i vi0)):=by
  cases h : findF zs (viK (zs.getD i vi0)) with
  | none=>exact absurd rfl (findF_none h i hi)
  | some v =>
    obtain ⟨j,hj,h1,h2⟩:=findF_some h
    have e:=ordB_inj ho hj hi h1
    rw [← h2,e]
theorem known_self {zs : List VI} (ho : ordB zs = true) : ∀ x ∈ knownB zs zs,x.2 = .nm x.1.1 x.1.2:=by
  have key : ∀ a : List VI,(∀ y ∈ a,y ∈ zs) → ∀ x ∈ knownB zs a,x.2 = .nm x.1.1 x.1.2:=by
    intro a
    induction a with
    | nil=>intro _ x hx; simp [knownB] at hx
    | cons y a ih =>
      intro hm x hx
      have ih:=ih fun z hz=>hm z (by simp [hz])
      cases y with
      | ab n =>
        simp only [knownB] at hx
        have hy:=hm (.ab n) (by simp)
        obtain ⟨i,hi,he⟩:=List.mem_iff_getElem.1 hy
        have hf:=findF_at ho hi
        have e : zs.getD i vi0 = .ab n:=by rw [← he]; simp [List.getD,hi]
        rw [e] at hf
        have hf : findF zs (false,n) = some (.nm [] n):=hf
        rw [hf] at hx
        rcases List.mem_cons.1 hx with rfl | hx
        · rfl
        · exact ih x hx
      | al n v=>exact ih x (by simpa [knownB] using hx)
      | va n v=>exact ih x (by simpa [knownB] using hx)
  exact key zs fun y hy=>hy
theorem look_self {m : List (BNm × VT)} (h : ∀ x ∈ m,x.2 = .nm x.1.1 x.1.2) (q : BNm) : lookB q m = none ∨ lookB q m = some (.nm q.1 q.2):=by
  cases hl : lookB q m with
  | none=>exact .inl rfl
  | some w =>
    have:=h _ (lookB_in hl)
    exact .inr (congrArg some this)
theorem allV_true : ∀ v,allV (fun _=>true) v = true
  | .num=>rfl
  | .nm a b=>rfl
  | .fn a b=>by simp [allV,allV_true a,allV_true b]
theorem offC_self {zs : List VI} (ho : ordB zs = true) : offC zs [] zs 0 = none:=by
  rw [offC_from zs zs _ zs.length rfl (Nat.le_refl _) ?_,List.drop_length,offC]
  intro k hk
  rw [← visC_all ho hk]
  have hf:=findF_at ho hk
  have hid : ∀ v,subV (knownB zs zs) v = v:=fun v=>subV_id (p:=fun _=>true) (fun q _=>look_self (known_self ho) q) (allV_true v)
  unfold visC
  rw [hf]
  cases zs.getD k vi0 with
  | ab n=>rfl
  | al n v=>simp [hid,meanI]
  | va n v=>simp [hid,meanI]
theorem nxt_keys (ys : List VI) : ∀ i,i ≤ ys.length → ∀ x ∈ nxtL (ys.take i),(false,x.1.2) ∈ (ys.take i).map viK
  | 0,_,x,h=>by simp [nxtL] at h
  | i + 1,hi,x,h=>by
    rw [nxtL_snoc ys (by omega)] at h
    rw [key_at (by omega)]
    cases hy : ys.getD i vi0 with
    | ab n =>
      rw [hy] at h
      rcases List.mem_append.1 h with h | h
      · exact List.mem_append.2 (.inl (nxt_keys ys i (by omega) x h))
      · rw [List.mem_singleton.1 h]; simp [viK]
    | al n v =>
      rw [hy] at h
      rcases List.mem_append.1 h with h | h
      · exact List.mem_append.2 (.inl (nxt_keys ys i (by omega) x h))
      · rw [List.mem_singleton.1 h]; simp [viK]
    | va n v =>
      rw [hy] at h
      exact List.mem_append.2 (.inl (nxt_keys ys i (by omega) x h))
theorem key_new {ys : List VI} (ho : ordB ys = true) {i : Nat} (hi : i < ys.length) : viK (ys.getD i vi0) ∉ (ys.take i).map viK:=by
  have hst:=stepOf ho hi
  simp only [stepB,Bool.and_eq_true,Bool.not_eq_true',decide_eq_false_iff_not] at hst
  exact hst.2
theorem look_ab {ys : List VI} (ho : ordB ys = true) {n : List UInt8} : ∀ i,i ≤ ys.length → VI.ab n ∈ ys.take i → lookB ([],n) (nxtL (ys.take i)) = some (.nm [] n)
  | 0,_,h=>by simp at h
  | i + 1,hi,h=>by
    rw [nxtL_snoc ys (by omega)]
    rw [take_snocV (by omega)] at h
    rcases List.mem_append.1 h with h | h
    · have ih:=look_ab ho i (by omega) h
      cases ys.getD i vi0 with
      | ab m=>rw [nxtM,lookB_app,ih]; rfl
      | al m v=>rw [nxtM,lookB_app,ih]; rfl
      | va m v=>exact ih
    · have h:=(List.mem_singleton.1 h).symm
      have hk:=key_new ho (show i < ys.length by omega)
      rw [h] at hk ⊢
      rw [nxtM,lookB_app]
      have : lookB ([],n) (nxtL (ys.take i)) = none:=lookB_none fun x hx e=>by
        have:=nxt_keys ys i (by omega) x hx
        rw [e] at this
        exact hk this
      rw [this]
      simp [lookB]
theorem sub_self {s : List SigI} {zs : List VI} (h : RdN s (some zs)) {i : Nat} (hi : i < zs.length) : subI (nxtL (zs.take i)) (zs.getD i vi0) = zs.getD i vi0:=by
  have ho:=rdN_ordB h
  have hok:=zs_okA h i hi
  have hl : ∀ q,okA (zs.take i) q = true → lookB q (nxtL (zs.take i)) = none ∨ lookB q (nxtL (zs.take i)) = some (.nm q.1 q.2):=fun q hq=>by
    obtain ⟨m,n⟩:=q
    by_cases hm : m = []
    · subst hm
      simp only [okA,decide_true,Bool.not_true,Bool.false_or] at hq
      exact .inr (look_ab ho i (by omega) (any_mem hq))
    · exact .inl (look_mod (nxt_mod zs i (by omega)) hm)
  cases hy : zs.getD i vi0 with
  | ab n=>rfl
  | al n v=>rw [hy] at hok; simp only [subI]; rw [subV_id hl hok]
  | va n v=>rw [hy] at hok; simp only [subI]; rw [subV_id hl hok]
theorem mt_self {a b : List SigI} {zs : List VI} (ha : RdN a (some zs)) (hb : RdN b (some zs)) : MtIs a b 0 (0,false) :=
  .inl ⟨zs,zs,ha,hb,by rw [offC_self (rdN_ordB ha)]; rfl,by rw [offC_self (rdN_ordB ha)]; rfl⟩
end Go.Proofs.YtejbjgmgdbcddaaGreatDoor
/- What a strengthened signature matches, as data. -/
set_option linter.unusedVariables false
set_option linter.unusedSimpArgs false
namespace Go.Proofs.YtejbjgmgdbcddaaGreatDoor
open Go.Abs
theorem offC_iff {hs ws : List VI} : offC hs [] ws 0 = none ↔ ∀ k,k < ws.length → visC hs (knownB hs (ws.take k)) (ws.getD k vi0) = 0:=by
  constructor
  · intro h k
    induction k using Nat.strongRecOn with
    | _ k ih =>
      intro hk
      have h2:=offC_from hs ws _ k rfl (by omega) fun j hj=>ih j hj (by omega)
      rw [h,vi_drop hk,offC] at h2
      by_cases hc : visC hs (knownB hs (ws.take k)) (ws.getD k vi0) = 0
      · exact hc
      · rw [if_neg hc] at h2; cases h2
  · intro h
    rw [offC_from hs ws _ ws.length rfl (Nat.le_refl _) fun k hk=>h k hk,List.drop_length,offC]
end Go.Proofs.YtejbjgmgdbcddaaGreatDoor
/- Matching is transitive, as data. -/
set_option linter.unusedVariables false
set_option linter.unusedSimpArgs false
namespace Go.Proofs.YtejbjgmgdbcddaaGreatDoor
open Go.Abs
theorem mt_zero {a b : List SigI} {p : Nat × Bool} (h : MtIs a b 0 p) : ∃ hs ws,RdN a (some hs) ∧ RdN b (some ws) ∧ offC hs [] ws 0 = none:=by
  rcases h with ⟨hs,ws,h1,h2,h3,h4⟩ | ⟨_,_,h3⟩
  · refine ⟨hs,ws,h1,h2,?_⟩
    cases hq : offC hs [] ws 0 with
    | none=>rfl
    | some x =>
      have:=offC_code hs ws [] 0 x hq
      rw [hq] at h3
      simp only [mcO] at h3
      omega
  · exfalso; revert h3; split <;> omega
theorem vis_all {hs ws : List VI} (ho : ordB ws = true) (h : offC hs [] ws 0 = none) {i : Nat} (hi : i < ws.length) : visC hs (knownB hs ws) (ws.getD i vi0) = 0:=by
  rw [visC_all ho hi]; exact offC_iff.1 h i hi
theorem look_known {hs : List VI} {n : List UInt8} {f : VT} (hf : findF hs (false,n) = some f) : ∀ {l : List VI},VI.ab n ∈ l → lookB ([],n) (knownB hs l) = some f
  | [],h=>by simp at h
  | .ab k :: l,h=>by
    simp only [knownB]
    by_cases e : k = n
    · subst e
      rw [hf]; simp [lookB]
    · have h2 : VI.ab n ∈ l:=by
        rcases List.mem_cons.1 h with h | h
        · cases h; exact absurd rfl e
        · exact h
      have ih:=look_known hf h2
      cases hk : findF hs (false,k) with
      | none=>exact ih
      | some g =>
        simp only [lookB]
        rw [if_neg (by simp; exact fun h=>e h.symm)]
        exact ih
  | .al _ _ :: l,h=>look_known hf (l:=l) (by simpa using h)
  | .va _ _ :: l,h=>look_known hf (l:=l) (by simpa using h)
theorem vis_al {hs : List VI} {m : List (BNm × VT)} {y : VI} {f : VT} (hf : findF hs (viK y) = some f) (h : visC hs m y = 0) : (∃ n,y = .ab n) ∨ subV m (meanI y) = f:=by
  cases y with
  | ab n=>exact .inl ⟨n,rfl⟩
  | al n v =>
    right
    unfold visC at h
    rw [hf] at h
    by_cases h1 : subV m v = f
    · exact h1
    · simp only [if_neg h1] at h; revert h; split <;> simp
  | va n v =>
    right
    unfold visC at h
    rw [hf] at h
    by_cases h1 : subV m v = f
    · exact h1
    · simp only [if_neg h1] at h; revert h; split <;> simp
theorem vis_found {hs : List VI} {m : List (BNm × VT)} {y : VI} (h : visC hs m y = 0) : ∃ f,findF hs (viK y) = some f:=by
  cases hf : findF hs (viK y) with
  | some f=>exact ⟨f,rfl⟩
  | none=>unfold visC at h; rw [hf] at h; cases h
theorem find_far {hs ws : List VI} (ho : ordB ws = true) (h : offC hs [] ws 0 = none) {q : Ky} {g : VT} (hg : findF ws q = some g) : findF hs q = some (subV (knownB hs ws) g):=by
  obtain ⟨i,hi,rfl,rfl⟩:=findF_some hg
  have hv:=vis_all ho h hi
  obtain ⟨f,hf⟩:=vis_found hv
  rcases vis_al hf hv with ⟨n,hn⟩ | h1
  · rw [hn] at hf ⊢
    have hm : VI.ab n ∈ ws:=by rw [← hn]; simp [List.getD,hi]
    have hl:=look_known hf hm
    show findF hs (false,n) = _
    rw [meanI,subV,hl]
    exact hf
  · rw [hf,h1]
theorem offC_trans {hs ws us : List VI} (hw : ordB ws = true) (hu : ordB us = true) (hok : ∀ i,i < us.length → allI (okA (us.take i)) (us.getD i vi0) = true) (h1 : offC hs [] ws 0 = none) (h2 : offC ws [] us 0 = none) : offC hs [] us 0 = none:=by
  have hkn : ∀ l : List VI,(∀ y ∈ l,∃ g,findF ws (viK y) = some g) → knownB hs l = (knownB ws l).map fun x=>(x.1,subV (knownB hs ws) x.2):=by
    intro l
    induction l with
    | nil=>intro _; rfl
    | cons y l ih =>
      intro hl
      have ih:=ih fun z hz=>hl z (by simp [hz])
      obtain ⟨g,hg⟩:=hl y (by simp)
      cases y with
      | ab n =>
        have hg : findF ws (false,n) = some g:=hg
        simp only [knownB,hg,find_far hw h1 hg,ih,List.map_cons]
      | al n v=>simpa only [knownB] using ih
      | va n v=>simpa only [knownB] using ih
  have hfound : ∀ y ∈ us,∃ g,findF ws (viK y) = some g:=fun y hy=>by
    obtain ⟨i,hi,he⟩:=List.mem_iff_getElem.1 hy
    have e : us.getD i vi0 = y:=by rw [← he]; simp [List.getD,hi]
    rw [← e]; exact vis_found (vis_all hu h2 hi)
  rw [offC_iff]
  intro i hi
  rw [← visC_all hu hi,hkn us hfound]
  have hv:=vis_all hu h2 hi
  obtain ⟨g,hg⟩:=vis_found hv
  have hf:=find_far hw h1 hg
  have hoki:=hok i hi
  have hsub : ∀ p,okA (us.take i) p = true → lookB p (knownB ws us) ≠ none ∨ lookB p (knownB hs ws) = none:=fun p hp=>by
    obtain ⟨m,n⟩:=p
    by_cases hm : m = []
    · subst hm
      simp only [okA,decide_true,Bool.not_true,Bool.false_or] at hp
      have hmem : VI.ab n ∈ us:=List.mem_of_mem_take (any_mem hp)
      obtain ⟨g',hg'⟩:=hfound _ hmem
      left
      rw [look_known (n:=n) hg' hmem]; simp
    · exact .inr (look_mod (fun x hx=>(knownB_names hs _ x hx).1) hm)
  rcases vis_al hg hv with ⟨n,hn⟩ | h3
  · rw [hn] at hf ⊢
    unfold visC
    rw [hf]
  · unfold visC
    rw [hf]
    cases hy : us.getD i vi0 with
    | ab n=>rfl
    | al n v =>
      rw [hy] at hoki h3
      simp only [meanI] at h3
      simp only [sub_sub hsub hoki,h3,if_true]
    | va n v =>
      rw [hy] at hoki h3
      simp only [meanI] at h3
      simp only [sub_sub hsub hoki,h3,if_true]
theorem mt_trans {a b c : List SigI} {p q : Nat × Bool} (h1 : MtIs a b 0 p) (h2 : MtIs b c 0 q) : ∃ r,MtIs a c 0 r:=by
  obtain ⟨hs,ws,a1,a2,a3⟩:=mt_zero h1
  obtain ⟨ws',us,b1,b2,b3⟩:=mt_zero h2
  cases rdN_oo a2 b1
  have h:=offC_trans (rdN_ordB a2) (rdN_ordB b2) (zs_okA b2) a3 b3
  exact ⟨_,.inl ⟨hs,us,a1,b2,by rw [h]; rfl,rfl⟩⟩
end Go.Proofs.YtejbjgmgdbcddaaGreatDoor
/- An abstract type and a value less, by the model. -/
set_option linter.unusedVariables false
set_option linter.unusedSimpArgs false
namespace Go.Proofs.YtejbjgmgdbcddaaGreatDoor
open Go.Abs
def isAT (nm : List UInt8) (x : SigI) : Bool:=isTB x && decide (x.name = nm)
def abL (nm : List UInt8) : List SigI → Option (List SigI)
  | []=>none
  | x :: l=>if isAT nm x = true then some (⟨1,nm,ty0⟩ :: l) else (abL nm l).map (x :: ·)
noncomputable def abT (s : List SigI) (nm : List UInt8) : Option (List SigI):=if sigB s = true then abL nm s else none
theorem abL_from (nm : List UInt8) (s : List SigI) : ∀ i,i ≤ s.length → (∀ k,k < i → isAT nm (s.getD k si0) = false) → abL nm s = (abL nm (s.drop i)).map (s.take i ++ ·)
  | 0,_,_=>by simp
  | i + 1,h,hk=>by
    rw [abL_from nm s i (by omega) fun k h=>hk k (by omega),mix_drop (show i < s.length by omega),abL,if_neg (by rw [hk i (by omega)]; simp),Option.map_map,si_take (show i < s.length by omega)]
    congr 1
    funext x
    simp
theorem abL_at {nm : List UInt8} {s : List SigI} {i : Nat} (hi : i < s.length) (hk : ∀ k,k < i → isAT nm (s.getD k si0) = false) (h : isAT nm (s.getD i si0) = true) : abL nm s = some (s.set i ⟨1,nm,ty0⟩):=by
  rw [abL_from nm s i (by omega) hk,mix_drop hi,abL,if_pos h]
  simp [List.set_eq_take_append_cons_drop,hi]
set_option maxRecDepth 100000 in
set_option maxHeartbeats 4000000 in
theorem spec_AbstractType (s : List SigI) (hs : s.length ≤ 1048576) (ho : ∀ x ∈ s,x.Ok ∧ sz x.typ ≤ 1048576) (nm : List UInt8) (A : List Box) :
    ACalls Tryz.prog 8 [.slice (sEs s),.str nm] A (fun r A'=>r = .tuple [.slice (sEs ((abT s nm).getD [])),.bool (abT s nm).isSome] ∧ A' = A):=by
  refine acalls_enter (cf:=cf 41 [0,1,4,5,6,7,10,17,33]) foll Tryz.func8 Tryz.ntmps8 (by simp [cf]) ?_
  simp only [Tryz.f8,EnterK_some,zW,zX,zD,builtinA,isLeaf,const1,ustrA,simprocAttr,ti3,ti9,ti23,ti41,ca24,ca25,ca26,cf,Tryz.results8]
  refine callO_intro (spec_SigValid s hs ho _) ?_
  rintro r A' ⟨rfl,hA⟩
  have hA:=hA.symm
  subst hA
  cases hb : sigB s with
  | false =>
    have e : abT s nm = none:=by rw [abT,if_neg (by rw [hb]; simp)]
    rw [e]
    simp only [zW,zX,zD,builtinA,isLeaf,const1,ustrA,simprocAttr,ti3,ti9,ti23,ti41,ca24,ca25,ca26,cf,Tryz.results8]
    rfl
  | true =>
    have e : abT s nm = abL nm s:=by rw [abT,if_pos hb]
    rw [e]
    simp only [zW,zX,zD,builtinA,isLeaf,const1,ustrA,simprocAttr,ti3,ti9,ti23,ti41,ca24,ca25,ca26,cf,Tryz.results8]
    refine callO_intro (spec_l2Copy s hs (fun x hx=>(ho x hx).2) _) ?_
    rintro r A' ⟨B,j,rfl,rfl,hj,hg⟩
    have hlen:=sEs_length s
    simp only [zW,zX,zD,builtinA,isLeaf,const1,ustrA,simprocAttr,ti3,ti9,ti23,ti41,ca24,ca25,ca26,cf,Tryz.results8]
    refine aloop_intro [1,6,7] (fun e A'=>∃ i,i ≤ s.length ∧ (∀ k,k < i → isAT nm (s.getD k si0) = false) ∧ e = [(1,.str nm),(6,.own (A.length + j)),(7,.int .i64 i)] ∧ A' = A ++ B) (fun e _=>s.length - (intOf (Abs.look 7 e)).toNat) ?_ ?_
    · simp only [zW,zX,zD,builtinA,isLeaf,const1,ustrA,simprocAttr,ti3,ti9,ti23,ti41,ca24,ca25,ca26,cf,Tryz.results8]
      exact ⟨0,by omega,fun k hk=>by omega,rfl⟩
    · rintro e A' ⟨i,hi,hk,rfl,rfl⟩
      simp only [zW,zX,zD,builtinA,isLeaf,const1,ustrA,simprocAttr,ti3,ti9,ti23,ti41,ca24,ca25,ca26,cf,Tryz.results8,hg,hj,hlen]
      refine condK_intro (fun h2=>?_) (fun h2=>?_)
      · have hi2 : i < s.length:=by simpa using h2
        have hi1 : IntKind.i64.wrap ((i : Int) + 1) = ((i + 1 : Nat) : Int):=by rw [wrap64 (by omega) (by omega)]; rfl
        have pi : (0 : Int) ≤ (i : Int) ∧ (i : Int) < (s.length : Int):=⟨by omega,by omega⟩
        have he:=sEs_getD hi2
        have hset:=sEs_set s i ⟨1,nm,ty0⟩
        have hat:=abL_at hi2 hk
        have hty:=fun A=>spec_l2IsType (s.getD i si0) A
        have hia : isAT nm (s.getD i si0) = (isTB (s.getD i si0) && decide ((s.getD i si0).name = nm)):=rfl
        generalize hxx : s.getD i si0 = x at *
        obtain ⟨k,n,t⟩:=x
        simp only [sE] at he hty
        have hsE : sE ⟨1,nm,ty0⟩ = [.int .i64 1,.str nm,.int .i64 0,.str [],.str [],.slice []]:=rfl
        rw [hsE] at hset
        simp only [zW,zX,zD,builtinA,isLeaf,const1,ustrA,simprocAttr,ti3,ti9,ti23,ti41,ca24,ca25,ca26,cf,Tryz.results8,he,hg,hj,hlen,enc_length]
        refine ⟨pi,?_⟩
        refine callK_intro (by simp only [zW,zX,zD,builtinA,isLeaf,const1,ustrA,simprocAttr,enc_length,enc_take,sb_drop,frzL_enc,sb_closed,Option.map_some]; rfl) (hty _) ?_ rfl; rintro v A' ⟨rfl,rfl⟩
        cases hT : isTB ⟨k,n,t⟩ with
        | false =>
          rw [hT] at hia
          simp only [zW,zX,zD,builtinA,isLeaf,const1,ustrA,simprocAttr,ti3,ti9,ti23,ti41,ca24,ca25,ca26,cf,Tryz.results8,hi1,LoopK_eq]
          refine ⟨⟨i + 1,by omega,fun k' hk'=>?_,rfl⟩,?_⟩
          · rcases Nat.lt_succ_iff_lt_or_eq.mp hk' with h1 | rfl
            · exact hk k' h1
            · rw [hxx,hia]; rfl
          · simp only [intOf]; omega
        | true =>
          rw [hT] at hia
          by_cases hn : n = nm
          · have hia2:=hat (by rw [hia]; simp [hn])
            rw [hia2]
            simp only [zW,zX,zD,builtinA,isLeaf,const1,ustrA,simprocAttr,ti3,ti9,ti23,ti41,ca24,ca25,ca26,cf,Tryz.results8,hn,he,hg,hj,hlen,enc_length,hset]
            refine ⟨pi,pi,⟨by omega,by omega,fun v hv=>sE_leaf ⟨1,nm,ty0⟩ v hv⟩,?_⟩
            rw [show List.drop 4 (enc t) = [] from List.drop_eq_nil_of_le (by rw [enc_length]; exact Nat.le_refl _),hset]
          · simp only [zW,zX,zD,builtinA,isLeaf,const1,ustrA,simprocAttr,ti3,ti9,ti23,ti41,ca24,ca25,ca26,cf,Tryz.results8,he,hg,hj,hlen,enc_length,decide_eq_false hn,hi1,LoopK_eq]
            refine ⟨pi,⟨i + 1,by omega,fun k' hk'=>?_,rfl⟩,?_⟩
            · rcases Nat.lt_succ_iff_lt_or_eq.mp hk' with h1 | rfl
              · exact hk k' h1
              · rw [hxx,hia]; simp [hn]
            · simp only [intOf]; omega
      · have hi2 : i = s.length:=by simp at h2; omega
        subst hi2
        have hn : abL nm s = none:=by rw [abL_from nm s s.length (Nat.le_refl _) hk,List.drop_length,abL]; rfl
        rw [hn]
        simp only [zW,zX,zD,builtinA,isLeaf,const1,ustrA,simprocAttr,ti3,ti9,ti23,ti41,ca24,ca25,ca26,cf,Tryz.results8]
        rfl
def isDr (nm : List UInt8) (x : SigI) : Bool:=decide (x.kind ≠ 3) || decide (x.name ≠ nm)
noncomputable def drT (s : List SigI) (nm : List UInt8) : Option (List SigI):=if sigB s = true ∧ (s.filter (isDr nm)).length ≠ s.length then some (s.filter (isDr nm)) else none
set_option maxRecDepth 100000 in
set_option maxHeartbeats 4000000 in
theorem spec_DropVal (s : List SigI) (hs : s.length ≤ 1048576) (ho : ∀ x ∈ s,x.Ok ∧ sz x.typ ≤ 1048576) (nm : List UInt8) (A : List Box) :
    ACalls Tryz.prog 15 [.slice (sEs s),.str nm] A (fun r A'=>r = .tuple [.slice (sEs ((drT s nm).getD [])),.bool (drT s nm).isSome] ∧ A' = A):=by
  refine acalls_enter (cf:=cf 49 [0,1,4,5,6,7,10,16,33,45]) foll Tryz.func15 Tryz.ntmps15 (by simp [cf]) ?_
  simp only [Tryz.f15,EnterK_some,zW,zX,zD,builtinA,isLeaf,const1,ustrA,simprocAttr,ti3,ti9,ti23,ti41,ca24,ca25,cf,Tryz.results15]
  refine callO_intro (spec_SigValid s hs ho _) ?_
  rintro r A' ⟨rfl,hA⟩
  have hA:=hA.symm
  subst hA
  cases hb : sigB s with
  | false =>
    have e : drT s nm = none:=by rw [drT,if_neg (by rw [hb]; simp)]
    rw [e]
    simp only [zW,zX,zD,builtinA,isLeaf,const1,ustrA,simprocAttr,ti3,ti9,ti23,ti41,ca24,ca25,cf,Tryz.results15]
    rfl
  | true =>
    have hlen:=sEs_length s
    simp only [zW,zX,zD,builtinA,isLeaf,const1,ustrA,simprocAttr,ti3,ti9,ti23,ti41,ca24,ca25,cf,Tryz.results15]
    refine aloop_intro [0,1,6,7] (fun e A'=>∃ i j B,i ≤ s.length ∧ e = [(0,.slice (sEs s)),(1,.str nm),(6,.own (A.length + j)),(7,.int .i64 i)] ∧ A' = A ++ B ∧ j < B.length ∧ B.getD j .dead = .row 6 (sEs ((s.take i).filter (isDr nm))) 0) (fun e _=>s.length - (intOf (Abs.look 7 e)).toNat) ?_ ?_
    · simp only [zW,zX,zD,builtinA,isLeaf,const1,ustrA,simprocAttr,ti3,ti9,ti23,ti41,ca24,ca25,cf,Tryz.results15]
      exact ⟨0,0,[.row 6 [] 0],by omega,rfl,rfl,by simp,rfl⟩
    · rintro e A' ⟨i,j,B,hi,rfl,rfl,hj,hg⟩
      simp only [zW,zX,zD,builtinA,isLeaf,const1,ustrA,simprocAttr,ti3,ti9,ti23,ti41,ca24,ca25,cf,Tryz.results15,hlen]
      refine condK_intro (fun h2=>?_) (fun h2=>?_)
      · have hi2 : i < s.length:=by simpa using h2
        have hi1 : IntKind.i64.wrap ((i : Int) + 1) = ((i + 1 : Nat) : Int):=by rw [wrap64 (by omega) (by omega)]; rfl
        have pi : (0 : Int) ≤ (i : Int) ∧ (i : Int) < (s.length : Int):=⟨by omega,by omega⟩
        have he:=sEs_getD hi2
        have htk:=si_take hi2
        have hlf:=sE_leaf (s.getD i si0)
        have hl9 : ((s.take i).filter (isDr nm)).length ≤ i:=Nat.le_trans (List.length_filter_le _ _) (by simp; omega)
        generalize hxx : s.getD i si0 = x at *
        have hgX : ∀ Y,(B ++ Y).getD j .dead = .row 6 (sEs ((s.take i).filter (isDr nm))) 0:=fun Y=>by rw [Abs.getD_append_left hj]; exact hg
        have hsX : ∀ Y : List Box,(B ++ Y).set j .dead = B.set j .dead ++ Y:=fun Y=>by rw [List.set_append_left _ _ hj]
        have hjX : ∀ n,j < B.length + n:=fun n=>by omega
        have hE : sE x = .int .i64 x.kind :: .str x.name :: enc x.typ:=rfl
        have hrs : sEs ((s.take i).filter (isDr nm)) ++ [.int .i64 x.kind :: .str x.name :: enc x.typ] = sEs ((s.take i).filter (isDr nm) ++ [x]):=by rw [← hE]; simp [sEs]
        have key : isDr nm x = true → (s.take (i + 1)).filter (isDr nm) = (s.take i).filter (isDr nm) ++ [x]:=fun h=>by rw [htk,List.filter_append]; simp [h]
        have keyn : isDr nm x = false → (s.take (i + 1)).filter (isDr nm) = (s.take i).filter (isDr nm):=fun h=>by rw [htk,List.filter_append]; simp [h]
        simp only [sE] at he
        by_cases h3 : x.kind = 3
        · by_cases h4 : x.name = nm
          · have e1 : isDr nm x = false:=by simp [isDr,h3,h4]
            simp only [zW,zX,zD,builtinA,isLeaf,const1,ustrA,simprocAttr,ti3,ti9,ti23,ti41,ca24,ca25,cf,Tryz.results15,he,hlen,enc_length,decide_eq_true h3,decide_eq_true h4,Bool.not_true,hi1,LoopK_eq]
            refine ⟨pi,pi,⟨i + 1,j,B,by omega,rfl,rfl,hj,by rw [keyn e1]; exact hg⟩,?_⟩
            simp only [intOf]; omega
          · have e1 : isDr nm x = true:=by simp [isDr,h4]
            simp only [zW,zX,zD,builtinA,isLeaf,const1,ustrA,simprocAttr,ti3,ti9,ti23,ti41,ca24,ca25,cf,Tryz.results15,he,hlen,enc_length,enc_take,sb_drop,frzL_enc,sb_closed,Option.map_some,decide_eq_true h3,decide_eq_false h4,Bool.not_true,Bool.not_false,hg,hgX,hsX,hj,hjX,hi1,LoopK_eq,hrs]
            refine ⟨pi,pi,pi,fun v hv=>hlf v hv,⟨fun r hr=>by rw [List.mem_singleton.1 hr]; simp [enc_length],by rw [sEs_length]; omega⟩,⟨i + 1,B.length + 1,_,by omega,rfl,rfl,by simp,?_⟩,?_⟩
            · rw [Abs.getD_append_right (by simp),key e1]; simp
            · simp only [intOf]; omega
        · have e1 : isDr nm x = true:=by simp [isDr,h3]
          simp only [zW,zX,zD,builtinA,isLeaf,const1,ustrA,simprocAttr,ti3,ti9,ti23,ti41,ca24,ca25,cf,Tryz.results15,he,hlen,enc_length,enc_take,sb_drop,frzL_enc,sb_closed,Option.map_some,decide_eq_false h3,Bool.not_false,hg,hgX,hsX,hj,hjX,hi1,LoopK_eq,hrs]
          refine ⟨pi,pi,fun v hv=>hlf v hv,⟨fun r hr=>by rw [List.mem_singleton.1 hr]; simp [enc_length],by rw [sEs_length]; omega⟩,⟨i + 1,B.length + 1,_,by omega,rfl,rfl,by simp,?_⟩,?_⟩
          · rw [Abs.getD_append_right (by simp),key e1]; simp
          · simp only [intOf]; omega
      · have hi2 : i = s.length:=by simp at h2; omega
        subst hi2
        rw [List.take_length] at hg
        by_cases hq : (s.filter (isDr nm)).length = s.length
        · have e : drT s nm = none:=by rw [drT,if_neg (by simp [hq])]
          rw [e]
          simp only [zW,zX,zD,builtinA,isLeaf,const1,ustrA,simprocAttr,ti3,ti9,ti23,ti41,ca24,ca25,cf,Tryz.results15,hg,hj,hlen,sEs_length,hq,decide_eq_true rfl]
          rfl
        · have e : drT s nm = some (s.filter (isDr nm)):=by rw [drT,if_pos ⟨hb,hq⟩]
          have hqi : decide (((s.filter (isDr nm)).length : Int) = (s.length : Int)) = false:=decide_eq_false (by omega)
          rw [e]
          have g1 : (A ++ B).getD (A.length + j) .dead = .row 6 (sEs (s.filter (isDr nm))) 0:=by rw [Abs.getD_append_right (by omega),show A.length + j - A.length = j by omega]; exact hg
          have g2 : ∀ X : Box,(A ++ B).set (A.length + j) X = A ++ B.set j X:=fun X=>by simp [List.set_append]
          have hfz : frzs [.own (A.length + j)] (A ++ B) = some ([.slice (sEs (s.filter (isDr nm)))],A ++ B.set j (.row 6 (sEs (s.filter (isDr nm))) (sEs (s.filter (isDr nm))).length)):=by simp only [frzs,frzC,frz1,g1,g2]
          have hfl : (s.filter (isDr nm)).length ≤ 1048576:=Nat.le_trans (List.length_filter_le _ _) hs
          simp only [zW,zX,zD,builtinA,isLeaf,const1,ustrA,simprocAttr,ti3,ti9,ti23,ti41,ca24,ca25,cf,Tryz.results15,hg,hj,hlen,sEs_length,hqi]
          refine callK_intro hfz (spec_l2Copy (s.filter (isDr nm)) hfl (fun x hx=>(ho x (List.mem_filter.1 hx).1).2) _) ?_ rfl
          rintro r A' ⟨C,k,rfl,rfl,hk,hgk⟩
          have hgk2 : ∀ X : Box,(B.set j X ++ C).getD (B.length + k) .dead = .row 6 (sEs (s.filter (isDr nm))) 0:=fun X=>by rw [Abs.getD_append_right (by simp),List.length_set,show B.length + k - B.length = k by omega]; exact hgk
          simp only [zW,zX,zD,builtinA,isLeaf,const1,ustrA,simprocAttr,ti3,ti9,ti23,ti41,ca24,ca25,cf,Tryz.results15,hgk2,hk,Nat.add_assoc]
end Go.Proofs.YtejbjgmgdbcddaaGreatDoor
/- What becomes of a signature without an item, or with an item made abstract: data. -/
set_option linter.unusedVariables false
set_option linter.unusedSimpArgs false
namespace Go.Proofs.YtejbjgmgdbcddaaGreatDoor
open Go.Abs
theorem ord_ne {ys : List VI} (h : ordB ys = true) {i k : Nat} (hik : i < k) (hk : k < ys.length) : viK (ys.getD i vi0) ≠ viK (ys.getD k vi0):=by
  unfold ordB at h
  rw [List.all_eq_true] at h
  have h1:=h k (List.mem_range.mpr hk)
  simp only [stepB,Bool.and_eq_true,Bool.not_eq_true',decide_eq_false_iff_not] at h1
  intro e
  refine h1.2 ?_
  rw [← e]
  refine List.mem_map.2 ⟨ys.getD i vi0,?_,rfl⟩
  have : ys.getD i vi0 = (ys.take k)[i]'(by simp; omega):=by simp [List.getD,show i < ys.length by omega]
  rw [this]
  exact List.getElem_mem _
def dropI (ys : List VI) (i : Nat) : List VI:=ys.take i ++ ys.drop (i + 1)
def noK (q : Ky) (y : VI) : Bool:=!decide (viK y = q)
theorem vi_split {ys : List VI} {i : Nat} (hi : i < ys.length) : ys = ys.take i ++ ys.getD i vi0 :: ys.drop (i + 1):=by
  have e : ys.getD i vi0 = ys[i]:=by simp [List.getD,hi]
  rw [e,List.getElem_cons_drop hi,List.take_append_drop]
theorem filt_key {ys : List VI} (h : ordB ys = true) {i : Nat} (hi : i < ys.length) {q : Ky} (hq : viK (ys.getD i vi0) = q) : ys.filter (noK q) = dropI ys i:=by
  have e1 : (ys.take i).filter (noK q) = ys.take i:=by
    rw [List.filter_eq_self]
    intro y hy
    obtain ⟨k,hk,rfl⟩:=List.getElem_of_mem hy
    have hk2 : k < i:=by simp at hk; omega
    have hne:=ord_ne h hk2 hi
    have e : (ys.take i)[k] = ys.getD k vi0:=by simp [List.getD,show k < ys.length by omega]
    rw [e]
    simp only [noK,Bool.not_eq_true',decide_eq_false_iff_not]
    rw [← hq]; exact hne
  have e2 : (ys.drop (i + 1)).filter (noK q) = ys.drop (i + 1):=by
    rw [List.filter_eq_self]
    intro y hy
    obtain ⟨k,hk,rfl⟩:=List.getElem_of_mem hy
    have hk2 : i + 1 + k < ys.length:=by simp at hk; omega
    have hne:=ord_ne h (show i < i + 1 + k by omega) hk2
    have e : (ys.drop (i + 1))[k] = ys.getD (i + 1 + k) vi0:=by simp [List.getD,hk2]
    rw [e]
    simp only [noK,Bool.not_eq_true',decide_eq_false_iff_not]
    rw [← hq]; exact fun e=>hne e.symm
  conv=>lhs; rw [vi_split hi]
  rw [List.filter_append,List.filter_cons,e1,e2,if_neg (by rw [noK,hq]; simp)]
  rfl
theorem filt_none {ys : List VI} {q : Ky} (h : ∀ i,i < ys.length → viK (ys.getD i vi0) ≠ q) : ys.filter (noK q) = ys:=by
  rw [List.filter_eq_self]
  intro y hy
  obtain ⟨k,hk,rfl⟩:=List.getElem_of_mem hy
  have:=h k hk
  simp only [noK,Bool.not_eq_true',decide_eq_false_iff_not]
  simpa [List.getD,hk] using this
theorem isDr_si (nm : List UInt8) (y : VI) : isDr nm (siOf y) = noK (true,nm) y:=by
  rw [Bool.eq_iff_iff]
  cases y <;> simp only [isDr,siOf,noK,viK,Bool.or_eq_true,decide_eq_true_eq,Bool.not_eq_true',decide_eq_false_iff_not,Prod.mk.injEq,ne_eq] <;> simp <;> exact decide_eq_true_iff
theorem isAT_si (nm : List UInt8) (y : VI) : isAT nm (siOf y) = decide (viK y = (false,nm)):=by
  rw [Bool.eq_iff_iff]
  cases y <;> simp only [isAT,siOf,isTB,viK,Bool.and_eq_true,Bool.or_eq_true,decide_eq_true_eq,Prod.mk.injEq] <;> simp <;> exact decide_eq_true_iff
theorem reads_si {s : List SigI} {ys : List VI} (h : ReadsTo s ys) : s = ys.map siOf:=by
  refine List.ext_getElem (by simp [h.1]) fun i h1 h2=>?_
  have:=itemOf_si (h.2 i h1).2
  simpa [List.getD,h1,show i < ys.length by rw [h.1]; exact h1] using this
theorem filt_si (nm : List UInt8) (ys : List VI) : (ys.map siOf).filter (isDr nm) = (ys.filter (noK (true,nm))).map siOf:=by
  rw [List.filter_map]
  congr 1
  refine List.filter_congr fun y _=>?_
  exact isDr_si nm y
theorem dropI_len {ys : List VI} {i : Nat} (hi : i < ys.length) : (dropI ys i).length + 1 = ys.length:=by
  simp only [dropI,List.length_append,List.length_take,List.length_drop]; omega
theorem drT_some {s : List SigI} {ys : List VI} (h8 : s.length ≤ 8) (hr : ReadsTo s ys) (ho : ordB ys = true) {nm : List UInt8} {i : Nat} (hi : i < ys.length) (hq : viK (ys.getD i vi0) = (true,nm)) : drT s nm = some ((dropI ys i).map siOf):=by
  have e : s.filter (isDr nm) = (dropI ys i).map siOf:=by rw [reads_si hr,filt_si,filt_key ho hi hq]
  have hl : (s.filter (isDr nm)).length ≠ s.length:=by
    rw [e,List.length_map]; have:=dropI_len hi; have:=hr.1; omega
  rw [drT,if_pos ⟨by rw [sigB_reads h8 hr]; exact ho,hl⟩,e]
theorem drT_none {s : List SigI} {ys : List VI} (hr : ReadsTo s ys) {nm : List UInt8} (h : ∀ i,i < ys.length → viK (ys.getD i vi0) ≠ (true,nm)) : drT s nm = none:=by
  have e : s.filter (isDr nm) = s:=by rw [reads_si hr,filt_si,filt_none h]
  rw [drT,if_neg (by rw [e]; simp)]
theorem drT_bad {s : List SigI} {nm : List UInt8} (h : sigB s = false) : drT s nm = none:=by rw [drT,if_neg (by simp [h])]
def abI (ys : List VI) (nm : List UInt8) (i : Nat) : List VI:=ys.take i ++ .ab nm :: ys.drop (i + 1)
theorem abT_some {s : List SigI} {ys : List VI} (h8 : s.length ≤ 8) (hr : ReadsTo s ys) (ho : ordB ys = true) {nm : List UInt8} {i : Nat} (hi : i < ys.length) (hq : viK (ys.getD i vi0) = (false,nm)) : abT s nm = some ((abI ys nm i).map siOf):=by
  have hg : ∀ k,k < ys.length → s.getD k si0 = siOf (ys.getD k vi0):=fun k hk=>itemOf_si (hr.2 k (by rw [← hr.1]; exact hk)).2
  have hi' : i < s.length:=by rw [← hr.1]; exact hi
  rw [abT,if_pos (by rw [sigB_reads h8 hr]; exact ho),abL_at hi' (fun k hk=>by
    rw [hg k (by omega),isAT_si]
    exact decide_eq_false (by rw [← hq]; exact ord_ne ho hk hi)) (by rw [hg i hi,isAT_si]; exact decide_eq_true hq)]
  congr 1
  rw [List.set_eq_take_append_cons_drop,if_pos hi',abI,List.map_append,List.map_cons,List.map_take,List.map_drop,← reads_si hr]
  rfl
theorem abT_none {s : List SigI} {ys : List VI} (hr : ReadsTo s ys) {nm : List UInt8} (h : ∀ i,i < ys.length → viK (ys.getD i vi0) ≠ (false,nm)) : abT s nm = none:=by
  have e : abL nm s = none:=by
    rw [abL_from nm s s.length (Nat.le_refl _) fun k hk=>by
      rw [show s.getD k si0 = siOf (ys.getD k vi0) from itemOf_si (hr.2 k hk).2,isAT_si]
      exact decide_eq_false (h k (by rw [hr.1]; exact hk)),List.drop_length,abL]
    rfl
  rw [abT,e]; simp
theorem abT_bad {s : List SigI} {nm : List UInt8} (h : sigB s = false) : abT s nm = none:=by rw [abT,if_neg (by simp [h])]
end Go.Proofs.YtejbjgmgdbcddaaGreatDoor
