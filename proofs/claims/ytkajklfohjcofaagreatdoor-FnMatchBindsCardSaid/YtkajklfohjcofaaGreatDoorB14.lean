/- PreFacts, AbFacts, SubOutS, StrSub, MtFacts, MtBnd. -/
import Derived.Test.YtkajklfohjcofaaGreatDoorB13
import Derived.Test.YtkajklfohjcofaaGreatDoorAbsW3
/- What a name stands for in the first items of a signature. -/
set_option linter.unusedVariables false
set_option linter.unusedSimpArgs false
namespace Go.Proofs.YtkajklfohjcofaaGreatDoor
open Go.Abs
theorem szIs_bd : ∀ (l : List SigI) (b : Nat),(∀ x ∈ l,szI x ≤ b) → szIs l ≤ l.length * b
  | [],b,_=>by simp [szIs]
  | x :: l,b,h=>by
    have h1:=h x (by simp)
    have h2:=szIs_bd l b fun y hy=>h y (by simp [hy])
    simp only [szIs,List.map_cons,List.sum_cons,List.length_cons] at h2 ⊢
    rw [Nat.succ_mul]; omega
theorem smx_all {s : List SigI} (hs : s.length ≤ 9) (hm : ∀ x ∈ s,SmX x) : (∀ x ∈ s,x.Ok ∧ sz x.typ ≤ 1048576) ∧ s.length + szIs s ≤ 1048576:=by
  refine ⟨fun x hx=>(hm x hx).ok,?_⟩
  have h2:=szIs_bd s 300 fun x hx=>by
    have h3 : x.name.length ≤ 2 ∧ sz x.typ ≤ 200:=hm x hx
    rw [szI]; omega
  omega
theorem vi_sz {y : VI} (h : VOk (meanI y)) : sz (siOf y).typ ≤ 200:=by
  cases y with
  | ab n=>simp [siOf,ty0,sz,szs]
  | al n v =>
    have h1:=sz_toTyS v h.1
    have h2:=h.cnt
    simp only [meanI] at h2
    simp only [siOf]; omega
  | va n v =>
    have h1:=sz_toTyS v h.1
    have h2:=h.cnt
    simp only [meanI] at h2
    simp only [siOf]; omega
theorem str_small {s : List SigI} (hm : ∀ x ∈ s,SmX x) {mod : List UInt8} {o : Option (List VI)} (h : RdS s mod o) : (nrX o).length ≤ 8 ∧ (∀ x ∈ nrX o,x.Ok ∧ sz x.typ ≤ 1048576) ∧ (nrX o).length + szIs (nrX o) ≤ 1048576:=by
  have h1:=strX_ok (fun x hx=>(hm x hx).ok.1) h
  have key : ∀ x ∈ nrX o,x.name.length ≤ 2 ∧ sz x.typ ≤ 200:=by
    cases o with
    | none=>simp [nrX]
    | some zs =>
      obtain ⟨ys,h8,hr,hord,hmd,rfl⟩:=h
      intro x hx
      obtain ⟨y,hy,rfl⟩:=List.mem_map.1 hx
      obtain ⟨y0,hy0,rfl⟩:=List.mem_map.1 hy
      obtain ⟨i,hi,rfl⟩:=List.mem_iff_getElem.1 hy0
      have e : ys.getD i vi0 = ys[i]:=by simp [List.getD,hi]
      have h3:=str_ok hmd hr hi
      have h4:=hr.2 i (by rw [← hr.1]; exact hi)
      rw [e] at h3 h4
      refine ⟨?_,vi_sz h3⟩
      rw [siOf_name,viK_str,← siOf_name,← itemOf_si h4.2]
      exact (hm _ (si_mem (by rw [← hr.1]; exact hi))).1
  refine ⟨h1.1,fun x hx=>⟨h1.2.1 x hx,by have:=(key x hx).2; omega⟩,?_⟩
  have h2:=szIs_bd (nrX o) 300 fun x hx=>by have:=key x hx; rw [szI]; omega
  have:=h1.1
  omega
end Go.Proofs.YtkajklfohjcofaaGreatDoor
namespace Go.Proofs.YtkajklfohjcofaaGreatDoor
open Go.Abs
theorem oTyS_sz {s : List SigI} {q : Ky} {o : Option VT} (h : MeanIs s q o) : sz (oTyS o) ≤ 200:=by
  cases o with
  | none=>simp [oTyS,ty0,sz,szs]
  | some w =>
    have hw:=meanIs_vok h
    have h1:=sz_toTyS w hw.1
    have h2:=hw.cnt
    simp only [oTyS]; omega
end Go.Proofs.YtkajklfohjcofaaGreatDoor
/- Names in the type that a name stands for: those without a module are abstract, and stand for themselves. -/
set_option linter.unusedVariables false
set_option linter.unusedSimpArgs false
namespace Go.Proofs.YtkajklfohjcofaaGreatDoor
open Go.Abs
def isAb (n : List UInt8) : VI → Bool
  | .ab k=>decide (k = n)
  | _=>false
def okA (l : List VI) (p : Nm) : Bool:=!decide (p.1 = []) || l.any (isAb p.2)
theorem okA_snoc {l : List VI} {y : VI} {p : Nm} (h : okA l p = true) : okA (l ++ [y]) p = true:=by
  simp only [okA,Bool.or_eq_true,List.any_append] at h ⊢
  rcases h with h | h
  · exact .inl h
  · exact .inr (.inl h)
theorem allV_sub2 {p q : Nm → Bool} {m : List (BNm × VT)} (hm : ∀ x ∈ m,allV q x.2 = true) (hp : ∀ x,p x = true → lookB x m ≠ none ∨ q x = true) : ∀ {v : VT},allV p v = true → allV q (subV m v) = true
  | .num,_=>rfl
  | .nm a b,h=>by
    rw [subV]
    cases hl : lookB (a,b) m with
    | none =>
      rcases hp _ h with h2 | h2
      · exact absurd hl h2
      · exact h2
    | some w=>exact hm _ (lookB_in hl)
  | .fn a b,h=>by
    simp only [allV,Bool.and_eq_true] at h
    simp only [subV,allV,Bool.and_eq_true]
    exact ⟨allV_sub2 hm hp h.1,allV_sub2 hm hp h.2⟩
theorem lookB_snoc {q : BNm} {a : List (BNm × VT)} (x : BNm × VT) : lookB q a ≠ none ∨ x.1 = q → lookB q (a ++ [x]) ≠ none:=by
  induction a with
  | nil =>
    rintro (h | h)
    · exact absurd rfl h
    · obtain ⟨k,v⟩:=x
      simp only [List.nil_append,lookB]
      rw [if_pos h.symm]; simp
  | cons y a ih =>
    obtain ⟨k,v⟩:=y
    intro h
    simp only [List.cons_append,lookB] at h ⊢
    split
    · simp
    · rename_i hk
      rw [if_neg hk] at h
      exact ih h
theorem take_snocV {ys : List VI} {i : Nat} (h : i < ys.length) : ys.take (i + 1) = ys.take i ++ [ys.getD i vi0]:=by
  rw [List.take_add_one]; simp [List.getD,h]
theorem key_at {ys : List VI} {i : Nat} (h : i < ys.length) : (ys.take (i + 1)).map viK = (ys.take i).map viK ++ [viK (ys.getD i vi0)]:=by
  rw [take_snocV h,List.map_append]; rfl
theorem known_all (ys : List VI) : ∀ i,i ≤ ys.length → ∀ n,(false,n) ∈ (ys.take i).map viK → lookB ([],n) (nxtL (ys.take i)) ≠ none
  | 0,_,n,h=>by simp at h
  | i + 1,hi,n,h=>by
    have ih:=known_all ys i (by omega) n
    rw [key_at (by omega)] at h
    rw [nxtL_snoc ys (by omega)]
    generalize ys.getD i vi0 = y at *
    rcases List.mem_append.1 h with h | h
    · have:=ih h
      cases y with
      | ab k=>exact lookB_snoc _ (.inl this)
      | al k v=>exact lookB_snoc _ (.inl this)
      | va k v=>exact this
    · rw [List.mem_singleton] at h
      cases y with
      | ab k=>simp only [viK,Prod.mk.injEq,true_and] at h; subst h; exact lookB_snoc _ (.inr rfl)
      | al k v=>simp only [viK,Prod.mk.injEq,true_and] at h; subst h; exact lookB_snoc _ (.inr rfl)
      | va k v=>simp [viK] at h
theorem stepOf {ys : List VI} (ho : ordB ys = true) {i : Nat} (hi : i < ys.length) : stepB (ys.take i) (ys.getD i vi0) = true:=by
  unfold ordB at ho
  rw [List.all_eq_true] at ho
  exact ho i (List.mem_range.mpr hi)
theorem hpA {ys : List VI} {i : Nat} (hi : i ≤ ys.length) : ∀ x : Nm,okN ((ys.take i).map viK) x = true → lookB x (nxtL (ys.take i)) ≠ none ∨ okA (ys.take i) x = true:=fun x hx=>by
  obtain ⟨a,b⟩:=x
  simp only [okN,Bool.or_eq_true,Bool.not_eq_true',decide_eq_true_eq,decide_eq_false_iff_not] at hx
  rcases hx with hx | hx
  · right; simp [okA,hx]
  · by_cases ha : a = []
    · subst ha; exact .inl (known_all ys i hi b hx)
    · right; simp [okA,ha]
theorem nxtL_ab (ys : List VI) (ho : ordB ys = true) : ∀ i,i ≤ ys.length → ∀ x ∈ nxtL (ys.take i),allV (okA (ys.take i)) x.2 = true
  | 0,_=>by simp [nxtL]
  | i + 1,h=>by
    have ih:=nxtL_ab ys ho i (by omega)
    have hs:=stepOf ho (show i < ys.length by omega)
    have hpa:=hpA (ys:=ys) (i:=i) (by omega)
    rw [nxtL_snoc ys (by omega),take_snocV (show i < ys.length by omega)]
    simp only [stepB,Bool.and_eq_true] at hs
    generalize ys.getD i vi0 = y at *
    cases y with
    | ab n =>
      simp only [nxtM,List.mem_append,List.mem_singleton]
      rintro x (hx | rfl)
      · exact allV_mono (fun p hp=>okA_snoc hp) (ih x hx)
      · simp [allV,okA,isAb]
    | al n v =>
      simp only [allI] at hs
      simp only [nxtM,List.mem_append,List.mem_singleton]
      rintro x (hx | rfl)
      · exact allV_mono (fun p hp=>okA_snoc hp) (ih x hx)
      · exact allV_mono (fun p hp=>okA_snoc hp) (allV_sub2 ih hpa hs.1)
    | va n v =>
      simp only [nxtM]
      exact fun x hx=>allV_mono (fun p hp=>okA_snoc hp) (ih x hx)
end Go.Proofs.YtkajklfohjcofaaGreatDoor
/- What a substitution hands back, by its root. -/
set_option linter.unusedVariables false
set_option linter.unusedSimpArgs false
namespace Go.Proofs.YtkajklfohjcofaaGreatDoor
open Go.Abs
theorem subIs_ex (τ : Ty) (bs : List BdI) : ∃ o,SubIs τ bs o:=by
  rcases valid_cases τ with ⟨v,rfl,hv⟩ | hv
  · rcases hb : bs.all okB with _ | _
    · exact ⟨none,.inr ⟨.inr (okB_bad hb),rfl⟩⟩
    · obtain ⟨bd,rfl,hok⟩:=okB_all hb
      exact ⟨_,.inl ⟨v,bd,rfl,hv,rfl,hok,rfl⟩⟩
  · exact ⟨none,.inr ⟨.inl hv,rfl⟩⟩
def OutS (A : List Box) (k : Int) (m n : List UInt8) (ks : List Ty) (ok : Bool) (r : AV) (A' : List Box) : Prop :=
  ∃ B v S,A' = A ++ B ∧ r = .tuple [.agg [.int .i64 k,.str m,.str n,v],.bool ok] ∧ OwnK A' ks v S ∧ S.Nodup ∧ ∀ i ∈ S,A.length ≤ i ∧ i < A'.length
theorem outS_of {A A' : List Box} {o : Option VT} {r : AV} {k : Int} {m n : List UInt8} {ks : List Ty} (ho : oTyS o = .mk k m n ks) (h : SubNew A o r A') : OutS A k m n ks o.isSome r A':=by
  obtain ⟨B,cs,S,h1,h2,rfl,h3,h4,h5,h6⟩:=h
  rw [ho,ownT_mk] at h4
  obtain ⟨v,rfl,hK⟩:=h4
  exact ⟨B,v,S,h1,rfl,hK,h5,h6⟩
end Go.Proofs.YtkajklfohjcofaaGreatDoor
/- Strengthening is substitution: what a value has for a type in the strengthened signature is the type that it has before, with each abstract type replaced. -/
set_option linter.unusedVariables false
set_option linter.unusedSimpArgs false
namespace Go.Proofs.YtkajklfohjcofaaGreatDoor
open Go.Abs
theorem look_mod {q : BNm} {m : List (BNm × VT)} (hm : ∀ x ∈ m,x.1.1 = []) (hq : q.1 ≠ []) : lookB q m = none:=by
  cases h : lookB q m with
  | none=>rfl
  | some w=>exact absurd (hm _ (lookB_in h)) hq
theorem nxt_mod (ys : List VI) : ∀ i,i ≤ ys.length → ∀ x ∈ nxtL (ys.take i),x.1.1 = []
  | 0,_=>by simp [nxtL]
  | i + 1,h=>by
    have ih:=nxt_mod ys i (by omega)
    rw [nxtL_snoc ys (by omega)]
    generalize ys.getD i vi0 = y at *
    cases y with
    | ab n=>simp only [nxtM,List.mem_append,List.mem_singleton]; rintro x (hx | rfl); exact ih x hx; rfl
    | al n v=>simp only [nxtM,List.mem_append,List.mem_singleton]; rintro x (hx | rfl); exact ih x hx; rfl
    | va n v=>exact ih
end Go.Proofs.YtkajklfohjcofaaGreatDoor
/- Facts on matching, as data. -/
set_option linter.unusedVariables false
set_option linter.unusedSimpArgs false
namespace Go.Proofs.YtkajklfohjcofaaGreatDoor
open Go.Abs
theorem rdN_ordB {s : List SigI} {ws : List VI} (h : RdN s (some ws)) : ordB ws = true:=by
  obtain ⟨ys,h8,hr,hord,hn⟩:=h
  rw [(normL_fit hn).2]; exact ordB_norm hord
theorem subV_id {m : List (BNm × VT)} {p : Nm → Bool} (h : ∀ q,p q = true → lookB q m = none ∨ lookB q m = some (.nm q.1 q.2)) : ∀ {v : VT},allV p v = true → subV m v = v
  | .num,_=>rfl
  | .nm a b,hv=>by
    rw [subV]
    rcases h (a,b) hv with h1 | h1 <;> rw [h1] <;> rfl
  | .fn a b,hv=>by
    simp only [allV,Bool.and_eq_true] at hv
    rw [subV,subV_id h hv.1,subV_id h hv.2]
theorem okA_any {a b : List VI} (h : ∀ n,a.any (isAb n) = b.any (isAb n)) : okA a = okA b:=by
  funext p; simp only [okA,h]
theorem any_abs : ∀ {a b : List VI},a.map absO = b.map absO → ∀ n,a.any (isAb n) = b.any (isAb n)
  | [],[],_,n=>rfl
  | [],_ :: _,h,n=>by simp at h
  | _ :: _,[],h,n=>by simp at h
  | x :: a,y :: b,h,n=>by
    simp only [List.map_cons,List.cons.injEq] at h
    have ih:=any_abs h.2 n
    rw [List.any_cons,List.any_cons,ih]
    congr 1
    cases x <;> cases y <;> simp only [absO,reduceCtorEq,Option.some.injEq] at h
    all_goals first | (obtain ⟨rfl,_⟩:=h; rfl) | exact h.1.elim | rfl
theorem zs_okA {s : List SigI} {zs : List VI} (h : RdN s (some zs)) : ∀ i,i < zs.length → allI (okA (zs.take i)) (zs.getD i vi0) = true:=by
  obtain ⟨ys,h8,hr,hord,hn⟩:=h
  obtain ⟨hf,rfl⟩:=normL_fit hn
  intro i hi
  rw [zsN_length] at hi
  have hst:=stepOf hord hi
  simp only [stepB,Bool.and_eq_true] at hst
  have e1 : (zsN ys ys.length).take i = zsN ys i:=by
    refine List.ext_getElem (by simp [zsN_length]; omega) fun k h1 h2=>?_
    simp [zsN]
  have e2 : okA ((zsN ys ys.length).take i) = okA (ys.take i):=by
    rw [e1]; exact okA_any (any_abs (absO_zs ys i (by omega)))
  rw [e2,zsN_getD ys hi]
  have hab:=nxtL_ab ys hord i (by omega)
  have hp:=hpA (ys:=ys) (i:=i) (by omega)
  cases hy : ys.getD i vi0 with
  | ab n=>rfl
  | al n v=>rw [hy] at hst; exact allV_sub2 hab hp hst.1
  | va n v=>rw [hy] at hst; exact allV_sub2 hab hp hst.1
theorem any_mem {l : List VI} {n : List UInt8} (h : l.any (isAb n) = true) : VI.ab n ∈ l:=by
  obtain ⟨y,hy,h1⟩:=List.any_eq_true.1 h
  cases y with
  | ab m=>simp only [isAb,decide_eq_true_eq] at h1; subst h1; exact hy
  | al m v=>simp [isAb] at h1
  | va m v=>simp [isAb] at h1
theorem nxt_keys (ys : List VI) : ∀ i,i ≤ ys.length → ∀ x ∈ nxtL (ys.take i),(false,x.1.2) ∈ (ys.take i).map viK
  | 0,_,x,h=>by simp [nxtL] at h
  | i + 1,hi,x,h=>by
    rw [nxtL_snoc ys (by omega)] at h
    rw [key_at (by omega)]
    cases hy : ys.getD i vi0 with
    | ab n =>
      rw [hy] at h
      rcases List.mem_append.1 h with h | h
      · exact List.mem_append.2 (.inl (nxt_keys ys i (by omega) x h))
      · rw [List.mem_singleton.1 h]; simp [viK]
    | al n v =>
      rw [hy] at h
      rcases List.mem_append.1 h with h | h
      · exact List.mem_append.2 (.inl (nxt_keys ys i (by omega) x h))
      · rw [List.mem_singleton.1 h]; simp [viK]
    | va n v =>
      rw [hy] at h
      exact List.mem_append.2 (.inl (nxt_keys ys i (by omega) x h))
theorem key_new {ys : List VI} (ho : ordB ys = true) {i : Nat} (hi : i < ys.length) : viK (ys.getD i vi0) ∉ (ys.take i).map viK:=by
  have hst:=stepOf ho hi
  simp only [stepB,Bool.and_eq_true,Bool.not_eq_true',decide_eq_false_iff_not] at hst
  exact hst.2
theorem look_ab {ys : List VI} (ho : ordB ys = true) {n : List UInt8} : ∀ i,i ≤ ys.length → VI.ab n ∈ ys.take i → lookB ([],n) (nxtL (ys.take i)) = some (.nm [] n)
  | 0,_,h=>by simp at h
  | i + 1,hi,h=>by
    rw [nxtL_snoc ys (by omega)]
    rw [take_snocV (by omega)] at h
    rcases List.mem_append.1 h with h | h
    · have ih:=look_ab ho i (by omega) h
      cases ys.getD i vi0 with
      | ab m=>rw [nxtM,lookB_app,ih]; rfl
      | al m v=>rw [nxtM,lookB_app,ih]; rfl
      | va m v=>exact ih
    · have h:=(List.mem_singleton.1 h).symm
      have hk:=key_new ho (show i < ys.length by omega)
      rw [h] at hk ⊢
      rw [nxtM,lookB_app]
      have : lookB ([],n) (nxtL (ys.take i)) = none:=lookB_none fun x hx e=>by
        have:=nxt_keys ys i (by omega) x hx
        rw [e] at this
        exact hk this
      rw [this]
      simp [lookB]
theorem sub_self {s : List SigI} {zs : List VI} (h : RdN s (some zs)) {i : Nat} (hi : i < zs.length) : subI (nxtL (zs.take i)) (zs.getD i vi0) = zs.getD i vi0:=by
  have ho:=rdN_ordB h
  have hok:=zs_okA h i hi
  have hl : ∀ q,okA (zs.take i) q = true → lookB q (nxtL (zs.take i)) = none ∨ lookB q (nxtL (zs.take i)) = some (.nm q.1 q.2):=fun q hq=>by
    obtain ⟨m,n⟩:=q
    by_cases hm : m = []
    · subst hm
      simp only [okA,decide_true,Bool.not_true,Bool.false_or] at hq
      exact .inr (look_ab ho i (by omega) (any_mem hq))
    · exact .inl (look_mod (nxt_mod zs i (by omega)) hm)
  cases hy : zs.getD i vi0 with
  | ab n=>rfl
  | al n v=>rw [hy] at hok; simp only [subI]; rw [subV_id hl hok]
  | va n v=>rw [hy] at hok; simp only [subI]; rw [subV_id hl hok]
end Go.Proofs.YtkajklfohjcofaaGreatDoor
/- What the bindings of a match do to the types of the values that are wanted. -/
set_option linter.unusedVariables false
set_option linter.unusedSimpArgs false
namespace Go.Proofs.YtkajklfohjcofaaGreatDoor
open Go.Abs
theorem mbO_known (hs : List VI) (ws : List VI) : ∀ bs : List BdI,mbO hs (ws.map absO) = some bs → bs = (knownB hs ws).map ofB:=by
  induction ws with
  | nil=>intro bs h; cases h; rfl
  | cons y ws ih =>
    intro bs h
    cases y with
    | ab n =>
      simp only [List.map_cons,absO,mbO] at h
      simp only [knownB]
      cases hf : findF hs (false,n) with
      | none=>rw [hf] at h; cases h
      | some f =>
        rw [hf] at h
        obtain ⟨bs',h1,rfl⟩:=Option.map_eq_some_iff.1 h
        rw [ih _ h1]; rfl
    | al n v =>
      simp only [List.map_cons,absO,mbO] at h
      exact ih _ h
    | va n v =>
      simp only [List.map_cons,absO,mbO] at h
      exact ih _ h
theorem offC_all (hs : List VI) : ∀ (ys : List VI) (m : List (BNm × VT)) (j : Nat),offC hs m ys j = none → ∀ i,i < ys.length → visC hs (m ++ knownB hs (ys.take i)) (ys.getD i vi0) = 0
  | [],m,j,h,i,hi=>by simp at hi
  | y :: ys,m,j,h,i,hi=>by
    rw [offC] at h
    split at h
    · rename_i h0
      cases i with
      | zero=>simpa [knownB] using h0
      | succ i =>
        have h1:=offC_all hs ys _ _ h i (by simpa using hi)
        have e : m ++ knownB hs ((y :: ys).take (i + 1)) = visS hs m y ++ knownB hs (ys.take i):=by
          have h2:=knownB_app hs [y] (ys.take i)
          have h3:=knownB_visS hs [] y
          simp only [List.nil_append,knownB] at h3
          rw [List.take_succ_cons,show y :: ys.take i = [y] ++ ys.take i from rfl,h2,h3,← List.append_assoc]
          congr 1
          unfold visS
          cases findF hs (viK y) <;> cases y <;> simp
        rw [e]
        simpa using h1
    · cases h
theorem mb_val {a b : List SigI} {p : Nat × Bool} (hM : MtIs a b 0 p) {bs : List BdI} (hB : MbIs a b (some bs)) {n : List UInt8} {v : VT} (hv : MeanIs b (true,n) (some v)) {o : Option VT} (ho : MeanIs a (true,n) o) {u : Option VT} (hu : SubIs (toTy v) bs u) : ∃ w,o = some w ∧ (u = none ∨ u = some w):=by
  rcases hM with ⟨hs,ws,hra,hrb,hc,_⟩ | ⟨_,_,hc⟩
  · have hord:=rdN_ordB hrb
    have hoff : offC hs [] ws 0 = none:=by
      cases hq : offC hs [] ws 0 with
      | none=>rfl
      | some x =>
        rw [hq] at hc
        have:=(offC_code hs ws [] 0 x hq).1
        simp only [mcO] at hc
        omega
    have hbs : bs = (knownB hs ws).map ofB:=by
      rcases hB with ⟨hs',ws',h1,h2,h3⟩ | ⟨_,h3⟩
      · cases rdN_oo hra h1
        cases rdN_oo hrb h2
        exact mbO_known hs _ _ h3.symm
      · cases h3
    have hfv:=meanIs_find hrb hv
    obtain ⟨i,hi,hk,hm⟩:=findF_some hfv.symm
    have hvc:=offC_all hs ws [] 0 hoff i hi
    rw [List.nil_append,← visC_all hord hi] at hvc
    have hfo:=meanIs_find hra ho
    generalize ws.getD i vi0 = y at *
    cases y with
    | ab m=>simp [viK] at hk
    | al m w=>simp [viK] at hk
    | va m w =>
      simp only [viK,Prod.mk.injEq,true_and] at hk
      simp only [meanI] at hm
      subst hk hm
      unfold visC at hvc
      rw [← show (viK (.va m w)) = (true,m) from rfl] at hfo
      rw [← hfo] at hvc
      cases o with
      | none=>simp at hvc
      | some f =>
        refine ⟨f,rfl,?_⟩
        have hsub : subV (knownB hs ws) w = f:=by
          by_cases h : subV (knownB hs ws) w = f
          · exact h
          · simp only [h,if_false] at hvc
            split at hvc <;> omega
        rcases hu with ⟨v',bd,e,_,e2,_,rfl⟩ | ⟨_,rfl⟩
        · cases toTy_injS e
          rw [hbs] at e2
          cases ofB_inj e2
          rw [subV_foldB,hsub]
          split
          · exact .inr rfl
          · exact .inl rfl
        · exact .inl rfl
  · split at hc <;> omega
end Go.Proofs.YtkajklfohjcofaaGreatDoor
