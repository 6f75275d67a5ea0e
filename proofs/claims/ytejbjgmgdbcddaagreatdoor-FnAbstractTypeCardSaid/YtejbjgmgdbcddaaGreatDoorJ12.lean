/- Weak, WeakV, SigCat. -/
import Derived.Test.YtejbjgmgdbcddaaGreatDoorJ11
import Derived.Test.YtejbjgmgdbcddaaGreatDoorAbsW3
/- What a signature matches when an item is dropped or made abstract: data. -/
set_option linter.unusedVariables false
set_option linter.unusedSimpArgs false
namespace Go.Proofs.YtejbjgmgdbcddaaGreatDoor
open Go.Abs
theorem ordB_of {ys : List VI} (h : ∀ i,i < ys.length → stepB (ys.take i) (ys.getD i vi0) = true) : ordB ys = true:=by
  unfold ordB
  rw [List.all_eq_true]
  exact fun i hi=>h i (List.mem_range.mp hi)
theorem reads_map {zs : List VI} (h : ∀ z ∈ zs,localB (siOf z).name = true ∧ ItemOf (siOf z) z) : ReadsTo (zs.map siOf) zs:=by
  refine ⟨by simp,fun i hi=>?_⟩
  have hi' : i < zs.length:=by simpa using hi
  have e : (zs.map siOf).getD i si0 = siOf (zs.getD i vi0):=by simp [List.getD,hi']
  rw [e]
  exact h _ (by simp [List.getD,hi'])
theorem reads_each {s : List SigI} {ys : List VI} (hr : ReadsTo s ys) : ∀ y ∈ ys,localB (siOf y).name = true ∧ ItemOf (siOf y) y:=fun y hy=>by
  obtain ⟨k,hk,rfl⟩:=List.getElem_of_mem hy
  have h1:=hr.2 k (by rw [← hr.1]; exact hk)
  have e : ys[k] = ys.getD k vi0:=by simp [List.getD,hk]
  rw [e]
  have e2:=itemOf_si h1.2
  rw [← e2]
  exact h1
theorem norm_drop {n : List UInt8} {v : VT} : ∀ {P Q zs : List VI} {m : List (BNm × VT)},normL m (P ++ .va n v :: Q) = some zs → ∃ us,normL m (P ++ Q) = some us ∧ ∀ z ∈ us,z ∈ zs
  | [],Q,zs,m,h=>by
    rw [List.nil_append,normL] at h
    split at h
    · have e : nxtM m (.va n v) = m:=rfl
      rw [e] at h
      cases hq : normL m Q with
      | none=>rw [hq] at h; cases h
      | some us=>rw [hq] at h; cases h; exact ⟨us,hq,fun z hz=>List.mem_cons_of_mem _ hz⟩
    · cases h
  | y :: P,Q,zs,m,h=>by
    rw [List.cons_append,normL] at h
    split at h
    · rename_i hc
      cases hq : normL (nxtM m y) (P ++ .va n v :: Q) with
      | none=>rw [hq] at h; cases h
      | some zs' =>
        rw [hq] at h; cases h
        obtain ⟨us,h1,h2⟩:=norm_drop hq
        refine ⟨subI m y :: us,by rw [List.cons_append,normL,if_pos hc,h1]; rfl,fun z hz=>?_⟩
        rcases List.mem_cons.1 hz with rfl | hz
        · simp
        · exact List.mem_cons_of_mem _ (h2 z hz)
    · cases h
theorem dropI_take1 {ys : List VI} {i k : Nat} (hk : k ≤ i) (hi : i < ys.length) : (dropI ys i).take k = ys.take k:=by
  rw [dropI,List.take_append_of_le_length (by simp; omega),List.take_take,Nat.min_eq_left hk]
theorem dropI_take2 {ys : List VI} {i k : Nat} (hk : i ≤ k) (hi : i < ys.length) : (dropI ys i).take k = dropI (ys.take (k + 1)) i:=by
  rw [dropI,dropI,List.take_append,List.take_take,List.take_take,List.drop_take,List.length_take,Nat.min_eq_left (show i ≤ ys.length by omega),Nat.min_eq_right hk,Nat.min_eq_left (show i ≤ k + 1 by omega)]
  congr 2
  omega
theorem dropI_getD {ys : List VI} {i k : Nat} (hi : i < ys.length) : (dropI ys i).getD k vi0 = ys.getD (if k < i then k else k + 1) vi0:=by
  rw [dropI,List.getD,List.getD]
  congr 1
  split
  · rename_i h
    rw [List.getElem?_append_left (by simp; omega),List.getElem?_take,if_pos h]
  · rename_i h
    rw [List.getElem?_append_right (by simp; omega),List.length_take,Nat.min_eq_left (show i ≤ ys.length by omega),List.getElem?_drop]
    congr 1
    omega
theorem ordB_drop {ys : List VI} (ho : ordB ys = true) {i : Nat} (hi : i < ys.length) {nm : List UInt8} (hq : viK (ys.getD i vi0) = (true,nm)) : ordB (dropI ys i) = true:=by
  refine ordB_of fun k hk=>?_
  have hl:=dropI_len hi
  rw [dropI_getD hi]
  by_cases hki : k < i
  · rw [dropI_take1 (by omega) hi,if_pos hki]; exact stepOf ho (by omega)
  · rw [dropI_take2 (by omega) hi,if_neg hki]
    have hs:=stepOf ho (show k + 1 < ys.length by omega)
    have hsp:=vi_split (ys:=ys.take (k + 1)) (i:=i) (by simp; omega)
    have hg : (ys.take (k + 1)).getD i vi0 = ys.getD i vi0:=take_getD _ (by omega)
    have e : (ys.take (k + 1)).map viK = ((ys.take (k + 1)).take i).map viK ++ (true,nm) :: ((ys.take (k + 1)).drop (i + 1)).map viK:=by
      conv=>lhs; rw [hsp]
      rw [List.map_append,List.map_cons,hg,hq]
    have e2 : (dropI (ys.take (k + 1)) i).map viK = ((ys.take (k + 1)).take i).map viK ++ ((ys.take (k + 1)).drop (i + 1)).map viK:=by rw [dropI,List.map_append]
    have hin : ∀ q,q ∈ (dropI (ys.take (k + 1)) i).map viK → q ∈ (ys.take (k + 1)).map viK:=fun q h=>by
      rw [e]; rw [e2] at h
      rcases List.mem_append.1 h with h | h
      · exact List.mem_append.2 (.inl h)
      · exact List.mem_append.2 (.inr (List.mem_cons_of_mem _ h))
    have hin2 : ∀ p : List UInt8,(false,p) ∈ (ys.take (k + 1)).map viK → (false,p) ∈ (dropI (ys.take (k + 1)) i).map viK:=fun p h=>by
      rw [e2]; rw [e] at h
      rcases List.mem_append.1 h with h | h
      · exact List.mem_append.2 (.inl h)
      · rcases List.mem_cons.1 h with h | h
        · cases h
        · exact List.mem_append.2 (.inr h)
    simp only [stepB,Bool.and_eq_true,Bool.not_eq_true',decide_eq_false_iff_not] at hs ⊢
    have hmono : ∀ p,okN ((ys.take (k + 1)).map viK) p = true → okN ((dropI (ys.take (k + 1)) i).map viK) p = true:=fun p hp=>by
      simp only [okN,Bool.or_eq_true,decide_eq_true_eq] at hp ⊢
      rcases hp with hp | hp
      · exact .inl hp
      · exact .inr (hin2 _ hp)
    refine ⟨?_,fun h=>hs.2 (hin _ h)⟩
    have h1:=hs.1
    generalize ys.getD (k + 1) vi0 = y at *
    cases y with
    | ab n=>rfl
    | al n v=>exact allV_mono hmono h1
    | va n v=>exact allV_mono hmono h1
theorem known_in {zs : List VI} (ho : ordB zs = true) : ∀ a : List VI,(∀ y ∈ a,y ∈ zs) → ∀ x ∈ knownB zs a,x.2 = .nm x.1.1 x.1.2:=by
  intro a
  induction a with
  | nil=>intro _ x hx; simp [knownB] at hx
  | cons y a ih =>
    intro hm x hx
    have ih:=ih fun z hz=>hm z (by simp [hz])
    cases y with
    | ab n =>
      simp only [knownB] at hx
      have hy:=hm (.ab n) (by simp)
      obtain ⟨i,hi,he⟩:=List.mem_iff_getElem.1 hy
      have hf:=findF_at ho hi
      have e : zs.getD i vi0 = .ab n:=by rw [← he]; simp [List.getD,hi]
      rw [e] at hf
      have hf : findF zs (false,n) = some (.nm [] n):=hf
      rw [hf] at hx
      rcases List.mem_cons.1 hx with rfl | hx
      · rfl
      · exact ih x hx
    | al n v=>exact ih x (by simpa [knownB] using hx)
    | va n v=>exact ih x (by simpa [knownB] using hx)
theorem offC_in {zs us : List VI} (ho : ordB zs = true) (h : ∀ z ∈ us,z ∈ zs) : offC zs [] us 0 = none:=by
  rw [offC_iff]
  intro k hk
  have hm : us.getD k vi0 ∈ zs:=h _ (by simp [List.getD,hk])
  obtain ⟨j,hj,he⟩:=List.mem_iff_getElem.1 hm
  have e : zs.getD j vi0 = us.getD k vi0:=by rw [← he]; simp [List.getD,hj]
  have hf:=findF_at ho hj
  rw [e] at hf
  have hid : ∀ v,subV (knownB zs (us.take k)) v = v:=fun v=>subV_id (p:=fun _=>true) (fun q _=>look_self (known_in ho _ fun y hy=>h y (List.mem_of_mem_take hy)) q) (allV_true v)
  unfold visC
  rw [hf]
  cases us.getD k vi0 with
  | ab n=>rfl
  | al n v=>simp [hid,meanI]
  | va n v=>simp [hid,meanI]
theorem mt_drop {b : List SigI} {ys zs : List VI} (h8 : b.length ≤ 8) (hr : ReadsTo b ys) (ho : ordB ys = true) (hn : normL [] ys = some zs) {i : Nat} {nm : List UInt8} (hi : i < ys.length) (hq : viK (ys.getD i vi0) = (true,nm)) : ∃ p,MtIs b ((dropI ys i).map siOf) 0 p:=by
  have hb : RdN b (some zs):=⟨ys,h8,hr,ho,hn⟩
  obtain ⟨v,hv⟩ : ∃ v,ys.getD i vi0 = .va nm v:=by
    generalize ys.getD i vi0 = y at hq
    cases y with
    | ab n=>cases hq
    | al n v=>cases hq
    | va n v=>simp only [viK,Prod.mk.injEq,true_and] at hq; subst hq; exact ⟨v,rfl⟩
  have hn2:=hn
  rw [vi_split hi,hv] at hn2
  obtain ⟨us,h1,h2⟩:=norm_drop hn2
  have hd : RdN ((dropI ys i).map siOf) (some us):=by
    refine ⟨dropI ys i,by rw [List.length_map]; have:=dropI_len hi; have:=hr.1; omega,reads_map fun z hz=>reads_each hr z ?_,ordB_drop ho hi hq,h1⟩
    rcases List.mem_append.1 hz with h | h
    · exact List.mem_of_mem_take h
    · exact List.mem_of_mem_drop h
  have hoff:=offC_in (rdN_ordB hb) h2
  exact ⟨_,.inl ⟨zs,us,hb,hd,by rw [hoff]; rfl,rfl⟩⟩
theorem abI_len {ys : List VI} {i : Nat} {nm : List UInt8} (hi : i < ys.length) : (abI ys nm i).length = ys.length:=by
  simp only [abI,List.length_append,List.length_take,List.length_cons,List.length_drop]; omega
theorem abI_set {ys : List VI} {i : Nat} {nm : List UInt8} (hi : i < ys.length) : abI ys nm i = ys.set i (.ab nm):=by
  rw [List.set_eq_take_append_cons_drop,if_pos hi,abI]
theorem abI_keys {ys : List VI} {i : Nat} {nm : List UInt8} (hi : i < ys.length) (hq : viK (ys.getD i vi0) = (false,nm)) (k : Nat) : ((abI ys nm i).take k).map viK = (ys.take k).map viK:=by
  rw [abI_set hi]
  refine List.ext_getElem (by simp) fun j h1 h2=>?_
  simp only [List.getElem_map,List.getElem_take,List.getElem_set]
  split
  · rename_i e
    subst e
    have e : ys.getD i vi0 = ys[i]:=by simp [List.getD,hi]
    rw [← e,hq]; rfl
  · rfl
theorem abI_getD {ys : List VI} {i : Nat} {nm : List UInt8} (hi : i < ys.length) {k : Nat} (hk : k < ys.length) : (abI ys nm i).getD k vi0 = if i = k then .ab nm else ys.getD k vi0:=by
  rw [abI_set hi,List.getD,List.getElem?_set]
  split
  · rename_i e; subst e; rfl
  · rfl
theorem ordB_ab {ys : List VI} (ho : ordB ys = true) {i : Nat} {nm : List UInt8} (hi : i < ys.length) (hq : viK (ys.getD i vi0) = (false,nm)) : ordB (abI ys nm i) = true:=by
  refine ordB_of fun k hk=>?_
  rw [abI_len hi] at hk
  have hs:=stepOf ho hk
  simp only [stepB] at hs ⊢
  rw [abI_keys hi hq,abI_getD hi hk]
  split
  · rename_i e
    subst e
    rw [hq] at hs
    simp only [Bool.and_eq_true] at hs ⊢
    exact ⟨rfl,hs.2⟩
  · exact hs
theorem ord_name {ys : List VI} (ho : ordB ys = true) {i k : Nat} {nm : List UInt8} (hi : i < ys.length) (hk : k < ys.length) (hq : viK (ys.getD i vi0) = (false,nm)) (e : i ≠ k) : ∀ n,viK (ys.getD k vi0) = (false,n) → n ≠ nm:=by
  rintro n hn rfl
  rcases Nat.lt_or_gt_of_ne e with h | h
  · exact ord_ne ho h hk (by rw [hq,hn])
  · exact ord_ne ho h hi (by rw [hq,hn])
theorem okN_ab {ys : List VI} {i : Nat} {nm : List UInt8} {f : VT} (hi : i < ys.length) (hq : viK (ys.getD i vi0) = (false,nm)) {k : Nat} (hk : k ≤ ys.length) : ∀ p : Nm,okN ((ys.take k).map viK) p = true → lookB p (nxtL ((abI ys nm i).take k)) ≠ none ∨ lookB p [(([],nm),f)] = none:=fun p hp=>by
  obtain ⟨a,b⟩:=p
  by_cases ha : a = []
  · subst ha
    simp only [okN,decide_true,Bool.not_true,Bool.false_or,decide_eq_true_eq] at hp
    exact .inl (known_all _ k (by rw [abI_len hi]; exact hk) b (by rw [abI_keys hi hq]; exact hp))
  · exact .inr (look_mod (by simp) ha)
theorem nxt_ab {ys : List VI} (ho : ordB ys = true) {i : Nat} {nm : List UInt8} {f : VT} (hi : i < ys.length) (hq : viK (ys.getD i vi0) = (false,nm)) (hf : meanI (subI (nxtL (ys.take i)) (ys.getD i vi0)) = f) : ∀ k,k ≤ ys.length → nxtL (ys.take k) = (nxtL ((abI ys nm i).take k)).map fun x=>(x.1,subV [(([],nm),f)] x.2)
  | 0,_=>rfl
  | k + 1,h=>by
    have ih:=nxt_ab ho hi hq hf k (by omega)
    have hs:=stepOf ho (show k < ys.length by omega)
    have hl : (abI ys nm i).length = ys.length:=abI_len hi
    have hsub:=okN_ab (f:=f) hi hq (show k ≤ ys.length by omega)
    rw [nxtL_snoc ys (by omega),nxtL_snoc (abI ys nm i) (by omega),abI_getD hi (by omega)]
    by_cases e : i = k
    · subst e
      rw [if_pos rfl]
      cases hy : ys.getD i vi0 with
      | ab n =>
        rw [hy] at hq hf
        simp only [viK,Prod.mk.injEq,true_and] at hq
        subst hq
        simp only [subI,meanI] at hf
        simp only [nxtM,List.map_append,List.map_cons,List.map_nil]
        rw [← ih,← hf]
        simp [subV,lookB]
      | al n v =>
        rw [hy] at hq hf
        simp only [viK,Prod.mk.injEq,true_and] at hq
        subst hq
        simp only [subI,meanI] at hf
        simp only [nxtM,List.map_append,List.map_cons,List.map_nil]
        rw [← ih,hf]
        simp [subV,lookB]
      | va n v=>rw [hy] at hq; cases hq
    · rw [if_neg e]
      have hne:=ord_name ho hi (show k < ys.length by omega) hq e
      simp only [stepB,Bool.and_eq_true] at hs
      generalize ys.getD k vi0 = y at hs hne ⊢
      cases y with
      | ab n =>
        have:=hne n rfl
        simp only [nxtM,List.map_append,List.map_cons,List.map_nil]
        rw [← ih]
        simp [subV,lookB,this]
      | al n v =>
        simp only [allI] at hs
        simp only [nxtM,List.map_append,List.map_cons,List.map_nil]
        rw [← sub_sub hsub hs.1,← ih]
      | va n v=>exact ih
theorem subV_congr {m m' : List (BNm × VT)} {P : Nm → Bool} (h : ∀ q,P q = true → (lookB q m).getD (.nm q.1 q.2) = (lookB q m').getD (.nm q.1 q.2)) : ∀ {v : VT},allV P v = true → subV m v = subV m' v
  | .num,_=>rfl
  | .nm a b,hv=>h (a,b) hv
  | .fn a b,hv=>by
    simp only [allV,Bool.and_eq_true] at hv
    rw [subV,subV,subV_congr h hv.1,subV_congr h hv.2]
theorem zsN_take (ys : List VI) {k : Nat} (h : k ≤ ys.length) : (zsN ys ys.length).take k = zsN ys k:=by
  simp only [zsN,← List.map_take]
  congr 1
  rw [List.take_range,Nat.min_eq_left h]
theorem offC_abs {ys : List VI} (ho : ordB ys = true) {i : Nat} {nm : List UInt8} (hi : i < ys.length) (hq : viK (ys.getD i vi0) = (false,nm)) : offC (zsN ys ys.length) [] (zsN (abI ys nm i) (abI ys nm i).length) 0 = none:=by
  have hl : (abI ys nm i).length = ys.length:=abI_len hi
  have ho':=ordB_ab ho hi hq
  have hoz:=ordB_norm ho
  have hfind : ∀ k,k < ys.length → findF (zsN ys ys.length) (viK (ys.getD k vi0)) = some (meanI (subI (nxtL (ys.take k)) (ys.getD k vi0))):=fun k hk=>by
    have:=findF_at hoz (i:=k) (by rw [zsN_length]; exact hk)
    rw [zsN_getD ys hk,viK_sub] at this
    exact this
  rw [offC_iff]
  intro k hk
  rw [zsN_length,hl] at hk
  rw [zsN_getD _ (by omega),zsN_take _ (by omega)]
  have hkey : viK (subI (nxtL ((abI ys nm i).take k)) ((abI ys nm i).getD k vi0)) = viK (ys.getD k vi0):=by
    rw [viK_sub,abI_getD hi hk]
    split
    · rename_i e; subst e; exact hq.symm
    · rfl
  have hfk:=hfind k hk
  unfold visC
  rw [hkey,hfk,abI_getD hi hk]
  by_cases e : i = k
  · rw [if_pos e]; rfl
  · rw [if_neg e]
    have hs:=stepOf ho hk
    simp only [stepB,Bool.and_eq_true] at hs
    have hab:=nxtL_ab (abI ys nm i) ho' k (by omega)
    have hpa:=hpA (ys:=abI ys nm i) (i:=k) (by omega)
    rw [abI_keys hi hq] at hpa
    have hcong : ∀ q,okA ((abI ys nm i).take k) q = true → (lookB q (knownB (zsN ys ys.length) (zsN (abI ys nm i) k))).getD (.nm q.1 q.2) = (lookB q [(([],nm),meanI (subI (nxtL (ys.take i)) (ys.getD i vi0)))]).getD (.nm q.1 q.2):=fun q hq'=>by
      obtain ⟨m,n⟩:=q
      by_cases hm : m = []
      · subst hm
        simp only [okA,decide_true,Bool.not_true,Bool.false_or] at hq'
        obtain ⟨j,hj,hjl,hje⟩:=take_mem (any_mem hq')
        rw [hl] at hjl
        have hmem : VI.ab n ∈ zsN (abI ys nm i) k:=by
          have e1:=zsN_getD (abI ys nm i) hj
          rw [hje] at e1
          have e1 : (zsN (abI ys nm i) k).getD j vi0 = .ab n:=e1
          rw [← e1]
          simp [List.getD,zsN_length,hj]
        rw [abI_getD hi hjl] at hje
        by_cases hn : n = nm
        · subst hn
          have h1:=hfind i hi
          rw [hq] at h1
          rw [look_known h1 hmem]
          simp [lookB]
        · have hij : i ≠ j:=fun h=>by
            rw [if_pos h] at hje
            cases hje
            exact hn rfl
          rw [if_neg hij] at hje
          have h1:=hfind j hjl
          rw [hje] at h1
          have h1 : findF (zsN ys ys.length) (false,n) = some (.nm [] n):=h1
          rw [look_known h1 hmem]
          simp [lookB,hn]
      · rw [look_mod (fun x hx=>(knownB_names _ _ x hx).1) hm,look_mod (by simp) hm]
    have key : ∀ v,allV (okN ((ys.take k).map viK)) v = true → subV (knownB (zsN ys ys.length) (zsN (abI ys nm i) k)) (subV (nxtL ((abI ys nm i).take k)) v) = subV (nxtL (ys.take k)) v:=fun v hv=>by
      rw [subV_congr hcong (allV_sub2 hab hpa hv),nxt_ab ho hi hq rfl k (by omega),sub_sub (okN_ab hi hq (by omega)) hv]
    have h1:=hs.1
    clear hkey hfk
    generalize ys.getD k vi0 = y at h1 ⊢
    cases y with
    | ab n=>rfl
    | al n v=>simp only [subI,meanI,key v h1,if_true]
    | va n v=>simp only [subI,meanI,key v h1,if_true]
theorem abI_reads {b : List SigI} {ys : List VI} (h8 : b.length ≤ 8) (hr : ReadsTo b ys) {i : Nat} {nm : List UInt8} (hi : i < ys.length) (hq : viK (ys.getD i vi0) = (false,nm)) : ((abI ys nm i).map siOf).length ≤ 8 ∧ ReadsTo ((abI ys nm i).map siOf) (abI ys nm i):=by
  have hloc : localB nm = true:=by
    have h1:=reads_each hr (ys.getD i vi0) (by simp [List.getD,hi])
    rw [siOf_name,hq] at h1
    exact h1.1
  refine ⟨by rw [List.length_map,abI_len hi,hr.1]; exact h8,reads_map fun z hz=>?_⟩
  rcases List.mem_append.1 hz with h | h
  · exact reads_each hr z (List.mem_of_mem_take h)
  · rcases List.mem_cons.1 h with rfl | h
    · exact ⟨hloc,rfl,rfl,rfl⟩
    · exact reads_each hr z (List.mem_of_mem_drop h)
theorem mt_weak_ab {a b : List SigI} {p : Nat × Bool} (h : MtIs a b 0 p) {nm : List UInt8} {zs : List SigI} (hz : abT b nm = some zs) {c : Int} {q : Nat × Bool} (hc : MtIs a zs c q) : c = 0 ∨ c = 4:=by
  obtain ⟨hs,ws,h1,h2,h3⟩:=mt_zero h
  have hb:=h2
  obtain ⟨ys,h8,hr,ho,hn⟩:=h2
  by_cases hk : ∃ i,i < ys.length ∧ viK (ys.getD i vi0) = (false,nm)
  · obtain ⟨i,hi,hq⟩:=hk
    rw [abT_some h8 hr ho hi hq] at hz
    cases hz
    obtain ⟨hl',hrd⟩:=abI_reads h8 hr hi hq
    rcases hc with ⟨hs',us,k1,k2,k3,k4⟩ | ⟨_,_,rfl⟩
    · left
      obtain ⟨hf,rfl⟩:=normL_fit hn
      have k2':=k2
      obtain ⟨ys',_,hr',_,hn'⟩:=k2
      have e:=readsTo_one hr' hrd
      subst e
      obtain ⟨hf',rfl⟩:=normL_fit hn'
      obtain ⟨r,hr2⟩:=mt_trans h (.inl ⟨_,_,hb,k2',by rw [offC_abs ho hi hq]; rfl,rfl⟩)
      exact (mtIs_one (.inl ⟨hs',_,k1,k2',k3,k4⟩) hr2).1
    · right
      rw [if_pos ⟨rdN_sigB h1,by rw [sigB_reads hl' hrd]; exact ordB_ab ho hi hq⟩]
  · rw [abT_none hr fun i hi e=>hk ⟨i,hi,e⟩] at hz
    cases hz
end Go.Proofs.YtejbjgmgdbcddaaGreatDoor
/- What is asked of a signature without a value, or with a type made abstract: data. -/
set_option linter.unusedVariables false
set_option linter.unusedSimpArgs false
namespace Go.Proofs.YtejbjgmgdbcddaaGreatDoor
open Go.Abs
theorem smx_dr {s : List SigI} (hs : ∀ x ∈ s,SmX x) (nm : List UInt8) : ((drT s nm).getD []).length ≤ s.length ∧ ∀ x ∈ (drT s nm).getD [],SmX x:=by
  rw [drT]
  split
  · rw [Option.getD_some]
    exact ⟨List.length_filter_le _ _,fun x hx=>hs x (List.mem_filter.1 hx).1⟩
  · simp
theorem smx_abL {nm : List UInt8} : ∀ {s : List SigI},(∀ x ∈ s,SmX x) → ((abL nm s).getD []).length ≤ s.length ∧ ∀ x ∈ (abL nm s).getD [],SmX x
  | [],_=>by simp [abL]
  | x :: l,hs=>by
    have ih:=smx_abL (nm:=nm) (s:=l) fun y hy=>hs y (by simp [hy])
    rw [abL]
    split
    · rename_i h
      rw [Option.getD_some]
      refine ⟨by simp,fun y hy=>?_⟩
      rcases List.mem_cons.1 hy with rfl | hy
      · simp only [isAT,Bool.and_eq_true,decide_eq_true_eq] at h
        have h1:=(hs x (by simp)).1
        rw [h.2] at h1
        exact ⟨h1,by simp [ty0,sz,szs]⟩
      · exact hs y (by simp [hy])
    · cases hq : abL nm l with
      | none=>simp
      | some zs =>
        rw [hq] at ih
        simp only [Option.getD_some] at ih
        simp only [Option.map_some,Option.getD_some]
        refine ⟨by simp only [List.length_cons]; omega,fun y hy=>?_⟩
        rcases List.mem_cons.1 hy with rfl | hy
        · exact hs _ (by simp)
        · exact ih.2 y hy
theorem smx_ab {s : List SigI} (hs : ∀ x ∈ s,SmX x) (nm : List UInt8) : ((abT s nm).getD []).length ≤ s.length ∧ ∀ x ∈ (abT s nm).getD [],SmX x:=by
  rw [abT]
  split
  · exact smx_abL hs
  · simp
theorem dep_ge1 : ∀ v : VT,1 ≤ dep v
  | .num=>Nat.le_refl _
  | .nm _ _=>Nat.le_refl _
  | .fn a b=>by simp only [dep]; omega
theorem cnt_ge1 : ∀ v : VT,1 ≤ cnt v
  | .num=>Nat.le_refl _
  | .nm _ _=>Nat.le_refl _
  | .fn a b=>by simp only [cnt]; omega
theorem sub_grows (m : List (BNm × VT)) : ∀ v,dep v ≤ dep (subV m v) ∧ cnt v ≤ cnt (subV m v)
  | .num=>⟨Nat.le_refl _,Nat.le_refl _⟩
  | .nm a b=>⟨dep_ge1 _,cnt_ge1 _⟩
  | .fn a b=>by
    have h1:=sub_grows m a
    have h2:=sub_grows m b
    simp only [subV,dep,cnt]
    omega
theorem fit_ab {ys : List VI} (ho : ordB ys = true) (hf : fitL ys) {i : Nat} {nm : List UInt8} (hi : i < ys.length) (hq : viK (ys.getD i vi0) = (false,nm)) : fitL (abI ys nm i):=by
  intro k hk
  rw [abI_len hi] at hk
  have h:=hf k hk
  have hs:=stepOf ho hk
  simp only [stepB,Bool.and_eq_true] at hs
  rw [abI_getD hi hk]
  split
  · rfl
  · have key : ∀ v,allV (okN ((ys.take k).map viK)) v = true → subV (nxtL (ys.take k)) v = subV [(([],nm),meanI (subI (nxtL (ys.take i)) (ys.getD i vi0)))] (subV (nxtL ((abI ys nm i).take k)) v):=fun v hv=>by
      rw [nxt_ab ho hi hq rfl k (by omega),sub_sub (okN_ab hi hq (by omega)) hv]
    have h1:=hs.1
    generalize ys.getD k vi0 = y at h1 h ⊢
    have fin : ∀ v,allV (okN ((ys.take k).map viK)) v = true → dep (subV (nxtL (ys.take k)) v) ≤ 8 → cnt (subV (nxtL (ys.take k)) v) ≤ 63 → dep (subV (nxtL ((abI ys nm i).take k)) v) ≤ 8 ∧ cnt (subV (nxtL ((abI ys nm i).take k)) v) ≤ 63:=fun v hv a b=>by
      rw [key v hv] at a b
      have:=sub_grows [(([],nm),meanI (subI (nxtL (ys.take i)) (ys.getD i vi0)))] (subV (nxtL ((abI ys nm i).take k)) v)
      omega
    cases y with
    | ab n=>rfl
    | al n v =>
      simp only [fitI,subI,meanI,Bool.and_eq_true] at h ⊢
      obtain ⟨a,b⟩:=fin v h1 (of_decide_eq_true h.1) (of_decide_eq_true h.2)
      exact ⟨decide_eq_true a,decide_eq_true b⟩
    | va n v =>
      simp only [fitI,subI,meanI,Bool.and_eq_true] at h ⊢
      obtain ⟨a,b⟩:=fin v h1 (of_decide_eq_true h.1) (of_decide_eq_true h.2)
      exact ⟨decide_eq_true a,decide_eq_true b⟩
theorem mean_self_ab {s zs : List SigI} {ws : List VI} (hn : RdN s (some ws)) {nm : List UInt8} (hz : abT s nm = some zs) : MeanIs zs (false,nm) (some (.nm [] nm)) ∧ ∀ c p,MtIs s zs c p → c = 0 ∨ c = 4:=by
  refine ⟨?_,fun c p h=>mt_weak_ab (mt_self hn hn) hz h⟩
  obtain ⟨ys,h8,hr,ho,hm⟩:=hn
  by_cases hk : ∃ i,i < ys.length ∧ viK (ys.getD i vi0) = (false,nm)
  · obtain ⟨i,hi,hq⟩:=hk
    rw [abT_some h8 hr ho hi hq] at hz
    cases hz
    obtain ⟨hl',hrd⟩:=abI_reads h8 hr hi hq
    have hf:=fit_ab ho (normL_fit hm).1 hi hq
    have hl:=abI_len (nm:=nm) hi
    refine .inl ⟨_,⟨abI ys nm i,hl',hrd,ordB_ab ho hi hq,normL_yes hf⟩,i,by rw [zsN_length,hl]; exact hi,?_⟩
    rw [zsN_getD _ (by rw [hl]; exact hi),abI_getD hi hi,if_pos rfl]
    exact ⟨rfl,rfl⟩
  · rw [abT_none hr fun i hi e=>hk ⟨i,hi,e⟩] at hz
    cases hz
theorem dr_facts {s zs : List SigI} {nm : List UInt8} (hz : drT s nm = some zs) : sigB zs = true ∧ zs.length + 1 = s.length ∧ (∀ o,MeanIs zs (true,nm) o → o = none) ∧ ∀ c p,MtIs s zs c p → c = 0 ∨ c = 4:=by
  cases hb : sigB s with
  | false=>rw [drT_bad hb] at hz; cases hz
  | true =>
    obtain ⟨ys,h8,hr,ho⟩:=sigB_yes hb
    by_cases hk : ∃ i,i < ys.length ∧ viK (ys.getD i vi0) = (true,nm)
    · obtain ⟨i,hi,hq⟩:=hk
      rw [drT_some h8 hr ho hi hq] at hz
      cases hz
      have hl:=dropI_len hi
      have hrd : ReadsTo ((dropI ys i).map siOf) (dropI ys i):=reads_map fun z hz=>by
        rcases List.mem_append.1 hz with h | h
        · exact reads_each hr z (List.mem_of_mem_take h)
        · exact reads_each hr z (List.mem_of_mem_drop h)
      have h8' : ((dropI ys i).map siOf).length ≤ 8:=by rw [List.length_map]; have:=hr.1; omega
      have hsc : sigB ((dropI ys i).map siOf) = true:=by rw [sigB_reads h8' hrd]; exact ordB_drop ho hi hq
      refine ⟨hsc,by rw [List.length_map]; have:=hr.1; omega,fun o hm=>?_,fun c p hc=>?_⟩
      · rcases hm with ⟨ws,hw,hf⟩ | ⟨_,h⟩
        · cases o with
          | none=>rfl
          | some v =>
            exfalso
            obtain ⟨j,hj,hkj,_⟩:=hf
            obtain ⟨ys',_,hr',_,hn'⟩:=hw
            have e:=readsTo_one hr' hrd
            subst e
            obtain ⟨_,rfl⟩:=normL_fit hn'
            rw [zsN_length] at hj
            rw [zsN_getD _ hj,viK_sub,dropI_getD hi] at hkj
            have h1:=ordB_inj ho (i:=if j < i then j else j + 1) (j:=i) (by split <;> omega) hi (by rw [hkj,hq])
            split at h1 <;> omega
        · exact h
      · obtain ⟨on,hon⟩:=rdN_ex s
        cases on with
        | some ws =>
          obtain ⟨ys',g8,hr',ho',hn'⟩:=hon
          have e:=readsTo_one hr' hr
          subst e
          obtain ⟨q,hq'⟩:=mt_drop h8 hr ho hn' hi hq
          exact .inl (mtIs_one hc hq').1
        | none =>
          rcases hc with ⟨_,_,k1,_,_,_⟩ | ⟨_,_,rfl⟩
          · exact absurd hon (rdN_not k1)
          · right; rw [if_pos ⟨hb,hsc⟩]
    · rw [drT_none hr fun i hi e=>hk ⟨i,hi,e⟩] at hz
      cases hz
end Go.Proofs.YtejbjgmgdbcddaaGreatDoor
/- Signatures put one behind the other, and an item less: the program's. -/
set_option linter.unusedVariables false
set_option linter.unusedSimpArgs false
namespace Go.Proofs.YtejbjgmgdbcddaaGreatDoor
open Go.Abs
set_option maxRecDepth 100000 in
theorem impl_readPosition (s : List SigI) (hs : s.length ≤ 1048576) (ho : ∀ x ∈ s,x.Ok ∧ sz x.typ ≤ 1048576) (q : Ky) (A : List Box) : ACalls Tryz.prog 21 [.slice (sEs s),.agg (kE q)] A (fun r A'=>((∃ ys,s.length ≤ 8 ∧ ReadsTo s ys ∧ ordB ys = true ∧ ((∃ i,i < ys.length ∧ viK (ys.getD i vi0) = q ∧ r = .tuple [.slice (vRows ys),.int .i64 (i : Nat)]) ∨ ((∀ i,i < ys.length → viK (ys.getD i vi0) ≠ q) ∧ r = .tuple [.slice (vRows ys),.int .i64 (-1)]))) ∨ (sigB s = false ∧ r = .tuple [.slice [],.int .i64 (-1)])) ∧ A' = A):=by
  have hrs:=fun A=>impl_readSig s hs ho A
  have hq : kE q = [.bool q.1,.str q.2]:=rfl
  rw [hq]
  refine acalls_enter (cf:=cf 19 [0,1,3,4,5,6,7,14]) foll Tryz.func21 Tryz.ntmps21 (by simp [cf]) ?_
  simp only [Tryz.f21,EnterK_some,zW,zX,zD,builtinA,isLeaf,const1,ustrA,simprocAttr,ti48,ca36,ca43,cf,Tryz.results21]
  refine callK_intro (by simp only [zW,zX,zD,builtinA,isLeaf,const1,ustrA,simprocAttr,Option.map_some] <;> rfl) (hrs _) ?_ rfl
  rintro r A' ⟨⟨ys,h8,hr,rfl⟩ | ⟨hb,rfl⟩,rfl⟩
  · have hsb:=sigB_reads h8 hr
    have hps:=fun A=>impl_position ys (by have:=hr.1; omega) q A
    rw [hq] at hps
    cases hob : ordB ys with
    | true =>
      simp only [zW,zX,zD,builtinA,isLeaf,const1,ustrA,simprocAttr,ti48,ca36,ca43,cf,Tryz.results21]
      refine callK_intro (by simp only [zW,zX,zD,builtinA,isLeaf,const1,ustrA,simprocAttr,Option.map_some] <;> rfl) (hps _) ?_ rfl
      rintro r A' ⟨⟨i,h1,h2,rfl⟩ | ⟨h1,rfl⟩,rfl⟩
      · simp only [zW,zX,zD,builtinA,isLeaf,const1,ustrA,simprocAttr,ti48,ca36,ca43,cf,Tryz.results21]
        exact .inl ⟨ys,h8,hr,hob,.inl ⟨i,h1,h2,rfl⟩⟩
      · simp only [zW,zX,zD,builtinA,isLeaf,const1,ustrA,simprocAttr,ti48,ca36,ca43,cf,Tryz.results21]
        exact .inl ⟨ys,h8,hr,hob,.inr ⟨h1,rfl⟩⟩
    | false =>
      rw [hob] at hsb
      simp only [zW,zX,zD,builtinA,isLeaf,const1,ustrA,simprocAttr,ti48,ca36,ca43,cf,Tryz.results21]
      exact .inr hsb
  · simp only [zW,zX,zD,builtinA,isLeaf,const1,ustrA,simprocAttr,ti48,ca36,ca43,cf,Tryz.results21]
    exact .inr (sigB_bad hb)
def CatO (A : List Box) (zs : List VI) (r : AV) (A' : List Box) : Prop :=
  ∃ B,A' = A ++ B ∧ ((zs = [] ∧ r = .nils) ∨ ∃ j,r = .own (A.length + j) ∧ j < B.length ∧ B.getD j .dead = .row 1 (vRows zs) 0)
set_option maxRecDepth 100000 in
theorem impl_Grow (n : Nat) (hn : n ≤ 1000) (A : List Box) : ACalls Tryz.prog 44 [.nils,.int .i64 n] A (fun r A'=>∃ B,A' = A ++ B ∧ ((n = 0 ∧ r = .nils) ∨ (0 < n ∧ ∃ j,r = .own (A.length + j) ∧ j < B.length ∧ B.getD j .dead = .row 1 [] 0))):=by
  have h0 : decide ((n : Int) < 0) = false:=decide_eq_false (by omega)
  have hw0 : IntKind.i64.wrap 0 = 0:=rfl
  have hw : IntKind.i64.wrap (n : Int) = n:=wrap64 (by omega) (by omega)
  by_cases hz : 0 < n
  · have h1 : decide ((n : Int) > 0) = true:=decide_eq_true (by omega)
    have h1' : decide ((0 : Int) < (n : Int)) = true:=decide_eq_true (by omega)
    refine acalls_enterK (cf:=cf 27 [0,1,4,6,16]) foll Tryz.func44 Tryz.ntmps44 (by simp [cf]) ?_
    simp only [Tryz.f44,EnterK_some,zW,zX,zD,builtinA,isLeaf,const1,ustrA,simprocAttr,ti3,ti9,ti44,ti51,cf,Tryz.results44]
    simp only [zW,zX,zD,builtinA,isLeaf,const1,ustrA,simprocAttr,ti3,ti9,ti44,ti51,cf,Tryz.results44,h0,hw0,Int.sub_zero,hw,h1,h1',countA]
    exact ⟨⟨by omega,by omega⟩,by omega,[.dead,.row 1 [] 0],rfl,hz,1,rfl,by simp,rfl⟩
  · have e : n = 0:=by omega
    subst e
    refine acalls_enterK (cf:=cf 27 [0,1,4,6,16]) foll Tryz.func44 Tryz.ntmps44 (by simp [cf]) ?_
    simp only [Tryz.f44,EnterK_some,zW,zX,zD,builtinA,isLeaf,const1,ustrA,simprocAttr,ti3,ti9,ti44,ti51,cf,Tryz.results44]
    simp only [zW,zX,zD,builtinA,isLeaf,const1,ustrA,simprocAttr,ti3,ti9,ti44,ti51,cf,Tryz.results44,hw0,hw,Int.sub_zero]
    exact ⟨[],by simp⟩
def pRows (ps : List (List VI)) : List (List AV):=ps.map fun p=>[.slice (vRows p)]
theorem pRows_length (ps : List (List VI)) : (pRows ps).length = ps.length:=by simp [pRows]
theorem pRows_getD {ps : List (List VI)} {i : Nat} (h : i < ps.length) : (pRows ps).getD i [] = [.slice (vRows (ps.getD i []))]:=by simp [pRows,List.getD,h]
def totP (ps : List (List VI)) : Nat:=(ps.map List.length).sum
theorem ps_take {ps : List (List VI)} {i : Nat} (h : i < ps.length) : ps.take (i + 1) = ps.take i ++ [ps.getD i []]:=by
  rw [List.take_add_one]; simp [List.getD,h]
theorem totP_take {ps : List (List VI)} {i : Nat} (h : i < ps.length) : totP (ps.take (i + 1)) = totP (ps.take i) + (ps.getD i []).length:=by
  rw [ps_take h]; simp [totP]
theorem totP_le (ps : List (List VI)) (i : Nat) : totP (ps.take i) ≤ totP ps:=by
  have h : totP ps = totP (ps.take i) + totP (ps.drop i):=by
    conv=>lhs; rw [← List.take_append_drop i ps]
    simp only [totP,List.map_append,List.sum_append]
  omega
theorem flat_take {ps : List (List VI)} {i : Nat} (h : i < ps.length) : (ps.take (i + 1)).flatten = (ps.take i).flatten ++ ps.getD i []:=by
  rw [ps_take h]; simp
theorem flat_len (ps : List (List VI)) : ps.flatten.length = totP ps:=by simp [totP,List.length_flatten]
theorem vRows_app (a b : List VI) : vRows (a ++ b) = vRows a ++ vRows b:=by simp [vRows]
set_option maxRecDepth 100000 in
set_option maxHeartbeats 1000000 in
theorem impl_Concat (ps : List (List VI)) (hl : ps.length ≤ 100) (ht : totP ps ≤ 1000) (A : List Box) : ACalls Tryz.prog 22 [.slice (pRows ps)] A (fun r A'=>CatO A ps.flatten r A'):=by
  refine acalls_enterK (cf:=cf 36 [0,2,3,5,6,8,9,10,11,12,20,25,26,27,28]) foll Tryz.func22 Tryz.ntmps22 (by simp [cf]) ?_
  simp only [Tryz.f22,EnterK_some,zW,zX,zD,builtinA,isLeaf,const1,ustrA,simprocAttr,ti3,ti9,ti44,ti51,ti90,ca44,cf,Tryz.results22]
  refine aloop_intro [0,3,9,10,11] (fun e A'=>∃ i,i ≤ ps.length ∧ e = [(0,.slice (pRows ps)),(3,.int .i64 (totP (ps.take i) : Nat)),(9,.slice (pRows ps)),(10,.int .i64 ps.length),(11,.int .i64 i)] ∧ A' = A) (fun e _=>ps.length - (intOf (Abs.look 11 e)).toNat) ?_ ?_
  · simp only [zW,zX,zD,builtinA,isLeaf,const1,ustrA,simprocAttr,ti3,ti9,ti44,ti51,ti90,ca44,cf,Tryz.results22,pRows_length]
    exact ⟨0,by omega,by simp [totP]⟩
  · rintro e A' ⟨i,hi,rfl,hA⟩
    have hA:=hA.symm
    subst hA
    have htl:=totP_le ps i
    by_cases hlt : i < ps.length
    · have d1 : decide ((i : Int) < (ps.length : Int)) = true:=by simp; omega
      have pi : 0 ≤ (i : Int) ∧ (i : Int) < (ps.length : Int):=by omega
      have hg:=pRows_getD hlt
      have htk:=totP_take hlt
      have htl1:=totP_le ps (i + 1)
      have hvl:=vRows_length (ps.getD i [])
      have hi1 : IntKind.i64.wrap ((i : Int) + 1) = ((i + 1 : Nat) : Int):=by rw [wrap64 (by omega) (by omega)]; rfl
      have hw : IntKind.i64.wrap ((totP (ps.take i) : Nat) + ((ps.getD i []).length : Nat) : Int) = ((totP (ps.take (i + 1)) : Nat) : Int):=by rw [wrap64 (by omega) (by omega)]; omega
      have d2 : decide (((totP (ps.take (i + 1)) : Nat) : Int) < 0) = false:=decide_eq_false (by omega)
      simp only [zW,zX,zD,builtinA,isLeaf,const1,ustrA,simprocAttr,ti3,ti9,ti44,ti51,ti90,ca44,cf,Tryz.results22,pRows_length,d1,hg,hvl,hw,d2,hi1,LoopK_eq]
      refine ⟨pi,⟨i + 1,by omega,rfl⟩,?_⟩
      simp only [intOf]; omega
    · have d1 : decide ((i : Int) < (ps.length : Int)) = false:=by simp; omega
      have e : i = ps.length:=by omega
      subst e
      rw [List.take_length] at htl ⊢
      simp only [zW,zX,zD,builtinA,isLeaf,const1,ustrA,simprocAttr,ti3,ti9,ti44,ti51,ti90,ca44,cf,Tryz.results22,pRows_length,d1]
      refine callO_intro (impl_Grow (totP ps) ht _) ?_
      rintro r A' ⟨B,rfl,hr⟩
      simp only [zW,zX,zD,builtinA,isLeaf,const1,ustrA,simprocAttr,ti3,ti9,ti44,ti51,ti90,ca44,cf,Tryz.results22,pRows_length]
      refine aloop_intro [6,25,26,27] (fun e A'=>∃ i r C,i ≤ ps.length ∧ e = [(6,r),(25,.slice (pRows ps)),(26,.int .i64 ps.length),(27,.int .i64 i)] ∧ A' = A ++ C ∧ ((totP ps = 0 ∧ r = .nils) ∨ ∃ j,r = .own (A.length + j) ∧ j < C.length ∧ C.getD j .dead = .row 1 (vRows (ps.take i).flatten) 0)) (fun e _=>ps.length - (intOf (Abs.look 27 e)).toNat) ?_ ?_
      · refine ⟨0,r,B,by omega,by first | rfl | (rw [pRows_length]),rfl,?_⟩
        rcases hr with ⟨h1,h2⟩ | ⟨h1,j,h2,h3,h4⟩
        · exact .inl ⟨h1,h2⟩
        · exact .inr ⟨j,h2,h3,by rw [h4]; rfl⟩
      · rintro e A' ⟨i,r,C,hi,rfl,rfl,hr⟩
        by_cases hlt : i < ps.length
        · have d1 : decide ((i : Int) < (ps.length : Int)) = true:=by simp; omega
          have pi : 0 ≤ (i : Int) ∧ (i : Int) < (ps.length : Int):=by omega
          have hg:=pRows_getD hlt
          have htk:=totP_take hlt
          have htl1:=totP_le ps (i + 1)
          have hfl:=flat_take hlt
          have hfn:=flat_len (ps.take i)
          have hvl:=vRows_length (ps.getD i [])
          have hvl2:=vRows_length (ps.take i).flatten
          have htl0:=totP_le ps i
          have hi1 : IntKind.i64.wrap ((i : Int) + 1) = ((i + 1 : Nat) : Int):=by rw [wrap64 (by omega) (by omega)]; rfl
          rcases hr with ⟨h0,rfl⟩ | ⟨j,rfl,hj,hgj⟩
          · have he : (ps.getD i []).length = 0:=by omega
            have he2 : (vRows (ps.getD i [])).length = 0:=by omega
            simp only [zW,zX,zD,builtinA,isLeaf,const1,ustrA,simprocAttr,ti3,ti9,ti44,ti51,ti90,ca44,cf,Tryz.results22,pRows_length,d1,hg,he2,hi1,LoopK_eq]
            refine ⟨pi,⟨i + 1,.nils,C,by omega,rfl,rfl,.inl ⟨h0,rfl⟩⟩,?_⟩
            simp only [intOf]; omega
          · have hg2 : (A ++ C).getD (A.length + j) .dead = .row 1 (vRows (ps.take i).flatten) 0:=by rw [Abs.getD_append_right (by omega),Nat.add_sub_cancel_left]; exact hgj
            simp only [zW,zX,zD,builtinA,isLeaf,const1,ustrA,simprocAttr,ti3,ti9,ti44,ti51,ti90,ca44,cf,Tryz.results22,pRows_length,d1,hg,hg2,hi1,LoopK_eq]
            have hset : (A ++ C).set (A.length + j) .dead = A ++ C.set j .dead:=by
              rw [List.set_append_right _ _ (by omega),show A.length + j - A.length = j by omega]
            refine ⟨pi,⟨fun r hr=>(vRows_leaf _ r hr).1,by omega⟩,⟨i + 1,_,C.set j .dead ++ [.row 1 (vRows (ps.take i).flatten ++ vRows (ps.getD i [])) 0],by omega,rfl,by first | rfl | (rw [hset]; simp),.inr ⟨C.length,rfl,by simp,?_⟩⟩,?_⟩
            · rw [Abs.getD_append_right (by simp),hfl,vRows_app]; simp
            · simp only [intOf]; omega
        · have d1 : decide ((i : Int) < (ps.length : Int)) = false:=by simp; omega
          have e : i = ps.length:=by omega
          subst e
          rw [List.take_length] at hr
          simp only [zW,zX,zD,builtinA,isLeaf,const1,ustrA,simprocAttr,ti3,ti9,ti44,ti51,ti90,ca44,cf,Tryz.results22,pRows_length,d1]
          refine ⟨C,rfl,?_⟩
          rcases hr with ⟨h0,rfl⟩ | ⟨j,rfl,hj,hgj⟩
          · exact .inl ⟨List.length_eq_zero_iff.1 (by rw [flat_len]; exact h0),rfl⟩
          · exact .inr ⟨j,rfl,hj,hgj⟩
def TT2 (_ : List Box) : Prop:=True ∧ True
theorem cat_frz {A0 A1 : List Box} {zs : List VI} {r : AV} (h : CatO A0 zs r A1) : ∃ A2,frzs [r] A1 = some ([.slice (vRows zs)],A2) ∧ A0.length ≤ A2.length ∧ ∀ k,k < A0.length → A2.getD k .dead = A0.getD k .dead:=by
  obtain ⟨B,rfl,⟨rfl,rfl⟩ | ⟨j,rfl,hj,hg⟩⟩:=h
  · exact ⟨A0 ++ B,rfl,by simp,fun k hk=>Abs.getD_append_left hk⟩
  · have h1 : (A0 ++ B).getD (A0.length + j) .dead = .row 1 (vRows zs) 0:=by rw [Abs.getD_append_right (by omega),show A0.length + j - A0.length = j by omega]; exact hg
    refine ⟨(A0 ++ B).set (A0.length + j) (.row 1 (vRows zs) (vRows zs).length),by simp only [frzs,frzC,frz1,h1],by simp,fun k hk=>?_⟩
    rw [getD_set_ne' (by omega),Abs.getD_append_left hk]
theorem sg_plain {A A2 A3 : List Box} {zs : List VI} {r : AV} (hl : A.length ≤ A2.length) (hf : ∀ k,k < A.length → A2.getD k .dead = A.getD k .dead) (h : ∃ j,r = .own j ∧ NewG A2 (zs.map siOf) j A3) : ∃ j,r = .own j ∧ SgOut A (zs.map siOf) true (.tuple [.own j,.bool true]) A3:=by
  obtain ⟨j,rfl,hle,hf2,rows,S,hgi,hO,hN,hge⟩:=h
  exact ⟨j,rfl,_,j :: S,rfl,.inr ⟨j,rows,S,rfl,rfl,hgi,hO⟩,hN,fun x hx=>by have:=hge x hx; omega,by omega,fun x hx=>by rw [hf2 x (by omega),hf x hx]⟩
theorem vRows_take (ys : List VI) (i : Nat) : (vRows ys).take i = vRows (ys.take i):=by simp [vRows,List.map_take]
theorem vRows_dropC (ys : List VI) (i : Nat) : (vRows ys).drop i = vRows (ys.drop i):=by simp [vRows,List.map_drop]
set_option maxRecDepth 100000 in
set_option maxHeartbeats 1000000 in
theorem impl_DropVal (s : List SigI) (hs : s.length ≤ 1048576) (ho : ∀ x ∈ s,x.Ok ∧ sz x.typ ≤ 1048576) (nm : List UInt8) (A : List Box) : ACalls Tryz.prog 14 [.slice (sEs s),.str nm] A (fun r A'=>SgOut A ((drT s nm).getD []) (drT s nm).isSome r A'):=by
  have hps:=fun A=>impl_readPosition s hs ho (true,nm) A
  have hk : kE (true,nm) = [.bool true,.str nm]:=rfl
  rw [hk] at hps
  refine acalls_enterK (cf:=cf 27 [0,1,4,5,6,7,16]) foll Tryz.func14 Tryz.ntmps14 (by simp [cf]) ?_
  simp only [Tryz.f14,EnterK_some,zW,zX,zD,builtinA,isLeaf,const1,ustrA,simprocAttr,ti3,ti44,ti48,ti51,ti90,ca21,ca22,ca23,cf,Tryz.results14]
  refine callK_intro (by simp only [zW,zX,zD,builtinA,isLeaf,const1,ustrA,simprocAttr,Option.map_some] <;> rfl) (hps _) ?_ rfl
  rintro r A' ⟨⟨ys,h8,hr,hord,⟨i,hi,hq,rfl⟩ | ⟨hn,rfl⟩⟩ | ⟨hb,rfl⟩,hA⟩
  · have hd:=drT_some h8 hr hord hi hq
    have hA:=hA.symm
    subst hA
    have d0 : decide ((i : Int) < 0) = false:=decide_eq_false (by omega)
    simp only [zW,zX,zD,builtinA,isLeaf,const1,ustrA,simprocAttr,ti3,ti44,ti48,ti51,ti90,ca21,ca22,ca23,cf,Tryz.results14,d0]
    have hw : IntKind.i64.wrap ((i : Int) + 1) = ((i + 1 : Nat) : Int):=by rw [wrap64 (by have:=hr.1; omega) (by have:=hr.1; omega)]; rfl
    have hyl:=hr.1
    have hvl:=vRows_length ys
    have hv1 : ∀ r ∈ vRows ys,r.length = 1:=fun r hr=>(vRows_leaf ys r hr).1
    have b1 : (i : Int) ≤ ((vRows ys).length : Int):=by omega
    have b2 : (0 : Int) ≤ (i : Int):=by omega
    refine .inr (drawI_intro (.pur 0 (.pur 1 (.pur 2 (.pur 3 (.pur 4 (.pur 5 (.pur 6 (.or 7 (.or 8 (.or 9 (.pur 10 (.pur 11 .done)) .stop) .stop) .stop)))))))) (TT2) (by kernel_rfl) ?_ ?_)
    · exact ⟨trivial,trivial⟩
    iterate 2 (refine wpI_pur_intro (v:=?_) _ rfl rfl (by decide) rfl (fun A' hI=>?_) ?_; rotate_left 1; (simp only [zW,zX,zD,builtinA,isLeaf,const1,ustrA,simprocAttr,ti3,ti44,ti48,ti51,ti90,ca21,ca22,ca23,cf,Tryz.results14,hI.1,hI.2,hw,hvl]; first | exact rfl | exact ⟨rfl,rfl⟩ | (refine ⟨by omega,?_⟩; exact rfl) | (refine ⟨⟨by omega,by omega⟩,?_⟩; exact rfl)))
    refine wpI_pur_intro (v:=.slice (vRows (ys.take i))) _ rfl rfl (by decide) rfl (fun A' hI=>?_) ?_
    · simp only [zW,zX,zD,builtinA,isLeaf,const1,ustrA,simprocAttr,ti3,ti44,ti48,ti51,ti90,ca21,ca22,ca23,cf,Tryz.results14,hvl]
      exact ⟨⟨hv1,by omega,by omega⟩,by rw [vRows_take]⟩
    iterate 3 (refine wpI_pur_intro (v:=?_) _ rfl rfl (by decide) rfl (fun A' hI=>?_) ?_; rotate_left 1; (simp only [zW,zX,zD,builtinA,isLeaf,const1,ustrA,simprocAttr,ti3,ti44,ti48,ti51,ti90,ca21,ca22,ca23,cf,Tryz.results14,hI.1,hI.2,hw,hvl]; first | exact rfl | exact ⟨rfl,rfl⟩ | (refine ⟨by omega,?_⟩; exact rfl) | (refine ⟨⟨by omega,by omega⟩,?_⟩; exact rfl)))
    refine wpI_pur_intro (v:=.slice (vRows (ys.drop (i + 1)))) _ rfl rfl (by decide) rfl (fun A' hI=>?_) ?_
    · simp only [zW,zX,zD,builtinA,isLeaf,const1,ustrA,simprocAttr,ti3,ti44,ti48,ti51,ti90,ca21,ca22,ca23,cf,Tryz.results14,hvl]
      refine ⟨⟨hv1,by omega,by omega,by omega⟩,?_⟩
      rw [List.take_of_length_le (by omega : (vRows ys).length ≤ ys.length),vRows_dropC]
    have hps2 : totP [ys.take i,ys.drop (i + 1)] ≤ 1000:=by simp [totP]; omega
    have hfz : frzs [.own A.length] (A ++ [.row 1 (pRows [ys.take i,ys.drop (i + 1)]) 0]) = some ([.slice (pRows [ys.take i,ys.drop (i + 1)])],A ++ [.row 1 (pRows [ys.take i,ys.drop (i + 1)]) 2]):=by
      simp [frzs,frzC,frz1,pRows]
    have hcat:=impl_Concat [ys.take i,ys.drop (i + 1)] (by simp) hps2 (A ++ [.row 1 (pRows [ys.take i,ys.drop (i + 1)]) 2])
    have hfl : [ys.take i,ys.drop (i + 1)].flatten = dropI ys i:=by simp [dropI]
    rw [hfl] at hcat
    rw [hd]
    simp only [zW,zX,zD,builtinA,isLeaf,const1,ustrA,simprocAttr,ti3,ti44,ti48,ti51,ti90,ca21,ca22,ca23,cf,Tryz.results14,wpI_or_eq,wpI_stop_eq,wpI_done_eq]
    refine ⟨⟨fun v hv=>by rw [List.mem_singleton.1 hv],fun v hv=>by rw [List.mem_singleton.1 hv]⟩,⟨trivial,trivial⟩,?_⟩
    refine callK_intro hfz hcat ?_ rfl
    rintro r A1 hc
    obtain ⟨A2,hfz2,hl2,hf2⟩:=cat_frz hc
    simp only [zW,zX,zD,builtinA,isLeaf,const1,ustrA,simprocAttr,ti3,ti44,ti48,ti51,ti90,ca21,ca22,ca23,cf,Tryz.results14,wpI_or_eq,wpI_stop_eq,wpI_done_eq]
    refine ⟨⟨trivial,trivial⟩,?_⟩
    refine callK_intro hfz2 (impl_plainSig (dropI ys i) (by have:=dropI_len hi; omega) A2) ?_ rfl
    rintro r A3 hpl
    have hl0 : A.length ≤ A2.length:=by simp at hl2; omega
    obtain ⟨j,rfl,hsg⟩:=sg_plain (A:=A) hl0 (fun k hk=>by rw [hf2 k (by simp; omega),Abs.getD_append_left hk]) hpl
    simp only [zW,zX,zD,builtinA,isLeaf,const1,ustrA,simprocAttr,ti3,ti44,ti48,ti51,ti90,ca21,ca22,ca23,cf,Tryz.results14,wpI_or_eq,wpI_stop_eq,wpI_done_eq]
    refine ⟨⟨trivial,trivial⟩,?_⟩
    iterate 2 (refine wpI_pur_intro (v:=?_) _ rfl rfl (by decide) rfl (fun A' hI=>?_) ?_; rotate_left 1; (simp only [zW,zX,zD,builtinA,isLeaf,const1,ustrA,simprocAttr,ti3,ti44,ti48,ti51,ti90,ca21,ca22,ca23,cf,Tryz.results14,hI.1,hI.2]; first | exact rfl | exact ⟨rfl,rfl⟩ | (refine ⟨by omega,?_⟩; exact rfl) | (refine ⟨⟨by omega,by omega⟩,?_⟩; exact rfl)))
    simp only [zW,zX,zD,builtinA,isLeaf,const1,ustrA,simprocAttr,ti3,ti44,ti48,ti51,ti90,ca21,ca22,ca23,cf,Tryz.results14,wpI_done_eq]
    exact hsg
  · have hd:=drT_none hr hn
    rw [hd]
    subst hA
    have hsn:=sg_none A' []
    rw [List.append_nil] at hsn
    simp only [zW,zX,zD,builtinA,isLeaf,const1,ustrA,simprocAttr,ti3,ti44,ti48,ti51,ti90,ca21,ca22,ca23,cf,Tryz.results14]
    exact hsn
  · have hd:=drT_bad (nm:=nm) hb
    rw [hd]
    subst hA
    have hsn:=sg_none A' []
    rw [List.append_nil] at hsn
    simp only [zW,zX,zD,builtinA,isLeaf,const1,ustrA,simprocAttr,ti3,ti44,ti48,ti51,ti90,ca21,ca22,ca23,cf,Tryz.results14]
    exact hsn
set_option maxRecDepth 100000 in
set_option maxHeartbeats 1000000 in
theorem impl_AbstractType (s : List SigI) (hs : s.length ≤ 1048576) (ho : ∀ x ∈ s,x.Ok ∧ sz x.typ ≤ 1048576) (nm : List UInt8) (A : List Box) : ACalls Tryz.prog 7 [.slice (sEs s),.str nm] A (fun r A'=>SgOut A ((abT s nm).getD []) (abT s nm).isSome r A'):=by
  have hps:=fun A=>impl_readPosition s hs ho (false,nm) A
  have hk : kE (false,nm) = [.bool false,.str nm]:=rfl
  rw [hk] at hps
  refine acalls_enterK (cf:=cf 31 [0,1,4,5,6,7,16]) foll Tryz.func7 Tryz.ntmps7 (by simp [cf]) ?_
  simp only [Tryz.f7,EnterK_some,zW,zX,zD,builtinA,isLeaf,const1,ustrA,simprocAttr,ti3,ti44,ti48,ti51,ti53,ti90,ca21,ca22,ca23,cf,Tryz.results7]
  refine callK_intro (by simp only [zW,zX,zD,builtinA,isLeaf,const1,ustrA,simprocAttr,Option.map_some] <;> rfl) (hps _) ?_ rfl
  rintro r A' ⟨⟨ys,h8,hr,hord,⟨i,hi,hq,rfl⟩ | ⟨hn,rfl⟩⟩ | ⟨hb,rfl⟩,hA⟩
  · have hd:=abT_some h8 hr hord hi hq
    have hA:=hA.symm
    subst hA
    have d0 : decide ((i : Int) < 0) = false:=decide_eq_false (by omega)
    simp only [zW,zX,zD,builtinA,isLeaf,const1,ustrA,simprocAttr,ti3,ti44,ti48,ti51,ti53,ti90,ca21,ca22,ca23,cf,Tryz.results7,d0]
    have hw : IntKind.i64.wrap ((i : Int) + 1) = ((i + 1 : Nat) : Int):=by rw [wrap64 (by have:=hr.1; omega) (by have:=hr.1; omega)]; rfl
    have hyl:=hr.1
    have hvl:=vRows_length ys
    have hv1 : ∀ r ∈ vRows ys,r.length = 1:=fun r hr=>(vRows_leaf ys r hr).1
    refine .inr (drawI_intro (.pur 0 (.pur 1 (.pur 2 (.pur 3 (.pur 4 (.pur 5 (.pur 7 (.pur 8 (.pur 9 (.pur 10 (.or 6 (.or 11 (.or 12 (.or 13 (.pur 14 (.pur 15 .done)) .stop) .stop) .stop) .stop))))))))))) (TT2) (by kernel_rfl) ?_ ?_)
    · exact ⟨trivial,trivial⟩
    iterate 2 (refine wpI_pur_intro (v:=?_) _ rfl rfl (by decide) rfl (fun A' hI=>?_) ?_; rotate_left 1; (simp only [zW,zX,zD,builtinA,isLeaf,const1,ustrA,simprocAttr,ti3,ti44,ti48,ti51,ti53,ti90,ca21,ca22,ca23,cf,Tryz.results7,hI.1,hI.2,hw,hvl]; first | exact rfl | exact ⟨rfl,rfl⟩ | (refine ⟨by omega,?_⟩; exact rfl) | (refine ⟨⟨by omega,by omega⟩,?_⟩; exact rfl)))
    refine wpI_pur_intro (v:=.slice (vRows (ys.take i))) _ rfl rfl (by decide) rfl (fun A' hI=>?_) ?_
    · simp only [zW,zX,zD,builtinA,isLeaf,const1,ustrA,simprocAttr,ti3,ti44,ti48,ti51,ti53,ti90,ca21,ca22,ca23,cf,Tryz.results7,hvl]
      exact ⟨⟨hv1,by omega,by omega⟩,by rw [vRows_take]⟩
    iterate 3 (refine wpI_pur_intro (v:=?_) _ rfl rfl (by decide) rfl (fun A' hI=>?_) ?_; rotate_left 1; (simp only [zW,zX,zD,builtinA,isLeaf,const1,ustrA,simprocAttr,ti3,ti44,ti48,ti51,ti53,ti90,ca21,ca22,ca23,cf,Tryz.results7,hI.1,hI.2,hw,hvl]; first | exact rfl | exact ⟨rfl,rfl⟩ | (refine ⟨by omega,?_⟩; exact rfl) | (refine ⟨⟨by omega,by omega⟩,?_⟩; exact rfl)))
    iterate 3 (refine wpI_pur_intro (v:=?_) _ rfl rfl (by decide) rfl (fun A' hI=>?_) ?_; rotate_left 1; (simp only [zW,zX,zD,builtinA,isLeaf,const1,ustrA,simprocAttr,ti3,ti44,ti48,ti51,ti53,ti90,ca21,ca22,ca23,cf,Tryz.results7,hI.1,hI.2,hw,hvl]; first | exact rfl | exact ⟨rfl,rfl⟩ | (refine ⟨by omega,?_⟩; exact rfl) | (refine ⟨⟨by omega,by omega⟩,?_⟩; exact rfl)))
    refine wpI_pur_intro (v:=.slice (vRows (ys.drop (i + 1)))) _ rfl rfl (by decide) rfl (fun A' hI=>?_) ?_
    · simp only [zW,zX,zD,builtinA,isLeaf,const1,ustrA,simprocAttr,ti3,ti44,ti48,ti51,ti53,ti90,ca21,ca22,ca23,cf,Tryz.results7,hvl]
      refine ⟨⟨hv1,by omega,by omega,by omega⟩,?_⟩
      rw [List.take_of_length_le (by omega : (vRows ys).length ≤ ys.length),vRows_dropC]
    have hps2 : totP [ys.take i,[.ab nm],ys.drop (i + 1)] ≤ 1000:=by simp [totP]; omega
    have hfl : [ys.take i,[VI.ab nm],ys.drop (i + 1)].flatten = abI ys nm i:=by simp [abI]
    rw [hd]
    simp only [zW,zX,zD,builtinA,isLeaf,const1,ustrA,simprocAttr,ti3,ti44,ti48,ti51,ti53,ti90,ca21,ca22,ca23,cf,Tryz.results7,wpI_or_eq,wpI_stop_eq,wpI_done_eq]
    have hleaf : ∀ x : AV,isLeaf x = true → ∀ v ∈ [x],isLeaf v = true:=fun x hx v hv=>by rw [List.mem_singleton.1 hv]; exact hx
    have hfz : ∀ q,frzs [.own (A.length + 1)] (A ++ [q,.row 1 (pRows [ys.take i,[.ab nm],ys.drop (i + 1)]) 0]) = some ([.slice (pRows [ys.take i,[.ab nm],ys.drop (i + 1)])],A ++ [q,.row 1 (pRows [ys.take i,[.ab nm],ys.drop (i + 1)]) 3]):=fun q=>by
      simp [frzs,frzC,frz1,pRows]
    have hcat:=fun q=>impl_Concat [ys.take i,[.ab nm],ys.drop (i + 1)] (by simp) hps2 (A ++ [q,.row 1 (pRows [ys.take i,[.ab nm],ys.drop (i + 1)]) 3])
    rw [hfl] at hcat
    refine ⟨hleaf _ rfl,⟨trivial,trivial⟩,⟨hleaf _ rfl,hleaf _ rfl,hleaf _ rfl⟩,⟨trivial,trivial⟩,?_⟩
    refine callK_intro (hfz _) (hcat _) ?_ rfl
    rintro r A1 hc
    obtain ⟨A2,hfz2,hl2,hf2⟩:=cat_frz hc
    simp only [zW,zX,zD,builtinA,isLeaf,const1,ustrA,simprocAttr,ti3,ti44,ti48,ti51,ti53,ti90,ca21,ca22,ca23,cf,Tryz.results7,wpI_or_eq,wpI_stop_eq,wpI_done_eq]
    refine ⟨⟨trivial,trivial⟩,?_⟩
    refine callK_intro hfz2 (impl_plainSig (abI ys nm i) (by simp only [abI,List.length_append,List.length_take,List.length_cons,List.length_drop]; omega) A2) ?_ rfl
    rintro r A3 hpl
    have hl0 : A.length ≤ A2.length:=by simp at hl2; omega
    obtain ⟨j,rfl,hsg⟩:=sg_plain (A:=A) hl0 (fun k hk=>by rw [hf2 k (by simp; omega),Abs.getD_append_left hk]) hpl
    simp only [zW,zX,zD,builtinA,isLeaf,const1,ustrA,simprocAttr,ti3,ti44,ti48,ti51,ti53,ti90,ca21,ca22,ca23,cf,Tryz.results7,wpI_or_eq,wpI_stop_eq,wpI_done_eq]
    refine ⟨⟨trivial,trivial⟩,?_⟩
    iterate 2 (refine wpI_pur_intro (v:=?_) _ rfl rfl (by decide) rfl (fun A' hI=>?_) ?_; rotate_left 1; (simp only [zW,zX,zD,builtinA,isLeaf,const1,ustrA,simprocAttr,ti3,ti44,ti48,ti51,ti53,ti90,ca21,ca22,ca23,cf,Tryz.results7,hI.1,hI.2]; first | exact rfl | exact ⟨rfl,rfl⟩ | (refine ⟨by omega,?_⟩; exact rfl) | (refine ⟨⟨by omega,by omega⟩,?_⟩; exact rfl)))
    simp only [zW,zX,zD,builtinA,isLeaf,const1,ustrA,simprocAttr,ti3,ti44,ti48,ti51,ti53,ti90,ca21,ca22,ca23,cf,Tryz.results7,wpI_done_eq]
    exact hsg
  · have hd:=abT_none hr hn
    rw [hd]
    subst hA
    have hsn:=sg_none A' []
    rw [List.append_nil] at hsn
    simp only [zW,zX,zD,builtinA,isLeaf,const1,ustrA,simprocAttr,ti3,ti44,ti48,ti51,ti53,ti90,ca21,ca22,ca23,cf,Tryz.results7]
    exact hsn
  · have hd:=abT_bad (nm:=nm) hb
    rw [hd]
    subst hA
    have hsn:=sg_none A' []
    rw [List.append_nil] at hsn
    simp only [zW,zX,zD,builtinA,isLeaf,const1,ustrA,simprocAttr,ti3,ti44,ti48,ti51,ti53,ti90,ca21,ca22,ca23,cf,Tryz.results7]
    exact hsn
end Go.Proofs.YtejbjgmgdbcddaaGreatDoor
