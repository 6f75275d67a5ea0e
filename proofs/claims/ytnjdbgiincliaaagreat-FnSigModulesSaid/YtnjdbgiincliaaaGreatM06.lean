/- ModsD, ModsI, KeysLay, SigPure, LawTy, Nams, ModsJ. -/
import Derived.Test.YtnjdbgiincliaaaGreatM05
import Derived.Test.YtnjdbgiincliaaaGreatAbsW3
import Derived.Shelf.SlIter.Nil
import Derived.Shelf.SortM.Plain
import Derived.Shelf.SortM.SortNone
/- Sets of modules as data: what was collected, and the flags of letters. -/
set_option linter.unusedVariables false
set_option linter.unusedSimpArgs false
namespace Go.Abs
open Go
def insM (ks : List (List UInt8)) (q : List UInt8) : List (List UInt8):=if q = [] then ks else if q ∈ ks then ks else ks ++ [q]
theorem insM_nodup {ks : List (List UInt8)} (h : ks.Nodup) (q : List UInt8) : (insM ks q).Nodup:=by
  unfold insM
  split
  · exact h
  · split
    · exact h
    · rename_i h1 h2
      exact List.nodup_append.2 ⟨h,by simp,fun a ha b hb e=>h2 (by rw [List.mem_singleton.1 hb] at e; rwa [e] at ha)⟩
theorem insM_mem {ks : List (List UInt8)} {q x : List UInt8} : x ∈ insM ks q ↔ x ∈ ks ∨ (x = q ∧ q ≠ []):=by
  unfold insM
  split
  · rename_i h; simp [h]
  · rename_i h
    split
    · rename_i h2
      constructor
      · exact .inl
      · rintro (hx | ⟨rfl,_⟩)
        · exact hx
        · exact h2
    · simp [h]
theorem insM_len (ks : List (List UInt8)) (q : List UInt8) : (insM ks q).length ≤ ks.length + 1:=by
  unfold insM; split
  · omega
  · split
    · omega
    · simp
def insMs (ks : List (List UInt8)) (qs : List (List UInt8)) : List (List UInt8):=qs.foldl insM ks
theorem insMs_nodup : ∀ (qs : List (List UInt8)) {ks : List (List UInt8)},ks.Nodup → (insMs ks qs).Nodup
  | [],_,h=>h
  | q :: qs,_,h=>insMs_nodup qs (insM_nodup h q)
theorem insMs_mem : ∀ (qs ks : List (List UInt8)) (x : List UInt8),x ∈ insMs ks qs ↔ x ∈ ks ∨ (x ∈ qs ∧ x ≠ [])
  | [],ks,x=>by simp [insMs]
  | q :: qs,ks,x=>by
    have h:=insMs_mem qs (insM ks q) x
    have e : insMs ks (q :: qs) = insMs (insM ks q) qs:=rfl
    rw [e,h,insM_mem,List.mem_cons]
    constructor
    · rintro ((h | ⟨rfl,h⟩) | ⟨h1,h2⟩)
      · exact .inl h
      · exact .inr ⟨.inl rfl,h⟩
      · exact .inr ⟨.inr h1,h2⟩
    · rintro (h | ⟨rfl | h1,h2⟩)
      · exact .inl (.inl h)
      · exact .inl (.inr ⟨rfl,h2⟩)
      · exact .inr ⟨h1,h2⟩
theorem insMs_app (ks qs rs : List (List UInt8)) : insMs ks (qs ++ rs) = insMs (insMs ks qs) rs:=List.foldl_append
theorem insMs_len : ∀ (qs ks : List (List UInt8)),(insMs ks qs).length ≤ ks.length + qs.length
  | [],ks=>by simp [insMs]
  | q :: qs,ks=>by
    have h:=insMs_len qs (insM ks q)
    have h2:=insM_len ks q
    have e : insMs ks (q :: qs) = insMs (insM ks q) qs:=rfl
    rw [e,List.length_cons]; omega
def letJ (j : Nat) : List UInt8:=[UInt8.ofNat (65 + j)]
theorem letJ_inj {i j : Nat} (hi : i < 26) (hj : j < 26) (h : letJ i = letJ j) : i = j:=by
  simp only [letJ,List.cons.injEq,and_true] at h
  have:=congrArg UInt8.toNat h
  simp at this
  omega
theorem letJ_le {i j : Nat} (h : i < j) (hj : j < 26) : letJ i ≤ letJ j:=by
  simp only [letJ]
  refine List.le_of_lt ?_
  rw [List.cons_lt_cons_iff]
  refine .inl ?_
  rw [UInt8.lt_iff_toNat_lt]
  simp
  omega
def letters (fl : List Bool) : Nat → List (List UInt8)
  | 0=>[]
  | n + 1=>letters fl n ++ (if fl.getD n false = true then [letJ n] else [])
theorem letters_mem (fl : List Bool) : ∀ (n : Nat) (q : List UInt8),q ∈ letters fl n ↔ ∃ j,j < n ∧ fl.getD j false = true ∧ q = letJ j
  | 0,q=>by simp [letters]
  | n + 1,q=>by
    rw [letters,List.mem_append,letters_mem fl n q]
    constructor
    · rintro (⟨j,h1,h2,h3⟩ | h)
      · exact ⟨j,by omega,h2,h3⟩
      · split at h
        · rename_i hf
          exact ⟨n,by omega,hf,List.mem_singleton.1 h⟩
        · cases h
    · rintro ⟨j,h1,h2,h3⟩
      by_cases hj : j < n
      · exact .inl ⟨j,hj,h2,h3⟩
      · obtain rfl : j = n:=by omega
        exact .inr (by rw [if_pos h2]; simp [h3])
theorem letters_pair (fl : List Bool) : ∀ (n : Nat),n ≤ 26 → (letters fl n).Pairwise (fun a b=>a ≠ b ∧ decide (a ≤ b) = true)
  | 0,_=>by simp [letters]
  | n + 1,hn=>by
    rw [letters]
    refine List.pairwise_append.2 ⟨letters_pair fl n (by omega),?_,?_⟩
    · split <;> simp
    · intro a ha b hb
      split at hb
      · rw [List.mem_singleton.1 hb]
        obtain ⟨j,h1,_,rfl⟩:=(letters_mem fl n a).1 ha
        exact ⟨fun e=>by have:=letJ_inj (by omega) (by omega) e; omega,decide_eq_true (letJ_le h1 (by omega))⟩
      · cases hb
theorem srt_letters {ks : List (List UInt8)} {fl : List Bool} (hn : ks.Nodup) (h : ∀ q,q ∈ ks ↔ ∃ j,j < 26 ∧ fl.getD j false = true ∧ q = letJ j) : srt ks = letters fl 26:=by
  have hp:=letters_pair fl 26 (Nat.le_refl _)
  have hperm : ks.Perm (letters fl 26):=(List.perm_ext_iff_of_nodup hn (hp.imp fun h=>h.1)).2 fun q=>by rw [h q,letters_mem]
  have h1 : srt ks = srt (letters fl 26):=mergeSort_of_perm hperm
  rw [h1]
  exact List.mergeSort_of_pairwise (hp.imp fun h=>h.2)
def setF (fl : List Bool) (q : List UInt8) : List Bool:=if q = [] then fl else fl.set ((q.getD 0 0).toNat - 65) true
def setFs (fl : List Bool) (qs : List (List UInt8)) : List Bool:=qs.foldl setF fl
def isLet (q : List UInt8) : Prop:=∃ j,j < 26 ∧ q = letJ j
theorem setF_len (fl : List Bool) (q : List UInt8) : (setF fl q).length = fl.length:=by unfold setF; split <;> simp
theorem setFs_len : ∀ (qs : List (List UInt8)) (fl : List Bool),(setFs fl qs).length = fl.length
  | [],fl=>rfl
  | q :: qs,fl=>by
    have e : setFs fl (q :: qs) = setFs (setF fl q) qs:=rfl
    rw [e,setFs_len qs,setF_len]
theorem letJ_at {j : Nat} (hj : j < 26) : ((letJ j).getD 0 0).toNat - 65 = j:=by
  simp [letJ,List.getD]
  omega
theorem setF_get {fl : List Bool} (hl : fl.length = 26) {q : List UInt8} (hq : q ≠ [] → isLet q) (j : Nat) (hj : j < 26) : (setF fl q).getD j false = true ↔ fl.getD j false = true ∨ (q = letJ j):=by
  unfold setF
  split
  · rename_i h
    have : q ≠ letJ j:=by rw [h]; simp [letJ]
    simp [this]
  · rename_i h
    obtain ⟨k,hk,rfl⟩:=hq h
    rw [letJ_at hk]
    by_cases hkj : k = j
    · subst hkj
      simp [List.getD,hl,hk]
    · have : letJ k ≠ letJ j:=fun e=>hkj (letJ_inj hk hj e)
      simp [List.getD,List.getElem?_set_ne hkj,this]
theorem setFs_get : ∀ (qs : List (List UInt8)) {fl : List Bool} (hl : fl.length = 26) (hq : ∀ q ∈ qs,q ≠ [] → isLet q) (j : Nat) (hj : j < 26),(setFs fl qs).getD j false = true ↔ fl.getD j false = true ∨ letJ j ∈ qs
  | [],fl,hl,hq,j,hj=>by simp [setFs]
  | q :: qs,fl,hl,hq,j,hj=>by
    have e : setFs fl (q :: qs) = setFs (setF fl q) qs:=rfl
    rw [e,setFs_get qs (by rw [setF_len,hl]) (fun x hx=>hq x (.tail _ hx)) j hj,setF_get hl (hq q (.head _)) j hj,List.mem_cons]
    constructor
    · rintro ((h | h) | h)
      · exact .inl h
      · exact .inr (.inl h.symm)
      · exact .inr (.inr h)
    · rintro (h | h | h)
      · exact .inl (.inl h)
      · exact .inl (.inr h.symm)
      · exact .inr h
theorem mods_eq {ms ns : List (List UInt8)} (hm : ∀ q ∈ ms,q ≠ [] → isLet q) (h : ∀ q,q ∈ ms ↔ q ∈ ns) : srt (insMs [] ms) = letters (setFs (List.replicate 26 false) ns) 26:=by
  refine srt_letters (insMs_nodup ms (by simp)) fun q=>?_
  rw [insMs_mem]
  have hf : ∀ j,j < 26 → ((setFs (List.replicate 26 false) ns).getD j false = true ↔ letJ j ∈ ns):=fun j hj=>by
    rw [setFs_get ns (by simp) (fun q hq=>hm q ((h q).2 hq)) j hj]
    have : (List.replicate 26 false).getD j false = false:=by rw [List.getD_eq_getElem?_getD,List.getElem?_replicate]; split <;> rfl
    rw [this]; simp
  constructor
  · rintro (h' | ⟨h1,h2⟩)
    · cases h'
    · obtain ⟨j,hj,rfl⟩:=hm q h1 h2
      exact ⟨j,hj,(hf j hj).2 ((h _).1 h1),rfl⟩
  · rintro ⟨j,hj,h1,rfl⟩
    exact .inr ⟨(h _).2 ((hf j hj).1 h1),by simp [letJ]⟩
theorem srt_mem {l : List (List UInt8)} {q : List UInt8} : q ∈ srt (insMs [] l) ↔ q ∈ l ∧ q ≠ []:=by
  rw [srt,List.mem_mergeSort,insMs_mem]
  simp
end Go.Abs
/- The program's collecting of modules. -/
set_option linter.unusedVariables false
set_option linter.unusedSimpArgs false
namespace Go.Proofs.YtnjdbgiincliaaaGreat
open Go.Abs
theorem find_set (q : List UInt8) : ∀ (ks : List (List UInt8)) (n : Nat),(q ∉ ks → findS q (setK ks) n = some none) ∧ (q ∈ ks → ∃ j,findS q (setK ks) n = some (some (n + j,.bool true)) ∧ ks[j]? = some q)
  | [],n=>⟨fun _=>rfl,fun h=>by cases h⟩
  | p :: ks,n=>by
    obtain ⟨h1,h2⟩:=find_set q ks (n + 1)
    simp only [setK,List.map_cons,findS] at h1 h2 ⊢
    by_cases h : q = p
    · rw [if_pos h]
      exact ⟨fun hn=>absurd (by rw [h]; exact .head _) hn,fun _=>⟨0,rfl,by rw [h]; rfl⟩⟩
    · rw [if_neg h]
      refine ⟨fun hn=>h1 fun hm=>hn (.tail _ hm),fun hm=>?_⟩
      obtain ⟨j,e1,e2⟩:=h2 (by rcases List.mem_cons.1 hm with e | e; exact absurd e h; exact e)
      exact ⟨j + 1,by rw [e1]; simp; omega,by simpa using e2⟩
theorem upd_set {q : List UInt8} (ks : List (List UInt8)) (hq : q ≠ []) : ∃ r,findS q (setK ks) 0 = some r ∧ updS r q (.bool true) (setK ks) = setK (insM ks q):=by
  obtain ⟨h1,h2⟩:=find_set q ks 0
  unfold insM
  rw [if_neg hq]
  by_cases h : q ∈ ks
  · obtain ⟨j,e1,e2⟩:=h2 h
    refine ⟨_,e1,?_⟩
    rw [if_pos h]
    simp only [updS,Nat.zero_add]
    refine List.ext_getElem? fun k=>?_
    by_cases hk : j = k
    · subst hk
      obtain ⟨hj,e3⟩:=List.getElem?_eq_some_iff.1 e2
      simp [setK,List.getElem?_set,hj,e3]
    · rw [List.getElem?_set_ne hk]
  · refine ⟨_,h1 h,?_⟩
    rw [if_neg h]
    simp [updS,setK]
theorem setK_closed (n : Nat) (ks : List (List UInt8)) : boxClosed n (.mapb (setK ks)) = true:=by
  simp only [boxClosed,setK,List.all_map,List.all_eq_true]
  intro q hq
  rfl
def MS (i : Nat) (ks : List (List UInt8)) (A : List Box) : Prop:=A.getD i .dead = .mapb (setK ks) ∧ i < A.length
theorem MS.app {i : Nat} {ks : List (List UInt8)} {A : List Box} (h : MS i ks A) (B : List Box) : MS i ks (A ++ B):=⟨by rw [Abs.getD_append_left h.2]; exact h.1,by have:=h.2; simp; omega⟩
def cM (i : Nat) : AV:=.func (.func 93) [.map i] []
set_option maxRecDepth 100000 in
theorem vis_mod (i : Nat) (ks : List (List UInt8)) (q : List UInt8) (A : List Box) (h : MS i ks A) : ACalls Tryz.prog 183 [.map i,.str q] A (fun _ A'=>MS i (insM ks q) A' ∧ FrK i A A'):=by
  obtain ⟨h1,h2⟩:=h
  by_cases hq : q = []
  · have e : insM ks q = ks:=by rw [insM,if_pos hq]
    rw [e]
    refine acalls_enter (cf:=cf 8 [0,1,5]) foll Tryz.func183 Tryz.ntmps183 (by simp [cf]) ?_
    simp only [Tryz.f183,EnterK_some,zW,zX,zD,builtinA,isLeaf,const1,ustrA,simprocAttr,ti9,ti144,mi144,cf,Tryz.results183]
    simp only [zW,zX,zD,builtinA,isLeaf,const1,ustrA,simprocAttr,ti9,ti144,mi144,cf,Tryz.results183,decide_eq_true hq]
    exact ⟨⟨h1,h2⟩,FrK.refl _ _⟩
  · obtain ⟨r,f1,f2⟩:=upd_set ks hq
    have hfin : MS i (insM ks q) (A.set i (.mapb (setK (insM ks q)))) ∧ FrK i A (A.set i (.mapb (setK (insM ks q)))) :=
      ⟨⟨getD_set_self h2,by simpa using h2⟩,by simp,fun k hk hne=>getD_set_ne' (Ne.symm hne)⟩
    refine acalls_enter (cf:=cf 8 [0,1,5]) foll Tryz.func183 Tryz.ntmps183 (by simp [cf]) ?_
    simp only [Tryz.f183,EnterK_some,zW,zX,zD,builtinA,isLeaf,const1,ustrA,simprocAttr,ti9,ti144,mi144,cf,Tryz.results183]
    simp only [zW,zX,zD,builtinA,isLeaf,const1,ustrA,simprocAttr,ti9,ti144,mi144,cf,Tryz.results183,decide_eq_false hq,h1,f1,f2]
    exact ⟨outer_set0 A i _ (setK_closed _ _),hfin⟩
set_option maxRecDepth 100000 in
theorem vis_mty (i : Nat) (ks : List (List UInt8)) (m n : List UInt8) (A : List Box) (h : MS i ks A) : ACalls Tryz.prog 93 [.map i,.agg [.str m,.str n]] A (fun _ A'=>MS i (insM ks m) A' ∧ FrK i A A'):=by
  have hv:=vis_mod i ks m (A ++ [.cells [.str m,.str n]]) (h.app _)
  refine acalls_enterK (cf:=cf 8 [0,1,3]) foll Tryz.func93 Tryz.ntmps93 (by simp [cf]) ?_
  simp only [Tryz.f93,EnterK_some,zW,zX,zD,builtinA,isLeaf,const1,ustrA,simprocAttr,ti9,ti180,ca183,cf,Tryz.results93]
  refine callO_intro hv ?_
  rintro r A' ⟨h1,f1⟩
  simp only [zW,zX,zD,builtinA,isLeaf,const1,ustrA,simprocAttr,ti9,ti180,ca183,cf,Tryz.results93]
  exact ⟨h1,(FrK.app _ _ _).trans f1⟩
def mdV : VT → List (List UInt8)
  | .num=>[]
  | .nm m _=>[m]
  | .fn a b=>mdV a ++ mdV b
def mdI : VI → List (List UInt8)
  | .ab _=>[]
  | .al _ v=>mdV v
  | .va _ v=>mdV v
def EaM (v : VT) : Prop:=∀ (i : Nat) (ks : List (List UInt8)) (A : List Box),MS i ks A → ACalls Tryz.prog ((pickF 429 436 358) v) [vX v,cM i] A (fun _ A'=>MS i (insMs ks (mdV v)) A' ∧ FrK i A A')
set_option maxRecDepth 100000 in
theorem num_ea : EaM .num:=fun i ks A h=>by
  show ACalls Tryz.prog 429 _ _ _
  rw [vX]
  refine acalls_enterK (cf:=cf 4 [0]) foll Tryz.func429 Tryz.ntmps429 (by simp [cf]) ?_
  simp only [Tryz.f429,EnterK_some,zW,zX,zD,builtinA,isLeaf,const1,ustrA,simprocAttr,ti369,cf,Tryz.results429]
  exact ⟨h.app _,FrK.app _ _ _⟩
set_option maxRecDepth 100000 in
theorem name_ea (m k : List UInt8) : EaM (.nm m k):=fun i ks A h=>by
  show ACalls Tryz.prog 358 _ _ _
  rw [vX,cM]
  refine acalls_enterK (cf:=cf 7 [0,1,2]) foll Tryz.func358 Tryz.ntmps358 (by simp [cf]) ?_
  simp only [Tryz.f358,EnterK_some,zW,zX,zD,builtinA,isLeaf,const1,ustrA,simprocAttr,ti180,cf,Tryz.results358]
  refine wpO_callv _ _ _ _ _ _ _ _ _ _ _ _ _ _ _ ?_
  simp only [zW,zX,zD,builtinA,isLeaf,const1,ustrA,simprocAttr,ti180,cf,Tryz.results358]
  refine ⟨by kernel_rfl,?_⟩
  refine callK_intro (by simp only [zW,zX,zD,builtinA,isLeaf,const1,ustrA,simprocAttr,List.nil_append,List.append_nil,List.cons_append] <;> rfl) (vis_mty i ks m k _ (h.app _)) ?_ rfl
  rintro r A' ⟨h1,h2⟩
  simp only [zW,zX,zD,builtinA,isLeaf,const1,ustrA,simprocAttr,ti180,cf,Tryz.results358]
  exact ⟨h1,(FrK.app _ _ _).trans h2⟩
set_option maxRecDepth 100000 in
theorem fun_ea (a b : VT) (ha : EaM a) (hb : EaM b) : EaM (.fn a b):=fun i ks A h=>by
  show ACalls Tryz.prog 436 _ _ _
  have hlt:=h.2
  have hbx : ∀ A',FrK i (A ++ [Box.cells [.iface (vT a) (vX a),.iface (vT b) (vX b)]]) A' → A'.getD A.length .dead = .cells [.iface (vT a) (vX a),.iface (vT b) (vX b)]:=fun A' hf=>by
    rw [hf.2 _ (by simp) (by omega),Abs.getD_append_right (Nat.le_refl _),Nat.sub_self]; rfl
  have ha':=fun ks A h=>ha i ks A h
  have hb':=fun ks A h=>hb i ks A h
  rw [vX]
  simp only [cM] at ha' hb' ⊢
  refine acalls_enterK (cf:=cf 12 [0,1,2]) foll Tryz.func436 Tryz.ntmps436 (by simp [cf]) ?_
  simp only [Tryz.f436,EnterK_some,zW,zX,zD,builtinA,isLeaf,const1,ustrA,simprocAttr,ti175,ti422,cf,Tryz.results436]
  refine wpO_invoke _ _ _ _ _ _ _ _ _ _ _ _ _ _ _ _ ?_
  simp only [zW,zX,zD,builtinA,isLeaf,const1,ustrA,simprocAttr,ti175,ti422,cf,Tryz.results436]
  refine meth_invK (met3 (by kernel_rfl) (by kernel_rfl) (by kernel_rfl) (by kernel_rfl) (by kernel_rfl) (by kernel_rfl)) (ha' ks _ (h.app _)) rfl (fun _=>rfl) ?_
  rintro r A1 ⟨h1,f1⟩
  have b1:=hbx _ f1
  simp only [zW,zX,zD,builtinA,isLeaf,const1,ustrA,simprocAttr,ti175,ti422,cf,Tryz.results436,b1]
  refine wpO_invoke _ _ _ _ _ _ _ _ _ _ _ _ _ _ _ _ ?_
  simp only [zW,zX,zD,builtinA,isLeaf,const1,ustrA,simprocAttr,ti175,ti422,cf,Tryz.results436]
  refine meth_invK (met3 (by kernel_rfl) (by kernel_rfl) (by kernel_rfl) (by kernel_rfl) (by kernel_rfl) (by kernel_rfl)) (hb' _ _ h1) rfl (fun _=>rfl) ?_
  rintro r A2 ⟨h2,f2⟩
  simp only [zW,zX,zD,builtinA,isLeaf,const1,ustrA,simprocAttr,ti175,ti422,cf,Tryz.results436]
  simp only [mdV]
  rw [insMs_app]
  exact ⟨h2,(FrK.app _ _ _).trans (f1.trans f2)⟩
theorem ea : ∀ v,EaM v
  | .num=>num_ea
  | .nm m k=>name_ea m k
  | .fn a b=>fun_ea a b (ea a) (ea b)
def EaI (x : VI) : Prop:=∀ (i : Nat) (ks : List (List UInt8)) (A : List Box),MS i ks A → ACalls Tryz.prog ((pickI 404 411 420) x) [viX x,cM i] A (fun _ A'=>MS i (insMs ks (mdI x)) A' ∧ FrK i A A')
set_option maxRecDepth 100000 in
theorem ab_ea (n : List UInt8) : EaI (.ab n):=fun i ks A h=>by
  show ACalls Tryz.prog 404 _ _ _
  rw [viX]
  refine acalls_enterK (cf:=cf 4 [0]) foll Tryz.func404 Tryz.ntmps404 (by simp [cf]) ?_
  simp only [Tryz.f404,EnterK_some,zW,zX,zD,builtinA,isLeaf,const1,ustrA,simprocAttr,ti354,cf,Tryz.results404]
  exact ⟨h.app _,FrK.app _ _ _⟩
set_option maxRecDepth 100000 in
theorem al_ea (n : List UInt8) (v : VT) : EaI (.al n v):=fun i ks A h=>by
  show ACalls Tryz.prog 411 _ _ _
  have hv:=fun A h=>ea v i ks A h
  rw [viX]
  simp only [cM] at hv ⊢
  refine acalls_enterK (cf:=cf 8 [0,1,2]) foll Tryz.func411 Tryz.ntmps411 (by simp [cf]) ?_
  simp only [Tryz.f411,EnterK_some,zW,zX,zD,builtinA,isLeaf,const1,ustrA,simprocAttr,ti175,ti356,cf,Tryz.results411]
  refine wpO_invoke _ _ _ _ _ _ _ _ _ _ _ _ _ _ _ _ ?_
  simp only [zW,zX,zD,builtinA,isLeaf,const1,ustrA,simprocAttr,ti175,ti356,cf,Tryz.results411]
  refine meth_invK (met3 (by kernel_rfl) (by kernel_rfl) (by kernel_rfl) (by kernel_rfl) (by kernel_rfl) (by kernel_rfl)) (hv _ (h.app _)) rfl (fun _=>rfl) ?_
  rintro r A1 ⟨h1,f1⟩
  simp only [zW,zX,zD,builtinA,isLeaf,const1,ustrA,simprocAttr,ti175,ti356,cf,Tryz.results411]
  exact ⟨h1,(FrK.app _ _ _).trans f1⟩
set_option maxRecDepth 100000 in
theorem va_ea (n : List UInt8) (v : VT) : EaI (.va n v):=fun i ks A h=>by
  show ACalls Tryz.prog 420 _ _ _
  have hv:=fun A h=>ea v i ks A h
  rw [viX]
  simp only [cM] at hv ⊢
  refine acalls_enterK (cf:=cf 8 [0,1,2]) foll Tryz.func420 Tryz.ntmps420 (by simp [cf]) ?_
  simp only [Tryz.f420,EnterK_some,zW,zX,zD,builtinA,isLeaf,const1,ustrA,simprocAttr,ti175,ti357,cf,Tryz.results420]
  refine wpO_invoke _ _ _ _ _ _ _ _ _ _ _ _ _ _ _ _ ?_
  simp only [zW,zX,zD,builtinA,isLeaf,const1,ustrA,simprocAttr,ti175,ti357,cf,Tryz.results420]
  refine meth_invK (met3 (by kernel_rfl) (by kernel_rfl) (by kernel_rfl) (by kernel_rfl) (by kernel_rfl) (by kernel_rfl)) (hv _ (h.app _)) rfl (fun _=>rfl) ?_
  rintro r A1 ⟨h1,f1⟩
  simp only [zW,zX,zD,builtinA,isLeaf,const1,ustrA,simprocAttr,ti175,ti357,cf,Tryz.results420]
  exact ⟨h1,(FrK.app _ _ _).trans f1⟩
theorem eaI (x : VI) : EaI x:=by
  cases x with
  | ab n=>exact ab_ea n
  | al n v=>exact al_ea n v
  | va n v=>exact va_ea n v
def mdIs (ys : List VI) : List (List UInt8):=ys.flatMap mdI
theorem mdIs_take {ys : List VI} {i : Nat} (h : i < ys.length) : mdIs (ys.take (i + 1)) = mdIs (ys.take i) ++ mdI (ys.getD i vi0):=by
  have e : ys.take (i + 1) = ys.take i ++ [ys.getD i vi0]:=by rw [List.take_add_one]; simp [List.getD,h]
  rw [mdIs,e,List.flatMap_append]; simp [mdIs]
set_option maxRecDepth 100000 in
theorem sig_ea (ys : List VI) (hy : ys.length ≤ 1000) (i : Nat) (ks : List (List UInt8)) (A : List Box) (h : MS i ks A) : ACalls Tryz.prog 92 [.slice (vRows ys),cM i] A (fun _ A'=>MS i (insMs ks (mdIs ys)) A' ∧ FrK i A A'):=by
  have hea:=fun y ks A h=>eaI y i ks A h
  simp only [cM] at hea ⊢
  refine acalls_enterK (cf:=cf 16 [0,1,5,6,7,8,9]) foll Tryz.func92 Tryz.ntmps92 (by simp [cf]) ?_
  simp only [Tryz.f92,EnterK_some,zW,zX,zD,builtinA,isLeaf,const1,ustrA,simprocAttr,ti3,ti140,ti158,cf,Tryz.results92]
  refine aloop_intro [1,6,7,8] (fun e A'=>∃ k,k ≤ ys.length ∧ MS i (insMs ks (mdIs (ys.take k))) A' ∧ FrK i A A' ∧ e = [(1,.func (.func 93) [.map i] []),(6,.slice (vRows ys)),(7,.int .i64 ys.length),(8,.int .i64 k)]) (fun e _=>ys.length - (intOf (Abs.look 8 e)).toNat) ?_ ?_
  · simp only [zW,zX,zD,builtinA,isLeaf,const1,ustrA,simprocAttr,ti3,ti140,ti158,cf,Tryz.results92,vRows_length]
    exact ⟨0,by omega,h,FrK.refl _ _,rfl⟩
  · rintro e A' ⟨k,hk,hm,hf,rfl⟩
    by_cases hlt : k < ys.length
    · have d1 : decide ((k : Int) < (ys.length : Int)) = true:=by simp; omega
      have hlt' : 0 ≤ (k : Int) ∧ (k : Int) < (ys.length : Int):=by omega
      have hg:=vRows_getD hlt
      have hi1 : IntKind.i64.wrap ((k : Int) + 1) = ((k + 1 : Nat) : Int):=by rw [wrap64 (by omega) (by omega)]; rfl
      have htk:=mdIs_take hlt
      have hev:=hea (ys.getD k vi0) _ _ hm
      rw [vRow] at hg
      generalize ys.getD k vi0 = y at *
      simp only [zW,zX,zD,builtinA,isLeaf,const1,ustrA,simprocAttr,ti3,ti140,ti158,cf,Tryz.results92,vRows_length,d1,hg]
      refine ⟨hlt',?_⟩
      refine wpO_invoke _ _ _ _ _ _ _ _ _ _ _ _ _ _ _ _ ?_
      simp only [zW,zX,zD,builtinA,isLeaf,const1,ustrA,simprocAttr,ti3,ti140,ti158,cf,Tryz.results92]
      refine methI_invK (metI3 (by kernel_rfl) (by kernel_rfl) (by kernel_rfl) (by kernel_rfl) (by kernel_rfl) (by kernel_rfl)) hev rfl (fun _=>rfl) ?_
      rintro r A1 ⟨h1,f1⟩
      simp only [zW,zX,zD,builtinA,isLeaf,const1,ustrA,simprocAttr,ti3,ti140,ti158,cf,Tryz.results92,hi1,LoopK_eq]
      refine ⟨⟨k + 1,by omega,by rw [htk,insMs_app]; exact h1,hf.trans f1,rfl⟩,?_⟩
      simp only [intOf]; omega
    · have d1 : decide ((k : Int) < (ys.length : Int)) = false:=by simp; omega
      have e : k = ys.length:=by omega
      subst e
      rw [List.take_length] at hm
      simp only [zW,zX,zD,builtinA,isLeaf,const1,ustrA,simprocAttr,ti3,ti140,ti158,cf,Tryz.results92,vRows_length,d1]
      exact ⟨hm,hf⟩
end Go.Proofs.YtnjdbgiincliaaaGreat
/- Made by mklay.py: slices.Sorted of maps.Keys in this program, by the library's contracts. -/
set_option linter.unusedVariables false
set_option linter.unusedSimpArgs false
namespace Go.Proofs.YtnjdbgiincliaaaGreat
open Go.Abs Go.RowKit Go.Maps Go.Sort Go.Shelf
def lyK_ren : Go.Shelf.Ren:=⟨fun | 7=>185 | 10=>255 | n=>n,fun | 23=>144 | 26=>9 | 3=>4 | 28=>268 | 0=>0 | 27=>267 | 33=>65 | 4=>4 | n=>n,fun | n=>n⟩
theorem lyK : Go.Proofs.SlLaysZ.n7 Tryz.prog lyK_ren:={
  mixed:=by kernel_rfl
  f7:=⟨Tryz.f185.name,by decide,Tryz.func185.trans (congrArg some (by kernel_rfl))⟩
  f10:=⟨Tryz.f255.name,by decide,Tryz.func255.trans (congrArg some (by kernel_rfl))⟩
  t0:=Tryz.underlying0
  a0:=Tryz.isAgg0
  z0:=Tryz.sizeOf0
  v0:=Tryz.zeroValue0
  t4:=Tryz.underlying4
  a4:=Tryz.isAgg4
  z4:=Tryz.sizeOf4
  v4:=Tryz.zeroValue4
  t23:=Tryz.underlying144
  a23:=Tryz.isAgg144
  z23:=Tryz.sizeOf144
  v23:=Tryz.zeroValue144
  t26:=Tryz.underlying9
  a26:=Tryz.isAgg9
  z26:=Tryz.sizeOf9
  v26:=Tryz.zeroValue9
  t27:=Tryz.underlying267
  a27:=Tryz.isAgg267
  z27:=Tryz.sizeOf267
  v27:=Tryz.zeroValue267
  t28:=Tryz.underlying268
  a28:=Tryz.isAgg268
  z28:=Tryz.sizeOf268
  v28:=Tryz.zeroValue268
  t33:=Tryz.underlying65
  a33:=Tryz.isAgg65
  z33:=Tryz.sizeOf65
  v33:=Tryz.zeroValue65 }
def lyS_ren : Go.Shelf.Ren:=⟨fun | 6=>184 | 8=>253 | 9=>254 | 11=>286 | 13=>288 | 12=>287 | 23=>313 | 24=>314 | 14=>304 | 15=>305 | 16=>306 | 17=>307 | 18=>308 | 19=>309 | 20=>310 | 21=>311 | 22=>312 | 25=>321 | 26=>322 | 27=>323 | 28=>324 | 29=>325 | 30=>326 | 31=>331 | n=>n,fun | 26=>9 | 28=>268 | 24=>48 | 0=>0 | 3=>3 | 37=>412 | 48=>457 | 50=>459 | 4=>4 | 40=>450 | 39=>449 | 45=>454 | 5=>5 | 9=>9 | 51=>466 | 55=>470 | 57=>477 | 58=>478 | 33=>65 | n=>n,fun | n=>n⟩
theorem lyS : Go.Proofs.SlLaysZ.n6 Tryz.prog lyS_ren:={
  mixed:=by kernel_rfl
  f6:=⟨Tryz.f184.name,by decide,Tryz.func184.trans (congrArg some (by kernel_rfl))⟩
  f8:=⟨Tryz.f253.name,by decide,Tryz.func253.trans (congrArg some (by kernel_rfl))⟩
  f11:=⟨Tryz.f286.name,by decide,Tryz.func286.trans (congrArg some (by kernel_rfl))⟩
  t0:=Tryz.underlying0
  a0:=Tryz.isAgg0
  z0:=Tryz.sizeOf0
  v0:=Tryz.zeroValue0
  t24:=Tryz.underlying48
  a24:=Tryz.isAgg48
  z24:=Tryz.sizeOf48
  v24:=Tryz.zeroValue48
  t26:=Tryz.underlying9
  a26:=Tryz.isAgg9
  z26:=Tryz.sizeOf9
  v26:=Tryz.zeroValue9
  t28:=Tryz.underlying268
  a28:=Tryz.isAgg268
  z28:=Tryz.sizeOf268
  v28:=Tryz.zeroValue268
  i26:=by kernel_rfl }
def lyO_ren : Go.Shelf.Ren:=⟨fun | 6=>254 | 8=>288 | 9=>287 | 19=>313 | 20=>314 | 21=>304 | 22=>305 | 23=>306 | 24=>307 | 25=>308 | 26=>309 | 27=>310 | 28=>311 | 29=>312 | 36=>321 | 31=>322 | 32=>323 | 37=>324 | 38=>325 | 39=>326 | 41=>331 | n=>n,fun | 27=>48 | 29=>9 | 3=>3 | 32=>412 | 26=>48 | 0=>0 | 44=>457 | 46=>459 | 4=>4 | 36=>450 | 35=>449 | 41=>454 | 5=>5 | 9=>9 | 53=>466 | 57=>470 | 63=>477 | 64=>478 | n=>n,fun | n=>n⟩
theorem lyO : Go.Proofs.SlLaysM.n6 Tryz.prog lyO_ren:={
  mixed:=by kernel_rfl
  f6:=⟨Tryz.f254.name,by decide,Tryz.func254.trans (congrArg some (by kernel_rfl))⟩
  f8:=Tryz.func288.trans (congrArg some (by kernel_rfl))
  f9:=⟨Tryz.f287.name,by decide,Tryz.func287.trans (congrArg some (by kernel_rfl))⟩
  f19:=Tryz.func313.trans (congrArg some (by kernel_rfl))
  f20:=Tryz.func314.trans (congrArg some (by kernel_rfl))
  f21:=⟨Tryz.f304.name,by decide,Tryz.func304.trans (congrArg some (by kernel_rfl))⟩
  f22:=⟨Tryz.f305.name,by decide,Tryz.func305.trans (congrArg some (by kernel_rfl))⟩
  f23:=⟨Tryz.f306.name,by decide,Tryz.func306.trans (congrArg some (by kernel_rfl))⟩
  f24:=⟨Tryz.f307.name,by decide,Tryz.func307.trans (congrArg some (by kernel_rfl))⟩
  f25:=⟨Tryz.f308.name,by decide,Tryz.func308.trans (congrArg some (by kernel_rfl))⟩
  f26:=⟨Tryz.f309.name,by decide,Tryz.func309.trans (congrArg some (by kernel_rfl))⟩
  f27:=⟨Tryz.f310.name,by decide,Tryz.func310.trans (congrArg some (by kernel_rfl))⟩
  f28:=⟨Tryz.f311.name,by decide,Tryz.func311.trans (congrArg some (by kernel_rfl))⟩
  f29:=⟨Tryz.f312.name,by decide,Tryz.func312.trans (congrArg some (by kernel_rfl))⟩
  f31:=Tryz.func322.trans (congrArg some (by kernel_rfl))
  f32:=Tryz.func323.trans (congrArg some (by kernel_rfl))
  f36:=⟨Tryz.f321.name,by decide,Tryz.func321.trans (congrArg some (by kernel_rfl))⟩
  f37:=⟨Tryz.f324.name,by decide,Tryz.func324.trans (congrArg some (by kernel_rfl))⟩
  f38:=⟨Tryz.f325.name,by decide,Tryz.func325.trans (congrArg some (by kernel_rfl))⟩
  f39:=⟨Tryz.f326.name,by decide,Tryz.func326.trans (congrArg some (by kernel_rfl))⟩
  f41:=⟨Tryz.f331.name,by decide,Tryz.func331.trans (congrArg some (by kernel_rfl))⟩
  t0:=Tryz.underlying0
  a0:=Tryz.isAgg0
  z0:=Tryz.sizeOf0
  v0:=Tryz.zeroValue0
  t3:=Tryz.underlying3
  a3:=Tryz.isAgg3
  z3:=Tryz.sizeOf3
  v3:=Tryz.zeroValue3
  t4:=Tryz.underlying4
  a4:=Tryz.isAgg4
  z4:=Tryz.sizeOf4
  v4:=Tryz.zeroValue4
  t5:=Tryz.underlying5
  a5:=Tryz.isAgg5
  z5:=Tryz.sizeOf5
  v5:=Tryz.zeroValue5
  t9:=Tryz.underlying9
  a9:=Tryz.isAgg9
  z9:=Tryz.sizeOf9
  v9:=Tryz.zeroValue9
  t26:=Tryz.underlying48
  a26:=Tryz.isAgg48
  z26:=Tryz.sizeOf48
  v26:=Tryz.zeroValue48
  t27:=Tryz.underlying48
  a27:=Tryz.isAgg48
  z27:=Tryz.sizeOf48
  v27:=Tryz.zeroValue48
  t29:=Tryz.underlying9
  a29:=Tryz.isAgg9
  z29:=Tryz.sizeOf9
  v29:=Tryz.zeroValue9
  t32:=Tryz.underlying412
  a32:=Tryz.isAgg412
  z32:=Tryz.sizeOf412
  v32:=Tryz.zeroValue412
  t35:=Tryz.underlying449
  a35:=Tryz.isAgg449
  z35:=Tryz.sizeOf449
  v35:=Tryz.zeroValue449
  t36:=Tryz.underlying450
  a36:=Tryz.isAgg450
  z36:=Tryz.sizeOf450
  v36:=Tryz.zeroValue450
  t41:=Tryz.underlying454
  a41:=Tryz.isAgg454
  z41:=Tryz.sizeOf454
  v41:=Tryz.zeroValue454
  t44:=Tryz.underlying457
  a44:=Tryz.isAgg457
  z44:=Tryz.sizeOf457
  v44:=Tryz.zeroValue457
  t46:=Tryz.underlying459
  a46:=Tryz.isAgg459
  z46:=Tryz.sizeOf459
  v46:=Tryz.zeroValue459
  t53:=Tryz.underlying466
  a53:=Tryz.isAgg466
  z53:=Tryz.sizeOf466
  v53:=Tryz.zeroValue466
  t57:=Tryz.underlying470
  a57:=Tryz.isAgg470
  z57:=Tryz.sizeOf470
  v57:=Tryz.zeroValue470
  t63:=Tryz.underlying477
  a63:=Tryz.isAgg477
  z63:=Tryz.sizeOf477
  v63:=Tryz.zeroValue477
  t64:=Tryz.underlying478
  a64:=Tryz.isAgg478
  z64:=Tryz.sizeOf478
  v64:=Tryz.zeroValue478 }
theorem ly_sorts (m : Nat) : AnyZ.SortsIn Tryz.prog lyS_ren Fence.wide m :=
  ⟨fun blk off cap ss W hH hblk hsz=>callsIn_wide.2 (AnyM.slices_Sort_string lyO blk off cap ss W hH hblk hsz),
   fun p cap W=>callsIn_wide.2 (AnyM.slices_Sort_string_none lyO p cap W)⟩
theorem ly_keys (mb : Option Nat) (W : World) : CallsIn Fence.wide 5 Tryz.prog 185 #[.map mb] W fun e w'=>e = .returned (.func (.func 255) #[] #[.pointer (some ⟨W.heap.size,0,none⟩)]) ∧ w' = W.alloc (.cells #[.map mb] 144) :=
  AnyZ.keys_in lyK Fence.wide 5 trivial rfl mb W
set_option maxHeartbeats 1000000 in
theorem ly_sorted {H : Type} (b nn : Nat) (D0 : DataW H) (R : Value → Option (DataW H × List MemPlace)) (w : World) (hown : w.ownsMap Tryz.prog 9 R b nn D0) (hmax : Maps.size D0 ≤ maxLen) (hbytes : Maps.size D0 * 16 ≤ 140737488355328) :
    CallsIn Fence.wide 5 Tryz.prog 184 #[.func (.func 255) #[] #[.pointer (some ⟨w.heap.size,0,none⟩)]] (w.alloc (.cells #[.map (some b)] 144)) fun e w'=>∃ (v : Value) (ss : List (List UInt8)),e = .returned v ∧ ss.Perm (strKeys D0) ∧
      w'.ownsRow (w.alloc (.cells #[.map (some b)] 144)).heap.size 9 1 v ss.length ((ss.mergeSort (fun x y=>decide (x ≤ y))).map encStr) ∧ (v = .slice none 0 0 ↔ ss = []) ∧ Below (w.alloc (.cells #[.map (some b)] 144)).heap.size (w.alloc (.cells #[.map (some b)] 144)) w':=by
  have hbl:=hown.lt
  have hseq : SeqGives Fence.wide 2 Tryz.prog 255 #[.pointer (some ⟨w.heap.size,0,none⟩)] encStr (fun ss=>ss.Perm (strKeys D0)) (Maps.size D0) (w.alloc (.cells #[.map (some b)] 144)) :=
    AnyZ.keys_gives (ρ:=lyK_ren) { lyK with } Fence.wide _ trivial rfl (by omega) w.heap.size b nn D0 _ (by simp) (by simp) (by
      obtain ⟨es,clock,hb,Ft,hs,hD⟩:=hown
      exact ⟨es,clock,(Below.heap_alloc _ _ b hbl).trans hb,Ft,hs,hD⟩)
  exact AnyZ.sorted_in lyS Fence.wide 5 trivial trivial trivial trivial rfl (by omega) (ly_sorts _) (enters_of Tryz.func254 (by kernel_rfl) rfl) 255 #[.pointer (some ⟨w.heap.size,0,none⟩)] trivial (enters_of Tryz.func255 (by kernel_rfl) rfl) _ _ hmax hbytes _ hseq
set_option maxHeartbeats 1000000 in
theorem ly_calls (b nn : Nat) (D0 : DataW Unit) (R : Value → Option (DataW Unit × List MemPlace)) (w : World) (hown : w.ownsMap Tryz.prog 9 R b nn D0) (hmax : Maps.size D0 ≤ maxLen) (hbytes : Maps.size D0 * 16 ≤ 140737488355328) :
    Calls Tryz.prog 94 #[.map (some b)] w fun e w'=>∃ (v : Value) (ss : List (List UInt8)),e = .returned v ∧ ss.Perm (strKeys D0) ∧
      w'.ownsRow w.heap.size 9 1 v ss.length ((ss.mergeSort (fun x y=>decide (x ≤ y))).map encStr) ∧ (v = .slice none 0 0 ↔ ss = []) ∧ Below w.heap.size w w':=by
  refine (callsIn_wide (n:=6)).1 ?_
  have hfK : Fence.wide.fn 185:=trivial
  have hfS : Fence.wide.fn 184:=trivial
  refine callsIn_of_wp Tryz.func94 rfl trivial ?_ rfl
  simp only [Tryz.ntmps94,List.size_toArray,List.length_cons,List.length_nil,Nat.reduceAdd,Nat.reduceSub,Array.replicate_succ,Array.replicate_zero,List.push_toArray,List.append_toArray,List.nil_append,List.cons_append]
  gi_wp2_with (first
    | (gi_at_call 185; refine (ly_keys _ _).mono ?_; rintro e w' ⟨rfl,rfl⟩)
    | (gi_at_call 184; refine (ly_sorted b nn D0 R w hown hmax hbytes).mono ?_; rintro e w' ⟨v,ss,rfl,hS,hrow,hnil,hb⟩))
  go_ret
  exact ⟨v,ss,rfl,hS,ownsRow_base_a hrow (by simp),hnil,((Below.refl _ w).alloc (Nat.le_refl _) _).trans (hb.mono (by simp))⟩
theorem impl_sorted (i : Nat) (ks : List (List UInt8)) (hn : ks.Nodup) (hl : ks.length ≤ 1000) (hq : ∀ q ∈ ks,q.length ≤ 1000) (A : List Box) (hA : A.getD i .dead = .mapb (setK ks)) :
    ACalls Tryz.prog 94 [.map i] A (fun r A'=>(ks = [] ∧ r = .nils ∧ A' = A) ∨ (ks ≠ [] ∧ r = .own A.length ∧ A' = A ++ [.row 1 ((srt ks).map fun s=>[AV.str s]) 0])) :=
  sorted_of Tryz.underlying9 ly_calls i ks hn hl hq A hA
end Go.Proofs.YtnjdbgiincliaaaGreat
/- What the two sides' readings of a signature have in common. -/
set_option linter.unusedVariables false
set_option linter.unusedSimpArgs false
namespace Go.Proofs.YtnjdbgiincliaaaGreat
open Go.Abs
theorem itemOf_isT {x : SigI} {y : VI} (h : ItemOf x y) (k : List UInt8) : (isTB x && decide (x.name = k)) = decide ((false,k) = viK y):=by
  rw [Bool.eq_iff_iff]
  cases y with
  | ab n=>obtain ⟨h1,h2,h3⟩:=h; simp [isTB,h1,h2,viK,eq_comm]
  | al n v=>obtain ⟨h1,h2,h3⟩:=h; simp [isTB,h1,h2,viK,eq_comm]
  | va n v=>obtain ⟨h1,h2,h3⟩:=h; simp [isTB,h1,h2,viK]
theorem itemOf_same {x x' : SigI} {y y' : VI} (h : ItemOf x y) (h' : ItemOf x' y') : sameK x x' = decide (viK y = viK y'):=by
  rw [Bool.eq_iff_iff]
  cases y <;> cases y' <;> (obtain ⟨h1,h2,_⟩:=h; obtain ⟨h3,h4,_⟩:=h'; simp [sameK,isTB,h1,h2,h3,h4,viK,eq_comm])
theorem hasT_keys {s : List SigI} {ys : List VI} (h : ReadsTo s ys) (k : List UInt8) : ∀ i,i ≤ s.length → hasT (s.take i) k = decide ((false,k) ∈ (ys.take i).map viK)
  | 0,_=>by simp [hasT]
  | i + 1,hi=>by
    have hy : i < ys.length:=by have:=h.1; omega
    rw [hasT_take (by omega),keys_take hy,hasT_keys h k i (by omega),itemOf_isT (h.2 i (by omega)).2 k]
    rw [Bool.eq_iff_iff]; simp
theorem dup_keys {s : List SigI} {ys : List VI} (h : ReadsTo s ys) {x : SigI} {y : VI} (hx : ItemOf x y) : ∀ i,i ≤ s.length → dupB (s.take i) x = decide (viK y ∈ (ys.take i).map viK)
  | 0,_=>by simp [dupB]
  | i + 1,hi=>by
    have hy : i < ys.length:=by have:=h.1; omega
    have e : dupB (s.take (i + 1)) x = (dupB (s.take i) x || sameK x (s.getD i si0)):=by rw [si_take (by omega)]; simp [dupB]
    rw [e,keys_take hy,dup_keys h hx i (by omega),itemOf_same hx (h.2 i (by omega)).2]
    rw [Bool.eq_iff_iff]; simp
theorem step_eq {s : List SigI} {ys : List VI} (h : ReadsTo s ys) {i : Nat} (hi : i < s.length) : itemB (s.take i) (s.getD i si0) = stepB (ys.take i) (ys.getD i vi0):=by
  obtain ⟨hl,hit⟩:=h.2 i hi
  have hk : knN (s.take i) = okN ((ys.take i).map viK):=by
    funext p
    rw [knN,okN,hasT_keys h p.2 i (by omega)]
  rw [itemB,stepB,hl,dup_keys h hit i (by omega),Bool.true_and,Bool.and_comm]
  congr 1
  generalize s.getD i si0 = x at *
  generalize ys.getD i vi0 = y at *
  cases y with
  | ab n=>obtain ⟨h1,h2,h3⟩:=hit; simp [typB,h2,h3,allI]
  | al n v=>obtain ⟨h1,h2,h3,h4⟩:=hit; rw [typB,if_neg (by omega),if_pos (.inl h2),h3,validB_toTy h4,knT_toTy,hk,allI,Bool.true_and]
  | va n v=>obtain ⟨h1,h2,h3,h4⟩:=hit; rw [typB,if_neg (by omega),if_pos (.inr h2),h3,validB_toTy h4,knT_toTy,hk,allI,Bool.true_and]
theorem sigB_reads {s : List SigI} {ys : List VI} (h8 : s.length ≤ 8) (h : ReadsTo s ys) : sigB s = ordB ys:=by
  rw [sigB,ordB,h.1,decide_eq_true h8,Bool.true_and,Bool.eq_iff_iff,List.all_eq_true,List.all_eq_true]
  constructor
  · intro k i hi
    rw [← step_eq h (List.mem_range.mp hi)]; exact k i hi
  · intro k i hi
    rw [step_eq h (List.mem_range.mp hi)]; exact k i hi
theorem sigB_bad {s : List SigI} (h : 8 < s.length ∨ ∃ x ∈ s,itemOk x = false) : sigB s = false:=by
  rcases h with h | ⟨x,hx,hb⟩
  · rw [sigB,decide_eq_false (by omega),Bool.false_and]
  · obtain ⟨i,hi,rfl⟩:=List.getElem_of_mem hx
    refine sigB_no hi ?_
    have e : s.getD i si0 = s[i]:=by simp [List.getD,hi]
    rw [e]
    generalize s[i] = x at hb
    rw [itemOk] at hb
    rw [itemB,typB]
    by_cases k1 : x.kind = 1
    · rw [if_pos k1] at hb ⊢
      cases hl : localB x.name with
      | false=>rfl
      | true=>rw [hl,Bool.true_and] at hb; rw [hb]; simp
    · rw [if_neg k1] at hb ⊢
      by_cases k2 : x.kind = 2 ∨ x.kind = 3
      · rw [if_pos k2] at hb ⊢
        cases hl : localB x.name with
        | false=>rfl
        | true=>rw [hl,Bool.true_and] at hb; rw [hb]; simp
      · rw [if_neg k2]; simp
end Go.Proofs.YtnjdbgiincliaaaGreat
/- From a law's argument of the recursive type to a tree. -/
set_option linter.unusedVariables false
set_option linter.unusedSimpArgs false
namespace Go.Proofs.YtnjdbgiincliaaaGreat
open Go.Abs Go.RowKit Go.ChangeShapes Go.WideShapes Go.ChangeAt Go.ChangeMaps
theorem cells_int {P : Program} {t : TypeId} {k : IntKind} {cz : List AV} (hu : P.underlying t = some (.int k)) (h : Cells P t cz) : ∃ n,cz = [.int k n]:=by
  cases h with
  | int h1 h2=>rw [hu] at h1; injection h1 with h1; injection h1 with h1; subst h1; exact ⟨_,rfl⟩
  | bool h1=>rw [hu] at h1; injection h1 with h1; cases h1
  | str h1=>rw [hu] at h1; injection h1 with h1; cases h1
  | slice h1=>rw [hu] at h1; injection h1 with h1; cases h1
  | struct h1=>rw [hu] at h1; injection h1 with h1; cases h1
theorem cells_str {P : Program} {t : TypeId} {cz : List AV} (hu : P.underlying t = some .string) (h : Cells P t cz) : ∃ s,cz = [.str s] ∧ s.length ≤ maxLen:=by
  cases h with
  | int h1 h2=>rw [hu] at h1; injection h1 with h1; cases h1
  | bool h1=>rw [hu] at h1; injection h1 with h1; cases h1
  | str h1 h2=>exact ⟨_,rfl,h2⟩
  | slice h1=>rw [hu] at h1; injection h1 with h1; cases h1
  | struct h1=>rw [hu] at h1; injection h1 with h1; cases h1
theorem list_enc {α : Type} {f : α → List AV} {Q : α → Prop} : ∀ {rows : List (List AV)},(∀ r ∈ rows,∃ x,r = f x ∧ Q x) → ∃ l : List α,rows = l.map f ∧ l.length = rows.length ∧ ∀ x ∈ l,Q x
  | [],_=>⟨[],rfl,rfl,by simp⟩
  | r :: rows,h=>by
    obtain ⟨x,hx,hq⟩:=h r (by simp)
    obtain ⟨l,h1,h2,h3⟩:=list_enc (rows:=rows) fun r hr=>h r (by simp [hr])
    exact ⟨x :: l,by simp [hx,h1],by simp [h2],by simpa using ⟨hq,h3⟩⟩
theorem four {α : Type} {l : List α} (h : l.length = 4) : ∃ a b c d,l = [a,b,c,d]:=by
  match l,h with
  | [a,b,c,d],_=>exact ⟨a,b,c,d,rfl⟩
theorem c3 : Tryz.prog.cellsOf 3 = 1:=by kernel_rfl
theorem c9 : Tryz.prog.cellsOf 9 = 1:=by kernel_rfl
theorem cS : Tryz.prog.cellsOf 23 = 1:=by kernel_rfl
theorem cT : Tryz.prog.cellsOf 25 = 4:=by kernel_rfl
theorem ty_of {t : TypeId} {cz : List AV} (h : Cells Tryz.prog t cz) :
    (t = 25 → ∃ τ,cz = encA τ ∧ τ.Ok) ∧ (t = 23 → ∃ ks,cz = [.aslice (encAs ks)] ∧ ks.length < 2 ^ 63 ∧ ∀ k ∈ ks,k.Ok):=by
  induction h with
  | int h1 h2=>exact ⟨fun e=>(by subst e; rw [Tryz.underlying25] at h1; injection h1 with h1; cases h1),fun e=>(by subst e; rw [Tryz.underlying23] at h1; injection h1 with h1; cases h1)⟩
  | bool h1=>exact ⟨fun e=>(by subst e; rw [Tryz.underlying25] at h1; injection h1 with h1; cases h1),fun e=>(by subst e; rw [Tryz.underlying23] at h1; injection h1 with h1; cases h1)⟩
  | str h1=>exact ⟨fun e=>(by subst e; rw [Tryz.underlying25] at h1; injection h1 with h1; cases h1),fun e=>(by subst e; rw [Tryz.underlying23] at h1; injection h1 with h1; cases h1)⟩
  | slice h1 h2 h3 ih =>
    refine ⟨fun e=>(by subst e; rw [Tryz.underlying25] at h1; injection h1 with h1; cases h1),fun e=>?_⟩
    subst e
    rw [Tryz.underlying23] at h1
    injection h1 with h1
    injection h1 with h1
    obtain ⟨ks,k1,k2,k3⟩:=list_enc (f:=encA) (Q:=Ty.Ok) fun r hr=>(ih r hr).1 h1.symm
    have hm : maxLen = 2 ^ 63 - 1:=rfl
    refine ⟨ks,by rw [encAs_map,k1],?_,k3⟩
    rw [k2]
    omega
  | @struct t fs cs h1 h2 h3 ih =>
    refine ⟨fun e=>?_,fun e=>(by subst e; rw [Tryz.underlying23] at h1; injection h1 with h1; cases h1)⟩
    subst e
    rw [Tryz.underlying25] at h1
    injection h1 with h1
    injection h1 with h1
    subst h1
    rw [cT] at h2
    obtain ⟨a,b,c,d,rfl⟩:=four h2
    simp only [List.mem_cons,List.not_mem_nil,or_false,forall_eq_or_imp,forall_eq,c3,c9,cS,List.drop_zero,List.drop_succ_cons,List.take_succ_cons,List.take_zero] at h3 ih
    obtain ⟨n,e1⟩:=cells_int Tryz.underlying3 h3.1
    obtain ⟨m,e2,l2⟩:=cells_str Tryz.underlying9 h3.2.1
    obtain ⟨s,e3,l3⟩:=cells_str Tryz.underlying9 h3.2.2.1
    obtain ⟨ks,e4,l4,l5⟩:=ih.2.2.2.2 trivial
    injection e1 with e1; injection e2 with e2; injection e3 with e3; injection e4 with e4
    subst e1; subst e2; subst e3; subst e4
    have hm : maxLen = 2 ^ 63 - 1:=rfl
    exact ⟨.mk n m s ks,rfl,.mk (by omega) (by omega) l4 l5⟩
section
variable {H : Type} {enc' : TypeId × Value → H} {W : World}
end
end Go.Proofs.YtnjdbgiincliaaaGreat
/- Lists of names as data, and what the laws' helpers do with them. -/
set_option linter.unusedVariables false
set_option linter.unusedSimpArgs false
namespace Go.Proofs.YtnjdbgiincliaaaGreat
open Go.Abs Go.RowKit Go.ChangeShapes Go.WideShapes Go.ChangeAt Go.ChangeMaps
abbrev Nms:=List (List UInt8)
def aEs (l : Nms) : List (List AV):=l.map fun s=>[AV.str s]
theorem aEs_length (l : Nms) : (aEs l).length = l.length:=by simp [aEs]
theorem aEs_getD {l : Nms} {i : Nat} (h : i < l.length) : (aEs l).getD i [] = [.str (l.getD i [])]:=by simp [aEs,List.getD,h]
set_option maxRecDepth 100000 in
theorem laws_eqStringS (ks : Nms) (hl : ks.length < 2 ^ 63) (A : List Box) :
    ACalls Tryz.prog 26 [.slice (aEs ks),.slice (aEs ks)] A (fun v A'=>v = .bool true ∧ A' = A):=by
  refine acalls_enter (cf:=cf 26 [0,1,4,5,10,14,25]) foll Tryz.func26 Tryz.ntmps26 (by simp [cf]) ?_
  simp only [Tryz.f26,EnterK_some,zW,zX,zD,builtinA,isLeaf,const1,ustrA,simprocAttr,ti3,ti9,ti48,cf,Tryz.results26]
  refine aloop_intro [0,1,5] (fun e A'=>∃ i,i ≤ ks.length ∧ e = [(0,.slice (aEs ks)),(1,.slice (aEs ks)),(5,.int .i64 i)] ∧ A' = A) (fun e _=>ks.length - (intOf (Abs.look 5 e)).toNat) ?_ ?_
  · simp only [zW,zX,zD,builtinA,isLeaf,const1,ustrA,simprocAttr,ti3,ti9,ti48,cf,Tryz.results26]
    exact ⟨0,by omega,rfl⟩
  · rintro e A' ⟨i,hi,rfl,rfl⟩
    simp only [zW,zX,zD,builtinA,isLeaf,const1,ustrA,simprocAttr,ti3,ti9,ti48,cf,Tryz.results26,aEs_length]
    refine condK_intro (fun h2=>?_) (fun h2=>?_)
    · have hi2 : i < ks.length:=by simpa using h2
      have he:=aEs_getD hi2
      have hi1 : IntKind.i64.wrap ((i : Int) + 1) = ((i + 1 : Nat) : Int):=by rw [wrap64 (by omega) (by omega)]; rfl
      simp only [zW,zX,zD,builtinA,isLeaf,const1,ustrA,simprocAttr,ti3,ti9,ti48,cf,Tryz.results26,he,aEs_length]
      refine .inl ⟨by kernel_rfl,by kernel_rfl,⟨by omega,by omega⟩,⟨by omega,by omega⟩,?_⟩
      simp only [zW,zX,zD,builtinA,isLeaf,const1,ustrA,simprocAttr,ti3,ti9,ti48,cf,Tryz.results26,hi1,LoopK_eq]
      refine ⟨⟨i + 1,by omega,rfl⟩,?_⟩
      simp only [intOf]
      omega
    · simp only [zW,zX,zD,builtinA,isLeaf,const1,ustrA,simprocAttr,ti3,ti9,ti48,cf,Tryz.results26]
end Go.Proofs.YtnjdbgiincliaaaGreat
/- The program's SigModules. -/
set_option linter.unusedVariables false
set_option linter.unusedSimpArgs false
namespace Go.Proofs.YtnjdbgiincliaaaGreat
open Go.Abs
theorem mdV_len : ∀ v,(mdV v).length ≤ cnt v
  | .num=>by simp [mdV]
  | .nm _ _=>by simp [mdV,cnt]
  | .fn a b=>by have:=mdV_len a; have:=mdV_len b; simp only [mdV,cnt,List.length_append]; omega
theorem module_let {m : List UInt8} (h : moduleB m = true) : isLet m:=by
  simp only [moduleB,Bool.and_eq_true,decide_eq_true_eq,beq_iff_eq] at h
  obtain ⟨⟨h1,h2,h3⟩,_⟩:=h
  match m,h1 with
  | [b],_ =>
    simp only [List.getD_cons_zero] at h2 h3
    refine ⟨b.toNat - 65,by omega,?_⟩
    simp only [letJ,List.cons.injEq,and_true]
    rw [show 65 + (b.toNat - 65) = b.toNat by omega]
    simp
theorem mdV_let : ∀ v,okV v = true → ∀ q ∈ mdV v,q ≠ [] → isLet q
  | .num,_,q,h=>by simp [mdV] at h
  | .nm m k,hv,q,h=>fun hq=>by
    simp only [mdV,List.mem_singleton] at h
    subst h
    simp only [okV,nmB,Bool.and_eq_true,Bool.or_eq_true,decide_eq_true_eq] at hv
    rcases hv.1 with h | h
    · exact absurd h hq
    · exact module_let h
  | .fn a b,hv,q,h=>by
    simp only [okV,Bool.and_eq_true] at hv
    simp only [mdV,List.mem_append] at h
    rcases h with h | h
    · exact mdV_let a hv.1 q h
    · exact mdV_let b hv.2 q h
theorem let_len {q : List UInt8} (h : q ≠ [] → isLet q) : q.length ≤ 1:=by
  by_cases hq : q = []
  · simp [hq]
  · obtain ⟨j,_,rfl⟩:=h hq
    simp [letJ]
theorem mdI_of {x : SigI} {y : VI} (h : ItemOf x y) : (mdI y).length ≤ 63 ∧ ∀ q ∈ mdI y,q ≠ [] → isLet q:=by
  cases y with
  | ab n=>exact ⟨by simp [mdI],by simp [mdI]⟩
  | al n v =>
    have hv:=h.2.2.2
    exact ⟨Nat.le_trans (mdV_len v) hv.cnt,mdV_let v hv.ok⟩
  | va n v =>
    have hv:=h.2.2.2
    exact ⟨Nat.le_trans (mdV_len v) hv.cnt,mdV_let v hv.ok⟩
theorem mdIs_of {s : List SigI} {ys : List VI} (h : ReadsTo s ys) : (mdIs ys).length ≤ ys.length * 63 ∧ ∀ q ∈ mdIs ys,q ≠ [] → isLet q:=by
  have hk : ∀ y ∈ ys,(mdI y).length ≤ 63 ∧ ∀ q ∈ mdI y,q ≠ [] → isLet q:=fun y hy=>by
    obtain ⟨k,hk,rfl⟩:=List.mem_iff_getElem.1 hy
    have:=(h.2 k (by rw [← h.1]; exact hk)).2
    rw [show ys.getD k vi0 = ys[k] by simp [List.getD,hk]] at this
    exact mdI_of this
  constructor
  · clear h
    induction ys with
    | nil=>simp [mdIs]
    | cons y ys ih =>
      have h1:=(hk y (.head _)).1
      have h2:=ih fun z hz=>hk z (.tail _ hz)
      simp only [mdIs,List.flatMap_cons,List.length_append,List.length_cons] at h2 ⊢
      omega
  · intro q hq
    obtain ⟨y,hy,hq⟩:=List.mem_flatMap.1 hq
    exact (hk y hy).2 q hq
def NsNew (A : List Box) (l : Nms) (r : AV) (A' : List Box) : Prop:=∃ B,A' = A ++ B ∧ ((l = [] ∧ r = .nils) ∨ ∃ j,r = .own (A.length + j) ∧ j < B.length ∧ B.getD j .dead = .row 1 (aEs l) 0)
def MdIs (s : List SigI) (l : Nms) : Prop:=(∃ ys,ReadsTo s ys ∧ s.length ≤ 8 ∧ ordB ys = true ∧ l = srt (insMs [] (mdIs ys))) ∨ (sigB s = false ∧ l = [])
theorem toTy_uq : ∀ {v v' : VT},toTy v = toTy v' → v = v'
  | .num,v',h=>by cases v' <;> simp [toTy] at h ⊢
  | .nm m k,v',h=>by cases v' <;> simp [toTy] at h ⊢; exact h
  | .fn a b,v',h=>by
    cases v' <;> simp [toTy] at h
    rw [toTy_uq h.1,toTy_uq h.2]
theorem item_uq {x : SigI} {y y' : VI} (h : ItemOf x y) (h' : ItemOf x y') : y = y':=by
  cases y <;> cases y'
  case ab.ab=>rw [← h.1,← h'.1]
  case al.al=>rw [← h.1,← h'.1,toTy_uq (h.2.2.1.symm.trans h'.2.2.1)]
  case va.va=>rw [← h.1,← h'.1,toTy_uq (h.2.2.1.symm.trans h'.2.2.1)]
  all_goals (have a:=h.2.1; have b:=h'.2.1; rw [a] at b; simp at b)
theorem reads_uq {s : List SigI} {ys ys' : List VI} (h : ReadsTo s ys) (h' : ReadsTo s ys') : ys = ys':=by
  refine List.ext_getElem (by rw [h.1,h'.1]) fun i h1 h2=>?_
  have:=item_uq (h.2 i (by rw [← h.1]; exact h1)).2 (h'.2 i (by rw [← h.1]; exact h1)).2
  simpa [List.getD,h1,h2] using this
theorem MdIs.one {s : List SigI} {l l' : Nms} (h : MdIs s l) (h' : MdIs s l') : l = l':=by
  rcases h with ⟨ys,h1,h2,h3,rfl⟩ | ⟨h,rfl⟩
  · have hs : sigB s = true:=by rw [sigB_reads h2 h1,h3]
    rcases h' with ⟨zs,k1,_,_,rfl⟩ | ⟨k,_⟩
    · rw [reads_uq h1 k1]
    · rw [hs] at k; cases k
  · rcases h' with ⟨zs,k1,k2,k3,rfl⟩ | ⟨_,rfl⟩
    · rw [sigB_reads k2 k1,k3] at h; cases h
    · rfl
set_option maxRecDepth 100000 in
theorem impl_SigModules (s : List SigI) (hs : s.length ≤ 1048576) (ho : ∀ x ∈ s,x.Ok ∧ sz x.typ ≤ 1048576) (A : List Box) : ACalls Tryz.prog 25 [.slice (sEs s)] A (fun r A'=>∃ l,MdIs s l ∧ NsNew A l r A'):=by
  have hrs:=fun A=>impl_readSig s hs ho A
  refine acalls_enterK (cf:=cf 20 [0,2,3,4,5,12]) foll Tryz.func25 Tryz.ntmps25 (by simp [cf]) ?_
  simp only [Tryz.f25,EnterK_some,zW,zX,zD,builtinA,isLeaf,const1,ustrA,simprocAttr,ti144,ca91,ca92,ca94,cf,Tryz.results25]
  refine callK_intro (by simp only [zW,zX,zD,builtinA,isLeaf,const1,ustrA,simprocAttr,Option.map_some] <;> rfl) (hrs _) ?_ rfl
  rintro r A' ⟨⟨ys,h8,hr,rfl⟩ | ⟨hb,rfl⟩,hA⟩
  · have hsb:=sigB_reads h8 hr
    have hA:=hA.symm
    subst hA
    cases hord : ordB ys with
    | false =>
      rw [hord] at hsb
      simp only [zW,zX,zD,builtinA,isLeaf,const1,ustrA,simprocAttr,ti144,ca91,ca92,ca94,cf,Tryz.results25]
      exact ⟨[],.inr ⟨hsb,rfl⟩,[],by simp,.inl ⟨rfl,rfl⟩⟩
    | true =>
      obtain ⟨m1,m2⟩:=mdIs_of hr
      have hyl:=hr.1
      have hea:=sig_ea ys (by omega) A.length [] (A ++ [.mapb []]) ⟨by rw [Abs.getD_append_right (Nat.le_refl _),Nat.sub_self]; rfl,by simp⟩
      have hnd:=insMs_nodup (mdIs ys) (ks:=[]) (by simp)
      have hln:=insMs_len (mdIs ys) []
      have hqs : ∀ q ∈ insMs [] (mdIs ys),q.length ≤ 1000:=fun q hq=>by
        rw [insMs_mem] at hq
        rcases hq with h | ⟨h,_⟩
        · cases h
        · have:=let_len (m2 q h); omega
      simp only [cM] at hea
      simp only [zW,zX,zD,builtinA,isLeaf,const1,ustrA,simprocAttr,ti144,ca91,ca92,ca94,cf,Tryz.results25]
      refine callO_intro hea ?_
      rintro r A1 ⟨h1,f1⟩
      have hso:=impl_sorted A.length _ hnd (by simp at hln; omega) hqs A1 h1.1
      have htk : A1.take A.length = A:=take_of_getD (by have:=f1.1; simp at this; omega) rfl fun k hk=>by
        rw [f1.2 k (by simp; omega) (by omega),Abs.getD_append_left hk]
      have hl1 : A.length ≤ A1.length:=by have:=f1.1; simp at this; omega
      have hsp : A1 = A ++ A1.drop A.length:=by
        conv=>lhs; rw [← List.take_append_drop A.length A1,htk]
      have hid : MdIs s (srt (insMs [] (mdIs ys))):=.inl ⟨ys,hr,h8,hord,rfl⟩
      simp only [zW,zX,zD,builtinA,isLeaf,const1,ustrA,simprocAttr,ti144,ca91,ca92,ca94,cf,Tryz.results25]
      refine callO_intro hso ?_
      rintro r A2 (⟨hk,rfl,hA2⟩ | ⟨hk,rfl,hA2⟩)
      · subst hA2
        simp only [zW,zX,zD,builtinA,isLeaf,const1,ustrA,simprocAttr,ti144,ca91,ca92,ca94,cf,Tryz.results25]
        exact ⟨_,hid,A2.drop A.length,hsp,.inl ⟨by rw [hk]; simp [srt],rfl⟩⟩
      · subst hA2
        simp only [zW,zX,zD,builtinA,isLeaf,const1,ustrA,simprocAttr,ti144,ca91,ca92,ca94,cf,Tryz.results25]
        refine ⟨_,hid,A1.drop A.length ++ [.row 1 (aEs (srt (insMs [] (mdIs ys)))) 0],?_,.inr ⟨A1.length - A.length,?_,by simp,?_⟩⟩
        · rw [← List.append_assoc,← hsp]; rfl
        · rw [show A.length + (A1.length - A.length) = A1.length by omega]
        · rw [Abs.getD_append_right (by simp),List.length_drop,Nat.sub_self]; rfl
  · have hA:=hA.symm
    subst hA
    simp only [zW,zX,zD,builtinA,isLeaf,const1,ustrA,simprocAttr,ti144,ca91,ca92,ca94,cf,Tryz.results25]
    exact ⟨[],.inr ⟨sigB_bad hb,rfl⟩,[],by simp,.inl ⟨rfl,rfl⟩⟩
end Go.Proofs.YtnjdbgiincliaaaGreat
