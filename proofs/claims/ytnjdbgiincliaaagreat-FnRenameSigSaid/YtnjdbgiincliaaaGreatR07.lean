/- OwnTy, OwnPlain, SubI, SubT, SigOne. -/
import Derived.Test.YtnjdbgiincliaaaGreatR06
import Derived.Test.YtnjdbgiincliaaaGreatAbsW3
/- Types that are owned: their lists of kids lie in boxes. -/
set_option linter.unusedVariables false
set_option linter.unusedSimpArgs false
namespace Go.Proofs.YtnjdbgiincliaaaGreat
open Go.Abs
mutual
def OwnT (A : List Box) : Ty → List AV → List Nat → Prop
  | .mk k m n ks,r,S=>∃ v,r = [.int .i64 k,.str m,.str n,v] ∧ ((v = .nils ∧ ks = [] ∧ S = []) ∨ (v = .slice [] ∧ ks = [] ∧ S = []) ∨ ∃ i rows S',v = .own i ∧ S = i :: S' ∧ A.getD i .dead = .gr none 4 rows ∧ OwnR A ks rows S')
def OwnR (A : List Box) : List Ty → List (List AV) → List Nat → Prop
  | [],rows,S=>rows = [] ∧ S = []
  | t :: ks,rows,S=>∃ r rows' S1 S2,rows = r :: rows' ∧ S = S1 ++ S2 ∧ OwnT A t r S1 ∧ OwnR A ks rows' S2
end
def OwnK (A : List Box) (ks : List Ty) (v : AV) (S : List Nat) : Prop :=
  (v = .nils ∧ ks = [] ∧ S = []) ∨ (v = .slice [] ∧ ks = [] ∧ S = []) ∨ ∃ i rows S',v = .own i ∧ S = i :: S' ∧ A.getD i .dead = .gr none 4 rows ∧ OwnR A ks rows S'
theorem ownT_mk {A : List Box} {k : Int} {m n : List UInt8} {ks : List Ty} {r : List AV} {S : List Nat} : OwnT A (.mk k m n ks) r S ↔ ∃ v,r = [.int .i64 k,.str m,.str n,v] ∧ OwnK A ks v S:=by
  rw [OwnT]; rfl
mutual
theorem OwnT.frame {A A' : List Box} : ∀ {t : Ty} {r : List AV} {S : List Nat},OwnT A t r S → (∀ i ∈ S,A'.getD i .dead = A.getD i .dead) → OwnT A' t r S
  | .mk k m n ks,r,S,h,hf=>by
    rw [OwnT] at h ⊢
    obtain ⟨v,hr,h⟩:=h
    refine ⟨v,hr,?_⟩
    rcases h with h | h | ⟨i,rows,S',h1,h2,h3,h4⟩
    · exact .inl h
    · exact .inr (.inl h)
    · subst h2
      exact .inr (.inr ⟨i,rows,S',h1,rfl,by rw [hf i (by simp)]; exact h3,OwnR.frame h4 fun j hj=>hf j (by simp [hj])⟩)
theorem OwnR.frame {A A' : List Box} : ∀ {ks : List Ty} {rows : List (List AV)} {S : List Nat},OwnR A ks rows S → (∀ i ∈ S,A'.getD i .dead = A.getD i .dead) → OwnR A' ks rows S
  | [],rows,S,h,hf=>by rw [OwnR] at h ⊢; exact h
  | t :: ks,rows,S,h,hf=>by
    rw [OwnR] at h ⊢
    obtain ⟨r,rows',S1,S2,h1,h2,h3,h4⟩:=h
    subst h2
    exact ⟨r,rows',S1,S2,h1,rfl,OwnT.frame h3 fun j hj=>hf j (by simp [hj]),OwnR.frame h4 fun j hj=>hf j (by simp [hj])⟩
end
theorem OwnK.frame {A A' : List Box} {ks : List Ty} {v : AV} {S : List Nat} (h : OwnK A ks v S) (hf : ∀ i ∈ S,A'.getD i .dead = A.getD i .dead) : OwnK A' ks v S:=by
  rcases h with h | h | ⟨i,rows,S',h1,h2,h3,h4⟩
  · exact .inl h
  · exact .inr (.inl h)
  · subst h2
    exact .inr (.inr ⟨i,rows,S',h1,rfl,by rw [hf i (by simp)]; exact h3,h4.frame fun j hj=>hf j (by simp [hj])⟩)
theorem OwnR.length {A : List Box} : ∀ {ks : List Ty} {rows : List (List AV)} {S : List Nat},OwnR A ks rows S → rows.length = ks.length
  | [],rows,S,h=>by rw [OwnR] at h; rw [h.1]; rfl
  | t :: ks,rows,S,h=>by
    rw [OwnR] at h
    obtain ⟨r,rows',S1,S2,h1,h2,h3,h4⟩:=h
    subst h1
    simp [OwnR.length h4]
theorem live_lt {A : List Box} {i : Nat} {b : Box} (h : A.getD i .dead = b) (hb : b ≠ .dead) : i < A.length:=by
  rcases Nat.lt_or_ge i A.length with hh | hh
  · exact hh
  · simp [List.getD,Nat.not_lt.2 hh] at h; exact absurd h.symm hb
mutual
theorem OwnT.low {A : List Box} : ∀ {t : Ty} {r : List AV} {S : List Nat},OwnT A t r S → ∀ i ∈ S,i < A.length
  | .mk k m n ks,r,S,h=>by
    rw [OwnT] at h
    obtain ⟨v,hr,h⟩:=h
    rcases h with ⟨_,_,rfl⟩ | ⟨_,_,rfl⟩ | ⟨i,rows,S',h1,rfl,h3,h4⟩
    · simp
    · simp
    · intro j hj
      rcases List.mem_cons.1 hj with rfl | hj
      · exact live_lt h3 (by simp)
      · exact OwnR.low h4 j hj
theorem OwnR.low {A : List Box} : ∀ {ks : List Ty} {rows : List (List AV)} {S : List Nat},OwnR A ks rows S → ∀ i ∈ S,i < A.length
  | [],rows,S,h=>by rw [OwnR] at h; rw [h.2]; simp
  | t :: ks,rows,S,h=>by
    rw [OwnR] at h
    obtain ⟨r,rows',S1,S2,h1,rfl,h3,h4⟩:=h
    intro j hj
    rcases List.mem_append.1 hj with hj | hj
    · exact OwnT.low h3 j hj
    · exact OwnR.low h4 j hj
end
theorem OwnK.low {A : List Box} {ks : List Ty} {v : AV} {S : List Nat} (h : OwnK A ks v S) : ∀ i ∈ S,i < A.length:=by
  rcases h with ⟨_,_,rfl⟩ | ⟨_,_,rfl⟩ | ⟨i,rows,S',h1,rfl,h3,h4⟩
  · simp
  · simp
  · intro j hj
    rcases List.mem_cons.1 hj with rfl | hj
    · exact live_lt h3 (by simp)
    · exact h4.low j hj
theorem enc4 (k : Int) (m n : List UInt8) (ks : List Ty) : enc (.mk k m n ks) = [.int .i64 k,.str m,.str n,.slice (encs ks)]:=by rw [enc]
theorem rows_view {A : List Box} {i : Nat} {rows : List (List AV)} {ks : List Ty} (h : A.getD i .dead = .gr none 4 rows) (hl : rows.length = ks.length)
    (hv : ∀ k,k < rows.length → ∀ j,j < 4 → View A ((rows.getD k []).getD j .bot) ((enc (ks.getD k ty0)).getD j .bot)) : View A (.own i) (.slice (encs ks)):=by
  refine .gr i 4 none rows (encs ks) h (by rw [encs_length,hl]) (fun r hr=>?_) fun k j hk hj=>?_
  · rw [encs_map] at hr
    obtain ⟨t,_,rfl⟩:=List.mem_map.1 hr
    exact ⟨enc_length t,enc_leaf t⟩
  · unfold Abs.rowAt
    rw [encs_getD (by omega)]
    exact hv k hk j hj
mutual
theorem OwnT.view {A : List Box} : ∀ {t : Ty} {r : List AV} {S : List Nat},OwnT A t r S → r.length = 4 ∧ ∀ j,j < 4 → View A (r.getD j .bot) ((enc t).getD j .bot)
  | .mk k m n ks,r,S,h=>by
    rw [OwnT] at h
    obtain ⟨v,rfl,h⟩:=h
    have hk : View A v (.slice (encs ks)):=by
      rcases h with ⟨rfl,rfl,_⟩ | ⟨rfl,rfl,_⟩ | ⟨i,rows,S',rfl,_,h3,h4⟩
      · exact .nils
      · exact .leaf _ rfl
      · exact rows_view h3 h4.length (OwnR.view h4)
    refine ⟨rfl,fun j hj=>?_⟩
    rw [enc4]
    match j,hj with
    | 0,_=>exact .leaf _ rfl
    | 1,_=>exact .leaf _ rfl
    | 2,_=>exact .leaf _ rfl
    | 3,_=>exact hk
theorem OwnR.view {A : List Box} : ∀ {ks : List Ty} {rows : List (List AV)} {S : List Nat},OwnR A ks rows S → ∀ k,k < rows.length → ∀ j,j < 4 → View A ((rows.getD k []).getD j .bot) ((enc (ks.getD k ty0)).getD j .bot)
  | [],rows,S,h=>by rw [OwnR] at h; rw [h.1]; intro k hk; simp at hk
  | t :: ks,rows,S,h=>by
    rw [OwnR] at h
    obtain ⟨r,rows',S1,S2,rfl,h2,h3,h4⟩:=h
    intro k hk j hj
    cases k with
    | zero=>exact (OwnT.view h3).2 j hj
    | succ k =>
      have:=OwnR.view h4 k (by simpa using hk) j hj
      simpa using this
end
theorem OwnK.view {A : List Box} {ks : List Ty} {v : AV} {S : List Nat} (h : OwnK A ks v S) : View A v (.slice (encs ks)):=by
  rcases h with ⟨rfl,rfl,_⟩ | ⟨rfl,rfl,_⟩ | ⟨i,rows,S',rfl,_,h3,h4⟩
  · exact .nils
  · exact .leaf _ rfl
  · exact rows_view h3 h4.length h4.view
end Go.Proofs.YtnjdbgiincliaaaGreat
/- What the program's method plain makes: a type that is owned. -/
set_option linter.unusedVariables false
set_option linter.unusedSimpArgs false
namespace Go.Proofs.YtnjdbgiincliaaaGreat
open Go.Abs
def isFn : VT → Bool
  | .fn _ _=>true
  | _=>false
def plen : VT → Nat
  | .fn a b=>3 + plen a + plen b
  | _=>2
def prow : VT → Nat → Bool → List AV
  | .num,n,nest=>[.int .i64 1,.str [],.str [],bif nest then .nils else .slice []]
  | .nm m k,n,nest=>[.int .i64 3,.str m,.str k,bif nest then .nils else .slice []]
  | .fn a b,n,nest=>[.int .i64 2,.str [],.str [],.own (n + (2 + plen a + plen b))]
def pbox : VT → Nat → List Box
  | .num,n=>[.cells [],.cells [.int .i64 1,.str [],.str [],.nils]]
  | .nm m k,n=>[.cells [.str m,.str k],.cells [.int .i64 3,.str m,.str k,.nils]]
  | .fn a b,n=>.cells [.iface (vT a) (vX a),.iface (vT b) (vX b)] :: .cells [.int .i64 2,.str [],.str [],.own (n + (2 + plen a + plen b))] :: (pbox a (n + 2) ++ (pbox b (n + 2 + plen a) ++
      [.gr none 4 [prow a (n + 2) (isFn a || isFn b),prow b (n + 2 + plen a) (isFn a || isFn b)]]))
def pidx : VT → Nat → List Nat
  | .fn a b,n=>(n + (2 + plen a + plen b)) :: (pidx a (n + 2) ++ pidx b (n + 2 + plen a))
  | _,_=>[]
theorem pbox_length : ∀ v n,(pbox v n).length = plen v
  | .num,n=>rfl
  | .nm _ _,n=>rfl
  | .fn a b,n=>by simp [pbox,plen,pbox_length a,pbox_length b]; omega
theorem pidx_in : ∀ v n,∀ i ∈ pidx v n,n ≤ i ∧ i < n + plen v
  | .num,n=>by simp [pidx]
  | .nm _ _,n=>by simp [pidx]
  | .fn a b,n=>by
    intro i hi
    simp only [pidx,List.mem_cons,List.mem_append] at hi
    simp only [plen]
    rcases hi with rfl | hi | hi
    · omega
    · have:=pidx_in a _ i hi; omega
    · have:=pidx_in b _ i hi; omega
theorem pidx_nodup : ∀ v n,(pidx v n).Nodup
  | .num,n=>by simp [pidx]
  | .nm _ _,n=>by simp [pidx]
  | .fn a b,n=>by
    simp only [pidx,List.nodup_cons,List.mem_append,not_or]
    refine ⟨⟨fun h=>?_,fun h=>?_⟩,List.nodup_append.2 ⟨pidx_nodup a _,pidx_nodup b _,fun x hx y hy=>?_⟩⟩
    · have:=pidx_in a _ _ h; omega
    · have:=pidx_in b _ _ h; omega
    · have:=pidx_in a _ _ hx; have:=pidx_in b _ _ hy; omega
theorem prow_length (v : VT) (n : Nat) (b : Bool) : (prow v n b).length = 4:=by cases v <;> rfl
theorem prow_leaf (v : VT) (n : Nat) (h : isFn v = false) : ∀ x ∈ prow v n false,isLeaf x = true:=by
  cases v with
  | num=>simp [prow,isLeaf]
  | nm=>simp [prow,isLeaf]
  | fn=>cases h
theorem prow_elem (v : VT) (n : Nat) (b : Bool) : ∀ x ∈ prow v n b,isElem x = true:=by
  cases v <;> cases b <;> simp [prow,isElem,isLeaf]
theorem tail_app (A : List Box) (x y : Box) (P Q : List Box) (z : Box) : A ++ x :: y :: (P ++ (Q ++ [z])) = (A ++ x :: y :: (P ++ Q)) ++ [z]:=by simp
theorem pbox_top (x y : VT) (n : Nat) (B C : List Box) (h : B.length = n) : (B ++ pbox (.fn x y) n ++ C).getD (n + (2 + plen x + plen y)) .dead = .gr none 4 [prow x (n + 2) (isFn x || isFn y),prow y (n + 2 + plen x) (isFn x || isFn y)]:=by
  have hl:=pbox_length (.fn x y) n
  simp only [plen] at hl
  rw [Abs.getD_append_left (by rw [List.length_append]; omega),Abs.getD_append_right (by omega),h,show n + (2 + plen x + plen y) - n = (plen x + plen y) + 1 + 1 by omega]
  simp only [pbox,List.getD_cons_succ]
  rw [Abs.getD_append_right (by rw [pbox_length]; omega),pbox_length,show plen x + plen y - plen x = plen y by omega,Abs.getD_append_right (by rw [pbox_length]; omega),pbox_length,Nat.sub_self]
  rfl
theorem own_plain : ∀ (v : VT) (n : Nat) (nest : Bool) (L : List Box),(∀ k,k < plen v → L.getD (n + k) .dead = (pbox v n).getD k .dead) → OwnT L (toTy v) (prow v n nest) (pidx v n)
  | .num,n,nest,L,h=>by
    rw [toTy,ownT_mk]
    cases nest
    · exact ⟨.slice [],rfl,.inr (.inl ⟨rfl,rfl,rfl⟩)⟩
    · exact ⟨.nils,rfl,.inl ⟨rfl,rfl,rfl⟩⟩
  | .nm m k,n,nest,L,h=>by
    rw [toTy,ownT_mk]
    cases nest
    · exact ⟨.slice [],rfl,.inr (.inl ⟨rfl,rfl,rfl⟩)⟩
    · exact ⟨.nils,rfl,.inl ⟨rfl,rfl,rfl⟩⟩
  | .fn a b,n,nest,L,h=>by
    rw [toTy,ownT_mk]
    have ha:=own_plain a (n + 2) (isFn a || isFn b) L fun k hk=>by
      have:=h (2 + k) (by simp [plen]; omega)
      rw [show n + 2 + k = n + (2 + k) by omega,this]
      simp only [pbox]
      rw [show 2 + k = k + 1 + 1 by omega,List.getD_cons_succ,List.getD_cons_succ,Abs.getD_append_left (by rw [pbox_length]; exact hk)]
    have hb:=own_plain b (n + 2 + plen a) (isFn a || isFn b) L fun k hk=>by
      have:=h (2 + plen a + k) (by simp [plen]; omega)
      rw [show n + 2 + plen a + k = n + (2 + plen a + k) by omega,this]
      simp only [pbox]
      rw [show 2 + plen a + k = (plen a + k) + 1 + 1 by omega,List.getD_cons_succ,List.getD_cons_succ,Abs.getD_append_right (by rw [pbox_length]; omega),pbox_length,
        show plen a + k - plen a = k by omega,Abs.getD_append_left (by rw [pbox_length]; exact hk)]
    refine ⟨.own (n + (2 + plen a + plen b)),rfl,.inr (.inr ⟨_,[prow a (n + 2) (isFn a || isFn b),prow b (n + 2 + plen a) (isFn a || isFn b)],_,rfl,rfl,?_,?_⟩)⟩
    · rw [h (2 + plen a + plen b) (by rw [plen]; omega)]
      simp only [pbox]
      rw [show 2 + plen a + plen b = (plen a + plen b) + 1 + 1 by omega,List.getD_cons_succ,List.getD_cons_succ,Abs.getD_append_right (by rw [pbox_length]; omega),pbox_length,
        show plen a + plen b - plen a = plen b by omega,Abs.getD_append_right (by rw [pbox_length]; omega),pbox_length,Nat.sub_self]
      rfl
    · rw [OwnR]
      refine ⟨_,_,_,_,rfl,rfl,ha,?_⟩
      rw [OwnR]
      exact ⟨_,_,pidx b (n + 2 + plen a),[],rfl,by simp,hb,by simp [OwnR]⟩
theorem meth_invE {own : FuncId → Bool} {name : String} {gs : VT → FuncId} {v : VT} {args : List AV} {x : AV} {N : Nat} {ops : Array Oper} {T : Ranks} {As : Nat → List Box} {Q : Env → Prop} {k : Nat} {rest : List Oper} {d : Option Tmp} {e : Env}
    (hm : Met name gs) (h : ACalls Tryz.prog (gs v) (vX v :: args) (As (T.lo k)) (fun v' A'=>v' = x ∧ A' = As (T.next k (T.lo k)))) (hr : T.lo k = T.hi k)
    (hk : wpG Tryz.prog own N ops T As Q (k + 1) rest (putA N d x e)) : InvE Tryz.prog own N ops T As Q k name (.iface (vT v) (vX v)) args rest d e :=
  ⟨gs v,hm.find v,hm.call v,callEO_intro h hk hr⟩
def PlainM (v : VT) : Prop:=∀ A,ACalls Tryz.prog ((pickF 430 437 114) v) [vX v] A (fun r A'=>r = .agg (prow v A.length true) ∧ A' = A ++ pbox v A.length)
set_option maxRecDepth 100000 in
theorem num_plain : PlainM .num:=fun A=>by
  show ACalls Tryz.prog 430 _ _ _
  rw [vX]
  refine acalls_enterK (cf:=cf 4 [0,2]) foll Tryz.func430 Tryz.ntmps430 (by simp [cf]) ?_
  simp only [Tryz.f430,EnterK_some,zW,zX,zD,builtinA,isLeaf,const1,ustrA,simprocAttr,ti36,ti369,cf,Tryz.results430]
  exact ⟨rfl,rfl⟩
set_option maxRecDepth 100000 in
theorem name_plain (m k : List UInt8) : PlainM (.nm m k):=fun A=>by
  show ACalls Tryz.prog 114 _ _ _
  rw [vX]
  refine acalls_enterK (cf:=cf 8 [0,1,2]) foll Tryz.func114 Tryz.ntmps114 (by simp [cf]) ?_
  simp only [Tryz.f114,EnterK_some,zW,zX,zD,builtinA,isLeaf,const1,ustrA,simprocAttr,ti9,ti36,ti180,cf,Tryz.results114]
  exact ⟨rfl,rfl⟩
set_option maxRecDepth 100000 in
theorem fun_plain (a b : VT) (ha : PlainM a) (hb : PlainM b) : PlainM (.fn a b):=fun A=>by
  show ACalls Tryz.prog 437 _ _ _
  rw [vX]
  refine ACalls.grow ?_
  have ea : (pbox a (A.length + 2)).length = plen a:=pbox_length _ _
  have eb : (pbox b (A.length + 2 + plen a)).length = plen b:=pbox_length _ _
  have ca : ACalls Tryz.prog ((pickF 430 437 114) a) [vX a] (A ++ [Box.cells [.iface (vT a) (vX a),.iface (vT b) (vX b)],Box.cells [.int .i64 0,.str [],.str [],.nils]]) (fun r A'=>r = .agg (prow a (A.length + 2) true) ∧ A' = A ++ (Box.cells [.iface (vT a) (vX a),.iface (vT b) (vX b)] :: Box.cells [.int .i64 0,.str [],.str [],.nils] :: pbox a (A.length + 2))):=by
    have:=ha (A ++ [Box.cells [.iface (vT a) (vX a),.iface (vT b) (vX b)],Box.cells [.int .i64 0,.str [],.str [],.nils]])
    simpa using this
  have cb : ACalls Tryz.prog ((pickF 430 437 114) b) [vX b] (A ++ (Box.cells [.iface (vT a) (vX a),.iface (vT b) (vX b)] :: Box.cells [.int .i64 0,.str [],.str [],.nils] :: pbox a (A.length + 2))) (fun r A'=>r = .agg (prow b (A.length + 2 + plen a) true) ∧ A' = A ++ (Box.cells [.iface (vT a) (vX a),.iface (vT b) (vX b)] :: Box.cells [.int .i64 0,.str [],.str [],.nils] :: (pbox a (A.length + 2) ++ pbox b (A.length + 2 + plen a)))):=by
    have:=hb (A ++ (Box.cells [.iface (vT a) (vX a),.iface (vT b) (vX b)] :: Box.cells [.int .i64 0,.str [],.str [],.nils] :: pbox a (A.length + 2)))
    have hl : (A ++ (Box.cells [.iface (vT a) (vX a),.iface (vT b) (vX b)] :: Box.cells [.int .i64 0,.str [],.str [],.nils] :: pbox a (A.length + 2))).length = A.length + 2 + plen a:=by simp [ea]; omega
    rw [hl] at this
    simpa using this
  have hl2 : (A ++ (Box.cells [.iface (vT a) (vX a),.iface (vT b) (vX b)] :: Box.cells [.int .i64 0,.str [],.str [],.nils] :: (pbox a (A.length + 2) ++ pbox b (A.length + 2 + plen a)))).length = A.length + (2 + plen a + plen b):=by simp [ea,eb]; omega
  cases hf : (isFn a || isFn b) with
  | false =>
    have fz : ∀ B,frzs [.agg (prow a (A.length + 2) true),.agg (prow b (A.length + 2 + plen a) true)] B = some ([.agg (prow a (A.length + 2) false),.agg (prow b (A.length + 2 + plen a) false)],B):=by
      intro B
      cases a <;> cases b <;> simp [isFn] at hf <;> rfl
    have la : (prow a (A.length + 2) false).length = 4:=prow_length _ _ _
    have lb : (prow b (A.length + 2 + plen a) false).length = 4:=prow_length _ _ _
    refine acalls_enterK (cf:=cf 11 [0,1,2]) foll Tryz.func437 Tryz.ntmps437 (by simp [cf]) ?_
    simp only [Tryz.f437,EnterK_some,zW,zX,zD,builtinA,isLeaf,const1,ustrA,simprocAttr,ti34,ti36,ti175,ti422,cf,Tryz.results437]
    refine .inr (drawE_intro [(false,0,0),(false,0,0),(true,0,0),(false,0,1),(false,0,1),(true,1,1),(true,2,2),(false,3,3),(true,3,3)] [A ++ [Box.cells [.iface (vT a) (vX a),.iface (vT b) (vX b)],Box.cells [.int .i64 0,.str [],.str [],.nils]],A ++ (Box.cells [.iface (vT a) (vX a),.iface (vT b) (vX b)] :: Box.cells [.int .i64 0,.str [],.str [],.nils] :: pbox a (A.length + 2)),A ++ (Box.cells [.iface (vT a) (vX a),.iface (vT b) (vX b)] :: Box.cells [.int .i64 0,.str [],.str [],.nils] :: (pbox a (A.length + 2) ++ pbox b (A.length + 2 + plen a))),A ++ (Box.cells [.iface (vT a) (vX a),.iface (vT b) (vX b)] :: Box.cells [.int .i64 0,.str [],.str [],.nils] :: (pbox a (A.length + 2) ++ (pbox b (A.length + 2 + plen a) ++ [.row 4 [prow a (A.length + 2) false,prow b (A.length + 2 + plen a) false] 0]))),A ++ (Box.cells [.iface (vT a) (vX a),.iface (vT b) (vX b)] :: Box.cells [.int .i64 2,.str [],.str [],.own (A.length + (2 + plen a + plen b))] :: (pbox a (A.length + 2) ++ (pbox b (A.length + 2 + plen a) ++ [.row 4 [prow a (A.length + 2) false,prow b (A.length + 2 + plen a) false] 0])))] 4 rfl (by kernel_rfl) (by kernel_rfl) (by kernel_rfl) (by kernel_rfl) (by kernel_rfl) (by kernel_rfl) ?_)
    simp only [zW,zX,zD,builtinA,isLeaf,const1,ustrA,simprocAttr,ti34,ti36,ti175,ti422,cf,Tryz.results437]
    refine wpG_invoke _ _ _ _ _ _ _ _ _ _ _ _ _ _ _ _ _ _ ?_
    simp only [zW,zX,zD,builtinA,isLeaf,const1,ustrA,simprocAttr,ti34,ti36,ti175,ti422,cf,Tryz.results437]
    refine meth_invE (met3 (by kernel_rfl) (by kernel_rfl) (by kernel_rfl) (by kernel_rfl) (by kernel_rfl) (by kernel_rfl)) ca rfl ?_
    simp only [zW,zX,zD,builtinA,isLeaf,const1,ustrA,simprocAttr,ti34,ti36,ti175,ti422,cf,Tryz.results437]
    refine wpG_invoke _ _ _ _ _ _ _ _ _ _ _ _ _ _ _ _ _ _ ?_
    simp only [zW,zX,zD,builtinA,isLeaf,const1,ustrA,simprocAttr,ti34,ti36,ti175,ti422,cf,Tryz.results437]
    refine meth_invE (met3 (by kernel_rfl) (by kernel_rfl) (by kernel_rfl) (by kernel_rfl) (by kernel_rfl) (by kernel_rfl)) cb rfl ?_
    simp only [zW,zX,zD,builtinA,isLeaf,const1,ustrA,simprocAttr,ti34,ti36,ti175,ti422,cf,Tryz.results437,fz,la,lb,hl2]
    refine ⟨⟨prow_leaf a _ (by simp at hf; exact hf.1),prow_leaf b _ (by simp at hf; exact hf.2)⟩,.inr ⟨A.length + (2 + plen a + plen b),4,[prow a (A.length + 2) false,prow b (A.length + 2 + plen a) false],?_,rfl,?_⟩⟩
    · rw [tail_app A _ _ (pbox a (A.length + 2)) (pbox b (A.length + 2 + plen a)) _,Abs.getD_append_right (by simp [ea,eb]; omega)]
      simp [ea,eb]
      rw [show A.length + (2 + plen a + plen b) - (A.length + (plen a + plen b + 1 + 1)) = 0 by omega]
      rfl
    · rw [tail_app A _ _ (pbox a (A.length + 2)) (pbox b (A.length + 2 + plen a)) _,List.set_append_right _ _ (by simp [ea,eb]; omega)]
      simp [ea,eb]
      rw [show A.length + (2 + plen a + plen b) - (A.length + (plen a + plen b + 1 + 1)) = 0 by omega]
      simp [pbox,hf]
  | true =>
    have fz : frzs [.agg (prow a (A.length + 2) true),.agg (prow b (A.length + 2 + plen a) true)] (A ++ (Box.cells [.iface (vT a) (vX a),.iface (vT b) (vX b)] :: Box.cells [.int .i64 0,.str [],.str [],.nils] :: (pbox a (A.length + 2) ++ pbox b (A.length + 2 + plen a)))) = none:=by
      have hb2 : ∀ B C : List Box,B.length = A.length + 2 + plen a → isFn b = true → frzC (.agg (prow b (A.length + 2 + plen a) true)) (B ++ pbox b (A.length + 2 + plen a) ++ C) = none:=fun B C hB h=>by
        cases b with
        | num=>cases h
        | nm=>cases h
        | fn x y =>
          have hg : (B ++ pbox (.fn x y) (A.length + 2 + plen a) ++ C).getD (A.length + 2 + plen a + (2 + plen x + plen y)) .dead = .gr none 4 [prow x (A.length + 2 + plen a + 2) (isFn x || isFn y),prow y (A.length + 2 + plen a + 2 + plen x) (isFn x || isFn y)]:=pbox_top _ _ _ _ _ hB
          simp only [prow,frzC,frzL,frz1,hg]
          rfl
      have ha2 : ∀ B C : List Box,B.length = A.length + 2 → frzC (.agg (prow a (A.length + 2) true)) (B ++ pbox a (A.length + 2) ++ C) = if isFn a = true then none else some (.agg (prow a (A.length + 2) false),(B ++ pbox a (A.length + 2) ++ C)):=fun B C hB=>by
        cases a with
        | num=>rfl
        | nm=>rfl
        | fn x y =>
          have hg : (B ++ pbox (.fn x y) (A.length + 2) ++ C).getD (A.length + 2 + (2 + plen x + plen y)) .dead = .gr none 4 [prow x (A.length + 2 + 2) (isFn x || isFn y),prow y (A.length + 2 + 2 + plen x) (isFn x || isFn y)]:=pbox_top _ _ _ _ _ hB
          simp only [prow,frzC,frzL,frz1,hg]
          rfl
      have e1 : (A ++ (Box.cells [.iface (vT a) (vX a),.iface (vT b) (vX b)] :: Box.cells [.int .i64 0,.str [],.str [],.nils] :: (pbox a (A.length + 2) ++ pbox b (A.length + 2 + plen a)))) = (A ++ [Box.cells [.iface (vT a) (vX a),.iface (vT b) (vX b)],Box.cells [.int .i64 0,.str [],.str [],.nils]]) ++ pbox a (A.length + 2) ++ pbox b (A.length + 2 + plen a):=by simp
      rw [e1]
      simp only [frzs]
      rw [ha2 _ _ (by simp)]
      by_cases h : isFn a = true
      · rw [if_pos h]
      · rw [if_neg h]
        have hb1 : isFn b = true:=by simp [h] at hf; exact hf
        have:=hb2 ((A ++ [Box.cells [.iface (vT a) (vX a),.iface (vT b) (vX b)],Box.cells [.int .i64 0,.str [],.str [],.nils]]) ++ pbox a (A.length + 2)) [] (by simp [ea]; omega) hb1
        rw [List.append_nil] at this
        simp only [this]
    have la : (prow a (A.length + 2) true).length = 4:=prow_length _ _ _
    have lb : (prow b (A.length + 2 + plen a) true).length = 4:=prow_length _ _ _
    refine acalls_enterK (cf:=cf 11 [0,1,2]) foll Tryz.func437 Tryz.ntmps437 (by simp [cf]) ?_
    simp only [Tryz.f437,EnterK_some,zW,zX,zD,builtinA,isLeaf,const1,ustrA,simprocAttr,ti34,ti36,ti175,ti422,cf,Tryz.results437]
    refine .inr (drawE_intro [(false,0,0),(false,0,0),(true,0,0),(false,0,1),(false,0,1),(true,1,1),(true,2,2),(false,3,3),(true,3,3)] [A ++ [Box.cells [.iface (vT a) (vX a),.iface (vT b) (vX b)],Box.cells [.int .i64 0,.str [],.str [],.nils]],A ++ (Box.cells [.iface (vT a) (vX a),.iface (vT b) (vX b)] :: Box.cells [.int .i64 0,.str [],.str [],.nils] :: pbox a (A.length + 2)),A ++ (Box.cells [.iface (vT a) (vX a),.iface (vT b) (vX b)] :: Box.cells [.int .i64 0,.str [],.str [],.nils] :: (pbox a (A.length + 2) ++ pbox b (A.length + 2 + plen a))),A ++ (Box.cells [.iface (vT a) (vX a),.iface (vT b) (vX b)] :: Box.cells [.int .i64 0,.str [],.str [],.nils] :: (pbox a (A.length + 2) ++ (pbox b (A.length + 2 + plen a) ++ [.gr none 4 [prow a (A.length + 2) true,prow b (A.length + 2 + plen a) true]]))),A ++ (Box.cells [.iface (vT a) (vX a),.iface (vT b) (vX b)] :: Box.cells [.int .i64 2,.str [],.str [],.own (A.length + (2 + plen a + plen b))] :: (pbox a (A.length + 2) ++ (pbox b (A.length + 2 + plen a) ++ [.gr none 4 [prow a (A.length + 2) true,prow b (A.length + 2 + plen a) true]])))] 4 rfl (by kernel_rfl) (by kernel_rfl) (by kernel_rfl) (by kernel_rfl) (by kernel_rfl) (by kernel_rfl) ?_)
    simp only [zW,zX,zD,builtinA,isLeaf,const1,ustrA,simprocAttr,ti34,ti36,ti175,ti422,cf,Tryz.results437]
    refine wpG_invoke _ _ _ _ _ _ _ _ _ _ _ _ _ _ _ _ _ _ ?_
    simp only [zW,zX,zD,builtinA,isLeaf,const1,ustrA,simprocAttr,ti34,ti36,ti175,ti422,cf,Tryz.results437]
    refine meth_invE (met3 (by kernel_rfl) (by kernel_rfl) (by kernel_rfl) (by kernel_rfl) (by kernel_rfl) (by kernel_rfl)) ca rfl ?_
    simp only [zW,zX,zD,builtinA,isLeaf,const1,ustrA,simprocAttr,ti34,ti36,ti175,ti422,cf,Tryz.results437]
    refine wpG_invoke _ _ _ _ _ _ _ _ _ _ _ _ _ _ _ _ _ _ ?_
    simp only [zW,zX,zD,builtinA,isLeaf,const1,ustrA,simprocAttr,ti34,ti36,ti175,ti422,cf,Tryz.results437]
    refine meth_invE (met3 (by kernel_rfl) (by kernel_rfl) (by kernel_rfl) (by kernel_rfl) (by kernel_rfl) (by kernel_rfl)) cb rfl ?_
    simp only [zW,zX,zD,builtinA,isLeaf,const1,ustrA,simprocAttr,ti34,ti36,ti175,ti422,cf,Tryz.results437,fz,la,lb,hl2]
    refine ⟨⟨prow_elem a _ _,prow_elem b _ _⟩,.inl ⟨rfl,?_⟩⟩
    simp [pbox,hf]
theorem plainM : ∀ v,PlainM v
  | .num=>num_plain
  | .nm m k=>name_plain m k
  | .fn a b=>fun_plain a b (plainM a) (plainM b)
end Go.Proofs.YtnjdbgiincliaaaGreat
/- The program's SubstType: what it hands back is memory of its own. -/
set_option linter.unusedVariables false
set_option linter.unusedSimpArgs false
namespace Go.Proofs.YtnjdbgiincliaaaGreat
open Go.Abs
abbrev BNm:=List UInt8 × List UInt8
def bkE (p : BNm) : List AV:=[.str p.1,.str p.2]
def lookB (p : BNm) : List (BNm × VT) → Option VT
  | []=>none
  | (q,v) :: m=>if p = q then some v else lookB p m
def subV (m : List (BNm × VT)) : VT → VT
  | .num=>.num
  | .nm a b=>(lookB (a,b) m).getD (.nm a b)
  | .fn a b=>.fn (subV m a) (subV m b)
def esB (m : List (BNm × VT)) : List (AV × AV):=m.map fun q=>(.agg (bkE q.1),.iface (vT q.2) (vX q.2))
abbrev KB : List (Nat × TK):=[(0,.str),(1,.str)]
theorem bkE_eq (x y : BNm) : eqK KB (bkE x) (bkE y) = some (decide (x = y)):=by
  have : decide (x = y) = (decide (x.1 = y.1) && (decide (x.2 = y.2) && true)):=by
    rw [Bool.eq_iff_iff]
    simp [Prod.ext_iff]
  rw [this]
  simp [KB,eqK,bkE,c1A]
  try congr 1
theorem find_b (q : BNm) : ∀ (m : List (BNm × VT)) (n : Nat),(findA KB (bkE q) (esB m) n = some none ∧ lookB q m = none) ∨ ∃ j v,findA KB (bkE q) (esB m) n = some (some (j,.iface (vT v) (vX v))) ∧ lookB q m = some v
  | [],n=>.inl ⟨rfl,rfl⟩
  | (p,v) :: m,n=>by
    simp only [esB,List.map_cons,findA]
    rw [if_pos (show (bkE p).length = (bkE q).length from rfl),bkE_eq]
    by_cases h : q = p
    · subst h
      simp only [decide_true,lookB,if_true]
      exact .inr ⟨_,_,rfl,rfl⟩
    · simp only [decide_eq_false h,lookB,if_neg h]
      exact find_b q m (n + 1)
theorem esB_app (m : List (BNm × VT)) (p : BNm) (v : VT) : esB m ++ [(.agg [.str p.1,.str p.2],.iface (vT v) (vX v))] = esB (m ++ [(p,v)]):=by simp [esB,bkE]
def SubM (m : List (BNm × VT)) (v : VT) : Prop:=∀ A i,i < A.length → A.getD i .dead = .mapb (esB m) → ACalls Tryz.prog ((pickF 432 439 360) v) [vX v,.map i] A (fun r A'=>r = .iface (vT (subV m v)) (vX (subV m v)) ∧ A' = A)
theorem num_sub (m : List (BNm × VT)) : SubM m .num:=fun A i hi hA=>by
  show ACalls Tryz.prog 432 _ _ _
  rw [vX]
  refine acalls_enter (cf:=cf 7 [0,4]) foll Tryz.func432 Tryz.ntmps432 (by simp [cf]) ?_
  simp only [Tryz.f432,EnterK_some,zW,zX,zD,builtinA,isLeaf,const1,ustrA,simprocAttr,ti369,cf,Tryz.results432]
  try rfl
set_option maxRecDepth 100000 in
theorem name_sub (m : List (BNm × VT)) (a b : List UInt8) : SubM m (.nm a b):=fun A i hi hA=>by
  show ACalls Tryz.prog 360 _ _ _
  rw [vX]
  have g1 : ∀ B : List Box,(A ++ B).getD i .dead = .mapb (esB m):=fun B=>by rw [Abs.getD_append_left hi]; exact hA
  rcases find_b (a,b) m 0 with ⟨h1,h2⟩ | ⟨j,v,h1,h2⟩
  · simp only [bkE] at h1
    rw [subV,h2]
    refine acalls_enter (cf:=cf 17 [0,1,2,4,5,6,13]) foll Tryz.func360 Tryz.ntmps360 (by simp [cf]) ?_
    simp only [Tryz.f360,EnterK_some,zW,zX,zD,builtinA,isLeaf,const1,ustrA,simprocAttr,ti180,ti375,mi375,cf,Tryz.results360]
    simp only [zW,zX,zD,builtinA,isLeaf,const1,ustrA,simprocAttr,ti180,ti375,mi375,cf,Tryz.results360,g1,h1]
    rfl
  · simp only [bkE] at h1
    rw [subV,h2]
    refine acalls_enter (cf:=cf 17 [0,1,2,4,5,6,13]) foll Tryz.func360 Tryz.ntmps360 (by simp [cf]) ?_
    simp only [Tryz.f360,EnterK_some,zW,zX,zD,builtinA,isLeaf,const1,ustrA,simprocAttr,ti180,ti375,mi375,cf,Tryz.results360]
    simp only [zW,zX,zD,builtinA,isLeaf,const1,ustrA,simprocAttr,ti180,ti375,mi375,cf,Tryz.results360,g1,h1]
set_option maxRecDepth 100000 in
theorem fun_sub (m : List (BNm × VT)) (a b : VT) (ha : SubM m a) (hb : SubM m b) : SubM m (.fn a b):=fun A i hi hA=>by
  show ACalls Tryz.prog 439 _ _ _
  rw [vX]
  have g1 : ∀ B : List Box,(A ++ B).getD i .dead = .mapb (esB m):=fun B=>by rw [Abs.getD_append_left hi]; exact hA
  refine acalls_enter (cf:=cf 15 [0,1,2,4]) foll Tryz.func439 Tryz.ntmps439 (by simp [cf]) ?_
  simp only [Tryz.f439,EnterK_some,zW,zX,zD,builtinA,isLeaf,const1,ustrA,simprocAttr,ti175,ti422,cf,Tryz.results439]
  refine .inl ⟨by kernel_rfl,by kernel_rfl,?_⟩
  refine wpD_invoke _ _ _ _ _ _ _ _ _ _ _ _ _ _ _ _ ?_
  simp only [zW,zX,zD,builtinA,isLeaf,const1,ustrA,simprocAttr,ti175,ti422,cf,Tryz.results439]
  refine meth_invD (met3 (by kernel_rfl) (by kernel_rfl) (by kernel_rfl) (by kernel_rfl) (by kernel_rfl) (by kernel_rfl)) (ha _ i (by simp; omega) (g1 _)) rfl (fun _=>rfl) ?_
  simp only [zW,zX,zD,builtinA,isLeaf,const1,ustrA,simprocAttr,ti175,ti422,cf,Tryz.results439]
  refine wpD_invoke _ _ _ _ _ _ _ _ _ _ _ _ _ _ _ _ ?_
  simp only [zW,zX,zD,builtinA,isLeaf,const1,ustrA,simprocAttr,ti175,ti422,cf,Tryz.results439]
  refine meth_invD (met3 (by kernel_rfl) (by kernel_rfl) (by kernel_rfl) (by kernel_rfl) (by kernel_rfl) (by kernel_rfl)) (hb _ i (by simp; omega) (g1 _)) rfl (fun _=>rfl) ?_
  simp only [zW,zX,zD,builtinA,isLeaf,const1,ustrA,simprocAttr,ti175,ti422,cf,Tryz.results439]
  try rfl
theorem subM (m : List (BNm × VT)) : ∀ v,SubM m v
  | .num=>num_sub m
  | .nm a b=>name_sub m a b
  | .fn a b=>fun_sub m a b (subM m a) (subM m b)
end Go.Proofs.YtnjdbgiincliaaaGreat
namespace Go.Proofs.YtnjdbgiincliaaaGreat
open Go.Abs
end Go.Proofs.YtnjdbgiincliaaaGreat
namespace Go.Proofs.YtnjdbgiincliaaaGreat
open Go.Abs
theorem lookB_in {p : BNm} {w : VT} : ∀ {m : List (BNm × VT)},lookB p m = some w → (p,w) ∈ m
  | [],h=>by simp [lookB] at h
  | (q,v) :: m,h=>by
    rw [lookB] at h
    by_cases e : p = q
    · rw [if_pos e] at h; cases h; subst e; simp
    · rw [if_neg e] at h; exact List.mem_cons_of_mem _ (lookB_in h)
end Go.Proofs.YtnjdbgiincliaaaGreat
/- The model's SubstType answers as the program's. -/
set_option linter.unusedVariables false
set_option linter.unusedSimpArgs false
namespace Go.Proofs.YtnjdbgiincliaaaGreat
open Go.Abs
end Go.Proofs.YtnjdbgiincliaaaGreat
namespace Go.Proofs.YtnjdbgiincliaaaGreat
open Go.Abs
theorem toTy_injS : ∀ {v v' : VT},toTy v = toTy v' → v = v'
  | .num,.num,_=>rfl
  | .num,.nm _ _,h=>by simp [toTy] at h
  | .num,.fn _ _,h=>by simp [toTy] at h
  | .nm _ _,.num,h=>by simp [toTy] at h
  | .nm _ _,.fn _ _,h=>by simp [toTy] at h
  | .fn _ _,.num,h=>by simp [toTy] at h
  | .fn _ _,.nm _ _,h=>by simp [toTy] at h
  | .nm m n,.nm m' n',h=>by simp [toTy] at h; rw [h.1,h.2]
  | .fn a b,.fn a' b',h=>by
    simp [toTy] at h
    rw [toTy_injS h.1,toTy_injS h.2]
end Go.Proofs.YtnjdbgiincliaaaGreat
/- What a name of a signature stands for is one thing only. -/
set_option linter.unusedVariables false
set_option linter.unusedSimpArgs false
namespace Go.Proofs.YtnjdbgiincliaaaGreat
open Go.Abs
theorem itemOf_one {x : SigI} {y y' : VI} (h : ItemOf x y) (h' : ItemOf x y') : y = y':=by
  cases y <;> cases y' <;> simp only [ItemOf] at h h'
  all_goals first
    | (exfalso; have:=h.2.1; have:=h'.2.1; omega)
    | (rw [← h.1,← h'.1,toTy_injS (h.2.2.1.symm.trans h'.2.2.1)]; done)
    | (rw [← h.1,← h'.1]; done)
theorem vi_ext {ys zs : List VI} (hl : ys.length = zs.length) (h : ∀ i,i < ys.length → ys.getD i vi0 = zs.getD i vi0) : ys = zs:=by
  refine List.ext_getElem hl fun i h1 h2=>?_
  have:=h i h1
  simpa [List.getD,h1,h2] using this
theorem readsTo_one {s : List SigI} {ys zs : List VI} (h : ReadsTo s ys) (h' : ReadsTo s zs) : ys = zs :=
  vi_ext (h.1.trans h'.1.symm) fun i hi=>itemOf_one (h.2 i (h.1 ▸ hi)).2 (h'.2 i (h.1 ▸ hi)).2
end Go.Proofs.YtnjdbgiincliaaaGreat
