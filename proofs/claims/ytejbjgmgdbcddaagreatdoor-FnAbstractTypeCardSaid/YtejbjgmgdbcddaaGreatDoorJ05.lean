/- OwnTy, OwnPlain, SubI, SigNorm. -/
import Derived.Test.YtejbjgmgdbcddaaGreatDoorJ04
import Derived.Test.YtejbjgmgdbcddaaGreatDoorAbsW3
/- Types that are owned: their lists of kids lie in boxes. -/
set_option linter.unusedVariables false
set_option linter.unusedSimpArgs false
namespace Go.Proofs.YtejbjgmgdbcddaaGreatDoor
open Go.Abs
mutual
def OwnT (A : List Box) : Ty → List AV → List Nat → Prop
  | .mk k m n ks,r,S=>∃ v,r = [.int .i64 k,.str m,.str n,v] ∧ ((v = .nils ∧ ks = [] ∧ S = []) ∨ (v = .slice [] ∧ ks = [] ∧ S = []) ∨ ∃ i rows S',v = .own i ∧ S = i :: S' ∧ A.getD i .dead = .gr none 4 rows ∧ OwnR A ks rows S')
def OwnR (A : List Box) : List Ty → List (List AV) → List Nat → Prop
  | [],rows,S=>rows = [] ∧ S = []
  | t :: ks,rows,S=>∃ r rows' S1 S2,rows = r :: rows' ∧ S = S1 ++ S2 ∧ OwnT A t r S1 ∧ OwnR A ks rows' S2
end
def OwnK (A : List Box) (ks : List Ty) (v : AV) (S : List Nat) : Prop :=
  (v = .nils ∧ ks = [] ∧ S = []) ∨ (v = .slice [] ∧ ks = [] ∧ S = []) ∨ ∃ i rows S',v = .own i ∧ S = i :: S' ∧ A.getD i .dead = .gr none 4 rows ∧ OwnR A ks rows S'
theorem ownT_mk {A : List Box} {k : Int} {m n : List UInt8} {ks : List Ty} {r : List AV} {S : List Nat} : OwnT A (.mk k m n ks) r S ↔ ∃ v,r = [.int .i64 k,.str m,.str n,v] ∧ OwnK A ks v S:=by
  rw [OwnT]; rfl
mutual
theorem OwnT.frame {A A' : List Box} : ∀ {t : Ty} {r : List AV} {S : List Nat},OwnT A t r S → (∀ i ∈ S,A'.getD i .dead = A.getD i .dead) → OwnT A' t r S
  | .mk k m n ks,r,S,h,hf=>by
    rw [OwnT] at h ⊢
    obtain ⟨v,hr,h⟩:=h
    refine ⟨v,hr,?_⟩
    rcases h with h | h | ⟨i,rows,S',h1,h2,h3,h4⟩
    · exact .inl h
    · exact .inr (.inl h)
    · subst h2
      exact .inr (.inr ⟨i,rows,S',h1,rfl,by rw [hf i (by simp)]; exact h3,OwnR.frame h4 fun j hj=>hf j (by simp [hj])⟩)
theorem OwnR.frame {A A' : List Box} : ∀ {ks : List Ty} {rows : List (List AV)} {S : List Nat},OwnR A ks rows S → (∀ i ∈ S,A'.getD i .dead = A.getD i .dead) → OwnR A' ks rows S
  | [],rows,S,h,hf=>by rw [OwnR] at h ⊢; exact h
  | t :: ks,rows,S,h,hf=>by
    rw [OwnR] at h ⊢
    obtain ⟨r,rows',S1,S2,h1,h2,h3,h4⟩:=h
    subst h2
    exact ⟨r,rows',S1,S2,h1,rfl,OwnT.frame h3 fun j hj=>hf j (by simp [hj]),OwnR.frame h4 fun j hj=>hf j (by simp [hj])⟩
end
theorem OwnK.frame {A A' : List Box} {ks : List Ty} {v : AV} {S : List Nat} (h : OwnK A ks v S) (hf : ∀ i ∈ S,A'.getD i .dead = A.getD i .dead) : OwnK A' ks v S:=by
  rcases h with h | h | ⟨i,rows,S',h1,h2,h3,h4⟩
  · exact .inl h
  · exact .inr (.inl h)
  · subst h2
    exact .inr (.inr ⟨i,rows,S',h1,rfl,by rw [hf i (by simp)]; exact h3,h4.frame fun j hj=>hf j (by simp [hj])⟩)
theorem OwnR.length {A : List Box} : ∀ {ks : List Ty} {rows : List (List AV)} {S : List Nat},OwnR A ks rows S → rows.length = ks.length
  | [],rows,S,h=>by rw [OwnR] at h; rw [h.1]; rfl
  | t :: ks,rows,S,h=>by
    rw [OwnR] at h
    obtain ⟨r,rows',S1,S2,h1,h2,h3,h4⟩:=h
    subst h1
    simp [OwnR.length h4]
theorem live_lt {A : List Box} {i : Nat} {b : Box} (h : A.getD i .dead = b) (hb : b ≠ .dead) : i < A.length:=by
  rcases Nat.lt_or_ge i A.length with hh | hh
  · exact hh
  · simp [List.getD,Nat.not_lt.2 hh] at h; exact absurd h.symm hb
mutual
theorem OwnT.low {A : List Box} : ∀ {t : Ty} {r : List AV} {S : List Nat},OwnT A t r S → ∀ i ∈ S,i < A.length
  | .mk k m n ks,r,S,h=>by
    rw [OwnT] at h
    obtain ⟨v,hr,h⟩:=h
    rcases h with ⟨_,_,rfl⟩ | ⟨_,_,rfl⟩ | ⟨i,rows,S',h1,rfl,h3,h4⟩
    · simp
    · simp
    · intro j hj
      rcases List.mem_cons.1 hj with rfl | hj
      · exact live_lt h3 (by simp)
      · exact OwnR.low h4 j hj
theorem OwnR.low {A : List Box} : ∀ {ks : List Ty} {rows : List (List AV)} {S : List Nat},OwnR A ks rows S → ∀ i ∈ S,i < A.length
  | [],rows,S,h=>by rw [OwnR] at h; rw [h.2]; simp
  | t :: ks,rows,S,h=>by
    rw [OwnR] at h
    obtain ⟨r,rows',S1,S2,h1,rfl,h3,h4⟩:=h
    intro j hj
    rcases List.mem_append.1 hj with hj | hj
    · exact OwnT.low h3 j hj
    · exact OwnR.low h4 j hj
end
theorem OwnK.low {A : List Box} {ks : List Ty} {v : AV} {S : List Nat} (h : OwnK A ks v S) : ∀ i ∈ S,i < A.length:=by
  rcases h with ⟨_,_,rfl⟩ | ⟨_,_,rfl⟩ | ⟨i,rows,S',h1,rfl,h3,h4⟩
  · simp
  · simp
  · intro j hj
    rcases List.mem_cons.1 hj with rfl | hj
    · exact live_lt h3 (by simp)
    · exact h4.low j hj
theorem enc4 (k : Int) (m n : List UInt8) (ks : List Ty) : enc (.mk k m n ks) = [.int .i64 k,.str m,.str n,.slice (encs ks)]:=by rw [enc]
theorem rows_view {A : List Box} {i : Nat} {rows : List (List AV)} {ks : List Ty} (h : A.getD i .dead = .gr none 4 rows) (hl : rows.length = ks.length)
    (hv : ∀ k,k < rows.length → ∀ j,j < 4 → View A ((rows.getD k []).getD j .bot) ((enc (ks.getD k ty0)).getD j .bot)) : View A (.own i) (.slice (encs ks)):=by
  refine .gr i 4 none rows (encs ks) h (by rw [encs_length,hl]) (fun r hr=>?_) fun k j hk hj=>?_
  · rw [encs_map] at hr
    obtain ⟨t,_,rfl⟩:=List.mem_map.1 hr
    exact ⟨enc_length t,enc_leaf t⟩
  · unfold Abs.rowAt
    rw [encs_getD (by omega)]
    exact hv k hk j hj
mutual
theorem OwnT.view {A : List Box} : ∀ {t : Ty} {r : List AV} {S : List Nat},OwnT A t r S → r.length = 4 ∧ ∀ j,j < 4 → View A (r.getD j .bot) ((enc t).getD j .bot)
  | .mk k m n ks,r,S,h=>by
    rw [OwnT] at h
    obtain ⟨v,rfl,h⟩:=h
    have hk : View A v (.slice (encs ks)):=by
      rcases h with ⟨rfl,rfl,_⟩ | ⟨rfl,rfl,_⟩ | ⟨i,rows,S',rfl,_,h3,h4⟩
      · exact .nils
      · exact .leaf _ rfl
      · exact rows_view h3 h4.length (OwnR.view h4)
    refine ⟨rfl,fun j hj=>?_⟩
    rw [enc4]
    match j,hj with
    | 0,_=>exact .leaf _ rfl
    | 1,_=>exact .leaf _ rfl
    | 2,_=>exact .leaf _ rfl
    | 3,_=>exact hk
theorem OwnR.view {A : List Box} : ∀ {ks : List Ty} {rows : List (List AV)} {S : List Nat},OwnR A ks rows S → ∀ k,k < rows.length → ∀ j,j < 4 → View A ((rows.getD k []).getD j .bot) ((enc (ks.getD k ty0)).getD j .bot)
  | [],rows,S,h=>by rw [OwnR] at h; rw [h.1]; intro k hk; simp at hk
  | t :: ks,rows,S,h=>by
    rw [OwnR] at h
    obtain ⟨r,rows',S1,S2,rfl,h2,h3,h4⟩:=h
    intro k hk j hj
    cases k with
    | zero=>exact (OwnT.view h3).2 j hj
    | succ k =>
      have:=OwnR.view h4 k (by simpa using hk) j hj
      simpa using this
end
theorem OwnK.view {A : List Box} {ks : List Ty} {v : AV} {S : List Nat} (h : OwnK A ks v S) : View A v (.slice (encs ks)):=by
  rcases h with ⟨rfl,rfl,_⟩ | ⟨rfl,rfl,_⟩ | ⟨i,rows,S',rfl,_,h3,h4⟩
  · exact .nils
  · exact .leaf _ rfl
  · exact rows_view h3 h4.length h4.view
end Go.Proofs.YtejbjgmgdbcddaaGreatDoor
/- What the program's method plain makes: a type that is owned. -/
set_option linter.unusedVariables false
set_option linter.unusedSimpArgs false
namespace Go.Proofs.YtejbjgmgdbcddaaGreatDoor
open Go.Abs
def isFn : VT → Bool
  | .fn _ _=>true
  | _=>false
def plen : VT → Nat
  | .fn a b=>3 + plen a + plen b
  | _=>2
def prow : VT → Nat → Bool → List AV
  | .num,n,nest=>[.int .i64 1,.str [],.str [],bif nest then .nils else .slice []]
  | .nm m k,n,nest=>[.int .i64 3,.str m,.str k,bif nest then .nils else .slice []]
  | .fn a b,n,nest=>[.int .i64 2,.str [],.str [],.own (n + (2 + plen a + plen b))]
def pbox : VT → Nat → List Box
  | .num,n=>[.cells [],.cells [.int .i64 1,.str [],.str [],.nils]]
  | .nm m k,n=>[.cells [.str m,.str k],.cells [.int .i64 3,.str m,.str k,.nils]]
  | .fn a b,n=>.cells [.iface (vT a) (vX a),.iface (vT b) (vX b)] :: .cells [.int .i64 2,.str [],.str [],.own (n + (2 + plen a + plen b))] :: (pbox a (n + 2) ++ (pbox b (n + 2 + plen a) ++
      [.gr none 4 [prow a (n + 2) (isFn a || isFn b),prow b (n + 2 + plen a) (isFn a || isFn b)]]))
def pidx : VT → Nat → List Nat
  | .fn a b,n=>(n + (2 + plen a + plen b)) :: (pidx a (n + 2) ++ pidx b (n + 2 + plen a))
  | _,_=>[]
theorem pbox_length : ∀ v n,(pbox v n).length = plen v
  | .num,n=>rfl
  | .nm _ _,n=>rfl
  | .fn a b,n=>by simp [pbox,plen,pbox_length a,pbox_length b]; omega
theorem pidx_in : ∀ v n,∀ i ∈ pidx v n,n ≤ i ∧ i < n + plen v
  | .num,n=>by simp [pidx]
  | .nm _ _,n=>by simp [pidx]
  | .fn a b,n=>by
    intro i hi
    simp only [pidx,List.mem_cons,List.mem_append] at hi
    simp only [plen]
    rcases hi with rfl | hi | hi
    · omega
    · have:=pidx_in a _ i hi; omega
    · have:=pidx_in b _ i hi; omega
theorem pidx_nodup : ∀ v n,(pidx v n).Nodup
  | .num,n=>by simp [pidx]
  | .nm _ _,n=>by simp [pidx]
  | .fn a b,n=>by
    simp only [pidx,List.nodup_cons,List.mem_append,not_or]
    refine ⟨⟨fun h=>?_,fun h=>?_⟩,List.nodup_append.2 ⟨pidx_nodup a _,pidx_nodup b _,fun x hx y hy=>?_⟩⟩
    · have:=pidx_in a _ _ h; omega
    · have:=pidx_in b _ _ h; omega
    · have:=pidx_in a _ _ hx; have:=pidx_in b _ _ hy; omega
theorem prow_length (v : VT) (n : Nat) (b : Bool) : (prow v n b).length = 4:=by cases v <;> rfl
theorem prow_leaf (v : VT) (n : Nat) (h : isFn v = false) : ∀ x ∈ prow v n false,isLeaf x = true:=by
  cases v with
  | num=>simp [prow,isLeaf]
  | nm=>simp [prow,isLeaf]
  | fn=>cases h
theorem prow_elem (v : VT) (n : Nat) (b : Bool) : ∀ x ∈ prow v n b,isElem x = true:=by
  cases v <;> cases b <;> simp [prow,isElem,isLeaf]
theorem tail_app (A : List Box) (x y : Box) (P Q : List Box) (z : Box) : A ++ x :: y :: (P ++ (Q ++ [z])) = (A ++ x :: y :: (P ++ Q)) ++ [z]:=by simp
theorem pbox_top (x y : VT) (n : Nat) (B C : List Box) (h : B.length = n) : (B ++ pbox (.fn x y) n ++ C).getD (n + (2 + plen x + plen y)) .dead = .gr none 4 [prow x (n + 2) (isFn x || isFn y),prow y (n + 2 + plen x) (isFn x || isFn y)]:=by
  have hl:=pbox_length (.fn x y) n
  simp only [plen] at hl
  rw [Abs.getD_append_left (by rw [List.length_append]; omega),Abs.getD_append_right (by omega),h,show n + (2 + plen x + plen y) - n = (plen x + plen y) + 1 + 1 by omega]
  simp only [pbox,List.getD_cons_succ]
  rw [Abs.getD_append_right (by rw [pbox_length]; omega),pbox_length,show plen x + plen y - plen x = plen y by omega,Abs.getD_append_right (by rw [pbox_length]; omega),pbox_length,Nat.sub_self]
  rfl
theorem own_plain : ∀ (v : VT) (n : Nat) (nest : Bool) (L : List Box),(∀ k,k < plen v → L.getD (n + k) .dead = (pbox v n).getD k .dead) → OwnT L (toTy v) (prow v n nest) (pidx v n)
  | .num,n,nest,L,h=>by
    rw [toTy,ownT_mk]
    cases nest
    · exact ⟨.slice [],rfl,.inr (.inl ⟨rfl,rfl,rfl⟩)⟩
    · exact ⟨.nils,rfl,.inl ⟨rfl,rfl,rfl⟩⟩
  | .nm m k,n,nest,L,h=>by
    rw [toTy,ownT_mk]
    cases nest
    · exact ⟨.slice [],rfl,.inr (.inl ⟨rfl,rfl,rfl⟩)⟩
    · exact ⟨.nils,rfl,.inl ⟨rfl,rfl,rfl⟩⟩
  | .fn a b,n,nest,L,h=>by
    rw [toTy,ownT_mk]
    have ha:=own_plain a (n + 2) (isFn a || isFn b) L fun k hk=>by
      have:=h (2 + k) (by simp [plen]; omega)
      rw [show n + 2 + k = n + (2 + k) by omega,this]
      simp only [pbox]
      rw [show 2 + k = k + 1 + 1 by omega,List.getD_cons_succ,List.getD_cons_succ,Abs.getD_append_left (by rw [pbox_length]; exact hk)]
    have hb:=own_plain b (n + 2 + plen a) (isFn a || isFn b) L fun k hk=>by
      have:=h (2 + plen a + k) (by simp [plen]; omega)
      rw [show n + 2 + plen a + k = n + (2 + plen a + k) by omega,this]
      simp only [pbox]
      rw [show 2 + plen a + k = (plen a + k) + 1 + 1 by omega,List.getD_cons_succ,List.getD_cons_succ,Abs.getD_append_right (by rw [pbox_length]; omega),pbox_length,
        show plen a + k - plen a = k by omega,Abs.getD_append_left (by rw [pbox_length]; exact hk)]
    refine ⟨.own (n + (2 + plen a + plen b)),rfl,.inr (.inr ⟨_,[prow a (n + 2) (isFn a || isFn b),prow b (n + 2 + plen a) (isFn a || isFn b)],_,rfl,rfl,?_,?_⟩)⟩
    · rw [h (2 + plen a + plen b) (by rw [plen]; omega)]
      simp only [pbox]
      rw [show 2 + plen a + plen b = (plen a + plen b) + 1 + 1 by omega,List.getD_cons_succ,List.getD_cons_succ,Abs.getD_append_right (by rw [pbox_length]; omega),pbox_length,
        show plen a + plen b - plen a = plen b by omega,Abs.getD_append_right (by rw [pbox_length]; omega),pbox_length,Nat.sub_self]
      rfl
    · rw [OwnR]
      refine ⟨_,_,_,_,rfl,rfl,ha,?_⟩
      rw [OwnR]
      exact ⟨_,_,pidx b (n + 2 + plen a),[],rfl,by simp,hb,by simp [OwnR]⟩
theorem meth_invE {own : FuncId → Bool} {name : String} {gs : VT → FuncId} {v : VT} {args : List AV} {x : AV} {N : Nat} {ops : Array Oper} {T : Ranks} {As : Nat → List Box} {Q : Env → Prop} {k : Nat} {rest : List Oper} {d : Option Tmp} {e : Env}
    (hm : Met name gs) (h : ACalls Tryz.prog (gs v) (vX v :: args) (As (T.lo k)) (fun v' A'=>v' = x ∧ A' = As (T.next k (T.lo k)))) (hr : T.lo k = T.hi k)
    (hk : wpG Tryz.prog own N ops T As Q (k + 1) rest (putA N d x e)) : InvE Tryz.prog own N ops T As Q k name (.iface (vT v) (vX v)) args rest d e :=
  ⟨gs v,hm.find v,hm.call v,callEO_intro h hk hr⟩
def PlainM (v : VT) : Prop:=∀ A,ACalls Tryz.prog ((pickF 179 186 149) v) [vX v] A (fun r A'=>r = .agg (prow v A.length true) ∧ A' = A ++ pbox v A.length)
set_option maxRecDepth 100000 in
theorem num_plain : PlainM .num:=fun A=>by
  show ACalls Tryz.prog 179 _ _ _
  rw [vX]
  refine acalls_enterK (cf:=cf 4 [0,2]) foll Tryz.func179 Tryz.ntmps179 (by simp [cf]) ?_
  simp only [Tryz.f179,EnterK_some,zW,zX,zD,builtinA,isLeaf,const1,ustrA,simprocAttr,ti32,ti199,cf,Tryz.results179]
  exact ⟨rfl,rfl⟩
set_option maxRecDepth 100000 in
theorem name_plain (m k : List UInt8) : PlainM (.nm m k):=fun A=>by
  show ACalls Tryz.prog 149 _ _ _
  rw [vX]
  refine acalls_enterK (cf:=cf 8 [0,1,2]) foll Tryz.func149 Tryz.ntmps149 (by simp [cf]) ?_
  simp only [Tryz.f149,EnterK_some,zW,zX,zD,builtinA,isLeaf,const1,ustrA,simprocAttr,ti9,ti32,ti144,cf,Tryz.results149]
  exact ⟨rfl,rfl⟩
set_option maxRecDepth 100000 in
theorem fun_plain (a b : VT) (ha : PlainM a) (hb : PlainM b) : PlainM (.fn a b):=fun A=>by
  show ACalls Tryz.prog 186 _ _ _
  rw [vX]
  refine ACalls.grow ?_
  have ea : (pbox a (A.length + 2)).length = plen a:=pbox_length _ _
  have eb : (pbox b (A.length + 2 + plen a)).length = plen b:=pbox_length _ _
  have ca : ACalls Tryz.prog ((pickF 179 186 149) a) [vX a] (A ++ [Box.cells [.iface (vT a) (vX a),.iface (vT b) (vX b)],Box.cells [.int .i64 0,.str [],.str [],.nils]]) (fun r A'=>r = .agg (prow a (A.length + 2) true) ∧ A' = A ++ (Box.cells [.iface (vT a) (vX a),.iface (vT b) (vX b)] :: Box.cells [.int .i64 0,.str [],.str [],.nils] :: pbox a (A.length + 2))):=by
    have:=ha (A ++ [Box.cells [.iface (vT a) (vX a),.iface (vT b) (vX b)],Box.cells [.int .i64 0,.str [],.str [],.nils]])
    simpa using this
  have cb : ACalls Tryz.prog ((pickF 179 186 149) b) [vX b] (A ++ (Box.cells [.iface (vT a) (vX a),.iface (vT b) (vX b)] :: Box.cells [.int .i64 0,.str [],.str [],.nils] :: pbox a (A.length + 2))) (fun r A'=>r = .agg (prow b (A.length + 2 + plen a) true) ∧ A' = A ++ (Box.cells [.iface (vT a) (vX a),.iface (vT b) (vX b)] :: Box.cells [.int .i64 0,.str [],.str [],.nils] :: (pbox a (A.length + 2) ++ pbox b (A.length + 2 + plen a)))):=by
    have:=hb (A ++ (Box.cells [.iface (vT a) (vX a),.iface (vT b) (vX b)] :: Box.cells [.int .i64 0,.str [],.str [],.nils] :: pbox a (A.length + 2)))
    have hl : (A ++ (Box.cells [.iface (vT a) (vX a),.iface (vT b) (vX b)] :: Box.cells [.int .i64 0,.str [],.str [],.nils] :: pbox a (A.length + 2))).length = A.length + 2 + plen a:=by simp [ea]; omega
    rw [hl] at this
    simpa using this
  have hl2 : (A ++ (Box.cells [.iface (vT a) (vX a),.iface (vT b) (vX b)] :: Box.cells [.int .i64 0,.str [],.str [],.nils] :: (pbox a (A.length + 2) ++ pbox b (A.length + 2 + plen a)))).length = A.length + (2 + plen a + plen b):=by simp [ea,eb]; omega
  cases hf : (isFn a || isFn b) with
  | false =>
    have fz : ∀ B,frzs [.agg (prow a (A.length + 2) true),.agg (prow b (A.length + 2 + plen a) true)] B = some ([.agg (prow a (A.length + 2) false),.agg (prow b (A.length + 2 + plen a) false)],B):=by
      intro B
      cases a <;> cases b <;> simp [isFn] at hf <;> rfl
    have la : (prow a (A.length + 2) false).length = 4:=prow_length _ _ _
    have lb : (prow b (A.length + 2 + plen a) false).length = 4:=prow_length _ _ _
    refine acalls_enterK (cf:=cf 11 [0,1,2]) foll Tryz.func186 Tryz.ntmps186 (by simp [cf]) ?_
    simp only [Tryz.f186,EnterK_some,zW,zX,zD,builtinA,isLeaf,const1,ustrA,simprocAttr,ti30,ti32,ti99,ti202,cf,Tryz.results186]
    refine .inr (drawE_intro [(false,0,0),(false,0,0),(true,0,0),(false,0,1),(false,0,1),(true,1,1),(true,2,2),(false,3,3),(true,3,3)] [A ++ [Box.cells [.iface (vT a) (vX a),.iface (vT b) (vX b)],Box.cells [.int .i64 0,.str [],.str [],.nils]],A ++ (Box.cells [.iface (vT a) (vX a),.iface (vT b) (vX b)] :: Box.cells [.int .i64 0,.str [],.str [],.nils] :: pbox a (A.length + 2)),A ++ (Box.cells [.iface (vT a) (vX a),.iface (vT b) (vX b)] :: Box.cells [.int .i64 0,.str [],.str [],.nils] :: (pbox a (A.length + 2) ++ pbox b (A.length + 2 + plen a))),A ++ (Box.cells [.iface (vT a) (vX a),.iface (vT b) (vX b)] :: Box.cells [.int .i64 0,.str [],.str [],.nils] :: (pbox a (A.length + 2) ++ (pbox b (A.length + 2 + plen a) ++ [.row 4 [prow a (A.length + 2) false,prow b (A.length + 2 + plen a) false] 0]))),A ++ (Box.cells [.iface (vT a) (vX a),.iface (vT b) (vX b)] :: Box.cells [.int .i64 2,.str [],.str [],.own (A.length + (2 + plen a + plen b))] :: (pbox a (A.length + 2) ++ (pbox b (A.length + 2 + plen a) ++ [.row 4 [prow a (A.length + 2) false,prow b (A.length + 2 + plen a) false] 0])))] 4 rfl (by kernel_rfl) (by kernel_rfl) (by kernel_rfl) (by kernel_rfl) (by kernel_rfl) (by kernel_rfl) ?_)
    simp only [zW,zX,zD,builtinA,isLeaf,const1,ustrA,simprocAttr,ti30,ti32,ti99,ti202,cf,Tryz.results186]
    refine wpG_invoke _ _ _ _ _ _ _ _ _ _ _ _ _ _ _ _ _ _ ?_
    simp only [zW,zX,zD,builtinA,isLeaf,const1,ustrA,simprocAttr,ti30,ti32,ti99,ti202,cf,Tryz.results186]
    refine meth_invE (met3 (by kernel_rfl) (by kernel_rfl) (by kernel_rfl) (by kernel_rfl) (by kernel_rfl) (by kernel_rfl)) ca rfl ?_
    simp only [zW,zX,zD,builtinA,isLeaf,const1,ustrA,simprocAttr,ti30,ti32,ti99,ti202,cf,Tryz.results186]
    refine wpG_invoke _ _ _ _ _ _ _ _ _ _ _ _ _ _ _ _ _ _ ?_
    simp only [zW,zX,zD,builtinA,isLeaf,const1,ustrA,simprocAttr,ti30,ti32,ti99,ti202,cf,Tryz.results186]
    refine meth_invE (met3 (by kernel_rfl) (by kernel_rfl) (by kernel_rfl) (by kernel_rfl) (by kernel_rfl) (by kernel_rfl)) cb rfl ?_
    simp only [zW,zX,zD,builtinA,isLeaf,const1,ustrA,simprocAttr,ti30,ti32,ti99,ti202,cf,Tryz.results186,fz,la,lb,hl2]
    refine ⟨⟨prow_leaf a _ (by simp at hf; exact hf.1),prow_leaf b _ (by simp at hf; exact hf.2)⟩,.inr ⟨A.length + (2 + plen a + plen b),4,[prow a (A.length + 2) false,prow b (A.length + 2 + plen a) false],?_,rfl,?_⟩⟩
    · rw [tail_app A _ _ (pbox a (A.length + 2)) (pbox b (A.length + 2 + plen a)) _,Abs.getD_append_right (by simp [ea,eb]; omega)]
      simp [ea,eb]
      rw [show A.length + (2 + plen a + plen b) - (A.length + (plen a + plen b + 1 + 1)) = 0 by omega]
      rfl
    · rw [tail_app A _ _ (pbox a (A.length + 2)) (pbox b (A.length + 2 + plen a)) _,List.set_append_right _ _ (by simp [ea,eb]; omega)]
      simp [ea,eb]
      rw [show A.length + (2 + plen a + plen b) - (A.length + (plen a + plen b + 1 + 1)) = 0 by omega]
      simp [pbox,hf]
  | true =>
    have fz : frzs [.agg (prow a (A.length + 2) true),.agg (prow b (A.length + 2 + plen a) true)] (A ++ (Box.cells [.iface (vT a) (vX a),.iface (vT b) (vX b)] :: Box.cells [.int .i64 0,.str [],.str [],.nils] :: (pbox a (A.length + 2) ++ pbox b (A.length + 2 + plen a)))) = none:=by
      have hb2 : ∀ B C : List Box,B.length = A.length + 2 + plen a → isFn b = true → frzC (.agg (prow b (A.length + 2 + plen a) true)) (B ++ pbox b (A.length + 2 + plen a) ++ C) = none:=fun B C hB h=>by
        cases b with
        | num=>cases h
        | nm=>cases h
        | fn x y =>
          have hg : (B ++ pbox (.fn x y) (A.length + 2 + plen a) ++ C).getD (A.length + 2 + plen a + (2 + plen x + plen y)) .dead = .gr none 4 [prow x (A.length + 2 + plen a + 2) (isFn x || isFn y),prow y (A.length + 2 + plen a + 2 + plen x) (isFn x || isFn y)]:=pbox_top _ _ _ _ _ hB
          simp only [prow,frzC,frzL,frz1,hg]
          rfl
      have ha2 : ∀ B C : List Box,B.length = A.length + 2 → frzC (.agg (prow a (A.length + 2) true)) (B ++ pbox a (A.length + 2) ++ C) = if isFn a = true then none else some (.agg (prow a (A.length + 2) false),(B ++ pbox a (A.length + 2) ++ C)):=fun B C hB=>by
        cases a with
        | num=>rfl
        | nm=>rfl
        | fn x y =>
          have hg : (B ++ pbox (.fn x y) (A.length + 2) ++ C).getD (A.length + 2 + (2 + plen x + plen y)) .dead = .gr none 4 [prow x (A.length + 2 + 2) (isFn x || isFn y),prow y (A.length + 2 + 2 + plen x) (isFn x || isFn y)]:=pbox_top _ _ _ _ _ hB
          simp only [prow,frzC,frzL,frz1,hg]
          rfl
      have e1 : (A ++ (Box.cells [.iface (vT a) (vX a),.iface (vT b) (vX b)] :: Box.cells [.int .i64 0,.str [],.str [],.nils] :: (pbox a (A.length + 2) ++ pbox b (A.length + 2 + plen a)))) = (A ++ [Box.cells [.iface (vT a) (vX a),.iface (vT b) (vX b)],Box.cells [.int .i64 0,.str [],.str [],.nils]]) ++ pbox a (A.length + 2) ++ pbox b (A.length + 2 + plen a):=by simp
      rw [e1]
      simp only [frzs]
      rw [ha2 _ _ (by simp)]
      by_cases h : isFn a = true
      · rw [if_pos h]
      · rw [if_neg h]
        have hb1 : isFn b = true:=by simp [h] at hf; exact hf
        have:=hb2 ((A ++ [Box.cells [.iface (vT a) (vX a),.iface (vT b) (vX b)],Box.cells [.int .i64 0,.str [],.str [],.nils]]) ++ pbox a (A.length + 2)) [] (by simp [ea]; omega) hb1
        rw [List.append_nil] at this
        simp only [this]
    have la : (prow a (A.length + 2) true).length = 4:=prow_length _ _ _
    have lb : (prow b (A.length + 2 + plen a) true).length = 4:=prow_length _ _ _
    refine acalls_enterK (cf:=cf 11 [0,1,2]) foll Tryz.func186 Tryz.ntmps186 (by simp [cf]) ?_
    simp only [Tryz.f186,EnterK_some,zW,zX,zD,builtinA,isLeaf,const1,ustrA,simprocAttr,ti30,ti32,ti99,ti202,cf,Tryz.results186]
    refine .inr (drawE_intro [(false,0,0),(false,0,0),(true,0,0),(false,0,1),(false,0,1),(true,1,1),(true,2,2),(false,3,3),(true,3,3)] [A ++ [Box.cells [.iface (vT a) (vX a),.iface (vT b) (vX b)],Box.cells [.int .i64 0,.str [],.str [],.nils]],A ++ (Box.cells [.iface (vT a) (vX a),.iface (vT b) (vX b)] :: Box.cells [.int .i64 0,.str [],.str [],.nils] :: pbox a (A.length + 2)),A ++ (Box.cells [.iface (vT a) (vX a),.iface (vT b) (vX b)] :: Box.cells [.int .i64 0,.str [],.str [],.nils] :: (pbox a (A.length + 2) ++ pbox b (A.length + 2 + plen a))),A ++ (Box.cells [.iface (vT a) (vX a),.iface (vT b) (vX b)] :: Box.cells [.int .i64 0,.str [],.str [],.nils] :: (pbox a (A.length + 2) ++ (pbox b (A.length + 2 + plen a) ++ [.gr none 4 [prow a (A.length + 2) true,prow b (A.length + 2 + plen a) true]]))),A ++ (Box.cells [.iface (vT a) (vX a),.iface (vT b) (vX b)] :: Box.cells [.int .i64 2,.str [],.str [],.own (A.length + (2 + plen a + plen b))] :: (pbox a (A.length + 2) ++ (pbox b (A.length + 2 + plen a) ++ [.gr none 4 [prow a (A.length + 2) true,prow b (A.length + 2 + plen a) true]])))] 4 rfl (by kernel_rfl) (by kernel_rfl) (by kernel_rfl) (by kernel_rfl) (by kernel_rfl) (by kernel_rfl) ?_)
    simp only [zW,zX,zD,builtinA,isLeaf,const1,ustrA,simprocAttr,ti30,ti32,ti99,ti202,cf,Tryz.results186]
    refine wpG_invoke _ _ _ _ _ _ _ _ _ _ _ _ _ _ _ _ _ _ ?_
    simp only [zW,zX,zD,builtinA,isLeaf,const1,ustrA,simprocAttr,ti30,ti32,ti99,ti202,cf,Tryz.results186]
    refine meth_invE (met3 (by kernel_rfl) (by kernel_rfl) (by kernel_rfl) (by kernel_rfl) (by kernel_rfl) (by kernel_rfl)) ca rfl ?_
    simp only [zW,zX,zD,builtinA,isLeaf,const1,ustrA,simprocAttr,ti30,ti32,ti99,ti202,cf,Tryz.results186]
    refine wpG_invoke _ _ _ _ _ _ _ _ _ _ _ _ _ _ _ _ _ _ ?_
    simp only [zW,zX,zD,builtinA,isLeaf,const1,ustrA,simprocAttr,ti30,ti32,ti99,ti202,cf,Tryz.results186]
    refine meth_invE (met3 (by kernel_rfl) (by kernel_rfl) (by kernel_rfl) (by kernel_rfl) (by kernel_rfl) (by kernel_rfl)) cb rfl ?_
    simp only [zW,zX,zD,builtinA,isLeaf,const1,ustrA,simprocAttr,ti30,ti32,ti99,ti202,cf,Tryz.results186,fz,la,lb,hl2]
    refine ⟨⟨prow_elem a _ _,prow_elem b _ _⟩,.inl ⟨rfl,?_⟩⟩
    simp [pbox,hf]
theorem plainM : ∀ v,PlainM v
  | .num=>num_plain
  | .nm m k=>name_plain m k
  | .fn a b=>fun_plain a b (plainM a) (plainM b)
end Go.Proofs.YtejbjgmgdbcddaaGreatDoor
/- The program's SubstType: what it hands back is memory of its own. -/
set_option linter.unusedVariables false
set_option linter.unusedSimpArgs false
namespace Go.Proofs.YtejbjgmgdbcddaaGreatDoor
open Go.Abs
abbrev BNm:=List UInt8 × List UInt8
def bkE (p : BNm) : List AV:=[.str p.1,.str p.2]
def lookB (p : BNm) : List (BNm × VT) → Option VT
  | []=>none
  | (q,v) :: m=>if p = q then some v else lookB p m
def subV (m : List (BNm × VT)) : VT → VT
  | .num=>.num
  | .nm a b=>(lookB (a,b) m).getD (.nm a b)
  | .fn a b=>.fn (subV m a) (subV m b)
def esB (m : List (BNm × VT)) : List (AV × AV):=m.map fun q=>(.agg (bkE q.1),.iface (vT q.2) (vX q.2))
abbrev KB : List (Nat × TK):=[(0,.str),(1,.str)]
theorem bkE_eq (x y : BNm) : eqK KB (bkE x) (bkE y) = some (decide (x = y)):=by
  have : decide (x = y) = (decide (x.1 = y.1) && (decide (x.2 = y.2) && true)):=by
    rw [Bool.eq_iff_iff]
    simp [Prod.ext_iff]
  rw [this]
  simp [KB,eqK,bkE,c1A]
  try congr 1
theorem find_b (q : BNm) : ∀ (m : List (BNm × VT)) (n : Nat),(findA KB (bkE q) (esB m) n = some none ∧ lookB q m = none) ∨ ∃ j v,findA KB (bkE q) (esB m) n = some (some (j,.iface (vT v) (vX v))) ∧ lookB q m = some v
  | [],n=>.inl ⟨rfl,rfl⟩
  | (p,v) :: m,n=>by
    simp only [esB,List.map_cons,findA]
    rw [if_pos (show (bkE p).length = (bkE q).length from rfl),bkE_eq]
    by_cases h : q = p
    · subst h
      simp only [decide_true,lookB,if_true]
      exact .inr ⟨_,_,rfl,rfl⟩
    · simp only [decide_eq_false h,lookB,if_neg h]
      exact find_b q m (n + 1)
theorem esB_app (m : List (BNm × VT)) (p : BNm) (v : VT) : esB m ++ [(.agg [.str p.1,.str p.2],.iface (vT v) (vX v))] = esB (m ++ [(p,v)]):=by simp [esB,bkE]
def SubM (m : List (BNm × VT)) (v : VT) : Prop:=∀ A i,i < A.length → A.getD i .dead = .mapb (esB m) → ACalls Tryz.prog ((pickF 181 188 151) v) [vX v,.map i] A (fun r A'=>r = .iface (vT (subV m v)) (vX (subV m v)) ∧ A' = A)
theorem num_sub (m : List (BNm × VT)) : SubM m .num:=fun A i hi hA=>by
  show ACalls Tryz.prog 181 _ _ _
  rw [vX]
  refine acalls_enter (cf:=cf 7 [0,4]) foll Tryz.func181 Tryz.ntmps181 (by simp [cf]) ?_
  simp only [Tryz.f181,EnterK_some,zW,zX,zD,builtinA,isLeaf,const1,ustrA,simprocAttr,ti199,cf,Tryz.results181]
  try rfl
set_option maxRecDepth 100000 in
theorem name_sub (m : List (BNm × VT)) (a b : List UInt8) : SubM m (.nm a b):=fun A i hi hA=>by
  show ACalls Tryz.prog 151 _ _ _
  rw [vX]
  have g1 : ∀ B : List Box,(A ++ B).getD i .dead = .mapb (esB m):=fun B=>by rw [Abs.getD_append_left hi]; exact hA
  rcases find_b (a,b) m 0 with ⟨h1,h2⟩ | ⟨j,v,h1,h2⟩
  · simp only [bkE] at h1
    rw [subV,h2]
    refine acalls_enter (cf:=cf 17 [0,1,2,4,5,6,13]) foll Tryz.func151 Tryz.ntmps151 (by simp [cf]) ?_
    simp only [Tryz.f151,EnterK_some,zW,zX,zD,builtinA,isLeaf,const1,ustrA,simprocAttr,ti116,ti144,mi116,cf,Tryz.results151]
    simp only [zW,zX,zD,builtinA,isLeaf,const1,ustrA,simprocAttr,ti116,ti144,mi116,cf,Tryz.results151,g1,h1]
    rfl
  · simp only [bkE] at h1
    rw [subV,h2]
    refine acalls_enter (cf:=cf 17 [0,1,2,4,5,6,13]) foll Tryz.func151 Tryz.ntmps151 (by simp [cf]) ?_
    simp only [Tryz.f151,EnterK_some,zW,zX,zD,builtinA,isLeaf,const1,ustrA,simprocAttr,ti116,ti144,mi116,cf,Tryz.results151]
    simp only [zW,zX,zD,builtinA,isLeaf,const1,ustrA,simprocAttr,ti116,ti144,mi116,cf,Tryz.results151,g1,h1]
set_option maxRecDepth 100000 in
theorem fun_sub (m : List (BNm × VT)) (a b : VT) (ha : SubM m a) (hb : SubM m b) : SubM m (.fn a b):=fun A i hi hA=>by
  show ACalls Tryz.prog 188 _ _ _
  rw [vX]
  have g1 : ∀ B : List Box,(A ++ B).getD i .dead = .mapb (esB m):=fun B=>by rw [Abs.getD_append_left hi]; exact hA
  refine acalls_enter (cf:=cf 15 [0,1,2,4]) foll Tryz.func188 Tryz.ntmps188 (by simp [cf]) ?_
  simp only [Tryz.f188,EnterK_some,zW,zX,zD,builtinA,isLeaf,const1,ustrA,simprocAttr,ti99,ti202,cf,Tryz.results188]
  refine .inl ⟨by kernel_rfl,by kernel_rfl,?_⟩
  refine wpD_invoke _ _ _ _ _ _ _ _ _ _ _ _ _ _ _ _ ?_
  simp only [zW,zX,zD,builtinA,isLeaf,const1,ustrA,simprocAttr,ti99,ti202,cf,Tryz.results188]
  refine meth_invD (met3 (by kernel_rfl) (by kernel_rfl) (by kernel_rfl) (by kernel_rfl) (by kernel_rfl) (by kernel_rfl)) (ha _ i (by simp; omega) (g1 _)) rfl (fun _=>rfl) ?_
  simp only [zW,zX,zD,builtinA,isLeaf,const1,ustrA,simprocAttr,ti99,ti202,cf,Tryz.results188]
  refine wpD_invoke _ _ _ _ _ _ _ _ _ _ _ _ _ _ _ _ ?_
  simp only [zW,zX,zD,builtinA,isLeaf,const1,ustrA,simprocAttr,ti99,ti202,cf,Tryz.results188]
  refine meth_invD (met3 (by kernel_rfl) (by kernel_rfl) (by kernel_rfl) (by kernel_rfl) (by kernel_rfl) (by kernel_rfl)) (hb _ i (by simp; omega) (g1 _)) rfl (fun _=>rfl) ?_
  simp only [zW,zX,zD,builtinA,isLeaf,const1,ustrA,simprocAttr,ti99,ti202,cf,Tryz.results188]
  try rfl
theorem subM (m : List (BNm × VT)) : ∀ v,SubM m v
  | .num=>num_sub m
  | .nm a b=>name_sub m a b
  | .fn a b=>fun_sub m a b (subM m a) (subM m b)
end Go.Proofs.YtejbjgmgdbcddaaGreatDoor
namespace Go.Proofs.YtejbjgmgdbcddaaGreatDoor
open Go.Abs
end Go.Proofs.YtejbjgmgdbcddaaGreatDoor
namespace Go.Proofs.YtejbjgmgdbcddaaGreatDoor
open Go.Abs
theorem lookB_in {p : BNm} {w : VT} : ∀ {m : List (BNm × VT)},lookB p m = some w → (p,w) ∈ m
  | [],h=>by simp [lookB] at h
  | (q,v) :: m,h=>by
    rw [lookB] at h
    by_cases e : p = q
    · rw [if_pos e] at h; cases h; subst e; simp
    · rw [if_neg e] at h; exact List.mem_cons_of_mem _ (lookB_in h)
theorem sub_ok (m : List (BNm × VT)) (hm : ∀ x ∈ m,VOk x.2) : ∀ v,okV v = true → okV (subV m v) = true ∧ dep (subV m v) ≤ dep v + 8 ∧ cnt (subV m v) ≤ cnt v * 63
  | .num,h=>⟨rfl,by simp [subV,dep],by simp [subV,cnt]⟩
  | .nm a b,h=>by
    rw [subV]
    rcases hl : lookB (a,b) m with _ | w
    · exact ⟨h,by simp,by simp [cnt]⟩
    · have hw:=hm _ (lookB_in hl)
      refine ⟨hw.ok,?_,?_⟩
      · have h9 : dep w ≤ 8:=hw.dep
        show dep w ≤ _
        omega
      · have h9 : cnt w ≤ 63:=hw.cnt
        show cnt w ≤ _
        simp only [cnt]; omega
  | .fn a b,h=>by
    simp only [okV,Bool.and_eq_true] at h
    obtain ⟨a1,a2,a3⟩:=sub_ok m hm a h.1
    obtain ⟨b1,b2,b3⟩:=sub_ok m hm b h.2
    simp only [subV,okV,dep,cnt,a1,b1,Bool.and_self,true_and]
    exact ⟨by omega,by omega⟩
theorem depM2 : ∀ v,dep v ≤ 900 → DepM v
  | .num,_=>num_depth
  | .nm m n,_=>name_depth m n
  | .fn a b,h=>by
    rw [dep] at h
    exact fun_depth a b (depM2 a (by omega)) (depM2 b (by omega)) (by omega)
set_option maxRecDepth 100000 in
theorem impl_withinLimits2 (v : VT) (hd : dep v ≤ 900) (hc : cnt v < 100000) (A : List Box) : ACalls Tryz.prog 81 [.iface (vT v) (vX v)] A (fun r A'=>r = .bool (decide (dep v ≤ 8) && decide (cnt v ≤ 63)) ∧ A' = A):=by
  refine acalls_enter (cf:=cf 11 [0,2]) foll Tryz.func81 Tryz.ntmps81 (by simp [cf]) ?_
  simp only [Tryz.f81,EnterK_some,zW,zX,zD,builtinA,isLeaf,const1,ustrA,simprocAttr,ti3,cf,Tryz.results81]
  refine wpO_invoke _ _ _ _ _ _ _ _ _ _ _ _ _ _ _ _ ?_
  simp only [zW,zX,zD,builtinA,isLeaf,const1,ustrA,simprocAttr,ti3,cf,Tryz.results81]
  refine meth_invK (met3 (by kernel_rfl) (by kernel_rfl) (by kernel_rfl) (by kernel_rfl) (by kernel_rfl) (by kernel_rfl)) (depM2 v hd _) rfl (fun _=>rfl) ?_
  rintro v A' ⟨rfl,rfl⟩
  simp only [zW,zX,zD,builtinA,isLeaf,const1,ustrA,simprocAttr,ti3,cf,Tryz.results81]
  by_cases h8 : dep v ≤ 8
  · have e8 : decide ((dep v : Int) ≤ 8) = true:=decide_eq_true (by omega)
    rw [decide_eq_true h8]
    simp only [zW,zX,zD,builtinA,isLeaf,const1,ustrA,simprocAttr,ti3,cf,Tryz.results81,e8]
    refine wpO_invoke _ _ _ _ _ _ _ _ _ _ _ _ _ _ _ _ ?_
    simp only [zW,zX,zD,builtinA,isLeaf,const1,ustrA,simprocAttr,ti3,cf,Tryz.results81]
    refine meth_invK (met3 (by kernel_rfl) (by kernel_rfl) (by kernel_rfl) (by kernel_rfl) (by kernel_rfl) (by kernel_rfl)) (cntM v (by omega) _) rfl (fun _=>rfl) ?_
    rintro v A' ⟨rfl,rfl⟩
    simp only [zW,zX,zD,builtinA,isLeaf,const1,ustrA,simprocAttr,ti3,cf,Tryz.results81]
    simp
    omega
  · have e8 : decide ((dep v : Int) ≤ 8) = false:=decide_eq_false (by omega)
    rw [decide_eq_false h8]
    simp only [zW,zX,zD,builtinA,isLeaf,const1,ustrA,simprocAttr,ti3,cf,Tryz.results81,e8]
def SubOut (A : List Box) (o : Option VT) (r : AV) (A' : List Box) : Prop :=
  match o with
  | none=>r = .tuple [.agg [.int .i64 0,.str [],.str [],.nils],.bool false] ∧ A.length ≤ A'.length ∧ ∀ i,i < A.length → A'.getD i .dead = A.getD i .dead
  | some v=>∃ cs S,r = .tuple [.agg cs,.bool true] ∧ OwnT A' (toTy v) cs S ∧ S.Nodup ∧ (∀ i ∈ S,A.length ≤ i) ∧ A.length ≤ A'.length ∧ ∀ i,i < A.length → A'.getD i .dead = A.getD i .dead
end Go.Proofs.YtejbjgmgdbcddaaGreatDoor
/- The program's normal signatures. -/
set_option linter.unusedVariables false
set_option linter.unusedSimpArgs false
namespace Go.Proofs.YtejbjgmgdbcddaaGreatDoor
open Go.Abs
def subI (m : List (BNm × VT)) : VI → VI
  | .ab n=>.ab n
  | .al n v=>.al n (subV m v)
  | .va n v=>.va n (subV m v)
def clN (c : Nat) : AV:=.func (.func 80) [] [.ptr c 0]
set_option maxRecDepth 100000 in
theorem norm_cl (m : List (BNm × VT)) (v : VT) (c i : Nat) (A : List Box) (hc : c < A.length) (hi : i < A.length) (hAc : A.getD c .dead = .cells [.map i]) (hA : A.getD i .dead = .mapb (esB m)) :
    ACalls Tryz.prog 80 [.iface (vT v) (vX v),.ptr c 0] A (fun r A'=>r = .iface (vT (subV m v)) (vX (subV m v)) ∧ A' = A):=by
  refine acalls_enter (cf:=cf 7 [0,1,3]) foll Tryz.func80 Tryz.ntmps80 (by simp [cf]) ?_
  simp only [Tryz.f80,EnterK_some,zW,zX,zD,builtinA,isLeaf,const1,ustrA,simprocAttr,ti116,cf,Tryz.results80]
  simp only [zW,zX,zD,builtinA,isLeaf,const1,ustrA,simprocAttr,ti116,cf,Tryz.results80,hAc]
  refine wpO_invoke _ _ _ _ _ _ _ _ _ _ _ _ _ _ _ _ ?_
  simp only [zW,zX,zD,builtinA,isLeaf,const1,ustrA,simprocAttr,ti116,cf,Tryz.results80]
  refine meth_invK (met3 (by kernel_rfl) (by kernel_rfl) (by kernel_rfl) (by kernel_rfl) (by kernel_rfl) (by kernel_rfl)) (subM m v A i hi hA) rfl (fun _=>rfl) ?_
  rintro r A' ⟨rfl,rfl⟩
  simp only [zW,zX,zD,builtinA,isLeaf,const1,ustrA,simprocAttr,ti116,cf,Tryz.results80]
def RetI (m : List (BNm × VT)) (y : VI) : Prop:=∀ (c i : Nat) (A : List Box),c < A.length → i < A.length → A.getD c .dead = .cells [.map i] → A.getD i .dead = .mapb (esB m) →
  ACalls Tryz.prog ((pickI 137 168 174) y) [viX y,clN c] A (fun r A'=>r = .iface (viT (subI m y)) (viX (subI m y)) ∧ A' = A)
set_option maxRecDepth 100000 in
theorem ab_ret (m : List (BNm × VT)) (n : List UInt8) : RetI m (.ab n):=fun c i A hc hi hAc hA=>by
  show ACalls Tryz.prog 137 _ _ _
  rw [viX,clN]
  refine acalls_enter (cf:=cf 7 [0,2,4]) foll Tryz.func137 Tryz.ntmps137 (by simp [cf]) ?_
  simp only [Tryz.f137,EnterK_some,zW,zX,zD,builtinA,isLeaf,const1,ustrA,simprocAttr,ti53,cf,Tryz.results137]
  rfl
set_option maxRecDepth 100000 in
theorem al_ret (m : List (BNm × VT)) (n : List UInt8) (v : VT) : RetI m (.al n v):=fun c i A hc hi hAc hA=>by
  show ACalls Tryz.prog 168 _ _ _
  have h:=norm_cl m v c i (A ++ [.cells [.str n,.iface (vT v) (vX v)]]) (by simp; omega) (by simp; omega) (by rw [Abs.getD_append_left hc]; exact hAc) (by rw [Abs.getD_append_left hi]; exact hA)
  rw [viX,clN]
  refine acalls_enter (cf:=cf 13 [0,1,2,4]) foll Tryz.func168 Tryz.ntmps168 (by simp [cf]) ?_
  simp only [Tryz.f168,EnterK_some,zW,zX,zD,builtinA,isLeaf,const1,ustrA,simprocAttr,ti9,ti99,ti168,cf,Tryz.results168]
  refine .inl ⟨by kernel_rfl,by kernel_rfl,?_⟩
  refine wpD_callv _ _ _ _ _ _ _ _ _ _ _ _ _ _ _ ?_
  simp only [zW,zX,zD,builtinA,isLeaf,const1,ustrA,simprocAttr,ti9,ti99,ti168,cf,Tryz.results168]
  refine ⟨by kernel_rfl,?_⟩
  refine callD_intro (by simp only [zW,zX,zD,builtinA,isLeaf,const1,ustrA,simprocAttr,Option.map_some,List.nil_append,List.append_nil,List.cons_append] <;> rfl) (h) ?_ rfl
  simp only [zW,zX,zD,builtinA,isLeaf,const1,ustrA,simprocAttr,ti9,ti99,ti168,cf,Tryz.results168]
  rfl
set_option maxRecDepth 100000 in
theorem va_ret (m : List (BNm × VT)) (n : List UInt8) (v : VT) : RetI m (.va n v):=fun c i A hc hi hAc hA=>by
  show ACalls Tryz.prog 174 _ _ _
  have h:=norm_cl m v c i (A ++ [.cells [.str n,.iface (vT v) (vX v)]]) (by simp; omega) (by simp; omega) (by rw [Abs.getD_append_left hc]; exact hAc) (by rw [Abs.getD_append_left hi]; exact hA)
  rw [viX,clN]
  refine acalls_enter (cf:=cf 13 [0,1,2,4]) foll Tryz.func174 Tryz.ntmps174 (by simp [cf]) ?_
  simp only [Tryz.f174,EnterK_some,zW,zX,zD,builtinA,isLeaf,const1,ustrA,simprocAttr,ti9,ti99,ti169,cf,Tryz.results174]
  refine .inl ⟨by kernel_rfl,by kernel_rfl,?_⟩
  refine wpD_callv _ _ _ _ _ _ _ _ _ _ _ _ _ _ _ ?_
  simp only [zW,zX,zD,builtinA,isLeaf,const1,ustrA,simprocAttr,ti9,ti99,ti169,cf,Tryz.results174]
  refine ⟨by kernel_rfl,?_⟩
  refine callD_intro (by simp only [zW,zX,zD,builtinA,isLeaf,const1,ustrA,simprocAttr,Option.map_some,List.nil_append,List.append_nil,List.cons_append] <;> rfl) (h) ?_ rfl
  simp only [zW,zX,zD,builtinA,isLeaf,const1,ustrA,simprocAttr,ti9,ti99,ti169,cf,Tryz.results174]
  rfl
theorem retI (m : List (BNm × VT)) : ∀ y,RetI m y
  | .ab n=>ab_ret m n
  | .al n v=>al_ret m n v
  | .va n v=>va_ret m n v
set_option maxRecDepth 100000 in
theorem ab_mean (n : List UInt8) (A : List Box) : ACalls Tryz.prog 135 [viX (.ab n)] A (fun r A'=>r = .iface (vT (meanI (.ab n))) (vX (meanI (.ab n))) ∧ A' = A):=by
  rw [viX]
  refine acalls_enter (cf:=cf 7 [0,1,2]) foll Tryz.func135 Tryz.ntmps135 (by simp [cf]) ?_
  simp only [Tryz.f135,EnterK_some,zW,zX,zD,builtinA,isLeaf,const1,ustrA,simprocAttr,ti9,ti53,ti144,cf,Tryz.results135]
  rfl
set_option maxRecDepth 100000 in
theorem al_mean (n : List UInt8) (v : VT) (A : List Box) : ACalls Tryz.prog 166 [viX (.al n v)] A (fun r A'=>r = .iface (vT (meanI (.al n v))) (vX (meanI (.al n v))) ∧ A' = A):=by
  rw [viX]
  refine acalls_enter (cf:=cf 5 [0,1,2]) foll Tryz.func166 Tryz.ntmps166 (by simp [cf]) ?_
  simp only [Tryz.f166,EnterK_some,zW,zX,zD,builtinA,isLeaf,const1,ustrA,simprocAttr,ti99,ti168,cf,Tryz.results166]
  rfl
set_option maxRecDepth 100000 in
theorem va_mean (n : List UInt8) (v : VT) (A : List Box) : ACalls Tryz.prog 172 [viX (.va n v)] A (fun r A'=>r = .iface (vT (meanI (.va n v))) (vX (meanI (.va n v))) ∧ A' = A):=by
  rw [viX]
  refine acalls_enter (cf:=cf 5 [0,1,2]) foll Tryz.func172 Tryz.ntmps172 (by simp [cf]) ?_
  simp only [Tryz.f172,EnterK_some,zW,zX,zD,builtinA,isLeaf,const1,ustrA,simprocAttr,ti99,ti169,cf,Tryz.results172]
  rfl
theorem meanIf (y : VI) (A : List Box) : ACalls Tryz.prog ((pickI 135 166 172) y) [viX y] A (fun r A'=>r = .iface (vT (meanI y)) (vX (meanI y)) ∧ A' = A):=by
  cases y with
  | ab n=>exact ab_mean n A
  | al n v=>exact al_mean n v A
  | va n v=>exact va_mean n v A
def nxtM (m : List (BNm × VT)) : VI → List (BNm × VT)
  | .ab n=>m ++ [(([],n),.nm [] n)]
  | .al n v=>m ++ [(([],n),subV m v)]
  | .va _ _=>m
def fitI (y : VI) : Bool:=decide (dep (meanI y) ≤ 8) && decide (cnt (meanI y) ≤ 63)
def normL : List (BNm × VT) → List VI → Option (List VI)
  | _,[]=>some []
  | m,y :: ys=>if fitI (subI m y) = true then (normL (nxtM m y) ys).map (subI m y :: ·) else none
theorem vi_drop {l : List VI} {i : Nat} (h : i < l.length) : l.drop i = l.getD i vi0 :: l.drop (i + 1):=by
  have : l.getD i vi0 = l[i]:=by simp [List.getD,h]
  rw [this,List.getElem_cons_drop h]
def KnM (m : List (BNm × VT)) (zs : List VI) : Prop:=(∀ x ∈ m,VOk x.2) ∧ ∀ x ∈ m,x.1.1 = [] ∧ (false,x.1.2) ∈ zs.map viK
theorem look_mem {q : BNm} : ∀ {m : List (BNm × VT)},lookB q m ≠ none → ∃ x ∈ m,x.1 = q
  | [],h=>absurd rfl h
  | (p,v) :: m,h=>by
    rw [lookB] at h
    by_cases e : q = p
    · exact ⟨(p,v),by simp,e.symm⟩
    · rw [if_neg e] at h
      obtain ⟨x,hx,h2⟩:=look_mem h
      exact ⟨x,List.mem_cons_of_mem _ hx,h2⟩
theorem mean_sub {m : List (BNm × VT)} (hm : ∀ x ∈ m,VOk x.2) {y : VI} (hy : VOk (meanI y)) : okV (meanI (subI m y)) = true ∧ dep (meanI (subI m y)) ≤ 16 ∧ cnt (meanI (subI m y)) ≤ 3969:=by
  have h1:=hy.dep
  have h2:=hy.cnt
  cases y with
  | ab n=>exact ⟨hy.ok,by simp only [subI,meanI] at *; omega,by simp only [subI,meanI] at *; omega⟩
  | al n v =>
    have:=sub_ok m hm v hy.ok
    exact ⟨this.1,by simp only [subI,meanI] at *; omega,by simp only [subI,meanI] at *; omega⟩
  | va n v =>
    have:=sub_ok m hm v hy.ok
    exact ⟨this.1,by simp only [subI,meanI] at *; omega,by simp only [subI,meanI] at *; omega⟩
theorem upd_noneB (m : List (BNm × VT)) (q : BNm) (v : VT) : updA none (bkE q) (.iface (vT v) (vX v)) (esB m) = esB (m ++ [(q,v)]):=by
  simp [updA,esB]
theorem viK_sub (m : List (BNm × VT)) (y : VI) : viK (subI m y) = viK y:=by cases y <;> rfl
set_option maxRecDepth 100000 in
set_option maxHeartbeats 4000000 in
theorem impl_normal (ys : List VI) (hl : ys.length ≤ 1000) (ho : ∀ k,k < ys.length → VOk (meanI (ys.getD k vi0))) (hord : ordB ys = true) (A : List Box) :
    ACalls Tryz.prog 48 [.slice (vRows ys)] A (fun r A'=>∃ B,A' = A ++ B ∧ ((∃ zs j,normL [] ys = some zs ∧ r = .tuple [.own (A.length + j),.bool true] ∧ j < B.length ∧ B.getD j .dead = .row 1 (vRows zs) 0) ∨ (normL [] ys = none ∧ r = .tuple [.nils,.bool false]))):=by
  refine acalls_enterK (cf:=cf 44 [0,2,3,4,5,6,7,8,13,14,15,16,26,31]) foll Tryz.func48 Tryz.ntmps48 (by simp [cf]) ?_
  simp only [Tryz.f48,EnterK_some,zW,zX,zD,builtinA,isLeaf,const1,ustrA,simprocAttr,ti3,ti4,ti9,ti44,ti48,ti51,ti116,ti144,ca81,mi116,cf,Tryz.results48]
  simp only [zW,zX,zD,builtinA,isLeaf,const1,ustrA,simprocAttr,ti3,ti4,ti9,ti44,ti48,ti51,ti116,ti144,ca81,mi116,cf,Tryz.results48,vRows_length]
  refine ⟨⟨by omega,by omega,by omega⟩,?_⟩
  refine aloop_intro [4,5,13,14,15] (fun e A'=>∃ i m zs B,i ≤ ys.length ∧ zs.length = i ∧ KnM m (ys.take i) ∧ normL [] ys = (normL m (ys.drop i)).map (zs ++ ·) ∧ e = [(4,.ptr (A.length + 1) 0),(5,.own (A.length + 2)),(13,.slice (vRows ys)),(14,.int .i64 ys.length),(15,.int .i64 i)] ∧ A' = A ++ (.mapb (esB m) :: .cells [.map A.length] :: .row 1 (vRows zs ++ List.replicate (ys.length - i) [.nili]) 0 :: B)) (fun e _=>ys.length - (intOf (Abs.look 15 e)).toNat) ?_ ?_
  · simp only [zW,zX,zD,builtinA,isLeaf,const1,ustrA,simprocAttr,ti3,ti4,ti9,ti44,ti48,ti51,ti116,ti144,ca81,mi116,cf,Tryz.results48]
    exact ⟨0,[],[],[],by omega,rfl,⟨by simp,by simp⟩,by simp,rfl,by simp [vRows,esB]⟩
  · rintro e A' ⟨i,m,zs,B,hi,hzl,⟨hm1,hm2⟩,hq,rfl,rfl⟩
    by_cases hlt : i < ys.length
    · have d2 : decide ((i : Int) < (ys.length : Int)) = true:=by simp; omega
      have hlt' : 0 ≤ (i : Int) ∧ (i : Int) < (ys.length : Int):=by omega
      have hg:=vRows_getD hlt
      have hi1 : IntKind.i64.wrap ((i : Int) + 1) = ((i + 1 : Nat) : Int):=by rw [wrap64 (by omega) (by omega)]; rfl
      have hoy:=ho i hlt
      rw [vi_drop hlt] at hq
      generalize hyv : ys.getD i vi0 = y at *
      rw [vRow] at hg
      have hret:=retI m y (A.length + 1) A.length
      simp only [zW,zX,zD,builtinA,isLeaf,const1,ustrA,simprocAttr,ti3,ti4,ti9,ti44,ti48,ti51,ti116,ti144,ca81,mi116,cf,Tryz.results48,vRows_length,d2,hg]
      refine ⟨hlt',?_⟩
      refine wpO_invoke _ _ _ _ _ _ _ _ _ _ _ _ _ _ _ _ ?_
      simp only [zW,zX,zD,builtinA,isLeaf,const1,ustrA,simprocAttr,ti3,ti4,ti9,ti44,ti48,ti51,ti116,ti144,ca81,mi116,cf,Tryz.results48]
      refine methI_invK (metI3 (by kernel_rfl) (by kernel_rfl) (by kernel_rfl) (by kernel_rfl) (by kernel_rfl) (by kernel_rfl)) (hret _ (by simp) (by simp) (by simp [List.getD]) (by simp [List.getD])) rfl (fun _=>rfl) ?_
      rintro r A' ⟨rfl,rfl⟩
      simp only [zW,zX,zD,builtinA,isLeaf,const1,ustrA,simprocAttr,ti3,ti4,ti9,ti44,ti48,ti51,ti116,ti144,ca81,mi116,cf,Tryz.results48]
      refine wpO_invoke _ _ _ _ _ _ _ _ _ _ _ _ _ _ _ _ ?_
      simp only [zW,zX,zD,builtinA,isLeaf,const1,ustrA,simprocAttr,ti3,ti4,ti9,ti44,ti48,ti51,ti116,ti144,ca81,mi116,cf,Tryz.results48]
      refine methI_invK (metI3 (by kernel_rfl) (by kernel_rfl) (by kernel_rfl) (by kernel_rfl) (by kernel_rfl) (by kernel_rfl)) (meanIf (subI m y) _) rfl (fun _=>rfl) ?_
      rintro r A' ⟨rfl,rfl⟩
      simp only [zW,zX,zD,builtinA,isLeaf,const1,ustrA,simprocAttr,ti3,ti4,ti9,ti44,ti48,ti51,ti116,ti144,ca81,mi116,cf,Tryz.results48]
      obtain ⟨z1,z2,z3⟩:=mean_sub hm1 hoy
      refine callK_intro (by rfl) (impl_withinLimits2 _ (by omega) (by omega) _) ?_ rfl
      rintro r A' ⟨rfl,rfl⟩
      rw [show (decide (dep (meanI (subI m y)) ≤ 8) && decide (cnt (meanI (subI m y)) ≤ 63)) = fitI (subI m y) from rfl]
      cases hfit : fitI (subI m y) with
      | false =>
        simp only [zW,zX,zD,builtinA,isLeaf,const1,ustrA,simprocAttr,ti3,ti4,ti9,ti44,ti48,ti51,ti116,ti144,ca81,mi116,cf,Tryz.results48]
        exact ⟨_,rfl,.inr (by rw [hq,normL,if_neg (by rw [hfit]; simp)]; rfl)⟩
      | true =>
        rw [normL,if_pos hfit] at hq
        simp only [zW,zX,zD,builtinA,isLeaf,const1,ustrA,simprocAttr,ti3,ti4,ti9,ti44,ti48,ti51,ti116,ti144,ca81,mi116,cf,Tryz.results48]
        refine wpO_invoke _ _ _ _ _ _ _ _ _ _ _ _ _ _ _ _ ?_
        simp only [zW,zX,zD,builtinA,isLeaf,const1,ustrA,simprocAttr,ti3,ti4,ti9,ti44,ti48,ti51,ti116,ti144,ca81,mi116,cf,Tryz.results48]
        refine methI_invK (metI3 (by kernel_rfl) (by kernel_rfl) (by kernel_rfl) (by kernel_rfl) (by kernel_rfl) (by kernel_rfl)) (keyI (subI m y) _) rfl (fun _=>rfl) ?_
        rintro r A' ⟨rfl,rfl⟩
        rw [viK_sub]
        have hst:=vRow_step (ys:=zs) (n:=ys.length) (subI m y) (by omega)
        have hlen : (vRows zs).length + (List.replicate (ys.length - i) [AV.nili]).length = ys.length:=by simp [vRows_length]; omega
        have hstep : stepB (ys.take i) y = true:=by
          have:=List.all_eq_true.1 hord i (List.mem_range.2 hlt)
          rwa [hyv] at this
        have hnot : viK y ∉ (ys.take i).map viK:=by
          simp only [stepB,Bool.and_eq_true,Bool.not_eq_true',decide_eq_false_iff_not] at hstep
          exact hstep.2
        have htk : (ys.take (i + 1)).map viK = (ys.take i).map viK ++ [viK y]:=by
          rw [List.take_add_one]
          have e : ys[i]? = some y:=by rw [← hyv]; simp [List.getD,hlt]
          rw [e]; simp
        have hqn : ∀ m',m' = nxtM m y → normL [] ys = (normL m' (ys.drop (i + 1))).map ((zs ++ [subI m y]) ++ ·):=fun m' h=>by
          rw [hq,h,Option.map_map]
          congr 1
          funext x
          simp
        have hVO : VOk (meanI (subI m y)):=by
          simp only [fitI,Bool.and_eq_true,decide_eq_true_eq] at hfit
          exact ⟨z1,hfit.1,hfit.2⟩
        subst hzl
        cases y with
        | va n v =>
          simp only [viK,kE]
          simp only [zW,zX,zD,builtinA,isLeaf,const1,ustrA,simprocAttr,ti3,ti4,ti9,ti44,ti48,ti51,ti116,ti144,ca81,mi116,cf,Tryz.results48,hlen,vRows_length,hst,hi1,LoopK_eq]
          refine ⟨⟨by omega,by simp; omega⟩,⟨by omega,by simp; omega,fun v' hv'=>?_⟩,⟨zs.length + 1,m,zs ++ [subI m (.va n v)],_,by omega,by simp,⟨hm1,fun x hx=>⟨(hm2 x hx).1,by rw [htk]; exact List.mem_append_left _ (hm2 x hx).2⟩⟩,hqn m rfl,rfl,rfl⟩,?_⟩
          · simp only [List.mem_singleton] at hv'
            subst hv'; rfl
          · simp only [intOf]; omega
        | al n v =>
          have hkn : lookB ([],n) m = none:=by
            rcases Classical.em (lookB ([],n) m = none) with h | h
            · exact h
            · obtain ⟨x,hx,hxe⟩:=look_mem h
              have:=(hm2 x hx).2
              rw [hxe] at this
              exact absurd this hnot
          have hfnd : findA KB (bkE ([],n)) (esB m) 0 = some none:=by
            rcases find_b ([],n) m 0 with ⟨f1,_⟩ | ⟨j,w,_,f2⟩
            · exact f1
            · rw [hkn] at f2; cases f2
          have hup:=upd_noneB m ([],n) (subV m v)
          simp only [bkE] at hfnd hup
          simp only [viK,kE]
          simp only [zW,zX,zD,builtinA,isLeaf,const1,ustrA,simprocAttr,ti3,ti4,ti9,ti44,ti48,ti51,ti116,ti144,ca81,mi116,cf,Tryz.results48,hlen,vRows_length]
          refine .inr (drawE_intro [(false,0,1),(false,0,1),(false,0,1),(false,0,1),(false,0,0),(true,0,0),(true,1,1)] [A ++ (.mapb (esB m) :: .cells [.map A.length] :: .row 1 (vRows zs ++ List.replicate (ys.length - zs.length) [.nili]) 0 :: (B ++ [.cells [.bool false,.str n]])),A ++ (.mapb (esB m) :: .cells [.map A.length] :: .row 1 (vRows zs ++ List.replicate (ys.length - zs.length) [.nili]) 0 :: (B ++ [.cells [.bool false,.str n]])),A ++ (.mapb (esB (m ++ [(([],n),subV m v)])) :: .cells [.map A.length] :: .row 1 (vRows zs ++ List.replicate (ys.length - zs.length) [.nili]) 0 :: (B ++ [.cells [.bool false,.str n]]))] 2 rfl (by kernel_rfl) (by kernel_rfl) (by kernel_rfl) (by kernel_rfl) (by kernel_rfl) (by kernel_rfl) ?_)
          simp only [zW,zX,zD,builtinA,isLeaf,const1,ustrA,simprocAttr,ti3,ti4,ti9,ti44,ti48,ti51,ti116,ti144,ca81,mi116,cf,Tryz.results48]
          refine wpG_invoke _ _ _ _ _ _ _ _ _ _ _ _ _ _ _ _ _ _ ?_
          simp only [zW,zX,zD,builtinA,isLeaf,const1,ustrA,simprocAttr,ti3,ti4,ti9,ti44,ti48,ti51,ti116,ti144,ca81,mi116,cf,Tryz.results48]
          refine methI_invE (metI3 (by kernel_rfl) (by kernel_rfl) (by kernel_rfl) (by kernel_rfl) (by kernel_rfl) (by kernel_rfl)) (meanIf (subI m (.al n v)) _) rfl ?_
          simp only [zW,zX,zD,builtinA,isLeaf,const1,ustrA,simprocAttr,ti3,ti4,ti9,ti44,ti48,ti51,ti116,ti144,ca81,mi116,cf,Tryz.results48,wpG_upd,hfnd,hup]
          refine ⟨by simp [esB,bkE,subI,meanI],⟨by omega,by rw [hlen]; omega⟩,⟨by omega,by rw [hlen]; omega,fun v' hv'=>?_⟩,?_⟩
          · simp only [List.mem_singleton] at hv'
            subst hv'; rfl
          simp only [zW,zX,zD,builtinA,isLeaf,const1,ustrA,simprocAttr,ti3,ti4,ti9,ti44,ti48,ti51,ti116,ti144,ca81,mi116,cf,Tryz.results48,hst,hi1,LoopK_eq]
          refine ⟨⟨zs.length + 1,m ++ [(([],n),subV m v)],zs ++ [subI m (.al n v)],_,by omega,by simp,⟨fun x hx=>?_,fun x hx=>?_⟩,hqn _ rfl,rfl,rfl⟩,?_⟩
          · rcases List.mem_append.1 hx with hx | hx
            · exact hm1 x hx
            · rw [List.mem_singleton.1 hx]; exact hVO
          · rw [htk]
            rcases List.mem_append.1 hx with hx | hx
            · exact ⟨(hm2 x hx).1,List.mem_append_left _ (hm2 x hx).2⟩
            · rw [List.mem_singleton.1 hx]; exact ⟨rfl,List.mem_append_right _ (by simp [viK])⟩
          · simp only [intOf]; omega
        | ab n =>
          have hkn : lookB ([],n) m = none:=by
            rcases Classical.em (lookB ([],n) m = none) with h | h
            · exact h
            · obtain ⟨x,hx,hxe⟩:=look_mem h
              have:=(hm2 x hx).2
              rw [hxe] at this
              exact absurd this hnot
          have hfnd : findA KB (bkE ([],n)) (esB m) 0 = some none:=by
            rcases find_b ([],n) m 0 with ⟨f1,_⟩ | ⟨j,w,_,f2⟩
            · exact f1
            · rw [hkn] at f2; cases f2
          have hup:=upd_noneB m ([],n) (.nm [] n)
          simp only [bkE] at hfnd hup
          simp only [viK,kE]
          simp only [zW,zX,zD,builtinA,isLeaf,const1,ustrA,simprocAttr,ti3,ti4,ti9,ti44,ti48,ti51,ti116,ti144,ca81,mi116,cf,Tryz.results48,hlen,vRows_length]
          refine .inr (drawE_intro [(false,0,1),(false,0,1),(false,0,1),(false,0,1),(false,0,0),(true,0,0),(true,1,1)] [A ++ (.mapb (esB m) :: .cells [.map A.length] :: .row 1 (vRows zs ++ List.replicate (ys.length - zs.length) [.nili]) 0 :: (B ++ [.cells [.bool false,.str n]])),A ++ (.mapb (esB m) :: .cells [.map A.length] :: .row 1 (vRows zs ++ List.replicate (ys.length - zs.length) [.nili]) 0 :: (B ++ [.cells [.bool false,.str n]])),A ++ (.mapb (esB (m ++ [(([],n),.nm [] n)])) :: .cells [.map A.length] :: .row 1 (vRows zs ++ List.replicate (ys.length - zs.length) [.nili]) 0 :: (B ++ [.cells [.bool false,.str n]]))] 2 rfl (by kernel_rfl) (by kernel_rfl) (by kernel_rfl) (by kernel_rfl) (by kernel_rfl) (by kernel_rfl) ?_)
          simp only [zW,zX,zD,builtinA,isLeaf,const1,ustrA,simprocAttr,ti3,ti4,ti9,ti44,ti48,ti51,ti116,ti144,ca81,mi116,cf,Tryz.results48]
          refine wpG_invoke _ _ _ _ _ _ _ _ _ _ _ _ _ _ _ _ _ _ ?_
          simp only [zW,zX,zD,builtinA,isLeaf,const1,ustrA,simprocAttr,ti3,ti4,ti9,ti44,ti48,ti51,ti116,ti144,ca81,mi116,cf,Tryz.results48]
          refine methI_invE (metI3 (by kernel_rfl) (by kernel_rfl) (by kernel_rfl) (by kernel_rfl) (by kernel_rfl) (by kernel_rfl)) (meanIf (subI m (.ab n)) _) rfl ?_
          simp only [zW,zX,zD,builtinA,isLeaf,const1,ustrA,simprocAttr,ti3,ti4,ti9,ti44,ti48,ti51,ti116,ti144,ca81,mi116,cf,Tryz.results48,wpG_upd,hfnd,hup]
          refine ⟨by simp [esB,bkE,subI,meanI],⟨by omega,by rw [hlen]; omega⟩,⟨by omega,by rw [hlen]; omega,fun v' hv'=>?_⟩,?_⟩
          · simp only [List.mem_singleton] at hv'
            subst hv'; rfl
          simp only [zW,zX,zD,builtinA,isLeaf,const1,ustrA,simprocAttr,ti3,ti4,ti9,ti44,ti48,ti51,ti116,ti144,ca81,mi116,cf,Tryz.results48,hst,hi1,LoopK_eq]
          refine ⟨⟨zs.length + 1,m ++ [(([],n),.nm [] n)],zs ++ [subI m (.ab n)],_,by omega,by simp,⟨fun x hx=>?_,fun x hx=>?_⟩,hqn _ rfl,rfl,rfl⟩,?_⟩
          · rcases List.mem_append.1 hx with hx | hx
            · exact hm1 x hx
            · rw [List.mem_singleton.1 hx]; exact hVO
          · rw [htk]
            rcases List.mem_append.1 hx with hx | hx
            · exact ⟨(hm2 x hx).1,List.mem_append_left _ (hm2 x hx).2⟩
            · rw [List.mem_singleton.1 hx]; exact ⟨rfl,List.mem_append_right _ (by simp [viK])⟩
          · simp only [intOf]; omega
    · have d2 : decide ((i : Int) < (ys.length : Int)) = false:=by simp; omega
      have e : zs.length = ys.length:=by omega
      subst hzl
      have hz : List.replicate (ys.length - zs.length) [AV.nili] = []:=by rw [e]; simp
      rw [hz,List.append_nil]
      simp only [zW,zX,zD,builtinA,isLeaf,const1,ustrA,simprocAttr,ti3,ti4,ti9,ti44,ti48,ti51,ti116,ti144,ca81,mi116,cf,Tryz.results48,vRows_length,d2]
      rw [List.drop_of_length_le (by omega),normL] at hq
      exact ⟨_,rfl,.inl ⟨zs,2,by rw [hq]; simp,rfl,by simp,rfl⟩⟩
end Go.Proofs.YtejbjgmgdbcddaaGreatDoor
