/- ExNode, ExSpec, SameSp. -/
import Derived.Test.YtnjdbgiincliaaaGreatK07
import Derived.Test.YtnjdbgiincliaaaGreatAbsW3
/- Valid expressions, node by node; the model's MaxFree. -/
set_option linter.unusedVariables false
set_option linter.unusedSimpArgs false
namespace Go.Proofs.YtnjdbgiincliaaaGreat
open Go.Abs
def kindE : VE → Int
  | .var _=>1
  | .num _=>2
  | .nm _ _=>3
  | .fn _ _=>4
  | .app _ _=>5
  | .add _ _=>6
  | .ite _ _ _=>7
def nE : VE → Int
  | .var i=>i
  | .num i=>i
  | _=>0
def modE : VE → List UInt8
  | .nm m _=>m
  | _=>[]
def nameE : VE → List UInt8
  | .nm _ n=>n
  | _=>[]
def argE : VE → Ty
  | .fn t _=>toTy t
  | _=>ty0
def kidsE : VE → List VE
  | .fn _ b=>[b]
  | .app a b=>[a,b]
  | .add a b=>[a,b]
  | .ite c a b=>[c,a,b]
  | _=>[]
theorem toX_node (v : VE) : toX v = .mk (kindE v) (nE v) (modE v) (nameE v) (argE v) ((kidsE v).map toX):=by
  cases v <;> simp [toX,kindE,nE,modE,nameE,argE,kidsE]
def rowsE (v : VE) : List (List AV):=encXs ((kidsE v).map toX)
theorem encX_node (v : VE) : encX (toX v) = [.int .i64 (kindE v),.int .i64 (nE v),.str (modE v),.str (nameE v),.int .i64 (argE v).kind,.str (argE v).mod,.str (argE v).name,.slice (encs (argE v).kids),.slice (rowsE v)]:=by
  rw [toX_node,encX,rowsE]
theorem rowsE_length (v : VE) : (rowsE v).length = (kidsE v).length:=by rw [rowsE,encXs_length]; simp
def ve0 : VE:=.num 0
theorem rowsE_getD {v : VE} {i : Nat} (h : i < (kidsE v).length) : (rowsE v).getD i [] = encX (toX ((kidsE v).getD i ve0)):=by
  rw [rowsE,encXs_getD (by simpa using h)]
  simp [List.getD,h]
theorem kid_mem {v : VE} {i : Nat} (h : i < (kidsE v).length) : (kidsE v).getD i ve0 ∈ kidsE v:=by simp [List.getD,h]
theorem kidsE_le (v : VE) : (kidsE v).length ≤ 3:=by cases v <;> simp [kidsE]
theorem VE.indK {M : VE → Prop} (h : ∀ v,(∀ k ∈ kidsE v,M k) → M v) : ∀ v,M v
  | .var i=>h _ (by simp [kidsE])
  | .num i=>h _ (by simp [kidsE])
  | .nm m n=>h _ (by simp [kidsE])
  | .fn t b=>h _ (by simp [kidsE]; exact VE.indK h b)
  | .app a b=>h _ (by simp [kidsE]; exact ⟨VE.indK h a,VE.indK h b⟩)
  | .add a b=>h _ (by simp [kidsE]; exact ⟨VE.indK h a,VE.indK h b⟩)
  | .ite c a b=>h _ (by simp [kidsE]; exact ⟨VE.indK h c,VE.indK h a,VE.indK h b⟩)
theorem depE_kid {v k : VE} (h : k ∈ kidsE v) : depE k + 1 ≤ depE v:=by
  cases v <;> simp [kidsE] at h
  · subst h; simp [depE]; omega
  · rcases h with rfl | rfl <;> simp [depE] <;> omega
  · rcases h with rfl | rfl <;> simp [depE] <;> omega
  · rcases h with rfl | rfl | rfl <;> simp [depE] <;> omega
theorem okE_kid {v k : VE} (ho : okE v) (h : k ∈ kidsE v) : okE k:=by
  cases v <;> simp [kidsE] at h
  · subst h; exact ho.2
  · rcases h with rfl | rfl
    · exact ho.1
    · exact ho.2
  · rcases h with rfl | rfl
    · exact ho.1
    · exact ho.2
  · rcases h with rfl | rfl | rfl
    · exact ho.1
    · exact ho.2.1
    · exact ho.2.2
theorem nE_ok {v : VE} (ho : okE v) : 0 ≤ nE v ∧ nE v ≤ 99:=by
  cases v <;> simp only [nE,okE] at ho ⊢ <;> omega
def inE (v : VE) (d : Int) : Int:=if kindE v = 4 then d + 1 else d
def mostE : VE → Int → Int
  | .var i,d=>if d ≤ i then i - d + 1 else 0
  | .num _,_=>0
  | .nm _ _,_=>0
  | .fn _ b,d=>max 0 (mostE b (d + 1))
  | .app a b,d=>max (max 0 (mostE a d)) (mostE b d)
  | .add a b,d=>max (max 0 (mostE a d)) (mostE b d)
  | .ite c a b,d=>max (max (max 0 (mostE c d)) (mostE a d)) (mostE b d)
def most0 (v : VE) (d : Int) : Int:=if kindE v = 1 ∧ d ≤ nE v then nE v - d + 1 else 0
def mostI (v : VE) (d : Int) (i : Nat) : Int:=((kidsE v).take i).foldl (fun m k=>max m (mostE k (inE v d))) (most0 v d)
theorem mostI_all (v : VE) (d : Int) : mostI v d (kidsE v).length = mostE v d:=by
  cases v <;> simp [mostI,kidsE,mostE,most0,kindE,inE,nE]
theorem mostI_zero (v : VE) (d : Int) : mostI v d 0 = most0 v d:=by simp [mostI]
theorem mostI_succ {v : VE} {d : Int} {i : Nat} (h : i < (kidsE v).length) : mostI v d (i + 1) = max (mostI v d i) (mostE ((kidsE v).getD i ve0) (inE v d)):=by
  have e : (kidsE v).take (i + 1) = (kidsE v).take i ++ [(kidsE v).getD i ve0]:=by rw [List.take_add_one]; simp [List.getD,h]
  unfold mostI
  rw [e,List.foldl_append]
  rfl
theorem mostE_le : ∀ (v : VE) (d : Int),okE v → 0 ≤ d → 0 ≤ mostE v d ∧ mostE v d ≤ 13
  | .var i,d,h,hd=>by simp only [okE] at h; simp only [mostE]; split <;> omega
  | .num _,_,_,_=>by simp [mostE]
  | .nm _ _,_,_,_=>by simp [mostE]
  | .fn _ b,d,h,hd=>by have:=mostE_le b (d + 1) h.2 (by omega); simp only [mostE]; omega
  | .app a b,d,h,hd=>by have:=mostE_le a d h.1 hd; have:=mostE_le b d h.2 hd; simp only [mostE]; omega
  | .add a b,d,h,hd=>by have:=mostE_le a d h.1 hd; have:=mostE_le b d h.2 hd; simp only [mostE]; omega
  | .ite c a b,d,h,hd=>by have:=mostE_le c d h.1 hd; have:=mostE_le a d h.2.1 hd; have:=mostE_le b d h.2.2 hd; simp only [mostE]; omega
set_option maxRecDepth 100000 in
theorem spec_l4Most (v : VE) : ∀ (d : Int) (A : List Box),okE v → 0 ≤ d → d + depE v ≤ 1000 → ACalls Tryz.prog 155 [.agg (encX (toX v)),.int .i64 d] A (fun r A'=>r = .int .i64 (mostE v d) ∧ A' = A):=by
  induction v using VE.indK with
  | h v ih =>
    intro d A ho h0 h1
    have hn:=nE_ok ho
    have hdp:=depE_pos v
    have hw1 : IntKind.i64.wrap (nE v - d) = nE v - d:=wrap64 (by omega) (by omega)
    have hw2 : IntKind.i64.wrap (nE v - d + 1) = nE v - d + 1:=wrap64 (by omega) (by omega)
    have hw3 : IntKind.i64.wrap (d + 1) = d + 1:=wrap64 (by omega) (by omega)
    have hl:=rowsE_length v
    have hk3:=kidsE_le v
    have hfin : ∀ (m0 d0 : Int),m0 = most0 v d → d0 = inE v d → 0 ≤ d0 ∧ d0 ≤ d + 1:=fun m0 d0 h1 h2=>by subst h2; unfold inE; split <;> omega
    have hm0 : 0 ≤ most0 v d ∧ most0 v d ≤ 100:=by unfold most0; split <;> omega
    have hmI : ∀ j,j ≤ (kidsE v).length → 0 ≤ mostI v d j:=fun j hj=>by
      induction j with
      | zero=>rw [mostI_zero]; exact hm0.1
      | succ j ihj=>rw [mostI_succ (by omega)]; have:=ihj (by omega); omega
    rw [encX_node]
    have hin : 0 ≤ inE v d ∧ inE v d ≤ d + 1:=hfin _ _ rfl rfl
    have n4 : ¬ (1 : Int) = 4:=by decide
    have n1 : ¬ (4 : Int) = 1:=by decide
    have hcase : (kindE v = 1 ∧ d ≤ nE v) ∨ (kindE v = 1 ∧ ¬ d ≤ nE v) ∨ (kindE v = 4) ∨ (¬ kindE v = 1 ∧ ¬ kindE v = 4):=by
      by_cases h1 : kindE v = 1
      · by_cases h2 : d ≤ nE v
        · exact .inl ⟨h1,h2⟩
        · exact .inr (.inl ⟨h1,h2⟩)
      · by_cases h2 : kindE v = 4
        · exact .inr (.inr (.inl h2))
        · exact .inr (.inr (.inr ⟨h1,h2⟩))
    generalize hcs : [AV.int .i64 (kindE v),.int .i64 (nE v),.str (modE v),.str (nameE v),.int .i64 (argE v).kind,.str (argE v).mod,.str (argE v).name,.slice (encs (argE v).kids),.slice (rowsE v)] = cs
    rcases hcase with ⟨k1,h2⟩ | ⟨k1,h2⟩ | k4 | ⟨k1,k4⟩
    · have e1 : mostI v d 0 = nE v - d + 1:=by rw [mostI_zero,most0,if_pos ⟨k1,h2⟩]
      have e2 : inE v d = d:=by rw [inE,if_neg (by rw [k1]; decide)]
      have k4 : ¬ kindE v = 4:=by rw [k1]; decide
      have g1 : decide (nE v ≥ d) = true:=decide_eq_true h2
      subst hcs
      refine acalls_enter (cf:=cf 46 [0,1,2,4,5,6,7,16,24,31,43]) foll Tryz.func155 Tryz.ntmps155 (by simp [cf]) ?_
      simp only [Tryz.f155,EnterK_some,zW,zX,zD,builtinA,isLeaf,const1,ustrA,simprocAttr,ti3,ti37,ti39,ca155,cf,Tryz.results155]
      simp only [zW,zX,zD,builtinA,isLeaf,const1,ustrA,simprocAttr,ti3,ti37,ti39,ca155,cf,Tryz.results155,decide_eq_true k1,decide_eq_false k4,decide_eq_true h2,g1,hw1,hw2]
      refine aloop_intro [1,2,5,6] (fun e A'=>∃ j,j ≤ (kidsE v).length ∧ e = [(1,.int .i64 (inE v d)),(2,.ptr A.length 0),(5,.int .i64 (mostI v d j)),(6,.int .i64 j)] ∧ A' = A ++ [.cells [.int .i64 (kindE v),.int .i64 (nE v),.str (modE v),.str (nameE v),.int .i64 (argE v).kind,.str (argE v).mod,.str (argE v).name,.slice (encs (argE v).kids),.slice (rowsE v)]]) (fun e _=>(kidsE v).length - (intOf (Abs.look 6 e)).toNat) ?_ ?_
      · refine ⟨0,by omega,?_,rfl⟩
        rw [e1,e2]
        rfl
      · rintro e A' ⟨j,hj,rfl,rfl⟩
        by_cases hlt : j < (kidsE v).length
        · have dl : decide ((j : Int) < ((kidsE v).length : Nat)) = true:=decide_eq_true (by omega)
          have hg:=rowsE_getD hlt
          have hm:=kid_mem hlt
          have hdk:=depE_kid hm
          have hi1 : IntKind.i64.wrap ((j : Int) + 1) = ((j + 1 : Nat) : Int):=by rw [wrap64 (by omega) (by omega)]; rfl
          simp only [zW,zX,zD,builtinA,isLeaf,const1,ustrA,simprocAttr,ti3,ti37,ti39,ca155,cf,Tryz.results155,hl,dl,hg,encX_length,encX_take]
          refine ⟨⟨by omega,by omega⟩,?_⟩
          refine callK_intro (by simp only [zW,zX,zD,builtinA,isLeaf,const1,ustrA,simprocAttr,frzL_encX,Option.map_some]; rfl) (ih _ hm _ _ (okE_kid ho hm) hin.1 (by omega)) ?_ rfl; rintro v A' ⟨rfl,rfl⟩
          have hs:=mostI_succ (d:=d) hlt
          by_cases hq : mostI v d j < mostE ((kidsE v).getD j ve0) (inE v d)
          · have g2 : decide (mostE ((kidsE v).getD j ve0) (inE v d) > mostI v d j) = true:=decide_eq_true hq
            have hs2 : mostI v d (j + 1) = mostE ((kidsE v).getD j ve0) (inE v d):=by rw [hs]; omega
            simp only [zW,zX,zD,builtinA,isLeaf,const1,ustrA,simprocAttr,ti3,ti37,ti39,ca155,cf,Tryz.results155,decide_eq_true hq,g2,hi1,LoopK_eq]
            refine ⟨⟨j + 1,by omega,by rw [hs2]⟩,?_⟩
            simp only [intOf]
            omega
          · have g2 : decide (mostE ((kidsE v).getD j ve0) (inE v d) > mostI v d j) = false:=decide_eq_false hq
            have hs2 : mostI v d (j + 1) = mostI v d j:=by rw [hs]; omega
            simp only [zW,zX,zD,builtinA,isLeaf,const1,ustrA,simprocAttr,ti3,ti37,ti39,ca155,cf,Tryz.results155,decide_eq_false hq,g2,hi1,LoopK_eq]
            refine ⟨⟨j + 1,by omega,by rw [hs2]⟩,?_⟩
            simp only [intOf]
            omega
        · have dl : decide ((j : Int) < ((kidsE v).length : Nat)) = false:=decide_eq_false (by omega)
          have : j = (kidsE v).length:=by omega
          subst this
          simp only [zW,zX,zD,builtinA,isLeaf,const1,ustrA,simprocAttr,ti3,ti37,ti39,ca155,cf,Tryz.results155,hl,dl]
          rw [mostI_all]
    · have e1 : mostI v d 0 = 0:=by rw [mostI_zero,most0,if_neg (fun h=>h2 h.2)]
      have e2 : inE v d = d:=by rw [inE,if_neg (by rw [k1]; decide)]
      have k4 : ¬ kindE v = 4:=by rw [k1]; decide
      have g1 : decide (nE v ≥ d) = false:=decide_eq_false h2
      subst hcs
      refine acalls_enter (cf:=cf 46 [0,1,2,4,5,6,7,16,24,31,43]) foll Tryz.func155 Tryz.ntmps155 (by simp [cf]) ?_
      simp only [Tryz.f155,EnterK_some,zW,zX,zD,builtinA,isLeaf,const1,ustrA,simprocAttr,ti3,ti37,ti39,ca155,cf,Tryz.results155]
      simp only [zW,zX,zD,builtinA,isLeaf,const1,ustrA,simprocAttr,ti3,ti37,ti39,ca155,cf,Tryz.results155,decide_eq_true k1,decide_eq_false k4,decide_eq_false h2,g1,hw1,hw2]
      refine aloop_intro [1,2,5,6] (fun e A'=>∃ j,j ≤ (kidsE v).length ∧ e = [(1,.int .i64 (inE v d)),(2,.ptr A.length 0),(5,.int .i64 (mostI v d j)),(6,.int .i64 j)] ∧ A' = A ++ [.cells [.int .i64 (kindE v),.int .i64 (nE v),.str (modE v),.str (nameE v),.int .i64 (argE v).kind,.str (argE v).mod,.str (argE v).name,.slice (encs (argE v).kids),.slice (rowsE v)]]) (fun e _=>(kidsE v).length - (intOf (Abs.look 6 e)).toNat) ?_ ?_
      · refine ⟨0,by omega,?_,rfl⟩
        rw [e1,e2]
        rfl
      · rintro e A' ⟨j,hj,rfl,rfl⟩
        by_cases hlt : j < (kidsE v).length
        · have dl : decide ((j : Int) < ((kidsE v).length : Nat)) = true:=decide_eq_true (by omega)
          have hg:=rowsE_getD hlt
          have hm:=kid_mem hlt
          have hdk:=depE_kid hm
          have hi1 : IntKind.i64.wrap ((j : Int) + 1) = ((j + 1 : Nat) : Int):=by rw [wrap64 (by omega) (by omega)]; rfl
          simp only [zW,zX,zD,builtinA,isLeaf,const1,ustrA,simprocAttr,ti3,ti37,ti39,ca155,cf,Tryz.results155,hl,dl,hg,encX_length,encX_take]
          refine ⟨⟨by omega,by omega⟩,?_⟩
          refine callK_intro (by simp only [zW,zX,zD,builtinA,isLeaf,const1,ustrA,simprocAttr,frzL_encX,Option.map_some]; rfl) (ih _ hm _ _ (okE_kid ho hm) hin.1 (by omega)) ?_ rfl; rintro v A' ⟨rfl,rfl⟩
          have hs:=mostI_succ (d:=d) hlt
          by_cases hq : mostI v d j < mostE ((kidsE v).getD j ve0) (inE v d)
          · have g2 : decide (mostE ((kidsE v).getD j ve0) (inE v d) > mostI v d j) = true:=decide_eq_true hq
            have hs2 : mostI v d (j + 1) = mostE ((kidsE v).getD j ve0) (inE v d):=by rw [hs]; omega
            simp only [zW,zX,zD,builtinA,isLeaf,const1,ustrA,simprocAttr,ti3,ti37,ti39,ca155,cf,Tryz.results155,decide_eq_true hq,g2,hi1,LoopK_eq]
            refine ⟨⟨j + 1,by omega,by rw [hs2]⟩,?_⟩
            simp only [intOf]
            omega
          · have g2 : decide (mostE ((kidsE v).getD j ve0) (inE v d) > mostI v d j) = false:=decide_eq_false hq
            have hs2 : mostI v d (j + 1) = mostI v d j:=by rw [hs]; omega
            simp only [zW,zX,zD,builtinA,isLeaf,const1,ustrA,simprocAttr,ti3,ti37,ti39,ca155,cf,Tryz.results155,decide_eq_false hq,g2,hi1,LoopK_eq]
            refine ⟨⟨j + 1,by omega,by rw [hs2]⟩,?_⟩
            simp only [intOf]
            omega
        · have dl : decide ((j : Int) < ((kidsE v).length : Nat)) = false:=decide_eq_false (by omega)
          have : j = (kidsE v).length:=by omega
          subst this
          simp only [zW,zX,zD,builtinA,isLeaf,const1,ustrA,simprocAttr,ti3,ti37,ti39,ca155,cf,Tryz.results155,hl,dl]
          rw [mostI_all]
    · have k1 : ¬ kindE v = 1:=by rw [k4]; decide
      have e1 : mostI v d 0 = 0:=by rw [mostI_zero,most0,if_neg (fun h=>k1 h.1)]
      have e2 : inE v d = d + 1:=by rw [inE,if_pos k4]
      subst hcs
      refine acalls_enter (cf:=cf 46 [0,1,2,4,5,6,7,16,24,31,43]) foll Tryz.func155 Tryz.ntmps155 (by simp [cf]) ?_
      simp only [Tryz.f155,EnterK_some,zW,zX,zD,builtinA,isLeaf,const1,ustrA,simprocAttr,ti3,ti37,ti39,ca155,cf,Tryz.results155]
      simp only [zW,zX,zD,builtinA,isLeaf,const1,ustrA,simprocAttr,ti3,ti37,ti39,ca155,cf,Tryz.results155,decide_eq_false k1,decide_eq_true k4,hw3]
      refine aloop_intro [1,2,5,6] (fun e A'=>∃ j,j ≤ (kidsE v).length ∧ e = [(1,.int .i64 (inE v d)),(2,.ptr A.length 0),(5,.int .i64 (mostI v d j)),(6,.int .i64 j)] ∧ A' = A ++ [.cells [.int .i64 (kindE v),.int .i64 (nE v),.str (modE v),.str (nameE v),.int .i64 (argE v).kind,.str (argE v).mod,.str (argE v).name,.slice (encs (argE v).kids),.slice (rowsE v)]]) (fun e _=>(kidsE v).length - (intOf (Abs.look 6 e)).toNat) ?_ ?_
      · refine ⟨0,by omega,?_,rfl⟩
        rw [e1,e2]
        rfl
      · rintro e A' ⟨j,hj,rfl,rfl⟩
        by_cases hlt : j < (kidsE v).length
        · have dl : decide ((j : Int) < ((kidsE v).length : Nat)) = true:=decide_eq_true (by omega)
          have hg:=rowsE_getD hlt
          have hm:=kid_mem hlt
          have hdk:=depE_kid hm
          have hi1 : IntKind.i64.wrap ((j : Int) + 1) = ((j + 1 : Nat) : Int):=by rw [wrap64 (by omega) (by omega)]; rfl
          simp only [zW,zX,zD,builtinA,isLeaf,const1,ustrA,simprocAttr,ti3,ti37,ti39,ca155,cf,Tryz.results155,hl,dl,hg,encX_length,encX_take]
          refine ⟨⟨by omega,by omega⟩,?_⟩
          refine callK_intro (by simp only [zW,zX,zD,builtinA,isLeaf,const1,ustrA,simprocAttr,frzL_encX,Option.map_some]; rfl) (ih _ hm _ _ (okE_kid ho hm) hin.1 (by omega)) ?_ rfl; rintro v A' ⟨rfl,rfl⟩
          have hs:=mostI_succ (d:=d) hlt
          by_cases hq : mostI v d j < mostE ((kidsE v).getD j ve0) (inE v d)
          · have g2 : decide (mostE ((kidsE v).getD j ve0) (inE v d) > mostI v d j) = true:=decide_eq_true hq
            have hs2 : mostI v d (j + 1) = mostE ((kidsE v).getD j ve0) (inE v d):=by rw [hs]; omega
            simp only [zW,zX,zD,builtinA,isLeaf,const1,ustrA,simprocAttr,ti3,ti37,ti39,ca155,cf,Tryz.results155,decide_eq_true hq,g2,hi1,LoopK_eq]
            refine ⟨⟨j + 1,by omega,by rw [hs2]⟩,?_⟩
            simp only [intOf]
            omega
          · have g2 : decide (mostE ((kidsE v).getD j ve0) (inE v d) > mostI v d j) = false:=decide_eq_false hq
            have hs2 : mostI v d (j + 1) = mostI v d j:=by rw [hs]; omega
            simp only [zW,zX,zD,builtinA,isLeaf,const1,ustrA,simprocAttr,ti3,ti37,ti39,ca155,cf,Tryz.results155,decide_eq_false hq,g2,hi1,LoopK_eq]
            refine ⟨⟨j + 1,by omega,by rw [hs2]⟩,?_⟩
            simp only [intOf]
            omega
        · have dl : decide ((j : Int) < ((kidsE v).length : Nat)) = false:=decide_eq_false (by omega)
          have : j = (kidsE v).length:=by omega
          subst this
          simp only [zW,zX,zD,builtinA,isLeaf,const1,ustrA,simprocAttr,ti3,ti37,ti39,ca155,cf,Tryz.results155,hl,dl]
          rw [mostI_all]
    · have e1 : mostI v d 0 = 0:=by rw [mostI_zero,most0,if_neg (fun h=>k1 h.1)]
      have e2 : inE v d = d:=by rw [inE,if_neg k4]
      subst hcs
      refine acalls_enter (cf:=cf 46 [0,1,2,4,5,6,7,16,24,31,43]) foll Tryz.func155 Tryz.ntmps155 (by simp [cf]) ?_
      simp only [Tryz.f155,EnterK_some,zW,zX,zD,builtinA,isLeaf,const1,ustrA,simprocAttr,ti3,ti37,ti39,ca155,cf,Tryz.results155]
      simp only [zW,zX,zD,builtinA,isLeaf,const1,ustrA,simprocAttr,ti3,ti37,ti39,ca155,cf,Tryz.results155,decide_eq_false k1,decide_eq_false k4]
      refine aloop_intro [1,2,5,6] (fun e A'=>∃ j,j ≤ (kidsE v).length ∧ e = [(1,.int .i64 (inE v d)),(2,.ptr A.length 0),(5,.int .i64 (mostI v d j)),(6,.int .i64 j)] ∧ A' = A ++ [.cells [.int .i64 (kindE v),.int .i64 (nE v),.str (modE v),.str (nameE v),.int .i64 (argE v).kind,.str (argE v).mod,.str (argE v).name,.slice (encs (argE v).kids),.slice (rowsE v)]]) (fun e _=>(kidsE v).length - (intOf (Abs.look 6 e)).toNat) ?_ ?_
      · refine ⟨0,by omega,?_,rfl⟩
        rw [e1,e2]
        rfl
      · rintro e A' ⟨j,hj,rfl,rfl⟩
        by_cases hlt : j < (kidsE v).length
        · have dl : decide ((j : Int) < ((kidsE v).length : Nat)) = true:=decide_eq_true (by omega)
          have hg:=rowsE_getD hlt
          have hm:=kid_mem hlt
          have hdk:=depE_kid hm
          have hi1 : IntKind.i64.wrap ((j : Int) + 1) = ((j + 1 : Nat) : Int):=by rw [wrap64 (by omega) (by omega)]; rfl
          simp only [zW,zX,zD,builtinA,isLeaf,const1,ustrA,simprocAttr,ti3,ti37,ti39,ca155,cf,Tryz.results155,hl,dl,hg,encX_length,encX_take]
          refine ⟨⟨by omega,by omega⟩,?_⟩
          refine callK_intro (by simp only [zW,zX,zD,builtinA,isLeaf,const1,ustrA,simprocAttr,frzL_encX,Option.map_some]; rfl) (ih _ hm _ _ (okE_kid ho hm) hin.1 (by omega)) ?_ rfl; rintro v A' ⟨rfl,rfl⟩
          have hs:=mostI_succ (d:=d) hlt
          by_cases hq : mostI v d j < mostE ((kidsE v).getD j ve0) (inE v d)
          · have g2 : decide (mostE ((kidsE v).getD j ve0) (inE v d) > mostI v d j) = true:=decide_eq_true hq
            have hs2 : mostI v d (j + 1) = mostE ((kidsE v).getD j ve0) (inE v d):=by rw [hs]; omega
            simp only [zW,zX,zD,builtinA,isLeaf,const1,ustrA,simprocAttr,ti3,ti37,ti39,ca155,cf,Tryz.results155,decide_eq_true hq,g2,hi1,LoopK_eq]
            refine ⟨⟨j + 1,by omega,by rw [hs2]⟩,?_⟩
            simp only [intOf]
            omega
          · have g2 : decide (mostE ((kidsE v).getD j ve0) (inE v d) > mostI v d j) = false:=decide_eq_false hq
            have hs2 : mostI v d (j + 1) = mostI v d j:=by rw [hs]; omega
            simp only [zW,zX,zD,builtinA,isLeaf,const1,ustrA,simprocAttr,ti3,ti37,ti39,ca155,cf,Tryz.results155,decide_eq_false hq,g2,hi1,LoopK_eq]
            refine ⟨⟨j + 1,by omega,by rw [hs2]⟩,?_⟩
            simp only [intOf]
            omega
        · have dl : decide ((j : Int) < ((kidsE v).length : Nat)) = false:=decide_eq_false (by omega)
          have : j = (kidsE v).length:=by omega
          subst this
          simp only [zW,zX,zD,builtinA,isLeaf,const1,ustrA,simprocAttr,ti3,ti37,ti39,ca155,cf,Tryz.results155,hl,dl]
          rw [mostI_all]
end Go.Proofs.YtnjdbgiincliaaaGreat
/- The model's ExprValid. -/
set_option linter.unusedVariables false
set_option linter.unusedSimpArgs false
namespace Go.Proofs.YtnjdbgiincliaaaGreat
open Go.Abs
set_option maxRecDepth 100000 in
theorem spec_l4Kids (k : Int) (A : List Box) : ACalls Tryz.prog 242 [.int .i64 k] A (fun v A'=>v = .int .i64 (kidsX k) ∧ A' = A):=by
  refine acalls_enter (cf:=cf 15 [0,2,3,4,8,10,13]) foll Tryz.func242 Tryz.ntmps242 (by simp [cf]) ?_
  simp only [Tryz.f242,EnterK_some,zW,zX,zD,builtinA,isLeaf,const1,ustrA,simprocAttr,ti3,cf,Tryz.results242]
  repeat' first
    | (refine guardT_intro (fun h=>?_) (fun h=>?_) <;> (try simp only [decide_eq_true_eq,decide_eq_false_iff_not,Bool.not_eq_eq_eq_not,Bool.not_true,Bool.not_false] at h) <;> simp only [zW,zX,zD,builtinA,isLeaf,const1,ustrA,simprocAttr,ti3,cf,Tryz.results242,h])
    | (refine guardF_intro (fun h=>?_) (fun h=>?_) <;> (try simp only [decide_eq_true_eq,decide_eq_false_iff_not,Bool.not_eq_eq_eq_not,Bool.not_true,Bool.not_false] at h) <;> simp only [zW,zX,zD,builtinA,isLeaf,const1,ustrA,simprocAttr,ti3,cf,Tryz.results242,h])
    | (refine condK_intro (fun h=>?_) (fun h=>?_) <;> (try simp only [decide_eq_true_eq,decide_eq_false_iff_not,Bool.not_eq_eq_eq_not,Bool.not_true,Bool.not_false] at h) <;> simp only [zW,zX,zD,builtinA,isLeaf,const1,ustrA,simprocAttr,ti3,cf,Tryz.results242,h])
    | (refine guardDT_intro (fun h=>?_) (fun h=>?_) <;> (try simp only [decide_eq_true_eq,decide_eq_false_iff_not,Bool.not_eq_eq_eq_not,Bool.not_true,Bool.not_false] at h) <;> simp only [zW,zX,zD,builtinA,isLeaf,const1,ustrA,simprocAttr,ti3,cf,Tryz.results242,h])
    | (refine guardDF_intro (fun h=>?_) (fun h=>?_) <;> (try simp only [decide_eq_true_eq,decide_eq_false_iff_not,Bool.not_eq_eq_eq_not,Bool.not_true,Bool.not_false] at h) <;> simp only [zW,zX,zD,builtinA,isLeaf,const1,ustrA,simprocAttr,ti3,cf,Tryz.results242,h])
    | refine And.intro ?_ ?_
  all_goals simp [kidsX, *]
set_option maxRecDepth 100000 in
set_option maxHeartbeats 4000000 in
theorem spec_l4Own (k i : Int) (m n : List UInt8) (t : Ty) (ht : t.Ok) (hc : sz t ≤ 1048576) (ks : List (List AV)) (A : List Box) :
    ACalls Tryz.prog 243 [.agg [.int .i64 k,.int .i64 i,.str m,.str n,.int .i64 t.kind,.str t.mod,.str t.name,.slice (encs t.kids),.slice ks]] A (fun v A'=>v = .bool (ownX k i m n t) ∧ A' = A):=by
  have hz:=fun A=>spec_l2Zero t A
  have hv:=fun A=>spec_TypeValid t ht hc A
  rw [encT4] at hz hv
  by_cases k3 : k = 3
  · by_cases h1 : i = 0
    · by_cases h2 : t = ty0
      · cases h3 : localB n with
        | false =>
          refine acalls_enter (cf:=cf 87 [0,1,2,5,36,38,39,54,69]) foll Tryz.func243 Tryz.ntmps243 (by simp [cf]) ?_
          simp only [Tryz.f243,EnterK_some,zW,zX,zD,builtinA,isLeaf,const1,ustrA,simprocAttr,ti3,ti9,ti36,ti39,ca104,ca121,ca245,ca247,cf,Tryz.results243]
          simp only [zW,zX,zD,builtinA,isLeaf,const1,ustrA,simprocAttr,ti3,ti9,ti36,ti39,ca104,ca121,ca245,ca247,cf,Tryz.results243,decide_eq_true k3,decide_eq_true h1]
          refine callK_intro (by simp only [zW,zX,zD,builtinA,isLeaf,const1,ustrA,simprocAttr,Option.map_some]; rfl) (hz _) ?_ rfl; rintro v A' ⟨rfl,rfl⟩
          simp only [zW,zX,zD,builtinA,isLeaf,const1,ustrA,simprocAttr,ti3,ti9,ti36,ti39,ca104,ca121,ca245,ca247,cf,Tryz.results243,decide_eq_true h2]
          refine callK_intro (by simp only [zW,zX,zD,builtinA,isLeaf,const1,ustrA,simprocAttr,Option.map_some]; rfl) (spec_LocalName n _) ?_ rfl; rintro v A' ⟨rfl,rfl⟩
          simp only [zW,zX,zD,builtinA,isLeaf,const1,ustrA,simprocAttr,ti3,ti9,ti36,ti39,ca104,ca121,ca245,ca247,cf,Tryz.results243,h3]
          simp [ownX,k3,h3]
        | true =>
          by_cases h4 : m = []
          · refine acalls_enter (cf:=cf 87 [0,1,2,5,36,38,39,54,69]) foll Tryz.func243 Tryz.ntmps243 (by simp [cf]) ?_
            simp only [Tryz.f243,EnterK_some,zW,zX,zD,builtinA,isLeaf,const1,ustrA,simprocAttr,ti3,ti9,ti36,ti39,ca104,ca121,ca245,ca247,cf,Tryz.results243]
            simp only [zW,zX,zD,builtinA,isLeaf,const1,ustrA,simprocAttr,ti3,ti9,ti36,ti39,ca104,ca121,ca245,ca247,cf,Tryz.results243,decide_eq_true k3,decide_eq_true h1]
            refine callK_intro (by simp only [zW,zX,zD,builtinA,isLeaf,const1,ustrA,simprocAttr,Option.map_some]; rfl) (hz _) ?_ rfl; rintro v A' ⟨rfl,rfl⟩
            simp only [zW,zX,zD,builtinA,isLeaf,const1,ustrA,simprocAttr,ti3,ti9,ti36,ti39,ca104,ca121,ca245,ca247,cf,Tryz.results243,decide_eq_true h2]
            refine callK_intro (by simp only [zW,zX,zD,builtinA,isLeaf,const1,ustrA,simprocAttr,Option.map_some]; rfl) (spec_LocalName n _) ?_ rfl; rintro v A' ⟨rfl,rfl⟩
            simp only [zW,zX,zD,builtinA,isLeaf,const1,ustrA,simprocAttr,ti3,ti9,ti36,ti39,ca104,ca121,ca245,ca247,cf,Tryz.results243,h3,decide_eq_true h4]
            simp [ownX,k3,h1,h2,h3,h4]
          · refine acalls_enter (cf:=cf 87 [0,1,2,5,36,38,39,54,69]) foll Tryz.func243 Tryz.ntmps243 (by simp [cf]) ?_
            simp only [Tryz.f243,EnterK_some,zW,zX,zD,builtinA,isLeaf,const1,ustrA,simprocAttr,ti3,ti9,ti36,ti39,ca104,ca121,ca245,ca247,cf,Tryz.results243]
            simp only [zW,zX,zD,builtinA,isLeaf,const1,ustrA,simprocAttr,ti3,ti9,ti36,ti39,ca104,ca121,ca245,ca247,cf,Tryz.results243,decide_eq_true k3,decide_eq_true h1]
            refine callK_intro (by simp only [zW,zX,zD,builtinA,isLeaf,const1,ustrA,simprocAttr,Option.map_some]; rfl) (hz _) ?_ rfl; rintro v A' ⟨rfl,rfl⟩
            simp only [zW,zX,zD,builtinA,isLeaf,const1,ustrA,simprocAttr,ti3,ti9,ti36,ti39,ca104,ca121,ca245,ca247,cf,Tryz.results243,decide_eq_true h2]
            refine callK_intro (by simp only [zW,zX,zD,builtinA,isLeaf,const1,ustrA,simprocAttr,Option.map_some]; rfl) (spec_LocalName n _) ?_ rfl; rintro v A' ⟨rfl,rfl⟩
            simp only [zW,zX,zD,builtinA,isLeaf,const1,ustrA,simprocAttr,ti3,ti9,ti36,ti39,ca104,ca121,ca245,ca247,cf,Tryz.results243,h3,decide_eq_false h4]
            refine callK_intro (by simp only [zW,zX,zD,builtinA,isLeaf,const1,ustrA,simprocAttr,Option.map_some]; rfl) (spec_ModuleName m _) ?_ rfl; rintro v A' ⟨rfl,rfl⟩
            simp only [zW,zX,zD,builtinA,isLeaf,const1,ustrA,simprocAttr,ti3,ti9,ti36,ti39,ca104,ca121,ca245,ca247,cf,Tryz.results243]
            simp [ownX,k3,h1,h2,h3,h4]
      · refine acalls_enter (cf:=cf 87 [0,1,2,5,36,38,39,54,69]) foll Tryz.func243 Tryz.ntmps243 (by simp [cf]) ?_
        simp only [Tryz.f243,EnterK_some,zW,zX,zD,builtinA,isLeaf,const1,ustrA,simprocAttr,ti3,ti9,ti36,ti39,ca104,ca121,ca245,ca247,cf,Tryz.results243]
        simp only [zW,zX,zD,builtinA,isLeaf,const1,ustrA,simprocAttr,ti3,ti9,ti36,ti39,ca104,ca121,ca245,ca247,cf,Tryz.results243,decide_eq_true k3,decide_eq_true h1]
        refine callK_intro (by simp only [zW,zX,zD,builtinA,isLeaf,const1,ustrA,simprocAttr,Option.map_some]; rfl) (hz _) ?_ rfl; rintro v A' ⟨rfl,rfl⟩
        simp only [zW,zX,zD,builtinA,isLeaf,const1,ustrA,simprocAttr,ti3,ti9,ti36,ti39,ca104,ca121,ca245,ca247,cf,Tryz.results243,decide_eq_false h2]
        simp [ownX,k3,h2]
    · refine acalls_enter (cf:=cf 87 [0,1,2,5,36,38,39,54,69]) foll Tryz.func243 Tryz.ntmps243 (by simp [cf]) ?_
      simp only [Tryz.f243,EnterK_some,zW,zX,zD,builtinA,isLeaf,const1,ustrA,simprocAttr,ti3,ti9,ti36,ti39,ca104,ca121,ca245,ca247,cf,Tryz.results243]
      simp only [zW,zX,zD,builtinA,isLeaf,const1,ustrA,simprocAttr,ti3,ti9,ti36,ti39,ca104,ca121,ca245,ca247,cf,Tryz.results243,decide_eq_true k3,decide_eq_false h1]
      simp [ownX,k3,h1]
  · by_cases h1 : m = []
    · by_cases h2 : n = []
      · by_cases k1 : k = 1
        · by_cases h3 : 0 ≤ i
          · by_cases h4 : i ≤ 12
            · refine acalls_enter (cf:=cf 87 [0,1,2,5,36,38,39,54,69]) foll Tryz.func243 Tryz.ntmps243 (by simp [cf]) ?_
              simp only [Tryz.f243,EnterK_some,zW,zX,zD,builtinA,isLeaf,const1,ustrA,simprocAttr,ti3,ti9,ti36,ti39,ca104,ca121,ca245,ca247,cf,Tryz.results243]
              simp only [zW,zX,zD,builtinA,isLeaf,const1,ustrA,simprocAttr,ti3,ti9,ti36,ti39,ca104,ca121,ca245,ca247,cf,Tryz.results243,decide_eq_false k3,decide_eq_true h1,decide_eq_true h2,decide_eq_true k1,decide_eq_true h3,decide_eq_true h4]
              refine callK_intro (by simp only [zW,zX,zD,builtinA,isLeaf,const1,ustrA,simprocAttr,Option.map_some]; rfl) (hz _) ?_ rfl; rintro v A' ⟨rfl,rfl⟩
              simp only [zW,zX,zD,builtinA,isLeaf,const1,ustrA,simprocAttr,ti3,ti9,ti36,ti39,ca104,ca121,ca245,ca247,cf,Tryz.results243]
              simp [ownX,k3,k1,h1,h2,h3,h4]
            · refine acalls_enter (cf:=cf 87 [0,1,2,5,36,38,39,54,69]) foll Tryz.func243 Tryz.ntmps243 (by simp [cf]) ?_
              simp only [Tryz.f243,EnterK_some,zW,zX,zD,builtinA,isLeaf,const1,ustrA,simprocAttr,ti3,ti9,ti36,ti39,ca104,ca121,ca245,ca247,cf,Tryz.results243]
              simp only [zW,zX,zD,builtinA,isLeaf,const1,ustrA,simprocAttr,ti3,ti9,ti36,ti39,ca104,ca121,ca245,ca247,cf,Tryz.results243,decide_eq_false k3,decide_eq_true h1,decide_eq_true h2,decide_eq_true k1,decide_eq_true h3,decide_eq_false h4]
              simp [ownX,k3,k1,h1,h2,h3,h4]
          · refine acalls_enter (cf:=cf 87 [0,1,2,5,36,38,39,54,69]) foll Tryz.func243 Tryz.ntmps243 (by simp [cf]) ?_
            simp only [Tryz.f243,EnterK_some,zW,zX,zD,builtinA,isLeaf,const1,ustrA,simprocAttr,ti3,ti9,ti36,ti39,ca104,ca121,ca245,ca247,cf,Tryz.results243]
            simp only [zW,zX,zD,builtinA,isLeaf,const1,ustrA,simprocAttr,ti3,ti9,ti36,ti39,ca104,ca121,ca245,ca247,cf,Tryz.results243,decide_eq_false k3,decide_eq_true h1,decide_eq_true h2,decide_eq_true k1,decide_eq_false h3]
            simp [ownX,k3,k1,h1,h2,h3]
        · by_cases k2 : k = 2
          · by_cases h3 : 0 ≤ i
            · by_cases h4 : i ≤ 99
              · refine acalls_enter (cf:=cf 87 [0,1,2,5,36,38,39,54,69]) foll Tryz.func243 Tryz.ntmps243 (by simp [cf]) ?_
                simp only [Tryz.f243,EnterK_some,zW,zX,zD,builtinA,isLeaf,const1,ustrA,simprocAttr,ti3,ti9,ti36,ti39,ca104,ca121,ca245,ca247,cf,Tryz.results243]
                simp only [zW,zX,zD,builtinA,isLeaf,const1,ustrA,simprocAttr,ti3,ti9,ti36,ti39,ca104,ca121,ca245,ca247,cf,Tryz.results243,decide_eq_false k3,decide_eq_true h1,decide_eq_true h2,decide_eq_false k1,decide_eq_true k2,decide_eq_true h3,decide_eq_true h4]
                refine callK_intro (by simp only [zW,zX,zD,builtinA,isLeaf,const1,ustrA,simprocAttr,Option.map_some]; rfl) (hz _) ?_ rfl; rintro v A' ⟨rfl,rfl⟩
                simp only [zW,zX,zD,builtinA,isLeaf,const1,ustrA,simprocAttr,ti3,ti9,ti36,ti39,ca104,ca121,ca245,ca247,cf,Tryz.results243]
                simp [ownX,k3,k1,k2,h1,h2,h3,h4]
              · refine acalls_enter (cf:=cf 87 [0,1,2,5,36,38,39,54,69]) foll Tryz.func243 Tryz.ntmps243 (by simp [cf]) ?_
                simp only [Tryz.f243,EnterK_some,zW,zX,zD,builtinA,isLeaf,const1,ustrA,simprocAttr,ti3,ti9,ti36,ti39,ca104,ca121,ca245,ca247,cf,Tryz.results243]
                simp only [zW,zX,zD,builtinA,isLeaf,const1,ustrA,simprocAttr,ti3,ti9,ti36,ti39,ca104,ca121,ca245,ca247,cf,Tryz.results243,decide_eq_false k3,decide_eq_true h1,decide_eq_true h2,decide_eq_false k1,decide_eq_true k2,decide_eq_true h3,decide_eq_false h4]
                simp [ownX,k3,k1,k2,h1,h2,h3,h4]
            · refine acalls_enter (cf:=cf 87 [0,1,2,5,36,38,39,54,69]) foll Tryz.func243 Tryz.ntmps243 (by simp [cf]) ?_
              simp only [Tryz.f243,EnterK_some,zW,zX,zD,builtinA,isLeaf,const1,ustrA,simprocAttr,ti3,ti9,ti36,ti39,ca104,ca121,ca245,ca247,cf,Tryz.results243]
              simp only [zW,zX,zD,builtinA,isLeaf,const1,ustrA,simprocAttr,ti3,ti9,ti36,ti39,ca104,ca121,ca245,ca247,cf,Tryz.results243,decide_eq_false k3,decide_eq_true h1,decide_eq_true h2,decide_eq_false k1,decide_eq_true k2,decide_eq_false h3]
              simp [ownX,k3,k1,k2,h1,h2,h3]
          · by_cases k4 : k = 4
            · by_cases h3 : i = 0
              · refine acalls_enter (cf:=cf 87 [0,1,2,5,36,38,39,54,69]) foll Tryz.func243 Tryz.ntmps243 (by simp [cf]) ?_
                simp only [Tryz.f243,EnterK_some,zW,zX,zD,builtinA,isLeaf,const1,ustrA,simprocAttr,ti3,ti9,ti36,ti39,ca104,ca121,ca245,ca247,cf,Tryz.results243]
                simp only [zW,zX,zD,builtinA,isLeaf,const1,ustrA,simprocAttr,ti3,ti9,ti36,ti39,ca104,ca121,ca245,ca247,cf,Tryz.results243,decide_eq_false k3,decide_eq_true h1,decide_eq_true h2,decide_eq_false k1,decide_eq_false k2,decide_eq_true k4,decide_eq_true h3]
                refine callK_intro (by simp only [zW,zX,zD,builtinA,isLeaf,const1,ustrA,simprocAttr,Option.map_some]; rfl) (hv _) ?_ rfl; rintro v A' ⟨rfl,rfl⟩
                simp only [zW,zX,zD,builtinA,isLeaf,const1,ustrA,simprocAttr,ti3,ti9,ti36,ti39,ca104,ca121,ca245,ca247,cf,Tryz.results243]
                simp [ownX,k3,k1,k2,k4,h1,h2,h3]
              · refine acalls_enter (cf:=cf 87 [0,1,2,5,36,38,39,54,69]) foll Tryz.func243 Tryz.ntmps243 (by simp [cf]) ?_
                simp only [Tryz.f243,EnterK_some,zW,zX,zD,builtinA,isLeaf,const1,ustrA,simprocAttr,ti3,ti9,ti36,ti39,ca104,ca121,ca245,ca247,cf,Tryz.results243]
                simp only [zW,zX,zD,builtinA,isLeaf,const1,ustrA,simprocAttr,ti3,ti9,ti36,ti39,ca104,ca121,ca245,ca247,cf,Tryz.results243,decide_eq_false k3,decide_eq_true h1,decide_eq_true h2,decide_eq_false k1,decide_eq_false k2,decide_eq_true k4,decide_eq_false h3]
                simp [ownX,k3,k1,k2,k4,h1,h2,h3]
            · by_cases h3 : i = 0
              · refine acalls_enter (cf:=cf 87 [0,1,2,5,36,38,39,54,69]) foll Tryz.func243 Tryz.ntmps243 (by simp [cf]) ?_
                simp only [Tryz.f243,EnterK_some,zW,zX,zD,builtinA,isLeaf,const1,ustrA,simprocAttr,ti3,ti9,ti36,ti39,ca104,ca121,ca245,ca247,cf,Tryz.results243]
                simp only [zW,zX,zD,builtinA,isLeaf,const1,ustrA,simprocAttr,ti3,ti9,ti36,ti39,ca104,ca121,ca245,ca247,cf,Tryz.results243,decide_eq_false k3,decide_eq_true h1,decide_eq_true h2,decide_eq_false k1,decide_eq_false k2,decide_eq_false k4,decide_eq_true h3]
                refine callK_intro (by simp only [zW,zX,zD,builtinA,isLeaf,const1,ustrA,simprocAttr,Option.map_some]; rfl) (hz _) ?_ rfl; rintro v A' ⟨rfl,rfl⟩
                simp only [zW,zX,zD,builtinA,isLeaf,const1,ustrA,simprocAttr,ti3,ti9,ti36,ti39,ca104,ca121,ca245,ca247,cf,Tryz.results243]
                simp [ownX,k3,k1,k2,k4,h1,h2,h3]
              · refine acalls_enter (cf:=cf 87 [0,1,2,5,36,38,39,54,69]) foll Tryz.func243 Tryz.ntmps243 (by simp [cf]) ?_
                simp only [Tryz.f243,EnterK_some,zW,zX,zD,builtinA,isLeaf,const1,ustrA,simprocAttr,ti3,ti9,ti36,ti39,ca104,ca121,ca245,ca247,cf,Tryz.results243]
                simp only [zW,zX,zD,builtinA,isLeaf,const1,ustrA,simprocAttr,ti3,ti9,ti36,ti39,ca104,ca121,ca245,ca247,cf,Tryz.results243,decide_eq_false k3,decide_eq_true h1,decide_eq_true h2,decide_eq_false k1,decide_eq_false k2,decide_eq_false k4,decide_eq_false h3]
                simp [ownX,k3,k1,k2,k4,h1,h2,h3]
      · refine acalls_enter (cf:=cf 87 [0,1,2,5,36,38,39,54,69]) foll Tryz.func243 Tryz.ntmps243 (by simp [cf]) ?_
        simp only [Tryz.f243,EnterK_some,zW,zX,zD,builtinA,isLeaf,const1,ustrA,simprocAttr,ti3,ti9,ti36,ti39,ca104,ca121,ca245,ca247,cf,Tryz.results243]
        simp only [zW,zX,zD,builtinA,isLeaf,const1,ustrA,simprocAttr,ti3,ti9,ti36,ti39,ca104,ca121,ca245,ca247,cf,Tryz.results243,decide_eq_false k3,decide_eq_true h1,decide_eq_false h2]
        simp [ownX,k3,h2]
    · refine acalls_enter (cf:=cf 87 [0,1,2,5,36,38,39,54,69]) foll Tryz.func243 Tryz.ntmps243 (by simp [cf]) ?_
      simp only [Tryz.f243,EnterK_some,zW,zX,zD,builtinA,isLeaf,const1,ustrA,simprocAttr,ti3,ti9,ti36,ti39,ca104,ca121,ca245,ca247,cf,Tryz.results243]
      simp only [zW,zX,zD,builtinA,isLeaf,const1,ustrA,simprocAttr,ti3,ti9,ti36,ti39,ca104,ca121,ca245,ca247,cf,Tryz.results243,decide_eq_false k3,decide_eq_false h1]
      simp [ownX,k3,h1]
set_option maxRecDepth 100000 in
theorem spec_l4Shape (x : Ex) (hx : x.Ok) (hc : szX x ≤ 1048576) : ∀ (d : Int) (A : List Box),-1000 ≤ d → d ≤ 1000 → ACalls Tryz.prog 172 [.agg (encX x),.int .i64 d] A (fun v A'=>v = .bool (shapeX x d) ∧ A' = A):=by
  induction x using Ex.ind with
  | h k i m n t ks ih =>
    intro d A h0 h1
    obtain ⟨hm,hn,ht,hks,hok⟩:=hx
    have hsx : szX (.mk k i m n t ks) = m.length + n.length + sz t + (ks.length + szXs ks):=by rw [szX]
    rw [hsx] at hc
    rw [encX,shapeX]
    refine acalls_enter (cf:=cf 38 [0,1,2,4,5,21,26,37]) foll Tryz.func172 Tryz.ntmps172 (by simp [cf]) ?_
    simp only [Tryz.f172,EnterK_some,zW,zX,zD,builtinA,isLeaf,const1,ustrA,simprocAttr,ti3,ti37,ti39,ca172,ca242,ca243,cf,Tryz.results172]
    refine .inl ⟨by kernel_rfl,by kernel_rfl,?_⟩
    by_cases hd : d < 1
    · simp only [decide_eq_true hd]
      simp only [zW,zX,zD,builtinA,isLeaf,const1,ustrA,simprocAttr,ti3,ti37,ti39,ca172,ca242,ca243,cf,Tryz.results172]
      rw [decide_eq_false (show ¬ (1 : Int) ≤ d by omega)]
      rfl
    · simp only [decide_eq_false hd]
      simp only [zW,zX,zD,builtinA,isLeaf,const1,ustrA,simprocAttr,ti3,ti37,ti39,ca172,ca242,ca243,cf,Tryz.results172]
      refine callD_intro (by simp only [zW,zX,zD,builtinA,isLeaf,const1,ustrA,simprocAttr,Option.map_some] <;> rfl) (spec_l4Kids k _) ?_ rfl
      rw [decide_eq_true (show (1 : Int) ≤ d by omega)]
      by_cases hk : kidsX k = ks.length
      · simp only [zW,zX,zD,builtinA,isLeaf,const1,ustrA,simprocAttr,ti3,ti37,ti39,ca172,ca242,ca243,cf,Tryz.results172,encXs_length,decide_eq_true hk]
        refine callD_intro (by simp only [zW,zX,zD,builtinA,isLeaf,const1,ustrA,simprocAttr,Option.map_some] <;> rfl) (spec_l4Own k i m n t ht (by omega) _ _) ?_ rfl
        by_cases ho : ownX k i m n t = true
        · simp only [zW,zX,zD,builtinA,isLeaf,const1,ustrA,simprocAttr,ti3,ti37,ti39,ca172,ca242,ca243,cf,Tryz.results172,ho]
          have hw : IntKind.i64.wrap (d - 1) = d - 1:=wrap64 (by omega) (by omega)
          refine aloop_intro [1,2,5] (fun e A'=>∃ j,j ≤ ks.length ∧ shapeXs (ks.take j) (d - 1) = true ∧ e = [(1,.int .i64 d),(2,.ptr A.length 0),(5,.int .i64 j)] ∧ A' = A ++ [.cells [.int .i64 k,.int .i64 i,.str m,.str n,.int .i64 t.kind,.str t.mod,.str t.name,.slice (encs t.kids),.slice (encXs ks)]]) (fun e _=>ks.length - (intOf (Abs.look 5 e)).toNat) ?_ ?_
          · simp only [zW,zX,zD,builtinA,isLeaf,const1,ustrA,simprocAttr,ti3,ti37,ti39,ca172,ca242,ca243,cf,Tryz.results172]
            exact ⟨0,by omega,by simp [shapeXs],rfl⟩
          · rintro e A' ⟨j,hi,hsh,rfl,rfl⟩
            simp only [zW,zX,zD,builtinA,isLeaf,const1,ustrA,simprocAttr,ti3,ti37,ti39,ca172,ca242,ca243,cf,Tryz.results172,encXs_length]
            refine condK_intro (fun h2=>?_) (fun h2=>?_)
            · have hi2 : j < ks.length:=by simpa using h2
              have he:=encXs_getD hi2
              have hmm:=ex_mem hi2
              have hi1 : IntKind.i64.wrap ((j : Int) + 1) = ((j + 1 : Nat) : Int):=by rw [wrap64 (by omega) (by omega)]; rfl
              have hst:=shapeXs_take hi2 (d - 1)
              have hszm:=szXs_mem hmm
              simp only [zW,zX,zD,builtinA,isLeaf,const1,ustrA,simprocAttr,ti3,ti37,ti39,ca172,ca242,ca243,cf,Tryz.results172,he,encX_length,encX_take,encXs_length,hw]
              refine ⟨⟨by omega,by omega⟩,?_⟩
              refine callK_intro (by simp only [zW,zX,zD,builtinA,isLeaf,const1,ustrA,simprocAttr,frzL_encX,Option.map_some]; rfl) (ih _ hmm (hok _ hmm) (by omega) _ _ (by omega) (by omega)) ?_ rfl; rintro v A' ⟨rfl,rfl⟩
              cases hs : shapeX (ks.getD j ex0) (d - 1) with
              | true =>
                rw [hsh,hs] at hst
                simp only [zW,zX,zD,builtinA,isLeaf,const1,ustrA,simprocAttr,ti3,ti37,ti39,ca172,ca242,ca243,cf,Tryz.results172,hi1,LoopK_eq]
                refine ⟨⟨j + 1,by omega,hst,rfl⟩,?_⟩
                simp only [intOf]
                omega
              | false =>
                simp only [zW,zX,zD,builtinA,isLeaf,const1,ustrA,simprocAttr,ti3,ti37,ti39,ca172,ca242,ca243,cf,Tryz.results172]
                rw [shapeXs_false hi2 hs]
            · simp only [zW,zX,zD,builtinA,isLeaf,const1,ustrA,simprocAttr,ti3,ti37,ti39,ca172,ca242,ca243,cf,Tryz.results172]
              have : j = ks.length:=by simp at h2; omega
              subst this
              rw [List.take_length] at hsh
              rw [hsh]
        · simp only [zW,zX,zD,builtinA,isLeaf,const1,ustrA,simprocAttr,ti3,ti37,ti39,ca172,ca242,ca243,cf,Tryz.results172,ho]
      · simp only [zW,zX,zD,builtinA,isLeaf,const1,ustrA,simprocAttr,ti3,ti37,ti39,ca172,ca242,ca243,cf,Tryz.results172,encXs_length,decide_eq_false hk]
theorem cntUs_take {l : List Ex} {most : Int} {i : Nat} (h : i < l.length) (hm : cntUs (l.take i) most 1 ≤ most) : cntUs (l.take (i + 1)) most 1 = cntUs (l.take i) most 1 + cntU (l.getD i ex0) (most - cntUs (l.take i) most 1):=by
  have key : ∀ (l : List Ex) (n : Int) (i : Nat),i < l.length → cntUs (l.take i) most n ≤ most → cntUs (l.take (i + 1)) most n = cntUs (l.take i) most n + cntU (l.getD i ex0) (most - cntUs (l.take i) most n):=by
    intro l
    induction l with
    | nil=>intro n i h; simp at h
    | cons x l ih =>
      intro n i h hm
      cases i with
      | zero =>
        simp only [List.take_zero,cntUs,List.take_succ_cons,List.getD_cons_zero] at hm ⊢
        rw [if_pos hm]
      | succ i =>
        simp only [List.take_succ_cons,cntUs,List.getD_cons_succ] at hm ⊢
        by_cases hn : n ≤ most
        · rw [if_pos hn] at hm
          simp only [if_pos hn]
          exact ih _ i (by simpa using h) hm
        · rw [if_neg hn] at hm; omega
  exact key l 1 i h hm
theorem cntUs_over {l : List Ex} {most : Int} {i : Nat} (hm : most < cntUs (l.take i) most 1) (hi : i ≤ l.length) : cntUs l most 1 = cntUs (l.take i) most 1:=by
  have key : ∀ (l : List Ex) (n : Int) (i : Nat),most < cntUs (l.take i) most n → cntUs l most n = cntUs (l.take i) most n:=by
    intro l
    induction l with
    | nil=>intro n i h; simp
    | cons x l ih =>
      intro n i h
      cases i with
      | zero =>
        simp only [List.take_zero,cntUs] at h ⊢
        rw [if_neg (by omega)]
      | succ i =>
        simp only [List.take_succ_cons,cntUs] at h ⊢
        by_cases hn : n ≤ most
        · rw [if_pos hn] at h
          simp only [if_pos hn]
          exact ih _ i h
        · simp only [if_neg hn]
  exact key l 1 i hm
theorem countXs_take_le (l : List Ex) : ∀ i,countXs (l.take i) ≤ countXs l:=by
  induction l with
  | nil=>intro i; simp [countXs]
  | cons t l ih =>
    intro i
    cases i with
    | zero=>simp [countXs]
    | succ i=>simp only [List.take_succ_cons,countXs]; have:=ih i; omega
set_option maxRecDepth 100000 in
theorem spec_l4Count (x : Ex) (hx : x.Ok) (hc : szX x ≤ 1048576) : ∀ (most : Int) (A : List Box),0 ≤ most → most ≤ 1000 → ACalls Tryz.prog 173 [.agg (encX x),.int .i64 most] A (fun v A'=>v = .int .i64 (cntU x most) ∧ A' = A):=by
  induction x using Ex.ind with
  | h k i m n t ks ih =>
    intro most A h0 h1
    obtain ⟨hm,hn,ht,hks,hok⟩:=hx
    have hsx : szX (.mk k i m n t ks) = m.length + n.length + sz t + (ks.length + szXs ks):=by rw [szX]
    rw [hsx] at hc
    have hcx:=countXs_sz ks
    have hlen : ks.length ≤ 1048576:=by omega
    have hU : ∀ j,cntUs (ks.take j) most 1 ≤ 2000000 ∧ 1 ≤ cntUs (ks.take j) most 1:=fun j=>by
      have h2:=cntUs_is (ks.take j) most 1 h0 (by omega)
      have h3:=countXs_take_le ks j
      omega
    rw [encX,cntU]
    refine acalls_enter (cf:=cf 31 [0,1,2,4,5,6,16]) foll Tryz.func173 Tryz.ntmps173 (by simp [cf]) ?_
    simp only [Tryz.f173,EnterK_some,zW,zX,zD,builtinA,isLeaf,const1,ustrA,simprocAttr,ti3,ti37,ti39,ca173,cf,Tryz.results173]
    refine aloop_intro [1,2,5,6] (fun e A'=>∃ j,j ≤ ks.length ∧ e = [(1,.int .i64 most),(2,.ptr A.length 0),(5,.int .i64 (cntUs (ks.take j) most 1)),(6,.int .i64 j)] ∧ A' = A ++ [.cells [.int .i64 k,.int .i64 i,.str m,.str n,.int .i64 t.kind,.str t.mod,.str t.name,.slice (encs t.kids),.slice (encXs ks)]]) (fun e _=>ks.length - (intOf (Abs.look 6 e)).toNat) ?_ ?_
    · simp only [zW,zX,zD,builtinA,isLeaf,const1,ustrA,simprocAttr,ti3,ti37,ti39,ca173,cf,Tryz.results173]
      exact ⟨0,by omega,by simp [cntUs]⟩
    · rintro e A' ⟨j,hi,rfl,rfl⟩
      have hUj:=hU j
      have hUj1:=hU (j + 1)
      simp only [zW,zX,zD,builtinA,isLeaf,const1,ustrA,simprocAttr,ti3,ti37,ti39,ca173,cf,Tryz.results173,encXs_length]
      by_cases h2 : j < ks.length
      · have d1 : decide ((j : Int) < (ks.length : Int)) = true:=by simp; omega
        by_cases h3 : cntUs (ks.take j) most 1 ≤ most
        · have he:=encXs_getD h2
          have hmm:=ex_mem h2
          have hi1 : IntKind.i64.wrap ((j : Int) + 1) = ((j + 1 : Nat) : Int):=by rw [wrap64 (by omega) (by omega)]; rfl
          have hct:=cntUs_take h2 h3
          have hszm:=szXs_mem hmm
          have hw0 : IntKind.i64.wrap (most - cntUs (ks.take j) most 1) = most - cntUs (ks.take j) most 1:=wrap64 (by omega) (by omega)
          have hw : IntKind.i64.wrap (cntUs (ks.take j) most 1 + cntU (ks.getD j ex0) (most - cntUs (ks.take j) most 1)) = cntUs (ks.take (j + 1)) most 1:=by
            rw [← hct]; exact wrap64 (by omega) (by omega)
          simp only [zW,zX,zD,builtinA,isLeaf,const1,ustrA,simprocAttr,ti3,ti37,ti39,ca173,cf,Tryz.results173,d1,decide_eq_true h3,he,encX_length,encX_take,encXs_length,hw0]
          refine ⟨⟨by omega,by omega⟩,?_⟩
          refine callK_intro (by simp only [zW,zX,zD,builtinA,isLeaf,const1,ustrA,simprocAttr,frzL_encX,Option.map_some]; rfl) (ih _ hmm (hok _ hmm) (by omega) _ _ (by omega) (by omega)) ?_ rfl; rintro v A' ⟨rfl,rfl⟩
          simp only [zW,zX,zD,builtinA,isLeaf,const1,ustrA,simprocAttr,ti3,ti37,ti39,ca173,cf,Tryz.results173,hi1,hw,LoopK_eq]
          refine ⟨⟨j + 1,by omega,rfl⟩,?_⟩
          simp only [intOf]
          omega
        · simp only [zW,zX,zD,builtinA,isLeaf,const1,ustrA,simprocAttr,ti3,ti37,ti39,ca173,cf,Tryz.results173,d1,decide_eq_false h3]
          rw [cntUs_over (by omega) hi]
      · have d1 : decide ((j : Int) < (ks.length : Int)) = false:=by simp; omega
        have : j = ks.length:=by omega
        subst this
        simp only [zW,zX,zD,builtinA,isLeaf,const1,ustrA,simprocAttr,ti3,ti37,ti39,ca173,cf,Tryz.results173,d1]
        try rw [List.take_length]
set_option maxRecDepth 100000 in
theorem spec_ExprValid (x : Ex) (hx : x.Ok) (hc : szX x ≤ 1048576) (A : List Box) : ACalls Tryz.prog 80 [.agg (encX x)] A (fun v A'=>v = .bool (validX x) ∧ A' = A):=by
  have hu:=cntU_is x 400 (by omega)
  have hd : decide (cntU x 400 ≤ 400) = decide (countX x ≤ 400):=by
    rw [Bool.eq_iff_iff]; simp only [decide_eq_true_eq]
    constructor
    · intro h
      rcases Nat.lt_or_ge 400 (countX x) with h' | h'
      · have:=hu.2.2.2 (by omega); omega
      · exact h'
    · intro h; rw [hu.2.2.1 (by omega)]; omega
  refine acalls_enter (cf:=cf 10 [0,1,2]) foll Tryz.func80 Tryz.ntmps80 (by simp [cf]) ?_
  simp only [Tryz.f80,EnterK_some,zW,zX,zD,builtinA,isLeaf,const1,ustrA,simprocAttr,ti3,ti39,ca172,ca173,cf,Tryz.results80]
  simp only [encX_take]
  refine ⟨by rw [encX_length]; omega,?_⟩
  refine callK_intro (by simp only [zW,zX,zD,builtinA,isLeaf,const1,ustrA,simprocAttr,frzL_encX,Option.map_some]; rfl) (spec_l4Shape x hx hc _ _ (by omega) (by omega)) ?_ rfl; rintro v A' ⟨rfl,rfl⟩
  rw [validX]
  cases hs : shapeX x 40 with
  | true =>
    simp only [zW,zX,zD,builtinA,isLeaf,const1,ustrA,simprocAttr,ti3,ti39,ca172,ca173,cf,Tryz.results80,encX_take]
    refine ⟨by rw [encX_length]; omega,?_⟩
    refine callK_intro (by simp only [zW,zX,zD,builtinA,isLeaf,const1,ustrA,simprocAttr,frzL_encX,Option.map_some]; rfl) (spec_l4Count x hx hc _ _ (by omega) (by omega)) ?_ rfl; rintro v A' ⟨rfl,rfl⟩
    simp only [zW,zX,zD,builtinA,isLeaf,const1,ustrA,simprocAttr,ti3,ti39,ca172,ca173,cf,Tryz.results80,hd]
    try simp
  | false =>
    simp only [zW,zX,zD,builtinA,isLeaf,const1,ustrA,simprocAttr,ti3,ti39,ca172,ca173,cf,Tryz.results80]
end Go.Proofs.YtnjdbgiincliaaaGreat
/- The document's TypeSame, by itself. -/
set_option linter.unusedVariables false
set_option linter.unusedSimpArgs false
namespace Go.Proofs.YtnjdbgiincliaaaGreat
open Go.Abs
theorem gdS {α : Type} (l : List α) (i : Nat) (d : α) (h : i < l.length) : l.getD i d = l[i]:=by simp [List.getD,h]
theorem take_eq_all {l l' : List Ty} (hl : l.length = l'.length) (h : ∀ i,i < l.length → l.getD i ty0 = l'.getD i ty0) : l = l':=by
  apply List.ext_getElem hl
  intro i hi hi'
  have:=h i hi
  rw [gdS _ _ _ hi,gdS _ _ _ hi'] at this
  exact this
set_option maxRecDepth 100000 in
set_option maxHeartbeats 2000000 in
theorem spec_TypeSame (σ : Ty) (hσ : σ.Ok) : ∀ (τ : Ty) (A : List Box),ACalls Tryz.prog 249 [.agg (enc σ),.agg (enc τ)] A (fun r A'=>r = .bool (decide (σ = τ)) ∧ A' = A):=by
  induction σ using Ty.ind with
  | h k m n ks ih =>
    rintro ⟨k',m',n',ks'⟩ A
    obtain ⟨hm,hn,hks,hok⟩:=hσ
    rw [enc,enc]
    by_cases h1 : k = k'
    · by_cases h2 : m = m'
      · by_cases h3 : n = n'
        · by_cases h4 : ks.length = ks'.length
          · have g1 : decide (k = k') = true:=decide_eq_true h1
            have g2 : decide (m = m') = true:=decide_eq_true h2
            have g3 : decide (n = n') = true:=decide_eq_true h3
            have g4 : decide (((ks.length : Nat) : Int) = (ks'.length : Nat)) = true:=decide_eq_true (by omega)
            refine acalls_enter (cf:=cf 53 [0,1,2,3,4,5,33,38,52]) foll Tryz.func249 Tryz.ntmps249 (by simp [cf]) ?_
            simp only [Tryz.f249,EnterK_some,zW,zX,zD,builtinA,isLeaf,const1,ustrA,simprocAttr,ti3,ti9,ti34,ti36,ca249,cf,Tryz.results249]
            simp only [zW,zX,zD,builtinA,isLeaf,const1,ustrA,simprocAttr,ti3,ti9,ti34,ti36,ca249,cf,Tryz.results249,g1,g2,g3,g4,encs_length,Bool.not_true]
            refine aloop_intro [2,3,5] (fun e A'=>∃ i,i ≤ ks.length ∧ e = [(2,.ptr A.length 0),(3,.ptr (A.length + 1) 0),(5,.int .i64 i)] ∧ A' = A ++ [.cells [.int .i64 k,.str m,.str n,.slice (encs ks)],.cells [.int .i64 k',.str m',.str n',.slice (encs ks')]] ∧ ∀ j,j < i → ks.getD j ty0 = ks'.getD j ty0) (fun e _=>ks.length - (intOf (Abs.look 5 e)).toNat) ?_ ?_
            · simp only [zW,zX,zD,builtinA,isLeaf,const1,ustrA,simprocAttr,ti3,ti9,ti34,ti36,ca249,cf,Tryz.results249]
              exact ⟨0,by omega,rfl,by simp⟩
            · rintro e A' ⟨i,hi,rfl,rfl,heq⟩
              have hl' : (encs ks').length = ks.length:=(encs_length _).trans h4.symm
              by_cases hlt : i < ks.length
              · have hlt1 : decide (((i : Nat) : Int) < (ks.length : Nat)) = true:=decide_eq_true (by omega)
                have he:=encs_getD hlt
                have he':=encs_getD (show i < ks'.length by omega)
                have hm:=getD_mem hlt
                have hi1 : IntKind.i64.wrap ((i : Int) + 1) = ((i + 1 : Nat) : Int):=by rw [wrap64 (by omega) (by omega)]; rfl
                simp only [zW,zX,zD,builtinA,isLeaf,const1,ustrA,simprocAttr,ti3,ti9,ti34,ti36,ca249,cf,Tryz.results249,hlt1,he,he',hl',enc_length,enc_take,encs_length]
                refine .inl ⟨by kernel_rfl,by kernel_rfl,⟨by omega,by omega⟩,⟨by omega,by omega⟩,?_⟩
                refine callD_intro (by simp only [zW,zX,zD,builtinA,isLeaf,const1,ustrA,simprocAttr,frzL_enc,Option.map_some] <;> rfl) (ih _ hm (hok _ hm) (ks'.getD i ty0) _) ?_ rfl
                by_cases hq : ks.getD i ty0 = ks'.getD i ty0
                · simp only [zW,zX,zD,builtinA,isLeaf,const1,ustrA,simprocAttr,ti3,ti9,ti34,ti36,ca249,cf,Tryz.results249,decide_eq_true hq,Bool.not_true,hi1,LoopK_eq]
                  refine ⟨⟨i + 1,by omega,rfl,fun j hj=>?_⟩,?_⟩
                  · rcases Nat.lt_or_ge j i with h | h
                    · exact heq j h
                    · obtain rfl : j = i:=by omega
                      exact hq
                  · simp only [intOf]
                    omega
                · have hd : decide (Ty.mk k m n ks = Ty.mk k' m' n' ks') = false:=decide_eq_false (fun e=>by injection e with _ _ _ e; exact hq (by rw [e]))
                  rw [hd]
                  simp only [zW,zX,zD,builtinA,isLeaf,const1,ustrA,simprocAttr,ti3,ti9,ti34,ti36,ca249,cf,Tryz.results249,decide_eq_false hq,Bool.not_false]
              · have hlt1 : decide (((i : Nat) : Int) < (ks.length : Nat)) = false:=decide_eq_false (by omega)
                have : ks = ks':=take_eq_all h4 fun j hj=>heq j (by omega)
                have hd : decide (Ty.mk k m n ks = Ty.mk k' m' n' ks') = true:=decide_eq_true (by rw [h1,h2,h3,this])
                simp only [zW,zX,zD,builtinA,isLeaf,const1,ustrA,simprocAttr,ti3,ti9,ti34,ti36,ca249,cf,Tryz.results249,hlt1,hl',encs_length]
                rw [hd]
          · have hd : decide (Ty.mk k m n ks = Ty.mk k' m' n' ks') = false:=decide_eq_false (fun e=>by injection e with _ _ _ e; exact h4 (congrArg _ e))
            rw [hd]
            refine acalls_enter (cf:=cf 53 [0,1,2,3,4,5,33,38,52]) foll Tryz.func249 Tryz.ntmps249 (by simp [cf]) ?_
            simp only [Tryz.f249,EnterK_some,zW,zX,zD,builtinA,isLeaf,const1,ustrA,simprocAttr,ti3,ti9,ti34,ti36,ca249,cf,Tryz.results249]
            simp only [zW,zX,zD,builtinA,isLeaf,const1,ustrA,simprocAttr,ti3,ti9,ti34,ti36,ca249,cf,Tryz.results249,decide_eq_true h1,decide_eq_true h2,decide_eq_true h3,(decide_eq_false (by omega) : decide (((ks.length : Nat) : Int) = (ks'.length : Nat)) = false),encs_length,Bool.not_true,Bool.not_false]
        · have hd : decide (Ty.mk k m n ks = Ty.mk k' m' n' ks') = false:=decide_eq_false (fun e=>by injection e with _ _ e _; exact h3 e)
          rw [hd]
          refine acalls_enter (cf:=cf 53 [0,1,2,3,4,5,33,38,52]) foll Tryz.func249 Tryz.ntmps249 (by simp [cf]) ?_
          simp only [Tryz.f249,EnterK_some,zW,zX,zD,builtinA,isLeaf,const1,ustrA,simprocAttr,ti3,ti9,ti34,ti36,ca249,cf,Tryz.results249]
          simp only [zW,zX,zD,builtinA,isLeaf,const1,ustrA,simprocAttr,ti3,ti9,ti34,ti36,ca249,cf,Tryz.results249,decide_eq_true h1,decide_eq_true h2,decide_eq_false h3,Bool.not_true,Bool.not_false]
      · have hd : decide (Ty.mk k m n ks = Ty.mk k' m' n' ks') = false:=decide_eq_false (fun e=>by injection e with _ e _ _; exact h2 e)
        rw [hd]
        refine acalls_enter (cf:=cf 53 [0,1,2,3,4,5,33,38,52]) foll Tryz.func249 Tryz.ntmps249 (by simp [cf]) ?_
        simp only [Tryz.f249,EnterK_some,zW,zX,zD,builtinA,isLeaf,const1,ustrA,simprocAttr,ti3,ti9,ti34,ti36,ca249,cf,Tryz.results249]
        simp only [zW,zX,zD,builtinA,isLeaf,const1,ustrA,simprocAttr,ti3,ti9,ti34,ti36,ca249,cf,Tryz.results249,decide_eq_true h1,decide_eq_false h2,Bool.not_true,Bool.not_false]
    · have hd : decide (Ty.mk k m n ks = Ty.mk k' m' n' ks') = false:=decide_eq_false (fun e=>by injection e with e _ _ _; exact h1 e)
      rw [hd]
      refine acalls_enter (cf:=cf 53 [0,1,2,3,4,5,33,38,52]) foll Tryz.func249 Tryz.ntmps249 (by simp [cf]) ?_
      simp only [Tryz.f249,EnterK_some,zW,zX,zD,builtinA,isLeaf,const1,ustrA,simprocAttr,ti3,ti9,ti34,ti36,ca249,cf,Tryz.results249]
      simp only [zW,zX,zD,builtinA,isLeaf,const1,ustrA,simprocAttr,ti3,ti9,ti34,ti36,ca249,cf,Tryz.results249,decide_eq_false h1,Bool.not_true,Bool.not_false]
end Go.Proofs.YtnjdbgiincliaaaGreat
