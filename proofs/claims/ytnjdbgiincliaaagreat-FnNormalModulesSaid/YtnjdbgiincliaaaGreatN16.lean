/- SortK, ModsD, ModsI, KeysLay, LawTy, Nams, ModsJ, ModsS, OwnNs, HasM. -/
import Derived.Test.YtnjdbgiincliaaaGreatN15
import Derived.Test.YtnjdbgiincliaaaGreatAbsW3
import Derived.Shelf.SlIter.Nil
import Derived.StringKeys
import Derived.WideShapes
import Derived.Shelf.SortM.Plain
import Derived.Shelf.SortM.SortNone
/- The sorted keys of a map, on abstract runs. -/
set_option linter.unusedVariables false
set_option linter.unusedSimpArgs false
namespace Go.Abs
open Go.RowKit Go.Maps
def srt (ks : List (List UInt8)) : List (List UInt8):=ks.mergeSort (fun x y=>decide (x ≤ y))
def setK (ks : List (List UInt8)) : List (AV × AV):=ks.map fun q=>(.str q,.bool true)
theorem Kept.of_below {w w' : World} (h : Below w.heap.size w w') : Kept (fun _=>False) w w':=⟨h.os,h.tape,h.output,h.size,fun b hb _=>h.block b hb⟩
theorem HRel.grown {G : Ghost} {A : List Box} {w w' : World} {base : Nat} (h : HRel G A w base) (hk : Kept (fun _=>False) w w') : HRel G A w' base ∧ Ext G w G w':=by
  have e : Ext G w G w':=⟨Nat.le_refl _,fun _ _ x=>x,fun x o hx=>cell?_congr (hk.block x (h.imm x o hx) (fun f=>f)) o,fun _ _=>⟨rfl,rfl,rfl,rfl,rfl⟩,fun x o hx f=>hk.fz (h.imm x o hx) (fun f=>f) f⟩
  exact ⟨⟨h.n,fun i hi=>by
      by_cases hl : (A.getD i .dead).live = true
      · exact (h.box i hi).mono e (by rw [h.n]; exact hi) (fun li=>hk.block _ (h.bnd i hi li).2 (fun f=>f)) (fun _ _ x=>x)
      · exact (h.box i hi).mono e (by rw [h.n]; exact hi) (fun li=>absurd li hl) (fun _ _ x=>x),
    h.sep,fun i hi li=>⟨(h.bnd i hi li).1,Nat.lt_of_lt_of_le (h.bnd i hi li).2 hk.size⟩,fun b o x=>Nat.lt_of_lt_of_le (h.imm b o x) hk.size,Nat.le_trans h.low hk.size,h.gv.block fun b hb=>hk.block b (by have:=h.low; omega) (fun f=>f)⟩,e⟩
theorem HRel.pushAt {G : Ghost} {A : List Box} {w w' : World} {base g : Nat} (h : HRel G A w base) (bx : Box) (off len cap sz : Nat)
    (hk : Kept (fun _=>False) w w') (hg : w.heap.size ≤ g) (hs : g < w'.heap.size)
    (hb : Ext G w (G.add g off len cap sz) w' → BoxOk (G.add g off len cap sz) w' G.n bx) :
    HRel (G.add g off len cap sz) (A ++ [bx]) w' base ∧ Ext G w (G.add g off len cap sz) w':=by
  have e : Ext G w (G.add g off len cap sz) w':=Ghost.add_ext _ _ _ _ _ (fun x o hx=>cell?_congr (hk.block x (h.imm x o hx) (fun f=>f)) o) fun x o hx f=>hk.fz (h.imm x o hx) (fun f=>f) f
  have hn:=h.n
  have hblk : ∀ i,i < A.length → (G.add g off len cap sz).blk i = G.blk i:=fun i hi=>(e.ids i (by omega)).1
  have hnew : (G.add g off len cap sz).blk A.length = g:=by simp [Ghost.add,hn]
  refine ⟨⟨by simp [Ghost.add,hn],fun i hi=>?_,fun i j hi hj hne li lj=>?_,fun i hi li=>?_,fun b o x=>Nat.lt_of_lt_of_le (h.imm b o x) hk.size,Nat.le_trans h.low hk.size,h.gv.block fun b hb=>hk.block b (by have:=h.low; omega) (fun f=>f)⟩,e⟩
  · simp only [List.length_append,List.length_singleton] at hi
    by_cases hlt : i < A.length
    · rw [getD_append_left hlt]
      exact (h.box i hlt).mono e (by omega) (fun li=>hk.block _ (h.bnd i hlt li).2 (fun f=>f)) (fun _ _ x=>x)
    · obtain rfl : i = A.length:=by omega
      have : (A ++ [bx]).getD A.length Box.dead = bx:=by simp [List.getD]
      rw [this,← hn]; exact hb e
  · simp only [List.length_append,List.length_singleton] at hi hj
    by_cases hil : i < A.length
    · rw [getD_append_left hil] at li
      by_cases hjl : j < A.length
      · rw [getD_append_left hjl] at lj
        rw [hblk i hil,hblk j hjl]; exact h.sep i j hil hjl hne li lj
      · obtain rfl : j = A.length:=by omega
        rw [hblk i hil,hnew]; have:=(h.bnd i hil li).2; omega
    · obtain rfl : i = A.length:=by omega
      have hjl : j < A.length:=by omega
      rw [getD_append_left hjl] at lj
      rw [hblk j hjl,hnew]; have:=(h.bnd j hjl lj).2; omega
  · simp only [List.length_append,List.length_singleton] at hi
    by_cases hil : i < A.length
    · rw [getD_append_left hil] at li
      rw [hblk i hil]; have:=h.bnd i hil li; exact ⟨this.1,Nat.lt_of_lt_of_le this.2 hk.size⟩
    · obtain rfl : i = A.length:=by omega
      rw [hnew]; exact ⟨Nat.le_trans h.low hg,hs⟩
def setR : Value → Option (DataW Unit × List MemPlace):=fun _=>some (.lit (.bool true),[])
theorem set_owns {P : Program} {K : TypeId} (hK : P.underlying K = some .string) {G : Ghost} {A : List Box} {w : World} {base i : Nat} {ks : List (List UInt8)} (hn : ks.Nodup) (hl : ks.length ≤ 1000) (hq : ∀ q ∈ ks,q.length ≤ 1000)
    (h : HRel G A w base) (hi : i < G.n) (hA : A.getD i .dead = .mapb (setK ks)) :
    ∃ D : DataW Unit,w.ownsMap P K setR (G.blk i) ks.length D ∧ (strKeys D).Perm ks ∧ Maps.size D = ks.length:=by
  obtain ⟨m,cl,g1,g2,g3,g4⟩:=mapAt h hi hA
  have hml : m.toList.length = ks.length:=by have:=g2.1; simpa [setK] using this
  have hkey : ∀ j (hj : j < ks.length),(m.toList.getD j default).key = Go.Proofs.encStr (ks.getD j []):=fun j hj=>by
    have h1:=(g2.2 j (by simpa [setK] using hj)).1
    have e : ((setK ks).getD j (.bot,.bot)).1 = .str (ks.getD j []):=by simp [setK,List.getD,hj]
    rw [e] at h1
    generalize (m.toList.getD j default).key = v at *
    cases h1
    rfl
  have hkeys : m.toList.map (·.key) = ks.map Go.Proofs.encStr:=by
    refine List.ext_getElem (by simpa using hml) fun j h1 h2=>?_
    have hj : j < ks.length:=by simpa using h2
    have hjm : j < m.toList.length:=by omega
    have:=hkey j hj
    simp only [List.getD,List.getElem?_eq_getElem hjm,List.getElem?_eq_getElem hj,Option.getD_some] at this
    simpa using this
  have hrd : ∀ x ∈ m.toList,∃ q ∈ ks,Go.WideElems.rd P K setR x = some (.string q,.lit (.bool true)) ∧ x.key = Go.Proofs.encStr q:=fun x hx=>by
    have : x.key ∈ m.toList.map (·.key):=List.mem_map.2 ⟨x,hx,rfl⟩
    rw [hkeys] at this
    obtain ⟨q,hq1,e⟩:=List.mem_map.1 this
    refine ⟨q,hq1,?_,e.symm⟩
    have hkk : keyOf P K x.key = some (.string q):=by
      rw [← e]
      have hs : (ByteArray.mk q.toArray).size ≤ maxLen:=by
        have:=hq q hq1
        show q.toArray.size ≤ maxLen
        have hm : maxLen = 2 ^ 63 - 1:=rfl
        simp; omega
      have:=Go.WideMaps.keyOf_string_mk (P:=P) (k:=K) hK hs
      simpa [Go.Proofs.encStr] using this
    simp [Go.WideElems.rd,hkk,setR]
  have hnd : (m.toList.map (·.key)).Nodup:=by
    rw [hkeys]
    exact List.Pairwise.map _ (fun a b hne e=>hne (encStr_inj e)) hn
  have F : Go.WideElems.Fit P K setR m cl := ⟨by have hm : maxLen = 2 ^ 63 - 1 := rfl; have : m.size = ks.length := by simpa using hml
                                                 omega,⟨g4.1,g4.2,hnd⟩,fun x hx=>by obtain ⟨q,_,h,_⟩:=hrd x hx; exact ⟨_,h⟩⟩
  have hms : m.size = ks.length:=by simpa using hml
  refine ⟨_,⟨m,cl,g1,F,by omega,rfl⟩,?_,?_⟩
  · have hp:=Go.WideShapes.sorted_perm (m.toList.map (Go.WideElems.rg P K setR))
    have hx : (m.toList.map (Go.WideElems.rg P K setR)).map (fun p=>strOf p.1) = ks:=by
      have e1 : (m.toList.map (Go.WideElems.rg P K setR)).map (fun p=>strOf p.1) = (m.toList.map (·.key)).map (fun v=>match v with | .string s=>s.data.toList | _=>[]):=by
        rw [List.map_map,List.map_map]
        refine List.map_congr_left fun x hx=>?_
        obtain ⟨q,_,h1,h2⟩:=hrd x hx
        simp only [Function.comp,Go.WideElems.rg_of h1,h2]
        simp [Go.Proofs.encStr,strOf]
      rw [e1,hkeys,List.map_map]
      conv=>rhs; rw [← List.map_id ks]
      refine List.map_congr_left fun q _=>?_
      simp [Go.Proofs.encStr]
    have:=hp.map (fun p=>strOf p.1)
    rw [hx] at this
    exact this
  · show (List.foldr DataW.insert [] _).length = _
    rw [length_sorted]; simp [hms]
theorem sorted_of {P : Program} {f K : Nat} (hK : P.underlying K = some .string)
    (hS : ∀ (b nn : Nat) (D0 : DataW Unit) (R : Value → Option (DataW Unit × List MemPlace)) (w : World),w.ownsMap P K R b nn D0 → Maps.size D0 ≤ maxLen → Maps.size D0 * 16 ≤ 140737488355328 →
      Calls P f #[.map (some b)] w fun e w'=>∃ (v : Value) (ss : List (List UInt8)),e = .returned v ∧ ss.Perm (strKeys D0) ∧ w'.ownsRow w.heap.size K 1 v ss.length ((ss.mergeSort (fun x y=>decide (x ≤ y))).map Go.Proofs.encStr) ∧ (v = .slice none 0 0 ↔ ss = []) ∧ Below w.heap.size w w')
    (i : Nat) (ks : List (List UInt8)) (hn : ks.Nodup) (hl : ks.length ≤ 1000) (hq : ∀ q ∈ ks,q.length ≤ 1000) (A : List Box) (hA : A.getD i .dead = .mapb (setK ks)) :
    ACalls P f [.map i] A (fun r A'=>(ks = [] ∧ r = .nils ∧ A' = A) ∨ (ks ≠ [] ∧ r = .own A.length ∧ A' = A ++ [.row 1 ((srt ks).map fun s=>[AV.str s]) 0])):=by
  intro G w base xs hH hx
  obtain ⟨v,hxs,hv⟩:=hx.one
  obtain ⟨xl⟩:=xs
  simp only at hxs
  subst hxs
  cases hv with
  | map i hi =>
    obtain ⟨D,hD,hp,hsz⟩:=set_owns hK hn hl hq hH hi hA
    have hm : maxLen = 2 ^ 63 - 1:=rfl
    refine (hS (G.blk i) ks.length D setR w hD (by omega) (by omega)).mono ?_
    rintro e w' ⟨v,ss,rfl,hperm,hrow,hnil,hb⟩
    have hpk:=hperm.trans hp
    have hk:=Kept.of_below hb
    have hbb : Below base w w':=hk.below (fun b f=>f.elim) hH.low
    rcases hrow.2 with ⟨rfl,hz⟩ | ⟨g,cap,cur,rfl,hbase,hgb,r1,r2,r3,r4⟩
    · have hss:=hnil.1 rfl
      subst hss
      have hks : ks = []:=hpk.symm.eq_nil
      obtain ⟨q1,q2⟩:=hH.grown hk
      exact ⟨_,.nils,A,G,rfl,.inl ⟨hks,rfl,rfl⟩,.nils,q1,q2,hbb⟩
    · have hsn : ss ≠ []:=fun e=>by
        have:=hnil.2 e
        cases this
      have hkn : ks ≠ []:=fun e=>hsn (by rw [e] at hpk; exact hpk.eq_nil)
      have hsrt : ss.mergeSort (fun x y=>decide (x ≤ y)) = srt ks:=mergeSort_of_perm hpk
      have hlen : ss.length = ks.length:=hpk.length_eq
      have hsl : (srt ks).length = ks.length:=by simp [srt]
      rw [hsrt] at r4
      have hgl : g < w'.heap.size:=(Array.getElem?_eq_some_iff.1 hgb).1
      have hp:=hH.pushAt (g:=g) (.row 1 ((srt ks).map fun s=>[AV.str s]) 0) 0 ss.length cap 1 hk hbase hgl fun e'=>by
        have hb' : (G.add g 0 ss.length cap 1).blk G.n = g:=by simp [Ghost.add]
        have ho : (G.add g 0 ss.length cap 1).off G.n = 0:=by simp [Ghost.add]
        have hcp : (G.add g 0 ss.length cap 1).cap G.n = cap:=by simp [Ghost.add]
        refine ⟨cur,K,by rw [hb']; exact hgb,trivial,by simp [Ghost.add,hsl,hlen],by rw [hcp]; simp [hsl]; omega,by simp [Ghost.add],by rw [ho,hcp]; omega,Nat.zero_le _,fun r hr=>?_,fun k j hk' hj=>?_,fun o _ hh=>?_⟩
        · obtain ⟨s,_,rfl⟩:=List.mem_map.1 hr
          exact ⟨rfl,fun v hv=>by rw [List.mem_singleton.1 hv]; rfl⟩
        · obtain rfl : j = 0:=by omega
          have hk2 : k < (srt ks).length:=by simpa using hk'
          have e1 : rowAt ((srt ks).map fun s=>[AV.str s]) k 0 = .str ((srt ks).getD k []):=by simp [rowAt,List.getD,hk2]
          have e2 : cur.getD (0 + (k * 1 + 0)) undef = Go.Proofs.encStr ((srt ks).getD k []):=by
            have h1 : (cur.toList.take (ss.length * 1))[k]? = ((srt ks).map Go.Proofs.encStr)[k]?:=by rw [r4]
            rw [List.getElem?_take_of_lt (by omega),Array.getElem?_toList,List.getElem?_map,List.getElem?_eq_getElem hk2] at h1
            simp only [Nat.mul_one,Nat.add_zero,Nat.zero_add,Array.getD_eq_getD_getElem?,h1]
            simp [List.getD,hk2]
          rw [ho,e1,e2]
          exact .str _
        · rw [hb'] at hh
          exact absurd (hH.imm _ _ hh) (by omega)
      refine ⟨_,.own A.length,_,_,rfl,.inr ⟨hkn,rfl,rfl⟩,?_,hp.1,hp.2,hbb⟩
      have:=RV.own (G:=G.add g 0 ss.length cap 1) (w:=w') A.length (by simp [Ghost.add,hH.n])
      simpa [Ghost.add,hH.n] using this
end Go.Abs
/- Sets of modules as data: what was collected, and the flags of letters. -/
set_option linter.unusedVariables false
set_option linter.unusedSimpArgs false
namespace Go.Abs
open Go
def insM (ks : List (List UInt8)) (q : List UInt8) : List (List UInt8):=if q = [] then ks else if q ∈ ks then ks else ks ++ [q]
theorem insM_nodup {ks : List (List UInt8)} (h : ks.Nodup) (q : List UInt8) : (insM ks q).Nodup:=by
  unfold insM
  split
  · exact h
  · split
    · exact h
    · rename_i h1 h2
      exact List.nodup_append.2 ⟨h,by simp,fun a ha b hb e=>h2 (by rw [List.mem_singleton.1 hb] at e; rwa [e] at ha)⟩
theorem insM_mem {ks : List (List UInt8)} {q x : List UInt8} : x ∈ insM ks q ↔ x ∈ ks ∨ (x = q ∧ q ≠ []):=by
  unfold insM
  split
  · rename_i h; simp [h]
  · rename_i h
    split
    · rename_i h2
      constructor
      · exact .inl
      · rintro (hx | ⟨rfl,_⟩)
        · exact hx
        · exact h2
    · simp [h]
theorem insM_len (ks : List (List UInt8)) (q : List UInt8) : (insM ks q).length ≤ ks.length + 1:=by
  unfold insM; split
  · omega
  · split
    · omega
    · simp
def insMs (ks : List (List UInt8)) (qs : List (List UInt8)) : List (List UInt8):=qs.foldl insM ks
theorem insMs_nodup : ∀ (qs : List (List UInt8)) {ks : List (List UInt8)},ks.Nodup → (insMs ks qs).Nodup
  | [],_,h=>h
  | q :: qs,_,h=>insMs_nodup qs (insM_nodup h q)
theorem insMs_mem : ∀ (qs ks : List (List UInt8)) (x : List UInt8),x ∈ insMs ks qs ↔ x ∈ ks ∨ (x ∈ qs ∧ x ≠ [])
  | [],ks,x=>by simp [insMs]
  | q :: qs,ks,x=>by
    have h:=insMs_mem qs (insM ks q) x
    have e : insMs ks (q :: qs) = insMs (insM ks q) qs:=rfl
    rw [e,h,insM_mem,List.mem_cons]
    constructor
    · rintro ((h | ⟨rfl,h⟩) | ⟨h1,h2⟩)
      · exact .inl h
      · exact .inr ⟨.inl rfl,h⟩
      · exact .inr ⟨.inr h1,h2⟩
    · rintro (h | ⟨rfl | h1,h2⟩)
      · exact .inl (.inl h)
      · exact .inl (.inr ⟨rfl,h2⟩)
      · exact .inr ⟨h1,h2⟩
theorem insMs_app (ks qs rs : List (List UInt8)) : insMs ks (qs ++ rs) = insMs (insMs ks qs) rs:=List.foldl_append
theorem insMs_len : ∀ (qs ks : List (List UInt8)),(insMs ks qs).length ≤ ks.length + qs.length
  | [],ks=>by simp [insMs]
  | q :: qs,ks=>by
    have h:=insMs_len qs (insM ks q)
    have h2:=insM_len ks q
    have e : insMs ks (q :: qs) = insMs (insM ks q) qs:=rfl
    rw [e,List.length_cons]; omega
def letJ (j : Nat) : List UInt8:=[UInt8.ofNat (65 + j)]
def isLet (q : List UInt8) : Prop:=∃ j,j < 26 ∧ q = letJ j
end Go.Abs
/- The program's collecting of modules. -/
set_option linter.unusedVariables false
set_option linter.unusedSimpArgs false
namespace Go.Proofs.YtnjdbgiincliaaaGreat
open Go.Abs
theorem find_set (q : List UInt8) : ∀ (ks : List (List UInt8)) (n : Nat),(q ∉ ks → findS q (setK ks) n = some none) ∧ (q ∈ ks → ∃ j,findS q (setK ks) n = some (some (n + j,.bool true)) ∧ ks[j]? = some q)
  | [],n=>⟨fun _=>rfl,fun h=>by cases h⟩
  | p :: ks,n=>by
    obtain ⟨h1,h2⟩:=find_set q ks (n + 1)
    simp only [setK,List.map_cons,findS] at h1 h2 ⊢
    by_cases h : q = p
    · rw [if_pos h]
      exact ⟨fun hn=>absurd (by rw [h]; exact .head _) hn,fun _=>⟨0,rfl,by rw [h]; rfl⟩⟩
    · rw [if_neg h]
      refine ⟨fun hn=>h1 fun hm=>hn (.tail _ hm),fun hm=>?_⟩
      obtain ⟨j,e1,e2⟩:=h2 (by rcases List.mem_cons.1 hm with e | e; exact absurd e h; exact e)
      exact ⟨j + 1,by rw [e1]; simp; omega,by simpa using e2⟩
theorem upd_set {q : List UInt8} (ks : List (List UInt8)) (hq : q ≠ []) : ∃ r,findS q (setK ks) 0 = some r ∧ updS r q (.bool true) (setK ks) = setK (insM ks q):=by
  obtain ⟨h1,h2⟩:=find_set q ks 0
  unfold insM
  rw [if_neg hq]
  by_cases h : q ∈ ks
  · obtain ⟨j,e1,e2⟩:=h2 h
    refine ⟨_,e1,?_⟩
    rw [if_pos h]
    simp only [updS,Nat.zero_add]
    refine List.ext_getElem? fun k=>?_
    by_cases hk : j = k
    · subst hk
      obtain ⟨hj,e3⟩:=List.getElem?_eq_some_iff.1 e2
      simp [setK,List.getElem?_set,hj,e3]
    · rw [List.getElem?_set_ne hk]
  · refine ⟨_,h1 h,?_⟩
    rw [if_neg h]
    simp [updS,setK]
theorem setK_closed (n : Nat) (ks : List (List UInt8)) : boxClosed n (.mapb (setK ks)) = true:=by
  simp only [boxClosed,setK,List.all_map,List.all_eq_true]
  intro q hq
  rfl
def MS (i : Nat) (ks : List (List UInt8)) (A : List Box) : Prop:=A.getD i .dead = .mapb (setK ks) ∧ i < A.length
theorem MS.app {i : Nat} {ks : List (List UInt8)} {A : List Box} (h : MS i ks A) (B : List Box) : MS i ks (A ++ B):=⟨by rw [Abs.getD_append_left h.2]; exact h.1,by have:=h.2; simp; omega⟩
def cM (i : Nat) : AV:=.func (.func 93) [.map i] []
set_option maxRecDepth 100000 in
theorem vis_mod (i : Nat) (ks : List (List UInt8)) (q : List UInt8) (A : List Box) (h : MS i ks A) : ACalls Tryz.prog 183 [.map i,.str q] A (fun _ A'=>MS i (insM ks q) A' ∧ FrK i A A'):=by
  obtain ⟨h1,h2⟩:=h
  by_cases hq : q = []
  · have e : insM ks q = ks:=by rw [insM,if_pos hq]
    rw [e]
    refine acalls_enter (cf:=cf 8 [0,1,5]) foll Tryz.func183 Tryz.ntmps183 (by simp [cf]) ?_
    simp only [Tryz.f183,EnterK_some,zW,zX,zD,builtinA,isLeaf,const1,ustrA,simprocAttr,ti9,ti144,mi144,cf,Tryz.results183]
    simp only [zW,zX,zD,builtinA,isLeaf,const1,ustrA,simprocAttr,ti9,ti144,mi144,cf,Tryz.results183,decide_eq_true hq]
    exact ⟨⟨h1,h2⟩,FrK.refl _ _⟩
  · obtain ⟨r,f1,f2⟩:=upd_set ks hq
    have hfin : MS i (insM ks q) (A.set i (.mapb (setK (insM ks q)))) ∧ FrK i A (A.set i (.mapb (setK (insM ks q)))) :=
      ⟨⟨getD_set_self h2,by simpa using h2⟩,by simp,fun k hk hne=>getD_set_ne' (Ne.symm hne)⟩
    refine acalls_enter (cf:=cf 8 [0,1,5]) foll Tryz.func183 Tryz.ntmps183 (by simp [cf]) ?_
    simp only [Tryz.f183,EnterK_some,zW,zX,zD,builtinA,isLeaf,const1,ustrA,simprocAttr,ti9,ti144,mi144,cf,Tryz.results183]
    simp only [zW,zX,zD,builtinA,isLeaf,const1,ustrA,simprocAttr,ti9,ti144,mi144,cf,Tryz.results183,decide_eq_false hq,h1,f1,f2]
    exact ⟨outer_set0 A i _ (setK_closed _ _),hfin⟩
set_option maxRecDepth 100000 in
theorem vis_mty (i : Nat) (ks : List (List UInt8)) (m n : List UInt8) (A : List Box) (h : MS i ks A) : ACalls Tryz.prog 93 [.map i,.agg [.str m,.str n]] A (fun _ A'=>MS i (insM ks m) A' ∧ FrK i A A'):=by
  have hv:=vis_mod i ks m (A ++ [.cells [.str m,.str n]]) (h.app _)
  refine acalls_enterK (cf:=cf 8 [0,1,3]) foll Tryz.func93 Tryz.ntmps93 (by simp [cf]) ?_
  simp only [Tryz.f93,EnterK_some,zW,zX,zD,builtinA,isLeaf,const1,ustrA,simprocAttr,ti9,ti180,ca183,cf,Tryz.results93]
  refine callO_intro hv ?_
  rintro r A' ⟨h1,f1⟩
  simp only [zW,zX,zD,builtinA,isLeaf,const1,ustrA,simprocAttr,ti9,ti180,ca183,cf,Tryz.results93]
  exact ⟨h1,(FrK.app _ _ _).trans f1⟩
def mdV : VT → List (List UInt8)
  | .num=>[]
  | .nm m _=>[m]
  | .fn a b=>mdV a ++ mdV b
def mdI : VI → List (List UInt8)
  | .ab _=>[]
  | .al _ v=>mdV v
  | .va _ v=>mdV v
def EaM (v : VT) : Prop:=∀ (i : Nat) (ks : List (List UInt8)) (A : List Box),MS i ks A → ACalls Tryz.prog ((pickF 429 436 358) v) [vX v,cM i] A (fun _ A'=>MS i (insMs ks (mdV v)) A' ∧ FrK i A A')
set_option maxRecDepth 100000 in
theorem num_ea : EaM .num:=fun i ks A h=>by
  show ACalls Tryz.prog 429 _ _ _
  rw [vX]
  refine acalls_enterK (cf:=cf 4 [0]) foll Tryz.func429 Tryz.ntmps429 (by simp [cf]) ?_
  simp only [Tryz.f429,EnterK_some,zW,zX,zD,builtinA,isLeaf,const1,ustrA,simprocAttr,ti369,cf,Tryz.results429]
  exact ⟨h.app _,FrK.app _ _ _⟩
set_option maxRecDepth 100000 in
theorem name_ea (m k : List UInt8) : EaM (.nm m k):=fun i ks A h=>by
  show ACalls Tryz.prog 358 _ _ _
  rw [vX,cM]
  refine acalls_enterK (cf:=cf 7 [0,1,2]) foll Tryz.func358 Tryz.ntmps358 (by simp [cf]) ?_
  simp only [Tryz.f358,EnterK_some,zW,zX,zD,builtinA,isLeaf,const1,ustrA,simprocAttr,ti180,cf,Tryz.results358]
  refine wpO_callv _ _ _ _ _ _ _ _ _ _ _ _ _ _ _ ?_
  simp only [zW,zX,zD,builtinA,isLeaf,const1,ustrA,simprocAttr,ti180,cf,Tryz.results358]
  refine ⟨by kernel_rfl,?_⟩
  refine callK_intro (by simp only [zW,zX,zD,builtinA,isLeaf,const1,ustrA,simprocAttr,List.nil_append,List.append_nil,List.cons_append] <;> rfl) (vis_mty i ks m k _ (h.app _)) ?_ rfl
  rintro r A' ⟨h1,h2⟩
  simp only [zW,zX,zD,builtinA,isLeaf,const1,ustrA,simprocAttr,ti180,cf,Tryz.results358]
  exact ⟨h1,(FrK.app _ _ _).trans h2⟩
set_option maxRecDepth 100000 in
theorem fun_ea (a b : VT) (ha : EaM a) (hb : EaM b) : EaM (.fn a b):=fun i ks A h=>by
  show ACalls Tryz.prog 436 _ _ _
  have hlt:=h.2
  have hbx : ∀ A',FrK i (A ++ [Box.cells [.iface (vT a) (vX a),.iface (vT b) (vX b)]]) A' → A'.getD A.length .dead = .cells [.iface (vT a) (vX a),.iface (vT b) (vX b)]:=fun A' hf=>by
    rw [hf.2 _ (by simp) (by omega),Abs.getD_append_right (Nat.le_refl _),Nat.sub_self]; rfl
  have ha':=fun ks A h=>ha i ks A h
  have hb':=fun ks A h=>hb i ks A h
  rw [vX]
  simp only [cM] at ha' hb' ⊢
  refine acalls_enterK (cf:=cf 12 [0,1,2]) foll Tryz.func436 Tryz.ntmps436 (by simp [cf]) ?_
  simp only [Tryz.f436,EnterK_some,zW,zX,zD,builtinA,isLeaf,const1,ustrA,simprocAttr,ti175,ti422,cf,Tryz.results436]
  refine wpO_invoke _ _ _ _ _ _ _ _ _ _ _ _ _ _ _ _ ?_
  simp only [zW,zX,zD,builtinA,isLeaf,const1,ustrA,simprocAttr,ti175,ti422,cf,Tryz.results436]
  refine meth_invK (met3 (by kernel_rfl) (by kernel_rfl) (by kernel_rfl) (by kernel_rfl) (by kernel_rfl) (by kernel_rfl)) (ha' ks _ (h.app _)) rfl (fun _=>rfl) ?_
  rintro r A1 ⟨h1,f1⟩
  have b1:=hbx _ f1
  simp only [zW,zX,zD,builtinA,isLeaf,const1,ustrA,simprocAttr,ti175,ti422,cf,Tryz.results436,b1]
  refine wpO_invoke _ _ _ _ _ _ _ _ _ _ _ _ _ _ _ _ ?_
  simp only [zW,zX,zD,builtinA,isLeaf,const1,ustrA,simprocAttr,ti175,ti422,cf,Tryz.results436]
  refine meth_invK (met3 (by kernel_rfl) (by kernel_rfl) (by kernel_rfl) (by kernel_rfl) (by kernel_rfl) (by kernel_rfl)) (hb' _ _ h1) rfl (fun _=>rfl) ?_
  rintro r A2 ⟨h2,f2⟩
  simp only [zW,zX,zD,builtinA,isLeaf,const1,ustrA,simprocAttr,ti175,ti422,cf,Tryz.results436]
  simp only [mdV]
  rw [insMs_app]
  exact ⟨h2,(FrK.app _ _ _).trans (f1.trans f2)⟩
theorem ea : ∀ v,EaM v
  | .num=>num_ea
  | .nm m k=>name_ea m k
  | .fn a b=>fun_ea a b (ea a) (ea b)
def EaI (x : VI) : Prop:=∀ (i : Nat) (ks : List (List UInt8)) (A : List Box),MS i ks A → ACalls Tryz.prog ((pickI 404 411 420) x) [viX x,cM i] A (fun _ A'=>MS i (insMs ks (mdI x)) A' ∧ FrK i A A')
set_option maxRecDepth 100000 in
theorem ab_ea (n : List UInt8) : EaI (.ab n):=fun i ks A h=>by
  show ACalls Tryz.prog 404 _ _ _
  rw [viX]
  refine acalls_enterK (cf:=cf 4 [0]) foll Tryz.func404 Tryz.ntmps404 (by simp [cf]) ?_
  simp only [Tryz.f404,EnterK_some,zW,zX,zD,builtinA,isLeaf,const1,ustrA,simprocAttr,ti354,cf,Tryz.results404]
  exact ⟨h.app _,FrK.app _ _ _⟩
set_option maxRecDepth 100000 in
theorem al_ea (n : List UInt8) (v : VT) : EaI (.al n v):=fun i ks A h=>by
  show ACalls Tryz.prog 411 _ _ _
  have hv:=fun A h=>ea v i ks A h
  rw [viX]
  simp only [cM] at hv ⊢
  refine acalls_enterK (cf:=cf 8 [0,1,2]) foll Tryz.func411 Tryz.ntmps411 (by simp [cf]) ?_
  simp only [Tryz.f411,EnterK_some,zW,zX,zD,builtinA,isLeaf,const1,ustrA,simprocAttr,ti175,ti356,cf,Tryz.results411]
  refine wpO_invoke _ _ _ _ _ _ _ _ _ _ _ _ _ _ _ _ ?_
  simp only [zW,zX,zD,builtinA,isLeaf,const1,ustrA,simprocAttr,ti175,ti356,cf,Tryz.results411]
  refine meth_invK (met3 (by kernel_rfl) (by kernel_rfl) (by kernel_rfl) (by kernel_rfl) (by kernel_rfl) (by kernel_rfl)) (hv _ (h.app _)) rfl (fun _=>rfl) ?_
  rintro r A1 ⟨h1,f1⟩
  simp only [zW,zX,zD,builtinA,isLeaf,const1,ustrA,simprocAttr,ti175,ti356,cf,Tryz.results411]
  exact ⟨h1,(FrK.app _ _ _).trans f1⟩
set_option maxRecDepth 100000 in
theorem va_ea (n : List UInt8) (v : VT) : EaI (.va n v):=fun i ks A h=>by
  show ACalls Tryz.prog 420 _ _ _
  have hv:=fun A h=>ea v i ks A h
  rw [viX]
  simp only [cM] at hv ⊢
  refine acalls_enterK (cf:=cf 8 [0,1,2]) foll Tryz.func420 Tryz.ntmps420 (by simp [cf]) ?_
  simp only [Tryz.f420,EnterK_some,zW,zX,zD,builtinA,isLeaf,const1,ustrA,simprocAttr,ti175,ti357,cf,Tryz.results420]
  refine wpO_invoke _ _ _ _ _ _ _ _ _ _ _ _ _ _ _ _ ?_
  simp only [zW,zX,zD,builtinA,isLeaf,const1,ustrA,simprocAttr,ti175,ti357,cf,Tryz.results420]
  refine meth_invK (met3 (by kernel_rfl) (by kernel_rfl) (by kernel_rfl) (by kernel_rfl) (by kernel_rfl) (by kernel_rfl)) (hv _ (h.app _)) rfl (fun _=>rfl) ?_
  rintro r A1 ⟨h1,f1⟩
  simp only [zW,zX,zD,builtinA,isLeaf,const1,ustrA,simprocAttr,ti175,ti357,cf,Tryz.results420]
  exact ⟨h1,(FrK.app _ _ _).trans f1⟩
theorem eaI (x : VI) : EaI x:=by
  cases x with
  | ab n=>exact ab_ea n
  | al n v=>exact al_ea n v
  | va n v=>exact va_ea n v
def mdIs (ys : List VI) : List (List UInt8):=ys.flatMap mdI
theorem mdIs_take {ys : List VI} {i : Nat} (h : i < ys.length) : mdIs (ys.take (i + 1)) = mdIs (ys.take i) ++ mdI (ys.getD i vi0):=by
  have e : ys.take (i + 1) = ys.take i ++ [ys.getD i vi0]:=by rw [List.take_add_one]; simp [List.getD,h]
  rw [mdIs,e,List.flatMap_append]; simp [mdIs]
set_option maxRecDepth 100000 in
theorem sig_ea (ys : List VI) (hy : ys.length ≤ 1000) (i : Nat) (ks : List (List UInt8)) (A : List Box) (h : MS i ks A) : ACalls Tryz.prog 92 [.slice (vRows ys),cM i] A (fun _ A'=>MS i (insMs ks (mdIs ys)) A' ∧ FrK i A A'):=by
  have hea:=fun y ks A h=>eaI y i ks A h
  simp only [cM] at hea ⊢
  refine acalls_enterK (cf:=cf 16 [0,1,5,6,7,8,9]) foll Tryz.func92 Tryz.ntmps92 (by simp [cf]) ?_
  simp only [Tryz.f92,EnterK_some,zW,zX,zD,builtinA,isLeaf,const1,ustrA,simprocAttr,ti3,ti140,ti158,cf,Tryz.results92]
  refine aloop_intro [1,6,7,8] (fun e A'=>∃ k,k ≤ ys.length ∧ MS i (insMs ks (mdIs (ys.take k))) A' ∧ FrK i A A' ∧ e = [(1,.func (.func 93) [.map i] []),(6,.slice (vRows ys)),(7,.int .i64 ys.length),(8,.int .i64 k)]) (fun e _=>ys.length - (intOf (Abs.look 8 e)).toNat) ?_ ?_
  · simp only [zW,zX,zD,builtinA,isLeaf,const1,ustrA,simprocAttr,ti3,ti140,ti158,cf,Tryz.results92,vRows_length]
    exact ⟨0,by omega,h,FrK.refl _ _,rfl⟩
  · rintro e A' ⟨k,hk,hm,hf,rfl⟩
    by_cases hlt : k < ys.length
    · have d1 : decide ((k : Int) < (ys.length : Int)) = true:=by simp; omega
      have hlt' : 0 ≤ (k : Int) ∧ (k : Int) < (ys.length : Int):=by omega
      have hg:=vRows_getD hlt
      have hi1 : IntKind.i64.wrap ((k : Int) + 1) = ((k + 1 : Nat) : Int):=by rw [wrap64 (by omega) (by omega)]; rfl
      have htk:=mdIs_take hlt
      have hev:=hea (ys.getD k vi0) _ _ hm
      rw [vRow] at hg
      generalize ys.getD k vi0 = y at *
      simp only [zW,zX,zD,builtinA,isLeaf,const1,ustrA,simprocAttr,ti3,ti140,ti158,cf,Tryz.results92,vRows_length,d1,hg]
      refine ⟨hlt',?_⟩
      refine wpO_invoke _ _ _ _ _ _ _ _ _ _ _ _ _ _ _ _ ?_
      simp only [zW,zX,zD,builtinA,isLeaf,const1,ustrA,simprocAttr,ti3,ti140,ti158,cf,Tryz.results92]
      refine methI_invK (metI3 (by kernel_rfl) (by kernel_rfl) (by kernel_rfl) (by kernel_rfl) (by kernel_rfl) (by kernel_rfl)) hev rfl (fun _=>rfl) ?_
      rintro r A1 ⟨h1,f1⟩
      simp only [zW,zX,zD,builtinA,isLeaf,const1,ustrA,simprocAttr,ti3,ti140,ti158,cf,Tryz.results92,hi1,LoopK_eq]
      refine ⟨⟨k + 1,by omega,by rw [htk,insMs_app]; exact h1,hf.trans f1,rfl⟩,?_⟩
      simp only [intOf]; omega
    · have d1 : decide ((k : Int) < (ys.length : Int)) = false:=by simp; omega
      have e : k = ys.length:=by omega
      subst e
      rw [List.take_length] at hm
      simp only [zW,zX,zD,builtinA,isLeaf,const1,ustrA,simprocAttr,ti3,ti140,ti158,cf,Tryz.results92,vRows_length,d1]
      exact ⟨hm,hf⟩
end Go.Proofs.YtnjdbgiincliaaaGreat
/- Made by mklay.py: slices.Sorted of maps.Keys in this program, by the library's contracts. -/
set_option linter.unusedVariables false
set_option linter.unusedSimpArgs false
namespace Go.Proofs.YtnjdbgiincliaaaGreat
open Go.Abs Go.RowKit Go.Maps Go.Sort Go.Shelf
def lyK_ren : Go.Shelf.Ren:=⟨fun | 7=>185 | 10=>255 | n=>n,fun | 23=>144 | 26=>9 | 3=>4 | 28=>268 | 0=>0 | 27=>267 | 33=>65 | 4=>4 | n=>n,fun | n=>n⟩
theorem lyK : Go.Proofs.SlLaysZ.n7 Tryz.prog lyK_ren:={
  mixed:=by kernel_rfl
  f7:=⟨Tryz.f185.name,by decide,Tryz.func185.trans (congrArg some (by kernel_rfl))⟩
  f10:=⟨Tryz.f255.name,by decide,Tryz.func255.trans (congrArg some (by kernel_rfl))⟩
  t0:=Tryz.underlying0
  a0:=Tryz.isAgg0
  z0:=Tryz.sizeOf0
  v0:=Tryz.zeroValue0
  t4:=Tryz.underlying4
  a4:=Tryz.isAgg4
  z4:=Tryz.sizeOf4
  v4:=Tryz.zeroValue4
  t23:=Tryz.underlying144
  a23:=Tryz.isAgg144
  z23:=Tryz.sizeOf144
  v23:=Tryz.zeroValue144
  t26:=Tryz.underlying9
  a26:=Tryz.isAgg9
  z26:=Tryz.sizeOf9
  v26:=Tryz.zeroValue9
  t27:=Tryz.underlying267
  a27:=Tryz.isAgg267
  z27:=Tryz.sizeOf267
  v27:=Tryz.zeroValue267
  t28:=Tryz.underlying268
  a28:=Tryz.isAgg268
  z28:=Tryz.sizeOf268
  v28:=Tryz.zeroValue268
  t33:=Tryz.underlying65
  a33:=Tryz.isAgg65
  z33:=Tryz.sizeOf65
  v33:=Tryz.zeroValue65 }
def lyS_ren : Go.Shelf.Ren:=⟨fun | 6=>184 | 8=>253 | 9=>254 | 11=>286 | 13=>288 | 12=>287 | 23=>313 | 24=>314 | 14=>304 | 15=>305 | 16=>306 | 17=>307 | 18=>308 | 19=>309 | 20=>310 | 21=>311 | 22=>312 | 25=>321 | 26=>322 | 27=>323 | 28=>324 | 29=>325 | 30=>326 | 31=>331 | n=>n,fun | 26=>9 | 28=>268 | 24=>48 | 0=>0 | 3=>3 | 37=>412 | 48=>457 | 50=>459 | 4=>4 | 40=>450 | 39=>449 | 45=>454 | 5=>5 | 9=>9 | 51=>466 | 55=>470 | 57=>477 | 58=>478 | 33=>65 | n=>n,fun | n=>n⟩
theorem lyS : Go.Proofs.SlLaysZ.n6 Tryz.prog lyS_ren:={
  mixed:=by kernel_rfl
  f6:=⟨Tryz.f184.name,by decide,Tryz.func184.trans (congrArg some (by kernel_rfl))⟩
  f8:=⟨Tryz.f253.name,by decide,Tryz.func253.trans (congrArg some (by kernel_rfl))⟩
  f11:=⟨Tryz.f286.name,by decide,Tryz.func286.trans (congrArg some (by kernel_rfl))⟩
  t0:=Tryz.underlying0
  a0:=Tryz.isAgg0
  z0:=Tryz.sizeOf0
  v0:=Tryz.zeroValue0
  t24:=Tryz.underlying48
  a24:=Tryz.isAgg48
  z24:=Tryz.sizeOf48
  v24:=Tryz.zeroValue48
  t26:=Tryz.underlying9
  a26:=Tryz.isAgg9
  z26:=Tryz.sizeOf9
  v26:=Tryz.zeroValue9
  t28:=Tryz.underlying268
  a28:=Tryz.isAgg268
  z28:=Tryz.sizeOf268
  v28:=Tryz.zeroValue268
  i26:=by kernel_rfl }
def lyO_ren : Go.Shelf.Ren:=⟨fun | 6=>254 | 8=>288 | 9=>287 | 19=>313 | 20=>314 | 21=>304 | 22=>305 | 23=>306 | 24=>307 | 25=>308 | 26=>309 | 27=>310 | 28=>311 | 29=>312 | 36=>321 | 31=>322 | 32=>323 | 37=>324 | 38=>325 | 39=>326 | 41=>331 | n=>n,fun | 27=>48 | 29=>9 | 3=>3 | 32=>412 | 26=>48 | 0=>0 | 44=>457 | 46=>459 | 4=>4 | 36=>450 | 35=>449 | 41=>454 | 5=>5 | 9=>9 | 53=>466 | 57=>470 | 63=>477 | 64=>478 | n=>n,fun | n=>n⟩
theorem lyO : Go.Proofs.SlLaysM.n6 Tryz.prog lyO_ren:={
  mixed:=by kernel_rfl
  f6:=⟨Tryz.f254.name,by decide,Tryz.func254.trans (congrArg some (by kernel_rfl))⟩
  f8:=Tryz.func288.trans (congrArg some (by kernel_rfl))
  f9:=⟨Tryz.f287.name,by decide,Tryz.func287.trans (congrArg some (by kernel_rfl))⟩
  f19:=Tryz.func313.trans (congrArg some (by kernel_rfl))
  f20:=Tryz.func314.trans (congrArg some (by kernel_rfl))
  f21:=⟨Tryz.f304.name,by decide,Tryz.func304.trans (congrArg some (by kernel_rfl))⟩
  f22:=⟨Tryz.f305.name,by decide,Tryz.func305.trans (congrArg some (by kernel_rfl))⟩
  f23:=⟨Tryz.f306.name,by decide,Tryz.func306.trans (congrArg some (by kernel_rfl))⟩
  f24:=⟨Tryz.f307.name,by decide,Tryz.func307.trans (congrArg some (by kernel_rfl))⟩
  f25:=⟨Tryz.f308.name,by decide,Tryz.func308.trans (congrArg some (by kernel_rfl))⟩
  f26:=⟨Tryz.f309.name,by decide,Tryz.func309.trans (congrArg some (by kernel_rfl))⟩
  f27:=⟨Tryz.f310.name,by decide,Tryz.func310.trans (congrArg some (by kernel_rfl))⟩
  f28:=⟨Tryz.f311.name,by decide,Tryz.func311.trans (congrArg some (by kernel_rfl))⟩
  f29:=⟨Tryz.f312.name,by decide,Tryz.func312.trans (congrArg some (by kernel_rfl))⟩
  f31:=Tryz.func322.trans (congrArg some (by kernel_rfl))
  f32:=Tryz.func323.trans (congrArg some (by kernel_rfl))
  f36:=⟨Tryz.f321.name,by decide,Tryz.func321.trans (congrArg some (by kernel_rfl))⟩
  f37:=⟨Tryz.f324.name,by decide,Tryz.func324.trans (congrArg some (by kernel_rfl))⟩
  f38:=⟨Tryz.f325.name,by decide,Tryz.func325.trans (congrArg some (by kernel_rfl))⟩
  f39:=⟨Tryz.f326.name,by decide,Tryz.func326.trans (congrArg some (by kernel_rfl))⟩
  f41:=⟨Tryz.f331.name,by decide,Tryz.func331.trans (congrArg some (by kernel_rfl))⟩
  t0:=Tryz.underlying0
  a0:=Tryz.isAgg0
  z0:=Tryz.sizeOf0
  v0:=Tryz.zeroValue0
  t3:=Tryz.underlying3
  a3:=Tryz.isAgg3
  z3:=Tryz.sizeOf3
  v3:=Tryz.zeroValue3
  t4:=Tryz.underlying4
  a4:=Tryz.isAgg4
  z4:=Tryz.sizeOf4
  v4:=Tryz.zeroValue4
  t5:=Tryz.underlying5
  a5:=Tryz.isAgg5
  z5:=Tryz.sizeOf5
  v5:=Tryz.zeroValue5
  t9:=Tryz.underlying9
  a9:=Tryz.isAgg9
  z9:=Tryz.sizeOf9
  v9:=Tryz.zeroValue9
  t26:=Tryz.underlying48
  a26:=Tryz.isAgg48
  z26:=Tryz.sizeOf48
  v26:=Tryz.zeroValue48
  t27:=Tryz.underlying48
  a27:=Tryz.isAgg48
  z27:=Tryz.sizeOf48
  v27:=Tryz.zeroValue48
  t29:=Tryz.underlying9
  a29:=Tryz.isAgg9
  z29:=Tryz.sizeOf9
  v29:=Tryz.zeroValue9
  t32:=Tryz.underlying412
  a32:=Tryz.isAgg412
  z32:=Tryz.sizeOf412
  v32:=Tryz.zeroValue412
  t35:=Tryz.underlying449
  a35:=Tryz.isAgg449
  z35:=Tryz.sizeOf449
  v35:=Tryz.zeroValue449
  t36:=Tryz.underlying450
  a36:=Tryz.isAgg450
  z36:=Tryz.sizeOf450
  v36:=Tryz.zeroValue450
  t41:=Tryz.underlying454
  a41:=Tryz.isAgg454
  z41:=Tryz.sizeOf454
  v41:=Tryz.zeroValue454
  t44:=Tryz.underlying457
  a44:=Tryz.isAgg457
  z44:=Tryz.sizeOf457
  v44:=Tryz.zeroValue457
  t46:=Tryz.underlying459
  a46:=Tryz.isAgg459
  z46:=Tryz.sizeOf459
  v46:=Tryz.zeroValue459
  t53:=Tryz.underlying466
  a53:=Tryz.isAgg466
  z53:=Tryz.sizeOf466
  v53:=Tryz.zeroValue466
  t57:=Tryz.underlying470
  a57:=Tryz.isAgg470
  z57:=Tryz.sizeOf470
  v57:=Tryz.zeroValue470
  t63:=Tryz.underlying477
  a63:=Tryz.isAgg477
  z63:=Tryz.sizeOf477
  v63:=Tryz.zeroValue477
  t64:=Tryz.underlying478
  a64:=Tryz.isAgg478
  z64:=Tryz.sizeOf478
  v64:=Tryz.zeroValue478 }
theorem ly_sorts (m : Nat) : AnyZ.SortsIn Tryz.prog lyS_ren Fence.wide m :=
  ⟨fun blk off cap ss W hH hblk hsz=>callsIn_wide.2 (AnyM.slices_Sort_string lyO blk off cap ss W hH hblk hsz),
   fun p cap W=>callsIn_wide.2 (AnyM.slices_Sort_string_none lyO p cap W)⟩
theorem ly_keys (mb : Option Nat) (W : World) : CallsIn Fence.wide 5 Tryz.prog 185 #[.map mb] W fun e w'=>e = .returned (.func (.func 255) #[] #[.pointer (some ⟨W.heap.size,0,none⟩)]) ∧ w' = W.alloc (.cells #[.map mb] 144) :=
  AnyZ.keys_in lyK Fence.wide 5 trivial rfl mb W
set_option maxHeartbeats 1000000 in
theorem ly_sorted {H : Type} (b nn : Nat) (D0 : DataW H) (R : Value → Option (DataW H × List MemPlace)) (w : World) (hown : w.ownsMap Tryz.prog 9 R b nn D0) (hmax : Maps.size D0 ≤ maxLen) (hbytes : Maps.size D0 * 16 ≤ 140737488355328) :
    CallsIn Fence.wide 5 Tryz.prog 184 #[.func (.func 255) #[] #[.pointer (some ⟨w.heap.size,0,none⟩)]] (w.alloc (.cells #[.map (some b)] 144)) fun e w'=>∃ (v : Value) (ss : List (List UInt8)),e = .returned v ∧ ss.Perm (strKeys D0) ∧
      w'.ownsRow (w.alloc (.cells #[.map (some b)] 144)).heap.size 9 1 v ss.length ((ss.mergeSort (fun x y=>decide (x ≤ y))).map encStr) ∧ (v = .slice none 0 0 ↔ ss = []) ∧ Below (w.alloc (.cells #[.map (some b)] 144)).heap.size (w.alloc (.cells #[.map (some b)] 144)) w':=by
  have hbl:=hown.lt
  have hseq : SeqGives Fence.wide 2 Tryz.prog 255 #[.pointer (some ⟨w.heap.size,0,none⟩)] encStr (fun ss=>ss.Perm (strKeys D0)) (Maps.size D0) (w.alloc (.cells #[.map (some b)] 144)) :=
    AnyZ.keys_gives (ρ:=lyK_ren) { lyK with } Fence.wide _ trivial rfl (by omega) w.heap.size b nn D0 _ (by simp) (by simp) (by
      obtain ⟨es,clock,hb,Ft,hs,hD⟩:=hown
      exact ⟨es,clock,(Below.heap_alloc _ _ b hbl).trans hb,Ft,hs,hD⟩)
  exact AnyZ.sorted_in lyS Fence.wide 5 trivial trivial trivial trivial rfl (by omega) (ly_sorts _) (enters_of Tryz.func254 (by kernel_rfl) rfl) 255 #[.pointer (some ⟨w.heap.size,0,none⟩)] trivial (enters_of Tryz.func255 (by kernel_rfl) rfl) _ _ hmax hbytes _ hseq
set_option maxHeartbeats 1000000 in
theorem ly_calls (b nn : Nat) (D0 : DataW Unit) (R : Value → Option (DataW Unit × List MemPlace)) (w : World) (hown : w.ownsMap Tryz.prog 9 R b nn D0) (hmax : Maps.size D0 ≤ maxLen) (hbytes : Maps.size D0 * 16 ≤ 140737488355328) :
    Calls Tryz.prog 94 #[.map (some b)] w fun e w'=>∃ (v : Value) (ss : List (List UInt8)),e = .returned v ∧ ss.Perm (strKeys D0) ∧
      w'.ownsRow w.heap.size 9 1 v ss.length ((ss.mergeSort (fun x y=>decide (x ≤ y))).map encStr) ∧ (v = .slice none 0 0 ↔ ss = []) ∧ Below w.heap.size w w':=by
  refine (callsIn_wide (n:=6)).1 ?_
  have hfK : Fence.wide.fn 185:=trivial
  have hfS : Fence.wide.fn 184:=trivial
  refine callsIn_of_wp Tryz.func94 rfl trivial ?_ rfl
  simp only [Tryz.ntmps94,List.size_toArray,List.length_cons,List.length_nil,Nat.reduceAdd,Nat.reduceSub,Array.replicate_succ,Array.replicate_zero,List.push_toArray,List.append_toArray,List.nil_append,List.cons_append]
  gi_wp2_with (first
    | (gi_at_call 185; refine (ly_keys _ _).mono ?_; rintro e w' ⟨rfl,rfl⟩)
    | (gi_at_call 184; refine (ly_sorted b nn D0 R w hown hmax hbytes).mono ?_; rintro e w' ⟨v,ss,rfl,hS,hrow,hnil,hb⟩))
  go_ret
  exact ⟨v,ss,rfl,hS,ownsRow_base_a hrow (by simp),hnil,((Below.refl _ w).alloc (Nat.le_refl _) _).trans (hb.mono (by simp))⟩
theorem impl_sorted (i : Nat) (ks : List (List UInt8)) (hn : ks.Nodup) (hl : ks.length ≤ 1000) (hq : ∀ q ∈ ks,q.length ≤ 1000) (A : List Box) (hA : A.getD i .dead = .mapb (setK ks)) :
    ACalls Tryz.prog 94 [.map i] A (fun r A'=>(ks = [] ∧ r = .nils ∧ A' = A) ∨ (ks ≠ [] ∧ r = .own A.length ∧ A' = A ++ [.row 1 ((srt ks).map fun s=>[AV.str s]) 0])) :=
  sorted_of Tryz.underlying9 ly_calls i ks hn hl hq A hA
end Go.Proofs.YtnjdbgiincliaaaGreat
/- From a law's argument of the recursive type to a tree. -/
set_option linter.unusedVariables false
set_option linter.unusedSimpArgs false
namespace Go.Proofs.YtnjdbgiincliaaaGreat
open Go.Abs Go.RowKit Go.ChangeShapes Go.WideShapes Go.ChangeAt Go.ChangeMaps
theorem c3 : Tryz.prog.cellsOf 3 = 1:=by kernel_rfl
section
variable {H : Type} {enc' : TypeId × Value → H} {W : World}
end
end Go.Proofs.YtnjdbgiincliaaaGreat
/- Lists of names as data, and what the laws' helpers do with them. -/
set_option linter.unusedVariables false
set_option linter.unusedSimpArgs false
namespace Go.Proofs.YtnjdbgiincliaaaGreat
open Go.Abs Go.RowKit Go.ChangeShapes Go.WideShapes Go.ChangeAt Go.ChangeMaps
abbrev Nms:=List (List UInt8)
def aEs (l : Nms) : List (List AV):=l.map fun s=>[AV.str s]
theorem aEs_length (l : Nms) : (aEs l).length = l.length:=by simp [aEs]
theorem aEs_getD {l : Nms} {i : Nat} (h : i < l.length) : (aEs l).getD i [] = [.str (l.getD i [])]:=by simp [aEs,List.getD,h]
end Go.Proofs.YtnjdbgiincliaaaGreat
/- The program's SigModules. -/
set_option linter.unusedVariables false
set_option linter.unusedSimpArgs false
namespace Go.Proofs.YtnjdbgiincliaaaGreat
open Go.Abs
theorem mdV_len : ∀ v,(mdV v).length ≤ cnt v
  | .num=>by simp [mdV]
  | .nm _ _=>by simp [mdV,cnt]
  | .fn a b=>by have:=mdV_len a; have:=mdV_len b; simp only [mdV,cnt,List.length_append]; omega
theorem module_let {m : List UInt8} (h : moduleB m = true) : isLet m:=by
  simp only [moduleB,Bool.and_eq_true,decide_eq_true_eq,beq_iff_eq] at h
  obtain ⟨⟨h1,h2,h3⟩,_⟩:=h
  match m,h1 with
  | [b],_ =>
    simp only [List.getD_cons_zero] at h2 h3
    refine ⟨b.toNat - 65,by omega,?_⟩
    simp only [letJ,List.cons.injEq,and_true]
    rw [show 65 + (b.toNat - 65) = b.toNat by omega]
    simp
theorem mdV_let : ∀ v,okV v = true → ∀ q ∈ mdV v,q ≠ [] → isLet q
  | .num,_,q,h=>by simp [mdV] at h
  | .nm m k,hv,q,h=>fun hq=>by
    simp only [mdV,List.mem_singleton] at h
    subst h
    simp only [okV,nmB,Bool.and_eq_true,Bool.or_eq_true,decide_eq_true_eq] at hv
    rcases hv.1 with h | h
    · exact absurd h hq
    · exact module_let h
  | .fn a b,hv,q,h=>by
    simp only [okV,Bool.and_eq_true] at hv
    simp only [mdV,List.mem_append] at h
    rcases h with h | h
    · exact mdV_let a hv.1 q h
    · exact mdV_let b hv.2 q h
theorem let_len {q : List UInt8} (h : q ≠ [] → isLet q) : q.length ≤ 1:=by
  by_cases hq : q = []
  · simp [hq]
  · obtain ⟨j,_,rfl⟩:=h hq
    simp [letJ]
theorem mdI_of {x : SigI} {y : VI} (h : ItemOf x y) : (mdI y).length ≤ 63 ∧ ∀ q ∈ mdI y,q ≠ [] → isLet q:=by
  cases y with
  | ab n=>exact ⟨by simp [mdI],by simp [mdI]⟩
  | al n v =>
    have hv:=h.2.2.2
    exact ⟨Nat.le_trans (mdV_len v) hv.cnt,mdV_let v hv.ok⟩
  | va n v =>
    have hv:=h.2.2.2
    exact ⟨Nat.le_trans (mdV_len v) hv.cnt,mdV_let v hv.ok⟩
theorem mdIs_of {s : List SigI} {ys : List VI} (h : ReadsTo s ys) : (mdIs ys).length ≤ ys.length * 63 ∧ ∀ q ∈ mdIs ys,q ≠ [] → isLet q:=by
  have hk : ∀ y ∈ ys,(mdI y).length ≤ 63 ∧ ∀ q ∈ mdI y,q ≠ [] → isLet q:=fun y hy=>by
    obtain ⟨k,hk,rfl⟩:=List.mem_iff_getElem.1 hy
    have:=(h.2 k (by rw [← h.1]; exact hk)).2
    rw [show ys.getD k vi0 = ys[k] by simp [List.getD,hk]] at this
    exact mdI_of this
  constructor
  · clear h
    induction ys with
    | nil=>simp [mdIs]
    | cons y ys ih =>
      have h1:=(hk y (.head _)).1
      have h2:=ih fun z hz=>hk z (.tail _ hz)
      simp only [mdIs,List.flatMap_cons,List.length_append,List.length_cons] at h2 ⊢
      omega
  · intro q hq
    obtain ⟨y,hy,hq⟩:=List.mem_flatMap.1 hq
    exact (hk y hy).2 q hq
def NsNew (A : List Box) (l : Nms) (r : AV) (A' : List Box) : Prop:=∃ B,A' = A ++ B ∧ ((l = [] ∧ r = .nils) ∨ ∃ j,r = .own (A.length + j) ∧ j < B.length ∧ B.getD j .dead = .row 1 (aEs l) 0)
def MdIs (s : List SigI) (l : Nms) : Prop:=(∃ ys,ReadsTo s ys ∧ s.length ≤ 8 ∧ ordB ys = true ∧ l = srt (insMs [] (mdIs ys))) ∨ (sigB s = false ∧ l = [])
theorem toTy_uq : ∀ {v v' : VT},toTy v = toTy v' → v = v'
  | .num,v',h=>by cases v' <;> simp [toTy] at h ⊢
  | .nm m k,v',h=>by cases v' <;> simp [toTy] at h ⊢; exact h
  | .fn a b,v',h=>by
    cases v' <;> simp [toTy] at h
    rw [toTy_uq h.1,toTy_uq h.2]
theorem item_uq {x : SigI} {y y' : VI} (h : ItemOf x y) (h' : ItemOf x y') : y = y':=by
  cases y <;> cases y'
  case ab.ab=>rw [← h.1,← h'.1]
  case al.al=>rw [← h.1,← h'.1,toTy_uq (h.2.2.1.symm.trans h'.2.2.1)]
  case va.va=>rw [← h.1,← h'.1,toTy_uq (h.2.2.1.symm.trans h'.2.2.1)]
  all_goals (have a:=h.2.1; have b:=h'.2.1; rw [a] at b; simp at b)
theorem reads_uq {s : List SigI} {ys ys' : List VI} (h : ReadsTo s ys) (h' : ReadsTo s ys') : ys = ys':=by
  refine List.ext_getElem (by rw [h.1,h'.1]) fun i h1 h2=>?_
  have:=item_uq (h.2 i (by rw [← h.1]; exact h1)).2 (h'.2 i (by rw [← h.1]; exact h1)).2
  simpa [List.getD,h1,h2] using this
theorem MdIs.one {s : List SigI} {l l' : Nms} (h : MdIs s l) (h' : MdIs s l') : l = l':=by
  rcases h with ⟨ys,h1,h2,h3,rfl⟩ | ⟨h,rfl⟩
  · have hs : sigB s = true:=by rw [sigB_reads h2 h1,h3]
    rcases h' with ⟨zs,k1,_,_,rfl⟩ | ⟨k,_⟩
    · rw [reads_uq h1 k1]
    · rw [hs] at k; cases k
  · rcases h' with ⟨zs,k1,k2,k3,rfl⟩ | ⟨_,rfl⟩
    · rw [sigB_reads k2 k1,k3] at h; cases h
    · rfl
set_option maxRecDepth 100000 in
theorem impl_SigModules (s : List SigI) (hs : s.length ≤ 1048576) (ho : ∀ x ∈ s,x.Ok ∧ sz x.typ ≤ 1048576) (A : List Box) : ACalls Tryz.prog 25 [.slice (sEs s)] A (fun r A'=>∃ l,MdIs s l ∧ NsNew A l r A'):=by
  have hrs:=fun A=>impl_readSig s hs ho A
  refine acalls_enterK (cf:=cf 20 [0,2,3,4,5,12]) foll Tryz.func25 Tryz.ntmps25 (by simp [cf]) ?_
  simp only [Tryz.f25,EnterK_some,zW,zX,zD,builtinA,isLeaf,const1,ustrA,simprocAttr,ti144,ca91,ca92,ca94,cf,Tryz.results25]
  refine callK_intro (by simp only [zW,zX,zD,builtinA,isLeaf,const1,ustrA,simprocAttr,Option.map_some] <;> rfl) (hrs _) ?_ rfl
  rintro r A' ⟨⟨ys,h8,hr,rfl⟩ | ⟨hb,rfl⟩,hA⟩
  · have hsb:=sigB_reads h8 hr
    have hA:=hA.symm
    subst hA
    cases hord : ordB ys with
    | false =>
      rw [hord] at hsb
      simp only [zW,zX,zD,builtinA,isLeaf,const1,ustrA,simprocAttr,ti144,ca91,ca92,ca94,cf,Tryz.results25]
      exact ⟨[],.inr ⟨hsb,rfl⟩,[],by simp,.inl ⟨rfl,rfl⟩⟩
    | true =>
      obtain ⟨m1,m2⟩:=mdIs_of hr
      have hyl:=hr.1
      have hea:=sig_ea ys (by omega) A.length [] (A ++ [.mapb []]) ⟨by rw [Abs.getD_append_right (Nat.le_refl _),Nat.sub_self]; rfl,by simp⟩
      have hnd:=insMs_nodup (mdIs ys) (ks:=[]) (by simp)
      have hln:=insMs_len (mdIs ys) []
      have hqs : ∀ q ∈ insMs [] (mdIs ys),q.length ≤ 1000:=fun q hq=>by
        rw [insMs_mem] at hq
        rcases hq with h | ⟨h,_⟩
        · cases h
        · have:=let_len (m2 q h); omega
      simp only [cM] at hea
      simp only [zW,zX,zD,builtinA,isLeaf,const1,ustrA,simprocAttr,ti144,ca91,ca92,ca94,cf,Tryz.results25]
      refine callO_intro hea ?_
      rintro r A1 ⟨h1,f1⟩
      have hso:=impl_sorted A.length _ hnd (by simp at hln; omega) hqs A1 h1.1
      have htk : A1.take A.length = A:=take_of_getD (by have:=f1.1; simp at this; omega) rfl fun k hk=>by
        rw [f1.2 k (by simp; omega) (by omega),Abs.getD_append_left hk]
      have hl1 : A.length ≤ A1.length:=by have:=f1.1; simp at this; omega
      have hsp : A1 = A ++ A1.drop A.length:=by
        conv=>lhs; rw [← List.take_append_drop A.length A1,htk]
      have hid : MdIs s (srt (insMs [] (mdIs ys))):=.inl ⟨ys,hr,h8,hord,rfl⟩
      simp only [zW,zX,zD,builtinA,isLeaf,const1,ustrA,simprocAttr,ti144,ca91,ca92,ca94,cf,Tryz.results25]
      refine callO_intro hso ?_
      rintro r A2 (⟨hk,rfl,hA2⟩ | ⟨hk,rfl,hA2⟩)
      · subst hA2
        simp only [zW,zX,zD,builtinA,isLeaf,const1,ustrA,simprocAttr,ti144,ca91,ca92,ca94,cf,Tryz.results25]
        exact ⟨_,hid,A2.drop A.length,hsp,.inl ⟨by rw [hk]; simp [srt],rfl⟩⟩
      · subst hA2
        simp only [zW,zX,zD,builtinA,isLeaf,const1,ustrA,simprocAttr,ti144,ca91,ca92,ca94,cf,Tryz.results25]
        refine ⟨_,hid,A1.drop A.length ++ [.row 1 (aEs (srt (insMs [] (mdIs ys)))) 0],?_,.inr ⟨A1.length - A.length,?_,by simp,?_⟩⟩
        · rw [← List.append_assoc,← hsp]; rfl
        · rw [show A.length + (A1.length - A.length) = A1.length by omega]
        · rw [Abs.getD_append_right (by simp),List.length_drop,Nat.sub_self]; rfl
  · have hA:=hA.symm
    subst hA
    simp only [zW,zX,zD,builtinA,isLeaf,const1,ustrA,simprocAttr,ti144,ca91,ca92,ca94,cf,Tryz.results25]
    exact ⟨[],.inr ⟨sigB_bad hb,rfl⟩,[],by simp,.inl ⟨rfl,rfl⟩⟩
end Go.Proofs.YtnjdbgiincliaaaGreat
/- The model's SigModules. -/
set_option linter.unusedVariables false
set_option linter.unusedSimpArgs false
namespace Go.Proofs.YtnjdbgiincliaaaGreat
open Go.Abs
def bRows (fl : List Bool) : List (List AV):=fl.map fun b=>[AV.bool b]
def FS (f : Nat) (fl : List Bool) (A : List Box) : Prop:=A.getD f .dead = .row 1 (bRows fl) 0 ∧ f < A.length
theorem FS.app {f : Nat} {fl : List Bool} {A : List Box} (h : FS f fl A) (B : List Box) : FS f fl (A ++ B):=⟨by rw [Abs.getD_append_left h.2]; exact h.1,by have:=h.2; simp; omega⟩
theorem item_rd (x : SigI) : (∃ y,localB x.name = true ∧ ItemOf x y) ∨ itemOk x = false:=by
  by_cases hl : localB x.name = true
  · by_cases k1 : x.kind = 1
    · by_cases ht : x.typ = ty0
      · exact .inl ⟨.ab x.name,hl,rfl,k1,ht⟩
      · exact .inr (by simp [itemOk,k1,ht])
    · by_cases k2 : x.kind = 2
      · rcases valid_cases x.typ with ⟨v,h1,h2⟩ | h
        · exact .inl ⟨.al x.name v,hl,rfl,k2,h1,h2⟩
        · exact .inr (by simp [itemOk,k2,h])
      · by_cases k3 : x.kind = 3
        · rcases valid_cases x.typ with ⟨v,h1,h2⟩ | h
          · exact .inl ⟨.va x.name v,hl,rfl,k3,h1,h2⟩
          · exact .inr (by simp [itemOk,k3,h])
        · exact .inr (by simp [itemOk,k1,k2,k3])
  · exact .inr (by simp [itemOk,hl])
theorem rd_all : ∀ s : List SigI,(∃ ys,ReadsTo s ys) ∨ ∃ x ∈ s,itemOk x = false
  | []=>.inl ⟨[],rfl,fun i hi=>by simp at hi⟩
  | x :: s=>by
    rcases item_rd x with ⟨y,h1,h2⟩ | h
    · rcases rd_all s with ⟨ys,h3,h4⟩ | ⟨z,h5,h6⟩
      · refine .inl ⟨y :: ys,by simp [h3],fun i hi=>?_⟩
        cases i with
        | zero=>exact ⟨h1,h2⟩
        | succ i=>simpa using h4 i (by simpa using hi)
      · exact .inr ⟨z,.tail _ h5,h6⟩
    · exact .inr ⟨x,.head _,h⟩
theorem rd_yes {s : List SigI} (h : sigB s = true) : ∃ ys,s.length ≤ 8 ∧ ReadsTo s ys ∧ ordB ys = true:=by
  by_cases h8 : s.length ≤ 8
  · rcases rd_all s with ⟨ys,hr⟩ | hb
    · exact ⟨ys,h8,hr,by rw [← sigB_reads h8 hr,h]⟩
    · rw [sigB_bad (.inr hb)] at h; cases h
  · rw [sigB_bad (.inl (by omega))] at h; cases h
end Go.Proofs.YtnjdbgiincliaaaGreat
/- Names that are owned: views, marks, and what a call keeps of new memory. -/
set_option linter.unusedVariables false
set_option linter.unusedSimpArgs false
namespace Go.Proofs.YtnjdbgiincliaaaGreat
open Go.Abs Go.RowKit
theorem HRel.sub {G : Ghost} {A A2 : List Box} {w : World} {base : Nat} (h : HRel G A w base) (hl : A2.length = A.length) (hs : ∀ i,A2.getD i .dead = A.getD i .dead ∨ A2.getD i .dead = .dead) : HRel G A2 w base:=by
  have aux : ∀ k,(A2.getD k .dead).live = true → A2.getD k .dead = A.getD k .dead:=fun k lk=>by
    rcases hs k with h | h
    · exact h
    · rw [h] at lk; cases lk
  refine ⟨by rw [hl]; exact h.n,fun j hj=>?_,fun j k hj hk hne lj lk=>?_,fun j hj lj=>?_,h.imm,h.low,h.gv⟩
  · rcases hs j with e | e
    · rw [e]; exact h.box j (by omega)
    · rw [e]; trivial
  · exact h.sep j k (by omega) (by omega) hne (by rw [← aux j lj]; exact lj) (by rw [← aux k lk]; exact lk)
  · exact h.bnd j (by omega) (by rw [← aux j lj]; exact lj)
theorem ACalls.sub {P : Program} {f : FuncId} {args : List AV} {A : List Box} {R R' : AV → List Box → Prop} (h : ACalls P f args A R)
    (hr : ∀ r A',R r A' → ∃ A2,A2.length = A'.length ∧ (∀ i,A2.getD i .dead = A'.getD i .dead ∨ A2.getD i .dead = .dead) ∧ R' r A2) : ACalls P f args A R' :=
  fun G w base xs h1 h2=>(h G w base xs h1 h2).mono fun e w' ⟨x,v,A',G',a1,a2,a3,a4,a5⟩=>by
    obtain ⟨A2,b1,b2,b3⟩:=hr v A' a2
    exact ⟨x,v,A2,G',a1,b3,a3,HRel.sub a4 b1 b2,a5⟩
def NsOut (A : List Box) (l : Nms) (r : AV) (A' : List Box) : Prop:=∃ n,(l = [] ∧ r = .nils ∧ A' = A ++ List.replicate n .dead) ∨ ∃ j,j < n ∧ r = .own (A.length + j) ∧ A' = A ++ (List.replicate n Box.dead).set j (.row 1 (aEs l) 0)
theorem aEs_ifree (l : Nms) : (aEs l).all ifrees = true:=by
  rw [List.all_eq_true]
  intro r hr
  obtain ⟨s,_,rfl⟩:=List.mem_map.1 hr
  rfl
theorem NsOut.view {f : FuncId} {args args' : List AV} {l : Nms} (h : ∀ A,ACalls Tryz.prog f args' A (NsOut A l)) {A : List Box} (hv : Views A args args') : ACalls Tryz.prog f args A (NsOut A l):=by
  refine ACalls.borrow hv ((h _).mono ?_)
  rintro r A' ⟨n,⟨h1,rfl,rfl⟩ | ⟨j,hj,rfl,rfl⟩⟩
  · refine ⟨_,rfl,rfl,fun b hb=>?_,n,.inl ⟨h1,rfl,rfl⟩⟩
    rw [(List.mem_replicate.1 hb).2]; rfl
  · refine ⟨_,rfl,rfl,fun b hb=>?_,n,.inr ⟨j,hj,by rw [deads_length],rfl⟩⟩
    rcases List.mem_or_eq_of_mem_set hb with hb | rfl
    · rw [(List.mem_replicate.1 hb).2]; rfl
    · simp [ifreeB,aEs_ifree]
def OwnN (A : List Box) (l : Nms) (v : AV) (S : List Nat) : Prop:=(l = [] ∧ v = .nils ∧ S = []) ∨ ∃ j,v = .own j ∧ S = [j] ∧ A.getD j .dead = .row 1 (aEs l) 0
theorem OwnN.frame {A A' : List Box} {l : Nms} {v : AV} {S : List Nat} (h : OwnN A l v S) (hf : ∀ i ∈ S,A'.getD i .dead = A.getD i .dead) : OwnN A' l v S:=by
  rcases h with h | ⟨j,rfl,rfl,hb⟩
  · exact .inl h
  · exact .inr ⟨j,rfl,rfl,by rw [hf j (by simp)]; exact hb⟩
theorem OwnN.low {A : List Box} {l : Nms} {v : AV} {S : List Nat} (h : OwnN A l v S) : ∀ i ∈ S,i < A.length:=by
  rcases h with ⟨_,_,rfl⟩ | ⟨j,rfl,rfl,hb⟩
  · simp
  · intro i hi
    rw [List.mem_singleton.1 hi]
    exact live_lt hb (by simp)
theorem aEs_leaf (l : Nms) : ∀ r ∈ aEs l,r.length = 1 ∧ ∀ v ∈ r,isLeaf v = true:=by
  intro r hr
  obtain ⟨s,_,rfl⟩:=List.mem_map.1 hr
  exact ⟨rfl,fun v hv=>by rw [List.mem_singleton.1 hv]; rfl⟩
theorem OwnN.view {A : List Box} {l : Nms} {v : AV} {S : List Nat} (h : OwnN A l v S) : View A v (.slice (aEs l)):=by
  rcases h with ⟨rfl,rfl,_⟩ | ⟨j,rfl,_,hb⟩
  · exact .nils
  · refine .row j 1 0 (aEs l) (aEs l) hb rfl (aEs_leaf l) fun k i hk hi=>.leaf _ ?_
    have:=aEs_leaf l _ (Abs.getD_mem (d:=[]) hk)
    exact this.2 _ (Abs.getD_mem (by omega))
theorem NsOut.own {A A' : List Box} {l : Nms} {r : AV} (h : NsOut A l r A') : ∃ B S,A' = A ++ B ∧ OwnN A' l r S ∧ ∀ i ∈ S,A.length ≤ i ∧ i < A'.length:=by
  obtain ⟨n,⟨h1,rfl,rfl⟩ | ⟨j,hj,rfl,rfl⟩⟩:=h
  · exact ⟨_,[],rfl,.inl ⟨h1,rfl,rfl⟩,by simp⟩
  · refine ⟨_,[A.length + j],rfl,.inr ⟨_,rfl,rfl,?_⟩,by simp; omega⟩
    rw [Abs.getD_append_right (by omega),Nat.add_sub_cancel_left]
    exact Abs.getD_set_self (by simpa using hj)
theorem ns_out {f : FuncId} {args : List AV} {A : List Box} {l : Nms} (h : ACalls Tryz.prog f args A (fun r A'=>∃ B,A' = A ++ B ∧ ((l = [] ∧ r = .nils) ∨ ∃ j,r = .own (A.length + j) ∧ j < B.length ∧ B.getD j .dead = .row 1 (aEs l) 0))) : ACalls Tryz.prog f args A (NsOut A l):=by
  refine ACalls.sub h fun r A' ⟨B,hA,h⟩=>?_
  subst hA
  have lo : ∀ (C : List Box) i,i < A.length → (A ++ C).getD i .dead = (A ++ B).getD i .dead:=fun C i hi=>by rw [Abs.getD_append_left hi,Abs.getD_append_left hi]
  rcases h with ⟨h1,h2⟩ | ⟨j,rfl,hj,hb⟩
  · refine ⟨A ++ List.replicate B.length .dead,by simp,fun i=>?_,B.length,.inl ⟨h1,h2,rfl⟩⟩
    by_cases hi : i < A.length
    · exact .inl (lo _ i hi)
    · refine .inr ?_
      rw [Abs.getD_append_right (by omega),List.getD_eq_getElem?_getD,List.getElem?_replicate]
      split <;> rfl
  · refine ⟨A ++ (List.replicate B.length Box.dead).set j (.row 1 (aEs l) 0),by simp,fun i=>?_,B.length,.inr ⟨j,hj,rfl,rfl⟩⟩
    by_cases hi : i < A.length
    · exact .inl (lo _ i hi)
    · rw [Abs.getD_append_right (by omega),Abs.getD_append_right (by omega)]
      by_cases hij : j = i - A.length
      · refine .inl ?_
        rw [← hij,hb]
        exact Abs.getD_set_self (by simpa using hj)
      · refine .inr ?_
        rw [Abs.getD_set_ne' hij,List.getD_eq_getElem?_getD,List.getElem?_replicate]
        split <;> rfl
end Go.Proofs.YtnjdbgiincliaaaGreat
/- The laws' searches among texts; the modules of a signature are few. -/
set_option linter.unusedVariables false
set_option linter.unusedSimpArgs false
namespace Go.Proofs.YtnjdbgiincliaaaGreat
open Go.Abs Go.RowKit
theorem md_small3 {s : List SigI} {l : Nms} (h : MdIs s l) : l.length ≤ 1000:=by
  rcases h with ⟨ys,h1,h2,_,rfl⟩ | ⟨_,rfl⟩
  · have h3:=(mdIs_of h1).1
    have h4:=insMs_len (mdIs ys) []
    have:=h1.1
    simp [srt] at h4 ⊢
    omega
  · simp
theorem md_ex3 (s : List SigI) : ∃ l,MdIs s l:=by
  cases h : sigB s with
  | true=>obtain ⟨ys,h1,h2,h3⟩:=rd_yes h; exact ⟨_,.inl ⟨ys,h2,h1,h3,rfl⟩⟩
  | false=>exact ⟨[],.inr ⟨h,rfl⟩⟩
end Go.Proofs.YtnjdbgiincliaaaGreat
