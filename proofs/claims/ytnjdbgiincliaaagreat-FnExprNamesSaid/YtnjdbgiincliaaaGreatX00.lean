/- Facts, Names, Types. -/
import Derived.Test.YtnjdbgiincliaaaGreatRows
import Derived.Test.YtnjdbgiincliaaaGreatAbsW3
/- Facts of this translation. -/
namespace Go.Proofs.YtnjdbgiincliaaaGreat
open Go.Abs
theorem za222 : zagg Tryz.prog 222 = some [.str [],.str []]:=by kernel_rfl
theorem za333 : zagg Tryz.prog 333 = some [.nili,.nili]:=by kernel_rfl
theorem ks406 : keyS Tryz.prog 406 = some [(0,.ptr 39),(1,.int .i64)]:=by kernel_rfl
theorem ks419 : keyS Tryz.prog 419 = some [(0,.ptr 36),(1,.int .i64)]:=by kernel_rfl
theorem mi165 : mapInf Tryz.prog 165 = some (419,[(0,.ptr 36),(1,.int .i64)],2,.agg [.nilp,.int .i64 0]):=by kernel_rfl
theorem mi229 : mapInf Tryz.prog 229 = some (406,[(0,.ptr 39),(1,.int .i64)],2,.agg [.nilp,.int .i64 0]):=by kernel_rfl
theorem mi331 : mapInf Tryz.prog 331 = some (222,[(0,.str),(1,.str)],2,.bool false):=by kernel_rfl
theorem ti3 : tinf Tryz.prog 3 = some { size:=1,bytes:=8,zero:=some [.int .i64 0],kind:=.int .i64 }:=by kernel_rfl
theorem ti5 : tinf Tryz.prog 5 = some { size:=1,bytes:=1,zero:=some [.int .u8 0],kind:=.int .u8 }:=by kernel_rfl
theorem ti9 : tinf Tryz.prog 9 = some { size:=1,bytes:=16,zero:=some [.str []],kind:=.str }:=by kernel_rfl
theorem ti34 : tinf Tryz.prog 34 = some { size:=1,bytes:=24,zero:=some [.nils],kind:=.slice 36 }:=by kernel_rfl
theorem ti36 : tinf Tryz.prog 36 = some { size:=4,bytes:=64,zero:=some [.int .i64 0,.str [],.str [],.nils],kind:=.struct [(0,3,1),(1,9,1),(2,9,1),(3,34,1)] }:=by kernel_rfl
theorem ti37 : tinf Tryz.prog 37 = some { size:=1,bytes:=24,zero:=some [.nils],kind:=.slice 39 }:=by kernel_rfl
theorem ti39 : tinf Tryz.prog 39 = some { size:=9,bytes:=136,zero:=some [.int .i64 0,.int .i64 0,.str [],.str [],.int .i64 0,.str [],.str [],.nils,.nils],kind:=.struct [(0,3,1),(1,3,1),(2,9,1),(3,9,1),(4,36,4),(8,37,1)] }:=by kernel_rfl
theorem ti48 : tinf Tryz.prog 48 = some { size:=1,bytes:=24,zero:=some [.nils],kind:=.slice 9 }:=by kernel_rfl
theorem ti57 : tinf Tryz.prog 57 = some { size:=1,bytes:=24,zero:=some [.nils],kind:=.slice 5 }:=by kernel_rfl
theorem ti67 : tinf Tryz.prog 67 = some { size:=1,bytes:=8,zero:=some [.nilf],kind:=.func }:=by kernel_rfl
theorem ti96 : tinf Tryz.prog 96 = some { size:=1,bytes:=8,zero:=some [.nilf],kind:=.func }:=by kernel_rfl
theorem ti99 : tinf Tryz.prog 99 = some { size:=1,bytes:=8,zero:=some [.nilf],kind:=.func }:=by kernel_rfl
theorem ti122 : tinf Tryz.prog 122 = some { size:=1,bytes:=16,zero:=some [.nili],kind:=.iface }:=by kernel_rfl
theorem ti163 : tinf Tryz.prog 163 = some { size:=1,bytes:=8,zero:=some [.nilf],kind:=.func }:=by kernel_rfl
theorem ti165 : tinf Tryz.prog 165 = some { size:=1,bytes:=8,zero:=some [.nilm],kind:=.map 419 419 }:=by kernel_rfl
theorem ti167 : tinf Tryz.prog 167 = some { size:=3,bytes:=24,zero:=some [.nilf,.nilf,.nilm],kind:=.struct [(0,67,1),(1,163,1),(2,165,1)] }:=by kernel_rfl
theorem ti175 : tinf Tryz.prog 175 = some { size:=1,bytes:=16,zero:=some [.nili],kind:=.iface }:=by kernel_rfl
theorem ti180 : tinf Tryz.prog 180 = some { size:=2,bytes:=32,zero:=some [.str [],.str []],kind:=.struct [(0,9,1),(1,9,1)] }:=by kernel_rfl
theorem ti220 : tinf Tryz.prog 220 = some { size:=1,bytes:=8,zero:=some [.nilf],kind:=.func }:=by kernel_rfl
theorem ti222 : tinf Tryz.prog 222 = some { size:=2,bytes:=32,zero:=some [.str [],.str []],kind:=.struct [(0,9,1),(1,9,1)] }:=by kernel_rfl
theorem ti229 : tinf Tryz.prog 229 = some { size:=1,bytes:=8,zero:=some [.nilm],kind:=.map 406 406 }:=by kernel_rfl
theorem ti231 : tinf Tryz.prog 231 = some { size:=3,bytes:=24,zero:=some [.nilf,.nilf,.nilm],kind:=.struct [(0,96,1),(1,99,1),(2,229,1)] }:=by kernel_rfl
theorem ti271 : tinf Tryz.prog 271 = some { size:=2,bytes:=32,zero:=some [.nils,.int .i64 0],kind:=.struct [(0,57,1),(1,3,1)] }:=by kernel_rfl
theorem ti273 : tinf Tryz.prog 273 = some { size:=1,bytes:=24,zero:=some [.nils],kind:=.slice 3 }:=by kernel_rfl
theorem ti327 : tinf Tryz.prog 327 = some { size:=1,bytes:=8,zero:=some [.int .i64 0],kind:=.int .i64 }:=by kernel_rfl
theorem ti329 : tinf Tryz.prog 329 = some { size:=1,bytes:=8,zero:=some [.int .i64 0],kind:=.struct [(0,327,1)] }:=by kernel_rfl
theorem ti331 : tinf Tryz.prog 331 = some { size:=1,bytes:=8,zero:=some [.nilm],kind:=.map 222 4 }:=by kernel_rfl
theorem ti333 : tinf Tryz.prog 333 = some { size:=2,bytes:=32,zero:=some [.nili,.nili],kind:=.struct [(0,175,1),(1,122,1)] }:=by kernel_rfl
theorem ti335 : tinf Tryz.prog 335 = some { size:=1,bytes:=24,zero:=some [.nils],kind:=.slice 122 }:=by kernel_rfl
theorem ti341 : tinf Tryz.prog 341 = some { size:=2,bytes:=48,zero:=some [.nils,.nils],kind:=.struct [(0,37,1),(1,37,1)] }:=by kernel_rfl
theorem ti342 : tinf Tryz.prog 342 = some { size:=1,bytes:=24,zero:=some [.nils],kind:=.slice 341 }:=by kernel_rfl
theorem ti345 : tinf Tryz.prog 345 = some { size:=1,bytes:=8,zero:=some [.int .i64 0],kind:=.struct [(0,3,1)] }:=by kernel_rfl
theorem ti366 : tinf Tryz.prog 366 = some { size:=2,bytes:=48,zero:=some [.nils,.nils],kind:=.struct [(0,34,1),(1,34,1)] }:=by kernel_rfl
theorem ti367 : tinf Tryz.prog 367 = some { size:=1,bytes:=24,zero:=some [.nils],kind:=.slice 366 }:=by kernel_rfl
theorem ti369 : tinf Tryz.prog 369 = some { size:=0,bytes:=0,zero:=some [],kind:=.struct [] }:=by kernel_rfl
theorem ti398 : tinf Tryz.prog 398 = some { size:=1,bytes:=8,zero:=some [.nilp],kind:=.ptr 329 }:=by kernel_rfl
theorem ti406 : tinf Tryz.prog 406 = some { size:=2,bytes:=16,zero:=some [.nilp,.int .i64 0],kind:=.struct [(0,404,1),(1,3,1)] }:=by kernel_rfl
theorem ti419 : tinf Tryz.prog 419 = some { size:=2,bytes:=16,zero:=some [.nilp,.int .i64 0],kind:=.struct [(0,417,1),(1,3,1)] }:=by kernel_rfl
theorem ti422 : tinf Tryz.prog 422 = some { size:=2,bytes:=32,zero:=some [.nili,.nili],kind:=.struct [(0,175,1),(1,175,1)] }:=by kernel_rfl
theorem ti439 : tinf Tryz.prog 439 = some { size:=1,bytes:=8,zero:=some [.int .i64 0],kind:=.struct [(0,3,1)] }:=by kernel_rfl
theorem ti441 : tinf Tryz.prog 441 = some { size:=2,bytes:=32,zero:=some [.nili,.nili],kind:=.struct [(0,122,1),(1,122,1)] }:=by kernel_rfl
theorem ti443 : tinf Tryz.prog 443 = some { size:=2,bytes:=32,zero:=some [.nili,.nili],kind:=.struct [(0,122,1),(1,122,1)] }:=by kernel_rfl
theorem ti445 : tinf Tryz.prog 445 = some { size:=3,bytes:=48,zero:=some [.nili,.nili,.nili],kind:=.struct [(0,122,1),(1,122,1),(2,122,1)] }:=by kernel_rfl
theorem ca38 : callable Tryz.prog 38 = true:=by kernel_rfl
theorem ca57 : callable Tryz.prog 57 = true:=by kernel_rfl
theorem ca59 : callable Tryz.prog 59 = true:=by kernel_rfl
theorem ca65 : callable Tryz.prog 65 = true:=by kernel_rfl
theorem ca66 : callable Tryz.prog 66 = true:=by kernel_rfl
theorem ca67 : callable Tryz.prog 67 = true:=by kernel_rfl
theorem ca80 : callable Tryz.prog 80 = true:=by kernel_rfl
theorem ca98 : callable Tryz.prog 98 = true:=by kernel_rfl
theorem ca101 : callable Tryz.prog 101 = true:=by kernel_rfl
theorem ca104 : callable Tryz.prog 104 = true:=by kernel_rfl
theorem ca108 : callable Tryz.prog 108 = true:=by kernel_rfl
theorem ca111 : callable Tryz.prog 111 = true:=by kernel_rfl
theorem ca115 : callable Tryz.prog 115 = true:=by kernel_rfl
theorem ca121 : callable Tryz.prog 121 = true:=by kernel_rfl
theorem ca140 : callable Tryz.prog 140 = true:=by kernel_rfl
theorem ca143 : callable Tryz.prog 143 = true:=by kernel_rfl
theorem ca144 : callable Tryz.prog 144 = true:=by kernel_rfl
theorem ca146 : callable Tryz.prog 146 = true:=by kernel_rfl
theorem ca147 : callable Tryz.prog 147 = true:=by kernel_rfl
theorem ca152 : callable Tryz.prog 152 = true:=by kernel_rfl
theorem ca153 : callable Tryz.prog 153 = true:=by kernel_rfl
theorem ca154 : callable Tryz.prog 154 = true:=by kernel_rfl
theorem ca172 : callable Tryz.prog 172 = true:=by kernel_rfl
theorem ca173 : callable Tryz.prog 173 = true:=by kernel_rfl
theorem ca186 : callable Tryz.prog 186 = true:=by kernel_rfl
theorem ca188 : callable Tryz.prog 188 = true:=by kernel_rfl
theorem ca189 : callable Tryz.prog 189 = true:=by kernel_rfl
theorem ca197 : callable Tryz.prog 197 = true:=by kernel_rfl
theorem ca198 : callable Tryz.prog 198 = true:=by kernel_rfl
theorem ca199 : callable Tryz.prog 199 = true:=by kernel_rfl
theorem ca204 : callable Tryz.prog 204 = true:=by kernel_rfl
theorem ca206 : callable Tryz.prog 206 = true:=by kernel_rfl
theorem ca207 : callable Tryz.prog 207 = true:=by kernel_rfl
theorem ca227 : callable Tryz.prog 227 = true:=by kernel_rfl
theorem ca230 : callable Tryz.prog 230 = true:=by kernel_rfl
theorem ca231 : callable Tryz.prog 231 = true:=by kernel_rfl
theorem ca234 : callable Tryz.prog 234 = true:=by kernel_rfl
theorem ca235 : callable Tryz.prog 235 = true:=by kernel_rfl
theorem ca242 : callable Tryz.prog 242 = true:=by kernel_rfl
theorem ca243 : callable Tryz.prog 243 = true:=by kernel_rfl
theorem ca245 : callable Tryz.prog 245 = true:=by kernel_rfl
theorem ca247 : callable Tryz.prog 247 = true:=by kernel_rfl
theorem ca250 : callable Tryz.prog 250 = true:=by kernel_rfl
theorem ca251 : callable Tryz.prog 251 = true:=by kernel_rfl
theorem ca256 : callable Tryz.prog 256 = true:=by kernel_rfl
theorem ca259 : callable Tryz.prog 259 = true:=by kernel_rfl
theorem ca260 : callable Tryz.prog 260 = true:=by kernel_rfl
theorem ca261 : callable Tryz.prog 261 = true:=by kernel_rfl
theorem ca266 : callable Tryz.prog 266 = true:=by kernel_rfl
theorem ca267 : callable Tryz.prog 267 = true:=by kernel_rfl
theorem ca275 : callable Tryz.prog 275 = true:=by kernel_rfl
theorem ca276 : callable Tryz.prog 276 = true:=by kernel_rfl
theorem ca277 : callable Tryz.prog 277 = true:=by kernel_rfl
theorem ca278 : callable Tryz.prog 278 = true:=by kernel_rfl
theorem ca280 : callable Tryz.prog 280 = true:=by kernel_rfl
theorem ca281 : callable Tryz.prog 281 = true:=by kernel_rfl
theorem ca282 : callable Tryz.prog 282 = true:=by kernel_rfl
theorem ca290 : callable Tryz.prog 290 = true:=by kernel_rfl
theorem ca302 : callable Tryz.prog 302 = true:=by kernel_rfl
theorem foll : Tryz.prog.follows .mixedOrders = true:=by kernel_rfl
theorem laid : laidOutB Tryz.prog = true:=by kernel_rfl
theorem ownk : ownKnob Tryz.prog.godebug = none:=by kernel_rfl
def cf (N : Nat) (vs : List Nat) : Cfg:={ own:=fun _=>false,N:=N,vs:=vs }
end Go.Proofs.YtnjdbgiincliaaaGreat
/- The names of types, values and modules: what the program's and the model's functions answer. -/
set_option linter.unusedVariables false
set_option linter.unusedSimpArgs false
namespace Go.Proofs.YtnjdbgiincliaaaGreat
open Go.Abs
def localB (s : List UInt8) : Bool:=s.length == 1 && (decide (97 ≤ (s.getD 0 0).toNat) && decide ((s.getD 0 0).toNat ≤ 122))
def moduleB (s : List UInt8) : Bool:=(s.length == 1 && (decide (65 ≤ (s.getD 0 0).toNat) && decide ((s.getD 0 0).toNat ≤ 90))) && !decide (s = [73])
theorem local_no (s : List UInt8) (h : ¬ (s.length : Int) = 1) : localB s = false:=by
  have : s.length ≠ 1:=by omega
  simp [localB,this]
theorem local_lo (s : List UInt8) (h : ¬ (97 : Int) ≤ (s.getD 0 0).toNat) : localB s = false:=by
  have : ¬ 97 ≤ (s.getD 0 0).toNat:=by omega
  unfold localB; rw [decide_eq_false this]; simp
theorem local_hi (s : List UInt8) (h1 : (s.length : Int) = 1) (h : (97 : Int) ≤ (s.getD 0 0).toNat) : localB s = decide (((s.getD 0 0).toNat : Int) ≤ 122):=by
  have e1 : s.length = 1:=by omega
  have e2 : 97 ≤ (s.getD 0 0).toNat:=by omega
  unfold localB; rw [decide_eq_true e2,e1]
  rw [Bool.eq_iff_iff]; simp; omega
theorem module_no (s : List UInt8) (h : ¬ (s.length : Int) = 1) : moduleB s = false:=by
  have : s.length ≠ 1:=by omega
  simp [moduleB,this]
theorem module_lo (s : List UInt8) (h : ¬ (65 : Int) ≤ (s.getD 0 0).toNat) : moduleB s = false:=by
  have : ¬ 65 ≤ (s.getD 0 0).toNat:=by omega
  unfold moduleB; rw [decide_eq_false this]; simp
theorem module_up (s : List UInt8) (h : ¬ ((s.getD 0 0).toNat : Int) ≤ 90) : moduleB s = false:=by
  have : ¬ (s.getD 0 0).toNat ≤ 90:=by omega
  unfold moduleB; rw [decide_eq_false this]; simp
theorem module_hi (s : List UInt8) (h1 : (s.length : Int) = 1) (h : (65 : Int) ≤ (s.getD 0 0).toNat) (h2 : ((s.getD 0 0).toNat : Int) ≤ 90) : moduleB s = !decide (s = [73]):=by
  have e1 : s.length = 1:=by omega
  have e2 : 65 ≤ (s.getD 0 0).toNat:=by omega
  have e3 : (s.getD 0 0).toNat ≤ 90:=by omega
  unfold moduleB; rw [decide_eq_true e2,decide_eq_true e3,e1]; simp
set_option maxRecDepth 100000 in
theorem impl_LocalName (s : List UInt8) (A : List Box) : ACalls Tryz.prog 250 [.str s] A (fun v A'=>v = .bool (localB s) ∧ A' = A):=by
  refine acalls_enter (cf:=cf 16 [0,2]) foll Tryz.func250 Tryz.ntmps250 (by simp [cf]) ?_
  simp only [Tryz.f250,EnterK_some,zW,zX,zD,builtinA,isLeaf,const1,ustrA,simprocAttr,ti3,ti5,ti9,cf,Tryz.results250]
  repeat' first
    | (refine guardT_intro (fun h=>?_) (fun h=>?_) <;> (try simp only [decide_eq_true_eq,decide_eq_false_iff_not,Bool.not_eq_eq_eq_not,Bool.not_true,Bool.not_false] at h) <;> simp only [zW,zX,zD,builtinA,isLeaf,const1,ustrA,simprocAttr,ti3,ti5,ti9,cf,Tryz.results250,h])
    | (refine guardF_intro (fun h=>?_) (fun h=>?_) <;> (try simp only [decide_eq_true_eq,decide_eq_false_iff_not,Bool.not_eq_eq_eq_not,Bool.not_true,Bool.not_false] at h) <;> simp only [zW,zX,zD,builtinA,isLeaf,const1,ustrA,simprocAttr,ti3,ti5,ti9,cf,Tryz.results250,h])
    | (refine condK_intro (fun h=>?_) (fun h=>?_) <;> (try simp only [decide_eq_true_eq,decide_eq_false_iff_not,Bool.not_eq_eq_eq_not,Bool.not_true,Bool.not_false] at h) <;> simp only [zW,zX,zD,builtinA,isLeaf,const1,ustrA,simprocAttr,ti3,ti5,ti9,cf,Tryz.results250,h])
    | (refine guardDT_intro (fun h=>?_) (fun h=>?_) <;> (try simp only [decide_eq_true_eq,decide_eq_false_iff_not,Bool.not_eq_eq_eq_not,Bool.not_true,Bool.not_false] at h) <;> simp only [zW,zX,zD,builtinA,isLeaf,const1,ustrA,simprocAttr,ti3,ti5,ti9,cf,Tryz.results250,h])
    | (refine guardDF_intro (fun h=>?_) (fun h=>?_) <;> (try simp only [decide_eq_true_eq,decide_eq_false_iff_not,Bool.not_eq_eq_eq_not,Bool.not_true,Bool.not_false] at h) <;> simp only [zW,zX,zD,builtinA,isLeaf,const1,ustrA,simprocAttr,ti3,ti5,ti9,cf,Tryz.results250,h])
    | refine And.intro ?_ ?_
  · omega
  · rename_i h1
    rw [local_hi s h1 h]
  · rw [local_lo s ‹_›]
  · rw [local_no s ‹_›]
set_option maxRecDepth 100000 in
theorem spec_LocalName (s : List UInt8) (A : List Box) : ACalls Tryz.prog 245 [.str s] A (fun v A'=>v = .bool (localB s) ∧ A' = A):=by
  refine acalls_enter (cf:=cf 16 [0,2]) foll Tryz.func245 Tryz.ntmps245 (by simp [cf]) ?_
  simp only [Tryz.f245,EnterK_some,zW,zX,zD,builtinA,isLeaf,const1,ustrA,simprocAttr,ti3,ti5,ti9,cf,Tryz.results245]
  repeat' first
    | (refine guardT_intro (fun h=>?_) (fun h=>?_) <;> (try simp only [decide_eq_true_eq,decide_eq_false_iff_not,Bool.not_eq_eq_eq_not,Bool.not_true,Bool.not_false] at h) <;> simp only [zW,zX,zD,builtinA,isLeaf,const1,ustrA,simprocAttr,ti3,ti5,ti9,cf,Tryz.results245,h])
    | (refine guardF_intro (fun h=>?_) (fun h=>?_) <;> (try simp only [decide_eq_true_eq,decide_eq_false_iff_not,Bool.not_eq_eq_eq_not,Bool.not_true,Bool.not_false] at h) <;> simp only [zW,zX,zD,builtinA,isLeaf,const1,ustrA,simprocAttr,ti3,ti5,ti9,cf,Tryz.results245,h])
    | (refine condK_intro (fun h=>?_) (fun h=>?_) <;> (try simp only [decide_eq_true_eq,decide_eq_false_iff_not,Bool.not_eq_eq_eq_not,Bool.not_true,Bool.not_false] at h) <;> simp only [zW,zX,zD,builtinA,isLeaf,const1,ustrA,simprocAttr,ti3,ti5,ti9,cf,Tryz.results245,h])
    | (refine guardDT_intro (fun h=>?_) (fun h=>?_) <;> (try simp only [decide_eq_true_eq,decide_eq_false_iff_not,Bool.not_eq_eq_eq_not,Bool.not_true,Bool.not_false] at h) <;> simp only [zW,zX,zD,builtinA,isLeaf,const1,ustrA,simprocAttr,ti3,ti5,ti9,cf,Tryz.results245,h])
    | (refine guardDF_intro (fun h=>?_) (fun h=>?_) <;> (try simp only [decide_eq_true_eq,decide_eq_false_iff_not,Bool.not_eq_eq_eq_not,Bool.not_true,Bool.not_false] at h) <;> simp only [zW,zX,zD,builtinA,isLeaf,const1,ustrA,simprocAttr,ti3,ti5,ti9,cf,Tryz.results245,h])
    | refine And.intro ?_ ?_
  · omega
  · rename_i h1
    rw [local_hi s h1 h]
  · rw [local_lo s ‹_›]
  · rw [local_no s ‹_›]
set_option maxRecDepth 100000 in
theorem impl_ModuleName (s : List UInt8) (A : List Box) : ACalls Tryz.prog 38 [.str s] A (fun v A'=>v = .bool (moduleB s) ∧ A' = A):=by
  refine acalls_enter (cf:=cf 20 [0,2]) foll Tryz.func38 Tryz.ntmps38 (by simp [cf]) ?_
  simp only [Tryz.f38,EnterK_some,zW,zX,zD,builtinA,isLeaf,const1,ustrA,simprocAttr,ti3,ti5,ti9,cf,Tryz.results38]
  repeat' first
    | (refine guardT_intro (fun h=>?_) (fun h=>?_) <;> (try simp only [decide_eq_true_eq,decide_eq_false_iff_not,Bool.not_eq_eq_eq_not,Bool.not_true,Bool.not_false] at h) <;> simp only [zW,zX,zD,builtinA,isLeaf,const1,ustrA,simprocAttr,ti3,ti5,ti9,cf,Tryz.results38,h])
    | (refine guardF_intro (fun h=>?_) (fun h=>?_) <;> (try simp only [decide_eq_true_eq,decide_eq_false_iff_not,Bool.not_eq_eq_eq_not,Bool.not_true,Bool.not_false] at h) <;> simp only [zW,zX,zD,builtinA,isLeaf,const1,ustrA,simprocAttr,ti3,ti5,ti9,cf,Tryz.results38,h])
    | (refine condK_intro (fun h=>?_) (fun h=>?_) <;> (try simp only [decide_eq_true_eq,decide_eq_false_iff_not,Bool.not_eq_eq_eq_not,Bool.not_true,Bool.not_false] at h) <;> simp only [zW,zX,zD,builtinA,isLeaf,const1,ustrA,simprocAttr,ti3,ti5,ti9,cf,Tryz.results38,h])
    | (refine guardDT_intro (fun h=>?_) (fun h=>?_) <;> (try simp only [decide_eq_true_eq,decide_eq_false_iff_not,Bool.not_eq_eq_eq_not,Bool.not_true,Bool.not_false] at h) <;> simp only [zW,zX,zD,builtinA,isLeaf,const1,ustrA,simprocAttr,ti3,ti5,ti9,cf,Tryz.results38,h])
    | (refine guardDF_intro (fun h=>?_) (fun h=>?_) <;> (try simp only [decide_eq_true_eq,decide_eq_false_iff_not,Bool.not_eq_eq_eq_not,Bool.not_true,Bool.not_false] at h) <;> simp only [zW,zX,zD,builtinA,isLeaf,const1,ustrA,simprocAttr,ti3,ti5,ti9,cf,Tryz.results38,h])
    | refine And.intro ?_ ?_
  · omega
  · rename_i h1 h2
    rw [module_hi s h1 h2 h]
  · rw [module_up s ‹_›]
  · rw [module_lo s ‹_›]
  · rw [module_no s ‹_›]
set_option maxRecDepth 100000 in
theorem spec_ModuleName (s : List UInt8) (A : List Box) : ACalls Tryz.prog 104 [.str s] A (fun v A'=>v = .bool (moduleB s) ∧ A' = A):=by
  refine acalls_enter (cf:=cf 20 [0,2]) foll Tryz.func104 Tryz.ntmps104 (by simp [cf]) ?_
  simp only [Tryz.f104,EnterK_some,zW,zX,zD,builtinA,isLeaf,const1,ustrA,simprocAttr,ti3,ti5,ti9,cf,Tryz.results104]
  repeat' first
    | (refine guardT_intro (fun h=>?_) (fun h=>?_) <;> (try simp only [decide_eq_true_eq,decide_eq_false_iff_not,Bool.not_eq_eq_eq_not,Bool.not_true,Bool.not_false] at h) <;> simp only [zW,zX,zD,builtinA,isLeaf,const1,ustrA,simprocAttr,ti3,ti5,ti9,cf,Tryz.results104,h])
    | (refine guardF_intro (fun h=>?_) (fun h=>?_) <;> (try simp only [decide_eq_true_eq,decide_eq_false_iff_not,Bool.not_eq_eq_eq_not,Bool.not_true,Bool.not_false] at h) <;> simp only [zW,zX,zD,builtinA,isLeaf,const1,ustrA,simprocAttr,ti3,ti5,ti9,cf,Tryz.results104,h])
    | (refine condK_intro (fun h=>?_) (fun h=>?_) <;> (try simp only [decide_eq_true_eq,decide_eq_false_iff_not,Bool.not_eq_eq_eq_not,Bool.not_true,Bool.not_false] at h) <;> simp only [zW,zX,zD,builtinA,isLeaf,const1,ustrA,simprocAttr,ti3,ti5,ti9,cf,Tryz.results104,h])
    | (refine guardDT_intro (fun h=>?_) (fun h=>?_) <;> (try simp only [decide_eq_true_eq,decide_eq_false_iff_not,Bool.not_eq_eq_eq_not,Bool.not_true,Bool.not_false] at h) <;> simp only [zW,zX,zD,builtinA,isLeaf,const1,ustrA,simprocAttr,ti3,ti5,ti9,cf,Tryz.results104,h])
    | (refine guardDF_intro (fun h=>?_) (fun h=>?_) <;> (try simp only [decide_eq_true_eq,decide_eq_false_iff_not,Bool.not_eq_eq_eq_not,Bool.not_true,Bool.not_false] at h) <;> simp only [zW,zX,zD,builtinA,isLeaf,const1,ustrA,simprocAttr,ti3,ti5,ti9,cf,Tryz.results104,h])
    | refine And.intro ?_ ?_
  · omega
  · rename_i h1 h2
    rw [module_hi s h1 h2 h]
  · rw [module_up s ‹_›]
  · rw [module_lo s ‹_›]
  · rw [module_no s ‹_›]
set_option maxRecDepth 100000 in
theorem impl_validName (m n : List UInt8) (A : List Box) : ACalls Tryz.prog 261 [.str m,.str n] A (fun v A'=>v = .bool ((decide (m = []) || moduleB m) && localB n) ∧ A' = A):=by
  refine acalls_enter (cf:=cf 15 [0,1,4]) foll Tryz.func261 Tryz.ntmps261 (by simp [cf]) ?_
  simp only [Tryz.f261,EnterK_some,zW,zX,zD,builtinA,isLeaf,const1,ustrA,simprocAttr,ti9,ca38,ca250,cf,Tryz.results261]
  by_cases hm : m = []
  · simp only [zW,zX,zD,builtinA,isLeaf,const1,ustrA,simprocAttr,ti9,ca38,ca250,cf,Tryz.results261,decide_eq_true hm]
    refine callK_intro (by simp only [zW,zX,zD,builtinA,isLeaf,const1,ustrA,simprocAttr,Option.map_some]; rfl) (impl_LocalName n _) ?_ rfl; rintro v A' ⟨rfl,rfl⟩
    simp only [zW,zX,zD,builtinA,isLeaf,const1,ustrA,simprocAttr,ti9,ca38,ca250,cf,Tryz.results261]
  · simp only [zW,zX,zD,builtinA,isLeaf,const1,ustrA,simprocAttr,ti9,ca38,ca250,cf,Tryz.results261,decide_eq_false hm]
    refine callK_intro (by simp only [zW,zX,zD,builtinA,isLeaf,const1,ustrA,simprocAttr,Option.map_some]; rfl) (impl_ModuleName m _) ?_ rfl; rintro v A' ⟨rfl,rfl⟩
    cases hmm : moduleB m with
    | true =>
      simp only [zW,zX,zD,builtinA,isLeaf,const1,ustrA,simprocAttr,ti9,ca38,ca250,cf,Tryz.results261]
      refine callK_intro (by simp only [zW,zX,zD,builtinA,isLeaf,const1,ustrA,simprocAttr,Option.map_some]; rfl) (impl_LocalName n _) ?_ rfl; rintro v A' ⟨rfl,rfl⟩
      simp only [zW,zX,zD,builtinA,isLeaf,const1,ustrA,simprocAttr,ti9,ca38,ca250,cf,Tryz.results261]
    | false =>
      simp only [zW,zX,zD,builtinA,isLeaf,const1,ustrA,simprocAttr,ti9,ca38,ca250,cf,Tryz.results261]
end Go.Proofs.YtnjdbgiincliaaaGreat
/- Types as trees, and what the functions on them answer. -/
set_option linter.unusedVariables false
set_option linter.unusedSimpArgs false
namespace Go.Proofs.YtnjdbgiincliaaaGreat
open Go.Abs
inductive Ty where
  | mk (kind : Int) (mod name : List UInt8) (kids : List Ty)
noncomputable instance instTyDec : DecidableEq Ty:=fun a b=>Classical.propDecidable (a = b)
def Ty.kind : Ty → Int | .mk k _ _ _=>k
def Ty.mod : Ty → List UInt8 | .mk _ m _ _=>m
def Ty.name : Ty → List UInt8 | .mk _ _ n _=>n
def Ty.kids : Ty → List Ty | .mk _ _ _ ks=>ks
theorem Ty.ind {M : Ty → Prop} (h : ∀ k m n ks,(∀ t ∈ ks,M t) → M (.mk k m n ks)) : ∀ t,M t
  | .mk k m n ks=>h k m n ks fun t ht=>Ty.ind h t
termination_by t=>SizeOf.sizeOf t
decreasing_by
  have:=List.sizeOf_lt_of_mem ht
  simp only [Ty.mk.sizeOf_spec]
  omega
mutual
def enc : Ty → List AV
  | .mk k m n ks=>[.int .i64 k,.str m,.str n,.slice (encs ks)]
def encs : List Ty → List (List AV)
  | []=>[]
  | t :: l=>enc t :: encs l
end
mutual
def sz : Ty → Nat
  | .mk _ m n ks=>m.length + n.length + (ks.length + szs ks)
def szs : List Ty → Nat
  | []=>0
  | t :: l=>sz t + szs l
end
mutual
def count : Ty → Nat
  | .mk _ _ _ ks=>1 + counts ks
def counts : List Ty → Nat
  | []=>0
  | t :: l=>count t + counts l
end
inductive Ty.Ok : Ty → Prop
  | mk {k : Int} {m n : List UInt8} {ks : List Ty} : m.length < 2 ^ 63 → n.length < 2 ^ 63 → ks.length < 2 ^ 63 → (∀ t ∈ ks,Ty.Ok t) → Ty.Ok (.mk k m n ks)
def ty0 : Ty:=.mk 0 [] [] []
theorem encs_map : ∀ l,encs l = l.map enc
  | []=>rfl
  | t :: l=>by rw [encs,encs_map l]; rfl
theorem encs_length (l : List Ty) : (encs l).length = l.length:=by rw [encs_map]; simp
theorem encs_getD {l : List Ty} {i : Nat} (h : i < l.length) : (encs l).getD i [] = enc (l.getD i ty0):=by
  rw [encs_map]; simp [List.getD,h]
theorem enc_length (t : Ty) : (enc t).length = 4:=by cases t; rw [enc]; rfl
theorem enc_take (t : Ty) : List.take 4 (enc t) = enc t:=by cases t; rw [enc]; rfl
theorem enc_leaf (t : Ty) : ∀ v ∈ enc t,isLeaf v = true:=by cases t; rw [enc]; simp [isLeaf]
theorem frzL_enc (t : Ty) (A : List Box) : frzL (enc t) A = some (enc t,A):=by cases t; rw [enc]; rfl
theorem getD_mem {l : List Ty} {i : Nat} (h : i < l.length) : l.getD i ty0 ∈ l:=by simp [List.getD,h]
theorem szs_mem {t : Ty} {l : List Ty} (h : t ∈ l) : sz t ≤ szs l:=by
  induction l with
  | nil=>simp at h
  | cons u l ih =>
    rw [szs]
    rcases List.mem_cons.1 h with rfl | h
    · omega
    · have:=ih h; omega
theorem counts_take {l : List Ty} {i : Nat} (h : i < l.length) : counts (l.take (i + 1)) = counts (l.take i) + count (l.getD i ty0):=by
  induction l generalizing i with
  | nil=>simp at h
  | cons t l ih =>
    cases i with
    | zero=>simp [counts,List.getD]
    | succ i =>
      have:=ih (i:=i) (by simpa using h)
      simp only [List.take_succ_cons,counts,List.getD_cons_succ] at this ⊢
      omega
theorem wrap64 {n : Int} (h : -(2 ^ 63) ≤ n) (h' : n < 2 ^ 63) : IntKind.i64.wrap n = n:=by
  simp [IntKind.wrap,IntKind.signed,IntKind.bits]
  omega
def left (l : Int) (n : Nat) : Int:=if (n : Int) ≤ l then l - n else -1
def intOf : AV → Int
  | .int _ n=>n
  | _=>0
def ownB (k : Int) (m n : List UInt8) : Bool:=if k = 3 then localB n && (decide (m = []) || moduleB m) else decide (n = []) && decide (m = [])
def kidsOf (k : Int) : Int:=if k = 1 then 0 else if k = 3 then 0 else if k = 2 then 2 else -1
mutual
def shape : Ty → Int → Bool
  | .mk k m n ks,d=>decide (1 ≤ d) && (decide (kidsOf k = ks.length) && ownB k m n) && shapes ks (d - 1)
def shapes : List Ty → Int → Bool
  | [],_=>true
  | t :: l,d=>shape t d && shapes l d
end
theorem shapes_take {l : List Ty} {i : Nat} (h : i < l.length) (d : Int) : shapes (l.take (i + 1)) d = (shapes (l.take i) d && shape (l.getD i ty0) d):=by
  induction l generalizing i with
  | nil=>simp at h
  | cons t l ih =>
    cases i with
    | zero=>simp [shapes,List.getD]
    | succ i =>
      have:=ih (i:=i) (by simpa using h)
      simp only [List.take_succ_cons,shapes,List.getD_cons_succ] at this ⊢
      rw [this,Bool.and_assoc]
theorem shapes_false {l : List Ty} {i : Nat} {d : Int} (h : i < l.length) (hs : shape (l.getD i ty0) d = false) : shapes l d = false:=by
  induction l generalizing i with
  | nil=>simp at h
  | cons t l ih =>
    rw [shapes]
    cases i with
    | zero=>have : shape t d = false:=hs; rw [this]; rfl
    | succ i=>rw [ih (i:=i) (by simpa using h) (by simpa using hs)]; simp
theorem counts_le (l : List Ty) : ∀ i,counts (l.take i) ≤ counts l:=by
  induction l with
  | nil=>intro i; simp [counts]
  | cons t l ih =>
    intro i
    cases i with
    | zero=>simp [counts]
    | succ i=>simp only [List.take_succ_cons,counts]; have:=ih i; omega
mutual
theorem count_sz : ∀ t,count t ≤ 1 + sz t
  | .mk k m n ks=>by rw [count,sz]; have:=counts_szs ks; omega
theorem counts_szs : ∀ l,counts l ≤ l.length + szs l
  | []=>by simp [counts]
  | t :: l=>by rw [counts,szs,List.length_cons]; have:=count_sz t; have:=counts_szs l; omega
end
set_option maxRecDepth 100000 in
theorem spec_l1Kids (k : Int) (A : List Box) : ACalls Tryz.prog 266 [.int .i64 k] A (fun v A'=>v = .int .i64 (kidsOf k) ∧ A' = A):=by
  refine acalls_enter (cf:=cf 9 [0,2,3,4,7]) foll Tryz.func266 Tryz.ntmps266 (by simp [cf]) ?_
  simp only [Tryz.f266,EnterK_some,zW,zX,zD,builtinA,isLeaf,const1,ustrA,simprocAttr,ti3,cf,Tryz.results266]
  repeat' first
    | (refine guardT_intro (fun h=>?_) (fun h=>?_) <;> (try simp only [decide_eq_true_eq,decide_eq_false_iff_not,Bool.not_eq_eq_eq_not,Bool.not_true,Bool.not_false] at h) <;> simp only [zW,zX,zD,builtinA,isLeaf,const1,ustrA,simprocAttr,ti3,cf,Tryz.results266,h])
    | (refine guardF_intro (fun h=>?_) (fun h=>?_) <;> (try simp only [decide_eq_true_eq,decide_eq_false_iff_not,Bool.not_eq_eq_eq_not,Bool.not_true,Bool.not_false] at h) <;> simp only [zW,zX,zD,builtinA,isLeaf,const1,ustrA,simprocAttr,ti3,cf,Tryz.results266,h])
    | (refine condK_intro (fun h=>?_) (fun h=>?_) <;> (try simp only [decide_eq_true_eq,decide_eq_false_iff_not,Bool.not_eq_eq_eq_not,Bool.not_true,Bool.not_false] at h) <;> simp only [zW,zX,zD,builtinA,isLeaf,const1,ustrA,simprocAttr,ti3,cf,Tryz.results266,h])
    | (refine guardDT_intro (fun h=>?_) (fun h=>?_) <;> (try simp only [decide_eq_true_eq,decide_eq_false_iff_not,Bool.not_eq_eq_eq_not,Bool.not_true,Bool.not_false] at h) <;> simp only [zW,zX,zD,builtinA,isLeaf,const1,ustrA,simprocAttr,ti3,cf,Tryz.results266,h])
    | (refine guardDF_intro (fun h=>?_) (fun h=>?_) <;> (try simp only [decide_eq_true_eq,decide_eq_false_iff_not,Bool.not_eq_eq_eq_not,Bool.not_true,Bool.not_false] at h) <;> simp only [zW,zX,zD,builtinA,isLeaf,const1,ustrA,simprocAttr,ti3,cf,Tryz.results266,h])
    | refine And.intro ?_ ?_
  · subst h; rfl
  · subst h; rfl
  · subst h; rfl
  · rw [kidsOf,if_neg ‹_›,if_neg ‹_›,if_neg ‹_›]
set_option maxRecDepth 100000 in
theorem spec_l1Own (k : Int) (m n : List UInt8) (ks : List (List AV)) (A : List Box) : ACalls Tryz.prog 267 [.agg [.int .i64 k,.str m,.str n,.slice ks]] A (fun v A'=>v = .bool (ownB k m n) ∧ A' = A):=by
  refine acalls_enter (cf:=cf 27 [0,1,2,5]) foll Tryz.func267 Tryz.ntmps267 (by simp [cf]) ?_
  simp only [Tryz.f267,EnterK_some,zW,zX,zD,builtinA,isLeaf,const1,ustrA,simprocAttr,ti3,ti9,ti36,ca104,ca245,cf,Tryz.results267]
  repeat' first
    | (refine guardT_intro (fun h=>?_) (fun h=>?_) <;> (try simp only [decide_eq_true_eq,decide_eq_false_iff_not,Bool.not_eq_eq_eq_not,Bool.not_true,Bool.not_false] at h) <;> simp only [zW,zX,zD,builtinA,isLeaf,const1,ustrA,simprocAttr,ti3,ti9,ti36,ca104,ca245,cf,Tryz.results267,h])
    | (refine guardF_intro (fun h=>?_) (fun h=>?_) <;> (try simp only [decide_eq_true_eq,decide_eq_false_iff_not,Bool.not_eq_eq_eq_not,Bool.not_true,Bool.not_false] at h) <;> simp only [zW,zX,zD,builtinA,isLeaf,const1,ustrA,simprocAttr,ti3,ti9,ti36,ca104,ca245,cf,Tryz.results267,h])
    | (refine condK_intro (fun h=>?_) (fun h=>?_) <;> (try simp only [decide_eq_true_eq,decide_eq_false_iff_not,Bool.not_eq_eq_eq_not,Bool.not_true,Bool.not_false] at h) <;> simp only [zW,zX,zD,builtinA,isLeaf,const1,ustrA,simprocAttr,ti3,ti9,ti36,ca104,ca245,cf,Tryz.results267,h])
    | (refine guardDT_intro (fun h=>?_) (fun h=>?_) <;> (try simp only [decide_eq_true_eq,decide_eq_false_iff_not,Bool.not_eq_eq_eq_not,Bool.not_true,Bool.not_false] at h) <;> simp only [zW,zX,zD,builtinA,isLeaf,const1,ustrA,simprocAttr,ti3,ti9,ti36,ca104,ca245,cf,Tryz.results267,h])
    | (refine guardDF_intro (fun h=>?_) (fun h=>?_) <;> (try simp only [decide_eq_true_eq,decide_eq_false_iff_not,Bool.not_eq_eq_eq_not,Bool.not_true,Bool.not_false] at h) <;> simp only [zW,zX,zD,builtinA,isLeaf,const1,ustrA,simprocAttr,ti3,ti9,ti36,ca104,ca245,cf,Tryz.results267,h])
    | refine And.intro ?_ ?_
  · subst h
    refine callK_intro (by simp only [zW,zX,zD,builtinA,isLeaf,const1,ustrA,simprocAttr]; rfl) (spec_LocalName _ _) ?_ rfl; rintro v A' ⟨rfl,rfl⟩
    rw [ownB,if_pos rfl]
    simp only [zW,zX,zD,builtinA,isLeaf,const1,ustrA,simprocAttr,ti3,ti9,ti36,ca104,ca245,cf,Tryz.results267]
    repeat' first
      | (refine guardT_intro (fun h=>?_) (fun h=>?_) <;> (try simp only [decide_eq_true_eq,decide_eq_false_iff_not,Bool.not_eq_eq_eq_not,Bool.not_true,Bool.not_false] at h) <;> simp only [zW,zX,zD,builtinA,isLeaf,const1,ustrA,simprocAttr,ti3,ti9,ti36,ca104,ca245,cf,Tryz.results267,h])
      | (refine guardF_intro (fun h=>?_) (fun h=>?_) <;> (try simp only [decide_eq_true_eq,decide_eq_false_iff_not,Bool.not_eq_eq_eq_not,Bool.not_true,Bool.not_false] at h) <;> simp only [zW,zX,zD,builtinA,isLeaf,const1,ustrA,simprocAttr,ti3,ti9,ti36,ca104,ca245,cf,Tryz.results267,h])
      | (refine condK_intro (fun h=>?_) (fun h=>?_) <;> (try simp only [decide_eq_true_eq,decide_eq_false_iff_not,Bool.not_eq_eq_eq_not,Bool.not_true,Bool.not_false] at h) <;> simp only [zW,zX,zD,builtinA,isLeaf,const1,ustrA,simprocAttr,ti3,ti9,ti36,ca104,ca245,cf,Tryz.results267,h])
      | (refine guardDT_intro (fun h=>?_) (fun h=>?_) <;> (try simp only [decide_eq_true_eq,decide_eq_false_iff_not,Bool.not_eq_eq_eq_not,Bool.not_true,Bool.not_false] at h) <;> simp only [zW,zX,zD,builtinA,isLeaf,const1,ustrA,simprocAttr,ti3,ti9,ti36,ca104,ca245,cf,Tryz.results267,h])
      | (refine guardDF_intro (fun h=>?_) (fun h=>?_) <;> (try simp only [decide_eq_true_eq,decide_eq_false_iff_not,Bool.not_eq_eq_eq_not,Bool.not_true,Bool.not_false] at h) <;> simp only [zW,zX,zD,builtinA,isLeaf,const1,ustrA,simprocAttr,ti3,ti9,ti36,ca104,ca245,cf,Tryz.results267,h])
      | refine And.intro ?_ ?_
    · refine callK_intro (by simp only [zW,zX,zD,builtinA,isLeaf,const1,ustrA,simprocAttr]; rfl) (spec_ModuleName _ _) ?_ rfl; rintro v A' ⟨rfl,rfl⟩
      simp only [zW,zX,zD,builtinA,isLeaf,const1,ustrA,simprocAttr,ti3,ti9,ti36,ca104,ca245,cf,Tryz.results267]
  · subst h; rw [ownB,if_neg ‹_›]; simp
  · rw [ownB,if_neg ‹_›]; simp [h]
set_option maxRecDepth 100000 in
theorem spec_l1Shape (τ : Ty) (hτ : τ.Ok) : ∀ (d : Int) (A : List Box),-1000 ≤ d → d ≤ 1000 → ACalls Tryz.prog 206 [.agg (enc τ),.int .i64 d] A (fun v A'=>v = .bool (shape τ d) ∧ A' = A):=by
  induction τ using Ty.ind with
  | h k m n ks ih =>
    intro d A h0 h1
    obtain ⟨hm,hn,hks,hok⟩:=hτ
    rw [enc,shape]
    refine acalls_enter (cf:=cf 38 [0,1,2,4,5,21,26,37]) foll Tryz.func206 Tryz.ntmps206 (by simp [cf]) ?_
    simp only [Tryz.f206,EnterK_some,zW,zX,zD,builtinA,isLeaf,const1,ustrA,simprocAttr,ti3,ti34,ti36,ca206,ca266,ca267,cf,Tryz.results206]
    refine .inl ⟨by kernel_rfl,by kernel_rfl,?_⟩
    by_cases hd : d < 1
    · simp only [decide_eq_true hd]
      simp only [zW,zX,zD,builtinA,isLeaf,const1,ustrA,simprocAttr,ti3,ti34,ti36,ca206,ca266,ca267,cf,Tryz.results206]
      rw [decide_eq_false (show ¬ (1 : Int) ≤ d by omega)]
      rfl
    · simp only [decide_eq_false hd]
      simp only [zW,zX,zD,builtinA,isLeaf,const1,ustrA,simprocAttr,ti3,ti34,ti36,ca206,ca266,ca267,cf,Tryz.results206]
      refine callD_intro (by simp only [zW,zX,zD,builtinA,isLeaf,const1,ustrA,simprocAttr,Option.map_some] <;> rfl) (spec_l1Kids k _) ?_ rfl
      rw [decide_eq_true (show (1 : Int) ≤ d by omega)]
      by_cases hk : kidsOf k = ks.length
      · simp only [zW,zX,zD,builtinA,isLeaf,const1,ustrA,simprocAttr,ti3,ti34,ti36,ca206,ca266,ca267,cf,Tryz.results206,encs_length,decide_eq_true hk]
        refine callD_intro (by simp only [zW,zX,zD,builtinA,isLeaf,const1,ustrA,simprocAttr,Option.map_some] <;> rfl) (spec_l1Own k m n _ _) ?_ rfl
        by_cases ho : ownB k m n = true
        · simp only [zW,zX,zD,builtinA,isLeaf,const1,ustrA,simprocAttr,ti3,ti34,ti36,ca206,ca266,ca267,cf,Tryz.results206,ho]
          have hw : IntKind.i64.wrap (d - 1) = d - 1:=wrap64 (by omega) (by omega)
          refine aloop_intro [1,2,5] (fun e A'=>∃ i,i ≤ ks.length ∧ shapes (ks.take i) (d - 1) = true ∧ e = [(1,.int .i64 d),(2,.ptr A.length 0),(5,.int .i64 i)] ∧ A' = A ++ [.cells [.int .i64 k,.str m,.str n,.slice (encs ks)]]) (fun e _=>ks.length - (intOf (Abs.look 5 e)).toNat) ?_ ?_
          · simp only [zW,zX,zD,builtinA,isLeaf,const1,ustrA,simprocAttr,ti3,ti34,ti36,ca206,ca266,ca267,cf,Tryz.results206]
            exact ⟨0,by omega,by simp [shapes],rfl⟩
          · rintro e A' ⟨i,hi,hsh,rfl,rfl⟩
            simp only [zW,zX,zD,builtinA,isLeaf,const1,ustrA,simprocAttr,ti3,ti34,ti36,ca206,ca266,ca267,cf,Tryz.results206,encs_length]
            refine condK_intro (fun h2=>?_) (fun h2=>?_)
            · have hi2 : i < ks.length:=by simpa using h2
              have he:=encs_getD hi2
              have hmm:=getD_mem hi2
              have hi1 : IntKind.i64.wrap ((i : Int) + 1) = ((i + 1 : Nat) : Int):=by rw [wrap64 (by omega) (by omega)]; rfl
              have hst:=shapes_take hi2 (d - 1)
              simp only [zW,zX,zD,builtinA,isLeaf,const1,ustrA,simprocAttr,ti3,ti34,ti36,ca206,ca266,ca267,cf,Tryz.results206,he,enc_length,enc_take,encs_length,hw]
              refine ⟨⟨by omega,by omega⟩,?_⟩
              refine callK_intro (by simp only [zW,zX,zD,builtinA,isLeaf,const1,ustrA,simprocAttr,frzL_enc,Option.map_some]; rfl) (ih _ hmm (hok _ hmm) _ _ (by omega) (by omega)) ?_ rfl; rintro v A' ⟨rfl,rfl⟩
              cases hs : shape (ks.getD i ty0) (d - 1) with
              | true =>
                rw [hsh,hs] at hst
                simp only [zW,zX,zD,builtinA,isLeaf,const1,ustrA,simprocAttr,ti3,ti34,ti36,ca206,ca266,ca267,cf,Tryz.results206,hi1,LoopK_eq]
                refine ⟨⟨i + 1,by omega,hst,rfl⟩,?_⟩
                simp only [intOf]
                omega
              | false =>
                simp only [zW,zX,zD,builtinA,isLeaf,const1,ustrA,simprocAttr,ti3,ti34,ti36,ca206,ca266,ca267,cf,Tryz.results206]
                rw [shapes_false hi2 hs]
            · simp only [zW,zX,zD,builtinA,isLeaf,const1,ustrA,simprocAttr,ti3,ti34,ti36,ca206,ca266,ca267,cf,Tryz.results206]
              have : i = ks.length:=by simp at h2; omega
              subst this
              rw [List.take_length] at hsh
              rw [hsh]
        · simp only [zW,zX,zD,builtinA,isLeaf,const1,ustrA,simprocAttr,ti3,ti34,ti36,ca206,ca266,ca267,cf,Tryz.results206,ho]
      · simp only [zW,zX,zD,builtinA,isLeaf,const1,ustrA,simprocAttr,ti3,ti34,ti36,ca206,ca266,ca267,cf,Tryz.results206,encs_length,decide_eq_false hk]
set_option maxRecDepth 100000 in
theorem spec_l1Count (τ : Ty) (hτ : τ.Ok) (hc : sz τ ≤ 1048576) : ∀ (A : List Box),ACalls Tryz.prog 207 [.agg (enc τ)] A (fun v A'=>v = .int .i64 (count τ) ∧ A' = A):=by
  induction τ using Ty.ind with
  | h k m n ks ih =>
    intro A
    obtain ⟨hm,hn,hks,hok⟩:=hτ
    have hcs:=count_sz (.mk k m n ks)
    rw [enc]
    refine acalls_enter (cf:=cf 21 [0,1,2,3,4,9]) foll Tryz.func207 Tryz.ntmps207 (by simp [cf]) ?_
    simp only [Tryz.f207,EnterK_some,zW,zX,zD,builtinA,isLeaf,const1,ustrA,simprocAttr,ti3,ti34,ti36,ca207,cf,Tryz.results207]
    refine aloop_intro [1,3,4] (fun e A'=>∃ i,i ≤ ks.length ∧ e = [(1,.ptr A.length 0),(3,.int .i64 (1 + counts (ks.take i) : Nat)),(4,.int .i64 i)] ∧ A' = A ++ [.cells [.int .i64 k,.str m,.str n,.slice (encs ks)]]) (fun e _=>ks.length - (intOf (Abs.look 4 e)).toNat) ?_ ?_
    · simp only [zW,zX,zD,builtinA,isLeaf,const1,ustrA,simprocAttr,ti3,ti34,ti36,ca207,cf,Tryz.results207]
      exact ⟨0,by omega,by simp [counts]⟩
    · rintro e A' ⟨i,hi,rfl,rfl⟩
      simp only [zW,zX,zD,builtinA,isLeaf,const1,ustrA,simprocAttr,ti3,ti34,ti36,ca207,cf,Tryz.results207,encs_length]
      refine condK_intro (fun h2=>?_) (fun h2=>?_)
      · have hi2 : i < ks.length:=by simpa using h2
        have he:=encs_getD hi2
        have hmm:=getD_mem hi2
        have hi1 : IntKind.i64.wrap ((i : Int) + 1) = ((i + 1 : Nat) : Int):=by rw [wrap64 (by omega) (by omega)]; rfl
        have hct:=counts_take hi2
        have hcl:=counts_le ks (i + 1)
        have hc1 : count (.mk k m n ks) = 1 + counts ks:=by rw [count]
        have hw : IntKind.i64.wrap (((1 + counts (ks.take i) : Nat) : Int) + (count (ks.getD i ty0) : Int)) = ((1 + counts (ks.take (i + 1)) : Nat) : Int):=by
          rw [wrap64 (by omega) (by omega)]; omega
        have hsz : sz (ks.getD i ty0) ≤ 1048576:=by have:=szs_mem hmm; rw [sz] at hc; omega
        simp only [zW,zX,zD,builtinA,isLeaf,const1,ustrA,simprocAttr,ti3,ti34,ti36,ca207,cf,Tryz.results207,he,enc_length,enc_take,encs_length]
        refine ⟨⟨by omega,by omega⟩,?_⟩
        refine callK_intro (by simp only [zW,zX,zD,builtinA,isLeaf,const1,ustrA,simprocAttr,frzL_enc,Option.map_some]; rfl) (ih _ hmm (hok _ hmm) hsz _) ?_ rfl; rintro v A' ⟨rfl,rfl⟩
        simp only [zW,zX,zD,builtinA,isLeaf,const1,ustrA,simprocAttr,ti3,ti34,ti36,ca207,cf,Tryz.results207,hi1,hw,LoopK_eq]
        refine ⟨⟨i + 1,by omega,rfl⟩,?_⟩
        simp only [intOf]
        omega
      · simp only [zW,zX,zD,builtinA,isLeaf,const1,ustrA,simprocAttr,ti3,ti34,ti36,ca207,cf,Tryz.results207]
        have : i = ks.length:=by simp at h2; omega
        subst this
        rw [List.take_length,count]
def validB (τ : Ty) : Bool:=shape τ 8 && decide (count τ ≤ 63)
set_option maxRecDepth 100000 in
theorem spec_TypeValid (τ : Ty) (hτ : τ.Ok) (hc : sz τ ≤ 1048576) (A : List Box) : ACalls Tryz.prog 121 [.agg (enc τ)] A (fun v A'=>v = .bool (validB τ) ∧ A' = A):=by
  refine acalls_enter (cf:=cf 10 [0,1,2]) foll Tryz.func121 Tryz.ntmps121 (by simp [cf]) ?_
  simp only [Tryz.f121,EnterK_some,zW,zX,zD,builtinA,isLeaf,const1,ustrA,simprocAttr,ti3,ti36,ca206,ca207,cf,Tryz.results121]
  simp only [enc_take]
  refine ⟨by rw [enc_length]; omega,?_⟩
  refine callK_intro (by simp only [zW,zX,zD,builtinA,isLeaf,const1,ustrA,simprocAttr,frzL_enc,Option.map_some]; rfl) (spec_l1Shape τ hτ _ _ (by omega) (by omega)) ?_ rfl; rintro v A' ⟨rfl,rfl⟩
  rw [validB]
  cases hs : shape τ 8 with
  | true =>
    simp only [zW,zX,zD,builtinA,isLeaf,const1,ustrA,simprocAttr,ti3,ti36,ca206,ca207,cf,Tryz.results121,enc_take]
    refine ⟨by rw [enc_length]; omega,?_⟩
    refine callK_intro (by simp only [zW,zX,zD,builtinA,isLeaf,const1,ustrA,simprocAttr,frzL_enc,Option.map_some]; rfl) (spec_l1Count τ hτ hc _) ?_ rfl; rintro v A' ⟨rfl,rfl⟩
    simp only [zW,zX,zD,builtinA,isLeaf,const1,ustrA,simprocAttr,ti3,ti36,ca206,ca207,cf,Tryz.results121]
    simp
    omega
  | false =>
    simp only [zW,zX,zD,builtinA,isLeaf,const1,ustrA,simprocAttr,ti3,ti36,ca206,ca207,cf,Tryz.results121]
end Go.Proofs.YtnjdbgiincliaaaGreat
