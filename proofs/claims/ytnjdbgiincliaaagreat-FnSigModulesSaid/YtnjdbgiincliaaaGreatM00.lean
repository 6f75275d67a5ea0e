/- Facts, Names. -/
import Derived.Test.YtnjdbgiincliaaaGreatRows
import Derived.Test.YtnjdbgiincliaaaGreatAbsW3
/- Facts of this translation. -/
namespace Go.Proofs.YtnjdbgiincliaaaGreat
open Go.Abs
theorem ks419 : keyS Tryz.prog 419 = some [(0,.ptr 36),(1,.int .i64)]:=by kernel_rfl
theorem mi144 : mapStr Tryz.prog 144 = some (9,.bool false):=by kernel_rfl
theorem mi165 : mapInf Tryz.prog 165 = some (419,[(0,.ptr 36),(1,.int .i64)],2,.agg [.nilp,.int .i64 0]):=by kernel_rfl
theorem mi283 : mapInf Tryz.prog 283 = some (180,[(0,.str),(1,.str)],2,.bool false):=by kernel_rfl
theorem mi358 : mapInf Tryz.prog 358 = some (360,[(0,.bool),(1,.str)],2,.bool false):=by kernel_rfl
theorem ti3 : tinf Tryz.prog 3 = some { size:=1,bytes:=8,zero:=some [.int .i64 0],kind:=.int .i64 }:=by kernel_rfl
theorem ti4 : tinf Tryz.prog 4 = some { size:=1,bytes:=1,zero:=some [.bool false],kind:=.bool }:=by kernel_rfl
theorem ti5 : tinf Tryz.prog 5 = some { size:=1,bytes:=1,zero:=some [.int .u8 0],kind:=.int .u8 }:=by kernel_rfl
theorem ti9 : tinf Tryz.prog 9 = some { size:=1,bytes:=16,zero:=some [.str []],kind:=.str }:=by kernel_rfl
theorem ti23 : tinf Tryz.prog 23 = some { size:=1,bytes:=24,zero:=some [.nils],kind:=.slice 25 }:=by kernel_rfl
theorem ti25 : tinf Tryz.prog 25 = some { size:=4,bytes:=64,zero:=some [.int .i64 0,.str [],.str [],.nils],kind:=.struct [(0,3,1),(1,9,1),(2,9,1),(3,23,1)] }:=by kernel_rfl
theorem ti34 : tinf Tryz.prog 34 = some { size:=1,bytes:=24,zero:=some [.nils],kind:=.slice 36 }:=by kernel_rfl
theorem ti36 : tinf Tryz.prog 36 = some { size:=4,bytes:=64,zero:=some [.int .i64 0,.str [],.str [],.nils],kind:=.struct [(0,3,1),(1,9,1),(2,9,1),(3,34,1)] }:=by kernel_rfl
theorem ti46 : tinf Tryz.prog 46 = some { size:=1,bytes:=24,zero:=some [.nils],kind:=.slice 134 }:=by kernel_rfl
theorem ti48 : tinf Tryz.prog 48 = some { size:=1,bytes:=24,zero:=some [.nils],kind:=.slice 9 }:=by kernel_rfl
theorem ti50 : tinf Tryz.prog 50 = some { size:=1,bytes:=24,zero:=some [.nils],kind:=.slice 69 }:=by kernel_rfl
theorem ti57 : tinf Tryz.prog 57 = some { size:=1,bytes:=24,zero:=some [.nils],kind:=.slice 5 }:=by kernel_rfl
theorem ti67 : tinf Tryz.prog 67 = some { size:=1,bytes:=8,zero:=some [.nilf],kind:=.func }:=by kernel_rfl
theorem ti69 : tinf Tryz.prog 69 = some { size:=6,bytes:=88,zero:=some [.int .i64 0,.str [],.int .i64 0,.str [],.str [],.nils],kind:=.struct [(0,3,1),(1,9,1),(2,36,4)] }:=by kernel_rfl
theorem ti134 : tinf Tryz.prog 134 = some { size:=6,bytes:=88,zero:=some [.int .i64 0,.str [],.int .i64 0,.str [],.str [],.nils],kind:=.struct [(0,3,1),(1,9,1),(2,25,4)] }:=by kernel_rfl
theorem ti135 : tinf Tryz.prog 135 = some { size:=1,bytes:=24,zero:=some [.nils],kind:=.slice 4 }:=by kernel_rfl
theorem ti139 : tinf Tryz.prog 139 = some { size:=1,bytes:=24,zero:=some [.nils],kind:=.slice 158 }:=by kernel_rfl
theorem ti140 : tinf Tryz.prog 140 = some { size:=1,bytes:=24,zero:=some [.nils],kind:=.slice 158 }:=by kernel_rfl
theorem ti144 : tinf Tryz.prog 144 = some { size:=1,bytes:=8,zero:=some [.nilm],kind:=.map 9 4 }:=by kernel_rfl
theorem ti146 : tinf Tryz.prog 146 = some { size:=1,bytes:=8,zero:=some [.nilf],kind:=.func }:=by kernel_rfl
theorem ti158 : tinf Tryz.prog 158 = some { size:=1,bytes:=16,zero:=some [.nili],kind:=.iface }:=by kernel_rfl
theorem ti163 : tinf Tryz.prog 163 = some { size:=1,bytes:=8,zero:=some [.nilf],kind:=.func }:=by kernel_rfl
theorem ti165 : tinf Tryz.prog 165 = some { size:=1,bytes:=8,zero:=some [.nilm],kind:=.map 419 419 }:=by kernel_rfl
theorem ti167 : tinf Tryz.prog 167 = some { size:=3,bytes:=24,zero:=some [.nilf,.nilf,.nilm],kind:=.struct [(0,67,1),(1,163,1),(2,165,1)] }:=by kernel_rfl
theorem ti175 : tinf Tryz.prog 175 = some { size:=1,bytes:=16,zero:=some [.nili],kind:=.iface }:=by kernel_rfl
theorem ti180 : tinf Tryz.prog 180 = some { size:=2,bytes:=32,zero:=some [.str [],.str []],kind:=.struct [(0,9,1),(1,9,1)] }:=by kernel_rfl
theorem ti271 : tinf Tryz.prog 271 = some { size:=2,bytes:=32,zero:=some [.nils,.int .i64 0],kind:=.struct [(0,57,1),(1,3,1)] }:=by kernel_rfl
theorem ti273 : tinf Tryz.prog 273 = some { size:=1,bytes:=24,zero:=some [.nils],kind:=.slice 3 }:=by kernel_rfl
theorem ti283 : tinf Tryz.prog 283 = some { size:=1,bytes:=8,zero:=some [.nilm],kind:=.map 180 4 }:=by kernel_rfl
theorem ti354 : tinf Tryz.prog 354 = some { size:=1,bytes:=16,zero:=some [.str []],kind:=.struct [(0,9,1)] }:=by kernel_rfl
theorem ti356 : tinf Tryz.prog 356 = some { size:=2,bytes:=32,zero:=some [.str [],.nili],kind:=.struct [(0,9,1),(1,175,1)] }:=by kernel_rfl
theorem ti357 : tinf Tryz.prog 357 = some { size:=2,bytes:=32,zero:=some [.str [],.nili],kind:=.struct [(0,9,1),(1,175,1)] }:=by kernel_rfl
theorem ti358 : tinf Tryz.prog 358 = some { size:=1,bytes:=8,zero:=some [.nilm],kind:=.map 360 4 }:=by kernel_rfl
theorem ti360 : tinf Tryz.prog 360 = some { size:=2,bytes:=24,zero:=some [.bool false,.str []],kind:=.struct [(0,4,1),(1,9,1)] }:=by kernel_rfl
theorem ti366 : tinf Tryz.prog 366 = some { size:=2,bytes:=48,zero:=some [.nils,.nils],kind:=.struct [(0,34,1),(1,34,1)] }:=by kernel_rfl
theorem ti367 : tinf Tryz.prog 367 = some { size:=1,bytes:=24,zero:=some [.nils],kind:=.slice 366 }:=by kernel_rfl
theorem ti369 : tinf Tryz.prog 369 = some { size:=0,bytes:=0,zero:=some [],kind:=.struct [] }:=by kernel_rfl
theorem ti419 : tinf Tryz.prog 419 = some { size:=2,bytes:=16,zero:=some [.nilp,.int .i64 0],kind:=.struct [(0,417,1),(1,3,1)] }:=by kernel_rfl
theorem ti422 : tinf Tryz.prog 422 = some { size:=2,bytes:=32,zero:=some [.nili,.nili],kind:=.struct [(0,175,1),(1,175,1)] }:=by kernel_rfl
theorem ca22 : callable Tryz.prog 22 = true:=by kernel_rfl
theorem ca23 : callable Tryz.prog 23 = true:=by kernel_rfl
theorem ca24 : callable Tryz.prog 24 = true:=by kernel_rfl
theorem ca25 : callable Tryz.prog 25 = true:=by kernel_rfl
theorem ca26 : callable Tryz.prog 26 = true:=by kernel_rfl
theorem ca27 : callable Tryz.prog 27 = true:=by kernel_rfl
theorem ca28 : callable Tryz.prog 28 = true:=by kernel_rfl
theorem ca29 : callable Tryz.prog 29 = true:=by kernel_rfl
theorem ca30 : callable Tryz.prog 30 = true:=by kernel_rfl
theorem ca35 : callable Tryz.prog 35 = true:=by kernel_rfl
theorem ca36 : callable Tryz.prog 36 = true:=by kernel_rfl
theorem ca37 : callable Tryz.prog 37 = true:=by kernel_rfl
theorem ca38 : callable Tryz.prog 38 = true:=by kernel_rfl
theorem ca39 : callable Tryz.prog 39 = true:=by kernel_rfl
theorem ca40 : callable Tryz.prog 40 = true:=by kernel_rfl
theorem ca86 : callable Tryz.prog 86 = true:=by kernel_rfl
theorem ca87 : callable Tryz.prog 87 = true:=by kernel_rfl
theorem ca88 : callable Tryz.prog 88 = true:=by kernel_rfl
theorem ca89 : callable Tryz.prog 89 = true:=by kernel_rfl
theorem ca90 : callable Tryz.prog 90 = true:=by kernel_rfl
theorem ca91 : callable Tryz.prog 91 = true:=by kernel_rfl
theorem ca92 : callable Tryz.prog 92 = true:=by kernel_rfl
theorem ca94 : callable Tryz.prog 94 = true:=by kernel_rfl
theorem ca95 : callable Tryz.prog 95 = true:=by kernel_rfl
theorem ca96 : callable Tryz.prog 96 = true:=by kernel_rfl
theorem ca97 : callable Tryz.prog 97 = true:=by kernel_rfl
theorem ca98 : callable Tryz.prog 98 = true:=by kernel_rfl
theorem ca99 : callable Tryz.prog 99 = true:=by kernel_rfl
theorem ca100 : callable Tryz.prog 100 = true:=by kernel_rfl
theorem ca101 : callable Tryz.prog 101 = true:=by kernel_rfl
theorem ca104 : callable Tryz.prog 104 = true:=by kernel_rfl
theorem ca108 : callable Tryz.prog 108 = true:=by kernel_rfl
theorem ca110 : callable Tryz.prog 110 = true:=by kernel_rfl
theorem ca111 : callable Tryz.prog 111 = true:=by kernel_rfl
theorem ca112 : callable Tryz.prog 112 = true:=by kernel_rfl
theorem ca114 : callable Tryz.prog 114 = true:=by kernel_rfl
theorem ca115 : callable Tryz.prog 115 = true:=by kernel_rfl
theorem ca118 : callable Tryz.prog 118 = true:=by kernel_rfl
theorem ca121 : callable Tryz.prog 121 = true:=by kernel_rfl
theorem ca138 : callable Tryz.prog 138 = true:=by kernel_rfl
theorem ca141 : callable Tryz.prog 141 = true:=by kernel_rfl
theorem ca149 : callable Tryz.prog 149 = true:=by kernel_rfl
theorem ca178 : callable Tryz.prog 178 = true:=by kernel_rfl
theorem ca179 : callable Tryz.prog 179 = true:=by kernel_rfl
theorem ca180 : callable Tryz.prog 180 = true:=by kernel_rfl
theorem ca182 : callable Tryz.prog 182 = true:=by kernel_rfl
theorem ca183 : callable Tryz.prog 183 = true:=by kernel_rfl
theorem ca186 : callable Tryz.prog 186 = true:=by kernel_rfl
theorem ca187 : callable Tryz.prog 187 = true:=by kernel_rfl
theorem ca188 : callable Tryz.prog 188 = true:=by kernel_rfl
theorem ca189 : callable Tryz.prog 189 = true:=by kernel_rfl
theorem ca190 : callable Tryz.prog 190 = true:=by kernel_rfl
theorem ca197 : callable Tryz.prog 197 = true:=by kernel_rfl
theorem ca198 : callable Tryz.prog 198 = true:=by kernel_rfl
theorem ca199 : callable Tryz.prog 199 = true:=by kernel_rfl
theorem ca204 : callable Tryz.prog 204 = true:=by kernel_rfl
theorem ca206 : callable Tryz.prog 206 = true:=by kernel_rfl
theorem ca207 : callable Tryz.prog 207 = true:=by kernel_rfl
theorem ca225 : callable Tryz.prog 225 = true:=by kernel_rfl
theorem ca226 : callable Tryz.prog 226 = true:=by kernel_rfl
theorem ca229 : callable Tryz.prog 229 = true:=by kernel_rfl
theorem ca245 : callable Tryz.prog 245 = true:=by kernel_rfl
theorem ca246 : callable Tryz.prog 246 = true:=by kernel_rfl
theorem ca247 : callable Tryz.prog 247 = true:=by kernel_rfl
theorem ca248 : callable Tryz.prog 248 = true:=by kernel_rfl
theorem ca249 : callable Tryz.prog 249 = true:=by kernel_rfl
theorem ca250 : callable Tryz.prog 250 = true:=by kernel_rfl
theorem ca251 : callable Tryz.prog 251 = true:=by kernel_rfl
theorem ca256 : callable Tryz.prog 256 = true:=by kernel_rfl
theorem ca259 : callable Tryz.prog 259 = true:=by kernel_rfl
theorem ca260 : callable Tryz.prog 260 = true:=by kernel_rfl
theorem ca261 : callable Tryz.prog 261 = true:=by kernel_rfl
theorem ca266 : callable Tryz.prog 266 = true:=by kernel_rfl
theorem ca267 : callable Tryz.prog 267 = true:=by kernel_rfl
theorem ca290 : callable Tryz.prog 290 = true:=by kernel_rfl
theorem foll : Tryz.prog.follows .mixedOrders = true:=by kernel_rfl
theorem laid : laidOutB Tryz.prog = true:=by kernel_rfl
theorem ownk : ownKnob Tryz.prog.godebug = none:=by kernel_rfl
def cf (N : Nat) (vs : List Nat) : Cfg:={ own:=fun _=>false,N:=N,vs:=vs }
end Go.Proofs.YtnjdbgiincliaaaGreat
/- The names of types, values and modules: what the program's and the model's functions answer. -/
set_option linter.unusedVariables false
set_option linter.unusedSimpArgs false
namespace Go.Proofs.YtnjdbgiincliaaaGreat
open Go.Abs
def localB (s : List UInt8) : Bool:=s.length == 1 && (decide (97 ≤ (s.getD 0 0).toNat) && decide ((s.getD 0 0).toNat ≤ 122))
def moduleB (s : List UInt8) : Bool:=(s.length == 1 && (decide (65 ≤ (s.getD 0 0).toNat) && decide ((s.getD 0 0).toNat ≤ 90))) && !decide (s = [73])
theorem local_no (s : List UInt8) (h : ¬ (s.length : Int) = 1) : localB s = false:=by
  have : s.length ≠ 1:=by omega
  simp [localB,this]
theorem local_lo (s : List UInt8) (h : ¬ (97 : Int) ≤ (s.getD 0 0).toNat) : localB s = false:=by
  have : ¬ 97 ≤ (s.getD 0 0).toNat:=by omega
  unfold localB; rw [decide_eq_false this]; simp
theorem local_hi (s : List UInt8) (h1 : (s.length : Int) = 1) (h : (97 : Int) ≤ (s.getD 0 0).toNat) : localB s = decide (((s.getD 0 0).toNat : Int) ≤ 122):=by
  have e1 : s.length = 1:=by omega
  have e2 : 97 ≤ (s.getD 0 0).toNat:=by omega
  unfold localB; rw [decide_eq_true e2,e1]
  rw [Bool.eq_iff_iff]; simp; omega
theorem module_no (s : List UInt8) (h : ¬ (s.length : Int) = 1) : moduleB s = false:=by
  have : s.length ≠ 1:=by omega
  simp [moduleB,this]
theorem module_lo (s : List UInt8) (h : ¬ (65 : Int) ≤ (s.getD 0 0).toNat) : moduleB s = false:=by
  have : ¬ 65 ≤ (s.getD 0 0).toNat:=by omega
  unfold moduleB; rw [decide_eq_false this]; simp
theorem module_up (s : List UInt8) (h : ¬ ((s.getD 0 0).toNat : Int) ≤ 90) : moduleB s = false:=by
  have : ¬ (s.getD 0 0).toNat ≤ 90:=by omega
  unfold moduleB; rw [decide_eq_false this]; simp
theorem module_hi (s : List UInt8) (h1 : (s.length : Int) = 1) (h : (65 : Int) ≤ (s.getD 0 0).toNat) (h2 : ((s.getD 0 0).toNat : Int) ≤ 90) : moduleB s = !decide (s = [73]):=by
  have e1 : s.length = 1:=by omega
  have e2 : 65 ≤ (s.getD 0 0).toNat:=by omega
  have e3 : (s.getD 0 0).toNat ≤ 90:=by omega
  unfold moduleB; rw [decide_eq_true e2,decide_eq_true e3,e1]; simp
set_option maxRecDepth 100000 in
theorem impl_LocalName (s : List UInt8) (A : List Box) : ACalls Tryz.prog 250 [.str s] A (fun v A'=>v = .bool (localB s) ∧ A' = A):=by
  refine acalls_enter (cf:=cf 16 [0,2]) foll Tryz.func250 Tryz.ntmps250 (by simp [cf]) ?_
  simp only [Tryz.f250,EnterK_some,zW,zX,zD,builtinA,isLeaf,const1,ustrA,simprocAttr,ti3,ti5,ti9,cf,Tryz.results250]
  repeat' first
    | (refine guardT_intro (fun h=>?_) (fun h=>?_) <;> (try simp only [decide_eq_true_eq,decide_eq_false_iff_not,Bool.not_eq_eq_eq_not,Bool.not_true,Bool.not_false] at h) <;> simp only [zW,zX,zD,builtinA,isLeaf,const1,ustrA,simprocAttr,ti3,ti5,ti9,cf,Tryz.results250,h])
    | (refine guardF_intro (fun h=>?_) (fun h=>?_) <;> (try simp only [decide_eq_true_eq,decide_eq_false_iff_not,Bool.not_eq_eq_eq_not,Bool.not_true,Bool.not_false] at h) <;> simp only [zW,zX,zD,builtinA,isLeaf,const1,ustrA,simprocAttr,ti3,ti5,ti9,cf,Tryz.results250,h])
    | (refine condK_intro (fun h=>?_) (fun h=>?_) <;> (try simp only [decide_eq_true_eq,decide_eq_false_iff_not,Bool.not_eq_eq_eq_not,Bool.not_true,Bool.not_false] at h) <;> simp only [zW,zX,zD,builtinA,isLeaf,const1,ustrA,simprocAttr,ti3,ti5,ti9,cf,Tryz.results250,h])
    | (refine guardDT_intro (fun h=>?_) (fun h=>?_) <;> (try simp only [decide_eq_true_eq,decide_eq_false_iff_not,Bool.not_eq_eq_eq_not,Bool.not_true,Bool.not_false] at h) <;> simp only [zW,zX,zD,builtinA,isLeaf,const1,ustrA,simprocAttr,ti3,ti5,ti9,cf,Tryz.results250,h])
    | (refine guardDF_intro (fun h=>?_) (fun h=>?_) <;> (try simp only [decide_eq_true_eq,decide_eq_false_iff_not,Bool.not_eq_eq_eq_not,Bool.not_true,Bool.not_false] at h) <;> simp only [zW,zX,zD,builtinA,isLeaf,const1,ustrA,simprocAttr,ti3,ti5,ti9,cf,Tryz.results250,h])
    | refine And.intro ?_ ?_
  · omega
  · rename_i h1
    rw [local_hi s h1 h]
  · rw [local_lo s ‹_›]
  · rw [local_no s ‹_›]
set_option maxRecDepth 100000 in
theorem spec_LocalName (s : List UInt8) (A : List Box) : ACalls Tryz.prog 245 [.str s] A (fun v A'=>v = .bool (localB s) ∧ A' = A):=by
  refine acalls_enter (cf:=cf 16 [0,2]) foll Tryz.func245 Tryz.ntmps245 (by simp [cf]) ?_
  simp only [Tryz.f245,EnterK_some,zW,zX,zD,builtinA,isLeaf,const1,ustrA,simprocAttr,ti3,ti5,ti9,cf,Tryz.results245]
  repeat' first
    | (refine guardT_intro (fun h=>?_) (fun h=>?_) <;> (try simp only [decide_eq_true_eq,decide_eq_false_iff_not,Bool.not_eq_eq_eq_not,Bool.not_true,Bool.not_false] at h) <;> simp only [zW,zX,zD,builtinA,isLeaf,const1,ustrA,simprocAttr,ti3,ti5,ti9,cf,Tryz.results245,h])
    | (refine guardF_intro (fun h=>?_) (fun h=>?_) <;> (try simp only [decide_eq_true_eq,decide_eq_false_iff_not,Bool.not_eq_eq_eq_not,Bool.not_true,Bool.not_false] at h) <;> simp only [zW,zX,zD,builtinA,isLeaf,const1,ustrA,simprocAttr,ti3,ti5,ti9,cf,Tryz.results245,h])
    | (refine condK_intro (fun h=>?_) (fun h=>?_) <;> (try simp only [decide_eq_true_eq,decide_eq_false_iff_not,Bool.not_eq_eq_eq_not,Bool.not_true,Bool.not_false] at h) <;> simp only [zW,zX,zD,builtinA,isLeaf,const1,ustrA,simprocAttr,ti3,ti5,ti9,cf,Tryz.results245,h])
    | (refine guardDT_intro (fun h=>?_) (fun h=>?_) <;> (try simp only [decide_eq_true_eq,decide_eq_false_iff_not,Bool.not_eq_eq_eq_not,Bool.not_true,Bool.not_false] at h) <;> simp only [zW,zX,zD,builtinA,isLeaf,const1,ustrA,simprocAttr,ti3,ti5,ti9,cf,Tryz.results245,h])
    | (refine guardDF_intro (fun h=>?_) (fun h=>?_) <;> (try simp only [decide_eq_true_eq,decide_eq_false_iff_not,Bool.not_eq_eq_eq_not,Bool.not_true,Bool.not_false] at h) <;> simp only [zW,zX,zD,builtinA,isLeaf,const1,ustrA,simprocAttr,ti3,ti5,ti9,cf,Tryz.results245,h])
    | refine And.intro ?_ ?_
  · omega
  · rename_i h1
    rw [local_hi s h1 h]
  · rw [local_lo s ‹_›]
  · rw [local_no s ‹_›]
set_option maxRecDepth 100000 in
theorem impl_ModuleName (s : List UInt8) (A : List Box) : ACalls Tryz.prog 38 [.str s] A (fun v A'=>v = .bool (moduleB s) ∧ A' = A):=by
  refine acalls_enter (cf:=cf 20 [0,2]) foll Tryz.func38 Tryz.ntmps38 (by simp [cf]) ?_
  simp only [Tryz.f38,EnterK_some,zW,zX,zD,builtinA,isLeaf,const1,ustrA,simprocAttr,ti3,ti5,ti9,cf,Tryz.results38]
  repeat' first
    | (refine guardT_intro (fun h=>?_) (fun h=>?_) <;> (try simp only [decide_eq_true_eq,decide_eq_false_iff_not,Bool.not_eq_eq_eq_not,Bool.not_true,Bool.not_false] at h) <;> simp only [zW,zX,zD,builtinA,isLeaf,const1,ustrA,simprocAttr,ti3,ti5,ti9,cf,Tryz.results38,h])
    | (refine guardF_intro (fun h=>?_) (fun h=>?_) <;> (try simp only [decide_eq_true_eq,decide_eq_false_iff_not,Bool.not_eq_eq_eq_not,Bool.not_true,Bool.not_false] at h) <;> simp only [zW,zX,zD,builtinA,isLeaf,const1,ustrA,simprocAttr,ti3,ti5,ti9,cf,Tryz.results38,h])
    | (refine condK_intro (fun h=>?_) (fun h=>?_) <;> (try simp only [decide_eq_true_eq,decide_eq_false_iff_not,Bool.not_eq_eq_eq_not,Bool.not_true,Bool.not_false] at h) <;> simp only [zW,zX,zD,builtinA,isLeaf,const1,ustrA,simprocAttr,ti3,ti5,ti9,cf,Tryz.results38,h])
    | (refine guardDT_intro (fun h=>?_) (fun h=>?_) <;> (try simp only [decide_eq_true_eq,decide_eq_false_iff_not,Bool.not_eq_eq_eq_not,Bool.not_true,Bool.not_false] at h) <;> simp only [zW,zX,zD,builtinA,isLeaf,const1,ustrA,simprocAttr,ti3,ti5,ti9,cf,Tryz.results38,h])
    | (refine guardDF_intro (fun h=>?_) (fun h=>?_) <;> (try simp only [decide_eq_true_eq,decide_eq_false_iff_not,Bool.not_eq_eq_eq_not,Bool.not_true,Bool.not_false] at h) <;> simp only [zW,zX,zD,builtinA,isLeaf,const1,ustrA,simprocAttr,ti3,ti5,ti9,cf,Tryz.results38,h])
    | refine And.intro ?_ ?_
  · omega
  · rename_i h1 h2
    rw [module_hi s h1 h2 h]
  · rw [module_up s ‹_›]
  · rw [module_lo s ‹_›]
  · rw [module_no s ‹_›]
set_option maxRecDepth 100000 in
theorem spec_ModuleName (s : List UInt8) (A : List Box) : ACalls Tryz.prog 104 [.str s] A (fun v A'=>v = .bool (moduleB s) ∧ A' = A):=by
  refine acalls_enter (cf:=cf 20 [0,2]) foll Tryz.func104 Tryz.ntmps104 (by simp [cf]) ?_
  simp only [Tryz.f104,EnterK_some,zW,zX,zD,builtinA,isLeaf,const1,ustrA,simprocAttr,ti3,ti5,ti9,cf,Tryz.results104]
  repeat' first
    | (refine guardT_intro (fun h=>?_) (fun h=>?_) <;> (try simp only [decide_eq_true_eq,decide_eq_false_iff_not,Bool.not_eq_eq_eq_not,Bool.not_true,Bool.not_false] at h) <;> simp only [zW,zX,zD,builtinA,isLeaf,const1,ustrA,simprocAttr,ti3,ti5,ti9,cf,Tryz.results104,h])
    | (refine guardF_intro (fun h=>?_) (fun h=>?_) <;> (try simp only [decide_eq_true_eq,decide_eq_false_iff_not,Bool.not_eq_eq_eq_not,Bool.not_true,Bool.not_false] at h) <;> simp only [zW,zX,zD,builtinA,isLeaf,const1,ustrA,simprocAttr,ti3,ti5,ti9,cf,Tryz.results104,h])
    | (refine condK_intro (fun h=>?_) (fun h=>?_) <;> (try simp only [decide_eq_true_eq,decide_eq_false_iff_not,Bool.not_eq_eq_eq_not,Bool.not_true,Bool.not_false] at h) <;> simp only [zW,zX,zD,builtinA,isLeaf,const1,ustrA,simprocAttr,ti3,ti5,ti9,cf,Tryz.results104,h])
    | (refine guardDT_intro (fun h=>?_) (fun h=>?_) <;> (try simp only [decide_eq_true_eq,decide_eq_false_iff_not,Bool.not_eq_eq_eq_not,Bool.not_true,Bool.not_false] at h) <;> simp only [zW,zX,zD,builtinA,isLeaf,const1,ustrA,simprocAttr,ti3,ti5,ti9,cf,Tryz.results104,h])
    | (refine guardDF_intro (fun h=>?_) (fun h=>?_) <;> (try simp only [decide_eq_true_eq,decide_eq_false_iff_not,Bool.not_eq_eq_eq_not,Bool.not_true,Bool.not_false] at h) <;> simp only [zW,zX,zD,builtinA,isLeaf,const1,ustrA,simprocAttr,ti3,ti5,ti9,cf,Tryz.results104,h])
    | refine And.intro ?_ ?_
  · omega
  · rename_i h1 h2
    rw [module_hi s h1 h2 h]
  · rw [module_up s ‹_›]
  · rw [module_lo s ‹_›]
  · rw [module_no s ‹_›]
set_option maxRecDepth 100000 in
theorem impl_validName (m n : List UInt8) (A : List Box) : ACalls Tryz.prog 261 [.str m,.str n] A (fun v A'=>v = .bool ((decide (m = []) || moduleB m) && localB n) ∧ A' = A):=by
  refine acalls_enter (cf:=cf 15 [0,1,4]) foll Tryz.func261 Tryz.ntmps261 (by simp [cf]) ?_
  simp only [Tryz.f261,EnterK_some,zW,zX,zD,builtinA,isLeaf,const1,ustrA,simprocAttr,ti9,ca38,ca250,cf,Tryz.results261]
  by_cases hm : m = []
  · simp only [zW,zX,zD,builtinA,isLeaf,const1,ustrA,simprocAttr,ti9,ca38,ca250,cf,Tryz.results261,decide_eq_true hm]
    refine callK_intro (by simp only [zW,zX,zD,builtinA,isLeaf,const1,ustrA,simprocAttr,Option.map_some]; rfl) (impl_LocalName n _) ?_ rfl; rintro v A' ⟨rfl,rfl⟩
    simp only [zW,zX,zD,builtinA,isLeaf,const1,ustrA,simprocAttr,ti9,ca38,ca250,cf,Tryz.results261]
  · simp only [zW,zX,zD,builtinA,isLeaf,const1,ustrA,simprocAttr,ti9,ca38,ca250,cf,Tryz.results261,decide_eq_false hm]
    refine callK_intro (by simp only [zW,zX,zD,builtinA,isLeaf,const1,ustrA,simprocAttr,Option.map_some]; rfl) (impl_ModuleName m _) ?_ rfl; rintro v A' ⟨rfl,rfl⟩
    cases hmm : moduleB m with
    | true =>
      simp only [zW,zX,zD,builtinA,isLeaf,const1,ustrA,simprocAttr,ti9,ca38,ca250,cf,Tryz.results261]
      refine callK_intro (by simp only [zW,zX,zD,builtinA,isLeaf,const1,ustrA,simprocAttr,Option.map_some]; rfl) (impl_LocalName n _) ?_ rfl; rintro v A' ⟨rfl,rfl⟩
      simp only [zW,zX,zD,builtinA,isLeaf,const1,ustrA,simprocAttr,ti9,ca38,ca250,cf,Tryz.results261]
    | false =>
      simp only [zW,zX,zD,builtinA,isLeaf,const1,ustrA,simprocAttr,ti9,ca38,ca250,cf,Tryz.results261]
end Go.Proofs.YtnjdbgiincliaaaGreat
