/- Facts, Names, Types. -/
import Derived.Test.YtejbjgmgdbcddaaGreatDoorRows
import Derived.Test.YtejbjgmgdbcddaaGreatDoorAbsW3
/- Facts of this translation. -/
namespace Go.Proofs.YtejbjgmgdbcddaaGreatDoor
open Go.Abs
theorem za53 : zagg Tryz.prog 53 = some [.str []]:=by kernel_rfl
theorem za144 : zagg Tryz.prog 144 = some [.str [],.str []]:=by kernel_rfl
theorem za199 : zagg Tryz.prog 199 = some []:=by kernel_rfl
theorem za202 : zagg Tryz.prog 202 = some [.nili,.nili]:=by kernel_rfl
theorem ks48 : keyS Tryz.prog 48 = some [(0,.bool),(1,.str)]:=by kernel_rfl
theorem ks144 : keyS Tryz.prog 144 = some [(0,.str),(1,.str)]:=by kernel_rfl
theorem ks186 : keyS Tryz.prog 186 = some [(0,.ptr 41),(1,.int .i64)]:=by kernel_rfl
theorem ks190 : keyS Tryz.prog 190 = some [(0,.ptr 32),(1,.int .i64)]:=by kernel_rfl
theorem mi62 : mapInf Tryz.prog 62 = some (190,[(0,.ptr 32),(1,.int .i64)],2,.agg [.nilp,.int .i64 0]):=by kernel_rfl
theorem mi66 : mapInf Tryz.prog 66 = some (186,[(0,.ptr 41),(1,.int .i64)],2,.agg [.nilp,.int .i64 0]):=by kernel_rfl
theorem mi116 : mapInf Tryz.prog 116 = some (144,[(0,.str),(1,.str)],2,.nili):=by kernel_rfl
theorem mi170 : mapInf Tryz.prog 170 = some (48,[(0,.bool),(1,.str)],2,.bool false):=by kernel_rfl
theorem ti3 : tinf Tryz.prog 3 = some { size:=1,bytes:=8,zero:=some [.int .i64 0],kind:=.int .i64 }:=by kernel_rfl
theorem ti4 : tinf Tryz.prog 4 = some { size:=1,bytes:=1,zero:=some [.bool false],kind:=.bool }:=by kernel_rfl
theorem ti5 : tinf Tryz.prog 5 = some { size:=1,bytes:=1,zero:=some [.int .u8 0],kind:=.int .u8 }:=by kernel_rfl
theorem ti9 : tinf Tryz.prog 9 = some { size:=1,bytes:=16,zero:=some [.str []],kind:=.str }:=by kernel_rfl
theorem ti20 : tinf Tryz.prog 20 = some { size:=1,bytes:=16,zero:=some [.nili],kind:=.iface }:=by kernel_rfl
theorem ti22 : tinf Tryz.prog 22 = some { size:=1,bytes:=24,zero:=some [.nils],kind:=.slice 5 }:=by kernel_rfl
theorem ti23 : tinf Tryz.prog 23 = some { size:=1,bytes:=24,zero:=some [.nils],kind:=.slice 41 }:=by kernel_rfl
theorem ti30 : tinf Tryz.prog 30 = some { size:=1,bytes:=24,zero:=some [.nils],kind:=.slice 32 }:=by kernel_rfl
theorem ti32 : tinf Tryz.prog 32 = some { size:=4,bytes:=64,zero:=some [.int .i64 0,.str [],.str [],.nils],kind:=.struct [(0,3,1),(1,9,1),(2,9,1),(3,30,1)] }:=by kernel_rfl
theorem ti41 : tinf Tryz.prog 41 = some { size:=6,bytes:=88,zero:=some [.int .i64 0,.str [],.int .i64 0,.str [],.str [],.nils],kind:=.struct [(0,3,1),(1,9,1),(2,32,4)] }:=by kernel_rfl
theorem ti43 : tinf Tryz.prog 43 = some { size:=1,bytes:=24,zero:=some [.nils],kind:=.slice 51 }:=by kernel_rfl
theorem ti44 : tinf Tryz.prog 44 = some { size:=1,bytes:=24,zero:=some [.nils],kind:=.slice 51 }:=by kernel_rfl
theorem ti48 : tinf Tryz.prog 48 = some { size:=2,bytes:=24,zero:=some [.bool false,.str []],kind:=.struct [(0,4,1),(1,9,1)] }:=by kernel_rfl
theorem ti51 : tinf Tryz.prog 51 = some { size:=1,bytes:=16,zero:=some [.nili],kind:=.iface }:=by kernel_rfl
theorem ti53 : tinf Tryz.prog 53 = some { size:=1,bytes:=16,zero:=some [.str []],kind:=.struct [(0,9,1)] }:=by kernel_rfl
theorem ti59 : tinf Tryz.prog 59 = some { size:=1,bytes:=8,zero:=some [.nilf],kind:=.func }:=by kernel_rfl
theorem ti60 : tinf Tryz.prog 60 = some { size:=1,bytes:=8,zero:=some [.nilf],kind:=.func }:=by kernel_rfl
theorem ti62 : tinf Tryz.prog 62 = some { size:=1,bytes:=8,zero:=some [.nilm],kind:=.map 190 190 }:=by kernel_rfl
theorem ti64 : tinf Tryz.prog 64 = some { size:=3,bytes:=24,zero:=some [.nilf,.nilf,.nilm],kind:=.struct [(0,59,1),(1,60,1),(2,62,1)] }:=by kernel_rfl
theorem ti66 : tinf Tryz.prog 66 = some { size:=1,bytes:=8,zero:=some [.nilm],kind:=.map 186 186 }:=by kernel_rfl
theorem ti68 : tinf Tryz.prog 68 = some { size:=4,bytes:=32,zero:=some [.nilf,.nilf,.nilm,.nilm],kind:=.struct [(0,64,3),(3,66,1)] }:=by kernel_rfl
theorem ti75 : tinf Tryz.prog 75 = some { size:=4,bytes:=40,zero:=some [.int .i64 0,.bool false,.str [],.int .i64 0],kind:=.struct [(0,3,1),(1,48,2),(3,3,1)] }:=by kernel_rfl
theorem ti78 : tinf Tryz.prog 78 = some { size:=1,bytes:=16,zero:=some [.nili],kind:=.iface }:=by kernel_rfl
theorem ti80 : tinf Tryz.prog 80 = some { size:=1,bytes:=8,zero:=some [.nilp],kind:=.ptr 75 }:=by kernel_rfl
theorem ti88 : tinf Tryz.prog 88 = some { size:=1,bytes:=24,zero:=some [.nils],kind:=.slice 9 }:=by kernel_rfl
theorem ti90 : tinf Tryz.prog 90 = some { size:=1,bytes:=24,zero:=some [.nils],kind:=.slice 44 }:=by kernel_rfl
theorem ti99 : tinf Tryz.prog 99 = some { size:=1,bytes:=16,zero:=some [.nili],kind:=.iface }:=by kernel_rfl
theorem ti106 : tinf Tryz.prog 106 = some { size:=3,bytes:=24,zero:=some [.nilp,.nilp,.int .u64 0],kind:=.struct [(0,17,1),(1,103,1),(2,104,1)] }:=by kernel_rfl
theorem ti109 : tinf Tryz.prog 109 = some { size:=1,bytes:=16,zero:=some [.nili],kind:=.iface }:=by kernel_rfl
theorem ti111 : tinf Tryz.prog 111 = some { size:=1,bytes:=1,zero:=some [.int .u8 0],kind:=.int .u8 }:=by kernel_rfl
theorem ti116 : tinf Tryz.prog 116 = some { size:=1,bytes:=8,zero:=some [.nilm],kind:=.map 144 99 }:=by kernel_rfl
theorem ti118 : tinf Tryz.prog 118 = some { size:=2,bytes:=32,zero:=some [.nils,.nilm],kind:=.struct [(0,44,1),(1,116,1)] }:=by kernel_rfl
theorem ti126 : tinf Tryz.prog 126 = some { size:=2,bytes:=32,zero:=some [.nils,.int .i64 0],kind:=.struct [(0,22,1),(1,3,1)] }:=by kernel_rfl
theorem ti128 : tinf Tryz.prog 128 = some { size:=1,bytes:=24,zero:=some [.nils],kind:=.slice 3 }:=by kernel_rfl
theorem ti144 : tinf Tryz.prog 144 = some { size:=2,bytes:=32,zero:=some [.str [],.str []],kind:=.struct [(0,9,1),(1,9,1)] }:=by kernel_rfl
theorem ti146 : tinf Tryz.prog 146 = some { size:=2,bytes:=48,zero:=some [.nils,.nils],kind:=.struct [(0,30,1),(1,30,1)] }:=by kernel_rfl
theorem ti147 : tinf Tryz.prog 147 = some { size:=1,bytes:=24,zero:=some [.nils],kind:=.slice 146 }:=by kernel_rfl
theorem ti155 : tinf Tryz.prog 155 = some { size:=1,bytes:=16,zero:=some [.nili],kind:=.iface }:=by kernel_rfl
theorem ti158 : tinf Tryz.prog 158 = some { size:=1,bytes:=16,zero:=some [.nili],kind:=.iface }:=by kernel_rfl
theorem ti160 : tinf Tryz.prog 160 = some { size:=1,bytes:=16,zero:=some [.nili],kind:=.iface }:=by kernel_rfl
theorem ti161 : tinf Tryz.prog 161 = some { size:=1,bytes:=24,zero:=some [.nils],kind:=.slice 78 }:=by kernel_rfl
theorem ti168 : tinf Tryz.prog 168 = some { size:=2,bytes:=32,zero:=some [.str [],.nili],kind:=.struct [(0,9,1),(1,99,1)] }:=by kernel_rfl
theorem ti169 : tinf Tryz.prog 169 = some { size:=2,bytes:=32,zero:=some [.str [],.nili],kind:=.struct [(0,9,1),(1,99,1)] }:=by kernel_rfl
theorem ti170 : tinf Tryz.prog 170 = some { size:=1,bytes:=8,zero:=some [.nilm],kind:=.map 48 4 }:=by kernel_rfl
theorem ti174 : tinf Tryz.prog 174 = some { size:=1,bytes:=24,zero:=some [.nils],kind:=.slice 195 }:=by kernel_rfl
theorem ti186 : tinf Tryz.prog 186 = some { size:=2,bytes:=16,zero:=some [.nilp,.int .i64 0],kind:=.struct [(0,184,1),(1,3,1)] }:=by kernel_rfl
theorem ti190 : tinf Tryz.prog 190 = some { size:=2,bytes:=16,zero:=some [.nilp,.int .i64 0],kind:=.struct [(0,188,1),(1,3,1)] }:=by kernel_rfl
theorem ti195 : tinf Tryz.prog 195 = some { size:=6,bytes:=96,zero:=some [.str [],.str [],.int .i64 0,.str [],.str [],.nils],kind:=.struct [(0,9,1),(1,9,1),(2,32,4)] }:=by kernel_rfl
theorem ti199 : tinf Tryz.prog 199 = some { size:=0,bytes:=0,zero:=some [],kind:=.struct [] }:=by kernel_rfl
theorem ti202 : tinf Tryz.prog 202 = some { size:=2,bytes:=32,zero:=some [.nili,.nili],kind:=.struct [(0,99,1),(1,99,1)] }:=by kernel_rfl
theorem ti241 : tinf Tryz.prog 241 = some { size:=1,bytes:=8,zero:=some [.nilp],kind:=.ptr 78 }:=by kernel_rfl
theorem ca6 : callable Tryz.prog 6 = true:=by kernel_rfl
theorem ca7 : callable Tryz.prog 7 = true:=by kernel_rfl
theorem ca8 : callable Tryz.prog 8 = true:=by kernel_rfl
theorem ca9 : callable Tryz.prog 9 = true:=by kernel_rfl
theorem ca10 : callable Tryz.prog 10 = true:=by kernel_rfl
theorem ca11 : callable Tryz.prog 11 = true:=by kernel_rfl
theorem ca12 : callable Tryz.prog 12 = true:=by kernel_rfl
theorem ca13 : callable Tryz.prog 13 = true:=by kernel_rfl
theorem ca14 : callable Tryz.prog 14 = true:=by kernel_rfl
theorem ca15 : callable Tryz.prog 15 = true:=by kernel_rfl
theorem ca16 : callable Tryz.prog 16 = true:=by kernel_rfl
theorem ca17 : callable Tryz.prog 17 = true:=by kernel_rfl
theorem ca18 : callable Tryz.prog 18 = true:=by kernel_rfl
theorem ca19 : callable Tryz.prog 19 = true:=by kernel_rfl
theorem ca20 : callable Tryz.prog 20 = true:=by kernel_rfl
theorem ca21 : callable Tryz.prog 21 = true:=by kernel_rfl
theorem ca22 : callable Tryz.prog 22 = true:=by kernel_rfl
theorem ca23 : callable Tryz.prog 23 = true:=by kernel_rfl
theorem ca24 : callable Tryz.prog 24 = true:=by kernel_rfl
theorem ca25 : callable Tryz.prog 25 = true:=by kernel_rfl
theorem ca26 : callable Tryz.prog 26 = true:=by kernel_rfl
theorem ca27 : callable Tryz.prog 27 = true:=by kernel_rfl
theorem ca28 : callable Tryz.prog 28 = true:=by kernel_rfl
theorem ca29 : callable Tryz.prog 29 = true:=by kernel_rfl
theorem ca30 : callable Tryz.prog 30 = true:=by kernel_rfl
theorem ca31 : callable Tryz.prog 31 = true:=by kernel_rfl
theorem ca32 : callable Tryz.prog 32 = true:=by kernel_rfl
theorem ca33 : callable Tryz.prog 33 = true:=by kernel_rfl
theorem ca34 : callable Tryz.prog 34 = true:=by kernel_rfl
theorem ca35 : callable Tryz.prog 35 = true:=by kernel_rfl
theorem ca36 : callable Tryz.prog 36 = true:=by kernel_rfl
theorem ca37 : callable Tryz.prog 37 = true:=by kernel_rfl
theorem ca38 : callable Tryz.prog 38 = true:=by kernel_rfl
theorem ca39 : callable Tryz.prog 39 = true:=by kernel_rfl
theorem ca40 : callable Tryz.prog 40 = true:=by kernel_rfl
theorem ca41 : callable Tryz.prog 41 = true:=by kernel_rfl
theorem ca42 : callable Tryz.prog 42 = true:=by kernel_rfl
theorem ca43 : callable Tryz.prog 43 = true:=by kernel_rfl
theorem ca44 : callable Tryz.prog 44 = true:=by kernel_rfl
theorem ca45 : callable Tryz.prog 45 = true:=by kernel_rfl
theorem ca46 : callable Tryz.prog 46 = true:=by kernel_rfl
theorem ca47 : callable Tryz.prog 47 = true:=by kernel_rfl
theorem ca48 : callable Tryz.prog 48 = true:=by kernel_rfl
theorem ca51 : callable Tryz.prog 51 = true:=by kernel_rfl
theorem ca53 : callable Tryz.prog 53 = true:=by kernel_rfl
theorem ca54 : callable Tryz.prog 54 = true:=by kernel_rfl
theorem ca58 : callable Tryz.prog 58 = true:=by kernel_rfl
theorem ca59 : callable Tryz.prog 59 = true:=by kernel_rfl
theorem ca60 : callable Tryz.prog 60 = true:=by kernel_rfl
theorem ca62 : callable Tryz.prog 62 = true:=by kernel_rfl
theorem ca63 : callable Tryz.prog 63 = true:=by kernel_rfl
theorem ca64 : callable Tryz.prog 64 = true:=by kernel_rfl
theorem ca65 : callable Tryz.prog 65 = true:=by kernel_rfl
theorem ca66 : callable Tryz.prog 66 = true:=by kernel_rfl
theorem ca67 : callable Tryz.prog 67 = true:=by kernel_rfl
theorem ca68 : callable Tryz.prog 68 = true:=by kernel_rfl
theorem ca69 : callable Tryz.prog 69 = true:=by kernel_rfl
theorem ca70 : callable Tryz.prog 70 = true:=by kernel_rfl
theorem ca71 : callable Tryz.prog 71 = true:=by kernel_rfl
theorem ca72 : callable Tryz.prog 72 = true:=by kernel_rfl
theorem ca73 : callable Tryz.prog 73 = true:=by kernel_rfl
theorem ca74 : callable Tryz.prog 74 = true:=by kernel_rfl
theorem ca76 : callable Tryz.prog 76 = true:=by kernel_rfl
theorem ca77 : callable Tryz.prog 77 = true:=by kernel_rfl
theorem ca78 : callable Tryz.prog 78 = true:=by kernel_rfl
theorem ca79 : callable Tryz.prog 79 = true:=by kernel_rfl
theorem ca81 : callable Tryz.prog 81 = true:=by kernel_rfl
theorem ca82 : callable Tryz.prog 82 = true:=by kernel_rfl
theorem ca83 : callable Tryz.prog 83 = true:=by kernel_rfl
theorem ca84 : callable Tryz.prog 84 = true:=by kernel_rfl
theorem ca88 : callable Tryz.prog 88 = true:=by kernel_rfl
theorem ca89 : callable Tryz.prog 89 = true:=by kernel_rfl
theorem ca90 : callable Tryz.prog 90 = true:=by kernel_rfl
theorem ca92 : callable Tryz.prog 92 = true:=by kernel_rfl
theorem ca93 : callable Tryz.prog 93 = true:=by kernel_rfl
theorem ca94 : callable Tryz.prog 94 = true:=by kernel_rfl
theorem ca95 : callable Tryz.prog 95 = true:=by kernel_rfl
theorem ca96 : callable Tryz.prog 96 = true:=by kernel_rfl
theorem ca97 : callable Tryz.prog 97 = true:=by kernel_rfl
theorem ca98 : callable Tryz.prog 98 = true:=by kernel_rfl
theorem ca99 : callable Tryz.prog 99 = true:=by kernel_rfl
theorem ca100 : callable Tryz.prog 100 = true:=by kernel_rfl
theorem ca101 : callable Tryz.prog 101 = true:=by kernel_rfl
theorem ca102 : callable Tryz.prog 102 = true:=by kernel_rfl
theorem ca103 : callable Tryz.prog 103 = true:=by kernel_rfl
theorem ca104 : callable Tryz.prog 104 = true:=by kernel_rfl
theorem ca105 : callable Tryz.prog 105 = true:=by kernel_rfl
theorem ca106 : callable Tryz.prog 106 = true:=by kernel_rfl
theorem ca107 : callable Tryz.prog 107 = true:=by kernel_rfl
theorem ca108 : callable Tryz.prog 108 = true:=by kernel_rfl
theorem ca109 : callable Tryz.prog 109 = true:=by kernel_rfl
theorem ca110 : callable Tryz.prog 110 = true:=by kernel_rfl
theorem ca111 : callable Tryz.prog 111 = true:=by kernel_rfl
theorem ca112 : callable Tryz.prog 112 = true:=by kernel_rfl
theorem ca113 : callable Tryz.prog 113 = true:=by kernel_rfl
theorem ca114 : callable Tryz.prog 114 = true:=by kernel_rfl
theorem ca140 : callable Tryz.prog 140 = true:=by kernel_rfl
theorem foll : Tryz.prog.follows .mixedOrders = true:=by kernel_rfl
theorem laid : laidOutB Tryz.prog = true:=by kernel_rfl
theorem ownk : ownKnob Tryz.prog.godebug = none:=by kernel_rfl
def cf (N : Nat) (vs : List Nat) : Cfg:={ own:=fun _=>false,N:=N,vs:=vs }
end Go.Proofs.YtejbjgmgdbcddaaGreatDoor
/- The names of types, values and modules: what the program's and the model's functions answer. -/
set_option linter.unusedVariables false
set_option linter.unusedSimpArgs false
namespace Go.Proofs.YtejbjgmgdbcddaaGreatDoor
open Go.Abs
def localB (s : List UInt8) : Bool:=s.length == 1 && (decide (97 ≤ (s.getD 0 0).toNat) && decide ((s.getD 0 0).toNat ≤ 122))
def moduleB (s : List UInt8) : Bool:=(s.length == 1 && (decide (65 ≤ (s.getD 0 0).toNat) && decide ((s.getD 0 0).toNat ≤ 90))) && !decide (s = [73])
theorem local_no (s : List UInt8) (h : ¬ (s.length : Int) = 1) : localB s = false:=by
  have : s.length ≠ 1:=by omega
  simp [localB,this]
theorem local_lo (s : List UInt8) (h : ¬ (97 : Int) ≤ (s.getD 0 0).toNat) : localB s = false:=by
  have : ¬ 97 ≤ (s.getD 0 0).toNat:=by omega
  unfold localB; rw [decide_eq_false this]; simp
theorem local_hi (s : List UInt8) (h1 : (s.length : Int) = 1) (h : (97 : Int) ≤ (s.getD 0 0).toNat) : localB s = decide (((s.getD 0 0).toNat : Int) ≤ 122):=by
  have e1 : s.length = 1:=by omega
  have e2 : 97 ≤ (s.getD 0 0).toNat:=by omega
  unfold localB; rw [decide_eq_true e2,e1]
  rw [Bool.eq_iff_iff]; simp; omega
theorem module_no (s : List UInt8) (h : ¬ (s.length : Int) = 1) : moduleB s = false:=by
  have : s.length ≠ 1:=by omega
  simp [moduleB,this]
theorem module_lo (s : List UInt8) (h : ¬ (65 : Int) ≤ (s.getD 0 0).toNat) : moduleB s = false:=by
  have : ¬ 65 ≤ (s.getD 0 0).toNat:=by omega
  unfold moduleB; rw [decide_eq_false this]; simp
theorem module_up (s : List UInt8) (h : ¬ ((s.getD 0 0).toNat : Int) ≤ 90) : moduleB s = false:=by
  have : ¬ (s.getD 0 0).toNat ≤ 90:=by omega
  unfold moduleB; rw [decide_eq_false this]; simp
theorem module_hi (s : List UInt8) (h1 : (s.length : Int) = 1) (h : (65 : Int) ≤ (s.getD 0 0).toNat) (h2 : ((s.getD 0 0).toNat : Int) ≤ 90) : moduleB s = !decide (s = [73]):=by
  have e1 : s.length = 1:=by omega
  have e2 : 65 ≤ (s.getD 0 0).toNat:=by omega
  have e3 : (s.getD 0 0).toNat ≤ 90:=by omega
  unfold moduleB; rw [decide_eq_true e2,decide_eq_true e3,e1]; simp
set_option maxRecDepth 100000 in
theorem impl_LocalName (s : List UInt8) (A : List Box) : ACalls Tryz.prog 88 [.str s] A (fun v A'=>v = .bool (localB s) ∧ A' = A):=by
  refine acalls_enter (cf:=cf 16 [0,2]) foll Tryz.func88 Tryz.ntmps88 (by simp [cf]) ?_
  simp only [Tryz.f88,EnterK_some,zW,zX,zD,builtinA,isLeaf,const1,ustrA,simprocAttr,ti3,ti5,ti9,cf,Tryz.results88]
  repeat' first
    | (refine guardT_intro (fun h=>?_) (fun h=>?_) <;> (try simp only [decide_eq_true_eq,decide_eq_false_iff_not,Bool.not_eq_eq_eq_not,Bool.not_true,Bool.not_false] at h) <;> simp only [zW,zX,zD,builtinA,isLeaf,const1,ustrA,simprocAttr,ti3,ti5,ti9,cf,Tryz.results88,h])
    | (refine guardF_intro (fun h=>?_) (fun h=>?_) <;> (try simp only [decide_eq_true_eq,decide_eq_false_iff_not,Bool.not_eq_eq_eq_not,Bool.not_true,Bool.not_false] at h) <;> simp only [zW,zX,zD,builtinA,isLeaf,const1,ustrA,simprocAttr,ti3,ti5,ti9,cf,Tryz.results88,h])
    | (refine condK_intro (fun h=>?_) (fun h=>?_) <;> (try simp only [decide_eq_true_eq,decide_eq_false_iff_not,Bool.not_eq_eq_eq_not,Bool.not_true,Bool.not_false] at h) <;> simp only [zW,zX,zD,builtinA,isLeaf,const1,ustrA,simprocAttr,ti3,ti5,ti9,cf,Tryz.results88,h])
    | (refine guardDT_intro (fun h=>?_) (fun h=>?_) <;> (try simp only [decide_eq_true_eq,decide_eq_false_iff_not,Bool.not_eq_eq_eq_not,Bool.not_true,Bool.not_false] at h) <;> simp only [zW,zX,zD,builtinA,isLeaf,const1,ustrA,simprocAttr,ti3,ti5,ti9,cf,Tryz.results88,h])
    | (refine guardDF_intro (fun h=>?_) (fun h=>?_) <;> (try simp only [decide_eq_true_eq,decide_eq_false_iff_not,Bool.not_eq_eq_eq_not,Bool.not_true,Bool.not_false] at h) <;> simp only [zW,zX,zD,builtinA,isLeaf,const1,ustrA,simprocAttr,ti3,ti5,ti9,cf,Tryz.results88,h])
    | refine And.intro ?_ ?_
  · omega
  · rename_i h1
    rw [local_hi s h1 h]
  · rw [local_lo s ‹_›]
  · rw [local_no s ‹_›]
set_option maxRecDepth 100000 in
theorem spec_LocalName (s : List UInt8) (A : List Box) : ACalls Tryz.prog 76 [.str s] A (fun v A'=>v = .bool (localB s) ∧ A' = A):=by
  refine acalls_enter (cf:=cf 16 [0,2]) foll Tryz.func76 Tryz.ntmps76 (by simp [cf]) ?_
  simp only [Tryz.f76,EnterK_some,zW,zX,zD,builtinA,isLeaf,const1,ustrA,simprocAttr,ti3,ti5,ti9,cf,Tryz.results76]
  repeat' first
    | (refine guardT_intro (fun h=>?_) (fun h=>?_) <;> (try simp only [decide_eq_true_eq,decide_eq_false_iff_not,Bool.not_eq_eq_eq_not,Bool.not_true,Bool.not_false] at h) <;> simp only [zW,zX,zD,builtinA,isLeaf,const1,ustrA,simprocAttr,ti3,ti5,ti9,cf,Tryz.results76,h])
    | (refine guardF_intro (fun h=>?_) (fun h=>?_) <;> (try simp only [decide_eq_true_eq,decide_eq_false_iff_not,Bool.not_eq_eq_eq_not,Bool.not_true,Bool.not_false] at h) <;> simp only [zW,zX,zD,builtinA,isLeaf,const1,ustrA,simprocAttr,ti3,ti5,ti9,cf,Tryz.results76,h])
    | (refine condK_intro (fun h=>?_) (fun h=>?_) <;> (try simp only [decide_eq_true_eq,decide_eq_false_iff_not,Bool.not_eq_eq_eq_not,Bool.not_true,Bool.not_false] at h) <;> simp only [zW,zX,zD,builtinA,isLeaf,const1,ustrA,simprocAttr,ti3,ti5,ti9,cf,Tryz.results76,h])
    | (refine guardDT_intro (fun h=>?_) (fun h=>?_) <;> (try simp only [decide_eq_true_eq,decide_eq_false_iff_not,Bool.not_eq_eq_eq_not,Bool.not_true,Bool.not_false] at h) <;> simp only [zW,zX,zD,builtinA,isLeaf,const1,ustrA,simprocAttr,ti3,ti5,ti9,cf,Tryz.results76,h])
    | (refine guardDF_intro (fun h=>?_) (fun h=>?_) <;> (try simp only [decide_eq_true_eq,decide_eq_false_iff_not,Bool.not_eq_eq_eq_not,Bool.not_true,Bool.not_false] at h) <;> simp only [zW,zX,zD,builtinA,isLeaf,const1,ustrA,simprocAttr,ti3,ti5,ti9,cf,Tryz.results76,h])
    | refine And.intro ?_ ?_
  · omega
  · rename_i h1
    rw [local_hi s h1 h]
  · rw [local_lo s ‹_›]
  · rw [local_no s ‹_›]
set_option maxRecDepth 100000 in
theorem impl_ModuleName (s : List UInt8) (A : List Box) : ACalls Tryz.prog 114 [.str s] A (fun v A'=>v = .bool (moduleB s) ∧ A' = A):=by
  refine acalls_enter (cf:=cf 20 [0,2]) foll Tryz.func114 Tryz.ntmps114 (by simp [cf]) ?_
  simp only [Tryz.f114,EnterK_some,zW,zX,zD,builtinA,isLeaf,const1,ustrA,simprocAttr,ti3,ti5,ti9,cf,Tryz.results114]
  repeat' first
    | (refine guardT_intro (fun h=>?_) (fun h=>?_) <;> (try simp only [decide_eq_true_eq,decide_eq_false_iff_not,Bool.not_eq_eq_eq_not,Bool.not_true,Bool.not_false] at h) <;> simp only [zW,zX,zD,builtinA,isLeaf,const1,ustrA,simprocAttr,ti3,ti5,ti9,cf,Tryz.results114,h])
    | (refine guardF_intro (fun h=>?_) (fun h=>?_) <;> (try simp only [decide_eq_true_eq,decide_eq_false_iff_not,Bool.not_eq_eq_eq_not,Bool.not_true,Bool.not_false] at h) <;> simp only [zW,zX,zD,builtinA,isLeaf,const1,ustrA,simprocAttr,ti3,ti5,ti9,cf,Tryz.results114,h])
    | (refine condK_intro (fun h=>?_) (fun h=>?_) <;> (try simp only [decide_eq_true_eq,decide_eq_false_iff_not,Bool.not_eq_eq_eq_not,Bool.not_true,Bool.not_false] at h) <;> simp only [zW,zX,zD,builtinA,isLeaf,const1,ustrA,simprocAttr,ti3,ti5,ti9,cf,Tryz.results114,h])
    | (refine guardDT_intro (fun h=>?_) (fun h=>?_) <;> (try simp only [decide_eq_true_eq,decide_eq_false_iff_not,Bool.not_eq_eq_eq_not,Bool.not_true,Bool.not_false] at h) <;> simp only [zW,zX,zD,builtinA,isLeaf,const1,ustrA,simprocAttr,ti3,ti5,ti9,cf,Tryz.results114,h])
    | (refine guardDF_intro (fun h=>?_) (fun h=>?_) <;> (try simp only [decide_eq_true_eq,decide_eq_false_iff_not,Bool.not_eq_eq_eq_not,Bool.not_true,Bool.not_false] at h) <;> simp only [zW,zX,zD,builtinA,isLeaf,const1,ustrA,simprocAttr,ti3,ti5,ti9,cf,Tryz.results114,h])
    | refine And.intro ?_ ?_
  · omega
  · rename_i h1 h2
    rw [module_hi s h1 h2 h]
  · rw [module_up s ‹_›]
  · rw [module_lo s ‹_›]
  · rw [module_no s ‹_›]
set_option maxRecDepth 100000 in
theorem spec_ModuleName (s : List UInt8) (A : List Box) : ACalls Tryz.prog 95 [.str s] A (fun v A'=>v = .bool (moduleB s) ∧ A' = A):=by
  refine acalls_enter (cf:=cf 20 [0,2]) foll Tryz.func95 Tryz.ntmps95 (by simp [cf]) ?_
  simp only [Tryz.f95,EnterK_some,zW,zX,zD,builtinA,isLeaf,const1,ustrA,simprocAttr,ti3,ti5,ti9,cf,Tryz.results95]
  repeat' first
    | (refine guardT_intro (fun h=>?_) (fun h=>?_) <;> (try simp only [decide_eq_true_eq,decide_eq_false_iff_not,Bool.not_eq_eq_eq_not,Bool.not_true,Bool.not_false] at h) <;> simp only [zW,zX,zD,builtinA,isLeaf,const1,ustrA,simprocAttr,ti3,ti5,ti9,cf,Tryz.results95,h])
    | (refine guardF_intro (fun h=>?_) (fun h=>?_) <;> (try simp only [decide_eq_true_eq,decide_eq_false_iff_not,Bool.not_eq_eq_eq_not,Bool.not_true,Bool.not_false] at h) <;> simp only [zW,zX,zD,builtinA,isLeaf,const1,ustrA,simprocAttr,ti3,ti5,ti9,cf,Tryz.results95,h])
    | (refine condK_intro (fun h=>?_) (fun h=>?_) <;> (try simp only [decide_eq_true_eq,decide_eq_false_iff_not,Bool.not_eq_eq_eq_not,Bool.not_true,Bool.not_false] at h) <;> simp only [zW,zX,zD,builtinA,isLeaf,const1,ustrA,simprocAttr,ti3,ti5,ti9,cf,Tryz.results95,h])
    | (refine guardDT_intro (fun h=>?_) (fun h=>?_) <;> (try simp only [decide_eq_true_eq,decide_eq_false_iff_not,Bool.not_eq_eq_eq_not,Bool.not_true,Bool.not_false] at h) <;> simp only [zW,zX,zD,builtinA,isLeaf,const1,ustrA,simprocAttr,ti3,ti5,ti9,cf,Tryz.results95,h])
    | (refine guardDF_intro (fun h=>?_) (fun h=>?_) <;> (try simp only [decide_eq_true_eq,decide_eq_false_iff_not,Bool.not_eq_eq_eq_not,Bool.not_true,Bool.not_false] at h) <;> simp only [zW,zX,zD,builtinA,isLeaf,const1,ustrA,simprocAttr,ti3,ti5,ti9,cf,Tryz.results95,h])
    | refine And.intro ?_ ?_
  · omega
  · rename_i h1 h2
    rw [module_hi s h1 h2 h]
  · rw [module_up s ‹_›]
  · rw [module_lo s ‹_›]
  · rw [module_no s ‹_›]
set_option maxRecDepth 100000 in
theorem impl_validName (m n : List UInt8) (A : List Box) : ACalls Tryz.prog 113 [.str m,.str n] A (fun v A'=>v = .bool ((decide (m = []) || moduleB m) && localB n) ∧ A' = A):=by
  refine acalls_enter (cf:=cf 15 [0,1,4]) foll Tryz.func113 Tryz.ntmps113 (by simp [cf]) ?_
  simp only [Tryz.f113,EnterK_some,zW,zX,zD,builtinA,isLeaf,const1,ustrA,simprocAttr,ti9,ca88,ca114,cf,Tryz.results113]
  by_cases hm : m = []
  · simp only [zW,zX,zD,builtinA,isLeaf,const1,ustrA,simprocAttr,ti9,ca88,ca114,cf,Tryz.results113,decide_eq_true hm]
    refine callK_intro (by simp only [zW,zX,zD,builtinA,isLeaf,const1,ustrA,simprocAttr,Option.map_some]; rfl) (impl_LocalName n _) ?_ rfl; rintro v A' ⟨rfl,rfl⟩
    simp only [zW,zX,zD,builtinA,isLeaf,const1,ustrA,simprocAttr,ti9,ca88,ca114,cf,Tryz.results113]
  · simp only [zW,zX,zD,builtinA,isLeaf,const1,ustrA,simprocAttr,ti9,ca88,ca114,cf,Tryz.results113,decide_eq_false hm]
    refine callK_intro (by simp only [zW,zX,zD,builtinA,isLeaf,const1,ustrA,simprocAttr,Option.map_some]; rfl) (impl_ModuleName m _) ?_ rfl; rintro v A' ⟨rfl,rfl⟩
    cases hmm : moduleB m with
    | true =>
      simp only [zW,zX,zD,builtinA,isLeaf,const1,ustrA,simprocAttr,ti9,ca88,ca114,cf,Tryz.results113]
      refine callK_intro (by simp only [zW,zX,zD,builtinA,isLeaf,const1,ustrA,simprocAttr,Option.map_some]; rfl) (impl_LocalName n _) ?_ rfl; rintro v A' ⟨rfl,rfl⟩
      simp only [zW,zX,zD,builtinA,isLeaf,const1,ustrA,simprocAttr,ti9,ca88,ca114,cf,Tryz.results113]
    | false =>
      simp only [zW,zX,zD,builtinA,isLeaf,const1,ustrA,simprocAttr,ti9,ca88,ca114,cf,Tryz.results113]
end Go.Proofs.YtejbjgmgdbcddaaGreatDoor
/- Types as trees, and what the functions on them answer. -/
set_option linter.unusedVariables false
set_option linter.unusedSimpArgs false
namespace Go.Proofs.YtejbjgmgdbcddaaGreatDoor
open Go.Abs
inductive Ty where
  | mk (kind : Int) (mod name : List UInt8) (kids : List Ty)
noncomputable instance instTyDec : DecidableEq Ty:=fun a b=>Classical.propDecidable (a = b)
def Ty.kind : Ty → Int | .mk k _ _ _=>k
def Ty.mod : Ty → List UInt8 | .mk _ m _ _=>m
def Ty.name : Ty → List UInt8 | .mk _ _ n _=>n
def Ty.kids : Ty → List Ty | .mk _ _ _ ks=>ks
theorem Ty.ind {M : Ty → Prop} (h : ∀ k m n ks,(∀ t ∈ ks,M t) → M (.mk k m n ks)) : ∀ t,M t
  | .mk k m n ks=>h k m n ks fun t ht=>Ty.ind h t
termination_by t=>SizeOf.sizeOf t
decreasing_by
  have:=List.sizeOf_lt_of_mem ht
  simp only [Ty.mk.sizeOf_spec]
  omega
mutual
def enc : Ty → List AV
  | .mk k m n ks=>[.int .i64 k,.str m,.str n,.slice (encs ks)]
def encs : List Ty → List (List AV)
  | []=>[]
  | t :: l=>enc t :: encs l
end
mutual
def sz : Ty → Nat
  | .mk _ m n ks=>m.length + n.length + (ks.length + szs ks)
def szs : List Ty → Nat
  | []=>0
  | t :: l=>sz t + szs l
end
mutual
def count : Ty → Nat
  | .mk _ _ _ ks=>1 + counts ks
def counts : List Ty → Nat
  | []=>0
  | t :: l=>count t + counts l
end
inductive Ty.Ok : Ty → Prop
  | mk {k : Int} {m n : List UInt8} {ks : List Ty} : m.length < 2 ^ 63 → n.length < 2 ^ 63 → ks.length < 2 ^ 63 → (∀ t ∈ ks,Ty.Ok t) → Ty.Ok (.mk k m n ks)
def ty0 : Ty:=.mk 0 [] [] []
theorem encs_map : ∀ l,encs l = l.map enc
  | []=>rfl
  | t :: l=>by rw [encs,encs_map l]; rfl
theorem encs_length (l : List Ty) : (encs l).length = l.length:=by rw [encs_map]; simp
theorem encs_getD {l : List Ty} {i : Nat} (h : i < l.length) : (encs l).getD i [] = enc (l.getD i ty0):=by
  rw [encs_map]; simp [List.getD,h]
theorem enc_length (t : Ty) : (enc t).length = 4:=by cases t; rw [enc]; rfl
theorem enc_take (t : Ty) : List.take 4 (enc t) = enc t:=by cases t; rw [enc]; rfl
theorem enc_leaf (t : Ty) : ∀ v ∈ enc t,isLeaf v = true:=by cases t; rw [enc]; simp [isLeaf]
theorem frzL_enc (t : Ty) (A : List Box) : frzL (enc t) A = some (enc t,A):=by cases t; rw [enc]; rfl
theorem getD_mem {l : List Ty} {i : Nat} (h : i < l.length) : l.getD i ty0 ∈ l:=by simp [List.getD,h]
theorem szs_mem {t : Ty} {l : List Ty} (h : t ∈ l) : sz t ≤ szs l:=by
  induction l with
  | nil=>simp at h
  | cons u l ih =>
    rw [szs]
    rcases List.mem_cons.1 h with rfl | h
    · omega
    · have:=ih h; omega
theorem counts_take {l : List Ty} {i : Nat} (h : i < l.length) : counts (l.take (i + 1)) = counts (l.take i) + count (l.getD i ty0):=by
  induction l generalizing i with
  | nil=>simp at h
  | cons t l ih =>
    cases i with
    | zero=>simp [counts,List.getD]
    | succ i =>
      have:=ih (i:=i) (by simpa using h)
      simp only [List.take_succ_cons,counts,List.getD_cons_succ] at this ⊢
      omega
theorem wrap64 {n : Int} (h : -(2 ^ 63) ≤ n) (h' : n < 2 ^ 63) : IntKind.i64.wrap n = n:=by
  simp [IntKind.wrap,IntKind.signed,IntKind.bits]
  omega
def left (l : Int) (n : Nat) : Int:=if (n : Int) ≤ l then l - n else -1
def intOf : AV → Int
  | .int _ n=>n
  | _=>0
def ownB (k : Int) (m n : List UInt8) : Bool:=if k = 3 then localB n && (decide (m = []) || moduleB m) else decide (n = []) && decide (m = [])
def kidsOf (k : Int) : Int:=if k = 1 then 0 else if k = 3 then 0 else if k = 2 then 2 else -1
mutual
def shape : Ty → Int → Bool
  | .mk k m n ks,d=>decide (1 ≤ d) && (decide (kidsOf k = ks.length) && ownB k m n) && shapes ks (d - 1)
def shapes : List Ty → Int → Bool
  | [],_=>true
  | t :: l,d=>shape t d && shapes l d
end
theorem shapes_take {l : List Ty} {i : Nat} (h : i < l.length) (d : Int) : shapes (l.take (i + 1)) d = (shapes (l.take i) d && shape (l.getD i ty0) d):=by
  induction l generalizing i with
  | nil=>simp at h
  | cons t l ih =>
    cases i with
    | zero=>simp [shapes,List.getD]
    | succ i =>
      have:=ih (i:=i) (by simpa using h)
      simp only [List.take_succ_cons,shapes,List.getD_cons_succ] at this ⊢
      rw [this,Bool.and_assoc]
theorem shapes_false {l : List Ty} {i : Nat} {d : Int} (h : i < l.length) (hs : shape (l.getD i ty0) d = false) : shapes l d = false:=by
  induction l generalizing i with
  | nil=>simp at h
  | cons t l ih =>
    rw [shapes]
    cases i with
    | zero=>have : shape t d = false:=hs; rw [this]; rfl
    | succ i=>rw [ih (i:=i) (by simpa using h) (by simpa using hs)]; simp
theorem counts_le (l : List Ty) : ∀ i,counts (l.take i) ≤ counts l:=by
  induction l with
  | nil=>intro i; simp [counts]
  | cons t l ih =>
    intro i
    cases i with
    | zero=>simp [counts]
    | succ i=>simp only [List.take_succ_cons,counts]; have:=ih i; omega
mutual
theorem count_sz : ∀ t,count t ≤ 1 + sz t
  | .mk k m n ks=>by rw [count,sz]; have:=counts_szs ks; omega
theorem counts_szs : ∀ l,counts l ≤ l.length + szs l
  | []=>by simp [counts]
  | t :: l=>by rw [counts,szs,List.length_cons]; have:=count_sz t; have:=counts_szs l; omega
end
set_option maxRecDepth 100000 in
theorem spec_l1Kids (k : Int) (A : List Box) : ACalls Tryz.prog 110 [.int .i64 k] A (fun v A'=>v = .int .i64 (kidsOf k) ∧ A' = A):=by
  refine acalls_enter (cf:=cf 9 [0,2,3,4,7]) foll Tryz.func110 Tryz.ntmps110 (by simp [cf]) ?_
  simp only [Tryz.f110,EnterK_some,zW,zX,zD,builtinA,isLeaf,const1,ustrA,simprocAttr,ti3,cf,Tryz.results110]
  repeat' first
    | (refine guardT_intro (fun h=>?_) (fun h=>?_) <;> (try simp only [decide_eq_true_eq,decide_eq_false_iff_not,Bool.not_eq_eq_eq_not,Bool.not_true,Bool.not_false] at h) <;> simp only [zW,zX,zD,builtinA,isLeaf,const1,ustrA,simprocAttr,ti3,cf,Tryz.results110,h])
    | (refine guardF_intro (fun h=>?_) (fun h=>?_) <;> (try simp only [decide_eq_true_eq,decide_eq_false_iff_not,Bool.not_eq_eq_eq_not,Bool.not_true,Bool.not_false] at h) <;> simp only [zW,zX,zD,builtinA,isLeaf,const1,ustrA,simprocAttr,ti3,cf,Tryz.results110,h])
    | (refine condK_intro (fun h=>?_) (fun h=>?_) <;> (try simp only [decide_eq_true_eq,decide_eq_false_iff_not,Bool.not_eq_eq_eq_not,Bool.not_true,Bool.not_false] at h) <;> simp only [zW,zX,zD,builtinA,isLeaf,const1,ustrA,simprocAttr,ti3,cf,Tryz.results110,h])
    | (refine guardDT_intro (fun h=>?_) (fun h=>?_) <;> (try simp only [decide_eq_true_eq,decide_eq_false_iff_not,Bool.not_eq_eq_eq_not,Bool.not_true,Bool.not_false] at h) <;> simp only [zW,zX,zD,builtinA,isLeaf,const1,ustrA,simprocAttr,ti3,cf,Tryz.results110,h])
    | (refine guardDF_intro (fun h=>?_) (fun h=>?_) <;> (try simp only [decide_eq_true_eq,decide_eq_false_iff_not,Bool.not_eq_eq_eq_not,Bool.not_true,Bool.not_false] at h) <;> simp only [zW,zX,zD,builtinA,isLeaf,const1,ustrA,simprocAttr,ti3,cf,Tryz.results110,h])
    | refine And.intro ?_ ?_
  · subst h; rfl
  · subst h; rfl
  · subst h; rfl
  · rw [kidsOf,if_neg ‹_›,if_neg ‹_›,if_neg ‹_›]
set_option maxRecDepth 100000 in
theorem spec_l1Own (k : Int) (m n : List UInt8) (ks : List (List AV)) (A : List Box) : ACalls Tryz.prog 111 [.agg [.int .i64 k,.str m,.str n,.slice ks]] A (fun v A'=>v = .bool (ownB k m n) ∧ A' = A):=by
  refine acalls_enter (cf:=cf 27 [0,1,2,5]) foll Tryz.func111 Tryz.ntmps111 (by simp [cf]) ?_
  simp only [Tryz.f111,EnterK_some,zW,zX,zD,builtinA,isLeaf,const1,ustrA,simprocAttr,ti3,ti9,ti32,ca76,ca95,cf,Tryz.results111]
  repeat' first
    | (refine guardT_intro (fun h=>?_) (fun h=>?_) <;> (try simp only [decide_eq_true_eq,decide_eq_false_iff_not,Bool.not_eq_eq_eq_not,Bool.not_true,Bool.not_false] at h) <;> simp only [zW,zX,zD,builtinA,isLeaf,const1,ustrA,simprocAttr,ti3,ti9,ti32,ca76,ca95,cf,Tryz.results111,h])
    | (refine guardF_intro (fun h=>?_) (fun h=>?_) <;> (try simp only [decide_eq_true_eq,decide_eq_false_iff_not,Bool.not_eq_eq_eq_not,Bool.not_true,Bool.not_false] at h) <;> simp only [zW,zX,zD,builtinA,isLeaf,const1,ustrA,simprocAttr,ti3,ti9,ti32,ca76,ca95,cf,Tryz.results111,h])
    | (refine condK_intro (fun h=>?_) (fun h=>?_) <;> (try simp only [decide_eq_true_eq,decide_eq_false_iff_not,Bool.not_eq_eq_eq_not,Bool.not_true,Bool.not_false] at h) <;> simp only [zW,zX,zD,builtinA,isLeaf,const1,ustrA,simprocAttr,ti3,ti9,ti32,ca76,ca95,cf,Tryz.results111,h])
    | (refine guardDT_intro (fun h=>?_) (fun h=>?_) <;> (try simp only [decide_eq_true_eq,decide_eq_false_iff_not,Bool.not_eq_eq_eq_not,Bool.not_true,Bool.not_false] at h) <;> simp only [zW,zX,zD,builtinA,isLeaf,const1,ustrA,simprocAttr,ti3,ti9,ti32,ca76,ca95,cf,Tryz.results111,h])
    | (refine guardDF_intro (fun h=>?_) (fun h=>?_) <;> (try simp only [decide_eq_true_eq,decide_eq_false_iff_not,Bool.not_eq_eq_eq_not,Bool.not_true,Bool.not_false] at h) <;> simp only [zW,zX,zD,builtinA,isLeaf,const1,ustrA,simprocAttr,ti3,ti9,ti32,ca76,ca95,cf,Tryz.results111,h])
    | refine And.intro ?_ ?_
  · subst h
    refine callK_intro (by simp only [zW,zX,zD,builtinA,isLeaf,const1,ustrA,simprocAttr]; rfl) (spec_LocalName _ _) ?_ rfl; rintro v A' ⟨rfl,rfl⟩
    rw [ownB,if_pos rfl]
    simp only [zW,zX,zD,builtinA,isLeaf,const1,ustrA,simprocAttr,ti3,ti9,ti32,ca76,ca95,cf,Tryz.results111]
    repeat' first
      | (refine guardT_intro (fun h=>?_) (fun h=>?_) <;> (try simp only [decide_eq_true_eq,decide_eq_false_iff_not,Bool.not_eq_eq_eq_not,Bool.not_true,Bool.not_false] at h) <;> simp only [zW,zX,zD,builtinA,isLeaf,const1,ustrA,simprocAttr,ti3,ti9,ti32,ca76,ca95,cf,Tryz.results111,h])
      | (refine guardF_intro (fun h=>?_) (fun h=>?_) <;> (try simp only [decide_eq_true_eq,decide_eq_false_iff_not,Bool.not_eq_eq_eq_not,Bool.not_true,Bool.not_false] at h) <;> simp only [zW,zX,zD,builtinA,isLeaf,const1,ustrA,simprocAttr,ti3,ti9,ti32,ca76,ca95,cf,Tryz.results111,h])
      | (refine condK_intro (fun h=>?_) (fun h=>?_) <;> (try simp only [decide_eq_true_eq,decide_eq_false_iff_not,Bool.not_eq_eq_eq_not,Bool.not_true,Bool.not_false] at h) <;> simp only [zW,zX,zD,builtinA,isLeaf,const1,ustrA,simprocAttr,ti3,ti9,ti32,ca76,ca95,cf,Tryz.results111,h])
      | (refine guardDT_intro (fun h=>?_) (fun h=>?_) <;> (try simp only [decide_eq_true_eq,decide_eq_false_iff_not,Bool.not_eq_eq_eq_not,Bool.not_true,Bool.not_false] at h) <;> simp only [zW,zX,zD,builtinA,isLeaf,const1,ustrA,simprocAttr,ti3,ti9,ti32,ca76,ca95,cf,Tryz.results111,h])
      | (refine guardDF_intro (fun h=>?_) (fun h=>?_) <;> (try simp only [decide_eq_true_eq,decide_eq_false_iff_not,Bool.not_eq_eq_eq_not,Bool.not_true,Bool.not_false] at h) <;> simp only [zW,zX,zD,builtinA,isLeaf,const1,ustrA,simprocAttr,ti3,ti9,ti32,ca76,ca95,cf,Tryz.results111,h])
      | refine And.intro ?_ ?_
    · refine callK_intro (by simp only [zW,zX,zD,builtinA,isLeaf,const1,ustrA,simprocAttr]; rfl) (spec_ModuleName _ _) ?_ rfl; rintro v A' ⟨rfl,rfl⟩
      simp only [zW,zX,zD,builtinA,isLeaf,const1,ustrA,simprocAttr,ti3,ti9,ti32,ca76,ca95,cf,Tryz.results111]
  · subst h; rw [ownB,if_neg ‹_›]; simp
  · rw [ownB,if_neg ‹_›]; simp [h]
set_option maxRecDepth 100000 in
theorem spec_l1Shape (τ : Ty) (hτ : τ.Ok) : ∀ (d : Int) (A : List Box),-1000 ≤ d → d ≤ 1000 → ACalls Tryz.prog 100 [.agg (enc τ),.int .i64 d] A (fun v A'=>v = .bool (shape τ d) ∧ A' = A):=by
  induction τ using Ty.ind with
  | h k m n ks ih =>
    intro d A h0 h1
    obtain ⟨hm,hn,hks,hok⟩:=hτ
    rw [enc,shape]
    refine acalls_enter (cf:=cf 38 [0,1,2,4,5,21,26,37]) foll Tryz.func100 Tryz.ntmps100 (by simp [cf]) ?_
    simp only [Tryz.f100,EnterK_some,zW,zX,zD,builtinA,isLeaf,const1,ustrA,simprocAttr,ti3,ti30,ti32,ca100,ca110,ca111,cf,Tryz.results100]
    refine .inl ⟨by kernel_rfl,by kernel_rfl,?_⟩
    by_cases hd : d < 1
    · simp only [decide_eq_true hd]
      simp only [zW,zX,zD,builtinA,isLeaf,const1,ustrA,simprocAttr,ti3,ti30,ti32,ca100,ca110,ca111,cf,Tryz.results100]
      rw [decide_eq_false (show ¬ (1 : Int) ≤ d by omega)]
      rfl
    · simp only [decide_eq_false hd]
      simp only [zW,zX,zD,builtinA,isLeaf,const1,ustrA,simprocAttr,ti3,ti30,ti32,ca100,ca110,ca111,cf,Tryz.results100]
      refine callD_intro (by simp only [zW,zX,zD,builtinA,isLeaf,const1,ustrA,simprocAttr,Option.map_some] <;> rfl) (spec_l1Kids k _) ?_ rfl
      rw [decide_eq_true (show (1 : Int) ≤ d by omega)]
      by_cases hk : kidsOf k = ks.length
      · simp only [zW,zX,zD,builtinA,isLeaf,const1,ustrA,simprocAttr,ti3,ti30,ti32,ca100,ca110,ca111,cf,Tryz.results100,encs_length,decide_eq_true hk]
        refine callD_intro (by simp only [zW,zX,zD,builtinA,isLeaf,const1,ustrA,simprocAttr,Option.map_some] <;> rfl) (spec_l1Own k m n _ _) ?_ rfl
        by_cases ho : ownB k m n = true
        · simp only [zW,zX,zD,builtinA,isLeaf,const1,ustrA,simprocAttr,ti3,ti30,ti32,ca100,ca110,ca111,cf,Tryz.results100,ho]
          have hw : IntKind.i64.wrap (d - 1) = d - 1:=wrap64 (by omega) (by omega)
          refine aloop_intro [1,2,5] (fun e A'=>∃ i,i ≤ ks.length ∧ shapes (ks.take i) (d - 1) = true ∧ e = [(1,.int .i64 d),(2,.ptr A.length 0),(5,.int .i64 i)] ∧ A' = A ++ [.cells [.int .i64 k,.str m,.str n,.slice (encs ks)]]) (fun e _=>ks.length - (intOf (Abs.look 5 e)).toNat) ?_ ?_
          · simp only [zW,zX,zD,builtinA,isLeaf,const1,ustrA,simprocAttr,ti3,ti30,ti32,ca100,ca110,ca111,cf,Tryz.results100]
            exact ⟨0,by omega,by simp [shapes],rfl⟩
          · rintro e A' ⟨i,hi,hsh,rfl,rfl⟩
            simp only [zW,zX,zD,builtinA,isLeaf,const1,ustrA,simprocAttr,ti3,ti30,ti32,ca100,ca110,ca111,cf,Tryz.results100,encs_length]
            refine condK_intro (fun h2=>?_) (fun h2=>?_)
            · have hi2 : i < ks.length:=by simpa using h2
              have he:=encs_getD hi2
              have hmm:=getD_mem hi2
              have hi1 : IntKind.i64.wrap ((i : Int) + 1) = ((i + 1 : Nat) : Int):=by rw [wrap64 (by omega) (by omega)]; rfl
              have hst:=shapes_take hi2 (d - 1)
              simp only [zW,zX,zD,builtinA,isLeaf,const1,ustrA,simprocAttr,ti3,ti30,ti32,ca100,ca110,ca111,cf,Tryz.results100,he,enc_length,enc_take,encs_length,hw]
              refine ⟨⟨by omega,by omega⟩,?_⟩
              refine callK_intro (by simp only [zW,zX,zD,builtinA,isLeaf,const1,ustrA,simprocAttr,frzL_enc,Option.map_some]; rfl) (ih _ hmm (hok _ hmm) _ _ (by omega) (by omega)) ?_ rfl; rintro v A' ⟨rfl,rfl⟩
              cases hs : shape (ks.getD i ty0) (d - 1) with
              | true =>
                rw [hsh,hs] at hst
                simp only [zW,zX,zD,builtinA,isLeaf,const1,ustrA,simprocAttr,ti3,ti30,ti32,ca100,ca110,ca111,cf,Tryz.results100,hi1,LoopK_eq]
                refine ⟨⟨i + 1,by omega,hst,rfl⟩,?_⟩
                simp only [intOf]
                omega
              | false =>
                simp only [zW,zX,zD,builtinA,isLeaf,const1,ustrA,simprocAttr,ti3,ti30,ti32,ca100,ca110,ca111,cf,Tryz.results100]
                rw [shapes_false hi2 hs]
            · simp only [zW,zX,zD,builtinA,isLeaf,const1,ustrA,simprocAttr,ti3,ti30,ti32,ca100,ca110,ca111,cf,Tryz.results100]
              have : i = ks.length:=by simp at h2; omega
              subst this
              rw [List.take_length] at hsh
              rw [hsh]
        · simp only [zW,zX,zD,builtinA,isLeaf,const1,ustrA,simprocAttr,ti3,ti30,ti32,ca100,ca110,ca111,cf,Tryz.results100,ho]
      · simp only [zW,zX,zD,builtinA,isLeaf,const1,ustrA,simprocAttr,ti3,ti30,ti32,ca100,ca110,ca111,cf,Tryz.results100,encs_length,decide_eq_false hk]
set_option maxRecDepth 100000 in
theorem spec_l1Count (τ : Ty) (hτ : τ.Ok) (hc : sz τ ≤ 1048576) : ∀ (A : List Box),ACalls Tryz.prog 101 [.agg (enc τ)] A (fun v A'=>v = .int .i64 (count τ) ∧ A' = A):=by
  induction τ using Ty.ind with
  | h k m n ks ih =>
    intro A
    obtain ⟨hm,hn,hks,hok⟩:=hτ
    have hcs:=count_sz (.mk k m n ks)
    rw [enc]
    refine acalls_enter (cf:=cf 21 [0,1,2,3,4,9]) foll Tryz.func101 Tryz.ntmps101 (by simp [cf]) ?_
    simp only [Tryz.f101,EnterK_some,zW,zX,zD,builtinA,isLeaf,const1,ustrA,simprocAttr,ti3,ti30,ti32,ca101,cf,Tryz.results101]
    refine aloop_intro [1,3,4] (fun e A'=>∃ i,i ≤ ks.length ∧ e = [(1,.ptr A.length 0),(3,.int .i64 (1 + counts (ks.take i) : Nat)),(4,.int .i64 i)] ∧ A' = A ++ [.cells [.int .i64 k,.str m,.str n,.slice (encs ks)]]) (fun e _=>ks.length - (intOf (Abs.look 4 e)).toNat) ?_ ?_
    · simp only [zW,zX,zD,builtinA,isLeaf,const1,ustrA,simprocAttr,ti3,ti30,ti32,ca101,cf,Tryz.results101]
      exact ⟨0,by omega,by simp [counts]⟩
    · rintro e A' ⟨i,hi,rfl,rfl⟩
      simp only [zW,zX,zD,builtinA,isLeaf,const1,ustrA,simprocAttr,ti3,ti30,ti32,ca101,cf,Tryz.results101,encs_length]
      refine condK_intro (fun h2=>?_) (fun h2=>?_)
      · have hi2 : i < ks.length:=by simpa using h2
        have he:=encs_getD hi2
        have hmm:=getD_mem hi2
        have hi1 : IntKind.i64.wrap ((i : Int) + 1) = ((i + 1 : Nat) : Int):=by rw [wrap64 (by omega) (by omega)]; rfl
        have hct:=counts_take hi2
        have hcl:=counts_le ks (i + 1)
        have hc1 : count (.mk k m n ks) = 1 + counts ks:=by rw [count]
        have hw : IntKind.i64.wrap (((1 + counts (ks.take i) : Nat) : Int) + (count (ks.getD i ty0) : Int)) = ((1 + counts (ks.take (i + 1)) : Nat) : Int):=by
          rw [wrap64 (by omega) (by omega)]; omega
        have hsz : sz (ks.getD i ty0) ≤ 1048576:=by have:=szs_mem hmm; rw [sz] at hc; omega
        simp only [zW,zX,zD,builtinA,isLeaf,const1,ustrA,simprocAttr,ti3,ti30,ti32,ca101,cf,Tryz.results101,he,enc_length,enc_take,encs_length]
        refine ⟨⟨by omega,by omega⟩,?_⟩
        refine callK_intro (by simp only [zW,zX,zD,builtinA,isLeaf,const1,ustrA,simprocAttr,frzL_enc,Option.map_some]; rfl) (ih _ hmm (hok _ hmm) hsz _) ?_ rfl; rintro v A' ⟨rfl,rfl⟩
        simp only [zW,zX,zD,builtinA,isLeaf,const1,ustrA,simprocAttr,ti3,ti30,ti32,ca101,cf,Tryz.results101,hi1,hw,LoopK_eq]
        refine ⟨⟨i + 1,by omega,rfl⟩,?_⟩
        simp only [intOf]
        omega
      · simp only [zW,zX,zD,builtinA,isLeaf,const1,ustrA,simprocAttr,ti3,ti30,ti32,ca101,cf,Tryz.results101]
        have : i = ks.length:=by simp at h2; omega
        subst this
        rw [List.take_length,count]
def validB (τ : Ty) : Bool:=shape τ 8 && decide (count τ ≤ 63)
set_option maxRecDepth 100000 in
theorem spec_TypeValid (τ : Ty) (hτ : τ.Ok) (hc : sz τ ≤ 1048576) (A : List Box) : ACalls Tryz.prog 78 [.agg (enc τ)] A (fun v A'=>v = .bool (validB τ) ∧ A' = A):=by
  refine acalls_enter (cf:=cf 10 [0,1,2]) foll Tryz.func78 Tryz.ntmps78 (by simp [cf]) ?_
  simp only [Tryz.f78,EnterK_some,zW,zX,zD,builtinA,isLeaf,const1,ustrA,simprocAttr,ti3,ti32,ca100,ca101,cf,Tryz.results78]
  simp only [enc_take]
  refine ⟨by rw [enc_length]; omega,?_⟩
  refine callK_intro (by simp only [zW,zX,zD,builtinA,isLeaf,const1,ustrA,simprocAttr,frzL_enc,Option.map_some]; rfl) (spec_l1Shape τ hτ _ _ (by omega) (by omega)) ?_ rfl; rintro v A' ⟨rfl,rfl⟩
  rw [validB]
  cases hs : shape τ 8 with
  | true =>
    simp only [zW,zX,zD,builtinA,isLeaf,const1,ustrA,simprocAttr,ti3,ti32,ca100,ca101,cf,Tryz.results78,enc_take]
    refine ⟨by rw [enc_length]; omega,?_⟩
    refine callK_intro (by simp only [zW,zX,zD,builtinA,isLeaf,const1,ustrA,simprocAttr,frzL_enc,Option.map_some]; rfl) (spec_l1Count τ hτ hc _) ?_ rfl; rintro v A' ⟨rfl,rfl⟩
    simp only [zW,zX,zD,builtinA,isLeaf,const1,ustrA,simprocAttr,ti3,ti32,ca100,ca101,cf,Tryz.results78]
    simp
    omega
  | false =>
    simp only [zW,zX,zD,builtinA,isLeaf,const1,ustrA,simprocAttr,ti3,ti32,ca100,ca101,cf,Tryz.results78]
end Go.Proofs.YtejbjgmgdbcddaaGreatDoor
