/- Facts, Names, Types, TypesVal, Exprs, Draw. -/
import Derived.Test.YtijlnkfiadajhaaRows
import Derived.Test.YtijlnkfiadajhaaAbsW3
/- Facts of this translation. -/
namespace Go.Proofs.Ytijlnkfiadajhaa
open Go.Abs
theorem ks181 : keyS Try.prog 181 = some [(0,.ptr 53),(1,.int .i64)]:=by kernel_rfl
theorem ks185 : keyS Try.prog 185 = some [(0,.ptr 50),(1,.int .i64)]:=by kernel_rfl
theorem ks189 : keyS Try.prog 189 = some [(0,.ptr 70),(1,.int .i64)]:=by kernel_rfl
theorem ks193 : keyS Try.prog 193 = some [(0,.ptr 102),(1,.int .i64)]:=by kernel_rfl
theorem ks202 : keyS Try.prog 202 = some [(0,.ptr 130),(1,.int .i64)]:=by kernel_rfl
theorem ks206 : keyS Try.prog 206 = some [(0,.ptr 132),(1,.int .i64)]:=by kernel_rfl
theorem ks211 : keyS Try.prog 211 = some [(0,.ptr 9),(1,.int .i64)]:=by kernel_rfl
theorem mi76 : mapInf Try.prog 76 = some (185,[(0,.ptr 50),(1,.int .i64)],2,.agg [.nilp,.int .i64 0]):=by kernel_rfl
theorem mi80 : mapInf Try.prog 80 = some (206,[(0,.ptr 132),(1,.int .i64)],2,.agg [.nilp,.int .i64 0]):=by kernel_rfl
theorem mi85 : mapInf Try.prog 85 = some (181,[(0,.ptr 53),(1,.int .i64)],2,.agg [.nilp,.int .i64 0]):=by kernel_rfl
theorem mi89 : mapInf Try.prog 89 = some (202,[(0,.ptr 130),(1,.int .i64)],2,.agg [.nilp,.int .i64 0]):=by kernel_rfl
theorem mi93 : mapInf Try.prog 93 = some (189,[(0,.ptr 70),(1,.int .i64)],2,.agg [.nilp,.int .i64 0]):=by kernel_rfl
theorem mi106 : mapInf Try.prog 106 = some (193,[(0,.ptr 102),(1,.int .i64)],2,.agg [.nilp,.int .i64 0]):=by kernel_rfl
theorem mi108 : mapInf Try.prog 108 = some (211,[(0,.ptr 9),(1,.int .i64)],2,.agg [.nilp,.int .i64 0]):=by kernel_rfl
theorem ti3 : tinf Try.prog 3 = some { size:=1,bytes:=8,zero:=some [.int .i64 0],kind:=.int .i64 }:=by kernel_rfl
theorem ti4 : tinf Try.prog 4 = some { size:=1,bytes:=1,zero:=some [.bool false],kind:=.bool }:=by kernel_rfl
theorem ti5 : tinf Try.prog 5 = some { size:=1,bytes:=1,zero:=some [.int .u8 0],kind:=.int .u8 }:=by kernel_rfl
theorem ti9 : tinf Try.prog 9 = some { size:=1,bytes:=16,zero:=some [.str []],kind:=.str }:=by kernel_rfl
theorem ti22 : tinf Try.prog 22 = some { size:=1,bytes:=24,zero:=some [.nils],kind:=.slice 122 }:=by kernel_rfl
theorem ti23 : tinf Try.prog 23 = some { size:=1,bytes:=24,zero:=some [.nils],kind:=.slice 125 }:=by kernel_rfl
theorem ti24 : tinf Try.prog 24 = some { size:=1,bytes:=24,zero:=some [.nils],kind:=.slice 128 }:=by kernel_rfl
theorem ti26 : tinf Try.prog 26 = some { size:=4,bytes:=88,zero:=some [.str [],.nils,.nils,.nils],kind:=.struct [(0,9,1),(1,22,1),(2,23,1),(3,24,1)] }:=by kernel_rfl
theorem ti29 : tinf Try.prog 29 = some { size:=1,bytes:=24,zero:=some [.nils],kind:=.slice 70 }:=by kernel_rfl
theorem ti30 : tinf Try.prog 30 = some { size:=1,bytes:=24,zero:=some [.nils],kind:=.slice 130 }:=by kernel_rfl
theorem ti31 : tinf Try.prog 31 = some { size:=1,bytes:=24,zero:=some [.nils],kind:=.slice 132 }:=by kernel_rfl
theorem ti33 : tinf Try.prog 33 = some { size:=4,bytes:=88,zero:=some [.str [],.nils,.nils,.nils],kind:=.struct [(0,9,1),(1,29,1),(2,30,1),(3,31,1)] }:=by kernel_rfl
theorem ti36 : tinf Try.prog 36 = some { size:=1,bytes:=24,zero:=some [.nils],kind:=.slice 144 }:=by kernel_rfl
theorem ti37 : tinf Try.prog 37 = some { size:=1,bytes:=24,zero:=some [.nils],kind:=.slice 39 }:=by kernel_rfl
theorem ti39 : tinf Try.prog 39 = some { size:=4,bytes:=64,zero:=some [.int .i64 0,.str [],.str [],.nils],kind:=.struct [(0,3,1),(1,9,1),(2,9,1),(3,37,1)] }:=by kernel_rfl
theorem ti40 : tinf Try.prog 40 = some { size:=1,bytes:=24,zero:=some [.nils],kind:=.slice 42 }:=by kernel_rfl
theorem ti42 : tinf Try.prog 42 = some { size:=9,bytes:=136,zero:=some [.int .i64 0,.int .i64 0,.str [],.str [],.int .i64 0,.str [],.str [],.nils,.nils],kind:=.struct [(0,3,1),(1,3,1),(2,9,1),(3,9,1),(4,39,4),(8,40,1)] }:=by kernel_rfl
theorem ti44 : tinf Try.prog 44 = some { size:=10,bytes:=160,zero:=some [.nils,.int .i64 0,.int .i64 0,.str [],.str [],.int .i64 0,.str [],.str [],.nils,.nils],kind:=.struct [(0,36,1),(1,42,9)] }:=by kernel_rfl
theorem ti47 : tinf Try.prog 47 = some { size:=1,bytes:=24,zero:=some [.nils],kind:=.slice 102 }:=by kernel_rfl
theorem ti48 : tinf Try.prog 48 = some { size:=1,bytes:=24,zero:=some [.nils],kind:=.slice 50 }:=by kernel_rfl
theorem ti50 : tinf Try.prog 50 = some { size:=4,bytes:=64,zero:=some [.int .i64 0,.str [],.str [],.nils],kind:=.struct [(0,3,1),(1,9,1),(2,9,1),(3,48,1)] }:=by kernel_rfl
theorem ti51 : tinf Try.prog 51 = some { size:=1,bytes:=24,zero:=some [.nils],kind:=.slice 53 }:=by kernel_rfl
theorem ti53 : tinf Try.prog 53 = some { size:=9,bytes:=136,zero:=some [.int .i64 0,.int .i64 0,.str [],.str [],.int .i64 0,.str [],.str [],.nils,.nils],kind:=.struct [(0,3,1),(1,3,1),(2,9,1),(3,9,1),(4,50,4),(8,51,1)] }:=by kernel_rfl
theorem ti55 : tinf Try.prog 55 = some { size:=10,bytes:=160,zero:=some [.nils,.int .i64 0,.int .i64 0,.str [],.str [],.int .i64 0,.str [],.str [],.nils,.nils],kind:=.struct [(0,47,1),(1,53,9)] }:=by kernel_rfl
theorem ti58 : tinf Try.prog 58 = some { size:=1,bytes:=24,zero:=some [.nils],kind:=.slice 5 }:=by kernel_rfl
theorem ti61 : tinf Try.prog 61 = some { size:=1,bytes:=8,zero:=some [.nilf],kind:=.func }:=by kernel_rfl
theorem ti62 : tinf Try.prog 62 = some { size:=1,bytes:=8,zero:=some [.nilf],kind:=.func }:=by kernel_rfl
theorem ti70 : tinf Try.prog 70 = some { size:=2,bytes:=40,zero:=some [.str [],.nils],kind:=.struct [(0,9,1),(1,31,1)] }:=by kernel_rfl
theorem ti74 : tinf Try.prog 74 = some { size:=1,bytes:=8,zero:=some [.nilf],kind:=.func }:=by kernel_rfl
theorem ti76 : tinf Try.prog 76 = some { size:=1,bytes:=8,zero:=some [.nilm],kind:=.map 185 185 }:=by kernel_rfl
theorem ti78 : tinf Try.prog 78 = some { size:=3,bytes:=24,zero:=some [.nilf,.nilf,.nilm],kind:=.struct [(0,74,1),(1,62,1),(2,76,1)] }:=by kernel_rfl
theorem ti80 : tinf Try.prog 80 = some { size:=1,bytes:=8,zero:=some [.nilm],kind:=.map 206 206 }:=by kernel_rfl
theorem ti82 : tinf Try.prog 82 = some { size:=4,bytes:=32,zero:=some [.nilf,.nilf,.nilm,.nilm],kind:=.struct [(0,78,3),(3,80,1)] }:=by kernel_rfl
theorem ti83 : tinf Try.prog 83 = some { size:=1,bytes:=8,zero:=some [.nilf],kind:=.func }:=by kernel_rfl
theorem ti85 : tinf Try.prog 85 = some { size:=1,bytes:=8,zero:=some [.nilm],kind:=.map 181 181 }:=by kernel_rfl
theorem ti87 : tinf Try.prog 87 = some { size:=3,bytes:=24,zero:=some [.nilf,.nilf,.nilm],kind:=.struct [(0,83,1),(1,61,1),(2,85,1)] }:=by kernel_rfl
theorem ti89 : tinf Try.prog 89 = some { size:=1,bytes:=8,zero:=some [.nilm],kind:=.map 202 202 }:=by kernel_rfl
theorem ti91 : tinf Try.prog 91 = some { size:=7,bytes:=56,zero:=some [.nilf,.nilf,.nilm,.nilf,.nilf,.nilm,.nilm],kind:=.struct [(0,78,3),(3,87,3),(6,89,1)] }:=by kernel_rfl
theorem ti93 : tinf Try.prog 93 = some { size:=1,bytes:=8,zero:=some [.nilm],kind:=.map 189 189 }:=by kernel_rfl
theorem ti95 : tinf Try.prog 95 = some { size:=12,bytes:=96,zero:=some [.nilf,.nilf,.nilm,.nilm,.nilf,.nilf,.nilm,.nilf,.nilf,.nilm,.nilm,.nilm],kind:=.struct [(0,82,4),(4,91,7),(11,93,1)] }:=by kernel_rfl
theorem ti100 : tinf Try.prog 100 = some { size:=1,bytes:=24,zero:=some [.nils],kind:=.slice 9 }:=by kernel_rfl
theorem ti102 : tinf Try.prog 102 = some { size:=7,bytes:=144,zero:=some [.str [],.nils,.nils,.nils,.str [],.str [],.nils],kind:=.struct [(0,33,4),(4,9,1),(5,9,1),(6,100,1)] }:=by kernel_rfl
theorem ti106 : tinf Try.prog 106 = some { size:=1,bytes:=8,zero:=some [.nilm],kind:=.map 193 193 }:=by kernel_rfl
theorem ti108 : tinf Try.prog 108 = some { size:=1,bytes:=8,zero:=some [.nilm],kind:=.map 211 211 }:=by kernel_rfl
theorem ti110 : tinf Try.prog 110 = some { size:=14,bytes:=112,zero:=some [.nilf,.nilf,.nilm,.nilm,.nilf,.nilf,.nilm,.nilf,.nilf,.nilm,.nilm,.nilm,.nilm,.nilm],kind:=.struct [(0,95,12),(12,106,1),(13,108,1)] }:=by kernel_rfl
theorem ti122 : tinf Try.prog 122 = some { size:=2,bytes:=40,zero:=some [.str [],.nils],kind:=.struct [(0,9,1),(1,24,1)] }:=by kernel_rfl
theorem ti125 : tinf Try.prog 125 = some { size:=15,bytes:=224,zero:=some [.int .i64 0,.str [],.int .i64 0,.str [],.str [],.nils,.int .i64 0,.int .i64 0,.str [],.str [],.int .i64 0,.str [],.str [],.nils,.nils],kind:=.struct [(0,3,1),(1,9,1),(2,39,4),(6,42,9)] }:=by kernel_rfl
theorem ti128 : tinf Try.prog 128 = some { size:=6,bytes:=88,zero:=some [.int .i64 0,.str [],.int .i64 0,.str [],.str [],.nils],kind:=.struct [(0,3,1),(1,9,1),(2,39,4)] }:=by kernel_rfl
theorem ti130 : tinf Try.prog 130 = some { size:=15,bytes:=224,zero:=some [.int .i64 0,.str [],.int .i64 0,.str [],.str [],.nils,.int .i64 0,.int .i64 0,.str [],.str [],.int .i64 0,.str [],.str [],.nils,.nils],kind:=.struct [(0,3,1),(1,9,1),(2,50,4),(6,53,9)] }:=by kernel_rfl
theorem ti132 : tinf Try.prog 132 = some { size:=6,bytes:=88,zero:=some [.int .i64 0,.str [],.int .i64 0,.str [],.str [],.nils],kind:=.struct [(0,3,1),(1,9,1),(2,50,4)] }:=by kernel_rfl
theorem ti144 : tinf Try.prog 144 = some { size:=7,bytes:=144,zero:=some [.str [],.nils,.nils,.nils,.str [],.str [],.nils],kind:=.struct [(0,26,4),(4,9,1),(5,9,1),(6,100,1)] }:=by kernel_rfl
theorem ti154 : tinf Try.prog 154 = some { size:=2,bytes:=32,zero:=some [.nils,.int .i64 0],kind:=.struct [(0,58,1),(1,3,1)] }:=by kernel_rfl
theorem ti157 : tinf Try.prog 157 = some { size:=1,bytes:=24,zero:=some [.nils],kind:=.slice 3 }:=by kernel_rfl
theorem ti162 : tinf Try.prog 162 = some { size:=2,bytes:=48,zero:=some [.nils,.nils],kind:=.struct [(0,51,1),(1,51,1)] }:=by kernel_rfl
theorem ti163 : tinf Try.prog 163 = some { size:=1,bytes:=24,zero:=some [.nils],kind:=.slice 162 }:=by kernel_rfl
theorem ti165 : tinf Try.prog 165 = some { size:=2,bytes:=48,zero:=some [.nils,.nils],kind:=.struct [(0,48,1),(1,48,1)] }:=by kernel_rfl
theorem ti166 : tinf Try.prog 166 = some { size:=1,bytes:=24,zero:=some [.nils],kind:=.slice 165 }:=by kernel_rfl
theorem ti181 : tinf Try.prog 181 = some { size:=2,bytes:=16,zero:=some [.nilp,.int .i64 0],kind:=.struct [(0,179,1),(1,3,1)] }:=by kernel_rfl
theorem ti185 : tinf Try.prog 185 = some { size:=2,bytes:=16,zero:=some [.nilp,.int .i64 0],kind:=.struct [(0,183,1),(1,3,1)] }:=by kernel_rfl
theorem ti189 : tinf Try.prog 189 = some { size:=2,bytes:=16,zero:=some [.nilp,.int .i64 0],kind:=.struct [(0,187,1),(1,3,1)] }:=by kernel_rfl
theorem ti193 : tinf Try.prog 193 = some { size:=2,bytes:=16,zero:=some [.nilp,.int .i64 0],kind:=.struct [(0,191,1),(1,3,1)] }:=by kernel_rfl
theorem ti202 : tinf Try.prog 202 = some { size:=2,bytes:=16,zero:=some [.nilp,.int .i64 0],kind:=.struct [(0,200,1),(1,3,1)] }:=by kernel_rfl
theorem ti206 : tinf Try.prog 206 = some { size:=2,bytes:=16,zero:=some [.nilp,.int .i64 0],kind:=.struct [(0,204,1),(1,3,1)] }:=by kernel_rfl
theorem ti211 : tinf Try.prog 211 = some { size:=2,bytes:=16,zero:=some [.nilp,.int .i64 0],kind:=.struct [(0,209,1),(1,3,1)] }:=by kernel_rfl
theorem ca6 : callable Try.prog 6 = true:=by kernel_rfl
theorem ca7 : callable Try.prog 7 = true:=by kernel_rfl
theorem ca8 : callable Try.prog 8 = true:=by kernel_rfl
theorem ca9 : callable Try.prog 9 = true:=by kernel_rfl
theorem ca10 : callable Try.prog 10 = true:=by kernel_rfl
theorem ca11 : callable Try.prog 11 = true:=by kernel_rfl
theorem ca12 : callable Try.prog 12 = true:=by kernel_rfl
theorem ca13 : callable Try.prog 13 = true:=by kernel_rfl
theorem ca14 : callable Try.prog 14 = true:=by kernel_rfl
theorem ca15 : callable Try.prog 15 = true:=by kernel_rfl
theorem ca16 : callable Try.prog 16 = true:=by kernel_rfl
theorem ca17 : callable Try.prog 17 = true:=by kernel_rfl
theorem ca18 : callable Try.prog 18 = true:=by kernel_rfl
theorem ca19 : callable Try.prog 19 = true:=by kernel_rfl
theorem ca20 : callable Try.prog 20 = true:=by kernel_rfl
theorem ca21 : callable Try.prog 21 = true:=by kernel_rfl
theorem ca22 : callable Try.prog 22 = true:=by kernel_rfl
theorem ca23 : callable Try.prog 23 = true:=by kernel_rfl
theorem ca24 : callable Try.prog 24 = true:=by kernel_rfl
theorem ca25 : callable Try.prog 25 = true:=by kernel_rfl
theorem ca26 : callable Try.prog 26 = true:=by kernel_rfl
theorem ca27 : callable Try.prog 27 = true:=by kernel_rfl
theorem ca28 : callable Try.prog 28 = true:=by kernel_rfl
theorem ca29 : callable Try.prog 29 = true:=by kernel_rfl
theorem ca30 : callable Try.prog 30 = true:=by kernel_rfl
theorem ca31 : callable Try.prog 31 = true:=by kernel_rfl
theorem ca32 : callable Try.prog 32 = true:=by kernel_rfl
theorem ca33 : callable Try.prog 33 = true:=by kernel_rfl
theorem ca34 : callable Try.prog 34 = true:=by kernel_rfl
theorem ca35 : callable Try.prog 35 = true:=by kernel_rfl
theorem ca36 : callable Try.prog 36 = true:=by kernel_rfl
theorem ca37 : callable Try.prog 37 = true:=by kernel_rfl
theorem ca38 : callable Try.prog 38 = true:=by kernel_rfl
theorem ca39 : callable Try.prog 39 = true:=by kernel_rfl
theorem ca40 : callable Try.prog 40 = true:=by kernel_rfl
theorem ca41 : callable Try.prog 41 = true:=by kernel_rfl
theorem ca42 : callable Try.prog 42 = true:=by kernel_rfl
theorem ca43 : callable Try.prog 43 = true:=by kernel_rfl
theorem ca44 : callable Try.prog 44 = true:=by kernel_rfl
theorem ca45 : callable Try.prog 45 = true:=by kernel_rfl
theorem ca46 : callable Try.prog 46 = true:=by kernel_rfl
theorem ca47 : callable Try.prog 47 = true:=by kernel_rfl
theorem ca48 : callable Try.prog 48 = true:=by kernel_rfl
theorem ca49 : callable Try.prog 49 = true:=by kernel_rfl
theorem ca50 : callable Try.prog 50 = true:=by kernel_rfl
theorem ca51 : callable Try.prog 51 = true:=by kernel_rfl
theorem ca52 : callable Try.prog 52 = true:=by kernel_rfl
theorem ca53 : callable Try.prog 53 = true:=by kernel_rfl
theorem ca54 : callable Try.prog 54 = true:=by kernel_rfl
theorem ca55 : callable Try.prog 55 = true:=by kernel_rfl
theorem ca56 : callable Try.prog 56 = true:=by kernel_rfl
theorem ca57 : callable Try.prog 57 = true:=by kernel_rfl
theorem ca58 : callable Try.prog 58 = true:=by kernel_rfl
theorem ca60 : callable Try.prog 60 = true:=by kernel_rfl
theorem ca61 : callable Try.prog 61 = true:=by kernel_rfl
theorem ca62 : callable Try.prog 62 = true:=by kernel_rfl
theorem ca63 : callable Try.prog 63 = true:=by kernel_rfl
theorem ca64 : callable Try.prog 64 = true:=by kernel_rfl
theorem ca65 : callable Try.prog 65 = true:=by kernel_rfl
theorem ca66 : callable Try.prog 66 = true:=by kernel_rfl
theorem ca67 : callable Try.prog 67 = true:=by kernel_rfl
theorem ca68 : callable Try.prog 68 = true:=by kernel_rfl
theorem ca69 : callable Try.prog 69 = true:=by kernel_rfl
theorem ca70 : callable Try.prog 70 = true:=by kernel_rfl
theorem ca71 : callable Try.prog 71 = true:=by kernel_rfl
theorem ca73 : callable Try.prog 73 = true:=by kernel_rfl
theorem ca74 : callable Try.prog 74 = true:=by kernel_rfl
theorem ca75 : callable Try.prog 75 = true:=by kernel_rfl
theorem ca76 : callable Try.prog 76 = true:=by kernel_rfl
theorem ca77 : callable Try.prog 77 = true:=by kernel_rfl
theorem ca78 : callable Try.prog 78 = true:=by kernel_rfl
theorem ca79 : callable Try.prog 79 = true:=by kernel_rfl
theorem ca80 : callable Try.prog 80 = true:=by kernel_rfl
theorem ca85 : callable Try.prog 85 = true:=by kernel_rfl
theorem ca86 : callable Try.prog 86 = true:=by kernel_rfl
theorem ca87 : callable Try.prog 87 = true:=by kernel_rfl
theorem ca88 : callable Try.prog 88 = true:=by kernel_rfl
theorem ca89 : callable Try.prog 89 = true:=by kernel_rfl
theorem ca91 : callable Try.prog 91 = true:=by kernel_rfl
theorem ca93 : callable Try.prog 93 = true:=by kernel_rfl
theorem ca94 : callable Try.prog 94 = true:=by kernel_rfl
theorem ca95 : callable Try.prog 95 = true:=by kernel_rfl
theorem ca96 : callable Try.prog 96 = true:=by kernel_rfl
theorem ca97 : callable Try.prog 97 = true:=by kernel_rfl
theorem ca98 : callable Try.prog 98 = true:=by kernel_rfl
theorem ca100 : callable Try.prog 100 = true:=by kernel_rfl
theorem ca101 : callable Try.prog 101 = true:=by kernel_rfl
theorem ca102 : callable Try.prog 102 = true:=by kernel_rfl
theorem ca103 : callable Try.prog 103 = true:=by kernel_rfl
theorem ca104 : callable Try.prog 104 = true:=by kernel_rfl
theorem ca105 : callable Try.prog 105 = true:=by kernel_rfl
theorem ca106 : callable Try.prog 106 = true:=by kernel_rfl
theorem ca107 : callable Try.prog 107 = true:=by kernel_rfl
theorem ca108 : callable Try.prog 108 = true:=by kernel_rfl
theorem ca109 : callable Try.prog 109 = true:=by kernel_rfl
theorem ca110 : callable Try.prog 110 = true:=by kernel_rfl
theorem ca111 : callable Try.prog 111 = true:=by kernel_rfl
theorem ca112 : callable Try.prog 112 = true:=by kernel_rfl
theorem ca113 : callable Try.prog 113 = true:=by kernel_rfl
theorem ca114 : callable Try.prog 114 = true:=by kernel_rfl
theorem ca115 : callable Try.prog 115 = true:=by kernel_rfl
theorem ca116 : callable Try.prog 116 = true:=by kernel_rfl
theorem ca117 : callable Try.prog 117 = true:=by kernel_rfl
theorem ca118 : callable Try.prog 118 = true:=by kernel_rfl
theorem ca119 : callable Try.prog 119 = true:=by kernel_rfl
theorem ca120 : callable Try.prog 120 = true:=by kernel_rfl
theorem foll : Try.prog.follows .mixedOrders = true:=by kernel_rfl
theorem laid : laidOutB Try.prog = true:=by kernel_rfl
theorem ownk : ownKnob Try.prog.godebug = none:=by kernel_rfl
def cf (N : Nat) (vs : List Nat) : Cfg:={ own:=fun _=>false,N:=N,vs:=vs }
end Go.Proofs.Ytijlnkfiadajhaa
/- The names of types, values and modules: what the program's and the model's functions answer. -/
set_option linter.unusedVariables false
set_option linter.unusedSimpArgs false
namespace Go.Proofs.Ytijlnkfiadajhaa
open Go.Abs
def localB (s : List UInt8) : Bool:=s.length == 1 && (decide (97 ≤ (s.getD 0 0).toNat) && decide ((s.getD 0 0).toNat ≤ 122))
def moduleB (s : List UInt8) : Bool:=(s.length == 1 && (decide (65 ≤ (s.getD 0 0).toNat) && decide ((s.getD 0 0).toNat ≤ 90))) && !decide (s = [73])
end Go.Proofs.Ytijlnkfiadajhaa
/- Types as trees, and what the functions on them answer. -/
set_option linter.unusedVariables false
set_option linter.unusedSimpArgs false
namespace Go.Proofs.Ytijlnkfiadajhaa
open Go.Abs
inductive Ty where
  | mk (kind : Int) (mod name : List UInt8) (kids : List Ty)
noncomputable instance instTyDec : DecidableEq Ty:=fun a b=>Classical.propDecidable (a = b)
def Ty.kind : Ty → Int | .mk k _ _ _=>k
def Ty.mod : Ty → List UInt8 | .mk _ m _ _=>m
def Ty.name : Ty → List UInt8 | .mk _ _ n _=>n
def Ty.kids : Ty → List Ty | .mk _ _ _ ks=>ks
theorem Ty.ind {M : Ty → Prop} (h : ∀ k m n ks,(∀ t ∈ ks,M t) → M (.mk k m n ks)) : ∀ t,M t
  | .mk k m n ks=>h k m n ks fun t ht=>Ty.ind h t
termination_by t=>SizeOf.sizeOf t
decreasing_by
  have:=List.sizeOf_lt_of_mem ht
  simp only [Ty.mk.sizeOf_spec]
  omega
mutual
def enc : Ty → List AV
  | .mk k m n ks=>[.int .i64 k,.str m,.str n,.slice (encs ks)]
def encs : List Ty → List (List AV)
  | []=>[]
  | t :: l=>enc t :: encs l
end
mutual
def sz : Ty → Nat
  | .mk _ m n ks=>m.length + n.length + (ks.length + szs ks)
def szs : List Ty → Nat
  | []=>0
  | t :: l=>sz t + szs l
end
inductive Ty.Ok : Ty → Prop
  | mk {k : Int} {m n : List UInt8} {ks : List Ty} : m.length < 2 ^ 63 → n.length < 2 ^ 63 → ks.length < 2 ^ 63 → (∀ t ∈ ks,Ty.Ok t) → Ty.Ok (.mk k m n ks)
def ty0 : Ty:=.mk 0 [] [] []
theorem encs_map : ∀ l,encs l = l.map enc
  | []=>rfl
  | t :: l=>by rw [encs,encs_map l]; rfl
theorem encs_length (l : List Ty) : (encs l).length = l.length:=by rw [encs_map]; simp
theorem encs_getD {l : List Ty} {i : Nat} (h : i < l.length) : (encs l).getD i [] = enc (l.getD i ty0):=by
  rw [encs_map]; simp [List.getD,h]
theorem enc_length (t : Ty) : (enc t).length = 4:=by cases t; rw [enc]; rfl
theorem enc_take (t : Ty) : List.take 4 (enc t) = enc t:=by cases t; rw [enc]; rfl
theorem enc_leaf (t : Ty) : ∀ v ∈ enc t,isLeaf v = true:=by cases t; rw [enc]; simp [isLeaf]
theorem frzL_enc (t : Ty) (A : List Box) : frzL (enc t) A = some (enc t,A):=by cases t; rw [enc]; rfl
theorem getD_mem {l : List Ty} {i : Nat} (h : i < l.length) : l.getD i ty0 ∈ l:=by simp [List.getD,h]
theorem szs_mem {t : Ty} {l : List Ty} (h : t ∈ l) : sz t ≤ szs l:=by
  induction l with
  | nil=>simp at h
  | cons u l ih =>
    rw [szs]
    rcases List.mem_cons.1 h with rfl | h
    · omega
    · have:=ih h; omega
theorem wrap64 {n : Int} (h : -(2 ^ 63) ≤ n) (h' : n < 2 ^ 63) : IntKind.i64.wrap n = n:=by
  simp [IntKind.wrap,IntKind.signed,IntKind.bits]
  omega
def left (l : Int) (n : Nat) : Int:=if (n : Int) ≤ l then l - n else -1
def intOf : AV → Int
  | .int _ n=>n
  | _=>0
end Go.Proofs.Ytijlnkfiadajhaa
/- Valid types as trees, and what the methods of the program answer on them. -/
set_option linter.unusedVariables false
set_option linter.unusedSimpArgs false
namespace Go.Proofs.Ytijlnkfiadajhaa
open Go.Abs
inductive VT where
  | num
  | fn (a b : VT)
  | nm (m n : List UInt8)
def toTy : VT → Ty
  | .num=>.mk 1 [] [] []
  | .fn a b=>.mk 2 [] [] [toTy a,toTy b]
  | .nm m n=>.mk 3 m n []
def dep : VT → Nat
  | .num=>1
  | .fn a b=>1 + max (dep a) (dep b)
  | .nm _ _=>1
def cnt : VT → Nat
  | .num=>1
  | .fn a b=>1 + cnt a + cnt b
  | .nm _ _=>1
def nmB (m n : List UInt8) : Bool:=(decide (m = []) || moduleB m) && localB n
def okV : VT → Bool
  | .num=>true
  | .fn a b=>okV a && okV b
  | .nm m n=>nmB m n
theorem cnt_dep : ∀ v,cnt v + 1 ≤ 2 ^ dep v
  | .num=>by simp [dep,cnt]
  | .nm _ _=>by simp [dep,cnt]
  | .fn a b=>by
    have ha:=cnt_dep a
    have hb:=cnt_dep b
    have h1 : 2 ^ dep a ≤ 2 ^ max (dep a) (dep b):=Nat.pow_le_pow_right (by decide) (Nat.le_max_left _ _)
    have h2 : 2 ^ dep b ≤ 2 ^ max (dep a) (dep b):=Nat.pow_le_pow_right (by decide) (Nat.le_max_right _ _)
    rw [dep,cnt,Nat.pow_add,Nat.pow_one]
    omega
theorem cnt_lt {v : VT} {k : Nat} (h : dep v ≤ k) : cnt v < 2 ^ k:=by
  have:=cnt_dep v
  have h2 : 2 ^ dep v ≤ 2 ^ k:=Nat.pow_le_pow_right (by decide) h
  omega
end Go.Proofs.Ytijlnkfiadajhaa
/- Expressions as trees, and what the laws' helpers do with them. -/
set_option linter.unusedVariables false
set_option linter.unusedSimpArgs false
namespace Go.Proofs.Ytijlnkfiadajhaa
open Go.Abs
inductive Ex where
  | mk (kind n : Int) (mod name : List UInt8) (arg : Ty) (kids : List Ex)
theorem Ex.ind {M : Ex → Prop} (h : ∀ k i m n t ks,(∀ x ∈ ks,M x) → M (.mk k i m n t ks)) : ∀ x,M x
  | .mk k i m n t ks=>h k i m n t ks fun x hx=>Ex.ind h x
termination_by x=>SizeOf.sizeOf x
decreasing_by
  have:=List.sizeOf_lt_of_mem hx
  simp only [Ex.mk.sizeOf_spec]
  omega
theorem encT4 (t : Ty) : enc t = [.int .i64 t.kind,.str t.mod,.str t.name,.slice (encs t.kids)]:=by cases t; rw [enc]; rfl
mutual
def encX : Ex → List AV
  | .mk k i m n t ks=>[.int .i64 k,.int .i64 i,.str m,.str n,.int .i64 t.kind,.str t.mod,.str t.name,.slice (encs t.kids),.slice (encXs ks)]
def encXs : List Ex → List (List AV)
  | []=>[]
  | x :: l=>encX x :: encXs l
end
mutual
def szX : Ex → Nat
  | .mk _ _ m n t ks=>m.length + n.length + sz t + (ks.length + szXs ks)
def szXs : List Ex → Nat
  | []=>0
  | x :: l=>szX x + szXs l
end
inductive Ex.Ok : Ex → Prop
  | mk {k i : Int} {m n : List UInt8} {t : Ty} {ks : List Ex} : m.length < 2 ^ 63 → n.length < 2 ^ 63 → t.Ok → ks.length < 2 ^ 63 → (∀ x ∈ ks,Ex.Ok x) → Ex.Ok (.mk k i m n t ks)
def ex0 : Ex:=.mk 0 0 [] [] ty0 []
def zex : List AV:=[.int .i64 0,.int .i64 0,.str [],.str [],.int .i64 0,.str [],.str [],.slice [],.slice []]
theorem encXs_map : ∀ l,encXs l = l.map encX
  | []=>rfl
  | t :: l=>by rw [encXs,encXs_map l]; rfl
theorem encXs_length (l : List Ex) : (encXs l).length = l.length:=by rw [encXs_map]; simp
theorem encXs_getD {l : List Ex} {i : Nat} (h : i < l.length) : (encXs l).getD i [] = encX (l.getD i ex0):=by
  rw [encXs_map]; simp [List.getD,h]
theorem encX_length (t : Ex) : (encX t).length = 9:=by cases t; rw [encX]; rfl
theorem encX_take (t : Ex) : List.take 9 (encX t) = encX t:=by cases t; rw [encX]; rfl
theorem encX_leaf (t : Ex) : ∀ v ∈ encX t,isLeaf v = true:=by cases t; rw [encX]; simp [isLeaf]
theorem frzL_encX (t : Ex) (A : List Box) : frzL (encX t) A = some (encX t,A):=by cases t; rw [encX]; rfl
theorem ex_mem {l : List Ex} {i : Nat} (h : i < l.length) : l.getD i ex0 ∈ l:=by simp [List.getD,h]
theorem ex_take {l : List Ex} {i : Nat} (h : i < l.length) : l.take (i + 1) = l.take i ++ [l.getD i ex0]:=by
  rw [List.take_add_one]; simp [List.getD,h]
theorem szXs_mem {t : Ex} {l : List Ex} (h : t ∈ l) : szX t ≤ szXs l:=by
  induction l with
  | nil=>simp at h
  | cons u l ih =>
    rw [szXs]
    rcases List.mem_cons.1 h with rfl | h
    · omega
    · have:=ih h; omega
end Go.Proofs.Ytijlnkfiadajhaa
/- The source of the drawn arguments. -/
set_option linter.unusedVariables false
set_option linter.unusedSimpArgs false
namespace Go.Proofs.Ytijlnkfiadajhaa
open Go.Abs
def Rd (bs : List UInt8) (p : Nat) : Box:=.cells [.aslice (byteRows bs),.int .i64 p]
theorem rd_closed (n : Nat) (bs : List UInt8) (p : Nat) : boxClosed n (Rd bs p) = true:=rfl
theorem byteRows_length (bs : List UInt8) : (byteRows bs).length = bs.length:=by simp [byteRows]
theorem byteRows_getD {bs : List UInt8} {i : Nat} (h : i < bs.length) : (byteRows bs).getD i [] = [.int .u8 ((bs.getD i 0).toNat : Nat)]:=by simp [byteRows,List.getD,h]
theorem byte_lt (b : UInt8) : (b.toNat : Int) < 256:=by have:=b.toNat_lt; omega
theorem xor_wrap {X : Nat} (h : X < 2 ^ 62) : 0 ≤ IntKind.i64.wrap ((BitVec.ofInt IntKind.i64.bits (X : Int) ^^^ BitVec.ofInt IntKind.i64.bits (IntKind.i64.wrap ((X : Int).tdiv 64))).toNat : Int):=by
  have h1 : ((X : Int).tdiv 64) = ((X / 64 : Nat) : Int):=rfl
  have h2 : X / 64 < 2 ^ 62:=by omega
  have h4 : IntKind.i64.wrap ((X / 64 : Nat) : Int) = ((X / 64 : Nat) : Int):=wrap64 (by omega) (by omega)
  rw [h1,h4]
  show 0 ≤ IntKind.i64.wrap ((BitVec.ofInt 64 (X : Int) ^^^ BitVec.ofInt 64 ((X / 64 : Nat) : Int)).toNat : Int)
  have e1 : (BitVec.ofInt 64 (X : Int)).toNat = X:=by rw [BitVec.toNat_ofInt]; omega
  have e2 : (BitVec.ofInt 64 ((X / 64 : Nat) : Int)).toNat = X / 64:=by rw [BitVec.toNat_ofInt]; omega
  rw [BitVec.toNat_xor,e1,e2]
  have h3:=Nat.xor_lt_two_pow h h2
  rw [wrap64 (by omega) (by omega)]
  omega
set_option maxRecDepth 100000 in
theorem spec_l17Open (bs : List UInt8) (A : List Box) : ACalls Try.prog 41 [.aslice (byteRows bs)] A (fun r A'=>∃ bs',bs'.length ≤ 2000 ∧ r = .ptr A.length 0 ∧ A' = A ++ [Rd bs' 0]):=by
  refine acalls_enterK (cf:=cf 11 [0,2,5]) foll Try.func41 Try.ntmps41 (by simp [cf]) ?_
  simp only [Try.f41,EnterK_some,zW,zX,zD,builtinA,isLeaf,const1,ustrA,simprocAttr,ti3,ti5,ti58,ti154,cf,Try.results41]
  refine condK_intro (fun h=>?_) (fun h=>?_)
  · simp [byteRows_length] at h
    simp only [zW,zX,zD,builtinA,isLeaf,const1,ustrA,simprocAttr,ti3,ti5,ti58,ti154,cf,Try.results41]
    refine ⟨⟨by simp [byteRows],by rw [byteRows_length]; omega⟩,bs.take 2000,(by rw [List.length_take]; omega),by simp [Rd,byteRows,List.map_take]⟩
  · have h' : bs.length ≤ 2000:=by simp [byteRows_length] at h; omega
    simp only [zW,zX,zD,builtinA,isLeaf,const1,ustrA,simprocAttr,ti3,ti5,ti58,ti154,cf,Try.results41]
    exact ⟨bs,h',rfl⟩
set_option maxRecDepth 100000 in
theorem spec_pick (bs : List UInt8) (p : Nat) (n : Int) (i : Nat) (A : List Box) (hi : i < A.length) (hA : A.getD i .dead = Rd bs p) (hp : p < 2 ^ 40) (hn : n < 2 ^ 40) :
    ACalls Try.prog 43 [.ptr i 0,.int .i64 n] A (fun r A'=>∃ j : Int,r = .int .i64 j ∧ 0 ≤ j ∧ (1 ≤ n → j < n) ∧ A' = A.set i (Rd bs (p + 1))):=by
  rw [Rd] at hA
  have hp1 : IntKind.i64.wrap ((p : Int) + 1) = ((p + 1 : Nat) : Int):=by rw [wrap64 (by omega) (by omega)]; rfl
  refine acalls_enter (cf:=cf 99 [0,1,4,5,6,24,36]) foll Try.func43 Try.ntmps43 (by simp [cf]) ?_
  simp only [Try.f43,EnterK_some,zW,zX,zD,builtinA,isLeaf,const1,ustrA,simprocAttr,ti3,ti5,ti58,ti154,cf,Try.results43]
  simp only [zW,zX,zD,builtinA,isLeaf,const1,ustrA,simprocAttr,ti3,ti5,ti58,ti154,cf,Try.results43,hA,hi,hp1]
  have hout : Outer A (A.set i (.cells [.aslice (byteRows bs),.int .i64 ((p + 1 : Nat) : Int)])):=outer_set0 A i _ rfl
  by_cases hn1 : n < 1
  · have e1 : decide (n < 1) = true:=decide_eq_true hn1
    simp only [zW,zX,zD,builtinA,isLeaf,const1,ustrA,simprocAttr,ti3,ti5,ti58,ti154,cf,Try.results43,hA,hi,hp1,e1]
    exact ⟨hout,0,rfl,by omega,by omega,rfl⟩
  · have e1 : decide (n < 1) = false:=decide_eq_false hn1
    simp only [zW,zX,zD,builtinA,isLeaf,const1,ustrA,simprocAttr,ti3,ti5,ti58,ti154,cf,Try.results43,hA,hi,hp1,e1,byteRows_length]
    by_cases hb : bs.length = 0
    · have e2 : decide ((bs.length : Int) = 0) = true:=decide_eq_true (by omega)
      simp only [zW,zX,zD,builtinA,isLeaf,const1,ustrA,simprocAttr,ti3,ti5,ti58,ti154,cf,Try.results43,hA,hi,hp1,e1,e2,byteRows_length]
      exact ⟨hout,0,rfl,by omega,by omega,rfl⟩
    · have e2 : decide ((bs.length : Int) = 0) = false:=decide_eq_false (by omega)
      have hp2 : IntKind.i64.wrap (((p + 1 : Nat) : Int) - 1) = (p : Int):=by rw [wrap64 (by omega) (by omega)]; omega
      simp only [zW,zX,zD,builtinA,isLeaf,const1,ustrA,simprocAttr,ti3,ti5,ti58,ti154,cf,Try.results43,hA,hi,hp1,hp2,e1,e2,byteRows_length]
      by_cases hk : p < bs.length
      · have e3 : decide ((p : Int) < bs.length) = true:=decide_eq_true (by omega)
        simp only [zW,zX,zD,builtinA,isLeaf,const1,ustrA,simprocAttr,ti3,ti5,ti58,ti154,cf,Try.results43,hA,hi,hp1,hp2,e1,e2,e3,byteRows_length,byteRows_getD hk]
        have hb0:=byte_lt (bs.getD p 0)
        rw [wrap64 (by omega) (by omega)]
        have hr0:=Int.tmod_nonneg n (show (0 : Int) ≤ ((bs.getD p 0).toNat : Nat) by omega)
        have hr1:=Int.tmod_lt_of_pos (((bs.getD p 0).toNat : Nat) : Int) (show (0 : Int) < n by omega)
        exact ⟨by omega,by omega,hout,_,rfl,hr0,fun _=>hr1,rfl⟩
      · have e3 : decide ((p : Int) < bs.length) = false:=decide_eq_false (by omega)
        simp only [zW,zX,zD,builtinA,isLeaf,const1,ustrA,simprocAttr,ti3,ti5,ti58,ti154,cf,Try.results43,hA,hi,hp1,hp2,e1,e2,e3,byteRows_length]
        refine .inl ⟨by kernel_rfl,by kernel_rfl,?_⟩
        obtain ⟨L,hL⟩ : ∃ L,L = bs.length:=⟨_,rfl⟩
        have hL0 : 0 < L:=by omega
        have hm0 : p % L < L:=Nat.mod_lt _ hL0
        have hm1 : (p * 7 + 3) % L < L:=Nat.mod_lt _ hL0
        have hq : p / L ≤ p:=Nat.div_le_self _ _
        obtain ⟨b0,hb0⟩ : ∃ b0 : Nat,b0 = (bs.getD (p % L) 0).toNat:=⟨_,rfl⟩
        obtain ⟨b1,hb1⟩ : ∃ b1 : Nat,b1 = (bs.getD ((p * 7 + 3) % L) 0).toNat:=⟨_,rfl⟩
        have hb0l : b0 < 256:=by rw [hb0]; exact (bs.getD (p % L) 0).toNat_lt
        have hb1l : b1 < 256:=by rw [hb1]; exact (bs.getD ((p * 7 + 3) % L) 0).toNat_lt
        have g0 : (byteRows bs).getD (p % L) [] = [.int .u8 (b0 : Int)]:=by rw [byteRows_getD (by omega),hb0]
        have g1 : (byteRows bs).getD ((p * 7 + 3) % L) [] = [.int .u8 (b1 : Int)]:=by rw [byteRows_getD (by omega),hb1]
        obtain ⟨q,hqd⟩ : ∃ q,q = p / L:=⟨_,rfl⟩
        have t0 : ((p : Int)).tmod (L : Int) = ((p % L : Nat) : Int):=rfl
        have t1 : (((p * 7 + 3 : Nat)) : Int).tmod (L : Int) = (((p * 7 + 3) % L : Nat) : Int):=rfl
        have t2 : ((p : Int)).tdiv (L : Int) = (q : Int):=by rw [hqd]; rfl
        have w0 : IntKind.i64.wrap (b0 : Int) = b0:=wrap64 (by omega) (by omega)
        have w1 : IntKind.i64.wrap ((b0 : Int) * 131) = ((b0 * 131 : Nat) : Int):=by rw [wrap64 (by omega) (by omega)]; omega
        have w2 : IntKind.i64.wrap (b1 : Int) = b1:=wrap64 (by omega) (by omega)
        have w3 : IntKind.i64.wrap ((b1 : Int) * 1117) = ((b1 * 1117 : Nat) : Int):=by rw [wrap64 (by omega) (by omega)]; omega
        have w4 : IntKind.i64.wrap ((p : Int) * 7) = ((p * 7 : Nat) : Int):=by rw [wrap64 (by omega) (by omega)]; omega
        have w5 : IntKind.i64.wrap (((p * 7 : Nat) : Int) + 3) = ((p * 7 + 3 : Nat) : Int):=by rw [wrap64 (by omega) (by omega)]; omega
        have w6 : IntKind.i64.wrap (((b0 * 131 : Nat) : Int) + ((b1 * 1117 : Nat) : Int)) = ((b0 * 131 + b1 * 1117 : Nat) : Int):=by rw [wrap64 (by omega) (by omega)]; omega
        have w7 : IntKind.i64.wrap ((p : Int) * 29) = ((p * 29 : Nat) : Int):=by rw [wrap64 (by omega) (by omega)]; omega
        have w8 : IntKind.i64.wrap (((b0 * 131 + b1 * 1117 : Nat) : Int) + ((p * 29 : Nat) : Int)) = ((b0 * 131 + b1 * 1117 + p * 29 : Nat) : Int):=by rw [wrap64 (by omega) (by omega)]; omega
        have w9 : IntKind.i64.wrap (q : Int) = q:=wrap64 (by omega) (by omega)
        have wa : IntKind.i64.wrap ((q : Int) * 53) = ((q * 53 : Nat) : Int):=by rw [wrap64 (by omega) (by omega)]; omega
        have wb : IntKind.i64.wrap (((b0 * 131 + b1 * 1117 + p * 29 : Nat) : Int) + ((q * 53 : Nat) : Int)) = ((b0 * 131 + b1 * 1117 + p * 29 + q * 53 : Nat) : Int):=by rw [wrap64 (by omega) (by omega)]; omega
        rw [← hL]
        simp only [zW,zX,zD,builtinA,isLeaf,const1,ustrA,simprocAttr,ti3,ti5,ti58,ti154,cf,Try.results43,hA,hi,hp1,hp2,e1,e2,e3,byteRows_length,← hL,t0,t1,t2,w0,w1,w2,w3,w4,w5,w6,w7,w8,w9,wa,wb,g0,g1]
        obtain ⟨X,hX⟩ : ∃ X,X = b0 * 131 + b1 * 1117 + p * 29 + q * 53:=⟨_,rfl⟩
        have hXl : X < 2 ^ 62:=by omega
        rw [← hX]
        have hx:=xor_wrap hXl
        refine ⟨by omega,⟨by omega,by omega⟩,by omega,⟨by omega,by omega⟩,by omega,by omega,hout,_,rfl,Int.tmod_nonneg n hx,fun _=>Int.tmod_lt_of_pos _ (by omega),rfl⟩
set_option maxRecDepth 100000 in
theorem spec_of (bs : List UInt8) (p : Nat) (l : List (List UInt8)) (i : Nat) (A : List Box) (hi : i < A.length) (hA : A.getD i .dead = Rd bs p) (hp : p < 2 ^ 40) (hl : 0 < l.length ∧ l.length < 1000) :
    ACalls Try.prog 79 [.ptr i 0,.slice (l.map fun s=>[.str s])] A (fun r A'=>∃ s,r = .str s ∧ s ∈ l ∧ A' = A.set i (Rd bs (p + 1))):=by
  have hll : (l.map fun s=>[AV.str s]).length = l.length:=by simp
  refine acalls_enter (cf:=cf 12 [0,1,4]) foll Try.func79 Try.ntmps79 (by simp [cf]) ?_
  simp only [Try.f79,EnterK_some,zW,zX,zD,builtinA,isLeaf,const1,ustrA,simprocAttr,ti9,ti100,ca43,cf,Try.results79]
  simp only [hll]
  refine callK_intro (by simp only [zW,zX,zD,builtinA,isLeaf,const1,ustrA,simprocAttr]; rfl) (spec_pick bs p _ i _ hi hA hp (by omega)) ?_ rfl
  rintro v A' ⟨j,rfl,h0,h1,rfl⟩
  obtain ⟨k,rfl⟩:=Int.eq_ofNat_of_zero_le h0
  have hk : k < l.length:=by have:=h1 (by omega); omega
  have hg : (l.map fun s=>[AV.str s]).getD k [] = [.str (l.getD k [])]:=by simp [List.getD,hk]
  simp only [zW,zX,zD,builtinA,isLeaf,const1,ustrA,simprocAttr,ti9,ti100,ca43,cf,Try.results79,hi,hll,hg]
  exact ⟨⟨by omega,by omega⟩,outer_set0 A i _ (rd_closed _ _ _),_,rfl,Abs.getD_mem hk⟩
set_option maxRecDepth 100000 in
theorem spec_num (bs : List UInt8) (p : Nat) (l : List Int) (i : Nat) (A : List Box) (hi : i < A.length) (hA : A.getD i .dead = Rd bs p) (hp : p < 2 ^ 40) (hl : 0 < l.length ∧ l.length < 1000) :
    ACalls Try.prog 77 [.ptr i 0,.slice (l.map fun s=>[.int .i64 s])] A (fun r A'=>∃ s,r = .int .i64 s ∧ s ∈ l ∧ A' = A.set i (Rd bs (p + 1))):=by
  have hll : (l.map fun s=>[AV.int .i64 s]).length = l.length:=by simp
  refine acalls_enter (cf:=cf 12 [0,1,4]) foll Try.func77 Try.ntmps77 (by simp [cf]) ?_
  simp only [Try.f77,EnterK_some,zW,zX,zD,builtinA,isLeaf,const1,ustrA,simprocAttr,ti3,ti157,ca43,cf,Try.results77]
  simp only [hll]
  refine callK_intro (by simp only [zW,zX,zD,builtinA,isLeaf,const1,ustrA,simprocAttr]; rfl) (spec_pick bs p _ i _ hi hA hp (by omega)) ?_ rfl
  rintro v A' ⟨j,rfl,h0,h1,rfl⟩
  obtain ⟨k,rfl⟩:=Int.eq_ofNat_of_zero_le h0
  have hk : k < l.length:=by have:=h1 (by omega); omega
  have hg : (l.map fun s=>[AV.int .i64 s]).getD k [] = [.int .i64 (l.getD k 0)]:=by simp [List.getD,hk]
  simp only [zW,zX,zD,builtinA,isLeaf,const1,ustrA,simprocAttr,ti3,ti157,ca43,cf,Try.results77,hi,hll,hg]
  exact ⟨⟨by omega,by omega⟩,outer_set0 A i _ (rd_closed _ _ _),_,rfl,Abs.getD_mem hk⟩
end Go.Proofs.Ytijlnkfiadajhaa
