/- Facts, Names. -/
import Derived.Test.YtnjdbgiincliaaaGreatRows
import Derived.Test.YtnjdbgiincliaaaGreatAbsW3
/- Facts of this translation. -/
namespace Go.Proofs.YtnjdbgiincliaaaGreat
open Go.Abs
theorem za222 : zagg Tryz.prog 222 = some [.str [],.str []]:=by kernel_rfl
theorem za333 : zagg Tryz.prog 333 = some [.nili,.nili]:=by kernel_rfl
theorem za345 : zagg Tryz.prog 345 = some [.int .i64 0]:=by kernel_rfl
theorem ks406 : keyS Tryz.prog 406 = some [(0,.ptr 39),(1,.int .i64)]:=by kernel_rfl
theorem ks415 : keyS Tryz.prog 415 = some [(0,.ptr 69),(1,.int .i64)]:=by kernel_rfl
theorem ks419 : keyS Tryz.prog 419 = some [(0,.ptr 36),(1,.int .i64)]:=by kernel_rfl
theorem ks475 : keyS Tryz.prog 475 = some [(0,.ptr 194),(1,.int .i64)]:=by kernel_rfl
theorem ks483 : keyS Tryz.prog 483 = some [(0,.ptr 304),(1,.int .i64)]:=by kernel_rfl
theorem mi143 : mapStr Tryz.prog 143 = some (9,.bool false):=by kernel_rfl
theorem mi165 : mapInf Tryz.prog 165 = some (419,[(0,.ptr 36),(1,.int .i64)],2,.agg [.nilp,.int .i64 0]):=by kernel_rfl
theorem mi169 : mapInf Tryz.prog 169 = some (415,[(0,.ptr 69),(1,.int .i64)],2,.agg [.nilp,.int .i64 0]):=by kernel_rfl
theorem mi229 : mapInf Tryz.prog 229 = some (406,[(0,.ptr 39),(1,.int .i64)],2,.agg [.nilp,.int .i64 0]):=by kernel_rfl
theorem mi358 : mapInf Tryz.prog 358 = some (360,[(0,.bool),(1,.str)],2,.bool false):=by kernel_rfl
theorem mi390 : mapInf Tryz.prog 390 = some (483,[(0,.ptr 304),(1,.int .i64)],2,.agg [.nilp,.int .i64 0]):=by kernel_rfl
theorem mi394 : mapInf Tryz.prog 394 = some (475,[(0,.ptr 194),(1,.int .i64)],2,.agg [.nilp,.int .i64 0]):=by kernel_rfl
theorem ti3 : tinf Tryz.prog 3 = some { size:=1,bytes:=8,zero:=some [.int .i64 0],kind:=.int .i64 }:=by kernel_rfl
theorem ti4 : tinf Tryz.prog 4 = some { size:=1,bytes:=1,zero:=some [.bool false],kind:=.bool }:=by kernel_rfl
theorem ti5 : tinf Tryz.prog 5 = some { size:=1,bytes:=1,zero:=some [.int .u8 0],kind:=.int .u8 }:=by kernel_rfl
theorem ti9 : tinf Tryz.prog 9 = some { size:=1,bytes:=16,zero:=some [.str []],kind:=.str }:=by kernel_rfl
theorem ti22 : tinf Tryz.prog 22 = some { size:=1,bytes:=24,zero:=some [.nils],kind:=.slice 86 }:=by kernel_rfl
theorem ti23 : tinf Tryz.prog 23 = some { size:=1,bytes:=24,zero:=some [.nils],kind:=.slice 25 }:=by kernel_rfl
theorem ti25 : tinf Tryz.prog 25 = some { size:=4,bytes:=64,zero:=some [.int .i64 0,.str [],.str [],.nils],kind:=.struct [(0,3,1),(1,9,1),(2,9,1),(3,23,1)] }:=by kernel_rfl
theorem ti26 : tinf Tryz.prog 26 = some { size:=1,bytes:=24,zero:=some [.nils],kind:=.slice 28 }:=by kernel_rfl
theorem ti28 : tinf Tryz.prog 28 = some { size:=9,bytes:=136,zero:=some [.int .i64 0,.int .i64 0,.str [],.str [],.int .i64 0,.str [],.str [],.nils,.nils],kind:=.struct [(0,3,1),(1,3,1),(2,9,1),(3,9,1),(4,25,4),(8,26,1)] }:=by kernel_rfl
theorem ti30 : tinf Tryz.prog 30 = some { size:=10,bytes:=160,zero:=some [.nils,.int .i64 0,.int .i64 0,.str [],.str [],.int .i64 0,.str [],.str [],.nils,.nils],kind:=.struct [(0,22,1),(1,28,9)] }:=by kernel_rfl
theorem ti33 : tinf Tryz.prog 33 = some { size:=1,bytes:=24,zero:=some [.nils],kind:=.slice 90 }:=by kernel_rfl
theorem ti34 : tinf Tryz.prog 34 = some { size:=1,bytes:=24,zero:=some [.nils],kind:=.slice 36 }:=by kernel_rfl
theorem ti36 : tinf Tryz.prog 36 = some { size:=4,bytes:=64,zero:=some [.int .i64 0,.str [],.str [],.nils],kind:=.struct [(0,3,1),(1,9,1),(2,9,1),(3,34,1)] }:=by kernel_rfl
theorem ti37 : tinf Tryz.prog 37 = some { size:=1,bytes:=24,zero:=some [.nils],kind:=.slice 39 }:=by kernel_rfl
theorem ti39 : tinf Tryz.prog 39 = some { size:=9,bytes:=136,zero:=some [.int .i64 0,.int .i64 0,.str [],.str [],.int .i64 0,.str [],.str [],.nils,.nils],kind:=.struct [(0,3,1),(1,3,1),(2,9,1),(3,9,1),(4,36,4),(8,37,1)] }:=by kernel_rfl
theorem ti41 : tinf Tryz.prog 41 = some { size:=10,bytes:=160,zero:=some [.nils,.int .i64 0,.int .i64 0,.str [],.str [],.int .i64 0,.str [],.str [],.nils,.nils],kind:=.struct [(0,33,1),(1,39,9)] }:=by kernel_rfl
theorem ti46 : tinf Tryz.prog 46 = some { size:=1,bytes:=24,zero:=some [.nils],kind:=.slice 134 }:=by kernel_rfl
theorem ti48 : tinf Tryz.prog 48 = some { size:=1,bytes:=24,zero:=some [.nils],kind:=.slice 9 }:=by kernel_rfl
theorem ti50 : tinf Tryz.prog 50 = some { size:=1,bytes:=24,zero:=some [.nils],kind:=.slice 69 }:=by kernel_rfl
theorem ti67 : tinf Tryz.prog 67 = some { size:=1,bytes:=8,zero:=some [.nilf],kind:=.func }:=by kernel_rfl
theorem ti69 : tinf Tryz.prog 69 = some { size:=6,bytes:=88,zero:=some [.int .i64 0,.str [],.int .i64 0,.str [],.str [],.nils],kind:=.struct [(0,3,1),(1,9,1),(2,36,4)] }:=by kernel_rfl
theorem ti71 : tinf Tryz.prog 71 = some { size:=1,bytes:=24,zero:=some [.nils],kind:=.slice 297 }:=by kernel_rfl
theorem ti72 : tinf Tryz.prog 72 = some { size:=1,bytes:=24,zero:=some [.nils],kind:=.slice 300 }:=by kernel_rfl
theorem ti74 : tinf Tryz.prog 74 = some { size:=4,bytes:=88,zero:=some [.str [],.nils,.nils,.nils],kind:=.struct [(0,9,1),(1,71,1),(2,72,1),(3,46,1)] }:=by kernel_rfl
theorem ti77 : tinf Tryz.prog 77 = some { size:=1,bytes:=24,zero:=some [.nils],kind:=.slice 194 }:=by kernel_rfl
theorem ti78 : tinf Tryz.prog 78 = some { size:=1,bytes:=24,zero:=some [.nils],kind:=.slice 304 }:=by kernel_rfl
theorem ti80 : tinf Tryz.prog 80 = some { size:=4,bytes:=88,zero:=some [.str [],.nils,.nils,.nils],kind:=.struct [(0,9,1),(1,77,1),(2,78,1),(3,50,1)] }:=by kernel_rfl
theorem ti86 : tinf Tryz.prog 86 = some { size:=7,bytes:=144,zero:=some [.str [],.nils,.nils,.nils,.str [],.str [],.nils],kind:=.struct [(0,74,4),(4,9,1),(5,9,1),(6,48,1)] }:=by kernel_rfl
theorem ti90 : tinf Tryz.prog 90 = some { size:=7,bytes:=144,zero:=some [.str [],.nils,.nils,.nils,.str [],.str [],.nils],kind:=.struct [(0,80,4),(4,9,1),(5,9,1),(6,48,1)] }:=by kernel_rfl
theorem ti96 : tinf Tryz.prog 96 = some { size:=1,bytes:=8,zero:=some [.nilf],kind:=.func }:=by kernel_rfl
theorem ti99 : tinf Tryz.prog 99 = some { size:=1,bytes:=8,zero:=some [.nilf],kind:=.func }:=by kernel_rfl
theorem ti120 : tinf Tryz.prog 120 = some { size:=1,bytes:=24,zero:=some [.nils],kind:=.slice 210 }:=by kernel_rfl
theorem ti122 : tinf Tryz.prog 122 = some { size:=1,bytes:=16,zero:=some [.nili],kind:=.iface }:=by kernel_rfl
theorem ti124 : tinf Tryz.prog 124 = some { size:=2,bytes:=40,zero:=some [.nils,.nili],kind:=.struct [(0,120,1),(1,122,1)] }:=by kernel_rfl
theorem ti129 : tinf Tryz.prog 129 = some { size:=4,bytes:=80,zero:=some [.nils,.nili,.nils,.nili],kind:=.struct [(0,124,2),(2,124,2)] }:=by kernel_rfl
theorem ti134 : tinf Tryz.prog 134 = some { size:=6,bytes:=88,zero:=some [.int .i64 0,.str [],.int .i64 0,.str [],.str [],.nils],kind:=.struct [(0,3,1),(1,9,1),(2,25,4)] }:=by kernel_rfl
theorem ti139 : tinf Tryz.prog 139 = some { size:=1,bytes:=24,zero:=some [.nils],kind:=.slice 158 }:=by kernel_rfl
theorem ti140 : tinf Tryz.prog 140 = some { size:=1,bytes:=24,zero:=some [.nils],kind:=.slice 158 }:=by kernel_rfl
theorem ti143 : tinf Tryz.prog 143 = some { size:=1,bytes:=8,zero:=some [.nilm],kind:=.map 9 4 }:=by kernel_rfl
theorem ti158 : tinf Tryz.prog 158 = some { size:=1,bytes:=16,zero:=some [.nili],kind:=.iface }:=by kernel_rfl
theorem ti163 : tinf Tryz.prog 163 = some { size:=1,bytes:=8,zero:=some [.nilf],kind:=.func }:=by kernel_rfl
theorem ti165 : tinf Tryz.prog 165 = some { size:=1,bytes:=8,zero:=some [.nilm],kind:=.map 419 419 }:=by kernel_rfl
theorem ti167 : tinf Tryz.prog 167 = some { size:=3,bytes:=24,zero:=some [.nilf,.nilf,.nilm],kind:=.struct [(0,67,1),(1,163,1),(2,165,1)] }:=by kernel_rfl
theorem ti169 : tinf Tryz.prog 169 = some { size:=1,bytes:=8,zero:=some [.nilm],kind:=.map 415 415 }:=by kernel_rfl
theorem ti171 : tinf Tryz.prog 171 = some { size:=4,bytes:=32,zero:=some [.nilf,.nilf,.nilm,.nilm],kind:=.struct [(0,167,3),(3,169,1)] }:=by kernel_rfl
theorem ti175 : tinf Tryz.prog 175 = some { size:=1,bytes:=16,zero:=some [.nili],kind:=.iface }:=by kernel_rfl
theorem ti180 : tinf Tryz.prog 180 = some { size:=2,bytes:=32,zero:=some [.str [],.str []],kind:=.struct [(0,9,1),(1,9,1)] }:=by kernel_rfl
theorem ti194 : tinf Tryz.prog 194 = some { size:=2,bytes:=40,zero:=some [.str [],.nils],kind:=.struct [(0,9,1),(1,50,1)] }:=by kernel_rfl
theorem ti197 : tinf Tryz.prog 197 = some { size:=1,bytes:=24,zero:=some [.nils],kind:=.slice 311 }:=by kernel_rfl
theorem ti198 : tinf Tryz.prog 198 = some { size:=1,bytes:=24,zero:=some [.nils],kind:=.slice 385 }:=by kernel_rfl
theorem ti199 : tinf Tryz.prog 199 = some { size:=1,bytes:=24,zero:=some [.nils],kind:=.slice 385 }:=by kernel_rfl
theorem ti201 : tinf Tryz.prog 201 = some { size:=4,bytes:=88,zero:=some [.str [],.nils,.nils,.nils],kind:=.struct [(0,9,1),(1,197,1),(2,199,1),(3,140,1)] }:=by kernel_rfl
theorem ti210 : tinf Tryz.prog 210 = some { size:=1,bytes:=16,zero:=some [.nili],kind:=.iface }:=by kernel_rfl
theorem ti222 : tinf Tryz.prog 222 = some { size:=2,bytes:=32,zero:=some [.str [],.str []],kind:=.struct [(0,9,1),(1,9,1)] }:=by kernel_rfl
theorem ti229 : tinf Tryz.prog 229 = some { size:=1,bytes:=8,zero:=some [.nilm],kind:=.map 406 406 }:=by kernel_rfl
theorem ti231 : tinf Tryz.prog 231 = some { size:=3,bytes:=24,zero:=some [.nilf,.nilf,.nilm],kind:=.struct [(0,96,1),(1,99,1),(2,229,1)] }:=by kernel_rfl
theorem ti257 : tinf Tryz.prog 257 = some { size:=1,bytes:=8,zero:=some [.int .i64 0],kind:=.int .i64 }:=by kernel_rfl
theorem ti297 : tinf Tryz.prog 297 = some { size:=2,bytes:=40,zero:=some [.str [],.nils],kind:=.struct [(0,9,1),(1,46,1)] }:=by kernel_rfl
theorem ti300 : tinf Tryz.prog 300 = some { size:=15,bytes:=224,zero:=some [.int .i64 0,.str [],.int .i64 0,.str [],.str [],.nils,.int .i64 0,.int .i64 0,.str [],.str [],.int .i64 0,.str [],.str [],.nils,.nils],kind:=.struct [(0,3,1),(1,9,1),(2,25,4),(6,28,9)] }:=by kernel_rfl
theorem ti304 : tinf Tryz.prog 304 = some { size:=15,bytes:=224,zero:=some [.int .i64 0,.str [],.int .i64 0,.str [],.str [],.nils,.int .i64 0,.int .i64 0,.str [],.str [],.int .i64 0,.str [],.str [],.nils,.nils],kind:=.struct [(0,3,1),(1,9,1),(2,36,4),(6,39,9)] }:=by kernel_rfl
theorem ti311 : tinf Tryz.prog 311 = some { size:=2,bytes:=40,zero:=some [.str [],.nils],kind:=.struct [(0,9,1),(1,140,1)] }:=by kernel_rfl
theorem ti319 : tinf Tryz.prog 319 = some { size:=4,bytes:=88,zero:=some [.str [],.nils,.nils,.nils],kind:=.struct [(0,201,4)] }:=by kernel_rfl
theorem ti324 : tinf Tryz.prog 324 = some { size:=3,bytes:=56,zero:=some [.str [],.str [],.nils],kind:=.struct [(0,9,1),(1,9,1),(2,48,1)] }:=by kernel_rfl
theorem ti327 : tinf Tryz.prog 327 = some { size:=1,bytes:=8,zero:=some [.int .i64 0],kind:=.int .i64 }:=by kernel_rfl
theorem ti329 : tinf Tryz.prog 329 = some { size:=1,bytes:=8,zero:=some [.int .i64 0],kind:=.struct [(0,327,1)] }:=by kernel_rfl
theorem ti333 : tinf Tryz.prog 333 = some { size:=2,bytes:=32,zero:=some [.nili,.nili],kind:=.struct [(0,175,1),(1,122,1)] }:=by kernel_rfl
theorem ti335 : tinf Tryz.prog 335 = some { size:=1,bytes:=24,zero:=some [.nils],kind:=.slice 122 }:=by kernel_rfl
theorem ti341 : tinf Tryz.prog 341 = some { size:=2,bytes:=48,zero:=some [.nils,.nils],kind:=.struct [(0,37,1),(1,37,1)] }:=by kernel_rfl
theorem ti342 : tinf Tryz.prog 342 = some { size:=1,bytes:=24,zero:=some [.nils],kind:=.slice 341 }:=by kernel_rfl
theorem ti345 : tinf Tryz.prog 345 = some { size:=1,bytes:=8,zero:=some [.int .i64 0],kind:=.struct [(0,3,1)] }:=by kernel_rfl
theorem ti354 : tinf Tryz.prog 354 = some { size:=1,bytes:=16,zero:=some [.str []],kind:=.struct [(0,9,1)] }:=by kernel_rfl
theorem ti356 : tinf Tryz.prog 356 = some { size:=2,bytes:=32,zero:=some [.str [],.nili],kind:=.struct [(0,9,1),(1,175,1)] }:=by kernel_rfl
theorem ti357 : tinf Tryz.prog 357 = some { size:=2,bytes:=32,zero:=some [.str [],.nili],kind:=.struct [(0,9,1),(1,175,1)] }:=by kernel_rfl
theorem ti358 : tinf Tryz.prog 358 = some { size:=1,bytes:=8,zero:=some [.nilm],kind:=.map 360 4 }:=by kernel_rfl
theorem ti360 : tinf Tryz.prog 360 = some { size:=2,bytes:=24,zero:=some [.bool false,.str []],kind:=.struct [(0,4,1),(1,9,1)] }:=by kernel_rfl
theorem ti366 : tinf Tryz.prog 366 = some { size:=2,bytes:=48,zero:=some [.nils,.nils],kind:=.struct [(0,34,1),(1,34,1)] }:=by kernel_rfl
theorem ti367 : tinf Tryz.prog 367 = some { size:=1,bytes:=24,zero:=some [.nils],kind:=.slice 366 }:=by kernel_rfl
theorem ti369 : tinf Tryz.prog 369 = some { size:=0,bytes:=0,zero:=some [],kind:=.struct [] }:=by kernel_rfl
theorem ti385 : tinf Tryz.prog 385 = some { size:=1,bytes:=16,zero:=some [.nili],kind:=.iface }:=by kernel_rfl
theorem ti390 : tinf Tryz.prog 390 = some { size:=1,bytes:=8,zero:=some [.nilm],kind:=.map 483 483 }:=by kernel_rfl
theorem ti392 : tinf Tryz.prog 392 = some { size:=7,bytes:=56,zero:=some [.nilf,.nilf,.nilm,.nilf,.nilf,.nilm,.nilm],kind:=.struct [(0,167,3),(3,231,3),(6,390,1)] }:=by kernel_rfl
theorem ti394 : tinf Tryz.prog 394 = some { size:=1,bytes:=8,zero:=some [.nilm],kind:=.map 475 475 }:=by kernel_rfl
theorem ti396 : tinf Tryz.prog 396 = some { size:=12,bytes:=96,zero:=some [.nilf,.nilf,.nilm,.nilm,.nilf,.nilf,.nilm,.nilf,.nilf,.nilm,.nilm,.nilm],kind:=.struct [(0,171,4),(4,392,7),(11,394,1)] }:=by kernel_rfl
theorem ti398 : tinf Tryz.prog 398 = some { size:=1,bytes:=8,zero:=some [.nilp],kind:=.ptr 329 }:=by kernel_rfl
theorem ti406 : tinf Tryz.prog 406 = some { size:=2,bytes:=16,zero:=some [.nilp,.int .i64 0],kind:=.struct [(0,404,1),(1,3,1)] }:=by kernel_rfl
theorem ti415 : tinf Tryz.prog 415 = some { size:=2,bytes:=16,zero:=some [.nilp,.int .i64 0],kind:=.struct [(0,413,1),(1,3,1)] }:=by kernel_rfl
theorem ti419 : tinf Tryz.prog 419 = some { size:=2,bytes:=16,zero:=some [.nilp,.int .i64 0],kind:=.struct [(0,417,1),(1,3,1)] }:=by kernel_rfl
theorem ti422 : tinf Tryz.prog 422 = some { size:=2,bytes:=32,zero:=some [.nili,.nili],kind:=.struct [(0,175,1),(1,175,1)] }:=by kernel_rfl
theorem ti430 : tinf Tryz.prog 430 = some { size:=2,bytes:=32,zero:=some [.str [],.nili],kind:=.struct [(0,9,1),(1,175,1)] }:=by kernel_rfl
theorem ti432 : tinf Tryz.prog 432 = some { size:=2,bytes:=32,zero:=some [.str [],.nili],kind:=.struct [(0,9,1),(1,122,1)] }:=by kernel_rfl
theorem ti434 : tinf Tryz.prog 434 = some { size:=2,bytes:=16,zero:=some [.nilm,.nilm],kind:=.struct [(0,143,1),(1,143,1)] }:=by kernel_rfl
theorem ti439 : tinf Tryz.prog 439 = some { size:=1,bytes:=8,zero:=some [.int .i64 0],kind:=.struct [(0,3,1)] }:=by kernel_rfl
theorem ti441 : tinf Tryz.prog 441 = some { size:=2,bytes:=32,zero:=some [.nili,.nili],kind:=.struct [(0,122,1),(1,122,1)] }:=by kernel_rfl
theorem ti443 : tinf Tryz.prog 443 = some { size:=2,bytes:=32,zero:=some [.nili,.nili],kind:=.struct [(0,122,1),(1,122,1)] }:=by kernel_rfl
theorem ti445 : tinf Tryz.prog 445 = some { size:=3,bytes:=48,zero:=some [.nili,.nili,.nili],kind:=.struct [(0,122,1),(1,122,1),(2,122,1)] }:=by kernel_rfl
theorem ti475 : tinf Tryz.prog 475 = some { size:=2,bytes:=16,zero:=some [.nilp,.int .i64 0],kind:=.struct [(0,473,1),(1,3,1)] }:=by kernel_rfl
theorem ti483 : tinf Tryz.prog 483 = some { size:=2,bytes:=16,zero:=some [.nilp,.int .i64 0],kind:=.struct [(0,481,1),(1,3,1)] }:=by kernel_rfl
theorem ca15 : callable Tryz.prog 15 = true:=by kernel_rfl
theorem ca16 : callable Tryz.prog 16 = true:=by kernel_rfl
theorem ca17 : callable Tryz.prog 17 = true:=by kernel_rfl
theorem ca18 : callable Tryz.prog 18 = true:=by kernel_rfl
theorem ca19 : callable Tryz.prog 19 = true:=by kernel_rfl
theorem ca20 : callable Tryz.prog 20 = true:=by kernel_rfl
theorem ca21 : callable Tryz.prog 21 = true:=by kernel_rfl
theorem ca22 : callable Tryz.prog 22 = true:=by kernel_rfl
theorem ca24 : callable Tryz.prog 24 = true:=by kernel_rfl
theorem ca26 : callable Tryz.prog 26 = true:=by kernel_rfl
theorem ca27 : callable Tryz.prog 27 = true:=by kernel_rfl
theorem ca38 : callable Tryz.prog 38 = true:=by kernel_rfl
theorem ca44 : callable Tryz.prog 44 = true:=by kernel_rfl
theorem ca46 : callable Tryz.prog 46 = true:=by kernel_rfl
theorem ca48 : callable Tryz.prog 48 = true:=by kernel_rfl
theorem ca50 : callable Tryz.prog 50 = true:=by kernel_rfl
theorem ca52 : callable Tryz.prog 52 = true:=by kernel_rfl
theorem ca54 : callable Tryz.prog 54 = true:=by kernel_rfl
theorem ca56 : callable Tryz.prog 56 = true:=by kernel_rfl
theorem ca58 : callable Tryz.prog 58 = true:=by kernel_rfl
theorem ca60 : callable Tryz.prog 60 = true:=by kernel_rfl
theorem ca61 : callable Tryz.prog 61 = true:=by kernel_rfl
theorem ca66 : callable Tryz.prog 66 = true:=by kernel_rfl
theorem ca77 : callable Tryz.prog 77 = true:=by kernel_rfl
theorem ca78 : callable Tryz.prog 78 = true:=by kernel_rfl
theorem ca79 : callable Tryz.prog 79 = true:=by kernel_rfl
theorem ca80 : callable Tryz.prog 80 = true:=by kernel_rfl
theorem ca81 : callable Tryz.prog 81 = true:=by kernel_rfl
theorem ca82 : callable Tryz.prog 82 = true:=by kernel_rfl
theorem ca83 : callable Tryz.prog 83 = true:=by kernel_rfl
theorem ca84 : callable Tryz.prog 84 = true:=by kernel_rfl
theorem ca85 : callable Tryz.prog 85 = true:=by kernel_rfl
theorem ca86 : callable Tryz.prog 86 = true:=by kernel_rfl
theorem ca87 : callable Tryz.prog 87 = true:=by kernel_rfl
theorem ca90 : callable Tryz.prog 90 = true:=by kernel_rfl
theorem ca91 : callable Tryz.prog 91 = true:=by kernel_rfl
theorem ca95 : callable Tryz.prog 95 = true:=by kernel_rfl
theorem ca104 : callable Tryz.prog 104 = true:=by kernel_rfl
theorem ca107 : callable Tryz.prog 107 = true:=by kernel_rfl
theorem ca108 : callable Tryz.prog 108 = true:=by kernel_rfl
theorem ca109 : callable Tryz.prog 109 = true:=by kernel_rfl
theorem ca111 : callable Tryz.prog 111 = true:=by kernel_rfl
theorem ca121 : callable Tryz.prog 121 = true:=by kernel_rfl
theorem ca122 : callable Tryz.prog 122 = true:=by kernel_rfl
theorem ca123 : callable Tryz.prog 123 = true:=by kernel_rfl
theorem ca124 : callable Tryz.prog 124 = true:=by kernel_rfl
theorem ca126 : callable Tryz.prog 126 = true:=by kernel_rfl
theorem ca127 : callable Tryz.prog 127 = true:=by kernel_rfl
theorem ca128 : callable Tryz.prog 128 = true:=by kernel_rfl
theorem ca130 : callable Tryz.prog 130 = true:=by kernel_rfl
theorem ca131 : callable Tryz.prog 131 = true:=by kernel_rfl
theorem ca134 : callable Tryz.prog 134 = true:=by kernel_rfl
theorem ca136 : callable Tryz.prog 136 = true:=by kernel_rfl
theorem ca138 : callable Tryz.prog 138 = true:=by kernel_rfl
theorem ca139 : callable Tryz.prog 139 = true:=by kernel_rfl
theorem ca140 : callable Tryz.prog 140 = true:=by kernel_rfl
theorem ca141 : callable Tryz.prog 141 = true:=by kernel_rfl
theorem ca142 : callable Tryz.prog 142 = true:=by kernel_rfl
theorem ca143 : callable Tryz.prog 143 = true:=by kernel_rfl
theorem ca147 : callable Tryz.prog 147 = true:=by kernel_rfl
theorem ca149 : callable Tryz.prog 149 = true:=by kernel_rfl
theorem ca153 : callable Tryz.prog 153 = true:=by kernel_rfl
theorem ca154 : callable Tryz.prog 154 = true:=by kernel_rfl
theorem ca155 : callable Tryz.prog 155 = true:=by kernel_rfl
theorem ca158 : callable Tryz.prog 158 = true:=by kernel_rfl
theorem ca170 : callable Tryz.prog 170 = true:=by kernel_rfl
theorem ca171 : callable Tryz.prog 171 = true:=by kernel_rfl
theorem ca172 : callable Tryz.prog 172 = true:=by kernel_rfl
theorem ca173 : callable Tryz.prog 173 = true:=by kernel_rfl
theorem ca174 : callable Tryz.prog 174 = true:=by kernel_rfl
theorem ca175 : callable Tryz.prog 175 = true:=by kernel_rfl
theorem ca176 : callable Tryz.prog 176 = true:=by kernel_rfl
theorem ca178 : callable Tryz.prog 178 = true:=by kernel_rfl
theorem ca179 : callable Tryz.prog 179 = true:=by kernel_rfl
theorem ca180 : callable Tryz.prog 180 = true:=by kernel_rfl
theorem ca182 : callable Tryz.prog 182 = true:=by kernel_rfl
theorem ca195 : callable Tryz.prog 195 = true:=by kernel_rfl
theorem ca197 : callable Tryz.prog 197 = true:=by kernel_rfl
theorem ca198 : callable Tryz.prog 198 = true:=by kernel_rfl
theorem ca199 : callable Tryz.prog 199 = true:=by kernel_rfl
theorem ca204 : callable Tryz.prog 204 = true:=by kernel_rfl
theorem ca206 : callable Tryz.prog 206 = true:=by kernel_rfl
theorem ca207 : callable Tryz.prog 207 = true:=by kernel_rfl
theorem ca208 : callable Tryz.prog 208 = true:=by kernel_rfl
theorem ca209 : callable Tryz.prog 209 = true:=by kernel_rfl
theorem ca210 : callable Tryz.prog 210 = true:=by kernel_rfl
theorem ca211 : callable Tryz.prog 211 = true:=by kernel_rfl
theorem ca212 : callable Tryz.prog 212 = true:=by kernel_rfl
theorem ca213 : callable Tryz.prog 213 = true:=by kernel_rfl
theorem ca214 : callable Tryz.prog 214 = true:=by kernel_rfl
theorem ca215 : callable Tryz.prog 215 = true:=by kernel_rfl
theorem ca217 : callable Tryz.prog 217 = true:=by kernel_rfl
theorem ca218 : callable Tryz.prog 218 = true:=by kernel_rfl
theorem ca220 : callable Tryz.prog 220 = true:=by kernel_rfl
theorem ca221 : callable Tryz.prog 221 = true:=by kernel_rfl
theorem ca222 : callable Tryz.prog 222 = true:=by kernel_rfl
theorem ca224 : callable Tryz.prog 224 = true:=by kernel_rfl
theorem ca225 : callable Tryz.prog 225 = true:=by kernel_rfl
theorem ca226 : callable Tryz.prog 226 = true:=by kernel_rfl
theorem ca227 : callable Tryz.prog 227 = true:=by kernel_rfl
theorem ca229 : callable Tryz.prog 229 = true:=by kernel_rfl
theorem ca234 : callable Tryz.prog 234 = true:=by kernel_rfl
theorem ca242 : callable Tryz.prog 242 = true:=by kernel_rfl
theorem ca243 : callable Tryz.prog 243 = true:=by kernel_rfl
theorem ca244 : callable Tryz.prog 244 = true:=by kernel_rfl
theorem ca245 : callable Tryz.prog 245 = true:=by kernel_rfl
theorem ca246 : callable Tryz.prog 246 = true:=by kernel_rfl
theorem ca247 : callable Tryz.prog 247 = true:=by kernel_rfl
theorem ca248 : callable Tryz.prog 248 = true:=by kernel_rfl
theorem ca249 : callable Tryz.prog 249 = true:=by kernel_rfl
theorem ca250 : callable Tryz.prog 250 = true:=by kernel_rfl
theorem ca251 : callable Tryz.prog 251 = true:=by kernel_rfl
theorem ca257 : callable Tryz.prog 257 = true:=by kernel_rfl
theorem ca258 : callable Tryz.prog 258 = true:=by kernel_rfl
theorem ca259 : callable Tryz.prog 259 = true:=by kernel_rfl
theorem ca260 : callable Tryz.prog 260 = true:=by kernel_rfl
theorem ca261 : callable Tryz.prog 261 = true:=by kernel_rfl
theorem ca266 : callable Tryz.prog 266 = true:=by kernel_rfl
theorem ca267 : callable Tryz.prog 267 = true:=by kernel_rfl
theorem ca268 : callable Tryz.prog 268 = true:=by kernel_rfl
theorem ca269 : callable Tryz.prog 269 = true:=by kernel_rfl
theorem ca271 : callable Tryz.prog 271 = true:=by kernel_rfl
theorem ca273 : callable Tryz.prog 273 = true:=by kernel_rfl
theorem ca274 : callable Tryz.prog 274 = true:=by kernel_rfl
theorem ca275 : callable Tryz.prog 275 = true:=by kernel_rfl
theorem ca276 : callable Tryz.prog 276 = true:=by kernel_rfl
theorem ca277 : callable Tryz.prog 277 = true:=by kernel_rfl
theorem ca278 : callable Tryz.prog 278 = true:=by kernel_rfl
theorem ca280 : callable Tryz.prog 280 = true:=by kernel_rfl
theorem ca282 : callable Tryz.prog 282 = true:=by kernel_rfl
theorem ca289 : callable Tryz.prog 289 = true:=by kernel_rfl
theorem ca290 : callable Tryz.prog 290 = true:=by kernel_rfl
theorem ca293 : callable Tryz.prog 293 = true:=by kernel_rfl
theorem ca294 : callable Tryz.prog 294 = true:=by kernel_rfl
theorem ca295 : callable Tryz.prog 295 = true:=by kernel_rfl
theorem ca296 : callable Tryz.prog 296 = true:=by kernel_rfl
theorem ca298 : callable Tryz.prog 298 = true:=by kernel_rfl
theorem ca299 : callable Tryz.prog 299 = true:=by kernel_rfl
theorem ca301 : callable Tryz.prog 301 = true:=by kernel_rfl
theorem ca317 : callable Tryz.prog 317 = true:=by kernel_rfl
theorem ca318 : callable Tryz.prog 318 = true:=by kernel_rfl
theorem ca319 : callable Tryz.prog 319 = true:=by kernel_rfl
theorem ca328 : callable Tryz.prog 328 = true:=by kernel_rfl
theorem ca329 : callable Tryz.prog 329 = true:=by kernel_rfl
theorem ca330 : callable Tryz.prog 330 = true:=by kernel_rfl
theorem ca332 : callable Tryz.prog 332 = true:=by kernel_rfl
theorem ca447 : callable Tryz.prog 447 = true:=by kernel_rfl
theorem ca455 : callable Tryz.prog 455 = true:=by kernel_rfl
theorem ca457 : callable Tryz.prog 457 = true:=by kernel_rfl
theorem foll : Tryz.prog.follows .mixedOrders = true:=by kernel_rfl
theorem laid : laidOutB Tryz.prog = true:=by kernel_rfl
theorem ownk : ownKnob Tryz.prog.godebug = none:=by kernel_rfl
def cf (N : Nat) (vs : List Nat) : Cfg:={ own:=fun _=>false,N:=N,vs:=vs }
end Go.Proofs.YtnjdbgiincliaaaGreat
/- The names of types, values and modules: what the program's and the model's functions answer. -/
set_option linter.unusedVariables false
set_option linter.unusedSimpArgs false
namespace Go.Proofs.YtnjdbgiincliaaaGreat
open Go.Abs
def localB (s : List UInt8) : Bool:=s.length == 1 && (decide (97 ≤ (s.getD 0 0).toNat) && decide ((s.getD 0 0).toNat ≤ 122))
def moduleB (s : List UInt8) : Bool:=(s.length == 1 && (decide (65 ≤ (s.getD 0 0).toNat) && decide ((s.getD 0 0).toNat ≤ 90))) && !decide (s = [73])
theorem local_no (s : List UInt8) (h : ¬ (s.length : Int) = 1) : localB s = false:=by
  have : s.length ≠ 1:=by omega
  simp [localB,this]
theorem local_lo (s : List UInt8) (h : ¬ (97 : Int) ≤ (s.getD 0 0).toNat) : localB s = false:=by
  have : ¬ 97 ≤ (s.getD 0 0).toNat:=by omega
  unfold localB; rw [decide_eq_false this]; simp
theorem local_hi (s : List UInt8) (h1 : (s.length : Int) = 1) (h : (97 : Int) ≤ (s.getD 0 0).toNat) : localB s = decide (((s.getD 0 0).toNat : Int) ≤ 122):=by
  have e1 : s.length = 1:=by omega
  have e2 : 97 ≤ (s.getD 0 0).toNat:=by omega
  unfold localB; rw [decide_eq_true e2,e1]
  rw [Bool.eq_iff_iff]; simp; omega
theorem module_no (s : List UInt8) (h : ¬ (s.length : Int) = 1) : moduleB s = false:=by
  have : s.length ≠ 1:=by omega
  simp [moduleB,this]
theorem module_lo (s : List UInt8) (h : ¬ (65 : Int) ≤ (s.getD 0 0).toNat) : moduleB s = false:=by
  have : ¬ 65 ≤ (s.getD 0 0).toNat:=by omega
  unfold moduleB; rw [decide_eq_false this]; simp
theorem module_up (s : List UInt8) (h : ¬ ((s.getD 0 0).toNat : Int) ≤ 90) : moduleB s = false:=by
  have : ¬ (s.getD 0 0).toNat ≤ 90:=by omega
  unfold moduleB; rw [decide_eq_false this]; simp
theorem module_hi (s : List UInt8) (h1 : (s.length : Int) = 1) (h : (65 : Int) ≤ (s.getD 0 0).toNat) (h2 : ((s.getD 0 0).toNat : Int) ≤ 90) : moduleB s = !decide (s = [73]):=by
  have e1 : s.length = 1:=by omega
  have e2 : 65 ≤ (s.getD 0 0).toNat:=by omega
  have e3 : (s.getD 0 0).toNat ≤ 90:=by omega
  unfold moduleB; rw [decide_eq_true e2,decide_eq_true e3,e1]; simp
set_option maxRecDepth 100000 in
theorem impl_LocalName (s : List UInt8) (A : List Box) : ACalls Tryz.prog 250 [.str s] A (fun v A'=>v = .bool (localB s) ∧ A' = A):=by
  refine acalls_enter (cf:=cf 16 [0,2]) foll Tryz.func250 Tryz.ntmps250 (by simp [cf]) ?_
  simp only [Tryz.f250,EnterK_some,zW,zX,zD,builtinA,isLeaf,const1,ustrA,simprocAttr,ti3,ti5,ti9,cf,Tryz.results250]
  repeat' first
    | (refine guardT_intro (fun h=>?_) (fun h=>?_) <;> (try simp only [decide_eq_true_eq,decide_eq_false_iff_not,Bool.not_eq_eq_eq_not,Bool.not_true,Bool.not_false] at h) <;> simp only [zW,zX,zD,builtinA,isLeaf,const1,ustrA,simprocAttr,ti3,ti5,ti9,cf,Tryz.results250,h])
    | (refine guardF_intro (fun h=>?_) (fun h=>?_) <;> (try simp only [decide_eq_true_eq,decide_eq_false_iff_not,Bool.not_eq_eq_eq_not,Bool.not_true,Bool.not_false] at h) <;> simp only [zW,zX,zD,builtinA,isLeaf,const1,ustrA,simprocAttr,ti3,ti5,ti9,cf,Tryz.results250,h])
    | (refine condK_intro (fun h=>?_) (fun h=>?_) <;> (try simp only [decide_eq_true_eq,decide_eq_false_iff_not,Bool.not_eq_eq_eq_not,Bool.not_true,Bool.not_false] at h) <;> simp only [zW,zX,zD,builtinA,isLeaf,const1,ustrA,simprocAttr,ti3,ti5,ti9,cf,Tryz.results250,h])
    | (refine guardDT_intro (fun h=>?_) (fun h=>?_) <;> (try simp only [decide_eq_true_eq,decide_eq_false_iff_not,Bool.not_eq_eq_eq_not,Bool.not_true,Bool.not_false] at h) <;> simp only [zW,zX,zD,builtinA,isLeaf,const1,ustrA,simprocAttr,ti3,ti5,ti9,cf,Tryz.results250,h])
    | (refine guardDF_intro (fun h=>?_) (fun h=>?_) <;> (try simp only [decide_eq_true_eq,decide_eq_false_iff_not,Bool.not_eq_eq_eq_not,Bool.not_true,Bool.not_false] at h) <;> simp only [zW,zX,zD,builtinA,isLeaf,const1,ustrA,simprocAttr,ti3,ti5,ti9,cf,Tryz.results250,h])
    | refine And.intro ?_ ?_
  · omega
  · rename_i h1
    rw [local_hi s h1 h]
  · rw [local_lo s ‹_›]
  · rw [local_no s ‹_›]
set_option maxRecDepth 100000 in
theorem spec_LocalName (s : List UInt8) (A : List Box) : ACalls Tryz.prog 245 [.str s] A (fun v A'=>v = .bool (localB s) ∧ A' = A):=by
  refine acalls_enter (cf:=cf 16 [0,2]) foll Tryz.func245 Tryz.ntmps245 (by simp [cf]) ?_
  simp only [Tryz.f245,EnterK_some,zW,zX,zD,builtinA,isLeaf,const1,ustrA,simprocAttr,ti3,ti5,ti9,cf,Tryz.results245]
  repeat' first
    | (refine guardT_intro (fun h=>?_) (fun h=>?_) <;> (try simp only [decide_eq_true_eq,decide_eq_false_iff_not,Bool.not_eq_eq_eq_not,Bool.not_true,Bool.not_false] at h) <;> simp only [zW,zX,zD,builtinA,isLeaf,const1,ustrA,simprocAttr,ti3,ti5,ti9,cf,Tryz.results245,h])
    | (refine guardF_intro (fun h=>?_) (fun h=>?_) <;> (try simp only [decide_eq_true_eq,decide_eq_false_iff_not,Bool.not_eq_eq_eq_not,Bool.not_true,Bool.not_false] at h) <;> simp only [zW,zX,zD,builtinA,isLeaf,const1,ustrA,simprocAttr,ti3,ti5,ti9,cf,Tryz.results245,h])
    | (refine condK_intro (fun h=>?_) (fun h=>?_) <;> (try simp only [decide_eq_true_eq,decide_eq_false_iff_not,Bool.not_eq_eq_eq_not,Bool.not_true,Bool.not_false] at h) <;> simp only [zW,zX,zD,builtinA,isLeaf,const1,ustrA,simprocAttr,ti3,ti5,ti9,cf,Tryz.results245,h])
    | (refine guardDT_intro (fun h=>?_) (fun h=>?_) <;> (try simp only [decide_eq_true_eq,decide_eq_false_iff_not,Bool.not_eq_eq_eq_not,Bool.not_true,Bool.not_false] at h) <;> simp only [zW,zX,zD,builtinA,isLeaf,const1,ustrA,simprocAttr,ti3,ti5,ti9,cf,Tryz.results245,h])
    | (refine guardDF_intro (fun h=>?_) (fun h=>?_) <;> (try simp only [decide_eq_true_eq,decide_eq_false_iff_not,Bool.not_eq_eq_eq_not,Bool.not_true,Bool.not_false] at h) <;> simp only [zW,zX,zD,builtinA,isLeaf,const1,ustrA,simprocAttr,ti3,ti5,ti9,cf,Tryz.results245,h])
    | refine And.intro ?_ ?_
  · omega
  · rename_i h1
    rw [local_hi s h1 h]
  · rw [local_lo s ‹_›]
  · rw [local_no s ‹_›]
set_option maxRecDepth 100000 in
theorem impl_ModuleName (s : List UInt8) (A : List Box) : ACalls Tryz.prog 38 [.str s] A (fun v A'=>v = .bool (moduleB s) ∧ A' = A):=by
  refine acalls_enter (cf:=cf 20 [0,2]) foll Tryz.func38 Tryz.ntmps38 (by simp [cf]) ?_
  simp only [Tryz.f38,EnterK_some,zW,zX,zD,builtinA,isLeaf,const1,ustrA,simprocAttr,ti3,ti5,ti9,cf,Tryz.results38]
  repeat' first
    | (refine guardT_intro (fun h=>?_) (fun h=>?_) <;> (try simp only [decide_eq_true_eq,decide_eq_false_iff_not,Bool.not_eq_eq_eq_not,Bool.not_true,Bool.not_false] at h) <;> simp only [zW,zX,zD,builtinA,isLeaf,const1,ustrA,simprocAttr,ti3,ti5,ti9,cf,Tryz.results38,h])
    | (refine guardF_intro (fun h=>?_) (fun h=>?_) <;> (try simp only [decide_eq_true_eq,decide_eq_false_iff_not,Bool.not_eq_eq_eq_not,Bool.not_true,Bool.not_false] at h) <;> simp only [zW,zX,zD,builtinA,isLeaf,const1,ustrA,simprocAttr,ti3,ti5,ti9,cf,Tryz.results38,h])
    | (refine condK_intro (fun h=>?_) (fun h=>?_) <;> (try simp only [decide_eq_true_eq,decide_eq_false_iff_not,Bool.not_eq_eq_eq_not,Bool.not_true,Bool.not_false] at h) <;> simp only [zW,zX,zD,builtinA,isLeaf,const1,ustrA,simprocAttr,ti3,ti5,ti9,cf,Tryz.results38,h])
    | (refine guardDT_intro (fun h=>?_) (fun h=>?_) <;> (try simp only [decide_eq_true_eq,decide_eq_false_iff_not,Bool.not_eq_eq_eq_not,Bool.not_true,Bool.not_false] at h) <;> simp only [zW,zX,zD,builtinA,isLeaf,const1,ustrA,simprocAttr,ti3,ti5,ti9,cf,Tryz.results38,h])
    | (refine guardDF_intro (fun h=>?_) (fun h=>?_) <;> (try simp only [decide_eq_true_eq,decide_eq_false_iff_not,Bool.not_eq_eq_eq_not,Bool.not_true,Bool.not_false] at h) <;> simp only [zW,zX,zD,builtinA,isLeaf,const1,ustrA,simprocAttr,ti3,ti5,ti9,cf,Tryz.results38,h])
    | refine And.intro ?_ ?_
  · omega
  · rename_i h1 h2
    rw [module_hi s h1 h2 h]
  · rw [module_up s ‹_›]
  · rw [module_lo s ‹_›]
  · rw [module_no s ‹_›]
set_option maxRecDepth 100000 in
theorem spec_ModuleName (s : List UInt8) (A : List Box) : ACalls Tryz.prog 104 [.str s] A (fun v A'=>v = .bool (moduleB s) ∧ A' = A):=by
  refine acalls_enter (cf:=cf 20 [0,2]) foll Tryz.func104 Tryz.ntmps104 (by simp [cf]) ?_
  simp only [Tryz.f104,EnterK_some,zW,zX,zD,builtinA,isLeaf,const1,ustrA,simprocAttr,ti3,ti5,ti9,cf,Tryz.results104]
  repeat' first
    | (refine guardT_intro (fun h=>?_) (fun h=>?_) <;> (try simp only [decide_eq_true_eq,decide_eq_false_iff_not,Bool.not_eq_eq_eq_not,Bool.not_true,Bool.not_false] at h) <;> simp only [zW,zX,zD,builtinA,isLeaf,const1,ustrA,simprocAttr,ti3,ti5,ti9,cf,Tryz.results104,h])
    | (refine guardF_intro (fun h=>?_) (fun h=>?_) <;> (try simp only [decide_eq_true_eq,decide_eq_false_iff_not,Bool.not_eq_eq_eq_not,Bool.not_true,Bool.not_false] at h) <;> simp only [zW,zX,zD,builtinA,isLeaf,const1,ustrA,simprocAttr,ti3,ti5,ti9,cf,Tryz.results104,h])
    | (refine condK_intro (fun h=>?_) (fun h=>?_) <;> (try simp only [decide_eq_true_eq,decide_eq_false_iff_not,Bool.not_eq_eq_eq_not,Bool.not_true,Bool.not_false] at h) <;> simp only [zW,zX,zD,builtinA,isLeaf,const1,ustrA,simprocAttr,ti3,ti5,ti9,cf,Tryz.results104,h])
    | (refine guardDT_intro (fun h=>?_) (fun h=>?_) <;> (try simp only [decide_eq_true_eq,decide_eq_false_iff_not,Bool.not_eq_eq_eq_not,Bool.not_true,Bool.not_false] at h) <;> simp only [zW,zX,zD,builtinA,isLeaf,const1,ustrA,simprocAttr,ti3,ti5,ti9,cf,Tryz.results104,h])
    | (refine guardDF_intro (fun h=>?_) (fun h=>?_) <;> (try simp only [decide_eq_true_eq,decide_eq_false_iff_not,Bool.not_eq_eq_eq_not,Bool.not_true,Bool.not_false] at h) <;> simp only [zW,zX,zD,builtinA,isLeaf,const1,ustrA,simprocAttr,ti3,ti5,ti9,cf,Tryz.results104,h])
    | refine And.intro ?_ ?_
  · omega
  · rename_i h1 h2
    rw [module_hi s h1 h2 h]
  · rw [module_up s ‹_›]
  · rw [module_lo s ‹_›]
  · rw [module_no s ‹_›]
set_option maxRecDepth 100000 in
theorem impl_validName (m n : List UInt8) (A : List Box) : ACalls Tryz.prog 261 [.str m,.str n] A (fun v A'=>v = .bool ((decide (m = []) || moduleB m) && localB n) ∧ A' = A):=by
  refine acalls_enter (cf:=cf 15 [0,1,4]) foll Tryz.func261 Tryz.ntmps261 (by simp [cf]) ?_
  simp only [Tryz.f261,EnterK_some,zW,zX,zD,builtinA,isLeaf,const1,ustrA,simprocAttr,ti9,ca38,ca250,cf,Tryz.results261]
  by_cases hm : m = []
  · simp only [zW,zX,zD,builtinA,isLeaf,const1,ustrA,simprocAttr,ti9,ca38,ca250,cf,Tryz.results261,decide_eq_true hm]
    refine callK_intro (by simp only [zW,zX,zD,builtinA,isLeaf,const1,ustrA,simprocAttr,Option.map_some]; rfl) (impl_LocalName n _) ?_ rfl; rintro v A' ⟨rfl,rfl⟩
    simp only [zW,zX,zD,builtinA,isLeaf,const1,ustrA,simprocAttr,ti9,ca38,ca250,cf,Tryz.results261]
  · simp only [zW,zX,zD,builtinA,isLeaf,const1,ustrA,simprocAttr,ti9,ca38,ca250,cf,Tryz.results261,decide_eq_false hm]
    refine callK_intro (by simp only [zW,zX,zD,builtinA,isLeaf,const1,ustrA,simprocAttr,Option.map_some]; rfl) (impl_ModuleName m _) ?_ rfl; rintro v A' ⟨rfl,rfl⟩
    cases hmm : moduleB m with
    | true =>
      simp only [zW,zX,zD,builtinA,isLeaf,const1,ustrA,simprocAttr,ti9,ca38,ca250,cf,Tryz.results261]
      refine callK_intro (by simp only [zW,zX,zD,builtinA,isLeaf,const1,ustrA,simprocAttr,Option.map_some]; rfl) (impl_LocalName n _) ?_ rfl; rintro v A' ⟨rfl,rfl⟩
      simp only [zW,zX,zD,builtinA,isLeaf,const1,ustrA,simprocAttr,ti9,ca38,ca250,cf,Tryz.results261]
    | false =>
      simp only [zW,zX,zD,builtinA,isLeaf,const1,ustrA,simprocAttr,ti9,ca38,ca250,cf,Tryz.results261]
end Go.Proofs.YtnjdbgiincliaaaGreat
