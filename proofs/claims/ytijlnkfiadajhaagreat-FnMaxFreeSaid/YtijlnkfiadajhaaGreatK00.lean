/- Facts, Names. -/
import Derived.Test.YtijlnkfiadajhaaGreatRows
import Derived.Test.YtijlnkfiadajhaaGreatAbsW3
/- Facts of this translation. -/
namespace Go.Proofs.YtijlnkfiadajhaaGreat
open Go.Abs
theorem za171 : zagg Tryz.prog 171 = some [.str [],.str []]:=by kernel_rfl
theorem za253 : zagg Tryz.prog 253 = some [.int .i64 0]:=by kernel_rfl
theorem za264 : zagg Tryz.prog 264 = some [.nili,.nili]:=by kernel_rfl
theorem za334 : zagg Tryz.prog 334 = some [.str []]:=by kernel_rfl
theorem za401 : zagg Tryz.prog 401 = some [.int .i64 0]:=by kernel_rfl
theorem za404 : zagg Tryz.prog 404 = some [.nili,.nili]:=by kernel_rfl
theorem za406 : zagg Tryz.prog 406 = some [.nili,.nili]:=by kernel_rfl
theorem za408 : zagg Tryz.prog 408 = some [.nili,.nili,.nili]:=by kernel_rfl
theorem ks171 : keyS Tryz.prog 171 = some [(0,.str),(1,.str)]:=by kernel_rfl
theorem ks282 : keyS Tryz.prog 282 = some [(0,.str),(1,.str)]:=by kernel_rfl
theorem ks342 : keyS Tryz.prog 342 = some [(0,.bool),(1,.str)]:=by kernel_rfl
theorem ks368 : keyS Tryz.prog 368 = some [(0,.ptr 39),(1,.int .i64)]:=by kernel_rfl
theorem ks416 : keyS Tryz.prog 416 = some [(0,.ptr 129),(1,.int .i64)]:=by kernel_rfl
theorem ks420 : keyS Tryz.prog 420 = some [(0,.ptr 36),(1,.int .i64)]:=by kernel_rfl
theorem ks500 : keyS Tryz.prog 500 = some [(0,.ptr 112),(1,.int .i64)]:=by kernel_rfl
theorem ks509 : keyS Tryz.prog 509 = some [(0,.ptr 374),(1,.int .i64)]:=by kernel_rfl
theorem mi139 : mapStr Tryz.prog 139 = some (9,.str []):=by kernel_rfl
theorem mi166 : mapInf Tryz.prog 166 = some (171,[(0,.str),(1,.str)],2,.nili):=by kernel_rfl
theorem mi188 : mapInf Tryz.prog 188 = some (420,[(0,.ptr 36),(1,.int .i64)],2,.agg [.nilp,.int .i64 0]):=by kernel_rfl
theorem mi192 : mapInf Tryz.prog 192 = some (416,[(0,.ptr 129),(1,.int .i64)],2,.agg [.nilp,.int .i64 0]):=by kernel_rfl
theorem mi197 : mapStr Tryz.prog 197 = some (9,.bool false):=by kernel_rfl
theorem mi198 : mapStr Tryz.prog 198 = some (9,.bool false):=by kernel_rfl
theorem mi207 : mapInf Tryz.prog 207 = some (368,[(0,.ptr 39),(1,.int .i64)],2,.agg [.nilp,.int .i64 0]):=by kernel_rfl
theorem mi340 : mapInf Tryz.prog 340 = some (342,[(0,.bool),(1,.str)],2,.bool false):=by kernel_rfl
theorem mi380 : mapInf Tryz.prog 380 = some (509,[(0,.ptr 374),(1,.int .i64)],2,.agg [.nilp,.int .i64 0]):=by kernel_rfl
theorem mi384 : mapInf Tryz.prog 384 = some (500,[(0,.ptr 112),(1,.int .i64)],2,.agg [.nilp,.int .i64 0]):=by kernel_rfl
theorem mi447 : mapInf Tryz.prog 447 = some (282,[(0,.str),(1,.str)],2,.nili):=by kernel_rfl
theorem ti2 : tinf Tryz.prog 2 = some { size:=1,bytes:=8,zero:=some [.int .i64 0],kind:=.int .i64 }:=by kernel_rfl
theorem ti3 : tinf Tryz.prog 3 = some { size:=1,bytes:=8,zero:=some [.int .i64 0],kind:=.int .i64 }:=by kernel_rfl
theorem ti4 : tinf Tryz.prog 4 = some { size:=1,bytes:=1,zero:=some [.bool false],kind:=.bool }:=by kernel_rfl
theorem ti5 : tinf Tryz.prog 5 = some { size:=1,bytes:=1,zero:=some [.int .u8 0],kind:=.int .u8 }:=by kernel_rfl
theorem ti9 : tinf Tryz.prog 9 = some { size:=1,bytes:=16,zero:=some [.str []],kind:=.str }:=by kernel_rfl
theorem ti22 : tinf Tryz.prog 22 = some { size:=1,bytes:=24,zero:=some [.nils],kind:=.slice 217 }:=by kernel_rfl
theorem ti23 : tinf Tryz.prog 23 = some { size:=1,bytes:=24,zero:=some [.nils],kind:=.slice 25 }:=by kernel_rfl
theorem ti25 : tinf Tryz.prog 25 = some { size:=4,bytes:=64,zero:=some [.int .i64 0,.str [],.str [],.nils],kind:=.struct [(0,3,1),(1,9,1),(2,9,1),(3,23,1)] }:=by kernel_rfl
theorem ti26 : tinf Tryz.prog 26 = some { size:=1,bytes:=24,zero:=some [.nils],kind:=.slice 28 }:=by kernel_rfl
theorem ti28 : tinf Tryz.prog 28 = some { size:=9,bytes:=136,zero:=some [.int .i64 0,.int .i64 0,.str [],.str [],.int .i64 0,.str [],.str [],.nils,.nils],kind:=.struct [(0,3,1),(1,3,1),(2,9,1),(3,9,1),(4,25,4),(8,26,1)] }:=by kernel_rfl
theorem ti30 : tinf Tryz.prog 30 = some { size:=10,bytes:=160,zero:=some [.nils,.int .i64 0,.int .i64 0,.str [],.str [],.int .i64 0,.str [],.str [],.nils,.nils],kind:=.struct [(0,22,1),(1,28,9)] }:=by kernel_rfl
theorem ti33 : tinf Tryz.prog 33 = some { size:=1,bytes:=24,zero:=some [.nils],kind:=.slice 95 }:=by kernel_rfl
theorem ti34 : tinf Tryz.prog 34 = some { size:=1,bytes:=24,zero:=some [.nils],kind:=.slice 36 }:=by kernel_rfl
theorem ti36 : tinf Tryz.prog 36 = some { size:=4,bytes:=64,zero:=some [.int .i64 0,.str [],.str [],.nils],kind:=.struct [(0,3,1),(1,9,1),(2,9,1),(3,34,1)] }:=by kernel_rfl
theorem ti37 : tinf Tryz.prog 37 = some { size:=1,bytes:=24,zero:=some [.nils],kind:=.slice 39 }:=by kernel_rfl
theorem ti39 : tinf Tryz.prog 39 = some { size:=9,bytes:=136,zero:=some [.int .i64 0,.int .i64 0,.str [],.str [],.int .i64 0,.str [],.str [],.nils,.nils],kind:=.struct [(0,3,1),(1,3,1),(2,9,1),(3,9,1),(4,36,4),(8,37,1)] }:=by kernel_rfl
theorem ti41 : tinf Tryz.prog 41 = some { size:=10,bytes:=160,zero:=some [.nils,.int .i64 0,.int .i64 0,.str [],.str [],.int .i64 0,.str [],.str [],.nils,.nils],kind:=.struct [(0,33,1),(1,39,9)] }:=by kernel_rfl
theorem ti45 : tinf Tryz.prog 45 = some { size:=1,bytes:=24,zero:=some [.nils],kind:=.slice 109 }:=by kernel_rfl
theorem ti48 : tinf Tryz.prog 48 = some { size:=1,bytes:=24,zero:=some [.nils],kind:=.slice 112 }:=by kernel_rfl
theorem ti52 : tinf Tryz.prog 52 = some { size:=1,bytes:=24,zero:=some [.nils],kind:=.slice 124 }:=by kernel_rfl
theorem ti54 : tinf Tryz.prog 54 = some { size:=1,bytes:=24,zero:=some [.nils],kind:=.slice 129 }:=by kernel_rfl
theorem ti65 : tinf Tryz.prog 65 = some { size:=1,bytes:=8,zero:=some [.nilf],kind:=.func }:=by kernel_rfl
theorem ti68 : tinf Tryz.prog 68 = some { size:=1,bytes:=24,zero:=some [.nils],kind:=.slice 161 }:=by kernel_rfl
theorem ti71 : tinf Tryz.prog 71 = some { size:=1,bytes:=24,zero:=some [.nils],kind:=.slice 164 }:=by kernel_rfl
theorem ti77 : tinf Tryz.prog 77 = some { size:=1,bytes:=24,zero:=some [.nils],kind:=.slice 5 }:=by kernel_rfl
theorem ti80 : tinf Tryz.prog 80 = some { size:=1,bytes:=24,zero:=some [.nils],kind:=.slice 9 }:=by kernel_rfl
theorem ti91 : tinf Tryz.prog 91 = some { size:=1,bytes:=24,zero:=some [.nils],kind:=.slice 374 }:=by kernel_rfl
theorem ti93 : tinf Tryz.prog 93 = some { size:=4,bytes:=88,zero:=some [.str [],.nils,.nils,.nils],kind:=.struct [(0,9,1),(1,48,1),(2,91,1),(3,54,1)] }:=by kernel_rfl
theorem ti95 : tinf Tryz.prog 95 = some { size:=7,bytes:=144,zero:=some [.str [],.nils,.nils,.nils,.str [],.str [],.nils],kind:=.struct [(0,93,4),(4,9,1),(5,9,1),(6,80,1)] }:=by kernel_rfl
theorem ti99 : tinf Tryz.prog 99 = some { size:=1,bytes:=24,zero:=some [.nils],kind:=.slice 224 }:=by kernel_rfl
theorem ti101 : tinf Tryz.prog 101 = some { size:=1,bytes:=16,zero:=some [.nili],kind:=.iface }:=by kernel_rfl
theorem ti103 : tinf Tryz.prog 103 = some { size:=2,bytes:=40,zero:=some [.nils,.nili],kind:=.struct [(0,99,1),(1,101,1)] }:=by kernel_rfl
theorem ti109 : tinf Tryz.prog 109 = some { size:=2,bytes:=40,zero:=some [.str [],.nils],kind:=.struct [(0,9,1),(1,52,1)] }:=by kernel_rfl
theorem ti112 : tinf Tryz.prog 112 = some { size:=2,bytes:=40,zero:=some [.str [],.nils],kind:=.struct [(0,9,1),(1,54,1)] }:=by kernel_rfl
theorem ti116 : tinf Tryz.prog 116 = some { size:=1,bytes:=8,zero:=some [.nilp],kind:=.ptr 453 }:=by kernel_rfl
theorem ti118 : tinf Tryz.prog 118 = some { size:=2,bytes:=16,zero:=some [.nilp,.int .i64 0],kind:=.struct [(0,116,1),(1,3,1)] }:=by kernel_rfl
theorem ti124 : tinf Tryz.prog 124 = some { size:=6,bytes:=88,zero:=some [.int .i64 0,.str [],.int .i64 0,.str [],.str [],.nils],kind:=.struct [(0,3,1),(1,9,1),(2,25,4)] }:=by kernel_rfl
theorem ti129 : tinf Tryz.prog 129 = some { size:=6,bytes:=88,zero:=some [.int .i64 0,.str [],.int .i64 0,.str [],.str [],.nils],kind:=.struct [(0,3,1),(1,9,1),(2,36,4)] }:=by kernel_rfl
theorem ti131 : tinf Tryz.prog 131 = some { size:=1,bytes:=24,zero:=some [.nils],kind:=.slice 137 }:=by kernel_rfl
theorem ti132 : tinf Tryz.prog 132 = some { size:=1,bytes:=24,zero:=some [.nils],kind:=.slice 137 }:=by kernel_rfl
theorem ti137 : tinf Tryz.prog 137 = some { size:=1,bytes:=16,zero:=some [.nili],kind:=.iface }:=by kernel_rfl
theorem ti139 : tinf Tryz.prog 139 = some { size:=1,bytes:=8,zero:=some [.nilm],kind:=.map 9 9 }:=by kernel_rfl
theorem ti155 : tinf Tryz.prog 155 = some { size:=1,bytes:=8,zero:=some [.nilf],kind:=.func }:=by kernel_rfl
theorem ti161 : tinf Tryz.prog 161 = some { size:=11,bytes:=168,zero:=some [.str [],.str [],.int .i64 0,.int .i64 0,.str [],.str [],.int .i64 0,.str [],.str [],.nils,.nils],kind:=.struct [(0,9,1),(1,9,1),(2,28,9)] }:=by kernel_rfl
theorem ti164 : tinf Tryz.prog 164 = some { size:=11,bytes:=168,zero:=some [.str [],.str [],.int .i64 0,.int .i64 0,.str [],.str [],.int .i64 0,.str [],.str [],.nils,.nils],kind:=.struct [(0,9,1),(1,9,1),(2,39,9)] }:=by kernel_rfl
theorem ti166 : tinf Tryz.prog 166 = some { size:=1,bytes:=8,zero:=some [.nilm],kind:=.map 171 101 }:=by kernel_rfl
theorem ti171 : tinf Tryz.prog 171 = some { size:=2,bytes:=32,zero:=some [.str [],.str []],kind:=.struct [(0,9,1),(1,9,1)] }:=by kernel_rfl
theorem ti178 : tinf Tryz.prog 178 = some { size:=1,bytes:=16,zero:=some [.nili],kind:=.iface }:=by kernel_rfl
theorem ti186 : tinf Tryz.prog 186 = some { size:=1,bytes:=8,zero:=some [.nilf],kind:=.func }:=by kernel_rfl
theorem ti188 : tinf Tryz.prog 188 = some { size:=1,bytes:=8,zero:=some [.nilm],kind:=.map 420 420 }:=by kernel_rfl
theorem ti190 : tinf Tryz.prog 190 = some { size:=3,bytes:=24,zero:=some [.nilf,.nilf,.nilm],kind:=.struct [(0,186,1),(1,155,1),(2,188,1)] }:=by kernel_rfl
theorem ti192 : tinf Tryz.prog 192 = some { size:=1,bytes:=8,zero:=some [.nilm],kind:=.map 416 416 }:=by kernel_rfl
theorem ti194 : tinf Tryz.prog 194 = some { size:=4,bytes:=32,zero:=some [.nilf,.nilf,.nilm,.nilm],kind:=.struct [(0,190,3),(3,192,1)] }:=by kernel_rfl
theorem ti197 : tinf Tryz.prog 197 = some { size:=1,bytes:=8,zero:=some [.nilm],kind:=.map 9 4 }:=by kernel_rfl
theorem ti198 : tinf Tryz.prog 198 = some { size:=1,bytes:=8,zero:=some [.nilm],kind:=.map 9 4 }:=by kernel_rfl
theorem ti205 : tinf Tryz.prog 205 = some { size:=1,bytes:=8,zero:=some [.nilf],kind:=.func }:=by kernel_rfl
theorem ti207 : tinf Tryz.prog 207 = some { size:=1,bytes:=8,zero:=some [.nilm],kind:=.map 368 368 }:=by kernel_rfl
theorem ti209 : tinf Tryz.prog 209 = some { size:=3,bytes:=24,zero:=some [.nilf,.nilf,.nilm],kind:=.struct [(0,205,1),(1,65,1),(2,207,1)] }:=by kernel_rfl
theorem ti213 : tinf Tryz.prog 213 = some { size:=1,bytes:=24,zero:=some [.nils],kind:=.slice 429 }:=by kernel_rfl
theorem ti215 : tinf Tryz.prog 215 = some { size:=4,bytes:=88,zero:=some [.str [],.nils,.nils,.nils],kind:=.struct [(0,9,1),(1,45,1),(2,213,1),(3,52,1)] }:=by kernel_rfl
theorem ti217 : tinf Tryz.prog 217 = some { size:=7,bytes:=144,zero:=some [.str [],.nils,.nils,.nils,.str [],.str [],.nils],kind:=.struct [(0,215,4),(4,9,1),(5,9,1),(6,80,1)] }:=by kernel_rfl
theorem ti224 : tinf Tryz.prog 224 = some { size:=1,bytes:=16,zero:=some [.nili],kind:=.iface }:=by kernel_rfl
theorem ti229 : tinf Tryz.prog 229 = some { size:=1,bytes:=24,zero:=some [.nils],kind:=.slice 233 }:=by kernel_rfl
theorem ti233 : tinf Tryz.prog 233 = some { size:=2,bytes:=40,zero:=some [.str [],.nils],kind:=.struct [(0,9,1),(1,132,1)] }:=by kernel_rfl
theorem ti247 : tinf Tryz.prog 247 = some { size:=1,bytes:=8,zero:=some [.int .i64 0],kind:=.int .i64 }:=by kernel_rfl
theorem ti249 : tinf Tryz.prog 249 = some { size:=1,bytes:=8,zero:=some [.int .i64 0],kind:=.struct [(0,247,1)] }:=by kernel_rfl
theorem ti253 : tinf Tryz.prog 253 = some { size:=1,bytes:=8,zero:=some [.int .i64 0],kind:=.struct [(0,3,1)] }:=by kernel_rfl
theorem ti259 : tinf Tryz.prog 259 = some { size:=1,bytes:=24,zero:=some [.nils],kind:=.slice 101 }:=by kernel_rfl
theorem ti262 : tinf Tryz.prog 262 = some { size:=1,bytes:=16,zero:=some [.nili],kind:=.iface }:=by kernel_rfl
theorem ti264 : tinf Tryz.prog 264 = some { size:=2,bytes:=32,zero:=some [.nili,.nili],kind:=.struct [(0,262,1),(1,101,1)] }:=by kernel_rfl
theorem ti270 : tinf Tryz.prog 270 = some { size:=2,bytes:=24,zero:=some [.int .i64 0,.nili],kind:=.struct [(0,3,1),(1,101,1)] }:=by kernel_rfl
theorem ti273 : tinf Tryz.prog 273 = some { size:=2,bytes:=32,zero:=some [.nils,.int .i64 0],kind:=.struct [(0,77,1),(1,3,1)] }:=by kernel_rfl
theorem ti276 : tinf Tryz.prog 276 = some { size:=1,bytes:=24,zero:=some [.nils],kind:=.slice 3 }:=by kernel_rfl
theorem ti282 : tinf Tryz.prog 282 = some { size:=2,bytes:=32,zero:=some [.str [],.str []],kind:=.struct [(0,9,1),(1,9,1)] }:=by kernel_rfl
theorem ti290 : tinf Tryz.prog 290 = some { size:=2,bytes:=48,zero:=some [.nils,.nils],kind:=.struct [(0,37,1),(1,37,1)] }:=by kernel_rfl
theorem ti291 : tinf Tryz.prog 291 = some { size:=1,bytes:=24,zero:=some [.nils],kind:=.slice 290 }:=by kernel_rfl
theorem ti294 : tinf Tryz.prog 294 = some { size:=1,bytes:=8,zero:=some [.nilp],kind:=.ptr 296 }:=by kernel_rfl
theorem ti296 : tinf Tryz.prog 296 = some { size:=2,bytes:=32,zero:=some [.nilp,.nils],kind:=.struct [(0,294,1),(1,77,1)] }:=by kernel_rfl
theorem ti305 : tinf Tryz.prog 305 = some { size:=1,bytes:=24,zero:=some [.nils],kind:=.slice 437 }:=by kernel_rfl
theorem ti306 : tinf Tryz.prog 306 = some { size:=1,bytes:=24,zero:=some [.nils],kind:=.slice 437 }:=by kernel_rfl
theorem ti308 : tinf Tryz.prog 308 = some { size:=4,bytes:=88,zero:=some [.str [],.nils,.nils,.nils],kind:=.struct [(0,9,1),(1,229,1),(2,306,1),(3,132,1)] }:=by kernel_rfl
theorem ti312 : tinf Tryz.prog 312 = some { size:=4,bytes:=88,zero:=some [.str [],.nils,.nils,.nils],kind:=.struct [(0,308,4)] }:=by kernel_rfl
theorem ti317 : tinf Tryz.prog 317 = some { size:=3,bytes:=56,zero:=some [.str [],.str [],.nils],kind:=.struct [(0,9,1),(1,9,1),(2,80,1)] }:=by kernel_rfl
theorem ti322 : tinf Tryz.prog 322 = some { size:=1,bytes:=24,zero:=some [.nils],kind:=.slice 391 }:=by kernel_rfl
theorem ti334 : tinf Tryz.prog 334 = some { size:=1,bytes:=16,zero:=some [.str []],kind:=.struct [(0,9,1)] }:=by kernel_rfl
theorem ti338 : tinf Tryz.prog 338 = some { size:=2,bytes:=32,zero:=some [.str [],.nili],kind:=.struct [(0,9,1),(1,262,1)] }:=by kernel_rfl
theorem ti339 : tinf Tryz.prog 339 = some { size:=2,bytes:=32,zero:=some [.str [],.nili],kind:=.struct [(0,9,1),(1,262,1)] }:=by kernel_rfl
theorem ti340 : tinf Tryz.prog 340 = some { size:=1,bytes:=8,zero:=some [.nilm],kind:=.map 342 4 }:=by kernel_rfl
theorem ti342 : tinf Tryz.prog 342 = some { size:=2,bytes:=24,zero:=some [.bool false,.str []],kind:=.struct [(0,4,1),(1,9,1)] }:=by kernel_rfl
theorem ti345 : tinf Tryz.prog 345 = some { size:=1,bytes:=8,zero:=some [.nilp],kind:=.ptr 249 }:=by kernel_rfl
theorem ti353 : tinf Tryz.prog 353 = some { size:=1,bytes:=24,zero:=some [.nils],kind:=.slice 460 }:=by kernel_rfl
theorem ti355 : tinf Tryz.prog 355 = some { size:=2,bytes:=40,zero:=some [.nils,.nili],kind:=.struct [(0,353,1),(1,101,1)] }:=by kernel_rfl
theorem ti362 : tinf Tryz.prog 362 = some { size:=2,bytes:=48,zero:=some [.nils,.nils],kind:=.struct [(0,34,1),(1,34,1)] }:=by kernel_rfl
theorem ti363 : tinf Tryz.prog 363 = some { size:=1,bytes:=24,zero:=some [.nils],kind:=.slice 362 }:=by kernel_rfl
theorem ti368 : tinf Tryz.prog 368 = some { size:=2,bytes:=16,zero:=some [.nilp,.int .i64 0],kind:=.struct [(0,366,1),(1,3,1)] }:=by kernel_rfl
theorem ti370 : tinf Tryz.prog 370 = some { size:=1,bytes:=8,zero:=some [.nilp],kind:=.ptr 5 }:=by kernel_rfl
theorem ti374 : tinf Tryz.prog 374 = some { size:=15,bytes:=224,zero:=some [.int .i64 0,.str [],.int .i64 0,.str [],.str [],.nils,.int .i64 0,.int .i64 0,.str [],.str [],.int .i64 0,.str [],.str [],.nils,.nils],kind:=.struct [(0,3,1),(1,9,1),(2,36,4),(6,39,9)] }:=by kernel_rfl
theorem ti380 : tinf Tryz.prog 380 = some { size:=1,bytes:=8,zero:=some [.nilm],kind:=.map 509 509 }:=by kernel_rfl
theorem ti382 : tinf Tryz.prog 382 = some { size:=7,bytes:=56,zero:=some [.nilf,.nilf,.nilm,.nilf,.nilf,.nilm,.nilm],kind:=.struct [(0,190,3),(3,209,3),(6,380,1)] }:=by kernel_rfl
theorem ti384 : tinf Tryz.prog 384 = some { size:=1,bytes:=8,zero:=some [.nilm],kind:=.map 500 500 }:=by kernel_rfl
theorem ti386 : tinf Tryz.prog 386 = some { size:=12,bytes:=96,zero:=some [.nilf,.nilf,.nilm,.nilm,.nilf,.nilf,.nilm,.nilf,.nilf,.nilm,.nilm,.nilm],kind:=.struct [(0,194,4),(4,382,7),(11,384,1)] }:=by kernel_rfl
theorem ti391 : tinf Tryz.prog 391 = some { size:=6,bytes:=96,zero:=some [.str [],.str [],.int .i64 0,.str [],.str [],.nils],kind:=.struct [(0,9,1),(1,9,1),(2,36,4)] }:=by kernel_rfl
theorem ti401 : tinf Tryz.prog 401 = some { size:=1,bytes:=8,zero:=some [.int .i64 0],kind:=.struct [(0,3,1)] }:=by kernel_rfl
theorem ti404 : tinf Tryz.prog 404 = some { size:=2,bytes:=32,zero:=some [.nili,.nili],kind:=.struct [(0,101,1),(1,101,1)] }:=by kernel_rfl
theorem ti406 : tinf Tryz.prog 406 = some { size:=2,bytes:=32,zero:=some [.nili,.nili],kind:=.struct [(0,101,1),(1,101,1)] }:=by kernel_rfl
theorem ti408 : tinf Tryz.prog 408 = some { size:=3,bytes:=48,zero:=some [.nili,.nili,.nili],kind:=.struct [(0,101,1),(1,101,1),(2,101,1)] }:=by kernel_rfl
theorem ti416 : tinf Tryz.prog 416 = some { size:=2,bytes:=16,zero:=some [.nilp,.int .i64 0],kind:=.struct [(0,414,1),(1,3,1)] }:=by kernel_rfl
theorem ti420 : tinf Tryz.prog 420 = some { size:=2,bytes:=16,zero:=some [.nilp,.int .i64 0],kind:=.struct [(0,418,1),(1,3,1)] }:=by kernel_rfl
theorem ti425 : tinf Tryz.prog 425 = some { size:=1,bytes:=8,zero:=some [.int .u64 0],kind:=.int .u64 }:=by kernel_rfl
theorem ti429 : tinf Tryz.prog 429 = some { size:=15,bytes:=224,zero:=some [.int .i64 0,.str [],.int .i64 0,.str [],.str [],.nils,.int .i64 0,.int .i64 0,.str [],.str [],.int .i64 0,.str [],.str [],.nils,.nils],kind:=.struct [(0,3,1),(1,9,1),(2,25,4),(6,28,9)] }:=by kernel_rfl
theorem ti437 : tinf Tryz.prog 437 = some { size:=1,bytes:=16,zero:=some [.nili],kind:=.iface }:=by kernel_rfl
theorem ti447 : tinf Tryz.prog 447 = some { size:=1,bytes:=8,zero:=some [.nilm],kind:=.map 282 262 }:=by kernel_rfl
theorem ti453 : tinf Tryz.prog 453 = some { size:=3,bytes:=48,zero:=some [.str [],.nils,.nilp],kind:=.struct [(0,9,1),(1,132,1),(2,116,1)] }:=by kernel_rfl
theorem ti455 : tinf Tryz.prog 455 = some { size:=0,bytes:=0,zero:=some [],kind:=.struct [] }:=by kernel_rfl
theorem ti460 : tinf Tryz.prog 460 = some { size:=2,bytes:=24,zero:=some [.nili,.int .i64 0],kind:=.struct [(0,101,1),(1,3,1)] }:=by kernel_rfl
theorem ti468 : tinf Tryz.prog 468 = some { size:=1,bytes:=8,zero:=some [.int .i64 0],kind:=.int .i64 }:=by kernel_rfl
theorem ti476 : tinf Tryz.prog 476 = some { size:=1,bytes:=4,zero:=some [.int .u32 0],kind:=.int .u32 }:=by kernel_rfl
theorem ti478 : tinf Tryz.prog 478 = some { size:=1,bytes:=8,zero:=some [.int .u64 0],kind:=.int .u64 }:=by kernel_rfl
theorem ti481 : tinf Tryz.prog 481 = some { size:=2,bytes:=32,zero:=some [.str [],.nili],kind:=.struct [(0,9,1),(1,262,1)] }:=by kernel_rfl
theorem ti483 : tinf Tryz.prog 483 = some { size:=2,bytes:=32,zero:=some [.str [],.nili],kind:=.struct [(0,9,1),(1,101,1)] }:=by kernel_rfl
theorem ti485 : tinf Tryz.prog 485 = some { size:=2,bytes:=16,zero:=some [.nilm,.nilm],kind:=.struct [(0,197,1),(1,197,1)] }:=by kernel_rfl
theorem ti490 : tinf Tryz.prog 490 = some { size:=2,bytes:=32,zero:=some [.nili,.nili],kind:=.struct [(0,262,1),(1,262,1)] }:=by kernel_rfl
theorem ti492 : tinf Tryz.prog 492 = some { size:=1,bytes:=8,zero:=some [.int .u64 0],kind:=.int .u64 }:=by kernel_rfl
theorem ti500 : tinf Tryz.prog 500 = some { size:=2,bytes:=16,zero:=some [.nilp,.int .i64 0],kind:=.struct [(0,498,1),(1,3,1)] }:=by kernel_rfl
theorem ti509 : tinf Tryz.prog 509 = some { size:=2,bytes:=16,zero:=some [.nilp,.int .i64 0],kind:=.struct [(0,507,1),(1,3,1)] }:=by kernel_rfl
theorem ti533 : tinf Tryz.prog 533 = some { size:=1,bytes:=8,zero:=some [.nilp],kind:=.other }:=by kernel_rfl
theorem ti544 : tinf Tryz.prog 544 = some { size:=1,bytes:=16,zero:=some [.nili],kind:=.iface }:=by kernel_rfl
theorem ti546 : tinf Tryz.prog 546 = some { size:=24,bytes:=24,zero:=some [.int .u8 0,.int .u8 0,.int .u8 0,.int .u8 0,.int .u8 0,.int .u8 0,.int .u8 0,.int .u8 0,.int .u8 0,.int .u8 0,.int .u8 0,.int .u8 0,.int .u8 0,.int .u8 0,.int .u8 0,.int .u8 0,.int .u8 0,.int .u8 0,.int .u8 0,.int .u8 0,.int .u8 0,.int .u8 0,.int .u8 0,.int .u8 0],kind:=.other }:=by kernel_rfl
theorem ti551 : tinf Tryz.prog 551 = some { size:=20,bytes:=160,zero:=some [.int .u64 0,.int .u64 0,.int .u64 0,.int .u64 0,.int .u64 0,.int .u64 0,.int .u64 0,.int .u64 0,.int .u64 0,.int .u64 0,.int .u64 0,.int .u64 0,.int .u64 0,.int .u64 0,.int .u64 0,.int .u64 0,.int .u64 0,.int .u64 0,.int .u64 0,.int .u64 0],kind:=.other }:=by kernel_rfl
theorem ti552 : tinf Tryz.prog 552 = some { size:=65,bytes:=65,zero:=some [.int .u8 0,.int .u8 0,.int .u8 0,.int .u8 0,.int .u8 0,.int .u8 0,.int .u8 0,.int .u8 0,.int .u8 0,.int .u8 0,.int .u8 0,.int .u8 0,.int .u8 0,.int .u8 0,.int .u8 0,.int .u8 0,.int .u8 0,.int .u8 0,.int .u8 0,.int .u8 0,.int .u8 0,.int .u8 0,.int .u8 0,.int .u8 0,.int .u8 0,.int .u8 0,.int .u8 0,.int .u8 0,.int .u8 0,.int .u8 0,.int .u8 0,.int .u8 0,.int .u8 0,.int .u8 0,.int .u8 0,.int .u8 0,.int .u8 0,.int .u8 0,.int .u8 0,.int .u8 0,.int .u8 0,.int .u8 0,.int .u8 0,.int .u8 0,.int .u8 0,.int .u8 0,.int .u8 0,.int .u8 0,.int .u8 0,.int .u8 0,.int .u8 0,.int .u8 0,.int .u8 0,.int .u8 0,.int .u8 0,.int .u8 0,.int .u8 0,.int .u8 0,.int .u8 0,.int .u8 0,.int .u8 0,.int .u8 0,.int .u8 0,.int .u8 0,.int .u8 0],kind:=.other }:=by kernel_rfl
theorem ti553 : tinf Tryz.prog 553 = some { size:=32,bytes:=32,zero:=some [.int .u8 0,.int .u8 0,.int .u8 0,.int .u8 0,.int .u8 0,.int .u8 0,.int .u8 0,.int .u8 0,.int .u8 0,.int .u8 0,.int .u8 0,.int .u8 0,.int .u8 0,.int .u8 0,.int .u8 0,.int .u8 0,.int .u8 0,.int .u8 0,.int .u8 0,.int .u8 0,.int .u8 0,.int .u8 0,.int .u8 0,.int .u8 0,.int .u8 0,.int .u8 0,.int .u8 0,.int .u8 0,.int .u8 0,.int .u8 0,.int .u8 0,.int .u8 0],kind:=.other }:=by kernel_rfl
theorem ti554 : tinf Tryz.prog 554 = some { size:=64,bytes:=64,zero:=some [.int .u8 0,.int .u8 0,.int .u8 0,.int .u8 0,.int .u8 0,.int .u8 0,.int .u8 0,.int .u8 0,.int .u8 0,.int .u8 0,.int .u8 0,.int .u8 0,.int .u8 0,.int .u8 0,.int .u8 0,.int .u8 0,.int .u8 0,.int .u8 0,.int .u8 0,.int .u8 0,.int .u8 0,.int .u8 0,.int .u8 0,.int .u8 0,.int .u8 0,.int .u8 0,.int .u8 0,.int .u8 0,.int .u8 0,.int .u8 0,.int .u8 0,.int .u8 0,.int .u8 0,.int .u8 0,.int .u8 0,.int .u8 0,.int .u8 0,.int .u8 0,.int .u8 0,.int .u8 0,.int .u8 0,.int .u8 0,.int .u8 0,.int .u8 0,.int .u8 0,.int .u8 0,.int .u8 0,.int .u8 0,.int .u8 0,.int .u8 0,.int .u8 0,.int .u8 0,.int .u8 0,.int .u8 0,.int .u8 0,.int .u8 0,.int .u8 0,.int .u8 0,.int .u8 0,.int .u8 0,.int .u8 0,.int .u8 0,.int .u8 0,.int .u8 0],kind:=.other }:=by kernel_rfl
theorem ti581 : tinf Tryz.prog 581 = some { size:=1,bytes:=8,zero:=some [.nilp],kind:=.ptr 595 }:=by kernel_rfl
theorem ti582 : tinf Tryz.prog 582 = some { size:=1,bytes:=8,zero:=some [.nilp],kind:=.ptr 600 }:=by kernel_rfl
theorem ti584 : tinf Tryz.prog 584 = some { size:=2,bytes:=16,zero:=some [.nilp,.nilp],kind:=.struct [(0,581,1),(1,582,1)] }:=by kernel_rfl
theorem ti595 : tinf Tryz.prog 595 = some { size:=4,bytes:=56,zero:=some [.str [],.str [],.nili,.nilp],kind:=.struct [(0,282,2),(2,262,1),(3,581,1)] }:=by kernel_rfl
theorem ti600 : tinf Tryz.prog 600 = some { size:=4,bytes:=56,zero:=some [.str [],.str [],.nili,.nilp],kind:=.struct [(0,171,2),(2,101,1),(3,582,1)] }:=by kernel_rfl
theorem ca12 : callable Tryz.prog 12 = true:=by kernel_rfl
theorem ca13 : callable Tryz.prog 13 = true:=by kernel_rfl
theorem ca14 : callable Tryz.prog 14 = true:=by kernel_rfl
theorem ca15 : callable Tryz.prog 15 = true:=by kernel_rfl
theorem ca16 : callable Tryz.prog 16 = true:=by kernel_rfl
theorem ca17 : callable Tryz.prog 17 = true:=by kernel_rfl
theorem ca18 : callable Tryz.prog 18 = true:=by kernel_rfl
theorem ca19 : callable Tryz.prog 19 = true:=by kernel_rfl
theorem ca20 : callable Tryz.prog 20 = true:=by kernel_rfl
theorem ca21 : callable Tryz.prog 21 = true:=by kernel_rfl
theorem ca22 : callable Tryz.prog 22 = true:=by kernel_rfl
theorem ca23 : callable Tryz.prog 23 = true:=by kernel_rfl
theorem ca24 : callable Tryz.prog 24 = true:=by kernel_rfl
theorem ca25 : callable Tryz.prog 25 = true:=by kernel_rfl
theorem ca26 : callable Tryz.prog 26 = true:=by kernel_rfl
theorem ca27 : callable Tryz.prog 27 = true:=by kernel_rfl
theorem ca28 : callable Tryz.prog 28 = true:=by kernel_rfl
theorem ca29 : callable Tryz.prog 29 = true:=by kernel_rfl
theorem ca30 : callable Tryz.prog 30 = true:=by kernel_rfl
theorem ca31 : callable Tryz.prog 31 = true:=by kernel_rfl
theorem ca32 : callable Tryz.prog 32 = true:=by kernel_rfl
theorem ca33 : callable Tryz.prog 33 = true:=by kernel_rfl
theorem ca34 : callable Tryz.prog 34 = true:=by kernel_rfl
theorem ca35 : callable Tryz.prog 35 = true:=by kernel_rfl
theorem ca36 : callable Tryz.prog 36 = true:=by kernel_rfl
theorem ca37 : callable Tryz.prog 37 = true:=by kernel_rfl
theorem ca38 : callable Tryz.prog 38 = true:=by kernel_rfl
theorem ca39 : callable Tryz.prog 39 = true:=by kernel_rfl
theorem ca40 : callable Tryz.prog 40 = true:=by kernel_rfl
theorem ca41 : callable Tryz.prog 41 = true:=by kernel_rfl
theorem ca42 : callable Tryz.prog 42 = true:=by kernel_rfl
theorem ca43 : callable Tryz.prog 43 = true:=by kernel_rfl
theorem ca44 : callable Tryz.prog 44 = true:=by kernel_rfl
theorem ca45 : callable Tryz.prog 45 = true:=by kernel_rfl
theorem ca46 : callable Tryz.prog 46 = true:=by kernel_rfl
theorem ca47 : callable Tryz.prog 47 = true:=by kernel_rfl
theorem ca48 : callable Tryz.prog 48 = true:=by kernel_rfl
theorem ca49 : callable Tryz.prog 49 = true:=by kernel_rfl
theorem ca50 : callable Tryz.prog 50 = true:=by kernel_rfl
theorem ca51 : callable Tryz.prog 51 = true:=by kernel_rfl
theorem ca52 : callable Tryz.prog 52 = true:=by kernel_rfl
theorem ca53 : callable Tryz.prog 53 = true:=by kernel_rfl
theorem ca54 : callable Tryz.prog 54 = true:=by kernel_rfl
theorem ca55 : callable Tryz.prog 55 = true:=by kernel_rfl
theorem ca56 : callable Tryz.prog 56 = true:=by kernel_rfl
theorem ca57 : callable Tryz.prog 57 = true:=by kernel_rfl
theorem ca58 : callable Tryz.prog 58 = true:=by kernel_rfl
theorem ca59 : callable Tryz.prog 59 = true:=by kernel_rfl
theorem ca60 : callable Tryz.prog 60 = true:=by kernel_rfl
theorem ca61 : callable Tryz.prog 61 = true:=by kernel_rfl
theorem ca62 : callable Tryz.prog 62 = true:=by kernel_rfl
theorem ca63 : callable Tryz.prog 63 = true:=by kernel_rfl
theorem ca64 : callable Tryz.prog 64 = true:=by kernel_rfl
theorem ca65 : callable Tryz.prog 65 = true:=by kernel_rfl
theorem ca66 : callable Tryz.prog 66 = true:=by kernel_rfl
theorem ca67 : callable Tryz.prog 67 = true:=by kernel_rfl
theorem ca68 : callable Tryz.prog 68 = true:=by kernel_rfl
theorem ca69 : callable Tryz.prog 69 = true:=by kernel_rfl
theorem ca70 : callable Tryz.prog 70 = true:=by kernel_rfl
theorem ca71 : callable Tryz.prog 71 = true:=by kernel_rfl
theorem ca72 : callable Tryz.prog 72 = true:=by kernel_rfl
theorem ca73 : callable Tryz.prog 73 = true:=by kernel_rfl
theorem ca74 : callable Tryz.prog 74 = true:=by kernel_rfl
theorem ca75 : callable Tryz.prog 75 = true:=by kernel_rfl
theorem ca76 : callable Tryz.prog 76 = true:=by kernel_rfl
theorem ca77 : callable Tryz.prog 77 = true:=by kernel_rfl
theorem ca78 : callable Tryz.prog 78 = true:=by kernel_rfl
theorem ca79 : callable Tryz.prog 79 = true:=by kernel_rfl
theorem ca80 : callable Tryz.prog 80 = true:=by kernel_rfl
theorem ca81 : callable Tryz.prog 81 = true:=by kernel_rfl
theorem ca82 : callable Tryz.prog 82 = true:=by kernel_rfl
theorem ca83 : callable Tryz.prog 83 = true:=by kernel_rfl
theorem ca84 : callable Tryz.prog 84 = true:=by kernel_rfl
theorem ca85 : callable Tryz.prog 85 = true:=by kernel_rfl
theorem ca86 : callable Tryz.prog 86 = true:=by kernel_rfl
theorem ca87 : callable Tryz.prog 87 = true:=by kernel_rfl
theorem ca88 : callable Tryz.prog 88 = true:=by kernel_rfl
theorem ca89 : callable Tryz.prog 89 = true:=by kernel_rfl
theorem ca90 : callable Tryz.prog 90 = true:=by kernel_rfl
theorem ca91 : callable Tryz.prog 91 = true:=by kernel_rfl
theorem ca92 : callable Tryz.prog 92 = true:=by kernel_rfl
theorem ca93 : callable Tryz.prog 93 = true:=by kernel_rfl
theorem ca94 : callable Tryz.prog 94 = true:=by kernel_rfl
theorem ca95 : callable Tryz.prog 95 = true:=by kernel_rfl
theorem ca96 : callable Tryz.prog 96 = true:=by kernel_rfl
theorem ca97 : callable Tryz.prog 97 = true:=by kernel_rfl
theorem ca98 : callable Tryz.prog 98 = true:=by kernel_rfl
theorem ca99 : callable Tryz.prog 99 = true:=by kernel_rfl
theorem ca100 : callable Tryz.prog 100 = true:=by kernel_rfl
theorem ca101 : callable Tryz.prog 101 = true:=by kernel_rfl
theorem ca102 : callable Tryz.prog 102 = true:=by kernel_rfl
theorem ca103 : callable Tryz.prog 103 = true:=by kernel_rfl
theorem ca104 : callable Tryz.prog 104 = true:=by kernel_rfl
theorem ca106 : callable Tryz.prog 106 = true:=by kernel_rfl
theorem ca107 : callable Tryz.prog 107 = true:=by kernel_rfl
theorem ca108 : callable Tryz.prog 108 = true:=by kernel_rfl
theorem ca109 : callable Tryz.prog 109 = true:=by kernel_rfl
theorem ca110 : callable Tryz.prog 110 = true:=by kernel_rfl
theorem ca111 : callable Tryz.prog 111 = true:=by kernel_rfl
theorem ca112 : callable Tryz.prog 112 = true:=by kernel_rfl
theorem ca113 : callable Tryz.prog 113 = true:=by kernel_rfl
theorem ca114 : callable Tryz.prog 114 = true:=by kernel_rfl
theorem ca115 : callable Tryz.prog 115 = true:=by kernel_rfl
theorem ca116 : callable Tryz.prog 116 = true:=by kernel_rfl
theorem ca117 : callable Tryz.prog 117 = true:=by kernel_rfl
theorem ca119 : callable Tryz.prog 119 = true:=by kernel_rfl
theorem ca120 : callable Tryz.prog 120 = true:=by kernel_rfl
theorem ca121 : callable Tryz.prog 121 = true:=by kernel_rfl
theorem ca122 : callable Tryz.prog 122 = true:=by kernel_rfl
theorem ca123 : callable Tryz.prog 123 = true:=by kernel_rfl
theorem ca124 : callable Tryz.prog 124 = true:=by kernel_rfl
theorem ca125 : callable Tryz.prog 125 = true:=by kernel_rfl
theorem ca126 : callable Tryz.prog 126 = true:=by kernel_rfl
theorem ca127 : callable Tryz.prog 127 = true:=by kernel_rfl
theorem ca128 : callable Tryz.prog 128 = true:=by kernel_rfl
theorem ca129 : callable Tryz.prog 129 = true:=by kernel_rfl
theorem ca130 : callable Tryz.prog 130 = true:=by kernel_rfl
theorem ca131 : callable Tryz.prog 131 = true:=by kernel_rfl
theorem ca132 : callable Tryz.prog 132 = true:=by kernel_rfl
theorem ca133 : callable Tryz.prog 133 = true:=by kernel_rfl
theorem ca134 : callable Tryz.prog 134 = true:=by kernel_rfl
theorem ca135 : callable Tryz.prog 135 = true:=by kernel_rfl
theorem ca137 : callable Tryz.prog 137 = true:=by kernel_rfl
theorem ca138 : callable Tryz.prog 138 = true:=by kernel_rfl
theorem ca139 : callable Tryz.prog 139 = true:=by kernel_rfl
theorem ca140 : callable Tryz.prog 140 = true:=by kernel_rfl
theorem ca141 : callable Tryz.prog 141 = true:=by kernel_rfl
theorem ca143 : callable Tryz.prog 143 = true:=by kernel_rfl
theorem ca144 : callable Tryz.prog 144 = true:=by kernel_rfl
theorem ca145 : callable Tryz.prog 145 = true:=by kernel_rfl
theorem ca146 : callable Tryz.prog 146 = true:=by kernel_rfl
theorem ca148 : callable Tryz.prog 148 = true:=by kernel_rfl
theorem ca149 : callable Tryz.prog 149 = true:=by kernel_rfl
theorem ca150 : callable Tryz.prog 150 = true:=by kernel_rfl
theorem ca151 : callable Tryz.prog 151 = true:=by kernel_rfl
theorem ca152 : callable Tryz.prog 152 = true:=by kernel_rfl
theorem ca153 : callable Tryz.prog 153 = true:=by kernel_rfl
theorem ca154 : callable Tryz.prog 154 = true:=by kernel_rfl
theorem ca155 : callable Tryz.prog 155 = true:=by kernel_rfl
theorem ca157 : callable Tryz.prog 157 = true:=by kernel_rfl
theorem ca159 : callable Tryz.prog 159 = true:=by kernel_rfl
theorem ca160 : callable Tryz.prog 160 = true:=by kernel_rfl
theorem ca161 : callable Tryz.prog 161 = true:=by kernel_rfl
theorem ca162 : callable Tryz.prog 162 = true:=by kernel_rfl
theorem ca163 : callable Tryz.prog 163 = true:=by kernel_rfl
theorem ca164 : callable Tryz.prog 164 = true:=by kernel_rfl
theorem ca165 : callable Tryz.prog 165 = true:=by kernel_rfl
theorem ca166 : callable Tryz.prog 166 = true:=by kernel_rfl
theorem ca167 : callable Tryz.prog 167 = true:=by kernel_rfl
theorem ca168 : callable Tryz.prog 168 = true:=by kernel_rfl
theorem ca169 : callable Tryz.prog 169 = true:=by kernel_rfl
theorem ca170 : callable Tryz.prog 170 = true:=by kernel_rfl
theorem ca173 : callable Tryz.prog 173 = true:=by kernel_rfl
theorem ca175 : callable Tryz.prog 175 = true:=by kernel_rfl
theorem ca176 : callable Tryz.prog 176 = true:=by kernel_rfl
theorem ca177 : callable Tryz.prog 177 = true:=by kernel_rfl
theorem ca178 : callable Tryz.prog 178 = true:=by kernel_rfl
theorem ca179 : callable Tryz.prog 179 = true:=by kernel_rfl
theorem ca182 : callable Tryz.prog 182 = true:=by kernel_rfl
theorem ca183 : callable Tryz.prog 183 = true:=by kernel_rfl
theorem ca184 : callable Tryz.prog 184 = true:=by kernel_rfl
theorem ca185 : callable Tryz.prog 185 = true:=by kernel_rfl
theorem ca186 : callable Tryz.prog 186 = true:=by kernel_rfl
theorem ca187 : callable Tryz.prog 187 = true:=by kernel_rfl
theorem ca188 : callable Tryz.prog 188 = true:=by kernel_rfl
theorem ca189 : callable Tryz.prog 189 = true:=by kernel_rfl
theorem ca190 : callable Tryz.prog 190 = true:=by kernel_rfl
theorem ca191 : callable Tryz.prog 191 = true:=by kernel_rfl
theorem ca192 : callable Tryz.prog 192 = true:=by kernel_rfl
theorem ca194 : callable Tryz.prog 194 = true:=by kernel_rfl
theorem ca195 : callable Tryz.prog 195 = true:=by kernel_rfl
theorem ca196 : callable Tryz.prog 196 = true:=by kernel_rfl
theorem ca197 : callable Tryz.prog 197 = true:=by kernel_rfl
theorem ca198 : callable Tryz.prog 198 = true:=by kernel_rfl
theorem ca199 : callable Tryz.prog 199 = true:=by kernel_rfl
theorem ca200 : callable Tryz.prog 200 = true:=by kernel_rfl
theorem ca201 : callable Tryz.prog 201 = true:=by kernel_rfl
theorem ca202 : callable Tryz.prog 202 = true:=by kernel_rfl
theorem ca203 : callable Tryz.prog 203 = true:=by kernel_rfl
theorem ca204 : callable Tryz.prog 204 = true:=by kernel_rfl
theorem ca205 : callable Tryz.prog 205 = true:=by kernel_rfl
theorem ca206 : callable Tryz.prog 206 = true:=by kernel_rfl
theorem ca207 : callable Tryz.prog 207 = true:=by kernel_rfl
theorem ca208 : callable Tryz.prog 208 = true:=by kernel_rfl
theorem ca209 : callable Tryz.prog 209 = true:=by kernel_rfl
theorem ca210 : callable Tryz.prog 210 = true:=by kernel_rfl
theorem ca212 : callable Tryz.prog 212 = true:=by kernel_rfl
theorem ca213 : callable Tryz.prog 213 = true:=by kernel_rfl
theorem ca214 : callable Tryz.prog 214 = true:=by kernel_rfl
theorem ca215 : callable Tryz.prog 215 = true:=by kernel_rfl
theorem ca217 : callable Tryz.prog 217 = true:=by kernel_rfl
theorem ca218 : callable Tryz.prog 218 = true:=by kernel_rfl
theorem ca219 : callable Tryz.prog 219 = true:=by kernel_rfl
theorem ca220 : callable Tryz.prog 220 = true:=by kernel_rfl
theorem ca221 : callable Tryz.prog 221 = true:=by kernel_rfl
theorem ca222 : callable Tryz.prog 222 = true:=by kernel_rfl
theorem ca223 : callable Tryz.prog 223 = true:=by kernel_rfl
theorem ca224 : callable Tryz.prog 224 = true:=by kernel_rfl
theorem ca225 : callable Tryz.prog 225 = true:=by kernel_rfl
theorem ca226 : callable Tryz.prog 226 = true:=by kernel_rfl
theorem ca227 : callable Tryz.prog 227 = true:=by kernel_rfl
theorem ca228 : callable Tryz.prog 228 = true:=by kernel_rfl
theorem ca229 : callable Tryz.prog 229 = true:=by kernel_rfl
theorem ca230 : callable Tryz.prog 230 = true:=by kernel_rfl
theorem ca232 : callable Tryz.prog 232 = true:=by kernel_rfl
theorem ca233 : callable Tryz.prog 233 = true:=by kernel_rfl
theorem ca234 : callable Tryz.prog 234 = true:=by kernel_rfl
theorem ca235 : callable Tryz.prog 235 = true:=by kernel_rfl
theorem ca236 : callable Tryz.prog 236 = true:=by kernel_rfl
theorem ca237 : callable Tryz.prog 237 = true:=by kernel_rfl
theorem ca238 : callable Tryz.prog 238 = true:=by kernel_rfl
theorem ca239 : callable Tryz.prog 239 = true:=by kernel_rfl
theorem ca240 : callable Tryz.prog 240 = true:=by kernel_rfl
theorem ca241 : callable Tryz.prog 241 = true:=by kernel_rfl
theorem ca242 : callable Tryz.prog 242 = true:=by kernel_rfl
theorem ca243 : callable Tryz.prog 243 = true:=by kernel_rfl
theorem ca244 : callable Tryz.prog 244 = true:=by kernel_rfl
theorem ca245 : callable Tryz.prog 245 = true:=by kernel_rfl
theorem ca246 : callable Tryz.prog 246 = true:=by kernel_rfl
theorem ca247 : callable Tryz.prog 247 = true:=by kernel_rfl
theorem ca248 : callable Tryz.prog 248 = true:=by kernel_rfl
theorem ca249 : callable Tryz.prog 249 = true:=by kernel_rfl
theorem ca250 : callable Tryz.prog 250 = true:=by kernel_rfl
theorem ca251 : callable Tryz.prog 251 = true:=by kernel_rfl
theorem ca252 : callable Tryz.prog 252 = true:=by kernel_rfl
theorem ca254 : callable Tryz.prog 254 = true:=by kernel_rfl
theorem ca255 : callable Tryz.prog 255 = true:=by kernel_rfl
theorem ca256 : callable Tryz.prog 256 = true:=by kernel_rfl
theorem ca257 : callable Tryz.prog 257 = true:=by kernel_rfl
theorem ca258 : callable Tryz.prog 258 = true:=by kernel_rfl
theorem ca259 : callable Tryz.prog 259 = true:=by kernel_rfl
theorem ca260 : callable Tryz.prog 260 = true:=by kernel_rfl
theorem ca261 : callable Tryz.prog 261 = true:=by kernel_rfl
theorem ca262 : callable Tryz.prog 262 = true:=by kernel_rfl
theorem ca263 : callable Tryz.prog 263 = true:=by kernel_rfl
theorem ca264 : callable Tryz.prog 264 = true:=by kernel_rfl
theorem ca265 : callable Tryz.prog 265 = true:=by kernel_rfl
theorem ca266 : callable Tryz.prog 266 = true:=by kernel_rfl
theorem ca267 : callable Tryz.prog 267 = true:=by kernel_rfl
theorem ca268 : callable Tryz.prog 268 = true:=by kernel_rfl
theorem ca269 : callable Tryz.prog 269 = true:=by kernel_rfl
theorem ca270 : callable Tryz.prog 270 = true:=by kernel_rfl
theorem ca271 : callable Tryz.prog 271 = true:=by kernel_rfl
theorem ca272 : callable Tryz.prog 272 = true:=by kernel_rfl
theorem ca274 : callable Tryz.prog 274 = true:=by kernel_rfl
theorem ca275 : callable Tryz.prog 275 = true:=by kernel_rfl
theorem ca276 : callable Tryz.prog 276 = true:=by kernel_rfl
theorem ca278 : callable Tryz.prog 278 = true:=by kernel_rfl
theorem ca279 : callable Tryz.prog 279 = true:=by kernel_rfl
theorem ca280 : callable Tryz.prog 280 = true:=by kernel_rfl
theorem ca281 : callable Tryz.prog 281 = true:=by kernel_rfl
theorem ca282 : callable Tryz.prog 282 = true:=by kernel_rfl
theorem ca284 : callable Tryz.prog 284 = true:=by kernel_rfl
theorem ca285 : callable Tryz.prog 285 = true:=by kernel_rfl
theorem ca287 : callable Tryz.prog 287 = true:=by kernel_rfl
theorem ca288 : callable Tryz.prog 288 = true:=by kernel_rfl
theorem ca289 : callable Tryz.prog 289 = true:=by kernel_rfl
theorem ca291 : callable Tryz.prog 291 = true:=by kernel_rfl
theorem ca292 : callable Tryz.prog 292 = true:=by kernel_rfl
theorem ca293 : callable Tryz.prog 293 = true:=by kernel_rfl
theorem ca294 : callable Tryz.prog 294 = true:=by kernel_rfl
theorem ca295 : callable Tryz.prog 295 = true:=by kernel_rfl
theorem ca296 : callable Tryz.prog 296 = true:=by kernel_rfl
theorem ca297 : callable Tryz.prog 297 = true:=by kernel_rfl
theorem ca298 : callable Tryz.prog 298 = true:=by kernel_rfl
theorem ca299 : callable Tryz.prog 299 = true:=by kernel_rfl
theorem ca300 : callable Tryz.prog 300 = true:=by kernel_rfl
theorem ca301 : callable Tryz.prog 301 = true:=by kernel_rfl
theorem ca302 : callable Tryz.prog 302 = true:=by kernel_rfl
theorem ca303 : callable Tryz.prog 303 = true:=by kernel_rfl
theorem ca304 : callable Tryz.prog 304 = true:=by kernel_rfl
theorem ca305 : callable Tryz.prog 305 = true:=by kernel_rfl
theorem ca306 : callable Tryz.prog 306 = true:=by kernel_rfl
theorem ca308 : callable Tryz.prog 308 = true:=by kernel_rfl
theorem ca309 : callable Tryz.prog 309 = true:=by kernel_rfl
theorem ca311 : callable Tryz.prog 311 = true:=by kernel_rfl
theorem ca312 : callable Tryz.prog 312 = true:=by kernel_rfl
theorem ca313 : callable Tryz.prog 313 = true:=by kernel_rfl
theorem ca314 : callable Tryz.prog 314 = true:=by kernel_rfl
theorem ca315 : callable Tryz.prog 315 = true:=by kernel_rfl
theorem ca316 : callable Tryz.prog 316 = true:=by kernel_rfl
theorem ca317 : callable Tryz.prog 317 = true:=by kernel_rfl
theorem ca318 : callable Tryz.prog 318 = true:=by kernel_rfl
theorem ca319 : callable Tryz.prog 319 = true:=by kernel_rfl
theorem ca320 : callable Tryz.prog 320 = true:=by kernel_rfl
theorem ca321 : callable Tryz.prog 321 = true:=by kernel_rfl
theorem ca322 : callable Tryz.prog 322 = true:=by kernel_rfl
theorem ca323 : callable Tryz.prog 323 = true:=by kernel_rfl
theorem ca324 : callable Tryz.prog 324 = true:=by kernel_rfl
theorem ca343 : callable Tryz.prog 343 = true:=by kernel_rfl
theorem ca344 : callable Tryz.prog 344 = true:=by kernel_rfl
theorem ca345 : callable Tryz.prog 345 = true:=by kernel_rfl
theorem ca346 : callable Tryz.prog 346 = true:=by kernel_rfl
theorem ca349 : callable Tryz.prog 349 = true:=by kernel_rfl
theorem ca350 : callable Tryz.prog 350 = true:=by kernel_rfl
theorem ca351 : callable Tryz.prog 351 = true:=by kernel_rfl
theorem ca357 : callable Tryz.prog 357 = true:=by kernel_rfl
theorem ca362 : callable Tryz.prog 362 = true:=by kernel_rfl
theorem ca368 : callable Tryz.prog 368 = true:=by kernel_rfl
theorem ca369 : callable Tryz.prog 369 = true:=by kernel_rfl
theorem ca370 : callable Tryz.prog 370 = true:=by kernel_rfl
theorem ca371 : callable Tryz.prog 371 = true:=by kernel_rfl
theorem ca372 : callable Tryz.prog 372 = true:=by kernel_rfl
theorem ca373 : callable Tryz.prog 373 = true:=by kernel_rfl
theorem ca374 : callable Tryz.prog 374 = true:=by kernel_rfl
theorem ca375 : callable Tryz.prog 375 = true:=by kernel_rfl
theorem ca376 : callable Tryz.prog 376 = true:=by kernel_rfl
theorem ca377 : callable Tryz.prog 377 = true:=by kernel_rfl
theorem ca378 : callable Tryz.prog 378 = true:=by kernel_rfl
theorem ca379 : callable Tryz.prog 379 = true:=by kernel_rfl
theorem ca380 : callable Tryz.prog 380 = true:=by kernel_rfl
theorem ca382 : callable Tryz.prog 382 = true:=by kernel_rfl
theorem ca386 : callable Tryz.prog 386 = true:=by kernel_rfl
theorem ca395 : callable Tryz.prog 395 = true:=by kernel_rfl
theorem ca396 : callable Tryz.prog 396 = true:=by kernel_rfl
theorem ca397 : callable Tryz.prog 397 = true:=by kernel_rfl
theorem ca398 : callable Tryz.prog 398 = true:=by kernel_rfl
theorem ca399 : callable Tryz.prog 399 = true:=by kernel_rfl
theorem ca400 : callable Tryz.prog 400 = true:=by kernel_rfl
theorem ca401 : callable Tryz.prog 401 = true:=by kernel_rfl
theorem ca412 : callable Tryz.prog 412 = true:=by kernel_rfl
theorem ca427 : callable Tryz.prog 427 = true:=by kernel_rfl
theorem ca442 : callable Tryz.prog 442 = true:=by kernel_rfl
theorem ca446 : callable Tryz.prog 446 = true:=by kernel_rfl
theorem ca448 : callable Tryz.prog 448 = true:=by kernel_rfl
theorem ca469 : callable Tryz.prog 469 = true:=by kernel_rfl
theorem ca477 : callable Tryz.prog 477 = true:=by kernel_rfl
theorem ca478 : callable Tryz.prog 478 = true:=by kernel_rfl
theorem ca479 : callable Tryz.prog 479 = true:=by kernel_rfl
theorem ca494 : callable Tryz.prog 494 = true:=by kernel_rfl
theorem ca497 : callable Tryz.prog 497 = true:=by kernel_rfl
theorem foll : Tryz.prog.follows .mixedOrders = true:=by kernel_rfl
theorem laid : laidOutB Tryz.prog = true:=by kernel_rfl
theorem ownk : ownKnob Tryz.prog.godebug = none:=by kernel_rfl
def cf (N : Nat) (vs : List Nat) : Cfg:={ own:=fun _=>false,N:=N,vs:=vs }
end Go.Proofs.YtijlnkfiadajhaaGreat
/- The names of types, values and modules: what the program's and the model's functions answer. -/
set_option linter.unusedVariables false
set_option linter.unusedSimpArgs false
namespace Go.Proofs.YtijlnkfiadajhaaGreat
open Go.Abs
def localB (s : List UInt8) : Bool:=s.length == 1 && (decide (97 ≤ (s.getD 0 0).toNat) && decide ((s.getD 0 0).toNat ≤ 122))
def moduleB (s : List UInt8) : Bool:=(s.length == 1 && (decide (65 ≤ (s.getD 0 0).toNat) && decide ((s.getD 0 0).toNat ≤ 90))) && !decide (s = [73])
theorem local_no (s : List UInt8) (h : ¬ (s.length : Int) = 1) : localB s = false:=by
  have : s.length ≠ 1:=by omega
  simp [localB,this]
theorem local_lo (s : List UInt8) (h : ¬ (97 : Int) ≤ (s.getD 0 0).toNat) : localB s = false:=by
  have : ¬ 97 ≤ (s.getD 0 0).toNat:=by omega
  unfold localB; rw [decide_eq_false this]; simp
theorem local_hi (s : List UInt8) (h1 : (s.length : Int) = 1) (h : (97 : Int) ≤ (s.getD 0 0).toNat) : localB s = decide (((s.getD 0 0).toNat : Int) ≤ 122):=by
  have e1 : s.length = 1:=by omega
  have e2 : 97 ≤ (s.getD 0 0).toNat:=by omega
  unfold localB; rw [decide_eq_true e2,e1]
  rw [Bool.eq_iff_iff]; simp; omega
theorem module_no (s : List UInt8) (h : ¬ (s.length : Int) = 1) : moduleB s = false:=by
  have : s.length ≠ 1:=by omega
  simp [moduleB,this]
theorem module_lo (s : List UInt8) (h : ¬ (65 : Int) ≤ (s.getD 0 0).toNat) : moduleB s = false:=by
  have : ¬ 65 ≤ (s.getD 0 0).toNat:=by omega
  unfold moduleB; rw [decide_eq_false this]; simp
theorem module_up (s : List UInt8) (h : ¬ ((s.getD 0 0).toNat : Int) ≤ 90) : moduleB s = false:=by
  have : ¬ (s.getD 0 0).toNat ≤ 90:=by omega
  unfold moduleB; rw [decide_eq_false this]; simp
theorem module_hi (s : List UInt8) (h1 : (s.length : Int) = 1) (h : (65 : Int) ≤ (s.getD 0 0).toNat) (h2 : ((s.getD 0 0).toNat : Int) ≤ 90) : moduleB s = !decide (s = [73]):=by
  have e1 : s.length = 1:=by omega
  have e2 : 65 ≤ (s.getD 0 0).toNat:=by omega
  have e3 : (s.getD 0 0).toNat ≤ 90:=by omega
  unfold moduleB; rw [decide_eq_true e2,decide_eq_true e3,e1]; simp
set_option maxRecDepth 100000 in
theorem impl_LocalName (s : List UInt8) (A : List Box) : ACalls Tryz.prog 208 [.str s] A (fun v A'=>v = .bool (localB s) ∧ A' = A):=by
  refine acalls_enter (cf:=cf 16 [0,2]) foll Tryz.func208 Tryz.ntmps208 (by simp [cf]) ?_
  simp only [Tryz.f208,EnterK_some,zW,zX,zD,builtinA,isLeaf,const1,ustrA,simprocAttr,ti3,ti5,ti9,cf,Tryz.results208]
  repeat' first
    | (refine guardT_intro (fun h=>?_) (fun h=>?_) <;> (try simp only [decide_eq_true_eq,decide_eq_false_iff_not,Bool.not_eq_eq_eq_not,Bool.not_true,Bool.not_false] at h) <;> simp only [zW,zX,zD,builtinA,isLeaf,const1,ustrA,simprocAttr,ti3,ti5,ti9,cf,Tryz.results208,h])
    | (refine guardF_intro (fun h=>?_) (fun h=>?_) <;> (try simp only [decide_eq_true_eq,decide_eq_false_iff_not,Bool.not_eq_eq_eq_not,Bool.not_true,Bool.not_false] at h) <;> simp only [zW,zX,zD,builtinA,isLeaf,const1,ustrA,simprocAttr,ti3,ti5,ti9,cf,Tryz.results208,h])
    | (refine condK_intro (fun h=>?_) (fun h=>?_) <;> (try simp only [decide_eq_true_eq,decide_eq_false_iff_not,Bool.not_eq_eq_eq_not,Bool.not_true,Bool.not_false] at h) <;> simp only [zW,zX,zD,builtinA,isLeaf,const1,ustrA,simprocAttr,ti3,ti5,ti9,cf,Tryz.results208,h])
    | (refine guardDT_intro (fun h=>?_) (fun h=>?_) <;> (try simp only [decide_eq_true_eq,decide_eq_false_iff_not,Bool.not_eq_eq_eq_not,Bool.not_true,Bool.not_false] at h) <;> simp only [zW,zX,zD,builtinA,isLeaf,const1,ustrA,simprocAttr,ti3,ti5,ti9,cf,Tryz.results208,h])
    | (refine guardDF_intro (fun h=>?_) (fun h=>?_) <;> (try simp only [decide_eq_true_eq,decide_eq_false_iff_not,Bool.not_eq_eq_eq_not,Bool.not_true,Bool.not_false] at h) <;> simp only [zW,zX,zD,builtinA,isLeaf,const1,ustrA,simprocAttr,ti3,ti5,ti9,cf,Tryz.results208,h])
    | refine And.intro ?_ ?_
  · omega
  · rename_i h1
    rw [local_hi s h1 h]
  · rw [local_lo s ‹_›]
  · rw [local_no s ‹_›]
set_option maxRecDepth 100000 in
theorem spec_LocalName (s : List UInt8) (A : List Box) : ACalls Tryz.prog 204 [.str s] A (fun v A'=>v = .bool (localB s) ∧ A' = A):=by
  refine acalls_enter (cf:=cf 16 [0,2]) foll Tryz.func204 Tryz.ntmps204 (by simp [cf]) ?_
  simp only [Tryz.f204,EnterK_some,zW,zX,zD,builtinA,isLeaf,const1,ustrA,simprocAttr,ti3,ti5,ti9,cf,Tryz.results204]
  repeat' first
    | (refine guardT_intro (fun h=>?_) (fun h=>?_) <;> (try simp only [decide_eq_true_eq,decide_eq_false_iff_not,Bool.not_eq_eq_eq_not,Bool.not_true,Bool.not_false] at h) <;> simp only [zW,zX,zD,builtinA,isLeaf,const1,ustrA,simprocAttr,ti3,ti5,ti9,cf,Tryz.results204,h])
    | (refine guardF_intro (fun h=>?_) (fun h=>?_) <;> (try simp only [decide_eq_true_eq,decide_eq_false_iff_not,Bool.not_eq_eq_eq_not,Bool.not_true,Bool.not_false] at h) <;> simp only [zW,zX,zD,builtinA,isLeaf,const1,ustrA,simprocAttr,ti3,ti5,ti9,cf,Tryz.results204,h])
    | (refine condK_intro (fun h=>?_) (fun h=>?_) <;> (try simp only [decide_eq_true_eq,decide_eq_false_iff_not,Bool.not_eq_eq_eq_not,Bool.not_true,Bool.not_false] at h) <;> simp only [zW,zX,zD,builtinA,isLeaf,const1,ustrA,simprocAttr,ti3,ti5,ti9,cf,Tryz.results204,h])
    | (refine guardDT_intro (fun h=>?_) (fun h=>?_) <;> (try simp only [decide_eq_true_eq,decide_eq_false_iff_not,Bool.not_eq_eq_eq_not,Bool.not_true,Bool.not_false] at h) <;> simp only [zW,zX,zD,builtinA,isLeaf,const1,ustrA,simprocAttr,ti3,ti5,ti9,cf,Tryz.results204,h])
    | (refine guardDF_intro (fun h=>?_) (fun h=>?_) <;> (try simp only [decide_eq_true_eq,decide_eq_false_iff_not,Bool.not_eq_eq_eq_not,Bool.not_true,Bool.not_false] at h) <;> simp only [zW,zX,zD,builtinA,isLeaf,const1,ustrA,simprocAttr,ti3,ti5,ti9,cf,Tryz.results204,h])
    | refine And.intro ?_ ?_
  · omega
  · rename_i h1
    rw [local_hi s h1 h]
  · rw [local_lo s ‹_›]
  · rw [local_no s ‹_›]
set_option maxRecDepth 100000 in
theorem impl_ModuleName (s : List UInt8) (A : List Box) : ACalls Tryz.prog 75 [.str s] A (fun v A'=>v = .bool (moduleB s) ∧ A' = A):=by
  refine acalls_enter (cf:=cf 20 [0,2]) foll Tryz.func75 Tryz.ntmps75 (by simp [cf]) ?_
  simp only [Tryz.f75,EnterK_some,zW,zX,zD,builtinA,isLeaf,const1,ustrA,simprocAttr,ti3,ti5,ti9,cf,Tryz.results75]
  repeat' first
    | (refine guardT_intro (fun h=>?_) (fun h=>?_) <;> (try simp only [decide_eq_true_eq,decide_eq_false_iff_not,Bool.not_eq_eq_eq_not,Bool.not_true,Bool.not_false] at h) <;> simp only [zW,zX,zD,builtinA,isLeaf,const1,ustrA,simprocAttr,ti3,ti5,ti9,cf,Tryz.results75,h])
    | (refine guardF_intro (fun h=>?_) (fun h=>?_) <;> (try simp only [decide_eq_true_eq,decide_eq_false_iff_not,Bool.not_eq_eq_eq_not,Bool.not_true,Bool.not_false] at h) <;> simp only [zW,zX,zD,builtinA,isLeaf,const1,ustrA,simprocAttr,ti3,ti5,ti9,cf,Tryz.results75,h])
    | (refine condK_intro (fun h=>?_) (fun h=>?_) <;> (try simp only [decide_eq_true_eq,decide_eq_false_iff_not,Bool.not_eq_eq_eq_not,Bool.not_true,Bool.not_false] at h) <;> simp only [zW,zX,zD,builtinA,isLeaf,const1,ustrA,simprocAttr,ti3,ti5,ti9,cf,Tryz.results75,h])
    | (refine guardDT_intro (fun h=>?_) (fun h=>?_) <;> (try simp only [decide_eq_true_eq,decide_eq_false_iff_not,Bool.not_eq_eq_eq_not,Bool.not_true,Bool.not_false] at h) <;> simp only [zW,zX,zD,builtinA,isLeaf,const1,ustrA,simprocAttr,ti3,ti5,ti9,cf,Tryz.results75,h])
    | (refine guardDF_intro (fun h=>?_) (fun h=>?_) <;> (try simp only [decide_eq_true_eq,decide_eq_false_iff_not,Bool.not_eq_eq_eq_not,Bool.not_true,Bool.not_false] at h) <;> simp only [zW,zX,zD,builtinA,isLeaf,const1,ustrA,simprocAttr,ti3,ti5,ti9,cf,Tryz.results75,h])
    | refine And.intro ?_ ?_
  · omega
  · rename_i h1 h2
    rw [module_hi s h1 h2 h]
  · rw [module_up s ‹_›]
  · rw [module_lo s ‹_›]
  · rw [module_no s ‹_›]
set_option maxRecDepth 100000 in
theorem spec_ModuleName (s : List UInt8) (A : List Box) : ACalls Tryz.prog 63 [.str s] A (fun v A'=>v = .bool (moduleB s) ∧ A' = A):=by
  refine acalls_enter (cf:=cf 20 [0,2]) foll Tryz.func63 Tryz.ntmps63 (by simp [cf]) ?_
  simp only [Tryz.f63,EnterK_some,zW,zX,zD,builtinA,isLeaf,const1,ustrA,simprocAttr,ti3,ti5,ti9,cf,Tryz.results63]
  repeat' first
    | (refine guardT_intro (fun h=>?_) (fun h=>?_) <;> (try simp only [decide_eq_true_eq,decide_eq_false_iff_not,Bool.not_eq_eq_eq_not,Bool.not_true,Bool.not_false] at h) <;> simp only [zW,zX,zD,builtinA,isLeaf,const1,ustrA,simprocAttr,ti3,ti5,ti9,cf,Tryz.results63,h])
    | (refine guardF_intro (fun h=>?_) (fun h=>?_) <;> (try simp only [decide_eq_true_eq,decide_eq_false_iff_not,Bool.not_eq_eq_eq_not,Bool.not_true,Bool.not_false] at h) <;> simp only [zW,zX,zD,builtinA,isLeaf,const1,ustrA,simprocAttr,ti3,ti5,ti9,cf,Tryz.results63,h])
    | (refine condK_intro (fun h=>?_) (fun h=>?_) <;> (try simp only [decide_eq_true_eq,decide_eq_false_iff_not,Bool.not_eq_eq_eq_not,Bool.not_true,Bool.not_false] at h) <;> simp only [zW,zX,zD,builtinA,isLeaf,const1,ustrA,simprocAttr,ti3,ti5,ti9,cf,Tryz.results63,h])
    | (refine guardDT_intro (fun h=>?_) (fun h=>?_) <;> (try simp only [decide_eq_true_eq,decide_eq_false_iff_not,Bool.not_eq_eq_eq_not,Bool.not_true,Bool.not_false] at h) <;> simp only [zW,zX,zD,builtinA,isLeaf,const1,ustrA,simprocAttr,ti3,ti5,ti9,cf,Tryz.results63,h])
    | (refine guardDF_intro (fun h=>?_) (fun h=>?_) <;> (try simp only [decide_eq_true_eq,decide_eq_false_iff_not,Bool.not_eq_eq_eq_not,Bool.not_true,Bool.not_false] at h) <;> simp only [zW,zX,zD,builtinA,isLeaf,const1,ustrA,simprocAttr,ti3,ti5,ti9,cf,Tryz.results63,h])
    | refine And.intro ?_ ?_
  · omega
  · rename_i h1 h2
    rw [module_hi s h1 h2 h]
  · rw [module_up s ‹_›]
  · rw [module_lo s ‹_›]
  · rw [module_no s ‹_›]
set_option maxRecDepth 100000 in
theorem impl_validName (m n : List UInt8) (A : List Box) : ACalls Tryz.prog 252 [.str m,.str n] A (fun v A'=>v = .bool ((decide (m = []) || moduleB m) && localB n) ∧ A' = A):=by
  refine acalls_enter (cf:=cf 15 [0,1,4]) foll Tryz.func252 Tryz.ntmps252 (by simp [cf]) ?_
  simp only [Tryz.f252,EnterK_some,zW,zX,zD,builtinA,isLeaf,const1,ustrA,simprocAttr,ti9,ca75,ca208,cf,Tryz.results252]
  by_cases hm : m = []
  · simp only [zW,zX,zD,builtinA,isLeaf,const1,ustrA,simprocAttr,ti9,ca75,ca208,cf,Tryz.results252,decide_eq_true hm]
    refine callK_intro (by simp only [zW,zX,zD,builtinA,isLeaf,const1,ustrA,simprocAttr,Option.map_some]; rfl) (impl_LocalName n _) ?_ rfl; rintro v A' ⟨rfl,rfl⟩
    simp only [zW,zX,zD,builtinA,isLeaf,const1,ustrA,simprocAttr,ti9,ca75,ca208,cf,Tryz.results252]
  · simp only [zW,zX,zD,builtinA,isLeaf,const1,ustrA,simprocAttr,ti9,ca75,ca208,cf,Tryz.results252,decide_eq_false hm]
    refine callK_intro (by simp only [zW,zX,zD,builtinA,isLeaf,const1,ustrA,simprocAttr,Option.map_some]; rfl) (impl_ModuleName m _) ?_ rfl; rintro v A' ⟨rfl,rfl⟩
    cases hmm : moduleB m with
    | true =>
      simp only [zW,zX,zD,builtinA,isLeaf,const1,ustrA,simprocAttr,ti9,ca75,ca208,cf,Tryz.results252]
      refine callK_intro (by simp only [zW,zX,zD,builtinA,isLeaf,const1,ustrA,simprocAttr,Option.map_some]; rfl) (impl_LocalName n _) ?_ rfl; rintro v A' ⟨rfl,rfl⟩
      simp only [zW,zX,zD,builtinA,isLeaf,const1,ustrA,simprocAttr,ti9,ca75,ca208,cf,Tryz.results252]
    | false =>
      simp only [zW,zX,zD,builtinA,isLeaf,const1,ustrA,simprocAttr,ti9,ca75,ca208,cf,Tryz.results252]
end Go.Proofs.YtijlnkfiadajhaaGreat
