/- Facts of this translation. -/
import Derived.Test.YtebgneaehhaclaaGreatRows
import Derived.Test.YtebgneaehhaclaaGreatAbsW3
namespace Go.Proofs.YtebgneaehhaclaaGreat
open Go.Abs
theorem za231 : zagg Tryz.prog 231 = some [.str []] := by kernel_rfl
theorem za290 : zagg Tryz.prog 290 = some [.int .i64 0] := by kernel_rfl
theorem za292 : zagg Tryz.prog 292 = some [.str [], .str []] := by kernel_rfl
theorem za295 : zagg Tryz.prog 295 = some [.nili, .nili] := by kernel_rfl
theorem ks239 : keyS Tryz.prog 239 = some [(0, .bool), (1, .str)] := by kernel_rfl
theorem ks330 : keyS Tryz.prog 330 = some [(0, .ptr 54), (1, .int .i64)] := by kernel_rfl
theorem ks334 : keyS Tryz.prog 334 = some [(0, .ptr 51), (1, .int .i64)] := by kernel_rfl
theorem ks338 : keyS Tryz.prog 338 = some [(0, .ptr 69), (1, .int .i64)] := by kernel_rfl
theorem ks346 : keyS Tryz.prog 346 = some [(0, .ptr 127), (1, .int .i64)] := by kernel_rfl
theorem ks350 : keyS Tryz.prog 350 = some [(0, .ptr 124), (1, .int .i64)] := by kernel_rfl
theorem mi183 : mapStr Tryz.prog 183 = some (9, .bool false) := by kernel_rfl
theorem mi234 : mapInf Tryz.prog 234 = some (239, [(0, .bool), (1, .str)], 2, .bool false) := by kernel_rfl
theorem mi245 : mapInf Tryz.prog 245 = some (334, [(0, .ptr 51), (1, .int .i64)], 2, .agg [.nilp, .int .i64 0]) := by kernel_rfl
theorem mi249 : mapInf Tryz.prog 249 = some (350, [(0, .ptr 124), (1, .int .i64)], 2, .agg [.nilp, .int .i64 0]) := by kernel_rfl
theorem mi254 : mapInf Tryz.prog 254 = some (330, [(0, .ptr 54), (1, .int .i64)], 2, .agg [.nilp, .int .i64 0]) := by kernel_rfl
theorem mi258 : mapInf Tryz.prog 258 = some (346, [(0, .ptr 127), (1, .int .i64)], 2, .agg [.nilp, .int .i64 0]) := by kernel_rfl
theorem mi262 : mapInf Tryz.prog 262 = some (338, [(0, .ptr 69), (1, .int .i64)], 2, .agg [.nilp, .int .i64 0]) := by kernel_rfl
theorem mi307 : mapInf Tryz.prog 307 = some (237, [(0, .str), (1, .str)], 2, .nili) := by kernel_rfl
theorem ti3 : tinf Tryz.prog 3 = some { size := 1, bytes := 8, zero := some [.int .i64 0], kind := .int .i64 } := by kernel_rfl
theorem ti4 : tinf Tryz.prog 4 = some { size := 1, bytes := 1, zero := some [.bool false], kind := .bool } := by kernel_rfl
theorem ti5 : tinf Tryz.prog 5 = some { size := 1, bytes := 1, zero := some [.int .u8 0], kind := .int .u8 } := by kernel_rfl
theorem ti9 : tinf Tryz.prog 9 = some { size := 1, bytes := 16, zero := some [.str []], kind := .str } := by kernel_rfl
theorem ti22 : tinf Tryz.prog 22 = some { size := 1, bytes := 24, zero := some [.nils], kind := .slice 107 } := by kernel_rfl
theorem ti23 : tinf Tryz.prog 23 = some { size := 1, bytes := 24, zero := some [.nils], kind := .slice 118 } := by kernel_rfl
theorem ti24 : tinf Tryz.prog 24 = some { size := 1, bytes := 24, zero := some [.nils], kind := .slice 121 } := by kernel_rfl
theorem ti26 : tinf Tryz.prog 26 = some { size := 4, bytes := 88, zero := some [.str [], .nils, .nils, .nils], kind := .struct [(0, 9, 1), (1, 22, 1), (2, 23, 1), (3, 24, 1)] } := by kernel_rfl
theorem ti29 : tinf Tryz.prog 29 = some { size := 1, bytes := 24, zero := some [.nils], kind := .slice 69 } := by kernel_rfl
theorem ti30 : tinf Tryz.prog 30 = some { size := 1, bytes := 24, zero := some [.nils], kind := .slice 127 } := by kernel_rfl
theorem ti31 : tinf Tryz.prog 31 = some { size := 1, bytes := 24, zero := some [.nils], kind := .slice 124 } := by kernel_rfl
theorem ti33 : tinf Tryz.prog 33 = some { size := 4, bytes := 88, zero := some [.str [], .nils, .nils, .nils], kind := .struct [(0, 9, 1), (1, 29, 1), (2, 30, 1), (3, 31, 1)] } := by kernel_rfl
theorem ti37 : tinf Tryz.prog 37 = some { size := 1, bytes := 24, zero := some [.nils], kind := .slice 144 } := by kernel_rfl
theorem ti38 : tinf Tryz.prog 38 = some { size := 1, bytes := 24, zero := some [.nils], kind := .slice 40 } := by kernel_rfl
theorem ti40 : tinf Tryz.prog 40 = some { size := 4, bytes := 64, zero := some [.int .i64 0, .str [], .str [], .nils], kind := .struct [(0, 3, 1), (1, 9, 1), (2, 9, 1), (3, 38, 1)] } := by kernel_rfl
theorem ti41 : tinf Tryz.prog 41 = some { size := 1, bytes := 24, zero := some [.nils], kind := .slice 43 } := by kernel_rfl
theorem ti43 : tinf Tryz.prog 43 = some { size := 9, bytes := 136, zero := some [.int .i64 0, .int .i64 0, .str [], .str [], .int .i64 0, .str [], .str [], .nils, .nils], kind := .struct [(0, 3, 1), (1, 3, 1), (2, 9, 1), (3, 9, 1), (4, 40, 4), (8, 41, 1)] } := by kernel_rfl
theorem ti45 : tinf Tryz.prog 45 = some { size := 10, bytes := 160, zero := some [.nils, .int .i64 0, .int .i64 0, .str [], .str [], .int .i64 0, .str [], .str [], .nils, .nils], kind := .struct [(0, 37, 1), (1, 43, 9)] } := by kernel_rfl
theorem ti48 : tinf Tryz.prog 48 = some { size := 1, bytes := 24, zero := some [.nils], kind := .slice 91 } := by kernel_rfl
theorem ti49 : tinf Tryz.prog 49 = some { size := 1, bytes := 24, zero := some [.nils], kind := .slice 51 } := by kernel_rfl
theorem ti51 : tinf Tryz.prog 51 = some { size := 4, bytes := 64, zero := some [.int .i64 0, .str [], .str [], .nils], kind := .struct [(0, 3, 1), (1, 9, 1), (2, 9, 1), (3, 49, 1)] } := by kernel_rfl
theorem ti52 : tinf Tryz.prog 52 = some { size := 1, bytes := 24, zero := some [.nils], kind := .slice 54 } := by kernel_rfl
theorem ti54 : tinf Tryz.prog 54 = some { size := 9, bytes := 136, zero := some [.int .i64 0, .int .i64 0, .str [], .str [], .int .i64 0, .str [], .str [], .nils, .nils], kind := .struct [(0, 3, 1), (1, 3, 1), (2, 9, 1), (3, 9, 1), (4, 51, 4), (8, 52, 1)] } := by kernel_rfl
theorem ti56 : tinf Tryz.prog 56 = some { size := 10, bytes := 160, zero := some [.nils, .int .i64 0, .int .i64 0, .str [], .str [], .int .i64 0, .str [], .str [], .nils, .nils], kind := .struct [(0, 48, 1), (1, 54, 9)] } := by kernel_rfl
theorem ti69 : tinf Tryz.prog 69 = some { size := 2, bytes := 40, zero := some [.str [], .nils], kind := .struct [(0, 9, 1), (1, 31, 1)] } := by kernel_rfl
theorem ti75 : tinf Tryz.prog 75 = some { size := 1, bytes := 24, zero := some [.nils], kind := .slice 133 } := by kernel_rfl
theorem ti76 : tinf Tryz.prog 76 = some { size := 1, bytes := 24, zero := some [.nils], kind := .slice 176 } := by kernel_rfl
theorem ti77 : tinf Tryz.prog 77 = some { size := 1, bytes := 24, zero := some [.nils], kind := .slice 176 } := by kernel_rfl
theorem ti78 : tinf Tryz.prog 78 = some { size := 1, bytes := 24, zero := some [.nils], kind := .slice 181 } := by kernel_rfl
theorem ti79 : tinf Tryz.prog 79 = some { size := 1, bytes := 24, zero := some [.nils], kind := .slice 181 } := by kernel_rfl
theorem ti81 : tinf Tryz.prog 81 = some { size := 4, bytes := 88, zero := some [.str [], .nils, .nils, .nils], kind := .struct [(0, 9, 1), (1, 75, 1), (2, 77, 1), (3, 79, 1)] } := by kernel_rfl
theorem ti89 : tinf Tryz.prog 89 = some { size := 1, bytes := 24, zero := some [.nils], kind := .slice 9 } := by kernel_rfl
theorem ti91 : tinf Tryz.prog 91 = some { size := 7, bytes := 144, zero := some [.str [], .nils, .nils, .nils, .str [], .str [], .nils], kind := .struct [(0, 33, 4), (4, 9, 1), (5, 9, 1), (6, 89, 1)] } := by kernel_rfl
theorem ti96 : tinf Tryz.prog 96 = some { size := 1, bytes := 24, zero := some [.nils], kind := .slice 155 } := by kernel_rfl
theorem ti98 : tinf Tryz.prog 98 = some { size := 1, bytes := 16, zero := some [.nili], kind := .iface } := by kernel_rfl
theorem ti100 : tinf Tryz.prog 100 = some { size := 2, bytes := 40, zero := some [.nils, .nili], kind := .struct [(0, 96, 1), (1, 98, 1)] } := by kernel_rfl
theorem ti104 : tinf Tryz.prog 104 = some { size := 1, bytes := 8, zero := some [.nilf], kind := .func } := by kernel_rfl
theorem ti107 : tinf Tryz.prog 107 = some { size := 2, bytes := 40, zero := some [.str [], .nils], kind := .struct [(0, 9, 1), (1, 24, 1)] } := by kernel_rfl
theorem ti110 : tinf Tryz.prog 110 = some { size := 1, bytes := 8, zero := some [.nilp], kind := .ptr 313 } := by kernel_rfl
theorem ti112 : tinf Tryz.prog 112 = some { size := 2, bytes := 16, zero := some [.nilp, .int .i64 0], kind := .struct [(0, 110, 1), (1, 3, 1)] } := by kernel_rfl
theorem ti118 : tinf Tryz.prog 118 = some { size := 15, bytes := 224, zero := some [.int .i64 0, .str [], .int .i64 0, .str [], .str [], .nils, .int .i64 0, .int .i64 0, .str [], .str [], .int .i64 0, .str [], .str [], .nils, .nils], kind := .struct [(0, 3, 1), (1, 9, 1), (2, 40, 4), (6, 43, 9)] } := by kernel_rfl
theorem ti121 : tinf Tryz.prog 121 = some { size := 6, bytes := 88, zero := some [.int .i64 0, .str [], .int .i64 0, .str [], .str [], .nils], kind := .struct [(0, 3, 1), (1, 9, 1), (2, 40, 4)] } := by kernel_rfl
theorem ti124 : tinf Tryz.prog 124 = some { size := 6, bytes := 88, zero := some [.int .i64 0, .str [], .int .i64 0, .str [], .str [], .nils], kind := .struct [(0, 3, 1), (1, 9, 1), (2, 51, 4)] } := by kernel_rfl
theorem ti127 : tinf Tryz.prog 127 = some { size := 15, bytes := 224, zero := some [.int .i64 0, .str [], .int .i64 0, .str [], .str [], .nils, .int .i64 0, .int .i64 0, .str [], .str [], .int .i64 0, .str [], .str [], .nils, .nils], kind := .struct [(0, 3, 1), (1, 9, 1), (2, 51, 4), (6, 54, 9)] } := by kernel_rfl
theorem ti133 : tinf Tryz.prog 133 = some { size := 2, bytes := 40, zero := some [.str [], .nils], kind := .struct [(0, 9, 1), (1, 79, 1)] } := by kernel_rfl
theorem ti144 : tinf Tryz.prog 144 = some { size := 7, bytes := 144, zero := some [.str [], .nils, .nils, .nils, .str [], .str [], .nils], kind := .struct [(0, 26, 4), (4, 9, 1), (5, 9, 1), (6, 89, 1)] } := by kernel_rfl
theorem ti155 : tinf Tryz.prog 155 = some { size := 1, bytes := 16, zero := some [.nili], kind := .iface } := by kernel_rfl
theorem ti160 : tinf Tryz.prog 160 = some { size := 1, bytes := 8, zero := some [.nilf], kind := .func } := by kernel_rfl
theorem ti176 : tinf Tryz.prog 176 = some { size := 1, bytes := 16, zero := some [.nili], kind := .iface } := by kernel_rfl
theorem ti181 : tinf Tryz.prog 181 = some { size := 1, bytes := 16, zero := some [.nili], kind := .iface } := by kernel_rfl
theorem ti183 : tinf Tryz.prog 183 = some { size := 1, bytes := 8, zero := some [.nilm], kind := .map 9 4 } := by kernel_rfl
theorem ti192 : tinf Tryz.prog 192 = some { size := 4, bytes := 88, zero := some [.str [], .nils, .nils, .nils], kind := .struct [(0, 81, 4)] } := by kernel_rfl
theorem ti197 : tinf Tryz.prog 197 = some { size := 3, bytes := 56, zero := some [.str [], .str [], .nils], kind := .struct [(0, 9, 1), (1, 9, 1), (2, 89, 1)] } := by kernel_rfl
theorem ti198 : tinf Tryz.prog 198 = some { size := 1, bytes := 8, zero := some [.int .i64 0], kind := .int .i64 } := by kernel_rfl
theorem ti200 : tinf Tryz.prog 200 = some { size := 1, bytes := 8, zero := some [.int .i64 0], kind := .struct [(0, 198, 1)] } := by kernel_rfl
theorem ti207 : tinf Tryz.prog 207 = some { size := 1, bytes := 24, zero := some [.nils], kind := .slice 276 } := by kernel_rfl
theorem ti219 : tinf Tryz.prog 219 = some { size := 1, bytes := 16, zero := some [.nili], kind := .iface } := by kernel_rfl
theorem ti223 : tinf Tryz.prog 223 = some { size := 2, bytes := 32, zero := some [.str [], .nili], kind := .struct [(0, 9, 1), (1, 219, 1)] } := by kernel_rfl
theorem ti225 : tinf Tryz.prog 225 = some { size := 2, bytes := 32, zero := some [.str [], .nili], kind := .struct [(0, 9, 1), (1, 98, 1)] } := by kernel_rfl
theorem ti227 : tinf Tryz.prog 227 = some { size := 2, bytes := 16, zero := some [.nilm, .nilm], kind := .struct [(0, 183, 1), (1, 183, 1)] } := by kernel_rfl
theorem ti231 : tinf Tryz.prog 231 = some { size := 1, bytes := 16, zero := some [.str []], kind := .struct [(0, 9, 1)] } := by kernel_rfl
theorem ti232 : tinf Tryz.prog 232 = some { size := 2, bytes := 32, zero := some [.str [], .nili], kind := .struct [(0, 9, 1), (1, 219, 1)] } := by kernel_rfl
theorem ti233 : tinf Tryz.prog 233 = some { size := 2, bytes := 32, zero := some [.str [], .nili], kind := .struct [(0, 9, 1), (1, 219, 1)] } := by kernel_rfl
theorem ti234 : tinf Tryz.prog 234 = some { size := 1, bytes := 8, zero := some [.nilm], kind := .map 239 4 } := by kernel_rfl
theorem ti237 : tinf Tryz.prog 237 = some { size := 2, bytes := 32, zero := some [.str [], .str []], kind := .struct [(0, 9, 1), (1, 9, 1)] } := by kernel_rfl
theorem ti239 : tinf Tryz.prog 239 = some { size := 2, bytes := 24, zero := some [.bool false, .str []], kind := .struct [(0, 4, 1), (1, 9, 1)] } := by kernel_rfl
theorem ti243 : tinf Tryz.prog 243 = some { size := 1, bytes := 8, zero := some [.nilf], kind := .func } := by kernel_rfl
theorem ti245 : tinf Tryz.prog 245 = some { size := 1, bytes := 8, zero := some [.nilm], kind := .map 334 334 } := by kernel_rfl
theorem ti247 : tinf Tryz.prog 247 = some { size := 3, bytes := 24, zero := some [.nilf, .nilf, .nilm], kind := .struct [(0, 243, 1), (1, 160, 1), (2, 245, 1)] } := by kernel_rfl
theorem ti249 : tinf Tryz.prog 249 = some { size := 1, bytes := 8, zero := some [.nilm], kind := .map 350 350 } := by kernel_rfl
theorem ti251 : tinf Tryz.prog 251 = some { size := 4, bytes := 32, zero := some [.nilf, .nilf, .nilm, .nilm], kind := .struct [(0, 247, 3), (3, 249, 1)] } := by kernel_rfl
theorem ti252 : tinf Tryz.prog 252 = some { size := 1, bytes := 8, zero := some [.nilf], kind := .func } := by kernel_rfl
theorem ti254 : tinf Tryz.prog 254 = some { size := 1, bytes := 8, zero := some [.nilm], kind := .map 330 330 } := by kernel_rfl
theorem ti256 : tinf Tryz.prog 256 = some { size := 3, bytes := 24, zero := some [.nilf, .nilf, .nilm], kind := .struct [(0, 252, 1), (1, 104, 1), (2, 254, 1)] } := by kernel_rfl
theorem ti258 : tinf Tryz.prog 258 = some { size := 1, bytes := 8, zero := some [.nilm], kind := .map 346 346 } := by kernel_rfl
theorem ti260 : tinf Tryz.prog 260 = some { size := 7, bytes := 56, zero := some [.nilf, .nilf, .nilm, .nilf, .nilf, .nilm, .nilm], kind := .struct [(0, 247, 3), (3, 256, 3), (6, 258, 1)] } := by kernel_rfl
theorem ti262 : tinf Tryz.prog 262 = some { size := 1, bytes := 8, zero := some [.nilm], kind := .map 338 338 } := by kernel_rfl
theorem ti264 : tinf Tryz.prog 264 = some { size := 12, bytes := 96, zero := some [.nilf, .nilf, .nilm, .nilm, .nilf, .nilf, .nilm, .nilf, .nilf, .nilm, .nilm, .nilm], kind := .struct [(0, 251, 4), (4, 260, 7), (11, 262, 1)] } := by kernel_rfl
theorem ti266 : tinf Tryz.prog 266 = some { size := 1, bytes := 8, zero := some [.nilp], kind := .ptr 200 } := by kernel_rfl
theorem ti268 : tinf Tryz.prog 268 = some { size := 1, bytes := 24, zero := some [.nils], kind := .slice 98 } := by kernel_rfl
theorem ti276 : tinf Tryz.prog 276 = some { size := 6, bytes := 96, zero := some [.str [], .str [], .int .i64 0, .str [], .str [], .nils], kind := .struct [(0, 9, 1), (1, 9, 1), (2, 51, 4)] } := by kernel_rfl
theorem ti290 : tinf Tryz.prog 290 = some { size := 1, bytes := 8, zero := some [.int .i64 0], kind := .struct [(0, 3, 1)] } := by kernel_rfl
theorem ti291 : tinf Tryz.prog 291 = some { size := 1, bytes := 8, zero := some [.int .i64 0], kind := .struct [(0, 3, 1)] } := by kernel_rfl
theorem ti292 : tinf Tryz.prog 292 = some { size := 2, bytes := 32, zero := some [.str [], .str []], kind := .struct [(0, 9, 1), (1, 9, 1)] } := by kernel_rfl
theorem ti295 : tinf Tryz.prog 295 = some { size := 2, bytes := 32, zero := some [.nili, .nili], kind := .struct [(0, 219, 1), (1, 98, 1)] } := by kernel_rfl
theorem ti297 : tinf Tryz.prog 297 = some { size := 2, bytes := 32, zero := some [.nili, .nili], kind := .struct [(0, 98, 1), (1, 98, 1)] } := by kernel_rfl
theorem ti299 : tinf Tryz.prog 299 = some { size := 2, bytes := 32, zero := some [.nili, .nili], kind := .struct [(0, 98, 1), (1, 98, 1)] } := by kernel_rfl
theorem ti301 : tinf Tryz.prog 301 = some { size := 3, bytes := 48, zero := some [.nili, .nili, .nili], kind := .struct [(0, 98, 1), (1, 98, 1), (2, 98, 1)] } := by kernel_rfl
theorem ti307 : tinf Tryz.prog 307 = some { size := 1, bytes := 8, zero := some [.nilm], kind := .map 237 219 } := by kernel_rfl
theorem ti313 : tinf Tryz.prog 313 = some { size := 3, bytes := 48, zero := some [.str [], .nils, .nilp], kind := .struct [(0, 9, 1), (1, 79, 1), (2, 110, 1)] } := by kernel_rfl
theorem ti315 : tinf Tryz.prog 315 = some { size := 0, bytes := 0, zero := some [], kind := .struct [] } := by kernel_rfl
theorem ti318 : tinf Tryz.prog 318 = some { size := 2, bytes := 48, zero := some [.nils, .nils], kind := .struct [(0, 52, 1), (1, 52, 1)] } := by kernel_rfl
theorem ti319 : tinf Tryz.prog 319 = some { size := 1, bytes := 24, zero := some [.nils], kind := .slice 318 } := by kernel_rfl
theorem ti321 : tinf Tryz.prog 321 = some { size := 2, bytes := 48, zero := some [.nils, .nils], kind := .struct [(0, 49, 1), (1, 49, 1)] } := by kernel_rfl
theorem ti322 : tinf Tryz.prog 322 = some { size := 1, bytes := 24, zero := some [.nils], kind := .slice 321 } := by kernel_rfl
theorem ti327 : tinf Tryz.prog 327 = some { size := 2, bytes := 32, zero := some [.nili, .nili], kind := .struct [(0, 219, 1), (1, 219, 1)] } := by kernel_rfl
theorem ti330 : tinf Tryz.prog 330 = some { size := 2, bytes := 16, zero := some [.nilp, .int .i64 0], kind := .struct [(0, 328, 1), (1, 3, 1)] } := by kernel_rfl
theorem ti334 : tinf Tryz.prog 334 = some { size := 2, bytes := 16, zero := some [.nilp, .int .i64 0], kind := .struct [(0, 332, 1), (1, 3, 1)] } := by kernel_rfl
theorem ti338 : tinf Tryz.prog 338 = some { size := 2, bytes := 16, zero := some [.nilp, .int .i64 0], kind := .struct [(0, 336, 1), (1, 3, 1)] } := by kernel_rfl
theorem ti346 : tinf Tryz.prog 346 = some { size := 2, bytes := 16, zero := some [.nilp, .int .i64 0], kind := .struct [(0, 344, 1), (1, 3, 1)] } := by kernel_rfl
theorem ti350 : tinf Tryz.prog 350 = some { size := 2, bytes := 16, zero := some [.nilp, .int .i64 0], kind := .struct [(0, 348, 1), (1, 3, 1)] } := by kernel_rfl
theorem ca6 : callable Tryz.prog 6 = true := by kernel_rfl
theorem ca7 : callable Tryz.prog 7 = true := by kernel_rfl
theorem ca8 : callable Tryz.prog 8 = true := by kernel_rfl
theorem ca9 : callable Tryz.prog 9 = true := by kernel_rfl
theorem ca10 : callable Tryz.prog 10 = true := by kernel_rfl
theorem ca11 : callable Tryz.prog 11 = true := by kernel_rfl
theorem ca12 : callable Tryz.prog 12 = true := by kernel_rfl
theorem ca13 : callable Tryz.prog 13 = true := by kernel_rfl
theorem ca14 : callable Tryz.prog 14 = true := by kernel_rfl
theorem ca15 : callable Tryz.prog 15 = true := by kernel_rfl
theorem ca16 : callable Tryz.prog 16 = true := by kernel_rfl
theorem ca17 : callable Tryz.prog 17 = true := by kernel_rfl
theorem ca18 : callable Tryz.prog 18 = true := by kernel_rfl
theorem ca19 : callable Tryz.prog 19 = true := by kernel_rfl
theorem ca20 : callable Tryz.prog 20 = true := by kernel_rfl
theorem ca21 : callable Tryz.prog 21 = true := by kernel_rfl
theorem ca22 : callable Tryz.prog 22 = true := by kernel_rfl
theorem ca23 : callable Tryz.prog 23 = true := by kernel_rfl
theorem ca24 : callable Tryz.prog 24 = true := by kernel_rfl
theorem ca25 : callable Tryz.prog 25 = true := by kernel_rfl
theorem ca26 : callable Tryz.prog 26 = true := by kernel_rfl
theorem ca27 : callable Tryz.prog 27 = true := by kernel_rfl
theorem ca28 : callable Tryz.prog 28 = true := by kernel_rfl
theorem ca29 : callable Tryz.prog 29 = true := by kernel_rfl
theorem ca30 : callable Tryz.prog 30 = true := by kernel_rfl
theorem ca31 : callable Tryz.prog 31 = true := by kernel_rfl
theorem ca32 : callable Tryz.prog 32 = true := by kernel_rfl
theorem ca33 : callable Tryz.prog 33 = true := by kernel_rfl
theorem ca34 : callable Tryz.prog 34 = true := by kernel_rfl
theorem ca35 : callable Tryz.prog 35 = true := by kernel_rfl
theorem ca36 : callable Tryz.prog 36 = true := by kernel_rfl
theorem ca37 : callable Tryz.prog 37 = true := by kernel_rfl
theorem ca38 : callable Tryz.prog 38 = true := by kernel_rfl
theorem ca39 : callable Tryz.prog 39 = true := by kernel_rfl
theorem ca40 : callable Tryz.prog 40 = true := by kernel_rfl
theorem ca41 : callable Tryz.prog 41 = true := by kernel_rfl
theorem ca42 : callable Tryz.prog 42 = true := by kernel_rfl
theorem ca43 : callable Tryz.prog 43 = true := by kernel_rfl
theorem ca44 : callable Tryz.prog 44 = true := by kernel_rfl
theorem ca45 : callable Tryz.prog 45 = true := by kernel_rfl
theorem ca46 : callable Tryz.prog 46 = true := by kernel_rfl
theorem ca47 : callable Tryz.prog 47 = true := by kernel_rfl
theorem ca48 : callable Tryz.prog 48 = true := by kernel_rfl
theorem ca49 : callable Tryz.prog 49 = true := by kernel_rfl
theorem ca50 : callable Tryz.prog 50 = true := by kernel_rfl
theorem ca51 : callable Tryz.prog 51 = true := by kernel_rfl
theorem ca52 : callable Tryz.prog 52 = true := by kernel_rfl
theorem ca53 : callable Tryz.prog 53 = true := by kernel_rfl
theorem ca55 : callable Tryz.prog 55 = true := by kernel_rfl
theorem ca56 : callable Tryz.prog 56 = true := by kernel_rfl
theorem ca57 : callable Tryz.prog 57 = true := by kernel_rfl
theorem ca58 : callable Tryz.prog 58 = true := by kernel_rfl
theorem ca59 : callable Tryz.prog 59 = true := by kernel_rfl
theorem ca60 : callable Tryz.prog 60 = true := by kernel_rfl
theorem ca61 : callable Tryz.prog 61 = true := by kernel_rfl
theorem ca62 : callable Tryz.prog 62 = true := by kernel_rfl
theorem ca63 : callable Tryz.prog 63 = true := by kernel_rfl
theorem ca64 : callable Tryz.prog 64 = true := by kernel_rfl
theorem ca65 : callable Tryz.prog 65 = true := by kernel_rfl
theorem ca66 : callable Tryz.prog 66 = true := by kernel_rfl
theorem ca67 : callable Tryz.prog 67 = true := by kernel_rfl
theorem ca68 : callable Tryz.prog 68 = true := by kernel_rfl
theorem ca69 : callable Tryz.prog 69 = true := by kernel_rfl
theorem ca70 : callable Tryz.prog 70 = true := by kernel_rfl
theorem ca71 : callable Tryz.prog 71 = true := by kernel_rfl
theorem ca73 : callable Tryz.prog 73 = true := by kernel_rfl
theorem ca74 : callable Tryz.prog 74 = true := by kernel_rfl
theorem ca75 : callable Tryz.prog 75 = true := by kernel_rfl
theorem ca76 : callable Tryz.prog 76 = true := by kernel_rfl
theorem ca77 : callable Tryz.prog 77 = true := by kernel_rfl
theorem ca78 : callable Tryz.prog 78 = true := by kernel_rfl
theorem ca79 : callable Tryz.prog 79 = true := by kernel_rfl
theorem ca80 : callable Tryz.prog 80 = true := by kernel_rfl
theorem ca81 : callable Tryz.prog 81 = true := by kernel_rfl
theorem ca82 : callable Tryz.prog 82 = true := by kernel_rfl
theorem ca83 : callable Tryz.prog 83 = true := by kernel_rfl
theorem ca84 : callable Tryz.prog 84 = true := by kernel_rfl
theorem ca85 : callable Tryz.prog 85 = true := by kernel_rfl
theorem ca86 : callable Tryz.prog 86 = true := by kernel_rfl
theorem ca87 : callable Tryz.prog 87 = true := by kernel_rfl
theorem ca88 : callable Tryz.prog 88 = true := by kernel_rfl
theorem ca89 : callable Tryz.prog 89 = true := by kernel_rfl
theorem ca90 : callable Tryz.prog 90 = true := by kernel_rfl
theorem ca91 : callable Tryz.prog 91 = true := by kernel_rfl
theorem ca93 : callable Tryz.prog 93 = true := by kernel_rfl
theorem ca94 : callable Tryz.prog 94 = true := by kernel_rfl
theorem ca96 : callable Tryz.prog 96 = true := by kernel_rfl
theorem ca97 : callable Tryz.prog 97 = true := by kernel_rfl
theorem ca98 : callable Tryz.prog 98 = true := by kernel_rfl
theorem ca99 : callable Tryz.prog 99 = true := by kernel_rfl
theorem ca100 : callable Tryz.prog 100 = true := by kernel_rfl
theorem ca101 : callable Tryz.prog 101 = true := by kernel_rfl
theorem ca102 : callable Tryz.prog 102 = true := by kernel_rfl
theorem ca103 : callable Tryz.prog 103 = true := by kernel_rfl
theorem ca104 : callable Tryz.prog 104 = true := by kernel_rfl
theorem ca106 : callable Tryz.prog 106 = true := by kernel_rfl
theorem ca107 : callable Tryz.prog 107 = true := by kernel_rfl
theorem ca108 : callable Tryz.prog 108 = true := by kernel_rfl
theorem ca109 : callable Tryz.prog 109 = true := by kernel_rfl
theorem ca110 : callable Tryz.prog 110 = true := by kernel_rfl
theorem ca111 : callable Tryz.prog 111 = true := by kernel_rfl
theorem ca112 : callable Tryz.prog 112 = true := by kernel_rfl
theorem ca113 : callable Tryz.prog 113 = true := by kernel_rfl
theorem ca114 : callable Tryz.prog 114 = true := by kernel_rfl
theorem ca115 : callable Tryz.prog 115 = true := by kernel_rfl
theorem ca116 : callable Tryz.prog 116 = true := by kernel_rfl
theorem ca117 : callable Tryz.prog 117 = true := by kernel_rfl
theorem ca118 : callable Tryz.prog 118 = true := by kernel_rfl
theorem ca119 : callable Tryz.prog 119 = true := by kernel_rfl
theorem ca120 : callable Tryz.prog 120 = true := by kernel_rfl
theorem ca121 : callable Tryz.prog 121 = true := by kernel_rfl
theorem ca122 : callable Tryz.prog 122 = true := by kernel_rfl
theorem ca123 : callable Tryz.prog 123 = true := by kernel_rfl
theorem ca124 : callable Tryz.prog 124 = true := by kernel_rfl
theorem ca126 : callable Tryz.prog 126 = true := by kernel_rfl
theorem ca127 : callable Tryz.prog 127 = true := by kernel_rfl
theorem ca128 : callable Tryz.prog 128 = true := by kernel_rfl
theorem ca129 : callable Tryz.prog 129 = true := by kernel_rfl
theorem ca130 : callable Tryz.prog 130 = true := by kernel_rfl
theorem ca131 : callable Tryz.prog 131 = true := by kernel_rfl
theorem ca133 : callable Tryz.prog 133 = true := by kernel_rfl
theorem ca134 : callable Tryz.prog 134 = true := by kernel_rfl
theorem ca135 : callable Tryz.prog 135 = true := by kernel_rfl
theorem ca136 : callable Tryz.prog 136 = true := by kernel_rfl
theorem ca137 : callable Tryz.prog 137 = true := by kernel_rfl
theorem ca138 : callable Tryz.prog 138 = true := by kernel_rfl
theorem ca139 : callable Tryz.prog 139 = true := by kernel_rfl
theorem ca140 : callable Tryz.prog 140 = true := by kernel_rfl
theorem ca141 : callable Tryz.prog 141 = true := by kernel_rfl
theorem ca142 : callable Tryz.prog 142 = true := by kernel_rfl
theorem ca143 : callable Tryz.prog 143 = true := by kernel_rfl
theorem ca144 : callable Tryz.prog 144 = true := by kernel_rfl
theorem ca145 : callable Tryz.prog 145 = true := by kernel_rfl
theorem ca146 : callable Tryz.prog 146 = true := by kernel_rfl
theorem ca147 : callable Tryz.prog 147 = true := by kernel_rfl
theorem ca148 : callable Tryz.prog 148 = true := by kernel_rfl
theorem ca149 : callable Tryz.prog 149 = true := by kernel_rfl
theorem ca150 : callable Tryz.prog 150 = true := by kernel_rfl
theorem ca151 : callable Tryz.prog 151 = true := by kernel_rfl
theorem ca152 : callable Tryz.prog 152 = true := by kernel_rfl
theorem ca153 : callable Tryz.prog 153 = true := by kernel_rfl
theorem ca155 : callable Tryz.prog 155 = true := by kernel_rfl
theorem ca156 : callable Tryz.prog 156 = true := by kernel_rfl
theorem ca157 : callable Tryz.prog 157 = true := by kernel_rfl
theorem ca158 : callable Tryz.prog 158 = true := by kernel_rfl
theorem ca160 : callable Tryz.prog 160 = true := by kernel_rfl
theorem ca161 : callable Tryz.prog 161 = true := by kernel_rfl
theorem ca163 : callable Tryz.prog 163 = true := by kernel_rfl
theorem ca168 : callable Tryz.prog 168 = true := by kernel_rfl
theorem ca169 : callable Tryz.prog 169 = true := by kernel_rfl
theorem ca170 : callable Tryz.prog 170 = true := by kernel_rfl
theorem ca171 : callable Tryz.prog 171 = true := by kernel_rfl
theorem ca172 : callable Tryz.prog 172 = true := by kernel_rfl
theorem ca174 : callable Tryz.prog 174 = true := by kernel_rfl
theorem ca176 : callable Tryz.prog 176 = true := by kernel_rfl
theorem ca177 : callable Tryz.prog 177 = true := by kernel_rfl
theorem ca178 : callable Tryz.prog 178 = true := by kernel_rfl
theorem ca179 : callable Tryz.prog 179 = true := by kernel_rfl
theorem ca180 : callable Tryz.prog 180 = true := by kernel_rfl
theorem ca181 : callable Tryz.prog 181 = true := by kernel_rfl
theorem ca182 : callable Tryz.prog 182 = true := by kernel_rfl
theorem ca183 : callable Tryz.prog 183 = true := by kernel_rfl
theorem ca184 : callable Tryz.prog 184 = true := by kernel_rfl
theorem ca185 : callable Tryz.prog 185 = true := by kernel_rfl
theorem ca186 : callable Tryz.prog 186 = true := by kernel_rfl
theorem ca187 : callable Tryz.prog 187 = true := by kernel_rfl
theorem ca188 : callable Tryz.prog 188 = true := by kernel_rfl
theorem ca221 : callable Tryz.prog 221 = true := by kernel_rfl
theorem ca227 : callable Tryz.prog 227 = true := by kernel_rfl
theorem ca228 : callable Tryz.prog 228 = true := by kernel_rfl
theorem ca229 : callable Tryz.prog 229 = true := by kernel_rfl
theorem ca230 : callable Tryz.prog 230 = true := by kernel_rfl
theorem foll : Tryz.prog.follows .mixedOrders = true := by kernel_rfl
theorem laid : laidOutB Tryz.prog = true := by kernel_rfl
theorem ownk : ownKnob Tryz.prog.godebug = none := by kernel_rfl
def cf (N : Nat) (vs : List Nat) : Cfg := { own := fun _ => false, N := N, vs := vs }
end Go.Proofs.YtebgneaehhaclaaGreat
