/- Facts, Names. -/
import Derived.Test.YtpoknljchikklaaGreatRows
import Derived.Test.YtpoknljchikklaaGreatAbsW3
/- Facts of this translation. -/
namespace Go.Proofs.YtpoknljchikklaaGreat
open Go.Abs
theorem za116 : zagg Tryz.prog 116 = some [.str [], .str []] := by kernel_rfl
theorem za191 : zagg Tryz.prog 191 = some [.int .i64 0] := by kernel_rfl
theorem za200 : zagg Tryz.prog 200 = some [.nili, .nili] := by kernel_rfl
theorem ks138 : keyS Tryz.prog 138 = some [(0, .bool), (1, .str)] := by kernel_rfl
theorem ks254 : keyS Tryz.prog 254 = some [(0, .ptr 34), (1, .int .i64)] := by kernel_rfl
theorem ks276 : keyS Tryz.prog 276 = some [(0, .ptr 31), (1, .int .i64)] := by kernel_rfl
theorem mi86 : mapInf Tryz.prog 86 = some (276, [(0, .ptr 31), (1, .int .i64)], 2, .agg [.nilp, .int .i64 0]) := by kernel_rfl
theorem mi98 : mapInf Tryz.prog 98 = some (254, [(0, .ptr 34), (1, .int .i64)], 2, .agg [.nilp, .int .i64 0]) := by kernel_rfl
theorem mi196 : mapInf Tryz.prog 196 = some (116, [(0, .str), (1, .str)], 2, .bool false) := by kernel_rfl
theorem mi248 : mapInf Tryz.prog 248 = some (138, [(0, .bool), (1, .str)], 2, .bool false) := by kernel_rfl
theorem mi267 : mapInf Tryz.prog 267 = some (226, [(0, .str), (1, .str)], 2, .nili) := by kernel_rfl
theorem ti2 : tinf Tryz.prog 2 = some { size := 1, bytes := 8, zero := some [.int .i64 0], kind := .int .i64 } := by kernel_rfl
theorem ti3 : tinf Tryz.prog 3 = some { size := 1, bytes := 8, zero := some [.int .i64 0], kind := .int .i64 } := by kernel_rfl
theorem ti4 : tinf Tryz.prog 4 = some { size := 1, bytes := 1, zero := some [.bool false], kind := .bool } := by kernel_rfl
theorem ti5 : tinf Tryz.prog 5 = some { size := 1, bytes := 1, zero := some [.int .u8 0], kind := .int .u8 } := by kernel_rfl
theorem ti9 : tinf Tryz.prog 9 = some { size := 1, bytes := 16, zero := some [.str []], kind := .str } := by kernel_rfl
theorem ti22 : tinf Tryz.prog 22 = some { size := 1, bytes := 24, zero := some [.nils], kind := .slice 5 } := by kernel_rfl
theorem ti23 : tinf Tryz.prog 23 = some { size := 1, bytes := 24, zero := some [.nils], kind := .slice 63 } := by kernel_rfl
theorem ti29 : tinf Tryz.prog 29 = some { size := 1, bytes := 24, zero := some [.nils], kind := .slice 31 } := by kernel_rfl
theorem ti31 : tinf Tryz.prog 31 = some { size := 4, bytes := 64, zero := some [.int .i64 0, .str [], .str [], .nils], kind := .struct [(0, 3, 1), (1, 9, 1), (2, 9, 1), (3, 29, 1)] } := by kernel_rfl
theorem ti32 : tinf Tryz.prog 32 = some { size := 1, bytes := 24, zero := some [.nils], kind := .slice 34 } := by kernel_rfl
theorem ti34 : tinf Tryz.prog 34 = some { size := 9, bytes := 136, zero := some [.int .i64 0, .int .i64 0, .str [], .str [], .int .i64 0, .str [], .str [], .nils, .nils], kind := .struct [(0, 3, 1), (1, 3, 1), (2, 9, 1), (3, 9, 1), (4, 31, 4), (8, 32, 1)] } := by kernel_rfl
theorem ti37 : tinf Tryz.prog 37 = some { size := 1, bytes := 8, zero := some [.nilf], kind := .func } := by kernel_rfl
theorem ti41 : tinf Tryz.prog 41 = some { size := 1, bytes := 24, zero := some [.nils], kind := .slice 43 } := by kernel_rfl
theorem ti43 : tinf Tryz.prog 43 = some { size := 4, bytes := 64, zero := some [.int .i64 0, .str [], .str [], .nils], kind := .struct [(0, 3, 1), (1, 9, 1), (2, 9, 1), (3, 41, 1)] } := by kernel_rfl
theorem ti44 : tinf Tryz.prog 44 = some { size := 1, bytes := 24, zero := some [.nils], kind := .slice 46 } := by kernel_rfl
theorem ti46 : tinf Tryz.prog 46 = some { size := 9, bytes := 136, zero := some [.int .i64 0, .int .i64 0, .str [], .str [], .int .i64 0, .str [], .str [], .nils, .nils], kind := .struct [(0, 3, 1), (1, 3, 1), (2, 9, 1), (3, 9, 1), (4, 43, 4), (8, 44, 1)] } := by kernel_rfl
theorem ti48 : tinf Tryz.prog 48 = some { size := 1, bytes := 8, zero := some [.nilf], kind := .func } := by kernel_rfl
theorem ti63 : tinf Tryz.prog 63 = some { size := 6, bytes := 88, zero := some [.int .i64 0, .str [], .int .i64 0, .str [], .str [], .nils], kind := .struct [(0, 3, 1), (1, 9, 1), (2, 31, 4)] } := by kernel_rfl
theorem ti64 : tinf Tryz.prog 64 = some { size := 1, bytes := 8, zero := some [.nilf], kind := .func } := by kernel_rfl
theorem ti69 : tinf Tryz.prog 69 = some { size := 1, bytes := 24, zero := some [.nils], kind := .slice 9 } := by kernel_rfl
theorem ti71 : tinf Tryz.prog 71 = some { size := 1, bytes := 24, zero := some [.nils], kind := .slice 148 } := by kernel_rfl
theorem ti74 : tinf Tryz.prog 74 = some { size := 1, bytes := 24, zero := some [.nils], kind := .slice 151 } := by kernel_rfl
theorem ti84 : tinf Tryz.prog 84 = some { size := 1, bytes := 8, zero := some [.nilf], kind := .func } := by kernel_rfl
theorem ti86 : tinf Tryz.prog 86 = some { size := 1, bytes := 8, zero := some [.nilm], kind := .map 276 276 } := by kernel_rfl
theorem ti88 : tinf Tryz.prog 88 = some { size := 3, bytes := 24, zero := some [.nilf, .nilf, .nilm], kind := .struct [(0, 84, 1), (1, 64, 1), (2, 86, 1)] } := by kernel_rfl
theorem ti90 : tinf Tryz.prog 90 = some { size := 1, bytes := 24, zero := some [.nils], kind := .slice 171 } := by kernel_rfl
theorem ti91 : tinf Tryz.prog 91 = some { size := 1, bytes := 24, zero := some [.nils], kind := .slice 171 } := by kernel_rfl
theorem ti98 : tinf Tryz.prog 98 = some { size := 1, bytes := 8, zero := some [.nilm], kind := .map 254 254 } := by kernel_rfl
theorem ti100 : tinf Tryz.prog 100 = some { size := 3, bytes := 24, zero := some [.nilf, .nilf, .nilm], kind := .struct [(0, 48, 1), (1, 37, 1), (2, 98, 1)] } := by kernel_rfl
theorem ti103 : tinf Tryz.prog 103 = some { size := 1, bytes := 16, zero := some [.nili], kind := .iface } := by kernel_rfl
theorem ti113 : tinf Tryz.prog 113 = some { size := 1, bytes := 8, zero := some [.nilf], kind := .func } := by kernel_rfl
theorem ti116 : tinf Tryz.prog 116 = some { size := 2, bytes := 32, zero := some [.str [], .str []], kind := .struct [(0, 9, 1), (1, 9, 1)] } := by kernel_rfl
theorem ti127 : tinf Tryz.prog 127 = some { size := 1, bytes := 16, zero := some [.str []], kind := .struct [(0, 9, 1)] } := by kernel_rfl
theorem ti133 : tinf Tryz.prog 133 = some { size := 1, bytes := 24, zero := some [.nils], kind := .slice 215 } := by kernel_rfl
theorem ti138 : tinf Tryz.prog 138 = some { size := 2, bytes := 24, zero := some [.bool false, .str []], kind := .struct [(0, 4, 1), (1, 9, 1)] } := by kernel_rfl
theorem ti141 : tinf Tryz.prog 141 = some { size := 1, bytes := 8, zero := some [.nilm], kind := .map 9 4 } := by kernel_rfl
theorem ti142 : tinf Tryz.prog 142 = some { size := 1, bytes := 8, zero := some [.nilm], kind := .map 9 4 } := by kernel_rfl
theorem ti148 : tinf Tryz.prog 148 = some { size := 15, bytes := 224, zero := some [.int .i64 0, .str [], .int .i64 0, .str [], .str [], .nils, .int .i64 0, .int .i64 0, .str [], .str [], .int .i64 0, .str [], .str [], .nils, .nils], kind := .struct [(0, 3, 1), (1, 9, 1), (2, 43, 4), (6, 46, 9)] } := by kernel_rfl
theorem ti151 : tinf Tryz.prog 151 = some { size := 15, bytes := 224, zero := some [.int .i64 0, .str [], .int .i64 0, .str [], .str [], .nils, .int .i64 0, .int .i64 0, .str [], .str [], .int .i64 0, .str [], .str [], .nils, .nils], kind := .struct [(0, 3, 1), (1, 9, 1), (2, 31, 4), (6, 34, 9)] } := by kernel_rfl
theorem ti153 : tinf Tryz.prog 153 = some { size := 1, bytes := 24, zero := some [.nils], kind := .slice 238 } := by kernel_rfl
theorem ti154 : tinf Tryz.prog 154 = some { size := 1, bytes := 24, zero := some [.nils], kind := .slice 238 } := by kernel_rfl
theorem ti159 : tinf Tryz.prog 159 = some { size := 2, bytes := 32, zero := some [.nils, .int .i64 0], kind := .struct [(0, 22, 1), (1, 3, 1)] } := by kernel_rfl
theorem ti161 : tinf Tryz.prog 161 = some { size := 1, bytes := 24, zero := some [.nils], kind := .slice 3 } := by kernel_rfl
theorem ti171 : tinf Tryz.prog 171 = some { size := 1, bytes := 16, zero := some [.nili], kind := .iface } := by kernel_rfl
theorem ti176 : tinf Tryz.prog 176 = some { size := 1, bytes := 8, zero := some [.nilp], kind := .ptr 178 } := by kernel_rfl
theorem ti178 : tinf Tryz.prog 178 = some { size := 2, bytes := 32, zero := some [.nilp, .nils], kind := .struct [(0, 176, 1), (1, 22, 1)] } := by kernel_rfl
theorem ti184 : tinf Tryz.prog 184 = some { size := 2, bytes := 48, zero := some [.nils, .nils], kind := .struct [(0, 32, 1), (1, 32, 1)] } := by kernel_rfl
theorem ti185 : tinf Tryz.prog 185 = some { size := 1, bytes := 24, zero := some [.nils], kind := .slice 184 } := by kernel_rfl
theorem ti186 : tinf Tryz.prog 186 = some { size := 1, bytes := 8, zero := some [.int .i64 0], kind := .int .i64 } := by kernel_rfl
theorem ti188 : tinf Tryz.prog 188 = some { size := 1, bytes := 8, zero := some [.int .i64 0], kind := .struct [(0, 186, 1)] } := by kernel_rfl
theorem ti191 : tinf Tryz.prog 191 = some { size := 1, bytes := 8, zero := some [.int .i64 0], kind := .struct [(0, 3, 1)] } := by kernel_rfl
theorem ti196 : tinf Tryz.prog 196 = some { size := 1, bytes := 8, zero := some [.nilm], kind := .map 116 4 } := by kernel_rfl
theorem ti198 : tinf Tryz.prog 198 = some { size := 1, bytes := 16, zero := some [.nili], kind := .iface } := by kernel_rfl
theorem ti200 : tinf Tryz.prog 200 = some { size := 2, bytes := 32, zero := some [.nili, .nili], kind := .struct [(0, 198, 1), (1, 103, 1)] } := by kernel_rfl
theorem ti202 : tinf Tryz.prog 202 = some { size := 1, bytes := 24, zero := some [.nils], kind := .slice 103 } := by kernel_rfl
theorem ti215 : tinf Tryz.prog 215 = some { size := 6, bytes := 96, zero := some [.str [], .str [], .int .i64 0, .str [], .str [], .nils], kind := .struct [(0, 9, 1), (1, 9, 1), (2, 31, 4)] } := by kernel_rfl
theorem ti221 : tinf Tryz.prog 221 = some { size := 2, bytes := 48, zero := some [.nils, .nils], kind := .struct [(0, 29, 1), (1, 29, 1)] } := by kernel_rfl
theorem ti222 : tinf Tryz.prog 222 = some { size := 1, bytes := 24, zero := some [.nils], kind := .slice 221 } := by kernel_rfl
theorem ti226 : tinf Tryz.prog 226 = some { size := 2, bytes := 32, zero := some [.str [], .str []], kind := .struct [(0, 9, 1), (1, 9, 1)] } := by kernel_rfl
theorem ti238 : tinf Tryz.prog 238 = some { size := 1, bytes := 16, zero := some [.nili], kind := .iface } := by kernel_rfl
theorem ti243 : tinf Tryz.prog 243 = some { size := 1, bytes := 16, zero := some [.str []], kind := .struct [(0, 9, 1)] } := by kernel_rfl
theorem ti246 : tinf Tryz.prog 246 = some { size := 2, bytes := 32, zero := some [.str [], .nili], kind := .struct [(0, 9, 1), (1, 198, 1)] } := by kernel_rfl
theorem ti247 : tinf Tryz.prog 247 = some { size := 2, bytes := 32, zero := some [.str [], .nili], kind := .struct [(0, 9, 1), (1, 198, 1)] } := by kernel_rfl
theorem ti248 : tinf Tryz.prog 248 = some { size := 1, bytes := 8, zero := some [.nilm], kind := .map 138 4 } := by kernel_rfl
theorem ti250 : tinf Tryz.prog 250 = some { size := 1, bytes := 8, zero := some [.nilp], kind := .ptr 5 } := by kernel_rfl
theorem ti254 : tinf Tryz.prog 254 = some { size := 2, bytes := 16, zero := some [.nilp, .int .i64 0], kind := .struct [(0, 252, 1), (1, 3, 1)] } := by kernel_rfl
theorem ti256 : tinf Tryz.prog 256 = some { size := 1, bytes := 8, zero := some [.nilp], kind := .ptr 188 } := by kernel_rfl
theorem ti267 : tinf Tryz.prog 267 = some { size := 1, bytes := 8, zero := some [.nilm], kind := .map 226 198 } := by kernel_rfl
theorem ti276 : tinf Tryz.prog 276 = some { size := 2, bytes := 16, zero := some [.nilp, .int .i64 0], kind := .struct [(0, 274, 1), (1, 3, 1)] } := by kernel_rfl
theorem ti283 : tinf Tryz.prog 283 = some { size := 2, bytes := 32, zero := some [.str [], .nili], kind := .struct [(0, 9, 1), (1, 198, 1)] } := by kernel_rfl
theorem ti285 : tinf Tryz.prog 285 = some { size := 2, bytes := 32, zero := some [.str [], .nili], kind := .struct [(0, 9, 1), (1, 103, 1)] } := by kernel_rfl
theorem ti287 : tinf Tryz.prog 287 = some { size := 2, bytes := 16, zero := some [.nilm, .nilm], kind := .struct [(0, 141, 1), (1, 141, 1)] } := by kernel_rfl
theorem ti292 : tinf Tryz.prog 292 = some { size := 1, bytes := 8, zero := some [.int .i64 0], kind := .struct [(0, 3, 1)] } := by kernel_rfl
theorem ti295 : tinf Tryz.prog 295 = some { size := 2, bytes := 32, zero := some [.nili, .nili], kind := .struct [(0, 103, 1), (1, 103, 1)] } := by kernel_rfl
theorem ti297 : tinf Tryz.prog 297 = some { size := 2, bytes := 32, zero := some [.nili, .nili], kind := .struct [(0, 103, 1), (1, 103, 1)] } := by kernel_rfl
theorem ti299 : tinf Tryz.prog 299 = some { size := 3, bytes := 48, zero := some [.nili, .nili, .nili], kind := .struct [(0, 103, 1), (1, 103, 1), (2, 103, 1)] } := by kernel_rfl
theorem ti313 : tinf Tryz.prog 313 = some { size := 1, bytes := 8, zero := some [.int .u64 0], kind := .int .u64 } := by kernel_rfl
theorem ti315 : tinf Tryz.prog 315 = some { size := 0, bytes := 0, zero := some [], kind := .struct [] } := by kernel_rfl
theorem ti319 : tinf Tryz.prog 319 = some { size := 1, bytes := 8, zero := some [.int .i64 0], kind := .int .i64 } := by kernel_rfl
theorem ti327 : tinf Tryz.prog 327 = some { size := 1, bytes := 4, zero := some [.int .u32 0], kind := .int .u32 } := by kernel_rfl
theorem ti329 : tinf Tryz.prog 329 = some { size := 1, bytes := 8, zero := some [.int .u64 0], kind := .int .u64 } := by kernel_rfl
theorem ti331 : tinf Tryz.prog 331 = some { size := 2, bytes := 32, zero := some [.nili, .nili], kind := .struct [(0, 198, 1), (1, 198, 1)] } := by kernel_rfl
theorem ti332 : tinf Tryz.prog 332 = some { size := 1, bytes := 8, zero := some [.int .u64 0], kind := .int .u64 } := by kernel_rfl
theorem ti358 : tinf Tryz.prog 358 = some { size := 1, bytes := 8, zero := some [.nilp], kind := .other } := by kernel_rfl
theorem ti368 : tinf Tryz.prog 368 = some { size := 24, bytes := 24, zero := some [.int .u8 0, .int .u8 0, .int .u8 0, .int .u8 0, .int .u8 0, .int .u8 0, .int .u8 0, .int .u8 0, .int .u8 0, .int .u8 0, .int .u8 0, .int .u8 0, .int .u8 0, .int .u8 0, .int .u8 0, .int .u8 0, .int .u8 0, .int .u8 0, .int .u8 0, .int .u8 0, .int .u8 0, .int .u8 0, .int .u8 0, .int .u8 0], kind := .other } := by kernel_rfl
theorem ti373 : tinf Tryz.prog 373 = some { size := 20, bytes := 160, zero := some [.int .u64 0, .int .u64 0, .int .u64 0, .int .u64 0, .int .u64 0, .int .u64 0, .int .u64 0, .int .u64 0, .int .u64 0, .int .u64 0, .int .u64 0, .int .u64 0, .int .u64 0, .int .u64 0, .int .u64 0, .int .u64 0, .int .u64 0, .int .u64 0, .int .u64 0, .int .u64 0], kind := .other } := by kernel_rfl
theorem ti374 : tinf Tryz.prog 374 = some { size := 65, bytes := 65, zero := some [.int .u8 0, .int .u8 0, .int .u8 0, .int .u8 0, .int .u8 0, .int .u8 0, .int .u8 0, .int .u8 0, .int .u8 0, .int .u8 0, .int .u8 0, .int .u8 0, .int .u8 0, .int .u8 0, .int .u8 0, .int .u8 0, .int .u8 0, .int .u8 0, .int .u8 0, .int .u8 0, .int .u8 0, .int .u8 0, .int .u8 0, .int .u8 0, .int .u8 0, .int .u8 0, .int .u8 0, .int .u8 0, .int .u8 0, .int .u8 0, .int .u8 0, .int .u8 0, .int .u8 0, .int .u8 0, .int .u8 0, .int .u8 0, .int .u8 0, .int .u8 0, .int .u8 0, .int .u8 0, .int .u8 0, .int .u8 0, .int .u8 0, .int .u8 0, .int .u8 0, .int .u8 0, .int .u8 0, .int .u8 0, .int .u8 0, .int .u8 0, .int .u8 0, .int .u8 0, .int .u8 0, .int .u8 0, .int .u8 0, .int .u8 0, .int .u8 0, .int .u8 0, .int .u8 0, .int .u8 0, .int .u8 0, .int .u8 0, .int .u8 0, .int .u8 0, .int .u8 0], kind := .other } := by kernel_rfl
theorem ti375 : tinf Tryz.prog 375 = some { size := 32, bytes := 32, zero := some [.int .u8 0, .int .u8 0, .int .u8 0, .int .u8 0, .int .u8 0, .int .u8 0, .int .u8 0, .int .u8 0, .int .u8 0, .int .u8 0, .int .u8 0, .int .u8 0, .int .u8 0, .int .u8 0, .int .u8 0, .int .u8 0, .int .u8 0, .int .u8 0, .int .u8 0, .int .u8 0, .int .u8 0, .int .u8 0, .int .u8 0, .int .u8 0, .int .u8 0, .int .u8 0, .int .u8 0, .int .u8 0, .int .u8 0, .int .u8 0, .int .u8 0, .int .u8 0], kind := .other } := by kernel_rfl
theorem ti376 : tinf Tryz.prog 376 = some { size := 64, bytes := 64, zero := some [.int .u8 0, .int .u8 0, .int .u8 0, .int .u8 0, .int .u8 0, .int .u8 0, .int .u8 0, .int .u8 0, .int .u8 0, .int .u8 0, .int .u8 0, .int .u8 0, .int .u8 0, .int .u8 0, .int .u8 0, .int .u8 0, .int .u8 0, .int .u8 0, .int .u8 0, .int .u8 0, .int .u8 0, .int .u8 0, .int .u8 0, .int .u8 0, .int .u8 0, .int .u8 0, .int .u8 0, .int .u8 0, .int .u8 0, .int .u8 0, .int .u8 0, .int .u8 0, .int .u8 0, .int .u8 0, .int .u8 0, .int .u8 0, .int .u8 0, .int .u8 0, .int .u8 0, .int .u8 0, .int .u8 0, .int .u8 0, .int .u8 0, .int .u8 0, .int .u8 0, .int .u8 0, .int .u8 0, .int .u8 0, .int .u8 0, .int .u8 0, .int .u8 0, .int .u8 0, .int .u8 0, .int .u8 0, .int .u8 0, .int .u8 0, .int .u8 0, .int .u8 0, .int .u8 0, .int .u8 0, .int .u8 0, .int .u8 0, .int .u8 0, .int .u8 0], kind := .other } := by kernel_rfl
theorem ca12 : callable Tryz.prog 12 = true := by kernel_rfl
theorem ca13 : callable Tryz.prog 13 = true := by kernel_rfl
theorem ca14 : callable Tryz.prog 14 = true := by kernel_rfl
theorem ca15 : callable Tryz.prog 15 = true := by kernel_rfl
theorem ca16 : callable Tryz.prog 16 = true := by kernel_rfl
theorem ca17 : callable Tryz.prog 17 = true := by kernel_rfl
theorem ca18 : callable Tryz.prog 18 = true := by kernel_rfl
theorem ca19 : callable Tryz.prog 19 = true := by kernel_rfl
theorem ca20 : callable Tryz.prog 20 = true := by kernel_rfl
theorem ca21 : callable Tryz.prog 21 = true := by kernel_rfl
theorem ca22 : callable Tryz.prog 22 = true := by kernel_rfl
theorem ca23 : callable Tryz.prog 23 = true := by kernel_rfl
theorem ca24 : callable Tryz.prog 24 = true := by kernel_rfl
theorem ca25 : callable Tryz.prog 25 = true := by kernel_rfl
theorem ca26 : callable Tryz.prog 26 = true := by kernel_rfl
theorem ca27 : callable Tryz.prog 27 = true := by kernel_rfl
theorem ca28 : callable Tryz.prog 28 = true := by kernel_rfl
theorem ca29 : callable Tryz.prog 29 = true := by kernel_rfl
theorem ca30 : callable Tryz.prog 30 = true := by kernel_rfl
theorem ca31 : callable Tryz.prog 31 = true := by kernel_rfl
theorem ca32 : callable Tryz.prog 32 = true := by kernel_rfl
theorem ca33 : callable Tryz.prog 33 = true := by kernel_rfl
theorem ca34 : callable Tryz.prog 34 = true := by kernel_rfl
theorem ca35 : callable Tryz.prog 35 = true := by kernel_rfl
theorem ca36 : callable Tryz.prog 36 = true := by kernel_rfl
theorem ca37 : callable Tryz.prog 37 = true := by kernel_rfl
theorem ca38 : callable Tryz.prog 38 = true := by kernel_rfl
theorem ca39 : callable Tryz.prog 39 = true := by kernel_rfl
theorem ca40 : callable Tryz.prog 40 = true := by kernel_rfl
theorem ca41 : callable Tryz.prog 41 = true := by kernel_rfl
theorem ca42 : callable Tryz.prog 42 = true := by kernel_rfl
theorem ca43 : callable Tryz.prog 43 = true := by kernel_rfl
theorem ca44 : callable Tryz.prog 44 = true := by kernel_rfl
theorem ca45 : callable Tryz.prog 45 = true := by kernel_rfl
theorem ca46 : callable Tryz.prog 46 = true := by kernel_rfl
theorem ca47 : callable Tryz.prog 47 = true := by kernel_rfl
theorem ca48 : callable Tryz.prog 48 = true := by kernel_rfl
theorem ca49 : callable Tryz.prog 49 = true := by kernel_rfl
theorem ca50 : callable Tryz.prog 50 = true := by kernel_rfl
theorem ca51 : callable Tryz.prog 51 = true := by kernel_rfl
theorem ca52 : callable Tryz.prog 52 = true := by kernel_rfl
theorem ca53 : callable Tryz.prog 53 = true := by kernel_rfl
theorem ca54 : callable Tryz.prog 54 = true := by kernel_rfl
theorem ca55 : callable Tryz.prog 55 = true := by kernel_rfl
theorem ca56 : callable Tryz.prog 56 = true := by kernel_rfl
theorem ca57 : callable Tryz.prog 57 = true := by kernel_rfl
theorem ca58 : callable Tryz.prog 58 = true := by kernel_rfl
theorem ca59 : callable Tryz.prog 59 = true := by kernel_rfl
theorem ca60 : callable Tryz.prog 60 = true := by kernel_rfl
theorem ca61 : callable Tryz.prog 61 = true := by kernel_rfl
theorem ca62 : callable Tryz.prog 62 = true := by kernel_rfl
theorem ca63 : callable Tryz.prog 63 = true := by kernel_rfl
theorem ca64 : callable Tryz.prog 64 = true := by kernel_rfl
theorem ca65 : callable Tryz.prog 65 = true := by kernel_rfl
theorem ca66 : callable Tryz.prog 66 = true := by kernel_rfl
theorem ca67 : callable Tryz.prog 67 = true := by kernel_rfl
theorem ca68 : callable Tryz.prog 68 = true := by kernel_rfl
theorem ca69 : callable Tryz.prog 69 = true := by kernel_rfl
theorem ca70 : callable Tryz.prog 70 = true := by kernel_rfl
theorem ca71 : callable Tryz.prog 71 = true := by kernel_rfl
theorem ca72 : callable Tryz.prog 72 = true := by kernel_rfl
theorem ca73 : callable Tryz.prog 73 = true := by kernel_rfl
theorem ca74 : callable Tryz.prog 74 = true := by kernel_rfl
theorem ca75 : callable Tryz.prog 75 = true := by kernel_rfl
theorem ca76 : callable Tryz.prog 76 = true := by kernel_rfl
theorem ca77 : callable Tryz.prog 77 = true := by kernel_rfl
theorem ca78 : callable Tryz.prog 78 = true := by kernel_rfl
theorem ca80 : callable Tryz.prog 80 = true := by kernel_rfl
theorem ca81 : callable Tryz.prog 81 = true := by kernel_rfl
theorem ca83 : callable Tryz.prog 83 = true := by kernel_rfl
theorem ca84 : callable Tryz.prog 84 = true := by kernel_rfl
theorem ca85 : callable Tryz.prog 85 = true := by kernel_rfl
theorem ca86 : callable Tryz.prog 86 = true := by kernel_rfl
theorem ca87 : callable Tryz.prog 87 = true := by kernel_rfl
theorem ca88 : callable Tryz.prog 88 = true := by kernel_rfl
theorem ca89 : callable Tryz.prog 89 = true := by kernel_rfl
theorem ca90 : callable Tryz.prog 90 = true := by kernel_rfl
theorem ca91 : callable Tryz.prog 91 = true := by kernel_rfl
theorem ca92 : callable Tryz.prog 92 = true := by kernel_rfl
theorem ca93 : callable Tryz.prog 93 = true := by kernel_rfl
theorem ca94 : callable Tryz.prog 94 = true := by kernel_rfl
theorem ca95 : callable Tryz.prog 95 = true := by kernel_rfl
theorem ca96 : callable Tryz.prog 96 = true := by kernel_rfl
theorem ca97 : callable Tryz.prog 97 = true := by kernel_rfl
theorem ca98 : callable Tryz.prog 98 = true := by kernel_rfl
theorem ca99 : callable Tryz.prog 99 = true := by kernel_rfl
theorem ca100 : callable Tryz.prog 100 = true := by kernel_rfl
theorem ca101 : callable Tryz.prog 101 = true := by kernel_rfl
theorem ca102 : callable Tryz.prog 102 = true := by kernel_rfl
theorem ca103 : callable Tryz.prog 103 = true := by kernel_rfl
theorem ca104 : callable Tryz.prog 104 = true := by kernel_rfl
theorem ca106 : callable Tryz.prog 106 = true := by kernel_rfl
theorem ca107 : callable Tryz.prog 107 = true := by kernel_rfl
theorem ca108 : callable Tryz.prog 108 = true := by kernel_rfl
theorem ca109 : callable Tryz.prog 109 = true := by kernel_rfl
theorem ca110 : callable Tryz.prog 110 = true := by kernel_rfl
theorem ca111 : callable Tryz.prog 111 = true := by kernel_rfl
theorem ca112 : callable Tryz.prog 112 = true := by kernel_rfl
theorem ca113 : callable Tryz.prog 113 = true := by kernel_rfl
theorem ca114 : callable Tryz.prog 114 = true := by kernel_rfl
theorem ca115 : callable Tryz.prog 115 = true := by kernel_rfl
theorem ca116 : callable Tryz.prog 116 = true := by kernel_rfl
theorem ca117 : callable Tryz.prog 117 = true := by kernel_rfl
theorem ca118 : callable Tryz.prog 118 = true := by kernel_rfl
theorem ca122 : callable Tryz.prog 122 = true := by kernel_rfl
theorem ca124 : callable Tryz.prog 124 = true := by kernel_rfl
theorem ca125 : callable Tryz.prog 125 = true := by kernel_rfl
theorem ca126 : callable Tryz.prog 126 = true := by kernel_rfl
theorem ca127 : callable Tryz.prog 127 = true := by kernel_rfl
theorem ca130 : callable Tryz.prog 130 = true := by kernel_rfl
theorem ca131 : callable Tryz.prog 131 = true := by kernel_rfl
theorem ca133 : callable Tryz.prog 133 = true := by kernel_rfl
theorem ca134 : callable Tryz.prog 134 = true := by kernel_rfl
theorem ca135 : callable Tryz.prog 135 = true := by kernel_rfl
theorem ca136 : callable Tryz.prog 136 = true := by kernel_rfl
theorem ca138 : callable Tryz.prog 138 = true := by kernel_rfl
theorem ca139 : callable Tryz.prog 139 = true := by kernel_rfl
theorem ca140 : callable Tryz.prog 140 = true := by kernel_rfl
theorem ca141 : callable Tryz.prog 141 = true := by kernel_rfl
theorem ca143 : callable Tryz.prog 143 = true := by kernel_rfl
theorem ca144 : callable Tryz.prog 144 = true := by kernel_rfl
theorem ca145 : callable Tryz.prog 145 = true := by kernel_rfl
theorem ca146 : callable Tryz.prog 146 = true := by kernel_rfl
theorem ca147 : callable Tryz.prog 147 = true := by kernel_rfl
theorem ca148 : callable Tryz.prog 148 = true := by kernel_rfl
theorem ca149 : callable Tryz.prog 149 = true := by kernel_rfl
theorem ca150 : callable Tryz.prog 150 = true := by kernel_rfl
theorem ca151 : callable Tryz.prog 151 = true := by kernel_rfl
theorem ca152 : callable Tryz.prog 152 = true := by kernel_rfl
theorem ca153 : callable Tryz.prog 153 = true := by kernel_rfl
theorem ca154 : callable Tryz.prog 154 = true := by kernel_rfl
theorem ca155 : callable Tryz.prog 155 = true := by kernel_rfl
theorem ca156 : callable Tryz.prog 156 = true := by kernel_rfl
theorem ca157 : callable Tryz.prog 157 = true := by kernel_rfl
theorem ca158 : callable Tryz.prog 158 = true := by kernel_rfl
theorem ca159 : callable Tryz.prog 159 = true := by kernel_rfl
theorem ca160 : callable Tryz.prog 160 = true := by kernel_rfl
theorem ca161 : callable Tryz.prog 161 = true := by kernel_rfl
theorem ca162 : callable Tryz.prog 162 = true := by kernel_rfl
theorem ca163 : callable Tryz.prog 163 = true := by kernel_rfl
theorem ca165 : callable Tryz.prog 165 = true := by kernel_rfl
theorem ca166 : callable Tryz.prog 166 = true := by kernel_rfl
theorem ca167 : callable Tryz.prog 167 = true := by kernel_rfl
theorem ca168 : callable Tryz.prog 168 = true := by kernel_rfl
theorem ca170 : callable Tryz.prog 170 = true := by kernel_rfl
theorem ca171 : callable Tryz.prog 171 = true := by kernel_rfl
theorem ca172 : callable Tryz.prog 172 = true := by kernel_rfl
theorem ca173 : callable Tryz.prog 173 = true := by kernel_rfl
theorem ca174 : callable Tryz.prog 174 = true := by kernel_rfl
theorem ca175 : callable Tryz.prog 175 = true := by kernel_rfl
theorem ca176 : callable Tryz.prog 176 = true := by kernel_rfl
theorem ca178 : callable Tryz.prog 178 = true := by kernel_rfl
theorem ca179 : callable Tryz.prog 179 = true := by kernel_rfl
theorem ca180 : callable Tryz.prog 180 = true := by kernel_rfl
theorem ca181 : callable Tryz.prog 181 = true := by kernel_rfl
theorem ca182 : callable Tryz.prog 182 = true := by kernel_rfl
theorem ca183 : callable Tryz.prog 183 = true := by kernel_rfl
theorem ca185 : callable Tryz.prog 185 = true := by kernel_rfl
theorem ca186 : callable Tryz.prog 186 = true := by kernel_rfl
theorem ca187 : callable Tryz.prog 187 = true := by kernel_rfl
theorem ca188 : callable Tryz.prog 188 = true := by kernel_rfl
theorem ca189 : callable Tryz.prog 189 = true := by kernel_rfl
theorem ca190 : callable Tryz.prog 190 = true := by kernel_rfl
theorem ca191 : callable Tryz.prog 191 = true := by kernel_rfl
theorem ca192 : callable Tryz.prog 192 = true := by kernel_rfl
theorem ca193 : callable Tryz.prog 193 = true := by kernel_rfl
theorem ca195 : callable Tryz.prog 195 = true := by kernel_rfl
theorem ca196 : callable Tryz.prog 196 = true := by kernel_rfl
theorem ca197 : callable Tryz.prog 197 = true := by kernel_rfl
theorem ca198 : callable Tryz.prog 198 = true := by kernel_rfl
theorem ca199 : callable Tryz.prog 199 = true := by kernel_rfl
theorem ca200 : callable Tryz.prog 200 = true := by kernel_rfl
theorem ca201 : callable Tryz.prog 201 = true := by kernel_rfl
theorem ca202 : callable Tryz.prog 202 = true := by kernel_rfl
theorem ca204 : callable Tryz.prog 204 = true := by kernel_rfl
theorem ca205 : callable Tryz.prog 205 = true := by kernel_rfl
theorem ca206 : callable Tryz.prog 206 = true := by kernel_rfl
theorem ca207 : callable Tryz.prog 207 = true := by kernel_rfl
theorem ca208 : callable Tryz.prog 208 = true := by kernel_rfl
theorem ca209 : callable Tryz.prog 209 = true := by kernel_rfl
theorem ca210 : callable Tryz.prog 210 = true := by kernel_rfl
theorem ca211 : callable Tryz.prog 211 = true := by kernel_rfl
theorem ca212 : callable Tryz.prog 212 = true := by kernel_rfl
theorem ca213 : callable Tryz.prog 213 = true := by kernel_rfl
theorem ca214 : callable Tryz.prog 214 = true := by kernel_rfl
theorem ca215 : callable Tryz.prog 215 = true := by kernel_rfl
theorem ca216 : callable Tryz.prog 216 = true := by kernel_rfl
theorem ca217 : callable Tryz.prog 217 = true := by kernel_rfl
theorem ca218 : callable Tryz.prog 218 = true := by kernel_rfl
theorem ca219 : callable Tryz.prog 219 = true := by kernel_rfl
theorem ca220 : callable Tryz.prog 220 = true := by kernel_rfl
theorem ca221 : callable Tryz.prog 221 = true := by kernel_rfl
theorem ca222 : callable Tryz.prog 222 = true := by kernel_rfl
theorem ca223 : callable Tryz.prog 223 = true := by kernel_rfl
theorem ca224 : callable Tryz.prog 224 = true := by kernel_rfl
theorem ca225 : callable Tryz.prog 225 = true := by kernel_rfl
theorem ca226 : callable Tryz.prog 226 = true := by kernel_rfl
theorem ca227 : callable Tryz.prog 227 = true := by kernel_rfl
theorem ca228 : callable Tryz.prog 228 = true := by kernel_rfl
theorem ca229 : callable Tryz.prog 229 = true := by kernel_rfl
theorem ca230 : callable Tryz.prog 230 = true := by kernel_rfl
theorem ca231 : callable Tryz.prog 231 = true := by kernel_rfl
theorem ca232 : callable Tryz.prog 232 = true := by kernel_rfl
theorem ca250 : callable Tryz.prog 250 = true := by kernel_rfl
theorem ca251 : callable Tryz.prog 251 = true := by kernel_rfl
theorem ca252 : callable Tryz.prog 252 = true := by kernel_rfl
theorem ca258 : callable Tryz.prog 258 = true := by kernel_rfl
theorem ca259 : callable Tryz.prog 259 = true := by kernel_rfl
theorem ca262 : callable Tryz.prog 262 = true := by kernel_rfl
theorem ca263 : callable Tryz.prog 263 = true := by kernel_rfl
theorem ca270 : callable Tryz.prog 270 = true := by kernel_rfl
theorem ca271 : callable Tryz.prog 271 = true := by kernel_rfl
theorem ca272 : callable Tryz.prog 272 = true := by kernel_rfl
theorem ca273 : callable Tryz.prog 273 = true := by kernel_rfl
theorem ca274 : callable Tryz.prog 274 = true := by kernel_rfl
theorem ca275 : callable Tryz.prog 275 = true := by kernel_rfl
theorem ca276 : callable Tryz.prog 276 = true := by kernel_rfl
theorem ca277 : callable Tryz.prog 277 = true := by kernel_rfl
theorem ca278 : callable Tryz.prog 278 = true := by kernel_rfl
theorem ca279 : callable Tryz.prog 279 = true := by kernel_rfl
theorem ca280 : callable Tryz.prog 280 = true := by kernel_rfl
theorem ca281 : callable Tryz.prog 281 = true := by kernel_rfl
theorem ca282 : callable Tryz.prog 282 = true := by kernel_rfl
theorem ca284 : callable Tryz.prog 284 = true := by kernel_rfl
theorem ca288 : callable Tryz.prog 288 = true := by kernel_rfl
theorem ca317 : callable Tryz.prog 317 = true := by kernel_rfl
theorem ca318 : callable Tryz.prog 318 = true := by kernel_rfl
theorem ca324 : callable Tryz.prog 324 = true := by kernel_rfl
theorem ca325 : callable Tryz.prog 325 = true := by kernel_rfl
theorem ca333 : callable Tryz.prog 333 = true := by kernel_rfl
theorem ca337 : callable Tryz.prog 337 = true := by kernel_rfl
theorem ca339 : callable Tryz.prog 339 = true := by kernel_rfl
theorem ca344 : callable Tryz.prog 344 = true := by kernel_rfl
theorem foll : Tryz.prog.follows .mixedOrders = true := by kernel_rfl
theorem laid : laidOutB Tryz.prog = true := by kernel_rfl
theorem ownk : ownKnob Tryz.prog.godebug = none := by kernel_rfl
def cf (N : Nat) (vs : List Nat) : Cfg := { own := fun _ => false, N := N, vs := vs }
end Go.Proofs.YtpoknljchikklaaGreat

/- The names of types, values and modules: what the program's and the model's functions answer. -/
set_option linter.unusedVariables false
set_option linter.unusedSimpArgs false
namespace Go.Proofs.YtpoknljchikklaaGreat
open Go.Abs

def localB (s : List UInt8) : Bool := s.length == 1 && (decide (97 ≤ (s.getD 0 0).toNat) && decide ((s.getD 0 0).toNat ≤ 122))
def moduleB (s : List UInt8) : Bool := (s.length == 1 && (decide (65 ≤ (s.getD 0 0).toNat) && decide ((s.getD 0 0).toNat ≤ 90))) && !decide (s = [73])

theorem local_no (s : List UInt8) (h : ¬ (s.length : Int) = 1) : localB s = false := by
  have : s.length ≠ 1 := by omega
  simp [localB, this]
theorem local_lo (s : List UInt8) (h : ¬ (97 : Int) ≤ (s.getD 0 0).toNat) : localB s = false := by
  have : ¬ 97 ≤ (s.getD 0 0).toNat := by omega
  unfold localB; rw [decide_eq_false this]; simp
theorem local_hi (s : List UInt8) (h1 : (s.length : Int) = 1) (h : (97 : Int) ≤ (s.getD 0 0).toNat) : localB s = decide (((s.getD 0 0).toNat : Int) ≤ 122) := by
  have e1 : s.length = 1 := by omega
  have e2 : 97 ≤ (s.getD 0 0).toNat := by omega
  unfold localB; rw [decide_eq_true e2, e1]
  rw [Bool.eq_iff_iff]; simp; omega
theorem module_no (s : List UInt8) (h : ¬ (s.length : Int) = 1) : moduleB s = false := by
  have : s.length ≠ 1 := by omega
  simp [moduleB, this]
theorem module_lo (s : List UInt8) (h : ¬ (65 : Int) ≤ (s.getD 0 0).toNat) : moduleB s = false := by
  have : ¬ 65 ≤ (s.getD 0 0).toNat := by omega
  unfold moduleB; rw [decide_eq_false this]; simp
theorem module_up (s : List UInt8) (h : ¬ ((s.getD 0 0).toNat : Int) ≤ 90) : moduleB s = false := by
  have : ¬ (s.getD 0 0).toNat ≤ 90 := by omega
  unfold moduleB; rw [decide_eq_false this]; simp
theorem module_hi (s : List UInt8) (h1 : (s.length : Int) = 1) (h : (65 : Int) ≤ (s.getD 0 0).toNat) (h2 : ((s.getD 0 0).toNat : Int) ≤ 90) : moduleB s = !decide (s = [73]) := by
  have e1 : s.length = 1 := by omega
  have e2 : 65 ≤ (s.getD 0 0).toNat := by omega
  have e3 : (s.getD 0 0).toNat ≤ 90 := by omega
  unfold moduleB; rw [decide_eq_true e2, decide_eq_true e3, e1]; simp

set_option maxRecDepth 100000 in
theorem impl_LocalName (s : List UInt8) (A : List Box) : ACalls Tryz.prog 167 [.str s] A (fun v A' => v = .bool (localB s) ∧ A' = A) := by
  refine acalls_enter (cf := cf 16 [0, 2]) foll Tryz.func167 Tryz.ntmps167 (by simp [cf]) ?_
  simp only [Tryz.f167, EnterK_some, zW, zX, zD, builtinA, isLeaf, const1, ustrA, simprocAttr, ti3, ti5, ti9, cf, Tryz.results167]
  repeat' first
    | (refine guardT_intro (fun h => ?_) (fun h => ?_) <;> (try simp only [decide_eq_true_eq, decide_eq_false_iff_not, Bool.not_eq_eq_eq_not, Bool.not_true, Bool.not_false] at h) <;> simp only [zW, zX, zD, builtinA, isLeaf, const1, ustrA, simprocAttr, ti3, ti5, ti9, cf, Tryz.results167, h])
    | (refine guardF_intro (fun h => ?_) (fun h => ?_) <;> (try simp only [decide_eq_true_eq, decide_eq_false_iff_not, Bool.not_eq_eq_eq_not, Bool.not_true, Bool.not_false] at h) <;> simp only [zW, zX, zD, builtinA, isLeaf, const1, ustrA, simprocAttr, ti3, ti5, ti9, cf, Tryz.results167, h])
    | (refine condK_intro (fun h => ?_) (fun h => ?_) <;> (try simp only [decide_eq_true_eq, decide_eq_false_iff_not, Bool.not_eq_eq_eq_not, Bool.not_true, Bool.not_false] at h) <;> simp only [zW, zX, zD, builtinA, isLeaf, const1, ustrA, simprocAttr, ti3, ti5, ti9, cf, Tryz.results167, h])
    | (refine guardDT_intro (fun h => ?_) (fun h => ?_) <;> (try simp only [decide_eq_true_eq, decide_eq_false_iff_not, Bool.not_eq_eq_eq_not, Bool.not_true, Bool.not_false] at h) <;> simp only [zW, zX, zD, builtinA, isLeaf, const1, ustrA, simprocAttr, ti3, ti5, ti9, cf, Tryz.results167, h])
    | (refine guardDF_intro (fun h => ?_) (fun h => ?_) <;> (try simp only [decide_eq_true_eq, decide_eq_false_iff_not, Bool.not_eq_eq_eq_not, Bool.not_true, Bool.not_false] at h) <;> simp only [zW, zX, zD, builtinA, isLeaf, const1, ustrA, simprocAttr, ti3, ti5, ti9, cf, Tryz.results167, h])
    | refine And.intro ?_ ?_
  · omega
  · rename_i h1
    rw [local_hi s h1 h]
  · rw [local_lo s ‹_›]
  · rw [local_no s ‹_›]
set_option maxRecDepth 100000 in
theorem spec_LocalName (s : List UInt8) (A : List Box) : ACalls Tryz.prog 152 [.str s] A (fun v A' => v = .bool (localB s) ∧ A' = A) := by
  refine acalls_enter (cf := cf 16 [0, 2]) foll Tryz.func152 Tryz.ntmps152 (by simp [cf]) ?_
  simp only [Tryz.f152, EnterK_some, zW, zX, zD, builtinA, isLeaf, const1, ustrA, simprocAttr, ti3, ti5, ti9, cf, Tryz.results152]
  repeat' first
    | (refine guardT_intro (fun h => ?_) (fun h => ?_) <;> (try simp only [decide_eq_true_eq, decide_eq_false_iff_not, Bool.not_eq_eq_eq_not, Bool.not_true, Bool.not_false] at h) <;> simp only [zW, zX, zD, builtinA, isLeaf, const1, ustrA, simprocAttr, ti3, ti5, ti9, cf, Tryz.results152, h])
    | (refine guardF_intro (fun h => ?_) (fun h => ?_) <;> (try simp only [decide_eq_true_eq, decide_eq_false_iff_not, Bool.not_eq_eq_eq_not, Bool.not_true, Bool.not_false] at h) <;> simp only [zW, zX, zD, builtinA, isLeaf, const1, ustrA, simprocAttr, ti3, ti5, ti9, cf, Tryz.results152, h])
    | (refine condK_intro (fun h => ?_) (fun h => ?_) <;> (try simp only [decide_eq_true_eq, decide_eq_false_iff_not, Bool.not_eq_eq_eq_not, Bool.not_true, Bool.not_false] at h) <;> simp only [zW, zX, zD, builtinA, isLeaf, const1, ustrA, simprocAttr, ti3, ti5, ti9, cf, Tryz.results152, h])
    | (refine guardDT_intro (fun h => ?_) (fun h => ?_) <;> (try simp only [decide_eq_true_eq, decide_eq_false_iff_not, Bool.not_eq_eq_eq_not, Bool.not_true, Bool.not_false] at h) <;> simp only [zW, zX, zD, builtinA, isLeaf, const1, ustrA, simprocAttr, ti3, ti5, ti9, cf, Tryz.results152, h])
    | (refine guardDF_intro (fun h => ?_) (fun h => ?_) <;> (try simp only [decide_eq_true_eq, decide_eq_false_iff_not, Bool.not_eq_eq_eq_not, Bool.not_true, Bool.not_false] at h) <;> simp only [zW, zX, zD, builtinA, isLeaf, const1, ustrA, simprocAttr, ti3, ti5, ti9, cf, Tryz.results152, h])
    | refine And.intro ?_ ?_
  · omega
  · rename_i h1
    rw [local_hi s h1 h]
  · rw [local_lo s ‹_›]
  · rw [local_no s ‹_›]
set_option maxRecDepth 100000 in
theorem impl_ModuleName (s : List UInt8) (A : List Box) : ACalls Tryz.prog 209 [.str s] A (fun v A' => v = .bool (moduleB s) ∧ A' = A) := by
  refine acalls_enter (cf := cf 20 [0, 2]) foll Tryz.func209 Tryz.ntmps209 (by simp [cf]) ?_
  simp only [Tryz.f209, EnterK_some, zW, zX, zD, builtinA, isLeaf, const1, ustrA, simprocAttr, ti3, ti5, ti9, cf, Tryz.results209]
  repeat' first
    | (refine guardT_intro (fun h => ?_) (fun h => ?_) <;> (try simp only [decide_eq_true_eq, decide_eq_false_iff_not, Bool.not_eq_eq_eq_not, Bool.not_true, Bool.not_false] at h) <;> simp only [zW, zX, zD, builtinA, isLeaf, const1, ustrA, simprocAttr, ti3, ti5, ti9, cf, Tryz.results209, h])
    | (refine guardF_intro (fun h => ?_) (fun h => ?_) <;> (try simp only [decide_eq_true_eq, decide_eq_false_iff_not, Bool.not_eq_eq_eq_not, Bool.not_true, Bool.not_false] at h) <;> simp only [zW, zX, zD, builtinA, isLeaf, const1, ustrA, simprocAttr, ti3, ti5, ti9, cf, Tryz.results209, h])
    | (refine condK_intro (fun h => ?_) (fun h => ?_) <;> (try simp only [decide_eq_true_eq, decide_eq_false_iff_not, Bool.not_eq_eq_eq_not, Bool.not_true, Bool.not_false] at h) <;> simp only [zW, zX, zD, builtinA, isLeaf, const1, ustrA, simprocAttr, ti3, ti5, ti9, cf, Tryz.results209, h])
    | (refine guardDT_intro (fun h => ?_) (fun h => ?_) <;> (try simp only [decide_eq_true_eq, decide_eq_false_iff_not, Bool.not_eq_eq_eq_not, Bool.not_true, Bool.not_false] at h) <;> simp only [zW, zX, zD, builtinA, isLeaf, const1, ustrA, simprocAttr, ti3, ti5, ti9, cf, Tryz.results209, h])
    | (refine guardDF_intro (fun h => ?_) (fun h => ?_) <;> (try simp only [decide_eq_true_eq, decide_eq_false_iff_not, Bool.not_eq_eq_eq_not, Bool.not_true, Bool.not_false] at h) <;> simp only [zW, zX, zD, builtinA, isLeaf, const1, ustrA, simprocAttr, ti3, ti5, ti9, cf, Tryz.results209, h])
    | refine And.intro ?_ ?_
  · omega
  · rename_i h1 h2
    rw [module_hi s h1 h2 h]
  · rw [module_up s ‹_›]
  · rw [module_lo s ‹_›]
  · rw [module_no s ‹_›]
set_option maxRecDepth 100000 in
theorem spec_ModuleName (s : List UInt8) (A : List Box) : ACalls Tryz.prog 198 [.str s] A (fun v A' => v = .bool (moduleB s) ∧ A' = A) := by
  refine acalls_enter (cf := cf 20 [0, 2]) foll Tryz.func198 Tryz.ntmps198 (by simp [cf]) ?_
  simp only [Tryz.f198, EnterK_some, zW, zX, zD, builtinA, isLeaf, const1, ustrA, simprocAttr, ti3, ti5, ti9, cf, Tryz.results198]
  repeat' first
    | (refine guardT_intro (fun h => ?_) (fun h => ?_) <;> (try simp only [decide_eq_true_eq, decide_eq_false_iff_not, Bool.not_eq_eq_eq_not, Bool.not_true, Bool.not_false] at h) <;> simp only [zW, zX, zD, builtinA, isLeaf, const1, ustrA, simprocAttr, ti3, ti5, ti9, cf, Tryz.results198, h])
    | (refine guardF_intro (fun h => ?_) (fun h => ?_) <;> (try simp only [decide_eq_true_eq, decide_eq_false_iff_not, Bool.not_eq_eq_eq_not, Bool.not_true, Bool.not_false] at h) <;> simp only [zW, zX, zD, builtinA, isLeaf, const1, ustrA, simprocAttr, ti3, ti5, ti9, cf, Tryz.results198, h])
    | (refine condK_intro (fun h => ?_) (fun h => ?_) <;> (try simp only [decide_eq_true_eq, decide_eq_false_iff_not, Bool.not_eq_eq_eq_not, Bool.not_true, Bool.not_false] at h) <;> simp only [zW, zX, zD, builtinA, isLeaf, const1, ustrA, simprocAttr, ti3, ti5, ti9, cf, Tryz.results198, h])
    | (refine guardDT_intro (fun h => ?_) (fun h => ?_) <;> (try simp only [decide_eq_true_eq, decide_eq_false_iff_not, Bool.not_eq_eq_eq_not, Bool.not_true, Bool.not_false] at h) <;> simp only [zW, zX, zD, builtinA, isLeaf, const1, ustrA, simprocAttr, ti3, ti5, ti9, cf, Tryz.results198, h])
    | (refine guardDF_intro (fun h => ?_) (fun h => ?_) <;> (try simp only [decide_eq_true_eq, decide_eq_false_iff_not, Bool.not_eq_eq_eq_not, Bool.not_true, Bool.not_false] at h) <;> simp only [zW, zX, zD, builtinA, isLeaf, const1, ustrA, simprocAttr, ti3, ti5, ti9, cf, Tryz.results198, h])
    | refine And.intro ?_ ?_
  · omega
  · rename_i h1 h2
    rw [module_hi s h1 h2 h]
  · rw [module_up s ‹_›]
  · rw [module_lo s ‹_›]
  · rw [module_no s ‹_›]
set_option maxRecDepth 100000 in
theorem impl_validName (m n : List UInt8) (A : List Box) : ACalls Tryz.prog 197 [.str m, .str n] A (fun v A' => v = .bool ((decide (m = []) || moduleB m) && localB n) ∧ A' = A) := by
  refine acalls_enter (cf := cf 15 [0, 1, 4]) foll Tryz.func197 Tryz.ntmps197 (by simp [cf]) ?_
  simp only [Tryz.f197, EnterK_some, zW, zX, zD, builtinA, isLeaf, const1, ustrA, simprocAttr, ti9, ca167, ca209, cf, Tryz.results197]
  by_cases hm : m = []
  · simp only [zW, zX, zD, builtinA, isLeaf, const1, ustrA, simprocAttr, ti9, ca167, ca209, cf, Tryz.results197, decide_eq_true hm]
    refine callK_intro (by simp only [zW, zX, zD, builtinA, isLeaf, const1, ustrA, simprocAttr, Option.map_some]; rfl) (impl_LocalName n _) ?_ rfl; rintro v A' ⟨rfl, rfl⟩
    simp only [zW, zX, zD, builtinA, isLeaf, const1, ustrA, simprocAttr, ti9, ca167, ca209, cf, Tryz.results197]
  · simp only [zW, zX, zD, builtinA, isLeaf, const1, ustrA, simprocAttr, ti9, ca167, ca209, cf, Tryz.results197, decide_eq_false hm]
    refine callK_intro (by simp only [zW, zX, zD, builtinA, isLeaf, const1, ustrA, simprocAttr, Option.map_some]; rfl) (impl_ModuleName m _) ?_ rfl; rintro v A' ⟨rfl, rfl⟩
    cases hmm : moduleB m with
    | true =>
      simp only [zW, zX, zD, builtinA, isLeaf, const1, ustrA, simprocAttr, ti9, ca167, ca209, cf, Tryz.results197]
      refine callK_intro (by simp only [zW, zX, zD, builtinA, isLeaf, const1, ustrA, simprocAttr, Option.map_some]; rfl) (impl_LocalName n _) ?_ rfl; rintro v A' ⟨rfl, rfl⟩
      simp only [zW, zX, zD, builtinA, isLeaf, const1, ustrA, simprocAttr, ti9, ca167, ca209, cf, Tryz.results197]
    | false =>
      simp only [zW, zX, zD, builtinA, isLeaf, const1, ustrA, simprocAttr, ti9, ca167, ca209, cf, Tryz.results197]

end Go.Proofs.YtpoknljchikklaaGreat
