/- Facts of this translation. -/
import Derived.Test.YtnocohhhinnifaaGreatRows
import Derived.Test.YtnocohhhinnifaaGreatAbsW3
namespace Go.Proofs.YtnocohhhinnifaaGreat
open Go.Abs
theorem za81 : zagg Tryz.prog 81 = some [.str [], .str []] := by kernel_rfl
theorem za130 : zagg Tryz.prog 130 = some [.nili, .nili] := by kernel_rfl
theorem za136 : zagg Tryz.prog 136 = some [.int .i64 0] := by kernel_rfl
theorem ks184 : keyS Tryz.prog 184 = some [(0, .ptr 42), (1, .int .i64)] := by kernel_rfl
theorem ks202 : keyS Tryz.prog 202 = some [(0, .ptr 40), (1, .int .i64)] := by kernel_rfl
theorem mi97 : mapInf Tryz.prog 97 = some (184, [(0, .ptr 42), (1, .int .i64)], 2, .agg [.nilp, .int .i64 0]) := by kernel_rfl
theorem mi103 : mapInf Tryz.prog 103 = some (202, [(0, .ptr 40), (1, .int .i64)], 2, .agg [.nilp, .int .i64 0]) := by kernel_rfl
theorem mi126 : mapInf Tryz.prog 126 = some (81, [(0, .str), (1, .str)], 2, .bool false) := by kernel_rfl
theorem mi168 : mapStr Tryz.prog 168 = some (9, .bool false) := by kernel_rfl
theorem ti2 : tinf Tryz.prog 2 = some { size := 1, bytes := 8, zero := some [.int .i64 0], kind := .int .i64 } := by kernel_rfl
theorem ti3 : tinf Tryz.prog 3 = some { size := 1, bytes := 8, zero := some [.int .i64 0], kind := .int .i64 } := by kernel_rfl
theorem ti4 : tinf Tryz.prog 4 = some { size := 1, bytes := 1, zero := some [.bool false], kind := .bool } := by kernel_rfl
theorem ti5 : tinf Tryz.prog 5 = some { size := 1, bytes := 1, zero := some [.int .u8 0], kind := .int .u8 } := by kernel_rfl
theorem ti9 : tinf Tryz.prog 9 = some { size := 1, bytes := 16, zero := some [.str []], kind := .str } := by kernel_rfl
theorem ti22 : tinf Tryz.prog 22 = some { size := 1, bytes := 24, zero := some [.nils], kind := .slice 59 } := by kernel_rfl
theorem ti25 : tinf Tryz.prog 25 = some { size := 1, bytes := 24, zero := some [.nils], kind := .slice 62 } := by kernel_rfl
theorem ti29 : tinf Tryz.prog 29 = some { size := 1, bytes := 24, zero := some [.nils], kind := .slice 31 } := by kernel_rfl
theorem ti31 : tinf Tryz.prog 31 = some { size := 4, bytes := 64, zero := some [.int .i64 0, .str [], .str [], .nils], kind := .struct [(0, 3, 1), (1, 9, 1), (2, 9, 1), (3, 29, 1)] } := by kernel_rfl
theorem ti32 : tinf Tryz.prog 32 = some { size := 1, bytes := 24, zero := some [.nils], kind := .slice 34 } := by kernel_rfl
theorem ti34 : tinf Tryz.prog 34 = some { size := 9, bytes := 136, zero := some [.int .i64 0, .int .i64 0, .str [], .str [], .int .i64 0, .str [], .str [], .nils, .nils], kind := .struct [(0, 3, 1), (1, 3, 1), (2, 9, 1), (3, 9, 1), (4, 31, 4), (8, 32, 1)] } := by kernel_rfl
theorem ti36 : tinf Tryz.prog 36 = some { size := 1, bytes := 24, zero := some [.nils], kind := .slice 42 } := by kernel_rfl
theorem ti37 : tinf Tryz.prog 37 = some { size := 1, bytes := 8, zero := some [.nilf], kind := .func } := by kernel_rfl
theorem ti38 : tinf Tryz.prog 38 = some { size := 1, bytes := 24, zero := some [.nils], kind := .slice 40 } := by kernel_rfl
theorem ti40 : tinf Tryz.prog 40 = some { size := 4, bytes := 64, zero := some [.int .i64 0, .str [], .str [], .nils], kind := .struct [(0, 3, 1), (1, 9, 1), (2, 9, 1), (3, 38, 1)] } := by kernel_rfl
theorem ti42 : tinf Tryz.prog 42 = some { size := 9, bytes := 136, zero := some [.int .i64 0, .int .i64 0, .str [], .str [], .int .i64 0, .str [], .str [], .nils, .nils], kind := .struct [(0, 3, 1), (1, 3, 1), (2, 9, 1), (3, 9, 1), (4, 40, 4), (8, 36, 1)] } := by kernel_rfl
theorem ti45 : tinf Tryz.prog 45 = some { size := 1, bytes := 8, zero := some [.nilf], kind := .func } := by kernel_rfl
theorem ti49 : tinf Tryz.prog 49 = some { size := 1, bytes := 24, zero := some [.nils], kind := .slice 5 } := by kernel_rfl
theorem ti59 : tinf Tryz.prog 59 = some { size := 15, bytes := 224, zero := some [.int .i64 0, .str [], .int .i64 0, .str [], .str [], .nils, .int .i64 0, .int .i64 0, .str [], .str [], .int .i64 0, .str [], .str [], .nils, .nils], kind := .struct [(0, 3, 1), (1, 9, 1), (2, 31, 4), (6, 34, 9)] } := by kernel_rfl
theorem ti62 : tinf Tryz.prog 62 = some { size := 15, bytes := 224, zero := some [.int .i64 0, .str [], .int .i64 0, .str [], .str [], .nils, .int .i64 0, .int .i64 0, .str [], .str [], .int .i64 0, .str [], .str [], .nils, .nils], kind := .struct [(0, 3, 1), (1, 9, 1), (2, 40, 4), (6, 42, 9)] } := by kernel_rfl
theorem ti64 : tinf Tryz.prog 64 = some { size := 1, bytes := 24, zero := some [.nils], kind := .slice 116 } := by kernel_rfl
theorem ti65 : tinf Tryz.prog 65 = some { size := 1, bytes := 24, zero := some [.nils], kind := .slice 116 } := by kernel_rfl
theorem ti75 : tinf Tryz.prog 75 = some { size := 1, bytes := 16, zero := some [.nili], kind := .iface } := by kernel_rfl
theorem ti78 : tinf Tryz.prog 78 = some { size := 1, bytes := 8, zero := some [.nilf], kind := .func } := by kernel_rfl
theorem ti81 : tinf Tryz.prog 81 = some { size := 2, bytes := 32, zero := some [.str [], .str []], kind := .struct [(0, 9, 1), (1, 9, 1)] } := by kernel_rfl
theorem ti86 : tinf Tryz.prog 86 = some { size := 1, bytes := 8, zero := some [.nilf], kind := .func } := by kernel_rfl
theorem ti97 : tinf Tryz.prog 97 = some { size := 1, bytes := 8, zero := some [.nilm], kind := .map 184 184 } := by kernel_rfl
theorem ti99 : tinf Tryz.prog 99 = some { size := 3, bytes := 24, zero := some [.nilf, .nilf, .nilm], kind := .struct [(0, 37, 1), (1, 45, 1), (2, 97, 1)] } := by kernel_rfl
theorem ti101 : tinf Tryz.prog 101 = some { size := 1, bytes := 8, zero := some [.nilf], kind := .func } := by kernel_rfl
theorem ti103 : tinf Tryz.prog 103 = some { size := 1, bytes := 8, zero := some [.nilm], kind := .map 202 202 } := by kernel_rfl
theorem ti105 : tinf Tryz.prog 105 = some { size := 3, bytes := 24, zero := some [.nilf, .nilf, .nilm], kind := .struct [(0, 101, 1), (1, 86, 1), (2, 103, 1)] } := by kernel_rfl
theorem ti116 : tinf Tryz.prog 116 = some { size := 1, bytes := 16, zero := some [.nili], kind := .iface } := by kernel_rfl
theorem ti122 : tinf Tryz.prog 122 = some { size := 1, bytes := 8, zero := some [.int .i64 0], kind := .int .i64 } := by kernel_rfl
theorem ti124 : tinf Tryz.prog 124 = some { size := 1, bytes := 8, zero := some [.int .i64 0], kind := .struct [(0, 122, 1)] } := by kernel_rfl
theorem ti126 : tinf Tryz.prog 126 = some { size := 1, bytes := 8, zero := some [.nilm], kind := .map 81 4 } := by kernel_rfl
theorem ti128 : tinf Tryz.prog 128 = some { size := 1, bytes := 16, zero := some [.nili], kind := .iface } := by kernel_rfl
theorem ti130 : tinf Tryz.prog 130 = some { size := 2, bytes := 32, zero := some [.nili, .nili], kind := .struct [(0, 128, 1), (1, 75, 1)] } := by kernel_rfl
theorem ti132 : tinf Tryz.prog 132 = some { size := 1, bytes := 24, zero := some [.nils], kind := .slice 75 } := by kernel_rfl
theorem ti136 : tinf Tryz.prog 136 = some { size := 1, bytes := 8, zero := some [.int .i64 0], kind := .struct [(0, 3, 1)] } := by kernel_rfl
theorem ti139 : tinf Tryz.prog 139 = some { size := 2, bytes := 32, zero := some [.nils, .int .i64 0], kind := .struct [(0, 49, 1), (1, 3, 1)] } := by kernel_rfl
theorem ti142 : tinf Tryz.prog 142 = some { size := 1, bytes := 24, zero := some [.nils], kind := .slice 3 } := by kernel_rfl
theorem ti145 : tinf Tryz.prog 145 = some { size := 1, bytes := 24, zero := some [.nils], kind := .slice 9 } := by kernel_rfl
theorem ti148 : tinf Tryz.prog 148 = some { size := 2, bytes := 48, zero := some [.nils, .nils], kind := .struct [(0, 36, 1), (1, 36, 1)] } := by kernel_rfl
theorem ti149 : tinf Tryz.prog 149 = some { size := 1, bytes := 24, zero := some [.nils], kind := .slice 148 } := by kernel_rfl
theorem ti152 : tinf Tryz.prog 152 = some { size := 1, bytes := 8, zero := some [.nilp], kind := .ptr 154 } := by kernel_rfl
theorem ti154 : tinf Tryz.prog 154 = some { size := 2, bytes := 32, zero := some [.nilp, .nils], kind := .struct [(0, 152, 1), (1, 49, 1)] } := by kernel_rfl
theorem ti165 : tinf Tryz.prog 165 = some { size := 2, bytes := 32, zero := some [.str [], .nili], kind := .struct [(0, 9, 1), (1, 128, 1)] } := by kernel_rfl
theorem ti167 : tinf Tryz.prog 167 = some { size := 2, bytes := 32, zero := some [.str [], .nili], kind := .struct [(0, 9, 1), (1, 75, 1)] } := by kernel_rfl
theorem ti168 : tinf Tryz.prog 168 = some { size := 1, bytes := 8, zero := some [.nilm], kind := .map 9 4 } := by kernel_rfl
theorem ti170 : tinf Tryz.prog 170 = some { size := 2, bytes := 16, zero := some [.nilm, .nilm], kind := .struct [(0, 168, 1), (1, 168, 1)] } := by kernel_rfl
theorem ti172 : tinf Tryz.prog 172 = some { size := 1, bytes := 8, zero := some [.nilp], kind := .ptr 124 } := by kernel_rfl
theorem ti180 : tinf Tryz.prog 180 = some { size := 2, bytes := 48, zero := some [.nils, .nils], kind := .struct [(0, 38, 1), (1, 38, 1)] } := by kernel_rfl
theorem ti181 : tinf Tryz.prog 181 = some { size := 1, bytes := 24, zero := some [.nils], kind := .slice 180 } := by kernel_rfl
theorem ti184 : tinf Tryz.prog 184 = some { size := 2, bytes := 16, zero := some [.nilp, .int .i64 0], kind := .struct [(0, 182, 1), (1, 3, 1)] } := by kernel_rfl
theorem ti186 : tinf Tryz.prog 186 = some { size := 1, bytes := 8, zero := some [.nilp], kind := .ptr 5 } := by kernel_rfl
theorem ti190 : tinf Tryz.prog 190 = some { size := 1, bytes := 8, zero := some [.int .i64 0], kind := .struct [(0, 3, 1)] } := by kernel_rfl
theorem ti193 : tinf Tryz.prog 193 = some { size := 2, bytes := 32, zero := some [.nili, .nili], kind := .struct [(0, 75, 1), (1, 75, 1)] } := by kernel_rfl
theorem ti195 : tinf Tryz.prog 195 = some { size := 2, bytes := 32, zero := some [.nili, .nili], kind := .struct [(0, 75, 1), (1, 75, 1)] } := by kernel_rfl
theorem ti197 : tinf Tryz.prog 197 = some { size := 3, bytes := 48, zero := some [.nili, .nili, .nili], kind := .struct [(0, 75, 1), (1, 75, 1), (2, 75, 1)] } := by kernel_rfl
theorem ti202 : tinf Tryz.prog 202 = some { size := 2, bytes := 16, zero := some [.nilp, .int .i64 0], kind := .struct [(0, 200, 1), (1, 3, 1)] } := by kernel_rfl
theorem ti206 : tinf Tryz.prog 206 = some { size := 0, bytes := 0, zero := some [], kind := .struct [] } := by kernel_rfl
theorem ti207 : tinf Tryz.prog 207 = some { size := 2, bytes := 32, zero := some [.str [], .str []], kind := .struct [(0, 9, 1), (1, 9, 1)] } := by kernel_rfl
theorem ti211 : tinf Tryz.prog 211 = some { size := 2, bytes := 32, zero := some [.nili, .nili], kind := .struct [(0, 128, 1), (1, 128, 1)] } := by kernel_rfl
theorem ti217 : tinf Tryz.prog 217 = some { size := 1, bytes := 4, zero := some [.int .u32 0], kind := .int .u32 } := by kernel_rfl
theorem ti230 : tinf Tryz.prog 230 = some { size := 1, bytes := 8, zero := some [.nilp], kind := .other } := by kernel_rfl
theorem ti241 : tinf Tryz.prog 241 = some { size := 24, bytes := 24, zero := some [.int .u8 0, .int .u8 0, .int .u8 0, .int .u8 0, .int .u8 0, .int .u8 0, .int .u8 0, .int .u8 0, .int .u8 0, .int .u8 0, .int .u8 0, .int .u8 0, .int .u8 0, .int .u8 0, .int .u8 0, .int .u8 0, .int .u8 0, .int .u8 0, .int .u8 0, .int .u8 0, .int .u8 0, .int .u8 0, .int .u8 0, .int .u8 0], kind := .other } := by kernel_rfl
theorem ti242 : tinf Tryz.prog 242 = some { size := 1, bytes := 8, zero := some [.int .u64 0], kind := .int .u64 } := by kernel_rfl
theorem ti248 : tinf Tryz.prog 248 = some { size := 20, bytes := 160, zero := some [.int .u64 0, .int .u64 0, .int .u64 0, .int .u64 0, .int .u64 0, .int .u64 0, .int .u64 0, .int .u64 0, .int .u64 0, .int .u64 0, .int .u64 0, .int .u64 0, .int .u64 0, .int .u64 0, .int .u64 0, .int .u64 0, .int .u64 0, .int .u64 0, .int .u64 0, .int .u64 0], kind := .other } := by kernel_rfl
theorem ti249 : tinf Tryz.prog 249 = some { size := 65, bytes := 65, zero := some [.int .u8 0, .int .u8 0, .int .u8 0, .int .u8 0, .int .u8 0, .int .u8 0, .int .u8 0, .int .u8 0, .int .u8 0, .int .u8 0, .int .u8 0, .int .u8 0, .int .u8 0, .int .u8 0, .int .u8 0, .int .u8 0, .int .u8 0, .int .u8 0, .int .u8 0, .int .u8 0, .int .u8 0, .int .u8 0, .int .u8 0, .int .u8 0, .int .u8 0, .int .u8 0, .int .u8 0, .int .u8 0, .int .u8 0, .int .u8 0, .int .u8 0, .int .u8 0, .int .u8 0, .int .u8 0, .int .u8 0, .int .u8 0, .int .u8 0, .int .u8 0, .int .u8 0, .int .u8 0, .int .u8 0, .int .u8 0, .int .u8 0, .int .u8 0, .int .u8 0, .int .u8 0, .int .u8 0, .int .u8 0, .int .u8 0, .int .u8 0, .int .u8 0, .int .u8 0, .int .u8 0, .int .u8 0, .int .u8 0, .int .u8 0, .int .u8 0, .int .u8 0, .int .u8 0, .int .u8 0, .int .u8 0, .int .u8 0, .int .u8 0, .int .u8 0, .int .u8 0], kind := .other } := by kernel_rfl
theorem ti250 : tinf Tryz.prog 250 = some { size := 1, bytes := 8, zero := some [.int .u64 0], kind := .int .u64 } := by kernel_rfl
theorem ti253 : tinf Tryz.prog 253 = some { size := 32, bytes := 32, zero := some [.int .u8 0, .int .u8 0, .int .u8 0, .int .u8 0, .int .u8 0, .int .u8 0, .int .u8 0, .int .u8 0, .int .u8 0, .int .u8 0, .int .u8 0, .int .u8 0, .int .u8 0, .int .u8 0, .int .u8 0, .int .u8 0, .int .u8 0, .int .u8 0, .int .u8 0, .int .u8 0, .int .u8 0, .int .u8 0, .int .u8 0, .int .u8 0, .int .u8 0, .int .u8 0, .int .u8 0, .int .u8 0, .int .u8 0, .int .u8 0, .int .u8 0, .int .u8 0], kind := .other } := by kernel_rfl
theorem ti254 : tinf Tryz.prog 254 = some { size := 64, bytes := 64, zero := some [.int .u8 0, .int .u8 0, .int .u8 0, .int .u8 0, .int .u8 0, .int .u8 0, .int .u8 0, .int .u8 0, .int .u8 0, .int .u8 0, .int .u8 0, .int .u8 0, .int .u8 0, .int .u8 0, .int .u8 0, .int .u8 0, .int .u8 0, .int .u8 0, .int .u8 0, .int .u8 0, .int .u8 0, .int .u8 0, .int .u8 0, .int .u8 0, .int .u8 0, .int .u8 0, .int .u8 0, .int .u8 0, .int .u8 0, .int .u8 0, .int .u8 0, .int .u8 0, .int .u8 0, .int .u8 0, .int .u8 0, .int .u8 0, .int .u8 0, .int .u8 0, .int .u8 0, .int .u8 0, .int .u8 0, .int .u8 0, .int .u8 0, .int .u8 0, .int .u8 0, .int .u8 0, .int .u8 0, .int .u8 0, .int .u8 0, .int .u8 0, .int .u8 0, .int .u8 0, .int .u8 0, .int .u8 0, .int .u8 0, .int .u8 0, .int .u8 0, .int .u8 0, .int .u8 0, .int .u8 0, .int .u8 0, .int .u8 0, .int .u8 0, .int .u8 0], kind := .other } := by kernel_rfl
theorem ti270 : tinf Tryz.prog 270 = some { size := 1, bytes := 16, zero := some [.nili], kind := .iface } := by kernel_rfl
theorem ti272 : tinf Tryz.prog 272 = some { size := 1, bytes := 24, zero := some [.nils], kind := .slice 270 } := by kernel_rfl
theorem ti273 : tinf Tryz.prog 273 = some { size := 1, bytes := 24, zero := some [.nils], kind := .slice 270 } := by kernel_rfl
theorem ca8 : callable Tryz.prog 8 = true := by kernel_rfl
theorem ca9 : callable Tryz.prog 9 = true := by kernel_rfl
theorem ca10 : callable Tryz.prog 10 = true := by kernel_rfl
theorem ca11 : callable Tryz.prog 11 = true := by kernel_rfl
theorem ca12 : callable Tryz.prog 12 = true := by kernel_rfl
theorem ca13 : callable Tryz.prog 13 = true := by kernel_rfl
theorem ca14 : callable Tryz.prog 14 = true := by kernel_rfl
theorem ca15 : callable Tryz.prog 15 = true := by kernel_rfl
theorem ca16 : callable Tryz.prog 16 = true := by kernel_rfl
theorem ca17 : callable Tryz.prog 17 = true := by kernel_rfl
theorem ca18 : callable Tryz.prog 18 = true := by kernel_rfl
theorem ca19 : callable Tryz.prog 19 = true := by kernel_rfl
theorem ca20 : callable Tryz.prog 20 = true := by kernel_rfl
theorem ca21 : callable Tryz.prog 21 = true := by kernel_rfl
theorem ca22 : callable Tryz.prog 22 = true := by kernel_rfl
theorem ca23 : callable Tryz.prog 23 = true := by kernel_rfl
theorem ca24 : callable Tryz.prog 24 = true := by kernel_rfl
theorem ca25 : callable Tryz.prog 25 = true := by kernel_rfl
theorem ca26 : callable Tryz.prog 26 = true := by kernel_rfl
theorem ca27 : callable Tryz.prog 27 = true := by kernel_rfl
theorem ca28 : callable Tryz.prog 28 = true := by kernel_rfl
theorem ca29 : callable Tryz.prog 29 = true := by kernel_rfl
theorem ca30 : callable Tryz.prog 30 = true := by kernel_rfl
theorem ca31 : callable Tryz.prog 31 = true := by kernel_rfl
theorem ca32 : callable Tryz.prog 32 = true := by kernel_rfl
theorem ca33 : callable Tryz.prog 33 = true := by kernel_rfl
theorem ca34 : callable Tryz.prog 34 = true := by kernel_rfl
theorem ca35 : callable Tryz.prog 35 = true := by kernel_rfl
theorem ca36 : callable Tryz.prog 36 = true := by kernel_rfl
theorem ca37 : callable Tryz.prog 37 = true := by kernel_rfl
theorem ca38 : callable Tryz.prog 38 = true := by kernel_rfl
theorem ca39 : callable Tryz.prog 39 = true := by kernel_rfl
theorem ca40 : callable Tryz.prog 40 = true := by kernel_rfl
theorem ca41 : callable Tryz.prog 41 = true := by kernel_rfl
theorem ca42 : callable Tryz.prog 42 = true := by kernel_rfl
theorem ca43 : callable Tryz.prog 43 = true := by kernel_rfl
theorem ca45 : callable Tryz.prog 45 = true := by kernel_rfl
theorem ca46 : callable Tryz.prog 46 = true := by kernel_rfl
theorem ca48 : callable Tryz.prog 48 = true := by kernel_rfl
theorem ca49 : callable Tryz.prog 49 = true := by kernel_rfl
theorem ca50 : callable Tryz.prog 50 = true := by kernel_rfl
theorem ca51 : callable Tryz.prog 51 = true := by kernel_rfl
theorem ca52 : callable Tryz.prog 52 = true := by kernel_rfl
theorem ca53 : callable Tryz.prog 53 = true := by kernel_rfl
theorem ca54 : callable Tryz.prog 54 = true := by kernel_rfl
theorem ca55 : callable Tryz.prog 55 = true := by kernel_rfl
theorem ca56 : callable Tryz.prog 56 = true := by kernel_rfl
theorem ca57 : callable Tryz.prog 57 = true := by kernel_rfl
theorem ca58 : callable Tryz.prog 58 = true := by kernel_rfl
theorem ca59 : callable Tryz.prog 59 = true := by kernel_rfl
theorem ca60 : callable Tryz.prog 60 = true := by kernel_rfl
theorem ca61 : callable Tryz.prog 61 = true := by kernel_rfl
theorem ca62 : callable Tryz.prog 62 = true := by kernel_rfl
theorem ca63 : callable Tryz.prog 63 = true := by kernel_rfl
theorem ca64 : callable Tryz.prog 64 = true := by kernel_rfl
theorem ca65 : callable Tryz.prog 65 = true := by kernel_rfl
theorem ca66 : callable Tryz.prog 66 = true := by kernel_rfl
theorem ca67 : callable Tryz.prog 67 = true := by kernel_rfl
theorem ca68 : callable Tryz.prog 68 = true := by kernel_rfl
theorem ca69 : callable Tryz.prog 69 = true := by kernel_rfl
theorem ca70 : callable Tryz.prog 70 = true := by kernel_rfl
theorem ca71 : callable Tryz.prog 71 = true := by kernel_rfl
theorem ca72 : callable Tryz.prog 72 = true := by kernel_rfl
theorem ca74 : callable Tryz.prog 74 = true := by kernel_rfl
theorem ca75 : callable Tryz.prog 75 = true := by kernel_rfl
theorem ca76 : callable Tryz.prog 76 = true := by kernel_rfl
theorem ca77 : callable Tryz.prog 77 = true := by kernel_rfl
theorem ca78 : callable Tryz.prog 78 = true := by kernel_rfl
theorem ca79 : callable Tryz.prog 79 = true := by kernel_rfl
theorem ca81 : callable Tryz.prog 81 = true := by kernel_rfl
theorem ca83 : callable Tryz.prog 83 = true := by kernel_rfl
theorem ca84 : callable Tryz.prog 84 = true := by kernel_rfl
theorem ca85 : callable Tryz.prog 85 = true := by kernel_rfl
theorem ca86 : callable Tryz.prog 86 = true := by kernel_rfl
theorem ca87 : callable Tryz.prog 87 = true := by kernel_rfl
theorem ca90 : callable Tryz.prog 90 = true := by kernel_rfl
theorem ca93 : callable Tryz.prog 93 = true := by kernel_rfl
theorem ca94 : callable Tryz.prog 94 = true := by kernel_rfl
theorem ca95 : callable Tryz.prog 95 = true := by kernel_rfl
theorem ca96 : callable Tryz.prog 96 = true := by kernel_rfl
theorem ca97 : callable Tryz.prog 97 = true := by kernel_rfl
theorem ca98 : callable Tryz.prog 98 = true := by kernel_rfl
theorem ca99 : callable Tryz.prog 99 = true := by kernel_rfl
theorem ca100 : callable Tryz.prog 100 = true := by kernel_rfl
theorem ca101 : callable Tryz.prog 101 = true := by kernel_rfl
theorem ca102 : callable Tryz.prog 102 = true := by kernel_rfl
theorem ca103 : callable Tryz.prog 103 = true := by kernel_rfl
theorem ca104 : callable Tryz.prog 104 = true := by kernel_rfl
theorem ca105 : callable Tryz.prog 105 = true := by kernel_rfl
theorem ca106 : callable Tryz.prog 106 = true := by kernel_rfl
theorem ca107 : callable Tryz.prog 107 = true := by kernel_rfl
theorem ca109 : callable Tryz.prog 109 = true := by kernel_rfl
theorem ca110 : callable Tryz.prog 110 = true := by kernel_rfl
theorem ca111 : callable Tryz.prog 111 = true := by kernel_rfl
theorem ca112 : callable Tryz.prog 112 = true := by kernel_rfl
theorem ca113 : callable Tryz.prog 113 = true := by kernel_rfl
theorem ca114 : callable Tryz.prog 114 = true := by kernel_rfl
theorem ca115 : callable Tryz.prog 115 = true := by kernel_rfl
theorem ca116 : callable Tryz.prog 116 = true := by kernel_rfl
theorem ca117 : callable Tryz.prog 117 = true := by kernel_rfl
theorem ca118 : callable Tryz.prog 118 = true := by kernel_rfl
theorem ca119 : callable Tryz.prog 119 = true := by kernel_rfl
theorem ca120 : callable Tryz.prog 120 = true := by kernel_rfl
theorem ca121 : callable Tryz.prog 121 = true := by kernel_rfl
theorem ca122 : callable Tryz.prog 122 = true := by kernel_rfl
theorem ca123 : callable Tryz.prog 123 = true := by kernel_rfl
theorem ca124 : callable Tryz.prog 124 = true := by kernel_rfl
theorem ca141 : callable Tryz.prog 141 = true := by kernel_rfl
theorem ca142 : callable Tryz.prog 142 = true := by kernel_rfl
theorem ca143 : callable Tryz.prog 143 = true := by kernel_rfl
theorem ca149 : callable Tryz.prog 149 = true := by kernel_rfl
theorem ca150 : callable Tryz.prog 150 = true := by kernel_rfl
theorem ca162 : callable Tryz.prog 162 = true := by kernel_rfl
theorem ca163 : callable Tryz.prog 163 = true := by kernel_rfl
theorem ca164 : callable Tryz.prog 164 = true := by kernel_rfl
theorem ca165 : callable Tryz.prog 165 = true := by kernel_rfl
theorem ca166 : callable Tryz.prog 166 = true := by kernel_rfl
theorem ca167 : callable Tryz.prog 167 = true := by kernel_rfl
theorem ca168 : callable Tryz.prog 168 = true := by kernel_rfl
theorem ca169 : callable Tryz.prog 169 = true := by kernel_rfl
theorem ca170 : callable Tryz.prog 170 = true := by kernel_rfl
theorem ca171 : callable Tryz.prog 171 = true := by kernel_rfl
theorem ca172 : callable Tryz.prog 172 = true := by kernel_rfl
theorem ca173 : callable Tryz.prog 173 = true := by kernel_rfl
theorem ca174 : callable Tryz.prog 174 = true := by kernel_rfl
theorem ca175 : callable Tryz.prog 175 = true := by kernel_rfl
theorem ca181 : callable Tryz.prog 181 = true := by kernel_rfl
theorem ca182 : callable Tryz.prog 182 = true := by kernel_rfl
theorem ca188 : callable Tryz.prog 188 = true := by kernel_rfl
theorem ca189 : callable Tryz.prog 189 = true := by kernel_rfl
theorem ca197 : callable Tryz.prog 197 = true := by kernel_rfl
theorem ca201 : callable Tryz.prog 201 = true := by kernel_rfl
theorem ca203 : callable Tryz.prog 203 = true := by kernel_rfl
theorem ca208 : callable Tryz.prog 208 = true := by kernel_rfl
theorem ca238 : callable Tryz.prog 238 = true := by kernel_rfl
theorem foll : Tryz.prog.follows .mixedOrders = true := by kernel_rfl
theorem laid : laidOutB Tryz.prog = true := by kernel_rfl
theorem ownk : ownKnob Tryz.prog.godebug = none := by kernel_rfl
def cf (N : Nat) (vs : List Nat) : Cfg := { own := fun _ => false, N := N, vs := vs }
end Go.Proofs.YtnocohhhinnifaaGreat
