/- Facts of this translation. -/
import Derived.Test.YtamicokgpigmkaaGreatRows
import Derived.Test.YtamicokgpigmkaaGreatAbsW3
namespace Go.Proofs.YtamicokgpigmkaaGreat
open Go.Abs
theorem za123 : zagg Tryz.prog 123 = some [.int .i64 0] := by kernel_rfl
theorem za141 : zagg Tryz.prog 141 = some [.str []] := by kernel_rfl
theorem za164 : zagg Tryz.prog 164 = some [.nili, .nili] := by kernel_rfl
theorem ks93 : keyS Tryz.prog 93 = some [(0, .bool), (1, .str)] := by kernel_rfl
theorem ks204 : keyS Tryz.prog 204 = some [(0, .ptr 39), (1, .int .i64)] := by kernel_rfl
theorem mi152 : mapInf Tryz.prog 152 = some (93, [(0, .bool), (1, .str)], 2, .bool false) := by kernel_rfl
theorem mi167 : mapInf Tryz.prog 167 = some (144, [(0, .str), (1, .str)], 2, .nili) := by kernel_rfl
theorem mi179 : mapInf Tryz.prog 179 = some (204, [(0, .ptr 39), (1, .int .i64)], 2, .agg [.nilp, .int .i64 0]) := by kernel_rfl
theorem ti2 : tinf Tryz.prog 2 = some { size := 1, bytes := 8, zero := some [.int .i64 0], kind := .int .i64 } := by kernel_rfl
theorem ti3 : tinf Tryz.prog 3 = some { size := 1, bytes := 8, zero := some [.int .i64 0], kind := .int .i64 } := by kernel_rfl
theorem ti4 : tinf Tryz.prog 4 = some { size := 1, bytes := 1, zero := some [.bool false], kind := .bool } := by kernel_rfl
theorem ti5 : tinf Tryz.prog 5 = some { size := 1, bytes := 1, zero := some [.int .u8 0], kind := .int .u8 } := by kernel_rfl
theorem ti9 : tinf Tryz.prog 9 = some { size := 1, bytes := 16, zero := some [.str []], kind := .str } := by kernel_rfl
theorem ti22 : tinf Tryz.prog 22 = some { size := 1, bytes := 24, zero := some [.nils], kind := .slice 58 } := by kernel_rfl
theorem ti25 : tinf Tryz.prog 25 = some { size := 1, bytes := 24, zero := some [.nils], kind := .slice 61 } := by kernel_rfl
theorem ti29 : tinf Tryz.prog 29 = some { size := 1, bytes := 24, zero := some [.nils], kind := .slice 31 } := by kernel_rfl
theorem ti31 : tinf Tryz.prog 31 = some { size := 4, bytes := 64, zero := some [.int .i64 0, .str [], .str [], .nils], kind := .struct [(0, 3, 1), (1, 9, 1), (2, 9, 1), (3, 29, 1)] } := by kernel_rfl
theorem ti32 : tinf Tryz.prog 32 = some { size := 1, bytes := 24, zero := some [.nils], kind := .slice 34 } := by kernel_rfl
theorem ti34 : tinf Tryz.prog 34 = some { size := 9, bytes := 136, zero := some [.int .i64 0, .int .i64 0, .str [], .str [], .int .i64 0, .str [], .str [], .nils, .nils], kind := .struct [(0, 3, 1), (1, 3, 1), (2, 9, 1), (3, 9, 1), (4, 31, 4), (8, 32, 1)] } := by kernel_rfl
theorem ti37 : tinf Tryz.prog 37 = some { size := 1, bytes := 24, zero := some [.nils], kind := .slice 39 } := by kernel_rfl
theorem ti39 : tinf Tryz.prog 39 = some { size := 4, bytes := 64, zero := some [.int .i64 0, .str [], .str [], .nils], kind := .struct [(0, 3, 1), (1, 9, 1), (2, 9, 1), (3, 37, 1)] } := by kernel_rfl
theorem ti40 : tinf Tryz.prog 40 = some { size := 1, bytes := 24, zero := some [.nils], kind := .slice 42 } := by kernel_rfl
theorem ti42 : tinf Tryz.prog 42 = some { size := 9, bytes := 136, zero := some [.int .i64 0, .int .i64 0, .str [], .str [], .int .i64 0, .str [], .str [], .nils, .nils], kind := .struct [(0, 3, 1), (1, 3, 1), (2, 9, 1), (3, 9, 1), (4, 39, 4), (8, 40, 1)] } := by kernel_rfl
theorem ti52 : tinf Tryz.prog 52 = some { size := 1, bytes := 8, zero := some [.nilf], kind := .func } := by kernel_rfl
theorem ti58 : tinf Tryz.prog 58 = some { size := 6, bytes := 88, zero := some [.int .i64 0, .str [], .int .i64 0, .str [], .str [], .nils], kind := .struct [(0, 3, 1), (1, 9, 1), (2, 31, 4)] } := by kernel_rfl
theorem ti61 : tinf Tryz.prog 61 = some { size := 6, bytes := 88, zero := some [.int .i64 0, .str [], .int .i64 0, .str [], .str [], .nils], kind := .struct [(0, 3, 1), (1, 9, 1), (2, 39, 4)] } := by kernel_rfl
theorem ti63 : tinf Tryz.prog 63 = some { size := 1, bytes := 24, zero := some [.nils], kind := .slice 103 } := by kernel_rfl
theorem ti64 : tinf Tryz.prog 64 = some { size := 1, bytes := 24, zero := some [.nils], kind := .slice 103 } := by kernel_rfl
theorem ti76 : tinf Tryz.prog 76 = some { size := 1, bytes := 16, zero := some [.nili], kind := .iface } := by kernel_rfl
theorem ti83 : tinf Tryz.prog 83 = some { size := 1, bytes := 24, zero := some [.nils], kind := .slice 129 } := by kernel_rfl
theorem ti93 : tinf Tryz.prog 93 = some { size := 2, bytes := 24, zero := some [.bool false, .str []], kind := .struct [(0, 4, 1), (1, 9, 1)] } := by kernel_rfl
theorem ti103 : tinf Tryz.prog 103 = some { size := 1, bytes := 16, zero := some [.nili], kind := .iface } := by kernel_rfl
theorem ti108 : tinf Tryz.prog 108 = some { size := 1, bytes := 8, zero := some [.nilp], kind := .ptr 111 } := by kernel_rfl
theorem ti109 : tinf Tryz.prog 109 = some { size := 1, bytes := 24, zero := some [.nils], kind := .slice 5 } := by kernel_rfl
theorem ti111 : tinf Tryz.prog 111 = some { size := 2, bytes := 32, zero := some [.nilp, .nils], kind := .struct [(0, 108, 1), (1, 109, 1)] } := by kernel_rfl
theorem ti117 : tinf Tryz.prog 117 = some { size := 1, bytes := 8, zero := some [.int .i64 0], kind := .int .i64 } := by kernel_rfl
theorem ti119 : tinf Tryz.prog 119 = some { size := 1, bytes := 8, zero := some [.int .i64 0], kind := .struct [(0, 117, 1)] } := by kernel_rfl
theorem ti123 : tinf Tryz.prog 123 = some { size := 1, bytes := 8, zero := some [.int .i64 0], kind := .struct [(0, 3, 1)] } := by kernel_rfl
theorem ti129 : tinf Tryz.prog 129 = some { size := 6, bytes := 96, zero := some [.str [], .str [], .int .i64 0, .str [], .str [], .nils], kind := .struct [(0, 9, 1), (1, 9, 1), (2, 39, 4)] } := by kernel_rfl
theorem ti135 : tinf Tryz.prog 135 = some { size := 1, bytes := 16, zero := some [.nili], kind := .iface } := by kernel_rfl
theorem ti141 : tinf Tryz.prog 141 = some { size := 1, bytes := 16, zero := some [.str []], kind := .struct [(0, 9, 1)] } := by kernel_rfl
theorem ti144 : tinf Tryz.prog 144 = some { size := 2, bytes := 32, zero := some [.str [], .str []], kind := .struct [(0, 9, 1), (1, 9, 1)] } := by kernel_rfl
theorem ti146 : tinf Tryz.prog 146 = some { size := 2, bytes := 32, zero := some [.str [], .nili], kind := .struct [(0, 9, 1), (1, 135, 1)] } := by kernel_rfl
theorem ti151 : tinf Tryz.prog 151 = some { size := 2, bytes := 32, zero := some [.str [], .nili], kind := .struct [(0, 9, 1), (1, 135, 1)] } := by kernel_rfl
theorem ti152 : tinf Tryz.prog 152 = some { size := 1, bytes := 8, zero := some [.nilm], kind := .map 93 4 } := by kernel_rfl
theorem ti156 : tinf Tryz.prog 156 = some { size := 1, bytes := 8, zero := some [.nilp], kind := .ptr 5 } := by kernel_rfl
theorem ti157 : tinf Tryz.prog 157 = some { size := 1, bytes := 8, zero := some [.nilp], kind := .ptr 119 } := by kernel_rfl
theorem ti159 : tinf Tryz.prog 159 = some { size := 1, bytes := 24, zero := some [.nils], kind := .slice 76 } := by kernel_rfl
theorem ti164 : tinf Tryz.prog 164 = some { size := 2, bytes := 32, zero := some [.nili, .nili], kind := .struct [(0, 135, 1), (1, 76, 1)] } := by kernel_rfl
theorem ti167 : tinf Tryz.prog 167 = some { size := 1, bytes := 8, zero := some [.nilm], kind := .map 144 135 } := by kernel_rfl
theorem ti177 : tinf Tryz.prog 177 = some { size := 1, bytes := 8, zero := some [.nilf], kind := .func } := by kernel_rfl
theorem ti179 : tinf Tryz.prog 179 = some { size := 1, bytes := 8, zero := some [.nilm], kind := .map 204 204 } := by kernel_rfl
theorem ti181 : tinf Tryz.prog 181 = some { size := 3, bytes := 24, zero := some [.nilf, .nilf, .nilm], kind := .struct [(0, 177, 1), (1, 52, 1), (2, 179, 1)] } := by kernel_rfl
theorem ti185 : tinf Tryz.prog 185 = some { size := 1, bytes := 8, zero := some [.int .i64 0], kind := .struct [(0, 3, 1)] } := by kernel_rfl
theorem ti186 : tinf Tryz.prog 186 = some { size := 2, bytes := 32, zero := some [.str [], .str []], kind := .struct [(0, 9, 1), (1, 9, 1)] } := by kernel_rfl
theorem ti189 : tinf Tryz.prog 189 = some { size := 2, bytes := 32, zero := some [.nili, .nili], kind := .struct [(0, 76, 1), (1, 76, 1)] } := by kernel_rfl
theorem ti191 : tinf Tryz.prog 191 = some { size := 2, bytes := 32, zero := some [.nili, .nili], kind := .struct [(0, 76, 1), (1, 76, 1)] } := by kernel_rfl
theorem ti193 : tinf Tryz.prog 193 = some { size := 3, bytes := 48, zero := some [.nili, .nili, .nili], kind := .struct [(0, 76, 1), (1, 76, 1), (2, 76, 1)] } := by kernel_rfl
theorem ti198 : tinf Tryz.prog 198 = some { size := 2, bytes := 48, zero := some [.nils, .nils], kind := .struct [(0, 37, 1), (1, 37, 1)] } := by kernel_rfl
theorem ti199 : tinf Tryz.prog 199 = some { size := 1, bytes := 24, zero := some [.nils], kind := .slice 198 } := by kernel_rfl
theorem ti201 : tinf Tryz.prog 201 = some { size := 0, bytes := 0, zero := some [], kind := .struct [] } := by kernel_rfl
theorem ti204 : tinf Tryz.prog 204 = some { size := 2, bytes := 16, zero := some [.nilp, .int .i64 0], kind := .struct [(0, 202, 1), (1, 3, 1)] } := by kernel_rfl
theorem ti207 : tinf Tryz.prog 207 = some { size := 2, bytes := 32, zero := some [.nili, .nili], kind := .struct [(0, 135, 1), (1, 135, 1)] } := by kernel_rfl
theorem ti214 : tinf Tryz.prog 214 = some { size := 1, bytes := 4, zero := some [.int .u32 0], kind := .int .u32 } := by kernel_rfl
theorem ti227 : tinf Tryz.prog 227 = some { size := 1, bytes := 8, zero := some [.nilp], kind := .other } := by kernel_rfl
theorem ti233 : tinf Tryz.prog 233 = some { size := 24, bytes := 24, zero := some [.int .u8 0, .int .u8 0, .int .u8 0, .int .u8 0, .int .u8 0, .int .u8 0, .int .u8 0, .int .u8 0, .int .u8 0, .int .u8 0, .int .u8 0, .int .u8 0, .int .u8 0, .int .u8 0, .int .u8 0, .int .u8 0, .int .u8 0, .int .u8 0, .int .u8 0, .int .u8 0, .int .u8 0, .int .u8 0, .int .u8 0, .int .u8 0], kind := .other } := by kernel_rfl
theorem ti234 : tinf Tryz.prog 234 = some { size := 1, bytes := 8, zero := some [.int .u64 0], kind := .int .u64 } := by kernel_rfl
theorem ti240 : tinf Tryz.prog 240 = some { size := 20, bytes := 160, zero := some [.int .u64 0, .int .u64 0, .int .u64 0, .int .u64 0, .int .u64 0, .int .u64 0, .int .u64 0, .int .u64 0, .int .u64 0, .int .u64 0, .int .u64 0, .int .u64 0, .int .u64 0, .int .u64 0, .int .u64 0, .int .u64 0, .int .u64 0, .int .u64 0, .int .u64 0, .int .u64 0], kind := .other } := by kernel_rfl
theorem ti241 : tinf Tryz.prog 241 = some { size := 65, bytes := 65, zero := some [.int .u8 0, .int .u8 0, .int .u8 0, .int .u8 0, .int .u8 0, .int .u8 0, .int .u8 0, .int .u8 0, .int .u8 0, .int .u8 0, .int .u8 0, .int .u8 0, .int .u8 0, .int .u8 0, .int .u8 0, .int .u8 0, .int .u8 0, .int .u8 0, .int .u8 0, .int .u8 0, .int .u8 0, .int .u8 0, .int .u8 0, .int .u8 0, .int .u8 0, .int .u8 0, .int .u8 0, .int .u8 0, .int .u8 0, .int .u8 0, .int .u8 0, .int .u8 0, .int .u8 0, .int .u8 0, .int .u8 0, .int .u8 0, .int .u8 0, .int .u8 0, .int .u8 0, .int .u8 0, .int .u8 0, .int .u8 0, .int .u8 0, .int .u8 0, .int .u8 0, .int .u8 0, .int .u8 0, .int .u8 0, .int .u8 0, .int .u8 0, .int .u8 0, .int .u8 0, .int .u8 0, .int .u8 0, .int .u8 0, .int .u8 0, .int .u8 0, .int .u8 0, .int .u8 0, .int .u8 0, .int .u8 0, .int .u8 0, .int .u8 0, .int .u8 0, .int .u8 0], kind := .other } := by kernel_rfl
theorem ti242 : tinf Tryz.prog 242 = some { size := 1, bytes := 8, zero := some [.int .u64 0], kind := .int .u64 } := by kernel_rfl
theorem ti245 : tinf Tryz.prog 245 = some { size := 32, bytes := 32, zero := some [.int .u8 0, .int .u8 0, .int .u8 0, .int .u8 0, .int .u8 0, .int .u8 0, .int .u8 0, .int .u8 0, .int .u8 0, .int .u8 0, .int .u8 0, .int .u8 0, .int .u8 0, .int .u8 0, .int .u8 0, .int .u8 0, .int .u8 0, .int .u8 0, .int .u8 0, .int .u8 0, .int .u8 0, .int .u8 0, .int .u8 0, .int .u8 0, .int .u8 0, .int .u8 0, .int .u8 0, .int .u8 0, .int .u8 0, .int .u8 0, .int .u8 0, .int .u8 0], kind := .other } := by kernel_rfl
theorem ti246 : tinf Tryz.prog 246 = some { size := 64, bytes := 64, zero := some [.int .u8 0, .int .u8 0, .int .u8 0, .int .u8 0, .int .u8 0, .int .u8 0, .int .u8 0, .int .u8 0, .int .u8 0, .int .u8 0, .int .u8 0, .int .u8 0, .int .u8 0, .int .u8 0, .int .u8 0, .int .u8 0, .int .u8 0, .int .u8 0, .int .u8 0, .int .u8 0, .int .u8 0, .int .u8 0, .int .u8 0, .int .u8 0, .int .u8 0, .int .u8 0, .int .u8 0, .int .u8 0, .int .u8 0, .int .u8 0, .int .u8 0, .int .u8 0, .int .u8 0, .int .u8 0, .int .u8 0, .int .u8 0, .int .u8 0, .int .u8 0, .int .u8 0, .int .u8 0, .int .u8 0, .int .u8 0, .int .u8 0, .int .u8 0, .int .u8 0, .int .u8 0, .int .u8 0, .int .u8 0, .int .u8 0, .int .u8 0, .int .u8 0, .int .u8 0, .int .u8 0, .int .u8 0, .int .u8 0, .int .u8 0, .int .u8 0, .int .u8 0, .int .u8 0, .int .u8 0, .int .u8 0, .int .u8 0, .int .u8 0, .int .u8 0], kind := .other } := by kernel_rfl
theorem ca10 : callable Tryz.prog 10 = true := by kernel_rfl
theorem ca11 : callable Tryz.prog 11 = true := by kernel_rfl
theorem ca12 : callable Tryz.prog 12 = true := by kernel_rfl
theorem ca13 : callable Tryz.prog 13 = true := by kernel_rfl
theorem ca14 : callable Tryz.prog 14 = true := by kernel_rfl
theorem ca15 : callable Tryz.prog 15 = true := by kernel_rfl
theorem ca16 : callable Tryz.prog 16 = true := by kernel_rfl
theorem ca17 : callable Tryz.prog 17 = true := by kernel_rfl
theorem ca18 : callable Tryz.prog 18 = true := by kernel_rfl
theorem ca19 : callable Tryz.prog 19 = true := by kernel_rfl
theorem ca20 : callable Tryz.prog 20 = true := by kernel_rfl
theorem ca21 : callable Tryz.prog 21 = true := by kernel_rfl
theorem ca22 : callable Tryz.prog 22 = true := by kernel_rfl
theorem ca23 : callable Tryz.prog 23 = true := by kernel_rfl
theorem ca24 : callable Tryz.prog 24 = true := by kernel_rfl
theorem ca25 : callable Tryz.prog 25 = true := by kernel_rfl
theorem ca26 : callable Tryz.prog 26 = true := by kernel_rfl
theorem ca27 : callable Tryz.prog 27 = true := by kernel_rfl
theorem ca28 : callable Tryz.prog 28 = true := by kernel_rfl
theorem ca29 : callable Tryz.prog 29 = true := by kernel_rfl
theorem ca30 : callable Tryz.prog 30 = true := by kernel_rfl
theorem ca31 : callable Tryz.prog 31 = true := by kernel_rfl
theorem ca32 : callable Tryz.prog 32 = true := by kernel_rfl
theorem ca33 : callable Tryz.prog 33 = true := by kernel_rfl
theorem ca34 : callable Tryz.prog 34 = true := by kernel_rfl
theorem ca35 : callable Tryz.prog 35 = true := by kernel_rfl
theorem ca36 : callable Tryz.prog 36 = true := by kernel_rfl
theorem ca37 : callable Tryz.prog 37 = true := by kernel_rfl
theorem ca38 : callable Tryz.prog 38 = true := by kernel_rfl
theorem ca39 : callable Tryz.prog 39 = true := by kernel_rfl
theorem ca40 : callable Tryz.prog 40 = true := by kernel_rfl
theorem ca41 : callable Tryz.prog 41 = true := by kernel_rfl
theorem ca42 : callable Tryz.prog 42 = true := by kernel_rfl
theorem ca43 : callable Tryz.prog 43 = true := by kernel_rfl
theorem ca44 : callable Tryz.prog 44 = true := by kernel_rfl
theorem ca45 : callable Tryz.prog 45 = true := by kernel_rfl
theorem ca46 : callable Tryz.prog 46 = true := by kernel_rfl
theorem ca47 : callable Tryz.prog 47 = true := by kernel_rfl
theorem ca48 : callable Tryz.prog 48 = true := by kernel_rfl
theorem ca49 : callable Tryz.prog 49 = true := by kernel_rfl
theorem ca50 : callable Tryz.prog 50 = true := by kernel_rfl
theorem ca51 : callable Tryz.prog 51 = true := by kernel_rfl
theorem ca52 : callable Tryz.prog 52 = true := by kernel_rfl
theorem ca53 : callable Tryz.prog 53 = true := by kernel_rfl
theorem ca54 : callable Tryz.prog 54 = true := by kernel_rfl
theorem ca55 : callable Tryz.prog 55 = true := by kernel_rfl
theorem ca56 : callable Tryz.prog 56 = true := by kernel_rfl
theorem ca57 : callable Tryz.prog 57 = true := by kernel_rfl
theorem ca58 : callable Tryz.prog 58 = true := by kernel_rfl
theorem ca59 : callable Tryz.prog 59 = true := by kernel_rfl
theorem ca60 : callable Tryz.prog 60 = true := by kernel_rfl
theorem ca61 : callable Tryz.prog 61 = true := by kernel_rfl
theorem ca62 : callable Tryz.prog 62 = true := by kernel_rfl
theorem ca63 : callable Tryz.prog 63 = true := by kernel_rfl
theorem ca64 : callable Tryz.prog 64 = true := by kernel_rfl
theorem ca65 : callable Tryz.prog 65 = true := by kernel_rfl
theorem ca66 : callable Tryz.prog 66 = true := by kernel_rfl
theorem ca67 : callable Tryz.prog 67 = true := by kernel_rfl
theorem ca68 : callable Tryz.prog 68 = true := by kernel_rfl
theorem ca69 : callable Tryz.prog 69 = true := by kernel_rfl
theorem ca70 : callable Tryz.prog 70 = true := by kernel_rfl
theorem ca71 : callable Tryz.prog 71 = true := by kernel_rfl
theorem ca72 : callable Tryz.prog 72 = true := by kernel_rfl
theorem ca74 : callable Tryz.prog 74 = true := by kernel_rfl
theorem ca75 : callable Tryz.prog 75 = true := by kernel_rfl
theorem ca76 : callable Tryz.prog 76 = true := by kernel_rfl
theorem ca77 : callable Tryz.prog 77 = true := by kernel_rfl
theorem ca78 : callable Tryz.prog 78 = true := by kernel_rfl
theorem ca79 : callable Tryz.prog 79 = true := by kernel_rfl
theorem ca80 : callable Tryz.prog 80 = true := by kernel_rfl
theorem ca81 : callable Tryz.prog 81 = true := by kernel_rfl
theorem ca83 : callable Tryz.prog 83 = true := by kernel_rfl
theorem ca84 : callable Tryz.prog 84 = true := by kernel_rfl
theorem ca85 : callable Tryz.prog 85 = true := by kernel_rfl
theorem ca86 : callable Tryz.prog 86 = true := by kernel_rfl
theorem ca87 : callable Tryz.prog 87 = true := by kernel_rfl
theorem ca88 : callable Tryz.prog 88 = true := by kernel_rfl
theorem ca89 : callable Tryz.prog 89 = true := by kernel_rfl
theorem ca90 : callable Tryz.prog 90 = true := by kernel_rfl
theorem ca91 : callable Tryz.prog 91 = true := by kernel_rfl
theorem ca92 : callable Tryz.prog 92 = true := by kernel_rfl
theorem ca93 : callable Tryz.prog 93 = true := by kernel_rfl
theorem ca94 : callable Tryz.prog 94 = true := by kernel_rfl
theorem ca95 : callable Tryz.prog 95 = true := by kernel_rfl
theorem ca96 : callable Tryz.prog 96 = true := by kernel_rfl
theorem ca97 : callable Tryz.prog 97 = true := by kernel_rfl
theorem ca99 : callable Tryz.prog 99 = true := by kernel_rfl
theorem ca100 : callable Tryz.prog 100 = true := by kernel_rfl
theorem ca101 : callable Tryz.prog 101 = true := by kernel_rfl
theorem ca102 : callable Tryz.prog 102 = true := by kernel_rfl
theorem ca104 : callable Tryz.prog 104 = true := by kernel_rfl
theorem ca105 : callable Tryz.prog 105 = true := by kernel_rfl
theorem ca106 : callable Tryz.prog 106 = true := by kernel_rfl
theorem ca108 : callable Tryz.prog 108 = true := by kernel_rfl
theorem ca109 : callable Tryz.prog 109 = true := by kernel_rfl
theorem ca110 : callable Tryz.prog 110 = true := by kernel_rfl
theorem ca111 : callable Tryz.prog 111 = true := by kernel_rfl
theorem ca112 : callable Tryz.prog 112 = true := by kernel_rfl
theorem ca113 : callable Tryz.prog 113 = true := by kernel_rfl
theorem ca114 : callable Tryz.prog 114 = true := by kernel_rfl
theorem ca115 : callable Tryz.prog 115 = true := by kernel_rfl
theorem ca116 : callable Tryz.prog 116 = true := by kernel_rfl
theorem ca118 : callable Tryz.prog 118 = true := by kernel_rfl
theorem ca121 : callable Tryz.prog 121 = true := by kernel_rfl
theorem ca122 : callable Tryz.prog 122 = true := by kernel_rfl
theorem ca123 : callable Tryz.prog 123 = true := by kernel_rfl
theorem ca141 : callable Tryz.prog 141 = true := by kernel_rfl
theorem ca142 : callable Tryz.prog 142 = true := by kernel_rfl
theorem ca143 : callable Tryz.prog 143 = true := by kernel_rfl
theorem ca150 : callable Tryz.prog 150 = true := by kernel_rfl
theorem ca151 : callable Tryz.prog 151 = true := by kernel_rfl
theorem ca152 : callable Tryz.prog 152 = true := by kernel_rfl
theorem ca153 : callable Tryz.prog 153 = true := by kernel_rfl
theorem ca154 : callable Tryz.prog 154 = true := by kernel_rfl
theorem ca155 : callable Tryz.prog 155 = true := by kernel_rfl
theorem ca156 : callable Tryz.prog 156 = true := by kernel_rfl
theorem ca157 : callable Tryz.prog 157 = true := by kernel_rfl
theorem ca158 : callable Tryz.prog 158 = true := by kernel_rfl
theorem ca159 : callable Tryz.prog 159 = true := by kernel_rfl
theorem ca160 : callable Tryz.prog 160 = true := by kernel_rfl
theorem ca161 : callable Tryz.prog 161 = true := by kernel_rfl
theorem ca162 : callable Tryz.prog 162 = true := by kernel_rfl
theorem ca163 : callable Tryz.prog 163 = true := by kernel_rfl
theorem ca164 : callable Tryz.prog 164 = true := by kernel_rfl
theorem ca177 : callable Tryz.prog 177 = true := by kernel_rfl
theorem ca191 : callable Tryz.prog 191 = true := by kernel_rfl
theorem ca194 : callable Tryz.prog 194 = true := by kernel_rfl
theorem ca204 : callable Tryz.prog 204 = true := by kernel_rfl
theorem ca207 : callable Tryz.prog 207 = true := by kernel_rfl
theorem ca209 : callable Tryz.prog 209 = true := by kernel_rfl
theorem ca213 : callable Tryz.prog 213 = true := by kernel_rfl
theorem foll : Tryz.prog.follows .mixedOrders = true := by kernel_rfl
theorem laid : laidOutB Tryz.prog = true := by kernel_rfl
theorem ownk : ownKnob Tryz.prog.godebug = none := by kernel_rfl
def cf (N : Nat) (vs : List Nat) : Cfg := { own := fun _ => false, N := N, vs := vs }
end Go.Proofs.YtamicokgpigmkaaGreat
