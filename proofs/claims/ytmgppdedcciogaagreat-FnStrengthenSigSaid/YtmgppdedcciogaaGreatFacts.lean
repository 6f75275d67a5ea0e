/- Facts of this translation. -/
import Derived.Test.YtmgppdedcciogaaGreatRows
import Derived.Test.YtmgppdedcciogaaGreatAbsW3
namespace Go.Proofs.YtmgppdedcciogaaGreat
open Go.Abs
theorem za127 : zagg Tryz.prog 127 = some [.str []] := by kernel_rfl
theorem ks72 : keyS Tryz.prog 72 = some [(0, .bool), (1, .str)] := by kernel_rfl
theorem ks138 : keyS Tryz.prog 138 = some [(0, .ptr 33), (1, .int .i64)] := by kernel_rfl
theorem mi57 : mapInf Tryz.prog 57 = some (138, [(0, .ptr 33), (1, .int .i64)], 2, .agg [.nilp, .int .i64 0]) := by kernel_rfl
theorem mi88 : mapInf Tryz.prog 88 = some (83, [(0, .str), (1, .str)], 2, .nili) := by kernel_rfl
theorem mi122 : mapInf Tryz.prog 122 = some (83, [(0, .str), (1, .str)], 2, .bool false) := by kernel_rfl
theorem mi142 : mapInf Tryz.prog 142 = some (72, [(0, .bool), (1, .str)], 2, .bool false) := by kernel_rfl
theorem ti3 : tinf Tryz.prog 3 = some { size := 1, bytes := 8, zero := some [.int .i64 0], kind := .int .i64 } := by kernel_rfl
theorem ti4 : tinf Tryz.prog 4 = some { size := 1, bytes := 1, zero := some [.bool false], kind := .bool } := by kernel_rfl
theorem ti5 : tinf Tryz.prog 5 = some { size := 1, bytes := 1, zero := some [.int .u8 0], kind := .int .u8 } := by kernel_rfl
theorem ti9 : tinf Tryz.prog 9 = some { size := 1, bytes := 16, zero := some [.str []], kind := .str } := by kernel_rfl
theorem ti22 : tinf Tryz.prog 22 = some { size := 1, bytes := 24, zero := some [.nils], kind := .slice 5 } := by kernel_rfl
theorem ti23 : tinf Tryz.prog 23 = some { size := 1, bytes := 24, zero := some [.nils], kind := .slice 42 } := by kernel_rfl
theorem ti31 : tinf Tryz.prog 31 = some { size := 1, bytes := 24, zero := some [.nils], kind := .slice 33 } := by kernel_rfl
theorem ti33 : tinf Tryz.prog 33 = some { size := 4, bytes := 64, zero := some [.int .i64 0, .str [], .str [], .nils], kind := .struct [(0, 3, 1), (1, 9, 1), (2, 9, 1), (3, 31, 1)] } := by kernel_rfl
theorem ti36 : tinf Tryz.prog 36 = some { size := 1, bytes := 8, zero := some [.nilf], kind := .func } := by kernel_rfl
theorem ti37 : tinf Tryz.prog 37 = some { size := 1, bytes := 8, zero := some [.nilf], kind := .func } := by kernel_rfl
theorem ti42 : tinf Tryz.prog 42 = some { size := 6, bytes := 88, zero := some [.int .i64 0, .str [], .int .i64 0, .str [], .str [], .nils], kind := .struct [(0, 3, 1), (1, 9, 1), (2, 33, 4)] } := by kernel_rfl
theorem ti47 : tinf Tryz.prog 47 = some { size := 1, bytes := 24, zero := some [.nils], kind := .slice 49 } := by kernel_rfl
theorem ti49 : tinf Tryz.prog 49 = some { size := 6, bytes := 96, zero := some [.str [], .str [], .int .i64 0, .str [], .str [], .nils], kind := .struct [(0, 9, 1), (1, 9, 1), (2, 33, 4)] } := by kernel_rfl
theorem ti57 : tinf Tryz.prog 57 = some { size := 1, bytes := 8, zero := some [.nilm], kind := .map 138 138 } := by kernel_rfl
theorem ti59 : tinf Tryz.prog 59 = some { size := 3, bytes := 24, zero := some [.nilf, .nilf, .nilm], kind := .struct [(0, 37, 1), (1, 36, 1), (2, 57, 1)] } := by kernel_rfl
theorem ti63 : tinf Tryz.prog 63 = some { size := 1, bytes := 24, zero := some [.nils], kind := .slice 108 } := by kernel_rfl
theorem ti64 : tinf Tryz.prog 64 = some { size := 1, bytes := 24, zero := some [.nils], kind := .slice 108 } := by kernel_rfl
theorem ti69 : tinf Tryz.prog 69 = some { size := 1, bytes := 24, zero := some [.nils], kind := .slice 9 } := by kernel_rfl
theorem ti72 : tinf Tryz.prog 72 = some { size := 2, bytes := 24, zero := some [.bool false, .str []], kind := .struct [(0, 4, 1), (1, 9, 1)] } := by kernel_rfl
theorem ti76 : tinf Tryz.prog 76 = some { size := 1, bytes := 16, zero := some [.nili], kind := .iface } := by kernel_rfl
theorem ti80 : tinf Tryz.prog 80 = some { size := 1, bytes := 8, zero := some [.nilf], kind := .func } := by kernel_rfl
theorem ti83 : tinf Tryz.prog 83 = some { size := 2, bytes := 32, zero := some [.str [], .str []], kind := .struct [(0, 9, 1), (1, 9, 1)] } := by kernel_rfl
theorem ti88 : tinf Tryz.prog 88 = some { size := 1, bytes := 8, zero := some [.nilm], kind := .map 83 76 } := by kernel_rfl
theorem ti94 : tinf Tryz.prog 94 = some { size := 2, bytes := 32, zero := some [.nils, .int .i64 0], kind := .struct [(0, 22, 1), (1, 3, 1)] } := by kernel_rfl
theorem ti96 : tinf Tryz.prog 96 = some { size := 1, bytes := 24, zero := some [.nils], kind := .slice 3 } := by kernel_rfl
theorem ti102 : tinf Tryz.prog 102 = some { size := 2, bytes := 48, zero := some [.nils, .nils], kind := .struct [(0, 31, 1), (1, 31, 1)] } := by kernel_rfl
theorem ti103 : tinf Tryz.prog 103 = some { size := 1, bytes := 24, zero := some [.nils], kind := .slice 102 } := by kernel_rfl
theorem ti108 : tinf Tryz.prog 108 = some { size := 1, bytes := 16, zero := some [.nili], kind := .iface } := by kernel_rfl
theorem ti113 : tinf Tryz.prog 113 = some { size := 1, bytes := 8, zero := some [.nilp], kind := .ptr 115 } := by kernel_rfl
theorem ti115 : tinf Tryz.prog 115 = some { size := 2, bytes := 32, zero := some [.nilp, .nils], kind := .struct [(0, 113, 1), (1, 22, 1)] } := by kernel_rfl
theorem ti122 : tinf Tryz.prog 122 = some { size := 1, bytes := 8, zero := some [.nilm], kind := .map 83 4 } := by kernel_rfl
theorem ti127 : tinf Tryz.prog 127 = some { size := 1, bytes := 16, zero := some [.str []], kind := .struct [(0, 9, 1)] } := by kernel_rfl
theorem ti130 : tinf Tryz.prog 130 = some { size := 2, bytes := 32, zero := some [.str [], .nili], kind := .struct [(0, 9, 1), (1, 76, 1)] } := by kernel_rfl
theorem ti138 : tinf Tryz.prog 138 = some { size := 2, bytes := 16, zero := some [.nilp, .int .i64 0], kind := .struct [(0, 136, 1), (1, 3, 1)] } := by kernel_rfl
theorem ti141 : tinf Tryz.prog 141 = some { size := 2, bytes := 32, zero := some [.str [], .nili], kind := .struct [(0, 9, 1), (1, 76, 1)] } := by kernel_rfl
theorem ti142 : tinf Tryz.prog 142 = some { size := 1, bytes := 8, zero := some [.nilm], kind := .map 72 4 } := by kernel_rfl
theorem ti144 : tinf Tryz.prog 144 = some { size := 1, bytes := 8, zero := some [.nilp], kind := .ptr 5 } := by kernel_rfl
theorem ti151 : tinf Tryz.prog 151 = some { size := 0, bytes := 0, zero := some [], kind := .struct [] } := by kernel_rfl
theorem ti160 : tinf Tryz.prog 160 = some { size := 2, bytes := 32, zero := some [.nili, .nili], kind := .struct [(0, 76, 1), (1, 76, 1)] } := by kernel_rfl
theorem ti180 : tinf Tryz.prog 180 = some { size := 1, bytes := 8, zero := some [.nilp], kind := .other } := by kernel_rfl
theorem ca9 : callable Tryz.prog 9 = true := by kernel_rfl
theorem ca10 : callable Tryz.prog 10 = true := by kernel_rfl
theorem ca11 : callable Tryz.prog 11 = true := by kernel_rfl
theorem ca12 : callable Tryz.prog 12 = true := by kernel_rfl
theorem ca13 : callable Tryz.prog 13 = true := by kernel_rfl
theorem ca14 : callable Tryz.prog 14 = true := by kernel_rfl
theorem ca15 : callable Tryz.prog 15 = true := by kernel_rfl
theorem ca16 : callable Tryz.prog 16 = true := by kernel_rfl
theorem ca17 : callable Tryz.prog 17 = true := by kernel_rfl
theorem ca18 : callable Tryz.prog 18 = true := by kernel_rfl
theorem ca19 : callable Tryz.prog 19 = true := by kernel_rfl
theorem ca20 : callable Tryz.prog 20 = true := by kernel_rfl
theorem ca21 : callable Tryz.prog 21 = true := by kernel_rfl
theorem ca22 : callable Tryz.prog 22 = true := by kernel_rfl
theorem ca23 : callable Tryz.prog 23 = true := by kernel_rfl
theorem ca24 : callable Tryz.prog 24 = true := by kernel_rfl
theorem ca25 : callable Tryz.prog 25 = true := by kernel_rfl
theorem ca26 : callable Tryz.prog 26 = true := by kernel_rfl
theorem ca27 : callable Tryz.prog 27 = true := by kernel_rfl
theorem ca28 : callable Tryz.prog 28 = true := by kernel_rfl
theorem ca29 : callable Tryz.prog 29 = true := by kernel_rfl
theorem ca30 : callable Tryz.prog 30 = true := by kernel_rfl
theorem ca31 : callable Tryz.prog 31 = true := by kernel_rfl
theorem ca32 : callable Tryz.prog 32 = true := by kernel_rfl
theorem ca33 : callable Tryz.prog 33 = true := by kernel_rfl
theorem ca34 : callable Tryz.prog 34 = true := by kernel_rfl
theorem ca36 : callable Tryz.prog 36 = true := by kernel_rfl
theorem ca37 : callable Tryz.prog 37 = true := by kernel_rfl
theorem ca38 : callable Tryz.prog 38 = true := by kernel_rfl
theorem ca39 : callable Tryz.prog 39 = true := by kernel_rfl
theorem ca40 : callable Tryz.prog 40 = true := by kernel_rfl
theorem ca41 : callable Tryz.prog 41 = true := by kernel_rfl
theorem ca42 : callable Tryz.prog 42 = true := by kernel_rfl
theorem ca43 : callable Tryz.prog 43 = true := by kernel_rfl
theorem ca44 : callable Tryz.prog 44 = true := by kernel_rfl
theorem ca45 : callable Tryz.prog 45 = true := by kernel_rfl
theorem ca46 : callable Tryz.prog 46 = true := by kernel_rfl
theorem ca48 : callable Tryz.prog 48 = true := by kernel_rfl
theorem ca49 : callable Tryz.prog 49 = true := by kernel_rfl
theorem ca50 : callable Tryz.prog 50 = true := by kernel_rfl
theorem ca51 : callable Tryz.prog 51 = true := by kernel_rfl
theorem ca52 : callable Tryz.prog 52 = true := by kernel_rfl
theorem ca53 : callable Tryz.prog 53 = true := by kernel_rfl
theorem ca54 : callable Tryz.prog 54 = true := by kernel_rfl
theorem ca55 : callable Tryz.prog 55 = true := by kernel_rfl
theorem ca56 : callable Tryz.prog 56 = true := by kernel_rfl
theorem ca57 : callable Tryz.prog 57 = true := by kernel_rfl
theorem ca58 : callable Tryz.prog 58 = true := by kernel_rfl
theorem ca59 : callable Tryz.prog 59 = true := by kernel_rfl
theorem ca60 : callable Tryz.prog 60 = true := by kernel_rfl
theorem ca61 : callable Tryz.prog 61 = true := by kernel_rfl
theorem ca62 : callable Tryz.prog 62 = true := by kernel_rfl
theorem ca63 : callable Tryz.prog 63 = true := by kernel_rfl
theorem ca66 : callable Tryz.prog 66 = true := by kernel_rfl
theorem ca67 : callable Tryz.prog 67 = true := by kernel_rfl
theorem ca69 : callable Tryz.prog 69 = true := by kernel_rfl
theorem ca70 : callable Tryz.prog 70 = true := by kernel_rfl
theorem ca71 : callable Tryz.prog 71 = true := by kernel_rfl
theorem ca72 : callable Tryz.prog 72 = true := by kernel_rfl
theorem ca73 : callable Tryz.prog 73 = true := by kernel_rfl
theorem ca74 : callable Tryz.prog 74 = true := by kernel_rfl
theorem ca75 : callable Tryz.prog 75 = true := by kernel_rfl
theorem ca77 : callable Tryz.prog 77 = true := by kernel_rfl
theorem ca78 : callable Tryz.prog 78 = true := by kernel_rfl
theorem ca79 : callable Tryz.prog 79 = true := by kernel_rfl
theorem ca80 : callable Tryz.prog 80 = true := by kernel_rfl
theorem ca81 : callable Tryz.prog 81 = true := by kernel_rfl
theorem ca82 : callable Tryz.prog 82 = true := by kernel_rfl
theorem ca83 : callable Tryz.prog 83 = true := by kernel_rfl
theorem ca84 : callable Tryz.prog 84 = true := by kernel_rfl
theorem ca85 : callable Tryz.prog 85 = true := by kernel_rfl
theorem ca86 : callable Tryz.prog 86 = true := by kernel_rfl
theorem ca87 : callable Tryz.prog 87 = true := by kernel_rfl
theorem ca89 : callable Tryz.prog 89 = true := by kernel_rfl
theorem ca90 : callable Tryz.prog 90 = true := by kernel_rfl
theorem ca91 : callable Tryz.prog 91 = true := by kernel_rfl
theorem ca92 : callable Tryz.prog 92 = true := by kernel_rfl
theorem ca93 : callable Tryz.prog 93 = true := by kernel_rfl
theorem ca95 : callable Tryz.prog 95 = true := by kernel_rfl
theorem ca96 : callable Tryz.prog 96 = true := by kernel_rfl
theorem ca98 : callable Tryz.prog 98 = true := by kernel_rfl
theorem ca99 : callable Tryz.prog 99 = true := by kernel_rfl
theorem ca118 : callable Tryz.prog 118 = true := by kernel_rfl
theorem ca119 : callable Tryz.prog 119 = true := by kernel_rfl
theorem ca120 : callable Tryz.prog 120 = true := by kernel_rfl
theorem ca128 : callable Tryz.prog 128 = true := by kernel_rfl
theorem foll : Tryz.prog.follows .mixedOrders = true := by kernel_rfl
theorem laid : laidOutB Tryz.prog = true := by kernel_rfl
theorem ownk : ownKnob Tryz.prog.godebug = none := by kernel_rfl
def cf (N : Nat) (vs : List Nat) : Cfg := { own := fun _ => false, N := N, vs := vs }
end Go.Proofs.YtmgppdedcciogaaGreat
