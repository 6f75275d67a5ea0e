/- Facts of this translation. -/
import Derived.Test.YtejbjgmgdbcddaaGreatRows
import Derived.Test.YtejbjgmgdbcddaaGreatAbsW3
namespace Go.Proofs.YtejbjgmgdbcddaaGreat
open Go.Abs
theorem ks51 : keyS Tryz.prog 51 = some [(0, .bool), (1, .str)] := by kernel_rfl
theorem ks121 : keyS Tryz.prog 121 = some [(0, .ptr 42), (1, .int .i64)] := by kernel_rfl
theorem mi98 : mapInf Tryz.prog 98 = some (51, [(0, .bool), (1, .str)], 2, .bool false) := by kernel_rfl
theorem mi106 : mapInf Tryz.prog 106 = some (121, [(0, .ptr 42), (1, .int .i64)], 2, .agg [.nilp, .int .i64 0]) := by kernel_rfl
theorem ti3 : tinf Tryz.prog 3 = some { size := 1, bytes := 8, zero := some [.int .i64 0], kind := .int .i64 } := by kernel_rfl
theorem ti4 : tinf Tryz.prog 4 = some { size := 1, bytes := 1, zero := some [.bool false], kind := .bool } := by kernel_rfl
theorem ti5 : tinf Tryz.prog 5 = some { size := 1, bytes := 1, zero := some [.int .u8 0], kind := .int .u8 } := by kernel_rfl
theorem ti9 : tinf Tryz.prog 9 = some { size := 1, bytes := 16, zero := some [.str []], kind := .str } := by kernel_rfl
theorem ti22 : tinf Tryz.prog 22 = some { size := 1, bytes := 24, zero := some [.nils], kind := .slice 36 } := by kernel_rfl
theorem ti24 : tinf Tryz.prog 24 = some { size := 1, bytes := 24, zero := some [.nils], kind := .slice 44 } := by kernel_rfl
theorem ti32 : tinf Tryz.prog 32 = some { size := 1, bytes := 24, zero := some [.nils], kind := .slice 34 } := by kernel_rfl
theorem ti34 : tinf Tryz.prog 34 = some { size := 4, bytes := 64, zero := some [.int .i64 0, .str [], .str [], .nils], kind := .struct [(0, 3, 1), (1, 9, 1), (2, 9, 1), (3, 32, 1)] } := by kernel_rfl
theorem ti36 : tinf Tryz.prog 36 = some { size := 6, bytes := 88, zero := some [.int .i64 0, .str [], .int .i64 0, .str [], .str [], .nils], kind := .struct [(0, 3, 1), (1, 9, 1), (2, 34, 4)] } := by kernel_rfl
theorem ti40 : tinf Tryz.prog 40 = some { size := 1, bytes := 24, zero := some [.nils], kind := .slice 42 } := by kernel_rfl
theorem ti42 : tinf Tryz.prog 42 = some { size := 4, bytes := 64, zero := some [.int .i64 0, .str [], .str [], .nils], kind := .struct [(0, 3, 1), (1, 9, 1), (2, 9, 1), (3, 40, 1)] } := by kernel_rfl
theorem ti44 : tinf Tryz.prog 44 = some { size := 6, bytes := 88, zero := some [.int .i64 0, .str [], .int .i64 0, .str [], .str [], .nils], kind := .struct [(0, 3, 1), (1, 9, 1), (2, 42, 4)] } := by kernel_rfl
theorem ti46 : tinf Tryz.prog 46 = some { size := 1, bytes := 24, zero := some [.nils], kind := .slice 54 } := by kernel_rfl
theorem ti47 : tinf Tryz.prog 47 = some { size := 1, bytes := 24, zero := some [.nils], kind := .slice 54 } := by kernel_rfl
theorem ti51 : tinf Tryz.prog 51 = some { size := 2, bytes := 24, zero := some [.bool false, .str []], kind := .struct [(0, 4, 1), (1, 9, 1)] } := by kernel_rfl
theorem ti54 : tinf Tryz.prog 54 = some { size := 1, bytes := 16, zero := some [.nili], kind := .iface } := by kernel_rfl
theorem ti56 : tinf Tryz.prog 56 = some { size := 1, bytes := 16, zero := some [.str []], kind := .struct [(0, 9, 1)] } := by kernel_rfl
theorem ti68 : tinf Tryz.prog 68 = some { size := 1, bytes := 24, zero := some [.nils], kind := .slice 47 } := by kernel_rfl
theorem ti71 : tinf Tryz.prog 71 = some { size := 1, bytes := 8, zero := some [.nilf], kind := .func } := by kernel_rfl
theorem ti72 : tinf Tryz.prog 72 = some { size := 1, bytes := 24, zero := some [.nils], kind := .slice 5 } := by kernel_rfl
theorem ti92 : tinf Tryz.prog 92 = some { size := 1, bytes := 16, zero := some [.nili], kind := .iface } := by kernel_rfl
theorem ti96 : tinf Tryz.prog 96 = some { size := 2, bytes := 32, zero := some [.str [], .nili], kind := .struct [(0, 9, 1), (1, 92, 1)] } := by kernel_rfl
theorem ti97 : tinf Tryz.prog 97 = some { size := 2, bytes := 32, zero := some [.str [], .nili], kind := .struct [(0, 9, 1), (1, 92, 1)] } := by kernel_rfl
theorem ti98 : tinf Tryz.prog 98 = some { size := 1, bytes := 8, zero := some [.nilm], kind := .map 51 4 } := by kernel_rfl
theorem ti101 : tinf Tryz.prog 101 = some { size := 2, bytes := 32, zero := some [.str [], .str []], kind := .struct [(0, 9, 1), (1, 9, 1)] } := by kernel_rfl
theorem ti104 : tinf Tryz.prog 104 = some { size := 1, bytes := 8, zero := some [.nilf], kind := .func } := by kernel_rfl
theorem ti106 : tinf Tryz.prog 106 = some { size := 1, bytes := 8, zero := some [.nilm], kind := .map 121 121 } := by kernel_rfl
theorem ti108 : tinf Tryz.prog 108 = some { size := 3, bytes := 24, zero := some [.nilf, .nilf, .nilm], kind := .struct [(0, 104, 1), (1, 71, 1), (2, 106, 1)] } := by kernel_rfl
theorem ti113 : tinf Tryz.prog 113 = some { size := 2, bytes := 48, zero := some [.nils, .nils], kind := .struct [(0, 40, 1), (1, 40, 1)] } := by kernel_rfl
theorem ti114 : tinf Tryz.prog 114 = some { size := 1, bytes := 24, zero := some [.nils], kind := .slice 113 } := by kernel_rfl
theorem ti116 : tinf Tryz.prog 116 = some { size := 0, bytes := 0, zero := some [], kind := .struct [] } := by kernel_rfl
theorem ti121 : tinf Tryz.prog 121 = some { size := 2, bytes := 16, zero := some [.nilp, .int .i64 0], kind := .struct [(0, 119, 1), (1, 3, 1)] } := by kernel_rfl
theorem ti124 : tinf Tryz.prog 124 = some { size := 2, bytes := 32, zero := some [.nili, .nili], kind := .struct [(0, 92, 1), (1, 92, 1)] } := by kernel_rfl
theorem ca5 : callable Tryz.prog 5 = true := by kernel_rfl
theorem ca6 : callable Tryz.prog 6 = true := by kernel_rfl
theorem ca7 : callable Tryz.prog 7 = true := by kernel_rfl
theorem ca8 : callable Tryz.prog 8 = true := by kernel_rfl
theorem ca9 : callable Tryz.prog 9 = true := by kernel_rfl
theorem ca10 : callable Tryz.prog 10 = true := by kernel_rfl
theorem ca11 : callable Tryz.prog 11 = true := by kernel_rfl
theorem ca12 : callable Tryz.prog 12 = true := by kernel_rfl
theorem ca13 : callable Tryz.prog 13 = true := by kernel_rfl
theorem ca14 : callable Tryz.prog 14 = true := by kernel_rfl
theorem ca15 : callable Tryz.prog 15 = true := by kernel_rfl
theorem ca16 : callable Tryz.prog 16 = true := by kernel_rfl
theorem ca17 : callable Tryz.prog 17 = true := by kernel_rfl
theorem ca18 : callable Tryz.prog 18 = true := by kernel_rfl
theorem ca19 : callable Tryz.prog 19 = true := by kernel_rfl
theorem ca20 : callable Tryz.prog 20 = true := by kernel_rfl
theorem ca21 : callable Tryz.prog 21 = true := by kernel_rfl
theorem ca22 : callable Tryz.prog 22 = true := by kernel_rfl
theorem ca23 : callable Tryz.prog 23 = true := by kernel_rfl
theorem ca24 : callable Tryz.prog 24 = true := by kernel_rfl
theorem ca25 : callable Tryz.prog 25 = true := by kernel_rfl
theorem ca26 : callable Tryz.prog 26 = true := by kernel_rfl
theorem ca27 : callable Tryz.prog 27 = true := by kernel_rfl
theorem ca28 : callable Tryz.prog 28 = true := by kernel_rfl
theorem ca29 : callable Tryz.prog 29 = true := by kernel_rfl
theorem ca30 : callable Tryz.prog 30 = true := by kernel_rfl
theorem ca31 : callable Tryz.prog 31 = true := by kernel_rfl
theorem ca32 : callable Tryz.prog 32 = true := by kernel_rfl
theorem ca33 : callable Tryz.prog 33 = true := by kernel_rfl
theorem ca34 : callable Tryz.prog 34 = true := by kernel_rfl
theorem ca35 : callable Tryz.prog 35 = true := by kernel_rfl
theorem ca36 : callable Tryz.prog 36 = true := by kernel_rfl
theorem ca37 : callable Tryz.prog 37 = true := by kernel_rfl
theorem ca38 : callable Tryz.prog 38 = true := by kernel_rfl
theorem ca39 : callable Tryz.prog 39 = true := by kernel_rfl
theorem ca40 : callable Tryz.prog 40 = true := by kernel_rfl
theorem ca41 : callable Tryz.prog 41 = true := by kernel_rfl
theorem ca43 : callable Tryz.prog 43 = true := by kernel_rfl
theorem ca44 : callable Tryz.prog 44 = true := by kernel_rfl
theorem ca46 : callable Tryz.prog 46 = true := by kernel_rfl
theorem ca47 : callable Tryz.prog 47 = true := by kernel_rfl
theorem ca48 : callable Tryz.prog 48 = true := by kernel_rfl
theorem ca49 : callable Tryz.prog 49 = true := by kernel_rfl
theorem ca50 : callable Tryz.prog 50 = true := by kernel_rfl
theorem ca51 : callable Tryz.prog 51 = true := by kernel_rfl
theorem ca52 : callable Tryz.prog 52 = true := by kernel_rfl
theorem ca54 : callable Tryz.prog 54 = true := by kernel_rfl
theorem ca55 : callable Tryz.prog 55 = true := by kernel_rfl
theorem ca56 : callable Tryz.prog 56 = true := by kernel_rfl
theorem ca57 : callable Tryz.prog 57 = true := by kernel_rfl
theorem ca58 : callable Tryz.prog 58 = true := by kernel_rfl
theorem ca59 : callable Tryz.prog 59 = true := by kernel_rfl
theorem ca60 : callable Tryz.prog 60 = true := by kernel_rfl
theorem ca61 : callable Tryz.prog 61 = true := by kernel_rfl
theorem ca64 : callable Tryz.prog 64 = true := by kernel_rfl
theorem ca65 : callable Tryz.prog 65 = true := by kernel_rfl
theorem ca66 : callable Tryz.prog 66 = true := by kernel_rfl
theorem ca67 : callable Tryz.prog 67 = true := by kernel_rfl
theorem ca68 : callable Tryz.prog 68 = true := by kernel_rfl
theorem foll : Tryz.prog.follows .mixedOrders = true := by kernel_rfl
theorem laid : laidOutB Tryz.prog = true := by kernel_rfl
theorem ownk : ownKnob Tryz.prog.godebug = none := by kernel_rfl
def cf (N : Nat) (vs : List Nat) : Cfg := { own := fun _ => false, N := N, vs := vs }
end Go.Proofs.YtejbjgmgdbcddaaGreat
