/- Facts of this translation. -/
import Derived.Test.YtjoaedbeohgciaaGreatRows
import Derived.Test.YtjoaedbeohgciaaGreatAbsW3
namespace Go.Proofs.YtjoaedbeohgciaaGreat
open Go.Abs
theorem za97 : zagg Tryz.prog 97 = some [.str []] := by kernel_rfl
theorem ks67 : keyS Tryz.prog 67 = some [(0, .bool), (1, .str)] := by kernel_rfl
theorem ks141 : keyS Tryz.prog 141 = some [(0, .ptr 33), (1, .int .i64)] := by kernel_rfl
theorem mi107 : mapInf Tryz.prog 107 = some (100, [(0, .str), (1, .str)], 2, .nili) := by kernel_rfl
theorem mi119 : mapInf Tryz.prog 119 = some (67, [(0, .bool), (1, .str)], 2, .bool false) := by kernel_rfl
theorem mi128 : mapInf Tryz.prog 128 = some (141, [(0, .ptr 33), (1, .int .i64)], 2, .agg [.nilp, .int .i64 0]) := by kernel_rfl
theorem ti3 : tinf Tryz.prog 3 = some { size := 1, bytes := 8, zero := some [.int .i64 0], kind := .int .i64 } := by kernel_rfl
theorem ti4 : tinf Tryz.prog 4 = some { size := 1, bytes := 1, zero := some [.bool false], kind := .bool } := by kernel_rfl
theorem ti5 : tinf Tryz.prog 5 = some { size := 1, bytes := 1, zero := some [.int .u8 0], kind := .int .u8 } := by kernel_rfl
theorem ti9 : tinf Tryz.prog 9 = some { size := 1, bytes := 16, zero := some [.str []], kind := .str } := by kernel_rfl
theorem ti22 : tinf Tryz.prog 22 = some { size := 1, bytes := 24, zero := some [.nils], kind := .slice 45 } := by kernel_rfl
theorem ti24 : tinf Tryz.prog 24 = some { size := 1, bytes := 24, zero := some [.nils], kind := .slice 49 } := by kernel_rfl
theorem ti31 : tinf Tryz.prog 31 = some { size := 1, bytes := 24, zero := some [.nils], kind := .slice 33 } := by kernel_rfl
theorem ti33 : tinf Tryz.prog 33 = some { size := 4, bytes := 64, zero := some [.int .i64 0, .str [], .str [], .nils], kind := .struct [(0, 3, 1), (1, 9, 1), (2, 9, 1), (3, 31, 1)] } := by kernel_rfl
theorem ti36 : tinf Tryz.prog 36 = some { size := 1, bytes := 8, zero := some [.nilf], kind := .func } := by kernel_rfl
theorem ti41 : tinf Tryz.prog 41 = some { size := 1, bytes := 24, zero := some [.nils], kind := .slice 43 } := by kernel_rfl
theorem ti43 : tinf Tryz.prog 43 = some { size := 4, bytes := 64, zero := some [.int .i64 0, .str [], .str [], .nils], kind := .struct [(0, 3, 1), (1, 9, 1), (2, 9, 1), (3, 41, 1)] } := by kernel_rfl
theorem ti45 : tinf Tryz.prog 45 = some { size := 6, bytes := 88, zero := some [.int .i64 0, .str [], .int .i64 0, .str [], .str [], .nils], kind := .struct [(0, 3, 1), (1, 9, 1), (2, 43, 4)] } := by kernel_rfl
theorem ti49 : tinf Tryz.prog 49 = some { size := 6, bytes := 88, zero := some [.int .i64 0, .str [], .int .i64 0, .str [], .str [], .nils], kind := .struct [(0, 3, 1), (1, 9, 1), (2, 33, 4)] } := by kernel_rfl
theorem ti51 : tinf Tryz.prog 51 = some { size := 1, bytes := 24, zero := some [.nils], kind := .slice 77 } := by kernel_rfl
theorem ti55 : tinf Tryz.prog 55 = some { size := 1, bytes := 24, zero := some [.nils], kind := .slice 84 } := by kernel_rfl
theorem ti56 : tinf Tryz.prog 56 = some { size := 1, bytes := 24, zero := some [.nils], kind := .slice 84 } := by kernel_rfl
theorem ti67 : tinf Tryz.prog 67 = some { size := 2, bytes := 24, zero := some [.bool false, .str []], kind := .struct [(0, 4, 1), (1, 9, 1)] } := by kernel_rfl
theorem ti77 : tinf Tryz.prog 77 = some { size := 6, bytes := 96, zero := some [.str [], .str [], .int .i64 0, .str [], .str [], .nils], kind := .struct [(0, 9, 1), (1, 9, 1), (2, 33, 4)] } := by kernel_rfl
theorem ti84 : tinf Tryz.prog 84 = some { size := 1, bytes := 16, zero := some [.nili], kind := .iface } := by kernel_rfl
theorem ti85 : tinf Tryz.prog 85 = some { size := 1, bytes := 24, zero := some [.nils], kind := .slice 5 } := by kernel_rfl
theorem ti87 : tinf Tryz.prog 87 = some { size := 1, bytes := 16, zero := some [.nili], kind := .iface } := by kernel_rfl
theorem ti97 : tinf Tryz.prog 97 = some { size := 1, bytes := 16, zero := some [.str []], kind := .struct [(0, 9, 1)] } := by kernel_rfl
theorem ti100 : tinf Tryz.prog 100 = some { size := 2, bytes := 32, zero := some [.str [], .str []], kind := .struct [(0, 9, 1), (1, 9, 1)] } := by kernel_rfl
theorem ti102 : tinf Tryz.prog 102 = some { size := 2, bytes := 32, zero := some [.str [], .nili], kind := .struct [(0, 9, 1), (1, 87, 1)] } := by kernel_rfl
theorem ti107 : tinf Tryz.prog 107 = some { size := 1, bytes := 8, zero := some [.nilm], kind := .map 100 87 } := by kernel_rfl
theorem ti118 : tinf Tryz.prog 118 = some { size := 2, bytes := 32, zero := some [.str [], .nili], kind := .struct [(0, 9, 1), (1, 87, 1)] } := by kernel_rfl
theorem ti119 : tinf Tryz.prog 119 = some { size := 1, bytes := 8, zero := some [.nilm], kind := .map 67 4 } := by kernel_rfl
theorem ti126 : tinf Tryz.prog 126 = some { size := 1, bytes := 8, zero := some [.nilf], kind := .func } := by kernel_rfl
theorem ti128 : tinf Tryz.prog 128 = some { size := 1, bytes := 8, zero := some [.nilm], kind := .map 141 141 } := by kernel_rfl
theorem ti130 : tinf Tryz.prog 130 = some { size := 3, bytes := 24, zero := some [.nilf, .nilf, .nilm], kind := .struct [(0, 126, 1), (1, 36, 1), (2, 128, 1)] } := by kernel_rfl
theorem ti134 : tinf Tryz.prog 134 = some { size := 2, bytes := 48, zero := some [.nils, .nils], kind := .struct [(0, 31, 1), (1, 31, 1)] } := by kernel_rfl
theorem ti135 : tinf Tryz.prog 135 = some { size := 1, bytes := 24, zero := some [.nils], kind := .slice 134 } := by kernel_rfl
theorem ti137 : tinf Tryz.prog 137 = some { size := 0, bytes := 0, zero := some [], kind := .struct [] } := by kernel_rfl
theorem ti141 : tinf Tryz.prog 141 = some { size := 2, bytes := 16, zero := some [.nilp, .int .i64 0], kind := .struct [(0, 139, 1), (1, 3, 1)] } := by kernel_rfl
theorem ti144 : tinf Tryz.prog 144 = some { size := 2, bytes := 32, zero := some [.nili, .nili], kind := .struct [(0, 87, 1), (1, 87, 1)] } := by kernel_rfl
theorem ca7 : callable Tryz.prog 7 = true := by kernel_rfl
theorem ca8 : callable Tryz.prog 8 = true := by kernel_rfl
theorem ca9 : callable Tryz.prog 9 = true := by kernel_rfl
theorem ca10 : callable Tryz.prog 10 = true := by kernel_rfl
theorem ca11 : callable Tryz.prog 11 = true := by kernel_rfl
theorem ca12 : callable Tryz.prog 12 = true := by kernel_rfl
theorem ca13 : callable Tryz.prog 13 = true := by kernel_rfl
theorem ca14 : callable Tryz.prog 14 = true := by kernel_rfl
theorem ca15 : callable Tryz.prog 15 = true := by kernel_rfl
theorem ca16 : callable Tryz.prog 16 = true := by kernel_rfl
theorem ca17 : callable Tryz.prog 17 = true := by kernel_rfl
theorem ca18 : callable Tryz.prog 18 = true := by kernel_rfl
theorem ca19 : callable Tryz.prog 19 = true := by kernel_rfl
theorem ca20 : callable Tryz.prog 20 = true := by kernel_rfl
theorem ca21 : callable Tryz.prog 21 = true := by kernel_rfl
theorem ca22 : callable Tryz.prog 22 = true := by kernel_rfl
theorem ca23 : callable Tryz.prog 23 = true := by kernel_rfl
theorem ca24 : callable Tryz.prog 24 = true := by kernel_rfl
theorem ca25 : callable Tryz.prog 25 = true := by kernel_rfl
theorem ca26 : callable Tryz.prog 26 = true := by kernel_rfl
theorem ca27 : callable Tryz.prog 27 = true := by kernel_rfl
theorem ca28 : callable Tryz.prog 28 = true := by kernel_rfl
theorem ca29 : callable Tryz.prog 29 = true := by kernel_rfl
theorem ca30 : callable Tryz.prog 30 = true := by kernel_rfl
theorem ca31 : callable Tryz.prog 31 = true := by kernel_rfl
theorem ca32 : callable Tryz.prog 32 = true := by kernel_rfl
theorem ca33 : callable Tryz.prog 33 = true := by kernel_rfl
theorem ca34 : callable Tryz.prog 34 = true := by kernel_rfl
theorem ca35 : callable Tryz.prog 35 = true := by kernel_rfl
theorem ca36 : callable Tryz.prog 36 = true := by kernel_rfl
theorem ca37 : callable Tryz.prog 37 = true := by kernel_rfl
theorem ca38 : callable Tryz.prog 38 = true := by kernel_rfl
theorem ca39 : callable Tryz.prog 39 = true := by kernel_rfl
theorem ca40 : callable Tryz.prog 40 = true := by kernel_rfl
theorem ca41 : callable Tryz.prog 41 = true := by kernel_rfl
theorem ca42 : callable Tryz.prog 42 = true := by kernel_rfl
theorem ca43 : callable Tryz.prog 43 = true := by kernel_rfl
theorem ca44 : callable Tryz.prog 44 = true := by kernel_rfl
theorem ca45 : callable Tryz.prog 45 = true := by kernel_rfl
theorem ca46 : callable Tryz.prog 46 = true := by kernel_rfl
theorem ca47 : callable Tryz.prog 47 = true := by kernel_rfl
theorem ca48 : callable Tryz.prog 48 = true := by kernel_rfl
theorem ca49 : callable Tryz.prog 49 = true := by kernel_rfl
theorem ca50 : callable Tryz.prog 50 = true := by kernel_rfl
theorem ca51 : callable Tryz.prog 51 = true := by kernel_rfl
theorem ca52 : callable Tryz.prog 52 = true := by kernel_rfl
theorem ca53 : callable Tryz.prog 53 = true := by kernel_rfl
theorem ca54 : callable Tryz.prog 54 = true := by kernel_rfl
theorem ca55 : callable Tryz.prog 55 = true := by kernel_rfl
theorem ca56 : callable Tryz.prog 56 = true := by kernel_rfl
theorem ca58 : callable Tryz.prog 58 = true := by kernel_rfl
theorem ca59 : callable Tryz.prog 59 = true := by kernel_rfl
theorem ca60 : callable Tryz.prog 60 = true := by kernel_rfl
theorem ca61 : callable Tryz.prog 61 = true := by kernel_rfl
theorem ca62 : callable Tryz.prog 62 = true := by kernel_rfl
theorem ca63 : callable Tryz.prog 63 = true := by kernel_rfl
theorem ca64 : callable Tryz.prog 64 = true := by kernel_rfl
theorem ca65 : callable Tryz.prog 65 = true := by kernel_rfl
theorem ca66 : callable Tryz.prog 66 = true := by kernel_rfl
theorem ca68 : callable Tryz.prog 68 = true := by kernel_rfl
theorem ca69 : callable Tryz.prog 69 = true := by kernel_rfl
theorem ca70 : callable Tryz.prog 70 = true := by kernel_rfl
theorem ca71 : callable Tryz.prog 71 = true := by kernel_rfl
theorem ca72 : callable Tryz.prog 72 = true := by kernel_rfl
theorem ca74 : callable Tryz.prog 74 = true := by kernel_rfl
theorem ca75 : callable Tryz.prog 75 = true := by kernel_rfl
theorem ca77 : callable Tryz.prog 77 = true := by kernel_rfl
theorem ca78 : callable Tryz.prog 78 = true := by kernel_rfl
theorem ca79 : callable Tryz.prog 79 = true := by kernel_rfl
theorem ca80 : callable Tryz.prog 80 = true := by kernel_rfl
theorem ca83 : callable Tryz.prog 83 = true := by kernel_rfl
theorem ca84 : callable Tryz.prog 84 = true := by kernel_rfl
theorem ca85 : callable Tryz.prog 85 = true := by kernel_rfl
theorem ca86 : callable Tryz.prog 86 = true := by kernel_rfl
theorem foll : Tryz.prog.follows .mixedOrders = true := by kernel_rfl
theorem laid : laidOutB Tryz.prog = true := by kernel_rfl
theorem ownk : ownKnob Tryz.prog.godebug = none := by kernel_rfl
def cf (N : Nat) (vs : List Nat) : Cfg := { own := fun _ => false, N := N, vs := vs }
end Go.Proofs.YtjoaedbeohgciaaGreat
