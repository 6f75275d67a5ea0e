/- Facts of this translation. -/
import Derived.Test.YtamicokgpigmkaaRows
import Derived.Test.YtamicokgpigmkaaAbsW3
namespace Go.Proofs.Ytamicokgpigmkaa
open Go.Abs
theorem ks138 : keyS Try.prog 138 = some [(0, .ptr 38), (1, .int .i64)] := by kernel_rfl
theorem ks142 : keyS Try.prog 142 = some [(0, .ptr 54), (1, .int .i64)] := by kernel_rfl
theorem mi65 : mapInf Try.prog 65 = some (138, [(0, .ptr 38), (1, .int .i64)], 2, .agg [.nilp, .int .i64 0]) := by kernel_rfl
theorem mi71 : mapInf Try.prog 71 = some (142, [(0, .ptr 54), (1, .int .i64)], 2, .agg [.nilp, .int .i64 0]) := by kernel_rfl
theorem mi155 : mapInf Try.prog 155 = some (158, [(0, .bool), (1, .str)], 2, .bool false) := by kernel_rfl
theorem ti3 : tinf Try.prog 3 = some { size := 1, bytes := 8, zero := some [.int .i64 0], kind := .int .i64 } := by kernel_rfl
theorem ti4 : tinf Try.prog 4 = some { size := 1, bytes := 1, zero := some [.bool false], kind := .bool } := by kernel_rfl
theorem ti5 : tinf Try.prog 5 = some { size := 1, bytes := 1, zero := some [.int .u8 0], kind := .int .u8 } := by kernel_rfl
theorem ti9 : tinf Try.prog 9 = some { size := 1, bytes := 16, zero := some [.str []], kind := .str } := by kernel_rfl
theorem ti22 : tinf Try.prog 22 = some { size := 1, bytes := 24, zero := some [.nils], kind := .slice 59 } := by kernel_rfl
theorem ti25 : tinf Try.prog 25 = some { size := 1, bytes := 24, zero := some [.nils], kind := .slice 61 } := by kernel_rfl
theorem ti28 : tinf Try.prog 28 = some { size := 1, bytes := 24, zero := some [.nils], kind := .slice 79 } := by kernel_rfl
theorem ti31 : tinf Try.prog 31 = some { size := 1, bytes := 24, zero := some [.nils], kind := .slice 81 } := by kernel_rfl
theorem ti36 : tinf Try.prog 36 = some { size := 1, bytes := 24, zero := some [.nils], kind := .slice 38 } := by kernel_rfl
theorem ti38 : tinf Try.prog 38 = some { size := 4, bytes := 64, zero := some [.int .i64 0, .str [], .str [], .nils], kind := .struct [(0, 3, 1), (1, 9, 1), (2, 9, 1), (3, 36, 1)] } := by kernel_rfl
theorem ti41 : tinf Try.prog 41 = some { size := 1, bytes := 8, zero := some [.nilf], kind := .func } := by kernel_rfl
theorem ti44 : tinf Try.prog 44 = some { size := 1, bytes := 24, zero := some [.nils], kind := .slice 46 } := by kernel_rfl
theorem ti46 : tinf Try.prog 46 = some { size := 4, bytes := 64, zero := some [.int .i64 0, .str [], .str [], .nils], kind := .struct [(0, 3, 1), (1, 9, 1), (2, 9, 1), (3, 44, 1)] } := by kernel_rfl
theorem ti47 : tinf Try.prog 47 = some { size := 1, bytes := 24, zero := some [.nils], kind := .slice 49 } := by kernel_rfl
theorem ti49 : tinf Try.prog 49 = some { size := 9, bytes := 136, zero := some [.int .i64 0, .int .i64 0, .str [], .str [], .int .i64 0, .str [], .str [], .nils, .nils], kind := .struct [(0, 3, 1), (1, 3, 1), (2, 9, 1), (3, 9, 1), (4, 46, 4), (8, 47, 1)] } := by kernel_rfl
theorem ti51 : tinf Try.prog 51 = some { size := 1, bytes := 8, zero := some [.nilf], kind := .func } := by kernel_rfl
theorem ti52 : tinf Try.prog 52 = some { size := 1, bytes := 24, zero := some [.nils], kind := .slice 54 } := by kernel_rfl
theorem ti54 : tinf Try.prog 54 = some { size := 9, bytes := 136, zero := some [.int .i64 0, .int .i64 0, .str [], .str [], .int .i64 0, .str [], .str [], .nils, .nils], kind := .struct [(0, 3, 1), (1, 3, 1), (2, 9, 1), (3, 9, 1), (4, 38, 4), (8, 52, 1)] } := by kernel_rfl
theorem ti59 : tinf Try.prog 59 = some { size := 15, bytes := 224, zero := some [.int .i64 0, .str [], .int .i64 0, .str [], .str [], .nils, .int .i64 0, .int .i64 0, .str [], .str [], .int .i64 0, .str [], .str [], .nils, .nils], kind := .struct [(0, 3, 1), (1, 9, 1), (2, 46, 4), (6, 49, 9)] } := by kernel_rfl
theorem ti61 : tinf Try.prog 61 = some { size := 15, bytes := 224, zero := some [.int .i64 0, .str [], .int .i64 0, .str [], .str [], .nils, .int .i64 0, .int .i64 0, .str [], .str [], .int .i64 0, .str [], .str [], .nils, .nils], kind := .struct [(0, 3, 1), (1, 9, 1), (2, 38, 4), (6, 54, 9)] } := by kernel_rfl
theorem ti63 : tinf Try.prog 63 = some { size := 1, bytes := 8, zero := some [.nilf], kind := .func } := by kernel_rfl
theorem ti65 : tinf Try.prog 65 = some { size := 1, bytes := 8, zero := some [.nilm], kind := .map 138 138 } := by kernel_rfl
theorem ti67 : tinf Try.prog 67 = some { size := 3, bytes := 24, zero := some [.nilf, .nilf, .nilm], kind := .struct [(0, 63, 1), (1, 41, 1), (2, 65, 1)] } := by kernel_rfl
theorem ti69 : tinf Try.prog 69 = some { size := 1, bytes := 8, zero := some [.nilf], kind := .func } := by kernel_rfl
theorem ti71 : tinf Try.prog 71 = some { size := 1, bytes := 8, zero := some [.nilm], kind := .map 142 142 } := by kernel_rfl
theorem ti73 : tinf Try.prog 73 = some { size := 3, bytes := 24, zero := some [.nilf, .nilf, .nilm], kind := .struct [(0, 69, 1), (1, 51, 1), (2, 71, 1)] } := by kernel_rfl
theorem ti79 : tinf Try.prog 79 = some { size := 6, bytes := 88, zero := some [.int .i64 0, .str [], .int .i64 0, .str [], .str [], .nils], kind := .struct [(0, 3, 1), (1, 9, 1), (2, 46, 4)] } := by kernel_rfl
theorem ti81 : tinf Try.prog 81 = some { size := 6, bytes := 88, zero := some [.int .i64 0, .str [], .int .i64 0, .str [], .str [], .nils], kind := .struct [(0, 3, 1), (1, 9, 1), (2, 38, 4)] } := by kernel_rfl
theorem ti86 : tinf Try.prog 86 = some { size := 1, bytes := 24, zero := some [.nils], kind := .slice 118 } := by kernel_rfl
theorem ti87 : tinf Try.prog 87 = some { size := 1, bytes := 24, zero := some [.nils], kind := .slice 118 } := by kernel_rfl
theorem ti94 : tinf Try.prog 94 = some { size := 1, bytes := 16, zero := some [.nili], kind := .iface } := by kernel_rfl
theorem ti107 : tinf Try.prog 107 = some { size := 2, bytes := 48, zero := some [.nils, .nils], kind := .struct [(0, 36, 1), (1, 36, 1)] } := by kernel_rfl
theorem ti108 : tinf Try.prog 108 = some { size := 1, bytes := 24, zero := some [.nils], kind := .slice 107 } := by kernel_rfl
theorem ti110 : tinf Try.prog 110 = some { size := 2, bytes := 48, zero := some [.nils, .nils], kind := .struct [(0, 52, 1), (1, 52, 1)] } := by kernel_rfl
theorem ti111 : tinf Try.prog 111 = some { size := 1, bytes := 24, zero := some [.nils], kind := .slice 110 } := by kernel_rfl
theorem ti118 : tinf Try.prog 118 = some { size := 1, bytes := 16, zero := some [.nili], kind := .iface } := by kernel_rfl
theorem ti127 : tinf Try.prog 127 = some { size := 0, bytes := 0, zero := some [], kind := .struct [] } := by kernel_rfl
theorem ti129 : tinf Try.prog 129 = some { size := 2, bytes := 32, zero := some [.str [], .str []], kind := .struct [(0, 9, 1), (1, 9, 1)] } := by kernel_rfl
theorem ti138 : tinf Try.prog 138 = some { size := 2, bytes := 16, zero := some [.nilp, .int .i64 0], kind := .struct [(0, 136, 1), (1, 3, 1)] } := by kernel_rfl
theorem ti142 : tinf Try.prog 142 = some { size := 2, bytes := 16, zero := some [.nilp, .int .i64 0], kind := .struct [(0, 140, 1), (1, 3, 1)] } := by kernel_rfl
theorem ti149 : tinf Try.prog 149 = some { size := 1, bytes := 16, zero := some [.str []], kind := .struct [(0, 9, 1)] } := by kernel_rfl
theorem ti153 : tinf Try.prog 153 = some { size := 2, bytes := 32, zero := some [.str [], .nili], kind := .struct [(0, 9, 1), (1, 94, 1)] } := by kernel_rfl
theorem ti154 : tinf Try.prog 154 = some { size := 2, bytes := 32, zero := some [.str [], .nili], kind := .struct [(0, 9, 1), (1, 94, 1)] } := by kernel_rfl
theorem ti155 : tinf Try.prog 155 = some { size := 1, bytes := 8, zero := some [.nilm], kind := .map 158 4 } := by kernel_rfl
theorem ti158 : tinf Try.prog 158 = some { size := 2, bytes := 24, zero := some [.bool false, .str []], kind := .struct [(0, 4, 1), (1, 9, 1)] } := by kernel_rfl
theorem ti164 : tinf Try.prog 164 = some { size := 2, bytes := 32, zero := some [.nili, .nili], kind := .struct [(0, 94, 1), (1, 94, 1)] } := by kernel_rfl
theorem ti165 : tinf Try.prog 165 = some { size := 1, bytes := 24, zero := some [.nils], kind := .slice 5 } := by kernel_rfl
theorem ca8 : callable Try.prog 8 = true := by kernel_rfl
theorem ca9 : callable Try.prog 9 = true := by kernel_rfl
theorem ca10 : callable Try.prog 10 = true := by kernel_rfl
theorem ca11 : callable Try.prog 11 = true := by kernel_rfl
theorem ca12 : callable Try.prog 12 = true := by kernel_rfl
theorem ca13 : callable Try.prog 13 = true := by kernel_rfl
theorem ca14 : callable Try.prog 14 = true := by kernel_rfl
theorem ca15 : callable Try.prog 15 = true := by kernel_rfl
theorem ca16 : callable Try.prog 16 = true := by kernel_rfl
theorem ca17 : callable Try.prog 17 = true := by kernel_rfl
theorem ca18 : callable Try.prog 18 = true := by kernel_rfl
theorem ca19 : callable Try.prog 19 = true := by kernel_rfl
theorem ca20 : callable Try.prog 20 = true := by kernel_rfl
theorem ca21 : callable Try.prog 21 = true := by kernel_rfl
theorem ca22 : callable Try.prog 22 = true := by kernel_rfl
theorem ca23 : callable Try.prog 23 = true := by kernel_rfl
theorem ca24 : callable Try.prog 24 = true := by kernel_rfl
theorem ca25 : callable Try.prog 25 = true := by kernel_rfl
theorem ca26 : callable Try.prog 26 = true := by kernel_rfl
theorem ca27 : callable Try.prog 27 = true := by kernel_rfl
theorem ca28 : callable Try.prog 28 = true := by kernel_rfl
theorem ca29 : callable Try.prog 29 = true := by kernel_rfl
theorem ca30 : callable Try.prog 30 = true := by kernel_rfl
theorem ca31 : callable Try.prog 31 = true := by kernel_rfl
theorem ca32 : callable Try.prog 32 = true := by kernel_rfl
theorem ca33 : callable Try.prog 33 = true := by kernel_rfl
theorem ca34 : callable Try.prog 34 = true := by kernel_rfl
theorem ca35 : callable Try.prog 35 = true := by kernel_rfl
theorem ca37 : callable Try.prog 37 = true := by kernel_rfl
theorem ca38 : callable Try.prog 38 = true := by kernel_rfl
theorem ca39 : callable Try.prog 39 = true := by kernel_rfl
theorem ca40 : callable Try.prog 40 = true := by kernel_rfl
theorem ca41 : callable Try.prog 41 = true := by kernel_rfl
theorem ca42 : callable Try.prog 42 = true := by kernel_rfl
theorem ca44 : callable Try.prog 44 = true := by kernel_rfl
theorem ca45 : callable Try.prog 45 = true := by kernel_rfl
theorem ca46 : callable Try.prog 46 = true := by kernel_rfl
theorem ca47 : callable Try.prog 47 = true := by kernel_rfl
theorem ca48 : callable Try.prog 48 = true := by kernel_rfl
theorem ca49 : callable Try.prog 49 = true := by kernel_rfl
theorem ca50 : callable Try.prog 50 = true := by kernel_rfl
theorem ca51 : callable Try.prog 51 = true := by kernel_rfl
theorem ca52 : callable Try.prog 52 = true := by kernel_rfl
theorem ca53 : callable Try.prog 53 = true := by kernel_rfl
theorem ca54 : callable Try.prog 54 = true := by kernel_rfl
theorem ca55 : callable Try.prog 55 = true := by kernel_rfl
theorem ca56 : callable Try.prog 56 = true := by kernel_rfl
theorem ca57 : callable Try.prog 57 = true := by kernel_rfl
theorem ca58 : callable Try.prog 58 = true := by kernel_rfl
theorem ca63 : callable Try.prog 63 = true := by kernel_rfl
theorem ca64 : callable Try.prog 64 = true := by kernel_rfl
theorem ca65 : callable Try.prog 65 = true := by kernel_rfl
theorem ca66 : callable Try.prog 66 = true := by kernel_rfl
theorem ca67 : callable Try.prog 67 = true := by kernel_rfl
theorem ca68 : callable Try.prog 68 = true := by kernel_rfl
theorem ca69 : callable Try.prog 69 = true := by kernel_rfl
theorem ca70 : callable Try.prog 70 = true := by kernel_rfl
theorem ca72 : callable Try.prog 72 = true := by kernel_rfl
theorem ca73 : callable Try.prog 73 = true := by kernel_rfl
theorem ca74 : callable Try.prog 74 = true := by kernel_rfl
theorem ca75 : callable Try.prog 75 = true := by kernel_rfl
theorem ca76 : callable Try.prog 76 = true := by kernel_rfl
theorem ca77 : callable Try.prog 77 = true := by kernel_rfl
theorem ca78 : callable Try.prog 78 = true := by kernel_rfl
theorem ca79 : callable Try.prog 79 = true := by kernel_rfl
theorem ca80 : callable Try.prog 80 = true := by kernel_rfl
theorem ca81 : callable Try.prog 81 = true := by kernel_rfl
theorem ca82 : callable Try.prog 82 = true := by kernel_rfl
theorem ca83 : callable Try.prog 83 = true := by kernel_rfl
theorem ca84 : callable Try.prog 84 = true := by kernel_rfl
theorem ca85 : callable Try.prog 85 = true := by kernel_rfl
theorem ca86 : callable Try.prog 86 = true := by kernel_rfl
theorem ca87 : callable Try.prog 87 = true := by kernel_rfl
theorem ca88 : callable Try.prog 88 = true := by kernel_rfl
theorem ca89 : callable Try.prog 89 = true := by kernel_rfl
theorem ca90 : callable Try.prog 90 = true := by kernel_rfl
theorem ca91 : callable Try.prog 91 = true := by kernel_rfl
theorem ca93 : callable Try.prog 93 = true := by kernel_rfl
theorem ca94 : callable Try.prog 94 = true := by kernel_rfl
theorem ca95 : callable Try.prog 95 = true := by kernel_rfl
theorem ca96 : callable Try.prog 96 = true := by kernel_rfl
theorem ca97 : callable Try.prog 97 = true := by kernel_rfl
theorem ca98 : callable Try.prog 98 = true := by kernel_rfl
theorem ca99 : callable Try.prog 99 = true := by kernel_rfl
theorem ca100 : callable Try.prog 100 = true := by kernel_rfl
theorem ca101 : callable Try.prog 101 = true := by kernel_rfl
theorem ca102 : callable Try.prog 102 = true := by kernel_rfl
theorem ca103 : callable Try.prog 103 = true := by kernel_rfl
theorem ca121 : callable Try.prog 121 = true := by kernel_rfl
theorem foll : Try.prog.follows .mixedOrders = true := by kernel_rfl
theorem laid : laidOutB Try.prog = true := by kernel_rfl
theorem ownk : ownKnob Try.prog.godebug = none := by kernel_rfl
def cf (N : Nat) (vs : List Nat) : Cfg := { own := fun _ => false, N := N, vs := vs }
end Go.Proofs.Ytamicokgpigmkaa
