/- Facts of this translation. -/
import Derived.Test.YtebgneaehhaclaaRows
import Derived.Test.YtebgneaehhaclaaAbsW3
namespace Go.Proofs.Ytebgneaehhaclaa
open Go.Abs
theorem ks164 : keyS Try.prog 164 = some [(0, .ptr 68), (1, .int .i64)] := by kernel_rfl
theorem ks168 : keyS Try.prog 168 = some [(0, .ptr 100), (1, .int .i64)] := by kernel_rfl
theorem ks172 : keyS Try.prog 172 = some [(0, .ptr 53), (1, .int .i64)] := by kernel_rfl
theorem ks176 : keyS Try.prog 176 = some [(0, .ptr 115), (1, .int .i64)] := by kernel_rfl
theorem ks180 : keyS Try.prog 180 = some [(0, .ptr 50), (1, .int .i64)] := by kernel_rfl
theorem ks184 : keyS Try.prog 184 = some [(0, .ptr 124), (1, .int .i64)] := by kernel_rfl
theorem ks190 : keyS Try.prog 190 = some [(0, .ptr 9), (1, .int .i64)] := by kernel_rfl
theorem mi73 : mapInf Try.prog 73 = some (180, [(0, .ptr 50), (1, .int .i64)], 2, .agg [.nilp, .int .i64 0]) := by kernel_rfl
theorem mi77 : mapInf Try.prog 77 = some (176, [(0, .ptr 115), (1, .int .i64)], 2, .agg [.nilp, .int .i64 0]) := by kernel_rfl
theorem mi83 : mapInf Try.prog 83 = some (172, [(0, .ptr 53), (1, .int .i64)], 2, .agg [.nilp, .int .i64 0]) := by kernel_rfl
theorem mi87 : mapInf Try.prog 87 = some (184, [(0, .ptr 124), (1, .int .i64)], 2, .agg [.nilp, .int .i64 0]) := by kernel_rfl
theorem mi91 : mapInf Try.prog 91 = some (164, [(0, .ptr 68), (1, .int .i64)], 2, .agg [.nilp, .int .i64 0]) := by kernel_rfl
theorem mi104 : mapInf Try.prog 104 = some (168, [(0, .ptr 100), (1, .int .i64)], 2, .agg [.nilp, .int .i64 0]) := by kernel_rfl
theorem mi106 : mapInf Try.prog 106 = some (190, [(0, .ptr 9), (1, .int .i64)], 2, .agg [.nilp, .int .i64 0]) := by kernel_rfl
theorem ti3 : tinf Try.prog 3 = some { size := 1, bytes := 8, zero := some [.int .i64 0], kind := .int .i64 } := by kernel_rfl
theorem ti4 : tinf Try.prog 4 = some { size := 1, bytes := 1, zero := some [.bool false], kind := .bool } := by kernel_rfl
theorem ti9 : tinf Try.prog 9 = some { size := 1, bytes := 16, zero := some [.str []], kind := .str } := by kernel_rfl
theorem ti22 : tinf Try.prog 22 = some { size := 1, bytes := 24, zero := some [.nils], kind := .slice 130 } := by kernel_rfl
theorem ti23 : tinf Try.prog 23 = some { size := 1, bytes := 24, zero := some [.nils], kind := .slice 122 } := by kernel_rfl
theorem ti24 : tinf Try.prog 24 = some { size := 1, bytes := 24, zero := some [.nils], kind := .slice 113 } := by kernel_rfl
theorem ti26 : tinf Try.prog 26 = some { size := 4, bytes := 88, zero := some [.str [], .nils, .nils, .nils], kind := .struct [(0, 9, 1), (1, 22, 1), (2, 23, 1), (3, 24, 1)] } := by kernel_rfl
theorem ti29 : tinf Try.prog 29 = some { size := 1, bytes := 24, zero := some [.nils], kind := .slice 68 } := by kernel_rfl
theorem ti30 : tinf Try.prog 30 = some { size := 1, bytes := 24, zero := some [.nils], kind := .slice 124 } := by kernel_rfl
theorem ti31 : tinf Try.prog 31 = some { size := 1, bytes := 24, zero := some [.nils], kind := .slice 115 } := by kernel_rfl
theorem ti33 : tinf Try.prog 33 = some { size := 4, bytes := 88, zero := some [.str [], .nils, .nils, .nils], kind := .struct [(0, 9, 1), (1, 29, 1), (2, 30, 1), (3, 31, 1)] } := by kernel_rfl
theorem ti36 : tinf Try.prog 36 = some { size := 1, bytes := 24, zero := some [.nils], kind := .slice 136 } := by kernel_rfl
theorem ti37 : tinf Try.prog 37 = some { size := 1, bytes := 24, zero := some [.nils], kind := .slice 39 } := by kernel_rfl
theorem ti39 : tinf Try.prog 39 = some { size := 4, bytes := 64, zero := some [.int .i64 0, .str [], .str [], .nils], kind := .struct [(0, 3, 1), (1, 9, 1), (2, 9, 1), (3, 37, 1)] } := by kernel_rfl
theorem ti40 : tinf Try.prog 40 = some { size := 1, bytes := 24, zero := some [.nils], kind := .slice 42 } := by kernel_rfl
theorem ti42 : tinf Try.prog 42 = some { size := 9, bytes := 136, zero := some [.int .i64 0, .int .i64 0, .str [], .str [], .int .i64 0, .str [], .str [], .nils, .nils], kind := .struct [(0, 3, 1), (1, 3, 1), (2, 9, 1), (3, 9, 1), (4, 39, 4), (8, 40, 1)] } := by kernel_rfl
theorem ti44 : tinf Try.prog 44 = some { size := 10, bytes := 160, zero := some [.nils, .int .i64 0, .int .i64 0, .str [], .str [], .int .i64 0, .str [], .str [], .nils, .nils], kind := .struct [(0, 36, 1), (1, 42, 9)] } := by kernel_rfl
theorem ti47 : tinf Try.prog 47 = some { size := 1, bytes := 24, zero := some [.nils], kind := .slice 100 } := by kernel_rfl
theorem ti48 : tinf Try.prog 48 = some { size := 1, bytes := 24, zero := some [.nils], kind := .slice 50 } := by kernel_rfl
theorem ti50 : tinf Try.prog 50 = some { size := 4, bytes := 64, zero := some [.int .i64 0, .str [], .str [], .nils], kind := .struct [(0, 3, 1), (1, 9, 1), (2, 9, 1), (3, 48, 1)] } := by kernel_rfl
theorem ti51 : tinf Try.prog 51 = some { size := 1, bytes := 24, zero := some [.nils], kind := .slice 53 } := by kernel_rfl
theorem ti53 : tinf Try.prog 53 = some { size := 9, bytes := 136, zero := some [.int .i64 0, .int .i64 0, .str [], .str [], .int .i64 0, .str [], .str [], .nils, .nils], kind := .struct [(0, 3, 1), (1, 3, 1), (2, 9, 1), (3, 9, 1), (4, 50, 4), (8, 51, 1)] } := by kernel_rfl
theorem ti55 : tinf Try.prog 55 = some { size := 10, bytes := 160, zero := some [.nils, .int .i64 0, .int .i64 0, .str [], .str [], .int .i64 0, .str [], .str [], .nils, .nils], kind := .struct [(0, 47, 1), (1, 53, 9)] } := by kernel_rfl
theorem ti68 : tinf Try.prog 68 = some { size := 2, bytes := 40, zero := some [.str [], .nils], kind := .struct [(0, 9, 1), (1, 31, 1)] } := by kernel_rfl
theorem ti70 : tinf Try.prog 70 = some { size := 1, bytes := 8, zero := some [.nilf], kind := .func } := by kernel_rfl
theorem ti71 : tinf Try.prog 71 = some { size := 1, bytes := 8, zero := some [.nilf], kind := .func } := by kernel_rfl
theorem ti73 : tinf Try.prog 73 = some { size := 1, bytes := 8, zero := some [.nilm], kind := .map 180 180 } := by kernel_rfl
theorem ti75 : tinf Try.prog 75 = some { size := 3, bytes := 24, zero := some [.nilf, .nilf, .nilm], kind := .struct [(0, 70, 1), (1, 71, 1), (2, 73, 1)] } := by kernel_rfl
theorem ti77 : tinf Try.prog 77 = some { size := 1, bytes := 8, zero := some [.nilm], kind := .map 176 176 } := by kernel_rfl
theorem ti79 : tinf Try.prog 79 = some { size := 4, bytes := 32, zero := some [.nilf, .nilf, .nilm, .nilm], kind := .struct [(0, 75, 3), (3, 77, 1)] } := by kernel_rfl
theorem ti80 : tinf Try.prog 80 = some { size := 1, bytes := 8, zero := some [.nilf], kind := .func } := by kernel_rfl
theorem ti81 : tinf Try.prog 81 = some { size := 1, bytes := 8, zero := some [.nilf], kind := .func } := by kernel_rfl
theorem ti83 : tinf Try.prog 83 = some { size := 1, bytes := 8, zero := some [.nilm], kind := .map 172 172 } := by kernel_rfl
theorem ti85 : tinf Try.prog 85 = some { size := 3, bytes := 24, zero := some [.nilf, .nilf, .nilm], kind := .struct [(0, 80, 1), (1, 81, 1), (2, 83, 1)] } := by kernel_rfl
theorem ti87 : tinf Try.prog 87 = some { size := 1, bytes := 8, zero := some [.nilm], kind := .map 184 184 } := by kernel_rfl
theorem ti89 : tinf Try.prog 89 = some { size := 7, bytes := 56, zero := some [.nilf, .nilf, .nilm, .nilf, .nilf, .nilm, .nilm], kind := .struct [(0, 75, 3), (3, 85, 3), (6, 87, 1)] } := by kernel_rfl
theorem ti91 : tinf Try.prog 91 = some { size := 1, bytes := 8, zero := some [.nilm], kind := .map 164 164 } := by kernel_rfl
theorem ti93 : tinf Try.prog 93 = some { size := 12, bytes := 96, zero := some [.nilf, .nilf, .nilm, .nilm, .nilf, .nilf, .nilm, .nilf, .nilf, .nilm, .nilm, .nilm], kind := .struct [(0, 79, 4), (4, 89, 7), (11, 91, 1)] } := by kernel_rfl
theorem ti98 : tinf Try.prog 98 = some { size := 1, bytes := 24, zero := some [.nils], kind := .slice 9 } := by kernel_rfl
theorem ti100 : tinf Try.prog 100 = some { size := 7, bytes := 144, zero := some [.str [], .nils, .nils, .nils, .str [], .str [], .nils], kind := .struct [(0, 33, 4), (4, 9, 1), (5, 9, 1), (6, 98, 1)] } := by kernel_rfl
theorem ti104 : tinf Try.prog 104 = some { size := 1, bytes := 8, zero := some [.nilm], kind := .map 168 168 } := by kernel_rfl
theorem ti106 : tinf Try.prog 106 = some { size := 1, bytes := 8, zero := some [.nilm], kind := .map 190 190 } := by kernel_rfl
theorem ti108 : tinf Try.prog 108 = some { size := 14, bytes := 112, zero := some [.nilf, .nilf, .nilm, .nilm, .nilf, .nilf, .nilm, .nilf, .nilf, .nilm, .nilm, .nilm, .nilm, .nilm], kind := .struct [(0, 93, 12), (12, 104, 1), (13, 106, 1)] } := by kernel_rfl
theorem ti113 : tinf Try.prog 113 = some { size := 6, bytes := 88, zero := some [.int .i64 0, .str [], .int .i64 0, .str [], .str [], .nils], kind := .struct [(0, 3, 1), (1, 9, 1), (2, 39, 4)] } := by kernel_rfl
theorem ti115 : tinf Try.prog 115 = some { size := 6, bytes := 88, zero := some [.int .i64 0, .str [], .int .i64 0, .str [], .str [], .nils], kind := .struct [(0, 3, 1), (1, 9, 1), (2, 50, 4)] } := by kernel_rfl
theorem ti122 : tinf Try.prog 122 = some { size := 15, bytes := 224, zero := some [.int .i64 0, .str [], .int .i64 0, .str [], .str [], .nils, .int .i64 0, .int .i64 0, .str [], .str [], .int .i64 0, .str [], .str [], .nils, .nils], kind := .struct [(0, 3, 1), (1, 9, 1), (2, 39, 4), (6, 42, 9)] } := by kernel_rfl
theorem ti124 : tinf Try.prog 124 = some { size := 15, bytes := 224, zero := some [.int .i64 0, .str [], .int .i64 0, .str [], .str [], .nils, .int .i64 0, .int .i64 0, .str [], .str [], .int .i64 0, .str [], .str [], .nils, .nils], kind := .struct [(0, 3, 1), (1, 9, 1), (2, 50, 4), (6, 53, 9)] } := by kernel_rfl
theorem ti130 : tinf Try.prog 130 = some { size := 2, bytes := 40, zero := some [.str [], .nils], kind := .struct [(0, 9, 1), (1, 24, 1)] } := by kernel_rfl
theorem ti136 : tinf Try.prog 136 = some { size := 7, bytes := 144, zero := some [.str [], .nils, .nils, .nils, .str [], .str [], .nils], kind := .struct [(0, 26, 4), (4, 9, 1), (5, 9, 1), (6, 98, 1)] } := by kernel_rfl
theorem ti155 : tinf Try.prog 155 = some { size := 2, bytes := 48, zero := some [.nils, .nils], kind := .struct [(0, 51, 1), (1, 51, 1)] } := by kernel_rfl
theorem ti156 : tinf Try.prog 156 = some { size := 1, bytes := 24, zero := some [.nils], kind := .slice 155 } := by kernel_rfl
theorem ti160 : tinf Try.prog 160 = some { size := 2, bytes := 48, zero := some [.nils, .nils], kind := .struct [(0, 48, 1), (1, 48, 1)] } := by kernel_rfl
theorem ti161 : tinf Try.prog 161 = some { size := 1, bytes := 24, zero := some [.nils], kind := .slice 160 } := by kernel_rfl
theorem ti164 : tinf Try.prog 164 = some { size := 2, bytes := 16, zero := some [.nilp, .int .i64 0], kind := .struct [(0, 162, 1), (1, 3, 1)] } := by kernel_rfl
theorem ti168 : tinf Try.prog 168 = some { size := 2, bytes := 16, zero := some [.nilp, .int .i64 0], kind := .struct [(0, 166, 1), (1, 3, 1)] } := by kernel_rfl
theorem ti172 : tinf Try.prog 172 = some { size := 2, bytes := 16, zero := some [.nilp, .int .i64 0], kind := .struct [(0, 170, 1), (1, 3, 1)] } := by kernel_rfl
theorem ti176 : tinf Try.prog 176 = some { size := 2, bytes := 16, zero := some [.nilp, .int .i64 0], kind := .struct [(0, 174, 1), (1, 3, 1)] } := by kernel_rfl
theorem ti180 : tinf Try.prog 180 = some { size := 2, bytes := 16, zero := some [.nilp, .int .i64 0], kind := .struct [(0, 178, 1), (1, 3, 1)] } := by kernel_rfl
theorem ti184 : tinf Try.prog 184 = some { size := 2, bytes := 16, zero := some [.nilp, .int .i64 0], kind := .struct [(0, 182, 1), (1, 3, 1)] } := by kernel_rfl
theorem ti190 : tinf Try.prog 190 = some { size := 2, bytes := 16, zero := some [.nilp, .int .i64 0], kind := .struct [(0, 188, 1), (1, 3, 1)] } := by kernel_rfl
theorem ca7 : callable Try.prog 7 = true := by kernel_rfl
theorem ca8 : callable Try.prog 8 = true := by kernel_rfl
theorem ca9 : callable Try.prog 9 = true := by kernel_rfl
theorem ca10 : callable Try.prog 10 = true := by kernel_rfl
theorem ca11 : callable Try.prog 11 = true := by kernel_rfl
theorem ca12 : callable Try.prog 12 = true := by kernel_rfl
theorem ca13 : callable Try.prog 13 = true := by kernel_rfl
theorem ca14 : callable Try.prog 14 = true := by kernel_rfl
theorem ca15 : callable Try.prog 15 = true := by kernel_rfl
theorem ca16 : callable Try.prog 16 = true := by kernel_rfl
theorem ca17 : callable Try.prog 17 = true := by kernel_rfl
theorem ca18 : callable Try.prog 18 = true := by kernel_rfl
theorem ca19 : callable Try.prog 19 = true := by kernel_rfl
theorem ca20 : callable Try.prog 20 = true := by kernel_rfl
theorem ca21 : callable Try.prog 21 = true := by kernel_rfl
theorem ca22 : callable Try.prog 22 = true := by kernel_rfl
theorem ca23 : callable Try.prog 23 = true := by kernel_rfl
theorem ca24 : callable Try.prog 24 = true := by kernel_rfl
theorem ca25 : callable Try.prog 25 = true := by kernel_rfl
theorem ca26 : callable Try.prog 26 = true := by kernel_rfl
theorem ca27 : callable Try.prog 27 = true := by kernel_rfl
theorem ca28 : callable Try.prog 28 = true := by kernel_rfl
theorem ca29 : callable Try.prog 29 = true := by kernel_rfl
theorem ca30 : callable Try.prog 30 = true := by kernel_rfl
theorem ca31 : callable Try.prog 31 = true := by kernel_rfl
theorem ca32 : callable Try.prog 32 = true := by kernel_rfl
theorem ca33 : callable Try.prog 33 = true := by kernel_rfl
theorem ca34 : callable Try.prog 34 = true := by kernel_rfl
theorem ca35 : callable Try.prog 35 = true := by kernel_rfl
theorem ca36 : callable Try.prog 36 = true := by kernel_rfl
theorem ca37 : callable Try.prog 37 = true := by kernel_rfl
theorem ca38 : callable Try.prog 38 = true := by kernel_rfl
theorem ca39 : callable Try.prog 39 = true := by kernel_rfl
theorem ca40 : callable Try.prog 40 = true := by kernel_rfl
theorem ca41 : callable Try.prog 41 = true := by kernel_rfl
theorem ca42 : callable Try.prog 42 = true := by kernel_rfl
theorem ca43 : callable Try.prog 43 = true := by kernel_rfl
theorem ca44 : callable Try.prog 44 = true := by kernel_rfl
theorem ca45 : callable Try.prog 45 = true := by kernel_rfl
theorem ca46 : callable Try.prog 46 = true := by kernel_rfl
theorem ca47 : callable Try.prog 47 = true := by kernel_rfl
theorem ca48 : callable Try.prog 48 = true := by kernel_rfl
theorem ca49 : callable Try.prog 49 = true := by kernel_rfl
theorem ca50 : callable Try.prog 50 = true := by kernel_rfl
theorem ca51 : callable Try.prog 51 = true := by kernel_rfl
theorem ca52 : callable Try.prog 52 = true := by kernel_rfl
theorem ca53 : callable Try.prog 53 = true := by kernel_rfl
theorem ca54 : callable Try.prog 54 = true := by kernel_rfl
theorem ca55 : callable Try.prog 55 = true := by kernel_rfl
theorem ca57 : callable Try.prog 57 = true := by kernel_rfl
theorem ca58 : callable Try.prog 58 = true := by kernel_rfl
theorem ca59 : callable Try.prog 59 = true := by kernel_rfl
theorem ca60 : callable Try.prog 60 = true := by kernel_rfl
theorem ca61 : callable Try.prog 61 = true := by kernel_rfl
theorem ca62 : callable Try.prog 62 = true := by kernel_rfl
theorem ca63 : callable Try.prog 63 = true := by kernel_rfl
theorem ca64 : callable Try.prog 64 = true := by kernel_rfl
theorem ca66 : callable Try.prog 66 = true := by kernel_rfl
theorem ca67 : callable Try.prog 67 = true := by kernel_rfl
theorem ca68 : callable Try.prog 68 = true := by kernel_rfl
theorem ca69 : callable Try.prog 69 = true := by kernel_rfl
theorem ca72 : callable Try.prog 72 = true := by kernel_rfl
theorem ca74 : callable Try.prog 74 = true := by kernel_rfl
theorem ca75 : callable Try.prog 75 = true := by kernel_rfl
theorem ca76 : callable Try.prog 76 = true := by kernel_rfl
theorem ca78 : callable Try.prog 78 = true := by kernel_rfl
theorem ca79 : callable Try.prog 79 = true := by kernel_rfl
theorem ca80 : callable Try.prog 80 = true := by kernel_rfl
theorem ca81 : callable Try.prog 81 = true := by kernel_rfl
theorem ca82 : callable Try.prog 82 = true := by kernel_rfl
theorem ca83 : callable Try.prog 83 = true := by kernel_rfl
theorem ca84 : callable Try.prog 84 = true := by kernel_rfl
theorem ca85 : callable Try.prog 85 = true := by kernel_rfl
theorem ca87 : callable Try.prog 87 = true := by kernel_rfl
theorem ca88 : callable Try.prog 88 = true := by kernel_rfl
theorem ca89 : callable Try.prog 89 = true := by kernel_rfl
theorem ca90 : callable Try.prog 90 = true := by kernel_rfl
theorem ca91 : callable Try.prog 91 = true := by kernel_rfl
theorem ca92 : callable Try.prog 92 = true := by kernel_rfl
theorem ca93 : callable Try.prog 93 = true := by kernel_rfl
theorem ca96 : callable Try.prog 96 = true := by kernel_rfl
theorem ca97 : callable Try.prog 97 = true := by kernel_rfl
theorem ca98 : callable Try.prog 98 = true := by kernel_rfl
theorem ca99 : callable Try.prog 99 = true := by kernel_rfl
theorem ca100 : callable Try.prog 100 = true := by kernel_rfl
theorem ca101 : callable Try.prog 101 = true := by kernel_rfl
theorem ca102 : callable Try.prog 102 = true := by kernel_rfl
theorem ca103 : callable Try.prog 103 = true := by kernel_rfl
theorem ca104 : callable Try.prog 104 = true := by kernel_rfl
theorem ca105 : callable Try.prog 105 = true := by kernel_rfl
theorem ca106 : callable Try.prog 106 = true := by kernel_rfl
theorem foll : Try.prog.follows .mixedOrders = true := by kernel_rfl
theorem laid : laidOutB Try.prog = true := by kernel_rfl
theorem ownk : ownKnob Try.prog.godebug = none := by kernel_rfl
def cf (N : Nat) (vs : List Nat) : Cfg := { own := fun _ => false, N := N, vs := vs }
end Go.Proofs.Ytebgneaehhaclaa
