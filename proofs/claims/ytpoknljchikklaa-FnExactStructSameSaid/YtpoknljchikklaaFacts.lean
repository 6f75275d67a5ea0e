/- Facts of this translation. -/
import Derived.Test.YtpoknljchikklaaRows
import Derived.Test.YtpoknljchikklaaAbsW3
namespace Go.Proofs.Ytpoknljchikklaa
open Go.Abs
theorem ks116 : keyS Try.prog 116 = some [(0, .ptr 40), (1, .int .i64)] := by kernel_rfl
theorem ks120 : keyS Try.prog 120 = some [(0, .ptr 37), (1, .int .i64)] := by kernel_rfl
theorem mi58 : mapInf Try.prog 58 = some (120, [(0, .ptr 37), (1, .int .i64)], 2, .agg [.nilp, .int .i64 0]) := by kernel_rfl
theorem mi75 : mapInf Try.prog 75 = some (116, [(0, .ptr 40), (1, .int .i64)], 2, .agg [.nilp, .int .i64 0]) := by kernel_rfl
theorem ti3 : tinf Try.prog 3 = some { size := 1, bytes := 8, zero := some [.int .i64 0], kind := .int .i64 } := by kernel_rfl
theorem ti4 : tinf Try.prog 4 = some { size := 1, bytes := 1, zero := some [.bool false], kind := .bool } := by kernel_rfl
theorem ti5 : tinf Try.prog 5 = some { size := 1, bytes := 1, zero := some [.int .u8 0], kind := .int .u8 } := by kernel_rfl
theorem ti9 : tinf Try.prog 9 = some { size := 1, bytes := 16, zero := some [.str []], kind := .str } := by kernel_rfl
theorem ti22 : tinf Try.prog 22 = some { size := 1, bytes := 24, zero := some [.nils], kind := .slice 51 } := by kernel_rfl
theorem ti25 : tinf Try.prog 25 = some { size := 1, bytes := 24, zero := some [.nils], kind := .slice 53 } := by kernel_rfl
theorem ti28 : tinf Try.prog 28 = some { size := 1, bytes := 24, zero := some [.nils], kind := .slice 68 } := by kernel_rfl
theorem ti31 : tinf Try.prog 31 = some { size := 1, bytes := 24, zero := some [.nils], kind := .slice 70 } := by kernel_rfl
theorem ti34 : tinf Try.prog 34 = some { size := 1, bytes := 24, zero := some [.nils], kind := .slice 5 } := by kernel_rfl
theorem ti35 : tinf Try.prog 35 = some { size := 1, bytes := 24, zero := some [.nils], kind := .slice 37 } := by kernel_rfl
theorem ti37 : tinf Try.prog 37 = some { size := 4, bytes := 64, zero := some [.int .i64 0, .str [], .str [], .nils], kind := .struct [(0, 3, 1), (1, 9, 1), (2, 9, 1), (3, 35, 1)] } := by kernel_rfl
theorem ti38 : tinf Try.prog 38 = some { size := 1, bytes := 24, zero := some [.nils], kind := .slice 40 } := by kernel_rfl
theorem ti40 : tinf Try.prog 40 = some { size := 9, bytes := 136, zero := some [.int .i64 0, .int .i64 0, .str [], .str [], .int .i64 0, .str [], .str [], .nils, .nils], kind := .struct [(0, 3, 1), (1, 3, 1), (2, 9, 1), (3, 9, 1), (4, 37, 4), (8, 38, 1)] } := by kernel_rfl
theorem ti43 : tinf Try.prog 43 = some { size := 1, bytes := 8, zero := some [.nilf], kind := .func } := by kernel_rfl
theorem ti44 : tinf Try.prog 44 = some { size := 1, bytes := 8, zero := some [.nilf], kind := .func } := by kernel_rfl
theorem ti47 : tinf Try.prog 47 = some { size := 1, bytes := 24, zero := some [.nils], kind := .slice 49 } := by kernel_rfl
theorem ti49 : tinf Try.prog 49 = some { size := 4, bytes := 64, zero := some [.int .i64 0, .str [], .str [], .nils], kind := .struct [(0, 3, 1), (1, 9, 1), (2, 9, 1), (3, 47, 1)] } := by kernel_rfl
theorem ti51 : tinf Try.prog 51 = some { size := 6, bytes := 88, zero := some [.int .i64 0, .str [], .int .i64 0, .str [], .str [], .nils], kind := .struct [(0, 3, 1), (1, 9, 1), (2, 49, 4)] } := by kernel_rfl
theorem ti53 : tinf Try.prog 53 = some { size := 6, bytes := 88, zero := some [.int .i64 0, .str [], .int .i64 0, .str [], .str [], .nils], kind := .struct [(0, 3, 1), (1, 9, 1), (2, 37, 4)] } := by kernel_rfl
theorem ti56 : tinf Try.prog 56 = some { size := 1, bytes := 8, zero := some [.nilf], kind := .func } := by kernel_rfl
theorem ti58 : tinf Try.prog 58 = some { size := 1, bytes := 8, zero := some [.nilm], kind := .map 120 120 } := by kernel_rfl
theorem ti60 : tinf Try.prog 60 = some { size := 3, bytes := 24, zero := some [.nilf, .nilf, .nilm], kind := .struct [(0, 56, 1), (1, 44, 1), (2, 58, 1)] } := by kernel_rfl
theorem ti64 : tinf Try.prog 64 = some { size := 1, bytes := 24, zero := some [.nils], kind := .slice 66 } := by kernel_rfl
theorem ti66 : tinf Try.prog 66 = some { size := 9, bytes := 136, zero := some [.int .i64 0, .int .i64 0, .str [], .str [], .int .i64 0, .str [], .str [], .nils, .nils], kind := .struct [(0, 3, 1), (1, 3, 1), (2, 9, 1), (3, 9, 1), (4, 49, 4), (8, 64, 1)] } := by kernel_rfl
theorem ti68 : tinf Try.prog 68 = some { size := 15, bytes := 224, zero := some [.int .i64 0, .str [], .int .i64 0, .str [], .str [], .nils, .int .i64 0, .int .i64 0, .str [], .str [], .int .i64 0, .str [], .str [], .nils, .nils], kind := .struct [(0, 3, 1), (1, 9, 1), (2, 49, 4), (6, 66, 9)] } := by kernel_rfl
theorem ti70 : tinf Try.prog 70 = some { size := 15, bytes := 224, zero := some [.int .i64 0, .str [], .int .i64 0, .str [], .str [], .nils, .int .i64 0, .int .i64 0, .str [], .str [], .int .i64 0, .str [], .str [], .nils, .nils], kind := .struct [(0, 3, 1), (1, 9, 1), (2, 37, 4), (6, 40, 9)] } := by kernel_rfl
theorem ti73 : tinf Try.prog 73 = some { size := 1, bytes := 8, zero := some [.nilf], kind := .func } := by kernel_rfl
theorem ti75 : tinf Try.prog 75 = some { size := 1, bytes := 8, zero := some [.nilm], kind := .map 116 116 } := by kernel_rfl
theorem ti77 : tinf Try.prog 77 = some { size := 3, bytes := 24, zero := some [.nilf, .nilf, .nilm], kind := .struct [(0, 73, 1), (1, 43, 1), (2, 75, 1)] } := by kernel_rfl
theorem ti92 : tinf Try.prog 92 = some { size := 2, bytes := 32, zero := some [.nils, .int .i64 0], kind := .struct [(0, 34, 1), (1, 3, 1)] } := by kernel_rfl
theorem ti95 : tinf Try.prog 95 = some { size := 1, bytes := 24, zero := some [.nils], kind := .slice 3 } := by kernel_rfl
theorem ti98 : tinf Try.prog 98 = some { size := 1, bytes := 24, zero := some [.nils], kind := .slice 9 } := by kernel_rfl
theorem ti101 : tinf Try.prog 101 = some { size := 2, bytes := 48, zero := some [.nils, .nils], kind := .struct [(0, 38, 1), (1, 38, 1)] } := by kernel_rfl
theorem ti102 : tinf Try.prog 102 = some { size := 1, bytes := 24, zero := some [.nils], kind := .slice 101 } := by kernel_rfl
theorem ti105 : tinf Try.prog 105 = some { size := 2, bytes := 48, zero := some [.nils, .nils], kind := .struct [(0, 35, 1), (1, 35, 1)] } := by kernel_rfl
theorem ti106 : tinf Try.prog 106 = some { size := 1, bytes := 24, zero := some [.nils], kind := .slice 105 } := by kernel_rfl
theorem ti116 : tinf Try.prog 116 = some { size := 2, bytes := 16, zero := some [.nilp, .int .i64 0], kind := .struct [(0, 114, 1), (1, 3, 1)] } := by kernel_rfl
theorem ti120 : tinf Try.prog 120 = some { size := 2, bytes := 16, zero := some [.nilp, .int .i64 0], kind := .struct [(0, 118, 1), (1, 3, 1)] } := by kernel_rfl
theorem ca6 : callable Try.prog 6 = true := by kernel_rfl
theorem ca7 : callable Try.prog 7 = true := by kernel_rfl
theorem ca8 : callable Try.prog 8 = true := by kernel_rfl
theorem ca9 : callable Try.prog 9 = true := by kernel_rfl
theorem ca10 : callable Try.prog 10 = true := by kernel_rfl
theorem ca11 : callable Try.prog 11 = true := by kernel_rfl
theorem ca12 : callable Try.prog 12 = true := by kernel_rfl
theorem ca13 : callable Try.prog 13 = true := by kernel_rfl
theorem ca14 : callable Try.prog 14 = true := by kernel_rfl
theorem ca15 : callable Try.prog 15 = true := by kernel_rfl
theorem ca16 : callable Try.prog 16 = true := by kernel_rfl
theorem ca17 : callable Try.prog 17 = true := by kernel_rfl
theorem ca18 : callable Try.prog 18 = true := by kernel_rfl
theorem ca19 : callable Try.prog 19 = true := by kernel_rfl
theorem ca20 : callable Try.prog 20 = true := by kernel_rfl
theorem ca21 : callable Try.prog 21 = true := by kernel_rfl
theorem ca22 : callable Try.prog 22 = true := by kernel_rfl
theorem ca23 : callable Try.prog 23 = true := by kernel_rfl
theorem ca24 : callable Try.prog 24 = true := by kernel_rfl
theorem ca25 : callable Try.prog 25 = true := by kernel_rfl
theorem ca26 : callable Try.prog 26 = true := by kernel_rfl
theorem ca27 : callable Try.prog 27 = true := by kernel_rfl
theorem ca28 : callable Try.prog 28 = true := by kernel_rfl
theorem ca29 : callable Try.prog 29 = true := by kernel_rfl
theorem ca30 : callable Try.prog 30 = true := by kernel_rfl
theorem ca31 : callable Try.prog 31 = true := by kernel_rfl
theorem ca32 : callable Try.prog 32 = true := by kernel_rfl
theorem ca33 : callable Try.prog 33 = true := by kernel_rfl
theorem ca34 : callable Try.prog 34 = true := by kernel_rfl
theorem ca35 : callable Try.prog 35 = true := by kernel_rfl
theorem ca36 : callable Try.prog 36 = true := by kernel_rfl
theorem ca37 : callable Try.prog 37 = true := by kernel_rfl
theorem ca38 : callable Try.prog 38 = true := by kernel_rfl
theorem ca39 : callable Try.prog 39 = true := by kernel_rfl
theorem ca43 : callable Try.prog 43 = true := by kernel_rfl
theorem ca44 : callable Try.prog 44 = true := by kernel_rfl
theorem ca45 : callable Try.prog 45 = true := by kernel_rfl
theorem ca46 : callable Try.prog 46 = true := by kernel_rfl
theorem ca50 : callable Try.prog 50 = true := by kernel_rfl
theorem ca51 : callable Try.prog 51 = true := by kernel_rfl
theorem ca52 : callable Try.prog 52 = true := by kernel_rfl
theorem ca53 : callable Try.prog 53 = true := by kernel_rfl
theorem ca54 : callable Try.prog 54 = true := by kernel_rfl
theorem ca55 : callable Try.prog 55 = true := by kernel_rfl
theorem ca56 : callable Try.prog 56 = true := by kernel_rfl
theorem ca57 : callable Try.prog 57 = true := by kernel_rfl
theorem ca58 : callable Try.prog 58 = true := by kernel_rfl
theorem ca59 : callable Try.prog 59 = true := by kernel_rfl
theorem ca60 : callable Try.prog 60 = true := by kernel_rfl
theorem ca61 : callable Try.prog 61 = true := by kernel_rfl
theorem ca62 : callable Try.prog 62 = true := by kernel_rfl
theorem ca63 : callable Try.prog 63 = true := by kernel_rfl
theorem ca64 : callable Try.prog 64 = true := by kernel_rfl
theorem ca65 : callable Try.prog 65 = true := by kernel_rfl
theorem ca66 : callable Try.prog 66 = true := by kernel_rfl
theorem ca67 : callable Try.prog 67 = true := by kernel_rfl
theorem ca68 : callable Try.prog 68 = true := by kernel_rfl
theorem ca69 : callable Try.prog 69 = true := by kernel_rfl
theorem ca70 : callable Try.prog 70 = true := by kernel_rfl
theorem foll : Try.prog.follows .mixedOrders = true := by kernel_rfl
theorem laid : laidOutB Try.prog = true := by kernel_rfl
theorem ownk : ownKnob Try.prog.godebug = none := by kernel_rfl
def cf (N : Nat) (vs : List Nat) : Cfg := { own := fun _ => false, N := N, vs := vs }
end Go.Proofs.Ytpoknljchikklaa
