/- Facts of this translation. -/
import Derived.Test.YtfcfijgajpbpcaaRows
import Derived.Test.YtfcfijgajpbpcaaAbsW3
namespace Go.Proofs.Ytfcfijgajpbpcaa
open Go.Abs
theorem ks99 : keyS Try.prog 99 = some [(0, .ptr 25), (1, .int .i64)] := by kernel_rfl
theorem mi47 : mapInf Try.prog 47 = some (99, [(0, .ptr 25), (1, .int .i64)], 2, .agg [.nilp, .int .i64 0]) := by kernel_rfl
theorem ti3 : tinf Try.prog 3 = some { size := 1, bytes := 8, zero := some [.int .i64 0], kind := .int .i64 } := by kernel_rfl
theorem ti4 : tinf Try.prog 4 = some { size := 1, bytes := 1, zero := some [.bool false], kind := .bool } := by kernel_rfl
theorem ti5 : tinf Try.prog 5 = some { size := 1, bytes := 1, zero := some [.int .u8 0], kind := .int .u8 } := by kernel_rfl
theorem ti9 : tinf Try.prog 9 = some { size := 1, bytes := 16, zero := some [.str []], kind := .str } := by kernel_rfl
theorem ti22 : tinf Try.prog 22 = some { size := 1, bytes := 24, zero := some [.nils], kind := .slice 5 } := by kernel_rfl
theorem ti23 : tinf Try.prog 23 = some { size := 1, bytes := 24, zero := some [.nils], kind := .slice 25 } := by kernel_rfl
theorem ti25 : tinf Try.prog 25 = some { size := 4, bytes := 64, zero := some [.int .i64 0, .str [], .str [], .nils], kind := .struct [(0, 3, 1), (1, 9, 1), (2, 9, 1), (3, 23, 1)] } := by kernel_rfl
theorem ti31 : tinf Try.prog 31 = some { size := 1, bytes := 8, zero := some [.nilf], kind := .func } := by kernel_rfl
theorem ti35 : tinf Try.prog 35 = some { size := 1, bytes := 16, zero := some [.nili], kind := .iface } := by kernel_rfl
theorem ti45 : tinf Try.prog 45 = some { size := 1, bytes := 8, zero := some [.nilf], kind := .func } := by kernel_rfl
theorem ti47 : tinf Try.prog 47 = some { size := 1, bytes := 8, zero := some [.nilm], kind := .map 99 99 } := by kernel_rfl
theorem ti49 : tinf Try.prog 49 = some { size := 3, bytes := 24, zero := some [.nilf, .nilf, .nilm], kind := .struct [(0, 45, 1), (1, 31, 1), (2, 47, 1)] } := by kernel_rfl
theorem ti55 : tinf Try.prog 55 = some { size := 1, bytes := 24, zero := some [.nils], kind := .slice 9 } := by kernel_rfl
theorem ti62 : tinf Try.prog 62 = some { size := 1, bytes := 8, zero := some [.nilp], kind := .ptr 64 } := by kernel_rfl
theorem ti64 : tinf Try.prog 64 = some { size := 2, bytes := 32, zero := some [.nilp, .nils], kind := .struct [(0, 62, 1), (1, 22, 1)] } := by kernel_rfl
theorem ti68 : tinf Try.prog 68 = some { size := 0, bytes := 0, zero := some [], kind := .struct [] } := by kernel_rfl
theorem ti70 : tinf Try.prog 70 = some { size := 2, bytes := 32, zero := some [.str [], .str []], kind := .struct [(0, 9, 1), (1, 9, 1)] } := by kernel_rfl
theorem ti77 : tinf Try.prog 77 = some { size := 2, bytes := 48, zero := some [.nils, .nils], kind := .struct [(0, 23, 1), (1, 23, 1)] } := by kernel_rfl
theorem ti78 : tinf Try.prog 78 = some { size := 1, bytes := 24, zero := some [.nils], kind := .slice 77 } := by kernel_rfl
theorem ti81 : tinf Try.prog 81 = some { size := 2, bytes := 32, zero := some [.nils, .int .i64 0], kind := .struct [(0, 22, 1), (1, 3, 1)] } := by kernel_rfl
theorem ti85 : tinf Try.prog 85 = some { size := 1, bytes := 24, zero := some [.nils], kind := .slice 3 } := by kernel_rfl
theorem ti93 : tinf Try.prog 93 = some { size := 1, bytes := 8, zero := some [.nilp], kind := .ptr 5 } := by kernel_rfl
theorem ti95 : tinf Try.prog 95 = some { size := 2, bytes := 32, zero := some [.nili, .nili], kind := .struct [(0, 35, 1), (1, 35, 1)] } := by kernel_rfl
theorem ti99 : tinf Try.prog 99 = some { size := 2, bytes := 16, zero := some [.nilp, .int .i64 0], kind := .struct [(0, 97, 1), (1, 3, 1)] } := by kernel_rfl
theorem ti121 : tinf Try.prog 121 = some { size := 1, bytes := 8, zero := some [.nilp], kind := .other } := by kernel_rfl
theorem ca4 : callable Try.prog 4 = true := by kernel_rfl
theorem ca5 : callable Try.prog 5 = true := by kernel_rfl
theorem ca6 : callable Try.prog 6 = true := by kernel_rfl
theorem ca7 : callable Try.prog 7 = true := by kernel_rfl
theorem ca8 : callable Try.prog 8 = true := by kernel_rfl
theorem ca9 : callable Try.prog 9 = true := by kernel_rfl
theorem ca10 : callable Try.prog 10 = true := by kernel_rfl
theorem ca11 : callable Try.prog 11 = true := by kernel_rfl
theorem ca12 : callable Try.prog 12 = true := by kernel_rfl
theorem ca13 : callable Try.prog 13 = true := by kernel_rfl
theorem ca14 : callable Try.prog 14 = true := by kernel_rfl
theorem ca15 : callable Try.prog 15 = true := by kernel_rfl
theorem ca16 : callable Try.prog 16 = true := by kernel_rfl
theorem ca17 : callable Try.prog 17 = true := by kernel_rfl
theorem ca18 : callable Try.prog 18 = true := by kernel_rfl
theorem ca19 : callable Try.prog 19 = true := by kernel_rfl
theorem ca20 : callable Try.prog 20 = true := by kernel_rfl
theorem ca21 : callable Try.prog 21 = true := by kernel_rfl
theorem ca22 : callable Try.prog 22 = true := by kernel_rfl
theorem ca23 : callable Try.prog 23 = true := by kernel_rfl
theorem ca24 : callable Try.prog 24 = true := by kernel_rfl
theorem ca25 : callable Try.prog 25 = true := by kernel_rfl
theorem ca26 : callable Try.prog 26 = true := by kernel_rfl
theorem ca27 : callable Try.prog 27 = true := by kernel_rfl
theorem ca28 : callable Try.prog 28 = true := by kernel_rfl
theorem ca29 : callable Try.prog 29 = true := by kernel_rfl
theorem ca30 : callable Try.prog 30 = true := by kernel_rfl
theorem ca31 : callable Try.prog 31 = true := by kernel_rfl
theorem ca32 : callable Try.prog 32 = true := by kernel_rfl
theorem ca33 : callable Try.prog 33 = true := by kernel_rfl
theorem ca34 : callable Try.prog 34 = true := by kernel_rfl
theorem ca37 : callable Try.prog 37 = true := by kernel_rfl
theorem ca38 : callable Try.prog 38 = true := by kernel_rfl
theorem ca39 : callable Try.prog 39 = true := by kernel_rfl
theorem ca40 : callable Try.prog 40 = true := by kernel_rfl
theorem ca41 : callable Try.prog 41 = true := by kernel_rfl
theorem ca42 : callable Try.prog 42 = true := by kernel_rfl
theorem ca43 : callable Try.prog 43 = true := by kernel_rfl
theorem ca44 : callable Try.prog 44 = true := by kernel_rfl
theorem ca45 : callable Try.prog 45 = true := by kernel_rfl
theorem ca46 : callable Try.prog 46 = true := by kernel_rfl
theorem ca47 : callable Try.prog 47 = true := by kernel_rfl
theorem ca48 : callable Try.prog 48 = true := by kernel_rfl
theorem ca49 : callable Try.prog 49 = true := by kernel_rfl
theorem ca50 : callable Try.prog 50 = true := by kernel_rfl
theorem ca51 : callable Try.prog 51 = true := by kernel_rfl
theorem ca52 : callable Try.prog 52 = true := by kernel_rfl
theorem ca53 : callable Try.prog 53 = true := by kernel_rfl
theorem ca54 : callable Try.prog 54 = true := by kernel_rfl
theorem ca55 : callable Try.prog 55 = true := by kernel_rfl
theorem ca56 : callable Try.prog 56 = true := by kernel_rfl
theorem ca81 : callable Try.prog 81 = true := by kernel_rfl
theorem ca82 : callable Try.prog 82 = true := by kernel_rfl
theorem ca91 : callable Try.prog 91 = true := by kernel_rfl
theorem foll : Try.prog.follows .mixedOrders = true := by kernel_rfl
theorem laid : laidOutB Try.prog = true := by kernel_rfl
theorem ownk : ownKnob Try.prog.godebug = none := by kernel_rfl
def cf (N : Nat) (vs : List Nat) : Cfg := { own := fun _ => false, N := N, vs := vs }
end Go.Proofs.Ytfcfijgajpbpcaa
