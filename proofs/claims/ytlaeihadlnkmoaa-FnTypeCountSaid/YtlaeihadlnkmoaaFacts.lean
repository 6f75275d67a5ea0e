/- Facts of this translation. -/
import Derived.Test.YtlaeihadlnkmoaaRows
import Derived.Test.YtlaeihadlnkmoaaAbsW
namespace Go.Proofs.Ytlaeihadlnkmoaa
open Go.Abs
theorem ti3 : tinf Try.prog 3 = some { size := 1, bytes := 8, zero := some [.int .i64 0], kind := .int .i64 } := by kernel_rfl
theorem ti4 : tinf Try.prog 4 = some { size := 1, bytes := 1, zero := some [.bool false], kind := .bool } := by kernel_rfl
theorem ti5 : tinf Try.prog 5 = some { size := 1, bytes := 1, zero := some [.int .u8 0], kind := .int .u8 } := by kernel_rfl
theorem ti9 : tinf Try.prog 9 = some { size := 1, bytes := 16, zero := some [.str []], kind := .str } := by kernel_rfl
theorem ti22 : tinf Try.prog 22 = some { size := 1, bytes := 24, zero := some [.nils], kind := .slice 24 } := by kernel_rfl
theorem ti24 : tinf Try.prog 24 = some { size := 4, bytes := 64, zero := some [.int .i64 0, .str [], .str [], .nils], kind := .struct [(0, 3, 1), (1, 9, 1), (2, 9, 1), (3, 22, 1)] } := by kernel_rfl
theorem ti27 : tinf Try.prog 27 = some { size := 1, bytes := 24, zero := some [.nils], kind := .slice 29 } := by kernel_rfl
theorem ti29 : tinf Try.prog 29 = some { size := 4, bytes := 64, zero := some [.int .i64 0, .str [], .str [], .nils], kind := .struct [(0, 3, 1), (1, 9, 1), (2, 9, 1), (3, 27, 1)] } := by kernel_rfl
theorem ti34 : tinf Try.prog 34 = some { size := 1, bytes := 24, zero := some [.nils], kind := .slice 5 } := by kernel_rfl
theorem ti50 : tinf Try.prog 50 = some { size := 1, bytes := 16, zero := some [.nili], kind := .iface } := by kernel_rfl
theorem ti58 : tinf Try.prog 58 = some { size := 1, bytes := 24, zero := some [.nils], kind := .slice 9 } := by kernel_rfl
theorem ti59 : tinf Try.prog 59 = some { size := 1, bytes := 8, zero := some [.nilp], kind := .ptr 61 } := by kernel_rfl
theorem ti61 : tinf Try.prog 61 = some { size := 2, bytes := 32, zero := some [.nilp, .nils], kind := .struct [(0, 59, 1), (1, 34, 1)] } := by kernel_rfl
theorem ti68 : tinf Try.prog 68 = some { size := 1, bytes := 8, zero := some [.nilm], kind := .map 92 92 } := by kernel_rfl
theorem ti70 : tinf Try.prog 70 = some { size := 2, bytes := 48, zero := some [.nils, .nils], kind := .struct [(0, 27, 1), (1, 27, 1)] } := by kernel_rfl
theorem ti71 : tinf Try.prog 71 = some { size := 1, bytes := 24, zero := some [.nils], kind := .slice 70 } := by kernel_rfl
theorem ti82 : tinf Try.prog 82 = some { size := 2, bytes := 32, zero := some [.nils, .int .i64 0], kind := .struct [(0, 34, 1), (1, 3, 1)] } := by kernel_rfl
theorem ti84 : tinf Try.prog 84 = some { size := 1, bytes := 8, zero := some [.nilp], kind := .ptr 5 } := by kernel_rfl
theorem ti87 : tinf Try.prog 87 = some { size := 1, bytes := 24, zero := some [.nils], kind := .slice 3 } := by kernel_rfl
theorem ti92 : tinf Try.prog 92 = some { size := 2, bytes := 16, zero := some [.nilp, .int .i64 0], kind := .struct [(0, 90, 1), (1, 3, 1)] } := by kernel_rfl
theorem ti95 : tinf Try.prog 95 = some { size := 0, bytes := 0, zero := some [], kind := .struct [] } := by kernel_rfl
theorem ti103 : tinf Try.prog 103 = some { size := 2, bytes := 32, zero := some [.str [], .str []], kind := .struct [(0, 9, 1), (1, 9, 1)] } := by kernel_rfl
theorem ti107 : tinf Try.prog 107 = some { size := 2, bytes := 32, zero := some [.nili, .nili], kind := .struct [(0, 50, 1), (1, 50, 1)] } := by kernel_rfl
theorem ti127 : tinf Try.prog 127 = some { size := 1, bytes := 8, zero := some [.nilp], kind := .other } := by kernel_rfl
theorem ca11 : callable Try.prog 11 = true := by kernel_rfl
theorem ca12 : callable Try.prog 12 = true := by kernel_rfl
theorem ca13 : callable Try.prog 13 = true := by kernel_rfl
theorem ca14 : callable Try.prog 14 = true := by kernel_rfl
theorem ca15 : callable Try.prog 15 = true := by kernel_rfl
theorem ca16 : callable Try.prog 16 = true := by kernel_rfl
theorem ca17 : callable Try.prog 17 = true := by kernel_rfl
theorem ca18 : callable Try.prog 18 = true := by kernel_rfl
theorem ca19 : callable Try.prog 19 = true := by kernel_rfl
theorem ca20 : callable Try.prog 20 = true := by kernel_rfl
theorem ca21 : callable Try.prog 21 = true := by kernel_rfl
theorem ca22 : callable Try.prog 22 = true := by kernel_rfl
theorem ca23 : callable Try.prog 23 = true := by kernel_rfl
theorem ca24 : callable Try.prog 24 = true := by kernel_rfl
theorem ca25 : callable Try.prog 25 = true := by kernel_rfl
theorem ca26 : callable Try.prog 26 = true := by kernel_rfl
theorem ca27 : callable Try.prog 27 = true := by kernel_rfl
theorem ca28 : callable Try.prog 28 = true := by kernel_rfl
theorem ca29 : callable Try.prog 29 = true := by kernel_rfl
theorem ca30 : callable Try.prog 30 = true := by kernel_rfl
theorem ca31 : callable Try.prog 31 = true := by kernel_rfl
theorem ca32 : callable Try.prog 32 = true := by kernel_rfl
theorem ca33 : callable Try.prog 33 = true := by kernel_rfl
theorem ca34 : callable Try.prog 34 = true := by kernel_rfl
theorem ca35 : callable Try.prog 35 = true := by kernel_rfl
theorem ca36 : callable Try.prog 36 = true := by kernel_rfl
theorem ca37 : callable Try.prog 37 = true := by kernel_rfl
theorem ca38 : callable Try.prog 38 = true := by kernel_rfl
theorem ca39 : callable Try.prog 39 = true := by kernel_rfl
theorem ca40 : callable Try.prog 40 = true := by kernel_rfl
theorem ca41 : callable Try.prog 41 = true := by kernel_rfl
theorem ca42 : callable Try.prog 42 = true := by kernel_rfl
theorem ca43 : callable Try.prog 43 = true := by kernel_rfl
theorem ca44 : callable Try.prog 44 = true := by kernel_rfl
theorem ca45 : callable Try.prog 45 = true := by kernel_rfl
theorem ca46 : callable Try.prog 46 = true := by kernel_rfl
theorem ca47 : callable Try.prog 47 = true := by kernel_rfl
theorem ca48 : callable Try.prog 48 = true := by kernel_rfl
theorem ca49 : callable Try.prog 49 = true := by kernel_rfl
theorem ca50 : callable Try.prog 50 = true := by kernel_rfl
theorem ca51 : callable Try.prog 51 = true := by kernel_rfl
theorem ca52 : callable Try.prog 52 = true := by kernel_rfl
theorem ca53 : callable Try.prog 53 = true := by kernel_rfl
theorem ca54 : callable Try.prog 54 = true := by kernel_rfl
theorem ca55 : callable Try.prog 55 = true := by kernel_rfl
theorem ca56 : callable Try.prog 56 = true := by kernel_rfl
theorem ca57 : callable Try.prog 57 = true := by kernel_rfl
theorem ca58 : callable Try.prog 58 = true := by kernel_rfl
theorem ca59 : callable Try.prog 59 = true := by kernel_rfl
theorem ca60 : callable Try.prog 60 = true := by kernel_rfl
theorem ca61 : callable Try.prog 61 = true := by kernel_rfl
theorem ca62 : callable Try.prog 62 = true := by kernel_rfl
theorem ca63 : callable Try.prog 63 = true := by kernel_rfl
theorem ca64 : callable Try.prog 64 = true := by kernel_rfl
theorem ca65 : callable Try.prog 65 = true := by kernel_rfl
theorem ca66 : callable Try.prog 66 = true := by kernel_rfl
theorem ca67 : callable Try.prog 67 = true := by kernel_rfl
theorem ca68 : callable Try.prog 68 = true := by kernel_rfl
theorem ca69 : callable Try.prog 69 = true := by kernel_rfl
theorem ca70 : callable Try.prog 70 = true := by kernel_rfl
theorem ca71 : callable Try.prog 71 = true := by kernel_rfl
theorem ca72 : callable Try.prog 72 = true := by kernel_rfl
theorem ca73 : callable Try.prog 73 = true := by kernel_rfl
theorem ca74 : callable Try.prog 74 = true := by kernel_rfl
theorem ca75 : callable Try.prog 75 = true := by kernel_rfl
theorem ca76 : callable Try.prog 76 = true := by kernel_rfl
theorem ca100 : callable Try.prog 100 = true := by kernel_rfl
theorem ca101 : callable Try.prog 101 = true := by kernel_rfl
theorem ca109 : callable Try.prog 109 = true := by kernel_rfl
theorem foll : Try.prog.follows .mixedOrders = true := by kernel_rfl
theorem laid : laidOutB Try.prog = true := by kernel_rfl
theorem ownk : ownKnob Try.prog.godebug = none := by kernel_rfl
def cf (N : Nat) (vs : List Nat) : Cfg := { own := fun _ => false, N := N, vs := vs }
end Go.Proofs.Ytlaeihadlnkmoaa
