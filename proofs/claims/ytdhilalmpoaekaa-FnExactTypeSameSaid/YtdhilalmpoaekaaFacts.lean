/- Facts of this translation. -/
import Derived.Test.YtdhilalmpoaekaaRows
import Derived.Test.YtdhilalmpoaekaaAbsW
namespace Go.Proofs.Ytdhilalmpoaekaa
open Go.Abs
theorem ks42 : keyS Try.prog 42 = some [(0, .ptr 29), (1, .int .i64)] := by kernel_rfl
theorem mi35 : mapInf Try.prog 35 = some (42, [(0, .ptr 29), (1, .int .i64)], 2, .agg [.nilp, .int .i64 0]) := by kernel_rfl
theorem ti3 : tinf Try.prog 3 = some { size := 1, bytes := 8, zero := some [.int .i64 0], kind := .int .i64 } := by kernel_rfl
theorem ti4 : tinf Try.prog 4 = some { size := 1, bytes := 1, zero := some [.bool false], kind := .bool } := by kernel_rfl
theorem ti9 : tinf Try.prog 9 = some { size := 1, bytes := 16, zero := some [.str []], kind := .str } := by kernel_rfl
theorem ti22 : tinf Try.prog 22 = some { size := 1, bytes := 24, zero := some [.nils], kind := .slice 24 } := by kernel_rfl
theorem ti24 : tinf Try.prog 24 = some { size := 4, bytes := 64, zero := some [.int .i64 0, .str [], .str [], .nils], kind := .struct [(0, 3, 1), (1, 9, 1), (2, 9, 1), (3, 22, 1)] } := by kernel_rfl
theorem ti27 : tinf Try.prog 27 = some { size := 1, bytes := 24, zero := some [.nils], kind := .slice 29 } := by kernel_rfl
theorem ti29 : tinf Try.prog 29 = some { size := 4, bytes := 64, zero := some [.int .i64 0, .str [], .str [], .nils], kind := .struct [(0, 3, 1), (1, 9, 1), (2, 9, 1), (3, 27, 1)] } := by kernel_rfl
theorem ti35 : tinf Try.prog 35 = some { size := 1, bytes := 8, zero := some [.nilm], kind := .map 42 42 } := by kernel_rfl
theorem ti37 : tinf Try.prog 37 = some { size := 2, bytes := 48, zero := some [.nils, .nils], kind := .struct [(0, 27, 1), (1, 27, 1)] } := by kernel_rfl
theorem ti38 : tinf Try.prog 38 = some { size := 1, bytes := 24, zero := some [.nils], kind := .slice 37 } := by kernel_rfl
theorem ti42 : tinf Try.prog 42 = some { size := 2, bytes := 16, zero := some [.nilp, .int .i64 0], kind := .struct [(0, 40, 1), (1, 3, 1)] } := by kernel_rfl
theorem ca4 : callable Try.prog 4 = true := by kernel_rfl
theorem ca5 : callable Try.prog 5 = true := by kernel_rfl
theorem ca6 : callable Try.prog 6 = true := by kernel_rfl
theorem ca7 : callable Try.prog 7 = true := by kernel_rfl
theorem ca8 : callable Try.prog 8 = true := by kernel_rfl
theorem ca9 : callable Try.prog 9 = true := by kernel_rfl
theorem ca10 : callable Try.prog 10 = true := by kernel_rfl
theorem ca11 : callable Try.prog 11 = true := by kernel_rfl
theorem ca12 : callable Try.prog 12 = true := by kernel_rfl
theorem ca13 : callable Try.prog 13 = true := by kernel_rfl
theorem ca14 : callable Try.prog 14 = true := by kernel_rfl
theorem foll : Try.prog.follows .mixedOrders = true := by kernel_rfl
theorem laid : laidOutB Try.prog = true := by kernel_rfl
theorem ownk : ownKnob Try.prog.godebug = none := by kernel_rfl
def cf (N : Nat) (vs : List Nat) : Cfg := { own := fun _ => false, N := N, vs := vs }
end Go.Proofs.Ytdhilalmpoaekaa
