/- Facts of this translation. -/
import Derived.Test.YtlffbkmjigiplaaRows
import Derived.Test.YtlffbkmjigiplaaAbsW3
namespace Go.Proofs.Ytlffbkmjigiplaa
open Go.Abs
theorem ks92 : keyS Try.prog 92 = some [(0, .ptr 25), (1, .int .i64)] := by kernel_rfl
theorem mi46 : mapInf Try.prog 46 = some (64, [(0, .str), (1, .str)], 2, .nili) := by kernel_rfl
theorem mi56 : mapInf Try.prog 56 = some (92, [(0, .ptr 25), (1, .int .i64)], 2, .agg [.nilp, .int .i64 0]) := by kernel_rfl
theorem mi86 : mapInf Try.prog 86 = some (64, [(0, .str), (1, .str)], 2, .bool false) := by kernel_rfl
theorem ti3 : tinf Try.prog 3 = some { size := 1, bytes := 8, zero := some [.int .i64 0], kind := .int .i64 } := by kernel_rfl
theorem ti4 : tinf Try.prog 4 = some { size := 1, bytes := 1, zero := some [.bool false], kind := .bool } := by kernel_rfl
theorem ti5 : tinf Try.prog 5 = some { size := 1, bytes := 1, zero := some [.int .u8 0], kind := .int .u8 } := by kernel_rfl
theorem ti9 : tinf Try.prog 9 = some { size := 1, bytes := 16, zero := some [.str []], kind := .str } := by kernel_rfl
theorem ti22 : tinf Try.prog 22 = some { size := 1, bytes := 24, zero := some [.nils], kind := .slice 5 } := by kernel_rfl
theorem ti23 : tinf Try.prog 23 = some { size := 1, bytes := 24, zero := some [.nils], kind := .slice 25 } := by kernel_rfl
theorem ti25 : tinf Try.prog 25 = some { size := 4, bytes := 64, zero := some [.int .i64 0, .str [], .str [], .nils], kind := .struct [(0, 3, 1), (1, 9, 1), (2, 9, 1), (3, 23, 1)] } := by kernel_rfl
theorem ti26 : tinf Try.prog 26 = some { size := 1, bytes := 24, zero := some [.nils], kind := .slice 34 } := by kernel_rfl
theorem ti31 : tinf Try.prog 31 = some { size := 1, bytes := 8, zero := some [.nilf], kind := .func } := by kernel_rfl
theorem ti32 : tinf Try.prog 32 = some { size := 1, bytes := 8, zero := some [.nilf], kind := .func } := by kernel_rfl
theorem ti34 : tinf Try.prog 34 = some { size := 6, bytes := 96, zero := some [.str [], .str [], .int .i64 0, .str [], .str [], .nils], kind := .struct [(0, 9, 1), (1, 9, 1), (2, 25, 4)] } := by kernel_rfl
theorem ti43 : tinf Try.prog 43 = some { size := 1, bytes := 16, zero := some [.nili], kind := .iface } := by kernel_rfl
theorem ti46 : tinf Try.prog 46 = some { size := 1, bytes := 8, zero := some [.nilm], kind := .map 64 43 } := by kernel_rfl
theorem ti56 : tinf Try.prog 56 = some { size := 1, bytes := 8, zero := some [.nilm], kind := .map 92 92 } := by kernel_rfl
theorem ti58 : tinf Try.prog 58 = some { size := 3, bytes := 24, zero := some [.nilf, .nilf, .nilm], kind := .struct [(0, 32, 1), (1, 31, 1), (2, 56, 1)] } := by kernel_rfl
theorem ti61 : tinf Try.prog 61 = some { size := 1, bytes := 8, zero := some [.nilf], kind := .func } := by kernel_rfl
theorem ti64 : tinf Try.prog 64 = some { size := 2, bytes := 32, zero := some [.str [], .str []], kind := .struct [(0, 9, 1), (1, 9, 1)] } := by kernel_rfl
theorem ti66 : tinf Try.prog 66 = some { size := 2, bytes := 32, zero := some [.nils, .int .i64 0], kind := .struct [(0, 22, 1), (1, 3, 1)] } := by kernel_rfl
theorem ti70 : tinf Try.prog 70 = some { size := 1, bytes := 24, zero := some [.nils], kind := .slice 3 } := by kernel_rfl
theorem ti72 : tinf Try.prog 72 = some { size := 1, bytes := 24, zero := some [.nils], kind := .slice 9 } := by kernel_rfl
theorem ti83 : tinf Try.prog 83 = some { size := 2, bytes := 48, zero := some [.nils, .nils], kind := .struct [(0, 23, 1), (1, 23, 1)] } := by kernel_rfl
theorem ti84 : tinf Try.prog 84 = some { size := 1, bytes := 24, zero := some [.nils], kind := .slice 83 } := by kernel_rfl
theorem ti86 : tinf Try.prog 86 = some { size := 1, bytes := 8, zero := some [.nilm], kind := .map 64 4 } := by kernel_rfl
theorem ti88 : tinf Try.prog 88 = some { size := 0, bytes := 0, zero := some [], kind := .struct [] } := by kernel_rfl
theorem ti92 : tinf Try.prog 92 = some { size := 2, bytes := 16, zero := some [.nilp, .int .i64 0], kind := .struct [(0, 90, 1), (1, 3, 1)] } := by kernel_rfl
theorem ti95 : tinf Try.prog 95 = some { size := 2, bytes := 32, zero := some [.nili, .nili], kind := .struct [(0, 43, 1), (1, 43, 1)] } := by kernel_rfl
theorem ca6 : callable Try.prog 6 = true := by kernel_rfl
theorem ca7 : callable Try.prog 7 = true := by kernel_rfl
theorem ca8 : callable Try.prog 8 = true := by kernel_rfl
theorem ca9 : callable Try.prog 9 = true := by kernel_rfl
theorem ca10 : callable Try.prog 10 = true := by kernel_rfl
theorem ca11 : callable Try.prog 11 = true := by kernel_rfl
theorem ca12 : callable Try.prog 12 = true := by kernel_rfl
theorem ca13 : callable Try.prog 13 = true := by kernel_rfl
theorem ca14 : callable Try.prog 14 = true := by kernel_rfl
theorem ca15 : callable Try.prog 15 = true := by kernel_rfl
theorem ca16 : callable Try.prog 16 = true := by kernel_rfl
theorem ca17 : callable Try.prog 17 = true := by kernel_rfl
theorem ca18 : callable Try.prog 18 = true := by kernel_rfl
theorem ca19 : callable Try.prog 19 = true := by kernel_rfl
theorem ca20 : callable Try.prog 20 = true := by kernel_rfl
theorem ca21 : callable Try.prog 21 = true := by kernel_rfl
theorem ca22 : callable Try.prog 22 = true := by kernel_rfl
theorem ca23 : callable Try.prog 23 = true := by kernel_rfl
theorem ca25 : callable Try.prog 25 = true := by kernel_rfl
theorem ca26 : callable Try.prog 26 = true := by kernel_rfl
theorem ca27 : callable Try.prog 27 = true := by kernel_rfl
theorem ca28 : callable Try.prog 28 = true := by kernel_rfl
theorem ca29 : callable Try.prog 29 = true := by kernel_rfl
theorem ca30 : callable Try.prog 30 = true := by kernel_rfl
theorem ca31 : callable Try.prog 31 = true := by kernel_rfl
theorem ca32 : callable Try.prog 32 = true := by kernel_rfl
theorem ca33 : callable Try.prog 33 = true := by kernel_rfl
theorem ca34 : callable Try.prog 34 = true := by kernel_rfl
theorem ca35 : callable Try.prog 35 = true := by kernel_rfl
theorem ca36 : callable Try.prog 36 = true := by kernel_rfl
theorem ca37 : callable Try.prog 37 = true := by kernel_rfl
theorem ca38 : callable Try.prog 38 = true := by kernel_rfl
theorem ca41 : callable Try.prog 41 = true := by kernel_rfl
theorem ca43 : callable Try.prog 43 = true := by kernel_rfl
theorem ca44 : callable Try.prog 44 = true := by kernel_rfl
theorem ca45 : callable Try.prog 45 = true := by kernel_rfl
theorem ca46 : callable Try.prog 46 = true := by kernel_rfl
theorem ca47 : callable Try.prog 47 = true := by kernel_rfl
theorem ca48 : callable Try.prog 48 = true := by kernel_rfl
theorem ca49 : callable Try.prog 49 = true := by kernel_rfl
theorem ca50 : callable Try.prog 50 = true := by kernel_rfl
theorem foll : Try.prog.follows .mixedOrders = true := by kernel_rfl
theorem laid : laidOutB Try.prog = true := by kernel_rfl
theorem ownk : ownKnob Try.prog.godebug = none := by kernel_rfl
def cf (N : Nat) (vs : List Nat) : Cfg := { own := fun _ => false, N := N, vs := vs }
end Go.Proofs.Ytlffbkmjigiplaa
