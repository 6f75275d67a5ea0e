/- Facts of this translation. -/
import Derived.Test.YtpcfhmkbimjpjaaRows
import Derived.Test.YtpcfhmkbimjpjaaAbsW
namespace Go.Proofs.Ytpcfhmkbimjpjaa
open Go.Abs
theorem ks90 : keyS Try.prog 90 = some [(0, .ptr 25), (1, .int .i64)] := by kernel_rfl
theorem mi50 : mapInf Try.prog 50 = some (90, [(0, .ptr 25), (1, .int .i64)], 2, .agg [.nilp, .int .i64 0]) := by kernel_rfl
theorem ti3 : tinf Try.prog 3 = some { size := 1, bytes := 8, zero := some [.int .i64 0], kind := .int .i64 } := by kernel_rfl
theorem ti4 : tinf Try.prog 4 = some { size := 1, bytes := 1, zero := some [.bool false], kind := .bool } := by kernel_rfl
theorem ti5 : tinf Try.prog 5 = some { size := 1, bytes := 1, zero := some [.int .u8 0], kind := .int .u8 } := by kernel_rfl
theorem ti9 : tinf Try.prog 9 = some { size := 1, bytes := 16, zero := some [.str []], kind := .str } := by kernel_rfl
theorem ti22 : tinf Try.prog 22 = some { size := 1, bytes := 24, zero := some [.nils], kind := .slice 5 } := by kernel_rfl
theorem ti23 : tinf Try.prog 23 = some { size := 1, bytes := 24, zero := some [.nils], kind := .slice 25 } := by kernel_rfl
theorem ti25 : tinf Try.prog 25 = some { size := 4, bytes := 64, zero := some [.int .i64 0, .str [], .str [], .nils], kind := .struct [(0, 3, 1), (1, 9, 1), (2, 9, 1), (3, 23, 1)] } := by kernel_rfl
theorem ti28 : tinf Try.prog 28 = some { size := 1, bytes := 8, zero := some [.nilf], kind := .func } := by kernel_rfl
theorem ti37 : tinf Try.prog 37 = some { size := 1, bytes := 24, zero := some [.nils], kind := .slice 39 } := by kernel_rfl
theorem ti39 : tinf Try.prog 39 = some { size := 4, bytes := 64, zero := some [.int .i64 0, .str [], .str [], .nils], kind := .struct [(0, 3, 1), (1, 9, 1), (2, 9, 1), (3, 37, 1)] } := by kernel_rfl
theorem ti48 : tinf Try.prog 48 = some { size := 1, bytes := 8, zero := some [.nilf], kind := .func } := by kernel_rfl
theorem ti50 : tinf Try.prog 50 = some { size := 1, bytes := 8, zero := some [.nilm], kind := .map 90 90 } := by kernel_rfl
theorem ti52 : tinf Try.prog 52 = some { size := 3, bytes := 24, zero := some [.nilf, .nilf, .nilm], kind := .struct [(0, 48, 1), (1, 28, 1), (2, 50, 1)] } := by kernel_rfl
theorem ti55 : tinf Try.prog 55 = some { size := 1, bytes := 16, zero := some [.nili], kind := .iface } := by kernel_rfl
theorem ti61 : tinf Try.prog 61 = some { size := 1, bytes := 24, zero := some [.nils], kind := .slice 9 } := by kernel_rfl
theorem ti67 : tinf Try.prog 67 = some { size := 2, bytes := 32, zero := some [.nils, .int .i64 0], kind := .struct [(0, 22, 1), (1, 3, 1)] } := by kernel_rfl
theorem ti70 : tinf Try.prog 70 = some { size := 1, bytes := 24, zero := some [.nils], kind := .slice 3 } := by kernel_rfl
theorem ti75 : tinf Try.prog 75 = some { size := 2, bytes := 48, zero := some [.nils, .nils], kind := .struct [(0, 23, 1), (1, 23, 1)] } := by kernel_rfl
theorem ti76 : tinf Try.prog 76 = some { size := 1, bytes := 24, zero := some [.nils], kind := .slice 75 } := by kernel_rfl
theorem ti81 : tinf Try.prog 81 = some { size := 1, bytes := 8, zero := some [.nilp], kind := .ptr 83 } := by kernel_rfl
theorem ti83 : tinf Try.prog 83 = some { size := 2, bytes := 32, zero := some [.nilp, .nils], kind := .struct [(0, 81, 1), (1, 22, 1)] } := by kernel_rfl
theorem ti90 : tinf Try.prog 90 = some { size := 2, bytes := 16, zero := some [.nilp, .int .i64 0], kind := .struct [(0, 88, 1), (1, 3, 1)] } := by kernel_rfl
theorem ti93 : tinf Try.prog 93 = some { size := 0, bytes := 0, zero := some [], kind := .struct [] } := by kernel_rfl
theorem ti95 : tinf Try.prog 95 = some { size := 2, bytes := 32, zero := some [.str [], .str []], kind := .struct [(0, 9, 1), (1, 9, 1)] } := by kernel_rfl
theorem ti97 : tinf Try.prog 97 = some { size := 1, bytes := 8, zero := some [.nilp], kind := .ptr 5 } := by kernel_rfl
theorem ti100 : tinf Try.prog 100 = some { size := 2, bytes := 32, zero := some [.nili, .nili], kind := .struct [(0, 55, 1), (1, 55, 1)] } := by kernel_rfl
theorem ti120 : tinf Try.prog 120 = some { size := 1, bytes := 8, zero := some [.nilp], kind := .other } := by kernel_rfl
theorem ca9 : callable Try.prog 9 = true := by kernel_rfl
theorem ca10 : callable Try.prog 10 = true := by kernel_rfl
theorem ca11 : callable Try.prog 11 = true := by kernel_rfl
theorem ca12 : callable Try.prog 12 = true := by kernel_rfl
theorem ca13 : callable Try.prog 13 = true := by kernel_rfl
theorem ca14 : callable Try.prog 14 = true := by kernel_rfl
theorem ca15 : callable Try.prog 15 = true := by kernel_rfl
theorem ca16 : callable Try.prog 16 = true := by kernel_rfl
theorem ca17 : callable Try.prog 17 = true := by kernel_rfl
theorem ca18 : callable Try.prog 18 = true := by kernel_rfl
theorem ca19 : callable Try.prog 19 = true := by kernel_rfl
theorem ca20 : callable Try.prog 20 = true := by kernel_rfl
theorem ca21 : callable Try.prog 21 = true := by kernel_rfl
theorem ca22 : callable Try.prog 22 = true := by kernel_rfl
theorem ca23 : callable Try.prog 23 = true := by kernel_rfl
theorem ca24 : callable Try.prog 24 = true := by kernel_rfl
theorem ca25 : callable Try.prog 25 = true := by kernel_rfl
theorem ca26 : callable Try.prog 26 = true := by kernel_rfl
theorem ca27 : callable Try.prog 27 = true := by kernel_rfl
theorem ca28 : callable Try.prog 28 = true := by kernel_rfl
theorem ca29 : callable Try.prog 29 = true := by kernel_rfl
theorem ca30 : callable Try.prog 30 = true := by kernel_rfl
theorem ca31 : callable Try.prog 31 = true := by kernel_rfl
theorem ca32 : callable Try.prog 32 = true := by kernel_rfl
theorem ca33 : callable Try.prog 33 = true := by kernel_rfl
theorem ca34 : callable Try.prog 34 = true := by kernel_rfl
theorem ca35 : callable Try.prog 35 = true := by kernel_rfl
theorem ca36 : callable Try.prog 36 = true := by kernel_rfl
theorem ca37 : callable Try.prog 37 = true := by kernel_rfl
theorem ca38 : callable Try.prog 38 = true := by kernel_rfl
theorem ca39 : callable Try.prog 39 = true := by kernel_rfl
theorem ca40 : callable Try.prog 40 = true := by kernel_rfl
theorem ca41 : callable Try.prog 41 = true := by kernel_rfl
theorem ca42 : callable Try.prog 42 = true := by kernel_rfl
theorem ca43 : callable Try.prog 43 = true := by kernel_rfl
theorem ca44 : callable Try.prog 44 = true := by kernel_rfl
theorem ca45 : callable Try.prog 45 = true := by kernel_rfl
theorem ca46 : callable Try.prog 46 = true := by kernel_rfl
theorem ca47 : callable Try.prog 47 = true := by kernel_rfl
theorem ca48 : callable Try.prog 48 = true := by kernel_rfl
theorem ca51 : callable Try.prog 51 = true := by kernel_rfl
theorem ca52 : callable Try.prog 52 = true := by kernel_rfl
theorem ca53 : callable Try.prog 53 = true := by kernel_rfl
theorem ca54 : callable Try.prog 54 = true := by kernel_rfl
theorem ca55 : callable Try.prog 55 = true := by kernel_rfl
theorem ca56 : callable Try.prog 56 = true := by kernel_rfl
theorem ca57 : callable Try.prog 57 = true := by kernel_rfl
theorem ca58 : callable Try.prog 58 = true := by kernel_rfl
theorem ca59 : callable Try.prog 59 = true := by kernel_rfl
theorem ca60 : callable Try.prog 60 = true := by kernel_rfl
theorem ca61 : callable Try.prog 61 = true := by kernel_rfl
theorem ca86 : callable Try.prog 86 = true := by kernel_rfl
theorem ca87 : callable Try.prog 87 = true := by kernel_rfl
theorem ca96 : callable Try.prog 96 = true := by kernel_rfl
theorem foll : Try.prog.follows .mixedOrders = true := by kernel_rfl
theorem laid : laidOutB Try.prog = true := by kernel_rfl
theorem ownk : ownKnob Try.prog.godebug = none := by kernel_rfl
def cf (N : Nat) (vs : List Nat) : Cfg := { own := fun _ => false, N := N, vs := vs }
end Go.Proofs.Ytpcfhmkbimjpjaa
