/- Facts of this translation. -/
import Derived.Test.YtmnlipkjldpjeaaGreatRows
import Derived.Test.YtmnlipkjldpjeaaGreatAbsW3
namespace Go.Proofs.YtmnlipkjldpjeaaGreat
open Go.Abs
theorem za63 : zagg Tryz.prog 63 = some [.int .i64 0] := by kernel_rfl
theorem za77 : zagg Tryz.prog 77 = some [.nili, .nili] := by kernel_rfl
theorem ks112 : keyS Tryz.prog 112 = some [(0, .ptr 32), (1, .int .i64)] := by kernel_rfl
theorem mi97 : mapInf Tryz.prog 97 = some (112, [(0, .ptr 32), (1, .int .i64)], 2, .agg [.nilp, .int .i64 0]) := by kernel_rfl
theorem ti3 : tinf Tryz.prog 3 = some { size := 1, bytes := 8, zero := some [.int .i64 0], kind := .int .i64 } := by kernel_rfl
theorem ti4 : tinf Tryz.prog 4 = some { size := 1, bytes := 1, zero := some [.bool false], kind := .bool } := by kernel_rfl
theorem ti5 : tinf Tryz.prog 5 = some { size := 1, bytes := 1, zero := some [.int .u8 0], kind := .int .u8 } := by kernel_rfl
theorem ti9 : tinf Tryz.prog 9 = some { size := 1, bytes := 16, zero := some [.str []], kind := .str } := by kernel_rfl
theorem ti22 : tinf Tryz.prog 22 = some { size := 1, bytes := 24, zero := some [.nils], kind := .slice 24 } := by kernel_rfl
theorem ti24 : tinf Tryz.prog 24 = some { size := 4, bytes := 64, zero := some [.int .i64 0, .str [], .str [], .nils], kind := .struct [(0, 3, 1), (1, 9, 1), (2, 9, 1), (3, 22, 1)] } := by kernel_rfl
theorem ti25 : tinf Tryz.prog 25 = some { size := 1, bytes := 24, zero := some [.nils], kind := .slice 27 } := by kernel_rfl
theorem ti27 : tinf Tryz.prog 27 = some { size := 9, bytes := 136, zero := some [.int .i64 0, .int .i64 0, .str [], .str [], .int .i64 0, .str [], .str [], .nils, .nils], kind := .struct [(0, 3, 1), (1, 3, 1), (2, 9, 1), (3, 9, 1), (4, 24, 4), (8, 25, 1)] } := by kernel_rfl
theorem ti30 : tinf Tryz.prog 30 = some { size := 1, bytes := 24, zero := some [.nils], kind := .slice 32 } := by kernel_rfl
theorem ti32 : tinf Tryz.prog 32 = some { size := 4, bytes := 64, zero := some [.int .i64 0, .str [], .str [], .nils], kind := .struct [(0, 3, 1), (1, 9, 1), (2, 9, 1), (3, 30, 1)] } := by kernel_rfl
theorem ti33 : tinf Tryz.prog 33 = some { size := 1, bytes := 24, zero := some [.nils], kind := .slice 35 } := by kernel_rfl
theorem ti35 : tinf Tryz.prog 35 = some { size := 9, bytes := 136, zero := some [.int .i64 0, .int .i64 0, .str [], .str [], .int .i64 0, .str [], .str [], .nils, .nils], kind := .struct [(0, 3, 1), (1, 3, 1), (2, 9, 1), (3, 9, 1), (4, 32, 4), (8, 33, 1)] } := by kernel_rfl
theorem ti47 : tinf Tryz.prog 47 = some { size := 1, bytes := 16, zero := some [.nili], kind := .iface } := by kernel_rfl
theorem ti50 : tinf Tryz.prog 50 = some { size := 1, bytes := 8, zero := some [.nilf], kind := .func } := by kernel_rfl
theorem ti56 : tinf Tryz.prog 56 = some { size := 1, bytes := 8, zero := some [.int .i64 0], kind := .int .i64 } := by kernel_rfl
theorem ti58 : tinf Tryz.prog 58 = some { size := 1, bytes := 8, zero := some [.int .i64 0], kind := .struct [(0, 56, 1)] } := by kernel_rfl
theorem ti63 : tinf Tryz.prog 63 = some { size := 1, bytes := 8, zero := some [.int .i64 0], kind := .struct [(0, 3, 1)] } := by kernel_rfl
theorem ti68 : tinf Tryz.prog 68 = some { size := 1, bytes := 8, zero := some [.nilp], kind := .ptr 58 } := by kernel_rfl
theorem ti70 : tinf Tryz.prog 70 = some { size := 1, bytes := 24, zero := some [.nils], kind := .slice 47 } := by kernel_rfl
theorem ti75 : tinf Tryz.prog 75 = some { size := 1, bytes := 16, zero := some [.nili], kind := .iface } := by kernel_rfl
theorem ti77 : tinf Tryz.prog 77 = some { size := 2, bytes := 32, zero := some [.nili, .nili], kind := .struct [(0, 75, 1), (1, 47, 1)] } := by kernel_rfl
theorem ti83 : tinf Tryz.prog 83 = some { size := 1, bytes := 8, zero := some [.int .i64 0], kind := .struct [(0, 3, 1)] } := by kernel_rfl
theorem ti85 : tinf Tryz.prog 85 = some { size := 2, bytes := 32, zero := some [.str [], .str []], kind := .struct [(0, 9, 1), (1, 9, 1)] } := by kernel_rfl
theorem ti90 : tinf Tryz.prog 90 = some { size := 2, bytes := 32, zero := some [.nili, .nili], kind := .struct [(0, 47, 1), (1, 47, 1)] } := by kernel_rfl
theorem ti92 : tinf Tryz.prog 92 = some { size := 2, bytes := 32, zero := some [.nili, .nili], kind := .struct [(0, 47, 1), (1, 47, 1)] } := by kernel_rfl
theorem ti94 : tinf Tryz.prog 94 = some { size := 3, bytes := 48, zero := some [.nili, .nili, .nili], kind := .struct [(0, 47, 1), (1, 47, 1), (2, 47, 1)] } := by kernel_rfl
theorem ti95 : tinf Tryz.prog 95 = some { size := 1, bytes := 8, zero := some [.nilf], kind := .func } := by kernel_rfl
theorem ti97 : tinf Tryz.prog 97 = some { size := 1, bytes := 8, zero := some [.nilm], kind := .map 112 112 } := by kernel_rfl
theorem ti99 : tinf Tryz.prog 99 = some { size := 3, bytes := 24, zero := some [.nilf, .nilf, .nilm], kind := .struct [(0, 95, 1), (1, 50, 1), (2, 97, 1)] } := by kernel_rfl
theorem ti104 : tinf Tryz.prog 104 = some { size := 2, bytes := 48, zero := some [.nils, .nils], kind := .struct [(0, 30, 1), (1, 30, 1)] } := by kernel_rfl
theorem ti105 : tinf Tryz.prog 105 = some { size := 1, bytes := 24, zero := some [.nils], kind := .slice 104 } := by kernel_rfl
theorem ti107 : tinf Tryz.prog 107 = some { size := 0, bytes := 0, zero := some [], kind := .struct [] } := by kernel_rfl
theorem ti108 : tinf Tryz.prog 108 = some { size := 2, bytes := 32, zero := some [.str [], .str []], kind := .struct [(0, 9, 1), (1, 9, 1)] } := by kernel_rfl
theorem ti112 : tinf Tryz.prog 112 = some { size := 2, bytes := 16, zero := some [.nilp, .int .i64 0], kind := .struct [(0, 110, 1), (1, 3, 1)] } := by kernel_rfl
theorem ti115 : tinf Tryz.prog 115 = some { size := 2, bytes := 32, zero := some [.nili, .nili], kind := .struct [(0, 75, 1), (1, 75, 1)] } := by kernel_rfl
theorem ca5 : callable Tryz.prog 5 = true := by kernel_rfl
theorem ca6 : callable Tryz.prog 6 = true := by kernel_rfl
theorem ca7 : callable Tryz.prog 7 = true := by kernel_rfl
theorem ca8 : callable Tryz.prog 8 = true := by kernel_rfl
theorem ca9 : callable Tryz.prog 9 = true := by kernel_rfl
theorem ca10 : callable Tryz.prog 10 = true := by kernel_rfl
theorem ca11 : callable Tryz.prog 11 = true := by kernel_rfl
theorem ca12 : callable Tryz.prog 12 = true := by kernel_rfl
theorem ca13 : callable Tryz.prog 13 = true := by kernel_rfl
theorem ca14 : callable Tryz.prog 14 = true := by kernel_rfl
theorem ca15 : callable Tryz.prog 15 = true := by kernel_rfl
theorem ca16 : callable Tryz.prog 16 = true := by kernel_rfl
theorem ca17 : callable Tryz.prog 17 = true := by kernel_rfl
theorem ca18 : callable Tryz.prog 18 = true := by kernel_rfl
theorem ca19 : callable Tryz.prog 19 = true := by kernel_rfl
theorem ca20 : callable Tryz.prog 20 = true := by kernel_rfl
theorem ca21 : callable Tryz.prog 21 = true := by kernel_rfl
theorem ca22 : callable Tryz.prog 22 = true := by kernel_rfl
theorem ca23 : callable Tryz.prog 23 = true := by kernel_rfl
theorem ca24 : callable Tryz.prog 24 = true := by kernel_rfl
theorem ca25 : callable Tryz.prog 25 = true := by kernel_rfl
theorem ca26 : callable Tryz.prog 26 = true := by kernel_rfl
theorem ca27 : callable Tryz.prog 27 = true := by kernel_rfl
theorem ca28 : callable Tryz.prog 28 = true := by kernel_rfl
theorem ca29 : callable Tryz.prog 29 = true := by kernel_rfl
theorem ca31 : callable Tryz.prog 31 = true := by kernel_rfl
theorem ca32 : callable Tryz.prog 32 = true := by kernel_rfl
theorem ca33 : callable Tryz.prog 33 = true := by kernel_rfl
theorem ca34 : callable Tryz.prog 34 = true := by kernel_rfl
theorem ca35 : callable Tryz.prog 35 = true := by kernel_rfl
theorem ca36 : callable Tryz.prog 36 = true := by kernel_rfl
theorem ca37 : callable Tryz.prog 37 = true := by kernel_rfl
theorem ca38 : callable Tryz.prog 38 = true := by kernel_rfl
theorem ca40 : callable Tryz.prog 40 = true := by kernel_rfl
theorem ca41 : callable Tryz.prog 41 = true := by kernel_rfl
theorem ca42 : callable Tryz.prog 42 = true := by kernel_rfl
theorem ca43 : callable Tryz.prog 43 = true := by kernel_rfl
theorem ca44 : callable Tryz.prog 44 = true := by kernel_rfl
theorem ca45 : callable Tryz.prog 45 = true := by kernel_rfl
theorem ca46 : callable Tryz.prog 46 = true := by kernel_rfl
theorem ca47 : callable Tryz.prog 47 = true := by kernel_rfl
theorem ca48 : callable Tryz.prog 48 = true := by kernel_rfl
theorem ca49 : callable Tryz.prog 49 = true := by kernel_rfl
theorem ca50 : callable Tryz.prog 50 = true := by kernel_rfl
theorem ca51 : callable Tryz.prog 51 = true := by kernel_rfl
theorem ca52 : callable Tryz.prog 52 = true := by kernel_rfl
theorem ca53 : callable Tryz.prog 53 = true := by kernel_rfl
theorem ca56 : callable Tryz.prog 56 = true := by kernel_rfl
theorem ca57 : callable Tryz.prog 57 = true := by kernel_rfl
theorem ca58 : callable Tryz.prog 58 = true := by kernel_rfl
theorem foll : Tryz.prog.follows .mixedOrders = true := by kernel_rfl
theorem laid : laidOutB Tryz.prog = true := by kernel_rfl
theorem ownk : ownKnob Tryz.prog.godebug = none := by kernel_rfl
def cf (N : Nat) (vs : List Nat) : Cfg := { own := fun _ => false, N := N, vs := vs }
end Go.Proofs.YtmnlipkjldpjeaaGreat
