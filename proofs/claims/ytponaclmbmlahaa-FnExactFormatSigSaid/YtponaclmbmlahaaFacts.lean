/- Facts of this translation. -/
import Derived.Test.YtponaclmbmlahaaRows
import Derived.Test.YtponaclmbmlahaaAbsW
namespace Go.Proofs.Ytponaclmbmlahaa
open Go.Abs
theorem ks152 : keyS Try.prog 152 = some [(0, .ptr 29), (1, .int .i64)] := by kernel_rfl
theorem mi90 : mapInf Try.prog 90 = some (100, [(0, .str), (1, .str)], 2, .nili) := by kernel_rfl
theorem mi97 : mapInf Try.prog 97 = some (100, [(0, .str), (1, .str)], 2, .bool false) := by kernel_rfl
theorem mi108 : mapInf Try.prog 108 = some (152, [(0, .ptr 29), (1, .int .i64)], 2, .agg [.nilp, .int .i64 0]) := by kernel_rfl
theorem mi174 : mapInf Try.prog 174 = some (176, [(0, .bool), (1, .str)], 2, .bool false) := by kernel_rfl
theorem ti3 : tinf Try.prog 3 = some { size := 1, bytes := 8, zero := some [.int .i64 0], kind := .int .i64 } := by kernel_rfl
theorem ti4 : tinf Try.prog 4 = some { size := 1, bytes := 1, zero := some [.bool false], kind := .bool } := by kernel_rfl
theorem ti5 : tinf Try.prog 5 = some { size := 1, bytes := 1, zero := some [.int .u8 0], kind := .int .u8 } := by kernel_rfl
theorem ti9 : tinf Try.prog 9 = some { size := 1, bytes := 16, zero := some [.str []], kind := .str } := by kernel_rfl
theorem ti22 : tinf Try.prog 22 = some { size := 1, bytes := 24, zero := some [.nils], kind := .slice 24 } := by kernel_rfl
theorem ti24 : tinf Try.prog 24 = some { size := 4, bytes := 64, zero := some [.int .i64 0, .str [], .str [], .nils], kind := .struct [(0, 3, 1), (1, 9, 1), (2, 9, 1), (3, 22, 1)] } := by kernel_rfl
theorem ti27 : tinf Try.prog 27 = some { size := 1, bytes := 24, zero := some [.nils], kind := .slice 29 } := by kernel_rfl
theorem ti29 : tinf Try.prog 29 = some { size := 4, bytes := 64, zero := some [.int .i64 0, .str [], .str [], .nils], kind := .struct [(0, 3, 1), (1, 9, 1), (2, 9, 1), (3, 27, 1)] } := by kernel_rfl
theorem ti37 : tinf Try.prog 37 = some { size := 1, bytes := 24, zero := some [.nils], kind := .slice 84 } := by kernel_rfl
theorem ti40 : tinf Try.prog 40 = some { size := 1, bytes := 24, zero := some [.nils], kind := .slice 88 } := by kernel_rfl
theorem ti48 : tinf Try.prog 48 = some { size := 1, bytes := 24, zero := some [.nils], kind := .slice 5 } := by kernel_rfl
theorem ti56 : tinf Try.prog 56 = some { size := 1, bytes := 24, zero := some [.nils], kind := .slice 118 } := by kernel_rfl
theorem ti59 : tinf Try.prog 59 = some { size := 1, bytes := 24, zero := some [.nils], kind := .slice 121 } := by kernel_rfl
theorem ti68 : tinf Try.prog 68 = some { size := 1, bytes := 16, zero := some [.nili], kind := .iface } := by kernel_rfl
theorem ti71 : tinf Try.prog 71 = some { size := 1, bytes := 8, zero := some [.nilp], kind := .ptr 73 } := by kernel_rfl
theorem ti73 : tinf Try.prog 73 = some { size := 2, bytes := 32, zero := some [.nilp, .nils], kind := .struct [(0, 71, 1), (1, 48, 1)] } := by kernel_rfl
theorem ti84 : tinf Try.prog 84 = some { size := 6, bytes := 96, zero := some [.str [], .str [], .int .i64 0, .str [], .str [], .nils], kind := .struct [(0, 9, 1), (1, 9, 1), (2, 24, 4)] } := by kernel_rfl
theorem ti88 : tinf Try.prog 88 = some { size := 6, bytes := 96, zero := some [.str [], .str [], .int .i64 0, .str [], .str [], .nils], kind := .struct [(0, 9, 1), (1, 9, 1), (2, 29, 4)] } := by kernel_rfl
theorem ti90 : tinf Try.prog 90 = some { size := 1, bytes := 8, zero := some [.nilm], kind := .map 100 68 } := by kernel_rfl
theorem ti97 : tinf Try.prog 97 = some { size := 1, bytes := 8, zero := some [.nilm], kind := .map 100 4 } := by kernel_rfl
theorem ti100 : tinf Try.prog 100 = some { size := 2, bytes := 32, zero := some [.str [], .str []], kind := .struct [(0, 9, 1), (1, 9, 1)] } := by kernel_rfl
theorem ti108 : tinf Try.prog 108 = some { size := 1, bytes := 8, zero := some [.nilm], kind := .map 152 152 } := by kernel_rfl
theorem ti110 : tinf Try.prog 110 = some { size := 2, bytes := 48, zero := some [.nils, .nils], kind := .struct [(0, 27, 1), (1, 27, 1)] } := by kernel_rfl
theorem ti111 : tinf Try.prog 111 = some { size := 1, bytes := 24, zero := some [.nils], kind := .slice 110 } := by kernel_rfl
theorem ti115 : tinf Try.prog 115 = some { size := 1, bytes := 24, zero := some [.nils], kind := .slice 9 } := by kernel_rfl
theorem ti118 : tinf Try.prog 118 = some { size := 6, bytes := 88, zero := some [.int .i64 0, .str [], .int .i64 0, .str [], .str [], .nils], kind := .struct [(0, 3, 1), (1, 9, 1), (2, 24, 4)] } := by kernel_rfl
theorem ti121 : tinf Try.prog 121 = some { size := 6, bytes := 88, zero := some [.int .i64 0, .str [], .int .i64 0, .str [], .str [], .nils], kind := .struct [(0, 3, 1), (1, 9, 1), (2, 29, 4)] } := by kernel_rfl
theorem ti124 : tinf Try.prog 124 = some { size := 1, bytes := 24, zero := some [.nils], kind := .slice 157 } := by kernel_rfl
theorem ti132 : tinf Try.prog 132 = some { size := 1, bytes := 8, zero := some [.nilp], kind := .ptr 5 } := by kernel_rfl
theorem ti139 : tinf Try.prog 139 = some { size := 0, bytes := 0, zero := some [], kind := .struct [] } := by kernel_rfl
theorem ti145 : tinf Try.prog 145 = some { size := 2, bytes := 32, zero := some [.nils, .int .i64 0], kind := .struct [(0, 48, 1), (1, 3, 1)] } := by kernel_rfl
theorem ti148 : tinf Try.prog 148 = some { size := 1, bytes := 24, zero := some [.nils], kind := .slice 3 } := by kernel_rfl
theorem ti152 : tinf Try.prog 152 = some { size := 2, bytes := 16, zero := some [.nilp, .int .i64 0], kind := .struct [(0, 150, 1), (1, 3, 1)] } := by kernel_rfl
theorem ti157 : tinf Try.prog 157 = some { size := 1, bytes := 16, zero := some [.nili], kind := .iface } := by kernel_rfl
theorem ti167 : tinf Try.prog 167 = some { size := 2, bytes := 32, zero := some [.nili, .nili], kind := .struct [(0, 68, 1), (1, 68, 1)] } := by kernel_rfl
theorem ti170 : tinf Try.prog 170 = some { size := 1, bytes := 16, zero := some [.str []], kind := .struct [(0, 9, 1)] } := by kernel_rfl
theorem ti172 : tinf Try.prog 172 = some { size := 2, bytes := 32, zero := some [.str [], .nili], kind := .struct [(0, 9, 1), (1, 68, 1)] } := by kernel_rfl
theorem ti173 : tinf Try.prog 173 = some { size := 2, bytes := 32, zero := some [.str [], .nili], kind := .struct [(0, 9, 1), (1, 68, 1)] } := by kernel_rfl
theorem ti174 : tinf Try.prog 174 = some { size := 1, bytes := 8, zero := some [.nilm], kind := .map 176 4 } := by kernel_rfl
theorem ti176 : tinf Try.prog 176 = some { size := 2, bytes := 24, zero := some [.bool false, .str []], kind := .struct [(0, 4, 1), (1, 9, 1)] } := by kernel_rfl
theorem ti178 : tinf Try.prog 178 = some { size := 1, bytes := 8, zero := some [.nilp], kind := .other } := by kernel_rfl
theorem ca13 : callable Try.prog 13 = true := by kernel_rfl
theorem ca14 : callable Try.prog 14 = true := by kernel_rfl
theorem ca15 : callable Try.prog 15 = true := by kernel_rfl
theorem ca16 : callable Try.prog 16 = true := by kernel_rfl
theorem ca17 : callable Try.prog 17 = true := by kernel_rfl
theorem ca18 : callable Try.prog 18 = true := by kernel_rfl
theorem ca19 : callable Try.prog 19 = true := by kernel_rfl
theorem ca20 : callable Try.prog 20 = true := by kernel_rfl
theorem ca21 : callable Try.prog 21 = true := by kernel_rfl
theorem ca22 : callable Try.prog 22 = true := by kernel_rfl
theorem ca23 : callable Try.prog 23 = true := by kernel_rfl
theorem ca24 : callable Try.prog 24 = true := by kernel_rfl
theorem ca25 : callable Try.prog 25 = true := by kernel_rfl
theorem ca26 : callable Try.prog 26 = true := by kernel_rfl
theorem ca27 : callable Try.prog 27 = true := by kernel_rfl
theorem ca28 : callable Try.prog 28 = true := by kernel_rfl
theorem ca29 : callable Try.prog 29 = true := by kernel_rfl
theorem ca30 : callable Try.prog 30 = true := by kernel_rfl
theorem ca31 : callable Try.prog 31 = true := by kernel_rfl
theorem ca32 : callable Try.prog 32 = true := by kernel_rfl
theorem ca33 : callable Try.prog 33 = true := by kernel_rfl
theorem ca34 : callable Try.prog 34 = true := by kernel_rfl
theorem ca35 : callable Try.prog 35 = true := by kernel_rfl
theorem ca36 : callable Try.prog 36 = true := by kernel_rfl
theorem ca37 : callable Try.prog 37 = true := by kernel_rfl
theorem ca38 : callable Try.prog 38 = true := by kernel_rfl
theorem ca39 : callable Try.prog 39 = true := by kernel_rfl
theorem ca40 : callable Try.prog 40 = true := by kernel_rfl
theorem ca41 : callable Try.prog 41 = true := by kernel_rfl
theorem ca42 : callable Try.prog 42 = true := by kernel_rfl
theorem ca43 : callable Try.prog 43 = true := by kernel_rfl
theorem ca44 : callable Try.prog 44 = true := by kernel_rfl
theorem ca45 : callable Try.prog 45 = true := by kernel_rfl
theorem ca46 : callable Try.prog 46 = true := by kernel_rfl
theorem ca47 : callable Try.prog 47 = true := by kernel_rfl
theorem ca48 : callable Try.prog 48 = true := by kernel_rfl
theorem ca49 : callable Try.prog 49 = true := by kernel_rfl
theorem ca50 : callable Try.prog 50 = true := by kernel_rfl
theorem ca51 : callable Try.prog 51 = true := by kernel_rfl
theorem ca52 : callable Try.prog 52 = true := by kernel_rfl
theorem ca53 : callable Try.prog 53 = true := by kernel_rfl
theorem ca54 : callable Try.prog 54 = true := by kernel_rfl
theorem ca55 : callable Try.prog 55 = true := by kernel_rfl
theorem ca56 : callable Try.prog 56 = true := by kernel_rfl
theorem ca57 : callable Try.prog 57 = true := by kernel_rfl
theorem ca58 : callable Try.prog 58 = true := by kernel_rfl
theorem ca59 : callable Try.prog 59 = true := by kernel_rfl
theorem ca60 : callable Try.prog 60 = true := by kernel_rfl
theorem ca61 : callable Try.prog 61 = true := by kernel_rfl
theorem ca62 : callable Try.prog 62 = true := by kernel_rfl
theorem ca63 : callable Try.prog 63 = true := by kernel_rfl
theorem ca64 : callable Try.prog 64 = true := by kernel_rfl
theorem ca66 : callable Try.prog 66 = true := by kernel_rfl
theorem ca67 : callable Try.prog 67 = true := by kernel_rfl
theorem ca68 : callable Try.prog 68 = true := by kernel_rfl
theorem ca69 : callable Try.prog 69 = true := by kernel_rfl
theorem ca70 : callable Try.prog 70 = true := by kernel_rfl
theorem ca71 : callable Try.prog 71 = true := by kernel_rfl
theorem ca72 : callable Try.prog 72 = true := by kernel_rfl
theorem ca73 : callable Try.prog 73 = true := by kernel_rfl
theorem ca74 : callable Try.prog 74 = true := by kernel_rfl
theorem ca75 : callable Try.prog 75 = true := by kernel_rfl
theorem ca76 : callable Try.prog 76 = true := by kernel_rfl
theorem ca77 : callable Try.prog 77 = true := by kernel_rfl
theorem ca78 : callable Try.prog 78 = true := by kernel_rfl
theorem ca79 : callable Try.prog 79 = true := by kernel_rfl
theorem ca80 : callable Try.prog 80 = true := by kernel_rfl
theorem ca81 : callable Try.prog 81 = true := by kernel_rfl
theorem ca82 : callable Try.prog 82 = true := by kernel_rfl
theorem ca83 : callable Try.prog 83 = true := by kernel_rfl
theorem ca84 : callable Try.prog 84 = true := by kernel_rfl
theorem ca86 : callable Try.prog 86 = true := by kernel_rfl
theorem ca87 : callable Try.prog 87 = true := by kernel_rfl
theorem ca88 : callable Try.prog 88 = true := by kernel_rfl
theorem ca89 : callable Try.prog 89 = true := by kernel_rfl
theorem ca90 : callable Try.prog 90 = true := by kernel_rfl
theorem ca91 : callable Try.prog 91 = true := by kernel_rfl
theorem ca92 : callable Try.prog 92 = true := by kernel_rfl
theorem ca93 : callable Try.prog 93 = true := by kernel_rfl
theorem ca94 : callable Try.prog 94 = true := by kernel_rfl
theorem ca95 : callable Try.prog 95 = true := by kernel_rfl
theorem ca96 : callable Try.prog 96 = true := by kernel_rfl
theorem ca97 : callable Try.prog 97 = true := by kernel_rfl
theorem ca98 : callable Try.prog 98 = true := by kernel_rfl
theorem ca99 : callable Try.prog 99 = true := by kernel_rfl
theorem ca100 : callable Try.prog 100 = true := by kernel_rfl
theorem ca101 : callable Try.prog 101 = true := by kernel_rfl
theorem ca102 : callable Try.prog 102 = true := by kernel_rfl
theorem ca103 : callable Try.prog 103 = true := by kernel_rfl
theorem ca104 : callable Try.prog 104 = true := by kernel_rfl
theorem ca105 : callable Try.prog 105 = true := by kernel_rfl
theorem ca106 : callable Try.prog 106 = true := by kernel_rfl
theorem ca107 : callable Try.prog 107 = true := by kernel_rfl
theorem ca108 : callable Try.prog 108 = true := by kernel_rfl
theorem ca109 : callable Try.prog 109 = true := by kernel_rfl
theorem ca110 : callable Try.prog 110 = true := by kernel_rfl
theorem ca111 : callable Try.prog 111 = true := by kernel_rfl
theorem ca112 : callable Try.prog 112 = true := by kernel_rfl
theorem ca113 : callable Try.prog 113 = true := by kernel_rfl
theorem ca114 : callable Try.prog 114 = true := by kernel_rfl
theorem ca115 : callable Try.prog 115 = true := by kernel_rfl
theorem ca116 : callable Try.prog 116 = true := by kernel_rfl
theorem ca118 : callable Try.prog 118 = true := by kernel_rfl
theorem ca119 : callable Try.prog 119 = true := by kernel_rfl
theorem ca143 : callable Try.prog 143 = true := by kernel_rfl
theorem foll : Try.prog.follows .mixedOrders = true := by kernel_rfl
theorem laid : laidOutB Try.prog = true := by kernel_rfl
theorem ownk : ownKnob Try.prog.godebug = none := by kernel_rfl
def cf (N : Nat) (vs : List Nat) : Cfg := { own := fun _ => false, N := N, vs := vs }
end Go.Proofs.Ytponaclmbmlahaa
