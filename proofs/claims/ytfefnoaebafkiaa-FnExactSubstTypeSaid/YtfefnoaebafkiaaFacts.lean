/- Facts of this translation. -/
import Derived.Test.YtfefnoaebafkiaaRows
import Derived.Test.YtfefnoaebafkiaaAbsW
namespace Go.Proofs.Ytfefnoaebafkiaa
open Go.Abs
theorem za146 : zagg Try.prog 146 = some [.int .i64 0] := by kernel_rfl
theorem za167 : zagg Try.prog 167 = some [.nili, .nili] := by kernel_rfl
theorem ks151 : keyS Try.prog 151 = some [(0, .ptr 29), (1, .int .i64)] := by kernel_rfl
theorem ks164 : keyS Try.prog 164 = some [(0, .ptr 53), (1, .int .i64)] := by kernel_rfl
theorem mi68 : mapInf Try.prog 68 = some (151, [(0, .ptr 29), (1, .int .i64)], 2, .agg [.nilp, .int .i64 0]) := by kernel_rfl
theorem mi85 : mapInf Try.prog 85 = some (98, [(0, .str), (1, .str)], 2, .nili) := by kernel_rfl
theorem mi110 : mapInf Try.prog 110 = some (164, [(0, .ptr 53), (1, .int .i64)], 2, .agg [.nilp, .int .i64 0]) := by kernel_rfl
theorem mi135 : mapInf Try.prog 135 = some (98, [(0, .str), (1, .str)], 2, .bool false) := by kernel_rfl
theorem ti3 : tinf Try.prog 3 = some { size := 1, bytes := 8, zero := some [.int .i64 0], kind := .int .i64 } := by kernel_rfl
theorem ti4 : tinf Try.prog 4 = some { size := 1, bytes := 1, zero := some [.bool false], kind := .bool } := by kernel_rfl
theorem ti5 : tinf Try.prog 5 = some { size := 1, bytes := 1, zero := some [.int .u8 0], kind := .int .u8 } := by kernel_rfl
theorem ti9 : tinf Try.prog 9 = some { size := 1, bytes := 16, zero := some [.str []], kind := .str } := by kernel_rfl
theorem ti22 : tinf Try.prog 22 = some { size := 1, bytes := 24, zero := some [.nils], kind := .slice 24 } := by kernel_rfl
theorem ti24 : tinf Try.prog 24 = some { size := 4, bytes := 64, zero := some [.int .i64 0, .str [], .str [], .nils], kind := .struct [(0, 3, 1), (1, 9, 1), (2, 9, 1), (3, 22, 1)] } := by kernel_rfl
theorem ti26 : tinf Try.prog 26 = some { size := 1, bytes := 8, zero := some [.nilf], kind := .func } := by kernel_rfl
theorem ti27 : tinf Try.prog 27 = some { size := 1, bytes := 24, zero := some [.nils], kind := .slice 29 } := by kernel_rfl
theorem ti29 : tinf Try.prog 29 = some { size := 4, bytes := 64, zero := some [.int .i64 0, .str [], .str [], .nils], kind := .struct [(0, 3, 1), (1, 9, 1), (2, 9, 1), (3, 27, 1)] } := by kernel_rfl
theorem ti32 : tinf Try.prog 32 = some { size := 1, bytes := 24, zero := some [.nils], kind := .slice 74 } := by kernel_rfl
theorem ti36 : tinf Try.prog 36 = some { size := 1, bytes := 24, zero := some [.nils], kind := .slice 79 } := by kernel_rfl
theorem ti42 : tinf Try.prog 42 = some { size := 1, bytes := 8, zero := some [.nilf], kind := .func } := by kernel_rfl
theorem ti46 : tinf Try.prog 46 = some { size := 1, bytes := 24, zero := some [.nils], kind := .slice 48 } := by kernel_rfl
theorem ti48 : tinf Try.prog 48 = some { size := 9, bytes := 136, zero := some [.int .i64 0, .int .i64 0, .str [], .str [], .int .i64 0, .str [], .str [], .nils, .nils], kind := .struct [(0, 3, 1), (1, 3, 1), (2, 9, 1), (3, 9, 1), (4, 24, 4), (8, 46, 1)] } := by kernel_rfl
theorem ti51 : tinf Try.prog 51 = some { size := 1, bytes := 24, zero := some [.nils], kind := .slice 53 } := by kernel_rfl
theorem ti53 : tinf Try.prog 53 = some { size := 9, bytes := 136, zero := some [.int .i64 0, .int .i64 0, .str [], .str [], .int .i64 0, .str [], .str [], .nils, .nils], kind := .struct [(0, 3, 1), (1, 3, 1), (2, 9, 1), (3, 9, 1), (4, 29, 4), (8, 51, 1)] } := by kernel_rfl
theorem ti55 : tinf Try.prog 55 = some { size := 1, bytes := 8, zero := some [.nilf], kind := .func } := by kernel_rfl
theorem ti59 : tinf Try.prog 59 = some { size := 1, bytes := 24, zero := some [.nils], kind := .slice 117 } := by kernel_rfl
theorem ti62 : tinf Try.prog 62 = some { size := 1, bytes := 24, zero := some [.nils], kind := .slice 119 } := by kernel_rfl
theorem ti68 : tinf Try.prog 68 = some { size := 1, bytes := 8, zero := some [.nilm], kind := .map 151 151 } := by kernel_rfl
theorem ti70 : tinf Try.prog 70 = some { size := 3, bytes := 24, zero := some [.nilf, .nilf, .nilm], kind := .struct [(0, 42, 1), (1, 26, 1), (2, 68, 1)] } := by kernel_rfl
theorem ti74 : tinf Try.prog 74 = some { size := 6, bytes := 96, zero := some [.str [], .str [], .int .i64 0, .str [], .str [], .nils], kind := .struct [(0, 9, 1), (1, 9, 1), (2, 24, 4)] } := by kernel_rfl
theorem ti79 : tinf Try.prog 79 = some { size := 6, bytes := 96, zero := some [.str [], .str [], .int .i64 0, .str [], .str [], .nils], kind := .struct [(0, 9, 1), (1, 9, 1), (2, 29, 4)] } := by kernel_rfl
theorem ti82 : tinf Try.prog 82 = some { size := 1, bytes := 16, zero := some [.nili], kind := .iface } := by kernel_rfl
theorem ti85 : tinf Try.prog 85 = some { size := 1, bytes := 8, zero := some [.nilm], kind := .map 98 82 } := by kernel_rfl
theorem ti95 : tinf Try.prog 95 = some { size := 1, bytes := 8, zero := some [.nilf], kind := .func } := by kernel_rfl
theorem ti98 : tinf Try.prog 98 = some { size := 2, bytes := 32, zero := some [.str [], .str []], kind := .struct [(0, 9, 1), (1, 9, 1)] } := by kernel_rfl
theorem ti104 : tinf Try.prog 104 = some { size := 1, bytes := 16, zero := some [.nili], kind := .iface } := by kernel_rfl
theorem ti108 : tinf Try.prog 108 = some { size := 1, bytes := 8, zero := some [.nilf], kind := .func } := by kernel_rfl
theorem ti110 : tinf Try.prog 110 = some { size := 1, bytes := 8, zero := some [.nilm], kind := .map 164 164 } := by kernel_rfl
theorem ti112 : tinf Try.prog 112 = some { size := 3, bytes := 24, zero := some [.nilf, .nilf, .nilm], kind := .struct [(0, 108, 1), (1, 55, 1), (2, 110, 1)] } := by kernel_rfl
theorem ti117 : tinf Try.prog 117 = some { size := 15, bytes := 224, zero := some [.int .i64 0, .str [], .int .i64 0, .str [], .str [], .nils, .int .i64 0, .int .i64 0, .str [], .str [], .int .i64 0, .str [], .str [], .nils, .nils], kind := .struct [(0, 3, 1), (1, 9, 1), (2, 24, 4), (6, 48, 9)] } := by kernel_rfl
theorem ti119 : tinf Try.prog 119 = some { size := 15, bytes := 224, zero := some [.int .i64 0, .str [], .int .i64 0, .str [], .str [], .nils, .int .i64 0, .int .i64 0, .str [], .str [], .int .i64 0, .str [], .str [], .nils, .nils], kind := .struct [(0, 3, 1), (1, 9, 1), (2, 29, 4), (6, 53, 9)] } := by kernel_rfl
theorem ti124 : tinf Try.prog 124 = some { size := 2, bytes := 48, zero := some [.nils, .nils], kind := .struct [(0, 27, 1), (1, 27, 1)] } := by kernel_rfl
theorem ti125 : tinf Try.prog 125 = some { size := 1, bytes := 24, zero := some [.nils], kind := .slice 124 } := by kernel_rfl
theorem ti134 : tinf Try.prog 134 = some { size := 1, bytes := 24, zero := some [.nils], kind := .slice 5 } := by kernel_rfl
theorem ti135 : tinf Try.prog 135 = some { size := 1, bytes := 8, zero := some [.nilm], kind := .map 98 4 } := by kernel_rfl
theorem ti137 : tinf Try.prog 137 = some { size := 1, bytes := 8, zero := some [.int .i64 0], kind := .int .i64 } := by kernel_rfl
theorem ti139 : tinf Try.prog 139 = some { size := 1, bytes := 8, zero := some [.int .i64 0], kind := .struct [(0, 137, 1)] } := by kernel_rfl
theorem ti142 : tinf Try.prog 142 = some { size := 2, bytes := 48, zero := some [.nils, .nils], kind := .struct [(0, 51, 1), (1, 51, 1)] } := by kernel_rfl
theorem ti143 : tinf Try.prog 143 = some { size := 1, bytes := 24, zero := some [.nils], kind := .slice 142 } := by kernel_rfl
theorem ti146 : tinf Try.prog 146 = some { size := 1, bytes := 8, zero := some [.int .i64 0], kind := .struct [(0, 3, 1)] } := by kernel_rfl
theorem ti151 : tinf Try.prog 151 = some { size := 2, bytes := 16, zero := some [.nilp, .int .i64 0], kind := .struct [(0, 149, 1), (1, 3, 1)] } := by kernel_rfl
theorem ti154 : tinf Try.prog 154 = some { size := 0, bytes := 0, zero := some [], kind := .struct [] } := by kernel_rfl
theorem ti156 : tinf Try.prog 156 = some { size := 1, bytes := 8, zero := some [.nilp], kind := .ptr 139 } := by kernel_rfl
theorem ti158 : tinf Try.prog 158 = some { size := 1, bytes := 24, zero := some [.nils], kind := .slice 104 } := by kernel_rfl
theorem ti164 : tinf Try.prog 164 = some { size := 2, bytes := 16, zero := some [.nilp, .int .i64 0], kind := .struct [(0, 162, 1), (1, 3, 1)] } := by kernel_rfl
theorem ti167 : tinf Try.prog 167 = some { size := 2, bytes := 32, zero := some [.nili, .nili], kind := .struct [(0, 82, 1), (1, 104, 1)] } := by kernel_rfl
theorem ti172 : tinf Try.prog 172 = some { size := 2, bytes := 32, zero := some [.nili, .nili], kind := .struct [(0, 82, 1), (1, 82, 1)] } := by kernel_rfl
theorem ti174 : tinf Try.prog 174 = some { size := 1, bytes := 8, zero := some [.int .i64 0], kind := .struct [(0, 3, 1)] } := by kernel_rfl
theorem ti175 : tinf Try.prog 175 = some { size := 2, bytes := 32, zero := some [.str [], .str []], kind := .struct [(0, 9, 1), (1, 9, 1)] } := by kernel_rfl
theorem ti177 : tinf Try.prog 177 = some { size := 2, bytes := 32, zero := some [.nili, .nili], kind := .struct [(0, 104, 1), (1, 104, 1)] } := by kernel_rfl
theorem ti179 : tinf Try.prog 179 = some { size := 2, bytes := 32, zero := some [.nili, .nili], kind := .struct [(0, 104, 1), (1, 104, 1)] } := by kernel_rfl
theorem ti181 : tinf Try.prog 181 = some { size := 3, bytes := 48, zero := some [.nili, .nili, .nili], kind := .struct [(0, 104, 1), (1, 104, 1), (2, 104, 1)] } := by kernel_rfl
theorem ca10 : callable Try.prog 10 = true := by kernel_rfl
theorem ca11 : callable Try.prog 11 = true := by kernel_rfl
theorem ca12 : callable Try.prog 12 = true := by kernel_rfl
theorem ca13 : callable Try.prog 13 = true := by kernel_rfl
theorem ca14 : callable Try.prog 14 = true := by kernel_rfl
theorem ca15 : callable Try.prog 15 = true := by kernel_rfl
theorem ca16 : callable Try.prog 16 = true := by kernel_rfl
theorem ca17 : callable Try.prog 17 = true := by kernel_rfl
theorem ca18 : callable Try.prog 18 = true := by kernel_rfl
theorem ca19 : callable Try.prog 19 = true := by kernel_rfl
theorem ca20 : callable Try.prog 20 = true := by kernel_rfl
theorem ca21 : callable Try.prog 21 = true := by kernel_rfl
theorem ca22 : callable Try.prog 22 = true := by kernel_rfl
theorem ca23 : callable Try.prog 23 = true := by kernel_rfl
theorem ca24 : callable Try.prog 24 = true := by kernel_rfl
theorem ca25 : callable Try.prog 25 = true := by kernel_rfl
theorem ca26 : callable Try.prog 26 = true := by kernel_rfl
theorem ca27 : callable Try.prog 27 = true := by kernel_rfl
theorem ca28 : callable Try.prog 28 = true := by kernel_rfl
theorem ca29 : callable Try.prog 29 = true := by kernel_rfl
theorem ca30 : callable Try.prog 30 = true := by kernel_rfl
theorem ca31 : callable Try.prog 31 = true := by kernel_rfl
theorem ca32 : callable Try.prog 32 = true := by kernel_rfl
theorem ca33 : callable Try.prog 33 = true := by kernel_rfl
theorem ca34 : callable Try.prog 34 = true := by kernel_rfl
theorem ca35 : callable Try.prog 35 = true := by kernel_rfl
theorem ca36 : callable Try.prog 36 = true := by kernel_rfl
theorem ca37 : callable Try.prog 37 = true := by kernel_rfl
theorem ca38 : callable Try.prog 38 = true := by kernel_rfl
theorem ca39 : callable Try.prog 39 = true := by kernel_rfl
theorem ca40 : callable Try.prog 40 = true := by kernel_rfl
theorem ca41 : callable Try.prog 41 = true := by kernel_rfl
theorem ca42 : callable Try.prog 42 = true := by kernel_rfl
theorem ca43 : callable Try.prog 43 = true := by kernel_rfl
theorem ca44 : callable Try.prog 44 = true := by kernel_rfl
theorem ca45 : callable Try.prog 45 = true := by kernel_rfl
theorem ca46 : callable Try.prog 46 = true := by kernel_rfl
theorem ca47 : callable Try.prog 47 = true := by kernel_rfl
theorem ca48 : callable Try.prog 48 = true := by kernel_rfl
theorem ca49 : callable Try.prog 49 = true := by kernel_rfl
theorem ca50 : callable Try.prog 50 = true := by kernel_rfl
theorem ca51 : callable Try.prog 51 = true := by kernel_rfl
theorem ca52 : callable Try.prog 52 = true := by kernel_rfl
theorem ca53 : callable Try.prog 53 = true := by kernel_rfl
theorem ca54 : callable Try.prog 54 = true := by kernel_rfl
theorem ca55 : callable Try.prog 55 = true := by kernel_rfl
theorem ca56 : callable Try.prog 56 = true := by kernel_rfl
theorem ca57 : callable Try.prog 57 = true := by kernel_rfl
theorem ca59 : callable Try.prog 59 = true := by kernel_rfl
theorem ca60 : callable Try.prog 60 = true := by kernel_rfl
theorem ca61 : callable Try.prog 61 = true := by kernel_rfl
theorem ca62 : callable Try.prog 62 = true := by kernel_rfl
theorem ca63 : callable Try.prog 63 = true := by kernel_rfl
theorem ca64 : callable Try.prog 64 = true := by kernel_rfl
theorem ca65 : callable Try.prog 65 = true := by kernel_rfl
theorem ca66 : callable Try.prog 66 = true := by kernel_rfl
theorem ca67 : callable Try.prog 67 = true := by kernel_rfl
theorem ca68 : callable Try.prog 68 = true := by kernel_rfl
theorem ca69 : callable Try.prog 69 = true := by kernel_rfl
theorem ca70 : callable Try.prog 70 = true := by kernel_rfl
theorem ca71 : callable Try.prog 71 = true := by kernel_rfl
theorem ca72 : callable Try.prog 72 = true := by kernel_rfl
theorem ca74 : callable Try.prog 74 = true := by kernel_rfl
theorem ca77 : callable Try.prog 77 = true := by kernel_rfl
theorem ca78 : callable Try.prog 78 = true := by kernel_rfl
theorem ca79 : callable Try.prog 79 = true := by kernel_rfl
theorem ca80 : callable Try.prog 80 = true := by kernel_rfl
theorem ca81 : callable Try.prog 81 = true := by kernel_rfl
theorem ca82 : callable Try.prog 82 = true := by kernel_rfl
theorem ca83 : callable Try.prog 83 = true := by kernel_rfl
theorem ca84 : callable Try.prog 84 = true := by kernel_rfl
theorem ca86 : callable Try.prog 86 = true := by kernel_rfl
theorem ca87 : callable Try.prog 87 = true := by kernel_rfl
theorem ca88 : callable Try.prog 88 = true := by kernel_rfl
theorem ca91 : callable Try.prog 91 = true := by kernel_rfl
theorem ca92 : callable Try.prog 92 = true := by kernel_rfl
theorem ca94 : callable Try.prog 94 = true := by kernel_rfl
theorem ca95 : callable Try.prog 95 = true := by kernel_rfl
theorem ca96 : callable Try.prog 96 = true := by kernel_rfl
theorem ca97 : callable Try.prog 97 = true := by kernel_rfl
theorem ca98 : callable Try.prog 98 = true := by kernel_rfl
theorem ca99 : callable Try.prog 99 = true := by kernel_rfl
theorem ca100 : callable Try.prog 100 = true := by kernel_rfl
theorem ca101 : callable Try.prog 101 = true := by kernel_rfl
theorem ca102 : callable Try.prog 102 = true := by kernel_rfl
theorem ca103 : callable Try.prog 103 = true := by kernel_rfl
theorem ca104 : callable Try.prog 104 = true := by kernel_rfl
theorem ca105 : callable Try.prog 105 = true := by kernel_rfl
theorem ca106 : callable Try.prog 106 = true := by kernel_rfl
theorem ca108 : callable Try.prog 108 = true := by kernel_rfl
theorem ca109 : callable Try.prog 109 = true := by kernel_rfl
theorem ca141 : callable Try.prog 141 = true := by kernel_rfl
theorem ca144 : callable Try.prog 144 = true := by kernel_rfl
theorem ca158 : callable Try.prog 158 = true := by kernel_rfl
theorem ca161 : callable Try.prog 161 = true := by kernel_rfl
theorem ca164 : callable Try.prog 164 = true := by kernel_rfl
theorem foll : Try.prog.follows .mixedOrders = true := by kernel_rfl
theorem laid : laidOutB Try.prog = true := by kernel_rfl
theorem ownk : ownKnob Try.prog.godebug = none := by kernel_rfl
def cf (N : Nat) (vs : List Nat) : Cfg := { own := fun _ => false, N := N, vs := vs }
end Go.Proofs.Ytfefnoaebafkiaa
