/- Facts of this translation. -/
import Derived.Test.YtdgjkcnojgjkfaaGreatRows
import Derived.Test.YtdgjkcnojgjkfaaGreatAbsW3
namespace Go.Proofs.YtdgjkcnojgjkfaaGreat
open Go.Abs
theorem za87 : zagg Tryz.prog 87 = some [.str [], .str []] := by kernel_rfl
theorem za124 : zagg Tryz.prog 124 = some [.int .i64 0] := by kernel_rfl
theorem za128 : zagg Tryz.prog 128 = some [.nili, .nili] := by kernel_rfl
theorem za136 : zagg Tryz.prog 136 = some [.int .i64 0] := by kernel_rfl
theorem za193 : zagg Tryz.prog 193 = some [.nili, .nili] := by kernel_rfl
theorem za195 : zagg Tryz.prog 195 = some [.nili, .nili] := by kernel_rfl
theorem za197 : zagg Tryz.prog 197 = some [.nili, .nili, .nili] := by kernel_rfl
theorem ks184 : keyS Tryz.prog 184 = some [(0, .ptr 35), (1, .int .i64)] := by kernel_rfl
theorem ks212 : keyS Tryz.prog 212 = some [(0, .ptr 32), (1, .int .i64)] := by kernel_rfl
theorem mi82 : mapInf Tryz.prog 82 = some (87, [(0, .str), (1, .str)], 2, .nili) := by kernel_rfl
theorem mi108 : mapInf Tryz.prog 108 = some (184, [(0, .ptr 35), (1, .int .i64)], 2, .agg [.nilp, .int .i64 0]) := by kernel_rfl
theorem mi114 : mapInf Tryz.prog 114 = some (212, [(0, .ptr 32), (1, .int .i64)], 2, .agg [.nilp, .int .i64 0]) := by kernel_rfl
theorem ti3 : tinf Tryz.prog 3 = some { size := 1, bytes := 8, zero := some [.int .i64 0], kind := .int .i64 } := by kernel_rfl
theorem ti4 : tinf Tryz.prog 4 = some { size := 1, bytes := 1, zero := some [.bool false], kind := .bool } := by kernel_rfl
theorem ti5 : tinf Tryz.prog 5 = some { size := 1, bytes := 1, zero := some [.int .u8 0], kind := .int .u8 } := by kernel_rfl
theorem ti9 : tinf Tryz.prog 9 = some { size := 1, bytes := 16, zero := some [.str []], kind := .str } := by kernel_rfl
theorem ti22 : tinf Tryz.prog 22 = some { size := 1, bytes := 24, zero := some [.nils], kind := .slice 24 } := by kernel_rfl
theorem ti24 : tinf Tryz.prog 24 = some { size := 4, bytes := 64, zero := some [.int .i64 0, .str [], .str [], .nils], kind := .struct [(0, 3, 1), (1, 9, 1), (2, 9, 1), (3, 22, 1)] } := by kernel_rfl
theorem ti25 : tinf Tryz.prog 25 = some { size := 1, bytes := 24, zero := some [.nils], kind := .slice 27 } := by kernel_rfl
theorem ti27 : tinf Tryz.prog 27 = some { size := 9, bytes := 136, zero := some [.int .i64 0, .int .i64 0, .str [], .str [], .int .i64 0, .str [], .str [], .nils, .nils], kind := .struct [(0, 3, 1), (1, 3, 1), (2, 9, 1), (3, 9, 1), (4, 24, 4), (8, 25, 1)] } := by kernel_rfl
theorem ti30 : tinf Tryz.prog 30 = some { size := 1, bytes := 24, zero := some [.nils], kind := .slice 32 } := by kernel_rfl
theorem ti32 : tinf Tryz.prog 32 = some { size := 4, bytes := 64, zero := some [.int .i64 0, .str [], .str [], .nils], kind := .struct [(0, 3, 1), (1, 9, 1), (2, 9, 1), (3, 30, 1)] } := by kernel_rfl
theorem ti33 : tinf Tryz.prog 33 = some { size := 1, bytes := 24, zero := some [.nils], kind := .slice 35 } := by kernel_rfl
theorem ti35 : tinf Tryz.prog 35 = some { size := 9, bytes := 136, zero := some [.int .i64 0, .int .i64 0, .str [], .str [], .int .i64 0, .str [], .str [], .nils, .nils], kind := .struct [(0, 3, 1), (1, 3, 1), (2, 9, 1), (3, 9, 1), (4, 32, 4), (8, 33, 1)] } := by kernel_rfl
theorem ti37 : tinf Tryz.prog 37 = some { size := 1, bytes := 8, zero := some [.nilf], kind := .func } := by kernel_rfl
theorem ti43 : tinf Tryz.prog 43 = some { size := 1, bytes := 24, zero := some [.nils], kind := .slice 77 } := by kernel_rfl
theorem ti46 : tinf Tryz.prog 46 = some { size := 1, bytes := 24, zero := some [.nils], kind := .slice 80 } := by kernel_rfl
theorem ti52 : tinf Tryz.prog 52 = some { size := 1, bytes := 24, zero := some [.nils], kind := .slice 5 } := by kernel_rfl
theorem ti62 : tinf Tryz.prog 62 = some { size := 1, bytes := 16, zero := some [.nili], kind := .iface } := by kernel_rfl
theorem ti65 : tinf Tryz.prog 65 = some { size := 1, bytes := 8, zero := some [.nilf], kind := .func } := by kernel_rfl
theorem ti77 : tinf Tryz.prog 77 = some { size := 11, bytes := 168, zero := some [.str [], .str [], .int .i64 0, .int .i64 0, .str [], .str [], .int .i64 0, .str [], .str [], .nils, .nils], kind := .struct [(0, 9, 1), (1, 9, 1), (2, 27, 9)] } := by kernel_rfl
theorem ti80 : tinf Tryz.prog 80 = some { size := 11, bytes := 168, zero := some [.str [], .str [], .int .i64 0, .int .i64 0, .str [], .str [], .int .i64 0, .str [], .str [], .nils, .nils], kind := .struct [(0, 9, 1), (1, 9, 1), (2, 35, 9)] } := by kernel_rfl
theorem ti82 : tinf Tryz.prog 82 = some { size := 1, bytes := 8, zero := some [.nilm], kind := .map 87 62 } := by kernel_rfl
theorem ti87 : tinf Tryz.prog 87 = some { size := 2, bytes := 32, zero := some [.str [], .str []], kind := .struct [(0, 9, 1), (1, 9, 1)] } := by kernel_rfl
theorem ti96 : tinf Tryz.prog 96 = some { size := 1, bytes := 16, zero := some [.nili], kind := .iface } := by kernel_rfl
theorem ti104 : tinf Tryz.prog 104 = some { size := 1, bytes := 24, zero := some [.nils], kind := .slice 3 } := by kernel_rfl
theorem ti106 : tinf Tryz.prog 106 = some { size := 1, bytes := 8, zero := some [.nilf], kind := .func } := by kernel_rfl
theorem ti108 : tinf Tryz.prog 108 = some { size := 1, bytes := 8, zero := some [.nilm], kind := .map 184 184 } := by kernel_rfl
theorem ti110 : tinf Tryz.prog 110 = some { size := 3, bytes := 24, zero := some [.nilf, .nilf, .nilm], kind := .struct [(0, 106, 1), (1, 37, 1), (2, 108, 1)] } := by kernel_rfl
theorem ti112 : tinf Tryz.prog 112 = some { size := 1, bytes := 8, zero := some [.nilf], kind := .func } := by kernel_rfl
theorem ti114 : tinf Tryz.prog 114 = some { size := 1, bytes := 8, zero := some [.nilm], kind := .map 212 212 } := by kernel_rfl
theorem ti116 : tinf Tryz.prog 116 = some { size := 3, bytes := 24, zero := some [.nilf, .nilf, .nilm], kind := .struct [(0, 112, 1), (1, 65, 1), (2, 114, 1)] } := by kernel_rfl
theorem ti124 : tinf Tryz.prog 124 = some { size := 1, bytes := 8, zero := some [.int .i64 0], kind := .struct [(0, 3, 1)] } := by kernel_rfl
theorem ti126 : tinf Tryz.prog 126 = some { size := 1, bytes := 16, zero := some [.nili], kind := .iface } := by kernel_rfl
theorem ti128 : tinf Tryz.prog 128 = some { size := 2, bytes := 32, zero := some [.nili, .nili], kind := .struct [(0, 126, 1), (1, 62, 1)] } := by kernel_rfl
theorem ti131 : tinf Tryz.prog 131 = some { size := 1, bytes := 8, zero := some [.int .i64 0], kind := .int .i64 } := by kernel_rfl
theorem ti133 : tinf Tryz.prog 133 = some { size := 1, bytes := 8, zero := some [.int .i64 0], kind := .struct [(0, 131, 1)] } := by kernel_rfl
theorem ti136 : tinf Tryz.prog 136 = some { size := 1, bytes := 8, zero := some [.int .i64 0], kind := .struct [(0, 3, 1)] } := by kernel_rfl
theorem ti140 : tinf Tryz.prog 140 = some { size := 1, bytes := 24, zero := some [.nils], kind := .slice 62 } := by kernel_rfl
theorem ti147 : tinf Tryz.prog 147 = some { size := 2, bytes := 24, zero := some [.int .i64 0, .nili], kind := .struct [(0, 3, 1), (1, 62, 1)] } := by kernel_rfl
theorem ti150 : tinf Tryz.prog 150 = some { size := 2, bytes := 32, zero := some [.nils, .int .i64 0], kind := .struct [(0, 52, 1), (1, 3, 1)] } := by kernel_rfl
theorem ti153 : tinf Tryz.prog 153 = some { size := 1, bytes := 24, zero := some [.nils], kind := .slice 9 } := by kernel_rfl
theorem ti159 : tinf Tryz.prog 159 = some { size := 2, bytes := 48, zero := some [.nils, .nils], kind := .struct [(0, 33, 1), (1, 33, 1)] } := by kernel_rfl
theorem ti160 : tinf Tryz.prog 160 = some { size := 1, bytes := 24, zero := some [.nils], kind := .slice 159 } := by kernel_rfl
theorem ti161 : tinf Tryz.prog 161 = some { size := 1, bytes := 8, zero := some [.nilp], kind := .ptr 133 } := by kernel_rfl
theorem ti168 : tinf Tryz.prog 168 = some { size := 1, bytes := 24, zero := some [.nils], kind := .slice 222 } := by kernel_rfl
theorem ti170 : tinf Tryz.prog 170 = some { size := 2, bytes := 40, zero := some [.nils, .nili], kind := .struct [(0, 168, 1), (1, 62, 1)] } := by kernel_rfl
theorem ti180 : tinf Tryz.prog 180 = some { size := 2, bytes := 48, zero := some [.nils, .nils], kind := .struct [(0, 30, 1), (1, 30, 1)] } := by kernel_rfl
theorem ti181 : tinf Tryz.prog 181 = some { size := 1, bytes := 24, zero := some [.nils], kind := .slice 180 } := by kernel_rfl
theorem ti184 : tinf Tryz.prog 184 = some { size := 2, bytes := 16, zero := some [.nilp, .int .i64 0], kind := .struct [(0, 182, 1), (1, 3, 1)] } := by kernel_rfl
theorem ti193 : tinf Tryz.prog 193 = some { size := 2, bytes := 32, zero := some [.nili, .nili], kind := .struct [(0, 62, 1), (1, 62, 1)] } := by kernel_rfl
theorem ti195 : tinf Tryz.prog 195 = some { size := 2, bytes := 32, zero := some [.nili, .nili], kind := .struct [(0, 62, 1), (1, 62, 1)] } := by kernel_rfl
theorem ti197 : tinf Tryz.prog 197 = some { size := 3, bytes := 48, zero := some [.nili, .nili, .nili], kind := .struct [(0, 62, 1), (1, 62, 1), (2, 62, 1)] } := by kernel_rfl
theorem ti212 : tinf Tryz.prog 212 = some { size := 2, bytes := 16, zero := some [.nilp, .int .i64 0], kind := .struct [(0, 210, 1), (1, 3, 1)] } := by kernel_rfl
theorem ti222 : tinf Tryz.prog 222 = some { size := 2, bytes := 24, zero := some [.nili, .int .i64 0], kind := .struct [(0, 62, 1), (1, 3, 1)] } := by kernel_rfl
theorem ti234 : tinf Tryz.prog 234 = some { size := 0, bytes := 0, zero := some [], kind := .struct [] } := by kernel_rfl
theorem ti235 : tinf Tryz.prog 235 = some { size := 2, bytes := 32, zero := some [.str [], .str []], kind := .struct [(0, 9, 1), (1, 9, 1)] } := by kernel_rfl
theorem ti239 : tinf Tryz.prog 239 = some { size := 2, bytes := 32, zero := some [.nili, .nili], kind := .struct [(0, 126, 1), (1, 126, 1)] } := by kernel_rfl
theorem ti276 : tinf Tryz.prog 276 = some { size := 1, bytes := 24, zero := some [.nils], kind := .slice 285 } := by kernel_rfl
theorem ti285 : tinf Tryz.prog 285 = some { size := 1, bytes := 16, zero := some [.nili], kind := .iface } := by kernel_rfl
theorem ti288 : tinf Tryz.prog 288 = some { size := 1, bytes := 24, zero := some [.nils], kind := .slice 291 } := by kernel_rfl
theorem ti291 : tinf Tryz.prog 291 = some { size := 6, bytes := 88, zero := some [.int .i64 0, .str [], .int .i64 0, .str [], .str [], .nils], kind := .struct [(0, 3, 1), (1, 9, 1), (2, 32, 4)] } := by kernel_rfl
theorem ca9 : callable Tryz.prog 9 = true := by kernel_rfl
theorem ca10 : callable Tryz.prog 10 = true := by kernel_rfl
theorem ca11 : callable Tryz.prog 11 = true := by kernel_rfl
theorem ca12 : callable Tryz.prog 12 = true := by kernel_rfl
theorem ca13 : callable Tryz.prog 13 = true := by kernel_rfl
theorem ca14 : callable Tryz.prog 14 = true := by kernel_rfl
theorem ca15 : callable Tryz.prog 15 = true := by kernel_rfl
theorem ca16 : callable Tryz.prog 16 = true := by kernel_rfl
theorem ca17 : callable Tryz.prog 17 = true := by kernel_rfl
theorem ca18 : callable Tryz.prog 18 = true := by kernel_rfl
theorem ca19 : callable Tryz.prog 19 = true := by kernel_rfl
theorem ca20 : callable Tryz.prog 20 = true := by kernel_rfl
theorem ca21 : callable Tryz.prog 21 = true := by kernel_rfl
theorem ca22 : callable Tryz.prog 22 = true := by kernel_rfl
theorem ca23 : callable Tryz.prog 23 = true := by kernel_rfl
theorem ca24 : callable Tryz.prog 24 = true := by kernel_rfl
theorem ca25 : callable Tryz.prog 25 = true := by kernel_rfl
theorem ca26 : callable Tryz.prog 26 = true := by kernel_rfl
theorem ca27 : callable Tryz.prog 27 = true := by kernel_rfl
theorem ca28 : callable Tryz.prog 28 = true := by kernel_rfl
theorem ca29 : callable Tryz.prog 29 = true := by kernel_rfl
theorem ca30 : callable Tryz.prog 30 = true := by kernel_rfl
theorem ca31 : callable Tryz.prog 31 = true := by kernel_rfl
theorem ca32 : callable Tryz.prog 32 = true := by kernel_rfl
theorem ca33 : callable Tryz.prog 33 = true := by kernel_rfl
theorem ca34 : callable Tryz.prog 34 = true := by kernel_rfl
theorem ca35 : callable Tryz.prog 35 = true := by kernel_rfl
theorem ca36 : callable Tryz.prog 36 = true := by kernel_rfl
theorem ca37 : callable Tryz.prog 37 = true := by kernel_rfl
theorem ca38 : callable Tryz.prog 38 = true := by kernel_rfl
theorem ca39 : callable Tryz.prog 39 = true := by kernel_rfl
theorem ca40 : callable Tryz.prog 40 = true := by kernel_rfl
theorem ca41 : callable Tryz.prog 41 = true := by kernel_rfl
theorem ca42 : callable Tryz.prog 42 = true := by kernel_rfl
theorem ca43 : callable Tryz.prog 43 = true := by kernel_rfl
theorem ca44 : callable Tryz.prog 44 = true := by kernel_rfl
theorem ca45 : callable Tryz.prog 45 = true := by kernel_rfl
theorem ca46 : callable Tryz.prog 46 = true := by kernel_rfl
theorem ca47 : callable Tryz.prog 47 = true := by kernel_rfl
theorem ca48 : callable Tryz.prog 48 = true := by kernel_rfl
theorem ca49 : callable Tryz.prog 49 = true := by kernel_rfl
theorem ca50 : callable Tryz.prog 50 = true := by kernel_rfl
theorem ca51 : callable Tryz.prog 51 = true := by kernel_rfl
theorem ca52 : callable Tryz.prog 52 = true := by kernel_rfl
theorem ca53 : callable Tryz.prog 53 = true := by kernel_rfl
theorem ca54 : callable Tryz.prog 54 = true := by kernel_rfl
theorem ca55 : callable Tryz.prog 55 = true := by kernel_rfl
theorem ca56 : callable Tryz.prog 56 = true := by kernel_rfl
theorem ca57 : callable Tryz.prog 57 = true := by kernel_rfl
theorem ca58 : callable Tryz.prog 58 = true := by kernel_rfl
theorem ca60 : callable Tryz.prog 60 = true := by kernel_rfl
theorem ca61 : callable Tryz.prog 61 = true := by kernel_rfl
theorem ca62 : callable Tryz.prog 62 = true := by kernel_rfl
theorem ca63 : callable Tryz.prog 63 = true := by kernel_rfl
theorem ca64 : callable Tryz.prog 64 = true := by kernel_rfl
theorem ca65 : callable Tryz.prog 65 = true := by kernel_rfl
theorem ca66 : callable Tryz.prog 66 = true := by kernel_rfl
theorem ca67 : callable Tryz.prog 67 = true := by kernel_rfl
theorem ca68 : callable Tryz.prog 68 = true := by kernel_rfl
theorem ca69 : callable Tryz.prog 69 = true := by kernel_rfl
theorem ca70 : callable Tryz.prog 70 = true := by kernel_rfl
theorem ca71 : callable Tryz.prog 71 = true := by kernel_rfl
theorem ca72 : callable Tryz.prog 72 = true := by kernel_rfl
theorem ca73 : callable Tryz.prog 73 = true := by kernel_rfl
theorem ca74 : callable Tryz.prog 74 = true := by kernel_rfl
theorem ca75 : callable Tryz.prog 75 = true := by kernel_rfl
theorem ca76 : callable Tryz.prog 76 = true := by kernel_rfl
theorem ca77 : callable Tryz.prog 77 = true := by kernel_rfl
theorem ca78 : callable Tryz.prog 78 = true := by kernel_rfl
theorem ca79 : callable Tryz.prog 79 = true := by kernel_rfl
theorem ca80 : callable Tryz.prog 80 = true := by kernel_rfl
theorem ca81 : callable Tryz.prog 81 = true := by kernel_rfl
theorem ca82 : callable Tryz.prog 82 = true := by kernel_rfl
theorem ca83 : callable Tryz.prog 83 = true := by kernel_rfl
theorem ca85 : callable Tryz.prog 85 = true := by kernel_rfl
theorem ca87 : callable Tryz.prog 87 = true := by kernel_rfl
theorem ca88 : callable Tryz.prog 88 = true := by kernel_rfl
theorem ca89 : callable Tryz.prog 89 = true := by kernel_rfl
theorem ca90 : callable Tryz.prog 90 = true := by kernel_rfl
theorem ca91 : callable Tryz.prog 91 = true := by kernel_rfl
theorem ca92 : callable Tryz.prog 92 = true := by kernel_rfl
theorem ca93 : callable Tryz.prog 93 = true := by kernel_rfl
theorem ca94 : callable Tryz.prog 94 = true := by kernel_rfl
theorem ca95 : callable Tryz.prog 95 = true := by kernel_rfl
theorem ca96 : callable Tryz.prog 96 = true := by kernel_rfl
theorem ca97 : callable Tryz.prog 97 = true := by kernel_rfl
theorem ca98 : callable Tryz.prog 98 = true := by kernel_rfl
theorem ca101 : callable Tryz.prog 101 = true := by kernel_rfl
theorem ca104 : callable Tryz.prog 104 = true := by kernel_rfl
theorem ca105 : callable Tryz.prog 105 = true := by kernel_rfl
theorem ca107 : callable Tryz.prog 107 = true := by kernel_rfl
theorem ca108 : callable Tryz.prog 108 = true := by kernel_rfl
theorem ca109 : callable Tryz.prog 109 = true := by kernel_rfl
theorem ca110 : callable Tryz.prog 110 = true := by kernel_rfl
theorem ca112 : callable Tryz.prog 112 = true := by kernel_rfl
theorem ca113 : callable Tryz.prog 113 = true := by kernel_rfl
theorem ca114 : callable Tryz.prog 114 = true := by kernel_rfl
theorem ca115 : callable Tryz.prog 115 = true := by kernel_rfl
theorem ca116 : callable Tryz.prog 116 = true := by kernel_rfl
theorem ca117 : callable Tryz.prog 117 = true := by kernel_rfl
theorem ca118 : callable Tryz.prog 118 = true := by kernel_rfl
theorem ca119 : callable Tryz.prog 119 = true := by kernel_rfl
theorem ca120 : callable Tryz.prog 120 = true := by kernel_rfl
theorem ca121 : callable Tryz.prog 121 = true := by kernel_rfl
theorem ca122 : callable Tryz.prog 122 = true := by kernel_rfl
theorem ca123 : callable Tryz.prog 123 = true := by kernel_rfl
theorem ca124 : callable Tryz.prog 124 = true := by kernel_rfl
theorem ca125 : callable Tryz.prog 125 = true := by kernel_rfl
theorem ca126 : callable Tryz.prog 126 = true := by kernel_rfl
theorem ca127 : callable Tryz.prog 127 = true := by kernel_rfl
theorem ca128 : callable Tryz.prog 128 = true := by kernel_rfl
theorem ca129 : callable Tryz.prog 129 = true := by kernel_rfl
theorem ca130 : callable Tryz.prog 130 = true := by kernel_rfl
theorem ca131 : callable Tryz.prog 131 = true := by kernel_rfl
theorem ca132 : callable Tryz.prog 132 = true := by kernel_rfl
theorem ca133 : callable Tryz.prog 133 = true := by kernel_rfl
theorem ca134 : callable Tryz.prog 134 = true := by kernel_rfl
theorem ca135 : callable Tryz.prog 135 = true := by kernel_rfl
theorem ca136 : callable Tryz.prog 136 = true := by kernel_rfl
theorem ca137 : callable Tryz.prog 137 = true := by kernel_rfl
theorem ca138 : callable Tryz.prog 138 = true := by kernel_rfl
theorem ca139 : callable Tryz.prog 139 = true := by kernel_rfl
theorem ca140 : callable Tryz.prog 140 = true := by kernel_rfl
theorem ca141 : callable Tryz.prog 141 = true := by kernel_rfl
theorem ca142 : callable Tryz.prog 142 = true := by kernel_rfl
theorem ca143 : callable Tryz.prog 143 = true := by kernel_rfl
theorem ca144 : callable Tryz.prog 144 = true := by kernel_rfl
theorem ca145 : callable Tryz.prog 145 = true := by kernel_rfl
theorem ca146 : callable Tryz.prog 146 = true := by kernel_rfl
theorem ca147 : callable Tryz.prog 147 = true := by kernel_rfl
theorem ca148 : callable Tryz.prog 148 = true := by kernel_rfl
theorem ca149 : callable Tryz.prog 149 = true := by kernel_rfl
theorem ca150 : callable Tryz.prog 150 = true := by kernel_rfl
theorem ca151 : callable Tryz.prog 151 = true := by kernel_rfl
theorem ca153 : callable Tryz.prog 153 = true := by kernel_rfl
theorem ca154 : callable Tryz.prog 154 = true := by kernel_rfl
theorem ca155 : callable Tryz.prog 155 = true := by kernel_rfl
theorem ca156 : callable Tryz.prog 156 = true := by kernel_rfl
theorem ca157 : callable Tryz.prog 157 = true := by kernel_rfl
theorem ca158 : callable Tryz.prog 158 = true := by kernel_rfl
theorem ca159 : callable Tryz.prog 159 = true := by kernel_rfl
theorem ca160 : callable Tryz.prog 160 = true := by kernel_rfl
theorem ca161 : callable Tryz.prog 161 = true := by kernel_rfl
theorem ca162 : callable Tryz.prog 162 = true := by kernel_rfl
theorem ca191 : callable Tryz.prog 191 = true := by kernel_rfl
theorem ca195 : callable Tryz.prog 195 = true := by kernel_rfl
theorem ca203 : callable Tryz.prog 203 = true := by kernel_rfl
theorem ca208 : callable Tryz.prog 208 = true := by kernel_rfl
theorem ca247 : callable Tryz.prog 247 = true := by kernel_rfl
theorem foll : Tryz.prog.follows .mixedOrders = true := by kernel_rfl
theorem laid : laidOutB Tryz.prog = true := by kernel_rfl
theorem ownk : ownKnob Tryz.prog.godebug = none := by kernel_rfl
def cf (N : Nat) (vs : List Nat) : Cfg := { own := fun _ => false, N := N, vs := vs }
end Go.Proofs.YtdgjkcnojgjkfaaGreat
