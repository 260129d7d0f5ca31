/- MemPlays: its regions that draw their order. -/
import Derived.Test.YtfbmkgdpejgjpaaPPlaysB
namespace Go.Proofs.Ytfbmkgdpejgjpaa
open Go.ChangeShapes Go.WideShapes Go.ChangeAt Go.RowKit
set_option linter.unusedVariables false
set_option maxRecDepth 20000 in
set_option maxHeartbeats 4000000 in
theorem region26 {Q : Exit → Act → World → Prop} {y0 y1 y2 y3 y4 y5 y6 y9 y12 y13 y14 y15 y16 y17 y18 y19 y20 y21 y22 y23 y24 y25 y26 y27 y28 y29 y30 y31 y32 y33 y34 y35 y36 y37 y38 y39 y40 y41 y42 y43 y44 y45 y46 y47 y48 y49 y50 y51 y52 y53 y54 y55 y56 y57 y58 y59 y60 y61 y62 y63 y64 y65 y66 y67 y68 y69 y70 y71 y72 y73 y74 y75 y76 y77 y78 y79 y80 y81 y82 y83 y84 y85 y86 y87 y88 y89 y90 y91 y92 y93 y94 y95 y96 y97 y98 y99 y100 y101 y102 y103 y104 y105 y106 y107 y108 y109 y110 y111 y112 y113 y114 y115 y116 y117 y118 y119 y120 y121 y122 y123 y124 y125 y126 y127 y128 y129 y130 y131 y132 y133 y134 y135 y136 y137 y138 y139 y140 y141 y142 y143 y144 y145 y146 y147 y148 y149 y150 y151 y152 y153 y154 y155 y156 y157 y158 y159 y160 y161 y162 y163 y164 y165 y166 y167 y168 y169 y170 y171 y172 y173 y174 y175 y176 y177 y178 y179 y180 y181 y182 y183 y184 y185 y186 y187 y188 y189 y190 y191 y192 y193 y194 y195 y196 y197 y198 y199 y200 y201 y202 : Value} (wc : World) (s' : MS) (t' : S5) (ob : Nat) (o : Op4) (md wav : Bool) (pmv pkv wdv : Int) (HBK : Hid (Blk wc ob #[.int .i64 o.kd, .int .i64 o.pm, .int .u32 (o.at_ : Int), .int .u8 (o.v.toNat : Int)] 29))
    (HQ24 : Hid (∀ u, Below wc.heap.size wc u → Calls Try.prog 24 #[.pointer (some ⟨s'.mb, 0, none⟩), .int .u32 (o.at_ : Int)] u fun e w' => e = .returned (.bool md) ∧ Below u.heap.size u w'))
    (HQ25 : Hid (∀ u, Below wc.heap.size wc u → Calls Try.prog 25 #[.pointer (some ⟨t'.m, 0, none⟩), .int .u32 (o.at_ : Int)] u fun e w' => e = .returned (.bool md) ∧ Below u.heap.size u w'))
    (HQ26 : Hid (∀ u, Below wc.heap.size wc u → Calls Try.prog 26 #[.pointer (some ⟨s'.mb, 0, none⟩), .int .u32 (o.at_ : Int)] u fun e w' => e = .returned (.int .i64 pmv) ∧ Below u.heap.size u w'))
    (HQ27 : Hid (∀ u, Below wc.heap.size wc u → Calls Try.prog 27 #[.pointer (some ⟨t'.m, 0, none⟩), .int .u32 (o.at_ : Int)] u fun e w' => e = .returned (.int .i64 pmv) ∧ Below u.heap.size u w'))
    (HQ28 : Hid (∀ u, Below wc.heap.size wc u → Calls Try.prog 28 #[.pointer (some ⟨s'.mb, 0, none⟩), .int .u32 (o.at_ : Int)] u fun e w' => e = .returned (.int .u8 pkv) ∧ Below u.heap.size u w'))
    (HQ29 : Hid (∀ u, Below wc.heap.size wc u → Calls Try.prog 29 #[.pointer (some ⟨t'.m, 0, none⟩), .int .u32 (o.at_ : Int)] u fun e w' => e = .returned (.int .u8 pkv) ∧ Below u.heap.size u w'))
    (HQ30 : Hid (∀ u, Below wc.heap.size wc u → Calls Try.prog 30 #[.pointer (some ⟨s'.mb, 0, none⟩), .int .u32 (o.at_ : Int)] u fun e w' => e = .returned (.int .u32 wdv) ∧ Below u.heap.size u w'))
    (HQ31 : Hid (∀ u, Below wc.heap.size wc u → Calls Try.prog 31 #[.pointer (some ⟨t'.m, 0, none⟩), .int .u32 (o.at_ : Int)] u fun e w' => e = .returned (.int .u32 wdv) ∧ Below u.heap.size u w'))
    (HQ32 : Hid (∀ u, Below wc.heap.size wc u → Calls Try.prog 32 #[.pointer (some ⟨s'.mb, 0, none⟩), .int .u32 (o.at_ : Int)] u fun e w' => e = .returned (.bool wav) ∧ Below u.heap.size u w'))
    (HQ33 : Hid (∀ u, Below wc.heap.size wc u → Calls Try.prog 33 #[.pointer (some ⟨t'.m, 0, none⟩), .int .u32 (o.at_ : Int)] u fun e w' => e = .returned (.bool wav) ∧ Below u.heap.size u w'))
    (hfin : ∀ xs w3, xs.length = 57 → Below wc.heap.size wc w3 → (∀ i, i < 57 → phiOb s'.mb t'.m ob o md wav pmv pkv wdv i (xs.getD i undef) w3) → Q .normal (slotsOn { tmps := #[y0, y1, y2, y3, y4, y5, y6, .pointer (some ⟨s'.mb, 0, none⟩), .pointer (some ⟨t'.m, 0, none⟩), y9, .pointer (some ⟨ob, 0, none⟩), .bool true, y12, y13, y14, y15, y16, y17, y18, y19, y20, y21, y22, y23, y24, y25, y26, y27, y28, y29, y30, y31, y32, y33, y34, y35, y36, y37, y38, y39, y40, y41, y42, y43, y44, y45, y46, y47, y48, y49, y50, y51, y52, y53, y54, y55, y56, y57, y58, y59, y60, y61, y62, y63, y64, y65, y66, y67, y68, y69, y70, y71, y72, y73, y74, y75, y76, y77, y78, y79, y80, y81, y82, y83, y84, y85, y86, y87, y88, y89, y90, y91, y92, y93, y94, y95, y96, y97, y98, y99, y100, y101, y102, y103, y104, y105, y106, y107, y108, y109, y110, y111, y112, y113, y114, y115, y116, y117, y118, y119, y120, y121, y122, y123, y124, y125, y126, y127, y128, y129, y130, y131, y132, y133, y134, y135, y136, y137, y138, y139, y140, y141, y142, y143, y144, y145, y146, y147, y148, y149, y150, y151, y152, y153, y154, y155, y156, y157, y158, y159, y160, y161, y162, y163, y164, y165, y166, y167, y168, y169, y170, y171, y172, y173, y174, y175, y176, y177, y178, y179, y180, y181, y182, y183, y184, y185, y186, y187, y188, y189, y190, y191, y192, y193, y194, y195, y196, y197, y198, y199, y200, y201, y202], defers := [] } [118, 119, 120, 121, 122, 123, 124, 125, 126, 127, 128, 129, 130, 131, 132, 133, 134, 135, 136, 137, 138, 139, 140, 141, 142, 143, 144, 145, 146, 147, 148, 149, 150, 151, 152, 153, 154, 155, 156, 157, 158, 159, 160, 161, 162, 163, 164, 165, 166, 167, 168, 169, 170, 171, 172, 173, 174] xs) w3) :
    (Code.region 26 #[{ dst := some 118, op := Go.Op.move (Go.Operand.tmp 11), type := 4, pos := "law.go:51", after := #[], guard := none }, { dst := some 119, op := Go.Op.unOp Go.UnOp.not 4 (Go.Operand.tmp 118), type := 4, pos := "law.go:51", after := #[{ on := 0, ground := Go.Ground.data }], guard := none }, { dst := some 120, op := Go.Op.move (Go.Operand.tmp 119), type := 4, pos := "law.go:51", after := #[{ on := 1, ground := Go.Ground.data }], guard := none }, { dst := some 121, op := Go.Op.move (Go.Operand.tmp 7), type := 23, pos := "law.go:51", after := #[{ on := 2, ground := Go.Ground.guard }], guard := some (2, false) }, { dst := some 122, op := Go.Op.fieldAddr 29 (Go.Operand.tmp 10) 2, type := 0, pos := "law.go:51", after := #[{ on := 2, ground := Go.Ground.guard }], guard := some (2, false) }, { dst := some 123, op := Go.Op.load 27 (Go.Operand.tmp 122), type := 27, pos := "law.go:51", after := #[{ on := 4, ground := Go.Ground.data }, { on := 2, ground := Go.Ground.guard }], guard := some (2, false) }, { dst := some 124, op := Go.Op.call { callee := Go.Callee.value (Go.Operand.func 24), args := #[Go.Operand.tmp 121, Go.Operand.tmp 123], argTypes := #[23, 27] }, type := 4, pos := "law.go:51", after := #[{ on := 3, ground := Go.Ground.data }, { on := 5, ground := Go.Ground.data }, { on := 2, ground := Go.Ground.chain }, { on := 2, ground := Go.Ground.guard }], guard := some (2, false) }, { dst := some 125, op := Go.Op.move (Go.Operand.tmp 8), type := 25, pos := "law.go:51", after := #[{ on := 2, ground := Go.Ground.guard }], guard := some (2, false) }, { dst := some 126, op := Go.Op.fieldAddr 29 (Go.Operand.tmp 10) 2, type := 0, pos := "law.go:51", after := #[{ on := 2, ground := Go.Ground.guard }], guard := some (2, false) }, { dst := some 127, op := Go.Op.load 27 (Go.Operand.tmp 126), type := 27, pos := "law.go:51", after := #[{ on := 8, ground := Go.Ground.data }, { on := 2, ground := Go.Ground.guard }], guard := some (2, false) }, { dst := some 128, op := Go.Op.call { callee := Go.Callee.value (Go.Operand.func 25), args := #[Go.Operand.tmp 125, Go.Operand.tmp 127], argTypes := #[25, 27] }, type := 4, pos := "law.go:51", after := #[{ on := 7, ground := Go.Ground.data }, { on := 9, ground := Go.Ground.data }, { on := 6, ground := Go.Ground.chain }, { on := 2, ground := Go.Ground.guard }], guard := some (2, false) }, { dst := some 129, op := Go.Op.binOp Go.BinOp.neq 4 (Go.Operand.tmp 124) (Go.Operand.tmp 128) 4, type := 4, pos := "law.go:51", after := #[{ on := 6, ground := Go.Ground.data }, { on := 10, ground := Go.Ground.data }, { on := 2, ground := Go.Ground.guard }], guard := some (2, false) }, { dst := some 130, op := Go.Op.pick (Go.Operand.tmp 120) (Go.Operand.const (Go.Value.bool true)) (Go.Operand.tmp 129), type := 4, pos := "law.go:51", after := #[{ on := 2, ground := Go.Ground.data }, { on := 11, ground := Go.Ground.data }], guard := none }, { dst := some 131, op := Go.Op.move (Go.Operand.tmp 130), type := 4, pos := "law.go:51", after := #[{ on := 12, ground := Go.Ground.data }, { on := 10, ground := Go.Ground.chain }], guard := none }, { dst := some 132, op := Go.Op.move (Go.Operand.tmp 7), type := 23, pos := "law.go:51", after := #[{ on := 13, ground := Go.Ground.guard }], guard := some (13, false) }, { dst := some 133, op := Go.Op.fieldAddr 29 (Go.Operand.tmp 10) 2, type := 0, pos := "law.go:51", after := #[{ on := 13, ground := Go.Ground.guard }], guard := some (13, false) }, { dst := some 134, op := Go.Op.load 27 (Go.Operand.tmp 133), type := 27, pos := "law.go:51", after := #[{ on := 15, ground := Go.Ground.data }, { on := 13, ground := Go.Ground.guard }], guard := some (13, false) }, { dst := some 135, op := Go.Op.call { callee := Go.Callee.value (Go.Operand.func 26), args := #[Go.Operand.tmp 132, Go.Operand.tmp 134], argTypes := #[23, 27] }, type := 3, pos := "law.go:51", after := #[{ on := 14, ground := Go.Ground.data }, { on := 16, ground := Go.Ground.data }, { on := 13, ground := Go.Ground.chain }, { on := 13, ground := Go.Ground.guard }], guard := some (13, false) }, { dst := some 136, op := Go.Op.move (Go.Operand.tmp 8), type := 25, pos := "law.go:51", after := #[{ on := 13, ground := Go.Ground.guard }], guard := some (13, false) }, { dst := some 137, op := Go.Op.fieldAddr 29 (Go.Operand.tmp 10) 2, type := 0, pos := "law.go:51", after := #[{ on := 13, ground := Go.Ground.guard }], guard := some (13, false) }, { dst := some 138, op := Go.Op.load 27 (Go.Operand.tmp 137), type := 27, pos := "law.go:51", after := #[{ on := 19, ground := Go.Ground.data }, { on := 13, ground := Go.Ground.guard }], guard := some (13, false) }, { dst := some 139, op := Go.Op.call { callee := Go.Callee.value (Go.Operand.func 27), args := #[Go.Operand.tmp 136, Go.Operand.tmp 138], argTypes := #[25, 27] }, type := 3, pos := "law.go:51", after := #[{ on := 18, ground := Go.Ground.data }, { on := 20, ground := Go.Ground.data }, { on := 17, ground := Go.Ground.chain }, { on := 13, ground := Go.Ground.guard }], guard := some (13, false) }, { dst := some 140, op := Go.Op.binOp Go.BinOp.neq 3 (Go.Operand.tmp 135) (Go.Operand.tmp 139) 3, type := 4, pos := "law.go:51", after := #[{ on := 17, ground := Go.Ground.data }, { on := 21, ground := Go.Ground.data }, { on := 13, ground := Go.Ground.guard }], guard := some (13, false) }, { dst := some 141, op := Go.Op.pick (Go.Operand.tmp 131) (Go.Operand.const (Go.Value.bool true)) (Go.Operand.tmp 140), type := 4, pos := "law.go:51", after := #[{ on := 13, ground := Go.Ground.data }, { on := 22, ground := Go.Ground.data }], guard := none }, { dst := some 142, op := Go.Op.move (Go.Operand.tmp 141), type := 4, pos := "law.go:51", after := #[{ on := 23, ground := Go.Ground.data }, { on := 21, ground := Go.Ground.chain }], guard := none }, { dst := some 143, op := Go.Op.move (Go.Operand.tmp 7), type := 23, pos := "law.go:51", after := #[{ on := 24, ground := Go.Ground.guard }], guard := some (24, false) }, { dst := some 144, op := Go.Op.fieldAddr 29 (Go.Operand.tmp 10) 2, type := 0, pos := "law.go:51", after := #[{ on := 24, ground := Go.Ground.guard }], guard := some (24, false) }, { dst := some 145, op := Go.Op.load 27 (Go.Operand.tmp 144), type := 27, pos := "law.go:51", after := #[{ on := 26, ground := Go.Ground.data }, { on := 24, ground := Go.Ground.guard }], guard := some (24, false) }, { dst := some 146, op := Go.Op.call { callee := Go.Callee.value (Go.Operand.func 28), args := #[Go.Operand.tmp 143, Go.Operand.tmp 145], argTypes := #[23, 27] }, type := 5, pos := "law.go:51", after := #[{ on := 25, ground := Go.Ground.data }, { on := 27, ground := Go.Ground.data }, { on := 24, ground := Go.Ground.chain }, { on := 24, ground := Go.Ground.guard }], guard := some (24, false) }, { dst := some 147, op := Go.Op.move (Go.Operand.tmp 8), type := 25, pos := "law.go:51", after := #[{ on := 24, ground := Go.Ground.guard }], guard := some (24, false) }, { dst := some 148, op := Go.Op.fieldAddr 29 (Go.Operand.tmp 10) 2, type := 0, pos := "law.go:51", after := #[{ on := 24, ground := Go.Ground.guard }], guard := some (24, false) }, { dst := some 149, op := Go.Op.load 27 (Go.Operand.tmp 148), type := 27, pos := "law.go:51", after := #[{ on := 30, ground := Go.Ground.data }, { on := 24, ground := Go.Ground.guard }], guard := some (24, false) }, { dst := some 150, op := Go.Op.call { callee := Go.Callee.value (Go.Operand.func 29), args := #[Go.Operand.tmp 147, Go.Operand.tmp 149], argTypes := #[25, 27] }, type := 5, pos := "law.go:51", after := #[{ on := 29, ground := Go.Ground.data }, { on := 31, ground := Go.Ground.data }, { on := 28, ground := Go.Ground.chain }, { on := 24, ground := Go.Ground.guard }], guard := some (24, false) }, { dst := some 151, op := Go.Op.binOp Go.BinOp.neq 5 (Go.Operand.tmp 146) (Go.Operand.tmp 150) 5, type := 4, pos := "law.go:51", after := #[{ on := 28, ground := Go.Ground.data }, { on := 32, ground := Go.Ground.data }, { on := 24, ground := Go.Ground.guard }], guard := some (24, false) }, { dst := some 152, op := Go.Op.pick (Go.Operand.tmp 142) (Go.Operand.const (Go.Value.bool true)) (Go.Operand.tmp 151), type := 4, pos := "law.go:51", after := #[{ on := 24, ground := Go.Ground.data }, { on := 33, ground := Go.Ground.data }], guard := none }, { dst := some 153, op := Go.Op.move (Go.Operand.tmp 152), type := 4, pos := "law.go:51", after := #[{ on := 34, ground := Go.Ground.data }, { on := 32, ground := Go.Ground.chain }], guard := none }, { dst := some 154, op := Go.Op.move (Go.Operand.tmp 7), type := 23, pos := "law.go:51", after := #[{ on := 35, ground := Go.Ground.guard }], guard := some (35, false) }, { dst := some 155, op := Go.Op.fieldAddr 29 (Go.Operand.tmp 10) 2, type := 0, pos := "law.go:51", after := #[{ on := 35, ground := Go.Ground.guard }], guard := some (35, false) }, { dst := some 156, op := Go.Op.load 27 (Go.Operand.tmp 155), type := 27, pos := "law.go:51", after := #[{ on := 37, ground := Go.Ground.data }, { on := 35, ground := Go.Ground.guard }], guard := some (35, false) }, { dst := some 157, op := Go.Op.call { callee := Go.Callee.value (Go.Operand.func 30), args := #[Go.Operand.tmp 154, Go.Operand.tmp 156], argTypes := #[23, 27] }, type := 27, pos := "law.go:51", after := #[{ on := 36, ground := Go.Ground.data }, { on := 38, ground := Go.Ground.data }, { on := 35, ground := Go.Ground.chain }, { on := 35, ground := Go.Ground.guard }], guard := some (35, false) }, { dst := some 158, op := Go.Op.move (Go.Operand.tmp 8), type := 25, pos := "law.go:51", after := #[{ on := 35, ground := Go.Ground.guard }], guard := some (35, false) }, { dst := some 159, op := Go.Op.fieldAddr 29 (Go.Operand.tmp 10) 2, type := 0, pos := "law.go:51", after := #[{ on := 35, ground := Go.Ground.guard }], guard := some (35, false) }, { dst := some 160, op := Go.Op.load 27 (Go.Operand.tmp 159), type := 27, pos := "law.go:51", after := #[{ on := 41, ground := Go.Ground.data }, { on := 35, ground := Go.Ground.guard }], guard := some (35, false) }, { dst := some 161, op := Go.Op.call { callee := Go.Callee.value (Go.Operand.func 31), args := #[Go.Operand.tmp 158, Go.Operand.tmp 160], argTypes := #[25, 27] }, type := 27, pos := "law.go:51", after := #[{ on := 40, ground := Go.Ground.data }, { on := 42, ground := Go.Ground.data }, { on := 39, ground := Go.Ground.chain }, { on := 35, ground := Go.Ground.guard }], guard := some (35, false) }, { dst := some 162, op := Go.Op.binOp Go.BinOp.neq 27 (Go.Operand.tmp 157) (Go.Operand.tmp 161) 27, type := 4, pos := "law.go:51", after := #[{ on := 39, ground := Go.Ground.data }, { on := 43, ground := Go.Ground.data }, { on := 35, ground := Go.Ground.guard }], guard := some (35, false) }, { dst := some 163, op := Go.Op.pick (Go.Operand.tmp 153) (Go.Operand.const (Go.Value.bool true)) (Go.Operand.tmp 162), type := 4, pos := "law.go:51", after := #[{ on := 35, ground := Go.Ground.data }, { on := 44, ground := Go.Ground.data }], guard := none }, { dst := some 164, op := Go.Op.move (Go.Operand.tmp 163), type := 4, pos := "law.go:51", after := #[{ on := 45, ground := Go.Ground.data }, { on := 43, ground := Go.Ground.chain }], guard := none }, { dst := some 165, op := Go.Op.move (Go.Operand.tmp 7), type := 23, pos := "law.go:51", after := #[{ on := 46, ground := Go.Ground.guard }], guard := some (46, false) }, { dst := some 166, op := Go.Op.fieldAddr 29 (Go.Operand.tmp 10) 2, type := 0, pos := "law.go:51", after := #[{ on := 46, ground := Go.Ground.guard }], guard := some (46, false) }, { dst := some 167, op := Go.Op.load 27 (Go.Operand.tmp 166), type := 27, pos := "law.go:51", after := #[{ on := 48, ground := Go.Ground.data }, { on := 46, ground := Go.Ground.guard }], guard := some (46, false) }, { dst := some 168, op := Go.Op.call { callee := Go.Callee.value (Go.Operand.func 32), args := #[Go.Operand.tmp 165, Go.Operand.tmp 167], argTypes := #[23, 27] }, type := 4, pos := "law.go:51", after := #[{ on := 47, ground := Go.Ground.data }, { on := 49, ground := Go.Ground.data }, { on := 46, ground := Go.Ground.chain }, { on := 46, ground := Go.Ground.guard }], guard := some (46, false) }, { dst := some 169, op := Go.Op.move (Go.Operand.tmp 8), type := 25, pos := "law.go:51", after := #[{ on := 46, ground := Go.Ground.guard }], guard := some (46, false) }, { dst := some 170, op := Go.Op.fieldAddr 29 (Go.Operand.tmp 10) 2, type := 0, pos := "law.go:51", after := #[{ on := 46, ground := Go.Ground.guard }], guard := some (46, false) }, { dst := some 171, op := Go.Op.load 27 (Go.Operand.tmp 170), type := 27, pos := "law.go:51", after := #[{ on := 52, ground := Go.Ground.data }, { on := 46, ground := Go.Ground.guard }], guard := some (46, false) }, { dst := some 172, op := Go.Op.call { callee := Go.Callee.value (Go.Operand.func 33), args := #[Go.Operand.tmp 169, Go.Operand.tmp 171], argTypes := #[25, 27] }, type := 4, pos := "law.go:51", after := #[{ on := 51, ground := Go.Ground.data }, { on := 53, ground := Go.Ground.data }, { on := 50, ground := Go.Ground.chain }, { on := 46, ground := Go.Ground.guard }], guard := some (46, false) }, { dst := some 173, op := Go.Op.binOp Go.BinOp.neq 4 (Go.Operand.tmp 168) (Go.Operand.tmp 172) 4, type := 4, pos := "law.go:51", after := #[{ on := 50, ground := Go.Ground.data }, { on := 54, ground := Go.Ground.data }, { on := 46, ground := Go.Ground.guard }], guard := some (46, false) }, { dst := some 174, op := Go.Op.pick (Go.Operand.tmp 164) (Go.Operand.const (Go.Value.bool true)) (Go.Operand.tmp 173), type := 4, pos := "law.go:51", after := #[{ on := 46, ground := Go.Ground.data }, { on := 55, ground := Go.Ground.data }], guard := none }] true).wp Try.prog Q { tmps := #[y0, y1, y2, y3, y4, y5, y6, .pointer (some ⟨s'.mb, 0, none⟩), .pointer (some ⟨t'.m, 0, none⟩), y9, .pointer (some ⟨ob, 0, none⟩), .bool true, y12, y13, y14, y15, y16, y17, y18, y19, y20, y21, y22, y23, y24, y25, y26, y27, y28, y29, y30, y31, y32, y33, y34, y35, y36, y37, y38, y39, y40, y41, y42, y43, y44, y45, y46, y47, y48, y49, y50, y51, y52, y53, y54, y55, y56, y57, y58, y59, y60, y61, y62, y63, y64, y65, y66, y67, y68, y69, y70, y71, y72, y73, y74, y75, y76, y77, y78, y79, y80, y81, y82, y83, y84, y85, y86, y87, y88, y89, y90, y91, y92, y93, y94, y95, y96, y97, y98, y99, y100, y101, y102, y103, y104, y105, y106, y107, y108, y109, y110, y111, y112, y113, y114, y115, y116, y117, y118, y119, y120, y121, y122, y123, y124, y125, y126, y127, y128, y129, y130, y131, y132, y133, y134, y135, y136, y137, y138, y139, y140, y141, y142, y143, y144, y145, y146, y147, y148, y149, y150, y151, y152, y153, y154, y155, y156, y157, y158, y159, y160, y161, y162, y163, y164, y165, y166, y167, y168, y169, y170, y171, y172, y173, y174, y175, y176, y177, y178, y179, y180, y181, y182, y183, y184, y185, y186, y187, y188, y189, y190, y191, y192, y193, y194, y195, y196, y197, y198, y199, y200, y201, y202], defers := [] } wc := by
  refine wp_region_on later_below [118, 119, 120, 121, 122, 123, 124, 125, 126, 127, 128, 129, 130, 131, 132, 133, 134, 135, 136, 137, 138, 139, 140, 141, 142, 143, 144, 145, 146, 147, 148, 149, 150, 151, 152, 153, 154, 155, 156, 157, 158, 159, 160, 161, 162, 163, 164, 165, 166, 167, 168, 169, 170, 171, 172, 173, 174] 57 (phiOb s'.mb t'.m ob o md wav pmv pkv wdv) (by kernel_rfl) (by kernel_rfl) rfl rfl (phiOb_mono s'.mb t'.m ob o md wav pmv pkv wdv) ?_ hfin
  intro j hj xs w3 hxs hR hpre
  obtain ⟨x0, x1, x2, x3, x4, x5, x6, x7, x8, x9, x10, x11, x12, x13, x14, x15, x16, x17, x18, x19, x20, x21, x22, x23, x24, x25, x26, x27, x28, x29, x30, x31, x32, x33, x34, x35, x36, x37, x38, x39, x40, x41, x42, x43, x44, x45, x46, x47, x48, x49, x50, x51, x52, x53, x54, x55, x56, rfl⟩ := listE57 xs hxs
  have hbw3 : Below wc.heap.size wc w3 := hR
  have ho2 : w3.cell? ⟨ob, 2, none⟩ = some (.int .u32 (o.at_ : Int)) := ((Hid.out HBK).later hR).cell rfl
  rcases (show j = 0 ∨ j = 1 ∨ j = 2 ∨ j = 3 ∨ j = 4 ∨ j = 5 ∨ j = 6 ∨ j = 7 ∨ j = 8 ∨ j = 9 ∨ j = 10 ∨ j = 11 ∨ j = 12 ∨ j = 13 ∨ j = 14 ∨ j = 15 ∨ j = 16 ∨ j = 17 ∨ j = 18 ∨ j = 19 ∨ j = 20 ∨ j = 21 ∨ j = 22 ∨ j = 23 ∨ j = 24 ∨ j = 25 ∨ j = 26 ∨ j = 27 ∨ j = 28 ∨ j = 29 ∨ j = 30 ∨ j = 31 ∨ j = 32 ∨ j = 33 ∨ j = 34 ∨ j = 35 ∨ j = 36 ∨ j = 37 ∨ j = 38 ∨ j = 39 ∨ j = 40 ∨ j = 41 ∨ j = 42 ∨ j = 43 ∨ j = 44 ∨ j = 45 ∨ j = 46 ∨ j = 47 ∨ j = 48 ∨ j = 49 ∨ j = 50 ∨ j = 51 ∨ j = 52 ∨ j = 53 ∨ j = 54 ∨ j = 55 ∨ j = 56 by omega) with rfl | rfl | rfl | rfl | rfl | rfl | rfl | rfl | rfl | rfl | rfl | rfl | rfl | rfl | rfl | rfl | rfl | rfl | rfl | rfl | rfl | rfl | rfl | rfl | rfl | rfl | rfl | rfl | rfl | rfl | rfl | rfl | rfl | rfl | rfl | rfl | rfl | rfl | rfl | rfl | rfl | rfl | rfl | rfl | rfl | rfl | rfl | rfl | rfl | rfl | rfl | rfl | rfl | rfl | rfl | rfl | rfl
  · exact wpOp_run (.bool true) rfl (by kernel_rfl) (exec_move rfl (by kernel_rfl) w3) ⟨_, by kernel_rfl, rfl, Below.refl _ _⟩
  · have e0 : x0 = .bool true := hpre 0 (by kernel_rfl)
    subst e0
    exact wpOp_run (.bool false) rfl (by kernel_rfl) (by kernel_rfl) ⟨_, by kernel_rfl, rfl, Below.refl _ _⟩
  · have e1 : x1 = .bool false := hpre 1 (by kernel_rfl)
    subst e1
    exact wpOp_run (.bool false) rfl (by kernel_rfl) (exec_move rfl (by kernel_rfl) w3) ⟨_, by kernel_rfl, rfl, Below.refl _ _⟩
  · have e2 : x2 = .bool false := hpre 2 (by kernel_rfl)
    subst e2
    exact wpOp_run (.pointer (some ⟨s'.mb, 0, none⟩)) rfl (by kernel_rfl) (exec_move rfl (by kernel_rfl) w3) ⟨_, by kernel_rfl, rfl, Below.refl _ _⟩
  · have e2 : x2 = .bool false := hpre 2 (by kernel_rfl)
    subst e2
    exact wpOp_run (.pointer (some ⟨ob, 2, none⟩)) rfl (by kernel_rfl) (by kernel_rfl) ⟨_, by kernel_rfl, rfl, Below.refl _ _⟩
  · have e2 : x2 = .bool false := hpre 2 (by kernel_rfl)
    subst e2
    have e4 : x4 = .pointer (some ⟨ob, 2, none⟩) := hpre 4 (by kernel_rfl)
    subst e4
    exact wpOp_run (.int .u32 (o.at_ : Int)) rfl (by kernel_rfl) (exec_load 27 rfl (by kernel_rfl) w3 (load27 ho2)) ⟨_, by kernel_rfl, rfl, Below.refl _ _⟩
  · have e2 : x2 = .bool false := hpre 2 (by kernel_rfl)
    subst e2
    have e3 : x3 = .pointer (some ⟨s'.mb, 0, none⟩) := hpre 3 (by kernel_rfl)
    subst e3
    have e5 : x5 = .int .u32 (o.at_ : Int) := hpre 5 (by kernel_rfl)
    subst e5
    refine wpOp_callR (R := fun u w4 => u = .bool md ∧ Below w3.heap.size w3 w4) 24 #[.pointer (some ⟨s'.mb, 0, none⟩), .int .u32 (o.at_ : Int)] rfl (by kernel_rfl) (by kernel_rfl) ((Hid.out HQ24 w3 hbw3).mono fun e w4 ⟨he, hb⟩ => ⟨_, he, rfl, hb⟩) ?_
    rintro _ w4 ⟨rfl, hb⟩
    exact ⟨_, by kernel_rfl, rfl, hb⟩
  · have e2 : x2 = .bool false := hpre 2 (by kernel_rfl)
    subst e2
    exact wpOp_run (.pointer (some ⟨t'.m, 0, none⟩)) rfl (by kernel_rfl) (exec_move rfl (by kernel_rfl) w3) ⟨_, by kernel_rfl, rfl, Below.refl _ _⟩
  · have e2 : x2 = .bool false := hpre 2 (by kernel_rfl)
    subst e2
    exact wpOp_run (.pointer (some ⟨ob, 2, none⟩)) rfl (by kernel_rfl) (by kernel_rfl) ⟨_, by kernel_rfl, rfl, Below.refl _ _⟩
  · have e2 : x2 = .bool false := hpre 2 (by kernel_rfl)
    subst e2
    have e8 : x8 = .pointer (some ⟨ob, 2, none⟩) := hpre 8 (by kernel_rfl)
    subst e8
    exact wpOp_run (.int .u32 (o.at_ : Int)) rfl (by kernel_rfl) (exec_load 27 rfl (by kernel_rfl) w3 (load27 ho2)) ⟨_, by kernel_rfl, rfl, Below.refl _ _⟩
  · have e2 : x2 = .bool false := hpre 2 (by kernel_rfl)
    subst e2
    have e7 : x7 = .pointer (some ⟨t'.m, 0, none⟩) := hpre 7 (by kernel_rfl)
    subst e7
    have e9 : x9 = .int .u32 (o.at_ : Int) := hpre 9 (by kernel_rfl)
    subst e9
    refine wpOp_callR (R := fun u w4 => u = .bool md ∧ Below w3.heap.size w3 w4) 25 #[.pointer (some ⟨t'.m, 0, none⟩), .int .u32 (o.at_ : Int)] rfl (by kernel_rfl) (by kernel_rfl) ((Hid.out HQ25 w3 hbw3).mono fun e w4 ⟨he, hb⟩ => ⟨_, he, rfl, hb⟩) ?_
    rintro _ w4 ⟨rfl, hb⟩
    exact ⟨_, by kernel_rfl, rfl, hb⟩
  · have e2 : x2 = .bool false := hpre 2 (by kernel_rfl)
    subst e2
    have e6 : x6 = .bool md := hpre 6 (by kernel_rfl)
    subst e6
    have e10 : x10 = .bool md := hpre 10 (by kernel_rfl)
    subst e10
    exact wpOp_run (.bool false) rfl (by kernel_rfl) (exec_neqB (b := md) rfl (by kernel_rfl) (by kernel_rfl) w3) ⟨_, by kernel_rfl, rfl, Below.refl _ _⟩
  · have e2 : x2 = .bool false := hpre 2 (by kernel_rfl)
    subst e2
    have e11 : x11 = .bool false := hpre 11 (by kernel_rfl)
    subst e11
    exact wpOp_run (.bool false) rfl (by kernel_rfl) (by kernel_rfl) ⟨_, by kernel_rfl, rfl, Below.refl _ _⟩
  · have e12 : x12 = .bool false := hpre 12 (by kernel_rfl)
    subst e12
    exact wpOp_run (.bool false) rfl (by kernel_rfl) (exec_move rfl (by kernel_rfl) w3) ⟨_, by kernel_rfl, rfl, Below.refl _ _⟩
  · have e13 : x13 = .bool false := hpre 13 (by kernel_rfl)
    subst e13
    exact wpOp_run (.pointer (some ⟨s'.mb, 0, none⟩)) rfl (by kernel_rfl) (exec_move rfl (by kernel_rfl) w3) ⟨_, by kernel_rfl, rfl, Below.refl _ _⟩
  · have e13 : x13 = .bool false := hpre 13 (by kernel_rfl)
    subst e13
    exact wpOp_run (.pointer (some ⟨ob, 2, none⟩)) rfl (by kernel_rfl) (by kernel_rfl) ⟨_, by kernel_rfl, rfl, Below.refl _ _⟩
  · have e13 : x13 = .bool false := hpre 13 (by kernel_rfl)
    subst e13
    have e15 : x15 = .pointer (some ⟨ob, 2, none⟩) := hpre 15 (by kernel_rfl)
    subst e15
    exact wpOp_run (.int .u32 (o.at_ : Int)) rfl (by kernel_rfl) (exec_load 27 rfl (by kernel_rfl) w3 (load27 ho2)) ⟨_, by kernel_rfl, rfl, Below.refl _ _⟩
  · have e13 : x13 = .bool false := hpre 13 (by kernel_rfl)
    subst e13
    have e14 : x14 = .pointer (some ⟨s'.mb, 0, none⟩) := hpre 14 (by kernel_rfl)
    subst e14
    have e16 : x16 = .int .u32 (o.at_ : Int) := hpre 16 (by kernel_rfl)
    subst e16
    refine wpOp_callR (R := fun u w4 => u = .int .i64 pmv ∧ Below w3.heap.size w3 w4) 26 #[.pointer (some ⟨s'.mb, 0, none⟩), .int .u32 (o.at_ : Int)] rfl (by kernel_rfl) (by kernel_rfl) ((Hid.out HQ26 w3 hbw3).mono fun e w4 ⟨he, hb⟩ => ⟨_, he, rfl, hb⟩) ?_
    rintro _ w4 ⟨rfl, hb⟩
    exact ⟨_, by kernel_rfl, rfl, hb⟩
  · have e13 : x13 = .bool false := hpre 13 (by kernel_rfl)
    subst e13
    exact wpOp_run (.pointer (some ⟨t'.m, 0, none⟩)) rfl (by kernel_rfl) (exec_move rfl (by kernel_rfl) w3) ⟨_, by kernel_rfl, rfl, Below.refl _ _⟩
  · have e13 : x13 = .bool false := hpre 13 (by kernel_rfl)
    subst e13
    exact wpOp_run (.pointer (some ⟨ob, 2, none⟩)) rfl (by kernel_rfl) (by kernel_rfl) ⟨_, by kernel_rfl, rfl, Below.refl _ _⟩
  · have e13 : x13 = .bool false := hpre 13 (by kernel_rfl)
    subst e13
    have e19 : x19 = .pointer (some ⟨ob, 2, none⟩) := hpre 19 (by kernel_rfl)
    subst e19
    exact wpOp_run (.int .u32 (o.at_ : Int)) rfl (by kernel_rfl) (exec_load 27 rfl (by kernel_rfl) w3 (load27 ho2)) ⟨_, by kernel_rfl, rfl, Below.refl _ _⟩
  · have e13 : x13 = .bool false := hpre 13 (by kernel_rfl)
    subst e13
    have e18 : x18 = .pointer (some ⟨t'.m, 0, none⟩) := hpre 18 (by kernel_rfl)
    subst e18
    have e20 : x20 = .int .u32 (o.at_ : Int) := hpre 20 (by kernel_rfl)
    subst e20
    refine wpOp_callR (R := fun u w4 => u = .int .i64 pmv ∧ Below w3.heap.size w3 w4) 27 #[.pointer (some ⟨t'.m, 0, none⟩), .int .u32 (o.at_ : Int)] rfl (by kernel_rfl) (by kernel_rfl) ((Hid.out HQ27 w3 hbw3).mono fun e w4 ⟨he, hb⟩ => ⟨_, he, rfl, hb⟩) ?_
    rintro _ w4 ⟨rfl, hb⟩
    exact ⟨_, by kernel_rfl, rfl, hb⟩
  · have e13 : x13 = .bool false := hpre 13 (by kernel_rfl)
    subst e13
    have e17 : x17 = .int .i64 pmv := hpre 17 (by kernel_rfl)
    subst e17
    have e21 : x21 = .int .i64 pmv := hpre 21 (by kernel_rfl)
    subst e21
    exact wpOp_run (.bool false) rfl (by kernel_rfl) (exec_neq (n := pmv) 3 rfl Try.underlying3 (by kernel_rfl) (by kernel_rfl) w3) ⟨_, by kernel_rfl, rfl, Below.refl _ _⟩
  · have e13 : x13 = .bool false := hpre 13 (by kernel_rfl)
    subst e13
    have e22 : x22 = .bool false := hpre 22 (by kernel_rfl)
    subst e22
    exact wpOp_run (.bool false) rfl (by kernel_rfl) (by kernel_rfl) ⟨_, by kernel_rfl, rfl, Below.refl _ _⟩
  · have e23 : x23 = .bool false := hpre 23 (by kernel_rfl)
    subst e23
    exact wpOp_run (.bool false) rfl (by kernel_rfl) (exec_move rfl (by kernel_rfl) w3) ⟨_, by kernel_rfl, rfl, Below.refl _ _⟩
  · have e24 : x24 = .bool false := hpre 24 (by kernel_rfl)
    subst e24
    exact wpOp_run (.pointer (some ⟨s'.mb, 0, none⟩)) rfl (by kernel_rfl) (exec_move rfl (by kernel_rfl) w3) ⟨_, by kernel_rfl, rfl, Below.refl _ _⟩
  · have e24 : x24 = .bool false := hpre 24 (by kernel_rfl)
    subst e24
    exact wpOp_run (.pointer (some ⟨ob, 2, none⟩)) rfl (by kernel_rfl) (by kernel_rfl) ⟨_, by kernel_rfl, rfl, Below.refl _ _⟩
  · have e24 : x24 = .bool false := hpre 24 (by kernel_rfl)
    subst e24
    have e26 : x26 = .pointer (some ⟨ob, 2, none⟩) := hpre 26 (by kernel_rfl)
    subst e26
    exact wpOp_run (.int .u32 (o.at_ : Int)) rfl (by kernel_rfl) (exec_load 27 rfl (by kernel_rfl) w3 (load27 ho2)) ⟨_, by kernel_rfl, rfl, Below.refl _ _⟩
  · have e24 : x24 = .bool false := hpre 24 (by kernel_rfl)
    subst e24
    have e25 : x25 = .pointer (some ⟨s'.mb, 0, none⟩) := hpre 25 (by kernel_rfl)
    subst e25
    have e27 : x27 = .int .u32 (o.at_ : Int) := hpre 27 (by kernel_rfl)
    subst e27
    refine wpOp_callR (R := fun u w4 => u = .int .u8 pkv ∧ Below w3.heap.size w3 w4) 28 #[.pointer (some ⟨s'.mb, 0, none⟩), .int .u32 (o.at_ : Int)] rfl (by kernel_rfl) (by kernel_rfl) ((Hid.out HQ28 w3 hbw3).mono fun e w4 ⟨he, hb⟩ => ⟨_, he, rfl, hb⟩) ?_
    rintro _ w4 ⟨rfl, hb⟩
    exact ⟨_, by kernel_rfl, rfl, hb⟩
  · have e24 : x24 = .bool false := hpre 24 (by kernel_rfl)
    subst e24
    exact wpOp_run (.pointer (some ⟨t'.m, 0, none⟩)) rfl (by kernel_rfl) (exec_move rfl (by kernel_rfl) w3) ⟨_, by kernel_rfl, rfl, Below.refl _ _⟩
  · have e24 : x24 = .bool false := hpre 24 (by kernel_rfl)
    subst e24
    exact wpOp_run (.pointer (some ⟨ob, 2, none⟩)) rfl (by kernel_rfl) (by kernel_rfl) ⟨_, by kernel_rfl, rfl, Below.refl _ _⟩
  · have e24 : x24 = .bool false := hpre 24 (by kernel_rfl)
    subst e24
    have e30 : x30 = .pointer (some ⟨ob, 2, none⟩) := hpre 30 (by kernel_rfl)
    subst e30
    exact wpOp_run (.int .u32 (o.at_ : Int)) rfl (by kernel_rfl) (exec_load 27 rfl (by kernel_rfl) w3 (load27 ho2)) ⟨_, by kernel_rfl, rfl, Below.refl _ _⟩
  · have e24 : x24 = .bool false := hpre 24 (by kernel_rfl)
    subst e24
    have e29 : x29 = .pointer (some ⟨t'.m, 0, none⟩) := hpre 29 (by kernel_rfl)
    subst e29
    have e31 : x31 = .int .u32 (o.at_ : Int) := hpre 31 (by kernel_rfl)
    subst e31
    refine wpOp_callR (R := fun u w4 => u = .int .u8 pkv ∧ Below w3.heap.size w3 w4) 29 #[.pointer (some ⟨t'.m, 0, none⟩), .int .u32 (o.at_ : Int)] rfl (by kernel_rfl) (by kernel_rfl) ((Hid.out HQ29 w3 hbw3).mono fun e w4 ⟨he, hb⟩ => ⟨_, he, rfl, hb⟩) ?_
    rintro _ w4 ⟨rfl, hb⟩
    exact ⟨_, by kernel_rfl, rfl, hb⟩
  · have e24 : x24 = .bool false := hpre 24 (by kernel_rfl)
    subst e24
    have e28 : x28 = .int .u8 pkv := hpre 28 (by kernel_rfl)
    subst e28
    have e32 : x32 = .int .u8 pkv := hpre 32 (by kernel_rfl)
    subst e32
    exact wpOp_run (.bool false) rfl (by kernel_rfl) (exec_neq (n := pkv) 5 rfl Try.underlying5 (by kernel_rfl) (by kernel_rfl) w3) ⟨_, by kernel_rfl, rfl, Below.refl _ _⟩
  · have e24 : x24 = .bool false := hpre 24 (by kernel_rfl)
    subst e24
    have e33 : x33 = .bool false := hpre 33 (by kernel_rfl)
    subst e33
    exact wpOp_run (.bool false) rfl (by kernel_rfl) (by kernel_rfl) ⟨_, by kernel_rfl, rfl, Below.refl _ _⟩
  · have e34 : x34 = .bool false := hpre 34 (by kernel_rfl)
    subst e34
    exact wpOp_run (.bool false) rfl (by kernel_rfl) (exec_move rfl (by kernel_rfl) w3) ⟨_, by kernel_rfl, rfl, Below.refl _ _⟩
  · have e35 : x35 = .bool false := hpre 35 (by kernel_rfl)
    subst e35
    exact wpOp_run (.pointer (some ⟨s'.mb, 0, none⟩)) rfl (by kernel_rfl) (exec_move rfl (by kernel_rfl) w3) ⟨_, by kernel_rfl, rfl, Below.refl _ _⟩
  · have e35 : x35 = .bool false := hpre 35 (by kernel_rfl)
    subst e35
    exact wpOp_run (.pointer (some ⟨ob, 2, none⟩)) rfl (by kernel_rfl) (by kernel_rfl) ⟨_, by kernel_rfl, rfl, Below.refl _ _⟩
  · have e35 : x35 = .bool false := hpre 35 (by kernel_rfl)
    subst e35
    have e37 : x37 = .pointer (some ⟨ob, 2, none⟩) := hpre 37 (by kernel_rfl)
    subst e37
    exact wpOp_run (.int .u32 (o.at_ : Int)) rfl (by kernel_rfl) (exec_load 27 rfl (by kernel_rfl) w3 (load27 ho2)) ⟨_, by kernel_rfl, rfl, Below.refl _ _⟩
  · have e35 : x35 = .bool false := hpre 35 (by kernel_rfl)
    subst e35
    have e36 : x36 = .pointer (some ⟨s'.mb, 0, none⟩) := hpre 36 (by kernel_rfl)
    subst e36
    have e38 : x38 = .int .u32 (o.at_ : Int) := hpre 38 (by kernel_rfl)
    subst e38
    refine wpOp_callR (R := fun u w4 => u = .int .u32 wdv ∧ Below w3.heap.size w3 w4) 30 #[.pointer (some ⟨s'.mb, 0, none⟩), .int .u32 (o.at_ : Int)] rfl (by kernel_rfl) (by kernel_rfl) ((Hid.out HQ30 w3 hbw3).mono fun e w4 ⟨he, hb⟩ => ⟨_, he, rfl, hb⟩) ?_
    rintro _ w4 ⟨rfl, hb⟩
    exact ⟨_, by kernel_rfl, rfl, hb⟩
  · have e35 : x35 = .bool false := hpre 35 (by kernel_rfl)
    subst e35
    exact wpOp_run (.pointer (some ⟨t'.m, 0, none⟩)) rfl (by kernel_rfl) (exec_move rfl (by kernel_rfl) w3) ⟨_, by kernel_rfl, rfl, Below.refl _ _⟩
  · have e35 : x35 = .bool false := hpre 35 (by kernel_rfl)
    subst e35
    exact wpOp_run (.pointer (some ⟨ob, 2, none⟩)) rfl (by kernel_rfl) (by kernel_rfl) ⟨_, by kernel_rfl, rfl, Below.refl _ _⟩
  · have e35 : x35 = .bool false := hpre 35 (by kernel_rfl)
    subst e35
    have e41 : x41 = .pointer (some ⟨ob, 2, none⟩) := hpre 41 (by kernel_rfl)
    subst e41
    exact wpOp_run (.int .u32 (o.at_ : Int)) rfl (by kernel_rfl) (exec_load 27 rfl (by kernel_rfl) w3 (load27 ho2)) ⟨_, by kernel_rfl, rfl, Below.refl _ _⟩
  · have e35 : x35 = .bool false := hpre 35 (by kernel_rfl)
    subst e35
    have e40 : x40 = .pointer (some ⟨t'.m, 0, none⟩) := hpre 40 (by kernel_rfl)
    subst e40
    have e42 : x42 = .int .u32 (o.at_ : Int) := hpre 42 (by kernel_rfl)
    subst e42
    refine wpOp_callR (R := fun u w4 => u = .int .u32 wdv ∧ Below w3.heap.size w3 w4) 31 #[.pointer (some ⟨t'.m, 0, none⟩), .int .u32 (o.at_ : Int)] rfl (by kernel_rfl) (by kernel_rfl) ((Hid.out HQ31 w3 hbw3).mono fun e w4 ⟨he, hb⟩ => ⟨_, he, rfl, hb⟩) ?_
    rintro _ w4 ⟨rfl, hb⟩
    exact ⟨_, by kernel_rfl, rfl, hb⟩
  · have e35 : x35 = .bool false := hpre 35 (by kernel_rfl)
    subst e35
    have e39 : x39 = .int .u32 wdv := hpre 39 (by kernel_rfl)
    subst e39
    have e43 : x43 = .int .u32 wdv := hpre 43 (by kernel_rfl)
    subst e43
    exact wpOp_run (.bool false) rfl (by kernel_rfl) (exec_neq (n := wdv) 27 rfl Try.underlying27 (by kernel_rfl) (by kernel_rfl) w3) ⟨_, by kernel_rfl, rfl, Below.refl _ _⟩
  · have e35 : x35 = .bool false := hpre 35 (by kernel_rfl)
    subst e35
    have e44 : x44 = .bool false := hpre 44 (by kernel_rfl)
    subst e44
    exact wpOp_run (.bool false) rfl (by kernel_rfl) (by kernel_rfl) ⟨_, by kernel_rfl, rfl, Below.refl _ _⟩
  · have e45 : x45 = .bool false := hpre 45 (by kernel_rfl)
    subst e45
    exact wpOp_run (.bool false) rfl (by kernel_rfl) (exec_move rfl (by kernel_rfl) w3) ⟨_, by kernel_rfl, rfl, Below.refl _ _⟩
  · have e46 : x46 = .bool false := hpre 46 (by kernel_rfl)
    subst e46
    exact wpOp_run (.pointer (some ⟨s'.mb, 0, none⟩)) rfl (by kernel_rfl) (exec_move rfl (by kernel_rfl) w3) ⟨_, by kernel_rfl, rfl, Below.refl _ _⟩
  · have e46 : x46 = .bool false := hpre 46 (by kernel_rfl)
    subst e46
    exact wpOp_run (.pointer (some ⟨ob, 2, none⟩)) rfl (by kernel_rfl) (by kernel_rfl) ⟨_, by kernel_rfl, rfl, Below.refl _ _⟩
  · have e46 : x46 = .bool false := hpre 46 (by kernel_rfl)
    subst e46
    have e48 : x48 = .pointer (some ⟨ob, 2, none⟩) := hpre 48 (by kernel_rfl)
    subst e48
    exact wpOp_run (.int .u32 (o.at_ : Int)) rfl (by kernel_rfl) (exec_load 27 rfl (by kernel_rfl) w3 (load27 ho2)) ⟨_, by kernel_rfl, rfl, Below.refl _ _⟩
  · have e46 : x46 = .bool false := hpre 46 (by kernel_rfl)
    subst e46
    have e47 : x47 = .pointer (some ⟨s'.mb, 0, none⟩) := hpre 47 (by kernel_rfl)
    subst e47
    have e49 : x49 = .int .u32 (o.at_ : Int) := hpre 49 (by kernel_rfl)
    subst e49
    refine wpOp_callR (R := fun u w4 => u = .bool wav ∧ Below w3.heap.size w3 w4) 32 #[.pointer (some ⟨s'.mb, 0, none⟩), .int .u32 (o.at_ : Int)] rfl (by kernel_rfl) (by kernel_rfl) ((Hid.out HQ32 w3 hbw3).mono fun e w4 ⟨he, hb⟩ => ⟨_, he, rfl, hb⟩) ?_
    rintro _ w4 ⟨rfl, hb⟩
    exact ⟨_, by kernel_rfl, rfl, hb⟩
  · have e46 : x46 = .bool false := hpre 46 (by kernel_rfl)
    subst e46
    exact wpOp_run (.pointer (some ⟨t'.m, 0, none⟩)) rfl (by kernel_rfl) (exec_move rfl (by kernel_rfl) w3) ⟨_, by kernel_rfl, rfl, Below.refl _ _⟩
  · have e46 : x46 = .bool false := hpre 46 (by kernel_rfl)
    subst e46
    exact wpOp_run (.pointer (some ⟨ob, 2, none⟩)) rfl (by kernel_rfl) (by kernel_rfl) ⟨_, by kernel_rfl, rfl, Below.refl _ _⟩
  · have e46 : x46 = .bool false := hpre 46 (by kernel_rfl)
    subst e46
    have e52 : x52 = .pointer (some ⟨ob, 2, none⟩) := hpre 52 (by kernel_rfl)
    subst e52
    exact wpOp_run (.int .u32 (o.at_ : Int)) rfl (by kernel_rfl) (exec_load 27 rfl (by kernel_rfl) w3 (load27 ho2)) ⟨_, by kernel_rfl, rfl, Below.refl _ _⟩
  · have e46 : x46 = .bool false := hpre 46 (by kernel_rfl)
    subst e46
    have e51 : x51 = .pointer (some ⟨t'.m, 0, none⟩) := hpre 51 (by kernel_rfl)
    subst e51
    have e53 : x53 = .int .u32 (o.at_ : Int) := hpre 53 (by kernel_rfl)
    subst e53
    refine wpOp_callR (R := fun u w4 => u = .bool wav ∧ Below w3.heap.size w3 w4) 33 #[.pointer (some ⟨t'.m, 0, none⟩), .int .u32 (o.at_ : Int)] rfl (by kernel_rfl) (by kernel_rfl) ((Hid.out HQ33 w3 hbw3).mono fun e w4 ⟨he, hb⟩ => ⟨_, he, rfl, hb⟩) ?_
    rintro _ w4 ⟨rfl, hb⟩
    exact ⟨_, by kernel_rfl, rfl, hb⟩
  · have e46 : x46 = .bool false := hpre 46 (by kernel_rfl)
    subst e46
    have e50 : x50 = .bool wav := hpre 50 (by kernel_rfl)
    subst e50
    have e54 : x54 = .bool wav := hpre 54 (by kernel_rfl)
    subst e54
    exact wpOp_run (.bool false) rfl (by kernel_rfl) (exec_neqB (b := wav) rfl (by kernel_rfl) (by kernel_rfl) w3) ⟨_, by kernel_rfl, rfl, Below.refl _ _⟩
  · have e46 : x46 = .bool false := hpre 46 (by kernel_rfl)
    subst e46
    have e55 : x55 = .bool false := hpre 55 (by kernel_rfl)
    subst e55
    exact wpOp_run (.bool false) rfl (by kernel_rfl) (by kernel_rfl) ⟨_, by kernel_rfl, rfl, Below.refl _ _⟩
set_option maxRecDepth 20000 in
set_option maxHeartbeats 4000000 in
theorem region28 {Q : Exit → Act → World → Prop} {y0 y1 y3 y4 y5 y6 y9 y11 y12 y13 y14 y15 y16 y17 y18 y19 y20 y21 y22 y23 y24 y25 y26 y27 y28 y29 y30 y31 y32 y33 y34 y35 y36 y37 y38 y39 y40 y41 y42 y43 y44 y45 y46 y47 y48 y49 y50 y51 y52 y53 y54 y55 y56 y57 y58 y59 y60 y61 y62 y63 y64 y65 y66 y67 y68 y69 y70 y71 y72 y73 y74 y75 y76 y77 y78 y79 y80 y81 y82 y83 y84 y85 y86 y87 y88 y89 y90 y91 y92 y93 y94 y95 y96 y97 y98 y99 y100 y101 y102 y103 y104 y105 y106 y107 y108 y109 y110 y111 y112 y113 y114 y115 y116 y117 y118 y119 y120 y121 y122 y123 y124 y125 y126 y127 y128 y129 y130 y131 y132 y133 y134 y135 y136 y137 y138 y139 y140 y141 y142 y143 y144 y145 y146 y147 y148 y149 y150 y151 y152 y153 y154 y155 y156 y157 y158 y159 y160 y161 y162 y163 y164 y165 y166 y167 y168 y169 y170 y171 y172 y173 y174 y175 y176 y177 y178 y179 y180 y181 y182 y183 y184 y185 y186 y187 y188 y189 y190 y191 y192 y193 y194 y195 y196 y197 y198 y199 y200 y201 y202 : Value} (w wd : World) (s' : MS) (t' : S5) (ob N : Nat) (o : Op4) (n : Int) (d : List UInt8) (hN : n % 1024 = (N : Int)) (HD5 : Hid (DB w wd s' t' ob #[.int .i64 o.kd, .int .i64 o.pm, .int .u32 (o.at_ : Int), .int .u8 (o.v.toNat : Int)]))
    (HB1 : Hid (∀ u, Below wd.heap.size wd u → Calls Try.prog 34 #[.pointer (some ⟨s'.mb, 0, none⟩), .int .u32 (o.at_ : Int), .int .i64 (N : Int)] u fun e w' => ∃ a c, e = .returned (.slice a d.length c) ∧ Row w' a d c ∧ Below u.heap.size u w'))
    (HB2 : Hid (∀ u, Below wd.heap.size wd u → Calls Try.prog 35 #[.pointer (some ⟨t'.m, 0, none⟩), .int .u32 (o.at_ : Int), .int .i64 (N : Int)] u fun e w' => ∃ a c, e = .returned (.slice a d.length c) ∧ Row w' a d c ∧ Below u.heap.size u w'))
    (hfin : ∀ xs w3, xs.length = 15 → Below wd.heap.size wd w3 → (∀ i, i < 15 → phiBy s'.mb t'.m ob N o n d i (xs.getD i undef) w3) → Q .normal (slotsOn { tmps := #[y0, y1, .int .i64 n, y3, y4, y5, y6, .pointer (some ⟨s'.mb, 0, none⟩), .pointer (some ⟨t'.m, 0, none⟩), y9, .pointer (some ⟨ob, 0, none⟩), y11, y12, y13, y14, y15, y16, y17, y18, y19, y20, y21, y22, y23, y24, y25, y26, y27, y28, y29, y30, y31, y32, y33, y34, y35, y36, y37, y38, y39, y40, y41, y42, y43, y44, y45, y46, y47, y48, y49, y50, y51, y52, y53, y54, y55, y56, y57, y58, y59, y60, y61, y62, y63, y64, y65, y66, y67, y68, y69, y70, y71, y72, y73, y74, y75, y76, y77, y78, y79, y80, y81, y82, y83, y84, y85, y86, y87, y88, y89, y90, y91, y92, y93, y94, y95, y96, y97, y98, y99, y100, y101, y102, y103, y104, y105, y106, y107, y108, y109, y110, y111, y112, y113, y114, y115, y116, y117, y118, y119, y120, y121, y122, y123, y124, y125, y126, y127, y128, y129, y130, y131, y132, y133, y134, y135, y136, y137, y138, y139, y140, y141, y142, y143, y144, y145, y146, y147, y148, y149, y150, y151, y152, y153, y154, y155, y156, y157, y158, y159, y160, y161, y162, y163, y164, y165, y166, y167, y168, y169, y170, y171, y172, y173, y174, y175, y176, y177, y178, y179, y180, y181, y182, y183, y184, y185, y186, y187, y188, y189, y190, y191, y192, y193, y194, y195, y196, y197, y198, y199, y200, y201, y202], defers := [] } [175, 176, 177, 178, 179, 180, 181, 182, 183, 184, 185, 186, 187, 188, 189] xs) w3) :
    (Code.region 28 #[{ dst := some 175, op := Go.Op.move (Go.Operand.tmp 7), type := 23, pos := "law.go:54", after := #[], guard := none }, { dst := some 176, op := Go.Op.fieldAddr 29 (Go.Operand.tmp 10) 2, type := 0, pos := "law.go:54", after := #[], guard := none }, { dst := some 177, op := Go.Op.load 27 (Go.Operand.tmp 176), type := 27, pos := "law.go:54", after := #[{ on := 1, ground := Go.Ground.data }], guard := none }, { dst := some 178, op := Go.Op.move (Go.Operand.tmp 2), type := 3, pos := "law.go:54", after := #[], guard := none }, { dst := some 179, op := Go.Op.binOp Go.BinOp.and 3 (Go.Operand.tmp 178) (Go.Operand.const (Go.Value.int Go.IntKind.i64 1023)) 3, type := 3, pos := "law.go:54", after := #[{ on := 3, ground := Go.Ground.data }], guard := none }, { dst := some 180, op := Go.Op.call { callee := Go.Callee.value (Go.Operand.func 34), args := #[Go.Operand.tmp 175, Go.Operand.tmp 177, Go.Operand.tmp 179], argTypes := #[23, 27, 3] }, type := 45, pos := "law.go:54", after := #[{ on := 0, ground := Go.Ground.data }, { on := 2, ground := Go.Ground.data }, { on := 4, ground := Go.Ground.data }], guard := none }, { dst := some 181, op := Go.Op.convert 45 9 (Go.Operand.tmp 180), type := 9, pos := "law.go:54", after := #[{ on := 5, ground := Go.Ground.data }], guard := none }, { dst := some 182, op := Go.Op.move (Go.Operand.tmp 8), type := 25, pos := "law.go:54", after := #[], guard := none }, { dst := some 183, op := Go.Op.fieldAddr 29 (Go.Operand.tmp 10) 2, type := 0, pos := "law.go:54", after := #[], guard := none }, { dst := some 184, op := Go.Op.load 27 (Go.Operand.tmp 183), type := 27, pos := "law.go:54", after := #[{ on := 8, ground := Go.Ground.data }], guard := none }, { dst := some 185, op := Go.Op.move (Go.Operand.tmp 2), type := 3, pos := "law.go:54", after := #[], guard := none }, { dst := some 186, op := Go.Op.binOp Go.BinOp.and 3 (Go.Operand.tmp 185) (Go.Operand.const (Go.Value.int Go.IntKind.i64 1023)) 3, type := 3, pos := "law.go:54", after := #[{ on := 10, ground := Go.Ground.data }], guard := none }, { dst := some 187, op := Go.Op.call { callee := Go.Callee.value (Go.Operand.func 35), args := #[Go.Operand.tmp 182, Go.Operand.tmp 184, Go.Operand.tmp 186], argTypes := #[25, 27, 3] }, type := 45, pos := "law.go:54", after := #[{ on := 7, ground := Go.Ground.data }, { on := 9, ground := Go.Ground.data }, { on := 11, ground := Go.Ground.data }, { on := 5, ground := Go.Ground.chain }], guard := none }, { dst := some 188, op := Go.Op.convert 45 9 (Go.Operand.tmp 187), type := 9, pos := "law.go:54", after := #[{ on := 12, ground := Go.Ground.data }], guard := none }, { dst := some 189, op := Go.Op.binOp Go.BinOp.neq 9 (Go.Operand.tmp 181) (Go.Operand.tmp 188) 9, type := 4, pos := "law.go:54", after := #[{ on := 6, ground := Go.Ground.data }, { on := 13, ground := Go.Ground.data }], guard := none }] true).wp Try.prog Q { tmps := #[y0, y1, .int .i64 n, y3, y4, y5, y6, .pointer (some ⟨s'.mb, 0, none⟩), .pointer (some ⟨t'.m, 0, none⟩), y9, .pointer (some ⟨ob, 0, none⟩), y11, y12, y13, y14, y15, y16, y17, y18, y19, y20, y21, y22, y23, y24, y25, y26, y27, y28, y29, y30, y31, y32, y33, y34, y35, y36, y37, y38, y39, y40, y41, y42, y43, y44, y45, y46, y47, y48, y49, y50, y51, y52, y53, y54, y55, y56, y57, y58, y59, y60, y61, y62, y63, y64, y65, y66, y67, y68, y69, y70, y71, y72, y73, y74, y75, y76, y77, y78, y79, y80, y81, y82, y83, y84, y85, y86, y87, y88, y89, y90, y91, y92, y93, y94, y95, y96, y97, y98, y99, y100, y101, y102, y103, y104, y105, y106, y107, y108, y109, y110, y111, y112, y113, y114, y115, y116, y117, y118, y119, y120, y121, y122, y123, y124, y125, y126, y127, y128, y129, y130, y131, y132, y133, y134, y135, y136, y137, y138, y139, y140, y141, y142, y143, y144, y145, y146, y147, y148, y149, y150, y151, y152, y153, y154, y155, y156, y157, y158, y159, y160, y161, y162, y163, y164, y165, y166, y167, y168, y169, y170, y171, y172, y173, y174, y175, y176, y177, y178, y179, y180, y181, y182, y183, y184, y185, y186, y187, y188, y189, y190, y191, y192, y193, y194, y195, y196, y197, y198, y199, y200, y201, y202], defers := [] } wd := by
  refine wp_region_on later_below [175, 176, 177, 178, 179, 180, 181, 182, 183, 184, 185, 186, 187, 188, 189] 15 (phiBy s'.mb t'.m ob N o n d) (by kernel_rfl) (by kernel_rfl) rfl rfl (phiBy_mono s'.mb t'.m ob N o n d) ?_ hfin
  intro j hj xs w3 hxs hR hpre
  obtain ⟨x0, x1, x2, x3, x4, x5, x6, x7, x8, x9, x10, x11, x12, x13, x14, rfl⟩ := listF15 xs hxs
  have hbw3 : Below wd.heap.size wd w3 := hR
  have ho2 : w3.cell? ⟨ob, 2, none⟩ = some (.int .u32 (o.at_ : Int)) := ((Hid.out HD5).later hR).o2
  rcases (show j = 0 ∨ j = 1 ∨ j = 2 ∨ j = 3 ∨ j = 4 ∨ j = 5 ∨ j = 6 ∨ j = 7 ∨ j = 8 ∨ j = 9 ∨ j = 10 ∨ j = 11 ∨ j = 12 ∨ j = 13 ∨ j = 14 by omega) with rfl | rfl | rfl | rfl | rfl | rfl | rfl | rfl | rfl | rfl | rfl | rfl | rfl | rfl | rfl
  · exact wpOp_run (.pointer (some ⟨s'.mb, 0, none⟩)) rfl (by kernel_rfl) (exec_move rfl (by kernel_rfl) w3) ⟨_, by kernel_rfl, rfl, Below.refl _ _⟩
  · exact wpOp_run (.pointer (some ⟨ob, 2, none⟩)) rfl (by kernel_rfl) (by kernel_rfl) ⟨_, by kernel_rfl, rfl, Below.refl _ _⟩
  · have e1 : x1 = .pointer (some ⟨ob, 2, none⟩) := hpre 1 (by kernel_rfl)
    subst e1
    exact wpOp_run (.int .u32 (o.at_ : Int)) rfl (by kernel_rfl) (exec_load 27 rfl (by kernel_rfl) w3 (load27 ho2)) ⟨_, by kernel_rfl, rfl, Below.refl _ _⟩
  · exact wpOp_run (.int .i64 n) rfl (by kernel_rfl) (exec_move rfl (by kernel_rfl) w3) ⟨_, by kernel_rfl, rfl, Below.refl _ _⟩
  · have e3 : x3 = .int .i64 n := hpre 3 (by kernel_rfl)
    subst e3
    exact wpOp_run (.int .i64 (N : Int)) rfl (by kernel_rfl) (exec_and1023 rfl ⟨by kernel_rfl, by kernel_rfl⟩ hN w3) ⟨_, by kernel_rfl, rfl, Below.refl _ _⟩
  · have e0 : x0 = .pointer (some ⟨s'.mb, 0, none⟩) := hpre 0 (by kernel_rfl)
    subst e0
    have e2 : x2 = .int .u32 (o.at_ : Int) := hpre 2 (by kernel_rfl)
    subst e2
    have e4 : x4 = .int .i64 (N : Int) := hpre 4 (by kernel_rfl)
    subst e4
    refine wpOp_callR (R := fun u w4 => (∃ a c, u = .slice a d.length c ∧ Row w4 a d c) ∧ Below w3.heap.size w3 w4) 34 #[.pointer (some ⟨s'.mb, 0, none⟩), .int .u32 (o.at_ : Int), .int .i64 (N : Int)] rfl (by kernel_rfl) (by kernel_rfl) ((Hid.out HB1 w3 hbw3).mono fun e w4 ⟨a, c, he, hr, hb⟩ => ⟨_, he, ⟨a, c, rfl, hr⟩, hb⟩) ?_
    rintro _ w4 ⟨⟨a, c, rfl, hr⟩, hb⟩
    exact ⟨_, by kernel_rfl, ⟨a, c, rfl, hr⟩, hb⟩
  · have f5 : ∃ a c, x5 = .slice a d.length c ∧ Row w3 a d c := hpre 5 (by kernel_rfl)
    obtain ⟨a5, c5, e5, hr5⟩ := f5
    subst e5
    exact wpOp_run (.string ⟨d.toArray⟩) rfl (by kernel_rfl) (exec_str (a := a5) (c := c5) d rfl (by kernel_rfl) w3 hr5.lies) ⟨_, by kernel_rfl, rfl, Below.refl _ _⟩
  · exact wpOp_run (.pointer (some ⟨t'.m, 0, none⟩)) rfl (by kernel_rfl) (exec_move rfl (by kernel_rfl) w3) ⟨_, by kernel_rfl, rfl, Below.refl _ _⟩
  · exact wpOp_run (.pointer (some ⟨ob, 2, none⟩)) rfl (by kernel_rfl) (by kernel_rfl) ⟨_, by kernel_rfl, rfl, Below.refl _ _⟩
  · have e8 : x8 = .pointer (some ⟨ob, 2, none⟩) := hpre 8 (by kernel_rfl)
    subst e8
    exact wpOp_run (.int .u32 (o.at_ : Int)) rfl (by kernel_rfl) (exec_load 27 rfl (by kernel_rfl) w3 (load27 ho2)) ⟨_, by kernel_rfl, rfl, Below.refl _ _⟩
  · exact wpOp_run (.int .i64 n) rfl (by kernel_rfl) (exec_move rfl (by kernel_rfl) w3) ⟨_, by kernel_rfl, rfl, Below.refl _ _⟩
  · have e10 : x10 = .int .i64 n := hpre 10 (by kernel_rfl)
    subst e10
    exact wpOp_run (.int .i64 (N : Int)) rfl (by kernel_rfl) (exec_and1023 rfl ⟨by kernel_rfl, by kernel_rfl⟩ hN w3) ⟨_, by kernel_rfl, rfl, Below.refl _ _⟩
  · have e7 : x7 = .pointer (some ⟨t'.m, 0, none⟩) := hpre 7 (by kernel_rfl)
    subst e7
    have e9 : x9 = .int .u32 (o.at_ : Int) := hpre 9 (by kernel_rfl)
    subst e9
    have e11 : x11 = .int .i64 (N : Int) := hpre 11 (by kernel_rfl)
    subst e11
    refine wpOp_callR (R := fun u w4 => (∃ a c, u = .slice a d.length c ∧ Row w4 a d c) ∧ Below w3.heap.size w3 w4) 35 #[.pointer (some ⟨t'.m, 0, none⟩), .int .u32 (o.at_ : Int), .int .i64 (N : Int)] rfl (by kernel_rfl) (by kernel_rfl) ((Hid.out HB2 w3 hbw3).mono fun e w4 ⟨a, c, he, hr, hb⟩ => ⟨_, he, ⟨a, c, rfl, hr⟩, hb⟩) ?_
    rintro _ w4 ⟨⟨a, c, rfl, hr⟩, hb⟩
    exact ⟨_, by kernel_rfl, ⟨a, c, rfl, hr⟩, hb⟩
  · have f12 : ∃ a c, x12 = .slice a d.length c ∧ Row w3 a d c := hpre 12 (by kernel_rfl)
    obtain ⟨a12, c12, e12, hr12⟩ := f12
    subst e12
    exact wpOp_run (.string ⟨d.toArray⟩) rfl (by kernel_rfl) (exec_str (a := a12) (c := c12) d rfl (by kernel_rfl) w3 hr12.lies) ⟨_, by kernel_rfl, rfl, Below.refl _ _⟩
  · have e6 : x6 = .string ⟨d.toArray⟩ := hpre 6 (by kernel_rfl)
    subst e6
    have e13 : x13 = .string ⟨d.toArray⟩ := hpre 13 (by kernel_rfl)
    subst e13
    exact wpOp_run (.bool false) rfl (by kernel_rfl) (exec_neqS ⟨d.toArray⟩ rfl (by kernel_rfl) (by kernel_rfl) w3) ⟨_, by kernel_rfl, rfl, Below.refl _ _⟩
end Go.Proofs.Ytfbmkgdpejgjpaa
