package alu_test

import (
	"math"
	"strconv"
	"strings"
	"sync"
	"testing"

	"calque/alu"
	"calque/api"
	"calque/ins"
)

const (
	top   = 1 << 31
	below = top - 1
	full  = math.MaxUint32
)

// names are the instructions in their order; opOf goes by it, so that the tests have their numbers from nowhere else.
const names = "none addu subu and or xor nor slt sltu add sub sllv srlv srav movz movn sll srl sra mult multu div divu mfhi mflo mthi mtlo jr jalr tge tgeu tlt tltu teq tne syscall break mul clz clo addiu addi slti sltiu andi ori xori lui lb lh lwl lw lbu lhu lwr sb sh swl sw swr beq bne blez bgtz bltz bgez bltzal bgezal j jal"

// opOf is the Op of a name.
func opOf(name string) int {
	for op, n := range strings.Fields(names) {
		if n == name {
			return op
		}
	}
	panic("no instruction " + name)
}

// nameOf is the name of an Op, "none" if it has none.
func nameOf(op int) string {
	if op < 1 || op > 69 {
		return "none"
	}
	return strings.Fields(names)[op]
}

// in says whether a name is one of those in a text.
func in(name, text string) bool { return strings.Contains(" "+text+" ", " "+name+" ") }

// spread answers numbers that are spread out, always the same ones.
func spread() func() uint32 {
	v := uint32(2463534242)
	return func() uint32 {
		v ^= v << 13
		v ^= v >> 17
		v ^= v << 5
		return v
	}
}

// numbers are edges: with a sign and without, 0, and what shifts make of an amount.
var numbers = []uint32{0, 1, 2, 3, 7, 30, 31, 32, 33, 63, 64, 0x7fff, 0x8000, 0xffff, 0x10000, below - 1, below, top, top + 1, top + 31, 0xaaaaaaaa, 0x55555555, 0xffff0000, 0xffff8000, full - 31, full - 1, full}

// strange are numbers that no register and no amount is.
var strange = []int{-1, -2, -31, -32, -33, 32, 33, 63, 64, 1 << 16, 1<<31 - 1, 1 << 31, -1 << 31, 1 << 32, 1<<32 + 1, 1<<32 + 31, -1 << 32, 1 - 1<<32, math.MaxInt, math.MinInt}

// others are numbers of which there is no Op; some are one but for bits far up.
func others() []int {
	l := []int{0, -1, -2, -9, -69, 70, 71, 127, 128, 256, 257, 265, 1 << 16, 1<<16 + 1, 1 << 31, 1 << 32, 1<<32 + 1, 1<<32 + 9, 1<<32 + 69, -1 << 32, 9 - 1<<32, math.MaxInt, math.MinInt, math.MinInt + 9}
	for v := 70; v < 300; v++ {
		l = append(l, v, -v)
	}
	return l
}

// every are all numbers of Ops, and some that are none.
func every() []int {
	l := others()
	for op := 1; op <= 69; op++ {
		l = append(l, op)
	}
	return l
}

// pairs asks of pairs of numbers: all edges, and some that are spread out.
func pairs(ask func(s, t uint32)) {
	for _, s := range numbers {
		for _, t := range numbers {
			ask(s, t)
		}
	}
	next := spread()
	for range 300 {
		v := next()
		ask(v, next())
		ask(v, v)
		ask(v, v+1)
	}
}

// sign is a number with its sign.
func sign(v uint32) int64 {
	if v >= top {
		return int64(v) - 1<<32
	}
	return int64(v)
}

// tooGreat says whether a number with a sign is none of 32 bits.
func tooGreat(v int64) bool { return v < -1<<31 || v > 1<<31-1 }

// digits are a number's 32 bits, the highest first.
func digits(v uint32) string {
	text := strconv.FormatUint(uint64(v), 2)
	return strings.Repeat("0", 32-len(text)) + text
}

// fromDigits is the number of 32 bits.
func fromDigits(text string) uint32 {
	v, err := strconv.ParseUint(text, 2, 32)
	if err != nil {
		panic(err)
	}
	return uint32(v)
}

// moved is t, shifted by n (the lowest five bits), done on its digits.
func moved(name string, t uint32, n int64) uint32 {
	n = (n%32 + 32) % 32
	text := digits(t)
	switch name {
	case "sll":
		return fromDigits(text[n:] + strings.Repeat("0", int(n)))
	case "srl":
		return fromDigits(strings.Repeat("0", int(n)) + text[:32-n])
	default:
		return fromDigits(strings.Repeat(text[:1], int(n)) + text[:32-n])
	}
}

// bitwise is s and t, digit by digit: of each pair of digits the one that rule has for it.
func bitwise(rule string, s, t uint32) uint32 {
	x, y := digits(s), digits(t)
	var b strings.Builder
	for k := range 32 {
		b.WriteByte(rule[2*(x[k]-'0')+y[k]-'0'])
	}
	return fromDigits(b.String())
}

// lead is how many of these digits stand at the top.
func lead(v uint32, digit string) uint32 {
	return uint32(32 - len(strings.TrimLeft(digits(v), digit)))
}

// plainReckon is P9.1 as the chapter tells it.
func plainReckon(i api.Ins, s, t uint32) (uint32, bool) {
	one := map[bool]uint32{true: 1}
	switch name := nameOf(i.Op); name {
	case "addu", "add":
		return uint32(sign(s) + sign(t)), true
	case "subu", "sub":
		return uint32(sign(s) - sign(t)), true
	case "and":
		return bitwise("0001", s, t), true
	case "or":
		return bitwise("0111", s, t), true
	case "xor":
		return bitwise("0110", s, t), true
	case "nor":
		return bitwise("1000", s, t), true
	case "slt":
		return one[sign(s) < sign(t)], true
	case "sltu":
		return one[uint64(s) < uint64(t)], true
	case "sllv", "srlv", "srav":
		return moved(strings.TrimSuffix(name, "v"), t, int64(s)), true
	case "sll", "srl", "sra":
		return moved(name, t, int64(i.A)), true
	case "mul":
		return uint32(uint64(s) * uint64(t) % (1 << 32)), true
	case "clz":
		return lead(s, "0"), true
	case "clo":
		return lead(s, "1"), true
	case "addiu", "addi":
		return uint32((uint64(s) + uint64(i.Imm)) % (1 << 32)), true
	case "slti":
		return one[sign(s) < sign(i.Imm)], true
	case "sltiu":
		return one[uint64(s) < uint64(i.Imm)], true
	case "andi":
		return bitwise("0001", s, i.Imm), true
	case "ori":
		return bitwise("0111", s, i.Imm), true
	case "xori":
		return bitwise("0110", s, i.Imm), true
	case "lui":
		return uint32(uint64(i.Imm) * 65536 % (1 << 32)), true
	}
	return 0, false
}

// plainTraps is P9.2's Traps as the chapter tells it.
func plainTraps(i api.Ins, s, t uint32) bool {
	switch nameOf(i.Op) {
	case "add":
		return tooGreat(sign(s) + sign(t))
	case "addi":
		return tooGreat(sign(s) + sign(i.Imm))
	case "sub":
		return tooGreat(sign(s) - sign(t))
	case "tge":
		return sign(s) >= sign(t)
	case "tgeu":
		return uint64(s) >= uint64(t)
	case "tlt":
		return sign(s) < sign(t)
	case "tltu":
		return uint64(s) < uint64(t)
	case "teq":
		return digits(s) == digits(t)
	case "tne":
		return digits(s) != digits(t)
	}
	return false
}

// plainTakes is P9.2's Takes as the chapter tells it.
func plainTakes(i api.Ins, s, t uint32) bool {
	switch nameOf(i.Op) {
	case "beq":
		return digits(s) == digits(t)
	case "bne":
		return digits(s) != digits(t)
	case "blez":
		return sign(s) <= 0
	case "bgtz":
		return sign(s) > 0
	case "bltz", "bltzal":
		return sign(s) < 0
	case "bgez", "bgezal":
		return sign(s) >= 0
	}
	return in(nameOf(i.Op), "jr jalr j jal")
}

// plainLong is P9.3 as the chapter tells it.
func plainLong(i api.Ins, s, t, hi, lo uint32) (uint32, uint32) {
	x, y := sign(s), sign(t)
	switch name := nameOf(i.Op); name {
	case "mult":
		return uint32(uint64(x*y) >> 32), uint32(x * y)
	case "multu":
		product := uint64(s) * uint64(t)
		return uint32(product >> 32), uint32(product)
	case "divu", "div":
		if t == 0 {
			return 0, 0
		}
		if name == "divu" {
			x, y = int64(s), int64(t)
		}
		return uint32(x % y), uint32(x / y)
	case "mthi":
		return s, lo
	case "mtlo":
		return hi, s
	}
	return hi, lo
}

// plainWrites is P9.4 as the chapter tells it.
func plainWrites(i api.Ins) int {
	for _, l := range [][2]int{{1, 18}, {23, 24}, {28, 28}, {37, 39}} {
		if i.Op >= l[0] && i.Op <= l[1] {
			return i.D
		}
	}
	if i.Op >= 40 && i.Op <= 54 {
		return i.T
	}
	if in(nameOf(i.Op), "bltzal bgezal jal") {
		return 31
	}
	return 0
}

func wantReckon(t *testing.T, i api.Ins, a, b, want uint32) {
	t.Helper()
	if got, ok := alu.Reckon(i, a, b); got != want || !ok {
		t.Errorf("Reckon of %s %v, %x, %x: %x, %v, not %x, true", nameOf(i.Op), i, a, b, got, ok, want)
	}
}

// The tests' names and numbers are those of layer 8.
func TestTheNamesAreThoseOfIns(t *testing.T) {
	if n := len(strings.Fields(names)); n != 70 {
		t.Fatalf("%d names", n)
	}
	for op := 1; op <= 69; op++ {
		if ins.Name(op) != nameOf(op) || opOf(nameOf(op)) != op {
			t.Errorf("Op %d: %q, not %q", op, nameOf(op), ins.Name(op))
		}
	}
}

func TestP91Example(t *testing.T) {
	wantReckon(t, api.Ins{Op: 7}, 0xffffffff, 0, 1)
}

// Of each Op that answers, at 0, 1, the greatest and the least with a sign, and the greatest without: written out.
func TestP91WrittenOut(t *testing.T) {
	for _, x := range []struct {
		name       string
		s, t, want uint32
	}{
		{"addu", 0, 0, 0}, {"addu", below, 1, top}, {"addu", full, 1, 0}, {"addu", top, top, 0}, {"addu", full, full, full - 1},
		{"add", below, 1, top}, {"add", full, 1, 0}, {"add", top, top, 0},
		{"subu", 0, 1, full}, {"subu", top, 1, below}, {"subu", 1, full, 2}, {"subu", below, below, 0},
		{"sub", 0, 1, full}, {"sub", top, 1, below}, {"sub", 0, top, top},
		{"and", 0xff00ff00, 0x0ff00ff0, 0x0f000f00}, {"and", full, top, top}, {"and", 0, full, 0},
		{"or", 0xff00ff00, 0x0ff00ff0, 0xfff0fff0}, {"or", 0, top, top}, {"or", 0, 0, 0},
		{"xor", 0xff00ff00, 0x0ff00ff0, 0xf0f0f0f0}, {"xor", full, top, below}, {"xor", full, full, 0},
		{"nor", 0xff00ff00, 0x0ff00ff0, 0x000f000f}, {"nor", 0, 0, full}, {"nor", full, 0, 0}, {"nor", top, 0, below},
		{"slt", full, 0, 1}, {"slt", 0, full, 0}, {"slt", top, below, 1}, {"slt", below, top, 0}, {"slt", 0, 1, 1}, {"slt", 1, 1, 0}, {"slt", top, top, 0},
		{"sltu", full, 0, 0}, {"sltu", 0, full, 1}, {"sltu", top, below, 0}, {"sltu", below, top, 1}, {"sltu", 0, 1, 1}, {"sltu", 1, 1, 0}, {"sltu", full, full, 0},
		{"mul", 3, 5, 15}, {"mul", full, full, 1}, {"mul", top, 2, 0}, {"mul", below, 2, full - 1}, {"mul", 0xfffffffd, 5, 0xfffffff1}, {"mul", 0x10001, 0x10001, 0x20001},
		{"clz", 0, 77, 32}, {"clz", full, 0, 0}, {"clz", 1, full, 31}, {"clz", below, 0, 1}, {"clz", top, 0, 0},
		{"clo", 0, 77, 0}, {"clo", full, 0, 32}, {"clo", full - 1, 0, 31}, {"clo", below, full, 0}, {"clo", top, 0, 1},
	} {
		wantReckon(t, api.Ins{Op: opOf(x.name)}, x.s, x.t, x.want)
		// Neither the amount nor the number plays a part in them.
		wantReckon(t, api.Ins{Op: opOf(x.name), S: 4, T: 5, D: 6, A: 7, Imm: 8}, x.s, x.t, x.want)
	}
}

func TestP91ImmAsItStands(t *testing.T) {
	for _, x := range []struct {
		name         string
		s, imm, want uint32
	}{
		{"addiu", 1, full - 1, full}, {"addiu", below, 1, top}, {"addiu", full, 0xffff8000, 0xffff7fff}, {"addiu", 0, 0x8000, 0x8000},
		{"addi", 1, full - 1, full}, {"addi", below, 1, top}, {"addi", top, full, below}, {"addi", 0, 0x12345678, 0x12345678},
		{"slti", full - 1, full, 1}, {"slti", 0, full, 0}, {"slti", top, 0x7fff, 1}, {"slti", 0x7fff, 0x8000, 1}, {"slti", 5, 5, 0}, {"slti", 4, 5, 1},
		{"sltiu", full - 1, full, 1}, {"sltiu", 0, full, 1}, {"sltiu", top, 0x7fff, 0}, {"sltiu", 0, 0xffff8000, 1}, {"sltiu", 5, 5, 0}, {"sltiu", 4, 5, 1}, {"sltiu", full, full, 0},
		{"andi", full, 0xffff, 0xffff}, {"andi", 0x12345678, 0xff00, 0x5600}, {"andi", full, 0x80000001, 0x80000001},
		{"ori", 0x12340000, 0x5678, 0x12345678}, {"ori", 0, 0x8000, 0x8000}, {"ori", 1, top, top + 1},
		{"xori", full, 0xffff, 0xffff0000}, {"xori", 0xff, 0xf0, 0x0f}, {"xori", full, full, 0},
		{"lui", 7, 0, 0}, {"lui", 7, 1, 0x10000}, {"lui", 7, 0x7fff, 0x7fff0000}, {"lui", 7, 0x8000, top}, {"lui", 7, 0xffff, 0xffff0000}, {"lui", 7, 0x10000, 0}, {"lui", 7, 0xabcd1234, 0x12340000},
	} {
		for _, unheard := range []uint32{0, 1, top, full} { // what T has plays no part
			wantReckon(t, api.Ins{Op: opOf(x.name), T: 3, A: 9, Imm: x.imm}, x.s, unheard, x.want)
		}
	}
}

func TestP91Shifts(t *testing.T) {
	for _, x := range []struct {
		name    string
		v       uint32
		amount  uint32
		shifted uint32
	}{
		{"sll", full, 0, full}, {"sll", 3, 4, 48}, {"sll", full, 31, top}, {"sll", 1, 31, top}, {"sll", 5, 32, 5}, {"sll", 5, 33, 10}, {"sll", 5, full, top},
		{"srl", full, 0, full}, {"srl", 48, 4, 3}, {"srl", top, 31, 1}, {"srl", top, 1, top >> 1}, {"srl", top, 32, top}, {"srl", top, 63, 1}, {"srl", full, full, 1},
		{"sra", full, 0, full}, {"sra", 48, 4, 3}, {"sra", top, 31, full}, {"sra", top, 1, 3 << 30}, {"sra", below, 31, 0}, {"sra", top, 32, top}, {"sra", top, 33, 3 << 30}, {"sra", top, full, full},
	} {
		// By what the register has: the amount in the word plays no part.
		wantReckon(t, api.Ins{Op: opOf(x.name + "v"), A: 9, Imm: 5}, x.amount, x.v, x.shifted)
		// By the amount: what the register has plays none.
		for _, s := range []uint32{0, 7, full} {
			wantReckon(t, api.Ins{Op: opOf(x.name), A: int(x.amount), Imm: 5}, s, x.v, x.shifted)
		}
	}
}

func TestP91EachAmount(t *testing.T) {
	for n := range 32 {
		wantReckon(t, api.Ins{Op: opOf("sll"), A: n}, 0, 0x80000001, uint32(uint64(0x80000001)<<n))
		wantReckon(t, api.Ins{Op: opOf("srl"), A: n}, 0, 0x80000001, 0x80000001>>n)
		wantReckon(t, api.Ins{Op: opOf("sra"), A: n}, 0, 0x80000001, uint32((int64(0x80000001)-1<<32)>>n))
	}
	for _, n := range strange { // the lowest five bits of any number
		five := uint32(n & 31)
		wantReckon(t, api.Ins{Op: opOf("sll"), A: n}, 0, 0x80000001, uint32(uint64(0x80000001)<<five))
		wantReckon(t, api.Ins{Op: opOf("srl"), A: n}, 0, 0x80000001, 0x80000001>>five)
		wantReckon(t, api.Ins{Op: opOf("sra"), A: n}, 0, 0x80000001, uint32((int64(0x80000001)-1<<32)>>five))
	}
}

func TestP91Leading(t *testing.T) {
	for n := range uint32(33) {
		v := uint32(uint64(full) >> n) // n bits 0 at the top, then 1
		wantReckon(t, api.Ins{Op: opOf("clz")}, v, ^v, n)
		wantReckon(t, api.Ins{Op: opOf("clo")}, ^v, v, n)
	}
}

func TestP91OfNoneElse(t *testing.T) {
	const answering = "addu subu and or xor nor slt sltu add sub sllv srlv srav sll srl sra mul clz clo addiu addi slti sltiu andi ori xori lui"
	said := 0
	for _, op := range every() {
		if in(nameOf(op), answering) {
			said++
			if _, ok := alu.Reckon(api.Ins{Op: op}, 0, 0); !ok {
				t.Errorf("Reckon of %s: false", nameOf(op))
			}
			continue
		}
		for _, v := range numbers {
			if got, ok := alu.Reckon(api.Ins{Op: op, S: 1, T: 2, D: 3, A: 4, Imm: v | 1}, v, ^v); got != 0 || ok {
				t.Errorf("Reckon of Op %d: %x, %v, not 0, false", op, got, ok)
			}
		}
	}
	if said != 27 {
		t.Errorf("%d Ops answer", said)
	}
}

func TestP91SecondReading(t *testing.T) {
	for _, op := range every() {
		n := 0
		pairs(func(a, b uint32) {
			n++
			i := api.Ins{Op: op, A: n % 32, Imm: numbers[n/7%len(numbers)]}
			got, ok := alu.Reckon(i, a, b)
			if want, fine := plainReckon(i, a, b); got != want || ok != fine {
				t.Fatalf("Reckon of %s %v, %x, %x: %x, %v, not %x, %v", nameOf(op), i, a, b, got, ok, want, fine)
			}
		})
	}
}

func TestP92TrapsOver(t *testing.T) {
	for _, x := range []struct {
		name string
		s, t uint32
		want bool
	}{
		{"add", below, 1, true}, {"add", below, 0, false}, {"add", below - 1, 1, false}, {"add", below, full, false},
		{"add", top, full, true}, {"add", top, 0, false}, {"add", top + 1, full, false}, {"add", top, 1, false},
		{"add", 1, below, true}, {"add", full, top, true}, {"add", top, top, true}, {"add", below, below, true}, {"add", full, full, false}, {"add", full, 1, false}, {"add", 0, 0, false},
		{"add", 0x40000000, 0x40000000, true}, {"add", 0x3fffffff, 0x40000000, false}, {"add", 0xc0000000, 0xc0000000, false}, {"add", 0xbfffffff, 0xc0000000, true},
		{"sub", below, full, true}, {"sub", below, 0, false}, {"sub", below - 1, full, false}, {"sub", below, 1, false},
		{"sub", top, 1, true}, {"sub", top, 0, false}, {"sub", top + 1, 1, false}, {"sub", top, full, false},
		{"sub", 0, top, true}, {"sub", full, top, false}, {"sub", full, below, false}, {"sub", full - 1, below, true}, {"sub", 0, 1, false}, {"sub", top, top, false}, {"sub", 0, 0, false},
	} {
		i := api.Ins{Op: opOf(x.name)}
		if got := alu.Traps(i, x.s, x.t); got != x.want {
			t.Errorf("Traps of %s, %x, %x: %v", x.name, x.s, x.t, got)
		}
		i.Imm = below // a number plays no part
		if got := alu.Traps(i, x.s, x.t); got != x.want {
			t.Errorf("Traps of %s with a number, %x, %x: %v", x.name, x.s, x.t, got)
		}
		// addi of the same numbers, whatever the register T has.
		for _, unheard := range []uint32{0, 1, below, top, full} {
			if got := alu.Traps(api.Ins{Op: opOf("addi"), Imm: x.t}, x.s, unheard); x.name == "add" && got != x.want {
				t.Errorf("Traps of addi, %x, Imm %x: %v", x.s, x.t, got)
			}
		}
	}
}

func TestP92TrapsOfTheSix(t *testing.T) {
	for _, x := range []struct {
		s, t uint32
		want string // those of the six that trap
	}{
		{4, 4, "tge tgeu teq"}, {0, 0, "tge tgeu teq"}, {top, top, "tge tgeu teq"}, {full, full, "tge tgeu teq"},
		{4, 5, "tlt tltu tne"}, {5, 4, "tge tgeu tne"}, {0, 1, "tlt tltu tne"},
		{full, 0, "tlt tgeu tne"}, {0, full, "tge tltu tne"},
		{top, below, "tlt tgeu tne"}, {below, top, "tge tltu tne"},
		{full - 1, full, "tlt tltu tne"}, {full, full - 1, "tge tgeu tne"}, {top, full, "tlt tltu tne"}, {0, below, "tlt tltu tne"},
	} {
		for _, name := range strings.Fields("tge tgeu tlt tltu teq tne") {
			for _, imm := range []uint32{0, 0x3ff, full} { // their number plays no part
				if got, want := alu.Traps(api.Ins{Op: opOf(name), Imm: imm}, x.s, x.t), in(name, x.want); got != want {
					t.Errorf("Traps of %s, %x, %x: %v, not %v", name, x.s, x.t, got, want)
				}
			}
		}
	}
}

func TestP92TrapsSecondReading(t *testing.T) {
	for _, op := range every() {
		n := 0
		pairs(func(a, b uint32) {
			n++
			i := api.Ins{Op: op, A: n % 32, Imm: numbers[n/7%len(numbers)]}
			if got, want := alu.Traps(i, a, b), plainTraps(i, a, b); got != want {
				t.Fatalf("Traps of %s %v, %x, %x: %v, not %v", nameOf(op), i, a, b, got, want)
			}
		})
	}
}

// Only those of which layer 8 says that they may trap do, and each of them does somewhere and elsewhere not.
func TestP92TrapsOfWhom(t *testing.T) {
	for _, op := range every() {
		said := map[bool]int{}
		pairs(func(a, b uint32) { said[alu.Traps(api.Ins{Op: op, Imm: b}, a, b)]++ })
		if may := ins.Kind(op) == 6; may != (said[true] > 0) || said[false] == 0 {
			t.Errorf("Traps of %s: %v", nameOf(op), said)
		}
	}
}

func TestP92Takes(t *testing.T) {
	const always = " jr jalr j jal"
	for _, x := range []struct {
		s, t uint32
		want string // those that jump
	}{
		{0, 0, "beq blez bgez bgezal"}, {0, 1, "bne blez bgez bgezal"}, {0, full, "bne blez bgez bgezal"},
		{1, 1, "beq bgtz bgez bgezal"}, {1, 0, "bne bgtz bgez bgezal"}, {below, below, "beq bgtz bgez bgezal"}, {below, top, "bne bgtz bgez bgezal"},
		{full, full, "beq blez bltz bltzal"}, {full, 0, "bne blez bltz bltzal"}, {top, top, "beq blez bltz bltzal"}, {top, 0, "bne blez bltz bltzal"}, {top, below, "bne blez bltz bltzal"},
	} {
		for _, op := range every() {
			for _, imm := range []uint32{0, 4, 0xfffffffc, full} { // where to plays no part
				if got, want := alu.Takes(api.Ins{Op: op, Imm: imm}, x.s, x.t), in(nameOf(op), x.want+always); got != want {
					t.Errorf("Takes of %s (%d), %x, %x: %v, not %v", nameOf(op), op, x.s, x.t, got, want)
				}
			}
		}
	}
}

func TestP92TakesSecondReading(t *testing.T) {
	for _, op := range every() {
		pairs(func(a, b uint32) {
			i := api.Ins{Op: op, Imm: b}
			if got, want := alu.Takes(i, a, b), plainTakes(i, a, b); got != want {
				t.Fatalf("Takes of %s %v, %x, %x: %v, not %v", nameOf(op), i, a, b, got, want)
			}
		})
	}
}

// Only those of which layer 8 says that they jump do, and each of them does somewhere.
func TestP92TakesOfWhom(t *testing.T) {
	for _, op := range every() {
		said := false
		pairs(func(a, b uint32) { said = said || alu.Takes(api.Ins{Op: op}, a, b) })
		if said != (ins.Kind(op) == 2) {
			t.Errorf("Takes of %s: %v", nameOf(op), said)
		}
	}
}

func TestP93WrittenOut(t *testing.T) {
	for _, x := range []struct {
		name         string
		s, t, hi, lo uint32
	}{
		{"mult", 3, 5, 0, 15}, {"mult", full, 2, full, full - 1}, {"mult", full, full, 0, 1}, {"mult", top, top, 0x40000000, 0}, {"mult", top, full, 0, top}, {"mult", below, below, 0x3fffffff, 1}, {"mult", top, 1, full, top}, {"mult", 0, full, 0, 0},
		{"multu", 3, 5, 0, 15}, {"multu", full, 2, 1, full - 1}, {"multu", full, full, full - 1, 1}, {"multu", top, top, 0x40000000, 0}, {"multu", top, full, below, top}, {"multu", top, 1, 0, top}, {"multu", 0, full, 0, 0},
		{"div", 7, 2, 1, 3}, {"div", 0xfffffff9, 2, full, 0xfffffffd}, {"div", 7, 0xfffffffe, 1, 0xfffffffd}, {"div", 0xfffffff9, 0xfffffffe, full, 3}, {"div", top, full, 0, top}, {"div", top, 1, 0, top}, {"div", full, below, full, 0}, {"div", 0, 5, 0, 0},
		{"div", 5, 0, 0, 0}, {"div", 0, 0, 0, 0}, {"div", full, 0, 0, 0}, {"div", top, 0, 0, 0},
		{"divu", 7, 2, 1, 3}, {"divu", 0xfffffff9, 2, 1, 0x7ffffffc}, {"divu", 7, 0xfffffffe, 7, 0}, {"divu", top, full, top, 0}, {"divu", full, below, 1, 2}, {"divu", full, 1, 0, full},
		{"divu", 5, 0, 0, 0}, {"divu", 0, 0, 0, 0}, {"divu", full, 0, 0, 0},
		{"mthi", 5, 6, 5, 88}, {"mthi", 0, 6, 0, 88}, {"mthi", full, 6, full, 88},
		{"mtlo", 5, 6, 77, 5}, {"mtlo", 0, 6, 77, 0}, {"mtlo", full, 6, 77, full},
		{"mfhi", 5, 6, 77, 88}, {"mflo", 5, 6, 77, 88}, {"mul", 5, 6, 77, 88}, {"addu", 5, 6, 77, 88}, {"none", 5, 6, 77, 88}, {"jal", 5, 6, 77, 88},
	} {
		for _, i := range []api.Ins{{Op: opOf(x.name)}, {Op: opOf(x.name), S: 1, T: 2, D: 3, A: 4, Imm: 5}} {
			if hi, lo := alu.Long(i, x.s, x.t, 77, 88); hi != x.hi || lo != x.lo {
				t.Errorf("Long of %s, %x, %x: %x, %x, not %x, %x", x.name, x.s, x.t, hi, lo, x.hi, x.lo)
			}
		}
	}
}

func TestP93AsTheyWere(t *testing.T) {
	for _, op := range every() {
		if in(nameOf(op), "mult multu div divu mthi mtlo") {
			continue
		}
		pairs(func(a, b uint32) {
			if hi, lo := alu.Long(api.Ins{Op: op, Imm: a}, a+1, b+2, a, b); hi != a || lo != b {
				t.Fatalf("Long of %s (%d): %x, %x, not %x, %x", nameOf(op), op, hi, lo, a, b)
			}
		})
	}
}

func TestP93SecondReading(t *testing.T) {
	for _, op := range every() {
		next := spread()
		pairs(func(a, b uint32) {
			i, h, l := api.Ins{Op: op, A: 3, Imm: b}, next(), next()
			hi, lo := alu.Long(i, a, b, h, l)
			if high, low := plainLong(i, a, b, h, l); hi != high || lo != low {
				t.Fatalf("Long of %s, %x, %x, %x, %x: %x, %x, not %x, %x", nameOf(op), a, b, h, l, hi, lo, high, low)
			}
		})
	}
}

func TestP94Writes(t *testing.T) {
	const (
		ofD  = "addu subu and or xor nor slt sltu add sub sllv srlv srav movz movn sll srl sra mfhi mflo jalr mul clz clo"
		ofT  = "addiu addi slti sltiu andi ori xori lui lb lh lwl lw lbu lhu lwr"
		of31 = "bltzal bgezal jal"
	)
	seen := map[int]int{}
	for _, op := range every() {
		want := 0
		switch name := nameOf(op); {
		case in(name, ofD):
			want = 5
		case in(name, ofT):
			want = 7
		case in(name, of31):
			want = 31
		}
		if op >= 1 && op <= 69 {
			seen[want]++
		}
		if got := alu.Writes(api.Ins{Op: op, S: 3, T: 7, D: 5, A: 9, Imm: 11}); got != want {
			t.Errorf("Writes of %s (%d): %d, not %d", nameOf(op), op, got, want)
		}
	}
	if seen[5] != 24 || seen[7] != 15 || seen[31] != 3 || seen[0] != 27 {
		t.Errorf("so many of each: %v", seen)
	}
}

func TestP94AnyRegister(t *testing.T) {
	registers := append([]int{0, 1, 2, 30, 31}, strange...)
	for _, op := range every() {
		for _, d := range registers {
			for _, r := range registers {
				i := api.Ins{Op: op, S: 12, T: r, D: d, A: 13, Imm: 14}
				if got, want := alu.Writes(i), plainWrites(i); got != want {
					t.Fatalf("Writes of %s %v: %d, not %d", nameOf(op), i, got, want)
				}
			}
		}
	}
}

// answers is what the calls say of many arguments, as one text; none of them panics.
func answers() string {
	var b strings.Builder
	tell := func(l ...uint32) {
		for _, v := range l {
			b.WriteString(strconv.FormatUint(uint64(v), 16) + " ")
		}
	}
	next := spread()
	pick := func() int { return strange[int(next()%uint32(len(strange)))] }
	value := func() uint32 { return numbers[next()%uint32(len(numbers))] }
	for _, op := range every() {
		for range 40 {
			i := api.Ins{Op: op, S: pick(), T: pick(), D: pick(), A: pick(), Imm: value()}
			s, t, h, l := value(), value(), value(), value()
			v, ok := alu.Reckon(i, s, t)
			hi, lo := alu.Long(i, s, t, h, l)
			tell(v, hi, lo)
			b.WriteString(strconv.FormatBool(ok) + strconv.FormatBool(alu.Traps(i, s, t)) + strconv.FormatBool(alu.Takes(i, s, t)) + strconv.Itoa(alu.Writes(i)) + "\n")
		}
	}
	return b.String()
}

func TestR4TheSameAgain(t *testing.T) {
	first := answers()
	texts := make([]string, 8)
	var all sync.WaitGroup
	for k := range texts {
		all.Go(func() { texts[k] = answers() })
	}
	all.Wait()
	for _, text := range append(texts, answers()) {
		if text != first {
			t.Fatal("what was said is not said again")
		}
	}
}

// At an Op, registers, an amount, numbers that no word has: no call panics, and each says what the chapter says of them.
func TestR1NoPanic(t *testing.T) {
	ops := append(every(), strange...)
	next := spread()
	pick := func() int { return strange[int(next()%uint32(len(strange)))] }
	for _, op := range ops {
		for range 60 {
			i := api.Ins{Op: op, S: pick(), T: pick(), D: pick(), A: pick(), Imm: next()}
			a, b := next(), next()
			got, ok := alu.Reckon(i, a, b)
			if want, fine := plainReckon(i, a, b); got != want || ok != fine {
				t.Fatalf("Reckon of %v, %x, %x: %x, %v, not %x, %v", i, a, b, got, ok, want, fine)
			}
			hi, lo := alu.Long(i, a, b, b, a)
			if high, low := plainLong(i, a, b, b, a); hi != high || lo != low {
				t.Fatalf("Long of %v, %x, %x: %x, %x, not %x, %x", i, a, b, hi, lo, high, low)
			}
			if alu.Traps(i, a, b) != plainTraps(i, a, b) || alu.Takes(i, a, b) != plainTakes(i, a, b) || alu.Writes(i) != plainWrites(i) {
				t.Fatalf("Traps, Takes or Writes of %v, %x, %x", i, a, b)
			}
		}
	}
}
