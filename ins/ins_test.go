package ins_test

import (
	"math"
	"os"
	"os/exec"
	"slices"
	"strconv"
	"strings"
	"sync"
	"testing"

	"calque/api"
	"calque/ins"
)

// forms is the chapter's table in one's own words: of each form its word, bit by bit from the highest on, how Imm is read, and its rows as the chapter has them.
// In a word s, t, d, a are the registers' bits, i those of Imm, n those of the row's own number; 0 and 1 are bits that must be so.
var forms = []struct{ letter, word, imm, rows string }{
	{"D", "000000 sssss ttttt ddddd 00000 nnnnnn", "", "1 addu f 33, 2 subu 35, 3 and 36, 4 or 37, 5 xor 38, 6 nor 39, 7 slt 42, 8 sltu 43, 9 add 32, 10 sub 34, 11 sllv 4, 12 srlv 6, 13 srav 7, 14 movz 10, 15 movn 11"},
	{"H", "000000 00000 ttttt ddddd aaaaa nnnnnn", "", "16 sll f 0, 17 srl 2, 18 sra 3"},
	{"M", "000000 sssss ttttt 00000 00000 nnnnnn", "", "19 mult f 24, 20 multu 25, 21 div 26, 22 divu 27"},
	{"F", "000000 00000 00000 ddddd 00000 nnnnnn", "", "23 mfhi f 16, 24 mflo 18"},
	{"L", "000000 sssss 00000 00000 00000 nnnnnn", "", "25 mthi f 17, 26 mtlo 19, 27 jr 8"},
	{"G", "000000 sssss 00000 ddddd 00000 nnnnnn", "", "28 jalr f 9"},
	{"T", "000000 sssss ttttt iiiii iiiii nnnnnn", "", "29 tge f 48, 30 tgeu 49, 31 tlt 50, 32 tltu 51, 33 teq 52, 34 tne 54"},
	{"C", "000000 iiiii iiiii iiiii iiiii nnnnnn", "", "35 syscall f 12, 36 break 13"},
	{"X", "011100 sssss ttttt ddddd 00000 nnnnnn", "", "37 mul f 2"},
	{"Y", "011100 sssss ttttt ddddd 00000 nnnnnn", "", "38 clz f 32, 39 clo 33"},
	{"I", "nnnnnn sssss ttttt iiiii iiiii iiiiii", "sign", "40 addiu o 9, 41 addi 8, 42 slti 10, 43 sltiu 11"},
	{"U", "nnnnnn sssss ttttt iiiii iiiii iiiiii", "", "44 andi o 12, 45 ori 13, 46 xori 14"},
	{"V", "nnnnnn 00000 ttttt iiiii iiiii iiiiii", "", "47 lui o 15"},
	{"P", "nnnnnn sssss ttttt iiiii iiiii iiiiii", "sign", "48 lb o 32, 49 lh 33, 50 lwl 34, 51 lw 35, 52 lbu 36, 53 lhu 37, 54 lwr 38, 55 sb 40, 56 sh 41, 57 swl 42, 58 sw 43, 59 swr 46"},
	{"B", "nnnnnn sssss ttttt iiiii iiiii iiiiii", "sign times 4", "60 beq o 4, 61 bne 5"},
	{"Z", "nnnnnn sssss 00000 iiiii iiiii iiiiii", "sign times 4", "62 blez o 6, 63 bgtz 7"},
	{"R", "000001 sssss nnnnn iiiii iiiii iiiiii", "sign times 4", "64 bltz t 0, 65 bgez 1, 66 bltzal 16, 67 bgezal 17"},
	{"J", "nnnnnn iiiii iiiii iiiii iiiii iiiiii", "times 4", "68 j o 2, 69 jal 3"},
}

// told is a row: its word, bit by bit, with no n left in it.
type told struct {
	op         int
	name, form string
	word, imm  string
}

// table is the rows, in the order of the chapter.
func table() []told {
	var all []told
	for _, f := range forms {
		for _, text := range strings.Split(f.rows, ", ") {
			parts := strings.Fields(text)
			op, _ := strconv.Atoi(parts[0])
			number, _ := strconv.Atoi(parts[len(parts)-1])
			word := strings.ReplaceAll(f.word, " ", "")
			width := strings.Count(word, "n")
			digits := strings.Repeat("0", width) + strconv.FormatInt(int64(number), 2)
			word = strings.Replace(word, strings.Repeat("n", width), digits[len(digits)-width:], 1)
			all = append(all, told{op, parts[1], f.letter, word, f.imm})
		}
	}
	return all
}

// has says whether the row's word has a field of that letter.
func (r told) has(letter string) bool { return strings.Contains(r.word, letter) }

// width is how many bits the field of that letter has.
func (r told) width(letter string) int { return strings.Count(r.word, letter) }

// fits says whether a word is one of the row's.
func (r told) fits(w uint32) bool {
	for k := range 32 {
		if bit := byte('0' + w>>(31-k)&1); r.word[k] == '0' && bit != '0' || r.word[k] == '1' && bit != '1' {
			return false
		}
	}
	return r.form != "Y" || r.field(w, 't') == r.field(w, 'd')
}

// field is the bits of a word that stand under a letter, as a number.
func (r told) field(w uint32, letter byte) uint32 {
	var v uint32
	for k := range 32 {
		if r.word[k] == letter {
			v = 2*v + w>>(31-k)&1
		}
	}
	return v
}

// number is what Imm is, of the bits that stand for it.
func (r told) number(v uint32) uint32 {
	n := int64(v)
	if strings.Contains(r.imm, "sign") && n >= 1<<15 {
		n -= 1 << 16
	}
	if strings.Contains(r.imm, "times 4") {
		n *= 4
	}
	return uint32(n)
}

// read is P8.1, of a word that fits.
func (r told) read(w uint32) api.Ins {
	at := func(letter byte) int { return int(r.field(w, letter)) }
	return api.Ins{Op: r.op, S: at('s'), T: at('t'), D: at('d'), A: at('a'), Imm: r.number(r.field(w, 'i'))}
}

// with is the row's word whose fields have these numbers' lowest bits.
func (r told) with(fields map[byte]uint32) uint32 {
	left := map[byte]uint32{}
	for letter, v := range fields {
		left[letter] = v
	}
	var w uint32
	for k := 31; k >= 0; k-- {
		bit := uint32(r.word[k] - '0')
		if r.word[k] != '0' && r.word[k] != '1' {
			bit = left[r.word[k]] % 2
			left[r.word[k]] /= 2
		}
		w |= bit << (31 - k)
	}
	return w
}

// all is the row's word whose fields are all full of the same bit.
func (r told) all(bit uint32) uint32 {
	v := bit * math.MaxUint32
	return r.with(map[byte]uint32{'s': v, 't': v, 'd': v, 'a': v, 'i': v})
}

// plain is Decode as the chapter tells it.
func plain(rows []told, w uint32) api.Ins {
	for _, r := range rows {
		if r.fits(w) {
			return r.read(w)
		}
	}
	return api.Ins{}
}

// spread answers numbers that are spread out, always the same ones.
func spread() func() uint32 {
	v := uint32(2463534242)
	return func() uint32 {
		v ^= v << 13
		v ^= v >> 17
		v ^= v << 5
		return v
	}
}

// wantWord holds a word and its instruction to each other.
func wantWord(t *testing.T, what string, w uint32, want api.Ins) {
	t.Helper()
	if got := ins.Decode(w); got != want {
		t.Errorf("%s: Decode %08x: %v, not %v", what, w, got, want)
	}
	if got, err := ins.Encode(want); got != w || err != api.OK {
		t.Errorf("%s: Encode %v: %08x, error %d, not %08x", what, want, got, err, w)
	}
}

// wantNone holds Decode to say nothing of a word.
func wantNone(t *testing.T, what string, w uint32) {
	t.Helper()
	if got := ins.Decode(w); got != (api.Ins{}) {
		t.Errorf("%s: Decode %08x: %v, not none", what, w, got)
	}
}

// wantNoWord holds Encode to refuse an instruction.
func wantNoWord(t *testing.T, what string, i api.Ins) {
	t.Helper()
	if w, err := ins.Encode(i); w != 0 || err != api.ErrArg {
		t.Errorf("%s: Encode %v: %08x, error %d, not 0 and %d", what, i, w, err, api.ErrArg)
	}
}

func TestTheTableIsWhole(t *testing.T) {
	rows := table()
	if len(rows) != 69 {
		t.Fatalf("%d rows", len(rows))
	}
	for k, r := range rows {
		if r.op != k+1 || len(r.word) != 32 || r.has("n") {
			t.Errorf("row %d: %v", k, r)
		}
	}
}

func TestP81Examples(t *testing.T) {
	for range 2 { // the first use, and one behind it
		wantWord(t, "the word 0", 0, api.Ins{Op: 16})
		wantWord(t, "addiu", 0x24420001, api.Ins{Op: 40, S: 2, T: 2, Imm: 1})
	}
}

// Words and what they say, written out: no reading of the table by the tests stands between.
func TestP81WrittenOut(t *testing.T) {
	for _, x := range []struct {
		w    uint32
		want api.Ins
	}{
		{0x03fff821, api.Ins{Op: 1, S: 31, T: 31, D: 31}}, {0x00851023, api.Ins{Op: 2, S: 4, T: 5, D: 2}},
		{0x001fffc0, api.Ins{Op: 16, T: 31, D: 31, A: 31}}, {0x00031082, api.Ins{Op: 17, T: 3, D: 2, A: 2}},
		{0x03ff0018, api.Ins{Op: 19, S: 31, T: 31}}, {0x0000f810, api.Ins{Op: 23, D: 31}},
		{0x03e00011, api.Ins{Op: 25, S: 31}}, {0x03e00008, api.Ins{Op: 27, S: 31}},
		{0x03e0f809, api.Ins{Op: 28, S: 31, D: 31}}, {0x03fffff0, api.Ins{Op: 29, S: 31, T: 31, Imm: 0x3ff}},
		{0x03ffffcc, api.Ins{Op: 35, Imm: 0xfffff}}, {0x0000004d, api.Ins{Op: 36, Imm: 1}},
		{0x73fff802, api.Ins{Op: 37, S: 31, T: 31, D: 31}}, {0x73fff820, api.Ins{Op: 38, S: 31, T: 31, D: 31}},
		{0x27bdffe0, api.Ins{Op: 40, S: 29, T: 29, Imm: 0xffffffe0}}, {0x2c21ffff, api.Ins{Op: 43, S: 1, T: 1, Imm: 0xffffffff}},
		{0x33ffffff, api.Ins{Op: 44, S: 31, T: 31, Imm: 0xffff}}, {0x3c1fffff, api.Ins{Op: 47, T: 31, Imm: 0xffff}},
		{0x8fbf001c, api.Ins{Op: 51, S: 29, T: 31, Imm: 0x1c}}, {0xbbffffff, api.Ins{Op: 59, S: 31, T: 31, Imm: 0xffffffff}},
		{0x1000ffff, api.Ins{Op: 60, Imm: 0xfffffffc}}, {0x17ff8000, api.Ins{Op: 61, S: 31, T: 31, Imm: 0xfffe0000}},
		{0x1be07fff, api.Ins{Op: 62, S: 31, Imm: 0x1fffc}}, {0x1fe08000, api.Ins{Op: 63, S: 31, Imm: 0xfffe0000}},
		{0x07e0ffff, api.Ins{Op: 64, S: 31, Imm: 0xfffffffc}}, {0x04110003, api.Ins{Op: 67, Imm: 12}},
		{0x0bffffff, api.Ins{Op: 68, Imm: 0x0ffffffc}}, {0x0c000000, api.Ins{Op: 69}},
	} {
		wantWord(t, "written out", x.w, x.want)
	}
}

func TestP81FullFields(t *testing.T) {
	for _, r := range table() {
		w := r.all(1)
		full := func(letter string) int { return 1<<r.width(letter) - 1 }
		want := api.Ins{Op: r.op, S: full("s"), T: full("t"), D: full("d"), A: full("a"), Imm: r.number(uint32(full("i")))}
		wantWord(t, r.name+", all fields full", w, want)
		wantWord(t, r.name+", all fields 0", r.all(0), api.Ins{Op: r.op})
		if got := ins.Name(ins.Decode(w).Op); got != r.name {
			t.Errorf("Op %d: the name is %q, not %q", r.op, got, r.name)
		}
	}
}

// Each field alone, and each of its bits alone, comes and goes in its own place.
func TestP81EachBit(t *testing.T) {
	for _, r := range table() {
		for k := range 32 {
			if r.word[k] == '0' || r.word[k] == '1' || r.form == "Y" && r.word[k] != 's' {
				continue
			}
			w := r.all(0) | 1<<(31-k)
			wantWord(t, r.name+", one bit", w, r.read(w))
		}
	}
}

func TestP81FieldsThatAre0(t *testing.T) {
	zeros := 0
	for _, r := range table() {
		for k := range 26 {
			at := 31 - k - 6 // from the bit 25 on; the opcode is another test's
			if r.word[31-at] != '0' || at < 6 && r.word[26:] != "iiiiii" || r.form == "R" && at >= 16 {
				continue // bits of the row's own number
			}
			zeros++
			wantNone(t, r.name+", a bit that must be 0", r.all(0)|1<<at)
			wantNone(t, r.name+", full, and a bit that must be 0", r.all(1)|1<<at)
		}
	}
	// D 15 rows of 5 bits, H 3 of 5, M 4 of 10, F 2 of 15, L 3 of 15, G of 10, X 1 and Y 2 of 5, V of 5, Z 2 of 5.
	if want := 75 + 15 + 40 + 30 + 45 + 10 + 15 + 5 + 10; zeros != want {
		t.Errorf("%d bits were tried, not %d", zeros, want)
	}
}

func TestP81SameRegisters(t *testing.T) {
	for _, r := range table() {
		if r.form != "Y" {
			continue
		}
		for a := range 32 {
			for b := range 32 {
				w := r.with(map[byte]uint32{'s': 9, 't': uint32(a), 'd': uint32(b)})
				i := api.Ins{Op: r.op, S: 9, T: a, D: b}
				if a == b {
					wantWord(t, r.name, w, i)
				} else {
					wantNone(t, r.name+", t and d unlike", w)
					wantNoWord(t, r.name+", t and d unlike", i)
				}
			}
		}
	}
}

// Opcodes, functions and numbers of t without a row, whatever stands in the other bits.
func TestP81NoSuchRow(t *testing.T) {
	opcodes := []uint32{0, 1, 2, 3, 4, 5, 6, 7, 8, 9, 10, 11, 12, 13, 14, 15, 28, 32, 33, 34, 35, 36, 37, 38, 40, 41, 42, 43, 46}
	functions := []uint32{0, 2, 3, 4, 6, 7, 8, 9, 10, 11, 12, 13, 16, 17, 18, 19, 24, 25, 26, 27, 32, 33, 34, 35, 36, 37, 38, 39, 42, 43, 48, 49, 50, 51, 52, 54}
	next := spread()
	for range 200 {
		rest := next()
		for _, bits := range []uint32{0, rest, math.MaxUint32} {
			for v := range uint32(64) {
				if !slices.Contains(opcodes, v) {
					wantNone(t, "opcode", v<<26|bits&0x03ffffff)
				}
				if !slices.Contains(functions, v) {
					wantNone(t, "function, opcode 0", bits&0x03ffffc0|v)
				}
				if !slices.Contains([]uint32{2, 32, 33}, v) {
					wantNone(t, "function, opcode 28", 28<<26|bits&0x03ffffc0|v)
				}
				if v < 32 && !slices.Contains([]uint32{0, 1, 16, 17}, v) {
					wantNone(t, "t, opcode 1", 1<<26|bits&0x03e0ffff|v<<16)
				}
			}
		}
	}
}

func TestP81Opcodes(t *testing.T) {
	// Which of the opcodes, functions and numbers of t have a row is seen with all other bits 0: every form takes that.
	rows := table()
	for v := range uint32(64) {
		for _, w := range []uint32{v << 26, v, 28<<26 | v, 1<<26 | v%32<<16} {
			if got, want := ins.Decode(w), plain(rows, w); got != want {
				t.Errorf("Decode %08x: %v, not %v", w, got, want)
			}
		}
	}
}

func TestP81Imm(t *testing.T) {
	for _, x := range []struct {
		what        string
		ops         []int
		at          int
		field, want []uint32
	}{
		{"bits 6 to 15", []int{29, 30, 31, 32, 33, 34}, 6, []uint32{0, 1, 0x1ff, 0x200, 0x3fe, 0x3ff}, []uint32{0, 1, 0x1ff, 0x200, 0x3fe, 0x3ff}},
		{"bits 6 to 25", []int{35, 36}, 6, []uint32{0, 1, 0x7ffff, 0x80000, 0xffffe, 0xfffff}, []uint32{0, 1, 0x7ffff, 0x80000, 0xffffe, 0xfffff}},
		{"with its sign", []int{40, 41, 42, 43, 48, 49, 50, 51, 52, 53, 54, 55, 56, 57, 58, 59}, 0, []uint32{0, 1, 0x7fff, 0x8000, 0x8001, 0xffff}, []uint32{0, 1, 0x7fff, 0xffff8000, 0xffff8001, 0xffffffff}},
		{"without its sign", []int{44, 45, 46, 47}, 0, []uint32{0, 1, 0x7fff, 0x8000, 0x8001, 0xffff}, []uint32{0, 1, 0x7fff, 0x8000, 0x8001, 0xffff}},
		{"with its sign, times 4", []int{60, 61, 62, 63, 64, 65, 66, 67}, 0, []uint32{0, 1, 0x7fff, 0x8000, 0x8001, 0xffff}, []uint32{0, 4, 0x1fffc, 0xfffe0000, 0xfffe0004, 0xfffffffc}},
		{"times 4", []int{68, 69}, 0, []uint32{0, 1, 0x1ffffff, 0x2000000, 0x3fffffe, 0x3ffffff}, []uint32{0, 4, 0x7fffffc, 0x8000000, 0xffffff8, 0xffffffc}},
	} {
		for _, op := range x.ops {
			base, err := ins.Encode(api.Ins{Op: op})
			if err != api.OK {
				t.Fatalf("Op %d, all 0: error %d", op, err)
			}
			for k, v := range x.field {
				wantWord(t, x.what, base|v<<x.at, api.Ins{Op: op, Imm: x.want[k]})
			}
		}
	}
}

// immBounds are numbers just within, and just beyond, what a row's Imm may be.
func immBounds(r told) (within, beyond []uint32) {
	switch {
	case r.width("i") == 0:
		return []uint32{0}, []uint32{1, 4, math.MaxUint32}
	case r.imm == "sign":
		return []uint32{0, 1, 2, 0x7fff, 0xffff8000, math.MaxUint32}, []uint32{0x8000, 0xffff, 0x10000, 0xffff7fff, 1 << 31}
	case r.imm == "sign times 4":
		return []uint32{0, 4, 0x1fffc, 0xfffe0000, 0xfffffffc}, []uint32{1, 2, 3, 5, 0x1fffd, 0x1fffe, 0x1ffff, 0x20000, 0x3fffc, 0xfffdfffc, 0xfffdffff, 0xfffe0001, 0xfffffffd, 0xffffffff, 1 << 31}
	case r.imm == "times 4":
		return []uint32{0, 4, 0x8000000, 0xffffffc}, []uint32{1, 2, 3, 0xffffffd, 0xfffffff, 0x10000000, 0x10000004, 0xfffffffc, math.MaxUint32}
	default:
		most := uint32(1)<<r.width("i") - 1
		return []uint32{0, 1, most - 1, most}, []uint32{most + 1, most + 2, 2*most + 1, 1 << 31, -most, math.MaxUint32}
	}
}

func TestP82ImmBeyond(t *testing.T) {
	for _, r := range table() {
		within, beyond := immBounds(r)
		for _, v := range within {
			if w, err := ins.Encode(api.Ins{Op: r.op, Imm: v}); err != api.OK || ins.Decode(w).Imm != v {
				t.Errorf("%s, Imm %x: %08x, error %d", r.name, v, w, err)
			}
		}
		for _, v := range beyond {
			wantNoWord(t, r.name+", Imm beyond", api.Ins{Op: r.op, Imm: v})
		}
	}
}

// setters put a number into one of the registers' fields, by its letter.
var setters = map[string]func(i *api.Ins, v int){
	"s": func(i *api.Ins, v int) { i.S = v },
	"t": func(i *api.Ins, v int) { i.T = v },
	"d": func(i *api.Ins, v int) { i.D = v },
	"a": func(i *api.Ins, v int) { i.A = v },
}

// strange are numbers that no register and no amount is; some are 0 or 1 but for bits far up.
var strange = []int{-1, -2, -31, -32, 32, 33, 63, 64, 1 << 16, 1 << 31, 1<<31 - 1, -1 << 31, 1 << 32, 1<<32 + 1, 1<<32 + 31, -1 << 32, 1 - 1<<32, math.MaxInt, math.MinInt}

func TestP82Registers(t *testing.T) {
	for _, r := range table() {
		for letter, set := range setters {
			for _, v := range strange {
				i := api.Ins{Op: r.op}
				set(&i, v)
				wantNoWord(t, r.name+", no such "+letter, i)
				if r.form == "Y" { // alike, and still none
					i.T, i.D = v, v
					wantNoWord(t, r.name+", no such t and d", i)
				}
			}
			for v := range 32 {
				i := api.Ins{Op: r.op}
				set(&i, v)
				if r.form == "Y" && letter != "s" && letter != "a" {
					i.T, i.D = v, v
				}
				if v == 0 || r.has(letter) {
					if w, err := ins.Encode(i); err != api.OK || ins.Decode(w) != i || !r.fits(w) {
						t.Errorf("%s, %s %d: %08x, error %d", r.name, letter, v, w, err)
					}
				} else {
					wantNoWord(t, r.name+" has no "+letter, i)
				}
			}
		}
	}
}

func TestP82NoOp(t *testing.T) {
	for _, op := range others() {
		for _, i := range []api.Ins{{Op: op}, {Op: op, S: 1, T: 2, D: 3}, {Op: op, T: 1, D: 1, A: 1}, {Op: op, Imm: 4}, {Op: op, S: -1, T: 99, Imm: math.MaxUint32}} {
			wantNoWord(t, "no such Op", i)
		}
	}
	// What Decode says of a word that is none is no instruction.
	wantNoWord(t, "none", ins.Decode(math.MaxUint32))
}

// others are numbers of which there is no Op; some are one but for bits far up.
func others() []int {
	l := []int{0, -1, -2, -16, -69, -70, 70, 71, 85, 127, 128, 255, 256, 272, 1 << 16, 1<<16 + 1, 1 << 31, 1 << 32, 1<<32 + 1, 1<<32 + 16, 1<<32 + 69, -1 << 32, 16 - 1<<32, math.MaxInt, math.MaxInt - 1, math.MinInt, math.MinInt + 1, math.MinInt + 16}
	for v := 70; v < 300; v++ {
		l = append(l, v, -v)
	}
	return l
}

func TestP83Names(t *testing.T) {
	rows := table()
	seen := map[string]int{}
	for op := 1; op <= 69; op++ {
		if got := ins.Name(op); got != rows[op-1].name || got == "" {
			t.Errorf("Name %d: %q, not %q", op, got, rows[op-1].name)
		}
		if seen[ins.Name(op)]++; seen[ins.Name(op)] > 1 {
			t.Errorf("Name %d: %q, which another one has too", op, ins.Name(op))
		}
	}
	for _, op := range others() {
		if got := ins.Name(op); got != "" {
			t.Errorf("Name %d: %q", op, got)
		}
	}
}

func TestP83Kinds(t *testing.T) {
	byName := map[string]int{"jr": 2, "jalr": 2, "syscall": 3, "break": 3, "add": 6, "sub": 6, "addi": 6}
	for _, r := range table() {
		want := 1
		switch {
		case byName[r.name] != 0:
			want = byName[r.name]
		case r.op >= 60:
			want = 2
		case r.op >= 55:
			want = 5
		case r.op >= 48:
			want = 4
		case r.op >= 29 && r.op <= 34:
			want = 6
		}
		if got := ins.Kind(r.op); got != want {
			t.Errorf("Kind of %s: %d, not %d", r.name, got, want)
		}
	}
	for _, op := range others() {
		if got := ins.Kind(op); got != 0 {
			t.Errorf("Kind %d: %d", op, got)
		}
	}
}

// someWords are words of all rows with fields spread out, the same with one bit turned, and words that are spread out themselves.
func someWords() []uint32 {
	var l []uint32
	next := spread()
	for _, r := range table() {
		for range 60 {
			same := next()
			fields := map[byte]uint32{'s': next(), 't': same, 'd': next(), 'a': next(), 'i': next()}
			if r.form == "Y" {
				fields['d'] = same
			}
			w := r.with(fields)
			l = append(l, w, w^1<<(next()%32), w^1<<(next()%32))
		}
	}
	for range 5000 {
		l = append(l, next(), next()&0x03ffffff, 28<<26|next()&0x03ffffff, 1<<26|next()&0x03ffffff)
	}
	return l
}

func TestP81SomeWords(t *testing.T) {
	rows := table()
	for _, w := range someWords() {
		if got, want := ins.Decode(w), plain(rows, w); got != want {
			t.Fatalf("Decode %08x: %v, not %v", w, got, want)
		}
	}
}

func TestP84EncodeOfDecode(t *testing.T) {
	found := map[int]int{}
	for _, w := range someWords() {
		i := ins.Decode(w)
		if i.Op == 0 {
			wantNoWord(t, "none", i)
			continue
		}
		found[i.Op]++
		if got, err := ins.Encode(i); got != w || err != api.OK {
			t.Fatalf("Encode of Decode %08x: %08x, error %d", w, got, err)
		}
	}
	for op := 1; op <= 69; op++ {
		if found[op] < 20 {
			t.Errorf("Op %d: %d words only", op, found[op])
		}
	}
}

// fieldsOf asks of instructions of one Op, all of the fields taken from short lists, so that many may be and many may not.
func fieldsOf(op int, ask func(i api.Ins)) {
	registers := []int{0, 1, 31, 32, -1}
	numbers := []uint32{0, 1, 4, 0x3fc, 0x7fff, 0x8000, 0xfffc, 0x1fffc, 0xfffff, 0xffffffc, 0xfffe0000, 0xffff8000, 0xfffffffc, math.MaxUint32}
	for _, s := range registers {
		for _, t := range registers {
			for _, d := range registers {
				for _, a := range registers {
					for _, v := range numbers {
						ask(api.Ins{Op: op, S: s, T: t, D: d, A: a, Imm: v})
					}
				}
			}
		}
	}
}

// mayBe says whether there is a word of an instruction, field by field.
func (r told) mayBe(i api.Ins) bool {
	for letter, v := range map[string]int{"s": i.S, "t": i.T, "d": i.D, "a": i.A} {
		if v < 0 || v > 31 || v != 0 && !r.has(letter) {
			return false
		}
	}
	if r.form == "Y" && i.T != i.D {
		return false
	}
	least, most, step := int64(0), int64(1)<<r.width("i")-1, int64(1)
	if strings.Contains(r.imm, "sign") {
		least, most = -1<<15, 1<<15-1
	}
	if strings.Contains(r.imm, "times 4") {
		least, most, step = 4*least, 4*most, 4
	}
	v := int64(i.Imm)
	if least < 0 {
		v = int64(int32(i.Imm))
	}
	return v >= least && v <= most && v%step == 0
}

func TestP84DecodeOfEncode(t *testing.T) {
	for _, r := range table() {
		may := 0
		fieldsOf(r.op, func(i api.Ins) {
			w, err := ins.Encode(i)
			if !r.mayBe(i) {
				if w != 0 || err != api.ErrArg {
					t.Errorf("Encode %v: %08x, error %d; there is no such word", i, w, err)
				}
				return
			}
			may++
			if got := ins.Decode(w); err != api.OK || got != i || !r.fits(w) {
				t.Errorf("Encode %v: %08x, error %d, which is %v", i, w, err, got)
			}
		})
		if may < 2 {
			t.Errorf("%s: %d instructions only", r.name, may)
		}
	}
}

// answers is what the calls say of many arguments, as one text.
func answers() string {
	var b strings.Builder
	tell := func(l ...int) {
		for _, v := range l {
			b.WriteString(strconv.Itoa(v) + " ")
		}
	}
	for k, w := range someWords() {
		if k%7 != 0 {
			continue
		}
		i := ins.Decode(w)
		again, err := ins.Encode(i)
		tell(i.Op, i.S, i.T, i.D, i.A, int(i.Imm), int(again), int(err), ins.Kind(i.Op))
		b.WriteString(ins.Name(i.Op) + "\n")
	}
	for _, op := range others() {
		w, err := ins.Encode(api.Ins{Op: op})
		tell(int(w), int(err), ins.Kind(op))
		b.WriteString(ins.Name(op) + "\n")
	}
	return b.String()
}

func TestR4TheSameAgain(t *testing.T) {
	first := answers()
	for range 3 {
		if answers() != first {
			t.Fatal("what was said is not said again")
		}
	}
}

func TestR4CallsAtOneTime(t *testing.T) {
	var all sync.WaitGroup
	texts := make([]string, 8)
	for k := range texts {
		all.Go(func() { texts[k] = answers() })
	}
	all.Wait()
	for _, text := range texts {
		if text != answers() {
			t.Fatal("what was said at one time is not what is said alone")
		}
	}
}

// Each call may be the first one, whether it makes the table or not: every test here is run in a process of its own.
func TestR4AnyCallFirst(t *testing.T) {
	for _, name := range []string{"TestP81WrittenOut", "TestP82ImmBeyond", "TestP82NoOp", "TestP83Names", "TestP83Kinds", "TestR4CallsAtOneTime"} {
		out, err := exec.Command(os.Args[0], "-test.run=^"+name+"$").CombinedOutput()
		if err != nil {
			t.Errorf("%s alone: %v\n%s", name, err, out)
		}
	}
}

func TestR1NoPanic(t *testing.T) {
	words := []uint32{0, 1, 1 << 31, 1<<31 - 1, math.MaxUint32}
	for k := range 32 {
		words = append(words, 1<<k, ^uint32(1<<k))
	}
	for _, w := range words {
		ins.Decode(w)
	}
	numbers := append(slices.Clone(strange), 0, 1, 16, 31, 69, 70)
	next := spread()
	for range 50000 {
		pick := func() int { return numbers[int(next()%uint32(len(numbers)))] }
		i := api.Ins{Op: pick(), S: pick(), T: pick(), D: pick(), A: pick(), Imm: next()}
		if w, err := ins.Encode(i); err != api.OK && (err != api.ErrArg || w != 0) || err == api.OK && ins.Decode(w) != i {
			t.Fatalf("Encode %v: %08x, error %d", i, w, err)
		}
		ins.Name(i.S)
		ins.Kind(i.S)
	}
}
