package step_test

import (
	"encoding/binary"
	"math"
	"math/bits"
	"slices"
	"strings"
	"testing"

	"calque/api"
	"calque/ins"
	"calque/mem"
	"calque/step"
)

const (
	full = math.MaxUint32
	last = 1<<32 - api.PageSize // the last page that there may be
	data = 0x200                // a page that may be read and written
)

// names are the instructions from Op 1 on; opOf goes by it, so that the tests have their numbers from nowhere else.
const names = "addu subu and or xor nor slt sltu add sub sllv srlv srav movz movn sll srl sra mult multu div divu mfhi mflo mthi mtlo jr jalr " +
	"tge tgeu tlt tltu teq tne syscall break mul clz clo addiu addi slti sltiu andi ori xori lui lb lh lwl lw lbu lhu lwr sb sh swl sw swr " +
	"beq bne blez bgtz bltz bgez bltzal bgezal j jal"

const (
	jumpers = "jr jalr beq bne blez bgtz bltz bgez bltzal bgezal j jal"
	linkers = "jalr bltzal bgezal jal"
	readers = "lb lh lwl lw lbu lhu lwr"
	writers = "sb sh swl sw swr"
)

// in says whether a name is one of those in a text.
func in(name, text string) bool { return strings.Contains(" "+text+" ", " "+name+" ") }

// opOf is the Op of a name.
func opOf(name string) int {
	k := slices.Index(strings.Fields(names), name)
	if k < 0 {
		panic("no instruction " + name)
	}
	return k + 1
}

// nameOf is the name of an Op, "none" of others.
func nameOf(op int) string {
	l := strings.Fields(names)
	if op < 1 || op > len(l) {
		return "none"
	}
	return l[op-1]
}

// The tests' names and numbers are those of layer 8.
func TestTheNamesAreThoseOfIns(t *testing.T) {
	for op := -5; op < 200; op++ {
		want := nameOf(op)
		if want == "none" {
			want = ""
		}
		if got := ins.Name(op); got != want {
			t.Errorf("Op %d: %q, not %q", op, got, want)
		}
	}
}

// spread answers numbers that are spread out, always the same ones.
func spread() func() uint32 {
	v := uint32(2463534242)
	return func() uint32 {
		v ^= v << 13
		v ^= v >> 17
		v ^= v << 5
		return v
	}
}

// values are edges, single bits, and numbers that are spread out.
func values() []uint32 {
	l := []uint32{0, 1, 2, 3, 4, 8, 0x7fff, 0x8000, 0xffff, 0x10000, 0x0ffffffc, 0x10000000, 0x7ffffffc, 0x7fffffff, 0x80000000, 0x80000001, 0xf0000000, full - 8, full - 7, full - 4, full - 3, full - 2, full - 1, full}
	next := spread()
	for range 12 {
		l = append(l, next())
	}
	return l
}

// wordOf is the word of an instruction of a name.
func wordOf(t *testing.T, name string, i api.Ins) uint32 {
	t.Helper()
	i.Op = opOf(name)
	w, err := ins.Encode(i)
	if err != api.OK {
		t.Fatalf("Encode of %s %v: error %d", name, i, err)
	}
	return w
}

// lay puts a word at a place.
func lay(t *testing.T, m *mem.Mem, at, w uint32) {
	t.Helper()
	for k, v := range binary.BigEndian.AppendUint32(nil, w) {
		if !m.Poke(at+uint32(k), v) {
			t.Fatalf("Poke(%#x) is false", at+uint32(k))
		}
	}
}

// pages is a memory of pages with perms, by their places, all filled and watched.
func pages(t *testing.T, perms map[uint32]int) *mem.Mem {
	t.Helper()
	m := mem.New(api.MaxPages)
	for at, perm := range perms {
		if err := m.Map(at, perm); err != api.OK {
			t.Fatalf("Map(%#x): error %d", at, err)
		}
		next := spread()
		for k := range uint32(api.PageSize) {
			m.Poke(at+k, byte(next()>>9))
		}
		m.Watch(at, true)
	}
	return m
}

// usual is a memory with code at 0 and on the last page, pages for what is read and written, and one of each other sort.
func usual(t *testing.T) *mem.Mem {
	t.Helper()
	return pages(t, map[uint32]int{0: api.Read | api.Exec, data: api.Read | api.Write, 0x300: api.Read, 0x400: api.Write, 0x500: api.Exec, 0x600: 0, last: api.Read | api.Write | api.Exec})
}

// begin is a state whose registers are all unlike each other, and unlike 0; R[0] is too, for it counts as 0.
func begin(pc uint32) api.State {
	s := api.State{PC: pc, Next: pc + 4, HI: 0x41414141, LO: 0x42424242}
	for k := range s.R {
		s.R[k] = 0x0a0b0c00 + uint32(k)
	}
	return s
}

// behind is a state as it is behind an instruction that turns nothing.
func behind(s api.State) api.State {
	s.R[0] = 0
	s.PC, s.Next, s.Slot = s.Next, s.Next+4, false
	return s
}

// wantStep holds a step to what is to be seen of it: the state, the outcome, the fault, each byte, and which places were written.
func wantStep(t *testing.T, what string, m *mem.Mem, s, state api.State, how int, fault api.Fault, after *mem.Mem, places []uint32) {
	t.Helper()
	m.Touched()
	got, gotHow, gotFault := step.Step(m, s)
	if got != state {
		t.Errorf("%s: the state is %v, not %v", what, got, state)
	}
	if gotHow != how || gotFault != fault {
		t.Errorf("%s: %d, %v, not %d, %v", what, gotHow, gotFault, how, fault)
	}
	if !m.Same(after) {
		t.Errorf("%s: other pages or bytes", what)
	}
	if l := m.Touched(); !slices.Equal(l, places) {
		t.Errorf("%s: wrote %#x, not %#x", what, l, places)
	}
}

// wantWent holds a step that goes on, and writes nothing, to the state behind it.
func wantWent(t *testing.T, what string, m *mem.Mem, s, state api.State) {
	t.Helper()
	wantStep(t, what, m, s, state, step.Went, api.Fault{}, m.Copy(), nil)
}

// wantStopped holds a step to its fault: all else stays as it was.
func wantStopped(t *testing.T, what string, m *mem.Mem, s api.State, kind int, bad uint32) {
	t.Helper()
	wantStep(t, what, m, s, s, step.Stopped, api.Fault{Kind: kind, PC: s.PC, Slot: s.Slot, Bad: bad}, m.Copy(), nil)
}

// signed is a number with its sign.
func signed(v uint32) int64 { return int64(int32(v)) }

// truth is 1 of true.
func truth(is bool) int64 {
	if is {
		return 1
	}
	return 0
}

// sum is what add, sub, addi and their like come to, before it is cut to 32 bits.
func sum(name string, i api.Ins, s, t uint32) int64 {
	switch name {
	case "add", "addu":
		return signed(s) + signed(t)
	case "sub", "subu":
		return signed(s) - signed(t)
	}
	return signed(s) + signed(i.Imm) // addi, addiu
}

// traps is whether one traps, as the chapters tell it.
func traps(name string, i api.Ins, s, t uint32) bool {
	switch name {
	case "add", "sub", "addi":
		v := sum(name, i, s, t)
		return v > math.MaxInt32 || v < math.MinInt32
	case "tge":
		return signed(s) >= signed(t)
	case "tgeu":
		return s >= t
	case "tlt":
		return signed(s) < signed(t)
	case "tltu":
		return s < t
	case "teq":
		return s == t
	case "tne":
		return s != t
	}
	return false
}

// taken is whether one that jumps does.
func taken(name string, s, t uint32) bool {
	switch name {
	case "beq":
		return s == t
	case "bne":
		return s != t
	case "blez":
		return signed(s) <= 0
	case "bgtz":
		return signed(s) > 0
	case "bltz", "bltzal":
		return signed(s) < 0
	case "bgez", "bgezal":
		return signed(s) >= 0
	}
	return true
}

// way is where one that jumps leads to, by numbers of 64 bits.
func way(name string, next, s, imm uint32) uint32 {
	switch name {
	case "jr", "jalr":
		return s
	case "j", "jal":
		return next/0x10000000*0x10000000 + imm
	}
	return uint32((uint64(next) + uint64(imm)) % (1 << 32))
}

// reckoned is what those put into their register that reckon.
func reckoned(name string, i api.Ins, s, t uint32) (int64, bool) {
	amount := uint(i.A)
	if in(name, "sllv srlv srav") {
		amount = uint(s % 32)
	}
	switch name {
	case "add", "addu", "sub", "subu", "addi", "addiu":
		return sum(name, i, s, t), true
	case "and":
		return int64(s & t), true
	case "or":
		return int64(s | t), true
	case "xor":
		return int64(s ^ t), true
	case "nor":
		return int64(^(s | t)), true
	case "andi":
		return int64(s & i.Imm), true
	case "ori":
		return int64(s | i.Imm), true
	case "xori":
		return int64(s ^ i.Imm), true
	case "slt":
		return truth(signed(s) < signed(t)), true
	case "sltu":
		return truth(s < t), true
	case "slti":
		return truth(signed(s) < signed(i.Imm)), true
	case "sltiu":
		return truth(s < i.Imm), true
	case "sll", "sllv":
		return int64(uint64(t) << amount), true
	case "srl", "srlv":
		return int64(t) >> amount, true
	case "sra", "srav":
		return signed(t) >> amount, true
	case "mul":
		return signed(s) * signed(t), true
	case "clz":
		return int64(bits.LeadingZeros32(s)), true
	case "clo":
		return int64(bits.LeadingZeros32(^s)), true
	case "lui":
		return int64(i.Imm) * 65536, true
	}
	return 0, false
}

// long is what HI and LO are behind an instruction.
func long(name string, s, t, hi, lo uint32) (uint32, uint32) {
	switch name {
	case "mult":
		v := uint64(signed(s) * signed(t))
		return uint32(v >> 32), uint32(v)
	case "multu":
		v := uint64(s) * uint64(t)
		return uint32(v >> 32), uint32(v)
	case "div":
		if t == 0 {
			return 0, 0
		}
		return uint32(signed(s) % signed(t)), uint32(signed(s) / signed(t))
	case "divu":
		if t == 0 {
			return 0, 0
		}
		return s % t, s / t
	case "mthi":
		return s, lo
	case "mtlo":
		return hi, s
	}
	return hi, lo
}

// read is what those put into their register that read, byte by byte.
func read(m *mem.Mem, name string, at, old uint32) uint32 {
	k := at % 4
	word, was := m.Bytes(at-k, 4), binary.BigEndian.AppendUint32(nil, old)
	switch name {
	case "lb":
		return uint32(int32(int8(m.Peek(at))))
	case "lbu":
		return uint32(m.Peek(at))
	case "lh":
		return uint32(int32(int16(binary.BigEndian.Uint16(m.Bytes(at, 2)))))
	case "lhu":
		return uint32(binary.BigEndian.Uint16(m.Bytes(at, 2)))
	case "lwl":
		return binary.BigEndian.Uint32(slices.Concat(word[k:], was[4-k:]))
	case "lwr":
		return binary.BigEndian.Uint32(slices.Concat(was[:3-k], word[:k+1]))
	}
	return binary.BigEndian.Uint32(word) // lw
}

// written is from which place on one writes, and which bytes.
func written(name string, at, v uint32) (uint32, []byte) {
	k, b := at%4, binary.BigEndian.AppendUint32(nil, v)
	switch name {
	case "sb":
		return at, b[3:]
	case "sh":
		return at, b[2:]
	case "swl":
		return at, b[:4-k]
	case "swr":
		return at - k, b[3-k:]
	}
	return at, b // sw
}

// asked is the kind of the fault of a place that is read or written; 0: none.
func asked(m *mem.Mem, name string, at uint32) int {
	odd := in(name, "lh lhu sh") && at%2 == 1 || in(name, "lw sw") && at%4 != 0
	switch {
	case in(name, readers) && odd:
		return api.LoadAlign
	case in(name, writers) && odd:
		return api.StoreAlign
	case in(name, readers) && !slices.Contains([]int{4, 5, 6, 7}, m.Perm(at)):
		return api.LoadPage
	case in(name, writers) && !slices.Contains([]int{2, 3, 6, 7}, m.Perm(at)):
		return api.StorePage
	}
	return 0
}

// register is the register that an instruction puts something into.
func register(name string, i api.Ins) int {
	switch {
	case in(name, "bltzal bgezal jal"):
		return 31
	case in(name, readers+" addiu addi slti sltiu andi ori xori lui"):
		return i.T
	}
	return i.D
}

// seen is all that is seen of a step: also the places that were written.
type seen struct {
	state  api.State
	how    int
	fault  api.Fault
	places []uint32
}

// plainFault is which of the five comes first, as the chapter tells it; 0: none.
func plainFault(m *mem.Mem, s api.State) (int, uint32) {
	if s.PC%4 != 0 {
		return api.FetchAlign, s.PC
	}
	if m.Perm(s.PC)%2 == 0 {
		return api.FetchPage, s.PC
	}
	i := ins.Decode(m.Word(s.PC))
	name, r := nameOf(i.Op), s.R
	r[0] = 0
	place := uint32((uint64(r[i.S]) + uint64(i.Imm)) % (1 << 32))
	switch {
	case name == "none", s.Slot && in(name, jumpers):
		return api.Reserved, 0
	case name == "break":
		return api.Break, 0
	case traps(name, i, r[i.S], r[i.T]) && in(name, "add sub addi"):
		return api.Overflow, 0
	case traps(name, i, r[i.S], r[i.T]):
		return api.Trap, 0
	case asked(m, name, place) != 0:
		return asked(m, name, place), place
	}
	return 0, 0
}

// plain is P11.2 as the chapter tells it; it turns the memory.
func plain(m *mem.Mem, s api.State) seen {
	if kind, bad := plainFault(m, s); kind != 0 {
		return seen{s, 2, api.Fault{Kind: kind, PC: s.PC, Slot: s.Slot, Bad: bad}, nil}
	}
	i := ins.Decode(m.Word(s.PC))
	name, r := nameOf(i.Op), s.R
	if name == "syscall" {
		return seen{s, 1, api.Fault{}, nil}
	}
	r[0] = 0
	to, vs, vt := behind(s), r[i.S], r[i.T]
	place := vs + i.Imm
	to.HI, to.LO = long(name, vs, vt, s.HI, s.LO)
	v, puts := reckoned(name, i, vs, vt)
	var places []uint32
	switch {
	case in(name, "movz movn"):
		v, puts = int64(vs), (vt == 0) == (name == "movz")
	case name == "mfhi":
		v, puts = int64(s.HI), true
	case name == "mflo":
		v, puts = int64(s.LO), true
	case in(name, readers):
		v, puts = int64(read(m, name, place, vt)), true
	case in(name, linkers):
		v, puts = int64(s.Next)+4, true
	case in(name, writers):
		from, l := written(name, place, vt)
		for k, x := range l {
			m.Poke(from+uint32(k), x)
			places = append(places, from+uint32(k))
		}
	}
	if in(name, jumpers) {
		to.Slot = true
		if taken(name, vs, vt) {
			to.Next = way(name, s.Next, vs, i.Imm)
		}
	}
	if puts {
		to.R[register(name, i)] = uint32(v)
	}
	to.R[0] = 0
	return seen{to, 0, api.Fault{}, places}
}

// wantPlain holds a step to what the chapter tells of it.
func wantPlain(t *testing.T, what string, m *mem.Mem, s api.State) {
	t.Helper()
	after := m.Copy()
	want := plain(after, s)
	wantStep(t, what, m, s, want.state, want.how, want.fault, after, want.places)
}

func wantOn(t *testing.T, s, want api.State) {
	t.Helper()
	if got := step.On(s); got != want {
		t.Errorf("On of %v: %v, not %v", s, got, want)
	}
}

func TestP111OnWrittenOut(t *testing.T) {
	wantOn(t, api.State{}, api.State{Next: 4})
	wantOn(t, api.State{PC: 8, Next: 12, Slot: true}, api.State{PC: 12, Next: 16})
	wantOn(t, api.State{PC: 8, Next: 100, HI: 1, LO: 2}, api.State{PC: 100, Next: 104, HI: 1, LO: 2})
	wantOn(t, api.State{PC: 100, Next: 8, Slot: true}, api.State{PC: 8, Next: 12})
	wantOn(t, api.State{PC: 1, Next: 3}, api.State{PC: 3, Next: 7})
	wantOn(t, api.State{PC: full - 7, Next: full - 3}, api.State{PC: full - 3, Next: 0})
	wantOn(t, api.State{PC: full - 3, Next: 0, Slot: true}, api.State{PC: 0, Next: 4})
	wantOn(t, api.State{PC: full, Next: full}, api.State{PC: full, Next: 3})
	s := api.State{Next: 4, R: [32]uint32{9, 1, 31: 7}}
	wantOn(t, s, api.State{PC: 4, Next: 8, R: [32]uint32{0, 1, 31: 7}})
}

// At any PC, Next and Slot; only R[0] of the registers turns.
func TestP111OnAny(t *testing.T) {
	for _, pc := range values() {
		for _, next := range values() {
			for _, slot := range []bool{false, true} {
				s := begin(pc)
				s.Next, s.Slot = next, slot
				want := s
				want.PC, want.Next, want.Slot, want.R[0] = next, uint32((uint64(next)+4)%(1<<32)), false, 0
				wantOn(t, s, want)
			}
		}
	}
}

func wantTarget(t *testing.T, name string, imm, next, v, want uint32) {
	t.Helper()
	if got := step.Target(api.Ins{Op: opOf(name), Imm: imm}, next, v); got != want {
		t.Errorf("Target of %s %#x, %#x, %#x: %#x, not %#x", name, imm, next, v, got, want)
	}
}

func TestP111TargetWrittenOut(t *testing.T) {
	for _, name := range []string{"jr", "jalr"} {
		wantTarget(t, name, 0, 12, 100, 100)
		wantTarget(t, name, 0, full-3, 0, 0)
		wantTarget(t, name, 0, 12, 102, 102)
		wantTarget(t, name, 0, 12, full, full)
	}
	for _, name := range []string{"j", "jal"} {
		wantTarget(t, name, 0, 12, 100, 0)
		wantTarget(t, name, 8, 0x10000000, 100, 0x10000008)
		wantTarget(t, name, 8, 0x0ffffffc, 100, 8)
		wantTarget(t, name, 0x0ffffffc, 0xa0000004, 100, 0xaffffffc)
		wantTarget(t, name, 0x0ffffffc, full-3, 100, full-3)
		wantTarget(t, name, 0, full-3, 100, 0xf0000000)
		wantTarget(t, name, 0x0ffffffc, 0, 100, 0x0ffffffc)
		wantTarget(t, name, 4, 0x80000000, 100, 0x80000004)
	}
	for _, name := range strings.Fields("beq bne blez bgtz bltz bgez bltzal bgezal") {
		wantTarget(t, name, 0, 12, 100, 12)
		wantTarget(t, name, 8, 12, 100, 20)
		wantTarget(t, name, full-7, 12, 100, 4)
		wantTarget(t, name, full-15, 12, 100, full-3)
		wantTarget(t, name, 0x1fffc, 0x0ffffffc, 100, 0x1001fff8)
		wantTarget(t, name, 4, full-3, 100, 0)
		wantTarget(t, name, 0x1fffc, full-3, 100, 0x1fff8)
		wantTarget(t, name, full-3, 0, 100, full-3)
		wantTarget(t, name, 0xfffe0000, 0, 100, 0xfffe0000)
	}
}

// Each Op that jumps, with numbers that its words may have; registers play no part.
func TestP111TargetEach(t *testing.T) {
	for _, name := range strings.Fields(jumpers) {
		for _, imm := range []uint32{0, 4, 8, 0x100, 0x1fffc, 0x0ffffffc, 0xfffe0000, full - 7, full - 3} {
			if in(name, "j jal") && imm > 0x0ffffffc {
				continue
			}
			for _, next := range values() {
				for _, v := range values() {
					want := way(name, next, v, imm)
					wantTarget(t, name, imm, next, v, want)
					i := api.Ins{Op: opOf(name), S: 31, T: -7, D: 99, A: math.MinInt, Imm: imm}
					if got := step.Target(i, next, v); got != want {
						t.Errorf("Target of %s %v: %#x, not %#x", name, i, got, want)
					}
				}
			}
		}
	}
}

func TestP112Example(t *testing.T) {
	m := usual(t)
	lay(t, m, 8, wordOf(t, "jr", api.Ins{S: 5}))
	s := begin(8)
	s.R[5] = 100
	want := s
	want.R[0], want.PC, want.Next, want.Slot = 0, 12, 100, true
	wantWent(t, "jr", m, s, want)
}

// some is a state whose registers 1 to 8 have numbers that the tables below are made for.
func some() api.State {
	s := begin(16)
	s.R[1], s.R[2], s.R[3], s.R[4] = 7, full-2, 0x80000000, 0x7fffffff
	s.R[5], s.R[6], s.R[7], s.R[8] = data, 0x12345678, 0, 33
	return s
}

// What each that reckons puts, and into which register; all else is as it is behind one that turns nothing. HI and LO stay.
func TestP112ReckonsWrittenOut(t *testing.T) {
	for _, x := range []struct {
		name string
		i    api.Ins
		into int
		want uint32
	}{
		{"addu", api.Ins{S: 1, T: 2, D: 9}, 9, 4}, {"addu", api.Ins{S: 4, T: 1, D: 9}, 9, 0x80000006},
		{"subu", api.Ins{S: 1, T: 2, D: 9}, 9, 10}, {"subu", api.Ins{S: 3, T: 1, D: 9}, 9, 0x7ffffff9},
		{"and", api.Ins{S: 4, T: 2, D: 9}, 9, 0x7ffffffd}, {"or", api.Ins{S: 3, T: 1, D: 9}, 9, 0x80000007},
		{"xor", api.Ins{S: 2, T: 4, D: 9}, 9, 0x80000002}, {"nor", api.Ins{S: 3, T: 1, D: 9}, 9, 0x7ffffff8},
		{"slt", api.Ins{S: 2, T: 1, D: 9}, 9, 1}, {"slt", api.Ins{S: 1, T: 2, D: 9}, 9, 0},
		{"sltu", api.Ins{S: 2, T: 1, D: 9}, 9, 0}, {"sltu", api.Ins{S: 1, T: 2, D: 9}, 9, 1},
		{"add", api.Ins{S: 1, T: 2, D: 9}, 9, 4}, {"sub", api.Ins{S: 2, T: 1, D: 9}, 9, full - 9},
		{"sllv", api.Ins{S: 8, T: 6, D: 9}, 9, 0x2468acf0}, {"srlv", api.Ins{S: 8, T: 2, D: 9}, 9, 0x7ffffffe}, {"srav", api.Ins{S: 8, T: 2, D: 9}, 9, full - 1},
		{"sll", api.Ins{T: 6, D: 9, A: 4}, 9, 0x23456780}, {"srl", api.Ins{T: 2, D: 9, A: 28}, 9, 15}, {"sra", api.Ins{T: 2, D: 9, A: 1}, 9, full - 1},
		{"sll", api.Ins{T: 6, D: 9}, 9, 0x12345678},
		{"mul", api.Ins{S: 1, T: 2, D: 9}, 9, full - 20}, {"clz", api.Ins{S: 1, T: 9, D: 9}, 9, 29}, {"clo", api.Ins{S: 2, T: 9, D: 9}, 9, 30},
		{"addiu", api.Ins{S: 4, T: 9, Imm: 1}, 9, 0x80000000}, {"addiu", api.Ins{S: 1, T: 9, Imm: full - 7}, 9, full},
		{"addi", api.Ins{S: 1, T: 9, Imm: full}, 9, 6}, {"slti", api.Ins{S: 2, T: 9, Imm: full}, 9, 1}, {"slti", api.Ins{S: 1, T: 9, Imm: full}, 9, 0},
		{"sltiu", api.Ins{S: 1, T: 9, Imm: full}, 9, 1}, {"sltiu", api.Ins{S: 2, T: 9, Imm: 5}, 9, 0},
		{"andi", api.Ins{S: 2, T: 9, Imm: 0xff0f}, 9, 0xff0d}, {"ori", api.Ins{S: 1, T: 9, Imm: 0xff00}, 9, 0xff07}, {"xori", api.Ins{S: 2, T: 9, Imm: 0xffff}, 9, 0xffff0002},
		{"lui", api.Ins{T: 9, Imm: 0x8001}, 9, 0x80010000},
		{"mfhi", api.Ins{D: 9}, 9, 0x41414141}, {"mflo", api.Ins{D: 9}, 9, 0x42424242},
	} {
		m, s := usual(t), some()
		lay(t, m, 16, wordOf(t, x.name, x.i))
		want := behind(s)
		want.R[x.into] = x.want
		wantWent(t, x.name, m, s, want)
	}
}

// HI and LO behind those that turn them; no register turns.
func TestP112LongWrittenOut(t *testing.T) {
	for _, x := range []struct {
		name   string
		i      api.Ins
		hi, lo uint32
	}{
		{"mult", api.Ins{S: 1, T: 2}, full, full - 20}, {"mult", api.Ins{S: 3, T: 3}, 0x40000000, 0}, {"multu", api.Ins{S: 1, T: 2}, 6, full - 20},
		{"div", api.Ins{S: 2, T: 1}, full - 2, 0}, {"div", api.Ins{S: 1, T: 2}, 1, full - 1}, {"div", api.Ins{S: 1, T: 7}, 0, 0}, {"div", api.Ins{S: 1, T: 0}, 0, 0},
		{"divu", api.Ins{S: 2, T: 1}, 1, 0x24924924}, {"divu", api.Ins{S: 1, T: 2}, 7, 0}, {"divu", api.Ins{S: 1, T: 7}, 0, 0},
		{"mthi", api.Ins{S: 6}, 0x12345678, 0x42424242}, {"mtlo", api.Ins{S: 6}, 0x41414141, 0x12345678},
		{"mthi", api.Ins{S: 0}, 0, 0x42424242}, {"mtlo", api.Ins{S: 0}, 0x41414141, 0},
	} {
		m, s := usual(t), some()
		lay(t, m, 16, wordOf(t, x.name, x.i))
		want := behind(s)
		want.HI, want.LO = x.hi, x.lo
		wantWent(t, x.name, m, s, want)
	}
}

// movz moves if R[T] is 0, movn if it is not; else D stays. R[0] counts as 0 whatever stands there.
func TestP112Moves(t *testing.T) {
	for _, x := range []struct {
		name  string
		t     int
		moves bool
	}{{"movz", 7, true}, {"movz", 1, false}, {"movz", 3, false}, {"movz", 0, true}, {"movn", 7, false}, {"movn", 1, true}, {"movn", 3, true}, {"movn", 0, false}} {
		m, s := usual(t), some()
		lay(t, m, 16, wordOf(t, x.name, api.Ins{S: 6, T: x.t, D: 9}))
		want := behind(s)
		if x.moves {
			want.R[9] = 0x12345678
		}
		wantWent(t, x.name, m, s, want)
		lay(t, m, 16, wordOf(t, x.name, api.Ins{S: 6, T: x.t, D: 0}))
		wantWent(t, x.name+" into 0", m, s, behind(s))
		lay(t, m, 16, wordOf(t, x.name, api.Ins{S: 0, T: x.t, D: 9}))
		if want = behind(s); x.moves {
			want.R[9] = 0
		}
		wantWent(t, x.name+" of 0", m, s, want)
	}
}

// One that traps goes on where it does not.
func TestP112TrapsThatDoNot(t *testing.T) {
	for _, x := range []struct {
		name string
		s, t int
	}{{"tge", 2, 1}, {"tgeu", 1, 2}, {"tlt", 1, 2}, {"tlt", 1, 1}, {"tltu", 2, 1}, {"teq", 1, 2}, {"tne", 0, 7}} {
		m, s := usual(t), some()
		lay(t, m, 16, wordOf(t, x.name, api.Ins{S: x.s, T: x.t, Imm: 0x3ff}))
		wantWent(t, x.name, m, s, behind(s))
	}
}

// What is read stands in T; what lwl and lwr leave of it is what stood there.
func TestP112LoadsWrittenOut(t *testing.T) {
	for _, x := range []struct {
		name      string
		imm, want uint32
	}{
		{"lb", 0, 0xffffff91}, {"lb", 4, 0x15}, {"lbu", 0, 0x91}, {"lbu", 7, 0x48}, {"lh", 2, 0xffffb3c4}, {"lh", 4, 0x1526}, {"lhu", 2, 0xb3c4},
		{"lw", 0, 0x91a2b3c4}, {"lw", 4, 0x15263748},
		{"lwl", 0, 0x91a2b3c4}, {"lwl", 1, 0xa2b3c409}, {"lwl", 2, 0xb3c40c09}, {"lwl", 3, 0xc40b0c09},
		{"lwr", 0, 0x0a0b0c91}, {"lwr", 1, 0x0a0b91a2}, {"lwr", 2, 0x0a91a2b3}, {"lwr", 3, 0x91a2b3c4},
	} {
		m, s := usual(t), some()
		lay(t, m, data, 0x91a2b3c4)
		lay(t, m, data+4, 0x15263748)
		lay(t, m, 16, wordOf(t, x.name, api.Ins{S: 5, T: 9, Imm: x.imm}))
		want := behind(s)
		want.R[9] = x.want
		wantWent(t, x.name, m, s, want)
		// With T the register of the place too: old is that place.
		lay(t, m, 16, wordOf(t, x.name, api.Ins{S: 5, T: 5, Imm: x.imm}))
		want = behind(s)
		want.R[5] = read(m, x.name, data+x.imm, data)
		wantWent(t, x.name+" over its place", m, s, want)
		// With T 0 what was read is nowhere, but it was read: where it may not be there is a fault.
		lay(t, m, 16, wordOf(t, x.name, api.Ins{S: 5, T: 0, Imm: x.imm}))
		wantWent(t, x.name+" into 0", m, s, behind(s))
		s.R[5] = 0x700
		wantStopped(t, x.name+" into 0", m, s, api.LoadPage, 0x700+x.imm)
	}
}

// The place is the register and the number with its sign, modulo 2^32.
func TestP112Places(t *testing.T) {
	for _, x := range []struct{ s, imm, at uint32 }{{data, 8, data + 8}, {data + 8, full - 7, data}, {4, full - 7, full - 3}, {full - 3, data + 4, data}, {full - 0x7ffb, 0x7ffc, 0}, {0x8000, 0xffff8000, 0}, {data + 0x20, 0, data + 0x20}} {
		m, s := usual(t), some()
		s.R[5] = x.s
		lay(t, m, 16, wordOf(t, "lw", api.Ins{S: 5, T: 9, Imm: x.imm}))
		want := behind(s)
		want.R[9] = m.Word(x.at)
		wantWent(t, "lw", m, s, want)
		if x.at == 0 { // a page without Write
			continue
		}
		lay(t, m, 16, wordOf(t, "sw", api.Ins{S: 5, T: 6, Imm: x.imm}))
		after := m.Copy()
		lay(t, after, x.at, 0x12345678)
		wantStep(t, "sw", m, s, behind(s), step.Went, api.Fault{}, after, []uint32{x.at, x.at + 1, x.at + 2, x.at + 3})
	}
	// R[0] counts as 0 in a place too.
	m, s := usual(t), some()
	lay(t, m, 16, wordOf(t, "lw", api.Ins{S: 0, T: 9, Imm: data}))
	want := behind(s)
	want.R[9] = m.Word(data)
	wantWent(t, "lw from R[0]", m, s, want)
}

func TestP112StoresWrittenOut(t *testing.T) {
	for _, x := range []struct {
		name   string
		imm    uint32
		want   [2]uint32
		places []uint32
	}{
		{"sb", 0, [2]uint32{0x78000000, 0}, []uint32{0}}, {"sb", 3, [2]uint32{0x78, 0}, []uint32{3}}, {"sh", 2, [2]uint32{0x5678, 0}, []uint32{2, 3}}, {"sh", 4, [2]uint32{0, 0x56780000}, []uint32{4, 5}},
		{"sw", 0, [2]uint32{0x12345678, 0}, []uint32{0, 1, 2, 3}}, {"sw", 4, [2]uint32{0, 0x12345678}, []uint32{4, 5, 6, 7}},
		{"swl", 1, [2]uint32{0x00123456, 0}, []uint32{1, 2, 3}}, {"swl", 7, [2]uint32{0, 0x12}, []uint32{7}}, {"swr", 1, [2]uint32{0x56780000, 0}, []uint32{0, 1}}, {"swr", 6, [2]uint32{0, 0x34567800}, []uint32{4, 5, 6}},
	} {
		m, s := usual(t), some()
		lay(t, m, data, 0)
		lay(t, m, data+4, 0)
		lay(t, m, 16, wordOf(t, x.name, api.Ins{S: 5, T: 6, Imm: x.imm}))
		after := m.Copy()
		lay(t, after, data, x.want[0])
		lay(t, after, data+4, x.want[1])
		for k := range x.places {
			x.places[k] += data
		}
		wantStep(t, x.name, m, s, behind(s), step.Went, api.Fault{}, after, x.places)
		// Of R[0]: 0, whatever stands there.
		lay(t, m, 16, wordOf(t, x.name, api.Ins{S: 5, T: 0, Imm: x.imm}))
		after = m.Copy()
		for _, at := range x.places {
			after.Poke(at, 0)
		}
		wantStep(t, x.name+" of R[0]", m, s, behind(s), step.Went, api.Fault{}, after, x.places)
	}
}

// What is overwritten is run as it is then: also the next word.
func TestP112StoreIntoCode(t *testing.T) {
	m := pages(t, map[uint32]int{0: 7})
	lay(t, m, 0, wordOf(t, "sw", api.Ins{S: 7, T: 1, Imm: 4}))
	lay(t, m, 4, wordOf(t, "break", api.Ins{}))
	s := begin(0)
	s.R[7], s.R[1] = 0, wordOf(t, "addiu", api.Ins{S: 7, T: 9, Imm: 5})
	after := m.Copy()
	lay(t, after, 4, s.R[1])
	wantStep(t, "sw", m, s, behind(s), step.Went, api.Fault{}, after, []uint32{4, 5, 6, 7})
	s = behind(s)
	want := behind(s)
	want.R[9] = 5
	wantWent(t, "addiu", m, s, want)
}

// Where an instruction writes a register that it reads, it reads what was there ahead of it.
func TestP112WritesWhatItReads(t *testing.T) {
	m := usual(t)
	lay(t, m, data, 0x91a2b3c4)
	for _, x := range []struct {
		name string
		i    api.Ins
		into int
		want uint32
	}{
		{"addu", api.Ins{S: 1, T: 1, D: 1}, 1, 14}, {"subu", api.Ins{S: 1, T: 6, D: 6}, 6, 0xedcba98f}, {"sllv", api.Ins{S: 1, T: 6, D: 1}, 1, 0x1a2b3c00},
		{"movz", api.Ins{S: 6, T: 7, D: 7}, 7, 0x12345678}, {"movn", api.Ins{S: 6, T: 1, D: 1}, 1, 0x12345678}, {"movn", api.Ins{S: 6, T: 6, D: 6}, 6, 0x12345678},
		{"addiu", api.Ins{S: 1, T: 1, Imm: 1}, 1, 8}, {"addi", api.Ins{S: 2, T: 2, Imm: 1}, 2, full - 1}, {"sll", api.Ins{T: 1, D: 1, A: 1}, 1, 14}, {"clz", api.Ins{S: 1, T: 1, D: 1}, 1, 29},
		{"lw", api.Ins{S: 5, T: 5}, 5, 0x91a2b3c4}, {"lwl", api.Ins{S: 5, T: 5, Imm: 2}, 5, 0xb3c40200}, {"lwr", api.Ins{S: 5, T: 5, Imm: 1}, 5, 0x91a2},
	} {
		s := some()
		lay(t, m, 16, wordOf(t, x.name, x.i))
		want := behind(s)
		want.R[x.into] = x.want
		wantWent(t, x.name, m, s, want)
	}
}

// At all links: Next and 4, wherever Next is, taken or not; jalr leads to what S has ahead of it.
func TestP112Links(t *testing.T) {
	for _, next := range values() {
		for _, x := range []struct {
			name  string
			i     api.Ins
			into  int
			taken bool
		}{
			{"jal", api.Ins{Imm: 0x40}, 31, true}, {"jalr", api.Ins{S: 1, D: 9}, 9, true}, {"jalr", api.Ins{S: 1, D: 1}, 1, true}, {"jalr", api.Ins{S: 31, D: 31}, 31, true}, {"jalr", api.Ins{S: 6, D: 31}, 31, true},
			{"bltzal", api.Ins{S: 2, Imm: 0x40}, 31, true}, {"bltzal", api.Ins{S: 1, Imm: 0x40}, 31, false}, {"bltzal", api.Ins{S: 7, Imm: 0x40}, 31, false}, {"bltzal", api.Ins{S: 0, Imm: 0x40}, 31, false},
			{"bgezal", api.Ins{S: 1, Imm: full - 7}, 31, true}, {"bgezal", api.Ins{S: 7, Imm: 0x40}, 31, true}, {"bgezal", api.Ins{S: 0, Imm: 0x40}, 31, true}, {"bgezal", api.Ins{S: 2, Imm: 0x40}, 31, false},
			{"bltzal", api.Ins{S: 31, Imm: 0x40}, 31, false}, {"bgezal", api.Ins{S: 31, Imm: 0x40}, 31, true},
		} {
			m, s := usual(t), some()
			s.Next = next
			lay(t, m, 16, wordOf(t, x.name, x.i))
			want := behind(s)
			want.R[x.into], want.Slot = next+4, true
			if x.taken {
				want.Next = way(x.name, next, s.R[x.i.S], x.i.Imm)
			}
			wantWent(t, x.name, m, s, want)
		}
	}
	// Into R[0] nothing is put, and it jumps.
	m, s := usual(t), some()
	lay(t, m, 16, wordOf(t, "jalr", api.Ins{S: 6, D: 0}))
	want := behind(s)
	want.Next, want.Slot = 0x12345678, true
	wantWent(t, "jalr into 0", m, s, want)
	// From R[0]: to 0.
	lay(t, m, 16, wordOf(t, "jalr", api.Ins{S: 0, D: 9}))
	want = behind(s)
	want.Next, want.Slot, want.R[9] = 0, true, 24
	wantWent(t, "jalr from R[0]", m, s, want)
}

// PC is Next, whatever it jumps to; Next is where it leads to if it is taken, else the one behind; Slot either way.
func TestP112Jumps(t *testing.T) {
	for _, next := range values() {
		for _, x := range []struct {
			name  string
			i     api.Ins
			taken bool
		}{
			{"beq", api.Ins{S: 1, T: 1, Imm: 0x40}, true}, {"beq", api.Ins{S: 1, T: 2, Imm: 0x40}, false}, {"beq", api.Ins{S: 0, T: 7, Imm: full - 7}, true},
			{"bne", api.Ins{S: 1, T: 2, Imm: 0x40}, true}, {"bne", api.Ins{S: 1, T: 1, Imm: 0x40}, false}, {"bne", api.Ins{S: 0, T: 7, Imm: 0x40}, false},
			{"blez", api.Ins{S: 2, Imm: 0x40}, true}, {"blez", api.Ins{S: 7, Imm: 0x40}, true}, {"blez", api.Ins{S: 1, Imm: 0x40}, false}, {"blez", api.Ins{S: 0, Imm: 0x40}, true},
			{"bgtz", api.Ins{S: 1, Imm: 0x40}, true}, {"bgtz", api.Ins{S: 7, Imm: 0x40}, false}, {"bgtz", api.Ins{S: 3, Imm: 0x40}, false}, {"bgtz", api.Ins{S: 0, Imm: 0x40}, false},
			{"bltz", api.Ins{S: 3, Imm: 0x40}, true}, {"bltz", api.Ins{S: 7, Imm: 0x40}, false}, {"bltz", api.Ins{S: 4, Imm: 0x40}, false},
			{"bgez", api.Ins{S: 4, Imm: full - 15}, true}, {"bgez", api.Ins{S: 7, Imm: 0x40}, true}, {"bgez", api.Ins{S: 3, Imm: 0x40}, false},
			{"j", api.Ins{Imm: 0x40}, true}, {"j", api.Ins{Imm: 0x0ffffffc}, true}, {"jr", api.Ins{S: 6}, true}, {"jr", api.Ins{S: 2}, true}, {"jr", api.Ins{S: 7}, true},
		} {
			m, s := usual(t), some()
			s.Next = next
			lay(t, m, 16, wordOf(t, x.name, x.i))
			want := behind(s)
			want.Slot = true
			if x.taken {
				want.Next = way(x.name, next, s.R[x.i.S], x.i.Imm)
			}
			wantWent(t, x.name, m, s, want)
		}
	}
}

// In a slot: what stands there goes on to where the jump leads, and Slot is no more.
func TestP112InASlot(t *testing.T) {
	m, s := usual(t), some()
	s.Next, s.Slot = 0x80000000, true
	lay(t, m, 16, wordOf(t, "addu", api.Ins{S: 1, T: 2, D: 9}))
	want := s
	want.R[0], want.R[9], want.PC, want.Next, want.Slot = 0, 4, 0x80000000, 0x80000004, false
	wantWent(t, "addu in a slot", m, s, want)
}

// Each of the five, by itself.
func TestP112FaultsWrittenOut(t *testing.T) {
	for _, x := range []struct {
		what      string
		pc, word  uint32
		kind      int
		bad       uint32
		slotAlone bool // no fault but in a slot
	}{
		{"odd", 17, 0, api.FetchAlign, 17, false}, {"odd", 18, 0, api.FetchAlign, 18, false}, {"odd", 19, 0, api.FetchAlign, 19, false}, {"odd, at the end", full, 0, api.FetchAlign, full, false},
		{"no page", 0x100, 0, api.FetchPage, 0x100, false}, {"no page", 0x80000000, 0, api.FetchPage, 0x80000000, false}, {"no Exec", data, 0, api.FetchPage, data, false}, {"no Exec", 0x300, 0, api.FetchPage, 0x300, false}, {"no Exec", 0x4fc, 0, api.FetchPage, 0x4fc, false}, {"no perm", 0x600, 0, api.FetchPage, 0x600, false},
		{"none", 16, full, api.Reserved, 0, false}, {"none", 16, 1, api.Reserved, 0, false}, {"none: addu with a", 16, 0x61, api.Reserved, 0, false}, {"none: jr with t", 16, 0x10008, api.Reserved, 0, false},
		{"j", 16, wordOf(t, "j", api.Ins{Imm: 8}), api.Reserved, 0, true}, {"jal", 16, wordOf(t, "jal", api.Ins{}), api.Reserved, 0, true}, {"jr", 16, wordOf(t, "jr", api.Ins{S: 1}), api.Reserved, 0, true}, {"jalr", 16, wordOf(t, "jalr", api.Ins{S: 1, D: 2}), api.Reserved, 0, true},
		{"beq", 16, wordOf(t, "beq", api.Ins{S: 1, T: 2}), api.Reserved, 0, true}, {"bne", 16, wordOf(t, "bne", api.Ins{S: 1, T: 1}), api.Reserved, 0, true}, {"blez", 16, wordOf(t, "blez", api.Ins{S: 1}), api.Reserved, 0, true}, {"bgtz", 16, wordOf(t, "bgtz", api.Ins{S: 1}), api.Reserved, 0, true},
		{"bltz", 16, wordOf(t, "bltz", api.Ins{S: 1}), api.Reserved, 0, true}, {"bgez", 16, wordOf(t, "bgez", api.Ins{S: 1}), api.Reserved, 0, true}, {"bltzal", 16, wordOf(t, "bltzal", api.Ins{S: 1}), api.Reserved, 0, true}, {"bgezal", 16, wordOf(t, "bgezal", api.Ins{S: 1}), api.Reserved, 0, true},
		{"break", 16, wordOf(t, "break", api.Ins{}), api.Break, 0, false}, {"break", 16, wordOf(t, "break", api.Ins{Imm: 0xfffff}), api.Break, 0, false},
		{"add", 16, wordOf(t, "add", api.Ins{S: 4, T: 1, D: 9}), api.Overflow, 0, false}, {"add into 0", 16, wordOf(t, "add", api.Ins{S: 3, T: 2}), api.Overflow, 0, false}, {"sub", 16, wordOf(t, "sub", api.Ins{S: 3, T: 1, D: 9}), api.Overflow, 0, false}, {"addi", 16, wordOf(t, "addi", api.Ins{S: 4, T: 9, Imm: 1}), api.Overflow, 0, false}, {"addi", 16, wordOf(t, "addi", api.Ins{S: 3, T: 9, Imm: full}), api.Overflow, 0, false},
		{"tge", 16, wordOf(t, "tge", api.Ins{S: 1, T: 2}), api.Trap, 0, false}, {"tgeu", 16, wordOf(t, "tgeu", api.Ins{S: 2, T: 1}), api.Trap, 0, false}, {"tlt", 16, wordOf(t, "tlt", api.Ins{S: 2, T: 1}), api.Trap, 0, false}, {"tltu", 16, wordOf(t, "tltu", api.Ins{S: 1, T: 2}), api.Trap, 0, false}, {"teq", 16, wordOf(t, "teq", api.Ins{S: 0, T: 7}), api.Trap, 0, false}, {"tne", 16, wordOf(t, "tne", api.Ins{S: 1, T: 7}), api.Trap, 0, false},
		{"lw", 16, wordOf(t, "lw", api.Ins{S: 5, T: 9, Imm: 2}), api.LoadAlign, data + 2, false}, {"lh", 16, wordOf(t, "lh", api.Ins{S: 5, T: 9, Imm: full}), api.LoadAlign, data - 1, false}, {"lhu", 16, wordOf(t, "lhu", api.Ins{S: 5, T: 0, Imm: 1}), api.LoadAlign, data + 1, false},
		{"sw", 16, wordOf(t, "sw", api.Ins{S: 5, T: 9, Imm: 1}), api.StoreAlign, data + 1, false}, {"sh", 16, wordOf(t, "sh", api.Ins{S: 5, T: 9, Imm: 3}), api.StoreAlign, data + 3, false},
		{"lb", 16, wordOf(t, "lb", api.Ins{S: 5, T: 9, Imm: full}), api.LoadPage, data - 1, false}, {"lbu", 16, wordOf(t, "lbu", api.Ins{S: 5, T: 9, Imm: 0x200}), api.LoadPage, 0x400, false}, {"lwl", 16, wordOf(t, "lwl", api.Ins{S: 5, T: 9, Imm: 0x301}), api.LoadPage, 0x501, false}, {"lwr", 16, wordOf(t, "lwr", api.Ins{S: 5, T: 9, Imm: 0x402}), api.LoadPage, 0x602, false},
		{"sb", 16, wordOf(t, "sb", api.Ins{S: 5, T: 9, Imm: 0x100}), api.StorePage, 0x300, false}, {"swl", 16, wordOf(t, "swl", api.Ins{S: 5, T: 9, Imm: 0x503}), api.StorePage, 0x703, false}, {"swr", 16, wordOf(t, "swr", api.Ins{S: 5, T: 9, Imm: full}), api.StorePage, data - 1, false}, {"sw from R[0]", 16, wordOf(t, "sw", api.Ins{S: 0, T: 9}), api.StorePage, 0, false},
		{"lw, over the end", 16, wordOf(t, "lw", api.Ins{S: 2, T: 9, Imm: 0x103}), api.LoadPage, 0x100, false}, {"sw, over the beginning", 16, wordOf(t, "sw", api.Ins{S: 7, T: 9, Imm: full - 0x103}), api.StorePage, full - 0x103, false},
	} {
		for _, slot := range []bool{false, true} {
			if x.slotAlone && !slot {
				continue
			}
			m, s := usual(t), some()
			lay(t, m, 16, x.word)
			for _, next := range []uint32{20, 0, 0x12345678, full} {
				s.PC, s.Next, s.Slot = x.pc, next, slot
				wantStopped(t, x.what, m, s, x.kind, x.bad)
			}
		}
	}
}

// Of two at once the one is told that comes first.
func TestP112TwoFaults(t *testing.T) {
	bad := map[string]uint32{
		"none": full, "break": wordOf(t, "break", api.Ins{}), "add": wordOf(t, "add", api.Ins{S: 4, T: 4, D: 9}), "teq": wordOf(t, "teq", api.Ins{}),
		"lw": wordOf(t, "lw", api.Ins{S: 5, T: 9, Imm: 0x701}), "sw": wordOf(t, "sw", api.Ins{S: 5, T: 9, Imm: 0x702}), "j": wordOf(t, "j", api.Ins{Imm: 4}),
		"jr": wordOf(t, "jr", api.Ins{S: 1}), "syscall": wordOf(t, "syscall", api.Ins{}),
	}
	for what, w := range bad {
		for _, slot := range []bool{false, true} {
			m, s := usual(t), some()
			s.Slot = slot
			// Of a place of both sorts its number is told; of an instruction that is not there nothing but that.
			lay(t, m, data, w)
			for _, at := range []uint32{data, 0x100, 0x604} {
				for rest := range uint32(4) {
					s.PC = at + rest
					kind := api.FetchAlign
					if rest == 0 {
						kind = api.FetchPage
					}
					wantStopped(t, what, m, s, kind, at+rest)
				}
			}
			lay(t, m, 16, w)
			lay(t, m, 20, w)
			s.PC = 18
			wantStopped(t, what, m, s, api.FetchAlign, 18)
		}
	}
	m, s := usual(t), some()
	for _, x := range []struct {
		name string
		imm  uint32
		kind int
	}{{"lw", 0x702, api.LoadAlign}, {"lh", 0x201, api.LoadAlign}, {"lhu", 0x403, api.LoadAlign}, {"sw", 0x703, api.StoreAlign}, {"sh", 0x101, api.StoreAlign}} {
		lay(t, m, 16, wordOf(t, x.name, api.Ins{S: 5, T: 9, Imm: x.imm}))
		wantStopped(t, x.name, m, s, x.kind, data+x.imm)
	}
	// A jump to where no instruction can be is no fault of its own: that one is at its end.
	lay(t, m, 16, wordOf(t, "jr", api.Ins{S: 2}))
	want := behind(s)
	want.Next, want.Slot = full-2, true
	wantWent(t, "jr to an odd place", m, s, want)
	// In a slot a jump is Reserved, also one that would not be taken, or lead to an odd place.
	s.Slot = true
	wantStopped(t, "jr in a slot", m, s, api.Reserved, 0)
}

// Called: all stays, in a slot and not, whatever it asks; R[0] too stays as it was.
func TestP112Syscall(t *testing.T) {
	for _, imm := range []uint32{0, 1, 0xfffff} {
		for _, slot := range []bool{false, true} {
			for _, next := range values() {
				m, s := usual(t), some()
				lay(t, m, 16, wordOf(t, "syscall", api.Ins{Imm: imm}))
				s.Next, s.Slot, s.R[2], s.R[5] = next, slot, 4001, 0x700
				wantStep(t, "syscall", m, s, s, step.Called, api.Fault{}, m.Copy(), nil)
			}
		}
	}
}

// Whatever an instruction puts into R[0], and whatever stood there: it is 0 behind each, and counts as 0.
func TestP112RegisterZero(t *testing.T) {
	for _, name := range strings.Fields(names) {
		for _, zero := range []uint32{0, 1, 4, data, 0x80000000, full} {
			m, s := usual(t), some()
			s.R[0] = zero
			for _, i := range []api.Ins{{}, {S: 1}, {T: 1}, {S: 1, T: 1}, {S: 5, T: 4}, {D: 9}, {S: 6, D: 9}, {T: 6, D: 9}, {T: 9, D: 9}, {S: 6, T: 9}} {
				for _, imm := range []uint32{0, data, 0x400} {
					i.Op, i.Imm = opOf(name), imm
					w, err := ins.Encode(i)
					if err != api.OK {
						continue // no word of that form
					}
					lay(t, m, 16, w)
					wantPlain(t, name, m, s)
				}
			}
		}
	}
}

// fitting is an instruction of an Op with registers from a few of them and a number, all of which fit its form.
func fitting(op int, next func() uint32) api.Ins {
	pick := func() int { return []int{0, 1, 2, 5, 7, 31, int(next() >> 8 % 32)}[next()>>7%7] }
	imm := []uint32{0, 4, 8, next() >> 3 % 0x100, next() >> 3 % 0x800, next() >> 1 & 0xffff, full - next()>>9%0x100, next() >> 2}[next()>>5%8]
	i := api.Ins{S: pick(), T: pick(), D: pick(), A: pick()}
	// Cut down to the form of the word by encoding what is left of each, field by field.
	for _, less := range []api.Ins{i, {S: i.S, T: i.T}, {T: i.T, D: i.D, A: i.A}, {S: i.S, D: i.D}, {S: i.S, T: i.D, D: i.D}, {S: i.S, T: i.T, D: i.D}, {D: i.D}, {T: i.T}, {S: i.S}, {}} {
		for _, v := range []uint32{imm, imm &^ 3, uint32(int32(int16(imm))), uint32(int32(int16(imm>>2)) * 4), imm & 0xffff, imm & 0x3ff, 0} {
			less.Op, less.Imm = op, v
			if _, err := ins.Encode(less); err == api.OK {
				return less
			}
		}
	}
	return api.Ins{Op: op}
}

// Each Op many times, of states that are spread out, in a slot and not, with Next anywhere, held against a second reading of the chapter.
func TestP112Each(t *testing.T) {
	next := spread()
	m := usual(t)
	m.Map(0x700, 7)
	m.Watch(0x700, true)
	places := []uint32{0, 0x3c, 0xfc, 0x500, 0x5fc, 0x700, last, full - 3}
	count := map[int]int{}
	some := values()
	for range 600 {
		for op := 1; op <= 69; op++ {
			s := api.State{PC: places[next()>>6%8], HI: next(), LO: next(), Slot: next()>>7%5 == 0}
			s.Next = s.PC + 4
			if next()>>9%2 == 0 {
				s.Next = some[int(next()>>3)%len(some)]
			}
			for k := range s.R {
				s.R[k] = []uint32{next(), some[int(next()>>3)%len(some)], next() >> 3 % 0x800, data + next()>>4%0x40*4, last + next()>>4%0x100}[next()>>5%5]
			}
			w, err := ins.Encode(fitting(op, next))
			if err != api.OK {
				t.Fatalf("%s has no word", nameOf(op))
			}
			lay(t, m, s.PC, w)
			kind, _ := plainFault(m, s)
			count[kind]++
			wantPlain(t, nameOf(op), m, s)
			if t.Failed() {
				t.Fatalf("%s %v, of %v", nameOf(op), ins.Decode(w), s)
			}
		}
	}
	for _, kind := range []int{0, api.LoadAlign, api.StoreAlign, api.LoadPage, api.StorePage, api.Reserved, api.Overflow, api.Trap, api.Break} {
		if count[kind] < 50 {
			t.Errorf("fault %d: only %d of them", kind, count[kind])
		}
	}
}

// Words that are spread out, most of them of no instruction.
func TestP112AnyWord(t *testing.T) {
	next := spread()
	m := usual(t)
	s := some()
	for range 20000 {
		w := next()
		if next()>>5%2 == 0 {
			w &= 0x03ffffff // those of most rows
		}
		s.R[next()>>5%32], s.Slot = next()>>3%0x800, next()>>7%2 == 0
		lay(t, m, 16, w)
		wantPlain(t, "any word", m, s)
		if t.Failed() {
			t.Fatalf("%#08x of %v", w, s)
		}
	}
}

// At the last places of 2^32: an instruction there is done like another one, and what is behind it is at 0.
func TestP112LastPlaces(t *testing.T) {
	m := usual(t)
	s := some()
	s.PC, s.Next = full-3, 0
	lay(t, m, full-3, wordOf(t, "addu", api.Ins{S: 1, T: 2, D: 9}))
	want := s
	want.R[0], want.R[9], want.PC, want.Next = 0, 4, 0, 4
	wantWent(t, "addu", m, s, want)
	lay(t, m, full-3, wordOf(t, "bgezal", api.Ins{S: 1, Imm: full - 7}))
	want = s
	want.R[0], want.R[31], want.PC, want.Next, want.Slot = 0, 4, 0, full-7, true
	wantWent(t, "bgezal", m, s, want)
	s.PC, s.Next = full-7, full-3
	lay(t, m, full-7, wordOf(t, "jal", api.Ins{Imm: 0x10}))
	want.R[31], want.PC, want.Next = 0, full-3, 0xf0000010
	wantWent(t, "jal", m, s, want)
	lay(t, m, full-7, wordOf(t, "beq", api.Ins{S: 1, T: 2, Imm: 0x40}))
	want = s
	want.R[0], want.PC, want.Next, want.Slot = 0, full-3, 0, true
	wantWent(t, "beq", m, s, want)
	lay(t, m, full-7, wordOf(t, "sw", api.Ins{S: 0, T: 6, Imm: full - 3}))
	after := m.Copy()
	lay(t, after, full-3, 0x12345678)
	wantStep(t, "sw", m, s, behind(s), step.Went, api.Fault{}, after, []uint32{full - 3, full - 2, full - 1, full})
}

// T1: a program, step by step: a loop that adds 1 to 10, with the sum's last turn in a slot, asks at its end.
func TestT1ALoop(t *testing.T) {
	m := pages(t, map[uint32]int{0: 5})
	for k, w := range []uint32{
		wordOf(t, "addiu", api.Ins{T: 8, Imm: 10}),
		wordOf(t, "addiu", api.Ins{T: 4}),
		wordOf(t, "addu", api.Ins{S: 4, T: 8, D: 4}),
		wordOf(t, "addiu", api.Ins{S: 8, T: 8, Imm: full}),
		wordOf(t, "bne", api.Ins{S: 8, T: 0, Imm: full - 11}),
		wordOf(t, "addiu", api.Ins{S: 9, T: 9, Imm: 1}), // in the slot
		wordOf(t, "syscall", api.Ins{}),
	} {
		lay(t, m, uint32(4*k), w)
	}
	s, steps := api.State{Next: 4}, 0
	for ; steps < 1000; steps++ {
		to, how, fault := step.Step(m, s)
		if fault != (api.Fault{}) {
			t.Fatalf("step %d: %v", steps, fault)
		}
		if how == step.Called {
			break
		}
		s = to
	}
	if s.R[4] != 55 || s.R[8] != 0 || s.R[9] != 10 || s.PC != 24 || s.Next != 28 || steps != 42 {
		t.Errorf("%d steps, %v", steps, s)
	}
}

// T2: a read of an odd place in the slot of a jump that is taken; Next is where the jump leads, and asked again the same is told.
func TestT2AFaultInASlot(t *testing.T) {
	m := usual(t)
	s := some()
	lay(t, m, 16, wordOf(t, "j", api.Ins{Imm: 0x80}))
	lay(t, m, 20, wordOf(t, "lw", api.Ins{S: 5, T: 9, Imm: 1}))
	want := s
	want.R[0], want.PC, want.Next, want.Slot = 0, 20, 0x80, true
	wantWent(t, "j", m, s, want)
	for range 3 {
		wantStopped(t, "lw in its slot", m, want, api.LoadAlign, data+1)
	}
}

// At any state, instruction and memory: every call ends, and none panics.
func TestR1NoPanic(t *testing.T) {
	next := spread()
	numbers := []int{0, 1, -1, 31, 32, 27, 60, 68, 69, 70, 128, 1 << 31, 1 << 32, math.MaxInt, math.MinInt}
	for _, op := range append(numbers, 28, 66, 67, 51, 58, 9) {
		for _, x := range numbers {
			for _, v := range values() {
				step.Target(api.Ins{Op: op, S: x, T: -x, D: x + 1, A: x - 1, Imm: v}, next(), next())
				step.Target(api.Ins{Op: op, S: x, Imm: next()}, v, v)
			}
		}
	}
	memories := []*mem.Mem{mem.New(0), mem.New(api.MaxPages), usual(t), pages(t, map[uint32]int{last: 7}), pages(t, map[uint32]int{0: 7, last: 7}), pages(t, map[uint32]int{0: 1})}
	for _, m := range memories {
		before := m.Pages()
		for _, pc := range values() {
			for range 300 {
				s := api.State{PC: pc, Next: next(), HI: next(), LO: next(), Slot: next()>>5%2 == 0}
				for k := range s.R {
					s.R[k] = next()
				}
				step.On(s)
				s, _, _ = step.Step(m, s)
				if m.Perm(pc) == 7 {
					for k, b := range binary.BigEndian.AppendUint32(nil, next()) {
						m.Poke(pc+uint32(k), b)
					}
				}
			}
		}
		if !slices.Equal(m.Pages(), before) {
			t.Errorf("pages %#x, not %#x", m.Pages(), before)
		}
	}
}

// R4: what a step answers hangs on the memory and the state alone: two memories have nothing in common, and what was done ahead plays no part.
func TestR4TwoMemories(t *testing.T) {
	m := usual(t)
	s := some()
	lay(t, m, 16, wordOf(t, "sw", api.Ins{S: 5, T: 6}))
	lay(t, m, 20, wordOf(t, "lw", api.Ins{S: 5, T: 9}))
	lay(t, m, 24, wordOf(t, "mult", api.Ins{S: 1, T: 2}))
	o := m.Copy()
	was := o.Word(data)
	step.Step(m, s)
	if o.Word(data) != was || m.Word(data) != 0x12345678 {
		t.Errorf("%#x, %#x", o.Word(data), m.Word(data))
	}
	for _, pc := range []uint32{24, 20, 24, 17, 20} { // in any order, as often as one will
		s.PC = pc
		wantPlain(t, "the one", m, s)
		wantPlain(t, "the other", o, s)
	}
}
