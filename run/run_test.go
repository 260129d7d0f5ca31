package run_test

import (
	"encoding/binary"
	"math"
	"slices"
	"strconv"
	"strings"
	"testing"

	"calque/api"
	"calque/call"
	"calque/ins"
	"calque/load"
	"calque/mem"
	"calque/run"
	"calque/step"
)

const (
	full  = math.MaxUint32
	last  = 1<<32 - api.PageSize                       // the last page that there may be
	code  = 0x1000                                     // where programs begin
	data  = 0x4000                                     // two pages that may be read and written
	bare  = 0x4400                                     // a page that may be run alone
	none  = 0x5000                                     // no page
	stack = api.StackTop - api.StackPages*api.PageSize // the stack's lowest place
	begun = api.StackTop - 16                          // what the stack's register says
)

// What a program may ask for.
const (
	exit  = 4001
	read  = 4003
	write = 4004
	more  = 4090
)

// spread answers numbers that are spread out, always the same ones.
func spread() func() uint32 {
	v := uint32(2463534242)
	return func() uint32 {
		v ^= v << 13
		v ^= v >> 17
		v ^= v << 5
		return v
	}
}

// an is an instruction of a name.
func an(name string, i api.Ins) api.Ins {
	for i.Op = 1; ins.Name(i.Op) != name; i.Op++ {
		if ins.Name(i.Op) == "" {
			panic("no instruction " + name)
		}
	}
	return i
}

// Instructions that most programs have.
func li(r int, v uint32) api.Ins       { return an("ori", api.Ins{T: r, Imm: v}) }
func lui(r int, v uint32) api.Ins      { return an("lui", api.Ins{T: r, Imm: v}) }
func addiu(t, s int, v uint32) api.Ins { return an("addiu", api.Ins{T: t, S: s, Imm: v}) }
func addu(d, s, t int) api.Ins         { return an("addu", api.Ins{D: d, S: s, T: t}) }
func jump(at uint32) api.Ins           { return an("j", api.Ins{Imm: at}) }
func jr(r int) api.Ins                 { return an("jr", api.Ins{S: r}) }
func beq(s, t int, over uint32) api.Ins {
	return an("beq", api.Ins{S: s, T: t, Imm: over})
}
func lw(t, s int, v uint32) api.Ins { return an("lw", api.Ins{T: t, S: s, Imm: v}) }
func sw(t, s int, v uint32) api.Ins { return an("sw", api.Ins{T: t, S: s, Imm: v}) }
func nop() api.Ins                  { return an("sll", api.Ins{}) }
func ask() api.Ins                  { return an("syscall", api.Ins{}) }
func brk() api.Ins                  { return an("break", api.Ins{}) }

// wordOf is an instruction's word; of Op 0 it is one that none has.
func wordOf(t *testing.T, i api.Ins) uint32 {
	t.Helper()
	if i.Op == 0 {
		return full
	}
	w, err := ins.Encode(i)
	if err != api.OK {
		t.Fatalf("Encode of %v: error %d", i, err)
	}
	return w
}

// text is the bytes of instructions.
func text(t *testing.T, l ...api.Ins) string {
	t.Helper()
	var b []byte
	for _, i := range l {
		b = binary.BigEndian.AppendUint32(b, wordOf(t, i))
	}
	return string(b)
}

// program is a file of instructions, with pages of data, and one that may be run alone.
func program(t *testing.T, l ...api.Ins) api.File {
	t.Helper()
	b := text(t, l...)
	return api.File{Entry: code, Segs: []api.Seg{
		{At: code, Data: b, Size: uint32(len(b)), Perm: api.Read | api.Write | api.Exec},
		{At: data, Data: "calque", Size: 512, Perm: api.Read | api.Write},
		{At: bare, Size: 1, Perm: api.Exec},
	}}
}

// ready is a file in a memory whose pages are all watched, with the state at its beginning.
func ready(t *testing.T, f api.File) (*mem.Mem, api.State) {
	t.Helper()
	m, st, err := load.Load(f, api.MaxPages)
	if err != api.OK {
		t.Fatalf("Load: error %d", err)
	}
	for _, at := range m.Pages() {
		m.Watch(at, true)
	}
	return m, st
}

// stateOf is a state with registers, by their numbers, besides the stack's.
func stateOf(pc, next uint32, slot bool, regs map[int]uint32) api.State {
	s := api.State{PC: pc, Next: next, Slot: slot}
	s.R[29] = begun
	for k, v := range regs {
		s.R[k] = v
	}
	return s
}

// deep is a world whose lists are copies.
func deep(w call.World) call.World {
	w.Reads = append([]int(nil), w.Reads...)
	w.Events = append([]api.Event(nil), w.Events...)
	return w
}

// sameWorld tells whether two worlds say the same; nil and an empty list are one.
func sameWorld(a, b call.World) bool {
	return a.Input == b.Input && a.At == b.At && a.Used == b.Used && slices.Equal(a.Reads, b.Reads) && slices.Equal(a.Events, b.Events)
}

// sameResult tells whether two results say the same.
func sameResult(a, b api.Result) bool {
	return a.Status == b.Status && a.Code == b.Code && a.Fault == b.Fault && slices.Equal(a.Events, b.Events) && a.State == b.State && a.Retired == b.Retired
}

// zero tells whether a result is the zero value.
func zero(r api.Result) bool { return r.Events == nil && sameResult(r, api.Result{}) }

// wantRun holds Run of a file to all that is seen of it, and answers the memory.
func wantRun(t *testing.T, what string, f api.File, s api.Script, want api.Result) *mem.Mem {
	t.Helper()
	r, m, err := run.Run(f, s)
	if err != api.OK || m == nil {
		t.Fatalf("%s: error %d", what, err)
	}
	if !sameResult(r, want) {
		t.Errorf("%s: %v, not %v", what, r, want)
	}
	return m
}

func TestP131Check(t *testing.T) {
	for _, x := range []struct {
		what string
		s    api.Script
		want api.Errno
	}{
		{"nothing", api.Script{}, api.OK},
		{"Input one below", api.Script{Input: strings.Repeat("a", api.MaxInput-1)}, api.OK},
		{"Input at its bound", api.Script{Input: strings.Repeat("a", api.MaxInput)}, api.OK},
		{"Input one above", api.Script{Input: strings.Repeat("a", api.MaxInput+1)}, api.ErrBig},
		{"Input of as many runes, which are more bytes", api.Script{Input: strings.Repeat("é", api.MaxInput/2+1)}, api.ErrBig},
		{"Reads one below", api.Script{Reads: make([]int, api.MaxReads-1)}, api.OK},
		{"Reads at their bound", api.Script{Reads: make([]int, api.MaxReads)}, api.OK},
		{"Reads one above", api.Script{Reads: make([]int, api.MaxReads+1)}, api.ErrBig},
		{"Reads, few with much room", api.Script{Reads: make([]int, 1, 2*api.MaxReads)}, api.OK},
		{"Regens one below", api.Script{Regens: make([]int, api.MaxReads-1)}, api.OK},
		{"Regens at their bound", api.Script{Regens: make([]int, api.MaxReads)}, api.OK},
		{"Regens one above", api.Script{Regens: make([]int, api.MaxReads+1)}, api.ErrBig},
		{"Reads and Regens, each at its bound", api.Script{Reads: make([]int, api.MaxReads), Regens: make([]int, api.MaxReads)}, api.OK},
		{"Image one below", api.Script{Image: strings.Repeat("a", api.MaxImage-1)}, api.OK},
		{"Image at its bound", api.Script{Image: strings.Repeat("a", api.MaxImage)}, api.OK},
		{"Image one above", api.Script{Image: strings.Repeat("a", api.MaxImage+1)}, api.ErrBig},
		{"Fuel one below", api.Script{Fuel: api.MaxFuel - 1}, api.OK},
		{"Fuel at its bound", api.Script{Fuel: api.MaxFuel}, api.OK},
		{"Fuel one above", api.Script{Fuel: api.MaxFuel + 1}, api.ErrBig},
		{"Fuel far above", api.Script{Fuel: math.MaxInt}, api.ErrBig},
		{"Fuel above 2^32", api.Script{Fuel: 1 << 32}, api.ErrBig},
		{"Fuel 0", api.Script{Fuel: 0}, api.OK},
		{"Fuel 1", api.Script{Fuel: 1}, api.OK},
		{"Fuel below 0", api.Script{Fuel: -1}, api.ErrArg},
		{"Fuel far below 0", api.Script{Fuel: math.MinInt}, api.ErrArg},
		{"Room 1", api.Script{Room: 1}, api.OK},
		{"Room below 0", api.Script{Room: -1}, api.ErrArg},
		{"Room far below 0", api.Script{Room: math.MinInt}, api.ErrArg},
		// What has no bound is taken.
		{"Room above the cache's greatest", api.Script{Room: api.MaxCache + 1}, api.OK},
		{"Room far above", api.Script{Room: math.MaxInt}, api.OK},
		{"Switches below 0", api.Script{Switches: -1}, api.OK},
		{"Switches of any bits", api.Script{Switches: math.MaxInt}, api.OK},
		{"numbers of any kind in the lists", api.Script{Reads: []int{-1, 0, math.MaxInt, math.MinInt}, Regens: []int{-1, 0, math.MaxInt, math.MinInt, 0}}, api.OK},
		{"an image that is none", api.Script{Image: "\x00\xff"}, api.OK},
		{"all at their bounds", api.Script{Input: strings.Repeat("a", api.MaxInput), Reads: make([]int, api.MaxReads), Regens: make([]int, api.MaxReads), Image: strings.Repeat("a", api.MaxImage), Fuel: api.MaxFuel}, api.OK},
	} {
		if got := run.Check(x.s); got != x.want {
			t.Errorf("%s: %d, not %d", x.what, got, x.want)
		}
	}
}

// faulty are ways to spoil a script, with the error of each by itself.
func faulty() []struct {
	spoil func(*api.Script)
	want  api.Errno
} {
	return []struct {
		spoil func(*api.Script)
		want  api.Errno
	}{
		{func(s *api.Script) { s.Input = strings.Repeat("a", api.MaxInput+1) }, api.ErrBig},
		{func(s *api.Script) { s.Reads = make([]int, api.MaxReads+1) }, api.ErrBig},
		{func(s *api.Script) { s.Regens = make([]int, api.MaxReads+1) }, api.ErrBig},
		{func(s *api.Script) { s.Image = strings.Repeat("a", api.MaxImage+1) }, api.ErrBig},
		{func(s *api.Script) { s.Fuel = api.MaxFuel + 1 }, api.ErrBig},
		{func(s *api.Script) { s.Fuel = -1 }, api.ErrArg},
		{func(s *api.Script) { s.Room = -1 }, api.ErrArg},
	}
}

// Of two that are wrong at once what is too great is told.
func TestP131CheckTwoAtOnce(t *testing.T) {
	for i, a := range faulty() {
		for k, b := range faulty() {
			var s api.Script
			a.spoil(&s)
			if i != k && s.Fuel != 0 {
				was := s.Fuel
				if b.spoil(&s); s.Fuel != was { // no Fuel is both too great and below 0
					continue
				}
			}
			b.spoil(&s)
			want := api.ErrArg
			if a.want == api.ErrBig || b.want == api.ErrBig {
				want = api.ErrBig
			}
			if got := run.Check(s); got != want {
				t.Errorf("%d and %d: %d, not %d", i, k, got, want)
			}
		}
	}
}

// The chapter's example.
func TestP132Example(t *testing.T) {
	f := program(t, li(8, 7), brk())
	wantRun(t, "fuel 0", f, api.Script{}, api.Result{State: stateOf(code, code+4, false, nil)})
	m, st := ready(t, f)
	before := m.Copy()
	r, w := run.From(m, st, call.New(api.Script{Input: "ab", Reads: []int{3}}), 0)
	if !sameResult(r, api.Result{State: st}) || !sameWorld(w, call.World{Input: "ab", Reads: []int{3}}) || !m.Same(before) || len(m.Touched()) != 0 {
		t.Error(r, w)
	}
	if api.Running != 0 || api.Exited != 1 || api.Faulted != 2 {
		t.Error(api.Running, api.Exited, api.Faulted)
	}
}

// counter is a program that counts in R[8] for ever: three instructions a round, from its first one on.
func counter(t *testing.T) api.File {
	t.Helper()
	return program(t, addiu(8, 8, 1), jump(code), nop())
}

// rounds is the counter's state behind so many instructions.
func rounds(n int) api.State {
	regs := map[int]uint32{8: uint32(n+2) / 3}
	switch n % 3 {
	case 0:
		return stateOf(code, code+4, false, regs)
	case 1:
		return stateOf(code+4, code+8, false, regs)
	}
	return stateOf(code+8, code, true, regs)
}

func TestP132Fuel(t *testing.T) {
	f := counter(t)
	for _, x := range []struct{ fuel, want int }{
		{0, 0}, {1, 1}, {2, 2}, {3, 3}, {4, 4}, {5, 5}, {100, 100}, {1000, 1000},
		{api.MaxFuel - 1, api.MaxFuel - 1}, {api.MaxFuel, api.MaxFuel}, {api.MaxFuel + 1, api.MaxFuel}, {2 * api.MaxFuel, api.MaxFuel}, {1 << 32, api.MaxFuel}, {1<<32 + 5, api.MaxFuel}, {math.MaxInt, api.MaxFuel},
		{-1, 0}, {-2, 0}, {-api.MaxFuel, 0}, {-1<<32 + 5, 0}, {math.MinInt, 0}, {math.MinInt + 5, 0},
	} {
		m, st := ready(t, f)
		before := m.Copy()
		r, w := run.From(m, st, call.World{}, x.fuel)
		if !sameResult(r, api.Result{State: rounds(x.want), Retired: x.want}) || !sameWorld(w, call.World{}) || !m.Same(before) {
			t.Errorf("fuel %d: %v, %v", x.fuel, r, w)
		}
	}
}

// ending is a program, and how it ends.
type ending struct {
	what    string
	code    []api.Ins
	retired int
	status  int
	exits   uint32
	fault   api.Fault
	state   api.State
}

// slotted is an instruction in the slot of a jump to a place, behind what sets registers.
func slotted(to uint32, i api.Ins, before ...api.Ins) []api.Ins {
	return append(before, jump(to), i)
}

// stops are programs that Step stops: each kind of fault, in a slot and in none.
func stops() []ending {
	type regs = map[int]uint32
	faulted := func(what string, code []api.Ins, retired int, fault api.Fault, next uint32, r regs) ending {
		return ending{what: what, code: code, retired: retired, status: api.Faulted, fault: fault, state: stateOf(fault.PC, next, fault.Slot, r)}
	}
	return []ending{
		faulted("an odd instruction", []api.Ins{li(8, code+10), jr(8), nop()}, 3, api.Fault{Kind: api.FetchAlign, PC: code + 10, Bad: code + 10}, code+14, regs{8: code + 10}),
		faulted("no page to fetch from", []api.Ins{li(8, none), jr(8), nop()}, 3, api.Fault{Kind: api.FetchPage, PC: none, Bad: none}, none+4, regs{8: none}),
		faulted("a page not to be run", []api.Ins{li(8, data), jr(8), nop()}, 3, api.Fault{Kind: api.FetchPage, PC: data, Bad: data}, data+4, regs{8: data}),
		faulted("the place 0", []api.Ins{jr(0), nop()}, 2, api.Fault{Kind: api.FetchPage}, 4, nil),
		faulted("no instruction", []api.Ins{nop(), {}}, 1, api.Fault{Kind: api.Reserved, PC: code + 4}, code+8, nil),
		faulted("no instruction, in a slot", slotted(none, api.Ins{}), 1, api.Fault{Kind: api.Reserved, PC: code + 4, Slot: true}, none, nil),
		faulted("a jump in a slot", slotted(none, jump(code)), 1, api.Fault{Kind: api.Reserved, PC: code + 4, Slot: true}, none, nil),
		faulted("a branch in the slot of one that isn't taken", []api.Ins{beq(0, 29, 40), beq(0, 0, 8)}, 1, api.Fault{Kind: api.Reserved, PC: code + 4, Slot: true}, code+8, nil),
		faulted("a break", []api.Ins{brk()}, 0, api.Fault{Kind: api.Break, PC: code}, code+4, nil),
		faulted("a break in a slot", slotted(code, brk()), 1, api.Fault{Kind: api.Break, PC: code + 4, Slot: true}, code, nil),
		faulted("a sum too great", []api.Ins{lui(8, 0x7fff), lui(9, 0x7fff), an("add", api.Ins{D: 10, S: 8, T: 9})}, 2, api.Fault{Kind: api.Overflow, PC: code + 8}, code+12, regs{8: 0x7fff0000, 9: 0x7fff0000}),
		faulted("a sum too great, in a slot", slotted(data, an("addi", api.Ins{T: 8, S: 8, Imm: full - 3}), lui(8, 0x8000)), 2, api.Fault{Kind: api.Overflow, PC: code + 8, Slot: true}, data, regs{8: 0x80000000}),
		faulted("a trap", []api.Ins{li(8, 3), an("teq", api.Ins{S: 8, T: 8, Imm: 9})}, 1, api.Fault{Kind: api.Trap, PC: code + 4}, code+8, regs{8: 3}),
		faulted("a trap in a slot", slotted(0, an("tge", api.Ins{})), 1, api.Fault{Kind: api.Trap, PC: code + 4, Slot: true}, 0, nil),
		faulted("an odd place to read from", []api.Ins{li(8, data), lw(9, 8, 2)}, 1, api.Fault{Kind: api.LoadAlign, PC: code + 4, Bad: data + 2}, code+8, regs{8: data}),
		faulted("an odd place to read from, in a slot", slotted(data, lw(9, 8, 1), li(8, data)), 2, api.Fault{Kind: api.LoadAlign, PC: code + 8, Slot: true, Bad: data + 1}, data, regs{8: data}),
		faulted("an odd place to write to", []api.Ins{li(8, data), an("sh", api.Ins{S: 8, T: 8, Imm: 7})}, 1, api.Fault{Kind: api.StoreAlign, PC: code + 4, Bad: data + 7}, code+8, regs{8: data}),
		faulted("no page to read from", []api.Ins{lw(9, 0, full-3)}, 0, api.Fault{Kind: api.LoadPage, PC: code, Bad: full - 3}, code+4, nil),
		faulted("a page not to be read", []api.Ins{li(8, bare), an("lb", api.Ins{S: 8, T: 9, Imm: 5})}, 1, api.Fault{Kind: api.LoadPage, PC: code + 4, Bad: bare + 5}, code+8, regs{8: bare}),
		faulted("no page to write to, in a slot", slotted(code, sw(8, 8, 0), li(8, none)), 2, api.Fault{Kind: api.StorePage, PC: code + 8, Slot: true, Bad: none}, code, regs{8: none}),
		faulted("past the end of the code", []api.Ins{jump(code + 0xfc), nop()}, 3, api.Fault{Kind: api.FetchPage, PC: code + 0x100, Bad: code + 0x100}, code+0x104, nil),
	}
}

// asks are programs that end by a call.
func asks() []ending {
	type regs = map[int]uint32
	return []ending{
		{"exit", []api.Ins{li(2, exit), li(4, 7), ask()}, 3, api.Exited, 7, api.Fault{}, stateOf(code+12, code+16, false, regs{2: exit, 4: 7})},
		{"exit with 0", []api.Ins{li(2, exit), ask(), brk()}, 2, api.Exited, 0, api.Fault{}, stateOf(code+8, code+12, false, regs{2: exit})},
		{"exit with a great code", []api.Ins{li(2, exit), addiu(4, 0, full), ask()}, 3, api.Exited, full, api.Fault{}, stateOf(code+12, code+16, false, regs{2: exit, 4: full})},
		{"exit in a slot", slotted(none, ask(), li(2, exit), lui(4, 0x8000)), 4, api.Exited, 0x80000000, api.Fault{}, stateOf(none, none+4, false, regs{2: exit, 4: 0x80000000})},
		{"exit behind calls that go on", []api.Ins{ask(), addu(4, 0, 2), ask(), addu(5, 0, 7), li(2, exit), ask()}, 6, api.Exited, 89, api.Fault{}, stateOf(code+24, code+28, false, regs{2: exit, 4: 89, 5: 1, 7: 1})},
		{"no room", []api.Ins{li(2, more), lui(4, 9), li(5, api.MaxPages), ask()}, 3, api.Faulted, 0, api.Fault{Kind: api.NoMemory, PC: code + 12, Bad: 0x90000}, stateOf(code+12, code+16, false, regs{2: more, 4: 0x90000, 5: api.MaxPages})},
		{"no room, from within a page, in a slot", slotted(none, ask(), li(2, more), li(4, none+3), li(5, api.MaxPages)), 4, api.Faulted, 0, api.Fault{Kind: api.NoMemory, PC: code + 16, Slot: true, Bad: none + 3}, stateOf(code+16, none, true, regs{2: more, 4: none + 3, 5: api.MaxPages})},
	}
}

// Each way in which it ends, at each fuel: the end comes with the instruction that ends it, and not ahead of it.
func TestP132Ends(t *testing.T) {
	for _, x := range append(stops(), asks()...) {
		f := program(t, x.code...)
		needs := x.retired // what exits is retired
		if x.status == api.Faulted {
			needs++
		}
		for fuel := range needs + 4 {
			r, m, err := run.Run(f, api.Script{Fuel: fuel})
			if err != api.OK || m == nil {
				t.Fatalf("%s: error %d", x.what, err)
			}
			if fuel >= needs {
				if want := (api.Result{Status: x.status, Code: x.exits, Fault: x.fault, State: x.state, Retired: x.retired}); !sameResult(r, want) {
					t.Errorf("%s, fuel %d: %v, not %v", x.what, fuel, r, want)
				}
				continue
			}
			if r.Status != api.Running || r.Code != 0 || r.Fault != (api.Fault{}) || len(r.Events) != 0 || r.Retired != fuel {
				t.Errorf("%s, fuel %d: %v", x.what, fuel, r)
			}
			if x.status == api.Faulted && fuel == x.retired && r.State != x.state {
				t.Errorf("%s, right ahead of the fault: %v, not %v", x.what, r.State, x.state)
			}
		}
		wantRun(t, x.what, f, api.Script{Fuel: api.MaxFuel}, api.Result{Status: x.status, Code: x.exits, Fault: x.fault, State: x.state, Retired: x.retired})
	}
}

// All kinds of faults are among those that are tried, and those of an instruction in a slot and in none.
func TestP132EachKindIsTried(t *testing.T) {
	kinds, slots := map[int]int{}, map[bool]int{}
	for _, x := range append(stops(), asks()...) {
		kinds[x.fault.Kind]++
		slots[x.fault.Slot]++
	}
	for kind := api.FetchAlign; kind <= api.NoMemory; kind++ {
		if kinds[kind] == 0 {
			t.Errorf("no program of kind %d", kind)
		}
	}
	if slots[true] < 5 || slots[false] < 5 {
		t.Error(slots)
	}
}

// A slot that is on no page.
func TestP132FetchInASlot(t *testing.T) {
	f := program(t, append(make([]api.Ins, 63), jump(code))...)
	f.Entry = code + 0xfc
	wantRun(t, "a slot on no page", f, api.Script{Fuel: 9}, api.Result{Status: api.Faulted, Fault: api.Fault{Kind: api.FetchPage, PC: code + 0x100, Slot: true, Bad: code + 0x100}, State: stateOf(code+0x100, code, true, nil), Retired: 1})
	// A state may stand anywhere: an odd place in a slot.
	m, st := ready(t, f)
	st.PC, st.Next, st.Slot = code+2, 77, true
	r, _ := run.From(m, st, call.World{}, 5)
	if !sameResult(r, api.Result{Status: api.Faulted, Fault: api.Fault{Kind: api.FetchAlign, PC: code + 2, Slot: true, Bad: code + 2}, State: st}) {
		t.Error(r)
	}
}

// Places are modulo 2^32: behind the last instruction that there may be comes the one at 0.
func TestP132PastTheLastPlace(t *testing.T) {
	m := mem.New(2)
	for _, at := range []uint32{last, 0} {
		if err := m.Map(at, 7); err != api.OK {
			t.Fatal(err)
		}
	}
	for k, v := range []byte(text(t, li(8, 5), addiu(8, 8, 2), brk())) {
		m.Poke(full-3+uint32(k), v)
	}
	r, _ := run.From(m, api.State{PC: full - 3}, call.World{}, 9)
	want := api.Result{Status: api.Faulted, Fault: api.Fault{Kind: api.Break, PC: 4}, State: api.State{PC: 4, Next: 8}, Retired: 2}
	want.State.R[8] = 7
	if !sameResult(r, want) {
		t.Errorf("%v, not %v", r, want)
	}
}

// A fault turns nothing: R[0] stays as it was handed in, too, and what the world has been through stays.
func TestP132AFaultTurnsNothing(t *testing.T) {
	for _, l := range [][]api.Ins{{brk()}, {sw(8, 0, 0)}, {{}}} {
		m, st := ready(t, program(t, l...))
		for k := range st.R {
			st.R[k] = 0x0a0b0c00 + uint32(k)
		}
		st.HI, st.LO = 5, 6
		before := m.Copy()
		w := call.World{Input: "abcdef", At: 2, Reads: []int{4, 5}, Used: 1, Events: []api.Event{{FD: 2, Data: "x"}}}
		r, u := run.From(m, st, w, 4)
		if r.Status != api.Faulted || r.State != st || r.Retired != 0 || !slices.Equal(r.Events, w.Events) || !sameWorld(u, w) || !m.Same(before) || len(m.Touched()) != 0 {
			t.Errorf("%v: %v, %v", l, r, u)
		}
	}
}

// No room: the state is as it was, and those pages that were there first stay.
func TestP132NoMemory(t *testing.T) {
	f := program(t, li(2, more), li(4, none), li(5, 3), ask(), li(2, more), lui(4, 1), li(5, 60), ask())
	// One of code, three of data, two of the stack.
	for _, fuel := range []int{8, 9, 1000} {
		m := wantRun(t, "no room", f, api.Script{Fuel: fuel}, api.Result{Status: api.Faulted, Fault: api.Fault{Kind: api.NoMemory, PC: code + 28, Bad: 0x10000}, State: stateOf(code+28, code+32, false, map[int]uint32{2: more, 4: 0x10000, 5: 60}), Retired: 7})
		if len(m.Pages()) != api.MaxPages || m.Perm(none+0x200) != 6 || m.Mapped(none+0x300) || m.Perm(0x10000+54*api.PageSize) != 6 || m.Mapped(0x10000+55*api.PageSize) {
			t.Errorf("%d pages: %#x", len(m.Pages()), m.Pages())
		}
	}
	// A memory that was handed in has its own bound.
	m, st, err := load.Load(f, 7)
	if err != api.OK {
		t.Fatal(err)
	}
	r, _ := run.From(m, st, call.World{}, 50)
	if r.Status != api.Faulted || r.Fault != (api.Fault{Kind: api.NoMemory, PC: code + 12, Bad: none}) || r.Retired != 3 || len(m.Pages()) != 7 || !m.Mapped(none) {
		t.Error(r, m.Pages())
	}
}

// echo is a program that reads as long as there is something, at most nine bytes at a time, writes each by itself, puts how much it was at 0x4100, and exits with that.
func echo(t *testing.T) api.File {
	t.Helper()
	const again, done = code + 4, code + 17*4
	return program(t,
		li(16, 0),
		li(2, read), li(4, 0), li(5, data), li(6, 9), ask(), // 1 to 5
		beq(2, 0, done-(again+6*4)), addu(16, 16, 2), // 6, 7: the branch leads on from its slot
		addu(6, 0, 2), li(4, 1), li(2, write), ask(), // 8 to 11
		sw(16, 5, 0x100), jump(again), nop(), // 12 to 14
		brk(), brk(), // 15, 16
		li(2, exit), addu(4, 0, 16), ask(), // 17 to 19
		brk())
}

// echoed is what is written of an input that is read by these numbers.
func echoed(input string, reads []int) []api.Event {
	var l []api.Event
	for input != "" {
		n := 9
		if len(reads) > 0 {
			n, reads = min(n, max(1, reads[0])), reads[1:]
		}
		n = min(n, len(input))
		l, input = append(l, api.Event{FD: 1, Data: input[:n]}), input[n:]
	}
	return l
}

// Input and Reads reach the program, and so does Fuel; what was read stands in the memory.
func TestP133TheScriptReachesTheProgram(t *testing.T) {
	f := echo(t)
	for _, s := range []api.Script{
		{}, {Input: "a"}, {Input: "hello, world"}, {Input: "hello, world", Reads: []int{3, 1, 0, 5}}, {Input: "hello, world", Reads: []int{100, -4}}, {Reads: []int{3}}, {Input: "\x00\xff\xc3\xa9", Reads: []int{1, 1, 1, 1, 1, 1}},
		{Input: strings.Repeat("0123456789", 40), Reads: slices.Repeat([]int{7, 2}, 100)},
		{Input: strings.Repeat("calque", 100), Reads: slices.Repeat([]int{8}, api.MaxReads)},
	} {
		events := echoed(s.Input, s.Reads)
		turns := len(events)
		retired := 1 + turns*14 + 5 + 2 + 3
		n := uint32(len(s.Input))
		s.Fuel = api.MaxFuel
		regs := map[int]uint32{2: exit, 4: n, 5: data, 6: 9, 16: n}
		m := wantRun(t, s.Input, f, s, api.Result{Status: api.Exited, Code: n, Events: events, State: stateOf(code+20*4, code+21*4, false, regs), Retired: retired})
		left := "calque\x00\x00\x00"
		for _, e := range events {
			left = e.Data + left[len(e.Data):]
		}
		if got := string(m.Bytes(data, 9)); got != left || m.Word(data+0x100) != n {
			t.Errorf("%q: %q, not %q, is in the memory, and %d", s.Input, got, left, m.Word(data+0x100))
		}
		for _, fuel := range []int{0, 1, 5, 6, 11, 12, retired - 1, retired} {
			s.Fuel = fuel
			r, _, err := run.Run(f, s)
			if err != api.OK || r.Retired != min(fuel, retired) || (r.Status == api.Exited) != (fuel >= retired) || len(r.Events) != min(max(fuel+2, 0)/14, turns) {
				t.Errorf("%q, fuel %d: %v, error %d", s.Input, fuel, r, err)
			}
		}
	}
}

// Events stand behind those that the world had.
func TestP132Events(t *testing.T) {
	f := echo(t)
	for _, had := range [][]api.Event{nil, {{FD: 1, Data: "x"}}, {{FD: 9, Data: ""}, {FD: 2, Data: "yz"}, {FD: full, Data: "\x00"}}} {
		m, st := ready(t, f)
		w := call.New(api.Script{Input: "hello, world", Reads: []int{3}})
		w.Events = had
		want := append(slices.Clone(had), api.Event{FD: 1, Data: "hel"}, api.Event{FD: 1, Data: "lo, world"})
		r, u := run.From(m, st, w, 1000)
		if !slices.Equal(r.Events, want) || !sameWorld(u, call.World{Input: "hello, world", At: 12, Reads: []int{3}, Used: 1, Events: want}) {
			t.Errorf("%v: %v, %v", had, r.Events, u)
		}
		// With no fuel, and where nothing is written, they are those that it had.
		for _, fuel := range []int{-1, 0, 1, 5} {
			m, st = ready(t, f)
			if r, u = run.From(m, st, w, fuel); !slices.Equal(r.Events, had) || !slices.Equal(u.Events, had) {
				t.Errorf("%v, fuel %d: %v, %v", had, fuel, r.Events, u.Events)
			}
		}
	}
	// Of an end by a fault, and of one for want of room, too.
	for _, l := range [][]api.Ins{{brk()}, {li(2, more), li(5, 64), ask()}} {
		m, st := ready(t, program(t, append([]api.Ins{li(2, write), li(4, 2), li(5, data), li(6, 6), ask()}, l...)...))
		r, u := run.From(m, st, call.World{Events: []api.Event{{FD: 3}}}, 100)
		if want := []api.Event{{FD: 3}, {FD: 2, Data: "calque"}}; r.Status != api.Faulted || !slices.Equal(r.Events, want) || !slices.Equal(u.Events, want) {
			t.Error(r, u)
		}
	}
}

// The world that is answered is that behind the last call.
func TestP132World(t *testing.T) {
	f := echo(t)
	for fuel := range 60 {
		m, st := ready(t, f)
		r, w := run.From(m, st, call.New(api.Script{Input: "hello, world", Reads: []int{3, 1, 0}}), fuel)
		reads, at := 0, 0
		for k, n := range []int{3, 1, 1, 7} {
			if fuel >= 6+14*k {
				reads, at = k+1, at+n
			}
		}
		if w.Input != "hello, world" || !slices.Equal(w.Reads, []int{3, 1, 0}) || w.At != at || w.Used != min(reads, 3) || !slices.Equal(w.Events, r.Events) || len(r.Events) != min((fuel+2)/14, 4) {
			t.Errorf("fuel %d: %v, of %v", fuel, w, r)
		}
	}
}

// What a program writes is in the memory behind it, also over code that comes yet: that runs as it is by then.
func TestP132Memory(t *testing.T) {
	f := program(t, lui(8, 0x2409), an("ori", api.Ins{S: 8, T: 8, Imm: 7}), li(10, code), sw(8, 10, 20), nop(), brk(), li(2, exit), addu(4, 0, 9), ask())
	r, m, err := run.Run(f, api.Script{Fuel: 100})
	if err != api.OK || r.Status != api.Exited || r.Code != 7 || r.State.R[9] != 7 || r.Retired != 9 || m.Word(code+20) != 0x24090007 || m.Word(code+16) != 0 {
		t.Error(r, err)
	}
	// The very next one.
	f = program(t, lui(8, 0x2409), an("ori", api.Ins{S: 8, T: 8, Imm: 7}), li(10, code), sw(8, 10, 16), brk(), brk())
	r, _, err = run.Run(f, api.Script{Fuel: 100})
	if err != api.OK || r.Status != api.Faulted || r.Fault != (api.Fault{Kind: api.Break, PC: code + 20}) || r.State.R[9] != 7 || r.Retired != 5 {
		t.Error(r, err)
	}
	// Behind a fault what was written ahead of it stays, and nothing else has turned.
	m, st := ready(t, program(t, li(8, data), sw(8, 8, 4), an("sb", api.Ins{S: 29, T: 8}), brk(), sw(8, 8, 8)))
	want := m.Copy()
	for k, v := range []byte{0, 0, 0x40, 0} {
		want.Poke(data+4+uint32(k), v)
	}
	want.Poke(begun, 0)
	if r, _ := run.From(m, st, call.World{}, 9); r.Retired != 3 || !m.Same(want) || !slices.Equal(m.Touched(), []uint32{data + 4, data + 5, data + 6, data + 7, begun}) {
		t.Error(r)
	}
}

func TestP133MemoryIsThatOfTheFile(t *testing.T) {
	f := counter(t)
	loaded, _, err := load.Load(f, api.MaxPages)
	if err != api.OK {
		t.Fatal(err)
	}
	m := wantRun(t, "the counter", f, api.Script{Fuel: 10}, api.Result{State: rounds(10), Retired: 10})
	if !m.Same(loaded) || len(m.Touched()) != 0 || m.Watched(code) || m.Watched(stack) {
		t.Errorf("pages %#x", m.Pages())
	}
	// It has room for as many pages as a memory may have.
	for k := range uint32(api.MaxPages - 6) {
		if err := m.Map(0x10000+k*api.PageSize, 7); err != api.OK {
			t.Fatalf("page %d: error %d", k, err)
		}
	}
	if err := m.Map(0x20000, 7); err != api.ErrBig {
		t.Errorf("one too many: error %d", err)
	}
}

// wrongFiles are files that load refuses, with its errors.
func wrongFiles(t *testing.T) map[api.Errno][]api.File {
	t.Helper()
	good := counter(t)
	high := api.Seg{At: 0x8000, Size: api.MaxFile - 5*api.PageSize, Perm: 4} // with six pages of the file and the stack one too many
	least := high
	least.Size -= api.PageSize
	with := func(s ...api.Seg) api.File {
		return api.File{Entry: code, Segs: append(slices.Clone(good.Segs), s...)}
	}
	if _, _, err := load.Load(with(least), api.MaxPages); err != api.OK {
		t.Fatalf("as many pages as there may be: error %d", err)
	}
	return map[api.Errno][]api.File{
		api.ErrBig:     {with(high), with(make([]api.Seg, api.MaxParts)...)},
		api.ErrSegment: {with(api.Seg{At: 0x8000, Size: api.MaxFile + 1}), with(api.Seg{At: 0x8000}), {Entry: 2, Segs: []api.Seg{{Size: 1, Perm: 8}}}},
		api.ErrOverlap: {with(api.Seg{At: code, Size: 1})},
		api.ErrEntry:   {{}, {Entry: code + 2, Segs: good.Segs}, {Entry: data, Segs: good.Segs}},
	}
}

// Each error, with zero and nil; a script's is told ahead of a file's.
func TestP133Errors(t *testing.T) {
	for want, l := range wrongFiles(t) {
		for k, f := range l {
			for _, s := range []api.Script{{}, {Fuel: api.MaxFuel, Input: "abc", Reads: []int{1}, Room: 5}} {
				if r, m, err := run.Run(f, s); err != want || !zero(r) || m != nil {
					t.Errorf("file %d of error %d: %v, error %d", k, want, r, err)
				}
			}
		}
	}
	files := []api.File{counter(t)}
	for _, l := range wrongFiles(t) {
		files = append(files, l...)
	}
	for k, x := range faulty() {
		s := api.Script{Fuel: 5, Input: "abc"}
		x.spoil(&s)
		for _, f := range files {
			if r, m, err := run.Run(f, s); err != x.want || !zero(r) || m != nil {
				t.Errorf("script %d: %v, error %d, not %d", k, r, err, x.want)
			}
		}
	}
	// At the bounds there is none.
	f := counter(t)
	f.Segs = append(f.Segs, api.Seg{At: 0x8000, Size: api.MaxFile - 6*api.PageSize, Perm: 4})
	s := api.Script{Input: strings.Repeat("a", api.MaxInput), Reads: make([]int, api.MaxReads), Regens: make([]int, api.MaxReads), Image: strings.Repeat("a", api.MaxImage), Fuel: api.MaxFuel, Room: math.MaxInt, Switches: -1}
	if m := wantRun(t, "at the bounds", f, s, api.Result{State: rounds(api.MaxFuel), Retired: api.MaxFuel}); len(m.Pages()) != api.MaxPages {
		t.Errorf("%d pages", len(m.Pages()))
	}
}

// Run is From of what load says and of call's New.
func TestP133RunIsFrom(t *testing.T) {
	for _, f := range samples(t) {
		for _, fuel := range []int{0, 1, 7, 30, 400, api.MaxFuel} {
			s := api.Script{Input: "hello, world", Reads: []int{3, 1, 0}, Fuel: fuel}
			m, st, err := load.Load(f, api.MaxPages)
			if err != api.OK {
				t.Fatal(err)
			}
			want, _ := run.From(m, st, call.New(s), fuel)
			if o := wantRun(t, "a sample", f, s, want); !o.Same(m) {
				t.Errorf("fuel %d: another memory", fuel)
			}
		}
	}
}

// Regens, Room, Image and Switches turn nothing that is seen (T3).
func TestT3NothingElseOfAScriptPlaysAPart(t *testing.T) {
	for _, f := range samples(t) {
		s := api.Script{Input: "hello, world", Reads: []int{3, 1, 0}, Fuel: 700}
		want, memory, err := run.Run(f, s)
		if err != api.OK {
			t.Fatal(err)
		}
		for _, regens := range [][]int{nil, {0}, {3, 3, -1, math.MaxInt}} {
			for _, room := range []int{0, 1, 500, math.MaxInt} {
				for _, image := range []string{"", "an image", strings.Repeat("\x00", api.MaxImage)} {
					for _, switches := range []int{0, 1, 15, -1} {
						s.Regens, s.Room, s.Image, s.Switches = regens, room, image, switches
						if m := wantRun(t, "with another", f, s, want); !m.Same(memory) {
							t.Error("another memory")
						}
					}
				}
			}
		}
	}
}

// samples are programs that end in all ways: after a while, by themselves, or not.
func samples(t *testing.T) []api.File {
	t.Helper()
	l := []api.File{echo(t), counter(t)}
	for _, x := range append(stops(), asks()...) {
		l = append(l, program(t, x.code...))
	}
	// Calls in slots, one behind the other, and more memory, which is written to.
	l = append(l, program(t, li(5, data), li(6, 3), li(4, 1), li(2, write), jump(code+7*4), ask(), brk(), li(2, read), li(4, 0), beq(0, 0, 8), ask(), brk(),
		li(2, more), lui(4, 9), li(5, 2), an("jal", api.Ins{Imm: code + 17*4}), ask(), lui(8, 9), sw(31, 8, 0x1fc), jr(31), lw(9, 8, 0x1fc)))
	return l
}

// gone is all that is seen of a run.
type gone struct {
	result api.Result
	world  call.World
	memory *mem.Mem
	places []uint32 // that were written
}

// goes runs a file by pieces of fuel, one behind the other, as long as it is running.
func goes(t *testing.T, f api.File, w call.World, pieces ...int) gone {
	t.Helper()
	m, st := ready(t, f)
	r := api.Result{State: st, Events: w.Events}
	retired := 0
	for _, fuel := range pieces {
		if r, w = run.From(m, r.State, w, fuel); r.Status != api.Running {
			retired += r.Retired
			break
		}
		if r.Retired != max(fuel, 0) {
			t.Errorf("%d retired of fuel %d", r.Retired, fuel)
		}
		retired += r.Retired
	}
	r.Retired = retired
	return gone{r, w, m, m.Touched()}
}

// wantSame holds two runs to be as one.
func wantSame(t *testing.T, what string, a, b gone) {
	t.Helper()
	if !sameResult(a.result, b.result) {
		t.Errorf("%s: %v, not %v", what, a.result, b.result)
	}
	if !sameWorld(a.world, b.world) {
		t.Errorf("%s: the world is %v, not %v", what, a.world, b.world)
	}
	if !a.memory.Same(b.memory) || !slices.Equal(a.places, b.places) {
		t.Errorf("%s: another memory, or %#x was written, not %#x", what, a.places, b.places)
	}
}

// around says of a file which of its first instructions are calls, and which stand in slots.
func around(t *testing.T, f api.File, w call.World, fuel int) (calls, slots []int) {
	t.Helper()
	m, st := ready(t, f)
	for k := range fuel {
		i := ins.Decode(m.Word(st.PC))
		if m.Perm(st.PC)&api.Exec != 0 && ins.Name(i.Op) == "syscall" {
			calls = append(calls, k)
		}
		if st.Slot {
			slots = append(slots, k)
		}
		var r api.Result
		if r, w = run.From(m, st, w, 1); r.Status != api.Running {
			break
		}
		st = r.State
	}
	return calls, slots
}

// So many instructions and then so many more: cut anywhere, in front of, in and behind a jump's slot, a call, an end.
func TestP134Cut(t *testing.T) {
	seen := 0
	for k, f := range samples(t) {
		w := call.New(api.Script{Input: "hello, world", Reads: []int{3, 1, 0}})
		w.Events = []api.Event{{FD: 7, Data: "had"}}
		for _, fuel := range []int{0, 1, 2, 3, 4, 5, 6, 7, 9, 13, 20, 33, 90} {
			whole := goes(t, f, w, fuel)
			for cut := range fuel + 1 {
				wantSame(t, "sample "+strconv.Itoa(k)+" cut at "+strconv.Itoa(cut)+" of "+strconv.Itoa(fuel), goes(t, f, w, cut, fuel-cut), whole)
			}
			wantSame(t, "one by one", goes(t, f, w, slices.Repeat([]int{1}, fuel)...), whole)
			wantSame(t, "nothing first", goes(t, f, w, 0, -5, fuel), whole)
			wantSame(t, "nothing last", goes(t, f, w, fuel, 0, math.MinInt), whole)
		}
		// The cuts above were around slots and calls.
		calls, slots := around(t, f, w, 90)
		if len(calls) > 0 && len(slots) > 0 {
			seen++
		}
	}
	if seen < 4 {
		t.Errorf("only %d samples have both calls and slots", seen)
	}
}

// Cuts whose places are known: the state between both parts is that of the slot, of the call.
func TestP134CutPlaces(t *testing.T) {
	f := program(t, li(2, write), li(4, 1), li(5, data), li(6, 2), jump(none), ask())
	for _, x := range []struct {
		fuel int
		want api.State
		seen int
	}{
		{4, stateOf(code+16, code+20, false, map[int]uint32{2: write, 4: 1, 5: data, 6: 2}), 0},
		{5, stateOf(code+20, none, true, map[int]uint32{2: write, 4: 1, 5: data, 6: 2}), 0},
		{6, stateOf(none, none+4, false, map[int]uint32{2: 2, 4: 1, 5: data, 6: 2}), 1},
	} {
		m, st := ready(t, f)
		r, w := run.From(m, st, call.World{}, x.fuel)
		if !sameResult(r, api.Result{State: x.want, Retired: x.fuel, Events: []api.Event{{FD: 1, Data: "ca"}}[:x.seen]}) {
			t.Errorf("fuel %d: %v", x.fuel, r)
		}
		r, w = run.From(m, r.State, w, 7-x.fuel)
		if r.Status != api.Faulted || r.Fault != (api.Fault{Kind: api.FetchPage, PC: none, Bad: none}) || r.Retired != 6-x.fuel || len(w.Events) != 1 || len(r.Events) != 1 {
			t.Errorf("from %d on: %v, %v", x.fuel, r, w)
		}
	}
}

// Beyond MaxFuel, too: each part has its own bound.
func TestP134Long(t *testing.T) {
	f := counter(t)
	got := goes(t, f, call.World{}, api.MaxFuel, api.MaxFuel, 7)
	if !sameResult(got.result, api.Result{State: rounds(2*api.MaxFuel + 7), Retired: 2*api.MaxFuel + 7}) {
		t.Error(got.result)
	}
	whole := goes(t, f, call.World{}, api.MaxFuel)
	for _, cut := range []int{1, 2, 1000, api.MaxFuel - 1} {
		wantSame(t, "cut", goes(t, f, call.World{}, cut, api.MaxFuel-cut), whole)
	}
}

// A fault comes again as often as it is asked for, and behind an exit it goes on with what stands there.
func TestP134BehindAnEnd(t *testing.T) {
	m, st := ready(t, program(t, li(8, 3), brk()))
	first, w := run.From(m, st, call.World{}, 9)
	again, _ := run.From(m, first.State, w, 9)
	if again.Retired != 0 || again.Fault != first.Fault || again.Status != api.Faulted || again.State != first.State {
		t.Error(first, again)
	}
	m, st = ready(t, program(t, li(2, exit), li(4, 3), ask(), li(8, 5), brk()))
	first, w = run.From(m, st, call.World{}, 9)
	again, _ = run.From(m, first.State, w, 9)
	if first.Status != api.Exited || first.Code != 3 || again.Status != api.Faulted || again.Code != 0 || again.Retired != 1 || again.State.R[8] != 5 {
		t.Error(first, again)
	}
}

// R3: a world, and a script, that is handed in is neither changed nor kept; what is answered shares nothing, spare room too.
func TestR3Lists(t *testing.T) {
	f := echo(t)
	for _, fuel := range []int{-1, 0, 1, 5, 6, 12, 30, 1000} {
		m, st := ready(t, f)
		reads := []int{9, 2, 0, 55, 56}
		events := []api.Event{{FD: 2, Data: "x"}, {FD: 9}, {FD: 57}, {FD: 58}}
		w := call.World{Input: "hello, world", Reads: reads[:3], Events: events[:2]}
		r, u := run.From(m, st, w, fuel)
		if !slices.Equal(reads, []int{9, 2, 0, 55, 56}) || !slices.Equal(events, []api.Event{{FD: 2, Data: "x"}, {FD: 9}, {FD: 57}, {FD: 58}}) || w.At != 0 || w.Used != 0 {
			t.Errorf("fuel %d: lists that were handed in are %v, %v", fuel, reads, events)
		}
		want, had := deep(u), slices.Clone(r.Events)
		clear(reads)
		clear(events)
		if !sameWorld(u, want) || !slices.Equal(r.Events, had) {
			t.Errorf("fuel %d: an answer has turned: %v, %v", fuel, u, r.Events)
		}
		fill(r.Events, api.Event{FD: 3})
		if !sameWorld(u, want) {
			t.Errorf("fuel %d: the world has the result's list: %v", fuel, u)
		}
		fill(u.Reads, 3)
		fill(u.Events, api.Event{FD: 4})
		if !slices.Equal(reads, make([]int, 5)) || !slices.Equal(events, make([]api.Event, 4)) || slices.Contains(r.Events[:cap(r.Events)], api.Event{FD: 4}) {
			t.Errorf("fuel %d: lists are shared: %v, %v", fuel, reads, events)
		}
	}
}

// fill puts a value all over a list, spare room too.
func fill[T any](l []T, v T) {
	l = l[:cap(l)]
	for k := range l {
		l[k] = v
	}
}

// R3, of Run: neither the script's lists nor the file's.
func TestR3Run(t *testing.T) {
	f := echo(t)
	segs := slices.Clone(f.Segs)
	reads, regens := []int{3, 1, 0, 77}, []int{5, 5, 77}
	s := api.Script{Input: "hello, world", Reads: reads[:3], Regens: regens[:2], Fuel: 1000}
	a, m, _ := run.Run(f, s)
	b, o, _ := run.Run(f, s)
	if !slices.Equal(f.Segs, segs) || !slices.Equal(reads, []int{3, 1, 0, 77}) || !slices.Equal(regens, []int{5, 5, 77}) {
		t.Error(f.Segs, reads, regens)
	}
	if len(a.Events) == 0 || !sameResult(a, b) || !m.Same(o) {
		t.Fatal(a, b)
	}
	fill(a.Events, api.Event{FD: 3})
	m.Poke(data, 99)
	if c, _, _ := run.Run(f, s); !sameResult(b, c) || o.Peek(data) == 99 || sameResult(a, b) {
		t.Error(b, c)
	}
}

// R4: two ways on from one state, world and memory have nothing in common, and what was done ahead plays no part.
func TestR4TwoWaysOn(t *testing.T) {
	f := echo(t)
	w := call.New(api.Script{Input: "hello, world", Reads: []int{3, 1, 0}})
	m, st := ready(t, f)
	r, w := run.From(m, st, w, 20)
	was := deep(w)
	var first gone
	for k := range 4 {
		o := m.Copy()
		o.Touched()
		b, u := run.From(o, r.State, w, 500)
		now := gone{b, u, o, o.Touched()}
		if k == 0 {
			first = now
		}
		wantSame(t, "again", now, first)
		if !sameWorld(w, was) {
			t.Errorf("the world that was handed in is %v, not %v", w, was)
		}
	}
}

// plain is P13.2 as the chapter tells it, one instruction and then what is left; it turns the memory.
func plain(m *mem.Mem, st api.State, w call.World, fuel int) (api.Result, call.World) {
	here := api.Result{Events: w.Events, State: st}
	if fuel <= 0 {
		return here, w
	}
	to, how, fault := step.Step(m, st)
	if how == 2 {
		here.Status, here.Fault = 2, fault
		return here, w
	}
	if how == 1 {
		var goes int
		was := w
		if to, w, goes, here.Code = call.Call(m, st, was); goes == 2 {
			here.Status, here.Fault = 2, api.Fault{Kind: 11, PC: st.PC, Slot: st.Slot, Bad: st.R[4]}
			return here, was
		}
		if goes == 1 {
			here.Status, here.State, here.Retired = 1, to, 1
			return here, w
		}
	}
	left, w := plain(m, to, w, fuel-1)
	left.Retired++
	return left, w
}

// T1: what is seen of a run is what so many steps do, at any fuel.
func TestT1RunIsSoManySteps(t *testing.T) {
	for k, f := range samples(t) {
		for _, fuel := range []int{0, 1, 2, 3, 4, 5, 6, 7, 8, 11, 12, 13, 19, 20, 21, 47, 60, 500, api.MaxFuel} {
			s := api.Script{Input: "hello, world", Reads: []int{3, 1, 0}, Fuel: fuel}
			o, st := ready(t, f)
			want, _ := plain(o, st, call.World{Input: s.Input, Reads: s.Reads}, fuel)
			if m := wantRun(t, "sample "+strconv.Itoa(k)+", fuel "+strconv.Itoa(fuel), f, s, want); !m.Same(o) {
				t.Errorf("sample %d, fuel %d: another memory", k, fuel)
			}
		}
	}
}

// some is an instruction, mostly one that goes well.
func some(next func() uint32) api.Ins {
	r := func() int { return int(next() >> 9 % 8) }
	at := func() uint32 { return next() >> 9 % 48 * 4 }
	switch next() >> 7 % 20 {
	case 0, 1, 2:
		return addiu(r(), r(), uint32(int32(next()>>9%200)-100))
	case 3, 4:
		return addu(r(), r(), r())
	case 5:
		return li(r(), next()>>9%0x10000)
	case 6:
		return li(r(), data+at())
	case 7:
		return sw(r(), []int{29, 28}[next()>>9%2], at()%0x40)
	case 8:
		return lw(r(), []int{29, 28, 27}[next()>>9%3], at()%0x40)
	case 9:
		return jump(code + at())
	case 10, 11:
		return beq(r(), r(), at()%40)
	case 12:
		return an([]string{"bne", "blez", "bgtz", "bgezal"}[next()>>9%4], api.Ins{S: r(), Imm: 8 + at()%32})
	case 13:
		return an([]string{"jr", "teq", "break", "add", "mult", "mflo"}[next()>>9%6], api.Ins{})
	case 14:
		return li(2, []uint32{exit, read, write, more}[next()>>9%4])
	case 15:
		return li(2, []uint32{read, write}[next()>>9%2])
	case 16:
		return li([]int{4, 5, 6}[next()>>9%3], next()>>9%4)
	case 17:
		return li(5, data+at())
	case 18:
		return addiu(28, 27, at())
	}
	return ask()
}

// anyProgram is a program of such, with places in its registers, and a world.
func anyProgram(t *testing.T, next func() uint32) (*mem.Mem, api.State, call.World) {
	t.Helper()
	var l []api.Ins
	for range 48 {
		i := some(next)
		if _, err := ins.Encode(i); err != api.OK { // a form without those fields
			i = nop()
		}
		l = append(l, i)
	}
	m, st := ready(t, program(t, l...))
	st.R[27], st.R[28] = code, data
	st.R[2], st.R[4], st.R[5], st.R[6] = []uint32{read, write}[next()>>9%2], next()>>9%3, data, next()>>9%40
	w := call.New(api.Script{Input: strings.Repeat("calque!", int(next()>>9%9)), Reads: []int{3, 0, int(next() >> 9 % 9)}})
	if next()>>9%3 == 0 {
		w.Events = []api.Event{{FD: 1, Data: "had"}}
	}
	return m, st, w
}

// Many programs held against a second reading of the chapter, in one piece and in two.
func TestP132Each(t *testing.T) {
	next := spread()
	count := map[[2]int]int{}
	for range 3000 {
		m, st, w := anyProgram(t, next)
		o, p := m.Copy(), m.Copy()
		fuel := int(next() >> 9 % 120)
		was := deep(w)
		r, u := run.From(m, st, w, fuel)
		want, v := plain(o, st, w, fuel)
		told := gone{want, v, o, o.Touched()}
		wantSame(t, "any", gone{r, u, m, m.Touched()}, told)
		if !sameWorld(w, was) {
			t.Errorf("the world that was handed in is %v, not %v", w, was)
		}
		cut := int(next()>>9) % (fuel + 1)
		a, half := run.From(p, st, w, cut)
		b, whole := a, half
		if a.Status == api.Running {
			b, whole = run.From(p, a.State, half, fuel-cut)
			b.Retired += a.Retired
		}
		wantSame(t, "any, in two", gone{b, whole, p, p.Touched()}, told)
		count[[2]int{r.Status, r.Fault.Kind}]++
		if t.Failed() {
			t.Fatalf("fuel %d of %v, cut at %d", fuel, st, cut)
		}
	}
	for _, x := range [][2]int{{api.Running, 0}, {api.Exited, 0}, {api.Faulted, api.FetchPage}, {api.Faulted, api.Reserved}, {api.Faulted, api.Break}, {api.Faulted, api.Trap}} {
		if count[x] < 20 {
			t.Errorf("%v: only %d of them", x, count[x])
		}
	}
}

// Whatever is handed in: every call ends, and none panics.
func TestR1NoPanic(t *testing.T) {
	next := spread()
	numbers := []int{0, 1, 2, -1, 3, 40, 200, 1 << 31, 1 << 32, -1 << 32, math.MaxInt, math.MinInt}
	number := func() int { return numbers[next()>>9%uint32(len(numbers))] }
	for range 2000 {
		m, st, w := anyProgram(t, next)
		w.At, w.Used = number(), number()
		w.Reads = []int{number(), number()}
		for range next() >> 9 % 5 {
			st.R[next()>>9%32] = next()
		}
		if next()>>9%2 == 0 {
			st.PC, st.Slot = code+next()>>9%200, next()>>9%2 == 0
		}
		if next()>>9%2 == 0 {
			st.Next = next()
		}
		run.From(m, st, w, number())
		run.From(mem.New(number()), st, w, number())
	}
	files := samples(t)
	for _, l := range wrongFiles(t) {
		files = append(files, l...)
	}
	for range 2000 {
		s := api.Script{Input: strings.Repeat("a", int(next()>>9%10)), Reads: numbers[:next()>>9%12], Fuel: number(), Regens: numbers[:next()>>9%12], Room: number(), Image: "image", Switches: number()}
		f := files[next()>>9%uint32(len(files))]
		if next()>>9%4 == 0 {
			f.Entry = next()
		}
		want := run.Check(s)
		if r, m, err := run.Run(f, s); want != api.OK && err != want || (err == api.OK) != (m != nil) || err != api.OK && !zero(r) {
			t.Errorf("%v: %v, error %d", s, r, err)
		}
	}
}
