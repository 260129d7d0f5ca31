package call_test

import (
	"bytes"
	"math"
	"slices"
	"strings"
	"testing"

	"calque/api"
	"calque/call"
	"calque/mem"
	"calque/step"
)

const (
	full = math.MaxUint32
	last = 1<<32 - api.PageSize // the last page that there may be
	data = 0x1000               // two pages that may be read and written
)

// What a program may ask for.
const (
	exit  = 4001
	read  = 4003
	write = 4004
	more  = 4090
)

// spread answers numbers that are spread out, always the same ones.
func spread() func() uint32 {
	v := uint32(2463534242)
	return func() uint32 {
		v ^= v << 13
		v ^= v >> 17
		v ^= v << 5
		return v
	}
}

// pages is a memory of at most so many pages, with perms by their places, all filled and watched.
func pages(t *testing.T, most int, perms map[uint32]int) *mem.Mem {
	t.Helper()
	m := mem.New(most)
	for at, perm := range perms {
		if err := m.Map(at, perm); err != api.OK {
			t.Fatalf("Map(%#x): error %d", at, err)
		}
		for k := range uint32(api.PageSize) {
			m.Poke(at+k, byte((at/api.PageSize*31+k*7)%251+1))
		}
		m.Watch(at, true)
	}
	m.Touched()
	return m
}

// usual is a memory with two pages at data, one on both sides of the end of the 32 bits, and one of each other sort.
func usual(t *testing.T) *mem.Mem {
	t.Helper()
	return pages(t, 20, map[uint32]int{
		0: 6, last: 6, data: 6, data + 0x100: 7,
		0x2000: api.Read, 0x2100: api.Write, 0x2200: api.Exec, 0x2300: 0, 0x2400: api.Read | api.Exec, 0x2500: api.Write | api.Exec, 0x2600: 6, 0x2700: api.Read, 0x2800: 6, 0x2900: api.Write,
	})
}

// begin is a state, in a slot and ahead of a place that is elsewhere, whose registers are all unlike each other and unlike 0, R[0] too.
func begin(what, a, b, c uint32) api.State {
	s := api.State{PC: 8, Next: 100, Slot: true, HI: 0x41414141, LO: 0x42424242}
	for k := range s.R {
		s.R[k] = 0x0a0b0c00 + uint32(k)
	}
	s.R[2], s.R[4], s.R[5], s.R[6] = what, a, b, c
	return s
}

// behind is a state as it is behind an instruction that turns nothing.
func behind(s api.State) api.State {
	s.R[0] = 0
	s.PC, s.Next, s.Slot = s.Next, s.Next+4, false
	return s
}

// answered is a state behind a call, with what R[2] and R[7] say.
func answered(s api.State, v, wrong uint32) api.State {
	s = behind(s)
	s.R[2], s.R[7] = v, wrong
	return s
}

// some is a world in the midst of things.
func some() call.World {
	return call.World{Input: "abcdefghij", At: 3, Reads: []int{9, 2, 0, -7, 100}, Used: 1, Events: []api.Event{{FD: 2, Data: "x"}, {FD: 9}}}
}

// deep is a world whose lists are copies.
func deep(w call.World) call.World {
	w.Reads = append([]int(nil), w.Reads...)
	w.Events = append([]api.Event(nil), w.Events...)
	return w
}

// sameWorld tells whether two worlds say the same; nil and an empty list are one.
func sameWorld(a, b call.World) bool {
	return a.Input == b.Input && a.At == b.At && a.Used == b.Used && slices.Equal(a.Reads, b.Reads) && slices.Equal(a.Events, b.Events)
}

// want is all that is to be seen of a call.
type want struct {
	state  api.State
	world  call.World
	goes   int
	code   uint32
	memory *mem.Mem
	places []uint32 // that were written
}

// wantCall holds a call to what is to be seen of it: the state, the world, how it goes on, the code, each byte, and which places were written. It answers the state and the world.
func wantCall(t *testing.T, what string, m *mem.Mem, s api.State, w call.World, x want) (api.State, call.World) {
	t.Helper()
	m.Touched()
	was := deep(w)
	state, world, goes, code := call.Call(m, s, w)
	if state != x.state {
		t.Errorf("%s: the state is %v, not %v", what, state, x.state)
	}
	if !sameWorld(world, x.world) {
		t.Errorf("%s: the world is %v, not %v", what, world, x.world)
	}
	if goes != x.goes || code != x.code {
		t.Errorf("%s: goes %d, %#x, not %d, %#x", what, goes, code, x.goes, x.code)
	}
	if !m.Same(x.memory) {
		t.Errorf("%s: other pages or bytes", what)
	}
	if l := m.Touched(); !slices.Equal(l, x.places) {
		t.Errorf("%s: wrote %#x, not %#x", what, l, x.places)
	}
	if !sameWorld(w, was) {
		t.Errorf("%s: the world that was handed in is %v, not %v", what, w, was)
	}
	return state, world
}

// wantWrong holds a call to a refusal: the two registers and On, and nothing else.
func wantWrong(t *testing.T, what string, m *mem.Mem, s api.State, w call.World, why uint32) {
	t.Helper()
	wantCall(t, what, m, s, w, want{state: answered(s, why, 1), world: deep(w), goes: call.Goes, memory: m.Copy()})
}

// wantRead holds a read that is right to the bytes that it puts, and to the world behind it, which it answers.
func wantRead(t *testing.T, what string, m *mem.Mem, s api.State, w call.World, text string, at, used int) call.World {
	t.Helper()
	after := m.Copy()
	var places []uint32
	for k, b := range []byte(text) {
		after.Poke(s.R[5]+uint32(k), b)
		places = append(places, s.R[5]+uint32(k))
	}
	to := deep(w)
	to.At, to.Used = at, used
	_, got := wantCall(t, what, m, s, w, want{answered(s, uint32(len(text)), 0), to, call.Goes, 0, after, places})
	return got
}

// wantWrite holds a write that is right to its event, the last one of the world that it answers.
func wantWrite(t *testing.T, what string, m *mem.Mem, s api.State, w call.World, text string) call.World {
	t.Helper()
	to := deep(w)
	to.Events = append(to.Events, api.Event{FD: s.R[4], Data: text})
	_, got := wantCall(t, what, m, s, w, want{state: answered(s, uint32(len(text)), 0), world: to, goes: call.Goes, memory: m.Copy()})
	return got
}

// wantMore holds a call for more memory that is right to the pages that are there behind it, with their perms.
func wantMore(t *testing.T, what string, m *mem.Mem, s api.State, perms map[uint32]int) {
	t.Helper()
	wantPages(t, what, m, s, answered(s, 0, 0), call.Goes, perms)
}

// wantPages holds a call for more memory to its state, and to the pages behind it.
func wantPages(t *testing.T, what string, m *mem.Mem, s, state api.State, goes int, perms map[uint32]int) {
	t.Helper()
	before := m.Copy()
	m.Touched()
	got, world, how, code := call.Call(m, s, some())
	if got != state || !sameWorld(world, some()) || how != goes || code != 0 {
		t.Errorf("%s: %v, %v, %d, %d", what, got, world, how, code)
	}
	if len(m.Pages()) != len(perms) {
		t.Errorf("%s: pages %#x", what, m.Pages())
	}
	for at, perm := range perms {
		if !m.Mapped(at) || m.Perm(at) != perm || m.Watched(at) != before.Watched(at) || !bytes.Equal(m.Bytes(at, api.PageSize), before.Bytes(at, api.PageSize)) {
			t.Errorf("%s: page %#x: there %v, perm %d, its bytes %x", what, at, m.Mapped(at), m.Perm(at), m.Bytes(at, api.PageSize))
		}
	}
	if l := m.Touched(); len(l) != 0 {
		t.Errorf("%s: wrote %#x", what, l)
	}
}

// permsOf are a memory's pages with their perms, and as many more with 6 as places are handed in.
func permsOf(m *mem.Mem, added ...uint32) map[uint32]int {
	l := map[uint32]int{}
	for _, at := range m.Pages() {
		l[at] = m.Perm(at)
	}
	for _, at := range added {
		l[at] |= 6
	}
	return l
}

func TestP122OutcomesAreTold(t *testing.T) {
	if call.Goes != 0 || call.Exits != 1 || call.NoRoom != 2 {
		t.Error(call.Goes, call.Exits, call.NoRoom)
	}
}

func TestP121New(t *testing.T) {
	for _, s := range []api.Script{
		{},
		{Input: "hello"},
		{Reads: []int{3, 1}},
		{Input: "hello", Reads: []int{3, 0, -1, math.MaxInt, math.MinInt}},
		{Input: "\x00\xff", Reads: []int{}},
		{Input: strings.Repeat("a", 2*api.MaxInput), Reads: make([]int, 2*api.MaxReads)}, // more than run takes: not for this layer to refuse
		{Input: "x", Reads: []int{7}, Fuel: 4, Regens: []int{1, 2}, Room: 5, Image: "image", Switches: 6},
		{Fuel: -1, Regens: []int{-1}, Room: -1, Switches: -1},
	} {
		want := call.World{Input: s.Input, Reads: s.Reads}
		if w := call.New(s); !sameWorld(w, want) {
			t.Errorf("New of %v: %v", s, w)
		}
	}
}

// R3: a script's list is neither kept nor changed, and two worlds of one script have nothing in common.
func TestP121NewHasAListOfItsOwn(t *testing.T) {
	room := []int{1, 2, 3, 4, 5}
	s := api.Script{Input: "hello", Reads: room[:3]}
	a, b := call.New(s), call.New(s)
	a.Reads[0] = 70
	_ = append(a.Reads, 71)
	room[1] = 72
	if !slices.Equal(room, []int{1, 72, 3, 4, 5}) || !slices.Equal(a.Reads, []int{70, 2, 3}) || !slices.Equal(b.Reads, []int{1, 2, 3}) {
		t.Error(room, a.Reads, b.Reads)
	}
}

func TestP122Example(t *testing.T) {
	m := usual(t)
	m.Poke(data, 'h')
	m.Poke(data+1, 'i')
	s := begin(write, 1, data, 2)
	state, w, goes, code := call.Call(m, s, call.New(api.Script{}))
	if state.R[2] != 2 || state.R[7] != 0 || !slices.Equal(w.Events, []api.Event{{FD: 1, Data: "hi"}}) || goes != call.Goes || code != 0 {
		t.Error(state, w, goes, code)
	}
}

func TestP122Exit(t *testing.T) {
	for _, code := range []uint32{0, 1, 77, 4001, 0x7fffffff, 0x80000000, full} {
		for _, w := range []call.World{some(), {}} {
			m := usual(t)
			s := begin(exit, code, 5, 6)
			wantCall(t, "exit", m, s, w, want{state: behind(s), world: deep(w), goes: call.Exits, code: code, memory: m.Copy()})
			s.Slot = false
			wantCall(t, "exit, in no slot", m, s, w, want{state: behind(s), world: deep(w), goes: call.Exits, code: code, memory: m.Copy()})
		}
	}
}

func TestP122Others(t *testing.T) {
	m := usual(t)
	for _, what := range []uint32{0, 1, 3, 4, 89, 90, 4000, 4002, 4005, 4006, 4045, 4089, 4091, 4246, 1<<12 + 4096, 4001 + 1<<16, 4003 + 1<<31, 4090 + 1<<12, full, full - 4000} {
		for _, a := range []uint32{0, 1, data} {
			wantWrong(t, "another", m, begin(what, a, data, 4), some(), 89)
			wantWrong(t, "another", m, begin(what, a, data, 4), call.World{}, 89)
		}
	}
}

// On, of a call that is right and of one that is wrong, wherever Next is; no other register turns.
func TestP122On(t *testing.T) {
	for _, next := range []uint32{0, 4, 8, 100, 3, 0x7ffffffc, 0x80000000, full - 7, full - 3, full} {
		for _, slot := range []bool{false, true} {
			for _, x := range []struct{ what, a, b, c, v, wrong uint32 }{
				{read, 0, data, 0, 0, 0}, {read, 1, data, 0, 9, 1}, {write, 1, data, 0, 0, 0}, {write, 0, data, 0, 9, 1}, {more, data, 2, 0, 0, 0}, {more, data, 65, 0, 22, 1}, {7, 0, 0, 0, 89, 1},
			} {
				s := begin(x.what, x.a, x.b, x.c)
				s.PC, s.Next, s.Slot = next-50, next, slot
				got, _, goes, code := call.Call(usual(t), s, some())
				to := step.On(s)
				to.R[2], to.R[7] = x.v, x.wrong
				if got != to || got != answered(s, x.v, x.wrong) || goes != call.Goes || code != 0 {
					t.Errorf("%v: %v, not %v; %d, %d", s, got, to, goes, code)
				}
			}
		}
	}
}

// refusals are calls that read or write, each wrong by one thing or by several, and what is told.
func refusals(fd, bad uint32) []struct{ fd, at, n, why uint32 } {
	none := uint32(0x5000)
	return []struct{ fd, at, n, why uint32 }{
		// Each by itself.
		{3, data, 4, 9}, {full, data, 4, 9}, {1 << 31, data, 4, 9}, {256, data, 4, 9}, {3, data, 0, 9},
		{fd, data, api.MaxFile + 1, 22}, {fd, data, 1 << 31, 22}, {fd, data, full, 22}, {fd, data, 1 << 16, 22},
		{fd, none, 1, 14}, {fd, none, 4, 14}, {fd, bad, 1, 14}, {fd, bad + 255, 1, 14}, {fd, 0x2200, 1, 14}, {fd, 0x2300, 7, 14}, {fd, bad, 300, 14},
		{fd, data, 513, 14}, {fd, data + 511, 2, 14}, {fd, data - 1, 2, 14}, {fd, data - 1, 1, 14}, {fd, data + 512, 1, 14}, {fd, data, api.MaxFile, 14}, {fd, bad - 1, 2, 14}, {fd, bad + 255, 2, 14}, {fd, bad - 0xff, 0x100, 14},
		{fd, 0x2600, 257, 14}, {fd, 0x26ff, 2, 14}, {fd, 0x2600, 0x300, 14}, {fd, last - 1, 300, 14}, {fd, last, 513, 14}, {fd, full, 258, 14}, {fd, last - 1, 1, 14}, {fd, 0x80, 0x81, 14},
		// Two at once, and all three.
		{3, data, api.MaxFile + 1, 9}, {3, none, 4, 9}, {3, bad, 1, 9}, {fd, none, api.MaxFile + 1, 22}, {fd, bad, full, 22}, {7, none, api.MaxFile + 1, 9}, {full, bad, full, 9},
	}
}

func TestP122ReadWrong(t *testing.T) {
	m := usual(t)
	for _, w := range []call.World{some(), {}, {Input: "abc"}, {Input: "abc", At: 3, Reads: []int{1}}} {
		for _, x := range append(refusals(0, 0x2700), []struct{ fd, at, n, why uint32 }{{1, data, 4, 9}, {2, data, 4, 9}, {0, 0x2000, 1, 14}, {0, 0x2400, 2, 14}, {1, 0x2000, 4, 9}}...) {
			wantWrong(t, "read", m, begin(read, x.fd, x.at, x.n), w, x.why)
		}
	}
}

func TestP122WriteWrong(t *testing.T) {
	m := pages(t, 20, map[uint32]int{0: 6, last: 6, data: 6, data + 0x100: 7, 0x2100: api.Write, 0x2200: api.Exec, 0x2300: 0, 0x2500: 3, 0x2600: 6, 0x2700: 2, 0x2800: 6})
	for _, w := range []call.World{some(), {}, {Input: "abc"}} {
		for _, fd := range []uint32{1, 2} {
			for _, x := range append(refusals(fd, 0x2700), []struct{ fd, at, n, why uint32 }{{0, data, 4, 9}, {0, data, 0, 9}, {fd, 0x2100, 1, 14}, {fd, 0x2500, 2, 14}, {0, 0x2100, 4, 9}}...) {
				wantWrong(t, "write", m, begin(write, x.fd, x.at, x.n), w, x.why)
			}
		}
	}
}

// A read that asks for no byte: right, and nothing is used, wherever it would put it.
func TestP122ReadNone(t *testing.T) {
	m := usual(t)
	for _, at := range []uint32{0, data, 0x2000, 0x2300, 0x5000, full} {
		for _, w := range []call.World{some(), {}, {Input: "abc", Reads: []int{0, 1}}, {Input: "abc", At: 3, Reads: []int{1}}} {
			wantRead(t, "none", m, begin(read, 0, at, 0), w, "", w.At, w.Used)
		}
	}
}

// The least of R[6], of what is left, and of the next of Reads.
func TestP122ReadLeast(t *testing.T) {
	const text = "abcdefghij"
	for _, x := range []struct {
		n     uint32
		at    int
		reads []int
		used  int
		want  string
		to    int // Used behind it
	}{
		// No Reads at all, or none left.
		{4, 0, nil, 0, "abcd", 0}, {10, 0, nil, 0, text, 0}, {11, 0, nil, 0, text, 0}, {262, 0, nil, 0, text, 0}, {1, 9, nil, 0, "j", 0}, {5, 7, nil, 0, "hij", 0}, {5, 10, nil, 0, "", 0},
		{4, 2, []int{1}, 1, "cdef", 1}, {4, 2, []int{1, 2}, 2, "cdef", 2}, {4, 2, []int{1}, 2, "cdef", 2}, {4, 2, []int{1}, math.MaxInt, "cdef", math.MaxInt},
		// One of them is the least.
		{4, 0, []int{3}, 0, "abc", 1}, {4, 0, []int{4}, 0, "abcd", 1}, {4, 0, []int{5}, 0, "abcd", 1}, {4, 8, []int{3}, 0, "ij", 1}, {2, 7, []int{3}, 0, "hi", 1}, {3, 0, []int{1}, 0, "a", 1}, {1, 0, []int{math.MaxInt}, 0, "a", 1}, {3, 0, []int{1 << 32}, 0, "abc", 1}, {3, 0, []int{1<<32 + 1}, 0, "abc", 1},
		{262, 0, []int{262}, 0, text, 1}, {9, 1, []int{1, 9, 2}, 1, "bcdefghij", 2}, {9, 1, []int{1, 9, 2}, 2, "bc", 3}, {9, 1, []int{1, 9, 2}, 3, "bcdefghij", 3},
		// Below 1 it counts as 1.
		{4, 0, []int{0}, 0, "a", 1}, {4, 5, []int{-1}, 0, "f", 1}, {4, 5, []int{7, -900}, 1, "f", 2}, {1, 9, []int{math.MinInt}, 0, "j", 1}, {4, 3, []int{-1 << 32}, 0, "d", 1}, {4, 3, []int{-1<<32 + 3}, 0, "d", 1},
		// Nothing is left: the next one is used nonetheless.
		{4, 10, []int{3, 2}, 0, "", 1}, {4, 10, []int{3, 2}, 1, "", 2}, {4, 10, []int{0}, 0, "", 1}, {4, 10, []int{3, 2}, 2, "", 2},
	} {
		m := usual(t)
		w := call.World{Input: text, At: x.at, Reads: x.reads, Used: x.used, Events: []api.Event{{FD: 1, Data: "x"}}}
		wantRead(t, "read", m, begin(read, 0, data+250, x.n), w, x.want, x.at+len(x.want), x.to)
	}
}

// The world of one read is that of the next.
func TestP122ReadsOneBehindTheOther(t *testing.T) {
	m := usual(t)
	w := call.New(api.Script{Input: "abcdefgh", Reads: []int{3, 0, 9}})
	for _, x := range []struct {
		at, n uint32
		want  string
		used  int
	}{{data, 8, "abc", 1}, {data + 3, 8, "d", 2}, {data, 0, "", 2}, {0, 2, "ef", 3}, {full, 1, "g", 3}, {data, 8, "h", 3}, {data, 8, "", 3}, {data, 8, "", 3}} {
		w = wantRead(t, "read", m, begin(read, 0, x.at, x.n), w, x.want, w.At+len(x.want), x.used)
	}
	// A refused one in between uses nothing.
	w = call.New(api.Script{Input: "abcdefgh", Reads: []int{3, 2}})
	w = wantRead(t, "read", m, begin(read, 0, data, 8), w, "abc", 3, 1)
	_, w, _, _ = call.Call(m, begin(read, 0, 0x2000, 8), w)
	_, w, _, _ = call.Call(m, begin(read, 1, data, 8), w)
	wantRead(t, "read", m, begin(read, 0, data, 8), w, "de", 5, 2)
}

// Over the border of a page, and past the last place of 2^32: place by place, from R[5] on.
func TestP122ReadPlaces(t *testing.T) {
	text := strings.Repeat("0123456789abcdefghijklmnopqrstuvwxyz", 15)
	w := call.World{Input: text}
	for _, x := range []struct{ at, n uint32 }{
		{data, 1}, {data, 256}, {data, 257}, {data, 512}, {data + 1, 511}, {data + 255, 2}, {data + 200, 100}, {data + 511, 1}, {0x2600, 256}, {0x2500, 512}, {0x25ff, 2}, {0x2500, 0x200}, {0x2800, 512},
		{full, 1}, {full, 2}, {full, 257}, {last, 512}, {last + 200, 300}, {0, 256}, {last, 256}, {0x2100, 256},
	} {
		wantRead(t, "read", usual(t), begin(read, 0, x.at, x.n), w, text[:x.n], int(x.n), 0)
	}
	// As many as there may be at once.
	perms := map[uint32]int{}
	for at := uint32(0x8000); at < 0xc000; at += api.PageSize {
		perms[at] = api.Write
	}
	text = strings.Repeat("0123456789abcde", 2000)
	m := pages(t, api.MaxPages, perms)
	wantRead(t, "read", m, begin(read, 0, 0x8000, api.MaxFile), call.World{Input: text}, text[:api.MaxFile], api.MaxFile, 0)
	wantWrong(t, "read", m, begin(read, 0, 0x8001, api.MaxFile), call.World{Input: text}, 14)
	wantWrong(t, "read", m, begin(read, 0, 0x8000, api.MaxFile+1), call.World{Input: text}, 22)
}

// All places that were asked for are held to account, also those that nothing would be put to.
func TestP122ReadAsksOfAllPlaces(t *testing.T) {
	m := usual(t)
	for _, w := range []call.World{{Input: "ab"}, {}, {Input: "abcdef", Reads: []int{2}}} {
		wantWrong(t, "read", m, begin(read, 0, data+510, 3), w, 14)
		wantWrong(t, "read", m, begin(read, 0, full, 258), w, 14)
		wantWrong(t, "read", m, begin(read, 0, 0x2600, 257), w, 14)
	}
	// A bad page between two good ones.
	wantWrong(t, "read", m, begin(read, 0, 0x26f0, 0x120), call.World{Input: "ab"}, 14)
}

// What is put stands there byte by byte as it is in Input.
func TestP122ReadAllBytes(t *testing.T) {
	l := make([]byte, 256)
	for k := range l {
		l[k] = byte(k)
	}
	w := call.World{Input: string(l) + "é\xff\x00"}
	m := usual(t)
	w = wantRead(t, "read", m, begin(read, 0, data+3, 256), w, string(l), 256, 0)
	wantRead(t, "read", m, begin(read, 0, data+3, 256), w, "\xc3\xa9\xff\x00", 260, 0)
}

// A world that no call made: nothing is left behind its end, or ahead of its beginning, and no next one.
func TestP122ReadOddWorlds(t *testing.T) {
	m := usual(t)
	for _, at := range []int{-1, -3, 4, 5, math.MaxInt, math.MinInt, 1 << 32, -1 << 32} {
		for _, used := range []int{-1, math.MinInt, 2, 3, math.MaxInt} {
			w := call.World{Input: "abc", At: at, Reads: []int{2, 2}, Used: used}
			wantRead(t, "read", m, begin(read, 0, data, 4), w, "", at, used)
		}
		w := call.World{Input: "abc", At: at, Reads: []int{2, 2}, Used: 1}
		wantRead(t, "read", m, begin(read, 0, data, 4), w, "", at, 2)
	}
	for _, used := range []int{-1, math.MinInt, 2, 3, math.MaxInt} {
		w := call.World{Input: "abc", Reads: []int{2, 2}, Used: used}
		wantRead(t, "read", m, begin(read, 0, data, 4), w, "abc", 3, used)
	}
}

func TestP122Write(t *testing.T) {
	m := usual(t)
	for k, b := range []byte("hello, \x00\xff\xc3\xa9") {
		m.Poke(data+250+uint32(k), b)
	}
	for _, fd := range []uint32{1, 2} {
		for _, w := range []call.World{{}, some()} {
			wantWrite(t, "write", m, begin(write, fd, data+250, 5), w, "hello")
			wantWrite(t, "write, over the border", m, begin(write, fd, data+250, 11), w, "hello, \x00\xff\xc3\xa9")
			wantWrite(t, "write, one", m, begin(write, fd, data+256, 1), w, " ")
			// Of no byte: an event, wherever it would take it from.
			for _, at := range []uint32{data, 0x2100, 0x2300, 0x5000, full} {
				wantWrite(t, "write, none", m, begin(write, fd, at, 0), w, "")
			}
			// Pages that may be read, whatever else they may be; over the end of the 32 bits.
			for _, x := range []struct{ at, n uint32 }{{0x2000, 256}, {0x2400, 1}, {0x2600, 512}, {0x2700, 300}, {data, 512}, {full, 1}, {full, 2}, {full, 257}, {last, 512}, {last + 255, 100}} {
				wantWrite(t, "write", m, begin(write, fd, x.at, x.n), w, string(m.Bytes(x.at, int(x.n))))
			}
		}
	}
	perms := map[uint32]int{}
	for at := uint32(0x8000); at < 0xc000; at += api.PageSize {
		perms[at] = api.Read
	}
	m = pages(t, api.MaxPages, perms)
	wantWrite(t, "write, all that may be", m, begin(write, 1, 0x8000, api.MaxFile), some(), string(m.Bytes(0x8000, api.MaxFile)))
	wantWrong(t, "write, one past that", m, begin(write, 1, 0x8001, api.MaxFile), some(), 14)
	wantWrong(t, "write, too many", m, begin(write, 1, 0x8000, api.MaxFile+1), some(), 22)
}

func TestP122WritesOneBehindTheOther(t *testing.T) {
	m := usual(t)
	w := call.New(api.Script{Input: "abc", Reads: []int{1}})
	var events []api.Event
	for k := range uint32(60) {
		fd := k%2 + 1
		m.Poke(data, byte(k))
		w = wantWrite(t, "write", m, begin(write, fd, data, k%3), w, string(m.Bytes(data, int(k%3))))
		events = append(events, api.Event{FD: fd, Data: string(m.Bytes(data, int(k%3)))})
		if !slices.Equal(w.Events, events) {
			t.Fatalf("events %v, not %v", w.Events, events)
		}
	}
	// An event is as it was, whatever becomes of the memory.
	m.Poke(data, 'z')
	if !slices.Equal(w.Events, events) {
		t.Error("an event has turned")
	}
}

// What was read is what is written.
func TestP122ReadAndWrite(t *testing.T) {
	m := usual(t)
	w := call.New(api.Script{Input: "hello"})
	w = wantRead(t, "read", m, begin(read, 0, full, 9), w, "hello", 5, 0)
	wantWrite(t, "write", m, begin(write, 1, full, 5), w, "hello")
}

func TestP122More(t *testing.T) {
	m := usual(t) // 14 pages of 20
	for _, at := range []uint32{0, 0x5000, 0x50ff, full} {
		wantMore(t, "no page", m, begin(more, at, 0, 7), permsOf(m))
	}
	wantMore(t, "one", m, begin(more, 0x5000, 1, full), permsOf(m, 0x5000))
	wantMore(t, "many, from within a page", m, begin(more, 0x6011, 3, 0), permsOf(m, 0x6000, 0x6100, 0x6200))
	wantMore(t, "again", m, begin(more, 0x60ff, 3, 0), permsOf(m))
	wantMore(t, "pages that are there", m, begin(more, 0x2000, 7, 0), permsOf(m, 0x2000, 0x2100, 0x2200, 0x2300, 0x2400, 0x2500, 0x2600))
	if m.Perm(0x2000) != 6 || m.Perm(0x2200) != 7 || m.Perm(0x2300) != 6 || m.Perm(0x2500) != 7 || m.Perm(0x2700) != api.Read {
		t.Error("perms of pages that were there")
	}
	wantMore(t, "past the last place", m, begin(more, last-0x80, 4, 0), permsOf(m, last-0x100, 0x100))
	if m.Perm(last) != 6 || m.Perm(0) != 6 || len(m.Pages()) != 20 {
		t.Errorf("pages %#x", m.Pages())
	}
	// All are there: those that are there already have their place yet.
	wantMore(t, "of a full memory", m, begin(more, 0x2000, 10, 0), permsOf(m, 0x2700, 0x2900))
}

func TestP122MoreTooMany(t *testing.T) {
	m := usual(t)
	for _, n := range []uint32{api.MaxPages + 1, api.MaxPages + 2, 256, 1 << 24, 1<<24 + 1, 1 << 31, full} {
		for _, at := range []uint32{0, data, 0x5000, full} {
			wantWrong(t, "more", m, begin(more, at, n, 1), some(), 22)
		}
	}
	m = mem.New(api.MaxPages)
	var all []uint32
	for k := range uint32(api.MaxPages) {
		all = append(all, last+k*api.PageSize)
	}
	wantMore(t, "as many as there may be", m, begin(more, full, api.MaxPages, 0), permsOf(m, all...))
	wantWrong(t, "one more than that", m, begin(more, full, api.MaxPages+1, 0), some(), 22)
}

// No room: those that were Mapped stay, and the state is as it was, R[0] too.
func TestP122MoreNoRoom(t *testing.T) {
	m := usual(t)
	s := begin(more, 0x5033, 7, 0)
	wantPages(t, "no room for the last one", m, s, s, call.NoRoom, permsOf(m, 0x5000, 0x5100, 0x5200, 0x5300, 0x5400, 0x5500))
	s = begin(more, 0x5500, 3, 0)
	wantPages(t, "one is there", m, s, s, call.NoRoom, permsOf(m))
	s = begin(more, 0x1f00, 3, 0)
	wantPages(t, "none behind the first that has none", m, s, s, call.NoRoom, permsOf(m))
	s = begin(more, 0x2900, 2, 0)
	wantPages(t, "the one that is there has more perms", m, s, s, call.NoRoom, permsOf(m, 0x2900))
	m = pages(t, 3, map[uint32]int{0: api.Exec})
	s = begin(more, last, 5, 0)
	wantPages(t, "past the last place", m, s, s, call.NoRoom, map[uint32]int{last: 6, 0: 7, 0x100: 6})
	m = mem.New(0)
	s = begin(more, 0, 1, 0)
	wantPages(t, "no page may be", m, s, s, call.NoRoom, nil)
	wantMore(t, "none", m, begin(more, 0, 0, 0), nil)
}

// T5: a memory has no more pages than there may be, whatever is asked, and how often.
func TestT5NoMorePages(t *testing.T) {
	next := spread()
	for _, most := range []int{0, 1, 5, api.MaxPages, 1000} {
		m := mem.New(most)
		for range 300 {
			call.Call(m, begin(more, next(), next()>>7%70, 0), call.World{})
			if n := len(m.Pages()); n > min(most, api.MaxPages) {
				t.Fatalf("%d pages of %d", n, most)
			}
		}
		if n := len(m.Pages()); n != min(most, api.MaxPages) {
			t.Errorf("%d pages of %d", n, most)
		}
	}
}

// asks are states, one for each thing that a call may do.
func asks() []api.State {
	return []api.State{
		begin(exit, 7, 0, 0), begin(read, 0, data, 4), begin(read, 0, data, 0), begin(read, 1, data, 4), begin(write, 1, data, 4), begin(write, 2, data, 0), begin(write, 0, data, 4),
		begin(more, 0x5000, 2, 0), begin(more, 0x5000, 50, 0), begin(more, 0x5000, 65, 0), begin(5, 0, 0, 0),
	}
}

// The world is a value: a call with one that was handed in before says the same again.
func TestP122AWorldIsAValue(t *testing.T) {
	for _, s := range asks() {
		w := some()
		first, world, goes, code := call.Call(usual(t), s, w)
		was := deep(world)
		// On from both of them, for a while.
		m := usual(t)
		for _, other := range append(asks(), asks()...) {
			call.Call(m, other, w)
			call.Call(m, other, world)
		}
		again, world2, goes2, code2 := call.Call(usual(t), s, w)
		if first != again || goes != goes2 || code != code2 || !sameWorld(world2, was) || !sameWorld(world, was) || !sameWorld(w, some()) {
			t.Errorf("%v: %v, then %v; the world handed in is %v", s, was, world2, w)
		}
	}
	// Two ways on from one world: neither has the other's event.
	m := usual(t)
	_, w, _, _ := call.Call(m, begin(write, 1, data, 1), some())
	_, a, _, _ := call.Call(m, begin(write, 1, data, 2), w)
	_, b, _, _ := call.Call(m, begin(write, 2, data, 3), w)
	if len(w.Events) != 3 || len(a.Events) != 4 || len(b.Events) != 4 || a.Events[3].FD != 1 || len(a.Events[3].Data) != 2 || b.Events[3].FD != 2 || len(b.Events[3].Data) != 3 {
		t.Errorf("%v, %v, %v", w, a, b)
	}
}

// R3: what is answered shares nothing with what was handed in, spare room too, whatever was asked.
func TestR3NewLists(t *testing.T) {
	for _, s := range asks() {
		reads := []int{9, 2, 0, 55, 56}
		events := []api.Event{{FD: 2, Data: "x"}, {FD: 9}, {FD: 57}, {FD: 58}}
		w := call.World{Input: "abcdefghij", At: 3, Reads: reads[:3], Used: 1, Events: events[:2]}
		_, world, _, _ := call.Call(usual(t), s, w)
		want := deep(world)
		// What was handed in is as it was, behind its end too.
		if !slices.Equal(reads, []int{9, 2, 0, 55, 56}) || !slices.Equal(events, []api.Event{{FD: 2, Data: "x"}, {FD: 9}, {FD: 57}, {FD: 58}}) {
			t.Errorf("%v: lists that were handed in are %v, %v", s, reads, events)
		}
		// Turned, neither side sees it of the other.
		clear(reads)
		clear(events)
		if !sameWorld(world, want) {
			t.Errorf("%v: the world has turned: %v, not %v", s, world, want)
		}
		for k := range world.Reads[:cap(world.Reads)] {
			world.Reads[:cap(world.Reads)][k] = 3
		}
		for k := range world.Events[:cap(world.Events)] {
			world.Events[:cap(world.Events)][k].FD = 3
		}
		if !slices.Equal(reads, make([]int, 5)) || !slices.Equal(events, make([]api.Event, 4)) {
			t.Errorf("%v: lists are shared: %v, %v", s, reads, events)
		}
	}
}

// plainWhy is why a call that reads or writes is refused, as the chapter tells it, place by place; 0: it is not.
func plainWhy(m *mem.Mem, s api.State, fds []uint32, perms []int) uint32 {
	switch {
	case !slices.Contains(fds, s.R[4]):
		return 9
	case s.R[6] > 16384:
		return 22
	}
	for k := range uint64(s.R[6]) {
		if !slices.Contains(perms, m.Perm(uint32((uint64(s.R[5])+k)%(1<<32)))) {
			return 14
		}
	}
	return 0
}

// plainRead is what a read that is not refused does.
func plainRead(x want, m *mem.Mem, s api.State) want {
	if s.R[6] == 0 {
		return x
	}
	n := int(s.R[6])
	if x.world.Used < len(x.world.Reads) {
		n = min(n, max(x.world.Reads[x.world.Used], 1))
		x.world.Used++
	}
	for _, b := range []byte(x.world.Input[x.world.At:]) {
		if len(x.places) == n {
			break
		}
		at := uint32((uint64(s.R[5]) + uint64(len(x.places))) % (1 << 32))
		m.Poke(at, b)
		x.places = append(x.places, at)
	}
	x.world.At += len(x.places)
	x.state.R[2] = uint32(len(x.places))
	return x
}

// plain is P12.2 as the chapter tells it, of a world that calls made; it turns the memory.
func plain(m *mem.Mem, s api.State, w call.World) want {
	x := want{state: answered(s, 0, 0), world: deep(w), goes: 0, memory: m}
	why := uint32(0)
	switch s.R[2] {
	case 4001:
		x.state, x.goes, x.code = behind(s), 1, s.R[4]
	case 4003:
		if why = plainWhy(m, s, []uint32{0}, []int{2, 3, 6, 7}); why == 0 {
			return plainRead(x, m, s)
		}
	case 4004:
		if why = plainWhy(m, s, []uint32{1, 2}, []int{4, 5, 6, 7}); why == 0 {
			event := api.Event{FD: s.R[4]}
			for k := range s.R[6] {
				event.Data += string([]byte{m.Peek(s.R[5] + k)})
			}
			x.world.Events = append(x.world.Events, event)
			x.state.R[2] = s.R[6]
		}
	case 4090:
		if why = 22; s.R[5] <= 64 {
			why = 0
			for k := range uint64(s.R[5]) {
				if m.Map(uint32((uint64(s.R[4])+k*256)%(1<<32)), 6) != api.OK {
					x.state, x.goes = s, 2
					break
				}
			}
		}
	default:
		why = 89
	}
	if why != 0 {
		x.state = answered(s, why, 1)
	}
	return x
}

// ask is a state that asks for something, mostly for what may be.
func ask(next func() uint32) api.State {
	places := []uint32{0, data, data + 0x100, 0x2000, 0x2100, 0x2200, 0x2300, 0x2400, 0x2500, 0x2600, 0x2700, 0x2800, 0x2900, last, full, 0x5000, 0x7000}
	place := func() uint32 { return places[next()>>5%uint32(len(places))] + next()>>7%0x120 }
	size := func() uint32 {
		return []uint32{0, 1, 2, next() >> 9 % 8, next() >> 9 % 300, next() >> 9 % 0x300, api.MaxFile, api.MaxFile + 1, next()}[next()>>6%9]
	}
	what := []uint32{read, read, read, write, write, write, more, more, exit, next() >> 3 % 8000}[next()>>8%10]
	s := begin(what, next()>>9%4, place(), size())
	if what == more {
		s.R[4], s.R[5] = place(), []uint32{0, 1, 2, 3, 64, 65, next()}[next()>>9%7]
	}
	if next()>>7%20 == 0 {
		s.R[4] = next()
	}
	s.PC, s.Next, s.Slot = next(), next(), next()>>5%2 == 0
	return s
}

// Many calls, one behind the other, held against a second reading of the chapter.
func TestP122Each(t *testing.T) {
	next := spread()
	count := map[[2]int]int{}
	for range 250 {
		m := usual(t)
		script := api.Script{Input: strings.Repeat("calque!", int(next()>>9%60))}
		for range next() >> 9 % 30 {
			script.Reads = append(script.Reads, int(int32(next()>>9%40))-5)
		}
		w := call.New(script)
		for range 40 {
			s := ask(next)
			for _, at := range m.Pages() { // also those that there are more of by now
				m.Watch(at, true)
			}
			x := plain(m.Copy(), s, w)
			count[[2]int{int(s.R[2]), int(x.state.R[7])*100 + x.goes}]++
			if _, w = wantCall(t, "any", m, s, w, x); t.Failed() {
				t.Fatalf("%v, of %v", s, w)
			}
		}
	}
	for _, x := range [][2]int{{read, 0}, {read, 100}, {write, 0}, {write, 100}, {more, 0}, {more, 100}} {
		if count[x] < 50 {
			t.Errorf("%v: only %d of them", x, count[x])
		}
	}
}

// Whatever is handed in: every call ends, and none panics.
func TestR1NoPanic(t *testing.T) {
	next := spread()
	numbers := []int{0, 1, 2, -1, 3, 4, 5, 200, 1 << 31, 1 << 32, -1 << 32, math.MaxInt, math.MinInt}
	memories := []*mem.Mem{mem.New(0), mem.New(1), mem.New(api.MaxPages), usual(t), pages(t, 2, map[uint32]int{last: 6, 0: 6})}
	worlds := []call.World{{}, some(), call.New(api.Script{}), call.New(api.Script{Input: "ab", Reads: []int{1}})}
	for _, at := range numbers {
		for _, used := range numbers {
			worlds = append(worlds, call.World{Input: "abcd", At: at, Reads: numbers, Used: used}, call.World{At: at, Used: used, Reads: []int{at}})
		}
	}
	for _, m := range memories {
		for _, w := range worlds {
			for range 60 {
				s := ask(next)
				call.Call(m, s, w)
				s.R[4], s.R[5], s.R[6] = []uint32{0, 1, 2, next()}[next()>>9%4], next(), next()
				call.Call(m, s, w)
				s.R[2] = next()
				call.Call(m, s, w)
			}
		}
	}
}

// R4: two memories have nothing in common, and what was done ahead plays no part.
func TestR4TwoMemories(t *testing.T) {
	m := usual(t)
	o := m.Copy()
	wantRead(t, "the one", m, begin(read, 0, data, 4), some(), "de", 5, 2)
	if !o.Same(usual(t)) {
		t.Error("the other one has turned")
	}
	wantRead(t, "the other", o, begin(read, 0, data, 4), some(), "de", 5, 2)
	wantMore(t, "the one", m, begin(more, 0x5000, 2, 0), permsOf(m, 0x5000, 0x5100))
	if o.Mapped(0x5000) {
		t.Error("the other one has turned")
	}
	for range 3 { // the same of the same, as often as one will
		wantWrite(t, "the one", m, begin(write, 1, data, 2), some(), "de")
		wantWrite(t, "the other", o, begin(write, 1, data, 2), some(), "de")
	}
}
