package mem_test

import (
	"bytes"
	"math"
	"slices"
	"testing"

	"calque/api"
	"calque/mem"
)

// last is the last page that there may be: its end is the end of the 32 bits.
const last = 1<<32 - api.PageSize

// mapped is a memory with pages, which may be read, at some places.
func mapped(t *testing.T, most int, places ...uint32) *mem.Mem {
	t.Helper()
	m := mem.New(most)
	for _, at := range places {
		if err := m.Map(at, api.Read); err != api.OK {
			t.Fatalf("Map(%#x): error %d", at, err)
		}
	}
	return m
}

// fill sets all bytes of a place's page, unlike their neighbours and none of them 0.
func fill(t *testing.T, m *mem.Mem, at uint32) {
	t.Helper()
	at -= at % api.PageSize
	for i := range uint32(api.PageSize) {
		if !m.Poke(at+i, byte((at/api.PageSize*13+i*7)%255+1)) {
			t.Fatalf("Poke(%#x) is false", at+i)
		}
	}
}

// wantPages holds the pages of a memory against what they should be, by Pages and Mapped.
func wantPages(t *testing.T, what string, m *mem.Mem, want ...uint32) {
	t.Helper()
	if got := m.Pages(); !slices.Equal(got, want) {
		t.Errorf("%s: pages %#x, not %#x", what, got, want)
	}
	for _, at := range want {
		if !m.Mapped(at) || !m.Mapped(at+1) || !m.Mapped(at+api.PageSize-1) {
			t.Errorf("%s: %#x is not mapped", what, at)
		}
	}
}

// wantTouched holds what was touched against what it should be; it is empty behind that.
func wantTouched(t *testing.T, what string, m *mem.Mem, want ...uint32) {
	t.Helper()
	if got := m.Touched(); !slices.Equal(got, want) {
		t.Errorf("%s: touched %#x, not %#x", what, got, want)
	}
	if got := m.Touched(); len(got) != 0 {
		t.Errorf("%s: touched %#x once more", what, got)
	}
}

// wantSame asks both ways round.
func wantSame(t *testing.T, what string, a, b *mem.Mem, want bool) {
	t.Helper()
	if a.Same(b) != want || b.Same(a) != want {
		t.Errorf("%s: Same is %v, and %v the other way round, not %v", what, a.Same(b), b.Same(a), want)
	}
}

// perms are numbers, with the perm that each of them is.
func perms() []struct{ perm, want int } {
	return []struct{ perm, want int }{
		{0, 0}, {api.Exec, 1}, {api.Write, 2}, {api.Read, 4}, {api.Read | api.Write, 6}, {7, 7},
		{8, 0}, {9, 1}, {15, 7}, {0x100, 0}, {0x1234567d, 5}, {1<<32 + 6, 6}, {math.MaxInt, 7}, {math.MaxInt - 1, 6},
		{-1, 7}, {-2, 6}, {-3, 5}, {-4, 4}, {-5, 3}, {-6, 2}, {-7, 1}, {-8, 0}, {-9, 7}, {-1 << 32, 0}, {math.MinInt, 0}, {math.MinInt + 3, 3},
	}
}

func TestP51Example(t *testing.T) {
	m := mem.New(1)
	if err := m.Map(100, 6); err != api.OK || !m.Mapped(255) {
		t.Errorf("Map(100): error %d, Mapped(255): %v", err, m.Mapped(255))
	}
	if err := m.Map(256, 6); err != api.ErrBig {
		t.Errorf("Map(256): error %d", err)
	}
}

func TestP51NewHasNoPage(t *testing.T) {
	m := mem.New(api.MaxPages)
	wantPages(t, "a new memory", m)
	for _, at := range []uint32{0, 1, 255, 256, 0x400000, api.StackTop, last, math.MaxUint32} {
		if m.Mapped(at) || m.Perm(at) != 0 || m.Watched(at) {
			t.Errorf("%#x: mapped %v, perm %d, watched %v", at, m.Mapped(at), m.Perm(at), m.Watched(at))
		}
	}
}

func TestP51NewCutsMost(t *testing.T) {
	for _, x := range []struct{ most, want int }{
		{0, 0}, {1, 1}, {2, 2}, {3, 3}, {api.MaxPages - 1, api.MaxPages - 1}, {api.MaxPages, api.MaxPages}, // ordinary
		{-1, 0}, {-2, 0}, {-api.MaxPages, 0}, {math.MinInt32, 0}, {-1<<32 + 5, 0}, {math.MinInt + 5, 0}, {math.MinInt, 0}, // below
		{api.MaxPages + 1, api.MaxPages}, {2 * api.MaxPages, api.MaxPages}, {256, api.MaxPages}, {math.MaxInt32, api.MaxPages}, {1 << 32, api.MaxPages}, {math.MaxInt - 1, api.MaxPages}, {math.MaxInt, api.MaxPages}, // above
	} {
		m := mem.New(x.most)
		var want []uint32
		for i := range x.want {
			at := uint32(i) * 0x1000
			if err := m.Map(at+17, 6); err != api.OK {
				t.Fatalf("New(%d): page %d: error %d", x.most, i, err)
			}
			want = append(want, at)
		}
		for _, at := range []uint32{0x7f0000, 0x80000000, last, 0x100} {
			if err := m.Map(at, 6); err != api.ErrBig {
				t.Errorf("New(%d): one page more: error %d", x.most, err)
			}
		}
		wantPages(t, "all that there may be", m, want...)
	}
}

func TestP51MapTakesAllOfAPage(t *testing.T) {
	for _, x := range []struct{ at, page uint32 }{
		{0, 0}, {1, 0}, {100, 0}, {255, 0}, {256, 256}, {257, 256}, {511, 256}, {512, 512}, {0x12345678, 0x12345600},
		{0x7fffffff, 0x7fffff00}, {0x80000000, 0x80000000}, {0x800000ff, 0x80000000}, {last, last}, {last + 7, last}, {math.MaxUint32, last},
	} {
		m := mem.New(1)
		if err := m.Map(x.at, 5); err != api.OK {
			t.Fatalf("Map(%#x): error %d", x.at, err)
		}
		wantPages(t, "one page", m, x.page)
		for i := range uint32(api.PageSize) {
			if !m.Mapped(x.page+i) || m.Perm(x.page+i) != 5 || m.Peek(x.page+i) != 0 {
				t.Errorf("Map(%#x): %#x: mapped %v, perm %d, %d", x.at, x.page+i, m.Mapped(x.page+i), m.Perm(x.page+i), m.Peek(x.page+i))
			}
		}
		// The neighbours, the page at the other end of the 32 bits too, are not there.
		for _, at := range []uint32{x.page - 1, x.page - api.PageSize, x.page + api.PageSize, x.page + 2*api.PageSize - 1, x.page + 1<<31} {
			if m.Mapped(at) || m.Perm(at) != 0 {
				t.Errorf("Map(%#x): %#x is there too", x.at, at)
			}
		}
	}
}

func TestP51PermsLowestThreeBits(t *testing.T) {
	for _, x := range perms() {
		m := mem.New(1)
		if err := m.Map(300, x.perm); err != api.OK || m.Perm(256) != x.want || m.Perm(511) != x.want {
			t.Errorf("Map(300, %d): error %d, perm %d, not %d", x.perm, err, m.Perm(256), x.want)
		}
	}
}

func TestP51MapAgain(t *testing.T) {
	for _, a := range perms() {
		for _, b := range perms() {
			// One page at most: that it is there already must be asked ahead of how many there are.
			m := mem.New(1)
			m.Map(0x1000, a.perm)
			if err := m.Map(0x10ff, b.perm); err != api.OK || m.Perm(0x1080) != a.want|b.want {
				t.Fatalf("perms %d, %d: error %d, perm %d, not %d", a.perm, b.perm, err, m.Perm(0x1080), a.want|b.want)
			}
		}
	}
	m := mapped(t, 3, 0x1000, 0x1100)
	fill(t, m, 0x1000)
	fill(t, m, 0x1100)
	m.Watch(0x1000, true)
	m.Poke(0x1003, 3)
	before, other := m.Bytes(0x1000, api.PageSize), m.Bytes(0x1100, api.PageSize)
	for range 5 {
		if err := m.Map(0x1020, api.Write); err != api.OK || m.Perm(0x1000) != 6 || m.Perm(0x1100) != 4 {
			t.Errorf("again: error %d, perms %d, %d", err, m.Perm(0x1000), m.Perm(0x1100))
		}
	}
	if !bytes.Equal(m.Bytes(0x1000, api.PageSize), before) || !bytes.Equal(m.Bytes(0x1100, api.PageSize), other) {
		t.Error("again: bytes have turned")
	}
	if !m.Watched(0x1000) || m.Watched(0x1100) {
		t.Error("again: watches have turned")
	}
	wantTouched(t, "again", m, 0x1003)
	// Those calls have made no page: one more has its place, and no other.
	if one, two := m.Map(0, 1), m.Map(0x9000, 1); one != api.OK || two != api.ErrBig {
		t.Errorf("behind them: errors %d, %d", one, two)
	}
	wantPages(t, "again", m, 0, 0x1000, 0x1100)
}

func TestP51OneTooMany(t *testing.T) {
	m := mapped(t, 2, 0x1000, last)
	fill(t, m, 0x1000)
	fill(t, m, last)
	m.Watch(last, true)
	m.Poke(last+9, 1)
	before := m.Copy()
	for _, at := range []uint32{0, 0xfff, 0x1100, 0x11ff, 0x80000000, last - 1} {
		for _, perm := range []int{0, 7, -1, math.MaxInt, math.MinInt} {
			if err := m.Map(at, perm); err != api.ErrBig {
				t.Errorf("Map(%#x): error %d", at, err)
			}
			if m.Mapped(at) || m.Perm(at) != 0 || m.Poke(at, 1) || m.Peek(at) != 0 {
				t.Errorf("%#x is there", at)
			}
		}
	}
	wantPages(t, "refused", m, 0x1000, last)
	wantSame(t, "refused", m, before, true)
	if m.Watched(0x1000) || !m.Watched(last) {
		t.Error("refused: watches have turned")
	}
	wantTouched(t, "refused", m, last+9)
	if err := m.Map(last, api.Exec); err != api.OK || m.Perm(last) != 5 {
		t.Errorf("behind that: error %d, perm %d", err, m.Perm(last))
	}
}

func TestP51PagesRise(t *testing.T) {
	places := []uint32{0x80000000, 0x300, last, 0x7fffff00, 0, 0x100, api.StackTop, 0x1000000, 0x200, 0x10000, 0xff00}
	m := mem.New(api.MaxPages)
	var want []uint32
	for i, at := range places {
		m.Map(at+uint32(i), api.Read)
		want = append(want, at)
		slices.Sort(want)
		wantPages(t, "on the way", m, want...)
	}
	// Asked often: no order of a map is to be seen.
	for range 100 {
		wantPages(t, "at the end", m, want...)
	}
}

func TestP52PeekAndPoke(t *testing.T) {
	m := mapped(t, 3, 0, 0x100, last)
	for _, at := range []uint32{0, 1, 0xff, 0x100, 0x1ff, last, last + 1, math.MaxUint32} {
		for _, v := range []byte{1, 127, 128, 255, 0, 9} {
			if !m.Poke(at, v) || m.Peek(at) != v {
				t.Errorf("Poke(%#x, %d): %d", at, v, m.Peek(at))
			}
		}
	}
	for _, at := range m.Pages() {
		for i := range uint32(api.PageSize) {
			want := byte(0)
			if slices.Contains([]uint32{0, 1, 0xff, 0x100, 0x1ff, last, last + 1, math.MaxUint32}, at+i) {
				want = 9
			}
			if m.Peek(at+i) != want {
				t.Errorf("%#x: %d, not %d", at+i, m.Peek(at+i), want)
			}
		}
	}
}

func TestP52NoPage(t *testing.T) {
	m := mapped(t, 2, 0x100)
	fill(t, m, 0x100)
	before := m.Copy()
	for _, at := range []uint32{0, 0xff, 0x200, 0x2ff, 0x80000100, 0x1000100, last, math.MaxUint32} {
		if m.Poke(at, 1) || m.Peek(at) != 0 || m.Mapped(at) || m.Perm(at) != 0 {
			t.Errorf("%#x: peek %d, mapped %v, perm %d", at, m.Peek(at), m.Mapped(at), m.Perm(at))
		}
	}
	wantPages(t, "after pokes where there is no page", m, 0x100)
	wantSame(t, "after pokes where there is no page", m, before, true)
	// What was poked where there was no page has left nothing behind.
	if err := m.Map(0xff, 7); err != api.OK || m.Peek(0) != 0 || m.Peek(0xff) != 0 {
		t.Errorf("the page, mapped: error %d, bytes %d, %d", err, m.Peek(0), m.Peek(0xff))
	}
}

func TestP52AskNothingOfPerm(t *testing.T) {
	for perm := range 8 {
		m := mem.New(1)
		m.Map(0, perm)
		m.Watch(0, true)
		if !m.Poke(2, 0x4d) || m.Peek(2) != 0x4d || m.Word(0) != 0x4d00 || string(m.Bytes(1, 3)) != "\x00M\x00" {
			t.Errorf("perm %d: %d, %#x, %x", perm, m.Peek(2), m.Word(0), m.Bytes(1, 3))
		}
		wantTouched(t, "whatever the perm", m, 2)
	}
}

func TestP52Word(t *testing.T) {
	m := mapped(t, 4, 0, 0x100, 0x300, last)
	for at, v := range map[uint32]byte{0: 0x10, 1: 0x11, 2: 0x12, 3: 0x13, 4: 0x14, 0xfd: 0xa1, 0xfe: 0xa2, 0xff: 0xa3, 0x100: 0xb0, 0x101: 0xb1, 0x102: 0xb2, 0x1fd: 0xc1, 0x1fe: 0xc2, 0x1ff: 0xc3, 0x300: 0xd0, 0x301: 0xd1, 0x302: 0xd2, 0x3fe: 0xd8, 0x3ff: 0xd9, last + 0xfc: 0xf0, last + 0xfd: 0xf1, last + 0xfe: 0xf2, last + 0xff: 0xf3} {
		m.Poke(at, v)
	}
	for _, x := range []struct{ at, want uint32 }{
		{0, 0x10111213}, {1, 0x11121314}, {2, 0x12131400}, {5, 0}, // ordinary, at any place
		{0xfc, 0x00a1a2a3}, {0xfd, 0xa1a2a3b0}, {0xfe, 0xa2a3b0b1}, {0xff, 0xa3b0b1b2}, // over a border
		{0x1fd, 0xc1c2c300}, {0x1fe, 0xc2c30000}, {0x1ff, 0xc3000000}, {0x3fe, 0xd8d90000}, // into a page that is not there
		{0x2fd, 0xd0}, {0x2fe, 0xd0d1}, {0x2ff, 0xd0d1d2}, // out of one
		{0x200, 0}, {0x80000000, 0}, {last - 4, 0}, // where there is none
		{last + 0xfc, 0xf0f1f2f3}, {last + 0xfd, 0xf1f2f310}, {last + 0xfe, 0xf2f31011}, {math.MaxUint32, 0xf3101112}, // over the end
	} {
		if got := m.Word(x.at); got != x.want {
			t.Errorf("Word(%#x): %#x, not %#x", x.at, got, x.want)
		}
	}
	// The end alone, and the beginning alone.
	m = mapped(t, 1, last)
	m.Poke(math.MaxUint32, 0x77)
	if m.Word(math.MaxUint32) != 0x77000000 || m.Word(math.MaxUint32-3) != 0x77 {
		t.Errorf("the end alone: %#x, %#x", m.Word(math.MaxUint32), m.Word(math.MaxUint32-3))
	}
	m = mapped(t, 1, 0)
	m.Poke(0, 0x77)
	if m.Word(math.MaxUint32) != 0x770000 || m.Word(math.MaxUint32-2) != 0x77 {
		t.Errorf("the beginning alone: %#x, %#x", m.Word(math.MaxUint32), m.Word(math.MaxUint32-2))
	}
}

func TestP52Bytes(t *testing.T) {
	m := mapped(t, 4, 0, 0x100, 0x300, last)
	for _, at := range m.Pages() {
		for i := range uint32(api.PageSize) {
			m.Poke(at+i, byte(i))
		}
	}
	for _, x := range []struct {
		at   uint32
		n    int
		want string
	}{
		{0, 1, "\x00"}, {65, 3, "ABC"}, {0x141, 2, "AB"}, {0, 4, "\x00\x01\x02\x03"}, {65, 0, ""}, // ordinary
		{0xfe, 4, "\xfe\xff\x00\x01"}, {0xff, 2, "\xff\x00"}, {0xff, 1, "\xff"}, // over a border
		{0x1fe, 4, "\xfe\xff\x00\x00"}, {0x2fe, 4, "\x00\x00\x00\x01"}, {0x3ff, 3, "\xff\x00\x00"}, // into a page that is not there, and out of one
		{0x200, 3, "\x00\x00\x00"}, {0x80000000, 2, "\x00\x00"}, // where there is none
		{last + 0xfe, 4, "\xfe\xff\x00\x01"}, {math.MaxUint32, 3, "\xff\x00\x01"}, {math.MaxUint32, 1, "\xff"}, {last - 1, 3, "\x00\x00\x01"}, // over the end
		{0, -1, ""}, {65, -7, ""}, {math.MaxUint32, -1, ""}, {0, math.MinInt32, ""}, {0, -1 << 32, ""}, {0, -1<<32 + 2, ""}, {65, math.MinInt, ""}, {0x80000000, math.MinInt + 1, ""}, // none
	} {
		if got := m.Bytes(x.at, x.n); string(got) != x.want {
			t.Errorf("Bytes(%#x, %d): %x, not %x", x.at, x.n, got, x.want)
		}
	}
}

func TestP52BytesOneByOne(t *testing.T) {
	m := mem.New(api.MaxPages)
	// Every third page from the end of the 32 bits over it is not there.
	for i := range uint32(90) {
		if at := last - 40*api.PageSize + i*api.PageSize; i%3 != 1 {
			m.Map(at, 6)
			fill(t, m, at)
		}
	}
	for _, at := range []uint32{0, 1, 0x100, 0x17f, last, last - 1, last - 40*api.PageSize, math.MaxUint32, math.MaxUint32 - api.MaxFile, 1<<32 - api.MaxFile} {
		for _, n := range []int{1, 2, 255, 256, 257, 511, 512, 1000, api.MaxFile - 1, api.MaxFile, api.MaxFile + 1, 2 * api.MaxFile, 1 << 20, math.MaxInt32, 1 << 32, 1<<32 + 1, math.MaxInt - 1, math.MaxInt} {
			got := m.Bytes(at, n)
			if len(got) != min(n, api.MaxFile) {
				t.Fatalf("Bytes(%#x, %d): %d bytes", at, n, len(got))
			}
			for i, v := range got {
				if want := m.Peek(at + uint32(i)); v != want {
					t.Fatalf("Bytes(%#x, %d): %d at %d, not %d", at, n, v, i, want)
				}
			}
		}
	}
}

func TestP53WatchAndWatched(t *testing.T) {
	m := mapped(t, 3, 0x100, 0x300, last)
	for _, on := range []bool{true, true, false, false, true} {
		m.Watch(0x17f, on)
		if m.Watched(0x100) != on || m.Watched(0x17f) != on || m.Watched(0x1ff) != on {
			t.Errorf("Watch(%v): %v, %v, %v", on, m.Watched(0x100), m.Watched(0x17f), m.Watched(0x1ff))
		}
		for _, at := range []uint32{0, 0xff, 0x200, 0x300, 0x3ff, last, math.MaxUint32} {
			if m.Watched(at) {
				t.Errorf("%#x is watched", at)
			}
		}
	}
	m.Watch(math.MaxUint32, true)
	if !m.Watched(last) || !m.Watched(0x100) || m.Watched(0x300) {
		t.Error("two are watched")
	}
	m.Watch(0x100, false)
	if !m.Watched(last) || m.Watched(0x1ff) {
		t.Error("one of two is watched no more")
	}
	wantTouched(t, "none was poked", m)
	wantPages(t, "watched", m, 0x100, 0x300, last)
}

func TestP53WatchNoPage(t *testing.T) {
	m := mapped(t, 3, 0x100)
	before := m.Copy()
	for _, at := range []uint32{0, 0xff, 0x200, 0x80000100, math.MaxUint32} {
		for _, on := range []bool{true, false, true} {
			m.Watch(at, on)
			if m.Watched(at) || m.Mapped(at) || m.Watched(0x100) {
				t.Errorf("Watch(%#x): watched %v, mapped %v", at, m.Watched(at), m.Mapped(at))
			}
			m.Poke(at, 1)
		}
	}
	wantTouched(t, "where there is no page", m)
	wantSame(t, "where there is no page", m, before, true)
	// That it was asked for ahead does not count once the page is there.
	if err := m.Map(0x200, 2); err != api.OK || m.Watched(0x200) || !m.Poke(0x200, 1) {
		t.Errorf("mapped afterwards: error %d, watched %v", err, m.Watched(0x200))
	}
	wantTouched(t, "mapped afterwards", m)
}

func TestP53Touched(t *testing.T) {
	m := mapped(t, 3, 0, 0x100, last)
	wantTouched(t, "a new memory", m)
	m.Poke(5, 1)
	wantTouched(t, "not watched", m)
	m.Watch(9, true)
	m.Watch(last, true)
	for _, at := range []uint32{200, 3, 0x100, 3, math.MaxUint32, 0, 0x1ff, 0xff, 0x200, 3, last, 0x80000000} {
		m.Poke(at, 7)
	}
	// In order, each as often, a byte that is what it was too, but not where no page is watched, or there.
	wantTouched(t, "two are watched", m, 200, 3, 3, math.MaxUint32, 0, 0xff, 3, last)
	m.Peek(3)
	m.Word(3)
	m.Bytes(0, 1000)
	m.Perm(3)
	m.Mapped(3)
	m.Map(3, 7)
	m.Pages()
	m.Copy().Poke(3, 1)
	m.Same(m)
	m.Watch(3, true)
	wantTouched(t, "what pokes nothing", m)
	m.Poke(1, 1)
	wantTouched(t, "since the last call", m, 1)
}

func TestP53TouchedWhileWatched(t *testing.T) {
	m := mapped(t, 2, 0, 0x100)
	m.Poke(1, 1)
	m.Watch(0, true)
	m.Poke(2, 1)
	m.Watch(0, false)
	m.Poke(3, 1)
	m.Watch(0x100, true)
	m.Poke(0x104, 1)
	m.Poke(4, 1)
	m.Watch(0, true)
	m.Poke(5, 1)
	m.Watch(0, false)
	m.Watch(0x100, false)
	m.Poke(6, 1)
	wantTouched(t, "switched on and off", m, 2, 0x104, 5)
	m.Watch(0, true)
	wantTouched(t, "switched on anew", m)
}

func TestP53TouchedMany(t *testing.T) {
	m := mapped(t, 2, 0, last)
	m.Watch(0, true)
	m.Watch(last, true)
	var want []uint32
	for i := range uint32(50000) {
		at := last + i*37%512
		m.Poke(at, byte(i))
		want = append(want, at)
	}
	wantTouched(t, "many", m, want...)
}

func TestP54CopyIsTheSame(t *testing.T) {
	m := mapped(t, 5, 0x300, 0, last)
	m.Map(0, api.Write)
	m.Map(0x500, 0)
	fill(t, m, 0x300)
	fill(t, m, last)
	m.Watch(0x300, true)
	m.Watch(0x500, true)
	m.Poke(0x301, 4)
	c := m.Copy()
	if c == m {
		t.Error("a copy is the memory itself")
	}
	wantTouched(t, "a copy", c)
	wantSame(t, "a copy", m, c, true)
	wantPages(t, "a copy", c, 0, 0x300, 0x500, last)
	for _, at := range []uint32{0, 0xff, 0x100, 0x300, 0x500, last, math.MaxUint32} {
		if c.Perm(at) != m.Perm(at) || c.Watched(at) != m.Watched(at) || !bytes.Equal(c.Bytes(at, 300), m.Bytes(at, 300)) {
			t.Errorf("a copy, %#x: perm %d, watched %v", at, c.Perm(at), c.Watched(at))
		}
	}
	wantTouched(t, "the memory, copied", m, 0x301)
	c.Poke(0x302, 1)
	c.Poke(last, 1)
	wantTouched(t, "a copy's own", c, 0x302)
	wantSame(t, "a copy's copy", c, c.Copy(), true)
}

func TestP54CopyHasTheSameMost(t *testing.T) {
	for _, x := range []struct{ most, pages, more int }{
		{-3, 0, 0}, {0, 0, 0}, {1, 0, 1}, {1, 1, 0}, {2, 1, 1}, {9, 3, 6}, {api.MaxPages, 60, 4}, {math.MaxInt, 60, 4}, {math.MaxInt, 0, api.MaxPages}, {math.MinInt, 0, 0},
	} {
		m := mem.New(x.most)
		for i := range uint32(x.pages) {
			m.Map(i*api.PageSize, 4)
		}
		for what, c := range map[string]*mem.Mem{"a copy": m.Copy(), "a copy's copy": m.Copy().Copy()} {
			for i := range uint32(x.more) {
				if err := c.Map(0x10000+i*api.PageSize, 4); err != api.OK {
					t.Errorf("New(%d), %s: page %d more: error %d", x.most, what, i, err)
				}
			}
			if err := c.Map(0x80000000, 4); err != api.ErrBig {
				t.Errorf("New(%d), %s: one too many: error %d", x.most, what, err)
			}
		}
		// Those pages are the copies' own.
		if got := len(m.Pages()); got != x.pages {
			t.Errorf("New(%d): %d pages, not %d", x.most, got, x.pages)
		}
	}
}

// turn does to a memory, which has a page at 0x100 that is watched, all that turns one.
func turn(t *testing.T, m *mem.Mem) {
	t.Helper()
	for i := range uint32(api.PageSize) {
		m.Poke(0x100+i, 0xee)
	}
	m.Map(0x100, 7)
	m.Map(0, 7)
	m.Watch(0, true)
	m.Watch(0x100, false)
	if m.Perm(0x100) != 7 || !m.Mapped(0) || !m.Watched(0) || m.Watched(0x100) || m.Peek(0x1ff) != 0xee {
		t.Error("it has not turned")
	}
	wantTouchedCount(t, m, api.PageSize)
}

// wantTouchedCount holds how many were touched against what it should be.
func wantTouchedCount(t *testing.T, m *mem.Mem, want int) {
	t.Helper()
	if got := len(m.Touched()); got != want {
		t.Errorf("%d touched, not %d", got, want)
	}
}

func TestP54CopyAndMemoryTurnApart(t *testing.T) {
	for what, pick := range map[string]func(m, c *mem.Mem) (turned, other *mem.Mem){
		"the memory turned":        func(m, c *mem.Mem) (*mem.Mem, *mem.Mem) { return m, c },
		"the copy turned":          func(m, c *mem.Mem) (*mem.Mem, *mem.Mem) { return c, m },
		"the copy's copy turned":   func(m, c *mem.Mem) (*mem.Mem, *mem.Mem) { return c.Copy(), m },
		"the memory's next turned": func(m, c *mem.Mem) (*mem.Mem, *mem.Mem) { return m.Copy(), c },
	} {
		m := mapped(t, 2, 0x100)
		fill(t, m, 0x100)
		m.Watch(0x100, true)
		content := m.Bytes(0x100, api.PageSize)
		turned, other := pick(m, m.Copy())
		turn(t, turned)
		wantPages(t, what, other, 0x100)
		if !bytes.Equal(other.Bytes(0x100, api.PageSize), content) || other.Perm(0x100) != 4 || !other.Watched(0x100) {
			t.Errorf("%s: the other one has turned: perm %d, watched %v", what, other.Perm(0x100), other.Watched(0x100))
		}
		wantTouched(t, what, other)
		wantSame(t, what, turned, other, false)
		other.Poke(0x1ab, 1)
		wantTouched(t, what, other, 0x1ab)
		if err := other.Map(0x700, 1); err != api.OK || other.Map(0x800, 1) != api.ErrBig {
			t.Errorf("%s: the other one's next page: error %d", what, err)
		}
	}
}

func TestP54Same(t *testing.T) {
	sample := func() *mem.Mem {
		m := mapped(t, 4, 0x300, 0, last)
		fill(t, m, 0x300)
		return m
	}
	wantSame(t, "two without pages", mem.New(0), mem.New(9), true)
	wantSame(t, "one without pages", mem.New(9), sample(), false)
	wantSame(t, "two made alike", sample(), sample(), true)
	if m := sample(); !m.Same(m) {
		t.Error("a memory is not the same as itself")
	}
	for what, turn := range map[string]func(m *mem.Mem){
		"another byte":              func(m *mem.Mem) { m.Poke(0x380, m.Peek(0x380)+1) },
		"another first byte":        func(m *mem.Mem) { m.Poke(0, 1) },
		"another last byte":         func(m *mem.Mem) { m.Poke(math.MaxUint32, 1) },
		"another perm":              func(m *mem.Mem) { m.Map(0x300, api.Write) },
		"another perm, last":        func(m *mem.Mem) { m.Map(math.MaxUint32, api.Exec) },
		"a page more":               func(m *mem.Mem) { m.Map(0x400, 0) },
		"a page more, like another": func(m *mem.Mem) { m.Map(0x100, 4) },
	} {
		a, b := sample(), sample()
		turn(b)
		wantSame(t, what, a, b, false)
		c := a.Copy()
		turn(c)
		wantSame(t, what+", a copy", a, c, false)
		wantSame(t, what+", both", b, c, true)
	}
	wantSame(t, "as many, others", mapped(t, 3, 0, 0x100), mapped(t, 3, 0, 0x200), false)
	wantSame(t, "as many, all others", mapped(t, 3, 0, 0x100), mapped(t, 3, 0x300, 0x200), false)
}

// Neither the most, nor watches, nor what was touched, nor the way there plays a part.
func TestP54SameWhateverElse(t *testing.T) {
	a, b := mem.New(2), mem.New(math.MaxInt)
	a.Map(0, 4)
	a.Map(0x100, 6)
	b.Map(0x1ff, 2)
	b.Map(0xff, 4|8)
	b.Map(0x180, -4)
	wantSame(t, "made another way", a, b, true)
	b.Watch(0, true)
	wantSame(t, "watched", a, b, true)
	b.Poke(7, 9)
	wantSame(t, "poked", a, b, false)
	b.Poke(7, 0)
	wantSame(t, "poked back", a, b, true)
	wantTouched(t, "asked, which turns nothing", b, 7, 7)
	wantSame(t, "told", a, b, true)
	a.Poke(200, 3)
	wantSame(t, "another byte", a, b, false)
	b.Poke(200, 3)
	wantSame(t, "the same byte", a, b, true)
}

// model is a memory that is kept as plainly as can be.
type model struct {
	bytes   map[uint32]byte
	perms   map[uint32]int
	watched map[uint32]int
	touched []uint32
	most    int
}

// copied is a model of its own, with nothing touched.
func (w *model) copied() *model {
	c := &model{map[uint32]byte{}, map[uint32]int{}, map[uint32]int{}, nil, w.most}
	for k, v := range w.bytes {
		c.bytes[k] = v
	}
	for k, v := range w.perms {
		c.perms[k] = v
	}
	for k, v := range w.watched {
		c.watched[k] = v
	}
	return c
}

// mapPage is Map, of a model.
func (w *model) mapPage(at uint32, perm int) api.Errno {
	if _, ok := w.perms[at>>8]; !ok && len(w.perms) == w.most {
		return api.ErrBig
	}
	w.perms[at>>8] |= perm & 7
	return api.OK
}

// poke is Poke, of a model.
func (w *model) poke(at uint32, v byte) bool {
	if _, ok := w.perms[at>>8]; !ok {
		return false
	}
	w.bytes[at] = v
	if w.watched[at>>8] == 1 {
		w.touched = append(w.touched, at)
	}
	return true
}

// watch is Watch, of a model.
func (w *model) watch(at uint32, on bool) {
	if _, ok := w.perms[at>>8]; !ok {
		return
	}
	w.watched[at>>8] = 0
	if on {
		w.watched[at>>8] = 1
	}
}

// check holds a memory against its model, around a place.
func (w *model) check(t *testing.T, m *mem.Mem, at uint32) {
	t.Helper()
	perm, there := w.perms[at>>8]
	if m.Mapped(at) != there || m.Perm(at) != perm || m.Watched(at) != (w.watched[at>>8] == 1) || len(m.Pages()) != len(w.perms) {
		t.Fatalf("%#x: mapped %v, perm %d, watched %v, %d pages", at, m.Mapped(at), m.Perm(at), m.Watched(at), len(m.Pages()))
	}
	for i, v := range m.Bytes(at, 40) {
		if want := w.bytes[at+uint32(i)]; v != want || m.Peek(at+uint32(i)) != want {
			t.Fatalf("%#x: %d, not %d", at+uint32(i), v, want)
		}
	}
	if want := uint32(w.bytes[at])<<24 | uint32(w.bytes[at+1])<<16 | uint32(w.bytes[at+2])<<8 | uint32(w.bytes[at+3]); m.Word(at) != want {
		t.Fatalf("Word(%#x): %#x, not %#x", at, m.Word(at), want)
	}
}

// Many calls in any order, held against a model that is kept beside the memory.
func TestP5ManyCalls(t *testing.T) {
	m, w := mem.New(9), (&model{most: 9}).copied()
	v := uint32(2463534242)
	next := func(below uint32) uint32 {
		v ^= v << 13
		v ^= v >> 17
		v ^= v << 5
		return v % below
	}
	for i := range 60000 {
		// Twelve pages, of which nine may be there, around the end of the 32 bits.
		at := next(12*api.PageSize) - 6*api.PageSize
		switch next(40) {
		case 0:
			perm := int(next(64)) - 32
			if got, want := m.Map(at, perm), w.mapPage(at, perm); got != want {
				t.Fatalf("call %d: Map(%#x): error %d, not %d", i, at, got, want)
			}
		case 1, 2:
			on := next(2) == 0
			m.Watch(at, on)
			w.watch(at, on)
		case 3:
			if got := m.Touched(); !slices.Equal(got, w.touched) {
				t.Fatalf("call %d: touched %#x, not %#x", i, got, w.touched)
			}
			w.touched = nil
		case 4:
			old := m
			m, w = m.Copy(), w.copied()
			if !m.Same(old) || !old.Same(m) {
				t.Fatalf("call %d: a copy is not the same", i)
			}
			old.Poke(at, 99)
			old.Map(at, 7)
			old.Watch(at, next(2) == 0)
		default:
			x := byte(next(256))
			if got, want := m.Poke(at, x), w.poke(at, x); got != want {
				t.Fatalf("call %d: Poke(%#x): %v", i, at, got)
			}
		}
		w.check(t, m, at)
	}
	if len(m.Pages()) != 9 {
		t.Errorf("%d pages", len(m.Pages()))
	}
}

func TestR1AnyArguments(t *testing.T) {
	numbers := []int{math.MinInt, math.MinInt + 1, math.MinInt32, -1 << 32, -257, -256, -1, 0, 1, 2, 63, 64, 65, 255, 256, api.MaxFile, api.MaxFile + 1, math.MaxInt32, 1 << 32, math.MaxInt - 1, math.MaxInt}
	places := []uint32{0, 1, 3, 255, 256, 0x7fffffff, 0x80000000, api.StackTop, last - 1, last, math.MaxUint32 - 3, math.MaxUint32}
	for _, most := range numbers {
		m := mem.New(most)
		for _, at := range places {
			for _, n := range numbers {
				m.Map(at, n)
				m.Bytes(at, n)
				m.Poke(at, byte(n))
			}
			m.Watch(at, at%2 == 0)
			m.Mapped(at)
			m.Perm(at)
			m.Peek(at)
			m.Word(at)
			m.Watched(at)
			m.Pages()
			if c := m.Copy(); !c.Same(m) || len(c.Touched()) != 0 {
				t.Errorf("New(%d): a copy is another one", most)
			}
		}
		m.Touched()
		m.Touched()
	}
}

// spoil turns all of a list, its spare room too.
func spoil[T byte | uint32](l []T) {
	l = l[:cap(l)]
	for i := range l {
		l[i] ^= 0x5a
	}
}

func TestR3ListsAreNewMemory(t *testing.T) {
	m := mapped(t, 4, 0, 0x100, last)
	fill(t, m, 0)
	fill(t, m, last)
	m.Watch(0, true)
	before := m.Copy()
	for range 3 {
		pages, content, none := m.Pages(), m.Bytes(last, 300), m.Bytes(5, 0)
		otherPages, otherContent := m.Pages(), m.Bytes(last, 300)
		spoil(pages)
		spoil(content)
		spoil(none)
		if !slices.Equal(otherPages, []uint32{0, 0x100, last}) || !bytes.Equal(otherContent, before.Bytes(last, 300)) {
			t.Error("two answers share memory")
		}
		wantPages(t, "lists turned", m, 0, 0x100, last)
		wantSame(t, "lists turned", m, before, true)
	}
	m.Poke(1, 1)
	m.Poke(2, 2)
	m.Poke(3, 3)
	one := m.Touched()
	spoil(one)
	wantTouched(t, "a list turned", m)
	kept := slices.Clone(one)
	m.Poke(4, 4)
	m.Poke(5, 5)
	spoil(one[len(one):])
	if !slices.Equal(one, kept) {
		t.Errorf("an answer follows its memory: %d, not %d", one, kept)
	}
	wantTouched(t, "a list turned, and more poked", m, 4, 5)
	follows := m.Bytes(0, 3)
	m.Poke(1, 77)
	m.Map(0x700, 1)
	if follows[1] != 1 {
		t.Error("an answer follows its memory")
	}
}

func TestR4TwoMemoriesHaveNothingInCommon(t *testing.T) {
	a, b := mem.New(1), mem.New(1)
	a.Map(0, 7)
	a.Watch(0, true)
	a.Poke(3, 9)
	wantPages(t, "the other one", b)
	wantTouched(t, "the other one", b)
	if b.Peek(3) != 0 || b.Watched(0) || b.Poke(3, 1) {
		t.Errorf("the other one: %d, watched %v", b.Peek(3), b.Watched(0))
	}
	if err := b.Map(0, 1); err != api.OK || b.Perm(0) != 1 || b.Peek(3) != 0 {
		t.Errorf("the other one's page: error %d, perm %d, %d", err, b.Perm(0), b.Peek(3))
	}
	b.Poke(3, 8)
	wantPages(t, "one made later", mem.New(5))
	wantTouched(t, "the first one", a, 3)
	if a.Peek(3) != 9 || a.Perm(0) != 7 {
		t.Errorf("the first one: %d, perm %d", a.Peek(3), a.Perm(0))
	}
}
