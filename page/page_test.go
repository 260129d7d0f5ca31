package page_test

import (
	"bytes"
	"math"
	"slices"
	"testing"

	"calque/api"
	"calque/page"
)

// outside are places where a page has no byte, near and far.
func outside() []int {
	return []int{
		math.MinInt, math.MinInt + 1, math.MinInt + api.PageSize, math.MinInt32, -1 << 32, -api.PageSize - 1, -api.PageSize, -api.PageSize + 1, -2, -1,
		api.PageSize, api.PageSize + 1, 2*api.PageSize - 1, 2 * api.PageSize, 1 << 16, math.MaxInt32, 1 << 32, 1<<32 + 3, math.MaxInt - api.PageSize, math.MaxInt - 1, math.MaxInt,
	}
}

// numbers are arguments of any kind: those outside, those at the edges, and some between.
func numbers() []int {
	return append(outside(), 0, 1, 2, 3, 7, 8, 100, 127, 128, 129, 200, api.PageSize-3, api.PageSize-2, api.PageSize-1)
}

// all are a page's bytes, asked one by one.
func all(p *page.Page) []byte {
	l := make([]byte, api.PageSize)
	for at := range l {
		l[at] = p.Byte(at)
	}
	return l
}

// filled is a page whose bytes are unlike their neighbours and none of them 0, and a list of the same bytes.
func filled(perm int) (*page.Page, []byte) {
	p := page.New(perm)
	l := make([]byte, api.PageSize)
	for at := range l {
		l[at] = byte(at*7%255 + 1)
		p.SetByte(at, l[at])
	}
	return p, l
}

// wantPage holds a page against what it should be, by all that can be asked of it.
func wantPage(t *testing.T, what string, p *page.Page, content []byte, perm, writes int) {
	t.Helper()
	if got := all(p); !bytes.Equal(got, content) {
		t.Errorf("%s: bytes %x, not %x", what, got, content)
	}
	if got := p.Bytes(0, api.PageSize); !bytes.Equal(got, content) {
		t.Errorf("%s: Bytes %x, not %x", what, got, content)
	}
	if p.Perm() != perm || p.Writes() != writes {
		t.Errorf("%s: perm %d, %d writes, not %d, %d", what, p.Perm(), p.Writes(), perm, writes)
	}
}

func TestP41Example(t *testing.T) {
	p := page.New(4)
	p.SetByte(3, 9)
	if p.Byte(3) != 9 || p.Writes() != 1 || p.Perm() != 4 {
		t.Errorf("%d, %d writes, perm %d", p.Byte(3), p.Writes(), p.Perm())
	}
}

func TestP41NewPageIsEmpty(t *testing.T) {
	for _, perm := range []int{0, api.Read, api.Write, api.Exec, 7, -1} {
		wantPage(t, "a new page", page.New(perm), make([]byte, api.PageSize), perm&7, 0)
	}
}

func TestP41PermsLowestThreeBits(t *testing.T) {
	for _, x := range []struct{ perm, want int }{
		{0, 0}, {api.Exec, 1}, {api.Write, 2}, {api.Read, 4}, {api.Read | api.Write, 6}, {7, 7},
		{8, 0}, {9, 1}, {15, 7}, {16, 0}, {4 | 8, 4}, {0x100, 0}, {0x1234567d, 5}, {1<<32 + 6, 6}, {math.MaxInt, 7}, {math.MaxInt - 1, 6},
		{-1, 7}, {-2, 6}, {-3, 5}, {-4, 4}, {-5, 3}, {-6, 2}, {-7, 1}, {-8, 0}, {-9, 7}, {-1 << 32, 0}, {math.MinInt, 0}, {math.MinInt + 3, 3},
	} {
		if got := page.New(x.perm).Perm(); got != x.want {
			t.Errorf("New(%d): perm %d, not %d", x.perm, got, x.want)
		}
		p := page.New(7 - x.want)
		p.SetPerm(x.perm)
		if got := p.Perm(); got != x.want {
			t.Errorf("SetPerm(%d): perm %d, not %d", x.perm, got, x.want)
		}
	}
}

func TestP41SetPermTurnsNothingElse(t *testing.T) {
	p, content := filled(6)
	for _, perm := range []int{0, 1, 7, -1, 8, 2} {
		p.SetPerm(perm)
		wantPage(t, "after SetPerm", p, content, perm&7, api.PageSize)
	}
}

// What a page may be is only told: its bytes are asked for and set all the same.
func TestP41PermRefusesNothing(t *testing.T) {
	for perm := range 8 {
		p := page.New(perm)
		p.SetByte(5, 77)
		if p.Byte(5) != 77 || string(p.Bytes(5, 1)) != "M" || p.Writes() != 1 {
			t.Errorf("perm %d: %d, %x, %d writes", perm, p.Byte(5), p.Bytes(5, 1), p.Writes())
		}
	}
}

func TestP41ByteAndSetByteAtTheEdges(t *testing.T) {
	for _, at := range []int{0, 1, 127, 128, api.PageSize - 2, api.PageSize - 1} {
		for _, v := range []byte{1, 127, 128, 255} {
			p := page.New(6)
			p.SetByte(at, v)
			want := make([]byte, api.PageSize)
			want[at] = v
			wantPage(t, "one byte set", p, want, 6, 1)
		}
	}
}

func TestP41ByteAndSetByteOutside(t *testing.T) {
	p, content := filled(5)
	for _, at := range outside() {
		if got := p.Byte(at); got != 0 {
			t.Errorf("Byte(%d): %d", at, got)
		}
		p.SetByte(at, 200)
		if got := p.Byte(at); got != 0 {
			t.Errorf("Byte(%d), set: %d", at, got)
		}
		wantPage(t, "after a place outside", p, content, 5, api.PageSize)
	}
}

func TestP41Bytes(t *testing.T) {
	p := page.New(4)
	for at := range api.PageSize {
		p.SetByte(at, byte(at))
	}
	for _, x := range []struct {
		at, n int
		want  string
	}{
		{0, 1, "\x00"}, {0, 3, "\x00\x01\x02"}, {2, 3, "\x02\x03\x04"}, {100, 2, "de"}, {65, 0, ""}, // ordinary
		{255, 1, "\xff"}, {254, 2, "\xfe\xff"}, {253, 2, "\xfd\xfe"}, // at the end
		{254, 3, "\xfe\xff"}, {255, 2, "\xff"}, {255, 256, "\xff"}, {253, math.MaxInt, "\xfd\xfe\xff"}, {255, math.MaxInt, "\xff"}, // across it
		{256, 1, ""}, {257, 1, ""}, {256, 0, ""}, {256, math.MaxInt, ""}, {math.MaxInt, 1, ""}, {math.MaxInt, math.MaxInt, ""}, {math.MaxInt - 255, 256, ""}, // behind it
		{-1, 3, "\x00\x01\x02"}, {-5, 1, "\x00"}, {-256, 2, "\x00\x01"}, {math.MinInt, 4, "\x00\x01\x02\x03"}, {math.MinInt, 0, ""}, // a negative at
		{0, -1, ""}, {5, -1, ""}, {255, -3, ""}, {0, math.MinInt, ""}, {255, math.MinInt, ""}, {math.MaxInt, math.MinInt, ""}, // a negative n
		{-1, -1, ""}, {math.MinInt, -1, ""}, {math.MinInt, math.MinInt, ""},
	} {
		if got := p.Bytes(x.at, x.n); string(got) != x.want {
			t.Errorf("Bytes(%d, %d): %x, not %x", x.at, x.n, got, x.want)
		}
	}
}

func TestP41BytesOneByOne(t *testing.T) {
	p, content := filled(4)
	for _, at := range numbers() {
		for _, n := range numbers() {
			// Counted one by one: no sum here can be too great.
			var want []byte
			for k := max(at, 0); k < api.PageSize && len(want) < n; k++ {
				want = append(want, content[k])
			}
			if got := p.Bytes(at, n); !bytes.Equal(got, want) {
				t.Fatalf("Bytes(%d, %d): %x, not %x", at, n, got, want)
			}
		}
	}
	wantPage(t, "after all was asked", p, content, 4, api.PageSize)
}

func TestP41Writes(t *testing.T) {
	p := page.New(2)
	want := 0
	check := func(what string) {
		t.Helper()
		if got := p.Writes(); got != want {
			t.Fatalf("%s: %d writes, not %d", what, got, want)
		}
	}
	check("a new page")
	for at := range api.PageSize {
		p.SetByte(at, byte(at))
		want++
		check("a byte set")
		p.SetByte(at, byte(at))
		want++
		check("a byte set to what it was")
		p.SetByte(at, 0)
		want++
		check("a byte set to 0")
	}
	for _, at := range outside() {
		p.SetByte(at, 1)
		check("a place that is not there")
	}
	for _, at := range numbers() {
		p.Byte(at)
		p.Bytes(at, 9)
		p.SetPerm(at)
		p.Perm()
		p.Copy()
		check("what sets no byte")
	}
	for range 100000 {
		p.SetByte(9, 9)
	}
	want += 100000
	check("many")
}

func TestP41CopyIsTheSame(t *testing.T) {
	wantPage(t, "of a new page", page.New(3).Copy(), make([]byte, api.PageSize), 3, 0)
	p, content := filled(5)
	p.SetByte(0, content[0])
	p.SetByte(-1, 1)
	c := p.Copy()
	if c == p {
		t.Error("a copy is the page itself")
	}
	wantPage(t, "a copy", c, content, 5, api.PageSize+1)
	wantPage(t, "a copy's copy", c.Copy(), content, 5, api.PageSize+1)
	wantPage(t, "the page", p, content, 5, api.PageSize+1)
}

func TestP41CopyAndPageTurnApart(t *testing.T) {
	p, content := filled(5)
	c := p.Copy()
	for at := range api.PageSize {
		p.SetByte(at, 0)
	}
	p.SetPerm(2)
	wantPage(t, "the copy, the page turned", c, content, 5, api.PageSize)
	wantPage(t, "the page", p, make([]byte, api.PageSize), 2, 2*api.PageSize)
	d := c.Copy()
	for at := range 10 {
		d.SetByte(at, 0xee)
	}
	d.SetPerm(0)
	want := append(bytes.Repeat([]byte{0xee}, 10), content[10:]...)
	wantPage(t, "the copy, its copy turned", c, content, 5, api.PageSize)
	wantPage(t, "the copy's copy", d, want, 0, api.PageSize+10)
	wantPage(t, "the page, copies turned", p, make([]byte, api.PageSize), 2, 2*api.PageSize)
}

func TestP42WhatIsSetStays(t *testing.T) {
	for at := range api.PageSize {
		p := page.New(6)
		p.SetByte(at, 9)
		want := bytes.Repeat([]byte{200}, api.PageSize)
		want[at] = 9
		for other := range api.PageSize {
			if other != at {
				p.SetByte(other, 200)
			}
			if p.Byte(at) != 9 {
				t.Fatalf("%d is lost when %d is set", at, other)
			}
		}
		for _, other := range outside() {
			p.SetByte(other, 3)
		}
		p.SetPerm(1)
		p.Copy().SetByte(at, 4)
		wantPage(t, "others set", p, want, 1, api.PageSize)
		p.SetByte(at, 10)
		want[at] = 10
		wantPage(t, "set again", p, want, 1, api.PageSize+1)
	}
}

// Many calls in any order, held against a list, a perm and a number that are kept beside the page.
func TestP42ManyCalls(t *testing.T) {
	p := page.New(0)
	content, perm, writes := make([]byte, api.PageSize), 0, 0
	v := uint32(2463534242)
	next := func(below int) int {
		v ^= v << 13
		v ^= v >> 17
		v ^= v << 5
		return int(v % uint32(below))
	}
	for i := range 20000 {
		switch at := next(3*api.PageSize) - api.PageSize; next(8) {
		case 0:
			perm = next(8)
			p.SetPerm(perm + 8*at)
		case 1:
			old := p
			p = p.Copy()
			old.SetByte(at, 99)
			old.SetPerm(^perm)
		case 2:
			if l := p.Bytes(at, next(40)); len(l) > 0 {
				l[0]++
			}
		default:
			x := byte(next(256))
			p.SetByte(at, x)
			if at >= 0 && at < api.PageSize {
				content[at] = x
				writes++
			}
		}
		if i%50 == 0 {
			wantPage(t, "on the way", p, content, perm, writes)
		}
	}
	wantPage(t, "at the end", p, content, perm, writes)
}

func TestR1AnyArguments(t *testing.T) {
	for _, a := range numbers() {
		p := page.New(a)
		p.SetPerm(a)
		for _, b := range numbers() {
			p.SetByte(a, byte(b))
			p.Byte(b)
			p.Bytes(a, b)
		}
		p.Copy().Bytes(a, a)
	}
}

func TestR3BytesAreNewMemory(t *testing.T) {
	p, content := filled(4)
	c := p.Copy()
	for _, x := range [][2]int{{0, 256}, {0, 1}, {10, 20}, {250, 100}, {-9, 9}, {255, 1}, {0, 0}, {256, 1}, {0, -1}} {
		one, two := p.Bytes(x[0], x[1]), p.Bytes(x[0], x[1])
		kept := slices.Clone(two)
		// The spare room too: none of it is the page's, or another answer's.
		one = one[:cap(one)]
		for i := range one {
			one[i] ^= 0xff
		}
		if !bytes.Equal(two, kept) {
			t.Errorf("Bytes(%d, %d): two answers share memory", x[0], x[1])
		}
		wantPage(t, "the page", p, content, 4, api.PageSize)
		wantPage(t, "its copy", c, content, 4, api.PageSize)
	}
	before := p.Bytes(0, 3)
	kept := slices.Clone(before)
	p.SetByte(1, 0)
	if !bytes.Equal(before, kept) {
		t.Errorf("an answer follows its page: %x, not %x", before, kept)
	}
}

func TestR4TwoPagesHaveNothingInCommon(t *testing.T) {
	p, q := page.New(4), page.New(4)
	p.SetByte(3, 9)
	p.SetPerm(1)
	wantPage(t, "the other one", q, make([]byte, api.PageSize), 4, 0)
	wantPage(t, "one made later", page.New(2), make([]byte, api.PageSize), 2, 0)
	q.SetByte(3, 8)
	q.SetByte(4, 8)
	if p.Byte(3) != 9 || p.Byte(4) != 0 || p.Writes() != 1 || p.Perm() != 1 {
		t.Errorf("the first one: %x, %d writes, perm %d", p.Bytes(3, 2), p.Writes(), p.Perm())
	}
}
