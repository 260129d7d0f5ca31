package access_test

import (
	"encoding/binary"
	"math"
	"slices"
	"strings"
	"testing"

	"calque/access"
	"calque/api"
	"calque/ins"
	"calque/mem"
)

const (
	full = math.MaxUint32
	last = 1<<32 - api.PageSize // the last page that there may be
)

// names are those that read and those that write, from Op 48 on; opOf goes by it, so that the tests have their numbers from nowhere else.
const (
	readers = "lb lh lwl lw lbu lhu lwr"
	writers = "sb sh swl sw swr"
	names   = readers + " " + writers
	firstOp = 48
)

// opOf is the Op of a name.
func opOf(name string) int {
	k := slices.Index(strings.Fields(names), name)
	if k < 0 {
		panic("no instruction " + name)
	}
	return firstOp + k
}

// nameOf is the name of an Op that reads or writes, "other" of others.
func nameOf(op int) string {
	l := strings.Fields(names)
	if op < firstOp || op >= firstOp+len(l) {
		return "other"
	}
	return l[op-firstOp]
}

// in says whether a name is one of those in a text.
func in(name, text string) bool { return strings.Contains(" "+text+" ", " "+name+" ") }

// of is an instruction of a name.
func of(name string) api.Ins { return api.Ins{Op: opOf(name)} }

// outside are numbers of which there is no Op; some are one but for bits far up.
func outside() []int {
	l := []int{0, -1, -2, -48, -51, -59, 70, 71, 127, 128, 256, 256 + 51, 1<<16 + 58, 1 << 31, 1 << 32, 1<<32 + 48, 1<<32 + 51, 1<<32 + 58, 1<<32 + 59, -1 << 32, 51 - 1<<32, math.MaxInt, math.MinInt, math.MinInt + 58}
	for op := 70; op < 200; op++ {
		l = append(l, op, -op)
	}
	return l
}

// every are all numbers of Ops, and some that are none.
func every() []int {
	l := outside()
	for op := 1; op <= 69; op++ {
		l = append(l, op)
	}
	return l
}

// spread answers numbers that are spread out, always the same ones.
func spread() func() uint32 {
	v := uint32(2463534242)
	return func() uint32 {
		v ^= v << 13
		v ^= v >> 17
		v ^= v << 5
		return v
	}
}

// values are edges, bytes unlike each other, and single bits.
func values() []uint32 {
	l := []uint32{0, 1, 0x7f, 0x80, 0xff, 0x100, 0x7fff, 0x8000, 0xffff, 0x10000, 0x7fffffff, 0x80000000, 0x01020304, 0x81828384, 0x80808080, 0x7f7f7f7f, 0xff00ff00, 0x00ff00ff, 0xaabbccdd, full - 1, full}
	for bit := range 32 {
		l = append(l, 1<<bit, ^uint32(1<<bit))
	}
	next := spread()
	for range 20 {
		l = append(l, next())
	}
	return l
}

// mapped is a memory with a page of a perm at each of some places.
func mapped(t *testing.T, perm int, places ...uint32) *mem.Mem {
	t.Helper()
	m := mem.New(api.MaxPages)
	for _, at := range places {
		if err := m.Map(at, perm); err != api.OK {
			t.Fatalf("Map(%#x): error %d", at, err)
		}
	}
	return m
}

// lay puts bytes from a place on, where pages are.
func lay(t *testing.T, m *mem.Mem, at uint32, content string) {
	t.Helper()
	for k := range len(content) {
		if !m.Poke(at+uint32(k), content[k]) {
			t.Fatalf("Poke(%#x) is false", at+uint32(k))
		}
	}
}

// fill puts bytes that are spread out on all of a page.
func fill(t *testing.T, m *mem.Mem, page uint32) {
	t.Helper()
	next := spread()
	var b strings.Builder
	for range api.PageSize {
		b.WriteByte(byte(next() >> 9))
	}
	lay(t, m, page, b.String())
}

// bytesOf are a number's four bytes, the highest first.
func bytesOf(v uint32) []byte { return binary.BigEndian.AppendUint32(nil, v) }

// plainKind is P10.1 as the chapter tells it, of a place on a page that is there, or not, with a perm.
func plainKind(name string, at uint32, there bool, perm int) int {
	odd := in(name, "lh lhu sh") && at%2 == 1 || in(name, "lw sw") && at%4 != 0
	switch {
	case in(name, readers) && odd:
		return api.LoadAlign
	case in(name, writers) && odd:
		return api.StoreAlign
	case in(name, readers) && (!there || !slices.Contains([]int{4, 5, 6, 7}, perm)):
		return api.LoadPage
	case in(name, writers) && (!there || !slices.Contains([]int{2, 3, 6, 7}, perm)):
		return api.StorePage
	}
	return 0
}

// plainLoad is P10.2's Load as the chapter tells it, byte by byte: what is read stands behind its sign, or beside what is left of old.
func plainLoad(m *mem.Mem, name string, at, old uint32) uint32 {
	k := int(at % 4)
	was, word := bytesOf(old), m.Bytes(at-uint32(k), 4)
	size := map[string]int{"lb": 1, "lbu": 1, "lh": 2, "lhu": 2, "lw": 4}[name]
	var l []byte
	switch name {
	case "lwl":
		l = slices.Concat(word[k:], was[4-k:])
	case "lwr":
		l = slices.Concat(was[:3-k], word[:k+1])
	case "lb", "lh", "lbu", "lhu", "lw":
		read := m.Bytes(at, size)
		l = make([]byte, 4-size, 4)
		if in(name, "lb lh") && read[0] >= 128 {
			l = slices.Repeat([]byte{0xff}, 4-size)
		}
		l = append(l, read...)
	default:
		return old
	}
	return binary.BigEndian.Uint32(l)
}

// plainStore is P10.2's Store as the chapter tells it: from which place on it writes, and which bytes.
func plainStore(name string, at, v uint32) (uint32, []byte) {
	k, b := int(at%4), bytesOf(v)
	switch name {
	case "sb":
		return at, b[3:]
	case "sh":
		return at, b[2:]
	case "sw":
		return at, b
	case "swl":
		return at, b[:4-k]
	case "swr":
		return at - uint32(k), b[3-k:]
	}
	return at, nil
}

// spots are places on a page with each rest modulo 4, at its beginning, its middle and its end.
func spots() []uint32 {
	return []uint32{0, 1, 2, 3, 4, 5, 6, 7, 126, 127, 128, 129, 130, 131, 248, 249, 250, 251, 252, 253, 254, 255}
}

// pages are where pages may be: the first, others, the two about the highest bit, the last.
func pages() []uint32 {
	return []uint32{0, 0x100, 0x12345600, 0x7fffff00, 0x80000000, last}
}

func wantKind(t *testing.T, m *mem.Mem, i api.Ins, at uint32, want int) {
	t.Helper()
	if got := access.Kind(m, i, at); got != want {
		t.Errorf("Kind of %s %v at %#x: %d, not %d", nameOf(i.Op), i, at, got, want)
	}
}

func wantLoad(t *testing.T, m *mem.Mem, i api.Ins, at, old, want uint32) {
	t.Helper()
	if got := access.Load(m, i, at, old); got != want {
		t.Errorf("Load of %s %v at %#x, %#08x: %#08x, not %#08x", nameOf(i.Op), i, at, old, got, want)
	}
}

func wantFetch(t *testing.T, m *mem.Mem, at, word uint32, kind int) {
	t.Helper()
	if w, k := access.Fetch(m, at); w != word || k != kind {
		t.Errorf("Fetch at %#x: %#08x, %d, not %#08x, %d", at, w, k, word, kind)
	}
}

// wantStore stores into a memory all of whose pages are watched, and holds against the chapter which bytes turn, which stay, and what is told.
func wantStore(t *testing.T, m *mem.Mem, i api.Ins, at, v uint32) {
	t.Helper()
	want := m.Copy()
	var places []uint32
	from, l := plainStore(nameOf(i.Op), at, v)
	for k, x := range l {
		want.Poke(from+uint32(k), x)
		places = append(places, from+uint32(k))
	}
	m.Touched()
	access.Store(m, i, at, v)
	if !m.Same(want) {
		t.Errorf("Store of %s %v at %#x, %#08x: other bytes", nameOf(i.Op), i, at, v)
	}
	if got := m.Touched(); !slices.Equal(got, places) {
		t.Errorf("Store of %s %v at %#x, %#08x: wrote %#x, not %#x", nameOf(i.Op), i, at, v, got, places)
	}
}

// watched is a memory with pages that may be read and written, filled and watched.
func watched(t *testing.T, places ...uint32) *mem.Mem {
	t.Helper()
	m := mapped(t, api.Read|api.Write, places...)
	for _, at := range places {
		fill(t, m, at)
		m.Watch(at, true)
	}
	return m
}

// The tests' names and numbers are those of layer 8, and these are all that read and write.
func TestTheNamesAreThoseOfIns(t *testing.T) {
	for op := -5; op < 200; op++ {
		name := nameOf(op)
		if kind := ins.Kind(op); (kind == 4) != in(name, readers) || (kind == 5) != in(name, writers) {
			t.Errorf("Op %d: %q, of kind %d", op, name, kind)
		}
		if name != "other" && (ins.Name(op) != name || opOf(name) != op) {
			t.Errorf("Op %d: %q, not %q", op, name, ins.Name(op))
		}
	}
}

// Of each: a place that may be, one that may not be by its number, one whose page has not what it needs.
func TestP101WrittenOut(t *testing.T) {
	m := mapped(t, 7, 0)
	m.Map(0x100, api.Read)
	m.Map(0x200, api.Write)
	m.Map(0x300, api.Exec)
	for _, x := range []struct {
		name string
		at   uint32
		want int
	}{
		{"lb", 0, 0}, {"lb", 3, 0}, {"lb", 0x1ff, 0}, {"lb", 0x201, 5}, {"lb", 0x300, 5}, {"lb", 0x400, 5},
		{"lbu", 1, 0}, {"lbu", 0x102, 0}, {"lbu", 0x2ff, 5}, {"lbu", 0x303, 5}, {"lbu", 0x401, 5},
		{"lh", 0, 0}, {"lh", 2, 0}, {"lh", 1, 2}, {"lh", 3, 2}, {"lh", 0x1fe, 0}, {"lh", 0x1ff, 2}, {"lh", 0x200, 5}, {"lh", 0x302, 5}, {"lh", 0x402, 5},
		{"lhu", 4, 0}, {"lhu", 6, 0}, {"lhu", 5, 2}, {"lhu", 7, 2}, {"lhu", 0x102, 0}, {"lhu", 0x202, 5}, {"lhu", 0x4fe, 5},
		{"lw", 0, 0}, {"lw", 1, 2}, {"lw", 2, 2}, {"lw", 3, 2}, {"lw", 4, 0}, {"lw", 0x1fc, 0}, {"lw", 0x1fe, 2}, {"lw", 0x200, 5}, {"lw", 0x400, 5},
		{"lwl", 0, 0}, {"lwl", 1, 0}, {"lwl", 2, 0}, {"lwl", 3, 0}, {"lwl", 0x1ff, 0}, {"lwl", 0x201, 5}, {"lwl", 0x403, 5},
		{"lwr", 0, 0}, {"lwr", 1, 0}, {"lwr", 2, 0}, {"lwr", 3, 0}, {"lwr", 0x100, 0}, {"lwr", 0x202, 5}, {"lwr", 0x401, 5},
		{"sb", 0, 0}, {"sb", 1, 0}, {"sb", 2, 0}, {"sb", 3, 0}, {"sb", 0x2ff, 0}, {"sb", 0x101, 6}, {"sb", 0x300, 6}, {"sb", 0x400, 6},
		{"sh", 0, 0}, {"sh", 1, 3}, {"sh", 2, 0}, {"sh", 3, 3}, {"sh", 0x202, 0}, {"sh", 0x2ff, 3}, {"sh", 0x100, 6}, {"sh", 0x302, 6}, {"sh", 0x402, 6},
		{"sw", 0, 0}, {"sw", 1, 3}, {"sw", 2, 3}, {"sw", 3, 3}, {"sw", 8, 0}, {"sw", 0x2fc, 0}, {"sw", 0x100, 6}, {"sw", 0x304, 6}, {"sw", 0x4fc, 6},
		{"swl", 0, 0}, {"swl", 1, 0}, {"swl", 2, 0}, {"swl", 3, 0}, {"swl", 0x2ff, 0}, {"swl", 0x102, 6}, {"swl", 0x301, 6}, {"swl", 0x403, 6},
		{"swr", 0, 0}, {"swr", 1, 0}, {"swr", 2, 0}, {"swr", 3, 0}, {"swr", 0x200, 0}, {"swr", 0x103, 6}, {"swr", 0x302, 6}, {"swr", 0x401, 6},
	} {
		wantKind(t, m, of(x.name), x.at, x.want)
	}
}

// Where both would be: that of the number is told, for it is named first.
func TestP101AlignAheadOfPage(t *testing.T) {
	m := mapped(t, 0, 0)
	m.Map(0x100, api.Write|api.Exec)
	m.Map(0x200, api.Read|api.Exec)
	for _, page := range []uint32{0, 0x100, 0x300, 0x80000000, last} { // none of them may be read
		for _, rest := range []uint32{1, 2, 3, 253, 254, 255} {
			wantKind(t, m, of("lw"), page+rest, api.LoadAlign)
			if rest%2 == 1 {
				wantKind(t, m, of("lh"), page+rest, api.LoadAlign)
				wantKind(t, m, of("lhu"), page+rest, api.LoadAlign)
			}
		}
	}
	for _, page := range []uint32{0, 0x200, 0x300, 0x80000000, last} { // none of them may be written
		for _, rest := range []uint32{1, 2, 3, 253, 254, 255} {
			wantKind(t, m, of("sw"), page+rest, api.StoreAlign)
			if rest%2 == 1 {
				wantKind(t, m, of("sh"), page+rest, api.StoreAlign)
			}
		}
	}
}

// Each Op and numbers that are none, at each rest modulo 4, on a page that is not there, and with each perm; neighbours play no part.
func TestP101EachOp(t *testing.T) {
	for _, page := range pages() {
		for perm := -1; perm < 8; perm++ {
			for _, neighbours := range []bool{false, true} {
				m := mem.New(api.MaxPages)
				if neighbours {
					m.Map(page-api.PageSize, 7-max(perm, 0))
					m.Map(page+api.PageSize, 7-max(perm, 0))
				}
				if perm >= 0 {
					m.Map(page, perm)
				}
				for _, op := range every() {
					for _, spot := range spots() {
						wantKind(t, m, api.Ins{Op: op}, page+spot, plainKind(nameOf(op), page+spot, perm >= 0, perm))
					}
				}
				if t.Failed() {
					t.Fatalf("page %#x, perm %d", page, perm)
				}
			}
		}
	}
}

// What reads and writes nothing has no fault, wherever.
func TestP101OtherInstructions(t *testing.T) {
	m := mapped(t, 0, 0)
	for _, op := range every() {
		for _, at := range []uint32{0, 1, 2, 3, 0x100, 0x101, 0x102, 0x103, full - 3, full - 2, full - 1, full} {
			if nameOf(op) == "other" {
				wantKind(t, m, api.Ins{Op: op}, at, 0)
			}
		}
	}
}

func TestP102Example(t *testing.T) {
	m := mapped(t, api.Read, 0)
	lay(t, m, 0, "\x01\x02\x03\x04")
	wantLoad(t, m, of("lwl"), 1, 0xaabbccdd, 0x020304dd)
}

// Of each at each rest modulo 4 where it may be, with bytes with their highest bit (from 0 on) and without (from 4 on).
func TestP102LoadWrittenOut(t *testing.T) {
	m := mapped(t, api.Read, 0)
	lay(t, m, 0, "\x91\xa2\xb3\xc4\x15\x26\x37\x48\x7f\x80\x80\x7f\x00\xff\x00\x00")
	for _, x := range []struct {
		name     string
		at, want uint32
	}{
		{"lb", 0, 0xffffff91}, {"lb", 1, 0xffffffa2}, {"lb", 2, 0xffffffb3}, {"lb", 3, 0xffffffc4},
		{"lb", 4, 0x15}, {"lb", 5, 0x26}, {"lb", 6, 0x37}, {"lb", 7, 0x48}, {"lb", 8, 0x7f}, {"lb", 9, 0xffffff80}, {"lb", 12, 0}, {"lb", 13, full},
		{"lbu", 0, 0x91}, {"lbu", 1, 0xa2}, {"lbu", 2, 0xb3}, {"lbu", 3, 0xc4},
		{"lbu", 4, 0x15}, {"lbu", 5, 0x26}, {"lbu", 6, 0x37}, {"lbu", 7, 0x48}, {"lbu", 8, 0x7f}, {"lbu", 9, 0x80}, {"lbu", 12, 0}, {"lbu", 13, 0xff},
		{"lh", 0, 0xffff91a2}, {"lh", 2, 0xffffb3c4}, {"lh", 4, 0x1526}, {"lh", 6, 0x3748}, {"lh", 8, 0x7f80}, {"lh", 10, 0xffff807f}, {"lh", 12, 0xff}, {"lh", 14, 0},
		{"lhu", 0, 0x91a2}, {"lhu", 2, 0xb3c4}, {"lhu", 4, 0x1526}, {"lhu", 6, 0x3748}, {"lhu", 8, 0x7f80}, {"lhu", 10, 0x807f}, {"lhu", 12, 0xff}, {"lhu", 14, 0},
		{"lw", 0, 0x91a2b3c4}, {"lw", 4, 0x15263748}, {"lw", 8, 0x7f80807f}, {"lw", 12, 0x00ff0000},
		{"lwl", 0, 0x91a2b3c4}, {"lwl", 1, 0xa2b3c40d}, {"lwl", 2, 0xb3c40c0d}, {"lwl", 3, 0xc40b0c0d},
		{"lwl", 4, 0x15263748}, {"lwl", 5, 0x2637480d}, {"lwl", 6, 0x37480c0d}, {"lwl", 7, 0x480b0c0d},
		{"lwr", 0, 0x0a0b0c91}, {"lwr", 1, 0x0a0b91a2}, {"lwr", 2, 0x0a91a2b3}, {"lwr", 3, 0x91a2b3c4},
		{"lwr", 4, 0x0a0b0c15}, {"lwr", 5, 0x0a0b1526}, {"lwr", 6, 0x0a152637}, {"lwr", 7, 0x15263748},
	} {
		wantLoad(t, m, of(x.name), x.at, 0x0a0b0c0d, x.want)
	}
}

// Which bits are old's: seen with an old whose bits are all where the word has none, and the other way round.
func TestP102WhatIsLeftOfOld(t *testing.T) {
	for k, x := range []struct{ lwl, lwr uint32 }{{0, 0xffffff00}, {0xff, 0xffff0000}, {0xffff, 0xff000000}, {0xffffff, 0}} {
		at := uint32(0x80 + k)
		m := mapped(t, api.Read, 0)
		lay(t, m, 0x80, "\x00\x00\x00\x00")
		wantLoad(t, m, of("lwl"), at, full, x.lwl)
		wantLoad(t, m, of("lwr"), at, full, x.lwr)
		for bit := range 32 {
			wantLoad(t, m, of("lwl"), at, 1<<bit, x.lwl&(1<<bit))
			wantLoad(t, m, of("lwr"), at, 1<<bit, x.lwr&(1<<bit))
		}
		lay(t, m, 0x80, "\xff\xff\xff\xff")
		wantLoad(t, m, of("lwl"), at, 0, ^x.lwl)
		wantLoad(t, m, of("lwr"), at, 0, ^x.lwr)
		for _, v := range values() {
			lay(t, m, 0x80, string(bytesOf(v)))
			wantLoad(t, m, of("lwl"), at, ^v, plainLoad(m, "lwl", at, ^v))
			wantLoad(t, m, of("lwr"), at, ^v, plainLoad(m, "lwr", at, ^v))
		}
	}
	// The others leave nothing of it.
	m := mapped(t, api.Read, 0)
	for _, name := range strings.Fields("lb lbu lh lhu lw") {
		for _, v := range values() {
			wantLoad(t, m, of(name), 4, v, 0)
		}
	}
}

// Each that reads, wherever Kind says 0, held against the chapter byte by byte.
func TestP102LoadEach(t *testing.T) {
	for _, page := range pages() {
		m := mapped(t, api.Read, page)
		fill(t, m, page)
		for _, name := range strings.Fields(readers) {
			for spot := range uint32(api.PageSize) {
				if access.Kind(m, of(name), page+spot) != 0 {
					continue
				}
				for _, old := range []uint32{0, full, 0x0a0b0c0d, 0x80000001} {
					wantLoad(t, m, of(name), page+spot, old, plainLoad(m, name, page+spot, old))
				}
			}
		}
	}
}

// Each that reads, of each of many words.
func TestP102LoadValues(t *testing.T) {
	m := mapped(t, api.Read, last)
	next := spread()
	for _, v := range values() {
		lay(t, m, last+0xfc, string(bytesOf(v)))
		for k := range uint32(4) {
			at, old := last+0xfc+k, next()
			for _, name := range strings.Fields(readers) {
				if access.Kind(m, of(name), at) == 0 {
					wantLoad(t, m, of(name), at, old, plainLoad(m, name, at, old))
				}
			}
		}
	}
}

// What reads nothing answers old, wherever; what writes, and numbers that are no Op, too.
func TestP102LoadOfOthers(t *testing.T) {
	m := watched(t, 0, last)
	for _, op := range every() {
		if in(nameOf(op), readers) {
			continue
		}
		for _, at := range []uint32{0, 1, 2, 3, 252, 255, 0x100, 0x101, 0x80000002, last, full - 1, full} {
			for _, old := range []uint32{0, 1, 0xaabbccdd, full} {
				wantLoad(t, m, api.Ins{Op: op}, at, old, old)
			}
		}
	}
}

// Of each at each rest modulo 4 where it may be: what stands there then, and which places are told, in their order.
func TestP102StoreWrittenOut(t *testing.T) {
	for _, x := range []struct {
		name   string
		at     uint32
		want   string
		places []uint32
	}{
		{"sb", 4, "....\x84.......", []uint32{4}}, {"sb", 5, ".....\x84......", []uint32{5}}, {"sb", 6, "......\x84.....", []uint32{6}}, {"sb", 7, ".......\x84....", []uint32{7}},
		{"sh", 4, "....\x63\x84......", []uint32{4, 5}}, {"sh", 6, "......\x63\x84....", []uint32{6, 7}},
		{"sw", 4, "....\xa1\x42\x63\x84....", []uint32{4, 5, 6, 7}}, {"sw", 0, "\xa1\x42\x63\x84........", []uint32{0, 1, 2, 3}},
		{"swl", 4, "....\xa1\x42\x63\x84....", []uint32{4, 5, 6, 7}}, {"swl", 5, ".....\xa1\x42\x63....", []uint32{5, 6, 7}}, {"swl", 6, "......\xa1\x42....", []uint32{6, 7}}, {"swl", 7, ".......\xa1....", []uint32{7}},
		{"swr", 4, "....\x84.......", []uint32{4}}, {"swr", 5, "....\x63\x84......", []uint32{4, 5}}, {"swr", 6, "....\x42\x63\x84.....", []uint32{4, 5, 6}}, {"swr", 7, "....\xa1\x42\x63\x84....", []uint32{4, 5, 6, 7}},
	} {
		m := mapped(t, api.Read|api.Write, 0)
		lay(t, m, 0, "............")
		m.Watch(0, true)
		access.Store(m, of(x.name), x.at, 0xa1426384)
		if got := string(m.Bytes(0, 12)); got != x.want {
			t.Errorf("%s at %d: %q, not %q", x.name, x.at, got, x.want)
		}
		if got := m.Touched(); !slices.Equal(got, x.places) {
			t.Errorf("%s at %d: wrote %d, not %d", x.name, x.at, got, x.places)
		}
	}
}

// Each that writes, wherever Kind says 0, held against the chapter byte by byte; what was there already is written, and told, too.
func TestP102StoreEach(t *testing.T) {
	next := spread()
	for _, page := range pages() {
		m := watched(t, page, page+api.PageSize, page-api.PageSize)
		for _, name := range strings.Fields(writers) {
			for _, spot := range spots() {
				if access.Kind(m, of(name), page+spot) != 0 {
					continue
				}
				for _, v := range []uint32{0, full, 0x01020304, next()} {
					wantStore(t, m, of(name), page+spot, v)
					wantStore(t, m, of(name), page+spot, v)
				}
			}
		}
	}
}

// Each that writes, of many numbers.
func TestP102StoreValues(t *testing.T) {
	m := watched(t, last)
	for _, v := range values() {
		for _, name := range strings.Fields(writers) {
			for k := range uint32(4) {
				if at := full - k; access.Kind(m, of(name), at) == 0 {
					wantStore(t, m, of(name), at, v)
				}
			}
		}
	}
}

// A page that is not watched is written, and nothing is told of it.
func TestP102StoreUnwatched(t *testing.T) {
	for _, name := range strings.Fields(writers) {
		m := mapped(t, api.Read|api.Write, 0, 0x100)
		m.Watch(0x100, true)
		access.Store(m, of(name), 4, 0x01010101)
		if m.Peek(4) != 1 || len(m.Touched()) != 0 {
			t.Errorf("%s: %x", name, m.Bytes(0, 8))
		}
	}
}

// What writes nothing turns nothing, wherever; what reads, and numbers that are no Op, too.
func TestP102StoreOfOthers(t *testing.T) {
	m := watched(t, 0, last)
	before := m.Copy()
	for _, op := range every() {
		if in(nameOf(op), writers) {
			continue
		}
		for _, at := range []uint32{0, 1, 2, 3, 252, 255, 0x100, 0x80000001, last, full - 1, full} {
			access.Store(m, api.Ins{Op: op}, at, 0x12345678)
			if l := m.Touched(); len(l) != 0 || !m.Same(before) {
				t.Fatalf("Op %d at %#x wrote %#x", op, at, l)
			}
		}
	}
}

// At each rest modulo 4, on a page with Exec, on one without, on one that is not there.
func TestP103WrittenOut(t *testing.T) {
	m := mapped(t, api.Exec, 0)
	m.Map(0x100, api.Read|api.Write)
	for _, page := range []uint32{0, 0x100} {
		lay(t, m, page, "\x81\x02\x03\x04\x05\x06\x07\x88")
		lay(t, m, page+0xfc, "\xf1\xf2\xf3\xf4")
	}
	for _, x := range []struct {
		at, word uint32
		kind     int
	}{
		{0, 0x81020304, 0}, {4, 0x05060788, 0}, {8, 0, 0}, {0xfc, 0xf1f2f3f4, 0},
		{1, 0, api.FetchAlign}, {2, 0, api.FetchAlign}, {3, 0, api.FetchAlign}, {5, 0, api.FetchAlign}, {0xfd, 0, api.FetchAlign}, {0xff, 0, api.FetchAlign},
		{0x100, 0, api.FetchPage}, {0x104, 0, api.FetchPage}, {0x1fc, 0, api.FetchPage},
		{0x101, 0, api.FetchAlign}, {0x102, 0, api.FetchAlign}, {0x103, 0, api.FetchAlign},
		{0x200, 0, api.FetchPage}, {0x80000000, 0, api.FetchPage}, {full - 3, 0, api.FetchPage},
		{0x201, 0, api.FetchAlign}, {0x202, 0, api.FetchAlign}, {0x203, 0, api.FetchAlign}, {full - 2, 0, api.FetchAlign}, {full - 1, 0, api.FetchAlign}, {full, 0, api.FetchAlign},
	} {
		wantFetch(t, m, x.at, x.word, x.kind)
	}
}

// With each perm, at all places of a page; its neighbours play no part.
func TestP103EachPerm(t *testing.T) {
	for _, page := range pages() {
		for perm := range 8 {
			m := mapped(t, perm, page)
			m.Map(page-api.PageSize, 7-perm)
			m.Map(page+api.PageSize, 7-perm)
			fill(t, m, page)
			for at := page; at-page < api.PageSize; at++ {
				switch {
				case at%4 != 0:
					wantFetch(t, m, at, 0, api.FetchAlign)
				case perm%2 == 0:
					wantFetch(t, m, at, 0, api.FetchPage)
				default:
					wantFetch(t, m, at, binary.BigEndian.Uint32(m.Bytes(at, 4)), 0)
				}
			}
		}
	}
}

// What one call has put, another one tells.
func TestP104WhatIsPutIsTold(t *testing.T) {
	for _, page := range pages() {
		m := watched(t, page)
		for spot := uint32(0); spot < api.PageSize; spot += 4 {
			for _, v := range values() {
				at := page + spot
				access.Store(m, of("sw"), at, v)
				wantLoad(t, m, of("lw"), at, ^v, v)
				if w := m.Word(at); w != v {
					t.Errorf("sw at %#x, %#x: the word is %#x", at, v, w)
				}
				for k := range uint32(4) {
					if k%2 == 0 {
						access.Store(m, of("sh"), at+k, v)
						wantLoad(t, m, of("lhu"), at+k, ^v, v&0xffff)
						wantLoad(t, m, of("lh"), at+k, ^v, uint32(int32(int16(v))))
					}
					access.Store(m, of("sb"), at+k, v)
					wantLoad(t, m, of("lbu"), at+k, ^v, v&0xff)
					wantLoad(t, m, of("lb"), at+k, ^v, uint32(int32(int8(v))))
				}
			}
		}
	}
}

// anywhere are places of words: with each rest modulo 4, on one page, over the border of two, over the end of the 32 bits.
func anywhere() []uint32 {
	return []uint32{0x80, 0x81, 0x82, 0x83, 0xfc, 0xfd, 0xfe, 0xff, 0x100, 0x101, last, last + 1, last + 2, last + 3, full - 4, full - 3, full - 2, full - 1, full, 0}
}

// swl and swr together put a word, in either order: its four bytes turn, all others stay; lwl and lwr together read it, in either order, whatever was in hand.
func TestP104AWordAnywhere(t *testing.T) {
	for _, at := range anywhere() {
		for _, v := range values() {
			for _, order := range [][2]string{{"swl", "swr"}, {"swr", "swl"}} {
				m := watched(t, 0, 0x100, last)
				want := m.Copy()
				lay(t, want, at, string(bytesOf(v)))
				ends := map[string]uint32{"swl": at, "swr": at + 3}
				for _, name := range order {
					access.Store(m, of(name), ends[name], v)
				}
				if !m.Same(want) {
					t.Errorf("%v at %#x, %#x: %x", order, at, v, m.Bytes(at, 4))
				}
				wantTwoLoads(t, m, at, v)
			}
		}
	}
}

// wantTwoLoads reads a word with lwl and lwr, in either order, with unlike numbers in hand.
func wantTwoLoads(t *testing.T, m *mem.Mem, at, want uint32) {
	t.Helper()
	for _, old := range []uint32{0, full, ^want, want, 0x0a0b0c0d} {
		a := access.Load(m, of("lwr"), at+3, access.Load(m, of("lwl"), at, old))
		b := access.Load(m, of("lwl"), at, access.Load(m, of("lwr"), at+3, old))
		if a != want || b != want {
			t.Errorf("lwl and lwr at %#x: %#x, %#x, not %#x", at, a, b, want)
		}
	}
}

// Kind, Load and Fetch turn nothing, and nothing is told of what they read.
func TestP10WhatOnlyAsks(t *testing.T) {
	m := watched(t, 0, 0x100, last)
	before := m.Copy()
	for _, op := range every() {
		for _, at := range []uint32{0, 1, 2, 3, 0xfc, 0xff, 0x100, 0x200, 0x203, last, full} {
			access.Kind(m, api.Ins{Op: op}, at)
			access.Load(m, api.Ins{Op: op}, at, 77)
			access.Fetch(m, at)
		}
	}
	if l := m.Touched(); len(l) != 0 || !m.Same(before) || !slices.Equal(m.Pages(), before.Pages()) {
		t.Errorf("touched %#x", l)
	}
	for _, at := range []uint32{0, 0x100, last} {
		if !m.Watched(at) || m.Perm(at) != before.Perm(at) {
			t.Errorf("%#x: watched %v, perm %d", at, m.Watched(at), m.Perm(at))
		}
	}
}

// At any Op, registers, numbers and places, also where Kind says that it may not be: every call ends, and none panics.
func TestR1NoPanic(t *testing.T) {
	next := spread()
	strange := []int{0, -1, 31, 32, 1 << 31, 1 << 32, math.MaxInt, math.MinInt}
	places := []uint32{0, 1, 2, 3, 0xfd, 0xfe, 0xff, 0x100, 0x7fffffff, 0x80000000, 0x80000001, last - 1, last, full - 4, full - 3, full - 2, full - 1, full}
	for _, m := range []*mem.Mem{mem.New(0), mem.New(api.MaxPages), watched(t, 0), watched(t, last), watched(t, 0, last), mapped(t, 0, 0, last), mapped(t, 7, 0, 0x100, last)} {
		pages := m.Pages()
		for _, op := range every() {
			for k, at := range places {
				x := strange[k%len(strange)]
				i := api.Ins{Op: op, S: x, T: -x, D: x + 1, A: x - 1, Imm: next()}
				access.Kind(m, i, at)
				access.Load(m, i, at, next())
				access.Store(m, i, at, next())
				access.Fetch(m, at)
			}
		}
		if !slices.Equal(m.Pages(), pages) {
			t.Errorf("pages %#x, not %#x", m.Pages(), pages)
		}
	}
}

// An answer hangs on the Op alone of an instruction: its registers, its amount and its number play no part.
func TestR4TheOpAlone(t *testing.T) {
	m := watched(t, 0)
	for _, op := range every() {
		for _, at := range []uint32{0, 1, 2, 3, 252, 255, 0x101} {
			for _, i := range []api.Ins{{S: 4, T: 5, D: 6, A: 7, Imm: 8}, {S: -1, T: 99, D: math.MaxInt, A: math.MinInt, Imm: full}, {Imm: 1}, {A: 1}} {
				i.Op = op
				wantKind(t, m, i, at, plainKind(nameOf(op), at, at < api.PageSize, 6))
				if access.Kind(m, i, at) == 0 {
					wantLoad(t, m, i, at, 0xaabbccdd, plainLoad(m, nameOf(op), at, 0xaabbccdd))
					wantStore(t, m, i, at, 0x01020304)
				}
			}
		}
	}
}

// What one memory is asked and told plays no part for another one.
func TestR4TwoMemories(t *testing.T) {
	m := watched(t, 0)
	o := m.Copy()
	was := m.Word(4)
	access.Store(m, of("sw"), 4, ^was)
	wantLoad(t, m, of("lw"), 4, 0, ^was)
	wantLoad(t, o, of("lw"), 4, 0, was)
	if l := o.Touched(); len(l) != 0 {
		t.Errorf("touched %#x", l)
	}
}
