package load_test

import (
	"encoding/binary"
	"hash/crc32"
	"maps"
	"math"
	"slices"
	"strings"
	"testing"

	"calque/api"
	"calque/crc"
	"calque/elf"
	"calque/load"
	"calque/mem"
)

const (
	head  = 52                                         // bytes of a made file's header
	line  = 32                                         // bytes of one row of its table
	top   = 1 << 31                                    // no segment goes beyond
	stack = api.StackTop - api.StackPages*api.PageSize // the stack's lowest place
	// stackAt is what the stack's register says.
	stackAt = 0x7fffeff0
)

// sample is a file that may be: bytes up to a page's border, bytes that are fewer than the size, none.
func sample() api.File {
	return api.File{Entry: 0x1008, Segs: []api.Seg{
		{At: 0x1004, Data: strings.Repeat("code", 63), Size: 252, Perm: api.Read | api.Exec},
		{At: 0x20fe, Data: "abcdef", Size: 300, Perm: api.Read | api.Write},
		{At: 0x4000, Size: 0x100, Perm: api.Write},
	}}
}

// one is a file of one segment, which begins with it.
func one(at, size uint32, data string) api.File {
	return api.File{Entry: (at + 3) / 4 * 4, Segs: []api.Seg{{At: at, Data: data, Size: size, Perm: api.Exec}}}
}

// picture is a memory in one's own words: each page with its perm, each byte that is not 0.
type picture struct {
	perms map[uint32]int
	bytes map[uint32]byte
}

// told is P7.1 of a file that may be, were there no bound: byte by byte.
func told(f api.File) picture {
	p := picture{map[uint32]int{}, map[uint32]byte{}}
	for _, s := range f.Segs {
		for i := range s.Size {
			at := s.At + i
			p.perms[at/256*256] = s.Perm
			if int(i) < len(s.Data) && s.Data[i] != 0 {
				p.bytes[at] = s.Data[i]
			}
		}
	}
	p.perms[0x7fffee00] |= 6
	p.perms[0x7fffef00] |= 6
	return p
}

// seen is what a memory shows.
func seen(m *mem.Mem) picture {
	p := picture{map[uint32]int{}, map[uint32]byte{}}
	for _, at := range m.Pages() {
		p.perms[at] = m.Perm(at)
		for i, v := range m.Bytes(at, api.PageSize) {
			if v != 0 {
				p.bytes[at+uint32(i)] = v
			}
		}
	}
	return p
}

func samePicture(p, q picture) bool {
	return maps.Equal(p.perms, q.perms) && maps.Equal(p.bytes, q.bytes)
}

// wantLoaded holds a load to what the chapter says of a file that may be, and of pages that are enough.
func wantLoaded(t *testing.T, what string, f api.File, most int) *mem.Mem {
	t.Helper()
	m, s, err := load.Load(f, most)
	if err != api.OK || m == nil {
		t.Fatalf("%s: error %d with %d pages", what, err, most)
	}
	if p := seen(m); !samePicture(p, told(f)) {
		t.Errorf("%s: pages %x, not %x; %d bytes, not %d", what, p.perms, told(f).perms, len(p.bytes), len(told(f).bytes))
	}
	want := api.State{PC: f.Entry, Next: f.Entry + 4}
	want.R[29] = stackAt
	if s != want {
		t.Errorf("%s: the state is %v, not %v", what, s, want)
	}
	wantQuiet(t, what, m)
	return m
}

// wantQuiet holds a memory to have nothing touched and nothing watched.
func wantQuiet(t *testing.T, what string, m *mem.Mem) {
	t.Helper()
	for _, at := range m.Pages() {
		if m.Watched(at) {
			t.Errorf("%s: %x is watched", what, at)
		}
	}
	if l := m.Touched(); len(l) != 0 {
		t.Errorf("%s: touched: %x", what, l)
	}
}

// wantRefused holds a load to an error, beside which all is zero.
func wantRefused(t *testing.T, what string, f api.File, most int, want api.Errno) {
	t.Helper()
	if m, s, err := load.Load(f, most); m != nil || s != (api.State{}) || err != want {
		t.Errorf("%s: error %d, not %d; with %d pages %v, %v", what, err, want, most, m, s)
	}
}

// wantJust holds a load to need so many pages, no more and no fewer.
func wantJust(t *testing.T, what string, f api.File, pages int) {
	t.Helper()
	if got := len(wantLoaded(t, what, f, pages).Pages()); got != pages {
		t.Errorf("%s: %d pages, not %d", what, got, pages)
	}
	wantRefused(t, what+", one page too few", f, pages-1, api.ErrBig)
}

func TestP71Example(t *testing.T) {
	f := one(0x1000, 300, "")
	m := wantLoaded(t, "the example", f, api.MaxPages)
	if got := m.Pages(); !slices.Equal(got, []uint32{0x1000, 0x1100, 0x7fffee00, 0x7fffef00}) {
		t.Errorf("pages %x", got)
	}
	wantJust(t, "the example", f, 4)
}

// wrong are files that may not be, with Check's error.
func wrong() map[string]struct {
	file api.File
	want api.Errno
} {
	with := func(turn func(f *api.File)) api.File {
		f := sample()
		turn(&f)
		return f
	}
	many := func(f *api.File) {
		for i := range uint32(6) {
			f.Segs = append(f.Segs, api.Seg{At: 0x8000 + i*0x100, Size: 1})
		}
	}
	return map[string]struct {
		file api.File
		want api.Errno
	}{
		"nine segments":         {with(many), api.ErrBig},
		"nothing":               {api.File{}, api.ErrEntry},
		"a size of 0":           {with(func(f *api.File) { f.Segs[2].Size = 0 }), api.ErrSegment},
		"a size above MaxFile":  {with(func(f *api.File) { f.Segs[2].Size = api.MaxFile + 1 }), api.ErrSegment},
		"the greatest size":     {with(func(f *api.File) { f.Segs[2].Size = math.MaxUint32 }), api.ErrSegment},
		"a size below its data": {with(func(f *api.File) { f.Segs[1].Size = 5 }), api.ErrSegment},
		"above 2^31":            {with(func(f *api.File) { f.Segs[2].At = top - 0xff }), api.ErrSegment},
		"far above":             {with(func(f *api.File) { f.Segs[2].At = math.MaxUint32 }), api.ErrSegment},
		"a perm of -1":          {with(func(f *api.File) { f.Segs[2].Perm = -1 }), api.ErrSegment},
		"a perm of 8":           {with(func(f *api.File) { f.Segs[2].Perm = 8 }), api.ErrSegment},
		"a page in common":      {with(func(f *api.File) { f.Segs[2].At = 0x22f0 }), api.ErrOverlap},
		"an odd entry":          {with(func(f *api.File) { f.Entry = 0x100a }), api.ErrEntry},
		"an entry ahead":        {with(func(f *api.File) { f.Entry = 0x1000 }), api.ErrEntry},
		"an entry behind":       {with(func(f *api.File) { f.Entry = 0x1100 }), api.ErrEntry},
		"an entry without exec": {with(func(f *api.File) { f.Entry = 0x2100 }), api.ErrEntry},
	}
}

func TestP71ChecksError(t *testing.T) {
	for what, x := range wrong() {
		if err := elf.Check(x.file); err != x.want {
			t.Errorf("%s: Check's error %d, not %d", what, err, x.want)
		}
		for _, most := range []int{math.MinInt, -1, 0, 1, 4, api.MaxPages, api.MaxPages + 1, math.MaxInt} {
			// Ahead of ErrBig for the pages, of which there are too few.
			wantRefused(t, what, x.file, most, x.want)
		}
	}
}

func TestP71BordersOfAPage(t *testing.T) {
	for _, x := range []struct {
		at, size uint32
		pages    int
	}{
		{0x1000, 4, 1}, {0x1000, 255, 1}, {0x1000, 256, 1}, {0x1000, 257, 2}, {0x1000, 512, 2}, {0x1000, 513, 3},
		{0x1001, 255, 1}, {0x1001, 256, 2}, {0x10fc, 4, 1}, {0x10fc, 5, 2}, {0x10fc, 260, 2}, {0x10fc, 261, 3},
		{0x10ff, 2, 2}, {0x10ff, 257, 2}, {0x10ff, 258, 3}, {0, 1, 1}, {0, 256, 1}, {0, 257, 2},
		{top - 4, 4, 1}, {top - 256, 256, 1}, {top - 257, 257, 2}, {top - 1024, 1024, 4}, {0x1080, 15744, 62},
	} {
		for _, n := range []uint32{0, 1, x.size / 2, x.size - 1, x.size} {
			data := strings.Repeat("0123456789a", int(n)/11+1)[:n]
			wantJust(t, "one segment", one(x.at, x.size, data), x.pages+api.StackPages)
		}
	}
}

func TestP71BytesAndTheRest(t *testing.T) {
	m := wantLoaded(t, "a sample", sample(), 6+1)
	for at, want := range map[uint32]string{
		0x1000: "\x00\x00\x00\x00code", 0x10fc: "code\x00\x00", 0x20fc: "\x00\x00abcdef\x00\x00", 0x2220: "\x00\x00\x00\x00", 0x4000: "\x00\x00\x00\x00", stackAt: "\x00\x00\x00\x00",
	} {
		if got := string(m.Bytes(at, len(want))); got != want {
			t.Errorf("at %x: %q, not %q", at, got, want)
		}
	}
	if m.Word(0x2100) != 0x63646566 || m.Mapped(0x2300) || m.Mapped(0x1100) || m.Mapped(0x3000) {
		t.Errorf("word %x, pages %x", m.Word(0x2100), m.Pages())
	}
	// Every byte there is, and one beside it.
	all := make([]byte, 256)
	for i := range all {
		all[i] = byte(i)
	}
	m = wantLoaded(t, "all bytes", one(0x1080, 257, string(all)), 4)
	if got := string(m.Bytes(0x1080, 256)); got != string(all) {
		t.Errorf("%q", got)
	}
}

func TestP71Perms(t *testing.T) {
	for perm := range 8 {
		f := sample()
		f.Segs[1].Perm = perm
		m := wantLoaded(t, "a perm", f, 7)
		for at, want := range map[uint32]int{0x1000: 5, 0x10ff: 5, 0x2000: perm, 0x2100: perm, 0x22ff: perm, 0x4000: 2, stack: 6, stack + 0x1ff: 6, stack - 1: 0, api.StackTop: 0, 0x2300: 0} {
			if got := m.Perm(at); got != want {
				t.Errorf("perm %d: at %x it is %d, not %d", perm, at, got, want)
			}
		}
	}
}

func TestP71HowManySegments(t *testing.T) {
	f := api.File{Entry: 0x10f0}
	for i := range uint32(api.MaxParts) {
		// Each begins and ends within a page, and has two.
		f.Segs = append(f.Segs, api.Seg{At: 0x10f0 + 0x200*i, Data: strings.Repeat(string(rune('a'+i)), 20), Size: 40 + i, Perm: int(i) | 1})
		wantJust(t, "so many segments", f, 2*len(f.Segs)+api.StackPages)
	}
	// The order of the segments plays no part.
	m := wantLoaded(t, "eight", f, api.MaxPages)
	slices.Reverse(f.Segs)
	if !m.Same(wantLoaded(t, "the other way round", f, 18)) {
		t.Error("the other way round it is another memory")
	}
}

func TestP71HowManyPages(t *testing.T) {
	f := sample()
	for _, most := range []int{7, 8, 63, api.MaxPages, api.MaxPages + 1, 1000, math.MaxInt} {
		wantLoaded(t, "enough", f, most)
	}
	for _, most := range []int{6, 5, 4, 3, 2, 1, 0, -1, -64, math.MinInt} {
		wantRefused(t, "too few", f, most, api.ErrBig)
	}
	wantJust(t, "62 pages and the stack", one(0x1000, 62*256, ""), api.MaxPages)
	for _, most := range []int{0, 63, api.MaxPages, api.MaxPages + 1, 66, 67, 1000, math.MaxInt} {
		wantRefused(t, "63 pages and the stack", one(0x1000, 62*256+1, ""), most, api.ErrBig)
		wantRefused(t, "64 pages and the stack", one(0x1000, api.MaxFile, "abc"), most, api.ErrBig)
		wantRefused(t, "65 pages", one(0x10ff, api.MaxFile, ""), most, api.ErrBig)
		big := api.File{Entry: 0x10000}
		for i := range uint32(api.MaxParts) {
			big.Segs = append(big.Segs, api.Seg{At: 0x10000 * (i + 1), Size: api.MaxFile, Perm: 7})
		}
		wantRefused(t, "512 pages", big, most, api.ErrBig)
	}
	// How many there may still be is what it was made with.
	m := wantLoaded(t, "one to spare", f, 8)
	if a, b := m.Map(0x9000, 7), m.Map(0x9100, 7); a != api.OK || b != api.ErrBig {
		t.Errorf("errors %d, %d", a, b)
	}
	m = wantLoaded(t, "none to spare", f, 7)
	if m.Map(0x9000, 7) != api.ErrBig || m.Map(0x1000, 2) != api.OK {
		t.Error("a page too many, or one that is there is refused")
	}
	m = wantLoaded(t, "many to spare", f, math.MaxInt)
	count := 0
	for m.Map(0x100000+uint32(count)*256, 7) == api.OK {
		count++
	}
	if count != api.MaxPages-7 {
		t.Errorf("%d pages to spare", count)
	}
}

func TestP71TheStacksPages(t *testing.T) {
	for perm := range 8 {
		f := one(0x1000, 4, "code")
		f.Segs = append(f.Segs, api.Seg{At: stack + 0x100, Data: "in the stack", Size: 256, Perm: perm})
		m := wantLoaded(t, "in the upper page", f, 3)
		if got := [2]int{m.Perm(stack), m.Perm(stack + 0x100)}; got != [2]int{6, 6 | perm} || string(m.Bytes(stack+0x100, 12)) != "in the stack" {
			t.Errorf("perm %d: %v, %q", perm, got, m.Bytes(stack+0x100, 12))
		}
		wantRefused(t, "in the upper page", f, 2, api.ErrBig)
		f.Segs[1].At = stack
		m = wantLoaded(t, "in the lower page", f, 3)
		if got := [2]int{m.Perm(stack), m.Perm(stack + 0x100)}; got != [2]int{6 | perm, 6} {
			t.Errorf("perm %d: %v", perm, got)
		}
		f.Segs[1].At = stack + 0x80
		wantJust(t, "in both", f, 3)
		f.Segs[1].At = stack + 1
		f.Segs[1].Size = 0x1ff
		wantJust(t, "up to the top", f, 3)
		f.Segs[1].Size = 0x200
		wantJust(t, "over the top", f, 4)
		f.Segs[1].At = stack - 1
		wantJust(t, "from below", f, 4)
		f.Segs[1].At = stack - 0x200
		wantJust(t, "below", f, 5)
		f.Segs[1].At = api.StackTop
		wantJust(t, "above", f, 5)
		f.Segs[1].At = stack - 0x1ff
		wantJust(t, "the last byte in the lower page", f, 5)
	}
	// The program itself in the stack: as many pages as there may be.
	f := one(api.StackTop-api.MaxFile, api.MaxFile, strings.Repeat("z", api.MaxFile))
	wantJust(t, "64 pages, the stack's among them", f, api.MaxPages)
	f = one(api.StackTop-0x100, 4, "code")
	f.Segs[0].Perm = 1
	if m := wantLoaded(t, "a program in the stack", f, 2); m.Perm(stack+0x100) != 7 || m.Perm(stack) != 6 {
		t.Errorf("perms %d, %d", m.Perm(stack+0x100), m.Perm(stack))
	}
}

func TestP71State(t *testing.T) {
	if stackAt != api.StackTop-16 {
		t.Error("another stack")
	}
	for _, x := range []struct{ at, size, entry, next uint32 }{
		{0x1000, 300, 0x1000, 0x1004},
		{0x1000, 300, 0x1128, 0x112c},
		{0x1001, 300, 0x1004, 0x1008},
		{0, 4, 0, 4},
		{0, 8, 4, 8},
		// The last word that a file may have: what is next is in none.
		{top - 4, 4, 0x7ffffffc, 0x80000000},
		{top - 8, 8, 0x7ffffff8, 0x7ffffffc},
		{top - 4, 1, 0x7ffffffc, 0x80000000},
	} {
		f := api.File{Entry: x.entry, Segs: []api.Seg{{At: x.at, Size: x.size, Perm: 1}}}
		_, s, err := load.Load(f, 4)
		if err != api.OK || s.PC != x.entry || s.Next != x.next || s.R[29] != 0x7fffeff0 || s.HI != 0 || s.LO != 0 || s.Slot {
			t.Errorf("%x: error %d, %v", x.entry, err, s)
		}
		s.R[29] = 0
		if s.R != [32]uint32{} {
			t.Errorf("%x: registers %v", x.entry, s.R)
		}
	}
	// No file may be whose Next would be past 2^32.
	for _, entry := range []uint32{top, 0xfffffffc, 0xfffffff8} {
		wantRefused(t, "an entry far up", api.File{Entry: entry, Segs: []api.Seg{{At: entry, Size: 4, Perm: 1}}}, 64, api.ErrSegment)
	}
}

func TestP71NothingTouched(t *testing.T) {
	f := one(stack+0x80, 0x180, strings.Repeat("x", 0x180))
	m := wantLoaded(t, "bytes all over the stack", f, 2)
	// From now on it is told: that of it, not what went ahead.
	m.Watch(stack, true)
	m.Poke(stack+3, 1)
	m.Poke(stack+0x100, 1)
	if got := m.Touched(); !slices.Equal(got, []uint32{stack + 3}) {
		t.Errorf("touched %x", got)
	}
}

// sum is P7.2 of a file that may be, in one's own words.
func sum(f api.File) uint32 {
	b := []byte("\x7f\x45\x4c\x46\x01\x02\x01\x00\x00\x00\x00\x00\x00\x00\x00\x00\x00\x02\x00\x08\x00\x00\x00\x01")
	b = binary.BigEndian.AppendUint32(b, f.Entry)
	b = append(b, "\x00\x00\x00\x34\x00\x00\x00\x00\x00\x00\x00\x00\x00\x34\x00\x20"...)
	b = binary.BigEndian.AppendUint16(b, uint16(len(f.Segs)))
	b = append(b, 0, 0, 0, 0, 0, 0)
	end, data := head+line*len(f.Segs), ""
	for _, s := range f.Segs {
		for _, v := range []uint32{1, uint32(end), s.At, s.At, uint32(len(s.Data)), s.Size, uint32(s.Perm), 4} {
			b = binary.BigEndian.AppendUint32(b, v)
		}
		end += len(s.Data)
		data += s.Data
	}
	return crc32.ChecksumIEEE(append(b, data...))
}

// wantDigest holds a file's sum to the chapter, and to what Make says, if it is not too great for that.
func wantDigest(t *testing.T, what string, f api.File) {
	t.Helper()
	got := load.Digest(f)
	if got != sum(f) {
		t.Errorf("%s: %x, not %x", what, got, sum(f))
	}
	b, err := elf.Make(f)
	if err == api.OK && got != crc.Of(b) || err != api.OK && err != api.ErrBig {
		t.Errorf("%s: %x; Make's error %d, its sum %x", what, got, err, crc.Of(b))
	}
}

func TestP72Digest(t *testing.T) {
	wantDigest(t, "a sample", sample())
	wantDigest(t, "the example", one(0x1000, 300, ""))
	wantDigest(t, "one byte", one(0, 1, "a"))
	wantDigest(t, "the last word", one(top-4, 4, "last"))
	f := api.File{Entry: 0x10000}
	for i := range uint32(api.MaxParts) {
		f.Segs = append(f.Segs, api.Seg{At: 0x10000 + 0x1000*i, Data: strings.Repeat("xyz", int(i*5%7)), Size: 0x100 + i, Perm: 7 - int(i)})
		wantDigest(t, "so many segments", f)
	}
	slices.Reverse(f.Segs)
	wantDigest(t, "the other way round", f)
	// More pages than a memory may have play no part.
	f = one(0x10ff, api.MaxFile, "abc")
	wantDigest(t, "65 pages", f)
	wantRefused(t, "65 pages", f, api.MaxPages, api.ErrBig)
}

// Known by itself: the bytes written out by hand, their sum by the library.
func TestP72ByHand(t *testing.T) {
	b := "\x7fELF\x01\x02\x01" + "\x00\x00\x00\x00\x00\x00\x00\x00\x00" +
		"\x00\x02" + "\x00\x08" + "\x00\x00\x00\x01" + "\x00\x00\x10\x00" + "\x00\x00\x00\x34" + "\x00\x00\x00\x00" + "\x00\x00\x00\x00" +
		"\x00\x34" + "\x00\x20" + "\x00\x02" + "\x00\x00" + "\x00\x00" + "\x00\x00" +
		"\x00\x00\x00\x01" + "\x00\x00\x00\x74" + "\x00\x00\x10\x00" + "\x00\x00\x10\x00" + "\x00\x00\x00\x05" + "\x00\x00\x01\x2c" + "\x00\x00\x00\x05" + "\x00\x00\x00\x04" +
		"\x00\x00\x00\x01" + "\x00\x00\x00\x79" + "\x00\x00\x20\x00" + "\x00\x00\x20\x00" + "\x00\x00\x00\x02" + "\x00\x00\x00\x02" + "\x00\x00\x00\x06" + "\x00\x00\x00\x04" +
		"hello" + "my"
	f := api.File{Entry: 0x1000, Segs: []api.Seg{{At: 0x1000, Data: "hello", Size: 300, Perm: 5}, {At: 0x2000, Data: "my", Size: 2, Perm: 6}}}
	if got, want := load.Digest(f), crc32.ChecksumIEEE([]byte(b)); got != want {
		t.Errorf("%x, not %x", got, want)
	}
}

func TestP72AboveMaxFile(t *testing.T) {
	const room = api.MaxFile - head - line
	known := map[uint32]int{}
	for _, n := range []int{room - 1, room, room + 1, room + 2, api.MaxFile - 1, api.MaxFile} {
		f := one(0x1000, api.MaxFile, strings.Repeat("x", n))
		wantDigest(t, "so many bytes", f)
		if _, err := elf.Make(f); (err == api.ErrBig) != (n > room) {
			t.Errorf("%d bytes: Make's error %d", n, err)
		}
		if load.Digest(f) == 0 || known[load.Digest(f)] != 0 {
			t.Errorf("%d bytes: %x, as of %d", n, load.Digest(f), known[load.Digest(f)])
		}
		known[load.Digest(f)] = n
	}
	f := api.File{Entry: 0x10000}
	for i := range uint32(api.MaxParts) {
		f.Segs = append(f.Segs, api.Seg{At: 0x10000 * (i + 1), Data: strings.Repeat(string(rune('a'+i)), api.MaxFile), Size: api.MaxFile, Perm: 7})
		wantDigest(t, "many bytes", f)
	}
	// Its last byte counts, however far behind.
	last := load.Digest(f)
	f.Segs[7].Data = f.Segs[7].Data[:api.MaxFile-1] + "z"
	wantDigest(t, "another last byte", f)
	if load.Digest(f) == last {
		t.Error("the last byte plays no part")
	}
}

func TestP72OfOthers(t *testing.T) {
	for what, x := range wrong() {
		if got := load.Digest(x.file); got != 0 {
			t.Errorf("%s: %x", what, got)
		}
	}
}

func TestP72EachThingCounts(t *testing.T) {
	was := load.Digest(sample())
	known := map[uint32]int{was: 1}
	for i, turn := range []func(f *api.File){
		func(f *api.File) { f.Entry += 4 },
		func(f *api.File) { f.Segs[1].At++ },
		func(f *api.File) { f.Segs[1].Size++ },
		func(f *api.File) { f.Segs[1].Perm = 7 },
		func(f *api.File) { f.Segs[1].Data = "abcdeg" },
		func(f *api.File) { f.Segs[1].Data = "abcdef\x00" },
		func(f *api.File) { f.Segs[1].Data = "abcde" },
		func(f *api.File) { f.Segs[2].Data = "\x00" },
		func(f *api.File) { f.Segs[1], f.Segs[2] = f.Segs[2], f.Segs[1] },
		func(f *api.File) { f.Segs = f.Segs[:2] },
		// The same bytes behind one another, but of other segments.
		func(f *api.File) { f.Segs[1].Data, f.Segs[2].Data = "abc", "def" },
	} {
		f := sample()
		turn(&f)
		wantDigest(t, "something turned", f)
		if known[load.Digest(f)]++; known[load.Digest(f)] > 1 {
			t.Errorf("turn %d: %x, as of another", i, load.Digest(f))
		}
	}
}

// numbers is a source of numbers that are always the same ones.
func numbers(seed uint32) func(below int) int {
	v := seed
	return func(below int) int {
		v ^= v << 13
		v ^= v >> 17
		v ^= v << 5
		return int(v % uint32(below))
	}
}

// anyFile is a file that mostly may be.
func anyFile(next func(below int) int) api.File {
	var f api.File
	at := []uint32{0, 0x1000, 0x7fffe000, stack - 0x300, stack, 0x7fffe800}[next(6)]
	for range 1 + next(api.MaxParts) {
		at += uint32(next(api.PageSize))
		data := make([]byte, next(30)*next(30))
		for i := range data {
			data[i] = byte(next(256))
		}
		s := api.Seg{At: at, Data: string(data), Size: uint32(max(1, len(data)+next(2)*next(1500))), Perm: next(8)}
		f.Segs = append(f.Segs, s)
		at = (at+s.Size+api.PageSize-1)/api.PageSize*api.PageSize + uint32(next(3))*api.PageSize
	}
	s := f.Segs[next(len(f.Segs))]
	f.Entry = (s.At + 3) / 4 * 4
	if next(4) > 0 {
		for i := range f.Segs {
			f.Segs[i].Perm |= api.Exec
		}
	}
	return f
}

func TestP71P72AnyFile(t *testing.T) {
	next := numbers(2463534242)
	counts := map[api.Errno]int{}
	for range 4000 {
		f, most := anyFile(next), next(70)-2
		want := elf.Check(f)
		if want == api.OK && len(told(f).perms) > min(most, api.MaxPages) {
			want = api.ErrBig
		}
		counts[want]++
		if want == api.OK {
			wantLoaded(t, "any file", f, most)
		} else {
			wantRefused(t, "any file", f, most, want)
		}
		if elf.Check(f) == api.OK {
			wantDigest(t, "any file", f)
		} else if load.Digest(f) != 0 {
			t.Errorf("%x of a file that may not be", load.Digest(f))
		}
		if t.Failed() {
			t.Fatalf("%.300v, %d pages", f, most)
		}
	}
	for _, err := range []api.Errno{api.OK, api.ErrBig, api.ErrEntry} {
		if counts[err] < 100 {
			t.Errorf("only %d files with error %d", counts[err], err)
		}
	}
}

func TestR1AnyArguments(t *testing.T) {
	edges := []uint32{0, 1, 3, 4, 255, 256, 257, api.MaxFile, api.MaxFile + 1, stack, api.StackTop, top - 1, top, math.MaxUint32 - 3, math.MaxUint32}
	for _, at := range edges {
		for _, size := range edges {
			for _, perm := range []int{math.MinInt, -1, 0, 1, 7, 8, math.MaxInt} {
				for _, entry := range []uint32{at, 0, size, math.MaxUint32} {
					f := api.File{Entry: entry, Segs: []api.Seg{{At: at, Size: size, Perm: perm, Data: "abc"}, {At: size, Size: at, Perm: 1}}}
					load.Digest(f)
					for _, most := range []int{math.MinInt, 0, 3, api.MaxPages, math.MaxInt} {
						m, _, err := load.Load(f, most)
						if (m == nil) != (err != api.OK) {
							t.Fatalf("%v: error %d, %v", f, err, m)
						}
					}
				}
			}
		}
	}
	load.Load(api.File{Segs: make([]api.Seg, 5000)}, 3)
	load.Digest(api.File{Segs: make([]api.Seg, 5000)})
}

func TestR3WhatIsHandedInStays(t *testing.T) {
	spare := api.Seg{At: 9, Data: "spare", Size: 99, Perm: 3}
	f := sample()
	f.Segs = append(f.Segs, spare)[:len(f.Segs)]
	for _, most := range []int{3, 64} {
		m, _, _ := load.Load(f, most)
		load.Digest(f)
		if m != nil {
			m.Poke(0x2100, 'x')
		}
	}
	if f.Entry != sample().Entry || !slices.Equal(f.Segs, sample().Segs) || f.Segs[:len(f.Segs)+1][len(f.Segs)] != spare {
		t.Errorf("handed in: %v", f)
	}
	// Nor is it kept: what is loaded stays when it turns.
	m := wantLoaded(t, "a sample", f, 64)
	clear(f.Segs[:len(f.Segs)+1])
	if !samePicture(seen(m), told(sample())) {
		t.Error("what was loaded has turned")
	}
}

func TestR4NothingInCommon(t *testing.T) {
	m := wantLoaded(t, "one", sample(), 8)
	o := wantLoaded(t, "the other", sample(), 8)
	if m == o || !m.Same(o) {
		t.Fatal("two memories of one file")
	}
	m.Poke(0x2100, 'x')
	m.Poke(stack, 'x')
	m.Watch(0x1000, true)
	m.Poke(0x1000, 'x')
	m.Map(0x4000, 1)
	m.Map(0x9000, 7)
	if !samePicture(seen(o), told(sample())) || m.Same(o) {
		t.Error("the other one has turned")
	}
	wantQuiet(t, "the other", o)
	if o.Map(0x9000, 7) != api.OK {
		t.Error("the other one has no room")
	}
	wantLoaded(t, "a third", sample(), 7)
}

func TestR4TheSameEachTime(t *testing.T) {
	was := load.Digest(sample())
	for what, x := range wrong() {
		wantRefused(t, what, x.file, 64, x.want)
		load.Digest(x.file)
		wantLoaded(t, "behind a refused call", sample(), 7)
		if load.Digest(sample()) != was {
			t.Errorf("behind %s: another sum", what)
		}
	}
}
