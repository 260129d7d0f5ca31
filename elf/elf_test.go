package elf_test

import (
	"bytes"
	reader "debug/elf"
	"encoding/binary"
	"math"
	"slices"
	"strings"
	"testing"

	"calque/api"
	"calque/elf"
)

const (
	head = 52      // bytes of the header
	line = 32      // bytes of one row of the table
	top  = 1 << 31 // no segment goes beyond
)

// row is one row of a table, its eight numbers as they stand there.
type row struct{ kind, from, at, phys, count, size, perm, align uint32 }

// raw is a file's bytes: a header that is right, rows as they are, and what stands behind them.
func raw(entry uint32, rows []row, behind string) []byte {
	b := []byte("\x7f\x45\x4c\x46\x01\x02\x01\x00\x00\x00\x00\x00\x00\x00\x00\x00\x00\x02\x00\x08\x00\x00\x00\x01")
	b = binary.BigEndian.AppendUint32(b, entry)
	b = append(b, "\x00\x00\x00\x34\x00\x00\x00\x00\x00\x00\x00\x00\x00\x34\x00\x20"...)
	b = binary.BigEndian.AppendUint16(b, uint16(len(rows)))
	b = append(b, 0, 0, 0, 0, 0, 0)
	for _, r := range rows {
		for _, v := range []uint32{r.kind, r.from, r.at, r.phys, r.count, r.size, r.perm, r.align} {
			b = binary.BigEndian.AppendUint32(b, v)
		}
	}
	return append(b, behind...)
}

// code is a row of a segment that may be run, without bytes, at 0x1000.
func code() row { return row{kind: 1, from: head, at: 0x1000, size: 300, perm: 5} }

// with16 is b with another number of two bytes.
func with16(b []byte, at int, v uint16) []byte {
	c := slices.Clone(b)
	binary.BigEndian.PutUint16(c[at:], v)
	return c
}

// with32 is b with another number of four bytes.
func with32(b []byte, at int, v uint32) []byte {
	c := slices.Clone(b)
	binary.BigEndian.PutUint32(c[at:], v)
	return c
}

// with8 is b with another byte.
func with8(b []byte, at int, v byte) []byte {
	c := slices.Clone(b)
	c[at] = v
	return c
}

// sample is a file that may be: two segments with bytes, one without.
func sample() api.File {
	return api.File{Entry: 0x1008, Segs: []api.Seg{
		{At: 0x1000, Data: "abcdefghijkl", Size: 300, Perm: api.Read | api.Exec},
		{At: 0x2010, Size: 0x200, Perm: api.Read | api.Write},
		{At: 0x3004, Data: "\x00\xff\x80", Size: 3},
	}}
}

// made is what Make says of a file that may be.
func made(t *testing.T, f api.File) []byte {
	t.Helper()
	b, err := elf.Make(f)
	if err != api.OK {
		t.Fatalf("Make: error %d", err)
	}
	return b
}

func sameFile(f, g api.File) bool { return f.Entry == g.Entry && slices.Equal(f.Segs, g.Segs) }

// wantFile holds what is parsed against what it should be.
func wantFile(t *testing.T, what string, b []byte, want api.File) {
	t.Helper()
	if f, err := elf.Parse(b); err != api.OK || !sameFile(f, want) {
		t.Errorf("%s: error %d, %.200v, not %.200v", what, err, f, want)
	}
}

// wantError holds Parse to an error, beside which all is zero; OK asks for none.
func wantError(t *testing.T, what string, b []byte, want api.Errno) {
	t.Helper()
	f, err := elf.Parse(b)
	if err != want {
		t.Errorf("%s: error %d, not %d", what, err, want)
	}
	if want != api.OK && (f.Entry != 0 || len(f.Segs) != 0) {
		t.Errorf("%s: %.200v beside error %d", what, f, err)
	}
}

// wantCheck holds Check to an error, and Make to the same one.
func wantCheck(t *testing.T, what string, f api.File, want api.Errno) {
	t.Helper()
	if err := elf.Check(f); err != want {
		t.Errorf("%s: Check's error %d, not %d", what, err, want)
	}
	if b, err := elf.Make(f); want != api.OK && (err != want || len(b) != 0) {
		t.Errorf("%s: Make's error %d, not %d, with %d bytes", what, err, want, len(b))
	}
}

func TestP61Example(t *testing.T) {
	wantError(t, "four bytes", []byte("\x7fELF"), api.ErrShort)
	wantError(t, "any four bytes", make([]byte, 4), api.ErrShort)
}

func TestP61HowManyBytes(t *testing.T) {
	good := raw(0x1000, []row{code()}, "")
	for _, n := range []int{0, 1, 4, 16, 50, 51} {
		wantError(t, "too few", good[:n], api.ErrShort)
		wantError(t, "too few, of nothing", make([]byte, n), api.ErrShort)
	}
	wantError(t, "nil", nil, api.ErrShort)
	wantError(t, "52 bytes of nothing", make([]byte, head), api.ErrMagic)
	wantError(t, "a header alone", raw(0x1000, nil, ""), api.ErrEntry)
	wantError(t, "a header of which the table is gone", good[:head], api.ErrHeader)
	full := append(slices.Clone(good), make([]byte, api.MaxFile-len(good))...)
	wantFile(t, "MaxFile bytes", full, api.File{Entry: 0x1000, Segs: []api.Seg{{At: 0x1000, Size: 300, Perm: 5}}})
	wantError(t, "one more", append(full, 0), api.ErrBig)
	wantError(t, "one more, of nothing", make([]byte, api.MaxFile+1), api.ErrBig)
	wantError(t, "many more", make([]byte, 5*api.MaxFile), api.ErrBig)
}

func TestP61Parse(t *testing.T) {
	rows := []row{
		{1, 150, 0x1000, 7, 4, 300, 5, 9},
		{1, 148, 0x2010, 8, 2, 2, 2, 0},
		{1, 148, 0x3000, 0, 0, 0x4000, 0, 4096},
	}
	want := api.File{Entry: 0x1128, Segs: []api.Seg{
		{At: 0x1000, Data: "cdef", Size: 300, Perm: 5}, {At: 0x2010, Data: "ab", Size: 2, Perm: 2}, {At: 0x3000, Size: 0x4000},
	}}
	wantFile(t, "three segments", raw(0x1128, rows, "abcdef"), want)
	slices.Reverse(rows)
	slices.Reverse(want.Segs)
	wantFile(t, "the other way round", raw(0x1128, rows, "abcdef"), want)
}

// Bytes that the chapter gives no meaning may be any.
func TestP61WhatPlaysNoPart(t *testing.T) {
	b := made(t, sample())
	free := [][2]int{{7, 16}, {32, 40}, {46, 52}}
	for r := range len(sample().Segs) {
		free = append(free, [2]int{head + r*line + 12, head + r*line + 16}, [2]int{head + r*line + 28, head + r*line + 32})
	}
	for _, x := range free {
		for at := x[0]; at < x[1]; at++ {
			wantFile(t, "a byte that plays no part", with8(b, at, ^b[at]), sample())
		}
	}
	for _, v := range []uint16{52, 53, 256, 0x7fff, 0x8000, 0xffff} {
		wantFile(t, "a header's size", with16(b, 40, v), sample())
	}
	wantFile(t, "bytes behind", append(slices.Clone(b), "more"...), sample())
}

func TestP61OneNumberWrong(t *testing.T) {
	b := made(t, sample())
	for at := range 4 {
		for v := range 256 {
			if byte(v) != b[at] {
				wantError(t, "the magic", with8(b, at, byte(v)), api.ErrMagic)
			}
		}
	}
	for at := 4; at < 7; at++ {
		for v := range 256 {
			if byte(v) != b[at] {
				wantError(t, "the class", with8(b, at, byte(v)), api.ErrClass)
			}
		}
	}
	for _, v := range []uint16{0, 1, 3, 0x0102, 0x0200, 0xffff} {
		wantError(t, "the 16 at 16", with16(b, 16, v), api.ErrHeader)
	}
	for _, v := range []uint16{0, 7, 9, 0x0108, 0x0800, 0xffff} {
		wantError(t, "the 16 at 18", with16(b, 18, v), api.ErrMachine)
	}
	for _, v := range []uint32{0, 2, 0x101, 0x10001, 0x1000000, 0x1000001, math.MaxUint32} {
		wantError(t, "the 32 at 20", with32(b, 20, v), api.ErrHeader)
	}
	for _, v := range []uint16{0, 1, 32, 50, 51} {
		wantError(t, "the 16 at 40", with16(b, 40, v), api.ErrHeader)
	}
	for _, v := range []uint16{0, 1, 31, 33, 0x2000, 0x2020, 0xffff} {
		wantError(t, "the 16 at 42", with16(b, 42, v), api.ErrHeader)
	}
	for _, v := range []uint16{9, 10, 0x0100, 0x0300, 0x8000, 0xffff} {
		wantError(t, "the 16 at 44", with16(b, 44, v), api.ErrHeader)
	}
}

// Each breaks one thing of a file that may be; all of them in the order in which the chapter names them.
func faults() []struct {
	what string
	how  func(b []byte) []byte
	want api.Errno
} {
	return []struct {
		what string
		how  func(b []byte) []byte
		want api.Errno
	}{
		{"too many bytes", func(b []byte) []byte { return append(slices.Clone(b), make([]byte, api.MaxFile+1-len(b))...) }, api.ErrBig},
		{"the magic", func(b []byte) []byte { return with8(b, 3, 'f') }, api.ErrMagic},
		{"the class", func(b []byte) []byte { return with8(b, 5, 1) }, api.ErrClass},
		{"no program", func(b []byte) []byte { return with16(b, 16, 3) }, api.ErrHeader},
		{"the machine", func(b []byte) []byte { return with16(b, 18, 3) }, api.ErrMachine},
		{"the version", func(b []byte) []byte { return with32(b, 20, 2) }, api.ErrHeader},
		{"the header's size", func(b []byte) []byte { return with16(b, 40, 51) }, api.ErrHeader},
		{"the row's size", func(b []byte) []byte { return with16(b, 42, 40) }, api.ErrHeader},
		{"the table's place", func(b []byte) []byte { return with32(b, 28, 0xfffffff0) }, api.ErrHeader},
		{"a segment's bytes", func(b []byte) []byte { return with32(b, head+2*line+4, 0xffff) }, api.ErrSegment},
		{"pages in common", func(b []byte) []byte { return with32(b, head+line+8, 0x1080) }, api.ErrOverlap},
		{"the entry", func(b []byte) []byte { return with32(b, 24, 0x1009) }, api.ErrEntry},
	}
}

func TestP61TwoThingsWrong(t *testing.T) {
	b := made(t, sample())
	l := faults()
	for i, x := range l {
		wantError(t, x.what, x.how(b), x.want)
		for _, y := range l[i+1:] {
			wantError(t, x.what+", then "+y.what, x.how(y.how(b)), x.want)
		}
	}
	for _, x := range l[1:] {
		if x.want != api.ErrSegment {
			wantError(t, "too short, with "+x.what, x.how(b)[:51], api.ErrShort)
		}
	}
	all := b
	for _, x := range slices.Backward(l) {
		all = x.how(all)
		wantError(t, "all from here on, first "+x.what, all, x.want)
	}
}

func TestP61HowManySegments(t *testing.T) {
	for _, entry := range []uint32{0, 4, 0x1000, 1, math.MaxUint32} {
		wantError(t, "no segment", raw(entry, nil, "abcd"), api.ErrEntry)
	}
	// Of a table without rows neither their size nor its place is asked for.
	none := raw(0, nil, "")
	for _, v := range []uint16{0, 1, 31, 33, 0xffff} {
		wantError(t, "no segment, another row's size", with16(none, 42, v), api.ErrEntry)
	}
	for _, v := range []uint32{0, 51, 53, 1000, top, math.MaxUint32} {
		wantError(t, "no segment, another place", with32(none, 28, v), api.ErrEntry)
	}
	// The second one is the first that may be run.
	var rows []row
	want := api.File{Entry: 0x1100}
	for i := range uint32(api.MaxParts) {
		rows = append(rows, row{kind: 1, at: 0x1000 + 0x100*i, size: 0x100, perm: i})
		want.Segs = append(want.Segs, api.Seg{At: 0x1000 + 0x100*i, Size: 0x100, Perm: int(i)})
		if i > 0 {
			wantFile(t, "so many segments", raw(want.Entry, rows, ""), want)
		}
	}
	rows = append(rows, row{kind: 1, at: 0x8000, size: 4})
	wantError(t, "one too many", raw(want.Entry, rows, ""), api.ErrHeader)
	// How many are counted is what the header says, whatever they are.
	rows[api.MaxParts].kind = 0
	wantError(t, "one too many, of another kind", raw(want.Entry, rows, ""), api.ErrHeader)
	wantFile(t, "one too many, not counted", with16(raw(want.Entry, rows, ""), 44, api.MaxParts), want)
}

func TestP61WhereTheTableIs(t *testing.T) {
	want := api.File{Entry: 0x1000, Segs: []api.Seg{{At: 0x1000, Size: 300, Perm: 5}}}
	b := raw(0x1000, []row{code()}, "")
	wantFile(t, "it ends where the file ends", b, want)
	wantError(t, "a byte of it is missing", b[:len(b)-1], api.ErrHeader)
	wantError(t, "it begins one byte on", with32(b, 28, head+1), api.ErrHeader)
	wantError(t, "it begins at the end", with32(b, 28, uint32(len(b))), api.ErrHeader)
	two := raw(0x1000, []row{code(), {}}, "")
	wantFile(t, "two rows, at the end", two, want)
	wantError(t, "two rows, a byte is missing", two[:len(two)-1], api.ErrHeader)
	wantError(t, "two rows, of which one is there", with16(b, 44, 2), api.ErrHeader)
	for _, v := range []uint32{top - 1, top, 0xffff0000, 0xffffffc0, 0xffffffe0, 0xffffffe1, 0xfffffff0, math.MaxUint32 - 1, math.MaxUint32} {
		wantError(t, "far behind", with32(b, 28, v), api.ErrHeader)
		wantError(t, "far behind, more of them", with32(with16(b, 44, 8), 28, v), api.ErrHeader)
	}
	// At any place, an odd one too.
	for _, gap := range []string{"a", "abc", strings.Repeat("x", 1000)} {
		moved := slices.Concat(b[:head], []byte(gap), b[head:])
		moved = with32(moved, 28, uint32(head+len(gap)))
		moved = with32(moved, head+len(gap)+4, 0)
		wantFile(t, "further on", moved, want)
		wantError(t, "further on, a byte is missing", moved[:len(moved)-1], api.ErrHeader)
	}
	// Within the header too: its bytes, read as a row of another kind.
	wantError(t, "the header itself", with32(b, 28, 0), api.ErrEntry)
	wantError(t, "partly the header", with32(b, 28, 20), api.ErrSegment)
}

func TestP61OtherKinds(t *testing.T) {
	junk := row{from: math.MaxUint32, at: math.MaxUint32, count: math.MaxUint32, size: 7, perm: math.MaxUint32}
	same := code()
	want := api.File{Entry: 0x1000, Segs: []api.Seg{{At: 0x1000, Size: 300, Perm: 5}}}
	for _, kind := range []uint32{0, 2, 3, 6, 0x101, 0x10000, 0x1000000, 0x1000001, 0x80000001, math.MaxUint32} {
		junk.kind, same.kind = kind, kind
		wantFile(t, "ahead", raw(0x1000, []row{junk, same, code()}, ""), want)
		wantFile(t, "behind", raw(0x1000, []row{code(), same, junk}, ""), want)
		wantFile(t, "all round", raw(0x1000, []row{junk, junk, junk, code(), same, same, same, junk}, ""), want)
		wantError(t, "no other", raw(0x1000, []row{same, junk}, ""), api.ErrEntry)
	}
	junk.kind = 1
	wantError(t, "of this kind", raw(0x1000, []row{code(), junk}, ""), api.ErrSegment)
}

func TestP61BytesOfASegment(t *testing.T) {
	const n = head + line
	seg := func(from, count, size uint32, behind string) []byte {
		return raw(0x1000, []row{{kind: 1, from: from, at: 0x1000, count: count, size: size, perm: 1}}, behind)
	}
	file := func(data string, size uint32) api.File {
		return api.File{Entry: 0x1000, Segs: []api.Seg{{At: 0x1000, Data: data, Size: size, Perm: 1}}}
	}
	wantFile(t, "none", seg(n, 0, 9, "abcd"), file("", 9))
	wantFile(t, "fewer than its size", seg(n, 3, 9, "abcd"), file("abc", 9))
	wantFile(t, "one fewer", seg(n, 4, 5, "abcd"), file("abcd", 5))
	wantFile(t, "as many as its size", seg(n, 4, 4, "abcd"), file("abcd", 4))
	wantError(t, "one more than its size", seg(n, 4, 3, "abcd"), api.ErrSegment)
	wantError(t, "more than its size, which is 0", seg(n, 1, 0, "abcd"), api.ErrSegment)
	// Where they end.
	wantFile(t, "up to the end", seg(n+1, 3, 9, "abcd"), file("bcd", 9))
	wantFile(t, "the last one", seg(n+3, 1, 9, "abcd"), file("d", 9))
	wantError(t, "one byte behind", seg(n+1, 4, 9, "abcd"), api.ErrSegment)
	wantError(t, "the one behind the last", seg(n+4, 1, 9, "abcd"), api.ErrSegment)
	wantError(t, "one byte more than all", seg(0, n+5, 0x1000, "abcd"), api.ErrSegment)
	wantFile(t, "none, at the end", seg(n+4, 0, 9, "abcd"), file("", 9))
	wantError(t, "none, one behind the end", seg(n+5, 0, 9, "abcd"), api.ErrSegment)
	wantError(t, "none, far behind", seg(math.MaxUint32, 0, 9, "abcd"), api.ErrSegment)
	// Sums that 32 bits do not hold.
	for _, x := range [][2]uint32{{math.MaxUint32, 1}, {math.MaxUint32, 2}, {1, math.MaxUint32}, {n, 1<<32 - n}, {n, math.MaxUint32}, {top, top}, {math.MaxUint32, math.MaxUint32}, {1<<32 - 4, 8}} {
		wantError(t, "far", seg(x[0], x[1], api.MaxFile, "abcd"), api.ErrSegment)
	}
	// Any bytes of the file: the header's, shared ones.
	wantFile(t, "the magic", seg(0, 4, 4, ""), file("\x7fELF", 4))
	whole := seg(0, n, n, "")
	wantFile(t, "the whole file", whole, file(string(whole), n))
	twice := raw(0x1000, []row{{kind: 1, from: 116, at: 0x1000, count: 3, size: 8, perm: 1}, {kind: 1, from: 117, at: 0x1100, count: 3, size: 8}}, "abcd")
	wantFile(t, "bytes of two", twice, api.File{Entry: 0x1000, Segs: []api.Seg{{At: 0x1000, Data: "abc", Size: 8, Perm: 1}, {At: 0x1100, Data: "bcd", Size: 8}}})
}

func TestP61SizeOfASegment(t *testing.T) {
	rows := func(at, size uint32) []row { return []row{code(), {kind: 1, at: at, size: size, perm: 2}} }
	one := api.File{Entry: 0x1000, Segs: []api.Seg{{At: 0x1000, Size: 300, Perm: 5}}}
	two := func(at, size uint32) api.File {
		return api.File{Entry: 0x1000, Segs: append(slices.Clone(one.Segs), api.Seg{At: at, Size: size, Perm: 2})}
	}
	for _, size := range []uint32{1, 2, 255, 256, 257, api.MaxFile - 1, api.MaxFile} {
		wantFile(t, "a size", raw(0x1000, rows(0x2000, size), ""), two(0x2000, size))
		wantFile(t, "up to the top", raw(0x1000, rows(top-size, size), ""), two(top-size, size))
		wantError(t, "one beyond", raw(0x1000, rows(top-size+1, size), ""), api.ErrSegment)
		wantError(t, "the top", raw(0x1000, rows(top, size), ""), api.ErrSegment)
		wantError(t, "beyond 32 bits", raw(0x1000, rows(math.MaxUint32, size), ""), api.ErrSegment)
		wantError(t, "to the end of 32 bits", raw(0x1000, rows(-size, size), ""), api.ErrSegment)
	}
	for _, size := range []uint32{api.MaxFile + 1, 2 * api.MaxFile, 1 << 16, top - 0x2000, top, math.MaxUint32 - 0x1fff, math.MaxUint32} {
		wantError(t, "too great", raw(0x1000, rows(0x2000, size), ""), api.ErrSegment)
		wantError(t, "too great, at 0", raw(0x1000, rows(0, size), ""), api.ErrSegment)
	}
	// One without size is left out, wherever it lies, but refused as others are.
	for _, at := range []uint32{0, 0x1000, 0x1100, 0x2000, top - 1, top} {
		wantFile(t, "no size", raw(0x1000, rows(at, 0), ""), one)
	}
	for _, at := range []uint32{top + 1, math.MaxUint32} {
		wantError(t, "no size, beyond the top", raw(0x1000, rows(at, 0), ""), api.ErrSegment)
	}
	l := rows(0x2000, 0)
	l[1].from = head + 2*line
	wantFile(t, "no size, at the end", raw(0x1000, l, ""), one)
	l[1].from++
	wantError(t, "no size, behind the end", raw(0x1000, l, ""), api.ErrSegment)
	wantError(t, "all without size", raw(0x1000, []row{{kind: 1, at: 0x1000, perm: 1}}, ""), api.ErrEntry)
}

// A later segment that may not be is told ahead of what Check says of earlier ones.
func TestP61SegmentsAheadOfCheck(t *testing.T) {
	bad := row{kind: 1, at: 0x5000, size: api.MaxFile + 1}
	wantError(t, "behind two that overlap", raw(0x1000, []row{code(), code(), bad}, ""), api.ErrSegment)
	wantError(t, "with no entry", raw(1, []row{bad, code()}, ""), api.ErrSegment)
	wantError(t, "two that overlap, with no entry", raw(1, []row{code(), code()}, ""), api.ErrOverlap)
	wantError(t, "no entry", raw(1, []row{code()}, ""), api.ErrEntry)
}

func TestP61PermsLowestThreeBits(t *testing.T) {
	for _, v := range []uint32{0, 1, 2, 3, 4, 5, 6, 7, 8, 9, 15, 16, 0xf0, 0x100, 0x12345678, top, top + 3, math.MaxUint32 - 7, math.MaxUint32 - 1, math.MaxUint32} {
		b := raw(0x1000, []row{code(), {kind: 1, at: 0x2000, size: 4, perm: v}}, "")
		wantFile(t, "a perm", b, api.File{Entry: 0x1000, Segs: []api.Seg{{At: 0x1000, Size: 300, Perm: 5}, {At: 0x2000, Size: 4, Perm: int(v % 8)}}})
	}
}

func TestP62HowManySegments(t *testing.T) {
	f := api.File{Entry: 0x1000}
	wantCheck(t, "none", f, api.ErrEntry)
	wantCheck(t, "zero", api.File{}, api.ErrEntry)
	for i := range api.MaxParts {
		f.Segs = append(f.Segs, api.Seg{At: 0x1000 + 0x100*uint32(i), Size: 256, Perm: 1})
		wantCheck(t, "some", f, api.OK)
	}
	f.Segs = append(f.Segs, api.Seg{At: 0x9000, Size: 4})
	wantCheck(t, "one too many", f, api.ErrBig)
	wantCheck(t, "many, all wrong", api.File{Entry: 1, Segs: make([]api.Seg, 1000)}, api.ErrBig)
	wantCheck(t, "as many, all wrong", api.File{Entry: 1, Segs: make([]api.Seg, api.MaxParts)}, api.ErrSegment)
}

func TestP62OneSegment(t *testing.T) {
	for _, x := range []struct {
		s    api.Seg
		want api.Errno
	}{
		{api.Seg{At: 0x2000, Size: 1}, api.OK},
		{api.Seg{At: 0x2000, Size: 0}, api.ErrSegment},
		{api.Seg{At: 0x2000, Size: 0, Data: "a"}, api.ErrSegment},
		{api.Seg{At: 0x2000, Size: api.MaxFile}, api.OK},
		{api.Seg{At: 0x2000, Size: api.MaxFile + 1}, api.ErrSegment},
		{api.Seg{At: 0x2000, Size: math.MaxUint32}, api.ErrSegment},
		{api.Seg{At: 0x2000, Size: 3, Data: "ab"}, api.OK},
		{api.Seg{At: 0x2000, Size: 3, Data: "abc"}, api.OK},
		{api.Seg{At: 0x2000, Size: 3, Data: "abcd"}, api.ErrSegment},
		{api.Seg{At: 0x2000, Size: api.MaxFile, Data: strings.Repeat("a", api.MaxFile+1)}, api.ErrSegment},
		{api.Seg{At: 0x2000, Size: 1, Data: strings.Repeat("a", 1<<16+1)}, api.ErrSegment},
		{api.Seg{At: top - 1, Size: 1}, api.OK},
		{api.Seg{At: top - 1, Size: 2}, api.ErrSegment},
		{api.Seg{At: top, Size: 1}, api.ErrSegment},
		{api.Seg{At: top - api.MaxFile, Size: api.MaxFile}, api.OK},
		{api.Seg{At: top - api.MaxFile + 1, Size: api.MaxFile}, api.ErrSegment},
		{api.Seg{At: math.MaxUint32, Size: 1}, api.ErrSegment},
		{api.Seg{At: math.MaxUint32, Size: 9}, api.ErrSegment},
		{api.Seg{At: 1<<32 - api.MaxFile, Size: api.MaxFile}, api.ErrSegment},
		{api.Seg{At: math.MaxUint32 - 0x100, Size: 0x200}, api.ErrSegment},
	} {
		f := api.File{Entry: 0x1000, Segs: []api.Seg{{At: 0x1000, Size: 4, Perm: 1}, x.s}}
		wantCheck(t, "behind another", f, x.want)
		slices.Reverse(f.Segs)
		wantCheck(t, "ahead of another", f, x.want)
	}
}

func TestP62Perms(t *testing.T) {
	for _, perm := range []int{0, 1, 2, 3, 4, 5, 6, 7} {
		wantCheck(t, "a perm", api.File{Entry: 0x1000, Segs: []api.Seg{{At: 0x1000, Size: 4, Perm: 1}, {At: 0x2000, Size: 4, Perm: perm}}}, api.OK)
	}
	for _, perm := range []int{-1, -2, -7, -8, 8, 9, 15, 16, 1 << 32, 1<<32 + 1, -1 << 32, math.MaxInt32, math.MinInt32, math.MaxInt, math.MinInt} {
		wantCheck(t, "none", api.File{Entry: 0x1000, Segs: []api.Seg{{At: 0x1000, Size: 4, Perm: 1}, {At: 0x2000, Size: 4, Perm: perm}}}, api.ErrSegment)
		wantCheck(t, "none, the first", api.File{Entry: 0x1000, Segs: []api.Seg{{At: 0x1000, Size: 4, Perm: perm}, {At: 0x2000, Size: 4, Perm: 1}}}, api.ErrSegment)
	}
}

func TestP62Overlap(t *testing.T) {
	far := api.Seg{At: 0x9000, Size: 4, Perm: 1}
	for _, x := range []struct {
		a, b, c, d uint32 // two segments: place and size, place and size
		want       api.Errno
	}{
		{0x1000, 4, 0x1000, 4, api.ErrOverlap}, {0x1000, 300, 0x1010, 4, api.ErrOverlap}, {0x1000, 0x1000, 0x1800, 4, api.ErrOverlap}, // one in the other
		{0x1000, 4, 0x1080, 4, api.ErrOverlap}, {0x1000, 1, 0x10ff, 1, api.ErrOverlap}, {0x1000, 0x80, 0x1080, 0x80, api.ErrOverlap}, // apart, on one page
		{0x1000, 0x100, 0x1100, 0x100, api.OK}, {0x1000, 0x100, 0x1100, 1, api.OK}, {0x10ff, 1, 0x1100, 1, api.OK}, // they touch
		{0x1000, 0x101, 0x1100, 0x100, api.ErrOverlap}, {0x1000, 0x101, 0x11ff, 1, api.ErrOverlap}, {0x1000, 0x101, 0x1200, 1, api.OK}, // one byte on the next page
		{0x10ff, 2, 0x1180, 4, api.ErrOverlap}, {0x10ff, 1, 0x1180, 4, api.OK}, {0x10fe, 2, 0x1100, 4, api.OK}, {0x10fe, 3, 0x11ff, 4, api.ErrOverlap},
		{0, 0x100, 0x100, 4, api.OK}, {0, 0x101, 0x100, 4, api.ErrOverlap}, {0, 4, top - 4, 4, api.OK}, // the first page, the last one
		{top - 0x200, 0x100, top - 0x100, 0x100, api.OK}, {top - 0x200, 0x101, top - 1, 1, api.ErrOverlap}, {top - 1, 1, top - 0x100, 1, api.ErrOverlap},
		{0, api.MaxFile, api.MaxFile, api.MaxFile, api.OK}, {0, api.MaxFile, api.MaxFile - 1, 1, api.ErrOverlap},
	} {
		s, o := api.Seg{At: x.a, Size: x.b}, api.Seg{At: x.c, Size: x.d, Perm: 7}
		for _, l := range [][]api.Seg{{far, s, o}, {far, o, s}, {s, far, o}, {o, far, s}, {s, o, far}, {o, s, far}} {
			wantCheck(t, "two segments", api.File{Entry: 0x9000, Segs: l}, x.want)
		}
	}
	// Any two of many.
	for i := range api.MaxParts {
		for j := range api.MaxParts {
			f := api.File{Entry: 0x1000}
			for k := range uint32(api.MaxParts) {
				f.Segs = append(f.Segs, api.Seg{At: 0x1000 + 0x200*k, Size: 4, Perm: 1})
			}
			want := api.OK
			if i != j {
				f.Segs[i].At = f.Segs[j].At + 0x80
				f.Entry = f.Segs[j].At
				want = api.ErrOverlap
			}
			wantCheck(t, "two of eight", f, want)
		}
	}
}

func TestP62Entry(t *testing.T) {
	f := api.File{Segs: []api.Seg{
		{At: 0x1000, Size: 0x100, Perm: api.Read | api.Write}, {At: 0x1100, Size: 0x80, Perm: api.Exec},
		{At: 0x1200, Size: 300, Perm: 7}, {At: 0x2002, Size: 5, Perm: 5}, {At: top - 8, Size: 8, Perm: 3},
	}}
	for _, x := range []struct {
		entry uint32
		want  api.Errno
	}{
		{0x1100, api.OK}, {0x1104, api.OK}, {0x117c, api.OK}, // the first word, the next one, the last one
		{0x10fc, api.ErrEntry}, {0x1180, api.ErrEntry}, {0x11fc, api.ErrEntry}, // ahead of it, behind it, on its page
		{0x1200, api.OK}, {0x1328, api.OK}, {0x132c, api.ErrEntry}, {0x1330, api.ErrEntry},
		{0x1000, api.ErrEntry}, {0x1080, api.ErrEntry}, // one without Exec
		{0x1101, api.ErrEntry}, {0x1102, api.ErrEntry}, {0x1103, api.ErrEntry}, {0x117d, api.ErrEntry}, {0x117f, api.ErrEntry}, // no multiples of four
		{0x2000, api.ErrEntry}, {0x2002, api.ErrEntry}, {0x2004, api.OK}, {0x2008, api.ErrEntry}, // it need not hold a whole word
		{top - 8, api.OK}, {top - 4, api.OK}, {top - 12, api.ErrEntry}, {top, api.ErrEntry}, // at the top
		{0, api.ErrEntry}, {1, api.ErrEntry}, {0x5000, api.ErrEntry}, {0xfffffffc, api.ErrEntry}, {math.MaxUint32, api.ErrEntry}, {0x80001100, api.ErrEntry}, // nowhere
	} {
		f.Entry = x.entry
		wantCheck(t, "an entry", f, x.want)
		if b, err := elf.Make(f); x.want == api.OK {
			wantFile(t, "an entry", b, f)
			if err != api.OK {
				t.Errorf("entry %#x: error %d", x.entry, err)
			}
		}
	}
	for perm := range 8 {
		want := api.ErrEntry
		if perm%2 == 1 {
			want = api.OK
		}
		wantCheck(t, "whatever else it may be", api.File{Segs: []api.Seg{{Size: 4, Perm: perm}}}, want)
	}
}

func TestP62TheFirstNamed(t *testing.T) {
	over := []api.Seg{{At: 0x1000, Size: 4, Perm: 1}, {At: 0x1000, Size: 4, Perm: 1}}
	wantCheck(t, "overlap, entry", api.File{Entry: 2, Segs: over}, api.ErrOverlap)
	for _, bad := range []api.Seg{{At: 0x3000}, {At: 0x3000, Size: 1, Data: "ab"}, {At: top, Size: 1}, {At: 0x3000, Size: 1, Perm: 8}, {At: 0x1000, Size: api.MaxFile + 1}} {
		wantCheck(t, "segment, overlap, entry", api.File{Entry: 2, Segs: append(slices.Clone(over), bad)}, api.ErrSegment)
		wantCheck(t, "segment, entry", api.File{Entry: 2, Segs: []api.Seg{bad}}, api.ErrSegment)
		wantCheck(t, "number, segment, overlap, entry", api.File{Entry: 2, Segs: append(slices.Repeat(over, 4), bad)}, api.ErrBig)
	}
}

// packed is a file's bytes as P6.3 tells them.
func packed(f api.File) []byte {
	var rows []row
	var data string
	from := uint32(head + line*len(f.Segs))
	for _, s := range f.Segs {
		n := uint32(len(s.Data))
		rows = append(rows, row{1, from + uint32(len(data)), s.At, s.At, n, s.Size, uint32(s.Perm), 4})
		data += s.Data
	}
	return raw(f.Entry, rows, data)
}

func TestP63ByteForByte(t *testing.T) {
	f := api.File{Entry: 0x01020304, Segs: []api.Seg{{At: 0x01020300, Data: "hello", Size: 0x1122, Perm: 7}}}
	want := "\x7fELF\x01\x02\x01" + "\x00\x00\x00\x00\x00\x00\x00\x00\x00" +
		"\x00\x02" + "\x00\x08" + "\x00\x00\x00\x01" + "\x01\x02\x03\x04" + "\x00\x00\x00\x34" + "\x00\x00\x00\x00" + "\x00\x00\x00\x00" +
		"\x00\x34" + "\x00\x20" + "\x00\x01" + "\x00\x00" + "\x00\x00" + "\x00\x00" +
		"\x00\x00\x00\x01" + "\x00\x00\x00\x54" + "\x01\x02\x03\x00" + "\x01\x02\x03\x00" + "\x00\x00\x00\x05" + "\x00\x00\x11\x22" + "\x00\x00\x00\x07" + "\x00\x00\x00\x04" +
		"hello"
	if b := made(t, f); string(b) != want {
		t.Errorf("%x, not %x", b, want)
	}
	if b := made(t, sample()); !bytes.Equal(b, packed(sample())) {
		t.Errorf("%x, not %x", b, packed(sample()))
	}
	// One without bytes says where they would stand.
	if b := made(t, sample()); binary.BigEndian.Uint32(b[head+line+4:]) != 160 || binary.BigEndian.Uint32(b[head+2*line+4:]) != 160 {
		t.Errorf("%x", b)
	}
}

// A reader of such files that is not ours finds the same.
func TestP63AnotherReader(t *testing.T) {
	f := sample()
	r, err := reader.NewFile(bytes.NewReader(made(t, f)))
	if err != nil {
		t.Fatal(err)
	}
	if r.Class != reader.ELFCLASS32 || r.Data != reader.ELFDATA2MSB || r.Type != reader.ET_EXEC || r.Machine != reader.EM_MIPS || r.Entry != uint64(f.Entry) || len(r.Progs) != len(f.Segs) {
		t.Fatal(r.FileHeader)
	}
	for i, p := range r.Progs {
		s := f.Segs[i]
		data := make([]byte, p.Filesz)
		if _, err := p.ReadAt(data, 0); len(data) > 0 && err != nil {
			t.Error(i, err)
		}
		if p.Type != reader.PT_LOAD || p.Vaddr != uint64(s.At) || p.Memsz != uint64(s.Size) || int(p.Flags) != s.Perm || string(data) != s.Data {
			t.Error(i, p.ProgHeader, data)
		}
	}
}

func TestP63AboveMaxFile(t *testing.T) {
	const room = api.MaxFile - head - line
	one := func(n int) api.File {
		return api.File{Entry: 0x1000, Segs: []api.Seg{{At: 0x1000, Data: strings.Repeat("x", n), Size: api.MaxFile, Perm: 1}}}
	}
	for _, n := range []int{0, 1, room - 1, room} {
		b := made(t, one(n))
		if len(b) != head+line+n || !bytes.Equal(b, packed(one(n))) {
			t.Errorf("%d bytes of data: %d", n, len(b))
		}
		wantFile(t, "what is made", b, one(n))
	}
	// Check has nothing against them.
	for _, n := range []int{room + 1, room + 2, api.MaxFile - 1, api.MaxFile} {
		if b, err := elf.Make(one(n)); len(b) != 0 || err != api.ErrBig || elf.Check(one(n)) != api.OK {
			t.Errorf("%d bytes of data: %d, error %d, Check's %d", n, len(b), err, elf.Check(one(n)))
		}
	}
	// Together, each of them far below.
	for _, more := range []int{0, 1} {
		f := api.File{Entry: 0x10000}
		left := api.MaxFile - head - line*api.MaxParts + more
		for i := range api.MaxParts {
			n := left / (api.MaxParts - i)
			left -= n
			f.Segs = append(f.Segs, api.Seg{At: 0x10000 * uint32(i+1), Data: strings.Repeat("y", n), Size: uint32(n), Perm: 5})
		}
		b, err := elf.Make(f)
		if more == 0 && (err != api.OK || len(b) != api.MaxFile) || more == 1 && (err != api.ErrBig || len(b) != 0) {
			t.Errorf("%d more: %d bytes, error %d", more, len(b), err)
		}
	}
}

// numbers is a source of numbers that are always the same ones.
func numbers(seed uint32) func(below int) int {
	v := seed
	return func(below int) int {
		v ^= v << 13
		v ^= v >> 17
		v ^= v << 5
		return int(v % uint32(below))
	}
}

// anyFile is a file that may be.
func anyFile(next func(below int) int) api.File {
	var f api.File
	at := uint32(next(4)) * api.PageSize
	for range 1 + next(api.MaxParts) {
		at += uint32(next(api.PageSize))
		data := make([]byte, next(40)*next(40))
		for i := range data {
			data[i] = byte(next(256))
		}
		s := api.Seg{At: at, Data: string(data), Size: uint32(max(1, len(data)+next(2)*next(600))), Perm: next(8)}
		f.Segs = append(f.Segs, s)
		at = (at+s.Size+api.PageSize-1)/api.PageSize*api.PageSize + uint32(next(3))*api.PageSize
	}
	s := &f.Segs[next(len(f.Segs))]
	s.Perm |= api.Exec
	s.Size = max(s.Size, 4)
	f.Entry = (s.At + 3) / 4 * 4
	return f
}

func TestP64WhatIsMadeIsParsed(t *testing.T) {
	next := numbers(2463534242)
	seen := [api.MaxParts + 1]int{}
	for range 3000 {
		f := anyFile(next)
		if elf.Check(f) != api.OK {
			continue
		}
		b := made(t, f)
		if !bytes.Equal(b, packed(f)) {
			t.Fatalf("%.200v: %x", f, b)
		}
		wantFile(t, "what is made", b, f)
		again := made(t, f)
		if !bytes.Equal(again, b) {
			t.Fatal("made twice, it is not the same")
		}
		seen[len(f.Segs)]++
	}
	for n, count := range seen {
		if n > 0 && count < 20 {
			t.Errorf("only %d files of %d segments", count, n)
		}
	}
	for _, f := range []api.File{
		sample(),
		{Entry: 0, Segs: []api.Seg{{At: 0, Data: "a", Size: 1, Perm: 1}}},
		{Entry: top - 4, Segs: []api.Seg{{At: top - 1, Size: 1, Perm: 6}, {At: top - api.PageSize - 1, Size: 1, Perm: 6}, {At: top - api.MaxFile, Size: 4, Perm: 1}}},
		{Entry: top - api.MaxFile, Segs: []api.Seg{{At: top - api.MaxFile, Size: api.MaxFile, Perm: 7}}},
	} {
		if b, err := elf.Make(f); err == api.OK {
			wantFile(t, "what is made", b, f)
		} else if elf.Check(f) != err {
			t.Errorf("%v: error %d, Check's %d", f, err, elf.Check(f))
		}
	}
}

// told is P6.2, by numbers that nothing wraps and pages one by one.
func told(f api.File) api.Errno {
	if len(f.Segs) > 8 {
		return api.ErrBig
	}
	for _, s := range f.Segs {
		at, size := int64(s.At), int64(s.Size)
		if size < 1 || size > 16384 || int64(len(s.Data)) > size || at+size > 1<<31 || s.Perm < 0 || s.Perm > 7 {
			return api.ErrSegment
		}
	}
	owner := map[int64]int{}
	for i, s := range f.Segs {
		for at := int64(s.At); at < int64(s.At)+int64(s.Size); at++ {
			if was, taken := owner[at/256]; taken && was != i {
				return api.ErrOverlap
			}
			owner[at/256] = i
		}
	}
	for _, s := range f.Segs {
		entry, at := int64(f.Entry), int64(s.At)
		if entry%4 == 0 && s.Perm%2 == 1 && entry >= at && entry < at+int64(s.Size) {
			return api.OK
		}
	}
	return api.ErrEntry
}

// headTold is the first three points of P6.1.
func headTold(b []byte) api.Errno {
	if len(b) > 16384 {
		return api.ErrBig
	}
	if len(b) < 52 {
		return api.ErrShort
	}
	n16 := func(at int) int64 { return int64(b[at])<<8 + int64(b[at+1]) }
	n32 := func(at int) int64 { return n16(at)<<16 + n16(at+2) }
	if !bytes.HasPrefix(b, []byte{0x7f, 0x45, 0x4c, 0x46}) {
		return api.ErrMagic
	}
	if !bytes.Equal(b[4:7], []byte{1, 2, 1}) {
		return api.ErrClass
	}
	if n16(16) != 2 {
		return api.ErrHeader
	}
	if n16(18) != 8 {
		return api.ErrMachine
	}
	if n32(20) != 1 || n16(40) < 52 || n16(44) > 8 || n16(44) > 0 && (n16(42) != 32 || n32(28)+32*n16(44) > int64(len(b))) {
		return api.ErrHeader
	}
	return api.OK
}

// parsed is P6.1.
func parsed(b []byte) (api.File, api.Errno) {
	if err := headTold(b); err != api.OK {
		return api.File{}, err
	}
	f := api.File{Entry: binary.BigEndian.Uint32(b[24:])}
	for i := range int(binary.BigEndian.Uint16(b[44:])) {
		var v [8]int64
		for k := range v {
			v[k] = int64(binary.BigEndian.Uint32(b[int(binary.BigEndian.Uint32(b[28:]))+32*i+4*k:]))
		}
		if v[0] != 1 {
			continue
		}
		if v[1]+v[4] > int64(len(b)) || v[4] > v[5] || v[5] > 16384 || v[2]+v[5] > 1<<31 {
			return api.File{}, api.ErrSegment
		}
		if v[5] > 0 {
			f.Segs = append(f.Segs, api.Seg{At: uint32(v[2]), Data: string(b[v[1] : v[1]+v[4]]), Size: uint32(v[5]), Perm: int(v[6] % 8)})
		}
	}
	if err := told(f); err != api.OK {
		return api.File{}, err
	}
	return f, api.OK
}

// spoil changes some of a file's numbers, most of them near what they were.
func spoil(b []byte, next func(below int) int) []byte {
	c := slices.Clone(b)
	for range 1 + next(3) {
		at := next(min(len(c), head+4*line))
		switch next(6) {
		case 0:
			c[at] = byte(next(256))
		case 1:
			c[at] ^= 1 << next(8)
		case 2:
			c[at] += byte(next(5) - 2)
		case 3:
			at = min(at/4*4, len(c)-4)
			near := []uint32{0, 1, 4, uint32(len(c)), uint32(len(c) + 1), top, math.MaxUint32, api.MaxFile, 0x100}
			binary.BigEndian.PutUint32(c[at:], near[next(len(near))])
		case 4:
			at = min(at/4*4, len(c)-4)
			binary.BigEndian.PutUint32(c[at:], binary.BigEndian.Uint32(c[at:])+uint32(next(600)-300))
		case 5:
			c = c[:max(head, len(c)-next(4))]
		}
	}
	return c
}

func TestP61AnyBytes(t *testing.T) {
	next := numbers(88172645)
	seen := map[api.Errno]int{}
	for range 40000 {
		b := spoil(packed(anyFile(next)), next)
		before := slices.Clone(b)
		f, err := elf.Parse(b)
		want, wantErr := parsed(b)
		if err != wantErr || !sameFile(f, want) {
			t.Fatalf("%x: error %d, %.200v, not %d, %.200v", b[:min(len(b), head+8*line)], err, f, wantErr, want)
		}
		if !bytes.Equal(b, before) {
			t.Fatal("the bytes have turned")
		}
		// What is parsed may be; its bytes may lie over one another, so that it may be too great to be made.
		if err == api.OK {
			if made, e := elf.Make(f); elf.Check(f) != api.OK || e == api.OK && !bytes.Equal(made, packed(f)) {
				t.Fatalf("%.200v: Check's error %d", f, elf.Check(f))
			}
		}
		seen[err]++
	}
	for _, err := range []api.Errno{api.OK, api.ErrMagic, api.ErrClass, api.ErrMachine, api.ErrHeader, api.ErrSegment, api.ErrOverlap, api.ErrEntry} {
		if seen[err] < 100 {
			t.Errorf("only %d files with error %d", seen[err], err)
		}
	}
}

func TestP62AnyFile(t *testing.T) {
	next := numbers(362436069)
	seen := map[api.Errno]int{}
	places := []uint32{0, 1, 255, 256, 0x1000, top - 1, top, top - api.PageSize, top - api.MaxFile, math.MaxUint32, math.MaxUint32 - 255}
	sizes := []uint32{0, 1, 255, 256, 257, api.MaxFile, api.MaxFile + 1, top, math.MaxUint32}
	for range 10000 {
		f := anyFile(next)
		s := &f.Segs[next(len(f.Segs))]
		switch next(10) {
		case 0:
			s.At = places[next(len(places))]
		case 1:
			s.Size = sizes[next(len(sizes))]
		case 2:
			s.Perm = next(20) - 6
		case 3:
			s.At += uint32(next(600) - 300)
		case 4:
			s.Size += uint32(next(600) - 300)
		case 5:
			f.Entry += uint32(next(64) - 32)
		case 6:
			f.Entry = s.At + uint32(next(2))*s.Size
		case 7:
			f.Segs = append(f.Segs, *s)
		}
		if got, want := elf.Check(f), told(f); got != want {
			t.Fatalf("%.300v: %d, not %d", f, got, want)
		}
		seen[told(f)]++
	}
	for _, err := range []api.Errno{api.OK, api.ErrBig, api.ErrSegment, api.ErrOverlap, api.ErrEntry} {
		if seen[err] < 50 {
			t.Errorf("only %d files with error %d", seen[err], err)
		}
	}
}

func TestR1AnyArguments(t *testing.T) {
	edges := []uint32{0, 1, 2, 3, 4, 255, 256, api.MaxFile, api.MaxFile + 1, top - 1, top, top + 1, math.MaxUint32 - 1, math.MaxUint32}
	for _, at := range edges {
		for _, size := range edges {
			for _, perm := range []int{math.MinInt, -1, 0, 1, 7, 8, math.MaxInt} {
				for _, entry := range edges {
					f := api.File{Entry: entry, Segs: []api.Seg{{At: at, Size: size, Perm: perm, Data: "abc"}, {At: size, Size: at, Perm: 1}}}
					if elf.Check(f) != told(f) {
						t.Fatalf("%v: %d, not %d", f, elf.Check(f), told(f))
					}
					elf.Make(f)
				}
			}
		}
	}
	b := packed(sample())
	for at := range b {
		for v := range 256 {
			elf.Parse(with8(b, at, byte(v)))
		}
	}
	for n := range b {
		elf.Parse(b[:n])
		elf.Parse(b[n:])
	}
	for at := 0; at+4 <= len(b); at++ {
		for _, v := range edges {
			elf.Parse(with32(b, at, v))
		}
	}
}

func TestR2ZeroBesideAnError(t *testing.T) {
	for _, x := range faults() {
		if f, err := elf.Parse(x.how(packed(sample()))); err == api.OK || f.Entry != 0 || f.Segs != nil {
			t.Errorf("%s: error %d, %v", x.what, err, f)
		}
	}
	if b, err := elf.Make(api.File{Entry: 4}); err != api.ErrEntry || b != nil {
		t.Errorf("%x, error %d", b, err)
	}
}

func TestR3WhatIsHandedInStays(t *testing.T) {
	spare := api.Seg{At: 9, Data: "spare", Size: 99, Perm: 3}
	f := sample()
	f.Segs = append(f.Segs, spare)[:len(f.Segs)]
	elf.Check(f)
	b := made(t, f)
	if !sameFile(f, sample()) || f.Segs[:len(f.Segs)+1][len(f.Segs)] != spare {
		t.Errorf("handed in: %v", f)
	}
	room := append(slices.Clone(b), "room"...)
	whole := slices.Clone(room)
	wantFile(t, "with room behind", room[:len(b)], sample())
	if !bytes.Equal(room, whole) {
		t.Error("the bytes that were handed in have turned")
	}
	// What stands in the spare room is none of the file's.
	wantError(t, "bytes in the room", room[:len(b)-1], api.ErrSegment)
	wantError(t, "a table in the room", room[:head+line], api.ErrHeader)
}

func TestR3AnswersAreNewMemory(t *testing.T) {
	f := sample()
	b, again := made(t, f), made(t, f)
	b = b[:cap(b)]
	for i := range b {
		b[i] ^= 0xff
	}
	if !bytes.Equal(again, packed(f)) || !bytes.Equal(made(t, f), again) || !sameFile(f, sample()) {
		t.Error("two answers of Make share memory")
	}
	p, _ := elf.Parse(again)
	q, _ := elf.Parse(again)
	// Neither the bytes nor the other answer turn what was parsed.
	clear(again)
	l := q.Segs[:cap(q.Segs)]
	for i := range l {
		l[i] = api.Seg{At: 1, Data: "x", Size: 1, Perm: 9}
	}
	if !sameFile(p, sample()) {
		t.Errorf("what was parsed has turned: %v", p)
	}
	// Nor does what was handed to Make, when it is changed.
	b = made(t, f)
	f.Segs[0] = api.Seg{}
	if !bytes.Equal(b, packed(sample())) {
		t.Error("what was made has turned")
	}
}

func TestR4TheSameEachTime(t *testing.T) {
	b := packed(sample())
	for _, x := range faults() {
		wantFile(t, "ahead of a refused call", b, sample())
		wantError(t, x.what, x.how(b), x.want)
		wantFile(t, "behind a refused call", b, sample())
		if again := made(t, sample()); !bytes.Equal(again, b) {
			t.Errorf("behind %s: %x", x.what, again)
		}
	}
}
