package vint_test

import (
	"bytes"
	"encoding/binary"
	"math"
	"slices"
	"strings"
	"testing"

	"calque/api"
	"calque/vint"
)

// plain is a number as P3.1 tells it: so many bytes as its bits need, by division.
func plain(v uint64) []byte {
	count := 1
	for rest := v / 128; rest > 0; rest /= 128 {
		count++
	}
	b := make([]byte, count)
	for i := range b {
		b[i] = byte(v % 128)
		if i < count-1 {
			b[i] += 128
		}
		v /= 128
	}
	return b
}

// numbers are 0, those at which one byte more is needed with their neighbours, single bits, the greatest one, and spread ones.
func numbers() []uint64 {
	l := []uint64{0, 1, 2, 126, 127, 128, 129, 255, 256, 300, math.MaxUint32, math.MaxInt64, math.MaxUint64 - 1, math.MaxUint64}
	for k := range 64 {
		l = append(l, 1<<k-1, 1<<k, 1<<k+1)
	}
	v := uint64(88172645463325252)
	for k := range 200 {
		v ^= v << 13
		v ^= v >> 7
		v ^= v << 17
		l = append(l, v, v>>(k%64))
	}
	return l
}

// places are arguments of any kind for a list of so many bytes.
func places(size int) []int {
	l := []int{math.MinInt, math.MinInt + 1, math.MinInt32, -1 << 16, -2, -1, size + 1, size + 2, size + 10, 1 << 16, math.MaxInt32, math.MaxInt - 10, math.MaxInt - 1, math.MaxInt}
	for at := range size + 1 {
		l = append(l, at)
	}
	return l
}

func wantNumber(t *testing.T, b []byte, at int, want uint64, wantEnd int) {
	t.Helper()
	if v, end, e := vint.Get(b, at); v != want || end != wantEnd || e != api.OK {
		t.Errorf("Get %x at %d: %d, %d, %v, not %d, %d", b, at, v, end, e, want, wantEnd)
	}
}

func wantNoNumber(t *testing.T, b []byte, at int, want api.Errno) {
	t.Helper()
	if v, end, e := vint.Get(b, at); v != 0 || end != 0 || e != want {
		t.Errorf("Get %x at %d: %d, %d, %v, not 0, 0, %v", b, at, v, end, e, want)
	}
}

func wantText(t *testing.T, b []byte, at, most int, want string, wantEnd int) {
	t.Helper()
	if s, end, e := vint.GetText(b, at, most); s != want || end != wantEnd || e != api.OK {
		t.Errorf("GetText %.40x at %d, most %d: %.40q, %d, %v, not %.40q, %d", b, at, most, s, end, e, want, wantEnd)
	}
}

func wantNoText(t *testing.T, b []byte, at, most int, want api.Errno) {
	t.Helper()
	if s, end, e := vint.GetText(b, at, most); s != "" || end != 0 || e != want {
		t.Errorf("GetText %.40x at %d, most %d: %.40q, %d, %v, not empty, 0, %v", b, at, most, s, end, e, want)
	}
}

func TestP31Put(t *testing.T) {
	for _, x := range []struct {
		v    uint64
		want string
	}{
		{300, "\xac\x02"}, {0, "\x00"}, {1, "\x01"}, {127, "\x7f"}, {128, "\x80\x01"}, {16383, "\xff\x7f"}, {16384, "\x80\x80\x01"},
		{1<<63 - 1, "\xff\xff\xff\xff\xff\xff\xff\xff\x7f"}, {1 << 63, "\x80\x80\x80\x80\x80\x80\x80\x80\x80\x01"},
		{math.MaxUint64, "\xff\xff\xff\xff\xff\xff\xff\xff\xff\x01"},
	} {
		if got := vint.Put(nil, x.v); string(got) != x.want {
			t.Errorf("Put %d: %x, not %x", x.v, got, x.want)
		}
	}
	for _, v := range numbers() {
		want := plain(v)
		if got := vint.Put(nil, v); !bytes.Equal(got, want) || !bytes.Equal(got, binary.AppendUvarint(nil, v)) {
			t.Errorf("Put %d: %x, not %x", v, got, want)
		}
	}
}

func TestP31PutAsFewBytesAsCanBe(t *testing.T) {
	for count := 1; count <= 10; count++ {
		first := uint64(1) << (7 * (count - 1))
		if count == 1 {
			first = 0
		}
		last := uint64(math.MaxUint64)
		if count < 10 {
			last = 1<<(7*count) - 1
		}
		for _, v := range []uint64{first, first + 1, last - 1, last} {
			if got := vint.Put(nil, v); len(got) != count {
				t.Errorf("Put %d: %x, not %d bytes", v, got, count)
			}
		}
	}
}

func TestP31PutBehind(t *testing.T) {
	for _, head := range []string{"", "q", "\x80", "\xac\x02", strings.Repeat("\xff", 300)} {
		for _, v := range numbers() {
			if got, want := vint.Put([]byte(head), v), head+string(plain(v)); string(got) != want {
				t.Fatalf("Put %d behind %x: %x, not %x", v, head, got, want)
			}
		}
	}
}

func TestP31Get(t *testing.T) {
	wantNumber(t, []byte("\xac\x02"), 0, 300, 2)
	wantNumber(t, []byte{0}, 0, 0, 1)
	wantNumber(t, []byte{0, 0}, 0, 0, 1)
	wantNumber(t, []byte{0, 0}, 1, 0, 2)
	for _, v := range numbers() {
		for _, head := range []string{"", "q", "\x80", "\xff\xff\xff\xff\xff\xff\xff\xff\xff\xff\xff"} {
			for _, tail := range []string{"", "\x00", "\x01", "\x80", "\xff\xff\xff\xff\xff\xff\xff\xff\xff\xff\xff"} {
				b := vint.Put([]byte(head), v)
				wantNumber(t, append(b, tail...), len(head), v, len(b))
			}
		}
	}
}

func TestP31OneBehindTheOther(t *testing.T) {
	var b []byte
	for _, v := range numbers() {
		b = vint.Put(b, v)
	}
	at := 0
	for i, want := range numbers() {
		v, end, e := vint.Get(b, at)
		if v != want || end != at+len(plain(want)) || e != api.OK {
			t.Fatalf("number %d, at %d: %d, %d, %v, not %d", i, at, v, end, e, want)
		}
		at = end
	}
	if at != len(b) {
		t.Errorf("at the end: %d, not %d", at, len(b))
	}
	wantNoNumber(t, b, at, api.ErrShort)
}

func TestP31GetAtNoPlace(t *testing.T) {
	for _, b := range [][]byte{nil, {}, {0}, {5, 6}, {128}, {128, 0}, bytes.Repeat([]byte{255}, 20)} {
		for _, at := range places(len(b)) {
			if at < 0 || at > len(b) {
				wantNoNumber(t, b, at, api.ErrArg)
			}
		}
		wantNoNumber(t, b, len(b), api.ErrShort)
	}
	// What stands behind the end of a list, in its spare room, is not in it.
	room := []byte{1, 2, 3, 4}[:2]
	wantNoNumber(t, room, 2, api.ErrShort)
	wantNoNumber(t, room, 3, api.ErrArg)
}

func TestP31GetShort(t *testing.T) {
	for _, v := range numbers() {
		b := vint.Put([]byte("qq"), v)
		for end := 2; end < len(b); end++ {
			wantNoNumber(t, b[:end], 2, api.ErrShort)
		}
	}
	for count := range 10 {
		wantNoNumber(t, bytes.Repeat([]byte{128}, count), 0, api.ErrShort)
		wantNoNumber(t, bytes.Repeat([]byte{255}, count), 0, api.ErrShort)
	}
}

func TestP31GetTenthByte(t *testing.T) {
	for _, fill := range []byte{128, 129, 200, 255} {
		nine := bytes.Repeat([]byte{fill}, 9)
		for x := range 256 {
			ten := append(slices.Clone(nine), byte(x))
			for _, b := range [][]byte{ten, append(slices.Clone(ten), 0), append(slices.Clone(ten), 1, 1), append(slices.Clone(ten), 128)} {
				if x != 1 {
					wantNoNumber(t, b, 0, api.ErrBytes)
					continue
				}
				want := uint64(1) << 63
				for i := range 9 {
					want += uint64(fill-128) << (7 * i)
				}
				wantNumber(t, b, 0, want, 10)
			}
		}
	}
}

func TestP31GetLastByteZero(t *testing.T) {
	for count := 1; count <= 9; count++ {
		for _, fill := range []byte{128, 129, 255} {
			b := append(bytes.Repeat([]byte{fill}, count), 0)
			wantNoNumber(t, b, 0, api.ErrBytes)
			wantNoNumber(t, append(b, 1), 0, api.ErrBytes)
			wantNumber(t, b, count, 0, count+1)
		}
	}
}

// Every number has one form alone: what is got is what would have been put.
func TestP31GetAllShortBytes(t *testing.T) {
	for v := range 1 << 24 {
		b := [3]byte{byte(v), byte(v >> 8), byte(v >> 16)}
		x, end, e := vint.Get(b[:], 0)
		switch {
		case e == api.OK:
			if x >= 1<<21 || !bytes.Equal(plain(x), b[:end]) {
				t.Fatalf("%x: %d, %d", b, x, end)
			}
		case x != 0 || end != 0:
			t.Fatalf("%x: %d, %d beside %v", b, x, end, e)
		case e == api.ErrShort:
			if b[0] < 128 || b[1] < 128 || b[2] < 128 {
				t.Fatalf("%x: %v", b, e)
			}
		case e != api.ErrBytes || b[0] < 128 || b[1] != 0 && (b[1] < 128 || b[2] != 0):
			t.Fatalf("%x: %v", b, e)
		}
	}
}

// texts are empty, short and long ones, and ones whose bytes are no letters.
func texts() []string {
	l := []string{"", "a", "clq1", "\x00", "\x80", "\xff\xff", "\x80\x00", "straße, 日本"}
	for _, size := range []int{126, 127, 128, 129, 200, 16383, 16384, 70000} {
		l = append(l, strings.Repeat("x\xffy", size)[:size])
	}
	return l
}

func TestP32PutText(t *testing.T) {
	for _, x := range []struct{ text, want string }{{"", "\x00"}, {"a", "\x01a"}, {"abc", "\x03abc"}, {"ß", "\x02\xc3\x9f"}, {"\xff", "\x01\xff"}} {
		if got := vint.PutText(nil, x.text); string(got) != x.want {
			t.Errorf("PutText %q: %x, not %x", x.text, got, x.want)
		}
	}
	for _, s := range texts() {
		for _, head := range []string{"", "q", "\x80\x80"} {
			if got, want := vint.PutText([]byte(head), s), head+string(plain(uint64(len(s))))+s; string(got) != want {
				t.Errorf("PutText %.40q behind %x: %.40x, not %.40x", s, head, got, want)
			}
		}
	}
}

func TestP32GetText(t *testing.T) {
	for _, s := range texts() {
		for _, head := range []string{"", "q", "\x80\x80"} {
			for _, tail := range []string{"", "\x00", "more"} {
				b := vint.PutText([]byte(head), s)
				for _, most := range []int{len(s), len(s) + 1, math.MaxInt32, math.MaxInt} {
					wantText(t, append(b, tail...), len(head), most, s, len(b))
				}
			}
		}
	}
}

func TestP32OneBehindTheOther(t *testing.T) {
	var b []byte
	for i, s := range texts() {
		b = vint.Put(vint.PutText(b, s), uint64(i)*1000)
	}
	at := 0
	for i, want := range texts() {
		s, behind, e := vint.GetText(b, at, len(want))
		v, end, f := vint.Get(b, behind)
		if s != want || e != api.OK || v != uint64(i)*1000 || f != api.OK {
			t.Fatalf("text %d, at %d: %.40q, %v, %d, %v", i, at, s, e, v, f)
		}
		at = end
	}
	if at != len(b) {
		t.Errorf("at the end: %d, not %d", at, len(b))
	}
}

func TestP32TextAboveMost(t *testing.T) {
	for _, s := range texts() {
		b := vint.PutText([]byte("q"), s)
		for _, most := range []int{len(s) - 1, len(s) - 2, -1, -2, math.MinInt32, math.MinInt} {
			if most >= len(s) {
				continue
			}
			wantNoText(t, b, 1, most, api.ErrBig)
			// Above most and cut: what is above most is named first.
			wantNoText(t, b[:1+len(plain(uint64(len(s))))], 1, most, api.ErrBig)
		}
	}
}

func TestP32TextCutAnywhere(t *testing.T) {
	for _, s := range texts()[:13] {
		b := vint.PutText([]byte("q"), s)
		for end := 1; end < len(b); end++ {
			wantNoText(t, b[:end], 1, len(s), api.ErrShort)
			wantNoText(t, b[:end], 1, math.MaxInt, api.ErrShort)
		}
	}
	room := []byte("\x03abcd")
	wantNoText(t, room[:3], 0, 9, api.ErrShort)
}

func TestP32LengthTooGreatForAnyBytes(t *testing.T) {
	for _, size := range []uint64{1 << 20, math.MaxInt32, 1 << 32, math.MaxInt - 1, math.MaxInt, 1 << 63, 1<<63 + 1, math.MaxUint64 - 1, math.MaxUint64} {
		for _, tail := range []string{"", "a", "abcdefgh"} {
			b := append(vint.Put([]byte("qq"), size), tail...)
			for _, most := range []int{math.MinInt, -1, 0, 1, 8, math.MaxInt32, math.MaxInt - 1, math.MaxInt} {
				want := api.ErrShort
				if most < 0 || size > uint64(most) {
					want = api.ErrBig
				}
				wantNoText(t, b, 2, most, want)
			}
		}
	}
}

func TestP32NumbersErrorsFirst(t *testing.T) {
	for _, most := range []int{math.MinInt, -1, 0, 5, math.MaxInt} {
		for _, b := range [][]byte{nil, {}, {0}, {1, 'a'}, {128, 0}} {
			for _, at := range places(len(b)) {
				if at < 0 || at > len(b) {
					wantNoText(t, b, at, most, api.ErrArg)
				}
			}
			wantNoText(t, b, len(b), most, api.ErrShort)
		}
		wantNoText(t, []byte{128}, 0, most, api.ErrShort)
		wantNoText(t, []byte{128, 0}, 0, most, api.ErrBytes)
		wantNoText(t, []byte{129, 0, 'a'}, 0, most, api.ErrBytes)
		wantNoText(t, []byte("\xff\xff\xff\xff\xff\xff\xff\xff\xff\x02"), 0, most, api.ErrBytes)
		wantNoText(t, bytes.Repeat([]byte{255}, 12), 0, most, api.ErrBytes)
	}
}

func TestR1AnyArguments(t *testing.T) {
	lists := [][]byte{nil, {}, {0}, {1}, {127}, {128}, {255}, {2, 'a'}, {128, 0}, bytes.Repeat([]byte{255}, 9), bytes.Repeat([]byte{255}, 10), bytes.Repeat([]byte{128}, 30), vint.Put(nil, math.MaxUint64), vint.Put(nil, math.MaxInt)}
	for _, b := range lists {
		for _, at := range places(len(b)) {
			vint.Get(b, at)
			for _, most := range places(3) {
				vint.GetText(b, at, most)
			}
		}
		for _, v := range numbers() {
			vint.Put(b, v)
		}
		for _, s := range texts() {
			vint.PutText(b, s)
		}
	}
}

// puts are all calls that put behind, with what they put.
func puts() map[string]func([]byte) []byte {
	return map[string]func([]byte) []byte{
		"Put 0":        func(b []byte) []byte { return vint.Put(b, 0) },
		"Put 300":      func(b []byte) []byte { return vint.Put(b, 300) },
		"Put most":     func(b []byte) []byte { return vint.Put(b, math.MaxUint64) },
		"PutText none": func(b []byte) []byte { return vint.PutText(b, "") },
		"PutText abc":  func(b []byte) []byte { return vint.PutText(b, "abc") },
		"PutText long": func(b []byte) []byte { return vint.PutText(b, strings.Repeat("z", 150)) },
	}
}

func TestR3SpareRoomStaysAsItWas(t *testing.T) {
	for name, put := range puts() {
		for _, used := range []int{0, 1, 5} {
			whole := bytes.Repeat([]byte{0xee}, 400)
			first := put(whole[:used])
			kept := slices.Clone(first)
			if !bytes.Equal(whole, bytes.Repeat([]byte{0xee}, 400)) {
				t.Errorf("%s behind %d: written to the list or its spare room", name, used)
			}
			// What was answered stays, whatever its owner writes into the spare room, or puts behind once more.
			for i := used; i < len(whole); i++ {
				whole[i] = 0x11
			}
			vint.PutText(vint.Put(whole[:used], 77), "other")
			if !bytes.Equal(first, kept) {
				t.Errorf("%s behind %d: the answer is in the spare room", name, used)
			}
		}
	}
}

func TestR3TwoBehindOneAnswer(t *testing.T) {
	for name, put := range puts() {
		start := put([]byte("ab"))
		kept := slices.Clone(start)
		one, two := vint.PutText(start, "one"), vint.PutText(start, "two")
		if !bytes.Equal(start, kept) || string(one) != string(kept)+"\x03one" || string(two) != string(kept)+"\x03two" {
			t.Errorf("%s: %x, then %x and %x", name, start, one, two)
		}
	}
}

func TestR3ListsStayAsTheyAre(t *testing.T) {
	b := vint.PutText(vint.Put(nil, 300), "abc")
	kept := slices.Clone(b)
	vint.Get(b, 0)
	s, _, _ := vint.GetText(b, 2, 3)
	vint.Get(b, len(b))
	vint.GetText(b, 2, 2)
	if !bytes.Equal(b, kept) {
		t.Error("a list was changed")
	}
	for i := range b {
		b[i] = 'q'
	}
	if s != "abc" {
		t.Errorf("the text follows the list: %q", s)
	}
}
