package bits_test

import (
	"math"
	"testing"

	"calque/bits"
)

const (
	top = 1 << 31
	all = math.MaxUint32
)

// samples are the edges of the numbers, every single bit with its neighbours, and some that are spread out (always the same ones).
func samples() []uint32 {
	l := []uint32{0, 1, 2, 3, 7, 10, all, all - 1, all - 6, top, top - 1, top - 2, top + 1, 0x89abcdef, 0x01020304, 0x55555555, 0xaaaaaaaa, 46340, 46341, 65535, 65536}
	for k := range 32 {
		l = append(l, 1<<k, 1<<k-1, ^uint32(1<<k), -uint32(1<<k))
	}
	v := uint32(2463534242)
	for range 40 {
		v ^= v << 13
		v ^= v >> 17
		v ^= v << 5
		l = append(l, v)
	}
	return l
}

// counts are amounts in and far out of every bound of the layer.
func counts() []int {
	l := []int{math.MinInt, math.MinInt + 1, math.MinInt32, -64, -33, -32, -31, -1, 63, 64, 65, math.MaxInt32, math.MaxUint32, 1 << 32, 1<<32 + 1, math.MaxInt - 1, math.MaxInt}
	for k := range 36 {
		l = append(l, k)
	}
	return l
}

func bit(v uint32, k int) uint32 {
	if v/(1<<k)%2 == 1 {
		return 1
	}
	return 0
}

func TestP11Field(t *testing.T) {
	const w = 0x89abcdef
	for _, x := range []struct {
		at, n int
		want  uint32
	}{
		{0, 4, 0xf}, {4, 8, 0xde}, {28, 4, 8}, {26, 6, 0x22}, {0, 16, 0xcdef}, {16, 16, 0x89ab}, // ordinary
		{0, 0, 0}, {0, 32, w}, {31, 1, 1}, {31, 0, 0}, {1, 31, w >> 1}, // at the bounds
		{-1, 4, 0xf}, {math.MinInt, 4, 0xf}, {32, 1, 1}, {32, 0, 0}, {math.MaxInt, 9, 1}, // at is cut
		{0, -1, 0}, {0, math.MinInt, 0}, {0, 33, w}, {0, math.MaxInt, w}, {28, 5, 8}, {1, 32, w >> 1}, // n is cut
		{math.MinInt, math.MaxInt, w}, {math.MaxInt, math.MinInt, 0},
	} {
		if got := bits.Field(w, x.at, x.n); got != x.want {
			t.Errorf("Field(%x, %d, %d): %x, not %x", w, x.at, x.n, got, x.want)
		}
	}
}

func TestP11FieldBitByBit(t *testing.T) {
	for _, w := range samples() {
		for _, at := range counts() {
			for _, n := range counts() {
				from := min(max(at, 0), 31)
				var want uint32
				for k := range min(max(n, 0), 32-from) {
					want += bit(w, from+k) << k
				}
				if got := bits.Field(w, at, n); got != want {
					t.Fatalf("Field(%x, %d, %d): %x, not %x", w, at, n, got, want)
				}
			}
		}
	}
}

func TestP11Sext(t *testing.T) {
	for _, x := range []struct {
		v    uint32
		n    int
		want uint32
	}{
		{0x80, 8, 0xffffff80}, {0x7f, 8, 0x7f}, {0x1ff, 8, all}, {0x100, 8, 0}, {0x8000, 16, 0xffff8000}, {0xffff7fff, 16, 0x7fff}, // ordinary
		{1, 1, all}, {2, 1, 0}, {top, 32, top}, {top - 1, 31, all}, {top, 31, 0}, // at the bounds
		{1, 0, all}, {2, 0, 0}, {3, -5, all}, {1, math.MinInt, all}, {top, 33, top}, {0x89abcdef, math.MaxInt, 0x89abcdef}, // n is cut
	} {
		if got := bits.Sext(x.v, x.n); got != x.want {
			t.Errorf("Sext(%x, %d): %x, not %x", x.v, x.n, got, x.want)
		}
	}
	for _, v := range samples() {
		for _, n := range counts() {
			c := min(max(n, 1), 32)
			var want uint32
			for k := range 32 {
				want += bit(v, min(k, c-1)) << k
			}
			if got := bits.Sext(v, n); got != want {
				t.Fatalf("Sext(%x, %d): %x, not %x", v, n, got, want)
			}
		}
	}
}

func TestP11Shifts(t *testing.T) {
	const w = 0x89abcdef
	for _, x := range []struct{ v, n, shl, shr, sar uint32 }{
		{w, 0, w, w, w}, {w, 4, 0x9abcdef0, 0x089abcde, 0xf89abcde}, {0x12345678, 8, 0x34567800, 0x00123456, 0x00123456},
		{w, 31, top, 1, all}, {1, 31, top, 0, 0}, {top, 31, 0, 1, all}, {top - 1, 30, 0xc0000000, 1, 1},
		{w, 32, w, w, w}, {w, 33, w << 1 & all, w >> 1, w>>1 | top}, {w, 36, 0x9abcdef0, 0x089abcde, 0xf89abcde}, {w, 63, top, 1, all}, {w, 64, w, w, w}, {w, top, w, w, w}, {w, all, top, 1, all},
	} {
		if l, r, a := bits.Shl(x.v, x.n), bits.Shr(x.v, x.n), bits.Sar(x.v, x.n); l != x.shl || r != x.shr || a != x.sar {
			t.Errorf("%x by %d: %x %x %x, not %x %x %x", x.v, x.n, l, r, a, x.shl, x.shr, x.sar)
		}
	}
}

func TestP11ShiftsBitByBit(t *testing.T) {
	for _, v := range samples() {
		for _, n := range samples() {
			by := int(n % 32)
			var shl, shr, sar uint32
			for k := range 32 {
				if k >= by {
					shl += bit(v, k-by) << k
				}
				if k+by < 32 {
					shr += bit(v, k+by) << k
				}
				sar += bit(v, min(k+by, 31)) << k
			}
			if bits.Shl(v, n) != shl || bits.Shr(v, n) != shr || bits.Sar(v, n) != sar {
				t.Fatalf("%x by %x: %x %x %x, not %x %x %x", v, n, bits.Shl(v, n), bits.Shr(v, n), bits.Sar(v, n), shl, shr, sar)
			}
		}
	}
}

func outside(n int64) bool { return n < math.MinInt32 || n > math.MaxInt32 }

func TestP12SumsAndDifferences(t *testing.T) {
	for _, x := range []struct {
		a, b, sum uint32
		over      bool
		diff      uint32
		under     bool
	}{
		{1, 2, 3, false, all, false}, {5, 3, 8, false, 2, false}, {0, 0, 0, false, 0, false},
		{top - 1, 1, top, true, top - 2, false}, {top - 1, 0, top - 1, false, top - 1, false}, {top - 1, all, top - 2, false, top, true}, {top - 1, top - 1, all - 1, true, 0, false},
		{top, 1, top + 1, false, top - 1, true}, {top, 0, top, false, top, false}, {top, all, top - 1, true, top + 1, false}, {top, top, 0, true, 0, false},
		{0, top, top, false, top, true}, {all, top, top - 1, true, top - 1, false}, {all, 1, 0, false, all - 1, false}, {all, all, all - 1, false, 0, false},
	} {
		s, o := bits.AddOver(x.a, x.b)
		d, u := bits.SubOver(x.a, x.b)
		if s != x.sum || o != x.over || d != x.diff || u != x.under {
			t.Errorf("%x and %x: %x %t, %x %t", x.a, x.b, s, o, d, u)
		}
	}
	for _, a := range samples() {
		for _, b := range samples() {
			p, q := int64(int32(a)), int64(int32(b))
			if s, o := bits.AddOver(a, b); s != uint32(p+q) || o != outside(p+q) {
				t.Fatalf("AddOver(%x, %x): %x %t", a, b, s, o)
			}
			if d, u := bits.SubOver(a, b); d != uint32(p-q) || u != outside(p-q) {
				t.Fatalf("SubOver(%x, %x): %x %t", a, b, d, u)
			}
		}
	}
}

func TestP12Mul(t *testing.T) {
	for _, x := range []struct {
		a, b   uint32
		signed bool
		hi, lo uint32
	}{
		{3, 5, true, 0, 15}, {3, 5, false, 0, 15}, {0, all, true, 0, 0}, {0, all, false, 0, 0},
		{all, 5, true, all, all - 4}, {all, 5, false, 4, all - 4}, {5, all, true, all, all - 4}, {5, all, false, 4, all - 4},
		{all, all, true, 0, 1}, {all, all, false, all - 1, 1}, {65536, 65536, true, 1, 0},
		{top, 2, true, all, 0}, {top, 2, false, 1, 0}, {top, top, true, 1 << 30, 0}, {top, top, false, 1 << 30, 0}, {top, all, true, 0, top}, {top, all, false, top - 1, top},
		{top - 1, top - 1, true, 0x3fffffff, 1}, {top, top - 1, true, 0xc0000000, top},
	} {
		if hi, lo := bits.Mul(x.a, x.b, x.signed); hi != x.hi || lo != x.lo {
			t.Errorf("Mul(%x, %x, %t): %x %x, not %x %x", x.a, x.b, x.signed, hi, lo, x.hi, x.lo)
		}
	}
}

func TestP12MulHalfByHalf(t *testing.T) {
	for _, a := range samples() {
		for _, b := range samples() {
			// By halves of a, so that no step here has 64 bits to lose.
			low := uint64(a%65536) * uint64(b)
			high := uint64(a/65536) * uint64(b)
			lo := uint32(low + high<<16)
			hi := uint32((low>>16 + high) >> 16)
			if h, l := bits.Mul(a, b, false); h != hi || l != lo {
				t.Fatalf("Mul(%x, %x, false): %x %x, not %x %x", a, b, h, l, hi, lo)
			}
			// A number with a sign is 2^32 less where its highest bit is set.
			if a >= top {
				hi -= b
			}
			if b >= top {
				hi -= a
			}
			if h, l := bits.Mul(a, b, true); h != hi || l != lo {
				t.Fatalf("Mul(%x, %x, true): %x %x, not %x %x", a, b, h, l, hi, lo)
			}
		}
	}
}

func neg(n uint32) uint32 { return -n }

func TestP12Div(t *testing.T) {
	for _, x := range []struct {
		a, b     uint32
		signed   bool
		quo, rem uint32
	}{
		{7, 2, false, 3, 1}, {neg(7), 2, false, 0x7ffffffc, 1}, {7, neg(2), false, 0, 7}, {all, all, false, 1, 0}, {top, all, false, 0, top}, {0, 5, false, 0, 0},
		{7, 2, true, 3, 1}, {neg(7), 2, true, neg(3), neg(1)}, {7, neg(2), true, neg(3), 1}, {neg(7), neg(2), true, 3, neg(1)}, {1, neg(2), true, 0, 1}, {neg(1), 2, true, 0, neg(1)}, {0, neg(5), true, 0, 0},
		{7, 0, true, 0, 0}, {7, 0, false, 0, 0}, {neg(7), 0, true, 0, 0}, {0, 0, true, 0, 0}, {0, 0, false, 0, 0}, {top, 0, true, 0, 0}, {all, 0, false, 0, 0},
		{top, all, true, top, 0}, {top, 1, true, top, 0}, {top, top, true, 1, 0}, {top, top - 1, true, neg(1), neg(1)}, {top - 1, top, true, 0, top - 1}, {top - 1, all, true, top + 1, 0},
	} {
		if quo, rem := bits.Div(x.a, x.b, x.signed); quo != x.quo || rem != x.rem {
			t.Errorf("Div(%x, %x, %t): %x %x, not %x %x", x.a, x.b, x.signed, quo, rem, x.quo, x.rem)
		}
	}
}

func size(n int64) int64 { return max(n, -n) }

func number(v uint32, signed bool) int64 {
	if signed {
		return int64(int32(v))
	}
	return int64(v)
}

// What is left is less than the divisor, and of a's sign; with the law of P1.4 this fixes both answers.
func TestP12DivWhatIsLeft(t *testing.T) {
	for _, signed := range []bool{false, true} {
		for _, a := range samples() {
			for _, b := range samples() {
				if b == 0 {
					continue
				}
				quo, rem := bits.Div(a, b, signed)
				left := number(rem, signed)
				if size(left) >= size(number(b, signed)) || left < 0 && number(a, signed) >= 0 || left > 0 && number(a, signed) <= 0 {
					t.Fatalf("Div(%x, %x, %t): %x, and %x left", a, b, signed, quo, rem)
				}
			}
		}
	}
}

func TestP13ZerosAndOnes(t *testing.T) {
	for v, want := range map[uint32][2]uint32{
		0: {32, 0}, all: {0, 32}, 1: {31, 0}, all - 1: {0, 31}, top: {0, 1}, top - 1: {1, 0},
		0x00ffffff: {8, 0}, 0xff7fffff: {0, 8}, 0x00010000: {15, 0}, 0xfffe0000: {0, 15},
	} {
		if bits.Zeros(v) != want[0] || bits.Ones(v) != want[1] {
			t.Errorf("%x: %d %d, not %d", v, bits.Zeros(v), bits.Ones(v), want)
		}
	}
	for _, v := range samples() {
		var run uint32
		for run < 32 && bit(v, 31-int(run)) == bit(v, 31) {
			run++
		}
		want := [2]uint32{run, 0}
		if v >= top {
			want = [2]uint32{0, run}
		}
		if bits.Zeros(v) != want[0] || bits.Ones(v) != want[1] {
			t.Fatalf("%x: %d %d, not %d", v, bits.Zeros(v), bits.Ones(v), want)
		}
	}
}

func TestP13PutAndWord(t *testing.T) {
	if b := bits.Put(0x01020304); b != [4]byte{1, 2, 3, 4} {
		t.Error(b)
	}
	if b := bits.Put(0xfffe8001); b != [4]byte{0xff, 0xfe, 0x80, 1} {
		t.Error(b)
	}
	for _, v := range samples() {
		b := bits.Put(v)
		if got := bits.Word(b[:], 0); got != v {
			t.Fatalf("%x is back as %x", v, got)
		}
	}
	for i := range 256 {
		b := []byte{byte(i), byte(i + 1), byte(i + 2), byte(i + 3)}
		if got := bits.Put(bits.Word(b, 0)); got != [4]byte(b) {
			t.Fatalf("%x is back as %x", b, got)
		}
	}
}

func TestP13WordOfBytesThatAreNotThere(t *testing.T) {
	b := []byte{0x81, 2, 3, 4, 5, 0xf6}
	for at, want := range map[int]uint32{
		0: 0x81020304, 1: 0x02030405, 2: 0x030405f6, 3: 0x0405f600, 4: 0x05f60000, 5: 0xf6000000, 6: 0, 7: 0,
		-1: 0x00810203, -2: 0x00008102, -3: 0x81, -4: 0, -5: 0,
		math.MinInt: 0, math.MinInt + 1: 0, math.MinInt + 3: 0, math.MaxInt: 0, math.MaxInt - 1: 0, math.MaxInt - 3: 0, 1 << 32: 0, -1 << 32: 0,
	} {
		if got := bits.Word(b, at); got != want {
			t.Errorf("at %d: %x, not %x", at, got, want)
		}
	}
	for _, at := range counts() {
		if bits.Word(nil, at) != 0 || bits.Word([]byte{}, at) != 0 {
			t.Errorf("at %d of nothing: %x", at, bits.Word(nil, at))
		}
	}
	if got := bits.Word([]byte{9}, -3); got != 9 {
		t.Errorf("one byte at the end: %x", got)
	}
}

// What is behind a list's end is not there, be there room for it or not.
func TestP13WordLeavesItsListAlone(t *testing.T) {
	b := []byte{1, 2, 3, 4, 5, 6}
	if got := bits.Word(b[:2], 0); got != 0x01020000 {
		t.Errorf("spare room was read: %x", got)
	}
	bits.Word(b[:2], -2)
	bits.Word(b, 4)
	if [6]byte(b) != [6]byte{1, 2, 3, 4, 5, 6} {
		t.Errorf("the list was changed: %x", b)
	}
}

// fits tells whether a product is a number of 32 bits.
func fits(hi, lo uint32, signed bool) bool {
	if signed && lo >= top {
		return hi == all
	}
	return hi == 0
}

func TestP14ProductAndQuotientUndoOneAnother(t *testing.T) {
	for _, signed := range []bool{false, true} {
		for _, a := range samples() {
			for _, b := range samples() {
				if b == 0 {
					continue
				}
				quo, rem := bits.Div(a, b, signed)
				if _, lo := bits.Mul(quo, b, signed); lo+rem != a {
					t.Fatalf("%x by %x (%t): %x, and %x left", a, b, signed, quo, rem)
				}
				hi, lo := bits.Mul(a, b, signed)
				if !fits(hi, lo, signed) {
					continue
				}
				if quo, rem := bits.Div(lo, b, signed); quo != a || rem != 0 {
					t.Fatalf("%x times %x (%t) is %x; by %x: %x, and %x left", a, b, signed, lo, b, quo, rem)
				}
			}
		}
	}
}

// Every call ends without a panic, whatever it is given, and answers the same when asked again (R1, R4).
func TestR1AnyArguments(t *testing.T) {
	b := []byte{1, 2, 3}
	for _, v := range samples() {
		for _, n := range counts() {
			if bits.Field(v, n, -n) != bits.Field(v, n, -n) || bits.Sext(v, n) != bits.Sext(v, n) || bits.Word(b, n) != bits.Word(b, n) {
				t.Fatal(v, n)
			}
		}
		for _, u := range samples() {
			for _, signed := range []bool{false, true} {
				h1, l1 := bits.Mul(v, u, signed)
				h2, l2 := bits.Mul(v, u, signed)
				q1, r1 := bits.Div(v, u, signed)
				q2, r2 := bits.Div(v, u, signed)
				if h1 != h2 || l1 != l2 || q1 != q2 || r1 != r2 {
					t.Fatal(v, u, signed)
				}
			}
		}
	}
}
