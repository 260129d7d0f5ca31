package crc_test

import (
	"hash/crc32"
	"math"
	"os"
	"os/exec"
	"slices"
	"sync"
	"testing"

	"calque/crc"
)

// plain is the sum as P2.1 tells it, bit by bit, begun with hand.
func plain(hand uint32, b []byte) uint32 {
	for _, x := range b {
		low := byte(hand) ^ x
		hand = hand/256*256 + uint32(low)
		for range 8 {
			odd := hand%2 == 1
			hand /= 2
			if odd {
				hand ^= 0xedb88320
			}
		}
	}
	return math.MaxUint32 - hand
}

func plainOf(b []byte) uint32 { return plain(math.MaxUint32, b) }

// spread answers numbers that are spread out, always the same ones.
func spread() func() uint32 {
	v := uint32(2463534242)
	return func() uint32 {
		v ^= v << 13
		v ^= v >> 17
		v ^= v << 5
		return v
	}
}

func someBytes(n int) []byte {
	next := spread()
	b := make([]byte, n)
	for i := range b {
		b[i] = byte(next() >> 11)
	}
	return b
}

// lists are bytes of many lengths: none, zeros, ones, each byte alone, spread ones, a file's greatest length.
func lists() [][]byte {
	l := [][]byte{nil, {}, []byte("123456789"), []byte("a"), []byte("The quick brown fox jumps over the lazy dog")}
	for n := range 20 {
		l = append(l, make([]byte, n), slices.Repeat([]byte{255}, n), someBytes(n))
	}
	for x := range 256 {
		l = append(l, []byte{byte(x)}, []byte{0, byte(x), 0})
	}
	return append(l, someBytes(255), someBytes(256), someBytes(257), someBytes(1<<14), make([]byte, 1<<17))
}

func sums() []uint32 {
	l := []uint32{0, 1, 2, 255, 256, 1 << 31, 1<<31 - 1, math.MaxUint32, math.MaxUint32 - 1, 0xedb88320, ^uint32(0xedb88320), 0xcbf43926, 0xd202ef8d}
	for k := range 32 {
		l = append(l, 1<<k, ^uint32(1<<k))
	}
	next := spread()
	for range 50 {
		l = append(l, next())
	}
	return l
}

func TestP21Of(t *testing.T) {
	for range 2 { // the first use, and one behind it
		for _, x := range []struct {
			text string
			want uint32
		}{
			{"123456789", 0xcbf43926}, {"", 0}, {"a", 0xe8b7be43}, {"\x00", 0xd202ef8d}, {"\xff", 0xff000000},
			{"\x00\x00\x00\x00", 0x2144df1c}, {"\xff\xff\xff\xff", 0xffffffff}, {"abc", 0x352441c2},
		} {
			if got := crc.Of([]byte(x.text)); got != x.want {
				t.Errorf("Of %q: %x, not %x", x.text, got, x.want)
			}
		}
	}
	if got := crc.Of(nil); got != 0 {
		t.Errorf("Of nil: %x", got)
	}
}

func TestP21OfBitByBit(t *testing.T) {
	for _, b := range lists() {
		if got, want := crc.Of(b), plainOf(b); got != want || got != crc32.ChecksumIEEE(b) {
			t.Fatalf("Of %x: %x, not %x", b, got, want)
		}
	}
}

func TestP21MoreOfAnySum(t *testing.T) {
	for _, sum := range sums() {
		for _, b := range [][]byte{nil, {}, {0}, {1}, {128}, {255}, []byte("123456789"), someBytes(70)} {
			want := plain(math.MaxUint32-sum, b)
			if got := crc.More(sum, b); got != want || got != crc32.Update(sum, crc32.IEEETable, b) {
				t.Fatalf("More %x, %x: %x, not %x", sum, b, got, want)
			}
		}
		if got := crc.More(sum, nil); got != sum {
			t.Fatalf("More %x and nothing: %x", sum, got)
		}
	}
}

// fourOf are the four bytes whose sum is sum: the eight shifts of each byte, undone from the end on.
func fourOf(sum uint32) []byte {
	hand := ^sum
	for range 32 {
		if hand >= 1<<31 {
			hand = (hand^0xedb88320)<<1 | 1
		} else {
			hand <<= 1
		}
	}
	hand = ^hand
	return []byte{byte(hand), byte(hand >> 8), byte(hand >> 16), byte(hand >> 24)}
}

func TestP21MoreOfBytesThatHaveTheSum(t *testing.T) {
	for _, sum := range sums() {
		four := fourOf(sum)
		if got := crc.Of(four); got != sum {
			t.Fatalf("Of %x: %x, not %x", four, got, sum)
		}
		for _, b := range [][]byte{nil, {7}, []byte("123456789"), someBytes(33)} {
			whole := append(slices.Clone(four), b...)
			if got, want := crc.More(sum, b), crc.Of(whole); got != want {
				t.Fatalf("More %x, %x: %x, not %x", sum, b, got, want)
			}
		}
	}
}

func bytesOf(l []uint32) []byte {
	var b []byte
	for _, v := range l {
		b = append(b, byte(v>>24), byte(v>>16), byte(v>>8), byte(v))
	}
	return b
}

func TestP21Words(t *testing.T) {
	if got, want := crc.Words([]uint32{0x31323334, 0x35363738}), crc.Of([]byte("12345678")); got != want || got != 0x9ae0daaf {
		t.Errorf("Words: %x, not %x", got, want)
	}
	if crc.Words(nil) != 0 || crc.Words([]uint32{}) != 0 {
		t.Error("Words of none")
	}
	if got, want := crc.Words([]uint32{1}), crc.Of([]byte{0, 0, 0, 1}); got != want || got == crc.Of([]byte{1, 0, 0, 0}) {
		t.Errorf("Words 1: %x, not %x", got, want)
	}
	for _, v := range sums() {
		if got, want := crc.Words([]uint32{v}), crc.Of(bytesOf([]uint32{v})); got != want {
			t.Fatalf("Words %x: %x, not %x", v, got, want)
		}
	}
	next := spread()
	var l []uint32
	for range 300 {
		if got, want := crc.Words(l), plainOf(bytesOf(l)); got != want {
			t.Fatalf("Words of %d: %x, not %x", len(l), got, want)
		}
		l = append(l, next())
	}
}

func TestP22CutAnywhere(t *testing.T) {
	for _, b := range [][]byte{nil, {0}, {255}, []byte("123456789"), make([]byte, 40), someBytes(120)} {
		want := plainOf(b)
		for i := range len(b) + 1 {
			head := crc.Of(b[:i])
			if got := crc.More(head, b[i:]); got != want {
				t.Fatalf("%x cut at %d: %x, not %x", b, i, got, want)
			}
			for k := i; k <= len(b); k++ {
				if got := crc.More(crc.More(head, b[i:k]), b[k:]); got != want {
					t.Fatalf("%x cut at %d and %d: %x, not %x", b, i, k, got, want)
				}
			}
		}
		sum := crc.Of(nil)
		for _, x := range b {
			sum = crc.More(sum, []byte{x})
		}
		if sum != want {
			t.Fatalf("%x byte by byte: %x, not %x", b, sum, want)
		}
	}
}

// turned is b with the bits of mask turned, its lowest one at bit at (in a byte from the lowest one on); and whether that turned any.
func turned(b []byte, at int, mask uint32) ([]byte, bool) {
	c := slices.Clone(b)
	for k := range 32 {
		if i := at + k; mask>>k&1 == 1 && i < len(c)*8 {
			c[i/8] ^= 1 << (i % 8)
		}
	}
	return c, !slices.Equal(b, c)
}

func TestP22NearBytesHaveUnlikeSums(t *testing.T) {
	masks := append(sums(), 0x04c11db7, 0xdb710641, 0x82608edb, 0xc0000000, 0xffff, 0xff000000, 0x80000001)
	for _, b := range [][]byte{{0}, {1, 2}, make([]byte, 4), make([]byte, 9), []byte("123456789"), slices.Repeat([]byte{255}, 11), someBytes(24), someBytes(64)} {
		sum := crc.Of(b)
		for at := range len(b) * 8 {
			for _, mask := range masks {
				if c, other := turned(b, at, mask); other && crc.Of(c) == sum {
					t.Fatalf("%x and %x have one sum, %x", b, c, sum)
				}
			}
		}
	}
}

func TestP22OneBitFarOff(t *testing.T) {
	b := someBytes(1 << 14)
	sum := crc.Of(b)
	for at := 0; at < len(b)*8; at += 997 {
		c, _ := turned(b, at, 1)
		if crc.Of(c) == sum {
			t.Fatalf("bit %d turned: %x all the same", at, sum)
		}
	}
}

func TestP22ShortBytesHaveSumsOfTheirOwn(t *testing.T) {
	for n := range 3 {
		seen := map[uint32]int{}
		for v := range 1 << (8 * n) {
			b := []byte{byte(v), byte(v >> 8)}[:n]
			sum := crc.Of(b)
			if w, ok := seen[sum]; ok {
				t.Fatalf("%x and %x, of %d bytes: %x", v, w, n, sum)
			}
			seen[sum] = v
		}
	}
}

func TestR1AnyArguments(t *testing.T) {
	for _, sum := range sums() {
		for _, b := range lists()[:100] {
			crc.More(sum, b)
		}
	}
	crc.Of(nil)
	crc.Of(make([]byte, 1<<20))
	crc.Words(nil)
	crc.Words(sums())
	crc.Words(make([]uint32, 1<<18))
}

func TestR3ListsStayAsTheyAre(t *testing.T) {
	b, l := someBytes(100), sums()
	keptB, keptL := slices.Clone(b), slices.Clone(l)
	crc.Of(b[:50])
	crc.More(9, b[50:])
	crc.Words(l)
	if !slices.Equal(b, keptB) || !slices.Equal(l, keptL) {
		t.Error("a list was changed")
	}
}

func TestR4CallsAtOneTime(t *testing.T) {
	b, l := someBytes(200), sums()
	wantB, wantL := plainOf(b), plainOf(bytesOf(l))
	var all sync.WaitGroup
	for range 8 {
		all.Go(func() {
			for range 50 {
				if crc.Of(b) != wantB || crc.More(crc.Of(b[:99]), b[99:]) != wantB || crc.Words(l) != wantL {
					t.Error("another sum beside other calls")
				}
			}
		})
	}
	all.Wait()
}

// Each call may be the first one, with the table made or not: every test here is run in a process of its own.
func TestR4AnyCallFirst(t *testing.T) {
	for _, name := range []string{"TestP21Of", "TestP21MoreOfAnySum", "TestP21Words", "TestR4CallsAtOneTime"} {
		out, err := exec.Command(os.Args[0], "-test.run=^"+name+"$").CombinedOutput()
		if err != nil {
			t.Errorf("%s alone: %v: %s", name, err, out)
		}
	}
}
