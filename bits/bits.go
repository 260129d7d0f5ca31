// Package bits: numbers of 32 bits.
package bits

import "math/bits"

const (
	width     = 32        // bits of a number
	shiftMask = width - 1 // of a shift's amount, what counts
	signBit   = 1 << (width - 1)
	byteBits  = 8
	wordBytes = width / byteBits
)

// cut is v, brought between low and high.
func cut(v, low, high int) int {
	if v < low {
		return low
	}
	if v > high {
		return high
	}
	return v
}

// Field is bits of a number.
func Field(w uint32, at, n int) uint32 {
	at = cut(at, 0, width-1)
	n = cut(n, 0, width-at)
	// With n = 32 the shift leaves 0, and the mask is all ones.
	mask := uint32(1)<<n - 1
	return w >> at & mask
}

// Sext is a number's lowest bits, with their sign.
func Sext(v uint32, n int) uint32 {
	above := width - cut(n, 1, width)
	return uint32(int32(v<<above) >> above)
}

// Shl shifts up.
func Shl(v, n uint32) uint32 { return v << (n & shiftMask) }

// Shr shifts down, with 0.
func Shr(v, n uint32) uint32 { return v >> (n & shiftMask) }

// Sar shifts down, with the sign.
func Sar(v, n uint32) uint32 { return uint32(int32(v) >> (n & shiftMask)) }

// AddOver is the sum, and whether it is too great.
func AddOver(a, b uint32) (uint32, bool) {
	sum := a + b
	// Only a sum whose sign is neither a's nor b's has left the range.
	return sum, (a^sum)&(b^sum)&signBit != 0
}

// SubOver is the difference, and whether it is too great.
func SubOver(a, b uint32) (uint32, bool) {
	diff := a - b
	// Only where the signs differ, and a's is lost, has it left the range.
	return diff, (a^b)&(a^diff)&signBit != 0
}

// Mul is a product.
func Mul(a, b uint32, signed bool) (hi, lo uint32) {
	product := uint64(a) * uint64(b)
	if signed {
		product = uint64(int64(int32(a)) * int64(int32(b)))
	}
	return uint32(product >> width), uint32(product)
}

// Div is a quotient, and what is left.
func Div(a, b uint32, signed bool) (quo, rem uint32) {
	if b == 0 {
		return 0, 0
	}
	if !signed {
		return a / b, a % b
	}
	// The language itself answers -2^31, 0 for -2^31 by -1: the bits that are asked for.
	x, y := int32(a), int32(b)
	return uint32(x / y), uint32(x % y)
}

// Zeros is how many bits 0 stand at the top.
func Zeros(v uint32) uint32 { return uint32(bits.LeadingZeros32(v)) }

// Ones is how many bits 1 stand at the top.
func Ones(v uint32) uint32 { return Zeros(^v) }

// Word is four bytes as a number.
func Word(b []byte, at int) uint32 {
	var four [wordBytes]byte
	for i := range four {
		// A place past the greatest int wraps to a negative one, where there is no byte either.
		if k := at + i; k >= 0 && k < len(b) {
			four[i] = b[k]
		}
	}
	var v uint32
	for _, x := range four {
		v = v<<byteBits | uint32(x)
	}
	return v
}

// Put is a number's four bytes.
func Put(v uint32) [4]byte {
	var four [wordBytes]byte
	for i := range four {
		four[i] = byte(v >> (width - byteBits*(i+1)))
	}
	return four
}
