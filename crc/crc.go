// Package crc is layer 1: see shared/doc/01-crc.md.
package crc

// A check is a polynomial over bits, with its bits turned: the highest bit is
// that of x to the 0th, and each bit below it is one power more.
const (
	polynomial uint32 = 0xedb88320
	one        uint32 = 1 << 31
	byteOn     uint32 = one >> 8 // x to the 8th: what one more byte does to a check
)

// More is the check of bytes behind others, of which the check is known.
func More(c uint32, s string) uint32 {
	t := effects()
	c = ^c
	for i := range len(s) {
		c = t[byte(c)^s[i]] ^ c>>8
	}
	return ^c
}

// Of is the check of bytes.
func Of(s string) uint32 { return More(0, s) }

// Join is the check of bytes behind others, of whose checks, and of how many bytes the second ones are.
func Join(a, b uint32, n int) uint32 {
	if n < 1 {
		return a
	}
	// The ones from which both checks began and by which both were turned
	// round cancel each other out: only a has to be moved on by n bytes.
	return times(a, power(byteOn, n)) ^ b
}

// effects is what each byte does to a check. It is too great for a table at
// package level, and is made anew by each call: the bytes of one bit by
// moving on, all others as sums of these, so that this costs little.
func effects() [256]uint32 {
	var t [256]uint32
	c := polynomial
	for bit := 128; bit > 0; bit >>= 1 {
		t[bit] = c
		c = onward(c)
	}
	for i := range len(t) {
		lowest := i & -i
		t[i] = t[lowest] ^ t[i^lowest]
	}
	return t
}

// onward is c by x, within the polynomial.
func onward(c uint32) uint32 {
	if c&1 != 0 {
		return c>>1 ^ polynomial
	}
	return c >> 1
}

// times is a by b, within the polynomial.
func times(a, b uint32) uint32 {
	var product uint32
	for bit := one; bit > 0; bit >>= 1 {
		if a&bit != 0 {
			product ^= b
		}
		b = onward(b)
	}
	return product
}

// power is c to the n-th, by squares, so that n may be as great as it likes.
func power(c uint32, n int) uint32 {
	product := one
	for ; n > 0; n >>= 1 {
		if n&1 != 0 {
			product = times(product, c)
		}
		c = times(c, c)
	}
	return product
}
