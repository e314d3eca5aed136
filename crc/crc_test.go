package crc

import (
	"hash/crc32"
	"math"
	"strconv"
	"strings"
	"testing"
)

// byBits is the check as the chapter words it, bit by bit, without a table.
func byBits(s string) uint32 {
	c := ^uint32(0)
	for i := range len(s) {
		for bit := range 8 {
			differs := (c ^ uint32(s[i])>>bit) & 1
			c = c>>1 ^ 0xedb88320*differs
		}
	}
	return ^c
}

// allBytes is every value of a byte, each once.
func allBytes() string {
	b := make([]byte, 256)
	for i := range b {
		b[i] = byte(i)
	}
	return string(b)
}

// samples is texts of many lengths, with bytes of all values among them.
func samples() []string {
	all := allBytes()
	out := []string{"", "\x00", "\xff", "a", "123456789", "caf\u00e9 \u2713", all, all + all[7:200]}
	for n := range 40 {
		out = append(out, all[n*5:n*6], strings.Repeat("\x00", n), strings.Repeat("\xff", n))
	}
	return append(out, strings.Repeat(all+"odd", 40))
}

// The chapter's example.
func TestOfTheExample(t *testing.T) {
	if got := Of("123456789"); got != 0xcbf43926 {
		t.Errorf("Of(123456789) = %x", got)
	}
}

func TestOfKnownChecks(t *testing.T) {
	for _, c := range []struct {
		s    string
		want uint32
	}{
		{"", 0},
		{"\x00", 0xd202ef8d},
		{"\xff", 0xff000000},
		{"a", 0xe8b7be43},
		{"abc", 0x352441c2},
		{"\x00\x00\x00\x00", 0x2144df1c},
		{"\xff\xff\xff\xff", 0xffffffff},
		{"The quick brown fox jumps over the lazy dog", 0x414fa339},
	} {
		if got := Of(c.s); got != c.want {
			t.Errorf("Of(%q) = %x, not %x", c.s, got, c.want)
		}
	}
}

func TestOfEachByte(t *testing.T) {
	all := allBytes()
	for i := range len(all) {
		s := all[i : i+1]
		if got := Of(s); got != byBits(s) || got != crc32.ChecksumIEEE([]byte(s)) {
			t.Errorf("Of of the byte %d = %x", i, got)
		}
	}
	if got := Of(all); got != 0x29058c73 {
		t.Errorf("Of of all bytes = %x", got)
	}
}

func TestOfSamples(t *testing.T) {
	for _, s := range samples() {
		if got := Of(s); got != byBits(s) || got != crc32.ChecksumIEEE([]byte(s)) {
			t.Errorf("Of(%q) = %x, not %x", s, got, byBits(s))
		}
	}
}

// A text of bytes that are no runes is looked at byte by byte.
func TestOfBytesNotRunes(t *testing.T) {
	if Of("\xff") == Of("\ufffd") || Of("\xc3\xa9") != Of("\u00e9") {
		t.Error("bytes that are no runes are not taken as they are")
	}
}

func TestMoreAtEachPlace(t *testing.T) {
	s := allBytes() + "123456789"
	want := byBits(s)
	for i := range len(s) + 1 {
		if got := More(Of(s[:i]), s[i:]); got != want {
			t.Fatalf("More behind %d bytes = %x, not %x", i, got, want)
		}
	}
}

func TestMoreByteByByte(t *testing.T) {
	s := allBytes()
	var c uint32
	for i := range len(s) {
		c = More(c, s[i:i+1])
		if c != byBits(s[:i+1]) {
			t.Fatalf("More, byte by byte, of %d bytes = %x", i+1, c)
		}
	}
}

func TestMoreOfNone(t *testing.T) {
	for _, s := range samples() {
		if got := More(0, s); got != Of(s) {
			t.Errorf("More(0, %q) = %x, not its check", s, got)
		}
		if got := More(Of(s), ""); got != Of(s) {
			t.Errorf("More of none behind %q = %x", s, got)
		}
	}
	for _, c := range []uint32{0, 1, 1 << 31, 0xedb88320, math.MaxUint32} {
		if got := More(c, ""); got != c {
			t.Errorf("More(%x, none) = %x", c, got)
		}
	}
}

// Whatever check is handed in, the library's answer is the same.
func TestMoreOfAnyCheck(t *testing.T) {
	for _, c := range []uint32{0, 1, 1 << 31, 0xedb88320, 0xcbf43926, math.MaxUint32} {
		for _, s := range samples() {
			if got, want := More(c, s), crc32.Update(c, crc32.IEEETable, []byte(s)); got != want {
				t.Errorf("More(%x, %q) = %x, not %x", c, s, got, want)
			}
		}
	}
}

func TestJoinOfNoneAndBelow(t *testing.T) {
	for _, n := range []int{0, -1, -2, -8, -256, math.MinInt + 1, math.MinInt} {
		for _, a := range []uint32{0, 1, 0xcbf43926, math.MaxUint32} {
			for _, b := range []uint32{0, 1, 0xedb88320, math.MaxUint32} {
				if got := Join(a, b, n); got != a {
					t.Errorf("Join(%x, %x, %d) = %x, not the first check", a, b, n, got)
				}
			}
		}
	}
}

func TestJoinAtEachPlace(t *testing.T) {
	s := allBytes() + "123456789"
	want := byBits(s)
	for i := range len(s) + 1 {
		if got := Join(Of(s[:i]), Of(s[i:]), len(s)-i); got != want {
			t.Fatalf("Join behind %d bytes = %x, not %x", i, got, want)
		}
	}
}

func TestJoinSamples(t *testing.T) {
	for _, a := range samples() {
		for _, b := range samples() {
			if got := Join(Of(a), Of(b), len(b)); got != crc32.ChecksumIEEE([]byte(a+b)) {
				t.Fatalf("Join of %q and %q = %x", a, b, got)
			}
		}
	}
}

// Each bit of n stands alone, and with all below it, as far as bytes can be made.
func TestJoinManyBytes(t *testing.T) {
	behind := strings.Repeat("\x00\x5a\xff", 1<<23)
	a := "what stands ahead"
	c := Of(a)
	for n := 1; n <= 1<<24; n *= 2 {
		for _, m := range []int{n - 1, n, n + 1} {
			want := crc32.Update(c, crc32.IEEETable, []byte(behind[:m]))
			if got := Join(c, crc32.ChecksumIEEE([]byte(behind[:m])), m); got != want {
				t.Errorf("Join with %d bytes = %x, not %x", m, got, want)
			}
		}
	}
}

// Checks of zeros, each made by joining the last one with itself, are joined
// at places of any size: in two ways round, the check is the same.
func TestJoinGreatIsTheSameEitherWayRound(t *testing.T) {
	a, b := Of("ahead"), Of("between")
	zeros, n := Of("\x00"), 1
	for n < math.MaxInt/4 {
		left := Join(Join(a, b, 7), zeros, n)
		right := Join(a, Join(b, zeros, n), 7+n)
		if left != right {
			t.Fatalf("Join behind %d bytes: %x and %x", n, left, right)
		}
		zeros, n = Join(zeros, zeros, n), 2*n
	}
}

// Powers of x come round after 2^32 - 1 bits, and so after as many bytes.
func TestJoinComesRound(t *testing.T) {
	if strconv.IntSize < 64 {
		t.Skip("such a number of bytes is no int here")
	}
	round := int(uint64(math.MaxUint32))
	a, b := Of("ahead"), Of("behind")
	if got := Join(a, b, round); got != a^b {
		t.Errorf("Join once round = %x, not %x", got, a^b)
	}
	for _, n := range []int{1, 2, 255, 1 << 16, 1<<31 - 1, round - 1} {
		if Join(a, b, n+round) != Join(a, b, n) || Join(a, b, n+round<<20) != Join(a, b, n) {
			t.Errorf("Join with %d bytes, and round, is not the same", n)
		}
	}
	if got, want := Join(a, b, math.MaxInt), Join(a, b, math.MaxInt%round); got != want {
		t.Errorf("Join with the most bytes = %x, not %x", got, want)
	}
}

func TestTheSameCallsAnswerTheSame(t *testing.T) {
	s := allBytes()
	of, more, join := Of(s), More(7, s), Join(7, 9, 1000)
	for range 3 {
		if Of(s) != of || More(7, s) != more || Join(7, 9, 1000) != join {
			t.Fatal("the same calls answer unlike")
		}
	}
}
