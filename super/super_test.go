package super

import (
	"encoding/binary"
	"hash/crc32"
	"math"
	"math/rand"
	"strings"
	"testing"

	"keyway/api"
)

const (
	lastGen  = 1<<62 - 1
	lastRoot = api.MostSectors - 1
)

// laid is a sector by the words of the chapters alone, of whatever is to stand in it.
func laid(kind byte, number uint32, gen uint64, data string) string {
	body := make([]byte, 252)
	body[0] = kind
	binary.LittleEndian.PutUint32(body[1:], number)
	binary.LittleEndian.PutUint64(body[5:], gen)
	binary.LittleEndian.PutUint16(body[13:], uint16(len(data)))
	copy(body[15:], data)
	return string(binary.LittleEndian.AppendUint32(body, crc32.ChecksumIEEE(body)))
}

// number is a number as bytes by the words of layer 3 alone.
func number(n int) string { return string(binary.AppendUvarint(nil, uint64(n))) }

// sectorOf is the sector of a state that may be.
func sectorOf(s api.Super) string {
	return laid(1, uint32(s.Gen%2), s.Gen, number(s.Root+1))
}

// may holds that a state may be, that Put makes its sector, and that Get reads it at its own place alone.
func may(t *testing.T, s api.Super) {
	t.Helper()
	if !May(s) {
		t.Errorf("May(%v) = false", s)
	}
	sector := Put(s)
	if want := sectorOf(s); sector != want {
		t.Errorf("Put(%v) = %x, not %x", s, sector, want)
	}
	own := int(s.Gen % 2)
	if got, ok := Get(sector, own); !ok || got != s {
		t.Errorf("Get(Put(%v), %d) = %v, %v", s, own, got, ok)
	}
	for _, at := range []int{1 - own, -2, -1, 2, 3, own - 2, own + 2, own + 4, math.MinInt, math.MaxInt, math.MinInt + own, math.MaxInt - 1} {
		saysNone(t, sector, at)
	}
}

// mayNot holds that a state may not be, and that even its sector says none.
func mayNot(t *testing.T, s api.Super) {
	t.Helper()
	if May(s) {
		t.Errorf("May(%v) = true", s)
	}
	if sector := Put(s); sector != "" {
		t.Errorf("Put(%v) = %x", s, sector)
	}
	for at := range 2 {
		saysNone(t, sectorOf(s), at)
	}
}

// saysNone holds that a sector says no state at a place.
func saysNone(t *testing.T, sector string, at int) {
	t.Helper()
	if got, ok := Get(sector, at); ok || got != (api.Super{}) {
		t.Errorf("Get(%x, %d) = %v, %v", sector, at, got, ok)
	}
}

// chosen holds that of two sectors a state is chosen.
func chosen(t *testing.T, a, b string, want api.Super) {
	t.Helper()
	if got, ok := Choose(a, b); !ok || got != want {
		t.Errorf("Choose(%x, %x) = %v, %v, not %v", a, b, got, ok, want)
	}
}

// noneChosen holds that of two sectors no state is chosen.
func noneChosen(t *testing.T, a, b string) {
	t.Helper()
	if got, ok := Choose(a, b); ok || got != (api.Super{}) {
		t.Errorf("Choose(%x, %x) = %v, %v", a, b, got, ok)
	}
}

func TestLimits(t *testing.T) {
	if api.MostSectors != 1<<14 || api.SectorBytes != 256 || api.PageSuper != 1 {
		t.Fatal("the limits that the tests name are other ones")
	}
}

func TestStatesThatMayBe(t *testing.T) {
	for _, gen := range []uint64{1, 2, 3, 255, 256, 1 << 32, lastGen - 1, lastGen} {
		for _, root := range []int{-1, 0, 1, 126, 127, 128, lastRoot - 2, lastRoot - 1, lastRoot} {
			may(t, api.Super{Gen: gen, Root: root})
		}
	}
}

func TestEveryRoot(t *testing.T) {
	for root := -1; root <= lastRoot; root++ {
		s := api.Super{Gen: uint64(root) + 2, Root: root}
		if got, ok := Get(Put(s), int(s.Gen%2)); !May(s) || !ok || got != s {
			t.Fatalf("Get(Put(%v)) = %v, %v", s, got, ok)
		}
	}
}

func TestStatesThatMayNotBe(t *testing.T) {
	for _, gen := range []uint64{0, 1 << 62, 1<<62 + 1, 1 << 63, math.MaxUint64} {
		for _, root := range []int{-1, 0, 7, lastRoot} {
			mayNot(t, api.Super{Gen: gen, Root: root})
		}
	}
	for _, gen := range []uint64{0, 1, 2, lastGen, 1 << 62} {
		for _, root := range []int{math.MinInt, -1 << 32, -3, -2, api.MostSectors, api.MostSectors + 1, 1 << 32, 1<<32 + 1, math.MaxInt} {
			mayNot(t, api.Super{Gen: gen, Root: root})
		}
	}
}

func TestWhere(t *testing.T) {
	for _, gen := range []uint64{0, 2, 4, 1000, 1 << 32, lastGen - 1, 1 << 62, math.MaxUint64 - 1} {
		if at := Where(gen); at != 0 {
			t.Errorf("Where(%d) = %d", gen, at)
		}
	}
	for _, gen := range []uint64{1, 3, 5, 1001, 1<<32 + 1, lastGen, 1<<62 + 1, math.MaxUint64} {
		if at := Where(gen); at != 1 {
			t.Errorf("Where(%d) = %d", gen, at)
		}
	}
}

func TestBytesOfASector(t *testing.T) {
	s := Put(api.Super{Gen: 0x0102030405060708, Root: 299})
	ahead := "\x01" + "\x00\x00\x00\x00" + "\x08\x07\x06\x05\x04\x03\x02\x01" + "\x02\x00" + "\xac\x02" + strings.Repeat("\x00", 235)
	if len(s) != api.SectorBytes || s[:len(s)-4] != ahead {
		t.Errorf("an even generation: %x", s)
	}
	s = Put(api.Super{Gen: 3, Root: -1})
	ahead = "\x01" + "\x01\x00\x00\x00" + "\x03\x00\x00\x00\x00\x00\x00\x00" + "\x01\x00" + strings.Repeat("\x00", 237)
	if len(s) != api.SectorBytes || s[:len(s)-4] != ahead {
		t.Errorf("an odd generation: %x", s)
	}
}

func TestSectorsThatAreNoPage(t *testing.T) {
	whole := sectorOf(api.Super{Gen: 3, Root: 8})
	for at := range 2 {
		for _, s := range []string{"", "\x00", "x", whole[:255], whole[1:], whole + "\x00", whole + whole, strings.Repeat("\x00", 256), strings.Repeat("\xff", 256)} {
			saysNone(t, s, at)
		}
		for i := range len(whole) {
			saysNone(t, whole[:i]+string([]byte{whole[i] ^ 1})+whole[i+1:], at)
			saysNone(t, whole[:i], at)
		}
	}
}

func TestPagesThatAreNoState(t *testing.T) {
	for at := range 2 {
		gen := uint64(4 + at)
		state, place := number(8), uint32(at)
		if got, ok := Get(laid(1, place, gen, state), at); !ok || got != (api.Super{Gen: gen, Root: 7}) {
			t.Fatalf("the state that the others differ from: %v, %v", got, ok)
		}
		for _, kind := range []byte{0, 2, 3, 4, 5, 255} {
			saysNone(t, laid(kind, place, gen, state), at)
		}
		for _, other := range []uint32{1 - place, 2, 3, lastRoot, api.MostSectors, math.MaxUint32} {
			saysNone(t, laid(1, other, gen, state), at)
		}
		for _, other := range []uint64{0, 1 << 62, 1<<62 + 1, 1 << 63, math.MaxUint64, gen + 1, gen - 1} {
			if other%2 != gen%2 || other == 0 || other >= 1<<62 {
				saysNone(t, laid(1, place, other, state), at)
			}
		}
	}
}

func TestDataThatIsNoRoot(t *testing.T) {
	wrong := []string{
		"",                    // nothing
		"\x80",                // cut short
		"\x88\x80",            // cut short
		"\x80\x00",            // 0 in a form of two bytes
		"\x88\x00",            // 8 in a form of two bytes
		"\x88\x80\x00",        // 8 in a form of three bytes
		"\x00\x00",            // 0 and a byte
		"\x08\x00",            // 8 and a byte
		"\x08x",               // 8 and a byte
		"\x80\x80\x01\x00",    // the greatest one and a byte
		number(8) + number(8), // two numbers
		number(lastRoot + 2),  // a root that may not be
		number(lastRoot + 3),  // a root that may not be
		number(1<<32 + 8),     // a root that may not be
		number(math.MaxInt),   // a root that may not be
		string(binary.AppendUvarint(nil, math.MaxUint64)),
		"\xff\xff\xff\xff\xff\xff\xff\xff\xff\x02", // no number of 64 bits
		strings.Repeat("\x88", 237),
		strings.Repeat("\x00", 237),
	}
	for at := range 2 {
		for _, data := range wrong {
			saysNone(t, laid(1, uint32(at), uint64(4+at), data), at)
		}
	}
}

func TestChooseTheLater(t *testing.T) {
	for _, gens := range [][2]uint64{{4, 5}, {6, 5}, {2, 1}, {2, 3}, {100, 3}, {4, 101}, {lastGen - 1, lastGen}, {lastGen - 1, 1}, {2, lastGen}, {lastGen - 1, lastGen - 2}} {
		even, odd := api.Super{Gen: gens[0], Root: 7}, api.Super{Gen: gens[1], Root: 9}
		later := even
		if odd.Gen > even.Gen {
			later = odd
		}
		chosen(t, sectorOf(even), sectorOf(odd), later)
		chosen(t, Put(even), Put(odd), later)
	}
}

func TestChooseTheOneThatThereIs(t *testing.T) {
	none := []string{
		"", "x",
		strings.Repeat("\x00", 256),
		sectorOf(api.Super{Gen: 8, Root: 3})[:255],
		laid(2, 0, 8, number(4)),
		laid(2, 1, 9, number(4)),
		laid(1, 1, 8, number(4)),
		laid(1, 0, 9, number(4)),
		laid(1, 0, 1<<62, number(4)),
		laid(1, 1, 1<<62+1, number(4)),
		laid(1, 0, 0, number(4)),
		laid(1, 0, 8, ""),
		laid(1, 1, 9, "\x84\x00"),
	}
	for _, root := range []int{-1, 0, 5} {
		for _, gen := range []uint64{1, 2, 6, 7, lastGen - 1, lastGen} {
			s := api.Super{Gen: gen, Root: root}
			for _, other := range none {
				if gen%2 == 0 {
					chosen(t, sectorOf(s), other, s)
				} else {
					chosen(t, other, sectorOf(s), s)
				}
			}
		}
	}
	for _, a := range none {
		for _, b := range none {
			noneChosen(t, a, b)
		}
	}
}

func TestChooseTheWrongWayRound(t *testing.T) {
	even, odd := api.Super{Gen: 4, Root: 7}, api.Super{Gen: 5, Root: 9}
	noneChosen(t, sectorOf(odd), sectorOf(even))
	noneChosen(t, sectorOf(odd), "")
	noneChosen(t, "", sectorOf(even))
	chosen(t, sectorOf(even), sectorOf(even), even)
	chosen(t, sectorOf(odd), sectorOf(odd), odd)
}

func TestRandomStates(t *testing.T) {
	rng := rand.New(rand.NewSource(7))
	for range 2000 {
		may(t, api.Super{Gen: rng.Uint64()>>(2+rng.Intn(61)) | 1<<rng.Intn(62), Root: rng.Intn(api.MostSectors+1) - 1})
	}
}

// FuzzGet holds that a sector which says a state is the very one of that state.
func FuzzGet(f *testing.F) {
	f.Add(sectorOf(api.Super{Gen: 4, Root: 7}), 0)
	f.Add(sectorOf(api.Super{Gen: 5, Root: -1}), 1)
	f.Add("", 0)
	f.Fuzz(func(t *testing.T, s string, at int) {
		got, ok := Get(s, at)
		if ok && (!May(got) || at != Where(got.Gen) || s != sectorOf(got)) || !ok && got != (api.Super{}) {
			t.Errorf("Get(%x, %d) = %v, %v", s, at, got, ok)
		}
	})
}
