package page

import (
	"encoding/binary"
	"hash/crc32"
	"math"
	"math/rand"
	"strings"
	"testing"

	"keyway/api"
)

// Where the parts of a sector stand.
const (
	numberAt = 1
	genAt    = 5
	countAt  = 13
	dataAt   = 15
	checkAt  = 252
)

var kinds = []int{api.PageSuper, api.PageLeaf, api.PageInner, api.PageChain}

// checked is a sector with the check that its bytes ask for.
func checked(body []byte) string {
	return string(binary.LittleEndian.AppendUint32(body[:checkAt:checkAt], crc32.ChecksumIEEE(body[:checkAt])))
}

// laid is a sector by the chapter's words alone, of whatever is to stand in it.
func laid(kind byte, number uint32, gen uint64, count uint16, data string) string {
	body := make([]byte, checkAt)
	body[0] = kind
	binary.LittleEndian.PutUint32(body[numberAt:], number)
	binary.LittleEndian.PutUint64(body[genAt:], gen)
	binary.LittleEndian.PutUint16(body[countAt:], count)
	copy(body[dataAt:], data)
	return checked(body)
}

// sectorOf is the sector of a page that may be.
func sectorOf(p api.Page) string {
	return laid(byte(p.Kind), uint32(p.Number), p.Gen, uint16(len(p.Data)), p.Data)
}

// may holds that a page may be, that Put makes its sector, and that Get reads it again.
func may(t *testing.T, p api.Page) {
	t.Helper()
	if !May(p) {
		t.Errorf("May(%#v) = false", p)
	}
	s := Put(p)
	if len(s) != api.SectorBytes {
		t.Errorf("Put(%#v) has %d bytes", p, len(s))
	}
	if want := sectorOf(p); s != want {
		t.Errorf("Put(%#v) = %x, not %x", p, s, want)
	}
	if got, e := Get(s); e != api.OK || got != p {
		t.Errorf("Get(Put(%#v)) = %#v, %d", p, got, e)
	}
}

// mayNot holds that a page may not be, and has no sector.
func mayNot(t *testing.T, p api.Page) {
	t.Helper()
	if May(p) {
		t.Errorf("May(%#v) = true", p)
	}
	if s := Put(p); s != "" {
		t.Errorf("Put(%#v) = %x, not nothing", p, s)
	}
}

// isNone holds that bytes are no page's sector.
func isNone(t *testing.T, what, s string) {
	t.Helper()
	if p, e := Get(s); e != api.ErrForm || p != (api.Page{}) {
		t.Errorf("%s: Get = %#v, %d; not the zero page, ErrForm", what, p, e)
	}
}

// some is a page with bytes of its own in every part.
func some() api.Page {
	return api.Page{Kind: api.PageInner, Number: 0x1234, Gen: 0x8877665544332211, Data: "a\x00\xffb"}
}

func TestLimitsOfTheSector(t *testing.T) {
	if dataAt+api.PageBytes != checkAt || checkAt+4 != api.SectorBytes {
		t.Error("the parts do not fill a sector")
	}
}

func TestKinds(t *testing.T) {
	for _, kind := range kinds {
		p := some()
		p.Kind = kind
		may(t, p)
	}
	for _, kind := range []int{math.MinInt, -255, -1, 0, 5, 6, 255, 256, 257, 258, 260, 1 << 32, 1<<32 + 1, math.MaxInt} {
		p := some()
		p.Kind = kind
		mayNot(t, p)
	}
	mayNot(t, api.Page{})
}

func TestNumbers(t *testing.T) {
	for _, number := range []int{0, 1, 255, 256, 257, api.MostSectors - 2, api.MostSectors - 1} {
		p := some()
		p.Number = number
		may(t, p)
	}
	for _, number := range []int{math.MinInt, -1 << 32, -1, api.MostSectors, api.MostSectors + 1, 1 << 16, 1 << 31, 1 << 32, 1<<32 + 3, math.MaxInt} {
		p := some()
		p.Number = number
		mayNot(t, p)
	}
}

func TestGens(t *testing.T) {
	gens := []uint64{0, 1, math.MaxUint64, 1 << 63, 0x0102030405060708}
	for at := range 8 {
		gens = append(gens, 0xa5<<(8*at))
	}
	for _, gen := range gens {
		p := some()
		p.Gen = gen
		may(t, p)
	}
}

func TestData(t *testing.T) {
	for n := range api.PageBytes + 1 {
		may(t, api.Page{Kind: api.PageLeaf, Data: strings.Repeat("d", n)})
	}
	for _, data := range []string{"\x00", "x\x00", strings.Repeat("\x00", api.PageBytes), strings.Repeat("\xff", api.PageBytes)} {
		may(t, api.Page{Kind: api.PageChain, Data: data})
	}
	for _, n := range []int{api.PageBytes + 1, api.SectorBytes, 1 << 16, 1<<16 + 1} {
		mayNot(t, api.Page{Kind: api.PageLeaf, Data: strings.Repeat("d", n)})
	}
}

// The bytes are told one by one here, apart from what lays sectors in the other tests.
func TestWhereThePartsStand(t *testing.T) {
	s := Put(some())
	head := "\x03" + "\x34\x12\x00\x00" + "\x11\x22\x33\x44\x55\x66\x77\x88" + "\x04\x00"
	if s[:dataAt] != head {
		t.Errorf("ahead of Data: %x, not %x", s[:dataAt], head)
	}
	if s[dataAt:dataAt+4] != "a\x00\xffb" {
		t.Errorf("Data: %x", s[dataAt:dataAt+4])
	}
	if strings.Trim(s[dataAt+4:checkAt], "\x00") != "" {
		t.Errorf("behind Data: %x", s[dataAt+4:checkAt])
	}
	c := crc32.ChecksumIEEE([]byte(s[:checkAt]))
	if check := string([]byte{byte(c), byte(c >> 8), byte(c >> 16), byte(c >> 24)}); s[checkAt:] != check {
		t.Errorf("check: %x, not %x", s[checkAt:], check)
	}
}

func TestPutOfSeveralWrongs(t *testing.T) {
	long := strings.Repeat("d", api.PageBytes+1)
	mayNot(t, api.Page{Kind: 5, Number: -1, Data: long})
	mayNot(t, api.Page{Kind: 0, Number: api.MostSectors, Data: "x"})
	mayNot(t, api.Page{Kind: api.PageSuper, Number: -1, Data: long})
}

func TestGetOfOtherLengths(t *testing.T) {
	s := Put(some())
	for n := range len(s) {
		isNone(t, "fewer bytes", s[:n])
		isNone(t, "fewer bytes, of the end", s[len(s)-n:])
		isNone(t, "fewer bytes, of noughts", strings.Repeat("\x00", n))
	}
	for _, more := range []string{"\x00", "x", s, strings.Repeat("\x00", 1<<12)} {
		isNone(t, "more bytes", s+more)
		isNone(t, "more bytes ahead", more+s)
	}
	isNone(t, "nothing", "")
}

// A sector that is shorter or longer than it must be, but ends with the check of all ahead of it, is none either.
func TestGetOfOtherLengthsWithTheirCheck(t *testing.T) {
	s := Put(some())
	for _, body := range []string{s[:dataAt], s[:dataAt+4], s[:checkAt-1], s[:checkAt] + "\x00", s[:checkAt] + s[checkAt:]} {
		sum := crc32.ChecksumIEEE([]byte(body))
		isNone(t, "another length", string(binary.LittleEndian.AppendUint32([]byte(body), sum)))
	}
}

func TestGetOfOtherBytes(t *testing.T) {
	for _, p := range []api.Page{some(), {Kind: api.PageSuper}, {Kind: api.PageLeaf, Data: strings.Repeat("d", api.PageBytes)}} {
		s := Put(p)
		for at := range len(s) {
			for turned := 1; turned < 256; turned++ {
				b := []byte(s)
				b[at] ^= byte(turned)
				isNone(t, "another byte", string(b))
			}
		}
	}
	isNone(t, "a blank sector", strings.Repeat("\x00", api.SectorBytes))
	isNone(t, "ones", strings.Repeat("\xff", api.SectorBytes))
}

func TestGetOfWrongsWithTheirCheck(t *testing.T) {
	for kind := range 256 {
		s := laid(byte(kind), 3, 4, 1, "x")
		if kind < api.PageSuper || kind > api.PageChain {
			isNone(t, "Kind", s)
		} else if p, e := Get(s); e != api.OK || p != (api.Page{Kind: kind, Number: 3, Gen: 4, Data: "x"}) {
			t.Errorf("Kind %d: %#v, %d", kind, p, e)
		}
	}
	for _, number := range []uint32{api.MostSectors, api.MostSectors + 1, 1 << 16, 1<<24 + 3, 1 << 31, math.MaxUint32} {
		isNone(t, "Number", laid(api.PageLeaf, number, 4, 1, "x"))
	}
	full := strings.Repeat("d", api.PageBytes)
	for _, count := range []uint16{api.PageBytes + 1, api.PageBytes + 4, api.PageBytes + 5, 1 << 8, 1<<8 + 1, 1 << 15, math.MaxUint16} {
		isNone(t, "how many bytes", laid(api.PageLeaf, 3, 4, count, full))
		isNone(t, "how many bytes, of noughts", laid(api.PageLeaf, 3, 4, count, ""))
	}
	for count := range api.PageBytes {
		isNone(t, "a byte behind Data", laid(api.PageLeaf, 3, 4, uint16(count), full[:count]+"\x01"))
		isNone(t, "a byte at the end", laid(api.PageLeaf, 3, 4, uint16(count), strings.Repeat("\x00", api.PageBytes-1)+"\x80"))
	}
}

// What is counted as Data is Data, noughts too.
func TestGetOfNoughts(t *testing.T) {
	p := api.Page{Kind: api.PageLeaf, Number: 3, Gen: 4, Data: "x\x00\x00"}
	if got, e := Get(laid(api.PageLeaf, 3, 4, 3, "x")); e != api.OK || got != p {
		t.Errorf("Get = %#v, %d", got, e)
	}
}

// R4, and no two pages have one sector.
func TestManyPages(t *testing.T) {
	source := rand.New(rand.NewSource(5))
	seen := map[string]api.Page{}
	for range 4000 {
		data := make([]byte, source.Intn(api.PageBytes+1))
		source.Read(data)
		p := api.Page{
			Kind:   kinds[source.Intn(len(kinds))],
			Number: source.Intn(api.MostSectors),
			Gen:    source.Uint64() >> source.Intn(64),
			Data:   string(data),
		}
		may(t, p)
		s := Put(p)
		if other, has := seen[s]; has && other != p {
			t.Fatalf("%#v and %#v have one sector", p, other)
		}
		seen[s] = p
		if s != Put(p) {
			t.Fatal("Put answers otherwise the second time")
		}
	}
}

// Whatever bytes are handed in, Get ends; what it reads, Put makes again.
func TestGetOfAnyBytes(t *testing.T) {
	source := rand.New(rand.NewSource(6))
	for range 4000 {
		body := make([]byte, checkAt)
		source.Read(body[:source.Intn(40)])
		body[0], body[3], body[4], body[countAt+1] = byte(source.Intn(6)), 0, 0, 0
		s := checked(body)
		p, e := Get(s)
		if e == api.OK && (!May(p) || Put(p) != s) {
			t.Errorf("Get(%x) = %#v", s, p)
		}
		if e != api.OK && (e != api.ErrForm || p != (api.Page{})) {
			t.Errorf("Get(%x) = %#v, %d", s, p, e)
		}
	}
}

func FuzzGet(f *testing.F) {
	f.Add("")
	f.Add(Put(some()))
	f.Fuzz(func(t *testing.T, s string) {
		if p, e := Get(s); e == api.OK && Put(p) != s {
			t.Errorf("Get(%x) = %#v", s, p)
		}
	})
}
