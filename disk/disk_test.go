package disk

import (
	"math"
	"math/rand"
	"slices"
	"strings"
	"testing"

	"keyway/api"
)

// made is a disk that may be.
func made(t *testing.T, sectors int, cuts ...api.Cut) *Disk {
	t.Helper()
	d, e := New(sectors, cuts)
	if e != api.OK || d == nil {
		t.Fatalf("New(%d) = %v, %d", sectors, d, e)
	}
	return d
}

// padded is the bytes of a sector that begin so.
func padded(s string) string { return s + strings.Repeat("\x00", api.SectorBytes-len(s)) }

// reads holds what a sector says.
func reads(t *testing.T, d *Disk, n int, s string) {
	t.Helper()
	if got, e := d.Read(n); e != api.OK || got != padded(s) {
		t.Errorf("Read(%d) = %q.., %d; not %q", n, strings.TrimRight(got, "\x00"), e, s)
	}
}

// refuses holds that a sector isn't read.
func refuses(t *testing.T, d *Disk, n int, err api.Errno) {
	t.Helper()
	if got, e := d.Read(n); e != err || got != "" {
		t.Errorf("Read(%d) = %q, %d; not nothing, %d", n, got, e, err)
	}
}

func writes(t *testing.T, d *Disk, n int, s string, err api.Errno) {
	t.Helper()
	if e := d.Write(n, s); e != err {
		t.Errorf("Write(%d, %d bytes) = %d, not %d", n, len(s), e, err)
	}
}

func flushes(t *testing.T, d *Disk, err api.Errno) {
	t.Helper()
	if e := d.Flush(); e != err {
		t.Errorf("Flush() = %d, not %d", e, err)
	}
}

// counts holds what a disk says of itself.
func counts(t *testing.T, d *Disk, sectors, acts, fails int, dead bool) {
	t.Helper()
	if d.Sectors() != sectors || d.Acts() != acts || d.Fails() != fails || d.Dead() != dead {
		t.Errorf("sectors %d, acts %d, fails %d, dead %v; not %d, %d, %d, %v",
			d.Sectors(), d.Acts(), d.Fails(), d.Dead(), sectors, acts, fails, dead)
	}
}

// cutAt is a cut with these fates.
func cutAt(at int, fates ...int) api.Cut { return api.Cut{At: at, Fates: fates} }

func TestNew(t *testing.T) {
	for _, n := range []int{math.MinInt, -2, -1, api.MostSectors + 1, math.MaxInt} {
		if d, e := New(n, []api.Cut{cutAt(0)}); d != nil || e != api.ErrInput {
			t.Errorf("New(%d) = %v, %d", n, d, e)
		}
	}
	for _, n := range []int{0, 1, 2, api.MostSectors - 1, api.MostSectors} {
		d := made(t, n)
		counts(t, d, n, 0, 0, false)
		refuses(t, d, n, api.ErrRange)
		if n > 0 {
			reads(t, d, 0, "")
			reads(t, d, n-1, "")
		}
	}
}

func TestNewOfNothing(t *testing.T) {
	d := made(t, 0, cutAt(1))
	refuses(t, d, 0, api.ErrRange)
	writes(t, d, 0, "", api.ErrRange)
	flushes(t, d, api.OK)
	counts(t, d, 0, 1, 0, false)
	flushes(t, d, api.ErrPower)
	counts(t, d, 0, 2, 1, true)
}

func TestCutsNilOrEmpty(t *testing.T) {
	for _, cuts := range [][]api.Cut{nil, {}} {
		d, e := New(2, cuts)
		if e != api.OK {
			t.Fatal(e)
		}
		for range 100 {
			writes(t, d, 1, "a", api.OK)
			reads(t, d, 1, "a")
			flushes(t, d, api.OK)
		}
		counts(t, d, 2, 300, 0, false)
	}
}

func TestSectorsAreNoughtsAtFirst(t *testing.T) {
	d := made(t, 5)
	for n := range 5 {
		s, e := d.Read(n)
		if e != api.OK || s != strings.Repeat("\x00", 256) {
			t.Errorf("Read(%d) = %q, %d", n, s, e)
		}
	}
}

func TestWhatIsWrittenIsReadAtOnce(t *testing.T) {
	d := made(t, 4)
	writes(t, d, 1, "one", api.OK)
	reads(t, d, 1, "one")
	reads(t, d, 0, "")
	reads(t, d, 2, "")
	writes(t, d, 2, "two", api.OK)
	writes(t, d, 1, "uno", api.OK)
	reads(t, d, 1, "uno")
	reads(t, d, 2, "two")
	flushes(t, d, api.OK)
	reads(t, d, 1, "uno")
	reads(t, d, 2, "two")
	writes(t, d, 2, "", api.OK)
	reads(t, d, 2, "")
	flushes(t, d, api.OK)
	reads(t, d, 2, "")
	reads(t, d, 1, "uno")
}

func TestFlushIsForGood(t *testing.T) {
	d := made(t, 3, cutAt(4))
	writes(t, d, 1, "old", api.OK)
	writes(t, d, 1, "good", api.OK)
	flushes(t, d, api.OK)
	writes(t, d, 1, "new", api.OK)
	refuses(t, d, 1, api.ErrPower)
	d.Up()
	reads(t, d, 1, "good")
}

func TestFatesOfFlushedAreNot(t *testing.T) {
	// Fates are of what waits when the power fails: what was flushed has none any more.
	d := made(t, 3, cutAt(3, api.FateTorn))
	writes(t, d, 0, "a", api.OK)
	flushes(t, d, api.OK)
	writes(t, d, 1, "b", api.OK)
	flushes(t, d, api.ErrPower)
	d.Up()
	reads(t, d, 0, "a")
	refuses(t, d, 1, api.ErrTorn)
}

func TestCutInEachAct(t *testing.T) {
	acts := map[string]func(d *Disk) api.Errno{
		"Read":  func(d *Disk) api.Errno { _, e := d.Read(2); return e },
		"Write": func(d *Disk) api.Errno { return d.Write(2, "act") },
		"Flush": func(d *Disk) api.Errno { return d.Flush() },
	}
	for name, act := range acts {
		for _, fate := range []int{api.FateLost, api.FateKept, api.FateTorn} {
			d := made(t, 3, cutAt(1, fate))
			writes(t, d, 1, "wait", api.OK)
			if e := act(d); e != api.ErrPower {
				t.Errorf("%s in a cut = %d", name, e)
			}
			counts(t, d, 3, 2, 1, true)
			d.Up()
			left(t, d, 1, "wait", fate)
			reads(t, d, 2, "")
		}
	}
}

// left holds what is left of a write by its fate.
func left(t *testing.T, d *Disk, n int, s string, fate int) {
	t.Helper()
	switch fate {
	case api.FateLost:
		reads(t, d, n, "")
	case api.FateKept:
		reads(t, d, n, s)
	default:
		refuses(t, d, n, api.ErrTorn)
	}
}

func TestReadInACutAnswersNothing(t *testing.T) {
	d := made(t, 1, cutAt(2, api.FateKept))
	writes(t, d, 0, "a", api.OK)
	reads(t, d, 0, "a")
	refuses(t, d, 0, api.ErrPower)
}

func TestWriteInACutWaitsToo(t *testing.T) {
	for _, fate := range []int{api.FateLost, api.FateKept, api.FateTorn} {
		d := made(t, 3, cutAt(0, fate))
		writes(t, d, 2, "x", api.ErrPower)
		d.Up()
		left(t, d, 2, "x", fate)
	}
	for _, fate := range []int{api.FateLost, api.FateKept, api.FateTorn} {
		d := made(t, 3, cutAt(1, api.FateLost, fate))
		writes(t, d, 0, "first", api.OK)
		writes(t, d, 2, "x", api.ErrPower)
		d.Up()
		reads(t, d, 0, "")
		left(t, d, 2, "x", fate)
	}
}

func TestAt(t *testing.T) {
	for _, c := range []struct{ at, done int }{
		{math.MinInt, 0}, {-7, 0}, {-1, 0}, {0, 0}, {1, 1}, {2, 2}, {3, 3}, {50, 50},
	} {
		d := made(t, 1, cutAt(c.at))
		done := 0
		for done < 100 && d.Flush() == api.OK {
			done++
		}
		if done != c.done {
			t.Errorf("At %d: %d acts were done, not %d", c.at, done, c.done)
		}
		counts(t, d, 1, c.done+1, 1, true)
	}
	d := made(t, 1, cutAt(math.MaxInt))
	for range 1000 {
		flushes(t, d, api.OK)
	}
	counts(t, d, 1, 1000, 0, false)
}

func TestFatesModulo(t *testing.T) {
	for fate := -9; fate <= 9; fate++ {
		d := made(t, 1, cutAt(1, fate))
		writes(t, d, 0, "x", api.OK)
		flushes(t, d, api.ErrPower)
		d.Up()
		left(t, d, 0, "x", (fate+9)%3)
	}
	for fate, as := range map[int]int{math.MaxInt: api.FateKept, math.MaxInt - 1: api.FateLost, math.MinInt: api.FateKept, math.MinInt + 1: api.FateTorn} {
		d := made(t, 1, cutAt(1, fate))
		writes(t, d, 0, "x", api.OK)
		flushes(t, d, api.ErrPower)
		d.Up()
		left(t, d, 0, "x", as)
	}
}

func TestFatesInTheirOrder(t *testing.T) {
	fates := []int{api.FateKept, api.FateLost, api.FateTorn, api.FateKept, api.FateTorn, api.FateLost}
	places := []int{5, 0, 3, 1, 4, 2}
	d := made(t, 6, cutAt(6, fates...))
	for _, n := range places {
		writes(t, d, n, "x", api.OK)
	}
	flushes(t, d, api.ErrPower)
	d.Up()
	for at, n := range places {
		left(t, d, n, "x", fates[at])
	}
}

func TestFewerFates(t *testing.T) {
	for _, fates := range [][]int{nil, {}, {api.FateKept}, {api.FateTorn, api.FateKept}, {1, 1, 1, 1, 1, 1, 1, 2}} {
		d := made(t, 4, api.Cut{At: 4, Fates: fates})
		for n := range 4 {
			writes(t, d, n, "x", api.OK)
		}
		flushes(t, d, api.ErrPower)
		d.Up()
		for n := range 4 {
			fate := api.FateLost
			if n < len(fates) {
				fate = fates[n]
			}
			left(t, d, n, "x", fate)
		}
	}
}

func TestTwoWritesOfOneSector(t *testing.T) {
	const lost, kept, torn = api.FateLost, api.FateKept, api.FateTorn
	for _, c := range []struct {
		first, second int
		says          string // "-": it is torn
	}{
		{lost, lost, "old"}, {lost, kept, "b"}, {lost, torn, "-"},
		{kept, lost, "a"}, {kept, kept, "b"}, {kept, torn, "-"},
		{torn, lost, "-"}, {torn, kept, "b"}, {torn, torn, "-"},
	} {
		d := made(t, 2, cutAt(4, c.first, c.second))
		writes(t, d, 1, "old", api.OK)
		flushes(t, d, api.OK)
		writes(t, d, 1, "a", api.OK)
		writes(t, d, 1, "b", api.OK)
		refuses(t, d, 1, api.ErrPower)
		d.Up()
		if c.says == "-" {
			refuses(t, d, 1, api.ErrTorn)
			continue
		}
		reads(t, d, 1, c.says)
	}
}

func TestWritesBehindTheFates(t *testing.T) {
	// Many writes of one sector: each counts in the order of fates, also when the last ones have none.
	d := made(t, 3, cutAt(7, api.FateLost, api.FateKept))
	for _, s := range []string{"a", "b", "c", "d"} {
		writes(t, d, 1, s, api.OK)
	}
	writes(t, d, 2, "z", api.OK)
	reads(t, d, 1, "d")
	reads(t, d, 2, "z")
	flushes(t, d, api.ErrPower)
	d.Up()
	reads(t, d, 1, "b")
	reads(t, d, 2, "")
}

func TestWritesAreNotHeldWithoutNeed(t *testing.T) {
	d := made(t, 2, cutAt(math.MaxInt, api.FateKept, api.FateLost, api.FateTorn))
	for n := range 1000 {
		writes(t, d, n%2, "x", api.OK)
	}
	if len(d.waits) > 3+2 {
		t.Errorf("%d writes are held: no more than 3 have a fate, and 2 can be read", len(d.waits))
	}
	flushes(t, d, api.OK)
	if len(d.waits) != 0 {
		t.Errorf("%d writes are held behind Flush", len(d.waits))
	}
}

func TestTorn(t *testing.T) {
	d := made(t, 5, cutAt(1, api.FateTorn), cutAt(5))
	writes(t, d, 3, "a", api.OK)
	flushes(t, d, api.ErrPower)
	refuses(t, d, 3, api.ErrPower)
	d.Up()
	refuses(t, d, 3, api.ErrTorn)
	reads(t, d, 2, "")
	refuses(t, d, 3, api.ErrTorn)
	writes(t, d, 3, "b", api.OK)
	reads(t, d, 3, "b") // it waits
	refuses(t, d, 3, api.ErrPower)
	d.Up()
	refuses(t, d, 3, api.ErrTorn) // what was written is lost
	flushes(t, d, api.OK)
	refuses(t, d, 3, api.ErrTorn) // nothing waited
	writes(t, d, 3, "c", api.OK)
	reads(t, d, 3, "c")
	flushes(t, d, api.OK)
	reads(t, d, 3, "c")
}

func TestTornOnceMore(t *testing.T) {
	d := made(t, 1, cutAt(0, api.FateTorn), cutAt(0, api.FateTorn), cutAt(0, api.FateLost), cutAt(0, api.FateKept), cutAt(1))
	for _, s := range []string{"a", "b", "c", "d"} {
		writes(t, d, 0, s, api.ErrPower)
		d.Up()
	}
	reads(t, d, 0, "d")
	refuses(t, d, 0, api.ErrPower)
	d.Up()
	reads(t, d, 0, "d")
}

func TestTornKeepsNothingOfOld(t *testing.T) {
	// A torn sector isn't read as what it was: not even by a write of it that is lost.
	d := made(t, 1, cutAt(3, api.FateTorn), cutAt(1))
	writes(t, d, 0, "old", api.OK)
	flushes(t, d, api.OK)
	writes(t, d, 0, "new", api.OK)
	flushes(t, d, api.ErrPower)
	d.Up()
	writes(t, d, 0, "newer", api.OK)
	flushes(t, d, api.ErrPower)
	d.Up()
	refuses(t, d, 0, api.ErrTorn)
}

func TestNothingWaitsBehindACut(t *testing.T) {
	d := made(t, 2, cutAt(1, api.FateLost), cutAt(1, api.FateKept, api.FateTorn))
	writes(t, d, 0, "a", api.OK)
	flushes(t, d, api.ErrPower)
	d.Up()
	flushes(t, d, api.OK)
	flushes(t, d, api.ErrPower) // what was lost has no fate in the next cut
	d.Up()
	reads(t, d, 0, "")
}

func TestWithoutPower(t *testing.T) {
	d := made(t, 2, cutAt(0), cutAt(0))
	flushes(t, d, api.ErrPower)
	for range 3 {
		for _, n := range []int{0, 1, 2, -1, math.MaxInt, math.MinInt} {
			refuses(t, d, n, api.ErrPower)
			writes(t, d, n, "x", api.ErrPower)
			writes(t, d, n, strings.Repeat("x", api.SectorBytes+1), api.ErrPower)
		}
		flushes(t, d, api.ErrPower)
		counts(t, d, 2, 1, 1, true)
	}
	d.Up()
	counts(t, d, 2, 1, 1, false)
	writes(t, d, 0, "x", api.ErrPower) // the second cut was not spent by acts without power
	counts(t, d, 2, 2, 2, true)
	d.Up()
	reads(t, d, 0, "")
	reads(t, d, 1, "")
	counts(t, d, 2, 4, 2, false)
}

func TestActsAreCountedAnewFromUp(t *testing.T) {
	d := made(t, 1, cutAt(2), cutAt(3), cutAt(0), cutAt(-1), cutAt(1))
	acts := 0
	for fails, done := range []int{2, 3, 0, 0, 1} {
		for range done {
			flushes(t, d, api.OK)
		}
		flushes(t, d, api.ErrPower)
		acts += done + 1
		counts(t, d, 1, acts, fails+1, true)
		d.Up()
		counts(t, d, 1, acts, fails+1, false)
	}
	for range 50 {
		flushes(t, d, api.OK)
	}
	counts(t, d, 1, acts+50, 5, false)
}

func TestCutsHaveTheirOwnFates(t *testing.T) {
	d := made(t, 2, cutAt(1, api.FateKept), cutAt(2, api.FateTorn, api.FateKept), cutAt(1))
	writes(t, d, 0, "a", api.OK)
	flushes(t, d, api.ErrPower)
	d.Up()
	writes(t, d, 0, "b", api.OK)
	writes(t, d, 1, "c", api.OK)
	flushes(t, d, api.ErrPower)
	d.Up()
	refuses(t, d, 0, api.ErrTorn)
	refuses(t, d, 1, api.ErrPower)
	d.Up()
	refuses(t, d, 0, api.ErrTorn)
	reads(t, d, 1, "c")
}

func TestUpWithPower(t *testing.T) {
	d := made(t, 1, cutAt(3, api.FateKept), cutAt(1))
	d.Up()
	counts(t, d, 1, 0, 0, false)
	writes(t, d, 0, "a", api.OK)
	d.Up()
	reads(t, d, 0, "a") // it waits as it did
	d.Up()
	reads(t, d, 0, "a")
	d.Up()
	counts(t, d, 1, 3, 0, false)
	flushes(t, d, api.ErrPower) // acts are counted since there was power: this is number 3
	d.Up()
	d.Up()
	reads(t, d, 0, "a")
	d.Up()
	refuses(t, d, 0, api.ErrPower)
	counts(t, d, 1, 6, 2, true)
}

func TestRange(t *testing.T) {
	d := made(t, 3, cutAt(2))
	long := strings.Repeat("x", api.SectorBytes+1)
	for _, n := range []int{math.MinInt, -1, 3, 4, math.MaxInt} {
		refuses(t, d, n, api.ErrRange)
		writes(t, d, n, "", api.ErrRange)
		writes(t, d, n, long, api.ErrRange) // ErrRange is named ahead of ErrInput
	}
	counts(t, d, 3, 0, 0, false) // none of these is an act
	reads(t, d, 0, "")
	reads(t, d, 2, "")
	// The next act has a cut: what is no act is refused as ever, and spends nothing.
	refuses(t, d, 3, api.ErrRange)
	writes(t, d, -1, "x", api.ErrRange)
	writes(t, d, 1, long, api.ErrInput)
	counts(t, d, 3, 2, 0, false)
	flushes(t, d, api.ErrPower)
	counts(t, d, 3, 3, 1, true)
}

func TestWriteLengths(t *testing.T) {
	d := made(t, 2)
	for _, size := range []int{0, 1, 2, 127, 128, api.SectorBytes - 1, api.SectorBytes} {
		s := strings.Repeat("\xff", size)
		writes(t, d, 0, strings.Repeat("o", api.SectorBytes), api.OK)
		flushes(t, d, api.OK)
		writes(t, d, 0, s, api.OK)
		reads(t, d, 0, s)
		flushes(t, d, api.OK)
		reads(t, d, 0, s)
	}
	acts := d.Acts()
	for _, size := range []int{api.SectorBytes + 1, 2 * api.SectorBytes, 1 << 20} {
		writes(t, d, 0, strings.Repeat("x", size), api.ErrInput)
		reads(t, d, 0, strings.Repeat("\xff", api.SectorBytes))
		writes(t, d, 1, strings.Repeat("x", size), api.ErrInput)
		reads(t, d, 1, "")
	}
	if got := d.Acts() - acts; got != 6 {
		t.Errorf("%d acts, not 6: writes of too much are none", got)
	}
}

func TestTornReadIsAnAct(t *testing.T) {
	d := made(t, 1, cutAt(0, api.FateTorn), cutAt(2))
	writes(t, d, 0, "a", api.ErrPower)
	d.Up()
	refuses(t, d, 0, api.ErrTorn)
	refuses(t, d, 0, api.ErrTorn)
	refuses(t, d, 0, api.ErrPower)
	counts(t, d, 1, 4, 2, true)
}

func TestCutsAreTheCallersOwn(t *testing.T) {
	cuts := []api.Cut{cutAt(1, -1, 4), cutAt(7, 5)}
	d := made(t, 1, cuts...)
	same := func() {
		t.Helper()
		if len(cuts) != 2 || cuts[0].At != 1 || cuts[1].At != 7 ||
			!slices.Equal(cuts[0].Fates, []int{-1, 4}) || !slices.Equal(cuts[1].Fates, []int{5}) {
			t.Errorf("cuts were changed: %v", cuts)
		}
	}
	same()
	writes(t, d, 0, "a", api.OK)
	flushes(t, d, api.ErrPower)
	same()

	d = made(t, 1, cuts...)
	cuts[0].At, cuts[0].Fates[0], cuts[1] = 9, api.FateKept, cutAt(0)
	writes(t, d, 0, "a", api.OK)
	flushes(t, d, api.ErrPower)
	d.Up()
	refuses(t, d, 0, api.ErrTorn)
	for range 6 {
		flushes(t, d, api.OK)
	}
	flushes(t, d, api.ErrPower)
}

func TestDisksStandApart(t *testing.T) {
	cuts := []api.Cut{cutAt(1, api.FateKept)}
	a, b := made(t, 2, cuts...), made(t, 2, cuts...)
	writes(t, a, 0, "a", api.OK)
	flushes(t, a, api.ErrPower)
	counts(t, b, 2, 0, 0, false)
	reads(t, b, 0, "")
	writes(t, b, 1, "b", api.ErrPower)
	a.Up()
	reads(t, a, 1, "")
	reads(t, a, 0, "a")
}

func TestNil(t *testing.T) {
	var d *Disk
	for range 2 {
		counts(t, d, 0, 0, 0, true)
		for _, n := range []int{-1, 0, 1} {
			refuses(t, d, n, api.ErrPower)
			writes(t, d, n, "x", api.ErrPower)
			writes(t, d, n, strings.Repeat("x", api.SectorBytes+1), api.ErrPower)
		}
		flushes(t, d, api.ErrPower)
		d.Up()
	}
}

func TestExample(t *testing.T) {
	d := made(t, 4, cutAt(1, 2))
	writes(t, d, 3, "x", api.OK)
	flushes(t, d, api.ErrPower)
	d.Up()
	refuses(t, d, 3, api.ErrTorn)
}

// plain is a disk in the plainest words: every write is held until Flush, and is sought from the last one on.
type plain struct {
	good        []string
	torn        []bool
	order       []write
	cuts        []api.Cut
	number      int
	acts, fails int
	dead        bool
}

func (p *plain) begin() bool {
	p.acts++
	p.number++
	if len(p.cuts) == 0 || p.number-1 != max(0, p.cuts[0].At) {
		return true
	}
	for at, w := range p.order {
		fate := 0
		if at < len(p.cuts[0].Fates) {
			fate = ((p.cuts[0].Fates[at] % 3) + 3) % 3
		}
		if fate == 1 {
			p.good[w.sector], p.torn[w.sector] = w.bytes, false
		}
		if fate == 2 {
			p.torn[w.sector] = true
		}
	}
	p.order, p.cuts, p.dead = nil, p.cuts[1:], true
	p.fails++
	return false
}

func (p *plain) read(n int) (string, api.Errno) {
	if p.dead {
		return "", api.ErrPower
	}
	if n < 0 || n >= len(p.good) {
		return "", api.ErrRange
	}
	if !p.begin() {
		return "", api.ErrPower
	}
	for at := len(p.order) - 1; at >= 0; at-- {
		if p.order[at].sector == n {
			return p.order[at].bytes, api.OK
		}
	}
	if p.torn[n] {
		return "", api.ErrTorn
	}
	return p.good[n], api.OK
}

func (p *plain) write(n int, s string) api.Errno {
	if p.dead {
		return api.ErrPower
	}
	if n < 0 || n >= len(p.good) {
		return api.ErrRange
	}
	if len(s) > api.SectorBytes {
		return api.ErrInput
	}
	p.order = append(p.order, write{sector: n, bytes: padded(s)})
	if !p.begin() {
		return api.ErrPower
	}
	return api.OK
}

func (p *plain) flush() api.Errno {
	if p.dead || !p.begin() {
		return api.ErrPower
	}
	for _, w := range p.order {
		p.good[w.sector], p.torn[w.sector] = w.bytes, false
	}
	p.order = nil
	return api.OK
}

func (p *plain) up() {
	if p.dead {
		p.dead, p.number = false, 0
	}
}

func plainOf(sectors int, cuts []api.Cut) *plain {
	p := &plain{cuts: slices.Clone(cuts)}
	for range sectors {
		p.good, p.torn = append(p.good, padded("")), append(p.torn, false)
	}
	return p
}

func anyCuts(r *rand.Rand) []api.Cut {
	var cuts []api.Cut
	for range r.Intn(6) {
		c := api.Cut{At: r.Intn(15) - 2}
		for range r.Intn(8) {
			c.Fates = append(c.Fates, r.Intn(13)-6)
		}
		cuts = append(cuts, c)
	}
	return cuts
}

func TestAgainstPlainWords(t *testing.T) {
	for seed := range int64(2000) {
		r := rand.New(rand.NewSource(seed))
		sectors, cuts := r.Intn(5), anyCuts(r)
		d, p := made(t, sectors, cuts...), plainOf(sectors, cuts)
		for step := range 80 {
			n, s := r.Intn(sectors+2)-1, strings.Repeat(string(rune('a'+r.Intn(26))), r.Intn(260))
			var got, want string
			var e, f api.Errno
			switch r.Intn(8) {
			case 0, 1, 2:
				e, f = d.Write(n, s), p.write(n, s)
			case 3, 4, 5:
				got, e = d.Read(n)
				want, f = p.read(n)
			case 6:
				e, f = d.Flush(), p.flush()
			default:
				d.Up()
				p.up()
			}
			if got != want || e != f {
				t.Fatalf("seed %d, step %d: %q, %d; not %q, %d", seed, step, got, e, want, f)
			}
			counts(t, d, sectors, p.acts, p.fails, p.dead)
		}
	}
}
