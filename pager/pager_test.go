package pager

import (
	"encoding/binary"
	"fmt"
	"hash/crc32"
	"maps"
	"math"
	"math/rand"
	"slices"
	"strings"
	"testing"

	"keyway/api"
	"keyway/disk"
)

const (
	formatActs = 5 // two sectors, flushed, and the state, flushed
	openActs   = 2
)

var blank = strings.Repeat("\x00", 256)

// laid is a sector by the words of the chapters alone.
func laid(p api.Page) string {
	body := make([]byte, 252)
	body[0] = byte(p.Kind)
	binary.LittleEndian.PutUint32(body[1:], uint32(p.Number))
	binary.LittleEndian.PutUint64(body[5:], p.Gen)
	binary.LittleEndian.PutUint16(body[13:], uint16(len(p.Data)))
	copy(body[15:], p.Data)
	return string(binary.LittleEndian.AppendUint32(body, crc32.ChecksumIEEE(body)))
}

// stateSector is the sector of a state by the words of the chapters alone.
func stateSector(gen uint64, root int) string {
	data := string(binary.AppendUvarint(nil, uint64(root+1)))
	return laid(api.Page{Kind: 1, Number: int(gen % 2), Gen: gen, Data: data})
}

// made is a disk that may be.
func made(t *testing.T, sectors int, cuts ...api.Cut) *disk.Disk {
	t.Helper()
	d, e := disk.New(sectors, cuts)
	if e != api.OK {
		t.Fatalf("disk.New(%d) = %d", sectors, e)
	}
	return d
}

// filled is a disk whose sectors begin as they are told, of which some are torn; more cuts come behind.
func filled(t *testing.T, sectors int, says map[int]string, torn []int, more ...api.Cut) *disk.Disk {
	t.Helper()
	cut := api.Cut{At: len(says)}
	order := slices.Sorted(maps.Keys(says))
	for _, n := range order {
		fate := api.FateKept
		if slices.Contains(torn, n) {
			fate = api.FateTorn
		}
		cut.Fates = append(cut.Fates, fate)
	}
	d := made(t, sectors, append([]api.Cut{cut}, more...)...)
	for _, n := range order {
		if e := d.Write(n, says[n]); e != api.OK {
			t.Fatalf("Write(%d) = %d", n, e)
		}
	}
	if e := d.Flush(); e != api.ErrPower {
		t.Fatalf("Flush() = %d", e)
	}
	d.Up()
	return d
}

func formats(t *testing.T, d *disk.Disk, err api.Errno) {
	t.Helper()
	if e := Format(d); e != err {
		t.Fatalf("Format() = %d, not %d", e, err)
	}
}

// opened is the pager of a disk that says a state, whose pages are told.
func opened(t *testing.T, d *disk.Disk, marks ...int) *Pager {
	t.Helper()
	p, e := Open(d)
	if e != api.OK || p == nil {
		t.Fatalf("Open() = %v, %d", p, e)
	}
	for _, n := range marks {
		if !p.Mark(n) {
			t.Fatalf("Mark(%d) = false", n)
		}
	}
	return p
}

// refusesOpen holds that a disk isn't opened.
func refusesOpen(t *testing.T, d *disk.Disk, err api.Errno) {
	t.Helper()
	if p, e := Open(d); e != err || p != nil {
		t.Errorf("Open() = %v, %d; not nil, %d", p, e, err)
	}
}

// begun is the pager of a disk that was formatted.
func begun(t *testing.T, sectors int, cuts ...api.Cut) (*disk.Disk, *Pager) {
	t.Helper()
	d := made(t, sectors, cuts...)
	formats(t, d, api.OK)
	return d, opened(t, d)
}

func adds(t *testing.T, p *Pager, kind int, data string, n int) {
	t.Helper()
	if got, e := p.Add(kind, data); e != api.OK || got != n {
		t.Fatalf("Add(%d, %d bytes) = %d, %d; not %d", kind, len(data), got, e, n)
	}
}

func refusesAdd(t *testing.T, p *Pager, kind int, data string, err api.Errno) {
	t.Helper()
	left := p.Left()
	if got, e := p.Add(kind, data); e != err || got != 0 {
		t.Errorf("Add(%d, %d bytes) = %d, %d; not 0, %d", kind, len(data), got, e, err)
	}
	if p.Left() != left {
		t.Errorf("Add with %d: %d are free, not %d", err, p.Left(), left)
	}
}

func commits(t *testing.T, p *Pager, root int, err api.Errno) {
	t.Helper()
	if e := p.Commit(root); e != err {
		t.Fatalf("Commit(%d) = %d, not %d", root, e, err)
	}
}

// says holds what a page is, asked for its kind.
func says(t *testing.T, p *Pager, n, kind int, gen uint64, data string) {
	t.Helper()
	want := api.Page{Kind: kind, Number: n, Gen: gen, Data: data}
	if got, e := p.Read(n, kind); e != api.OK || got != want {
		t.Errorf("Read(%d, %d) = %v, %d; not %v", n, kind, got, e, want)
	}
}

func refusesRead(t *testing.T, p *Pager, err api.Errno, n int, kinds ...int) {
	t.Helper()
	if got, e := p.Read(n, kinds...); e != err || got != (api.Page{}) {
		t.Errorf("Read(%d, %v) = %v, %d; not nothing, %d", n, kinds, got, e, err)
	}
}

// is holds what a pager says of itself.
func is(t *testing.T, p *Pager, gen uint64, root, left int) {
	t.Helper()
	if got := (api.Super{Gen: gen, Root: root}); p.State() != got {
		t.Errorf("State() = %v, not %v", p.State(), got)
	}
	if p.Left() != left {
		t.Errorf("Left() = %d, not %d", p.Left(), left)
	}
}

// acts holds how many acts of the disk something takes.
func acts(t *testing.T, d *disk.Disk, many int, do func()) {
	t.Helper()
	ahead := d.Acts()
	do()
	if got := d.Acts() - ahead; got != many {
		t.Errorf("%d acts, not %d", got, many)
	}
}

// sector holds what stands on the disk.
func sector(t *testing.T, d *disk.Disk, n int, want string) {
	t.Helper()
	if got, e := d.Read(n); e != api.OK || got != want {
		t.Errorf("sector %d is %x, %d; not %x", n, got, e, want)
	}
}

// fates are all fates of so many writes.
func fates(many int) [][]int {
	all := [][]int{nil}
	for range many {
		var longer [][]int
		for _, f := range all {
			for fate := range 3 {
				longer = append(longer, append(slices.Clone(f), fate))
			}
		}
		all = longer
	}
	return all
}

// place is a sector of a disk that is reckoned here.
type place struct {
	bytes string
	torn  bool
}

// act is a write, or, without a sector, a flush.
type act struct {
	sector int
	bytes  string
}

const flush = -1

// cutAt does acts on some sectors until the power fails in one of them.
func cutAt(sectors map[int]place, todo []act, at int, fates []int) {
	var waits []act
	for i, a := range todo {
		if a.sector != flush {
			waits = append(waits, a)
		}
		if i == at {
			for j, w := range waits {
				switch fates[j] {
				case api.FateKept:
					sectors[w.sector] = place{bytes: w.bytes}
				case api.FateTorn:
					sectors[w.sector] = place{torn: true}
				}
			}
			return
		}
		if a.sector == flush {
			for _, w := range waits {
				sectors[w.sector] = place{bytes: w.bytes}
			}
			waits = nil
		}
	}
}

// stands holds what sectors say, and which are torn.
func stands(t *testing.T, d *disk.Disk, want map[int]place) {
	t.Helper()
	for n, w := range want {
		if got, e := d.Read(n); (e == api.ErrTorn) != w.torn || got != w.bytes {
			t.Errorf("sector %d is %x, %d; not %x, torn %v", n, got, e, w.bytes, w.torn)
		}
	}
}

// finds holds what Open says of sectors 0 and 1.
func finds(t *testing.T, d *disk.Disk, sectors map[int]place) {
	t.Helper()
	var want api.Super
	for n := range 2 {
		s := sectors[n].bytes
		for gen := uint64(n); gen < 9 && s != ""; gen += 2 {
			for root := -1; root < 9; root++ {
				if gen > want.Gen && s == stateSector(gen, root) {
					want = api.Super{Gen: gen, Root: root}
				}
			}
		}
	}
	if want.Gen == 0 {
		refusesOpen(t, d, api.ErrBlank)
		return
	}
	if p, e := Open(d); e != api.OK || p.State() != want {
		t.Errorf("Open() = %v, %d; not %v", p.State(), e, want)
	}
}

// formatting is what Format does.
func formatting() []act {
	return []act{{0, blank}, {1, blank}, {flush, ""}, {1, stateSector(1, -1)}, {flush, ""}}
}

// 8.1, Format: two sectors of noughts, then a state without a root.
func TestFormatBlank(t *testing.T) {
	d := made(t, 5)
	acts(t, d, formatActs, func() { formats(t, d, api.OK) })
	sector(t, d, 0, blank)
	sector(t, d, 1, stateSector(1, -1))
	for n := 2; n < 5; n++ {
		sector(t, d, n, blank)
	}
	is(t, opened(t, d), 1, -1, 3)
}

// 8.1, Format: what was formatted, or has pages, is as a disk that is new; no page is written.
func TestFormatAgain(t *testing.T) {
	d, p := begun(t, 6)
	formats(t, d, api.OK)
	is(t, opened(t, d), 1, -1, 4)
	p = opened(t, d)
	adds(t, p, api.PageLeaf, "a", 2)
	adds(t, p, api.PageInner, "b", 3)
	commits(t, p, 3, api.OK)
	commits(t, p, 2, api.OK)
	acts(t, d, formatActs, func() { formats(t, d, api.OK) })
	sector(t, d, 0, blank)
	sector(t, d, 1, stateSector(1, -1))
	sector(t, d, 2, laid(api.Page{Kind: 2, Number: 2, Gen: 2, Data: "a"}))
	sector(t, d, 3, laid(api.Page{Kind: 3, Number: 3, Gen: 2, Data: "b"}))
	is(t, opened(t, d), 1, -1, 4)
}

// 8.1, Format: what has torn sectors can be formatted, too.
func TestFormatTorn(t *testing.T) {
	d := filled(t, 4, map[int]string{0: "x", 1: "y"}, []int{0, 1})
	refusesOpen(t, d, api.ErrBlank)
	formats(t, d, api.OK)
	is(t, opened(t, d), 1, -1, 2)
}

// 8.1, Format: a disk's error.
func TestFormatErrors(t *testing.T) {
	formats(t, nil, api.ErrPower)
	formats(t, made(t, 0), api.ErrRange)
	formats(t, made(t, 1), api.ErrRange)
	d := made(t, 2)
	formats(t, d, api.OK)
	p := opened(t, d)
	is(t, p, 1, -1, 0)
	refusesAdd(t, p, api.PageLeaf, "", api.ErrFull)
	commits(t, p, -1, api.OK)
	is(t, opened(t, d), 2, -1, 0)
	d = made(t, 4, api.Cut{})
	d.Flush()
	formats(t, d, api.ErrPower)
	if d.Acts() != 1 {
		t.Errorf("%d acts without power, not 1", d.Acts())
	}
}

// 8.1, Format: what each act leaves when the power fails there, of disks that say one thing or another.
func TestFormatCuts(t *testing.T) {
	disks := []map[int]string{
		{0: blank, 1: blank},
		{0: blank, 1: stateSector(1, -1)},
		{0: stateSector(2, 3), 1: stateSector(1, -1)},
		{0: stateSector(4, 3), 1: stateSector(5, 2)},
		{0: "no state", 1: stateSector(7, -1)},
	}
	for _, start := range disks {
		for at := range formatting() {
			for _, f := range fates(2) {
				sectors := map[int]place{}
				for n, s := range start {
					sectors[n] = place{bytes: s + blank[len(s):]}
				}
				d := filled(t, 4, start, nil, api.Cut{At: at, Fates: f})
				formats(t, d, api.ErrPower)
				d.Up()
				cutAt(sectors, formatting(), at, f)
				stands(t, d, sectors)
				finds(t, d, sectors)
			}
		}
	}
}

// 8.1, Format: all of it is there for good.
func TestFormatFlushed(t *testing.T) {
	d := filled(t, 4, map[int]string{0: stateSector(6, 2), 1: stateSector(5, 2)}, nil, api.Cut{At: formatActs})
	formats(t, d, api.OK)
	d.Flush()
	d.Up()
	is(t, opened(t, d), 1, -1, 2)
	sector(t, d, 0, blank)
}

// 8.1, Open: the later one of what the sectors 0 and 1 say; a torn one says nothing.
func TestOpenStates(t *testing.T) {
	cases := []struct {
		even, odd string
		torn      []int
		gen       uint64
		root      int
		err       api.Errno
	}{
		{blank, blank, nil, 0, 0, api.ErrBlank},
		{blank, stateSector(1, -1), nil, 1, -1, api.OK},
		{stateSector(2, 3), blank, nil, 2, 3, api.OK},
		{stateSector(2, 3), stateSector(1, -1), nil, 2, 3, api.OK},
		{stateSector(2, 3), stateSector(3, 2), nil, 3, 2, api.OK},
		{stateSector(2, 3), stateSector(3, 2), []int{1}, 2, 3, api.OK},
		{stateSector(2, 3), stateSector(3, 2), []int{0}, 3, 2, api.OK},
		{stateSector(4, 3), stateSector(3, 2), []int{0}, 3, 2, api.OK},
		{stateSector(4, 3), stateSector(3, 2), []int{0, 1}, 0, 0, api.ErrBlank},
		{"says nothing", stateSector(3, 2), nil, 3, 2, api.OK},
		{stateSector(4, 3), "says nothing", nil, 4, 3, api.OK},
		{"says nothing", "nor does this", nil, 0, 0, api.ErrBlank},
		{"says nothing", stateSector(3, 2), []int{1}, 0, 0, api.ErrBlank},
		{stateSector(3, 2), stateSector(4, 3), nil, 0, 0, api.ErrBlank},
		{laid(api.Page{Kind: 2, Number: 0, Gen: 2, Data: "\x00"}), blank, nil, 0, 0, api.ErrBlank},
		{stateSector(1<<62-2, 3), stateSector(1<<62-1, api.MostSectors-1), nil, 1<<62 - 1, api.MostSectors - 1, api.OK},
	}
	for i, c := range cases {
		d := filled(t, 7, map[int]string{0: c.even, 1: c.odd}, c.torn)
		ahead := d.Acts()
		p, e := Open(d)
		if e != c.err || (p == nil) != (e != api.OK) {
			t.Errorf("case %d: Open() = %v, %d; not %d", i, p, e, c.err)
			continue
		}
		if d.Acts() != ahead+openActs {
			t.Errorf("case %d: %d acts, not %d", i, d.Acts()-ahead, openActs)
		}
		if e == api.OK {
			is(t, p, c.gen, c.root, 5)
		}
	}
}

// 8.1, Open: a disk's error.
func TestOpenErrors(t *testing.T) {
	refusesOpen(t, nil, api.ErrPower)
	refusesOpen(t, made(t, 0), api.ErrRange)
	refusesOpen(t, made(t, 1), api.ErrRange)
	refusesOpen(t, filled(t, 1, map[int]string{0: stateSector(2, -1)}, nil), api.ErrRange)
	refusesOpen(t, made(t, 2), api.ErrBlank)
	for at := range openActs {
		d := made(t, 5, api.Cut{At: formatActs + at})
		formats(t, d, api.OK)
		refusesOpen(t, d, api.ErrPower)
		refusesOpen(t, d, api.ErrPower)
		if d.Acts() != formatActs+at+1 {
			t.Errorf("%d acts, not %d", d.Acts(), formatActs+at+1)
		}
		d.Up()
		is(t, opened(t, d), 1, -1, 3)
	}
	d := filled(t, 3, map[int]string{0: "x"}, []int{0}, api.Cut{At: 1})
	refusesOpen(t, d, api.ErrPower)
}

// 8.1, Open: it writes nothing.
func TestOpenWritesNothing(t *testing.T) {
	start := map[int]string{0: stateSector(2, 2), 1: stateSector(1, -1), 2: "x"}
	d := filled(t, 3, start, nil, api.Cut{At: 8, Fates: []int{1, 1, 1, 1}})
	opened(t, d)
	for !d.Dead() {
		d.Flush()
	}
	d.Up()
	for n, s := range start {
		sector(t, d, n, s+blank[len(s):])
	}
}

// 8.1, Mark: each page of the state once.
func TestMark(t *testing.T) {
	d := made(t, 6)
	formats(t, d, api.OK)
	p := opened(t, d)
	acts(t, d, 0, func() {
		for _, n := range []int{3, 5, 2, 4} {
			left := p.Left()
			if !p.Mark(n) || p.Left() != left-1 {
				t.Errorf("Mark(%d): %d of %d are free", n, p.Left(), left)
			}
			if p.Mark(n) || p.Left() != left-1 {
				t.Errorf("Mark(%d) again: %d of %d are free", n, p.Left(), left)
			}
		}
	})
	for _, n := range []int{math.MinInt, -2, -1, 0, 1, 6, 7, 64, api.MostSectors, math.MaxInt} {
		if p.Mark(n) {
			t.Errorf("Mark(%d) = true", n)
		}
	}
	is(t, p, 1, -1, 0)
	refusesAdd(t, p, api.PageLeaf, "", api.ErrFull)
}

// 8.1, Mark: such a page is neither added nor forgotten; it is free with the commit behind its Drop.
func TestMarkIsCommitted(t *testing.T) {
	_, p := begun(t, 6)
	p.Mark(2)
	p.Mark(4)
	adds(t, p, api.PageLeaf, "", 3)
	adds(t, p, api.PageLeaf, "", 5)
	refusesAdd(t, p, api.PageLeaf, "", api.ErrFull)
	p.Undo()
	is(t, p, 1, -1, 2)
	p.Drop(4)
	is(t, p, 1, -1, 2)
	commits(t, p, 2, api.OK)
	is(t, p, 2, 2, 3)
	if p.Mark(2) || p.Mark(0) {
		t.Error("a page was told twice")
	}
}

// Words: pages are the sectors from FirstPage on.
func TestPagesFrom(t *testing.T) {
	if api.FirstPage != 2 {
		t.Error(api.FirstPage)
	}
	for sectors := 2; sectors < 9; sectors++ {
		_, p := begun(t, sectors)
		is(t, p, 1, -1, sectors-2)
		for n := 2; n < sectors; n++ {
			adds(t, p, api.PageLeaf, "", n)
			is(t, p, 1, -1, sectors-1-n)
		}
		refusesAdd(t, p, api.PageLeaf, "", api.ErrFull)
	}
}

// Words: a disk of as many sectors as may be.
func TestMostPages(t *testing.T) {
	d, p := begun(t, api.MostSectors)
	for n := 2; n < api.MostSectors; n++ {
		if n > 2 && n < api.MostSectors-1 {
			p.Mark(n)
		}
	}
	is(t, p, 1, -1, 2)
	adds(t, p, api.PageLeaf, "a", 2)
	adds(t, p, api.PageLeaf, "z", api.MostSectors-1)
	refusesAdd(t, p, api.PageLeaf, "", api.ErrFull)
	commits(t, p, api.MostSectors-1, api.OK)
	q := opened(t, d, 2, api.MostSectors-1)
	is(t, q, 2, api.MostSectors-1, api.MostSectors-4)
	says(t, q, 2, api.PageLeaf, 2, "a")
	says(t, q, api.MostSectors-1, api.PageLeaf, 2, "z")
}

// The chapter's example: Add, Commit, Open, Mark, Read.
func TestExample(t *testing.T) {
	d, p := begun(t, 6)
	adds(t, p, api.PageLeaf, "x", 2)
	commits(t, p, 2, api.OK)
	q := opened(t, d, 2)
	is(t, q, 2, 2, 3)
	says(t, q, 2, api.PageLeaf, 2, "x")
}

// Words: new pages are of generation Gen + 1, and stay in memory until they are committed.
func TestNewPages(t *testing.T) {
	d, p := begun(t, 7)
	acts(t, d, 0, func() {
		adds(t, p, api.PageLeaf, "a", 2)
		adds(t, p, api.PageInner, "b", 3)
		says(t, p, 2, api.PageLeaf, 2, "a")
		says(t, p, 3, api.PageInner, 2, "b")
		p.Drop(2)
		adds(t, p, api.PageChain, "c", 2)
		says(t, p, 2, api.PageChain, 2, "c")
	})
	sector(t, d, 2, blank)
	sector(t, d, 3, blank)
	commits(t, p, 3, api.OK)
	sector(t, d, 2, laid(api.Page{Kind: 4, Number: 2, Gen: 2, Data: "c"}))
	sector(t, d, 3, laid(api.Page{Kind: 3, Number: 3, Gen: 2, Data: "b"}))
	adds(t, p, api.PageLeaf, "d", 4)
	says(t, p, 4, api.PageLeaf, 3, "d")
	says(t, p, 3, api.PageInner, 2, "b")
}

// Words: when pages are committed they are in memory no more: the disk says what they are.
func TestCommittedPagesAreOnDisk(t *testing.T) {
	d, p := begun(t, 5)
	adds(t, p, api.PageLeaf, "a", 2)
	commits(t, p, 2, api.OK)
	acts(t, d, 1, func() { says(t, p, 2, api.PageLeaf, 2, "a") })
}

// 8.2, Read: of the right kind, of another one, of several, of none.
func TestReadKinds(t *testing.T) {
	kinds := []int{api.PageSuper, api.PageLeaf, api.PageInner, api.PageChain}
	d, p := begun(t, 9)
	for i, kind := range kinds {
		adds(t, p, kind, fmt.Sprint(kind), 2+i)
	}
	look := func(p *Pager) {
		for i, kind := range kinds {
			n := 2 + i
			want := api.Page{Kind: kind, Number: n, Gen: 2, Data: fmt.Sprint(kind)}
			for set := range 16 {
				var asked []int
				for j, k := range kinds {
					if set>>j&1 == 1 {
						asked = append(asked, k)
					}
				}
				given := slices.Clone(asked)
				if set>>i&1 == 0 {
					refusesRead(t, p, api.ErrPage, n, asked...)
				} else if got, e := p.Read(n, asked...); e != api.OK || got != want {
					t.Errorf("Read(%d, %v) = %v, %d", n, asked, got, e)
				}
				if !slices.Equal(asked, given) {
					t.Errorf("kinds %v are %v now", given, asked)
				}
			}
			refusesRead(t, p, api.ErrPage, n, 0, 5, -1, math.MaxInt, kind+256)
			if got, e := p.Read(n, 0, kind, 9, kind); e != api.OK || got != want {
				t.Errorf("Read(%d) = %v, %d", n, got, e)
			}
		}
	}
	look(p) // new ones
	commits(t, p, 3, api.OK)
	look(p)
	look(p) // held ones
	look(opened(t, d, 2, 3, 4, 5))
}

// 8.2, Read: a sector that is torn, that says no page, or another one.
func TestReadSectors(t *testing.T) {
	leaf := func(n int) string { return laid(api.Page{Kind: 2, Number: n, Gen: 1, Data: "x"}) }
	broken := []byte(leaf(5))
	broken[40]++
	d := filled(t, 12, map[int]string{
		0: blank, 1: stateSector(1, -1),
		2: leaf(2), 3: leaf(2), 4: leaf(4), 5: string(broken), 6: "text", 8: leaf(8 + 1<<8), 9: leaf(api.MostSectors), 10: leaf(0),
	}, []int{4})
	p := opened(t, d, 2, 3, 4, 5, 6, 7, 8, 9, 10)
	for range 2 {
		says(t, p, 2, api.PageLeaf, 1, "x")
		refusesRead(t, p, api.ErrTorn, 4, api.PageLeaf)
		refusesRead(t, p, api.ErrTorn, 4)
		for _, n := range []int{3, 5, 6, 7, 8, 9, 10, 11} {
			refusesRead(t, p, api.ErrPage, n, 1, 2, 3, 4)
		}
	}
	is(t, p, 1, -1, 1)
}

// 8.2, Read: places that are none.
func TestReadNoPlaces(t *testing.T) {
	d, p := begun(t, 5)
	adds(t, p, api.PageLeaf, "x", 2)
	commits(t, p, 2, api.OK)
	for range 2 {
		refusesRead(t, p, api.ErrPage, 0, 1, 2, 3, 4)
		refusesRead(t, p, api.ErrPage, 1, 1, 2, 3, 4)
		for _, n := range []int{math.MinInt, -1, 5, 6, api.MostSectors, math.MaxInt} {
			refusesRead(t, p, api.ErrRange, n, 1, 2, 3, 4)
		}
	}
	q := opened(t, d)
	refusesRead(t, q, api.ErrPage, 1, api.PageSuper)
	refusesRead(t, q, api.ErrPage, 0, api.PageSuper)
}

// 8.2, Read: a page that was read is held, as long as there is power.
func TestReadHolds(t *testing.T) {
	leaf := func(n int, data string) string { return laid(api.Page{Kind: 2, Number: n, Gen: 1, Data: data}) }
	start := map[int]string{0: blank, 1: stateSector(1, -1), 2: leaf(2, "a"), 3: leaf(3, "b"), 4: leaf(4, "c")}
	d := filled(t, 6, start, nil, api.Cut{At: 9})
	p := opened(t, d, 2, 3, 4)          // acts 0 and 1
	says(t, p, 2, api.PageLeaf, 1, "a") // 2
	says(t, p, 3, api.PageLeaf, 1, "b") // 3
	d.Write(2, leaf(2, "z"))            // 4
	d.Write(3, "nothing")               // 5
	d.Write(4, leaf(4, "y"))            // 6
	d.Flush()                           // 7
	adds(t, p, api.PageChain, "new", 5)
	acts(t, d, 0, func() {
		for range 3 {
			says(t, p, 2, api.PageLeaf, 1, "a")
			says(t, p, 3, api.PageLeaf, 1, "b")
			refusesRead(t, p, api.ErrPage, 2, api.PageInner)
			refusesRead(t, p, api.ErrPage, 3)
		}
	})
	says(t, p, 4, api.PageLeaf, 1, "y") // 8: it was not read yet
	p.Undo()
	p.Drop(2)
	acts(t, d, 0, func() { says(t, p, 2, api.PageLeaf, 1, "a") })
	adds(t, p, api.PageChain, "new", 5)
	d.Flush() // 9: the power fails
	acts(t, d, 0, func() {
		for _, n := range []int{2, 3, 4} {
			refusesRead(t, p, api.ErrPower, n, api.PageLeaf)
		}
		says(t, p, 5, api.PageChain, 2, "new")
	})
	d.Up()
	acts(t, d, 3, func() {
		says(t, p, 2, api.PageLeaf, 1, "z")
		refusesRead(t, p, api.ErrPage, 3, api.PageLeaf)
		says(t, p, 4, api.PageLeaf, 1, "y")
	})
	acts(t, d, 0, func() { says(t, p, 2, api.PageLeaf, 1, "z") })
	says(t, p, 5, api.PageChain, 2, "new")
}

// 8.2, Read: held pages go when the power failed and came back between two calls, too.
func TestReadHoldsNoLonger(t *testing.T) {
	leaf := laid(api.Page{Kind: 2, Number: 2, Gen: 1, Data: "a"})
	start := map[int]string{0: blank, 1: stateSector(1, -1), 2: leaf}
	d := filled(t, 4, start, nil, api.Cut{At: 3}, api.Cut{At: 2})
	p := opened(t, d, 2)
	says(t, p, 2, api.PageLeaf, 1, "a")
	d.Flush()
	d.Up()
	acts(t, d, 1, func() { says(t, p, 2, api.PageLeaf, 1, "a") })
	acts(t, d, 0, func() { says(t, p, 2, api.PageLeaf, 1, "a") })
	d.Flush()
	d.Flush()
	d.Up()
	acts(t, d, 1, func() { says(t, p, 2, api.PageLeaf, 1, "a") })
}

// 8.2, Read: the power fails in it.
func TestReadCut(t *testing.T) {
	d, p := begun(t, 4, api.Cut{At: formatActs + openActs + 4})
	adds(t, p, api.PageLeaf, "a", 2)
	commits(t, p, 2, api.OK)
	refusesRead(t, p, api.ErrPower, 2, api.PageLeaf)
	refusesRead(t, p, api.ErrPower, 0, api.PageSuper)
	refusesRead(t, p, api.ErrPower, 9, api.PageLeaf)
	d.Up()
	says(t, p, 2, api.PageLeaf, 2, "a")
}

// 8.2, Read: what was held of a place says nothing of the page that is put there.
func TestReadPlaceAgain(t *testing.T) {
	_, p := begun(t, 4)
	adds(t, p, api.PageLeaf, "a", 2)
	commits(t, p, 2, api.OK)
	says(t, p, 2, api.PageLeaf, 2, "a")
	p.Drop(2)
	says(t, p, 2, api.PageLeaf, 2, "a")
	commits(t, p, -1, api.OK)
	adds(t, p, api.PageInner, "b", 2)
	says(t, p, 2, api.PageInner, 4, "b")
	p.Drop(2)
	says(t, p, 2, api.PageLeaf, 2, "a") // what stands there still
	adds(t, p, api.PageInner, "c", 2)
	commits(t, p, 2, api.OK)
	says(t, p, 2, api.PageInner, 4, "c")
	refusesRead(t, p, api.ErrPage, 2, api.PageLeaf)
}

// 8.2, Add: each kind that may be, and Data of as many bytes as may be.
func TestAdd(t *testing.T) {
	d, p := begun(t, 30)
	n := 2
	for kind := api.PageSuper; kind <= api.PageChain; kind++ {
		for _, many := range []int{0, 1, api.PageBytes - 1, api.PageBytes} {
			adds(t, p, kind, strings.Repeat("\xff", many), n)
			n++
		}
	}
	is(t, p, 1, -1, 12)
	long := strings.Repeat("x", api.PageBytes+1)
	for _, kind := range []int{math.MinInt, -1, 0, 5, 6, 257, 258, math.MaxInt} {
		refusesAdd(t, p, kind, "", api.ErrInput)
		refusesAdd(t, p, kind, long, api.ErrInput)
	}
	for kind := api.PageSuper; kind <= api.PageChain; kind++ {
		refusesAdd(t, p, kind, long, api.ErrInput)
		refusesAdd(t, p, kind, strings.Repeat(long, 300), api.ErrInput)
	}
	adds(t, p, api.PageLeaf, "last", n)
	commits(t, p, n, api.OK)
	q := opened(t, d)
	m := 2
	for kind := api.PageSuper; kind <= api.PageChain; kind++ {
		for _, many := range []int{0, 1, api.PageBytes - 1, api.PageBytes} {
			says(t, q, m, kind, 2, strings.Repeat("\xff", many))
			m++
		}
	}
	says(t, q, n, api.PageLeaf, 2, "last")
}

// 8.2, Add: ErrFull is told ahead of ErrInput.
func TestAddFull(t *testing.T) {
	_, p := begun(t, 3)
	refusesAdd(t, p, 0, "", api.ErrInput)
	adds(t, p, api.PageLeaf, "a", 2)
	refusesAdd(t, p, api.PageLeaf, "b", api.ErrFull)
	refusesAdd(t, p, 0, "", api.ErrFull)
	refusesAdd(t, p, api.PageLeaf, strings.Repeat("x", api.PageBytes+1), api.ErrFull)
	says(t, p, 2, api.PageLeaf, 2, "a")
}

// 8.2, Add: without power, too, the first free page is taken.
func TestAddWithoutPower(t *testing.T) {
	d, p := begun(t, 6, api.Cut{At: formatActs + openActs})
	adds(t, p, api.PageLeaf, "a", 2)
	commits(t, p, 2, api.ErrPower)
	adds(t, p, api.PageLeaf, "b", 3)
	p.Drop(2)
	adds(t, p, api.PageLeaf, "c", 2)
	is(t, p, 1, -1, 2)
	commits(t, p, 2, api.ErrPower)
	d.Up()
	commits(t, p, 3, api.OK)
	q := opened(t, d, 2, 3)
	is(t, q, 2, 3, 2)
	says(t, q, 2, api.PageLeaf, 2, "c")
	says(t, q, 3, api.PageLeaf, 2, "b")
}

// 8.2, Drop: a new page is free at once.
func TestDropNew(t *testing.T) {
	d, p := begun(t, 6)
	for n := 2; n < 6; n++ {
		adds(t, p, api.PageLeaf, "a", n)
	}
	p.Drop(3)
	is(t, p, 1, -1, 1)
	p.Drop(3)
	is(t, p, 1, -1, 1)
	refusesRead(t, p, api.ErrPage, 3, api.PageLeaf)
	p.Drop(5)
	is(t, p, 1, -1, 2)
	adds(t, p, api.PageInner, "b", 3)
	says(t, p, 3, api.PageInner, 2, "b")
	acts(t, d, 6, func() { commits(t, p, 2, api.OK) })
	is(t, p, 2, 2, 1)
	sector(t, d, 5, blank)
}

// 8.2, Drop: a page of the committed state is free with the next commit, and says till then what it said.
func TestDropCommitted(t *testing.T) {
	d, p := begun(t, 5)
	adds(t, p, api.PageLeaf, "a", 2)
	adds(t, p, api.PageLeaf, "b", 3)
	commits(t, p, 2, api.OK)
	for range 2 {
		p.Drop(2)
		is(t, p, 2, 2, 1)
		says(t, p, 2, api.PageLeaf, 2, "a")
	}
	adds(t, p, api.PageLeaf, "c", 4)
	refusesAdd(t, p, api.PageLeaf, "d", api.ErrFull)
	commits(t, p, 3, api.OK)
	is(t, p, 3, 3, 1)
	adds(t, p, api.PageLeaf, "d", 2)
	refusesAdd(t, p, api.PageLeaf, "e", api.ErrFull)
	commits(t, p, 4, api.OK)
	q := opened(t, d, 2, 3, 4)
	is(t, q, 4, 4, 0)
	says(t, q, 2, api.PageLeaf, 4, "d")
	says(t, q, 3, api.PageLeaf, 2, "b")
	says(t, q, 4, api.PageLeaf, 3, "c")
}

// 8.2, Drop: what is free or none stays so.
func TestDropNothing(t *testing.T) {
	_, p := begun(t, 5)
	p.Mark(3)
	none := []int{math.MinInt, -1, 0, 1, 2, 4, 5, 6, api.MostSectors, math.MaxInt}
	for _, n := range none {
		p.Drop(n)
		is(t, p, 1, -1, 2)
	}
	commits(t, p, 3, api.OK)
	is(t, p, 2, 3, 2)
	for _, n := range none {
		p.Drop(n)
	}
	commits(t, p, 3, api.OK)
	is(t, p, 3, 3, 2)
	adds(t, p, api.PageLeaf, "", 2)
	adds(t, p, api.PageLeaf, "", 4)
	refusesAdd(t, p, api.PageLeaf, "", api.ErrFull)
}

// 8.2, Drop: a page that was dropped ahead of a commit, and is added behind it, is a new one.
func TestDropAndAddAgain(t *testing.T) {
	_, p := begun(t, 3)
	adds(t, p, api.PageLeaf, "a", 2)
	commits(t, p, 2, api.OK)
	p.Drop(2)
	commits(t, p, -1, api.OK)
	is(t, p, 3, -1, 1)
	adds(t, p, api.PageLeaf, "b", 2)
	p.Drop(2)
	is(t, p, 3, -1, 1)
	adds(t, p, api.PageLeaf, "c", 2)
	commits(t, p, 2, api.OK)
	is(t, p, 4, 2, 0)
	p.Drop(2)
	is(t, p, 4, 2, 0)
}

// 8.2, Undo: behind each of the others it is as it is committed.
func TestUndo(t *testing.T) {
	d, p := begun(t, 7)
	adds(t, p, api.PageLeaf, "a", 2)
	adds(t, p, api.PageLeaf, "b", 3)
	commits(t, p, 3, api.OK)
	undone := func(do func()) {
		t.Helper()
		do()
		acts(t, d, 0, p.Undo)
		is(t, p, 2, 3, 3)
		says(t, p, 2, api.PageLeaf, 2, "a")
		says(t, p, 3, api.PageLeaf, 2, "b")
		refusesRead(t, p, api.ErrPage, 4, api.PageLeaf)
		refusesRead(t, p, api.ErrPage, 5, api.PageLeaf)
	}
	undone(func() {})
	undone(func() { adds(t, p, api.PageLeaf, "c", 4); adds(t, p, api.PageLeaf, "d", 5) })
	undone(func() { adds(t, p, api.PageLeaf, "c", 4); p.Drop(4) })
	undone(func() { p.Drop(2); p.Drop(3) })
	undone(func() { p.Drop(2); adds(t, p, api.PageLeaf, "c", 4); p.Drop(9) })
	undone(func() { refusesAdd(t, p, 0, "", api.ErrInput) })
	undone(func() { adds(t, p, api.PageLeaf, "c", 4); commits(t, p, -2, api.ErrInput) })
	undone(func() { p.Undo() })
	p.Drop(2)
	p.Undo()
	commits(t, p, 3, api.OK) // the drop is forgotten
	is(t, p, 3, 3, 3)
	sector(t, d, 4, blank)
	adds(t, p, api.PageLeaf, "e", 4)
	commits(t, p, 4, api.OK)
	p.Undo()
	is(t, p, 4, 4, 2)
	says(t, p, 4, api.PageLeaf, 4, "e")
}

// 8.2, Undo: without power, too.
func TestUndoWithoutPower(t *testing.T) {
	d, p := begun(t, 5, api.Cut{At: formatActs + openActs + 1})
	adds(t, p, api.PageLeaf, "a", 2)
	adds(t, p, api.PageLeaf, "b", 3)
	commits(t, p, 2, api.ErrPower)
	is(t, p, 1, -1, 1)
	p.Undo()
	is(t, p, 1, -1, 3)
	refusesRead(t, p, api.ErrPower, 2, api.PageLeaf)
	d.Up()
	adds(t, p, api.PageLeaf, "c", 2)
	commits(t, p, 2, api.OK)
	is(t, opened(t, d, 2), 2, 2, 2)
}

// 8.2, Commit: which roots may be.
func TestCommitRoots(t *testing.T) {
	d, p := begun(t, 6)
	gen := uint64(1)
	for _, root := range []int{-1, 2, 5, 0, 1, 6, api.MostSectors - 1, -1} {
		commits(t, p, root, api.OK)
		gen++
		is(t, p, gen, root, 4)
		is(t, opened(t, d), gen, root, 4)
	}
	adds(t, p, api.PageLeaf, "a", 2)
	for _, root := range []int{math.MinInt, -3, -2, api.MostSectors, api.MostSectors + 1, math.MaxInt} {
		acts(t, d, 0, func() { commits(t, p, root, api.ErrInput) })
		is(t, p, gen, -1, 3)
		says(t, p, 2, api.PageLeaf, gen+1, "a")
	}
	commits(t, p, 2, api.OK)
	is(t, p, gen+1, 2, 3)
}

// 8.2, Commit: there is no generation beyond the last one.
func TestCommitLastGeneration(t *testing.T) {
	d := filled(t, 4, map[int]string{0: stateSector(1<<62-2, -1)}, nil)
	p := opened(t, d)
	adds(t, p, api.PageLeaf, "a", 2)
	commits(t, p, 2, api.OK)
	is(t, p, 1<<62-1, 2, 1)
	adds(t, p, api.PageLeaf, "b", 3)
	acts(t, d, 0, func() { commits(t, p, 3, api.ErrInput) })
	is(t, opened(t, d, 2), 1<<62-1, 2, 1)
}

// 8.2, Commit: ErrInput ahead of a disk's error.
func TestCommitErrorsInOrder(t *testing.T) {
	d, p := begun(t, 4, api.Cut{At: formatActs + openActs})
	d.Flush()
	commits(t, p, -2, api.ErrInput)
	commits(t, p, -1, api.ErrPower)
	is(t, p, 1, -1, 2)
}

// Words: by turns, a state's sector is 0 and 1; a commit takes an act a page, and three.
func TestCommitActs(t *testing.T) {
	d, p := begun(t, 9)
	for gen := uint64(2); gen < 6; gen++ {
		ahead, _ := d.Read(int(gen-1) % 2)
		n := int(gen)
		adds(t, p, api.PageLeaf, fmt.Sprint(n), n)
		acts(t, d, 4, func() { commits(t, p, n, api.OK) })
		sector(t, d, int(gen)%2, stateSector(gen, n))
		sector(t, d, int(gen-1)%2, ahead)
	}
	acts(t, d, 3, func() { commits(t, p, 2, api.OK) })
	sector(t, d, 0, stateSector(6, 2))
}

// committing is a disk with pages 2 to 4 committed, of which 3 is dropped; the places 5, 6 and 7 have new pages, 5 the one added last.
func committing(t *testing.T, cuts ...api.Cut) (*disk.Disk, *Pager) {
	t.Helper()
	d, p := begun(t, 9, cuts...)
	adds(t, p, api.PageLeaf, "two", 2)
	adds(t, p, api.PageInner, "three", 3)
	adds(t, p, api.PageChain, "four", 4)
	commits(t, p, 2, api.OK)
	for n := 5; n < 8; n++ {
		adds(t, p, api.PageLeaf, "new", n)
	}
	p.Drop(5)
	p.Drop(3)
	adds(t, p, api.PageInner, "last", 5)
	return d, p
}

const committingActs = formatActs + openActs + 6

// ahead and behind are what stands on that disk ahead of the next commit and behind it.
func ahead() map[int]place {
	return map[int]place{
		0: {bytes: stateSector(2, 2)},
		1: {bytes: stateSector(1, -1)},
		2: {bytes: laid(api.Page{Kind: 2, Number: 2, Gen: 2, Data: "two"})},
		3: {bytes: laid(api.Page{Kind: 3, Number: 3, Gen: 2, Data: "three"})},
		4: {bytes: laid(api.Page{Kind: 4, Number: 4, Gen: 2, Data: "four"})},
		5: {bytes: blank}, 6: {bytes: blank}, 7: {bytes: blank}, 8: {bytes: blank},
	}
}

// todo is what the next commit does: pages, rising, flushed, then the state, flushed.
func todo() []act {
	return []act{
		{5, laid(api.Page{Kind: 3, Number: 5, Gen: 3, Data: "last"})},
		{6, laid(api.Page{Kind: 2, Number: 6, Gen: 3, Data: "new"})},
		{7, laid(api.Page{Kind: 2, Number: 7, Gen: 3, Data: "new"})},
		{flush, ""},
		{1, stateSector(3, 6)},
		{flush, ""},
	}
}

// holdsState holds that a disk says the state ahead, or the new one, and that all of its pages say what they said.
func holdsState(t *testing.T, d *disk.Disk) {
	t.Helper()
	p, e := Open(d)
	if e != api.OK {
		t.Errorf("Open() = %d", e)
		return
	}
	pages := []int{2, 3, 4}
	if p.State().Gen == 3 {
		pages = []int{2, 4, 5, 6, 7}
	}
	for _, n := range pages {
		if !p.Mark(n) {
			t.Errorf("Mark(%d) = false", n)
		}
	}
	switch p.State() {
	case api.Super{Gen: 2, Root: 2}:
		is(t, p, 2, 2, 4)
		says(t, p, 3, api.PageInner, 2, "three")
	case api.Super{Gen: 3, Root: 6}:
		is(t, p, 3, 6, 2)
		says(t, p, 5, api.PageInner, 3, "last")
		says(t, p, 6, api.PageLeaf, 3, "new")
		says(t, p, 7, api.PageLeaf, 3, "new")
	default:
		t.Errorf("State() = %v", p.State())
	}
	says(t, p, 2, api.PageLeaf, 2, "two")
	says(t, p, 4, api.PageChain, 2, "four")
}

// Words, 8.2, Commit: whole.
func TestCommit(t *testing.T) {
	d, p := committing(t)
	if d.Acts() != committingActs {
		t.Fatalf("%d acts, not %d", d.Acts(), committingActs)
	}
	stands(t, d, ahead())
	is(t, p, 2, 2, 1)
	acts(t, d, len(todo()), func() { commits(t, p, 6, api.OK) })
	is(t, p, 3, 6, 2)
	want := ahead()
	for _, a := range todo() {
		if a.sector != flush {
			want[a.sector] = place{bytes: a.bytes}
		}
	}
	stands(t, d, want)
	holdsState(t, d)
}

// Words, 8.2, Commit: when the power fails at each of its acts, whatever becomes of what was not flushed.
func TestCommitCuts(t *testing.T) {
	for at := range todo() {
		for _, f := range fates(3) {
			d, p := committing(t, api.Cut{At: committingActs + at, Fates: f})
			commits(t, p, 6, api.ErrPower)
			is(t, p, 2, 2, 1)
			says(t, p, 5, api.PageInner, 3, "last")
			refusesRead(t, p, api.ErrPower, 2, api.PageLeaf)
			d.Up()
			want := ahead()
			cutAt(want, todo(), at, f)
			stands(t, d, want)
			holdsState(t, d)
		}
	}
}

// Words, 8.2, Commit: all of it is there for good.
func TestCommitFlushed(t *testing.T) {
	d, p := committing(t, api.Cut{At: committingActs + 6})
	commits(t, p, 6, api.OK)
	d.Flush()
	d.Up()
	if q, e := Open(d); e != api.OK || q.State().Gen != 3 {
		t.Errorf("%v, %d", q.State(), e)
	}
	holdsState(t, d)
}

// Words, 8.2, Commit: a pager that goes on when the power failed in it writes no page of what perhaps was committed.
func TestCommitAgain(t *testing.T) {
	for first := range todo() {
		for fate := range 3 {
			for second := range 9 {
				for again := range 3 {
					many := func(f int) []int { return []int{f, f, f} }
					d, p := committing(t, api.Cut{At: committingActs + first, Fates: many(fate)}, api.Cut{At: second, Fates: many(again)})
					commits(t, p, 6, api.ErrPower)
					d.Up()
					e := p.Commit(6)
					if e == api.OK {
						is(t, p, 3, 6, 2)
					} else {
						is(t, p, 2, 2, 1)
					}
					for !d.Dead() {
						d.Flush()
					}
					d.Up()
					holdsState(t, d)
					q, _ := Open(d)
					if e == api.OK && q.State().Gen != 3 {
						t.Errorf("a state that was committed is lost")
					}
				}
			}
		}
	}
}

// Words, 8.2, Commit: likewise, when all is forgotten ahead of it, and other pages are added.
func TestCommitOthers(t *testing.T) {
	for first := range todo() {
		for fate := range 3 {
			for second := range 9 {
				for _, f := range fates(2) {
					fate3 := []int{fate, fate, fate}
					d, p := committing(t, api.Cut{At: committingActs + first, Fates: fate3}, api.Cut{At: second, Fates: f})
					commits(t, p, 6, api.ErrPower)
					p.Undo()
					is(t, p, 2, 2, 4)
					d.Up()
					adds(t, p, api.PageLeaf, "other", 5)
					adds(t, p, api.PageLeaf, "others", 6)
					e := p.Commit(5)
					for !d.Dead() {
						d.Flush()
					}
					d.Up()
					q := opened(t, d)
					if q.State() == (api.Super{Gen: 3, Root: 5}) {
						says(t, q, 5, api.PageLeaf, 3, "other")
						says(t, q, 6, api.PageLeaf, 3, "others")
						says(t, q, 3, api.PageInner, 2, "three")
						continue
					}
					if e == api.OK {
						t.Errorf("a state that was committed is lost")
					}
					holdsState(t, d)
				}
			}
		}
	}
}

// nil and what nobody opened answer, and nothing panics.
func TestNil(t *testing.T) {
	var p *Pager
	is(t, p, 0, 0, 0)
	for _, n := range []int{math.MinInt, -1, 0, 2, math.MaxInt} {
		if p.Mark(n) {
			t.Errorf("Mark(%d) of nil", n)
		}
		refusesRead(t, p, api.ErrInput, n, api.PageLeaf)
		refusesRead(t, p, api.ErrInput, n)
		p.Drop(n)
		commits(t, p, n, api.ErrInput)
	}
	refusesAdd(t, p, api.PageLeaf, "a", api.ErrInput)
	p.Undo()
	commits(t, p, -1, api.ErrInput)
	is(t, p, 0, 0, 0)
}

func TestUnopened(t *testing.T) {
	var p Pager
	if p.Mark(2) || p.Left() != 0 {
		t.Error("it has pages")
	}
	refusesRead(t, &p, api.ErrPower, 2, api.PageLeaf)
	refusesAdd(t, &p, api.PageLeaf, "a", api.ErrFull)
	p.Drop(2)
	p.Undo()
	commits(t, &p, -1, api.ErrPower)
	is(t, &p, 0, 0, 0)
}

// version is a state and its pages, as they are reckoned here.
type version struct {
	state api.Super
	pages map[int]api.Page
}

func (v version) copied() version { return version{v.state, maps.Clone(v.pages)} }

// walk is a pager at random, what it must say, and what its disk may say.
type walk struct {
	r       *rand.Rand
	d       *disk.Disk
	p       *Pager
	sectors int
	last    version   // what the pager has committed
	next    version   // with what is under way
	perhaps []version // what commits that failed were to commit
}

// free is the first place that neither the committed state nor a new page has, and how many there are.
func (w *walk) free() (first, many int) {
	first = -1
	for n := w.sectors - 1; n >= 2; n-- {
		_, old := w.last.pages[n]
		_, now := w.next.pages[n]
		if !old && !now {
			first, many = n, many+1
		}
	}
	return first, many
}

func (w *walk) add(t *testing.T) {
	kind, data := 1+w.r.Intn(4), strings.Repeat(string(rune('a'+w.r.Intn(26))), w.r.Intn(api.PageBytes+1))
	n, _ := w.free()
	if n < 0 {
		refusesAdd(t, w.p, kind, data, api.ErrFull)
		return
	}
	adds(t, w.p, kind, data, n)
	w.next.pages[n] = api.Page{Kind: kind, Number: n, Gen: w.last.state.Gen + 1, Data: data}
}

func (w *walk) drop() {
	n := w.r.Intn(w.sectors+2) - 1
	w.p.Drop(n)
	delete(w.next.pages, n)
}

func (w *walk) read(t *testing.T) {
	for n, want := range w.next.pages {
		got, e := w.p.Read(n, 1, 2, 3, 4)
		if e == api.OK && got != want || e != api.OK && e != api.ErrPower {
			t.Fatalf("Read(%d) = %v, %d; not %v", n, got, e, want)
		}
	}
}

func (w *walk) undo() {
	w.p.Undo()
	w.next = w.last.copied()
}

func (w *walk) commit(t *testing.T) {
	root := w.r.Intn(w.sectors+1) - 1
	w.next.state = api.Super{Gen: w.last.state.Gen + 1, Root: root}
	if e := w.p.Commit(root); e != api.OK {
		if e != api.ErrPower {
			t.Fatalf("Commit(%d) = %d", root, e)
		}
		w.perhaps = append(w.perhaps, w.next.copied())
		return
	}
	w.last, w.next, w.perhaps = w.next, w.next.copied(), nil
}

// again opens the disk: it says what was committed, or what perhaps was, whole.
func (w *walk) again(t *testing.T) {
	var p *Pager
	e := api.ErrPower
	for e == api.ErrPower {
		w.d.Up()
		p, e = Open(w.d)
	}
	if e != api.OK {
		t.Fatalf("Open() = %d", e)
	}
	for _, v := range append(w.perhaps, w.last) {
		if v.state == p.State() && whole(w.d, p, v) {
			for n := range v.pages {
				p.Mark(n)
			}
			w.p, w.last, w.next, w.perhaps = p, v, v.copied(), nil
			return
		}
	}
	t.Fatalf("state %v is none of these, or isn't whole", p.State())
}

// whole tells whether the pages of a version say what they said.
func whole(d *disk.Disk, p *Pager, v version) bool {
	for n, want := range v.pages {
		got, e := p.Read(n, 1, 2, 3, 4)
		for e == api.ErrPower {
			d.Up()
			got, e = p.Read(n, 1, 2, 3, 4)
		}
		if e != api.OK || got != want {
			return false
		}
	}
	return true
}

func (w *walk) step(t *testing.T) {
	switch w.r.Intn(12) {
	case 0, 1, 2:
		w.add(t)
	case 3, 4, 5:
		w.drop()
	case 6:
		w.read(t)
	case 7:
		w.undo()
	case 8, 9:
		w.commit(t)
	case 10:
		w.d.Up()
	case 11:
		if w.d.Dead() {
			w.again(t)
		}
	}
	_, many := w.free()
	is(t, w.p, w.last.state.Gen, w.last.state.Root, many)
}

// 8.1, 8.2, Words: at random, with power that fails at random.
func TestWalks(t *testing.T) {
	for seed := range int64(300) {
		r := rand.New(rand.NewSource(seed))
		var cuts []api.Cut
		for range 40 {
			c := api.Cut{At: r.Intn(12)}
			for range r.Intn(12) {
				c.Fates = append(c.Fates, r.Intn(3))
			}
			cuts = append(cuts, c)
		}
		cuts[0].At += formatActs + openActs
		w := &walk{r: r, sectors: 3 + r.Intn(9)}
		w.d, w.p = begun(t, w.sectors, cuts...)
		w.last = version{api.Super{Gen: 1, Root: -1}, map[int]api.Page{}}
		w.next = w.last.copied()
		for range 600 {
			w.step(t)
			if t.Failed() {
				t.Fatalf("seed %d", seed)
			}
		}
		w.again(t)
	}
}
