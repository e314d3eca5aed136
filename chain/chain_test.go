package chain

import (
	"encoding/binary"
	"hash/crc32"
	"math"
	"math/rand"
	"slices"
	"strings"
	"testing"

	"keyway/api"
	"keyway/disk"
	"keyway/pager"
)

const (
	part = 234     // bytes that a page has, as the chapter says it
	most = 1 << 16 // bytes of the longest value

	formatActs = 5 // two sectors, flushed, and the state, flushed
	openActs   = 2
)

// lengths is how many bytes a chain may have: the edges of one page, of two, of what a pager has, and some between.
var lengths = []int{1, 2, 48, 49, part - 1, part, part + 1, 300, 2*part - 1, 2 * part, 2*part + 1, 1000, 10 * part, most - 1, most}

// bytesOf is so many bytes of all kinds, no two pages' parts of which are alike.
func bytesOf(n int) string {
	all := make([]byte, n)
	rand.New(rand.NewSource(int64(n))).Read(all)
	return string(all)
}

// taken is how many pages so many bytes take, reckoned by taking them away one page after the other.
func taken(n int) int {
	pages := 0
	for ; n > 0; n -= part {
		pages++
	}
	return pages
}

// bench is a pager on a disk of its own.
type bench struct {
	*testing.T
	d *disk.Disk
	p *pager.Pager
}

// begun is a pager of so many free pages.
func begun(t *testing.T, free int, cuts ...api.Cut) *bench {
	t.Helper()
	d, e := disk.New(api.FirstPage+free, cuts)
	if e != api.OK {
		t.Fatalf("disk.New(%d) = %d", api.FirstPage+free, e)
	}
	if e := pager.Format(d); e != api.OK {
		t.Fatalf("Format = %d", e)
	}
	p, e := pager.Open(d)
	if e != api.OK {
		t.Fatalf("Open = %d", e)
	}
	return &bench{T: t, d: d, p: p}
}

// again is the same disk, opened anew, whose committed pages are told.
func (x *bench) again(pages ...int) *bench {
	x.Helper()
	p, e := pager.Open(x.d)
	if e != api.OK {
		x.Fatalf("Open = %d", e)
	}
	for _, n := range pages {
		if !p.Mark(n) {
			x.Fatalf("Mark(%d) = false", n)
		}
	}
	return &bench{T: x.T, d: x.d, p: p}
}

// adds puts a page that is told there, by hand.
func (x *bench) adds(kind int, data string) int {
	x.Helper()
	n, e := x.p.Add(kind, data)
	if e != api.OK {
		x.Fatalf("Add = %d", e)
	}
	return n
}

func (x *bench) commits(root int) {
	x.Helper()
	if e := x.p.Commit(root); e != api.OK {
		x.Fatalf("Commit(%d) = %d", root, e)
	}
}

func (x *bench) puts(s string) int {
	x.Helper()
	at, e := Put(x.p, s)
	if e != api.OK {
		x.Fatalf("Put of %d bytes = %d, %d", len(s), at, e)
	}
	return at
}

// refusesPut holds that bytes aren't put.
func (x *bench) refusesPut(s string, err api.Errno) {
	x.Helper()
	if at, e := Put(x.p, s); at != 0 || e != err {
		x.Errorf("Put of %d bytes = %d, %d; not 0, %d", len(s), at, e, err)
	}
}

// says holds that bytes begin in a page, and which pages are theirs.
func (x *bench) says(at int, s string, pages ...int) {
	x.Helper()
	if got, e := Get(x.p, at, len(s)); e != api.OK || got != s {
		x.Fatalf("Get(%d, %d) = %d bytes, %d: not those that were put", at, len(s), len(got), e)
	}
	if got, e := Pages(x.p, at, len(s)); e != api.OK || !slices.Equal(got, pages) {
		x.Fatalf("Pages(%d, %d) = %v, %d; not %v", at, len(s), got, e, pages)
	}
}

// refuses holds that so many bytes don't begin in a page, and that nothing is done then.
func (x *bench) refuses(at, n int, err api.Errno) {
	x.Helper()
	left := x.p.Left()
	if got, e := Get(x.p, at, n); got != "" || e != err {
		x.Errorf("Get(%d, %d) = %d bytes, %d; not %d", at, n, len(got), e, err)
	}
	if got, e := Pages(x.p, at, n); got != nil || e != err {
		x.Errorf("Pages(%d, %d) = %v, %d; not %d", at, n, got, e, err)
	}
	if e := Free(x.p, at, n); e != err {
		x.Errorf("Free(%d, %d) = %d, not %d", at, n, e, err)
	}
	if x.p.Left() != left {
		x.Errorf("Free(%d, %d) with %d: %d are free, not %d", at, n, err, x.p.Left(), left)
	}
}

// frees lets a chain go.
func (x *bench) frees(at, n int) {
	x.Helper()
	if e := Free(x.p, at, n); e != api.OK {
		x.Fatalf("Free(%d, %d) = %d", at, n, e)
	}
}

// left holds how many pages are free.
func (x *bench) left(want int) {
	x.Helper()
	if x.p.Left() != want {
		x.Fatalf("%d are free, not %d", x.p.Left(), want)
	}
}

// falling is so many numbers down to one.
func falling(to, many int) []int {
	var list []int
	for n := to + many - 1; n >= to; n-- {
		list = append(list, n)
	}
	return list
}

// data is what a page of a chain must say, by the words of the chapter alone; next is -1 of the last one.
func data(next int, bytes string) string {
	return string(binary.AppendUvarint(nil, uint64(next+1))) + bytes
}

// sector is what a page of a chain is on the disk, by the words of the chapters alone.
func sector(n int, gen uint64, data string) string {
	body := make([]byte, 252)
	body[0] = 4
	binary.LittleEndian.PutUint32(body[1:], uint32(n))
	binary.LittleEndian.PutUint64(body[5:], gen)
	binary.LittleEndian.PutUint16(body[13:], uint16(len(data)))
	copy(body[15:], data)
	return string(binary.LittleEndian.AppendUint32(body, crc32.ChecksumIEEE(body)))
}

// The chapter's example: 300 bytes: two pages.
func TestExample(t *testing.T) {
	x := begun(t, 48)
	s := bytesOf(300)
	at := x.puts(s)
	if Need(300) != 2 || x.p.Left() != 46 {
		t.Errorf("Need(300) = %d, and %d pages were taken", Need(300), 48-x.p.Left())
	}
	x.says(at, s, 3, 2)
}

// The limits that the chapters tell stand in api.
func TestLimits(t *testing.T) {
	if api.ChainBytes != part || api.MostValue != most {
		t.Errorf("%d, %d", api.ChainBytes, api.MostValue)
	}
}

// Promise 12.1: Need(n): how many pages so many bytes take (0 of none).
func TestNeed(t *testing.T) {
	for n, pages := range map[int]int{
		math.MinInt: 0, math.MinInt + 1: 0, -part: 0, -1: 0, 0: 0,
		1: 1, 233: 1, 234: 1, 235: 2, 300: 2, 467: 2, 468: 2, 469: 3,
		most - 1: 281, most: 281, 281 * part: 281, 281*part + 1: 282,
		math.MaxInt - math.MaxInt%part:     math.MaxInt / part,
		math.MaxInt - math.MaxInt%part + 1: math.MaxInt/part + 1,
		math.MaxInt:                        math.MaxInt/part + 1,
	} {
		if got := Need(n); got != pages {
			t.Errorf("Need(%d) = %d, not %d", n, got, pages)
		}
	}
	for n := range most + 1 {
		if Need(n) != taken(n) {
			t.Fatalf("Need(%d) = %d, not %d", n, Need(n), taken(n))
		}
	}
}

// Words, promise 12.1: Put tells the first page; pages are added from the last one on; what stands in them, byte for byte.
func TestPut(t *testing.T) {
	for _, n := range lengths {
		x := begun(t, 300)
		s := bytesOf(n)
		pages := falling(2, taken(n)) // the first free page is the last one of the chain
		at := x.puts(s)
		if at != pages[0] {
			t.Fatalf("Put of %d bytes = %d, not %d", n, at, pages[0])
		}
		x.left(300 - len(pages))
		for i, page := range pages {
			next := -1
			if i+1 < len(pages) {
				next = pages[i+1]
			}
			want := api.Page{Kind: api.PageChain, Number: page, Gen: 2, Data: data(next, s[i*part:min(i*part+part, n)])}
			if got, e := x.p.Read(page, 1, 2, 3, 4); e != api.OK || got != want {
				t.Fatalf("%d bytes: page %d is %#v, %d; not %#v", n, page, got, e, want)
			}
		}
		x.says(at, s, pages...)
	}
}

// Words: the same on the disk, where the number of the next one and 1 takes a byte, and two.
func TestSectors(t *testing.T) {
	a, b := strings.Repeat("a", part), strings.Repeat("b", part)
	for _, c := range []struct {
		ahead int // pages that are taken
		s     string
		pages map[int]string
	}{
		{0, "x", map[int]string{2: "\x00x"}},
		{0, a, map[int]string{2: "\x00" + a}},
		{0, a + "x", map[int]string{3: "\x03" + a, 2: "\x00x"}},
		{0, a + b, map[int]string{3: "\x03" + a, 2: "\x00" + b}},
		{0, a + b + "\x00", map[int]string{4: "\x04" + a, 3: "\x03" + b, 2: "\x00\x00"}},
		{124, a + "x", map[int]string{127: "\x7f" + a, 126: "\x00x"}},
		{125, a + "x", map[int]string{128: "\x80\x01" + a, 127: "\x00x"}},
		{298, a + "x", map[int]string{301: "\xad\x02" + a, 300: "\x00x"}},
	} {
		x := begun(t, 305)
		for range c.ahead {
			x.adds(api.PageLeaf, "")
		}
		at := x.puts(c.s)
		x.commits(at)
		for n, says := range c.pages {
			if got, e := x.d.Read(n); e != api.OK || got != sector(n, 2, says) {
				t.Errorf("%d bytes: sector %d is %x, %d", len(c.s), n, got, e)
			}
		}
		x.left(305 - c.ahead - len(c.pages))
	}
}

// Promise 12.1: Put takes the first free pages, wherever they are; Get and Pages follow them.
func TestPutBetweenOthers(t *testing.T) {
	x := begun(t, 20)
	for range 12 {
		x.adds(api.PageLeaf, "")
	}
	for _, n := range []int{4, 9, 12, 5} {
		x.p.Drop(n)
	}
	s := bytesOf(5*part + 7)
	at := x.puts(s)
	x.says(at, s, 15, 14, 12, 9, 5, 4)
	if at != 15 {
		t.Errorf("Put = %d", at)
	}
	x.left(6)
}

// Promise 12.1: ErrInput: no bytes, or more than MostValue; nothing is done.
func TestPutOfWhatMayNotBe(t *testing.T) {
	x := begun(t, 400)
	acts := x.d.Acts()
	x.refusesPut("", api.ErrInput)
	for _, n := range []int{most + 1, most + part, 300 * part, 1 << 20} {
		x.refusesPut(strings.Repeat("x", n), api.ErrInput)
	}
	x.left(400)
	if x.d.Acts() != acts {
		t.Errorf("%d acts", x.d.Acts()-acts)
	}
	if at := x.puts(strings.Repeat("x", most)); at != 282 {
		t.Errorf("Put of MostValue = %d", at)
	}
	x = begun(t, 0) // ErrInput goes ahead of what the pager tells
	x.refusesPut("", api.ErrInput)
	x.refusesPut(strings.Repeat("x", most+1), api.ErrInput)
	x.refusesPut("x", api.ErrFull)
}

// Promise 12.1: where there are not pages enough, that is told; pages that were taken stay taken until Undo.
func TestPutWithoutRoom(t *testing.T) {
	for _, n := range lengths {
		pages := taken(n)
		for _, free := range []int{0, pages / 2, pages - 1} {
			x := begun(t, free)
			x.refusesPut(bytesOf(n), api.ErrFull)
			x.left(0)
			x.p.Undo()
			x.left(free)
			if free > 0 {
				s := bytesOf(free * part)
				x.says(x.puts(s), s, falling(2, free)...)
			}
		}
		x := begun(t, pages)
		at := x.puts(bytesOf(n))
		x.left(0)
		x.says(at, bytesOf(n), falling(2, pages)...)
		x.refusesPut("x", api.ErrFull)
		x.says(at, bytesOf(n), falling(2, pages)...)
	}
}

// Promise 12.1: another number of bytes than were put is ErrPage, of Get, Pages and Free.
func TestOtherLengths(t *testing.T) {
	for _, n := range lengths {
		x := begun(t, 300)
		s := bytesOf(n)
		at := x.puts(s)
		for _, other := range []int{
			math.MinInt, -n, -1, 0, 1, n - part, n - 2, n - 1, n + 1, n + 2, n + part, 2 * n, part, 2 * part, part * taken(n),
			most, most + 1, most + part, math.MaxInt - 1, math.MaxInt,
		} {
			if other != n {
				x.refuses(at, other, api.ErrPage)
			}
		}
		x.says(at, s, falling(2, taken(n))...)
	}
	x := begun(t, 20)
	at := x.puts(bytesOf(1000))
	for other := -10; other < 3000; other++ {
		if other != 1000 {
			x.refuses(at, other, api.ErrPage)
		}
	}
}

// Words: what begins in a page of a chain that is not its first one is the rest.
func TestRests(t *testing.T) {
	x := begun(t, 20)
	s := bytesOf(1000)
	x.puts(s)
	pages := falling(2, 5)
	for i, at := range pages {
		x.says(at, s[i*part:], pages[i:]...)
		if i > 0 {
			x.refuses(at, 1000, api.ErrPage)
		}
	}
}

// Promise 12.1: a chain is the same when it is committed, opened anew, and read from the disk.
func TestCommitted(t *testing.T) {
	for _, n := range lengths {
		x := begun(t, 300)
		s, pages := bytesOf(n), falling(2, taken(n))
		at := x.puts(s)
		x.commits(at)
		x.says(at, s, pages...)
		x.refuses(at, n+1, api.ErrPage)
		y := x.again(pages...)
		y.says(at, s, pages...)
		y.refuses(at, n-1, api.ErrPage)
		y.left(300 - len(pages))
	}
}

// Promise 12.1: Free drops new pages at once: all of them are free again, and have no chain.
func TestFreeOfNew(t *testing.T) {
	for _, n := range lengths {
		x := begun(t, 300)
		kept := x.puts("kept")
		s := bytesOf(n)
		at := x.puts(s)
		x.left(299 - taken(n))
		x.frees(at, n)
		x.left(299)
		x.refuses(at, n, api.ErrPage)
		x.says(kept, "kept", 2)
		if again := x.puts(s); again != at {
			t.Errorf("%d bytes: Put = %d, not %d again", n, again, at)
		}
		x.says(at, s, falling(3, taken(n))...)
	}
}

// Promise 12.1: Free drops committed pages: free again with the next commit, and not with Undo.
func TestFreeOfCommitted(t *testing.T) {
	for _, n := range lengths {
		x := begun(t, 300)
		s, pages := bytesOf(n), falling(2, taken(n))
		at := x.puts(s)
		x.commits(-1)
		free := 300 - len(pages)
		x.frees(at, n)
		x.left(free)
		x.says(at, s, pages...)
		x.p.Undo()
		x.commits(-1)
		x.left(free)
		x.frees(at, n)
		x.commits(-1)
		x.left(300)
		if again := x.puts(bytesOf(n)); again != at {
			t.Errorf("%d bytes: Put = %d, not %d again", n, again, at)
		}
	}
}

// Promise 12.1: what is not committed is not there behind Undo.
func TestUndo(t *testing.T) {
	x := begun(t, 9)
	at := x.puts(bytesOf(300))
	x.p.Undo()
	x.left(9)
	x.refuses(at, 300, api.ErrPage)
}

// Get, Pages and a Put write nothing on the disk, and new pages are not read from it; each committed page is read once.
func TestActs(t *testing.T) {
	x := begun(t, 300)
	acts := x.d.Acts()
	s := bytesOf(1000)
	at := x.puts(s)
	x.says(at, s, falling(2, 5)...)
	if x.d.Acts() != acts {
		t.Errorf("new pages: %d acts", x.d.Acts()-acts)
	}
	x.commits(at)
	y := x.again(falling(2, 5)...)
	acts = y.d.Acts()
	y.says(at, s, falling(2, 5)...)
	y.frees(at, 1000)
	if y.d.Acts() != acts+5 {
		t.Errorf("committed pages: %d acts, not 5", y.d.Acts()-acts)
	}
	y = x.again(falling(2, 5)...)
	acts = y.d.Acts()
	y.refuses(at, 0, api.ErrPage)
	y.refuses(at, most+1, api.ErrPage)
	if y.d.Acts() != acts {
		t.Errorf("bytes that may not be: %d acts", y.d.Acts()-acts)
	}
}

// R2: what is answered is the caller's own.
func TestOwn(t *testing.T) {
	x := begun(t, 9)
	s := bytesOf(1000)
	at := x.puts(s)
	pages, _ := Pages(x.p, at, 1000)
	clear(pages)
	x.says(at, s, 6, 5, 4, 3, 2)
	got, _ := Get(x.p, at, 1000)
	x.frees(at, 1000)
	x.puts(strings.Repeat("y", 1000))
	if got != s {
		t.Error("the bytes that were got are others now")
	}
}

// A nil pager is told as the pager does, and one that nobody opened.
func TestNil(t *testing.T) {
	x := &bench{T: t}
	x.refusesPut("", api.ErrInput)
	x.refusesPut("x", api.ErrInput)
	x.refusesPut(strings.Repeat("x", most+1), api.ErrInput)
	for _, at := range []int{math.MinInt, -1, 0, 2, math.MaxInt} {
		for _, n := range []int{math.MinInt, -1, 0, 1, 300, most + 1, math.MaxInt} {
			x.refuses(at, n, api.ErrInput)
		}
	}
	x.p = &pager.Pager{}
	x.refusesPut("", api.ErrInput)
	x.refusesPut("x", api.ErrFull)
	x.refuses(2, 300, api.ErrPower)
	x.refuses(2, 0, api.ErrPage)
}

// kept is a chain that must be there.
type kept struct {
	at    int
	s     string
	pages []int
}

// walk is chains at random on one pager, and which must be there.
type walk struct {
	*bench
	r    *rand.Rand
	now  []kept
	then []kept // those that are committed
}

// free is the free pages, as they are reckoned here, rising: those of no chain of now, and of no committed one.
func (w *walk) free() []int {
	used := map[int]struct{}{}
	for _, k := range slices.Concat(w.now, w.then) {
		for _, n := range k.pages {
			used[n] = struct{}{}
		}
	}
	var free []int
	for n := api.FirstPage; n < w.d.Sectors(); n++ {
		if _, is := used[n]; !is {
			free = append(free, n)
		}
	}
	return free
}

func (w *walk) put() {
	w.Helper()
	s := bytesOf(1 + w.r.Intn(8*part))
	free := w.free()
	if len(free) < taken(len(s)) {
		w.refusesPut(s, api.ErrFull)
		w.p.Undo() // what it took
		w.now = slices.Clone(w.then)
		return
	}
	pages := slices.Clone(free[:taken(len(s))])
	slices.Reverse(pages)
	at := w.puts(s)
	if at != pages[0] {
		w.Fatalf("Put = %d, not %d", at, pages[0])
	}
	w.now = append(w.now, kept{at, s, pages})
}

func (w *walk) drop() {
	w.Helper()
	if len(w.now) == 0 {
		return
	}
	i := w.r.Intn(len(w.now))
	w.frees(w.now[i].at, len(w.now[i].s))
	w.now = slices.Delete(slices.Clone(w.now), i, i+1)
}

func (w *walk) step() {
	w.Helper()
	switch w.r.Intn(10) {
	case 0, 1, 2, 3:
		w.put()
	case 4, 5, 6:
		w.drop()
	case 7:
		w.commits(-1)
		w.then = slices.Clone(w.now)
	case 8:
		w.p.Undo()
		w.now = slices.Clone(w.then)
	case 9: // the power is there, but all that is not committed is forgotten
		var pages []int
		for _, k := range w.then {
			pages = append(pages, k.pages...)
		}
		w.bench = w.again(pages...)
		w.now = slices.Clone(w.then)
	}
}

// Promise 12.1, at random: chains beside chains.
func TestWalks(t *testing.T) {
	for seed := range int64(60) {
		r := rand.New(rand.NewSource(seed))
		w := &walk{bench: begun(t, 1+r.Intn(60)), r: r}
		for range 150 {
			w.step()
			w.left(len(w.free()))
			for _, k := range w.now {
				w.says(k.at, k.s, k.pages...)
			}
		}
	}
}
