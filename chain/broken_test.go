package chain

import (
	"math"
	"strings"
	"testing"

	"keyway/api"
	"keyway/page"
)

var full = strings.Repeat("f", part) // what a page of a chain that is not the last one has

// Promise 12.1: ErrPage of a page that has no chain, and of one that is not there.
func TestPagesWithoutAChain(t *testing.T) {
	x := begun(t, 18)
	leaf := x.adds(api.PageLeaf, "\x00x")
	inner := x.adds(api.PageInner, "\x00x")
	state := x.adds(api.PageSuper, "\x00x")
	free := 9
	for _, at := range []int{leaf, inner, state, free, 0, 1, 19, 20, 21, -1, -2, api.MostSectors - 1, api.MostSectors, math.MinInt, math.MaxInt} {
		for _, n := range []int{1, part, part + 1, most} {
			x.refuses(at, n, api.ErrPage)
		}
	}
	x.commits(-1)
	for _, at := range []int{leaf, inner, state} {
		x.again(leaf, inner, state).refuses(at, 1, api.ErrPage)
	}
}

// Words: pages that are laid by hand say a chain in one form alone.
func TestForms(t *testing.T) {
	for _, c := range []struct {
		name string
		data string // of page 3; page 2 has a last part of one byte
		n    int
		err  api.Errno
	}{
		{"a last part", "\x00x", 1, api.OK},
		{"a whole last part", "\x00" + full, part, api.OK},
		{"a part ahead of the last one", "\x03" + full, part + 1, api.OK},
		{"nothing", "", 1, api.ErrPage},
		{"no number", "\x83", 1, api.ErrPage},
		{"a last one without bytes", "\x00", 1, api.ErrPage},
		{"a last one without bytes, of none", "\x00", 0, api.ErrPage},
		{"a last one of fewer bytes", "\x00xy", 3, api.ErrPage},
		{"a last one of more bytes", "\x00xy", 1, api.ErrPage},
		{"a last one of more bytes than a page has", "\x00" + full + "x", part + 1, api.ErrPage},
		{"one of fewer bytes ahead of the last one", "\x03" + full[1:], part, api.ErrPage},
		{"one of fewer bytes ahead of the last one, which lack", "\x03" + full[1:], part + 1, api.ErrPage},
		{"one of no bytes ahead of the last one", "\x03", 1, api.ErrPage},
		{"one of more bytes ahead of the last one", "\x03" + full + "f", part + 2, api.ErrPage},
		{"one of more bytes ahead of the last one, which are not asked for", "\x03" + full + "f", part + 1, api.ErrPage},
		{"a last one that is not the last one", "\x03" + full, part, api.ErrPage},
		{"a last one ahead of others", "\x00" + full, part + 1, api.ErrPage},
		{"a longer form of 0", "\x80\x00x", 1, api.ErrPage},
		{"a longer form of 3", "\x83\x00" + full, part + 1, api.ErrPage},
		{"itself", "\x04" + full, 2 * part, api.ErrPage},
		{"itself, for long", "\x04" + full, most, api.ErrPage},
		{"the state's sector 0", "\x01" + full, part + 1, api.ErrPage},
		{"the state's sector 1", "\x02" + full, part + 1, api.ErrPage},
		{"a leaf", "\x05" + full, part + 1, api.ErrPage},
		{"a free page", "\x06" + full, part + 1, api.ErrPage},
		{"the disk's last sector", "\x0a" + full, part + 1, api.ErrPage},
		{"right behind the disk", "\x0b" + full, part + 1, api.ErrPage},
		{"far behind the disk", "\xff\x7f" + full, part + 1, api.ErrPage},
		{"the greatest number", "\x80\x80\x01" + full, part + 1, api.ErrPage},
		{"above the greatest number", "\x81\x80\x01" + full, part + 1, api.ErrPage},
		{"above 64 bits", strings.Repeat("\xff", 9) + "\x7f", 1, api.ErrPage},
		{"64 bits", strings.Repeat("\xff", 9) + "\x01x", 1, api.ErrPage},
	} {
		x := begun(t, 8)
		x.adds(api.PageChain, "\x00x")
		at := x.adds(api.PageChain, c.data)
		x.adds(api.PageLeaf, "\x00x")
		t.Log(c.name)
		if c.err != api.OK {
			x.refuses(at, c.n, c.err)
			x.commits(-1)
			x.again(2, 3, 4).refuses(at, c.n, c.err)
			continue
		}
		if got, e := Get(x.p, at, c.n); e != api.OK || len(got) != c.n {
			t.Errorf("%s: Get = %d bytes, %d", c.name, len(got), e)
		}
	}
}

// R1: rings of pages end, whatever number of bytes is asked for.
func TestRings(t *testing.T) {
	for _, long := range []int{1, 2, 3, 7} {
		x := begun(t, 8)
		for at := range long { // the first one's next one is the last one
			x.adds(api.PageChain, data(api.FirstPage+(at+long-1)%long, full))
		}
		for _, n := range []int{1, part, part * (long - 1), part*long - 1, part * long, part*long + 1, 2 * part * long, 280 * part, most, math.MaxInt} {
			x.refuses(2, n, api.ErrPage)
		}
	}
}

// Words: the greatest page that may be is the next one: with its number, three bytes, a page has no room for more than 234.
func TestGreatestPage(t *testing.T) {
	const last = 1<<14 - 1
	x := begun(t, last+1-api.FirstPage)
	for n := api.FirstPage; n < last; n++ {
		x.adds(api.PageLeaf, "")
	}
	x.left(1)
	x.p.Drop(2)
	if at := x.adds(api.PageLeaf, ""); at != 2 {
		t.Fatalf("page %d", at)
	}
	if at := x.puts("x"); at != last {
		t.Fatalf("page %d, not %d", at, last)
	}
	x.p.Drop(2)
	if at := x.adds(api.PageChain, "\x80\x80\x01"+full); at != 2 {
		t.Fatalf("page %d", at)
	}
	x.says(2, full+"x", 2, last)
	x.refuses(last+1, 1, api.ErrPage)
	x.p.Drop(last - 1)
	x.p.Drop(last)
	at := x.puts(full + "y") // the first free page is the last one of the chain
	if at != last {
		t.Fatalf("page %d, not %d", at, last)
	}
	x.says(at, full+"y", last, last-1)
	if got, e := x.p.Read(at, api.PageChain); e != api.OK || got.Data != "\xff\x7f"+full {
		t.Errorf("page %d is %#v, %d", at, got, e)
	}
	x.commits(at)
	if got, e := x.d.Read(2); e != api.OK || got != page.Put(api.Page{Kind: 4, Number: 2, Gen: 2, Data: "\x80\x80\x01" + full}) {
		t.Errorf("sector 2 is %x, %d", got, e)
	}
}

// Errors of the pager: a torn page is told, whichever one of the chain it is, and Free drops none then.
func TestTornPages(t *testing.T) {
	const pages, n = 5, 1000
	const acts = formatActs + openActs + pages + 3 // with those of the commit
	for torn := range pages {
		x := begun(t, 10, api.Cut{At: acts + 1, Fates: []int{api.FateTorn}})
		s := bytesOf(n)
		at := x.puts(s)
		x.commits(-1)
		x.d.Write(2+torn, "")
		if e := x.d.Flush(); e != api.ErrPower {
			t.Fatalf("Flush = %d", e)
		}
		x.d.Up()
		y := x.again(falling(2, pages)...)
		y.refuses(at, n, api.ErrTorn)
		y.commits(-1)
		y.left(10 - pages)
		for page := range pages { // what does not come to it is as it was
			rest := s[(pages-1-page)*part:]
			if page >= torn {
				y.refuses(2+page, len(rest), api.ErrTorn)
			} else {
				y.says(2+page, rest, falling(2, page+1)...)
			}
		}
	}
}

// Errors of the pager: power that fails, at whichever page; what may not be at all is told ahead of it, and with power all is there.
func TestPowerThatFails(t *testing.T) {
	const pages, n = 5, 1000
	const acts = formatActs + openActs + pages + 3 + openActs
	for at := range pages {
		for _, do := range []func(x *bench, at int) api.Errno{
			func(x *bench, at int) api.Errno { _, e := Get(x.p, at, n); return e },
			func(x *bench, at int) api.Errno { _, e := Pages(x.p, at, n); return e },
			func(x *bench, at int) api.Errno { return Free(x.p, at, n) },
		} {
			x := begun(t, 10, api.Cut{At: acts + at})
			s := bytesOf(n)
			first := x.puts(s)
			x.commits(-1)
			y := x.again(falling(2, pages)...)
			if e := do(y, first); e != api.ErrPower {
				t.Errorf("page %d: %d", at, e)
			}
			y.refuses(first, n, api.ErrPower)
			y.refuses(first, 0, api.ErrPage)
			y.refuses(first, most+1, api.ErrPage)
			y.refuses(-1, n, api.ErrPage)
			y.refuses(1, n, api.ErrPage)
			y.refuses(api.MostSectors, n, api.ErrPage)
			y.d.Up()
			y.says(first, s, falling(2, pages)...)
			y.commits(-1) // nothing was dropped
			y.left(10 - pages)
		}
	}
}

// Where several errors apply: a next page that no disk has is told ahead of power that failed, as a first one is.
func TestNextPagesWithoutPower(t *testing.T) {
	for next, err := range map[string]api.Errno{
		"\x00": api.ErrPage, "\x01": api.ErrPage, "\x02": api.ErrPage, "\x81\x80\x01": api.ErrPage, "\x80": api.ErrPage,
		"\x04": api.ErrPower, "\x0b": api.ErrPower, "\x80\x80\x01": api.ErrPower,
	} {
		x := begun(t, 8, api.Cut{At: formatActs + openActs})
		at := x.adds(api.PageChain, next+full)
		if e := x.d.Flush(); e != api.ErrPower {
			t.Fatalf("Flush = %d", e)
		}
		t.Logf("%x", next)
		x.refuses(at, part+1, err)
	}
}
